/- Contract of digits. Contracts of bitLength and fits. -/
import Derived.Deep.LoopGhost
import Derived.Lib.ItoaNum
import Derived.Lib.TrimByte
import Derived.Maps.AppendAt
import Derived.Lib.SmallJoins
import Derived.Test.YtkggfeemjabdeaaGreatDoorShelf
import Derived.Test.YtkggfeemjabdeaaGreatDoorPa1
import Derived.Test.YtkggfeemjabdeaaGreatDoorPa18
import Derived.Test.YtkggfeemjabdeaaGreatDoorPa21
import Derived.Test.YtkggfeemjabdeaaGreatDoorPa23
section
namespace Go.Proofs.YtkggfeemjabdeaaGreatDoor
open Go.RowKit

theorem infoB : (Tryz.prog.info? 5).map (fun i => (i.zero, i.size, i.bytes)) = some (some (.int .u8 0), 1, 1) := by kernel_rfl

/-- ten to the eighteenth, behind a name. -/
def T18 : Nat := 1000000000000000000
theorem T18_eq : T18 = 10 ^ 18 := rfl

/-- the byte of digit number i. -/
def dgB (x : Nat) (i : Nat) : Nat := 48 + x / 10 ^ i % 10

theorem digit_of (x i : Nat) (h : i < 18) : x % 10 ^ 18 / 10 ^ i % 10 = x / 10 ^ i % 10 := by
  rw [show (10 : Nat) ^ 18 = 10 ^ i * 10 ^ (18 - i) from by rw [← Nat.pow_add]; congr 1; omega, Nat.mod_mul_right_div_self]
  exact Nat.mod_mod_of_dvd _ (by rw [show 18 - i = (17 - i) + 1 from by omega, Nat.pow_succ]; exact Nat.dvd_mul_left _ _)

theorem dgB_lt (X i : Nat) : dgB X i < 256 := by unfold dgB; omega
theorem dgB_of (X k i g r gi : Nat) (hg : g = X / 10 ^ (18 * k)) (hr : r = g % T18) (hgi : r / 10 ^ i = gi) (h : i < 18) : 48 + gi % 10 = dgB X (18 * k + i) := by
  unfold dgB
  rw [← hgi, hr, T18_eq, digit_of _ _ h, hg, Nat.div_div_eq_div_mul, ← Nat.pow_add]

theorem k_lt (X k : Nat) (h : 10 ^ (18 * k) ≤ X) (hX : X < Big) : k ≤ 222 := by
  have hB : Big ≤ 10 ^ (18 * 223) := Nat.le_of_ble_eq_true (by kernel_rfl)
  apply Classical.byContradiction
  intro hk
  have := Nat.pow_le_pow_right (n := 10) (by decide) (show 18 * 223 ≤ 18 * k by omega)
  omega

/-- n digits of X, greatest first. -/
def digs (X n : Nat) : List UInt8 := (List.range n).map fun j => UInt8.ofNat (dgB X (n - 1 - j))

theorem digs_succ (X n : Nat) : digs X (n + 1) = digs (X / 10) n ++ [UInt8.ofNat (48 + X % 10)] := by
  unfold digs
  rw [List.range_succ, List.map_append]
  congr 1
  · refine List.map_congr_left fun j hj => ?_
    have hj := List.mem_range.1 hj
    congr 1
    unfold dgB
    rw [show n + 1 - 1 - j = (n - 1 - j) + 1 from by omega, Nat.pow_succ', ← Nat.div_div_eq_div_mul]
  · simp [dgB]

theorem decDigits_ne (u : Nat) : Lib.decDigits u ≠ [] := by
  unfold Lib.decDigits; split <;> simp

theorem trim_digs (n : Nat) : ∀ X, X < 10 ^ n → Lib.trimLeftB (digs X n) 48 = if X = 0 then [] else Lib.decDigits X := by
  induction n with
  | zero =>
    intro X hX
    rw [if_pos (by simpa using hX)]; rfl
  | succ n ih =>
    intro X hX
    have h1 : X / 10 < 10 ^ n := by rw [Nat.pow_succ'] at hX; exact Nat.div_lt_of_lt_mul hX
    have h2 := ih _ h1
    rw [digs_succ]
    unfold Lib.trimLeftB at h2 ⊢
    rw [List.dropWhile_append, h2]
    by_cases h0 : X / 10 = 0
    · rw [if_pos h0]
      have hx : X < 10 := by omega
      rw [if_pos (show ([] : List UInt8).isEmpty = true from rfl)]
      by_cases hz : X = 0
      · subst hz; rfl
      · rw [if_neg hz]
        unfold Lib.decDigits
        rw [dif_pos hx, Nat.mod_eq_of_lt hx]
        have : (UInt8.ofNat (48 + X) == 48) = false := by
          have hh : UInt8.ofNat (48 + X) ≠ 48 := by
            intro e
            have e2 := congrArg UInt8.toNat e
            rw [UInt8.toNat_ofNat_of_lt' (by show 48 + X < 256; omega)] at e2
            have : (48 : UInt8).toNat = 48 := rfl
            omega
          simpa using hh
        generalize UInt8.ofNat (48 + X) = c at this ⊢
        simp [List.dropWhile, this]
    · rw [if_neg h0, if_neg (by simpa using decDigits_ne _), if_neg (by omega)]
      conv => rhs; unfold Lib.decDigits
      rw [dif_neg (by omega)]

theorem length_digs (X n : Nat) : (digs X n).length = n := by simp [digs]

set_option maxRecDepth 100000 in
set_option maxHeartbeats 1000000 in
theorem reverse_nil (w : World) : Calls Tryz.prog 111 #[.slice none 0 0] w fun e w' => e = .returned (.tuple #[]) ∧ w' = w := by
  go_enter Tryz.func111, Tryz.ntmps111
  go_wp2
  go_loopw [2, 3] (fun iv jv wr => iv = .int .i64 0 ∧ jv = .int .i64 (-1) ∧ wr = w) (fun _ _ _ => 0)
  case atStart => exact ⟨rfl, rfl, rfl⟩
  case round =>
    obtain ⟨rfl, rfl, rfl⟩ := hrel
    go_wp2
    go_end0
    exact ⟨rfl, rfl⟩

theorem rev_any (B : Nat) (v : Value) (n : Nat) (f : Nat → Nat) (w : World) (h : w.ownsRow B 5 1 v n (cellsOf .u8 f n)) (hB : B ≤ w.heap.size) (hf : ∀ i, f i < 256) :
    Calls Tryz.prog 111 #[v] w fun e w' => e = .returned (.tuple #[]) ∧ (convert 133 9 v).run Tryz.prog w' = .ok (.string ⟨((List.range n).map fun j => UInt8.ofNat (f (n - 1 - j))).toArray⟩) w' ∧ Below B w w' := by
  rcases Own.of_ownsRow h with ⟨rfl, rfl⟩ | ⟨b, off, cap, rfl, h1, h2, h3, h4, h5, h6, h7⟩
  · refine (reverse_nil w).mono ?_
    rintro e w' ⟨rfl, rfl⟩
    exact ⟨rfl, run_convert_bytes_string (P := Tryz.prog) w' 133 9 5 none 0 0 Tryz.underlying133 Tryz.underlying5 Tryz.underlying9, Below.refl _ _⟩
  · refine (reverse_core b off n cap f w h1 h2 h5 (fun i hi => h7 i (by omega))).mono ?_
    rintro e w' ⟨rfl, hc, hw⟩
    refine ⟨rfl, ?_, hw.below h3 hB⟩
    have hl : ((List.range n).map fun j => UInt8.ofNat (f (n - 1 - j))).length = n := by simp
    have := run_convert_bytes_back (P := Tryz.prog) w' 133 9 5 ⟨b, off, none⟩ cap ((List.range n).map fun j => UInt8.ofNat (f (n - 1 - j))) Tryz.underlying133 Tryz.underlying5 Tryz.underlying9 (fun j hj => by
      rw [hl] at hj
      rw [List.getElem_map, List.getElem_range, UInt8.toNat_ofNat_of_lt' (hf _)]
      rw [Addr.add_lit]; exact hc j hj)
    rw [hl] at this
    exact this

theorem Own.grownBy {w w' : World} {B n : Nat} {k : IntKind} {v : Value} {f : Nat → Nat} {r : Option Nat} (h : Own w B k v n f) (hg : w.grownBy w' r) (hne : v.ownBlock = none ∨ v.ownBlock ≠ r) : Own w' B k v n f := by
  rcases h with h | ⟨b, off, cap, rfl, h2, h3, h4, h5, h6, h7, h8⟩
  · exact .inl h
  · have e : w'.heap[b]? = w.heap[b]? := hg.block b h5 (by
      intro e
      rcases hne with h | h
      · cases h
      · exact h e)
    exact .inr ⟨b, off, cap, rfl, h2, h3, h4, Nat.lt_of_lt_of_le h5 hg.size, fun i hi => by rw [World.cell?_of_block (a := ⟨b, off + i, none⟩) e]; exact h6 i hi, fun i hi => by rw [World.cell?_of_block (a := ⟨b, off + i, none⟩) e]; exact h7 i hi, fun i hi => by rw [World.frozen?_of_block (a := ⟨b, off + i, none⟩) e]; exact h8 i hi⟩

theorem Own.lt {w : World} {B n : Nat} {k : IntKind} {v : Value} {f : Nat → Nat} (h : Own w B k v n f) (b : Nat) (hv : v.ownBlock = some b) : B ≤ b ∧ b < w.heap.size := by
  rcases h with ⟨rfl, _⟩ | ⟨b1, off, cap, rfl, h2, h3, h4, h5, h6⟩
  · cases hv
  · injection hv with hv; subst hv; exact ⟨h4, h5⟩

theorem wrap_div10 (x : Nat) (h : x < R64) : IntKind.u64.wrap ((x : Int) / 10) = ((x / 10 : Nat) : Int) := by
  have h2 : x / 10 < R64 := by omega
  generalize hy : x / 10 = y at *
  rw [show ((x : Int) / 10) = (y : Int) from by omega]
  exact wrap_u64 _ h2

theorem cellsOf_succ (k : IntKind) (f : Nat → Nat) (n : Nat) : cellsOf k f (n + 1) = cellsOf k f n ++ [.int k (f n)] := by simp [cellsOf, List.range_succ]

set_option maxRecDepth 100000 in
set_option maxHeartbeats 2000000 in
theorem digits_core (X : Nat) (v : Value) (w : World) (h : NatV w v X) (hX : X < Big) (ht : w.cell? ⟨0, 18, none⟩ = some (.int .u64 (T18 : Nat))) :
    Calls Tryz.prog 72 #[v] w fun e w' => e = .returned (.string ⟨(Lib.decDigits X).toArray⟩) ∧ Below w.heap.size w w' := by
  obtain ⟨n, f, h1, h2, h3, h4⟩ := h.small hX
  have H1 := Lib.hid h1; have H2 := h2; have H3 := Lib.hid h3
  clear h1 h3 h
  obtain ⟨i0, hi, hz0, hz1, hz2⟩ := info_parts infoB
  go_enter Tryz.func72, Tryz.ntmps72
  go_wp2_with fail
  refine (clone_any v n f w (by omega) H1.out).mono ?_
  rintro e w1 ⟨u, rfl, hu, hb1⟩
  have HU := Lib.hid hu; have HB1 := Lib.hid hb1; clear hu hb1
  go_wp2_with fail
  go_loopg [3, 4] X (fun g rv dv wr => ∃ (m k : Nat) (f : Nat → Nat), Own wr w.heap.size .u64 rv m f ∧ Nrm f m ∧ m ≤ 200 ∧ val f m = g ∧ g = X / 10 ^ (18 * k) ∧ k ≤ 230 ∧ wr.ownsRow w.heap.size 5 1 dv (18 * k) (cellsOf .u8 (dgB X) (18 * k)) ∧ (∀ j, rv.ownBlock = some j → dv.ownBlock ≠ some j) ∧ Below w.heap.size w wr)
  case atStart =>
    exact ⟨n, 0, f, HU.out, H2, h4, H3.out, by simp, by omega, World.ownsRow_nil _ _ _ _, fun j _ h2 => by simp [Value.ownBlock] at h2, HB1.out⟩
  case round =>
    obtain ⟨m, k, f, hO, hN, hm, hv, hg, hk, hD, hne, hb⟩ := hrel
    have HO := Lib.hid hO; have HN := Lib.hid hN; have HV := Lib.hid hv; have HG := Lib.hid hg; have HD := Lib.hid hD; have HNE := Lib.hid hne; have HB := Lib.hid hb
    clear hO hN hv hg hD hne hb
    rcases Nat.eq_zero_or_pos m with h0 | h0
    · subst h0
      obtain ⟨a, cap, rfl⟩ := HO.out.row.shape
      have hz : X / 10 ^ (18 * k) = 0 := by rw [← HG.out, ← HV.out]; rfl
      have hlt : X < 10 ^ (18 * k) := by
        rcases Nat.div_eq_zero_iff.1 hz with h | h
        · exact absurd h (Nat.pos_iff_ne_zero.1 (Nat.pow_pos (by decide)))
        · exact h
      have HT := Lib.hid (trim_digs (18 * k) X hlt)
      clear hz hlt
      go_wp2_with fail
      refine (rev_any w.heap.size _ _ _ wr HD.out HB.out.size (dgB_lt X)).mono ?_
      rintro e w3 ⟨rfl, hcv, hb3⟩
      have HB3 := Lib.hid hb3; clear hb3
      go_wp2_with fail
      refine (Tryz.strings_TrimLeft_one ⟨(digs X (18 * k)).toArray⟩ 48 (by decide) w3).mono ?_
      rintro e w4 ⟨rfl, rfl⟩
      rw [show Lib.trimLeftB (⟨(digs X (18 * k)).toArray⟩ : ByteArray).data.toList 48 = _ from HT.out]
      by_cases hX0 : X = 0
      · rw [if_pos hX0]
        subst hX0
        go_wp2_with fail
        go_ret
        rw [show Lib.decDigits 0 = [48] from by simp [Lib.decDigits]]
        exact ⟨rfl, HB.out.trans HB3.out⟩
      · rw [if_neg hX0]
        have hne0 : (⟨(Lib.decDigits X).toArray⟩ : ByteArray).toList.isEmpty = false := by
          refine nonempty_of _ ?_
          show 0 < (Lib.decDigits X).toArray.size
          have := List.length_pos_iff.2 (decDigits_ne X)
          simpa using this
        generalize hS : (⟨(Lib.decDigits X).toArray⟩ : ByteArray) = S at hne0 ⊢
        obtain ⟨em, hem⟩ : ∃ b, S.toList.isEmpty = b := ⟨_, rfl⟩
        rw [hem] at hne0
        subst hne0
        clear HT
        go_wp2_with fail
        go_ret
        exact ⟨by rw [hS]; rfl, HB.out.trans HB3.out⟩
    · have hO := HO.out
      rcases hO with ⟨_, h1⟩ | ⟨b, off, cap, rfl, l1, l2, l3, l4, l5, l6, l7⟩
      · omega
      have t18 := cell_later HB.out ht
      have HPOS : Hid (0 < gk) := Lib.hid (by
        rw [← HV.out]
        obtain ⟨m0, rfl⟩ : ∃ m0, m = m0 + 1 := ⟨m - 1, by omega⟩
        exact val_pos (Nat.pos_of_ne_zero (HN.out.top.resolve_left (by omega))))
      have L6 := Lib.hid l6
      clear l6
      have L5 := Lib.hid l5; have L7 := Lib.hid l7
      clear l5 l7
      go_wp2_with fail
      refine (shrink_core m T18 f b off cap l1 l2 wr L5.out (fun i hi => L7.out i (by omega)) HN.out.lim (by decide) (by decide)).mono ?_
      rintro e w2 ⟨m', r, h, rfl, hr, hm', hh, hc, hvv, hw⟩
      have HR := Lib.hid hr; have HH := Lib.hid hh; have HC := Lib.hid hc; have HVV := Lib.hid hvv; have HW := Lib.hid hw
      clear hr hh hc hvv hw
      have own2 : Hid (Own w2 w.heap.size .u64 (.slice (some ⟨b, off, none⟩) m' cap) m' h) := Lib.hid (.inr ⟨b, off, cap, rfl, by omega, l2, l3, Nat.lt_of_lt_of_le l4 HW.out.grown.size, fun i hi => HC.out i (by omega), fun i hi => by
        by_cases hin : i < m
        · rw [HC.out i hin]; rfl
        · rw [HW.out.rest _ (by omega)]; exact L6.out i hi, fun i hi => by rw [HW.out.froz]; exact L7.out i hi⟩)
      have row2 : Hid (w2.ownsRow w.heap.size 5 1 u4 (18 * k) (cellsOf .u8 (dgB X) (18 * k))) := Lib.hid (HD.out.kept HW.out.grown (by
        cases e : u4.ownBlock with
        | none => exact .inl rfl
        | some j => exact .inr (by rw [← e]; exact HNE.out b rfl)))
      have bel2 : Hid (Below w.heap.size w w2) := Lib.hid (HB.out.trans (HW.out.below l3 HB.out.size))
      go_wp2_with fail
      go_loopw [4, 5, 19] (fun dv gv iv wr => ∃ i : Nat, i ≤ 18 ∧ iv = .int .i64 i ∧ gv = .int .u64 (r / 10 ^ i : Nat) ∧ wr.ownsRow w.heap.size 5 1 dv (18 * k + i) (cellsOf .u8 (dgB X) (18 * k + i)) ∧ Own wr w.heap.size .u64 (.slice (some ⟨b, off, none⟩) m' cap) m' h ∧ dv.ownBlock ≠ some b ∧ Below w.heap.size w wr) (fun _ _ iv _ => 18 - (intOf iv).toNat)
      case atStart => exact ⟨0, by omega, rfl, by simp, row2.out, own2.out, HNE.out b rfl, bel2.out⟩
      case round =>
        obtain ⟨i, hi8, rfl, rfl, hd, ho, hne, hb⟩ := hrel
        have HD3 := Lib.hid hd; have HO3 := Lib.hid ho; have HB3 := Lib.hid hb
        clear hd ho hb
        generalize hGI : r / 10 ^ i = gi
        have HGI := Lib.hid hGI; clear hGI
        by_cases hlt : i < 18
        · go_wp2_with (at_builtin; go_loud (refine wpList_append_own_at _ rfl _ _ 133 rfl w.heap.size 5 i0 (.int .u8 0) 1 1 Tryz.underlying133 hi hz0 hz1 hz2 rfl (by decide) _ _ _ rfl (HD3.out.alloc _) ⟨wr.heap.size, 0, none⟩ 1 1 [.int .u8 (48 + (gi : Int) % 10)] rfl rfl (cell_one_new _ _ _) ?c2 ?c3 ?c4 ?c5 ?_))
          case c2 => intro u hu; simp at hu; subst hu; rfl
          case c3 => unfold maxLen; omega
          case c4 => omega
          case c5 => have := HB3.out.size; simp; omega
          intro v' w' hrow hg hnil hob
          have HROW := Lib.hid hrow; have HGR := Lib.hid hg; have HOB := Lib.hid hob
          clear hrow hg hnil hob
          go_wp2_with fail

          go_roundw
          case rel =>
            refine ⟨i + 1, by omega, by simp, ?_, ?_, ?_, ?_, ?_⟩
            · have hr10 : r < R64 := by rw [HR.out]; exact Nat.lt_trans (Nat.mod_lt _ (by decide)) (by decide)
              have hg2 : gi ≤ r := by rw [← HGI.out]; exact Nat.div_le_self _ _
              rw [wrap_div10 gi (by omega), ← HGI.out, Nat.div_div_eq_div_mul, ← Nat.pow_succ]
            · have := HROW.out
              rw [show cellsOf .u8 (dgB X) (18 * k + i) ++ [Value.int .u8 (48 + (gi : Int) % 10)] = cellsOf .u8 (dgB X) (18 * k + (i + 1)) from ?_] at this
              · exact this
              · rw [← Nat.add_assoc, cellsOf_succ, ← dgB_of X k i gk r gi HG.out (by rw [HR.out, HV.out]) HGI.out hlt]; rfl
            · exact Own.grownBy (HO3.out.below (Below.alloc (Below.refl _ _) (Nat.le_refl _) _)) HGR.out (.inr fun e => hne e.symm)
            · rcases HOB.out with e | e
              · rw [e]; exact hne
              · rw [e]
                intro e2; injection e2 with e2
                have hlt := HO3.out.lt b rfl
                omega
            · exact (HB3.out.alloc HB3.out.size _).grown HGR.out (by have := HB3.out.size; simp; omega) (fun j hj => (HD3.out.lt j hj).1)
          case measure => simp [intOf]; omega
        · go_wp2_with fail
          go_roundg (X / 10 ^ (18 * (k + 1)))
          case rel =>
            have hi18 : i = 18 := by omega
            subst hi18
            refine ⟨m', k + 1, h, HO3.out, HH.out, by omega, ?_, rfl, ?_, HD3.out, ?_, HB3.out⟩
            · rw [HVV.out, HV.out, HG.out, T18_eq, Nat.div_div_eq_div_mul, ← Nat.pow_add]; rfl
            · have := k_lt X k ?_ hX
              · omega
              · have hz : X / 10 ^ (18 * k) ≠ 0 := by rw [← HG.out]; exact Nat.pos_iff_ne_zero.1 HPOS.out
                apply Classical.byContradiction
                intro hn
                exact hz (Nat.div_eq_of_lt (by omega))
            · intro j hj; simp [Value.ownBlock] at hj; subst hj; exact hne
          case measure =>
            rw [show 18 * (k + 1) = 18 * k + 18 from by omega, Nat.pow_add, ← Nat.div_div_eq_div_mul, ← HG.out]
            exact Nat.div_lt_self HPOS.out (by decide)
end Go.Proofs.YtkggfeemjabdeaaGreatDoor
end
section
namespace Go.Proofs.YtkggfeemjabdeaaGreatDoor
open Go.RowKit

theorem R64_two : R64 = 2 ^ 64 := rfl

set_option maxRecDepth 100000 in
set_option maxHeartbeats 1000000 in
theorem bitLength_any (X : Nat) (v : Value) (w : World) (h : NatV w v X) (hX : X < Big) :
    Calls Tryz.prog 142 #[v] w fun e w' => (∃ L : Nat, e = .returned (.int .i64 (L : Int)) ∧ X < 2 ^ L ∧ L ≤ 12800) ∧ w' = w := by
  obtain ⟨n, f, h1, h2, h3, h4⟩ := h.small hX
  have H2 := Lib.hid h2; have H3 := Lib.hid h3
  rcases Nat.eq_zero_or_pos n with h0 | h0
  · subst h0
    obtain ⟨a, cap, rfl⟩ := h1.shape
    clear h1 h h2 h3
    go_enter Tryz.func142, Tryz.ntmps142
    go_wp2_with fail
    refine (isZero_yes _ _ _).mono ?_
    rintro e w1 ⟨rfl, rfl⟩
    go_wp2_with fail
    go_ret
    refine ⟨⟨0, rfl, ?_, by omega⟩, rfl⟩
    rw [← H3.out]; exact Nat.one_pos
  · rcases h1 with ⟨_, h1⟩ | ⟨b, off, cap, rfl, l1, l2, l3, l5⟩
    · omega
    have L5 := Lib.hid l5
    have hlim := h2.lim (n - 1) (by omega)
    have c1 := l5 (n - 1) (by omega)
    have hv : val f n = val f (n - 1) + f (n - 1) * R64 ^ (n - 1) := by
      obtain ⟨k, rfl⟩ : ∃ k, n = k + 1 := ⟨n - 1, by omega⟩
      rfl
    have hlow := val_lt (f := f) (n := n - 1) fun i hi => h2.lim i (by omega)
    have htop : f (n - 1) ≠ 0 := h2.top.resolve_left (by omega)
    clear l5 h h2 h3
    generalize hT : f (n - 1) = top at *
    have hbl : top < 2 ^ Lib.bitLen top ∧ Lib.bitLen top ≤ 64 := ⟨(Lib.bitLenAux_bounds 64 top hlim htop).2.2, Lib.bitLen_le top 64 (Nat.le_refl _) hlim⟩
    generalize hB : Lib.bitLen top = bl at hbl
    have HBL := Lib.hid hB
    have hmax : top ≤ 18446744073709551615 := by have : R64 = 18446744073709551616 := rfl; omega
    have HMAX := Lib.hid hmax; have HLIM := Lib.hid hlim; have HV := Lib.hid hv; have HLOW := Lib.hid hlow
    clear hmax hlim hv hlow hB
    have hbb := hbl.2
    have HTB := Lib.hid hbl.1; clear hbl
    unfold maxLen at l2
    go_enter Tryz.func142, Tryz.ntmps142
    go_wp2_with fail
    refine (isZero_no _ _ _ (by unfold maxLen; omega) h0 _).mono ?_
    rintro e w1 ⟨rfl, rfl⟩
    go_wp2_with fail
    refine (Tryz.bits_LeadingZeros64 (top : Int) w (by omega) (by have := HMAX.out; omega)).mono ?_
    rintro e w1 ⟨rfl, rfl⟩
    rw [Int.toNat_natCast, HBL.out]
    go_wp2_with fail
    go_ret
    refine ⟨⟨64 * (n - 1) + bl, ?_, ?_, by omega⟩, rfl⟩
    · have e : ((n : Int) * 64 - (64 - (bl : Int))) = ((64 * (n - 1) + bl : Nat) : Int) := by omega
      show Ending.returned (.int .i64 ((n : Int) * 64 - (64 - (bl : Int)))) = _
      rw [e]
    · rw [← H3.out, HV.out, Nat.pow_add, Nat.pow_mul, ← R64_two]
      have : (top + 1) * R64 ^ (n - 1) ≤ 2 ^ bl * R64 ^ (n - 1) := Nat.mul_le_mul_right _ HTB.out
      rw [Nat.add_mul] at this
      rw [Nat.mul_comm (R64 ^ (n - 1))]
      have := HLOW.out
      omega

/-- ten to the 600th, behind a name. -/
def pow10 (n : Nat) : Nat := 10 ^ n
theorem pow10_pos (n : Nat) : 0 < pow10 n := Nat.pow_pos (by decide)
theorem pow10_le {k n : Nat} (h : k ≤ n) : 10 ^ k ≤ pow10 n := Nat.pow_le_pow_right (by decide) h
theorem one_lt_pow10 {n : Nat} (h : n ≠ 0) : 1 < pow10 n := Nat.one_lt_pow h (by decide)
def T600 : Nat := pow10 600
theorem T600_bits : 2 ^ 1992 ≤ T600 := Nat.le_of_ble_eq_true (by kernel_rfl)

theorem pow_le_nDigits (u : Nat) (h : 1 ≤ u) : 10 ^ (Lib.nDigits u - 1) ≤ u := by
  induction u using Nat.strongRecOn with
  | _ u ih =>
    by_cases h1 : u < 10
    · rw [Lib.nDigits_small h1]; simpa using h
    · rw [Lib.nDigits_big h1, Nat.add_sub_cancel]
      have := ih (u / 10) (by omega) (by omega)
      have hp := Lib.nDigits_pos (u / 10)
      rw [show Lib.nDigits (u / 10) = (Lib.nDigits (u / 10) - 1) + 1 from by omega, Nat.pow_succ]
      omega

theorem nDigits_le_iff (u k : Nat) (hk : 0 < k) : Lib.nDigits u ≤ k ↔ u < 10 ^ k := by
  constructor
  · intro h
    exact Nat.lt_of_lt_of_le (Lib.lt_pow_nDigits u) (Nat.pow_le_pow_right (by decide) h)
  · intro h
    rcases Nat.eq_zero_or_pos u with h0 | h0
    · subst h0; rw [Lib.nDigits_small (by decide)]; exact hk
    · apply Classical.byContradiction
      intro hn
      have h1 := pow_le_nDigits u h0
      have h2 := Nat.pow_le_pow_right (n := 10) (by decide) (show k ≤ Lib.nDigits u - 1 by omega)
      omega

theorem nDigits_le_pow (u k : Nat) (hk : 0 < k) : Lib.nDigits u ≤ k ↔ u < pow10 k := nDigits_le_iff u k hk
theorem size_dec (X : Nat) : (⟨(Lib.decDigits X).toArray⟩ : ByteArray).size = Lib.nDigits X := by
  rw [← Lib.decDigits_length]; rfl

theorem nDigits_lt (X : Nat) (h : X < Big) : Lib.nDigits X ≤ 5000 :=
  (nDigits_le_iff X 5000 (by decide)).2 (Nat.lt_of_lt_of_le h (Nat.le_of_ble_eq_true (by kernel_rfl)))

set_option maxRecDepth 100000 in
set_option maxHeartbeats 1000000 in
theorem fits_any (X : Nat) (v : Value) (w : World) (h : NatV w v X) (hX : X < Big) (ht : w.cell? ⟨0, 18, none⟩ = some (.int .u64 (T18 : Nat))) :
    Calls Tryz.prog 117 #[v] w fun e w' => e = .returned (.bool (decide (X < T600))) ∧ Below w.heap.size w w' := by
  go_enter Tryz.func117, Tryz.ntmps117
  go_wp2_with fail
  refine (bitLength_any X v w h hX).mono ?_
  rintro e w1 ⟨⟨L, rfl, hL, hLL⟩, rfl⟩
  have HL := Lib.hid hL; clear hL
  by_cases hs : L ≤ 1992
  · go_wp2_with fail
    go_ret
    refine ⟨?_, Below.refl _ _⟩
    have : X < T600 := Nat.lt_of_lt_of_le HL.out (Nat.le_trans (Nat.pow_le_pow_right (by decide) hs) T600_bits)
    rw [decide_eq_true this]; rfl
  · go_wp2_with fail
    refine (digits_core X v w1 h hX ht).mono ?_
    rintro e w2 ⟨rfl, hb⟩
    have HB := Lib.hid hb; clear hb
    have hsz := size_dec X
    have hnd := nDigits_lt X hX
    generalize hS : (⟨(Lib.decDigits X).toArray⟩ : ByteArray) = S at *
    go_wp2_with fail
    go_ret
    refine ⟨?_, HB.out⟩
    show Ending.returned (.bool (decide ((L : Int) ≤ 1992) || decide (((Lib.nDigits X : Nat) : Int) ≤ 600))) = _
    have e : decide ((L : Int) ≤ 1992) = false := decide_eq_false (by omega)
    rw [e, Bool.false_or]
    have e2 : (((Lib.nDigits X : Nat) : Int) ≤ 600) ↔ X < T600 := by
      have k := nDigits_le_pow X 600 (by decide)
      rw [show T600 = pow10 600 from rfl, ← k]; omega
    rw [decide_eq_decide.2 e2]
end Go.Proofs.YtkggfeemjabdeaaGreatDoor
end
