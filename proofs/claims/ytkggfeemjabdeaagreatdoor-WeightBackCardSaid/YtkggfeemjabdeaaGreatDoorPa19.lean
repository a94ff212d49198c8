/- Contract of divide. Contract of divide by a number of two words or more. Contracts of isOne and over. -/
import Derived.Deep.RegionWith
import Derived.Test.YtkggfeemjabdeaaGreatDoorPa0
import Derived.Test.YtkggfeemjabdeaaGreatDoorPa4
import Derived.Test.YtkggfeemjabdeaaGreatDoorPa18
section
namespace Go.Proofs.YtkggfeemjabdeaaGreatDoor
open Go.RowKit

/-- Where a result lies: in new memory, or where an argument does. -/
def Src (w : World) (us : List Value) (v : Value) : Prop := ∀ b, v.ownBlock = some b → w.heap.size ≤ b ∨ ∃ u ∈ us, u.ownBlock = some b
/-- A call returns a natural number, in new memory or in an argument's. -/
def RetNatS (us : List Value) (x : Nat) (w : World) (e : Ending) (w' : World) : Prop := ∃ v, e = .returned v ∧ NatV w' v x ∧ Below w.heap.size w w' ∧ Src w us v
/-- A call returns two natural numbers. -/
def RetNat2 (us : List Value) (x y : Nat) (w : World) (e : Ending) (w' : World) : Prop := ∃ v v', e = .returned (.tuple #[v, v']) ∧ NatV w' v x ∧ NatV w' v' y ∧ Below w.heap.size w w' ∧ Src w us v ∧ Src w us v'

/-- A call returns two natural numbers, the second one in memory of its own. -/
def RetDiv (x y : Nat) (w : World) (e : Ending) (w' : World) : Prop := ∃ v v', e = .returned (.tuple #[v, v']) ∧ NatV w' v x ∧ NatOwn w' w.heap.size v' y ∧ Below w.heap.size w w' ∧ ∀ b, v.ownBlock = some b → w.heap.size ≤ b

theorem RetDiv.two {x y : Nat} {w w' : World} {e : Ending} (h : RetDiv x y w e w') (us : List Value) : RetNat2 us x y w e w' := by
  obtain ⟨v, v', h1, h2, h3, h4, h5⟩ := h
  refine ⟨v, v', h1, h2, h3.natV, h4, fun b hb => .inl (h5 b hb), fun b hb => .inl ?_⟩
  obtain ⟨n, f, k1, -, -⟩ := h3
  rcases k1 with ⟨rfl, -⟩ | ⟨g, off, cap, rfl, -, -, k3, -⟩
  · cases hb
  · cases hb; exact k3

theorem natV_zero (w : World) : NatV w (.slice none 0 0) 0 := ⟨0, fun _ => 0, .inl ⟨rfl, rfl⟩, ⟨fun _ h => by omega, .inl rfl⟩, rfl⟩

set_option maxHeartbeats 400000 in
theorem divide_less (v v' : Value) (x y : Nat) (w : World) (h : NatV w v x) (h' : NatV w v' y) (hlt : x < y) :
    Calls Tryz.prog 40 #[v, v'] w (RetNat2 [v, v'] 0 x w) := by
  have H := Lib.hid h; have H' := Lib.hid h'; clear h h'
  go_enter Tryz.func40, Tryz.ntmps40
  go_wp2_with fail
  refine (compare_any v v' x y w H.out H'.out).mono ?_
  rintro e w' ⟨rfl, q, rfl⟩
  rw [cmpN_lt hlt]
  go_wp2_with fail
  go_ret2
  exact ⟨_, _, rfl, natV_zero _, H.out.below (below_draws w q), below_draws w q, (fun b hb => by cases hb), fun b hb => .inr ⟨v, List.mem_cons_self, hb⟩⟩

/-- A new row of at least one word. -/
def RetRow (n : Nat) (f : Nat → Nat) (w : World) (e : Ending) (w' : World) : Prop :=
  ∃ b off cap, e = .returned (.slice (some ⟨b, off, none⟩) n cap) ∧ n ≤ cap ∧ cap ≤ maxLen ∧ w.heap.size ≤ b ∧ b < w'.heap.size ∧ (∀ i, i < n → w'.cell? ⟨b, off + i, none⟩ = some (.int .u64 (f i))) ∧ (∀ i, i < n → w'.frozen? ⟨b, off + i, none⟩ = false) ∧ Below w.heap.size w w'

theorem clone_row (v : Value) (n : Nat) (f : Nat → Nat) (w : World) (h0 : 0 < n) (hn : n ≤ 1000000) (h : Row w .u64 v n f) :
    Calls Tryz.prog 83 #[v] w (RetRow n f w) := by
  refine (clone_any v n f w hn h).mono ?_
  rintro e w' ⟨u, rfl, hu, hb⟩
  rcases hu with ⟨_, h1⟩ | ⟨b, off, cap, rfl, h1, h2, h3, h4, h5, _, h6⟩
  · omega
  · exact ⟨b, off, cap, rfl, h1, h2, h3, h4, h5, fun i hi => h6 i (by omega), hb⟩

set_option maxRecDepth 100000 in
set_option maxHeartbeats 1000000 in
theorem divide_one (n : Nat) (a : Option Addr) (cap : Nat) (f g : Nat → Nat) (w : World) (hn : n ≤ 200) (h : Row w .u64 (.slice a n cap) n f) (hf : Nrm f n) (b' off' cap' : Nat) (hg : w.cell? ⟨b', off', none⟩ = some (.int .u64 (g 0))) (lg : g 0 < R64) (h0 : 0 < g 0)
    (hge : ¬ val f n < g 0) (hN : NatV w (.slice (some ⟨b', off', none⟩) 1 cap') (g 0)) :
    Calls Tryz.prog 40 #[.slice a n cap, .slice (some ⟨b', off', none⟩) 1 cap'] w (RetDiv (val f n / g 0) (val f n % g 0) w) := by
  have H := Lib.hid h; have HF := Lib.hid hf; have HN := Lib.hid hN; clear h hf hN
  have hc : ¬ (cmpN (val f n) (g 0) < 0) := by unfold cmpN; rw [if_neg hge]; split <;> omega
  go_enter Tryz.func40, Tryz.ntmps40
  go_wp2_with fail
  refine (compare_any _ _ (val f n) (g 0) w ⟨n, f, H.out, HF.out, rfl⟩ HN.out).mono ?_
  rintro e w' ⟨rfl, q, rfl⟩
  go_wp2_with fail
  have hn0 : 0 < n := by
    rcases Nat.eq_zero_or_pos n with h1 | h1
    · subst h1; exfalso; exact hge (by show 0 < g 0; exact h0)
    · exact h1
  have lf := HF.out.lim
  have LF := Lib.hid lf; clear lf
  go_region_with (first | (go_at_call 83; refine (clone_row _ n f _ hn0 (by omega) (by exact H.out.drewN _)).mono ?_; rintro e w1 ⟨b1, off1, cap1, rfl, k1, k2, k3, k4, k5, k6, hb1⟩; have hg1 := cell_later hb1 hg; have K5 := Lib.hid k5; have K6 := Lib.hid k6; have HB1 := Lib.hid hb1; clear k5 k6 hb1) | (go_at_call 84; refine (shrink_core n (g 0) f _ _ _ k1 k2 _ (by exact K5.out) (by exact K6.out) LF.out lg h0).mono ?_; rintro e w2 ⟨k, r, h, rfl, hr, hk, hh, hc, hv, hw⟩; have HR := Lib.hid hr; have HH := Lib.hid hh; have HC := Lib.hid hc; have HV := Lib.hid hv; clear hr hh hc hv))
  all_goals
    have hrl : r < R64 := by rw [HR.out]; exact Nat.lt_trans (Nat.mod_lt _ h0) lg
    go_wp2_with fail
    refine (ofWord_own r hrl _).mono ?_
    rintro e w3 ⟨u3, rfl, hu3, hb3⟩
    have HU3 := Lib.hid hu3; have HB3 := Lib.hid hb3; clear hu3 hb3
    go_wp2_with fail
    go_ret2
    refine ⟨_, _, rfl, NatV.below (w := w2) ⟨k, h, .inr ⟨b1, off1, cap1, rfl, by omega, k2, Nat.lt_of_lt_of_le k4 hw.grown.size, fun i hi => HC.out i (by omega)⟩, HH.out, HV.out⟩ HB3.out, by rw [← HR.out]; exact NatOwn.mono HU3.out (Nat.le_trans HB1.out.size hw.grown.size), ?_, fun b hb => by cases hb; exact k3⟩
    exact (show Below w.heap.size w w1 from ((below_draws w _).trans HB1.out)).trans ((hw.below k3 HB1.out.size).trans (HB3.out.mono (Nat.le_trans HB1.out.size hw.grown.size)))
end Go.Proofs.YtkggfeemjabdeaaGreatDoor
end
section
namespace Go.Proofs.YtkggfeemjabdeaaGreatDoor
open Go.RowKit

/-- the words of a number that was shifted until its highest bit is 1. -/
theorem shl_top {g p : Nat → Nat} {k s : Nat} (hs64 : s < 64) (lg : ∀ i, i < k + 1 → g i < R64) (h1 : g k * 2 ^ s < R64) (h0 : 0 < g k) (hp : val p (k + 2) = val g (k + 1) * 2 ^ s) (lp : ∀ i, i < k + 2 → p i < R64) : tl p (k + 2) = k + 1 := by
  have a1 := val_lt (f := g) (n := k) fun i hi => lg i (by omega)
  have a2 : val g (k + 1) = val g k + g k * R64 ^ k := rfl
  have hs := Nat.two_pow_pos s
  have a3 : val g (k + 1) * 2 ^ s < R64 ^ (k + 1) := by
    have a4 : val g (k + 1) < (g k + 1) * R64 ^ k := by rw [a2, Nat.add_mul, Nat.one_mul]; omega
    have a5 : val g (k + 1) * 2 ^ s < (g k + 1) * R64 ^ k * 2 ^ s := Nat.mul_lt_mul_of_pos_right a4 hs
    have a6 : (g k + 1) * R64 ^ k * 2 ^ s = (g k * 2 ^ s + 2 ^ s) * R64 ^ k := by rw [← Nat.succ_eq_add_one, Nat.succ_mul, Nat.add_mul, Nat.add_mul, Nat.mul_right_comm, Nat.mul_comm (R64 ^ k)]
    have a7 : g k * 2 ^ s + 2 ^ s ≤ R64 := by
      rw [R64_split (Nat.le_of_lt hs64), Nat.mul_comm (2 ^ s)] at h1 ⊢
      have := Nat.lt_of_mul_lt_mul_right h1
      rw [← Nat.succ_mul]
      exact Nat.mul_le_mul_right _ this
    have a8 : (g k * 2 ^ s + 2 ^ s) * R64 ^ k ≤ R64 * R64 ^ k := Nat.mul_le_mul_right _ a7
    rw [pow_succ_R]; omega
  have b1 := val_tl p (k + 2)
  have b2 := tl_nrm lp
  rw [hp] at b1
  have b3 := b2.len_le (k := k + 1) (by rw [b1]; exact a3)
  rcases Nat.lt_or_ge (tl p (k + 2)) (k + 1) with b4 | b4
  · exfalso
    have b5 := val_lt b2.lim
    rw [b1] at b5
    have b6 := pow_le_pow (show tl p (k + 2) ≤ k by omega)
    have b7 : 1 * R64 ^ k ≤ g k * R64 ^ k := Nat.mul_le_mul_right _ h0
    have b8 : val g (k + 1) * 1 ≤ val g (k + 1) * 2 ^ s := Nat.mul_le_mul_left _ hs
    omega
  · omega

set_option maxRecDepth 100000 in
set_option maxHeartbeats 1000000 in
theorem divide_long (n t k b off cap b' off' cap' : Nat) (f g : Nat → Nat) (w : World) (hn : n ≤ 200) (hkn : n = t + (k + 2)) (h : Row w .u64 (.slice (some ⟨b, off, none⟩) n cap) n f) (hf : Nrm f n)
    (h' : Row w .u64 (.slice (some ⟨b', off', none⟩) (k + 2) cap') (k + 2) g) (hg : Nrm g (k + 2)) (cf : ∀ i, i < n → w.cell? ⟨b, off + i, none⟩ = some (.int .u64 (f i))) (cg : ∀ i, i < k + 2 → w.cell? ⟨b', off' + i, none⟩ = some (.int .u64 (g i)))
    (hge : ¬ val f n < val g (k + 2)) :
    Calls Tryz.prog 40 #[.slice (some ⟨b, off, none⟩) n cap, .slice (some ⟨b', off', none⟩) (k + 2) cap'] w (RetDiv (val f n / val g (k + 2)) (val f n % val g (k + 2)) w) := by
  subst hkn
  have H := Lib.hid h; have HF := Lib.hid hf; have H' := Lib.hid h'; have HG := Lib.hid hg; have CF := Lib.hid cf; have CG := Lib.hid cg
  clear h hf h' hg cf cg
  have hc : ¬ (cmpN (val f (t + (k + 2))) (val g (k + 2)) < 0) := by unfold cmpN; rw [if_neg hge]; split <;> omega
  have hc' : ¬ (((k + 2 : Nat) : Int) == 1) = true := by simp; omega
  have ctop := CG.out (k + 1) (by omega)
  have ltop := HG.out.lim (k + 1) (by omega)
  have ptop : 0 < g (k + 1) := by
    rcases HG.out.top with h1 | h1
    · omega
    · exact Nat.pos_of_ne_zero h1
  obtain ⟨s, hs, s64, a1, a2⟩ := lead_spec ltop ptop
  have HS := Lib.hid hs; have A1 := Lib.hid a1; clear hs a1 a2
  go_enter Tryz.func40, Tryz.ntmps40
  go_wp2_with fail
  refine (compare_any _ _ (val f (t + (k + 2))) (val g (k + 2)) w ⟨t + (k + 2), f, H.out, HF.out, rfl⟩ ⟨k + 2, g, H'.out, HG.out, rfl⟩).mono ?_
  rintro e w' ⟨rfl, q, rfl⟩
  go_wp2_with fail
  refine (Tryz.bits_LeadingZeros64 (g (k + 1) : Int) _ (by omega) (by rw [R64_eq] at ltop; omega)).mono ?_
  rintro e w' ⟨rfl, rfl⟩
  rw [HS.out]
  go_wp2_with fail
  refine (shiftLeft_core (k + 2) s b' off' cap' g _ (by omega) s64 (by exact CG.out) HG.out.lim).mono ?_
  rintro e w1 ⟨p, rfl, hp, lp, hv, hb⟩
  have HP := Lib.hid hp; have LP := Lib.hid lp; have HV := Lib.hid hv
  have HB : Hid (Below w.heap.size w w1) := Lib.hid ((below_draws w q).trans hb)
  have hD0 : (w.drewN q).heap.size = w.heap.size := rfl
  rw [hD0] at HP
  clear hp lp hv hb hD0
  have bnum : Hid (w1.heap.size ≥ w.heap.size + 1) := Lib.hid HP.out.lt
  go_wp2_with fail
  refine (trim_some (k + 2 + 1) p w.heap.size 0 (k + 2 + 1) (Nat.le_refl _) (by unfold maxLen; omega) w1 (fun i hi => by rw [Nat.zero_add]; exact HP.out.cell hi)).mono ?_
  rintro e w' ⟨rfl, rfl⟩
  have etl := shl_top s64 HG.out.lim A1.out ptop HV.out LP.out
  have htop := tl_top p (k + 2 + 1)
  have hvp := val_tl p (k + 2 + 1)
  rw [etl] at htop hvp
  have HTOP : Hid (0 < p (k + 1)) := Lib.hid (by
    rcases htop with h1 | h1
    · omega
    · exact Nat.pos_of_ne_zero h1)
  have HVP : Hid (val p (k + 2) = val g (k + 2) * 2 ^ s) := Lib.hid (hvp.trans HV.out)
  rw [etl]
  clear etl htop hvp
  go_wp2_with fail
  refine (shiftLeft_core (t + (k + 2)) s b off cap f w1 hn s64 (fun i hi => cell_later HB.out (CF.out i hi)) HF.out.lim).mono ?_
  rintro e w2 ⟨l, rfl, hl, ll, hlv, hb2⟩
  have HL := Lib.hid hl; have LL := Lib.hid ll; have HLV := Lib.hid hlv; have HB2 := Lib.hid hb2
  clear hl ll hlv hb2
  have hmk := fun (W : World) => run_make_row' (P := Tryz.prog) 60 78 (.int .u64 0) 8 Tryz.underlying60 infoW rfl .i64 .i64 (t + 1) (by omega) (by omega) W
  rw [show ((t + 1 : Nat) : Int) = (t : Int) + 1 from by omega] at hmk
  have hlen : ((t + (k + 2) : Nat) : Int) - ((k : Int) + 2) = (t : Int) := by omega
  have NE : Hid (w1.heap.size < w2.heap.size) := Lib.hid HL.out.lt
  go_wp2_with fail
  go_loopw [10] (fun iv wr => ∃ (i : Nat) (a q : Nat → Nat), i ≤ t + 1 ∧ iv = .int .i64 ((i : Int) - 1) ∧ (∀ j, j < t + (k + 2) + 1 → a j < R64) ∧ (∀ j, j < t + (k + 2) + 1 → wr.cell? ⟨w1.heap.size, j, none⟩ = some (.int .u64 (a j))) ∧ (∀ j, wr.frozen? ⟨w1.heap.size, j, none⟩ = false) ∧
      wr.rowIs w2.heap.size 78 (t + 1) (fun j => .int .u64 (q j)) ∧ (∀ j, j < t + 1 → q j < R64) ∧ wr.rowIs w.heap.size 78 (k + 2 + 1) (fun j => .int .u64 (p j)) ∧
      Long (val f (t + (k + 2)) * 2 ^ s) (val g (k + 2) * 2 ^ s) (k + 2) (t + 1) i a q ∧ Below w.heap.size w wr) (fun iv _ => (intOf iv + 1).toNat)
  case atStart =>
    have hb3 : Below w2.heap.size w2 (w2.alloc (.cells (madeCells #[.int .u64 0] (t + 1)) 78)) := (Below.refl _ _).alloc (Nat.le_refl _) _
    refine ⟨t + 1, cutf l (t + (k + 2) + 1), fun _ => 0, Nat.le_refl _, by rw [show ((t + 1 : Nat) : Int) - 1 = (t : Int) from by omega], fun j _ => cutf_lim LL.out j, fun j hj => ?_, fun j => ?_, World.rowIs_made _ _ _ _, fun _ _ => R64_pos, ?_, ⟨?_, ?_, fun j hj => cutf_ge (by omega)⟩, ?_⟩
    · rw [cutf_lt hj, hb3.cell (p := ⟨w1.heap.size, j, none⟩) NE.out]; exact HL.out.cell hj
    · rw [hb3.frozen (p := ⟨w1.heap.size, j, none⟩) NE.out]; exact HL.out.frozen j
    · refine (HP.out.of_block ?_)
      have h1 := bnum.out
      have h2 := NE.out
      rw [hb3.block _ (by omega), HB2.out.block _ (by omega)]
    · rw [Nat.sub_self, val_z, Nat.mul_zero, Nat.zero_mul]
      rw [show t + 1 + (k + 2) = t + (k + 2) + 1 from by omega, val_cutf (Nat.le_refl _), HLV.out]
      rfl
    · rw [show t + 1 + (k + 2) = t + (k + 2) + 1 from by omega, val_cutf (Nat.le_refl _), HLV.out]
      have h1 := val_lt HF.out.lim
      have h2 := val_ge (f := g) (n := k + 2) (by omega) (Nat.ne_of_gt ptop)
      have h3 : R64 ^ (k + 1) * R64 ^ (t + 1) ≤ val g (k + 2) * R64 ^ (t + 1) := Nat.mul_le_mul_right _ h2
      rw [← Nat.pow_add, show k + 1 + (t + 1) = t + (k + 2) from by omega] at h3
      have h4 : val f (t + (k + 2)) < val g (k + 2) * R64 ^ (t + 1) := Nat.lt_of_lt_of_le h1 h3
      have h5 := Nat.mul_lt_mul_of_pos_right h4 (Nat.two_pow_pos s)
      rwa [Nat.mul_right_comm] at h5
    · exact HB.out.trans ((HB2.out.mono HB.out.size).trans (hb3.mono (Nat.le_trans HB.out.size HB2.out.size)))
  case round =>
    obtain ⟨i, a, q, hi, rfl, la, ca, fa, hq, lq, hpp, hlong, hb⟩ := hrel
    have LA := Lib.hid la; have CA := Lib.hid ca; have FA := Lib.hid fa; have HQ := Lib.hid hq; have LQ := Lib.hid lq; have HPP := Lib.hid hpp; have HLONG := Lib.hid hlong; have HBB := Lib.hid hb
    clear la ca fa hq lq hpp hlong hb
    cases i with
    | zero =>
      go_wp2_with fail
      refine (trim_own w2.heap.size _ (t + 1) q wr (Own.of_rowIs HQ.out (Nat.le_refl _) (by unfold maxLen; omega) (Nat.le_refl _)) LQ.out).mono ?_
      rintro e w3 ⟨⟨u2, rfl, hu2, hob2⟩, rfl⟩
      have HU2 := Lib.hid hu2.natV
      have HS2 : Hid (∀ b, u2.ownBlock = some b → w.heap.size ≤ b) := Lib.hid (fun b hb => by
        have h1 := bnum.out; have h2 := NE.out
        rw [hob2] at hb; injection hb with hb; have hb : w2.heap.size = b := hb; omega)
      clear hu2 hob2
      go_wp2_with fail
      refine (shiftRight_core (t + (k + 2) + 1) s w1.heap.size 0 _ a wr (by omega) s64 (fun j hj => by rw [Nat.zero_add]; exact CA.out j hj) LA.out).mono ?_
      rintro e w4 ⟨u3, rfl, hu3, hb3⟩
      have HU3 := Lib.hid hu3; have HB3 := Lib.hid hb3; clear hu3 hb3
      go_wp2_with fail
      go_ret2
      have d1 := HLONG.out.sum
      have d2 := HLONG.out.lt
      have e2 : (fun j => q (0 + j)) = q := funext fun j => by rw [Nat.zero_add]
      rw [Nat.pow_zero, Nat.mul_one, Nat.zero_add] at d2
      rw [Nat.pow_zero, Nat.mul_one, Nat.sub_zero, e2, Nat.zero_add] at d1
      have e3 : val a (t + (k + 2) + 1) = val a (k + 2) := by
        have := val_cutf (g := a) (k := k + 2) (n := t + (k + 2) + 1) (by omega)
        rw [← this]
        exact val_congr fun j _ => by
          by_cases hj : j < k + 2
          · rw [cutf_lt hj]
          · rw [cutf_ge (by omega)]; exact HLONG.out.zero j (by omega)
      obtain ⟨d3, d4⟩ := div_end d1 d2
      have hp2 := Nat.two_pow_pos s
      rw [Nat.mul_div_mul_right _ _ hp2] at d4
      rw [Nat.mul_mod_mul_right] at d3
      refine ⟨u2, u3, rfl, ?_, ?_, HBB.out.trans (HB3.out.mono HBB.out.size), HS2.out⟩
      · rw [d4]; exact HU2.out.below HB3.out
      · have := HU3.out
        rw [e3, ← d3, Nat.mul_div_cancel _ hp2] at this
        exact this.mono HBB.out.size
    | succ i =>
      rw [show ((i + 1 : Nat) : Int) - 1 = (i : Int) from by omega]
      go_wp2_with fail
      rw [show i + (k + 2) + 1 - i = k + 1 + 2 from by omega]
      refine (divideStep_core (k + 1) (fun j => a (i + j)) p w1.heap.size i _ w.heap.size 0 _ (by unfold maxLen; omega) wr (by have := bnum.out; omega) HPP.out.lt (fun j hj => CA.out (i + j) (by omega)) (fun j hj => by rw [Nat.zero_add]; exact HPP.out.cell (by omega)) (fun j _ => FA.out _) (fun j hj => LA.out _ (by omega)) (fun j hj => LP.out j (by omega)) HTOP.out (by rw [HVP.out]; exact HLONG.out.window)).mono ?_
      rintro e w3 ⟨x, h, rfl, hx, lh, hcc, hvh, hw⟩
      have HX := Lib.hid hx; have LH := Lib.hid lh; have HCC := Lib.hid hcc; have HVH := Lib.hid hvh; have HW := Lib.hid hw
      clear hx lh hcc hvh hw
      have hq3 := HQ.out.of_block (HW.out.grown.block _ HQ.out.lt (by have := NE.out; intro e; injection e with e; omega))
      have HQ3 := Lib.hid hq3; clear hq3
      have c1 := HQ3.out.cell (i := i) (by omega)
      have c2 := HQ3.out.frozen i
      go_wp2_with fail
      go_roundw
      case rel =>
        have n1 := bnum.out
        have n2 := NE.out
        refine ⟨i, win a h i (k + 2 + 1), upd q i x, by omega, rfl, fun j hj => ?_, fun j hj => ?_, fun j => ?_, row_set HQ3.out _ _, upd_lim LQ.out (by rw [HX.out]; exact Nat.lt_of_le_of_lt (quot_top (by rw [HVP.out]; exact HLONG.out.window)) (by have := R64_pos; omega)), ?_, ?_, ?_⟩
        · by_cases h1 : i ≤ j ∧ j < i + (k + 2 + 1)
          · obtain ⟨m, rfl⟩ : ∃ m, j = i + m := ⟨j - i, by omega⟩
            rw [win_in (by omega)]; exact LH.out m (by omega)
          · rw [show win a h i (k + 2 + 1) j = a j from if_neg h1]; exact LA.out j hj
        · rw [World.cell?_setCell_other (h := by intro e; injection e with e1; omega)]
          by_cases h1 : i ≤ j ∧ j < i + (k + 2 + 1)
          · obtain ⟨m, rfl⟩ : ∃ m, j = i + m := ⟨j - i, by omega⟩
            rw [win_in (by omega)]; exact HCC.out m (by omega)
          · rw [show win a h i (k + 2 + 1) j = a j from if_neg h1, HW.out.rest j (by omega)]; exact CA.out j hj
        · rw [World.frozen?_setCell, HW.out.froz]; exact FA.out j
        · exact (HPP.out.of_block (HW.out.grown.block _ HPP.out.lt (by intro e; injection e with e; omega))).setOther (by show w.heap.size ≠ w2.heap.size; omega) _
        · rw [HX.out, HVP.out]
          refine HLONG.out.next (by omega) ?_ (by rw [HVH.out, HVP.out]) (fun j hj => LA.out j (by omega))
          rw [← HVP.out]; exact val_lt fun j hj => LP.out j (by omega)
        · exact (HBB.out.trans (HW.out.below (by omega) (by have := HBB.out.size; omega))).setCell (by show w.heap.size ≤ w2.heap.size; omega) _
      case measure => simp [intOf]

/-- divide, where the divisor is not greater: the rest is new. -/
theorem divide_ge (v v' : Value) (x y : Nat) (w : World) (h : NatV w v x) (h' : NatV w v' y) (hx : x < Big) (h0 : 0 < y) (hge : y ≤ x) :
    Calls Tryz.prog 40 #[v, v'] w (RetDiv (x / y) (x % y) w) := by
  have hN := h'
  obtain ⟨n, f, h1, h2, rfl, h4⟩ := h.small hx
  obtain ⟨k, g, l1, l2, rfl, l4⟩ := h'.small (by omega)
  rcases l1 with ⟨rfl, rfl⟩ | ⟨b', off', cap', rfl, m1, m2, m3, m4⟩
  · exfalso; simp [val] at h0
  · have hk : k ≠ 0 := by intro e; subst e; simp [val] at h0
    have hkn : k ≤ n := by
      rcases Nat.lt_or_ge n k with h5 | h5
      · have := h2.len_lt l2 h5; omega
      · exact h5
    by_cases h5 : k = 1
    · subst h5
      have e1 : val g 1 = g 0 := by simp [val]
      obtain ⟨a, cap, rfl⟩ := h1.shape
      rw [e1] at h0 hge hN ⊢
      exact divide_one n a cap f g w h4 h1 h2 b' off' cap' (m4 0 (by omega)) (l2.lim 0 (by omega)) h0 (by omega) hN
    · obtain ⟨k, rfl⟩ : ∃ j, k = j + 2 := ⟨k - 2, by omega⟩
      obtain ⟨t, rfl⟩ : ∃ t, n = t + (k + 2) := ⟨n - (k + 2), by omega⟩
      have h1' := h1
      rcases h1' with ⟨_, h6⟩ | ⟨b, off, cap, rfl, n1, n2, n3, n4⟩
      · omega
      · exact divide_long _ t k b off cap b' off' cap' f g w h4 rfl h1 h2 (.inr ⟨b', off', cap', rfl, m1, m2, m3, m4⟩) l2 n4 m4 (by omega)

/-- divide: quotient and rest; the divisor is not 0. -/
theorem divide_any (v v' : Value) (x y : Nat) (w : World) (h : NatV w v x) (h' : NatV w v' y) (hx : x < Big) (h0 : 0 < y) :
    Calls Tryz.prog 40 #[v, v'] w (RetNat2 [v, v'] (x / y) (x % y) w) := by
  rcases Nat.lt_or_ge x y with hlt | hge
  · rw [Nat.div_eq_of_lt hlt, Nat.mod_eq_of_lt hlt]
    exact divide_less v v' x y w h h' hlt
  · exact (divide_ge v v' x y w h h' hx h0 hge).mono fun _ _ h => h.two _
end Go.Proofs.YtkggfeemjabdeaaGreatDoor
end
section
namespace Go.Proofs.YtkggfeemjabdeaaGreatDoor
open Go.RowKit

theorem isOne_any (v : Value) (x : Nat) (w : World) (h : NatV w v x) :
    Calls Tryz.prog 78 #[v] w fun e w' => e = .returned (.bool (decide (x = 1))) ∧ w = w' := by
  obtain ⟨n, f, h1, h2, rfl⟩ := h
  by_cases hn : n = 1
  · subst hn
    rcases h1 with ⟨_, h3⟩ | ⟨b, off, cap, rfl, k1, k2, k3, k4⟩
    · omega
    have c0 := k4 0 (by omega)
    rw [Nat.add_zero] at c0
    have e1 : val f 1 = f 0 := by simp [val]
    rw [e1]
    by_cases h0 : f 0 = 1
    · rw [h0] at c0 ⊢
      go_enter Tryz.func78, Tryz.ntmps78
      go_wp2
      go_ret
      exact ⟨rfl, rfl⟩
    · have hb : ((f 0 : Int) == 1) = false := beq_eq_false_iff_ne.2 (by omega)
      rw [decide_eq_false h0]
      clear e1 k4 h2
      go_enter Tryz.func78, Tryz.ntmps78
      go_wp2
      go_ret
      exact ⟨rfl, rfl⟩
  · have hx : val f n ≠ 1 := by
      rcases Nat.eq_zero_or_pos n with h0 | h0
      · subst h0; simp [val]
      · have := val_ge h0 (by rcases h2.top with h | h; omega; exact h)
        have h3 := pow_le_pow (show 1 ≤ n - 1 by omega)
        rw [Nat.pow_one] at h3
        have := R64_eq
        omega
    rw [decide_eq_false hx]
    obtain ⟨a, cap, rfl⟩ := h1.shape
    have hb : ((n : Int) == 1) = false := beq_eq_false_iff_ne.2 (by omega)
    clear h1 h2 hx
    go_enter Tryz.func78, Tryz.ntmps78
    go_wp2
    go_ret
    exact ⟨rfl, rfl⟩

set_option maxHeartbeats 400000 in
theorem over_any (v v' : Value) (x y : Nat) (w : World) (h : NatV w v x) (h' : NatV w v' y) (hx : x < Big) (h0 : 0 < y) :
    Calls Tryz.prog 69 #[v, v'] w (RetNatS [v, v'] (x / y) w) := by
  have H := Lib.hid h; have H' := Lib.hid h'; clear h h'
  by_cases hy : y = 1
  · go_enter Tryz.func69, Tryz.ntmps69
    go_wp2_with fail
    refine (isOne_any _ y w H'.out).mono ?_
    rintro e w' ⟨rfl, rfl⟩
    rw [decide_eq_true hy]
    go_wp2_with fail
    go_ret
    exact ⟨v, rfl, by rw [hy, Nat.div_one]; exact H.out, Below.refl _ _, fun b hb => .inr ⟨v, List.mem_cons_self, hb⟩⟩
  · go_enter Tryz.func69, Tryz.ntmps69
    go_wp2_with fail
    refine (isOne_any _ y w H'.out).mono ?_
    rintro e w' ⟨rfl, rfl⟩
    rw [decide_eq_false hy]
    go_wp2_with fail
    refine (divide_any v v' x y w H.out H'.out hx h0).mono ?_
    rintro e w1 ⟨u, u', rfl, hu, hu', hb, hs, hs'⟩
    have HU := Lib.hid hu; have HB := Lib.hid hb; have HS := Lib.hid hs; clear hu hu' hb hs hs'
    go_wp2_with fail
    go_ret
    exact ⟨u, rfl, HU.out, HB.out, HS.out⟩
end Go.Proofs.YtkggfeemjabdeaaGreatDoor
end
