/- What a slice of words reads as, and how that is kept. Contracts of isDigits, isNumber, isNat. -/
import Derived.WalkKit
import Derived.WalkSpells
import Derived.WalkLawsBesides
import Derived.Lib.Hide
import Derived.Test.YtkggfeemjabdeaaGreatDoorRows
import Derived.Test.YtkggfeemjabdeaaGreatDoorPa0
section
namespace Go.Proofs.YtkggfeemjabdeaaGreatDoor
open Go.RowKit

theorem quiet_left {P : Program} {f : FuncId} {args : Array Value} {w : World} {n : Nat} {v : Value}
    (h : Calls P f args (w.drewN n) fun e w' => e = .returned v ∧ w.drewN n = w') : Calls P f args (w.drewN n) fun e w'' => e = .returned v ∧ ∃ m, w'' = w.drewN m :=
  h.mono fun _ _ ⟨he, hm⟩ => ⟨he, n, hm.symm⟩
theorem quiet_add_left {P : Program} {f : FuncId} {args : Array Value} {w : World} {a n : Nat} {v : Value}
    (h : Calls P f args (w.drewN (a + n)) fun e w' => e = .returned v ∧ w.drewN (a + n) = w') :
    Calls P f args (w.drewN (a + n)) fun e w'' => e = .returned v ∧ ∃ m, w'' = w.drewN (a + m) :=
  h.mono fun _ _ ⟨he, hm⟩ => ⟨he, n, hm.symm⟩
theorem quiet_add {P : Program} {f : FuncId} {args : Array Value} {w : World} {a n : Nat} {v : Value}
    (h : Calls P f args (w.drewN (a + n)) fun e w' => e = .returned v ∧ ∃ m, w' = (w.drewN (a + n)).drewN m) :
    Calls P f args (w.drewN (a + n)) fun e w'' => e = .returned v ∧ ∃ m, w'' = w.drewN (a + m) :=
  h.mono fun _ _ ⟨he, m, hm⟩ => ⟨he, n + m, by rw [hm, World.drewN_drewN, Nat.add_assoc]⟩

/-- The slice v has n integers of the kind k, which are those of f. -/
def Row (w : World) (k : IntKind) (v : Value) (n : Nat) (f : Nat → Nat) : Prop :=
  (v = .slice none 0 0 ∧ n = 0) ∨ ∃ b off cap, v = .slice (some ⟨b, off, none⟩) n cap ∧ n ≤ cap ∧ cap ≤ maxLen ∧ b < w.heap.size ∧
    ∀ i, i < n → w.cell? ⟨b, off + i, none⟩ = some (.int k (f i))

theorem Row.below {w w' : World} {k v n f} (h : Row w k v n f) (hb : Below w.heap.size w w') : Row w' k v n f := by
  rcases h with h | ⟨b, off, cap, h1, h2, h3, h4, h5⟩
  · exact .inl h
  · exact .inr ⟨b, off, cap, h1, h2, h3, Nat.lt_of_lt_of_le h4 hb.size, fun i hi => by rw [hb.cell (p := ⟨b, off + i, none⟩) h4]; exact h5 i hi⟩

theorem below_draws (w : World) (n : Nat) : Below w.heap.size w (w.drewN n) := ⟨rfl, rfl, rfl, Nat.le_refl _, fun _ _ => rfl⟩

theorem Row.drewN {w : World} {k v n f} (h : Row w k v n f) (m : Nat) : Row (w.drewN m) k v n f := h.below (below_draws w m)

theorem draws_draws (w : World) (q r : Nat) : (w.drewN q).drewN r = w.drewN (q + r) := by simp [World.drewN, Nat.add_assoc]
theorem draws_draws3 (w : World) (q r s : Nat) : ((w.drewN q).drewN r).drewN s = w.drewN (q + r + s) := by simp [World.drewN, Nat.add_assoc]

theorem Row.shape {w : World} {k v n f} (h : Row w k v n f) : ∃ a cap, v = .slice a n cap := by
  rcases h with ⟨h1, h2⟩ | ⟨b, off, cap, h1, _⟩
  · exact ⟨none, 0, by rw [h1, h2]⟩
  · exact ⟨_, _, h1⟩

theorem Row.congr {w : World} {k v n f g} (h : Row w k v n f) (hg : ∀ i, i < n → f i = g i) : Row w k v n g := by
  rcases h with h | ⟨b, off, cap, h1, h2, h3, h4, h5⟩
  · exact .inl h
  · exact .inr ⟨b, off, cap, h1, h2, h3, h4, fun i hi => by rw [← hg i hi]; exact h5 i hi⟩

/-- The slice v is the natural number x. -/
def NatV (w : World) (v : Value) (x : Nat) : Prop := ∃ n f, Row w .u64 v n f ∧ Nrm f n ∧ val f n = x

theorem NatV.below {w w' : World} {v x} (h : NatV w v x) (hb : Below w.heap.size w w') : NatV w' v x := by
  obtain ⟨n, f, h1, h2, h3⟩ := h
  exact ⟨n, f, h1.below hb, h2, h3⟩

/-- Of what was there, only the cells off to off + n of the block b have turned. -/
structure Wrote (b off n : Nat) (w w' : World) : Prop where
  grown : w.grownBy w' (some b)
  rest : ∀ o, o < off ∨ off + n ≤ o → w'.cell? ⟨b, o, none⟩ = w.cell? ⟨b, o, none⟩
  froz : ∀ o, w'.frozen? ⟨b, o, none⟩ = w.frozen? ⟨b, o, none⟩

theorem Wrote.refl (b off n : Nat) (w : World) : Wrote b off n w w := ⟨⟨rfl, rfl, rfl, Nat.le_refl _, fun _ _ _ => rfl⟩, fun _ _ => rfl, fun _ => rfl⟩
theorem Wrote.drewN {b off n : Nat} {w w' : World} (h : Wrote b off n w w') (q : Nat) : Wrote b off n w (w'.drewN q) :=
  ⟨⟨h.grown.os, h.grown.tape, h.grown.output, h.grown.size, h.grown.block⟩, h.rest, h.froz⟩
theorem Wrote.setCell {b off n : Nat} {w w' : World} (h : Wrote b off n w w') {i : Nat} (hi : i < n) (u : Value) : Wrote b off n w (w'.setCell ⟨b, off + i, none⟩ u) := by
  refine ⟨⟨h.grown.os, h.grown.tape, h.grown.output, by simpa [World.setCell] using h.grown.size, fun k hk hne => (Below.heap_setCell w' _ u k (by intro e; exact hne (by rw [e]))).trans (h.grown.block k hk hne)⟩, fun o ho => ?_, fun o => ?_⟩
  · rw [World.cell?_setCell_other (h := by intro e; injection e with _ e2; omega)]
    exact h.rest o ho
  · rw [World.frozen?_setCell]; exact h.froz o
theorem grownBy_trans {a b c : World} {r : Option Nat} (h : a.grownBy b r) (k : b.grownBy c r) : a.grownBy c r :=
  ⟨k.os.trans h.os, k.tape.trans h.tape, k.output.trans h.output, Nat.le_trans h.size k.size, fun i hi hne => (k.block i (Nat.lt_of_lt_of_le hi h.size) hne).trans (h.block i hi hne)⟩
theorem Wrote.trans {b off n : Nat} {x y z : World} (h : Wrote b off n x y) (k : Wrote b off n y z) : Wrote b off n x z :=
  ⟨grownBy_trans h.grown k.grown, fun o ho => (k.rest o ho).trans (h.rest o ho), fun o => (k.froz o).trans (h.froz o)⟩
theorem Wrote.other {b off n : Nat} {w w' : World} (h : Wrote b off n w w') {b' o : Nat} (hb : b' < w.heap.size) (hne : b' ≠ b) : w'.cell? ⟨b', o, none⟩ = w.cell? ⟨b', o, none⟩ :=
  World.cell?_of_block (h.grown.block b' hb (by intro e; injection e with e; exact hne e))
theorem Wrote.below {b off n B : Nat} {w w' : World} (h : Wrote b off n w w') (hB : B ≤ b) (hw : B ≤ w.heap.size) : Below B w w' :=
  ⟨h.grown.os, h.grown.tape, h.grown.output, h.grown.size, fun k hk => h.grown.block k (by omega) (by intro e; injection e with e; omega)⟩

/-- the cells behind a store. -/
theorem cells_set {w : World} {b off n i : Nat} {k : IntKind} {h : Nat → Nat} (hc : ∀ j, j < n → w.cell? ⟨b, off + j, none⟩ = some (.int k (h j))) (hi : i < n) (x : Nat) :
    ∀ j, j < n → (w.setCell ⟨b, off + i, none⟩ (.int k x)).cell? ⟨b, off + j, none⟩ = some (.int k (upd h i x j)) := by
  intro j hj
  by_cases e : j = i
  · subst e; rw [upd_at]; exact World.cell?_setCell_same _ _ _ (hc j hj)
  · rw [upd_ne _ _ e, World.cell?_setCell_other (h := by intro c; injection c with _ c2; omega)]; exact hc j hj
end Go.Proofs.YtkggfeemjabdeaaGreatDoor
end
section
namespace Go.Proofs.YtkggfeemjabdeaaGreatDoor
open Go.RowKit

/-- a decimal digit. -/
def Dig (c : UInt8) : Prop := 48 ≤ (c.toNat : Int) ∧ (c.toNat : Int) ≤ 57
def digB (c : UInt8) : Bool := decide (48 ≤ c.toNat) && decide (c.toNat ≤ 57)
theorem digB_iff (c : UInt8) : digB c = true ↔ Dig c := by unfold digB Dig; simp; omega
/-- some bytes, all of them digits. -/
def isDigs (s : ByteArray) : Bool := decide (0 < s.size) && s.data.toList.all digB
theorem isDigs_iff (s : ByteArray) : isDigs s = true ↔ 0 < s.size ∧ ∀ i (h : i < s.size), Dig s[i] := by
  unfold isDigs
  rw [Bool.and_eq_true, decide_eq_true_iff, List.all_eq_true]
  refine and_congr Iff.rfl ⟨fun h i hi => (digB_iff _).1 (h _ (Array.getElem_mem_toList (xs := s.data) hi)), fun h c hc => ?_⟩
  obtain ⟨i, hi, rfl⟩ := List.getElem_of_mem hc
  rw [digB_iff]
  exact h i (by simpa using hi)
theorem isDigs_bad {s : ByteArray} {i : Nat} (h : i < s.size) (hd : ¬ Dig s[i]) : isDigs s = false := by
  cases e : isDigs s with
  | false => rfl
  | true => exact absurd (((isDigs_iff s).1 e).2 i h) hd
theorem empty_of (s : ByteArray) (h : s.size = 0) : s.toList.isEmpty = true := by
  rw [ByteArray.toList_eq, Array.eq_empty_of_size_eq_zero (xs := s.data) h]; rfl
theorem nonempty_of (s : ByteArray) (h : 0 < s.size) : s.toList.isEmpty = false := by
  rw [ByteArray.toList_eq]
  cases e : s.data.toList with
  | nil =>
    have h1 : s.data.toList.length = s.size := rfl
    rw [e, List.length_nil] at h1
    omega
  | cons a l => rfl

set_option maxHeartbeats 400000 in
theorem isDigits_any (s : ByteArray) (w : World) (hs : s.size ≤ maxLen) :
    Calls Tryz.prog 74 #[.string s] w fun e w' => e = .returned (.bool (isDigs s)) ∧ w = w' := by
  unfold maxLen at hs
  obtain ⟨em, hem⟩ : ∃ b, b = s.toList.isEmpty := ⟨_, rfl⟩
  have EM := Lib.hid hem
  have rr := hem.symm
  clear hem
  go_enter Tryz.func74, Tryz.ntmps74
  go_wp2
  go_loop [6] (fun i => ∃ k : Nat, k ≤ s.size ∧ i = .int .i64 k ∧ Hid (∀ i (h : i < s.size), i < k → Dig s[i])) (fun i => s.size - (intOf i).toNat)
  case atStart => exact ⟨0, Nat.zero_le _, rfl, Lib.hid fun i _ h => by omega⟩
  case round =>
    obtain ⟨k, hk, rfl, HK⟩ := hrel
    by_cases hlt : k < s.size
    · by_cases d1 : (s[k].toNat : Int) < 48
      · go_wp2
        go_ret
        exact ⟨by rw [isDigs_bad hlt (fun h => by have := h.1; omega)]; rfl, rfl⟩
      · by_cases d2 : (57 : Int) < s[k].toNat
        · go_wp2
          go_ret
          exact ⟨by rw [isDigs_bad hlt (fun h => by have := h.2; omega)]; rfl, rfl⟩
        · go_wp2
          go_round
          case rel =>
            refine ⟨k + 1, by omega, by go_num, Lib.hid fun i h hi => ?_⟩
            by_cases e : i = k
            · subst e; exact ⟨by omega, by omega⟩
            · exact HK.out i h (by omega)
          case measure => simp [intOf]; omega
    · have e1 : isDigs s = !em := by
        rcases Nat.eq_zero_or_pos s.size with h0 | h0
        · rw [EM.out, empty_of s h0]; unfold isDigs; simp [h0]
        · rw [EM.out, nonempty_of s h0]
          exact (isDigs_iff s).2 ⟨h0, fun i h => HK.out i h (by omega)⟩
      have E1 := Lib.hid e1; clear e1
      go_wp2
      go_ret
      exact ⟨by rw [E1.out]; rfl, rfl⟩

/-- digits that do not begin with 0 unless they are 0 alone. -/
def isNum (s : ByteArray) : Bool := isDigs s && (!(s.data.toList.head? == some 48) || decide (s.size = 1))

set_option maxHeartbeats 400000 in
theorem isNumber_any (s : ByteArray) (w : World) (hs : s.size ≤ maxLen) :
    Calls Tryz.prog 67 #[.string s] w fun e w' => e = .returned (.bool (isNum s)) ∧ w = w' := by
  cases hd : isDigs s with
  | false =>
    have e1 : isNum s = false := by unfold isNum; rw [hd]; rfl
    have E1 := Lib.hid e1; have HD := Lib.hid hd; clear e1 hd
    go_enter Tryz.func67, Tryz.ntmps67
    go_wp2_with fail
    refine (isDigits_any s _ hs).mono ?_
    rintro e w' ⟨rfl, rfl⟩
    rw [HD.out]
    go_wp2_with fail
    go_ret
    exact ⟨by rw [E1.out]; rfl, rfl⟩
  | true =>
    have h0 := ((isDigs_iff s).1 hd).1
    have hh : s.data.toList.head? = some s[0] := by
      rw [List.head?_eq_getElem?, Array.getElem?_toList]; exact Array.getElem?_eq_getElem h0
    by_cases h48 : s[0] = 48
    · have e1 : isNum s = decide (s.size = 1) := by unfold isNum; rw [hd, hh, h48]; simp
      have b1 : ((s[0].toNat : Int) != 48) = false := by rw [h48]; rfl
      have E1 := Lib.hid e1; have HD := Lib.hid hd; clear e1 hd hh
      have H48 := Lib.hid h48; clear h48
      by_cases h1 : s.size = 1
      · have b2 : ((s.size : Int) == 1) = true := by rw [h1]; rfl
        have H1 := Lib.hid h1; clear h1
        go_enter Tryz.func67, Tryz.ntmps67
        go_wp2_with fail
        refine (isDigits_any s _ hs).mono ?_
        rintro e w' ⟨rfl, rfl⟩
        rw [HD.out]
        go_wp2_with fail
        go_ret
        exact ⟨by rw [E1.out, decide_eq_true H1.out]; rfl, rfl⟩
      · have b2 : ((s.size : Int) == 1) = false := beq_eq_false_iff_ne.2 (by omega)
        go_enter Tryz.func67, Tryz.ntmps67
        go_wp2_with fail
        refine (isDigits_any s _ hs).mono ?_
        rintro e w' ⟨rfl, rfl⟩
        rw [HD.out]
        go_wp2_with fail
        go_ret
        exact ⟨by rw [E1.out, decide_eq_false h1]; rfl, rfl⟩
    · have e1 : isNum s = true := by unfold isNum; rw [hd, hh]; simp [h48]
      have b1 : ((s[0].toNat : Int) != 48) = true := by
        rw [bne_iff_ne]; intro e
        exact h48 (UInt8.toNat_inj.1 (by have : s[0].toNat = 48 := by omega
                                         rw [this]; rfl))
      have E1 := Lib.hid e1; have HD := Lib.hid hd; clear e1 hd hh h48
      go_enter Tryz.func67, Tryz.ntmps67
      go_wp2_with fail
      refine (isDigits_any s _ hs).mono ?_
      rintro e w' ⟨rfl, rfl⟩
      rw [HD.out]
      go_wp2_with fail
      go_ret
      exact ⟨by rw [E1.out]; rfl, rfl⟩

/-- a valid natural number. -/
def isNt (s : ByteArray) : Bool := decide (s.size ≤ 600) && isNum s

set_option maxHeartbeats 400000 in
theorem isNat_any (s : ByteArray) (w : World) (hs : s.size ≤ maxLen) :
    Calls Tryz.prog 29 #[.string s] w fun e w' => e = .returned (.bool (isNt s)) ∧ w = w' := by
  by_cases h6 : s.size ≤ 600
  · have E1 : Hid (isNt s = isNum s) := Lib.hid (by unfold isNt; rw [decide_eq_true h6]; rfl)
    go_enter Tryz.func29, Tryz.ntmps29
    go_wp2_with fail
    refine (isNumber_any s _ hs).mono ?_
    rintro e w' ⟨rfl, rfl⟩
    go_wp2_with fail
    go_ret
    exact ⟨by rw [E1.out]; rfl, rfl⟩
  · have E1 : Hid (isNt s = false) := Lib.hid (by unfold isNt; rw [decide_eq_false h6]; rfl)
    have h7 : ¬ (s.size : Int) ≤ 600 := by omega
    go_enter Tryz.func29, Tryz.ntmps29
    go_wp2_with fail
    go_ret
    exact ⟨by rw [E1.out]; rfl, rfl⟩
end Go.Proofs.YtkggfeemjabdeaaGreatDoor
end
