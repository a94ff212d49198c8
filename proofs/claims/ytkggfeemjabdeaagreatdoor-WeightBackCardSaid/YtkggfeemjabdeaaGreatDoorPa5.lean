/- Contracts of trim and ofWord, where the result is the call's own. Contracts of lower and raise at rows of the call's own, and of minus and plus. Contracts of plus. Contract of times. -/
import Derived.Test.YtkggfeemjabdeaaGreatDoorPa2
import Derived.Test.YtkggfeemjabdeaaGreatDoorPa3
import Derived.Test.YtkggfeemjabdeaaGreatDoorPa4
section
namespace Go.Proofs.YtkggfeemjabdeaaGreatDoor
open Go.RowKit

/-- A call returns a natural number in memory of its own. -/
def RetNatOwn (x : Nat) (w : World) (e : Ending) (w' : World) : Prop := ∃ v, e = .returned v ∧ NatOwn w' w.heap.size v x ∧ Below w.heap.size w w'

theorem RetNatOwn.natV {x : Nat} {w w' : World} {e : Ending} (h : RetNatOwn x w e w') : RetNat x w e w' := by
  obtain ⟨v, h1, h2, h3⟩ := h
  exact ⟨v, h1, h2.natV, h3⟩

theorem trim_own (B : Nat) (v : Value) (n : Nat) (f : Nat → Nat) (w : World) (h : Own w B .u64 v n f) (hl : ∀ i, i < n → f i < R64) :
    Calls Tryz.prog 80 #[v] w fun e w' => (∃ v', e = .returned v' ∧ NatOwn w B v' (val f n) ∧ v'.ownBlock = v.ownBlock) ∧ w = w' := by
  rcases h with ⟨rfl, rfl⟩ | ⟨b, off, cap, rfl, h2, h3, h4, h5, h6, h7, h8⟩
  · refine (trim_nil w).mono ?_
    rintro e w' ⟨rfl, rfl⟩
    exact ⟨⟨_, rfl, ⟨0, f, .inl ⟨rfl, rfl⟩, ⟨fun i hi => by omega, .inl rfl⟩, rfl⟩, rfl⟩, rfl⟩
  · refine (trim_some n f b off cap h2 h3 w h6).mono ?_
    rintro e w' ⟨rfl, rfl⟩
    exact ⟨⟨_, rfl, ⟨_, f, .inr ⟨b, off, cap, rfl, Nat.le_trans (tl_le f n) h2, h3, h4, h5, fun i hi => h6 i (Nat.lt_of_lt_of_le hi (tl_le f n)), h7, h8⟩, tl_nrm hl, val_tl f n⟩, rfl⟩, rfl⟩

set_option maxHeartbeats 400000 in
theorem ofWord_own (x : Nat) (hx : x < R64) (w : World) :
    Calls Tryz.prog 44 #[.int .u64 x] w (RetNatOwn x w) := by
  go_enter Tryz.func44, Tryz.ntmps44
  go_wp2_with fail
  refine (trim_own w.heap.size _ 1 (fun _ => x) _ (.inr ⟨w.heap.size, 0, 1, rfl, Nat.le_refl _, by unfold maxLen; omega, Nat.le_refl _, by simp, ?_, ?_, ?_⟩) (fun _ _ => hx)).mono ?_
  · intro i hi
    obtain rfl : i = 0 := by omega
    simp
  · intro i hi
    obtain rfl : i = 0 := by omega
    simp
  · intro i hi
    obtain rfl : i = 0 := by omega
    simp
  rintro e w' ⟨⟨v, rfl, hv, hob⟩, rfl⟩
  have HV := Lib.hid hv; clear hv hob
  go_wp2_with fail
  go_ret
  have := HV.out
  exact ⟨v, rfl, by simpa [val] using this, (Below.refl _ _).alloc (Nat.le_refl _) _⟩
end Go.Proofs.YtkggfeemjabdeaaGreatDoor
end
section
namespace Go.Proofs.YtkggfeemjabdeaaGreatDoor
open Go.RowKit

set_option maxHeartbeats 400000 in
theorem lower_zero (a : Option Addr) (cap : Nat) (v : Value) (m : Nat) (w : World) :
    Calls Tryz.prog 128 #[.slice a 0 cap, v, .int .u64 m] w fun e w' => e = .returned (.bool false) ∧ w = w' := by
  go_enter Tryz.func128, Tryz.ntmps128
  go_wp2
  go_loop [7, 8, 13] (fun c d i => i = .int .i64 0 ∧ c = .int .u64 0 ∧ d = .int .u64 0) (fun _ _ _ => 0)
  case atStart => exact ⟨rfl, rfl, rfl⟩
  case round =>
    obtain ⟨rfl, rfl, rfl⟩ := hrel
    go_wp2
    go_ret
    exact ⟨rfl, rfl⟩

set_option maxHeartbeats 400000 in
theorem lower_nothing (b off n cap m : Nat) (h0 : 0 < n) (w : World) :
    Calls Tryz.prog 128 #[.slice (some ⟨b, off, none⟩) n cap, .slice none 0 0, .int .u64 m] w fun e w' => e = .returned (.bool false) ∧ w = w' := by
  go_enter Tryz.func128, Tryz.ntmps128
  go_wp2
  go_loop [7, 8, 13] (fun c d i => i = .int .i64 0 ∧ c = .int .u64 0 ∧ d = .int .u64 0) (fun _ _ _ => 0)
  case atStart => exact ⟨rfl, rfl, rfl⟩
  case round =>
    obtain ⟨rfl, rfl, rfl⟩ := hrel
    go_wp2
    go_ret
    exact ⟨rfl, rfl⟩

/-- What lower has done to a row of the call's own. -/
def LoweredOwn (B : Nat) (v : Value) (n : Nat) (f g : Nat → Nat) (m : Nat) (w : World) (e : Ending) (w' : World) : Prop :=
  ∃ (c d : Nat) (h : Nat → Nat), e = .returned (.bool (decide (c + d ≠ 0))) ∧ (∀ j, j < n → h j < R64) ∧ Own w' B .u64 v n h ∧ val f n + (c + d) * R64 ^ n = val h n + m * val g n ∧ Below B w w'

theorem lower_own (B : Nat) (v v' : Value) (n k m : Nat) (f g : Nat → Nat) (w0 w : World) (hB : B ≤ w.heap.size) (hw0 : w0.heap.size ≤ B) (h : Own w B .u64 v n f) (h' : Row w0 .u64 v' k g) (hb : Below w0.heap.size w0 w)
    (lf : ∀ i, i < n → f i < R64) (lg : ∀ i, i < k → g i < R64) (hm : m < R64) :
    Calls Tryz.prog 128 #[v, v', .int .u64 m] w (LoweredOwn B v n f (cutf g k) m w) := by
  rcases h with ⟨rfl, rfl⟩ | ⟨b, off, cap, rfl, h1, h2, h3, h4, h5, h7, h6⟩
  · refine (lower_zero _ _ _ _ _).mono ?_
    rintro e w' ⟨rfl, rfl⟩
    exact ⟨0, 0, f, rfl, lf, .inl ⟨rfl, rfl⟩, by simp [val], Below.refl _ _⟩
  · rcases h' with ⟨rfl, rfl⟩ | ⟨b', off', cap', rfl, l1, l2, l3, l4⟩
    · by_cases h0 : n = 0
      · subst h0
        refine (lower_zero _ _ _ _ _).mono ?_
        rintro e w' ⟨rfl, rfl⟩
        exact ⟨0, 0, f, rfl, lf, .inr ⟨b, off, cap, rfl, h1, h2, h3, h4, h5, h7, h6⟩, by simp [val], Below.refl _ _⟩
      · refine (lower_nothing b off n cap m (by omega) w).mono ?_
        rintro e w' ⟨rfl, rfl⟩
        refine ⟨0, 0, f, rfl, lf, .inr ⟨b, off, cap, rfl, h1, h2, h3, h4, h5, h7, h6⟩, ?_, Below.refl _ _⟩
        rw [val_cutf (Nat.zero_le _)]; simp [val]
    · refine (lower_some n k m f g b off cap b' off' cap' (by omega) w (by omega) (by omega) h5 (fun i hi => ?_) (fun i hi => h6 i (by omega)) lf lg hm).mono ?_
      · rw [hb.cell (p := ⟨b', off' + i, none⟩) l3]; exact l4 i hi
      rintro e w' ⟨c, d, h, rfl, _, _, lh, hc, hv, hw⟩
      exact ⟨c, d, h, rfl, lh, .inr ⟨b, off, cap, rfl, h1, h2, h3, Nat.lt_of_lt_of_le h4 hw.grown.size, hc, fun i hi => by
        by_cases hin : i < n
        · rw [hc i hin]; rfl
        · rw [hw.rest _ (by omega)]; exact h7 i hi, fun i hi => by rw [hw.froz]; exact h6 i hi⟩, hv, hw.below h3 hB⟩

/-- numbers of at most 200 words. -/
def Big : Nat := R64 ^ 200

theorem NatV.small {w : World} {v : Value} {x : Nat} (h : NatV w v x) (hx : x < Big) : ∃ n f, Row w .u64 v n f ∧ Nrm f n ∧ val f n = x ∧ n ≤ 200 := by
  obtain ⟨n, f, h1, h2, rfl⟩ := h
  exact ⟨n, f, h1, h2, rfl, h2.len_le hx⟩

theorem sub_exact {x y h c M : Nat} (e : x + c * M = h + y) (hy : y ≤ x) (hh : h < M) : h = x - y := by
  have hc : c = 0 := by
    rcases Nat.eq_zero_or_pos c with h0 | h0
    · exact h0
    · have : 1 * M ≤ c * M := Nat.mul_le_mul_right _ h0
      omega
  subst hc
  omega

set_option maxHeartbeats 400000 in
theorem minus_any (v v' : Value) (x y : Nat) (w : World) (h : NatV w v x) (h' : NatV w v' y) (hx : x < Big) (hy : y ≤ x) :
    Calls Tryz.prog 92 #[v, v'] w (RetNatOwn (x - y) w) := by
  obtain ⟨n, f, h1, h2, h3, h4⟩ := h.small hx
  obtain ⟨k, g, l1, l2, l3, l4⟩ := h'.small (by omega)
  have H1 := Lib.hid h1; have H2 := Lib.hid h2; have H3 := Lib.hid h3; have L1 := Lib.hid l1; have L2 := Lib.hid l2; have L3 := Lib.hid l3
  clear h1 h2 h3 l1 l2 l3 h h'
  go_enter Tryz.func92, Tryz.ntmps92
  go_wp2_with fail
  refine (clone_any v n f w (by omega) H1.out).mono ?_
  rintro e w1 ⟨u, rfl, hu, hb1⟩
  have HU := Lib.hid hu; clear hu
  have HB1 := Lib.hid hb1; clear hb1
  go_wp2_with fail
  refine (lower_own w.heap.size u v' n k 1 f g w w1 HB1.out.size (Nat.le_refl _) HU.out L1.out HB1.out H2.out.lim L2.out.lim (by rw [R64_eq]; omega)).mono ?_
  rintro e w2 ⟨c, d, h, rfl, lh, ho, hv, hb2⟩
  have HO := Lib.hid ho; clear ho
  have HV := Lib.hid hv; clear hv
  have HB2 := Lib.hid hb2; clear hb2
  go_wp2_with fail
  refine (trim_own w.heap.size u n h w2 HO.out lh).mono ?_
  rintro e w3 ⟨⟨u2, rfl, hu2, hob2⟩, rfl⟩
  have HU2 := Lib.hid hu2; clear hu2 hob2
  go_wp2_with fail
  go_ret
  have e1 := HV.out
  have hkn : k ≤ n := by
    have := L2.out.len_le (k := n) (by rw [L3.out]; have := val_lt H2.out.lim; rw [H3.out] at this; omega)
    exact this
  rw [val_cutf hkn, L3.out, H3.out, Nat.one_mul] at e1
  have e2 := sub_exact e1 hy (val_lt lh)
  have e3 := HU2.out
  rw [e2] at e3
  exact ⟨u2, rfl, e3, HB1.out.trans HB2.out⟩
end Go.Proofs.YtkggfeemjabdeaaGreatDoor
end
section
namespace Go.Proofs.YtkggfeemjabdeaaGreatDoor
open Go.RowKit

set_option maxHeartbeats 400000 in
theorem raise_nothing (b off n cap : Nat) (a : Option Addr) (cap' : Nat) (h0 : 0 < n) (w : World) :
    Calls Tryz.prog 89 #[.slice (some ⟨b, off, none⟩) n cap, .slice a 0 cap'] w fun e w' => e = .returned (.bool false) ∧ w = w' := by
  go_enter Tryz.func89, Tryz.ntmps89
  go_wp2
  go_loop [5, 10] (fun c i => i = .int .i64 0 ∧ c = .int .u64 0) (fun _ _ => 0)
  case atStart => exact ⟨rfl, rfl⟩
  case round =>
    obtain ⟨rfl, rfl⟩ := hrel
    go_wp2
    go_ret
    exact ⟨rfl, rfl⟩

theorem raise_row (b N : Nat) (t : TypeId) (k : Nat) (v' : Value) (f g : Nat → Nat) (w0 w : World) (hN : 0 < N) (hN' : N ≤ maxLen) (hb : Below w0.heap.size w0 w) (hB : w0.heap.size ≤ b) (h : w.rowIs b t N fun i => .int .u64 (f i)) (h' : Row w0 .u64 v' k g)
    (lf : ∀ i, i < N → f i < R64) (lg : ∀ i, i < k → g i < R64) :
    Calls Tryz.prog 89 #[.slice (some ⟨b, 0, none⟩) N N, v'] w fun e w' => ∃ (x : Bool) (c : Nat) (h : Nat → Nat), e = .returned (.bool x) ∧ (∀ j, j < N → h j < R64) ∧ (∀ i, i < N → w'.cell? ⟨b, 0 + i, none⟩ = some (.int .u64 (h i))) ∧ val f N + val (cutf g k) N = val h N + c * R64 ^ N ∧ Wrote b 0 N w w' := by
  rcases h' with ⟨rfl, rfl⟩ | ⟨b', off', cap', rfl, l1, l2, l3, l4⟩
  · refine (raise_nothing b 0 N N none 0 hN w).mono ?_
    rintro e w' ⟨rfl, rfl⟩
    exact ⟨_, 0, f, rfl, lf, fun i hi => by rw [Nat.zero_add]; exact h.cell hi, by rw [val_cutf (Nat.zero_le _)]; simp [val], Wrote.refl _ _ _ _⟩
  · refine (raise_some N k f g b 0 N b' off' cap' hN' w (by omega) (Nat.lt_of_lt_of_le l3 hb.size) (fun i hi => by rw [Nat.zero_add]; exact h.cell hi) (fun i hi => ?_) (fun i _ => h.frozen _) lf lg).mono ?_
    · rw [hb.cell (p := ⟨b', off' + i, none⟩) l3]; exact l4 i hi
    rintro e w' ⟨c, h2, rfl, _, lh, hc, hv, hw⟩
    exact ⟨_, c, h2, rfl, lh, hc, hv, hw⟩

theorem splice_get {k : IntKind} {f : Nat → Nat} {n N i : Nat} (hi : i < N) (z : List Value) (h0 : ∀ j, j < N → z[j]? = some (.int k 0)) :
    (splice z 0 (cellsOf k f n))[i]? = some (.int k (cutf f n i)) := by
  unfold splice
  rw [List.take_zero, List.nil_append, Nat.zero_add, length_cellsOf]
  by_cases h : i < n
  · rw [List.getElem?_append_left (by rw [length_cellsOf]; exact h), get_cellsOf_lt h, cutf_lt h]
  · rw [List.getElem?_append_right (by rw [length_cellsOf]; omega), length_cellsOf, List.getElem?_drop, cutf_ge (by omega), show n + (i - n) = i from by omega]
    exact h0 i hi

set_option maxRecDepth 100000 in
set_option maxHeartbeats 400000 in
theorem plus_core (n k : Nat) (v v' : Value) (a : Option Addr) (cap : Nat) (f g : Nat → Nat) (w : World) (hv : v = .slice a n cap) (a' : Option Addr) (cap' : Nat) (hv' : v' = .slice a' k cap') (hn : n ≤ 200) (hkn : k ≤ n) (h : Row w .u64 v n f) (h' : Row w .u64 v' k g) (lf : ∀ i, i < n → f i < R64) (lg : ∀ i, i < k → g i < R64) :
    Calls Tryz.prog 43 #[v, v'] w (RetNatOwn (val f n + val g k) w) := by
  subst hv hv'
  have H := Lib.hid h; clear h
  have H' := Lib.hid h'; clear h'
  have hlt : ¬ ((n : Int) < k) := by omega
  have hmk := fun (W : World) => run_make_row' (P := Tryz.prog) 60 78 (.int .u64 0) 8 Tryz.underlying60 infoW rfl .i64 .i64 (n + 1) (by omega) (by omega) W
  have ec : ((n + 1 : Nat) : Int) = (n : Int) + 1 := by omega
  rw [ec] at hmk
  clear ec
  go_enter Tryz.func43, Tryz.ntmps43
  have hgm : (w.alloc (.cells (madeCells #[.int .u64 0] (n + 1)) 78)).heap[w.heap.size]? = some (.cells (madeCells #[.int .u64 0] (n + 1)).toList.toArray 78 (0, 0)) := Go.Deep.blk_alloc_new _ _
  have HM := Lib.hid hgm; clear hgm
  have P1 : Hid ((cellsOf .u64 f n).length = Nat.min n (n + 1)) := Lib.hid (by rw [length_cellsOf]; exact (Nat.min_eq_left (by omega)).symm)
  have P2 : Hid (0 < (cellsOf .u64 f n).length → (some (⟨w.heap.size, 0, none⟩ : Addr)) = some ⟨w.heap.size, 0, none⟩ ∧ ∃ ad, a = some ad ∧ ∀ (j : Nat) (u : Value), (cellsOf .u64 f n)[j]? = some u → (w.alloc (.cells (madeCells #[.int .u64 0] (n + 1)) 78)).cell? (ad.add j) = some u) := Lib.hid (by
    rw [length_cellsOf]
    intro h0
    refine ⟨rfl, ?_⟩
    rcases H.out with ⟨_, h1⟩ | ⟨b, off, cap', h1, _, _, _, h5⟩
    · omega
    · cases h1
      refine ⟨_, rfl, fun j u hu => ?_⟩
      obtain ⟨hj, rfl⟩ := get_cellsOf hu
      rw [Addr.add_lit]
      exact cell_later ((Below.refl _ _).alloc (Nat.le_refl _) _) (h5 j hj))
  have P3 : Hid (0 + (cellsOf .u64 f n).length ≤ (madeCells #[Value.int .u64 0] (n + 1)).toList.length) := Lib.hid (by
    rw [length_cellsOf, Array.length_toList, size_madeCells]
    omega)
  go_wp2_with ((with_reducible refine wpList_copy_splice rfl (.tmp 17) (.tmp 18) 60 60 rfl 78 Tryz.underlying60 (by kernel_rfl) (some ⟨w.heap.size, 0, none⟩) a (n + 1) (n + 1) n cap rfl rfl w.heap.size 0 _ 78 HM.out (cellsOf .u64 f n) P1.out P2.out P3.out one_cellsOf w.heap.size w ((Below.refl _ _).alloc (Nat.le_refl _) _) (Nat.le_refl _) ?_))
  intro w1 hg1 hb1
  have HG1 := Lib.hid hg1.out; clear hg1
  have HB1 := Lib.hid hb1; clear hb1
  have hr1 : w1.rowIs w.heap.size 78 (n + 1) fun i => .int .u64 (cutf f n i) := by
    refine ⟨_, HG1, ?_, fun i hi => ?_⟩
    · show (splice _ 0 (cellsOf .u64 f n)).length = n + 1
      rw [length_splice _ _ _ P3.out, Array.length_toList, size_madeCells]
    · show (splice _ 0 (cellsOf .u64 f n)).toArray[i]? = _
      rw [List.getElem?_toArray]
      refine splice_get hi _ fun j hj => ?_
      rw [Array.getElem?_toList]
      simp [madeCells, hj, Nat.mod_one]
  have HR1 := Lib.hid hr1; clear hr1
  go_wp2_with fail
  refine (raise_row w.heap.size (n + 1) 78 k _ (cutf f n) g w w1 (by omega) (by unfold maxLen; omega) HB1.out (Nat.le_refl _) HR1.out H'.out (fun i _ => cutf_lim lf i) lg).mono ?_
  rintro e w2 ⟨x, c, h2, rfl, lh, hc, hv, hw⟩
  have LH := Lib.hid lh; have HC := Lib.hid hc; have HV := Lib.hid hv; have HW := Lib.hid hw
  clear lh hc hv hw
  go_wp2_with fail
  refine (trim_own w.heap.size _ (n + 1) h2 w2 (.inr ⟨w.heap.size, 0, n + 1, rfl, Nat.le_refl _, by unfold maxLen; omega, Nat.le_refl _, Nat.lt_of_lt_of_le HR1.out.lt HW.out.grown.size, HC.out, fun i hi => by rw [HC.out i hi]; rfl, fun i _ => by rw [HW.out.froz]; exact HR1.out.frozen _⟩) LH.out).mono ?_
  rintro e w3 ⟨⟨u2, rfl, hu2, hob2⟩, rfl⟩
  have HU2 := Lib.hid hu2; clear hu2 hob2
  go_wp2_with fail
  go_ret
  refine ⟨u2, rfl, ?_, HB1.out.trans (HW.out.below (Nat.le_refl _) HB1.out.size)⟩
  have e1 := HU2.out
  have e2 := HV.out
  rw [val_cutf (by omega), val_cutf (by omega)] at e2
  have e3 : c = 0 := by
    rcases Nat.eq_zero_or_pos c with h0 | h0
    · exact h0
    · have a1 := val_lt lf
      have a2 := val_lt lg
      have a3 := pow_le_pow hkn
      have a4 : 1 * R64 ^ (n + 1) ≤ c * R64 ^ (n + 1) := Nat.mul_le_mul_right _ h0
      have a5 : 2 * R64 ^ n ≤ R64 ^ (n + 1) := by rw [pow_succ_R]; exact Nat.mul_le_mul_right _ (by rw [R64_eq]; omega)
      omega
  rw [e3, Nat.zero_mul, Nat.add_zero] at e2
  rw [e2]
  exact e1
set_option maxRecDepth 100000 in
set_option maxHeartbeats 400000 in
theorem plus_swap (n k : Nat) (v v' : Value) (a : Option Addr) (cap : Nat) (f g : Nat → Nat) (w : World) (hv : v = .slice a n cap) (a' : Option Addr) (cap' : Nat) (hv' : v' = .slice a' k cap') (hn : n ≤ 200) (hkn : k < n) (h : Row w .u64 v n f) (h' : Row w .u64 v' k g) (lf : ∀ i, i < n → f i < R64) (lg : ∀ i, i < k → g i < R64) :
    Calls Tryz.prog 43 #[v', v] w (RetNatOwn (val f n + val g k) w) := by
  subst hv hv'
  have H := Lib.hid h; clear h
  have H' := Lib.hid h'; clear h'
  have hlt : (k : Int) < n := by omega
  have hmk := fun (W : World) => run_make_row' (P := Tryz.prog) 60 78 (.int .u64 0) 8 Tryz.underlying60 infoW rfl .i64 .i64 (n + 1) (by omega) (by omega) W
  have ec : ((n + 1 : Nat) : Int) = (n : Int) + 1 := by omega
  rw [ec] at hmk
  clear ec
  go_enter Tryz.func43, Tryz.ntmps43
  have hgm : (w.alloc (.cells (madeCells #[.int .u64 0] (n + 1)) 78)).heap[w.heap.size]? = some (.cells (madeCells #[.int .u64 0] (n + 1)).toList.toArray 78 (0, 0)) := Go.Deep.blk_alloc_new _ _
  have HM := Lib.hid hgm; clear hgm
  have P1 : Hid ((cellsOf .u64 f n).length = Nat.min n (n + 1)) := Lib.hid (by rw [length_cellsOf]; exact (Nat.min_eq_left (by omega)).symm)
  have P2 : Hid (0 < (cellsOf .u64 f n).length → (some (⟨w.heap.size, 0, none⟩ : Addr)) = some ⟨w.heap.size, 0, none⟩ ∧ ∃ ad, a = some ad ∧ ∀ (j : Nat) (u : Value), (cellsOf .u64 f n)[j]? = some u → (w.alloc (.cells (madeCells #[.int .u64 0] (n + 1)) 78)).cell? (ad.add j) = some u) := Lib.hid (by
    rw [length_cellsOf]
    intro h0
    refine ⟨rfl, ?_⟩
    rcases H.out with ⟨_, h1⟩ | ⟨b, off, cap', h1, _, _, _, h5⟩
    · omega
    · cases h1
      refine ⟨_, rfl, fun j u hu => ?_⟩
      obtain ⟨hj, rfl⟩ := get_cellsOf hu
      rw [Addr.add_lit]
      exact cell_later ((Below.refl _ _).alloc (Nat.le_refl _) _) (h5 j hj))
  have P3 : Hid (0 + (cellsOf .u64 f n).length ≤ (madeCells #[Value.int .u64 0] (n + 1)).toList.length) := Lib.hid (by
    rw [length_cellsOf, Array.length_toList, size_madeCells]
    omega)
  go_wp2_with ((with_reducible refine wpList_copy_splice rfl (.tmp 17) (.tmp 18) 60 60 rfl 78 Tryz.underlying60 (by kernel_rfl) (some ⟨w.heap.size, 0, none⟩) a (n + 1) (n + 1) n cap rfl rfl w.heap.size 0 _ 78 HM.out (cellsOf .u64 f n) P1.out P2.out P3.out one_cellsOf w.heap.size w ((Below.refl _ _).alloc (Nat.le_refl _) _) (Nat.le_refl _) ?_))
  intro w1 hg1 hb1
  have HG1 := Lib.hid hg1.out; clear hg1
  have HB1 := Lib.hid hb1; clear hb1
  have hr1 : w1.rowIs w.heap.size 78 (n + 1) fun i => .int .u64 (cutf f n i) := by
    refine ⟨_, HG1, ?_, fun i hi => ?_⟩
    · show (splice _ 0 (cellsOf .u64 f n)).length = n + 1
      rw [length_splice _ _ _ P3.out, Array.length_toList, size_madeCells]
    · show (splice _ 0 (cellsOf .u64 f n)).toArray[i]? = _
      rw [List.getElem?_toArray]
      refine splice_get hi _ fun j hj => ?_
      rw [Array.getElem?_toList]
      simp [madeCells, hj, Nat.mod_one]
  have HR1 := Lib.hid hr1; clear hr1
  go_wp2_with fail
  refine (raise_row w.heap.size (n + 1) 78 k _ (cutf f n) g w w1 (by omega) (by unfold maxLen; omega) HB1.out (Nat.le_refl _) HR1.out H'.out (fun i _ => cutf_lim lf i) lg).mono ?_
  rintro e w2 ⟨x, c, h2, rfl, lh, hc, hv, hw⟩
  have LH := Lib.hid lh; have HC := Lib.hid hc; have HV := Lib.hid hv; have HW := Lib.hid hw
  clear lh hc hv hw
  go_wp2_with fail
  refine (trim_own w.heap.size _ (n + 1) h2 w2 (.inr ⟨w.heap.size, 0, n + 1, rfl, Nat.le_refl _, by unfold maxLen; omega, Nat.le_refl _, Nat.lt_of_lt_of_le HR1.out.lt HW.out.grown.size, HC.out, fun i hi => by rw [HC.out i hi]; rfl, fun i _ => by rw [HW.out.froz]; exact HR1.out.frozen _⟩) LH.out).mono ?_
  rintro e w3 ⟨⟨u2, rfl, hu2, hob2⟩, rfl⟩
  have HU2 := Lib.hid hu2; clear hu2 hob2
  go_wp2_with fail
  go_ret
  refine ⟨u2, rfl, ?_, HB1.out.trans (HW.out.below (Nat.le_refl _) HB1.out.size)⟩
  have e1 := HU2.out
  have e2 := HV.out
  rw [val_cutf (by omega), val_cutf (by omega)] at e2
  have e3 : c = 0 := by
    rcases Nat.eq_zero_or_pos c with h0 | h0
    · exact h0
    · have a1 := val_lt lf
      have a2 := val_lt lg
      have a3 := pow_le_pow (Nat.le_of_lt hkn)
      have a4 : 1 * R64 ^ (n + 1) ≤ c * R64 ^ (n + 1) := Nat.mul_le_mul_right _ h0
      have a5 : 2 * R64 ^ n ≤ R64 ^ (n + 1) := by rw [pow_succ_R]; exact Nat.mul_le_mul_right _ (by rw [R64_eq]; omega)
      omega
  rw [e3, Nat.zero_mul, Nat.add_zero] at e2
  rw [e2]
  exact e1

/-- plus: the sum. -/
theorem plus_any (v v' : Value) (x y : Nat) (w : World) (h : NatV w v x) (h' : NatV w v' y) (hx : x < Big) (hy : y < Big) :
    Calls Tryz.prog 43 #[v, v'] w (RetNatOwn (x + y) w) := by
  obtain ⟨n, f, h1, h2, rfl, h4⟩ := h.small hx
  obtain ⟨k, g, l1, l2, rfl, l4⟩ := h'.small hy
  obtain ⟨a, c, hv⟩ := h1.shape
  obtain ⟨a', c', hv'⟩ := l1.shape
  rcases Nat.lt_or_ge n k with hlt | hge
  · rw [Nat.add_comm]
    exact plus_swap k n v' v a' c' g f w hv' a c hv l4 hlt l1 h1 l2.lim h2.lim
  · exact plus_core n k v v' a c f g w hv a' c' hv' h4 hge h1 l1 h2.lim l2.lim
end Go.Proofs.YtkggfeemjabdeaaGreatDoor
end
section
namespace Go.Proofs.YtkggfeemjabdeaaGreatDoor
open Go.RowKit

theorem row_set {w : World} {b N : Nat} {t : TypeId} {k : IntKind} {f : Nat → Nat} (h : w.rowIs b t N fun i => .int k (f i)) (i x : Nat) : (w.setCell ⟨b, i, none⟩ (.int k x)).rowIs b t N fun j => .int k (upd f i x j) :=
  (h.set i _).congr fun j _ => by
    by_cases e : j = i
    · rw [if_pos e, e, upd_at]
    · rw [if_neg e, upd_ne _ _ e]

set_option maxRecDepth 100000 in
set_option maxHeartbeats 1000000 in
theorem times_core (n m : Nat) (a a' : Option Addr) (cap cap' : Nat) (f g : Nat → Nat) (w : World) (hn : n ≤ 200) (hm : m ≤ 200) (h : Row w .u64 (.slice a n cap) n f) (h' : Row w .u64 (.slice a' m cap') m g) (lf : ∀ i, i < n → f i < R64) (lg : ∀ i, i < m → g i < R64) :
    Calls Tryz.prog 38 #[.slice a n cap, .slice a' m cap'] w (RetNatOwn (val f n * val g m) w) := by
  have H := Lib.hid h; clear h
  have H' := Lib.hid h'; clear h'
  have hmk := fun (W : World) => run_make_row' (P := Tryz.prog) 60 78 (.int .u64 0) 8 Tryz.underlying60 infoW rfl .i64 .i64 (n + m) (by omega) (by omega) W
  rw [Int.natCast_add] at hmk
  go_enter Tryz.func38, Tryz.ntmps38
  go_wp2
  go_loopw [21] (fun iv wr => ∃ (i : Nat) (p : Nat → Nat), i ≤ n ∧ iv = .int .i64 i ∧ wr.rowIs w.heap.size 78 (n + m) (fun j => .int .u64 (p j)) ∧ (∀ j, j < n + m → p j < R64) ∧ val p (i + m) = val f i * val g m ∧ Below w.heap.size w wr) (fun iv _ => n - (intOf iv).toNat)
  case atStart => exact ⟨0, fun _ => 0, Nat.zero_le _, rfl, World.rowIs_made _ _ _ _, fun _ _ => R64_pos, by rw [val_zero]; simp [val], (Below.refl _ _).alloc (Nat.le_refl _) _⟩
  case round =>
    obtain ⟨i, p, hin, rfl, hp, lp, hv, hb⟩ := hrel
    have HP := Lib.hid hp; have LP := Lib.hid lp; have HV := Lib.hid hv; have HB := Lib.hid hb
    clear hp lp hv hb
    by_cases hlt : i < n
    · rcases H.out with ⟨_, h1⟩ | ⟨b, off, cap2, h1, _, _, hbl, h5⟩
      · omega
      cases h1
      have c1 := cell_later HB.out (h5 i hlt)
      clear h5
      go_wp2
      obtain ⟨wo, hwo⟩ : ∃ wo : World, wo = wr := ⟨_, rfl⟩
      subst hwo
      go_loopw [8, 28] (fun cv kv wr => ∃ (k c : Nat) (q : Nat → Nat), k ≤ m ∧ kv = .int .i64 k ∧ cv = .int .u64 c ∧ c < R64 ∧ wr.rowIs w.heap.size 78 (n + m) (fun j => .int .u64 (q j)) ∧ (∀ j, j < n + m → q j < R64) ∧ (∀ j, i + k ≤ j → q j = p j) ∧
          val q (i + k) + c * R64 ^ (i + k) = val p (i + k) + f i * R64 ^ i * val g k ∧ Below w.heap.size w wr) (fun _ kv _ => m - (intOf kv).toNat)
      case atStart => exact ⟨0, 0, p, Nat.zero_le _, rfl, rfl, R64_pos, HP.out, LP.out, fun _ _ => rfl, by simp [val], HB.out⟩
      case round =>
        obtain ⟨k, c, q, hk, rfl, rfl, hc, hq, lq, he, hv, hb⟩ := hrel
        have HQ := Lib.hid hq; have LQ := Lib.hid lq; have HE := Lib.hid he; have HV2 := Lib.hid hv; have HB2 := Lib.hid hb
        clear hq lq he hv hb
        by_cases hkm : k < m
        · rcases H'.out with ⟨_, h1⟩ | ⟨b2, off2, cap3, h1, _, _, hbl2, h5⟩
          · omega
          cases h1
          have c2 := cell_later HB2.out (h5 k hkm)
          have lk := lg k hkm
          have c3 := HQ.out.cell (i := i + k) (by omega)
          have c4 := HQ.out.frozen (i + k)
          have lqk := LQ.out (i + k) (by omega)
          have lfi := lf i hlt
          have law := fun W => add64_run0 (q (i + k)) (lo (g k * f i + c)) W
          rw [Nat.add_comm (q (i + k))] at law
          have hw : IntKind.u64.wrap ((hi (g k * f i + c) : Int) + hi (lo (g k * f i + c) + q (i + k))) = (hi (g k * f i + c + q (i + k)) : Int) := by
            rw [← Int.natCast_add, hi_add, wrap_u64 _ (mad2_lt lk lfi hc lqk)]
          clear h5
          go_wp2_with ((go_at_call 71; refine (multiplyAdd_any _ _ _ lk lfi hc _).mono ?_; rintro e w' ⟨rfl, rfl⟩))
          go_roundw
          case rel => exact ⟨k + 1, _, _, by omega, rfl, rfl, mad2_lt lk lfi hc lqk, row_set HQ.out _ _, upd_lim LQ.out (lo_lt _), fun j hj => by rw [upd_ne _ _ (by omega)]; exact HE.out j (by omega), by rw [lo_add]; exact times_step HV2.out (HE.out _ (Nat.le_refl _)), HB2.out.setCell (Nat.le_refl _) _⟩
          case measure => simp [intOf]; omega
        · obtain rfl : k = m := by omega
          have c3 := HQ.out.cell (i := i + k) (by omega)
          have c4 := HQ.out.frozen (i + k)
          go_wp2
          go_roundw
          case rel => exact ⟨i + 1, upd q (i + k) c, by omega, rfl, row_set HQ.out _ _, upd_lim LQ.out hc, times_row HV2.out HV.out, HB2.out.setCell (Nat.le_refl _) _⟩
          case measure => simp [intOf]; omega
    · obtain rfl : i = n := by omega
      have c1 := HP.out.lt
      go_wp2_with fail
      refine (trim_own w.heap.size _ (i + m) p wr (Own.of_rowIs HP.out (Nat.le_refl _) (by unfold maxLen; omega) (Nat.le_refl _)) LP.out).mono ?_
      rintro e w3 ⟨⟨u2, rfl, hu2, hob2⟩, rfl⟩
      have HU2 := Lib.hid hu2; clear hu2 hob2
      go_wp2_with fail
      go_ret
      exact ⟨u2, rfl, by rw [← HV.out]; exact HU2.out, HB.out⟩
/-- times: the product. -/
theorem times_any (v v' : Value) (x y : Nat) (w : World) (h : NatV w v x) (h' : NatV w v' y) (hx : x < Big) (hy : y < Big) :
    Calls Tryz.prog 38 #[v, v'] w (RetNatOwn (x * y) w) := by
  obtain ⟨n, f, h1, h2, rfl, h4⟩ := h.small hx
  obtain ⟨k, g, l1, l2, rfl, l4⟩ := h'.small hy
  obtain ⟨a, c, rfl⟩ := h1.shape
  obtain ⟨a', c', rfl⟩ := l1.shape
  exact times_core n k a a' c c' f g w h4 l4 h1 l1 h2.lim l2.lim
end Go.Proofs.YtkggfeemjabdeaaGreatDoor
end
