/- Layer 9 (unit): the first boxes that have something in common. Layer 9 (unit): Clash, of the code and of the document; the law of clashes. -/
import Derived.Test.YtmfhkiklpiocoaaPb11
section
namespace Go.Proofs.Ytmfhkiklpiocoaa.Un
open Go Go.Proofs.Ytmfhkiklpiocoaa.Sx Go.RowKit

/-! tables of its own: a list of boxes beside one box's seven numbers -/
def clash14 (f : Nat → Int) : Bool := decide (f 6 = f 13) && meetB (f 4) (f 5) (f 11) (f 12) && meetB (f 0) (f 2) (f 7) (f 9) && meetB (f 1) (f 3) (f 8) (f 10)
def hC : Nat → LL → Bool
  | 11, l => allTo (nI l 0) fun k => !clashB (l.drop 1) 0 (l.drop 8) k
  | 12, l => !clashB (l.drop 1) 0 (l.drop 8) (nI l 0)
  | 10, l => allTo (nI l 0) (fun i => allTo (nI l 1) (fun k => !clashB ((l.drop 3).take (7 * nI l 2).toNat) i ((l.drop 3).drop (7 * nI l 2).toNat) k))
  | _, _ => false
def FT : Tb := Tb.open { tab := fun g h _ _ => g = gF ∧ h = hC }
def ab : E := .lcat (.lv 0) (.lv 1)
def cons7 (f : Nat → E) (l : E) : E := .cons (f 0) (.cons (f 1) (.cons (f 2) (.cons (f 3) (.cons (f 4) (.cons (f 5) (.cons (f 6) l))))))
/-- one box beside the box j of a list. -/
def oneVs (f : Nat → E) (b j : E) : List V := ((List.range 7).map fun r => .i .i64 (f r)) ++ instVs 7 b j
def seven (a0 a1 a2 a3 a4 a5 a6 : E) : Nat → E | 0 => a0 | 1 => a1 | 2 => a2 | 3 => a3 | 4 => a4 | 5 => a5 | _ => a6
def instP (atoms : List E) : E → E → List E
  | .cons a0 (.cons a1 (.cons a2 (.cons a3 (.cons a4 (.cons a5 (.cons a6 b)))))), j =>
    if (a0.isI && a1.isI && a2.isI && a3.isI && a4.isI && a5.isI && a6.isI) = true then [.not (conjE (atoms.map (E.subst 0 ((oneVs (seven a0 a1 a2 a3 a4 a5 a6) b j).map (V.asE [])))))]
    else [.happ 12 (.cons j (.cons a0 (.cons a1 (.cons a2 (.cons a3 (.cons a4 (.cons a5 (.cons a6 b))))))))]
  | xs, j => [.happ 12 (.cons j xs)]
def spPair (atoms : List E) : AllSp := ⟨11, instP atoms⟩
def inE (k i : E) : E := .happ 11 (.cons k (cons7 (fun r => nthF 7 (.lv 0) i r) (.lv 1)))
def outE (i : E) : E := .happ 10 (.cons i (.cons (.v 1) (.cons (.v 0) ab)))
def outL (key t : Nat) : LoopSpec := { key := key, locs := [.t t (.i .i64)], facts := fun n => [.le (.c 0) (.v n), .le (.v n) (.v 0), .le (.v n) (.c 1000000), outE (.v n)], meas := fun n => .sub (.v 0) (.v n) }
def inL (key t i : Nat) : LoopSpec := { key := key, locs := [.t t (.i .i64)], facts := fun n => [.le (.c 0) (.v n), .le (.v n) (.v 1), .le (.v n) (.c 1000000), inE (.v n) (.v i)], meas := fun n => .sub (.v 1) (.v n) }
def meetRA : List E := [.eq (.v 6) (.v 13), meetA 0 2 7 9, meetA 1 3 8 10, meetA 4 5 11 12]
def box2 : List AK := [rowK 7, rowK 7]
def boxN : List E := nN 0 ++ nN 1
def clashE (f : Nat) : E := .app f (.cons (.v 0) (.cons (.v 1) ab))
def clashV : V := .tup (V.ofL [.i .i64 (clashE 9), .i .i64 (clashE 10)])
def DF (atoms : List E) : Dec := decideL (decideH [spPair atoms])
theorem meet_ite (a b c d : Int) : (if a < c then c else a) ≤ (if d < b then d else b) ↔ max a c ≤ min b d := by
  rw [Int.max_def, Int.min_def]
  split <;> split <;> split <;> split <;> omega
theorem clash_atoms (ρ : Env) : allE ρ clashA = clash14 ρ.i := by
  simp [allE, clashA, meetA, clash14, meetB, meet_ite, Bool.and_assoc]
theorem meet_atoms (ρ : Env) : allE ρ meetRA = clash14 ρ.i := by
  simp only [allE, meetRA, meetA, List.all_cons, List.all_nil, Bool.and_true, B_eq, B_le, I_v, I_ite, B_lt, clash14, meetB, decide_eq_true_eq, meet_ite]
  cases decide (ρ.i 6 = ρ.i 13) <;> cases decide (max (ρ.i 0) (ρ.i 7) ≤ min (ρ.i 2) (ρ.i 9)) <;> cases decide (max (ρ.i 1) (ρ.i 8) ≤ min (ρ.i 3) (ρ.i 10)) <;> cases decide (max (ρ.i 4) (ρ.i 11) ≤ min (ρ.i 5) (ρ.i 12)) <;> rfl
theorem clashB_14 (a : LL) (i : Int) (b : LL) (k : Int) (f : Nat → Int) (h : ∀ r : Nat, r < 7 → f r = nI a (7 * i + r)) (h2 : ∀ r : Nat, r < 7 → f (7 + r) = nI b (7 * k + r)) : clash14 f = clashB a i b k := by
  have e0 : f 0 = nI a (7 * i) := by simpa using h 0 (by omega)
  have e1 : f 1 = nI a (7 * i + 1) := h 1 (by omega)
  have e2 : f 2 = nI a (7 * i + 2) := h 2 (by omega)
  have e3 : f 3 = nI a (7 * i + 3) := h 3 (by omega)
  have e4 : f 4 = nI a (7 * i + 4) := h 4 (by omega)
  have e5 : f 5 = nI a (7 * i + 5) := h 5 (by omega)
  have e6 : f 6 = nI a (7 * i + 6) := h 6 (by omega)
  have g0 : f 7 = nI b (7 * k) := by simpa using h2 0 (by omega)
  have g1 : f 8 = nI b (7 * k + 1) := h2 1 (by omega)
  have g2 : f 9 = nI b (7 * k + 2) := h2 2 (by omega)
  have g3 : f 10 = nI b (7 * k + 3) := h2 3 (by omega)
  have g4 : f 11 = nI b (7 * k + 4) := h2 4 (by omega)
  have g5 : f 12 = nI b (7 * k + 5) := h2 5 (by omega)
  have g6 : f 13 = nI b (7 * k + 6) := h2 6 (by omega)
  unfold clash14 clashB
  rw [e0, e1, e2, e3, e4, e5, e6, g0, g1, g2, g3, g4, g5, g6]
theorem spPair_ok {atoms : List E} (ha : ∀ ρ : Env, allE ρ atoms = clash14 ρ.i) : SpOk FT (spPair atoms) := fun ρ hT =>
  ⟨fun k l => !clashB l 0 (l.drop 7) k, fun e xs => by rw [B_happ]; simp only [spPair]; rw [hT.2]; rfl, fun xs j hj => by
    have gen : allE ρ [.happ 12 (.cons j xs)] = !clashB (xs.L ρ) 0 ((xs.L ρ).drop 7) (j.I ρ) := by
      simp only [allE, List.all_cons, List.all_nil, Bool.and_true, B_happ, hT.2]
      rfl
    simp only [spPair]
    unfold instP
    split
    · rename_i a0 a1 a2 a3 a4 a5 a6 b
      split
      · rename_i hi
        simp only [Bool.and_eq_true] at hi
        obtain ⟨⟨⟨⟨⟨⟨i0, i1⟩, i2⟩, i3⟩, i4⟩, i5⟩, i6⟩ := hi
        have e1 : allE ρ [.not (conjE (atoms.map (E.subst 0 ((oneVs (seven a0 a1 a2 a3 a4 a5 a6) b j).map (V.asE [])))))] = !(allE (ρ.assign 0 [] (oneVs (seven a0 a1 a2 a3 a4 a5 a6) b j)) atoms) := by
          simp only [allE, List.all_cons, List.all_nil, Bool.and_true, B_not, conjE_B, List.all_map, Function.comp_def, subst_B]
        rw [e1, ha]
        congr 1
        refine clashB_14 _ _ _ _ _ (fun r hr => ?_) (fun r hr => ?_)
        · have : ∀ r : Nat, r < 7 → (ρ.assign 0 [] (oneVs (seven a0 a1 a2 a3 a4 a5 a6) b j)).i r = (seven a0 a1 a2 a3 a4 a5 a6 r).I ρ := fun r hr => by
            match r, hr with
            | 0, _ => exact congrArg (E.I ρ) (compI_of i0)
            | 1, _ => exact congrArg (E.I ρ) (compI_of i1)
            | 2, _ => exact congrArg (E.I ρ) (compI_of i2)
            | 3, _ => exact congrArg (E.I ρ) (compI_of i3)
            | 4, _ => exact congrArg (E.I ρ) (compI_of i4)
            | 5, _ => exact congrArg (E.I ρ) (compI_of i5)
            | 6, _ => exact congrArg (E.I ρ) (compI_of i6)
          rw [this r hr]
          simp only [L_cons]
          match r, hr with
          | 0, _ => rfl
          | 1, _ => rfl
          | 2, _ => rfl
          | 3, _ => rfl
          | 4, _ => rfl
          | 5, _ => rfl
          | 6, _ => rfl
        · have : ∀ r : Nat, r < 7 → (ρ.assign 0 [] (oneVs (seven a0 a1 a2 a3 a4 a5 a6) b j)).i (7 + r) = (nthF 7 b j r).I ρ := fun r hr => by
            match r, hr with
            | 0, _ => rfl
            | 1, _ => rfl
            | 2, _ => rfl
            | 3, _ => rfl
            | 4, _ => rfl
            | 5, _ => rfl
            | 6, _ => rfl
          rw [this r hr, nthF_I hj hr]
          simp only [L_cons, List.drop_succ_cons, List.drop_zero]
          rfl
      · exact gen
    · exact gen⟩
theorem clashI_is {n m i k : Int} {A B : LL} (h0 : 0 ≤ i) (hi : i < n) (k0 : 0 ≤ k) (hk : k < m) (hc : clashB A i B k = true) (ho : allTo i (fun i => allTo m fun k => !clashB A i B k) = true) : clashI n m A B = i := by
  unfold clashI
  refine firstB_is h0 hi ?_ (by simpa using ho)
  rw [allTo_not k0 hk (by simp [hc])]
  rfl
theorem clashK_is {n m i k : Int} {A B : LL} (h0 : 0 ≤ i) (k0 : 0 ≤ k) (hk : k < m) (hI : clashI n m A B = i) (hc : clashB A i B k = true) (ho : allTo k (fun k => !clashB A i B k) = true) : clashK n m A B = k := by
  unfold clashK
  rw [hI, if_neg (by omega)]
  exact firstB_is k0 hk hc ho
theorem clashI_none {n m : Int} {A B : LL} (ho : allTo n (fun i => allTo m fun k => !clashB A i B k) = true) : clashI n m A B = -1 := firstB_none (by simpa using ho)
theorem clashK_none {n m : Int} {A B : LL} (h : clashI n m A B = -1) : clashK n m A B = -1 := by unfold clashK; rw [if_pos h]
end Go.Proofs.Ytmfhkiklpiocoaa.Un
end
section
namespace Go.Proofs.Ytmfhkiklpiocoaa.Un
open Go Go.Proofs.Ytmfhkiklpiocoaa.Sx Go.RowKit

def clL : List LoopSpec := [outL 2 12, inL 5 19 2]
def clR : List LoopSpec := [outL 2 6, inL 5 7 2]
def cClashS := ctrVal 39 box2 (nL 0 ++ nL 1) clashV []
def cClashR := ctrVal 40 box2 (nL 0 ++ nL 1) clashV []
theorem clashB_congr {a a' b : LL} {i i' k : Int} (h : ∀ r : Nat, r < 7 → nI a (7 * i + r) = nI a' (7 * i' + r)) : clashB a i b k = clashB a' i' b k := by
  rw [← clashB_14 a i b k (fun r => if r < 7 then nI a (7 * i + r) else nI b (7 * k + (r - 7 : Nat))) (fun r hr => by simp [hr]) (fun r hr => by simp only [show ¬ (7 + r < 7) by omega, if_false]; rw [show 7 + r - 7 = r by omega])]
  exact clashB_14 a' i' b k _ (fun r hr => by simp only [hr, if_true]; exact h r hr) (fun r hr => by simp only [show ¬ (7 + r < 7) by omega, if_false]; rw [show 7 + r - 7 = r by omega])
section
variable {ρ : Env}
theorem take_rows {l0 l1 : LL} {n : Int} (hl : l0.length = n.toNat * 7) (h0 : 0 ≤ n) : (l0 ++ l1).take (7 * n).toNat = l0 ∧ (l0 ++ l1).drop (7 * n).toNat = l1 := by
  have e : (7 * n).toNat = l0.length := by omega
  rw [e]
  exact ⟨List.take_left, List.drop_left⟩
theorem out_B (hh : ρ.h = hC) (hl : (ρ.l 0).length = (ρ.i 0).toNat * 7) (h0 : 0 ≤ ρ.i 0) (e : E) : (outE e).B ρ = allTo (e.I ρ) fun i => allTo (ρ.i 1) fun k => !clashB (ρ.l 0) i (ρ.l 1) k := by
  unfold outE
  rw [B_happ, hh]
  obtain ⟨t1, t2⟩ := take_rows (l1 := ρ.l 1) hl h0
  show allTo (e.I ρ) (fun i => allTo (ρ.i 1) fun k => !clashB ((ρ.l 0 ++ ρ.l 1).take (7 * ρ.i 0).toNat) i ((ρ.l 0 ++ ρ.l 1).drop (7 * ρ.i 0).toNat) k) = _
  rw [t1, t2]
theorem in_B (hh : ρ.h = hC) (k i : E) (hi : 0 ≤ i.I ρ) : (inE k i).B ρ = allTo (k.I ρ) fun j => !clashB (ρ.l 0) (i.I ρ) (ρ.l 1) j := by
  unfold inE
  rw [B_happ, hh]
  show allTo (k.I ρ) (fun j => !clashB ((cons7 (fun r => nthF 7 (.lv 0) i r) (.lv 1)).L ρ) 0 (ρ.l 1) j) = _
  congr 1
  funext j
  congr 1
  refine clashB_congr fun r hr => ?_
  have e := nthF_I (ρ := ρ) (s := 7) (xs := .lv 0) (j := i) hi hr
  simp only [L_lv] at e
  rw [show ((7 : Nat) : Int) = 7 from rfl] at e
  rw [← e]
  simp only [cons7, L_cons]
  match r, hr with
  | 0, _ => rfl
  | 1, _ => rfl
  | 2, _ => rfl
  | 3, _ => rfl
  | 4, _ => rfl
  | 5, _ => rfl
  | 6, _ => rfl
theorem clash_I (hg : ρ.g = gF) (hl : (ρ.l 0).length = (ρ.i 0).toNat * 7) (h0 : 0 ≤ ρ.i 0) : (clashE 9).I ρ = clashI (ρ.i 0) (ρ.i 1) (ρ.l 0) (ρ.l 1) ∧ (clashE 10).I ρ = clashK (ρ.i 0) (ρ.i 1) (ρ.l 0) (ρ.l 1) := by
  obtain ⟨t1, t2⟩ := take_rows (l1 := ρ.l 1) hl h0
  unfold clashE
  rw [I_app, I_app, hg]
  refine ⟨?_, ?_⟩
  · show clashI (ρ.i 0) (ρ.i 1) ((ρ.l 0 ++ ρ.l 1).take (7 * ρ.i 0).toNat) ((ρ.l 0 ++ ρ.l 1).drop (7 * ρ.i 0).toNat) = _
    rw [t1, t2]
  · show clashK (ρ.i 0) (ρ.i 1) ((ρ.l 0 ++ ρ.l 1).take (7 * ρ.i 0).toNat) ((ρ.l 0 ++ ρ.l 1).drop (7 * ρ.i 0).toNat) = _
    rw [t1, t2]
theorem clashV_den (a b : E) : V.den ρ (.tup (V.ofL [.i .i64 a, .i .i64 b])) = .tuple #[.int .i64 (a.I ρ), .int .i64 (b.I ρ)] := rfl
end
/-- What the facts of a pair that clashes say. -/
theorem here {ρ ρ' : Env} (hx : Ext 2 ρ ρ') (hg : ρ'.g = gF) (hh : ρ'.h = hC) (hl : (ρ.l 0).length = (ρ.i 0).toNat * 7) (h0 : 0 ≤ ρ.i 0) {c : Nat} (hc : clashB (ρ'.l 0) (ρ'.i 2) (ρ'.l 1) (ρ'.i c) = true) (hk : ρ'.i c < ρ'.i 1) (k0 : 0 ≤ ρ'.i c) (hi : ρ'.i 2 < ρ'.i 0) (i0 : 0 ≤ ρ'.i 2)
    (hin : (inE (.v c) (.v 2)).B ρ' = true) (hout : (outE (.v 2)).B ρ' = true) : V.den ρ' (.tup (V.ofL [.i .i64 (.v 2), .i .i64 (.v c)])) = clashV.den ρ := by
  have x0 := hx.i 0 (by decide); have x1 := hx.i 1 (by decide); have l0 := hx.l 0 (by decide); have l1 := hx.l 1 (by decide)
  rw [in_B hh (.v c) (.v 2) (by simpa using i0)] at hin
  rw [out_B hh (by rw [x0, l0]; exact hl) (by rw [x0]; exact h0)] at hout
  simp only [I_v] at hin hout
  rw [x0] at hi
  rw [x1] at hk hout
  rw [l0, l1] at hc hin hout
  have e1 := clashI_is i0 hi k0 hk hc hout
  have e2 := clashK_is i0 k0 hk e1 hc hin
  obtain ⟨c1, c2⟩ := clash_I (ρ := ρ) (by rw [← hx.g]; exact hg) hl h0
  unfold clashV
  rw [clashV_den, clashV_den, c1, c2, e1, e2]
  rfl
theorem nowhere {ρ ρ' : Env} (hx : Ext 2 ρ ρ') (hg : ρ'.g = gF) (hh : ρ'.h = hC) (hl : (ρ.l 0).length = (ρ.i 0).toNat * 7) (h0 : 0 ≤ ρ.i 0) (hi : ρ'.i 0 ≤ ρ'.i 2) (hi' : ρ'.i 2 ≤ ρ'.i 0) (hout : (outE (.v 2)).B ρ' = true) :
    V.den ρ' (.tup (V.ofL [.i .i64 (.c (-1)), .i .i64 (.c (-1))])) = clashV.den ρ := by
  have x0 := hx.i 0 (by decide); have x1 := hx.i 1 (by decide); have l0 := hx.l 0 (by decide); have l1 := hx.l 1 (by decide)
  rw [out_B hh (by rw [x0, l0]; exact hl) (by rw [x0]; exact h0)] at hout
  simp only [I_v] at hout
  rw [show ρ'.i 2 = ρ.i 0 by omega, x1, l0, l1] at hout
  have e1 := clashI_none hout
  have e2 := clashK_none e1
  obtain ⟨c1, c2⟩ := clash_I (ρ := ρ) (by rw [← hx.g]; exact hg) hl h0
  unfold clashV
  rw [clashV_den, clashV_den, c1, c2, e1, e2]
  rfl
theorem onward {ρ ρ' : Env} (hx : Ext 2 ρ ρ') (hh : ρ'.h = hC) (hl : (ρ.l 0).length = (ρ.i 0).toNat * 7) (h0 : 0 ≤ ρ.i 0) {c : Nat} (hk : ρ'.i 1 ≤ ρ'.i c) (i0 : 0 ≤ ρ'.i 2) (hin : (inE (.v c) (.v 2)).B ρ' = true) (hout : (outE (.v 2)).B ρ' = true) : (outE (.add (.v 2) (.c 1))).B ρ' = true := by
  have x0 := hx.i 0 (by decide); have l0 := hx.l 0 (by decide)
  rw [in_B hh (.v c) (.v 2) (by simpa using i0)] at hin
  rw [out_B hh (by rw [x0, l0]; exact hl) (by rw [x0]; exact h0)] at hout ⊢
  simp only [I_v, I_add, I_c] at hin hout ⊢
  rw [allTo_succ i0, hout]
  exact allTo_of fun k k0 hk' => allTo_at hin k0 (by omega)
theorem boxN_of {ρ : Env} {w : World} (hR : RowsAt ρ w box2) (h : holds ρ (nL 0 ++ nL 1)) : holds ρ boxN ∧ (ρ.l 0).length = (ρ.i 0).toNat * 7 ∧ 0 ≤ ρ.i 0 := by
  have m0 : (0, rowL 0 (ints 7)) ∈ rowsL 0 (ksOf box2) := by decide
  have m1 : (1, rowL 1 (ints 7)) ∈ rowsL 0 (ksOf box2) := by decide
  refine ⟨fun e he => ?_, (row_facts hR m0).2, (row_facts hR m0).1⟩
  rcases List.mem_append.1 he with he | he
  · exact nN_of hR m0 (fun x hx => h x (List.mem_append_left _ hx)) e he
  · exact nN_of hR m1 (fun x hx => h x (List.mem_append_right _ hx)) e he
theorem clash_of {ρ : Env} {c : Nat} (a1 : nI (ρ.l 0) (7 * ρ.i 2 + 6) = nI (ρ.l 1) (7 * ρ.i c + 6))
    (a2 : max (nI (ρ.l 0) (7 * ρ.i 2 + 4)) (nI (ρ.l 1) (7 * ρ.i c + 4)) ≤ min (nI (ρ.l 0) (7 * ρ.i 2 + 5)) (nI (ρ.l 1) (7 * ρ.i c + 5)))
    (a3 : max (nI (ρ.l 0) (7 * ρ.i 2)) (nI (ρ.l 1) (7 * ρ.i c)) ≤ min (nI (ρ.l 0) (7 * ρ.i 2 + 2)) (nI (ρ.l 1) (7 * ρ.i c + 2)))
    (a4 : max (nI (ρ.l 0) (7 * ρ.i 2 + 1)) (nI (ρ.l 1) (7 * ρ.i c + 1)) ≤ min (nI (ρ.l 0) (7 * ρ.i 2 + 3)) (nI (ρ.l 1) (7 * ρ.i c + 3))) : clashB (ρ.l 0) (ρ.i 2) (ρ.l 1) (ρ.i c) = true := by
  unfold clashB meetB
  simp [a1, a2, a3, a4]
theorem nthI_nI {ρ : Env} (l : Nat) (j : E) : (E.nthI (.lv l) j).I ρ = nI (ρ.l l) (j.I ρ) := rfl
theorem DF_ok {atoms : List E} (ha : ∀ ρ : Env, allE ρ atoms = clash14 ρ.i) : DecOk FT (DF atoms) := decideL_ok (decideH_ok (fun s hs => by cases List.mem_singleton.1 hs; exact spPair_ok ha))
set_option maxHeartbeats 4000000 in
theorem ClashS_calls (ρ : Env) (w : World) (hF : holds ρ (nL 0 ++ nL 1)) (hT : FT.tab ρ.g ρ.h ρ.k ρ.m) (hR : RowsAt ρ w box2) : Calls Try.prog 39 (arr ρ (patAs 0 box2)) w fun e w' => (e = .returned (clashV.den ρ) ∧ ∀ e ∈ ([] : List E), e.B ρ = true) ∧ Below w.heap.size w w' := by
  obtain ⟨hN, hl, h0⟩ := boxN_of hR hF
  refine (val_rest (TT := FT) (DF_ok (atoms := clashA) clash_atoms) (Γ := { calls := [cClash], loops := clL }) (by simpa using clash_ok (TT := FT.open) (fun _ => trivial)) 400 box2 boxN clashV rfl
    [⟨(.must (.happ 10 (.cons (.c 0) (.cons (.v 1) (.cons (.v 0) (.lcat (.lv 0) (.lv 1))))))), [(.le (.c 0) (.v 0)), (.le (.v 0) (.c 1000000)), (.le (.c 0) (.v 1)), (.le (.v 1) (.c 1000000))], []⟩,
⟨(.val (.tup (.cons (.i .i64 (.v 2)) (.cons (.i .i64 (.v 28)) .nil)))), [(.eq (.nthI (.lv 0) (.add (.mul (.v 2) (.c 7)) (.c 6))) (.nthI (.lv 1) (.add (.mul (.v 28) (.c 7)) (.c 6)))), (.le (.ite (.lt (.nthI (.lv 0) (.add (.mul (.v 2) (.c 7)) (.c 4))) (.nthI (.lv 1) (.add (.mul (.v 28) (.c 7)) (.c 4)))) (.nthI (.lv 1) (.add (.mul (.v 28) (.c 7)) (.c 4))) (.nthI (.lv 0) (.add (.mul (.v 2) (.c 7)) (.c 4)))) (.ite (.lt (.nthI (.lv 1) (.add (.mul (.v 28) (.c 7)) (.c 5))) (.nthI (.lv 0) (.add (.mul (.v 2) (.c 7)) (.c 5)))) (.nthI (.lv 1) (.add (.mul (.v 28) (.c 7)) (.c 5))) (.nthI (.lv 0) (.add (.mul (.v 2) (.c 7)) (.c 5))))), (.le (.ite (.lt (.nthI (.lv 0) (.mul (.v 2) (.c 7))) (.nthI (.lv 1) (.mul (.v 28) (.c 7)))) (.nthI (.lv 1) (.mul (.v 28) (.c 7))) (.nthI (.lv 0) (.mul (.v 2) (.c 7)))) (.ite (.lt (.nthI (.lv 1) (.add (.mul (.v 28) (.c 7)) (.c 2))) (.nthI (.lv 0) (.add (.mul (.v 2) (.c 7)) (.c 2)))) (.nthI (.lv 1) (.add (.mul (.v 28) (.c 7)) (.c 2))) (.nthI (.lv 0) (.add (.mul (.v 2) (.c 7)) (.c 2))))), (.le (.ite (.lt (.nthI (.lv 0) (.add (.mul (.v 2) (.c 7)) (.c 1))) (.nthI (.lv 1) (.add (.mul (.v 28) (.c 7)) (.c 1)))) (.nthI (.lv 1) (.add (.mul (.v 28) (.c 7)) (.c 1))) (.nthI (.lv 0) (.add (.mul (.v 2) (.c 7)) (.c 1)))) (.ite (.lt (.nthI (.lv 1) (.add (.mul (.v 28) (.c 7)) (.c 3))) (.nthI (.lv 0) (.add (.mul (.v 2) (.c 7)) (.c 3)))) (.nthI (.lv 1) (.add (.mul (.v 28) (.c 7)) (.c 3))) (.nthI (.lv 0) (.add (.mul (.v 2) (.c 7)) (.c 3))))), (.lt (.v 28) (.v 1)), (.le (.c 0) (.v 28)), (.le (.v 28) (.v 1)), (.le (.v 28) (.c 1000000)), (.happ 11 (.cons (.v 28) (.cons (.nthI (.lv 0) (.mul (.v 2) (.c 7))) (.cons (.nthI (.lv 0) (.add (.mul (.v 2) (.c 7)) (.c 1))) (.cons (.nthI (.lv 0) (.add (.mul (.v 2) (.c 7)) (.c 2))) (.cons (.nthI (.lv 0) (.add (.mul (.v 2) (.c 7)) (.c 3))) (.cons (.nthI (.lv 0) (.add (.mul (.v 2) (.c 7)) (.c 4))) (.cons (.nthI (.lv 0) (.add (.mul (.v 2) (.c 7)) (.c 5))) (.cons (.nthI (.lv 0) (.add (.mul (.v 2) (.c 7)) (.c 6))) (.lv 1)))))))))), (.lt (.v 2) (.v 0)), (.le (.c 0) (.v 2)), (.le (.v 2) (.v 0)), (.le (.v 2) (.c 1000000)), (.happ 10 (.cons (.v 2) (.cons (.v 1) (.cons (.v 0) (.lcat (.lv 0) (.lv 1)))))), (.le (.c 0) (.v 0)), (.le (.v 0) (.c 1000000)), (.le (.c 0) (.v 1)), (.le (.v 1) (.c 1000000))], []⟩,
⟨(.must (.happ 10 (.cons (.add (.v 2) (.c 1)) (.cons (.v 1) (.cons (.v 0) (.lcat (.lv 0) (.lv 1))))))), [(.le (.v 1) (.v 28)), (.le (.c 0) (.v 28)), (.le (.v 28) (.v 1)), (.le (.v 28) (.c 1000000)), (.happ 11 (.cons (.v 28) (.cons (.nthI (.lv 0) (.mul (.v 2) (.c 7))) (.cons (.nthI (.lv 0) (.add (.mul (.v 2) (.c 7)) (.c 1))) (.cons (.nthI (.lv 0) (.add (.mul (.v 2) (.c 7)) (.c 2))) (.cons (.nthI (.lv 0) (.add (.mul (.v 2) (.c 7)) (.c 3))) (.cons (.nthI (.lv 0) (.add (.mul (.v 2) (.c 7)) (.c 4))) (.cons (.nthI (.lv 0) (.add (.mul (.v 2) (.c 7)) (.c 5))) (.cons (.nthI (.lv 0) (.add (.mul (.v 2) (.c 7)) (.c 6))) (.lv 1)))))))))), (.lt (.v 2) (.v 0)), (.le (.c 0) (.v 2)), (.le (.v 2) (.v 0)), (.le (.v 2) (.c 1000000)), (.happ 10 (.cons (.v 2) (.cons (.v 1) (.cons (.v 0) (.lcat (.lv 0) (.lv 1)))))), (.le (.c 0) (.v 0)), (.le (.v 0) (.c 1000000)), (.le (.c 0) (.v 1)), (.le (.v 1) (.c 1000000))], []⟩,
⟨(.val (.tup (.cons (.i .i64 (.c (-1))) (.cons (.i .i64 (.c (-1))) .nil)))), [(.le (.v 0) (.v 2)), (.le (.c 0) (.v 2)), (.le (.v 2) (.v 0)), (.le (.v 2) (.c 1000000)), (.happ 10 (.cons (.v 2) (.cons (.v 1) (.cons (.v 0) (.lcat (.lv 0) (.lv 1)))))), (.le (.c 0) (.v 0)), (.le (.v 0) (.c 1000000)), (.le (.c 0) (.v 1)), (.le (.v 1) (.c 1000000))], []⟩] (by kernel_rfl) ρ w hN hT hR ⟨?_, ?_, ?_, ?_⟩).mono fun e w' ⟨h1, h2⟩ => ⟨⟨h1, fun _ h => by cases h⟩, h2⟩
  · intro ρ' w' hx hT' hF hb _
    exact (B_happ ..).trans (by rw [hT'.2]; rfl)
  · intro ρ' w' hx hT' hF hb _
    simp only [holds, List.mem_cons, List.not_mem_nil, or_false, forall_eq_or_imp, forall_eq] at hF
    obtain ⟨a1, a2, a3, a4, hk, k0, -, -, hin, hi, i0, -, -, hout, -⟩ := hF
    simp only [B_eq, B_le, B_lt, I_ite, nthI_nI, I_add, I_mul, I_v, I_c, decide_eq_true_eq, meet_ite, Int.mul_comm _ 7] at a1 a2 a3 a4 hk k0 hi i0
    exact ⟨congrArg _ (here hx hT'.1 hT'.2 hl h0 (clash_of a1 a2 a3 a4) hk k0 hi i0 hin hout), hb⟩
  · intro ρ' w' hx hT' hF hb _
    simp only [holds, List.mem_cons, List.not_mem_nil, or_false, forall_eq_or_imp, forall_eq] at hF
    obtain ⟨hk, -, -, -, hin, -, i0, -, -, hout, -⟩ := hF
    simp only [B_le, I_v, I_c, decide_eq_true_eq] at hk i0
    exact onward hx hT'.2 hl h0 hk i0 hin hout
  · intro ρ' w' hx hT' hF hb _
    simp only [holds, List.mem_cons, List.not_mem_nil, or_false, forall_eq_or_imp, forall_eq] at hF
    obtain ⟨hi, -, hi', -, hout, -⟩ := hF
    simp only [B_le, I_v, decide_eq_true_eq] at hi hi'
    exact ⟨congrArg _ (nowhere hx hT'.1 hT'.2 hl h0 hi hi' hout), hb⟩
theorem ClashS_ok : CtrOk FT Try.prog cClashS := ctrVal_ok rfl ClashS_calls
set_option maxHeartbeats 4000000 in
theorem ClashR_ok : CtrOk FT Try.prog cClashR := ctrVal_ok rfl fun ρ w hF hT hR => by
  obtain ⟨hN, hl, h0⟩ := boxN_of hR hF
  refine (val_rest (TT := FT) (DF_ok (atoms := meetRA) meet_atoms) (Γ := { calls := [cMeet], loops := clR }) (by simpa using meet_ok (TT := FT.open) (fun _ => trivial)) 400 box2 boxN clashV rfl
    [⟨(.must (.happ 10 (.cons (.c 0) (.cons (.v 1) (.cons (.v 0) (.lcat (.lv 0) (.lv 1))))))), [(.le (.c 0) (.v 0)), (.le (.v 0) (.c 1000000)), (.le (.c 0) (.v 1)), (.le (.v 1) (.c 1000000))], []⟩,
⟨(.val (.tup (.cons (.i .i64 (.v 2)) (.cons (.i .i64 (.v 29)) .nil)))), [(.eq (.nthI (.lv 0) (.add (.mul (.v 2) (.c 7)) (.c 6))) (.nthI (.lv 1) (.add (.mul (.v 29) (.c 7)) (.c 6)))), (.le (.ite (.lt (.nthI (.lv 0) (.mul (.v 2) (.c 7))) (.nthI (.lv 1) (.mul (.v 29) (.c 7)))) (.nthI (.lv 1) (.mul (.v 29) (.c 7))) (.nthI (.lv 0) (.mul (.v 2) (.c 7)))) (.ite (.lt (.nthI (.lv 1) (.add (.mul (.v 29) (.c 7)) (.c 2))) (.nthI (.lv 0) (.add (.mul (.v 2) (.c 7)) (.c 2)))) (.nthI (.lv 1) (.add (.mul (.v 29) (.c 7)) (.c 2))) (.nthI (.lv 0) (.add (.mul (.v 2) (.c 7)) (.c 2))))), (.le (.ite (.lt (.nthI (.lv 0) (.add (.mul (.v 2) (.c 7)) (.c 1))) (.nthI (.lv 1) (.add (.mul (.v 29) (.c 7)) (.c 1)))) (.nthI (.lv 1) (.add (.mul (.v 29) (.c 7)) (.c 1))) (.nthI (.lv 0) (.add (.mul (.v 2) (.c 7)) (.c 1)))) (.ite (.lt (.nthI (.lv 1) (.add (.mul (.v 29) (.c 7)) (.c 3))) (.nthI (.lv 0) (.add (.mul (.v 2) (.c 7)) (.c 3)))) (.nthI (.lv 1) (.add (.mul (.v 29) (.c 7)) (.c 3))) (.nthI (.lv 0) (.add (.mul (.v 2) (.c 7)) (.c 3))))), (.le (.ite (.lt (.nthI (.lv 0) (.add (.mul (.v 2) (.c 7)) (.c 4))) (.nthI (.lv 1) (.add (.mul (.v 29) (.c 7)) (.c 4)))) (.nthI (.lv 1) (.add (.mul (.v 29) (.c 7)) (.c 4))) (.nthI (.lv 0) (.add (.mul (.v 2) (.c 7)) (.c 4)))) (.ite (.lt (.nthI (.lv 1) (.add (.mul (.v 29) (.c 7)) (.c 5))) (.nthI (.lv 0) (.add (.mul (.v 2) (.c 7)) (.c 5)))) (.nthI (.lv 1) (.add (.mul (.v 29) (.c 7)) (.c 5))) (.nthI (.lv 0) (.add (.mul (.v 2) (.c 7)) (.c 5))))), (.lt (.v 29) (.v 1)), (.le (.c 0) (.v 29)), (.le (.v 29) (.v 1)), (.le (.v 29) (.c 1000000)), (.happ 11 (.cons (.v 29) (.cons (.nthI (.lv 0) (.mul (.v 2) (.c 7))) (.cons (.nthI (.lv 0) (.add (.mul (.v 2) (.c 7)) (.c 1))) (.cons (.nthI (.lv 0) (.add (.mul (.v 2) (.c 7)) (.c 2))) (.cons (.nthI (.lv 0) (.add (.mul (.v 2) (.c 7)) (.c 3))) (.cons (.nthI (.lv 0) (.add (.mul (.v 2) (.c 7)) (.c 4))) (.cons (.nthI (.lv 0) (.add (.mul (.v 2) (.c 7)) (.c 5))) (.cons (.nthI (.lv 0) (.add (.mul (.v 2) (.c 7)) (.c 6))) (.lv 1)))))))))), (.lt (.v 2) (.v 0)), (.le (.c 0) (.v 2)), (.le (.v 2) (.v 0)), (.le (.v 2) (.c 1000000)), (.happ 10 (.cons (.v 2) (.cons (.v 1) (.cons (.v 0) (.lcat (.lv 0) (.lv 1)))))), (.le (.c 0) (.v 0)), (.le (.v 0) (.c 1000000)), (.le (.c 0) (.v 1)), (.le (.v 1) (.c 1000000))], []⟩,
⟨(.must (.happ 10 (.cons (.add (.v 2) (.c 1)) (.cons (.v 1) (.cons (.v 0) (.lcat (.lv 0) (.lv 1))))))), [(.le (.v 1) (.v 29)), (.le (.c 0) (.v 29)), (.le (.v 29) (.v 1)), (.le (.v 29) (.c 1000000)), (.happ 11 (.cons (.v 29) (.cons (.nthI (.lv 0) (.mul (.v 2) (.c 7))) (.cons (.nthI (.lv 0) (.add (.mul (.v 2) (.c 7)) (.c 1))) (.cons (.nthI (.lv 0) (.add (.mul (.v 2) (.c 7)) (.c 2))) (.cons (.nthI (.lv 0) (.add (.mul (.v 2) (.c 7)) (.c 3))) (.cons (.nthI (.lv 0) (.add (.mul (.v 2) (.c 7)) (.c 4))) (.cons (.nthI (.lv 0) (.add (.mul (.v 2) (.c 7)) (.c 5))) (.cons (.nthI (.lv 0) (.add (.mul (.v 2) (.c 7)) (.c 6))) (.lv 1)))))))))), (.lt (.v 2) (.v 0)), (.le (.c 0) (.v 2)), (.le (.v 2) (.v 0)), (.le (.v 2) (.c 1000000)), (.happ 10 (.cons (.v 2) (.cons (.v 1) (.cons (.v 0) (.lcat (.lv 0) (.lv 1)))))), (.le (.c 0) (.v 0)), (.le (.v 0) (.c 1000000)), (.le (.c 0) (.v 1)), (.le (.v 1) (.c 1000000))], []⟩,
⟨(.val (.tup (.cons (.i .i64 (.c (-1))) (.cons (.i .i64 (.c (-1))) .nil)))), [(.le (.v 0) (.v 2)), (.le (.c 0) (.v 2)), (.le (.v 2) (.v 0)), (.le (.v 2) (.c 1000000)), (.happ 10 (.cons (.v 2) (.cons (.v 1) (.cons (.v 0) (.lcat (.lv 0) (.lv 1)))))), (.le (.c 0) (.v 0)), (.le (.v 0) (.c 1000000)), (.le (.c 0) (.v 1)), (.le (.v 1) (.c 1000000))], []⟩] (by kernel_rfl) ρ w hN hT hR ⟨?_, ?_, ?_, ?_⟩).mono fun e w' ⟨h1, h2⟩ => ⟨⟨h1, fun _ h => by cases h⟩, h2⟩
  · intro ρ' w' hx hT' hF hb _
    exact (B_happ ..).trans (by rw [hT'.2]; rfl)
  · intro ρ' w' hx hT' hF hb _
    simp only [holds, List.mem_cons, List.not_mem_nil, or_false, forall_eq_or_imp, forall_eq] at hF
    obtain ⟨a1, a3, a4, a2, hk, k0, -, -, hin, hi, i0, -, -, hout, -⟩ := hF
    simp only [B_eq, B_le, B_lt, I_ite, nthI_nI, I_add, I_mul, I_v, I_c, decide_eq_true_eq, meet_ite, Int.mul_comm _ 7] at a1 a2 a3 a4 hk k0 hi i0
    exact ⟨congrArg _ (here hx hT'.1 hT'.2 hl h0 (clash_of a1 a2 a3 a4) hk k0 hi i0 hin hout), hb⟩
  · intro ρ' w' hx hT' hF hb _
    simp only [holds, List.mem_cons, List.not_mem_nil, or_false, forall_eq_or_imp, forall_eq] at hF
    obtain ⟨hk, -, -, -, hin, -, i0, -, -, hout, -⟩ := hF
    simp only [B_le, I_v, I_c, decide_eq_true_eq] at hk i0
    exact onward hx hT'.2 hl h0 hk i0 hin hout
  · intro ρ' w' hx hT' hF hb _
    simp only [holds, List.mem_cons, List.not_mem_nil, or_false, forall_eq_or_imp, forall_eq] at hF
    obtain ⟨hi, -, hi', -, hout, -⟩ := hF
    simp only [B_le, I_v, decide_eq_true_eq] at hi hi'
    exact ⟨congrArg _ (nowhere hx hT'.1 hT'.2 hl h0 hi hi' hout), hb⟩

theorem awakeF_ok : CtrOk FT Try.prog cAwakeT := ctrVal_ok rfl fun ρ w _ _ _ =>
  (val_calls (TT := UT) (Γ := { calls := awakeCs }) awakeCs_ok (gas := 200) (f := 17) (aks := []) (F := []) (v := .b .tt) (by kernel_rfl) { ρ with g := gF, h := hF, m := mF } w (fun _ h => by cases h) ⟨⟨rfl, rfl⟩, rfl⟩ (fun _ h => by cases h) trivial).mono fun e w' ⟨h1, h2⟩ => ⟨⟨h1, fun _ h => by cases h⟩, h2⟩
def clashesF : List E := [.le (.c 0) (.v 0), .le (.v 0) (.c 9223372036854775807), .le (.c 0) (.v 1), .le (.v 1) (.c 9223372036854775807)]
def LawF (f : FuncId) (aks : List AK) (F : List E) : Prop := ∀ ρ w, holds ρ F → FT.tab ρ.g ρ.h ρ.k ρ.m → RowsAt ρ w aks → Calls Try.prog f (arr ρ (patAs 0 aks)) w fun e w' => e = .returned (.bool true) ∧ Below w.heap.size w w'
set_option maxHeartbeats 4000000 in
theorem clashes_law : LawF 11 box2 clashesF := fun ρ w hF hT hR =>
  val_rest (TT := FT) decB_ok (Γ := { calls := [cAwakeT, cClashS, cClashR] }) (by simpa using ⟨awakeF_ok, ClashS_ok, ClashR_ok⟩) 400 box2 clashesF (.b .tt) rfl [] (by kernel_rfl) ρ w hF hT hR trivial
end Go.Proofs.Ytmfhkiklpiocoaa.Un
end
