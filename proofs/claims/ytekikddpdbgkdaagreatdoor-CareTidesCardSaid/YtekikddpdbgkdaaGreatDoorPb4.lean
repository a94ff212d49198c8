/- Layer 11 (care): the law of tides. CareTides: whatever the arguments are, the law answers true. No condition of its own; the row lists a package-level variable, tied by the card to the program's text. -/
import Derived.Test.YtekikddpdbgkdaaGreatDoorPb1
import Derived.Test.YtekikddpdbgkdaaGreatDoorPb2
import Derived.Test.YtekikddpdbgkdaaGreatDoorPb3
import Derived.Test.YtekikddpdbgkdaaGreatDoorPa14
section
namespace Go.Proofs.YtekikddpdbgkdaaGreatDoor.Ca
open Go Go.Proofs.YtekikddpdbgkdaaGreatDoor.Sx Go.RowKit
theorem tidesG_ok : ∀ q ∈ tidesG.calls, CtrOk CT2.open Tryz.prog q := by
  simpa [tidesG] using ⟨awake2_open, cut_ok (ctr_noJ (tides_ok fit2_no)), cut_ok (ctr_noJ (aground_ok fit2_no)), ctr_noJ (float_ok fit2_no), ctr_noJ (offR_ok fit2_no)⟩
theorem of_run {F : List E} (h : runT F = true) {ρ : Env} {w : World} (hF : holds ρ lawTF) (hG : holds ρ F) (hT : CT2.tab ρ.g ρ.h ρ.k ρ.m) (hR : RowsAt ρ w lawTK) (hJ : Tab w) : Calls Tryz.prog 6 (arr ρ (patAs 0 lawTK)) w fun e w' => e = .returned (.bool true) ∧ Below w.heap.size w w' :=
  val_callsD (TT := CT2) dd_ok tidesG_ok h ρ w (fun e he => (List.mem_append.1 he).elim (hF e) (hG e)) hT hR hJ
theorem bad_run {F : List E} (h : F ∈ badF) : runT F = true := List.all_eq_true.1 run_bad F h
/-- A time of the tide, by any number. -/
theorem at_rng {t fr en m : Int} (h0 : 0 ≤ fr) (h1 : fr ≤ en) (h2 : en ≤ 10000000) (hm : m = en - fr + 1) : fr ≤ IntKind.i64.wrap (fr + (IntKind.i64.wrap (t.tmod m + m)).tmod m) ∧ IntKind.i64.wrap (fr + (IntKind.i64.wrap (t.tmod m + m)).tmod m) ≤ en := by
  have b1 : t.tmod m < m := Int.tmod_lt_of_pos t (by omega)
  have b2 : -m < t.tmod m := by
    have := Int.tmod_lt_of_pos (-t) (b := m) (by omega)
    rw [Int.neg_tmod] at this
    omega
  have w1 : IntKind.i64.wrap (t.tmod m + m) = t.tmod m + m := by rw [IntKind.wrap_i64]; omega
  rw [w1]
  have c1 := Int.tmod_nonneg m (show 0 ≤ t.tmod m + m by omega)
  have c2 := Int.tmod_lt_of_pos (t.tmod m + m) (b := m) (by omega)
  have w2 : IntKind.i64.wrap (fr + (t.tmod m + m).tmod m) = fr + (t.tmod m + m).tmod m := by rw [IntKind.wrap_i64]; omega
  rw [w2]
  omega
theorem ground_gl {a b c d e : Int} (h1 : 0 ≤ a ∧ a ≤ 100000) (h2 : -100000 ≤ b ∧ b ≤ 100000) (h3 : 1 ≤ c ∧ c ≤ 1000) (h4 : 0 ≤ d ∧ d ≤ 1000000) (h5 : 0 ≤ e ∧ e ≤ 1000) : groundB (gl a b c d e) = true := by
  show (decide (0 ≤ a ∧ a ≤ 100000) && decide (-100000 ≤ b ∧ b ≤ 100000) && decide (1 ≤ c ∧ c ≤ 1000) && decide (0 ≤ d ∧ d ≤ 1000000) && decide (0 ≤ e ∧ e ≤ 1000)) = true
  simp only [h1, h2, h3, h4, h5, and_self, decide_true, Bool.and_self]
theorem tides_law : Law2 6 lawTK lawTF := fun ρ w hF hT hR hJ => by
  have hg : ρ.g = g2F := hT.1
  have hh : ρ.h = h2F := hT.2
  have eT : tideE5.B ρ = tideB (ρ.i 5) (ρ.l 5) := by simp only [tideE5, tideApp hh, I_v, L_lv]
  have eG : groundE.B ρ = groundB (gR ρ) := by simp only [groundE, els, List.map, List.foldr, ground_G hh, I_v]
  have e0 : t0E.I ρ = tT (ρ.l 5) 0 := by simp only [t0E, I_nthI, L_lv, I_c, nI_eq, nI0]
  have eE : endE5.I ρ = tT (ρ.l 5) (ρ.i 5 - 1) := by simp only [endE5, tE, I_nthI, L_lv, I_mul, I_sub, I_v, I_c, nI_eq, tT_f]
  have eO : ∀ t : E, (offE5 t).B ρ = offT (gR ρ) (ρ.i 5) (ρ.l 5) (t.I ρ) := fun t => by simp only [offE5, tl, offApp hh, I_v, L_lv]
  have eZ : errE.I ρ = errZ (gR ρ) (ρ.i 5) (ρ.l 5) (ρ.i 6) := a12 hg
  by_cases ht : tideB (ρ.i 5) (ρ.l 5) = true
  case neg =>
    refine of_run (bad_run (F := [.not tideE5]) (by simp [badF])) hF (fun e he => ?_) hT hR hJ
    cases List.mem_singleton.1 he
    rw [B_not, eT]; simpa using ht
  by_cases hq : groundB (gR ρ) = true
  case neg =>
    refine of_run (bad_run (F := [.not groundE]) (by simp [badF])) hF (fun e he => ?_) hT hR hJ
    cases List.mem_singleton.1 he
    rw [B_not, eG]; simpa using hq
  have hn := tide_n ht
  have p0 := tide_at ht (k := 0) (by omega) (by omega)
  have pe := tide_at ht (k := ρ.i 5 - 1) (by omega) (by omega)
  have gr := (ground_E hh).1 (by rw [eG]; exact hq)
  rcases Int.lt_or_le (ρ.i 6) (tT (ρ.l 5) 0) with h0 | h0
  · have z : errZ (gR ρ) (ρ.i 5) (ρ.l 5) (ρ.i 6) = 4 := by unfold errZ; rw [if_pos ⟨ht, hq⟩, if_pos (Or.inl h0)]
    refine of_run (bad_run (List.mem_of_getElem? (i := 2) rfl)) hF ?_ hT hR hJ
    simp only [holds, List.mem_cons, List.not_mem_nil, or_false, forall_eq_or_imp, forall_eq, eT, eG, B_lt, B_le, B_eq, I_v, I_c, e0, eZ, decide_eq_true_eq]
    exact ⟨ht, hq, hn.1, hn.2, z, h0⟩
  rcases Int.lt_or_le (tT (ρ.l 5) (ρ.i 5 - 1)) (ρ.i 6) with h1 | h1
  · have z : errZ (gR ρ) (ρ.i 5) (ρ.l 5) (ρ.i 6) = 4 := by unfold errZ; rw [if_pos ⟨ht, hq⟩, if_pos (Or.inr h1)]
    refine of_run (bad_run (List.mem_of_getElem? (i := 3) rfl)) hF ?_ hT hR hJ
    simp only [holds, List.mem_cons, List.not_mem_nil, or_false, forall_eq_or_imp, forall_eq, eT, eG, B_lt, B_le, B_eq, I_v, I_c, eE, eZ, decide_eq_true_eq]
    exact ⟨ht, hq, hn.1, hn.2, z, h1⟩
  have hfr : tT (ρ.l 5) 0 ≤ ρ.i 6 ∧ ρ.i 6 ≤ tT (ρ.l 5) (ρ.i 5 - 1) := ⟨h0, h1⟩
  have eM : allT.I ρ = tT (ρ.l 5) (ρ.i 5 - 1) - ρ.i 6 + 1 := by simp only [allT, I_add, I_sub, I_c, I_v, eE]
  have e00 : (E.nthI (.lv 5) (.mul (.c 0) (.c 2))).I ρ = tT (ρ.l 5) 0 := by simp only [I_nthI, L_lv, I_mul, I_c, nI_eq]; rfl
  have eA : atE.I ρ = IntKind.i64.wrap (ρ.i 6 + (IntKind.i64.wrap ((ρ.i 7).tmod (allT.I ρ) + allT.I ρ)).tmod (allT.I ρ)) := by simp only [atE, I_wrap, I_add, I_rem, I_v]
  have ar := at_rng (t := ρ.i 7) (fr := ρ.i 6) (en := tT (ρ.l 5) (ρ.i 5 - 1)) (by omega) h1 (by omega) eM
  rw [← eA] at ar
  have fine : holds ρ fineT := by
    simp only [holds, fineT, groundFs, btw, List.cons_append, List.nil_append, List.mem_cons, List.not_mem_nil, or_false, forall_eq_or_imp, forall_eq, eT, eG, B_le, I_v, I_c, e0, eE, decide_eq_true_eq]
    exact ⟨ht, hq, hn.1, hn.2, h0, h1, by omega, by omega, by omega, by omega, by omega, by omega⟩
  have offs : ∀ t : E, tT (ρ.l 5) 0 ≤ t.I ρ → t.I ρ ≤ tT (ρ.l 5) (ρ.i 5 - 1) → holds ρ (offAt t) := fun t a b => by
    simp only [holds, offAt, List.mem_cons, List.not_mem_nil, or_false, forall_eq_or_imp, forall_eq, B_le, I_c, e00, eE, decide_eq_true_eq]
    omega
  have app : ∀ {a b : List E}, holds ρ a → holds ρ b → holds ρ (a ++ b) := fun ha hb e he => (List.mem_append.1 he).elim (ha e) (hb e)
  have s := fst_spec (x := true) (g := gR ρ) ht hfr
  rcases Int.lt_or_le (tT (ρ.l 5) (ρ.i 5 - 1)) (fstT true (gR ρ) (ρ.i 5) (ρ.l 5) (ρ.i 6)) with h2 | h2
  · have z : errZ (gR ρ) (ρ.i 5) (ρ.l 5) (ρ.i 6) = 7 := by unfold errZ; rw [if_pos ⟨ht, hq⟩, if_neg (by omega), if_pos h2]
    have o := on_at (x := true) (g := gR ρ) ht hfr (a := atE.I ρ) (by omega) (by omega)
    refine of_run (bad_run (List.mem_of_getElem? (i := 4) rfl)) hF ?_ hT hR hJ
    refine app (app fine ?_) (offs _ (by omega) (by omega))
    simp only [holds, List.mem_cons, List.not_mem_nil, or_false, forall_eq_or_imp, forall_eq, B_eq, B_not, I_c, eZ, eM, eO, decide_eq_true_eq, Bool.not_eq_true', decide_eq_false_iff_not]
    exact ⟨z, by omega, o⟩
  have z : errZ (gR ρ) (ρ.i 5) (ρ.l 5) (ρ.i 6) = 0 := by unfold errZ; rw [if_pos ⟨ht, hq⟩, if_neg (by omega), if_neg (by omega)]
  have q := fst_next (g := gR ρ) ht hfr h2
  have eF : aE.I ρ = fstT true (gR ρ) (ρ.i 5) (ρ.l 5) (ρ.i 6) := by rw [show aE.I ρ = _ from a10 hg, if_pos z]
  have eL : bE.I ρ = fstT false (gR ρ) (ρ.i 5) (ρ.l 5) (fstT true (gR ρ) (ρ.i 5) (ρ.l 5) (ρ.i 6)) - 1 := by rw [show bE.I ρ = _ from a11 hg, if_pos z]
  have hf2 : tT (ρ.l 5) 0 ≤ fstT true (gR ρ) (ρ.i 5) (ρ.l 5) (ρ.i 6) ∧ fstT true (gR ρ) (ρ.i 5) (ρ.l 5) (ρ.i 6) ≤ tT (ρ.l 5) (ρ.i 5 - 1) := ⟨by omega, h2⟩
  have o1 := first_on (x := true) (g := gR ρ) ht hfr h2
  have on2 : ∀ a, fstT true (gR ρ) (ρ.i 5) (ρ.l 5) (ρ.i 6) ≤ a → a < fstT false (gR ρ) (ρ.i 5) (ρ.l 5) (fstT true (gR ρ) (ρ.i 5) (ρ.l 5) (ρ.i 6)) → offT (gR ρ) (ρ.i 5) (ρ.l 5) a = true := fun a x y => on_at (x := false) (g := gR ρ) ht hf2 x y
  have on1 : ∀ a, ρ.i 6 ≤ a → a < fstT true (gR ρ) (ρ.i 5) (ρ.l 5) (ρ.i 6) → offT (gR ρ) (ρ.i 5) (ρ.l 5) a = false := fun a x y => on_at (x := true) (g := gR ρ) ht hfr x y
  -- the second call
  have hF' := hF
  simp only [holds, lawTF, btw, List.cons_append, List.nil_append, List.mem_cons, List.not_mem_nil, or_false, forall_eq_or_imp, forall_eq, B_le, I_c, I_v, decide_eq_true_eq] at hF'
  have eD : deE.I ρ = min 100000 (ρ.i 1 + ρ.i 9) := by simp only [deE, I_ite, B_lt, I_add, I_v, I_c, decide_eq_true_eq]; omega
  have eP : puE.I ρ = min 1000000 (ρ.i 3 + ρ.i 8) := by simp only [puE, I_ite, B_lt, I_add, I_v, I_c, decide_eq_true_eq]; omega
  have hq2 : groundB (gl (ρ.i 0) (min 100000 (ρ.i 1 + ρ.i 9)) (ρ.i 2) (min 1000000 (ρ.i 3 + ρ.i 8)) (ρ.i 4)) = true := by
    refine ground_gl ?_ ?_ ?_ ?_ ?_ <;> omega
  have hm := first_more (a := ρ.i 0) (b := ρ.i 1) (c := ρ.i 2) (d := ρ.i 3) (e := ρ.i 4) (b' := min 100000 (ρ.i 1 + ρ.i 9)) (d' := min 1000000 (ρ.i 3 + ρ.i 8)) ht hfr (by omega) (by omega) (by omega) (by omega) h2
  have z2 : errZ (gl (ρ.i 0) (min 100000 (ρ.i 1 + ρ.i 9)) (ρ.i 2) (min 1000000 (ρ.i 3 + ρ.i 8)) (ρ.i 4)) (ρ.i 5) (ρ.l 5) (ρ.i 6) = 0 := by
    unfold errZ; rw [if_pos ⟨ht, hq2⟩, if_neg (by omega), if_neg (by unfold gR at h2; omega)]
  have b12 : (E.app 12 tl2).I ρ = 0 := by
    simp only [tl2, I_app, hg, L_cons, L_lv, I_v, g2_12, eD, eP]; exact z2
  have b10 : (E.app 10 tl2).I ρ = fstT true (gl (ρ.i 0) (min 100000 (ρ.i 1 + ρ.i 9)) (ρ.i 2) (min 1000000 (ρ.i 3 + ρ.i 8)) (ρ.i 4)) (ρ.i 5) (ρ.l 5) (ρ.i 6) := by
    simp only [tl2, I_app, hg, L_cons, L_lv, I_v, g2_10, eD, eP]; rw [if_pos z2]
  have hbase : holds ρ (someT ++ moreT) := by
    refine app (app (app (app (app fine ?_) (offs _ (by omega) (by omega))) (offs _ (by omega) (by omega))) (offs _ (by omega) (by omega))) ?_
    · simp only [holds, List.mem_cons, List.not_mem_nil, or_false, forall_eq_or_imp, forall_eq, B_eq, B_not, B_le, I_c, I_v, eZ, eM, eO, eF, eL, eE, decide_eq_true_eq, Bool.not_eq_true', decide_eq_false_iff_not]
      exact ⟨z, s.1, by omega, by omega, o1, on2 _ (by omega) (by omega), by omega⟩
    · simp only [holds, moreT, List.mem_cons, List.not_mem_nil, or_false, forall_eq_or_imp, forall_eq, B_eq, B_le, I_c, b12, b10, eF, decide_eq_true_eq]
      exact ⟨trivial, hm⟩
  have fin : ∀ {F : List E}, runT (someT ++ moreT ++ F) = true → holds ρ F → Calls Tryz.prog 6 (arr ρ (patAs 0 lawTK)) w fun e w' => e = .returned (.bool true) ∧ Below w.heap.size w w' := fun hr hG => of_run hr hF (app hbase hG) hT hR hJ
  have hA0 : ρ.i 6 < aE.I ρ → holds ρ ([.lt (.v 6) aE, .not (offE5 (.sub aE (.c 1)))] ++ offAt (.sub aE (.c 1))) := fun hlt => by
    refine app ?_ (offs _ (by simp only [I_sub, I_c]; omega) (by simp only [I_sub, I_c]; omega))
    simp only [holds, List.mem_cons, List.not_mem_nil, or_false, forall_eq_or_imp, forall_eq, B_lt, B_not, I_v, I_sub, I_c, eO, decide_eq_true_eq, Bool.not_eq_true']
    exact ⟨hlt, on1 _ (by omega) (by omega)⟩
  have hB0 : bE.I ρ < tT (ρ.l 5) (ρ.i 5 - 1) → holds ρ ([.lt bE endE5, .not (offE5 (.add bE (.c 1)))] ++ offAt (.add bE (.c 1))) := fun hlt => by
    refine app ?_ (offs _ (by simp only [I_add, I_c]; omega) (by simp only [I_add, I_c]; omega))
    have o3 := first_on (x := false) (g := gR ρ) ht hf2 (by omega)
    simp only [holds, List.mem_cons, List.not_mem_nil, or_false, forall_eq_or_imp, forall_eq, B_lt, B_not, I_add, I_c, eO, eE, decide_eq_true_eq, Bool.not_eq_true']
    refine ⟨hlt, ?_⟩
    rw [eL, show ∀ x : Int, x - 1 + 1 = x by intro x; omega]
    exact o3
  have hA1 : ¬ ρ.i 6 < aE.I ρ → holds ρ [.le aE (.v 6)] := fun h => by
    simp only [holds, List.mem_cons, List.not_mem_nil, or_false, forall_eq, B_le, I_v, decide_eq_true_eq]; omega
  have hB1 : ¬ bE.I ρ < tT (ρ.l 5) (ρ.i 5 - 1) → holds ρ [.le endE5 bE] := fun h => by
    simp only [holds, List.mem_cons, List.not_mem_nil, or_false, forall_eq, B_le, eE, decide_eq_true_eq]; omega
  rcases Int.lt_or_le (atE.I ρ) (aE.I ρ) with ha | ha
  · have hC : holds ρ [.lt atE aE, .not (offE5 atE)] := by
      simp only [holds, List.mem_cons, List.not_mem_nil, or_false, forall_eq_or_imp, forall_eq, B_lt, B_not, eO, decide_eq_true_eq, Bool.not_eq_true']
      exact ⟨ha, on1 _ (by omega) (by omega)⟩
    by_cases hx : ρ.i 6 < aE.I ρ <;> by_cases hy : bE.I ρ < tT (ρ.l 5) (ρ.i 5 - 1)
    · exact fin run_011 (app (app hC (hA0 hx)) (hB0 hy))
    · exact fin run_010 (app (app hC (hA0 hx)) (hB1 hy))
    · exact fin run_001 (app (app hC (hA1 hx)) (hB0 hy))
    · exact fin run_000 (app (app hC (hA1 hx)) (hB1 hy))
  rcases Int.lt_or_le (bE.I ρ) (atE.I ρ) with hb | hb
  · have hC : holds ρ [.le aE atE, .lt bE atE] := by
      simp only [holds, List.mem_cons, List.not_mem_nil, or_false, forall_eq_or_imp, forall_eq, B_lt, B_le, decide_eq_true_eq]
      exact ⟨ha, hb⟩
    by_cases hx : ρ.i 6 < aE.I ρ <;> by_cases hy : bE.I ρ < tT (ρ.l 5) (ρ.i 5 - 1)
    · exact fin run_211 (app (app hC (hA0 hx)) (hB0 hy))
    · exact fin run_210 (app (app hC (hA0 hx)) (hB1 hy))
    · exact fin run_201 (app (app hC (hA1 hx)) (hB0 hy))
    · exact fin run_200 (app (app hC (hA1 hx)) (hB1 hy))
  · have hC : holds ρ [.le aE atE, .le atE bE, offE5 atE] := by
      simp only [holds, List.mem_cons, List.not_mem_nil, or_false, forall_eq_or_imp, forall_eq, B_le, eO, decide_eq_true_eq]
      exact ⟨ha, hb, on2 _ (by omega) (by omega)⟩
    by_cases hx : ρ.i 6 < aE.I ρ <;> by_cases hy : bE.I ρ < tT (ρ.l 5) (ρ.i 5 - 1)
    · exact fin run_111 (app (app hC (hA0 hx)) (hB0 hy))
    · exact fin run_110 (app (app hC (hA0 hx)) (hB1 hy))
    · exact fin run_101 (app (app hC (hA1 hx)) (hB0 hy))
    · exact fin run_100 (app (app hC (hA1 hx)) (hB1 hy))
end Go.Proofs.YtekikddpdbgkdaaGreatDoor.Ca
end
section
namespace Go.Proofs.YtekikddpdbgkdaaGreatDoor.Ca
open Go Go.Proofs.YtekikddpdbgkdaaGreatDoor.Sx Go.RowKit Go.ChangeShapes Go.WideShapes Go.ChangeAt

theorem tabs2 (sl : List Sl) : CT2.tab (envSl g2F h2F noK noM sl).g (envSl g2F h2F noK noM sl).h (envSl g2F h2F noK noM sl).k (envSl g2F h2F noK noM sl).m := ⟨rfl, rfl⟩
theorem lawTF_of {ρ : Env} (h8 : 0 ≤ ρ.i 8 ∧ ρ.i 8 ≤ 65535) (h9 : 0 ≤ ρ.i 9 ∧ ρ.i 9 ≤ 65535) (h5 : 0 ≤ ρ.i 5 ∧ ρ.i 5 ≤ 9223372036854775807) (h6 : -9223372036854775808 ≤ ρ.i 6 ∧ ρ.i 6 ≤ 9223372036854775807) (h7 : -9223372036854775808 ≤ ρ.i 7 ∧ ρ.i 7 ≤ 9223372036854775807) : holds ρ lawTF := by
  simp [holds, lawTF, btw, h5, h6, h7, h8, h9]
section
variable {H : Type} {enc : TypeId × Value → H} {P : Program} {w : World} {base : Nat} {spare : Nat → Bool} {held : Bool}
theorem trodAll_five {t t' t'' t3 t4 : TypeId} {args : Array Value} {ds : List (DataW H)} {ps : List MemPlace} (h : DataW.TrodAll enc P w base spare held [t, t', t'', t3, t4] args.toList ds ps) :
    ∃ v v' v'' v3 v4 d d' d'' d3 d4 p p' p'' p3 p4, args = #[v, v', v'', v3, v4] ∧ ds = [d, d', d'', d3, d4] ∧ ps = p ++ p' ++ p'' ++ p3 ++ p4 ∧ DataW.Trod enc P w base spare held t v d p ∧ DataW.Trod enc P w base spare held t' v' d' p' ∧ DataW.Trod enc P w base spare held t'' v'' d'' p'' ∧ DataW.Trod enc P w base spare held t3 v3 d3 p3 ∧ DataW.Trod enc P w base spare held t4 v4 d4 p4 := by
  obtain ⟨v, vs, d, ds', p, q, hargs, rfl, rfl, hd, hrest⟩ := trodAll_cons h
  obtain ⟨v', vs', d', ds'', p', q', rfl, rfl, rfl, hd', hrest'⟩ := trodAll_cons hrest
  obtain ⟨v'', vs'', d'', ds''', p'', q'', rfl, rfl, rfl, hd'', hrest''⟩ := trodAll_cons hrest'
  obtain ⟨v3, vs3, d3, ds3, p3, q3, rfl, rfl, rfl, hd3, hrest3⟩ := trodAll_cons hrest''
  obtain ⟨v4, vs4, d4, ds4, p4, q4, rfl, rfl, rfl, hd4, hrest4⟩ := trodAll_cons hrest3
  obtain ⟨rfl, rfl, rfl⟩ := trodAll_nil hrest4
  exact ⟨v, v', v'', v3, v4, d, d', d'', d3, d4, p, p', p'', p3, p4, by cases args; simp_all, rfl, by simp, hd, hd', hd'', hd3, hd4⟩
theorem MK5 {t t' t'' t3 t4 : TypeId} {v v' v'' v3 v4 : Value} {d d' d'' d3 d4 : DataW H} {p p' p'' p3 p4 : List MemPlace} (h : DataW.Trod enc P w base spare held t v d p) (h' : DataW.Trod enc P w base spare held t' v' d' p')
    (h'' : DataW.Trod enc P w base spare held t'' v'' d'' p'') (h3 : DataW.Trod enc P w base spare held t3 v3 d3 p3) (h4 : DataW.Trod enc P w base spare held t4 v4 d4 p4) : DataW.TrodAll enc P w base spare held [t, t', t'', t3, t4] [v, v', v'', v3, v4] [d, d', d'', d3, d4] (p ++ (p' ++ (p'' ++ (p3 ++ p4)))) := ⟨p, p' ++ (p'' ++ (p3 ++ p4)), h, trodAll_mk4 h' h'' h3 h4, rfl⟩
end
set_option maxRecDepth 100000 in
theorem careTides_lifted (os : Os) (started : os.Started) (H : Type) (enc : TypeId × Value → H) :
    ReturnsInHanded {} Tryz.checked os 6 .any (fun w args => (Rows.careTidesSpec.pre enc Tryz.prog Tryz.f6 [] false w args ∧ laidMetH Tryz.prog Rows.careTidesRow.laid w) ∧ sizedMet enc Tryz.prog Tryz.f6 (OpenSpec.ofChange Rows.careTidesSpec) false w args)
      (Rows.careTidesSpec.post enc Tryz.prog Tryz.f6 false true false false) := by
  refine returnsInHanded_of_calls (C := Tryz.checked) own started (by kernel_rfl)
    (ChangeSpec.witness_shaped (enc := enc) (C := Tryz.checked) (os := os) (X := fun w _ => laidMetH Tryz.prog Rows.careTidesRow.laid w) false (World.laidAll Tryz.prog os Rows.careTidesRow.laid) #[.agg #[.int .i64 0, .int .i64 0, .int .i64 0, .int .i64 0, .int .i64 0], .slice none 0 0, .int .i64 0, .int .i64 0, .agg #[.int .u16 0, .int .u16 0]] 8 (World.laidAll_os _ _ _)
      (World.shaped_of_ZipB (by kernel_rfl) (by kernel_rfl)) (by kernel_rfl) (by kernel_rfl) (by kernel_rfl)
      (by rw [MakeChecks.laidMetH_plain _ _ _ (by kernel_rfl)]; exact laidMet_laidAll _ (by kernel_rfl) (by kernel_rfl))) ?_
  intro w tape i _ hsh _ hok hpre _
  obtain ⟨_, _, _, fn', hfn', _, _, _, _, hval0⟩ := hok
  obtain rfl : fn' = Tryz.f6 := Option.some.inj (hfn'.symm.trans Tryz.func6)
  obtain ⟨⟨⟨ds, gs, before, hw, _⟩, hL⟩, _⟩ := hpre
  have hW := DataW.Whole.of_heap (w' := w.forCall tape i) (by rfl) hw
  have hL' : laidMetH Tryz.prog Rows.careTidesRow.laid (w.forCall tape i) := hL.of_heap (by rfl)
  refine Calls.mono (R := fun e W' => ∃ v, e = .returned v ∧ Rows.careTidesSpec.post enc Tryz.prog Tryz.f6 false true false false (w.forCall tape i) i.args v W') ?_ (fun e W' ⟨v, he, hp⟩ => by subst he; exact ChangeSpec.post_blind hp)
  generalize w.forCall tape i = W at hsh hW hL' hval0 ⊢
  generalize i.args = args at hW hval0 ⊢
  have hval : ∀ (j : Nat) t v, Tryz.f6.params[j]? = some t → args[j]? = some v → Value.okWide Tryz.prog W .any w.heap.size t v := hval0
  have hW' := hW
  obtain ⟨p, q, hA0, hV, rfl, hfz, hnd⟩ := hW
  have hA : DataW.TrodAll enc Tryz.prog W 0 (fun _ => true) true Tryz.f6.params.toList args.toList ds p := hA0
  rw [Tryz.params6] at hA hval
  obtain ⟨v0, v1, v2, v3, v4, d0, d1, d2, d3, d4, p0, p1, p2, p3, p4, rfl, rfl, rfl, h0, h1, h2, h3, h4⟩ := trodAll_five hA
  obtain ⟨rfl, rfl⟩ := trodVars_none hV
  obtain ⟨s0, o0⟩ := opn_agg (n := 4) (ks := List.replicate 5 (.i .i64)) (by kernel_rfl) (by kernel_rfl) (hval 0 41 v0 rfl rfl) h0
  obtain ⟨s1, o1⟩ := opn_row (n := 4) (ks := List.replicate 2 (.i .i64)) Tryz.underlying42 (by kernel_rfl) (by kernel_rfl) (by decide) (hval 1 42 v1 rfl rfl) h1
  obtain ⟨a2, rfl, rfl, rfl, w2⟩ := open_int Tryz.underlying3 (hval 2 3 v2 rfl rfl) h2
  have o2 : Opn W (.one (.sc (.i .i64))) (.int .i64 a2) _ := Opn.one (k := .i .i64) (x := (a2, ⟨#[]⟩)) w2
  obtain ⟨a3, rfl, rfl, rfl, w3⟩ := open_int Tryz.underlying3 (hval 3 3 v3 rfl rfl) h3
  have o3 : Opn W (.one (.sc (.i .i64))) (.int .i64 a3) _ := Opn.one (k := .i .i64) (x := (a3, ⟨#[]⟩)) w3
  obtain ⟨s4, o4⟩ := opn_agg (n := 4) (ks := List.replicate 2 (.i .u16)) (by kernel_rfl) (by kernel_rfl) (hval 4 46 v4 rfl rfl) h4
  have hE : Tab W := tab_of (laidMetH.filter (fun z => z.1 == "math/bits.deBruijn32tab") hL')
  obtain ⟨ea, hR, hw⟩ := Opns.top (aks := lawTK) (.cons o0 (.cons o1 (.cons o2 (.cons o3 (.cons o4 .nil))))) g2F h2F noK noM
  have law := tides_law _ W (lawTF_of (wf_u16 hw (j := 8) rfl) (wf_u16 hw (j := 9) rfl) (wf_row hw (j := 5) rfl) (wf_i64 hw (j := 6) rfl) (wf_i64 hw (j := 7) rfl)) (tabs2 _) hR hE
  rw [ea] at law
  refine law.mono fun e W' ⟨he, hb⟩ => ?_
  subst he
  have b0 := Below.trod laidOut (by kernel_rfl) (of_decide_eq_true (by kernel_rfl)) h0 hb (fun x hx => hW'.lt x (by simp [hx]))
  have b1 := Below.trod laidOut (by kernel_rfl) (of_decide_eq_true (by kernel_rfl)) h1 hb (fun x hx => hW'.lt x (by simp [hx]))
  have b4 := Below.trod laidOut (by kernel_rfl) (of_decide_eq_true (by kernel_rfl)) h4 hb (fun x hx => hW'.lt x (by simp [hx]))
  exact ⟨_, rfl, _, _, _, [], _, [], hW', trodAll_mk1 (shut_bool Tryz.underlying4 _), MK5 b0 b1 (shut_int Tryz.underlying3 w2) (shut_int Tryz.underlying3 w3) b4, rfl, hb.frame _, fun h => by cases h⟩

theorem careTides_said : Rows.CareTidesSaid :=
  OpenClaim.holds_of_wide 6 Tryz.f6 rfl rfl rfl rfl rfl rfl rfl ⟨rfl, rfl, rfl, rfl, rfl⟩ rfl rfl rfl rfl rfl (by kernel_rfl) Tryz.func6 (by kernel_rfl)
    (of_decide_eq_true (by kernel_rfl)) (by unfold Func.isWrapper; first | (rw [if_pos (by decide +kernel)]; kernel_rfl) | (rw [if_neg (by decide +kernel)]; exact ⟨rfl, rfl⟩))
    (fun os started H enc _ => careTides_lifted os started H enc)

set_option maxRecDepth 100000 in
theorem careTides_holds : Rows.CareTidesCardSaid :=
  Claim7.holds_tied_plain_at .later [] [.data] true Rows.careTidesCard.stood.harness false careTides_said (fun _ h => by cases h) (by kernel_rfl) (fun _ h => by cases h) careTides_row_tie rfl ⟨rfl, rfl⟩ (by kernel_rfl) rfl
    (fun f fn hf hfn => by
      obtain rfl : f = 6 := Option.some.inj ((show Tryz.prog.funcNamed "cresset/cressetlaw11.CareTides" = some 6 by kernel_rfl).symm.trans hf) |>.symm
      obtain rfl : fn = Tryz.f6 := (Option.some.inj (Tryz.func6.symm.trans hfn)).symm
      exact ⟨by kernel_rfl, fun j t ht => by
        rw [Tryz.params6] at ht
        have hm : t ∈ [41, 42, 3, 3, 46] := by simpa using Array.mem_of_getElem? ht
        have hall : ([41, 42, 3, 3, 46].all fun u => !Tryz.prog.wantsStandIn u) = true := by kernel_rfl
        exact (show Tryz.prog.wantsStandIn t = false by simpa using List.all_eq_true.1 hall t hm)⟩)
    (by kernel_rfl)
#print axioms careTides_holds
end Go.Proofs.YtekikddpdbgkdaaGreatDoor.Ca
end
