/- What the rows of layer 9 share. UnitTriangle: the row. UnitChecks: the row. UnitWheres: the row. UnitClashes: the row. -/
import Derived.ProofKit
import Derived.Test.YtinkdkeigccekaaRows
import Derived.Test.YtinkdkeigccekaaPb11
import Derived.Test.YtinkdkeigccekaaPb12
section
namespace Go.Proofs.Ytinkdkeigccekaa.Un
open Go Go.Proofs.Ytinkdkeigccekaa.Sx Go.RowKit Go.ChangeShapes Go.WideShapes Go.ChangeAt

theorem own : ownKnob Try.prog.godebug = none := by kernel_rfl
theorem laidOut : laidOutB Try.prog = true := by kernel_rfl
def ks (n : Nat) : List Kd := List.replicate n (.i .i64)
theorem flatSpot : flatK Try.prog 3 23 = some (ks 2) := by kernel_rfl
theorem flatSpots : flatK Try.prog 4 27 = some (ks 4) := by kernel_rfl
theorem flatUnit : flatK Try.prog 3 25 = some (.s :: ks 11) := by kernel_rfl
theorem flatLeg : flatK Try.prog 3 51 = some (ks 8) := by kernel_rfl
theorem flatFront : flatK Try.prog 3 56 = some (ks 8) := by kernel_rfl
theorem aggSpot : isAggV Try.prog 23 = some true := by kernel_rfl
theorem aggSpots : isAggV Try.prog 27 = some true := by kernel_rfl
theorem aggUnit : isAggV Try.prog 25 = some true := by kernel_rfl
def noK : Nat → LL → ByteArray := fun _ _ => ⟨#[]⟩
theorem tabs (sl : List Sl) : UT.tab (envSl gF hF noK mF sl).g (envSl gF hF noK mF sl).h (envSl gF hF noK mF sl).k (envSl gF hF noK mF sl).m := ⟨⟨rfl, rfl⟩, rfl⟩
section
variable {H : Type} {enc : TypeId × Value → H} {P : Program} {w : World} {base : Nat} {spare : Nat → Bool} {held : Bool}
theorem opn_agg {n : Nat} {t : TypeId} {ks : List Kd} {v : Value} {d : DataW H} {p : List MemPlace} {r : Reach} {b0 : Nat} (hu : isAggV P t = some true) (hk : flatK P n t = some ks) (ho : Value.okWide P w r b0 t v) (h : DataW.Trod enc P w base spare held t v d p) :
    ∃ sl, Opn w (.ag (ks.map .sc)) v sl := by
  obtain ⟨cs, rfl⟩ := okWide_agg hu ho
  obtain ⟨xs, hx⟩ := open_plain hk h
  exact ⟨_, .ag hx⟩
theorem opn_row {n : Nat} {t e : TypeId} {ks : List Kd} {v : Value} {d : DataW H} {p : List MemPlace} {r : Reach} {b0 : Nat} (ht : P.underlying t = some (.slice e)) (hk : flatK P n e = some ks) (hl : ks.length = P.cellsOf e) (h0 : 0 < ks.length)
    (ho : Value.okWide P w r b0 t v) (h : DataW.Trod enc P w base spare held t v d p) : ∃ sl, Opn w (.one (.row ks)) v sl := by
  obtain ⟨N, xs, hr⟩ := open_row ht hk hl h0 ho h
  exact ⟨_, .row hr⟩
end
theorem wf_text {all : List Sl} {w : World} {aks : List AK} (h : Wfs (w := w) all 0 (ksOf aks)) {j : Nat} (hj : (ksOf aks)[j]? = some KS) : ((all.getD j {}).x.2.size : Int) ≤ 9223372036854775807 := by
  have := (h j).1 _ hj
  rw [Nat.zero_add] at this
  have h2 : (all.getD j {}).x.2.size ≤ maxLen := this
  have h3 : maxLen = 9223372036854775807 := rfl
  omega
theorem wf_row {all : List Sl} {w : World} {aks : List AK} (h : Wfs (w := w) all 0 (ksOf aks)) {j : Nat} {kds : List Kd} (hj : (ksOf aks)[j]? = some (.row kds)) : 0 ≤ (all.getD j {}).x.1 ∧ (all.getD j {}).x.1 ≤ 9223372036854775807 := by
  obtain ⟨N, v, xs, h1, h2⟩ := (h j).2 _ hj
  rw [Nat.zero_add] at h1
  rw [h1]
  have h3 : maxLen = 9223372036854775807 := rfl
  have h4 := h2.2.2.1
  have h5 : (rowSl v N xs).x.1 = (N : Int) := rfl
  rw [h5]
  omega
end Go.Proofs.Ytinkdkeigccekaa.Un
end
section
namespace Go.Proofs.Ytinkdkeigccekaa.Un
open Go Go.Proofs.Ytinkdkeigccekaa.Sx Go.RowKit Go.ChangeShapes Go.WideShapes Go.ChangeAt

set_option maxRecDepth 100000 in
theorem unitTriangle_lifted (os : Os) (started : os.Started) (H : Type) (enc : TypeId × Value → H) :
    ReturnsInHanded {} Try.checked os 8 .any (Rows.unitTriangleSpec.pre6 enc Try.prog Try.f8 Rows.unitTriangleRow.domain false) (Rows.unitTriangleSpec.post enc Try.prog Try.f8 false true false false) := by
  refine returnsInHanded_of_change (C := Try.checked) own started (by kernel_rfl) Try.func8
    (ChangeSpec.witness6 (enc := enc) (C := Try.checked) false ⟨#[], #[.agg #[.int .i64 0, .int .i64 0], .agg #[.int .i64 0, .int .i64 0], .agg #[.int .i64 0, .int .i64 0]], []⟩ 8 (by kernel_rfl) (by kernel_rfl) (by kernel_rfl) (by kernel_rfl)) ?_
  intro W base args ds gs before hval0 hW hcnd _
  have hval : ∀ (j : Nat) t v, Try.f8.params[j]? = some t → args[j]? = some v → Value.okWide Try.prog W .any base t v := hval0
  have hW' := hW
  obtain ⟨p, q, hA0, hV, rfl, hfz, hnd⟩ := hW
  have hA : DataW.TrodAll enc Try.prog W 0 (fun _ => true) true Try.f8.params.toList args.toList ds p := hA0
  rw [Try.params8] at hA hval
  obtain ⟨v0, v1, v2, d0, d1, d2, p0, p1, p2, rfl, rfl, rfl, h0, h1, h2⟩ := trodAll_three hA
  obtain ⟨rfl, rfl⟩ := trodVars_none hV
  obtain ⟨s0, o0⟩ := opn_agg aggSpot flatSpot (hval 0 23 v0 rfl rfl) h0
  obtain ⟨s1, o1⟩ := opn_agg aggSpot flatSpot (hval 1 23 v1 rfl rfl) h1
  obtain ⟨s2, o2⟩ := opn_agg aggSpot flatSpot (hval 2 23 v2 rfl rfl) h2
  obtain ⟨ea, hR, hw⟩ := Opns.top (aks := spot3) (.cons o0 (.cons o1 (.cons o2 .nil))) gF hF noK mF
  have law := triangle_law awake_ok _ W (by simp [holds]) (tabs _) hR
  rw [ea] at law
  refine law.mono fun e W' ⟨he, hb⟩ => ?_
  subst he
  have b0 := Below.trod laidOut (by kernel_rfl) (of_decide_eq_true (by kernel_rfl)) h0 hb (fun x hx => hW'.lt x (by simp [hx]))
  have b1 := Below.trod laidOut (by kernel_rfl) (of_decide_eq_true (by kernel_rfl)) h1 hb (fun x hx => hW'.lt x (by simp [hx]))
  have b2 := Below.trod laidOut (by kernel_rfl) (of_decide_eq_true (by kernel_rfl)) h2 hb (fun x hx => hW'.lt x (by simp [hx]))
  exact ⟨_, rfl, _, _, _, [], _, [], hW', trodAll_mk1 (shut_bool Try.underlying4 _), trodAll_mk3 b0 b1 b2, rfl, hb.frame _, fun h => by cases h⟩

theorem unitTriangle_said : Rows.UnitTriangleSaid :=
  OpenClaim.holds_of_wide 8 Try.f8 rfl rfl rfl rfl rfl rfl rfl ⟨rfl, rfl, rfl, rfl, rfl⟩ rfl rfl rfl rfl rfl (by kernel_rfl) Try.func8 (by kernel_rfl)
    (of_decide_eq_true (by kernel_rfl)) (by unfold Func.isWrapper; first | (rw [if_pos (by decide +kernel)]; kernel_rfl) | (rw [if_neg (by decide +kernel)]; exact ⟨rfl, rfl⟩))
    (fun os started H enc _ => unitTriangle_lifted os started H enc)
#print axioms unitTriangle_said
end Go.Proofs.Ytinkdkeigccekaa.Un
end
section
namespace Go.Proofs.Ytinkdkeigccekaa.Un
open Go Go.Proofs.Ytinkdkeigccekaa.Sx Go.RowKit Go.ChangeShapes Go.WideShapes Go.ChangeAt

set_option maxRecDepth 100000 in
theorem unitChecks_lifted (os : Os) (started : os.Started) (H : Type) (enc : TypeId × Value → H) :
    ReturnsInHanded {} Try.checked os 3 .any (Rows.unitChecksSpec.pre6 enc Try.prog Try.f3 Rows.unitChecksRow.domain false) (Rows.unitChecksSpec.post enc Try.prog Try.f3 false true false false) := by
  refine returnsInHanded_of_change (C := Try.checked) own started (by kernel_rfl) Try.func3
    (ChangeSpec.witness6 (enc := enc) (C := Try.checked) false ⟨#[], #[.agg #[.string ⟨#[]⟩, .int .i64 0, .int .i64 0, .int .i64 0, .int .i64 0, .int .i64 0, .int .i64 0, .int .i64 0, .int .i64 0, .int .i64 0, .int .i64 0, .int .i64 0], .slice none 0 0, .agg #[.int .i64 0, .int .i64 0, .int .i64 0, .int .i64 0]], []⟩ 8 (by kernel_rfl) (by kernel_rfl) (by kernel_rfl) (by kernel_rfl)) ?_
  intro W base args ds gs before hval0 hW hcnd _
  have hval : ∀ (j : Nat) t v, Try.f3.params[j]? = some t → args[j]? = some v → Value.okWide Try.prog W .any base t v := hval0
  have hW' := hW
  obtain ⟨p, q, hA0, hV, rfl, hfz, hnd⟩ := hW
  have hA : DataW.TrodAll enc Try.prog W 0 (fun _ => true) true Try.f3.params.toList args.toList ds p := hA0
  rw [Try.params3] at hA hval
  obtain ⟨v0, v1, v2, d0, d1, d2, p0, p1, p2, rfl, rfl, rfl, h0, h1, h2⟩ := trodAll_three hA
  obtain ⟨rfl, rfl⟩ := trodVars_none hV
  obtain ⟨s0, o0⟩ := opn_agg aggUnit flatUnit (hval 0 25 v0 rfl rfl) h0
  obtain ⟨s1, o1⟩ := opn_row Try.underlying26 flatFront (by kernel_rfl) (by decide) (hval 1 26 v1 rfl rfl) h1
  obtain ⟨s2, o2⟩ := opn_agg aggSpots flatSpots (hval 2 27 v2 rfl rfl) h2
  obtain ⟨ea, hR, hw⟩ := Opns.top (aks := checksK) (.cons o0 (.cons o1 (.cons o2 .nil))) gF hF noK mF
  have law := checks_law awake_ok _ W (by simp only [wheresF, holds, List.mem_cons, List.not_mem_nil, or_false, forall_eq_or_imp, forall_eq, B_le, I_len, S_sv, I_c, I_v, decide_eq_true_eq]; exact ⟨wf_text hw (j := 0) rfl, wf_row hw (j := 12) rfl⟩) (tabs _) hR
  rw [ea] at law
  refine law.mono fun e W' ⟨he, hb⟩ => ?_
  subst he
  have b0 := Below.trod laidOut (by kernel_rfl) (of_decide_eq_true (by kernel_rfl)) h0 hb (fun x hx => hW'.lt x (by simp [hx]))
  have b1 := Below.trod laidOut (by kernel_rfl) (of_decide_eq_true (by kernel_rfl)) h1 hb (fun x hx => hW'.lt x (by simp [hx]))
  have b2 := Below.trod laidOut (by kernel_rfl) (of_decide_eq_true (by kernel_rfl)) h2 hb (fun x hx => hW'.lt x (by simp [hx]))
  exact ⟨_, rfl, _, _, _, [], _, [], hW', trodAll_mk1 (shut_bool Try.underlying4 _), trodAll_mk3 b0 b1 b2, rfl, hb.frame _, fun h => by cases h⟩

theorem unitChecks_said : Rows.UnitChecksSaid :=
  OpenClaim.holds_of_wide 3 Try.f3 rfl rfl rfl rfl rfl rfl rfl ⟨rfl, rfl, rfl, rfl, rfl⟩ rfl rfl rfl rfl rfl (by kernel_rfl) Try.func3 (by kernel_rfl)
    (of_decide_eq_true (by kernel_rfl)) (by unfold Func.isWrapper; first | (rw [if_pos (by decide +kernel)]; kernel_rfl) | (rw [if_neg (by decide +kernel)]; exact ⟨rfl, rfl⟩))
    (fun os started H enc _ => unitChecks_lifted os started H enc)
#print axioms unitChecks_said
end Go.Proofs.Ytinkdkeigccekaa.Un
end
section
namespace Go.Proofs.Ytinkdkeigccekaa.Un
open Go Go.Proofs.Ytinkdkeigccekaa.Sx Go.RowKit Go.ChangeShapes Go.WideShapes Go.ChangeAt

set_option maxRecDepth 100000 in
theorem unitWheres_lifted (os : Os) (started : os.Started) (H : Type) (enc : TypeId × Value → H) :
    ReturnsInHanded {} Try.checked os 5 .any (Rows.unitWheresSpec.pre6 enc Try.prog Try.f5 Rows.unitWheresRow.domain false) (Rows.unitWheresSpec.post enc Try.prog Try.f5 false true false false) := by
  refine returnsInHanded_of_change (C := Try.checked) own started (by kernel_rfl) Try.func5
    (ChangeSpec.witness6 (enc := enc) (C := Try.checked) false ⟨#[], #[.agg #[.string ⟨#[]⟩, .int .i64 0, .int .i64 0, .int .i64 0, .int .i64 0, .int .i64 0, .int .i64 0, .int .i64 0, .int .i64 0, .int .i64 0, .int .i64 0, .int .i64 0], .slice none 0 0, .int .i64 0], []⟩ 8 (by kernel_rfl) (by kernel_rfl) (by kernel_rfl) (by kernel_rfl)) ?_
  intro W base args ds gs before hval0 hW hcnd _
  have hval : ∀ (j : Nat) t v, Try.f5.params[j]? = some t → args[j]? = some v → Value.okWide Try.prog W .any base t v := hval0
  have hW' := hW
  obtain ⟨p, q, hA0, hV, rfl, hfz, hnd⟩ := hW
  have hA : DataW.TrodAll enc Try.prog W 0 (fun _ => true) true Try.f5.params.toList args.toList ds p := hA0
  rw [Try.params5] at hA hval
  obtain ⟨v0, v1, v2, d0, d1, d2, p0, p1, p2, rfl, rfl, rfl, h0, h1, h2⟩ := trodAll_three hA
  obtain ⟨rfl, rfl⟩ := trodVars_none hV
  obtain ⟨s0, o0⟩ := opn_agg aggUnit flatUnit (hval 0 25 v0 rfl rfl) h0
  obtain ⟨s1, o1⟩ := opn_row Try.underlying39 flatLeg (by kernel_rfl) (by decide) (hval 1 39 v1 rfl rfl) h1
  obtain ⟨a2, rfl, rfl, rfl, w2⟩ := open_int Try.underlying3 (hval 2 3 v2 rfl rfl) h2
  have o2 : Opn W (.one K) (.int .i64 a2) _ := Opn.one (k := .i .i64) (x := (a2, ⟨#[]⟩)) w2
  obtain ⟨ea, hR, hw⟩ := Opns.top (aks := wheresK) (.cons o0 (.cons o1 (.cons o2 .nil))) gF hF noK mF
  have law := wheres_law awake_ok _ W (by simp only [wheresF, holds, List.mem_cons, List.not_mem_nil, or_false, forall_eq_or_imp, forall_eq, B_le, I_len, S_sv, I_c, I_v, decide_eq_true_eq]; exact ⟨wf_text hw (j := 0) rfl, wf_row hw (j := 12) rfl⟩) (tabs _) hR
  rw [ea] at law
  refine law.mono fun e W' ⟨he, hb⟩ => ?_
  subst he
  have b0 := Below.trod laidOut (by kernel_rfl) (of_decide_eq_true (by kernel_rfl)) h0 hb (fun x hx => hW'.lt x (by simp [hx]))
  have b1 := Below.trod laidOut (by kernel_rfl) (of_decide_eq_true (by kernel_rfl)) h1 hb (fun x hx => hW'.lt x (by simp [hx]))
  exact ⟨_, rfl, _, _, _, [], _, [], hW', trodAll_mk1 (shut_bool Try.underlying4 _), trodAll_mk3 b0 b1 (shut_int Try.underlying3 w2), rfl, hb.frame _, fun h => by cases h⟩

theorem unitWheres_said : Rows.UnitWheresSaid :=
  OpenClaim.holds_of_wide 5 Try.f5 rfl rfl rfl rfl rfl rfl rfl ⟨rfl, rfl, rfl, rfl, rfl⟩ rfl rfl rfl rfl rfl (by kernel_rfl) Try.func5 (by kernel_rfl)
    (of_decide_eq_true (by kernel_rfl)) (by unfold Func.isWrapper; first | (rw [if_pos (by decide +kernel)]; kernel_rfl) | (rw [if_neg (by decide +kernel)]; exact ⟨rfl, rfl⟩))
    (fun os started H enc _ => unitWheres_lifted os started H enc)
#print axioms unitWheres_said
end Go.Proofs.Ytinkdkeigccekaa.Un
end
section
namespace Go.Proofs.Ytinkdkeigccekaa.Un
open Go Go.Proofs.Ytinkdkeigccekaa.Sx Go.RowKit Go.ChangeShapes Go.WideShapes Go.ChangeAt

theorem flatBox : flatK Try.prog 3 87 = some (ints 7) := by kernel_rfl
set_option maxRecDepth 100000 in
theorem unitClashes_lifted (os : Os) (started : os.Started) (H : Type) (enc : TypeId × Value → H) :
    ReturnsInHanded {} Try.checked os 11 .any (Rows.unitClashesSpec.pre6 enc Try.prog Try.f11 Rows.unitClashesRow.domain false) (Rows.unitClashesSpec.post enc Try.prog Try.f11 false true false false) := by
  refine returnsInHanded_of_change (C := Try.checked) own started (by kernel_rfl) Try.func11
    (ChangeSpec.witness6 (enc := enc) (C := Try.checked) false ⟨#[], #[.slice none 0 0, .slice none 0 0], []⟩ 8 (by kernel_rfl) (by kernel_rfl) (by kernel_rfl) (by kernel_rfl)) ?_
  intro W base args ds gs before hval0 hW hcnd _
  have hval : ∀ (j : Nat) t v, Try.f11.params[j]? = some t → args[j]? = some v → Value.okWide Try.prog W .any base t v := hval0
  have hW' := hW
  obtain ⟨p, q, hA0, hV, rfl, hfz, hnd⟩ := hW
  have hA : DataW.TrodAll enc Try.prog W 0 (fun _ => true) true Try.f11.params.toList args.toList ds p := hA0
  rw [Try.params11] at hA hval
  obtain ⟨v0, v1, d0, d1, p0, p1, rfl, rfl, rfl, h0, h1⟩ := trodAll_two hA
  obtain ⟨rfl, rfl⟩ := trodVars_none hV
  obtain ⟨s0, o0⟩ := opn_row Try.underlying61 flatBox (by kernel_rfl) (by decide) (hval 0 61 v0 rfl rfl) h0
  obtain ⟨s1, o1⟩ := opn_row Try.underlying61 flatBox (by kernel_rfl) (by decide) (hval 1 61 v1 rfl rfl) h1
  obtain ⟨ea, hR, hw⟩ := Opns.top (aks := box2) (.cons o0 (.cons o1 .nil)) gF hC noK mF
  have law := clashes_law _ W (by simp only [clashesF, holds, List.mem_cons, List.not_mem_nil, or_false, forall_eq_or_imp, forall_eq, B_le, I_c, I_v, decide_eq_true_eq]; exact ⟨(wf_row hw (j := 0) rfl).1, (wf_row hw (j := 0) rfl).2, (wf_row hw (j := 1) rfl).1, (wf_row hw (j := 1) rfl).2⟩) ⟨rfl, rfl⟩ hR
  rw [ea] at law
  refine law.mono fun e W' ⟨he, hb⟩ => ?_
  subst he
  have b0 := Below.trod laidOut (by kernel_rfl) (of_decide_eq_true (by kernel_rfl)) h0 hb (fun x hx => hW'.lt x (by simp [hx]))
  have b1 := Below.trod laidOut (by kernel_rfl) (of_decide_eq_true (by kernel_rfl)) h1 hb (fun x hx => hW'.lt x (by simp [hx]))
  exact ⟨_, rfl, _, _, _, [], _, [], hW', trodAll_mk1 (shut_bool Try.underlying4 _), trodAll_mk2 b0 b1, rfl, hb.frame _, fun h => by cases h⟩

theorem unitClashes_said : Rows.UnitClashesSaid :=
  OpenClaim.holds_of_wide 11 Try.f11 rfl rfl rfl rfl rfl rfl rfl ⟨rfl, rfl, rfl, rfl, rfl⟩ rfl rfl rfl rfl rfl (by kernel_rfl) Try.func11 (by kernel_rfl)
    (of_decide_eq_true (by kernel_rfl)) (by unfold Func.isWrapper; first | (rw [if_pos (by decide +kernel)]; kernel_rfl) | (rw [if_neg (by decide +kernel)]; exact ⟨rfl, rfl⟩))
    (fun os started H enc _ => unitClashes_lifted os started H enc)
#print axioms unitClashes_said
end Go.Proofs.Ytinkdkeigccekaa.Un
end
