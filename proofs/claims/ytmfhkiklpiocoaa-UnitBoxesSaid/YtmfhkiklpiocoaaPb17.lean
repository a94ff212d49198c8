/- UnitBoxes: the row. -/
import Derived.Test.YtmfhkiklpiocoaaPb13
import Derived.Test.YtmfhkiklpiocoaaPb16
namespace Go.Proofs.Ytmfhkiklpiocoaa.Un
open Go Go.Proofs.Ytmfhkiklpiocoaa.Sx Go.RowKit Go.ChangeShapes Go.WideShapes Go.ChangeAt

set_option maxRecDepth 100000 in
theorem unitBoxes_lifted (os : Os) (started : os.Started) (H : Type) (enc : TypeId × Value → H) :
    ReturnsInHanded {} Try.checked os 10 .any (Rows.unitBoxesSpec.pre6 enc Try.prog Try.f10 Rows.unitBoxesRow.domain false) (Rows.unitBoxesSpec.post enc Try.prog Try.f10 false true false false) := by
  refine returnsInHanded_of_change (C := Try.checked) own started (by kernel_rfl) Try.func10
    (ChangeSpec.witness6 (enc := enc) (C := Try.checked) false ⟨#[], #[.agg #[.string ⟨#[]⟩, .int .i64 0, .int .i64 0, .int .i64 0, .int .i64 0, .int .i64 0, .int .i64 0, .int .i64 0, .int .i64 0, .int .i64 0, .int .i64 0, .int .i64 0], .slice none 0 0, .int .i64 0], []⟩ 8 (by kernel_rfl) (by kernel_rfl) (by kernel_rfl) (by kernel_rfl)) ?_
  intro W base args ds gs before hval0 hW hcnd _
  have hval : ∀ (j : Nat) t v, Try.f10.params[j]? = some t → args[j]? = some v → Value.okWide Try.prog W .any base t v := hval0
  have hW' := hW
  obtain ⟨p, q, hA0, hV, rfl, hfz, hnd⟩ := hW
  have hA : DataW.TrodAll enc Try.prog W 0 (fun _ => true) true Try.f10.params.toList args.toList ds p := hA0
  rw [Try.params10] at hA hval
  obtain ⟨v0, v1, v2, d0, d1, d2, p0, p1, p2, rfl, rfl, rfl, h0, h1, h2⟩ := trodAll_three hA
  obtain ⟨rfl, rfl⟩ := trodVars_none hV
  obtain ⟨s0, o0⟩ := opn_agg aggUnit flatUnit (hval 0 25 v0 rfl rfl) h0
  obtain ⟨s1, o1⟩ := opn_row Try.underlying39 flatLeg (by kernel_rfl) (by decide) (hval 1 39 v1 rfl rfl) h1
  obtain ⟨a2, rfl, rfl, rfl, w2⟩ := open_int Try.underlying3 (hval 2 3 v2 rfl rfl) h2
  have o2 : Opn W (.one K) (.int .i64 a2) _ := Opn.one (k := .i .i64) (x := (a2, ⟨#[]⟩)) w2
  obtain ⟨ea, hR, hw⟩ := Opns.top (aks := bxK) (.cons o0 (.cons o1 (.cons o2 .nil))) gF hF noK mF
  have law := boxes_law _ W (by simp only [wheresF, holds, List.mem_cons, List.not_mem_nil, or_false, forall_eq_or_imp, forall_eq, B_le, I_len, S_sv, I_c, I_v, decide_eq_true_eq]; exact ⟨wf_text hw (j := 0) rfl, wf_row hw (j := 12) rfl⟩) (tabs _) hR
  rw [ea] at law
  refine law.mono fun e W' ⟨he, hb⟩ => ?_
  subst he
  have b0 := Below.trod laidOut (by kernel_rfl) (of_decide_eq_true (by kernel_rfl)) h0 hb (fun x hx => hW'.lt x (by simp [hx]))
  have b1 := Below.trod laidOut (by kernel_rfl) (of_decide_eq_true (by kernel_rfl)) h1 hb (fun x hx => hW'.lt x (by simp [hx]))
  exact ⟨_, rfl, _, _, _, [], _, [], hW', trodAll_mk1 (shut_bool Try.underlying4 _), trodAll_mk3 b0 b1 (shut_int Try.underlying3 w2), rfl, hb.frame _, fun h => by cases h⟩

theorem unitBoxes_said : Rows.UnitBoxesSaid :=
  OpenClaim.holds_of_wide 10 Try.f10 rfl rfl rfl rfl rfl rfl rfl ⟨rfl, rfl, rfl, rfl, rfl⟩ rfl rfl rfl rfl rfl (by kernel_rfl) Try.func10 (by kernel_rfl)
    (of_decide_eq_true (by kernel_rfl)) (by unfold Func.isWrapper; first | (rw [if_pos (by decide +kernel)]; kernel_rfl) | (rw [if_neg (by decide +kernel)]; exact ⟨rfl, rfl⟩))
    (fun os started H enc _ => unitBoxes_lifted os started H enc)
#print axioms unitBoxes_said
end Go.Proofs.Ytmfhkiklpiocoaa.Un
