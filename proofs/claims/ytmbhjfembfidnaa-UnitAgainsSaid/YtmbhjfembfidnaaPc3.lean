/- A unit, legs and a task as parameters. UnitAgains: the row. -/
import Derived.Carry
import Derived.Test.YtmbhjfembfidnaaPb14
import Derived.Test.YtmbhjfembfidnaaPc2
section
namespace Go.Proofs.Ytmbhjfembfidnaa.Un
open Go Go.Proofs.Ytmbhjfembfidnaa.Sx Go.RowKit Go.ChangeShapes Go.WideShapes Go.ChangeAt
/-- a unit, legs and a task. -/
def ulK' : List AK := [.ag K12', .one (.row (ks 8)), .ag ((ks 1).map .sc), .one (.row (ks 3)), .one (.row (ks 8))]
def ulK : List AK := [.ag K12', .one (.row (ks 8)), .ag [.sc (.i .i64), .row (ks 3), .row (ks 8)]]
theorem ul_rows {ρ : Env} {w : World} (h : RowsAt ρ w ulK') : RowsAt ρ w ulK := h
theorem ul_arr {ρ : Env} {u g c l m : Value} (h : arr ρ (patAs 0 ulK') = [u, g, .agg #[c], l, m].toArray) : arr ρ (patAs 0 ulK) = #[u, g, .agg #[c, l, m]] := by
  have h' : (patAs 0 ulK').map (V.den ρ) = [u, g, .agg #[c], l, m] := by
    have := congrArg Array.toList h
    unfold arr at this
    simpa using this
  rw [show patAs 0 ulK' = [patA 0 (.ag K12'), .var 12, patA 13 (.ag ((ks 1).map .sc)), .var 14, .var 15] from rfl] at h'
  simp only [List.map_cons, List.map_nil, List.cons.injEq, and_true] at h'
  obtain ⟨a1, a0, a2, a3, a4⟩ := h'
  rw [show patAs 0 ulK = [patA 0 (.ag K12'), .var 12, .agg (V.ofL [.i .i64 (.v 13), .var 14, .var 15])] from rfl]
  have e : V.den ρ (.agg (V.ofL [.i .i64 (.v 13), .var 14, .var 15])) = .agg #[(V.i .i64 (.v 13)).den ρ, V.den ρ (.var 14), V.den ρ (.var 15)] := rfl
  unfold arr
  simp only [List.map_cons, List.map_nil]
  rw [a1, a0, e, agg_one a2, a3, a4]
end Go.Proofs.Ytmbhjfembfidnaa.Un
end
section
namespace Go.Proofs.Ytmbhjfembfidnaa.Un
open Go Go.Proofs.Ytmbhjfembfidnaa.Sx Go.RowKit Go.ChangeShapes Go.WideShapes Go.ChangeAt

set_option maxRecDepth 100000 in
theorem unitAgains_lifted (os : Os) (started : os.Started) (H : Type) (enc : TypeId × Value → H) :
    ReturnsInHanded {} Try.checked os 6 .any (Rows.unitAgainsSpec.pre6 enc Try.prog Try.f6 Rows.unitAgainsRow.domain false) (Rows.unitAgainsSpec.post enc Try.prog Try.f6 false true false false) := by
  refine returnsInHanded_of_change (C := Try.checked) own started (by kernel_rfl) Try.func6
    (ChangeSpec.witness6 (enc := enc) (C := Try.checked) false ⟨#[], #[.agg #[.string ⟨#[]⟩, .int .i64 0, .int .i64 0, .int .i64 0, .int .i64 0, .int .i64 0, .int .i64 0, .int .i64 0, .int .i64 0, .int .i64 0, .int .i64 0, .int .i64 0], .slice none 0 0, .agg #[.int .i64 0, .slice none 0 0, .slice none 0 0]], []⟩ 8 (by kernel_rfl) (by kernel_rfl) (by kernel_rfl) (by kernel_rfl)) ?_
  intro W base args ds gs before hval0 hW hcnd _
  have hval : ∀ (j : Nat) t v, Try.f6.params[j]? = some t → args[j]? = some v → Value.okWide Try.prog W .any base t v := hval0
  have hW' := hW
  obtain ⟨p, q, hA0, hV, rfl, hfz, hnd⟩ := hW
  have hA : DataW.TrodAll enc Try.prog W 0 (fun _ => true) true Try.f6.params.toList args.toList ds p := hA0
  rw [Try.params6] at hA hval
  obtain ⟨v0, v9, v1, d0, d9, d1, p0, p9, p1, rfl, rfl, rfl, h0, h9, h1⟩ := trodAll_three hA
  obtain ⟨rfl, rfl⟩ := trodVars_none hV
  obtain ⟨s0, o0⟩ := opn_agg aggUnit flatUnit (hval 0 25 v0 rfl rfl) h0
  obtain ⟨s9, o9⟩ := opn_row Try.underlying39 flatLeg (by kernel_rfl) (by decide) (hval 1 39 v9 rfl rfl) h9
  obtain ⟨c, l, m, s1, s2, s3, rfl, o1, o2, o3⟩ := open_task (hval 2 37 v1 rfl rfl) h1
  obtain ⟨ea, hR, hw⟩ := Opns.top (aks := ulK') (.cons o0 (.cons o9 (.cons o1 (.cons o2 (.cons o3 .nil))))) gF hF noK mF
  have law := agains_law _ W (by simp only [awF, holds, List.mem_cons, List.not_mem_nil, or_false, forall_eq_or_imp, forall_eq, B_le, I_len, S_sv, I_c, I_v, decide_eq_true_eq]; exact ⟨wf_text hw (j := 0) rfl, (wf_row hw (j := 12) rfl).1, (wf_row hw (j := 12) rfl).2, (wf_row hw (j := 14) rfl).1, (wf_row hw (j := 14) rfl).2, (wf_row hw (j := 15) rfl).1, (wf_row hw (j := 15) rfl).2⟩) (tabs _) (ul_rows hR)
  rw [show awK = ulK from rfl, ul_arr ea] at law
  refine law.mono fun e W' ⟨he, hb⟩ => ?_
  subst he
  have b0 := Below.trod laidOut (by kernel_rfl) (of_decide_eq_true (by kernel_rfl)) h0 hb (fun x hx => hW'.lt x (by simp [hx]))
  have b9 := Below.trod laidOut (by kernel_rfl) (of_decide_eq_true (by kernel_rfl)) h9 hb (fun x hx => hW'.lt x (by simp [hx]))
  have b1 := Below.trod laidOut (by kernel_rfl) (of_decide_eq_true (by kernel_rfl)) h1 hb (fun x hx => hW'.lt x (by simp [hx]))
  exact ⟨_, rfl, _, _, _, [], _, [], hW', trodAll_mk1 (shut_bool Try.underlying4 _), trodAll_mk3 b0 b9 b1, rfl, hb.frame _, fun h => by cases h⟩

theorem unitAgains_said : Rows.UnitAgainsSaid :=
  OpenClaim.holds_of_wide 6 Try.f6 rfl rfl rfl rfl rfl rfl rfl ⟨rfl, rfl, rfl, rfl, rfl⟩ rfl rfl rfl rfl rfl (by kernel_rfl) Try.func6 (by kernel_rfl)
    (of_decide_eq_true (by kernel_rfl)) (by unfold Func.isWrapper; first | (rw [if_pos (by decide +kernel)]; kernel_rfl) | (rw [if_neg (by decide +kernel)]; exact ⟨rfl, rfl⟩))
    (fun os started H enc _ => unitAgains_lifted os started H enc)
#print axioms unitAgains_said
end Go.Proofs.Ytmbhjfembfidnaa.Un
end
