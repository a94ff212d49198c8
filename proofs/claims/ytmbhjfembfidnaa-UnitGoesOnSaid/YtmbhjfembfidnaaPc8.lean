/- A unit, a task, a byte and two numbers as parameters. UnitGoesOn: the row. -/
import Derived.Carry
import Derived.Test.YtmbhjfembfidnaaPb14
import Derived.Test.YtmbhjfembfidnaaPc7
section
namespace Go.Proofs.Ytmbhjfembfidnaa.Un
open Go Go.Proofs.Ytmbhjfembfidnaa.Sx Go.RowKit Go.ChangeShapes Go.WideShapes Go.ChangeAt
def ugK' : List AK := [.ag K12', .ag ((ks 1).map .sc), .one (.row (ks 3)), .one (.row (ks 8)), .one (.sc (.i .u8)), .ag ((ks 2).map .sc)]
def ugK : List AK := [.ag K12', .ag [.sc (.i .i64), .row (ks 3), .row (ks 8)], .one (.sc (.i .u8)), .ag ((ks 2).map .sc)]
theorem ug_rows {ρ : Env} {w : World} (h : RowsAt ρ w ugK') : RowsAt ρ w ugK := h
theorem ug_arr {ρ : Env} {u c l m a b : Value} (h : arr ρ (patAs 0 ugK') = [u, .agg #[c], l, m, a, b].toArray) : arr ρ (patAs 0 ugK) = #[u, .agg #[c, l, m], a, b] := by
  have h' : (patAs 0 ugK').map (V.den ρ) = [u, .agg #[c], l, m, a, b] := by
    have := congrArg Array.toList h
    unfold arr at this
    simpa using this
  rw [show patAs 0 ugK' = [patA 0 (.ag K12'), patA 12 (.ag ((ks 1).map .sc)), .var 13, .var 14, patA 15 (.one (.sc (.i .u8))), patA 16 (.ag ((ks 2).map .sc))] from rfl] at h'
  simp only [List.map_cons, List.map_nil, List.cons.injEq, and_true] at h'
  obtain ⟨a1, a2, a3, a4, a5, a6⟩ := h'
  rw [show patAs 0 ugK = [patA 0 (.ag K12'), .agg (V.ofL [.i .i64 (.v 12), .var 13, .var 14]), patA 15 (.one (.sc (.i .u8))), patA 16 (.ag ((ks 2).map .sc))] from rfl]
  have e : V.den ρ (.agg (V.ofL [.i .i64 (.v 12), .var 13, .var 14])) = .agg #[(V.i .i64 (.v 12)).den ρ, V.den ρ (.var 13), V.den ρ (.var 14)] := rfl
  unfold arr
  simp only [List.map_cons, List.map_nil]
  rw [a1, e, agg_one a2, a3, a4, a5, a6]
theorem wf_u8 {all : List Sl} {w : World} {aks : List AK} (h : Wfs (w := w) all 0 (ksOf aks)) {j : Nat} (hj : (ksOf aks)[j]? = some (.sc (.i .u8))) : 0 ≤ (all.getD j {}).x.1 ∧ (all.getD j {}).x.1 ≤ 255 := by
  have := (h j).1 _ hj
  rw [Nat.zero_add] at this
  have h2 : (Lit.int .u8 (all.getD j {}).x.1).wf = true := this
  simpa [Lit.wf, IntKind.min, IntKind.max, IntKind.signed, IntKind.bits] using h2
theorem flatTwo : flatK Try.prog 4 59 = some (ks 2) := by kernel_rfl
theorem aggTwo : isAggV Try.prog 59 = some true := by kernel_rfl
end Go.Proofs.Ytmbhjfembfidnaa.Un
end
section
namespace Go.Proofs.Ytmbhjfembfidnaa.Un
open Go Go.Proofs.Ytmbhjfembfidnaa.Sx Go.RowKit Go.ChangeShapes Go.WideShapes Go.ChangeAt

set_option maxRecDepth 100000 in
theorem unitGoesOn_lifted (os : Os) (started : os.Started) (H : Type) (enc : TypeId × Value → H) :
    ReturnsInHanded {} Try.checked os 9 .any (Rows.unitGoesOnSpec.pre6 enc Try.prog Try.f9 Rows.unitGoesOnRow.domain false) (Rows.unitGoesOnSpec.post enc Try.prog Try.f9 false true false false) := by
  refine returnsInHanded_of_change (C := Try.checked) own started (by kernel_rfl) Try.func9
    (ChangeSpec.witness6 (enc := enc) (C := Try.checked) false ⟨#[], #[.agg #[.string ⟨#[]⟩, .int .i64 0, .int .i64 0, .int .i64 0, .int .i64 0, .int .i64 0, .int .i64 0, .int .i64 0, .int .i64 0, .int .i64 0, .int .i64 0, .int .i64 0], .agg #[.int .i64 0, .slice none 0 0, .slice none 0 0], .int .u8 0, .agg #[.int .i64 0, .int .i64 0]], []⟩ 8 (by kernel_rfl) (by kernel_rfl) (by kernel_rfl) (by kernel_rfl)) ?_
  intro W base args ds gs before hval0 hW hcnd _
  have hval : ∀ (j : Nat) t v, Try.f9.params[j]? = some t → args[j]? = some v → Value.okWide Try.prog W .any base t v := hval0
  have hW' := hW
  obtain ⟨p, q, hA0, hV, rfl, hfz, hnd⟩ := hW
  have hA : DataW.TrodAll enc Try.prog W 0 (fun _ => true) true Try.f9.params.toList args.toList ds p := hA0
  rw [Try.params9] at hA hval
  obtain ⟨v0, v1, v2, v3, d0, d1, d2, d3, p0, p1, p2, p3, rfl, rfl, rfl, h0, h1, h2, h3⟩ := trodAll_four hA
  obtain ⟨rfl, rfl⟩ := trodVars_none hV
  obtain ⟨s0, o0⟩ := opn_agg aggUnit flatUnit (hval 0 25 v0 rfl rfl) h0
  obtain ⟨c, l, m, s1, s2, s3, rfl, o1, o2, o3⟩ := open_task (hval 1 37 v1 rfl rfl) h1
  obtain ⟨a2, rfl, rfl, rfl, w2⟩ := open_int Try.underlying5 (hval 2 5 v2 rfl rfl) h2
  have oq : Opn W (.one (.sc (.i .u8))) (.int .u8 a2) _ := Opn.one (k := .i .u8) (x := (a2, ⟨#[]⟩)) w2
  obtain ⟨s4, o4⟩ := opn_agg aggTwo flatTwo (hval 3 59 v3 rfl rfl) h3
  obtain ⟨ea, hR, hw⟩ := Opns.top (aks := ugK') (.cons o0 (.cons o1 (.cons o2 (.cons o3 (.cons oq (.cons o4 .nil)))))) gF hF noK mF
  have law := goes_law _ W (by simp only [goF', plawF, List.cons_append, List.nil_append, holds, List.mem_cons, List.not_mem_nil, or_false, forall_eq_or_imp, forall_eq, B_le, I_len, S_sv, I_c, I_v, decide_eq_true_eq]; exact ⟨wf_text hw (j := 0) rfl, (wf_row hw (j := 13) rfl).1, (wf_row hw (j := 13) rfl).2, (wf_row hw (j := 14) rfl).1, (wf_row hw (j := 14) rfl).2, (wf_u8 hw (j := 15) rfl).1, (wf_u8 hw (j := 15) rfl).2⟩) (tabs _) (ug_rows hR)
  rw [show goK = ugK from rfl, ug_arr ea] at law
  refine law.mono fun e W' ⟨he, hb⟩ => ?_
  subst he
  have b0 := Below.trod laidOut (by kernel_rfl) (of_decide_eq_true (by kernel_rfl)) h0 hb (fun x hx => hW'.lt x (by simp [hx]))
  have b1 := Below.trod laidOut (by kernel_rfl) (of_decide_eq_true (by kernel_rfl)) h1 hb (fun x hx => hW'.lt x (by simp [hx]))
  have b3 := Below.trod laidOut (by kernel_rfl) (of_decide_eq_true (by kernel_rfl)) h3 hb (fun x hx => hW'.lt x (by simp [hx]))
  exact ⟨_, rfl, _, _, _, [], _, [], hW', trodAll_mk1 (shut_bool Try.underlying4 _), trodAll_mk4 b0 b1 (shut_int Try.underlying5 w2) b3, rfl, hb.frame _, fun h => by cases h⟩

theorem unitGoesOn_said : Rows.UnitGoesOnSaid :=
  OpenClaim.holds_of_wide 9 Try.f9 rfl rfl rfl rfl rfl rfl rfl ⟨rfl, rfl, rfl, rfl, rfl⟩ rfl rfl rfl rfl rfl (by kernel_rfl) Try.func9 (by kernel_rfl)
    (of_decide_eq_true (by kernel_rfl)) (by unfold Func.isWrapper; first | (rw [if_pos (by decide +kernel)]; kernel_rfl) | (rw [if_neg (by decide +kernel)]; exact ⟨rfl, rfl⟩))
    (fun os started H enc _ => unitGoesOn_lifted os started H enc)
#print axioms unitGoesOn_said
end Go.Proofs.Ytmbhjfembfidnaa.Un
end
