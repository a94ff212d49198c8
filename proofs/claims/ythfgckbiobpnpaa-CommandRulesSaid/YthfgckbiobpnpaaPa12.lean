/- What the rows of layer 10 share. CommandRules: the row. CommandNone: the row. -/
import Derived.ProofKit
import Derived.Test.YthfgckbiobpnpaaRows
import Derived.Test.YthfgckbiobpnpaaPa10
import Derived.Test.YthfgckbiobpnpaaPa11
section
namespace Go.Proofs.Ythfgckbiobpnpaa.Cm
open Go Go.Proofs.Ythfgckbiobpnpaa.Sx Go.RowKit Go.ChangeShapes Go.WideShapes Go.ChangeAt

theorem own : ownKnob Try.prog.godebug = none := by kernel_rfl
theorem laidOut : laidOutB Try.prog = true := by kernel_rfl
def ks (n : Nat) : List Kd := List.replicate n (.i .i64)
theorem flatWord : flatK Try.prog 3 41 = some (ks 3) := by kernel_rfl
theorem flatRule : flatK Try.prog 3 23 = some (ks 3) := by kernel_rfl
theorem aggWord : isAggV Try.prog 41 = some true := by kernel_rfl
theorem aggRule : isAggV Try.prog 23 = some true := by kernel_rfl
def g0 : Nat → List (Int × ByteArray) → Int := fun _ _ => 0
def h0 : Nat → List (Int × ByteArray) → Bool := fun _ _ => false
def k0 : Nat → List (Int × ByteArray) → ByteArray := fun _ _ => ⟨#[]⟩
def m0 : Nat → List (Int × ByteArray) → List (Int × ByteArray) := fun _ _ => []
theorem tabs (sl : List Sl) : CT.tab (envSl g0 h0 k0 m0 sl).g (envSl g0 h0 k0 m0 sl).h (envSl g0 h0 k0 m0 sl).k (envSl g0 h0 k0 m0 sl).m := trivial
section
variable {H : Type} {enc : TypeId × Value → H} {P : Program} {w : World} {base : Nat} {spare : Nat → Bool} {held : Bool}
theorem opn_agg {n : Nat} {t : TypeId} {ks : List Kd} {v : Value} {d : DataW H} {p : List MemPlace} {r : Reach} {b0 : Nat} (hu : isAggV P t = some true) (hk : flatK P n t = some ks) (ho : Value.okWide P w r b0 t v) (h : DataW.Trod enc P w base spare held t v d p) :
    ∃ sl, Opn w (.ag (ks.map .sc)) v sl := by
  obtain ⟨cs, rfl⟩ := okWide_agg hu ho
  obtain ⟨xs, hx⟩ := open_plain hk h
  exact ⟨_, .ag hx⟩
end
end Go.Proofs.Ythfgckbiobpnpaa.Cm
end
section
namespace Go.Proofs.Ythfgckbiobpnpaa.Cm
open Go Go.Proofs.Ythfgckbiobpnpaa.Sx Go.RowKit Go.ChangeShapes Go.WideShapes Go.ChangeAt

set_option maxRecDepth 100000 in
theorem commandRules_lifted (os : Os) (started : os.Started) (H : Type) (enc : TypeId × Value → H) :
    ReturnsInHanded {} Try.checked os 3 .any (Rows.commandRulesSpec.pre6 enc Try.prog Try.f3 Rows.commandRulesRow.domain false) (Rows.commandRulesSpec.post enc Try.prog Try.f3 false true false false) := by
  refine returnsInHanded_of_change (C := Try.checked) own started (by kernel_rfl) Try.func3
    (ChangeSpec.witness6 (enc := enc) (C := Try.checked) false ⟨#[], #[.agg #[.int .i64 0, .int .i64 0, .int .i64 0], .int .i64 0], []⟩ 8 (by kernel_rfl) (by kernel_rfl) (by kernel_rfl) (by kernel_rfl)) ?_
  intro W base args ds gs before hval0 hW hcnd _
  have hval : ∀ (j : Nat) t v, Try.f3.params[j]? = some t → args[j]? = some v → Value.okWide Try.prog W .any base t v := hval0
  have hW' := hW
  obtain ⟨p, q, hA0, hV, rfl, hfz, hnd⟩ := hW
  have hA : DataW.TrodAll enc Try.prog W 0 (fun _ => true) true Try.f3.params.toList args.toList ds p := hA0
  rw [Try.params3] at hA hval
  obtain ⟨v0, v1, d0, d1, p0, p1, rfl, rfl, rfl, h0, h1⟩ := trodAll_two hA
  obtain ⟨rfl, rfl⟩ := trodVars_none hV
  obtain ⟨s0, o0⟩ := opn_agg aggRule flatRule (hval 0 23 v0 rfl rfl) h0
  obtain ⟨a1, rfl, rfl, rfl, w1⟩ := open_int Try.underlying3 (hval 1 3 v1 rfl rfl) h1
  have o1 : Opn W (.one K) (.int .i64 a1) _ := Opn.one (k := .i .i64) (x := (a1, ⟨#[]⟩)) w1
  obtain ⟨ea, hR, hw⟩ := Opns.top (aks := rulesK) (.cons o0 (.cons o1 .nil)) g0 Cm.h0 k0 m0
  have law := rules_law _ W (by simp [holds]) (tabs _) hR
  rw [ea] at law
  refine law.mono fun e W' ⟨he, hb⟩ => ?_
  subst he
  have b0 := Below.trod laidOut (by kernel_rfl) (of_decide_eq_true (by kernel_rfl)) h0 hb (fun x hx => hW'.lt x (by simp [hx]))
  exact ⟨_, rfl, _, _, _, [], _, [], hW', trodAll_mk1 (shut_bool Try.underlying4 _), trodAll_mk2 b0 (shut_int Try.underlying3 w1), rfl, hb.frame _, fun h => by cases h⟩

theorem commandRules_said : Rows.CommandRulesSaid :=
  OpenClaim.holds_of_wide 3 Try.f3 rfl rfl rfl rfl rfl rfl rfl ⟨rfl, rfl, rfl, rfl, rfl⟩ rfl rfl rfl rfl rfl (by kernel_rfl) Try.func3 (by kernel_rfl)
    (of_decide_eq_true (by kernel_rfl)) (by unfold Func.isWrapper; first | (rw [if_pos (by decide +kernel)]; kernel_rfl) | (rw [if_neg (by decide +kernel)]; exact ⟨rfl, rfl⟩))
    (fun os started H enc _ => commandRules_lifted os started H enc)
#print axioms commandRules_said
end Go.Proofs.Ythfgckbiobpnpaa.Cm
end
section
namespace Go.Proofs.Ythfgckbiobpnpaa.Cm
open Go Go.Proofs.Ythfgckbiobpnpaa.Sx Go.RowKit Go.ChangeShapes Go.WideShapes Go.ChangeAt

set_option maxRecDepth 100000 in
theorem commandNone_lifted (os : Os) (started : os.Started) (H : Type) (enc : TypeId × Value → H) :
    ReturnsInHanded {} Try.checked os 10 .any (Rows.commandNoneSpec.pre6 enc Try.prog Try.f10 Rows.commandNoneRow.domain false) (Rows.commandNoneSpec.post enc Try.prog Try.f10 false true false false) := by
  refine returnsInHanded_of_change (C := Try.checked) own started (by kernel_rfl) Try.func10
    (ChangeSpec.witness6 (enc := enc) (C := Try.checked) false ⟨#[], #[.int .i64 0, .agg #[.int .i64 0, .int .i64 0, .int .i64 0]], []⟩ 8 (by kernel_rfl) (by kernel_rfl) (by kernel_rfl) (by kernel_rfl)) ?_
  intro W base args ds gs before hval0 hW hcnd _
  have hval : ∀ (j : Nat) t v, Try.f10.params[j]? = some t → args[j]? = some v → Value.okWide Try.prog W .any base t v := hval0
  have hW' := hW
  obtain ⟨p, q, hA0, hV, rfl, hfz, hnd⟩ := hW
  have hA : DataW.TrodAll enc Try.prog W 0 (fun _ => true) true Try.f10.params.toList args.toList ds p := hA0
  rw [Try.params10] at hA hval
  obtain ⟨v0, v1, d0, d1, p0, p1, rfl, rfl, rfl, h0, h1⟩ := trodAll_two hA
  obtain ⟨rfl, rfl⟩ := trodVars_none hV
  obtain ⟨a0, rfl, rfl, rfl, w0⟩ := open_int Try.underlying3 (hval 0 3 v0 rfl rfl) h0
  have o0 : Opn W (.one K) (.int .i64 a0) _ := Opn.one (k := .i .i64) (x := (a0, ⟨#[]⟩)) w0
  obtain ⟨s1, o1⟩ := opn_agg aggWord flatWord (hval 1 41 v1 rfl rfl) h1
  obtain ⟨ea, hR, hw⟩ := Opns.top (aks := noneK) (.cons o0 (.cons o1 .nil)) g0 Cm.h0 k0 m0
  have law := none_law _ W (by simp [holds]) (tabs _) hR
  rw [ea] at law
  refine law.mono fun e W' ⟨he, hb⟩ => ?_
  subst he
  have b1 := Below.trod laidOut (by kernel_rfl) (of_decide_eq_true (by kernel_rfl)) h1 hb (fun x hx => hW'.lt x (by simp [hx]))
  exact ⟨_, rfl, _, _, _, [], _, [], hW', trodAll_mk1 (shut_bool Try.underlying4 _), trodAll_mk2 (shut_int Try.underlying3 w0) b1, rfl, hb.frame _, fun h => by cases h⟩

theorem commandNone_said : Rows.CommandNoneSaid :=
  OpenClaim.holds_of_wide 10 Try.f10 rfl rfl rfl rfl rfl rfl rfl ⟨rfl, rfl, rfl, rfl, rfl⟩ rfl rfl rfl rfl rfl (by kernel_rfl) Try.func10 (by kernel_rfl)
    (of_decide_eq_true (by kernel_rfl)) (by unfold Func.isWrapper; first | (rw [if_pos (by decide +kernel)]; kernel_rfl) | (rw [if_neg (by decide +kernel)]; exact ⟨rfl, rfl⟩))
    (fun os started H enc _ => commandNone_lifted os started H enc)
#print axioms commandNone_said
end Go.Proofs.Ythfgckbiobpnpaa.Cm
end
