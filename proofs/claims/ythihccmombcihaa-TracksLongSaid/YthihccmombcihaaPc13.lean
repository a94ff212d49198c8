/- What the rows of layer 8 share. TracksLong: whatever the arguments are, the law answers true. No condition of its own. -/
import Derived.ProofKit
import Derived.Carry
import Derived.Test.YthihccmombcihaaRows
import Derived.Test.YthihccmombcihaaPc10
import Derived.Test.YthihccmombcihaaPc11
import Derived.Test.YthihccmombcihaaPc12
section
namespace Go.Proofs.Ythihccmombcihaa.Tk
open Go Go.Proofs.Ythihccmombcihaa.Sx Go.RowKit Go.ChangeShapes Go.WideShapes Go.ChangeAt

theorem own : ownKnob Try.prog.godebug = none := by kernel_rfl
theorem laidOut : laidOutB Try.prog = true := by kernel_rfl
def noK : Nat → LL → ByteArray := fun _ _ => ⟨#[]⟩
def noM : Nat → LL → LL := fun _ _ => []
theorem tabs (sl : List Sl) : UT.tab (envSl gF hF noK noM sl).g (envSl gF hF noK noM sl).h (envSl gF hF noK noM sl).k (envSl gF hF noK noM sl).m := ⟨rfl, rfl⟩
section
variable {H : Type} {enc : TypeId × Value → H} {P : Program} {w : World} {base : Nat} {spare : Nat → Bool} {held : Bool}
theorem opn_agg {n : Nat} {t : TypeId} {ks : List Kd} {v : Value} {d : DataW H} {p : List MemPlace} {r : Reach} {b0 : Nat} (hu : isAggV P t = some true) (hk : flatK P n t = some ks) (ho : Value.okWide P w r b0 t v) (h : DataW.Trod enc P w base spare held t v d p) :
    ∃ sl, Opn w (.ag (ks.map .sc)) v sl := by
  obtain ⟨cs, rfl⟩ := okWide_agg hu ho
  obtain ⟨xs, hx⟩ := open_plain hk h
  exact ⟨_, .ag hx⟩
theorem opn_row {n : Nat} {t e : TypeId} {ks : List Kd} {v : Value} {d : DataW H} {p : List MemPlace} {r : Reach} {b0 : Nat} (ht : P.underlying t = some (.slice e)) (hk : flatK P n e = some ks) (hl : ks.length = P.cellsOf e) (h0 : 0 < ks.length)
    (ho : Value.okWide P w r b0 t v) (h : DataW.Trod enc P w base spare held t v d p) : ∃ sl, Opn w (.one (.row ks)) v sl := by
  obtain ⟨N, xs, hr⟩ := open_row ht hk hl h0 ho h
  exact ⟨_, .row hr⟩
theorem opn_bool (w : World) (b : Bool) : Opn w (.one (.sc .b)) (.bool b) (scs [(if b then 1 else 0, ⟨#[]⟩)]) := by
  have := Opn.one (w := w) (k := .b) (x := (if b then 1 else 0, ⟨#[]⟩)) (by cases b <;> simp [WfK])
  cases b <;> exact this
theorem trodAll_five {t t' t'' t3 t4 : TypeId} {args : Array Value} {ds : List (DataW H)} {ps : List MemPlace} (h : DataW.TrodAll enc P w base spare held [t, t', t'', t3, t4] args.toList ds ps) :
    ∃ v v' v'' v3 v4 d d' d'' d3 d4 p p' p'' p3 p4, args = #[v, v', v'', v3, v4] ∧ ds = [d, d', d'', d3, d4] ∧ ps = p ++ p' ++ p'' ++ p3 ++ p4 ∧ DataW.Trod enc P w base spare held t v d p ∧ DataW.Trod enc P w base spare held t' v' d' p' ∧ DataW.Trod enc P w base spare held t'' v'' d'' p'' ∧ DataW.Trod enc P w base spare held t3 v3 d3 p3 ∧ DataW.Trod enc P w base spare held t4 v4 d4 p4 := by
  obtain ⟨v, vs, d, ds', p, q, hargs, rfl, rfl, hd, hrest⟩ := trodAll_cons h
  obtain ⟨v', vs', d', ds'', p', q', rfl, rfl, rfl, hd', hrest'⟩ := trodAll_cons hrest
  obtain ⟨v'', vs'', d'', ds''', p'', q'', rfl, rfl, rfl, hd'', hrest''⟩ := trodAll_cons hrest'
  obtain ⟨v3, vs3, d3, ds3, p3, q3, rfl, rfl, rfl, hd3, hrest3⟩ := trodAll_cons hrest''
  obtain ⟨v4, vs4, d4, ds4, p4, q4, rfl, rfl, rfl, hd4, hrest4⟩ := trodAll_cons hrest3
  obtain ⟨rfl, rfl, rfl⟩ := trodAll_nil hrest4
  exact ⟨v, v', v'', v3, v4, d, d', d'', d3, d4, p, p', p'', p3, p4, by cases args; simp_all, rfl, by simp, hd, hd', hd'', hd3, hd4⟩
theorem trodAll_mk5 {t t' t'' t3 t4 : TypeId} {v v' v'' v3 v4 : Value} {d d' d'' d3 d4 : DataW H} {p p' p'' p3 p4 : List MemPlace} (h : DataW.Trod enc P w base spare held t v d p) (h' : DataW.Trod enc P w base spare held t' v' d' p')
    (h'' : DataW.Trod enc P w base spare held t'' v'' d'' p'') (h3 : DataW.Trod enc P w base spare held t3 v3 d3 p3) (h4 : DataW.Trod enc P w base spare held t4 v4 d4 p4) : DataW.TrodAll enc P w base spare held [t, t', t'', t3, t4] [v, v', v'', v3, v4] [d, d', d'', d3, d4] (p ++ (p' ++ (p'' ++ (p3 ++ p4)))) := ⟨p, p' ++ (p'' ++ (p3 ++ p4)), h, trodAll_mk4 h' h'' h3 h4, rfl⟩
end
theorem wf_row {all : List Sl} {w : World} {aks : List AK} (h : Wfs (w := w) all 0 (ksOf aks)) {j : Nat} {kds : List Kd} (hj : (ksOf aks)[j]? = some (.row kds)) : 0 ≤ (all.getD j {}).x.1 ∧ (all.getD j {}).x.1 ≤ 9223372036854775807 := by
  obtain ⟨N, v, xs, h1, h2⟩ := (h j).2 _ hj
  rw [Nat.zero_add] at h1
  rw [h1]
  have h3 : maxLen = 9223372036854775807 := rfl
  have h4 := h2.2.2.1
  have h5 : (rowSl v N xs).x.1 = (N : Int) := rfl
  rw [h5]
  omega
theorem wf_i64 {all : List Sl} {w : World} {aks : List AK} (h : Wfs (w := w) all 0 (ksOf aks)) {j : Nat} (hj : (ksOf aks)[j]? = some K) : -9223372036854775808 ≤ (all.getD j {}).x.1 ∧ (all.getD j {}).x.1 ≤ 9223372036854775807 := by
  have := (h j).1 _ hj
  rw [Nat.zero_add] at this
  have h2 : (Lit.int .i64 (all.getD j {}).x.1).wf = true := this
  simpa [Lit.wf, IntKind.min, IntKind.max, IntKind.signed, IntKind.bits] using h2
theorem wf_u32 {all : List Sl} {w : World} {aks : List AK} (h : Wfs (w := w) all 0 (ksOf aks)) {j : Nat} (hj : (ksOf aks)[j]? = some (.sc (.i .u32))) : 0 ≤ (all.getD j {}).x.1 ∧ (all.getD j {}).x.1 ≤ 4294967295 := by
  have := (h j).1 _ hj
  rw [Nat.zero_add] at this
  have h2 : (Lit.int .u32 (all.getD j {}).x.1).wf = true := this
  simpa [Lit.wf, IntKind.min, IntKind.max, IntKind.signed, IntKind.bits] using h2
theorem wf_u8 {all : List Sl} {w : World} {aks : List AK} (h : Wfs (w := w) all 0 (ksOf aks)) {j : Nat} (hj : (ksOf aks)[j]? = some (.sc (.i .u8))) : 0 ≤ (all.getD j {}).x.1 ∧ (all.getD j {}).x.1 ≤ 255 := by
  have := (h j).1 _ hj
  rw [Nat.zero_add] at this
  have h2 : (Lit.int .u8 (all.getD j {}).x.1).wf = true := this
  simpa [Lit.wf, IntKind.min, IntKind.max, IntKind.signed, IntKind.bits] using h2
end Go.Proofs.Ythihccmombcihaa.Tk
end
section
namespace Go.Proofs.Ythihccmombcihaa.Tk
open Go Go.Proofs.Ythihccmombcihaa.Sx Go.RowKit Go.ChangeShapes Go.WideShapes Go.ChangeAt

set_option maxRecDepth 100000 in
theorem tracksLong_lifted (os : Os) (started : os.Started) (H : Type) (enc : TypeId × Value → H) :
    ReturnsInHanded {} Try.checked os 5 .any (Rows.tracksLongSpec.pre6 enc Try.prog Try.f5 Rows.tracksLongRow.domain false) (Rows.tracksLongSpec.post enc Try.prog Try.f5 false true false false) := by
  refine returnsInHanded_of_change (C := Try.checked) own started (by kernel_rfl) Try.func5
    (ChangeSpec.witness6 (enc := enc) (C := Try.checked) false ⟨#[], #[.slice none 0 0, .int .u8 0], []⟩ 8 (by kernel_rfl) (by kernel_rfl) (by kernel_rfl) (by kernel_rfl)) ?_
  intro W base args ds gs before hval0 hW hcnd _
  have hval : ∀ (j : Nat) t v, Try.f5.params[j]? = some t → args[j]? = some v → Value.okWide Try.prog W .any base t v := hval0
  have hW' := hW
  obtain ⟨p, q, hA0, hV, rfl, hfz, hnd⟩ := hW
  have hA : DataW.TrodAll enc Try.prog W 0 (fun _ => true) true Try.f5.params.toList args.toList ds p := hA0
  rw [Try.params5] at hA hval
  obtain ⟨v0, v1, d0, d1, p0, p1, rfl, rfl, rfl, h0, h1⟩ := trodAll_two hA
  obtain ⟨rfl, rfl⟩ := trodVars_none hV
  obtain ⟨s0, o0⟩ := opn_row (n := 4) (ks := [.i .i64, .i .i64]) Try.underlying22 (by kernel_rfl) (by kernel_rfl) (by decide) (hval 0 22 v0 rfl rfl) h0
  obtain ⟨a1, rfl, rfl, rfl, w1⟩ := open_int Try.underlying5 (hval 1 5 v1 rfl rfl) h1
  have o1 : Opn W (.one (.sc (.i .u8))) (.int .u8 a1) _ := Opn.one (k := .i .u8) (x := (a1, ⟨#[]⟩)) w1
  obtain ⟨ea, hR, hw⟩ := Opns.top (aks := longK) (.cons o0 (.cons o1 .nil)) gF Tk.hF noK noM
  have law := long_at fit_UT _ W (longF_of (wf_row hw (j := 0) rfl) (wf_u8 hw (j := 1) rfl)) (tabs _) hR
  rw [ea] at law
  refine law.mono fun e W' ⟨he, hb⟩ => ?_
  subst he
  have b0 := Below.trod laidOut (by kernel_rfl) (of_decide_eq_true (by kernel_rfl)) h0 hb (fun x hx => hW'.lt x (by simp [hx]))
  exact ⟨_, rfl, _, _, _, [], _, [], hW', trodAll_mk1 (shut_bool Try.underlying4 _), trodAll_mk2 b0 (shut_int Try.underlying5 w1), rfl, hb.frame _, fun h => by cases h⟩

theorem tracksLong_said : Rows.TracksLongSaid :=
  OpenClaim.holds_of_wide 5 Try.f5 rfl rfl rfl rfl rfl rfl rfl ⟨rfl, rfl, rfl, rfl, rfl⟩ rfl rfl rfl rfl rfl (by kernel_rfl) Try.func5 (by kernel_rfl)
    (of_decide_eq_true (by kernel_rfl)) (by unfold Func.isWrapper; first | (rw [if_pos (by decide +kernel)]; kernel_rfl) | (rw [if_neg (by decide +kernel)]; exact ⟨rfl, rfl⟩))
    (fun os started H enc _ => tracksLong_lifted os started H enc)
#print axioms tracksLong_said
end Go.Proofs.Ythihccmombcihaa.Tk
end
