/- What the rows of layer 8 share. -/
import Derived.ProofKit
import Derived.Carry
import Derived.Test.YtkhffloahpdbdaaDoorRows
import Derived.Test.YtkhffloahpdbdaaDoorPa10
import Derived.Test.YtkhffloahpdbdaaDoorPa12
namespace Go.Proofs.YtkhffloahpdbdaaDoor.Tk
open Go Go.Proofs.YtkhffloahpdbdaaDoor.Sx Go.RowKit Go.ChangeShapes Go.WideShapes Go.ChangeAt

theorem own : ownKnob Tryd.prog.godebug = none := by kernel_rfl
theorem laidOut : laidOutB Tryd.prog = true := by kernel_rfl
def noK : Nat → LL → ByteArray := fun _ _ => ⟨#[]⟩
def noM : Nat → LL → LL := fun _ _ => []
theorem tabs (sl : List Sl) : UT.tab (envSl gF hF noK noM sl).g (envSl gF hF noK noM sl).h (envSl gF hF noK noM sl).k (envSl gF hF noK noM sl).m := ⟨rfl, rfl⟩
section
variable {H : Type} {enc : TypeId × Value → H} {P : Program} {w : World} {base : Nat} {spare : Nat → Bool} {held : Bool}
theorem opn_agg {n : Nat} {t : TypeId} {ks : List Kd} {v : Value} {d : DataW H} {p : List MemPlace} {r : Reach} {b0 : Nat} (hu : isAggV P t = some true) (hk : flatK P n t = some ks) (ho : Value.okWide P w r b0 t v) (h : DataW.Trod enc P w base spare held t v d p) :
    ∃ sl, Opn w (.ag (ks.map .sc)) v sl := by
  obtain ⟨cs, rfl⟩ := okWide_agg hu ho
  obtain ⟨xs, hx⟩ := open_plain hk h
  exact ⟨_, .ag hx⟩
theorem opn_row {n : Nat} {t e : TypeId} {ks : List Kd} {v : Value} {d : DataW H} {p : List MemPlace} {r : Reach} {b0 : Nat} (ht : P.underlying t = some (.slice e)) (hk : flatK P n e = some ks) (hl : ks.length = P.cellsOf e) (h0 : 0 < ks.length)
    (ho : Value.okWide P w r b0 t v) (h : DataW.Trod enc P w base spare held t v d p) : ∃ sl, Opn w (.one (.row ks)) v sl := by
  obtain ⟨N, xs, hr⟩ := open_row ht hk hl h0 ho h
  exact ⟨_, .row hr⟩
theorem opn_bool (w : World) (b : Bool) : Opn w (.one (.sc .b)) (.bool b) (scs [(if b then 1 else 0, ⟨#[]⟩)]) := by
  have := Opn.one (w := w) (k := .b) (x := (if b then 1 else 0, ⟨#[]⟩)) (by cases b <;> simp [WfK])
  cases b <;> exact this
theorem trodAll_five {t t' t'' t3 t4 : TypeId} {args : Array Value} {ds : List (DataW H)} {ps : List MemPlace} (h : DataW.TrodAll enc P w base spare held [t, t', t'', t3, t4] args.toList ds ps) :
    ∃ v v' v'' v3 v4 d d' d'' d3 d4 p p' p'' p3 p4, args = #[v, v', v'', v3, v4] ∧ ds = [d, d', d'', d3, d4] ∧ ps = p ++ p' ++ p'' ++ p3 ++ p4 ∧ DataW.Trod enc P w base spare held t v d p ∧ DataW.Trod enc P w base spare held t' v' d' p' ∧ DataW.Trod enc P w base spare held t'' v'' d'' p'' ∧ DataW.Trod enc P w base spare held t3 v3 d3 p3 ∧ DataW.Trod enc P w base spare held t4 v4 d4 p4 := by
  obtain ⟨v, vs, d, ds', p, q, hargs, rfl, rfl, hd, hrest⟩ := trodAll_cons h
  obtain ⟨v', vs', d', ds'', p', q', rfl, rfl, rfl, hd', hrest'⟩ := trodAll_cons hrest
  obtain ⟨v'', vs'', d'', ds''', p'', q'', rfl, rfl, rfl, hd'', hrest''⟩ := trodAll_cons hrest'
  obtain ⟨v3, vs3, d3, ds3, p3, q3, rfl, rfl, rfl, hd3, hrest3⟩ := trodAll_cons hrest''
  obtain ⟨v4, vs4, d4, ds4, p4, q4, rfl, rfl, rfl, hd4, hrest4⟩ := trodAll_cons hrest3
  obtain ⟨rfl, rfl, rfl⟩ := trodAll_nil hrest4
  exact ⟨v, v', v'', v3, v4, d, d', d'', d3, d4, p, p', p'', p3, p4, by cases args; simp_all, rfl, by simp, hd, hd', hd'', hd3, hd4⟩
theorem trodAll_mk5 {t t' t'' t3 t4 : TypeId} {v v' v'' v3 v4 : Value} {d d' d'' d3 d4 : DataW H} {p p' p'' p3 p4 : List MemPlace} (h : DataW.Trod enc P w base spare held t v d p) (h' : DataW.Trod enc P w base spare held t' v' d' p')
    (h'' : DataW.Trod enc P w base spare held t'' v'' d'' p'') (h3 : DataW.Trod enc P w base spare held t3 v3 d3 p3) (h4 : DataW.Trod enc P w base spare held t4 v4 d4 p4) : DataW.TrodAll enc P w base spare held [t, t', t'', t3, t4] [v, v', v'', v3, v4] [d, d', d'', d3, d4] (p ++ (p' ++ (p'' ++ (p3 ++ p4)))) := ⟨p, p' ++ (p'' ++ (p3 ++ p4)), h, trodAll_mk4 h' h'' h3 h4, rfl⟩
end
theorem wf_row {all : List Sl} {w : World} {aks : List AK} (h : Wfs (w := w) all 0 (ksOf aks)) {j : Nat} {kds : List Kd} (hj : (ksOf aks)[j]? = some (.row kds)) : 0 ≤ (all.getD j {}).x.1 ∧ (all.getD j {}).x.1 ≤ 9223372036854775807 := by
  obtain ⟨N, v, xs, h1, h2⟩ := (h j).2 _ hj
  rw [Nat.zero_add] at h1
  rw [h1]
  have h3 : maxLen = 9223372036854775807 := rfl
  have h4 := h2.2.2.1
  have h5 : (rowSl v N xs).x.1 = (N : Int) := rfl
  rw [h5]
  omega
theorem wf_i64 {all : List Sl} {w : World} {aks : List AK} (h : Wfs (w := w) all 0 (ksOf aks)) {j : Nat} (hj : (ksOf aks)[j]? = some K) : -9223372036854775808 ≤ (all.getD j {}).x.1 ∧ (all.getD j {}).x.1 ≤ 9223372036854775807 := by
  have := (h j).1 _ hj
  rw [Nat.zero_add] at this
  have h2 : (Lit.int .i64 (all.getD j {}).x.1).wf = true := this
  simpa [Lit.wf, IntKind.min, IntKind.max, IntKind.signed, IntKind.bits] using h2
theorem wf_u32 {all : List Sl} {w : World} {aks : List AK} (h : Wfs (w := w) all 0 (ksOf aks)) {j : Nat} (hj : (ksOf aks)[j]? = some (.sc (.i .u32))) : 0 ≤ (all.getD j {}).x.1 ∧ (all.getD j {}).x.1 ≤ 4294967295 := by
  have := (h j).1 _ hj
  rw [Nat.zero_add] at this
  have h2 : (Lit.int .u32 (all.getD j {}).x.1).wf = true := this
  simpa [Lit.wf, IntKind.min, IntKind.max, IntKind.signed, IntKind.bits] using h2
theorem wf_u8 {all : List Sl} {w : World} {aks : List AK} (h : Wfs (w := w) all 0 (ksOf aks)) {j : Nat} (hj : (ksOf aks)[j]? = some (.sc (.i .u8))) : 0 ≤ (all.getD j {}).x.1 ∧ (all.getD j {}).x.1 ≤ 255 := by
  have := (h j).1 _ hj
  rw [Nat.zero_add] at this
  have h2 : (Lit.int .u8 (all.getD j {}).x.1).wf = true := this
  simpa [Lit.wf, IntKind.min, IntKind.max, IntKind.signed, IntKind.bits] using h2
end Go.Proofs.YtkhffloahpdbdaaDoor.Tk
