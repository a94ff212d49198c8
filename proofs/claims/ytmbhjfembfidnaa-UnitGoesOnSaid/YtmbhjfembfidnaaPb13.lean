/- What the rows of layer 9 share. -/
import Derived.ProofKit
import Derived.Test.YtmbhjfembfidnaaRows
import Derived.Test.YtmbhjfembfidnaaPb11
import Derived.Test.YtmbhjfembfidnaaPb12
namespace Go.Proofs.Ytmbhjfembfidnaa.Un
open Go Go.Proofs.Ytmbhjfembfidnaa.Sx Go.RowKit Go.ChangeShapes Go.WideShapes Go.ChangeAt

theorem own : ownKnob Try.prog.godebug = none := by kernel_rfl
theorem laidOut : laidOutB Try.prog = true := by kernel_rfl
def ks (n : Nat) : List Kd := List.replicate n (.i .i64)
theorem flatSpot : flatK Try.prog 3 23 = some (ks 2) := by kernel_rfl
theorem flatSpots : flatK Try.prog 4 27 = some (ks 4) := by kernel_rfl
theorem flatUnit : flatK Try.prog 3 25 = some (.s :: ks 11) := by kernel_rfl
theorem flatLeg : flatK Try.prog 3 51 = some (ks 8) := by kernel_rfl
theorem flatFront : flatK Try.prog 3 56 = some (ks 8) := by kernel_rfl
theorem aggSpot : isAggV Try.prog 23 = some true := by kernel_rfl
theorem aggSpots : isAggV Try.prog 27 = some true := by kernel_rfl
theorem aggUnit : isAggV Try.prog 25 = some true := by kernel_rfl
def noK : Nat → LL → ByteArray := fun _ _ => ⟨#[]⟩
theorem tabs (sl : List Sl) : UT.tab (envSl gF hF noK mF sl).g (envSl gF hF noK mF sl).h (envSl gF hF noK mF sl).k (envSl gF hF noK mF sl).m := ⟨⟨rfl, rfl⟩, rfl⟩
section
variable {H : Type} {enc : TypeId × Value → H} {P : Program} {w : World} {base : Nat} {spare : Nat → Bool} {held : Bool}
theorem opn_agg {n : Nat} {t : TypeId} {ks : List Kd} {v : Value} {d : DataW H} {p : List MemPlace} {r : Reach} {b0 : Nat} (hu : isAggV P t = some true) (hk : flatK P n t = some ks) (ho : Value.okWide P w r b0 t v) (h : DataW.Trod enc P w base spare held t v d p) :
    ∃ sl, Opn w (.ag (ks.map .sc)) v sl := by
  obtain ⟨cs, rfl⟩ := okWide_agg hu ho
  obtain ⟨xs, hx⟩ := open_plain hk h
  exact ⟨_, .ag hx⟩
theorem opn_row {n : Nat} {t e : TypeId} {ks : List Kd} {v : Value} {d : DataW H} {p : List MemPlace} {r : Reach} {b0 : Nat} (ht : P.underlying t = some (.slice e)) (hk : flatK P n e = some ks) (hl : ks.length = P.cellsOf e) (h0 : 0 < ks.length)
    (ho : Value.okWide P w r b0 t v) (h : DataW.Trod enc P w base spare held t v d p) : ∃ sl, Opn w (.one (.row ks)) v sl := by
  obtain ⟨N, xs, hr⟩ := open_row ht hk hl h0 ho h
  exact ⟨_, .row hr⟩
end
theorem wf_text {all : List Sl} {w : World} {aks : List AK} (h : Wfs (w := w) all 0 (ksOf aks)) {j : Nat} (hj : (ksOf aks)[j]? = some KS) : ((all.getD j {}).x.2.size : Int) ≤ 9223372036854775807 := by
  have := (h j).1 _ hj
  rw [Nat.zero_add] at this
  have h2 : (all.getD j {}).x.2.size ≤ maxLen := this
  have h3 : maxLen = 9223372036854775807 := rfl
  omega
theorem wf_row {all : List Sl} {w : World} {aks : List AK} (h : Wfs (w := w) all 0 (ksOf aks)) {j : Nat} {kds : List Kd} (hj : (ksOf aks)[j]? = some (.row kds)) : 0 ≤ (all.getD j {}).x.1 ∧ (all.getD j {}).x.1 ≤ 9223372036854775807 := by
  obtain ⟨N, v, xs, h1, h2⟩ := (h j).2 _ hj
  rw [Nat.zero_add] at h1
  rw [h1]
  have h3 : maxLen = 9223372036854775807 := rfl
  have h4 := h2.2.2.1
  have h5 : (rowSl v N xs).x.1 = (N : Int) := rfl
  rw [h5]
  omega
end Go.Proofs.Ytmbhjfembfidnaa.Un
