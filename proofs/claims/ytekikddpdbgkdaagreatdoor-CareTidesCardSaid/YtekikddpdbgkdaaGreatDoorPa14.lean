/- What the rows of layer 11 share. -/
import Derived.ProofKit
import Derived.SevenTiedAt
import Derived.OpenShut
import Derived.LaidMore
import Derived.LaidSub
import Derived.Lay
import Derived.Shelf.Vars
import Derived.ReadAgain
import Derived.Stop.Joined
import Derived.Carry
import Derived.Lib.SmallJoins
import Derived.Test.YtekikddpdbgkdaaGreatDoorRows
import Derived.Test.YtekikddpdbgkdaaGreatDoorTie
import Derived.Test.YtekikddpdbgkdaaGreatDoorCards
import Derived.Test.YtekikddpdbgkdaaGreatDoorPa12
import Derived.Test.YtekikddpdbgkdaaGreatDoorPa13
namespace Go.Proofs.YtekikddpdbgkdaaGreatDoor.Ca
open Go Go.Proofs.YtekikddpdbgkdaaGreatDoor.Sx Go.RowKit Go.ChangeShapes Go.WideShapes Go.ChangeAt

theorem own : ownKnob Tryz.prog.godebug = none := by kernel_rfl
theorem laidOut : laidOutB Tryz.prog = true := by kernel_rfl
def ks (n : Nat) : List Kd := List.replicate n (.i .i64)
def tnData : DataW Unit := Rows.laid_math_bits_deBruijn32tab
def tnL : List (DataW Unit) := match tnData with | .agg l => l | _ => []
theorem tn_all : tnL = deB.map fun z => (.lit (.int .u8 z) : DataW Unit) := rfl
theorem tn_at (i : Nat) (hi : i < 32) : tnL[i]? = some (.lit (.int .u8 (deB.getD i 0))) := by
  have h2 : i < deB.length := hi
  rw [tn_all, List.getElem?_map, List.getElem?_eq_getElem h2, List.getD, List.getElem?_eq_getElem h2]
  rfl
theorem tn_type : (Tryz.prog.globals[0]?).map (·.type) = some 181 ∧ Tryz.prog.underlying 181 = some (.array 32 5) := ⟨by kernel_rfl, by kernel_rfl⟩
set_option maxRecDepth 100000 in
theorem tab_of {W : World} (h : laidMetH Tryz.prog [("math/bits.deBruijn32tab", tnData)] W) : Tab W := by
  rw [MakeChecks.laidMetH_plain _ _ _ (by kernel_rfl)] at h
  obtain ⟨ps, ⟨g, t, cs, fuel, p, q, hg, ht, hv, hd, _, _⟩, _, _⟩ := h
  obtain rfl := Option.some.inj ((show Tryz.prog.globalNamed "math/bits.deBruijn32tab" = some 0 by kernel_rfl).symm.trans hg)
  obtain ⟨ht2, hu⟩ := tn_type
  obtain rfl := Option.some.inj (ht2.symm.trans ht)
  obtain ⟨xs, m, _, ex, _, hl, hel⟩ := DataW.trod_array hu hd
  have cS : Tryz.prog.cellsOf 5 = 1 := by kernel_rfl
  intro i hi
  have hE := hel i (by omega)
  rw [cS, Nat.mul_one, List.getElem?_eq_getElem (by omega)] at hE
  obtain ⟨a, e1, e2, _⟩ := DataW.trod_int Tryz.underlying5 hE
  show W.cell? ⟨0, i, none⟩ = _
  rw [World.var?_cell hg hv i]
  have h0 : cs[i]? = some (.int .u8 a) := by
    have h1 : ((cs.toList.drop i).take 1)[0]? = some (.int .u8 a) := by rw [e1]; rfl
    simpa using h1
  rw [h0]
  have e3 : xs.map (·.1) = tnL := (DataW.agg.inj (Prod.mk.inj ex).1).symm
  have e4 : (xs.map (·.1))[i]? = some (.lit (.int .u8 a)) := by
    rw [List.getElem?_map, List.getElem?_eq_getElem (by omega), e2]; rfl
  rw [e3, tn_at i (by omega)] at e4
  injection e4 with e4; injection e4 with e4; injection e4 with _ e4
  rw [e4]
def noK : Nat → LL → ByteArray := fun _ _ => ⟨#[]⟩
def noM : Nat → LL → LL := fun _ _ => []
theorem tabs (sl : List Sl) : CT.tab (envSl gF Ca.hF noK noM sl).g (envSl gF Ca.hF noK noM sl).h (envSl gF Ca.hF noK noM sl).k (envSl gF Ca.hF noK noM sl).m := ⟨rfl, rfl⟩
section
variable {H : Type} {enc : TypeId × Value → H} {P : Program} {w : World} {base : Nat} {spare : Nat → Bool} {held : Bool}
theorem opn_agg {n : Nat} {t : TypeId} {ks : List Kd} {v : Value} {d : DataW H} {p : List MemPlace} {r : Reach} {b0 : Nat} (hu : isAggV P t = some true) (hk : flatK P n t = some ks) (ho : Value.okWide P w r b0 t v) (h : DataW.Trod enc P w base spare held t v d p) :
    ∃ sl, Opn w (.ag (ks.map .sc)) v sl := by
  obtain ⟨cs, rfl⟩ := okWide_agg hu ho
  obtain ⟨xs, hx⟩ := open_plain hk h
  exact ⟨_, .ag hx⟩
theorem opn_row {n : Nat} {t e : TypeId} {ks : List Kd} {v : Value} {d : DataW H} {p : List MemPlace} {r : Reach} {b0 : Nat} (ht : P.underlying t = some (.slice e)) (hk : flatK P n e = some ks) (hl : ks.length = P.cellsOf e) (h0 : 0 < ks.length)
    (ho : Value.okWide P w r b0 t v) (h : DataW.Trod enc P w base spare held t v d p) : ∃ sl, Opn w (.one (.row ks)) v sl := by
  obtain ⟨N, xs, hr⟩ := Go.Proofs.YtekikddpdbgkdaaGreatDoor.Sx.open_row ht hk hl h0 ho h
  exact ⟨_, .row hr⟩
end
theorem wf_row {all : List Sl} {w : World} {aks : List AK} (h : Wfs (w := w) all 0 (ksOf aks)) {j : Nat} {kds : List Kd} (hj : (ksOf aks)[j]? = some (.row kds)) : 0 ≤ (all.getD j {}).x.1 ∧ (all.getD j {}).x.1 ≤ 9223372036854775807 := by
  obtain ⟨N, v, xs, h1, h2⟩ := (h j).2 _ hj
  rw [Nat.zero_add] at h1
  rw [h1]
  have h3 : maxLen = 9223372036854775807 := rfl
  have h4 := h2.2.2.1
  have h5 : (rowSl v N xs).x.1 = (N : Int) := rfl
  rw [h5]
  omega
theorem wf_u16 {all : List Sl} {w : World} {aks : List AK} (h : Wfs (w := w) all 0 (ksOf aks)) {j : Nat} (hj : (ksOf aks)[j]? = some U16) : 0 ≤ (all.getD j {}).x.1 ∧ (all.getD j {}).x.1 ≤ 65535 := by
  have := (h j).1 _ hj
  rw [Nat.zero_add] at this
  have h2 : (Lit.int .u16 (all.getD j {}).x.1).wf = true := this
  simpa [Lit.wf, IntKind.min, IntKind.max, IntKind.signed, IntKind.bits] using h2
theorem wf_i64 {all : List Sl} {w : World} {aks : List AK} (h : Wfs (w := w) all 0 (ksOf aks)) {j : Nat} (hj : (ksOf aks)[j]? = some K) : -9223372036854775808 ≤ (all.getD j {}).x.1 ∧ (all.getD j {}).x.1 ≤ 9223372036854775807 := by
  have := (h j).1 _ hj
  rw [Nat.zero_add] at this
  have h2 : (Lit.int .i64 (all.getD j {}).x.1).wf = true := this
  simpa [Lit.wf, IntKind.min, IntKind.max, IntKind.signed, IntKind.bits] using h2
end Go.Proofs.YtekikddpdbgkdaaGreatDoor.Ca
