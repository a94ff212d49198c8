/- WeightField (P1.3, P1.8): for any three parts the law answers true: sums and products of fractions can be done in any order, products go over sums, what is added and subtracted, or multiplied and divided, is as it was. No condition of its own; the row lists package-level variables, tied by the card to the program's text. -/
import Derived.SevenTiedAt
import Derived.ProofKit
import Derived.OpenShut
import Derived.LaidMore
import Derived.LaidSub
import Derived.Lay
import Derived.Shelf.Vars
import Derived.ReadAgain
import Derived.Stop.Joined
import Derived.Deep.SlicePairs
import Derived.Carry
import Derived.Lib.SmallJoins
import Derived.Test.YtkggfeemjabdeaaGreatDoorRows
import Derived.Test.YtkggfeemjabdeaaGreatDoorTie
import Derived.Test.YtkggfeemjabdeaaGreatDoorCards
import Derived.Test.YtkggfeemjabdeaaGreatDoorPa31
namespace Go.Proofs.YtkggfeemjabdeaaGreatDoor
open Go.ChangeShapes Go.WideShapes Go.ChangeAt Go.RowKit

theorem own : ownKnob Tryz.prog.godebug = none := by kernel_rfl
def tnData : DataW Unit := Rows.laid_cresset_weight_tens
def tnL : List (DataW Unit) := match tnData with | .agg l => l | _ => []
theorem tn_at : ∀ i, i < 19 → tnL[i]? = some (.lit (.int .u64 ((10 ^ i : Nat) : Int))) := fun i hi => match i, hi with
  | 0, _ => rfl
  | 1, _ => rfl
  | 2, _ => rfl
  | 3, _ => rfl
  | 4, _ => rfl
  | 5, _ => rfl
  | 6, _ => rfl
  | 7, _ => rfl
  | 8, _ => rfl
  | 9, _ => rfl
  | 10, _ => rfl
  | 11, _ => rfl
  | 12, _ => rfl
  | 13, _ => rfl
  | 14, _ => rfl
  | 15, _ => rfl
  | 16, _ => rfl
  | 17, _ => rfl
  | 18, _ => rfl
  | (_ + 19), h => absurd h (by omega)
theorem tn_type : (Tryz.prog.globals[0]?).map (·.type) = some 131 ∧ Tryz.prog.underlying 131 = some (.array 19 78) := ⟨by kernel_rfl, by kernel_rfl⟩
set_option maxRecDepth 100000 in
theorem tens_of {W : World} (h : laidMetH Tryz.prog [("cresset/weight.tens", tnData)] W) : Tens W := by
  rw [MakeChecks.laidMetH_plain _ _ _ (by kernel_rfl)] at h
  obtain ⟨ps, ⟨g, t, cs, fuel, p, q, hg, ht, hv, hd, _, _⟩, _, _⟩ := h
  obtain rfl := Option.some.inj ((show Tryz.prog.globalNamed "cresset/weight.tens" = some 0 by kernel_rfl).symm.trans hg)
  obtain ⟨ht2, hu⟩ := tn_type
  obtain rfl := Option.some.inj (ht2.symm.trans ht)
  obtain ⟨xs, m, _, ex, _, hl, hel⟩ := DataW.trod_array hu hd
  have cS : Tryz.prog.cellsOf 78 = 1 := by kernel_rfl
  intro i hi
  have hE := hel i (by omega)
  rw [cS, Nat.mul_one, List.getElem?_eq_getElem (by omega)] at hE
  obtain ⟨a, e1, e2, _⟩ := DataW.trod_int Tryz.underlying78 hE
  show W.cell? ⟨0, i, none⟩ = _
  rw [World.var?_cell hg hv i]
  have h0 : cs[i]? = some (.int .u64 a) := by
    have h1 : ((cs.toList.drop i).take 1)[0]? = some (.int .u64 a) := by rw [e1]; rfl
    simpa using h1
  rw [h0]
  have e3 : xs.map (·.1) = tnL := (DataW.agg.inj (Prod.mk.inj ex).1).symm
  have e4 : (xs.map (·.1))[i]? = some (.lit (.int .u64 a)) := by
    rw [List.getElem?_map, List.getElem?_eq_getElem (by omega), e2]; rfl
  rw [e3, tn_at i (by omega)] at e4
  injection e4 with e4; injection e4 with e4; injection e4 with _ e4
  rw [e4]
theorem trod_string_mk' {H : Type} {enc : TypeId × Value → H} {P : Program} {w : World} {base : Nat} {spare : Nat → Bool} {held : Bool} {t : TypeId} (n : Nat) (ht : P.underlying t = some .string) {z : ByteArray} (hz : z.size ≤ maxLen) :
    DataW.trod enc P w base spare held (n + 1) t [.string z] = some (.lit (.string z.data.toList), []) := by
  unfold DataW.trod
  rw [ht]
  simp [hz]
set_option maxRecDepth 100000 in
theorem part_open {H : Type} {enc : TypeId × Value → H} {W : World} {b0 : Nat} {v : Value} {d : DataW H} {p : List MemPlace}
    (hv : Value.okWide Tryz.prog W .any b0 24 v) (h : DataW.Trod enc Tryz.prog W 0 (fun _ => true) true 24 v d p) :
    ∃ a b : ByteArray, v = .agg #[.string a, .string b] ∧ p = [] ∧ ∀ (W' : World) (b1 : Nat) (sp : Nat → Bool) (held : Bool), DataW.Trod enc Tryz.prog W' b1 sp held 24 (.agg #[.string a, .string b]) d [] := by
  obtain ⟨cs, rfl, hsz⟩ := okWide_struct Tryz.underlying24 hv
  obtain ⟨fuel, hf⟩ := h
  obtain ⟨xs, n, _, hx, hcl, hlen, hg⟩ := DataW.trod_struct Tryz.underlying24 hf
  have c5 : Tryz.prog.cellsOf 24 = 2 := by kernel_rfl
  have c1 : Tryz.prog.cellsOf 22 = 1 := by kernel_rfl
  obtain ⟨l⟩ := cs
  rw [c5] at hsz
  match l, hsz, xs, hlen with
  | [v0, v1], _, [z0, z1], _ =>
    have k0 := hg 0 { name := "Num", type := 22, offset := 0, embedded := false, tag := "", pkgPath := "", byteOffset := 0 } rfl
    have k1 := hg 1 { name := "Den", type := 22, offset := 1, embedded := false, tag := "", pkgPath := "", byteOffset := 16 } rfl
    simp only [c1, Value.cells, List.drop, List.take, List.getElem?_cons_zero, List.getElem?_cons_succ] at k0 k1
    obtain ⟨a0, e0, r0, w0⟩ := DataW.trod_string Tryz.underlying22 k0
    obtain ⟨a1, e1, r1, w1⟩ := DataW.trod_string Tryz.underlying22 k1
    subst r0 r1
    simp only [List.cons.injEq, and_true] at e0 e1
    subst e0 e1
    simp only [Prod.mk.injEq] at hx
    obtain ⟨rfl, rfl⟩ := hx
    refine ⟨a0, a1, rfl, rfl, fun W' b1 sp held => ⟨n + 1 + 1, ?_⟩⟩
    have q := fun (z : ByteArray) (hz : z.size ≤ maxLen) => trod_string_mk' (enc := enc) (w := W') (base := b1) (spare := sp) (held := held) n Tryz.underlying22 hz
    have hl : (Value.cells (.agg #[.string a0, .string a1])).toList.length = Tryz.prog.cellsOf 24 := by rw [c5]; rfl
    exact trod_struct_mk (xs := [(.lit (.string a0.data.toList), []), (.lit (.string a1.data.toList), [])]) Tryz.underlying24 hl (by simp [c1, Value.cells, q _ w0, q _ w1])
end Go.Proofs.YtkggfeemjabdeaaGreatDoor
