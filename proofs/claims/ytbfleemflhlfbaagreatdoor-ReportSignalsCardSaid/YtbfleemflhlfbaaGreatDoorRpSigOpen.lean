/- A signal, a frame as parameters of a law, and read again. -/
import Derived.Test.YtbfleemflhlfbaaGreatDoorRpStart
import Derived.Test.YtbfleemflhlfbaaGreatDoorRpTake
namespace Go.Proofs.YtbfleemflhlfbaaGreatDoor
open Go.ChangeShapes Go.WideShapes Go.ChangeAt Go.RowKit

set_option maxRecDepth 100000 in
theorem sig_open {H : Type} {enc : TypeId × Value → H} {W : World} {b0 : Nat} {v : Value} {d : DataW H} {p : List MemPlace}
    (hv : Value.okWide Tryz.prog W .any b0 29 v) (h : DataW.Trod enc Tryz.prog W 0 (fun _ => true) true 29 v d p) :
    ∃ o x y b f : Int, v = sigA o x y b f ∧ p = [] ∧ ∀ (W' : World) (b1 : Nat) (sp : Nat → Bool) (held : Bool), DataW.Trod enc Tryz.prog W' b1 sp held 29 (sigA o x y b f) d [] := by
  obtain ⟨cs, rfl, hsz⟩ := okWide_struct Tryz.underlying29 hv
  obtain ⟨fuel, hf⟩ := h
  obtain ⟨xs, n, _, hx, hcl, hlen, hg⟩ := DataW.trod_struct Tryz.underlying29 hf
  have c5 : Tryz.prog.cellsOf 29 = 5 := by kernel_rfl
  have c1 : Tryz.prog.cellsOf 3 = 1 := by kernel_rfl
  obtain ⟨l⟩ := cs
  rw [c5] at hsz
  match l, hsz, xs, hlen with
  | [v0, v1, v2, v3, v4], _, [z0, z1, z2, z3, z4], _ =>
    have k0 := hg 0 { name := "Owner", type := 3, offset := 0, embedded := false, tag := "", pkgPath := "", byteOffset := 0 } rfl
    have k1 := hg 1 { name := "X", type := 3, offset := 1, embedded := false, tag := "", pkgPath := "", byteOffset := 8 } rfl
    have k2 := hg 2 { name := "Y", type := 3, offset := 2, embedded := false, tag := "", pkgPath := "", byteOffset := 16 } rfl
    have k3 := hg 3 { name := "By", type := 3, offset := 3, embedded := false, tag := "", pkgPath := "", byteOffset := 24 } rfl
    have k4 := hg 4 { name := "Flags", type := 3, offset := 4, embedded := false, tag := "", pkgPath := "", byteOffset := 32 } rfl
    simp only [c1, Value.cells, List.drop, List.take, List.getElem?_cons_zero, List.getElem?_cons_succ] at k0 k1 k2 k3 k4
    obtain ⟨a0, e0, r0, w0⟩ := DataW.trod_int Tryz.underlying3 k0
    obtain ⟨a1, e1, r1, w1⟩ := DataW.trod_int Tryz.underlying3 k1
    obtain ⟨a2, e2, r2, w2⟩ := DataW.trod_int Tryz.underlying3 k2
    obtain ⟨a3, e3, r3, w3⟩ := DataW.trod_int Tryz.underlying3 k3
    obtain ⟨a4, e4, r4, w4⟩ := DataW.trod_int Tryz.underlying3 k4
    subst r0 r1 r2 r3 r4
    simp only [List.cons.injEq, and_true] at e0 e1 e2 e3 e4
    subst e0 e1 e2 e3 e4
    simp only [Prod.mk.injEq] at hx
    obtain ⟨rfl, rfl⟩ := hx
    refine ⟨a0, a1, a2, a3, a4, rfl, rfl, fun W' b1 sp held => ⟨n + 1 + 1, ?_⟩⟩
    have q := fun (z : Int) (hz : (Lit.int .i64 z).wf = true) => trod_int_mk (enc := enc) (w := W') (base := b1) (spare := sp) (held := held) n Tryz.underlying3 hz
    have hl : (Value.cells (sigA a0 a1 a2 a3 a4)).toList.length = Tryz.prog.cellsOf 29 := by rw [c5]; rfl
    exact trod_struct_mk (xs := [(.lit (.int .i64 a0), []), (.lit (.int .i64 a1), []), (.lit (.int .i64 a2), []), (.lit (.int .i64 a3), []), (.lit (.int .i64 a4), [])]) Tryz.underlying29 hl (by simp [c1, Value.cells, q _ w0, q _ w1, q _ w2, q _ w3, q _ w4])

end Go.Proofs.YtbfleemflhlfbaaGreatDoor
