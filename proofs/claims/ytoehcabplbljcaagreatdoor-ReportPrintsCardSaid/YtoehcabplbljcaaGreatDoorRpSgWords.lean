/- A report as a value and as cells. -/
import Derived.Test.YtoehcabplbljcaaGreatDoorRpSgItoa
import Derived.Test.YtoehcabplbljcaaGreatDoorRpSgRef
import Derived.Test.YtoehcabplbljcaaGreatDoorRpTake
import Derived.Test.YtoehcabplbljcaaGreatDoorRpCatch
namespace Go.Proofs.YtoehcabplbljcaaGreatDoor
open Go.RowKit

abbrev repA (k t : Int) (s a : ByteArray) (v : Value) (n u : Int) : Value := .agg #[.int .i64 k, .int .i64 t, .string s, .string a, v, .int .i64 n, .int .i64 u]
abbrev repO (k t : Int) (s a : ByteArray) (v : Value) (n u : Int) : Obj := .cells #[.int .i64 k, .int .i64 t, .string s, .string a, v, .int .i64 n, .int .i64 u] 24 (0, 0)
abbrev noB : ByteArray := ⟨#[]⟩
abbrev repNo : Obj := .cells #[.int .i64 0, .int .i64 0, .string noB, .string noB, .slice none 0 0, .int .i64 0, .int .i64 0] 24 (0, 0)
theorem rep_cells {W : World} {m : Nat} {c0 c1 c2 c3 c4 c5 c6 : Value} (h : W.heap[m]? = some (.cells #[c0, c1, c2, c3, c4, c5, c6] 24 (0, 0))) : W.cell? ⟨m, 0, none⟩ = some c0 ∧ W.cell? ⟨m, 1, none⟩ = some c1 ∧ W.cell? ⟨m, 2, none⟩ = some c2 ∧ W.cell? ⟨m, 3, none⟩ = some c3 ∧ W.cell? ⟨m, 4, none⟩ = some c4 ∧ W.cell? ⟨m, 5, none⟩ = some c5 ∧ W.cell? ⟨m, 6, none⟩ = some c6 := by
  refine ⟨?_, ?_, ?_, ?_, ?_, ?_, ?_⟩ <;> simp [World.cell?, h]
theorem rep_free {W : World} {m : Nat} {c0 c1 c2 c3 c4 c5 c6 : Value} (h : W.heap[m]? = some (.cells #[c0, c1, c2, c3, c4, c5, c6] 24 (0, 0))) : W.frozen? ⟨m, 0, none⟩ = false ∧ W.frozen? ⟨m, 1, none⟩ = false ∧ W.frozen? ⟨m, 2, none⟩ = false ∧ W.frozen? ⟨m, 3, none⟩ = false ∧ W.frozen? ⟨m, 4, none⟩ = false ∧ W.frozen? ⟨m, 5, none⟩ = false ∧ W.frozen? ⟨m, 6, none⟩ = false := by
  refine ⟨?_, ?_, ?_, ?_, ?_, ?_, ?_⟩ <;> simp [World.frozen?, h]
theorem seven_set {W : World} {m : Nat} {c0 c1 c2 c3 c4 c5 c6 : Value} (h : W.heap[m]? = some (.cells #[c0, c1, c2, c3, c4, c5, c6] 24 (0, 0))) (d0 d1 d2 d3 d4 d5 d6 : Value) :
    (((((((W.setCell ⟨m, 0, none⟩ d0).setCell ⟨m, 1, none⟩ d1).setCell ⟨m, 2, none⟩ d2).setCell ⟨m, 3, none⟩ d3).setCell ⟨m, 4, none⟩ d4).setCell ⟨m, 5, none⟩ d5).setCell ⟨m, 6, none⟩ d6).heap[m]? = some (.cells #[d0, d1, d2, d3, d4, d5, d6] 24 (0, 0)) ∧
    (∀ g, g ≠ m → (((((((W.setCell ⟨m, 0, none⟩ d0).setCell ⟨m, 1, none⟩ d1).setCell ⟨m, 2, none⟩ d2).setCell ⟨m, 3, none⟩ d3).setCell ⟨m, 4, none⟩ d4).setCell ⟨m, 5, none⟩ d5).setCell ⟨m, 6, none⟩ d6).heap[g]? = W.heap[g]?) ∧
    ∀ N (w0 : World), N ≤ m → Below N w0 W → Below N w0 (((((((W.setCell ⟨m, 0, none⟩ d0).setCell ⟨m, 1, none⟩ d1).setCell ⟨m, 2, none⟩ d2).setCell ⟨m, 3, none⟩ d3).setCell ⟨m, 4, none⟩ d4).setCell ⟨m, 5, none⟩ d5).setCell ⟨m, 6, none⟩ d6) := by
  refine ⟨?_, fun g hg => ?_, fun N w0 hN hb => ((((((hb.setCell (p := ⟨m, 0, none⟩) hN _).setCell (p := ⟨m, 1, none⟩) hN _).setCell (p := ⟨m, 2, none⟩) hN _).setCell (p := ⟨m, 3, none⟩) hN _).setCell (p := ⟨m, 4, none⟩) hN _).setCell (p := ⟨m, 5, none⟩) hN _).setCell (p := ⟨m, 6, none⟩) hN _⟩
  · have h5 := heap_set (heap_set (heap_set (heap_set (heap_set (heap_set (heap_set h 0 d0) 1 d1) 2 d2) 3 d3) 4 d4) 5 d5) 6 d6
    simp only [List.setIfInBounds_toArray, List.set_cons_zero, List.set_cons_succ] at h5
    exact h5
  · exact heap_far (a := ⟨m, 6, none⟩) (heap_far (a := ⟨m, 5, none⟩) (heap_far (a := ⟨m, 4, none⟩) (heap_far (a := ⟨m, 3, none⟩) (heap_far (a := ⟨m, 2, none⟩) (heap_far (a := ⟨m, 1, none⟩) (heap_far (a := ⟨m, 0, none⟩) rfl hg) hg) hg) hg) hg) hg) hg
theorem laidR (w : World) (o x y b f : Int) : ((w.alloc (sigO o x y b f)).alloc repNo).heap[w.heap.size]? = some (sigO o x y b f) ∧ ((w.alloc (sigO o x y b f)).alloc repNo).heap[w.heap.size + 1]? = some repNo ∧ Below w.heap.size w ((w.alloc (sigO o x y b f)).alloc repNo) := by
  refine ⟨stay (heap_alloc_new _ _) (new_below _ _), ?_, ((Below.refl _ _).alloc (Nat.le_refl _) _).alloc (by simp) _⟩
  have := heap_alloc_new (w.alloc (sigO o x y b f)) repNo
  rwa [World.size_alloc] at this

theorem below_at {N : Nat} {w W : World} (h : Below N w W) (e : N = w.heap.size) : Below w.heap.size w W := by rw [← e]; exact h

/-- what Read's walk holds: the signal's block, the result's. -/
structure Reads (w W : World) (o x y b f : Int) : Prop where
  sig : W.heap[w.heap.size]? = some (sigO o x y b f)
  res : W.heap[w.heap.size + 1]? = some repNo
  below : Below w.heap.size w W
theorem Reads.next {w W W' : World} {o x y b f : Int} (h : Reads w W o x y b f) (hb : Below W.heap.size W W') : Reads w W' o x y b f := ⟨stay h.sig hb, stay h.res hb, below_chain h.below hb⟩
theorem Reads.drew {w W : World} {o x y b f : Int} (h : Reads w W o x y b f) : Reads w W.drew o x y b f := ⟨h.sig, h.res, h.below.drew⟩
end Go.Proofs.YtoehcabplbljcaaGreatDoor
