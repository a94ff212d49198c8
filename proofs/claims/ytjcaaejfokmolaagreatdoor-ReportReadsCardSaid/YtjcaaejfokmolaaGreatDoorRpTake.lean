/- A drawn region by hand: an operation taken first. A signal as a value and as cells. -/
import Derived.Test.YtjcaaejfokmolaaGreatDoorRpMem
import Derived.Deep.RegionHeld3
namespace Go.Proofs.YtjcaaejfokmolaaGreatDoor
open Go.RowKit

/-- an operation of a drawn region, taken first; the temporary that it writes is told. -/
theorem takeH {P : Program} {ops : Array Oper} {Q : Exit → Act → World → Prop} {md : Region.Mode} {S : World → Prop} {i : Nat} {oi : Oper} {v : Value} {n : Nat} {fuel : Nat} {listed : Array Bool} {a : Act} {w : World} (hi : ops[i]? = some oi) (hd : oi.dst = some n)
    (hs : Region.noSelect ops = true) (hf : Region.free md ops listed i = true) (hr : (Region.ready md ops listed).contains i = true)
    (hQ : ∀ c a w, Q (.panic c) (a.put (some n) v) w → Q (.panic c) a w) (hy : YieldsIf P ops S oi v a) (hS : S w)
    (h : wpAnyH P md ops Q S fuel (listed.setIfInBounds i true) (a.put (some n) v) w) : wpAnyH P md ops Q S (fuel + 1) listed a w := by
  rw [← hd] at h hQ
  exact wpAnyH_take hi hs hf hr hQ hy hS h

abbrev sigA (o x y b f : Int) : Value := .agg #[.int .i64 o, .int .i64 x, .int .i64 y, .int .i64 b, .int .i64 f]
abbrev sigO (o x y b f : Int) : Obj := .cells #[.int .i64 o, .int .i64 x, .int .i64 y, .int .i64 b, .int .i64 f] 38 (0, 0)
theorem sig_cells {W : World} {n : Nat} {o x y b f : Int} (h : W.heap[n]? = some (sigO o x y b f)) : W.cell? ⟨n, 0, none⟩ = some (.int .i64 o) ∧ W.cell? ⟨n, 1, none⟩ = some (.int .i64 x) ∧ W.cell? ⟨n, 2, none⟩ = some (.int .i64 y) ∧ W.cell? ⟨n, 3, none⟩ = some (.int .i64 b) ∧ W.cell? ⟨n, 4, none⟩ = some (.int .i64 f) := by
  refine ⟨?_, ?_, ?_, ?_, ?_⟩ <;> simp [World.cell?, h]
theorem sig_free {W : World} {n : Nat} {o x y b f : Int} (h : W.heap[n]? = some (sigO o x y b f)) : W.frozen? ⟨n, 0, none⟩ = false ∧ W.frozen? ⟨n, 1, none⟩ = false ∧ W.frozen? ⟨n, 2, none⟩ = false ∧ W.frozen? ⟨n, 3, none⟩ = false ∧ W.frozen? ⟨n, 4, none⟩ = false := by
  refine ⟨?_, ?_, ?_, ?_, ?_⟩ <;> simp [World.frozen?, h]
end Go.Proofs.YtjcaaejfokmolaaGreatDoor
