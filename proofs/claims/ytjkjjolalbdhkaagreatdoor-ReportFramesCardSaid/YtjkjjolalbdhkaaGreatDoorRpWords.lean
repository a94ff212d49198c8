/- A signal and a frame as values and as cells; a report's bits in memory. -/
import Derived.Test.YtjkjjolalbdhkaaGreatDoorRpRefTurn
namespace Go.Proofs.YtjkjjolalbdhkaaGreatDoor
open Go.RowKit

abbrev sigA (o x y b f : Int) : Value := .agg #[.int .i64 o, .int .i64 x, .int .i64 y, .int .i64 b, .int .i64 f]
abbrev sigO (o x y b f : Int) : Obj := .cells #[.int .i64 o, .int .i64 x, .int .i64 y, .int .i64 b, .int .i64 f] 23 (0, 0)
abbrev frO (d c : Nat) : Obj := .cells #[.int .u64 d, .int .u8 c] 26 (0, 0)

theorem sig_cells {W : World} {n : Nat} {o x y b f : Int} (h : W.heap[n]? = some (sigO o x y b f)) : W.cell? ⟨n, 0, none⟩ = some (.int .i64 o) ∧ W.cell? ⟨n, 1, none⟩ = some (.int .i64 x) ∧ W.cell? ⟨n, 2, none⟩ = some (.int .i64 y) ∧ W.cell? ⟨n, 3, none⟩ = some (.int .i64 b) ∧ W.cell? ⟨n, 4, none⟩ = some (.int .i64 f) := by
  refine ⟨?_, ?_, ?_, ?_, ?_⟩ <;> simp [World.cell?, h]
theorem sig_free {W : World} {n : Nat} {o x y b f : Int} (h : W.heap[n]? = some (sigO o x y b f)) : W.frozen? ⟨n, 0, none⟩ = false ∧ W.frozen? ⟨n, 1, none⟩ = false ∧ W.frozen? ⟨n, 2, none⟩ = false ∧ W.frozen? ⟨n, 3, none⟩ = false ∧ W.frozen? ⟨n, 4, none⟩ = false := by
  refine ⟨?_, ?_, ?_, ?_, ?_⟩ <;> simp [World.frozen?, h]
theorem fr_cells {W : World} {n d c : Nat} (h : W.heap[n]? = some (frO d c)) : W.cell? ⟨n, 0, none⟩ = some (.int .u64 d) ∧ W.cell? ⟨n, 1, none⟩ = some (.int .u8 c) := by
  refine ⟨?_, ?_⟩ <;> simp [World.cell?, h]

theorem turned_says (d c : Nat) (q : Bool × Nat × Nat) (hd : d < 18446744073709551616) (hc : c < 256) (hq : BitOk q) (W : World) :
    Calls Tryz.prog 20 #[.agg #[.int .u64 d, .int .u8 c], .agg #[.bool q.1, .int .i64 q.2.1, .int .i64 q.2.2]] W fun e w' => e = .returned (.agg #[.int .u64 (turnD d q), .int .u8 (turnC c q)]) ∧ Below W.heap.size W w' := by
  obtain ⟨q1, n, a⟩ := q
  unfold BitOk at hq
  unfold turnD turnC
  cases q1 with
  | true => exact refTurned_check d c n a hc hq.1 W
  | false => exact refTurned_data d c n a hd hq.1 W

/-- the cells of the bits. -/
theorem bit_cells {w : World} {N : Nat} {v : Value} (h : BitRow w N v bitT) : ∃ g cap, v = .slice (some ⟨g, 0, none⟩) 72 cap ∧ N ≤ g ∧ g < w.heap.size ∧ ∀ j q, bitT[j]? = some q → w.cell? ⟨g, j * 3, none⟩ = some (.bool q.1) ∧ w.cell? ⟨g, j * 3 + 1, none⟩ = some (.int .i64 q.2.1) ∧ w.cell? ⟨g, j * 3 + 2, none⟩ = some (.int .i64 q.2.2) := by
  have hl := bitT_len
  rcases h.own.2 with ⟨_, hn⟩ | ⟨g, cap, cur, rfl, hNg, hh, hc, _⟩
  · rw [hl] at hn; cases hn
  · refine ⟨g, cap, by rw [hl], hNg, (Array.getElem?_eq_some_iff.1 hh).1, fun j q hj => ?_⟩
    obtain ⟨h1, h2, h3⟩ := bitCells_at bitT j q hj
    have c1 := h.own.cells (g := g) rfl _ _ h1
    have c2 := h.own.cells (g := g) rfl _ _ h2
    have c3 := h.own.cells (g := g) rfl _ _ h3
    rw [addr_add] at c1 c2 c3
    exact ⟨c1, c2, c3⟩

theorem new_cells {W w6 : World} {u v : Value} {T : TypeId} (hb : Below (W.drew.alloc (.cells #[u, v] T)).heap.size (W.drew.alloc (.cells #[u, v] T)) w6) : w6.cell? ⟨W.heap.size, 0, none⟩ = some u ∧ w6.cell? ⟨W.heap.size, 1, none⟩ = some v ∧ w6.frozen? ⟨W.heap.size, 0, none⟩ = false ∧ w6.frozen? ⟨W.heap.size, 1, none⟩ = false := by
  have h : w6.heap[W.heap.size]? = some (.cells #[u, v] T (0, 0)) := stay (heap_alloc_new W.drew (.cells #[u, v] T)) hb
  refine ⟨?_, ?_, ?_, ?_⟩ <;> simp [World.cell?, World.frozen?, h]
theorem five_set {W W9 : World} {n : Nat} {o x y b f o' x' y' b' f' : Int} (h : W.heap[n]? = some (sigO o x y b f))
    (e : W9 = (((((W.setCell ⟨n, 0, none⟩ (.int .i64 o')).setCell ⟨n, 1, none⟩ (.int .i64 x')).setCell ⟨n, 2, none⟩ (.int .i64 y')).setCell ⟨n, 3, none⟩ (.int .i64 b')).setCell ⟨n, 4, none⟩ (.int .i64 f'))) :
    W9.heap[n]? = some (sigO o' x' y' b' f') ∧ (∀ g, g ≠ n → W9.heap[g]? = W.heap[g]?) ∧ W9.heap.size = W.heap.size ∧ ∀ N (w0 : World), N ≤ n → Below N w0 W → Below N w0 W9 := by
  subst e
  refine ⟨?_, fun g hg => ?_, by simp [World.setCell], fun N w0 hN hb => ((((hb.setCell (p := ⟨n, 0, none⟩) hN _).setCell (p := ⟨n, 1, none⟩) hN _).setCell (p := ⟨n, 2, none⟩) hN _).setCell (p := ⟨n, 3, none⟩) hN _).setCell (p := ⟨n, 4, none⟩) hN _⟩
  · have h5 := heap_set (heap_set (heap_set (heap_set (heap_set h 0 (.int .i64 o')) 1 (.int .i64 x')) 2 (.int .i64 y')) 3 (.int .i64 b')) 4 (.int .i64 f')
    simp only [List.setIfInBounds_toArray, List.set_cons_zero, List.set_cons_succ] at h5
    exact h5
  · cases hh : W.heap[g]? with
    | none =>
      have : W.heap.size ≤ g := by rw [Array.getElem?_eq_none_iff] at hh; exact hh
      rw [Array.getElem?_eq_none_iff]; simpa [World.setCell] using this
    | some ob =>
      exact heap_far (a := ⟨n, 4, none⟩) (heap_far (a := ⟨n, 3, none⟩) (heap_far (a := ⟨n, 2, none⟩) (heap_far (a := ⟨n, 1, none⟩) (heap_far (a := ⟨n, 0, none⟩) hh hg) hg) hg) hg) hg
end Go.Proofs.YtjkjjolalbdhkaaGreatDoor
