/- Itoa, square. -/
import Derived.Test.YtoehcabplbljcaaGreatDoorShelfI
import Derived.Test.YtoehcabplbljcaaGreatDoorRpSgNum
import Derived.Test.YtoehcabplbljcaaGreatDoorRpHull
import Derived.Shelf.Unicode.PredsPay
namespace Go.Proofs.YtoehcabplbljcaaGreatDoor
open Go.RowKit

theorem grow_below (w : World) (k : Nat) (os : Array Obj) : Below w.heap.size w (Go.Sort.grow (w.drewN k) os) :=
  ⟨rfl, rfl, rfl, by simp [Go.Sort.grow], fun i hi => by simp [Go.Sort.grow, Array.getElem?_append_left hi]⟩
/-- the table that Itoa reads. -/
def Tab (w : World) : Prop := Lib.TabIs Tryz.prog w "internal/strconv.uint64pow10" .u64 Lib.pow10Tab
theorem Tab.below {w w' : World} (h : Tab w) (hb : Below w.heap.size w w') : Tab w' := by
  exact Go.Proofs.TabIs_below (P := Tryz.prog) (g := 1) (by kernel_rfl) h hb
theorem itoa_any (N : Nat) (hN : N < 4611686018427387904) (w : World) (ht : Tab w) :
    Calls Tryz.prog 35 #[.int .i64 N] w fun e w' => e = .returned (.string ⟨(Lib.decDigits N).toArray⟩) ∧ Below w.heap.size w w' := by
  refine (Tryz.strconv_Itoa (N : Int) (by omega) (by omega) w ht).mono ?_
  rintro e w' ⟨he, k, os, rfl⟩
  refine ⟨?_, grow_below _ _ _⟩
  rw [he]
  have : Lib.itoa (N : Int) = Lib.decDigits N := by unfold Lib.itoa; rw [if_neg (by omega)]; rfl
  rw [this]

/-- the corners of a beacon's square. -/
def squareL (x y : Int) : List (Int × Int) := [(x, y), (x + 1024, y), (x + 1024, y + 1024), (x, y + 1024)]
abbrev sqO (x y : Int) : Obj := .cells #[.int .i64 x, .int .i64 y, .int .i64 (x + 1024), .int .i64 y, .int .i64 (x + 1024), .int .i64 (y + 1024), .int .i64 x, .int .i64 (y + 1024)] 34 (0, 0)
theorem square_area {W : World} {g : Nat} {x y : Int} (h : W.heap[g]? = some (sqO x y)) : Area W (.slice (some ⟨g, 0, none⟩) 4 4) (squareL x y) := by
  refine ⟨some ⟨g, 0, none⟩, 4, rfl, by simp [squareL], fun _ => ⟨g, 0, rfl, (Array.getElem?_eq_some_iff.1 h).1, fun i a b hi => ?_⟩⟩
  match i, hi with
  | 0, hi => simp [squareL] at hi; obtain ⟨rfl, rfl⟩ := hi; simp [World.cell?, h]
  | 1, hi => simp [squareL] at hi; obtain ⟨rfl, rfl⟩ := hi; simp [World.cell?, h]
  | 2, hi => simp [squareL] at hi; obtain ⟨rfl, rfl⟩ := hi; simp [World.cell?, h]
  | 3, hi => simp [squareL] at hi; obtain ⟨rfl, rfl⟩ := hi; simp [World.cell?, h]
  | i + 4, hi => simp [squareL] at hi

theorem alloc3b (w : World) (a b c : Obj) : Below w.heap.size w (((w.alloc a).alloc b).alloc c) := (((Below.refl _ _).alloc (Nat.le_refl _) _).alloc (by simp) _).alloc (by simp; omega) _
theorem third_new (w : World) (a b c : Obj) : (((w.alloc a).alloc b).alloc c).heap[w.heap.size + 1 + 1]? = some c := by
  have := heap_alloc_new ((w.alloc a).alloc b) c
  rwa [World.size_alloc, World.size_alloc] at this

set_option maxRecDepth 100000 in
set_option maxHeartbeats 1000000 in
theorem square_any (x y : Int) (h1 : -1000000000 ≤ x ∧ x ≤ 1000000000) (h2 : -1000000000 ≤ y ∧ y ≤ 1000000000) (w : World) :
    Calls Tryz.prog 76 #[.agg #[.int .i64 x, .int .i64 y]] w fun e w' => ∃ g, e = .returned (.slice (some ⟨g, 0, none⟩) 4 4) ∧ w.heap.size ≤ g ∧ w'.heap[g]? = some (sqO x y) ∧ Below w.heap.size w w' := by
  obtain ⟨h1, h1'⟩ := h1; obtain ⟨h2, h2'⟩ := h2
  go_enter Tryz.func76, Tryz.ntmps76
  go_wp2
  go_ret
  refine ⟨w.heap.size + 1 + 1, rfl, by omega, ?_, alloc3b _ _ _ _⟩
  exact third_new _ _ _ _
end Go.Proofs.YtoehcabplbljcaaGreatDoor
