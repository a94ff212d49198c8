/- Several parts: Itoa, square. A report as a value and as cells. -/
import Derived.Test.YtjcaaejfokmolaaGreatDoorShelfI
import Derived.Test.YtjcaaejfokmolaaGreatDoorRpSgNum
import Derived.Test.YtjcaaejfokmolaaGreatDoorRpHull
import Derived.Shelf.Unicode.PredsPay
import Derived.Test.YtjcaaejfokmolaaGreatDoorRpSgRef
import Derived.Test.YtjcaaejfokmolaaGreatDoorRpTake
import Derived.Test.YtjcaaejfokmolaaGreatDoorRpCatch
/- Itoa, square. -/
namespace Go.Proofs.YtjcaaejfokmolaaGreatDoor
open Go.RowKit

theorem grow_below (w : World) (k : Nat) (os : Array Obj) : Below w.heap.size w (Go.Sort.grow (w.drewN k) os) :=
  ⟨rfl, rfl, rfl, by simp [Go.Sort.grow], fun i hi => by simp [Go.Sort.grow, Array.getElem?_append_left hi]⟩
/-- the table that Itoa reads. -/
def Tab (w : World) : Prop := Lib.TabIs Tryz.prog w "internal/strconv.uint64pow10" .u64 Lib.pow10Tab
theorem Tab.below {w w' : World} (h : Tab w) (hb : Below w.heap.size w w') : Tab w' := by
  exact Go.Proofs.TabIs_below (P := Tryz.prog) (g := 1) (by kernel_rfl) h hb
theorem itoa_any (N : Nat) (hN : N < 4611686018427387904) (w : World) (ht : Tab w) :
    Calls Tryz.prog 38 #[.int .i64 N] w fun e w' => e = .returned (.string ⟨(Lib.decDigits N).toArray⟩) ∧ Below w.heap.size w w' := by
  refine (Tryz.strconv_Itoa (N : Int) (by omega) (by omega) w ht).mono ?_
  rintro e w' ⟨he, k, os, rfl⟩
  refine ⟨?_, grow_below _ _ _⟩
  rw [he]
  have : Lib.itoa (N : Int) = Lib.decDigits N := by unfold Lib.itoa; rw [if_neg (by omega)]; rfl
  rw [this]

/-- the corners of a beacon's square. -/
def squareL (x y : Int) : List (Int × Int) := [(x, y), (x + 1024, y), (x + 1024, y + 1024), (x, y + 1024)]
abbrev sqO (x y : Int) : Obj := .cells #[.int .i64 x, .int .i64 y, .int .i64 (x + 1024), .int .i64 y, .int .i64 (x + 1024), .int .i64 (y + 1024), .int .i64 x, .int .i64 (y + 1024)] 24 (0, 0)
theorem square_area {W : World} {g : Nat} {x y : Int} (h : W.heap[g]? = some (sqO x y)) : Area W (.slice (some ⟨g, 0, none⟩) 4 4) (squareL x y) := by
  refine ⟨some ⟨g, 0, none⟩, 4, rfl, by simp [squareL], fun _ => ⟨g, 0, rfl, (Array.getElem?_eq_some_iff.1 h).1, fun i a b hi => ?_⟩⟩
  match i, hi with
  | 0, hi => simp [squareL] at hi; obtain ⟨rfl, rfl⟩ := hi; simp [World.cell?, h]
  | 1, hi => simp [squareL] at hi; obtain ⟨rfl, rfl⟩ := hi; simp [World.cell?, h]
  | 2, hi => simp [squareL] at hi; obtain ⟨rfl, rfl⟩ := hi; simp [World.cell?, h]
  | 3, hi => simp [squareL] at hi; obtain ⟨rfl, rfl⟩ := hi; simp [World.cell?, h]
  | i + 4, hi => simp [squareL] at hi

theorem alloc3b (w : World) (a b c : Obj) : Below w.heap.size w (((w.alloc a).alloc b).alloc c) := (((Below.refl _ _).alloc (Nat.le_refl _) _).alloc (by simp) _).alloc (by simp; omega) _
theorem third_new (w : World) (a b c : Obj) : (((w.alloc a).alloc b).alloc c).heap[w.heap.size + 1 + 1]? = some c := by
  have := heap_alloc_new ((w.alloc a).alloc b) c
  rwa [World.size_alloc, World.size_alloc] at this

set_option maxRecDepth 100000 in
set_option maxHeartbeats 1000000 in
theorem square_any (x y : Int) (h1 : -1000000000 ≤ x ∧ x ≤ 1000000000) (h2 : -1000000000 ≤ y ∧ y ≤ 1000000000) (w : World) :
    Calls Tryz.prog 60 #[.agg #[.int .i64 x, .int .i64 y]] w fun e w' => ∃ g, e = .returned (.slice (some ⟨g, 0, none⟩) 4 4) ∧ w.heap.size ≤ g ∧ w'.heap[g]? = some (sqO x y) ∧ Below w.heap.size w w' := by
  obtain ⟨h1, h1'⟩ := h1; obtain ⟨h2, h2'⟩ := h2
  go_enter Tryz.func60, Tryz.ntmps60
  go_wp2
  go_ret
  refine ⟨w.heap.size + 1 + 1, rfl, by omega, ?_, alloc3b _ _ _ _⟩
  exact third_new _ _ _ _
end Go.Proofs.YtjcaaejfokmolaaGreatDoor
/- A report as a value and as cells. -/
namespace Go.Proofs.YtjcaaejfokmolaaGreatDoor
open Go.RowKit

abbrev repA (k t : Int) (s a : ByteArray) (v : Value) (n u : Int) : Value := .agg #[.int .i64 k, .int .i64 t, .string s, .string a, v, .int .i64 n, .int .i64 u]
abbrev repO (k t : Int) (s a : ByteArray) (v : Value) (n u : Int) : Obj := .cells #[.int .i64 k, .int .i64 t, .string s, .string a, v, .int .i64 n, .int .i64 u] 29 (0, 0)
abbrev noB : ByteArray := ⟨#[]⟩
abbrev repNo : Obj := .cells #[.int .i64 0, .int .i64 0, .string noB, .string noB, .slice none 0 0, .int .i64 0, .int .i64 0] 29 (0, 0)
theorem rep_cells {W : World} {m : Nat} {c0 c1 c2 c3 c4 c5 c6 : Value} (h : W.heap[m]? = some (.cells #[c0, c1, c2, c3, c4, c5, c6] 29 (0, 0))) : W.cell? ⟨m, 0, none⟩ = some c0 ∧ W.cell? ⟨m, 1, none⟩ = some c1 ∧ W.cell? ⟨m, 2, none⟩ = some c2 ∧ W.cell? ⟨m, 3, none⟩ = some c3 ∧ W.cell? ⟨m, 4, none⟩ = some c4 ∧ W.cell? ⟨m, 5, none⟩ = some c5 ∧ W.cell? ⟨m, 6, none⟩ = some c6 := by
  refine ⟨?_, ?_, ?_, ?_, ?_, ?_, ?_⟩ <;> simp [World.cell?, h]
theorem rep_free {W : World} {m : Nat} {c0 c1 c2 c3 c4 c5 c6 : Value} (h : W.heap[m]? = some (.cells #[c0, c1, c2, c3, c4, c5, c6] 29 (0, 0))) : W.frozen? ⟨m, 0, none⟩ = false ∧ W.frozen? ⟨m, 1, none⟩ = false ∧ W.frozen? ⟨m, 2, none⟩ = false ∧ W.frozen? ⟨m, 3, none⟩ = false ∧ W.frozen? ⟨m, 4, none⟩ = false ∧ W.frozen? ⟨m, 5, none⟩ = false ∧ W.frozen? ⟨m, 6, none⟩ = false := by
  refine ⟨?_, ?_, ?_, ?_, ?_, ?_, ?_⟩ <;> simp [World.frozen?, h]
theorem seven_set {W : World} {m : Nat} {c0 c1 c2 c3 c4 c5 c6 : Value} (h : W.heap[m]? = some (.cells #[c0, c1, c2, c3, c4, c5, c6] 29 (0, 0))) (d0 d1 d2 d3 d4 d5 d6 : Value) :
    (((((((W.setCell ⟨m, 0, none⟩ d0).setCell ⟨m, 1, none⟩ d1).setCell ⟨m, 2, none⟩ d2).setCell ⟨m, 3, none⟩ d3).setCell ⟨m, 4, none⟩ d4).setCell ⟨m, 5, none⟩ d5).setCell ⟨m, 6, none⟩ d6).heap[m]? = some (.cells #[d0, d1, d2, d3, d4, d5, d6] 29 (0, 0)) ∧
    (∀ g, g ≠ m → (((((((W.setCell ⟨m, 0, none⟩ d0).setCell ⟨m, 1, none⟩ d1).setCell ⟨m, 2, none⟩ d2).setCell ⟨m, 3, none⟩ d3).setCell ⟨m, 4, none⟩ d4).setCell ⟨m, 5, none⟩ d5).setCell ⟨m, 6, none⟩ d6).heap[g]? = W.heap[g]?) ∧
    ∀ N (w0 : World), N ≤ m → Below N w0 W → Below N w0 (((((((W.setCell ⟨m, 0, none⟩ d0).setCell ⟨m, 1, none⟩ d1).setCell ⟨m, 2, none⟩ d2).setCell ⟨m, 3, none⟩ d3).setCell ⟨m, 4, none⟩ d4).setCell ⟨m, 5, none⟩ d5).setCell ⟨m, 6, none⟩ d6) := by
  refine ⟨?_, fun g hg => ?_, fun N w0 hN hb => ((((((hb.setCell (p := ⟨m, 0, none⟩) hN _).setCell (p := ⟨m, 1, none⟩) hN _).setCell (p := ⟨m, 2, none⟩) hN _).setCell (p := ⟨m, 3, none⟩) hN _).setCell (p := ⟨m, 4, none⟩) hN _).setCell (p := ⟨m, 5, none⟩) hN _).setCell (p := ⟨m, 6, none⟩) hN _⟩
  · have h5 := heap_set (heap_set (heap_set (heap_set (heap_set (heap_set (heap_set h 0 d0) 1 d1) 2 d2) 3 d3) 4 d4) 5 d5) 6 d6
    simp only [List.setIfInBounds_toArray, List.set_cons_zero, List.set_cons_succ] at h5
    exact h5
  · exact heap_far (a := ⟨m, 6, none⟩) (heap_far (a := ⟨m, 5, none⟩) (heap_far (a := ⟨m, 4, none⟩) (heap_far (a := ⟨m, 3, none⟩) (heap_far (a := ⟨m, 2, none⟩) (heap_far (a := ⟨m, 1, none⟩) (heap_far (a := ⟨m, 0, none⟩) rfl hg) hg) hg) hg) hg) hg) hg
theorem laidR (w : World) (o x y b f : Int) : ((w.alloc (sigO o x y b f)).alloc repNo).heap[w.heap.size]? = some (sigO o x y b f) ∧ ((w.alloc (sigO o x y b f)).alloc repNo).heap[w.heap.size + 1]? = some repNo ∧ Below w.heap.size w ((w.alloc (sigO o x y b f)).alloc repNo) := by
  refine ⟨stay (heap_alloc_new _ _) (new_below _ _), ?_, ((Below.refl _ _).alloc (Nat.le_refl _) _).alloc (by simp) _⟩
  have := heap_alloc_new (w.alloc (sigO o x y b f)) repNo
  rwa [World.size_alloc] at this

theorem below_at {N : Nat} {w W : World} (h : Below N w W) (e : N = w.heap.size) : Below w.heap.size w W := by rw [← e]; exact h

/-- what Read's walk holds: the signal's block, the result's. -/
structure Reads (w W : World) (o x y b f : Int) : Prop where
  sig : W.heap[w.heap.size]? = some (sigO o x y b f)
  res : W.heap[w.heap.size + 1]? = some repNo
  below : Below w.heap.size w W
theorem Reads.next {w W W' : World} {o x y b f : Int} (h : Reads w W o x y b f) (hb : Below W.heap.size W W') : Reads w W' o x y b f := ⟨stay h.sig hb, stay h.res hb, below_chain h.below hb⟩
theorem Reads.drew {w W : World} {o x y b f : Int} (h : Reads w W o x y b f) : Reads w W.drew o x y b f := ⟨h.sig, h.res, h.below.drew⟩
end Go.Proofs.YtjcaaejfokmolaaGreatDoor
