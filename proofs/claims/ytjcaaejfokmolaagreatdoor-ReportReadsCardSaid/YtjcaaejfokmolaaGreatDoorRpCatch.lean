/- sections; the closure that takes up a fault. -/
import Derived.Test.YtjcaaejfokmolaaGreatDoorRpOneR
import Derived.Defers
import Derived.Recover
import Derived.Laws.Pointers
namespace Go.Proofs.YtjcaaejfokmolaaGreatDoor
open Go.RowKit

def secF : Array Value := #[.string ⟨#[]⟩, .bool false, .func (.func 82) #[] #[],
  .string ⟨#[97, 116]⟩, .bool false, .func (.func 83) #[] #[],
  .string ⟨#[98, 121]⟩, .bool false, .func (.func 85) #[] #[],
  .string ⟨#[97, 98, 111, 117, 116]⟩, .bool true, .func (.func 87) #[] #[],
  .string ⟨#[105, 110]⟩, .bool false, .func (.func 88) #[] #[],
  .string ⟨#[115, 111, 117, 108, 115]⟩, .bool true, .func (.func 89) #[] #[],
  .string ⟨#[116, 114, 117, 115, 116]⟩, .bool false, .func (.func 90) #[] #[]]

set_option maxRecDepth 100000 in
set_option maxHeartbeats 1000000 in
theorem sections_any (w : World) : Calls Tryz.prog 49 #[] w fun e w' => e = .returned (.slice (some ⟨w.heap.size, 0, none⟩) 7 7) ∧ w' = w.alloc (.cells secF 81) := by
  unfold secF
  go_enter Tryz.func49, Tryz.ntmps49
  go_wp2
  go_ret
  exact ⟨rfl, rfl⟩

/-- a report of nothing. -/
def repZ : Value := .agg #[.int .i64 0, .int .i64 0, .string ⟨#[]⟩, .string ⟨#[]⟩, .slice none 0 0, .int .i64 0, .int .i64 0]

/-- the results say the fault. -/
structure Caught (N : Nat) (a er : Int) (w w' : World) : Prop where
  below : Below N w w'
  rep : w'.heap[N]? = some (.cells #[.int .i64 0, .int .i64 0, .string ⟨#[]⟩, .string ⟨#[]⟩, .slice none 0 0, .int .i64 0, .int .i64 0] 29 (0, 0))
  at_ : w'.heap[N + 1]? = some (.cells #[.int .i64 a] 3 (0, 0))
  e : w'.heap[N + 1 + 1]? = some (.cells #[.int .i64 er] 32 (0, 0))

theorem heap_far {w : World} {b : Nat} {a : Addr} {u : Value} {x : Option Obj} (h : w.heap[b]? = x) (hne : b ≠ a.block) : (w.setCell a u).heap[b]? = x := (Below.heap_setCell w a u b hne).trans h

theorem drew_heap (X : World) : X.drew.heap = X.heap := rfl

theorem caught_of {N : Nat} {a er x y : Int} {w W : World} {r0 r1 r2 r3 r4 r5 r6 : Value} (hb : Below N w W)
    (hR : W.heap[N]? = some (.cells #[r0, r1, r2, r3, r4, r5, r6] 29 (0, 0))) (hA : W.heap[N + 1]? = some (.cells #[.int .i64 x] 3 (0, 0))) (hE : W.heap[N + 1 + 1]? = some (.cells #[.int .i64 y] 32 (0, 0))) :
    Caught N a er w (((((((((W.setCell ⟨N, 0, none⟩ (.int .i64 0)).setCell ⟨N, 1, none⟩ (.int .i64 0)).setCell ⟨N, 2, none⟩ (.string ⟨#[]⟩)).setCell ⟨N, 3, none⟩ (.string ⟨#[]⟩)).setCell ⟨N, 4, none⟩ (.slice none 0 0)).setCell ⟨N, 5, none⟩ (.int .i64 0)).setCell ⟨N, 6, none⟩ (.int .i64 0)).setCell ⟨N + 1, 0, none⟩ (.int .i64 a)).setCell ⟨N + 1 + 1, 0, none⟩ (.int .i64 er)).drew := by
  refine ⟨?_, ?_, ?_, ?_⟩
  · exact (((((((((hb.setCell (p := ⟨N, 0, none⟩) (Nat.le_refl _) _).setCell (p := ⟨N, 1, none⟩) (Nat.le_refl _) _).setCell (p := ⟨N, 2, none⟩) (Nat.le_refl _) _).setCell (p := ⟨N, 3, none⟩) (Nat.le_refl _) _).setCell (p := ⟨N, 4, none⟩) (Nat.le_refl _) _).setCell (p := ⟨N, 5, none⟩) (Nat.le_refl _) _).setCell (p := ⟨N, 6, none⟩) (Nat.le_refl _) _).setCell (p := ⟨N + 1, 0, none⟩) (Nat.le_succ _) _).setCell (p := ⟨N + 1 + 1, 0, none⟩) (by simp only; omega) _).drew
  · have g0 := heap_set hR 0 (.int .i64 0)
    have g1 := heap_set g0 1 (.int .i64 0)
    have g2 := heap_set g1 2 (.string ⟨#[]⟩)
    have g3 := heap_set g2 3 (.string ⟨#[]⟩)
    have g4 := heap_set g3 4 (.slice none 0 0)
    have g5 := heap_set g4 5 (.int .i64 0)
    have g6 := heap_set g5 6 (.int .i64 0)
    have g7 := heap_far (a := ⟨N + 1, 0, none⟩) (u := .int .i64 a) g6 (show N ≠ N + 1 by omega)
    have g8 := heap_far (a := ⟨N + 1 + 1, 0, none⟩) (u := .int .i64 er) g7 (show N ≠ N + 1 + 1 by omega)
    simp only [List.setIfInBounds_toArray, List.set_cons_zero, List.set_cons_succ] at g8
    rw [drew_heap]
    exact g8
  · have g0 := heap_far (a := ⟨N, 0, none⟩) (u := .int .i64 0) hA (show N + 1 ≠ N by omega)
    have g1 := heap_far (a := ⟨N, 1, none⟩) (u := .int .i64 0) g0 (show N + 1 ≠ N by omega)
    have g2 := heap_far (a := ⟨N, 2, none⟩) (u := .string ⟨#[]⟩) g1 (show N + 1 ≠ N by omega)
    have g3 := heap_far (a := ⟨N, 3, none⟩) (u := .string ⟨#[]⟩) g2 (show N + 1 ≠ N by omega)
    have g4 := heap_far (a := ⟨N, 4, none⟩) (u := .slice none 0 0) g3 (show N + 1 ≠ N by omega)
    have g5 := heap_far (a := ⟨N, 5, none⟩) (u := .int .i64 0) g4 (show N + 1 ≠ N by omega)
    have g6 := heap_far (a := ⟨N, 6, none⟩) (u := .int .i64 0) g5 (show N + 1 ≠ N by omega)
    have g8 := heap_far (a := ⟨N + 1 + 1, 0, none⟩) (u := .int .i64 er) (heap_set g6 0 (.int .i64 a)) (show N + 1 ≠ N + 1 + 1 by omega)
    simp only [List.setIfInBounds_toArray, List.set_cons_zero] at g8
    rw [drew_heap]
    exact g8
  · have g0 := heap_far (a := ⟨N, 0, none⟩) (u := .int .i64 0) hE (show N + 1 + 1 ≠ N by omega)
    have g1 := heap_far (a := ⟨N, 1, none⟩) (u := .int .i64 0) g0 (show N + 1 + 1 ≠ N by omega)
    have g2 := heap_far (a := ⟨N, 2, none⟩) (u := .string ⟨#[]⟩) g1 (show N + 1 + 1 ≠ N by omega)
    have g3 := heap_far (a := ⟨N, 3, none⟩) (u := .string ⟨#[]⟩) g2 (show N + 1 + 1 ≠ N by omega)
    have g4 := heap_far (a := ⟨N, 4, none⟩) (u := .slice none 0 0) g3 (show N + 1 + 1 ≠ N by omega)
    have g5 := heap_far (a := ⟨N, 5, none⟩) (u := .int .i64 0) g4 (show N + 1 + 1 ≠ N by omega)
    have g6 := heap_far (a := ⟨N, 6, none⟩) (u := .int .i64 0) g5 (show N + 1 + 1 ≠ N by omega)
    have g8 := heap_set (heap_far (a := ⟨N + 1, 0, none⟩) (u := .int .i64 a) g6 (show N + 1 + 1 ≠ N + 1 by omega)) 0 (.int .i64 er)
    simp only [List.setIfInBounds_toArray, List.set_cons_zero] at g8
    rw [drew_heap]
    exact g8

set_option maxRecDepth 100000 in
set_option maxHeartbeats 2000000 in
theorem catch_fault (N : Nat) (a er : Int) (older : List PanicEntry) (w : World) (r0 r1 r2 r3 r4 r5 r6 : Value) (x y : Int)
    (hR : w.heap[N]? = some (.cells #[r0, r1, r2, r3, r4, r5, r6] 29 (0, 0))) (hA : w.heap[N + 1]? = some (.cells #[.int .i64 x] 3 (0, 0))) (hE : w.heap[N + 1 + 1]? = some (.cells #[.int .i64 y] 32 (0, 0))) :
    CallsD Tryz.prog 48 #[.pointer (some ⟨N, 0, none⟩), .pointer (some ⟨N + 1, 0, none⟩), .pointer (some ⟨N + 1 + 1, 0, none⟩)] (.panicking ({ v := faultV a er, recovered := false } :: older)) w fun e u' w' =>
      e = .returned (.tuple #[]) ∧ u' = .panicking ({ v := faultV a er, recovered := true } :: older) ∧ Caught N a er w w' := by
  obtain ⟨W, hW⟩ : ∃ W, W = w.alloc (.cells #[.int .i64 a, .int .i64 er] 73) := ⟨_, rfl⟩
  have lR : N < w.heap.size := (Array.getElem?_eq_some_iff.1 hR).1
  have lA : N + 1 < w.heap.size := (Array.getElem?_eq_some_iff.1 hA).1
  have lE : N + 1 + 1 < w.heap.size := (Array.getElem?_eq_some_iff.1 hE).1
  have hR' : W.heap[N]? = some (.cells #[r0, r1, r2, r3, r4, r5, r6] 29 (0, 0)) := by rw [hW]; exact (Below.heap_alloc w _ N lR).trans hR
  have hA' : W.heap[N + 1]? = some (.cells #[.int .i64 x] 3 (0, 0)) := by rw [hW]; exact (Below.heap_alloc w _ _ lA).trans hA
  have hE' : W.heap[N + 1 + 1]? = some (.cells #[.int .i64 y] 32 (0, 0)) := by rw [hW]; exact (Below.heap_alloc w _ _ lE).trans hE
  have cr : ∀ i, W.cell? ⟨N, i, none⟩ = (#[r0, r1, r2, r3, r4, r5, r6] : Array Value)[i]? := fun i => by simp [World.cell?, hR']
  have fr : ∀ i, W.frozen? ⟨N, i, none⟩ = false := fun i => by simp [World.frozen?, hR']
  have c0 : W.cell? ⟨N, 0, none⟩ = some r0 := cr 0
  have c1 : W.cell? ⟨N, 1, none⟩ = some r1 := cr 1
  have c2 : W.cell? ⟨N, 2, none⟩ = some r2 := cr 2
  have c3 : W.cell? ⟨N, 3, none⟩ = some r3 := cr 3
  have c4 : W.cell? ⟨N, 4, none⟩ = some r4 := cr 4
  have c5 : W.cell? ⟨N, 5, none⟩ = some r5 := cr 5
  have c6 : W.cell? ⟨N, 6, none⟩ = some r6 := cr 6
  have f0 := fr 0; have f1 := fr 1; have f2 := fr 2; have f3 := fr 3; have f4 := fr 4; have f5 := fr 5; have f6 := fr 6
  have ca : W.cell? ⟨N + 1, 0, none⟩ = some (.int .i64 x) := by simp [World.cell?, hA']
  have ce : W.cell? ⟨N + 1 + 1, 0, none⟩ = some (.int .i64 y) := by simp [World.cell?, hE']
  have fa : W.frozen? ⟨N + 1, 0, none⟩ = false := by simp [World.frozen?, hA']
  have fe : W.frozen? ⟨N + 1 + 1, 0, none⟩ = false := by simp [World.frozen?, hE']
  have b0 : W.cell? ⟨w.heap.size, 0, none⟩ = some (.int .i64 a) := by rw [hW]; exact cellNew w _ _ 0
  have b1 : W.cell? ⟨w.heap.size, 1, none⟩ = some (.int .i64 er) := by rw [hW]; exact cellNew w _ _ 1
  have HR := Lib.hid hR'; have HA := Lib.hid hA'; have HE := Lib.hid hE'
  have HBN : Hid (Below N w W) := Lib.hid (by rw [hW]; exact (Below.refl _ _).alloc (Nat.le_of_lt lR) _)
  have HW := Lib.hid hW
  clear hR hA hE hR' hA' hE' cr fr hW
  unfold faultV
  refine callsD_of_wpS Tryz.func48 rfl fun c₀ cs hu => ?_
  have hrec : recoverD (c₀ :: cs) = some (.iface 73 (.agg #[.int .i64 a, .int .i64 er]), { c₀ with mode := .panicking ({ v := .iface 73 (.agg #[.int .i64 a, .int .i64 er]), recovered := true } :: older) } :: cs) := by
    simp only [recoverD, hu]
  have hta : ∀ W, (Instr.typeAssert (.iface 73 (.agg #[.int .i64 a, .int .i64 er])) 20 73 true).run Tryz.prog W = .ok (.tuple #[.agg #[.int .i64 a, .int .i64 er], .bool true]) W := fun W => by kernel_rfl
  apply wpS_seq
  refine wpS_region_recover rfl rfl (by rfl) hrec ?_ ?_
  · rintro ⟨a, w, u, h, _⟩; cases h
  simp only [Tryz.ntmps48, Act.put, List.size_toArray, List.length_cons, List.length_nil, Nat.reduceAdd, Nat.reduceSub, Array.replicate_succ, Array.replicate_zero, List.push_toArray, List.append_toArray, List.nil_append, List.cons_append, List.setIfInBounds_toArray, List.set_cons_zero, List.set_cons_succ]
  go_wp2
  refine wpS_of_wp ?_
  go_wp2
  rw [← HW.out]
  go_region
  all_goals go_wp2
  all_goals exact ⟨rfl, _, rfl, _, by simp [results, Tryz.results48, go_sem], rfl, rfl, caught_of HBN.out HR.out HA.out HE.out⟩

set_option maxRecDepth 100000 in
set_option maxHeartbeats 2000000 in
theorem catch_none (p0 p1 p2 : Value) (w : World) :
    CallsD Tryz.prog 48 #[p0, p1, p2] .returning w fun e u' w' => e = .returned (.tuple #[]) ∧ u' = .returning ∧ w' = w.alloc (.cells #[.int .i64 0, .int .i64 0] 73) := by
  refine callsD_of_wpS Tryz.func48 rfl fun c₀ cs hu => ?_
  have hrec : recoverD (c₀ :: cs) = none := by simp only [recoverD, hu]
  have hta : ∀ W, (Instr.typeAssert .nilIface 20 73 true).run Tryz.prog W = .ok (.tuple #[.agg #[.int .i64 0, .int .i64 0], .bool false]) W := fun W => by kernel_rfl
  apply wpS_seq
  refine wpS_region_idle rfl rfl (by rfl) hrec ?_ ?_
  · rintro ⟨a, w, u, h, _⟩; cases h
  simp only [Tryz.ntmps48, Act.put, List.size_toArray, List.length_cons, List.length_nil, Nat.reduceAdd, Nat.reduceSub, Array.replicate_succ, Array.replicate_zero, List.push_toArray, List.append_toArray, List.nil_append, List.cons_append, List.setIfInBounds_toArray, List.set_cons_zero, List.set_cons_succ]
  go_wp2
  refine wpS_of_wp ?_
  go_wp2
  exact ⟨rfl, .returning, by rw [← hu], _, by simp [results, Tryz.results48, go_sem], rfl, rfl, rfl⟩
end Go.Proofs.YtjcaaejfokmolaaGreatDoor
