/- attempt: what it makes of a panic. -/
import Derived.Laws.EntriesVeiled
import Derived.Laws.Pointers
import Derived.Test.YtkggfeemjabdeaaGreatDoorPa3
import Derived.Test.YtkggfeemjabdeaaGreatDoorPa5
import Derived.Test.YtkggfeemjabdeaaGreatDoorPa6
namespace Go.Proofs.YtkggfeemjabdeaaGreatDoor
open Go.RowKit

set_option maxRecDepth 100000 in
set_option maxHeartbeats 2000000 in
theorem catch_part (N : Nat) (v : TypeId) (u : Value) (older : List PanicEntry) (w : World) (x : Int) (hE : w.heap[N]? = some (.cells #[.int .i64 x] 25 (0, 0))) :
    CallsD Tryz.prog 90 #[.pointer (some ⟨N, 0, none⟩)] (.panicking ({ v := .iface v u, recovered := false } :: older)) w fun e u' w' =>
      e = .returned (.tuple #[]) ∧ u' = .panicking ({ v := .iface v u, recovered := true } :: older) ∧ w' = w.setCell ⟨N, 0, none⟩ (.int .i64 4) := by
  have ce : w.cell? ⟨N, 0, none⟩ = some (.int .i64 x) := by simp [World.cell?, hE]
  have fe : w.frozen? ⟨N, 0, none⟩ = false := by simp [World.frozen?, hE]
  clear hE
  refine callsD_of_wpS Tryz.func90 rfl fun c₀ cs hu => ?_
  have hrec : recoverD (c₀ :: cs) = some (.iface v u, { c₀ with mode := .panicking ({ v := .iface v u, recovered := true } :: older) } :: cs) := by
    simp only [recoverD, hu]
  apply wpS_seq
  refine wpS_region_recover rfl rfl (by rfl) hrec ?_ ?_
  · rintro ⟨a, w, u, h, _⟩; cases h
  simp only [Tryz.ntmps90, Act.put, List.size_toArray, List.length_cons, List.length_nil, Nat.reduceAdd, Nat.reduceSub, Array.replicate_succ, Array.replicate_zero, List.push_toArray, List.append_toArray, List.nil_append, List.cons_append, List.setIfInBounds_toArray, List.set_cons_zero, List.set_cons_succ]
  go_wp2
  refine wpS_of_wp ?_
  go_wp2
  exact ⟨rfl, _, rfl, _, by simp [results, Tryz.results90, go_sem], rfl, rfl, rfl⟩
set_option maxRecDepth 100000 in
set_option maxHeartbeats 2000000 in
theorem idle_part (N : Nat) (w : World) :
    CallsD Tryz.prog 90 #[.pointer (some ⟨N, 0, none⟩)] .returning w fun e u' w' => e = .returned (.tuple #[]) ∧ u' = .returning ∧ w' = w := by
  refine callsD_of_wpS Tryz.func90 rfl fun c₀ cs hu => ?_
  have hrec : recoverD (c₀ :: cs) = none := by simp only [recoverD, hu]
  apply wpS_seq
  refine wpS_region_idle rfl rfl (by rfl) hrec ?_ ?_
  · rintro ⟨a, w, u, h, _⟩; cases h
  simp only [Tryz.ntmps90, Act.put, List.size_toArray, List.length_cons, List.length_nil, Nat.reduceAdd, Nat.reduceSub, Array.replicate_succ, Array.replicate_zero, List.push_toArray, List.append_toArray, List.nil_append, List.cons_append, List.setIfInBounds_toArray, List.set_cons_zero, List.set_cons_succ]
  go_wp2
  refine wpS_of_wp ?_
  go_wp2
  exact ⟨rfl, .returning, by rw [← hu], _, by simp [results, Tryz.results90, go_sem], rfl, rfl, rfl⟩

def errV4 : Value := .iface 25 (.int .i64 4)
theorem enters_of {f : FuncId} {fn : Func} {c : Code} (hf : Tryz.prog.funcs[f]? = some fn) (hn : (fn.name == "runtime.NumGoroutine") = false) (hb : fn.body = some c) : ∀ args w, (callFunc f args).run Tryz.prog w = .ok (.enter f args) w := by
  intro args w
  have h2 : fn.body.isNone = false := by rw [hb]; rfl
  simp only [callFunc, Sem.run_bind, run_program, Result.andThen_ok, hf, hn, Bool.false_eq_true, if_false, h2, Sem.run_pure]
theorem set_cells {w : World} {N : Nat} {cs : Array Value} {t : TypeId} {fr : Nat × Nat} (h : w.heap[N]? = some (.cells cs t fr)) (i : Nat) : w.cell? ⟨N, i, none⟩ = cs[i]? := by simp [World.cell?, h]

set_option maxRecDepth 100000 in
set_option maxHeartbeats 4000000 in
theorem door_fault_part (N : Nat) (v : TypeId) (u a b : Value) (x : Int) (w : World) (tmps : Array Value) (R : Ending → World → Prop) (h2 : tmps[2]?.getD undef = .pointer (some ⟨N, 0, none⟩)) (h3 : tmps[3]?.getD undef = .pointer (some ⟨N + 1, 0, none⟩))
    (hA : w.heap[N]? = some (.cells #[a, b] 24 (0, 0))) (hE : w.heap[N + 1]? = some (.cells #[.int .i64 x] 25 (0, 0))) (hR : R (.returned (.tuple #[.agg #[a, b], .int .i64 4])) (w.setCell ⟨N + 1, 0, none⟩ (.int .i64 4))) :
    bodyPostD Tryz.prog Tryz.f47 R (Exit.panic [{ v := .iface v u, recovered := false }]) { tmps := tmps, defers := [{ target := Target.fn (Fn.func 90) #[.pointer (some ⟨N + 1, 0, none⟩)], args := #[] }] } w := by
  refine leaves_cons (f := 90) (args := #[.pointer (some ⟨N + 1, 0, none⟩)]) (by simp) (by simp [go_sem]) ?_
  refine (catch_part (N + 1) v u [] w x hE).mono ?_
  rintro e u' w'' ⟨rfl, rfl, rfl⟩
  have hA' : (w.setCell ⟨N + 1, 0, none⟩ (.int .i64 4)).heap[N]? = some (.cells #[a, b] 24 (0, 0)) := (Below.heap_setCell w _ _ N (by show N ≠ N + 1; omega)).trans hA
  have hE' := heap_setCell_same w (N + 1) 0 _ _ (.int .i64 4) hE
  generalize (w.setCell ⟨N + 1, 0, none⟩ (.int .i64 4)) = W at *
  have c0 : W.cell? ⟨N, 0, none⟩ = some a := set_cells hA' 0
  have c1 : W.cell? ⟨N, 1, none⟩ = some b := set_cells hA' 1
  have ce : W.cell? ⟨N + 1, 0, none⟩ = some (.int .i64 4) := set_cells hE' 0
  simp [Leaves, settle, results, Tryz.results47, go_sem, h2, h3, c0, c1, ce]
  exact hR
set_option maxRecDepth 100000 in
set_option maxHeartbeats 4000000 in
theorem door_ok_part (ex : Exit) (hex : ex = .ret ∨ ex = .normal) (N : Nat) (a b : Value) (w : World) (tmps : Array Value) (R : Ending → World → Prop) (h2 : tmps[2]?.getD undef = .pointer (some ⟨N, 0, none⟩)) (h3 : tmps[3]?.getD undef = .pointer (some ⟨N + 1, 0, none⟩))
    (hA : w.heap[N]? = some (.cells #[a, b] 24 (0, 0))) (hE : w.heap[N + 1]? = some (.cells #[.int .i64 0] 25 (0, 0))) (hR : R (.returned (.tuple #[.agg #[a, b], .int .i64 0])) w) :
    bodyPostD Tryz.prog Tryz.f47 R ex { tmps := tmps, defers := [{ target := Target.fn (Fn.func 90) #[.pointer (some ⟨N + 1, 0, none⟩)], args := #[] }] } w := by
  have c0 : w.cell? ⟨N, 0, none⟩ = some a := set_cells hA 0
  have c1 : w.cell? ⟨N, 1, none⟩ = some b := set_cells hA 1
  have ce : w.cell? ⟨N + 1, 0, none⟩ = some (.int .i64 0) := set_cells hE 0
  rcases hex with rfl | rfl
  all_goals
    refine leaves_cons (f := 90) (args := #[.pointer (some ⟨N + 1, 0, none⟩)]) (by simp) (by simp [go_sem]) ?_
    refine (idle_part (N + 1) w).mono ?_
    rintro e u' w'' ⟨rfl, rfl, rfl⟩
    simp [Leaves, settle, results, Tryz.results47, go_sem, h2, h3, c0, c1, ce]
    exact hR
/-- What a call under attempt comes to. -/
def Tries (c : FuncId) (caps : Array Value) (ok : Bool) (r : Value) (w : World) : Prop :=
  ∀ W, Below w.heap.size w W → Calls Tryz.prog c caps W fun e W' => Below W.heap.size W W' ∧ (ok = true → e = .returned r) ∧ (ok = false → e = .panicked [{ v := errV4, recovered := false }])
set_option maxRecDepth 100000 in
set_option maxHeartbeats 2000000 in
theorem attempt_part (c : FuncId) (caps : Array Value) (he : ∀ args w, (callFunc c args).run Tryz.prog w = .ok (.enter c args) w) (ok : Bool) (x y : ByteArray) (w : World) (hc : Tries c caps ok (.agg #[.string x, .string y]) w) :
    Calls Tryz.prog 47 #[.func (.func c) #[] caps] w fun e w' => e = .returned (.tuple #[.agg #[.string (if ok then x else ⟨#[]⟩), .string (if ok then y else ⟨#[]⟩)], .int .i64 (if ok then 0 else 4)]) ∧ Below w.heap.size w w' := by
  have HC := Lib.hid hc; clear hc
  obtain ⟨W1, hW1⟩ : ∃ W1, W1 = (w.alloc (.cells #[.string ⟨#[]⟩, .string ⟨#[]⟩] 24)).alloc (.cells #[.int .i64 0] 25) := ⟨_, rfl⟩
  have hB1 : Below w.heap.size w W1 := by rw [hW1]; exact ((Below.refl _ _).alloc (Nat.le_refl _) _).alloc (by simp) _
  have hA1 : W1.heap[w.heap.size]? = some (.cells #[.string ⟨#[]⟩, .string ⟨#[]⟩] 24 (0, 0)) := by rw [hW1, Below.heap_alloc _ _ _ (by simp only [World.size_alloc]; omega)]; exact Go.Deep.blk_alloc_new _ _
  have hE1 : W1.heap[w.heap.size + 1]? = some (.cells #[.int .i64 0] 25 (0, 0)) := by
    rw [hW1]
    have := Go.Deep.blk_alloc_new (w.alloc (.cells #[.string ⟨#[]⟩, .string ⟨#[]⟩] 24)) (.cells #[.int .i64 0] 25)
    rw [World.size_alloc] at this; exact this
  have HW1 := Lib.hid hW1; have HB1 := Lib.hid hB1; have HA1 := Lib.hid hA1; have HE1 := Lib.hid hE1
  clear hW1 hB1 hA1 hE1
  go_enter_defers Tryz.func47, Tryz.ntmps47
  go_wp2_with fail
  rw [← HW1.out]
  refine (HC.out W1 HB1.out).mono ?_
  rintro e w2 ⟨hb, h1, h2⟩
  have l1 : w.heap.size < W1.heap.size := (Array.getElem?_eq_some_iff.1 HA1.out).1
  have l2 : w.heap.size + 1 < W1.heap.size := (Array.getElem?_eq_some_iff.1 HE1.out).1
  have hA2 := (hb.block _ l1).trans HA1.out
  have hE2 := (hb.block _ l2).trans HE1.out
  have HB2 : Hid (Below w.heap.size w w2) := Lib.hid (HB1.out.trans (hb.mono HB1.out.size))
  cases ok with
  | true =>
    obtain rfl := h1 rfl
    have c0 := set_cells hA2 0; have c1 := set_cells hA2 1; have ce := set_cells hE2 0
    have f0 : w2.frozen? ⟨w.heap.size, 0, none⟩ = false := by simp [World.frozen?, hA2]
    have f1 : w2.frozen? ⟨w.heap.size, 1, none⟩ = false := by simp [World.frozen?, hA2]
    have fe : w2.frozen? ⟨w.heap.size + 1, 0, none⟩ = false := by simp [World.frozen?, hE2]
    simp only [List.getElem?_toArray, List.getElem?_cons_zero, List.getElem?_cons_succ] at c0 c1 ce
    have HA2 := Lib.hid hA2; have HE2 := Lib.hid hE2
    clear hA2 hE2 h1 h2 hb
    go_wp2
    have g0 := heap_setCell_same w2 w.heap.size 0 _ _ (.string x) HA2.out
    have g1 := heap_setCell_same _ w.heap.size 1 _ _ (.string y) g0
    have g2 := (Below.heap_setCell ((w2.setCell ⟨w.heap.size, 0, none⟩ (.string x)).setCell ⟨w.heap.size, 1, none⟩ (.string y)) ⟨w.heap.size + 1, 0, none⟩ (.int .i64 0) w.heap.size (by show w.heap.size ≠ w.heap.size + 1; omega)).trans g1
    have k0 := (Below.heap_setCell w2 ⟨w.heap.size, 0, none⟩ (.string x) (w.heap.size + 1) (by show w.heap.size + 1 ≠ w.heap.size; omega)).trans HE2.out
    have k1 := (Below.heap_setCell (w2.setCell ⟨w.heap.size, 0, none⟩ (.string x)) ⟨w.heap.size, 1, none⟩ (.string y) (w.heap.size + 1) (by show w.heap.size + 1 ≠ w.heap.size; omega)).trans k0
    have k2 := heap_setCell_same _ (w.heap.size + 1) 0 _ _ (.int .i64 0) k1
    simp only [List.setIfInBounds_toArray, List.set_cons_zero, List.set_cons_succ] at g2 k2
    refine door_ok_part _ (by first | exact .inl rfl | exact .inr rfl) w.heap.size (.string x) (.string y) _ _ _ rfl rfl g2 k2 ⟨rfl, ?_⟩
    exact ((HB2.out.setCell (p := ⟨w.heap.size, 0, none⟩) (Nat.le_refl _) _).setCell (p := ⟨w.heap.size, 1, none⟩) (Nat.le_refl _) _).setCell (p := ⟨w.heap.size + 1, 0, none⟩) (by show w.heap.size ≤ w.heap.size + 1; omega) _
  | false =>
    obtain rfl := h2 rfl
    refine door_fault_part w.heap.size _ _ _ _ _ w2 _ _ rfl rfl hA2 hE2 ⟨rfl, ?_⟩
    exact HB2.out.setCell (p := ⟨w.heap.size + 1, 0, none⟩) (by show w.heap.size ≤ w.heap.size + 1; omega) _
end Go.Proofs.YtkggfeemjabdeaaGreatDoor
