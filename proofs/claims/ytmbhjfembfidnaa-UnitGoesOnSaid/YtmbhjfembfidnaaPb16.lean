/- Layer 9 (unit): the legs of a plan, as they are yielded. Layer 9 (unit): the legs of a plan, as they are yielded: the walk. -/
import Derived.RangeFuncNested
import Derived.RangeFuncBound
import Derived.RangeFuncCalls
import Derived.RangeFuncLeaves
import Derived.Shelf.Abstract
import Derived.Shelf.RegionOpen
import Derived.OwnWalkIn
import Derived.TacticsInMore
import Derived.LoopNIn
import Derived.LoopIn
import Derived.Deep.MidRow
import Derived.Maps.AppendAt
import Derived.Test.YtmbhjfembfidnaaPb15
section
namespace Go.Proofs.Ytmbhjfembfidnaa.Un
open Go Go.Proofs.Ytmbhjfembfidnaa.Sx Go.RowKit Go.Shelf
attribute [local go_sem] Oper.semAt_some

/-! structs by value, as whole -/
/-- a struct's value of n cells. -/
def IsAgg (v : Value) (n : Nat) : Prop := ∃ c : List Value, v = .agg c.toArray ∧ c.length = n ∧ ∀ u ∈ c, u.oneCell' = true
/-- it lies there. -/
def AggAt (w : World) (b o : Nat) (v : Value) (n : Nat) : Prop := ∃ c : List Value, v = .agg c.toArray ∧ c.length = n ∧ w.rangeAt b o c
structure Stored (w w' : World) (b : Nat) (v : Value) (n : Nat) : Prop where
  grown : w.grownBy w' (some b)
  size : w'.heap.size = w.heap.size
  here : AggAt w' b 0 v n
  free : w'.there b 0 n
theorem grown_setCells (b : Nat) : ∀ (vs : List Value) (o : Nat) (w : World), w.grownBy (w.setCells b o vs) (some b) ∧ (w.setCells b o vs).heap.size = w.heap.size
  | [], _, w => ⟨World.grownBy.refl w _, rfl⟩
  | v :: vs, o, w => by
    have h1 : w.grownBy (w.setCell ⟨b, o, none⟩ v) (some b) := ⟨rfl, rfl, rfl, by simp [World.setCell], fun k _ hk => Below.heap_setCell _ _ _ _ (by intro e; exact hk (by rw [e]))⟩
    obtain ⟨h2, h3⟩ := grown_setCells b vs (o + 1) (w.setCell ⟨b, o, none⟩ v)
    exact ⟨h1.trans h2, h3.trans (by simp [World.setCell])⟩
theorem there_new (w : World) (cs : Array Value) (t : TypeId) {n : Nat} (hn : cs.size = n) : (w.alloc (.cells cs t)).there w.heap.size 0 n := fun j hj => by
  have h : (w.alloc (.cells cs t)).heap[w.heap.size]? = some (.cells cs t) := World.alloc_heap_new w _
  constructor
  · simp only [World.cell?, h]
    simp; omega
  · unfold World.frozen?; rw [h]; simp
theorem in_store {F : Fence} {nF : Nat} {P : Program} {ops : Array Oper} {rest : List Oper} {op : Oper} {a : Act} {w : World} {Q : Exit → Act → World → Prop} (hgd : op.guard = none) (ty : TypeId) (x y : Operand) (ho : op.op = .store ty x y)
    (b : Nat) (v : Value) (n : Nat) (hx : a.eval x = .pointer (some ⟨b, 0, none⟩)) (hy : a.eval y = v) (hv : IsAgg v n)
    (ht : w.there b 0 n) (hi : (P.info? ty).map (·.size) = some n)
    (h : ∀ w', Stored w w' b v n → wpListIn F nF P ops Q rest (a.put op.dst undef) w') : wpListIn F nF P ops Q (op :: rest) a w := by
  obtain ⟨c, rfl, rfl, h1⟩ := hv
  refine wpListIn_plain hgd fun K hK => ?_
  unfold Oper.wpIn
  refine ⟨by simp [Oper.about, ho], ?_⟩
  rw [Oper.semAt_plain F _ _ (by rw [ho]; intro c hc'; cases hc')]
  have hr := run_storeAt_mid (P := P) w b 0 ty c.toArray (by simpa using ht) (by simpa using hi) (all_oneCell_toArray h1)
  simp only [execOp, ho, hx, hy, Sem.run_bind, Sem.run_pure, Result.andThen_ok, hr]
  refine hK _ _ (h _ ⟨(grown_setCells b _ 0 w).1, (grown_setCells b _ 0 w).2, ⟨c, rfl, rfl, ?_⟩, ?_⟩)
  · exact World.rangeAt_setCells_same w b 0 c ht
  · exact World.there_setCells ht b 0 _
theorem in_load {F : Fence} {nF : Nat} {P : Program} {ops : Array Oper} {rest : List Oper} {op : Oper} {a : Act} {w : World} {Q : Exit → Act → World → Prop} (hgd : op.guard = none) (ty : TypeId) (x : Operand) (ho : op.op = .load ty x)
    (b o : Nat) (v : Value) (n : Nat) (hx : a.eval x = .pointer (some ⟨b, o, none⟩)) (hv : AggAt w b o v n) (d : TypeDesc)
    (hu : P.underlying ty = some d) (hd : d.isRow = true) (hi : (P.info? ty).map (·.size) = some n)
    (h : wpListIn F nF P ops Q rest (a.put op.dst v) w) : wpListIn F nF P ops Q (op :: rest) a w := by
  obtain ⟨c, rfl, rfl, h1⟩ := hv
  refine wpListIn_plain hgd fun K hK => ?_
  unfold Oper.wpIn
  refine ⟨by simp [Oper.about, ho], ?_⟩
  rw [Oper.semAt_plain F _ _ (by rw [ho]; intro c hc'; cases hc')]
  have hr := run_loadAt_mid (P := P) w b o ty c d h1 hu hd hi
  simp only [execOp, ho, hx, Sem.run_bind, Sem.run_pure, Result.andThen_ok, hr]
  exact hK _ _ h
structure New (w w' : World) (v : Value) (n : Nat) : Prop where
  grown : ∀ r, w.grownBy w' r
  size : w'.heap.size = w.heap.size + 1
  here : AggAt w' w.heap.size 0 v n
  free : w'.there w.heap.size 0 n
theorem new_alloc (w : World) (c : List Value) (ty : TypeId) {n : Nat} (hn : c.length = n) : New w (w.alloc (.cells c.toArray ty)) (.agg c.toArray) n := by
  refine ⟨fun r => World.grownBy_alloc w _ r, World.size_alloc w _, ⟨c, rfl, hn, fun j u hj => ?_⟩, there_new w _ _ (by simpa using hn)⟩
  have h : (w.alloc (.cells c.toArray ty)).heap[w.heap.size]? = some (.cells c.toArray ty) := World.alloc_heap_new w _
  simp only [World.cell?, h]
  simpa using hj
theorem in_box {F : Fence} {nF : Nat} {P : Program} {ops : Array Oper} {rest : List Oper} {op : Oper} {a : Act} {w : World} {Q : Exit → Act → World → Prop} (hgd : op.guard = none) (ty : TypeId) (x : Operand) (ho : op.op = .box ty x)
    (v : Value) (n : Nat) (hx : a.eval x = v) (hv : IsAgg v n)
    (h : ∀ w', New w w' v n → wpListIn F nF P ops Q rest (a.put op.dst (.pointer (some ⟨w.heap.size, 0, none⟩))) w') : wpListIn F nF P ops Q (op :: rest) a w := by
  obtain ⟨c, rfl, hn, h1⟩ := hv
  refine wpListIn_plain hgd fun K hK => ?_
  unfold Oper.wpIn
  refine ⟨by simp [Oper.about, ho], ?_⟩
  rw [Oper.semAt_plain F _ _ (by rw [ho]; intro c hc'; cases hc')]
  have := hK _ _ (h _ (new_alloc w c ty hn))
  simp only [execOp, ho, hx, Sem.run_bind, Instr.box, newVar, newRow, Value.cells, run_newObj_alloc, Sem.run_pure, Result.andThen_ok]
  exact this
theorem AggAt.kept {w w' : World} {b o : Nat} {v : Value} {n : Nat} (h : AggAt w b o v n) (e : w'.heap[b]? = w.heap[b]?) : AggAt w' b o v n := by
  obtain ⟨c, h1, h2, h3⟩ := h
  refine ⟨c, h1, h2, fun j u hj => ?_⟩
  rw [World.cell?_of_block (a := ⟨b, o + j, none⟩) e]; exact h3 j u hj
theorem there_kept {w w' : World} {b o n : Nat} (h : w.there b o n) (e : w'.heap[b]? = w.heap[b]?) : w'.there b o n := fun j hj => by
  rw [World.cell?_of_block (a := ⟨b, o + j, none⟩) e, World.frozen?_of_block (a := ⟨b, o + j, none⟩) e]; exact h j hj
theorem AggAt.lt {w : World} {b o : Nat} {v : Value} {n : Nat} (h : AggAt w b o v n) (hn : 0 < n) : b < w.heap.size := by
  obtain ⟨c, h1, h2, h3⟩ := h
  have hc : 0 < c.length := by omega
  exact World.block_lt_of_cell? w ⟨b, o + 0, none⟩ (h3 0 _ (List.getElem?_eq_getElem hc))
theorem sky_one {v : Value} (h : asSl v = v) : v.oneCell' = true := by
  cases v <;> first | rfl | (exfalso; simp [asSl] at h)
theorem i64_one (z : Int) : (i64 z).oneCell' = true := rfl
theorem trip_cells {q : Tr} {l : LL} {a : At} (hs : asSl q.sky = q.sky) : ∀ u ∈ tripCs q l a, u.oneCell' = true := fun u hu => by
  have := sky_one hs
  simp only [tripCs, List.mem_cons, List.not_mem_nil, or_false] at hu
  rcases hu with rfl | rfl | rfl | rfl | rfl | rfl | rfl | rfl | rfl | rfl | rfl | rfl | rfl | rfl | rfl | rfl | rfl | rfl <;> first | rfl | exact this
theorem leg_cells (x : LL) : ∀ u ∈ cellsA x, u.oneCell' = true := fun u hu => by
  obtain ⟨p, -, rfl⟩ := List.mem_map.1 hu
  rfl
theorem trip_is {q : Tr} {l : LL} {a : At} (hs : asSl q.sky = q.sky) : IsAgg (tripA q l a) 18 := ⟨tripCs q l a, rfl, rfl, trip_cells hs⟩
theorem wayV_is (l : LL) (k : Int) : IsAgg (wayVal l k) 3 := ⟨[_, _, _], rfl, rfl, by simp [i64_one]⟩
theorem legV_is (l : LL) (a : At) (k : Int) : IsAgg (legVal (legL l a k)) 8 := ⟨cellsA (legL l a k), rfl, rfl, leg_cells _⟩
theorem step_is {q : Tr} {l : LL} {a : At} {k : Int} (hs : asSl q.sky = q.sky) : IsAgg (stepA q l a k) 34 :=
  ⟨tripCs q l a ++ cellsA (legL l a k) ++ cellsA (homeL l (goOn l a k)), rfl, rfl, fun u hu => by
    rcases List.mem_append.1 hu with hu | hu
    · rcases List.mem_append.1 hu with hu | hu
      · exact trip_cells hs u hu
      · exact leg_cells _ u hu
    · exact leg_cells _ u hu⟩
theorem step_out {w : World} {b : Nat} {q : Tr} {l : LL} {a : At} {k : Int} (h : AggAt w b 0 (stepA q l a k) 34) : AggAt w b 18 (legVal (legL l a k)) 8 := by
  obtain ⟨c, h1, h2, h3⟩ := h
  refine ⟨cellsA (legL l a k), rfl, rfl, fun j u hj => ?_⟩
  have e : c = tripCs q l a ++ cellsA (legL l a k) ++ cellsA (homeL l (goOn l a k)) := by
    have := congrArg (fun v => match v with | Value.agg c => c.toList | _ => []) h1
    simpa [stepA] using this.symm
  have hj8 : j < 8 := (List.getElem?_eq_some_iff.1 hj).1
  have h4 := h3 (18 + j) u (by
    rw [e, List.append_assoc, List.getElem?_append_right (by show 18 ≤ 18 + j; omega), show 18 + j - (tripCs q l a).length = j from by show 18 + j - 18 = j; omega, List.getElem?_append_left hj8]
    exact hj)
  rwa [Nat.zero_add] at h4
theorem Stored.fresh {w w' : World} {o : Obj} {v : Value} {n : Nat} (h : Stored (w.alloc o) w' w.heap.size v n) (r : Option Nat) : w.grownBy w' r := by
  obtain ⟨⟨h1, h2, h3, h4, h5⟩, -, -, -⟩ := h
  rw [World.size_alloc] at h4 h5
  exact ⟨h1, h2, h3, by omega, fun k hk _ => (h5 k (by omega) (by intro e; injection e with e; omega)).trans (Below.heap_alloc w o k hk)⟩
theorem Stored.fresh_size {w w' : World} {o : Obj} {v : Value} {n : Nat} (h : Stored (w.alloc o) w' w.heap.size v n) : w'.heap.size = w.heap.size + 1 := by
  rw [h.size, World.size_alloc]
theorem grownBy_of_below {w w' : World} (h : Below w.heap.size w w') (r : Option Nat) : w.grownBy w' r := ⟨h.os, h.tape, h.output, h.size, fun k hk _ => h.block k hk⟩
end Go.Proofs.Ytmbhjfembfidnaa.Un
end
section
namespace Go.Proofs.Ytmbhjfembfidnaa.Un
open Go Go.Proofs.Ytmbhjfembfidnaa.Sx Go.RowKit Go.Shelf
attribute [local go_sem] Oper.semAt_some

def Good (l : LL) (i : Nat) : Prop := ∀ j : Nat, j < i → whyB l (stAt l j) j = 0
/-- what a round of the plan may reckon with. -/
structure Plans (J : Nat → World → Prop) (D : Nat → World → Prop) (n y A B R ro cap N T : Nat) (p : Option Addr) (q : Tr) (l : LL) : Prop where
  ptr : 0 < N → p = some ⟨R, ro, none⟩
  sky : asSl q.sky = q.sky
  num : nI l 14 = (N : Int)
  few : N ≤ 1000000
  old : A < T ∧ B < T
  grown : ∀ i W W', J i W → W.grownBy W' (some T) → J i W'
  size : ∀ i W, J i W → T ≤ W.heap.size
  trip : ∀ i W, J i W → AggAt W A 0 (tripA q l (stAt l 0)) 18
  route : ∀ i W, J i W → W.cell? ⟨B, 0, none⟩ = some (.slice p N cap)
  ways : ∀ i W, J i W → ∀ k : Nat, k < N → AggAt W R (ro + k * 3) (wayVal l k) 3
  fine : ∀ i, Good l i → i ≤ N → Fine l (stAt l i)
  fineW : ∀ i : Nat, i < N → FineW l i
  why : ∀ (i : Nat) W, J i W → Good l i → i < N → Calls Try.prog 113 #[stepA q l (stAt l i) i] W fun e w' => e = .returned (i64 (whyB l (stAt l i) i)) ∧ Below W.heap.size W w'
  goes : ∀ (i : Nat) W0 W, J i W0 → W0.grownBy W none → T < W0.heap.size → J i W → Good l i → i < N → YieldAt Fence.wide (n - 1) Try.prog y #[legVal (legL l (stAt l i) i), i64 (whyB l (stAt l i) i)] W fun e W' =>
    (whyB l (stAt l i) i = 0 → e = .returned (.bool true) ∧ J (i + 1) W') ∧ (whyB l (stAt l i) i ≠ 0 → e = .returned (.bool false) ∧ D i W') ∧ W.heap.size ≤ W'.heap.size ∧ ∀ b, (b = T ∨ W0.heap.size ≤ b) → b < W.heap.size → W'.heap[b]? = W.heap[b]?
  ends : ∀ W, J N W → Good l N → T < W.heap.size → YieldAt Fence.wide (n - 1) Try.prog y #[legVal (homeL l (stAt l N)), i64 0] W fun e W' => e = .returned (.bool true) ∧ J (N + 1) W'

set_option maxRecDepth 100000 in
set_option maxHeartbeats 4000000 in
theorem legs1_in (n : Nat) (hn : 1 ≤ n) {J D : Nat → World → Prop} {y A B R ro cap N T : Nat} {p : Option Addr} {q : Tr} {l : LL} (K : Plans J D n y A B R ro cap N T p q l) (W : World) (hT : T = W.heap.size) (h0 : J 0 W) :
    CallsIn Fence.wide n Try.prog 111 #[.func (.yield y) #[] #[], .pointer (some ⟨A, 0, none⟩), .pointer (some ⟨B, 0, none⟩)] W fun e W' => (∃ v, e = .returned v) ∧ ((∃ i : Nat, i < N ∧ Good l i ∧ whyB l (stAt l i) i ≠ 0 ∧ D i W') ∨ (Good l N ∧ J (N + 1) W')) := by
  refine callsIn_of_wp Try.func111 rfl trivial ?_ rfl
  simp only [Try.ntmps111, List.size_toArray, List.length_cons, List.length_nil, Nat.reduceAdd, Nat.reduceSub, Array.replicate_succ, Array.replicate_zero, List.push_toArray, List.append_toArray, List.nil_append, List.cons_append]
  have HK := Lib.hid K; clear K
  have HS := Lib.hid HK.out.sky
  have agT := HK.out.trip 0 W h0
  have H0 := Lib.hid h0; clear h0
  subst hT
  gi_wp2_with (first
    | (refine in_load rfl _ _ rfl _ _ _ _ rfl (by assumption) _ rfl rfl (by kernel_rfl) ?_)
    | (refine in_store rfl _ _ _ rfl _ (tripA q l (stAt l 0)) 18 rfl rfl (trip_is HS.out) (there_new W _ _ rfl) (by kernel_rfl) (fun W1 hS1 => ?_)
       have hJ1 := Lib.hid (HK.out.grown 0 W W1 H0.out ((World.grownBy_alloc W _ _).trans hS1.grown))
       have hs1 := hS1.size; have ag1 := hS1.here; have th1 := hS1.free
       simp only [World.size_alloc] at hs1
       have cB := HK.out.route 0 W1 hJ1.out
       clear hS1))
  gi_loopw [12] (fun cv wr => ∃ i : Nat, i ≤ N ∧ cv = .int .i64 (i : Int) ∧ Good l i ∧ J i wr ∧ AggAt wr W.heap.size 0 (tripA q l (stAt l i)) 18 ∧ wr.there W.heap.size 0 18 ∧ W.heap.size < wr.heap.size) (fun cv _ => N - (intOf cv).toNat)
  case atStart => exact ⟨0, by omega, rfl, fun j hj => by omega, hJ1.out, ag1, th1, by omega⟩
  case round =>
    obtain ⟨i, hi, rfl, hg, hj, ag, th, hsz⟩ := hrel
    have hN := HK.out.few
    have HG := Lib.hid hg; have HJ := Lib.hid hj; have HTH := Lib.hid th
    clear hg hj th
    by_cases hlt : i < N
    · have agW := HK.out.ways i wr HJ.out i hlt
      obtain rfl := HK.out.ptr (by omega)
      gi_wp2_with (first
        | (refine in_load rfl _ _ rfl _ _ _ _ rfl (by assumption) _ rfl rfl (by kernel_rfl) ?_)
        | (refine in_store rfl _ _ _ rfl _ (wayVal l i) 3 rfl rfl (wayV_is l i) (there_new wr _ _ rfl) (by kernel_rfl) (fun W2 hS2 => ?_)
           have hg2 := hS2.fresh (some W.heap.size)
           have hG2 := Lib.hid (hS2.fresh none)
           have hJ2 := Lib.hid (HK.out.grown i wr W2 HJ.out hg2)
           have ag2 := ag.kept (hG2.out.block _ hsz (by simp))
           have th2 := Lib.hid (there_kept HTH.out (hG2.out.block _ hsz (by simp)))
           have agw2 := hS2.here
           have hs2 := hS2.fresh_size
           clear hS2 hg2 ag HTH agW)
        | (refine ⟨trivial, ?_⟩
           gi_at_call 112
           refine (callsIn_wide.2 (step_calls q l (stAt l i) i HS.out (HK.out.fine i HG.out hi) (HK.out.fineW i hlt) _)).mono ?_
           rintro e W3 ⟨rfl, hB3⟩
           have hg3 := grownBy_of_below hB3 (some W.heap.size)
           have hG3 := Lib.hid (grownBy_of_below hB3 none)
           have hJ3 := Lib.hid (HK.out.grown i _ W3 hJ2.out hg3)
           have ag3 := ag2.kept (hG3.out.block _ (by omega) (by simp))
           have th3 := Lib.hid (there_kept th2.out (hG3.out.block _ (by omega) (by simp)))
           have hs3 := hG3.out.size
           clear hg3 hB3 ag2 agw2 hJ2 th2)
        | (refine in_store rfl _ _ _ rfl _ (stepA q l (stAt l i) i) 34 rfl rfl (step_is HS.out) (there_new _ _ _ rfl) (by kernel_rfl) (fun W4 hS4 => ?_)
           have hg4 := hS4.fresh (some W.heap.size)
           have hG4 := Lib.hid (hS4.fresh none)
           have hJ4 := Lib.hid (HK.out.grown i _ W4 hJ3.out hg4)
           have ag4 := ag3.kept (hG4.out.block _ (by omega) (by simp))
           have th4 := Lib.hid (there_kept th3.out (hG4.out.block _ (by omega) (by simp)))
           have ags4 := hS4.here
           have ago4 := step_out ags4
           have hs4 := hS4.fresh_size
           clear hS4 hg4 ag3 hJ3 th3)
        | (refine ⟨trivial, ?_⟩
           gi_at_call 113
           refine (callsIn_wide.2 (HK.out.why i _ hJ4.out HG.out hlt)).mono ?_
           rintro e W5 ⟨rfl, hB5⟩
           have hg5 := grownBy_of_below hB5 (some W.heap.size)
           have hG5 := Lib.hid (grownBy_of_below hB5 none)
           have hJ5 := Lib.hid (HK.out.grown i _ W5 hJ4.out hg5)
           have ag5 := ag4.kept (hG5.out.block _ (by omega) (by simp))
           have th5 := Lib.hid (there_kept th4.out (hG5.out.block _ (by omega) (by simp)))
           have ago5 := ago4.kept (hG5.out.block _ (by omega) (by simp))
           have hs5 := hG5.out.size
           clear hg5 hB5 ag4 ago4 ags4 hJ4 th4))
      obtain ⟨fn, tmps, assign, body, hy, hR⟩ := HK.out.goes i wr W5 HJ.out (((hG2.out.trans hG3.out).trans hG4.out).trans hG5.out) hsz hJ5.out HG.out hlt
      have HR := Lib.hid hR; clear hR
      by_cases hw : whyB l (stAt l i) i = 0
      · have hi0 : ∀ z, i64 z = .int .i64 z := fun _ => rfl
        rw [hi0] at hy ⊢
        have hwz : (whyB l (stAt l i) i != 0) = false := by simpa using hw
        have HW := Lib.hid hw
        generalize hz : whyB l (stAt l i) i = z at hy hwz ⊢
        have HZ := Lib.hid hz
        clear hz hw
        rw [hy]
        gi_wp2
        refine HR.out.mono ?_
        rintro e W6 ⟨h1, -, hs6, hk6⟩
        obtain ⟨rfl, hJ6⟩ := h1 HW.out
        have HJ6 := Lib.hid hJ6
        have ag6 := ag5.kept (hk6 _ (.inl rfl) (by omega))
        have th6 := Lib.hid (there_kept th5.out (hk6 _ (.inl rfl) (by omega)))
        have ago6 := ago5.kept (hk6 _ (.inr (by omega)) (by omega))
        clear h1 hk6 hJ6 ag5 th5 ago5 HR hy hJ5
        gi_wp2_with (first
          | (refine in_load rfl _ _ rfl _ _ _ _ rfl (by assumption) _ rfl rfl (by kernel_rfl) ?_)
          | (refine ⟨trivial, ?_⟩
             gi_at_call 114
             refine (callsIn_wide.2 (after_calls q l (stAt l i) i HS.out _)).mono ?_
             rintro e W7 ⟨rfl, hB7⟩
             have hg7 := grownBy_of_below hB7 (some W.heap.size)
             have hG7 := Lib.hid (grownBy_of_below hB7 none)
             have hJ7 := Lib.hid (HK.out.grown (i + 1) _ W7 HJ6.out hg7)
             have th7 := Lib.hid (there_kept th6.out (hG7.out.block _ (by omega) (by simp)))
             have hs7 := hG7.out.size
             clear hg7 hB7 ag6 ago6 HJ6 th6)
          | (refine in_store rfl _ _ _ rfl _ (tripA q l (goOn l (stAt l i) i)) 18 rfl rfl (trip_is HS.out) th7.out (by kernel_rfl) (fun W8 hS8 => ?_)
             have hJ8 := Lib.hid (HK.out.grown (i + 1) _ W8 hJ7.out hS8.grown)
             have ag8 := hS8.here
             have th8 := Lib.hid hS8.free
             have hs8 := hS8.size
             clear hS8 hJ7 th7))
        refine ⟨⟨i + 1, by omega, by simp, fun j hj => ?_, hJ8.out, ag8, th8.out, by omega⟩, by simp [intOf]; omega⟩
        rcases Nat.lt_or_ge j i with h | h
        · exact HG.out j h
        · have : j = i := by omega
          subst this; exact HW.out
      · have hi0 : ∀ z, i64 z = .int .i64 z := fun _ => rfl
        rw [hi0] at hy ⊢
        have hwz : (whyB l (stAt l i) i != 0) = true := by simpa using hw
        have HW := Lib.hid hw
        generalize hz : whyB l (stAt l i) i = z at hy hwz ⊢
        have HZ := Lib.hid hz
        clear hz hw
        rw [hy]
        gi_wp2
        refine HR.out.mono ?_
        rintro e W6 ⟨-, h1, -, -⟩
        obtain ⟨rfl, hD⟩ := h1 HW.out
        have HD := Lib.hid hD
        clear h1 hD HR hy hJ5 ag5 th5 ago5
        gi_wp2_with fail
        refine bodyPost_ret_by (results_none rfl _ _ _) rfl ?_
        exact ⟨⟨_, rfl⟩, .inl ⟨i, hlt, HG.out, HW.out, HD.out⟩⟩
    · have hiN : i = N := by omega
      subst hiN
      gi_wp2_with (first
        | (refine in_load rfl _ _ rfl _ _ _ _ rfl (by assumption) _ rfl rfl (by kernel_rfl) ?_)
        | (refine ⟨trivial, ?_⟩
           gi_at_call 115
           refine (callsIn_wide.2 (home_calls q l (stAt l i) HS.out (HK.out.fine i HG.out hi) _)).mono ?_
           rintro e W7 ⟨rfl, hB7⟩
           have hg7 := grownBy_of_below hB7 (some W.heap.size)
           have hJ7 := Lib.hid (HK.out.grown i _ W7 HJ.out hg7)
           have hs7 := hg7.size
           clear hg7 hB7 ag HJ HTH))
      obtain ⟨fn, tmps, assign, body, hy, hR⟩ := HK.out.ends W7 hJ7.out HG.out (by omega)
      have HR := Lib.hid hR; clear hR
      have hi0 : i64 0 = .int .i64 0 := rfl
      rw [hi0] at hy
      rw [hy]
      gi_wp2
      refine HR.out.mono ?_
      rintro e W8 ⟨rfl, hJ8⟩
      have HJ8 := Lib.hid hJ8
      clear hJ8 HR hy hJ7
      gi_wp2_with fail
      go_end0
      exact ⟨⟨_, rfl⟩, .inr ⟨HG.out, HJ8.out⟩⟩
end Go.Proofs.Ytmbhjfembfidnaa.Un
end
