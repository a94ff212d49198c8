/- Layer 9 (unit): follow: the legs of a plan. Layer 9 (unit): follow. Layer 9 (unit): a plan's steps stay within bounds as long as nothing is against them. Layer 9 (unit): why, as a call. Layer 9 (unit): follow as a contract: a row of its own, or the first way behind which the unit cannot go on, and why. -/
import Derived.Maps.OwnIn
import Derived.Test.YtmbhjfembfidnaaPb9
import Derived.Test.YtmbhjfembfidnaaPb10
import Derived.Test.YtmbhjfembfidnaaPb16
section
namespace Go.Proofs.Ytmbhjfembfidnaa.Un
open Go Go.Proofs.Ytmbhjfembfidnaa.Sx Go.RowKit Go.Shelf
attribute [local go_sem] Oper.semAt_some

def legsCs (l : LL) (i : Nat) : List Value := (List.range i).flatMap fun k => cellsA (legL l (stAt l k) (k : Int))
theorem legsCs_succ (l : LL) (i : Nat) : legsCs l (i + 1) = legsCs l i ++ cellsA (legL l (stAt l i) i) := by
  simp [legsCs, List.range_succ]
/-- the cells of the first i legs of a plan of N ways; of all, if i is N + 1. -/
def planCs (l : LL) (N i : Nat) : List Value := if i ≤ N then legsCs l i else legsCs l N ++ cellsA (homeL l (stAt l N))
theorem planCs_succ (l : LL) {N i : Nat} (h : i < N) : planCs l N (i + 1) = planCs l N i ++ cellsA (legL l (stAt l i) i) := by
  unfold planCs
  rw [if_pos (by omega), if_pos (by omega), legsCs_succ]
theorem planCs_end (l : LL) (N : Nat) : planCs l N (N + 1) = planCs l N N ++ cellsA (homeL l (stAt l N)) := by
  unfold planCs
  rw [if_neg (by omega), if_pos (by omega)]
/-- legs: what it returns. -/
theorem legs_in (n : Nat) (q : Tr) (l : LL) (hs : asSl q.sky = q.sky) (p : Option Addr) (N cap : Nat) (w : World) :
    CallsIn Fence.wide n Try.prog 92 #[tripA q l (stAt l 0), .slice p N cap] w fun e w' => e = .returned (.func (.func 111) #[] #[.pointer (some ⟨w.heap.size, 0, none⟩), .pointer (some ⟨w.heap.size + 1, 0, none⟩)]) ∧
      ∃ w1, New w w1 (tripA q l (stAt l 0)) 18 ∧ w' = w1.alloc (.cells #[.slice p N cap] 35) := by
  refine callsIn_of_wp Try.func92 rfl trivial ?_ rfl
  simp only [Try.ntmps92, List.size_toArray, List.length_cons, List.length_nil, Nat.reduceAdd, Nat.reduceSub, Array.replicate_succ, Array.replicate_zero, List.push_toArray, List.append_toArray, List.nil_append, List.cons_append]
  have HS := Lib.hid hs
  gi_wp2_with (first
    | (refine in_box rfl _ _ rfl (tripA q l (stAt l 0)) 18 rfl (trip_is HS.out) (fun w1 hN1 => ?_)
       have hs1 := hN1.size
       have HN1 := Lib.hid hN1
       clear hN1))
  go_ret
  exact ⟨rfl, w1, HN1.out, rfl⟩
/-- how far follow is. -/
structure Fo (w : World) (q : Tr) (l : LL) (p : Option Addr) (cap N : Nat) (i : Nat) (W : World) : Prop where
  below : Below w.heap.size w W
  size : w.heap.size + 7 ≤ W.heap.size
  trip : AggAt W (w.heap.size + 5) 0 (tripA q l (stAt l 0)) 18
  route : Boxed W (w.heap.size + 6) 35 (.slice p N cap)
  legs : ∃ v, Boxed W (w.heap.size + 1) 39 v ∧ W.ownsRow w.heap.size 51 8 v i (planCs l N i) ∧ ∀ g, v.ownBlock = some g → w.heap.size + 9 < g
  at2 : Boxed W (w.heap.size + 2) 3 (.int .i64 0)
  at3 : Boxed W (w.heap.size + 3) 3 (.int .i64 0)
  at4 : Boxed W (w.heap.size + 4) 30 (.int .i64 0)
theorem Fo.kept {w : World} {q : Tr} {l : LL} {p : Option Addr} {cap N i : Nat} {W W' : World} {r : Nat} (h : Fo w q l p cap N i W) (hg : W.grownBy W' (some r)) (h1 : w.heap.size + 7 ≤ r) (h2 : r ≤ w.heap.size + 9) : Fo w q l p cap N i W' := by
  obtain ⟨a, b, c, d, ⟨v, e1, e2, e3⟩, f, g, k⟩ := h
  have hne : ∀ j, j < 7 → some (w.heap.size + j) ≠ some r := fun j hj e => by injection e with e; omega
  refine ⟨a.grown hg a.size (fun k hk => by injection hk with hk; omega), Nat.le_trans b hg.size, c.kept (hg.block _ (c.lt (by omega)) (hne 5 (by omega))), d.kept hg (hne 6 (by omega)), ⟨v, e1.kept hg (hne 1 (by omega)), e2.kept hg ?_, e3⟩, f.kept hg (hne 2 (by omega)), g.kept hg (hne 3 (by omega)), k.kept hg (hne 4 (by omega))⟩
  cases hv : v.ownBlock with
  | none => exact .inr (by simp)
  | some x => exact .inr (by have := e3 x hv; intro e2; injection e2 with e2; omega)
/-- what a plan may reckon with, in the world in which it begins. -/
structure Ready (w : World) (q : Tr) (l : LL) (p : Option Addr) (R ro N : Nat) : Prop where
  ptr : 0 < N → p = some ⟨R, ro, none⟩
  sky : asSl q.sky = q.sky
  num : nI l 14 = (N : Int)
  few : N ≤ 1000000
  old : 0 < N → R < w.heap.size
  ways : ∀ k : Nat, k < N → AggAt w R (ro + k * 3) (wayVal l k) 3
  fine : ∀ i, Good l i → i ≤ N → Fine l (stAt l i)
  fineW : ∀ i : Nat, i < N → FineW l i
  why : ∀ (i : Nat) W, Below w.heap.size w W → Good l i → i < N → Calls Try.prog 113 #[stepA q l (stAt l i) i] W fun e w' => e = .returned (i64 (whyB l (stAt l i) i)) ∧ Below W.heap.size W w'
/-- what a round leaves alone. -/
def Lets (w : World) (S : Nat) (W W' : World) : Prop := W.heap.size ≤ W'.heap.size ∧ ∀ b, (w.heap.size + 7 ≤ b ∧ b ≤ w.heap.size + 9 ∨ S ≤ b) → b < W.heap.size → W'.heap[b]? = W.heap[b]?
/-- the results of a plan that cannot go on. -/
structure Fs (w : World) (l : LL) (i : Nat) (W : World) : Prop where
  below : Below w.heap.size w W
  at1 : Boxed W (w.heap.size + 1) 39 (.slice none 0 0)
  at2 : Boxed W (w.heap.size + 2) 3 (.int .i64 (i : Int))
  at3 : Boxed W (w.heap.size + 3) 3 (.int .i64 (whyB l (stAt l i) i))
  at4 : Boxed W (w.heap.size + 4) 30 (.int .i64 9)
theorem Fs.kept {w : World} {l : LL} {i : Nat} {W W' : World} {r : Nat} (h : Fs w l i W) (hg : W.grownBy W' (some r)) (h1 : w.heap.size + 7 ≤ r) : Fs w l i W' := by
  obtain ⟨a, b, c, d, e⟩ := h
  have hne : ∀ j, j < 7 → some (w.heap.size + j) ≠ some r := fun j hj e => by injection e with e; omega
  exact ⟨a.grown hg a.size (fun k hk => by injection hk with hk; omega), b.kept hg (hne 1 (by omega)), c.kept hg (hne 2 (by omega)), d.kept hg (hne 3 (by omega)), e.kept hg (hne 4 (by omega))⟩
theorem New.after {w w' : World} {v : Value} {n : Nat} (h : New w w' v n) {b : Nat} (hb : b < w.heap.size) : w'.heap[b]? = w.heap[b]? := (h.grown none).block b hb (by simp)
set_option maxHeartbeats 1000000 in
theorem range_legs {n : Nat} {g : Operand} {ps : Array Tmp} {assign body : Code} {Q : Exit → Act → World → Prop} {a : Act} {w W : World} (h1 : 2 ≤ n) {q : Tr} {l : LL} {p : Option Addr} {R ro cap N : Nat} (K : Ready w q l p R ro N)
    (hW : W.heap.size = w.heap.size + 7) (hg : a.eval g = .func (.func 111) #[] #[.pointer (some ⟨w.heap.size + 5, 0, none⟩), .pointer (some ⟨w.heap.size + 6, 0, none⟩)]) (hps : ps.size = 2)
    (h0 : Fo w q l p cap N 0 W) (a₁ : Nat → Value → Value → Act)
    (hassign : ∀ (x y : Value) (V : World) (K : Act → World → Prop), IsAgg x 8 → (∀ V1, New V V1 x 8 → K (a₁ V.heap.size x y) V1) →
      assign.wpIn (Fence.wide.inRound (w.heap.size + 8)) (n - 1 - 1) Try.prog (Exit.then K (fun _ _ _ => False)) { tmps := (ps.zip #[x, y]).foldl (fun t (p, v) => t.setIfInBounds p v) a.tmps, defers := [] } V)
    (hgood : ∀ (i B S : Nat) (x0 x1 x2 x3 x4 x5 x6 x7 : Int) (V : World), i ≤ N → planCs l N (i + 1) = planCs l N i ++ cellsA (e8 x0 x1 x2 x3 x4 x5 x6 x7) → Fo w q l p cap N i V → AggAt V B 0 (legVal (e8 x0 x1 x2 x3 x4 x5 x6 x7)) 8 → w.heap.size + 9 < V.heap.size → w.heap.size + 9 < S →
      (∀ v, Boxed V (w.heap.size + 1) 39 v → ∀ g, v.ownBlock = some g → g < S) →
      body.wpIn (Fence.wide.inRound (w.heap.size + 8)) (n - 1 - 1) Try.prog (fun e _ V' => e = .normal ∧ Fo w q l p cap N (i + 1) V' ∧ Lets w S V V') (a₁ B (legVal (e8 x0 x1 x2 x3 x4 x5 x6 x7)) (.int .i64 0)) V)
    (hbad : ∀ (i B : Nat) (x : Value) (z : Int) (V : World), i < N → whyB l (stAt l i) i = z → z ≠ 0 → Fo w q l p cap N i V →
      body.wpIn (Fence.wide.inRound (w.heap.size + 8)) (n - 1 - 1) Try.prog (fun e _ V' => e = .ret ∧ Fs w l i V' ∧ Lets w (w.heap.size + 7) V V') (a₁ B x (.int .i64 z)) V)
    (hdone : ∀ V, Good l N → Fo w q l p cap N (N + 1) V → V.heap[w.heap.size + 7]? = some (.deferred (some [])) → Q .normal { a with defers := { target := .collected (w.heap.size + 7), args := #[] } :: a.defers } V)
    (hstop : ∀ (i : Nat) V, i < N → Good l i → whyB l (stAt l i) i ≠ 0 → Fs w l i V → V.heap[w.heap.size + 7]? = some (.deferred (some [])) → Code.ret.wpIn Fence.wide n Try.prog Q { a with defers := { target := .collected (w.heap.size + 7), args := #[] } :: a.defers } V) :
    (Code.rangeFunc g ps assign body).wpIn Fence.wide n Try.prog Q a W := by
  refine wpIn_rangeFunc ?_
  intro fn hfn
  obtain ⟨rec, hrec⟩ : ∃ rec : LoopState → Option Code → Loop, rec = fun st p => { state := st, pending := p, fn, tmps := a.tmps, params := ps, assign, body, defers := W.heap.size } := ⟨_, rfl⟩
  obtain ⟨W1, hW1⟩ : ∃ W1, (W.alloc (.deferred (some []))).alloc (.loop (rec .ready none)) = W1 := ⟨_, rfl⟩
  have hs1 : W1.heap.size = w.heap.size + 9 := by rw [← hW1]; simp; omega
  have hL1 : W1.heap[w.heap.size + 8]? = some (.loop (rec .ready none)) := by
    rw [← hW1]
    have := World.alloc_heap_new (W.alloc (.deferred (some []))) (.loop (rec .ready none))
    rwa [World.size_alloc, hW] at this
  have hK1 : W1.heap[w.heap.size + 7]? = some (.deferred (some [])) := by
    rw [← hW1, ← hW]
    exact (Below.heap_alloc _ _ _ (by simp)).trans (World.alloc_heap_new W _)
  have hg1 : ∀ r, W.grownBy W1 r := fun r => by
    rw [← hW1]; exact (World.grownBy_alloc W _ _).trans (World.grownBy_alloc _ _ _)
  let J : Nat → World → Prop := fun i V => Fo w q l p cap N i V ∧ V.heap[w.heap.size + 8]? = some (.loop (rec .ready none)) ∧ V.heap[w.heap.size + 7]? = some (.deferred (some []))
  let D : Nat → World → Prop := fun i V => Fs w l i V ∧ V.heap[w.heap.size + 8]? = some (.loop (rec .done (some .ret))) ∧ V.heap[w.heap.size + 7]? = some (.deferred (some []))
  have hpz : ∀ (V : World) (b : Nat) (o : Obj), V.heap.size ≤ (V.putObj b o).heap.size := fun V b o => (grownBy_putObj' V b o).size
  have hround : ∀ (i S : Nat) (x0 x1 x2 x3 x4 x5 x6 x7 : Int) (V : World), i ≤ N → planCs l N (i + 1) = planCs l N i ++ cellsA (e8 x0 x1 x2 x3 x4 x5 x6 x7) → J i V → w.heap.size + 9 < S → S ≤ V.heap.size →
      (∀ v, Boxed V (w.heap.size + 1) 39 v → ∀ g, v.ownBlock = some g → g < S) →
      YieldAt Fence.wide (n - 1 - 1) Try.prog (w.heap.size + 8) #[legVal (e8 x0 x1 x2 x3 x4 x5 x6 x7), .int .i64 0] V fun e V' => e = .returned (.bool true) ∧ J (i + 1) V' ∧ V.heap.size ≤ V'.heap.size ∧ ∀ b, (b = w.heap.size + 9 ∨ S ≤ b) → b < V.heap.size → V'.heap[b]? = V.heap[b]? := by
    rintro i S x0 x1 x2 x3 x4 x5 x6 x7 V hi hp ⟨hF, hl, hk⟩ hS hSV hown
    have hy := run_yield (P := Try.prog) (args := #[legVal (e8 x0 x1 x2 x3 x4 x5 x6 x7), .int .i64 0]) hl (by rw [hrec]; exact hps.symm)
    rw [hrec] at hy
    refine ⟨fn, _, assign, body, hy, roundIn_of_wpIn hfn (hassign _ _ V _ ⟨cellsA (e8 x0 x1 x2 x3 x4 x5 x6 x7), rfl, rfl, leg_cells _⟩ fun V1 hN => ?_)⟩
    have hsz := hN.size
    have hl1 := (hN.after (by omega)).trans hl
    obtain ⟨V2, hV2⟩ : ∃ V2, V1.putObj (w.heap.size + 8) (.loop { rec .ready none with state := .busy }) = V2 := ⟨_, rfl⟩
    have hlt1 : w.heap.size + 8 < V1.heap.size := by omega
    have hl2 : V2.heap[w.heap.size + 8]? = some (.loop { rec .ready none with state := .busy }) := by rw [← hV2]; exact World.putObj_heap_same hlt1
    have ho2 : ∀ b, b ≠ w.heap.size + 8 → V2.heap[b]? = V1.heap[b]? := fun b hb => by rw [← hV2]; exact World.putObj_heap_other hb
    have hg2 : V1.grownBy V2 (some (w.heap.size + 8)) := by rw [← hV2]; exact grownBy_putObj' _ _ _
    have hF1 := hF.kept (hN.grown (some (w.heap.size + 8))) (by omega) (by omega)
    have hF2 := hF1.kept hg2 (by omega) (by omega)
    refine ⟨V2, by rw [← hV2]; exact run_beginRound hl1 (by rw [hrec]), wpIn_mono (hgood i V.heap.size S x0 x1 x2 x3 x4 x5 x6 x7 V2 hi hp hF2 (hN.here.kept (ho2 _ (by omega))) (by have := hg2.size; have := (Array.getElem?_eq_some_iff.1 hl).1; omega) hS (fun v hb g hv => ?_)) ?_⟩
    · refine hown v ?_ g hv
      have e1 : V2.heap[w.heap.size + 1]? = V.heap[w.heap.size + 1]? := (ho2 _ (by omega)).trans (hN.after (by omega))
      exact e1.symm.trans hb
    · rintro e a3 V3 ⟨rfl, hF3, hz3, hv3⟩
      have hl3 := (hv3 (w.heap.size + 8) (.inl ⟨by omega, by omega⟩) (by have := hg2.size; omega)).trans hl2
      have hr3 := run_endRound (P := Try.prog) none hl3
      have hlt3 : w.heap.size + 8 < V3.heap.size := (Array.getElem?_eq_some_iff.1 hl3).1
      have hsz2 := hg2.size
      refine ⟨_, _, hr3, rfl, ⟨hF3.kept (grownBy_putObj' _ _ _) (by omega) (by omega), ?_, ?_⟩, ?_, fun b hb hb2 => ?_⟩
      · rw [World.putObj_heap_same hlt3, hrec]; rfl
      · rw [World.putObj_heap_other (by omega), hv3 _ (.inl ⟨by omega, by omega⟩) (by omega), ho2 _ (by omega), hN.after (by omega)]; exact hk
      · exact Nat.le_trans (by omega) (hpz V3 _ _)
      · rw [World.putObj_heap_other (by omega), hv3 b (hb.elim (fun e => .inl ⟨by omega, by omega⟩) .inr) (by omega), ho2 _ (by omega), hN.after (by omega)]
  have hbadR : ∀ (i : Nat) (x : Value) (z : Int) (V : World), i < N → whyB l (stAt l i) i = z → z ≠ 0 → IsAgg x 8 → J i V →
      YieldAt Fence.wide (n - 1 - 1) Try.prog (w.heap.size + 8) #[x, .int .i64 z] V fun e V' => e = .returned (.bool false) ∧ D i V' ∧ V.heap.size ≤ V'.heap.size ∧ ∀ b, w.heap.size + 9 ≤ b → b < V.heap.size → V'.heap[b]? = V.heap[b]? := by
    rintro i x z V hi hwz hz hx ⟨hF, hl, hk⟩
    have hy := run_yield (P := Try.prog) (args := #[x, .int .i64 z]) hl (by rw [hrec]; exact hps.symm)
    rw [hrec] at hy
    refine ⟨fn, _, assign, body, hy, roundIn_of_wpIn hfn (hassign _ _ V _ hx fun V1 hN => ?_)⟩
    have hsz := hN.size
    have hsV : w.heap.size + 8 < V.heap.size := (Array.getElem?_eq_some_iff.1 hl).1
    have hl1 := (hN.after (by omega)).trans hl
    obtain ⟨V2, hV2⟩ : ∃ V2, V1.putObj (w.heap.size + 8) (.loop { rec .ready none with state := .busy }) = V2 := ⟨_, rfl⟩
    have hlt1 : w.heap.size + 8 < V1.heap.size := by omega
    have hl2 : V2.heap[w.heap.size + 8]? = some (.loop { rec .ready none with state := .busy }) := by rw [← hV2]; exact World.putObj_heap_same hlt1
    have ho2 : ∀ b, b ≠ w.heap.size + 8 → V2.heap[b]? = V1.heap[b]? := fun b hb => by rw [← hV2]; exact World.putObj_heap_other hb
    have hg2 : V1.grownBy V2 (some (w.heap.size + 8)) := by rw [← hV2]; exact grownBy_putObj' _ _ _
    have hF1 := hF.kept (hN.grown (some (w.heap.size + 8))) (by omega) (by omega)
    have hF2 := hF1.kept hg2 (by omega) (by omega)
    refine ⟨V2, by rw [← hV2]; exact run_beginRound hl1 (by rw [hrec]), wpIn_mono (hbad i V.heap.size x z V2 hi hwz hz hF2) ?_⟩
    rintro e a3 V3 ⟨rfl, hF3, hz3, hv3⟩
    have hsz2 := hg2.size
    have hl3 := (hv3 (w.heap.size + 8) (.inl ⟨by omega, by omega⟩) (by omega)).trans hl2
    have hr3 := run_endRound (P := Try.prog) (some .ret) hl3
    have hlt3 : w.heap.size + 8 < V3.heap.size := (Array.getElem?_eq_some_iff.1 hl3).1
    refine ⟨_, _, hr3, rfl, ⟨hF3.kept (grownBy_putObj' _ _ _) (by omega), ?_, ?_⟩, ?_, fun b hb hb2 => ?_⟩
    · rw [World.putObj_heap_same hlt3, hrec]; rfl
    · rw [World.putObj_heap_other (by omega), hv3 _ (.inl ⟨by omega, by omega⟩) (by omega), ho2 _ (by omega), hN.after (by omega)]; exact hk
    · exact Nat.le_trans (by omega) (hpz V3 _ _)
    · rw [World.putObj_heap_other (by omega), hv3 b (.inr (by omega)) (by omega), ho2 _ (by omega), hN.after (by omega)]
  have hsame : ∀ i W0 V, J i W0 → W0.grownBy V none → ∀ v, Boxed V (w.heap.size + 1) 39 v → ∀ g, v.ownBlock = some g → g < W0.heap.size := fun i W0 V h0 hg v hv g hgv => by
    obtain ⟨v0, b0, r0, -⟩ := h0.1.legs
    have e1 : Boxed V (w.heap.size + 1) 39 v0 := b0.kept hg (by simp)
    have e2 : v = v0 := by
      have := hv.symm.trans e1
      injection this with this; injection this with this
      simpa using this
    subst e2
    obtain ⟨-, ⟨e3, -⟩ | ⟨g', c', cur, e3, -, h4, -⟩⟩ := r0
    · subst e3; cases hgv
    · subst e3
      injection hgv with hgv
      subst hgv
      exact (Array.getElem?_eq_some_iff.1 h4).1
  have hP : Plans J D (n - 1) (w.heap.size + 8) (w.heap.size + 5) (w.heap.size + 6) R ro cap N (w.heap.size + 9) p q l := {
    sky := K.sky, num := K.num, few := K.few, old := ⟨by omega, by omega⟩, ptr := K.ptr
    grown := fun i V V' h hg => ⟨h.1.kept hg (by omega) (by omega), (hg.block _ (Array.getElem?_eq_some_iff.1 h.2.1).1 (by intro e; injection e with e; omega)).trans h.2.1,
      (hg.block _ (Array.getElem?_eq_some_iff.1 h.2.2).1 (by intro e; injection e with e; omega)).trans h.2.2⟩
    size := fun i V h => by have := (Array.getElem?_eq_some_iff.1 h.2.1).1; omega
    trip := fun i V h => h.1.trip
    route := fun i V h => h.1.route.cell
    ways := fun i V h k hk => (K.ways k hk).kept (h.1.below.block R (K.old (by omega)))
    fine := K.fine, fineW := K.fineW
    why := fun i V h hG hi => K.why i V h.1.below hG hi
    goes := fun i W0 V h0 hg hT hJ hG hi => by
      by_cases hz : whyB l (stAt l i) i = 0
      · obtain ⟨f', t', as', bd', hy, hr⟩ := hround i W0.heap.size _ _ _ _ _ _ _ _ V (by omega) (planCs_succ l hi) hJ hT hg.size (hsame i W0 V h0 hg)
        rw [hz]
        exact ⟨f', t', as', bd', hy, hr.mono fun e V' h => ⟨fun _ => ⟨h.1, h.2.1⟩, fun hh => absurd rfl hh, h.2.2.1, h.2.2.2⟩⟩
      · obtain ⟨f', t', as', bd', hy, hr⟩ := hbadR i (legVal (legL l (stAt l i) i)) _ V hi rfl hz (legV_is _ _ _) hJ
        exact ⟨f', t', as', bd', hy, hr.mono fun e V' h => ⟨fun hh => absurd hh hz, fun _ => ⟨h.1, h.2.1⟩, h.2.2.1, fun b hb hb2 => h.2.2.2 b (hb.elim (fun e => by omega) (fun e => by omega)) hb2⟩⟩
    ends := fun V hJ hG hT => by
      obtain ⟨f', t', as', bd', hy, hr⟩ := hround N V.heap.size _ _ _ _ _ _ _ _ V (Nat.le_refl _) (planCs_end l N) hJ hT (Nat.le_refl _) (hsame N V V hJ (World.grownBy.refl V _))
      exact ⟨f', t', as', bd', hy, hr.mono fun e V' h => ⟨h.1, h.2.1⟩⟩ }
  refine ⟨w.heap.size + 8, [{ target := .collected (w.heap.size + 7), args := #[] }], W1, { target := .fn (.func 111) #[.pointer (some ⟨w.heap.size + 5, 0, none⟩), .pointer (some ⟨w.heap.size + 6, 0, none⟩)], args := #[.func (.yield (w.heap.size + 8)) #[] #[]] }, W1, 111,
    #[.func (.yield (w.heap.size + 8)) #[] #[], .pointer (some ⟨w.heap.size + 5, 0, none⟩), .pointer (some ⟨w.heap.size + 6, 0, none⟩)], W1, ?_, ?_, ?_, ?_, fun _ => by omega, ?_⟩
  · have := run_enterLoop_outer (P := Try.prog) (w := W) fn a.tmps ps assign body
    rw [hW] at this
    rw [← hW1, hrec, hW]; exact this
  · simp only [resolve, hg]
    simp [go_sem]
  · intro f' hf'
    trivial
  · have := enters_of (P := Try.prog) Try.func111 (by kernel_rfl) rfl
    simp [invoke, go_sem]
  · refine (legs1_in (n - 1) (by omega) hP W1 hs1.symm ⟨h0.kept (hg1 (some (w.heap.size + 8))) (by omega) (by omega), hL1, hK1⟩).mono ?_
    rintro e V ⟨⟨v, rfl⟩, ⟨i, hi, hG, hw, hD⟩ | ⟨hG, hJ⟩⟩
    · exact ⟨some .ret, _, by have := run_endLoop (P := Try.prog) hD.2.1 (by rw [hrec]; simp); rw [hrec] at this; exact this, hstop i _ hi hG hw (hD.1.kept (grownBy_putObj' _ _ _) (by omega)) ((World.putObj_heap_other (by omega)).trans hD.2.2)⟩
    · exact ⟨none, _, by have := run_endLoop (P := Try.prog) hJ.2.1 (by rw [hrec]; simp); rw [hrec] at this; exact this, hdone _ hG (hJ.1.kept (grownBy_putObj' _ _ _) (by omega) (by omega)) ((World.putObj_heap_other (by omega)).trans hJ.2.2)⟩
theorem row_succ {W : World} {base : Nat} {e : TypeId} {size : Nat} {v : Value} {n : Nat} {xs : List Value} (h : W.ownsRow base e size v (n + 1) xs) : ∃ g cap, v = .slice (some ⟨g, 0, none⟩) (n + 1) cap := by
  obtain ⟨-, ⟨-, h⟩ | ⟨g, cap, cur, h, -⟩⟩ := h
  · omega
  · exact ⟨g, cap, h⟩
theorem news_new (V : World) (c : List Value) (ty : TypeId) : ∀ (j : Nat) (u : Value), c[j]? = some u → (V.alloc (.cells c.toArray ty)).cell? ((⟨V.heap.size, 0, none⟩ : Addr).add j) = some u := fun j u hj => by
  obtain ⟨c', h1, -, h3⟩ := (new_alloc V c ty rfl).here
  have : c' = c := by injection h1 with h1; simpa using h1.symm
  subst this
  rw [Addr.add_mid]
  exact h3 j u hj
theorem loadVar_one {P : Program} {w : World} {t : TypeId} {d : TypeDesc} {b : Nat} {v : Value} (hu : P.underlying t = some d) (hd : d.isRow = false) (hc : w.cell? ⟨b, 0, none⟩ = some v) : (loadVar t ⟨b, 0, none⟩).run P w = .ok v w := by
  have h : (isAgg t).run P w = .ok false w := by
    unfold isAgg
    rw [Sem.run_bind, run_underlying hu w]
    cases d <;> simp_all
  simp [loadVar, Sem.run_bind, h, go_sem, hc]
theorem results_four {P : Program} {fn : Func} {tmps : Array Value} {w : World} {p0 p1 p2 p3 : Tmp} {t0 t1 t2 t3 : TypeId} {b0 b1 b2 b3 : Nat} {v0 v1 v2 v3 : Value} (h : fn.results = #[.cell p0 t0, .cell p1 t1, .cell p2 t2, .cell p3 t3])
    (h0 : tmps.getD p0 undef = .pointer (some ⟨b0, 0, none⟩)) (h1 : tmps.getD p1 undef = .pointer (some ⟨b1, 0, none⟩)) (h2 : tmps.getD p2 undef = .pointer (some ⟨b2, 0, none⟩)) (h3 : tmps.getD p3 undef = .pointer (some ⟨b3, 0, none⟩))
    (c0 : (loadVar t0 ⟨b0, 0, none⟩).run P w = .ok v0 w) (c1 : (loadVar t1 ⟨b1, 0, none⟩).run P w = .ok v1 w) (c2 : (loadVar t2 ⟨b2, 0, none⟩).run P w = .ok v2 w) (c3 : (loadVar t3 ⟨b3, 0, none⟩).run P w = .ok v3 w) :
    (results fn tmps).run P w = .ok (.tuple #[v0, v1, v2, v3]) w := by
  simp only [results, h]
  simp only [Array.getD_eq_getD_getElem?] at h0 h1 h2 h3
  simp [Sem.run_bind, h0, h1, h2, h3, asAddr, c0, c1, c2, c3]
end Go.Proofs.Ytmbhjfembfidnaa.Un
end
section
namespace Go.Proofs.Ytmbhjfembfidnaa.Un
open Go Go.Proofs.Ytmbhjfembfidnaa.Sx Go.RowKit Go.Shelf
attribute [local go_sem] Oper.semAt_some

/-- what follow comes to. -/
def Followed (l : LL) (N : Nat) (w : World) (e : Ending) (w' : World) : Prop := Below w.heap.size w w' ∧
  ((Good l N ∧ ∃ v, e = .returned (.tuple #[v, i64 (-1), i64 0, i64 0]) ∧ w'.ownsRow w.heap.size 51 8 v (N + 1) (planCs l N (N + 1))) ∨
   ∃ i : Nat, i < N ∧ Good l i ∧ whyB l (stAt l i) i ≠ 0 ∧ e = .returned (.tuple #[.slice none 0 0, i64 i, i64 (whyB l (stAt l i) i), i64 9]))
set_option maxRecDepth 100000 in
set_option maxHeartbeats 4000000 in
theorem follow_in (q : Tr) (l : LL) (p : Option Addr) (R ro cap N : Nat) (w : World) (K : Ready w q l p R ro N) :
    CallsIn Fence.wide 6 Try.prog 64 #[tripA q l (stAt l 0), .slice p N cap] w (Followed l N w) := by
  have h1 : 1 ≤ 6 := by omega
  refine callsIn_of_wp_marks Try.func64 rfl trivial ?_ rfl
  simp only [Try.ntmps64, List.size_toArray, List.length_cons, List.length_nil, Nat.reduceAdd, Nat.reduceSub, Array.replicate_succ, Array.replicate_zero, List.push_toArray, List.append_toArray, List.nil_append, List.cons_append]
  have HS := Lib.hid K.sky
  have HK := Lib.hid K
  clear K
  gi_wp2_with (first
    | (refine in_box rfl _ _ rfl (tripA q l (stAt l 0)) 18 rfl (trip_is HS.out) (fun w1 hN1 => ?_)
       have hs1 := hN1.size
       have ag1 := hN1.here
       have HN1 := Lib.hid hN1
       have ag1' : ∀ o1 o2 o3 o4 : Obj, AggAt ((((w1.alloc o1).alloc o2).alloc o3).alloc o4) w.heap.size 0 (tripA q l (stAt l 0)) 18 := fun o1 o2 o3 o4 => by
         have hb := fun (W : World) (o : Obj) (h : w.heap.size < W.heap.size) => Below.heap_alloc W o w.heap.size h
         exact (((ag1.kept (hb w1 o1 (by omega))).kept (hb _ o2 (by simp; omega))).kept (hb _ o3 (by simp; omega))).kept (hb _ o4 (by simp; omega))
       clear hN1 ag1)
    | (refine in_load rfl _ _ rfl _ _ _ _ rfl (ag1' _ _ _ _) _ rfl rfl (by kernel_rfl) ?_)
    | (refine ⟨trivial, ?_⟩; gi_at_call 92; refine (legs_in _ q l HS.out p N cap _).mono ?_; rintro e w' ⟨rfl, w2, hN2, rfl⟩; have HN2 := Lib.hid hN2; clear hN2))
  obtain ⟨W, hW⟩ : ∃ W, w2.alloc (.cells #[.slice p N cap] 35) = W := ⟨_, rfl⟩
  have hn1 : ∀ (V : World) (o : Obj) (b : Nat), b < V.heap.size → (V.alloc o).heap[b]? = V.heap[b]? := fun V o b h => Below.heap_alloc V o b h
  have hz2 := HN2.out.size
  simp only [World.size_alloc] at hz2
  have hWs : W.heap.size = w.heap.size + 7 := by rw [← hW]; simp; omega
  have hB : Below w.heap.size w W := by
    have b0 : Below w.heap.size w w1 := (Below.refl _ w).grown (HN1.out.grown none) (Nat.le_refl _) (by simp)
    have b1 := (((b0.alloc (by omega) (.cells #[Value.slice none 0 0] 39)).alloc (by simp; omega) (.cells #[Value.int IntKind.i64 0] 3)).alloc (by simp; omega) (.cells #[Value.int IntKind.i64 0] 3)).alloc (by simp; omega) (.cells #[Value.int IntKind.i64 0] 30)
    have b2 := b1.grown (HN2.out.grown none) (by simp; omega) (by simp)
    rw [← hW]; exact b2.alloc (by omega) _
  have HF : Hid (Fo w q l p cap N 0 W) := by
    refine Lib.hid ⟨hB, by omega, ?_, ?_, ⟨.slice none 0 0, ?_, ⟨by simp [planCs, legsCs], .inl ⟨rfl, rfl⟩⟩, by intro g h; cases h⟩, ?_, ?_, ?_⟩
    · have := HN2.out.here
      simp only [World.size_alloc, hs1] at this
      rw [← hW]; exact this.kept (hn1 _ _ _ (by omega))
    · have := Boxed.new w2 35 (.slice p N cap)
      rw [hW, show w2.heap.size = w.heap.size + 6 by omega] at this; exact this
    · have := Boxed.new w1 39 (.slice none 0 0)
      rw [hs1] at this
      have h2 := (((this.alloc (.cells #[Value.int IntKind.i64 0] 3)).alloc (.cells #[Value.int IntKind.i64 0] 3)).alloc (.cells #[Value.int IntKind.i64 0] 30)).kept (HN2.out.grown none) (by simp)
      rw [← hW]; exact h2.alloc _
    · have := Boxed.new (w1.alloc (.cells #[Value.slice none 0 0] 39)) 3 (.int .i64 0)
      simp only [World.size_alloc, hs1] at this
      have h2 := ((this.alloc (.cells #[Value.int IntKind.i64 0] 3)).alloc (.cells #[Value.int IntKind.i64 0] 30)).kept (HN2.out.grown none) (by simp)
      rw [← hW]; exact h2.alloc _
    · have := Boxed.new ((w1.alloc (.cells #[Value.slice none 0 0] 39)).alloc (.cells #[Value.int IntKind.i64 0] 3)) 3 (.int .i64 0)
      simp only [World.size_alloc, hs1] at this
      have h2 := (this.alloc (.cells #[Value.int IntKind.i64 0] 30)).kept (HN2.out.grown none) (by simp)
      rw [← hW]; exact h2.alloc _
    · have := Boxed.new (((w1.alloc (.cells #[Value.slice none 0 0] 39)).alloc (.cells #[Value.int IntKind.i64 0] 3)).alloc (.cells #[Value.int IntKind.i64 0] 3)) 30 (.int .i64 0)
      simp only [World.size_alloc, hs1] at this
      have h2 := this.kept (HN2.out.grown none) (by simp)
      rw [← hW]; exact h2.alloc _
  rw [hW]
  simp only [Nat.add_assoc, Nat.reduceAdd]
  clear hn1 hz2 hB hW HN2 HN1 ag1' hs1
  refine range_legs (by omega) HK.out hWs rfl rfl HF.out (fun b x y => { tmps := #[tripA q l (stAt l 0), .slice p N cap, .pointer (some ⟨w.heap.size, 0, none⟩), undef, .pointer (some ⟨w.heap.size + 1, 0, none⟩), .pointer (some ⟨w.heap.size + 2, 0, none⟩), .pointer (some ⟨w.heap.size + 3, 0, none⟩), .pointer (some ⟨w.heap.size + 4, 0, none⟩), .pointer (some ⟨b, 0, none⟩), y, tripA q l (stAt l 0), .slice p N cap,
    .func (.func 111) #[] #[.pointer (some ⟨w.heap.size + 5, 0, none⟩), .pointer (some ⟨w.heap.size + 6, 0, none⟩)], x, y, undef, undef, undef, undef, undef, undef, undef, undef, undef, undef], defers := [] }) ?hassign ?hgood ?hbad ?hdone ?hstop
  case hassign =>
    intro x y V K hx hK
    obtain ⟨HX⟩ : Nonempty (Hid (IsAgg x 8)) := ⟨Lib.hid hx⟩
    gi_wp2_with (first
      | (refine in_store rfl _ _ _ rfl _ x 8 rfl rfl HX.out (there_new V _ _ rfl) (by kernel_rfl) (fun V1 hS1 => ?_)
         have hN := hK V1 ⟨fun r => hS1.fresh r, hS1.fresh_size, hS1.here, hS1.free⟩
         have HNw : Hid (New V V1 x 8) := Lib.hid ⟨fun r => hS1.fresh r, hS1.fresh_size, hS1.here, hS1.free⟩
         clear hS1))
    exact HNw.out
  case hgood =>
    intro i B S x0 x1 x2 x3 x4 x5 x6 x7 V hi hp hF hag hVs hS hown
    have hag2 : AggAt V B 0 (.agg #[i64 x0, i64 x1, i64 x2, i64 x3, i64 x4, i64 x5, i64 x6, i64 x7]) 8 := hag
    obtain ⟨v, hb1, hrow, hlow⟩ := hF.legs
    have cv := hb1.cell
    have HFV := Lib.hid hF; have HB1 := Lib.hid hb1; have HROW := Lib.hid hrow; have HLOW := Lib.hid hlow; have HOWN := Lib.hid hown; have HP := Lib.hid hp
    have hN := HK.out.few
    clear hF hb1 hrow hlow hown hp hag
    obtain ⟨i0, hinf, hz0, hz1, hz2⟩ : ∃ i0, Try.prog.info? 51 = some i0 ∧ i0.zero = some (.agg #[.int .i64 0, .int .i64 0, .int .i64 0, .int .i64 0, .int .i64 0, .int .i64 0, .int .i64 0, .int .i64 0]) ∧ i0.size = 8 ∧ i0.bytes = 64 := ⟨_, by rfl, by rfl, by rfl, by rfl⟩
    gi_wp2_with (first
      | (refine in_load rfl _ _ rfl _ _ _ _ rfl (by assumption) _ rfl rfl (by kernel_rfl) ?_)
      | (gi_at_builtin; go_loud (refine wpListIn_append_own_at _ rfl _ _ 39 rfl w.heap.size 51 i0 (.agg #[.int .i64 0, .int .i64 0, .int .i64 0, .int .i64 0, .int .i64 0, .int .i64 0, .int .i64 0, .int .i64 0]) 8 64 Try.underlying39 hinf hz0 hz1 hz2 rfl (by decide) _ _ _ rfl (HROW.out.alloc _) ⟨V.heap.size, 0, none⟩ 1 1 [i64 x0, i64 x1, i64 x2, i64 x3, i64 x4, i64 x5, i64 x6, i64 x7] rfl rfl (news_new V _ _) ?c2 ?c3 ?c4 ?c5 ?_)))
    case c2 =>
      intro u hu
      simp only [List.mem_cons, List.not_mem_nil, or_false] at hu
      rcases hu with rfl | rfl | rfl | rfl | rfl | rfl | rfl | rfl <;> rfl
    case c3 => unfold maxLen; omega
    case c4 => omega
    case c5 => simp; omega
    intro v' w' hrow2 hg2 hnil hob
    have HROW2 := Lib.hid hrow2; have HG2 := Lib.hid hg2; have HOB := Lib.hid hob
    clear hrow2 hg2 hnil hob
    obtain ⟨g2, cap2, rfl⟩ := row_succ HROW2.out
    have hlow2 : w.heap.size + 9 < g2 := by
      rcases HOB.out with e | e
      · exact HLOW.out g2 e.symm
      · injection e with e; have e2 : g2 = V.heap.size + 1 := e; omega
    have hz := HG2.out.size
    rw [World.size_alloc] at hz
    have hne1 : some (w.heap.size + 1) ≠ v.ownBlock := by
      intro e
      have := HLOW.out _ e.symm
      omega
    have hb2 : Boxed w' (w.heap.size + 1) 39 v := (HB1.out.alloc _).kept HG2.out hne1
    have HB2 := Lib.hid hb2
    have cb2 := hb2.cell
    have zb2 := hb2.frozen
    have hkeep : Hid (∀ b, b < V.heap.size → some b ≠ v.ownBlock → b ≠ w.heap.size + 1 → (w'.setCell ⟨w.heap.size + 1, 0, none⟩ (.slice (some ⟨g2, 0, none⟩) (i + 1) cap2)).heap[b]? = V.heap[b]?) := Lib.hid fun b h1 h2 h3 => by
      rw [Below.heap_setCell _ _ _ _ (by show b ≠ w.heap.size + 1; exact h3), HG2.out.block b (by rw [World.size_alloc]; omega) h2]
      exact Below.heap_alloc V _ b h1
    clear hb2
    gi_wp2_with fail
    have hgs : w'.grownBy (w'.setCell ⟨w.heap.size + 1, 0, none⟩ (.slice (some ⟨g2, 0, none⟩) (i + 1) cap2)) (some (w.heap.size + 1)) := ⟨rfl, rfl, rfl, by simp [World.setCell], fun k _ hk => Below.heap_setCell _ _ _ _ (by intro e; exact hk (by rw [e]))⟩
    have hzs : (w'.setCell ⟨w.heap.size + 1, 0, none⟩ (.slice (some ⟨g2, 0, none⟩) (i + 1) cap2)).heap.size = w'.heap.size := by simp [World.setCell]
    have hx : ∀ j, j < 10 → some (w.heap.size + j) ≠ v.ownBlock := fun j hj e => by have := HLOW.out _ e.symm; omega
    have hF := HFV.out
    have hbx : ∀ (j : Nat) (t : TypeId) (u : Value), j < 10 → j ≠ 1 → Boxed V (w.heap.size + j) t u → Boxed (w'.setCell ⟨w.heap.size + 1, 0, none⟩ (.slice (some ⟨g2, 0, none⟩) (i + 1) cap2)) (w.heap.size + j) t u := fun j t u h1 h2 h3 => by
      exact (hkeep.out (w.heap.size + j) (by omega) (hx j h1) (by omega)).trans h3
    have hbl : Below w.heap.size w (w'.setCell ⟨w.heap.size + 1, 0, none⟩ (.slice (some ⟨g2, 0, none⟩) (i + 1) cap2)) := by
      have b1 := (hF.below.alloc (by omega) (.cells #[i64 x0, i64 x1, i64 x2, i64 x3, i64 x4, i64 x5, i64 x6, i64 x7] 51)).grown HG2.out (by rw [World.size_alloc]; omega) (fun k hk => by have := HLOW.out k hk; omega)
      exact b1.grown hgs (by omega) (fun k hk => by injection hk with hk; omega)
    refine ⟨⟨hbl, by omega, hF.trip.kept (hkeep.out _ (by omega) (hx 5 (by omega)) (by omega)), hbx 6 _ _ (by omega) (by omega) hF.route, ⟨_, HB2.out.set _, ?_, fun g hg => ?_⟩, hbx 2 _ _ (by omega) (by omega) hF.at2, hbx 3 _ _ (by omega) (by omega) hF.at3, hbx 4 _ _ (by omega) (by omega) hF.at4⟩, ?_, fun b hb hb2 => ?_⟩
    · rw [HP.out]
      exact HROW2.out.kept hgs (.inr (by intro e; simp [Value.ownBlock] at e; omega))
    · injection hg with hg; subst hg; exact hlow2
    · omega
    · refine hkeep.out b hb2 (fun e => ?_) (by omega)
      have h3 := HLOW.out b e.symm
      have h4 := HOWN.out v HB1.out b e.symm
      omega
  case hbad =>
    intro i B x z V hi hw hz hF
    obtain ⟨v, hb1, hrow, hlow⟩ := hF.legs
    have hzz : (z != 0) = true := by simpa using hz
    have HFV := Lib.hid hF; have HW := Lib.hid hw; have HZ := Lib.hid hz
    have hb2 := hF.at2; have hb3 := hF.at3; have hb4 := hF.at4
    have c1 := hb1.cell; have c2 := hb2.cell; have c3 := hb3.cell; have c4 := hb4.cell
    have z1 := hb1.frozen; have z2 := hb2.frozen; have z3 := hb3.frozen; have z4 := hb4.frozen
    have HB1 := Lib.hid hb1; have HB2 := Lib.hid hb2; have HB3 := Lib.hid hb3; have HB4 := Lib.hid hb4
    have hsz := hF.size
    clear hF hb1 hb2 hb3 hb4 hlow hw hz
    have hrow' : (v = .slice none 0 0 ∧ i = 0) ∨ ∃ g cap, v = .slice (some ⟨g, 0, none⟩) i cap := by
      obtain ⟨-, h | ⟨g, cap, cur, h, -⟩⟩ := hrow
      · exact .inl h
      · exact .inr ⟨g, cap, h⟩
    clear hrow
    have fin : ∀ V' : World, V' = ((((V.setCell ⟨w.heap.size + 1, 0, none⟩ (.slice none 0 0)).setCell ⟨w.heap.size + 2, 0, none⟩ (.int .i64 (i : Int))).setCell ⟨w.heap.size + 3, 0, none⟩ (.int .i64 z)).setCell ⟨w.heap.size + 4, 0, none⟩ (.int .i64 9)) →
        Fs w l i V' ∧ Lets w (w.heap.size + 7) V V' := by
      rintro V' rfl
      have gs : ∀ (U : World) (b : Nat) (u : Value), U.grownBy (U.setCell ⟨b, 0, none⟩ u) (some b) := fun U b u => ⟨rfl, rfl, rfl, by simp [World.setCell], fun k _ hk => Below.heap_setCell _ _ _ _ (by intro e; exact hk (by rw [e]))⟩
      have gz : ∀ (U : World) (b : Nat) (u : Value), (U.setCell ⟨b, 0, none⟩ u).heap.size = U.heap.size := fun U b u => by simp [World.setCell]
      have ne : ∀ j k : Nat, j ≠ k → some (w.heap.size + j) ≠ some (w.heap.size + k) := fun j k h e => by injection e with e; omega
      have bl : ∀ (U : World) (j : Nat) (u : Value), Below w.heap.size w U → Below w.heap.size w (U.setCell ⟨w.heap.size + j, 0, none⟩ u) := fun U j u h => h.grown (gs U _ u) h.size (fun k hk => by injection hk with hk; omega)
      refine ⟨⟨bl _ 4 _ (bl _ 3 _ (bl _ 2 _ (bl _ 1 _ HFV.out.below))), ?_, ?_, ?_, ?_⟩, by simp only [gz]; exact Nat.le_refl _, fun b hb hb2 => ?_⟩
      · exact (((HB1.out.set _).kept (gs _ _ _) (ne 1 2 (by omega))).kept (gs _ _ _) (ne 1 3 (by omega))).kept (gs _ _ _) (ne 1 4 (by omega))
      · exact (((HB2.out.kept (gs _ _ _) (ne 2 1 (by omega))).set _).kept (gs _ _ _) (ne 2 3 (by omega))).kept (gs _ _ _) (ne 2 4 (by omega))
      · rw [HW.out]
        exact (((HB3.out.kept (gs _ _ _) (ne 3 1 (by omega))).kept (gs _ _ _) (ne 3 2 (by omega))).set _).kept (gs _ _ _) (ne 3 4 (by omega))
      · exact (((HB4.out.kept (gs _ _ _) (ne 4 1 (by omega))).kept (gs _ _ _) (ne 4 2 (by omega))).kept (gs _ _ _) (ne 4 3 (by omega))).set _
      · rw [Below.heap_setCell _ _ _ _ (by show b ≠ w.heap.size + 4; omega), Below.heap_setCell _ _ _ _ (by show b ≠ w.heap.size + 3; omega), Below.heap_setCell _ _ _ _ (by show b ≠ w.heap.size + 2; omega), Below.heap_setCell _ _ _ _ (by show b ≠ w.heap.size + 1; omega)]
    have FIN := Lib.hid fin
    clear fin
    rcases hrow' with ⟨rfl, rfl⟩ | ⟨g, cap, rfl⟩
    · gi_wp2_with fail
      exact FIN.out _ rfl
    · gi_wp2_with fail
      exact FIN.out _ rfl
  case hdone =>
    intro V hG hF hK
    obtain ⟨v, hb1, hrow, hlow⟩ := hF.legs
    have hb2 := hF.at2; have hb3 := hF.at3; have hb4 := hF.at4
    have c1 := hb1.cell; have c2 := hb2.cell; have c3 := hb3.cell; have c4 := hb4.cell
    have z1 := hb1.frozen; have z2 := hb2.frozen; have z3 := hb3.frozen; have z4 := hb4.frozen
    have HFV := Lib.hid hF; have HB1 := Lib.hid hb1; have HROW := Lib.hid hrow; have HLOW := Lib.hid hlow; have HK2 := Lib.hid hK
    obtain ⟨g, cap, rfl⟩ := row_succ hrow
    clear hF hb1 hb2 hb3 hb4 hlow hrow hK
    gi_wp2_with fail
    refine ⟨by simp, .inl ⟨_, _, rfl, run_takeDeferred ?_, ?_⟩⟩
    · rw [Below.heap_setCell _ _ _ _ (by show w.heap.size + 7 ≠ w.heap.size + 4; omega), Below.heap_setCell _ _ _ _ (by show w.heap.size + 7 ≠ w.heap.size + 3; omega), Below.heap_setCell _ _ _ _ (by show w.heap.size + 7 ≠ w.heap.size + 2; omega), Below.heap_setCell _ _ _ _ (by show w.heap.size + 7 ≠ w.heap.size + 1; omega)]
      exact HK2.out
    have gs : ∀ (U : World) (b : Nat) (u : Value), U.grownBy (U.setCell ⟨b, 0, none⟩ u) (some b) := fun U b u => ⟨rfl, rfl, rfl, by simp [World.setCell], fun k _ hk => Below.heap_setCell _ _ _ _ (by intro e; exact hk (by rw [e]))⟩
    have ne : ∀ j k : Nat, j ≠ k → some (w.heap.size + j) ≠ some (w.heap.size + k) := fun j k h e => by injection e with e; omega
    have bl : ∀ (U : World) (j : Nat) (u : Value), Below w.heap.size w U → Below w.heap.size w (U.setCell ⟨w.heap.size + j, 0, none⟩ u) := fun U j u h => h.grown (gs U _ u) h.size (fun k hk => by injection hk with hk; omega)
    have po : ∀ (U : World) (o : Obj), U.grownBy (U.putObj (w.heap.size + 7) o) (some (w.heap.size + 7)) := fun U o => grownBy_putObj' U _ o
    have d1 := ((((HB1.out.set (.slice (some ⟨g, 0, none⟩) (N + 1) cap)).kept (gs _ _ (.int .i64 (-1))) (ne 1 2 (by omega))).kept (gs _ _ (.int .i64 0)) (ne 1 3 (by omega))).kept (gs _ _ (.int .i64 0)) (ne 1 4 (by omega))).kept (po _ (.deferred none)) (ne 1 7 (by omega))
    have d2 := ((((HFV.out.at2.kept (gs _ _ (.slice (some ⟨g, 0, none⟩) (N + 1) cap)) (ne 2 1 (by omega))).set (.int .i64 (-1))).kept (gs _ _ (.int .i64 0)) (ne 2 3 (by omega))).kept (gs _ _ (.int .i64 0)) (ne 2 4 (by omega))).kept (po _ (.deferred none)) (ne 2 7 (by omega))
    have d3 := ((((HFV.out.at3.kept (gs _ _ (.slice (some ⟨g, 0, none⟩) (N + 1) cap)) (ne 3 1 (by omega))).kept (gs _ _ (.int .i64 (-1))) (ne 3 2 (by omega))).set (.int .i64 0)).kept (gs _ _ (.int .i64 0)) (ne 3 4 (by omega))).kept (po _ (.deferred none)) (ne 3 7 (by omega))
    have d4 := ((((HFV.out.at4.kept (gs _ _ (.slice (some ⟨g, 0, none⟩) (N + 1) cap)) (ne 4 1 (by omega))).kept (gs _ _ (.int .i64 (-1))) (ne 4 2 (by omega))).kept (gs _ _ (.int .i64 0)) (ne 4 3 (by omega))).set (.int .i64 0)).kept (po _ (.deferred none)) (ne 4 7 (by omega))
    have hg9 := HLOW.out g rfl
    have nb : ∀ j, j < 10 → (Value.slice (some ⟨g, 0, none⟩) (N + 1) cap).ownBlock ≠ some (w.heap.size + j) := fun j hj e => by injection e with e; have e2 : g = w.heap.size + j := e; omega
    have rr := ((((HROW.out.kept (gs _ _ (.slice (some ⟨g, 0, none⟩) (N + 1) cap)) (.inr (nb 1 (by omega)))).kept (gs _ _ (.int .i64 (-1))) (.inr (nb 2 (by omega)))).kept (gs _ _ (.int .i64 0)) (.inr (nb 3 (by omega)))).kept (gs _ _ (.int .i64 0)) (.inr (nb 4 (by omega)))).kept (po _ (.deferred none)) (.inr (nb 7 (by omega)))
    refine ⟨_, results_four rfl rfl rfl rfl rfl (loadVar_one Try.underlying39 rfl d1.cell) (loadVar_one Try.underlying3 rfl d2.cell) (loadVar_one Try.underlying3 rfl d3.cell) (loadVar_one Try.underlying30 rfl d4.cell), ?_, .inl ⟨hG, _, rfl, rr⟩⟩
    exact (bl _ 4 _ (bl _ 3 _ (bl _ 2 _ (bl _ 1 _ HFV.out.below)))).grown (po _ _) (bl _ 4 _ (bl _ 3 _ (bl _ 2 _ (bl _ 1 _ HFV.out.below)))).size (fun k hk => by injection hk with hk; omega)
  case hstop =>
    intro i V hi hG hw hF hK
    have HFV := Lib.hid hF; have HK2 := Lib.hid hK
    clear hF hK
    gi_wp2_with fail
    refine ⟨by simp, .inl ⟨_, _, rfl, run_takeDeferred HK2.out, ?_⟩⟩
    have ne : ∀ j k : Nat, j ≠ k → some (w.heap.size + j) ≠ some (w.heap.size + k) := fun j k h e => by injection e with e; omega
    have po : ∀ (U : World) (o : Obj), U.grownBy (U.putObj (w.heap.size + 7) o) (some (w.heap.size + 7)) := fun U o => grownBy_putObj' U _ o
    have d1 := HFV.out.at1.kept (po _ (.deferred none)) (ne 1 7 (by omega))
    have d2 := HFV.out.at2.kept (po _ (.deferred none)) (ne 2 7 (by omega))
    have d3 := HFV.out.at3.kept (po _ (.deferred none)) (ne 3 7 (by omega))
    have d4 := HFV.out.at4.kept (po _ (.deferred none)) (ne 4 7 (by omega))
    refine ⟨_, results_four rfl rfl rfl rfl rfl (loadVar_one Try.underlying39 rfl d1.cell) (loadVar_one Try.underlying3 rfl d2.cell) (loadVar_one Try.underlying3 rfl d3.cell) (loadVar_one Try.underlying30 rfl d4.cell), ?_, .inr ⟨i, hi, hG, hw, rfl⟩⟩
    exact HFV.out.below.grown (po _ _) HFV.out.below.size (fun k hk => by injection hk with hk; omega)
/-- follow: the legs of a plan. -/
theorem follow_any {q : Tr} {l : LL} {p : Option Addr} {R ro cap N : Nat} {w : World} (K : Ready w q l p R ro N) : Calls Try.prog 64 #[tripA q l (stAt l 0), .slice p N cap] w (Followed l N w) :=
  callsIn_wide.1 (follow_in q l p R ro cap N w K)
end Go.Proofs.Ytmbhjfembfidnaa.Un
end
section
namespace Go.Proofs.Ytmbhjfembfidnaa.Un
open Go Go.Proofs.Ytmbhjfembfidnaa.Sx

/-- a unit that may plan: speed, burn, reserve, base. -/
structure Able (l : LL) : Prop where
  speed : 1 ≤ nI l 0 ∧ nI l 0 ≤ 1000000
  burn : 0 ≤ nI l 1 ∧ nI l 1 ≤ 1048576
  reserve : 0 ≤ nI l 2
  base : spotB (nI l 6) (nI l 7) = true
theorem why_zero {l : LL} {a : At} {k : Int} (h : whyB l a k = 0) : (goOn l a k).t + wayHome l (goOn l a k) ≤ 1073741824 ∧ nI l 2 ≤ (goOn l a k).f - burnF (nI l 1) (wayHome l (goOn l a k)) := by
  unfold whyB at h
  split at h
  · omega
  · split at h
    · omega
    · omega
theorem fine_on {l : LL} (A : Able l) {a : At} {k : Int} (h : Fine l a) (hw : FineW l k) (h0 : whyB l a k = 0) : Fine l (goOn l a k) := by
  obtain ⟨h1, h2⟩ := why_zero h0
  obtain ⟨f1, f2, f3, f4, f5, f6, f7, f8, f9, f10⟩ := h
  obtain ⟨w1, w2, w3⟩ := hw
  have ht := timeF_bounds (s := nI l 0) f1 f6 w1
  have hh := timeF_bounds (s := nI l 0) (ax := (goOn l a k).x) (ay := (goOn l a k).y) f1 w1 A.base
  have ht' : 0 ≤ wayTo l a k ∧ wayTo l a k ≤ 241591910400 := ht
  have hh' : 0 ≤ wayHome l (goOn l a k) ∧ wayHome l (goOn l a k) ≤ 241591910400 := hh
  have et : (goOn l a k).t = a.t + wayTo l a k + nI (pWays l) (3 * k + 2) := rfl
  have ef : (goOn l a k).f = a.f - burnF (nI l 1) (a.t + wayTo l a k + nI (pWays l) (3 * k + 2) - a.t) := rfl
  have hb := burnF_bounds (b := nI l 1) (t := a.t + wayTo l a k + nI (pWays l) (3 * k + 2) - a.t) A.burn.1 A.burn.2 (by omega) (by omega)
  have hb2 := burnF_bounds (b := nI l 1) (t := wayHome l (goOn l a k)) A.burn.1 A.burn.2 hh'.1 (by omega)
  have hr := A.reserve
  exact ⟨f1, f2, f3, f4, f5, w1, by omega, by omega, by omega, by omega⟩
theorem fine_all {l : LL} (A : Able l) {N : Nat} (h0 : Fine l (stAt l 0)) (hw : ∀ i : Nat, i < N → FineW l i) : ∀ i, Good l i → i ≤ N → Fine l (stAt l i)
  | 0, _, _ => h0
  | i + 1, hg, hi => fine_on A (fine_all A h0 hw i (fun j hj => hg j (by omega)) (by omega)) (hw i (by omega)) (hg i (by omega))
end Go.Proofs.Ytmbhjfembfidnaa.Un
end
section
namespace Go.Proofs.Ytmbhjfembfidnaa.Un
open Go Go.Proofs.Ytmbhjfembfidnaa.Sx Go.RowKit

def envW (q : Tr) (l : LL) (a : At) (k : Int) : Env :=
  { i := fun n => ([0, nI l 0, q.fu, nI l 1, nI l 2, nI l 3, nI l 4, nI l 5, nI l 6, nI l 7, q.mg, q.lv, nI l 13, nI l 8, a.x, a.y, a.t, a.f, a.x, a.y, nI (pWays l) (3 * k), nI (pWays l) (3 * k + 1), a.t, a.t + wayTo l a k, (goOn l a k).t, (goOn l a k).f,
      nI (pWays l) (3 * k), nI (pWays l) (3 * k + 1), nI l 6, nI l 7, (goOn l a k).t, (goOn l a k).t + wayHome l (goOn l a k), (goOn l a k).t + wayHome l (goOn l a k), (goOn l a k).f - burnF (nI l 1) (wayHome l (goOn l a k))] : List Int).getD n 0,
    b := fun _ => false, s := fun _ => q.nm, v := fun _ => q.sky, n := fun _ => 0, g := gF, h := Un.hF, k := noK, l := fun _ => pSky l, m := mF }
/-- the weather of a plan lies there. -/
def SkyRow (l : LL) (w : World) (v : Value) : Prop := ∀ base, (rowL 12 (List.replicate 8 (.i .i64))).at (envW ⟨⟨#[]⟩, 0, 0, 0, v⟩ l ⟨0, 0, 0, 0⟩ 0) base w v
theorem stepW_args (q : Tr) (l : LL) (a : At) (k : Int) : arr (envW q l a k) (patAs 0 [stepK]) = #[stepA q l a k] := rfl
theorem calm_env (q : Tr) (l : LL) (a : At) (k : Int) : (calmE (.v 12)).B (envW q l a k) = allTo (nI l 13) (fun j => calmB (pSky l) j (nI l 4) (nI l 5) ||
      (!concB (pSky l) j a.x a.y (nI (pWays l) (3 * k)) (nI (pWays l) (3 * k + 1)) a.t (goOn l a k).t &&
       !concB (pSky l) j (nI (pWays l) (3 * k)) (nI (pWays l) (3 * k + 1)) (nI l 6) (nI l 7) (goOn l a k).t ((goOn l a k).t + wayHome l (goOn l a k)))) := rfl
theorem why_calls (q : Tr) (l : LL) (a : At) (k : Int) (w : World) (hs : SkyRow l w q.sky) (hb : 0 ≤ (goOn l a k).t + wayHome l (goOn l a k) ∧ (goOn l a k).t + wayHome l (goOn l a k) ≤ 4611686018427387904) (h8 : 0 ≤ nI l 8 ∧ nI l 8 ≤ 1073741824) (hn : 0 ≤ nI l 13 ∧ nI l 13 ≤ 1000000) :
    Calls Try.prog 113 #[stepA q l a k] w fun e w' => e = .returned (i64 (whyB l a k)) ∧ Below w.heap.size w w' := by
  have h := why_cases (TT := UT) fit_UT (envW q l a k) w (by simp [whyF, holds, envW]; omega) ⟨⟨rfl, rfl⟩, rfl⟩ (fun p hp => by
    have hr : rowsL 0 (ksOf [stepK]) = [(12, rowL 12 (List.replicate 8 (.i .i64)))] := rfl
    rw [hr] at hp
    have : p = (12, rowL 12 (List.replicate 8 (.i .i64))) := by simpa using hp
    subst this
    exact ⟨rfl, fun base => hs base⟩)
  unfold CasesAt at h
  rw [stepW_args] at h
  refine h.mono ?_
  rintro e w' ⟨⟨c, hc, rfl, hA⟩, hB⟩
  refine ⟨?_, hB⟩
  have e4 : ∀ x : E, (E.le (.v 32) (.c 1073741824)).B (envW q l a k) = decide ((goOn l a k).t + wayHome l (goOn l a k) ≤ 1073741824) := fun _ => rfl
  have e1 : (E.le (.v 4) (.v 33)).B (envW q l a k) = decide (nI l 2 ≤ (goOn l a k).f - burnF (nI l 1) (wayHome l (goOn l a k))) := rfl
  have e2 : (E.le (.sub (.v 32) (.v 13)) (.v 5)).B (envW q l a k) = decide ((goOn l a k).t + wayHome l (goOn l a k) - nI l 8 ≤ nI l 3) := rfl
  have e4n : (E.lt (.c 1073741824) (.v 32)).B (envW q l a k) = decide (1073741824 < (goOn l a k).t + wayHome l (goOn l a k)) := rfl
  have e1n : (E.lt (.v 33) (.v 4)).B (envW q l a k) = decide ((goOn l a k).f - burnF (nI l 1) (wayHome l (goOn l a k)) < nI l 2) := rfl
  have e2n : (E.lt (.v 5) (.sub (.v 32) (.v 13))).B (envW q l a k) = decide (nI l 3 < (goOn l a k).t + wayHome l (goOn l a k) - nI l 8) := rfl
  have ec := calm_env q l a k
  have key : ∀ z : Int, whyB l a k = z → Ending.returned ((V.i .i64 (.c z)).den (envW q l a k)) = .returned (i64 (whyB l a k)) := fun z hz => by rw [hz]; rfl
  simp only [whyCs, w2, w1, w4, List.mem_cons, List.not_mem_nil, or_false, List.cons_append, List.nil_append] at hc
  rcases hc with rfl | rfl | rfl | rfl | rfl <;> refine key _ ?_ <;> simp only [List.mem_cons, List.not_mem_nil, or_false, forall_eq_or_imp, forall_eq, e4 .nil, e1, e2, e4n, e1n, e2n, B_not, ec, decide_eq_true_eq, Bool.not_eq_true'] at hA <;> unfold whyB
  · obtain ⟨h1, h2, h3, h4⟩ := hA
    rw [if_neg (by omega), if_neg (by omega), if_neg (by omega), if_pos h4]
  · obtain ⟨h1, h2, h3, h4⟩ := hA
    rw [if_neg (by omega), if_neg (by omega), if_neg (by omega), if_neg (by rw [h4]; simp)]
  · obtain ⟨h1, h2, h3⟩ := hA
    rw [if_neg (by omega), if_neg (by omega), if_pos h3]
  · obtain ⟨h1, h2⟩ := hA
    rw [if_neg (by omega), if_pos h2]
  · rw [if_pos hA]
theorem sky_later {l : LL} {w W : World} {v : Value} (h : SkyRow l w v) (hb : Below w.heap.size w W) : SkyRow l W v := fun base => by
  obtain ⟨h1, h2, h3⟩ := h base
  refine ⟨h1, h2, ?_⟩
  rw [if_neg (by decide)] at h3 ⊢
  obtain ⟨h4, h5 | ⟨a, cap, e1, e2, e3, e4, e5⟩⟩ := h3
  · exact ⟨h4, .inl h5⟩
  · refine ⟨h4, .inr ⟨a, cap, e1, e2, Nat.lt_of_lt_of_le e3 hb.size, e4, fun j u hj => ?_⟩⟩
    have h6 := e5 j u hj
    obtain ⟨b, o, s⟩ := a
    simp only at e2 e3
    subst e2
    rw [Addr.add_mid] at h6 ⊢
    rw [World.cell?_of_block (a := ⟨b, o + j, none⟩) (hb.block _ e3)]
    exact h6
/-- what a plan wants. -/
theorem ready_of {q : Tr} {l : LL} {p : Option Addr} {R ro N : Nat} {w : World} (A : Able l) (hs : asSl q.sky = q.sky) (num : nI l 14 = (N : Int)) (few : N ≤ 1000000) (ptr : 0 < N → p = some ⟨R, ro, none⟩) (old : 0 < N → R < w.heap.size)
    (ways : ∀ k : Nat, k < N → AggAt w R (ro + k * 3) (wayVal l k) 3) (h0 : Fine l (stAt l 0)) (hw : ∀ i : Nat, i < N → FineW l i) (hsky : SkyRow l w q.sky) (h8 : 0 ≤ nI l 8 ∧ nI l 8 ≤ 1073741824) (hn : 0 ≤ nI l 13 ∧ nI l 13 ≤ 1000000) :
    Ready w q l p R ro N where
  ptr := ptr
  sky := hs
  num := num
  few := few
  old := old
  ways := ways
  fine := fine_all A h0 hw
  fineW := hw
  why := fun i W hb hg hi => by
    obtain ⟨f1, f2, f3, f4, f5, f6, f7, f8, f9, f10⟩ := fine_all A h0 hw i hg (by omega)
    obtain ⟨w1, w2, w3⟩ := hw i hi
    have ht : 0 ≤ wayTo l (stAt l i) i ∧ wayTo l (stAt l i) i ≤ 241591910400 := timeF_bounds (s := nI l 0) f1 f6 w1
    have hh : 0 ≤ wayHome l (goOn l (stAt l i) i) ∧ wayHome l (goOn l (stAt l i) i) ≤ 241591910400 := timeF_bounds (s := nI l 0) f1 w1 A.base
    have et : (goOn l (stAt l i) i).t = (stAt l i).t + wayTo l (stAt l i) i + nI (pWays l) (3 * (i : Int) + 2) := rfl
    exact why_calls q l (stAt l i) i W (sky_later hsky hb) (by omega) h8 hn
end Go.Proofs.Ytmbhjfembfidnaa.Un
end
section
namespace Go.Proofs.Ytmbhjfembfidnaa.Un
open Go Go.Proofs.Ytmbhjfembfidnaa.Sx Go.RowKit
variable {TT : Tb}

def lvE (a : List E) (l : E) : E := a.foldr .cons l
def flK : List AK := [tripK, rowK 3]
def planE : E := lvE [.v 1, .v 3, .v 4, .v 5, .v 6, .v 7, .v 8, .v 9, .v 13, .v 14, .v 15, .v 16, .v 17, .v 12, .v 18] (.lcat (.lv 12) (.lv 18))
def badE : E := .app 11 planE
def flF : List E := btw 1 1 1000000 ++ btw 0 3 1048576 ++ [.le (.c 0) (.v 4)] ++ spotA 8 ++ spotA 14 ++ timeA 13 ++ timeA 16 ++ btw 0 17 1099511627776 ++ [.le (.v 12) (.c 100), .le (.v 18) (.c 30), .happ 5 (.cons (.v 18) (.lv 18))]
def flC : List RC := [⟨some ⟨true, 51, ints 8, .add (.v 18) (.c 1), .lapp 3 planE⟩, .i .i64 (.c (-1)), [.lt badE (.c 0)], [.i .i64 (.c 0), .i .i64 (.c 0)]⟩,
  ⟨none, .i .i64 badE, [.le (.c 0) badE, .lt badE (.v 18)], [.i .i64 (.app 12 planE), .i .i64 (.c 9)]⟩]
def cFollow := ctrRowC 64 flK flF flC
theorem cellsA_ints (l : LL) (n : Nat) (h : 0 < n) : cellsV (ints n) l = cellsA l := by
  apply List.ext_getElem?
  intro j
  rw [cellsV_get, cellsA, List.getElem?_map]
  cases l[j]? with
  | none => rfl
  | some x =>
    have : (ints n).getD (j % (ints n).length) Kd.any = .i .i64 := by
      have hm : j % n < n := Nat.mod_lt _ h
      simp [ints, List.getD, hm]
    simp only [Option.map_some, this]
    rfl
theorem cellsA_get (l : LL) {j : Nat} {u : Value} (h : (cellsA l)[j]? = some u) : u = i64 (nI l j) := by
  unfold cellsA at h
  rw [List.getElem?_map] at h
  unfold nI
  rw [Int.toNat_natCast]
  cases hl : l[j]? with
  | none => rw [hl] at h; cases h
  | some x => rw [hl] at h; cases h; rfl
theorem cellsA_at (l : LL) {j : Nat} (h : j < l.length) : (cellsA l)[j]? = some (i64 (nI l j)) := by
  unfold cellsA nI
  rw [List.getElem?_map, Int.toNat_natCast, List.getElem?_eq_getElem h]
  rfl
theorem planCs_is (l : LL) {N : Nat} (h : nI l 14 = (N : Int)) : planCs l N (N + 1) = cellsA (planL l) := by
  rw [planCs_end, planCs, if_pos (Nat.le_refl _), planL, legsTo, h, Int.toNat_natCast, legsCs]
  simp [cellsA, List.map_flatMap]
theorem bad_no {l : LL} {N : Nat} (h : nI l 14 = (N : Int)) (hg : Good l N) : badIx l = -1 := by
  unfold badIx
  rw [h]
  refine firstB_none (allTo_of fun k h0 hk => ?_)
  obtain ⟨j, rfl⟩ := Int.eq_ofNat_of_zero_le h0
  simp [hg j (by omega)]
theorem bad_is {l : LL} {N i : Nat} (h : nI l 14 = (N : Int)) (hi : i < N) (hg : Good l i) (hw : whyB l (stAt l i) i ≠ 0) : badIx l = i := by
  unfold badIx
  rw [h]
  refine firstB_is (by omega) (by omega) (by simp [hw]) (allTo_of fun k h0 hk => ?_)
  obtain ⟨j, rfl⟩ := Int.eq_ofNat_of_zero_le h0
  simp [hg j (by omega)]
theorem row_any {ρ : Env} {w : World} {v : Value} {k n : Nat} {base : Nat} (h : (rowL k (ints n)).at ρ base w v) : ∃ p cap, v = .slice p (ρ.i k).toNat cap := by
  obtain ⟨-, -, h⟩ := h
  rw [if_neg (by simp [rowL])] at h
  rcases h.2 with ⟨rfl, e⟩ | ⟨a, cap, rfl, -⟩
  · have : ρ.i k = 0 := e
    exact ⟨none, 0, by rw [this]; rfl⟩
  · exact ⟨some a, cap, rfl⟩
theorem row_at {ρ ρ' : Env} {w : World} {v : Value} {k j : Nat} {kds : List Kd} {base : Nat} (h : (rowL k kds).at ρ base w v) (hi : ρ'.i j = ρ.i k) (hl : ρ'.l j = ρ.l k) : (rowL j kds).at ρ' base w v := by
  unfold Row.at at h ⊢
  simp only [rowL, I_v, L_lv] at h ⊢
  rw [hi, hl]
  exact h
theorem way_all {n : Int} {l : LL} (h : allTo n (atB 3 wayA l) = true) {k : Int} (h0 : 0 ≤ k) (hk : k < n) : spotB (nI l (3 * k)) (nI l (3 * k + 1)) = true ∧ 0 ≤ nI l (3 * k + 2) ∧ nI l (3 * k + 2) ≤ 1073741824 := by
  have := allTo_at h h0 hk
  simp only [atB, allE, wayA, spotA, timeA, btw, envAt, List.cons_append, List.nil_append, List.all_cons, List.all_nil, B_le, I_c, I_v, Bool.and_eq_true, decide_eq_true_eq, Int.cast_ofNat_Int] at this
  simp only [spotB, decide_eq_true_eq]
  simp only [Int.add_zero, Nat.zero_add, Int.cast_ofNat_Int] at this
  omega
theorem follow_ok (u : Fit TT) : CtrOk TT Try.prog cFollow := ctrRowC_ok rfl fun ρ w hF hT hR => by
  obtain ⟨ht, hh⟩ := u.tab hT
  have hm := u.m hT
  have hs := (hR (12, rowL 12 (ints 8)) (by decide))
  have hw := (hR (18, rowL 18 (ints 3)) (by decide))
  obtain ⟨hn0, hl0⟩ := row_facts hR (k := 12) (kds := ints 8) (by decide)
  obtain ⟨hn1, hl1⟩ := row_facts hR (k := 18) (kds := ints 3) (by decide)
  obtain ⟨l, hl⟩ : ∃ l, l = planE.L ρ := ⟨_, rfl⟩
  have hl' : l = (ρ.i 1, ⟨#[]⟩) :: (ρ.i 3, ⟨#[]⟩) :: (ρ.i 4, ⟨#[]⟩) :: (ρ.i 5, ⟨#[]⟩) :: (ρ.i 6, ⟨#[]⟩) :: (ρ.i 7, ⟨#[]⟩) :: (ρ.i 8, ⟨#[]⟩) :: (ρ.i 9, ⟨#[]⟩) :: (ρ.i 13, ⟨#[]⟩) :: (ρ.i 14, ⟨#[]⟩) :: (ρ.i 15, ⟨#[]⟩) :: (ρ.i 16, ⟨#[]⟩) :: (ρ.i 17, ⟨#[]⟩) :: (ρ.i 12, ⟨#[]⟩) :: (ρ.i 18, ⟨#[]⟩) :: (ρ.l 12 ++ ρ.l 18) := hl
  have hsky : pSky l = ρ.l 12 := by
    rw [hl', pSky]
    show ((ρ.l 12 ++ ρ.l 18).take (8 * ρ.i 12).toNat) = _
    have : (8 * ρ.i 12).toNat = (ρ.l 12).length := by rw [hl0]; simp [ints]; omega
    rw [this, List.take_left']
    rfl
  have hway : pWays l = ρ.l 18 := by
    rw [hl', pWays]
    show ((ρ.l 12 ++ ρ.l 18).drop (8 * ρ.i 12).toNat) = _
    have : (8 * ρ.i 12).toNat = (ρ.l 12).length := by rw [hl0]; simp [ints]; omega
    rw [this, List.drop_left']
    rfl
  obtain ⟨n0, n1, n2, n3, n4, n5, n6, n7, n8, n9, n10, n11, n12, n13, n14⟩ : nI l 0 = ρ.i 1 ∧ nI l 1 = ρ.i 3 ∧ nI l 2 = ρ.i 4 ∧ nI l 3 = ρ.i 5 ∧ nI l 4 = ρ.i 6 ∧ nI l 5 = ρ.i 7 ∧ nI l 6 = ρ.i 8 ∧ nI l 7 = ρ.i 9 ∧ nI l 8 = ρ.i 13 ∧ nI l 9 = ρ.i 14 ∧ nI l 10 = ρ.i 15 ∧ nI l 11 = ρ.i 16 ∧ nI l 12 = ρ.i 17 ∧ nI l 13 = ρ.i 12 ∧ nI l 14 = ρ.i 18 := by
    rw [hl']; exact ⟨rfl, rfl, rfl, rfl, rfl, rfl, rfl, rfl, rfl, rfl, rfl, rfl, rfl, rfl, rfl⟩
  have ebad : badE.I ρ = badIx l := by rw [hl]; show ρ.g 11 _ = _; rw [ht]; rfl
  have ewhy : (E.app 12 planE).I ρ = planWhy l := by rw [hl]; show ρ.g 12 _ = _; rw [ht]; rfl
  have epl : (E.lapp 3 planE).L ρ = planL l := by rw [hl]; show ρ.m 3 _ = _; rw [hm]; rfl
  have hF' := hF
  simp only [flF, spotA, timeA, btw, holds, List.mem_append, List.mem_cons, List.not_mem_nil, or_false, or_imp, forall_and, forall_eq, B_le, I_c, I_v, decide_eq_true_eq, B_happ, hh, Nat.reduceAdd] at hF'
  have hall : allTo (ρ.i 18) (atB 3 wayA (ρ.l 18)) = true := by
    have := hF (.happ 5 (.cons (.v 18) (.lv 18))) (by simp [flF])
    rw [B_happ, hh] at this
    exact this
  obtain ⟨p, cap, ev⟩ := row_any (hw.2 0)
  obtain ⟨N, hN⟩ := Int.eq_ofNat_of_zero_le hn1
  have hNt : (ρ.i 18).toNat = N := by omega
  rw [hNt] at ev
  have hargs : arr ρ (patAs 0 flK) = #[tripA ⟨ρ.s 0, ρ.i 2, ρ.i 10, ρ.i 11, ρ.v 12⟩ l (stAt l 0), .slice p N cap] := by
    have : arr ρ (patAs 0 flK) = #[.agg #[.string (ρ.s 0), i64 (ρ.i 1), i64 (ρ.i 2), i64 (ρ.i 3), i64 (ρ.i 4), i64 (ρ.i 5), i64 (ρ.i 6), i64 (ρ.i 7), i64 (ρ.i 8), i64 (ρ.i 9), i64 (ρ.i 10), i64 (ρ.i 11), ρ.v 12, i64 (ρ.i 13), i64 (ρ.i 14), i64 (ρ.i 15), i64 (ρ.i 16), i64 (ρ.i 17)], ρ.v 18] := rfl
    rw [this, ev]
    simp only [tripA, tripCs, stAt, n0, n1, n2, n3, n4, n5, n6, n7, n8, n9, n10, n11, n12]
  unfold RowCAt
  rw [hargs]
  have hsl : asSl (ρ.v 12) = ρ.v 12 := by
    obtain ⟨p, cap, e⟩ := row_any (hs.2 0)
    rw [e]; rfl
  obtain ⟨R, ro, hptr, hold, hways⟩ : ∃ R ro, (0 < N → p = some ⟨R, ro, none⟩) ∧ (0 < N → R < w.heap.size) ∧ ∀ k : Nat, k < N → AggAt w R (ro + k * 3) (wayVal l k) 3 := by
    obtain ⟨-, -, h⟩ := hw.2 0
    rw [if_neg (by simp [rowL])] at h
    rcases h.2 with ⟨-, e⟩ | ⟨a, cap', e1, e2, e3, -, e5⟩
    · have e : ρ.i 18 = 0 := e
      exact ⟨0, 0, fun h => by omega, fun h => by omega, fun k h => by omega⟩
    · obtain ⟨b, o, s⟩ := a
      simp only at e2 e3
      subst e2
      simp only [rowL, I_v, L_lv] at e1 e5
      rw [ev] at e1
      injection e1 with e1 _ _
      refine ⟨b, o, fun _ => e1, fun _ => e3, fun k hk => ⟨[i64 (nI (pWays l) (3 * k)), i64 (nI (pWays l) (3 * k + 1)), i64 (nI (pWays l) (3 * k + 2))], rfl, rfl, fun j u hj => ?_⟩⟩
      rw [hway] at hj
      have hlen : (ρ.l 18).length = N * 3 := by rw [hl1, hNt]; rfl
      have key : ∀ i : Nat, i < N * 3 → w.cell? ⟨b, o + i, none⟩ = some (i64 (nI (ρ.l 18) i)) := fun i hi => by
        have := e5 i (i64 (nI (ρ.l 18) i)) (by rw [cellsA_ints _ 3 (by omega)]; exact cellsA_at _ (by omega))
        rw [Addr.add_mid] at this
        exact this
      match j, hj with
      | 0, hj =>
        cases hj
        have := key (k * 3) (by omega)
        rw [show ((k * 3 : Nat) : Int) = 3 * (k : Int) by omega] at this
        exact this
      | 1, hj =>
        cases hj
        have := key (k * 3 + 1) (by omega)
        rw [show ((k * 3 + 1 : Nat) : Int) = 3 * (k : Int) + 1 by omega] at this
        exact this
      | 2, hj =>
        cases hj
        have := key (k * 3 + 2) (by omega)
        rw [show ((k * 3 + 2 : Nat) : Int) = 3 * (k : Int) + 2 by omega] at this
        exact this
      | j + 3, hj => cases hj
  have hsr : SkyRow l w (ρ.v 12) := fun base => row_at (hs.2 base) (by show nI l 13 = _; rw [n13]) (by show pSky l = _; rw [hsky])
  have hA : Able l := ⟨by omega, by omega, by omega, by simp only [spotB, decide_eq_true_eq]; omega⟩
  have hfine : Fine l (stAt l 0) := ⟨by omega, by omega, by omega, by omega, hA.base, by show spotB (nI l 9) (nI l 10) = true; simp only [spotB, decide_eq_true_eq]; omega, by show 0 ≤ nI l 11; omega, by show nI l 11 ≤ _; omega, by show 0 ≤ nI l 12; omega, by show nI l 12 ≤ _; omega⟩
  have hFW : ∀ i : Nat, i < N → FineW l i := fun i hi => by
    have := way_all hall (k := i) (by omega) (by omega)
    unfold FineW
    rw [hway]
    exact this
  have n14' : nI l 14 = (N : Int) := by rw [n14, hN]
  refine (follow_any (ready_of (q := ⟨ρ.s 0, ρ.i 2, ρ.i 10, ρ.i 11, ρ.v 12⟩) hA hsl n14' (by omega) hptr hold hways hfine hFW hsr (by omega) (by omega))).mono ?_
  rintro e w' ⟨hb, h⟩
  refine ⟨?_, hb⟩
  rcases h with ⟨hg, v, rfl, hrow⟩ | ⟨i, hi, hg, hwy, rfl⟩
  · refine ⟨_, List.mem_cons_self, fun a ha => ?_, rfl, v, rfl, ⟨?_, by decide, ?_⟩, fun b hbb => (hrow.lt b hbb).1⟩
    · cases List.mem_singleton.1 ha
      rw [B_lt, ebad, bad_no n14' hg]
      rfl
    · simp only [I_add, I_v, I_c]; omega
    · simp only [if_true]
      rw [cellsA_ints _ 8 (by omega), epl, ← planCs_is l n14']
      have : ((E.add (.v 18) (.c 1)).I ρ).toNat = N + 1 := by simp only [I_add, I_v, I_c]; omega
      rw [this]
      exact OwnAt.of_row hrow
  · refine ⟨_, List.mem_cons_of_mem _ List.mem_cons_self, fun a ha => ?_, ?_⟩
    · simp only [List.mem_cons, List.not_mem_nil, or_false] at ha
      rcases ha with rfl | rfl
      · rw [B_le, ebad, bad_is n14' hi hg hwy]; simp
      · rw [B_lt, ebad, bad_is n14' hi hg hwy]; simp only [I_v, decide_eq_true_eq]; omega
    · have e1 : (V.i .i64 badE).den ρ = i64 i := by
        show Value.int .i64 (badE.I ρ) = _
        rw [ebad, bad_is n14' hi hg hwy]; rfl
      have e2 : (V.i .i64 (.app 12 planE)).den ρ = i64 (whyB l (stAt l i) i) := by
        show Value.int .i64 ((E.app 12 planE).I ρ) = _
        rw [ewhy, planWhy, bad_is n14' hi hg hwy, if_neg (by omega), Int.toNat_natCast]; rfl
      simp only [List.map, e1, e2]
      rfl
end Go.Proofs.Ytmbhjfembfidnaa.Un
end
