/- Mend: how its results lie. -/
import Derived.Test.YtjcaaejfokmolaaGreatDoorRpPack
import Derived.Test.YtjcaaejfokmolaaGreatDoorRpDoor
namespace Go.Proofs.YtjcaaejfokmolaaGreatDoor
open Go.RowKit Go.Shelf

/-- where the results of Mend lie. -/
structure MendRes (W : World) (N : Nat) (c0 c1 c2 c3 c4 : Value) (m : Bool) (e : Int) : Prop where
  s : W.heap[N + 1]? = some (.cells #[c0, c1, c2, c3, c4] 38 (0, 0))
  m_ : W.heap[N + 1 + 1]? = some (.cells #[.bool m] 4 (0, 0))
  e_ : W.heap[N + 1 + 1 + 1]? = some (.cells #[.int .i64 e] 32 (0, 0))

set_option maxRecDepth 100000 in
set_option maxHeartbeats 1000000 in
theorem results_mend {W : World} {N : Nat} {c0 c1 c2 c3 c4 : Value} {m : Bool} {e : Int} (h : MendRes W N c0 c1 c2 c3 c4 m e) (tmps : Array Value) (h2 : tmps[2]?.getD undef = .pointer (some ⟨N + 1, 0, none⟩)) (h3 : tmps[3]?.getD undef = .pointer (some ⟨N + 1 + 1, 0, none⟩)) (h4 : tmps[4]?.getD undef = .pointer (some ⟨N + 1 + 1 + 1, 0, none⟩)) :
    (results Tryz.f28 tmps).run Tryz.prog W = .ok (.tuple #[.agg #[c0, c1, c2, c3, c4], .bool m, .int .i64 e]) W := by
  have hs := h.s; have hm := h.m_; have he := h.e_
  have k0 : W.cell? ⟨N + 1, 0, none⟩ = some c0 := by simp [World.cell?, hs]
  have k1 : W.cell? ⟨N + 1, 1, none⟩ = some c1 := by simp [World.cell?, hs]
  have k2 : W.cell? ⟨N + 1, 2, none⟩ = some c2 := by simp [World.cell?, hs]
  have k3 : W.cell? ⟨N + 1, 3, none⟩ = some c3 := by simp [World.cell?, hs]
  have k4 : W.cell? ⟨N + 1, 4, none⟩ = some c4 := by simp [World.cell?, hs]
  have km : W.cell? ⟨N + 1 + 1, 0, none⟩ = some (.bool m) := by simp [World.cell?, hm]
  have ke : W.cell? ⟨N + 1 + 1 + 1, 0, none⟩ = some (.int .i64 e) := by simp [World.cell?, he]
  simp [results, Tryz.results28, go_sem, h2, h3, h4, k0, k1, k2, k3, k4, km, ke]

/-- all that Mend has laid before it looks. -/
structure MB (X : World) (N Q d c s : Nat) : Prop where
  b : X.heap[N]? = some (.cells #[.int .u64 d, .int .u8 c] 54 (0, 0))
  r : MendRes X N (.int .i64 0) (.int .i64 0) (.int .i64 0) (.int .i64 0) (.int .i64 0) false 0
  q : X.heap[Q]? = some (.cells #[.int .i64 s] 3 (0, 0))
  far : N + 1 + 1 + 1 < Q
theorem MB.keep {X Y : World} {N Q d c s : Nat} (h : MB X N Q d c s) (k : ∀ (b : Nat) (o : Obj), X.heap[b]? = some o → o.isCells = true → Y.heap[b]? = X.heap[b]?) : MB Y N Q d c s :=
  ⟨(k _ _ h.b rfl).trans h.b, ⟨(k _ _ h.r.s rfl).trans h.r.s, (k _ _ h.r.m_ rfl).trans h.r.m_, (k _ _ h.r.e_ rfl).trans h.r.e_⟩, (k _ _ h.q rfl).trans h.q, h.far⟩
theorem MB.below {X Y : World} {N Q d c s : Nat} (h : MB X N Q d c s) (hb : Below X.heap.size X Y) : MB Y N Q d c s :=
  h.keep fun b o e _ => hb.block b (Array.getElem?_eq_some_iff.1 e).1

structure MBC (X : World) (N Q d c s : Nat) : Prop where
  b0 : X.cell? ⟨N, 0, none⟩ = some (.int .u64 d)
  b1 : X.cell? ⟨N, 1, none⟩ = some (.int .u8 c)
  q0 : X.cell? ⟨Q, 0, none⟩ = some (.int .i64 s)
  r0 : X.cell? ⟨N + 1, 0, none⟩ = some (.int .i64 0)
  r1 : X.cell? ⟨N + 1, 1, none⟩ = some (.int .i64 0)
  r2 : X.cell? ⟨N + 1, 2, none⟩ = some (.int .i64 0)
  r3 : X.cell? ⟨N + 1, 3, none⟩ = some (.int .i64 0)
  r4 : X.cell? ⟨N + 1, 4, none⟩ = some (.int .i64 0)
  m0 : X.cell? ⟨N + 1 + 1, 0, none⟩ = some (.bool false)
  e0 : X.cell? ⟨N + 1 + 1 + 1, 0, none⟩ = some (.int .i64 0)
  f0 : X.frozen? ⟨N + 1, 0, none⟩ = false
  f1 : X.frozen? ⟨N + 1, 1, none⟩ = false
  f2 : X.frozen? ⟨N + 1, 2, none⟩ = false
  f3 : X.frozen? ⟨N + 1, 3, none⟩ = false
  f4 : X.frozen? ⟨N + 1, 4, none⟩ = false
  fm : X.frozen? ⟨N + 1 + 1, 0, none⟩ = false
  fe : X.frozen? ⟨N + 1 + 1 + 1, 0, none⟩ = false
theorem MB.cells {X : World} {N Q d c s : Nat} (h : MB X N Q d c s) : MBC X N Q d c s := by
  have hb := h.b; have hq := h.q; have hs := h.r.s; have hm := h.r.m_; have he := h.r.e_
  constructor <;> simp [World.cell?, World.frozen?, hb, hq, hs, hm, he]

/-- the results' stores. -/
abbrev mended (W : World) (N : Nat) (v0 v1 v2 v3 v4 : Value) (m : Bool) (e : Int) : World :=
  ((((((W.setCell ⟨N + 1, 0, none⟩ v0).setCell ⟨N + 1, 1, none⟩ v1).setCell ⟨N + 1, 2, none⟩ v2).setCell ⟨N + 1, 3, none⟩ v3).setCell ⟨N + 1, 4, none⟩ v4).setCell ⟨N + 1 + 1, 0, none⟩ (.bool m)).setCell ⟨N + 1 + 1 + 1, 0, none⟩ (.int .i64 e)

theorem mended_res {W : World} {N Q d c s : Nat} (h : MB W N Q d c s) (v0 v1 v2 v3 v4 : Value) (m : Bool) (e : Int) : MendRes (mended W N v0 v1 v2 v3 v4 m e) N v0 v1 v2 v3 v4 m e := by
  refine ⟨?_, ?_, ?_⟩
  · have g0 := heap_set h.r.s 0 v0
    have g1 := heap_set g0 1 v1
    have g2 := heap_set g1 2 v2
    have g3 := heap_set g2 3 v3
    have g4 := heap_set g3 4 v4
    have g7 := heap_far (a := ⟨N + 1 + 1, 0, none⟩) (u := .bool m) g4 (show N + 1 ≠ N + 1 + 1 by omega)
    have g8 := heap_far (a := ⟨N + 1 + 1 + 1, 0, none⟩) (u := .int .i64 e) g7 (show N + 1 ≠ N + 1 + 1 + 1 by omega)
    simp only [List.setIfInBounds_toArray, List.set_cons_zero, List.set_cons_succ] at g8
    exact g8
  · have g0 := heap_far (a := ⟨N + 1, 0, none⟩) (u := v0) h.r.m_ (show N + 1 + 1 ≠ N + 1 by omega)
    have g1 := heap_far (a := ⟨N + 1, 1, none⟩) (u := v1) g0 (show N + 1 + 1 ≠ N + 1 by omega)
    have g2 := heap_far (a := ⟨N + 1, 2, none⟩) (u := v2) g1 (show N + 1 + 1 ≠ N + 1 by omega)
    have g3 := heap_far (a := ⟨N + 1, 3, none⟩) (u := v3) g2 (show N + 1 + 1 ≠ N + 1 by omega)
    have g4 := heap_far (a := ⟨N + 1, 4, none⟩) (u := v4) g3 (show N + 1 + 1 ≠ N + 1 by omega)
    have g8 := heap_far (a := ⟨N + 1 + 1 + 1, 0, none⟩) (u := .int .i64 e) (heap_set g4 0 (.bool m)) (show N + 1 + 1 ≠ N + 1 + 1 + 1 by omega)
    simp only [List.setIfInBounds_toArray, List.set_cons_zero] at g8
    exact g8
  · have g0 := heap_far (a := ⟨N + 1, 0, none⟩) (u := v0) h.r.e_ (show N + 1 + 1 + 1 ≠ N + 1 by omega)
    have g1 := heap_far (a := ⟨N + 1, 1, none⟩) (u := v1) g0 (show N + 1 + 1 + 1 ≠ N + 1 by omega)
    have g2 := heap_far (a := ⟨N + 1, 2, none⟩) (u := v2) g1 (show N + 1 + 1 + 1 ≠ N + 1 by omega)
    have g3 := heap_far (a := ⟨N + 1, 3, none⟩) (u := v3) g2 (show N + 1 + 1 + 1 ≠ N + 1 by omega)
    have g4 := heap_far (a := ⟨N + 1, 4, none⟩) (u := v4) g3 (show N + 1 + 1 + 1 ≠ N + 1 by omega)
    have g5 := heap_far (a := ⟨N + 1 + 1, 0, none⟩) (u := .bool m) g4 (show N + 1 + 1 + 1 ≠ N + 1 + 1 by omega)
    have g8 := heap_set g5 0 (.int .i64 e)
    simp only [List.setIfInBounds_toArray, List.set_cons_zero] at g8
    exact g8
theorem mended_below {w W : World} {N : Nat} {v0 v1 v2 v3 v4 : Value} {m : Bool} {e : Int} (hb : Below N w W) : Below N w (mended W N v0 v1 v2 v3 v4 m e) :=
  ((((((hb.setCell (p := ⟨N + 1, 0, none⟩) (by simp only; omega) _).setCell (p := ⟨N + 1, 1, none⟩) (by simp only; omega) _).setCell (p := ⟨N + 1, 2, none⟩) (by simp only; omega) _).setCell (p := ⟨N + 1, 3, none⟩) (by simp only; omega) _).setCell (p := ⟨N + 1, 4, none⟩) (by simp only; omega) _).setCell (p := ⟨N + 1 + 1, 0, none⟩) (by simp only; omega) _).setCell (p := ⟨N + 1 + 1 + 1, 0, none⟩) (by simp only; omega) _

def findP (s : Nat) : Option (Fin 64) := (bitsTo 64).find? fun b => posOf b.val == s
/-- what Mend answers: the data (none: there is no signal), whether it has been mended. -/
def mendR (d c : Nat) : Option (Nat × Bool) :=
  if oddB d c then
    (if checkP (synd d c) || synd d c == 0 then some (d, true)
    else match findP (synd d c) with
      | some b => some (d ^^^ 2 ^ b.val, true)
      | none => none)
  else if synd d c = 0 then some (d, false) else none
def mendV : Option (Nat × Bool) → Value
  | some (d, m) => .tuple #[sigV d, .bool m, .int .i64 0]
  | none => .tuple #[.agg #[.int .i64 0, .int .i64 0, .int .i64 0, .int .i64 0, .int .i64 0], .bool false, .int .i64 20]
theorem laid4 (w : World) (o1 o2 o3 o4 : Obj) : ((((w.alloc o1).alloc o2).alloc o3).alloc o4).heap[w.heap.size]? = some o1 ∧ ((((w.alloc o1).alloc o2).alloc o3).alloc o4).heap[w.heap.size + 1]? = some o2 ∧ ((((w.alloc o1).alloc o2).alloc o3).alloc o4).heap[w.heap.size + 1 + 1]? = some o3 ∧ ((((w.alloc o1).alloc o2).alloc o3).alloc o4).heap[w.heap.size + 1 + 1 + 1]? = some o4 ∧ ((((w.alloc o1).alloc o2).alloc o3).alloc o4).heap.size = w.heap.size + 4 ∧ Below w.heap.size w ((((w.alloc o1).alloc o2).alloc o3).alloc o4) := by
  refine ⟨?_, ?_, ?_, ?_, by simp, ?_⟩
  · refine (Below.heap_alloc _ _ _ (by first | (simp; done) | (simp; omega))).trans ((Below.heap_alloc _ _ _ (by first | (simp; done) | (simp; omega))).trans ((Below.heap_alloc _ _ _ (by simp)).trans (heap_alloc_new w o1)))
  · refine (Below.heap_alloc _ _ _ (by first | (simp; done) | (simp; omega))).trans ((Below.heap_alloc _ _ _ (by simp)).trans ?_)
    have := heap_alloc_new (w.alloc o1) o2
    rwa [World.size_alloc] at this
  · refine (Below.heap_alloc _ _ _ (by simp)).trans ?_
    have := heap_alloc_new ((w.alloc o1).alloc o2) o3
    rwa [World.size_alloc, World.size_alloc] at this
  · have := heap_alloc_new (((w.alloc o1).alloc o2).alloc o3) o4
    rwa [World.size_alloc, World.size_alloc, World.size_alloc] at this
  · exact ((((Below.refl _ _).alloc (Nat.le_refl _) _).alloc (by simp) _).alloc (by first | (simp; done) | (simp; omega)) _).alloc (by first | (simp; done) | (simp; omega)) _

/-- after the box of `wrong`. -/
theorem mb_start {w w1 : World} {d c s : Nat} (hb : Below (w.heap.size + 4) ((((w.alloc (.cells #[.int .u64 d, .int .u8 c] 54)).alloc (.cells #[.int .i64 0, .int .i64 0, .int .i64 0, .int .i64 0, .int .i64 0] 38)).alloc (.cells #[.bool false] 4)).alloc (.cells #[.int .i64 0] 32)) w1) : w.heap.size + 4 ≤ w1.heap.size ∧ w1.heap[w.heap.size]? = some (.cells #[.int .u64 d, .int .u8 c] 54 (0, 0)) ∧ MB (w1.alloc (.cells #[.int .i64 s] 3)) w.heap.size w1.heap.size d c s ∧ Below w.heap.size w (w1.alloc (.cells #[.int .i64 s] 3)) := by
  obtain ⟨l1, l2, l3, l4, l5, l6⟩ := laid4 w (.cells #[.int .u64 d, .int .u8 c] 54) (.cells #[.int .i64 0, .int .i64 0, .int .i64 0, .int .i64 0, .int .i64 0] 38) (.cells #[.bool false] 4) (.cells #[.int .i64 0] 32)
  have hz : w.heap.size + 4 ≤ w1.heap.size := by rw [← l5]; exact hb.size
  have k1 := (hb.block w.heap.size (by omega)).trans l1
  have k2 := (hb.block (w.heap.size + 1) (by omega)).trans l2
  have k3 := (hb.block (w.heap.size + 1 + 1) (by omega)).trans l3
  have k4 := (hb.block (w.heap.size + 1 + 1 + 1) (by omega)).trans l4
  refine ⟨hz, k1, ⟨(Below.heap_alloc _ _ _ (by omega)).trans k1, ⟨(Below.heap_alloc _ _ _ (by omega)).trans k2, (Below.heap_alloc _ _ _ (by omega)).trans k3, (Below.heap_alloc _ _ _ (by omega)).trans k4⟩, heap_alloc_new w1 _, by omega⟩, (l6.trans (hb.mono (by omega))).alloc (by omega) _⟩
theorem below_others {W W' : World} (hb : Below W.heap.size W W') : KeepsOthers W W' :=
  ⟨hb.size, fun k o hk _ => (hb.block k (Array.getElem?_eq_some_iff.1 hk).1).trans hk⟩
theorem mended_others (W : World) (N : Nat) (v0 v1 v2 v3 v4 : Value) (m : Bool) (e : Int) : KeepsOthers W (mended W N v0 v1 v2 v3 v4 m e) :=
  ((((((KeepsOthers.setCell W _ v0).trans (KeepsOthers.setCell _ _ v1)).trans (KeepsOthers.setCell _ _ v2)).trans (KeepsOthers.setCell _ _ v3)).trans (KeepsOthers.setCell _ _ v4)).trans (KeepsOthers.setCell _ _ _)).trans (KeepsOthers.setCell _ _ _)
theorem MB.own {N Q d c s : Nat} {X Y : World} {row : Option Nat} (h : MB X N Q d c s) (hg : X.grownBy Y row) (hr : ∀ r, row = some r → ∃ o : Obj, X.heap[r]? = some o ∧ o.isCells = false) : MB Y N Q d c s :=
  h.keep fun _ _ e ho => grownBy_keeps_cells hg hr e ho
theorem MendRes.own {N : Nat} {c0 c1 c2 c3 c4 : Value} {m : Bool} {e : Int} {X Y : World} {row : Option Nat} (h : MendRes X N c0 c1 c2 c3 c4 m e) (hg : X.grownBy Y row) (hr : ∀ r, row = some r → ∃ o : Obj, X.heap[r]? = some o ∧ o.isCells = false) : MendRes Y N c0 c1 c2 c3 c4 m e :=
  ⟨(grownBy_keeps_cells hg hr h.s rfl).trans h.s, (grownBy_keeps_cells hg hr h.m_ rfl).trans h.m_, (grownBy_keeps_cells hg hr h.e_ rfl).trans h.e_⟩

theorem findP_none {s : Nat} (h : ∀ b ∈ bitsTo 64, posOf b.val ≠ s) : findP s = none := by
  unfold findP
  rw [List.find?_eq_none]
  intro b hb; simpa using h b hb
theorem findP_some {s k : Nat} {pre : List (Fin 64)} {b : Fin 64} (hk : k < 64) (h : pre ++ [b] = bitsTo (k + 1)) (h1 : ∀ y ∈ pre, posOf y.val ≠ s) (h2 : posOf b.val = s) : findP s = some b := by
  unfold findP
  have e : bitsTo 64 = bitsTo (k + 1) ++ (bitsTo 64).drop (k + 1) := by
    have : bitsTo (k + 1) = (bitsTo 64).take (k + 1) := by unfold bitsTo; rw [List.take_take]; congr 1; omega
    rw [this, List.take_append_drop]
  rw [e, ← h, List.append_assoc, List.find?_append, List.find?_eq_none.2 (by intro y hy; simpa using h1 y hy)]
  simp [h2]
theorem xor_u64 (a b : Nat) (ha : a < 18446744073709551616) (hb : b < 18446744073709551616) : bits .xor .u64 (a : Int) (b : Int) = ((a ^^^ b : Nat) : Int) := by
  have hx : a ^^^ b < 2 ^ 64 := Nat.xor_lt_two_pow (by omega) (by omega)
  have h1 : (BitVec.ofInt 64 (a : Int)).toNat = a := by
    rw [BitVec.ofInt_natCast, BitVec.toNat_ofNat]; exact Nat.mod_eq_of_lt (by omega)
  have h2 : (BitVec.ofInt 64 (b : Int)).toNat = b := by
    rw [BitVec.ofInt_natCast, BitVec.toNat_ofNat]; exact Nat.mod_eq_of_lt (by omega)
  show IntKind.u64.wrap ((BitVec.ofInt 64 (a : Int) ^^^ BitVec.ofInt 64 (b : Int)).toNat : Int) = _
  rw [BitVec.toNat_xor, h1, h2, IntKind.wrap_u64]
  omega
/-- how a round of the search may be left. -/
def Found (w : World) (N d s : Nat) (k : Code) (xs : List (Fin 64)) (W : World) : Prop :=
  (k = .ret ∧ ∃ pre b, xs = pre ++ [b] ∧ (∀ y ∈ pre, posOf y.val ≠ s) ∧ posOf b.val = s ∧ ∃ v0 v1 v2 v3 v4, sigV (d ^^^ 2 ^ b.val) = .agg #[v0, v1, v2, v3, v4] ∧ MendRes W N v0 v1 v2 v3 v4 true 0) ∧ Below N w W
theorem MendRes.kept_def {X : World} {N D : Nat} {c0 c1 c2 c3 c4 : Value} {m : Bool} {e : Int} {q : Option (List Deferred)} {o : Obj} (h : MendRes X N c0 c1 c2 c3 c4 m e) (hK : X.heap[D]? = some (.deferred q)) : MendRes (X.putObj D o) N c0 c1 c2 c3 c4 m e :=
  h.own (grownBy_putObj' X D o) (fun r e => by cases e; exact ⟨_, hK, rfl⟩)
end Go.Proofs.YtjcaaejfokmolaaGreatDoor
