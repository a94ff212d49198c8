/- The document's reading of a line: what lies in memory while it is read. -/
import Derived.Test.YtjcaaejfokmolaaGreatDoorRpTokMid
import Derived.Test.YtjcaaejfokmolaaGreatDoorRpTokBase
import Derived.Test.YtjcaaejfokmolaaGreatDoorRpDbCheck
import Derived.Test.YtjcaaejfokmolaaGreatDoorRpSgIt
import Derived.Test.YtjcaaejfokmolaaGreatDoorRpHasRef
namespace Go.Proofs.YtjcaaejfokmolaaGreatDoor
open Go.RowKit

/-- the line and the report, as they lie behind the words (W0). -/
structure PS (W0 w : World) (v : Value) (n : Nat) (rd : Rd) (wv : Value) : Prop where
  line : w.heap[W0.heap.size]? = some (lnO v n rd.p.I rd.p.At rd.p.E)
  rep : w.heap[W0.heap.size + 1]? = some (repO rd.kind rd.time ⟨rd.src.toArray⟩ ⟨rd.abt.toArray⟩ wv rd.souls rd.trust)
  own : w.ownsRow (W0.heap.size + 2) 24 2 wv rd.wh.length (spotCells rd.wh)
  below : Below W0.heap.size W0 w
theorem PS.next {W0 w w' : World} {v : Value} {n : Nat} {rd : Rd} {wv : Value} (h : PS W0 w v n rd wv) (hb : Below w.heap.size w w') : PS W0 w' v n rd wv :=
  ⟨stay h.line hb, stay h.rep hb, h.own.kept (grown_below (r := none) hb) (by cases hw : wv.ownBlock with | none => exact Or.inl rfl | some g => exact Or.inr (fun e => by cases e)), below_chain h.below hb⟩
theorem PS.drew {W0 w : World} {v : Value} {n : Nat} {rd : Rd} {wv : Value} (h : PS W0 w v n rd wv) : PS W0 w.drew v n rd wv := h.next (Below.refl _ _).drew
theorem PS.size {W0 w : World} {v : Value} {n : Nat} {rd : Rd} {wv : Value} (h : PS W0 w v n rd wv) : W0.heap.size + 1 < w.heap.size := (Array.getElem?_eq_some_iff.1 h.rep).1
theorem own_set {w : World} {b e k n : Nat} {v : Value} {xs : List Value} {B i : Nat} {u : Value} (h : w.ownsRow b e k v n xs) (hB : B < b) : (w.setCell ⟨B, i, none⟩ u).ownsRow b e k v n xs := ownsRow_setCell_other h (own_apart h hB) _
theorem heap_far' {w : World} {g B i : Nat} {u : Value} {o : Option Obj} (h : w.heap[g]? = o) (hg : g ≠ B) : (w.setCell ⟨B, i, none⟩ u).heap[g]? = o := (Below.heap_setCell w ⟨B, i, none⟩ u g hg).trans h
theorem PS.setLine {W0 w : World} {v : Value} {n : Nat} {rd : Rd} {wv : Value} (h : PS W0 w v n rd wv) (I At : Nat) (E : Int) :
    PS W0 (((((w.setCell ⟨W0.heap.size, 0, none⟩ v).setCell ⟨W0.heap.size, 1, none⟩ (.int .i64 I)).setCell ⟨W0.heap.size, 2, none⟩ (.int .i64 n)).setCell ⟨W0.heap.size, 3, none⟩ (.int .i64 At)).setCell ⟨W0.heap.size, 4, none⟩ (.int .i64 E)) v n { rd with p := ⟨I, At, E⟩ } wv := by
  refine ⟨?_, ?_, ?_, ?_⟩
  · have h5 := heap_set (heap_set (heap_set (heap_set (heap_set h.line 0 v) 1 (.int .i64 I)) 2 (.int .i64 n)) 3 (.int .i64 At)) 4 (.int .i64 E)
    simp only [List.setIfInBounds_toArray, List.set_cons_zero, List.set_cons_succ] at h5
    exact h5
  · exact heap_far' (heap_far' (heap_far' (heap_far' (heap_far' h.rep (by omega)) (by omega)) (by omega)) (by omega)) (by omega)
  · exact own_set (own_set (own_set (own_set (own_set h.own (by omega)) (by omega)) (by omega)) (by omega)) (by omega)
  · exact ((((h.below.setCell (p := ⟨W0.heap.size, 0, none⟩) (Nat.le_refl _) _).setCell (p := ⟨W0.heap.size, 1, none⟩) (Nat.le_refl _) _).setCell (p := ⟨W0.heap.size, 2, none⟩) (Nat.le_refl _) _).setCell (p := ⟨W0.heap.size, 3, none⟩) (Nat.le_refl _) _).setCell (p := ⟨W0.heap.size, 4, none⟩) (Nat.le_refl _) _
theorem PS.set_kind {W0 w : World} {v : Value} {n : Nat} {rd : Rd} {wv : Value} (h : PS W0 w v n rd wv) (x : Int) : PS W0 (w.setCell ⟨W0.heap.size + 1, 0, none⟩ (.int .i64 x)) v n { rd with kind := x } wv := by
  refine ⟨heap_far' h.line (by omega), ?_, own_set h.own (by omega), h.below.setCell (p := ⟨W0.heap.size + 1, 0, none⟩) (Nat.le_succ _) _⟩
  have h5 := heap_set h.rep 0 (.int .i64 x)
  simp only [List.setIfInBounds_toArray, List.set_cons_zero, List.set_cons_succ] at h5
  exact h5
theorem PS.set_time {W0 w : World} {v : Value} {n : Nat} {rd : Rd} {wv : Value} (h : PS W0 w v n rd wv) (x : Int) : PS W0 (w.setCell ⟨W0.heap.size + 1, 1, none⟩ (.int .i64 x)) v n { rd with time := x } wv := by
  refine ⟨heap_far' h.line (by omega), ?_, own_set h.own (by omega), h.below.setCell (p := ⟨W0.heap.size + 1, 1, none⟩) (Nat.le_succ _) _⟩
  have h5 := heap_set h.rep 1 (.int .i64 x)
  simp only [List.setIfInBounds_toArray, List.set_cons_zero, List.set_cons_succ] at h5
  exact h5
theorem PS.set_src {W0 w : World} {v : Value} {n : Nat} {rd : Rd} {wv : Value} (h : PS W0 w v n rd wv) (x : List UInt8) : PS W0 (w.setCell ⟨W0.heap.size + 1, 2, none⟩ (.string ⟨x.toArray⟩)) v n { rd with src := x } wv := by
  refine ⟨heap_far' h.line (by omega), ?_, own_set h.own (by omega), h.below.setCell (p := ⟨W0.heap.size + 1, 2, none⟩) (Nat.le_succ _) _⟩
  have h5 := heap_set h.rep 2 (.string ⟨x.toArray⟩)
  simp only [List.setIfInBounds_toArray, List.set_cons_zero, List.set_cons_succ] at h5
  exact h5
theorem PS.set_abt {W0 w : World} {v : Value} {n : Nat} {rd : Rd} {wv : Value} (h : PS W0 w v n rd wv) (x : List UInt8) : PS W0 (w.setCell ⟨W0.heap.size + 1, 3, none⟩ (.string ⟨x.toArray⟩)) v n { rd with abt := x } wv := by
  refine ⟨heap_far' h.line (by omega), ?_, own_set h.own (by omega), h.below.setCell (p := ⟨W0.heap.size + 1, 3, none⟩) (Nat.le_succ _) _⟩
  have h5 := heap_set h.rep 3 (.string ⟨x.toArray⟩)
  simp only [List.setIfInBounds_toArray, List.set_cons_zero, List.set_cons_succ] at h5
  exact h5
theorem PS.set_souls {W0 w : World} {v : Value} {n : Nat} {rd : Rd} {wv : Value} (h : PS W0 w v n rd wv) (x : Int) : PS W0 (w.setCell ⟨W0.heap.size + 1, 5, none⟩ (.int .i64 x)) v n { rd with souls := x } wv := by
  refine ⟨heap_far' h.line (by omega), ?_, own_set h.own (by omega), h.below.setCell (p := ⟨W0.heap.size + 1, 5, none⟩) (Nat.le_succ _) _⟩
  have h5 := heap_set h.rep 5 (.int .i64 x)
  simp only [List.setIfInBounds_toArray, List.set_cons_zero, List.set_cons_succ] at h5
  exact h5
theorem PS.set_trust {W0 w : World} {v : Value} {n : Nat} {rd : Rd} {wv : Value} (h : PS W0 w v n rd wv) (x : Int) : PS W0 (w.setCell ⟨W0.heap.size + 1, 6, none⟩ (.int .i64 x)) v n { rd with trust := x } wv := by
  refine ⟨heap_far' h.line (by omega), ?_, own_set h.own (by omega), h.below.setCell (p := ⟨W0.heap.size + 1, 6, none⟩) (Nat.le_succ _) _⟩
  have h5 := heap_set h.rep 6 (.int .i64 x)
  simp only [List.setIfInBounds_toArray, List.set_cons_zero, List.set_cons_succ] at h5
  exact h5
theorem PS.cells {W0 w : World} {v : Value} {n : Nat} {rd : Rd} {wv : Value} (h : PS W0 w v n rd wv) : (w.cell? ⟨W0.heap.size, 0, none⟩ = some v ∧ w.cell? ⟨W0.heap.size, 1, none⟩ = some (.int .i64 rd.p.I) ∧ w.cell? ⟨W0.heap.size, 2, none⟩ = some (.int .i64 n) ∧ w.cell? ⟨W0.heap.size, 3, none⟩ = some (.int .i64 rd.p.At) ∧ w.cell? ⟨W0.heap.size, 4, none⟩ = some (.int .i64 rd.p.E)) ∧
    (w.frozen? ⟨W0.heap.size, 0, none⟩ = false ∧ w.frozen? ⟨W0.heap.size, 1, none⟩ = false ∧ w.frozen? ⟨W0.heap.size, 2, none⟩ = false ∧ w.frozen? ⟨W0.heap.size, 3, none⟩ = false ∧ w.frozen? ⟨W0.heap.size, 4, none⟩ = false) ∧ W0.heap.size + 1 < w.heap.size := ⟨ln_cells h.line, ln_free h.line, h.size⟩
/-- the words that are there. -/
def InL (ws : List (List UInt8)) (p : Ln) : Prop := p.I ≤ ws.length
theorem fail_in {ws n p e} (h : InL ws p) : InL ws (failS ws n p e) := by unfold failS; split <;> exact h
theorem word_in {ws n p u} (h : InL ws p) : InL ws (wordS ws n p u) := by
  unfold wordS
  split
  · rename_i g
    have := g.2
    unfold isS at this
    rw [Bool.and_eq_true, decide_eq_true_eq] at this
    exact this.1
  · exact fail_in h
theorem number_in {ws n p lo hi} (h : InL ws p) : InL ws (numberS ws n p lo hi).1 := by
  unfold numberS
  split
  · rename_i g
    split
    · exact g.2
    · exact fail_in h
  · exact fail_in h
theorem name_in {ws n p} (h : InL ws p) : InL ws (nameS ws n p).1 := by
  unfold nameS
  split
  · rename_i g; exact g.2.1
  · exact fail_in h
theorem kind_in {ws n p} (h : InL ws p) : InL ws (kindS ws n p).1 := by
  unfold kindS
  split
  · rename_i g
    split
    · exact g
    · exact fail_in h
  · exact fail_in h
/-- the document's small functions, over a line's words. -/
structure Kit (W0 : World) (v : Value) (ws : List (List UInt8)) (n : Nat) : Prop where
  kind : ∀ W (p : Ln), Below W0.heap.size W0 W → InL ws p → Calls Tryz.prog 53 #[lnV v n p.I p.At p.E] W fun e w' => ∃ (q : Ln) (z : Int), kindS ws n p = (q, z) ∧ e = .returned (.tuple #[lnV v n q.I q.At q.E, .int .i64 z]) ∧ Below W.heap.size W w'
  word : ∀ W (p : Ln) (u : ByteArray), Below W0.heap.size W0 W → InL ws p → Calls Tryz.prog 55 #[lnV v n p.I p.At p.E, .string u] W fun e w' => ∃ (q : Ln), wordS ws n p u.data.toList = q ∧ e = .returned (lnV v n q.I q.At q.E) ∧ Below W.heap.size W w'
  number : ∀ W (p : Ln) (lo hi : Int), Below W0.heap.size W0 W → InL ws p → Calls Tryz.prog 54 #[lnV v n p.I p.At p.E, .int .i64 lo, .int .i64 hi] W fun e w' => ∃ (q : Ln) (z : Int), numberS ws n p lo hi = (q, z) ∧ e = .returned (.tuple #[lnV v n q.I q.At q.E, .int .i64 z]) ∧ Below W.heap.size W w'
  name : ∀ W (p : Ln), Below W0.heap.size W0 W → InL ws p → Calls Tryz.prog 56 #[lnV v n p.I p.At p.E] W fun e w' => ∃ (q : Ln) (z : List UInt8), nameS ws n p = (q, z) ∧ e = .returned (.tuple #[lnV v n q.I q.At q.E, .string ⟨z.toArray⟩]) ∧ Below W.heap.size W w'
  is : ∀ W (p : Ln) (u : ByteArray), Below W0.heap.size W0 W → Calls Tryz.prog 57 #[lnV v n p.I p.At p.E, .string u] W fun e w' => ∃ b, isS ws p u.data.toList = b ∧ e = .returned (.bool b) ∧ Below W.heap.size W w'
  fail : ∀ W (p : Ln) (er : Int), Below W0.heap.size W0 W → Calls Tryz.prog 58 #[lnV v n p.I p.At p.E, .int .i64 er] W fun e w' => ∃ q, failS ws n p er = q ∧ e = .returned (lnV v n q.I q.At q.E) ∧ Below W.heap.size W w'
theorem kit_of {W0 : World} {v : Value} {l : List UInt8} (n : Nat) (hp : PartsAt W0 v (toks l)) (hl : l.length ≤ 400) (hn : (toks l).length ≤ 1000) : Kit W0 v (toks l) n := by
  have ht : ∀ i, (tok (toks l) i).length ≤ 1000 := fun i => Nat.le_trans (tok_len l i) (by omega)
  refine ⟨fun W p hW hI => ?_, fun W p u hW hI => ?_, fun W p lo hi hW hI => ?_, fun W p hW hI => ?_, fun W p u hW => ?_, fun W p er hW => ?_⟩
  · exact (refKind_any (toks l) n p.I p.At p.E v W (hp.below hW) hn (Nat.le_trans hI hn)).mono fun e w' ⟨he, hb⟩ => ⟨_, _, rfl, he, hb⟩
  · exact (refWord_any (toks l) n p.I p.At p.E v u.data.toList W (hp.below hW) hn (Nat.le_trans hI hn)).mono fun e w' ⟨he, hb⟩ => ⟨_, rfl, he, hb⟩
  · exact (refNumberP_any (toks l) n p.I p.At p.E lo hi v W (hp.below hW) hn (Nat.le_trans hI hn) (ht _)).mono fun e w' ⟨he, hb⟩ => ⟨_, _, rfl, he, hb⟩
  · exact (refNameP_any (toks l) n p.I p.At p.E v W (hp.below hW) hn (Nat.le_trans hI hn) (ht _)).mono fun e w' ⟨he, hb⟩ => ⟨_, _, rfl, he, hb⟩
  · exact (refIs_any (toks l) n p.I p.At p.E v u.data.toList W (hp.below hW) hn).mono fun e w' ⟨he, hb⟩ => ⟨_, rfl, he, hb⟩
  · exact (refFail_any (toks l) n p.I p.At p.E er v W (hp.below hW) hn).mono fun e w' ⟨he, hb⟩ => ⟨_, rfl, he, hb⟩
theorem toks_len : ∀ l : List UInt8, (toks l).length ≤ l.length + 1
  | [] => by simp [toks]
  | c :: r => by
    have := toks_len r
    rw [toks]
    split
    · simp; omega
    · split
      · rename_i t ts e; rw [e] at this; simp at this ⊢; omega
      · simp
/-- behind an append of a place. -/
theorem PS.put {W0 w w3 : World} {v : Value} {n : Nat} {rd : Rd} {wv v' : Value} {x y : Int} {o : Obj} (h : PS W0 w v n rd wv)
    (hown : w3.ownsRow (W0.heap.size + 2) 24 2 v' (rd.wh.length + 1) (spotCells rd.wh ++ [.int .i64 x, .int .i64 y])) (hg : (w.alloc o).grownBy w3 wv.ownBlock) :
    w3.cell? ⟨W0.heap.size + 1, 4, none⟩ = some wv ∧ w3.frozen? ⟨W0.heap.size + 1, 4, none⟩ = false ∧ PS W0 (w3.setCell ⟨W0.heap.size + 1, 4, none⟩ v') v n { rd with wh := rd.wh ++ [(x, y)] } v' := by
  have hs := h.size
  have far : ∀ g, g < W0.heap.size + 2 → w3.heap[g]? = w.heap[g]? := fun g hgl =>
    (hg.block g (by rw [World.size_alloc]; omega) (by intro e; have := (h.own.lt _ e.symm).1; omega)).trans (Below.heap_alloc w o g (by omega))
  have l3 := (far W0.heap.size (by omega)).trans h.line
  have r3 := (far (W0.heap.size + 1) (by omega)).trans h.rep
  refine ⟨(rep_cells r3).2.2.2.2.1, (rep_free r3).2.2.2.2.1, ?_, ?_, ?_, ?_⟩
  · exact heap_far' l3 (by omega)
  · have h5 := heap_set r3 4 v'
    simp only [List.setIfInBounds_toArray, List.set_cons_zero, List.set_cons_succ] at h5
    exact h5
  · show World.ownsRow _ _ _ _ _ (rd.wh ++ [(x, y)]).length (spotCells (rd.wh ++ [(x, y)]))
    rw [List.length_append, spotCells_snoc]
    exact own_set hown (by omega)
  · have hb := h.below.alloc h.below.size o
    exact (hb.grown hg hb.size (fun j hj => by have := (h.own.lt j hj).1; omega)).setCell (p := ⟨W0.heap.size + 1, 4, none⟩) (Nat.le_succ _) _
def lenR (w : World) (B : Nat) : Nat := match w.cell? ⟨B, 4, none⟩ with
  | some (.slice _ n _) => n
  | _ => 0
theorem lenR_of {w : World} {B n cap : Nat} {A : Option Addr} (h : w.cell? ⟨B, 4, none⟩ = some (.slice A n cap)) : lenR w B = n := by unfold lenR; rw [h]
theorem PS.lenR {W0 w : World} {v : Value} {n : Nat} {rd : Rd} {A : Option Addr} {k c : Nat} (h : PS W0 w v n rd (.slice A k c)) : lenR w (W0.heap.size + 1) = k := lenR_of (rep_cells h.rep).2.2.2.2.1
end Go.Proofs.YtjcaaejfokmolaaGreatDoor
