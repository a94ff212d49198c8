/- Rows of words that a call has made, and what lies in them. Contract of slices.Clone at naturals. -/
import Derived.Deep.OwnRows
import Derived.Laws.OwnMore
import Derived.Laws.CopyOwn
import Derived.Test.YtkggfeemjabdeaaGreatDoorPa1
section
namespace Go.Proofs.YtkggfeemjabdeaaGreatDoor
open Go.RowKit

theorem infoW : (Tryz.prog.info? 78).map (fun i => (i.zero, i.size, i.bytes)) = some (some (.int .u64 0), 1, 8) := by kernel_rfl

/-- The slice v, in memory from block B on, that may be written, has n integers of the kind k, which are those of f. -/
def Own (w : World) (B : Nat) (k : IntKind) (v : Value) (n : Nat) (f : Nat → Nat) : Prop :=
  (v = .slice none 0 0 ∧ n = 0) ∨ ∃ b off cap, v = .slice (some ⟨b, off, none⟩) n cap ∧ n ≤ cap ∧ cap ≤ maxLen ∧ B ≤ b ∧ b < w.heap.size ∧
    (∀ i, i < n → w.cell? ⟨b, off + i, none⟩ = some (.int k (f i))) ∧ (∀ i, i < cap → (w.cell? ⟨b, off + i, none⟩).isSome = true) ∧ (∀ i, i < cap → w.frozen? ⟨b, off + i, none⟩ = false)

theorem Own.row {w : World} {B k v n f} (h : Own w B k v n f) : Row w k v n f := by
  rcases h with h | ⟨b, off, cap, h1, h2, h3, h4, h5, h6, h7, h8⟩
  · exact .inl h
  · exact .inr ⟨b, off, cap, h1, h2, h3, h5, h6⟩

/-- the integers of a function as cells. -/
def cellsOf (k : IntKind) (f : Nat → Nat) (n : Nat) : List Value := (List.range n).map fun i => .int k (f i)
theorem length_cellsOf (k : IntKind) (f : Nat → Nat) (n : Nat) : (cellsOf k f n).length = n := by simp [cellsOf]
theorem get_cellsOf {k : IntKind} {f : Nat → Nat} {n j : Nat} {u : Value} (h : (cellsOf k f n)[j]? = some u) : j < n ∧ u = .int k (f j) := by
  have hj : j < n := by
    have := (List.getElem?_eq_some_iff.1 h).1
    rwa [length_cellsOf] at this
  refine ⟨hj, ?_⟩
  simp [cellsOf, hj] at h
  exact h.symm
theorem get_cellsOf_lt {k : IntKind} {f : Nat → Nat} {n j : Nat} (hj : j < n) : (cellsOf k f n)[j]? = some (.int k (f j)) := by simp [cellsOf, hj]
theorem one_cellsOf {k : IntKind} {f : Nat → Nat} {n : Nat} : ∀ u ∈ cellsOf k f n, u.oneCell' = true := by
  intro u hu
  obtain ⟨i, _, rfl⟩ := List.mem_map.1 hu
  rfl

theorem Own.of_ownsRow {w : World} {B : Nat} {t : TypeId} {k : IntKind} {v : Value} {n : Nat} {f : Nat → Nat} (h : w.ownsRow B t 1 v n (cellsOf k f n)) : Own w B k v n f := by
  have h0 := h
  rcases h.2 with hn | ⟨g, cap, cur, rfl, hb, hg, h1, h2, h3, h4⟩
  · exact .inl hn
  · refine .inr ⟨g, 0, cap, rfl, h1, h2, hb, ((h0.lt g rfl).2), fun i hi => ?_, fun i hi => ?_, fun i hi => h0.frozenAt _⟩
    case refine_2 =>
      have h5 : i < cur.size := by omega
      simp [World.cell?, hg, h5]
    have := h0.cells (g := g) rfl i _ (get_cellsOf_lt hi)
    rw [Addr.add_lit] at this
    exact this

theorem Own.of_rowIs {w : World} {B b N n : Nat} {t : TypeId} {k : IntKind} {f : Nat → Nat} (h : w.rowIs b t N fun i => .int k (f i)) (hn : n ≤ N) (hN : N ≤ maxLen) (hB : B ≤ b) :
    Own w B k (.slice (some ⟨b, 0, none⟩) n N) n f :=
  .inr ⟨b, 0, N, rfl, hn, hN, hB, h.lt, fun i hi => by rw [Nat.zero_add]; exact h.cell (by omega), fun i hi => by rw [Nat.zero_add, h.cell hi]; rfl, fun i _ => h.frozen _⟩

/-- A call returns a new row of words. -/
def RetOwn (k : IntKind) (n : Nat) (f : Nat → Nat) (w : World) (e : Ending) (w' : World) : Prop := ∃ v, e = .returned v ∧ Own w' w.heap.size k v n f ∧ Below w.heap.size w w'

theorem Own.below {w w' : World} {B k v n f} (h : Own w B k v n f) (hb : Below w.heap.size w w') : Own w' B k v n f := by
  rcases h with h | ⟨b, off, cap, h1, h2, h3, h4, h5, h6, h7, h8⟩
  · exact .inl h
  · exact .inr ⟨b, off, cap, h1, h2, h3, h4, Nat.lt_of_lt_of_le h5 hb.size, fun i hi => by rw [hb.cell (p := ⟨b, off + i, none⟩) h5]; exact h6 i hi, fun i hi => by rw [hb.cell (p := ⟨b, off + i, none⟩) h5]; exact h7 i hi, fun i hi => by rw [hb.frozen (p := ⟨b, off + i, none⟩) h5]; exact h8 i hi⟩
theorem Own.mono {w : World} {B B' k v n f} (h : Own w B k v n f) (hB : B' ≤ B) : Own w B' k v n f := by
  rcases h with h | ⟨b, off, cap, h1, h2, h3, h4, h5⟩
  · exact .inl h
  · exact .inr ⟨b, off, cap, h1, h2, h3, Nat.le_trans hB h4, h5⟩
/-- what is left of a row of one's own behind writes into another block. -/
theorem Own.wrote {w w' : World} {B k v n f} {g o m : Nat} (h : Own w B k v n f) (hw : Wrote g o m w w') (hne : v.ownBlock ≠ some g) : Own w' B k v n f := by
  rcases h with h | ⟨b, off, cap, rfl, h2, h3, h4, h5, h6, h7, h8⟩
  · exact .inl h
  · have e : w'.heap[b]? = w.heap[b]? := hw.grown.block b h5 (by intro e; injection e with e; subst e; exact hne rfl)
    have c : ∀ o, w'.cell? ⟨b, o, none⟩ = w.cell? ⟨b, o, none⟩ := fun o => World.cell?_of_block e
    exact .inr ⟨b, off, cap, rfl, h2, h3, h4, Nat.lt_of_lt_of_le h5 hw.grown.size, fun i hi => by rw [c]; exact h6 i hi, fun i hi => by rw [c]; exact h7 i hi, fun i hi => by rw [World.frozen?_of_block (a := ⟨b, off + i, none⟩) e]; exact h8 i hi⟩
/-- The slice v, of one's own, is the natural number x. -/
def NatOwn (w : World) (B : Nat) (v : Value) (x : Nat) : Prop := ∃ n f, Own w B .u64 v n f ∧ Nrm f n ∧ val f n = x
theorem NatOwn.natV {w : World} {B v x} (h : NatOwn w B v x) : NatV w v x := by
  obtain ⟨n, f, h1, h2, h3⟩ := h
  exact ⟨n, f, h1.row, h2, h3⟩
theorem NatOwn.below {w w' : World} {B v x} (h : NatOwn w B v x) (hb : Below w.heap.size w w') : NatOwn w' B v x := by
  obtain ⟨n, f, h1, h2, h3⟩ := h
  exact ⟨n, f, h1.below hb, h2, h3⟩
theorem NatOwn.mono {w : World} {B B' v x} (h : NatOwn w B v x) (hB : B' ≤ B) : NatOwn w B' v x := by
  obtain ⟨n, f, h1, h2, h3⟩ := h
  exact ⟨n, f, h1.mono hB, h2, h3⟩
end Go.Proofs.YtkggfeemjabdeaaGreatDoor
end
section
namespace Go.Proofs.YtkggfeemjabdeaaGreatDoor
open Go.RowKit

set_option maxHeartbeats 400000 in
theorem clone_nil (w : World) :
    Calls Tryz.prog 83 #[.slice none 0 0] w fun e w' => e = .returned (.slice none 0 0) ∧ w = w' := by
  have h0 := fun (W : World) => Lib.run_eql_slice_nil (P := Tryz.prog) W 60 78 none 0 0 0 0 Tryz.underlying60
  go_enter Tryz.func83, Tryz.ntmps83
  go_wp2
  go_ret
  exact ⟨rfl, rfl⟩

set_option maxHeartbeats 400000 in
theorem clone_some (b off n cap : Nat) (f : Nat → Nat) (w : World) (hn : n ≤ 1000000) (hc : ∀ i, i < n → w.cell? ⟨b, off + i, none⟩ = some (.int .u64 (f i))) :
    Calls Tryz.prog 83 #[.slice (some ⟨b, off, none⟩) n cap] w (RetOwn .u64 n f w) := by
  obtain ⟨i0, hi, hz0, hz1, hz2⟩ := info_parts infoW
  have HC := Lib.hid hc; clear hc
  have h0 := fun (W : World) => Lib.run_eql_slice_nil (P := Tryz.prog) W 60 78 (some ⟨b, off, none⟩) n cap 0 0 Tryz.underlying60
  go_enter Tryz.func83, Tryz.ntmps83
  go_wp2_with ((at_builtin; refine wpList_append_own _ rfl _ _ 60 rfl w.heap.size 78 i0 (.int .u64 0) 1 8 Tryz.underlying60 hi hz0 hz1 hz2 rfl (by decide) _ 0 [] rfl (World.ownsRow_made w #[] 0 (Nat.le_refl _) (Nat.zero_le _) rfl) ⟨b, off, none⟩ n cap (cellsOf .u64 f n) rfl ?c1 ?c2 ?c3 ?c4 ?c5 ?c6 ?_))
  case c1 => rw [length_cellsOf, Nat.mul_one]
  case c2 =>
    intro j u hu
    obtain ⟨hj, rfl⟩ := get_cellsOf hu
    have := HC.out j hj
    rw [Addr.add_lit]
    exact cell_later ((Below.refl _ _).alloc (Nat.le_refl _) _) this
  case c3 => exact one_cellsOf
  case c4 => unfold maxLen; omega
  case c5 => omega
  case c6 => simp
  intro v' w' hown hg _
  have HO := Lib.hid hown; clear hown
  have HG := Lib.hid hg; clear hg
  go_wp2
  go_ret
  refine ⟨v', rfl, Own.of_ownsRow (t := 78) HO.out, ?_⟩
  exact ((Below.refl _ _).alloc (Nat.le_refl _) _).grown HG.out (by simp) (by intro k hk; simp [Value.ownBlock] at hk; omega)

/-- Clone: the same words, in memory of its own. -/
theorem clone_any (v : Value) (n : Nat) (f : Nat → Nat) (w : World) (hn : n ≤ 1000000) (h : Row w .u64 v n f) :
    Calls Tryz.prog 83 #[v] w (RetOwn .u64 n f w) := by
  rcases h with ⟨rfl, rfl⟩ | ⟨b, off, cap, rfl, h1, h2, h3, h4⟩
  · exact (clone_nil w).mono fun e w' h => ⟨_, h.1, .inl ⟨rfl, rfl⟩, h.2 ▸ Below.refl _ _⟩
  · exact clone_some b off n cap f w hn h4
end Go.Proofs.YtkggfeemjabdeaaGreatDoor
end
