/- append(b, 0) at a row of one's own. -/
import Derived.Deep.AppendSrc
import Derived.Test.YtkggfeemjabdeaaGreatDoorPa4
namespace Go.Proofs.YtkggfeemjabdeaaGreatDoor
open Go.RowKit

theorem wpList_append_run {P : Program} {w : World} {ops : Array Oper} {rest : List Oper} {o : Oper} {a : Act} {Q : Exit → Act → World → Prop} (hgd : o.guard = none) (s x : Operand) (t : TypeId)
    (ho : o.op = .call { callee := .builtin .append, args := #[s, x], argTypes := #[t, t] }) (v y : Value) (hs : a.eval s = v) (hx : a.eval x = y) (v' : Value) (w' : World)
    (hr : (Builtin.append_ #[t, t] o.type #[v, y]).run P w = .ok v' w') (h : wpList P ops Q rest (a.put o.dst v') w') : wpList P ops Q (o :: rest) a w :=
  wpList_plain hgd fun _ hK => by
    unfold Oper.wp execOp
    simp only [ho, resolve, invoke, builtin, Sem.run_bind, Sem.run_pure, Result.andThen_ok, List.map_toArray, List.map_cons, List.map_nil, hs, hx, hr]
    exact hK _ _ h

theorem append_zero (B : Nat) (b off m cap : Nat) (g : Nat → Nat) (w : World) (hB : B ≤ w.heap.size) (h : Own w B .u64 (.slice (some ⟨b, off, none⟩) m cap) m g) (hm : m ≤ 1000) (s : Nat) (hx : w.cell? ⟨s, 0, none⟩ = some (.int .u64 0)) :
    ∃ v' w', (Builtin.append_ #[60, 60] 60 #[.slice (some ⟨b, off, none⟩) m cap, .slice (some ⟨s, 0, none⟩) 1 1]).run Tryz.prog w = .ok v' w' ∧ Own w' B .u64 v' (m + 1) (cutf g m) ∧ w.grownBy w' (some b) ∧
      (v'.ownBlock = some b ∨ v'.ownBlock = some w.heap.size) := by
  obtain ⟨i0, hi, hz0, hz1, hz2⟩ := info_parts infoW
  rcases h with ⟨h0, _⟩ | ⟨b1, off1, cap1, h0, h1, h2, h3, h4, h5, h6, h7⟩
  · cases h0
  · injection h0 with h0 _ h0'
    injection h0 with h0
    injection h0 with e1 e2
    subst e1 e2 h0'
    have src : Src Tryz.prog i0.size 60 (.slice (some ⟨s, 0, none⟩) 1 1) 1 [.int .u64 0] w := by
      refine Src.ofSlice w Tryz.underlying60 _ 1 1 _ (by rw [hz1]; rfl) (fun j u hu => ?_) (fun u hu => ?_)
      · match j, hu with
        | 0, hu => simp at hu; subst hu; rw [Addr.add_lit]; exact hx
      · simp at hu; subst hu; rfl
    by_cases hroom : m + 1 ≤ cap
    · have hr := run_append_room_src (P := Tryz.prog) (w := w) 60 60 60 78 i0 Tryz.underlying60 hi b off m cap _ 1 [.int .u64 0] src hroom (fun j hj => by
        obtain rfl : j = 0 := by simpa using hj
        rw [hz1, Nat.mul_one, Nat.add_zero]; exact h6 m (by omega)) (fun j hj => by
        obtain rfl : j = 0 := by simpa using hj
        rw [hz1, Nat.mul_one, Nat.add_zero]; exact h7 m (by omega))
      rw [hz1, Nat.mul_one] at hr
      obtain ⟨u, hu⟩ := Option.isSome_iff_exists.1 (h6 m (by omega))
      have hc : ∀ o, o ≠ off + m → (w.setCell ⟨b, off + m, none⟩ (.int .u64 0)).cell? ⟨b, o, none⟩ = w.cell? ⟨b, o, none⟩ := fun o ho => World.cell?_setCell_other (h := by intro e; injection e with _ e2; omega) ..
      have hc2 := World.cell?_setCell_same _ _ (.int .u64 0) hu
      refine ⟨_, _, hr, .inr ⟨b, off, cap, rfl, hroom, h2, h3, by simpa [World.setCells] using h4, fun i hin => ?_, fun i hin => ?_, fun i hin => ?_⟩, ?_, .inl rfl⟩
      · by_cases hi2 : i = m
        · subst hi2; rw [cutf_ge (Nat.le_refl _)]; exact hc2
        · rw [cutf_lt (by omega)]; exact (hc _ (by omega)).trans (h5 i (by omega))
      · by_cases hi2 : i = m
        · subst hi2; exact (congrArg Option.isSome hc2).trans rfl
        · exact (congrArg Option.isSome (hc _ (by omega))).trans (h6 i hin)
      · show (w.setCell _ _).frozen? _ = false
        rw [World.frozen?_setCell]; exact h7 i hin
      · exact ⟨rfl, rfl, rfl, by simp [World.setCells], fun k _ hk => Below.heap_setCell w _ _ k (by intro e; exact hk (by rw [e]))⟩
    · obtain rfl : cap = m := by omega
      have olds : (Builtin.firstCells i0.size cap (.slice (some ⟨b, off, none⟩) cap cap)).run Tryz.prog w.drew = .ok (cellsOf .u64 g cap).toArray w.drew := by
        refine run_firstCells_some w.drew i0.size cap ⟨b, off, none⟩ cap cap _ (by rw [hz1, length_cellsOf, Nat.mul_one]) (fun j u hu => ?_)
        obtain ⟨hj, rfl⟩ := get_cellsOf hu
        rw [Addr.add_lit]; exact h5 j hj
      have hr := run_append_grow_src (P := Tryz.prog) (w := w) 60 60 60 78 i0 (.int .u64 0) Tryz.underlying60 hi hz0 (some ⟨b, off, none⟩) cap cap (cellsOf .u64 g cap) olds _ 1 [.int .u64 0] src (by omega) (by omega) (growslice_fits (by omega) (by rw [hz2]; omega))
      have hge := grownCap_ge w (cap + 1) cap 78
      have hcm := grownCap_le_maxLen w (cap + 1) cap 78 (by unfold maxLen; omega)
      generalize grownCap w (cap + 1) cap 78 = G at *
      have hsz : ((cellsOf .u64 g cap ++ [Value.int .u64 0]).toArray ++ Builtin.zeroCells (Value.int .u64 0).cells (G - (cap + 1))).size = G := by
        rw [Array.size_append, List.size_toArray, size_zeroCells, List.length_append, length_cellsOf]
        show cap + 1 + (G - (cap + 1)) * 1 = G
        omega
      have hgt : ∀ i, i < cap + 1 → ((cellsOf .u64 g cap ++ [Value.int .u64 0]).toArray ++ Builtin.zeroCells (Value.int .u64 0).cells (G - (cap + 1)))[i]? = some (.int .u64 (cutf g cap i)) := by
        intro i hin
        rw [Array.getElem?_append_left (by rw [List.size_toArray, List.length_append, length_cellsOf]; exact hin), List.getElem?_toArray]
        by_cases hi2 : i = cap
        · subst hi2
          rw [List.getElem?_append_right (by rw [length_cellsOf]; exact Nat.le_refl _), length_cellsOf, Nat.sub_self, cutf_ge (Nat.le_refl _)]; rfl
        · rw [List.getElem?_append_left (by rw [length_cellsOf]; omega), get_cellsOf_lt (by omega), cutf_lt (by omega)]
      generalize (cellsOf .u64 g cap ++ [Value.int .u64 0]).toArray ++ Builtin.zeroCells (Value.int .u64 0).cells (G - (cap + 1)) = arr at *
      refine ⟨_, _, hr, .inr ⟨w.heap.size, 0, G, rfl, hge, hcm, hB, by simp, fun i hin => ?_, fun i hin => ?_, fun i hin => ?_⟩, ?_, .inr rfl⟩
      · rw [Nat.zero_add]
        exact (World.cell?_alloc_new w.drew arr 78 i).trans (hgt i hin)
      · rw [Nat.zero_add]
        refine (congrArg Option.isSome (World.cell?_alloc_new w.drew arr 78 i)).trans ?_
        simp [hsz, hin]
      · rw [Nat.zero_add]
        exact World.frozen?_alloc_new w.drew arr 78 i
      · exact ⟨rfl, rfl, rfl, by simp, fun k hk _ => Below.heap_alloc w.drew _ k hk⟩

theorem Own.set {w : World} {B b off n cap i : Nat} {k : IntKind} {f : Nat → Nat} (h : Own w B k (.slice (some ⟨b, off, none⟩) n cap) n f) (hi : i < n) (x : Nat) : Own (w.setCell ⟨b, off + i, none⟩ (.int k x)) B k (.slice (some ⟨b, off, none⟩) n cap) n (upd f i x) := by
  rcases h with ⟨h0, _⟩ | ⟨b1, off1, cap1, h0, h1, h2, h3, h4, h5, h6, h7⟩
  · cases h0
  · cases h0
    refine .inr ⟨b, off, cap, rfl, h1, h2, h3, by simpa using h4, cells_set h5 hi x, fun j hj => ?_, fun j hj => by rw [World.frozen?_setCell]; exact h7 j hj⟩
    by_cases e : j = i
    · subst e; rw [cells_set h5 hi x j hi]; rfl
    · rw [World.cell?_setCell_other (h := by intro c; injection c with _ c2; omega)]; exact h6 j hj
theorem Own.setOther {w : World} {B n : Nat} {k : IntKind} {v : Value} {f : Nat → Nat} (h : Own w B k v n f) {p : Addr} (hp : v.ownBlock ≠ some p.block) (u : Value) : Own (w.setCell p u) B k v n f := by
  rcases h with h | ⟨b, off, cap, rfl, h1, h2, h3, h4, h5, h6, h7⟩
  · exact .inl h
  · have hne : p.block ≠ b := by intro e; exact hp (by rw [e]; rfl)
    have c : ∀ o, (w.setCell p u).cell? ⟨b, o, none⟩ = w.cell? ⟨b, o, none⟩ := fun o => World.cell?_setCell_other (h := by rintro rfl; exact hne rfl) ..
    exact .inr ⟨b, off, cap, rfl, h1, h2, h3, by simpa using h4, fun i hi => (c _).trans (h5 i hi), fun i hi => by rw [c]; exact h6 i hi, fun i hi => by rw [World.frozen?_setCell]; exact h7 i hi⟩
theorem Own.drewN {w : World} {B n : Nat} {k : IntKind} {v : Value} {f : Nat → Nat} (h : Own w B k v n f) (q : Nat) : Own (w.drewN q) B k v n f := h
theorem Own.grown {w w' : World} {B n : Nat} {k : IntKind} {v : Value} {f : Nat → Nat} {r : Nat} (h : Own w B k v n f) (hg : w.grownBy w' (some r)) (hne : v.ownBlock ≠ some r) : Own w' B k v n f := by
  rcases h with h | ⟨b, off, cap, rfl, h2, h3, h4, h5, h6, h7, h8⟩
  · exact .inl h
  · have e : w'.heap[b]? = w.heap[b]? := hg.block b h5 (by intro e; injection e with e; subst e; exact hne rfl)
    have c : ∀ o, w'.cell? ⟨b, o, none⟩ = w.cell? ⟨b, o, none⟩ := fun o => World.cell?_of_block e
    exact .inr ⟨b, off, cap, rfl, h2, h3, h4, Nat.lt_of_lt_of_le h5 hg.size, fun i hi => by rw [c]; exact h6 i hi, fun i hi => by rw [c]; exact h7 i hi, fun i hi => by rw [World.frozen?_of_block (a := ⟨b, off + i, none⟩) e]; exact h8 i hi⟩
end Go.Proofs.YtkggfeemjabdeaaGreatDoor
