/- A row of the call's own, at whatever offset of its block. -/
import Derived.Laws.OwnMore
import Derived.ArgAppend
namespace Go.Proofs.Ytmbhjfembfidnaa.Sx
open Go

def OwnAt (w : World) (base : Nat) (e : TypeId) (size : Nat) (v : Value) (n : Nat) (xs : List Value) : Prop :=
  xs.length = n * size ∧
  ((v = .slice none 0 0 ∧ n = 0) ∨
   ∃ g cap cur, v.ownBlock = some g ∧ base ≤ g ∧ w.heap[g]? = some (.cells cur e (0, 0)) ∧ n ≤ cap ∧ cap ≤ maxLen ∧ ∃ off, v = .slice (some ⟨g, off, none⟩) n cap ∧ off + cap * size ≤ cur.size ∧ (cur.toList.drop off).take (n * size) = xs)
section
variable {w : World} {base : Nat} {e : TypeId} {size : Nat} {v : Value} {n : Nat} {xs : List Value}
theorem OwnAt.nil (w : World) (base : Nat) (e : TypeId) (size : Nat) : OwnAt w base e size (.slice none 0 0) 0 [] := ⟨by simp, .inl ⟨rfl, rfl⟩⟩
theorem OwnAt.of_row (h : w.ownsRow base e size v n xs) : OwnAt w base e size v n xs := by
  refine ⟨h.1, ?_⟩
  rcases h.2 with h1 | ⟨g, cap, cur, rfl, hb, hg, hnc, hcm, hcs, ht⟩
  · exact .inl h1
  · exact .inr ⟨g, cap, cur, rfl, hb, hg, hnc, hcm, 0, rfl, by omega, by rw [List.drop_zero]; exact ht⟩
theorem OwnAt.lt (h : OwnAt w base e size v n xs) : ∀ k, v.ownBlock = some k → base ≤ k ∧ k < w.heap.size := by
  intro k hk
  rcases h.2 with ⟨rfl, -⟩ | ⟨g, cap, cur, hv, hb, hg, -⟩
  · cases hk
  · rw [hv] at hk; cases hk
    exact ⟨hb, (Array.getElem?_eq_some_iff.1 hg).1⟩
theorem OwnAt.world {w' : World} (h : OwnAt w base e size v n xs) (hb : ∀ b, v.ownBlock = some b → w'.heap[b]? = w.heap[b]?) : OwnAt w' base e size v n xs := by
  refine ⟨h.1, ?_⟩
  rcases h.2 with h1 | ⟨g, cap, cur, hv, hbg, hg, rest⟩
  · exact .inl h1
  · exact .inr ⟨g, cap, cur, hv, hbg, by rw [hb g hv]; exact hg, rest⟩
theorem OwnAt.mono {base' : Nat} (h : OwnAt w base e size v n xs) (hb : base' ≤ base) : OwnAt w base' e size v n xs := by
  refine ⟨h.1, ?_⟩
  rcases h.2 with h1 | ⟨g, cap, cur, hv, hbg, rest⟩
  · exact .inl h1
  · exact .inr ⟨g, cap, cur, hv, by omega, rest⟩
theorem own_cell {g off j : Nat} {cur : Array Value} (hg : w.heap[g]? = some (.cells cur e (0, 0))) (ht : (cur.toList.drop off).take (n * size) = xs) (hj : j < n * size) : w.cell? ⟨g, off + j, none⟩ = xs[j]? := by
  rw [cell_of_row w g (off + j) cur e (0, 0) hg, ← ht, List.getElem?_take, if_pos hj, List.getElem?_drop]
  simp
theorem OwnAt.cells {a : Addr} {cap : Nat} (h : OwnAt w base e size (.slice (some a) n cap) n xs) : ∀ j u, xs[j]? = some u → w.cell? (a.add j) = some u := by
  intro j u hj
  rcases h.2 with ⟨h1, -⟩ | ⟨g, cap', cur, hv, hb, hg, hnc, hcm, off, hv2, hfit, ht⟩
  · cases h1
  · cases hv2
    have hjl : j < n * size := by rw [← h.1]; exact (List.getElem?_eq_some_iff.1 hj).1
    rw [Addr.add_lit, own_cell hg ht hjl, hj]
/-- To store into it. -/
theorem OwnAt.stored {g off cap : Nat} (h : OwnAt w base e size (.slice (some ⟨g, off, none⟩) n cap) n xs) (j : Nat) (hj : j < n * size) (u : Value) :
    OwnAt (w.setCell ⟨g, off + j, none⟩ u) base e size (.slice (some ⟨g, off, none⟩) n cap) n (xs.set j u) ∧ w.grownBy (w.setCell ⟨g, off + j, none⟩ u) (some g) := by
  rcases h.2 with ⟨h1, -⟩ | ⟨g', cap', cur, hv, hb, hg, hnc, hcm, off', hv2, hfit, ht⟩
  · cases h1
  · cases hv2
    cases hv
    refine ⟨⟨by simpa using h.1, .inr ⟨g, cap, cur.setIfInBounds (off + j) u, rfl, hb, heap_setCell_same w g (off + j) cur e u hg, hnc, hcm, off, rfl, by simpa using hfit, ?_⟩⟩,
      ⟨rfl, rfl, rfl, by simp, fun k _ hk => heap_setCell_other w ⟨g, off + j, none⟩ k u (fun e => hk (by simp [e]))⟩⟩
    rw [Array.toList_setIfInBounds, ← ht]
    apply List.ext_getElem?
    intro i
    rw [List.getElem?_take, List.getElem?_drop, List.getElem?_set, List.getElem?_set]
    have h2 : n * size ≤ cap * size := Nat.mul_le_mul_right _ hnc
    by_cases hi : j = i
    · subst hi
      have h3 : off + j < cur.toList.length := by rw [Array.length_toList]; omega
      have h5 : j < ((cur.toList.drop off).take (n * size)).length := by rw [List.length_take, List.length_drop]; omega
      rw [if_pos hj, if_pos rfl, if_pos rfl, if_pos h3, if_pos h5]
    · rw [if_neg (show ¬ off + j = off + i by omega), if_neg hi, List.getElem?_take, List.getElem?_drop]
theorem OwnAt.frozenAt {g off cap : Nat} (h : OwnAt w base e size (.slice (some ⟨g, off, none⟩) n cap) n xs) (j : Nat) : w.frozen? ⟨g, j, none⟩ = false := by
  rcases h.2 with ⟨h1, -⟩ | ⟨g', cap', cur, hv, hb, hg, -⟩
  · cases h1
  · cases hv
    exact frozen_of_row w g j cur e hg
theorem OwnAt.cellAt {g off cap : Nat} (h : OwnAt w base e size (.slice (some ⟨g, off, none⟩) n cap) n xs) (j : Nat) (hj : j < n * size) : w.cell? ⟨g, off + j, none⟩ = xs[j]? := by
  rcases h.2 with ⟨h1, -⟩ | ⟨g', cap', cur, hv, hb, hg, hnc, hcm, off', hv2, hfit, ht⟩
  · cases h1
  · cases hv2
    cases hv
    exact own_cell hg ht hj
/-- A part of it. -/
theorem OwnAt.sub {g off cap lo hi : Nat} (h : OwnAt w base e size (.slice (some ⟨g, off, none⟩) n cap) n xs) (h1 : lo ≤ hi) (h2 : hi ≤ n) {off' : Nat} (ho : off' = off + lo * size ∨ cap = lo ∧ off' = off) :
    OwnAt w base e size (.slice (some ⟨g, off', none⟩) (hi - lo) (cap - lo)) (hi - lo) ((xs.take (hi * size)).drop (lo * size)) := by
  rcases h.2 with ⟨e1, -⟩ | ⟨g', cap', cur, hv, hb, hg, hnc, hcm, off2, hv2, hfit, ht⟩
  · cases e1
  · cases hv2
    cases hv
    have hm : (hi - lo) * size = hi * size - lo * size := Nat.sub_mul _ _ _
    have hm2 : (cap - lo) * size = cap * size - lo * size := Nat.sub_mul _ _ _
    have a1 : lo * size ≤ hi * size := Nat.mul_le_mul_right _ h1
    have a2 : hi * size ≤ n * size := Nat.mul_le_mul_right _ h2
    have a3 : n * size ≤ cap * size := Nat.mul_le_mul_right _ hnc
    refine ⟨by rw [List.length_drop, List.length_take, h.1, hm]; omega, .inr ⟨g, cap - lo, cur, rfl, hb, hg, by omega, by omega, off', rfl, ?_, ?_⟩⟩
    · rcases ho with rfl | ⟨rfl, rfl⟩
      · omega
      · rw [Nat.sub_self, Nat.zero_mul]; omega
    · rcases ho with rfl | ⟨rfl, rfl⟩
      · rw [← ht, hm]
        apply List.ext_getElem?
        intro i
        rw [List.getElem?_take, List.getElem?_drop, List.getElem?_drop, List.getElem?_take, List.getElem?_take, List.getElem?_drop]
        by_cases hi2 : i < hi * size - lo * size
        · rw [if_pos hi2, if_pos (by omega), if_pos (by omega)]
          congr 1
          omega
        · rw [if_neg hi2, if_neg (by omega)]
      · have e0 : hi - cap = 0 := by omega
        rw [e0, Nat.zero_mul, List.take_zero]
        symm
        apply List.drop_eq_nil_of_le
        rw [List.length_take, h.1]
        omega
end
section
variable {P : Program} {w : World} {base : Nat} {t ty e : TypeId} {i : TypeInfo} {z : Value} {size bytes : Nat}
theorem own_append_none (ht : P.underlying t = some (.slice e)) (hi : P.info? e = some i) {v : Value} {n : Nat} {xs : List Value} (hown : OwnAt w base e size v n xs) :
    (Builtin.append_ #[t, t] ty #[v, .slice none 0 0]).run P w = .ok v w := by
  rcases hown.2 with ⟨rfl, rfl⟩ | ⟨g, cap, cur, _, _, _, hnc, _, off, rfl, _⟩
  · simp [Builtin.append_, run_underlying ht, sizeOf, typeInfo, hi, Builtin.lenOf, Builtin.firstCells]
  · simp [Builtin.append_, run_underlying ht, sizeOf, typeInfo, hi, Builtin.lenOf, Builtin.firstCells, hnc, storeCells]
theorem cells_set {g : Nat} {e : TypeId} : ∀ (vs : List Value) (o : Nat) (w : World) (cur : Array Value), w.heap[g]? = some (.cells cur e (0, 0)) →
    ∃ cur', (w.setCells g o vs).heap[g]? = some (.cells cur' e (0, 0)) ∧ cur'.size = cur.size ∧ (∀ i, i < o → cur'[i]? = cur[i]?) ∧ (∀ i u, vs[i]? = some u → o + i < cur.size → cur'[o + i]? = some u) ∧ (w.setCells g o vs).os = w.os ∧ (w.setCells g o vs).tape = w.tape ∧ (w.setCells g o vs).output = w.output ∧ (w.setCells g o vs).heap.size = w.heap.size ∧ ∀ k, k ≠ g → (w.setCells g o vs).heap[k]? = w.heap[k]?
  | [], o, w, cur, hg => ⟨cur, hg, rfl, fun _ _ => rfl, fun i u h => by simp at h, rfl, rfl, rfl, rfl, fun _ _ => rfl⟩
  | v :: vs, o, w, cur, hg => by
    obtain ⟨c, h1, h2, h3, h4, h5, h6, h7, h8, h9⟩ := cells_set vs (o + 1) (w.setCell ⟨g, o, none⟩ v) _ (heap_setCell_same w g o cur e v hg)
    refine ⟨c, h1, by rw [h2]; simp, fun i hi => ?_, fun i u hu hs => ?_, h5, h6, h7, by rw [World.setCells, h8]; simp, fun k hk => ?_⟩
    · rw [h3 i (by omega), Array.getElem?_setIfInBounds, if_neg (by omega)]
    · cases i with
      | zero =>
        simp only [List.getElem?_cons_zero, Option.some.injEq] at hu
        subst hu
        rw [h3 (o + 0) (by omega), Array.getElem?_setIfInBounds, if_pos (by omega), if_pos (by omega)]
      | succ i =>
        rw [List.getElem?_cons_succ] at hu
        rw [show o + (i + 1) = o + 1 + i by omega]
        exact h4 i u hu (by simp; omega)
    · rw [World.setCells, h9 k hk]
      exact heap_setCell_other w ⟨g, o, none⟩ k v (fun e => hk (by simp [e]))
/-- Where what was appended to stands then. -/
theorem own_append (ht : P.underlying t = some (.slice e)) (hi : P.info? e = some i) (hz : i.zero = some z)
    (hsize : i.size = size) (hby : i.bytes = bytes) (hzs : z.cells.size = size) (hsz : 0 < size)
    {v : Value} {n : Nat} {xs : List Value} (hown : OwnAt w base e size v n xs)
    {a : Addr} {m c : Nat} {news : List Value} (hl : news.length = m * size) (hnews : ∀ j u, news[j]? = some u → w.cell? (a.add j) = some u) (h1 : ∀ u ∈ news, u.oneCell' = true)
    (h63 : n + m ≤ maxLen) (hbytes : (n + m) * bytes ≤ 140737488355328) (hbase : base ≤ w.heap.size) :
    ∃ v' w', (Builtin.append_ #[t, t] ty #[v, .slice (some a) m c]).run P w = .ok v' w' ∧ OwnAt w' base e size v' (n + m) (xs ++ news) ∧ w.grownBy w' v.ownBlock ∧
      (∀ b, v'.ownBlock = some b → v.ownBlock = some b ∨ w.heap.size ≤ b) := by
  rcases hown.2 with ⟨rfl, rfl⟩ | ⟨g, cap, cur, hv, hbg, hg, hnc, hcm, off, rfl, hfit, htake⟩
  · have hx : xs = [] := List.eq_nil_of_length_eq_zero (by simpa using hown.1)
    subst hx
    obtain ⟨v', w', hr, h2, h3, -⟩ := run_append_own (P := P) w w.heap.size t ty e i z size bytes ht hi hz hsize hby hzs hsz (.slice none 0 0) 0 [] (World.ownsRow_nil w _ e size) a m c news hl hnews h1 h63 hbytes (Nat.le_refl _)
    exact ⟨v', w', hr, (OwnAt.of_row h2).mono hbase, h3, fun b hb => .inr ((OwnAt.of_row h2).lt b hb).1⟩
  · by_cases hroom : n + m ≤ cap
    · subst hsize
      have hcap : (n + m) * i.size ≤ cap * i.size := Nat.mul_le_mul_right _ hroom
      rw [Nat.add_mul] at hcap
      have hr := run_append_room_cells (P := P) w t ty e i ht hi g off n cap a m c news hl hnews h1 hroom (fun j hj => by
        rw [cell_of_row w g _ cur e (0, 0) hg]
        have : off + n * i.size + j < cur.size := by omega
        simp [this]) (fun j _ => frozen_of_row w g _ cur e hg)
      obtain ⟨c', k1, k2, k3, k4, k5, k6, k7, k8, k9⟩ := cells_set news (off + n * i.size) w cur hg
      refine ⟨_, _, hr, ⟨by rw [List.length_append, hown.1, hl, Nat.add_mul], .inr ⟨g, cap, c', rfl, hbg, k1, hroom, hcm, off, rfl, by rw [k2]; exact hfit, ?_⟩⟩, ⟨k5, k6, k7, by rw [k8]; exact Nat.le_refl _, fun k _ hk => k9 k (fun e => hk (by rw [e]; rfl))⟩, fun b hb => .inl hb⟩
      apply List.ext_getElem?
      intro j
      rw [List.getElem?_take, List.getElem?_drop, Array.getElem?_toList, List.getElem?_append, hown.1]
      by_cases hj : j < n * i.size
      · rw [if_pos (by rw [Nat.add_mul]; omega), if_pos hj, k3 _ (by omega), ← htake, List.getElem?_take, if_pos hj, List.getElem?_drop, Array.getElem?_toList]
      · rw [if_neg hj]
        by_cases hj2 : j < (n + m) * i.size
        · rw [if_pos hj2]
          rw [Nat.add_mul] at hj2
          have hjl : j - n * i.size < news.length := by omega
          rw [List.getElem?_eq_getElem hjl, show off + j = off + n * i.size + (j - n * i.size) by omega]
          exact k4 _ _ (List.getElem?_eq_getElem hjl) (by omega)
        · rw [if_neg hj2]
          rw [Nat.add_mul] at hj2
          symm
          exact List.getElem?_eq_none (by omega)
    · obtain ⟨v', w', hr, h2, h3⟩ := run_append_arg_grows (P := P) w t ty e i z size bytes ht hi hz hsize hby hzs hsz ⟨g, off, none⟩ n cap xs hown.1 hown.cells a m c news hl hnews (by omega) h63 hbytes
      exact ⟨v', w', hr, (OwnAt.of_row h2).mono hbase, ⟨h3.os, h3.tape, h3.output, h3.size, fun k hk hne => h3.block k hk (by simp)⟩, fun b hb => .inr ((OwnAt.of_row h2).lt b hb).1⟩
end
end Go.Proofs.Ytmbhjfembfidnaa.Sx
