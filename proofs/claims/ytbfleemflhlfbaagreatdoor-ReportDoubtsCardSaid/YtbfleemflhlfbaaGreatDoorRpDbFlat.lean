/- Reports as cells, in one row; a row of the call's own. -/
import Derived.Test.YtbfleemflhlfbaaGreatDoorRpDbMath
import Derived.Test.YtbfleemflhlfbaaGreatDoorRpAwake
import Derived.Laws.AppendOwn
namespace Go.Proofs.YtbfleemflhlfbaaGreatDoor
open Go.RowKit

def cells7 (r : Rpt) : List Value := [.int .i64 r.1.kind, .int .i64 r.1.time, .string r.1.src, .string r.1.abt, r.2.1, .int .i64 r.1.souls, .int .i64 r.1.trust]
def flat : List Rpt → List Value
  | [] => []
  | r :: l => cells7 r ++ flat l
theorem flat_len (l : List Rpt) : (flat l).length = l.length * 7 := by
  induction l with
  | nil => rfl
  | cons r l ih =>
    show (cells7 r ++ flat l).length = _
    rw [List.length_append, ih, List.length_cons]
    show 7 + _ = _
    omega
theorem flat_app (l m : List Rpt) : flat (l ++ m) = flat l ++ flat m := by
  induction l with
  | nil => rfl
  | cons r l ih =>
    show cells7 r ++ flat (l ++ m) = (cells7 r ++ flat l) ++ flat m
    rw [ih, List.append_assoc]
theorem flat_get : ∀ (l : List Rpt) (k : Nat) (r : Rpt), l[k]? = some r → ∀ i, i < 7 → (flat l)[k * 7 + i]? = (cells7 r)[i]? := by
  intro l
  induction l with
  | nil => intro k r h; simp at h
  | cons a l ih =>
    intro k r h i hi
    have h7 : (cells7 a).length = 7 := rfl
    show (cells7 a ++ flat l)[k * 7 + i]? = _
    cases k with
    | zero =>
      have e : a = r := by simpa using h
      subst e
      rw [List.getElem?_append_left (by rw [h7]; omega)]
      congr 1; omega
    | succ k =>
      rw [List.getElem?_append_right (by rw [h7]; omega), h7, show (k + 1) * 7 + i - 7 = k * 7 + i by omega]
      exact ih k r (by simpa using h) i hi
theorem flat_inv {l : List Rpt} {j : Nat} {u : Value} (h : (flat l)[j]? = some u) : ∃ r, l[j / 7]? = some r ∧ (cells7 r)[j % 7]? = some u := by
  have hj : j < l.length * 7 := by rw [← flat_len]; exact (List.getElem?_eq_some_iff.1 h).1
  have hk : j / 7 < l.length := by omega
  refine ⟨l[j / 7], List.getElem?_eq_getElem hk, ?_⟩
  rw [← flat_get l (j / 7) _ (List.getElem?_eq_getElem hk) (j % 7) (by omega), show j / 7 * 7 + j % 7 = j by omega]
  exact h
theorem at_cells {w : World} {b o : Nat} {r : Rpt} (h : RepAt w b o r.1 r.2.1) {i : Nat} {u : Value} (hi : (cells7 r)[i]? = some u) : w.cell? ⟨b, o + i, none⟩ = some u := by
  obtain ⟨c0, c1, c2, c3, c4, c5, c6⟩ := h
  have hl : i < 7 := (List.getElem?_eq_some_iff.1 hi).1
  have : i = 0 ∨ i = 1 ∨ i = 2 ∨ i = 3 ∨ i = 4 ∨ i = 5 ∨ i = 6 := by omega
  rcases this with rfl | rfl | rfl | rfl | rfl | rfl | rfl <;> (injection hi with hi; subst hi)
  · exact c0
  · exact c1
  · exact c2
  · exact c3
  · exact c4
  · exact c5
  · exact c6
theorem cells_at {w : World} {b o : Nat} {r : Rpt} (h : ∀ i u, (cells7 r)[i]? = some u → w.cell? ⟨b, o + i, none⟩ = some u) : RepAt w b o r.1 r.2.1 :=
  ⟨h 0 _ rfl, h 1 _ rfl, h 2 _ rfl, h 3 _ rfl, h 4 _ rfl, h 5 _ rfl, h 6 _ rfl⟩
theorem add_at (b o j : Nat) : (⟨b, o, none⟩ : Addr).add j = ⟨b, o + j, none⟩ := by
  unfold Addr.add
  split
  · rename_i h; rw [h]; rfl
  · rfl
/-- all reports of a list lie in a row of cells. -/
def RepsAt (w : World) (b o : Nat) (l : List Rpt) : Prop := ∀ k s wv q, l[k]? = some (s, wv, q) → RepAt w b (o + k * 7) s wv
theorem RepsAt.cells {w : World} {b o : Nat} {l : List Rpt} (h : RepsAt w b o l) : ∀ j u, (flat l)[j]? = some u → w.cell? ((⟨b, o, none⟩ : Addr).add j) = some u := by
  intro j u hj
  obtain ⟨⟨s, wv, q⟩, h1, h2⟩ := flat_inv hj
  rw [add_at, show o + j = o + j / 7 * 7 + j % 7 by omega]
  exact at_cells (r := (s, wv, q)) (h _ s wv q h1) h2
theorem RepsAt.of {w : World} {b o : Nat} {l : List Rpt} (h : ∀ j u, (flat l)[j]? = some u → w.cell? ((⟨b, o, none⟩ : Addr).add j) = some u) : RepsAt w b o l := by
  intro k s wv q hk
  refine cells_at (r := (s, wv, q)) fun i u hi => ?_
  have h7 : i < 7 := (List.getElem?_eq_some_iff.1 hi).1
  have := h (k * 7 + i) u (by rw [flat_get l k _ hk i h7]; exact hi)
  rw [add_at, ← Nat.add_assoc] at this
  exact this
theorem RepsAt.keep {w w' : World} {b o : Nat} {l : List Rpt} (h : RepsAt w b o l) {n : Nat} (hb : Below n w w') (hbn : b < n) : RepsAt w' b o l := fun k s wv q hk => (h k s wv q hk).keep hb hbn
theorem RepsAt.drop {w : World} {b o : Nat} {l : List Rpt} (h : RepsAt w b o l) (n : Nat) : RepsAt w b (o + n * 7) (l.drop n) := by
  intro k s wv q hk
  rw [List.getElem?_drop] at hk
  have := h _ s wv q hk
  rwa [show o + n * 7 + k * 7 = o + (n + k) * 7 by omega]
theorem RepsAt.take {w : World} {b o : Nat} {l : List Rpt} (h : RepsAt w b o l) (n : Nat) : RepsAt w b o (l.take n) := by
  intro k s wv q hk
  rw [List.getElem?_take] at hk
  split at hk
  · exact h _ s wv q hk
  · simp at hk
theorem flat_one {w : World} {l : List Rpt} (h : ∀ r ∈ l, Says w r) : ∀ u ∈ flat l, u.oneCell' = true := by
  induction l with
  | nil => intro u hu; cases hu
  | cons r l ih =>
    intro u hu
    rcases List.mem_append.1 hu with hu | hu
    · obtain ⟨⟨A, n, c, hs⟩, -⟩ := h r (List.mem_cons_self ..)
      unfold cells7 at hu
      rw [hs] at hu
      simp only [List.mem_cons, List.not_mem_nil, or_false] at hu
      rcases hu with rfl | rfl | rfl | rfl | rfl | rfl | rfl <;> rfl
    · exact ih (fun r hr => h r (List.mem_cons_of_mem _ hr)) u hu
theorem turned (l : List Rpt) (n : Nat) : ∀ r, r ∈ l ↔ r ∈ l.drop n ++ l.take n := fun r => by
  have h := List.take_append_drop n l
  constructor
  · intro hr; rw [← h] at hr; exact List.mem_append.2 ((List.mem_append.1 hr).symm)
  · intro hr; rw [← h]; exact List.mem_append.2 ((List.mem_append.1 hr).symm)
theorem doubt_form (l : List Rpt) : ∃ c d e, doubtV l = .tuple #[.int .i64 c, .int .i64 d, .int .i64 e] := by
  unfold doubtV
  split
  · exact ⟨_, _, _, rfl⟩
  · split
    · split
      · exact ⟨_, _, _, rfl⟩
      · exact ⟨_, _, _, rfl⟩
    · exact ⟨_, _, _, rfl⟩
theorem prod_const {α : Type} (c : Int) : ∀ l : List α, prodF (fun _ => c) l = c ^ l.length := by
  intro l
  induction l with
  | nil => exact (Int.pow_zero c).symm
  | cons a r ih =>
    show c * prodF (fun _ => c) r = _
    rw [ih, List.length_cons, Int.pow_succ, Int.mul_comm]
/-- what is left is small. -/
theorem doubt_small {l : List Rpt} {c d : Int} (hl : l ≠ []) (h : doubtV l = .tuple #[.int .i64 c, .int .i64 d, .int .i64 0]) : c ≤ 1000000000000000000 ∧ d ≤ 1000000000000000000 := by
  cases e : allOk l with
  | false => unfold doubtV at h; rw [if_neg hl, e] at h; simp at h
  | true =>
    obtain ⟨es, he, h1, h2⟩ := neat_of (sts l)
    rw [doubt_is hl e he] at h
    have hlen : ¬ es.length > 6 := by
      intro g; rw [if_pos g] at h; simp at h
    rw [if_neg hlen] at h
    injection h with h
    simp only [Array.mk.injEq, List.cons.injEq, Value.int.injEq, true_and, and_true] at h
    obtain ⟨hc, hd⟩ := h
    subst hc hd
    have hp := pow_le6 (Nat.le_of_not_gt hlen)
    refine ⟨Int.le_trans ?_ hp, hp⟩
    rw [facts_mx he h1 h2]
    have h3 := (prod_le (F := fun u => 1000 - mxF (litB u) 0 (sts l)) (G := fun _ => 1000) (l := es.map (·.1)) fun u _ => by
      have g1 := mx_le (u := litB u) (c := 1000) (sts l) 0 (by decide) (fun s hs _ => by
        obtain ⟨q, hq, rfl⟩ := List.mem_map.1 hs
        exact (ok_range e q hq).2)
      have g2 := mx_up (litB u) (sts l) 0
      omega).2
    rw [prod_const, List.length_map] at h3
    exact h3
theorem infoR : (Tryz.prog.info? 33).map (fun i => (i.zero, i.size, i.bytes)) = some (some (.agg #[.int .i64 0, .int .i64 0, .string ⟨#[]⟩, .string ⟨#[]⟩, .slice none 0 0, .int .i64 0, .int .i64 0]), 7, 88) := by kernel_rfl
theorem sliceR : Tryz.prog.underlying 40 = some (.slice 33) := by kernel_rfl
end Go.Proofs.YtbfleemflhlfbaaGreatDoor
