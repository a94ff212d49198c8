/- Fractions as rational numbers; sums, sums of quotients. rank: the order of a list. The insertion sort of a few indices. The stable sort of a few indices; rank. Rank; reach. reach: how many of the greatest elements have a sum. attempt on a call that returns an integer; Cover. Cover. Share and Sum. WeightFewest: the mathematics. -/
import Derived.Test.YtkggfeemjabdeaaGreatDoorPa7
import Derived.Test.YtkggfeemjabdeaaGreatDoorPa30
import Derived.Test.YtkggfeemjabdeaaGreatDoorPa31
section
namespace Go.Proofs.YtkggfeemjabdeaaGreatDoor.Wc
open Go

/-- The number that a fraction is. -/
def qv (x : Nat × Nat) : Rat := (x.1 : Rat) / (x.2 : Rat)
theorem natR_ne {n : Nat} (h : 0 < n) : (n : Rat) ≠ 0 := fun e => by
  have : ((n : Nat) : Rat) = ((0 : Nat) : Rat) := by rw [e]; rfl
  have := Rat.natCast_inj.1 this
  omega
theorem qv_low {n d : Nat} (hd : 0 < d) : qv (low n d) = (n : Rat) / (d : Rat) := by
  have h := low_val n d
  have p := (low_fr (n := n) hd).pos
  generalize low n d = y at *
  have h2 : ((y.1 : Nat) : Rat) * (d : Rat) = (n : Rat) * (y.2 : Rat) := by
    rw [← Rat.natCast_mul, ← Rat.natCast_mul, h]
  have n1 := natR_ne hd; have n2 := natR_ne p
  unfold qv
  generalize ((y.1 : Nat) : Rat) = a at *
  generalize ((y.2 : Nat) : Rat) = b at *
  generalize ((n : Nat) : Rat) = c at *
  generalize ((d : Nat) : Rat) = e at *
  grind
theorem qv_inj {x y : Nat × Nat} (hx : Fr x) (hy : Fr y) (h : qv x = qv y) : x = y := by
  refine fr_uniq hx hy ?_
  have n1 := natR_ne hx.pos; have n2 := natR_ne hy.pos
  unfold qv at h
  have : ((x.1 * y.2 : Nat) : Rat) = ((y.1 * x.2 : Nat) : Rat) := by
    rw [Rat.natCast_mul, Rat.natCast_mul]
    generalize ((x.1 : Nat) : Rat) = a at *
    generalize ((x.2 : Nat) : Rat) = b at *
    generalize ((y.1 : Nat) : Rat) = c at *
    generalize ((y.2 : Nat) : Rat) = e at *
    grind
  exact Rat.natCast_inj.1 this
theorem qv_add {x y : Nat × Nat} (hx : Fr x) (hy : Fr y) : qv (addF x y) = qv x + qv y := by
  unfold addF
  rw [qv_low (Nat.mul_pos hx.pos hy.pos)]
  have n1 := natR_ne hx.pos; have n2 := natR_ne hy.pos
  unfold qv
  simp only [Rat.natCast_add, Rat.natCast_mul]
  generalize ((x.1 : Nat) : Rat) = a at *
  generalize ((x.2 : Nat) : Rat) = b at *
  generalize ((y.1 : Nat) : Rat) = c at *
  generalize ((y.2 : Nat) : Rat) = e at *
  grind
theorem qv_mul {x y : Nat × Nat} (hx : Fr x) (hy : Fr y) : qv (mulF x y) = qv x * qv y := by
  unfold mulF
  rw [qv_low (Nat.mul_pos hx.pos hy.pos)]
  have n1 := natR_ne hx.pos; have n2 := natR_ne hy.pos
  unfold qv
  simp only [Rat.natCast_mul]
  generalize ((x.1 : Nat) : Rat) = a at *
  generalize ((x.2 : Nat) : Rat) = b at *
  generalize ((y.1 : Nat) : Rat) = c at *
  generalize ((y.2 : Nat) : Rat) = e at *
  grind
theorem fr_swap {y : Nat × Nat} (hy : Fr y) (h0 : 0 < y.1) : Fr (y.2, y.1) := ⟨h0, by have := hy.cop; rw [Nat.gcd_comm] at this; exact this⟩
theorem qv_div {x y : Nat × Nat} (hx : Fr x) (hy : Fr y) (h0 : 0 < y.1) : qv (divF x y) = qv x / qv y := by
  unfold divF
  rw [qv_mul hx (fr_swap hy h0)]
  have n1 := natR_ne hx.pos; have n2 := natR_ne hy.pos; have n3 := natR_ne h0
  unfold qv
  simp only
  generalize ((x.1 : Nat) : Rat) = a at *
  generalize ((x.2 : Nat) : Rat) = b at *
  generalize ((y.1 : Nat) : Rat) = c at *
  generalize ((y.2 : Nat) : Rat) = e at *
  grind
theorem qv_zero {x : Nat × Nat} (hx : Fr x) : qv x = 0 ↔ x.1 = 0 := by
  constructor
  · intro h
    rcases Nat.eq_zero_or_pos x.1 with h0 | h0
    · exact h0
    · exfalso
      have n1 := natR_ne h0; have n2 := natR_ne hx.pos
      unfold qv at h
      generalize ((x.1 : Nat) : Rat) = a at *
      generalize ((x.2 : Nat) : Rat) = b at *
      grind
  · intro h; unfold qv; rw [h]; grind
theorem qv_ne {x : Nat × Nat} (hx : Fr x) (h0 : 0 < x.1) : qv x ≠ 0 := fun h => by have := (qv_zero hx).1 h; omega
theorem divF_fr' {x y : Nat × Nat} (hx : Fr x) (hy : Fr y) (h0 : 0 < y.1) : Fr (divF x y) := mulF_fr hx (fr_swap hy h0)
theorem Sm.div {k l m : Nat} {x y : Nat × Nat} (hx : Sm k x) (hy : Sm l y) (h0 : 0 < y.1) (hm : m = k + l) : Sm m (divF x y) := hx.mul (y := (y.2, y.1)) ⟨fr_swap hy.fr h0, hy.d, hy.n⟩ hm
theorem Sm.mono {k l : Nat} {x : Nat × Nat} (h : Sm k x) (hk : k ≤ l) : Sm l x := ⟨h.fr, Nat.lt_of_lt_of_le h.n (Nat.pow_le_pow_right (by decide) hk), Nat.lt_of_lt_of_le h.d (Nat.pow_le_pow_right (by decide) hk)⟩
theorem qv_0 : qv (0, 1) = 0 := by unfold qv; grind
theorem qv_1 : qv (1, 1) = 1 := by unfold qv; grind
theorem sm_zero : Sm 1 (0, 1) := ⟨⟨by decide, by decide⟩, by decide, by decide⟩
theorem sm_one : Sm 1 (1, 1) := ⟨⟨by decide, by decide⟩, by decide, by decide⟩
theorem fr_zero {x : Nat × Nat} (hx : Fr x) (h : x.1 = 0) : x = (0, 1) := qv_inj hx sm_zero.fr (by rw [(qv_zero hx).2 h, qv_0])
/-- Sums of quotients by the same number. -/
theorem addF_divF {p x d : Nat × Nat} (hp : Fr p) (hx : Fr x) (hd : Fr d) (h0 : 0 < d.1) : addF (divF p d) (divF x d) = divF (addF p x) d := by
  refine qv_inj (addF_fr (divF_fr' hp hd h0) (divF_fr' hx hd h0)) (divF_fr' (addF_fr hp hx) hd h0) ?_
  rw [qv_add (divF_fr' hp hd h0) (divF_fr' hx hd h0), qv_div hp hd h0, qv_div hx hd h0, qv_div (addF_fr hp hx) hd h0, qv_add hp hx]
  have := qv_ne hd h0
  grind
theorem divF_zero {d : Nat × Nat} (hd : Fr d) (h0 : 0 < d.1) : divF (0, 1) d = (0, 1) := by
  refine qv_inj (divF_fr' sm_zero.fr hd h0) sm_zero.fr ?_
  rw [qv_div sm_zero.fr hd h0]
  rw [qv_0]; grind
theorem divF_self {d : Nat × Nat} (hd : Fr d) (h0 : 0 < d.1) : divF d d = (1, 1) := by
  refine qv_inj (divF_fr' hd hd h0) sm_one.fr ?_
  rw [qv_div hd hd h0]
  rw [qv_1]; have := qv_ne hd h0; grind
theorem divF_one {x : Nat × Nat} (hx : Fr x) : divF x (1, 1) = x := by
  refine qv_inj (divF_fr' hx sm_one.fr (by decide)) hx ?_
  rw [qv_div hx sm_one.fr (by decide)]
  rw [qv_1]; grind
theorem divF_divF {x s d : Nat × Nat} (hx : Fr x) (hs : Fr s) (hd : Fr d) (s0 : 0 < s.1) (h0 : 0 < d.1) (h1 : 0 < (divF s d).1) : divF (divF x d) (divF s d) = divF x s := by
  refine qv_inj (divF_fr' (divF_fr' hx hd h0) (divF_fr' hs hd h0) h1) (divF_fr' hx hs s0) ?_
  rw [qv_div (divF_fr' hx hd h0) (divF_fr' hs hd h0) h1, qv_div hx hd h0, qv_div hs hd h0, qv_div hx hs s0]
  have := qv_ne hd h0; have := qv_ne hs s0
  grind
theorem divF_pos {s d : Nat × Nat} (hs : Fr s) (hd : Fr d) (h0 : 0 < d.1) : 0 < (divF s d).1 ↔ 0 < s.1 := by
  have k := qv_div hs hd h0
  have e1 := qv_zero (divF_fr' hs hd h0); have e2 := qv_zero hs
  have n1 := qv_ne hd h0
  constructor
  · intro h
    rcases Nat.eq_zero_or_pos s.1 with h' | h'
    · rw [e2.2 h'] at k
      have : qv (divF s d) = 0 := by rw [k]; grind
      rw [e1.1 this] at h; omega
    · exact h'
  · intro h
    rcases Nat.eq_zero_or_pos (divF s d).1 with h' | h'
    · rw [e1.2 h'] at k
      have : qv s = 0 := by grind
      rw [e2.1 this] at h; omega
    · exact h'
theorem mulF_divF {x y d : Nat × Nat} (hx : Fr x) (hy : Fr y) (hd : Fr d) (h0 : 0 < d.1) : mulF (divF x d) y = divF (mulF x y) d := by
  refine qv_inj (mulF_fr (divF_fr' hx hd h0) hy) (divF_fr' (mulF_fr hx hy) hd h0) ?_
  rw [qv_mul (divF_fr' hx hd h0) hy, qv_div hx hd h0, qv_div (mulF_fr hx hy) hd h0, qv_mul hx hy]
  have := qv_ne hd h0
  grind
theorem mulF_assoc {x y z : Nat × Nat} (hx : Fr x) (hy : Fr y) (hz : Fr z) : mulF (mulF x y) z = mulF x (mulF y z) := by
  refine qv_inj (mulF_fr (mulF_fr hx hy) hz) (mulF_fr hx (mulF_fr hy hz)) ?_
  rw [qv_mul (mulF_fr hx hy) hz, qv_mul hx hy, qv_mul hx (mulF_fr hy hz), qv_mul hy hz]; grind
theorem mulF_right_comm {x y z : Nat × Nat} (hx : Fr x) (hy : Fr y) (hz : Fr z) : mulF (mulF x y) z = mulF (mulF x z) y := by
  refine qv_inj (mulF_fr (mulF_fr hx hy) hz) (mulF_fr (mulF_fr hx hz) hy) ?_
  rw [qv_mul (mulF_fr hx hy) hz, qv_mul hx hy, qv_mul (mulF_fr hx hz) hy, qv_mul hx hz]; grind
theorem mulF_back {s d : Nat × Nat} (hs : Fr s) (hd : Fr d) (h0 : 0 < d.1) : mulF d (divF s d) = s := by
  refine qv_inj (mulF_fr hd (divF_fr' hs hd h0)) hs ?_
  rw [qv_mul hd (divF_fr' hs hd h0), qv_div hs hd h0]
  have := qv_ne hd h0
  grind
theorem mulF_zero {x y : Nat × Nat} (hx : Fr x) (hy : Fr y) (h : x.1 = 0) : (mulF x y).1 = 0 := by
  refine (qv_zero (mulF_fr hx hy)).1 ?_
  rw [qv_mul hx hy, (qv_zero hx).2 h]; grind
/-- Sums of small fractions, as they are and divided by the same number. -/
theorem sum_sm {k : Nat} : ∀ (xs : List (Nat × Nat)) (l : Nat) (p : Nat × Nat), (∀ x ∈ xs, Sm k x) → Sm l p → l + xs.length * (k + 1) ≤ 600 → ∃ s, sumO xs p = some s ∧ Sm (l + xs.length * (k + 1)) s
  | [], l, p, _, hp, _ => ⟨p, rfl, by simpa using hp⟩
  | x :: xs, l, p, hx, hp, hl => by
    have h1 := hp.add (hx x (by simp)) (m := l + k + 1) rfl
    have e : l + (x :: xs).length * (k + 1) = l + k + 1 + xs.length * (k + 1) := by simp only [List.length_cons, Nat.succ_mul]; omega
    rw [e] at hl ⊢
    obtain ⟨s, h2, h3⟩ := sum_sm xs (l + k + 1) (addF p x) (fun y hy => hx y (by simp [hy])) h1 hl
    exact ⟨s, by rw [sumO_yes (h1.fits (by omega))]; exact h2, h3⟩
theorem sumO_nil (s : Nat × Nat) : sumO [] s = some s := rfl
theorem sum_div {k ld : Nat} {d : Nat × Nat} (hd : Sm ld d) (h0 : 0 < d.1) (xs : List (Nat × Nat)) (l : Nat) (p s : Nat × Nat) (hx : ∀ x ∈ xs, Sm k x) (hp : Sm l p) (hl : l + xs.length * (k + 1) + ld ≤ 600) (h : sumO xs p = some s) : sumO (xs.map (divF · d)) (divF p d) = some (divF s d) := by
  induction xs generalizing l p with
  | nil => rw [sumO_nil] at h; injection h with h; rw [h]; exact sumO_nil _
  | cons x xs ih =>
    have hxx := hx x (by simp)
    have h1 := hp.add hxx (m := l + k + 1) rfl
    have e : l + (x :: xs).length * (k + 1) = l + k + 1 + xs.length * (k + 1) := by simp only [List.length_cons, Nat.succ_mul]; omega
    rw [e] at hl
    rw [sumO_yes (h1.fits (by omega))] at h
    have h2 := ih (l + k + 1) (addF p x) (fun y hy => hx y (by simp [hy])) h1 (by omega) h
    have e2 := addF_divF hp.fr hxx.fr hd.fr h0
    rw [List.map_cons, sumO_yes (by rw [e2]; exact (h1.div hd h0 rfl).fits (by omega)), e2]
    exact h2
theorem low_zero {n d : Nat} (hd : 0 < d) : (low n d).1 = 0 ↔ n = 0 := by
  have h := low_val n d
  have p := (low_fr (n := n) hd).pos
  constructor
  · intro h0; rw [h0, Nat.zero_mul] at h
    rcases Nat.mul_eq_zero.1 h.symm with h | h
    · exact h
    · omega
  · intro h0; rw [h0, Nat.zero_mul] at h
    rcases Nat.mul_eq_zero.1 h with h | h
    · rw [h0]; exact h
    · omega
theorem addF_pos {x y : Nat × Nat} (hx : Fr x) (hy : Fr y) : (addF x y).1 = 0 ↔ x.1 = 0 ∧ y.1 = 0 := by
  unfold addF
  rw [low_zero (Nat.mul_pos hx.pos hy.pos), Nat.add_eq_zero_iff, Nat.mul_eq_zero, Nat.mul_eq_zero]
  have := hx.pos; have := hy.pos
  omega
theorem sum_zero {k : Nat} (xs : List (Nat × Nat)) (p s : Nat × Nat) (hx : ∀ x ∈ xs, Sm k x) (hp : Fr p) (h : sumO xs p = some s) : s.1 = 0 ↔ p.1 = 0 ∧ ∀ x ∈ xs, x.1 = 0 := by
  induction xs generalizing p with
  | nil => rw [sumO_nil] at h; injection h with h; subst h; simp
  | cons x xs ih =>
    have hxx := hx x (by simp)
    cases hf : fitsF (addF p x) with
    | false => rw [sumO_no hf] at h; cases h
    | true =>
      rw [sumO_yes hf] at h
      rw [ih (addF p x) (fun y hy => hx y (by simp [hy])) (addF_fr hp hxx.fr) h, addF_pos hp hxx.fr]
      simp [and_assoc]
theorem parts_sm {k : Nat} {ps : List P2} (hall : ∀ p ∈ ps, okP p = true) (hsh : ∀ p ∈ ps, p.1.size ≤ k ∧ p.2.size ≤ k) : ∀ x ∈ ps.map pv, Sm k x := by
  intro x hx
  obtain ⟨p, hp, rfl⟩ := List.mem_map.1 hx
  exact sm_of (hall p hp) (hsh p hp).1 (hsh p hp).2
theorem openLS_yes {ps : List P2} (hl : ps.length ≤ 512) (hall : ∀ p ∈ ps, okP p = true) : openLS ps = 0 := by
  unfold openLS
  rw [if_neg (by omega), if_pos (List.all_eq_true.2 hall)]
theorem openLS_no {ps : List P2} (hl : ps.length ≤ 512) (h : openLS ps ≠ 0) : openLS ps = 2 := by
  unfold openLS at h ⊢
  rw [if_neg (by omega)] at h ⊢
  split
  · rename_i h1; rw [if_pos h1] at h; exact absurd rfl h
  · rfl
/-- The parts of fractions. -/
def pts (l : List (Nat × Nat)) : List P2 := l.map ptOf
theorem pts_len (l : List (Nat × Nat)) : (pts l).length = l.length := by simp [pts]
theorem pts_pv (l : List (Nat × Nat)) : (pts l).map pv = l := by
  unfold pts
  rw [List.map_map]
  have : (pv ∘ ptOf) = id := by funext x; exact pv_pt x
  rw [this, List.map_id]
theorem pts_ok {k : Nat} (hk : k ≤ 600) {l : List (Nat × Nat)} (h : ∀ x ∈ l, Sm k x) : ∀ p ∈ pts l, okP p = true := by
  intro p hp
  obtain ⟨x, hx, rfl⟩ := List.mem_map.1 hp
  exact pt_ok (h x hx) hk
theorem short_of_ok {ps : List P2} (h : ∀ p ∈ ps, okP p = true) : ∀ p ∈ ps, Short p := by
  intro p hp
  obtain ⟨h1, h2⟩ := okP_nt (h p hp)
  exact ⟨Nat.le_trans (isNt_parts h1).1 (by decide), Nat.le_trans (isNt_parts h2).1 (by decide)⟩
/-- The shares of small fractions. -/
theorem divs_sm {k l m : Nat} {xs : List (Nat × Nat)} {s : Nat × Nat} (hx : ∀ x ∈ xs, Sm k x) (hs : Sm l s) (h0 : 0 < s.1) (hm : m = k + l) : ∀ y ∈ xs.map (divF · s), Sm m y := by
  intro y hy
  obtain ⟨x, hxx, rfl⟩ := List.mem_map.1 hy
  exact (hx x hxx).div hs h0 hm
theorem okD_sm {k l : Nat} {xs : List (Nat × Nat)} {s : Nat × Nat} (hx : ∀ x ∈ xs, Sm k x) (hs : Sm l s) (h0 : 0 < s.1) (hm : k + l ≤ 600) : okD xs s = true :=
  List.all_eq_true.2 fun y hy => (divs_sm hx hs h0 rfl y hy).fits hm
theorem divE_zero {xs : List (Nat × Nat)} {s : Nat × Nat} (h : sumO xs (0, 1) = some s) (h0 : s.1 = 0) : divE xs = 7 := by
  unfold divE; rw [h]; simp only; rw [if_pos h0]
theorem divE_ok {xs : List (Nat × Nat)} {s : Nat × Nat} (h : sumO xs (0, 1) = some s) (h0 : s.1 ≠ 0) (hd : okD xs s = true) : divE xs = 0 := by
  unfold divE; rw [h]; simp only; rw [if_neg h0, if_pos hd]
theorem partCells_get : ∀ (l : List (Nat × Nat)) (i : Nat) (h : i < l.length), (partCells l)[i * 2]? = some (.string (dec l[i].1)) ∧ (partCells l)[i * 2 + 1]? = some (.string (dec l[i].2))
  | [], i, h => absurd h (Nat.not_lt_zero _)
  | x :: l, 0, _ => ⟨rfl, rfl⟩
  | x :: l, i + 1, h => by
    have k := partCells_get l i (by simpa using h)
    have e1 : (i + 1) * 2 = i * 2 + 1 + 1 := by omega
    rw [e1]
    exact k
/-- A row of parts, as a slice of parts. -/
theorem partL_of_owns {w : World} {base : Nat} {v : Value} {l : List (Nat × Nat)} (h : w.ownsRow base 24 2 v l.length (partCells l)) (hl : l.length ≤ 1000) : PartL w v (pts l) := by
  rcases h.2 with ⟨h1, h2⟩ | ⟨g, cap, cur, h1, h2, h3, h4⟩
  · have : l = [] := List.eq_nil_of_length_eq_zero h2
    subst this
    exact .inl ⟨⟨_, _, h1⟩, rfl⟩
  · refine .inr ⟨g, 0, cap, by rw [pts_len]; exact h1, by rw [pts_len]; exact h4.1, h4.2.1, (Array.getElem?_eq_some_iff.1 h3).1, fun i hi => ?_⟩
    rw [pts_len] at hi
    obtain ⟨k1, k2⟩ := partCells_get l i hi
    have hp : (pts l)[i]'(by rw [pts_len]; exact hi) = ptOf l[i] := by simp [pts]
    have at_ : ∀ j, j < l.length * 2 → cur[j]? = (partCells l)[j]? := fun j hj => by
      rw [← h4.2.2.2, List.getElem?_take, if_pos hj, Array.getElem?_toList]
    rw [hp, set_cells h3, set_cells h3, Nat.zero_add, at_ _ (by omega), at_ _ (by omega)]
    exact ⟨k1, k2⟩
end Go.Proofs.YtkggfeemjabdeaaGreatDoor.Wc
end
section
namespace Go.Proofs.YtkggfeemjabdeaaGreatDoor.Wc
open Go Go.Proofs.YtkggfeemjabdeaaGreatDoor.Sx Go.RowKit

/-- A block of integers. -/
def IntRow (w : World) (R : Nat) (l : List Nat) : Prop := w.heap[R]? = some (.cells (l.map fun k : Nat => Value.int .i64 (k : Int)).toArray 3 (0, 0))
theorem IntRow.cell {w : World} {R : Nat} {l : List Nat} (h : IntRow w R l) {i k : Nat} (hi : l[i]? = some k) : w.cell? ⟨R, i, none⟩ = some (.int .i64 (k : Int)) := by
  rw [set_cells h]; simp [hi]
theorem IntRow.free {w : World} {R : Nat} {l : List Nat} (h : IntRow w R l) (i : Nat) : w.frozen? ⟨R, i, none⟩ = false := by
  unfold IntRow at h; simp [World.frozen?, h]
theorem IntRow.lt {w : World} {R : Nat} {l : List Nat} (h : IntRow w R l) : R < w.heap.size := (Array.getElem?_eq_some_iff.1 h).1
theorem IntRow.below {w w' : World} {R : Nat} {l : List Nat} (h : IntRow w R l) (hb : Below w.heap.size w w') : IntRow w' R l := (hb.block _ h.lt).trans h
theorem IntRow.set {w : World} {R : Nat} {l : List Nat} (h : IntRow w R l) (i k : Nat) : IntRow (w.setCell ⟨R, i, none⟩ (.int .i64 (k : Int))) R (l.set i k) := by
  have g := heap_setCell_same w R i _ _ (.int .i64 (k : Int)) h
  rw [List.setIfInBounds_toArray] at g
  unfold IntRow
  rw [List.map_set]; exact g
/-- Which index comes first: that of the greater element, the lesser one of two that are as great. -/
def bef (xs : List (Nat × Nat)) (i k : Nat) : Prop := qv (xs.getD k (0, 1)) < qv (xs.getD i (0, 1)) ∨ qv (xs.getD k (0, 1)) = qv (xs.getD i (0, 1)) ∧ i < k
theorem bef_trans {xs : List (Nat × Nat)} {i j k : Nat} (h1 : bef xs i j) (h2 : bef xs j k) : bef xs i k := by
  unfold bef at *
  generalize qv (xs.getD i (0, 1)) = a at *
  generalize qv (xs.getD j (0, 1)) = b at *
  generalize qv (xs.getD k (0, 1)) = c at *
  rcases h1 with h1 | ⟨h1, h3⟩ <;> rcases h2 with h2 | ⟨h2, h4⟩
  · exact .inl (by grind)
  · exact .inl (by grind)
  · exact .inl (by grind)
  · exact .inr ⟨by grind, by omega⟩
theorem cmpF_qv {x y : Nat × Nat} (hx : Fr x) (hy : Fr y) : (cmpF x y < 0 ↔ qv x < qv y) ∧ (cmpF x y = 0 ↔ qv x = qv y) := by
  have n1 : (0 : Rat) < (x.2 : Rat) := Rat.natCast_pos.2 hx.pos
  have n2 : (0 : Rat) < (y.2 : Rat) := Rat.natCast_pos.2 hy.pos
  have e : (qv x < qv y ↔ x.1 * y.2 < y.1 * x.2) := by
    unfold qv
    rw [Rat.div_lt_iff n1]
    have e : (y.1 : Rat) / (y.2 : Rat) * (x.2 : Rat) = ((y.1 : Rat) * (x.2 : Rat)) / (y.2 : Rat) := by
      generalize (y.1 : Rat) = a; generalize (x.2 : Rat) = b; generalize (y.2 : Rat) = c
      grind
    rw [e, Rat.lt_div_iff n2, ← Rat.natCast_mul, ← Rat.natCast_mul, Rat.natCast_lt_natCast]
  have e2 : (qv x = qv y ↔ x.1 * y.2 = y.1 * x.2) := by
    constructor
    · intro h; rw [qv_inj hx hy h]
    · intro h; rw [fr_uniq hx hy h]
  rw [e, e2]
  unfold cmpF
  split
  · simp; omega
  · split <;> simp <;> omega
/-- The cells of a place of a list of fractions. -/
theorem rats_at {A : Nat → Prop} {w : World} {B n : Nat} {xs : List (Nat × Nat)} {cs : Array Value} (h : Rats A w B n xs cs) {i : Nat} (hi : i < xs.length) : ∃ a1 l1 k1 a2 l2 k2, w.cell? ⟨B, i * 2, none⟩ = some (.slice a1 l1 k1) ∧ w.cell? ⟨B, i * 2 + 1, none⟩ = some (.slice a2 l2 k2) ∧ NatV w (.slice a1 l1 k1) (xs.getD i (0, 1)).1 ∧ NatV w (.slice a2 l2 k2) (xs.getD i (0, 1)).2 := by
  have hx : xs[i]? = some (xs.getD i (0, 1)) := by rw [List.getD_eq_getElem?_getD, List.getElem?_eq_getElem hi]; rfl
  obtain ⟨u, h1, h2, -⟩ := h.num i _ hx
  obtain ⟨v, h3, h4, -⟩ := h.den i _ hx
  obtain ⟨a1, l1, k1, rfl⟩ := nat_slice h2
  obtain ⟨a2, l2, k2, rfl⟩ := nat_slice h4
  exact ⟨a1, l1, k1, a2, l2, k2, by rw [set_cells h.blk]; exact h1, by rw [set_cells h.blk]; exact h3, h2, h4⟩

set_option maxRecDepth 100000 in
set_option maxHeartbeats 2000000 in
theorem rank1_clo (A : Nat → Prop) (B n p : Nat) (xs : List (Nat × Nat)) (cs : Array Value) (i k : Nat) (w : World) (hx : Rats A w B n xs cs) (hxn : xs.length = n) (hxf : ∀ r ∈ xs, FrT r) (hn : n ≤ 512) (ht : Tens w) (hp : w.cell? ⟨p, 0, none⟩ = some (.slice (some ⟨B, 0, none⟩) n n)) (hi : i < n) (hk : k < n) :
    Calls Tryz.prog 100 #[.int .i64 (i : Int), .int .i64 (k : Int), .pointer (some ⟨p, 0, none⟩)] w fun e w' => e = .returned (.int .i64 (cmpF (xs.getD k (0, 1)) (xs.getD i (0, 1)))) ∧ Below w.heap.size w w' := by
  obtain ⟨a1, l1, k1, a2, l2, k2, c0, c1, m1, m2⟩ := rats_at hx (i := k) (by omega)
  obtain ⟨a3, l3, k3, a4, l4, k4, c2, c3, m3, m4⟩ := rats_at hx (i := i) (by omega)
  have f1 : FrT (xs.getD k (0, 1)) := hxf _ (by rw [List.getD_eq_getElem?_getD, List.getElem?_eq_getElem (by omega)]; exact List.getElem_mem _)
  have f2 : FrT (xs.getD i (0, 1)) := hxf _ (by rw [List.getD_eq_getElem?_getD, List.getElem?_eq_getElem (by omega)]; exact List.getElem_mem _)
  generalize xs.getD k (0, 1) = x at *
  generalize xs.getD i (0, 1) = y at *
  have HC : Hid (∀ W, Below w.heap.size w W → Calls Tryz.prog 46 #[.agg #[.slice a1 l1 k1, .slice a2 l2 k2], .agg #[.slice a3 l3 k3, .slice a4 l4 k4]] W fun e w' => e = .returned (.int .i64 (cmpF x y)) ∧ Below W.heap.size W w') := Lib.hid fun W hW => cmp_rat x y _ _ _ _ W (m1.below hW) (m2.below hW) (m3.below hW) (m4.below hW) f1 f2 (fun j hj => cell_later hW (ht j hj))
  have HS : Hid (∀ W', Below w.heap.size w W' → W'.cell? ⟨p, 0, none⟩ = some (.slice (some ⟨B, 0, none⟩) n n) ∧ W'.cell? ⟨B, k * 2, none⟩ = some (.slice a1 l1 k1) ∧ W'.cell? ⟨B, k * 2 + 1, none⟩ = some (.slice a2 l2 k2) ∧ W'.cell? ⟨B, i * 2, none⟩ = some (.slice a3 l3 k3) ∧ W'.cell? ⟨B, i * 2 + 1, none⟩ = some (.slice a4 l4 k4)) := Lib.hid fun W' h => ⟨cell_later h hp, cell_later h c0, cell_later h c1, cell_later h c2, cell_later h c3⟩
  have hi0 : (0 : Int) ≤ (i : Int) := by omega
  have hi1 : (i : Int) < (n : Int) := by omega
  have hk0 : (0 : Int) ≤ (k : Int) := by omega
  have hk1 : (k : Int) < (n : Int) := by omega
  have hiw : IntKind.i64.wrap (i : Int) = (i : Int) := IntWalk.i64_in _ (by omega)
  have hkw : IntKind.i64.wrap (k : Int) = (k : Int) := IntWalk.i64_in _ (by omega)
  clear hx hxf ht hp c0 c1 c2 c3 m1 m2 m3 m4 f1 f2
  go_enter Tryz.func100, Tryz.ntmps100
  go_wp2_with fail
  refine wp_region_held_drew (S := fun W' => W'.cell? ⟨p, 0, none⟩ = some (.slice (some ⟨B, 0, none⟩) n n) ∧ W'.cell? ⟨B, k * 2, none⟩ = some (.slice a1 l1 k1) ∧ W'.cell? ⟨B, k * 2 + 1, none⟩ = some (.slice a2 l2 k2) ∧ W'.cell? ⟨B, i * 2, none⟩ = some (.slice a3 l3 k3) ∧ W'.cell? ⟨B, i * 2 + 1, none⟩ = some (.slice a4 l4 k4)) (by kernel_rfl) (HS.out _ (Below.refl _ _).drew) (fun hHeld => ?_)
  refine takeH (i := 0) (n := 6) (v := .slice (some ⟨B, 0, none⟩) n n) rfl rfl (by kernel_rfl) (by kernel_rfl) (by kernel_rfl) (fun _ _ _ h => h) (Or.inl ⟨by kernel_rfl, ?_⟩) (by assumption) ?_
  · intro w hSw; (try dsimp only at hSw); go_simp
  try simp only [Act.put, List.setIfInBounds_toArray, List.set_cons_zero, List.set_cons_succ]
  refine takeH (i := 1) (n := 7) (v := .int .i64 (k : Int)) rfl rfl (by kernel_rfl) (by kernel_rfl) (by kernel_rfl) (fun _ _ _ h => h) (Or.inl ⟨by kernel_rfl, ?_⟩) (by assumption) ?_
  · intro w hSw; (try dsimp only at hSw); go_simp
  try simp only [Act.put, List.setIfInBounds_toArray, List.set_cons_zero, List.set_cons_succ]
  refine takeH (i := 2) (n := 8) (v := .pointer (some ⟨B, k * 2, none⟩)) rfl rfl (by kernel_rfl) (by kernel_rfl) (by kernel_rfl) (fun _ _ _ h => h) (Or.inl ⟨by kernel_rfl, ?_⟩) (by assumption) ?_
  · intro w hSw; (try dsimp only at hSw); go_simp
  try simp only [Act.put, List.setIfInBounds_toArray, List.set_cons_zero, List.set_cons_succ]
  refine takeH (i := 3) (n := 9) (v := .agg #[.slice a1 l1 k1, .slice a2 l2 k2]) rfl rfl (by kernel_rfl) (by kernel_rfl) (by kernel_rfl) (fun _ _ _ h => h) (Or.inl ⟨by kernel_rfl, ?_⟩) (by assumption) ?_
  · intro w hSw; (try dsimp only at hSw); go_simp
  try simp only [Act.put, List.setIfInBounds_toArray, List.set_cons_zero, List.set_cons_succ]
  refine takeH (i := 4) (n := 10) (v := .slice (some ⟨B, 0, none⟩) n n) rfl rfl (by kernel_rfl) (by kernel_rfl) (by kernel_rfl) (fun _ _ _ h => h) (Or.inl ⟨by kernel_rfl, ?_⟩) (by assumption) ?_
  · intro w hSw; (try dsimp only at hSw); go_simp
  try simp only [Act.put, List.setIfInBounds_toArray, List.set_cons_zero, List.set_cons_succ]
  refine takeH (i := 5) (n := 11) (v := .int .i64 (i : Int)) rfl rfl (by kernel_rfl) (by kernel_rfl) (by kernel_rfl) (fun _ _ _ h => h) (Or.inl ⟨by kernel_rfl, ?_⟩) (by assumption) ?_
  · intro w hSw; (try dsimp only at hSw); go_simp
  try simp only [Act.put, List.setIfInBounds_toArray, List.set_cons_zero, List.set_cons_succ]
  refine takeH (i := 6) (n := 12) (v := .pointer (some ⟨B, i * 2, none⟩)) rfl rfl (by kernel_rfl) (by kernel_rfl) (by kernel_rfl) (fun _ _ _ h => h) (Or.inl ⟨by kernel_rfl, ?_⟩) (by assumption) ?_
  · intro w hSw; (try dsimp only at hSw); go_simp
  try simp only [Act.put, List.setIfInBounds_toArray, List.set_cons_zero, List.set_cons_succ]
  refine takeH (i := 7) (n := 13) (v := .agg #[.slice a3 l3 k3, .slice a4 l4 k4]) rfl rfl (by kernel_rfl) (by kernel_rfl) (by kernel_rfl) (fun _ _ _ h => h) (Or.inl ⟨by kernel_rfl, ?_⟩) (by assumption) ?_
  · intro w hSw; (try dsimp only at hSw); go_simp
  try simp only [Act.put, List.setIfInBounds_toArray, List.set_cons_zero, List.set_cons_succ]
  refine wpAnyH_ready (rs := [8]) (by kernel_rfl) (by simp) ?_
  refine AllReadyH.cons rfl (fun K hK => ?_) AllReadyH.nil
  try rw [if_pos (by kernel_rfl)]
  try go_simp
  go_at_call 46
  refine (HC.out _ (Below.refl _ _).drew).mono ?_
  rintro e w6 ⟨rfl, hb⟩
  have hBn := below_chain (W := w) (Below.refl _ _).drew hb
  refine hK.out _ _ (HS.out _ hBn) (fun hHeld => ?_)
  clear hK K
  try simp only [Act.put, List.setIfInBounds_toArray, List.set_cons_zero, List.set_cons_succ]
  refine takeH (i := 9) (n := 5) (v := .int .i64 (cmpF x y)) rfl rfl (by kernel_rfl) (by kernel_rfl) (by kernel_rfl) (fun _ _ _ h => h) (Or.inl ⟨by kernel_rfl, ?_⟩) (by assumption) ?_
  · intro w hSw; (try dsimp only at hSw); go_simp
  try simp only [Act.put, List.setIfInBounds_toArray, List.set_cons_zero, List.set_cons_succ]
  refine wpAnyH_done (by kernel_rfl) ?_ _
  go_wp2_with fail
  exact bodyPost_ret (v := .int .i64 (cmpF x y)) (by simp [results, Tryz.results100, go_sem]) rfl ⟨rfl, hBn⟩
end Go.Proofs.YtkggfeemjabdeaaGreatDoor.Wc
end
section
namespace Go.Proofs.YtkggfeemjabdeaaGreatDoor.Wc
open Go Go.Proofs.YtkggfeemjabdeaaGreatDoor.Sx Go.RowKit

theorem ins_ok {xs : List (Nat × Nat)} {p q : List Nat} {i : Nat} (hp : (p ++ q).Perm (List.range i)) (hs : (p ++ q).Pairwise (bef xs)) (hq : ∀ x ∈ q, bef xs i x) (hl : ∀ p' y, p = p' ++ [y] → bef xs y i) :
    (p ++ i :: q).Perm (List.range (i + 1)) ∧ (p ++ i :: q).Pairwise (bef xs) := by
  constructor
  · rw [List.range_succ]
    exact List.perm_middle.trans ((List.Perm.cons i hp).trans (List.perm_append_singleton i (List.range i)).symm)
  · rw [List.pairwise_append] at hs ⊢
    refine ⟨hs.1, List.pairwise_cons.2 ⟨hq, hs.2.1⟩, fun a ha b hb => ?_⟩
    have hai : bef xs a i := by
      rcases List.eq_nil_or_concat p with h | ⟨p', y, h⟩
      · subst h; cases ha
      · rw [List.concat_eq_append] at h
        have hy := hl p' y h
        subst h
        rcases List.mem_append.1 ha with h1 | h1
        · exact bef_trans ((List.pairwise_append.1 hs.1).2.2 a h1 y (by simp)) hy
        · simp at h1; subst h1; exact hy
    rcases List.mem_cons.1 hb with rfl | hb
    · exact hai
    · exact hs.2.2 a ha b hb
theorem grown_trans {w0 w1 w2 : World} {r : Option Nat} (h : w0.grownBy w1 r) (k : w1.grownBy w2 r) : w0.grownBy w2 r :=
  ⟨k.os.trans h.os, k.tape.trans h.tape, k.output.trans h.output, Nat.le_trans h.size k.size, fun j hj hne => (k.block j (Nat.lt_of_lt_of_le hj h.size) hne).trans (h.block j hj hne)⟩
theorem grown_set {w0 w1 : World} {R : Nat} (h : w0.grownBy w1 (some R)) (i : Nat) (v : Value) : w0.grownBy (w1.setCell ⟨R, i, none⟩ v) (some R) :=
  grown_trans h ⟨rfl, rfl, rfl, by simp [World.setCell], fun j _ hne => Below.heap_setCell w1 ⟨R, i, none⟩ v j (fun e => hne (by rw [e]))⟩
theorem grown_of {w0 w1 : World} {r : Option Nat} {B : Nat} (h : Below B w0 w1) (hB : w0.heap.size ≤ B) : w0.grownBy w1 r := ⟨h.os, h.tape, h.output, h.size, fun j hj _ => h.block j (Nat.lt_of_lt_of_le hj hB)⟩

set_option maxRecDepth 100000 in
set_option maxHeartbeats 4000000 in
theorem insertion_any (xs : List (Nat × Nat)) (hxf : ∀ r ∈ xs, FrT r) (R n : Nat) (hxn : xs.length = n) (hn : n ≤ 512) (f : FuncId) (caps : Array Value) (he : ∀ args w, (callFunc f args).run Tryz.prog w = .ok (.enter f args) w) (w : World) (h : IntRow w R (List.range n))
    (hC : ∀ (i k : Nat) W, i < n → k < n → w.grownBy W (some R) → Calls Tryz.prog f (#[.int .i64 (i : Int), .int .i64 (k : Int)] ++ caps) W fun e w' => e = .returned (.int .i64 (cmpF (xs.getD k (0, 1)) (xs.getD i (0, 1)))) ∧ Below W.heap.size W w') :
    Calls Tryz.prog 150 #[.slice (some ⟨R, 0, none⟩) n n, .int .i64 0, .int .i64 (n : Int), .func (.func f) #[] caps] w fun e w' => e = .returned (.tuple #[]) ∧ w.grownBy w' (some R) ∧ ∃ l, IntRow w' R l ∧ l.Perm (List.range n) ∧ l.Pairwise (bef xs) := by
  have HC := Lib.hid hC; have H := Lib.hid h; have HXF := Lib.hid hxf
  clear hC h hxf
  have hml : n ≤ maxLen := Nat.le_trans hn (by decide)
  go_enter Tryz.func150, Tryz.ntmps150
  go_wp2_with fail
  go_loopw [8] (fun iv wr => ∃ (i : Nat) (s : List Nat), iv = .int .i64 (i : Int) ∧ 1 ≤ i ∧ i ≤ n + 1 ∧ Hid (w.grownBy wr (some R)) ∧ Hid (IntRow wr R (s ++ List.range' i (n - i))) ∧ Hid (s.Perm (List.range (min i n)) ∧ s.Pairwise (bef xs))) (fun iv _ => n + 1 - (intOf iv).toNat)
  case atStart =>
    refine ⟨1, List.range (min 1 n), rfl, Nat.le_refl _, by omega, Lib.hid ⟨rfl, rfl, rfl, Nat.le_refl _, fun _ _ _ => rfl⟩, Lib.hid ?_, Lib.hid ⟨List.Perm.refl _, ?_⟩⟩
    · have e : List.range (min 1 n) ++ List.range' 1 (n - 1) = List.range n := by
        rcases Nat.eq_zero_or_pos n with h0 | h0
        · subst h0; rfl
        · obtain ⟨m, rfl⟩ : ∃ m, n = m + 1 := ⟨n - 1, by omega⟩
          rw [show min 1 (m + 1) = 1 by omega, List.range_eq_range', List.range_eq_range', Nat.add_sub_cancel, List.range'_succ]
          rfl
      rw [e]; exact H.out
    · rcases Nat.eq_zero_or_pos n with h0 | h0
      · subst h0; simp
      · rw [show min 1 n = 1 by omega]; simp
  case round =>
    obtain ⟨i, s, rfl, hi1, hin, HG, HR, HS⟩ := hrel
    by_cases hlt : i < n
    case neg =>
      have hge : ¬ (i : Int) < (n : Int) := by omega
      go_wp2_with fail
      refine bodyPost_end (v := .tuple #[]) (by simp [results, Tryz.results150, go_sem]) rfl ⟨rfl, HG.out, s, ?_, ?_, HS.out.2⟩
      · have h := HR.out
        rw [show n - i = 0 by omega, List.range'_zero, List.append_nil] at h; exact h
      · have h := HS.out.1
        rw [show min i n = n by omega] at h; exact h
    obtain ⟨rest, hrest⟩ : ∃ rest, List.range' i (n - i) = i :: rest ∧ rest = List.range' (i + 1) (n - (i + 1)) := ⟨_, by rw [show n - i = (n - (i + 1)) + 1 by omega, List.range'_succ], rfl⟩
    have hr0 := HR.out
    rw [hrest.1] at hr0
    have hsp := HS.out.1
    rw [show min i n = i by omega] at hsp
    have HRI := Lib.hid hr0; have HSP := Lib.hid hsp; have HSS := Lib.hid HS.out.2; have HRE := Lib.hid hrest.2
    have hsl : s.length = i := by rw [hsp.length_eq, List.length_range]
    have HSL := Lib.hid hsl
    clear HR HS hr0 hsp hrest hsl
    have hlti : (i : Int) < (n : Int) := by omega
    go_wp2_with fail
    go_loopw [9] (fun jv w2 => ∃ (p q : List Nat), s = p ++ q ∧ jv = .int .i64 (p.length : Int) ∧ Hid (w.grownBy w2 (some R)) ∧ Hid (IntRow w2 R (p ++ i :: (q ++ rest))) ∧ Hid (∀ x ∈ q, bef xs i x)) (fun jv _ => (intOf jv).toNat)
    case atStart => exact ⟨s, [], by simp, by rw [HSL.out], HG, HRI, Lib.hid (by simp)⟩
    case round =>
      obtain ⟨p, q, hpq, rfl, HG2, HR2, HQ⟩ := hrel
      generalize wr = W2 at *
      have hrel_end : ∀ (W : World), w.grownBy W (some R) → IntRow W R (p ++ i :: (q ++ rest)) → (∀ p' y, p = p' ++ [y] → bef xs y i) →
          (∃ (i' : Nat) (s' : List Nat), Value.int .i64 ((i : Int) + 1) = .int .i64 (i' : Int) ∧ 1 ≤ i' ∧ i' ≤ n + 1 ∧ Hid (w.grownBy W (some R)) ∧ Hid (IntRow W R (s' ++ List.range' i' (n - i'))) ∧ Hid (s'.Perm (List.range (min i' n)) ∧ s'.Pairwise (bef xs))) := fun W hg hr hl => by
        have hk := ins_ok (xs := xs) (p := p) (q := q) (i := i) (by rw [← hpq]; exact HSP.out) (by rw [← hpq]; exact HSS.out) HQ.out hl
        refine ⟨i + 1, p ++ i :: q, rfl, by omega, by omega, Lib.hid hg, Lib.hid ?_, Lib.hid ⟨by rw [show min (i + 1) n = i + 1 by omega]; exact hk.1, hk.2⟩⟩
        rw [← HRE.out, List.append_assoc]; exact hr
      have HEND := Lib.hid hrel_end
      clear hrel_end
      rcases List.eq_nil_or_concat p with hp | ⟨p', y, hp⟩
      · subst hp
        have z0 : (([] : List Nat).length : Int) = 0 := rfl
        rw [z0]
        go_wp2_with fail
        refine wp_region_held_drew (S := fun _ => True) (by kernel_rfl) trivial (fun hHeld => ?_)
        refine takeH (i := 0) (n := 18) (v := .int .i64 0) rfl rfl (by kernel_rfl) (by kernel_rfl) (by kernel_rfl) (fun _ _ _ h => h) (Or.inl ⟨by kernel_rfl, ?_⟩) (by assumption) ?_
        · intro w hSw; (try dsimp only at hSw); go_simp
        try simp only [Act.put, List.setIfInBounds_toArray, List.set_cons_zero, List.set_cons_succ]
        refine takeH (i := 1) (n := 19) (v := .int .i64 0) rfl rfl (by kernel_rfl) (by kernel_rfl) (by kernel_rfl) (fun _ _ _ h => h) (Or.inl ⟨by kernel_rfl, ?_⟩) (by assumption) ?_
        · intro w hSw; (try dsimp only at hSw); go_simp
        try simp only [Act.put, List.setIfInBounds_toArray, List.set_cons_zero, List.set_cons_succ]
        refine takeH (i := 2) (n := 20) (v := .bool false) rfl rfl (by kernel_rfl) (by kernel_rfl) (by kernel_rfl) (fun _ _ _ h => h) (Or.inl ⟨by kernel_rfl, ?_⟩) (by assumption) ?_
        · intro w hSw; (try dsimp only at hSw); go_simp
        try simp only [Act.put, List.setIfInBounds_toArray, List.set_cons_zero, List.set_cons_succ]
        refine takeH (i := 3) (n := 21) (v := .bool false) rfl rfl (by kernel_rfl) (by kernel_rfl) (by kernel_rfl) (fun _ _ _ h => h) (Or.inl ⟨by kernel_rfl, ?_⟩) (by assumption) ?_
        · intro w hSw; (try dsimp only at hSw); go_simp
        try simp only [Act.put, List.setIfInBounds_toArray, List.set_cons_zero, List.set_cons_succ]
        refine takeH (i := 4) (n := 22) (v := undef) rfl rfl (by kernel_rfl) (by kernel_rfl) (by kernel_rfl) (fun _ _ _ h => h) (Or.inr ⟨by kernel_rfl, rfl⟩) (by assumption) ?_
        try simp only [Act.put, List.setIfInBounds_toArray, List.set_cons_zero, List.set_cons_succ]
        refine takeH (i := 5) (n := 23) (v := undef) rfl rfl (by kernel_rfl) (by kernel_rfl) (by kernel_rfl) (fun _ _ _ h => h) (Or.inr ⟨by kernel_rfl, rfl⟩) (by assumption) ?_
        try simp only [Act.put, List.setIfInBounds_toArray, List.set_cons_zero, List.set_cons_succ]
        refine takeH (i := 6) (n := 24) (v := undef) rfl rfl (by kernel_rfl) (by kernel_rfl) (by kernel_rfl) (fun _ _ _ h => h) (Or.inr ⟨by kernel_rfl, rfl⟩) (by assumption) ?_
        try simp only [Act.put, List.setIfInBounds_toArray, List.set_cons_zero, List.set_cons_succ]
        refine takeH (i := 7) (n := 25) (v := undef) rfl rfl (by kernel_rfl) (by kernel_rfl) (by kernel_rfl) (fun _ _ _ h => h) (Or.inr ⟨by kernel_rfl, rfl⟩) (by assumption) ?_
        try simp only [Act.put, List.setIfInBounds_toArray, List.set_cons_zero, List.set_cons_succ]
        refine takeH (i := 8) (n := 26) (v := undef) rfl rfl (by kernel_rfl) (by kernel_rfl) (by kernel_rfl) (fun _ _ _ h => h) (Or.inr ⟨by kernel_rfl, rfl⟩) (by assumption) ?_
        try simp only [Act.put, List.setIfInBounds_toArray, List.set_cons_zero, List.set_cons_succ]
        refine takeH (i := 9) (n := 27) (v := undef) rfl rfl (by kernel_rfl) (by kernel_rfl) (by kernel_rfl) (fun _ _ _ h => h) (Or.inr ⟨by kernel_rfl, rfl⟩) (by assumption) ?_
        try simp only [Act.put, List.setIfInBounds_toArray, List.set_cons_zero, List.set_cons_succ]
        refine takeH (i := 10) (n := 28) (v := undef) rfl rfl (by kernel_rfl) (by kernel_rfl) (by kernel_rfl) (fun _ _ _ h => h) (Or.inr ⟨by kernel_rfl, rfl⟩) (by assumption) ?_
        try simp only [Act.put, List.setIfInBounds_toArray, List.set_cons_zero, List.set_cons_succ]
        refine takeH (i := 11) (n := 29) (v := undef) rfl rfl (by kernel_rfl) (by kernel_rfl) (by kernel_rfl) (fun _ _ _ h => h) (Or.inr ⟨by kernel_rfl, rfl⟩) (by assumption) ?_
        try simp only [Act.put, List.setIfInBounds_toArray, List.set_cons_zero, List.set_cons_succ]
        refine takeH (i := 12) (n := 30) (v := undef) rfl rfl (by kernel_rfl) (by kernel_rfl) (by kernel_rfl) (fun _ _ _ h => h) (Or.inr ⟨by kernel_rfl, rfl⟩) (by assumption) ?_
        try simp only [Act.put, List.setIfInBounds_toArray, List.set_cons_zero, List.set_cons_succ]
        refine takeH (i := 13) (n := 31) (v := undef) rfl rfl (by kernel_rfl) (by kernel_rfl) (by kernel_rfl) (fun _ _ _ h => h) (Or.inr ⟨by kernel_rfl, rfl⟩) (by assumption) ?_
        try simp only [Act.put, List.setIfInBounds_toArray, List.set_cons_zero, List.set_cons_succ]
        refine takeH (i := 14) (n := 32) (v := undef) rfl rfl (by kernel_rfl) (by kernel_rfl) (by kernel_rfl) (fun _ _ _ h => h) (Or.inr ⟨by kernel_rfl, rfl⟩) (by assumption) ?_
        try simp only [Act.put, List.setIfInBounds_toArray, List.set_cons_zero, List.set_cons_succ]
        refine takeH (i := 15) (n := 33) (v := undef) rfl rfl (by kernel_rfl) (by kernel_rfl) (by kernel_rfl) (fun _ _ _ h => h) (Or.inr ⟨by kernel_rfl, rfl⟩) (by assumption) ?_
        try simp only [Act.put, List.setIfInBounds_toArray, List.set_cons_zero, List.set_cons_succ]
        refine takeH (i := 16) (n := 34) (v := .bool false) rfl rfl (by kernel_rfl) (by kernel_rfl) (by kernel_rfl) (fun _ _ _ h => h) (Or.inl ⟨by kernel_rfl, ?_⟩) (by assumption) ?_
        · intro w hSw; (try dsimp only at hSw); go_simp
        try simp only [Act.put, List.setIfInBounds_toArray, List.set_cons_zero, List.set_cons_succ]
        refine wpAnyH_done (by kernel_rfl) ?_ _
        go_wp2_with fail
        exact ⟨HEND.out _ (grown_trans HG2.out (grown_of (Below.refl _ _).drew (Nat.le_refl _))) (HR2.out.below (Below.refl _ _).drew) (fun p' y h => by simp at h), by simp [intOf]; omega⟩
      · rw [List.concat_eq_append] at hp
        subst hp
        have hjl : ((p' ++ [y]).length : Int) = (p'.length : Int) + 1 := by simp
        rw [hjl]
        generalize hJ : p'.length = j at *
        have hjn : j + 1 < n := by have h := HSL.out; rw [hpq] at h; simp at h; omega
        have hyi : y < i := List.mem_range.1 (HSP.out.mem_iff.1 (by rw [hpq]; simp))
        have hr2 := HR2.out
        have el : (p' ++ [y]) ++ i :: (q ++ rest) = p' ++ y :: i :: (q ++ rest) := by simp
        rw [el] at hr2
        have c0 := hr2.cell (i := j) (k := y) (by rw [← hJ]; simp)
        have c1 := hr2.cell (i := j + 1) (k := i) (by rw [← hJ, List.getElem?_append_right (by omega)]; simp)
        have HR3 := Lib.hid hr2
        have HS4 : Hid (∀ W', Below W2.heap.size W2 W' → W'.cell? ⟨R, j, none⟩ = some (.int .i64 (y : Int)) ∧ W'.cell? ⟨R, j + 1, none⟩ = some (.int .i64 (i : Int))) := Lib.hid fun W' h => ⟨cell_later h c0, cell_later h c1⟩
        have HCC : Hid (∀ W, Below W2.heap.size W2 W → Calls Tryz.prog f (#[.int .i64 (i : Int), .int .i64 (y : Int)] ++ caps) W fun e w' => e = .returned (.int .i64 (cmpF (xs.getD y (0, 1)) (xs.getD i (0, 1)))) ∧ Below W.heap.size W w') := Lib.hid fun W hW => HC.out i y W hlt (by omega) (grown_trans HG2.out (grown_of hW (Nat.le_refl _)))
        have fx : Fr (xs.getD y (0, 1)) := (HXF.out _ (by rw [List.getD_eq_getElem?_getD, List.getElem?_eq_getElem (by omega)]; exact List.getElem_mem _)).fr
        have fy : Fr (xs.getD i (0, 1)) := (HXF.out _ (by rw [List.getD_eq_getElem?_getD, List.getElem?_eq_getElem (by omega)]; exact List.getElem_mem _)).fr
        have hcq := cmpF_qv fx fy
        obtain ⟨c, hc⟩ : ∃ c, cmpF (xs.getD y (0, 1)) (xs.getD i (0, 1)) = c := ⟨_, rfl⟩
        rw [hc] at hcq
        have HCQ := Lib.hid hcq; have HYI := Lib.hid hyi
        have HCC2 := HCC.out; rw [hc] at HCC2; have HC3 := Lib.hid HCC2
        have hj0 : (0 : Int) ≤ (j : Int) := by omega
        have hj1 : (j : Int) + 1 < (n : Int) := by omega
        have hj2 : (j : Int) < (n : Int) := by omega
        have hj3 : (0 : Int) ≤ (j : Int) + 1 := by omega
        have hjw : IntKind.i64.wrap (j : Int) = (j : Int) := IntWalk.i64_in _ (by omega)
        have hjw1 : IntKind.i64.wrap ((j : Int) + 1) = (j : Int) + 1 := IntWalk.i64_in _ (by omega)
        clear hc hcq HCC HCC2 fx fy hr2 c0 c1 el hyi HR2
        go_wp2_with fail
        refine wp_region_held_drew (S := fun W' => W'.cell? ⟨R, j, none⟩ = some (.int .i64 (y : Int)) ∧ W'.cell? ⟨R, j + 1, none⟩ = some (.int .i64 (i : Int))) (by kernel_rfl) (HS4.out _ (Below.refl _ _).drew) (fun hHeld => ?_)
        refine takeH (i := 0) (n := 18) (v := .int .i64 ((j : Int) + 1)) rfl rfl (by kernel_rfl) (by kernel_rfl) (by kernel_rfl) (fun _ _ _ h => h) (Or.inl ⟨by kernel_rfl, ?_⟩) (by assumption) ?_
        · intro w hSw; (try dsimp only at hSw); go_simp
        try simp only [Act.put, List.setIfInBounds_toArray, List.set_cons_zero, List.set_cons_succ]
        refine takeH (i := 1) (n := 19) (v := .int .i64 0) rfl rfl (by kernel_rfl) (by kernel_rfl) (by kernel_rfl) (fun _ _ _ h => h) (Or.inl ⟨by kernel_rfl, ?_⟩) (by assumption) ?_
        · intro w hSw; (try dsimp only at hSw); go_simp
        try simp only [Act.put, List.setIfInBounds_toArray, List.set_cons_zero, List.set_cons_succ]
        refine takeH (i := 2) (n := 20) (v := .bool true) rfl rfl (by kernel_rfl) (by kernel_rfl) (by kernel_rfl) (fun _ _ _ h => h) (Or.inl ⟨by kernel_rfl, ?_⟩) (by assumption) ?_
        · intro w hSw; (try dsimp only at hSw); go_simp
        try simp only [Act.put, List.setIfInBounds_toArray, List.set_cons_zero, List.set_cons_succ]
        refine takeH (i := 3) (n := 21) (v := .bool true) rfl rfl (by kernel_rfl) (by kernel_rfl) (by kernel_rfl) (fun _ _ _ h => h) (Or.inl ⟨by kernel_rfl, ?_⟩) (by assumption) ?_
        · intro w hSw; (try dsimp only at hSw); go_simp
        try simp only [Act.put, List.setIfInBounds_toArray, List.set_cons_zero, List.set_cons_succ]
        refine takeH (i := 4) (n := 22) (v := .func (.func f) #[] caps) rfl rfl (by kernel_rfl) (by kernel_rfl) (by kernel_rfl) (fun _ _ _ h => h) (Or.inl ⟨by kernel_rfl, ?_⟩) (by assumption) ?_
        · intro w hSw; (try dsimp only at hSw); go_simp
        try simp only [Act.put, List.setIfInBounds_toArray, List.set_cons_zero, List.set_cons_succ]
        refine takeH (i := 5) (n := 23) (v := .slice (some ⟨R, 0, none⟩) n n) rfl rfl (by kernel_rfl) (by kernel_rfl) (by kernel_rfl) (fun _ _ _ h => h) (Or.inl ⟨by kernel_rfl, ?_⟩) (by assumption) ?_
        · intro w hSw; (try dsimp only at hSw); go_simp
        try simp only [Act.put, List.setIfInBounds_toArray, List.set_cons_zero, List.set_cons_succ]
        refine takeH (i := 6) (n := 24) (v := .int .i64 ((j : Int) + 1)) rfl rfl (by kernel_rfl) (by kernel_rfl) (by kernel_rfl) (fun _ _ _ h => h) (Or.inl ⟨by kernel_rfl, ?_⟩) (by assumption) ?_
        · intro w hSw; (try dsimp only at hSw); go_simp
        try simp only [Act.put, List.setIfInBounds_toArray, List.set_cons_zero, List.set_cons_succ]
        refine takeH (i := 7) (n := 25) (v := .pointer (some ⟨R, j + 1, none⟩)) rfl rfl (by kernel_rfl) (by kernel_rfl) (by kernel_rfl) (fun _ _ _ h => h) (Or.inl ⟨by kernel_rfl, ?_⟩) (by assumption) ?_
        · intro w hSw; (try dsimp only at hSw); go_simp
        try simp only [Act.put, List.setIfInBounds_toArray, List.set_cons_zero, List.set_cons_succ]
        refine takeH (i := 8) (n := 26) (v := .int .i64 (i : Int)) rfl rfl (by kernel_rfl) (by kernel_rfl) (by kernel_rfl) (fun _ _ _ h => h) (Or.inl ⟨by kernel_rfl, ?_⟩) (by assumption) ?_
        · intro w hSw; (try dsimp only at hSw); go_simp
        try simp only [Act.put, List.setIfInBounds_toArray, List.set_cons_zero, List.set_cons_succ]
        refine takeH (i := 9) (n := 27) (v := .slice (some ⟨R, 0, none⟩) n n) rfl rfl (by kernel_rfl) (by kernel_rfl) (by kernel_rfl) (fun _ _ _ h => h) (Or.inl ⟨by kernel_rfl, ?_⟩) (by assumption) ?_
        · intro w hSw; (try dsimp only at hSw); go_simp
        try simp only [Act.put, List.setIfInBounds_toArray, List.set_cons_zero, List.set_cons_succ]
        refine takeH (i := 10) (n := 28) (v := .int .i64 ((j : Int) + 1)) rfl rfl (by kernel_rfl) (by kernel_rfl) (by kernel_rfl) (fun _ _ _ h => h) (Or.inl ⟨by kernel_rfl, ?_⟩) (by assumption) ?_
        · intro w hSw; (try dsimp only at hSw); go_simp
        try simp only [Act.put, List.setIfInBounds_toArray, List.set_cons_zero, List.set_cons_succ]
        refine takeH (i := 11) (n := 29) (v := .int .i64 (j : Int)) rfl rfl (by kernel_rfl) (by kernel_rfl) (by kernel_rfl) (fun _ _ _ h => h) (Or.inl ⟨by kernel_rfl, ?_⟩) (by assumption) ?_
        · intro w hSw; (try dsimp only at hSw); go_simp
        try simp only [Act.put, List.setIfInBounds_toArray, List.set_cons_zero, List.set_cons_succ]
        refine takeH (i := 12) (n := 30) (v := .pointer (some ⟨R, j, none⟩)) rfl rfl (by kernel_rfl) (by kernel_rfl) (by kernel_rfl) (fun _ _ _ h => h) (Or.inl ⟨by kernel_rfl, ?_⟩) (by assumption) ?_
        · intro w hSw; (try dsimp only at hSw); go_simp
        try simp only [Act.put, List.setIfInBounds_toArray, List.set_cons_zero, List.set_cons_succ]
        refine takeH (i := 13) (n := 31) (v := .int .i64 (y : Int)) rfl rfl (by kernel_rfl) (by kernel_rfl) (by kernel_rfl) (fun _ _ _ h => h) (Or.inl ⟨by kernel_rfl, ?_⟩) (by assumption) ?_
        · intro w hSw; (try dsimp only at hSw); go_simp
        try simp only [Act.put, List.setIfInBounds_toArray, List.set_cons_zero, List.set_cons_succ]
        refine wpAnyH_ready (rs := [14]) (by kernel_rfl) (by simp) ?_
        refine AllReadyH.cons rfl (fun K hK => ?_) AllReadyH.nil
        try rw [if_pos (by kernel_rfl)]
        try go_simp
        refine (HC3.out _ (Below.refl _ _).drew).mono ?_
        rintro e w6 ⟨rfl, hb⟩
        have hBn := below_chain (W := W2) (Below.refl _ _).drew hb
        have hg6 := grown_trans HG2.out (grown_of hBn (Nat.le_refl _))
        have hr6 := HR3.out.below hBn
        have G6 := Lib.hid hg6; have R6 := Lib.hid hr6; have HB6 := Lib.hid hBn
        by_cases hc0 : c < 0
        · have hcb : decide (c < 0) = true := decide_eq_true hc0
          refine hK.out _ _ (HS4.out _ HB6.out) (fun hHeld => ?_)
          clear hK K
          try simp only [Act.put, List.setIfInBounds_toArray, List.set_cons_zero, List.set_cons_succ]
          refine takeH (i := 15) (n := 33) (v := .bool true) rfl rfl (by kernel_rfl) (by kernel_rfl) (by kernel_rfl) (fun _ _ _ h => h) (Or.inl ⟨by kernel_rfl, ?_⟩) (by assumption) ?_
          · intro w hSw; (try dsimp only at hSw); go_simp
          try simp only [Act.put, List.setIfInBounds_toArray, List.set_cons_zero, List.set_cons_succ]
          refine takeH (i := 16) (n := 34) (v := .bool true) rfl rfl (by kernel_rfl) (by kernel_rfl) (by kernel_rfl) (fun _ _ _ h => h) (Or.inl ⟨by kernel_rfl, ?_⟩) (by assumption) ?_
          · intro w hSw; (try dsimp only at hSw); go_simp
          try simp only [Act.put, List.setIfInBounds_toArray, List.set_cons_zero, List.set_cons_succ]
          refine wpAnyH_done (by kernel_rfl) ?_ _
          clear hb hBn hg6 hr6
          have c0 := R6.out.cell (i := j) (k := y) (by rw [← hJ]; simp)
          have c1 := R6.out.cell (i := j + 1) (k := i) (by rw [← hJ, List.getElem?_append_right (by omega)]; simp)
          have f0 := R6.out.free j; have f1 := R6.out.free (j + 1)
          go_wp2_with fail
          refine wp_region_held_drew (S := fun _ => True) (by kernel_rfl) trivial (fun hHeld => ?_)
          refine takeH (i := 0) (n := 37) (v := .slice (some ⟨R, 0, none⟩) n n) rfl rfl (by kernel_rfl) (by kernel_rfl) (by kernel_rfl) (fun _ _ _ h => h) (Or.inl ⟨by kernel_rfl, ?_⟩) (by assumption) ?_
          · intro w hSw; (try dsimp only at hSw); go_simp
          try simp only [Act.put, List.setIfInBounds_toArray, List.set_cons_zero, List.set_cons_succ]
          refine takeH (i := 1) (n := 38) (v := .int .i64 ((j : Int) + 1)) rfl rfl (by kernel_rfl) (by kernel_rfl) (by kernel_rfl) (fun _ _ _ h => h) (Or.inl ⟨by kernel_rfl, ?_⟩) (by assumption) ?_
          · intro w hSw; (try dsimp only at hSw); go_simp
          try simp only [Act.put, List.setIfInBounds_toArray, List.set_cons_zero, List.set_cons_succ]
          refine takeH (i := 2) (n := 39) (v := .slice (some ⟨R, 0, none⟩) n n) rfl rfl (by kernel_rfl) (by kernel_rfl) (by kernel_rfl) (fun _ _ _ h => h) (Or.inl ⟨by kernel_rfl, ?_⟩) (by assumption) ?_
          · intro w hSw; (try dsimp only at hSw); go_simp
          try simp only [Act.put, List.setIfInBounds_toArray, List.set_cons_zero, List.set_cons_succ]
          refine takeH (i := 3) (n := 40) (v := .int .i64 ((j : Int) + 1)) rfl rfl (by kernel_rfl) (by kernel_rfl) (by kernel_rfl) (fun _ _ _ h => h) (Or.inl ⟨by kernel_rfl, ?_⟩) (by assumption) ?_
          · intro w hSw; (try dsimp only at hSw); go_simp
          try simp only [Act.put, List.setIfInBounds_toArray, List.set_cons_zero, List.set_cons_succ]
          refine takeH (i := 4) (n := 41) (v := .int .i64 (j : Int)) rfl rfl (by kernel_rfl) (by kernel_rfl) (by kernel_rfl) (fun _ _ _ h => h) (Or.inl ⟨by kernel_rfl, ?_⟩) (by assumption) ?_
          · intro w hSw; (try dsimp only at hSw); go_simp
          try simp only [Act.put, List.setIfInBounds_toArray, List.set_cons_zero, List.set_cons_succ]
          refine takeH (i := 5) (n := 42) (v := .slice (some ⟨R, 0, none⟩) n n) rfl rfl (by kernel_rfl) (by kernel_rfl) (by kernel_rfl) (fun _ _ _ h => h) (Or.inl ⟨by kernel_rfl, ?_⟩) (by assumption) ?_
          · intro w hSw; (try dsimp only at hSw); go_simp
          try simp only [Act.put, List.setIfInBounds_toArray, List.set_cons_zero, List.set_cons_succ]
          refine takeH (i := 6) (n := 43) (v := .int .i64 ((j : Int) + 1)) rfl rfl (by kernel_rfl) (by kernel_rfl) (by kernel_rfl) (fun _ _ _ h => h) (Or.inl ⟨by kernel_rfl, ?_⟩) (by assumption) ?_
          · intro w hSw; (try dsimp only at hSw); go_simp
          try simp only [Act.put, List.setIfInBounds_toArray, List.set_cons_zero, List.set_cons_succ]
          refine takeH (i := 7) (n := 44) (v := .int .i64 (j : Int)) rfl rfl (by kernel_rfl) (by kernel_rfl) (by kernel_rfl) (fun _ _ _ h => h) (Or.inl ⟨by kernel_rfl, ?_⟩) (by assumption) ?_
          · intro w hSw; (try dsimp only at hSw); go_simp
          try simp only [Act.put, List.setIfInBounds_toArray, List.set_cons_zero, List.set_cons_succ]
          refine takeH (i := 8) (n := 45) (v := .pointer (some ⟨R, j, none⟩)) rfl rfl (by kernel_rfl) (by kernel_rfl) (by kernel_rfl) (fun _ _ _ h => h) (Or.inl ⟨by kernel_rfl, ?_⟩) (by assumption) ?_
          · intro w hSw; (try dsimp only at hSw); go_simp
          try simp only [Act.put, List.setIfInBounds_toArray, List.set_cons_zero, List.set_cons_succ]
          refine takeH (i := 10) (n := 47) (v := .slice (some ⟨R, 0, none⟩) n n) rfl rfl (by kernel_rfl) (by kernel_rfl) (by kernel_rfl) (fun _ _ _ h => h) (Or.inl ⟨by kernel_rfl, ?_⟩) (by assumption) ?_
          · intro w hSw; (try dsimp only at hSw); go_simp
          try simp only [Act.put, List.setIfInBounds_toArray, List.set_cons_zero, List.set_cons_succ]
          refine takeH (i := 11) (n := 48) (v := .int .i64 ((j : Int) + 1)) rfl rfl (by kernel_rfl) (by kernel_rfl) (by kernel_rfl) (fun _ _ _ h => h) (Or.inl ⟨by kernel_rfl, ?_⟩) (by assumption) ?_
          · intro w hSw; (try dsimp only at hSw); go_simp
          try simp only [Act.put, List.setIfInBounds_toArray, List.set_cons_zero, List.set_cons_succ]
          refine takeH (i := 12) (n := 49) (v := .pointer (some ⟨R, j + 1, none⟩)) rfl rfl (by kernel_rfl) (by kernel_rfl) (by kernel_rfl) (fun _ _ _ h => h) (Or.inl ⟨by kernel_rfl, ?_⟩) (by assumption) ?_
          · intro w hSw; (try dsimp only at hSw); go_simp
          try simp only [Act.put, List.setIfInBounds_toArray, List.set_cons_zero, List.set_cons_succ]
          refine wpAnyH_ready (rs := [9, 13]) (by kernel_rfl) (by simp) ?_
          refine AllReadyH.cons rfl (fun K hK => ?_) (AllReadyH.cons rfl (fun K hK => ?_) AllReadyH.nil)
          · try rw [if_pos (by kernel_rfl)]
            try go_simp
            refine hK.out _ _ trivial (fun hHeld => ?_)
            clear hK K
            try simp only [Act.put, List.setIfInBounds_toArray, List.set_cons_zero, List.set_cons_succ]
            refine wpAnyH_ready (rs := [13]) (by kernel_rfl) (by simp) ?_
            refine AllReadyH.cons rfl (fun K hK => ?_) AllReadyH.nil
            try rw [if_pos (by kernel_rfl)]
            try go_simp
            refine hK.out _ _ trivial (fun hHeld => ?_)
            clear hK K
            try simp only [Act.put, List.setIfInBounds_toArray, List.set_cons_zero, List.set_cons_succ]
            refine takeH (i := 14) (n := 51) (v := .pointer (some ⟨R, j + 1, none⟩)) rfl rfl (by kernel_rfl) (by kernel_rfl) (by kernel_rfl) (fun _ _ _ h => h) (Or.inl ⟨by kernel_rfl, ?_⟩) (by assumption) ?_
            · intro w hSw; (try dsimp only at hSw); go_simp
            try simp only [Act.put, List.setIfInBounds_toArray, List.set_cons_zero, List.set_cons_succ]
            refine wpAnyH_ready (rs := [15]) (by kernel_rfl) (by simp) ?_
            refine AllReadyH.cons rfl (fun K hK => ?_) AllReadyH.nil
            try rw [if_pos (by kernel_rfl)]
            try go_simp
            refine hK.out _ _ trivial (fun hHeld => ?_)
            clear hK K
            try simp only [Act.put, List.setIfInBounds_toArray, List.set_cons_zero, List.set_cons_succ]
            refine takeH (i := 16) (n := 52) (v := .pointer (some ⟨R, j, none⟩)) rfl rfl (by kernel_rfl) (by kernel_rfl) (by kernel_rfl) (fun _ _ _ h => h) (Or.inl ⟨by kernel_rfl, ?_⟩) (by assumption) ?_
            · intro w hSw; (try dsimp only at hSw); go_simp
            try simp only [Act.put, List.setIfInBounds_toArray, List.set_cons_zero, List.set_cons_succ]
            refine wpAnyH_ready (rs := [17]) (by kernel_rfl) (by simp) ?_
            refine AllReadyH.cons rfl (fun K hK => ?_) AllReadyH.nil
            try rw [if_pos (by kernel_rfl)]
            try go_simp
            refine hK.out _ _ trivial (fun hHeld => ?_)
            clear hK K
            try simp only [Act.put, List.setIfInBounds_toArray, List.set_cons_zero, List.set_cons_succ]
            refine wpAnyH_done (by kernel_rfl) ?_ _
            go_wp2_with fail
            have hrr := (R6.out.set (j + 1) y).set j i
            refine ⟨⟨p', y :: q, by rw [hpq]; simp, by rw [hJ], Lib.hid (grown_trans (grown_set (grown_set G6.out _ _) _ _) ⟨rfl, rfl, rfl, Nat.le_refl _, fun _ _ _ => rfl⟩), Lib.hid ?_, Lib.hid ?_⟩, by simp [intOf]⟩
            · have e : ((p' ++ y :: i :: (q ++ rest)).set (j + 1) y).set j i = p' ++ i :: (y :: q ++ rest) := by
                rw [← hJ, List.set_append_right _ _ (by omega), show p'.length + 1 - p'.length = 1 by omega, List.set_append_right _ _ (by omega), Nat.sub_self]; rfl
              rw [← e]; exact hrr
            · intro x hx
              rcases List.mem_cons.1 hx with rfl | hx
              · exact .inl (HCQ.out.1.1 hc0)
              · exact HQ.out x hx
          · try rw [if_pos (by kernel_rfl)]
            try go_simp
            refine hK.out _ _ trivial (fun hHeld => ?_)
            clear hK K
            try simp only [Act.put, List.setIfInBounds_toArray, List.set_cons_zero, List.set_cons_succ]
            refine wpAnyH_ready (rs := [9]) (by kernel_rfl) (by simp) ?_
            refine AllReadyH.cons rfl (fun K hK => ?_) AllReadyH.nil
            try rw [if_pos (by kernel_rfl)]
            try go_simp
            refine hK.out _ _ trivial (fun hHeld => ?_)
            clear hK K
            try simp only [Act.put, List.setIfInBounds_toArray, List.set_cons_zero, List.set_cons_succ]
            refine takeH (i := 14) (n := 51) (v := .pointer (some ⟨R, j + 1, none⟩)) rfl rfl (by kernel_rfl) (by kernel_rfl) (by kernel_rfl) (fun _ _ _ h => h) (Or.inl ⟨by kernel_rfl, ?_⟩) (by assumption) ?_
            · intro w hSw; (try dsimp only at hSw); go_simp
            try simp only [Act.put, List.setIfInBounds_toArray, List.set_cons_zero, List.set_cons_succ]
            refine wpAnyH_ready (rs := [15]) (by kernel_rfl) (by simp) ?_
            refine AllReadyH.cons rfl (fun K hK => ?_) AllReadyH.nil
            try rw [if_pos (by kernel_rfl)]
            try go_simp
            refine hK.out _ _ trivial (fun hHeld => ?_)
            clear hK K
            try simp only [Act.put, List.setIfInBounds_toArray, List.set_cons_zero, List.set_cons_succ]
            refine takeH (i := 16) (n := 52) (v := .pointer (some ⟨R, j, none⟩)) rfl rfl (by kernel_rfl) (by kernel_rfl) (by kernel_rfl) (fun _ _ _ h => h) (Or.inl ⟨by kernel_rfl, ?_⟩) (by assumption) ?_
            · intro w hSw; (try dsimp only at hSw); go_simp
            try simp only [Act.put, List.setIfInBounds_toArray, List.set_cons_zero, List.set_cons_succ]
            refine wpAnyH_ready (rs := [17]) (by kernel_rfl) (by simp) ?_
            refine AllReadyH.cons rfl (fun K hK => ?_) AllReadyH.nil
            try rw [if_pos (by kernel_rfl)]
            try go_simp
            refine hK.out _ _ trivial (fun hHeld => ?_)
            clear hK K
            try simp only [Act.put, List.setIfInBounds_toArray, List.set_cons_zero, List.set_cons_succ]
            refine wpAnyH_done (by kernel_rfl) ?_ _
            go_wp2_with fail
            have hrr := (R6.out.set (j + 1) y).set j i
            refine ⟨⟨p', y :: q, by rw [hpq]; simp, by rw [hJ], Lib.hid (grown_trans (grown_set (grown_set G6.out _ _) _ _) ⟨rfl, rfl, rfl, Nat.le_refl _, fun _ _ _ => rfl⟩), Lib.hid ?_, Lib.hid ?_⟩, by simp [intOf]⟩
            · have e : ((p' ++ y :: i :: (q ++ rest)).set (j + 1) y).set j i = p' ++ i :: (y :: q ++ rest) := by
                rw [← hJ, List.set_append_right _ _ (by omega), show p'.length + 1 - p'.length = 1 by omega, List.set_append_right _ _ (by omega), Nat.sub_self]; rfl
              rw [← e]; exact hrr
            · intro x hx
              rcases List.mem_cons.1 hx with rfl | hx
              · exact .inl (HCQ.out.1.1 hc0)
              · exact HQ.out x hx
        · have hcb : decide (c < 0) = false := decide_eq_false hc0
          refine hK.out _ _ (HS4.out _ HB6.out) (fun hHeld => ?_)
          clear hK K
          try simp only [Act.put, List.setIfInBounds_toArray, List.set_cons_zero, List.set_cons_succ]
          refine takeH (i := 15) (n := 33) (v := .bool false) rfl rfl (by kernel_rfl) (by kernel_rfl) (by kernel_rfl) (fun _ _ _ h => h) (Or.inl ⟨by kernel_rfl, ?_⟩) (by assumption) ?_
          · intro w hSw; (try dsimp only at hSw); go_simp
          try simp only [Act.put, List.setIfInBounds_toArray, List.set_cons_zero, List.set_cons_succ]
          refine takeH (i := 16) (n := 34) (v := .bool false) rfl rfl (by kernel_rfl) (by kernel_rfl) (by kernel_rfl) (fun _ _ _ h => h) (Or.inl ⟨by kernel_rfl, ?_⟩) (by assumption) ?_
          · intro w hSw; (try dsimp only at hSw); go_simp
          try simp only [Act.put, List.setIfInBounds_toArray, List.set_cons_zero, List.set_cons_succ]
          refine wpAnyH_done (by kernel_rfl) ?_ _
          clear hb hBn hg6 hr6
          go_wp2_with fail
          refine ⟨HEND.out _ G6.out (by have h := R6.out; rw [show (p' ++ [y]) ++ i :: (q ++ rest) = p' ++ y :: i :: (q ++ rest) by simp]; exact h) (fun p'' y' h => ?_), by simp [intOf]; omega⟩
          have h2 := (List.append_inj' h rfl).2
          simp only [List.cons.injEq, and_true] at h2
          subst h2
          have k := HCQ.out
          unfold bef
          generalize qv (xs.getD y (0, 1)) = a at *
          generalize qv (xs.getD i (0, 1)) = b at *
          by_cases hab : a = b
          · exact .inr ⟨hab.symm, HYI.out⟩
          · exact .inl (by have k1 : ¬ a < b := fun h => hc0 (k.1.2 h); grind)
end Go.Proofs.YtkggfeemjabdeaaGreatDoor.Wc
end
section
namespace Go.Proofs.YtkggfeemjabdeaaGreatDoor.Wc
open Go Go.Proofs.YtkggfeemjabdeaaGreatDoor.Sx Go.RowKit

/-- What a sort of the indices comes to. -/
def SortP (xs : List (Nat × Nat)) (R n : Nat) (w : World) (e : Ending) (w' : World) : Prop :=
  e = .returned (.tuple #[]) ∧ w.grownBy w' (some R) ∧ ∃ l, IntRow w' R l ∧ l.Perm (List.range n) ∧ l.Pairwise (bef xs)
/-- What the comparison is asked to do. -/
def CmpC (xs : List (Nat × Nat)) (R n : Nat) (f : FuncId) (caps : Array Value) (w : World) : Prop :=
  ∀ (i k : Nat) W, i < n → k < n → w.grownBy W (some R) → Calls Tryz.prog f (#[.int .i64 (i : Int), .int .i64 (k : Int)] ++ caps) W fun e w' => e = .returned (.int .i64 (cmpF (xs.getD k (0, 1)) (xs.getD i (0, 1)))) ∧ Below W.heap.size W w'

set_option maxRecDepth 100000 in
set_option maxHeartbeats 2000000 in
theorem stable_any (xs : List (Nat × Nat)) (hxf : ∀ r ∈ xs, FrT r) (R n : Nat) (hxn : xs.length = n) (hn : n ≤ 19) (f : FuncId) (caps : Array Value) (he : ∀ args w, (callFunc f args).run Tryz.prog w = .ok (.enter f args) w) (w : World) (h : IntRow w R (List.range n)) (hC : CmpC xs R n f caps w) :
    Calls Tryz.prog 131 #[.slice (some ⟨R, 0, none⟩) n n, .int .i64 (n : Int), .func (.func f) #[] caps] w (SortP xs R n w) := by
  have hI := insertion_any xs hxf R n hxn (by omega) f caps he w h hC
  have HI := Lib.hid hI
  clear hI hC h hxf
  have h20 : ¬ (20 : Int) ≤ (n : Int) := by omega
  have h21 : ¬ (20 : Int) < (n : Int) := by omega
  go_enter Tryz.func131, Tryz.ntmps131
  go_wp2_with fail
  go_loopw [7, 8] (fun av bv wr => av = .int .i64 0 ∧ bv = .int .i64 20 ∧ wr = w) (fun _ _ _ => 0)
  case atStart => exact ⟨rfl, rfl, rfl⟩
  case round =>
    obtain ⟨rfl, rfl, rfl⟩ := hrel
    go_wp2_with fail
    refine HI.out.mono ?_
    rintro e w6 ⟨rfl, hg, hl⟩
    have HG := Lib.hid hg; have HL := Lib.hid hl
    clear hg hl HI
    go_wp2_with fail
    generalize wr = W0 at *
    go_loopw [6] (fun bv w7 => bv = .int .i64 20 ∧ w7 = w6) (fun _ _ => 0)
    case atStart => exact ⟨rfl, rfl⟩
    case round =>
      obtain ⟨rfl, rfl⟩ := hrel
      go_wp2_with fail
      refine bodyPost_end (v := .tuple #[]) (by simp [results, Tryz.results131, go_sem]) rfl ⟨rfl, HG.out, HL.out⟩

set_option maxRecDepth 100000 in
set_option maxHeartbeats 2000000 in
theorem sortStable_any (xs : List (Nat × Nat)) (hxf : ∀ r ∈ xs, FrT r) (R n : Nat) (hxn : xs.length = n) (hn : n ≤ 19) (f : FuncId) (caps : Array Value) (he : ∀ args w, (callFunc f args).run Tryz.prog w = .ok (.enter f args) w) (w : World) (h : IntRow w R (List.range n)) (hC : CmpC xs R n f caps w) :
    Calls Tryz.prog 99 #[.slice (some ⟨R, 0, none⟩) n n, .func (.func f) #[] caps] w (SortP xs R n w) := by
  have HI := Lib.hid (stable_any xs hxf R n hxn hn f caps he w h hC)
  clear hC h hxf
  go_enter Tryz.func99, Tryz.ntmps99
  go_wp2_with fail
  refine HI.out.mono ?_
  rintro e w6 ⟨rfl, hg, hl⟩
  have HG := Lib.hid hg; have HL := Lib.hid hl
  clear hg hl HI
  go_wp2_with fail
  exact bodyPost_end (v := .tuple #[]) (by simp [results, Tryz.results99, go_sem]) rfl ⟨rfl, HG.out, HL.out⟩

theorem Rats.rowed {A : Nat → Prop} {w w' : World} {B n R : Nat} {xs : List (Nat × Nat)} {cs : Array Value} (h : Rats A w B n xs cs) (hg : w.grownBy w' (some R)) (hR : ¬ A R) (hne : B ≠ R) : Rats A w' B n xs cs :=
  ⟨(hg.block B h.lt (fun e => hne (Option.some.inj e))).trans h.blk, h.size, h.len, h.nb, fun i q hi => by obtain ⟨u, h1, h2, h3⟩ := h.num i q hi; exact ⟨u, h1, natV_grown h2 hg (h3.not hR), h3⟩, fun i q hi => by obtain ⟨u, h1, h2, h3⟩ := h.den i q hi; exact ⟨u, h1, natV_grown h2 hg (h3.not hR), h3⟩⟩
theorem Tens.rowed {w w' : World} {R : Nat} (h : Tens w) (hg : w.grownBy w' (some R)) (hR : R ≠ 0) : Tens w' := fun j hj => hg.cell (h j hj) (fun e => hR (Option.some.inj e).symm)
theorem made_ints (n : Nat) : madeCells (Value.int .i64 0).cells n = ((List.replicate n 0).map fun k : Nat => Value.int .i64 (k : Int)).toArray := by
  apply Array.ext_getElem?
  intro i
  simp only [madeCells, Value.cells]
  by_cases hi : i < n
  · simp [hi, Nat.mod_one]
  · simp [hi]
theorem infoI : (Tryz.prog.info? 3).map (fun i => (i.zero, i.size, i.bytes)) = some (some (.int .i64 0), 1, 8) := by kernel_rfl
/-- What rank comes to. -/
def RankP (xs : List (Nat × Nat)) (n : Nat) (w : World) (e : Ending) (w' : World) : Prop :=
  Below w.heap.size w w' ∧ ∃ R l, w.heap.size ≤ R ∧ e = .returned (.slice (some ⟨R, 0, none⟩) n n) ∧ IntRow w' R l ∧ l.Perm (List.range n) ∧ l.Pairwise (bef xs)
theorem below_row {B R : Nat} {w0 w1 w2 : World} (h : Below B w0 w1) (hB : B ≤ w0.heap.size) (hg : w1.grownBy w2 (some R)) (hR : B ≤ R) : Below B w0 w2 :=
  ⟨hg.os.trans h.os, hg.tape.trans h.tape, hg.output.trans h.output, Nat.le_trans h.size hg.size, fun k hk => (hg.block k (Nat.lt_of_lt_of_le (Nat.lt_of_lt_of_le hk hB) h.size) (fun e => by have := Option.some.inj e; omega)).trans (h.block k hk)⟩

set_option maxRecDepth 100000 in
set_option maxHeartbeats 2000000 in
theorem rank_any (B n : Nat) (xs : List (Nat × Nat)) (cs : Array Value) (w : World) (hx : Rats (· ≠ B) w B n xs cs) (hxn : xs.length = n) (hxf : ∀ r ∈ xs, FrT r) (hn : n ≤ 19) (ht : Tens w) (h0 : 0 < w.heap.size) :
    Calls Tryz.prog 54 #[.slice (some ⟨B, 0, none⟩) n n] w (RankP xs n w) := by
  have hBl := hx.lt
  obtain ⟨W1, hW1⟩ : ∃ W, W = w.alloc (.cells #[.slice (some ⟨B, 0, none⟩) n n] 85) := ⟨_, rfl⟩
  have b01 : Below w.heap.size w W1 := by rw [hW1]; exact (Below.refl _ _).alloc (Nat.le_refl _) _
  have s1 : W1.heap.size = w.heap.size + 1 := by rw [hW1, World.size_alloc]
  have e1 : W1.heap[w.heap.size]? = some (.cells #[.slice (some ⟨B, 0, none⟩) n n] 85 (0, 0)) := by rw [hW1]; exact Go.Deep.blk_alloc_new _ _
  obtain ⟨i0, hi, hz0, hz1, hz2⟩ : ∃ i0, Tryz.prog.info? 3 = some i0 ∧ i0.zero = some (.int .i64 0) ∧ i0.size = 1 ∧ i0.bytes = 8 := by
    obtain ⟨i, hi, hzz⟩ := Option.map_eq_some_iff.1 infoI
    simp only [Prod.mk.injEq] at hzz
    exact ⟨i, hi, hzz.1, hzz.2.1, hzz.2.2⟩
  have hmk := run_makeSlice (P := Tryz.prog) (w := W1) 37 3 i0 _ Tryz.underlying37 hi hz0 .i64 .i64 (n : Int) (n : Int) (by omega) (by omega) (by rw [hz1]; simp; omega) (by rw [hz2]; omega) (by omega)
  rw [hz1, Int.toNat_natCast, Nat.mul_one, made_ints] at hmk
  have hxA : Rats (fun c => c < w.heap.size ∧ c ≠ B) w B n xs cs := hx.sub (fun c h h' => ⟨h', h⟩) (fun h => h.2 rfl)
  have HX := Lib.hid hxA; have HXF := Lib.hid hxf; have HT := Lib.hid ht; have HW1 := Lib.hid hW1; have HB1 := Lib.hid b01; have HE1 := Lib.hid e1
  obtain ⟨W2, hW2⟩ : ∃ W, W = W1.alloc (.cells ((List.replicate n 0).map fun k : Nat => Value.int .i64 (k : Int)).toArray 3) := ⟨_, rfl⟩
  have b12 : Below W1.heap.size W1 W2 := by rw [hW2]; exact (Below.refl _ _).alloc (Nat.le_refl _) _
  have r2 : IntRow W2 (w.heap.size + 1) (List.replicate n 0) := by unfold IntRow; rw [← s1, hW2]; exact Go.Deep.blk_alloc_new _ _
  have HB2 := Lib.hid (b01.trans (b12.mono b01.size)); have HR2 := Lib.hid r2
  have e2 := (b12.block _ (by omega)).trans e1
  have HE2 := Lib.hid e2
  rw [← hW2, s1, hW1] at hmk
  have y0 : W1.cell? ⟨w.heap.size, 0, none⟩ = some (.slice (some ⟨B, 0, none⟩) n n) := by rw [set_cells e1]; rfl
  clear hx hxA hxf ht hW1 b01 e1 hW2 b12 r2 e2 s1
  go_enter Tryz.func54, Tryz.ntmps54
  go_wp2_with fail
  go_loopw [10] (fun iv wr => ∃ i : Nat, i ≤ n ∧ iv = .int .i64 (i : Int) ∧ Hid (Below w.heap.size w wr) ∧ Hid (wr.heap[w.heap.size]? = some (.cells #[.slice (some ⟨B, 0, none⟩) n n] 85 (0, 0))) ∧ Hid (IntRow wr (w.heap.size + 1) (List.range i ++ List.replicate (n - i) 0))) (fun iv _ => n - (intOf iv).toNat)
  case atStart => exact ⟨0, Nat.zero_le _, rfl, HB2, HE2, Lib.hid (by simpa using HR2.out)⟩
  case round =>
    obtain ⟨i, hin, rfl, HB, HE, HR⟩ := hrel
    by_cases hlt : i < n
    case pos =>
      have c0 := HR.out.cell (i := i) (k := 0) (by rw [List.getElem?_append_right (by simp), List.length_range, Nat.sub_self, List.getElem?_replicate, if_pos (by omega)])
      have f0 := HR.out.free i
      have hlti : (i : Int) < (n : Int) := by omega
      have hi0 : (0 : Int) ≤ (i : Int) := by omega
      have hiw : IntKind.i64.wrap (i : Int) = (i : Int) := IntWalk.i64_in _ (by omega)
      go_wp2_with fail
      have hrr := HR.out.set i i
      have e : (List.range i ++ List.replicate (n - i) 0).set i i = List.range (i + 1) ++ List.replicate (n - (i + 1)) 0 := by
        rw [List.set_append_right _ _ (by simp), List.length_range, Nat.sub_self, show n - i = (n - (i + 1)) + 1 by omega, List.replicate_succ, List.set_cons_zero, List.range_succ, List.append_assoc]; rfl
      rw [e] at hrr
      refine ⟨⟨i + 1, by omega, rfl, Lib.hid (HB.out.setCell (p := ⟨w.heap.size + 1, i, none⟩) (by show w.heap.size ≤ w.heap.size + 1; omega) _), Lib.hid ?_, Lib.hid hrr⟩, by simp [intOf]; omega⟩
      exact (Below.heap_setCell wr ⟨w.heap.size + 1, i, none⟩ (.int .i64 (i : Int)) w.heap.size (by show w.heap.size ≠ w.heap.size + 1; omega)).trans HE.out
    case neg =>
      obtain rfl : n = i := by omega
      have hrr := HR.out
      rw [Nat.sub_self, List.replicate_zero, List.append_nil] at hrr
      have hxw := HX.out.below HB.out
      have htw : Tens wr := fun j hj => cell_later HB.out (HT.out j hj)
      have hpw : wr.cell? ⟨w.heap.size, 0, none⟩ = some (.slice (some ⟨B, 0, none⟩) n n) := by rw [set_cells HE.out]; rfl
      have hC : CmpC xs (w.heap.size + 1) n 100 #[.pointer (some ⟨w.heap.size, 0, none⟩)] wr := fun i k W h1 h2 hg => rank1_clo (fun c => c < w.heap.size ∧ c ≠ B) B n w.heap.size xs cs i k W (hxw.rowed hg (fun h => by have := h.1; omega) (by omega)) hxn HXF.out (by omega) (Tens.rowed htw hg (by omega)) (hg.cell hpw (fun e => by have := Option.some.inj e; simp only at this; omega)) h1 h2
      have HS := Lib.hid (sortStable_any xs HXF.out (w.heap.size + 1) n hxn hn 100 #[.pointer (some ⟨w.heap.size, 0, none⟩)] (enters_of Tryz.func100 (by kernel_rfl) rfl) wr hrr hC)
      have hge : ¬ (n : Int) < (n : Int) := by omega
      clear hrr hxw htw hpw hC hmk hi hz0 hz1 hz2
      go_wp2_with fail
      refine HS.out.mono ?_
      rintro e w6 ⟨rfl, hg, l, hl1, hl2, hl3⟩
      have HBF := Lib.hid (below_row HB.out (Nat.le_refl _) hg (by omega))
      have HL := Lib.hid hl1; have HP := Lib.hid (And.intro hl2 hl3)
      clear hg hl1 hl2 hl3 HS
      go_wp2_with fail
      exact bodyPost_ret (v := .slice (some ⟨w.heap.size + 1, 0, none⟩) n n) (by simp [results, Tryz.results54, go_sem]) rfl ⟨HBF.out, w.heap.size + 1, l, by omega, rfl, HL.out, HP.out.1, HP.out.2⟩
end Go.Proofs.YtkggfeemjabdeaaGreatDoor.Wc
end
section
namespace Go.Proofs.YtkggfeemjabdeaaGreatDoor.Wc
open Go Go.Proofs.YtkggfeemjabdeaaGreatDoor.Sx Go.RowKit

/-- What Rank comes to. -/
def RankQ (ps : List P2) (w : World) (e : Ending) (w' : World) : Prop :=
  Below w.heap.size w w' ∧ (openLS ps = 0 → ∃ R l, w.heap.size ≤ R ∧ e = .returned (.tuple #[.slice (some ⟨R, 0, none⟩) ps.length ps.length, .int .i64 0]) ∧ IntRow w' R l ∧ l.Perm (List.range ps.length) ∧ l.Pairwise (bef (ps.map pv))) ∧
    (openLS ps ≠ 0 → e = .returned (.tuple #[.slice none 0 0, .int .i64 (openLS ps)]))

set_option maxRecDepth 100000 in
set_option maxHeartbeats 2000000 in
theorem Rank_any (ps : List P2) (v : Value) (w : World) (h : PartL w v ps) (hs : ∀ p ∈ ps, Short p) (hn : ps.length ≤ 19) (ht : Tens w) (h0 : 0 < w.heap.size) :
    Calls Tryz.prog 17 #[v] w (RankQ ps w) := by
  have hcall := openList_any ps v w h hs ht
  obtain ⟨a, cap, rfl⟩ := h.shape
  have HC := Lib.hid hcall; have HT := Lib.hid ht
  clear hcall h hs ht
  go_enter Tryz.func17, Tryz.ntmps17
  go_wp2_with fail
  refine HC.out.mono ?_
  rintro e w2 ⟨g0, g1, g2⟩
  have HB2 := Lib.hid g0; have G1 := Lib.hid g1; have G2 := Lib.hid g2
  clear g0 g1 g2 HC
  by_cases hm : openLS ps = 0
  · obtain ⟨u, rfl, hu⟩ := G1.out hm
    clear G1 G2
    obtain ⟨rfl, cs, hx⟩ := hu
    rw [List.length_map] at hx ⊢
    have hd := rank_any w.heap.size ps.length (ps.map pv) cs w2 (hx.sub (fun c h _ => by omega) (fun h => h rfl)) (by rw [List.length_map]) (frt_all hm) hn (fun j hj => cell_later HB2.out (HT.out j hj)) (by have := HB2.out.size; omega)
    have HD := Lib.hid hd; have HM := Lib.hid hm
    clear hd hx hm
    go_wp2_with fail
    refine HD.out.mono ?_
    rintro e w3 ⟨g0, R, l, hR, rfl, g1, g2, g3⟩
    have HB3 := Lib.hid (HB2.out.trans (g0.mono HB2.out.size)); have HL := Lib.hid g1; have HP := Lib.hid (And.intro g2 g3); have HR := Lib.hid hR
    clear g0 g1 g2 g3 hR HD
    go_wp2_with fail
    exact bodyPost_ret (v := .tuple #[.slice (some ⟨R, 0, none⟩) ps.length ps.length, .int .i64 0]) (by simp [results, Tryz.results17, go_sem]) rfl ⟨HB3.out, (fun _ => ⟨R, l, by have := HB2.out.size; have := HR.out; omega, rfl, HL.out, HP.out.1, HP.out.2⟩), fun h => absurd HM.out h⟩
  · have hr := G2.out hm
    subst hr
    have hne : ((openLS ps) != 0) = true := bne_iff_ne.2 hm
    have HM := Lib.hid hm
    clear G1 G2 hm
    generalize hzz : openLS ps = z at *
    have HZZ := Lib.hid hzz
    go_wp2_with fail
    exact bodyPost_ret (v := .tuple #[.slice none 0 0, .int .i64 z]) (by simp [results, Tryz.results17, go_sem]) rfl ⟨HB2.out, (fun h => absurd (HZZ.out.symm.trans h) HM.out), fun _ => by rw [HZZ.out]⟩
/-- How many of a list, in this order, have the sum g; none: a sum on the way does not fit. -/
def reachL : List (Nat × Nat) → Nat × Nat → Nat × Nat → Nat → Option Nat
  | [], s, g, k => if cmpF s g < 0 then some (k + 1) else some k
  | y :: ys, s, g, k => if cmpF s g < 0 then (if fitsF (addF s y) = true then reachL ys (addF s y) g (k + 1) else none) else some k
theorem reachL_hit {ys : List (Nat × Nat)} {s g : Nat × Nat} {k : Nat} (h : ¬ cmpF s g < 0) : reachL ys s g k = some k := by
  cases ys <;> (unfold reachL; rw [if_neg h])
theorem reachL_end {s g : Nat × Nat} {k : Nat} (h : cmpF s g < 0) : reachL [] s g k = some (k + 1) := by unfold reachL; rw [if_pos h]
theorem reachL_no {y : Nat × Nat} {ys : List (Nat × Nat)} {s g : Nat × Nat} {k : Nat} (h : cmpF s g < 0) (hf : fitsF (addF s y) = false) : reachL (y :: ys) s g k = none := by
  unfold reachL; rw [if_pos h, if_neg (by rw [hf]; exact Bool.false_ne_true)]
theorem reachL_on {y : Nat × Nat} {ys : List (Nat × Nat)} {s g : Nat × Nat} {k : Nat} (h : cmpF s g < 0) (hf : fitsF (addF s y) = true) : reachL (y :: ys) s g k = reachL ys (addF s y) g (k + 1) := by
  conv => lhs; unfold reachL
  rw [if_pos h, if_pos hf]
end Go.Proofs.YtkggfeemjabdeaaGreatDoor.Wc
end
section
namespace Go.Proofs.YtkggfeemjabdeaaGreatDoor.Wc
open Go Go.Proofs.YtkggfeemjabdeaaGreatDoor.Sx Go.RowKit

/-- The elements of a list, by their indices. -/
def byIdx (xs : List (Nat × Nat)) (l : List Nat) : List (Nat × Nat) := l.map fun i => xs.getD i (0, 1)
/-- What reach comes to. -/
def ReachP (xs : List (Nat × Nat)) (g : Nat × Nat) (n : Nat) (w : World) (e : Ending) (w' : World) : Prop :=
  Below w.heap.size w w' ∧ ∃ l : List Nat, l.Perm (List.range n) ∧ l.Pairwise (bef xs) ∧ (∀ k, reachL (byIdx xs l) (0, 1) g 0 = some k → e = .returned (.int .i64 (k : Int))) ∧ (reachL (byIdx xs l) (0, 1) g 0 = none → e = .panicked [{ v := errV4, recovered := false }])
theorem byIdx_drop {xs : List (Nat × Nat)} {l : List Nat} {i k : Nat} (h : l[i]? = some k) : byIdx xs (l.drop i) = xs.getD k (0, 1) :: byIdx xs (l.drop (i + 1)) := by
  obtain ⟨hi, he⟩ := List.getElem?_eq_some_iff.1 h
  unfold byIdx
  rw [List.drop_eq_getElem_cons hi, he]; rfl
theorem rats_at2 {A : Nat → Prop} {w : World} {B n : Nat} {xs : List (Nat × Nat)} {cs : Array Value} (h : Rats A w B n xs cs) {i : Nat} (hi : i < xs.length) : ∃ a1 l1 k1 a2 l2 k2, w.cell? ⟨B, i * 2, none⟩ = some (.slice a1 l1 k1) ∧ w.cell? ⟨B, i * 2 + 1, none⟩ = some (.slice a2 l2 k2) ∧ NatV w (.slice a1 l1 k1) (xs.getD i (0, 1)).1 ∧ NatV w (.slice a2 l2 k2) (xs.getD i (0, 1)).2 ∧ Off A (.slice a1 l1 k1) ∧ Off A (.slice a2 l2 k2) := by
  have hx : xs[i]? = some (xs.getD i (0, 1)) := by rw [List.getD_eq_getElem?_getD, List.getElem?_eq_getElem hi]; rfl
  obtain ⟨u, h1, h2, h5⟩ := h.num i _ hx
  obtain ⟨v, h3, h4, h6⟩ := h.den i _ hx
  obtain ⟨a1, l1, k1, rfl⟩ := nat_slice h2
  obtain ⟨a2, l2, k2, rfl⟩ := nat_slice h4
  exact ⟨a1, l1, k1, a2, l2, k2, by rw [set_cells h.blk]; exact h1, by rw [set_cells h.blk]; exact h3, h2, h4, h5, h6⟩

set_option maxRecDepth 100000 in
set_option maxHeartbeats 4000000 in
theorem reach_any (B n : Nat) (xs : List (Nat × Nat)) (cs : Array Value) (g : Nat × Nat) (g1 g2 : Value) (w : World) (hx : Rats (· ≠ B) w B n xs cs) (hxn : xs.length = n) (hxf : ∀ r ∈ xs, FrT r) (hg1 : NatV w g1 g.1) (hg2 : NatV w g2 g.2) (gf : FrT g) (hn : n ≤ 19) (ht : Tens w) (h0 : 0 < w.heap.size) :
    Calls Tryz.prog 57 #[.slice (some ⟨B, 0, none⟩) n n, .agg #[g1, g2]] w (ReachP xs g n w) := by
  obtain ⟨ga, gl, gk, rfl⟩ := nat_slice hg1
  obtain ⟨gb, gm, gc, rfl⟩ := nat_slice hg2
  have hBl := hx.lt
  obtain ⟨W1, hW1⟩ : ∃ W, W = w.alloc (.cells #[.slice ga gl gk, .slice gb gm gc] 62) := ⟨_, rfl⟩
  have b01 : Below w.heap.size w W1 := by rw [hW1]; exact (Below.refl _ _).alloc (Nat.le_refl _) _
  have e1 : W1.heap[w.heap.size]? = some (.cells #[.slice ga gl gk, .slice gb gm gc] 62 (0, 0)) := by rw [hW1]; exact Go.Deep.blk_alloc_new _ _
  have hz := zero_any W1 (fun c => W1.heap.size ≤ c) (fun c hc => hc)
  have HZ := Lib.hid hz; have HX := Lib.hid hx; have HXF := Lib.hid hxf; have HG1 := Lib.hid hg1; have HG2 := Lib.hid hg2; have HGF := Lib.hid gf; have HT := Lib.hid ht; have H0 := Lib.hid h0; have HW1 := Lib.hid hW1; have HB1 := Lib.hid b01; have HE1 := Lib.hid e1; have HBL := Lib.hid hBl
  clear hx hxf hg1 hg2 gf ht h0 hW1 b01 e1 hBl hz
  go_enter Tryz.func57, Tryz.ntmps57
  go_wp2_with fail
  rw [← HW1.out]
  refine HZ.out.mono ?_
  rintro e w2 ⟨hb2, z1, z2, rfl, hv⟩
  obtain ⟨za, zl, zk, e1⟩ := nat_slice hv.n
  obtain ⟨zb, zm, zc, e2⟩ := nat_slice hv.d
  subst e1 e2
  obtain ⟨W2, hW2⟩ : ∃ W, W = w2.alloc (.cells #[.slice za zl zk, .slice zb zm zc] 62) := ⟨_, rfl⟩
  have b22 : Below w2.heap.size w2 W2 := by rw [hW2]; exact (Below.refl _ _).alloc (Nat.le_refl _) _
  have e5 : W2.heap[w2.heap.size]? = some (.cells #[.slice za zl zk, .slice zb zm zc] 62 (0, 0)) := by rw [hW2]; exact Go.Deep.blk_alloc_new _ _
  have b12 : Below W1.heap.size W1 W2 := hb2.trans (b22.mono hb2.size)
  have b02 : Below w.heap.size w W2 := HB1.out.trans (b12.mono HB1.out.size)
  have hl1 : w.heap.size < W1.heap.size := (Array.getElem?_eq_some_iff.1 HE1.out).1
  have hl2 : W1.heap.size ≤ w2.heap.size := hb2.size
  have eg := (b12.block _ hl1).trans HE1.out
  have hr := rank_any B n xs cs W2 (HX.out.below b02) hxn HXF.out hn (fun j hj => cell_later b02 (HT.out j hj)) (by have := b02.size; have := H0.out; omega)
  have HR := Lib.hid hr; have HW2 := Lib.hid hW2; have HB02 := Lib.hid b02; have HE5 := Lib.hid e5; have HEG := Lib.hid eg; have HV := Lib.hid ((hv.sub (A' := fun c => c ≠ w2.heap.size) (fun c _ h2 => by omega)).below b22); have HL12 := Lib.hid (And.intro hl1 hl2)
  clear hr hW2 b22 e5 b12 b02 eg hb2 hv HZ hl1 hl2
  go_wp2_with fail
  rw [← HW2.out]
  refine HR.out.mono ?_
  rintro e w3 ⟨hb3, R, l, hRge, rfl, hl1, hl2, hl3⟩
  have hp5 : w2.heap.size < W2.heap.size := (Array.getElem?_eq_some_iff.1 HE5.out).1
  have HB3 := Lib.hid (HB02.out.trans (hb3.mono HB02.out.size)); have HE53 := Lib.hid ((hb3.block _ hp5).trans HE5.out); have HEG3 := Lib.hid ((hb3.block _ (by have := HL12.out; omega)).trans HEG.out)
  have HV3 := Lib.hid (HV.out.below hb3); have HROW := Lib.hid hl1; have HPM := Lib.hid (And.intro hl2 hl3); have HNE : Hid (R ≠ w2.heap.size ∧ w.heap.size < w2.heap.size ∧ B < w.heap.size) := Lib.hid ⟨by omega, by have := HL12.out; omega, HBL.out⟩
  have hll : l.length = n := by rw [hl2.length_eq, List.length_range]
  clear hb3 hRge hl1 hl2 hl3 hp5 HR HW2 HB02 HE5 HEG HV HL12
  go_wp2_with fail
  go_loopw [12] (fun iv wr => ∃ i : Nat, i ≤ n ∧ iv = .int .i64 (i : Int) ∧ Hid (w3.grownBy wr (some w2.heap.size)) ∧ Hid (∃ s u1 u2, wr.heap[w2.heap.size]? = some (.cells #[u1, u2] 62 (0, 0)) ∧ RatV (fun c => c ≠ w2.heap.size) wr u1 u2 s ∧ FrT s ∧ reachL (byIdx xs l) (0, 1) g 0 = reachL (byIdx xs (l.drop i)) s g i)) (fun iv _ => n - (intOf iv).toNat)
  case atStart => exact ⟨0, Nat.zero_le _, rfl, Lib.hid ⟨rfl, rfl, rfl, Nat.le_refl _, fun _ _ _ => rfl⟩, Lib.hid ⟨(0, 1), _, _, HE53.out, HV3.out, frt_zero, by rw [List.drop_zero]⟩⟩
  case round =>
    obtain ⟨i, hin, rfl, HG, HS⟩ := hrel
    obtain ⟨s, u1, u2, r1, r2, r3, r4⟩ := HS.out
    obtain ⟨a1, m1, k1, e1⟩ := nat_slice r2.n
    obtain ⟨a2, m2, k2, e2⟩ := nat_slice r2.d
    subst e1 e2
    have hgr := HG.out
    have hbw : Below w.heap.size w wr := below_row HB3.out (Nat.le_refl _) hgr (by have := HNE.out; omega)
    have u0 := set_cells r1 0; have u1 := set_cells r1 1
    simp only [List.getElem?_toArray, List.getElem?_cons_zero, List.getElem?_cons_succ] at u0 u1
    have hp5 : w2.heap.size < wr.heap.size := (Array.getElem?_eq_some_iff.1 r1).1
    have egr := (hgr.block w.heap.size (Array.getElem?_eq_some_iff.1 HEG3.out).1 (fun e => by have := Option.some.inj e; have := HNE.out; omega)).trans HEG3.out
    have y0 := set_cells egr 0; have y1 := set_cells egr 1
    simp only [List.getElem?_toArray, List.getElem?_cons_zero, List.getElem?_cons_succ] at y0 y1
    have HTW : Hid (Tens wr) := Lib.hid fun j hj => cell_later hbw (HT.out j hj)
    have hcm := cmp_rat s g _ _ _ _ wr r2.n r2.d (HG1.out.below hbw) (HG2.out.below hbw) r3 HGF.out HTW.out
    have HCM := Lib.hid hcm; have R1 := Lib.hid r1; have R2 := Lib.hid r2; have R3 := Lib.hid r3; have R4 := Lib.hid r4; have HBW := Lib.hid hbw; have HP5 := Lib.hid hp5; have HEGR := Lib.hid egr
    clear hcm r1 r2 r3 r4 hbw hp5 HS egr hgr
    by_cases hlt : i < n
    case pos =>
      obtain ⟨k, hk⟩ : ∃ k, l[i]? = some k := ⟨_, List.getElem?_eq_getElem (by omega)⟩
      have hkn : k < n := List.mem_range.1 (HPM.out.1.mem_iff.1 (List.mem_of_getElem? hk))
      have hrow : IntRow wr R l := (HG.out.block R HROW.out.lt (fun e => by have := Option.some.inj e; have := HNE.out; omega)).trans HROW.out
      have cr := hrow.cell hk
      have hlti : (i : Int) < (n : Int) := by omega
      have hi0 : (0 : Int) ≤ (i : Int) := by omega
      have hiw : IntKind.i64.wrap (i : Int) = (i : Int) := IntWalk.i64_in _ (by omega)
      have HK := Lib.hid hk
      clear hk hrow
      go_wp2_with fail
      refine HCM.out.mono ?_
      rintro e w4 ⟨rfl, hb4⟩
      obtain ⟨c, hc⟩ : ∃ c, cmpF s g = c := ⟨_, rfl⟩
      have HC := Lib.hid hc
      rw [hc]
      clear hc u0 u1 y0 y1 cr
      by_cases hc0 : c < 0
      case neg =>
        have hc1 : 0 ≤ c := by omega
        have HC0 := Lib.hid hc0
        clear hc0
        go_wp2_with fail
        exact bodyPost_ret (v := .int .i64 (i : Int)) (by simp [results, Tryz.results57, go_sem]) rfl ⟨HBW.out.trans (hb4.mono HBW.out.size), l, HPM.out.1, HPM.out.2, (fun k' h => by rw [R4.out, reachL_hit (by rw [HC.out]; have := HC0.out; omega)] at h; rw [Option.some.inj h]), fun h => by rw [R4.out, reachL_hit (by rw [HC.out]; have := HC0.out; omega)] at h; cases h⟩
      have hc1 : ¬ 0 ≤ c := by omega
      have hxw : Rats (fun c => c < w.heap.size ∧ c ≠ B) wr B n xs cs := (HX.out.sub (fun c h h' => ⟨h', h⟩) (fun h => h.2 rfl)).below HBW.out
      obtain ⟨b1, n1, q1, b2, n2, q2, d0, d1, j1, j2, o1, o2⟩ := rats_at2 (hxw.below hb4) (i := k) (by omega)
      have fx : FrT (xs.getD k (0, 1)) := HXF.out _ (by rw [List.getD_eq_getElem?_getD, List.getElem?_eq_getElem (by omega)]; exact List.getElem_mem _)
      have hdrop := byIdx_drop (xs := xs) HK.out
      generalize xs.getD k (0, 1) = x at *
      have hr14 := (hb4.block _ HP5.out).trans R1.out
      have u0 := set_cells hr14 0; have u1 := set_cells hr14 1
      simp only [List.getElem?_toArray, List.getElem?_cons_zero, List.getElem?_cons_succ] at u0 u1
      have HB4 := Lib.hid hb4; have HX1 := Lib.hid j1; have HX2 := Lib.hid j2; have O1 := Lib.hid o1; have O2 := Lib.hid o2; have FX := Lib.hid fx; have HD := Lib.hid hdrop; have R14 := Lib.hid hr14; have HC0 := Lib.hid hc0
      have HPL : Hid (∀ W, Below w4.heap.size w4 W → Calls Tryz.prog 61 #[.agg #[.slice a1 m1 k1, .slice a2 m2 k2], .agg #[.slice b1 n1 q1, .slice b2 n2 q2]] W (RetQ [.slice a1 m1 k1, .slice a2 m2 k2, .slice b1 n1 q1, .slice b2 n2 q2] (fitsF (addF s x)) (addF s x) W)) := Lib.hid fun W hW => plus_rat s x _ _ _ _ W ((R2.out.n.below hb4).below hW) ((R2.out.d.below hb4).below hW) (j1.below hW) (j2.below hW) R3.out fx (fun j hj => cell_later hW (cell_later hb4 (HTW.out j hj)))
      have HSX : Hid (∀ W', w4.grownBy W' (some w2.heap.size) → W'.cell? ⟨B, k * 2, none⟩ = some (.slice b1 n1 q1) ∧ W'.cell? ⟨B, k * 2 + 1, none⟩ = some (.slice b2 n2 q2)) := Lib.hid fun W' h => ⟨h.cell d0 (fun e => by have := Option.some.inj e; simp only at this; have := HNE.out; omega), h.cell d1 (fun e => by have := Option.some.inj e; simp only at this; have := HNE.out; omega)⟩
      have hk0 : (0 : Int) ≤ (k : Int) := by omega
      have hk1 : (k : Int) < (n : Int) := by omega
      have hkw : IntKind.i64.wrap (k : Int) = (k : Int) := IntWalk.i64_in _ (by omega)
      clear hr14 hb4 j1 j2 o1 o2 fx hdrop hxw d0 d1 hc0
      go_wp2_with fail
      refine wp_region_held_drew (S := fun W' => W'.cell? ⟨B, k * 2, none⟩ = some (.slice b1 n1 q1) ∧ W'.cell? ⟨B, k * 2 + 1, none⟩ = some (.slice b2 n2 q2)) (by kernel_rfl) (HSX.out _ (grown_of (Below.refl _ _).drew (Nat.le_refl _))) (fun hHeld => ?_)
      refine takeH (i := 1) (n := 23) (v := .slice (some ⟨B, 0, none⟩) n n) rfl rfl (by kernel_rfl) (by kernel_rfl) (by kernel_rfl) (fun _ _ _ h => h) (Or.inl ⟨by kernel_rfl, ?_⟩) (by assumption) ?_
      · intro w hSw; (try dsimp only at hSw); go_simp
      try simp only [Act.put, List.setIfInBounds_toArray, List.set_cons_zero, List.set_cons_succ]
      refine takeH (i := 2) (n := 24) (v := .int .i64 (k : Int)) rfl rfl (by kernel_rfl) (by kernel_rfl) (by kernel_rfl) (fun _ _ _ h => h) (Or.inl ⟨by kernel_rfl, ?_⟩) (by assumption) ?_
      · intro w hSw; (try dsimp only at hSw); go_simp
      try simp only [Act.put, List.setIfInBounds_toArray, List.set_cons_zero, List.set_cons_succ]
      refine takeH (i := 3) (n := 25) (v := .pointer (some ⟨B, k * 2, none⟩)) rfl rfl (by kernel_rfl) (by kernel_rfl) (by kernel_rfl) (fun _ _ _ h => h) (Or.inl ⟨by kernel_rfl, ?_⟩) (by assumption) ?_
      · intro w hSw; (try dsimp only at hSw); go_simp
      try simp only [Act.put, List.setIfInBounds_toArray, List.set_cons_zero, List.set_cons_succ]
      refine takeH (i := 4) (n := 26) (v := .agg #[.slice b1 n1 q1, .slice b2 n2 q2]) rfl rfl (by kernel_rfl) (by kernel_rfl) (by kernel_rfl) (fun _ _ _ h => h) (Or.inl ⟨by kernel_rfl, ?_⟩) (by assumption) ?_
      · intro w hSw; (try dsimp only at hSw); go_simp
      try simp only [Act.put, List.setIfInBounds_toArray, List.set_cons_zero, List.set_cons_succ]
      refine wpAnyH_ready (rs := [0]) (by kernel_rfl) (by simp) ?_
      refine AllReadyH.cons rfl (fun K hK => ?_) AllReadyH.nil
      try rw [if_pos (by kernel_rfl)]
      try go_simp
      refine hK.out _ _ hHeld (fun hHeld => ?_)
      clear hK K
      try simp only [Act.put, List.setIfInBounds_toArray, List.set_cons_zero, List.set_cons_succ]
      refine wpAnyH_ready (rs := [5]) (by kernel_rfl) (by simp) ?_
      refine AllReadyH.cons rfl (fun K hK => ?_) AllReadyH.nil
      try rw [if_pos (by kernel_rfl)]
      try go_simp
      go_at_call 61
      refine (HPL.out _ (Below.refl _ _).drew).mono ?_
      rintro e w5 ⟨hb, q1', q2'⟩
      have hBn := below_chain (W := w4) (Below.refl _ _).drew hb
      have HBN := Lib.hid hBn; have G1 := Lib.hid q1'; have G2 := Lib.hid q2'; have HBD := Lib.hid hb
      clear q1' q2' hb
      have hG5 : w4.grownBy w5 (some w2.heap.size) := grown_of hBn (Nat.le_refl _)
      clear hBn u0 u1
      cases hf : fitsF (addF s x) with
      | false =>
        obtain rfl := G2.out hf
        have HF := Lib.hid hf
        clear hf hK
        go_wp2_with fail
        exact ⟨rfl, HBW.out.trans ((HB4.out.trans (HBN.out.mono HB4.out.size)).mono HBW.out.size), l, HPM.out.1, HPM.out.2, (fun k' h => by rw [R4.out, HD.out, reachL_no (by rw [HC.out]; exact HC0.out) HF.out] at h; cases h), fun _ => rfl⟩
      | true =>
        obtain ⟨e1, e2, rfl, k1', k2', s1, s2⟩ := G1.out hf
        clear G1 G2
        obtain ⟨p1, l1, c1, rfl⟩ := nat_slice k1'
        obtain ⟨p2, l2, c2, rfl⟩ := nat_slice k2'
        have K1 := Lib.hid k1'; have K2 := Lib.hid k2'; have S1 := Lib.hid s1; have S2 := Lib.hid s2; have HF := Lib.hid hf
        clear k1' k2' s1 s2 hf
        refine hK.out _ _ (HSX.out _ hG5) (fun hHeld => ?_)
        clear hK K
        try simp only [Act.put, List.setIfInBounds_toArray, List.set_cons_zero, List.set_cons_succ]
        have r5 := (HBN.out.block _ (Nat.lt_of_lt_of_le HP5.out HB4.out.size)).trans R14.out
        have v0 := set_cells r5 0; have v1 := set_cells r5 1
        simp only [List.getElem?_toArray, List.getElem?_cons_zero, List.getElem?_cons_succ] at v0 v1
        have f0 : w5.frozen? ⟨w2.heap.size, 0, none⟩ = false := by simp [World.frozen?, r5]
        have f1 : w5.frozen? ⟨w2.heap.size, 1, none⟩ = false := by simp [World.frozen?, r5]
        have R5 := Lib.hid r5
        clear r5
        refine wpAnyH_ready (rs := [6]) (by kernel_rfl) (by simp) ?_
        refine AllReadyH.cons rfl (fun K hK => ?_) AllReadyH.nil
        try rw [if_pos (by kernel_rfl)]
        try go_simp
        have hG6 : w4.grownBy ((w5.setCell ⟨w2.heap.size, 0, none⟩ (.slice p1 l1 c1)).setCell ⟨w2.heap.size, 1, none⟩ (.slice p2 l2 c2)) (some w2.heap.size) := grown_set (grown_set hG5 _ _) _ _
        refine hK.out _ _ (HSX.out _ hG6) (fun hHeld => ?_)
        clear hK K
        try simp only [Act.put, List.setIfInBounds_toArray, List.set_cons_zero, List.set_cons_succ]
        refine wpAnyH_done (by kernel_rfl) ?_ _
        have HG6 := Lib.hid hG6
        clear hG5 hG6 v0 v1 f0 f1
        go_wp2_with fail
        have oo : ∀ (u : Value), Src w4.drew [.slice a1 m1 k1, .slice a2 m2 k2, .slice b1 n1 q1, .slice b2 n2 q2] u → Off (fun c => c ≠ w2.heap.size) u := fun u hS c hc => by
          rcases hS c hc with h | ⟨u', hu, h⟩
          · have h3 : w4.heap.size ≤ c := h
            have := HP5.out; have := HB4.out.size; omega
          · simp only [List.mem_cons, List.not_mem_nil, or_false] at hu
            rcases hu with rfl | rfl | rfl | rfl
            · exact R2.out.on c h
            · exact R2.out.od c h
            · have := O1.out c h; have := HNE.out; omega
            · have := O2.out c h; have := HNE.out; omega
        have hv : RatV (fun c => c ≠ w2.heap.size) w5 (.slice p1 l1 c1) (.slice p2 l2 c2) (addF s x) := ⟨K1.out, K2.out, oo _ S1.out, oo _ S2.out⟩
        have g0 := heap_setCell_same w5 w2.heap.size 0 _ _ (.slice p1 l1 c1) R5.out
        have g1 := heap_setCell_same _ w2.heap.size 1 _ _ (.slice p2 l2 c2) g0
        simp only [List.setIfInBounds_toArray, List.set_cons_zero, List.set_cons_succ] at g1
        refine ⟨⟨i + 1, by omega, rfl, Lib.hid (grown_trans HG.out (grown_trans (grown_of HB4.out (Nat.le_refl _)) HG6.out)), Lib.hid ⟨addF s x, _, _, g1, (hv.setCell (fun h => h rfl) _ _).setCell (fun h => h rfl) _ _, fits_frt (addF_fr R3.out.fr FX.out.fr) HF.out, ?_⟩⟩, by simp [intOf]; omega⟩
        rw [R4.out, HD.out, reachL_on (by rw [HC.out]; exact HC0.out) HF.out]
    case neg =>
      obtain rfl : n = i := by omega
      have hge : ¬ (n : Int) < (n : Int) := by omega
      go_wp2_with fail
      refine HCM.out.mono ?_
      rintro e w4 ⟨rfl, hb4⟩
      obtain ⟨c, hc⟩ : ∃ c, cmpF s g = c := ⟨_, rfl⟩
      have HC := Lib.hid hc
      rw [hc]
      clear hc u0 u1 y0 y1
      have hdn : byIdx xs (l.drop n) = [] := by rw [List.drop_of_length_le (by omega)]; rfl
      have HDN := Lib.hid hdn; have HB4 := Lib.hid (HBW.out.trans (hb4.mono HBW.out.size))
      clear hdn hb4
      by_cases hc0 : c < 0
      · have hc1 : ¬ 0 ≤ c := by omega
        have HC0 := Lib.hid hc0
        clear hc0
        have hnw : IntKind.i64.wrap ((n : Int) + 1) = (n : Int) + 1 := IntWalk.i64_in _ (by omega)
        go_wp2_with fail
        exact bodyPost_ret (v := .int .i64 ((n : Int) + 1)) (by simp [results, Tryz.results57, go_sem]) rfl ⟨HB4.out, l, HPM.out.1, HPM.out.2, (fun k' h => by rw [R4.out, HDN.out, reachL_end (by rw [HC.out]; exact HC0.out)] at h; rw [← Option.some.inj h]; rfl), fun h => by rw [R4.out, HDN.out, reachL_end (by rw [HC.out]; exact HC0.out)] at h; cases h⟩
      · have hc1 : 0 ≤ c := by omega
        have HC0 := Lib.hid hc0
        clear hc0
        go_wp2_with fail
        exact bodyPost_ret (v := .int .i64 (n : Int)) (by simp [results, Tryz.results57, go_sem]) rfl ⟨HB4.out, l, HPM.out.1, HPM.out.2, (fun k' h => by rw [R4.out, HDN.out, reachL_hit (by rw [HC.out]; have := HC0.out; omega)] at h; rw [Option.some.inj h]), fun h => by rw [R4.out, HDN.out, reachL_hit (by rw [HC.out]; have := HC0.out; omega)] at h; cases h⟩
end Go.Proofs.YtkggfeemjabdeaaGreatDoor.Wc
end
section
namespace Go.Proofs.YtkggfeemjabdeaaGreatDoor.Wc
open Go Go.RowKit

set_option maxRecDepth 100000 in
set_option maxHeartbeats 2000000 in
theorem catch_ints (N : Nat) (v : TypeId) (u : Value) (older : List PanicEntry) (w : World) (x : Int) (hE : w.heap[N]? = some (.cells #[.int .i64 x] 25 (0, 0))) :
    CallsD Tryz.prog 101 #[.pointer (some ⟨N, 0, none⟩)] (.panicking ({ v := .iface v u, recovered := false } :: older)) w fun e u' w' =>
      e = .returned (.tuple #[]) ∧ u' = .panicking ({ v := .iface v u, recovered := true } :: older) ∧ w' = w.setCell ⟨N, 0, none⟩ (.int .i64 4) := by
  have ce : w.cell? ⟨N, 0, none⟩ = some (.int .i64 x) := by simp [World.cell?, hE]
  have fe : w.frozen? ⟨N, 0, none⟩ = false := by simp [World.frozen?, hE]
  clear hE
  refine callsD_of_wpS Tryz.func101 rfl fun c₀ cs hu => ?_
  have hrec : recoverD (c₀ :: cs) = some (.iface v u, { c₀ with mode := .panicking ({ v := .iface v u, recovered := true } :: older) } :: cs) := by
    simp only [recoverD, hu]
  apply wpS_seq
  refine wpS_region_recover rfl rfl (by rfl) hrec ?_ ?_
  · rintro ⟨a, w, u, h, _⟩; cases h
  simp only [Tryz.ntmps101, Act.put, List.size_toArray, List.length_cons, List.length_nil, Nat.reduceAdd, Nat.reduceSub, Array.replicate_succ, Array.replicate_zero, List.push_toArray, List.append_toArray, List.nil_append, List.cons_append, List.setIfInBounds_toArray, List.set_cons_zero, List.set_cons_succ]
  go_wp2
  refine wpS_of_wp ?_
  go_wp2
  exact ⟨rfl, _, rfl, _, by simp [results, Tryz.results101, go_sem], rfl, rfl, rfl⟩
set_option maxRecDepth 100000 in
set_option maxHeartbeats 2000000 in
theorem idle_ints (N : Nat) (w : World) :
    CallsD Tryz.prog 101 #[.pointer (some ⟨N, 0, none⟩)] .returning w fun e u' w' => e = .returned (.tuple #[]) ∧ u' = .returning ∧ w' = w := by
  refine callsD_of_wpS Tryz.func101 rfl fun c₀ cs hu => ?_
  have hrec : recoverD (c₀ :: cs) = none := by simp only [recoverD, hu]
  apply wpS_seq
  refine wpS_region_idle rfl rfl (by rfl) hrec ?_ ?_
  · rintro ⟨a, w, u, h, _⟩; cases h
  simp only [Tryz.ntmps101, Act.put, List.size_toArray, List.length_cons, List.length_nil, Nat.reduceAdd, Nat.reduceSub, Array.replicate_succ, Array.replicate_zero, List.push_toArray, List.append_toArray, List.nil_append, List.cons_append, List.setIfInBounds_toArray, List.set_cons_zero, List.set_cons_succ]
  go_wp2
  refine wpS_of_wp ?_
  go_wp2
  exact ⟨rfl, .returning, by rw [← hu], _, by simp [results, Tryz.results101, go_sem], rfl, rfl, rfl⟩


set_option maxRecDepth 100000 in
set_option maxHeartbeats 4000000 in
theorem door_fault_ints (N : Nat) (v : TypeId) (u a : Value) (x : Int) (w : World) (tmps : Array Value) (R : Ending → World → Prop) (h2 : tmps[2]?.getD undef = a) (h3 : tmps[3]?.getD undef = .pointer (some ⟨N, 0, none⟩))
    (hE : w.heap[N]? = some (.cells #[.int .i64 x] 25 (0, 0))) (hR : R (.returned (.tuple #[a, .int .i64 4])) (w.setCell ⟨N, 0, none⟩ (.int .i64 4))) :
    bodyPostD Tryz.prog Tryz.f55 R (Exit.panic [{ v := .iface v u, recovered := false }]) { tmps := tmps, defers := [{ target := Target.fn (Fn.func 101) #[.pointer (some ⟨N, 0, none⟩)], args := #[] }] } w := by
  refine leaves_cons (f := 101) (args := #[.pointer (some ⟨N, 0, none⟩)]) (by simp) (by simp [go_sem]) ?_
  refine (catch_ints N v u [] w x hE).mono ?_
  rintro e u' w'' ⟨rfl, rfl, rfl⟩
  have hE' := heap_setCell_same w N 0 _ _ (.int .i64 4) hE
  generalize (w.setCell ⟨N, 0, none⟩ (.int .i64 4)) = W at *
  have ce : W.cell? ⟨N, 0, none⟩ = some (.int .i64 4) := set_cells hE' 0
  simp [Go.Leaves, settle, results, Tryz.results55, go_sem, h2, h3, ce]
  exact hR
set_option maxRecDepth 100000 in
set_option maxHeartbeats 4000000 in
theorem door_ok_ints (ex : Exit) (hex : ex = .ret ∨ ex = .normal) (N : Nat) (a : Value) (w : World) (tmps : Array Value) (R : Ending → World → Prop) (h2 : tmps[2]?.getD undef = a) (h3 : tmps[3]?.getD undef = .pointer (some ⟨N, 0, none⟩))
    (hE : w.heap[N]? = some (.cells #[.int .i64 0] 25 (0, 0))) (hR : R (.returned (.tuple #[a, .int .i64 0])) w) :
    bodyPostD Tryz.prog Tryz.f55 R ex { tmps := tmps, defers := [{ target := Target.fn (Fn.func 101) #[.pointer (some ⟨N, 0, none⟩)], args := #[] }] } w := by
  have ce : w.cell? ⟨N, 0, none⟩ = some (.int .i64 0) := set_cells hE 0
  rcases hex with rfl | rfl
  all_goals
    refine leaves_cons (f := 101) (args := #[.pointer (some ⟨N, 0, none⟩)]) (by simp) (by simp [go_sem]) ?_
    refine (idle_ints N w).mono ?_
    rintro e u' w'' ⟨rfl, rfl, rfl⟩
    simp [Go.Leaves, settle, results, Tryz.results55, go_sem, h2, h3, ce]
    exact hR
/-- What attempt on an integer comes to. -/
def AttI (Qk : Int → Prop) (Qn : Prop) (w : World) (e : Ending) (w' : World) : Prop :=
  Below w.heap.size w w' ∧ ((∃ z, Qk z ∧ e = .returned (.tuple #[.int .i64 z, .int .i64 0])) ∨ (Qn ∧ e = .returned (.tuple #[.int .i64 0, .int .i64 4])))
set_option maxRecDepth 100000 in
set_option maxHeartbeats 2000000 in
theorem attempt_ints (c : FuncId) (caps : Array Value) (he : ∀ args w, (callFunc c args).run Tryz.prog w = .ok (.enter c args) w) (Qk : Int → Prop) (Qn : Prop) (w : World)
    (hc : ∀ W, Below w.heap.size w W → Calls Tryz.prog c caps W fun e W' => Below W.heap.size W W' ∧ ((∃ z, Qk z ∧ e = .returned (.int .i64 z)) ∨ (Qn ∧ e = .panicked [{ v := errV4, recovered := false }]))) :
    Calls Tryz.prog 55 #[.func (.func c) #[] caps] w (AttI Qk Qn w) := by
  obtain ⟨W1, hW1⟩ : ∃ W1, W1 = w.alloc (.cells #[.int .i64 0] 25) := ⟨_, rfl⟩
  have hE1 : W1.heap[w.heap.size]? = some (.cells #[.int .i64 0] 25 (0, 0)) := by rw [hW1]; exact Go.Deep.blk_alloc_new _ _
  have hB1 : Below w.heap.size w W1 := by rw [hW1]; exact (Below.refl _ _).alloc (Nat.le_refl _) _
  have HC := Lib.hid (hc W1 hB1); clear hc
  have HW1 := Lib.hid hW1; have HB1 := Lib.hid hB1; have HE1 := Lib.hid hE1
  clear hW1 hB1 hE1
  go_enter_defers Tryz.func55, Tryz.ntmps55
  go_wp2_with fail
  rw [← HW1.out]
  refine HC.out.mono ?_
  rintro e w2 ⟨hg, h12⟩
  have l2 : w.heap.size < W1.heap.size := (Array.getElem?_eq_some_iff.1 HE1.out).1
  have hE2 := (hg.block _ l2).trans HE1.out
  have HG : Hid (Below w.heap.size w w2) := Lib.hid (HB1.out.trans (hg.mono HB1.out.size))
  have HGS : Hid (∀ z, Below w.heap.size w (w2.setCell ⟨w.heap.size, 0, none⟩ z)) := Lib.hid fun z => HG.out.setCell (p := ⟨w.heap.size, 0, none⟩) (Nat.le_refl _) z
  rcases h12 with ⟨z, hq, rfl⟩ | ⟨hq, rfl⟩
  · have ce := set_cells hE2 0
    have fe : w2.frozen? ⟨w.heap.size, 0, none⟩ = false := by simp [World.frozen?, hE2]
    simp only [List.getElem?_toArray, List.getElem?_cons_zero, List.getElem?_cons_succ] at ce
    have HE2 := Lib.hid hE2; have HQ := Lib.hid hq
    clear hE2 hg hq
    go_wp2
    have k2 := heap_setCell_same w2 w.heap.size 0 _ _ (.int .i64 0) HE2.out
    simp only [List.setIfInBounds_toArray, List.set_cons_zero, List.set_cons_succ] at k2
    exact door_ok_ints _ (by first | exact .inl rfl | exact .inr rfl) w.heap.size (.int .i64 z) _ _ _ rfl rfl k2 ⟨HGS.out _, .inl ⟨z, HQ.out, rfl⟩⟩
  · exact door_fault_ints w.heap.size _ _ _ _ w2 _ _ rfl rfl hE2 ⟨HGS.out _, .inr ⟨hq, rfl⟩⟩

set_option maxRecDepth 100000 in
set_option maxHeartbeats 2000000 in
theorem cover1_clo (B n p q : Nat) (xs : List (Nat × Nat)) (cs : Array Value) (g : Nat × Nat) (g1 g2 : Value) (w : World) (hx : Rats (· ≠ B) w B n xs cs) (hxn : xs.length = n) (hxf : ∀ r ∈ xs, FrT r) (hg1 : NatV w g1 g.1) (hg2 : NatV w g2 g.2) (gf : FrT g) (hn : n ≤ 19) (ht : Tens w) (h0 : 0 < w.heap.size)
    (hp : w.cell? ⟨p, 0, none⟩ = some (.slice (some ⟨B, 0, none⟩) n n)) (hq0 : w.cell? ⟨q, 0, none⟩ = some g1) (hq1 : w.cell? ⟨q, 1, none⟩ = some g2) :
    Calls Tryz.prog 56 #[.pointer (some ⟨p, 0, none⟩), .pointer (some ⟨q, 0, none⟩)] w (ReachP xs g n w) := by
  have HR := Lib.hid (reach_any B n xs cs g g1 g2 w hx hxn hxf hg1 hg2 gf hn ht h0)
  obtain ⟨ga, gl, gk, rfl⟩ := nat_slice hg1
  obtain ⟨gb, gm, gc, rfl⟩ := nat_slice hg2
  clear hx hxf hg1 hg2 gf ht h0
  go_enter Tryz.func56, Tryz.ntmps56
  go_wp2_with fail
  refine HR.out.mono ?_
  rintro e w2 ⟨hb, l, h1, h2, h3, h4⟩
  have HB := Lib.hid hb; have HP := Lib.hid (And.intro h1 h2); have H3 := Lib.hid h3; have H4 := Lib.hid h4
  clear hb h1 h2 h3 h4 HR
  cases ho : reachL (byIdx xs l) (0, 1) g 0 with
  | none =>
    obtain rfl := H4.out ho
    have HO := Lib.hid ho
    clear ho
    go_wp2_with fail
    exact ⟨rfl, HB.out, l, HP.out.1, HP.out.2, (fun k h => by rw [HO.out] at h; cases h), fun _ => rfl⟩
  | some k =>
    obtain rfl := H3.out k ho
    have HO := Lib.hid ho
    clear ho
    go_wp2_with fail
    exact bodyPost_ret (v := .int .i64 (k : Int)) (by simp [results, Tryz.results56, go_sem]) rfl ⟨HB.out, l, HP.out.1, HP.out.2, (fun k' h => by rw [HO.out] at h; rw [Option.some.inj h]), fun h => by rw [HO.out] at h; cases h⟩
end Go.Proofs.YtkggfeemjabdeaaGreatDoor.Wc
end
section
namespace Go.Proofs.YtkggfeemjabdeaaGreatDoor.Wc
open Go Go.Proofs.YtkggfeemjabdeaaGreatDoor.Sx Go.RowKit

/-- What Cover returns, by what reach says. -/
def coverV (n : Nat) : Option Nat → Value
  | none => .tuple #[.int .i64 0, .int .i64 4]
  | some k => if n < k then .tuple #[.int .i64 0, .int .i64 7] else .tuple #[.int .i64 (k : Int), .int .i64 0]
/-- What Cover comes to. -/
def CoverQ (ps : List P2) (p : P2) (w : World) (e : Ending) (w' : World) : Prop :=
  Below w.heap.size w w' ∧ (openLS ps ≠ 0 → e = .returned (.tuple #[.int .i64 0, .int .i64 (openLS ps)])) ∧ (openLS ps = 0 → okP p = false → e = .returned (.tuple #[.int .i64 0, .int .i64 2])) ∧
    (openLS ps = 0 → okP p = true → ∃ l : List Nat, l.Perm (List.range ps.length) ∧ l.Pairwise (bef (ps.map pv)) ∧ e = .returned (coverV ps.length (reachL (byIdx (ps.map pv) l) (0, 1) (pv p) 0)))

set_option maxRecDepth 100000 in
set_option maxHeartbeats 4000000 in
theorem Cover_any (ps : List P2) (p1 p2 : ByteArray) (v : Value) (w : World) (h : PartL w v ps) (hs : ∀ p ∈ ps, Short p) (hp : Short (p1, p2)) (hn : ps.length ≤ 19) (ht : Tens w) (h0 : 0 < w.heap.size) :
    Calls Tryz.prog 18 #[v, .agg #[.string p1, .string p2]] w (CoverQ ps (p1, p2) w) := by
  obtain ⟨W1, hW1⟩ : ∃ W, W = w.alloc (.cells #[.string p1, .string p2] 24) := ⟨_, rfl⟩
  have b01 : Below w.heap.size w W1 := by rw [hW1]; exact (Below.refl _ _).alloc (Nat.le_refl _) _
  have e1 : W1.heap[w.heap.size]? = some (partO p1 p2) := by rw [hW1]; exact Go.Deep.blk_alloc_new _ _
  have hcall := openList_any ps v W1 (h.below b01) hs (fun j hj => cell_later b01 (ht j hj))
  obtain ⟨a, cap, rfl⟩ := h.shape
  have HC := Lib.hid hcall; have HT := Lib.hid ht; have HW1 := Lib.hid hW1; have HB1 := Lib.hid b01; have HE1 := Lib.hid e1; have HSP := Lib.hid hp; have H0 := Lib.hid h0
  clear hcall h hs ht hW1 b01 e1 hp h0
  generalize hN : ps.length = N at *
  go_enter Tryz.func18, Tryz.ntmps18
  go_wp2_with fail
  rw [← HW1.out]
  refine HC.out.mono ?_
  rintro e w2 ⟨g0, g1, g2⟩
  have HB12 := Lib.hid g0; have HB2 := Lib.hid (HB1.out.trans (g0.mono HB1.out.size)); have G1 := Lib.hid g1; have G2 := Lib.hid g2
  have e2 := part_on HE1.out g0
  have HE2 := Lib.hid e2
  clear g0 g1 g2 HC e2
  by_cases hm : openLS ps = 0
  case neg =>
    have hr := G2.out hm
    subst hr
    have hne : ((openLS ps) != 0) = true := bne_iff_ne.2 hm
    have HM := Lib.hid hm
    clear G1 G2 hm
    generalize hzz : openLS ps = z at *
    have HZZ := Lib.hid hzz
    go_wp2_with fail
    exact bodyPost_ret (v := .tuple #[.int .i64 0, .int .i64 z]) (by simp [results, Tryz.results18, go_sem]) rfl ⟨HB2.out.alloc HB2.out.size _, (fun _ => by rw [HZZ.out]), (fun h => absurd (HZZ.out.symm.trans h) HM.out), fun h => absurd (HZZ.out.symm.trans h) HM.out⟩
  obtain ⟨u, rfl, hu⟩ := G1.out hm
  clear G1 G2
  obtain ⟨rfl, cs, hx⟩ := hu
  rw [List.length_map, hN] at hx ⊢
  obtain ⟨W2, hW2⟩ : ∃ W, W = w2.alloc (.cells #[.slice (some ⟨W1.heap.size, 0, none⟩) N N] 85) := ⟨_, rfl⟩
  have b22 : Below w2.heap.size w2 W2 := by rw [hW2]; exact (Below.refl _ _).alloc (Nat.le_refl _) _
  have es : W2.heap[w2.heap.size]? = some (.cells #[.slice (some ⟨W1.heap.size, 0, none⟩) N N] 85 (0, 0)) := by rw [hW2]; exact Go.Deep.blk_alloc_new _ _
  have hx2 := (hx.sub (A' := (· ≠ W1.heap.size)) (fun c h _ => by omega) (fun h => h rfl)).below b22
  have hb02 := HB2.out.trans (b22.mono HB2.out.size)
  obtain ⟨y0, y1, y2⟩ := part_at HE2.out
  have hop := open_any p1 p2 W2 HSP.out.1 HSP.out.2 (fun j hj => cell_later hb02 (HT.out j hj))
  have HX := Lib.hid hx2; have HB02 := Lib.hid hb02; have HES := Lib.hid es; have HOP := Lib.hid hop; have HW2 := Lib.hid hW2; have HM := Lib.hid hm
  clear hx hx2 hb02 es hop hW2 b22 hm
  go_wp2_with fail
  rw [← HW2.out]
  refine HOP.out.mono ?_
  rintro e w3 ⟨g0, g1, g2⟩
  have HB3 := Lib.hid (HB02.out.trans (g0.mono HB02.out.size)); have HB23 := Lib.hid g0; have G1 := Lib.hid g1; have G2 := Lib.hid g2
  clear g0 g1 g2 HOP y0 y1 y2
  cases hv : validP p1 p2 with
  | false =>
    obtain rfl := G2.out hv
    have HV := Lib.hid hv
    clear hv G1 G2
    go_wp2_with fail
    exact bodyPost_ret (v := .tuple #[.int .i64 0, .int .i64 2]) (by simp [results, Tryz.results18, go_sem]) rfl ⟨HB3.out.alloc HB3.out.size _, (fun h => absurd HM.out h), (fun _ _ => rfl), fun _ h => by unfold okP at h; rw [HV.out] at h; cases h⟩
  | true =>
    obtain ⟨u1, u2, rfl, n1, n2, s1, s2⟩ := G1.out hv
    obtain ⟨c1, l1, k1, e1⟩ := nat_slice n1
    obtain ⟨c2, l2, k2, e2⟩ := nat_slice n2
    subst e1 e2
    clear G1 G2
    obtain ⟨W3, hW3⟩ : ∃ W, W = w3.alloc (.cells #[.slice c1 l1 k1, .slice c2 l2 k2] 62) := ⟨_, rfl⟩
    have b33 : Below w3.heap.size w3 W3 := by rw [hW3]; exact (Below.refl _ _).alloc (Nat.le_refl _) _
    have er : W3.heap[w3.heap.size]? = some (.cells #[.slice c1 l1 k1, .slice c2 l2 k2] 62 (0, 0)) := by rw [hW3]; exact Go.Deep.blk_alloc_new _ _
    have b23 := HB23.out.trans (b33.mono HB23.out.size)
    have b03 := HB3.out.trans (b33.mono HB3.out.size)
    have es3 := (b23.block _ (Array.getElem?_eq_some_iff.1 HES.out).1).trans HES.out
    have hfr : FrT (pv (p1, p2)) := valid_frt hv
    have hat := attempt_ints 56 #[.pointer (some ⟨w2.heap.size, 0, none⟩), .pointer (some ⟨w3.heap.size, 0, none⟩)] (enters_of Tryz.func56 (by kernel_rfl) rfl)
      (fun z => ∃ (l : List Nat) (k : Nat), l.Perm (List.range N) ∧ l.Pairwise (bef (ps.map pv)) ∧ reachL (byIdx (ps.map pv) l) (0, 1) (pv (p1, p2)) 0 = some k ∧ z = (k : Int)) (∃ l : List Nat, l.Perm (List.range N) ∧ l.Pairwise (bef (ps.map pv)) ∧ reachL (byIdx (ps.map pv) l) (0, 1) (pv (p1, p2)) 0 = none) W3
      (fun W hW => by
        refine (cover1_clo W1.heap.size N w2.heap.size w3.heap.size (ps.map pv) cs (pv (p1, p2)) _ _ W (HX.out.below (b23.trans (hW.mono b23.size))) (by rw [List.length_map]; exact hN) (frt_all HM.out) ((n1.below b33).below hW) ((n2.below b33).below hW) hfr hn (fun j hj => cell_later hW (cell_later b03 (HT.out j hj))) (by have := hW.size; have := b03.size; have := H0.out; omega) (cell_later hW (by rw [set_cells es3]; rfl)) (cell_later hW (by rw [set_cells er]; rfl)) (cell_later hW (by rw [set_cells er]; rfl))).mono ?_
        rintro e W' ⟨k1, l, k2, k3, k4, k5⟩
        refine ⟨k1, ?_⟩
        cases ho : reachL (byIdx (ps.map pv) l) (0, 1) (pv (p1, p2)) 0 with
        | none => exact .inr ⟨⟨l, k2, k3, ho⟩, k5 ho⟩
        | some k => exact .inl ⟨k, ⟨l, k, k2, k3, ho, rfl⟩, k4 k ho⟩)
    have HAT := Lib.hid hat; have HW3 := Lib.hid hW3; have HB03 := Lib.hid b03; have HV := Lib.hid hv
    clear hat hW3 b33 er b23 b03 es3 hfr hv n1 n2 s1 s2
    go_wp2_with fail
    rw [← HW3.out]
    refine HAT.out.mono ?_
    rintro e w4 ⟨hb4, h4⟩
    have HB4 := Lib.hid (HB03.out.trans (hb4.mono HB03.out.size))
    clear hb4 HAT
    rcases h4 with ⟨z, ⟨l, k, q1, q2, q3, rfl⟩, rfl⟩ | ⟨⟨l, q1, q2, q3⟩, rfl⟩
    · have HQ := Lib.hid (And.intro q1 (And.intro q2 q3))
      clear q1 q2 q3
      by_cases hk : N < k
      · have hki : (N : Int) < (k : Int) := by omega
        have HK := Lib.hid hk
        clear hk
        go_wp2_with fail
        exact bodyPost_ret (v := .tuple #[.int .i64 0, .int .i64 7]) (by simp [results, Tryz.results18, go_sem]) rfl ⟨HB4.out, (fun h => absurd HM.out h), (fun _ h => by unfold okP at h; rw [HV.out] at h; cases h), fun _ _ => ⟨l, by rw [hN]; exact HQ.out.1, HQ.out.2.1, by rw [HQ.out.2.2, hN]; show _ = Ending.returned (if N < k then _ else _); rw [if_pos HK.out]⟩⟩
      · have hki : ¬ (N : Int) < (k : Int) := by omega
        have HK := Lib.hid hk
        clear hk
        go_wp2_with fail
        exact bodyPost_ret (v := .tuple #[.int .i64 (k : Int), .int .i64 0]) (by simp [results, Tryz.results18, go_sem]) rfl ⟨HB4.out, (fun h => absurd HM.out h), (fun _ h => by unfold okP at h; rw [HV.out] at h; cases h), fun _ _ => ⟨l, by rw [hN]; exact HQ.out.1, HQ.out.2.1, by rw [HQ.out.2.2, hN]; show _ = Ending.returned (if N < k then _ else _); rw [if_neg HK.out]⟩⟩
    · have HQ := Lib.hid (And.intro q1 (And.intro q2 q3))
      clear q1 q2 q3
      go_wp2_with fail
      exact bodyPost_ret (v := .tuple #[.int .i64 0, .int .i64 4]) (by simp [results, Tryz.results18, go_sem]) rfl ⟨HB4.out, (fun h => absurd HM.out h), (fun _ h => by unfold okP at h; rw [HV.out] at h; cases h), fun _ _ => ⟨l, by rw [hN]; exact HQ.out.1, HQ.out.2.1, by rw [HQ.out.2.2, hN]; rfl⟩⟩
end Go.Proofs.YtkggfeemjabdeaaGreatDoor.Wc
end
section
namespace Go.Proofs.YtkggfeemjabdeaaGreatDoor.Wc
open Go Go.Proofs.YtkggfeemjabdeaaGreatDoor.Sx Go.RowKit

/-- The error that Share returns. -/
def shrE (ps : List P2) : Int := if openLS ps ≠ 0 then openLS ps else divE (ps.map pv)
/-- What Share comes to. -/
def ShareQ (ps : List P2) (w : World) (e : Ending) (w' : World) : Prop :=
  Below w.heap.size w w' ∧ (shrE ps = 0 → ∃ s v' base, sumO (ps.map pv) (0, 1) = some s ∧ w.heap.size ≤ base ∧ e = .returned (.tuple #[v', .int .i64 0]) ∧ w'.ownsRow base 24 2 v' ps.length (partCells ((ps.map pv).map (divF · s)))) ∧
    (shrE ps ≠ 0 → e = .returned (.tuple #[.slice none 0 0, .int .i64 (shrE ps)]))

set_option maxRecDepth 100000 in
set_option maxHeartbeats 2000000 in
theorem Share_any (ps : List P2) (v : Value) (w : World) (h : PartL w v ps) (hs : ∀ p ∈ ps, Short p) (ht : Tens w) :
    Calls Tryz.prog 16 #[v] w (ShareQ ps w) := by
  have hcall := openList_any ps v w h hs ht
  obtain ⟨a, cap, rfl⟩ := h.shape
  have HC := Lib.hid hcall; have HT := Lib.hid ht
  clear hcall h hs ht
  go_enter Tryz.func16, Tryz.ntmps16
  go_wp2_with fail
  refine HC.out.mono ?_
  rintro e w2 ⟨g0, g1, g2⟩
  have HB2 := Lib.hid g0; have G1 := Lib.hid g1; have G2 := Lib.hid g2
  clear g0 g1 g2 HC
  by_cases hm : openLS ps = 0
  · obtain ⟨u, rfl, hu⟩ := G1.out hm
    clear G1 G2
    obtain ⟨rfl, cs, hx⟩ := hu
    rw [List.length_map] at hx
    have hd := divideUp_any w.heap.size ps.length (ps.map pv) cs w2 (hx.sub (fun c h _ => by omega) (fun h => h rfl)) (by rw [List.length_map]) (frt_all hm) (openLS_ok hm).1 (fun j hj => cell_later HB2.out (HT.out j hj))
    have hz : shrE ps = divE (ps.map pv) := if_neg (fun h => h hm)
    have HD := Lib.hid hd; have HZ := Lib.hid hz
    clear hd hx hm hz
    rw [List.length_map]
    go_wp2_with fail
    refine HD.out.mono ?_
    rintro e w3 ⟨g0, g1, g2⟩
    have HB3 := Lib.hid (HB2.out.trans (g0.mono HB2.out.size)); have G1 := Lib.hid g1; have G2 := Lib.hid g2
    clear g0 g1 g2 HD
    by_cases hd : divE (ps.map pv) = 0
    · obtain ⟨s, v', base, hs, hbase, rfl, hrow⟩ := G1.out hd
      have HS := Lib.hid hs; have HROW := Lib.hid hrow; have HZ2 := Lib.hid (HZ.out.trans hd); have HBA := Lib.hid hbase
      clear G1 G2 hd hs hrow hbase
      generalize hd1 : dec s.1 = d1
      generalize hd2 : dec s.2 = d2
      clear hd1 hd2
      go_wp2_with fail
      refine bodyPost_ret (v := .tuple #[v', .int .i64 0]) (by simp [results, Tryz.results16, go_sem]) rfl ⟨HB3.out.alloc HB3.out.size _, (fun _ => ⟨s, v', base, HS.out, by have := HB2.out.size; have := HBA.out; omega, rfl, ?_⟩), fun h => absurd HZ2.out h⟩
      have h := HROW.out
      rw [List.length_map] at h
      exact owns_below h ((Below.refl _ _).alloc (Nat.le_refl _) _)
    · have hr := G2.out hd
      subst hr
      have HND := Lib.hid hd
      clear G1 G2 hd
      have HZ3 := HZ
      generalize hzz : divE (ps.map pv) = z at *
      unfold noPart
      go_wp2_with fail
      refine bodyPost_ret (v := .tuple #[.slice none 0 0, .int .i64 z]) (by simp [results, Tryz.results16, go_sem]) rfl ⟨HB3.out.alloc HB3.out.size _, (fun h => absurd (HZ.out.symm.trans h) HND.out), fun _ => by rw [HZ.out]⟩
  · have hr := G2.out hm
    subst hr
    have hz : shrE ps = openLS ps := if_pos hm
    have hne : ((openLS ps) != 0) = true := bne_iff_ne.2 hm
    have HZ := Lib.hid hz; have HM := Lib.hid hm
    clear G1 G2 hz hm
    generalize hzz : openLS ps = z at *
    go_wp2_with fail
    refine bodyPost_ret (v := .tuple #[.slice none 0 0, .int .i64 z]) (by simp [results, Tryz.results16, go_sem]) rfl ⟨HB2.out, (fun h => absurd (HZ.out.symm.trans h) HM.out), fun _ => by rw [HZ.out]⟩

/-- What Sum answers. -/
def sumS (ps : List P2) : P2 × Int := if openLS ps ≠ 0 then (emptyP, openLS ps) else match sumO (ps.map pv) (0, 1) with
  | none => (emptyP, 4)
  | some s => ((dec s.1, dec s.2), 0)

set_option maxRecDepth 100000 in
set_option maxHeartbeats 2000000 in
theorem sum1_clo (B n p : Nat) (xs : List (Nat × Nat)) (cs : Array Value) (w : World) (hx : Rats (· ≠ B) w B n xs cs) (hxn : xs.length = n) (hxf : ∀ r ∈ xs, FrT r) (hn : n ≤ 512) (ht : Tens w) (hp : w.cell? ⟨p, 0, none⟩ = some (.slice (some ⟨B, 0, none⟩) n n)) :
    Calls Tryz.prog 58 #[.pointer (some ⟨p, 0, none⟩)] w fun e w' => Below w.heap.size w w' ∧ (∀ s, sumO xs (0, 1) = some s → e = .returned (.agg #[.string (dec s.1), .string (dec s.2)])) ∧ (sumO xs (0, 1) = none → e = .panicked [{ v := errV4, recovered := false }]) := by
  obtain ⟨W1, hW1⟩ : ∃ W, W = w.alloc (.cells #[.string ⟨#[]⟩, .string ⟨#[]⟩] 24) := ⟨_, rfl⟩
  have b01 : Below w.heap.size w W1 := by rw [hW1]; exact (Below.refl _ _).alloc (Nat.le_refl _) _
  have e1 : W1.heap[w.heap.size]? = some (.cells #[.string ⟨#[]⟩, .string ⟨#[]⟩] 24 (0, 0)) := by rw [hW1]; exact Go.Deep.blk_alloc_new _ _
  have l1 : w.heap.size < W1.heap.size := (Array.getElem?_eq_some_iff.1 e1).1
  have hBl := hx.lt
  have hcall := total_any (fun c => c ≠ B ∧ c ≠ w.heap.size) B n xs cs W1 (fun c hc => ⟨by omega, by omega⟩) ((hx.sub (fun c h h' => ⟨h, by omega⟩) (fun h => h.1 rfl)).below b01) hxn hxf hn (fun j hj => cell_later b01 (ht j hj))
  have hpl : p < w.heap.size := by
    cases e : w.heap[p]? with
    | none => simp [World.cell?, e] at hp
    | some _ => exact (Array.getElem?_eq_some_iff.1 e).1
  have HC := Lib.hid hcall; have HT := Lib.hid ht; have HW1 := Lib.hid hW1; have HB1 := Lib.hid b01; have HE1 := Lib.hid e1
  clear hcall hx hxf ht hBl hW1 b01 e1
  go_enter Tryz.func58, Tryz.ntmps58
  go_wp2_with fail
  rw [← HW1.out]
  refine HC.out.mono ?_
  rintro e w3 ⟨hb3, g1, g2⟩
  have HB3 := Lib.hid (HB1.out.trans (hb3.mono HB1.out.size)); have HB13 := Lib.hid hb3; have G1 := Lib.hid g1; have G2 := Lib.hid g2
  have r3 := (hb3.block _ l1).trans HE1.out
  clear hb3 g1 g2 HC hp
  generalize hoo : sumO xs (0, 1) = o at *
  have HOO := Lib.hid hoo
  cases o with
  | none =>
    obtain rfl := G2.out rfl
    clear G1 G2
    go_wp2_with fail
    exact ⟨rfl, HB3.out, (fun r h => by rw [HOO.out] at h; cases h), fun _ => rfl⟩
  | some r =>
    obtain ⟨hr, e1, e2, rfl, hv⟩ := G1.out r rfl
    clear G1 G2
    obtain ⟨p1, l1', c1, e1⟩ := nat_slice hv.n
    obtain ⟨p2, l2', c2, e2⟩ := nat_slice hv.d
    subst e1 e2
    have hpart := part_rat r _ _ w3 hv.n hv.d hr (fun j hj => cell_later HB3.out (HT.out j hj))
    have R3 := Lib.hid r3; have HP := Lib.hid hpart
    clear hr hv r3 hpart hoo
    go_wp2_with fail
    refine HP.out.mono ?_
    rintro e w4 ⟨rfl, hb4⟩
    have hl3 : w.heap.size < w3.heap.size := (Array.getElem?_eq_some_iff.1 R3.out).1
    have r4 := (hb4.block _ hl3).trans R3.out
    have q0 := set_cells r4 0; have q1 := set_cells r4 1
    simp only [List.getElem?_toArray, List.getElem?_cons_zero, List.getElem?_cons_succ] at q0 q1
    have f0 : w4.frozen? ⟨w.heap.size, 0, none⟩ = false := by simp [World.frozen?, r4]
    have f1 : w4.frozen? ⟨w.heap.size, 1, none⟩ = false := by simp [World.frozen?, r4]
    have HB4 := Lib.hid (HB3.out.trans (hb4.mono HB3.out.size)); have R4 := Lib.hid r4
    clear hb4 r4 HP
    generalize hd1 : dec r.1 = d1
    generalize hd2 : dec r.2 = d2
    have HD1 := Lib.hid hd1; have HD2 := Lib.hid hd2
    clear hd1 hd2
    go_wp2_with fail
    have g0 := heap_setCell_same w4 w.heap.size 0 _ _ (.string d1) R4.out
    have g1 := heap_setCell_same _ w.heap.size 1 _ _ (.string d2) g0
    simp only [List.setIfInBounds_toArray, List.set_cons_zero, List.set_cons_succ] at g1
    have t0 := set_cells g1 0; have t1 := set_cells g1 1
    simp only [List.getElem?_toArray, List.getElem?_cons_zero, List.getElem?_cons_succ] at t0 t1
    have hbz := (HB4.out.setCell (p := ⟨w.heap.size, 0, none⟩) (Nat.le_refl _) (.string d1)).setCell (p := ⟨w.heap.size, 1, none⟩) (Nat.le_refl _) (.string d2)
    refine bodyPost_ret (v := .agg #[.string d1, .string d2]) (by simp [results, t0, t1, Tryz.results58, go_sem]) rfl ⟨hbz, (fun s h => ?_), fun h => by rw [HOO.out] at h; cases h⟩
    rw [HOO.out] at h
    obtain rfl := Option.some.inj h
    rw [HD1.out, HD2.out]

set_option maxRecDepth 100000 in
set_option maxHeartbeats 2000000 in
theorem Sum_any (ps : List P2) (v : Value) (w : World) (h : PartL w v ps) (hs : ∀ p ∈ ps, Short p) (ht : Tens w) :
    Calls Tryz.prog 19 #[v] w fun e w' => e = .returned (retV (sumS ps)) ∧ Below w.heap.size w w' := by
  obtain ⟨W1, hW1⟩ : ∃ W, W = w.alloc (.cells #[.string ⟨#[]⟩, .string ⟨#[]⟩] 24) := ⟨_, rfl⟩
  have b01 : Below w.heap.size w W1 := by rw [hW1]; exact (Below.refl _ _).alloc (Nat.le_refl _) _
  have e1 : W1.heap[w.heap.size]? = some (.cells #[.string ⟨#[]⟩, .string ⟨#[]⟩] 24 (0, 0)) := by rw [hW1]; exact Go.Deep.blk_alloc_new _ _
  have l1 : w.heap.size < W1.heap.size := (Array.getElem?_eq_some_iff.1 e1).1
  have hcall := openList_any ps v W1 (h.below b01) hs (fun j hj => cell_later b01 (ht j hj))
  obtain ⟨a, cap, rfl⟩ := h.shape
  have HC := Lib.hid hcall; have HT := Lib.hid ht; have HW1 := Lib.hid hW1; have HB1 := Lib.hid b01; have HE1 := Lib.hid e1
  clear hcall h hs ht hW1 b01 e1
  go_enter Tryz.func19, Tryz.ntmps19
  go_wp2_with fail
  rw [← HW1.out]
  refine HC.out.mono ?_
  rintro e w2 ⟨g0, g1, g2⟩
  have HB2 := Lib.hid (HB1.out.trans (g0.mono HB1.out.size)); have G1 := Lib.hid g1; have G2 := Lib.hid g2
  have p2 := (g0.block _ l1).trans HE1.out
  have q0 := set_cells p2 0; have q1 := set_cells p2 1
  simp only [List.getElem?_toArray, List.getElem?_cons_zero, List.getElem?_cons_succ] at q0 q1
  have f0 : w2.frozen? ⟨w.heap.size, 0, none⟩ = false := by simp [World.frozen?, p2]
  have f1 : w2.frozen? ⟨w.heap.size, 1, none⟩ = false := by simp [World.frozen?, p2]
  have hl2 : w.heap.size < w2.heap.size := (Array.getElem?_eq_some_iff.1 p2).1
  have HP2 := Lib.hid p2
  clear g0 g1 g2 HC p2
  by_cases hm : openLS ps = 0
  · obtain ⟨u, rfl, hu⟩ := G1.out hm
    clear G1 G2
    obtain ⟨rfl, cs, hx⟩ := hu
    rw [List.length_map] at hx ⊢
    obtain ⟨w3, hw3⟩ : ∃ W, W = w2.alloc (.cells #[.slice (some ⟨W1.heap.size, 0, none⟩) ps.length ps.length] 85) := ⟨_, rfl⟩
    have b23 : Below w2.heap.size w2 w3 := by rw [hw3]; exact (Below.refl _ _).alloc (Nat.le_refl _) _
    have e3 : w3.heap[w2.heap.size]? = some (.cells #[.slice (some ⟨W1.heap.size, 0, none⟩) ps.length ps.length] 85 (0, 0)) := by rw [hw3]; exact Go.Deep.blk_alloc_new _ _
    have hx3 := (hx.sub (A' := (· ≠ W1.heap.size)) (fun c h _ => by omega) (fun h => h rfl)).below b23
    have hp3 := (b23.block _ hl2).trans HP2.out
    have hb03 := HB2.out.trans (b23.mono HB2.out.size)
    have hle := openLS_ok hm
    obtain ⟨o, ho⟩ : ∃ o, sumO (ps.map pv) (0, 1) = o := ⟨_, rfl⟩
    have hat := attempt_part 58 #[.pointer (some ⟨w2.heap.size, 0, none⟩)] (enters_of Tryz.func58 (by kernel_rfl) rfl) o.isSome (dec (o.getD (0, 1)).1) (dec (o.getD (0, 1)).2) w3
      (fun W hW => by
        refine (sum1_clo W1.heap.size ps.length w2.heap.size (ps.map pv) cs W (hx3.below hW) (by rw [List.length_map]) (frt_all hm) hle.1 (fun j hj => cell_later hW (cell_later hb03 (HT.out j hj))) (cell_later hW (by rw [set_cells e3]; rfl))).mono ?_
        rintro e W' ⟨k1, k2, k3⟩
        refine ⟨k1, fun h => ?_, fun h => ?_⟩
        · obtain ⟨s, hs⟩ := Option.isSome_iff_exists.1 h
          subst hs
          exact k2 s ho
        · cases o with
          | none => exact k3 ho
          | some _ => cases h)
    have hz : sumS ps = ((if o.isSome then dec (o.getD (0, 1)).1 else ⟨#[]⟩, if o.isSome then dec (o.getD (0, 1)).2 else ⟨#[]⟩), if o.isSome then 0 else 4) := by
      unfold sumS
      rw [if_neg (fun h => h hm), ho]
      cases o <;> rfl
    have HW3 := Lib.hid hw3; have HP3 := Lib.hid hp3; have HB03 := Lib.hid hb03; have HZ := Lib.hid hz
    generalize (if o.isSome then dec (o.getD (0, 1)).1 else ⟨#[]⟩) = d1 at *
    generalize (if o.isSome then dec (o.getD (0, 1)).2 else ⟨#[]⟩) = d2 at *
    generalize (if o.isSome then (0 : Int) else 4) = z at *
    have HAT := Lib.hid hat
    clear hw3 b23 e3 hx3 hp3 hb03 hle ho hat hz hx hm q0 q1 f0 f1
    have hl3 : w.heap.size < w3.heap.size := (Array.getElem?_eq_some_iff.1 HP3.out).1
    go_wp2_with fail
    rw [← HW3.out]
    refine HAT.out.mono ?_
    rintro e w4 ⟨rfl, hb4⟩
    have p4 := (hb4.block _ hl3).trans HP3.out
    have q0 := set_cells p4 0; have q1 := set_cells p4 1
    simp only [List.getElem?_toArray, List.getElem?_cons_zero, List.getElem?_cons_succ] at q0 q1
    have f0 : w4.frozen? ⟨w.heap.size, 0, none⟩ = false := by simp [World.frozen?, p4]
    have f1 : w4.frozen? ⟨w.heap.size, 1, none⟩ = false := by simp [World.frozen?, p4]
    have HB4 := Lib.hid (HB03.out.trans (hb4.mono HB03.out.size)); have HP4 := Lib.hid p4
    clear hb4 p4 HAT
    go_wp2_with fail
    have g0 := heap_setCell_same w4 w.heap.size 0 _ _ (.string d1) HP4.out
    have g1 := heap_setCell_same _ w.heap.size 1 _ _ (.string d2) g0
    simp only [List.setIfInBounds_toArray, List.set_cons_zero, List.set_cons_succ] at g1
    have t0 := set_cells g1 0; have t1 := set_cells g1 1
    simp only [List.getElem?_toArray, List.getElem?_cons_zero, List.getElem?_cons_succ] at t0 t1
    have hbz := (HB4.out.setCell (p := ⟨w.heap.size, 0, none⟩) (Nat.le_refl _) (.string d1)).setCell (p := ⟨w.heap.size, 1, none⟩) (Nat.le_refl _) (.string d2)
    refine bodyPost_ret (v := .tuple #[.agg #[.string d1, .string d2], .int .i64 z]) (by simp [results, t0, t1, Tryz.results19, go_sem]) rfl ⟨by rw [HZ.out]; rfl, hbz⟩
  · have hr := G2.out hm
    subst hr
    have hz : sumS ps = (emptyP, openLS ps) := if_pos hm
    have hne : ((openLS ps) != 0) = true := bne_iff_ne.2 hm
    have HZ := Lib.hid hz
    clear G1 G2 hz hm
    generalize hzz : openLS ps = z at *
    go_wp2_with fail
    have g0 := heap_setCell_same w2 w.heap.size 0 _ _ (.string ⟨#[]⟩) HP2.out
    have g1 := heap_setCell_same _ w.heap.size 1 _ _ (.string ⟨#[]⟩) g0
    simp only [List.setIfInBounds_toArray, List.set_cons_zero, List.set_cons_succ] at g1
    have t0 := cell_later ((Below.refl _ _).alloc (Nat.le_refl _) (.cells #[.slice none 0 0] 85)) (set_cells g1 0)
    have t1 := cell_later ((Below.refl _ _).alloc (Nat.le_refl _) (.cells #[.slice none 0 0] 85)) (set_cells g1 1)
    have hbz := ((HB2.out.setCell (p := ⟨w.heap.size, 0, none⟩) (Nat.le_refl _) (.string ⟨#[]⟩)).setCell (p := ⟨w.heap.size, 1, none⟩) (Nat.le_refl _) (.string ⟨#[]⟩))
    have hbz2 := hbz.alloc hbz.size (.cells #[.slice none 0 0] 85)
    refine bodyPost_ret (v := .tuple #[.agg #[.string ⟨#[]⟩, .string ⟨#[]⟩], .int .i64 z]) (by simp [results, t0, t1, Tryz.results19, go_sem]) rfl ⟨by rw [HZ.out]; rfl, hbz2⟩
end Go.Proofs.YtkggfeemjabdeaaGreatDoor.Wc
end
section
namespace Go.Proofs.YtkggfeemjabdeaaGreatDoor.Wc
open Go

/-- The sum of a list of numbers. -/
def sumQ : List Rat → Rat
  | [] => 0
  | a :: l => a + sumQ l
theorem sumQ_perm {l l' : List Rat} (h : l.Perm l') : sumQ l = sumQ l' := by
  induction h with
  | nil => rfl
  | cons x _ ih => simp only [sumQ, ih]
  | swap x y l => simp only [sumQ]; grind
  | trans _ _ h1 h2 => rw [h1, h2]
theorem sumQ_take {a : Rat} (ha : 0 ≤ a) : ∀ (L : List Rat) (m : Nat), (∀ x ∈ L, x ≤ a) → (∀ x ∈ L, 0 ≤ x) → sumQ (L.take m) ≤ sumQ ((a :: L).take m)
  | L, 0, _, _ => by simp [sumQ]
  | [], m + 1, _, _ => by simp [sumQ]; grind
  | x :: L, m + 1, h, h0 => by
    have ih := sumQ_take ha L m (fun y hy => h y (by simp [hy])) (fun y hy => h0 y (by simp [hy]))
    have hx := h x (by simp)
    cases m with
    | zero => simp only [List.take_succ_cons, List.take_zero, sumQ]; grind
    | succ m =>
      simp only [List.take_succ_cons, sumQ] at ih ⊢
      grind
theorem sumQ_sub {S L : List Rat} (h : S.Sublist L) (hs : L.Pairwise (fun a b => b ≤ a)) (h0 : ∀ x ∈ L, 0 ≤ x) : sumQ S ≤ sumQ (L.take S.length) := by
  induction h with
  | slnil => simp [sumQ]
  | cons a h ih =>
    rename_i S L
    have hs2 := List.pairwise_cons.1 hs
    have k1 := ih hs2.2 (fun x hx => h0 x (by simp [hx]))
    have k2 := sumQ_take (h0 a (by simp)) L S.length hs2.1 (fun x hx => h0 x (by simp [hx]))
    grind
  | cons_cons a h ih =>
    rename_i S L
    have hs2 := List.pairwise_cons.1 hs
    have k1 := ih hs2.2 (fun x hx => h0 x (by simp [hx]))
    simp only [List.length_cons, List.take_succ_cons, sumQ]
    grind
theorem qv_nonneg (x : Nat × Nat) : 0 ≤ qv x := by
  unfold qv
  rw [Rat.div_def]
  refine Rat.mul_nonneg Rat.natCast_nonneg ?_
  rcases Nat.eq_zero_or_pos x.2 with h | h
  · rw [h]; simp
  · have := Rat.inv_pos.2 (Rat.natCast_pos.2 h)
    grind
theorem sum_qv (xs : List (Nat × Nat)) (p s : Nat × Nat) (hx : ∀ x ∈ xs, Fr x) (hp : Fr p) (h : sumO xs p = some s) : qv s = qv p + sumQ (xs.map qv) := by
  induction xs generalizing p with
  | nil => rw [sumO_nil] at h; injection h with h; subst h; simp only [List.map_nil, sumQ]; grind
  | cons x xs ih =>
    have hxx := hx x (by simp)
    cases hf : fitsF (addF p x) with
    | false => rw [sumO_no hf] at h; cases h
    | true =>
      rw [sumO_yes hf] at h
      have ih := ih (addF p x) (fun y hy => hx y (by simp [hy])) (addF_fr hp hxx) h
      rw [ih, qv_add hp hxx]
      simp only [List.map_cons, sumQ]; grind
theorem cmp_lt {x y : Nat × Nat} (hx : Fr x) (hy : Fr y) : cmpF x y < 0 ↔ qv x < qv y := (cmpF_qv hx hy).1
/-- Whether so many of a list have the sum. -/
theorem reach_le {k : Nat} {g : Nat × Nat} (hg : Fr g) : ∀ (ys : List (Nat × Nat)) (l i j : Nat) (s : Nat × Nat), (∀ y ∈ ys, Sm k y) → Sm l s → l + ys.length * (k + 1) ≤ 600 → ∃ r, reachL ys s g i = some r ∧ (qv g ≤ qv s + sumQ ((ys.map qv).take j) → j ≤ ys.length → r ≤ i + j)
  | [], l, i, j, s, _, hs, _ => by
    by_cases h : cmpF s g < 0
    · refine ⟨i + 1, reachL_end h, fun hq hj => ?_⟩
      have := (cmp_lt hs.fr hg).1 h
      simp only [List.map_nil, List.take_nil, sumQ] at hq
      exfalso; grind
    · exact ⟨i, reachL_hit h, fun _ _ => by omega⟩
  | y :: ys, l, i, j, s, hy, hs, hl => by
    by_cases h : cmpF s g < 0
    · have hyy := hy y (by simp)
      have h1 := hs.add hyy (m := l + k + 1) rfl
      have e : l + (y :: ys).length * (k + 1) = l + k + 1 + ys.length * (k + 1) := by simp only [List.length_cons, Nat.succ_mul]; omega
      rw [e] at hl
      obtain ⟨r, k1, k2⟩ := reach_le hg ys (l + k + 1) (i + 1) (j - 1) (addF s y) (fun z hz => hy z (by simp [hz])) h1 hl
      refine ⟨r, by rw [reachL_on h (h1.fits (by omega))]; exact k1, fun hq hj => ?_⟩
      have hlt := (cmp_lt hs.fr hg).1 h
      cases j with
      | zero => simp only [List.take_zero, sumQ] at hq; exfalso; grind
      | succ j =>
        simp only [List.map_cons, List.take_succ_cons, sumQ] at hq
        have := k2 (by rw [qv_add hs.fr hyy.fr]; grind) (by simp at hj ⊢; omega)
        simp only [Nat.add_sub_cancel] at this
        omega
    · exact ⟨i, reachL_hit h, fun _ _ => by omega⟩
/-- The elements that are chosen. -/
def chosen (xs : List (Nat × Nat)) (c : Nat → Bool) (i : Nat) : List (Nat × Nat) := ((List.range i).filter c).map fun k => xs.getD k (0, 1)
theorem chosen_succ (xs : List (Nat × Nat)) (c : Nat → Bool) (i : Nat) : chosen xs c (i + 1) = if c i then chosen xs c i ++ [xs.getD i (0, 1)] else chosen xs c i := by
  unfold chosen
  rw [List.range_succ, List.filter_append]
  cases h : c i <;> simp [h]
theorem chosen_len (xs : List (Nat × Nat)) (c : Nat → Bool) (i : Nat) : (chosen xs c i).length ≤ i := by
  unfold chosen
  rw [List.length_map]
  exact Nat.le_trans (List.length_filter_le _ _) (by simp)
theorem getD_sm {k : Nat} {xs : List (Nat × Nat)} (h : ∀ x ∈ xs, Sm k x) {i : Nat} (hi : i < xs.length) : Sm k (xs.getD i (0, 1)) := h _ (by rw [List.getD_eq_getElem?_getD, List.getElem?_eq_getElem hi]; exact List.getElem_mem _)
theorem chosen_sm {k : Nat} {xs : List (Nat × Nat)} (h : ∀ x ∈ xs, Sm k x) (c : Nat → Bool) {i : Nat} (hi : i ≤ xs.length) : ∀ x ∈ chosen xs c i, Sm k x := by
  intro x hx
  unfold chosen at hx
  obtain ⟨j, hj, rfl⟩ := List.mem_map.1 hx
  exact getD_sm h (by have := List.mem_range.1 ((List.mem_filter.1 hj).1); omega)
theorem byIdx_sm {k : Nat} {xs : List (Nat × Nat)} (h : ∀ x ∈ xs, Sm k x) {l : List Nat} (hl : l.Perm (List.range xs.length)) : ∀ x ∈ byIdx xs l, Sm k x := by
  intro x hx
  unfold byIdx at hx
  obtain ⟨j, hj, rfl⟩ := List.mem_map.1 hx
  exact getD_sm h (List.mem_range.1 (hl.mem_iff.1 hj))
/-- No fewer elements have the sum. -/
theorem fewest {xs : List (Nat × Nat)} {g s : Nat × Nat} {l : List Nat} {c : Nat → Bool} (hx : ∀ x ∈ xs, Sm 20 x) (hn : xs.length ≤ 10) (hg : Fr g) (hl : l.Perm (List.range xs.length)) (hs : l.Pairwise (bef xs)) (hsum : sumO (chosen xs c xs.length) (0, 1) = some s) :
    ∃ r, reachL (byIdx xs l) (0, 1) g 0 = some r ∧ (¬ cmpF s g < 0 → r ≤ (chosen xs c xs.length).length) := by
  have hlen : (byIdx xs l).length = xs.length := by unfold byIdx; rw [List.length_map, hl.length_eq, List.length_range]
  obtain ⟨r, k1, k2⟩ := reach_le hg (byIdx xs l) 1 0 (chosen xs c xs.length).length (0, 1) (byIdx_sm hx hl) sm_zero (by rw [hlen]; omega)
  refine ⟨r, k1, fun h => ?_⟩
  have hch := chosen_sm hx c (Nat.le_refl xs.length)
  have q1 := sum_qv _ _ _ (fun x hx => (hch x hx).fr) sm_zero.fr hsum
  have hsf : Fr s := by
    obtain ⟨s', e1, e2⟩ := sum_sm (chosen xs c xs.length) 1 (0, 1) hch sm_zero (by have := chosen_len xs c xs.length; omega)
    obtain rfl := Option.some.inj (hsum.symm.trans e1)
    exact e2.fr
  have q2 : qv g ≤ qv s := by
    have := fun h' => h ((cmp_lt hsf hg).2 h')
    grind
  have hsub : ((l.filter c).map fun k => qv (xs.getD k (0, 1))).Sublist ((byIdx xs l).map qv) := by
    unfold byIdx
    rw [List.map_map]
    exact List.Sublist.map _ List.filter_sublist
  have hperm : ((l.filter c).map fun k => qv (xs.getD k (0, 1))).Perm ((chosen xs c xs.length).map qv) := by
    unfold chosen
    rw [List.map_map]
    exact (hl.filter c).map _
  have hdesc : ((byIdx xs l).map qv).Pairwise (fun a b => b ≤ a) := by
    unfold byIdx
    rw [List.map_map]
    refine List.pairwise_map.2 (hs.imp fun {a b} hab => ?_)
    rcases hab with hab | ⟨hab, -⟩
    · simp only [Function.comp_apply]; grind
    · simp only [Function.comp_apply]; grind
  have q3 := sumQ_sub hsub hdesc (fun x hx => by obtain ⟨y, -, rfl⟩ := List.mem_map.1 hx; exact qv_nonneg y)
  rw [sumQ_perm hperm, hperm.length_eq, List.length_map] at q3
  have := k2 (by rw [qv_0] at q1 ⊢; grind) (by rw [hlen]; exact chosen_len xs c xs.length)
  omega
end Go.Proofs.YtkggfeemjabdeaaGreatDoor.Wc
end
