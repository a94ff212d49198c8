/- Fractions as rational numbers; sums, sums of quotients. Share and Sum. WeightBayes: the mathematics. Update, as a law uses it. WeightBayes: the law returns true. -/
import Derived.Test.YtkggfeemjabdeaaGreatDoorPa30
import Derived.Test.YtkggfeemjabdeaaGreatDoorPa31
section
namespace Go.Proofs.YtkggfeemjabdeaaGreatDoor.Wc
open Go

/-- The number that a fraction is. -/
def qv (x : Nat × Nat) : Rat := (x.1 : Rat) / (x.2 : Rat)
theorem natR_ne {n : Nat} (h : 0 < n) : (n : Rat) ≠ 0 := fun e => by
  have : ((n : Nat) : Rat) = ((0 : Nat) : Rat) := by rw [e]; rfl
  have := Rat.natCast_inj.1 this
  omega
theorem qv_low {n d : Nat} (hd : 0 < d) : qv (low n d) = (n : Rat) / (d : Rat) := by
  have h := low_val n d
  have p := (low_fr (n := n) hd).pos
  generalize low n d = y at *
  have h2 : ((y.1 : Nat) : Rat) * (d : Rat) = (n : Rat) * (y.2 : Rat) := by
    rw [← Rat.natCast_mul, ← Rat.natCast_mul, h]
  have n1 := natR_ne hd; have n2 := natR_ne p
  unfold qv
  generalize ((y.1 : Nat) : Rat) = a at *
  generalize ((y.2 : Nat) : Rat) = b at *
  generalize ((n : Nat) : Rat) = c at *
  generalize ((d : Nat) : Rat) = e at *
  grind
theorem qv_inj {x y : Nat × Nat} (hx : Fr x) (hy : Fr y) (h : qv x = qv y) : x = y := by
  refine fr_uniq hx hy ?_
  have n1 := natR_ne hx.pos; have n2 := natR_ne hy.pos
  unfold qv at h
  have : ((x.1 * y.2 : Nat) : Rat) = ((y.1 * x.2 : Nat) : Rat) := by
    rw [Rat.natCast_mul, Rat.natCast_mul]
    generalize ((x.1 : Nat) : Rat) = a at *
    generalize ((x.2 : Nat) : Rat) = b at *
    generalize ((y.1 : Nat) : Rat) = c at *
    generalize ((y.2 : Nat) : Rat) = e at *
    grind
  exact Rat.natCast_inj.1 this
theorem qv_add {x y : Nat × Nat} (hx : Fr x) (hy : Fr y) : qv (addF x y) = qv x + qv y := by
  unfold addF
  rw [qv_low (Nat.mul_pos hx.pos hy.pos)]
  have n1 := natR_ne hx.pos; have n2 := natR_ne hy.pos
  unfold qv
  simp only [Rat.natCast_add, Rat.natCast_mul]
  generalize ((x.1 : Nat) : Rat) = a at *
  generalize ((x.2 : Nat) : Rat) = b at *
  generalize ((y.1 : Nat) : Rat) = c at *
  generalize ((y.2 : Nat) : Rat) = e at *
  grind
theorem qv_mul {x y : Nat × Nat} (hx : Fr x) (hy : Fr y) : qv (mulF x y) = qv x * qv y := by
  unfold mulF
  rw [qv_low (Nat.mul_pos hx.pos hy.pos)]
  have n1 := natR_ne hx.pos; have n2 := natR_ne hy.pos
  unfold qv
  simp only [Rat.natCast_mul]
  generalize ((x.1 : Nat) : Rat) = a at *
  generalize ((x.2 : Nat) : Rat) = b at *
  generalize ((y.1 : Nat) : Rat) = c at *
  generalize ((y.2 : Nat) : Rat) = e at *
  grind
theorem fr_swap {y : Nat × Nat} (hy : Fr y) (h0 : 0 < y.1) : Fr (y.2, y.1) := ⟨h0, by have := hy.cop; rw [Nat.gcd_comm] at this; exact this⟩
theorem qv_div {x y : Nat × Nat} (hx : Fr x) (hy : Fr y) (h0 : 0 < y.1) : qv (divF x y) = qv x / qv y := by
  unfold divF
  rw [qv_mul hx (fr_swap hy h0)]
  have n1 := natR_ne hx.pos; have n2 := natR_ne hy.pos; have n3 := natR_ne h0
  unfold qv
  simp only
  generalize ((x.1 : Nat) : Rat) = a at *
  generalize ((x.2 : Nat) : Rat) = b at *
  generalize ((y.1 : Nat) : Rat) = c at *
  generalize ((y.2 : Nat) : Rat) = e at *
  grind
theorem qv_zero {x : Nat × Nat} (hx : Fr x) : qv x = 0 ↔ x.1 = 0 := by
  constructor
  · intro h
    rcases Nat.eq_zero_or_pos x.1 with h0 | h0
    · exact h0
    · exfalso
      have n1 := natR_ne h0; have n2 := natR_ne hx.pos
      unfold qv at h
      generalize ((x.1 : Nat) : Rat) = a at *
      generalize ((x.2 : Nat) : Rat) = b at *
      grind
  · intro h; unfold qv; rw [h]; grind
theorem qv_ne {x : Nat × Nat} (hx : Fr x) (h0 : 0 < x.1) : qv x ≠ 0 := fun h => by have := (qv_zero hx).1 h; omega
theorem divF_fr' {x y : Nat × Nat} (hx : Fr x) (hy : Fr y) (h0 : 0 < y.1) : Fr (divF x y) := mulF_fr hx (fr_swap hy h0)
theorem Sm.div {k l m : Nat} {x y : Nat × Nat} (hx : Sm k x) (hy : Sm l y) (h0 : 0 < y.1) (hm : m = k + l) : Sm m (divF x y) := hx.mul (y := (y.2, y.1)) ⟨fr_swap hy.fr h0, hy.d, hy.n⟩ hm
theorem Sm.mono {k l : Nat} {x : Nat × Nat} (h : Sm k x) (hk : k ≤ l) : Sm l x := ⟨h.fr, Nat.lt_of_lt_of_le h.n (Nat.pow_le_pow_right (by decide) hk), Nat.lt_of_lt_of_le h.d (Nat.pow_le_pow_right (by decide) hk)⟩
theorem qv_0 : qv (0, 1) = 0 := by unfold qv; grind
theorem qv_1 : qv (1, 1) = 1 := by unfold qv; grind
theorem sm_zero : Sm 1 (0, 1) := ⟨⟨by decide, by decide⟩, by decide, by decide⟩
theorem sm_one : Sm 1 (1, 1) := ⟨⟨by decide, by decide⟩, by decide, by decide⟩
theorem fr_zero {x : Nat × Nat} (hx : Fr x) (h : x.1 = 0) : x = (0, 1) := qv_inj hx sm_zero.fr (by rw [(qv_zero hx).2 h, qv_0])
/-- Sums of quotients by the same number. -/
theorem addF_divF {p x d : Nat × Nat} (hp : Fr p) (hx : Fr x) (hd : Fr d) (h0 : 0 < d.1) : addF (divF p d) (divF x d) = divF (addF p x) d := by
  refine qv_inj (addF_fr (divF_fr' hp hd h0) (divF_fr' hx hd h0)) (divF_fr' (addF_fr hp hx) hd h0) ?_
  rw [qv_add (divF_fr' hp hd h0) (divF_fr' hx hd h0), qv_div hp hd h0, qv_div hx hd h0, qv_div (addF_fr hp hx) hd h0, qv_add hp hx]
  have := qv_ne hd h0
  grind
theorem divF_zero {d : Nat × Nat} (hd : Fr d) (h0 : 0 < d.1) : divF (0, 1) d = (0, 1) := by
  refine qv_inj (divF_fr' sm_zero.fr hd h0) sm_zero.fr ?_
  rw [qv_div sm_zero.fr hd h0]
  rw [qv_0]; grind
theorem divF_self {d : Nat × Nat} (hd : Fr d) (h0 : 0 < d.1) : divF d d = (1, 1) := by
  refine qv_inj (divF_fr' hd hd h0) sm_one.fr ?_
  rw [qv_div hd hd h0]
  rw [qv_1]; have := qv_ne hd h0; grind
theorem divF_one {x : Nat × Nat} (hx : Fr x) : divF x (1, 1) = x := by
  refine qv_inj (divF_fr' hx sm_one.fr (by decide)) hx ?_
  rw [qv_div hx sm_one.fr (by decide)]
  rw [qv_1]; grind
theorem divF_divF {x s d : Nat × Nat} (hx : Fr x) (hs : Fr s) (hd : Fr d) (s0 : 0 < s.1) (h0 : 0 < d.1) (h1 : 0 < (divF s d).1) : divF (divF x d) (divF s d) = divF x s := by
  refine qv_inj (divF_fr' (divF_fr' hx hd h0) (divF_fr' hs hd h0) h1) (divF_fr' hx hs s0) ?_
  rw [qv_div (divF_fr' hx hd h0) (divF_fr' hs hd h0) h1, qv_div hx hd h0, qv_div hs hd h0, qv_div hx hs s0]
  have := qv_ne hd h0; have := qv_ne hs s0
  grind
theorem divF_pos {s d : Nat × Nat} (hs : Fr s) (hd : Fr d) (h0 : 0 < d.1) : 0 < (divF s d).1 ↔ 0 < s.1 := by
  have k := qv_div hs hd h0
  have e1 := qv_zero (divF_fr' hs hd h0); have e2 := qv_zero hs
  have n1 := qv_ne hd h0
  constructor
  · intro h
    rcases Nat.eq_zero_or_pos s.1 with h' | h'
    · rw [e2.2 h'] at k
      have : qv (divF s d) = 0 := by rw [k]; grind
      rw [e1.1 this] at h; omega
    · exact h'
  · intro h
    rcases Nat.eq_zero_or_pos (divF s d).1 with h' | h'
    · rw [e1.2 h'] at k
      have : qv s = 0 := by grind
      rw [e2.1 this] at h; omega
    · exact h'
theorem mulF_divF {x y d : Nat × Nat} (hx : Fr x) (hy : Fr y) (hd : Fr d) (h0 : 0 < d.1) : mulF (divF x d) y = divF (mulF x y) d := by
  refine qv_inj (mulF_fr (divF_fr' hx hd h0) hy) (divF_fr' (mulF_fr hx hy) hd h0) ?_
  rw [qv_mul (divF_fr' hx hd h0) hy, qv_div hx hd h0, qv_div (mulF_fr hx hy) hd h0, qv_mul hx hy]
  have := qv_ne hd h0
  grind
theorem mulF_assoc {x y z : Nat × Nat} (hx : Fr x) (hy : Fr y) (hz : Fr z) : mulF (mulF x y) z = mulF x (mulF y z) := by
  refine qv_inj (mulF_fr (mulF_fr hx hy) hz) (mulF_fr hx (mulF_fr hy hz)) ?_
  rw [qv_mul (mulF_fr hx hy) hz, qv_mul hx hy, qv_mul hx (mulF_fr hy hz), qv_mul hy hz]; grind
theorem mulF_right_comm {x y z : Nat × Nat} (hx : Fr x) (hy : Fr y) (hz : Fr z) : mulF (mulF x y) z = mulF (mulF x z) y := by
  refine qv_inj (mulF_fr (mulF_fr hx hy) hz) (mulF_fr (mulF_fr hx hz) hy) ?_
  rw [qv_mul (mulF_fr hx hy) hz, qv_mul hx hy, qv_mul (mulF_fr hx hz) hy, qv_mul hx hz]; grind
theorem mulF_back {s d : Nat × Nat} (hs : Fr s) (hd : Fr d) (h0 : 0 < d.1) : mulF d (divF s d) = s := by
  refine qv_inj (mulF_fr hd (divF_fr' hs hd h0)) hs ?_
  rw [qv_mul hd (divF_fr' hs hd h0), qv_div hs hd h0]
  have := qv_ne hd h0
  grind
theorem mulF_zero {x y : Nat × Nat} (hx : Fr x) (hy : Fr y) (h : x.1 = 0) : (mulF x y).1 = 0 := by
  refine (qv_zero (mulF_fr hx hy)).1 ?_
  rw [qv_mul hx hy, (qv_zero hx).2 h]; grind
/-- Sums of small fractions, as they are and divided by the same number. -/
theorem sum_sm {k : Nat} : ∀ (xs : List (Nat × Nat)) (l : Nat) (p : Nat × Nat), (∀ x ∈ xs, Sm k x) → Sm l p → l + xs.length * (k + 1) ≤ 600 → ∃ s, sumO xs p = some s ∧ Sm (l + xs.length * (k + 1)) s
  | [], l, p, _, hp, _ => ⟨p, rfl, by simpa using hp⟩
  | x :: xs, l, p, hx, hp, hl => by
    have h1 := hp.add (hx x (by simp)) (m := l + k + 1) rfl
    have e : l + (x :: xs).length * (k + 1) = l + k + 1 + xs.length * (k + 1) := by simp only [List.length_cons, Nat.succ_mul]; omega
    rw [e] at hl ⊢
    obtain ⟨s, h2, h3⟩ := sum_sm xs (l + k + 1) (addF p x) (fun y hy => hx y (by simp [hy])) h1 hl
    exact ⟨s, by rw [sumO_yes (h1.fits (by omega))]; exact h2, h3⟩
theorem sumO_nil (s : Nat × Nat) : sumO [] s = some s := rfl
theorem sum_div {k ld : Nat} {d : Nat × Nat} (hd : Sm ld d) (h0 : 0 < d.1) (xs : List (Nat × Nat)) (l : Nat) (p s : Nat × Nat) (hx : ∀ x ∈ xs, Sm k x) (hp : Sm l p) (hl : l + xs.length * (k + 1) + ld ≤ 600) (h : sumO xs p = some s) : sumO (xs.map (divF · d)) (divF p d) = some (divF s d) := by
  induction xs generalizing l p with
  | nil => rw [sumO_nil] at h; injection h with h; rw [h]; exact sumO_nil _
  | cons x xs ih =>
    have hxx := hx x (by simp)
    have h1 := hp.add hxx (m := l + k + 1) rfl
    have e : l + (x :: xs).length * (k + 1) = l + k + 1 + xs.length * (k + 1) := by simp only [List.length_cons, Nat.succ_mul]; omega
    rw [e] at hl
    rw [sumO_yes (h1.fits (by omega))] at h
    have h2 := ih (l + k + 1) (addF p x) (fun y hy => hx y (by simp [hy])) h1 (by omega) h
    have e2 := addF_divF hp.fr hxx.fr hd.fr h0
    rw [List.map_cons, sumO_yes (by rw [e2]; exact (h1.div hd h0 rfl).fits (by omega)), e2]
    exact h2
theorem low_zero {n d : Nat} (hd : 0 < d) : (low n d).1 = 0 ↔ n = 0 := by
  have h := low_val n d
  have p := (low_fr (n := n) hd).pos
  constructor
  · intro h0; rw [h0, Nat.zero_mul] at h
    rcases Nat.mul_eq_zero.1 h.symm with h | h
    · exact h
    · omega
  · intro h0; rw [h0, Nat.zero_mul] at h
    rcases Nat.mul_eq_zero.1 h with h | h
    · rw [h0]; exact h
    · omega
theorem addF_pos {x y : Nat × Nat} (hx : Fr x) (hy : Fr y) : (addF x y).1 = 0 ↔ x.1 = 0 ∧ y.1 = 0 := by
  unfold addF
  rw [low_zero (Nat.mul_pos hx.pos hy.pos), Nat.add_eq_zero_iff, Nat.mul_eq_zero, Nat.mul_eq_zero]
  have := hx.pos; have := hy.pos
  omega
theorem sum_zero {k : Nat} (xs : List (Nat × Nat)) (p s : Nat × Nat) (hx : ∀ x ∈ xs, Sm k x) (hp : Fr p) (h : sumO xs p = some s) : s.1 = 0 ↔ p.1 = 0 ∧ ∀ x ∈ xs, x.1 = 0 := by
  induction xs generalizing p with
  | nil => rw [sumO_nil] at h; injection h with h; subst h; simp
  | cons x xs ih =>
    have hxx := hx x (by simp)
    cases hf : fitsF (addF p x) with
    | false => rw [sumO_no hf] at h; cases h
    | true =>
      rw [sumO_yes hf] at h
      rw [ih (addF p x) (fun y hy => hx y (by simp [hy])) (addF_fr hp hxx.fr) h, addF_pos hp hxx.fr]
      simp [and_assoc]
theorem parts_sm {k : Nat} {ps : List P2} (hall : ∀ p ∈ ps, okP p = true) (hsh : ∀ p ∈ ps, p.1.size ≤ k ∧ p.2.size ≤ k) : ∀ x ∈ ps.map pv, Sm k x := by
  intro x hx
  obtain ⟨p, hp, rfl⟩ := List.mem_map.1 hx
  exact sm_of (hall p hp) (hsh p hp).1 (hsh p hp).2
theorem openLS_yes {ps : List P2} (hl : ps.length ≤ 512) (hall : ∀ p ∈ ps, okP p = true) : openLS ps = 0 := by
  unfold openLS
  rw [if_neg (by omega), if_pos (List.all_eq_true.2 hall)]
theorem openLS_no {ps : List P2} (hl : ps.length ≤ 512) (h : openLS ps ≠ 0) : openLS ps = 2 := by
  unfold openLS at h ⊢
  rw [if_neg (by omega)] at h ⊢
  split
  · rename_i h1; rw [if_pos h1] at h; exact absurd rfl h
  · rfl
/-- The parts of fractions. -/
def pts (l : List (Nat × Nat)) : List P2 := l.map ptOf
theorem pts_len (l : List (Nat × Nat)) : (pts l).length = l.length := by simp [pts]
theorem pts_pv (l : List (Nat × Nat)) : (pts l).map pv = l := by
  unfold pts
  rw [List.map_map]
  have : (pv ∘ ptOf) = id := by funext x; exact pv_pt x
  rw [this, List.map_id]
theorem pts_ok {k : Nat} (hk : k ≤ 600) {l : List (Nat × Nat)} (h : ∀ x ∈ l, Sm k x) : ∀ p ∈ pts l, okP p = true := by
  intro p hp
  obtain ⟨x, hx, rfl⟩ := List.mem_map.1 hp
  exact pt_ok (h x hx) hk
theorem short_of_ok {ps : List P2} (h : ∀ p ∈ ps, okP p = true) : ∀ p ∈ ps, Short p := by
  intro p hp
  obtain ⟨h1, h2⟩ := okP_nt (h p hp)
  exact ⟨Nat.le_trans (isNt_parts h1).1 (by decide), Nat.le_trans (isNt_parts h2).1 (by decide)⟩
/-- The shares of small fractions. -/
theorem divs_sm {k l m : Nat} {xs : List (Nat × Nat)} {s : Nat × Nat} (hx : ∀ x ∈ xs, Sm k x) (hs : Sm l s) (h0 : 0 < s.1) (hm : m = k + l) : ∀ y ∈ xs.map (divF · s), Sm m y := by
  intro y hy
  obtain ⟨x, hxx, rfl⟩ := List.mem_map.1 hy
  exact (hx x hxx).div hs h0 hm
theorem okD_sm {k l : Nat} {xs : List (Nat × Nat)} {s : Nat × Nat} (hx : ∀ x ∈ xs, Sm k x) (hs : Sm l s) (h0 : 0 < s.1) (hm : k + l ≤ 600) : okD xs s = true :=
  List.all_eq_true.2 fun y hy => (divs_sm hx hs h0 rfl y hy).fits hm
theorem divE_zero {xs : List (Nat × Nat)} {s : Nat × Nat} (h : sumO xs (0, 1) = some s) (h0 : s.1 = 0) : divE xs = 7 := by
  unfold divE; rw [h]; simp only; rw [if_pos h0]
theorem divE_ok {xs : List (Nat × Nat)} {s : Nat × Nat} (h : sumO xs (0, 1) = some s) (h0 : s.1 ≠ 0) (hd : okD xs s = true) : divE xs = 0 := by
  unfold divE; rw [h]; simp only; rw [if_neg h0, if_pos hd]
theorem partCells_get : ∀ (l : List (Nat × Nat)) (i : Nat) (h : i < l.length), (partCells l)[i * 2]? = some (.string (dec l[i].1)) ∧ (partCells l)[i * 2 + 1]? = some (.string (dec l[i].2))
  | [], i, h => absurd h (Nat.not_lt_zero _)
  | x :: l, 0, _ => ⟨rfl, rfl⟩
  | x :: l, i + 1, h => by
    have k := partCells_get l i (by simpa using h)
    have e1 : (i + 1) * 2 = i * 2 + 1 + 1 := by omega
    rw [e1]
    exact k
/-- A row of parts, as a slice of parts. -/
theorem partL_of_owns {w : World} {base : Nat} {v : Value} {l : List (Nat × Nat)} (h : w.ownsRow base 24 2 v l.length (partCells l)) (hl : l.length ≤ 1000) : PartL w v (pts l) := by
  rcases h.2 with ⟨h1, h2⟩ | ⟨g, cap, cur, h1, h2, h3, h4⟩
  · have : l = [] := List.eq_nil_of_length_eq_zero h2
    subst this
    exact .inl ⟨⟨_, _, h1⟩, rfl⟩
  · refine .inr ⟨g, 0, cap, by rw [pts_len]; exact h1, by rw [pts_len]; exact h4.1, h4.2.1, (Array.getElem?_eq_some_iff.1 h3).1, fun i hi => ?_⟩
    rw [pts_len] at hi
    obtain ⟨k1, k2⟩ := partCells_get l i hi
    have hp : (pts l)[i]'(by rw [pts_len]; exact hi) = ptOf l[i] := by simp [pts]
    have at_ : ∀ j, j < l.length * 2 → cur[j]? = (partCells l)[j]? := fun j hj => by
      rw [← h4.2.2.2, List.getElem?_take, if_pos hj, Array.getElem?_toList]
    rw [hp, set_cells h3, set_cells h3, Nat.zero_add, at_ _ (by omega), at_ _ (by omega)]
    exact ⟨k1, k2⟩
end Go.Proofs.YtkggfeemjabdeaaGreatDoor.Wc
end
section
namespace Go.Proofs.YtkggfeemjabdeaaGreatDoor.Wc
open Go Go.Proofs.YtkggfeemjabdeaaGreatDoor.Sx Go.RowKit

/-- The error that Share returns. -/
def shrE (ps : List P2) : Int := if openLS ps ≠ 0 then openLS ps else divE (ps.map pv)
/-- What Share comes to. -/
def ShareQ (ps : List P2) (w : World) (e : Ending) (w' : World) : Prop :=
  Below w.heap.size w w' ∧ (shrE ps = 0 → ∃ s v' base, sumO (ps.map pv) (0, 1) = some s ∧ w.heap.size ≤ base ∧ e = .returned (.tuple #[v', .int .i64 0]) ∧ w'.ownsRow base 24 2 v' ps.length (partCells ((ps.map pv).map (divF · s)))) ∧
    (shrE ps ≠ 0 → e = .returned (.tuple #[.slice none 0 0, .int .i64 (shrE ps)]))

set_option maxRecDepth 100000 in
set_option maxHeartbeats 2000000 in
theorem Share_any (ps : List P2) (v : Value) (w : World) (h : PartL w v ps) (hs : ∀ p ∈ ps, Short p) (ht : Tens w) :
    Calls Tryz.prog 16 #[v] w (ShareQ ps w) := by
  have hcall := openList_any ps v w h hs ht
  obtain ⟨a, cap, rfl⟩ := h.shape
  have HC := Lib.hid hcall; have HT := Lib.hid ht
  clear hcall h hs ht
  go_enter Tryz.func16, Tryz.ntmps16
  go_wp2_with fail
  refine HC.out.mono ?_
  rintro e w2 ⟨g0, g1, g2⟩
  have HB2 := Lib.hid g0; have G1 := Lib.hid g1; have G2 := Lib.hid g2
  clear g0 g1 g2 HC
  by_cases hm : openLS ps = 0
  · obtain ⟨u, rfl, hu⟩ := G1.out hm
    clear G1 G2
    obtain ⟨rfl, cs, hx⟩ := hu
    rw [List.length_map] at hx
    have hd := divideUp_any w.heap.size ps.length (ps.map pv) cs w2 (hx.sub (fun c h _ => by omega) (fun h => h rfl)) (by rw [List.length_map]) (frt_all hm) (openLS_ok hm).1 (fun j hj => cell_later HB2.out (HT.out j hj))
    have hz : shrE ps = divE (ps.map pv) := if_neg (fun h => h hm)
    have HD := Lib.hid hd; have HZ := Lib.hid hz
    clear hd hx hm hz
    rw [List.length_map]
    go_wp2_with fail
    refine HD.out.mono ?_
    rintro e w3 ⟨g0, g1, g2⟩
    have HB3 := Lib.hid (HB2.out.trans (g0.mono HB2.out.size)); have G1 := Lib.hid g1; have G2 := Lib.hid g2
    clear g0 g1 g2 HD
    by_cases hd : divE (ps.map pv) = 0
    · obtain ⟨s, v', base, hs, hbase, rfl, hrow⟩ := G1.out hd
      have HS := Lib.hid hs; have HROW := Lib.hid hrow; have HZ2 := Lib.hid (HZ.out.trans hd); have HBA := Lib.hid hbase
      clear G1 G2 hd hs hrow hbase
      generalize hd1 : dec s.1 = d1
      generalize hd2 : dec s.2 = d2
      clear hd1 hd2
      go_wp2_with fail
      refine bodyPost_ret (v := .tuple #[v', .int .i64 0]) (by simp [results, Tryz.results16, go_sem]) rfl ⟨HB3.out.alloc HB3.out.size _, (fun _ => ⟨s, v', base, HS.out, by have := HB2.out.size; have := HBA.out; omega, rfl, ?_⟩), fun h => absurd HZ2.out h⟩
      have h := HROW.out
      rw [List.length_map] at h
      exact owns_below h ((Below.refl _ _).alloc (Nat.le_refl _) _)
    · have hr := G2.out hd
      subst hr
      have HND := Lib.hid hd
      clear G1 G2 hd
      have HZ3 := HZ
      generalize hzz : divE (ps.map pv) = z at *
      unfold noPart
      go_wp2_with fail
      refine bodyPost_ret (v := .tuple #[.slice none 0 0, .int .i64 z]) (by simp [results, Tryz.results16, go_sem]) rfl ⟨HB3.out.alloc HB3.out.size _, (fun h => absurd (HZ.out.symm.trans h) HND.out), fun _ => by rw [HZ.out]⟩
  · have hr := G2.out hm
    subst hr
    have hz : shrE ps = openLS ps := if_pos hm
    have hne : ((openLS ps) != 0) = true := bne_iff_ne.2 hm
    have HZ := Lib.hid hz; have HM := Lib.hid hm
    clear G1 G2 hz hm
    generalize hzz : openLS ps = z at *
    go_wp2_with fail
    refine bodyPost_ret (v := .tuple #[.slice none 0 0, .int .i64 z]) (by simp [results, Tryz.results16, go_sem]) rfl ⟨HB2.out, (fun h => absurd (HZ.out.symm.trans h) HM.out), fun _ => by rw [HZ.out]⟩

/-- What Sum answers. -/
def sumS (ps : List P2) : P2 × Int := if openLS ps ≠ 0 then (emptyP, openLS ps) else match sumO (ps.map pv) (0, 1) with
  | none => (emptyP, 4)
  | some s => ((dec s.1, dec s.2), 0)

set_option maxRecDepth 100000 in
set_option maxHeartbeats 2000000 in
theorem sum1_clo (B n p : Nat) (xs : List (Nat × Nat)) (cs : Array Value) (w : World) (hx : Rats (· ≠ B) w B n xs cs) (hxn : xs.length = n) (hxf : ∀ r ∈ xs, FrT r) (hn : n ≤ 512) (ht : Tens w) (hp : w.cell? ⟨p, 0, none⟩ = some (.slice (some ⟨B, 0, none⟩) n n)) :
    Calls Tryz.prog 58 #[.pointer (some ⟨p, 0, none⟩)] w fun e w' => Below w.heap.size w w' ∧ (∀ s, sumO xs (0, 1) = some s → e = .returned (.agg #[.string (dec s.1), .string (dec s.2)])) ∧ (sumO xs (0, 1) = none → e = .panicked [{ v := errV4, recovered := false }]) := by
  obtain ⟨W1, hW1⟩ : ∃ W, W = w.alloc (.cells #[.string ⟨#[]⟩, .string ⟨#[]⟩] 24) := ⟨_, rfl⟩
  have b01 : Below w.heap.size w W1 := by rw [hW1]; exact (Below.refl _ _).alloc (Nat.le_refl _) _
  have e1 : W1.heap[w.heap.size]? = some (.cells #[.string ⟨#[]⟩, .string ⟨#[]⟩] 24 (0, 0)) := by rw [hW1]; exact Go.Deep.blk_alloc_new _ _
  have l1 : w.heap.size < W1.heap.size := (Array.getElem?_eq_some_iff.1 e1).1
  have hBl := hx.lt
  have hcall := total_any (fun c => c ≠ B ∧ c ≠ w.heap.size) B n xs cs W1 (fun c hc => ⟨by omega, by omega⟩) ((hx.sub (fun c h h' => ⟨h, by omega⟩) (fun h => h.1 rfl)).below b01) hxn hxf hn (fun j hj => cell_later b01 (ht j hj))
  have hpl : p < w.heap.size := by
    cases e : w.heap[p]? with
    | none => simp [World.cell?, e] at hp
    | some _ => exact (Array.getElem?_eq_some_iff.1 e).1
  have HC := Lib.hid hcall; have HT := Lib.hid ht; have HW1 := Lib.hid hW1; have HB1 := Lib.hid b01; have HE1 := Lib.hid e1
  clear hcall hx hxf ht hBl hW1 b01 e1
  go_enter Tryz.func58, Tryz.ntmps58
  go_wp2_with fail
  rw [← HW1.out]
  refine HC.out.mono ?_
  rintro e w3 ⟨hb3, g1, g2⟩
  have HB3 := Lib.hid (HB1.out.trans (hb3.mono HB1.out.size)); have HB13 := Lib.hid hb3; have G1 := Lib.hid g1; have G2 := Lib.hid g2
  have r3 := (hb3.block _ l1).trans HE1.out
  clear hb3 g1 g2 HC hp
  generalize hoo : sumO xs (0, 1) = o at *
  have HOO := Lib.hid hoo
  cases o with
  | none =>
    obtain rfl := G2.out rfl
    clear G1 G2
    go_wp2_with fail
    exact ⟨rfl, HB3.out, (fun r h => by rw [HOO.out] at h; cases h), fun _ => rfl⟩
  | some r =>
    obtain ⟨hr, e1, e2, rfl, hv⟩ := G1.out r rfl
    clear G1 G2
    obtain ⟨p1, l1', c1, e1⟩ := nat_slice hv.n
    obtain ⟨p2, l2', c2, e2⟩ := nat_slice hv.d
    subst e1 e2
    have hpart := part_rat r _ _ w3 hv.n hv.d hr (fun j hj => cell_later HB3.out (HT.out j hj))
    have R3 := Lib.hid r3; have HP := Lib.hid hpart
    clear hr hv r3 hpart hoo
    go_wp2_with fail
    refine HP.out.mono ?_
    rintro e w4 ⟨rfl, hb4⟩
    have hl3 : w.heap.size < w3.heap.size := (Array.getElem?_eq_some_iff.1 R3.out).1
    have r4 := (hb4.block _ hl3).trans R3.out
    have q0 := set_cells r4 0; have q1 := set_cells r4 1
    simp only [List.getElem?_toArray, List.getElem?_cons_zero, List.getElem?_cons_succ] at q0 q1
    have f0 : w4.frozen? ⟨w.heap.size, 0, none⟩ = false := by simp [World.frozen?, r4]
    have f1 : w4.frozen? ⟨w.heap.size, 1, none⟩ = false := by simp [World.frozen?, r4]
    have HB4 := Lib.hid (HB3.out.trans (hb4.mono HB3.out.size)); have R4 := Lib.hid r4
    clear hb4 r4 HP
    generalize hd1 : dec r.1 = d1
    generalize hd2 : dec r.2 = d2
    have HD1 := Lib.hid hd1; have HD2 := Lib.hid hd2
    clear hd1 hd2
    go_wp2_with fail
    have g0 := heap_setCell_same w4 w.heap.size 0 _ _ (.string d1) R4.out
    have g1 := heap_setCell_same _ w.heap.size 1 _ _ (.string d2) g0
    simp only [List.setIfInBounds_toArray, List.set_cons_zero, List.set_cons_succ] at g1
    have t0 := set_cells g1 0; have t1 := set_cells g1 1
    simp only [List.getElem?_toArray, List.getElem?_cons_zero, List.getElem?_cons_succ] at t0 t1
    have hbz := (HB4.out.setCell (p := ⟨w.heap.size, 0, none⟩) (Nat.le_refl _) (.string d1)).setCell (p := ⟨w.heap.size, 1, none⟩) (Nat.le_refl _) (.string d2)
    refine bodyPost_ret (v := .agg #[.string d1, .string d2]) (by simp [results, t0, t1, Tryz.results58, go_sem]) rfl ⟨hbz, (fun s h => ?_), fun h => by rw [HOO.out] at h; cases h⟩
    rw [HOO.out] at h
    obtain rfl := Option.some.inj h
    rw [HD1.out, HD2.out]

set_option maxRecDepth 100000 in
set_option maxHeartbeats 2000000 in
theorem Sum_any (ps : List P2) (v : Value) (w : World) (h : PartL w v ps) (hs : ∀ p ∈ ps, Short p) (ht : Tens w) :
    Calls Tryz.prog 19 #[v] w fun e w' => e = .returned (retV (sumS ps)) ∧ Below w.heap.size w w' := by
  obtain ⟨W1, hW1⟩ : ∃ W, W = w.alloc (.cells #[.string ⟨#[]⟩, .string ⟨#[]⟩] 24) := ⟨_, rfl⟩
  have b01 : Below w.heap.size w W1 := by rw [hW1]; exact (Below.refl _ _).alloc (Nat.le_refl _) _
  have e1 : W1.heap[w.heap.size]? = some (.cells #[.string ⟨#[]⟩, .string ⟨#[]⟩] 24 (0, 0)) := by rw [hW1]; exact Go.Deep.blk_alloc_new _ _
  have l1 : w.heap.size < W1.heap.size := (Array.getElem?_eq_some_iff.1 e1).1
  have hcall := openList_any ps v W1 (h.below b01) hs (fun j hj => cell_later b01 (ht j hj))
  obtain ⟨a, cap, rfl⟩ := h.shape
  have HC := Lib.hid hcall; have HT := Lib.hid ht; have HW1 := Lib.hid hW1; have HB1 := Lib.hid b01; have HE1 := Lib.hid e1
  clear hcall h hs ht hW1 b01 e1
  go_enter Tryz.func19, Tryz.ntmps19
  go_wp2_with fail
  rw [← HW1.out]
  refine HC.out.mono ?_
  rintro e w2 ⟨g0, g1, g2⟩
  have HB2 := Lib.hid (HB1.out.trans (g0.mono HB1.out.size)); have G1 := Lib.hid g1; have G2 := Lib.hid g2
  have p2 := (g0.block _ l1).trans HE1.out
  have q0 := set_cells p2 0; have q1 := set_cells p2 1
  simp only [List.getElem?_toArray, List.getElem?_cons_zero, List.getElem?_cons_succ] at q0 q1
  have f0 : w2.frozen? ⟨w.heap.size, 0, none⟩ = false := by simp [World.frozen?, p2]
  have f1 : w2.frozen? ⟨w.heap.size, 1, none⟩ = false := by simp [World.frozen?, p2]
  have hl2 : w.heap.size < w2.heap.size := (Array.getElem?_eq_some_iff.1 p2).1
  have HP2 := Lib.hid p2
  clear g0 g1 g2 HC p2
  by_cases hm : openLS ps = 0
  · obtain ⟨u, rfl, hu⟩ := G1.out hm
    clear G1 G2
    obtain ⟨rfl, cs, hx⟩ := hu
    rw [List.length_map] at hx ⊢
    obtain ⟨w3, hw3⟩ : ∃ W, W = w2.alloc (.cells #[.slice (some ⟨W1.heap.size, 0, none⟩) ps.length ps.length] 85) := ⟨_, rfl⟩
    have b23 : Below w2.heap.size w2 w3 := by rw [hw3]; exact (Below.refl _ _).alloc (Nat.le_refl _) _
    have e3 : w3.heap[w2.heap.size]? = some (.cells #[.slice (some ⟨W1.heap.size, 0, none⟩) ps.length ps.length] 85 (0, 0)) := by rw [hw3]; exact Go.Deep.blk_alloc_new _ _
    have hx3 := (hx.sub (A' := (· ≠ W1.heap.size)) (fun c h _ => by omega) (fun h => h rfl)).below b23
    have hp3 := (b23.block _ hl2).trans HP2.out
    have hb03 := HB2.out.trans (b23.mono HB2.out.size)
    have hle := openLS_ok hm
    obtain ⟨o, ho⟩ : ∃ o, sumO (ps.map pv) (0, 1) = o := ⟨_, rfl⟩
    have hat := attempt_part 58 #[.pointer (some ⟨w2.heap.size, 0, none⟩)] (enters_of Tryz.func58 (by kernel_rfl) rfl) o.isSome (dec (o.getD (0, 1)).1) (dec (o.getD (0, 1)).2) w3
      (fun W hW => by
        refine (sum1_clo W1.heap.size ps.length w2.heap.size (ps.map pv) cs W (hx3.below hW) (by rw [List.length_map]) (frt_all hm) hle.1 (fun j hj => cell_later hW (cell_later hb03 (HT.out j hj))) (cell_later hW (by rw [set_cells e3]; rfl))).mono ?_
        rintro e W' ⟨k1, k2, k3⟩
        refine ⟨k1, fun h => ?_, fun h => ?_⟩
        · obtain ⟨s, hs⟩ := Option.isSome_iff_exists.1 h
          subst hs
          exact k2 s ho
        · cases o with
          | none => exact k3 ho
          | some _ => cases h)
    have hz : sumS ps = ((if o.isSome then dec (o.getD (0, 1)).1 else ⟨#[]⟩, if o.isSome then dec (o.getD (0, 1)).2 else ⟨#[]⟩), if o.isSome then 0 else 4) := by
      unfold sumS
      rw [if_neg (fun h => h hm), ho]
      cases o <;> rfl
    have HW3 := Lib.hid hw3; have HP3 := Lib.hid hp3; have HB03 := Lib.hid hb03; have HZ := Lib.hid hz
    generalize (if o.isSome then dec (o.getD (0, 1)).1 else ⟨#[]⟩) = d1 at *
    generalize (if o.isSome then dec (o.getD (0, 1)).2 else ⟨#[]⟩) = d2 at *
    generalize (if o.isSome then (0 : Int) else 4) = z at *
    have HAT := Lib.hid hat
    clear hw3 b23 e3 hx3 hp3 hb03 hle ho hat hz hx hm q0 q1 f0 f1
    have hl3 : w.heap.size < w3.heap.size := (Array.getElem?_eq_some_iff.1 HP3.out).1
    go_wp2_with fail
    rw [← HW3.out]
    refine HAT.out.mono ?_
    rintro e w4 ⟨rfl, hb4⟩
    have p4 := (hb4.block _ hl3).trans HP3.out
    have q0 := set_cells p4 0; have q1 := set_cells p4 1
    simp only [List.getElem?_toArray, List.getElem?_cons_zero, List.getElem?_cons_succ] at q0 q1
    have f0 : w4.frozen? ⟨w.heap.size, 0, none⟩ = false := by simp [World.frozen?, p4]
    have f1 : w4.frozen? ⟨w.heap.size, 1, none⟩ = false := by simp [World.frozen?, p4]
    have HB4 := Lib.hid (HB03.out.trans (hb4.mono HB03.out.size)); have HP4 := Lib.hid p4
    clear hb4 p4 HAT
    go_wp2_with fail
    have g0 := heap_setCell_same w4 w.heap.size 0 _ _ (.string d1) HP4.out
    have g1 := heap_setCell_same _ w.heap.size 1 _ _ (.string d2) g0
    simp only [List.setIfInBounds_toArray, List.set_cons_zero, List.set_cons_succ] at g1
    have t0 := set_cells g1 0; have t1 := set_cells g1 1
    simp only [List.getElem?_toArray, List.getElem?_cons_zero, List.getElem?_cons_succ] at t0 t1
    have hbz := (HB4.out.setCell (p := ⟨w.heap.size, 0, none⟩) (Nat.le_refl _) (.string d1)).setCell (p := ⟨w.heap.size, 1, none⟩) (Nat.le_refl _) (.string d2)
    refine bodyPost_ret (v := .tuple #[.agg #[.string d1, .string d2], .int .i64 z]) (by simp [results, t0, t1, Tryz.results19, go_sem]) rfl ⟨by rw [HZ.out]; rfl, hbz⟩
  · have hr := G2.out hm
    subst hr
    have hz : sumS ps = (emptyP, openLS ps) := if_pos hm
    have hne : ((openLS ps) != 0) = true := bne_iff_ne.2 hm
    have HZ := Lib.hid hz
    clear G1 G2 hz hm
    generalize hzz : openLS ps = z at *
    go_wp2_with fail
    have g0 := heap_setCell_same w2 w.heap.size 0 _ _ (.string ⟨#[]⟩) HP2.out
    have g1 := heap_setCell_same _ w.heap.size 1 _ _ (.string ⟨#[]⟩) g0
    simp only [List.setIfInBounds_toArray, List.set_cons_zero, List.set_cons_succ] at g1
    have t0 := cell_later ((Below.refl _ _).alloc (Nat.le_refl _) (.cells #[.slice none 0 0] 85)) (set_cells g1 0)
    have t1 := cell_later ((Below.refl _ _).alloc (Nat.le_refl _) (.cells #[.slice none 0 0] 85)) (set_cells g1 1)
    have hbz := ((HB2.out.setCell (p := ⟨w.heap.size, 0, none⟩) (Nat.le_refl _) (.string ⟨#[]⟩)).setCell (p := ⟨w.heap.size, 1, none⟩) (Nat.le_refl _) (.string ⟨#[]⟩))
    have hbz2 := hbz.alloc hbz.size (.cells #[.slice none 0 0] 85)
    refine bodyPost_ret (v := .tuple #[.agg #[.string ⟨#[]⟩, .string ⟨#[]⟩], .int .i64 z]) (by simp [results, t0, t1, Tryz.results19, go_sem]) rfl ⟨by rw [HZ.out]; rfl, hbz2⟩
end Go.Proofs.YtkggfeemjabdeaaGreatDoor.Wc
end
section
namespace Go.Proofs.YtkggfeemjabdeaaGreatDoor.Wc
open Go

/-- The products of two lists of fractions. -/
def zmul (xs ys : List (Nat × Nat)) : List (Nat × Nat) := List.zipWith mulF xs ys
theorem zmul_len (xs ys : List (Nat × Nat)) : (zmul xs ys).length = min xs.length ys.length := by unfold zmul; rw [List.length_zipWith]
theorem zmul_mem {xs ys : List (Nat × Nat)} {z : Nat × Nat} (h : z ∈ zmul xs ys) : ∃ x y, x ∈ xs ∧ y ∈ ys ∧ z = mulF x y := by
  obtain ⟨i, hi⟩ := List.mem_iff_getElem?.1 h
  unfold zmul at hi
  rw [List.getElem?_zipWith] at hi
  cases e1 : xs[i]? with
  | none => rw [e1] at hi; simp at hi
  | some x =>
    cases e2 : ys[i]? with
    | none => rw [e1, e2] at hi; simp at hi
    | some y =>
      rw [e1, e2] at hi
      simp only [Option.some.injEq] at hi
      exact ⟨x, y, List.mem_of_getElem? e1, List.mem_of_getElem? e2, hi.symm⟩
theorem zmul_sm {k l m : Nat} {xs ys : List (Nat × Nat)} (hx : ∀ x ∈ xs, Sm k x) (hy : ∀ y ∈ ys, Sm l y) (hm : m = k + l) : ∀ z ∈ zmul xs ys, Sm m z := by
  intro z hz
  obtain ⟨x, y, h1, h2, rfl⟩ := zmul_mem hz
  exact (hx x h1).mul (hy y h2) hm
theorem zmul_assoc : ∀ (xs ys zs : List (Nat × Nat)), (∀ x ∈ xs, Fr x) → (∀ y ∈ ys, Fr y) → (∀ z ∈ zs, Fr z) → zmul (zmul xs ys) zs = zmul xs (zmul ys zs)
  | [], _, _, _, _, _ => by simp [zmul]
  | _ :: _, [], _, _, _, _ => by simp [zmul]
  | _ :: _, _ :: _, [], _, _, _ => by simp [zmul]
  | x :: xs, y :: ys, z :: zs, hx, hy, hz => by
    have ih := zmul_assoc xs ys zs (fun a h => hx a (by simp [h])) (fun a h => hy a (by simp [h])) (fun a h => hz a (by simp [h]))
    unfold zmul at ih ⊢
    simp only [List.zipWith_cons_cons, ih, mulF_assoc (hx x (by simp)) (hy y (by simp)) (hz z (by simp))]
theorem zmul_comm : ∀ (xs ys : List (Nat × Nat)), zmul xs ys = zmul ys xs
  | [], ys => by simp [zmul]
  | _ :: _, [] => by simp [zmul]
  | x :: xs, y :: ys => by
    have ih := zmul_comm xs ys
    unfold zmul at ih ⊢
    simp only [List.zipWith_cons_cons, ih, mulF_comm x y]
theorem zmul_div {d : Nat × Nat} (hd : Fr d) (h0 : 0 < d.1) : ∀ (xs ys : List (Nat × Nat)), (∀ x ∈ xs, Fr x) → (∀ y ∈ ys, Fr y) → zmul (xs.map (divF · d)) ys = (zmul xs ys).map (divF · d)
  | [], _, _, _ => by simp [zmul]
  | _ :: _, [], _, _ => by simp [zmul]
  | x :: xs, y :: ys, hx, hy => by
    have ih := zmul_div hd h0 xs ys (fun a h => hx a (by simp [h])) (fun a h => hy a (by simp [h]))
    unfold zmul at ih ⊢
    simp only [List.map_cons, List.zipWith_cons_cons, ih, mulF_divF (hx x (by simp)) (hy y (by simp)) hd h0]
theorem mulL_zmul {xs ys : List (Nat × Nat)} (h : xs.length = ys.length) : mulL xs ys xs.length = zmul xs ys := by
  apply List.ext_getElem?
  intro j
  by_cases hj : j < xs.length
  · rw [mulL_get hj, if_pos hj]
    unfold zmul
    rw [List.getElem?_zipWith, List.getD_eq_getElem?_getD, List.getD_eq_getElem?_getD, List.getElem?_eq_getElem hj, List.getElem?_eq_getElem (by omega)]
    rfl
  · rw [List.getElem?_eq_none (by rw [mulL_len]; omega), List.getElem?_eq_none (by rw [zmul_len]; omega)]
theorem prodL_zmul {ps qs : List P2} (h : ps.length = qs.length) : prodL ps qs = zmul (ps.map pv) (qs.map pv) := by
  unfold prodL
  have := mulL_zmul (xs := ps.map pv) (ys := qs.map pv) (by simp [h])
  rw [List.length_map] at this
  exact this
theorem mulE_zero {ps qs : List P2} {k l : Nat} (h : ps.length = qs.length) (hn : ps.length ≤ 512) (hp : ∀ p ∈ ps, okP p = true) (hq : ∀ p ∈ qs, okP p = true) (sp : ∀ x ∈ ps.map pv, Sm k x) (sq : ∀ x ∈ qs.map pv, Sm l x) (hkl : k + l ≤ 600) : mulE ps qs = 0 := by
  unfold mulE
  rw [if_neg (by omega), if_neg (fun k => k (openLS_yes hn hp)), if_neg (fun k => k (openLS_yes (by omega) hq)), if_neg (fun k => k h), if_pos]
  unfold okM
  rw [mulL_zmul (by simp [h])]
  exact List.all_eq_true.2 fun z hz => (zmul_sm sp sq rfl z hz).fits hkl
theorem updE_of {ps qs : List P2} (h : mulE ps qs = 0) : updE ps qs = divE (prodL ps qs) := by unfold updE; rw [if_neg (fun k => k h)]
theorem ok_sm {k : Nat} {l : List (Nat × Nat)} (h : ∀ x ∈ l, Sm k x) : ∀ x ∈ (pts l).map pv, Sm k x := by rw [pts_pv]; exact h
/-- Update by small numbers. -/
theorem upd_first {ps qs : List P2} {k l n : Nat} (h1 : ps.length = n) (h2 : qs.length = n) (hn : n ≤ 6) (hp : ∀ p ∈ ps, okP p = true) (hq : ∀ p ∈ qs, okP p = true) (sp : ∀ x ∈ ps.map pv, Sm k x) (sq : ∀ x ∈ qs.map pv, Sm l x) (hkl : 7 * (k + l + 1) ≤ 600) :
    prodL ps qs = zmul (ps.map pv) (qs.map pv) ∧ ∃ x, sumO (zmul (ps.map pv) (qs.map pv)) (0, 1) = some x ∧ Sm (1 + 6 * (k + l + 1)) x ∧ (x.1 = 0 → updE ps qs = 7) ∧ (x.1 ≠ 0 → updE ps qs = 0) := by
  have e := prodL_zmul (ps := ps) (qs := qs) (by omega)
  have hz := zmul_sm sp sq rfl
  have hlen : (zmul (ps.map pv) (qs.map pv)).length = n := by rw [zmul_len, List.length_map, List.length_map]; omega
  have hmono : n * (k + l + 1) ≤ 6 * (k + l + 1) := Nat.mul_le_mul_right _ hn
  obtain ⟨x, x1, x2⟩ := sum_sm (zmul (ps.map pv) (qs.map pv)) 1 (0, 1) hz sm_zero (by rw [hlen]; omega)
  rw [hlen] at x2
  have hm := mulE_zero (by omega) (by omega) hp hq sp sq (by omega)
  refine ⟨e, x, x1, x2.mono (by omega), fun h => ?_, fun h => ?_⟩
  · rw [updE_of hm, e, divE_zero x1 h]
  · rw [updE_of hm, e, divE_ok x1 h (okD_sm hz x2 (by omega) (by omega))]
/-- Update of what an update gave. -/
theorem upd_second {X : List (Nat × Nat)} {ts : List P2} {x z : Nat × Nat} {k lx l n : Nat} (h1 : X.length = n) (h2 : ts.length = n) (hn : n ≤ 6) (sX : ∀ y ∈ X, Sm k y) (sx : Sm lx x) (x0 : x.1 ≠ 0) (ht : ∀ p ∈ ts, okP p = true) (st : ∀ y ∈ ts.map pv, Sm l y)
    (hz : sumO (zmul X (ts.map pv)) (0, 1) = some z) (sz : Sm (1 + 6 * (k + l + 1)) z) (hs : 1 + 7 * (k + l + 1) + lx ≤ 600) :
    prodL (pts (X.map (divF · x))) ts = (zmul X (ts.map pv)).map (divF · x) ∧ sumO (prodL (pts (X.map (divF · x))) ts) (0, 1) = some (divF z x) ∧ (z.1 = 0 → updE (pts (X.map (divF · x))) ts = 7) ∧
      (z.1 ≠ 0 → updE (pts (X.map (divF · x))) ts = 0 ∧ (prodL (pts (X.map (divF · x))) ts).map (divF · (divF z x)) = (zmul X (ts.map pv)).map (divF · z)) := by
  have xp : 0 < x.1 := by omega
  have sX' := divs_sm sX sx xp rfl
  have hl : (pts (X.map (divF · x))).length = n := by rw [pts_len, List.length_map]; exact h1
  have e : prodL (pts (X.map (divF · x))) ts = (zmul X (ts.map pv)).map (divF · x) := by
    rw [prodL_zmul (by omega), pts_pv, zmul_div sx.fr xp X (ts.map pv) (fun y hy => (sX y hy).fr) (fun y hy => (st y hy).fr)]
  have hZ := zmul_sm sX st rfl
  have hlen : (zmul X (ts.map pv)).length = n := by rw [zmul_len, List.length_map]; omega
  have hmono : n * (k + l + 1) ≤ 6 * (k + l + 1) := Nat.mul_le_mul_right _ hn
  have hsum := sum_div sx xp (zmul X (ts.map pv)) 1 (0, 1) z hZ sm_zero (by rw [hlen]; omega) hz
  rw [divF_zero sx.fr xp] at hsum
  have hm := mulE_zero (ps := pts (X.map (divF · x))) (qs := ts) (by omega) (by omega) (pts_ok (k := k + lx) (by omega) sX') ht (ok_sm sX') st (by omega)
  refine ⟨e, by rw [e]; exact hsum, fun h => ?_, fun h => ?_⟩
  · have h0 : (divF z x).1 = 0 := by
      rcases Nat.eq_zero_or_pos (divF z x).1 with h' | h'
      · exact h'
      · have := (divF_pos sz.fr sx.fr xp).1 h'; omega
    rw [updE_of hm, e, divE_zero hsum h0]
  · have hzp : 0 < z.1 := by omega
    have h0 : 0 < (divF z x).1 := (divF_pos sz.fr sx.fr xp).2 hzp
    have hmap : ((zmul X (ts.map pv)).map (divF · x)).map (divF · (divF z x)) = (zmul X (ts.map pv)).map (divF · z) := by
      rw [List.map_map]
      refine List.map_congr_left fun y hy => ?_
      exact divF_divF (hZ y hy).fr sz.fr sx.fr hzp xp h0
    have hok : okD ((zmul X (ts.map pv)).map (divF · x)) (divF z x) = true := by
      unfold okD
      rw [hmap]
      exact List.all_eq_true.2 fun y hy => (divs_sm hZ sz hzp rfl y hy).fits (by omega)
    refine ⟨by rw [updE_of hm, e, divE_ok hsum (by omega) hok], by rw [e, hmap]⟩
/-- Where all products of a list are nothing, those with another one are. -/
theorem zmul_none {X T : List (Nat × Nat)} {k l : Nat} {x z : Nat × Nat} (sX : ∀ y ∈ X, Sm k y) (sT : ∀ y ∈ T, Sm l y) (hx : sumO X (0, 1) = some x) (hz : sumO (zmul X T) (0, 1) = some z) (h : x.1 = 0) : z.1 = 0 := by
  have h1 := ((sum_zero X (0, 1) x sX sm_zero.fr hx).1 h).2
  refine (sum_zero (zmul X T) (0, 1) z (zmul_sm sX sT rfl) sm_zero.fr hz).2 ⟨rfl, fun y hy => ?_⟩
  obtain ⟨a, b, ha, hb, rfl⟩ := zmul_mem hy
  exact mulF_zero (sX a ha).fr (sT b hb).fr (h1 a ha)
end Go.Proofs.YtkggfeemjabdeaaGreatDoor.Wc
end
section
namespace Go.Proofs.YtkggfeemjabdeaaGreatDoor.Wc
open Go Go.Proofs.YtkggfeemjabdeaaGreatDoor.Sx Go.RowKit

theorem upd_yes {ps qs : List P2} {v v' : Value} {W : World} (h : PartL W v ps) (h' : PartL W v' qs) (hs : ∀ p ∈ ps, Short p) (hs' : ∀ p ∈ qs, Short p) (ht : Tens W) (h0 : 0 < W.heap.size) (hu : updE ps qs = 0)
    {L : List (Nat × Nat)} {s : Nat × Nat} {n : Nat} {s1 s2 : ByteArray} (hsum : sumO (prodL ps qs) (0, 1) = some s) (hL : (prodL ps qs).map (divF · s) = L) (hn : ps.length = n) (hl : n ≤ 1000) (hp : ptOf s = (s1, s2)) :
    Calls Tryz.prog 28 #[v, v'] W fun e W' => Below W.heap.size W W' ∧ ∃ u cap, e = .returned (.tuple #[.slice u n cap, .agg #[.string s1, .string s2], .int .i64 0]) ∧ PartL W' (.slice u n cap) (pts L) := by
  refine (Update_any ps qs v v' W h h' hs hs' ht h0).mono ?_
  rintro e W' ⟨g0, g1, -⟩
  obtain ⟨s', u, base, e1, -, rfl, hrow⟩ := g1 hu
  obtain rfl : s = s' := Option.some.inj (hsum.symm.trans e1)
  have hlen : L.length = n := by rw [← hL, List.length_map, prodL, mulL_len, List.length_map]; exact hn
  rw [hL, hn, ← hlen] at hrow
  have hpl := partL_of_owns hrow (by omega)
  obtain ⟨a, cap, e3⟩ := hpl.shape
  rw [pts_len, hlen] at e3
  subst e3
  have d1 : dec s.1 = s1 := congrArg (·.1) hp
  have d2 : dec s.2 = s2 := congrArg (·.2) hp
  exact ⟨g0, a, cap, by rw [d1, d2], hpl⟩
theorem upd_no {ps qs : List P2} {v v' : Value} {W : World} (h : PartL W v ps) (h' : PartL W v' qs) (hs : ∀ p ∈ ps, Short p) (hs' : ∀ p ∈ qs, Short p) (ht : Tens W) (h0 : 0 < W.heap.size) {z : Int} (hu : updE ps qs = z) (hz : z ≠ 0) :
    Calls Tryz.prog 28 #[v, v'] W fun e W' => e = .returned (.tuple #[.slice none 0 0, .agg #[.string ⟨#[]⟩, .string ⟨#[]⟩], .int .i64 z]) ∧ Below W.heap.size W W' := by
  refine (Update_any ps qs v v' W h h' hs hs' ht h0).mono ?_
  rintro e W' ⟨g0, -, g2⟩
  have e1 := g2 (by rw [hu]; exact hz)
  rw [hu] at e1
  exact ⟨e1, g0⟩
end Go.Proofs.YtkggfeemjabdeaaGreatDoor.Wc
end
section
namespace Go.Proofs.YtkggfeemjabdeaaGreatDoor.Wc
open Go Go.Proofs.YtkggfeemjabdeaaGreatDoor.Sx Go.RowKit

theorem partL_at' {w : World} {a : Option Addr} {n cap : Nat} {ps : List P2} (h : PartL w (.slice a n cap) ps) {i : Nat} (hi : i < ps.length) : ∃ b off, a = some ⟨b, off, none⟩ ∧ b < w.heap.size ∧ w.cell? ⟨b, off + i * 2, none⟩ = some (.string ps[i].1) ∧ w.cell? ⟨b, off + i * 2 + 1, none⟩ = some (.string ps[i].2) := by
  rcases h with ⟨-, h⟩ | ⟨b, off, cap', h1, h2, h3, h4, h5⟩
  · subst h; exact absurd hi (Nat.not_lt_zero _)
  · injection h1 with h1 _ _
    exact ⟨b, off, h1, h4, (h5 i hi).1, (h5 i hi).2⟩
theorem list_inj {a b : ByteArray} (h : a.toList = b.toList) : a = b := by
  rw [ByteArray.toList_eq, ByteArray.toList_eq] at h
  exact Go.WideShapes.bytes_inj h
theorem below_grown {B : Nat} {w0 w1 w2 : World} {r : Option Nat} (h : Below B w0 w1) (hB : B ≤ w0.heap.size) (hg : w1.grownBy w2 r) (hr : ∀ c, r = some c → B ≤ c) : Below B w0 w2 :=
  ⟨hg.os.trans h.os, hg.tape.trans h.tape, hg.output.trans h.output, Nat.le_trans h.size hg.size, fun k hk => (hg.block k (Nat.lt_of_lt_of_le (Nat.lt_of_lt_of_le hk hB) h.size) (fun e => by have := hr k e.symm; omega)).trans (h.block k hk)⟩

set_option maxRecDepth 100000 in
set_option maxHeartbeats 16000000 in
theorem bayes_any (ps os ts : List P2) (v0 v1 v2 : Value) (w : World) (h0 : PartL w v0 ps) (h1 : PartL w v1 os) (h2 : PartL w v2 ts) (ht : Tens w) (hpos : 0 < w.heap.size) :
    Calls Tryz.prog 8 #[v0, v1, v2] w fun e w' => e = .returned (.bool true) ∧ Below w.heap.size w w' := by
  have HT : Hid (∀ W, Below w.heap.size w W → Tens W) := Lib.hid fun W hW j hj => cell_later hW (ht j hj)
  have HAL : Hid (Calls Tryz.prog 20 #[] w fun e w' => e = .returned (.bool true) ∧ Below w.heap.size w w') := Lib.hid (alive_any w ht hpos)
  have HPOS : Hid (0 < w.heap.size) := Lib.hid hpos
  obtain ⟨a0, cap0, rfl⟩ := h0.shape
  obtain ⟨a1, cap1, rfl⟩ := h1.shape
  obtain ⟨a2, cap2, rfl⟩ := h2.shape
  have P0 := Lib.hid h0; have P1 := Lib.hid h1; have P2 := Lib.hid h2
  clear h0 h1 h2 ht hpos
  generalize hN0 : ps.length = N at *
  generalize hN1 : os.length = N1 at *
  generalize hN2 : ts.length = N2 at *
  go_enter Tryz.func8, Tryz.ntmps8
  go_wp2_with fail
  refine HAL.out.mono ?_
  rintro e w1 ⟨rfl, hb1⟩
  have HB1 := Lib.hid hb1
  clear hb1 HAL
  by_cases g0 : 6 < N
  · have g0i : (6 : Int) < N := by omega
    have g0b : decide ((6 : Int) < N) = true := decide_eq_true g0i
    go_wp2_with fail
    exact bodyPost_ret (v := .bool true) (by simp [results, Tryz.results8, go_sem]) rfl ⟨rfl, HB1.out⟩
  have g0b : decide ((6 : Int) < N) = false := decide_eq_false (by omega)
  by_cases g1 : N1 ≠ N
  · have g1b : ((N1 : Int) != N) = true := bne_iff_ne.2 (by omega)
    have g1i : ¬ (N1 : Int) = N := by omega
    go_wp2_with fail
    exact bodyPost_ret (v := .bool true) (by simp [results, Tryz.results8, go_sem]) rfl ⟨rfl, HB1.out⟩
  obtain rfl : N1 = N := Decidable.not_not.1 g1
  by_cases g2 : N2 ≠ N1
  · have g2b : ((N2 : Int) != N1) = true := bne_iff_ne.2 (by omega)
    have g2i : ¬ (N2 : Int) = N1 := by omega
    go_wp2_with fail
    exact bodyPost_ret (v := .bool true) (by simp [results, Tryz.results8, go_sem]) rfl ⟨rfl, HB1.out⟩
  obtain rfl : N2 = N1 := Decidable.not_not.1 g2
  clear g1 g2
  have hsh0 := short_any 12 ps (.slice a0 N2 cap0) w1 (P0.out.below HB1.out) (by omega) (by decide)
  have HSH := Lib.hid hsh0
  clear hsh0
  go_wp2_with fail
  refine HSH.out.mono ?_
  rintro e w2 ⟨rfl, hb⟩
  have HB2 := Lib.hid (HB1.out.trans (hb.mono HB1.out.size))
  clear hb HSH
  cases hall0 : ps.all (shortP 12)
  · go_wp2_with fail
    exact bodyPost_ret (v := .bool true) (by simp [results, Tryz.results8, go_sem]) rfl ⟨rfl, HB2.out⟩
  have hs0 : ∀ p ∈ ps, p.1.size ≤ 12 ∧ p.2.size ≤ 12 := fun p hp => by
    have := List.all_eq_true.1 hall0 p hp
    unfold shortP at this; simpa using this
  have ho0 : ∀ p ∈ ps, Short p := fun p hp => ⟨Nat.le_trans (hs0 p hp).1 (by decide), Nat.le_trans (hs0 p hp).2 (by decide)⟩
  have SZ0 := Lib.hid hs0; have SO0 := Lib.hid ho0
  clear hs0 ho0 hall0
  have hsh1 := short_any 12 os (.slice a1 N2 cap1) w2 (P1.out.below HB2.out) (by omega) (by decide)
  have HSH := Lib.hid hsh1
  clear hsh1
  go_wp2_with fail
  refine HSH.out.mono ?_
  rintro e w3 ⟨rfl, hb⟩
  have HB3 := Lib.hid (HB2.out.trans (hb.mono HB2.out.size))
  clear hb HSH
  cases hall1 : os.all (shortP 12)
  · go_wp2_with fail
    exact bodyPost_ret (v := .bool true) (by simp [results, Tryz.results8, go_sem]) rfl ⟨rfl, HB3.out⟩
  have hs1 : ∀ p ∈ os, p.1.size ≤ 12 ∧ p.2.size ≤ 12 := fun p hp => by
    have := List.all_eq_true.1 hall1 p hp
    unfold shortP at this; simpa using this
  have ho1 : ∀ p ∈ os, Short p := fun p hp => ⟨Nat.le_trans (hs1 p hp).1 (by decide), Nat.le_trans (hs1 p hp).2 (by decide)⟩
  have SZ1 := Lib.hid hs1; have SO1 := Lib.hid ho1
  clear hs1 ho1 hall1
  have hsh2 := short_any 12 ts (.slice a2 N2 cap2) w3 (P2.out.below HB3.out) (by omega) (by decide)
  have HSH := Lib.hid hsh2
  clear hsh2
  go_wp2_with fail
  refine HSH.out.mono ?_
  rintro e w4 ⟨rfl, hb⟩
  have HB4 := Lib.hid (HB3.out.trans (hb.mono HB3.out.size))
  clear hb HSH
  cases hall2 : ts.all (shortP 12)
  · go_wp2_with fail
    exact bodyPost_ret (v := .bool true) (by simp [results, Tryz.results8, go_sem]) rfl ⟨rfl, HB4.out⟩
  have hs2 : ∀ p ∈ ts, p.1.size ≤ 12 ∧ p.2.size ≤ 12 := fun p hp => by
    have := List.all_eq_true.1 hall2 p hp
    unfold shortP at this; simpa using this
  have ho2 : ∀ p ∈ ts, Short p := fun p hp => ⟨Nat.le_trans (hs2 p hp).1 (by decide), Nat.le_trans (hs2 p hp).2 (by decide)⟩
  have SZ2 := Lib.hid hs2; have SO2 := Lib.hid ho2
  clear hs2 ho2 hall2
  have hsum := Sum_any ps (.slice a0 N2 cap0) w4 (P0.out.below HB4.out) SO0.out (HT.out w4 HB4.out)
  obtain ⟨⟨⟨s1, s2⟩, z⟩, hss⟩ : ∃ r, sumS ps = r := ⟨_, rfl⟩
  rw [hss] at hsum
  have hsum2 : Calls Tryz.prog 19 #[.slice a0 N2 cap0] w4 fun e w' => e = .returned (.tuple #[.agg #[.string s1, .string s2], .int .i64 z]) ∧ Below w4.heap.size w4 w' := hsum
  have HSUM := Lib.hid hsum2; have HSS := Lib.hid hss
  clear hsum hsum2 hss
  go_wp2_with fail
  refine HSUM.out.mono ?_
  rintro e w5 ⟨rfl, hb⟩
  obtain ⟨W5, hW5⟩ : ∃ W, W = w5.alloc (.cells #[.string s1, .string s2] 24) := ⟨_, rfl⟩
  have b5 : Below w5.heap.size w5 W5 := by rw [hW5]; exact (Below.refl _ _).alloc (Nat.le_refl _) _
  have hb45 := HB4.out.trans (hb.mono HB4.out.size)
  have HB5 := Lib.hid (hb45.trans (b5.mono hb45.size))
  have e5 : W5.heap[w5.heap.size]? = some (partO s1 s2) := by rw [hW5]; exact Go.Deep.blk_alloc_new _ _
  have E5 := Lib.hid e5; have HW5 := Lib.hid hW5
  clear hb b5 hb45 e5 hW5 HSUM
  by_cases hz : z ≠ 0
  · have hzb : (z != 0) = true := bne_iff_ne.2 hz
    go_wp2_with fail
    rw [← HW5.out]
    refine wp_region_held_drew (S := fun _ => True) (by kernel_rfl) trivial (fun hHeld => ?_)
    refine takeH (i := 0) (n := 76) (v := .int .i64 z) rfl rfl (by kernel_rfl) (by kernel_rfl) (by kernel_rfl) (fun _ _ _ h => h) (Or.inl ⟨by kernel_rfl, ?_⟩) (by assumption) ?_
    · intro w hSw; (try dsimp only at hSw); go_simp
    try simp only [Act.put, List.setIfInBounds_toArray, List.set_cons_zero, List.set_cons_succ]
    refine takeH (i := 1) (n := 77) (v := .bool true) rfl rfl (by kernel_rfl) (by kernel_rfl) (by kernel_rfl) (fun _ _ _ h => h) (Or.inl ⟨by kernel_rfl, ?_⟩) (by assumption) ?_
    · intro w hSw; (try dsimp only at hSw); go_simp
    try simp only [Act.put, List.setIfInBounds_toArray, List.set_cons_zero, List.set_cons_succ]
    refine takeH (i := 2) (n := 78) (v := .bool true) rfl rfl (by kernel_rfl) (by kernel_rfl) (by kernel_rfl) (fun _ _ _ h => h) (Or.inl ⟨by kernel_rfl, ?_⟩) (by assumption) ?_
    · intro w hSw; (try dsimp only at hSw); go_simp
    try simp only [Act.put, List.setIfInBounds_toArray, List.set_cons_zero, List.set_cons_succ]
    refine takeH (i := 3) (n := 79) (v := undef) rfl rfl (by kernel_rfl) (by kernel_rfl) (by kernel_rfl) (fun _ _ _ h => h) (Or.inr ⟨by kernel_rfl, rfl⟩) (by assumption) ?_
    try simp only [Act.put, List.setIfInBounds_toArray, List.set_cons_zero, List.set_cons_succ]
    refine takeH (i := 4) (n := 80) (v := undef) rfl rfl (by kernel_rfl) (by kernel_rfl) (by kernel_rfl) (fun _ _ _ h => h) (Or.inr ⟨by kernel_rfl, rfl⟩) (by assumption) ?_
    try simp only [Act.put, List.setIfInBounds_toArray, List.set_cons_zero, List.set_cons_succ]
    refine takeH (i := 5) (n := 81) (v := undef) rfl rfl (by kernel_rfl) (by kernel_rfl) (by kernel_rfl) (fun _ _ _ h => h) (Or.inr ⟨by kernel_rfl, rfl⟩) (by assumption) ?_
    try simp only [Act.put, List.setIfInBounds_toArray, List.set_cons_zero, List.set_cons_succ]
    refine takeH (i := 6) (n := 82) (v := .bool true) rfl rfl (by kernel_rfl) (by kernel_rfl) (by kernel_rfl) (fun _ _ _ h => h) (Or.inl ⟨by kernel_rfl, ?_⟩) (by assumption) ?_
    · intro w hSw; (try dsimp only at hSw); go_simp
    try simp only [Act.put, List.setIfInBounds_toArray, List.set_cons_zero, List.set_cons_succ]
    refine wpAnyH_done (by kernel_rfl) ?_ _
    go_wp2_with fail
    exact bodyPost_ret (v := .bool true) (by simp [results, Tryz.results8, go_sem]) rfl ⟨rfl, HB5.out.drew⟩
  obtain rfl : z = 0 := Decidable.not_not.1 hz
  clear hz
  obtain ⟨y50, y51, y52⟩ := part_at E5.out
  have HS5 : Hid (∀ W', Below W5.heap.size W5 W' → W'.cell? ⟨w5.heap.size, 0, none⟩ = some (.string s1) ∧ W'.cell? ⟨w5.heap.size, 1, none⟩ = some (.string s2)) := Lib.hid fun W' h => ⟨cell_later h y50, cell_later h y51⟩
  have O11 : Hid (∀ W, Below W5.heap.size W5 W → Calls Tryz.prog 12 #[.int .i64 1, .int .i64 1] W fun e w' => e = .returned (.agg #[.string ⟨#[49]⟩, .string ⟨#[49]⟩]) ∧ Below W.heap.size W w') := Lib.hid fun W hW => of_any 1 1 (⟨#[49]⟩, ⟨#[49]⟩) W (by decide) (by decide) (by rw [show ratioS 1 1 = ((⟨#[49]⟩, ⟨#[49]⟩), 0) by kernel_rfl]) (HT.out W (HB5.out.trans (hW.mono HB5.out.size)))
  clear y50 y51 y52
  go_wp2_with fail
  rw [← HW5.out]
  by_cases q1 : s1 = ⟨#[49]⟩
  case neg =>
    have q1l : ¬ s1.toList = [49] := fun h => q1 (list_inj (h.trans (by rw [ByteArray.toList_eq])))
    refine wp_region_held_drew (S := fun W' => W'.cell? ⟨w5.heap.size, 0, none⟩ = some (.string s1) ∧ W'.cell? ⟨w5.heap.size, 1, none⟩ = some (.string s2)) (by kernel_rfl) (HS5.out _ (Below.refl _ _).drew) (fun hHeld => ?_)
    refine takeH (i := 0) (n := 76) (v := .int .i64 0) rfl rfl (by kernel_rfl) (by kernel_rfl) (by kernel_rfl) (fun _ _ _ h => h) (Or.inl ⟨by kernel_rfl, ?_⟩) (by assumption) ?_
    · intro w hSw; (try dsimp only at hSw); go_simp
    try simp only [Act.put, List.setIfInBounds_toArray, List.set_cons_zero, List.set_cons_succ]
    refine takeH (i := 1) (n := 77) (v := .bool false) rfl rfl (by kernel_rfl) (by kernel_rfl) (by kernel_rfl) (fun _ _ _ h => h) (Or.inl ⟨by kernel_rfl, ?_⟩) (by assumption) ?_
    · intro w hSw; (try dsimp only at hSw); go_simp
    try simp only [Act.put, List.setIfInBounds_toArray, List.set_cons_zero, List.set_cons_succ]
    refine takeH (i := 2) (n := 78) (v := .bool false) rfl rfl (by kernel_rfl) (by kernel_rfl) (by kernel_rfl) (fun _ _ _ h => h) (Or.inl ⟨by kernel_rfl, ?_⟩) (by assumption) ?_
    · intro w hSw; (try dsimp only at hSw); go_simp
    try simp only [Act.put, List.setIfInBounds_toArray, List.set_cons_zero, List.set_cons_succ]
    refine takeH (i := 3) (n := 79) (v := .agg #[.string s1, .string s2]) rfl rfl (by kernel_rfl) (by kernel_rfl) (by kernel_rfl) (fun _ _ _ h => h) (Or.inl ⟨by kernel_rfl, ?_⟩) (by assumption) ?_
    · intro w hSw; (try dsimp only at hSw); go_simp
    try simp only [Act.put, List.setIfInBounds_toArray, List.set_cons_zero, List.set_cons_succ]
    refine wpAnyH_ready (rs := [4]) (by kernel_rfl) (by simp) ?_
    refine AllReadyH.cons rfl (fun K hK => ?_) AllReadyH.nil
    try rw [if_pos (by kernel_rfl)]
    try go_simp
    go_at_call 12
    refine (O11.out _ (Below.refl _ _).drew).mono ?_
    rintro e w6 ⟨rfl, hb⟩
    have hBn := below_chain (W := W5) (Below.refl _ _).drew hb
    refine hK.out _ _ (HS5.out _ hBn) (fun hHeld => ?_)
    clear hK K
    try simp only [Act.put, List.setIfInBounds_toArray, List.set_cons_zero, List.set_cons_succ]
    refine takeH (i := 5) (n := 81) (v := .bool true) rfl rfl (by kernel_rfl) (by kernel_rfl) (by kernel_rfl) (fun _ _ _ h => h) (Or.inl ⟨by kernel_rfl, ?_⟩) (by assumption) ?_
    · intro w hSw; (try dsimp only at hSw); go_simp
    try simp only [Act.put, List.setIfInBounds_toArray, List.set_cons_zero, List.set_cons_succ]
    refine takeH (i := 6) (n := 82) (v := .bool true) rfl rfl (by kernel_rfl) (by kernel_rfl) (by kernel_rfl) (fun _ _ _ h => h) (Or.inl ⟨by kernel_rfl, ?_⟩) (by assumption) ?_
    · intro w hSw; (try dsimp only at hSw); go_simp
    try simp only [Act.put, List.setIfInBounds_toArray, List.set_cons_zero, List.set_cons_succ]
    refine wpAnyH_done (by kernel_rfl) ?_ _
    go_wp2_with fail
    exact bodyPost_ret (v := .bool true) (by simp [results, Tryz.results8, go_sem]) rfl ⟨rfl, HB5.out.trans (hBn.mono HB5.out.size)⟩
  subst q1
  by_cases q2 : s2 = ⟨#[49]⟩
  case neg =>
    have q2l : ¬ s2.toList = [49] := fun h => q2 (list_inj (h.trans (by rw [ByteArray.toList_eq])))
    refine wp_region_held_drew (S := fun W' => W'.cell? ⟨w5.heap.size, 0, none⟩ = some (.string ⟨#[49]⟩) ∧ W'.cell? ⟨w5.heap.size, 1, none⟩ = some (.string s2)) (by kernel_rfl) (HS5.out _ (Below.refl _ _).drew) (fun hHeld => ?_)
    refine takeH (i := 0) (n := 76) (v := .int .i64 0) rfl rfl (by kernel_rfl) (by kernel_rfl) (by kernel_rfl) (fun _ _ _ h => h) (Or.inl ⟨by kernel_rfl, ?_⟩) (by assumption) ?_
    · intro w hSw; (try dsimp only at hSw); go_simp
    try simp only [Act.put, List.setIfInBounds_toArray, List.set_cons_zero, List.set_cons_succ]
    refine takeH (i := 1) (n := 77) (v := .bool false) rfl rfl (by kernel_rfl) (by kernel_rfl) (by kernel_rfl) (fun _ _ _ h => h) (Or.inl ⟨by kernel_rfl, ?_⟩) (by assumption) ?_
    · intro w hSw; (try dsimp only at hSw); go_simp
    try simp only [Act.put, List.setIfInBounds_toArray, List.set_cons_zero, List.set_cons_succ]
    refine takeH (i := 2) (n := 78) (v := .bool false) rfl rfl (by kernel_rfl) (by kernel_rfl) (by kernel_rfl) (fun _ _ _ h => h) (Or.inl ⟨by kernel_rfl, ?_⟩) (by assumption) ?_
    · intro w hSw; (try dsimp only at hSw); go_simp
    try simp only [Act.put, List.setIfInBounds_toArray, List.set_cons_zero, List.set_cons_succ]
    refine takeH (i := 3) (n := 79) (v := .agg #[.string ⟨#[49]⟩, .string s2]) rfl rfl (by kernel_rfl) (by kernel_rfl) (by kernel_rfl) (fun _ _ _ h => h) (Or.inl ⟨by kernel_rfl, ?_⟩) (by assumption) ?_
    · intro w hSw; (try dsimp only at hSw); go_simp
    try simp only [Act.put, List.setIfInBounds_toArray, List.set_cons_zero, List.set_cons_succ]
    refine wpAnyH_ready (rs := [4]) (by kernel_rfl) (by simp) ?_
    refine AllReadyH.cons rfl (fun K hK => ?_) AllReadyH.nil
    try rw [if_pos (by kernel_rfl)]
    try go_simp
    go_at_call 12
    refine (O11.out _ (Below.refl _ _).drew).mono ?_
    rintro e w6 ⟨rfl, hb⟩
    have hBn := below_chain (W := W5) (Below.refl _ _).drew hb
    refine hK.out _ _ (HS5.out _ hBn) (fun hHeld => ?_)
    clear hK K
    try simp only [Act.put, List.setIfInBounds_toArray, List.set_cons_zero, List.set_cons_succ]
    refine takeH (i := 5) (n := 81) (v := .bool true) rfl rfl (by kernel_rfl) (by kernel_rfl) (by kernel_rfl) (fun _ _ _ h => h) (Or.inl ⟨by kernel_rfl, ?_⟩) (by assumption) ?_
    · intro w hSw; (try dsimp only at hSw); go_simp
    try simp only [Act.put, List.setIfInBounds_toArray, List.set_cons_zero, List.set_cons_succ]
    refine takeH (i := 6) (n := 82) (v := .bool true) rfl rfl (by kernel_rfl) (by kernel_rfl) (by kernel_rfl) (fun _ _ _ h => h) (Or.inl ⟨by kernel_rfl, ?_⟩) (by assumption) ?_
    · intro w hSw; (try dsimp only at hSw); go_simp
    try simp only [Act.put, List.setIfInBounds_toArray, List.set_cons_zero, List.set_cons_succ]
    refine wpAnyH_done (by kernel_rfl) ?_ _
    go_wp2_with fail
    exact bodyPost_ret (v := .bool true) (by simp [results, Tryz.results8, go_sem]) rfl ⟨rfl, HB5.out.trans (hBn.mono HB5.out.size)⟩
  subst q2
  refine wp_region_held_drew (S := fun W' => W'.cell? ⟨w5.heap.size, 0, none⟩ = some (.string ⟨#[49]⟩) ∧ W'.cell? ⟨w5.heap.size, 1, none⟩ = some (.string ⟨#[49]⟩)) (by kernel_rfl) (HS5.out _ (Below.refl _ _).drew) (fun hHeld => ?_)
  refine takeH (i := 0) (n := 76) (v := .int .i64 0) rfl rfl (by kernel_rfl) (by kernel_rfl) (by kernel_rfl) (fun _ _ _ h => h) (Or.inl ⟨by kernel_rfl, ?_⟩) (by assumption) ?_
  · intro w hSw; (try dsimp only at hSw); go_simp
  try simp only [Act.put, List.setIfInBounds_toArray, List.set_cons_zero, List.set_cons_succ]
  refine takeH (i := 1) (n := 77) (v := .bool false) rfl rfl (by kernel_rfl) (by kernel_rfl) (by kernel_rfl) (fun _ _ _ h => h) (Or.inl ⟨by kernel_rfl, ?_⟩) (by assumption) ?_
  · intro w hSw; (try dsimp only at hSw); go_simp
  try simp only [Act.put, List.setIfInBounds_toArray, List.set_cons_zero, List.set_cons_succ]
  refine takeH (i := 2) (n := 78) (v := .bool false) rfl rfl (by kernel_rfl) (by kernel_rfl) (by kernel_rfl) (fun _ _ _ h => h) (Or.inl ⟨by kernel_rfl, ?_⟩) (by assumption) ?_
  · intro w hSw; (try dsimp only at hSw); go_simp
  try simp only [Act.put, List.setIfInBounds_toArray, List.set_cons_zero, List.set_cons_succ]
  refine takeH (i := 3) (n := 79) (v := .agg #[.string ⟨#[49]⟩, .string ⟨#[49]⟩]) rfl rfl (by kernel_rfl) (by kernel_rfl) (by kernel_rfl) (fun _ _ _ h => h) (Or.inl ⟨by kernel_rfl, ?_⟩) (by assumption) ?_
  · intro w hSw; (try dsimp only at hSw); go_simp
  try simp only [Act.put, List.setIfInBounds_toArray, List.set_cons_zero, List.set_cons_succ]
  refine wpAnyH_ready (rs := [4]) (by kernel_rfl) (by simp) ?_
  refine AllReadyH.cons rfl (fun K hK => ?_) AllReadyH.nil
  try rw [if_pos (by kernel_rfl)]
  try go_simp
  go_at_call 12
  refine (O11.out _ (Below.refl _ _).drew).mono ?_
  rintro e w6 ⟨rfl, hb⟩
  have hBn := below_chain (W := W5) (Below.refl _ _).drew hb
  refine hK.out _ _ (HS5.out _ hBn) (fun hHeld => ?_)
  clear hK K
  try simp only [Act.put, List.setIfInBounds_toArray, List.set_cons_zero, List.set_cons_succ]
  refine takeH (i := 5) (n := 81) (v := .bool false) rfl rfl (by kernel_rfl) (by kernel_rfl) (by kernel_rfl) (fun _ _ _ h => h) (Or.inl ⟨by kernel_rfl, ?_⟩) (by assumption) ?_
  · intro w hSw; (try dsimp only at hSw); go_simp
  try simp only [Act.put, List.setIfInBounds_toArray, List.set_cons_zero, List.set_cons_succ]
  refine takeH (i := 6) (n := 82) (v := .bool false) rfl rfl (by kernel_rfl) (by kernel_rfl) (by kernel_rfl) (fun _ _ _ h => h) (Or.inl ⟨by kernel_rfl, ?_⟩) (by assumption) ?_
  · intro w hSw; (try dsimp only at hSw); go_simp
  try simp only [Act.put, List.setIfInBounds_toArray, List.set_cons_zero, List.set_cons_succ]
  refine wpAnyH_done (by kernel_rfl) ?_ _
  have HB6 := Lib.hid (HB5.out.trans (hBn.mono HB5.out.size))
  have hol : openLS ps = 0 := by
    have h := HSS.out
    unfold sumS at h
    split at h
    · rename_i h1; exact absurd (congrArg (·.2) h) h1
    · rename_i h1; exact Decidable.not_not.1 h1
  have OK0 := Lib.hid (openLS_ok hol).2
  clear hb hBn hol HSS HW5 E5 O11 HS5 hHeld
  obtain ⟨i0, hi, hz0, hz1, hz2⟩ : ∃ i0, Tryz.prog.info? 24 = some i0 ∧ i0.zero = some (.agg #[.string ⟨#[]⟩, .string ⟨#[]⟩]) ∧ i0.size = 2 ∧ i0.bytes = 32 := by
    obtain ⟨i, hi, hzz⟩ := Option.map_eq_some_iff.1 infoP
    simp only [Prod.mk.injEq] at hzz
    exact ⟨i, hi, hzz.1, hzz.2.1, hzz.2.2⟩
  obtain ⟨B, hB⟩ : ∃ B, B = zmul (os.map pv) (ts.map pv) := ⟨_, rfl⟩
  have HBB := Lib.hid hB
  clear hB
  go_wp2_with fail
  go_loopw [10, 86] (fun bv iv wr => ∃ i : Nat, i ≤ N2 ∧ iv = .int .i64 i ∧ Hid (Below w.heap.size w wr) ∧ Hid (wr.ownsRow w.heap.size 24 2 bv i (partCells (B.take i))) ∧ Hid ((∀ p ∈ os.take i, okP p = true) ∧ ∀ p ∈ ts.take i, okP p = true)) (fun _ iv _ => N2 - (intOf iv).toNat)
  case atStart => exact ⟨0, Nat.zero_le _, rfl, Lib.hid HB6.out, Lib.hid ⟨by simp [partCells], .inl ⟨rfl, rfl⟩⟩, Lib.hid ⟨by simp, by simp⟩⟩
  case round =>
    obtain ⟨i, hi2, rfl, HB, HR, HO⟩ := hrel
    by_cases hlt : i < N2
    case pos =>
      obtain ⟨b1, o1, e7, -, cx0, cx1⟩ := partL_at' (P1.out.below HB.out) (i := i) (by rw [hN1]; exact hlt)
      obtain ⟨b2, o2, e9, -, cy0, cy1⟩ := partL_at' (P2.out.below HB.out) (i := i) (by rw [hN2]; exact hlt)
      subst e7 e9
      have mx : os[i]'(by rw [hN1]; exact hlt) ∈ os := List.getElem_mem _
      have my : ts[i]'(by rw [hN2]; exact hlt) ∈ ts := List.getElem_mem _
      have ex : os[i]? = some (os[i]'(by rw [hN1]; exact hlt)) := List.getElem?_eq_getElem _
      have ey : ts[i]? = some (ts[i]'(by rw [hN2]; exact hlt)) := List.getElem?_eq_getElem _
      generalize os[i]'(by rw [hN1]; exact hlt) = px at *
      generalize ts[i]'(by rw [hN2]; exact hlt) = py at *
      obtain ⟨⟨⟨r1, r2⟩, z⟩, hm⟩ : ∃ r, mulS px py = r := ⟨_, rfl⟩
      have sx := SZ1.out px mx; have sy := SZ2.out py my; have tx := SO1.out px mx; have ty := SO2.out py my
      obtain ⟨x1, x2⟩ := px; obtain ⟨y1, y2⟩ := py
      have Q1 : Hid (∀ W, Below wr.heap.size wr W → Calls Tryz.prog 24 #[.agg #[.string x1, .string x2], .agg #[.string y1, .string y2]] W fun e w' => e = .returned (.tuple #[.agg #[.string r1, .string r2], .int .i64 z]) ∧ Below W.heap.size W w') := Lib.hid fun W hW => by
        have k := Mul_any (x1, x2) (y1, y2) W tx ty (HT.out W (HB.out.trans (hW.mono HB.out.size)))
        rw [hm] at k; exact k
      have HS1 : Hid (∀ W', Below wr.heap.size wr W' → W'.cell? ⟨b1, o1 + i * 2, none⟩ = some (.string x1) ∧ W'.cell? ⟨b1, o1 + i * 2 + 1, none⟩ = some (.string x2) ∧ W'.cell? ⟨b2, o2 + i * 2, none⟩ = some (.string y1) ∧ W'.cell? ⟨b2, o2 + i * 2 + 1, none⟩ = some (.string y2)) := Lib.hid fun W' h => ⟨cell_later h cx0, cell_later h cx1, cell_later h cy0, cell_later h cy1⟩
      have HM := Lib.hid hm; have HX := Lib.hid ex; have HY := Lib.hid ey; have HSX := Lib.hid (And.intro sx sy)
      clear cx0 cx1 cy0 cy1 mx my ex ey hm sx sy tx ty
      have hx0 : (0 : Int) ≤ (i : Int) := by omega
      have hx1 : (i : Int) < (N2 : Int) := by omega
      have hxw : IntKind.i64.wrap (i : Int) = (i : Int) := IntWalk.i64_in _ (by omega)
      go_wp2_with fail
      go_cut [12, 13] (fun t u wx => ∃ nz, t = .pointer (some ⟨nz, 0, none⟩) ∧ u = .int .i64 z ∧ Hid (wx.heap[nz]? = some (partO r1 r2) ∧ Below wr.heap.size wr wx ∧ wr.heap.size ≤ nz))
      case first =>
        refine wp_region_held_drew (S := fun W' => W'.cell? ⟨b1, o1 + i * 2, none⟩ = some (.string x1) ∧ W'.cell? ⟨b1, o1 + i * 2 + 1, none⟩ = some (.string x2) ∧ W'.cell? ⟨b2, o2 + i * 2, none⟩ = some (.string y1) ∧ W'.cell? ⟨b2, o2 + i * 2 + 1, none⟩ = some (.string y2)) (by kernel_rfl) (HS1.out _ (Below.refl _ _).drew) (fun hHeld => ?_)
        refine takeH (i := 0) (n := 90) (v := .slice (some ⟨b1, o1, none⟩) N2 cap1) rfl rfl (by kernel_rfl) (by kernel_rfl) (by kernel_rfl) (fun _ _ _ h => h) (Or.inl ⟨by kernel_rfl, ?_⟩) (by assumption) ?_
        · intro w hSw; (try dsimp only at hSw); go_simp
        try simp only [Act.put, List.setIfInBounds_toArray, List.set_cons_zero, List.set_cons_succ]
        refine takeH (i := 1) (n := 91) (v := .int .i64 (i : Int)) rfl rfl (by kernel_rfl) (by kernel_rfl) (by kernel_rfl) (fun _ _ _ h => h) (Or.inl ⟨by kernel_rfl, ?_⟩) (by assumption) ?_
        · intro w hSw; (try dsimp only at hSw); go_simp
        try simp only [Act.put, List.setIfInBounds_toArray, List.set_cons_zero, List.set_cons_succ]
        refine takeH (i := 2) (n := 92) (v := .pointer (some ⟨b1, o1 + i * 2, none⟩)) rfl rfl (by kernel_rfl) (by kernel_rfl) (by kernel_rfl) (fun _ _ _ h => h) (Or.inl ⟨by kernel_rfl, ?_⟩) (by assumption) ?_
        · intro w hSw; (try dsimp only at hSw); go_simp
        try simp only [Act.put, List.setIfInBounds_toArray, List.set_cons_zero, List.set_cons_succ]
        refine takeH (i := 3) (n := 93) (v := .agg #[.string x1, .string x2]) rfl rfl (by kernel_rfl) (by kernel_rfl) (by kernel_rfl) (fun _ _ _ h => h) (Or.inl ⟨by kernel_rfl, ?_⟩) (by assumption) ?_
        · intro w hSw; (try dsimp only at hSw); go_simp
        try simp only [Act.put, List.setIfInBounds_toArray, List.set_cons_zero, List.set_cons_succ]
        refine takeH (i := 4) (n := 94) (v := .slice (some ⟨b2, o2, none⟩) N2 cap2) rfl rfl (by kernel_rfl) (by kernel_rfl) (by kernel_rfl) (fun _ _ _ h => h) (Or.inl ⟨by kernel_rfl, ?_⟩) (by assumption) ?_
        · intro w hSw; (try dsimp only at hSw); go_simp
        try simp only [Act.put, List.setIfInBounds_toArray, List.set_cons_zero, List.set_cons_succ]
        refine takeH (i := 5) (n := 95) (v := .int .i64 (i : Int)) rfl rfl (by kernel_rfl) (by kernel_rfl) (by kernel_rfl) (fun _ _ _ h => h) (Or.inl ⟨by kernel_rfl, ?_⟩) (by assumption) ?_
        · intro w hSw; (try dsimp only at hSw); go_simp
        try simp only [Act.put, List.setIfInBounds_toArray, List.set_cons_zero, List.set_cons_succ]
        refine takeH (i := 6) (n := 96) (v := .pointer (some ⟨b2, o2 + i * 2, none⟩)) rfl rfl (by kernel_rfl) (by kernel_rfl) (by kernel_rfl) (fun _ _ _ h => h) (Or.inl ⟨by kernel_rfl, ?_⟩) (by assumption) ?_
        · intro w hSw; (try dsimp only at hSw); go_simp
        try simp only [Act.put, List.setIfInBounds_toArray, List.set_cons_zero, List.set_cons_succ]
        refine takeH (i := 7) (n := 97) (v := .agg #[.string y1, .string y2]) rfl rfl (by kernel_rfl) (by kernel_rfl) (by kernel_rfl) (fun _ _ _ h => h) (Or.inl ⟨by kernel_rfl, ?_⟩) (by assumption) ?_
        · intro w hSw; (try dsimp only at hSw); go_simp
        try simp only [Act.put, List.setIfInBounds_toArray, List.set_cons_zero, List.set_cons_succ]
        refine wpAnyH_ready (rs := [8, 12]) (by kernel_rfl) (by simp) ?_
        refine AllReadyH.cons rfl (fun K hK => ?_) (AllReadyH.cons rfl (fun K hK => ?_) AllReadyH.nil)
        · try rw [if_pos (by kernel_rfl)]
          try go_simp
          go_at_call 24
          refine (Q1.out _ (Below.refl _ _).drew).mono ?_
          rintro e w6 ⟨rfl, hb⟩
          have hBn := below_chain (W := wr) (Below.refl _ _).drew hb
          refine hK.out _ _ (HS1.out _ hBn) (fun hHeld => ?_)
          clear hK K
          try simp only [Act.put, List.setIfInBounds_toArray, List.set_cons_zero, List.set_cons_succ]
          refine takeH (i := 9) (n := 89) (v := .tuple #[.agg #[.string r1, .string r2], .int .i64 z]) rfl rfl (by kernel_rfl) (by kernel_rfl) (by kernel_rfl) (fun _ _ _ h => h) (Or.inl ⟨by kernel_rfl, ?_⟩) (by assumption) ?_
          · intro w hSw; (try dsimp only at hSw); go_simp
          try simp only [Act.put, List.setIfInBounds_toArray, List.set_cons_zero, List.set_cons_succ]
          refine takeH (i := 10) (n := 99) (v := .agg #[.string r1, .string r2]) rfl rfl (by kernel_rfl) (by kernel_rfl) (by kernel_rfl) (fun _ _ _ h => h) (Or.inl ⟨by kernel_rfl, ?_⟩) (by assumption) ?_
          · intro w hSw; (try dsimp only at hSw); go_simp
          try simp only [Act.put, List.setIfInBounds_toArray, List.set_cons_zero, List.set_cons_succ]
          refine takeH (i := 11) (n := 100) (v := .int .i64 z) rfl rfl (by kernel_rfl) (by kernel_rfl) (by kernel_rfl) (fun _ _ _ h => h) (Or.inl ⟨by kernel_rfl, ?_⟩) (by assumption) ?_
          · intro w hSw; (try dsimp only at hSw); go_simp
          try simp only [Act.put, List.setIfInBounds_toArray, List.set_cons_zero, List.set_cons_succ]
          refine wpAnyH_ready (rs := [12]) (by kernel_rfl) (by simp) ?_
          refine AllReadyH.cons rfl (fun K hK => ?_) AllReadyH.nil
          try rw [if_pos (by kernel_rfl)]
          try go_simp
          refine hK.out _ _ (HS1.out _ (hBn.alloc hBn.size _)) (fun hHeld => ?_)
          clear hK K
          try simp only [Act.put, List.setIfInBounds_toArray, List.set_cons_zero, List.set_cons_succ]
          refine wpAnyH_ready (rs := [13]) (by kernel_rfl) (by simp) ?_
          refine AllReadyH.cons rfl (fun K hK => ?_) AllReadyH.nil
          try rw [if_pos (by kernel_rfl)]
          try go_simp
          refine hK.out _ _ (HS1.out _ (hBn.alloc hBn.size _)) (fun hHeld => ?_)
          clear hK K
          try simp only [Act.put, List.setIfInBounds_toArray, List.set_cons_zero, List.set_cons_succ]
          refine takeH (i := 14) (n := 13) (v := .int .i64 z) rfl rfl (by kernel_rfl) (by kernel_rfl) (by kernel_rfl) (fun _ _ _ h => h) (Or.inl ⟨by kernel_rfl, ?_⟩) (by assumption) ?_
          · intro w hSw; (try dsimp only at hSw); go_simp
          try simp only [Act.put, List.setIfInBounds_toArray, List.set_cons_zero, List.set_cons_succ]
          refine wpAnyH_done (by kernel_rfl) ?_ _
          go_wp2_with fail
          go_meet
          case rel => exact ⟨w6.heap.size, rfl, rfl, Lib.hid ⟨Go.Deep.blk_alloc_new _ _, hBn.alloc hBn.size _, hBn.size⟩⟩
        · try rw [if_pos (by kernel_rfl)]
          try go_simp
          refine hK.out _ _ (HS1.out _ ((Below.refl _ _).drew.alloc (Nat.le_refl _) _)) (fun hHeld => ?_)
          clear hK K
          try simp only [Act.put, List.setIfInBounds_toArray, List.set_cons_zero, List.set_cons_succ]
          refine wpAnyH_ready (rs := [8]) (by kernel_rfl) (by simp) ?_
          refine AllReadyH.cons rfl (fun K hK => ?_) AllReadyH.nil
          try rw [if_pos (by kernel_rfl)]
          try go_simp
          go_at_call 24
          refine (Q1.out _ ((Below.refl _ _).drew.alloc (Nat.le_refl _) _)).mono ?_
          rintro e w6 ⟨rfl, hb⟩
          have hBn := below_chain (W := wr) ((Below.refl _ _).drew.alloc (Nat.le_refl _) _) hb
          refine hK.out _ _ (HS1.out _ hBn) (fun hHeld => ?_)
          clear hK K
          try simp only [Act.put, List.setIfInBounds_toArray, List.set_cons_zero, List.set_cons_succ]
          refine takeH (i := 9) (n := 89) (v := .tuple #[.agg #[.string r1, .string r2], .int .i64 z]) rfl rfl (by kernel_rfl) (by kernel_rfl) (by kernel_rfl) (fun _ _ _ h => h) (Or.inl ⟨by kernel_rfl, ?_⟩) (by assumption) ?_
          · intro w hSw; (try dsimp only at hSw); go_simp
          try simp only [Act.put, List.setIfInBounds_toArray, List.set_cons_zero, List.set_cons_succ]
          refine takeH (i := 10) (n := 99) (v := .agg #[.string r1, .string r2]) rfl rfl (by kernel_rfl) (by kernel_rfl) (by kernel_rfl) (fun _ _ _ h => h) (Or.inl ⟨by kernel_rfl, ?_⟩) (by assumption) ?_
          · intro w hSw; (try dsimp only at hSw); go_simp
          try simp only [Act.put, List.setIfInBounds_toArray, List.set_cons_zero, List.set_cons_succ]
          refine takeH (i := 11) (n := 100) (v := .int .i64 z) rfl rfl (by kernel_rfl) (by kernel_rfl) (by kernel_rfl) (fun _ _ _ h => h) (Or.inl ⟨by kernel_rfl, ?_⟩) (by assumption) ?_
          · intro w hSw; (try dsimp only at hSw); go_simp
          try simp only [Act.put, List.setIfInBounds_toArray, List.set_cons_zero, List.set_cons_succ]
          have r6 := (hb.block wr.heap.size (by rw [World.size_alloc]; exact Nat.lt_succ_self _)).trans (Go.Deep.blk_alloc_new wr.drew (.cells #[.string ⟨#[]⟩, .string ⟨#[]⟩] 24))
          have q0 := set_cells r6 0; have q1 := set_cells r6 1
          simp only [List.getElem?_toArray, List.getElem?_cons_zero, List.getElem?_cons_succ] at q0 q1
          have f0 : w6.frozen? ⟨wr.heap.size, 0, none⟩ = false := by simp [World.frozen?, r6]
          have f1 : w6.frozen? ⟨wr.heap.size, 1, none⟩ = false := by simp [World.frozen?, r6]
          refine wpAnyH_ready (rs := [13]) (by kernel_rfl) (by simp) ?_
          refine AllReadyH.cons rfl (fun K hK => ?_) AllReadyH.nil
          try rw [if_pos (by kernel_rfl)]
          try go_simp
          refine hK.out _ _ (HS1.out _ ((hBn.setCell (p := ⟨wr.heap.size, 0, none⟩) (Nat.le_refl _) (.string r1)).setCell (p := ⟨wr.heap.size, 1, none⟩) (Nat.le_refl _) (.string r2))) (fun hHeld => ?_)
          clear hK K
          try simp only [Act.put, List.setIfInBounds_toArray, List.set_cons_zero, List.set_cons_succ]
          refine takeH (i := 14) (n := 13) (v := .int .i64 z) rfl rfl (by kernel_rfl) (by kernel_rfl) (by kernel_rfl) (fun _ _ _ h => h) (Or.inl ⟨by kernel_rfl, ?_⟩) (by assumption) ?_
          · intro w hSw; (try dsimp only at hSw); go_simp
          try simp only [Act.put, List.setIfInBounds_toArray, List.set_cons_zero, List.set_cons_succ]
          refine wpAnyH_done (by kernel_rfl) ?_ _
          go_wp2_with fail
          go_meet
          have g0 := heap_setCell_same w6 wr.heap.size 0 _ _ (.string r1) r6
          have g1 := heap_setCell_same _ wr.heap.size 1 _ _ (.string r2) g0
          simp only [List.setIfInBounds_toArray, List.set_cons_zero, List.set_cons_succ] at g1
          case rel => exact ⟨wr.heap.size, rfl, rfl, Lib.hid ⟨g1, ((hBn.setCell (p := ⟨wr.heap.size, 0, none⟩) (Nat.le_refl _) (.string r1)).setCell (p := ⟨wr.heap.size, 1, none⟩) (Nat.le_refl _) (.string r2)), Nat.le_refl _⟩⟩
      case rest =>
        obtain ⟨n12, rfl, rfl, HZ⟩ := hcut
        have hz := HZ.out.2.1
        have HBc := Lib.hid (HB.out.trans (hz.mono HB.out.size))
        have HRc := Lib.hid (owns_below HR.out hz)
        have HN12 := Lib.hid HZ.out.1
        clear hz HZ HB HR HS1 Q1
        by_cases hze : z ≠ 0
        · have hzb : (z != 0) = true := bne_iff_ne.2 hze
          go_wp2_with fail
          exact bodyPost_ret (v := .bool true) (by simp [results, Tryz.results8, go_sem]) rfl ⟨rfl, HBc.out⟩
        obtain rfl : z = 0 := Decidable.not_not.1 hze
        have hok : okP (x1, x2) = true ∧ okP (y1, y2) = true := by
          have h := HM.out
          unfold mulS at h
          split at h
          · rename_i h1; rw [Bool.and_eq_true] at h1; exact h1
          · exact absurd (show (2 : Int) = 0 from congrArg (·.2) h) (by decide)
        have hmm := mul_pt (sm_of hok.1 HSX.out.1.1 HSX.out.1.2) (sm_of hok.2 HSX.out.2.1 HSX.out.2.2) (by decide)
        rw [pt_pv hok.1, pt_pv hok.2, HM.out] at hmm
        have hBi : B[i]? = some (mulF (pv (x1, x2)) (pv (y1, y2))) := by
          rw [HBB.out]; unfold zmul; rw [List.getElem?_zipWith, List.getElem?_map, List.getElem?_map, HX.out, HY.out]; rfl
        generalize mulF (pv (x1, x2)) (pv (y1, y2)) = q at *
        have hr12 : (r1, r2) = ptOf q := congrArg (·.1) hmm
        have HQ := Lib.hid hr12; have HBI := Lib.hid hBi; have HOK := Lib.hid hok
        obtain ⟨yy0, yy1, yy2⟩ := part_at HN12.out
        have hown5 := owns_below HRc.out ((Below.refl _ _).alloc (Nat.le_refl _) (.cells #[.string r1, .string r2] 24))
        have hb5 : w.heap.size ≤ (wc.alloc (.cells #[.string r1, .string r2] 24)).heap.size := by rw [World.size_alloc]; have := HBc.out.size; omega
        clear hmm hr12 hBi hok hze
        go_wp2_with (at_builtin; go_loud (refine wpList_append_own_at _ rfl _ _ 34 rfl w.heap.size 24 i0 (.agg #[.string ⟨#[]⟩, .string ⟨#[]⟩]) 2 32 Tryz.underlying34 hi hz0 hz1 hz2 rfl (by decide) u10 i (partCells (B.take i)) rfl hown5 ⟨wc.heap.size, 0, none⟩ 1 1 [.string r1, .string r2] rfl rfl (cells_two_new _ _ _ _) ?c2 ?c3 ?c4 hb5 ?_))
        case c2 =>
          intro u hu
          simp only [List.mem_cons, List.not_mem_nil, or_false] at hu
          rcases hu with rfl | rfl <;> rfl
        case c3 => unfold maxLen; omega
        case c4 => omega
        intro v' w' hrow hg hnil hob
        have hbw : Below w.heap.size w w' := below_grown (HBc.out.alloc HBc.out.size (.cells #[.string r1, .string r2] 24)) (Nat.le_refl _) hg (owns_base hown5)
        have HROW := Lib.hid hrow; have HBW := Lib.hid hbw
        clear hrow hg hnil hob hown5 hb5 hbw yy0 yy1 yy2
        have hBt : B.take (i + 1) = B.take i ++ [q] := by rw [List.take_add_one, HBI.out]; rfl
        have hOt : os.take (i + 1) = os.take i ++ [(x1, x2)] := by rw [List.take_add_one, HX.out]; rfl
        have hTt : ts.take (i + 1) = ts.take i ++ [(y1, y2)] := by rw [List.take_add_one, HY.out]; rfl
        have HTK := Lib.hid (And.intro hBt (And.intro hOt hTt))
        clear hBt hOt hTt
        go_wp2_with fail
        refine ⟨⟨i + 1, by omega, rfl, HBW, Lib.hid ?_, Lib.hid ⟨?_, ?_⟩⟩, by simp [intOf]; omega⟩
        · rw [HTK.out.1, partCells_snoc]
          have e1 : r1 = dec q.1 := congrArg (·.1) HQ.out
          have e2 : r2 = dec q.2 := congrArg (·.2) HQ.out
          rw [← e1, ← e2]; exact HROW.out
        · intro p hp; rw [HTK.out.2.1] at hp
          rcases List.mem_append.1 hp with hp | hp
          · exact HO.out.1 p hp
          · simp only [List.mem_singleton] at hp; subst hp; exact HOK.out.1
        · intro p hp; rw [HTK.out.2.2] at hp
          rcases List.mem_append.1 hp with hp | hp
          · exact HO.out.2 p hp
          · simp only [List.mem_singleton] at hp; subst hp; exact HOK.out.2
    obtain rfl : N2 = i := by omega
    have OK1 : ∀ p ∈ os, okP p = true := fun p hp => HO.out.1 p (by rw [List.take_of_length_le (by omega)]; exact hp)
    have OK2 : ∀ p ∈ ts, okP p = true := fun p hp => HO.out.2 p (by rw [List.take_of_length_le (by omega)]; exact hp)
    have hBl : B.length = N2 := by rw [HBB.out, zmul_len, List.length_map, List.length_map]; omega
    have hpl := partL_of_owns (l := B) (by rw [hBl]; have := HR.out; rwa [List.take_of_length_le (by omega)] at this) (by omega)
    have sp := parts_sm OK0.out SZ0.out; have so := parts_sm OK1 SZ1.out; have st := parts_sm OK2 SZ2.out
    have sB : ∀ x ∈ B, Sm 24 x := by rw [HBB.out]; exact zmul_sm so st rfl
    have OKB := pts_ok (k := 24) (by decide) sB
    obtain ⟨X, hX⟩ : ∃ X, X = zmul (ps.map pv) (os.map pv) := ⟨_, rfl⟩
    obtain ⟨V, hV⟩ : ∃ V, V = zmul (ps.map pv) (ts.map pv) := ⟨_, rfl⟩
    obtain ⟨Z, hZ⟩ : ∃ Z, Z = zmul (ps.map pv) B := ⟨_, rfl⟩
    have f1 := upd_first (n := N2) hN0 hN1 (by omega) OK0.out OK1 sp so (by decide)
    have f2 := upd_first (n := N2) (qs := pts B) hN0 (by rw [pts_len]; exact hBl) (by omega) OK0.out OKB sp (ok_sm sB) (by decide)
    have f3 := upd_first (n := N2) hN0 hN2 (by omega) OK0.out OK2 sp st (by decide)
    rw [← hX] at f1; rw [pts_pv, ← hZ] at f2; rw [← hV] at f3
    have eXT : zmul X (ts.map pv) = Z := by rw [hX, hZ, HBB.out]; exact zmul_assoc _ _ _ (fun a h => (sp a h).fr) (fun a h => (so a h).fr) (fun a h => (st a h).fr)
    have eVO : zmul V (os.map pv) = Z := by rw [hV, hZ, HBB.out, zmul_comm (os.map pv)]; exact zmul_assoc _ _ _ (fun a h => (sp a h).fr) (fun a h => (st a h).fr) (fun a h => (so a h).fr)
    have sX : ∀ y ∈ X, Sm 24 y := by rw [hX]; exact zmul_sm sp so rfl
    have sV : ∀ y ∈ V, Sm 24 y := by rw [hV]; exact zmul_sm sp st rfl
    have lX : X.length = N2 := by rw [hX, zmul_len, List.length_map, List.length_map]; omega
    have lV : V.length = N2 := by rw [hV, zmul_len, List.length_map, List.length_map]; omega
    obtain ⟨p1, x, x1, x2, x3, x4⟩ := f1
    obtain ⟨p2, z, z1, z2, z3, z4⟩ := f2
    obtain ⟨p3, u, u1, u2, u3, u4⟩ := f3
    have LB := Lib.hid hpl; have SOB := Lib.hid (short_of_ok OKB)
    obtain ⟨ab, capb, e3⟩ := hpl.shape
    rw [pts_len, hBl] at e3
    subst e3
    clear hpl HR HO
    have hposr : 0 < wr.heap.size := Nat.lt_of_lt_of_le HPOS.out HB.out.size
    have HPR := Lib.hid hposr; clear hposr
    obtain ⟨⟨xs1, xs2⟩, hx⟩ : ∃ r, ptOf x = r := ⟨_, rfl⟩
    obtain ⟨⟨zs1, zs2⟩, hz⟩ : ∃ r, ptOf z = r := ⟨_, rfl⟩
    obtain ⟨⟨us1, us2⟩, hu⟩ : ∃ r, ptOf u = r := ⟨_, rfl⟩
    by_cases hx0 : x.1 = 0
    case pos =>
      have q1 := Lib.hid (x3 hx0); have q2 := Lib.hid (z3 (zmul_none sX st x1 (by rw [eXT]; exact z1) hx0))
      clear OK1 OK2 hBl sp so st sB OKB hX hV hZ eXT eVO sX sV lX lV p1 x1 x2 x3 x4 p2 z1 z2 z3 z4 p3 u1 u2 u3 u4 hx hz hu hx0
      go_wp2_with fail
      refine (upd_no (P0.out.below HB.out) (P1.out.below HB.out) SO0.out SO1.out (HT.out _ HB.out) (Nat.lt_of_lt_of_le HPOS.out HB.out.size) q1.out (by decide)).mono ?_
      rintro e w16 ⟨rfl, hb⟩
      obtain ⟨W16, hW16⟩ : ∃ W, W = w16.alloc (.cells #[.string ⟨#[]⟩, .string ⟨#[]⟩] 24) := ⟨_, rfl⟩
      have bb : Below w16.heap.size w16 W16 := by rw [hW16]; exact (Below.refl _ _).alloc (Nat.le_refl _) _
      have bq := hb.trans (bb.mono hb.size)
      have LBn := Lib.hid (LB.out.below bq); clear LB; have LB := LBn; clear LBn
      have HW16 := Lib.hid (HB.out.trans (bq.mono HB.out.size))
      have RW16 := Lib.hid (bq)
      have HEW16 := Lib.hid hW16
      have kn : W16.heap[w16.heap.size]? = some (partO ⟨#[]⟩ ⟨#[]⟩) := by rw [hW16]; exact Go.Deep.blk_alloc_new _ _
      have K16 := Lib.hid kn
      clear hb bb bq kn hW16
      go_wp2_with fail
      rw [← HEW16.out]
      refine (upd_no (P0.out.below HW16.out) LB.out SO0.out SOB.out (HT.out _ HW16.out) (Nat.lt_of_lt_of_le HPOS.out HW16.out.size) q2.out (by decide)).mono ?_
      rintro e w17 ⟨rfl, hb⟩
      obtain ⟨W17, hW17⟩ : ∃ W, W = w17.alloc (.cells #[.string ⟨#[]⟩, .string ⟨#[]⟩] 24) := ⟨_, rfl⟩
      have bb : Below w17.heap.size w17 W17 := by rw [hW17]; exact (Below.refl _ _).alloc (Nat.le_refl _) _
      have bq := hb.trans (bb.mono hb.size)
      have K16n := Lib.hid (part_on K16.out bq)
      clear K16; have K16 := K16n; clear K16n
      have LBn := Lib.hid (LB.out.below bq); clear LB; have LB := LBn; clear LBn
      have HW17 := Lib.hid (HW16.out.trans (bq.mono HW16.out.size))
      have RW17 := Lib.hid ((RW16.out.trans (bq.mono RW16.out.size)))
      have HEW17 := Lib.hid hW17
      have kn : W17.heap[w17.heap.size]? = some (partO ⟨#[]⟩ ⟨#[]⟩) := by rw [hW17]; exact Go.Deep.blk_alloc_new _ _
      have K17 := Lib.hid kn
      clear hb bb bq kn hW17
      go_wp2_with fail
      rw [← HEW17.out]
      exact bodyPost_ret (v := .bool true) (by simp [results, Tryz.results8, go_sem]) rfl ⟨rfl, HW17.out⟩
    by_cases hz0 : z.1 = 0
    case pos =>
      obtain ⟨e1, e2, e3, e4⟩ := upd_second lX hN2 (by omega) sX x2 hx0 OK2 st (by rw [eXT]; exact z1) z2 (by decide)
      have q1 := Lib.hid (x4 hx0); have q2 := Lib.hid (z3 hz0); have q3 := Lib.hid (e3 hz0)
      have x1h := Lib.hid x1; have p1h := Lib.hid p1; have hxh := Lib.hid hx
      have SOA := Lib.hid (short_of_ok (pts_ok (k := 24 + (1 + 6 * (12 + 12 + 1))) (by decide) (divs_sm sX x2 (by omega) rfl)))
      clear OK1 OK2 hBl sp so st sB OKB hX hV hZ eXT eVO sX sV lX lV p1 x1 x2 x3 x4 p2 z1 z2 z3 z4 p3 u1 u2 u3 u4 hx hz hu hx0 hz0 e1 e2 e3 e4
      go_wp2_with fail
      refine (upd_yes (L := X.map (divF · x)) (P0.out.below HB.out) (P1.out.below HB.out) SO0.out SO1.out (HT.out _ HB.out) (Nat.lt_of_lt_of_le HPOS.out HB.out.size) q1.out (by rw [p1h.out]; exact x1h.out) (by rw [p1h.out]) hN0 (by omega) hxh.out).mono ?_
      rintro e w16 ⟨hb, u16, c16, rfl, hpa⟩
      obtain ⟨W16, hW16⟩ : ∃ W, W = w16.alloc (.cells #[.string xs1, .string xs2] 24) := ⟨_, rfl⟩
      have bb : Below w16.heap.size w16 W16 := by rw [hW16]; exact (Below.refl _ _).alloc (Nat.le_refl _) _
      have bq := hb.trans (bb.mono hb.size)
      have LBn := Lib.hid (LB.out.below bq); clear LB; have LB := LBn; clear LBn
      have HW16 := Lib.hid (HB.out.trans (bq.mono HB.out.size))
      have RW16 := Lib.hid (bq)
      have HEW16 := Lib.hid hW16
      have kn : W16.heap[w16.heap.size]? = some (partO xs1 xs2) := by rw [hW16]; exact Go.Deep.blk_alloc_new _ _
      have K16 := Lib.hid kn
      have L16 := Lib.hid (hpa.below bb)
      clear hpa
      clear hb bb bq kn hW16
      go_wp2_with fail
      rw [← HEW16.out]
      refine (upd_no (P0.out.below HW16.out) LB.out SO0.out SOB.out (HT.out _ HW16.out) (Nat.lt_of_lt_of_le HPOS.out HW16.out.size) q2.out (by decide)).mono ?_
      rintro e w17 ⟨rfl, hb⟩
      obtain ⟨W17, hW17⟩ : ∃ W, W = w17.alloc (.cells #[.string ⟨#[]⟩, .string ⟨#[]⟩] 24) := ⟨_, rfl⟩
      have bb : Below w17.heap.size w17 W17 := by rw [hW17]; exact (Below.refl _ _).alloc (Nat.le_refl _) _
      have bq := hb.trans (bb.mono hb.size)
      have K16n := Lib.hid (part_on K16.out bq)
      clear K16; have K16 := K16n; clear K16n
      have LBn := Lib.hid (LB.out.below bq); clear LB; have LB := LBn; clear LBn
      have L16n := Lib.hid (L16.out.below bq); clear L16; have L16 := L16n; clear L16n
      have HW17 := Lib.hid (HW16.out.trans (bq.mono HW16.out.size))
      have RW17 := Lib.hid ((RW16.out.trans (bq.mono RW16.out.size)))
      have HEW17 := Lib.hid hW17
      have kn : W17.heap[w17.heap.size]? = some (partO ⟨#[]⟩ ⟨#[]⟩) := by rw [hW17]; exact Go.Deep.blk_alloc_new _ _
      have K17 := Lib.hid kn
      clear hb bb bq kn hW17
      go_wp2_with fail
      rw [← HEW17.out]
      refine (upd_no L16.out (P2.out.below HW17.out) SOA.out SO2.out (HT.out _ HW17.out) (Nat.lt_of_lt_of_le HPOS.out HW17.out.size) q3.out (by decide)).mono ?_
      rintro e w20 ⟨rfl, hb⟩
      obtain ⟨W20, hW20⟩ : ∃ W, W = w20.alloc (.cells #[.string ⟨#[]⟩, .string ⟨#[]⟩] 24) := ⟨_, rfl⟩
      have bb : Below w20.heap.size w20 W20 := by rw [hW20]; exact (Below.refl _ _).alloc (Nat.le_refl _) _
      have bq := hb.trans (bb.mono hb.size)
      have K16n := Lib.hid (part_on K16.out bq)
      have K17n := Lib.hid (part_on K17.out bq)
      clear K16; have K16 := K16n; clear K16n
      clear K17; have K17 := K17n; clear K17n
      have LBn := Lib.hid (LB.out.below bq); clear LB; have LB := LBn; clear LBn
      have L16n := Lib.hid (L16.out.below bq); clear L16; have L16 := L16n; clear L16n
      have HW20 := Lib.hid (HW17.out.trans (bq.mono HW17.out.size))
      have RW20 := Lib.hid ((RW17.out.trans (bq.mono RW17.out.size)))
      have HEW20 := Lib.hid hW20
      have kn : W20.heap[w20.heap.size]? = some (partO ⟨#[]⟩ ⟨#[]⟩) := by rw [hW20]; exact Go.Deep.blk_alloc_new _ _
      have K20 := Lib.hid kn
      clear hb bb bq kn hW20
      go_wp2_with fail
      rw [← HEW20.out]
      exact bodyPost_ret (v := .bool true) (by simp [results, Tryz.results8, go_sem]) rfl ⟨rfl, HW20.out⟩
    obtain ⟨e1, e2, e3, e4⟩ := upd_second lX hN2 (by omega) sX x2 hx0 OK2 st (by rw [eXT]; exact z1) z2 (by decide)
    have hu0 : u.1 ≠ 0 := fun h => hz0 (zmul_none sV so u1 (by rw [eVO]; exact z1) h)
    obtain ⟨g1, g2, g3, g4⟩ := upd_second lV hN1 (by omega) sV u2 hu0 OK1 so (by rw [eVO]; exact z1) z2 (by decide)
    obtain ⟨e5, e6⟩ := e4 hz0; obtain ⟨g5, g6⟩ := g4 hz0
    rw [eXT] at e6; rw [eVO] at g6
    have m1 := mul_pt x2 (z2.div x2 (by omega) rfl) (by decide)
    rw [mulF_back z2.fr x2.fr (by omega)] at m1
    have m2 := mul_pt u2 (z2.div u2 (by omega) rfl) (by decide)
    rw [mulF_back z2.fr u2.fr (by omega)] at m2
    obtain ⟨⟨ys1, ys2⟩, hy⟩ : ∃ r, ptOf (divF z x) = r := ⟨_, rfl⟩
    obtain ⟨⟨vs1, vs2⟩, hv⟩ : ∃ r, ptOf (divF z u) = r := ⟨_, rfl⟩
    have oy := pt_ok (z2.div x2 (by omega) rfl) (by decide); have ov := pt_ok (z2.div u2 (by omega) rfl) (by decide); have ox := pt_ok x2 (by decide); have ou := pt_ok u2 (by decide)
    rw [hx, hy, hz] at m1; rw [hu, hv, hz] at m2; rw [hy] at oy; rw [hv] at ov; rw [hx] at ox; rw [hu] at ou
    have HTT : ∀ W, Below wr.heap.size wr W → Tens W := fun W hW => HT.out W (HB.out.trans (hW.mono HB.out.size))
    have Q1 := useMul HTT m1 ox oy; have Q2 := useMul HTT m2 ou ov
    have q1 := Lib.hid (x4 hx0); have q2 := Lib.hid (z4 hz0); have q3 := Lib.hid e5; have q4 := Lib.hid (u4 hu0); have q5 := Lib.hid g5
    have x1h := Lib.hid x1; have p1h := Lib.hid p1; have hxh := Lib.hid hx; have z1h := Lib.hid z1; have p2h := Lib.hid p2; have hzh := Lib.hid hz; have u1h := Lib.hid u1; have p3h := Lib.hid p3; have huh := Lib.hid hu; have e2h := Lib.hid e2; have e6h := Lib.hid e6; have g2h := Lib.hid g2; have g6h := Lib.hid g6; have hyh := Lib.hid hy; have hvh := Lib.hid hv
    have SOA := Lib.hid (short_of_ok (pts_ok (k := 24 + (1 + 6 * (12 + 12 + 1))) (by decide) (divs_sm sX x2 (by omega) rfl)))
    have SOD := Lib.hid (short_of_ok (pts_ok (k := 24 + (1 + 6 * (12 + 12 + 1))) (by decide) (divs_sm sV u2 (by omega) rfl)))
    have HLA : Hid ((pts (X.map (divF · x))).length = N2) := Lib.hid (by rw [pts_len, List.length_map]; exact lX)
    have HLD : Hid ((pts (V.map (divF · u))).length = N2) := Lib.hid (by rw [pts_len, List.length_map]; exact lV)
    have HLZ : Hid ((pts (Z.map (divF · z))).length = N2) := Lib.hid (by rw [pts_len, List.length_map, hZ, zmul_len, List.length_map]; omega)
    clear OK1 OK2 hBl sp so st sB OKB hX hV hZ eXT eVO sX sV lX lV p1 x1 x2 x3 x4 p2 z1 z2 z3 z4 p3 u1 u2 u3 u4 hx hz hu hx0 hz0 hu0 e1 e2 e3 e4 e5 e6 g1 g2 g3 g4 g5 g6 m1 m2 hy hv oy ov ox ou HTT
    go_wp2_with fail
    refine (upd_yes (L := X.map (divF · x)) (P0.out.below HB.out) (P1.out.below HB.out) SO0.out SO1.out (HT.out _ HB.out) (Nat.lt_of_lt_of_le HPOS.out HB.out.size) q1.out (by rw [p1h.out]; exact x1h.out) (by rw [p1h.out]) hN0 (by omega) hxh.out).mono ?_
    rintro e w16 ⟨hb, u16, c16, rfl, hpa⟩
    obtain ⟨W16, hW16⟩ : ∃ W, W = w16.alloc (.cells #[.string xs1, .string xs2] 24) := ⟨_, rfl⟩
    have bb : Below w16.heap.size w16 W16 := by rw [hW16]; exact (Below.refl _ _).alloc (Nat.le_refl _) _
    have bq := hb.trans (bb.mono hb.size)
    have LBn := Lib.hid (LB.out.below bq); clear LB; have LB := LBn; clear LBn
    have HW16 := Lib.hid (HB.out.trans (bq.mono HB.out.size))
    have RW16 := Lib.hid (bq)
    have HEW16 := Lib.hid hW16
    have kn : W16.heap[w16.heap.size]? = some (partO xs1 xs2) := by rw [hW16]; exact Go.Deep.blk_alloc_new _ _
    have K16 := Lib.hid kn
    have L16 := Lib.hid (hpa.below bb)
    clear hpa
    clear hb bb bq kn hW16
    go_wp2_with fail
    rw [← HEW16.out]
    refine (upd_yes (L := Z.map (divF · z)) (P0.out.below HW16.out) LB.out SO0.out SOB.out (HT.out _ HW16.out) (Nat.lt_of_lt_of_le HPOS.out HW16.out.size) q2.out (by rw [p2h.out]; exact z1h.out) (by rw [p2h.out]) hN0 (by omega) hzh.out).mono ?_
    rintro e w17 ⟨hb, u17, c17, rfl, hpa⟩
    obtain ⟨W17, hW17⟩ : ∃ W, W = w17.alloc (.cells #[.string zs1, .string zs2] 24) := ⟨_, rfl⟩
    have bb : Below w17.heap.size w17 W17 := by rw [hW17]; exact (Below.refl _ _).alloc (Nat.le_refl _) _
    have bq := hb.trans (bb.mono hb.size)
    have K16n := Lib.hid (part_on K16.out bq)
    clear K16; have K16 := K16n; clear K16n
    have LBn := Lib.hid (LB.out.below bq); clear LB; have LB := LBn; clear LBn
    have L16n := Lib.hid (L16.out.below bq); clear L16; have L16 := L16n; clear L16n
    have HW17 := Lib.hid (HW16.out.trans (bq.mono HW16.out.size))
    have RW17 := Lib.hid ((RW16.out.trans (bq.mono RW16.out.size)))
    have HEW17 := Lib.hid hW17
    have kn : W17.heap[w17.heap.size]? = some (partO zs1 zs2) := by rw [hW17]; exact Go.Deep.blk_alloc_new _ _
    have K17 := Lib.hid kn
    have L17 := Lib.hid (hpa.below bb)
    clear hpa
    clear hb bb bq kn hW17
    go_wp2_with fail
    rw [← HEW17.out]
    refine (upd_yes (L := Z.map (divF · z)) L16.out (P2.out.below HW17.out) SOA.out SO2.out (HT.out _ HW17.out) (Nat.lt_of_lt_of_le HPOS.out HW17.out.size) q3.out e2h.out e6h.out HLA.out (by omega) hyh.out).mono ?_
    rintro e w20 ⟨hb, u20, c20, rfl, hpa⟩
    obtain ⟨W20, hW20⟩ : ∃ W, W = w20.alloc (.cells #[.string ys1, .string ys2] 24) := ⟨_, rfl⟩
    have bb : Below w20.heap.size w20 W20 := by rw [hW20]; exact (Below.refl _ _).alloc (Nat.le_refl _) _
    have bq := hb.trans (bb.mono hb.size)
    have K16n := Lib.hid (part_on K16.out bq)
    have K17n := Lib.hid (part_on K17.out bq)
    clear K16; have K16 := K16n; clear K16n
    clear K17; have K17 := K17n; clear K17n
    have LBn := Lib.hid (LB.out.below bq); clear LB; have LB := LBn; clear LBn
    have L16n := Lib.hid (L16.out.below bq); clear L16; have L16 := L16n; clear L16n
    have L17n := Lib.hid (L17.out.below bq); clear L17; have L17 := L17n; clear L17n
    have HW20 := Lib.hid (HW17.out.trans (bq.mono HW17.out.size))
    have RW20 := Lib.hid ((RW17.out.trans (bq.mono RW17.out.size)))
    have HEW20 := Lib.hid hW20
    have kn : W20.heap[w20.heap.size]? = some (partO ys1 ys2) := by rw [hW20]; exact Go.Deep.blk_alloc_new _ _
    have K20 := Lib.hid kn
    have L20 := Lib.hid (hpa.below bb)
    clear hpa
    clear hb bb bq kn hW20
    go_wp2_with fail
    rw [← HEW20.out]
    refine (upd_yes (L := V.map (divF · u)) (P0.out.below HW20.out) (P2.out.below HW20.out) SO0.out SO2.out (HT.out _ HW20.out) (Nat.lt_of_lt_of_le HPOS.out HW20.out.size) q4.out (by rw [p3h.out]; exact u1h.out) (by rw [p3h.out]) hN0 (by omega) huh.out).mono ?_
    rintro e w23 ⟨hb, u23, c23, rfl, hpa⟩
    obtain ⟨W23, hW23⟩ : ∃ W, W = w23.alloc (.cells #[.string us1, .string us2] 24) := ⟨_, rfl⟩
    have bb : Below w23.heap.size w23 W23 := by rw [hW23]; exact (Below.refl _ _).alloc (Nat.le_refl _) _
    have bq := hb.trans (bb.mono hb.size)
    have K16n := Lib.hid (part_on K16.out bq)
    have K17n := Lib.hid (part_on K17.out bq)
    have K20n := Lib.hid (part_on K20.out bq)
    clear K16; have K16 := K16n; clear K16n
    clear K17; have K17 := K17n; clear K17n
    clear K20; have K20 := K20n; clear K20n
    have LBn := Lib.hid (LB.out.below bq); clear LB; have LB := LBn; clear LBn
    have L16n := Lib.hid (L16.out.below bq); clear L16; have L16 := L16n; clear L16n
    have L17n := Lib.hid (L17.out.below bq); clear L17; have L17 := L17n; clear L17n
    have L20n := Lib.hid (L20.out.below bq); clear L20; have L20 := L20n; clear L20n
    have HW23 := Lib.hid (HW20.out.trans (bq.mono HW20.out.size))
    have RW23 := Lib.hid ((RW20.out.trans (bq.mono RW20.out.size)))
    have HEW23 := Lib.hid hW23
    have kn : W23.heap[w23.heap.size]? = some (partO us1 us2) := by rw [hW23]; exact Go.Deep.blk_alloc_new _ _
    have K23 := Lib.hid kn
    have L23 := Lib.hid (hpa.below bb)
    clear hpa
    clear hb bb bq kn hW23
    go_wp2_with fail
    rw [← HEW23.out]
    refine (upd_yes (L := Z.map (divF · z)) L23.out (P1.out.below HW23.out) SOD.out SO1.out (HT.out _ HW23.out) (Nat.lt_of_lt_of_le HPOS.out HW23.out.size) q5.out g2h.out g6h.out HLD.out (by omega) hvh.out).mono ?_
    rintro e w26 ⟨hb, u26, c26, rfl, hpa⟩
    obtain ⟨W26, hW26⟩ : ∃ W, W = w26.alloc (.cells #[.string vs1, .string vs2] 24) := ⟨_, rfl⟩
    have bb : Below w26.heap.size w26 W26 := by rw [hW26]; exact (Below.refl _ _).alloc (Nat.le_refl _) _
    have bq := hb.trans (bb.mono hb.size)
    have K16n := Lib.hid (part_on K16.out bq)
    have K17n := Lib.hid (part_on K17.out bq)
    have K20n := Lib.hid (part_on K20.out bq)
    have K23n := Lib.hid (part_on K23.out bq)
    obtain ⟨y160, y161, y162⟩ := part_at (part_on K16.out hb)
    obtain ⟨y200, y201, y202⟩ := part_at (part_on K20.out hb)
    clear K16; have K16 := K16n; clear K16n
    clear K17; have K17 := K17n; clear K17n
    clear K20; have K20 := K20n; clear K20n
    clear K23; have K23 := K23n; clear K23n
    have LBn := Lib.hid (LB.out.below bq); clear LB; have LB := LBn; clear LBn
    have L16n := Lib.hid (L16.out.below bq); clear L16; have L16 := L16n; clear L16n
    have L17n := Lib.hid (L17.out.below bq); clear L17; have L17 := L17n; clear L17n
    have L20n := Lib.hid (L20.out.below bq); clear L20; have L20 := L20n; clear L20n
    have L23n := Lib.hid (L23.out.below bq); clear L23; have L23 := L23n; clear L23n
    have HW26 := Lib.hid (HW23.out.trans (bq.mono HW23.out.size))
    have RW26 := Lib.hid ((RW23.out.trans (bq.mono RW23.out.size)))
    have HEW26 := Lib.hid hW26
    have kn : W26.heap[w26.heap.size]? = some (partO vs1 vs2) := by rw [hW26]; exact Go.Deep.blk_alloc_new _ _
    have K26 := Lib.hid kn
    have L26 := Lib.hid (hpa.below bb)
    clear hpa
    clear hb bb bq kn hW26
    go_wp2_with fail
    rw [← HEW26.out]
    clear y160 y161 y162 y200 y201 y202
    refine (Q1.out _ RW26.out).mono ?_
    rintro e w28 ⟨rfl, hb⟩
    obtain ⟨W28, hW28⟩ : ∃ W, W = w28.alloc (.cells #[.string zs1, .string zs2] 24) := ⟨_, rfl⟩
    have bb : Below w28.heap.size w28 W28 := by rw [hW28]; exact (Below.refl _ _).alloc (Nat.le_refl _) _
    have bq := hb.trans (bb.mono hb.size)
    have K16n := Lib.hid (part_on K16.out bq)
    have K17n := Lib.hid (part_on K17.out bq)
    have K20n := Lib.hid (part_on K20.out bq)
    have K23n := Lib.hid (part_on K23.out bq)
    have K26n := Lib.hid (part_on K26.out bq)
    obtain ⟨y230, y231, y232⟩ := part_at (part_on K23.out hb)
    obtain ⟨y260, y261, y262⟩ := part_at (part_on K26.out hb)
    clear K16; have K16 := K16n; clear K16n
    clear K17; have K17 := K17n; clear K17n
    clear K20; have K20 := K20n; clear K20n
    clear K23; have K23 := K23n; clear K23n
    clear K26; have K26 := K26n; clear K26n
    have LBn := Lib.hid (LB.out.below bq); clear LB; have LB := LBn; clear LBn
    have L16n := Lib.hid (L16.out.below bq); clear L16; have L16 := L16n; clear L16n
    have L17n := Lib.hid (L17.out.below bq); clear L17; have L17 := L17n; clear L17n
    have L20n := Lib.hid (L20.out.below bq); clear L20; have L20 := L20n; clear L20n
    have L23n := Lib.hid (L23.out.below bq); clear L23; have L23 := L23n; clear L23n
    have L26n := Lib.hid (L26.out.below bq); clear L26; have L26 := L26n; clear L26n
    have HW28 := Lib.hid (HW26.out.trans (bq.mono HW26.out.size))
    have RW28 := Lib.hid ((RW26.out.trans (bq.mono RW26.out.size)))
    have HEW28 := Lib.hid hW28
    have kn : W28.heap[w28.heap.size]? = some (partO zs1 zs2) := by rw [hW28]; exact Go.Deep.blk_alloc_new _ _
    have K28 := Lib.hid kn
    clear hb bb bq kn hW28
    go_wp2_with fail
    rw [← HEW28.out]
    clear y230 y231 y232 y260 y261 y262
    refine (Q2.out _ RW28.out).mono ?_
    rintro e w30 ⟨rfl, hb⟩
    obtain ⟨W30, hW30⟩ : ∃ W, W = w30.alloc (.cells #[.string zs1, .string zs2] 24) := ⟨_, rfl⟩
    have bb : Below w30.heap.size w30 W30 := by rw [hW30]; exact (Below.refl _ _).alloc (Nat.le_refl _) _
    have bq := hb.trans (bb.mono hb.size)
    have K16n := Lib.hid (part_on K16.out bq)
    have K17n := Lib.hid (part_on K17.out bq)
    have K20n := Lib.hid (part_on K20.out bq)
    have K23n := Lib.hid (part_on K23.out bq)
    have K26n := Lib.hid (part_on K26.out bq)
    have K28n := Lib.hid (part_on K28.out bq)
    clear K16; have K16 := K16n; clear K16n
    clear K17; have K17 := K17n; clear K17n
    clear K20; have K20 := K20n; clear K20n
    clear K23; have K23 := K23n; clear K23n
    clear K26; have K26 := K26n; clear K26n
    clear K28; have K28 := K28n; clear K28n
    have LBn := Lib.hid (LB.out.below bq); clear LB; have LB := LBn; clear LBn
    have L16n := Lib.hid (L16.out.below bq); clear L16; have L16 := L16n; clear L16n
    have L17n := Lib.hid (L17.out.below bq); clear L17; have L17 := L17n; clear L17n
    have L20n := Lib.hid (L20.out.below bq); clear L20; have L20 := L20n; clear L20n
    have L23n := Lib.hid (L23.out.below bq); clear L23; have L23 := L23n; clear L23n
    have L26n := Lib.hid (L26.out.below bq); clear L26; have L26 := L26n; clear L26n
    have HW30 := Lib.hid (HW28.out.trans (bq.mono HW28.out.size))
    have RW30 := Lib.hid ((RW28.out.trans (bq.mono RW28.out.size)))
    have HEW30 := Lib.hid hW30
    have kn : W30.heap[w30.heap.size]? = some (partO zs1 zs2) := by rw [hW30]; exact Go.Deep.blk_alloc_new _ _
    have K30 := Lib.hid kn
    clear hb bb bq kn hW30
    go_wp2_with fail
    rw [← HEW30.out]
    go_loopw [212] (fun iv wr => ∃ i : Nat, i ≤ N2 ∧ iv = .int .i64 i ∧ Hid (Below W30.heap.size W30 wr)) (fun iv _ => N2 - (intOf iv).toNat)
    case atStart => exact ⟨0, Nat.zero_le _, rfl, Lib.hid (Below.refl _ _)⟩
    case round =>
      obtain ⟨i, hi2, rfl, HBl⟩ := hrel
      by_cases hlt : i < N2
      case pos =>
        have hzl := HLZ.out
        obtain ⟨b17, o17, e17, -, x17, y17⟩ := partL_at' (L17.out.below HBl.out) (i := i) (by rw [hzl]; exact hlt)
        obtain ⟨b20, o20, e20, -, x20, y20⟩ := partL_at' (L20.out.below HBl.out) (i := i) (by rw [hzl]; exact hlt)
        obtain ⟨b26, o26, e26, -, x26, y26⟩ := partL_at' (L26.out.below HBl.out) (i := i) (by rw [hzl]; exact hlt)
        subst e17 e20 e26
        generalize (pts (Z.map (divF · z)))[i]'(by rw [hzl]; exact hlt) = px at *
        obtain ⟨x1, x2⟩ := px
        have hx0 : (0 : Int) ≤ (i : Int) := by omega
        have hx1 : (i : Int) < (N2 : Int) := by omega
        have hxw : IntKind.i64.wrap (i : Int) = (i : Int) := IntWalk.i64_in _ (by omega)
        go_wp2_with fail
        go_quiet (fail)
        go_wp2_with fail
        exact ⟨⟨i + 1, by omega, rfl, Lib.hid (below_drewN HBl.out nq)⟩, by simp [intOf]; omega⟩
      obtain rfl : N2 = i := by omega
      obtain ⟨y170, y171, y172⟩ := part_at (part_on K17.out HBl.out)
      obtain ⟨y280, y281, y282⟩ := part_at (part_on K28.out HBl.out)
      obtain ⟨y300, y301, y302⟩ := part_at (part_on K30.out HBl.out)
      go_wp2_with fail
      exact bodyPost_ret (v := .bool true) (by simp [results, Tryz.results8, go_sem]) rfl ⟨rfl, HW30.out.trans (HBl.out.mono HW30.out.size)⟩
end Go.Proofs.YtkggfeemjabdeaaGreatDoor.Wc
end
