/- Layer 8 (tracks): lengths of a track turned round, and of its parts: the mathematics. Layer 8 (tracks): a list turned round in place, and parts of a list: the mathematics. -/
import Derived.Test.YthihccmombcihaaPb1
section
namespace Go.Proofs.Ythihccmombcihaa.Tk
open Go Go.Proofs.Ythihccmombcihaa.Sx Go.RowKit

/-! ### Sums -/
theorem sumTo_congr {f g : Int → Int} : ∀ n : Nat, (∀ k : Nat, k < n → f k = g k) → sumTo f n = sumTo g n
  | 0, _ => rfl
  | n + 1, h => by simp only [sumTo]; rw [sumTo_congr n fun k hk => h k (by omega), h n (by omega)]
theorem sumTo_add (f : Int → Int) (a : Nat) : ∀ b : Nat, sumTo f (a + b) = sumTo f a + sumTo (fun q => f ((a : Int) + q)) b
  | 0 => by simp [sumTo]
  | b + 1 => by
    rw [← Nat.add_assoc]
    simp only [sumTo]
    rw [sumTo_add f a b]
    have : ((a + b : Nat) : Int) = (a : Int) + (b : Int) := by omega
    rw [this]
    omega
theorem sumTo_head (f : Int → Int) (n : Nat) : sumTo f (n + 1) = f 0 + sumTo (fun q => f (q + 1)) n := by
  have h := sumTo_add f 1 n
  rw [Nat.add_comm 1 n] at h
  rw [h]
  have e : sumTo f 1 = f 0 := by simp [sumTo]
  rw [e]
  congr 1
  exact sumTo_congr n fun k _ => by congr 1; omega
theorem sumTo_flip (g : Int → Int) : ∀ n : Nat, sumTo (fun k => g ((n : Int) - 1 - k)) n = sumTo g n
  | 0 => rfl
  | n + 1 => by
    rw [sumTo_head (fun k => g (((n + 1 : Nat) : Int) - 1 - k)) n]
    have h := sumTo_flip g n
    simp only [sumTo]
    rw [← h, Int.add_comm]
    congr 1
    · exact sumTo_congr n fun k _ => by congr 1; omega
    · congr 1; omega
/-! ### A list turned round -/
def Rev (n : Int) (l r : LL) : Prop := ∀ k, 0 ≤ k → k < n → sX r k = sX l (n - 1 - k) ∧ sY r k = sY l (n - 1 - k)
theorem ab_neg (x : Int) : ab (-x) = ab x := by unfold ab; split <;> split <;> omega
theorem wayB_neg (u v : Int) : wayB (-u) (-v) = wayB u v := by
  rw [Bool.eq_iff_iff, wayB_iff, wayB_iff]; omega
section
variable {n : Int} {l r : LL} (h : Rev n l r)
include h
theorem rev_leg {k : Int} (h1 : 1 ≤ k) (hk : k < n) : sX r k - sX r (k - 1) = -(sX l (n - k) - sX l (n - k - 1)) ∧ sY r k - sY r (k - 1) = -(sY l (n - k) - sY l (n - k - 1)) := by
  have a := h k (by omega) hk
  have b := h (k - 1) (by omega) (by omega)
  rw [show n - 1 - k = n - k - 1 by omega] at a
  rw [show n - 1 - (k - 1) = n - k by omega] at b
  omega
theorem rev_str {k : Int} (h1 : 1 ≤ k) (hk : k < n) : strW r k = strW l (n - k) ∧ diaW r k = diaW l (n - k) := by
  obtain ⟨e1, e2⟩ := rev_leg h h1 hk
  unfold strW diaW
  simp only [if_neg (show ¬ k = 0 by omega), if_neg (show ¬ n - k = 0 by omega), e1, e2, ab_neg]
  exact ⟨trivial, trivial⟩
theorem rev_track (ht : trackB n l = true) : trackB n r = true := by
  obtain ⟨hn, hs, hl⟩ := track_iff.1 ht
  refine track_iff.2 ⟨hn, allTo_of fun k h0 hk => ?_, allTo_of fun k h0 hk => ?_⟩
  · have a := h k h0 hk
    have b := spB_iff.1 (allTo_at hs (k := n - 1 - k) (by omega) (by omega))
    refine spB_iff.2 ?_
    rw [a.1, a.2]; exact b
  · by_cases hz : k = 0
    · subst hz; rfl
    · obtain ⟨e1, e2⟩ := rev_leg h (k := k) (by omega) hk
      have b := allTo_at hl (k := n - k) (by omega) (by omega)
      rw [legB_iff (by omega)] at b
      rw [legB_iff hz, e1, e2, wayB_neg]; exact b
theorem rev_sum {f g : Int → Int} (hn : 1 ≤ n) (f0 : f 0 = 0) (g0 : g 0 = 0) (hfg : ∀ k, 1 ≤ k → k < n → f k = g (n - k)) : sumTo f n.toNat = sumTo g n.toNat := by
  have _ := h
  obtain ⟨m, hm⟩ : ∃ m, n.toNat = m + 1 := ⟨n.toNat - 1, by omega⟩
  rw [hm, sumTo_head, sumTo_head, f0, g0, ← sumTo_flip (fun q => g (q + 1)) m]
  congr 1
  refine sumTo_congr m fun k hk => ?_
  rw [hfg _ (by omega) (by omega)]
  congr 1
  omega
theorem rev_len (ht : trackB n l = true) : strF n r = strF n l ∧ diaF n r = diaF n l := by
  have hn := (track_iff.1 ht).1
  exact ⟨rev_sum h (by omega) rfl rfl fun k h1 hk => (rev_str h h1 hk).1, rev_sum h (by omega) rfl rfl fun k h1 hk => (rev_str h h1 hk).2⟩
end
/-! ### A part of a list -/
def Part (a m : Int) (l p : LL) : Prop := ∀ k, 0 ≤ k → k < m → sX p k = sX l (a + k) ∧ sY p k = sY l (a + k)
theorem part_track {a m n : Int} {l p : LL} (h : Part a m l p) (ha : 0 ≤ a) (hm : 2 ≤ m) (hn : a + m ≤ n) (ht : trackB n l = true) : trackB m p = true := by
  obtain ⟨h0, hs, hl⟩ := track_iff.1 ht
  refine track_iff.2 ⟨by omega, allTo_of fun k k0 hk => ?_, allTo_of fun k k0 hk => ?_⟩
  · have b := h k k0 hk
    refine spB_iff.2 ?_
    rw [b.1, b.2]
    exact spB_iff.1 (allTo_at hs (by omega) (by omega))
  · by_cases hz : k = 0
    · subst hz; rfl
    · have b := h k k0 hk
      have c := h (k - 1) (by omega) (by omega)
      have d := allTo_at hl (k := a + k) (by omega) (by omega)
      rw [legB_iff (by omega)] at d
      rw [legB_iff hz, b.1, b.2, c.1, c.2, show a + (k - 1) = a + k - 1 by omega]
      exact d
theorem part_W {a m : Int} {l p : LL} (h : Part a m l p) {k : Int} (ha : 0 ≤ a) (h1 : 1 ≤ k) (hk : k < m) : strW p k = strW l (a + k) ∧ diaW p k = diaW l (a + k) := by
  have b := h k (by omega) hk
  have c := h (k - 1) (by omega) (by omega)
  unfold strW diaW
  simp only [if_neg (show ¬ k = 0 by omega), if_neg (show ¬ a + k = 0 by omega), b.1, b.2, c.1, c.2, show a + (k - 1) = a + k - 1 by omega]
  exact ⟨trivial, trivial⟩
theorem part_sum {a m : Int} {f g : Int → Int} (ha : 0 ≤ a) (hm : 1 ≤ m) (f0 : f 0 = 0) (hfg : ∀ k, 1 ≤ k → k < m → f k = g (a + k)) : sumTo f m.toNat + sumTo g (a + 1).toNat = sumTo g (a + m).toNat := by
  obtain ⟨q, hq⟩ : ∃ q, m.toNat = q + 1 := ⟨m.toNat - 1, by omega⟩
  rw [hq, sumTo_head, f0, show (a + m).toNat = (a + 1).toNat + q by omega, sumTo_add]
  have : sumTo (fun q => f (q + 1)) q = sumTo (fun q => g (((a + 1).toNat : Int) + q)) q := sumTo_congr q fun k hk => by
    rw [hfg _ (by omega) (by omega)]
    congr 1
    omega
  omega
/-! ### Roots -/
theorem mul_sq_le {a b c d : Int} (_ha : 0 ≤ a) (_hb : 0 ≤ b) (hc : 0 ≤ c) (hd : 0 ≤ d) (h1 : a * a ≤ 2 * (c * c)) (h2 : b * b ≤ 2 * (d * d)) : a * b ≤ 2 * (c * d) := by
  rcases Int.lt_or_le (2 * (c * d)) (a * b) with h | h
  · exfalso
    have k1 : 0 ≤ 2 * (c * d) := by have := Int.mul_nonneg hc hd; omega
    have k2 := sq_lt k1 h
    have k3 : (a * b) * (a * b) = (a * a) * (b * b) := by grind
    have k4 : (2 * (c * d)) * (2 * (c * d)) = (2 * (c * c)) * (2 * (d * d)) := by grind
    have k5 : (a * a) * (b * b) ≤ (2 * (c * c)) * (2 * (d * d)) := Int.mul_le_mul h1 h2 (sq_nn b) (by have := sq_nn c; omega)
    omega
  · exact h
theorem mul_sq_lt {a b c d : Int} (ha : 0 ≤ a) (hb : 0 ≤ b) (_hc : 0 ≤ c) (_hd : 0 ≤ d) (h1 : 2 * (c * c) < a * a) (h2 : 2 * (d * d) < b * b) : 2 * (c * d) < a * b := by
  rcases Int.lt_or_le (2 * (c * d)) (a * b) with h | h
  · exact h
  · exfalso
    have k2 := sq_le (Int.mul_nonneg ha hb) h
    have k3 : (a * b) * (a * b) = (a * a) * (b * b) := by grind
    have k4 : (2 * (c * d)) * (2 * (c * d)) = (2 * (c * c)) * (2 * (d * d)) := by grind
    have k5 : (2 * (c * c)) * (2 * (d * d)) ≤ (2 * (c * c)) * (b * b) := Int.mul_le_mul_of_nonneg_left (by omega) (by have := sq_nn c; omega)
    have k6 : (2 * (c * c)) * (b * b) < (a * a) * (b * b) := Int.mul_lt_mul_of_pos_right h1 (by have := sq_nn d; omega)
    omega
theorem root_add {c d : Int} (hc : 0 ≤ c) (hd : 0 ≤ d) : root2 c + root2 d ≤ root2 (c + d) := by
  obtain ⟨a0, -, a2, -⟩ := root2_spec hc
  obtain ⟨b0, -, b2, -⟩ := root2_spec hd
  obtain ⟨e0, -, -, e3⟩ := root2_spec (d := c + d) (by omega)
  rcases Int.lt_or_le (root2 (c + d)) (root2 c + root2 d) with h | h
  · exfalso
    have k := mul_sq_le a0 b0 hc hd a2 b2
    have s := sq_le (a := root2 (c + d) + 1) (b := root2 c + root2 d) (by omega) (by omega)
    have x : (root2 c + root2 d) * (root2 c + root2 d) = root2 c * root2 c + root2 d * root2 d + 2 * (root2 c * root2 d) := by grind
    have y : 2 * ((c + d) * (c + d)) = 2 * (c * c) + 2 * (d * d) + 4 * (c * d) := by grind
    omega
  · exact h
theorem root_up {c d : Int} (hc : 0 < c) (hd : 0 < d) : root2 (c + d) < root2 c + 1 + (root2 d + 1) := by
  obtain ⟨a0, -, -, a3⟩ := root2_spec (d := c) (by omega)
  obtain ⟨b0, -, -, b3⟩ := root2_spec (d := d) (by omega)
  obtain ⟨e0, -, e2, -⟩ := root2_spec (d := c + d) (by omega)
  rcases Int.lt_or_le (root2 (c + d)) (root2 c + 1 + (root2 d + 1)) with h | h
  · exact h
  · exfalso
    have k := mul_sq_lt (a := root2 c + 1) (b := root2 d + 1) (by omega) (by omega) (by omega) (by omega) a3 b3
    have s := sq_le (a := root2 c + 1 + (root2 d + 1)) (b := root2 (c + d)) (by omega) h
    have x : (root2 c + 1 + (root2 d + 1)) * (root2 c + 1 + (root2 d + 1)) = (root2 c + 1) * (root2 c + 1) + (root2 d + 1) * (root2 d + 1) + 2 * ((root2 c + 1) * (root2 d + 1)) := by grind
    have y : 2 * ((c + d) * (c + d)) = 2 * (c * c) + 2 * (d * d) + 4 * (c * d) := by grind
    omega
theorem root_ge {d : Int} (hd : 0 ≤ d) : d ≤ root2 d := by
  obtain ⟨a0, -, -, a3⟩ := root2_spec hd
  rcases Int.lt_or_le (root2 d) d with h | h
  · have := sq_le (a := root2 d + 1) (b := d) (by omega) (by omega)
    have := sq_nn d
    omega
  · exact h
theorem root_zero : root2 0 = 0 := rfl
/-! ### What is said of lengths -/
theorem far_le {n : Int} {l : LL} (hs : allTo n (spB l) = true) (hl : allTo n (legB l) = true) : ∀ k : Nat, (k : Int) < n → ab (sX l k - sX l 0) ≤ sumTo (strW l) (k + 1) + sumTo (diaW l) (k + 1) ∧ ab (sY l k - sY l 0) ≤ sumTo (strW l) (k + 1) + sumTo (diaW l) (k + 1)
  | 0, _ => by
    have a : ab 0 = 0 := rfl
    simp [sumTo, strW, diaW, a]
  | k + 1, hk => by
    have ih := far_le hs hl k (by omega)
    have p1 := ab_or (sX l k - sX l 0)
    have p2 := ab_or (sY l k - sY l 0)
    have p3 := ab_or (sX l ((k + 1 : Nat) : Int) - sX l 0)
    have p4 := ab_or (sY l ((k + 1 : Nat) : Int) - sY l 0)
    have p5 := ab_or (sX l ((k + 1 : Nat) : Int) - sX l k)
    have p6 := ab_or (sY l ((k + 1 : Nat) : Int) - sY l k)
    have e1 : sumTo (strW l) (k + 1 + 1) = sumTo (strW l) (k + 1) + strW l ((k + 1 : Nat) : Int) := rfl
    have e2 : sumTo (diaW l) (k + 1 + 1) = sumTo (diaW l) (k + 1) + diaW l ((k + 1 : Nat) : Int) := rfl
    have q1 : strW l ((k + 1 : Nat) : Int) = if ab (sX l ((k + 1 : Nat) : Int) - sX l k) = ab (sY l ((k + 1 : Nat) : Int) - sY l k) then 0 else ab (sX l ((k + 1 : Nat) : Int) - sX l k) + ab (sY l ((k + 1 : Nat) : Int) - sY l k) := by
      unfold strW; rw [if_neg (by omega), show ((k + 1 : Nat) : Int) - 1 = k by omega]
    have q2 : diaW l ((k + 1 : Nat) : Int) = if ab (sX l ((k + 1 : Nat) : Int) - sX l k) = ab (sY l ((k + 1 : Nat) : Int) - sY l k) then ab (sX l ((k + 1 : Nat) : Int) - sX l k) else 0 := by
      unfold diaW; rw [if_neg (by omega), show ((k + 1 : Nat) : Int) - 1 = k by omega]
    rw [e1, e2]
    by_cases hq : ab (sX l ((k + 1 : Nat) : Int) - sX l k) = ab (sY l ((k + 1 : Nat) : Int) - sY l k)
    · rw [if_pos hq] at q1 q2
      omega
    · rw [if_neg hq] at q1 q2
      omega
theorem err_0 {n : Int} {l : LL} (h : trackB n l = true) : errT n l = 0 := by unfold errT; rw [if_pos h]
theorem low_is {n : Int} {l : LL} (h : trackB n l = true) : lowF n l = strF n l + root2 (diaF n l) := by unfold lowF; rw [if_pos h]
theorem high_is {n : Int} {l : LL} (h : trackB n l = true) : highF n l = (if 0 < diaF n l then strF n l + root2 (diaF n l) + 1 else strF n l + root2 (diaF n l)) := by unfold highF; rw [if_pos h]
theorem dia_nn {n : Int} {l : LL} (h : trackB n l = true) : 0 ≤ diaF n l ∧ 0 ≤ strF n l := by
  have t := track_iff.1 h
  have := strF_rng t.2.1 n.toNat (by omega)
  unfold diaF strF
  omega
theorem long_one {n : Int} {l : LL} (h : trackB n l = true) : lowF n l ≤ highF n l ∧ highF n l ≤ lowF n l + 1 ∧ lowF n l ≤ strF n l + 2 * diaF n l ∧ ab (sX l (n - 1) - sX l 0) ≤ highF n l ∧ ab (sY l (n - 1) - sY l 0) ≤ highF n l := by
  have t := track_iff.1 h
  have d := dia_nn h
  have r := root2_spec d.1
  have g := root_ge d.1
  have f := far_le t.2.1 t.2.2 (n.toNat - 1) (by omega)
  rw [show n.toNat - 1 + 1 = n.toNat by omega, show ((n.toNat - 1 : Nat) : Int) = n - 1 by omega] at f
  rw [low_is h, high_is h]
  unfold strF diaF at *
  split <;> omega
theorem long_rev {n : Int} {l r : LL} (h : trackB n l = true) (hr : Rev n l r) : errT n r = 0 ∧ lowF n r = lowF n l ∧ highF n r = highF n l := by
  have t := rev_track hr h
  obtain ⟨e1, e2⟩ := rev_len hr h
  refine ⟨err_0 t, ?_, ?_⟩
  · rw [low_is t, low_is h, e1, e2]
  · rw [high_is t, high_is h, e1, e2]
theorem long_two {n k : Int} {l p q : LL} (h : trackB n l = true) (h0 : 1 ≤ k) (hk : k < n - 1) (hp : Part 0 (k + 1) l p) (hq : Part k (n - k) l q) :
    errT (k + 1) p = 0 ∧ errT (n - k) q = 0 ∧ lowF (k + 1) p + lowF (n - k) q ≤ lowF n l ∧ highF n l ≤ highF (k + 1) p + highF (n - k) q ∧ highF (k + 1) p + highF (n - k) q - lowF (k + 1) p - lowF (n - k) q ≤ 2 := by
  have t1 := part_track hp (by omega) (by omega) (by omega) h
  have t2 := part_track hq (by omega) (by omega) (by omega) h
  have d := dia_nn h
  have d1 := dia_nn t1
  have d2 := dia_nn t2
  have s1 := part_sum (a := 0) (m := k + 1) (f := strW p) (g := strW l) (by omega) (by omega) rfl fun j j1 j2 => (part_W hp (by omega) j1 j2).1
  have s2 := part_sum (a := k) (m := n - k) (f := strW q) (g := strW l) (by omega) (by omega) rfl fun j j1 j2 => (part_W hq (by omega) j1 j2).1
  have u1 := part_sum (a := 0) (m := k + 1) (f := diaW p) (g := diaW l) (by omega) (by omega) rfl fun j j1 j2 => (part_W hp (by omega) j1 j2).2
  have u2 := part_sum (a := k) (m := n - k) (f := diaW q) (g := diaW l) (by omega) (by omega) rfl fun j j1 j2 => (part_W hq (by omega) j1 j2).2
  have z1 : sumTo (strW l) ((0 : Int) + 1).toNat = 0 := rfl
  have z2 : sumTo (diaW l) ((0 : Int) + 1).toNat = 0 := rfl
  rw [z1, show (0 : Int) + (k + 1) = k + 1 by omega] at s1
  rw [z2, show (0 : Int) + (k + 1) = k + 1 by omega] at u1
  rw [show k + (n - k) = n by omega] at s2 u2
  have es : strF n l = strF (k + 1) p + strF (n - k) q := by unfold strF; omega
  have ed : diaF n l = diaF (k + 1) p + diaF (n - k) q := by unfold diaF; omega
  refine ⟨err_0 t1, err_0 t2, ?_⟩
  rw [low_is h, low_is t1, low_is t2, high_is h, high_is t1, high_is t2, es, ed]
  have ra := root_add d1.1 d2.1
  generalize diaF (k + 1) p = c at *
  generalize diaF (n - k) q = e at *
  rcases Int.lt_or_le 0 c with hc | hc
  · rcases Int.lt_or_le 0 e with he | he
    · have ru := root_up hc he
      rw [if_pos (by omega), if_pos hc, if_pos he]
      omega
    · obtain rfl : e = 0 := by omega
      simp only [Int.add_zero, root_zero, if_pos hc, if_neg (Int.lt_irrefl 0)]
      omega
  · obtain rfl : c = 0 := by omega
    simp only [Int.zero_add, root_zero, if_neg (Int.lt_irrefl 0)]
    split <;> omega
end Go.Proofs.Ythihccmombcihaa.Tk
end
section
namespace Go.Proofs.Ythihccmombcihaa.Tk
open Go Go.Proofs.Ythihccmombcihaa.Sx Go.RowKit

theorem sX_0 (l : LL) : nI l 0 = sX l 0 := rfl
theorem sY_0 (l : LL) : nI l 1 = sY l 0 := rfl
theorem nI_set (l : LL) (a b : Int) (v : Int × ByteArray) (ha : 0 ≤ a) (hb : 0 ≤ b) (hl : a < (l.length : Int)) : nI (l.set a.toNat v) b = if a = b then v.1 else nI l b := by
  unfold nI
  rw [List.getElem?_set]
  by_cases h : a = b
  · subst h
    rw [if_pos rfl, if_pos rfl, if_pos (by omega)]
    rfl
  · rw [if_neg (by omega), if_neg h]
theorem nI_left {l r : LL} {i : Int} (h0 : 0 ≤ i) (h : i < (l.length : Int)) : nI (l ++ r) i = nI l i := by
  unfold nI
  rw [List.getElem?_append_left (by omega)]
theorem nI_cut {l : LL} {x y i : Int} (hx : 0 ≤ x) (hi : 0 ≤ i) (h : x + i < y) : nI ((l.take y.toNat).drop x.toNat) i = nI l (x + i) := by
  unfold nI
  rw [List.getElem?_drop, List.getElem?_take, if_pos (by omega), show x.toNat + i.toNat = (x + i).toNat by omega]
theorem part_of {l : LL} {x y a m : Int} (ha : 0 ≤ a) (hx : x = a * 2) (hy : y = (a + m) * 2) : Part a m l ((l.take y.toNat).drop x.toNat) := by
  intro k h0 hk
  unfold sX sY
  rw [nI_cut (by omega) (by omega) (by omega), nI_cut (by omega) (by omega) (by omega), hx]
  exact ⟨by congr 1; omega, by congr 1; omega⟩
section
variable {i j n : Int} {L R : LL}
def RevP (i j n : Int) (L R : LL) : Prop := ∀ k, 0 ≤ k → k < n → if k < i ∨ j < k then sX R k = sX L (n - 1 - k) ∧ sY R k = sY L (n - 1 - k) else sX R k = sX L k ∧ sY R k = sY L k
theorem rev_iff (hn : 0 ≤ n) (hl : (L.length : Int) = n * 2) : revB i j n (L ++ R) = true ↔ RevP i j n L R := by
  have hd : (L ++ R).drop (2 * n.toNat) = R := by
    rw [show 2 * n.toNat = L.length by omega]
    exact List.drop_left
  have hx : ∀ k, 0 ≤ k → k < n → sX (L ++ R) k = sX L k ∧ sY (L ++ R) k = sY L k := fun k h0 hk => by
    unfold sX sY
    exact ⟨nI_left (by omega) (by omega), nI_left (by omega) (by omega)⟩
  unfold revB
  rw [hd]
  refine ⟨fun h k h0 hk => ?_, fun h => allTo_of fun k h0 hk => ?_⟩
  · have a := of_decide_eq_true (allTo_at h h0 hk)
    rw [(hx k h0 hk).1, (hx k h0 hk).2, (hx (n - 1 - k) (by omega) (by omega)).1, (hx (n - 1 - k) (by omega) (by omega)).2] at a
    exact a
  · rw [(hx k h0 hk).1, (hx k h0 hk).2, (hx (n - 1 - k) (by omega) (by omega)).1, (hx (n - 1 - k) (by omega) (by omega)).2]
    exact decide_eq_true (h k h0 hk)
theorem rev_start : RevP 0 (n - 1) n L L := fun k h0 hk => by
  rw [if_neg (by omega)]
  exact ⟨rfl, rfl⟩
theorem rev_done (h : RevP i j n L R) (hij : j ≤ i) (hs : i + j = n - 1) : Rev n L R := fun k h0 hk => by
  have a := h k h0 hk
  by_cases c : k < i ∨ j < k
  · rw [if_pos c] at a; exact a
  · rw [if_neg c] at a
    have : n - 1 - k = k := by omega
    rw [this]; exact a
theorem swap_at {s1 s2 s3 s4 : ByteArray} (h0 : 0 ≤ i) (hij : i < j) (hj : j < n) (hl : (R.length : Int) = n * 2) {k : Int} (hk : 0 ≤ k) :
    sX ((((R.set (i * 2).toNat (sX R j, s1)).set (i * 2 + 1).toNat (sY R j, s2)).set (j * 2).toNat (sX R i, s3)).set (j * 2 + 1).toNat (sY R i, s4)) k = (if k = j then sX R i else if k = i then sX R j else sX R k) ∧
    sY ((((R.set (i * 2).toNat (sX R j, s1)).set (i * 2 + 1).toNat (sY R j, s2)).set (j * 2).toNat (sX R i, s3)).set (j * 2 + 1).toNat (sY R i, s4)) k = (if k = j then sY R i else if k = i then sY R j else sY R k) := by
  have key : ∀ b : Int, 0 ≤ b → nI ((((R.set (i * 2).toNat (sX R j, s1)).set (i * 2 + 1).toNat (sY R j, s2)).set (j * 2).toNat (sX R i, s3)).set (j * 2 + 1).toNat (sY R i, s4)) b = if j * 2 + 1 = b then sY R i else if j * 2 = b then sX R i else if i * 2 + 1 = b then sY R j else if i * 2 = b then sX R j else nI R b := by
    intro b hb
    rw [nI_set _ _ _ _ (by omega) hb (by simp only [List.length_set]; omega), nI_set _ _ _ _ (by omega) hb (by simp only [List.length_set]; omega), nI_set _ _ _ _ (by omega) hb (by simp only [List.length_set]; omega), nI_set _ _ _ _ (by omega) hb (by omega)]
  constructor
  · show nI _ (k * 2) = _
    rw [key _ (by omega), if_neg (by omega)]
    by_cases a : k = j
    · rw [if_pos (by omega), if_pos a]
    · rw [if_neg (by omega), if_neg (by omega), if_neg a]
      by_cases b : k = i
      · rw [if_pos (by omega), if_pos b]
      · rw [if_neg (by omega), if_neg b]; rfl
  · show nI _ (k * 2 + 1) = _
    rw [key _ (by omega)]
    by_cases a : k = j
    · rw [if_pos (by omega), if_pos a]
    · rw [if_neg (by omega), if_neg (by omega), if_neg a]
      by_cases b : k = i
      · rw [if_pos (by omega), if_pos b]
      · rw [if_neg (by omega), if_neg (by omega), if_neg b]; rfl
theorem rev_swap {s1 s2 s3 s4 : ByteArray} (h : RevP i j n L R) (h0 : 0 ≤ i) (hij : i < j) (hs : i + j = n - 1) (hl : (R.length : Int) = n * 2) :
    RevP (i + 1) (j - 1) n L ((((R.set (i * 2).toNat (sX R j, s1)).set (i * 2 + 1).toNat (sY R j, s2)).set (j * 2).toNat (sX R i, s3)).set (j * 2 + 1).toNat (sY R i, s4)) := by
  intro k k0 hk
  obtain ⟨e1, e2⟩ := swap_at (n := n) (s1 := s1) (s2 := s2) (s3 := s3) (s4 := s4) h0 hij (by omega) hl k0
  rw [e1, e2]
  have a := h k k0 hk
  by_cases c : k = j
  · have b := h i h0 (by omega)
    rw [if_neg (by omega)] at b
    rw [if_pos (by omega), if_pos c, if_pos c, show n - 1 - k = i by omega]
    exact b
  · by_cases d : k = i
    · have b := h j (by omega) (by omega)
      rw [if_neg (by omega)] at b
      rw [if_pos (by omega), if_neg c, if_neg c, if_pos d, if_pos d, show n - 1 - k = j by omega]
      exact b
    · rw [if_neg c, if_neg c, if_neg d, if_neg d]
      by_cases f : k < i ∨ j < k
      · rw [if_pos f] at a; rw [if_pos (by omega)]; exact a
      · rw [if_neg f] at a; rw [if_neg (by omega)]; exact a
end
theorem ab_sub (x y : Int) : ab (x - y) = ab (y - x) := by rw [← ab_neg, Int.neg_sub]
theorem sum_step {l : LL} {i s : Int} (hi : 1 ≤ i) (h : s = strF i l + 2 * diaF i l) : s + (ab (sX l i - sX l (i - 1)) + ab (sY l i - sY l (i - 1))) = strF (i + 1) l + 2 * diaF (i + 1) l := by
  have q1 : strW l i = if ab (sX l i - sX l (i - 1)) = ab (sY l i - sY l (i - 1)) then 0 else ab (sX l i - sX l (i - 1)) + ab (sY l i - sY l (i - 1)) := by
    unfold strW; rw [if_neg (by omega)]
  have q2 : diaW l i = if ab (sX l i - sX l (i - 1)) = ab (sY l i - sY l (i - 1)) then ab (sX l i - sX l (i - 1)) else 0 := by
    unfold diaW; rw [if_neg (by omega)]
  unfold strF diaF at *
  rw [show (i + 1).toNat = i.toNat + 1 by omega]
  simp only [sumTo]
  rw [show ((i.toNat : Nat) : Int) = i by omega, q1, q2]
  split <;> omega
theorem sum_rng {l : LL} {n i : Int} (hs : allTo n (spB l) = true) (hi : 1 ≤ i) (hk : i < n) : 0 ≤ ab (sX l i - sX l (i - 1)) ∧ ab (sX l i - sX l (i - 1)) ≤ 33554432 ∧ 0 ≤ ab (sY l i - sY l (i - 1)) ∧ ab (sY l i - sY l (i - 1)) ≤ 33554432 := by
  have a := spB_iff.1 (allTo_at hs (k := i) (by omega) hk)
  have b := spB_iff.1 (allTo_at hs (k := i - 1) (by omega) (by omega))
  have := ab_or (sX l i - sX l (i - 1))
  have := ab_or (sY l i - sY l (i - 1))
  omega
end Go.Proofs.Ythihccmombcihaa.Tk
end
