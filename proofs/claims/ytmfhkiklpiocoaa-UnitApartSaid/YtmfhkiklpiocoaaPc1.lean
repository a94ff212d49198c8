/- Layer 9 (unit): boxes and places: what does not clash is apart (mathematics). Layer 9 (unit): the law of what is apart. -/
import Derived.Test.YtmfhkiklpiocoaaPb9
import Derived.Test.YtmfhkiklpiocoaaPc0
import Derived.Test.YtmfhkiklpiocoaaPb14
import Derived.Test.YtmfhkiklpiocoaaPb11
section
namespace Go.Proofs.Ytmfhkiklpiocoaa.Un
open Go Go.Proofs.Ytmfhkiklpiocoaa.Sx

theorem rdn_mono {a c b : Int} (hb : 0 < b) (h : a ≤ c) : rdn a b ≤ rdn c b := Int.ediv_le_ediv hb h
theorem plx_neg (a b st ar t : Int) : plx false a b st ar t = - plx true (-a) (-b) st ar t := by
  unfold plx rup rdn
  split
  · omega
  · simp only [Bool.false_eq_true, if_false, if_true]
    rw [show (-b - -a) * (t - st) = -((b - a) * (t - st)) by rw [← Int.neg_mul]; congr 1; omega]
    omega
theorem plx_lo_hi {a b st ar t : Int} (h : st ≤ t) : plx true a b st ar t ≤ plx false a b st ar t := by
  unfold plx
  split
  · omega
  · simp only [Bool.false_eq_true, if_false, if_true]
    have hb : 0 < ar - st := by omega
    have h1 : rdn ((b - a) * (t - st)) (ar - st) * (ar - st) ≤ (b - a) * (t - st) := Int.ediv_mul_le _ (by omega)
    have := le_rup hb h1
    omega
/-- Between two times the place lies between the least and the greatest ones. -/
theorem plx_low {a b st ar s t e : Int} (h0 : st ≤ s) (h1 : s ≤ t) (h2 : t ≤ e) : minI (plx true a b st ar s) (plx true a b st ar e) ≤ plx true a b st ar t := by
  suffices plx true a b st ar s ≤ plx true a b st ar t ∨ plx true a b st ar e ≤ plx true a b st ar t by
    unfold minI; split <;> omega
  by_cases ht : ar ≤ t
  · right; unfold plx; rw [if_pos ht, if_pos (by omega)]; omega
  · have hb : 0 < ar - st := by omega
    rcases Int.lt_or_le b a with hba | hba
    · right
      unfold plx
      rw [if_neg ht]
      simp only [if_true]
      split
      · have : (b - a) * (ar - st) ≤ (b - a) * (t - st) := Int.mul_le_mul_of_nonpos_left (by omega) (by omega)
        have := le_rdn hb this
        omega
      · have : (b - a) * (e - st) ≤ (b - a) * (t - st) := Int.mul_le_mul_of_nonpos_left (by omega) (by omega)
        have := rdn_mono hb this
        omega
    · left
      unfold plx
      rw [if_neg ht, if_neg (by omega)]
      simp only [if_true]
      have : (b - a) * (s - st) ≤ (b - a) * (t - st) := Int.mul_le_mul_of_nonneg_left (by omega) (by omega)
      have := rdn_mono hb this
      omega
theorem plx_high {a b st ar s t e : Int} (h0 : st ≤ s) (h1 : s ≤ t) (h2 : t ≤ e) : plx false a b st ar t ≤ maxI (plx false a b st ar s) (plx false a b st ar e) := by
  have := plx_low (a := -a) (b := -b) (ar := ar) h0 h1 h2
  rw [plx_neg, plx_neg a b st ar s, plx_neg a b st ar e]
  unfold minI at this
  unfold maxI
  split at this <;> split <;> omega
theorem piece_at {st ar p t : Int} (h : st < ar) (hp : 1 ≤ p) (h1 : st ≤ t) (h2 : t ≤ ar) :
    ∃ j, 0 ≤ j ∧ j < p ∧ st ≤ psF st ar j p ∧ psF st ar j p ≤ t ∧ t ≤ ptF st ar j p := by
  have hT : 0 < ar - st := by omega
  have hs : ∀ j : Int, 0 ≤ j → st ≤ psF st ar j p := fun j hj => by
    unfold psF
    have := le_rdn (a := (ar - st) * j) (b := p) (c := 0) (by omega) (by have := Int.mul_nonneg (Int.le_of_lt hT) hj; omega)
    omega
  suffices ∃ j, 0 ≤ j ∧ j < p ∧ (ar - st) * j ≤ (t - st) * p ∧ (t - st) * p ≤ (ar - st) * (j + 1) by
    obtain ⟨j, j0, j1, j2, j3⟩ := this
    refine ⟨j, j0, j1, hs j j0, ?_, ?_⟩
    · have := rdn_le (b := p) (by omega) j2
      unfold psF; omega
    · have := le_rup (b := p) (by omega) j3
      unfold ptF; omega
  rcases Int.lt_or_le t ar with hlt | hle
  · have e := Int.emod_add_mul_ediv ((t - st) * p) (ar - st)
    have m0 := Int.emod_nonneg ((t - st) * p) (show ar - st ≠ 0 by omega)
    have m1 := Int.emod_lt_of_pos ((t - st) * p) hT
    refine ⟨(t - st) * p / (ar - st), Int.ediv_nonneg (Int.mul_nonneg (by omega) (by omega)) (by omega), Int.ediv_lt_of_lt_mul hT ?_, by omega, ?_⟩
    · rw [Int.mul_comm p]
      exact Int.mul_lt_mul_of_pos_right (by omega) (by omega)
    · rw [Int.mul_add, Int.mul_one]; omega
  · have : t = ar := by omega
    subst this
    refine ⟨p - 1, by omega, by omega, Int.mul_le_mul_of_nonneg_left (by omega) (by omega), ?_⟩
    rw [show p - 1 + 1 = p by omega]
    exact Int.le_refl _
/-! a box among boxes -/
def HasBox (c bs : LL) : Prop := ∃ u w, bs = u ++ c ++ w ∧ 7 ∣ u.length ∧ 7 ∣ w.length
theorem has_self (c : LL) : HasBox c c := ⟨[], [], by simp, by simp, by simp⟩
theorem has_left {c a b : LL} (h : HasBox c a) (hb : 7 ∣ b.length) : HasBox c (a ++ b) := by
  obtain ⟨u, w, rfl, hu, hw⟩ := h
  exact ⟨u, w ++ b, by simp, hu, by rw [List.length_append]; omega⟩
theorem has_right {c a b : LL} (h : HasBox c b) (ha : 7 ∣ a.length) : HasBox c (a ++ b) := by
  obtain ⟨u, w, rfl, hu, hw⟩ := h
  exact ⟨a ++ u, w, by simp, by rw [List.length_append]; omega, hw⟩
theorem flat7 {f : Int → LL} (h : ∀ k, 7 ∣ (f k).length) : ∀ m : Nat, 7 ∣ (flatTo (m : Int) f).length
  | 0 => by simp [flatTo]
  | m + 1 => by
    rw [show ((m + 1 : Nat) : Int) = (m : Int) + 1 from rfl, flatTo_succ (by omega), List.length_append]
    have := flat7 h m
    have := h m
    omega
theorem flat_has {f : Int → LL} {c : LL} (h : ∀ k, 7 ∣ (f k).length) {k : Int} (h0 : 0 ≤ k) (hc : HasBox c (f k)) : ∀ m : Nat, k < m → HasBox c (flatTo (m : Int) f)
  | 0, hk => by omega
  | m + 1, hk => by
    rw [show ((m + 1 : Nat) : Int) = (m : Int) + 1 from rfl, flatTo_succ (by omega)]
    rcases Int.lt_or_le k m with hlt | hle
    · exact has_left (flat_has h h0 hc m hlt) (h m)
    · have : k = m := by omega
      subst this
      exact has_right hc (flat7 h m)
theorem flat_nat (n : Int) (f : Int → LL) : flatTo n f = flatTo (n.toNat : Int) f := by unfold flatTo; rw [Int.toNat_natCast]
theorem boxAt_len (m v : Int) (l : LL) (i s t : Int) : (boxAt m v l i s t).length = 7 := rfl
theorem pieces_len (p m v : Int) (l : LL) (i j : Int) : 7 ∣ (piecesF p m v l i j).length := by
  unfold piecesF; rw [flat_nat]
  exact flat7 (fun k => by rw [boxAt_len]; exact Nat.dvd_refl 7) _
theorem legBoxes_len (p m v : Int) (l : LL) (i : Int) : 7 ∣ (legBoxes p m v l i).length := by
  unfold legBoxes
  rw [List.length_append]
  have h1 := pieces_len p m v l i p
  split <;> split <;> simp only [List.length_nil, boxAt_len] <;> omega
theorem boxes_len (p m v : Int) (l : LL) (n : Int) : 7 ∣ (boxesF p m v l n).length := by
  unfold boxesF; rw [flat_nat]; exact flat7 (legBoxes_len p m v l) _
/-- A leg has a box for each of its times. -/
theorem box_here {p m v n t i : Int} {l : LL} (h0 : 0 ≤ i) (hi : i < n) (h45 : nI l (8 * i + 4) ≤ nI l (8 * i + 5)) (hs : nI l (8 * i + 4) ≤ t) (ht : t ≤ nI l (8 * i + 6)) (hp : 1 ≤ p) :
    ∃ s e, nI l (8 * i + 4) ≤ s ∧ s ≤ t ∧ t ≤ e ∧ HasBox (boxAt m v l i s e) (boxesF p m v l n) := by
  suffices ∃ s e, nI l (8 * i + 4) ≤ s ∧ s ≤ t ∧ t ≤ e ∧ HasBox (boxAt m v l i s e) (legBoxes p m v l i) by
    obtain ⟨s, e, a, b, c, d⟩ := this
    refine ⟨s, e, a, b, c, ?_⟩
    unfold boxesF
    rw [flat_nat]
    exact flat_has (legBoxes_len p m v l) h0 d _ (by omega)
  unfold legBoxes
  by_cases hw : nI l (8 * i + 4) < nI l (8 * i + 5) ∧ t ≤ nI l (8 * i + 5)
  · obtain ⟨j, j0, j1, j2, j3, j4⟩ := piece_at hw.1 hp hs hw.2
    refine ⟨_, _, j2, j3, j4, has_left ?_ ?_⟩
    · rw [if_pos hw.1]
      unfold piecesF
      rw [flat_nat]
      exact flat_has (f := fun j => boxAt m v l i (pieceS p l i j) (pieceT p l i j)) (fun k => by rw [boxAt_len]; exact Nat.dvd_refl 7) j0 (has_self _) _ (by omega)
    · split <;> simp [boxAt_len]
  · refine ⟨nI l (8 * i + 5), nI l (8 * i + 6), h45, by omega, ht, has_right ?_ ?_⟩
    · rw [if_pos (by omega)]
      exact has_self _
    · split
      · exact pieces_len p m v l i p
      · simp
theorem has_at {c bs : LL} (h : HasBox c bs) (hc : c.length = 7) : ∃ k : Int, 0 ≤ k ∧ 7 * k + 7 ≤ bs.length ∧ ∀ r : Nat, r < 7 → nI bs (7 * k + r) = nI c r := by
  obtain ⟨u, w, rfl, ⟨q, hq⟩, hw⟩ := h
  refine ⟨q, by omega, by simp only [List.length_append]; omega, fun r hr => ?_⟩
  unfold nI
  rw [show ((7 * (q : Int) + r)).toNat = u.length + r by omega, List.append_assoc, List.getElem?_append_right (by omega), List.getElem?_append_left (by omega)]
  simp
/-- Two boxes that hold places and times of two units that are not far from each other have something in common. -/
theorem near_meet {lo1 hi1 lo2 hi2 l1 h1 l2 h2 m1 m2 : Int} (a1 : lo1 ≤ l1 - m1) (a2 : h1 + m1 ≤ hi1) (b1 : lo2 ≤ l2 - m2) (b2 : h2 + m2 ≤ hi2) (c1 : l1 ≤ h1) (c2 : l2 ≤ h2) (p1 : 0 ≤ m1) (p2 : 0 ≤ m2)
    (d1 : h1 - l2 ≤ m1 + m2) (d2 : h2 - l1 ≤ m1 + m2) : meetB lo1 hi1 lo2 hi2 = true := by
  unfold meetB
  simp only [decide_eq_true_eq]
  omega
/-- The place of a unit at a time, rounded down and up: of the leg i. -/
def lowX (l : LL) (i t : Int) : Int := plx true (nI l (8 * i)) (nI l (8 * i + 2)) (nI l (8 * i + 4)) (nI l (8 * i + 5)) t
def lowY (l : LL) (i t : Int) : Int := plx true (nI l (8 * i + 1)) (nI l (8 * i + 3)) (nI l (8 * i + 4)) (nI l (8 * i + 5)) t
def highX (l : LL) (i t : Int) : Int := plx false (nI l (8 * i)) (nI l (8 * i + 2)) (nI l (8 * i + 4)) (nI l (8 * i + 5)) t
def highY (l : LL) (i t : Int) : Int := plx false (nI l (8 * i + 1)) (nI l (8 * i + 3)) (nI l (8 * i + 4)) (nI l (8 * i + 5)) t
theorem box_around {p m v n t i : Int} {l : LL} (h0 : 0 ≤ i) (hi : i < n) (h45 : nI l (8 * i + 4) ≤ nI l (8 * i + 5)) (hs : nI l (8 * i + 4) ≤ t) (ht : t ≤ nI l (8 * i + 6)) (hp : 1 ≤ p) :
    ∃ k : Int, 0 ≤ k ∧ 7 * k + 7 ≤ (boxesF p m v l n).length ∧ nI (boxesF p m v l n) (7 * k) ≤ lowX l i t - m ∧ nI (boxesF p m v l n) (7 * k + 1) ≤ lowY l i t - m ∧ highX l i t + m ≤ nI (boxesF p m v l n) (7 * k + 2) ∧ highY l i t + m ≤ nI (boxesF p m v l n) (7 * k + 3) ∧
      nI (boxesF p m v l n) (7 * k + 4) ≤ t ∧ t ≤ nI (boxesF p m v l n) (7 * k + 5) ∧ nI (boxesF p m v l n) (7 * k + 6) = v := by
  obtain ⟨s, e, s0, s1, s2, hb⟩ := box_here (p := p) (m := m) (v := v) h0 hi h45 hs ht hp
  obtain ⟨k, k0, k1, hk⟩ := has_at hb rfl
  refine ⟨k, k0, k1, ?_⟩
  have r0 := hk 0 (by omega); have r1 := hk 1 (by omega); have r2 := hk 2 (by omega); have r3 := hk 3 (by omega)
  have r4 := hk 4 (by omega); have r5 := hk 5 (by omega); have r6 := hk 6 (by omega)
  simp only [Int.cast_ofNat_Int, Int.add_zero] at r0 r1 r2 r3 r4 r5 r6
  rw [r0, r1, r2, r3, r4, r5, r6]
  have x1 := plx_low (a := nI l (8 * i)) (b := nI l (8 * i + 2)) (ar := nI l (8 * i + 5)) s0 s1 s2
  have y1 := plx_low (a := nI l (8 * i + 1)) (b := nI l (8 * i + 3)) (ar := nI l (8 * i + 5)) s0 s1 s2
  have x2 := plx_high (a := nI l (8 * i)) (b := nI l (8 * i + 2)) (ar := nI l (8 * i + 5)) s0 s1 s2
  have y2 := plx_high (a := nI l (8 * i + 1)) (b := nI l (8 * i + 3)) (ar := nI l (8 * i + 5)) s0 s1 s2
  unfold lowX lowY highX highY
  refine ⟨Int.sub_le_sub_right x1 m, Int.sub_le_sub_right y1 m, Int.add_le_add_right x2 m, Int.add_le_add_right y2 m, s1, s2, rfl⟩
theorem clashB_none {n m : Int} {a b : LL} (h : clashI n m a b < 0) : ∀ i k : Int, 0 ≤ i → i < n → 0 ≤ k → k < m → clashB a i b k = false := fun i k i0 i1 k0 k1 => by
  unfold clashI at h
  rcases firstB_from (fun i => !allTo m fun k => !clashB a i b k) n.toNat 0 with ⟨_, h2⟩ | ⟨h1, _⟩
  · have := h2 i (by omega) (by omega)
    simp only [Bool.not_eq_false'] at this
    have := allTo_at this k0 k1
    simpa using this
  · omega
/-- **Apart**: where no boxes clash, the places are far from each other. -/
theorem apart {p q m1 m2 v n1 n2 t i j : Int} {l1 l2 : LL} {c1 c2 : Int} (hi0 : 0 ≤ i) (hi : i < n1) (hj0 : 0 ≤ j) (hj : j < n2)
    (a45 : nI l1 (8 * i + 4) ≤ nI l1 (8 * i + 5)) (a4 : nI l1 (8 * i + 4) ≤ t) (a6 : t ≤ nI l1 (8 * i + 6))
    (b45 : nI l2 (8 * j + 4) ≤ nI l2 (8 * j + 5)) (bs : nI l2 (8 * j + 4) ≤ t) (bt : t ≤ nI l2 (8 * j + 6))
    (hp : 1 ≤ p) (hq : 1 ≤ q) (p1 : 0 ≤ m1) (p2 : 0 ≤ m2)
    (e1 : c1 = (boxesF p m1 v l1 n1).length / 7) (e2 : c2 = (boxesF q m2 v l2 n2).length / 7)
    (hc : clashI c1 c2 (boxesF p m1 v l1 n1) (boxesF q m2 v l2 n2) < 0) :
    m1 + m2 < highX l1 i t - lowX l2 j t ∨ m1 + m2 < highX l2 j t - lowX l1 i t ∨ m1 + m2 < highY l1 i t - lowY l2 j t ∨ m1 + m2 < highY l2 j t - lowY l1 i t := by
  obtain ⟨k, k0, k1, x1, y1, X1, Y1, s1, S1, v1⟩ := box_around (p := p) (m := m1) (v := v) hi0 hi a45 a4 a6 hp
  obtain ⟨r, r0, r1, x2, y2, X2, Y2, s2, S2, v2⟩ := box_around (p := q) (m := m2) (v := v) hj0 hj b45 bs bt hq
  have no := clashB_none hc k r k0 (by omega) r0 (by omega)
  unfold clashB at no
  rw [v1, v2] at no
  have cx1 : lowX l1 i t ≤ highX l1 i t := plx_lo_hi a4
  have cy1 : lowY l1 i t ≤ highY l1 i t := plx_lo_hi a4
  have cx2 : lowX l2 j t ≤ highX l2 j t := plx_lo_hi bs
  have cy2 : lowY l2 j t ≤ highY l2 j t := plx_lo_hi bs
  refine Classical.byContradiction fun hn => ?_
  have mt : meetB (nI (boxesF p m1 v l1 n1) (7 * k + 4)) (nI (boxesF p m1 v l1 n1) (7 * k + 5)) (nI (boxesF q m2 v l2 n2) (7 * r + 4)) (nI (boxesF q m2 v l2 n2) (7 * r + 5)) = true := by
    unfold meetB; simp only [decide_eq_true_eq]; omega
  have mx := near_meet x1 X1 x2 X2 cx1 cx2 p1 p2 (by omega) (by omega)
  have my := near_meet y1 Y1 y2 Y2 cy1 cy2 p1 p2 (by omega) (by omega)
  rw [mt, mx, my] at no
  simp at no
end Go.Proofs.Ytmfhkiklpiocoaa.Un
end
section
namespace Go.Proofs.Ytmfhkiklpiocoaa.Un
open Go Go.Proofs.Ytmfhkiklpiocoaa.Sx Go.RowKit
def flK : AK := .ag [KS, K, K, K, K, K, K, K, K, K, K, K, .row (ints 8)]
def apK : List AK := [flK, flK, .ag [.sc (.i .u8), .sc (.i .u8)], rowK 1]
def lenF (k : Nat) : List E := [.le (.c 0) (.v k), .le (.v k) (.c 9223372036854775807)]
def apF : List E := [.le (.len (.sv 0)) (.c 9223372036854775807), .le (.len (.sv 13)) (.c 9223372036854775807)] ++ lenF 12 ++ lenF 25 ++ lenF 28
def apL (k : Nat) : LoopSpec := { key := k, nt := some 189, locs := [.t 16 (.i .i64)], facts := fun n => [.le (.c 0) (.v n), .le (.v n) (.v 28), .le (.v n) (.c 9223372036854775807)], meas := fun n => .sub (.v 28) (.v n) }
def apG : Ctx := { calls := [cAwakeT, cBx, cClashS, cWhere, cLegsR], loops := [apL 12] }
/-! the terms of the ends -/
def apLen : E := .add (.sub (.nthI (.lv 12) (.add (.mul (.sub (.v 12) (.c 1)) (.c 8)) (.c 6))) (.nthI (.lv 12) (.c 4))) (.c 1)
def apT : E := .wrap .i64 (.add (.nthI (.lv 12) (.c 4)) (.rem (.wrap .i64 (.add (.rem (.nthI (.lv 28) (.v 36)) apLen) apLen)) apLen))
def apI (n : Nat) : E := .app 7 (.cons (.v n) (.cons apT (.lv n)))
def apN (n k : Nat) : E := nthF 8 (.lv n) (apI n) k
def apP (f n a b : Nat) : E := .app f (.cons (apN n a) (.cons (apN n b) (.cons (apN n 4) (.cons (apN n 5) (.cons apT .nil)))))
def apQ (s : Nat) : E := .add (.c 1) (.rem (.wrap .i64 (.v s)) (.c 20))
def apB (n s m v : Nat) : E := .lapp 0 (.cons (.v n) (.cons (apQ s) (.cons (.v m) (.cons (.v v) (.lv n)))))
def apC (n s m v : Nat) : E := .quo (.llen (apB n s m v)) (.c 7)
def apM : E := .wrap .i64 (.add (.v 10) (.v 23))
def apFar (a b : Nat) : E := .le (.ite (.lt (.sub (apP 4 12 a b) (apP 3 25 a b)) (.sub (apP 4 25 a b) (apP 3 12 a b))) (.sub (apP 4 25 a b) (apP 3 12 a b)) (.sub (apP 4 12 a b) (apP 3 25 a b))) apM
def apU (s : Nat) : E := .happ 15 (.cons (.sv s) ((K7 [s+1, s+2, s+3, s+4, s+5, s+6, s+7, s+8, s+9, s+10, s+11]).foldr .cons .nil))
def apHere (n : Nat) : List E := [.happ 2 (.cons (.v n) (.lv n)), .le (.c 0) (apI n), .lt (apI n) (.v n), .le (apN n 4) apT, .le apT (apN n 6)]
def apNeed : List E := [apFar 0 2, apFar 1 3] ++ apHere 12 ++ apHere 25 ++
  [.lt (.app 9 (.cons (apC 12 26 10 11) (.cons (apC 25 27 23 24) (.lcat (apB 12 26 10 11) (apB 25 27 23 24))))) (.c 0), apU 0, apU 13, .le (.c 1) (apQ 26), .le (.c 1) (apQ 27), .eq (.v 11) (.v 24)]
theorem need_of {ρ : Env} {F need : List E} (hF : holds ρ F) (h : (need.all fun a => F.contains a) = true) : holds ρ need := fun a ha => hF a (List.contains_iff_mem.1 (List.all_eq_true.1 h a ha))
section
variable {ρ : Env} (hg : ρ.g = gF) (hh : ρ.h = Un.hF) (hm : ρ.m = mF)
include hg in
theorem apP_3 (n a b : Nat) : (apP 3 n a b).I ρ = plx true ((apN n a).I ρ) ((apN n b).I ρ) ((apN n 4).I ρ) ((apN n 5).I ρ) (apT.I ρ) := by unfold apP; rw [I_app, hg]; rfl
include hg in
theorem apP_4 (n a b : Nat) : (apP 4 n a b).I ρ = plx false ((apN n a).I ρ) ((apN n b).I ρ) ((apN n 4).I ρ) ((apN n 5).I ρ) (apT.I ρ) := by unfold apP; rw [I_app, hg]; rfl
include hm in
theorem apB_L (n s m v : Nat) : (apB n s m v).L ρ = boxesF ((apQ s).I ρ) (ρ.i m) (ρ.i v) (ρ.l n) (ρ.i n) := by unfold apB; rw [L_lapp, hm]; rfl
include hh in
theorem apU_m (s : Nat) (h : (apU s).B ρ = true) : 0 ≤ ρ.i (s + 10) ∧ ρ.i (s + 10) ≤ 100000 := by
  unfold apU at h
  rw [B_happ, hh] at h
  have h' : unitB ((0, ρ.s s) :: (ρ.i (s+1), ⟨#[]⟩) :: (ρ.i (s+2), ⟨#[]⟩) :: (ρ.i (s+3), ⟨#[]⟩) :: (ρ.i (s+4), ⟨#[]⟩) :: (ρ.i (s+5), ⟨#[]⟩) :: (ρ.i (s+6), ⟨#[]⟩) :: (ρ.i (s+7), ⟨#[]⟩) :: (ρ.i (s+8), ⟨#[]⟩) :: (ρ.i (s+9), ⟨#[]⟩) :: (ρ.i (s+10), ⟨#[]⟩) :: (ρ.i (s+11), ⟨#[]⟩) :: []) = true := h
  unfold unitB at h'
  rw [Bool.and_eq_true, Bool.and_eq_true] at h'
  exact of_decide_eq_true h'.1.2
include hg hh hm in
theorem ap_val (hN : holds ρ apNeed) : False := by
  have B : ∀ e, apNeed.contains e = true → e.B ρ = true := fun e h => hN e (List.contains_iff_mem.1 h)
  have le : ∀ a b : E, apNeed.contains (.le a b) = true → a.I ρ ≤ b.I ρ := fun a b h => by simpa only [B_le, decide_eq_true_eq] using B _ h
  have lt : ∀ a b : E, apNeed.contains (.lt a b) = true → a.I ρ < b.I ρ := fun a b h => by simpa only [B_lt, decide_eq_true_eq] using B _ h
  have i0 : 0 ≤ (apI 12).I ρ := le (.c 0) (apI 12) (by decide +kernel)
  have i1 : (apI 12).I ρ < ρ.i 12 := lt (apI 12) (.v 12) (by decide +kernel)
  have j0 : 0 ≤ (apI 25).I ρ := le (.c 0) (apI 25) (by decide +kernel)
  have j1 : (apI 25).I ρ < ρ.i 25 := lt (apI 25) (.v 25) (by decide +kernel)
  have nI1 : ∀ k, k < 8 → (apN 12 k).I ρ = nI (ρ.l 12) (8 * (apI 12).I ρ + k) := fun k hk => nthF_I i0 hk
  have nI2 : ∀ k, k < 8 → (apN 25 k).I ρ = nI (ρ.l 25) (8 * (apI 25).I ρ + k) := fun k hk => nthF_I j0 hk
  have s1 := le (apN 12 4) apT (by decide +kernel)
  have t1 := le apT (apN 12 6) (by decide +kernel)
  have s2 := le (apN 25 4) apT (by decide +kernel)
  have t2 := le apT (apN 25 6) (by decide +kernel)
  have fx := le _ _ (show apNeed.contains (apFar 0 2) = true by decide +kernel)
  have fy := le _ _ (show apNeed.contains (apFar 1 3) = true by decide +kernel)
  have l1 : allTo (ρ.i 12) (legB (ρ.l 12)) = true := by
    have h := B (.happ 2 (.cons (.v 12) (.lv 12))) (by decide +kernel)
    rw [hB_2 hh] at h; exact h
  have l2 : allTo (ρ.i 25) (legB (ρ.l 25)) = true := by
    have h := B (.happ 2 (.cons (.v 25) (.lv 25))) (by decide +kernel)
    rw [hB_2 hh] at h; exact h
  have q1 : 1 ≤ (apQ 26).I ρ := le (.c 1) (apQ 26) (by decide +kernel)
  have q2 : 1 ≤ (apQ 27).I ρ := le (.c 1) (apQ 27) (by decide +kernel)
  have m1 := apU_m hh 0 (B _ (by decide +kernel))
  have m2 := apU_m hh 13 (B _ (by decide +kernel))
  have ev : ρ.i 11 = ρ.i 24 := by have h := B (.eq (.v 11) (.v 24)) (by decide +kernel); simpa only [B_eq, I_v, decide_eq_true_eq] using h
  have cl := lt (.app 9 (.cons (apC 12 26 10 11) (.cons (apC 25 27 23 24) (.lcat (apB 12 26 10 11) (apB 25 27 23 24))))) (.c 0) (by decide +kernel)
  have e1 : (apC 12 26 10 11).I ρ = (boxesF ((apQ 26).I ρ) (ρ.i 10) (ρ.i 11) (ρ.l 12) (ρ.i 12)).length / 7 := by
    unfold apC; rw [I_quo, I_llen, apB_L hm, I_c]; exact Int.tdiv_eq_ediv_of_nonneg (by omega)
  have e2 : (apC 25 27 23 24).I ρ = (boxesF ((apQ 27).I ρ) (ρ.i 23) (ρ.i 11) (ρ.l 25) (ρ.i 25)).length / 7 := by
    unfold apC; rw [I_quo, I_llen, apB_L hm, I_c, ev]; exact Int.tdiv_eq_ediv_of_nonneg (by omega)
  have d1 := boxes_len ((apQ 26).I ρ) (ρ.i 10) (ρ.i 11) (ρ.l 12) (ρ.i 12)
  have cl' : clashI ((apC 12 26 10 11).I ρ) ((apC 25 27 23 24).I ρ) (boxesF ((apQ 26).I ρ) (ρ.i 10) (ρ.i 11) (ρ.l 12) (ρ.i 12)) (boxesF ((apQ 27).I ρ) (ρ.i 23) (ρ.i 11) (ρ.l 25) (ρ.i 25)) < 0 := by
    rw [I_app, hg] at cl
    obtain ⟨x1, x2⟩ := take_rows (l0 := boxesF ((apQ 26).I ρ) (ρ.i 10) (ρ.i 11) (ρ.l 12) (ρ.i 12)) (l1 := boxesF ((apQ 27).I ρ) (ρ.i 23) (ρ.i 11) (ρ.l 25) (ρ.i 25)) (n := (apC 12 26 10 11).I ρ) (by omega) (by omega)
    have h : clashI ((apC 12 26 10 11).I ρ) ((apC 25 27 23 24).I ρ) (((apB 12 26 10 11).L ρ ++ (apB 25 27 23 24).L ρ).take (7 * (apC 12 26 10 11).I ρ).toNat) (((apB 12 26 10 11).L ρ ++ (apB 25 27 23 24).L ρ).drop (7 * (apC 12 26 10 11).I ρ).toNat) < 0 := cl
    rw [apB_L hm, apB_L hm, ← ev, x1, x2] at h
    exact h
  have g1 := leg_facts l1 i0 i1
  have g2 := leg_facts l2 j0 j1
  rw [nI1 4 (by omega)] at s1
  rw [nI1 6 (by omega)] at t1
  rw [nI2 4 (by omega)] at s2
  rw [nI2 6 (by omega)] at t2
  have fin := apart (p := (apQ 26).I ρ) (q := (apQ 27).I ρ) (m1 := ρ.i 10) (m2 := ρ.i 23) (v := ρ.i 11) i0 i1 j0 j1 g1.2.2.2.1 s1 t1 g2.2.2.2.1 s2 t2 q1 q2 m1.1 m2.1 e1 e2 cl'
  have w1 : apM.I ρ = ρ.i 10 + ρ.i 23 := by
    unfold apM
    rw [I_wrap, I_add, I_v, I_v, IntKind.wrap_i64]
    have a := m1; have b := m2
    simp only [Nat.zero_add, Nat.reduceAdd] at a b
    omega
  have z0 : ∀ x : Int, 8 * x + ((0 : Nat) : Int) = 8 * x := fun x => by omega
  simp only [w1, I_ite, B_lt, I_sub, apP_3 hg, apP_4 hg, nI1 0 (by omega), nI1 1 (by omega), nI1 2 (by omega), nI1 3 (by omega), nI1 4 (by omega), nI1 5 (by omega), nI2 0 (by omega), nI2 1 (by omega), nI2 2 (by omega), nI2 3 (by omega), nI2 4 (by omega), nI2 5 (by omega), z0, decide_eq_true_eq] at fx fy
  unfold highX highY lowX lowY at fin
  simp only [Int.cast_ofNat_Int] at fx fy
  split at fx <;> split at fy <;> omega
end
/-! the other ends -/
theorem flat_len {f : Int → LL} {c : Nat} (h : ∀ k, (f k).length ≤ c) : ∀ m : Nat, (flatTo (m : Int) f).length ≤ c * m
  | 0 => by simp [flatTo]
  | m + 1 => by
    rw [show ((m + 1 : Nat) : Int) = (m : Int) + 1 from rfl, flatTo_succ (by omega), List.length_append]
    have := flat_len h m
    have := h m
    rw [Nat.mul_add]; omega
theorem boxes_le {p m v n : Int} {l : LL} (hp : p ≤ 20) (h0 : 0 ≤ n) : ((boxesF p m v l n).length : Int) ≤ 147 * n := by
  have hl : ∀ i, (legBoxes p m v l i).length ≤ 147 := fun i => by
    unfold legBoxes
    have : (piecesF p m v l i p).length ≤ 140 := by
      unfold piecesF
      rw [flat_nat]
      have := flat_len (f := fun j => boxAt m v l i (pieceS p l i j) (pieceT p l i j)) (c := 7) (fun k => by rw [boxAt_len]; exact Nat.le_refl 7) p.toNat
      omega
    rw [List.length_append]
    split <;> split <;> simp only [List.length_nil, boxAt_len] <;> omega
  unfold boxesF
  rw [flat_nat]
  have := flat_len hl n.toNat
  omega
theorem leave_from {n : Int} {l : LL} (hL : allTo n (legB l) = true) (hC : allTo n (contB l) = true) : ∀ m : Nat, (m : Int) < n → nI l 4 ≤ nI l (8 * m + 6)
  | 0, h => by
    have := leg_facts hL (k := 0) (by omega) h
    simp only [Int.mul_zero, Int.zero_add] at this
    show nI l 4 ≤ nI l (8 * 0 + 6)
    simp only [Int.mul_zero, Int.zero_add]
    omega
  | m + 1, h => by
    have h' : (m : Int) + 1 < n := by omega
    have a := leave_from hL hC m (by omega)
    have b := leg_facts hL (k := (m : Int) + 1) (by omega) h'
    have c := allTo_at hC (k := (m : Int) + 1) (by omega) h'
    unfold contB at c
    simp only [Bool.or_eq_true, Bool.and_eq_true, decide_eq_true_eq, show (m : Int) + 1 - 1 = m by omega] at c
    show nI l 4 ≤ nI l (8 * ((m : Int) + 1) + 6)
    rcases c with c | c
    · omega
    · rw [← c.2] at a; omega
section
variable {ρ : Env}
theorem ap_len {n s m v : Nat} (hm : ρ.m = mF) (hN : holds ρ [.le (apQ s) (.c 20), .le (.c 0) (.v n), .le (.v n) (.c 60)]) : (E.le (apC n s m v) (.c 1000000)).B ρ = true := by
  have a : (apQ s).I ρ ≤ 20 := by have := hN _ (List.mem_cons_self ..); simpa only [B_le, I_c, decide_eq_true_eq] using this
  have b : 0 ≤ ρ.i n := by have := hN (.le (.c 0) (.v n)) (by simp); simpa only [B_le, I_c, I_v, decide_eq_true_eq] using this
  have c : ρ.i n ≤ 60 := by have := hN (.le (.v n) (.c 60)) (by simp); simpa only [B_le, I_c, I_v, decide_eq_true_eq] using this
  have := boxes_le (m := ρ.i m) (v := ρ.i v) (l := ρ.l n) a b
  unfold apC
  rw [B_le, I_quo, I_llen, apB_L hm, I_c, I_c, decide_eq_true_eq, Int.tdiv_eq_ediv_of_nonneg (by omega)]
  omega
theorem ap_ne (hh : ρ.h = Un.hF) (hN : holds ρ [.happ 2 (.cons (.v 12) (.lv 12)), .happ 3 (.cons (.v 12) (.lv 12)), .lt (.c 0) (.v 12)]) : (E.not (.eq apLen (.c 0))).B ρ = true := by
  have a : allTo (ρ.i 12) (legB (ρ.l 12)) = true := by have h := hN _ (List.mem_cons_self ..); rw [hB_2 hh] at h; exact h
  have b : allTo (ρ.i 12) (contB (ρ.l 12)) = true := by have h := hN (.happ 3 (.cons (.v 12) (.lv 12))) (by simp); rw [B_happ, hh] at h; exact h
  have c : 0 < ρ.i 12 := by have := hN (.lt (.c 0) (.v 12)) (by simp); simpa only [B_lt, I_c, I_v, decide_eq_true_eq] using this
  have d := leave_from a b (ρ.i 12 - 1).toNat (by omega)
  rw [show ((ρ.i 12 - 1).toNat : Int) = ρ.i 12 - 1 by omega, show 8 * (ρ.i 12 - 1) = (ρ.i 12 - 1) * 8 by omega] at d
  unfold apLen
  simp only [B_not, B_eq, I_add, I_sub, I_nthI, I_mul, I_v, I_c, L_lv, nI_eq, Bool.not_eq_true', decide_eq_false_iff_not]
  omega
theorem ap_om {e : E} (he : e ∈ [E.le (.c 0) (.wrap .i64 (.add (.v 36) (.c 1))), .le (.wrap .i64 (.add (.v 36) (.c 1))) (.v 28), .lt (.sub (.v 28) (.wrap .i64 (.add (.v 36) (.c 1)))) (.sub (.v 28) (.v 36)), .le (.c 0) (.sub (.v 28) (.wrap .i64 (.add (.v 36) (.c 1))))])
    (hN : holds ρ [.lt (.v 36) (.v 28), .le (.c 0) (.v 36), .le (.v 28) (.c 100)]) : e.B ρ = true := by
  simp only [holds, List.mem_cons, List.not_mem_nil, or_false, forall_eq_or_imp, forall_eq, B_le, B_lt, I_v, I_c, decide_eq_true_eq] at hN
  have w : IntKind.i64.wrap (ρ.i 36 + 1) = ρ.i 36 + 1 := by rw [IntKind.wrap_i64]; omega
  simp only [List.mem_cons, List.not_mem_nil, or_false] at he
  rcases he with rfl | rfl | rfl | rfl <;> simp only [B_le, B_lt, I_sub, I_wrap, I_add, I_v, I_c, w, decide_eq_true_eq] <;> omega
theorem ap_last : (E.lt (.sub (.v 12) (.c 1)) (.v 12)).B ρ = true := by simp only [B_lt, I_sub, I_v, I_c, decide_eq_true_eq]; omega
end
/-- Clash's contract by this layer's tables. -/
theorem clashT_ok : CtrOk UT.open Try.prog cClashS := ctrVal_ok rfl fun ρ w hF hT hR => by
  have hg : ρ.g = gF := hT.1.1
  have hF' : holds { ρ with h := hC } (nL 0 ++ nL 1) := fun e he => by
    have := hF e he
    simp only [nL, List.cons_append, List.nil_append, List.mem_cons, List.not_mem_nil, or_false] at he
    rcases he with rfl | rfl <;> exact this
  have hR' : RowsAt { ρ with h := hC } w box2 := fun p hp => by
    have := hR p hp
    simp only [box2, rowK, ksOf, AK.ks, List.flatMap_cons, List.flatMap_nil, List.cons_append, List.nil_append, rowsL, List.mem_cons, List.not_mem_nil, or_false] at hp
    rcases hp with rfl | rfl <;> exact this
  exact (ClashS_calls { ρ with h := hC } w hF' ⟨hg, rfl⟩ hR').mono fun e w' ⟨⟨h1, _⟩, h2⟩ => ⟨⟨h1, fun _ h => by cases h⟩, h2⟩
theorem fit2_ap : Fit2 UT.open := ⟨U0, fun h => h.2⟩
set_option maxHeartbeats 2000000 in
theorem apart_law (ρ : Env) (w : World) (hF : holds ρ apF) (hT : UT.tab ρ.g ρ.h ρ.k ρ.m) (hR : RowsAt ρ w apK) : Calls Try.prog 12 (arr ρ (patAs 0 apK)) w fun e w' => e = .returned (.bool true) ∧ Below w.heap.size w w' := by
  refine val_rest (TT := UT) DD_ok (Γ := apG) (by simpa [apG] using ⟨awake_ok, boxes_ok fit2_ap, clashT_ok, Where_ok U0, refLegs_ok U0⟩) 400 apK apF (.b .tt) rfl
    [⟨(.must (.le (apC 12 26 10 11) (.c 1000000))), [(.lt (.c 0) (.v 25)), (.happ 2 (.cons (.v 25) (.lv 25))), (.happ 3 (.cons (.v 25) (.lv 25))), (.allr (-16777216) 1073741824 (.lv 25)), (.lt (.c 0) (.v 12)), (.happ 2 (.cons (.v 12) (.lv 12))), (.happ 3 (.cons (.v 12) (.lv 12))), (.allr (-16777216) 1073741824 (.lv 12)), (apU 13), (.lt (.c 0) (.v 25)), (.happ 2 (.cons (.v 25) (.lv 25))), (.happ 3 (.cons (.v 25) (.lv 25))), (.le (.c 1) (apQ 27)), (.le (apQ 27) (.c 20)), (apU 0), (.lt (.c 0) (.v 12)), (.happ 2 (.cons (.v 12) (.lv 12))), (.happ 3 (.cons (.v 12) (.lv 12))), (.le (.c 1) (apQ 26)), (.le (apQ 26) (.c 20)), (.eq (.v 11) (.v 24)), (.le (.v 28) (.c 100)), (.le (.v 25) (.c 60)), (.le (.v 12) (.c 60)), (.le (.len (.sv 13)) (.c 100)), (.le (.len (.sv 0)) (.c 100)), (.le (.len (.sv 0)) (.c 9223372036854775807)), (.le (.len (.sv 13)) (.c 9223372036854775807)), (.le (.c 0) (.v 12)), (.le (.v 12) (.c 9223372036854775807)), (.le (.c 0) (.v 25)), (.le (.v 25) (.c 9223372036854775807)), (.le (.c 0) (.v 28)), (.le (.v 28) (.c 9223372036854775807))], []⟩,
⟨(.must (.le (apC 25 27 23 24) (.c 1000000))), [(.lt (.c 0) (.v 25)), (.happ 2 (.cons (.v 25) (.lv 25))), (.happ 3 (.cons (.v 25) (.lv 25))), (.allr (-16777216) 1073741824 (.lv 25)), (.lt (.c 0) (.v 12)), (.happ 2 (.cons (.v 12) (.lv 12))), (.happ 3 (.cons (.v 12) (.lv 12))), (.allr (-16777216) 1073741824 (.lv 12)), (apU 13), (.lt (.c 0) (.v 25)), (.happ 2 (.cons (.v 25) (.lv 25))), (.happ 3 (.cons (.v 25) (.lv 25))), (.le (.c 1) (apQ 27)), (.le (apQ 27) (.c 20)), (apU 0), (.lt (.c 0) (.v 12)), (.happ 2 (.cons (.v 12) (.lv 12))), (.happ 3 (.cons (.v 12) (.lv 12))), (.le (.c 1) (apQ 26)), (.le (apQ 26) (.c 20)), (.eq (.v 11) (.v 24)), (.le (.v 28) (.c 100)), (.le (.v 25) (.c 60)), (.le (.v 12) (.c 60)), (.le (.len (.sv 13)) (.c 100)), (.le (.len (.sv 0)) (.c 100)), (.le (.len (.sv 0)) (.c 9223372036854775807)), (.le (.len (.sv 13)) (.c 9223372036854775807)), (.le (.c 0) (.v 12)), (.le (.v 12) (.c 9223372036854775807)), (.le (.c 0) (.v 25)), (.le (.v 25) (.c 9223372036854775807)), (.le (.c 0) (.v 28)), (.le (.v 28) (.c 9223372036854775807))], []⟩,
⟨(.must (.lt (.sub (.v 12) (.c 1)) (.v 12))), [(.lt (.app 9 (.cons (apC 12 26 10 11) (.cons (apC 25 27 23 24) (.lcat (apB 12 26 10 11) (apB 25 27 23 24))))) (.c 0)), (.le (apC 12 26 10 11) (.c 1000000)), (.le (apC 25 27 23 24) (.c 1000000)), (.lt (.c 0) (.v 25)), (.happ 2 (.cons (.v 25) (.lv 25))), (.happ 3 (.cons (.v 25) (.lv 25))), (.allr (-16777216) 1073741824 (.lv 25)), (.lt (.c 0) (.v 12)), (.happ 2 (.cons (.v 12) (.lv 12))), (.happ 3 (.cons (.v 12) (.lv 12))), (.allr (-16777216) 1073741824 (.lv 12)), (apU 13), (.lt (.c 0) (.v 25)), (.happ 2 (.cons (.v 25) (.lv 25))), (.happ 3 (.cons (.v 25) (.lv 25))), (.le (.c 1) (apQ 27)), (.le (apQ 27) (.c 20)), (apU 0), (.lt (.c 0) (.v 12)), (.happ 2 (.cons (.v 12) (.lv 12))), (.happ 3 (.cons (.v 12) (.lv 12))), (.le (.c 1) (apQ 26)), (.le (apQ 26) (.c 20)), (.eq (.v 11) (.v 24)), (.le (.v 28) (.c 100)), (.le (.v 25) (.c 60)), (.le (.v 12) (.c 60)), (.le (.len (.sv 13)) (.c 100)), (.le (.len (.sv 0)) (.c 100)), (.le (.len (.sv 0)) (.c 9223372036854775807)), (.le (.len (.sv 13)) (.c 9223372036854775807)), (.le (.c 0) (.v 12)), (.le (.v 12) (.c 9223372036854775807)), (.le (.c 0) (.v 25)), (.le (.v 25) (.c 9223372036854775807)), (.le (.c 0) (.v 28)), (.le (.v 28) (.c 9223372036854775807))], []⟩,
⟨(.must (.not (.eq apLen (.c 0)))), [(.lt (.v 36) (.v 28)), (.le (.c 0) (.v 36)), (.le (.v 36) (.v 28)), (.le (.v 36) (.c 9223372036854775807)), (.lt (.sub (.v 12) (.c 1)) (.v 12)), (.lt (.app 9 (.cons (apC 12 26 10 11) (.cons (apC 25 27 23 24) (.lcat (apB 12 26 10 11) (apB 25 27 23 24))))) (.c 0)), (.le (apC 12 26 10 11) (.c 1000000)), (.le (apC 25 27 23 24) (.c 1000000)), (.lt (.c 0) (.v 25)), (.happ 2 (.cons (.v 25) (.lv 25))), (.happ 3 (.cons (.v 25) (.lv 25))), (.allr (-16777216) 1073741824 (.lv 25)), (.lt (.c 0) (.v 12)), (.happ 2 (.cons (.v 12) (.lv 12))), (.happ 3 (.cons (.v 12) (.lv 12))), (.allr (-16777216) 1073741824 (.lv 12)), (apU 13), (.lt (.c 0) (.v 25)), (.happ 2 (.cons (.v 25) (.lv 25))), (.happ 3 (.cons (.v 25) (.lv 25))), (.le (.c 1) (apQ 27)), (.le (apQ 27) (.c 20)), (apU 0), (.lt (.c 0) (.v 12)), (.happ 2 (.cons (.v 12) (.lv 12))), (.happ 3 (.cons (.v 12) (.lv 12))), (.le (.c 1) (apQ 26)), (.le (apQ 26) (.c 20)), (.eq (.v 11) (.v 24)), (.le (.v 28) (.c 100)), (.le (.v 25) (.c 60)), (.le (.v 12) (.c 60)), (.le (.len (.sv 13)) (.c 100)), (.le (.len (.sv 0)) (.c 100)), (.le (.len (.sv 0)) (.c 9223372036854775807)), (.le (.len (.sv 13)) (.c 9223372036854775807)), (.le (.c 0) (.v 12)), (.le (.v 12) (.c 9223372036854775807)), (.le (.c 0) (.v 25)), (.le (.v 25) (.c 9223372036854775807)), (.le (.c 0) (.v 28)), (.le (.v 28) (.c 9223372036854775807))], []⟩,
⟨(.must (.le (.c 0) (.wrap .i64 (.add (.v 36) (.c 1))))), [(.lt (.wrap .i64 (.add (.v 10) (.v 23))) (.ite (.lt (.sub (apP 4 12 0 2) (apP 3 25 0 2)) (.sub (apP 4 25 0 2) (apP 3 12 0 2))) (.sub (apP 4 25 0 2) (apP 3 12 0 2)) (.sub (apP 4 12 0 2) (apP 3 25 0 2)))), (.lt (.c 0) (.v 25)), (.happ 2 (.cons (.v 25) (.lv 25))), (.happ 3 (.cons (.v 25) (.lv 25))), (.allr (-16777216) 1073741824 (.lv 25)), (.le (.c 0) (apI 25)), (.lt (apI 25) (.v 25)), (.le (apN 25 4) apT), (.le apT (apN 25 6)), (.le (.c 0) apT), (.le apT (.c 1073741824)), (.le (.c (-16777216)) (apP 3 25 0 2)), (.le (apP 3 25 0 2) (.c 1073741824)), (.le (.c (-16777216)) (apP 3 25 1 3)), (.le (apP 3 25 1 3) (.c 1073741824)), (.le (.c (-16777216)) (apP 4 25 0 2)), (.le (apP 4 25 0 2) (.c 1073741824)), (.le (.c (-16777216)) (apP 4 25 1 3)), (.le (apP 4 25 1 3) (.c 1073741824)), (.lt (.c 0) (.v 12)), (.happ 2 (.cons (.v 12) (.lv 12))), (.happ 3 (.cons (.v 12) (.lv 12))), (.allr (-16777216) 1073741824 (.lv 12)), (.le (.c 0) (apI 12)), (.lt (apI 12) (.v 12)), (.le (apN 12 4) apT), (.le apT (apN 12 6)), (.le (.c 0) apT), (.le apT (.c 1073741824)), (.le (.c (-16777216)) (apP 3 12 0 2)), (.le (apP 3 12 0 2) (.c 1073741824)), (.le (.c (-16777216)) (apP 3 12 1 3)), (.le (apP 3 12 1 3) (.c 1073741824)), (.le (.c (-16777216)) (apP 4 12 0 2)), (.le (apP 4 12 0 2) (.c 1073741824)), (.le (.c (-16777216)) (apP 4 12 1 3)), (.le (apP 4 12 1 3) (.c 1073741824)), (.not (.eq apLen (.c 0))), (.lt (.v 36) (.v 28)), (.le (.c 0) (.v 36)), (.le (.v 36) (.v 28)), (.le (.v 36) (.c 9223372036854775807)), (.lt (.sub (.v 12) (.c 1)) (.v 12)), (.lt (.app 9 (.cons (apC 12 26 10 11) (.cons (apC 25 27 23 24) (.lcat (apB 12 26 10 11) (apB 25 27 23 24))))) (.c 0)), (.le (apC 12 26 10 11) (.c 1000000)), (.le (apC 25 27 23 24) (.c 1000000)), (.lt (.c 0) (.v 25)), (.happ 2 (.cons (.v 25) (.lv 25))), (.happ 3 (.cons (.v 25) (.lv 25))), (.allr (-16777216) 1073741824 (.lv 25)), (.lt (.c 0) (.v 12)), (.happ 2 (.cons (.v 12) (.lv 12))), (.happ 3 (.cons (.v 12) (.lv 12))), (.allr (-16777216) 1073741824 (.lv 12)), (apU 13), (.lt (.c 0) (.v 25)), (.happ 2 (.cons (.v 25) (.lv 25))), (.happ 3 (.cons (.v 25) (.lv 25))), (.le (.c 1) (apQ 27)), (.le (apQ 27) (.c 20)), (apU 0), (.lt (.c 0) (.v 12)), (.happ 2 (.cons (.v 12) (.lv 12))), (.happ 3 (.cons (.v 12) (.lv 12))), (.le (.c 1) (apQ 26)), (.le (apQ 26) (.c 20)), (.eq (.v 11) (.v 24)), (.le (.v 28) (.c 100)), (.le (.v 25) (.c 60)), (.le (.v 12) (.c 60)), (.le (.len (.sv 13)) (.c 100)), (.le (.len (.sv 0)) (.c 100)), (.le (.len (.sv 0)) (.c 9223372036854775807)), (.le (.len (.sv 13)) (.c 9223372036854775807)), (.le (.c 0) (.v 12)), (.le (.v 12) (.c 9223372036854775807)), (.le (.c 0) (.v 25)), (.le (.v 25) (.c 9223372036854775807)), (.le (.c 0) (.v 28)), (.le (.v 28) (.c 9223372036854775807))], []⟩,
⟨(.must (.le (.wrap .i64 (.add (.v 36) (.c 1))) (.v 28))), [(.lt (.wrap .i64 (.add (.v 10) (.v 23))) (.ite (.lt (.sub (apP 4 12 0 2) (apP 3 25 0 2)) (.sub (apP 4 25 0 2) (apP 3 12 0 2))) (.sub (apP 4 25 0 2) (apP 3 12 0 2)) (.sub (apP 4 12 0 2) (apP 3 25 0 2)))), (.lt (.c 0) (.v 25)), (.happ 2 (.cons (.v 25) (.lv 25))), (.happ 3 (.cons (.v 25) (.lv 25))), (.allr (-16777216) 1073741824 (.lv 25)), (.le (.c 0) (apI 25)), (.lt (apI 25) (.v 25)), (.le (apN 25 4) apT), (.le apT (apN 25 6)), (.le (.c 0) apT), (.le apT (.c 1073741824)), (.le (.c (-16777216)) (apP 3 25 0 2)), (.le (apP 3 25 0 2) (.c 1073741824)), (.le (.c (-16777216)) (apP 3 25 1 3)), (.le (apP 3 25 1 3) (.c 1073741824)), (.le (.c (-16777216)) (apP 4 25 0 2)), (.le (apP 4 25 0 2) (.c 1073741824)), (.le (.c (-16777216)) (apP 4 25 1 3)), (.le (apP 4 25 1 3) (.c 1073741824)), (.lt (.c 0) (.v 12)), (.happ 2 (.cons (.v 12) (.lv 12))), (.happ 3 (.cons (.v 12) (.lv 12))), (.allr (-16777216) 1073741824 (.lv 12)), (.le (.c 0) (apI 12)), (.lt (apI 12) (.v 12)), (.le (apN 12 4) apT), (.le apT (apN 12 6)), (.le (.c 0) apT), (.le apT (.c 1073741824)), (.le (.c (-16777216)) (apP 3 12 0 2)), (.le (apP 3 12 0 2) (.c 1073741824)), (.le (.c (-16777216)) (apP 3 12 1 3)), (.le (apP 3 12 1 3) (.c 1073741824)), (.le (.c (-16777216)) (apP 4 12 0 2)), (.le (apP 4 12 0 2) (.c 1073741824)), (.le (.c (-16777216)) (apP 4 12 1 3)), (.le (apP 4 12 1 3) (.c 1073741824)), (.not (.eq apLen (.c 0))), (.lt (.v 36) (.v 28)), (.le (.c 0) (.v 36)), (.le (.v 36) (.v 28)), (.le (.v 36) (.c 9223372036854775807)), (.lt (.sub (.v 12) (.c 1)) (.v 12)), (.lt (.app 9 (.cons (apC 12 26 10 11) (.cons (apC 25 27 23 24) (.lcat (apB 12 26 10 11) (apB 25 27 23 24))))) (.c 0)), (.le (apC 12 26 10 11) (.c 1000000)), (.le (apC 25 27 23 24) (.c 1000000)), (.lt (.c 0) (.v 25)), (.happ 2 (.cons (.v 25) (.lv 25))), (.happ 3 (.cons (.v 25) (.lv 25))), (.allr (-16777216) 1073741824 (.lv 25)), (.lt (.c 0) (.v 12)), (.happ 2 (.cons (.v 12) (.lv 12))), (.happ 3 (.cons (.v 12) (.lv 12))), (.allr (-16777216) 1073741824 (.lv 12)), (apU 13), (.lt (.c 0) (.v 25)), (.happ 2 (.cons (.v 25) (.lv 25))), (.happ 3 (.cons (.v 25) (.lv 25))), (.le (.c 1) (apQ 27)), (.le (apQ 27) (.c 20)), (apU 0), (.lt (.c 0) (.v 12)), (.happ 2 (.cons (.v 12) (.lv 12))), (.happ 3 (.cons (.v 12) (.lv 12))), (.le (.c 1) (apQ 26)), (.le (apQ 26) (.c 20)), (.eq (.v 11) (.v 24)), (.le (.v 28) (.c 100)), (.le (.v 25) (.c 60)), (.le (.v 12) (.c 60)), (.le (.len (.sv 13)) (.c 100)), (.le (.len (.sv 0)) (.c 100)), (.le (.len (.sv 0)) (.c 9223372036854775807)), (.le (.len (.sv 13)) (.c 9223372036854775807)), (.le (.c 0) (.v 12)), (.le (.v 12) (.c 9223372036854775807)), (.le (.c 0) (.v 25)), (.le (.v 25) (.c 9223372036854775807)), (.le (.c 0) (.v 28)), (.le (.v 28) (.c 9223372036854775807))], []⟩,
⟨(.must (.lt (.sub (.v 28) (.wrap .i64 (.add (.v 36) (.c 1)))) (.sub (.v 28) (.v 36)))), [(.lt (.wrap .i64 (.add (.v 10) (.v 23))) (.ite (.lt (.sub (apP 4 12 0 2) (apP 3 25 0 2)) (.sub (apP 4 25 0 2) (apP 3 12 0 2))) (.sub (apP 4 25 0 2) (apP 3 12 0 2)) (.sub (apP 4 12 0 2) (apP 3 25 0 2)))), (.lt (.c 0) (.v 25)), (.happ 2 (.cons (.v 25) (.lv 25))), (.happ 3 (.cons (.v 25) (.lv 25))), (.allr (-16777216) 1073741824 (.lv 25)), (.le (.c 0) (apI 25)), (.lt (apI 25) (.v 25)), (.le (apN 25 4) apT), (.le apT (apN 25 6)), (.le (.c 0) apT), (.le apT (.c 1073741824)), (.le (.c (-16777216)) (apP 3 25 0 2)), (.le (apP 3 25 0 2) (.c 1073741824)), (.le (.c (-16777216)) (apP 3 25 1 3)), (.le (apP 3 25 1 3) (.c 1073741824)), (.le (.c (-16777216)) (apP 4 25 0 2)), (.le (apP 4 25 0 2) (.c 1073741824)), (.le (.c (-16777216)) (apP 4 25 1 3)), (.le (apP 4 25 1 3) (.c 1073741824)), (.lt (.c 0) (.v 12)), (.happ 2 (.cons (.v 12) (.lv 12))), (.happ 3 (.cons (.v 12) (.lv 12))), (.allr (-16777216) 1073741824 (.lv 12)), (.le (.c 0) (apI 12)), (.lt (apI 12) (.v 12)), (.le (apN 12 4) apT), (.le apT (apN 12 6)), (.le (.c 0) apT), (.le apT (.c 1073741824)), (.le (.c (-16777216)) (apP 3 12 0 2)), (.le (apP 3 12 0 2) (.c 1073741824)), (.le (.c (-16777216)) (apP 3 12 1 3)), (.le (apP 3 12 1 3) (.c 1073741824)), (.le (.c (-16777216)) (apP 4 12 0 2)), (.le (apP 4 12 0 2) (.c 1073741824)), (.le (.c (-16777216)) (apP 4 12 1 3)), (.le (apP 4 12 1 3) (.c 1073741824)), (.not (.eq apLen (.c 0))), (.lt (.v 36) (.v 28)), (.le (.c 0) (.v 36)), (.le (.v 36) (.v 28)), (.le (.v 36) (.c 9223372036854775807)), (.lt (.sub (.v 12) (.c 1)) (.v 12)), (.lt (.app 9 (.cons (apC 12 26 10 11) (.cons (apC 25 27 23 24) (.lcat (apB 12 26 10 11) (apB 25 27 23 24))))) (.c 0)), (.le (apC 12 26 10 11) (.c 1000000)), (.le (apC 25 27 23 24) (.c 1000000)), (.lt (.c 0) (.v 25)), (.happ 2 (.cons (.v 25) (.lv 25))), (.happ 3 (.cons (.v 25) (.lv 25))), (.allr (-16777216) 1073741824 (.lv 25)), (.lt (.c 0) (.v 12)), (.happ 2 (.cons (.v 12) (.lv 12))), (.happ 3 (.cons (.v 12) (.lv 12))), (.allr (-16777216) 1073741824 (.lv 12)), (apU 13), (.lt (.c 0) (.v 25)), (.happ 2 (.cons (.v 25) (.lv 25))), (.happ 3 (.cons (.v 25) (.lv 25))), (.le (.c 1) (apQ 27)), (.le (apQ 27) (.c 20)), (apU 0), (.lt (.c 0) (.v 12)), (.happ 2 (.cons (.v 12) (.lv 12))), (.happ 3 (.cons (.v 12) (.lv 12))), (.le (.c 1) (apQ 26)), (.le (apQ 26) (.c 20)), (.eq (.v 11) (.v 24)), (.le (.v 28) (.c 100)), (.le (.v 25) (.c 60)), (.le (.v 12) (.c 60)), (.le (.len (.sv 13)) (.c 100)), (.le (.len (.sv 0)) (.c 100)), (.le (.len (.sv 0)) (.c 9223372036854775807)), (.le (.len (.sv 13)) (.c 9223372036854775807)), (.le (.c 0) (.v 12)), (.le (.v 12) (.c 9223372036854775807)), (.le (.c 0) (.v 25)), (.le (.v 25) (.c 9223372036854775807)), (.le (.c 0) (.v 28)), (.le (.v 28) (.c 9223372036854775807))], []⟩,
⟨(.must (.le (.c 0) (.sub (.v 28) (.wrap .i64 (.add (.v 36) (.c 1)))))), [(.lt (.wrap .i64 (.add (.v 10) (.v 23))) (.ite (.lt (.sub (apP 4 12 0 2) (apP 3 25 0 2)) (.sub (apP 4 25 0 2) (apP 3 12 0 2))) (.sub (apP 4 25 0 2) (apP 3 12 0 2)) (.sub (apP 4 12 0 2) (apP 3 25 0 2)))), (.lt (.c 0) (.v 25)), (.happ 2 (.cons (.v 25) (.lv 25))), (.happ 3 (.cons (.v 25) (.lv 25))), (.allr (-16777216) 1073741824 (.lv 25)), (.le (.c 0) (apI 25)), (.lt (apI 25) (.v 25)), (.le (apN 25 4) apT), (.le apT (apN 25 6)), (.le (.c 0) apT), (.le apT (.c 1073741824)), (.le (.c (-16777216)) (apP 3 25 0 2)), (.le (apP 3 25 0 2) (.c 1073741824)), (.le (.c (-16777216)) (apP 3 25 1 3)), (.le (apP 3 25 1 3) (.c 1073741824)), (.le (.c (-16777216)) (apP 4 25 0 2)), (.le (apP 4 25 0 2) (.c 1073741824)), (.le (.c (-16777216)) (apP 4 25 1 3)), (.le (apP 4 25 1 3) (.c 1073741824)), (.lt (.c 0) (.v 12)), (.happ 2 (.cons (.v 12) (.lv 12))), (.happ 3 (.cons (.v 12) (.lv 12))), (.allr (-16777216) 1073741824 (.lv 12)), (.le (.c 0) (apI 12)), (.lt (apI 12) (.v 12)), (.le (apN 12 4) apT), (.le apT (apN 12 6)), (.le (.c 0) apT), (.le apT (.c 1073741824)), (.le (.c (-16777216)) (apP 3 12 0 2)), (.le (apP 3 12 0 2) (.c 1073741824)), (.le (.c (-16777216)) (apP 3 12 1 3)), (.le (apP 3 12 1 3) (.c 1073741824)), (.le (.c (-16777216)) (apP 4 12 0 2)), (.le (apP 4 12 0 2) (.c 1073741824)), (.le (.c (-16777216)) (apP 4 12 1 3)), (.le (apP 4 12 1 3) (.c 1073741824)), (.not (.eq apLen (.c 0))), (.lt (.v 36) (.v 28)), (.le (.c 0) (.v 36)), (.le (.v 36) (.v 28)), (.le (.v 36) (.c 9223372036854775807)), (.lt (.sub (.v 12) (.c 1)) (.v 12)), (.lt (.app 9 (.cons (apC 12 26 10 11) (.cons (apC 25 27 23 24) (.lcat (apB 12 26 10 11) (apB 25 27 23 24))))) (.c 0)), (.le (apC 12 26 10 11) (.c 1000000)), (.le (apC 25 27 23 24) (.c 1000000)), (.lt (.c 0) (.v 25)), (.happ 2 (.cons (.v 25) (.lv 25))), (.happ 3 (.cons (.v 25) (.lv 25))), (.allr (-16777216) 1073741824 (.lv 25)), (.lt (.c 0) (.v 12)), (.happ 2 (.cons (.v 12) (.lv 12))), (.happ 3 (.cons (.v 12) (.lv 12))), (.allr (-16777216) 1073741824 (.lv 12)), (apU 13), (.lt (.c 0) (.v 25)), (.happ 2 (.cons (.v 25) (.lv 25))), (.happ 3 (.cons (.v 25) (.lv 25))), (.le (.c 1) (apQ 27)), (.le (apQ 27) (.c 20)), (apU 0), (.lt (.c 0) (.v 12)), (.happ 2 (.cons (.v 12) (.lv 12))), (.happ 3 (.cons (.v 12) (.lv 12))), (.le (.c 1) (apQ 26)), (.le (apQ 26) (.c 20)), (.eq (.v 11) (.v 24)), (.le (.v 28) (.c 100)), (.le (.v 25) (.c 60)), (.le (.v 12) (.c 60)), (.le (.len (.sv 13)) (.c 100)), (.le (.len (.sv 0)) (.c 100)), (.le (.len (.sv 0)) (.c 9223372036854775807)), (.le (.len (.sv 13)) (.c 9223372036854775807)), (.le (.c 0) (.v 12)), (.le (.v 12) (.c 9223372036854775807)), (.le (.c 0) (.v 25)), (.le (.v 25) (.c 9223372036854775807)), (.le (.c 0) (.v 28)), (.le (.v 28) (.c 9223372036854775807))], []⟩,
⟨(.val (.b .ff)), [(apFar 1 3), (apFar 0 2), (.lt (.c 0) (.v 25)), (.happ 2 (.cons (.v 25) (.lv 25))), (.happ 3 (.cons (.v 25) (.lv 25))), (.allr (-16777216) 1073741824 (.lv 25)), (.le (.c 0) (apI 25)), (.lt (apI 25) (.v 25)), (.le (apN 25 4) apT), (.le apT (apN 25 6)), (.le (.c 0) apT), (.le apT (.c 1073741824)), (.le (.c (-16777216)) (apP 3 25 0 2)), (.le (apP 3 25 0 2) (.c 1073741824)), (.le (.c (-16777216)) (apP 3 25 1 3)), (.le (apP 3 25 1 3) (.c 1073741824)), (.le (.c (-16777216)) (apP 4 25 0 2)), (.le (apP 4 25 0 2) (.c 1073741824)), (.le (.c (-16777216)) (apP 4 25 1 3)), (.le (apP 4 25 1 3) (.c 1073741824)), (.lt (.c 0) (.v 12)), (.happ 2 (.cons (.v 12) (.lv 12))), (.happ 3 (.cons (.v 12) (.lv 12))), (.allr (-16777216) 1073741824 (.lv 12)), (.le (.c 0) (apI 12)), (.lt (apI 12) (.v 12)), (.le (apN 12 4) apT), (.le apT (apN 12 6)), (.le (.c 0) apT), (.le apT (.c 1073741824)), (.le (.c (-16777216)) (apP 3 12 0 2)), (.le (apP 3 12 0 2) (.c 1073741824)), (.le (.c (-16777216)) (apP 3 12 1 3)), (.le (apP 3 12 1 3) (.c 1073741824)), (.le (.c (-16777216)) (apP 4 12 0 2)), (.le (apP 4 12 0 2) (.c 1073741824)), (.le (.c (-16777216)) (apP 4 12 1 3)), (.le (apP 4 12 1 3) (.c 1073741824)), (.not (.eq apLen (.c 0))), (.lt (.v 36) (.v 28)), (.le (.c 0) (.v 36)), (.le (.v 36) (.v 28)), (.le (.v 36) (.c 9223372036854775807)), (.lt (.sub (.v 12) (.c 1)) (.v 12)), (.lt (.app 9 (.cons (apC 12 26 10 11) (.cons (apC 25 27 23 24) (.lcat (apB 12 26 10 11) (apB 25 27 23 24))))) (.c 0)), (.le (apC 12 26 10 11) (.c 1000000)), (.le (apC 25 27 23 24) (.c 1000000)), (.lt (.c 0) (.v 25)), (.happ 2 (.cons (.v 25) (.lv 25))), (.happ 3 (.cons (.v 25) (.lv 25))), (.allr (-16777216) 1073741824 (.lv 25)), (.lt (.c 0) (.v 12)), (.happ 2 (.cons (.v 12) (.lv 12))), (.happ 3 (.cons (.v 12) (.lv 12))), (.allr (-16777216) 1073741824 (.lv 12)), (apU 13), (.lt (.c 0) (.v 25)), (.happ 2 (.cons (.v 25) (.lv 25))), (.happ 3 (.cons (.v 25) (.lv 25))), (.le (.c 1) (apQ 27)), (.le (apQ 27) (.c 20)), (apU 0), (.lt (.c 0) (.v 12)), (.happ 2 (.cons (.v 12) (.lv 12))), (.happ 3 (.cons (.v 12) (.lv 12))), (.le (.c 1) (apQ 26)), (.le (apQ 26) (.c 20)), (.eq (.v 11) (.v 24)), (.le (.v 28) (.c 100)), (.le (.v 25) (.c 60)), (.le (.v 12) (.c 60)), (.le (.len (.sv 13)) (.c 100)), (.le (.len (.sv 0)) (.c 100)), (.le (.len (.sv 0)) (.c 9223372036854775807)), (.le (.len (.sv 13)) (.c 9223372036854775807)), (.le (.c 0) (.v 12)), (.le (.v 12) (.c 9223372036854775807)), (.le (.c 0) (.v 25)), (.le (.v 25) (.c 9223372036854775807)), (.le (.c 0) (.v 28)), (.le (.v 28) (.c 9223372036854775807))], []⟩,
⟨(.must (.le (.c 0) (.wrap .i64 (.add (.v 36) (.c 1))))), [(.lt (.wrap .i64 (.add (.v 10) (.v 23))) (.ite (.lt (.sub (apP 4 12 1 3) (apP 3 25 1 3)) (.sub (apP 4 25 1 3) (apP 3 12 1 3))) (.sub (apP 4 25 1 3) (apP 3 12 1 3)) (.sub (apP 4 12 1 3) (apP 3 25 1 3)))), (apFar 0 2), (.lt (.c 0) (.v 25)), (.happ 2 (.cons (.v 25) (.lv 25))), (.happ 3 (.cons (.v 25) (.lv 25))), (.allr (-16777216) 1073741824 (.lv 25)), (.le (.c 0) (apI 25)), (.lt (apI 25) (.v 25)), (.le (apN 25 4) apT), (.le apT (apN 25 6)), (.le (.c 0) apT), (.le apT (.c 1073741824)), (.le (.c (-16777216)) (apP 3 25 0 2)), (.le (apP 3 25 0 2) (.c 1073741824)), (.le (.c (-16777216)) (apP 3 25 1 3)), (.le (apP 3 25 1 3) (.c 1073741824)), (.le (.c (-16777216)) (apP 4 25 0 2)), (.le (apP 4 25 0 2) (.c 1073741824)), (.le (.c (-16777216)) (apP 4 25 1 3)), (.le (apP 4 25 1 3) (.c 1073741824)), (.lt (.c 0) (.v 12)), (.happ 2 (.cons (.v 12) (.lv 12))), (.happ 3 (.cons (.v 12) (.lv 12))), (.allr (-16777216) 1073741824 (.lv 12)), (.le (.c 0) (apI 12)), (.lt (apI 12) (.v 12)), (.le (apN 12 4) apT), (.le apT (apN 12 6)), (.le (.c 0) apT), (.le apT (.c 1073741824)), (.le (.c (-16777216)) (apP 3 12 0 2)), (.le (apP 3 12 0 2) (.c 1073741824)), (.le (.c (-16777216)) (apP 3 12 1 3)), (.le (apP 3 12 1 3) (.c 1073741824)), (.le (.c (-16777216)) (apP 4 12 0 2)), (.le (apP 4 12 0 2) (.c 1073741824)), (.le (.c (-16777216)) (apP 4 12 1 3)), (.le (apP 4 12 1 3) (.c 1073741824)), (.not (.eq apLen (.c 0))), (.lt (.v 36) (.v 28)), (.le (.c 0) (.v 36)), (.le (.v 36) (.v 28)), (.le (.v 36) (.c 9223372036854775807)), (.lt (.sub (.v 12) (.c 1)) (.v 12)), (.lt (.app 9 (.cons (apC 12 26 10 11) (.cons (apC 25 27 23 24) (.lcat (apB 12 26 10 11) (apB 25 27 23 24))))) (.c 0)), (.le (apC 12 26 10 11) (.c 1000000)), (.le (apC 25 27 23 24) (.c 1000000)), (.lt (.c 0) (.v 25)), (.happ 2 (.cons (.v 25) (.lv 25))), (.happ 3 (.cons (.v 25) (.lv 25))), (.allr (-16777216) 1073741824 (.lv 25)), (.lt (.c 0) (.v 12)), (.happ 2 (.cons (.v 12) (.lv 12))), (.happ 3 (.cons (.v 12) (.lv 12))), (.allr (-16777216) 1073741824 (.lv 12)), (apU 13), (.lt (.c 0) (.v 25)), (.happ 2 (.cons (.v 25) (.lv 25))), (.happ 3 (.cons (.v 25) (.lv 25))), (.le (.c 1) (apQ 27)), (.le (apQ 27) (.c 20)), (apU 0), (.lt (.c 0) (.v 12)), (.happ 2 (.cons (.v 12) (.lv 12))), (.happ 3 (.cons (.v 12) (.lv 12))), (.le (.c 1) (apQ 26)), (.le (apQ 26) (.c 20)), (.eq (.v 11) (.v 24)), (.le (.v 28) (.c 100)), (.le (.v 25) (.c 60)), (.le (.v 12) (.c 60)), (.le (.len (.sv 13)) (.c 100)), (.le (.len (.sv 0)) (.c 100)), (.le (.len (.sv 0)) (.c 9223372036854775807)), (.le (.len (.sv 13)) (.c 9223372036854775807)), (.le (.c 0) (.v 12)), (.le (.v 12) (.c 9223372036854775807)), (.le (.c 0) (.v 25)), (.le (.v 25) (.c 9223372036854775807)), (.le (.c 0) (.v 28)), (.le (.v 28) (.c 9223372036854775807))], []⟩,
⟨(.must (.le (.wrap .i64 (.add (.v 36) (.c 1))) (.v 28))), [(.lt (.wrap .i64 (.add (.v 10) (.v 23))) (.ite (.lt (.sub (apP 4 12 1 3) (apP 3 25 1 3)) (.sub (apP 4 25 1 3) (apP 3 12 1 3))) (.sub (apP 4 25 1 3) (apP 3 12 1 3)) (.sub (apP 4 12 1 3) (apP 3 25 1 3)))), (apFar 0 2), (.lt (.c 0) (.v 25)), (.happ 2 (.cons (.v 25) (.lv 25))), (.happ 3 (.cons (.v 25) (.lv 25))), (.allr (-16777216) 1073741824 (.lv 25)), (.le (.c 0) (apI 25)), (.lt (apI 25) (.v 25)), (.le (apN 25 4) apT), (.le apT (apN 25 6)), (.le (.c 0) apT), (.le apT (.c 1073741824)), (.le (.c (-16777216)) (apP 3 25 0 2)), (.le (apP 3 25 0 2) (.c 1073741824)), (.le (.c (-16777216)) (apP 3 25 1 3)), (.le (apP 3 25 1 3) (.c 1073741824)), (.le (.c (-16777216)) (apP 4 25 0 2)), (.le (apP 4 25 0 2) (.c 1073741824)), (.le (.c (-16777216)) (apP 4 25 1 3)), (.le (apP 4 25 1 3) (.c 1073741824)), (.lt (.c 0) (.v 12)), (.happ 2 (.cons (.v 12) (.lv 12))), (.happ 3 (.cons (.v 12) (.lv 12))), (.allr (-16777216) 1073741824 (.lv 12)), (.le (.c 0) (apI 12)), (.lt (apI 12) (.v 12)), (.le (apN 12 4) apT), (.le apT (apN 12 6)), (.le (.c 0) apT), (.le apT (.c 1073741824)), (.le (.c (-16777216)) (apP 3 12 0 2)), (.le (apP 3 12 0 2) (.c 1073741824)), (.le (.c (-16777216)) (apP 3 12 1 3)), (.le (apP 3 12 1 3) (.c 1073741824)), (.le (.c (-16777216)) (apP 4 12 0 2)), (.le (apP 4 12 0 2) (.c 1073741824)), (.le (.c (-16777216)) (apP 4 12 1 3)), (.le (apP 4 12 1 3) (.c 1073741824)), (.not (.eq apLen (.c 0))), (.lt (.v 36) (.v 28)), (.le (.c 0) (.v 36)), (.le (.v 36) (.v 28)), (.le (.v 36) (.c 9223372036854775807)), (.lt (.sub (.v 12) (.c 1)) (.v 12)), (.lt (.app 9 (.cons (apC 12 26 10 11) (.cons (apC 25 27 23 24) (.lcat (apB 12 26 10 11) (apB 25 27 23 24))))) (.c 0)), (.le (apC 12 26 10 11) (.c 1000000)), (.le (apC 25 27 23 24) (.c 1000000)), (.lt (.c 0) (.v 25)), (.happ 2 (.cons (.v 25) (.lv 25))), (.happ 3 (.cons (.v 25) (.lv 25))), (.allr (-16777216) 1073741824 (.lv 25)), (.lt (.c 0) (.v 12)), (.happ 2 (.cons (.v 12) (.lv 12))), (.happ 3 (.cons (.v 12) (.lv 12))), (.allr (-16777216) 1073741824 (.lv 12)), (apU 13), (.lt (.c 0) (.v 25)), (.happ 2 (.cons (.v 25) (.lv 25))), (.happ 3 (.cons (.v 25) (.lv 25))), (.le (.c 1) (apQ 27)), (.le (apQ 27) (.c 20)), (apU 0), (.lt (.c 0) (.v 12)), (.happ 2 (.cons (.v 12) (.lv 12))), (.happ 3 (.cons (.v 12) (.lv 12))), (.le (.c 1) (apQ 26)), (.le (apQ 26) (.c 20)), (.eq (.v 11) (.v 24)), (.le (.v 28) (.c 100)), (.le (.v 25) (.c 60)), (.le (.v 12) (.c 60)), (.le (.len (.sv 13)) (.c 100)), (.le (.len (.sv 0)) (.c 100)), (.le (.len (.sv 0)) (.c 9223372036854775807)), (.le (.len (.sv 13)) (.c 9223372036854775807)), (.le (.c 0) (.v 12)), (.le (.v 12) (.c 9223372036854775807)), (.le (.c 0) (.v 25)), (.le (.v 25) (.c 9223372036854775807)), (.le (.c 0) (.v 28)), (.le (.v 28) (.c 9223372036854775807))], []⟩,
⟨(.must (.lt (.sub (.v 28) (.wrap .i64 (.add (.v 36) (.c 1)))) (.sub (.v 28) (.v 36)))), [(.lt (.wrap .i64 (.add (.v 10) (.v 23))) (.ite (.lt (.sub (apP 4 12 1 3) (apP 3 25 1 3)) (.sub (apP 4 25 1 3) (apP 3 12 1 3))) (.sub (apP 4 25 1 3) (apP 3 12 1 3)) (.sub (apP 4 12 1 3) (apP 3 25 1 3)))), (apFar 0 2), (.lt (.c 0) (.v 25)), (.happ 2 (.cons (.v 25) (.lv 25))), (.happ 3 (.cons (.v 25) (.lv 25))), (.allr (-16777216) 1073741824 (.lv 25)), (.le (.c 0) (apI 25)), (.lt (apI 25) (.v 25)), (.le (apN 25 4) apT), (.le apT (apN 25 6)), (.le (.c 0) apT), (.le apT (.c 1073741824)), (.le (.c (-16777216)) (apP 3 25 0 2)), (.le (apP 3 25 0 2) (.c 1073741824)), (.le (.c (-16777216)) (apP 3 25 1 3)), (.le (apP 3 25 1 3) (.c 1073741824)), (.le (.c (-16777216)) (apP 4 25 0 2)), (.le (apP 4 25 0 2) (.c 1073741824)), (.le (.c (-16777216)) (apP 4 25 1 3)), (.le (apP 4 25 1 3) (.c 1073741824)), (.lt (.c 0) (.v 12)), (.happ 2 (.cons (.v 12) (.lv 12))), (.happ 3 (.cons (.v 12) (.lv 12))), (.allr (-16777216) 1073741824 (.lv 12)), (.le (.c 0) (apI 12)), (.lt (apI 12) (.v 12)), (.le (apN 12 4) apT), (.le apT (apN 12 6)), (.le (.c 0) apT), (.le apT (.c 1073741824)), (.le (.c (-16777216)) (apP 3 12 0 2)), (.le (apP 3 12 0 2) (.c 1073741824)), (.le (.c (-16777216)) (apP 3 12 1 3)), (.le (apP 3 12 1 3) (.c 1073741824)), (.le (.c (-16777216)) (apP 4 12 0 2)), (.le (apP 4 12 0 2) (.c 1073741824)), (.le (.c (-16777216)) (apP 4 12 1 3)), (.le (apP 4 12 1 3) (.c 1073741824)), (.not (.eq apLen (.c 0))), (.lt (.v 36) (.v 28)), (.le (.c 0) (.v 36)), (.le (.v 36) (.v 28)), (.le (.v 36) (.c 9223372036854775807)), (.lt (.sub (.v 12) (.c 1)) (.v 12)), (.lt (.app 9 (.cons (apC 12 26 10 11) (.cons (apC 25 27 23 24) (.lcat (apB 12 26 10 11) (apB 25 27 23 24))))) (.c 0)), (.le (apC 12 26 10 11) (.c 1000000)), (.le (apC 25 27 23 24) (.c 1000000)), (.lt (.c 0) (.v 25)), (.happ 2 (.cons (.v 25) (.lv 25))), (.happ 3 (.cons (.v 25) (.lv 25))), (.allr (-16777216) 1073741824 (.lv 25)), (.lt (.c 0) (.v 12)), (.happ 2 (.cons (.v 12) (.lv 12))), (.happ 3 (.cons (.v 12) (.lv 12))), (.allr (-16777216) 1073741824 (.lv 12)), (apU 13), (.lt (.c 0) (.v 25)), (.happ 2 (.cons (.v 25) (.lv 25))), (.happ 3 (.cons (.v 25) (.lv 25))), (.le (.c 1) (apQ 27)), (.le (apQ 27) (.c 20)), (apU 0), (.lt (.c 0) (.v 12)), (.happ 2 (.cons (.v 12) (.lv 12))), (.happ 3 (.cons (.v 12) (.lv 12))), (.le (.c 1) (apQ 26)), (.le (apQ 26) (.c 20)), (.eq (.v 11) (.v 24)), (.le (.v 28) (.c 100)), (.le (.v 25) (.c 60)), (.le (.v 12) (.c 60)), (.le (.len (.sv 13)) (.c 100)), (.le (.len (.sv 0)) (.c 100)), (.le (.len (.sv 0)) (.c 9223372036854775807)), (.le (.len (.sv 13)) (.c 9223372036854775807)), (.le (.c 0) (.v 12)), (.le (.v 12) (.c 9223372036854775807)), (.le (.c 0) (.v 25)), (.le (.v 25) (.c 9223372036854775807)), (.le (.c 0) (.v 28)), (.le (.v 28) (.c 9223372036854775807))], []⟩,
⟨(.must (.le (.c 0) (.sub (.v 28) (.wrap .i64 (.add (.v 36) (.c 1)))))), [(.lt (.wrap .i64 (.add (.v 10) (.v 23))) (.ite (.lt (.sub (apP 4 12 1 3) (apP 3 25 1 3)) (.sub (apP 4 25 1 3) (apP 3 12 1 3))) (.sub (apP 4 25 1 3) (apP 3 12 1 3)) (.sub (apP 4 12 1 3) (apP 3 25 1 3)))), (apFar 0 2), (.lt (.c 0) (.v 25)), (.happ 2 (.cons (.v 25) (.lv 25))), (.happ 3 (.cons (.v 25) (.lv 25))), (.allr (-16777216) 1073741824 (.lv 25)), (.le (.c 0) (apI 25)), (.lt (apI 25) (.v 25)), (.le (apN 25 4) apT), (.le apT (apN 25 6)), (.le (.c 0) apT), (.le apT (.c 1073741824)), (.le (.c (-16777216)) (apP 3 25 0 2)), (.le (apP 3 25 0 2) (.c 1073741824)), (.le (.c (-16777216)) (apP 3 25 1 3)), (.le (apP 3 25 1 3) (.c 1073741824)), (.le (.c (-16777216)) (apP 4 25 0 2)), (.le (apP 4 25 0 2) (.c 1073741824)), (.le (.c (-16777216)) (apP 4 25 1 3)), (.le (apP 4 25 1 3) (.c 1073741824)), (.lt (.c 0) (.v 12)), (.happ 2 (.cons (.v 12) (.lv 12))), (.happ 3 (.cons (.v 12) (.lv 12))), (.allr (-16777216) 1073741824 (.lv 12)), (.le (.c 0) (apI 12)), (.lt (apI 12) (.v 12)), (.le (apN 12 4) apT), (.le apT (apN 12 6)), (.le (.c 0) apT), (.le apT (.c 1073741824)), (.le (.c (-16777216)) (apP 3 12 0 2)), (.le (apP 3 12 0 2) (.c 1073741824)), (.le (.c (-16777216)) (apP 3 12 1 3)), (.le (apP 3 12 1 3) (.c 1073741824)), (.le (.c (-16777216)) (apP 4 12 0 2)), (.le (apP 4 12 0 2) (.c 1073741824)), (.le (.c (-16777216)) (apP 4 12 1 3)), (.le (apP 4 12 1 3) (.c 1073741824)), (.not (.eq apLen (.c 0))), (.lt (.v 36) (.v 28)), (.le (.c 0) (.v 36)), (.le (.v 36) (.v 28)), (.le (.v 36) (.c 9223372036854775807)), (.lt (.sub (.v 12) (.c 1)) (.v 12)), (.lt (.app 9 (.cons (apC 12 26 10 11) (.cons (apC 25 27 23 24) (.lcat (apB 12 26 10 11) (apB 25 27 23 24))))) (.c 0)), (.le (apC 12 26 10 11) (.c 1000000)), (.le (apC 25 27 23 24) (.c 1000000)), (.lt (.c 0) (.v 25)), (.happ 2 (.cons (.v 25) (.lv 25))), (.happ 3 (.cons (.v 25) (.lv 25))), (.allr (-16777216) 1073741824 (.lv 25)), (.lt (.c 0) (.v 12)), (.happ 2 (.cons (.v 12) (.lv 12))), (.happ 3 (.cons (.v 12) (.lv 12))), (.allr (-16777216) 1073741824 (.lv 12)), (apU 13), (.lt (.c 0) (.v 25)), (.happ 2 (.cons (.v 25) (.lv 25))), (.happ 3 (.cons (.v 25) (.lv 25))), (.le (.c 1) (apQ 27)), (.le (apQ 27) (.c 20)), (apU 0), (.lt (.c 0) (.v 12)), (.happ 2 (.cons (.v 12) (.lv 12))), (.happ 3 (.cons (.v 12) (.lv 12))), (.le (.c 1) (apQ 26)), (.le (apQ 26) (.c 20)), (.eq (.v 11) (.v 24)), (.le (.v 28) (.c 100)), (.le (.v 25) (.c 60)), (.le (.v 12) (.c 60)), (.le (.len (.sv 13)) (.c 100)), (.le (.len (.sv 0)) (.c 100)), (.le (.len (.sv 0)) (.c 9223372036854775807)), (.le (.len (.sv 13)) (.c 9223372036854775807)), (.le (.c 0) (.v 12)), (.le (.v 12) (.c 9223372036854775807)), (.le (.c 0) (.v 25)), (.le (.v 25) (.c 9223372036854775807)), (.le (.c 0) (.v 28)), (.le (.v 28) (.c 9223372036854775807))], []⟩,
⟨(.must (.le (.c 0) (.wrap .i64 (.add (.v 36) (.c 1))))), [(.lt (.c 0) (.v 25)), (.happ 2 (.cons (.v 25) (.lv 25))), (.happ 3 (.cons (.v 25) (.lv 25))), (.allr (-16777216) 1073741824 (.lv 25)), (.lt (apI 25) (.c 0)), (.lt (.c 0) (.v 12)), (.happ 2 (.cons (.v 12) (.lv 12))), (.happ 3 (.cons (.v 12) (.lv 12))), (.allr (-16777216) 1073741824 (.lv 12)), (.le (.c 0) (apI 12)), (.lt (apI 12) (.v 12)), (.le (apN 12 4) apT), (.le apT (apN 12 6)), (.le (.c 0) apT), (.le apT (.c 1073741824)), (.le (.c (-16777216)) (apP 3 12 0 2)), (.le (apP 3 12 0 2) (.c 1073741824)), (.le (.c (-16777216)) (apP 3 12 1 3)), (.le (apP 3 12 1 3) (.c 1073741824)), (.le (.c (-16777216)) (apP 4 12 0 2)), (.le (apP 4 12 0 2) (.c 1073741824)), (.le (.c (-16777216)) (apP 4 12 1 3)), (.le (apP 4 12 1 3) (.c 1073741824)), (.not (.eq apLen (.c 0))), (.lt (.v 36) (.v 28)), (.le (.c 0) (.v 36)), (.le (.v 36) (.v 28)), (.le (.v 36) (.c 9223372036854775807)), (.lt (.sub (.v 12) (.c 1)) (.v 12)), (.lt (.app 9 (.cons (apC 12 26 10 11) (.cons (apC 25 27 23 24) (.lcat (apB 12 26 10 11) (apB 25 27 23 24))))) (.c 0)), (.le (apC 12 26 10 11) (.c 1000000)), (.le (apC 25 27 23 24) (.c 1000000)), (.lt (.c 0) (.v 25)), (.happ 2 (.cons (.v 25) (.lv 25))), (.happ 3 (.cons (.v 25) (.lv 25))), (.allr (-16777216) 1073741824 (.lv 25)), (.lt (.c 0) (.v 12)), (.happ 2 (.cons (.v 12) (.lv 12))), (.happ 3 (.cons (.v 12) (.lv 12))), (.allr (-16777216) 1073741824 (.lv 12)), (apU 13), (.lt (.c 0) (.v 25)), (.happ 2 (.cons (.v 25) (.lv 25))), (.happ 3 (.cons (.v 25) (.lv 25))), (.le (.c 1) (apQ 27)), (.le (apQ 27) (.c 20)), (apU 0), (.lt (.c 0) (.v 12)), (.happ 2 (.cons (.v 12) (.lv 12))), (.happ 3 (.cons (.v 12) (.lv 12))), (.le (.c 1) (apQ 26)), (.le (apQ 26) (.c 20)), (.eq (.v 11) (.v 24)), (.le (.v 28) (.c 100)), (.le (.v 25) (.c 60)), (.le (.v 12) (.c 60)), (.le (.len (.sv 13)) (.c 100)), (.le (.len (.sv 0)) (.c 100)), (.le (.len (.sv 0)) (.c 9223372036854775807)), (.le (.len (.sv 13)) (.c 9223372036854775807)), (.le (.c 0) (.v 12)), (.le (.v 12) (.c 9223372036854775807)), (.le (.c 0) (.v 25)), (.le (.v 25) (.c 9223372036854775807)), (.le (.c 0) (.v 28)), (.le (.v 28) (.c 9223372036854775807))], []⟩,
⟨(.must (.le (.wrap .i64 (.add (.v 36) (.c 1))) (.v 28))), [(.lt (.c 0) (.v 25)), (.happ 2 (.cons (.v 25) (.lv 25))), (.happ 3 (.cons (.v 25) (.lv 25))), (.allr (-16777216) 1073741824 (.lv 25)), (.lt (apI 25) (.c 0)), (.lt (.c 0) (.v 12)), (.happ 2 (.cons (.v 12) (.lv 12))), (.happ 3 (.cons (.v 12) (.lv 12))), (.allr (-16777216) 1073741824 (.lv 12)), (.le (.c 0) (apI 12)), (.lt (apI 12) (.v 12)), (.le (apN 12 4) apT), (.le apT (apN 12 6)), (.le (.c 0) apT), (.le apT (.c 1073741824)), (.le (.c (-16777216)) (apP 3 12 0 2)), (.le (apP 3 12 0 2) (.c 1073741824)), (.le (.c (-16777216)) (apP 3 12 1 3)), (.le (apP 3 12 1 3) (.c 1073741824)), (.le (.c (-16777216)) (apP 4 12 0 2)), (.le (apP 4 12 0 2) (.c 1073741824)), (.le (.c (-16777216)) (apP 4 12 1 3)), (.le (apP 4 12 1 3) (.c 1073741824)), (.not (.eq apLen (.c 0))), (.lt (.v 36) (.v 28)), (.le (.c 0) (.v 36)), (.le (.v 36) (.v 28)), (.le (.v 36) (.c 9223372036854775807)), (.lt (.sub (.v 12) (.c 1)) (.v 12)), (.lt (.app 9 (.cons (apC 12 26 10 11) (.cons (apC 25 27 23 24) (.lcat (apB 12 26 10 11) (apB 25 27 23 24))))) (.c 0)), (.le (apC 12 26 10 11) (.c 1000000)), (.le (apC 25 27 23 24) (.c 1000000)), (.lt (.c 0) (.v 25)), (.happ 2 (.cons (.v 25) (.lv 25))), (.happ 3 (.cons (.v 25) (.lv 25))), (.allr (-16777216) 1073741824 (.lv 25)), (.lt (.c 0) (.v 12)), (.happ 2 (.cons (.v 12) (.lv 12))), (.happ 3 (.cons (.v 12) (.lv 12))), (.allr (-16777216) 1073741824 (.lv 12)), (apU 13), (.lt (.c 0) (.v 25)), (.happ 2 (.cons (.v 25) (.lv 25))), (.happ 3 (.cons (.v 25) (.lv 25))), (.le (.c 1) (apQ 27)), (.le (apQ 27) (.c 20)), (apU 0), (.lt (.c 0) (.v 12)), (.happ 2 (.cons (.v 12) (.lv 12))), (.happ 3 (.cons (.v 12) (.lv 12))), (.le (.c 1) (apQ 26)), (.le (apQ 26) (.c 20)), (.eq (.v 11) (.v 24)), (.le (.v 28) (.c 100)), (.le (.v 25) (.c 60)), (.le (.v 12) (.c 60)), (.le (.len (.sv 13)) (.c 100)), (.le (.len (.sv 0)) (.c 100)), (.le (.len (.sv 0)) (.c 9223372036854775807)), (.le (.len (.sv 13)) (.c 9223372036854775807)), (.le (.c 0) (.v 12)), (.le (.v 12) (.c 9223372036854775807)), (.le (.c 0) (.v 25)), (.le (.v 25) (.c 9223372036854775807)), (.le (.c 0) (.v 28)), (.le (.v 28) (.c 9223372036854775807))], []⟩,
⟨(.must (.lt (.sub (.v 28) (.wrap .i64 (.add (.v 36) (.c 1)))) (.sub (.v 28) (.v 36)))), [(.lt (.c 0) (.v 25)), (.happ 2 (.cons (.v 25) (.lv 25))), (.happ 3 (.cons (.v 25) (.lv 25))), (.allr (-16777216) 1073741824 (.lv 25)), (.lt (apI 25) (.c 0)), (.lt (.c 0) (.v 12)), (.happ 2 (.cons (.v 12) (.lv 12))), (.happ 3 (.cons (.v 12) (.lv 12))), (.allr (-16777216) 1073741824 (.lv 12)), (.le (.c 0) (apI 12)), (.lt (apI 12) (.v 12)), (.le (apN 12 4) apT), (.le apT (apN 12 6)), (.le (.c 0) apT), (.le apT (.c 1073741824)), (.le (.c (-16777216)) (apP 3 12 0 2)), (.le (apP 3 12 0 2) (.c 1073741824)), (.le (.c (-16777216)) (apP 3 12 1 3)), (.le (apP 3 12 1 3) (.c 1073741824)), (.le (.c (-16777216)) (apP 4 12 0 2)), (.le (apP 4 12 0 2) (.c 1073741824)), (.le (.c (-16777216)) (apP 4 12 1 3)), (.le (apP 4 12 1 3) (.c 1073741824)), (.not (.eq apLen (.c 0))), (.lt (.v 36) (.v 28)), (.le (.c 0) (.v 36)), (.le (.v 36) (.v 28)), (.le (.v 36) (.c 9223372036854775807)), (.lt (.sub (.v 12) (.c 1)) (.v 12)), (.lt (.app 9 (.cons (apC 12 26 10 11) (.cons (apC 25 27 23 24) (.lcat (apB 12 26 10 11) (apB 25 27 23 24))))) (.c 0)), (.le (apC 12 26 10 11) (.c 1000000)), (.le (apC 25 27 23 24) (.c 1000000)), (.lt (.c 0) (.v 25)), (.happ 2 (.cons (.v 25) (.lv 25))), (.happ 3 (.cons (.v 25) (.lv 25))), (.allr (-16777216) 1073741824 (.lv 25)), (.lt (.c 0) (.v 12)), (.happ 2 (.cons (.v 12) (.lv 12))), (.happ 3 (.cons (.v 12) (.lv 12))), (.allr (-16777216) 1073741824 (.lv 12)), (apU 13), (.lt (.c 0) (.v 25)), (.happ 2 (.cons (.v 25) (.lv 25))), (.happ 3 (.cons (.v 25) (.lv 25))), (.le (.c 1) (apQ 27)), (.le (apQ 27) (.c 20)), (apU 0), (.lt (.c 0) (.v 12)), (.happ 2 (.cons (.v 12) (.lv 12))), (.happ 3 (.cons (.v 12) (.lv 12))), (.le (.c 1) (apQ 26)), (.le (apQ 26) (.c 20)), (.eq (.v 11) (.v 24)), (.le (.v 28) (.c 100)), (.le (.v 25) (.c 60)), (.le (.v 12) (.c 60)), (.le (.len (.sv 13)) (.c 100)), (.le (.len (.sv 0)) (.c 100)), (.le (.len (.sv 0)) (.c 9223372036854775807)), (.le (.len (.sv 13)) (.c 9223372036854775807)), (.le (.c 0) (.v 12)), (.le (.v 12) (.c 9223372036854775807)), (.le (.c 0) (.v 25)), (.le (.v 25) (.c 9223372036854775807)), (.le (.c 0) (.v 28)), (.le (.v 28) (.c 9223372036854775807))], []⟩,
⟨(.must (.le (.c 0) (.sub (.v 28) (.wrap .i64 (.add (.v 36) (.c 1)))))), [(.lt (.c 0) (.v 25)), (.happ 2 (.cons (.v 25) (.lv 25))), (.happ 3 (.cons (.v 25) (.lv 25))), (.allr (-16777216) 1073741824 (.lv 25)), (.lt (apI 25) (.c 0)), (.lt (.c 0) (.v 12)), (.happ 2 (.cons (.v 12) (.lv 12))), (.happ 3 (.cons (.v 12) (.lv 12))), (.allr (-16777216) 1073741824 (.lv 12)), (.le (.c 0) (apI 12)), (.lt (apI 12) (.v 12)), (.le (apN 12 4) apT), (.le apT (apN 12 6)), (.le (.c 0) apT), (.le apT (.c 1073741824)), (.le (.c (-16777216)) (apP 3 12 0 2)), (.le (apP 3 12 0 2) (.c 1073741824)), (.le (.c (-16777216)) (apP 3 12 1 3)), (.le (apP 3 12 1 3) (.c 1073741824)), (.le (.c (-16777216)) (apP 4 12 0 2)), (.le (apP 4 12 0 2) (.c 1073741824)), (.le (.c (-16777216)) (apP 4 12 1 3)), (.le (apP 4 12 1 3) (.c 1073741824)), (.not (.eq apLen (.c 0))), (.lt (.v 36) (.v 28)), (.le (.c 0) (.v 36)), (.le (.v 36) (.v 28)), (.le (.v 36) (.c 9223372036854775807)), (.lt (.sub (.v 12) (.c 1)) (.v 12)), (.lt (.app 9 (.cons (apC 12 26 10 11) (.cons (apC 25 27 23 24) (.lcat (apB 12 26 10 11) (apB 25 27 23 24))))) (.c 0)), (.le (apC 12 26 10 11) (.c 1000000)), (.le (apC 25 27 23 24) (.c 1000000)), (.lt (.c 0) (.v 25)), (.happ 2 (.cons (.v 25) (.lv 25))), (.happ 3 (.cons (.v 25) (.lv 25))), (.allr (-16777216) 1073741824 (.lv 25)), (.lt (.c 0) (.v 12)), (.happ 2 (.cons (.v 12) (.lv 12))), (.happ 3 (.cons (.v 12) (.lv 12))), (.allr (-16777216) 1073741824 (.lv 12)), (apU 13), (.lt (.c 0) (.v 25)), (.happ 2 (.cons (.v 25) (.lv 25))), (.happ 3 (.cons (.v 25) (.lv 25))), (.le (.c 1) (apQ 27)), (.le (apQ 27) (.c 20)), (apU 0), (.lt (.c 0) (.v 12)), (.happ 2 (.cons (.v 12) (.lv 12))), (.happ 3 (.cons (.v 12) (.lv 12))), (.le (.c 1) (apQ 26)), (.le (apQ 26) (.c 20)), (.eq (.v 11) (.v 24)), (.le (.v 28) (.c 100)), (.le (.v 25) (.c 60)), (.le (.v 12) (.c 60)), (.le (.len (.sv 13)) (.c 100)), (.le (.len (.sv 0)) (.c 100)), (.le (.len (.sv 0)) (.c 9223372036854775807)), (.le (.len (.sv 13)) (.c 9223372036854775807)), (.le (.c 0) (.v 12)), (.le (.v 12) (.c 9223372036854775807)), (.le (.c 0) (.v 25)), (.le (.v 25) (.c 9223372036854775807)), (.le (.c 0) (.v 28)), (.le (.v 28) (.c 9223372036854775807))], []⟩,
⟨(.must (.le (.c 0) (.wrap .i64 (.add (.v 36) (.c 1))))), [(.lt (.c 0) (.v 25)), (.happ 2 (.cons (.v 25) (.lv 25))), (.happ 3 (.cons (.v 25) (.lv 25))), (.allr (-16777216) 1073741824 (.lv 25)), (.le (.c 0) (apI 25)), (.lt (apI 25) (.v 25)), (.le (apN 25 4) apT), (.le apT (apN 25 6)), (.le (.c 0) apT), (.le apT (.c 1073741824)), (.le (.c (-16777216)) (apP 3 25 0 2)), (.le (apP 3 25 0 2) (.c 1073741824)), (.le (.c (-16777216)) (apP 3 25 1 3)), (.le (apP 3 25 1 3) (.c 1073741824)), (.le (.c (-16777216)) (apP 4 25 0 2)), (.le (apP 4 25 0 2) (.c 1073741824)), (.le (.c (-16777216)) (apP 4 25 1 3)), (.le (apP 4 25 1 3) (.c 1073741824)), (.lt (.c 0) (.v 12)), (.happ 2 (.cons (.v 12) (.lv 12))), (.happ 3 (.cons (.v 12) (.lv 12))), (.allr (-16777216) 1073741824 (.lv 12)), (.lt (apI 12) (.c 0)), (.not (.eq apLen (.c 0))), (.lt (.v 36) (.v 28)), (.le (.c 0) (.v 36)), (.le (.v 36) (.v 28)), (.le (.v 36) (.c 9223372036854775807)), (.lt (.sub (.v 12) (.c 1)) (.v 12)), (.lt (.app 9 (.cons (apC 12 26 10 11) (.cons (apC 25 27 23 24) (.lcat (apB 12 26 10 11) (apB 25 27 23 24))))) (.c 0)), (.le (apC 12 26 10 11) (.c 1000000)), (.le (apC 25 27 23 24) (.c 1000000)), (.lt (.c 0) (.v 25)), (.happ 2 (.cons (.v 25) (.lv 25))), (.happ 3 (.cons (.v 25) (.lv 25))), (.allr (-16777216) 1073741824 (.lv 25)), (.lt (.c 0) (.v 12)), (.happ 2 (.cons (.v 12) (.lv 12))), (.happ 3 (.cons (.v 12) (.lv 12))), (.allr (-16777216) 1073741824 (.lv 12)), (apU 13), (.lt (.c 0) (.v 25)), (.happ 2 (.cons (.v 25) (.lv 25))), (.happ 3 (.cons (.v 25) (.lv 25))), (.le (.c 1) (apQ 27)), (.le (apQ 27) (.c 20)), (apU 0), (.lt (.c 0) (.v 12)), (.happ 2 (.cons (.v 12) (.lv 12))), (.happ 3 (.cons (.v 12) (.lv 12))), (.le (.c 1) (apQ 26)), (.le (apQ 26) (.c 20)), (.eq (.v 11) (.v 24)), (.le (.v 28) (.c 100)), (.le (.v 25) (.c 60)), (.le (.v 12) (.c 60)), (.le (.len (.sv 13)) (.c 100)), (.le (.len (.sv 0)) (.c 100)), (.le (.len (.sv 0)) (.c 9223372036854775807)), (.le (.len (.sv 13)) (.c 9223372036854775807)), (.le (.c 0) (.v 12)), (.le (.v 12) (.c 9223372036854775807)), (.le (.c 0) (.v 25)), (.le (.v 25) (.c 9223372036854775807)), (.le (.c 0) (.v 28)), (.le (.v 28) (.c 9223372036854775807))], []⟩,
⟨(.must (.le (.wrap .i64 (.add (.v 36) (.c 1))) (.v 28))), [(.lt (.c 0) (.v 25)), (.happ 2 (.cons (.v 25) (.lv 25))), (.happ 3 (.cons (.v 25) (.lv 25))), (.allr (-16777216) 1073741824 (.lv 25)), (.le (.c 0) (apI 25)), (.lt (apI 25) (.v 25)), (.le (apN 25 4) apT), (.le apT (apN 25 6)), (.le (.c 0) apT), (.le apT (.c 1073741824)), (.le (.c (-16777216)) (apP 3 25 0 2)), (.le (apP 3 25 0 2) (.c 1073741824)), (.le (.c (-16777216)) (apP 3 25 1 3)), (.le (apP 3 25 1 3) (.c 1073741824)), (.le (.c (-16777216)) (apP 4 25 0 2)), (.le (apP 4 25 0 2) (.c 1073741824)), (.le (.c (-16777216)) (apP 4 25 1 3)), (.le (apP 4 25 1 3) (.c 1073741824)), (.lt (.c 0) (.v 12)), (.happ 2 (.cons (.v 12) (.lv 12))), (.happ 3 (.cons (.v 12) (.lv 12))), (.allr (-16777216) 1073741824 (.lv 12)), (.lt (apI 12) (.c 0)), (.not (.eq apLen (.c 0))), (.lt (.v 36) (.v 28)), (.le (.c 0) (.v 36)), (.le (.v 36) (.v 28)), (.le (.v 36) (.c 9223372036854775807)), (.lt (.sub (.v 12) (.c 1)) (.v 12)), (.lt (.app 9 (.cons (apC 12 26 10 11) (.cons (apC 25 27 23 24) (.lcat (apB 12 26 10 11) (apB 25 27 23 24))))) (.c 0)), (.le (apC 12 26 10 11) (.c 1000000)), (.le (apC 25 27 23 24) (.c 1000000)), (.lt (.c 0) (.v 25)), (.happ 2 (.cons (.v 25) (.lv 25))), (.happ 3 (.cons (.v 25) (.lv 25))), (.allr (-16777216) 1073741824 (.lv 25)), (.lt (.c 0) (.v 12)), (.happ 2 (.cons (.v 12) (.lv 12))), (.happ 3 (.cons (.v 12) (.lv 12))), (.allr (-16777216) 1073741824 (.lv 12)), (apU 13), (.lt (.c 0) (.v 25)), (.happ 2 (.cons (.v 25) (.lv 25))), (.happ 3 (.cons (.v 25) (.lv 25))), (.le (.c 1) (apQ 27)), (.le (apQ 27) (.c 20)), (apU 0), (.lt (.c 0) (.v 12)), (.happ 2 (.cons (.v 12) (.lv 12))), (.happ 3 (.cons (.v 12) (.lv 12))), (.le (.c 1) (apQ 26)), (.le (apQ 26) (.c 20)), (.eq (.v 11) (.v 24)), (.le (.v 28) (.c 100)), (.le (.v 25) (.c 60)), (.le (.v 12) (.c 60)), (.le (.len (.sv 13)) (.c 100)), (.le (.len (.sv 0)) (.c 100)), (.le (.len (.sv 0)) (.c 9223372036854775807)), (.le (.len (.sv 13)) (.c 9223372036854775807)), (.le (.c 0) (.v 12)), (.le (.v 12) (.c 9223372036854775807)), (.le (.c 0) (.v 25)), (.le (.v 25) (.c 9223372036854775807)), (.le (.c 0) (.v 28)), (.le (.v 28) (.c 9223372036854775807))], []⟩,
⟨(.must (.lt (.sub (.v 28) (.wrap .i64 (.add (.v 36) (.c 1)))) (.sub (.v 28) (.v 36)))), [(.lt (.c 0) (.v 25)), (.happ 2 (.cons (.v 25) (.lv 25))), (.happ 3 (.cons (.v 25) (.lv 25))), (.allr (-16777216) 1073741824 (.lv 25)), (.le (.c 0) (apI 25)), (.lt (apI 25) (.v 25)), (.le (apN 25 4) apT), (.le apT (apN 25 6)), (.le (.c 0) apT), (.le apT (.c 1073741824)), (.le (.c (-16777216)) (apP 3 25 0 2)), (.le (apP 3 25 0 2) (.c 1073741824)), (.le (.c (-16777216)) (apP 3 25 1 3)), (.le (apP 3 25 1 3) (.c 1073741824)), (.le (.c (-16777216)) (apP 4 25 0 2)), (.le (apP 4 25 0 2) (.c 1073741824)), (.le (.c (-16777216)) (apP 4 25 1 3)), (.le (apP 4 25 1 3) (.c 1073741824)), (.lt (.c 0) (.v 12)), (.happ 2 (.cons (.v 12) (.lv 12))), (.happ 3 (.cons (.v 12) (.lv 12))), (.allr (-16777216) 1073741824 (.lv 12)), (.lt (apI 12) (.c 0)), (.not (.eq apLen (.c 0))), (.lt (.v 36) (.v 28)), (.le (.c 0) (.v 36)), (.le (.v 36) (.v 28)), (.le (.v 36) (.c 9223372036854775807)), (.lt (.sub (.v 12) (.c 1)) (.v 12)), (.lt (.app 9 (.cons (apC 12 26 10 11) (.cons (apC 25 27 23 24) (.lcat (apB 12 26 10 11) (apB 25 27 23 24))))) (.c 0)), (.le (apC 12 26 10 11) (.c 1000000)), (.le (apC 25 27 23 24) (.c 1000000)), (.lt (.c 0) (.v 25)), (.happ 2 (.cons (.v 25) (.lv 25))), (.happ 3 (.cons (.v 25) (.lv 25))), (.allr (-16777216) 1073741824 (.lv 25)), (.lt (.c 0) (.v 12)), (.happ 2 (.cons (.v 12) (.lv 12))), (.happ 3 (.cons (.v 12) (.lv 12))), (.allr (-16777216) 1073741824 (.lv 12)), (apU 13), (.lt (.c 0) (.v 25)), (.happ 2 (.cons (.v 25) (.lv 25))), (.happ 3 (.cons (.v 25) (.lv 25))), (.le (.c 1) (apQ 27)), (.le (apQ 27) (.c 20)), (apU 0), (.lt (.c 0) (.v 12)), (.happ 2 (.cons (.v 12) (.lv 12))), (.happ 3 (.cons (.v 12) (.lv 12))), (.le (.c 1) (apQ 26)), (.le (apQ 26) (.c 20)), (.eq (.v 11) (.v 24)), (.le (.v 28) (.c 100)), (.le (.v 25) (.c 60)), (.le (.v 12) (.c 60)), (.le (.len (.sv 13)) (.c 100)), (.le (.len (.sv 0)) (.c 100)), (.le (.len (.sv 0)) (.c 9223372036854775807)), (.le (.len (.sv 13)) (.c 9223372036854775807)), (.le (.c 0) (.v 12)), (.le (.v 12) (.c 9223372036854775807)), (.le (.c 0) (.v 25)), (.le (.v 25) (.c 9223372036854775807)), (.le (.c 0) (.v 28)), (.le (.v 28) (.c 9223372036854775807))], []⟩,
⟨(.must (.le (.c 0) (.sub (.v 28) (.wrap .i64 (.add (.v 36) (.c 1)))))), [(.lt (.c 0) (.v 25)), (.happ 2 (.cons (.v 25) (.lv 25))), (.happ 3 (.cons (.v 25) (.lv 25))), (.allr (-16777216) 1073741824 (.lv 25)), (.le (.c 0) (apI 25)), (.lt (apI 25) (.v 25)), (.le (apN 25 4) apT), (.le apT (apN 25 6)), (.le (.c 0) apT), (.le apT (.c 1073741824)), (.le (.c (-16777216)) (apP 3 25 0 2)), (.le (apP 3 25 0 2) (.c 1073741824)), (.le (.c (-16777216)) (apP 3 25 1 3)), (.le (apP 3 25 1 3) (.c 1073741824)), (.le (.c (-16777216)) (apP 4 25 0 2)), (.le (apP 4 25 0 2) (.c 1073741824)), (.le (.c (-16777216)) (apP 4 25 1 3)), (.le (apP 4 25 1 3) (.c 1073741824)), (.lt (.c 0) (.v 12)), (.happ 2 (.cons (.v 12) (.lv 12))), (.happ 3 (.cons (.v 12) (.lv 12))), (.allr (-16777216) 1073741824 (.lv 12)), (.lt (apI 12) (.c 0)), (.not (.eq apLen (.c 0))), (.lt (.v 36) (.v 28)), (.le (.c 0) (.v 36)), (.le (.v 36) (.v 28)), (.le (.v 36) (.c 9223372036854775807)), (.lt (.sub (.v 12) (.c 1)) (.v 12)), (.lt (.app 9 (.cons (apC 12 26 10 11) (.cons (apC 25 27 23 24) (.lcat (apB 12 26 10 11) (apB 25 27 23 24))))) (.c 0)), (.le (apC 12 26 10 11) (.c 1000000)), (.le (apC 25 27 23 24) (.c 1000000)), (.lt (.c 0) (.v 25)), (.happ 2 (.cons (.v 25) (.lv 25))), (.happ 3 (.cons (.v 25) (.lv 25))), (.allr (-16777216) 1073741824 (.lv 25)), (.lt (.c 0) (.v 12)), (.happ 2 (.cons (.v 12) (.lv 12))), (.happ 3 (.cons (.v 12) (.lv 12))), (.allr (-16777216) 1073741824 (.lv 12)), (apU 13), (.lt (.c 0) (.v 25)), (.happ 2 (.cons (.v 25) (.lv 25))), (.happ 3 (.cons (.v 25) (.lv 25))), (.le (.c 1) (apQ 27)), (.le (apQ 27) (.c 20)), (apU 0), (.lt (.c 0) (.v 12)), (.happ 2 (.cons (.v 12) (.lv 12))), (.happ 3 (.cons (.v 12) (.lv 12))), (.le (.c 1) (apQ 26)), (.le (apQ 26) (.c 20)), (.eq (.v 11) (.v 24)), (.le (.v 28) (.c 100)), (.le (.v 25) (.c 60)), (.le (.v 12) (.c 60)), (.le (.len (.sv 13)) (.c 100)), (.le (.len (.sv 0)) (.c 100)), (.le (.len (.sv 0)) (.c 9223372036854775807)), (.le (.len (.sv 13)) (.c 9223372036854775807)), (.le (.c 0) (.v 12)), (.le (.v 12) (.c 9223372036854775807)), (.le (.c 0) (.v 25)), (.le (.v 25) (.c 9223372036854775807)), (.le (.c 0) (.v 28)), (.le (.v 28) (.c 9223372036854775807))], []⟩,
⟨(.must (.le (.c 0) (.wrap .i64 (.add (.v 36) (.c 1))))), [(.lt (.c 0) (.v 25)), (.happ 2 (.cons (.v 25) (.lv 25))), (.happ 3 (.cons (.v 25) (.lv 25))), (.allr (-16777216) 1073741824 (.lv 25)), (.lt (apI 25) (.c 0)), (.lt (.c 0) (.v 12)), (.happ 2 (.cons (.v 12) (.lv 12))), (.happ 3 (.cons (.v 12) (.lv 12))), (.allr (-16777216) 1073741824 (.lv 12)), (.lt (apI 12) (.c 0)), (.not (.eq apLen (.c 0))), (.lt (.v 36) (.v 28)), (.le (.c 0) (.v 36)), (.le (.v 36) (.v 28)), (.le (.v 36) (.c 9223372036854775807)), (.lt (.sub (.v 12) (.c 1)) (.v 12)), (.lt (.app 9 (.cons (apC 12 26 10 11) (.cons (apC 25 27 23 24) (.lcat (apB 12 26 10 11) (apB 25 27 23 24))))) (.c 0)), (.le (apC 12 26 10 11) (.c 1000000)), (.le (apC 25 27 23 24) (.c 1000000)), (.lt (.c 0) (.v 25)), (.happ 2 (.cons (.v 25) (.lv 25))), (.happ 3 (.cons (.v 25) (.lv 25))), (.allr (-16777216) 1073741824 (.lv 25)), (.lt (.c 0) (.v 12)), (.happ 2 (.cons (.v 12) (.lv 12))), (.happ 3 (.cons (.v 12) (.lv 12))), (.allr (-16777216) 1073741824 (.lv 12)), (apU 13), (.lt (.c 0) (.v 25)), (.happ 2 (.cons (.v 25) (.lv 25))), (.happ 3 (.cons (.v 25) (.lv 25))), (.le (.c 1) (apQ 27)), (.le (apQ 27) (.c 20)), (apU 0), (.lt (.c 0) (.v 12)), (.happ 2 (.cons (.v 12) (.lv 12))), (.happ 3 (.cons (.v 12) (.lv 12))), (.le (.c 1) (apQ 26)), (.le (apQ 26) (.c 20)), (.eq (.v 11) (.v 24)), (.le (.v 28) (.c 100)), (.le (.v 25) (.c 60)), (.le (.v 12) (.c 60)), (.le (.len (.sv 13)) (.c 100)), (.le (.len (.sv 0)) (.c 100)), (.le (.len (.sv 0)) (.c 9223372036854775807)), (.le (.len (.sv 13)) (.c 9223372036854775807)), (.le (.c 0) (.v 12)), (.le (.v 12) (.c 9223372036854775807)), (.le (.c 0) (.v 25)), (.le (.v 25) (.c 9223372036854775807)), (.le (.c 0) (.v 28)), (.le (.v 28) (.c 9223372036854775807))], []⟩,
⟨(.must (.le (.wrap .i64 (.add (.v 36) (.c 1))) (.v 28))), [(.lt (.c 0) (.v 25)), (.happ 2 (.cons (.v 25) (.lv 25))), (.happ 3 (.cons (.v 25) (.lv 25))), (.allr (-16777216) 1073741824 (.lv 25)), (.lt (apI 25) (.c 0)), (.lt (.c 0) (.v 12)), (.happ 2 (.cons (.v 12) (.lv 12))), (.happ 3 (.cons (.v 12) (.lv 12))), (.allr (-16777216) 1073741824 (.lv 12)), (.lt (apI 12) (.c 0)), (.not (.eq apLen (.c 0))), (.lt (.v 36) (.v 28)), (.le (.c 0) (.v 36)), (.le (.v 36) (.v 28)), (.le (.v 36) (.c 9223372036854775807)), (.lt (.sub (.v 12) (.c 1)) (.v 12)), (.lt (.app 9 (.cons (apC 12 26 10 11) (.cons (apC 25 27 23 24) (.lcat (apB 12 26 10 11) (apB 25 27 23 24))))) (.c 0)), (.le (apC 12 26 10 11) (.c 1000000)), (.le (apC 25 27 23 24) (.c 1000000)), (.lt (.c 0) (.v 25)), (.happ 2 (.cons (.v 25) (.lv 25))), (.happ 3 (.cons (.v 25) (.lv 25))), (.allr (-16777216) 1073741824 (.lv 25)), (.lt (.c 0) (.v 12)), (.happ 2 (.cons (.v 12) (.lv 12))), (.happ 3 (.cons (.v 12) (.lv 12))), (.allr (-16777216) 1073741824 (.lv 12)), (apU 13), (.lt (.c 0) (.v 25)), (.happ 2 (.cons (.v 25) (.lv 25))), (.happ 3 (.cons (.v 25) (.lv 25))), (.le (.c 1) (apQ 27)), (.le (apQ 27) (.c 20)), (apU 0), (.lt (.c 0) (.v 12)), (.happ 2 (.cons (.v 12) (.lv 12))), (.happ 3 (.cons (.v 12) (.lv 12))), (.le (.c 1) (apQ 26)), (.le (apQ 26) (.c 20)), (.eq (.v 11) (.v 24)), (.le (.v 28) (.c 100)), (.le (.v 25) (.c 60)), (.le (.v 12) (.c 60)), (.le (.len (.sv 13)) (.c 100)), (.le (.len (.sv 0)) (.c 100)), (.le (.len (.sv 0)) (.c 9223372036854775807)), (.le (.len (.sv 13)) (.c 9223372036854775807)), (.le (.c 0) (.v 12)), (.le (.v 12) (.c 9223372036854775807)), (.le (.c 0) (.v 25)), (.le (.v 25) (.c 9223372036854775807)), (.le (.c 0) (.v 28)), (.le (.v 28) (.c 9223372036854775807))], []⟩,
⟨(.must (.lt (.sub (.v 28) (.wrap .i64 (.add (.v 36) (.c 1)))) (.sub (.v 28) (.v 36)))), [(.lt (.c 0) (.v 25)), (.happ 2 (.cons (.v 25) (.lv 25))), (.happ 3 (.cons (.v 25) (.lv 25))), (.allr (-16777216) 1073741824 (.lv 25)), (.lt (apI 25) (.c 0)), (.lt (.c 0) (.v 12)), (.happ 2 (.cons (.v 12) (.lv 12))), (.happ 3 (.cons (.v 12) (.lv 12))), (.allr (-16777216) 1073741824 (.lv 12)), (.lt (apI 12) (.c 0)), (.not (.eq apLen (.c 0))), (.lt (.v 36) (.v 28)), (.le (.c 0) (.v 36)), (.le (.v 36) (.v 28)), (.le (.v 36) (.c 9223372036854775807)), (.lt (.sub (.v 12) (.c 1)) (.v 12)), (.lt (.app 9 (.cons (apC 12 26 10 11) (.cons (apC 25 27 23 24) (.lcat (apB 12 26 10 11) (apB 25 27 23 24))))) (.c 0)), (.le (apC 12 26 10 11) (.c 1000000)), (.le (apC 25 27 23 24) (.c 1000000)), (.lt (.c 0) (.v 25)), (.happ 2 (.cons (.v 25) (.lv 25))), (.happ 3 (.cons (.v 25) (.lv 25))), (.allr (-16777216) 1073741824 (.lv 25)), (.lt (.c 0) (.v 12)), (.happ 2 (.cons (.v 12) (.lv 12))), (.happ 3 (.cons (.v 12) (.lv 12))), (.allr (-16777216) 1073741824 (.lv 12)), (apU 13), (.lt (.c 0) (.v 25)), (.happ 2 (.cons (.v 25) (.lv 25))), (.happ 3 (.cons (.v 25) (.lv 25))), (.le (.c 1) (apQ 27)), (.le (apQ 27) (.c 20)), (apU 0), (.lt (.c 0) (.v 12)), (.happ 2 (.cons (.v 12) (.lv 12))), (.happ 3 (.cons (.v 12) (.lv 12))), (.le (.c 1) (apQ 26)), (.le (apQ 26) (.c 20)), (.eq (.v 11) (.v 24)), (.le (.v 28) (.c 100)), (.le (.v 25) (.c 60)), (.le (.v 12) (.c 60)), (.le (.len (.sv 13)) (.c 100)), (.le (.len (.sv 0)) (.c 100)), (.le (.len (.sv 0)) (.c 9223372036854775807)), (.le (.len (.sv 13)) (.c 9223372036854775807)), (.le (.c 0) (.v 12)), (.le (.v 12) (.c 9223372036854775807)), (.le (.c 0) (.v 25)), (.le (.v 25) (.c 9223372036854775807)), (.le (.c 0) (.v 28)), (.le (.v 28) (.c 9223372036854775807))], []⟩,
⟨(.must (.le (.c 0) (.sub (.v 28) (.wrap .i64 (.add (.v 36) (.c 1)))))), [(.lt (.c 0) (.v 25)), (.happ 2 (.cons (.v 25) (.lv 25))), (.happ 3 (.cons (.v 25) (.lv 25))), (.allr (-16777216) 1073741824 (.lv 25)), (.lt (apI 25) (.c 0)), (.lt (.c 0) (.v 12)), (.happ 2 (.cons (.v 12) (.lv 12))), (.happ 3 (.cons (.v 12) (.lv 12))), (.allr (-16777216) 1073741824 (.lv 12)), (.lt (apI 12) (.c 0)), (.not (.eq apLen (.c 0))), (.lt (.v 36) (.v 28)), (.le (.c 0) (.v 36)), (.le (.v 36) (.v 28)), (.le (.v 36) (.c 9223372036854775807)), (.lt (.sub (.v 12) (.c 1)) (.v 12)), (.lt (.app 9 (.cons (apC 12 26 10 11) (.cons (apC 25 27 23 24) (.lcat (apB 12 26 10 11) (apB 25 27 23 24))))) (.c 0)), (.le (apC 12 26 10 11) (.c 1000000)), (.le (apC 25 27 23 24) (.c 1000000)), (.lt (.c 0) (.v 25)), (.happ 2 (.cons (.v 25) (.lv 25))), (.happ 3 (.cons (.v 25) (.lv 25))), (.allr (-16777216) 1073741824 (.lv 25)), (.lt (.c 0) (.v 12)), (.happ 2 (.cons (.v 12) (.lv 12))), (.happ 3 (.cons (.v 12) (.lv 12))), (.allr (-16777216) 1073741824 (.lv 12)), (apU 13), (.lt (.c 0) (.v 25)), (.happ 2 (.cons (.v 25) (.lv 25))), (.happ 3 (.cons (.v 25) (.lv 25))), (.le (.c 1) (apQ 27)), (.le (apQ 27) (.c 20)), (apU 0), (.lt (.c 0) (.v 12)), (.happ 2 (.cons (.v 12) (.lv 12))), (.happ 3 (.cons (.v 12) (.lv 12))), (.le (.c 1) (apQ 26)), (.le (apQ 26) (.c 20)), (.eq (.v 11) (.v 24)), (.le (.v 28) (.c 100)), (.le (.v 25) (.c 60)), (.le (.v 12) (.c 60)), (.le (.len (.sv 13)) (.c 100)), (.le (.len (.sv 0)) (.c 100)), (.le (.len (.sv 0)) (.c 9223372036854775807)), (.le (.len (.sv 13)) (.c 9223372036854775807)), (.le (.c 0) (.v 12)), (.le (.v 12) (.c 9223372036854775807)), (.le (.c 0) (.v 25)), (.le (.v 25) (.c 9223372036854775807)), (.le (.c 0) (.v 28)), (.le (.v 28) (.c 9223372036854775807))], []⟩] (by kernel_rfl) ρ w hF hT hR ⟨?_, ?_, ?_, ?_, ?_, ?_, ?_, ?_, ?_, ?_, ?_, ?_, ?_, ?_, ?_, ?_, ?_, ?_, ?_, ?_, ?_, ?_, ?_, ?_, ?_⟩ trivial
  all_goals
    intro ρ' w' hx hT' hF' hb _
    first
    | exact ap_om (List.contains_iff_mem.1 (by decide +kernel)) (need_of hF' (by decide +kernel))
    | exact ap_last
    | exact ap_ne hT'.1.2 (need_of hF' (by decide +kernel))
    | exact ap_len hT'.2 (need_of hF' (by decide +kernel))
    | exact (ap_val hT'.1.1 hT'.1.2 hT'.2 (need_of hF' (by decide +kernel))).elim
end Go.Proofs.Ytmfhkiklpiocoaa.Un
end
