/- Fractions in lowest terms: plain mathematics. -/
import Derived.KernelRfl
namespace Go.Proofs.YtkggfeemjabdeaaGreatDoor

/-- a fraction in lowest terms. -/
def low (n d : Nat) : Nat × Nat := (n / Nat.gcd n d, d / Nat.gcd n d)
/-- a fraction that is in lowest terms. -/
structure Fr (x : Nat × Nat) : Prop where
  pos : 0 < x.2
  cop : Nat.gcd x.1 x.2 = 1

theorem low_fr {n d : Nat} (hd : 0 < d) : Fr (low n d) :=
  ⟨Nat.div_pos (Nat.le_of_dvd hd (Nat.gcd_dvd_right n d)) (Nat.gcd_pos_of_pos_right n hd), Nat.coprime_div_gcd_div_gcd (Nat.gcd_pos_of_pos_right n hd)⟩
theorem low_val (n d : Nat) : (low n d).1 * d = n * (low n d).2 := by
  have h1 := Nat.div_mul_cancel (Nat.gcd_dvd_left n d)
  have h2 := Nat.div_mul_cancel (Nat.gcd_dvd_right n d)
  show n / Nat.gcd n d * d = n * (d / Nat.gcd n d)
  generalize n / Nat.gcd n d = a at *
  generalize d / Nat.gcd n d = b at *
  generalize Nat.gcd n d = g at *
  subst h1
  rw [← h2]; ac_rfl
theorem fr_uniq {x y : Nat × Nat} (hx : Fr x) (hy : Fr y) (h : x.1 * y.2 = y.1 * x.2) : x = y := by
  obtain ⟨a, b⟩ := x; obtain ⟨c, d⟩ := y
  obtain ⟨hb, h1⟩ := hx; obtain ⟨hd, h2⟩ := hy
  simp only at *
  have e1 : b ∣ d := Nat.Coprime.dvd_of_dvd_mul_left (Nat.Coprime.symm h1) ⟨c, by rw [h]; ac_rfl⟩
  have e2 : d ∣ b := Nat.Coprime.dvd_of_dvd_mul_left (Nat.Coprime.symm h2) ⟨a, by rw [← h]; ac_rfl⟩
  have e := Nat.dvd_antisymm e1 e2
  subst e
  rw [Nat.eq_of_mul_eq_mul_right hb h]
theorem low_congr {n d n' d' : Nat} (hd : 0 < d) (hd' : 0 < d') (h : n * d' = n' * d) : low n d = low n' d' := by
  refine fr_uniq (low_fr hd) (low_fr hd') ?_
  have h1 := low_val n d; have h2 := low_val n' d'
  have p1 := (low_fr (n := n) hd).pos; have p2 := (low_fr (n := n') hd').pos
  generalize low n d = x at *
  generalize low n' d' = y at *
  apply Nat.eq_of_mul_eq_mul_right (Nat.mul_pos hd hd')
  calc x.1 * y.2 * (d * d') = (x.1 * d) * (y.2 * d') := by ac_rfl
    _ = (n * x.2) * (y.2 * d') := by rw [h1]
    _ = (n * d') * (x.2 * y.2) := by ac_rfl
    _ = (n' * d) * (x.2 * y.2) := by rw [h]
    _ = (n' * y.2) * (x.2 * d) := by ac_rfl
    _ = (y.1 * d') * (x.2 * d) := by rw [h2]
    _ = y.1 * x.2 * (d * d') := by ac_rfl
theorem low_self {x : Nat × Nat} (h : Fr x) : low x.1 x.2 = x := by
  unfold low; rw [h.cop, Nat.div_one, Nat.div_one]
theorem low_inj {n d n' d' : Nat} (_hd : 0 < d) (hd' : 0 < d') (h : low n d = low n' d') : n * d' = n' * d := by
  have h1 := low_val n d; have h2 := low_val n' d'
  have p := (low_fr (n := n') hd').pos
  rw [h] at h1
  generalize low n' d' = y at *
  apply Nat.eq_of_mul_eq_mul_right p
  calc n * d' * y.2 = (n * y.2) * d' := by ac_rfl
    _ = (y.1 * d) * d' := by rw [← h1]
    _ = (y.1 * d') * d := by ac_rfl
    _ = (n' * y.2) * d := by rw [h2]
    _ = n' * d * y.2 := by ac_rfl
theorem low_le (n d : Nat) : (low n d).1 ≤ n ∧ (low n d).2 ≤ d := ⟨Nat.div_le_self _ _, Nat.div_le_self _ _⟩

/-! ### What the code reckons -/
theorem dvd_sub_add {m a b : Nat} (h : m ∣ a + b) (h1 : m ∣ b) : m ∣ a := (Nat.dvd_add_iff_left h1).2 h
/-- sum or difference: only what both denominators have in common is cancelled. -/
theorem low_common {s a b c : Nat} (ha : Nat.gcd s a = 1) (hb : Nat.gcd s b = 1) (hc : 0 < c) :
    ((low s c).1, (low s c).2 * a * b) = low (s * c) (a * c * (b * c)) := by
  have e : Nat.gcd (s * c) (a * c * (b * c)) = Nat.gcd s c * c := by
    rw [show a * c * (b * c) = (a * b * c) * c from by ac_rfl, Nat.gcd_mul_right]
    congr 1
    rw [Nat.mul_comm (a * b) c]
    exact Nat.Coprime.gcd_mul_right_cancel_right c (Nat.Coprime.symm (Nat.Coprime.mul_right ha hb))
  unfold low
  rw [e]
  have hg : 0 < Nat.gcd s c := Nat.gcd_pos_of_pos_right s hc
  obtain ⟨s', hs⟩ := Nat.gcd_dvd_left s c
  obtain ⟨c', hc'⟩ := Nat.gcd_dvd_right s c
  generalize Nat.gcd s c = g at *
  clear e
  subst hs
  rw [hc'] at hc ⊢
  have hgc : 0 < g * (g * c') := Nat.mul_pos hg hc
  rw [Nat.mul_div_cancel_left s' hg, Nat.mul_div_cancel_left c' hg, show g * s' * (g * c') = (g * (g * c')) * s' from by ac_rfl, Nat.mul_div_cancel_left s' hgc,
    show a * (g * c') * (b * (g * c')) = (g * (g * c')) * (c' * a * b) from by ac_rfl, Nat.mul_div_cancel_left _ hgc]

def addF (x y : Nat × Nat) : Nat × Nat := low (x.1 * y.2 + y.1 * x.2) (x.2 * y.2)
def subF (x y : Nat × Nat) : Nat × Nat := low (x.1 * y.2 - y.1 * x.2) (x.2 * y.2)
def mulF (x y : Nat × Nat) : Nat × Nat := low (x.1 * y.1) (x.2 * y.2)

theorem parts_of {x y : Nat × Nat} (hx : Fr x) : ∃ a b c, x.2 = a * c ∧ y.2 = b * c ∧ Nat.gcd x.2 y.2 = c ∧ 0 < c ∧ x.2 / c = a ∧ y.2 / c = b ∧ Nat.gcd a b = 1 := by
  have hc : 0 < Nat.gcd x.2 y.2 := Nat.gcd_pos_of_pos_left _ hx.pos
  refine ⟨x.2 / Nat.gcd x.2 y.2, y.2 / Nat.gcd x.2 y.2, Nat.gcd x.2 y.2, (Nat.div_mul_cancel (Nat.gcd_dvd_left _ _)).symm, (Nat.div_mul_cancel (Nat.gcd_dvd_right _ _)).symm, rfl, hc, rfl, rfl, Nat.coprime_div_gcd_div_gcd hc⟩
theorem cop_of {n a b : Nat} (h : Nat.gcd n (a * b) = 1) : Nat.gcd n a = 1 ∧ Nat.gcd n b = 1 := Nat.coprime_mul_iff_right.1 h
theorem gcd_sum {n m a b : Nat} (h1 : Nat.gcd n a = 1) (h2 : Nat.gcd a b = 1) : Nat.gcd (n * b + m * a) a = 1 := by
  rw [Nat.mul_comm m a, Nat.gcd_add_mul_left_left]
  exact Nat.Coprime.mul_left h1 (Nat.Coprime.symm h2)
theorem add_code {x y : Nat × Nat} (hx : Fr x) (hy : Fr y) {c a b : Nat} (hc : Nat.gcd x.2 y.2 = c) (ha : x.2 / c = a) (hb : y.2 / c = b) :
    ((low (x.1 * b + y.1 * a) c).1, (low (x.1 * b + y.1 * a) c).2 * a * b) = addF x y := by
  obtain ⟨a', b', c', h1, h2, h3, h4, h5, h6, h7⟩ := parts_of (y := y) hx
  rw [h3] at hc; subst hc
  rw [h5] at ha; rw [h6] at hb
  subst ha hb
  have kx := cop_of (h1 ▸ hx.cop); have ky := cop_of (h2 ▸ hy.cop)
  rw [low_common (gcd_sum kx.1 h7) (by rw [Nat.add_comm]; exact gcd_sum ky.1 (Nat.Coprime.symm h7)) h4]
  unfold addF
  rw [h1, h2]
  congr 1
  rw [Nat.add_mul]; ac_rfl
theorem gcd_diff {n m a b : Nat} (h1 : Nat.gcd n a = 1) (h2 : Nat.gcd a b = 1) (hle : m * a ≤ n * b) : Nat.gcd (n * b - m * a) a = 1 := by
  have h3 : Nat.gcd (n * b) a = 1 := Nat.Coprime.mul_left h1 (Nat.Coprime.symm h2)
  have e : n * b = (n * b - m * a) + a * m := by rw [Nat.mul_comm a m]; omega
  rw [e, Nat.gcd_add_mul_left_left] at h3
  exact h3
theorem gcd_diff' {n m a b : Nat} (h1 : Nat.gcd m b = 1) (h2 : Nat.gcd a b = 1) (hle : m * a ≤ n * b) : Nat.gcd (n * b - m * a) b = 1 := by
  have h3 : Nat.gcd (m * a) b = 1 := Nat.Coprime.mul_left h1 h2
  generalize hd : n * b - m * a = d
  have e : m * a + d = b * n := by rw [Nat.mul_comm b n]; omega
  apply Nat.Coprime.eq_one_of_dvd (k := Nat.gcd d b) (m := m * a)
  · exact Nat.Coprime.coprime_dvd_left (Nat.gcd_dvd_right d b) (Nat.Coprime.symm h3)
  · refine dvd_sub_add (b := d) ?_ (Nat.gcd_dvd_left d b)
    rw [e]
    exact Nat.dvd_mul_right_of_dvd (Nat.gcd_dvd_right d b) n
theorem sub_code {x y : Nat × Nat} (hx : Fr x) (hy : Fr y) (hle : y.1 * x.2 ≤ x.1 * y.2) {c a b : Nat} (hc : Nat.gcd x.2 y.2 = c) (ha : x.2 / c = a) (hb : y.2 / c = b) :
    y.1 * a ≤ x.1 * b ∧ ((low (x.1 * b - y.1 * a) c).1, (low (x.1 * b - y.1 * a) c).2 * a * b) = subF x y := by
  obtain ⟨a', b', c', h1, h2, h3, h4, h5, h6, h7⟩ := parts_of (y := y) hx
  rw [h3] at hc; subst hc
  rw [h5] at ha; rw [h6] at hb
  subst ha hb
  have kx := cop_of (h1 ▸ hx.cop); have ky := cop_of (h2 ▸ hy.cop)
  have hle2 : y.1 * a' ≤ x.1 * b' := by
    rw [h1, h2, ← Nat.mul_assoc, ← Nat.mul_assoc] at hle
    exact Nat.le_of_mul_le_mul_right hle h4
  refine ⟨hle2, ?_⟩
  rw [low_common (gcd_diff kx.1 h7 hle2) (gcd_diff' ky.1 h7 hle2) h4]
  unfold subF
  rw [h1, h2]
  congr 1
  rw [Nat.sub_mul]
  simp only [Nat.mul_assoc]
theorem mul_code {x y : Nat × Nat} (hx : Fr x) (hy : Fr y) : ((low x.1 y.2).1 * (low y.1 x.2).1, (low x.1 y.2).2 * (low y.1 x.2).2) = mulF x y := by
  refine fr_uniq ⟨?_, ?_⟩ (low_fr (Nat.mul_pos hx.pos hy.pos)) ?_
  · exact Nat.mul_pos (low_fr hy.pos).pos (low_fr hx.pos).pos
  · have f1 := (low_fr (n := x.1) hy.pos).cop; have f2 := (low_fr (n := y.1) hx.pos).cop
    have d1 : (low x.1 y.2).1 ∣ x.1 := Nat.div_dvd_of_dvd (Nat.gcd_dvd_left _ _)
    have d2 : (low x.1 y.2).2 ∣ y.2 := Nat.div_dvd_of_dvd (Nat.gcd_dvd_right _ _)
    have d3 : (low y.1 x.2).1 ∣ y.1 := Nat.div_dvd_of_dvd (Nat.gcd_dvd_left _ _)
    have d4 : (low y.1 x.2).2 ∣ x.2 := Nat.div_dvd_of_dvd (Nat.gcd_dvd_right _ _)
    have g1 : Nat.Coprime (low x.1 y.2).1 (low y.1 x.2).2 := Nat.Coprime.coprime_dvd_left d1 (Nat.Coprime.coprime_dvd_right d4 hx.cop)
    have g2 : Nat.Coprime (low y.1 x.2).1 (low x.1 y.2).2 := Nat.Coprime.coprime_dvd_left d3 (Nat.Coprime.coprime_dvd_right d2 hy.cop)
    exact Nat.Coprime.mul_left (Nat.Coprime.mul_right f1 g1) (Nat.Coprime.mul_right g2 f2)
  · have v1 := low_val x.1 y.2; have v2 := low_val y.1 x.2; have v3 := low_val (x.1 * y.1) (x.2 * y.2)
    have p3 := (low_fr (n := x.1 * y.1) (Nat.mul_pos hx.pos hy.pos)).pos
    unfold mulF
    generalize low x.1 y.2 = u at *
    generalize low y.1 x.2 = v at *
    generalize low (x.1 * y.1) (x.2 * y.2) = z at *
    apply Nat.eq_of_mul_eq_mul_right (Nat.mul_pos hx.pos hy.pos)
    calc u.1 * v.1 * z.2 * (x.2 * y.2) = (u.1 * y.2) * (v.1 * x.2) * z.2 := by ac_rfl
      _ = (x.1 * u.2) * (y.1 * v.2) * z.2 := by rw [v1, v2]
      _ = (x.1 * y.1 * z.2) * (u.2 * v.2) := by ac_rfl
      _ = (z.1 * (x.2 * y.2)) * (u.2 * v.2) := by rw [v3]
      _ = z.1 * (u.2 * v.2) * (x.2 * y.2) := by ac_rfl

/-! ### Reckoning with what is not in lowest terms -/
theorem addF_low {n d m e : Nat} (hd : 0 < d) (he : 0 < e) : addF (low n d) (low m e) = low (n * e + m * d) (d * e) := by
  unfold addF
  have p1 := (low_fr (n := n) hd).pos; have p2 := (low_fr (n := m) he).pos
  refine low_congr (Nat.mul_pos p1 p2) (Nat.mul_pos hd he) ?_
  have v1 := low_val n d; have v2 := low_val m e
  generalize low n d = u at *
  generalize low m e = v at *
  calc (u.1 * v.2 + v.1 * u.2) * (d * e) = (u.1 * d) * (v.2 * e) + (v.1 * e) * (u.2 * d) := by rw [Nat.add_mul]; ac_rfl
    _ = (n * u.2) * (v.2 * e) + (m * v.2) * (u.2 * d) := by rw [v1, v2]
    _ = (n * e + m * d) * (u.2 * v.2) := by rw [Nat.add_mul]; ac_rfl
theorem mulF_low {n d m e : Nat} (hd : 0 < d) (he : 0 < e) : mulF (low n d) (low m e) = low (n * m) (d * e) := by
  unfold mulF
  have p1 := (low_fr (n := n) hd).pos; have p2 := (low_fr (n := m) he).pos
  refine low_congr (Nat.mul_pos p1 p2) (Nat.mul_pos hd he) ?_
  have v1 := low_val n d; have v2 := low_val m e
  generalize low n d = u at *
  generalize low m e = v at *
  calc u.1 * v.1 * (d * e) = (u.1 * d) * (v.1 * e) := by ac_rfl
    _ = (n * u.2) * (m * v.2) := by rw [v1, v2]
    _ = n * m * (u.2 * v.2) := by ac_rfl
theorem subF_low {n d m e : Nat} (hd : 0 < d) (he : 0 < e) : subF (low n d) (low m e) = low (n * e - m * d) (d * e) := by
  unfold subF
  have p1 := (low_fr (n := n) hd).pos; have p2 := (low_fr (n := m) he).pos
  refine low_congr (Nat.mul_pos p1 p2) (Nat.mul_pos hd he) ?_
  have v1 := low_val n d; have v2 := low_val m e
  generalize low n d = u at *
  generalize low m e = v at *
  calc (u.1 * v.2 - v.1 * u.2) * (d * e) = (u.1 * d) * (v.2 * e) - (v.1 * e) * (u.2 * d) := by
        rw [Nat.sub_mul, show u.1 * v.2 * (d * e) = (u.1 * d) * (v.2 * e) from by ac_rfl, show v.1 * u.2 * (d * e) = (v.1 * e) * (u.2 * d) from by ac_rfl]
    _ = (n * u.2) * (v.2 * e) - (m * v.2) * (u.2 * d) := by rw [v1, v2]
    _ = (n * e - m * d) * (u.2 * v.2) := by
        rw [Nat.sub_mul, show n * u.2 * (v.2 * e) = n * e * (u.2 * v.2) from by ac_rfl, show m * v.2 * (u.2 * d) = m * d * (u.2 * v.2) from by ac_rfl]
/-- the order of two fractions. -/
def cmpF (x y : Nat × Nat) : Int := if x.1 * y.2 < y.1 * x.2 then -1 else if x.1 * y.2 = y.1 * x.2 then 0 else 1
end Go.Proofs.YtkggfeemjabdeaaGreatDoor
