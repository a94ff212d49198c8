/- Layer 9 (unit): a plan's legs are valid, and what is left of a plan is a plan: mathematics. Layer 9 (unit): what is left of a plan behind one of its legs: mathematics. Layer 9 (unit): Plan as a contract, with legs that are valid. -/
import Derived.Test.YtmbhjfembfidnaaPc4
section
namespace Go.Proofs.Ytmbhjfembfidnaa.Un
open Go Go.Proofs.Ytmbhjfembfidnaa.Sx
theorem le_rup_mul {a b : Int} (hb : 0 < b) : a ≤ rup a b * b := by
  unfold rup
  have := Int.ediv_mul_le (-a) (show b ≠ 0 by omega)
  rw [Int.neg_mul]
  omega
theorem rdn_mul_le {a b : Int} (hb : 0 < b) : rdn a b * b ≤ a := Int.ediv_mul_le a (show b ≠ 0 by omega)
theorem rdn_le_rup {a c b : Int} (hb : 0 < b) (h : a ≤ c) : rdn a b ≤ rup c b := by
  have h1 := rdn_mul_le (a := a) hb
  have h2 := le_rup_mul (a := c) hb
  exact Int.le_of_mul_le_mul_right (by omega) hb
theorem rdn_mono {a c b : Int} (hb : 0 < b) (h : a ≤ c) : rdn a b ≤ rdn c b := Int.ediv_le_ediv hb h
theorem sq_pos {d : Int} (h : d ≠ 0) : 1 ≤ d * d := by
  rcases Int.lt_or_gt_of_ne h with h | h
  · have := sq_mono (a := 1) (b := -d) (by omega) (by omega)
    rw [Int.neg_mul_neg] at this
    omega
  · have := sq_mono (a := 1) (b := d) (by omega) (by omega)
    omega
theorem time_zero {s x y x2 y2 : Int} (hs : 1 ≤ s) (h1 : spotB x y = true) (h2 : spotB x2 y2 = true) (h : timeF s x y x2 y2 = 0) : x = x2 ∧ y = y2 := by
  have hw := way_bounds h1 h2
  have h3 := le_rup_mul (a := way x y x2 y2 * 3600) (b := s) (by omega)
  unfold timeF at h
  rw [h, Int.zero_mul] at h3
  have h0 : way x y x2 y2 = 0 := by omega
  have hr := (way_root h1 h2).1.2.1
  rw [h0] at hr
  unfold sqd at hr
  have p1 := (sq_le (d := x - x2) (m := 33554432) (by simp only [spotB, decide_eq_true_eq] at h1 h2; omega) (by simp only [spotB, decide_eq_true_eq] at h1 h2; omega)).1
  have p2 := (sq_le (d := y - y2) (m := 33554432) (by simp only [spotB, decide_eq_true_eq] at h1 h2; omega) (by simp only [spotB, decide_eq_true_eq] at h1 h2; omega)).1
  constructor
  · rcases Int.lt_trichotomy (x - x2) 0 with h | h | h
    · have := sq_pos (d := x - x2) (by omega); omega
    · omega
    · have := sq_pos (d := x - x2) (by omega); omega
  · rcases Int.lt_trichotomy (y - y2) 0 with h | h | h
    · have := sq_pos (d := y - y2) (by omega); omega
    · omega
    · have := sq_pos (d := y - y2) (by omega); omega
section
variable {ρ : Env} {N : Nat} {l : LL}
theorem Planned.go (P : Planned ρ N l) {i : Nat} (hi : i < N) : 0 ≤ wayTo l (stAt l i) i ∧ wayTo l (stAt l i) i ≤ 241591910400 ∧ 0 ≤ nI (pWays l) (3 * (i : Int) + 2) ∧ (stAt l (i + 1)).t = (stAt l i).t + wayTo l (stAt l i) i + nI (pWays l) (3 * (i : Int) + 2) := by
  obtain ⟨a1, a2, a3, a4, a5, a6, a7, a8, a9, a10⟩ := P.fine i (by omega)
  obtain ⟨w1, w2, w3⟩ := P.fineW i hi
  have ht : 0 ≤ wayTo l (stAt l i) i ∧ wayTo l (stAt l i) i ≤ 241591910400 := timeF_bounds (s := nI l 0) a1 a6 w1
  exact ⟨ht.1, ht.2, w2, rfl⟩
theorem Planned.mono (P : Planned ρ N l) {i : Nat} : ∀ {k : Nat}, i ≤ k → k ≤ N → (stAt l i).t ≤ (stAt l k).t
  | 0, h, _ => by obtain rfl : i = 0 := (by omega); exact Int.le_refl _
  | k + 1, h, hk => by
    rcases Nat.lt_or_ge k i with h1 | h1
    · obtain rfl : i = k + 1 := (by omega); exact Int.le_refl _
    · have := P.mono h1 (by omega : k ≤ N)
      have g := P.go (i := k) (by omega)
      omega
theorem Planned.still (P : Planned ρ N l) {i : Nat} (hi : i < N) (h : (stAt l (i + 1)).t = (stAt l i).t) : stAt l (i + 1) = stAt l i := by
  obtain ⟨g1, g2, g3, g4⟩ := P.go hi
  obtain ⟨a1, a2, a3, a4, a5, a6, a7, a8, a9, a10⟩ := P.fine i (by omega)
  obtain ⟨w1, w2, w3⟩ := P.fineW i hi
  have e0 : wayTo l (stAt l i) i = 0 := by omega
  obtain ⟨x1, y1⟩ := time_zero a1 a6 w1 e0
  have e2 : nI (pWays l) (3 * (i : Int) + 2) = 0 := by omega
  show goOn l (stAt l i) i = stAt l i
  generalize stAt l i = a at *
  obtain ⟨x, y, t, f⟩ := a
  unfold goOn
  rw [e0, e2]
  simp only at x1 y1
  simp only [← x1, ← y1, Int.add_zero, Int.sub_self, burnF_zero, Int.sub_zero]
theorem Planned.same (P : Planned ρ N l) {i : Nat} : ∀ {k : Nat}, i ≤ k → k ≤ N → (stAt l k).t = (stAt l i).t → stAt l k = stAt l i
  | 0, h, _, _ => by obtain rfl : i = 0 := (by omega); rfl
  | k + 1, h, hk, ht => by
    rcases Nat.lt_or_ge k i with h1 | h1
    · obtain rfl : i = k + 1 := (by omega); rfl
    · have m1 := P.mono h1 (by omega : k ≤ N)
      have m2 : (stAt l k).t ≤ (stAt l (k + 1)).t := P.mono (Nat.le_succ k) hk
      have e := P.same h1 (by omega : k ≤ N) (by omega)
      rw [P.still (by omega) (by omega), e]
theorem Planned.home (P : Planned ρ N l) : 0 ≤ wayHome l (stAt l N) ∧ (stAt l N).t + wayHome l (stAt l N) ≤ 1073741824 ∧ 0 ≤ (stAt l N).f - burnF (nI l 1) (wayHome l (stAt l N)) := by
  obtain ⟨a1, a2, a3, a4, a5, a6, a7, a8, a9, a10⟩ := P.fine N (Nat.le_refl _)
  have ht : 0 ≤ wayHome l (stAt l N) ∧ wayHome l (stAt l N) ≤ 241591910400 := timeF_bounds (s := nI l 0) a1 a6 a5
  refine ⟨ht.1, ?_⟩
  match N, P with
  | 0, P =>
    have hs : spotB (ρ.i 8) (ρ.i 9) = true := by have := P.able.base; rwa [P.n6, P.n7] at this
    have e : wayHome l (stAt l 0) = 0 := by
      rw [wayHome, P.at0, P.n6, P.n7]
      exact timeF_same hs
    rw [e, burnF_zero]
    omega
  | n + 1, P =>
    obtain ⟨h1, h2⟩ := why_zero (P.good n (by omega))
    have := P.able.reserve
    have h1' : (stAt l (n + 1)).t + wayHome l (stAt l (n + 1)) ≤ 1073741824 := h1
    have h2' : nI l 2 ≤ (stAt l (n + 1)).f - burnF (nI l 1) (wayHome l (stAt l (n + 1))) := h2
    omega
/-- the end of the leg k, and the fuel behind it. -/
def lvT (l : LL) (N k : Nat) : Int := if k < N then (stAt l (k + 1)).t else (stAt l N).t + wayHome l (stAt l N)
def lvU (l : LL) (N k : Nat) : Int := if k < N then (stAt l (k + 1)).f else (stAt l N).f - burnF (nI l 1) (wayHome l (stAt l N))
theorem Planned.fuels (P : Planned ρ N l) : ∀ {k : Nat}, k ≤ N → (stAt l k).f ≤ ρ.i 2
  | 0, _ => by rw [P.at0]; exact Int.le_refl _
  | k + 1, hk => by
    have h1 := P.fuels (k := k) (by omega)
    obtain ⟨g1, g2, g3, g4⟩ := P.go (i := k) (by omega)
    obtain ⟨a1, a2, a3, a4, a5, a6, a7, a8, a9, a10⟩ := P.fine k (by omega)
    obtain ⟨w1, w2, w3⟩ := P.fineW k (by omega)
    have hb := burnF_bounds (b := nI l 1) (t := (stAt l k).t + wayTo l (stAt l k) k + nI (pWays l) (3 * (k : Int) + 2) - (stAt l k).t) a3 a4 (by omega) (by omega)
    have e : (stAt l (k + 1)).f = (stAt l k).f - burnF (nI l 1) ((stAt l k).t + wayTo l (stAt l k) k + nI (pWays l) (3 * (k : Int) + 2) - (stAt l k).t) := rfl
    omega
/-- what is known of each leg. -/
theorem Planned.leg (P : Planned ρ N l) {k : Nat} (hk : k ≤ N) : ∃ x2 y2 ar, LegIs (fun j => nI (planL l) (8 * (k : Int) + j)) (stAt l k).x (stAt l k).y x2 y2 (stAt l k).t ar (lvT l N k) (lvU l N k) ∧ (k < N → x2 = (stAt l (k + 1)).x ∧ y2 = (stAt l (k + 1)).y) ∧ spotB x2 y2 = true ∧
    (stAt l k).t ≤ ar ∧ ar ≤ lvT l N k ∧ lvT l N k ≤ 1073741824 ∧ ((stAt l k).t < ar ∨ (stAt l k).x = x2 ∧ (stAt l k).y = y2) ∧ 0 ≤ lvU l N k ∧ lvU l N k = (stAt l k).f - burnF (nI l 1) (lvT l N k - (stAt l k).t) := by
  obtain ⟨a1, a2, a3, a4, a5, a6, a7, a8, a9, a10⟩ := P.fine k hk
  rcases Nat.lt_or_ge k N with h | h
  · obtain ⟨g1, g2, g3, g4⟩ := P.go h
    obtain ⟨w1, w2, w3⟩ := P.fineW k h
    obtain ⟨b1, b2, b3, b4, b5, b6, b7, b8, b9, b10⟩ := P.fine (k + 1) (by omega)
    have e := leg_on P.n14 h
    simp only [Int.mul_comm (k : Int) 8] at e
    refine ⟨(stAt l (k + 1)).x, (stAt l (k + 1)).y, (stAt l k).t + wayTo l (stAt l k) k, ?_, fun _ => ⟨rfl, rfl⟩, w1, ?_, ?_, ?_, ?_, ?_, ?_⟩
    · simp only [lvT, lvU, if_pos h]; exact e
    · omega
    · simp only [lvT, if_pos h]; omega
    · simp only [lvT, if_pos h]; omega
    · rcases Int.lt_or_le (stAt l k).t ((stAt l k).t + wayTo l (stAt l k) k) with hlt | hle
      · exact .inl hlt
      · exact .inr (time_zero a1 a6 w1 (show wayTo l (stAt l k) k = 0 by omega))
    · simp only [lvU, if_pos h]; omega
    · simp only [lvU, lvT, if_pos h]
      have e1 : (stAt l (k + 1)).f = (stAt l k).f - burnF (nI l 1) ((stAt l k).t + wayTo l (stAt l k) k + nI (pWays l) (3 * (k : Int) + 2) - (stAt l k).t) := rfl
      rw [e1, ← g4]
  · obtain rfl : k = N := by omega
    obtain ⟨h1, h2, h3⟩ := P.home
    have e := leg_last P.n14
    simp only [Int.mul_comm (k : Int) 8] at e
    refine ⟨nI l 6, nI l 7, (stAt l k).t + wayHome l (stAt l k), ?_, fun h => by omega, P.able.base, ?_, ?_, ?_, ?_, ?_, ?_⟩
    · simp only [lvT, lvU, if_neg (Nat.lt_irrefl k)]; exact e
    · omega
    · simp only [lvT, if_neg (Nat.lt_irrefl k)]; omega
    · simp only [lvT, if_neg (Nat.lt_irrefl k)]; omega
    · rcases Int.lt_or_le (stAt l k).t ((stAt l k).t + wayHome l (stAt l k)) with hlt | hle
      · exact .inl hlt
      · exact .inr (time_zero a1 a6 P.able.base (show wayHome l (stAt l k) = 0 by omega))
    · simp only [lvU, if_neg (Nat.lt_irrefl k)]; omega
    · simp only [lvU, lvT, if_neg (Nat.lt_irrefl k)]
      rw [show (stAt l k).t + wayHome l (stAt l k) - (stAt l k).t = wayHome l (stAt l k) by omega]
theorem Planned.leave_mono (P : Planned ρ N l) {i k : Nat} (h : i ≤ k) (_hk : k ≤ N) : lvT l N i ≤ lvT l N k := by
  have hh := P.home.1
  unfold lvT
  split
  · rename_i h1
    split
    · exact P.mono (by omega) (by omega)
    · have := P.mono (i := i + 1) (k := N) (by omega) (Nat.le_refl _)
      omega
  · rename_i h1
    rw [if_neg (by omega)]
    exact Int.le_refl _
theorem Planned.valid (P : Planned ρ N l) : allTo ((N : Int) + 1) (legB (planL l)) = true ∧ allTo ((N : Int) + 1) (contB (planL l)) = true := by
  refine ⟨allTo_of fun k h0 hk => ?_, allTo_of fun k h0 hk => ?_⟩
  · obtain ⟨j, rfl⟩ := Int.eq_ofNat_of_zero_le h0
    obtain ⟨x2, y2, ar, ⟨c0, c1, c2, c3, c4, c5, c6, c7⟩, -, s2, t1, t2, t3, t4, u1, u2⟩ := P.leg (k := j) (by omega)
    obtain ⟨a1, a2, a3, a4, a5, a6, a7, a8, a9, a10⟩ := P.fine j (by omega)
    have hfu := P.fuels (k := j) (by omega)
    have hb := burnF_bounds (b := nI l 1) (t := lvT l N j - (stAt l j).t) a3 a4 (by omega) (by omega)
    have h2 := P.fuel.2
    simp only [spotB, decide_eq_true_eq] at s2 a6
    simp only [Int.cast_ofNat_Int, Int.add_zero] at c0 c1 c2 c3 c4 c5 c6 c7
    have c0' : nI (planL l) (8 * (j : Int)) = (stAt l j).x := by simpa using c0
    simp only [legB, atB, allE, legA, spotA, timeA, btw, envAt, List.cons_append, List.nil_append, List.all_cons, List.all_nil, B_le, B_lt, B_or, B_and, B_eq, I_c, I_v, Bool.and_eq_true, Bool.or_eq_true, decide_eq_true_eq, Int.cast_ofNat_Int, Nat.reduceAdd, Int.add_zero, c0', c1, c2, c3, c4, c5, c6, c7, and_true]
    omega
  · obtain ⟨j, rfl⟩ := Int.eq_ofNat_of_zero_le h0
    unfold contB
    match j with
    | 0 => rfl
    | j + 1 =>
      obtain ⟨x2, y2, ar, ⟨c0, c1, c2, c3, c4, c5, c6, c7⟩, -⟩ := P.leg (k := j + 1) (by omega)
      obtain ⟨x3, y3, ar3, ⟨d0, d1, d2, d3, d4, d5, d6, d7⟩, hn, -⟩ := P.leg (k := j) (by omega)
      obtain ⟨rfl, rfl⟩ := hn (by omega)
      have e6 : lvT l N j = (stAt l (j + 1)).t := by unfold lvT; rw [if_pos (by omega)]
      simp only [Int.cast_ofNat_Int, Int.add_zero] at c0 c1 c4 d2 d3 d6
      have ej : ((j + 1 : Nat) : Int) - 1 = (j : Int) := by omega
      rw [ej]
      have c0' : nI (planL l) (8 * ((j + 1 : Nat) : Int)) = (stAt l (j + 1)).x := by simpa using c0
      simp only [c0', c1, c4, d2, d3, d6, e6]
      simp
end
end Go.Proofs.Ytmbhjfembfidnaa.Un
end
section
namespace Go.Proofs.Ytmbhjfembfidnaa.Un
open Go Go.Proofs.Ytmbhjfembfidnaa.Sx
section
variable {ρ : Env} {N : Nat} {l : LL}
theorem Planned.c (P : Planned ρ N l) {k : Nat} (hk : k ≤ N) : nI (planL l) (8 * (k : Int) + 4) = (stAt l k).t ∧ nI (planL l) (8 * (k : Int) + 6) = lvT l N k ∧ nI (planL l) (8 * (k : Int) + 7) = lvU l N k := by
  obtain ⟨x2, y2, ar, ⟨c0, c1, c2, c3, c4, c5, c6, c7⟩, -⟩ := P.leg hk
  exact ⟨c4, c6, c7⟩
theorem Planned.first (P : Planned ρ N l) : nI (planL l) 4 = (stAt l 0).t := by
  have := (P.c (k := 0) (by omega)).1
  simpa using this
theorem Planned.ix (P : Planned ρ N l) {t : Int} (h0 : ρ.i 12 ≤ t) (h1 : t ≤ lvT l N N) : ∃ j : Nat, j ≤ N ∧ legIx ((N : Int) + 1) t (planL l) = (j : Int) ∧ t ≤ lvT l N j ∧ (stAt l j).t ≤ t ∧ ∀ k : Nat, k < j → lvT l N k < t := by
  have ht0 : (stAt l 0).t = ρ.i 12 := by rw [P.at0]
  unfold legIx
  rw [if_neg (by rw [P.first, ht0]; omega), show ((N : Int) + 1).toNat = N + 1 from by omega]
  rcases firstB_from (fun k => decide (t ≤ nI (planL l) (8 * k + 6))) (N + 1) 0 with ⟨-, h⟩ | ⟨g1, g2, g3, g4⟩
  · have := h N (by omega) (by omega)
    rw [(P.c (Nat.le_refl N)).2.1] at this
    simp only [decide_eq_false_iff_not] at this
    omega
  · obtain ⟨j, hj⟩ := Int.eq_ofNat_of_zero_le (a := firstB (fun k => decide (t ≤ nI (planL l) (8 * k + 6))) (N + 1) 0) (by omega)
    rw [hj] at g2 g3 g4 ⊢
    have hjN : j ≤ N := by omega
    have hlast : ∀ k : Nat, k < j → lvT l N k < t := fun k hk => by
      have := g4 k (by omega) (by omega)
      rw [(P.c (k := k) (by omega)).2.1] at this
      simp only [decide_eq_false_iff_not] at this
      omega
    rw [(P.c hjN).2.1, decide_eq_true_eq] at g3
    refine ⟨j, hjN, rfl, g3, ?_, hlast⟩
    match j with
    | 0 => omega
    | j + 1 =>
      have := hlast j (by omega)
      unfold lvT at this
      rw [if_pos (by omega)] at this
      omega
/-- At the end of the leg i. -/
theorem Planned.at_leave (P : Planned ρ N l) {i : Nat} (hi : i < N) : ∃ j : Nat, j < N ∧ legIx ((N : Int) + 1) (stAt l (i + 1)).t (planL l) = (j : Int) ∧ lvT l N j = (stAt l (i + 1)).t ∧ stAt l (j + 1) = stAt l (i + 1) := by
  have m0 := P.mono (i := 0) (k := i + 1) (by omega) (by omega)
  have ht0 : (stAt l 0).t = ρ.i 12 := by rw [P.at0]
  have ei : lvT l N i = (stAt l (i + 1)).t := by unfold lvT; rw [if_pos hi]
  have ml := P.leave_mono (i := i) (k := N) (by omega) (Nat.le_refl _)
  obtain ⟨j, hj, e, h1, h2, h3⟩ := P.ix (t := (stAt l (i + 1)).t) (by omega) (by omega)
  have hji : j ≤ i := by
    rcases Nat.lt_or_ge i j with h | h
    · have := h3 i h; omega
    · exact h
  have ej : lvT l N j = (stAt l (j + 1)).t := by unfold lvT; rw [if_pos (by omega)]
  have m1 := P.mono (i := j + 1) (k := i + 1) (by omega) (by omega)
  refine ⟨j, by omega, e, by omega, ?_⟩
  exact (P.same (i := j + 1) (k := i + 1) (by omega) (by omega) (by omega)).symm
/-- What is left of a unit's fuel at a time. -/
def leftIn (l : LL) (N j : Nat) (t : Int) : Int := leftF (lvU l N j) (nI l 1) (lvT l N j) t
theorem Planned.left_le (P : Planned ρ N l) {j : Nat} (hj : j ≤ N) {t : Int} (h1 : (stAt l j).t ≤ t) (h2 : t ≤ lvT l N j) : lvU l N j ≤ leftIn l N j t ∧ leftIn l N j t ≤ (stAt l j).f := by
  obtain ⟨x2, y2, ar, -, -, -, -, -, -, -, -, u2⟩ := P.leg hj
  have hb := P.able.burn.1
  have q1 := le_rdn (a := nI l 1 * (lvT l N j - t)) (b := 3600) (c := 0) (by omega) (by rw [Int.zero_mul]; exact Int.mul_nonneg hb (by omega))
  have q2 : rdn (nI l 1 * (lvT l N j - t)) 3600 ≤ burnF (nI l 1) (lvT l N j - (stAt l j).t) := rdn_le_rup (by omega) (Int.mul_le_mul_of_nonneg_left (by omega) hb)
  unfold leftIn leftF
  omega
theorem Planned.fuel_mono (P : Planned ρ N l) {i : Nat} : ∀ {k : Nat}, i ≤ k → k ≤ N → (stAt l k).f ≤ (stAt l i).f
  | 0, h, _ => by obtain rfl : i = 0 := (by omega); exact Int.le_refl _
  | k + 1, h, hk => by
    rcases Nat.lt_or_ge k i with h1 | h1
    · obtain rfl : i = k + 1 := (by omega); exact Int.le_refl _
    · have := P.fuel_mono h1 (by omega : k ≤ N)
      have g := P.left_le (j := k) (by omega) (t := lvT l N k) (by have := P.leg (k := k) (by omega); obtain ⟨_, _, _, -, -, -, a, b, -⟩ := this; omega) (Int.le_refl _)
      have e : lvU l N k = (stAt l (k + 1)).f := by unfold lvU; rw [if_pos (by omega)]
      omega
theorem Planned.left_mono (P : Planned ρ N l) {j k : Nat} (hj : j ≤ N) (hk : k ≤ N) {s t : Int} (hs1 : (stAt l j).t ≤ s) (hs2 : s ≤ lvT l N j) (ht1 : (stAt l k).t ≤ t) (ht2 : t ≤ lvT l N k) (hjk : j ≤ k) (hst : s ≤ t) : leftIn l N k t ≤ leftIn l N j s := by
  rcases Nat.lt_or_ge j k with h | h
  · have a := (P.left_le hj hs1 hs2).1
    have b := (P.left_le hk ht1 ht2).2
    have c := P.fuel_mono (i := j + 1) (k := k) (by omega) hk
    have e : lvU l N j = (stAt l (j + 1)).f := by unfold lvU; rw [if_pos (by omega)]
    omega
  · obtain rfl : j = k := by omega
    have := rdn_mono (a := nI l 1 * (lvT l N j - t)) (c := nI l 1 * (lvT l N j - s)) (b := 3600) (by omega) (Int.mul_le_mul_of_nonneg_left (by omega) P.able.burn.1)
    unfold leftIn leftF
    omega
/-- what was burnt. -/
theorem Planned.burnt (P : Planned ρ N l) : ∀ {k : Nat}, k ≤ N → nI l 1 * ((stAt l k).t - ρ.i 12) ≤ 3600 * (ρ.i 2 - (stAt l k).f)
  | 0, _ => by rw [P.at0]; simp
  | k + 1, hk => by
    have h := P.burnt (k := k) (by omega)
    have e : (stAt l (k + 1)).f = (stAt l k).f - burnF (nI l 1) ((stAt l (k + 1)).t - (stAt l k).t) := by
      obtain ⟨x2, y2, ar, -, -, -, -, -, -, -, -, u2⟩ := P.leg (k := k) (by omega)
      have e1 : lvU l N k = (stAt l (k + 1)).f := by unfold lvU; rw [if_pos (by omega)]
      have e2 : lvT l N k = (stAt l (k + 1)).t := by unfold lvT; rw [if_pos (by omega)]
      rw [← e1, u2, e2]
    have q := le_rup_mul (a := nI l 1 * ((stAt l (k + 1)).t - (stAt l k).t)) (b := 3600) (by omega)
    have q2 : nI l 1 * ((stAt l (k + 1)).t - (stAt l k).t) ≤ burnF (nI l 1) ((stAt l (k + 1)).t - (stAt l k).t) * 3600 := q
    have d1 : nI l 1 * ((stAt l (k + 1)).t - ρ.i 12) = nI l 1 * ((stAt l (k + 1)).t - (stAt l k).t) + nI l 1 * ((stAt l k).t - ρ.i 12) := by rw [← Int.mul_add]; congr 1; omega
    omega
theorem Planned.left_burnt (P : Planned ρ N l) {j : Nat} (hj : j ≤ N) {t : Int} : nI l 1 * (t - ρ.i 12) ≤ 3600 * (ρ.i 2 - leftIn l N j t) := by
  have h := P.burnt hj
  obtain ⟨x2, y2, ar, -, -, -, -, -, -, -, -, u2⟩ := P.leg hj
  have q : nI l 1 * (lvT l N j - (stAt l j).t) ≤ burnF (nI l 1) (lvT l N j - (stAt l j).t) * 3600 := le_rup_mul (by omega)
  have q2 := rdn_mul_le (a := nI l 1 * (lvT l N j - t)) (b := 3600) (by omega)
  have d : nI l 1 * (t - ρ.i 12) = nI l 1 * ((stAt l j).t - ρ.i 12) + nI l 1 * (lvT l N j - (stAt l j).t) - nI l 1 * (lvT l N j - t) := by
    rw [← Int.mul_add, ← Int.mul_sub]; congr 1; omega
  unfold leftIn leftF
  omega
end
/-! what is left of a plan, as a plan -/
structure Tail (l m : LL) (i N : Nat) : Prop where
  e0 : nI m 0 = nI l 0
  e1 : nI m 1 = nI l 1
  e2 : nI m 2 = nI l 2
  e3 : nI m 3 = nI l 3
  e4 : nI m 4 = nI l 4
  e5 : nI m 5 = nI l 5
  e6 : nI m 6 = nI l 6
  e7 : nI m 7 = nI l 7
  e8 : nI m 8 = nI l 8
  e13 : nI m 13 = nI l 13
  e14 : nI m 14 = ((N - (i + 1) : Nat) : Int)
  sky : pSky m = pSky l
  at0 : stAt m 0 = stAt l (i + 1)
  ways : ∀ k j : Nat, k < N - (i + 1) → j < 3 → nI (pWays m) (3 * (k : Int) + j) = nI (pWays l) (3 * ((i + 1 + k : Nat) : Int) + j)
section
variable {ρ : Env} {N i : Nat} {l m : LL}
theorem Tail.way (T : Tail l m i N) {k : Nat} (hk : k < N - (i + 1)) : nI (pWays m) (3 * (k : Int)) = nI (pWays l) (3 * ((i + 1 + k : Nat) : Int)) ∧ nI (pWays m) (3 * (k : Int) + 1) = nI (pWays l) (3 * ((i + 1 + k : Nat) : Int) + 1) ∧ nI (pWays m) (3 * (k : Int) + 2) = nI (pWays l) (3 * ((i + 1 + k : Nat) : Int) + 2) := by
  have a := T.ways k 0 hk (by omega)
  have b := T.ways k 1 hk (by omega)
  have c := T.ways k 2 hk (by omega)
  exact ⟨by simpa using a, b, c⟩
theorem Tail.go (T : Tail l m i N) {k : Nat} (hk : k < N - (i + 1)) (a : At) : goOn m a k = goOn l a ((i + 1 + k : Nat) : Int) := by
  obtain ⟨w0, w1, w2⟩ := T.way hk
  unfold goOn wayTo
  rw [w0, w1, w2, T.e0, T.e1]
theorem Tail.st (T : Tail l m i N) : ∀ {k : Nat}, k ≤ N - (i + 1) → stAt m k = stAt l (i + 1 + k)
  | 0, _ => T.at0
  | k + 1, hk => by
    show goOn m (stAt m k) k = goOn l (stAt l (i + 1 + k)) ((i + 1 + k : Nat) : Int)
    rw [T.st (k := k) (by omega), T.go (by omega)]
theorem Tail.why (T : Tail l m i N) {k : Nat} (hk : k < N - (i + 1)) : whyB m (stAt m k) k = whyB l (stAt l (i + 1 + k)) ((i + 1 + k : Nat) : Int) := by
  obtain ⟨w0, w1, w2⟩ := T.way hk
  rw [whyB_P, whyB_P, T.st (by omega), T.e0, T.e1, T.e2, T.e3, T.e4, T.e5, T.e6, T.e7, T.e8, T.e13, T.sky, w0, w1, w2]
theorem Tail.bad (T : Tail l m i N) (P : Planned ρ N l) : badIx m = -1 :=
  bad_no T.e14 fun k hk => by rw [T.why hk]; exact P.good _ (by omega)
theorem Tail.legs (T : Tail l m i N) (hi : i < N) : ∀ {k : Nat}, k ≤ N - (i + 1) → legsTo l ((i + 1 + k : Nat) : Int) = legsTo l ((i + 1 : Nat) : Int) ++ legsTo m k
  | 0, _ => by
    rw [show legsTo m ((0 : Nat) : Int) = [] from rfl, List.append_nil]
  | k + 1, hk => by
    have h := T.legs hi (k := k) (by omega)
    obtain ⟨w0, w1, w2⟩ := T.way (k := k) (by omega)
    have e : legL m (stAt m k) k = legL l (stAt l (i + 1 + k)) ((i + 1 + k : Nat) : Int) := by
      unfold legL wayTo
      rw [T.st (by omega), T.go (by omega), w0, w1, T.e0]
    rw [show ((i + 1 + (k + 1) : Nat) : Int) = ((i + 1 + k : Nat) : Int) + 1 from by omega, legsTo_nat, h, show ((k + 1 : Nat) : Int) = (k : Int) + 1 from by omega, legsTo_nat, e, List.append_assoc]
theorem Tail.plan (T : Tail l m i N) (P : Planned ρ N l) (hi : i < N) : planL m = (planL l).drop (8 * (i + 1)) := by
  have h := T.legs hi (k := N - (i + 1)) (Nat.le_refl _)
  rw [show i + 1 + (N - (i + 1)) = N by omega] at h
  have hl := legsTo_len l (i + 1)
  rw [planL, T.e14, planL, P.n14, h, List.append_assoc, ← hl, List.drop_left' rfl, Int.toNat_natCast, Int.toNat_natCast, T.st (Nat.le_refl _), show i + 1 + (N - (i + 1)) = N by omega]
  congr 1
  exact home_same T.e0 T.e1 T.e6 T.e7
end
/-- Nothing is against staying where one could go home from. -/
theorem stay_why {ρ : Env} {n : Nat} {l m : LL} (P : Planned ρ (n + 1) l) (e0 : nI m 0 = nI l 0) (e1 : nI m 1 = nI l 1) (e2 : nI m 2 = nI l 2) (e3 : nI m 3 = nI l 3) (e4 : nI m 4 = nI l 4) (e5 : nI m 5 = nI l 5) (e6 : nI m 6 = nI l 6) (e7 : nI m 7 = nI l 7) (e8 : nI m 8 = nI l 8) (e13 : nI m 13 = nI l 13)
    (sky : pSky m = pSky l) (at0 : stAt m 0 = stAt l (n + 1)) (way : pWays m = [((stAt l (n + 1)).x, ⟨#[]⟩), ((stAt l (n + 1)).y, ⟨#[]⟩), (0, ⟨#[]⟩)]) : whyB m (stAt m 0) 0 = 0 := by
  obtain ⟨h1, h2, h3, h4⟩ := why_all (P.good n (by omega))
  have eg : goOn l (stAt l n) (n : Int) = stAt l (n + 1) := rfl
  rw [eg] at h1 h2 h3 h4
  obtain ⟨a1, a2, a3, a4, a5, a6, a7, a8, a9, a10⟩ := P.fine (n + 1) (Nat.le_refl _)
  have hh := P.home.1
  have wx : nI (pWays l) (3 * (n : Int)) = (stAt l (n + 1)).x := rfl
  have wy : nI (pWays l) (3 * (n : Int) + 1) = (stAt l (n + 1)).y := rfl
  have hg : goOn m (stAt m 0) 0 = stAt m 0 := by
    rw [at0]
    exact stay_goes a6 (by rw [way]; rfl) (by rw [way]; rfl) (by rw [way]; rfl)
  have eh : wayHome m (stAt m 0) = wayHome l (stAt l (n + 1)) := by rw [at0, wayHome, wayHome, e0, e6, e7]
  unfold whyB
  rw [hg, eh, e1, e2, e3, e8, at0]
  rw [if_neg (by omega), if_neg (by omega), if_neg (by omega), if_pos]
  rw [e13]
  refine allTo_of fun j j0 jn => ?_
  rw [sky, e4, e5, e6, e7, way]
  simp only [Int.mul_zero, Int.zero_add]
  have hfr := front_all P.fronts (k := j) j0 (by rw [P.n13] at jn; exact jn)
  rw [← P.sky] at hfr
  rcases h4 j j0 jn with hc | ⟨-, hc⟩
  · rw [hc]; rfl
  · rw [wx, wy] at hc
    have n1 : nI [((stAt l (n + 1)).x, (⟨#[]⟩ : ByteArray)), ((stAt l (n + 1)).y, ⟨#[]⟩), (0, ⟨#[]⟩)] 0 = (stAt l (n + 1)).x := rfl
    have n2 : nI [((stAt l (n + 1)).x, (⟨#[]⟩ : ByteArray)), ((stAt l (n + 1)).y, ⟨#[]⟩), (0, ⟨#[]⟩)] 1 = (stAt l (n + 1)).y := rfl
    rw [n1, n2, hc]
    have : concB (pSky l) j (stAt l (n + 1)).x (stAt l (n + 1)).y (stAt l (n + 1)).x (stAt l (n + 1)).y (stAt l (n + 1)).t (stAt l (n + 1)).t = false := by
      cases hq : concB (pSky l) j (stAt l (n + 1)).x (stAt l (n + 1)).y (stAt l (n + 1)).x (stAt l (n + 1)).y (stAt l (n + 1)).t (stAt l (n + 1)).t with
      | false => rfl
      | true =>
        exfalso
        simp only [concB, meetB, Bool.and_eq_true, decide_eq_true_eq] at hq
        exact not_conc hc hfr (by omega) (by omega)
    rw [this]
    simp
end Go.Proofs.Ytmbhjfembfidnaa.Un
end
section
namespace Go.Proofs.Ytmbhjfembfidnaa.Un
open Go Go.Proofs.Ytmbhjfembfidnaa.Sx Go.RowKit
variable {TT : Tb}
def legsPl : List E := [.happ 2 (.cons (.add (.v 13) (.c 1)) (.lapp 3 planE2)), .happ 3 (.cons (.add (.v 13) (.c 1)) (.lapp 3 planE2)), .le (.v 12) (lastAt 6)]
def planC3 : List RC := [⟨none, .i .i64 (.c (-1)), [.not (conjE okA)], [.i .i64 (.c 0), .i .i64 (.c 2)]⟩, ⟨none, .i .i64 (.c (-1)), okA ++ [.lt (.c 30) (.v 13)], [.i .i64 (.c 0), .i .i64 (.c 3)]⟩,
  ⟨some ⟨true, 51, ints 8, .add (.v 13) (.c 1), .lapp 3 planE2⟩, .i .i64 (.c (-1)), plOk ++ allPl :: legsPl, [.i .i64 (.c 0), .i .i64 (.c 0)]⟩,
  ⟨none, .i .i64 (.app 11 planE2), okA ++ [.le (.v 13) (.c 30), .le (.c 0) (.app 11 planE2), .lt (.app 11 planE2) (.v 13)], [.i .i64 (.app 12 planE2), .i .i64 (.c 9)]⟩]
def cPlan3 := ctrRowC 25 plK plF planC3
theorem plan3_ok (u : Fit TT) : CtrOk TT Try.prog cPlan3 := ctrRowC_ok rfl fun ρ w hF0 hT hR => by
  obtain ⟨hg, hh⟩ := u.tab hT
  have hm := u.m hT
  obtain ⟨hn14, hl14⟩ := row_facts hR (k := 14) (kds := ints 8) (by decide)
  obtain ⟨hn13, hl13⟩ := row_facts hR (k := 13) (kds := ints 3) (by decide)
  refine (plan_at u ρ w hF0 hT hR).mono ?_
  rintro e w' ⟨⟨c, hc, his⟩, hb⟩
  refine ⟨?_, hb⟩
  simp only [planCases, List.mem_cons, List.not_mem_nil, or_false] at hc
  rcases hc with rfl | rfl | rfl | rfl
  · exact ⟨_, List.mem_cons_self, his⟩
  · exact ⟨_, List.mem_cons_of_mem _ List.mem_cons_self, his⟩
  · refine ⟨_, List.mem_cons_of_mem _ (List.mem_cons_of_mem _ List.mem_cons_self), fun a ha => ?_, his.2⟩
    rcases List.mem_append.1 ha with ha | ha
    · exact his.1 a ha
    · have hp := planned hg hh hn13 ⟨hn14, by rw [hl14]; simp [ints]; omega⟩ his.1
      have e3 : (E.lapp 3 planE2).L ρ = planL (planE2.L ρ) := by show ρ.m 3 _ = _; rw [hm]; rfl
      have eN : (E.add (.v 13) (.c 1)).I ρ = ((ρ.i 13).toNat : Int) + 1 := by simp only [I_add, I_v, I_c]; omega
      simp only [legsPl, List.mem_cons, List.not_mem_nil, or_false] at ha
      rcases ha with rfl | rfl | rfl | rfl
      · rw [allPl, B_allr, e3, List.all_eq_true]
        intro p hpm
        simpa using hp.allr p hpm
      · rw [B_happ, hh, L_cons, e3, eN]
        exact hp.valid.1
      · rw [B_happ, hh, L_cons, e3, eN]
        exact hp.valid.2
      · have e6 : (lastAt 6).I ρ = nI (planL (planE2.L ρ)) (8 * ((ρ.i 13).toNat : Int) + 6) := by
          rw [lastAt, I_nthI, e3, Int.toNat_of_nonneg hn13, Int.mul_comm 8 (ρ.i 13)]
          rfl
        rw [B_le, e6, (hp.c (Nat.le_refl _)).2.1, decide_eq_true_eq]
        have m0 := hp.mono (i := 0) (k := (ρ.i 13).toNat) (by omega) (Nat.le_refl _)
        have ht0 : (stAt (planE2.L ρ) 0).t = ρ.i 12 := by rw [hp.at0]
        have hh := hp.home.1
        unfold lvT
        rw [if_neg (Nat.lt_irrefl _)]
        simp only [I_v]
        omega
  · exact ⟨_, List.mem_cons_of_mem _ (List.mem_cons_of_mem _ (List.mem_cons_of_mem _ List.mem_cons_self)), his⟩
end Go.Proofs.Ytmbhjfembfidnaa.Un
end
