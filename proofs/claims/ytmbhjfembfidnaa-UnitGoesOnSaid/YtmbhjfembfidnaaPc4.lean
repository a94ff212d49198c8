/- Layer 9 (unit): what a plan that goes through has: mathematics. Layer 9 (unit): Plan as a contract, with what a plan has. Layer 9 (unit): the law of the way home: what it reckons with. -/
import Derived.Test.YtmbhjfembfidnaaPc0
section
namespace Go.Proofs.Ytmbhjfembfidnaa.Un
open Go Go.Proofs.Ytmbhjfembfidnaa.Sx
theorem legsTo_len (l : LL) : ∀ k : Nat, (legsTo l (k : Int)).length = 8 * k
  | 0 => rfl
  | k + 1 => by
    rw [show ((k + 1 : Nat) : Int) = (k : Int) + 1 from rfl, legsTo_nat, List.length_append, legsTo_len l k]
    rfl
theorem legsTo_split (l : LL) {i : Nat} : ∀ {n : Nat}, i < n → ∃ rest, legsTo l (n : Int) = legsTo l i ++ (legL l (stAt l i) i ++ rest)
  | 0, h => by omega
  | n + 1, h => by
    rw [show ((n + 1 : Nat) : Int) = (n : Int) + 1 from rfl, legsTo_nat]
    rcases Nat.lt_or_ge i n with h1 | h1
    · obtain ⟨rest, hr⟩ := legsTo_split l h1
      exact ⟨rest ++ legL l (stAt l n) n, by rw [hr]; simp⟩
    · obtain rfl : i = n := by omega
      exact ⟨[], by simp⟩
theorem nI_mid (a b c : LL) (j : Nat) (hj : j < b.length) : nI (a ++ (b ++ c)) ((a.length + j : Nat) : Int) = nI b j := by
  unfold nI
  rw [Int.toNat_natCast, Int.toNat_natCast, List.getElem?_append_right (by omega), List.getElem?_append_left (by omega), Nat.add_sub_cancel_left]
/-- the leg i of a plan of N ways. -/
def legOf (l : LL) (N i : Nat) : LL := if i < N then legL l (stAt l i) i else homeL l (stAt l N)
theorem legOf_len (l : LL) (N i : Nat) : (legOf l N i).length = 8 := by unfold legOf; split <;> rfl
theorem plan_leg {l : LL} {N i : Nat} (h14 : nI l 14 = (N : Int)) (hi : i ≤ N) {j : Nat} (hj : j < 8) : nI (planL l) (8 * (i : Int) + j) = nI (legOf l N i) j := by
  have e : planL l = legsTo l (N : Int) ++ homeL l (stAt l N) := by rw [planL, h14, Int.toNat_natCast]
  have hl := legsTo_len l i
  have he : 8 * (i : Int) + j = (((legsTo l (i : Int)).length + j : Nat) : Int) := by omega
  rw [e, he]
  unfold legOf
  split
  · rename_i h
    obtain ⟨rest, hr⟩ := legsTo_split l h
    rw [hr, List.append_assoc, List.append_assoc]
    exact nI_mid _ _ _ _ (by exact hj)
  · obtain rfl : i = N := by omega
    have := nI_mid (legsTo l (i : Int)) (homeL l (stAt l i)) [] j hj
    rwa [List.append_nil] at this
theorem good_of {l : LL} {N : Nat} (h14 : nI l 14 = (N : Int)) (h : badIx l < 0) : Good l N := fun j hj => by
  unfold badIx at h
  rw [h14, Int.toNat_natCast] at h
  rcases firstB_from (fun k => !decide (whyB l (stAt l k.toNat) k = 0)) N 0 with ⟨-, h2⟩ | ⟨h1, -⟩
  · have := h2 j (by omega) (by omega)
    simpa using this
  · exact absurd h (by simpa using h1)
/-- what lies in a plan is within bounds. -/
theorem plan_allr {l : LL} {N : Nat} (h14 : nI l 14 = (N : Int)) (A : Able l) (hf : ∀ i, i ≤ N → Fine l (stAt l i)) (hw : ∀ i : Nat, i < N → FineW l i) (hg : Good l N) (hfuel : nI l 12 ≤ 1073741824) (hhome : N = 0 → (stAt l 0).t + wayHome l (stAt l 0) ≤ 1073741824 ∧ 0 ≤ (stAt l 0).f - burnF (nI l 1) (wayHome l (stAt l 0))) :
    ∀ p ∈ planL l, -16777216 ≤ p.1 ∧ p.1 ≤ 1073741824 := by
  have hfu : ∀ i : Nat, i ≤ N → (stAt l i).f ≤ 1073741824 := by
    intro i
    induction i with
    | zero => intro _; exact hfuel
    | succ i ih =>
      intro hi
      have h1 := ih (by omega)
      have f0 := hf i (by omega)
      have f1 := hf (i + 1) hi
      obtain ⟨a1, a2, a3, a4, a5, a6, a7, a8, a9, a10⟩ := f0
      obtain ⟨w1, w2, w3⟩ := hw i (by omega)
      have ht : 0 ≤ wayTo l (stAt l i) i ∧ wayTo l (stAt l i) i ≤ 241591910400 := timeF_bounds (s := nI l 0) a1 a6 w1
      have hb := burnF_bounds (b := nI l 1) (t := (stAt l i).t + wayTo l (stAt l i) i + nI (pWays l) (3 * (i : Int) + 2) - (stAt l i).t) a3 a4 (by omega) (by omega)
      have e : (stAt l (i + 1)).f = (stAt l i).f - burnF (nI l 1) ((stAt l i).t + wayTo l (stAt l i) i + nI (pWays l) (3 * (i : Int) + 2) - (stAt l i).t) := rfl
      omega
  have hhm : (stAt l N).t + wayHome l (stAt l N) ≤ 1073741824 ∧ 0 ≤ (stAt l N).f - burnF (nI l 1) (wayHome l (stAt l N)) := by
    cases N with
    | zero => exact hhome rfl
    | succ n =>
      obtain ⟨h1, h2⟩ := why_zero (hg n (by omega))
      have := A.reserve
      exact ⟨h1, by have h2' : nI l 2 ≤ (stAt l (n + 1)).f - burnF (nI l 1) (wayHome l (stAt l (n + 1))) := h2; omega⟩
  intro p hp
  have e : planL l = legsTo l (N : Int) ++ homeL l (stAt l N) := by rw [planL, h14, Int.toNat_natCast]
  rw [e] at hp
  rcases List.mem_append.1 hp with hp | hp
  · unfold legsTo at hp
    obtain ⟨k, hk, hp⟩ := List.mem_flatMap.1 hp
    rw [Int.toNat_natCast] at hk
    have hk := List.mem_range.1 hk
    obtain ⟨a1, a2, a3, a4, a5, a6, a7, a8, a9, a10⟩ := hf k (by omega)
    obtain ⟨b1, b2, b3, b4, b5, b6, b7, b8, b9, b10⟩ := hf (k + 1) (by omega)
    obtain ⟨w1, w2, w3⟩ := hw k hk
    have h1 := hfu (k + 1) (by omega)
    have ht : 0 ≤ wayTo l (stAt l k) k ∧ wayTo l (stAt l k) k ≤ 241591910400 := timeF_bounds (s := nI l 0) a1 a6 w1
    have e1 : (goOn l (stAt l k) k).t = (stAt l k).t + wayTo l (stAt l k) k + nI (pWays l) (3 * (k : Int) + 2) := rfl
    have e2 : goOn l (stAt l k) k = stAt l (k + 1) := rfl
    rw [e2] at e1
    simp only [spotB, decide_eq_true_eq] at a6 w1
    simp only [legL, e8, e2, List.mem_cons, List.not_mem_nil, or_false] at hp
    rcases hp with rfl | rfl | rfl | rfl | rfl | rfl | rfl | rfl <;> simp only <;> omega
  · obtain ⟨a1, a2, a3, a4, a5, a6, a7, a8, a9, a10⟩ := hf N (Nat.le_refl _)
    have ht : 0 ≤ wayHome l (stAt l N) ∧ wayHome l (stAt l N) ≤ 241591910400 := timeF_bounds (s := nI l 0) a1 a6 a5
    have hb := burnF_bounds (b := nI l 1) (t := wayHome l (stAt l N)) a3 a4 ht.1 (by omega)
    have h1 := hfu N (Nat.le_refl _)
    simp only [spotB, decide_eq_true_eq] at a5 a6
    simp only [homeL, e8, List.mem_cons, List.not_mem_nil, or_false] at hp
    rcases hp with rfl | rfl | rfl | rfl | rfl | rfl | rfl | rfl <;> simp only <;> omega
end Go.Proofs.Ytmbhjfembfidnaa.Un
end
section
namespace Go.Proofs.Ytmbhjfembfidnaa.Un
open Go Go.Proofs.Ytmbhjfembfidnaa.Sx Go.RowKit
variable {TT : Tb}
/-- what is known where a plan goes through. -/
structure Planned (ρ : Env) (N : Nat) (l : LL) : Prop where
  n0 : nI l 0 = ρ.i 1
  n1 : nI l 1 = ρ.i 3
  n2 : nI l 2 = ρ.i 4
  n3 : nI l 3 = ρ.i 5
  n4 : nI l 4 = ρ.i 6
  n5 : nI l 5 = ρ.i 7
  n6 : nI l 6 = ρ.i 8
  n7 : nI l 7 = ρ.i 9
  n8 : nI l 8 = ρ.i 12
  n12 : nI l 12 = ρ.i 2
  n13 : nI l 13 = ρ.i 14
  n14 : nI l 14 = (N : Int)
  num : ρ.i 13 = (N : Int)
  few : N ≤ 30
  sky : pSky l = ρ.l 14
  ways : pWays l = ρ.l 13
  at0 : stAt l 0 = ⟨ρ.i 8, ρ.i 9, ρ.i 12, ρ.i 2⟩
  able : Able l
  fineW : ∀ i : Nat, i < N → FineW l i
  fine : ∀ i, i ≤ N → Fine l (stAt l i)
  good : Good l N
  fronts : allTo (ρ.i 14) (atB 8 frontA (ρ.l 14)) = true
  skies : 0 ≤ ρ.i 14 ∧ ρ.i 14 ≤ 100
  fuel : 0 ≤ ρ.i 2 ∧ ρ.i 2 ≤ 1073741824
def plOk : List E := okA ++ [.le (.v 13) (.c 30), .lt (.app 11 planE2) (.c 0)]
theorem planned {ρ : Env} (hg : ρ.g = gF) (hh : ρ.h = Un.hF) (h13 : 0 ≤ ρ.i 13) (h14 : 0 ≤ ρ.i 14 ∧ (ρ.l 14).length = (8 * ρ.i 14).toNat) (hok : ∀ a ∈ plOk, a.B ρ = true) : Planned ρ (ρ.i 13).toNat (planE2.L ρ) := by
  obtain ⟨l, hl⟩ : ∃ l, l = planE2.L ρ := ⟨_, rfl⟩
  have hl' : l = (ρ.i 1, ⟨#[]⟩) :: (ρ.i 3, ⟨#[]⟩) :: (ρ.i 4, ⟨#[]⟩) :: (ρ.i 5, ⟨#[]⟩) :: (ρ.i 6, ⟨#[]⟩) :: (ρ.i 7, ⟨#[]⟩) :: (ρ.i 8, ⟨#[]⟩) :: (ρ.i 9, ⟨#[]⟩) :: (ρ.i 12, ⟨#[]⟩) :: (ρ.i 8, ⟨#[]⟩) :: (ρ.i 9, ⟨#[]⟩) :: (ρ.i 12, ⟨#[]⟩) :: (ρ.i 2, ⟨#[]⟩) :: (ρ.i 14, ⟨#[]⟩) :: (ρ.i 13, ⟨#[]⟩) :: (ρ.l 14 ++ ρ.l 13) := hl
  have hsky : pSky l = ρ.l 14 := by
    rw [hl', pSky]
    show ((ρ.l 14 ++ ρ.l 13).take (8 * ρ.i 14).toNat) = _
    rw [← h14.2, List.take_left']
    rfl
  have hway : pWays l = ρ.l 13 := by
    rw [hl', pWays]
    show ((ρ.l 14 ++ ρ.l 13).drop (8 * ρ.i 14).toNat) = _
    rw [← h14.2, List.drop_left']
    rfl
  have q : ∀ a ∈ plOk, a.B ρ = true := hok
  have ebad : badIx l < 0 := by
    have := hok (.lt (.app 11 planE2) (.c 0)) (by simp [plOk])
    rw [B_lt, decide_eq_true_eq] at this
    have e : (E.app 11 planE2).I ρ = badIx l := by rw [hl]; show ρ.g 11 _ = _; rw [hg]; rfl
    rw [e] at this
    exact this
  have hall : allTo (ρ.i 13) (atB 3 wayA (ρ.l 13)) = true := by
    have := hok (.happ 5 (.cons (.v 13) (.lv 13))) (by simp [plOk, okA, waysAt])
    rw [B_happ, hh] at this
    exact this
  have hfr : allTo (ρ.i 14) (atB 8 frontA (ρ.l 14)) = true := by
    have := hok (.happ 4 (.cons (.v 14) (.lv 14))) (by simp [plOk, okA, skyAt])
    rw [B_happ, hh] at this
    exact this
  have hb : 1 ≤ ρ.i 1 ∧ ρ.i 1 ≤ 1000000 ∧ 0 ≤ ρ.i 2 ∧ ρ.i 2 ≤ 1073741824 ∧ 0 ≤ ρ.i 3 ∧ ρ.i 3 ≤ 1048576 ∧ 0 ≤ ρ.i 4 ∧ -16777216 ≤ ρ.i 8 ∧ ρ.i 8 ≤ 16777216 ∧ -16777216 ≤ ρ.i 9 ∧ ρ.i 9 ≤ 16777216 ∧ 0 ≤ ρ.i 12 ∧ ρ.i 12 ≤ 1073741824 ∧ ρ.i 13 ≤ 30 ∧ ρ.i 14 ≤ 100 := by
    have f : ∀ a b : E, E.le a b ∈ plOk → a.I ρ ≤ b.I ρ := fun a b h => by have := q _ h; rwa [B_le, decide_eq_true_eq] at this
    have m : ∀ a b : E, plOk.contains (E.le a b) = true → a.I ρ ≤ b.I ρ := fun a b h => f a b (List.contains_iff_mem.1 h)
    exact ⟨m (.c 1) (.v 1) (by decide +kernel), m (.v 1) (.c 1000000) (by decide +kernel), m (.c 0) (.v 2) (by decide +kernel), m (.v 2) (.c 1073741824) (by decide +kernel), m (.c 0) (.v 3) (by decide +kernel), m (.v 3) (.c 1048576) (by decide +kernel), m (.c 0) (.v 4) (by decide +kernel), m (.c (-16777216)) (.v 8) (by decide +kernel), m (.v 8) (.c 16777216) (by decide +kernel), m (.c (-16777216)) (.v 9) (by decide +kernel), m (.v 9) (.c 16777216) (by decide +kernel), m (.c 0) (.v 12) (by decide +kernel), m (.v 12) (.c 1073741824) (by decide +kernel), m (.v 13) (.c 30) (by decide +kernel), m (.v 14) (.c 100) (by decide +kernel)⟩
  obtain ⟨N, hN⟩ := Int.eq_ofNat_of_zero_le h13
  have hNt : (ρ.i 13).toNat = N := by omega
  rw [hNt, ← hl]
  have e14 : nI l 14 = (N : Int) := by rw [hl']; exact hN
  have e0 : nI l 0 = ρ.i 1 := by rw [hl']; rfl
  have e1 : nI l 1 = ρ.i 3 := by rw [hl']; rfl
  have e2 : nI l 2 = ρ.i 4 := by rw [hl']; rfl
  have e6 : nI l 6 = ρ.i 8 := by rw [hl']; rfl
  have e7 : nI l 7 = ρ.i 9 := by rw [hl']; rfl
  have ea : stAt l 0 = ⟨ρ.i 8, ρ.i 9, ρ.i 12, ρ.i 2⟩ := by rw [hl']; rfl
  have hA : Able l := ⟨by omega, by omega, by omega, by simp only [spotB, decide_eq_true_eq]; omega⟩
  have hW : ∀ i : Nat, i < N → FineW l i := fun i hi => by
    have := way_all hall (k := i) (by omega) (by omega)
    unfold FineW
    rw [hway]
    exact this
  have hG := good_of e14 ebad
  have h0 : Fine l (stAt l 0) := by
    rw [ea]
    exact ⟨by omega, by omega, by omega, by omega, hA.base, by simp only [spotB, decide_eq_true_eq]; omega, by show 0 ≤ ρ.i 12; omega, by show ρ.i 12 ≤ _; omega, by show 0 ≤ ρ.i 2; omega, by show ρ.i 2 ≤ _; omega⟩
  exact { n0 := e0, n1 := e1, n2 := e2, n3 := by rw [hl']; rfl, n4 := by rw [hl']; rfl, n5 := by rw [hl']; rfl, n6 := e6, n7 := e7, n8 := by rw [hl']; rfl, n12 := by rw [hl']; rfl, n13 := by rw [hl']; rfl, n14 := e14, num := hN, few := by omega, sky := hsky, ways := hway, at0 := ea, able := hA, fineW := hW, fine := fun i hi => fine_all hA h0 hW i (fun j hj => hG j (by omega)) hi, good := hG, fronts := hfr, skies := ⟨h14.1, by omega⟩, fuel := ⟨by omega, by omega⟩ }
theorem Planned.allr {ρ : Env} {N : Nat} {l : LL} (h : Planned ρ N l) : ∀ p ∈ planL l, -16777216 ≤ p.1 ∧ p.1 ≤ 1073741824 := by
  refine plan_allr h.n14 h.able h.fine h.fineW h.good (by rw [h.n12]; exact h.fuel.2) fun h0 => ?_
  have hs : spotB (ρ.i 8) (ρ.i 9) = true := by have := h.able.base; rwa [h.n6, h.n7] at this
  have e : wayHome l (stAt l 0) = 0 := by
    rw [wayHome, h.at0, h.n6, h.n7]
    exact timeF_same hs
  rw [e, burnF_zero, h.at0]
  have := (h.fine 0 (by omega)).2.2.2.2.2.2.2
  rw [h.at0] at this
  have t2 : ρ.i 12 ≤ 1073741824 := this.1
  have := h.fuel
  exact ⟨by show ρ.i 12 + 0 ≤ _; omega, by show 0 ≤ ρ.i 2 - 0; omega⟩
def allPl : E := .allr (-16777216) 1073741824 (.lapp 3 planE2)
def lastAt (j : Nat) : E := .nthI (.lapp 3 planE2) (.add (.mul (.v 13) (.c 8)) (.c (j : Int)))
/-- of the last leg: where it leads, and when. -/
def lastPl : List E := [.eq (lastAt 2) (.v 8), .eq (lastAt 3) (.v 9), .le (.sub (lastAt 6) (.v 12)) (.v 5)]
theorem Planned.last {ρ : Env} {N : Nat} {l : LL} (h : Planned ρ N l) (h5 : 0 ≤ ρ.i 5) : nI (planL l) ((N : Int) * 8 + 2) = ρ.i 8 ∧ nI (planL l) ((N : Int) * 8 + 3) = ρ.i 9 ∧ nI (planL l) ((N : Int) * 8 + 6) - ρ.i 12 ≤ ρ.i 5 := by
  have e2 := plan_leg h.n14 (Nat.le_refl N) (j := 2) (by omega)
  have e3 := plan_leg h.n14 (Nat.le_refl N) (j := 3) (by omega)
  have e6 := plan_leg h.n14 (Nat.le_refl N) (j := 6) (by omega)
  simp only [legOf, if_neg (Nat.lt_irrefl N), Int.mul_comm 8 (N : Int), Int.cast_ofNat_Int] at e2 e3 e6
  refine ⟨e2.trans h.n6, e3.trans h.n7, ?_⟩
  rw [e6]
  show (stAt l N).t + wayHome l (stAt l N) - ρ.i 12 ≤ ρ.i 5
  match N, h with
  | 0, h =>
    have hs : spotB (ρ.i 8) (ρ.i 9) = true := by have := h.able.base; rwa [h.n6, h.n7] at this
    have e : wayHome l (stAt l 0) = 0 := by
      rw [wayHome, h.at0, h.n6, h.n7]
      exact timeF_same hs
    rw [e, h.at0]
    show ρ.i 12 + 0 - ρ.i 12 ≤ _
    omega
  | n + 1, h =>
    have := h.good n (by omega)
    unfold whyB at this
    rw [h.n8, h.n3] at this
    split at this
    · omega
    · split at this
      · omega
      · split at this
        · omega
        · rename_i h3
          exact Int.not_lt.1 h3
def planC2 : List RC := [⟨none, .i .i64 (.c (-1)), [.not (conjE okA)], [.i .i64 (.c 0), .i .i64 (.c 2)]⟩, ⟨none, .i .i64 (.c (-1)), okA ++ [.lt (.c 30) (.v 13)], [.i .i64 (.c 0), .i .i64 (.c 3)]⟩,
  ⟨some ⟨true, 51, ints 8, .add (.v 13) (.c 1), .lapp 3 planE2⟩, .i .i64 (.c (-1)), plOk ++ allPl :: lastPl, [.i .i64 (.c 0), .i .i64 (.c 0)]⟩,
  ⟨none, .i .i64 (.app 11 planE2), okA ++ [.le (.v 13) (.c 30), .le (.c 0) (.app 11 planE2), .lt (.app 11 planE2) (.v 13)], [.i .i64 (.app 12 planE2), .i .i64 (.c 9)]⟩]
def cPlan2 := ctrRowC 25 plK plF planC2
theorem plan2_ok (u : Fit TT) : CtrOk TT Try.prog cPlan2 := ctrRowC_ok rfl fun ρ w hF0 hT hR => by
  obtain ⟨hg, hh⟩ := u.tab hT
  have hm := u.m hT
  obtain ⟨hn14, hl14⟩ := row_facts hR (k := 14) (kds := ints 8) (by decide)
  obtain ⟨hn13, hl13⟩ := row_facts hR (k := 13) (kds := ints 3) (by decide)
  refine (plan_at u ρ w hF0 hT hR).mono ?_
  rintro e w' ⟨⟨c, hc, his⟩, hb⟩
  refine ⟨?_, hb⟩
  simp only [planCases, List.mem_cons, List.not_mem_nil, or_false] at hc
  rcases hc with rfl | rfl | rfl | rfl
  · exact ⟨_, List.mem_cons_self, his⟩
  · exact ⟨_, List.mem_cons_of_mem _ List.mem_cons_self, his⟩
  · refine ⟨_, List.mem_cons_of_mem _ (List.mem_cons_of_mem _ List.mem_cons_self), fun a ha => ?_, his.2⟩
    rcases List.mem_append.1 ha with ha | ha
    · exact his.1 a ha
    · have hp := planned hg hh hn13 ⟨hn14, by rw [hl14]; simp [ints]; omega⟩ his.1
      have e3 : (E.lapp 3 planE2).L ρ = planL (planE2.L ρ) := by show ρ.m 3 _ = _; rw [hm]; rfl
      have h5 : 0 ≤ ρ.i 5 := by
        have := his.1 (.le (.c 0) (.v 5)) (List.contains_iff_mem.1 (by decide +kernel))
        simpa using this
      obtain ⟨q2, q3, q6⟩ := hp.last h5
      have eL : ∀ j : Nat, (lastAt j).I ρ = nI (planL (planE2.L ρ)) (((ρ.i 13).toNat : Int) * 8 + j) := fun j => by
        rw [lastAt, I_nthI, e3, Int.toNat_of_nonneg hn13]
        rfl
      simp only [lastPl, List.mem_cons, List.not_mem_nil, or_false] at ha
      rcases ha with rfl | rfl | rfl | rfl
      · rw [allPl, B_allr, e3, List.all_eq_true]
        intro p hpm
        simpa using hp.allr p hpm
      · rw [B_eq, eL 2, decide_eq_true_eq]; exact q2
      · rw [B_eq, eL 3, decide_eq_true_eq]; exact q3
      · rw [B_le, I_sub, eL 6, decide_eq_true_eq]; exact q6
  · exact ⟨_, List.mem_cons_of_mem _ (List.mem_cons_of_mem _ (List.mem_cons_of_mem _ List.mem_cons_self)), his⟩
end Go.Proofs.Ytmbhjfembfidnaa.Un
end
section
namespace Go.Proofs.Ytmbhjfembfidnaa.Un
open Go Go.Proofs.Ytmbhjfembfidnaa.Sx Go.RowKit
abbrev DD2 : Dec := decideN (decideL2 decideB)
theorem DD2_ok {TT : Tb} : DecOk TT DD2 := decideN_ok (decideL2_ok decB_ok)
def atO (n k f : Nat) : E := .or (.lt (.v 13) (.v n)) (.eq (.v k) (.app f (.cons (.v n) planE2)))
def homL : LoopSpec := { key := 10, nt := some 333, locs := [.t 12 (.i .i64), .h (.n 20) 0 (.i .i64), .h (.n 20) 1 (.i .i64), .t 10 (.i .i64), .t 11 (.i .i64)], facts := fun n => [.le (.c 0) (.v n), .le (.v n) (.add (.v 13) (.c 1)), .le (.v n) (.c 31), .le (.c (-16777216)) (.v (n+1)), .le (.v (n+1)) (.c 16777216), .le (.c (-16777216)) (.v (n+2)), .le (.v (n+2)) (.c 16777216), .le (.c (-16777216)) (.v (n+3)), .le (.v (n+3)) (.c 1073741824), .le (.c (-16777216)) (.v (n+4)), .le (.v (n+4)) (.c 1073741824), atO n (n+1) 18, atO n (n+2) 19, atO n (n+3) 20, atO n (n+4) 21], meas := fun n => .sub (.add (.v 13) (.c 1)) (.v n) }
def homI : LoopSpec := { key := 25, nt := some 333, locs := [.t 21 (.i .i64)], facts := fun n => [.le (.c 0) (.v n), .le (.v n) (.v 14), .le (.v n) (.c 110)], meas := fun n => .sub (.v 14) (.v n) }
theorem sub_facts {ρ : Env} {F G : List E} (hF : holds ρ F) (h : (G.all fun a => F.contains a) = true) : ∀ a ∈ G, a.B ρ = true := fun a ha => hF a (List.contains_iff_mem.1 (List.all_eq_true.1 h a ha))
theorem burn_q {b t : Int} (h : 0 ≤ b * t) : (b * t + 3599).tdiv 3600 = burnF b t := by
  have := up_rup (a := b * t) (b := 3600) (by omega) h
  rw [show b * t + 3600 - 1 = b * t + 3599 by omega] at this
  exact this
theorem time_q {s d : Int} (hs : 1 ≤ s) (h : 0 ≤ d) : (d * 3600 + s - 1).tdiv s = rup (d * 3600) s := up_rup (by omega) (by omega)
/-- the eight numbers of a leg of a plan. -/
structure LegIs (c : Nat → Int) (x y x2 y2 t ar lv f : Int) : Prop where
  c0 : c 0 = x
  c1 : c 1 = y
  c2 : c 2 = x2
  c3 : c 3 = y2
  c4 : c 4 = t
  c5 : c 5 = ar
  c6 : c 6 = lv
  c7 : c 7 = f
theorem leg_on {l : LL} {N k : Nat} (h14 : nI l 14 = (N : Int)) (hk : k < N) : LegIs (fun j => nI (planL l) ((k : Int) * 8 + j)) (stAt l k).x (stAt l k).y (nI (pWays l) (3 * (k : Int))) (nI (pWays l) (3 * (k : Int) + 1)) (stAt l k).t ((stAt l k).t + wayTo l (stAt l k) k) (stAt l (k + 1)).t (stAt l (k + 1)).f := by
  have h := fun (j : Nat) (hj : j < 8) => plan_leg h14 (i := k) (by omega) hj
  simp only [legOf, if_pos hk, Int.mul_comm 8 (k : Int)] at h
  exact ⟨h 0 (by omega), h 1 (by omega), h 2 (by omega), h 3 (by omega), h 4 (by omega), h 5 (by omega), h 6 (by omega), h 7 (by omega)⟩
theorem leg_last {l : LL} {N : Nat} (h14 : nI l 14 = (N : Int)) : LegIs (fun j => nI (planL l) ((N : Int) * 8 + j)) (stAt l N).x (stAt l N).y (nI l 6) (nI l 7) (stAt l N).t ((stAt l N).t + wayHome l (stAt l N)) ((stAt l N).t + wayHome l (stAt l N)) ((stAt l N).f - burnF (nI l 1) (wayHome l (stAt l N))) := by
  have h := fun (j : Nat) (hj : j < 8) => plan_leg h14 (i := N) (by omega) hj
  simp only [legOf, if_neg (Nat.lt_irrefl N), Int.mul_comm 8 (N : Int)] at h
  exact ⟨h 0 (by omega), h 1 (by omega), h 2 (by omega), h 3 (by omega), h 4 (by omega), h 5 (by omega), h 6 (by omega), h 7 (by omega)⟩
/-- why nothing is against a way. -/
theorem why_all {l : LL} {a : At} {k : Int} (h : whyB l a k = 0) : (goOn l a k).t + wayHome l (goOn l a k) ≤ 1073741824 ∧ nI l 2 ≤ (goOn l a k).f - burnF (nI l 1) (wayHome l (goOn l a k)) ∧ (goOn l a k).t + wayHome l (goOn l a k) - nI l 8 ≤ nI l 3 ∧
    ∀ j : Int, 0 ≤ j → j < nI l 13 → calmB (pSky l) j (nI l 4) (nI l 5) = true ∨ concB (pSky l) j a.x a.y (nI (pWays l) (3 * k)) (nI (pWays l) (3 * k + 1)) a.t (goOn l a k).t = false ∧ concB (pSky l) j (nI (pWays l) (3 * k)) (nI (pWays l) (3 * k + 1)) (nI l 6) (nI l 7) (goOn l a k).t ((goOn l a k).t + wayHome l (goOn l a k)) = false := by
  unfold whyB at h
  split at h
  · omega
  · split at h
    · omega
    · split at h
      · omega
      · split at h
        · rename_i h4
          refine ⟨by omega, by omega, by omega, fun j h0 hj => ?_⟩
          have := allTo_at h4 h0 hj
          simpa using this
        · omega
theorem front_all {n : Int} {l : LL} (h : allTo n (atB 8 frontA l) = true) {k : Int} (h0 : 0 ≤ k) (hk : k < n) : nI l (8 * k) ≤ nI l (8 * k + 1) ∧ nI l (8 * k + 2) ≤ nI l (8 * k + 4) ∧ nI l (8 * k + 3) ≤ nI l (8 * k + 5) := by
  have := allTo_at h h0 hk
  simp only [atB, allE, frontA, spotA, timeA, btw, envAt, List.cons_append, List.nil_append, List.all_cons, List.all_nil, B_le, I_c, I_v, Bool.and_eq_true, decide_eq_true_eq, Int.cast_ofNat_Int, Int.add_zero, Nat.reduceAdd] at this
  omega
/-- weather that is too bad does not concern the way. -/
theorem not_conc {sky : LL} {j fx fy tx ty st lv : Int} (h : concB sky j fx fy tx ty st lv = false) (hf : nI sky (8 * j) ≤ nI sky (8 * j + 1) ∧ nI sky (8 * j + 2) ≤ nI sky (8 * j + 4) ∧ nI sky (8 * j + 3) ≤ nI sky (8 * j + 5)) (ht : st ≤ lv) :
    ¬ (nI sky (8 * j) ≤ lv ∧ st ≤ nI sky (8 * j + 1) ∧ nI sky (8 * j + 2) ≤ max fx tx ∧ min fx tx ≤ nI sky (8 * j + 4) ∧ nI sky (8 * j + 3) ≤ max fy ty ∧ min fy ty ≤ nI sky (8 * j + 5)) := by
  intro ⟨h1, h2, h3, h4, h5, h6⟩
  obtain ⟨f1, f2, f3⟩ := hf
  have : concB sky j fx fy tx ty st lv = true := by
    simp only [concB, meetB, Bool.and_eq_true, decide_eq_true_eq]
    omega
  rw [h] at this
  cases this
theorem not_calm {sky : LL} {j s w : Int} (h : calmB sky j s w = true) : nI sky (8 * j + 6) ≤ s ∧ nI sky (8 * j + 7) ≤ w := by
  simpa [calmB] using h
end Go.Proofs.Ytmbhjfembfidnaa.Un
end
