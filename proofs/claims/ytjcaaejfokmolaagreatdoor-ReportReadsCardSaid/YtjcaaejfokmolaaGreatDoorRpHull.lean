/- The code's convex areas (every corner turns left, no corner is right of an edge) are the document's (and the sum over the edges is above 0). -/
import Derived.Test.YtjcaaejfokmolaaGreatDoorRpInside
namespace Go.Proofs.YtjcaaejfokmolaaGreatDoor
open Go.RowKit

def cornerB (l : List (Int × Int)) (k : Nat) : Bool := insideB l (atZ l k) && decide (0 < turnZ (atZ l k) (atZ l ((k + 1) % l.length)) (atZ l ((k + 2) % l.length)))
def convexB (l : List (Int × Int)) : Bool := (List.range l.length).all (cornerB l)

/-- the document's: corner i turns left, and no corner is right of its edge. -/
def okR (l : List (Int × Int)) (i : Nat) : Bool := decide (0 < turnZ (atZ l i) (atZ l ((i + 1) % l.length)) (atZ l ((i + 2) % l.length))) && (List.range l.length).all (fun k => decide (0 ≤ turnZ (atZ l i) (atZ l ((i + 1) % l.length)) (atZ l k)))
/-- the sum over the first i edges. -/
def sumZ (l : List (Int × Int)) : Nat → Int
  | 0 => 0
  | i + 1 => sumZ l i + crossZ (atZ l i) (atZ l ((i + 1) % l.length))
def convexR (l : List (Int × Int)) : Bool := (List.range l.length).all (okR l) && decide (0 < sumZ l l.length)

def turnsZ (l : List (Int × Int)) (p : Int × Int) : Nat → Int
  | 0 => 0
  | i + 1 => turnsZ l p i + turnZ (atZ l i) (atZ l ((i + 1) % l.length)) p

theorem turn_cross (a b p : Int × Int) : turnZ a b p = crossZ a b + crossZ b p - crossZ a p := by
  obtain ⟨a1, a2⟩ := a; obtain ⟨b1, b2⟩ := b; obtain ⟨p1, p2⟩ := p
  unfold turnZ crossZ fromZ
  simp only [Int.sub_mul, Int.mul_sub]
  have := Int.mul_comm b2 b1
  omega

theorem turns_part (l : List (Int × Int)) (p : Int × Int) : ∀ i, i < l.length → turnsZ l p i = sumZ l i + crossZ (atZ l i) p - crossZ (atZ l 0) p := by
  intro i
  induction i with
  | zero => intro _; simp [turnsZ, sumZ]
  | succ i ih =>
    intro h
    have e := ih (by omega)
    have hm : (i + 1) % l.length = i + 1 := Nat.mod_eq_of_lt h
    simp only [turnsZ, sumZ]
    rw [e, turn_cross, hm]
    omega
theorem turns_all (l : List (Int × Int)) (p : Int × Int) (h : 0 < l.length) : turnsZ l p l.length = sumZ l l.length := by
  obtain ⟨n, hn⟩ : ∃ n, l.length = n + 1 := ⟨l.length - 1, by omega⟩
  have e := turns_part l p n (by omega)
  rw [hn]
  simp only [turnsZ, sumZ]
  rw [e, turn_cross, hn, Nat.mod_self]
  omega
theorem turns_up (l : List (Int × Int)) (p : Int × Int) (h : ∀ i, i < l.length → 0 ≤ turnZ (atZ l i) (atZ l ((i + 1) % l.length)) p) : ∀ i, i ≤ l.length → 0 ≤ turnsZ l p i := by
  intro i
  induction i with
  | zero => intro _; simp [turnsZ]
  | succ i ih =>
    intro hi
    have := ih (by omega); have := h i (by omega)
    simp only [turnsZ]; omega
theorem sum_pos (l : List (Int × Int)) (hn : 3 ≤ l.length) (h : ∀ i, i < l.length → 0 ≤ turnZ (atZ l i) (atZ l ((i + 1) % l.length)) (atZ l 0)) (h2 : 0 < turnZ (atZ l (l.length - 2)) (atZ l (l.length - 1)) (atZ l 0)) : 0 < sumZ l l.length := by
  rw [← turns_all l (atZ l 0) (by omega)]
  obtain ⟨n, hl⟩ : ∃ n, l.length = n + 2 := ⟨l.length - 2, by omega⟩
  have e0 := turns_up l (atZ l 0) h n (by omega)
  have e1 := h (n + 1) (by omega)
  rw [hl, show n + 2 - 2 = n by omega, show n + 2 - 1 = n + 1 by omega] at h2
  rw [hl] at e1 ⊢
  show 0 < turnsZ l (atZ l 0) (n + 1) + turnZ (atZ l (n + 1)) (atZ l ((n + 1 + 1) % l.length)) (atZ l 0)
  have e2 : turnsZ l (atZ l 0) (n + 1) = turnsZ l (atZ l 0) n + turnZ (atZ l n) (atZ l ((n + 1) % l.length)) (atZ l 0) := rfl
  rw [hl, Nat.mod_eq_of_lt (show n + 1 < n + 2 by omega)] at e2
  rw [hl]
  omega

theorem convex_same (l : List (Int × Int)) (hn : 3 ≤ l.length) : convexB l = convexR l := by
  rw [Bool.eq_iff_iff]
  unfold convexB convexR
  rw [Bool.and_eq_true, List.all_eq_true, List.all_eq_true]
  constructor
  · intro h
    have h1 : ∀ i k, i < l.length → k < l.length → 0 ≤ turnZ (atZ l i) (atZ l ((i + 1) % l.length)) (atZ l k) := by
      intro i k hi hk
      have := h k (List.mem_range.2 hk)
      unfold cornerB insideB at this
      rw [Bool.and_eq_true, List.all_eq_true] at this
      have := this.1 i (List.mem_range.2 hi)
      unfold sideB at this
      exact of_decide_eq_true this
    have h2 : ∀ i, i < l.length → 0 < turnZ (atZ l i) (atZ l ((i + 1) % l.length)) (atZ l ((i + 2) % l.length)) := by
      intro i hi
      have := h i (List.mem_range.2 hi)
      unfold cornerB at this
      rw [Bool.and_eq_true] at this
      exact of_decide_eq_true this.2
    refine ⟨fun i hi => ?_, decide_eq_true (sum_pos l hn (fun i hi => h1 i 0 hi (by omega)) ?_)⟩
    · have hi := List.mem_range.1 hi
      unfold okR
      rw [Bool.and_eq_true, List.all_eq_true]
      exact ⟨decide_eq_true (h2 i hi), fun k hk => decide_eq_true (h1 i k hi (List.mem_range.1 hk))⟩
    · have := h2 (l.length - 2) (by omega)
      rwa [show l.length - 2 + 1 = l.length - 1 by omega, show l.length - 2 + 2 = l.length by omega, Nat.mod_self, Nat.mod_eq_of_lt (show l.length - 1 < l.length by omega)] at this
  · rintro ⟨h, -⟩ k hk
    have hk := List.mem_range.1 hk
    unfold cornerB insideB
    rw [Bool.and_eq_true, List.all_eq_true]
    refine ⟨fun i hi => ?_, ?_⟩
    · have := h i hi
      unfold okR at this
      rw [Bool.and_eq_true, List.all_eq_true] at this
      exact this.2 k (List.mem_range.2 hk)
    · have := h k (List.mem_range.2 hk)
      unfold okR at this
      rw [Bool.and_eq_true] at this
      exact this.1

/-- a valid area: as the code asks it, as the document does. -/
def areaB (l : List (Int × Int)) : Bool := decide (1 ≤ l.length ∧ l.length ≤ 12) && (l.all placeB && (if l.length = 1 then true else if l.length = 2 then decide (atZ l 0 ≠ atZ l 1) else convexB l))
def areaR (l : List (Int × Int)) : Bool := decide (1 ≤ l.length ∧ l.length ≤ 12) && (l.all placeB && (if l.length = 1 then true else if l.length = 2 then decide (atZ l 0 ≠ atZ l 1) else convexR l))
theorem area_same (l : List (Int × Int)) : areaB l = areaR l := by
  unfold areaB areaR
  by_cases h : 1 ≤ l.length ∧ l.length ≤ 12
  · rw [decide_eq_true h]
    by_cases h1 : l.length = 1
    · rw [if_pos h1, if_pos h1]
    · by_cases h2 : l.length = 2
      · rw [if_neg h1, if_neg h1, if_pos h2, if_pos h2]
      · rw [if_neg h1, if_neg h1, if_neg h2, if_neg h2, convex_same l (by omega)]
  · rw [decide_eq_false h]; rfl

/-- p is on the line between a and b. -/
def betweenB (a b p : Int × Int) : Bool := (turnZ a b p == 0) && (inB p.1 (min a.1 b.1) (max a.1 b.1) && inB p.2 (min a.2 b.2) (max a.2 b.2))
/-- an area has a place. -/
def hasB (l : List (Int × Int)) (p : Int × Int) : Bool := areaB l && (placeB p && (if l.length = 1 then decide (p = atZ l 0) else if l.length = 2 then betweenB (atZ l 0) (atZ l 1) p else insideB l p))
end Go.Proofs.YtjcaaejfokmolaaGreatDoor
