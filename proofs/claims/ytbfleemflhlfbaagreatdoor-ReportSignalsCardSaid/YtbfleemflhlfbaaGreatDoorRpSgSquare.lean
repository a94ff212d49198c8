/- A beacon's square is a valid area, and has its places; its report is valid. -/
import Derived.Test.YtbfleemflhlfbaaGreatDoorRpSgItoa
import Derived.Test.YtbfleemflhlfbaaGreatDoorRpHas
import Derived.Test.YtbfleemflhlfbaaGreatDoorRpSgRef
namespace Go.Proofs.YtbfleemflhlfbaaGreatDoor
open Go.RowKit

theorem square_in {X Y : Int} {p : Int × Int} (h1 : X ≤ p.1 ∧ p.1 ≤ X + 1024) (h2 : Y ≤ p.2 ∧ p.2 ≤ Y + 1024) : insideB (squareL X Y) p = true := by
  refine range_all_true fun j hj => decide_eq_true ?_
  match j, hj with
  | 0, _ => simp [squareL, atZ, turnZ, crossZ, fromZ]; omega
  | 1, _ => simp [squareL, atZ, turnZ, crossZ, fromZ]; omega
  | 2, _ => simp [squareL, atZ, turnZ, crossZ, fromZ]; omega
  | 3, _ => simp [squareL, atZ, turnZ, crossZ, fromZ]; omega
  | j + 4, hj => exact absurd hj (by simp [squareL])
theorem square_convex (X Y : Int) : convexB (squareL X Y) = true := by
  have e1 : X + 1024 - X = 1024 := by omega
  have e2 : X - (X + 1024) = -1024 := by omega
  have e3 : Y + 1024 - Y = 1024 := by omega
  have e4 : Y - (Y + 1024) = -1024 := by omega
  refine range_all_true fun j hj => ?_
  unfold cornerB
  rw [Bool.and_eq_true]
  match j, hj with
  | 0, _ => exact ⟨square_in (by simp [squareL, atZ]; try omega) (by simp [squareL, atZ]; try omega), decide_eq_true (by simp [squareL, atZ, turnZ, crossZ, fromZ, e1, e2, e3, e4])⟩
  | 1, _ => exact ⟨square_in (by simp [squareL, atZ]; try omega) (by simp [squareL, atZ]; try omega), decide_eq_true (by simp [squareL, atZ, turnZ, crossZ, fromZ, e1, e2, e3, e4])⟩
  | 2, _ => exact ⟨square_in (by simp [squareL, atZ]; try omega) (by simp [squareL, atZ]; try omega), decide_eq_true (by simp [squareL, atZ, turnZ, crossZ, fromZ, e1, e2, e3, e4])⟩
  | 3, _ => exact ⟨square_in (by simp [squareL, atZ]; try omega) (by simp [squareL, atZ]; try omega), decide_eq_true (by simp [squareL, atZ, turnZ, crossZ, fromZ, e1, e2, e3, e4])⟩
  | j + 4, hj => exact absurd hj (by simp [squareL])
theorem square_area_ok {X Y : Int} (hX : -8388608 ≤ X ∧ X ≤ 8387584) (hY : -8388608 ≤ Y ∧ Y ≤ 8387584) : areaB (squareL X Y) = true := by
  have hp : (squareL X Y).all placeB = true := by
    simp only [squareL, List.all_cons, List.all_nil, placeB, inB, Bool.and_true, Bool.and_eq_true, decide_eq_true_eq]
    omega
  unfold areaB
  rw [hp, square_convex, decide_eq_true (by simp [squareL])]
  rfl
theorem square_has {X Y : Int} {p : Int × Int} (hX : -8388608 ≤ X ∧ X ≤ 8387584) (hY : -8388608 ≤ Y ∧ Y ≤ 8387584) (h1 : X ≤ p.1 ∧ p.1 ≤ X + 1024) (h2 : Y ≤ p.2 ∧ p.2 ≤ Y + 1024) : hasB (squareL X Y) p = true := by
  have hp : placeB p = true := by
    simp only [placeB, inB, Bool.and_eq_true, decide_eq_true_eq]; omega
  rw [has_in (square_area_ok hX hY) hp, if_neg (by simp [squareL]), if_neg (by simp [squareL])]
  exact square_in h1 h2

theorem digits_all : ∀ N : Nat, (Lib.decDigits N).all digB = true := by
  intro N
  induction N using Nat.strongRecOn with
  | ind N ih =>
    rw [dig_step]
    have hd : ∀ d, d < 10 → digB (UInt8.ofNat (48 + d)) = true := by
      intro d hd
      refine decide_eq_true ?_
      rw [UInt8.toNat_ofNat']; omega
    split
    · rename_i h; rw [List.all_cons, hd N h]; rfl
    · rename_i h
      rw [List.all_append, ih (N / 10) (by omega)]
      rw [List.all_cons, hd (N % 10) (by omega)]; rfl
/-- what a beacon's report is about is a name. -/
theorem beacon_name (N : Nat) (hN : N < 18446744073709551616) : nameL ((⟨#[98]⟩ : ByteArray) ++ ⟨(Lib.decDigits N).toArray⟩).data.toList = true := by
  have e : ((⟨#[98]⟩ : ByteArray) ++ ⟨(Lib.decDigits N).toArray⟩).data.toList = 98 :: Lib.decDigits N := by simp
  rw [e]
  unfold nameL
  have hl : (Lib.decDigits N).length ≤ 20 := by rw [Lib.decDigits_length]; exact Lib.nDigits_le20 N hN
  rw [decide_eq_true (by simp; omega)]
  have h2 : (Lib.decDigits N).all nameC = true := by
    rw [List.all_eq_true]
    intro c hc
    have := List.all_eq_true.1 (digits_all N) c hc
    unfold nameC; rw [this]; simp
  simp [h2, nameC, letB]
end Go.Proofs.YtbfleemflhlfbaaGreatDoor
