/- What a number of a line is. Plain mathematics. -/
import Derived.Test.YtoehcabplbljcaaGreatDoorRpName
import Derived.Lib.Atoi
namespace Go.Proofs.YtoehcabplbljcaaGreatDoor
open Go.RowKit

/-- has a part the form of a number? -/
def formL (p : List UInt8) : Bool := digitsL (Lib.trimPrefix p [45]) && decide ((Lib.trimPrefix p [45]).length ≤ 10) && !(p == [45, 48])
def valL (p : List UInt8) : Int := (Lib.atoi p).getD 0

theorem dec_some : ∀ (l : List UInt8) (acc : Nat), l.all digB = true → ∃ n, Lib.decFrom acc l = some n
  | [], acc, _ => ⟨acc, rfl⟩
  | c :: r, acc, h => by
    rw [List.all_cons, Bool.and_eq_true] at h
    have h1 : 48 ≤ c.toNat ∧ c.toNat ≤ 57 := by have := h.1; simp [digB] at this; omega
    unfold Lib.decFrom
    have : Lib.digitVal c = some (c.toNat - 48) := by unfold Lib.digitVal; rw [if_pos h1]
    rw [this]
    exact dec_some r _ h.2

theorem atoi_form (p : List UInt8) (h : formL p = true) : ∃ n, Lib.atoi p = some n := by
  unfold formL at h
  rw [Bool.and_eq_true, Bool.and_eq_true] at h
  obtain ⟨⟨h1, _⟩, _⟩ := h
  unfold digitsL at h1
  rw [Bool.and_eq_true] at h1
  obtain ⟨h2, h3⟩ := h1
  cases p with
  | nil => simp [Lib.trimPrefix, Lib.hasPrefix] at h3
  | cons c r =>
    by_cases hc : c = 45
    · subst hc
      have e1 : Lib.trimPrefix (45 :: r) [45] = r := by simp [Lib.trimPrefix, Lib.hasPrefix]
      rw [e1] at h2 h3
      obtain ⟨n, hn⟩ := dec_some r 0 h2
      have hne : r ≠ [] := by rintro rfl; simp at h3
      simp [Lib.atoi, Lib.decNat, hn, hne]
    · have e1 : Lib.trimPrefix (c :: r) [45] = c :: r := by
        simp [Lib.trimPrefix, Lib.hasPrefix]; intro e; exact absurd e.symm hc
      rw [e1] at h2 h3
      obtain ⟨n, hn⟩ := dec_some (c :: r) 0 h2
      have h43 : ¬ c = 43 := by
        rw [List.all_cons, Bool.and_eq_true] at h2
        rintro rfl
        have := h2.1; simp [digB] at this
      simp [Lib.atoi, Lib.decNat, hn, hc, h43]

theorem form_short (p : List UInt8) (h : formL p = true) : p.length ≤ 11 := by
  unfold formL at h
  rw [Bool.and_eq_true, Bool.and_eq_true] at h
  have h1 := of_decide_eq_true h.1.2
  have : p.length ≤ (Lib.trimPrefix p [45]).length + 1 := by
    unfold Lib.trimPrefix
    split
    · rw [List.length_drop]; simp only [List.length_cons, List.length_nil]; omega
    · omega
  omega
theorem atoi_val (p : List UInt8) (h : formL p = true) : Lib.atoi p = some (valL p) := by
  obtain ⟨n, hn⟩ := atoi_form p h
  rw [valL, hn]; rfl
end Go.Proofs.YtoehcabplbljcaaGreatDoor
