/- What the document's Mend finds (the first bit that makes a frame right) is what Mend answers. -/
import Derived.Test.YtjkjjolalbdhkaaGreatDoorRpRight
namespace Go.Proofs.YtjkjjolalbdhkaaGreatDoor
open Go.RowKit

theorem turnD_twice (d : Nat) (b : Bool × Nat × Nat) : turnD (turnD d b) b = d := by
  unfold turnD
  split
  · rfl
  · rw [Nat.xor_assoc, Nat.xor_self, Nat.xor_zero]
theorem turnC_twice (c : Nat) (b : Bool × Nat × Nat) : turnC (turnC c b) b = c := by
  unfold turnC
  split
  · rw [Nat.xor_assoc, Nat.xor_self, Nat.xor_zero]
  · rfl
theorem at_check : ∀ s : Fin 128, (checkP s.val || s.val == 0) = true → (bitT.any fun b => b.2.2 == s.val) = true := by decide +kernel
theorem at_data : ∀ s : Fin 128, (findP s.val).isSome = true → (bitT.any fun b => b.2.2 == s.val) = true := by decide +kernel

/-- a bit whose turning makes a frame right is the one that Mend mends. -/
theorem mend_found (d c : Nat) (b) (hd : d < 18446744073709551616) (hc : c < 256) (hb : b ∈ bitT) (h : RightF (turnD d b) (turnC c b)) : mendR d c = some (turnD d b, true) := by
  have hok := bitT_ok b hb
  have := mendR_one (turnD d b) (turnC c b) b (turnD_lt d b hd hok) (turnC_lt c b hc hok) h hok
  rwa [turnD_twice, turnC_twice] at this
/-- where no bit makes it right, and it is not, there is no signal. -/
theorem mend_lost (d c : Nat) (hd : d < 18446744073709551616) (hc : c < 256) (h : ¬ RightF d c) (hn : ∀ b ∈ bitT, ¬ RightF (turnD d b) (turnC c b)) : mendR d c = none := by
  have hs : synd d c < 128 := syndL_lt d c _
  have key : oddB d c = true → (bitT.any fun b => b.2.2 == synd d c) = false := by
    intro ho
    cases e : bitT.any fun b => b.2.2 == synd d c with
    | false => rfl
    | true =>
      obtain ⟨b, hb, hq⟩ := List.any_eq_true.1 e
      rw [beq_iff_eq] at hq
      have hok := bitT_ok b hb
      refine absurd ⟨?_, ?_⟩ (hn b hb)
      · rw [odd_turn d c b hd hc hok, ho]; rfl
      · rw [synd_turn d c b hc hok, hq, Nat.xor_self]
  unfold mendR
  cases ho : oddB d c with
  | false =>
    have hz : ¬ synd d c = 0 := fun e => h ⟨ho, e⟩
    rw [if_neg (by simp), if_neg hz]
  | true =>
    have hk := key ho
    rw [if_pos rfl]
    have h1 : ¬ (checkP (synd d c) || synd d c == 0) = true := fun e => by
      have := at_check ⟨synd d c, hs⟩ e
      rw [hk] at this; cases this
    rw [if_neg h1]
    cases hf : findP (synd d c) with
    | none => rfl
    | some b =>
      have := at_data ⟨synd d c, hs⟩ (by simp only [hf]; rfl)
      rw [hk] at this; cases this
end Go.Proofs.YtjkjjolalbdhkaaGreatDoor
