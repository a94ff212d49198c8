/- What turning a bit of a frame does to what Mend reckons. -/
import Derived.Test.YtjkjjolalbdhkaaGreatDoorRpMendKit
import Derived.Test.YtjkjjolalbdhkaaGreatDoorRpPopAll
namespace Go.Proofs.YtjkjjolalbdhkaaGreatDoor
open Go.RowKit

/-- the 72 bits: is it one of Check; which one; its position. -/
def entryB (p : Nat) : Bool × Nat × Nat := if checkP p then (true, Nat.log2 p, p) else (false, cntP p, p)
def bitT : List (Bool × Nat × Nat) := (List.range 71).map (fun i => entryB (i + 1)) ++ [(true, 7, 0)]
def BitOk (b : Bool × Nat × Nat) : Prop := if b.1 then b.2.1 < 8 ∧ b.2.2 = (if b.2.1 < 7 then 2 ^ b.2.1 else 0) else b.2.1 < 64 ∧ b.2.2 = posOf b.2.1
instance (b : Bool × Nat × Nat) : Decidable (BitOk b) := by unfold BitOk; infer_instance
theorem bitT_ok : ∀ b ∈ bitT, BitOk b := by decide +kernel
theorem bitT_len : bitT.length = 72 := by decide +kernel
theorem bitT_apart : ∀ i k : Fin 72, i ≠ k → ((bitT.getD i.val (true, 0, 0)).2.2 != (bitT.getD k.val (true, 0, 0)).2.2) = true := by decide +kernel

/-- a frame with a bit turned. -/
def turnD (d : Nat) (b : Bool × Nat × Nat) : Nat := if b.1 then d else d ^^^ 2 ^ b.2.1
def turnC (c : Nat) (b : Bool × Nat × Nat) : Nat := if b.1 then c ^^^ 2 ^ b.2.1 else c

theorem ones_flip : ∀ (b : Fin 256) (r : Fin 8), (Lib.onesCount (b.val ^^^ 2 ^ r.val) + Lib.onesCount b.val) % 2 = 1 := by decide +kernel
theorem pow_byte : ∀ (n : Fin 64) (i : Fin 8), byteN (2 ^ n.val) i.val = if i.val = n.val / 8 then 2 ^ (n.val % 8) else 0 := by decide +kernel
theorem byte_xor (x y i : Nat) : byteN (x ^^^ y) i = byteN x i ^^^ byteN y i := by
  unfold byteN
  have e : (256 : Nat) ^ i = 2 ^ (8 * i) := by rw [Nat.pow_mul]
  rw [e, ← Nat.shiftRight_eq_div_pow, Nat.shiftRight_xor_distrib, Nat.shiftRight_eq_div_pow, Nat.shiftRight_eq_div_pow]
  exact Nat.xor_mod_two_pow (n := 8)
theorem byte_turn (x : Nat) (n : Fin 64) (i : Fin 8) : byteN (x ^^^ 2 ^ n.val) i.val = if i.val = n.val / 8 then byteN x i.val ^^^ 2 ^ (n.val % 8) else byteN x i.val := by
  rw [byte_xor, pow_byte n i]
  split <;> simp
theorem ones_turn (x : Nat) (n : Fin 64) (i : Fin 8) : (Lib.onesCount (byteN (x ^^^ 2 ^ n.val) i.val) + Lib.onesCount (byteN x i.val)) % 2 = if i.val = n.val / 8 then 1 else 0 := by
  rw [byte_turn]
  split
  · exact ones_flip ⟨byteN x i.val, Nat.mod_lt _ (by omega)⟩ ⟨n.val % 8, Nat.mod_lt _ (by omega)⟩
  · omega
theorem pop_flip (x : Nat) (n : Fin 64) : (popN (x ^^^ 2 ^ n.val) + popN x) % 2 = 1 := by
  have h0 := ones_turn x n 0; have h1 := ones_turn x n 1; have h2 := ones_turn x n 2; have h3 := ones_turn x n 3
  have h4 := ones_turn x n 4; have h5 := ones_turn x n 5; have h6 := ones_turn x n 6; have h7 := ones_turn x n 7
  have hn : n.val / 8 < 8 := by have := n.2; omega
  unfold popN
  generalize hj : n.val / 8 = j at *
  simp only [show ((0 : Fin 8).val) = 0 from rfl, show ((1 : Fin 8).val) = 1 from rfl, show ((2 : Fin 8).val) = 2 from rfl, show ((3 : Fin 8).val) = 3 from rfl, show ((4 : Fin 8).val) = 4 from rfl, show ((5 : Fin 8).val) = 5 from rfl, show ((6 : Fin 8).val) = 6 from rfl, show ((7 : Fin 8).val) = 7 from rfl] at h0 h1 h2 h3 h4 h5 h6 h7
  clear hj
  generalize x ^^^ 2 ^ n.val = y at *
  generalize Lib.onesCount (byteN x 0) = a0 at *
  generalize Lib.onesCount (byteN x 1) = a1 at *
  generalize Lib.onesCount (byteN x 2) = a2 at *
  generalize Lib.onesCount (byteN x 3) = a3 at *
  generalize Lib.onesCount (byteN x 4) = a4 at *
  generalize Lib.onesCount (byteN x 5) = a5 at *
  generalize Lib.onesCount (byteN x 6) = a6 at *
  generalize Lib.onesCount (byteN x 7) = a7 at *
  generalize Lib.onesCount (byteN y 0) = b0 at *
  generalize Lib.onesCount (byteN y 1) = b1 at *
  generalize Lib.onesCount (byteN y 2) = b2 at *
  generalize Lib.onesCount (byteN y 3) = b3 at *
  generalize Lib.onesCount (byteN y 4) = b4 at *
  generalize Lib.onesCount (byteN y 5) = b5 at *
  generalize Lib.onesCount (byteN y 6) = b6 at *
  generalize Lib.onesCount (byteN y 7) = b7 at *
  obtain rfl | rfl | rfl | rfl | rfl | rfl | rfl | rfl : j = 0 ∨ j = 1 ∨ j = 2 ∨ j = 3 ∨ j = 4 ∨ j = 5 ∨ j = 6 ∨ j = 7 := by omega
  all_goals (simp at h0 h1 h2 h3 h4 h5 h6 h7; omega)

theorem odd_eq (d c : Nat) (hd : d < 18446744073709551616) : oddB d c = decide ((popN d + Lib.onesCount c) % 2 = 1) := by
  unfold oddB
  rw [swar_all d hd, Bool.eq_iff_iff, beq_iff_eq, decide_eq_true_eq]
  omega
theorem two_lt (n : Nat) (h : n < 64) : 2 ^ n < 18446744073709551616 := Nat.pow_lt_pow_right (a := 2) (m := n) (n := 64) (by omega) h
theorem turnD_lt (d : Nat) (b) (hd : d < 18446744073709551616) (hb : BitOk b) : turnD d b < 18446744073709551616 := by
  unfold turnD
  split
  · exact hd
  · next h =>
    unfold BitOk at hb
    rw [if_neg h] at hb
    exact Nat.xor_lt_two_pow (n := 64) hd (two_lt _ hb.1)
theorem turnC_lt (c : Nat) (b) (hc : c < 256) (hb : BitOk b) : turnC c b < 256 := by
  unfold turnC
  split
  · next h =>
    unfold BitOk at hb
    rw [if_pos h] at hb
    exact Nat.xor_lt_two_pow (n := 8) hc (Nat.pow_lt_pow_right (a := 2) (m := b.2.1) (n := 8) (by omega) hb.1)
  · exact hc
theorem odd_turn (d c : Nat) (b) (hd : d < 18446744073709551616) (hc : c < 256) (hb : BitOk b) : oddB (turnD d b) (turnC c b) = !oddB d c := by
  rw [odd_eq _ _ (turnD_lt d b hd hb), odd_eq _ _ hd]
  unfold turnD turnC
  unfold BitOk at hb
  by_cases h : b.1 = true
  · rw [if_pos h] at hb
    rw [if_pos h, if_pos h]
    have := ones_flip ⟨c, hc⟩ ⟨b.2.1, hb.1⟩
    simp only at this
    rw [Bool.eq_iff_iff, decide_eq_true_eq, Bool.not_eq_true', decide_eq_false_iff_not]
    omega
  · rw [if_neg h] at hb
    rw [if_neg h, if_neg h]
    have := pop_flip d ⟨b.2.1, hb.1⟩
    simp only at this
    rw [Bool.eq_iff_iff, decide_eq_true_eq, Bool.not_eq_true', decide_eq_false_iff_not]
    omega

theorem xor_mix (s t p : Nat) : s ^^^ t ^^^ p = s ^^^ p ^^^ t := by
  rw [Nat.xor_assoc, Nat.xor_comm t p, ← Nat.xor_assoc]
theorem xor_mix2 (s t p : Nat) : s ^^^ t = s ^^^ p ^^^ (t ^^^ p) := by
  rw [Nat.xor_comm t p, Nat.xor_assoc, ← Nat.xor_assoc p p t, Nat.xor_self, Nat.zero_xor]
def turnsL (k : Nat) (l : List (Fin 64)) (t : Nat) : Nat := l.foldl (fun s b => if b.val = k then s ^^^ posOf b.val else s) t
theorem fold_turn (d k : Nat) : ∀ (l : List (Fin 64)) (s t : Nat),
    l.foldl (fun s b => if (d ^^^ 2 ^ k).testBit b.val then s ^^^ posOf b.val else s) (s ^^^ t) = l.foldl (fun s b => if d.testBit b.val then s ^^^ posOf b.val else s) s ^^^ turnsL k l t := by
  intro l
  induction l with
  | nil => intro s t; rfl
  | cons b r ih =>
    intro s t
    unfold turnsL
    rw [List.foldl_cons, List.foldl_cons, List.foldl_cons, Nat.testBit_xor, Nat.testBit_two_pow]
    by_cases hk : b.val = k
    · rw [if_pos hk, show decide (k = b.val) = true from decide_eq_true hk.symm, Bool.xor_true]
      cases d.testBit b.val with
      | true =>
        rw [if_neg (by simp), if_pos rfl, xor_mix2 s t (posOf b.val)]
        exact ih _ _
      | false =>
        rw [if_pos (by simp), if_neg (by simp), Nat.xor_assoc]
        exact ih _ _
    · rw [if_neg hk, show decide (k = b.val) = false from decide_eq_false (fun e => hk e.symm), Bool.xor_false]
      cases d.testBit b.val with
      | true =>
        rw [if_pos rfl, if_pos rfl, xor_mix]
        exact ih _ _
      | false =>
        rw [if_neg (by simp), if_neg (by simp)]
        exact ih _ _
theorem turns_all : ∀ k : Fin 64, turnsL k.val (bitsTo 64) 0 = posOf k.val := by decide +kernel
theorem fold_shift (d : Nat) : ∀ (l : List (Fin 64)) (s t : Nat),
    l.foldl (fun s b => if d.testBit b.val then s ^^^ posOf b.val else s) (s ^^^ t) = l.foldl (fun s b => if d.testBit b.val then s ^^^ posOf b.val else s) s ^^^ t := by
  intro l
  induction l with
  | nil => intro s t; rfl
  | cons b r ih =>
    intro s t
    rw [List.foldl_cons, List.foldl_cons]
    cases d.testBit b.val with
    | true =>
      rw [if_pos rfl, if_pos rfl, xor_mix]
      exact ih _ _
    | false =>
      rw [if_neg (by simp), if_neg (by simp)]
      exact ih _ _
theorem check_low : ∀ (c : Fin 256) (n : Fin 8), (c.val ^^^ 2 ^ n.val) % 128 = (c.val % 128) ^^^ (if n.val < 7 then 2 ^ n.val else 0) := by decide +kernel
theorem synd_turn (d c : Nat) (b) (hc : c < 256) (hb : BitOk b) : synd (turnD d b) (turnC c b) = synd d c ^^^ b.2.2 := by
  unfold turnD turnC
  unfold BitOk at hb
  by_cases h : b.1 = true
  · rw [if_pos h] at hb
    rw [if_pos h, if_pos h, hb.2]
    unfold synd syndL
    have := check_low ⟨c, hc⟩ ⟨b.2.1, hb.1⟩
    simp only at this
    rw [this]
    exact fold_shift d _ _ _
  · rw [if_neg h] at hb
    rw [if_neg h, if_neg h, hb.2]
    unfold synd syndL
    have := fold_turn d b.2.1 (bitsTo 64) (c % 128) 0
    rw [Nat.xor_zero, turns_all ⟨b.2.1, hb.1⟩] at this
    exact this

theorem xor_eq0 {a b : Nat} (h : a ^^^ b = 0) : a = b := by
  have h1 : (a ^^^ b) ^^^ b = a := by rw [Nat.xor_assoc, Nat.xor_self, Nat.xor_zero]
  rw [← h1, h, Nat.zero_xor]
theorem synd_zero (d c : Nat) : synd d c = synd d 0 ^^^ (c % 128) := by
  unfold synd syndL
  have := fold_shift d (bitsTo 64) 0 (c % 128)
  rw [Nat.zero_xor] at this
  exact this
theorem pos_facts : ∀ n : Fin 64, findP (posOf n.val) = some n ∧ checkP (posOf n.val) = false ∧ (posOf n.val == 0) = false := by decide +kernel
theorem pow_check : ∀ n : Fin 7, checkP (2 ^ n.val) = true := by decide +kernel
theorem or_flip : ∀ s : Fin 128, s.val ||| 128 = s.val ^^^ 2 ^ 7 := by decide +kernel

/-- a frame that is right. -/
def RightF (d c : Nat) : Prop := oddB d c = false ∧ synd d c = 0
theorem pack_right (d : Nat) (hd : d < 18446744073709551616) : RightF d (packC d) ∧ packC d < 256 := by
  have hs := synd_lt d 0
  have h1 : synd d (synd d 0) = 0 := by rw [synd_zero, Nat.mod_eq_of_lt hs, Nat.xor_self]
  have ht := synd_turn d (synd d 0) (true, 7, 0) (by omega) (by decide)
  have ho := odd_turn d (synd d 0) (true, 7, 0) hd (by omega) (by decide)
  have hl := turnC_lt (synd d 0) (true, 7, 0) (by omega) (by decide)
  simp only [turnD, turnC, if_true] at ht ho hl
  rw [← or_flip ⟨synd d 0, hs⟩] at ht ho hl
  simp only [Nat.xor_zero] at ht
  unfold packC
  cases e : oddB d (synd d 0) with
  | true =>
    rw [if_pos rfl]
    rw [e] at ho
    exact ⟨⟨ho, ht.trans h1⟩, hl⟩
  | false =>
    rw [if_neg (by simp)]
    exact ⟨⟨e, h1⟩, by omega⟩
theorem mendR_right (d c : Nat) (h : RightF d c) : mendR d c = some (d, false) := by
  unfold mendR
  rw [h.1, h.2]
  rfl
theorem mendR_one (d c : Nat) (b) (hd : d < 18446744073709551616) (hc : c < 256) (h : RightF d c) (hb : BitOk b) : mendR (turnD d b) (turnC c b) = some (d, true) := by
  have hs := synd_turn d c b hc hb
  have ho := odd_turn d c b hd hc hb
  rw [h.1] at ho
  rw [h.2, Nat.zero_xor] at hs
  unfold mendR
  rw [ho, hs]
  simp only [Bool.not_false, if_true]
  unfold BitOk at hb
  by_cases e : b.1 = true
  · rw [if_pos e] at hb
    have e2 : (checkP b.2.2 || b.2.2 == 0) = true := by
      rw [hb.2]
      by_cases h7 : b.2.1 < 7
      · rw [if_pos h7, pow_check ⟨b.2.1, h7⟩]; rfl
      · rw [if_neg h7]; rfl
    rw [if_pos e2]
    unfold turnD
    rw [if_pos e]
  · rw [if_neg e] at hb
    obtain ⟨p1, p2, p3⟩ := pos_facts ⟨b.2.1, hb.1⟩
    simp only at p1 p2 p3
    rw [hb.2, p1, p2, p3]
    simp only [Bool.or_self, Bool.false_eq_true, if_false]
    unfold turnD
    rw [if_neg e, Nat.xor_assoc, Nat.xor_self, Nat.xor_zero]
theorem mendR_two (d c : Nat) (b b') (hd : d < 18446744073709551616) (hc : c < 256) (h : RightF d c) (hb : BitOk b) (hb' : BitOk b') (hne : b.2.2 ≠ b'.2.2) : mendR (turnD (turnD d b) b') (turnC (turnC c b) b') = none := by
  have hs := synd_turn (turnD d b) (turnC c b) b' (turnC_lt c b hc hb) hb'
  have ho := odd_turn (turnD d b) (turnC c b) b' (turnD_lt d b hd hb) (turnC_lt c b hc hb) hb'
  rw [odd_turn d c b hd hc hb, h.1] at ho
  rw [synd_turn d c b hc hb, h.2, Nat.zero_xor] at hs
  have hz : b.2.2 ^^^ b'.2.2 ≠ 0 := fun e => hne (xor_eq0 e)
  unfold mendR
  rw [ho, hs]
  simp only [Bool.not_false, Bool.not_true, Bool.false_eq_true, if_false, if_neg hz]

theorem back_of (x : Int) (h : -8192 ≤ x ∧ x ≤ 8191) (d k : Nat) (hk : d / k % 16384 = (x % 16384).toNat) : backZ (d / k) = x := by
  unfold backZ
  rw [hk]
  split <;> omega
theorem sig_data (o x y b f : Int) (h1 : 0 ≤ o ∧ o ≤ 268435455) (h2 : -8192 ≤ x ∧ x ≤ 8191) (h3 : -8192 ≤ y ∧ y ≤ 8191) (h4 : 0 ≤ b ∧ b ≤ 15) (h5 : 0 ≤ f ∧ f ≤ 15) :
    sigV (dataN o x y b f) = .agg #[.int .i64 o, .int .i64 x, .int .i64 y, .int .i64 b, .int .i64 f] := by
  have e2 := back_of x h2 (dataN o x y b f) 268435456 (by unfold dataN; omega)
  have e3 := back_of y h3 (dataN o x y b f) 4398046511104 (by unfold dataN; omega)
  have e1 : ((dataN o x y b f % 268435456 : Nat) : Int) = o := by unfold dataN; omega
  have e4 : ((dataN o x y b f / 72057594037927936 % 16 : Nat) : Int) = b := by unfold dataN; omega
  have e5 : ((dataN o x y b f / 1152921504606846976 % 16 : Nat) : Int) = f := by unfold dataN; omega
  unfold sigV
  rw [e1, e2, e3, e4, e5]
end Go.Proofs.YtjkjjolalbdhkaaGreatDoor
