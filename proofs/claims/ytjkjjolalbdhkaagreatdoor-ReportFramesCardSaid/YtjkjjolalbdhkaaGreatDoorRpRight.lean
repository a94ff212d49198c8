/- A right frame, bit by bit (the document's words), is one whose positions give 0 and whose ones are even. -/
import Derived.Test.YtjkjjolalbdhkaaGreatDoorRpFlip
namespace Go.Proofs.YtjkjjolalbdhkaaGreatDoor
open Go.RowKit

/-- is a bit of a frame 1? -/
def onB (d c : Nat) (b : Bool × Nat × Nat) : Bool := if b.1 then c.testBit b.2.1 else d.testBit b.2.1

theorem bits_ind {Q : Nat → Prop} (h0 : Q 0) : ∀ n : Nat, (∀ x i, i < n → x < 2 ^ i → Q x → Q (x ^^^ 2 ^ i)) → ∀ x, x < 2 ^ n → Q x := by
  intro n
  induction n with
  | zero => intro _ x hx; have : x = 0 := by simpa using hx
            rw [this]; exact h0
  | succ n ih =>
    intro hs x hx
    by_cases h : x < 2 ^ n
    · exact ih (fun y i hi => hs y i (by omega)) x h
    · have hlow : x % 2 ^ n < 2 ^ n := Nat.mod_lt _ (Nat.two_pow_pos n)
      have hq : Q (x % 2 ^ n) := ih (fun y i hi => hs y i (by omega)) _ hlow
      have e : x % 2 ^ n ^^^ 2 ^ n = x := by
        have hd : x / 2 ^ n = 1 := by
          have : 2 ^ (n + 1) = 2 ^ n * 2 := Nat.pow_succ 2 n
          refine (Nat.div_eq_iff (Nat.two_pow_pos n)).2 ⟨?_, ?_⟩ <;> omega
        have h1 : x = 2 ^ n * 1 + x % 2 ^ n := by rw [← hd]; exact (Nat.div_add_mod x (2 ^ n)).symm
        apply Nat.eq_of_testBit_eq
        intro j
        rw [Nat.testBit_xor, Nat.testBit_two_pow, Nat.testBit_mod_two_pow]
        by_cases hj : j < n
        · simp [hj, show n ≠ j by omega]
        · by_cases hjn : j = n
          · subst hjn
            have : x.testBit j = true := by rw [Nat.testBit_eq_decide_div_mod_eq, hd]; rfl
            simp [this]
          · have : x.testBit j = false := Nat.testBit_lt_two_pow (Nat.lt_of_lt_of_le hx (Nat.pow_le_pow_right (by omega) (by omega)))
            simp [this, hj, show n ≠ j by omega]
      rw [← e]
      exact hs _ n (by omega) hlow hq

theorem data_in : ∀ i : Fin 64, (false, i.val, posOf i.val) ∈ bitT := by decide +kernel
theorem check_in : ∀ i : Fin 8, (true, i.val, if i.val < 7 then 2 ^ i.val else 0) ∈ bitT := by decide +kernel

/-- every frame comes of the frame of zeros by turning bits. -/
theorem reach {P : Nat → Nat → Prop} (h0 : P 0 0) (hs : ∀ d c b, d < 18446744073709551616 → c < 256 → b ∈ bitT → P d c → P (turnD d b) (turnC c b)) (d c : Nat) (hd : d < 18446744073709551616) (hc : c < 256) : P d c := by
  have h1 : ∀ x, x < 2 ^ 64 → P x 0 := bits_ind (Q := fun x => P x 0) h0 64 fun x i hi hx hq => by
    have := hs x 0 (false, i, posOf i) (Nat.lt_trans hx (two_lt i hi)) (by omega) (data_in ⟨i, hi⟩) hq
    simpa [turnD, turnC] using this
  have h2 : ∀ y, y < 2 ^ 8 → P d y := bits_ind (Q := fun y => P d y) (h1 d hd) 8 fun y i hi hy hq => by
    have hy2 : y < 256 := Nat.lt_trans hy (Nat.pow_lt_pow_right (a := 2) (m := i) (n := 8) (by omega) hi)
    have := hs d y (true, i, if i < 7 then 2 ^ i else 0) hd hy2 (check_in ⟨i, hi⟩) hq
    simpa [turnD, turnC] using this
  exact h2 c hc

theorem same_bit : ∀ i k : Fin 72, (bitT.getD i.val (true, 0, 0)).1 = (bitT.getD k.val (true, 0, 0)).1 → (bitT.getD i.val (true, 0, 0)).2.1 = (bitT.getD k.val (true, 0, 0)).2.1 → i = k := by decide +kernel
theorem same_bit' {b b' : Bool × Nat × Nat} (h : b ∈ bitT) (h' : b' ∈ bitT) (h1 : b.1 = b'.1) (h2 : b.2.1 = b'.2.1) : b = b' := by
  obtain ⟨i, hi, e⟩ := List.mem_iff_getElem.1 h
  obtain ⟨k, hk, e'⟩ := List.mem_iff_getElem.1 h'
  have hi72 : i < 72 := by rw [← bitT_len]; exact hi
  have hk72 : k < 72 := by rw [← bitT_len]; exact hk
  have g : bitT.getD i (true, 0, 0) = b := by rw [List.getD_eq_getElem?_getD, List.getElem?_eq_getElem hi, e]; rfl
  have g' : bitT.getD k (true, 0, 0) = b' := by rw [List.getD_eq_getElem?_getD, List.getElem?_eq_getElem hk, e']; rfl
  have := same_bit ⟨i, hi72⟩ ⟨k, hk72⟩ (by simp only [g, g']; exact h1) (by simp only [g, g']; exact h2)
  have hik : i = k := by simpa using this
  rw [← g, ← g', hik]
theorem on_turn (d c : Nat) {b b' : Bool × Nat × Nat} (h : b ∈ bitT) (h' : b' ∈ bitT) : onB (turnD d b) (turnC c b) b' = (onB d c b' ^^ decide (b' = b)) := by
  have hb : b' = b ↔ b.1 = b'.1 ∧ b.2.1 = b'.2.1 := ⟨fun e => by rw [e]; exact ⟨rfl, rfl⟩, fun e => (same_bit' h h' e.1 e.2).symm⟩
  unfold onB turnD turnC
  cases e : b.1 <;> cases e' : b'.1 <;> simp only [Bool.false_eq_true, if_false, if_true] <;> (first | rw [Nat.testBit_xor, Nat.testBit_two_pow] | skip) <;> (congr 1; try (rw [decide_eq_decide, hb, e, e']; simp))
  all_goals (rw [show decide (b' = b) = false from decide_eq_false (by rw [hb, e, e']; simp), Bool.xor_false])

theorem bitT_nodup : bitT.Nodup := by decide +kernel
theorem count_flip {α : Type} [DecidableEq α] {p p' g : α → Bool} {b : α} : ∀ l : List α, l.Nodup → (∀ x ∈ l, p' x = (p x ^^ (g x && decide (x = b)))) → (l.countP p' + l.countP p) % 2 = if b ∈ l ∧ g b = true then 1 else 0 := by
  intro l
  induction l with
  | nil => intro _ _; simp
  | cons a r ih =>
    intro hn hp
    obtain ⟨ha, hr⟩ := List.nodup_cons.1 hn
    have i := ih hr (fun x hx => hp x (List.mem_cons_of_mem _ hx))
    have hpa := hp a (List.mem_cons_self ..)
    rw [List.countP_cons, List.countP_cons, hpa]
    by_cases hab : a = b
    · subst hab
      rw [if_neg (fun h => ha h.1)] at i
      cases hg : g a <;> cases hpp : p a <;> simp [hg] <;> omega
    · have hmem : (b ∈ a :: r ∧ g b = true) ↔ (b ∈ r ∧ g b = true) := by simp [Ne.symm hab]
      simp only [hmem, hab, decide_false, Bool.and_false, Bool.xor_false]
      by_cases hh : b ∈ r ∧ g b = true
      · rw [if_pos hh] at i ⊢
        cases p a <;> simp <;> omega
      · rw [if_neg hh] at i ⊢
        cases p a <;> simp <;> omega

/-- how many of a frame's ones have a position with the bit k; how many ones there are. -/
def cntK (d c k : Nat) : Nat := bitT.countP fun b => b.2.2.testBit k && onB d c b
def cntA (d c : Nat) : Nat := bitT.countP fun b => onB d c b
theorem cnt_none : (∀ k : Fin 7, cntK 0 0 k.val = 0) ∧ cntA 0 0 = 0 ∧ synd 0 0 = 0 ∧ oddB 0 0 = false := by decide +kernel
theorem cnt_right (d c : Nat) (hd : d < 18446744073709551616) (hc : c < 256) : (∀ k, k < 7 → decide (cntK d c k % 2 = 1) = (synd d c).testBit k) ∧ decide (cntA d c % 2 = 1) = oddB d c := by
  refine reach (P := fun d c => (∀ k, k < 7 → decide (cntK d c k % 2 = 1) = (synd d c).testBit k) ∧ decide (cntA d c % 2 = 1) = oddB d c) ?_ ?_ d c hd hc
  · obtain ⟨h1, h2, h3, h4⟩ := cnt_none
    refine ⟨fun k hk => ?_, ?_⟩
    · rw [h3, show cntK 0 0 k = 0 from h1 ⟨k, hk⟩]; simp
    · rw [h2, h4]; rfl
  · rintro d c b hd hc hb ⟨h1, h2⟩
    have hok := bitT_ok b hb
    refine ⟨fun k hk => ?_, ?_⟩
    · have hf := count_flip (p := fun x => x.2.2.testBit k && onB d c x) (p' := fun x => x.2.2.testBit k && onB (turnD d b) (turnC c b) x) (g := fun x => x.2.2.testBit k) (b := b) bitT bitT_nodup (fun x hx => by
        simp only [on_turn d c hb hx]
        cases x.2.2.testBit k <;> simp)
      rw [synd_turn d c b hc hok, Nat.testBit_xor, ← h1 k hk]
      have e1 : cntK (turnD d b) (turnC c b) k = bitT.countP (fun x => x.2.2.testBit k && onB (turnD d b) (turnC c b) x) := rfl
      have e2 : cntK d c k = bitT.countP (fun x => x.2.2.testBit k && onB d c x) := rfl
      rw [← e1, ← e2] at hf
      cases hb2 : b.2.2.testBit k with
      | true =>
        rw [if_pos ⟨hb, hb2⟩] at hf
        rw [Bool.xor_true, Bool.eq_iff_iff, decide_eq_true_eq, Bool.not_eq_true', decide_eq_false_iff_not]
        omega
      | false =>
        rw [if_neg (fun h => by rw [hb2] at h; exact absurd h.2 (by simp))] at hf
        rw [Bool.xor_false, decide_eq_decide]
        omega
    · have hf := count_flip (p := fun x => onB d c x) (p' := fun x => onB (turnD d b) (turnC c b) x) (g := fun _ => true) (b := b) bitT bitT_nodup (fun x hx => by simp only [on_turn d c hb hx, Bool.true_and])
      rw [if_pos ⟨hb, rfl⟩] at hf
      have e1 : cntA (turnD d b) (turnC c b) = bitT.countP (fun x => onB (turnD d b) (turnC c b) x) := rfl
      have e2 : cntA d c = bitT.countP (fun x => onB d c x) := rfl
      rw [← e1, ← e2] at hf
      rw [odd_turn d c b hd hc hok, ← h2, Bool.eq_iff_iff, decide_eq_true_eq, Bool.not_eq_true', decide_eq_false_iff_not]
      omega

/-- the document's right frame, as the reference reckons it. -/
def rightL (d c : Nat) : Bool := (List.range 7).all (fun k => cntK d c k % 2 != 1) && cntA d c % 2 == 0
theorem right_is (d c : Nat) (hd : d < 18446744073709551616) (hc : c < 256) : rightL d c = true ↔ RightF d c := by
  obtain ⟨h1, h2⟩ := cnt_right d c hd hc
  have hs : synd d c < 128 := syndL_lt d c _
  unfold rightL RightF
  rw [Bool.and_eq_true, List.all_eq_true, beq_iff_eq, ← h2, decide_eq_false_iff_not, And.comm]
  have hz : (∀ x ∈ List.range 7, (cntK d c x % 2 != 1) = true) ↔ synd d c = 0 := by
    constructor
    · intro h
      apply Nat.eq_of_testBit_eq
      intro j
      rw [Nat.zero_testBit]
      by_cases hj : j < 7
      · rw [← h1 j hj, decide_eq_false_iff_not]
        have := h j (List.mem_range.2 hj)
        simpa using this
      · exact Nat.testBit_lt_two_pow (Nat.lt_of_lt_of_le hs (Nat.pow_le_pow_right (n := 2) (i := 7) (by omega) (by omega)))
    · intro h k hk
      have := h1 k (List.mem_range.1 hk)
      rw [h, Nat.zero_testBit, decide_eq_false_iff_not] at this
      simpa using this
  rw [hz]
  constructor
  · rintro ⟨a, b⟩; exact ⟨by omega, b⟩
  · rintro ⟨a, b⟩; exact ⟨by omega, b⟩

theorem flip7_all : ∀ c x : Fin 256, c.val % 128 = x.val % 128 → c.val / 128 ≠ x.val / 128 → x.val = c.val ^^^ 2 ^ 7 := by decide +kernel
theorem flip7 (c x : Nat) (hc : c < 256) (hx : x < 256) (h : c % 128 = x % 128) (h2 : ¬ c / 128 = x / 128) : x = c ^^^ 2 ^ 7 := flip7_all ⟨c, hc⟩ ⟨x, hx⟩ h h2
/-- one check makes data right. -/
theorem right_one (d c : Nat) (hd : d < 18446744073709551616) (hc : c < 256) (h : RightF d c) : c = packC d := by
  obtain ⟨⟨p1, p2⟩, p3⟩ := pack_right d hd
  obtain ⟨q1, q2⟩ := h
  have e1 : synd d 0 = c % 128 := xor_eq0 (by rw [← synd_zero]; exact q2)
  have e2 : synd d 0 = packC d % 128 := xor_eq0 (by rw [← synd_zero]; exact p2)
  have e3 : c % 128 = packC d % 128 := by rw [← e1, e2]
  rw [odd_eq _ _ hd, decide_eq_false_iff_not] at p1 q1
  by_cases hh : c / 128 = packC d / 128
  · omega
  · exfalso
    generalize packC d = x at p1 p3 e3 hh
    have hx : x = c ^^^ 2 ^ 7 := flip7 c x hc p3 e3 hh
    have := ones_flip ⟨c, hc⟩ ⟨7, by omega⟩
    simp only at this
    rw [← hx] at this
    omega
end Go.Proofs.YtjkjjolalbdhkaaGreatDoor
