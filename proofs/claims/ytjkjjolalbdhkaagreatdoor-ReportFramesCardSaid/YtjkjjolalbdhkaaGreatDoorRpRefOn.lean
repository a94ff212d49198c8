/- The document's on, back, signal. -/
import Derived.Test.YtjkjjolalbdhkaaGreatDoorRpWords
import Derived.Test.YtjkjjolalbdhkaaGreatDoorRpMendRef
namespace Go.Proofs.YtjkjjolalbdhkaaGreatDoor
open Go.RowKit

theorem bit_of8 (c x : Nat) (hc : c < 256) : (bits .and .u8 ((c : Int) / 2 ^ x) 1 == 1) = c.testBit x := by
  have e : ((c : Int) / 2 ^ x) = ((c / 2 ^ x : Nat) : Int) := by rw [Int.natCast_ediv]; norm_cast
  rw [e, show (1 : Int) = ((1 : Nat) : Int) from rfl, u8_and_nat _ _ (Nat.lt_of_le_of_lt (Nat.div_le_self _ _) hc) (by omega), Nat.testBit_eq_decide_div_mod_eq, Nat.and_one_is_mod]
  rw [Bool.eq_iff_iff, beq_iff_eq, decide_eq_true_eq]
  omega

set_option maxRecDepth 100000 in
set_option maxHeartbeats 1000000 in
theorem refOn_any (d c : Nat) (b : Bool × Nat × Nat) (hd : d < 18446744073709551616) (hc : c < 256) (hok : BitOk b) (w : World) :
    Calls Tryz.prog 27 #[.agg #[.int .u64 d, .int .u8 c], .agg #[.bool b.1, .int .i64 b.2.1, .int .i64 b.2.2]] w fun e w' => e = .returned (.bool (onB d c b)) ∧ Below w.heap.size w w' := by
  obtain ⟨q, n, a⟩ := b
  unfold BitOk at hok
  cases q with
  | true =>
    have hn : n < 8 := hok.1
    have hb := bit_of8 c n hc
    have HT : Hid (onB d c (true, n, a) = c.testBit n) := Lib.hid rfl
    rw [HT.out]
    generalize c.testBit n = t at hb ⊢
    clear hok HT
    cases t <;> (
      go_enter Tryz.func27, Tryz.ntmps27
      go_wp2
      go_ret
      exact ⟨rfl, ((Below.refl _ _).alloc (Nat.le_refl _) _).alloc (by simp) _⟩)
  | false =>
    have hn : n < 64 := hok.1
    have hb := bit_of d n hd
    have HT : Hid (onB d c (false, n, a) = d.testBit n) := Lib.hid rfl
    rw [HT.out]
    generalize d.testBit n = t at hb ⊢
    clear hok HT
    cases t <;> (
      go_enter Tryz.func27, Tryz.ntmps27
      go_wp2
      go_ret
      exact ⟨rfl, ((Below.refl _ _).alloc (Nat.le_refl _) _).alloc (by simp) _⟩)

/-- 14 bits in two's complement, from the number below 2^14. -/
def backN (m : Nat) : Int := if m < 8192 then m else m - 16384
theorem backN_eq (d : Nat) : backN (d % 16384) = backZ d := by
  unfold backN backZ; split <;> omega
set_option maxRecDepth 100000 in
set_option maxHeartbeats 400000 in
theorem refBack_any (m : Nat) (hm : m < 16384) (w : World) :
    Calls Tryz.prog 31 #[.int .i64 m] w fun e w' => e = .returned (.int .i64 (backN m)) ∧ w = w' := by
  by_cases h : m < 8192
  · have e : Hid (backN m = m) := Lib.hid (if_pos h)
    rw [e.out]
    go_enter Tryz.func31, Tryz.ntmps31
    go_wp2
    go_ret
    exact ⟨rfl, rfl⟩
  · have e : Hid (backN m = (m : Int) - 16384) := Lib.hid (if_neg h)
    rw [e.out]
    go_enter Tryz.func31, Tryz.ntmps31
    go_wp2
    go_ret
    exact ⟨rfl, rfl⟩

set_option maxRecDepth 100000 in
set_option maxHeartbeats 2000000 in
theorem refSignalOf_any (d c : Nat) (hd : d < 18446744073709551616) (w : World) :
    Calls Tryz.prog 18 #[.agg #[.int .u64 d, .int .u8 c]] w fun e w' => e = .returned (sigV d) ∧ Below w.heap.size w w' := by
  obtain ⟨m1, h1⟩ : ∃ m, m = d / 268435456 % 16384 := ⟨_, rfl⟩
  obtain ⟨m2, h2⟩ : ∃ m, m = d / 4398046511104 % 16384 := ⟨_, rfl⟩
  obtain ⟨o, ho⟩ : ∃ o, o = d % 268435456 := ⟨_, rfl⟩
  obtain ⟨b, hb⟩ : ∃ b, b = d / 72057594037927936 % 16 := ⟨_, rfl⟩
  obtain ⟨f, hf⟩ : ∃ f, f = d / 1152921504606846976 := ⟨_, rfl⟩
  have l1 : m1 < 16384 := by omega
  have l2 : m2 < 16384 := by omega
  have l3 : o < 268435456 := by omega
  have l4 : b < 16 := by omega
  have l5 : f < 16 := by omega
  have HV : Hid (sigV d = .agg #[.int .i64 o, .int .i64 (backN m1), .int .i64 (backN m2), .int .i64 b, .int .i64 f]) := Lib.hid (by
    rw [h1, h2, ho, hb, backN_eq, backN_eq]
    have : d / 1152921504606846976 % 16 = f := by omega
    unfold sigV
    rw [this])
  have s1 := Lib.hid fun W => refBack_any m1 l1 W
  have s2 := Lib.hid fun W => refBack_any m2 l2 W
  have e1 : (d : Int) / 268435456 % 16384 = (m1 : Int) := by omega
  have e2 : (d : Int) / 4398046511104 % 16384 = (m2 : Int) := by omega
  have e3 : (d : Int) % 268435456 = (o : Int) := by omega
  have e4 : (d : Int) / 72057594037927936 % 16 = (b : Int) := by omega
  have e5 : (d : Int) / 1152921504606846976 = (f : Int) := by omega
  rw [HV.out]
  obtain ⟨x, hx⟩ : ∃ x, x = backN m1 := ⟨_, rfl⟩
  obtain ⟨y, hy⟩ : ∃ y, y = backN m2 := ⟨_, rfl⟩
  rw [← hx] at s1; rw [← hy] at s2
  rw [← hx, ← hy]
  clear h1 h2 ho hb hf HV hx hy
  go_enter Tryz.func18, Tryz.ntmps18
  go_wp2_with (go_at_call 31; first | ((with_reducible refine (s1.out _).mono ?_); rintro e w' ⟨rfl, rfl⟩) | ((with_reducible refine (s2.out _).mono ?_); rintro e w' ⟨rfl, rfl⟩))
  exact bodyPost_ret (v := .agg #[.int .i64 o, .int .i64 x, .int .i64 y, .int .i64 b, .int .i64 f]) (by simp [results, Tryz.results18, go_sem]) rfl ⟨rfl, ((Below.refl _ _).alloc (Nat.le_refl _) _).alloc (by simp) _⟩
end Go.Proofs.YtjkjjolalbdhkaaGreatDoor
