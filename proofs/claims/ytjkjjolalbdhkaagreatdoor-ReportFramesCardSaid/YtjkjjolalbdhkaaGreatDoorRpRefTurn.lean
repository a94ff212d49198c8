/- The document's Signal, Bits, Turned. -/
import Derived.Test.YtjkjjolalbdhkaaGreatDoorRpRefBits
import Derived.Laws.BitsAllLaws
namespace Go.Proofs.YtjkjjolalbdhkaaGreatDoor
open Go.RowKit

set_option maxRecDepth 100000 in
set_option maxHeartbeats 2000000 in
theorem refSignal_any (o x y b f : Int) (w : World) :
    Calls Tryz.prog 13 #[.agg #[.int .i64 o, .int .i64 x, .int .i64 y, .int .i64 b, .int .i64 f]] w fun e w' => e = .returned (.bool (sigB o x y b f)) ∧ Below w.heap.size w w' := by
  obtain ⟨b1, E1⟩ : ∃ q, q = inB o 0 268435455 := ⟨_, rfl⟩
  obtain ⟨b2, E2⟩ : ∃ q, q = inB x (-8192) 8191 := ⟨_, rfl⟩
  obtain ⟨b3, E3⟩ : ∃ q, q = inB y (-8192) 8191 := ⟨_, rfl⟩
  obtain ⟨b4, E4⟩ : ∃ q, q = inB b 0 15 := ⟨_, rfl⟩
  obtain ⟨b5, E5⟩ : ∃ q, q = inB f 0 15 := ⟨_, rfl⟩
  have HR : Hid (sigB o x y b f = (b1 && (b2 && (b3 && (b4 && b5))))) := Lib.hid (by rw [E1, E2, E3, E4, E5]; rfl)
  rw [HR.out]
  have F1 : Hid (∀ W, Calls Tryz.prog 26 #[.int .i64 o, .int .i64 0, .int .i64 268435455] W fun e w' => e = .returned (.bool b1) ∧ W = w') := Lib.hid fun W => by rw [E1]; exact refIn_any _ _ _ W
  have F2 : Hid (∀ W, Calls Tryz.prog 26 #[.int .i64 x, .int .i64 (-8192), .int .i64 8191] W fun e w' => e = .returned (.bool b2) ∧ W = w') := Lib.hid fun W => by rw [E2]; exact refIn_any _ _ _ W
  have F3 : Hid (∀ W, Calls Tryz.prog 26 #[.int .i64 y, .int .i64 (-8192), .int .i64 8191] W fun e w' => e = .returned (.bool b3) ∧ W = w') := Lib.hid fun W => by rw [E3]; exact refIn_any _ _ _ W
  have F4 : Hid (∀ W, Calls Tryz.prog 26 #[.int .i64 b, .int .i64 0, .int .i64 15] W fun e w' => e = .returned (.bool b4) ∧ W = w') := Lib.hid fun W => by rw [E4]; exact refIn_any _ _ _ W
  have F5 : Hid (∀ W, Calls Tryz.prog 26 #[.int .i64 f, .int .i64 0, .int .i64 15] W fun e w' => e = .returned (.bool b5) ∧ W = w') := Lib.hid fun W => by rw [E5]; exact refIn_any _ _ _ W
  clear E1 E2 E3 E4 E5 HR
  cases b1 with
  | false =>
    go_enter Tryz.func13, Tryz.ntmps13
    go_wp2_with (go_at_call 26; first | ((with_reducible refine (F1.out _).mono ?_); rintro e w' ⟨rfl, rfl⟩) | ((with_reducible refine (F2.out _).mono ?_); rintro e w' ⟨rfl, rfl⟩) | ((with_reducible refine (F3.out _).mono ?_); rintro e w' ⟨rfl, rfl⟩) | ((with_reducible refine (F4.out _).mono ?_); rintro e w' ⟨rfl, rfl⟩) | ((with_reducible refine (F5.out _).mono ?_); rintro e w' ⟨rfl, rfl⟩))
    go_ret
    exact ⟨by simp, (Below.refl _ _).alloc (Nat.le_refl _) _⟩
  | true =>
    cases b2 with
    | false =>
      go_enter Tryz.func13, Tryz.ntmps13
      go_wp2_with (go_at_call 26; first | ((with_reducible refine (F1.out _).mono ?_); rintro e w' ⟨rfl, rfl⟩) | ((with_reducible refine (F2.out _).mono ?_); rintro e w' ⟨rfl, rfl⟩) | ((with_reducible refine (F3.out _).mono ?_); rintro e w' ⟨rfl, rfl⟩) | ((with_reducible refine (F4.out _).mono ?_); rintro e w' ⟨rfl, rfl⟩) | ((with_reducible refine (F5.out _).mono ?_); rintro e w' ⟨rfl, rfl⟩))
      go_ret
      exact ⟨by simp, (Below.refl _ _).alloc (Nat.le_refl _) _⟩
    | true =>
      cases b3 with
      | false =>
        go_enter Tryz.func13, Tryz.ntmps13
        go_wp2_with (go_at_call 26; first | ((with_reducible refine (F1.out _).mono ?_); rintro e w' ⟨rfl, rfl⟩) | ((with_reducible refine (F2.out _).mono ?_); rintro e w' ⟨rfl, rfl⟩) | ((with_reducible refine (F3.out _).mono ?_); rintro e w' ⟨rfl, rfl⟩) | ((with_reducible refine (F4.out _).mono ?_); rintro e w' ⟨rfl, rfl⟩) | ((with_reducible refine (F5.out _).mono ?_); rintro e w' ⟨rfl, rfl⟩))
        go_ret
        exact ⟨by simp, (Below.refl _ _).alloc (Nat.le_refl _) _⟩
      | true =>
        cases b4 with
        | false =>
          go_enter Tryz.func13, Tryz.ntmps13
          go_wp2_with (go_at_call 26; first | ((with_reducible refine (F1.out _).mono ?_); rintro e w' ⟨rfl, rfl⟩) | ((with_reducible refine (F2.out _).mono ?_); rintro e w' ⟨rfl, rfl⟩) | ((with_reducible refine (F3.out _).mono ?_); rintro e w' ⟨rfl, rfl⟩) | ((with_reducible refine (F4.out _).mono ?_); rintro e w' ⟨rfl, rfl⟩) | ((with_reducible refine (F5.out _).mono ?_); rintro e w' ⟨rfl, rfl⟩))
          go_ret
          exact ⟨by simp, (Below.refl _ _).alloc (Nat.le_refl _) _⟩
        | true =>
          go_enter Tryz.func13, Tryz.ntmps13
          go_wp2_with (go_at_call 26; first | ((with_reducible refine (F1.out _).mono ?_); rintro e w' ⟨rfl, rfl⟩) | ((with_reducible refine (F2.out _).mono ?_); rintro e w' ⟨rfl, rfl⟩) | ((with_reducible refine (F3.out _).mono ?_); rintro e w' ⟨rfl, rfl⟩) | ((with_reducible refine (F4.out _).mono ?_); rintro e w' ⟨rfl, rfl⟩) | ((with_reducible refine (F5.out _).mono ?_); rintro e w' ⟨rfl, rfl⟩))
          go_ret
          exact ⟨by simp, (Below.refl _ _).alloc (Nat.le_refl _) _⟩


/-- a bit as a value. -/
def bitV (b : Bool × Nat × Nat) : Value := .agg #[.bool b.1, .int .i64 b.2.1, .int .i64 b.2.2]
set_option maxRecDepth 100000 in
set_option maxHeartbeats 1000000 in
theorem refTurned_data (d c n at_ : Nat) (hd : d < 18446744073709551616) (hn : n < 64) (w : World) :
    Calls Tryz.prog 20 #[.agg #[.int .u64 d, .int .u8 c], .agg #[.bool false, .int .i64 n, .int .i64 at_]] w fun e w' => e = .returned (.agg #[.int .u64 (d ^^^ 2 ^ n : Nat), .int .u8 c]) ∧ Below w.heap.size w w' := by
  have hx := xor_u64 d (2 ^ n) hd (two_lt n hn)
  have hwr : IntKind.u64.wrap (2 ^ n) = ((2 ^ n : Nat) : Int) := by
    rw [show ((2 : Int) ^ n) = ((2 ^ n : Nat) : Int) by norm_cast]
    have := two_lt n hn
    generalize 2 ^ n = y at this
    rw [IntKind.wrap_u64]; omega
  have HX := Lib.hid hx; have HW := Lib.hid hwr
  clear hx hwr
  go_enter Tryz.func20, Tryz.ntmps20
  go_wp2
  go_region
  all_goals
    rw [HW.out, HX.out]
    go_wp2
    exact bodyPost_ret (by simp [results, Tryz.results20, go_sem]) rfl ⟨rfl, ((((Below.refl _ _).alloc (Nat.le_refl _) _).alloc (by simp) _).alloc (by first | (simp; done) | (simp; omega)) _).trans ⟨rfl, rfl, rfl, Nat.le_refl _, fun _ _ => rfl⟩⟩

set_option maxRecDepth 100000 in
set_option maxHeartbeats 1000000 in
theorem refTurned_check (d c n at_ : Nat) (hc : c < 256) (hn : n < 8) (w : World) :
    Calls Tryz.prog 20 #[.agg #[.int .u64 d, .int .u8 c], .agg #[.bool true, .int .i64 n, .int .i64 at_]] w fun e w' => e = .returned (.agg #[.int .u64 d, .int .u8 (c ^^^ 2 ^ n : Nat)]) ∧ Below w.heap.size w w' := by
  have h2 : (2 : Nat) ^ n < 256 := Nat.pow_lt_pow_right (a := 2) (m := n) (n := 8) (by omega) hn
  have hx := u8_xor_nat c (2 ^ n) hc h2
  have hwr : (2 : Int) ^ n % 256 = ((2 ^ n : Nat) : Int) := by
    rw [show ((2 : Int) ^ n) = ((2 ^ n : Nat) : Int) by norm_cast]
    generalize 2 ^ n = y at h2
    omega
  have HX := Lib.hid hx; have HW := Lib.hid hwr
  clear hx hwr h2
  go_enter Tryz.func20, Tryz.ntmps20
  go_wp2
  go_region
  all_goals
    rw [HW.out, HX.out]
    go_wp2
    exact bodyPost_ret (by simp [results, Tryz.results20, go_sem]) rfl ⟨rfl, ((((Below.refl _ _).alloc (Nat.le_refl _) _).alloc (by simp) _).alloc (by first | (simp; done) | (simp; omega)) _).trans ⟨rfl, rfl, rfl, Nat.le_refl _, fun _ _ => rfl⟩⟩
end Go.Proofs.YtjkjjolalbdhkaaGreatDoor
