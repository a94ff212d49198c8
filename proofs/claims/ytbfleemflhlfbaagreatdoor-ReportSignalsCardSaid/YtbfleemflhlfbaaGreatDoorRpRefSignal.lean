/- The document's Signal. -/
import Derived.Test.YtbfleemflhlfbaaGreatDoorRpRefIn
import Derived.Test.YtbfleemflhlfbaaGreatDoorRpPack
namespace Go.Proofs.YtbfleemflhlfbaaGreatDoor
open Go.RowKit

set_option maxRecDepth 100000 in
set_option maxHeartbeats 2000000 in
theorem refSignal_any (o x y b f : Int) (w : World) :
    Calls Tryz.prog 35 #[.agg #[.int .i64 o, .int .i64 x, .int .i64 y, .int .i64 b, .int .i64 f]] w fun e w' => e = .returned (.bool (sigB o x y b f)) ∧ Below w.heap.size w w' := by
  obtain ⟨b1, E1⟩ : ∃ q, q = inB o 0 268435455 := ⟨_, rfl⟩
  obtain ⟨b2, E2⟩ : ∃ q, q = inB x (-8192) 8191 := ⟨_, rfl⟩
  obtain ⟨b3, E3⟩ : ∃ q, q = inB y (-8192) 8191 := ⟨_, rfl⟩
  obtain ⟨b4, E4⟩ : ∃ q, q = inB b 0 15 := ⟨_, rfl⟩
  obtain ⟨b5, E5⟩ : ∃ q, q = inB f 0 15 := ⟨_, rfl⟩
  have HR : Hid (sigB o x y b f = (b1 && (b2 && (b3 && (b4 && b5))))) := Lib.hid (by rw [E1, E2, E3, E4, E5]; rfl)
  rw [HR.out]
  have F1 : Hid (∀ W, Calls Tryz.prog 24 #[.int .i64 o, .int .i64 0, .int .i64 268435455] W fun e w' => e = .returned (.bool b1) ∧ W = w') := Lib.hid fun W => by rw [E1]; exact refIn_any _ _ _ W
  have F2 : Hid (∀ W, Calls Tryz.prog 24 #[.int .i64 x, .int .i64 (-8192), .int .i64 8191] W fun e w' => e = .returned (.bool b2) ∧ W = w') := Lib.hid fun W => by rw [E2]; exact refIn_any _ _ _ W
  have F3 : Hid (∀ W, Calls Tryz.prog 24 #[.int .i64 y, .int .i64 (-8192), .int .i64 8191] W fun e w' => e = .returned (.bool b3) ∧ W = w') := Lib.hid fun W => by rw [E3]; exact refIn_any _ _ _ W
  have F4 : Hid (∀ W, Calls Tryz.prog 24 #[.int .i64 b, .int .i64 0, .int .i64 15] W fun e w' => e = .returned (.bool b4) ∧ W = w') := Lib.hid fun W => by rw [E4]; exact refIn_any _ _ _ W
  have F5 : Hid (∀ W, Calls Tryz.prog 24 #[.int .i64 f, .int .i64 0, .int .i64 15] W fun e w' => e = .returned (.bool b5) ∧ W = w') := Lib.hid fun W => by rw [E5]; exact refIn_any _ _ _ W
  clear E1 E2 E3 E4 E5 HR
  cases b1 with
  | false =>
    go_enter Tryz.func35, Tryz.ntmps35
    go_wp2_with (go_at_call 24; first | ((with_reducible refine (F1.out _).mono ?_); rintro e w' ⟨rfl, rfl⟩) | ((with_reducible refine (F2.out _).mono ?_); rintro e w' ⟨rfl, rfl⟩) | ((with_reducible refine (F3.out _).mono ?_); rintro e w' ⟨rfl, rfl⟩) | ((with_reducible refine (F4.out _).mono ?_); rintro e w' ⟨rfl, rfl⟩) | ((with_reducible refine (F5.out _).mono ?_); rintro e w' ⟨rfl, rfl⟩))
    go_ret
    exact ⟨by simp, (Below.refl _ _).alloc (Nat.le_refl _) _⟩
  | true =>
    cases b2 with
    | false =>
      go_enter Tryz.func35, Tryz.ntmps35
      go_wp2_with (go_at_call 24; first | ((with_reducible refine (F1.out _).mono ?_); rintro e w' ⟨rfl, rfl⟩) | ((with_reducible refine (F2.out _).mono ?_); rintro e w' ⟨rfl, rfl⟩) | ((with_reducible refine (F3.out _).mono ?_); rintro e w' ⟨rfl, rfl⟩) | ((with_reducible refine (F4.out _).mono ?_); rintro e w' ⟨rfl, rfl⟩) | ((with_reducible refine (F5.out _).mono ?_); rintro e w' ⟨rfl, rfl⟩))
      go_ret
      exact ⟨by simp, (Below.refl _ _).alloc (Nat.le_refl _) _⟩
    | true =>
      cases b3 with
      | false =>
        go_enter Tryz.func35, Tryz.ntmps35
        go_wp2_with (go_at_call 24; first | ((with_reducible refine (F1.out _).mono ?_); rintro e w' ⟨rfl, rfl⟩) | ((with_reducible refine (F2.out _).mono ?_); rintro e w' ⟨rfl, rfl⟩) | ((with_reducible refine (F3.out _).mono ?_); rintro e w' ⟨rfl, rfl⟩) | ((with_reducible refine (F4.out _).mono ?_); rintro e w' ⟨rfl, rfl⟩) | ((with_reducible refine (F5.out _).mono ?_); rintro e w' ⟨rfl, rfl⟩))
        go_ret
        exact ⟨by simp, (Below.refl _ _).alloc (Nat.le_refl _) _⟩
      | true =>
        cases b4 with
        | false =>
          go_enter Tryz.func35, Tryz.ntmps35
          go_wp2_with (go_at_call 24; first | ((with_reducible refine (F1.out _).mono ?_); rintro e w' ⟨rfl, rfl⟩) | ((with_reducible refine (F2.out _).mono ?_); rintro e w' ⟨rfl, rfl⟩) | ((with_reducible refine (F3.out _).mono ?_); rintro e w' ⟨rfl, rfl⟩) | ((with_reducible refine (F4.out _).mono ?_); rintro e w' ⟨rfl, rfl⟩) | ((with_reducible refine (F5.out _).mono ?_); rintro e w' ⟨rfl, rfl⟩))
          go_ret
          exact ⟨by simp, (Below.refl _ _).alloc (Nat.le_refl _) _⟩
        | true =>
          go_enter Tryz.func35, Tryz.ntmps35
          go_wp2_with (go_at_call 24; first | ((with_reducible refine (F1.out _).mono ?_); rintro e w' ⟨rfl, rfl⟩) | ((with_reducible refine (F2.out _).mono ?_); rintro e w' ⟨rfl, rfl⟩) | ((with_reducible refine (F3.out _).mono ?_); rintro e w' ⟨rfl, rfl⟩) | ((with_reducible refine (F4.out _).mono ?_); rintro e w' ⟨rfl, rfl⟩) | ((with_reducible refine (F5.out _).mono ?_); rintro e w' ⟨rfl, rfl⟩))
          go_ret
          exact ⟨by simp, (Below.refl _ _).alloc (Nat.le_refl _) _⟩


end Go.Proofs.YtbfleemflhlfbaaGreatDoor
