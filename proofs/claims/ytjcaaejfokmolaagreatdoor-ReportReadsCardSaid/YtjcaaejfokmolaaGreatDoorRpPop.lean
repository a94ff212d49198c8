/- OnesCount64, OnesCount, isCheck; signed. -/
import Derived.Test.YtjcaaejfokmolaaGreatDoorRpMem
import Derived.Lib.BitFns
import Derived.Laws.Bits64
import Derived.Laws.Shifts
namespace Go.Proofs.YtjcaaejfokmolaaGreatDoor
open Go.RowKit

def swA (x : Int) : Int := IntKind.u64.wrap (bits .and .u64 (x / 2) 6148914691236517205 + bits .and .u64 x 6148914691236517205)
def swB (a : Int) : Int := IntKind.u64.wrap (bits .and .u64 (a / 4) 3689348814741910323 + bits .and .u64 a 3689348814741910323)
def swC (b : Int) : Int := bits .and .u64 (IntKind.u64.wrap (b / 16 + b)) 1085102592571150095
def swD (c : Int) : Int := IntKind.u64.wrap (c + c / 256)
def swE (d : Int) : Int := IntKind.u64.wrap (d + d / 65536)
def swF (e : Int) : Int := IntKind.u64.wrap (e + e / 4294967296)
/-- how many bits a word has, as the library reckons it. -/
def swar (x : Int) : Int := bits .and .i64 (wrap64 (swF (swE (swD (swC (swB (swA x))))))) 127

set_option maxRecDepth 100000 in
set_option maxHeartbeats 1000000 in
theorem ones64_any (x : Nat) (w : World) : Calls Tryz.prog 99 #[.int .u64 x] w fun e w' => e = .returned (.int .i64 (swar x)) ∧ w = w' := by
  go_enter Tryz.func99, Tryz.ntmps99
  go_wp2
  go_ret
  exact ⟨rfl, rfl⟩

theorem swar_small : ∀ n : Fin 256, swar (n.val : Int) = (Lib.onesCount n.val : Int) := by decide +kernel

set_option maxHeartbeats 1000000 in
theorem ones_any (x : Nat) (w : World) : Calls Tryz.prog 102 #[.int .u64 x] w fun e w' => e = .returned (.int .i64 (swar x)) ∧ w = w' := by
  have h := fun W => ones64_any x W
  have H := Lib.hid h; clear h
  go_enter Tryz.func102, Tryz.ntmps102
  go_wp2_with (go_at_call 99; ((with_reducible refine (H.out _).mono ?_); rintro e w' ⟨rfl, rfl⟩))
  go_ret
  exact ⟨rfl, rfl⟩

def checkP (p : Nat) : Bool := Lib.onesCount p == 1

set_option maxHeartbeats 1000000 in
theorem isCheck_any (p : Nat) (hp : p < 256) (w : World) : Calls Tryz.prog 72 #[.int .i64 p] w fun e w' => e = .returned (.bool (checkP p)) ∧ w = w' := by
  have h := fun W => ones_any p W
  have hs : swar (p : Int) = (Lib.onesCount p : Int) := swar_small ⟨p, hp⟩
  rw [hs] at h
  have H := Lib.hid h; clear h hs
  have hw : IntKind.u64.wrap (p : Int) = p := by rw [IntKind.wrap_u64]; omega
  cases hc : checkP p with
  | true =>
    have b1 : ((Lib.onesCount p : Int) == 1) = true := by unfold checkP at hc; rw [beq_iff_eq] at hc ⊢; omega
    clear hc
    go_enter Tryz.func72, Tryz.ntmps72
    go_wp2_with (go_at_call 102; ((with_reducible refine (H.out _).mono ?_); rintro e w' ⟨rfl, rfl⟩))
    go_ret
    exact ⟨rfl, rfl⟩
  | false =>
    have b1 : ((Lib.onesCount p : Int) == 1) = false := by
      unfold checkP at hc
      cases e : ((Lib.onesCount p : Int) == 1) with
      | false => rfl
      | true => rw [beq_iff_eq] at e; rw [beq_eq_false_iff_ne] at hc; exact absurd (by omega) hc
    clear hc
    go_enter Tryz.func72, Tryz.ntmps72
    go_wp2_with (go_at_call 102; ((with_reducible refine (H.out _).mono ?_); rintro e w' ⟨rfl, rfl⟩))
    go_ret
    exact ⟨rfl, rfl⟩
end Go.Proofs.YtjcaaejfokmolaaGreatDoor
