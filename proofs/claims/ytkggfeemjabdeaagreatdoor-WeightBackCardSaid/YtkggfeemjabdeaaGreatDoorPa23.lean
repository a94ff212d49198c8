/- Contract of slices.Reverse at bytes. -/
import Derived.RegionTactic
import Derived.BigRegion
import Derived.ChangeAlike
import Derived.Test.YtkggfeemjabdeaaGreatDoorPa4
namespace Go.Proofs.YtkggfeemjabdeaaGreatDoor
open Go.RowKit

/-- the first i words and the last i are exchanged. -/
def revTo (f : Nat → Nat) (n i : Nat) : Nat → Nat := fun k => if k < i ∨ n ≤ k + i then f (n - 1 - k) else f k

theorem revTo_zero (f : Nat → Nat) (n k : Nat) (hk : k < n) : revTo f n 0 k = f k := by unfold revTo; rw [if_neg (by omega)]
theorem revTo_end (f : Nat → Nat) (n i k : Nat) (hk : k < n) (h : n ≤ 2 * i + 1) : revTo f n i k = f (n - 1 - k) := by
  unfold revTo
  by_cases h1 : k < i ∨ n ≤ k + i
  · rw [if_pos h1]
  · rw [if_neg h1, show n - 1 - k = k from by omega]
theorem revTo_step (f : Nat → Nat) (n i : Nat) (h : 2 * i + 1 < n) (k : Nat) (hk : k < n) : upd (upd (revTo f n i) i (f (n - 1 - i))) (n - 1 - i) (f i) k = revTo f n (i + 1) k := by
  by_cases e : k = n - 1 - i
  · subst e
    rw [upd_at]; unfold revTo
    rw [if_pos (by omega), show n - 1 - (n - 1 - i) = i from by omega]
  · rw [upd_ne _ _ e]
    by_cases e2 : k = i
    · subst e2
      rw [upd_at]; unfold revTo
      rw [if_pos (by omega)]
    · rw [upd_ne _ _ e2]; unfold revTo
      by_cases h1 : k < i ∨ n ≤ k + i
      · rw [if_pos h1, if_pos (by omega)]
      · rw [if_neg h1, if_neg (by omega)]

set_option maxRecDepth 100000 in
set_option maxHeartbeats 1000000 in
theorem reverse_core (b off n cap : Nat) (f : Nat → Nat) (w : World) (hn : n ≤ cap) (hcap : cap ≤ maxLen) (cf : ∀ i, i < n → w.cell? ⟨b, off + i, none⟩ = some (.int .u8 (f i))) (zf : ∀ i, i < n → w.frozen? ⟨b, off + i, none⟩ = false) :
    Calls Tryz.prog 111 #[.slice (some ⟨b, off, none⟩) n cap] w fun e w' => e = .returned (.tuple #[]) ∧ (∀ i, i < n → w'.cell? ⟨b, off + i, none⟩ = some (.int .u8 (f (n - 1 - i)))) ∧ Wrote b off n w w' := by
  unfold maxLen at hcap
  have HZ := Lib.hid zf; clear zf
  go_enter Tryz.func111, Tryz.ntmps111
  go_wp2
  go_loopw [2, 3] (fun iv jv wr => ∃ (i : Nat) (h : Nat → Nat), 2 * i ≤ n + 1 ∧ iv = .int .i64 i ∧ jv = .int .i64 ((n : Int) - 1 - i) ∧ (∀ k, k < n → h k = revTo f n i k) ∧ (∀ k, k < n → wr.cell? ⟨b, off + k, none⟩ = some (.int .u8 (h k))) ∧ Wrote b off n w wr) (fun iv _ _ => n - (intOf iv).toNat)
  case atStart => exact ⟨0, f, by omega, rfl, by rw [show ((0 : Nat) : Int) = 0 from rfl, Int.sub_zero], fun k hk => (revTo_zero f n k hk).symm, cf, Wrote.refl _ _ _ _⟩
  case round =>
    obtain ⟨i, h, hi, rfl, rfl, hh, hc, hw⟩ := hrel
    have HH := Lib.hid hh; have HC := Lib.hid hc; have HW := Lib.hid hw
    clear hh hc hw
    by_cases hlt : 2 * i + 1 < n
    · have c1 := HC.out i (by omega)
      have c2 := HC.out (n - 1 - i) (by omega)
      have z1 := HZ.out i (by omega)
      have z2 := HZ.out (n - 1 - i) (by omega)
      rw [← HW.out.froz] at z1 z2
      have e1 : h i = f i := by rw [HH.out i (by omega)]; unfold revTo; rw [if_neg (by omega)]
      have e2 : h (n - 1 - i) = f (n - 1 - i) := by rw [HH.out _ (by omega)]; unfold revTo; rw [if_neg (by omega)]
      rw [e1] at c1
      rw [e2] at c2
      clear e1 e2
      have hj : ((n : Int) - 1 - i) = ((n - 1 - i : Nat) : Int) := by omega
      rw [hj]
      generalize hJ : n - 1 - i = J at *
      have hJn : J < n := by omega
      have hij : i < J := by omega
      have HJ := Lib.hid hJ; clear hJ hj
      go_wp2
      go_region
      go_wp2
      go_roundw
      case rel =>
        refine ⟨i + 1, upd (upd h i (f J)) J (f i), by omega, rfl, by rw [show (J : Int) - 1 = (n : Int) - 1 - ((i + 1 : Nat) : Int) from by have := HJ.out; omega], fun k hk => ?_, fun k hk => cells_set (cells_set HC.out (by omega) _) hJn _ k hk, ((HW.out.setCell (by omega) _).setCell hJn _).drewN 1⟩
        rw [← revTo_step f n i hlt k hk, HJ.out]
        by_cases e : k = J
        · subst e; rw [upd_at, upd_at]
        · rw [upd_ne _ _ e, upd_ne _ _ e]
          by_cases e2 : k = i
          · subst e2; rw [upd_at, upd_at]
          · rw [upd_ne _ _ e2, upd_ne _ _ e2]; exact HH.out k hk
      case measure => simp [intOf]; omega
    · have hj : ¬ ((i : Int) < (n : Int) - 1 - i) := by omega
      go_wp2
      go_end0
      exact ⟨rfl, fun k hk => by rw [HC.out k hk, HH.out k hk, revTo_end f n i k hk (by omega)], HW.out⟩
end Go.Proofs.YtkggfeemjabdeaaGreatDoor
