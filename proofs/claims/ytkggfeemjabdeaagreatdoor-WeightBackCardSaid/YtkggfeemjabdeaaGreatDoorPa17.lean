/- Contracts of shiftLeft and shiftRight. -/
import Derived.RegionTactic
import Derived.ChangeAlike
import Derived.Laws.BitsAllLaws
import Derived.Test.YtkggfeemjabdeaaGreatDoorPa5
namespace Go.Proofs.YtkggfeemjabdeaaGreatDoor
open Go.RowKit

theorem or_shl {p x s : Nat} (hs : s ≤ 64) (hp : p < 2 ^ s) : bits BinOp.or IntKind.u64 (p : Int) (IntKind.u64.wrap ((x : Int) * 2 ^ s)) = ((p + lo (x * 2 ^ s) : Nat) : Int) := by
  have h1 : IntKind.u64.wrap ((x : Int) * 2 ^ s) = ((lo (x * 2 ^ s) : Nat) : Int) := by
    rw [IntKind.wrap_u64]; unfold lo; rw [Int.natCast_emod, Int.natCast_mul, Int.natCast_pow]; rfl
  have h2 := shl_join (x := x) hs hp
  have h3 := R64_eq
  rw [h1, u64_or_nat _ _ (by omega) (lo_lt _), Nat.or_comm, nat_join s _ _ (by rw [lo_shl x hs, Nat.mul_mod_right]) hp, Nat.add_comm]

/-- What shiftLeft returns: a row of its own, which is not trimmed. -/
def RetShl (n s : Nat) (f : Nat → Nat) (w : World) (e : Ending) (w' : World) : Prop :=
  ∃ p : Nat → Nat, e = .returned (.slice (some ⟨w.heap.size, 0, none⟩) (n + 1) (n + 1)) ∧ (w'.rowIs w.heap.size 78 (n + 1) fun j => .int .u64 (p j)) ∧ (∀ j, j < n + 1 → p j < R64) ∧ val p (n + 1) = val f n * 2 ^ s ∧ Below w.heap.size w w'

set_option maxRecDepth 100000 in
set_option maxHeartbeats 1000000 in
theorem shiftLeft_core (n s : Nat) (b off : Nat) (cap : Nat) (f : Nat → Nat) (w : World) (hn : n ≤ 200) (hs : s < 64) (hc : ∀ i, i < n → w.cell? ⟨b, off + i, none⟩ = some (.int .u64 (f i))) (lf : ∀ i, i < n → f i < R64) :
    Calls Tryz.prog 86 #[.slice (some ⟨b, off, none⟩) n cap, .int .i64 s] w (RetShl n s f w) := by
  have H := Lib.hid hc; clear hc
  have hmk := fun (W : World) => run_make_row' (P := Tryz.prog) 60 78 (.int .u64 0) 8 Tryz.underlying60 infoW rfl .i64 .i64 (n + 1) (by omega) (by omega) W
  rw [show ((n + 1 : Nat) : Int) = (n : Int) + 1 from by omega] at hmk
  go_enter Tryz.func86, Tryz.ntmps86
  go_wp2
  go_loopw [14] (fun iv wr => ∃ (i : Nat) (p : Nat → Nat), i ≤ n ∧ iv = .int .i64 i ∧ wr.rowIs w.heap.size 78 (n + 1) (fun j => .int .u64 (p j)) ∧ (∀ j, j < n + 1 → p j < R64) ∧ p i < 2 ^ s ∧ val p (i + 1) = val f i * 2 ^ s ∧ Below w.heap.size w wr) (fun iv _ => n - (intOf iv).toNat)
  case atStart => exact ⟨0, fun _ => 0, Nat.zero_le _, rfl, World.rowIs_made _ _ _ _, fun _ _ => R64_pos, Nat.two_pow_pos s, by rw [val_zero]; simp [val], (Below.refl _ _).alloc (Nat.le_refl _) _⟩
  case round =>
    obtain ⟨i, p, hin, rfl, hp, lp, hps, hv, hb⟩ := hrel
    have HP := Lib.hid hp; have LP := Lib.hid lp; have HB := Lib.hid hb; have HV := Lib.hid hv
    clear hp lp hb hv
    by_cases hlt : i < n
    · have c1 := cell_later HB.out (H.out i hlt)
      have c2 := HP.out.cell (i := i) (by omega)
      have c3 := HP.out.frozen i
      have c4 := HP.out.cell (i := i + 1) (by omega)
      have c5 := HP.out.frozen (i + 1)
      have hor := or_shl (x := f i) (by omega) hps
      have HS := Lib.hid hps; clear hps
      go_wp2
      go_region
      go_wp2
      go_roundw
      case rel =>
        have e1 : ((f i : Int) / 2 ^ (64 - s)) = ((f i / 2 ^ (64 - s) : Nat) : Int) := by norm_cast
        have e2 : ((p i : Int) + (lo (f i * 2 ^ s) : Nat)) = ((p i + lo (f i * 2 ^ s) : Nat) : Int) := by norm_cast
        rw [e1, e2]
        exact ⟨i + 1, _, by omega, rfl, row_set (row_set HP.out _ _) _ _, upd_lim (upd_lim LP.out (shl_join (by omega) HS.out)) (Nat.lt_of_le_of_lt (Nat.div_le_self _ _) (lf i hlt)), by rw [upd_at]; exact div_lt_pow (lf i hlt) (by omega), shl_step (by omega) HV.out,
          ((HB.out.setCell (Nat.le_refl _) _).setCell (Nat.le_refl _) _).drew⟩
      case measure => simp [intOf]; omega
    · obtain rfl : i = n := by omega
      go_wp2
      go_ret
      exact ⟨p, rfl, HP.out, LP.out, HV.out, HB.out⟩

set_option maxRecDepth 100000 in
set_option maxHeartbeats 1000000 in
theorem shiftRight_core (n s : Nat) (b off : Nat) (cap : Nat) (f : Nat → Nat) (w : World) (hn : n ≤ 201) (hs : s < 64) (hc : ∀ i, i < n → w.cell? ⟨b, off + i, none⟩ = some (.int .u64 (f i))) (lf : ∀ i, i < n → f i < R64) :
    Calls Tryz.prog 88 #[.slice (some ⟨b, off, none⟩) n cap, .int .i64 s] w (RetNatOwn (val f n / 2 ^ s) w) := by
  have H := Lib.hid hc; clear hc
  have hmk := fun (W : World) => run_make_row' (P := Tryz.prog) 60 78 (.int .u64 0) 8 Tryz.underlying60 infoW rfl .i64 .i64 n (by omega) (by omega) W
  go_enter Tryz.func88, Tryz.ntmps88
  go_wp2
  go_loopw [13] (fun iv wr => ∃ (i : Nat) (p : Nat → Nat), i ≤ n ∧ iv = .int .i64 i ∧ wr.rowIs w.heap.size 78 n (fun j => .int .u64 (p j)) ∧ (∀ j, j < n → p j < R64) ∧ (i ≠ 0 → p (i - 1) < 2 ^ (64 - s)) ∧ val p i = val f i / 2 ^ s ∧ Below w.heap.size w wr) (fun iv _ => n - (intOf iv).toNat)
  case atStart => exact ⟨0, fun _ => 0, Nat.zero_le _, rfl, World.rowIs_made _ _ _ _, fun _ _ => R64_pos, fun h => absurd rfl h, by simp [val], (Below.refl _ _).alloc (Nat.le_refl _) _⟩
  case round =>
    obtain ⟨i, p, hin, rfl, hp, lp, hps, hv, hb⟩ := hrel
    have HP := Lib.hid hp; have LP := Lib.hid lp; have HB := Lib.hid hb; have HV := Lib.hid hv; have HS := Lib.hid hps
    clear hp lp hb hv hps
    by_cases hlt : i < n
    · have c1 := cell_later HB.out (H.out i hlt)
      have c2 := HP.out.cell (i := i) (by omega)
      have c3 := HP.out.frozen i
      have lfi := lf i hlt
      cases i with
      | zero =>
        rw [Nat.add_zero] at c1
        go_wp2
        go_roundw
        case rel =>
          have e1 : ((f 0 : Int) / 2 ^ s) = ((f 0 / 2 ^ s : Nat) : Int) := by norm_cast
          rw [e1]
          exact ⟨0 + 1, _, by omega, rfl, row_set HP.out _ _, upd_lim LP.out (Nat.lt_of_le_of_lt (Nat.div_le_self _ _) lfi), fun _ => by rw [Nat.add_sub_cancel, upd_at]; have := div_lt_pow (s := 64 - s) lfi (by omega); rwa [show 64 - (64 - s) = s from by omega] at this, shr_first p s, HB.out.setCell (Nat.le_refl _) _⟩
        case measure => simp [intOf]; omega
      | succ i =>
        have c4 := HP.out.cell (i := i) (by omega)
        have c5 := HP.out.frozen i
        have hq := HS.out (by omega)
        rw [Nat.add_sub_cancel] at hq
        have hor := or_shl (x := f (i + 1)) (by omega) hq
        have HQ := Lib.hid hq; clear hq
        go_wp2
        go_region
        go_wp2
        go_roundw
        case rel =>
          have e1 : ((f (i + 1) : Int) / 2 ^ s) = ((f (i + 1) / 2 ^ s : Nat) : Int) := by norm_cast
          have e2 : ((p i : Int) + (lo (f (i + 1) * 2 ^ (64 - s)) : Nat)) = ((p i + lo (f (i + 1) * 2 ^ (64 - s)) : Nat) : Int) := by norm_cast
          rw [e1, e2]
          exact ⟨i + 1 + 1, _, by omega, rfl, row_set (row_set HP.out _ _) _ _, upd_lim (upd_lim LP.out (Nat.lt_of_le_of_lt (Nat.div_le_self _ _) lfi)) (shl_join (by omega) HQ.out),
            fun _ => by rw [Nat.add_sub_cancel, upd_ne _ _ (by omega), upd_at]; have := div_lt_pow (s := 64 - s) lfi (by omega); rwa [show 64 - (64 - s) = s from by omega] at this, shr_step (by omega) HV.out, ((HB.out.setCell (Nat.le_refl _) _).setCell (Nat.le_refl _) _).drew⟩
        case measure => simp [intOf]; omega
    · obtain rfl : i = n := by omega
      go_wp2_with fail
      refine (trim_own w.heap.size _ i p wr (Own.of_rowIs HP.out (Nat.le_refl _) (by unfold maxLen; omega) (Nat.le_refl _)) LP.out).mono ?_
      rintro e w3 ⟨⟨u2, rfl, hu2, hob⟩, rfl⟩
      have HU2 := Lib.hid hu2; clear hu2 hob
      go_wp2_with fail
      go_ret
      exact ⟨u2, rfl, by rw [← HV.out]; exact HU2.out, HB.out⟩
end Go.Proofs.YtkggfeemjabdeaaGreatDoor
