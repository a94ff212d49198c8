/- CheckArea at one place; what end asks. -/
import Derived.Test.YtoehcabplbljcaaGreatDoorRpCheck
namespace Go.Proofs.YtoehcabplbljcaaGreatDoor
open Go.RowKit

set_option maxRecDepth 100000 in
set_option maxHeartbeats 2000000 in
theorem CheckArea_one (A : Option Addr) (cap : Nat) (p : Int × Int) (w : World) (h : Area w (.slice A 1 cap) [p]) :
    Calls Tryz.prog 41 #[.slice A 1 cap] w fun e w' => e = .returned (.bool (placeB p)) ∧ Below w.heap.size w w' := by
  obtain ⟨h1, hcap, g, off, rfl, hg, c1, c2⟩ := h.at_ (k := 0) (by simp)
  clear h1
  have a1 : w.cell? ⟨g, off, none⟩ = some (.int .i64 p.1) := c1
  have a2 : w.cell? ⟨g, off + 1, none⟩ = some (.int .i64 p.2) := c2
  have hfr : ∀ W, Calls Tryz.prog 42 #[.int .i64 1, .int .i64 1, .int .i64 12] W fun e w' => e = .returned (.bool true) ∧ W = w' := fun W => isFrom_any 1 1 12 W
  have HFR := Lib.hid hfr
  have hpl : ∀ W, Calls Tryz.prog 58 #[.agg #[.int .i64 p.1, .int .i64 p.2]] W fun e w' => e = .returned (.bool (placeB p)) ∧ Below W.heap.size W w' := fun W => isPlace_any p W
  obtain ⟨b, hb⟩ : ∃ b, b = placeB p := ⟨_, rfl⟩
  rw [← hb] at hpl ⊢
  have HPL := Lib.hid hpl
  clear h c1 c2 hfr hpl hb
  cases b with
  | true =>
    go_enter Tryz.func41, Tryz.ntmps41
    go_wp2_with (go_at_call 42; ((with_reducible refine (HFR.out _).mono ?_); rintro e w' ⟨rfl, rfl⟩))
    go_loopw [11] (fun iv wr => ∃ k : Int, 0 ≤ k ∧ k ≤ 1 ∧ iv = .int .i64 k ∧ Hid (Below w.heap.size w wr)) (fun iv _ => 1 - (intOf iv).toNat)
    case atStart => exact ⟨0, by omega, by omega, rfl, Lib.hid (Below.refl _ _)⟩
    case round =>
      obtain ⟨k, hk0, hk1, rfl, HB⟩ := hrel
      have hk : k = 0 ∨ k = 1 := by omega
      rcases hk with rfl | rfl
      · have d1 := (HB.out.cell (p := ⟨g, off, none⟩) hg).trans a1
        have d2 := (HB.out.cell (p := ⟨g, off + 1, none⟩) hg).trans a2
        go_wp2_with (go_at_call 58; ((with_reducible refine (HPL.out _).mono ?_); rintro e w' ⟨rfl, hb⟩); have HB2 := Lib.hid hb; clear hb)
        go_roundw
        case rel => exact ⟨1, by omega, by omega, rfl, Lib.hid (below_chain (HB.out.trans (((Below.refl _ _).alloc (Nat.le_refl _) _).mono HB.out.size)) HB2.out)⟩
        case measure => simp [intOf]
      · go_wp2
        go_ret
        exact ⟨rfl, HB.out⟩
  | false =>
    go_enter Tryz.func41, Tryz.ntmps41
    go_wp2_with (go_at_call 42; ((with_reducible refine (HFR.out _).mono ?_); rintro e w' ⟨rfl, rfl⟩))
    go_loopw [11] (fun iv wr => ∃ k : Int, k = 0 ∧ iv = .int .i64 k ∧ Hid (Below w.heap.size w wr)) (fun iv _ => 1 - (intOf iv).toNat)
    case atStart => exact ⟨0, rfl, rfl, Lib.hid (Below.refl _ _)⟩
    case round =>
      obtain ⟨k, rfl, rfl, HB⟩ := hrel
      have d1 := (HB.out.cell (p := ⟨g, off, none⟩) hg).trans a1
      have d2 := (HB.out.cell (p := ⟨g, off + 1, none⟩) hg).trans a2
      go_wp2_with (go_at_call 58; ((with_reducible refine (HPL.out _).mono ?_); rintro e w' ⟨rfl, hb⟩); have HB2 := Lib.hid hb; clear hb)
      go_ret
      exact ⟨rfl, below_chain (HB.out.trans (((Below.refl _ _).alloc (Nat.le_refl _) _).mono HB.out.size)) HB2.out⟩

/-- what end asks of a line. -/
def endR (t : ByteArray) (s : St) (q : Bool) : Except (Nat × Int) St :=
  if t.size < s.a then (if checkB s q then .ok s else .error (min s.a t.size, 2)) else .error (min s.a t.size, 5)

set_option maxRecDepth 100000 in
set_option maxHeartbeats 2000000 in
theorem end_any (m : Int) (B : Nat) (t : ByteArray) (s : Sl) (wv : Value) (w : World) (q : Bool) (hh : Held m w B t s wv) (hq : AreaSays w wv q) (h1 : s.1.abt.size ≤ 9223372036854775807) (h2 : s.1.src.size ≤ 9223372036854775807) :
    Calls Tryz.prog 50 #[.pointer (some ⟨B, 0, none⟩)] w fun e w' =>
      match endR t s.1 q with
      | .ok _ => e = .returned (.tuple #[]) ∧ Below w.heap.size w w'
      | .error x => e = .panicked [{ v := faultV x.1 x.2, recovered := false }] ∧ Below w.heap.size w w' := by
  have HH := Lib.hid hh
  have HD := Lib.hid (isDone_any B t s.1.a w hh.line.line)
  by_cases hd : t.size < s.1.a
  · rw [decide_eq_true hd] at HD
    obtain ⟨A, cap, hwv, _⟩ := hh.area
    have HC : Hid (∀ n, Calls Tryz.prog 11 #[.agg #[.int .i64 s.1.kind, .int .i64 s.1.time, .string s.1.src, .string s.1.abt, wv, .int .i64 s.1.souls, .int .i64 s.1.trust]] (w.drewN n) fun e w' => e = .returned (.bool (checkB s.1 q)) ∧ Below w.heap.size w w') := Lib.hid fun n =>
      (CheckReport_any s.1 wv A s.2.length cap hwv (w.drewN n) q (fun w' hb => hq w' ((below_draws' w n).trans hb)) h1 h2).mono fun e w' ⟨he, hb⟩ => ⟨he, (below_draws' w n).trans hb⟩
    have k2 := (show w.cell? ⟨B, 2, none⟩ = some (.int .i64 s.1.kind) from hh.line.cell 2)
    have k3 := (show w.cell? ⟨B, 3, none⟩ = some (.int .i64 s.1.time) from hh.line.cell 3)
    have k4 := (show w.cell? ⟨B, 4, none⟩ = some (.string s.1.src) from hh.line.cell 4)
    have k5 := (show w.cell? ⟨B, 5, none⟩ = some (.string s.1.abt) from hh.line.cell 5)
    have k6 := (show w.cell? ⟨B, 6, none⟩ = some wv from hh.line.cell 6)
    have k7 := (show w.cell? ⟨B, 7, none⟩ = some (.int .i64 s.1.souls) from hh.line.cell 7)
    have k8 := (show w.cell? ⟨B, 8, none⟩ = some (.int .i64 s.1.trust) from hh.line.cell 8)
    have hres : endR t s.1 q = if checkB s.1 q then .ok s.1 else .error (min s.1.a t.size, 2) := by unfold endR; rw [if_pos hd]
    rw [hres]
    obtain ⟨b, hb⟩ : ∃ b, b = checkB s.1 q := ⟨_, rfl⟩
    rw [← hb] at HC ⊢
    clear hd hh hq hb hres h1 h2
    subst hwv
    cases b with
    | true =>
      go_enter Tryz.func50, Tryz.ntmps50
      go_wp2_with (first | (go_at_call 103; ((with_reducible refine HD.out.mono ?_); rintro e w' ⟨rfl, n, rfl⟩)) | (go_at_call 11; ((with_reducible refine (HC.out _).mono ?_); rintro e w' ⟨rfl, hb⟩); have HB := Lib.hid hb; clear hb))
      go_end0
      exact ⟨rfl, HB.out⟩
    | false =>
      go_enter Tryz.func50, Tryz.ntmps50
      go_wp2_with (first | (go_at_call 103; ((with_reducible refine HD.out.mono ?_); rintro e w' ⟨rfl, n, rfl⟩)) | (go_at_call 11; ((with_reducible refine (HC.out _).mono ?_); rintro e w' ⟨rfl, hb⟩); have HB := Lib.hid hb; clear hb))
      refine (fail_any B t s.1.a 2 _ (HH.out.line.line.below HB.out)).mono ?_
      rintro e w' ⟨rfl, n, rfl⟩
      go_wp2_with fail
      exact ⟨rfl, rfl, HB.out.trans ((below_draws' _ n).mono HB.out.size)⟩
  · rw [decide_eq_false hd] at HD
    have hres : endR t s.1 q = .error (min s.1.a t.size, 5) := by unfold endR; rw [if_neg hd]
    rw [hres]
    clear hd hh hq hres
    go_enter Tryz.func50, Tryz.ntmps50
    go_wp2_with (first | (go_at_call 103; ((with_reducible refine HD.out.mono ?_); rintro e w' ⟨rfl, n, rfl⟩)) | (go_at_call 102; refine (fail_at B t s.1.a 5 w _ HH.out.line.line).mono ?_; rintro e w' ⟨rfl, n, rfl⟩))
    exact ⟨rfl, rfl, below_draws' _ _⟩
end Go.Proofs.YtoehcabplbljcaaGreatDoor
