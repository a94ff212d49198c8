/- The document's CheckReport, Great. -/
import Derived.Test.YtjcaaejfokmolaaGreatDoorRpSgIt
import Derived.Test.YtjcaaejfokmolaaGreatDoorRpCheck
import Derived.Deep.DeepCutAuto
namespace Go.Proofs.YtjcaaejfokmolaaGreatDoor
open Go.RowKit

/-- the document's CheckArea answers q for the places of wv. -/
def RefSays (w : World) (wv : Value) (q : Bool) : Prop := ∀ w', Below w.heap.size w w' → Calls Tryz.prog 11 #[wv] w' fun e w2 => e = .returned (.bool q) ∧ Below w'.heap.size w' w2

set_option maxRecDepth 100000 in
set_option maxHeartbeats 4000000 in
theorem refCheckReport_any (s : St) (A : Option Addr) (n cap : Nat) (w : World) (q : Bool) (hq : RefSays w (.slice A n cap) q) (h1 : s.abt.size ≤ 9223372036854775807) (h2 : s.src.size ≤ 9223372036854775807) :
    Calls Tryz.prog 17 #[repA s.kind s.time s.src s.abt (.slice A n cap) s.souls s.trust] w fun e w' => e = .returned (.bool (checkB s q)) ∧ Below w.heap.size w w' := by
  obtain ⟨b1, E1⟩ : ∃ b, b = inB s.kind 1 4 := ⟨_, rfl⟩
  obtain ⟨b2, E2⟩ : ∃ b, b = inB s.time 0 1073741824 := ⟨_, rfl⟩
  obtain ⟨b3, E3⟩ : ∃ b, b = nameL s.src.data.toList := ⟨_, rfl⟩
  obtain ⟨ab, E4⟩ : ∃ b, b = aboutB s.kind s.abt.data.toList := ⟨_, rfl⟩
  obtain ⟨b6, E6⟩ : ∃ b, b = inB s.souls (-1) 10000 := ⟨_, rfl⟩
  obtain ⟨b7, E7⟩ : ∃ b, b = inB s.trust 0 1000 := ⟨_, rfl⟩
  have HRES : Hid (checkB s q = (b1 && (b2 && (b3 && (ab && (q && (b6 && b7))))))) := Lib.hid (by rw [E1, E2, E3, E4, E6, E7]; rfl)
  have F1 : Hid (∀ W, Calls Tryz.prog 33 #[.int .i64 s.kind, .int .i64 1, .int .i64 4] W fun e w' => e = .returned (.bool b1) ∧ W = w') := Lib.hid fun W => by rw [E1]; exact refIn_any _ _ _ W
  have F2 : Hid (∀ W, Calls Tryz.prog 45 #[.int .i64 s.time] W fun e w' => e = .returned (.bool b2) ∧ W = w') := Lib.hid fun W => by rw [E2]; exact refTime_any _ W
  have F3 : Hid (∀ W, Calls Tryz.prog 44 #[.string s.src] W fun e w' => e = .returned (.bool b3) ∧ W = w') := Lib.hid fun W => by rw [E3]; exact refName_any _ W h2
  have F4 : Hid (∀ W, Calls Tryz.prog 44 #[.string s.abt] W fun e w' => e = .returned (.bool (nameL s.abt.data.toList)) ∧ W = w') := Lib.hid fun W => refName_any _ W h1
  have F6 : Hid (∀ W, Calls Tryz.prog 33 #[.int .i64 s.souls, .int .i64 (-1), .int .i64 10000] W fun e w' => e = .returned (.bool b6) ∧ W = w') := Lib.hid fun W => by rw [E6]; exact refIn_any _ _ _ W
  have F7 : Hid (∀ W, Calls Tryz.prog 33 #[.int .i64 s.trust, .int .i64 0, .int .i64 1000] W fun e w' => e = .returned (.bool b7) ∧ W = w') := Lib.hid fun W => by rw [E7]; exact refIn_any _ _ _ W
  have HE4 := Lib.hid E4
  rw [HRES.out]
  obtain ⟨W, hW⟩ : ∃ W, W = w.alloc (repO s.kind s.time s.src s.abt (.slice A n cap) s.souls s.trust) := ⟨_, rfl⟩
  obtain ⟨m, hm⟩ : ∃ m, m = w.heap.size := ⟨_, rfl⟩
  have hWb : Below w.heap.size w W := by rw [hW]; exact new_below _ _
  have HR : Hid (W.heap[m]? = some (repO s.kind s.time s.src s.abt (.slice A n cap) s.souls s.trust)) := Lib.hid (by rw [hW, hm]; exact heap_alloc_new _ _)
  have HQ : Hid (∀ w', Below W.heap.size W w' → Calls Tryz.prog 11 #[.slice A n cap] w' fun e w2 => e = .returned (.bool q) ∧ Below w'.heap.size w' w2) := Lib.hid fun w' h => hq w' (below_chain hWb h)
  have HWB := Lib.hid hWb; have HW := Lib.hid hW; have HM := Lib.hid hm
  obtain ⟨c0, c1, c2, c3, c4, c5, c6⟩ := rep_cells HR.out
  clear hq hWb hW hm E1 E2 E3 E4 E6 E7 HRES h1 h2
  go_enter Tryz.func17, Tryz.ntmps17
  go_upto_region 1 with fail
  rw [← HW.out, ← HM.out]
  go_cut [3] (fun v wx => v = .bool ab ∧ wx = W)
  case first =>
    by_cases h0 : s.abt.data.toList = []
    · obtain ⟨e0, e1, e2⟩ := empty_facts h0
      have HNF : Hid (nameL s.abt.data.toList = false) := Lib.hid (by rw [h0]; rfl)
      rw [HNF.out] at F4
      by_cases k1 : s.kind = 1
      · have HA : Hid (ab = false) := Lib.hid (by rw [HE4.out]; unfold aboutB; rw [if_pos h0, k1]; rfl)
        have K1 : ((s.kind : Int) != 1) = false := by rw [k1]; rfl
        clear h0 k1 HE4
        go_wp2_with (go_at_call 44; (with_reducible refine (F4.out _).mono ?_); rintro e w' ⟨rfl, rfl⟩)
        go_meet
        case rel => exact ⟨by rw [HA.out], rfl⟩
      · have K1 : ((s.kind : Int) != 1) = true := by simpa using k1
        by_cases k4 : s.kind = 4
        · have HA : Hid (ab = false) := Lib.hid (by rw [HE4.out]; unfold aboutB; rw [if_pos h0, k4]; rfl)
          have K4 : ((s.kind : Int) != 4) = false := by rw [k4]; rfl
          clear h0 k1 k4 HE4
          go_wp2_with (go_at_call 44; (with_reducible refine (F4.out _).mono ?_); rintro e w' ⟨rfl, rfl⟩)
          go_meet
          case rel => exact ⟨by rw [HA.out], rfl⟩
        · have K4 : ((s.kind : Int) != 4) = true := by simpa using k4
          have HA : Hid (ab = true) := Lib.hid (by rw [HE4.out]; unfold aboutB; rw [if_pos h0, decide_eq_true k1, decide_eq_true k4]; rfl)
          clear h0 k1 k4 HE4
          go_wp2_with (go_at_call 44; (with_reducible refine (F4.out _).mono ?_); rintro e w' ⟨rfl, rfl⟩)
          go_meet
          case rel => exact ⟨by rw [HA.out], rfl⟩
    · obtain ⟨e0, e1, e2⟩ := some_facts h0
      have HA : Hid (nameL s.abt.data.toList = ab) := Lib.hid (by rw [HE4.out]; unfold aboutB; rw [if_neg h0])
      rw [HA.out] at F4
      clear h0 HE4
      go_wp2_with (go_at_call 44; (with_reducible refine (F4.out _).mono ?_); rintro e w' ⟨rfl, rfl⟩)
      go_meet
      case rel => exact ⟨rfl, rfl⟩
  case rest =>
    obtain ⟨rfl, rfl⟩ := hcut
    clear F4 HE4 HW
    cases b1 with
    | false =>
      go_wp2_with (first | (go_at_call 33; first | ((with_reducible refine (F1.out _).mono ?_); rintro e w' ⟨rfl, rfl⟩) | ((with_reducible refine (F6.out _).mono ?_); rintro e w' ⟨rfl, rfl⟩) | ((with_reducible refine (F7.out _).mono ?_); rintro e w' ⟨rfl, rfl⟩)) | (go_at_call 45; (with_reducible refine (F2.out _).mono ?_); rintro e w' ⟨rfl, rfl⟩) | (go_at_call 44; (with_reducible refine (F3.out _).mono ?_); rintro e w' ⟨rfl, rfl⟩))
      go_ret
      exact ⟨by simp, HWB.out⟩
    | true =>
      cases b2 with
      | false =>
        go_wp2_with (first | (go_at_call 33; first | ((with_reducible refine (F1.out _).mono ?_); rintro e w' ⟨rfl, rfl⟩) | ((with_reducible refine (F6.out _).mono ?_); rintro e w' ⟨rfl, rfl⟩) | ((with_reducible refine (F7.out _).mono ?_); rintro e w' ⟨rfl, rfl⟩)) | (go_at_call 45; (with_reducible refine (F2.out _).mono ?_); rintro e w' ⟨rfl, rfl⟩) | (go_at_call 44; (with_reducible refine (F3.out _).mono ?_); rintro e w' ⟨rfl, rfl⟩))
        go_ret
        exact ⟨by simp, HWB.out⟩
      | true =>
        cases b3 with
        | false =>
          go_wp2_with (first | (go_at_call 33; first | ((with_reducible refine (F1.out _).mono ?_); rintro e w' ⟨rfl, rfl⟩) | ((with_reducible refine (F6.out _).mono ?_); rintro e w' ⟨rfl, rfl⟩) | ((with_reducible refine (F7.out _).mono ?_); rintro e w' ⟨rfl, rfl⟩)) | (go_at_call 45; (with_reducible refine (F2.out _).mono ?_); rintro e w' ⟨rfl, rfl⟩) | (go_at_call 44; (with_reducible refine (F3.out _).mono ?_); rintro e w' ⟨rfl, rfl⟩))
          go_ret
          exact ⟨by simp, HWB.out⟩
        | true =>
          cases ab with
          | false =>
            go_wp2_with (first | (go_at_call 33; first | ((with_reducible refine (F1.out _).mono ?_); rintro e w' ⟨rfl, rfl⟩) | ((with_reducible refine (F6.out _).mono ?_); rintro e w' ⟨rfl, rfl⟩) | ((with_reducible refine (F7.out _).mono ?_); rintro e w' ⟨rfl, rfl⟩)) | (go_at_call 45; (with_reducible refine (F2.out _).mono ?_); rintro e w' ⟨rfl, rfl⟩) | (go_at_call 44; (with_reducible refine (F3.out _).mono ?_); rintro e w' ⟨rfl, rfl⟩))
            go_ret
            exact ⟨by simp, HWB.out⟩
          | true =>
            cases q with
            | false =>
              go_wp2_with (first | (go_at_call 33; first | ((with_reducible refine (F1.out _).mono ?_); rintro e w' ⟨rfl, rfl⟩) | ((with_reducible refine (F6.out _).mono ?_); rintro e w' ⟨rfl, rfl⟩) | ((with_reducible refine (F7.out _).mono ?_); rintro e w' ⟨rfl, rfl⟩)) | (go_at_call 45; (with_reducible refine (F2.out _).mono ?_); rintro e w' ⟨rfl, rfl⟩) | (go_at_call 44; (with_reducible refine (F3.out _).mono ?_); rintro e w' ⟨rfl, rfl⟩))
              refine (HQ.out _ (Below.refl _ _)).mono ?_
              rintro e w3 ⟨rfl, hb⟩
              have HB3 := Lib.hid (below_chain HWB.out hb)
              obtain ⟨-, -, -, -, -, d5, d6⟩ := rep_cells (stay HR.out hb)
              clear hb c0 c1 c2 c3 c4 c5 c6
              go_wp2_with (first | (go_at_call 33; first | ((with_reducible refine (F1.out _).mono ?_); rintro e w' ⟨rfl, rfl⟩) | ((with_reducible refine (F6.out _).mono ?_); rintro e w' ⟨rfl, rfl⟩) | ((with_reducible refine (F7.out _).mono ?_); rintro e w' ⟨rfl, rfl⟩)) | (go_at_call 45; (with_reducible refine (F2.out _).mono ?_); rintro e w' ⟨rfl, rfl⟩) | (go_at_call 44; (with_reducible refine (F3.out _).mono ?_); rintro e w' ⟨rfl, rfl⟩))
              go_ret
              exact ⟨by simp, HB3.out⟩
            | true =>
              cases b6 with
              | false =>
                go_wp2_with (first | (go_at_call 33; first | ((with_reducible refine (F1.out _).mono ?_); rintro e w' ⟨rfl, rfl⟩) | ((with_reducible refine (F6.out _).mono ?_); rintro e w' ⟨rfl, rfl⟩) | ((with_reducible refine (F7.out _).mono ?_); rintro e w' ⟨rfl, rfl⟩)) | (go_at_call 45; (with_reducible refine (F2.out _).mono ?_); rintro e w' ⟨rfl, rfl⟩) | (go_at_call 44; (with_reducible refine (F3.out _).mono ?_); rintro e w' ⟨rfl, rfl⟩))
                refine (HQ.out _ (Below.refl _ _)).mono ?_
                rintro e w3 ⟨rfl, hb⟩
                have HB3 := Lib.hid (below_chain HWB.out hb)
                obtain ⟨-, -, -, -, -, d5, d6⟩ := rep_cells (stay HR.out hb)
                clear hb c0 c1 c2 c3 c4 c5 c6
                go_wp2_with (first | (go_at_call 33; first | ((with_reducible refine (F1.out _).mono ?_); rintro e w' ⟨rfl, rfl⟩) | ((with_reducible refine (F6.out _).mono ?_); rintro e w' ⟨rfl, rfl⟩) | ((with_reducible refine (F7.out _).mono ?_); rintro e w' ⟨rfl, rfl⟩)) | (go_at_call 45; (with_reducible refine (F2.out _).mono ?_); rintro e w' ⟨rfl, rfl⟩) | (go_at_call 44; (with_reducible refine (F3.out _).mono ?_); rintro e w' ⟨rfl, rfl⟩))
                go_ret
                exact ⟨by simp, HB3.out⟩
              | true =>
                go_wp2_with (first | (go_at_call 33; first | ((with_reducible refine (F1.out _).mono ?_); rintro e w' ⟨rfl, rfl⟩) | ((with_reducible refine (F6.out _).mono ?_); rintro e w' ⟨rfl, rfl⟩) | ((with_reducible refine (F7.out _).mono ?_); rintro e w' ⟨rfl, rfl⟩)) | (go_at_call 45; (with_reducible refine (F2.out _).mono ?_); rintro e w' ⟨rfl, rfl⟩) | (go_at_call 44; (with_reducible refine (F3.out _).mono ?_); rintro e w' ⟨rfl, rfl⟩))
                refine (HQ.out _ (Below.refl _ _)).mono ?_
                rintro e w3 ⟨rfl, hb⟩
                have HB3 := Lib.hid (below_chain HWB.out hb)
                obtain ⟨-, -, -, -, -, d5, d6⟩ := rep_cells (stay HR.out hb)
                clear hb c0 c1 c2 c3 c4 c5 c6
                go_wp2_with (first | (go_at_call 33; first | ((with_reducible refine (F1.out _).mono ?_); rintro e w' ⟨rfl, rfl⟩) | ((with_reducible refine (F6.out _).mono ?_); rintro e w' ⟨rfl, rfl⟩) | ((with_reducible refine (F7.out _).mono ?_); rintro e w' ⟨rfl, rfl⟩)) | (go_at_call 45; (with_reducible refine (F2.out _).mono ?_); rintro e w' ⟨rfl, rfl⟩) | (go_at_call 44; (with_reducible refine (F3.out _).mono ?_); rintro e w' ⟨rfl, rfl⟩))
                go_ret
                exact ⟨by simp, HB3.out⟩

/-- more than a statement looks at. -/
def greatB (s : St) (n : Nat) : Bool := decide (100 < (s.src.size : Int)) || decide (100 < (s.abt.size : Int)) || decide (30 < (n : Int))
set_option maxRecDepth 100000 in
set_option maxHeartbeats 2000000 in
theorem refGreat_any (s : St) (A : Option Addr) (n cap : Nat) (w : World) :
    Calls Tryz.prog 14 #[repA s.kind s.time s.src s.abt (.slice A n cap) s.souls s.trust] w fun e w' => e = .returned (.bool (greatB s n)) ∧ Below w.heap.size w w' := by
  by_cases h1 : 100 < s.src.size
  · have HR : Hid (greatB s n = true) := Lib.hid (by unfold greatB; rw [decide_eq_true (show 100 < (s.src.size : Int) by omega)]; simp)
    go_enter Tryz.func14, Tryz.ntmps14
    go_wp2
    go_ret
    exact ⟨by rw [HR.out]; rfl, new_below _ _⟩
  · by_cases h2 : 100 < s.abt.size
    · have HR : Hid (greatB s n = true) := Lib.hid (by unfold greatB; rw [decide_eq_true (show 100 < (s.abt.size : Int) by omega)]; simp)
      go_enter Tryz.func14, Tryz.ntmps14
      go_wp2
      go_ret
      exact ⟨by rw [HR.out]; rfl, new_below _ _⟩
    · by_cases h3 : 30 < n
      · go_enter Tryz.func14, Tryz.ntmps14
        go_wp2
        go_ret
        exact ⟨rfl, new_below _ _⟩
      · go_enter Tryz.func14, Tryz.ntmps14
        go_wp2
        go_ret
        exact ⟨rfl, new_below _ _⟩
end Go.Proofs.YtjcaaejfokmolaaGreatDoor
