/- The document's Time, Name; whether a beacon is trusted. -/
import Derived.Test.YtjcaaejfokmolaaGreatDoorRpRefIn
import Derived.Test.YtjcaaejfokmolaaGreatDoorRpNames
import Derived.Deep.DeepCutAuto
namespace Go.Proofs.YtjcaaejfokmolaaGreatDoor
open Go.RowKit

theorem refTime_any (n : Int) (w : World) : Calls Tryz.prog 45 #[.int .i64 n] w fun e w' => e = .returned (.bool (inB n 0 1073741824)) ∧ w = w' := by
  go_enter Tryz.func45, Tryz.ntmps45
  go_wp2_with (go_at_call 33; refine (refIn_any _ _ _ _).mono ?_; rintro e w' ⟨rfl, rfl⟩)
  go_ret
  exact ⟨rfl, rfl⟩

/-- how far a beacon is trusted. -/
def trustZ (b : Int) : Int := if b = 0 then 500 else if b = 1 then 700 else 300
theorem trustBy_any (b : Int) (w : World) : Calls Tryz.prog 61 #[.int .i64 b] w fun e w' => e = .returned (.int .i64 (trustZ b)) ∧ w = w' := by
  by_cases h0 : b = 0
  · subst h0
    have hr : Hid (trustZ 0 = 500) := Lib.hid rfl
    rw [hr.out]
    go_enter Tryz.func61, Tryz.ntmps61
    go_wp2
    go_ret
    exact ⟨rfl, rfl⟩
  · by_cases h1 : b = 1
    · subst h1
      have hr : Hid (trustZ 1 = 700) := Lib.hid rfl
      rw [hr.out]
      go_enter Tryz.func61, Tryz.ntmps61
      go_wp2
      go_ret
      exact ⟨rfl, rfl⟩
    · have hr : Hid (trustZ b = 300) := Lib.hid (by unfold trustZ; rw [if_neg h0, if_neg h1])
      rw [hr.out]
      go_enter Tryz.func61, Tryz.ntmps61
      go_wp2
      go_ret
      exact ⟨rfl, rfl⟩

theorem letB_yes {c : UInt8} (h : letB c = true) : 97 ≤ (c.toNat : Int) ∧ (c.toNat : Int) ≤ 122 := of_decide_eq_true h
theorem letB_no {c : UInt8} (h : letB c = false) : ¬ (97 ≤ (c.toNat : Int) ∧ (c.toNat : Int) ≤ 122) := of_decide_eq_false h
theorem digB_yes {c : UInt8} (h : digB c = true) : 48 ≤ (c.toNat : Int) ∧ (c.toNat : Int) ≤ 57 := of_decide_eq_true h
theorem digB_no {c : UInt8} (h : digB c = false) : ¬ (48 ≤ (c.toNat : Int) ∧ (c.toNat : Int) ≤ 57) := of_decide_eq_false h

set_option maxRecDepth 100000 in
set_option maxHeartbeats 4000000 in
theorem refName_any (s : ByteArray) (w : World) (hs : s.size ≤ 9223372036854775807) :
    Calls Tryz.prog 44 #[.string s] w fun e w' => e = .returned (.bool (nameL s.data.toList)) ∧ w = w' := by
  have hf := refIn_any s.size 1 32 w
  by_cases hlen : (1 : Int) ≤ s.size ∧ (s.size : Int) ≤ 32
  · rw [inB_true.2 hlen] at hf
    have h0' : 0 < s.size := by omega
    have hh : s.data.toList.headD 0 = s[0] := head_of s h0'
    have hll : (1 ≤ s.data.toList.length ∧ s.data.toList.length ≤ 32) := by rw [← Lib.size_eq]; omega
    have E0 : Hid (nameL s.data.toList = (letB s[0] && s.data.toList.all nameC)) := Lib.hid (by unfold nameL; rw [decide_eq_true hll, hh]; rfl)
    clear hh hll
    obtain ⟨hl1, hl2⟩ := hlen
    cases hb : letB s[0] with
    | false =>
      have E1 : Hid (nameL s.data.toList = false) := Lib.hid (by rw [E0.out, hb]; rfl)
      have hn := letB_no hb
      clear hb E0
      by_cases hx : (s[0].toNat : Int) < 97
      · clear hn
        go_enter Tryz.func44, Tryz.ntmps44
        go_wp2_with (go_at_call 33; refine hf.mono ?_; rintro e w' ⟨rfl, rfl⟩)
        go_ret
        exact ⟨by rw [E1.out]; rfl, rfl⟩
      · have hy : 122 < (s[0].toNat : Int) := by omega
        clear hn
        go_enter Tryz.func44, Tryz.ntmps44
        go_wp2_with (go_at_call 33; refine hf.mono ?_; rintro e w' ⟨rfl, rfl⟩)
        go_ret
        exact ⟨by rw [E1.out]; rfl, rfl⟩
    | true =>
      have E1 : Hid (nameL s.data.toList = s.data.toList.all nameC) := Lib.hid (by rw [E0.out, hb]; rfl)
      obtain ⟨hy1, hy2⟩ := letB_yes hb
      clear hb E0
      go_enter Tryz.func44, Tryz.ntmps44
      go_upto_region 3 with (go_at_call 33; refine hf.mono ?_; rintro e w' ⟨rfl, rfl⟩)
      generalize (s[0].toNat : Int) = c0 at hy1 hy2 ⊢
      clear hf hy1 hy2
      go_wp2_with fail
      go_loop [3] (fun iv => ∃ k : Nat, k ≤ s.size ∧ iv = .int .i64 k ∧ (s.data.toList.take k).all nameC = true) (fun iv => s.size - (intOf iv).toNat)
      case atStart => exact ⟨0, Nat.zero_le _, rfl, rfl⟩
      case round =>
        obtain ⟨k, hk, rfl, hall⟩ := hrel
        have HA := Lib.hid hall; clear hall
        by_cases hlt : k < s.size
        · cases hb : letB s[k] with
          | true =>
            have HN : Hid (nameC s[k] = true) := Lib.hid (by unfold nameC; rw [hb]; rfl)
            obtain ⟨z1, z2⟩ := letB_yes hb
            clear hb
            go_wp2
            go_round
            case rel => exact ⟨k + 1, by omega, by go_num, by rw [take_all s k hlt HA.out]; exact HN.out⟩
            case measure => simp [intOf]; omega
          | false =>
            have z := letB_no hb
            cases hg : digB s[k] with
            | true =>
              have HN : Hid (nameC s[k] = true) := Lib.hid (by unfold nameC; rw [hg]; simp)
              obtain ⟨z1, z2⟩ := digB_yes hg
              clear hb hg z
              go_wp2
              go_round
              case rel => exact ⟨k + 1, by omega, by go_num, by rw [take_all s k hlt HA.out]; exact HN.out⟩
              case measure => simp [intOf]; omega
            | false =>
              have y := digB_no hg
              by_cases hm : s[k] = 45
              · have b3 : ((s[k].toNat : Int) != 45) = false := by rw [hm]; rfl
                have b4 : (s[k].toNat : Int) = 45 := by rw [hm]; rfl
                have HN : Hid (nameC s[k] = true) := Lib.hid (by unfold nameC; rw [hm]; rfl)
                clear hb hg hm y z
                go_wp2
                go_round
                case rel => exact ⟨k + 1, by omega, by go_num, by rw [take_all s k hlt HA.out]; exact HN.out⟩
                case measure => simp [intOf]; omega
              · have b3 : ((s[k].toNat : Int) != 45) = true := by
                  rw [bne_iff_ne]; intro e
                  exact hm (UInt8.toNat_inj.1 (by have : s[k].toNat = 45 := by omega
                                                  rw [this]; rfl))
                have b4 : ¬ (s[k].toNat : Int) = 45 := by simpa using b3
                have HN : Hid (s.data.toList.all nameC = false) := Lib.hid (all_not s k hlt (by unfold nameC; rw [hb, hg]; simp [hm]))
                clear hb hg hm
                by_cases q1 : (s[k].toNat : Int) < 97
                · by_cases q2 : (s[k].toNat : Int) < 48
                  · clear y z
                    go_wp2
                    go_ret
                    exact ⟨by rw [E1.out, HN.out]; rfl, rfl⟩
                  · have q3 : 57 < (s[k].toNat : Int) := by omega
                    have d1 : decide ((s[k].toNat : Int) ≤ 57) = false := decide_eq_false (by omega)
                    clear y z
                    go_wp2
                    go_ret
                    exact ⟨by rw [E1.out, HN.out]; rfl, rfl⟩
                · have q3 : 122 < (s[k].toNat : Int) := by omega
                  have d1 : decide ((s[k].toNat : Int) ≤ 57) = false := decide_eq_false (by omega)
                  have d2 : decide ((s[k].toNat : Int) ≤ 122) = false := decide_eq_false (by omega)
                  clear y z
                  go_wp2
                  go_ret
                  exact ⟨by rw [E1.out, HN.out]; rfl, rfl⟩
        · obtain rfl : k = s.size := by omega
          have HF : Hid (s.data.toList.all nameC = true) := Lib.hid (by
            have := HA.out
            rwa [List.take_of_length_le (by rw [Lib.size_eq]; exact Nat.le_refl _)] at this)
          go_wp2
          go_ret
          exact ⟨by rw [E1.out, HF.out]; rfl, rfl⟩
  · rw [inB_false.2 hlen] at hf
    have E1 : Hid (nameL s.data.toList = false) := Lib.hid (by
      unfold nameL
      rw [decide_eq_false (by rw [← Lib.size_eq]; omega)]; rfl)
    go_enter Tryz.func44, Tryz.ntmps44
    go_wp2_with (go_at_call 33; refine hf.mono ?_; rintro e w' ⟨rfl, rfl⟩)
    go_ret
    exact ⟨by rw [E1.out]; rfl, rfl⟩
end Go.Proofs.YtjcaaejfokmolaaGreatDoor
