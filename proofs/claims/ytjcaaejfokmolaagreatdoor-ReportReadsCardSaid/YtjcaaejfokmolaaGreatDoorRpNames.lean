/- Several parts: isName, isDigits: what the parts of a line may be. What a number of a line is. Plain mathematics. -/
import Derived.Test.YtjcaaejfokmolaaGreatDoorRpMem
import Derived.LoopTactic
import Derived.Lib.Strings
import Derived.Lib.Atoi
/- isName, isDigits: what the parts of a line may be. -/
namespace Go.Proofs.YtjcaaejfokmolaaGreatDoor
open Go.RowKit

def nameC (c : UInt8) : Bool := letB c || digB c || c == 45
def nameL (l : List UInt8) : Bool := decide (1 ≤ l.length ∧ l.length ≤ 32) && letB (l.headD 0) && l.all nameC
def digitsL (l : List UInt8) : Bool := l.all digB && (l == [48] || (l != [] && l.headD 0 != 48))

theorem take_all {p : UInt8 → Bool} (s : ByteArray) (k : Nat) (h : k < s.size) (hk : (s.data.toList.take k).all p = true) : (s.data.toList.take (k + 1)).all p = p s[k] := by
  rw [List.take_succ_eq_append_getElem (by simpa using h), List.all_append, hk]
  simp; rfl
theorem all_not {p : UInt8 → Bool} (s : ByteArray) (k : Nat) (h : k < s.size) (hp : p s[k] = false) : s.data.toList.all p = false := by
  rw [List.all_eq_false]
  exact ⟨s[k], by
    have : s[k] = s.data.toList[k]'(by simpa using h) := rfl
    rw [this]; exact List.getElem_mem _, by simp [hp]⟩

theorem empty_of' (s : ByteArray) (h : s.size = 0) : s.toList.isEmpty = true := by
  rw [ByteArray.toList_eq, Array.eq_empty_of_size_eq_zero (xs := s.data) h]; rfl
theorem nonempty_of' (s : ByteArray) (h : 0 < s.size) : s.toList.isEmpty = false := by
  rw [ByteArray.toList_eq]
  cases e : s.data.toList with
  | nil =>
    have h1 : s.data.toList.length = s.size := rfl
    rw [e, List.length_nil] at h1
    omega
  | cons a l => rfl
theorem head_of (s : ByteArray) (h0 : 0 < s.size) : s.data.toList.headD 0 = s[0] := by
  have hh : s.data.toList.head? = some s[0] := by
    rw [List.head?_eq_getElem?, Array.getElem?_toList]; exact Array.getElem?_eq_getElem h0
  rw [List.headD_eq_head?_getD, hh]; rfl

set_option maxHeartbeats 1000000 in
theorem isDigits_any (s : ByteArray) (w : World) (hs : s.size ≤ 9223372036854775807) :
    Calls Tryz.prog 109 #[.string s] w fun e w' => e = .returned (.bool (digitsL s.data.toList)) ∧ w = w' := by
  go_enter Tryz.func109, Tryz.ntmps109
  go_wp2
  go_loop [6] (fun iv => ∃ k : Nat, k ≤ s.size ∧ iv = .int .i64 k ∧ (s.data.toList.take k).all digB = true) (fun iv => s.size - (intOf iv).toNat)
  case atStart => exact ⟨0, Nat.zero_le _, rfl, rfl⟩
  case round =>
    obtain ⟨k, hk, rfl, hall⟩ := hrel
    have HA := Lib.hid hall; clear hall
    by_cases hlt : k < s.size
    · cases hd : digB s[k] with
      | true =>
        have hc := isDigit_any s[k] w
        rw [hd] at hc
        have HD := Lib.hid hd; clear hd
        go_wp2_with (go_at_call 81; refine hc.mono ?_; rintro e w' ⟨rfl, rfl⟩)
        go_round
        case rel => exact ⟨k + 1, by omega, by go_num, by rw [take_all s k hlt HA.out]; exact HD.out⟩
        case measure => simp [intOf]; omega
      | false =>
        have hc := isDigit_any s[k] w
        rw [hd] at hc
        have HD := Lib.hid hd; clear hd
        go_wp2_with (go_at_call 81; refine hc.mono ?_; rintro e w' ⟨rfl, rfl⟩)
        go_ret
        refine ⟨?_, rfl⟩
        have := all_not s k hlt HD.out
        simp [digitsL, this]
    · obtain rfl : k = s.size := by omega
      have hfull : s.data.toList.all digB = true := by
        have := HA.out; rwa [List.take_of_length_le (by rw [← Lib.size_eq]; exact Nat.le_refl _)] at this
      by_cases h48 : s.toList = [48]
      · have E1 : Hid (digitsL s.data.toList = true) := Lib.hid (by rw [← ByteArray.toList_eq, h48]; rfl)
        clear hfull
        go_wp2
        go_ret
        exact ⟨by rw [E1.out]; rfl, rfl⟩
      · have h48' : ¬ s.data.toList = [48] := by rw [← ByteArray.toList_eq]; exact h48
        have h48b : (s.toList == [48]) = false := by simpa using h48
        by_cases h0 : s.size = 0
        · have E1 : Hid (digitsL s.data.toList = false) := Lib.hid (by
            have : s.data.toList = [] := List.eq_nil_of_length_eq_zero (by rw [← Lib.size_eq]; exact h0)
            rw [this]; rfl)
          have b1 := empty_of' s h0
          have b2 : (!s.toList.isEmpty) = false := by rw [b1]; rfl
          have H0 := Lib.hid h0
          clear hfull h48' h0
          go_wp2
          go_ret
          exact ⟨by rw [E1.out]; rfl, rfl⟩
        · have h0' : 0 < s.size := by omega
          have b1 := nonempty_of' s h0'
          have b2 : (!s.toList.isEmpty) = true := by rw [b1]; rfl
          have hh : s.data.toList.headD 0 = s[0] := head_of s h0'
          have hne : s.data.toList ≠ [] := by
            intro e
            have h1 : s.data.toList.length = s.size := rfl
            rw [e, List.length_nil] at h1; omega
          by_cases hz : s[0] = 48
          · have b3 : ((s[0].toNat : Int) != 48) = false := by rw [hz]; rfl
            have E1 : Hid (digitsL s.data.toList = false) := Lib.hid (by unfold digitsL; rw [hh, hz]; simp [h48'])
            have HZ := Lib.hid hz
            clear hfull h48' hh hne hz
            go_wp2
            go_ret
            exact ⟨by rw [E1.out]; rfl, rfl⟩
          · have b3 : ((s[0].toNat : Int) != 48) = true := by
              rw [bne_iff_ne]; intro e
              exact hz (UInt8.toNat_inj.1 (by have : s[0].toNat = 48 := by omega
                                              rw [this]; rfl))
            have E1 : Hid (digitsL s.data.toList = true) := Lib.hid (by unfold digitsL; rw [hh, hfull]; simp [hne, hz])
            clear hfull h48' hh hne hz
            go_wp2
            go_ret
            exact ⟨by rw [E1.out]; rfl, rfl⟩

set_option maxHeartbeats 1000000 in
theorem isName_any (s : ByteArray) (w : World) (hs : s.size ≤ 9223372036854775807) :
    Calls Tryz.prog 42 #[.string s] w fun e w' => e = .returned (.bool (nameL s.data.toList)) ∧ w = w' := by
  have hf := isFrom_any s.size 1 32 w
  by_cases hlen : (1 : Int) ≤ s.size ∧ (s.size : Int) ≤ 32
  · rw [inB_true.2 hlen] at hf
    have h0' : 0 < s.size := by omega
    have hh : s.data.toList.headD 0 = s[0] := head_of s h0'
    have hll : (1 ≤ s.data.toList.length ∧ s.data.toList.length ≤ 32) := by rw [← Lib.size_eq]; omega
    have E0 : Hid (nameL s.data.toList = (letB s[0] && s.data.toList.all nameC)) := Lib.hid (by unfold nameL; rw [decide_eq_true hll, hh]; rfl)
    have hc0 := isLetter_any s[0] w
    clear hh hll
    cases hb : letB s[0] with
    | false =>
      rw [hb] at hc0
      have E1 : Hid (nameL s.data.toList = false) := Lib.hid (by rw [E0.out, hb]; rfl)
      clear hb
      go_enter Tryz.func42, Tryz.ntmps42
      go_wp2_with (first | (go_at_call 30; refine hf.mono ?_; rintro e w' ⟨rfl, rfl⟩) | (go_at_call 80; refine hc0.mono ?_; rintro e w' ⟨rfl, rfl⟩))
      go_ret
      exact ⟨by rw [E1.out]; rfl, rfl⟩
    | true =>
      rw [hb] at hc0
      have E1 : Hid (nameL s.data.toList = s.data.toList.all nameC) := Lib.hid (by rw [E0.out, hb]; rfl)
      clear hb
      go_enter Tryz.func42, Tryz.ntmps42
      go_wp2_with (first | (go_at_call 30; refine hf.mono ?_; rintro e w' ⟨rfl, rfl⟩) | (go_at_call 80; refine hc0.mono ?_; rintro e w' ⟨rfl, rfl⟩))
      clear hf hc0
      go_loop [16] (fun iv => ∃ k : Nat, k ≤ s.size ∧ iv = .int .i64 k ∧ (s.data.toList.take k).all nameC = true) (fun iv => s.size - (intOf iv).toNat)
      case atStart => exact ⟨0, Nat.zero_le _, rfl, rfl⟩
      case round =>
        obtain ⟨k, hk, rfl, hall⟩ := hrel
        have HA := Lib.hid hall; clear hall
        by_cases hlt : k < s.size
        · have hc := isLetter_any s[k] w
          have hd := isDigit_any s[k] w
          cases hb : letB s[k] with
          | true =>
            rw [hb] at hc
            have HN : Hid (nameC s[k] = true) := Lib.hid (by unfold nameC; rw [hb]; rfl)
            clear hb hd
            go_wp2_with (go_at_call 80; refine hc.mono ?_; rintro e w' ⟨rfl, rfl⟩)
            go_round
            case rel => exact ⟨k + 1, by omega, by go_num, by rw [take_all s k hlt HA.out]; exact HN.out⟩
            case measure => simp [intOf]; omega
          | false =>
            rw [hb] at hc
            cases hg : digB s[k] with
            | true =>
              rw [hg] at hd
              have HN : Hid (nameC s[k] = true) := Lib.hid (by unfold nameC; rw [hg]; simp)
              clear hb hg
              go_wp2_with (first | (go_at_call 80; refine hc.mono ?_; rintro e w' ⟨rfl, rfl⟩) | (go_at_call 81; refine hd.mono ?_; rintro e w' ⟨rfl, rfl⟩))
              go_round
              case rel => exact ⟨k + 1, by omega, by go_num, by rw [take_all s k hlt HA.out]; exact HN.out⟩
              case measure => simp [intOf]; omega
            | false =>
              rw [hg] at hd
              by_cases hm : s[k] = 45
              · have b3 : ((s[k].toNat : Int) != 45) = false := by rw [hm]; rfl
                have HN : Hid (nameC s[k] = true) := Lib.hid (by unfold nameC; rw [hm]; rfl)
                clear hb hg hm
                go_wp2_with (first | (go_at_call 80; refine hc.mono ?_; rintro e w' ⟨rfl, rfl⟩) | (go_at_call 81; refine hd.mono ?_; rintro e w' ⟨rfl, rfl⟩))
                go_round
                case rel => exact ⟨k + 1, by omega, by go_num, by rw [take_all s k hlt HA.out]; exact HN.out⟩
                case measure => simp [intOf]; omega
              · have b3 : ((s[k].toNat : Int) != 45) = true := by
                  rw [bne_iff_ne]; intro e
                  exact hm (UInt8.toNat_inj.1 (by have : s[k].toNat = 45 := by omega
                                                  rw [this]; rfl))
                have HN : Hid (s.data.toList.all nameC = false) := Lib.hid (all_not s k hlt (by unfold nameC; rw [hb, hg]; simp [hm]))
                clear hb hg hm
                go_wp2_with (first | (go_at_call 80; refine hc.mono ?_; rintro e w' ⟨rfl, rfl⟩) | (go_at_call 81; refine hd.mono ?_; rintro e w' ⟨rfl, rfl⟩))
                go_ret
                exact ⟨by rw [E1.out, HN.out]; rfl, rfl⟩
        · obtain rfl : k = s.size := by omega
          have HF : Hid (s.data.toList.all nameC = true) := Lib.hid (by
            have := HA.out; rwa [List.take_of_length_le (by rw [← Lib.size_eq]; exact Nat.le_refl _)] at this)
          go_wp2
          go_ret
          exact ⟨by rw [E1.out, HF.out]; rfl, rfl⟩
  · rw [inB_false.2 hlen] at hf
    have E1 : Hid (nameL s.data.toList = false) := Lib.hid (by
      unfold nameL; rw [decide_eq_false (by rw [← Lib.size_eq]; omega)]; rfl)
    clear hlen
    go_enter Tryz.func42, Tryz.ntmps42
    go_wp2_with (go_at_call 30; refine hf.mono ?_; rintro e w' ⟨rfl, rfl⟩)
    go_ret
    exact ⟨by rw [E1.out]; rfl, rfl⟩
end Go.Proofs.YtjcaaejfokmolaaGreatDoor
/- What a number of a line is. Plain mathematics. -/
namespace Go.Proofs.YtjcaaejfokmolaaGreatDoor
open Go.RowKit

/-- has a part the form of a number? -/
def formL (p : List UInt8) : Bool := digitsL (Lib.trimPrefix p [45]) && decide ((Lib.trimPrefix p [45]).length ≤ 10) && !(p == [45, 48])
def valL (p : List UInt8) : Int := (Lib.atoi p).getD 0

theorem dec_some : ∀ (l : List UInt8) (acc : Nat), l.all digB = true → ∃ n, Lib.decFrom acc l = some n
  | [], acc, _ => ⟨acc, rfl⟩
  | c :: r, acc, h => by
    rw [List.all_cons, Bool.and_eq_true] at h
    have h1 : 48 ≤ c.toNat ∧ c.toNat ≤ 57 := by have := h.1; simp [digB] at this; omega
    unfold Lib.decFrom
    have : Lib.digitVal c = some (c.toNat - 48) := by unfold Lib.digitVal; rw [if_pos h1]
    rw [this]
    exact dec_some r _ h.2

theorem atoi_form (p : List UInt8) (h : formL p = true) : ∃ n, Lib.atoi p = some n := by
  unfold formL at h
  rw [Bool.and_eq_true, Bool.and_eq_true] at h
  obtain ⟨⟨h1, _⟩, _⟩ := h
  unfold digitsL at h1
  rw [Bool.and_eq_true] at h1
  obtain ⟨h2, h3⟩ := h1
  cases p with
  | nil => simp [Lib.trimPrefix, Lib.hasPrefix] at h3
  | cons c r =>
    by_cases hc : c = 45
    · subst hc
      have e1 : Lib.trimPrefix (45 :: r) [45] = r := by simp [Lib.trimPrefix, Lib.hasPrefix]
      rw [e1] at h2 h3
      obtain ⟨n, hn⟩ := dec_some r 0 h2
      have hne : r ≠ [] := by rintro rfl; simp at h3
      simp [Lib.atoi, Lib.decNat, hn, hne]
    · have e1 : Lib.trimPrefix (c :: r) [45] = c :: r := by
        simp [Lib.trimPrefix, Lib.hasPrefix]; intro e; exact absurd e.symm hc
      rw [e1] at h2 h3
      obtain ⟨n, hn⟩ := dec_some (c :: r) 0 h2
      have h43 : ¬ c = 43 := by
        rw [List.all_cons, Bool.and_eq_true] at h2
        rintro rfl
        have := h2.1; simp [digB] at this
      simp [Lib.atoi, Lib.decNat, hn, hc, h43]

theorem form_short (p : List UInt8) (h : formL p = true) : p.length ≤ 11 := by
  unfold formL at h
  rw [Bool.and_eq_true, Bool.and_eq_true] at h
  have h1 := of_decide_eq_true h.1.2
  have : p.length ≤ (Lib.trimPrefix p [45]).length + 1 := by
    unfold Lib.trimPrefix
    split
    · rw [List.length_drop]; simp only [List.length_cons, List.length_nil]; omega
    · omega
  omega
theorem atoi_val (p : List UInt8) (h : formL p = true) : Lib.atoi p = some (valL p) := by
  obtain ⟨n, hn⟩ := atoi_form p h
  rw [valL, hn]; rfl
end Go.Proofs.YtjcaaejfokmolaaGreatDoor
