/- The document's Doubt. -/
import Derived.Test.YtbfleemflhlfbaaGreatDoorRpDbCheck
import Derived.Test.YtbfleemflhlfbaaGreatDoorRpDoubt
import Derived.Deep.DeepCutAuto
import Derived.BigQuiet
namespace Go.Proofs.YtbfleemflhlfbaaGreatDoor
open Go.RowKit

/-- report k keeps report i from counting. -/
def beatB (l : List Rpt) (k i : Nat) : Bool := match l[k]?, l[i]? with
  | some a, some b => decide (a.1.src = b.1.src) && (decide (b.1.trust < a.1.trust) || (decide (a.1.trust = b.1.trust) && decide (k < i)))
  | _, _ => false
def trustAt (l : List Rpt) (j : Nat) : Int := match l[j]? with
  | some r => r.1.trust
  | none => 0
def freeTo (l : List Rpt) (i n : Nat) : Bool := (List.range n).all fun k => !beatB l k i
def won (l : List Rpt) (n : Nat) : List Nat := (List.range n).filter fun i => freeTo l i l.length
def leftOf (l : List Rpt) (js : List Nat) : Int := js.foldl (fun a j => a * (1000 - trustAt l j)) 1
theorem freeTo_next (l : List Rpt) (i n : Nat) : freeTo l i (n + 1) = (freeTo l i n && !beatB l n i) := by
  unfold freeTo; rw [List.range_succ, List.all_append]; simp
theorem won_yes {l : List Rpt} {i : Nat} (h : freeTo l i l.length = true) : won l (i + 1) = won l i ++ [i] := by
  unfold won; rw [List.range_succ, List.filter_append]; simp [h]
theorem won_no {l : List Rpt} {i : Nat} (h : freeTo l i l.length = false) : won l (i + 1) = won l i := by
  unfold won; rw [List.range_succ, List.filter_append]; simp [h]
theorem won_grows (l : List Rpt) (i n : Nat) : (won l i).length ≤ (won l (i + n)).length := by
  induction n with
  | zero => exact Nat.le_refl _
  | succ n ih =>
    refine Nat.le_trans ih ?_
    rw [← Nat.add_assoc]
    cases h : freeTo l (i + n) l.length with
    | true => rw [won_yes h]; simp
    | false => rw [won_no h]; exact Nat.le_refl _
theorem left_next (l : List Rpt) (js : List Nat) (j : Nat) : leftOf l (js ++ [j]) = leftOf l js * (1000 - trustAt l j) := by
  unfold leftOf; rw [List.foldl_append]; rfl
theorem left_bd (l : List Rpt) (h : ∀ j, 0 ≤ trustAt l j ∧ trustAt l j ≤ 1000) : ∀ i, 0 ≤ leftOf l (won l i) ∧ leftOf l (won l i) ≤ 1000 ^ (won l i).length := by
  intro i
  induction i with
  | zero => exact ⟨by simp [won, leftOf], by simp [won, leftOf]⟩
  | succ i ih =>
    cases hf : freeTo l i l.length with
    | false => rw [won_no hf]; exact ih
    | true =>
      rw [won_yes hf, left_next, List.length_append, List.length_singleton, Int.pow_succ]
      have := h i
      exact ⟨Int.mul_nonneg ih.1 (by omega), Int.le_trans (Int.mul_le_mul_of_nonneg_left (by omega) ih.1) (Int.mul_le_mul_of_nonneg_right ih.2 (by omega))⟩
def refDoubtV (l : List Rpt) : Value :=
  if l = [] then .tuple #[.int .i64 0, .int .i64 0, .int .i64 7]
  else if allOk l then
    (if (won l l.length).length > 6 then .tuple #[.int .i64 0, .int .i64 0, .int .i64 3]
    else .tuple #[.int .i64 (leftOf l (won l l.length)), .int .i64 (1000 ^ (won l l.length).length), .int .i64 0])
  else .tuple #[.int .i64 0, .int .i64 0, .int .i64 2]
def RefCan (w : World) (r : Rpt) : Prop := (∃ A n cap, r.2.1 = .slice A n cap) ∧ RefSays w r.2.1 r.2.2 ∧ r.1.abt.size ≤ 9223372036854775807 ∧ r.1.src.size ≤ 9223372036854775807
theorem pow_le5 {n : Nat} (h : n ≤ 5) : (1000 : Int) ^ n ≤ 1000000000000000 := by
  have : n = 0 ∨ n = 1 ∨ n = 2 ∨ n = 3 ∨ n = 4 ∨ n = 5 := by omega
  rcases this with rfl | rfl | rfl | rfl | rfl | rfl <;> decide
theorem pow_nn (n : Nat) : (0 : Int) ≤ 1000 ^ n := by have := pow_pos1000 n; omega
theorem at_trust {l : List Rpt} {k : Nat} {s : St} {wv : Value} {q : Bool} (h : l[k]? = some (s, wv, q)) : trustAt l k = s.trust := by unfold trustAt; rw [h]
theorem beat_is {l : List Rpt} {k i : Nat} {s s' : St} {wv wv' : Value} {q q' : Bool} (h : l[k]? = some (s, wv, q)) (h' : l[i]? = some (s', wv', q')) : beatB l k i = (decide (s.src = s'.src) && (decide (s'.trust < s.trust) || (decide (s.trust = s'.trust) && decide (k < i)))) := by
  unfold beatB; rw [h, h']

theorem refDoubt_none (A : Option Addr) (cap : Nat) (w : World) :
    Calls Tryz.prog 17 #[.slice A 0 cap] w fun e w' => e = .returned (refDoubtV []) ∧ w = w' := by
  go_enter Tryz.func17, Tryz.ntmps17
  go_wp2
  exact bodyPost_ret (v := refDoubtV []) (by simp [results, Tryz.results17, go_sem, refDoubtV]) rfl ⟨rfl, rfl⟩

theorem twice_drew (w : World) (a b : Nat) : Below w.heap.size w ((w.drewN a).drewN b) := (below_draws' w a).trans (below_draws' (w.drewN a) b)

set_option maxRecDepth 100000 in
set_option maxHeartbeats 6000000 in
theorem refDoubt_some (l : List Rpt) (b off cap : Nat) (hl : l ≠ []) (hlen : l.length ≤ 1000000) (hcap : l.length ≤ cap) (w : World) (hb : b < w.heap.size)
    (hat : ∀ k s wv q, l[k]? = some (s, wv, q) → RepAt w b (off + k * 7) s wv) (hsay : ∀ r ∈ l, RefCan w r) :
    Calls Tryz.prog 17 #[.slice (some ⟨b, off, none⟩) l.length cap] w fun e w' => e = .returned (refDoubtV l) ∧ Below w.heap.size w w' := by
  obtain ⟨len, hln⟩ : ∃ len, len = l.length := ⟨_, rfl⟩
  have hl0 : len ≠ 0 := by rw [hln]; intro e; exact hl (List.length_eq_zero_iff.1 e)
  rw [← hln] at hlen hcap ⊢
  have HLN := Lib.hid hln; have HAT := Lib.hid hat; have HSAY := Lib.hid hsay; have HBLT := Lib.hid hb; have HNE := Lib.hid hl
  clear hln hat hsay hl hb
  have hz0 : ((len : Int) == 0) = false := by simp; omega
  go_enter Tryz.func17, Tryz.ntmps17
  go_wp2_with fail
  go_loopw [5] (fun iv wr => ∃ k : Nat, k ≤ len ∧ iv = .int .i64 k ∧ Hid (Below w.heap.size w wr ∧ allOk (l.take k) = true)) (fun iv _ => len - (intOf iv).toNat)
  case atStart => exact ⟨0, Nat.zero_le _, rfl, Lib.hid ⟨Below.refl _ _, rfl⟩⟩
  case round =>
    obtain ⟨k, hk, rfl, HI⟩ := hrel
    by_cases hlt : k < len
    · obtain ⟨⟨s, wv, q⟩, hgk⟩ : ∃ r : Rpt, l[k]? = some r := by
        have : k < l.length := by rw [← HLN.out]; exact hlt
        exact ⟨_, List.getElem?_eq_getElem this⟩
      obtain ⟨⟨A, n, cp, hwv⟩, hrs, hz1, hz2⟩ := HSAY.out _ (List.mem_of_getElem? hgk)
      simp only at hwv hrs hz1 hz2
      subst hwv
      obtain ⟨c0, c1, c2, c3, c4, c5, c6⟩ := (HAT.out k s _ q hgk).keep HI.out.1 HBLT.out
      have HC : Hid (Calls Tryz.prog 41 #[repA s.kind s.time s.src s.abt (.slice A n cp) s.souls s.trust] wr fun e w' => e = .returned (.bool (checkB s q)) ∧ Below wr.heap.size wr w') := Lib.hid (refCheckReport_any s A n cp wr q (fun W h => hrs W (HI.out.1.trans (h.mono HI.out.1.size))) hz1 hz2)
      have HGK := Lib.hid hgk; have HLT := Lib.hid hlt
      clear hgk hrs hz1 hz2
      go_wp2_with fail
      refine HC.out.mono ?_
      rintro e w3 ⟨rfl, hb3⟩
      have HB3 := Lib.hid (HI.out.1.trans (hb3.mono HI.out.1.size))
      clear hb3 HC c0 c1 c2 c3 c4 c5 c6
      cases hck : checkB s q with
      | false =>
        have HV : Hid (refDoubtV l = .tuple #[.int .i64 0, .int .i64 0, .int .i64 2]) := Lib.hid (by
          unfold refDoubtV
          have ha : allOk l = false := by
            unfold allOk; rw [List.all_eq_false]
            exact ⟨_, List.mem_of_getElem? HGK.out, by simp [hck]⟩
          rw [if_neg HNE.out, ha]; rfl)
        clear hck
        go_wp2
        exact bodyPost_ret (v := .tuple #[.int .i64 0, .int .i64 0, .int .i64 2]) (by simp [results, Tryz.results17, go_sem]) rfl ⟨by rw [HV.out], HB3.out⟩
      | true =>
        have HCK := Lib.hid hck
        clear hck
        go_wp2
        go_roundw
        case rel => exact ⟨k + 1, by have := HLT.out; omega, by go_num, Lib.hid ⟨HB3.out, ok_next HGK.out HI.out.2 HCK.out⟩⟩
        case measure => have := HLT.out; simp [intOf]; omega
    · have hkl : k = len := by omega
      have HOK : Hid (allOk l = true) := Lib.hid (by have := HI.out.2; rwa [hkl, HLN.out, List.take_length] at this)
      have HTR : Hid (∀ j, 0 ≤ trustAt l j ∧ trustAt l j ≤ 1000) := Lib.hid fun j => by
        unfold trustAt
        cases h : l[j]? with
        | none => exact ⟨Int.le_refl _, by decide⟩
        | some r =>
          have := HOK.out
          unfold allOk at this
          exact check_trust (List.all_eq_true.1 this r (List.mem_of_getElem? h))
      have HV : Hid (refDoubtV l = if (won l l.length).length > 6 then .tuple #[.int .i64 0, .int .i64 0, .int .i64 3] else .tuple #[.int .i64 (leftOf l (won l l.length)), .int .i64 (1000 ^ (won l l.length).length), .int .i64 0]) := Lib.hid (by
        unfold refDoubtV; rw [if_neg HNE.out, if_pos HOK.out])
      have HBW := Lib.hid HI.out.1
      clear HI HSAY hkl
      go_upto_region 8 with fail
      clear hlt hk
      go_wp2_with fail
      go_loopw [6, 7, 8, 9] (fun lv av mv iv wr => ∃ i : Nat, i ≤ len ∧ (won l i).length ≤ 6 ∧ lv = .int .i64 (leftOf l (won l i)) ∧ av = .int .i64 (1000 ^ (won l i).length) ∧ mv = .int .i64 ((won l i).length : Nat) ∧ iv = .int .i64 i ∧ Hid (Below w.heap.size w wr)) (fun _ _ _ iv _ => len - (intOf iv).toNat)
      case atStart => exact ⟨0, Nat.zero_le _, by simp [won], by simp [won, leftOf], by simp [won], by simp [won], rfl, HBW⟩
      case round =>
        obtain ⟨i, hi, h6, rfl, rfl, rfl, rfl, HI⟩ := hrel
        obtain ⟨L, hL⟩ : ∃ L, L = leftOf l (won l i) := ⟨_, rfl⟩
        obtain ⟨c, hc⟩ : ∃ c, c = (won l i).length := ⟨_, rfl⟩
        obtain ⟨P, hP⟩ : ∃ P : Int, P = 1000 ^ c := ⟨_, rfl⟩
        have hbd := left_bd l HTR.out i
        rw [← hL, ← hc, ← hP] at hbd
        rw [← hc] at h6
        rw [← hL, ← hc, ← hP]
        have HLCP : Hid (L = leftOf l (won l i) ∧ c = (won l i).length ∧ P = 1000 ^ c) := Lib.hid ⟨hL, hc, hP⟩
        have HBD := Lib.hid hbd
        clear hL hc hP hbd
        by_cases hlt2 : i < len
        · obtain ⟨⟨s, wv, q⟩, hgi⟩ : ∃ r : Rpt, l[i]? = some r := by
            have : i < l.length := by rw [← HLN.out]; exact hlt2
            exact ⟨_, List.getElem?_eq_getElem this⟩
          have HGI := Lib.hid hgi
          have HLT2 := Lib.hid hlt2
          clear hgi
          go_wp2_with fail
          generalize decide ((i : Int) < (len : Int)) = di
          clear hlt2
          go_loopw [10, 11] (fun cv kv wr => ∃ k : Nat, k ≤ len ∧ cv = .bool (freeTo l i k) ∧ kv = .int .i64 k ∧ Hid (Below w.heap.size w wr)) (fun _ kv _ => len - (intOf kv).toNat)
          case atStart => exact ⟨0, Nat.zero_le _, rfl, rfl, HI⟩
          case round =>
            obtain ⟨k, hk, rfl, rfl, HJ⟩ := hrel
            by_cases hkn : k < len
            · obtain ⟨⟨s', wv', q'⟩, hgk⟩ : ∃ r : Rpt, l[k]? = some r := by
                have : k < l.length := by rw [← HLN.out]; exact hkn
                exact ⟨_, List.getElem?_eq_getElem this⟩
              have hil : i < len := HLT2.out
              have c2 := ((HAT.out k s' _ q' hgk).keep HJ.out HBLT.out).c2
              have c6 := ((HAT.out k s' _ q' hgk).keep HJ.out HBLT.out).c6
              have d2 := ((HAT.out i s _ q HGI.out).keep HJ.out HBLT.out).c2
              have d6 := ((HAT.out i s _ q HGI.out).keep HJ.out HBLT.out).c6
              have HBEAT := Lib.hid (beat_is hgk HGI.out)
              have HFN := Lib.hid (freeTo_next l i k)
              obtain ⟨fr, hfr⟩ : ∃ fr, fr = freeTo l i k := ⟨_, rfl⟩
              rw [← hfr]
              rw [← hfr] at HFN
              have HKN := Lib.hid hkn
              clear hgk hfr
              by_cases hs : s'.src = s.src
              · have HS := Lib.hid hs
                rw [hs] at c2
                clear hs
                by_cases ht : s.trust < s'.trust
                · have HNV : Hid (freeTo l i (k + 1) = false) := Lib.hid (by rw [HFN.out, HBEAT.out, decide_eq_true HS.out, decide_eq_true ht]; simp)
                  go_wp2_with fail
                  go_quiet (fail)
                  go_wp2_with fail
                  go_quiet (fail)
                  clear c2 d2 c6 d6 ht
                  go_wp2
                  go_roundw
                  case rel => exact ⟨k + 1, by have := HKN.out; omega, by rw [HNV.out], by go_num, Lib.hid (HJ.out.trans ((below_draws' wr _).mono HJ.out.size))⟩
                  case measure => have := HKN.out; simp [intOf]; omega
                · by_cases te : s'.trust = s.trust
                  · rw [te] at c6 ht
                    by_cases tk : k < i
                    · have HNV : Hid (freeTo l i (k + 1) = false) := Lib.hid (by rw [HFN.out, HBEAT.out, decide_eq_true HS.out, decide_eq_true te, decide_eq_true tk]; simp)
                      clear te
                      go_wp2_with fail
                      go_quiet (fail)
                      go_wp2_with fail
                      go_quiet (fail)
                      clear c2 d2 c6 d6 ht tk
                      go_wp2
                      go_roundw
                      case rel => exact ⟨k + 1, by have := HKN.out; omega, by rw [HNV.out], by go_num, Lib.hid (HJ.out.trans ((below_draws' wr _).mono HJ.out.size))⟩
                      case measure => have := HKN.out; simp [intOf]; omega
                    · have HNV : Hid (freeTo l i (k + 1) = fr) := Lib.hid (by rw [HFN.out, HBEAT.out, decide_eq_false tk, te, decide_eq_false ht]; simp)
                      clear te
                      go_wp2_with fail
                      go_quiet (fail)
                      go_wp2_with fail
                      go_quiet (fail)
                      clear c2 d2 c6 d6 ht tk
                      go_wp2
                      go_roundw
                      case rel => exact ⟨k + 1, by have := HKN.out; omega, by rw [HNV.out], by go_num, Lib.hid (HJ.out.trans ((below_draws' wr _).mono HJ.out.size))⟩
                      case measure => have := HKN.out; simp [intOf]; omega
                  · have HNV : Hid (freeTo l i (k + 1) = fr) := Lib.hid (by rw [HFN.out, HBEAT.out, decide_eq_false te, decide_eq_false ht]; simp)
                    have te2 : (s'.trust == s.trust) = false := by rw [beq_eq_false_iff_ne]; exact te
                    clear te
                    go_wp2_with fail
                    go_quiet (fail)
                    go_wp2_with fail
                    go_quiet (fail)
                    clear c2 d2 c6 d6
                    go_wp2
                    go_roundw
                    case rel => exact ⟨k + 1, by have := HKN.out; omega, by rw [HNV.out], by go_num, Lib.hid (HJ.out.trans ((below_draws' wr _).mono HJ.out.size))⟩
                    case measure => have := HKN.out; simp [intOf]; omega
              · have HNV : Hid (freeTo l i (k + 1) = fr) := Lib.hid (by rw [HFN.out, HBEAT.out, decide_eq_false hs]; simp)
                have g2 : (s'.src.toList == s.src.toList) = false := by
                  rw [beq_eq_false_iff_ne]; intro e
                  apply hs
                  rw [ByteArray.toList_eq, ByteArray.toList_eq] at e
                  exact ByteArray.ext (Array.toList_inj.1 e)
                have g3 : ¬ s'.src.toList = s.src.toList := by simpa using g2
                go_wp2_with fail
                go_quiet (fail)
                go_wp2_with fail
                go_quiet (fail)
                clear c2 d2 c6 d6 hs g2 g3
                go_wp2
                go_roundw
                case rel => exact ⟨k + 1, by have := HKN.out; omega, by rw [HNV.out], by go_num, Lib.hid (HJ.out.trans ((below_draws' wr _).mono HJ.out.size))⟩
                case measure => have := HKN.out; simp [intOf]; omega
            · have hkl : k = len := by omega
              have HFR : Hid (freeTo l i l.length = freeTo l i k) := Lib.hid (by rw [hkl, HLN.out])
              obtain ⟨fr, hfr⟩ : ∃ fr, fr = freeTo l i k := ⟨_, rfl⟩
              rw [← hfr]
              rw [← hfr] at HFR
              clear hfr hkl
              cases fr with
              | false =>
                have HW := Lib.hid (won_no HFR.out)
                go_wp2
                go_roundw
                case rel => exact ⟨i + 1, HLT2.out, by rw [HW.out, ← HLCP.out.2.1]; exact h6, by rw [HW.out, ← HLCP.out.1], by rw [HW.out, ← HLCP.out.2.1, ← HLCP.out.2.2], by rw [HW.out, ← HLCP.out.2.1], by go_num, HJ⟩
                case measure => have := HLT2.out; simp [intOf]; omega
              | true =>
                have HW := Lib.hid (won_yes HFR.out)
                by_cases h66 : 6 < c + 1
                · have HX : Hid (refDoubtV l = .tuple #[.int .i64 0, .int .i64 0, .int .i64 3]) := Lib.hid (by
                    have g := won_grows l (i + 1) (l.length - (i + 1))
                    rw [show i + 1 + (l.length - (i + 1)) = l.length by have := HLT2.out; have := HLN.out; omega, HW.out, List.length_append, List.length_singleton, ← HLCP.out.2.1] at g
                    rw [HV.out, if_pos (by omega)])
                  go_wp2
                  exact bodyPost_ret (v := .tuple #[.int .i64 0, .int .i64 0, .int .i64 3]) (by simp [results, Tryz.results17, go_sem]) rfl ⟨by rw [HX.out], HJ.out⟩
                · have hP5 : P ≤ 1000000000000000 := by rw [HLCP.out.2.2]; exact pow_le5 (by omega)
                  have hL0 : 0 ≤ L := HBD.out.1
                  have hLP : L ≤ P := HBD.out.2
                  obtain ⟨ht0, ht1⟩ : 0 ≤ s.trust ∧ s.trust ≤ 1000 := by have := HTR.out i; rwa [at_trust HGI.out] at this
                  obtain ⟨D, hD⟩ : ∃ D, 1000 - s.trust = D := ⟨_, rfl⟩
                  obtain ⟨LD, hLD⟩ : ∃ LD, L * D = LD := ⟨_, rfl⟩
                  have hLD0 : 0 ≤ LD := by rw [← hLD]; exact Int.mul_nonneg hL0 (by omega)
                  have hLD1 : LD ≤ 1000000000000000000 := by
                    rw [← hLD]
                    exact Int.le_trans (Int.mul_le_mul_of_nonneg_left (show D ≤ 1000 by omega) hL0) (by omega)
                  have hwr : IntKind.i64.wrap (L * D) = LD := by rw [hLD]; exact IntWalk.i64_in _ (by omega)
                  have HLN2 : Hid (LD = leftOf l (won l (i + 1)) ∧ P * 1000 = 1000 ^ (won l (i + 1)).length ∧ c + 1 = (won l (i + 1)).length) := Lib.hid (by
                    rw [HW.out, left_next, ← HLCP.out.1, at_trust HGI.out, hD, hLD, List.length_append, List.length_singleton, ← HLCP.out.2.1, Int.pow_succ, ← HLCP.out.2.2]
                    exact ⟨rfl, rfl, rfl⟩)
                  have d6 := ((HAT.out i s _ q HGI.out).keep HJ.out HBLT.out).c6
                  have hil : i < len := HLT2.out
                  have hP0 : 0 ≤ P := Int.le_trans hL0 hLP
                  go_wp2
                  go_roundw
                  case rel => exact ⟨i + 1, HLT2.out, by rw [← HLN2.out.2.2]; omega, by rw [← HLN2.out.1], by rw [← HLN2.out.2.1], by rw [← HLN2.out.2.2]; go_num, by go_num, HJ⟩
                  case measure => have := HLT2.out; simp [intOf]; omega
        · have HX : Hid (refDoubtV l = .tuple #[.int .i64 L, .int .i64 P, .int .i64 0]) := Lib.hid (by
            have hil : i = l.length := by have := HLN.out; omega
            rw [HV.out, ← hil, ← HLCP.out.1, ← HLCP.out.2.1, if_neg (by omega), ← HLCP.out.2.2])
          go_wp2
          exact bodyPost_ret (v := .tuple #[.int .i64 L, .int .i64 P, .int .i64 0]) (by simp [results, Tryz.results17, go_sem]) rfl ⟨by rw [HX.out], HI.out⟩
end Go.Proofs.YtbfleemflhlfbaaGreatDoor
