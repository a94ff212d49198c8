/- Layer 11 (care): tows. Layer 11 (care): the greatest speed of a tow. -/
import Derived.Test.YtekikddpdbgkdaaGreatDoorProg
import Derived.Test.YtekikddpdbgkdaaGreatDoorPa10
section
namespace Go.Proofs.YtekikddpdbgkdaaGreatDoor.Ca
open Go Go.Proofs.YtekikddpdbgkdaaGreatDoor.Sx Go.RowKit
variable {TT : Tb}

abbrev DD : Dec := decideN (decideL2 decideB)
theorem dd_ok : DecOk TT DD := decideN_ok (decideL2_ok decB_ok)
def cIsTow := ctrCases 23 [towK] [] towCs
def cTow := ctrCases 13 [towK] [] towCs
def cPoss := ctrVal 27 [towK, .one K] possFs (.b possE) []
def cPossR := ctrVal 14 [towK, .one K] possFs (.b possE) []
def cSpeed := ctrCases 9 [towK] [] speedCs
def cSpeedR := ctrCases 10 [towK] [] speedCs
def speedRL : LoopSpec := { key := 6, locs := [.t 4 (.i .i64)], facts := fun n => [.le (.c 0) (.v n), .le (.v n) (.c 2000), .happ 0 (els [0, 1, 2, 3, n])], meas := fun n => .sub (.c 2000) (.v n) }
def speedG : Ctx := { calls := [cIsTow, cPoss], loops := [speedL] }
def speedRG : Ctx := { calls := [cTow, cPossR], loops := [speedRL] }
theorem tow_E {ρ : Env} (hh : ρ.h = Ca.hF) : towE.B ρ = true ↔ (0 ≤ ρ.i 0 ∧ ρ.i 0 ≤ 100000) ∧ (0 ≤ ρ.i 1 ∧ ρ.i 1 ≤ 100000) ∧ (0 ≤ ρ.i 2 ∧ ρ.i 2 ≤ 100000) ∧ (0 ≤ ρ.i 3 ∧ ρ.i 3 ≤ 100000) ∧ (0 ≤ ρ.i 4 ∧ ρ.i 4 ≤ 100000) ∧ (0 ≤ ρ.i 5 ∧ ρ.i 5 ≤ 100000) ∧ 1 ≤ ρ.i 2 := by
  simp only [towE, els, List.map, List.foldr, B_happ, hh, L_cons, L_nil, I_v]
  show towB _ = true ↔ _
  rw [towB_iff]
theorem ret_b {ρ' : Env} {e : E} {b : Bool} (h : e.B ρ' = b) : Ending.returned ((V.b e).den ρ') = Ending.returned (.bool b) := by rw [den_b, h]
theorem isTow_ok (u : Fit TT) : CtrOk TT Tryz.prog cIsTow := ctrCases_ok rfl fun ρ w hF hT hR => by
  have ht := tow_E (u.tab hT).2
  refine cases_rest dd_ok (Γ := {}) (by simp) 400 [towK] [] towCs (by decide)
    [⟨(.val (.b .ff)), [(.lt (.c 100000) (.v 0)), (.le (.c 0) (.v 0)), (.le (.c 1) (.v 2))], []⟩,
⟨(.val (.b .ff)), [(.lt (.c 100000) (.v 1)), (.le (.c 0) (.v 1)), (.le (.v 0) (.c 100000)), (.le (.c 0) (.v 0)), (.le (.c 1) (.v 2))], []⟩,
⟨(.val (.b .ff)), [(.lt (.c 100000) (.v 2)), (.le (.v 1) (.c 100000)), (.le (.c 0) (.v 1)), (.le (.v 0) (.c 100000)), (.le (.c 0) (.v 0)), (.le (.c 1) (.v 2))], []⟩,
⟨(.val (.b .ff)), [(.lt (.c 100000) (.v 3)), (.le (.c 0) (.v 3)), (.le (.v 2) (.c 100000)), (.le (.v 1) (.c 100000)), (.le (.c 0) (.v 1)), (.le (.v 0) (.c 100000)), (.le (.c 0) (.v 0)), (.le (.c 1) (.v 2))], []⟩,
⟨(.val (.b .ff)), [(.lt (.c 100000) (.v 4)), (.le (.c 0) (.v 4)), (.le (.v 3) (.c 100000)), (.le (.c 0) (.v 3)), (.le (.v 2) (.c 100000)), (.le (.v 1) (.c 100000)), (.le (.c 0) (.v 1)), (.le (.v 0) (.c 100000)), (.le (.c 0) (.v 0)), (.le (.c 1) (.v 2))], []⟩,
⟨(.val (.b .ff)), [(.lt (.c 100000) (.v 5)), (.le (.c 0) (.v 5)), (.le (.v 4) (.c 100000)), (.le (.c 0) (.v 4)), (.le (.v 3) (.c 100000)), (.le (.c 0) (.v 3)), (.le (.v 2) (.c 100000)), (.le (.v 1) (.c 100000)), (.le (.c 0) (.v 1)), (.le (.v 0) (.c 100000)), (.le (.c 0) (.v 0)), (.le (.c 1) (.v 2))], []⟩,
⟨(.val (.b .tt)), [(.le (.v 5) (.c 100000)), (.le (.c 0) (.v 5)), (.le (.v 4) (.c 100000)), (.le (.c 0) (.v 4)), (.le (.v 3) (.c 100000)), (.le (.c 0) (.v 3)), (.le (.v 2) (.c 100000)), (.le (.v 1) (.c 100000)), (.le (.c 0) (.v 1)), (.le (.v 0) (.c 100000)), (.le (.c 0) (.v 0)), (.le (.c 1) (.v 2))], []⟩,
⟨(.val (.b .ff)), [(.lt (.v 5) (.c 0)), (.le (.v 4) (.c 100000)), (.le (.c 0) (.v 4)), (.le (.v 3) (.c 100000)), (.le (.c 0) (.v 3)), (.le (.v 2) (.c 100000)), (.le (.v 1) (.c 100000)), (.le (.c 0) (.v 1)), (.le (.v 0) (.c 100000)), (.le (.c 0) (.v 0)), (.le (.c 1) (.v 2))], []⟩,
⟨(.val (.b .ff)), [(.lt (.v 4) (.c 0)), (.le (.v 3) (.c 100000)), (.le (.c 0) (.v 3)), (.le (.v 2) (.c 100000)), (.le (.v 1) (.c 100000)), (.le (.c 0) (.v 1)), (.le (.v 0) (.c 100000)), (.le (.c 0) (.v 0)), (.le (.c 1) (.v 2))], []⟩,
⟨(.val (.b .ff)), [(.lt (.v 3) (.c 0)), (.le (.v 2) (.c 100000)), (.le (.v 1) (.c 100000)), (.le (.c 0) (.v 1)), (.le (.v 0) (.c 100000)), (.le (.c 0) (.v 0)), (.le (.c 1) (.v 2))], []⟩,
⟨(.val (.b .ff)), [(.lt (.v 1) (.c 0)), (.le (.v 0) (.c 100000)), (.le (.c 0) (.v 0)), (.le (.c 1) (.v 2))], []⟩,
⟨(.val (.b .ff)), [(.lt (.v 0) (.c 0)), (.le (.c 1) (.v 2))], []⟩,
⟨(.val (.b .ff)), [(.lt (.v 2) (.c 1))], []⟩] (by kernel_rfl) ρ w hF hT hR ⟨?_, ?_, ?_, ?_, ?_, ?_, ?_, ?_, ?_, ?_, ?_, ?_, ?_⟩ (u.J w)
  all_goals
    intro ρ' w' hx _ hF hb _
    have e0 : ρ'.i 0 = ρ.i 0 := hx.i 0 (by decide)
    have e1 : ρ'.i 1 = ρ.i 1 := hx.i 1 (by decide)
    have e2 : ρ'.i 2 = ρ.i 2 := hx.i 2 (by decide)
    have e3 : ρ'.i 3 = ρ.i 3 := hx.i 3 (by decide)
    have e4 : ρ'.i 4 = ρ.i 4 := hx.i 4 (by decide)
    have e5 : ρ'.i 5 = ρ.i 5 := hx.i 5 (by decide)
    simp only [holds, List.mem_cons, List.not_mem_nil, or_false, forall_eq_or_imp, forall_eq, B_le, B_lt, I_c, I_v, decide_eq_true_eq, e0, e1, e2, e3, e4, e5] at hF
    refine ⟨?_, hb⟩
    by_cases h : towE.B ρ = true
    · have hr := ht.1 h
      refine ⟨_, List.mem_cons_self, ret_b ?_, ?_⟩
      · (try simp only [B_t, B_f]) <;> first | rfl | omega | (exact absurd hF (by omega))
      · intro a ha
        simp only [towFs, btw, List.cons_append, List.nil_append, List.mem_cons, List.not_mem_nil, or_false] at ha
        rcases ha with rfl | rfl | rfl | rfl | rfl | rfl | rfl | rfl | rfl | rfl | rfl | rfl | rfl | rfl <;> first | exact h | (simp only [B_le, I_c, I_v, decide_eq_true_eq]; omega)
    · refine ⟨_, List.mem_cons_of_mem _ List.mem_cons_self, ret_b ?_, ?_⟩
      · (try simp only [B_t, B_f]) <;> first | rfl | (exact absurd (ht.2 (by omega)) h) | (exact Int.lt_of_not_ge fun hk => h (ht.2 (by omega)))
      · simp only [List.mem_cons, List.not_mem_nil, or_false, forall_eq, B_not, Bool.not_eq_true', Bool.not_eq_true] at h ⊢
        exact h
theorem tow_ok (u : Fit TT) : CtrOk TT Tryz.prog cTow := ctrCases_ok rfl fun ρ w hF hT hR => by
  have ht := tow_E (u.tab hT).2
  refine cases_rest dd_ok (Γ := {}) (by simp) 400 [towK] [] towCs (by decide)
    [⟨(.val (.b .ff)), [(.lt (.c 100000) (.v 0)), (.le (.c 0) (.v 0))], []⟩,
⟨(.val (.b .ff)), [(.lt (.c 100000) (.v 1)), (.le (.c 0) (.v 1)), (.le (.v 0) (.c 100000)), (.le (.c 0) (.v 0))], []⟩,
⟨(.val (.b .ff)), [(.lt (.c 100000) (.v 2)), (.le (.c 0) (.v 2)), (.le (.v 1) (.c 100000)), (.le (.c 0) (.v 1)), (.le (.v 0) (.c 100000)), (.le (.c 0) (.v 0))], []⟩,
⟨(.val (.b .ff)), [(.lt (.c 100000) (.v 3)), (.le (.c 0) (.v 3)), (.le (.v 2) (.c 100000)), (.le (.c 0) (.v 2)), (.le (.v 1) (.c 100000)), (.le (.c 0) (.v 1)), (.le (.v 0) (.c 100000)), (.le (.c 0) (.v 0))], []⟩,
⟨(.val (.b .ff)), [(.lt (.c 100000) (.v 4)), (.le (.c 0) (.v 4)), (.le (.v 3) (.c 100000)), (.le (.c 0) (.v 3)), (.le (.v 2) (.c 100000)), (.le (.c 0) (.v 2)), (.le (.v 1) (.c 100000)), (.le (.c 0) (.v 1)), (.le (.v 0) (.c 100000)), (.le (.c 0) (.v 0))], []⟩,
⟨(.val (.b .ff)), [(.lt (.c 100000) (.v 5)), (.le (.c 0) (.v 5)), (.le (.v 4) (.c 100000)), (.le (.c 0) (.v 4)), (.le (.v 3) (.c 100000)), (.le (.c 0) (.v 3)), (.le (.v 2) (.c 100000)), (.le (.c 0) (.v 2)), (.le (.v 1) (.c 100000)), (.le (.c 0) (.v 1)), (.le (.v 0) (.c 100000)), (.le (.c 0) (.v 0))], []⟩,
⟨(.val (.b (.le (.c 1) (.v 2)))), [(.le (.v 5) (.c 100000)), (.le (.c 0) (.v 5)), (.le (.v 4) (.c 100000)), (.le (.c 0) (.v 4)), (.le (.v 3) (.c 100000)), (.le (.c 0) (.v 3)), (.le (.v 2) (.c 100000)), (.le (.c 0) (.v 2)), (.le (.v 1) (.c 100000)), (.le (.c 0) (.v 1)), (.le (.v 0) (.c 100000)), (.le (.c 0) (.v 0))], []⟩,
⟨(.val (.b .ff)), [(.lt (.v 5) (.c 0)), (.le (.v 4) (.c 100000)), (.le (.c 0) (.v 4)), (.le (.v 3) (.c 100000)), (.le (.c 0) (.v 3)), (.le (.v 2) (.c 100000)), (.le (.c 0) (.v 2)), (.le (.v 1) (.c 100000)), (.le (.c 0) (.v 1)), (.le (.v 0) (.c 100000)), (.le (.c 0) (.v 0))], []⟩,
⟨(.val (.b .ff)), [(.lt (.v 4) (.c 0)), (.le (.v 3) (.c 100000)), (.le (.c 0) (.v 3)), (.le (.v 2) (.c 100000)), (.le (.c 0) (.v 2)), (.le (.v 1) (.c 100000)), (.le (.c 0) (.v 1)), (.le (.v 0) (.c 100000)), (.le (.c 0) (.v 0))], []⟩,
⟨(.val (.b .ff)), [(.lt (.v 3) (.c 0)), (.le (.v 2) (.c 100000)), (.le (.c 0) (.v 2)), (.le (.v 1) (.c 100000)), (.le (.c 0) (.v 1)), (.le (.v 0) (.c 100000)), (.le (.c 0) (.v 0))], []⟩,
⟨(.val (.b .ff)), [(.lt (.v 2) (.c 0)), (.le (.v 1) (.c 100000)), (.le (.c 0) (.v 1)), (.le (.v 0) (.c 100000)), (.le (.c 0) (.v 0))], []⟩,
⟨(.val (.b .ff)), [(.lt (.v 1) (.c 0)), (.le (.v 0) (.c 100000)), (.le (.c 0) (.v 0))], []⟩,
⟨(.val (.b .ff)), [(.lt (.v 0) (.c 0))], []⟩] (by kernel_rfl) ρ w hF hT hR ⟨?_, ?_, ?_, ?_, ?_, ?_, ?_, ?_, ?_, ?_, ?_, ?_, ?_⟩ (u.J w)
  all_goals
    intro ρ' w' hx _ hF hb _
    have e0 : ρ'.i 0 = ρ.i 0 := hx.i 0 (by decide)
    have e1 : ρ'.i 1 = ρ.i 1 := hx.i 1 (by decide)
    have e2 : ρ'.i 2 = ρ.i 2 := hx.i 2 (by decide)
    have e3 : ρ'.i 3 = ρ.i 3 := hx.i 3 (by decide)
    have e4 : ρ'.i 4 = ρ.i 4 := hx.i 4 (by decide)
    have e5 : ρ'.i 5 = ρ.i 5 := hx.i 5 (by decide)
    simp only [holds, List.mem_cons, List.not_mem_nil, or_false, forall_eq_or_imp, forall_eq, B_le, B_lt, I_c, I_v, decide_eq_true_eq, e0, e1, e2, e3, e4, e5] at hF
    refine ⟨?_, hb⟩
    by_cases h : towE.B ρ = true
    · have hr := ht.1 h
      refine ⟨_, List.mem_cons_self, ret_b ?_, ?_⟩
      · (try simp only [B_le, B_t, B_f, I_c, I_v, decide_eq_true_eq, e2]) <;> first | rfl | omega | (exact absurd hF (by omega))
      · intro a ha
        simp only [towFs, btw, List.cons_append, List.nil_append, List.mem_cons, List.not_mem_nil, or_false] at ha
        rcases ha with rfl | rfl | rfl | rfl | rfl | rfl | rfl | rfl | rfl | rfl | rfl | rfl | rfl | rfl <;> first | exact h | (simp only [B_le, I_c, I_v, decide_eq_true_eq]; omega)
    · refine ⟨_, List.mem_cons_of_mem _ List.mem_cons_self, ret_b ?_, ?_⟩
      · (try simp only [B_le, B_f, I_c, I_v, decide_eq_false_iff_not, Int.not_le, e2]) <;> first | rfl | (exact absurd (ht.2 (by omega)) h) | (exact Int.lt_of_not_ge fun hk => h (ht.2 (by omega)))
      · simp only [List.mem_cons, List.not_mem_nil, or_false, forall_eq, B_not, Bool.not_eq_true', Bool.not_eq_true] at h ⊢
        exact h
theorem poss_E {ρ : Env} (hh : ρ.h = Ca.hF) : possE.B ρ = possB (ρ.i 0) (ρ.i 1) (ρ.i 2) (ρ.i 3) (ρ.i 6) := by
  simp only [possE, els, List.map, List.foldr, B_happ, hh, L_cons, L_nil, I_v]
  rfl
theorem poss_ok (u : Fit TT) : CtrOk TT Tryz.prog cPoss := ctrVal_ok rfl fun ρ w hF hT hR => by
  have ht := poss_E (u.tab hT).2
  refine pat_calls (Γ := {}) (by simp) 400 [towK, .one K] possFs
    [⟨(.val (.b (.le (.add (.mul (.mul (.v 2) (.v 6)) (.v 6)) (.mul (.mul (.c 1000) (.v 3)) (.c 10000))) (.mul (.mul (.c 500) (.v 1)) (.c 10000))))), [(.le (.add (.mul (.mul (.v 2) (.v 6)) (.v 6)) (.mul (.mul (.c 1000) (.v 3)) (.c 10000))) (.mul (.mul (.c 1000) (.v 0)) (.c 10000))), (.le (.c 0) (.v 0)), (.le (.v 0) (.c 100000)), (.le (.c 0) (.v 1)), (.le (.v 1) (.c 100000)), (.le (.c 0) (.v 2)), (.le (.v 2) (.c 100000)), (.le (.c 0) (.v 3)), (.le (.v 3) (.c 100000)), (.le (.c 0) (.v 6)), (.le (.v 6) (.c 2000))], []⟩,
⟨(.val (.b .ff)), [(.lt (.mul (.mul (.c 1000) (.v 0)) (.c 10000)) (.add (.mul (.mul (.v 2) (.v 6)) (.v 6)) (.mul (.mul (.c 1000) (.v 3)) (.c 10000)))), (.le (.c 0) (.v 0)), (.le (.v 0) (.c 100000)), (.le (.c 0) (.v 1)), (.le (.v 1) (.c 100000)), (.le (.c 0) (.v 2)), (.le (.v 2) (.c 100000)), (.le (.c 0) (.v 3)), (.le (.v 3) (.c 100000)), (.le (.c 0) (.v 6)), (.le (.v 6) (.c 2000))], []⟩] (by kernel_rfl) ρ w hF hT hR ⟨?_, ?_⟩ (u.J w)
  all_goals
    intro ρ' w' hx _ hF hb _
    have e0 : ρ'.i 0 = ρ.i 0 := hx.i 0 (by decide)
    have e1 : ρ'.i 1 = ρ.i 1 := hx.i 1 (by decide)
    have e2 : ρ'.i 2 = ρ.i 2 := hx.i 2 (by decide)
    have e3 : ρ'.i 3 = ρ.i 3 := hx.i 3 (by decide)
    have e6 : ρ'.i 6 = ρ.i 6 := hx.i 6 (by decide)
    simp only [holds, List.mem_cons, List.not_mem_nil, or_false, forall_eq_or_imp, forall_eq, B_le, B_lt, I_add, I_mul, I_c, I_v, decide_eq_true_eq, e0, e1, e2, e3, e6] at hF
    refine ⟨⟨?_, fun _ h => by cases h⟩, hb⟩
    simp only [den_b, ht, possB, B_le, B_f, I_add, I_mul, I_c, I_v, e1, e2, e3, e6]
    refine congrArg (fun b => Ending.returned (Value.bool b)) ?_
    rw [Bool.eq_iff_iff]
    simp only [Bool.and_eq_true, decide_eq_true_eq, Bool.false_eq_true, false_iff, not_and]
    omega
theorem possR_ok (u : Fit TT) : CtrOk TT Tryz.prog cPossR := ctrVal_ok rfl fun ρ w hF hT hR => by
  have ht := poss_E (u.tab hT).2
  refine pat_calls (Γ := {}) (by simp) 400 [towK, .one K] possFs
    [⟨(.val (.b (.le (.add (.mul (.mul (.v 2) (.v 6)) (.v 6)) (.mul (.c 10000000) (.v 3))) (.mul (.c 5000000) (.v 1))))), [(.le (.add (.mul (.mul (.v 2) (.v 6)) (.v 6)) (.mul (.c 10000000) (.v 3))) (.mul (.c 10000000) (.v 0))), (.le (.c 0) (.v 0)), (.le (.v 0) (.c 100000)), (.le (.c 0) (.v 1)), (.le (.v 1) (.c 100000)), (.le (.c 0) (.v 2)), (.le (.v 2) (.c 100000)), (.le (.c 0) (.v 3)), (.le (.v 3) (.c 100000)), (.le (.c 0) (.v 6)), (.le (.v 6) (.c 2000))], []⟩,
⟨(.val (.b .ff)), [(.lt (.mul (.c 10000000) (.v 0)) (.add (.mul (.mul (.v 2) (.v 6)) (.v 6)) (.mul (.c 10000000) (.v 3)))), (.le (.c 0) (.v 0)), (.le (.v 0) (.c 100000)), (.le (.c 0) (.v 1)), (.le (.v 1) (.c 100000)), (.le (.c 0) (.v 2)), (.le (.v 2) (.c 100000)), (.le (.c 0) (.v 3)), (.le (.v 3) (.c 100000)), (.le (.c 0) (.v 6)), (.le (.v 6) (.c 2000))], []⟩] (by kernel_rfl) ρ w hF hT hR ⟨?_, ?_⟩ (u.J w)
  all_goals
    intro ρ' w' hx _ hF hb _
    have e0 : ρ'.i 0 = ρ.i 0 := hx.i 0 (by decide)
    have e1 : ρ'.i 1 = ρ.i 1 := hx.i 1 (by decide)
    have e2 : ρ'.i 2 = ρ.i 2 := hx.i 2 (by decide)
    have e3 : ρ'.i 3 = ρ.i 3 := hx.i 3 (by decide)
    have e6 : ρ'.i 6 = ρ.i 6 := hx.i 6 (by decide)
    simp only [holds, List.mem_cons, List.not_mem_nil, or_false, forall_eq_or_imp, forall_eq, B_le, B_lt, I_add, I_mul, I_c, I_v, decide_eq_true_eq, e0, e1, e2, e3, e6] at hF
    refine ⟨⟨?_, fun _ h => by cases h⟩, hb⟩
    simp only [den_b, ht, possB, B_le, B_f, I_add, I_mul, I_c, I_v, e1, e2, e3, e6]
    refine congrArg (fun b => Ending.returned (Value.bool b)) ?_
    rw [Bool.eq_iff_iff]
    simp only [Bool.and_eq_true, decide_eq_true_eq, Bool.false_eq_true, false_iff, not_and]
    omega
theorem sp_E {ρ : Env} (hg : ρ.g = gF) : spE.I ρ = sp4 (ρ.i 0) (ρ.i 1) (ρ.i 2) (ρ.i 3) := by
  simp only [spE, els, List.map, List.foldr, I_app, hg, L_cons, L_nil, I_v]
  rfl
end Go.Proofs.YtekikddpdbgkdaaGreatDoor.Ca
end
section
namespace Go.Proofs.YtekikddpdbgkdaaGreatDoor.Ca
open Go Go.Proofs.YtekikddpdbgkdaaGreatDoor.Sx Go.RowKit
variable {TT : Tb}
theorem speed_fine {ρ : Env} (ht : towE.B ρ = true) (hh : ρ.h = Ca.hF) (hs : spE.I ρ = sp4 (ρ.i 0) (ρ.i 1) (ρ.i 2) (ρ.i 3)) (h0 : 0 ≤ sp4 (ρ.i 0) (ρ.i 1) (ρ.i 2) (ρ.i 3)) (hl : 20 * ρ.i 5 ≤ ρ.i 4) : ∀ a ∈ (speedCs.head!).2, a.B ρ = true := by
  have hr := speed_range (ρ.i 0) (ρ.i 1) (ρ.i 2) (ρ.i 3)
  have htw := (tow_E hh).1 ht
  intro a ha
  simp only [speedCs, List.head!, towFs, btw, List.cons_append, List.nil_append, List.mem_cons, List.not_mem_nil, or_false] at ha
  rcases ha with rfl | rfl | rfl | rfl | rfl | rfl | rfl | rfl | rfl | rfl | rfl | rfl | rfl | rfl | rfl | rfl | rfl <;> first | exact ht | (simp only [B_le, I_c, I_v, I_mul, hs, decide_eq_true_eq]; omega)
theorem speed_none {ρ : Env} (ht : towE.B ρ = true) (hh : ρ.h = Ca.hF) (hs : spE.I ρ = sp4 (ρ.i 0) (ρ.i 1) (ρ.i 2) (ρ.i 3)) (hl : 20 * ρ.i 5 ≤ ρ.i 4) (h0 : sp4 (ρ.i 0) (ρ.i 1) (ρ.i 2) (ρ.i 3) < 0) : ∀ a ∈ (speedCs.tail.tail.head!).2, a.B ρ = true := by
  have htw := (tow_E hh).1 ht
  intro a ha
  simp only [speedCs, List.tail, List.head!, towFs, btw, List.cons_append, List.nil_append, List.mem_cons, List.not_mem_nil, or_false] at ha
  rcases ha with rfl | rfl | rfl | rfl | rfl | rfl | rfl | rfl | rfl | rfl | rfl | rfl | rfl | rfl | rfl | rfl <;> first | exact ht | (simp only [B_le, B_lt, I_c, I_v, I_mul, hs, decide_eq_true_eq]; omega)
theorem speed_at (u : Fit TT) (ρ : Env) (w : World) (hF : holds ρ []) (hT : TT.tab ρ.g ρ.h ρ.k ρ.m) (hR : RowsAt ρ w [towK]) : CasesAt Tryz.prog 9 [towK] speedCs ρ w := by
  have hg := (u.tab hT).1
  have hh := (u.tab hT).2
  have hr := speed_range (ρ.i 0) (ρ.i 1) (ρ.i 2) (ρ.i 3)
  have hs := sp_E hg
  refine cases_rest dd_ok (Γ := speedG) (by simpa [speedG] using ⟨isTow_ok u.open, poss_ok u.open⟩) 400 [towK] [] speedCs (by decide)
    [⟨(.must (.le (.app 0 (.cons (.v 0) (.cons (.v 1) (.cons (.v 2) (.cons (.v 3) .nil))))) (.c 2000))), [(.le (.mul (.c 20) (.v 5)) (.v 4)), (.le (.c 0) (.v 0)), (.le (.v 0) (.c 100000)), (.le (.c 0) (.v 1)), (.le (.v 1) (.c 100000)), (.le (.c 0) (.v 2)), (.le (.v 2) (.c 100000)), (.le (.c 0) (.v 3)), (.le (.v 3) (.c 100000)), (.le (.c 0) (.v 4)), (.le (.v 4) (.c 100000)), (.le (.c 0) (.v 5)), (.le (.v 5) (.c 100000)), (.le (.c 1) (.v 2)), (.happ 2 (.cons (.v 0) (.cons (.v 1) (.cons (.v 2) (.cons (.v 3) (.cons (.v 4) (.cons (.v 5) .nil)))))))], []⟩,
⟨(.val (.tup (.cons (.i .i64 (.v 12)) (.cons (.i .i64 (.c 0)) .nil)))), [(.happ 0 (.cons (.v 0) (.cons (.v 1) (.cons (.v 2) (.cons (.v 3) (.cons (.v 12) .nil)))))), (.le (.c 0) (.v 12)), (.le (.c (-1)) (.v 12)), (.le (.v 12) (.c 2000)), (.le (.app 0 (.cons (.v 0) (.cons (.v 1) (.cons (.v 2) (.cons (.v 3) .nil))))) (.v 12)), (.le (.mul (.c 20) (.v 5)) (.v 4)), (.le (.c 0) (.v 0)), (.le (.v 0) (.c 100000)), (.le (.c 0) (.v 1)), (.le (.v 1) (.c 100000)), (.le (.c 0) (.v 2)), (.le (.v 2) (.c 100000)), (.le (.c 0) (.v 3)), (.le (.v 3) (.c 100000)), (.le (.c 0) (.v 4)), (.le (.v 4) (.c 100000)), (.le (.c 0) (.v 5)), (.le (.v 5) (.c 100000)), (.le (.c 1) (.v 2)), (.happ 2 (.cons (.v 0) (.cons (.v 1) (.cons (.v 2) (.cons (.v 3) (.cons (.v 4) (.cons (.v 5) .nil)))))))], []⟩,
⟨(.must (.le (.app 0 (.cons (.v 0) (.cons (.v 1) (.cons (.v 2) (.cons (.v 3) .nil))))) (.sub (.v 12) (.c 1)))), [(.not (.happ 0 (.cons (.v 0) (.cons (.v 1) (.cons (.v 2) (.cons (.v 3) (.cons (.v 12) .nil))))))), (.le (.c 0) (.v 12)), (.le (.c (-1)) (.v 12)), (.le (.v 12) (.c 2000)), (.le (.app 0 (.cons (.v 0) (.cons (.v 1) (.cons (.v 2) (.cons (.v 3) .nil))))) (.v 12)), (.le (.mul (.c 20) (.v 5)) (.v 4)), (.le (.c 0) (.v 0)), (.le (.v 0) (.c 100000)), (.le (.c 0) (.v 1)), (.le (.v 1) (.c 100000)), (.le (.c 0) (.v 2)), (.le (.v 2) (.c 100000)), (.le (.c 0) (.v 3)), (.le (.v 3) (.c 100000)), (.le (.c 0) (.v 4)), (.le (.v 4) (.c 100000)), (.le (.c 0) (.v 5)), (.le (.v 5) (.c 100000)), (.le (.c 1) (.v 2)), (.happ 2 (.cons (.v 0) (.cons (.v 1) (.cons (.v 2) (.cons (.v 3) (.cons (.v 4) (.cons (.v 5) .nil)))))))], []⟩] (by kernel_rfl) ρ w hF hT hR ⟨?_, ?_, ?_⟩ (u.J w)
  all_goals
    intro ρ' w' hx _ hF hb _
    have e0 : ρ'.i 0 = ρ.i 0 := hx.i 0 (by decide)
    have e1 : ρ'.i 1 = ρ.i 1 := hx.i 1 (by decide)
    have e2 : ρ'.i 2 = ρ.i 2 := hx.i 2 (by decide)
    have e3 : ρ'.i 3 = ρ.i 3 := hx.i 3 (by decide)
    have e4 : ρ'.i 4 = ρ.i 4 := hx.i 4 (by decide)
    have e5 : ρ'.i 5 = ρ.i 5 := hx.i 5 (by decide)
    have hg' : ρ'.g = gF := by rw [hx.g]; exact hg
    have hh' : ρ'.h = Ca.hF := by rw [hx.h]; exact hh
    clear hx hR
    have h2 := hF (.happ 2 (.cons (.v 0) (.cons (.v 1) (.cons (.v 2) (.cons (.v 3) (.cons (.v 4) (.cons (.v 5) .nil))))))) (by simp)
    have ht : towE.B ρ = true := by
      simp only [towE, els, List.map, List.foldr, B_happ, hh, hh', L_cons, L_nil, I_v, e0, e1, e2, e3, e4, e5] at h2 ⊢
      exact h2
    have htw := (tow_E hh).1 ht
    simp only [holds, List.mem_cons, List.not_mem_nil, or_false, forall_eq_or_imp, forall_eq, B_le, B_not, B_happ, I_mul, I_sub, I_c, I_v, I_app, L_cons, L_nil, decide_eq_true_eq, Bool.not_eq_true', e0, e1, e2, e3, e4, e5, hg', hh', gF_0, hF_0, nI_0, nI_1, nI_2, nI_3, nI_4] at hF ⊢
    clear h2 hg' hh' e0 e1 e2 e3 e4 e5
  · exact hr.2
  · have hv := speed_is (by omega) (by omega) (by omega) hF.1 (by omega)
    refine ⟨⟨_, List.mem_cons_self, ?_, speed_fine ht hh hs (by omega) (by omega)⟩, hb⟩
    simp only [okV, V.ofL, den_tup, dens_cons, dens_nil, den_i, I_v, I_c, hs, hv]
  · exact speed_below (by omega) (by omega) (by omega) hF.1 (by omega)
theorem speedR_at (u : Fit TT) (ρ : Env) (w : World) (hF : holds ρ []) (hT : TT.tab ρ.g ρ.h ρ.k ρ.m) (hR : RowsAt ρ w [towK]) : CasesAt Tryz.prog 10 [towK] speedCs ρ w := by
  have hg := (u.tab hT).1
  have hh := (u.tab hT).2
  have hr := speed_range (ρ.i 0) (ρ.i 1) (ρ.i 2) (ρ.i 3)
  have hs := sp_E hg
  refine cases_rest dd_ok (Γ := speedRG) (by simpa [speedRG] using ⟨tow_ok u.open, possR_ok u.open⟩) 400 [towK] [] speedCs (by decide)
    [⟨(.val (.tup (.cons (.i .i64 (.c 0)) (.cons (.i .i64 (.c 7)) .nil)))), [(.not (.happ 0 (.cons (.v 0) (.cons (.v 1) (.cons (.v 2) (.cons (.v 3) (.cons (.c 0) .nil))))))), (.le (.mul (.c 20) (.v 5)) (.v 4)), (.le (.c 0) (.v 0)), (.le (.v 0) (.c 100000)), (.le (.c 0) (.v 1)), (.le (.v 1) (.c 100000)), (.le (.c 0) (.v 2)), (.le (.v 2) (.c 100000)), (.le (.c 0) (.v 3)), (.le (.v 3) (.c 100000)), (.le (.c 0) (.v 4)), (.le (.v 4) (.c 100000)), (.le (.c 0) (.v 5)), (.le (.v 5) (.c 100000)), (.le (.c 1) (.v 2)), (.happ 2 (.cons (.v 0) (.cons (.v 1) (.cons (.v 2) (.cons (.v 3) (.cons (.v 4) (.cons (.v 5) .nil)))))))], []⟩,
⟨(.val (.tup (.cons (.i .i64 (.v 7)) (.cons (.i .i64 (.c 0)) .nil)))), [(.not (.happ 0 (.cons (.v 0) (.cons (.v 1) (.cons (.v 2) (.cons (.v 3) (.cons (.add (.v 7) (.c 1)) .nil))))))), (.lt (.v 7) (.c 2000)), (.le (.c 0) (.v 7)), (.le (.v 7) (.c 2000)), (.happ 0 (.cons (.v 0) (.cons (.v 1) (.cons (.v 2) (.cons (.v 3) (.cons (.v 7) .nil)))))), (.happ 0 (.cons (.v 0) (.cons (.v 1) (.cons (.v 2) (.cons (.v 3) (.cons (.c 0) .nil)))))), (.le (.mul (.c 20) (.v 5)) (.v 4)), (.le (.c 0) (.v 0)), (.le (.v 0) (.c 100000)), (.le (.c 0) (.v 1)), (.le (.v 1) (.c 100000)), (.le (.c 0) (.v 2)), (.le (.v 2) (.c 100000)), (.le (.c 0) (.v 3)), (.le (.v 3) (.c 100000)), (.le (.c 0) (.v 4)), (.le (.v 4) (.c 100000)), (.le (.c 0) (.v 5)), (.le (.v 5) (.c 100000)), (.le (.c 1) (.v 2)), (.happ 2 (.cons (.v 0) (.cons (.v 1) (.cons (.v 2) (.cons (.v 3) (.cons (.v 4) (.cons (.v 5) .nil)))))))], []⟩,
⟨(.val (.tup (.cons (.i .i64 (.v 7)) (.cons (.i .i64 (.c 0)) .nil)))), [(.le (.c 2000) (.v 7)), (.le (.c 0) (.v 7)), (.le (.v 7) (.c 2000)), (.happ 0 (.cons (.v 0) (.cons (.v 1) (.cons (.v 2) (.cons (.v 3) (.cons (.v 7) .nil)))))), (.happ 0 (.cons (.v 0) (.cons (.v 1) (.cons (.v 2) (.cons (.v 3) (.cons (.c 0) .nil)))))), (.le (.mul (.c 20) (.v 5)) (.v 4)), (.le (.c 0) (.v 0)), (.le (.v 0) (.c 100000)), (.le (.c 0) (.v 1)), (.le (.v 1) (.c 100000)), (.le (.c 0) (.v 2)), (.le (.v 2) (.c 100000)), (.le (.c 0) (.v 3)), (.le (.v 3) (.c 100000)), (.le (.c 0) (.v 4)), (.le (.v 4) (.c 100000)), (.le (.c 0) (.v 5)), (.le (.v 5) (.c 100000)), (.le (.c 1) (.v 2)), (.happ 2 (.cons (.v 0) (.cons (.v 1) (.cons (.v 2) (.cons (.v 3) (.cons (.v 4) (.cons (.v 5) .nil)))))))], []⟩] (by kernel_rfl) ρ w hF hT hR ⟨?_, ?_, ?_⟩ (u.J w)
  all_goals
    intro ρ' w' hx _ hF hb _
    have e0 : ρ'.i 0 = ρ.i 0 := hx.i 0 (by decide)
    have e1 : ρ'.i 1 = ρ.i 1 := hx.i 1 (by decide)
    have e2 : ρ'.i 2 = ρ.i 2 := hx.i 2 (by decide)
    have e3 : ρ'.i 3 = ρ.i 3 := hx.i 3 (by decide)
    have e4 : ρ'.i 4 = ρ.i 4 := hx.i 4 (by decide)
    have e5 : ρ'.i 5 = ρ.i 5 := hx.i 5 (by decide)
    have hg' : ρ'.g = gF := by rw [hx.g]; exact hg
    have hh' : ρ'.h = Ca.hF := by rw [hx.h]; exact hh
    clear hx hR
    have h2 := hF (.happ 2 (.cons (.v 0) (.cons (.v 1) (.cons (.v 2) (.cons (.v 3) (.cons (.v 4) (.cons (.v 5) .nil))))))) (by simp)
    have ht : towE.B ρ = true := by
      simp only [towE, els, List.map, List.foldr, B_happ, hh, hh', L_cons, L_nil, I_v, e0, e1, e2, e3, e4, e5] at h2 ⊢
      exact h2
    have htw := (tow_E hh).1 ht
    simp only [holds, List.mem_cons, List.not_mem_nil, or_false, forall_eq_or_imp, forall_eq, B_le, B_lt, B_not, B_happ, I_add, I_mul, I_c, I_v, L_cons, L_nil, decide_eq_true_eq, Bool.not_eq_true', e0, e1, e2, e3, e4, e5, hh', hF_0, nI_0, nI_1, nI_2, nI_3, nI_4] at hF ⊢
    clear h2 hg' hh' e0 e1 e2 e3 e4 e5
  · have h0 : ¬ 0 ≤ sp4 (ρ.i 0) (ρ.i 1) (ρ.i 2) (ρ.i 3) := fun h => by
      have := (speed_iff (v := 0) (by omega) (by omega) (by omega)).2 h
      rw [hF.1] at this; cases this
    exact ⟨⟨_, List.mem_cons_of_mem _ (List.mem_cons_of_mem _ List.mem_cons_self), rfl, speed_none ht hh hs (by omega) (by omega)⟩, hb⟩
  · have hv := speed_up (by omega) (by omega) (by omega) hF.1 hF.2.2.2.2.1
    refine ⟨⟨_, List.mem_cons_self, ?_, speed_fine ht hh hs (by omega) (by omega)⟩, hb⟩
    simp only [okV, V.ofL, den_tup, dens_cons, dens_nil, den_i, I_v, I_c, hs, hv]
  · have h2 := (speed_iff (by omega) (by omega) (by omega)).1 hF.2.2.2.1
    have hv : ρ'.i 7 = sp4 (ρ.i 0) (ρ.i 1) (ρ.i 2) (ρ.i 3) := by omega
    refine ⟨⟨_, List.mem_cons_self, ?_, speed_fine ht hh hs (by omega) (by omega)⟩, hb⟩
    simp only [okV, V.ofL, den_tup, dens_cons, dens_nil, den_i, I_v, I_c, hs, hv]
theorem speed_ok (u : Fit TT) : CtrOk TT Tryz.prog cSpeed := ctrCases_ok rfl (speed_at u)
theorem speedR_ok (u : Fit TT) : CtrOk TT Tryz.prog cSpeedR := ctrCases_ok rfl (speedR_at u)
def cSpeedV := ctrVal 9 [towK] [] speedV []
def cSpeedRV := ctrVal 10 [towK] [] speedV []
theorem speed_val {ρ : Env} (hg : ρ.g = gF) (hh : ρ.h = Ca.hF) {c : V × List E} (hc : c ∈ speedCs) (ha : ∀ a ∈ c.2, a.B ρ = true) : c.1.den ρ = speedV.den ρ := by
  have ht := tow_E hh
  have hs := sp_E hg
  have e5 : (E.app 5 (els [0, 1, 2, 3, 4, 5])).I ρ = if towE.B ρ = true ∧ 20 * ρ.i 5 ≤ ρ.i 4 ∧ 0 ≤ sp4 (ρ.i 0) (ρ.i 1) (ρ.i 2) (ρ.i 3) then sp4 (ρ.i 0) (ρ.i 1) (ρ.i 2) (ρ.i 3) else 0 := by
    simp only [towE, els, List.map, List.foldr, I_app, B_happ, hg, hh, L_cons, L_nil, I_v]; rfl
  have e6 : (E.app 6 (els [0, 1, 2, 3, 4, 5])).I ρ = if towE.B ρ = true then (if 20 * ρ.i 5 ≤ ρ.i 4 ∧ 0 ≤ sp4 (ρ.i 0) (ρ.i 1) (ρ.i 2) (ρ.i 3) then 0 else 7) else 2 := by
    simp only [towE, els, List.map, List.foldr, I_app, B_happ, hg, hh, L_cons, L_nil, I_v]; rfl
  simp only [speedCs, List.mem_cons, List.not_mem_nil, or_false] at hc
  rcases hc with rfl | rfl | rfl | rfl
  · have h1 := ha towE (by simp)
    have h2 := ha (.le (.c 0) spE) (by simp)
    have h3 := ha (.le (.mul (.c 20) (.v 5)) (.v 4)) (by simp)
    simp only [B_le, I_c, I_v, I_mul, hs, decide_eq_true_eq] at h2 h3
    simp only [okV, speedV, V.ofL, den_tup, dens_cons, dens_nil, den_i, e5, e6, I_c, hs, h1, h2, h3, and_self, if_true]
  · have h1 := ha towE (by simp)
    have h3 := ha (.lt (.v 4) (.mul (.c 20) (.v 5))) (by simp)
    simp only [B_lt, I_c, I_v, I_mul, decide_eq_true_eq] at h3
    have h4 : ¬ 20 * ρ.i 5 ≤ ρ.i 4 := by omega
    simp only [noV, speedV, V.ofL, den_tup, dens_cons, dens_nil, den_i, e5, e6, I_c, h1, h4, false_and, and_false, if_false, if_true]
  · have h1 := ha towE (by simp)
    have h3 := ha (.lt spE (.c 0)) (by simp)
    simp only [B_lt, I_c, hs, decide_eq_true_eq] at h3
    have h4 : ¬ 0 ≤ sp4 (ρ.i 0) (ρ.i 1) (ρ.i 2) (ρ.i 3) := by omega
    simp only [noV, speedV, V.ofL, den_tup, dens_cons, dens_nil, den_i, e5, e6, I_c, h1, h4, and_false, if_false, if_true]
  · have h1 := ha (.not towE) (by simp)
    simp only [B_not, Bool.not_eq_true'] at h1
    simp only [noV, speedV, V.ofL, den_tup, dens_cons, dens_nil, den_i, e5, e6, I_c, h1, Bool.false_eq_true, false_and, if_false]
theorem speedV_ok (u : Fit TT) : CtrOk TT Tryz.prog cSpeedV := ctrVal_ok rfl fun ρ w hF hT hR =>
  (speed_at u ρ w hF hT hR).mono fun e w' ⟨⟨c, hc, he, ha⟩, hb⟩ => ⟨⟨by rw [he, speed_val (u.tab hT).1 (u.tab hT).2 hc ha], fun _ h => by cases h⟩, hb⟩
theorem speedRV_ok (u : Fit TT) : CtrOk TT Tryz.prog cSpeedRV := ctrVal_ok rfl fun ρ w hF hT hR =>
  (speedR_at u ρ w hF hT hR).mono fun e w' ⟨⟨c, hc, he, ha⟩, hb⟩ => ⟨⟨by rw [he, speed_val (u.tab hT).1 (u.tab hT).2 hc ha], fun _ h => by cases h⟩, hb⟩
end Go.Proofs.YtekikddpdbgkdaaGreatDoor.Ca
end
