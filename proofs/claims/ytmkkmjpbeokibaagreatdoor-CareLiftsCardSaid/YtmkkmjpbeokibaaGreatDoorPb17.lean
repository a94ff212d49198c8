/- A closed call by records: together. Layer 11 (care): what the document fixes: awake answers true. Layer 11 (care): the law of lifts. Layer 11 (care): the law of tows. -/
import Derived.Test.YtmkkmjpbeokibaaGreatDoorPb12
import Derived.Test.YtmkkmjpbeokibaaGreatDoorPb15
import Derived.Test.YtmkkmjpbeokibaaGreatDoorPb16
section
namespace Go.Proofs.YtmkkmjpbeokibaaGreatDoor.Ca
open Go Go.Proofs.YtmkkmjpbeokibaaGreatDoor.Sx Go.RowKit
theorem CrOk0 {TT : Tb} (h : ∀ q ∈ CrC0, CtrOk TT Tryz.prog q) : ∀ q ∈ CrC0, CtrOk TT Tryz.prog q := h
theorem CrOk1 {TT : Tb} (h : ∀ q ∈ CrC0, CtrOk TT Tryz.prog q) : ∀ q ∈ CrC1, CtrOk TT Tryz.prog q := fun q hq => by
  rcases List.mem_append.1 hq with hq | hq
  · exact CrOk0 h q hq
  · obtain rfl := List.mem_singleton.1 hq
    refine ctrRec_ok (CrOk0 h) ?_
    intro r hr
    simp only [List.mem_cons, List.not_mem_nil, or_false] at hr
    rcases hr with rfl | rfl | rfl | rfl | rfl | rfl | rfl | rfl | rfl | rfl | rfl | rfl | rfl | rfl | rfl | rfl | rfl | rfl | rfl | rfl
    · exact CrT2
    · exact CrT3
    · exact CrT4
    · exact CrT7
    · exact CrT8
    · exact CrT9
    · exact CrT10
    · exact CrT11
    · exact CrT12
    · exact CrT13
    · exact CrT14
    · exact CrT19
    · exact CrT20
    · exact CrT21
    · exact CrT24
    · exact CrT25
    · exact CrT26
    · exact CrT27
    · exact CrT28
    · exact CrT29
theorem CrOk2 {TT : Tb} (h : ∀ q ∈ CrC0, CtrOk TT Tryz.prog q) : ∀ q ∈ CrC2, CtrOk TT Tryz.prog q := fun q hq => by
  rcases List.mem_append.1 hq with hq | hq
  · exact CrOk1 h q hq
  · obtain rfl := List.mem_singleton.1 hq
    refine ctrRec_ok (CrOk1 h) ?_
    intro r hr
    simp only [List.mem_cons, List.not_mem_nil, or_false] at hr
    rcases hr with rfl | rfl
    · exact CrT5
    · exact CrT22
theorem CrOk3 {TT : Tb} (h : ∀ q ∈ CrC0, CtrOk TT Tryz.prog q) : ∀ q ∈ CrC3, CtrOk TT Tryz.prog q := fun q hq => by
  rcases List.mem_append.1 hq with hq | hq
  · exact CrOk2 h q hq
  · obtain rfl := List.mem_singleton.1 hq
    refine ctrRec_ok (CrOk2 h) ?_
    intro r hr
    simp only [List.mem_cons, List.not_mem_nil, or_false] at hr
    rcases hr with rfl | rfl | rfl | rfl
    · exact CrT0
    · exact CrT1
    · exact CrT17
    · exact CrT18
theorem CrOk4 {TT : Tb} (h : ∀ q ∈ CrC0, CtrOk TT Tryz.prog q) : ∀ q ∈ CrC4, CtrOk TT Tryz.prog q := fun q hq => by
  rcases List.mem_append.1 hq with hq | hq
  · exact CrOk3 h q hq
  · obtain rfl := List.mem_singleton.1 hq
    refine ctrRec_ok (CrOk3 h) ?_
    intro r hr
    simp only [List.mem_cons, List.not_mem_nil, or_false] at hr
    rcases hr with rfl | rfl
    · exact CrT6
    · exact CrT23
theorem CrOk5 {TT : Tb} (h : ∀ q ∈ CrC0, CtrOk TT Tryz.prog q) : ∀ q ∈ CrC5, CtrOk TT Tryz.prog q := fun q hq => by
  rcases List.mem_append.1 hq with hq | hq
  · exact CrOk4 h q hq
  · obtain rfl := List.mem_singleton.1 hq
    refine ctrRec_ok (CrOk4 h) ?_
    intro r hr
    simp only [List.mem_cons, List.not_mem_nil, or_false] at hr
    rcases hr with rfl | rfl
    · exact CrT15
    · exact CrT30
theorem CrOk6 {TT : Tb} (h : ∀ q ∈ CrC0, CtrOk TT Tryz.prog q) : ∀ q ∈ CrC6, CtrOk TT Tryz.prog q := fun q hq => by
  rcases List.mem_append.1 hq with hq | hq
  · exact CrOk5 h q hq
  · obtain rfl := List.mem_singleton.1 hq
    refine ctrRec_ok (CrOk5 h) ?_
    intro r hr
    simp only [List.mem_cons, List.not_mem_nil, or_false] at hr
    rcases hr with rfl | rfl
    · exact CrT16
    · exact CrT31
theorem CrOk7 {TT : Tb} (h : ∀ q ∈ CrC0, CtrOk TT Tryz.prog q) : ∀ q ∈ CrC7, CtrOk TT Tryz.prog q := fun q hq => by
  rcases List.mem_append.1 hq with hq | hq
  · exact CrOk6 h q hq
  · obtain rfl := List.mem_singleton.1 hq
    refine ctrRec_ok (CrOk6 h) ?_
    intro r hr
    simp only [List.mem_cons, List.not_mem_nil, or_false] at hr
    rcases hr with rfl
    exact CrT32
theorem CrOk8 {TT : Tb} (h : ∀ q ∈ CrC0, CtrOk TT Tryz.prog q) : ∀ q ∈ CrC8, CtrOk TT Tryz.prog q := fun q hq => by
  rcases List.mem_append.1 hq with hq | hq
  · exact CrOk7 h q hq
  · obtain rfl := List.mem_singleton.1 hq
    refine ctrRec_ok (CrOk7 h) ?_
    intro r hr
    simp only [List.mem_cons, List.not_mem_nil, or_false] at hr
    rcases hr with rfl | rfl
    · exact CrT34
    · exact CrT35
theorem CrOk9 {TT : Tb} (h : ∀ q ∈ CrC0, CtrOk TT Tryz.prog q) : ∀ q ∈ CrC9, CtrOk TT Tryz.prog q := fun q hq => by
  rcases List.mem_append.1 hq with hq | hq
  · exact CrOk8 h q hq
  · obtain rfl := List.mem_singleton.1 hq
    refine ctrRec_ok (CrOk8 h) ?_
    intro r hr
    simp only [List.mem_cons, List.not_mem_nil, or_false] at hr
    rcases hr with rfl
    exact CrT36
theorem CrOk10 {TT : Tb} (h : ∀ q ∈ CrC0, CtrOk TT Tryz.prog q) : ∀ q ∈ CrC10, CtrOk TT Tryz.prog q := fun q hq => by
  rcases List.mem_append.1 hq with hq | hq
  · exact CrOk9 h q hq
  · obtain rfl := List.mem_singleton.1 hq
    refine ctrRec_ok (CrOk9 h) ?_
    intro r hr
    simp only [List.mem_cons, List.not_mem_nil, or_false] at hr
    rcases hr with rfl
    exact CrT33
end Go.Proofs.YtmkkmjpbeokibaaGreatDoor.Ca
end
section
namespace Go.Proofs.YtmkkmjpbeokibaaGreatDoor.Ca
open Go Go.Proofs.YtmkkmjpbeokibaaGreatDoor.Sx Go.RowKit
noncomputable def awakeR : Ctx := { calls := CrC10 }
theorem awakeR_ok : ∀ q ∈ awakeR.calls, CtrOk CT.open Tryz.prog q := CrOk10 awakeG_ok
set_option maxRecDepth 100000 in
set_option maxHeartbeats 4000000 in
theorem awake_run : chkVal Tryz.prog awakeR 3001 14 [] [] (.b .tt) = true := by kernel_rfl
theorem awake_ok : CtrOk CT Tryz.prog cAwake :=
  ctrValJ_ok tab_stable rfl fun ρ w hF hT hR hJ => (val_calls (TT := CT) (Γ := awakeR) awakeR_ok awake_run ρ w hF hT hR hJ).mono fun e w' ⟨h1, h2⟩ => ⟨⟨h1, fun _ h => by cases h⟩, h2⟩
theorem awake_open : CtrOk CT.open Tryz.prog cAwake :=
  ctrValJ_ok tab_stable rfl fun ρ w hF hT hR hJ => (val_calls (TT := CT.open) (Γ := awakeR) awakeR_ok awake_run ρ w hF hT hR hJ).mono fun e w' ⟨h1, h2⟩ => ⟨⟨h1, fun _ h => by cases h⟩, h2⟩
end Go.Proofs.YtmkkmjpbeokibaaGreatDoor.Ca
end
section
namespace Go.Proofs.YtmkkmjpbeokibaaGreatDoor.Ca
open Go Go.Proofs.YtmkkmjpbeokibaaGreatDoor.Sx Go.RowKit
theorem liftsG_ok : ∀ q ∈ ClC0, CtrOk CT.open Tryz.prog q := by
  simpa [ClC0, liftsG] using ⟨awake_open, ctr_noJ (speedV_ok fit_no), ctr_noJ (speedRV_ok fit_no)⟩
set_option maxRecDepth 100000 in
set_option maxHeartbeats 4000000 in
theorem lifts_law : Law 6 liftsK [] := fun ρ w hF hT hR hJ =>
  val_rest (TT := CT) dd_ok (Γ := { calls := ClC4 }) (ClOk4 liftsG_ok) 2000 liftsK [] (.b .tt) rfl [] (by kernel_rfl) ρ w hF hT hR trivial hJ
end Go.Proofs.YtmkkmjpbeokibaaGreatDoor.Ca
end
section
namespace Go.Proofs.YtmkkmjpbeokibaaGreatDoor.Ca
open Go Go.Proofs.YtmkkmjpbeokibaaGreatDoor.Sx Go.RowKit
theorem sp_any {ρ : Env} (hg : ρ.g = gF) (a b c d : E) : (E.app 0 (.cons a (.cons b (.cons c (.cons d .nil))))).I ρ = sp4 (a.I ρ) (b.I ρ) (c.I ρ) (d.I ρ) := by
  rw [I_app, hg, gF_0]
  simp only [L_cons, L_nil]
  rfl
theorem poss_any {ρ : Env} (hh : ρ.h = Ca.hF) (a b c d e : E) : (E.happ 0 (.cons a (.cons b (.cons c (.cons d (.cons e .nil)))))).B ρ = possB (a.I ρ) (b.I ρ) (c.I ρ) (d.I ρ) (e.I ρ) := by
  rw [B_happ, hh, hF_0]
  simp only [L_cons, L_nil]
  rfl
theorem tow_any {ρ : Env} (hh : ρ.h = Ca.hF) (a b c d e f : E) : (E.happ 2 (.cons a (.cons b (.cons c (.cons d (.cons e (.cons f .nil))))))).B ρ = true ↔ (0 ≤ a.I ρ ∧ a.I ρ ≤ 100000) ∧ (0 ≤ b.I ρ ∧ b.I ρ ≤ 100000) ∧ (0 ≤ c.I ρ ∧ c.I ρ ≤ 100000) ∧ (0 ≤ d.I ρ ∧ d.I ρ ≤ 100000) ∧ (0 ≤ e.I ρ ∧ e.I ρ ≤ 100000) ∧ (0 ≤ f.I ρ ∧ f.I ρ ≤ 100000) ∧ 1 ≤ c.I ρ := by
  rw [B_happ, hh, hF_2]
  simp only [L_cons, L_nil]
  exact towB_iff _ _ _ _ _ _
theorem speed_mono {p l d s p' l' d' : Int} (hd' : 0 ≤ d') (hp : p ≤ p') (hl : l ≤ l') (hd : d' ≤ d) : sp4 p l d s ≤ sp4 p' l' d' s := by
  have h1 := speed_range p l d s
  have h2 := speed_range p' l' d' s
  rcases Int.lt_or_le (sp4 p l d s) 0 with h | h
  · omega
  · exact (speed_iff hd' h h1.2).1 (poss_more hp hl hd ((speed_iff (by omega) h h1.2).2 (Int.le_refl _)))
theorem speed_zero {p l d s d' : Int} (hd : 0 ≤ d) (hd' : 0 ≤ d') (h : 0 ≤ sp4 p l d s) : 0 ≤ sp4 p l d' s := by
  have h1 := (speed_iff hd (v := 0) (by omega) (by omega)).2 h
  refine (speed_iff hd' (v := 0) (by omega) (by omega)).1 ?_
  simpa [possB] using h1
/-- What is behind the three speeds. -/
theorem tows_not {p l d s a b c : Int} (hd : 1 ≤ d) (hd1 : d ≤ 100000) (hp : p ≤ 100000) (hl : l ≤ 100000) (ha : 0 ≤ a) (hb : 0 ≤ b) (hc : 0 ≤ c) :
    sp4 p l d s ≤ sp4 (if p + a < 100000 then p + a else 100000) (if l + b < 100000 then l + b else 100000) d s ∧
    sp4 p l (if d + c < 100000 then d + c else 100000) s ≤ sp4 p l d s ∧ (0 ≤ sp4 p l d s → 0 ≤ sp4 p l (if d + c < 100000 then d + c else 100000) s) := by
  refine ⟨speed_mono (by omega) (by split <;> omega) (by split <;> omega) (Int.le_refl _), speed_mono (by omega) (Int.le_refl _) (Int.le_refl _) (by split <;> omega), fun h => speed_zero (by omega) (by split <;> omega) h⟩
theorem tow_dec {ρ : Env} (hh : ρ.h = Ca.hF) (a b c d e f : E) : (E.happ 2 (.cons a (.cons b (.cons c (.cons d (.cons e (.cons f .nil))))))).B ρ = decide ((0 ≤ a.I ρ ∧ a.I ρ ≤ 100000) ∧ (0 ≤ b.I ρ ∧ b.I ρ ≤ 100000) ∧ (0 ≤ c.I ρ ∧ c.I ρ ≤ 100000) ∧ (0 ≤ d.I ρ ∧ d.I ρ ≤ 100000) ∧ (0 ≤ e.I ρ ∧ e.I ρ ≤ 100000) ∧ (0 ≤ f.I ρ ∧ f.I ρ ≤ 100000) ∧ 1 ≤ c.I ρ) := by
  rw [Bool.eq_iff_iff, tow_any hh, decide_eq_true_eq]
theorem ite_bounds {p a : Int} (hp : p ≤ 100000) (ha : 0 ≤ a) : p ≤ (if p + a < 100000 then p + a else 100000) ∧ (if p + a < 100000 then p + a else 100000) ≤ 100000 := by split <;> omega
set_option maxHeartbeats 4000000 in
theorem tows_law : Law 7 towsK towsF := fun ρ w hF hT hR hJ => by
  refine val_rest (TT := CT) dd_ok (Γ := towsG) (by simpa [towsG] using ⟨awake_open, ctr_noJ (speed_ok fit_no), ctr_noJ (tow_ok fit_no), ctr_noJ (possR_ok fit_no)⟩) 2000 towsK towsF (.b .tt) rfl
    [⟨(.val (.b .ff)), [(.not (.and (.happ 0 (.cons (.v 0) (.cons (.v 1) (.cons (.v 2) (.cons (.v 3) (.cons (.rem (.v 9) (.c 2001)) .nil)))))) (.le (.rem (.v 9) (.c 2001)) (.app 0 (.cons (.v 0) (.cons (.v 1) (.cons (.v 2) (.cons (.v 3) .nil)))))))), (.not (.and (.not (.happ 0 (.cons (.v 0) (.cons (.v 1) (.cons (.v 2) (.cons (.v 3) (.cons (.rem (.v 9) (.c 2001)) .nil))))))) (.not (.le (.rem (.v 9) (.c 2001)) (.app 0 (.cons (.v 0) (.cons (.v 1) (.cons (.v 2) (.cons (.v 3) .nil))))))))), (.le (.c 0) (.v 0)), (.le (.v 0) (.c 100000)), (.le (.c 0) (.v 1)), (.le (.v 1) (.c 100000)), (.le (.c 0) (.v 2)), (.le (.v 2) (.c 100000)), (.le (.c 0) (.v 3)), (.le (.v 3) (.c 100000)), (.le (.c 0) (.v 4)), (.le (.v 4) (.c 100000)), (.le (.c 0) (.v 5)), (.le (.v 5) (.c 100000)), (.le (.c 1) (.v 2)), (.happ 2 (.cons (.v 0) (.cons (.v 1) (.cons (.v 2) (.cons (.v 3) (.cons (.v 4) (.cons (.v 5) .nil))))))), (.le (.c 0) (.app 0 (.cons (.v 0) (.cons (.v 1) (.cons (.v 2) (.cons (.v 3) .nil)))))), (.le (.app 0 (.cons (.v 0) (.cons (.v 1) (.cons (.v 2) (.cons (.v 3) .nil))))) (.c 2000)), (.le (.mul (.c 20) (.v 5)) (.v 4)), (.le (.c 0) (.v 6)), (.le (.v 6) (.c 65535)), (.le (.c 0) (.v 7)), (.le (.v 7) (.c 65535)), (.le (.c 0) (.v 8)), (.le (.v 8) (.c 65535)), (.le (.c 0) (.v 9)), (.le (.v 9) (.c 65535))], []⟩,
⟨(.val (.b .ff)), [(.lt (.app 0 (.cons (.v 0) (.cons (.v 1) (.cons (.v 2) (.cons (.v 3) .nil))))) (.app 0 (.cons (.v 0) (.cons (.v 1) (.cons (.ite (.lt (.add (.v 2) (.v 8)) (.c 100000)) (.add (.v 2) (.v 8)) (.c 100000)) (.cons (.v 3) .nil)))))), (.le (.app 0 (.cons (.v 0) (.cons (.v 1) (.cons (.v 2) (.cons (.v 3) .nil))))) (.app 0 (.cons (.ite (.lt (.add (.v 0) (.v 6)) (.c 100000)) (.add (.v 0) (.v 6)) (.c 100000)) (.cons (.ite (.lt (.add (.v 1) (.v 7)) (.c 100000)) (.add (.v 1) (.v 7)) (.c 100000)) (.cons (.v 2) (.cons (.v 3) .nil)))))), (.le (.c 0) (.v 0)), (.le (.v 0) (.c 100000)), (.le (.c 0) (.v 1)), (.le (.v 1) (.c 100000)), (.le (.c 0) (.ite (.lt (.add (.v 2) (.v 8)) (.c 100000)) (.add (.v 2) (.v 8)) (.c 100000))), (.le (.ite (.lt (.add (.v 2) (.v 8)) (.c 100000)) (.add (.v 2) (.v 8)) (.c 100000)) (.c 100000)), (.le (.c 0) (.v 3)), (.le (.v 3) (.c 100000)), (.le (.c 0) (.v 4)), (.le (.v 4) (.c 100000)), (.le (.c 0) (.v 5)), (.le (.v 5) (.c 100000)), (.le (.c 1) (.ite (.lt (.add (.v 2) (.v 8)) (.c 100000)) (.add (.v 2) (.v 8)) (.c 100000))), (.happ 2 (.cons (.v 0) (.cons (.v 1) (.cons (.ite (.lt (.add (.v 2) (.v 8)) (.c 100000)) (.add (.v 2) (.v 8)) (.c 100000)) (.cons (.v 3) (.cons (.v 4) (.cons (.v 5) .nil))))))), (.le (.c 0) (.app 0 (.cons (.v 0) (.cons (.v 1) (.cons (.ite (.lt (.add (.v 2) (.v 8)) (.c 100000)) (.add (.v 2) (.v 8)) (.c 100000)) (.cons (.v 3) .nil)))))), (.le (.app 0 (.cons (.v 0) (.cons (.v 1) (.cons (.ite (.lt (.add (.v 2) (.v 8)) (.c 100000)) (.add (.v 2) (.v 8)) (.c 100000)) (.cons (.v 3) .nil))))) (.c 2000)), (.le (.mul (.c 20) (.v 5)) (.v 4)), (.le (.c 0) (.ite (.lt (.add (.v 0) (.v 6)) (.c 100000)) (.add (.v 0) (.v 6)) (.c 100000))), (.le (.ite (.lt (.add (.v 0) (.v 6)) (.c 100000)) (.add (.v 0) (.v 6)) (.c 100000)) (.c 100000)), (.le (.c 0) (.ite (.lt (.add (.v 1) (.v 7)) (.c 100000)) (.add (.v 1) (.v 7)) (.c 100000))), (.le (.ite (.lt (.add (.v 1) (.v 7)) (.c 100000)) (.add (.v 1) (.v 7)) (.c 100000)) (.c 100000)), (.le (.c 0) (.v 2)), (.le (.v 2) (.c 100000)), (.le (.c 0) (.v 3)), (.le (.v 3) (.c 100000)), (.le (.c 0) (.v 4)), (.le (.v 4) (.c 100000)), (.le (.c 0) (.v 5)), (.le (.v 5) (.c 100000)), (.le (.c 1) (.v 2)), (.happ 2 (.cons (.ite (.lt (.add (.v 0) (.v 6)) (.c 100000)) (.add (.v 0) (.v 6)) (.c 100000)) (.cons (.ite (.lt (.add (.v 1) (.v 7)) (.c 100000)) (.add (.v 1) (.v 7)) (.c 100000)) (.cons (.v 2) (.cons (.v 3) (.cons (.v 4) (.cons (.v 5) .nil))))))), (.le (.c 0) (.app 0 (.cons (.ite (.lt (.add (.v 0) (.v 6)) (.c 100000)) (.add (.v 0) (.v 6)) (.c 100000)) (.cons (.ite (.lt (.add (.v 1) (.v 7)) (.c 100000)) (.add (.v 1) (.v 7)) (.c 100000)) (.cons (.v 2) (.cons (.v 3) .nil)))))), (.le (.app 0 (.cons (.ite (.lt (.add (.v 0) (.v 6)) (.c 100000)) (.add (.v 0) (.v 6)) (.c 100000)) (.cons (.ite (.lt (.add (.v 1) (.v 7)) (.c 100000)) (.add (.v 1) (.v 7)) (.c 100000)) (.cons (.v 2) (.cons (.v 3) .nil))))) (.c 2000)), (.le (.mul (.c 20) (.v 5)) (.v 4)), (.or (.and (.happ 0 (.cons (.v 0) (.cons (.v 1) (.cons (.v 2) (.cons (.v 3) (.cons (.rem (.v 9) (.c 2001)) .nil)))))) (.le (.rem (.v 9) (.c 2001)) (.app 0 (.cons (.v 0) (.cons (.v 1) (.cons (.v 2) (.cons (.v 3) .nil))))))) (.and (.not (.happ 0 (.cons (.v 0) (.cons (.v 1) (.cons (.v 2) (.cons (.v 3) (.cons (.rem (.v 9) (.c 2001)) .nil))))))) (.not (.le (.rem (.v 9) (.c 2001)) (.app 0 (.cons (.v 0) (.cons (.v 1) (.cons (.v 2) (.cons (.v 3) .nil))))))))), (.le (.c 0) (.v 0)), (.le (.v 0) (.c 100000)), (.le (.c 0) (.v 1)), (.le (.v 1) (.c 100000)), (.le (.c 0) (.v 2)), (.le (.v 2) (.c 100000)), (.le (.c 0) (.v 3)), (.le (.v 3) (.c 100000)), (.le (.c 0) (.v 4)), (.le (.v 4) (.c 100000)), (.le (.c 0) (.v 5)), (.le (.v 5) (.c 100000)), (.le (.c 1) (.v 2)), (.happ 2 (.cons (.v 0) (.cons (.v 1) (.cons (.v 2) (.cons (.v 3) (.cons (.v 4) (.cons (.v 5) .nil))))))), (.le (.c 0) (.app 0 (.cons (.v 0) (.cons (.v 1) (.cons (.v 2) (.cons (.v 3) .nil)))))), (.le (.app 0 (.cons (.v 0) (.cons (.v 1) (.cons (.v 2) (.cons (.v 3) .nil))))) (.c 2000)), (.le (.mul (.c 20) (.v 5)) (.v 4)), (.le (.c 0) (.v 6)), (.le (.v 6) (.c 65535)), (.le (.c 0) (.v 7)), (.le (.v 7) (.c 65535)), (.le (.c 0) (.v 8)), (.le (.v 8) (.c 65535)), (.le (.c 0) (.v 9)), (.le (.v 9) (.c 65535))], []⟩,
⟨(.val (.b .ff)), [(.lt (.app 0 (.cons (.ite (.lt (.add (.v 0) (.v 6)) (.c 100000)) (.add (.v 0) (.v 6)) (.c 100000)) (.cons (.ite (.lt (.add (.v 1) (.v 7)) (.c 100000)) (.add (.v 1) (.v 7)) (.c 100000)) (.cons (.v 2) (.cons (.v 3) .nil))))) (.app 0 (.cons (.v 0) (.cons (.v 1) (.cons (.v 2) (.cons (.v 3) .nil)))))), (.le (.c 0) (.v 0)), (.le (.v 0) (.c 100000)), (.le (.c 0) (.v 1)), (.le (.v 1) (.c 100000)), (.le (.c 0) (.ite (.lt (.add (.v 2) (.v 8)) (.c 100000)) (.add (.v 2) (.v 8)) (.c 100000))), (.le (.ite (.lt (.add (.v 2) (.v 8)) (.c 100000)) (.add (.v 2) (.v 8)) (.c 100000)) (.c 100000)), (.le (.c 0) (.v 3)), (.le (.v 3) (.c 100000)), (.le (.c 0) (.v 4)), (.le (.v 4) (.c 100000)), (.le (.c 0) (.v 5)), (.le (.v 5) (.c 100000)), (.le (.c 1) (.ite (.lt (.add (.v 2) (.v 8)) (.c 100000)) (.add (.v 2) (.v 8)) (.c 100000))), (.happ 2 (.cons (.v 0) (.cons (.v 1) (.cons (.ite (.lt (.add (.v 2) (.v 8)) (.c 100000)) (.add (.v 2) (.v 8)) (.c 100000)) (.cons (.v 3) (.cons (.v 4) (.cons (.v 5) .nil))))))), (.le (.c 0) (.app 0 (.cons (.v 0) (.cons (.v 1) (.cons (.ite (.lt (.add (.v 2) (.v 8)) (.c 100000)) (.add (.v 2) (.v 8)) (.c 100000)) (.cons (.v 3) .nil)))))), (.le (.app 0 (.cons (.v 0) (.cons (.v 1) (.cons (.ite (.lt (.add (.v 2) (.v 8)) (.c 100000)) (.add (.v 2) (.v 8)) (.c 100000)) (.cons (.v 3) .nil))))) (.c 2000)), (.le (.mul (.c 20) (.v 5)) (.v 4)), (.le (.c 0) (.ite (.lt (.add (.v 0) (.v 6)) (.c 100000)) (.add (.v 0) (.v 6)) (.c 100000))), (.le (.ite (.lt (.add (.v 0) (.v 6)) (.c 100000)) (.add (.v 0) (.v 6)) (.c 100000)) (.c 100000)), (.le (.c 0) (.ite (.lt (.add (.v 1) (.v 7)) (.c 100000)) (.add (.v 1) (.v 7)) (.c 100000))), (.le (.ite (.lt (.add (.v 1) (.v 7)) (.c 100000)) (.add (.v 1) (.v 7)) (.c 100000)) (.c 100000)), (.le (.c 0) (.v 2)), (.le (.v 2) (.c 100000)), (.le (.c 0) (.v 3)), (.le (.v 3) (.c 100000)), (.le (.c 0) (.v 4)), (.le (.v 4) (.c 100000)), (.le (.c 0) (.v 5)), (.le (.v 5) (.c 100000)), (.le (.c 1) (.v 2)), (.happ 2 (.cons (.ite (.lt (.add (.v 0) (.v 6)) (.c 100000)) (.add (.v 0) (.v 6)) (.c 100000)) (.cons (.ite (.lt (.add (.v 1) (.v 7)) (.c 100000)) (.add (.v 1) (.v 7)) (.c 100000)) (.cons (.v 2) (.cons (.v 3) (.cons (.v 4) (.cons (.v 5) .nil))))))), (.le (.c 0) (.app 0 (.cons (.ite (.lt (.add (.v 0) (.v 6)) (.c 100000)) (.add (.v 0) (.v 6)) (.c 100000)) (.cons (.ite (.lt (.add (.v 1) (.v 7)) (.c 100000)) (.add (.v 1) (.v 7)) (.c 100000)) (.cons (.v 2) (.cons (.v 3) .nil)))))), (.le (.app 0 (.cons (.ite (.lt (.add (.v 0) (.v 6)) (.c 100000)) (.add (.v 0) (.v 6)) (.c 100000)) (.cons (.ite (.lt (.add (.v 1) (.v 7)) (.c 100000)) (.add (.v 1) (.v 7)) (.c 100000)) (.cons (.v 2) (.cons (.v 3) .nil))))) (.c 2000)), (.le (.mul (.c 20) (.v 5)) (.v 4)), (.or (.and (.happ 0 (.cons (.v 0) (.cons (.v 1) (.cons (.v 2) (.cons (.v 3) (.cons (.rem (.v 9) (.c 2001)) .nil)))))) (.le (.rem (.v 9) (.c 2001)) (.app 0 (.cons (.v 0) (.cons (.v 1) (.cons (.v 2) (.cons (.v 3) .nil))))))) (.and (.not (.happ 0 (.cons (.v 0) (.cons (.v 1) (.cons (.v 2) (.cons (.v 3) (.cons (.rem (.v 9) (.c 2001)) .nil))))))) (.not (.le (.rem (.v 9) (.c 2001)) (.app 0 (.cons (.v 0) (.cons (.v 1) (.cons (.v 2) (.cons (.v 3) .nil))))))))), (.le (.c 0) (.v 0)), (.le (.v 0) (.c 100000)), (.le (.c 0) (.v 1)), (.le (.v 1) (.c 100000)), (.le (.c 0) (.v 2)), (.le (.v 2) (.c 100000)), (.le (.c 0) (.v 3)), (.le (.v 3) (.c 100000)), (.le (.c 0) (.v 4)), (.le (.v 4) (.c 100000)), (.le (.c 0) (.v 5)), (.le (.v 5) (.c 100000)), (.le (.c 1) (.v 2)), (.happ 2 (.cons (.v 0) (.cons (.v 1) (.cons (.v 2) (.cons (.v 3) (.cons (.v 4) (.cons (.v 5) .nil))))))), (.le (.c 0) (.app 0 (.cons (.v 0) (.cons (.v 1) (.cons (.v 2) (.cons (.v 3) .nil)))))), (.le (.app 0 (.cons (.v 0) (.cons (.v 1) (.cons (.v 2) (.cons (.v 3) .nil))))) (.c 2000)), (.le (.mul (.c 20) (.v 5)) (.v 4)), (.le (.c 0) (.v 6)), (.le (.v 6) (.c 65535)), (.le (.c 0) (.v 7)), (.le (.v 7) (.c 65535)), (.le (.c 0) (.v 8)), (.le (.v 8) (.c 65535)), (.le (.c 0) (.v 9)), (.le (.v 9) (.c 65535))], []⟩,
⟨(.val (.b .ff)), [(.le (.c 0) (.v 0)), (.le (.v 0) (.c 100000)), (.le (.c 0) (.v 1)), (.le (.v 1) (.c 100000)), (.le (.c 0) (.ite (.lt (.add (.v 2) (.v 8)) (.c 100000)) (.add (.v 2) (.v 8)) (.c 100000))), (.le (.ite (.lt (.add (.v 2) (.v 8)) (.c 100000)) (.add (.v 2) (.v 8)) (.c 100000)) (.c 100000)), (.le (.c 0) (.v 3)), (.le (.v 3) (.c 100000)), (.le (.c 0) (.v 4)), (.le (.v 4) (.c 100000)), (.le (.c 0) (.v 5)), (.le (.v 5) (.c 100000)), (.le (.c 1) (.ite (.lt (.add (.v 2) (.v 8)) (.c 100000)) (.add (.v 2) (.v 8)) (.c 100000))), (.happ 2 (.cons (.v 0) (.cons (.v 1) (.cons (.ite (.lt (.add (.v 2) (.v 8)) (.c 100000)) (.add (.v 2) (.v 8)) (.c 100000)) (.cons (.v 3) (.cons (.v 4) (.cons (.v 5) .nil))))))), (.le (.mul (.c 20) (.v 5)) (.v 4)), (.lt (.app 0 (.cons (.v 0) (.cons (.v 1) (.cons (.ite (.lt (.add (.v 2) (.v 8)) (.c 100000)) (.add (.v 2) (.v 8)) (.c 100000)) (.cons (.v 3) .nil))))) (.c 0)), (.le (.c 0) (.ite (.lt (.add (.v 0) (.v 6)) (.c 100000)) (.add (.v 0) (.v 6)) (.c 100000))), (.le (.ite (.lt (.add (.v 0) (.v 6)) (.c 100000)) (.add (.v 0) (.v 6)) (.c 100000)) (.c 100000)), (.le (.c 0) (.ite (.lt (.add (.v 1) (.v 7)) (.c 100000)) (.add (.v 1) (.v 7)) (.c 100000))), (.le (.ite (.lt (.add (.v 1) (.v 7)) (.c 100000)) (.add (.v 1) (.v 7)) (.c 100000)) (.c 100000)), (.le (.c 0) (.v 2)), (.le (.v 2) (.c 100000)), (.le (.c 0) (.v 3)), (.le (.v 3) (.c 100000)), (.le (.c 0) (.v 4)), (.le (.v 4) (.c 100000)), (.le (.c 0) (.v 5)), (.le (.v 5) (.c 100000)), (.le (.c 1) (.v 2)), (.happ 2 (.cons (.ite (.lt (.add (.v 0) (.v 6)) (.c 100000)) (.add (.v 0) (.v 6)) (.c 100000)) (.cons (.ite (.lt (.add (.v 1) (.v 7)) (.c 100000)) (.add (.v 1) (.v 7)) (.c 100000)) (.cons (.v 2) (.cons (.v 3) (.cons (.v 4) (.cons (.v 5) .nil))))))), (.le (.c 0) (.app 0 (.cons (.ite (.lt (.add (.v 0) (.v 6)) (.c 100000)) (.add (.v 0) (.v 6)) (.c 100000)) (.cons (.ite (.lt (.add (.v 1) (.v 7)) (.c 100000)) (.add (.v 1) (.v 7)) (.c 100000)) (.cons (.v 2) (.cons (.v 3) .nil)))))), (.le (.app 0 (.cons (.ite (.lt (.add (.v 0) (.v 6)) (.c 100000)) (.add (.v 0) (.v 6)) (.c 100000)) (.cons (.ite (.lt (.add (.v 1) (.v 7)) (.c 100000)) (.add (.v 1) (.v 7)) (.c 100000)) (.cons (.v 2) (.cons (.v 3) .nil))))) (.c 2000)), (.le (.mul (.c 20) (.v 5)) (.v 4)), (.or (.and (.happ 0 (.cons (.v 0) (.cons (.v 1) (.cons (.v 2) (.cons (.v 3) (.cons (.rem (.v 9) (.c 2001)) .nil)))))) (.le (.rem (.v 9) (.c 2001)) (.app 0 (.cons (.v 0) (.cons (.v 1) (.cons (.v 2) (.cons (.v 3) .nil))))))) (.and (.not (.happ 0 (.cons (.v 0) (.cons (.v 1) (.cons (.v 2) (.cons (.v 3) (.cons (.rem (.v 9) (.c 2001)) .nil))))))) (.not (.le (.rem (.v 9) (.c 2001)) (.app 0 (.cons (.v 0) (.cons (.v 1) (.cons (.v 2) (.cons (.v 3) .nil))))))))), (.le (.c 0) (.v 0)), (.le (.v 0) (.c 100000)), (.le (.c 0) (.v 1)), (.le (.v 1) (.c 100000)), (.le (.c 0) (.v 2)), (.le (.v 2) (.c 100000)), (.le (.c 0) (.v 3)), (.le (.v 3) (.c 100000)), (.le (.c 0) (.v 4)), (.le (.v 4) (.c 100000)), (.le (.c 0) (.v 5)), (.le (.v 5) (.c 100000)), (.le (.c 1) (.v 2)), (.happ 2 (.cons (.v 0) (.cons (.v 1) (.cons (.v 2) (.cons (.v 3) (.cons (.v 4) (.cons (.v 5) .nil))))))), (.le (.c 0) (.app 0 (.cons (.v 0) (.cons (.v 1) (.cons (.v 2) (.cons (.v 3) .nil)))))), (.le (.app 0 (.cons (.v 0) (.cons (.v 1) (.cons (.v 2) (.cons (.v 3) .nil))))) (.c 2000)), (.le (.mul (.c 20) (.v 5)) (.v 4)), (.le (.c 0) (.v 6)), (.le (.v 6) (.c 65535)), (.le (.c 0) (.v 7)), (.le (.v 7) (.c 65535)), (.le (.c 0) (.v 8)), (.le (.v 8) (.c 65535)), (.le (.c 0) (.v 9)), (.le (.v 9) (.c 65535))], []⟩,
⟨(.val (.b .ff)), [(.not (.happ 2 (.cons (.v 0) (.cons (.v 1) (.cons (.ite (.lt (.add (.v 2) (.v 8)) (.c 100000)) (.add (.v 2) (.v 8)) (.c 100000)) (.cons (.v 3) (.cons (.v 4) (.cons (.v 5) .nil)))))))), (.le (.c 0) (.ite (.lt (.add (.v 0) (.v 6)) (.c 100000)) (.add (.v 0) (.v 6)) (.c 100000))), (.le (.ite (.lt (.add (.v 0) (.v 6)) (.c 100000)) (.add (.v 0) (.v 6)) (.c 100000)) (.c 100000)), (.le (.c 0) (.ite (.lt (.add (.v 1) (.v 7)) (.c 100000)) (.add (.v 1) (.v 7)) (.c 100000))), (.le (.ite (.lt (.add (.v 1) (.v 7)) (.c 100000)) (.add (.v 1) (.v 7)) (.c 100000)) (.c 100000)), (.le (.c 0) (.v 2)), (.le (.v 2) (.c 100000)), (.le (.c 0) (.v 3)), (.le (.v 3) (.c 100000)), (.le (.c 0) (.v 4)), (.le (.v 4) (.c 100000)), (.le (.c 0) (.v 5)), (.le (.v 5) (.c 100000)), (.le (.c 1) (.v 2)), (.happ 2 (.cons (.ite (.lt (.add (.v 0) (.v 6)) (.c 100000)) (.add (.v 0) (.v 6)) (.c 100000)) (.cons (.ite (.lt (.add (.v 1) (.v 7)) (.c 100000)) (.add (.v 1) (.v 7)) (.c 100000)) (.cons (.v 2) (.cons (.v 3) (.cons (.v 4) (.cons (.v 5) .nil))))))), (.le (.c 0) (.app 0 (.cons (.ite (.lt (.add (.v 0) (.v 6)) (.c 100000)) (.add (.v 0) (.v 6)) (.c 100000)) (.cons (.ite (.lt (.add (.v 1) (.v 7)) (.c 100000)) (.add (.v 1) (.v 7)) (.c 100000)) (.cons (.v 2) (.cons (.v 3) .nil)))))), (.le (.app 0 (.cons (.ite (.lt (.add (.v 0) (.v 6)) (.c 100000)) (.add (.v 0) (.v 6)) (.c 100000)) (.cons (.ite (.lt (.add (.v 1) (.v 7)) (.c 100000)) (.add (.v 1) (.v 7)) (.c 100000)) (.cons (.v 2) (.cons (.v 3) .nil))))) (.c 2000)), (.le (.mul (.c 20) (.v 5)) (.v 4)), (.or (.and (.happ 0 (.cons (.v 0) (.cons (.v 1) (.cons (.v 2) (.cons (.v 3) (.cons (.rem (.v 9) (.c 2001)) .nil)))))) (.le (.rem (.v 9) (.c 2001)) (.app 0 (.cons (.v 0) (.cons (.v 1) (.cons (.v 2) (.cons (.v 3) .nil))))))) (.and (.not (.happ 0 (.cons (.v 0) (.cons (.v 1) (.cons (.v 2) (.cons (.v 3) (.cons (.rem (.v 9) (.c 2001)) .nil))))))) (.not (.le (.rem (.v 9) (.c 2001)) (.app 0 (.cons (.v 0) (.cons (.v 1) (.cons (.v 2) (.cons (.v 3) .nil))))))))), (.le (.c 0) (.v 0)), (.le (.v 0) (.c 100000)), (.le (.c 0) (.v 1)), (.le (.v 1) (.c 100000)), (.le (.c 0) (.v 2)), (.le (.v 2) (.c 100000)), (.le (.c 0) (.v 3)), (.le (.v 3) (.c 100000)), (.le (.c 0) (.v 4)), (.le (.v 4) (.c 100000)), (.le (.c 0) (.v 5)), (.le (.v 5) (.c 100000)), (.le (.c 1) (.v 2)), (.happ 2 (.cons (.v 0) (.cons (.v 1) (.cons (.v 2) (.cons (.v 3) (.cons (.v 4) (.cons (.v 5) .nil))))))), (.le (.c 0) (.app 0 (.cons (.v 0) (.cons (.v 1) (.cons (.v 2) (.cons (.v 3) .nil)))))), (.le (.app 0 (.cons (.v 0) (.cons (.v 1) (.cons (.v 2) (.cons (.v 3) .nil))))) (.c 2000)), (.le (.mul (.c 20) (.v 5)) (.v 4)), (.le (.c 0) (.v 6)), (.le (.v 6) (.c 65535)), (.le (.c 0) (.v 7)), (.le (.v 7) (.c 65535)), (.le (.c 0) (.v 8)), (.le (.v 8) (.c 65535)), (.le (.c 0) (.v 9)), (.le (.v 9) (.c 65535))], []⟩,
⟨(.val (.b .ff)), [(.le (.c 0) (.v 0)), (.le (.v 0) (.c 100000)), (.le (.c 0) (.v 1)), (.le (.v 1) (.c 100000)), (.le (.c 0) (.ite (.lt (.add (.v 2) (.v 8)) (.c 100000)) (.add (.v 2) (.v 8)) (.c 100000))), (.le (.ite (.lt (.add (.v 2) (.v 8)) (.c 100000)) (.add (.v 2) (.v 8)) (.c 100000)) (.c 100000)), (.le (.c 0) (.v 3)), (.le (.v 3) (.c 100000)), (.le (.c 0) (.v 4)), (.le (.v 4) (.c 100000)), (.le (.c 0) (.v 5)), (.le (.v 5) (.c 100000)), (.le (.c 1) (.ite (.lt (.add (.v 2) (.v 8)) (.c 100000)) (.add (.v 2) (.v 8)) (.c 100000))), (.happ 2 (.cons (.v 0) (.cons (.v 1) (.cons (.ite (.lt (.add (.v 2) (.v 8)) (.c 100000)) (.add (.v 2) (.v 8)) (.c 100000)) (.cons (.v 3) (.cons (.v 4) (.cons (.v 5) .nil))))))), (.le (.c 0) (.app 0 (.cons (.v 0) (.cons (.v 1) (.cons (.ite (.lt (.add (.v 2) (.v 8)) (.c 100000)) (.add (.v 2) (.v 8)) (.c 100000)) (.cons (.v 3) .nil)))))), (.le (.app 0 (.cons (.v 0) (.cons (.v 1) (.cons (.ite (.lt (.add (.v 2) (.v 8)) (.c 100000)) (.add (.v 2) (.v 8)) (.c 100000)) (.cons (.v 3) .nil))))) (.c 2000)), (.le (.mul (.c 20) (.v 5)) (.v 4)), (.le (.c 0) (.ite (.lt (.add (.v 0) (.v 6)) (.c 100000)) (.add (.v 0) (.v 6)) (.c 100000))), (.le (.ite (.lt (.add (.v 0) (.v 6)) (.c 100000)) (.add (.v 0) (.v 6)) (.c 100000)) (.c 100000)), (.le (.c 0) (.ite (.lt (.add (.v 1) (.v 7)) (.c 100000)) (.add (.v 1) (.v 7)) (.c 100000))), (.le (.ite (.lt (.add (.v 1) (.v 7)) (.c 100000)) (.add (.v 1) (.v 7)) (.c 100000)) (.c 100000)), (.le (.c 0) (.v 2)), (.le (.v 2) (.c 100000)), (.le (.c 0) (.v 3)), (.le (.v 3) (.c 100000)), (.le (.c 0) (.v 4)), (.le (.v 4) (.c 100000)), (.le (.c 0) (.v 5)), (.le (.v 5) (.c 100000)), (.le (.c 1) (.v 2)), (.happ 2 (.cons (.ite (.lt (.add (.v 0) (.v 6)) (.c 100000)) (.add (.v 0) (.v 6)) (.c 100000)) (.cons (.ite (.lt (.add (.v 1) (.v 7)) (.c 100000)) (.add (.v 1) (.v 7)) (.c 100000)) (.cons (.v 2) (.cons (.v 3) (.cons (.v 4) (.cons (.v 5) .nil))))))), (.le (.mul (.c 20) (.v 5)) (.v 4)), (.lt (.app 0 (.cons (.ite (.lt (.add (.v 0) (.v 6)) (.c 100000)) (.add (.v 0) (.v 6)) (.c 100000)) (.cons (.ite (.lt (.add (.v 1) (.v 7)) (.c 100000)) (.add (.v 1) (.v 7)) (.c 100000)) (.cons (.v 2) (.cons (.v 3) .nil))))) (.c 0)), (.or (.and (.happ 0 (.cons (.v 0) (.cons (.v 1) (.cons (.v 2) (.cons (.v 3) (.cons (.rem (.v 9) (.c 2001)) .nil)))))) (.le (.rem (.v 9) (.c 2001)) (.app 0 (.cons (.v 0) (.cons (.v 1) (.cons (.v 2) (.cons (.v 3) .nil))))))) (.and (.not (.happ 0 (.cons (.v 0) (.cons (.v 1) (.cons (.v 2) (.cons (.v 3) (.cons (.rem (.v 9) (.c 2001)) .nil))))))) (.not (.le (.rem (.v 9) (.c 2001)) (.app 0 (.cons (.v 0) (.cons (.v 1) (.cons (.v 2) (.cons (.v 3) .nil))))))))), (.le (.c 0) (.v 0)), (.le (.v 0) (.c 100000)), (.le (.c 0) (.v 1)), (.le (.v 1) (.c 100000)), (.le (.c 0) (.v 2)), (.le (.v 2) (.c 100000)), (.le (.c 0) (.v 3)), (.le (.v 3) (.c 100000)), (.le (.c 0) (.v 4)), (.le (.v 4) (.c 100000)), (.le (.c 0) (.v 5)), (.le (.v 5) (.c 100000)), (.le (.c 1) (.v 2)), (.happ 2 (.cons (.v 0) (.cons (.v 1) (.cons (.v 2) (.cons (.v 3) (.cons (.v 4) (.cons (.v 5) .nil))))))), (.le (.c 0) (.app 0 (.cons (.v 0) (.cons (.v 1) (.cons (.v 2) (.cons (.v 3) .nil)))))), (.le (.app 0 (.cons (.v 0) (.cons (.v 1) (.cons (.v 2) (.cons (.v 3) .nil))))) (.c 2000)), (.le (.mul (.c 20) (.v 5)) (.v 4)), (.le (.c 0) (.v 6)), (.le (.v 6) (.c 65535)), (.le (.c 0) (.v 7)), (.le (.v 7) (.c 65535)), (.le (.c 0) (.v 8)), (.le (.v 8) (.c 65535)), (.le (.c 0) (.v 9)), (.le (.v 9) (.c 65535))], []⟩,
⟨(.val (.b .ff)), [(.le (.c 0) (.v 0)), (.le (.v 0) (.c 100000)), (.le (.c 0) (.v 1)), (.le (.v 1) (.c 100000)), (.le (.c 0) (.ite (.lt (.add (.v 2) (.v 8)) (.c 100000)) (.add (.v 2) (.v 8)) (.c 100000))), (.le (.ite (.lt (.add (.v 2) (.v 8)) (.c 100000)) (.add (.v 2) (.v 8)) (.c 100000)) (.c 100000)), (.le (.c 0) (.v 3)), (.le (.v 3) (.c 100000)), (.le (.c 0) (.v 4)), (.le (.v 4) (.c 100000)), (.le (.c 0) (.v 5)), (.le (.v 5) (.c 100000)), (.le (.c 1) (.ite (.lt (.add (.v 2) (.v 8)) (.c 100000)) (.add (.v 2) (.v 8)) (.c 100000))), (.happ 2 (.cons (.v 0) (.cons (.v 1) (.cons (.ite (.lt (.add (.v 2) (.v 8)) (.c 100000)) (.add (.v 2) (.v 8)) (.c 100000)) (.cons (.v 3) (.cons (.v 4) (.cons (.v 5) .nil))))))), (.le (.mul (.c 20) (.v 5)) (.v 4)), (.lt (.app 0 (.cons (.v 0) (.cons (.v 1) (.cons (.ite (.lt (.add (.v 2) (.v 8)) (.c 100000)) (.add (.v 2) (.v 8)) (.c 100000)) (.cons (.v 3) .nil))))) (.c 0)), (.le (.c 0) (.ite (.lt (.add (.v 0) (.v 6)) (.c 100000)) (.add (.v 0) (.v 6)) (.c 100000))), (.le (.ite (.lt (.add (.v 0) (.v 6)) (.c 100000)) (.add (.v 0) (.v 6)) (.c 100000)) (.c 100000)), (.le (.c 0) (.ite (.lt (.add (.v 1) (.v 7)) (.c 100000)) (.add (.v 1) (.v 7)) (.c 100000))), (.le (.ite (.lt (.add (.v 1) (.v 7)) (.c 100000)) (.add (.v 1) (.v 7)) (.c 100000)) (.c 100000)), (.le (.c 0) (.v 2)), (.le (.v 2) (.c 100000)), (.le (.c 0) (.v 3)), (.le (.v 3) (.c 100000)), (.le (.c 0) (.v 4)), (.le (.v 4) (.c 100000)), (.le (.c 0) (.v 5)), (.le (.v 5) (.c 100000)), (.le (.c 1) (.v 2)), (.happ 2 (.cons (.ite (.lt (.add (.v 0) (.v 6)) (.c 100000)) (.add (.v 0) (.v 6)) (.c 100000)) (.cons (.ite (.lt (.add (.v 1) (.v 7)) (.c 100000)) (.add (.v 1) (.v 7)) (.c 100000)) (.cons (.v 2) (.cons (.v 3) (.cons (.v 4) (.cons (.v 5) .nil))))))), (.le (.mul (.c 20) (.v 5)) (.v 4)), (.lt (.app 0 (.cons (.ite (.lt (.add (.v 0) (.v 6)) (.c 100000)) (.add (.v 0) (.v 6)) (.c 100000)) (.cons (.ite (.lt (.add (.v 1) (.v 7)) (.c 100000)) (.add (.v 1) (.v 7)) (.c 100000)) (.cons (.v 2) (.cons (.v 3) .nil))))) (.c 0)), (.or (.and (.happ 0 (.cons (.v 0) (.cons (.v 1) (.cons (.v 2) (.cons (.v 3) (.cons (.rem (.v 9) (.c 2001)) .nil)))))) (.le (.rem (.v 9) (.c 2001)) (.app 0 (.cons (.v 0) (.cons (.v 1) (.cons (.v 2) (.cons (.v 3) .nil))))))) (.and (.not (.happ 0 (.cons (.v 0) (.cons (.v 1) (.cons (.v 2) (.cons (.v 3) (.cons (.rem (.v 9) (.c 2001)) .nil))))))) (.not (.le (.rem (.v 9) (.c 2001)) (.app 0 (.cons (.v 0) (.cons (.v 1) (.cons (.v 2) (.cons (.v 3) .nil))))))))), (.le (.c 0) (.v 0)), (.le (.v 0) (.c 100000)), (.le (.c 0) (.v 1)), (.le (.v 1) (.c 100000)), (.le (.c 0) (.v 2)), (.le (.v 2) (.c 100000)), (.le (.c 0) (.v 3)), (.le (.v 3) (.c 100000)), (.le (.c 0) (.v 4)), (.le (.v 4) (.c 100000)), (.le (.c 0) (.v 5)), (.le (.v 5) (.c 100000)), (.le (.c 1) (.v 2)), (.happ 2 (.cons (.v 0) (.cons (.v 1) (.cons (.v 2) (.cons (.v 3) (.cons (.v 4) (.cons (.v 5) .nil))))))), (.le (.c 0) (.app 0 (.cons (.v 0) (.cons (.v 1) (.cons (.v 2) (.cons (.v 3) .nil)))))), (.le (.app 0 (.cons (.v 0) (.cons (.v 1) (.cons (.v 2) (.cons (.v 3) .nil))))) (.c 2000)), (.le (.mul (.c 20) (.v 5)) (.v 4)), (.le (.c 0) (.v 6)), (.le (.v 6) (.c 65535)), (.le (.c 0) (.v 7)), (.le (.v 7) (.c 65535)), (.le (.c 0) (.v 8)), (.le (.v 8) (.c 65535)), (.le (.c 0) (.v 9)), (.le (.v 9) (.c 65535))], []⟩,
⟨(.val (.b .ff)), [(.not (.happ 2 (.cons (.v 0) (.cons (.v 1) (.cons (.ite (.lt (.add (.v 2) (.v 8)) (.c 100000)) (.add (.v 2) (.v 8)) (.c 100000)) (.cons (.v 3) (.cons (.v 4) (.cons (.v 5) .nil)))))))), (.le (.c 0) (.ite (.lt (.add (.v 0) (.v 6)) (.c 100000)) (.add (.v 0) (.v 6)) (.c 100000))), (.le (.ite (.lt (.add (.v 0) (.v 6)) (.c 100000)) (.add (.v 0) (.v 6)) (.c 100000)) (.c 100000)), (.le (.c 0) (.ite (.lt (.add (.v 1) (.v 7)) (.c 100000)) (.add (.v 1) (.v 7)) (.c 100000))), (.le (.ite (.lt (.add (.v 1) (.v 7)) (.c 100000)) (.add (.v 1) (.v 7)) (.c 100000)) (.c 100000)), (.le (.c 0) (.v 2)), (.le (.v 2) (.c 100000)), (.le (.c 0) (.v 3)), (.le (.v 3) (.c 100000)), (.le (.c 0) (.v 4)), (.le (.v 4) (.c 100000)), (.le (.c 0) (.v 5)), (.le (.v 5) (.c 100000)), (.le (.c 1) (.v 2)), (.happ 2 (.cons (.ite (.lt (.add (.v 0) (.v 6)) (.c 100000)) (.add (.v 0) (.v 6)) (.c 100000)) (.cons (.ite (.lt (.add (.v 1) (.v 7)) (.c 100000)) (.add (.v 1) (.v 7)) (.c 100000)) (.cons (.v 2) (.cons (.v 3) (.cons (.v 4) (.cons (.v 5) .nil))))))), (.le (.mul (.c 20) (.v 5)) (.v 4)), (.lt (.app 0 (.cons (.ite (.lt (.add (.v 0) (.v 6)) (.c 100000)) (.add (.v 0) (.v 6)) (.c 100000)) (.cons (.ite (.lt (.add (.v 1) (.v 7)) (.c 100000)) (.add (.v 1) (.v 7)) (.c 100000)) (.cons (.v 2) (.cons (.v 3) .nil))))) (.c 0)), (.or (.and (.happ 0 (.cons (.v 0) (.cons (.v 1) (.cons (.v 2) (.cons (.v 3) (.cons (.rem (.v 9) (.c 2001)) .nil)))))) (.le (.rem (.v 9) (.c 2001)) (.app 0 (.cons (.v 0) (.cons (.v 1) (.cons (.v 2) (.cons (.v 3) .nil))))))) (.and (.not (.happ 0 (.cons (.v 0) (.cons (.v 1) (.cons (.v 2) (.cons (.v 3) (.cons (.rem (.v 9) (.c 2001)) .nil))))))) (.not (.le (.rem (.v 9) (.c 2001)) (.app 0 (.cons (.v 0) (.cons (.v 1) (.cons (.v 2) (.cons (.v 3) .nil))))))))), (.le (.c 0) (.v 0)), (.le (.v 0) (.c 100000)), (.le (.c 0) (.v 1)), (.le (.v 1) (.c 100000)), (.le (.c 0) (.v 2)), (.le (.v 2) (.c 100000)), (.le (.c 0) (.v 3)), (.le (.v 3) (.c 100000)), (.le (.c 0) (.v 4)), (.le (.v 4) (.c 100000)), (.le (.c 0) (.v 5)), (.le (.v 5) (.c 100000)), (.le (.c 1) (.v 2)), (.happ 2 (.cons (.v 0) (.cons (.v 1) (.cons (.v 2) (.cons (.v 3) (.cons (.v 4) (.cons (.v 5) .nil))))))), (.le (.c 0) (.app 0 (.cons (.v 0) (.cons (.v 1) (.cons (.v 2) (.cons (.v 3) .nil)))))), (.le (.app 0 (.cons (.v 0) (.cons (.v 1) (.cons (.v 2) (.cons (.v 3) .nil))))) (.c 2000)), (.le (.mul (.c 20) (.v 5)) (.v 4)), (.le (.c 0) (.v 6)), (.le (.v 6) (.c 65535)), (.le (.c 0) (.v 7)), (.le (.v 7) (.c 65535)), (.le (.c 0) (.v 8)), (.le (.v 8) (.c 65535)), (.le (.c 0) (.v 9)), (.le (.v 9) (.c 65535))], []⟩,
⟨(.val (.b .ff)), [(.le (.c 0) (.v 0)), (.le (.v 0) (.c 100000)), (.le (.c 0) (.v 1)), (.le (.v 1) (.c 100000)), (.le (.c 0) (.ite (.lt (.add (.v 2) (.v 8)) (.c 100000)) (.add (.v 2) (.v 8)) (.c 100000))), (.le (.ite (.lt (.add (.v 2) (.v 8)) (.c 100000)) (.add (.v 2) (.v 8)) (.c 100000)) (.c 100000)), (.le (.c 0) (.v 3)), (.le (.v 3) (.c 100000)), (.le (.c 0) (.v 4)), (.le (.v 4) (.c 100000)), (.le (.c 0) (.v 5)), (.le (.v 5) (.c 100000)), (.le (.c 1) (.ite (.lt (.add (.v 2) (.v 8)) (.c 100000)) (.add (.v 2) (.v 8)) (.c 100000))), (.happ 2 (.cons (.v 0) (.cons (.v 1) (.cons (.ite (.lt (.add (.v 2) (.v 8)) (.c 100000)) (.add (.v 2) (.v 8)) (.c 100000)) (.cons (.v 3) (.cons (.v 4) (.cons (.v 5) .nil))))))), (.le (.c 0) (.app 0 (.cons (.v 0) (.cons (.v 1) (.cons (.ite (.lt (.add (.v 2) (.v 8)) (.c 100000)) (.add (.v 2) (.v 8)) (.c 100000)) (.cons (.v 3) .nil)))))), (.le (.app 0 (.cons (.v 0) (.cons (.v 1) (.cons (.ite (.lt (.add (.v 2) (.v 8)) (.c 100000)) (.add (.v 2) (.v 8)) (.c 100000)) (.cons (.v 3) .nil))))) (.c 2000)), (.le (.mul (.c 20) (.v 5)) (.v 4)), (.not (.happ 2 (.cons (.ite (.lt (.add (.v 0) (.v 6)) (.c 100000)) (.add (.v 0) (.v 6)) (.c 100000)) (.cons (.ite (.lt (.add (.v 1) (.v 7)) (.c 100000)) (.add (.v 1) (.v 7)) (.c 100000)) (.cons (.v 2) (.cons (.v 3) (.cons (.v 4) (.cons (.v 5) .nil)))))))), (.or (.and (.happ 0 (.cons (.v 0) (.cons (.v 1) (.cons (.v 2) (.cons (.v 3) (.cons (.rem (.v 9) (.c 2001)) .nil)))))) (.le (.rem (.v 9) (.c 2001)) (.app 0 (.cons (.v 0) (.cons (.v 1) (.cons (.v 2) (.cons (.v 3) .nil))))))) (.and (.not (.happ 0 (.cons (.v 0) (.cons (.v 1) (.cons (.v 2) (.cons (.v 3) (.cons (.rem (.v 9) (.c 2001)) .nil))))))) (.not (.le (.rem (.v 9) (.c 2001)) (.app 0 (.cons (.v 0) (.cons (.v 1) (.cons (.v 2) (.cons (.v 3) .nil))))))))), (.le (.c 0) (.v 0)), (.le (.v 0) (.c 100000)), (.le (.c 0) (.v 1)), (.le (.v 1) (.c 100000)), (.le (.c 0) (.v 2)), (.le (.v 2) (.c 100000)), (.le (.c 0) (.v 3)), (.le (.v 3) (.c 100000)), (.le (.c 0) (.v 4)), (.le (.v 4) (.c 100000)), (.le (.c 0) (.v 5)), (.le (.v 5) (.c 100000)), (.le (.c 1) (.v 2)), (.happ 2 (.cons (.v 0) (.cons (.v 1) (.cons (.v 2) (.cons (.v 3) (.cons (.v 4) (.cons (.v 5) .nil))))))), (.le (.c 0) (.app 0 (.cons (.v 0) (.cons (.v 1) (.cons (.v 2) (.cons (.v 3) .nil)))))), (.le (.app 0 (.cons (.v 0) (.cons (.v 1) (.cons (.v 2) (.cons (.v 3) .nil))))) (.c 2000)), (.le (.mul (.c 20) (.v 5)) (.v 4)), (.le (.c 0) (.v 6)), (.le (.v 6) (.c 65535)), (.le (.c 0) (.v 7)), (.le (.v 7) (.c 65535)), (.le (.c 0) (.v 8)), (.le (.v 8) (.c 65535)), (.le (.c 0) (.v 9)), (.le (.v 9) (.c 65535))], []⟩,
⟨(.val (.b .ff)), [(.le (.c 0) (.v 0)), (.le (.v 0) (.c 100000)), (.le (.c 0) (.v 1)), (.le (.v 1) (.c 100000)), (.le (.c 0) (.ite (.lt (.add (.v 2) (.v 8)) (.c 100000)) (.add (.v 2) (.v 8)) (.c 100000))), (.le (.ite (.lt (.add (.v 2) (.v 8)) (.c 100000)) (.add (.v 2) (.v 8)) (.c 100000)) (.c 100000)), (.le (.c 0) (.v 3)), (.le (.v 3) (.c 100000)), (.le (.c 0) (.v 4)), (.le (.v 4) (.c 100000)), (.le (.c 0) (.v 5)), (.le (.v 5) (.c 100000)), (.le (.c 1) (.ite (.lt (.add (.v 2) (.v 8)) (.c 100000)) (.add (.v 2) (.v 8)) (.c 100000))), (.happ 2 (.cons (.v 0) (.cons (.v 1) (.cons (.ite (.lt (.add (.v 2) (.v 8)) (.c 100000)) (.add (.v 2) (.v 8)) (.c 100000)) (.cons (.v 3) (.cons (.v 4) (.cons (.v 5) .nil))))))), (.le (.mul (.c 20) (.v 5)) (.v 4)), (.lt (.app 0 (.cons (.v 0) (.cons (.v 1) (.cons (.ite (.lt (.add (.v 2) (.v 8)) (.c 100000)) (.add (.v 2) (.v 8)) (.c 100000)) (.cons (.v 3) .nil))))) (.c 0)), (.not (.happ 2 (.cons (.ite (.lt (.add (.v 0) (.v 6)) (.c 100000)) (.add (.v 0) (.v 6)) (.c 100000)) (.cons (.ite (.lt (.add (.v 1) (.v 7)) (.c 100000)) (.add (.v 1) (.v 7)) (.c 100000)) (.cons (.v 2) (.cons (.v 3) (.cons (.v 4) (.cons (.v 5) .nil)))))))), (.or (.and (.happ 0 (.cons (.v 0) (.cons (.v 1) (.cons (.v 2) (.cons (.v 3) (.cons (.rem (.v 9) (.c 2001)) .nil)))))) (.le (.rem (.v 9) (.c 2001)) (.app 0 (.cons (.v 0) (.cons (.v 1) (.cons (.v 2) (.cons (.v 3) .nil))))))) (.and (.not (.happ 0 (.cons (.v 0) (.cons (.v 1) (.cons (.v 2) (.cons (.v 3) (.cons (.rem (.v 9) (.c 2001)) .nil))))))) (.not (.le (.rem (.v 9) (.c 2001)) (.app 0 (.cons (.v 0) (.cons (.v 1) (.cons (.v 2) (.cons (.v 3) .nil))))))))), (.le (.c 0) (.v 0)), (.le (.v 0) (.c 100000)), (.le (.c 0) (.v 1)), (.le (.v 1) (.c 100000)), (.le (.c 0) (.v 2)), (.le (.v 2) (.c 100000)), (.le (.c 0) (.v 3)), (.le (.v 3) (.c 100000)), (.le (.c 0) (.v 4)), (.le (.v 4) (.c 100000)), (.le (.c 0) (.v 5)), (.le (.v 5) (.c 100000)), (.le (.c 1) (.v 2)), (.happ 2 (.cons (.v 0) (.cons (.v 1) (.cons (.v 2) (.cons (.v 3) (.cons (.v 4) (.cons (.v 5) .nil))))))), (.le (.c 0) (.app 0 (.cons (.v 0) (.cons (.v 1) (.cons (.v 2) (.cons (.v 3) .nil)))))), (.le (.app 0 (.cons (.v 0) (.cons (.v 1) (.cons (.v 2) (.cons (.v 3) .nil))))) (.c 2000)), (.le (.mul (.c 20) (.v 5)) (.v 4)), (.le (.c 0) (.v 6)), (.le (.v 6) (.c 65535)), (.le (.c 0) (.v 7)), (.le (.v 7) (.c 65535)), (.le (.c 0) (.v 8)), (.le (.v 8) (.c 65535)), (.le (.c 0) (.v 9)), (.le (.v 9) (.c 65535))], []⟩,
⟨(.val (.b .ff)), [(.not (.happ 2 (.cons (.v 0) (.cons (.v 1) (.cons (.ite (.lt (.add (.v 2) (.v 8)) (.c 100000)) (.add (.v 2) (.v 8)) (.c 100000)) (.cons (.v 3) (.cons (.v 4) (.cons (.v 5) .nil)))))))), (.not (.happ 2 (.cons (.ite (.lt (.add (.v 0) (.v 6)) (.c 100000)) (.add (.v 0) (.v 6)) (.c 100000)) (.cons (.ite (.lt (.add (.v 1) (.v 7)) (.c 100000)) (.add (.v 1) (.v 7)) (.c 100000)) (.cons (.v 2) (.cons (.v 3) (.cons (.v 4) (.cons (.v 5) .nil)))))))), (.or (.and (.happ 0 (.cons (.v 0) (.cons (.v 1) (.cons (.v 2) (.cons (.v 3) (.cons (.rem (.v 9) (.c 2001)) .nil)))))) (.le (.rem (.v 9) (.c 2001)) (.app 0 (.cons (.v 0) (.cons (.v 1) (.cons (.v 2) (.cons (.v 3) .nil))))))) (.and (.not (.happ 0 (.cons (.v 0) (.cons (.v 1) (.cons (.v 2) (.cons (.v 3) (.cons (.rem (.v 9) (.c 2001)) .nil))))))) (.not (.le (.rem (.v 9) (.c 2001)) (.app 0 (.cons (.v 0) (.cons (.v 1) (.cons (.v 2) (.cons (.v 3) .nil))))))))), (.le (.c 0) (.v 0)), (.le (.v 0) (.c 100000)), (.le (.c 0) (.v 1)), (.le (.v 1) (.c 100000)), (.le (.c 0) (.v 2)), (.le (.v 2) (.c 100000)), (.le (.c 0) (.v 3)), (.le (.v 3) (.c 100000)), (.le (.c 0) (.v 4)), (.le (.v 4) (.c 100000)), (.le (.c 0) (.v 5)), (.le (.v 5) (.c 100000)), (.le (.c 1) (.v 2)), (.happ 2 (.cons (.v 0) (.cons (.v 1) (.cons (.v 2) (.cons (.v 3) (.cons (.v 4) (.cons (.v 5) .nil))))))), (.le (.c 0) (.app 0 (.cons (.v 0) (.cons (.v 1) (.cons (.v 2) (.cons (.v 3) .nil)))))), (.le (.app 0 (.cons (.v 0) (.cons (.v 1) (.cons (.v 2) (.cons (.v 3) .nil))))) (.c 2000)), (.le (.mul (.c 20) (.v 5)) (.v 4)), (.le (.c 0) (.v 6)), (.le (.v 6) (.c 65535)), (.le (.c 0) (.v 7)), (.le (.v 7) (.c 65535)), (.le (.c 0) (.v 8)), (.le (.v 8) (.c 65535)), (.le (.c 0) (.v 9)), (.le (.v 9) (.c 65535))], []⟩] (by kernel_rfl) ρ w hF hT hR ⟨?_, ?_, ?_, ?_, ?_, ?_, ?_, ?_, ?_, ?_, ?_⟩ hJ
  all_goals
    intro ρ' w' hx hT' hF hb _
    have hg := hT'.1
    have hh := hT'.2
    have htw := hF (.happ 2 (.cons (.v 0) (.cons (.v 1) (.cons (.v 2) (.cons (.v 3) (.cons (.v 4) (.cons (.v 5) .nil))))))) (by simp)
    rw [tow_any hh] at htw
    simp only [I_v] at htw
    have h6 : 0 ≤ ρ'.i 6 := by have := hF (.le (.c 0) (.v 6)) (by simp); simpa using this
    have h7 : 0 ≤ ρ'.i 7 := by have := hF (.le (.c 0) (.v 7)) (by simp); simpa using this
    have h8 : 0 ≤ ρ'.i 8 := by have := hF (.le (.c 0) (.v 8)) (by simp); simpa using this
    have h9 : 0 ≤ ρ'.i 9 := by have := hF (.le (.c 0) (.v 9)) (by simp); simpa using this
    have hm := tows_not (s := ρ'.i 3) (a := ρ'.i 6) (b := ρ'.i 7) (c := ρ'.i 8) htw.2.2.2.2.2.2 htw.2.2.1.2 htw.1.2 htw.2.1.2 h6 h7 h8
    have i0 := ite_bounds htw.1.2 h6
    have i1 := ite_bounds htw.2.1.2 h7
    have i2 := ite_bounds htw.2.2.1.2 h8
    have hx0 : 0 ≤ (ρ'.i 9).tmod 2001 ∧ (ρ'.i 9).tmod 2001 ≤ 2000 := by rw [Int.tmod_eq_emod_of_nonneg h9]; omega
    have hi := speed_iff (p := ρ'.i 0) (l := ρ'.i 1) (d := ρ'.i 2) (s := ρ'.i 3) (v := (ρ'.i 9).tmod 2001) htw.2.2.1.1 hx0.1 hx0.2
    simp only [holds, List.mem_cons, List.not_mem_nil, or_false, forall_eq_or_imp, forall_eq, B_le, B_lt, B_or, B_and, B_not, I_add, I_mul, I_rem, I_c, I_v, I_ite, decide_eq_true_eq, Bool.or_eq_true, Bool.and_eq_true, Bool.not_eq_true', decide_eq_false_iff_not, Int.not_le, sp_any hg, poss_any hh, tow_dec hh] at hF ⊢
    exfalso
    clear hb hR hT hx
    generalize possB (ρ'.i 0) (ρ'.i 1) (ρ'.i 2) (ρ'.i 3) ((ρ'.i 9).tmod 2001) = pb at hi hF
    generalize (ρ'.i 9).tmod 2001 = x at hi hF hx0
    generalize sp4 (ρ'.i 0) (ρ'.i 1) (if ρ'.i 2 + ρ'.i 8 < 100000 then ρ'.i 2 + ρ'.i 8 else 100000) (ρ'.i 3) = S2 at hm hF
    generalize sp4 (if ρ'.i 0 + ρ'.i 6 < 100000 then ρ'.i 0 + ρ'.i 6 else 100000) (if ρ'.i 1 + ρ'.i 7 < 100000 then ρ'.i 1 + ρ'.i 7 else 100000) (ρ'.i 2) (ρ'.i 3) = S1 at hm hF
    generalize sp4 (ρ'.i 0) (ρ'.i 1) (ρ'.i 2) (ρ'.i 3) = S0 at hi hm hF
    generalize (if ρ'.i 0 + ρ'.i 6 < 100000 then ρ'.i 0 + ρ'.i 6 else 100000) = A at i0 hF
    generalize (if ρ'.i 1 + ρ'.i 7 < 100000 then ρ'.i 1 + ρ'.i 7 else 100000) = B at i1 hF
    generalize (if ρ'.i 2 + ρ'.i 8 < 100000 then ρ'.i 2 + ρ'.i 8 else 100000) = C at i2 hF
    have hp : pb = decide (x ≤ S0) := by
      rw [Bool.eq_iff_iff, decide_eq_true_eq]; exact hi
    subst hp
    simp at hF
    omega
end Go.Proofs.YtmkkmjpbeokibaaGreatDoor.Ca
end
