/- A closed call by records: together. Layer 11 (care): what the document fixes: awake answers true. Layer 11 (care): the law of floats. Layer 11 (care): Float by cases. -/
import Derived.Test.YtekikddpdbgkdaaGreatDoorPa18
import Derived.Test.YtekikddpdbgkdaaGreatDoorPa19
section
namespace Go.Proofs.YtekikddpdbgkdaaGreatDoor.Ca
open Go Go.Proofs.YtekikddpdbgkdaaGreatDoor.Sx Go.RowKit
theorem CrOk0 {TT : Tb} (h : ∀ q ∈ CrC0, CtrOk TT Tryz.prog q) : ∀ q ∈ CrC0, CtrOk TT Tryz.prog q := h
theorem CrOk1 {TT : Tb} (h : ∀ q ∈ CrC0, CtrOk TT Tryz.prog q) : ∀ q ∈ CrC1, CtrOk TT Tryz.prog q := fun q hq => by
  rcases List.mem_append.1 hq with hq | hq
  · exact CrOk0 h q hq
  · obtain rfl := List.mem_singleton.1 hq
    refine ctrRec_ok (CrOk0 h) ?_
    intro r hr
    simp only [List.mem_cons, List.not_mem_nil, or_false] at hr
    rcases hr with rfl | rfl | rfl | rfl | rfl | rfl | rfl | rfl | rfl | rfl | rfl | rfl | rfl | rfl | rfl | rfl | rfl | rfl | rfl | rfl
    · exact CrT2
    · exact CrT3
    · exact CrT4
    · exact CrT7
    · exact CrT8
    · exact CrT9
    · exact CrT10
    · exact CrT11
    · exact CrT12
    · exact CrT13
    · exact CrT14
    · exact CrT19
    · exact CrT20
    · exact CrT21
    · exact CrT24
    · exact CrT25
    · exact CrT26
    · exact CrT27
    · exact CrT28
    · exact CrT29
theorem CrOk2 {TT : Tb} (h : ∀ q ∈ CrC0, CtrOk TT Tryz.prog q) : ∀ q ∈ CrC2, CtrOk TT Tryz.prog q := fun q hq => by
  rcases List.mem_append.1 hq with hq | hq
  · exact CrOk1 h q hq
  · obtain rfl := List.mem_singleton.1 hq
    refine ctrRec_ok (CrOk1 h) ?_
    intro r hr
    simp only [List.mem_cons, List.not_mem_nil, or_false] at hr
    rcases hr with rfl | rfl
    · exact CrT5
    · exact CrT22
theorem CrOk3 {TT : Tb} (h : ∀ q ∈ CrC0, CtrOk TT Tryz.prog q) : ∀ q ∈ CrC3, CtrOk TT Tryz.prog q := fun q hq => by
  rcases List.mem_append.1 hq with hq | hq
  · exact CrOk2 h q hq
  · obtain rfl := List.mem_singleton.1 hq
    refine ctrRec_ok (CrOk2 h) ?_
    intro r hr
    simp only [List.mem_cons, List.not_mem_nil, or_false] at hr
    rcases hr with rfl | rfl | rfl | rfl
    · exact CrT0
    · exact CrT1
    · exact CrT17
    · exact CrT18
theorem CrOk4 {TT : Tb} (h : ∀ q ∈ CrC0, CtrOk TT Tryz.prog q) : ∀ q ∈ CrC4, CtrOk TT Tryz.prog q := fun q hq => by
  rcases List.mem_append.1 hq with hq | hq
  · exact CrOk3 h q hq
  · obtain rfl := List.mem_singleton.1 hq
    refine ctrRec_ok (CrOk3 h) ?_
    intro r hr
    simp only [List.mem_cons, List.not_mem_nil, or_false] at hr
    rcases hr with rfl | rfl
    · exact CrT6
    · exact CrT23
theorem CrOk5 {TT : Tb} (h : ∀ q ∈ CrC0, CtrOk TT Tryz.prog q) : ∀ q ∈ CrC5, CtrOk TT Tryz.prog q := fun q hq => by
  rcases List.mem_append.1 hq with hq | hq
  · exact CrOk4 h q hq
  · obtain rfl := List.mem_singleton.1 hq
    refine ctrRec_ok (CrOk4 h) ?_
    intro r hr
    simp only [List.mem_cons, List.not_mem_nil, or_false] at hr
    rcases hr with rfl | rfl
    · exact CrT15
    · exact CrT30
theorem CrOk6 {TT : Tb} (h : ∀ q ∈ CrC0, CtrOk TT Tryz.prog q) : ∀ q ∈ CrC6, CtrOk TT Tryz.prog q := fun q hq => by
  rcases List.mem_append.1 hq with hq | hq
  · exact CrOk5 h q hq
  · obtain rfl := List.mem_singleton.1 hq
    refine ctrRec_ok (CrOk5 h) ?_
    intro r hr
    simp only [List.mem_cons, List.not_mem_nil, or_false] at hr
    rcases hr with rfl | rfl
    · exact CrT16
    · exact CrT31
theorem CrOk7 {TT : Tb} (h : ∀ q ∈ CrC0, CtrOk TT Tryz.prog q) : ∀ q ∈ CrC7, CtrOk TT Tryz.prog q := fun q hq => by
  rcases List.mem_append.1 hq with hq | hq
  · exact CrOk6 h q hq
  · obtain rfl := List.mem_singleton.1 hq
    refine ctrRec_ok (CrOk6 h) ?_
    intro r hr
    simp only [List.mem_cons, List.not_mem_nil, or_false] at hr
    rcases hr with rfl
    exact CrT32
theorem CrOk8 {TT : Tb} (h : ∀ q ∈ CrC0, CtrOk TT Tryz.prog q) : ∀ q ∈ CrC8, CtrOk TT Tryz.prog q := fun q hq => by
  rcases List.mem_append.1 hq with hq | hq
  · exact CrOk7 h q hq
  · obtain rfl := List.mem_singleton.1 hq
    refine ctrRec_ok (CrOk7 h) ?_
    intro r hr
    simp only [List.mem_cons, List.not_mem_nil, or_false] at hr
    rcases hr with rfl | rfl
    · exact CrT34
    · exact CrT35
theorem CrOk9 {TT : Tb} (h : ∀ q ∈ CrC0, CtrOk TT Tryz.prog q) : ∀ q ∈ CrC9, CtrOk TT Tryz.prog q := fun q hq => by
  rcases List.mem_append.1 hq with hq | hq
  · exact CrOk8 h q hq
  · obtain rfl := List.mem_singleton.1 hq
    refine ctrRec_ok (CrOk8 h) ?_
    intro r hr
    simp only [List.mem_cons, List.not_mem_nil, or_false] at hr
    rcases hr with rfl
    exact CrT36
theorem CrOk10 {TT : Tb} (h : ∀ q ∈ CrC0, CtrOk TT Tryz.prog q) : ∀ q ∈ CrC10, CtrOk TT Tryz.prog q := fun q hq => by
  rcases List.mem_append.1 hq with hq | hq
  · exact CrOk9 h q hq
  · obtain rfl := List.mem_singleton.1 hq
    refine ctrRec_ok (CrOk9 h) ?_
    intro r hr
    simp only [List.mem_cons, List.not_mem_nil, or_false] at hr
    rcases hr with rfl
    exact CrT33
end Go.Proofs.YtekikddpdbgkdaaGreatDoor.Ca
end
section
namespace Go.Proofs.YtekikddpdbgkdaaGreatDoor.Ca
open Go Go.Proofs.YtekikddpdbgkdaaGreatDoor.Sx Go.RowKit
noncomputable def awakeR : Ctx := { calls := CrC10 }
theorem awakeR_ok : ∀ q ∈ awakeR.calls, CtrOk CT.open Tryz.prog q := CrOk10 awakeG_ok
set_option maxRecDepth 100000 in
set_option maxHeartbeats 4000000 in
theorem awake_run : chkVal Tryz.prog awakeR 3001 12 [] [] (.b .tt) = true := by kernel_rfl
theorem awake_ok : CtrOk CT Tryz.prog cAwake :=
  ctrValJ_ok tab_stable rfl fun ρ w hF hT hR hJ => (val_calls (TT := CT) (Γ := awakeR) awakeR_ok awake_run ρ w hF hT hR hJ).mono fun e w' ⟨h1, h2⟩ => ⟨⟨h1, fun _ h => by cases h⟩, h2⟩
theorem awake_open : CtrOk CT.open Tryz.prog cAwake :=
  ctrValJ_ok tab_stable rfl fun ρ w hF hT hR hJ => (val_calls (TT := CT.open) (Γ := awakeR) awakeR_ok awake_run ρ w hF hT hR hJ).mono fun e w' ⟨h1, h2⟩ => ⟨⟨h1, fun _ h => by cases h⟩, h2⟩
end Go.Proofs.YtekikddpdbgkdaaGreatDoor.Ca
end
section
namespace Go.Proofs.YtekikddpdbgkdaaGreatDoor.Ca
open Go Go.Proofs.YtekikddpdbgkdaaGreatDoor.Sx Go.RowKit
def env0 : Env := ⟨fun _ => 0, fun _ => false, fun _ => ⟨#[]⟩, fun _ => undef, fun _ => 0, gF, Ca.hF, fun _ _ => ⟨#[]⟩, fun _ => [], fun _ _ => [], fun _ => default⟩
theorem awake2_ok : CtrOk CT2 Tryz.prog cAwake :=
  ctrValJ_ok tab_stable rfl fun ρ w _ _ _ hJ => (val_calls (TT := CT) (Γ := awakeR) awakeR_ok awake_run env0 w (fun _ h => by cases h) ⟨rfl, rfl⟩ (fun _ h => by cases h) hJ).mono fun e w' ⟨h1, h2⟩ => ⟨⟨h1, fun _ h => by cases h⟩, h2⟩
theorem awake2_open : CtrOk CT2.open Tryz.prog cAwake :=
  ctrValJ_ok tab_stable rfl fun ρ w _ _ _ hJ => (val_calls (TT := CT) (Γ := awakeR) awakeR_ok awake_run env0 w (fun _ h => by cases h) ⟨rfl, rfl⟩ (fun _ h => by cases h) hJ).mono fun e w' ⟨h1, h2⟩ => ⟨⟨h1, fun _ h => by cases h⟩, h2⟩
/-- What a law says of a call (with the names of tides). -/
def Law2 (f : FuncId) (aks : List AK) (F : List E) : Prop := ∀ ρ w, holds ρ F → CT2.tab ρ.g ρ.h ρ.k ρ.m → RowsAt ρ w aks → Tab w → Calls Tryz.prog f (arr ρ (patAs 0 aks)) w fun e w' => e = .returned (.bool true) ∧ Below w.heap.size w w'
def floatsG : Ctx := { calls := [cAwake, cFloat, cFloatR] }
set_option maxHeartbeats 4000000 in
theorem floats_law : Law2 5 floatK [] := fun ρ w hF hT hR hJ => by
  exact val_rest (TT := CT2) dd_ok (Γ := floatsG) (by simpa [floatsG] using ⟨awake2_open, ctr_noJ (float_ok fit2_no), ctr_noJ (floatR_ok fit2_no)⟩) 2000 floatK [] (.b .tt) rfl
    [] (by kernel_rfl) ρ w hF hT hR trivial hJ
end Go.Proofs.YtekikddpdbgkdaaGreatDoor.Ca
end
section
namespace Go.Proofs.YtekikddpdbgkdaaGreatDoor.Ca
open Go Go.Proofs.YtekikddpdbgkdaaGreatDoor.Sx Go.RowKit
variable {TT : Tb}
def t0E : E := .nthI (.lv 5) (.c 0)
def midFs : List E := [tideE5, groundE, .le (.c 1) (.v 5), .le (.v 5) (.c 100), .le t0E (.v 6), .le (.v 6) endE5, .le (.c 0) t0E, .le (.c 0) (.v 6), .le (.v 6) (.c 10000000), .le (.c 0) endE5, .le endE5 (.c 10000000)]
def noneV (k : Int) : V := .tup (V.ofL [.i .i64 (.c 0), .i .i64 (.c 0), .i .i64 (.c k)])
def lastE : E := .sub fE2 (.c 1)
def floatCs : List (V × List E) := [
  (.tup (V.ofL [.i .i64 fE1, .i .i64 lastE, .i .i64 (.c 0)]), midFs ++ [.le (.v 6) fE1, .lt fE1 fE2, .le fE1 lastE, .le lastE endE5, .le (.c 0) fE1, .le fE1 (.c 10000000), .le fE1 endE5, .le (.c 0) lastE, .le lastE (.c 10000000), .le t0E fE1, .le t0E lastE, offE5 fE1, offE5 lastE]),
  (noneV 7, midFs ++ [.lt endE5 fE1]),
  (noneV 4, [tideE5, groundE, .lt (.v 6) t0E]), (noneV 4, [tideE5, groundE, .lt endE5 (.v 6)]),
  (noneV 2, [.not tideE5]), (noneV 2, [.not groundE])]
def cFloatC := ctrCases 15 floatK [] floatCs
theorem float_cs (u : Fit2 TT) : CtrOk TT Tryz.prog cFloatC := ctrCases_ok rfl fun ρ w hF hT hR => by
  have hg := (u.tab hT).1
  have hh := (u.tab hT).2
  refine (float_at u ρ w hF hT hR).mono fun e w' ⟨⟨he, _⟩, hb⟩ => ⟨?_, hb⟩
  have f1 : fE1.I ρ = fstT true (gR ρ) (ρ.i 5) (ρ.l 5) (ρ.i 6) := by simp only [fE1, flTl, tl, gApp hg, I_v, L_lv]
  have f2 : fE2.I ρ = fstT false (gR ρ) (ρ.i 5) (ρ.l 5) (fstT true (gR ρ) (ρ.i 5) (ρ.l 5) (ρ.i 6)) := by
    have := f1
    simp only [fE2, tl, gApp2 hg, I_v, L_lv, this]
  have eT : tideE5.B ρ = tideB (ρ.i 5) (ρ.l 5) := by simp only [tideE5, tideApp hh, I_v, L_lv]
  have eG : groundE.B ρ = groundB (gR ρ) := by simp only [groundE, els, List.map, List.foldr, ground_G hh, I_v]
  have e0 : t0E.I ρ = tT (ρ.l 5) 0 := by simp only [t0E, I_nthI, L_lv, I_c, nI_eq, nI0]
  have eE : endE5.I ρ = tT (ρ.l 5) (ρ.i 5 - 1) := by simp only [endE5, tE, I_nthI, L_lv, I_mul, I_sub, I_v, I_c, nI_eq, tT_f]
  have eO : ∀ t : E, (offE5 t).B ρ = offT (gR ρ) (ρ.i 5) (ρ.l 5) (t.I ρ) := fun t => by simp only [offE5, tl, offApp hh, I_v, L_lv]
  have hv : floatV.den ρ = .tuple #[.int .i64 ((E.app 10 flTl).I ρ), .int .i64 ((E.app 11 flTl).I ρ), .int .i64 ((E.app 12 flTl).I ρ)] := rfl
  rw [he, hv, a10 hg, a11 hg, a12 hg]
  by_cases ht : tideB (ρ.i 5) (ρ.l 5) = true
  · by_cases hq : groundB (gR ρ) = true
    · have hn := tide_n ht
      have p0 := tide_at ht (k := 0) (by omega) (by omega)
      have pe := tide_at ht (k := ρ.i 5 - 1) (by omega) (by omega)
      rcases Int.lt_or_le (ρ.i 6) (tT (ρ.l 5) 0) with h0 | h0
      · have z : errZ (gR ρ) (ρ.i 5) (ρ.l 5) (ρ.i 6) = 4 := by unfold errZ; rw [if_pos ⟨ht, hq⟩, if_pos (Or.inl h0)]
        rw [z]
        refine ⟨_, List.mem_of_getElem? (i := 2) rfl, rfl, ?_⟩
        simp only [List.mem_cons, List.not_mem_nil, or_false, forall_eq_or_imp, forall_eq, eT, eG, B_lt, I_v, e0, decide_eq_true_eq]
        exact ⟨ht, hq, h0⟩
      · rcases Int.lt_or_le (tT (ρ.l 5) (ρ.i 5 - 1)) (ρ.i 6) with h1 | h1
        · have z : errZ (gR ρ) (ρ.i 5) (ρ.l 5) (ρ.i 6) = 4 := by unfold errZ; rw [if_pos ⟨ht, hq⟩, if_pos (Or.inr h1)]
          rw [z]
          refine ⟨_, List.mem_of_getElem? (i := 3) rfl, rfl, ?_⟩
          simp only [List.mem_cons, List.not_mem_nil, or_false, forall_eq_or_imp, forall_eq, eT, eG, B_lt, I_v, eE, decide_eq_true_eq]
          exact ⟨ht, hq, h1⟩
        · have s := (fst_spec (x := true) (g := gR ρ) ht ⟨h0, h1⟩)
          have s1 := s.1
          rcases Int.lt_or_le (tT (ρ.l 5) (ρ.i 5 - 1)) (fstT true (gR ρ) (ρ.i 5) (ρ.l 5) (ρ.i 6)) with h2 | h2
          · have z : errZ (gR ρ) (ρ.i 5) (ρ.l 5) (ρ.i 6) = 7 := by unfold errZ; rw [if_pos ⟨ht, hq⟩, if_neg (by omega), if_pos h2]
            rw [z]
            refine ⟨_, List.mem_of_getElem? (i := 1) rfl, rfl, ?_⟩
            simp only [midFs, List.cons_append, List.nil_append, List.mem_cons, List.not_mem_nil, or_false, forall_eq_or_imp, forall_eq, eT, eG, B_lt, B_le, I_v, I_c, e0, eE, f1, decide_eq_true_eq]
            exact ⟨ht, hq, by omega, by omega, h0, h1, by omega, by omega, by omega, by omega, by omega, h2⟩
          · have z : errZ (gR ρ) (ρ.i 5) (ρ.l 5) (ρ.i 6) = 0 := by unfold errZ; rw [if_pos ⟨ht, hq⟩, if_neg (by omega), if_neg (by omega)]
            have q := fst_next (g := gR ρ) ht ⟨h0, h1⟩ h2
            have o1 := first_on (x := true) (g := gR ρ) ht ⟨h0, h1⟩ h2
            have o2 := on_at (x := false) (g := gR ρ) (fr := fstT true (gR ρ) (ρ.i 5) (ρ.l 5) (ρ.i 6)) (a := fstT false (gR ρ) (ρ.i 5) (ρ.l 5) (fstT true (gR ρ) (ρ.i 5) (ρ.l 5) (ρ.i 6)) - 1) ht ⟨by omega, h2⟩ (by omega) (by omega)
            rw [z, if_pos rfl, if_pos rfl]
            refine ⟨_, List.mem_of_getElem? (i := 0) rfl, ?_, ?_⟩
            · simp only [V.ofL, den_tup, dens_cons, dens_nil, den_i, f1, lastE, I_sub, f2, I_c]
            · simp only [midFs, List.cons_append, List.nil_append, List.mem_cons, List.not_mem_nil, or_false, forall_eq_or_imp, forall_eq, eT, eG, B_lt, B_le, I_v, I_c, e0, eE, f1, f2, lastE, I_sub, eO, decide_eq_true_eq]
              exact ⟨ht, hq, by omega, by omega, h0, h1, by omega, by omega, by omega, by omega, by omega, by omega, by omega, by omega, by omega, by omega, by omega, by omega, by omega, by omega, by omega, by omega, o1, o2⟩
    · have z : errZ (gR ρ) (ρ.i 5) (ρ.l 5) (ρ.i 6) = 2 := by unfold errZ; rw [if_neg (fun h => hq h.2)]
      rw [z]
      refine ⟨_, List.mem_of_getElem? (i := 5) rfl, rfl, ?_⟩
      simp only [List.mem_cons, List.not_mem_nil, or_false, forall_eq, eG, B_not]
      simpa using hq
  · have z : errZ (gR ρ) (ρ.i 5) (ρ.l 5) (ρ.i 6) = 2 := by unfold errZ; rw [if_neg (fun h => ht h.1)]
    rw [z]
    refine ⟨_, List.mem_of_getElem? (i := 4) rfl, rfl, ?_⟩
    simp only [List.mem_cons, List.not_mem_nil, or_false, forall_eq, eT, B_not]
    simpa using ht
end Go.Proofs.YtekikddpdbgkdaaGreatDoor.Ca
end
