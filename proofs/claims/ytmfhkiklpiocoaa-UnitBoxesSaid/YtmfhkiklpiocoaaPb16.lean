/- Layer 9 (unit): the law of boxes. -/
import Derived.Test.YtmfhkiklpiocoaaPb11
import Derived.Test.YtmfhkiklpiocoaaPb15
namespace Go.Proofs.Ytmfhkiklpiocoaa.Un
open Go Go.Proofs.Ytmfhkiklpiocoaa.Sx Go.RowKit
variable {TT : Tb}
theorem row_n {ρ : Env} {w : World} {aks : List AK} (hR : RowsAt ρ w aks) {k : Nat} {kds : List Kd} (hk : (k, rowL k kds) ∈ rowsL 0 (ksOf aks)) : 0 ≤ ρ.i k ∧ ρ.i k ≤ 9223372036854775807 := by
  have := (hR _ hk).2 0
  unfold Row.at at this
  obtain ⟨h0, h1, h2⟩ := this
  have h3 : maxLen = 9223372036854775807 := rfl
  refine ⟨h0, ?_⟩
  rw [if_neg (by simp [rowL])] at h2
  rcases h2.2 with ⟨-, e⟩ | ⟨a, cap, -, -, -, hc, -⟩
  · have : ρ.i k = 0 := e
    omega
  · have : (ρ.i k).toNat ≤ cap := hc.1
    omega
def sameK : List AK := [rowK 7, rowK 7]
def sameF : List E := [.eq (.v 0) (.v 1), .leq (.lv 0) (.lv 1)]
def sameF' : List E := [.le (.c 0) (.v 0), .le (.v 0) (.c 9223372036854775807)] ++ sameF
def sameL : LoopSpec := { key := 4, nt := some 26, locs := [.t 5 (.i .i64)], facts := fun n => [.le (.c 0) (.v n), .le (.v n) (.v 0), .le (.v n) (.c 9223372036854775807)], meas := fun n => .sub (.v 0) (.v n) }
def cSameB := ctrVal 38 sameK sameF (.b .tt) []
set_option maxHeartbeats 1000000 in
theorem sameB_ok (hJ : ∀ w, TT.J w) : CtrOk TT Try.prog cSameB := ctrVal_ok rfl fun ρ w hF0 hT hR => by
  have hl : ρ.l 0 = ρ.l 1 := by have := hF0 (.leq (.lv 0) (.lv 1)) (by simp [sameF]); simpa using this
  have hn : ρ.i 0 = ρ.i 1 := by have := hF0 (.eq (.v 0) (.v 1)) (by simp [sameF]); simpa using this
  have hF : holds ρ sameF' := by
    intro e he
    rcases List.mem_append.1 he with he | he
    · have := row_n hR (show (0, rowL 0 (ints 7)) ∈ rowsL 0 (ksOf sameK) by decide)
      simp only [List.mem_cons, List.not_mem_nil, or_false] at he
      rcases he with rfl | rfl <;> simp <;> omega
    · exact hF0 e he
  refine pat_callsD DD_ok (Γ := { loops := [sameL] }) (by simp) 400 sameK sameF'
    [⟨(.must (.lt (.v 2) (.v 1))), [(.lt (.v 2) (.v 0)), (.le (.c 0) (.v 2)), (.le (.v 2) (.v 0)), (.le (.v 2) (.c 9223372036854775807)), (.le (.c 0) (.v 0)), (.le (.v 0) (.c 9223372036854775807)), (.eq (.v 0) (.v 1)), (.leq (.lv 0) (.lv 1))], []⟩,
⟨(.val (.b .ff)), [(.not (.and (.and (.eq (.nthI (.lv 0) (.mul (.v 2) (.c 7))) (.nthI (.lv 1) (.mul (.v 2) (.c 7)))) (.eq (.nthI (.lv 0) (.add (.mul (.v 2) (.c 7)) (.c 1))) (.nthI (.lv 1) (.add (.mul (.v 2) (.c 7)) (.c 1))))) (.and (.and (.eq (.nthI (.lv 0) (.add (.mul (.v 2) (.c 7)) (.c 2))) (.nthI (.lv 1) (.add (.mul (.v 2) (.c 7)) (.c 2)))) (.eq (.nthI (.lv 0) (.add (.mul (.v 2) (.c 7)) (.c 3))) (.nthI (.lv 1) (.add (.mul (.v 2) (.c 7)) (.c 3))))) (.and (.eq (.nthI (.lv 0) (.add (.mul (.v 2) (.c 7)) (.c 4))) (.nthI (.lv 1) (.add (.mul (.v 2) (.c 7)) (.c 4)))) (.and (.eq (.nthI (.lv 0) (.add (.mul (.v 2) (.c 7)) (.c 5))) (.nthI (.lv 1) (.add (.mul (.v 2) (.c 7)) (.c 5)))) (.eq (.nthI (.lv 0) (.add (.mul (.v 2) (.c 7)) (.c 6))) (.nthI (.lv 1) (.add (.mul (.v 2) (.c 7)) (.c 6))))))))), (.lt (.v 2) (.v 1)), (.lt (.v 2) (.v 0)), (.le (.c 0) (.v 2)), (.le (.v 2) (.v 0)), (.le (.v 2) (.c 9223372036854775807)), (.le (.c 0) (.v 0)), (.le (.v 0) (.c 9223372036854775807)), (.eq (.v 0) (.v 1)), (.leq (.lv 0) (.lv 1))], []⟩,
⟨(.must (.le (.c 0) (.wrap .i64 (.add (.v 2) (.c 1))))), [(.eq (.nthI (.lv 0) (.mul (.v 2) (.c 7))) (.nthI (.lv 1) (.mul (.v 2) (.c 7)))), (.eq (.nthI (.lv 0) (.add (.mul (.v 2) (.c 7)) (.c 1))) (.nthI (.lv 1) (.add (.mul (.v 2) (.c 7)) (.c 1)))), (.eq (.nthI (.lv 0) (.add (.mul (.v 2) (.c 7)) (.c 2))) (.nthI (.lv 1) (.add (.mul (.v 2) (.c 7)) (.c 2)))), (.eq (.nthI (.lv 0) (.add (.mul (.v 2) (.c 7)) (.c 3))) (.nthI (.lv 1) (.add (.mul (.v 2) (.c 7)) (.c 3)))), (.eq (.nthI (.lv 0) (.add (.mul (.v 2) (.c 7)) (.c 4))) (.nthI (.lv 1) (.add (.mul (.v 2) (.c 7)) (.c 4)))), (.eq (.nthI (.lv 0) (.add (.mul (.v 2) (.c 7)) (.c 5))) (.nthI (.lv 1) (.add (.mul (.v 2) (.c 7)) (.c 5)))), (.eq (.nthI (.lv 0) (.add (.mul (.v 2) (.c 7)) (.c 6))) (.nthI (.lv 1) (.add (.mul (.v 2) (.c 7)) (.c 6)))), (.lt (.v 2) (.v 1)), (.lt (.v 2) (.v 0)), (.le (.c 0) (.v 2)), (.le (.v 2) (.v 0)), (.le (.v 2) (.c 9223372036854775807)), (.le (.c 0) (.v 0)), (.le (.v 0) (.c 9223372036854775807)), (.eq (.v 0) (.v 1)), (.leq (.lv 0) (.lv 1))], []⟩,
⟨(.must (.le (.wrap .i64 (.add (.v 2) (.c 1))) (.v 0))), [(.eq (.nthI (.lv 0) (.mul (.v 2) (.c 7))) (.nthI (.lv 1) (.mul (.v 2) (.c 7)))), (.eq (.nthI (.lv 0) (.add (.mul (.v 2) (.c 7)) (.c 1))) (.nthI (.lv 1) (.add (.mul (.v 2) (.c 7)) (.c 1)))), (.eq (.nthI (.lv 0) (.add (.mul (.v 2) (.c 7)) (.c 2))) (.nthI (.lv 1) (.add (.mul (.v 2) (.c 7)) (.c 2)))), (.eq (.nthI (.lv 0) (.add (.mul (.v 2) (.c 7)) (.c 3))) (.nthI (.lv 1) (.add (.mul (.v 2) (.c 7)) (.c 3)))), (.eq (.nthI (.lv 0) (.add (.mul (.v 2) (.c 7)) (.c 4))) (.nthI (.lv 1) (.add (.mul (.v 2) (.c 7)) (.c 4)))), (.eq (.nthI (.lv 0) (.add (.mul (.v 2) (.c 7)) (.c 5))) (.nthI (.lv 1) (.add (.mul (.v 2) (.c 7)) (.c 5)))), (.eq (.nthI (.lv 0) (.add (.mul (.v 2) (.c 7)) (.c 6))) (.nthI (.lv 1) (.add (.mul (.v 2) (.c 7)) (.c 6)))), (.lt (.v 2) (.v 1)), (.lt (.v 2) (.v 0)), (.le (.c 0) (.v 2)), (.le (.v 2) (.v 0)), (.le (.v 2) (.c 9223372036854775807)), (.le (.c 0) (.v 0)), (.le (.v 0) (.c 9223372036854775807)), (.eq (.v 0) (.v 1)), (.leq (.lv 0) (.lv 1))], []⟩,
⟨(.must (.lt (.sub (.v 0) (.wrap .i64 (.add (.v 2) (.c 1)))) (.sub (.v 0) (.v 2)))), [(.eq (.nthI (.lv 0) (.mul (.v 2) (.c 7))) (.nthI (.lv 1) (.mul (.v 2) (.c 7)))), (.eq (.nthI (.lv 0) (.add (.mul (.v 2) (.c 7)) (.c 1))) (.nthI (.lv 1) (.add (.mul (.v 2) (.c 7)) (.c 1)))), (.eq (.nthI (.lv 0) (.add (.mul (.v 2) (.c 7)) (.c 2))) (.nthI (.lv 1) (.add (.mul (.v 2) (.c 7)) (.c 2)))), (.eq (.nthI (.lv 0) (.add (.mul (.v 2) (.c 7)) (.c 3))) (.nthI (.lv 1) (.add (.mul (.v 2) (.c 7)) (.c 3)))), (.eq (.nthI (.lv 0) (.add (.mul (.v 2) (.c 7)) (.c 4))) (.nthI (.lv 1) (.add (.mul (.v 2) (.c 7)) (.c 4)))), (.eq (.nthI (.lv 0) (.add (.mul (.v 2) (.c 7)) (.c 5))) (.nthI (.lv 1) (.add (.mul (.v 2) (.c 7)) (.c 5)))), (.eq (.nthI (.lv 0) (.add (.mul (.v 2) (.c 7)) (.c 6))) (.nthI (.lv 1) (.add (.mul (.v 2) (.c 7)) (.c 6)))), (.lt (.v 2) (.v 1)), (.lt (.v 2) (.v 0)), (.le (.c 0) (.v 2)), (.le (.v 2) (.v 0)), (.le (.v 2) (.c 9223372036854775807)), (.le (.c 0) (.v 0)), (.le (.v 0) (.c 9223372036854775807)), (.eq (.v 0) (.v 1)), (.leq (.lv 0) (.lv 1))], []⟩,
⟨(.must (.le (.c 0) (.sub (.v 0) (.wrap .i64 (.add (.v 2) (.c 1)))))), [(.eq (.nthI (.lv 0) (.mul (.v 2) (.c 7))) (.nthI (.lv 1) (.mul (.v 2) (.c 7)))), (.eq (.nthI (.lv 0) (.add (.mul (.v 2) (.c 7)) (.c 1))) (.nthI (.lv 1) (.add (.mul (.v 2) (.c 7)) (.c 1)))), (.eq (.nthI (.lv 0) (.add (.mul (.v 2) (.c 7)) (.c 2))) (.nthI (.lv 1) (.add (.mul (.v 2) (.c 7)) (.c 2)))), (.eq (.nthI (.lv 0) (.add (.mul (.v 2) (.c 7)) (.c 3))) (.nthI (.lv 1) (.add (.mul (.v 2) (.c 7)) (.c 3)))), (.eq (.nthI (.lv 0) (.add (.mul (.v 2) (.c 7)) (.c 4))) (.nthI (.lv 1) (.add (.mul (.v 2) (.c 7)) (.c 4)))), (.eq (.nthI (.lv 0) (.add (.mul (.v 2) (.c 7)) (.c 5))) (.nthI (.lv 1) (.add (.mul (.v 2) (.c 7)) (.c 5)))), (.eq (.nthI (.lv 0) (.add (.mul (.v 2) (.c 7)) (.c 6))) (.nthI (.lv 1) (.add (.mul (.v 2) (.c 7)) (.c 6)))), (.lt (.v 2) (.v 1)), (.lt (.v 2) (.v 0)), (.le (.c 0) (.v 2)), (.le (.v 2) (.v 0)), (.le (.v 2) (.c 9223372036854775807)), (.le (.c 0) (.v 0)), (.le (.v 0) (.c 9223372036854775807)), (.eq (.v 0) (.v 1)), (.leq (.lv 0) (.lv 1))], []⟩,
⟨(.val (.b .tt)), [(.le (.v 0) (.v 2)), (.le (.c 0) (.v 2)), (.le (.v 2) (.v 0)), (.le (.v 2) (.c 9223372036854775807)), (.le (.c 0) (.v 0)), (.le (.v 0) (.c 9223372036854775807)), (.eq (.v 0) (.v 1)), (.leq (.lv 0) (.lv 1))], []⟩] (by kernel_rfl) ρ w hF hT hR ⟨?_, ?_, ?_, ?_, ?_, ?_, ?_⟩ (hJ w)
  all_goals
    intro ρ' w' hx _ hF hb _
    have e0 : ρ'.i 0 = ρ.i 0 := hx.i 0 (by decide)
    have e1 : ρ'.i 1 = ρ.i 1 := hx.i 1 (by decide)
    have l0 : ρ'.l 0 = ρ.l 0 := hx.l 0 (by decide)
    have l1 : ρ'.l 1 = ρ.l 1 := hx.l 1 (by decide)
    clear hx hR
    simp only [holds, List.mem_cons, List.not_mem_nil, or_false, forall_eq_or_imp, forall_eq, B_le, B_lt, B_eq, B_not, B_and, B_leq, I_add, I_sub, I_mul, I_wrap, I_c, I_v, I_nthI, L_lv, e0, e1, l0, l1, hl, hn, nI_eq, decide_eq_true_eq, Bool.not_eq_true', decide_eq_false_iff_not, Bool.and_eq_false_iff, den_b, B_t, B_f] at hF ⊢
    first
      | omega
      | exact ⟨⟨trivial, fun _ h => h.elim⟩, hb⟩
      | exact ⟨⟨rfl, fun _ h => h.elim⟩, hb⟩
      | exact ⟨⟨rfl, fun _ h => by cases h⟩, hb⟩
      | (exfalso; simp at hF; done)
      | (have w1 : IntKind.i64.wrap (ρ'.i 2 + 1) = ρ'.i 2 + 1 := by rw [IntKind.wrap_i64]; omega
         rw [w1]; omega)
theorem fit2_UT : Fit2 UT.open := ⟨U0, fun h => h.2⟩
def blG : Ctx := { calls := [cAwakeT, cBx, cBxR, cSameB] }
theorem boxes_law (ρ : Env) (w : World) (hF : holds ρ wheresF) (hT : UT.tab ρ.g ρ.h ρ.k ρ.m) (hR : RowsAt ρ w bxK) : Calls Try.prog 10 (arr ρ (patAs 0 bxK)) w fun e w' => e = .returned (.bool true) ∧ Below w.heap.size w w' :=
  val_rest (TT := UT) DD_ok (Γ := blG) (by simpa [blG] using ⟨awake_ok, boxes_ok fit2_UT, boxesR_ok fit2_UT, sameB_ok fun _ => trivial⟩) 400 bxK wheresF (.b .tt) rfl
    [] (by kernel_rfl) ρ w hF hT hR trivial
end Go.Proofs.Ytmfhkiklpiocoaa.Un
