/- Layer 9 (unit): small functions that answer a conjunction. Layer 9 (unit): quotients, ways, times, what is burnt. Layer 9 (unit): times of ways, what is burnt, where a unit is on a leg. Layer 9 (unit): lists of which all elements are valid: weather, ways, legs. Layer 9 (unit): the leg at a time; ways, names, units. Layer 9 (unit): a step of a plan, and why a unit cannot go on. -/
import Derived.Test.YtmbhjfembfidnaaProg
import Derived.Test.YtmbhjfembfidnaaPb9
section
namespace Go.Proofs.Ytmbhjfembfidnaa.Un
open Go Go.Proofs.Ytmbhjfembfidnaa.Sx Go.RowKit

def K : LK := .sc (.i .i64)
def KS : LK := .sc .s
def spotK : AK := .ag [K, K]
def legK : AK := .ag [K, K, K, K, K, K, K, K]
def frontK : AK := .ag [K, K, K, K, K, K, K, K]
def wayK : AK := .ag [K, K, K]
def boxK : AK := .ag [K, K, K, K, K, K, K]
def unitK : AK := .ag [KS, K, K, K, K, K, K, K, K, K, K, K]
/-- two boxes: what they have in common. -/
def meetA (a b c d : Nat) : E := .le (.ite (.lt (.v a) (.v c)) (.v c) (.v a)) (.ite (.lt (.v d) (.v b)) (.v d) (.v b))
def clashA : List E := [.eq (.v 6) (.v 13), meetA 4 5 11 12, meetA 0 2 7 9, meetA 1 3 8 10]
def cIsSpot := ctrConj 50 [spotK] [] (spotA 0)
def cIsLeg := ctrConj 96 [legK] [] legA
def cIsFront := ctrConj 61 [frontK] [] frontA
def cIsWay := ctrConj 63 [wayK] [] wayA
def cClash := ctrConj 79 [boxK, boxK] [] clashA
def cPlace := ctrConj 35 [spotK] [] (spotA 0)
def cMeet := ctrConj 80 [boxK, boxK] [] [.eq (.v 6) (.v 13), meetA 0 2 7 9, meetA 1 3 8 10, meetA 4 5 11 12]
variable {TT : Tb}
theorem isSpot_ok (hJ : ∀ w, TT.J w) : CtrOk TT Try.prog cIsSpot := auto_conj (Γ := {}) (by simp) 400 (by kernel_rfl) hJ
theorem isLeg_ok (hJ : ∀ w, TT.J w) : CtrOk TT Try.prog cIsLeg := auto_conj (Γ := {}) (by simp) 400 (by kernel_rfl) hJ
theorem isFront_ok (hJ : ∀ w, TT.J w) : CtrOk TT Try.prog cIsFront := auto_conj (Γ := {}) (by simp) 400 (by kernel_rfl) hJ
theorem isWay_ok (hJ : ∀ w, TT.J w) : CtrOk TT Try.prog cIsWay := auto_conj (Γ := {}) (by simp) 400 (by kernel_rfl) hJ
theorem clash_ok (hJ : ∀ w, TT.J w) : CtrOk TT Try.prog cClash := auto_conj (Γ := {}) (by simp) 400 (by kernel_rfl) hJ
theorem place_ok (hJ : ∀ w, TT.J w) : CtrOk TT Try.prog cPlace := auto_conj (Γ := {}) (by simp) 400 (by kernel_rfl) hJ
theorem meet_ok (hJ : ∀ w, TT.J w) : CtrOk TT Try.prog cMeet := auto_conj (Γ := {}) (by simp) 400 (by kernel_rfl) hJ
end Go.Proofs.Ytmbhjfembfidnaa.Un
end
section
namespace Go.Proofs.Ytmbhjfembfidnaa.Un
open Go Go.Proofs.Ytmbhjfembfidnaa.Sx Go.RowKit
variable {TT : Tb}

def rdnF : List E := btw (-4611686018427387904) 0 4611686018427387904 ++ btw 1 1 4611686018427387904
def two (f : Nat) : E := .app f (.cons (.v 0) (.cons (.v 1) .nil))
def wide (e : E) : List E := [.le (.c (-4611686018427387904)) e, .le e (.c 4611686018427387904)]
theorem rdn_wide {a b : Int} (h1 : -4611686018427387904 ≤ a) (h2 : a ≤ 4611686018427387904) (hb : 1 ≤ b) : -4611686018427387904 ≤ rdn a b ∧ rdn a b ≤ 4611686018427387904 := by
  refine ⟨le_rdn (by omega) ?_, rdn_le (by omega) ?_⟩
  · have : 4611686018427387904 * 1 ≤ 4611686018427387904 * b := Int.mul_le_mul_of_nonneg_left hb (by omega)
    omega
  · have : 4611686018427387904 * 1 ≤ 4611686018427387904 * b := Int.mul_le_mul_of_nonneg_left hb (by omega)
    omega
theorem rup_wide {a b : Int} (h1 : -4611686018427387904 ≤ a) (h2 : a ≤ 4611686018427387904) (hb : 1 ≤ b) : -4611686018427387904 ≤ rup a b ∧ rup a b ≤ 4611686018427387904 := by
  have := rdn_wide (a := -a) (b := b) (by omega) (by omega) hb
  unfold rup; unfold rdn at this; omega
def cRdn := ctrVal 99 [.one K, .one K] rdnF (.i .i64 (two 1)) (wide (two 1))
theorem rdn_ok (u : Fit TT) : CtrOk TT Try.prog cRdn := ctrVal_ok rfl fun ρ w hF hT hR => by
  have hg := (u.tab hT).1
  refine pat_calls (Γ := {}) (by simp) 400 [.one K, .one K] rdnF
    [⟨(.val (.i .i64 (.sub (.quo (.v 0) (.v 1)) (.c 1)))), [(.lt (.rem (.v 0) (.v 1)) (.c 0)), (.le (.c (-4611686018427387904)) (.v 0)), (.le (.v 0) (.c 4611686018427387904)), (.le (.c 1) (.v 1)), (.le (.v 1) (.c 4611686018427387904))], []⟩,
⟨(.val (.i .i64 (.quo (.v 0) (.v 1)))), [(.le (.c 0) (.rem (.v 0) (.v 1))), (.le (.c (-4611686018427387904)) (.v 0)), (.le (.v 0) (.c 4611686018427387904)), (.le (.c 1) (.v 1)), (.le (.v 1) (.c 4611686018427387904))], []⟩] (by kernel_rfl) ρ w hF hT hR ⟨?_, ?_⟩ (u.J w)
  all_goals
    intro ρ' w' hx _ hF hb _
    have e0 : ρ'.i 0 = ρ.i 0 := hx.i 0 (by decide)
    have e1 : ρ'.i 1 = ρ.i 1 := hx.i 1 (by decide)
    simp [holds, e0, e1] at hF
    have hw := rdn_wide (a := ρ.i 0) (b := ρ.i 1) (by omega) (by omega) (by omega)
    refine ⟨⟨?_, by simp [wide, two, hg, gF, nI_0, nI_1]; omega⟩, hb⟩
    simp [den_i, two, e0, e1, hg, gF, nI_0, nI_1]
  · exact rdn_neg (by omega) (by omega)
  · exact rdn_pos (by omega) (by omega)
def cRup := ctrVal 100 [.one K, .one K] rdnF (.i .i64 (two 2)) (wide (two 2))
theorem rup_ok (u : Fit TT) : CtrOk TT Try.prog cRup := ctrVal_ok rfl fun ρ w hF hT hR => by
  have hg := (u.tab hT).1
  refine (val_calls (Γ := { calls := [cRdn] }) (by simpa using rdn_ok u.open) (gas := 400) (v := .i .i64 (.sub (.c 0) (.app 1 (.cons (.sub (.c 0) (.v 0)) (.cons (.v 1) .nil))))) (by kernel_rfl) ρ w hF hT hR (u.J w)).mono fun e w' ⟨h1, h2⟩ => ⟨⟨?_, ?_⟩, h2⟩
  · rw [h1]
    simp [den_i, two, hg, gF, nI_0, nI_1, rup, rdn]
  · simp [holds, rdnF, btw] at hF
    have hw := rup_wide (a := ρ.i 0) (b := ρ.i 1) (by omega) (by omega) (by omega)
    simp [wide, two, hg, gF, nI_0, nI_1]; omega

/-! ways -/
def sqE : E := .add (.mul (.sub (.v 2) (.v 0)) (.sub (.v 2) (.v 0))) (.mul (.sub (.v 3) (.v 1)) (.sub (.v 3) (.v 1)))
def sqE2 : E := .add (.mul (.sub (.v 0) (.v 2)) (.sub (.v 0) (.v 2))) (.mul (.sub (.v 1) (.v 3)) (.sub (.v 1) (.v 3)))
def searchL : LoopSpec := { key := 2, locs := [.t 5 (.i .i64), .t 6 (.i .i64)], facts := fun n => [.le (.c 0) (.v n), .le (.v n) (.v (n+1)), .le (.v n) (.c 67108864), .le (.c 0) (.v (n+1)), .le (.v (n+1)) (.c 67108864), .or (.eq (.v n) (.c 0)) (.lt (.mul (.sub (.v n) (.c 1)) (.sub (.v n) (.c 1))) sqE), .le sqE (.mul (.v (n+1)) (.v (n+1)))], meas := fun n => .sub (.v (n+1)) (.v n) }
def four (f : Nat) : E := .app f (.cons (.v 0) (.cons (.v 1) (.cons (.v 2) (.cons (.v 3) .nil))))
def wayB' : List E := [.le (.c 0) (four 0), .le (four 0) (.c 67108864)]
def wayFs : List E := spotA 0 ++ spotA 2
def cDistance := ctrVal 51 [spotK, spotK] wayFs (.i .i64 (four 0)) wayB'
theorem half_of {x : Int} (_h : 0 ≤ x) : x.fdiv (2 ^ (min (Int.toNat 1) IntKind.u64.bits)) = x / 2 := by
  rw [show min (Int.toNat 1) IntKind.u64.bits = 1 from rfl, Int.fdiv_eq_ediv_of_nonneg _ (by decide)]; rfl
set_option maxHeartbeats 1000000 in
theorem distance_ok (u : Fit TT) : CtrOk TT Try.prog cDistance := ctrVal_ok rfl fun ρ w hF hT hR => by
  have hg := (u.tab hT).1
  have hF' := hF
  simp only [wayFs, spotA, btw, List.cons_append, List.nil_append, holds, List.mem_cons, List.not_mem_nil, or_false, forall_eq_or_imp, forall_eq, B_le, I_c, I_v, decide_eq_true_eq, Nat.reduceAdd] at hF
  have hA : spotB (ρ.i 0) (ρ.i 1) = true := by simp only [spotB, decide_eq_true_eq]; omega
  have hB : spotB (ρ.i 2) (ρ.i 3) = true := by simp only [spotB, decide_eq_true_eq]; omega
  have hS := sqd_bounds hA hB
  have hW := way_bounds hA hB
  refine pat_calls (Γ := { loops := [searchL] }) (by simp) 400 [spotK, spotK] wayFs
    [⟨(.must (.le (.add (.shr .u64 (.add (.v 8) (.v 9)) (.c 1)) (.c 1)) (.v 9))), [(.lt (.mul (.shr .u64 (.add (.v 8) (.v 9)) (.c 1)) (.shr .u64 (.add (.v 8) (.v 9)) (.c 1))) (.add (.mul (.sub (.v 2) (.v 0)) (.sub (.v 2) (.v 0))) (.mul (.sub (.v 3) (.v 1)) (.sub (.v 3) (.v 1))))), (.lt (.v 8) (.v 9)), (.le (.c 0) (.v 8)), (.le (.v 8) (.v 9)), (.le (.v 8) (.c 67108864)), (.le (.c 0) (.v 9)), (.le (.v 9) (.c 67108864)), (.or (.eq (.v 8) (.c 0)) (.lt (.mul (.sub (.v 8) (.c 1)) (.sub (.v 8) (.c 1))) (.add (.mul (.sub (.v 2) (.v 0)) (.sub (.v 2) (.v 0))) (.mul (.sub (.v 3) (.v 1)) (.sub (.v 3) (.v 1)))))), (.le (.add (.mul (.sub (.v 2) (.v 0)) (.sub (.v 2) (.v 0))) (.mul (.sub (.v 3) (.v 1)) (.sub (.v 3) (.v 1)))) (.mul (.v 9) (.v 9))), (.le (.c (-16777216)) (.v 0)), (.le (.v 0) (.c 16777216)), (.le (.c (-16777216)) (.v 1)), (.le (.v 1) (.c 16777216)), (.le (.c (-16777216)) (.v 2)), (.le (.v 2) (.c 16777216)), (.le (.c (-16777216)) (.v 3)), (.le (.v 3) (.c 16777216))], []⟩,
⟨(.must (.le (.add (.shr .u64 (.add (.v 8) (.v 9)) (.c 1)) (.c 1)) (.c 67108864))), [(.lt (.mul (.shr .u64 (.add (.v 8) (.v 9)) (.c 1)) (.shr .u64 (.add (.v 8) (.v 9)) (.c 1))) (.add (.mul (.sub (.v 2) (.v 0)) (.sub (.v 2) (.v 0))) (.mul (.sub (.v 3) (.v 1)) (.sub (.v 3) (.v 1))))), (.lt (.v 8) (.v 9)), (.le (.c 0) (.v 8)), (.le (.v 8) (.v 9)), (.le (.v 8) (.c 67108864)), (.le (.c 0) (.v 9)), (.le (.v 9) (.c 67108864)), (.or (.eq (.v 8) (.c 0)) (.lt (.mul (.sub (.v 8) (.c 1)) (.sub (.v 8) (.c 1))) (.add (.mul (.sub (.v 2) (.v 0)) (.sub (.v 2) (.v 0))) (.mul (.sub (.v 3) (.v 1)) (.sub (.v 3) (.v 1)))))), (.le (.add (.mul (.sub (.v 2) (.v 0)) (.sub (.v 2) (.v 0))) (.mul (.sub (.v 3) (.v 1)) (.sub (.v 3) (.v 1)))) (.mul (.v 9) (.v 9))), (.le (.c (-16777216)) (.v 0)), (.le (.v 0) (.c 16777216)), (.le (.c (-16777216)) (.v 1)), (.le (.v 1) (.c 16777216)), (.le (.c (-16777216)) (.v 2)), (.le (.v 2) (.c 16777216)), (.le (.c (-16777216)) (.v 3)), (.le (.v 3) (.c 16777216))], []⟩,
⟨(.must (.or (.eq (.add (.shr .u64 (.add (.v 8) (.v 9)) (.c 1)) (.c 1)) (.c 0)) (.lt (.mul (.sub (.add (.shr .u64 (.add (.v 8) (.v 9)) (.c 1)) (.c 1)) (.c 1)) (.sub (.add (.shr .u64 (.add (.v 8) (.v 9)) (.c 1)) (.c 1)) (.c 1))) (.add (.mul (.sub (.v 2) (.v 0)) (.sub (.v 2) (.v 0))) (.mul (.sub (.v 3) (.v 1)) (.sub (.v 3) (.v 1))))))), [(.lt (.mul (.shr .u64 (.add (.v 8) (.v 9)) (.c 1)) (.shr .u64 (.add (.v 8) (.v 9)) (.c 1))) (.add (.mul (.sub (.v 2) (.v 0)) (.sub (.v 2) (.v 0))) (.mul (.sub (.v 3) (.v 1)) (.sub (.v 3) (.v 1))))), (.lt (.v 8) (.v 9)), (.le (.c 0) (.v 8)), (.le (.v 8) (.v 9)), (.le (.v 8) (.c 67108864)), (.le (.c 0) (.v 9)), (.le (.v 9) (.c 67108864)), (.or (.eq (.v 8) (.c 0)) (.lt (.mul (.sub (.v 8) (.c 1)) (.sub (.v 8) (.c 1))) (.add (.mul (.sub (.v 2) (.v 0)) (.sub (.v 2) (.v 0))) (.mul (.sub (.v 3) (.v 1)) (.sub (.v 3) (.v 1)))))), (.le (.add (.mul (.sub (.v 2) (.v 0)) (.sub (.v 2) (.v 0))) (.mul (.sub (.v 3) (.v 1)) (.sub (.v 3) (.v 1)))) (.mul (.v 9) (.v 9))), (.le (.c (-16777216)) (.v 0)), (.le (.v 0) (.c 16777216)), (.le (.c (-16777216)) (.v 1)), (.le (.v 1) (.c 16777216)), (.le (.c (-16777216)) (.v 2)), (.le (.v 2) (.c 16777216)), (.le (.c (-16777216)) (.v 3)), (.le (.v 3) (.c 16777216))], []⟩,
⟨(.must (.lt (.sub (.v 9) (.add (.shr .u64 (.add (.v 8) (.v 9)) (.c 1)) (.c 1))) (.sub (.v 9) (.v 8)))), [(.lt (.mul (.shr .u64 (.add (.v 8) (.v 9)) (.c 1)) (.shr .u64 (.add (.v 8) (.v 9)) (.c 1))) (.add (.mul (.sub (.v 2) (.v 0)) (.sub (.v 2) (.v 0))) (.mul (.sub (.v 3) (.v 1)) (.sub (.v 3) (.v 1))))), (.lt (.v 8) (.v 9)), (.le (.c 0) (.v 8)), (.le (.v 8) (.v 9)), (.le (.v 8) (.c 67108864)), (.le (.c 0) (.v 9)), (.le (.v 9) (.c 67108864)), (.or (.eq (.v 8) (.c 0)) (.lt (.mul (.sub (.v 8) (.c 1)) (.sub (.v 8) (.c 1))) (.add (.mul (.sub (.v 2) (.v 0)) (.sub (.v 2) (.v 0))) (.mul (.sub (.v 3) (.v 1)) (.sub (.v 3) (.v 1)))))), (.le (.add (.mul (.sub (.v 2) (.v 0)) (.sub (.v 2) (.v 0))) (.mul (.sub (.v 3) (.v 1)) (.sub (.v 3) (.v 1)))) (.mul (.v 9) (.v 9))), (.le (.c (-16777216)) (.v 0)), (.le (.v 0) (.c 16777216)), (.le (.c (-16777216)) (.v 1)), (.le (.v 1) (.c 16777216)), (.le (.c (-16777216)) (.v 2)), (.le (.v 2) (.c 16777216)), (.le (.c (-16777216)) (.v 3)), (.le (.v 3) (.c 16777216))], []⟩,
⟨(.must (.le (.c 0) (.sub (.v 9) (.add (.shr .u64 (.add (.v 8) (.v 9)) (.c 1)) (.c 1))))), [(.lt (.mul (.shr .u64 (.add (.v 8) (.v 9)) (.c 1)) (.shr .u64 (.add (.v 8) (.v 9)) (.c 1))) (.add (.mul (.sub (.v 2) (.v 0)) (.sub (.v 2) (.v 0))) (.mul (.sub (.v 3) (.v 1)) (.sub (.v 3) (.v 1))))), (.lt (.v 8) (.v 9)), (.le (.c 0) (.v 8)), (.le (.v 8) (.v 9)), (.le (.v 8) (.c 67108864)), (.le (.c 0) (.v 9)), (.le (.v 9) (.c 67108864)), (.or (.eq (.v 8) (.c 0)) (.lt (.mul (.sub (.v 8) (.c 1)) (.sub (.v 8) (.c 1))) (.add (.mul (.sub (.v 2) (.v 0)) (.sub (.v 2) (.v 0))) (.mul (.sub (.v 3) (.v 1)) (.sub (.v 3) (.v 1)))))), (.le (.add (.mul (.sub (.v 2) (.v 0)) (.sub (.v 2) (.v 0))) (.mul (.sub (.v 3) (.v 1)) (.sub (.v 3) (.v 1)))) (.mul (.v 9) (.v 9))), (.le (.c (-16777216)) (.v 0)), (.le (.v 0) (.c 16777216)), (.le (.c (-16777216)) (.v 1)), (.le (.v 1) (.c 16777216)), (.le (.c (-16777216)) (.v 2)), (.le (.v 2) (.c 16777216)), (.le (.c (-16777216)) (.v 3)), (.le (.v 3) (.c 16777216))], []⟩,
⟨(.must (.le (.v 8) (.shr .u64 (.add (.v 8) (.v 9)) (.c 1)))), [(.le (.add (.mul (.sub (.v 2) (.v 0)) (.sub (.v 2) (.v 0))) (.mul (.sub (.v 3) (.v 1)) (.sub (.v 3) (.v 1)))) (.mul (.shr .u64 (.add (.v 8) (.v 9)) (.c 1)) (.shr .u64 (.add (.v 8) (.v 9)) (.c 1)))), (.lt (.v 8) (.v 9)), (.le (.c 0) (.v 8)), (.le (.v 8) (.v 9)), (.le (.v 8) (.c 67108864)), (.le (.c 0) (.v 9)), (.le (.v 9) (.c 67108864)), (.or (.eq (.v 8) (.c 0)) (.lt (.mul (.sub (.v 8) (.c 1)) (.sub (.v 8) (.c 1))) (.add (.mul (.sub (.v 2) (.v 0)) (.sub (.v 2) (.v 0))) (.mul (.sub (.v 3) (.v 1)) (.sub (.v 3) (.v 1)))))), (.le (.add (.mul (.sub (.v 2) (.v 0)) (.sub (.v 2) (.v 0))) (.mul (.sub (.v 3) (.v 1)) (.sub (.v 3) (.v 1)))) (.mul (.v 9) (.v 9))), (.le (.c (-16777216)) (.v 0)), (.le (.v 0) (.c 16777216)), (.le (.c (-16777216)) (.v 1)), (.le (.v 1) (.c 16777216)), (.le (.c (-16777216)) (.v 2)), (.le (.v 2) (.c 16777216)), (.le (.c (-16777216)) (.v 3)), (.le (.v 3) (.c 16777216))], []⟩,
⟨(.must (.lt (.sub (.shr .u64 (.add (.v 8) (.v 9)) (.c 1)) (.v 8)) (.sub (.v 9) (.v 8)))), [(.le (.add (.mul (.sub (.v 2) (.v 0)) (.sub (.v 2) (.v 0))) (.mul (.sub (.v 3) (.v 1)) (.sub (.v 3) (.v 1)))) (.mul (.shr .u64 (.add (.v 8) (.v 9)) (.c 1)) (.shr .u64 (.add (.v 8) (.v 9)) (.c 1)))), (.lt (.v 8) (.v 9)), (.le (.c 0) (.v 8)), (.le (.v 8) (.v 9)), (.le (.v 8) (.c 67108864)), (.le (.c 0) (.v 9)), (.le (.v 9) (.c 67108864)), (.or (.eq (.v 8) (.c 0)) (.lt (.mul (.sub (.v 8) (.c 1)) (.sub (.v 8) (.c 1))) (.add (.mul (.sub (.v 2) (.v 0)) (.sub (.v 2) (.v 0))) (.mul (.sub (.v 3) (.v 1)) (.sub (.v 3) (.v 1)))))), (.le (.add (.mul (.sub (.v 2) (.v 0)) (.sub (.v 2) (.v 0))) (.mul (.sub (.v 3) (.v 1)) (.sub (.v 3) (.v 1)))) (.mul (.v 9) (.v 9))), (.le (.c (-16777216)) (.v 0)), (.le (.v 0) (.c 16777216)), (.le (.c (-16777216)) (.v 1)), (.le (.v 1) (.c 16777216)), (.le (.c (-16777216)) (.v 2)), (.le (.v 2) (.c 16777216)), (.le (.c (-16777216)) (.v 3)), (.le (.v 3) (.c 16777216))], []⟩,
⟨(.must (.le (.c 0) (.sub (.shr .u64 (.add (.v 8) (.v 9)) (.c 1)) (.v 8)))), [(.le (.add (.mul (.sub (.v 2) (.v 0)) (.sub (.v 2) (.v 0))) (.mul (.sub (.v 3) (.v 1)) (.sub (.v 3) (.v 1)))) (.mul (.shr .u64 (.add (.v 8) (.v 9)) (.c 1)) (.shr .u64 (.add (.v 8) (.v 9)) (.c 1)))), (.lt (.v 8) (.v 9)), (.le (.c 0) (.v 8)), (.le (.v 8) (.v 9)), (.le (.v 8) (.c 67108864)), (.le (.c 0) (.v 9)), (.le (.v 9) (.c 67108864)), (.or (.eq (.v 8) (.c 0)) (.lt (.mul (.sub (.v 8) (.c 1)) (.sub (.v 8) (.c 1))) (.add (.mul (.sub (.v 2) (.v 0)) (.sub (.v 2) (.v 0))) (.mul (.sub (.v 3) (.v 1)) (.sub (.v 3) (.v 1)))))), (.le (.add (.mul (.sub (.v 2) (.v 0)) (.sub (.v 2) (.v 0))) (.mul (.sub (.v 3) (.v 1)) (.sub (.v 3) (.v 1)))) (.mul (.v 9) (.v 9))), (.le (.c (-16777216)) (.v 0)), (.le (.v 0) (.c 16777216)), (.le (.c (-16777216)) (.v 1)), (.le (.v 1) (.c 16777216)), (.le (.c (-16777216)) (.v 2)), (.le (.v 2) (.c 16777216)), (.le (.c (-16777216)) (.v 3)), (.le (.v 3) (.c 16777216))], []⟩,
⟨(.val (.i .i64 (.v 8))), [(.le (.v 9) (.v 8)), (.le (.c 0) (.v 8)), (.le (.v 8) (.v 9)), (.le (.v 8) (.c 67108864)), (.le (.c 0) (.v 9)), (.le (.v 9) (.c 67108864)), (.or (.eq (.v 8) (.c 0)) (.lt (.mul (.sub (.v 8) (.c 1)) (.sub (.v 8) (.c 1))) (.add (.mul (.sub (.v 2) (.v 0)) (.sub (.v 2) (.v 0))) (.mul (.sub (.v 3) (.v 1)) (.sub (.v 3) (.v 1)))))), (.le (.add (.mul (.sub (.v 2) (.v 0)) (.sub (.v 2) (.v 0))) (.mul (.sub (.v 3) (.v 1)) (.sub (.v 3) (.v 1)))) (.mul (.v 9) (.v 9))), (.le (.c (-16777216)) (.v 0)), (.le (.v 0) (.c 16777216)), (.le (.c (-16777216)) (.v 1)), (.le (.v 1) (.c 16777216)), (.le (.c (-16777216)) (.v 2)), (.le (.v 2) (.c 16777216)), (.le (.c (-16777216)) (.v 3)), (.le (.v 3) (.c 16777216))], []⟩] (by kernel_rfl) ρ w hF' hT hR ⟨?_, ?_, ?_, ?_, ?_, ?_, ?_, ?_, ?_⟩ (u.J w)
  all_goals
    intro ρ' w' hx _ hF hb _
    have e0 : ρ'.i 0 = ρ.i 0 := hx.i 0 (by decide)
    have e1 : ρ'.i 1 = ρ.i 1 := hx.i 1 (by decide)
    have e2 : ρ'.i 2 = ρ.i 2 := hx.i 2 (by decide)
    have e3 : ρ'.i 3 = ρ.i 3 := hx.i 3 (by decide)
    simp only [holds, List.mem_cons, List.not_mem_nil, or_false, forall_eq_or_imp, forall_eq, B_le, B_lt, B_eq, B_or, I_add, I_mul, I_sub, I_shr, I_c, I_v, decide_eq_true_eq, Bool.or_eq_true, e0, e1, e2, e3] at hF ⊢
  case' refine_9 =>
    refine ⟨⟨?_, by simp [wayB', four, hg, gF, nI_0, nI_1, nI_2, nI_3]; exact hW⟩, hb⟩
    have he : ρ'.i 8 = way (ρ.i 0) (ρ.i 1) (ρ.i 2) (ρ.i 3) := way_is hA hB (by
      have e : sqd (ρ.i 0) (ρ.i 1) (ρ.i 2) (ρ.i 3) = (ρ.i 2 - ρ.i 0) * (ρ.i 2 - ρ.i 0) + (ρ.i 3 - ρ.i 1) * (ρ.i 3 - ρ.i 1) := by unfold sqd; grind
      rw [e]
      have h89 : ρ'.i 8 = ρ'.i 9 := by omega
      rw [← h89] at hF
      exact ⟨by omega, by omega, by omega⟩)
    simp [den_i, four, hg, gF, nI_0, nI_1, nI_2, nI_3, he]
  all_goals
    rw [half_of (by omega)] at hF ⊢
    generalize hh : (ρ'.i 8 + ρ'.i 9) / 2 = h at hF ⊢
    generalize (ρ.i 2 - ρ.i 0) * (ρ.i 2 - ρ.i 0) + (ρ.i 3 - ρ.i 1) * (ρ.i 3 - ρ.i 1) = S at hF ⊢
  all_goals (try rw [Int.add_sub_cancel])
  all_goals omega

/-! the document's way -/
def halvesL : LoopSpec := { key := 4, locs := [.t 8 (.i .i64), .t 9 (.i .i64)], facts := fun n => [.le (.c (-1)) (.v n), .lt (.v n) (.v (n+1)), .le (.v n) (.c 67108864), .le (.c 0) (.v (n+1)), .le (.v (n+1)) (.c 67108864), .or (.eq (.v n) (.c (-1))) (.lt (.mul (.v n) (.v n)) sqE2), .le sqE2 (.mul (.v (n+1)) (.v (n+1)))], meas := fun n => .sub (.v (n+1)) (.v n) }
def cWay := ctrVal 52 [spotK, spotK] wayFs (.i .i64 (four 0)) wayB'
set_option maxHeartbeats 1000000 in
theorem refway_ok (u : Fit TT) : CtrOk TT Try.prog cWay := ctrVal_ok rfl fun ρ w hF hT hR => by
  have hg := (u.tab hT).1
  have hF' := hF
  simp only [wayFs, spotA, btw, List.cons_append, List.nil_append, holds, List.mem_cons, List.not_mem_nil, or_false, forall_eq_or_imp, forall_eq, B_le, I_c, I_v, decide_eq_true_eq, Nat.reduceAdd] at hF
  have hA : spotB (ρ.i 0) (ρ.i 1) = true := by simp only [spotB, decide_eq_true_eq]; omega
  have hB : spotB (ρ.i 2) (ρ.i 3) = true := by simp only [spotB, decide_eq_true_eq]; omega
  have hS := sqd_bounds hA hB
  have hW := way_bounds hA hB
  refine pat_calls (Γ := { loops := [halvesL] }) (by simp) 400 [spotK, spotK] wayFs
    [⟨(.must (.lt (.v 6) (.quo (.add (.v 6) (.v 7)) (.c 2)))), [(.le (.add (.mul (.sub (.v 0) (.v 2)) (.sub (.v 0) (.v 2))) (.mul (.sub (.v 1) (.v 3)) (.sub (.v 1) (.v 3)))) (.mul (.quo (.add (.v 6) (.v 7)) (.c 2)) (.quo (.add (.v 6) (.v 7)) (.c 2)))), (.lt (.c 1) (.sub (.v 7) (.v 6))), (.le (.c (-1)) (.v 6)), (.lt (.v 6) (.v 7)), (.le (.v 6) (.c 67108864)), (.le (.c 0) (.v 7)), (.le (.v 7) (.c 67108864)), (.or (.eq (.v 6) (.c (-1))) (.lt (.mul (.v 6) (.v 6)) (.add (.mul (.sub (.v 0) (.v 2)) (.sub (.v 0) (.v 2))) (.mul (.sub (.v 1) (.v 3)) (.sub (.v 1) (.v 3)))))), (.le (.add (.mul (.sub (.v 0) (.v 2)) (.sub (.v 0) (.v 2))) (.mul (.sub (.v 1) (.v 3)) (.sub (.v 1) (.v 3)))) (.mul (.v 7) (.v 7))), (.le (.c (-16777216)) (.v 0)), (.le (.v 0) (.c 16777216)), (.le (.c (-16777216)) (.v 1)), (.le (.v 1) (.c 16777216)), (.le (.c (-16777216)) (.v 2)), (.le (.v 2) (.c 16777216)), (.le (.c (-16777216)) (.v 3)), (.le (.v 3) (.c 16777216))], []⟩,
⟨(.must (.le (.c 0) (.quo (.add (.v 6) (.v 7)) (.c 2)))), [(.le (.add (.mul (.sub (.v 0) (.v 2)) (.sub (.v 0) (.v 2))) (.mul (.sub (.v 1) (.v 3)) (.sub (.v 1) (.v 3)))) (.mul (.quo (.add (.v 6) (.v 7)) (.c 2)) (.quo (.add (.v 6) (.v 7)) (.c 2)))), (.lt (.c 1) (.sub (.v 7) (.v 6))), (.le (.c (-1)) (.v 6)), (.lt (.v 6) (.v 7)), (.le (.v 6) (.c 67108864)), (.le (.c 0) (.v 7)), (.le (.v 7) (.c 67108864)), (.or (.eq (.v 6) (.c (-1))) (.lt (.mul (.v 6) (.v 6)) (.add (.mul (.sub (.v 0) (.v 2)) (.sub (.v 0) (.v 2))) (.mul (.sub (.v 1) (.v 3)) (.sub (.v 1) (.v 3)))))), (.le (.add (.mul (.sub (.v 0) (.v 2)) (.sub (.v 0) (.v 2))) (.mul (.sub (.v 1) (.v 3)) (.sub (.v 1) (.v 3)))) (.mul (.v 7) (.v 7))), (.le (.c (-16777216)) (.v 0)), (.le (.v 0) (.c 16777216)), (.le (.c (-16777216)) (.v 1)), (.le (.v 1) (.c 16777216)), (.le (.c (-16777216)) (.v 2)), (.le (.v 2) (.c 16777216)), (.le (.c (-16777216)) (.v 3)), (.le (.v 3) (.c 16777216))], []⟩,
⟨(.must (.lt (.sub (.quo (.add (.v 6) (.v 7)) (.c 2)) (.v 6)) (.sub (.v 7) (.v 6)))), [(.le (.add (.mul (.sub (.v 0) (.v 2)) (.sub (.v 0) (.v 2))) (.mul (.sub (.v 1) (.v 3)) (.sub (.v 1) (.v 3)))) (.mul (.quo (.add (.v 6) (.v 7)) (.c 2)) (.quo (.add (.v 6) (.v 7)) (.c 2)))), (.lt (.c 1) (.sub (.v 7) (.v 6))), (.le (.c (-1)) (.v 6)), (.lt (.v 6) (.v 7)), (.le (.v 6) (.c 67108864)), (.le (.c 0) (.v 7)), (.le (.v 7) (.c 67108864)), (.or (.eq (.v 6) (.c (-1))) (.lt (.mul (.v 6) (.v 6)) (.add (.mul (.sub (.v 0) (.v 2)) (.sub (.v 0) (.v 2))) (.mul (.sub (.v 1) (.v 3)) (.sub (.v 1) (.v 3)))))), (.le (.add (.mul (.sub (.v 0) (.v 2)) (.sub (.v 0) (.v 2))) (.mul (.sub (.v 1) (.v 3)) (.sub (.v 1) (.v 3)))) (.mul (.v 7) (.v 7))), (.le (.c (-16777216)) (.v 0)), (.le (.v 0) (.c 16777216)), (.le (.c (-16777216)) (.v 1)), (.le (.v 1) (.c 16777216)), (.le (.c (-16777216)) (.v 2)), (.le (.v 2) (.c 16777216)), (.le (.c (-16777216)) (.v 3)), (.le (.v 3) (.c 16777216))], []⟩,
⟨(.must (.le (.c 0) (.sub (.quo (.add (.v 6) (.v 7)) (.c 2)) (.v 6)))), [(.le (.add (.mul (.sub (.v 0) (.v 2)) (.sub (.v 0) (.v 2))) (.mul (.sub (.v 1) (.v 3)) (.sub (.v 1) (.v 3)))) (.mul (.quo (.add (.v 6) (.v 7)) (.c 2)) (.quo (.add (.v 6) (.v 7)) (.c 2)))), (.lt (.c 1) (.sub (.v 7) (.v 6))), (.le (.c (-1)) (.v 6)), (.lt (.v 6) (.v 7)), (.le (.v 6) (.c 67108864)), (.le (.c 0) (.v 7)), (.le (.v 7) (.c 67108864)), (.or (.eq (.v 6) (.c (-1))) (.lt (.mul (.v 6) (.v 6)) (.add (.mul (.sub (.v 0) (.v 2)) (.sub (.v 0) (.v 2))) (.mul (.sub (.v 1) (.v 3)) (.sub (.v 1) (.v 3)))))), (.le (.add (.mul (.sub (.v 0) (.v 2)) (.sub (.v 0) (.v 2))) (.mul (.sub (.v 1) (.v 3)) (.sub (.v 1) (.v 3)))) (.mul (.v 7) (.v 7))), (.le (.c (-16777216)) (.v 0)), (.le (.v 0) (.c 16777216)), (.le (.c (-16777216)) (.v 1)), (.le (.v 1) (.c 16777216)), (.le (.c (-16777216)) (.v 2)), (.le (.v 2) (.c 16777216)), (.le (.c (-16777216)) (.v 3)), (.le (.v 3) (.c 16777216))], []⟩,
⟨(.must (.lt (.quo (.add (.v 6) (.v 7)) (.c 2)) (.v 7))), [(.lt (.mul (.quo (.add (.v 6) (.v 7)) (.c 2)) (.quo (.add (.v 6) (.v 7)) (.c 2))) (.add (.mul (.sub (.v 0) (.v 2)) (.sub (.v 0) (.v 2))) (.mul (.sub (.v 1) (.v 3)) (.sub (.v 1) (.v 3))))), (.lt (.c 1) (.sub (.v 7) (.v 6))), (.le (.c (-1)) (.v 6)), (.lt (.v 6) (.v 7)), (.le (.v 6) (.c 67108864)), (.le (.c 0) (.v 7)), (.le (.v 7) (.c 67108864)), (.or (.eq (.v 6) (.c (-1))) (.lt (.mul (.v 6) (.v 6)) (.add (.mul (.sub (.v 0) (.v 2)) (.sub (.v 0) (.v 2))) (.mul (.sub (.v 1) (.v 3)) (.sub (.v 1) (.v 3)))))), (.le (.add (.mul (.sub (.v 0) (.v 2)) (.sub (.v 0) (.v 2))) (.mul (.sub (.v 1) (.v 3)) (.sub (.v 1) (.v 3)))) (.mul (.v 7) (.v 7))), (.le (.c (-16777216)) (.v 0)), (.le (.v 0) (.c 16777216)), (.le (.c (-16777216)) (.v 1)), (.le (.v 1) (.c 16777216)), (.le (.c (-16777216)) (.v 2)), (.le (.v 2) (.c 16777216)), (.le (.c (-16777216)) (.v 3)), (.le (.v 3) (.c 16777216))], []⟩,
⟨(.must (.lt (.sub (.v 7) (.quo (.add (.v 6) (.v 7)) (.c 2))) (.sub (.v 7) (.v 6)))), [(.lt (.mul (.quo (.add (.v 6) (.v 7)) (.c 2)) (.quo (.add (.v 6) (.v 7)) (.c 2))) (.add (.mul (.sub (.v 0) (.v 2)) (.sub (.v 0) (.v 2))) (.mul (.sub (.v 1) (.v 3)) (.sub (.v 1) (.v 3))))), (.lt (.c 1) (.sub (.v 7) (.v 6))), (.le (.c (-1)) (.v 6)), (.lt (.v 6) (.v 7)), (.le (.v 6) (.c 67108864)), (.le (.c 0) (.v 7)), (.le (.v 7) (.c 67108864)), (.or (.eq (.v 6) (.c (-1))) (.lt (.mul (.v 6) (.v 6)) (.add (.mul (.sub (.v 0) (.v 2)) (.sub (.v 0) (.v 2))) (.mul (.sub (.v 1) (.v 3)) (.sub (.v 1) (.v 3)))))), (.le (.add (.mul (.sub (.v 0) (.v 2)) (.sub (.v 0) (.v 2))) (.mul (.sub (.v 1) (.v 3)) (.sub (.v 1) (.v 3)))) (.mul (.v 7) (.v 7))), (.le (.c (-16777216)) (.v 0)), (.le (.v 0) (.c 16777216)), (.le (.c (-16777216)) (.v 1)), (.le (.v 1) (.c 16777216)), (.le (.c (-16777216)) (.v 2)), (.le (.v 2) (.c 16777216)), (.le (.c (-16777216)) (.v 3)), (.le (.v 3) (.c 16777216))], []⟩,
⟨(.must (.le (.c 0) (.sub (.v 7) (.quo (.add (.v 6) (.v 7)) (.c 2))))), [(.lt (.mul (.quo (.add (.v 6) (.v 7)) (.c 2)) (.quo (.add (.v 6) (.v 7)) (.c 2))) (.add (.mul (.sub (.v 0) (.v 2)) (.sub (.v 0) (.v 2))) (.mul (.sub (.v 1) (.v 3)) (.sub (.v 1) (.v 3))))), (.lt (.c 1) (.sub (.v 7) (.v 6))), (.le (.c (-1)) (.v 6)), (.lt (.v 6) (.v 7)), (.le (.v 6) (.c 67108864)), (.le (.c 0) (.v 7)), (.le (.v 7) (.c 67108864)), (.or (.eq (.v 6) (.c (-1))) (.lt (.mul (.v 6) (.v 6)) (.add (.mul (.sub (.v 0) (.v 2)) (.sub (.v 0) (.v 2))) (.mul (.sub (.v 1) (.v 3)) (.sub (.v 1) (.v 3)))))), (.le (.add (.mul (.sub (.v 0) (.v 2)) (.sub (.v 0) (.v 2))) (.mul (.sub (.v 1) (.v 3)) (.sub (.v 1) (.v 3)))) (.mul (.v 7) (.v 7))), (.le (.c (-16777216)) (.v 0)), (.le (.v 0) (.c 16777216)), (.le (.c (-16777216)) (.v 1)), (.le (.v 1) (.c 16777216)), (.le (.c (-16777216)) (.v 2)), (.le (.v 2) (.c 16777216)), (.le (.c (-16777216)) (.v 3)), (.le (.v 3) (.c 16777216))], []⟩,
⟨(.val (.i .i64 (.v 7))), [(.le (.sub (.v 7) (.v 6)) (.c 1)), (.le (.c (-1)) (.v 6)), (.lt (.v 6) (.v 7)), (.le (.v 6) (.c 67108864)), (.le (.c 0) (.v 7)), (.le (.v 7) (.c 67108864)), (.or (.eq (.v 6) (.c (-1))) (.lt (.mul (.v 6) (.v 6)) (.add (.mul (.sub (.v 0) (.v 2)) (.sub (.v 0) (.v 2))) (.mul (.sub (.v 1) (.v 3)) (.sub (.v 1) (.v 3)))))), (.le (.add (.mul (.sub (.v 0) (.v 2)) (.sub (.v 0) (.v 2))) (.mul (.sub (.v 1) (.v 3)) (.sub (.v 1) (.v 3)))) (.mul (.v 7) (.v 7))), (.le (.c (-16777216)) (.v 0)), (.le (.v 0) (.c 16777216)), (.le (.c (-16777216)) (.v 1)), (.le (.v 1) (.c 16777216)), (.le (.c (-16777216)) (.v 2)), (.le (.v 2) (.c 16777216)), (.le (.c (-16777216)) (.v 3)), (.le (.v 3) (.c 16777216))], []⟩] (by kernel_rfl) ρ w hF' hT hR ⟨?_, ?_, ?_, ?_, ?_, ?_, ?_, ?_⟩ (u.J w)
  all_goals
    intro ρ' w' hx _ hF hb _
    have e0 : ρ'.i 0 = ρ.i 0 := hx.i 0 (by decide)
    have e1 : ρ'.i 1 = ρ.i 1 := hx.i 1 (by decide)
    have e2 : ρ'.i 2 = ρ.i 2 := hx.i 2 (by decide)
    have e3 : ρ'.i 3 = ρ.i 3 := hx.i 3 (by decide)
    simp only [holds, List.mem_cons, List.not_mem_nil, or_false, forall_eq_or_imp, forall_eq, B_le, B_lt, B_eq, B_or, I_add, I_mul, I_sub, I_quo, I_c, I_v, decide_eq_true_eq, Bool.or_eq_true, e0, e1, e2, e3] at hF ⊢
    generalize hSS : (ρ.i 0 - ρ.i 2) * (ρ.i 0 - ρ.i 2) + (ρ.i 1 - ρ.i 3) * (ρ.i 1 - ρ.i 3) = S at hF ⊢
    have hS' : sqd (ρ.i 0) (ρ.i 1) (ρ.i 2) (ρ.i 3) = S := hSS
  case' refine_8 =>
    refine ⟨⟨?_, by simp [wayB', four, hg, gF, nI_0, nI_1, nI_2, nI_3]; exact hW⟩, hb⟩
    have he : ρ'.i 7 = _ := way_is hA hB (by
      rw [hS']
      exact ⟨by omega, by omega, by
        rcases hF.2.2.2.2.2.2.1 with h | h
        · left; omega
        · right; rw [show ρ'.i 6 = ρ'.i 7 - 1 from by omega] at h; exact h⟩)
    simp [den_i, four, hg, gF, nI_0, nI_1, nI_2, nI_3, he]
  all_goals
    rw [Int.tdiv_eq_ediv_of_nonneg (by omega)] at hF ⊢
    omega
end Go.Proofs.Ytmbhjfembfidnaa.Un
end
section
namespace Go.Proofs.Ytmbhjfembfidnaa.Un
open Go Go.Proofs.Ytmbhjfembfidnaa.Sx Go.RowKit
variable {TT : Tb}

def apps (f : Nat) (l : List E) : E := .app f (l.foldr .cons .nil)
def vs (l : List Nat) : List E := l.map .v
def from0 (e : E) (z : Int) : List E := [.le (.c 0) e, .le e (.c z)]
/-! the document's quotient -/
def cUp := ctrVal 77 [.one K, .one K] (btw 0 0 4611686018427387903 ++ btw 1 1 4611686018427387903) (.i .i64 (two 2)) (wide (two 2))
theorem up_ok (u : Fit TT) : CtrOk TT Try.prog cUp := ctrVal_ok rfl fun ρ w hF hT hR => by
  have hg := (u.tab hT).1
  refine (val_calls (Γ := {}) (by simp) (gas := 400) (v := .i .i64 (.quo (.sub (.add (.v 0) (.v 1)) (.c 1)) (.v 1))) (by kernel_rfl) ρ w hF hT hR (u.J w)).mono fun e w' ⟨h1, h2⟩ => ⟨⟨?_, ?_⟩, h2⟩
  · rw [h1]
    simp [holds, btw] at hF
    simp only [den_i, two, I_add, I_sub, I_quo, I_c, I_v, I_app, L_cons, L_nil, hg, gF, nI_0, nI_1, up_rup (show 0 < ρ.i 1 by omega) hF.1]
  · simp [holds, btw] at hF
    have hw := rup_wide (a := ρ.i 0) (b := ρ.i 1) (by omega) (by omega) (by omega)
    simp [wide, two, hg, gF, nI_0, nI_1]; omega

/-! times and fuel -/
def timeFs : List E := btw 1 1 1000000 ++ spotA 12 ++ spotA 14
def timeE : E := apps 5 (vs [1, 12, 13, 14, 15])
def burnFs : List E := btw 0 3 1048576 ++ btw 0 12 1099511627776
def burnE : E := apps 6 (vs [3, 12])
def cTimeOf := ctrVal 108 [unitK, spotK, spotK] timeFs (.i .i64 timeE) (from0 timeE 241591910400)
def cTakes := ctrVal 93 [unitK, spotK, spotK] timeFs (.i .i64 timeE) (from0 timeE 241591910400)
def cBurnt := ctrVal 123 [unitK, .one K] burnFs (.i .i64 burnE) (from0 burnE 320255973501902)
def cBurns := ctrVal 94 [unitK, .one K] burnFs (.i .i64 burnE) (from0 burnE 320255973501902)
def timeV : V := .i .i64 (apps 2 [.mul (apps 0 (vs [12, 13, 14, 15])) (.c 3600), .v 1])
def burnV : V := .i .i64 (apps 2 [.mul (.v 3) (.v 12), .c 3600])
theorem time_end {ρ : Env} (hg : ρ.g = gF) (hF : holds ρ timeFs) : timeV.den ρ = (V.i .i64 timeE).den ρ ∧ ∀ e ∈ from0 timeE 241591910400, e.B ρ = true := by
  simp only [timeFs, spotA, btw, List.cons_append, List.nil_append, holds, List.mem_cons, List.not_mem_nil, or_false, forall_eq_or_imp, forall_eq, B_le, I_c, I_v, decide_eq_true_eq, Nat.reduceAdd] at hF
  have hb := timeF_bounds (s := ρ.i 1) (ax := ρ.i 12) (ay := ρ.i 13) (bx := ρ.i 14) (b_y := ρ.i 15) (by omega) (by simp only [spotB, decide_eq_true_eq]; omega) (by simp only [spotB, decide_eq_true_eq]; omega)
  refine ⟨?_, ?_⟩
  · simp [timeV, timeE, apps, vs, den_i, hg, gF, nI_0, nI_1, nI_2, nI_3, nI_4, timeF]
  · simp [from0, timeE, apps, vs, hg, gF, nI_0, nI_1, nI_2, nI_3, nI_4]; exact hb
theorem burn_end {ρ : Env} (hg : ρ.g = gF) (hF : holds ρ burnFs) : burnV.den ρ = (V.i .i64 burnE).den ρ ∧ ∀ e ∈ from0 burnE 320255973501902, e.B ρ = true := by
  simp only [burnFs, btw, List.cons_append, List.nil_append, holds, List.mem_cons, List.not_mem_nil, or_false, forall_eq_or_imp, forall_eq, B_le, I_c, I_v, decide_eq_true_eq] at hF
  have hb := burnF_bounds (b := ρ.i 3) (t := ρ.i 12) (by omega) (by omega) (by omega) (by omega)
  refine ⟨?_, ?_⟩
  · simp [burnV, burnE, apps, vs, den_i, hg, gF, nI_0, nI_1, burnF]
  · simp [from0, burnE, apps, vs, hg, gF, nI_0, nI_1]; exact hb
theorem timeOf_ok (u : Fit TT) : CtrOk TT Try.prog cTimeOf := ctrVal_ok rfl fun ρ w hF hT hR => by
  obtain ⟨h3, h4⟩ := time_end (u.tab hT).1 hF
  refine (val_calls (Γ := { calls := [cDistance, cRup] }) (by simpa using ⟨distance_ok u.open, rup_ok u.open⟩) (gas := 400) (v := timeV) (by kernel_rfl) ρ w hF hT hR (u.J w)).mono fun e w' ⟨h1, h2⟩ => ⟨⟨by rw [h1, h3], h4⟩, h2⟩
theorem takes_ok (u : Fit TT) : CtrOk TT Try.prog cTakes := ctrVal_ok rfl fun ρ w hF hT hR => by
  obtain ⟨h3, h4⟩ := time_end (u.tab hT).1 hF
  refine (val_calls (Γ := { calls := [cWay, cUp] }) (by simpa using ⟨refway_ok u.open, up_ok u.open⟩) (gas := 400) (v := timeV) (by kernel_rfl) ρ w hF hT hR (u.J w)).mono fun e w' ⟨h1, h2⟩ => ⟨⟨by rw [h1, h3], h4⟩, h2⟩
theorem burnt_ok (u : Fit TT) : CtrOk TT Try.prog cBurnt := ctrVal_ok rfl fun ρ w hF hT hR => by
  obtain ⟨h3, h4⟩ := burn_end (u.tab hT).1 hF
  refine (val_calls (Γ := { calls := [cRup] }) (by simpa using rup_ok u.open) (gas := 400) (v := burnV) (by kernel_rfl) ρ w hF hT hR (u.J w)).mono fun e w' ⟨h1, h2⟩ => ⟨⟨by rw [h1, h3], h4⟩, h2⟩
theorem burns_ok (u : Fit TT) : CtrOk TT Try.prog cBurns := ctrVal_ok rfl fun ρ w hF hT hR => by
  obtain ⟨h3, h4⟩ := burn_end (u.tab hT).1 hF
  refine (val_calls (Γ := { calls := [cUp] }) (by simpa using up_ok u.open) (gas := 400) (v := burnV) (by kernel_rfl) ρ w hF hT hR (u.J w)).mono fun e w' ⟨h1, h2⟩ => ⟨⟨by rw [h1, h3], h4⟩, h2⟩
/-! what is left: of a leg's fuel -/
def leftFs : List E := btw 0 3 1048576 ++ btw (-16777216) 18 1073741824 ++ btw (-16777216) 19 1073741824 ++ btw (-16777216) 20 1073741824
def leftE : E := apps 8 (vs [19, 3, 18, 20])
def cLeftAt := ctrVal 72 [unitK, legK, .one K] leftFs (.i .i64 leftE) []
theorem leftAt_ok (u : Fit TT) : CtrOk TT Try.prog cLeftAt := ctrVal_ok rfl fun ρ w hF hT hR => by
  have hg := (u.tab hT).1
  refine (val_calls (Γ := { calls := [cRdn] }) (by simpa using rdn_ok u.open) (gas := 400) (v := .i .i64 (.add (.v 19) (apps 1 [.mul (.v 3) (.sub (.v 18) (.v 20)), .c 3600]))) (by kernel_rfl) ρ w hF hT hR (u.J w)).mono fun e w' ⟨h1, h2⟩ => ⟨⟨?_, fun _ h => by cases h⟩, h2⟩
  rw [h1]
  simp [leftE, apps, vs, den_i, hg, gF, nI_0, nI_1, nI_2, nI_3, leftF]

/-! where a unit is on a leg -/
theorem plx_between {lo : Bool} {a b st ar t : Int} {m M : Int} (ha : m ≤ a ∧ a ≤ M) (hb : m ≤ b ∧ b ≤ M) (h : st ≤ t) : m ≤ plx lo a b st ar t ∧ plx lo a b st ar t ≤ M := by
  unfold plx
  split
  · exact hb
  · rename_i har
    have h0 : 0 < ar - st := by omega
    have h1 : 0 ≤ t - st := by omega
    have h2 : t - st ≤ ar - st := by omega
    have k : (b - a ≥ 0 → 0 ≤ (b - a) * (t - st) ∧ (b - a) * (t - st) ≤ (b - a) * (ar - st)) ∧ (b - a ≤ 0 → (b - a) * (ar - st) ≤ (b - a) * (t - st) ∧ (b - a) * (t - st) ≤ 0) := by
      refine ⟨fun hh => ⟨Int.mul_nonneg hh h1, Int.mul_le_mul_of_nonneg_left h2 hh⟩, fun hh => ⟨Int.mul_le_mul_of_nonpos_left hh h2, Int.mul_nonpos_of_nonpos_of_nonneg hh h1⟩⟩
    generalize (b - a) * (t - st) = x at *
    rcases Int.le_total 0 (b - a) with hh | hh
    · obtain ⟨k1, k2⟩ := k.1 hh
      have r1 := rdn_le (a := x) (b := ar - st) (c := b - a) h0 k2
      have r2 := le_rdn (a := x) (b := ar - st) (c := 0) h0 (by omega)
      have r3 := rup_le (a := x) (b := ar - st) (c := b - a) h0 k2
      have r4 := le_rup (a := x) (b := ar - st) (c := 0) h0 (by omega)
      split <;> omega
    · obtain ⟨k1, k2⟩ := k.2 hh
      have r1 := rdn_le (a := x) (b := ar - st) (c := 0) h0 (by omega)
      have r2 := le_rdn (a := x) (b := ar - st) (c := b - a) h0 k1
      have r3 := rup_le (a := x) (b := ar - st) (c := 0) h0 (by omega)
      have r4 := le_rup (a := x) (b := ar - st) (c := b - a) h0 k1
      split <;> omega
def wideB (k : Nat) : List E := btw (-16777216) k 1073741824
def placeFs : List E := wideB 0 ++ wideB 1 ++ wideB 2 ++ wideB 3 ++ wideB 4 ++ wideB 5 ++ wideB 8 ++ [.le (.v 4) (.v 8)]
def plE (f a b : Nat) : E := apps f (vs [a, b, 4, 5, 8])
def placeV : V := .tup (V.ofL [.agg (V.ofL [.i .i64 (plE 3 0 2), .i .i64 (plE 3 1 3)]), .agg (V.ofL [.i .i64 (plE 4 0 2), .i .i64 (plE 4 1 3)])])
def bound (e : E) : List E := [.le (.c (-16777216)) e, .le e (.c 1073741824)]
def placeBs : List E := bound (plE 3 0 2) ++ bound (plE 3 1 3) ++ bound (plE 4 0 2) ++ bound (plE 4 1 3)
def cPlaceAt := ctrVal 69 [legK, .one K] placeFs placeV placeBs
def cPlaceR := ctrVal 71 [legK, .one K] placeFs placeV placeBs
theorem place_bs {ρ : Env} (hg : ρ.g = gF) (hF : holds ρ placeFs) : ∀ e ∈ placeBs, e.B ρ = true := by
  simp only [placeFs, wideB, btw, List.cons_append, List.nil_append, holds, List.mem_cons, List.not_mem_nil, or_false, forall_eq_or_imp, forall_eq, B_le, I_c, I_v, decide_eq_true_eq] at hF
  have b1 := plx_between (lo := true) (a := ρ.i 0) (b := ρ.i 2) (st := ρ.i 4) (ar := ρ.i 5) (t := ρ.i 8) (m := -16777216) (M := 1073741824) (by omega) (by omega) (by omega)
  have b2 := plx_between (lo := true) (a := ρ.i 1) (b := ρ.i 3) (st := ρ.i 4) (ar := ρ.i 5) (t := ρ.i 8) (m := -16777216) (M := 1073741824) (by omega) (by omega) (by omega)
  have b3 := plx_between (lo := false) (a := ρ.i 0) (b := ρ.i 2) (st := ρ.i 4) (ar := ρ.i 5) (t := ρ.i 8) (m := -16777216) (M := 1073741824) (by omega) (by omega) (by omega)
  have b4 := plx_between (lo := false) (a := ρ.i 1) (b := ρ.i 3) (st := ρ.i 4) (ar := ρ.i 5) (t := ρ.i 8) (m := -16777216) (M := 1073741824) (by omega) (by omega) (by omega)
  simp [placeBs, bound, plE, apps, vs, hg, gF, nI_0, nI_1, nI_2, nI_3, nI_4]
  omega
theorem placeAt_ok (u : Fit TT) : CtrOk TT Try.prog cPlaceAt := ctrVal_ok rfl fun ρ w hF hT hR => by
  have hg := (u.tab hT).1
  have hbs := place_bs hg hF
  refine pat_calls (Γ := { calls := [cRdn, cRup] }) (by simpa using ⟨rdn_ok u.open, rup_ok u.open⟩) 400 [legK, .one K] placeFs
    [⟨(.val (.tup (.cons (.agg (.cons (.i .i64 (.v 2)) (.cons (.i .i64 (.v 3)) .nil))) (.cons (.agg (.cons (.i .i64 (.v 2)) (.cons (.i .i64 (.v 3)) .nil))) .nil)))), [(.le (.v 5) (.v 8)), (.le (.c (-16777216)) (.v 0)), (.le (.v 0) (.c 1073741824)), (.le (.c (-16777216)) (.v 1)), (.le (.v 1) (.c 1073741824)), (.le (.c (-16777216)) (.v 2)), (.le (.v 2) (.c 1073741824)), (.le (.c (-16777216)) (.v 3)), (.le (.v 3) (.c 1073741824)), (.le (.c (-16777216)) (.v 4)), (.le (.v 4) (.c 1073741824)), (.le (.c (-16777216)) (.v 5)), (.le (.v 5) (.c 1073741824)), (.le (.c (-16777216)) (.v 8)), (.le (.v 8) (.c 1073741824)), (.le (.v 4) (.v 8))], []⟩,
⟨(.must (.le (.c 1) (.sub (.v 5) (.v 4)))), [(.lt (.v 8) (.v 5)), (.le (.c (-16777216)) (.v 0)), (.le (.v 0) (.c 1073741824)), (.le (.c (-16777216)) (.v 1)), (.le (.v 1) (.c 1073741824)), (.le (.c (-16777216)) (.v 2)), (.le (.v 2) (.c 1073741824)), (.le (.c (-16777216)) (.v 3)), (.le (.v 3) (.c 1073741824)), (.le (.c (-16777216)) (.v 4)), (.le (.v 4) (.c 1073741824)), (.le (.c (-16777216)) (.v 5)), (.le (.v 5) (.c 1073741824)), (.le (.c (-16777216)) (.v 8)), (.le (.v 8) (.c 1073741824)), (.le (.v 4) (.v 8))], []⟩,
⟨(.val (.tup (.cons (.agg (.cons (.i .i64 (.add (.v 0) (.app 1 (.cons (.mul (.sub (.v 2) (.v 0)) (.sub (.v 8) (.v 4))) (.cons (.sub (.v 5) (.v 4)) .nil))))) (.cons (.i .i64 (.add (.v 1) (.app 1 (.cons (.mul (.sub (.v 3) (.v 1)) (.sub (.v 8) (.v 4))) (.cons (.sub (.v 5) (.v 4)) .nil))))) .nil))) (.cons (.agg (.cons (.i .i64 (.add (.v 0) (.app 2 (.cons (.mul (.sub (.v 2) (.v 0)) (.sub (.v 8) (.v 4))) (.cons (.sub (.v 5) (.v 4)) .nil))))) (.cons (.i .i64 (.add (.v 1) (.app 2 (.cons (.mul (.sub (.v 3) (.v 1)) (.sub (.v 8) (.v 4))) (.cons (.sub (.v 5) (.v 4)) .nil))))) .nil))) .nil)))), [(.le (.c (-4611686018427387904)) (.app 2 (.cons (.mul (.sub (.v 3) (.v 1)) (.sub (.v 8) (.v 4))) (.cons (.sub (.v 5) (.v 4)) .nil)))), (.le (.app 2 (.cons (.mul (.sub (.v 3) (.v 1)) (.sub (.v 8) (.v 4))) (.cons (.sub (.v 5) (.v 4)) .nil))) (.c 4611686018427387904)), (.le (.c (-4611686018427387904)) (.app 2 (.cons (.mul (.sub (.v 2) (.v 0)) (.sub (.v 8) (.v 4))) (.cons (.sub (.v 5) (.v 4)) .nil)))), (.le (.app 2 (.cons (.mul (.sub (.v 2) (.v 0)) (.sub (.v 8) (.v 4))) (.cons (.sub (.v 5) (.v 4)) .nil))) (.c 4611686018427387904)), (.le (.c (-4611686018427387904)) (.app 1 (.cons (.mul (.sub (.v 3) (.v 1)) (.sub (.v 8) (.v 4))) (.cons (.sub (.v 5) (.v 4)) .nil)))), (.le (.app 1 (.cons (.mul (.sub (.v 3) (.v 1)) (.sub (.v 8) (.v 4))) (.cons (.sub (.v 5) (.v 4)) .nil))) (.c 4611686018427387904)), (.le (.c (-4611686018427387904)) (.app 1 (.cons (.mul (.sub (.v 2) (.v 0)) (.sub (.v 8) (.v 4))) (.cons (.sub (.v 5) (.v 4)) .nil)))), (.le (.app 1 (.cons (.mul (.sub (.v 2) (.v 0)) (.sub (.v 8) (.v 4))) (.cons (.sub (.v 5) (.v 4)) .nil))) (.c 4611686018427387904)), (.le (.c 1) (.sub (.v 5) (.v 4))), (.lt (.v 8) (.v 5)), (.le (.c (-16777216)) (.v 0)), (.le (.v 0) (.c 1073741824)), (.le (.c (-16777216)) (.v 1)), (.le (.v 1) (.c 1073741824)), (.le (.c (-16777216)) (.v 2)), (.le (.v 2) (.c 1073741824)), (.le (.c (-16777216)) (.v 3)), (.le (.v 3) (.c 1073741824)), (.le (.c (-16777216)) (.v 4)), (.le (.v 4) (.c 1073741824)), (.le (.c (-16777216)) (.v 5)), (.le (.v 5) (.c 1073741824)), (.le (.c (-16777216)) (.v 8)), (.le (.v 8) (.c 1073741824)), (.le (.v 4) (.v 8))], []⟩] (by kernel_rfl) ρ w hF hT hR ⟨?_, ?_, ?_⟩ (u.J w)
  all_goals
    intro ρ' w' hx _ hF hb _
    have hg' : ρ'.g = gF := by rw [hx.g]; exact hg
    have e0 : ρ'.i 0 = ρ.i 0 := hx.i 0 (by decide)
    have e1 : ρ'.i 1 = ρ.i 1 := hx.i 1 (by decide)
    have e2 : ρ'.i 2 = ρ.i 2 := hx.i 2 (by decide)
    have e3 : ρ'.i 3 = ρ.i 3 := hx.i 3 (by decide)
    have e4 : ρ'.i 4 = ρ.i 4 := hx.i 4 (by decide)
    have e5 : ρ'.i 5 = ρ.i 5 := hx.i 5 (by decide)
    have e8 : ρ'.i 8 = ρ.i 8 := hx.i 8 (by decide)
    simp only [holds, List.mem_cons, List.not_mem_nil, or_false, forall_eq_or_imp, forall_eq, B_le, B_lt, I_mul, I_sub, I_c, I_v, I_app, L_cons, L_nil, decide_eq_true_eq, e0, e1, e2, e3, e4, e5, e8] at hF ⊢
  · exact ⟨⟨by simp [placeV, plE, apps, vs, V.ofL, den_tup, den_agg, dens_cons, dens_nil, den_i, e2, e3, hg, gF, nI_0, nI_1, nI_2, nI_3, nI_4, plx, if_pos hF.1], hbs⟩, hb⟩
  · omega
  · have hn : ¬ ρ.i 5 ≤ ρ.i 8 := by omega
    exact ⟨⟨by simp [placeV, plE, apps, vs, V.ofL, den_tup, den_agg, dens_cons, dens_nil, den_i, e0, e1, e2, e3, e4, e5, e8, hg, hg', gF, nI_0, nI_1, nI_2, nI_3, nI_4, plx, if_neg hn], hbs⟩, hb⟩
/-! the document's place -/
def partFs : List E := wideB 0 ++ wideB 1 ++ btw (-2147483648) 2 2147483648 ++ btw 1 3 2147483648
def partE (f : Nat) : E := .add (.v 0) (apps f [.mul (.sub (.v 1) (.v 0)) (.v 2), .v 3])
def partBs : List E := wide (apps 1 [.mul (.sub (.v 1) (.v 0)) (.v 2), .v 3]) ++ wide (apps 2 [.mul (.sub (.v 1) (.v 0)) (.v 2), .v 3])
def cPart := ctrVal 101 [.one K, .one K, .one K, .one K] partFs (.tup (V.ofL [.i .i64 (partE 1), .i .i64 (partE 2)])) partBs
theorem mul_wide {x y m n : Int} (h1 : -m ≤ x) (h2 : x ≤ m) (h3 : -n ≤ y) (h4 : y ≤ n) : -(m * n) ≤ x * y ∧ x * y ≤ m * n := by
  have h5 : (x.natAbs : Int) * y.natAbs ≤ m * n := Int.mul_le_mul (by omega) (by omega) (by omega) (by omega)
  have h6 : ((x * y).natAbs : Int) = (x.natAbs : Int) * y.natAbs := by rw [Int.natAbs_mul]; norm_cast
  omega
theorem rup_of_rem {a b : Int} (hb : 0 < b) : rup a b = if 0 < a % b then a / b + 1 else a / b := by
  unfold rup
  have h1 := Int.mul_ediv_add_emod a b
  have h2 := Int.emod_nonneg a (show b ≠ 0 by omega)
  have h3 := Int.emod_lt_of_pos a hb
  split
  · rename_i h
    have e : -a = (b - a % b) + b * (-(a / b) - 1) := by rw [Int.mul_sub, Int.mul_neg]; omega
    rw [e, Int.add_mul_ediv_left _ _ (by omega), Int.ediv_eq_zero_of_lt (by omega) (by omega)]
    omega
  · rename_i h
    have e : -a = 0 + b * (-(a / b)) := by rw [Int.mul_neg]; omega
    rw [e, Int.add_mul_ediv_left _ _ (by omega)]
    simp
theorem part_low {a b : Int} (hb : 0 < b) : (a.tmod b < 0 → a.tdiv b - 1 = rdn a b ∧ a.tdiv b = rup a b) ∧ (0 < a.tmod b → a.tdiv b = rdn a b ∧ a.tdiv b + 1 = rup a b) ∧ (a.tmod b = 0 → a.tdiv b = rdn a b ∧ a.tdiv b = rup a b) := by
  rw [rup_of_rem hb, Int.tmod_eq_emod, Int.tdiv_eq_ediv, Int.sign_eq_one_of_pos hb]
  unfold rdn
  have h1 := Int.emod_nonneg a (show b ≠ 0 by omega)
  have h2 := Int.emod_lt_of_pos a hb
  by_cases h : 0 ≤ a ∨ b ∣ a
  · simp only [h, if_true]
    have : (b.natAbs : Int) = b := by omega
    refine ⟨fun h => ?_, fun h => ?_, fun h => ?_⟩ <;> simp at h
    · omega
    · rw [if_pos (by omega)]; omega
    · rw [if_neg (by omega)]; omega
  · simp only [h, if_false]
    have h4 : a % b ≠ 0 := fun e => h (.inr (Int.dvd_of_emod_eq_zero e))
    have : (b.natAbs : Int) = b := by omega
    rw [if_pos (by omega)]
    refine ⟨fun h => ?_, fun h => ?_, fun h => ?_⟩ <;> omega
theorem part_ok (u : Fit TT) : CtrOk TT Try.prog cPart := ctrVal_ok rfl fun ρ w hF hT hR => by
  have hg := (u.tab hT).1
  have hF' := hF
  simp only [partFs, wideB, btw, List.cons_append, List.nil_append, holds, List.mem_cons, List.not_mem_nil, or_false, forall_eq_or_imp, forall_eq, B_le, I_c, I_v, decide_eq_true_eq] at hF
  obtain ⟨m1, m2⟩ := mul_wide (x := ρ.i 1 - ρ.i 0) (y := ρ.i 2) (m := 2147483648) (n := 2147483648) (by omega) (by omega) (by omega) (by omega)
  have r1 := rdn_wide (a := (ρ.i 1 - ρ.i 0) * ρ.i 2) (b := ρ.i 3) (by omega) (by omega) (by omega)
  have r2 := rup_wide (a := (ρ.i 1 - ρ.i 0) * ρ.i 2) (b := ρ.i 3) (by omega) (by omega) (by omega)
  have hbs : ∀ e ∈ partBs, e.B ρ = true := by
    simp [partBs, wide, apps, hg, gF, nI_0, nI_1]; omega
  obtain ⟨p1, p2, p3⟩ := part_low (a := (ρ.i 1 - ρ.i 0) * ρ.i 2) (b := ρ.i 3) (by omega)
  refine pat_calls (Γ := {}) (by simp) 400 [.one K, .one K, .one K, .one K] partFs
    [⟨(.val (.tup (.cons (.i .i64 (.sub (.add (.v 0) (.quo (.mul (.sub (.v 1) (.v 0)) (.v 2)) (.v 3))) (.c 1))) (.cons (.i .i64 (.add (.v 0) (.quo (.mul (.sub (.v 1) (.v 0)) (.v 2)) (.v 3)))) .nil)))), [(.lt (.rem (.mul (.sub (.v 1) (.v 0)) (.v 2)) (.v 3)) (.c 0)), (.le (.c (-16777216)) (.v 0)), (.le (.v 0) (.c 1073741824)), (.le (.c (-16777216)) (.v 1)), (.le (.v 1) (.c 1073741824)), (.le (.c (-2147483648)) (.v 2)), (.le (.v 2) (.c 2147483648)), (.le (.c 1) (.v 3)), (.le (.v 3) (.c 2147483648))], []⟩,
⟨(.val (.tup (.cons (.i .i64 (.add (.v 0) (.quo (.mul (.sub (.v 1) (.v 0)) (.v 2)) (.v 3)))) (.cons (.i .i64 (.add (.add (.v 0) (.quo (.mul (.sub (.v 1) (.v 0)) (.v 2)) (.v 3))) (.c 1))) .nil)))), [(.lt (.c 0) (.rem (.mul (.sub (.v 1) (.v 0)) (.v 2)) (.v 3))), (.le (.c 0) (.rem (.mul (.sub (.v 1) (.v 0)) (.v 2)) (.v 3))), (.le (.c (-16777216)) (.v 0)), (.le (.v 0) (.c 1073741824)), (.le (.c (-16777216)) (.v 1)), (.le (.v 1) (.c 1073741824)), (.le (.c (-2147483648)) (.v 2)), (.le (.v 2) (.c 2147483648)), (.le (.c 1) (.v 3)), (.le (.v 3) (.c 2147483648))], []⟩,
⟨(.val (.tup (.cons (.i .i64 (.add (.v 0) (.quo (.mul (.sub (.v 1) (.v 0)) (.v 2)) (.v 3)))) (.cons (.i .i64 (.add (.v 0) (.quo (.mul (.sub (.v 1) (.v 0)) (.v 2)) (.v 3)))) .nil)))), [(.le (.rem (.mul (.sub (.v 1) (.v 0)) (.v 2)) (.v 3)) (.c 0)), (.le (.c 0) (.rem (.mul (.sub (.v 1) (.v 0)) (.v 2)) (.v 3))), (.le (.c (-16777216)) (.v 0)), (.le (.v 0) (.c 1073741824)), (.le (.c (-16777216)) (.v 1)), (.le (.v 1) (.c 1073741824)), (.le (.c (-2147483648)) (.v 2)), (.le (.v 2) (.c 2147483648)), (.le (.c 1) (.v 3)), (.le (.v 3) (.c 2147483648))], []⟩] (by kernel_rfl) ρ w hF' hT hR ⟨?_, ?_, ?_⟩ (u.J w)
  all_goals
    intro ρ' w' hx _ hF hb _
    have e0 : ρ'.i 0 = ρ.i 0 := hx.i 0 (by decide)
    have e1 : ρ'.i 1 = ρ.i 1 := hx.i 1 (by decide)
    have e2 : ρ'.i 2 = ρ.i 2 := hx.i 2 (by decide)
    have e3 : ρ'.i 3 = ρ.i 3 := hx.i 3 (by decide)
    simp only [holds, List.mem_cons, List.not_mem_nil, or_false, forall_eq_or_imp, forall_eq, B_le, B_lt, I_mul, I_sub, I_rem, I_c, I_v, decide_eq_true_eq, e0, e1, e2, e3] at hF ⊢
    refine ⟨⟨?_, hbs⟩, hb⟩
    simp only [partE, apps, V.ofL, den_tup, dens_cons, dens_nil, den_i, List.foldr, e0, e1, e2, e3, hg, gF, nI_0, nI_1, I_add, I_mul, I_sub, I_quo, I_c, I_v, I_app, L_cons, L_nil]
  · rw [← (p1 hF.1).1, ← (p1 hF.1).2, Int.add_sub_assoc]
  · rw [← (p2 hF.1).1, ← (p2 hF.1).2, Int.add_assoc]
  · rw [← (p3 (by omega)).1, ← (p3 (by omega)).2]
theorem placeR_ok (u : Fit TT) : CtrOk TT Try.prog cPlaceR := ctrVal_ok rfl fun ρ w hF hT hR => by
  have hg := (u.tab hT).1
  have hbs := place_bs hg hF
  refine pat_calls (Γ := { calls := [cPart] }) (by simpa using part_ok u.open) 400 [legK, .one K] placeFs
    [⟨(.val (.tup (.cons (.agg (.cons (.i .i64 (.v 2)) (.cons (.i .i64 (.v 3)) .nil))) (.cons (.agg (.cons (.i .i64 (.v 2)) (.cons (.i .i64 (.v 3)) .nil))) .nil)))), [(.le (.v 5) (.v 8)), (.le (.c (-16777216)) (.v 0)), (.le (.v 0) (.c 1073741824)), (.le (.c (-16777216)) (.v 1)), (.le (.v 1) (.c 1073741824)), (.le (.c (-16777216)) (.v 2)), (.le (.v 2) (.c 1073741824)), (.le (.c (-16777216)) (.v 3)), (.le (.v 3) (.c 1073741824)), (.le (.c (-16777216)) (.v 4)), (.le (.v 4) (.c 1073741824)), (.le (.c (-16777216)) (.v 5)), (.le (.v 5) (.c 1073741824)), (.le (.c (-16777216)) (.v 8)), (.le (.v 8) (.c 1073741824)), (.le (.v 4) (.v 8))], []⟩,
⟨(.must (.le (.c 1) (.sub (.v 5) (.v 4)))), [(.lt (.v 8) (.v 5)), (.le (.c (-16777216)) (.v 0)), (.le (.v 0) (.c 1073741824)), (.le (.c (-16777216)) (.v 1)), (.le (.v 1) (.c 1073741824)), (.le (.c (-16777216)) (.v 2)), (.le (.v 2) (.c 1073741824)), (.le (.c (-16777216)) (.v 3)), (.le (.v 3) (.c 1073741824)), (.le (.c (-16777216)) (.v 4)), (.le (.v 4) (.c 1073741824)), (.le (.c (-16777216)) (.v 5)), (.le (.v 5) (.c 1073741824)), (.le (.c (-16777216)) (.v 8)), (.le (.v 8) (.c 1073741824)), (.le (.v 4) (.v 8))], []⟩,
⟨(.val (.tup (.cons (.agg (.cons (.i .i64 (.add (.v 0) (.app 1 (.cons (.mul (.sub (.v 2) (.v 0)) (.sub (.v 8) (.v 4))) (.cons (.sub (.v 5) (.v 4)) .nil))))) (.cons (.i .i64 (.add (.v 1) (.app 1 (.cons (.mul (.sub (.v 3) (.v 1)) (.sub (.v 8) (.v 4))) (.cons (.sub (.v 5) (.v 4)) .nil))))) .nil))) (.cons (.agg (.cons (.i .i64 (.add (.v 0) (.app 2 (.cons (.mul (.sub (.v 2) (.v 0)) (.sub (.v 8) (.v 4))) (.cons (.sub (.v 5) (.v 4)) .nil))))) (.cons (.i .i64 (.add (.v 1) (.app 2 (.cons (.mul (.sub (.v 3) (.v 1)) (.sub (.v 8) (.v 4))) (.cons (.sub (.v 5) (.v 4)) .nil))))) .nil))) .nil)))), [(.le (.c (-4611686018427387904)) (.app 1 (.cons (.mul (.sub (.v 3) (.v 1)) (.sub (.v 8) (.v 4))) (.cons (.sub (.v 5) (.v 4)) .nil)))), (.le (.app 1 (.cons (.mul (.sub (.v 3) (.v 1)) (.sub (.v 8) (.v 4))) (.cons (.sub (.v 5) (.v 4)) .nil))) (.c 4611686018427387904)), (.le (.c (-4611686018427387904)) (.app 2 (.cons (.mul (.sub (.v 3) (.v 1)) (.sub (.v 8) (.v 4))) (.cons (.sub (.v 5) (.v 4)) .nil)))), (.le (.app 2 (.cons (.mul (.sub (.v 3) (.v 1)) (.sub (.v 8) (.v 4))) (.cons (.sub (.v 5) (.v 4)) .nil))) (.c 4611686018427387904)), (.le (.c (-4611686018427387904)) (.app 1 (.cons (.mul (.sub (.v 2) (.v 0)) (.sub (.v 8) (.v 4))) (.cons (.sub (.v 5) (.v 4)) .nil)))), (.le (.app 1 (.cons (.mul (.sub (.v 2) (.v 0)) (.sub (.v 8) (.v 4))) (.cons (.sub (.v 5) (.v 4)) .nil))) (.c 4611686018427387904)), (.le (.c (-4611686018427387904)) (.app 2 (.cons (.mul (.sub (.v 2) (.v 0)) (.sub (.v 8) (.v 4))) (.cons (.sub (.v 5) (.v 4)) .nil)))), (.le (.app 2 (.cons (.mul (.sub (.v 2) (.v 0)) (.sub (.v 8) (.v 4))) (.cons (.sub (.v 5) (.v 4)) .nil))) (.c 4611686018427387904)), (.le (.c 1) (.sub (.v 5) (.v 4))), (.lt (.v 8) (.v 5)), (.le (.c (-16777216)) (.v 0)), (.le (.v 0) (.c 1073741824)), (.le (.c (-16777216)) (.v 1)), (.le (.v 1) (.c 1073741824)), (.le (.c (-16777216)) (.v 2)), (.le (.v 2) (.c 1073741824)), (.le (.c (-16777216)) (.v 3)), (.le (.v 3) (.c 1073741824)), (.le (.c (-16777216)) (.v 4)), (.le (.v 4) (.c 1073741824)), (.le (.c (-16777216)) (.v 5)), (.le (.v 5) (.c 1073741824)), (.le (.c (-16777216)) (.v 8)), (.le (.v 8) (.c 1073741824)), (.le (.v 4) (.v 8))], []⟩] (by kernel_rfl) ρ w hF hT hR ⟨?_, ?_, ?_⟩ (u.J w)
  all_goals
    intro ρ' w' hx _ hF hb _
    have hg' : ρ'.g = gF := by rw [hx.g]; exact hg
    have e0 : ρ'.i 0 = ρ.i 0 := hx.i 0 (by decide)
    have e1 : ρ'.i 1 = ρ.i 1 := hx.i 1 (by decide)
    have e2 : ρ'.i 2 = ρ.i 2 := hx.i 2 (by decide)
    have e3 : ρ'.i 3 = ρ.i 3 := hx.i 3 (by decide)
    have e4 : ρ'.i 4 = ρ.i 4 := hx.i 4 (by decide)
    have e5 : ρ'.i 5 = ρ.i 5 := hx.i 5 (by decide)
    have e8 : ρ'.i 8 = ρ.i 8 := hx.i 8 (by decide)
    simp only [holds, List.mem_cons, List.not_mem_nil, or_false, forall_eq_or_imp, forall_eq, B_le, B_lt, I_mul, I_sub, I_c, I_v, I_app, L_cons, L_nil, decide_eq_true_eq, e0, e1, e2, e3, e4, e5, e8] at hF ⊢
  · exact ⟨⟨by simp [placeV, plE, apps, vs, V.ofL, den_tup, den_agg, dens_cons, dens_nil, den_i, e2, e3, hg, gF, nI_0, nI_1, nI_2, nI_3, nI_4, plx, if_pos hF.1], hbs⟩, hb⟩
  · omega
  · have hn : ¬ ρ.i 5 ≤ ρ.i 8 := by omega
    exact ⟨⟨by simp [placeV, plE, apps, vs, V.ofL, den_tup, den_agg, dens_cons, dens_nil, den_i, e0, e1, e2, e3, e4, e5, e8, hg, hg', gF, nI_0, nI_1, nI_2, nI_3, nI_4, plx, if_neg hn], hbs⟩, hb⟩
end Go.Proofs.Ytmbhjfembfidnaa.Un
end
section
namespace Go.Proofs.Ytmbhjfembfidnaa.Un
open Go Go.Proofs.Ytmbhjfembfidnaa.Sx Go.RowKit
variable {TT : Tb}

def ints (n : Nat) : List Kd := List.replicate n (.i .i64)
def rowK (n : Nat) : AK := .one (.row (ints n))
/-- at most so many elements. -/
def nL (k : Nat) : List E := [.le (.v k) (.c 1000000)]
def nthF (s : Nat) (xs j : E) (k : Nat) : E := .nthI xs (if s = 1 then j else if k = 0 then .mul j (.c s) else .add (.mul j (.c s)) (.c k))
def instVs (s : Nat) (xs j : E) : List V := (List.range s).map fun k => .i .i64 (nthF s xs j k)
def instF (s : Nat) (atoms : List E) (xs j : E) : List E := atoms.map (E.subst 0 ((instVs s xs j).map (V.asE [])))
theorem getD_map_asE {s : Nat} {xs j : E} {k : Nat} (hk : k < s) : ((instVs s xs j).map (V.asE [])).getD k (.c 0) = nthF s xs j k := by
  simp [instVs, List.getD, hk, V.asE]
theorem nthF_I {ρ : Env} {s : Nat} {xs j : E} {k : Nat} (_hj : 0 ≤ j.I ρ) (hk : k < s) : (nthF s xs j k).I ρ = nI (xs.L ρ) (s * j.I ρ + k) := by
  unfold nthF
  by_cases h1 : s = 1
  · subst h1
    have : k = 0 := by omega
    subst this
    simp [nI]
  · rw [if_neg h1]
    split
    · rename_i h; subst h; simp only [I_nthI, I_mul, I_c, nI, Int.mul_comm]; simp
    · simp only [I_nthI, I_add, I_mul, I_c, nI, Int.mul_comm]
theorem compI_nthF (s : Nat) (xs j : E) (k : Nat) : compI (nthF s xs j k) = nthF s xs j k := rfl
/-- Atoms over numbers alone, below a bound. -/
def E.plain (s : Nat) : E → Bool
  | .c _ | .tt | .ff => true
  | .v k => decide (k < s)
  | .add a b | .sub a b | .lt a b | .le a b | .eq a b | .and a b | .or a b => E.plain s a && E.plain s b
  | .not a => E.plain s a
  | _ => false
theorem plain_den {s : Nat} {ρ ρ' : Env} (h : ∀ k, k < s → ρ.i k = ρ'.i k) : ∀ {e : E}, E.plain s e = true → e.den ρ = e.den ρ' := by
  intro e
  induction e <;> intro hp <;> simp only [E.plain, Bool.and_eq_true, decide_eq_true_eq, Bool.false_eq_true] at hp <;> simp only [E.den] <;> simp_all
theorem inst_all {ρ : Env} {s : Nat} {atoms : List E} (hp : (atoms.all (E.plain s)) = true) {xs j : E} (hj : 0 ≤ j.I ρ) : allE ρ (instF s atoms xs j) = atB s atoms (xs.L ρ) (j.I ρ) := by
  unfold instF atB allE
  rw [List.all_map]
  rw [Bool.eq_iff_iff]
  simp only [List.all_eq_true, Function.comp] at hp ⊢
  have key : ∀ a ∈ atoms, (E.subst 0 ((instVs s xs j).map (V.asE [])) a).B ρ = a.B (envAt s (xs.L ρ) (j.I ρ)) := fun a ha => by
    rw [subst_B]
    refine congrArg D.b (plain_den (s := s) (fun k hk => ?_) (hp a ha))
    have hg := getD_map_asE (s := s) (xs := xs) (j := j) hk
    simp only [Env.assign, Nat.zero_le, if_true, Nat.sub_zero, hg, compI_nthF, nthF_I hj hk, envAt]
  exact ⟨fun h a ha => by rw [← key a ha]; exact h a ha, fun h a ha => by rw [key a ha]; exact h a ha⟩
theorem sp_of (u : Fit TT) {h s : Nat} {atoms : List E} (hp : (atoms.all (E.plain s)) = true) (hh : ∀ l, hF h l = allTo (nI l 0) (atB s atoms (l.drop 1))) : SpOk TT ⟨h, instF s atoms⟩ := fun ρ hT =>
  ⟨fun k l => atB s atoms l k, fun e xs => by rw [B_happ, (u.tab hT).2, hh]; rfl, fun _ _ hj => inst_all hp hj⟩
/-- a list's elements are in a range, if each is. -/
theorem allr_of {s : Nat} (hs : 0 < s) {atoms : List E} {l : LL} {n : Int} (hn : 0 ≤ n) (hl : l.length = n.toNat * s) (h : allTo n (atB s atoms l) = true) {lo hi : Int}
    (hr : ∀ ρ : Env, allE ρ atoms = true → ∀ k, k < s → lo ≤ ρ.i k ∧ ρ.i k ≤ hi) : (l.all fun p => decide (lo ≤ p.1 ∧ p.1 ≤ hi)) = true := by
  rw [List.all_eq_true]
  intro p hp
  obtain ⟨i, hi, rfl⟩ := List.getElem_of_mem hp
  have hq : i / s < n.toNat := by rw [hl, Nat.mul_comm] at hi; exact Nat.div_lt_of_lt_mul hi
  have h1 := allTo_at h (k := ((i / s : Nat) : Int)) (Int.natCast_nonneg _) (by rw [← Int.toNat_of_nonneg hn]; exact Int.ofNat_lt.2 hq)
  have h2 := hr _ h1 (i % s) (Nat.mod_lt _ hs)
  have e : (envAt s l ((i / s : Nat) : Int)).i (i % s) = l[i].1 := by
    show nI l ((s : Int) * ((i / s : Nat) : Int) + ((i % s : Nat) : Int)) = _
    have : ((s : Int) * ((i / s : Nat) : Int) + ((i % s : Nat) : Int)).toNat = i := by
      have := Nat.div_add_mod i s
      have h3 : ((s : Int) * ((i / s : Nat) : Int) + ((i % s : Nat) : Int)) = ((s * (i / s) + i % s : Nat) : Int) := by push_cast; rfl
      rw [h3]; omega
    unfold nI
    rw [this, List.getElem?_eq_getElem hi]
    rfl
  rw [e] at h2
  simpa using h2

def spFront : AllSp := ⟨4, instF 8 frontA⟩
def spWay : AllSp := ⟨5, instF 3 wayA⟩
def spLeg : AllSp := ⟨2, instF 8 legA⟩
def spSpot : AllSp := ⟨6, instF 2 (spotA 0)⟩
def spTime : AllSp := ⟨8, instF 1 (timeA 0)⟩
theorem spFront_ok (u : Fit TT) : SpOk TT spFront := sp_of u (by decide) fun _ => rfl
theorem spWay_ok (u : Fit TT) : SpOk TT spWay := sp_of u (by decide) fun _ => rfl
theorem spLeg_ok (u : Fit TT) : SpOk TT spLeg := sp_of u (by decide) fun _ => rfl
def allL (key t h : Nat) : LoopSpec := { key := key, locs := [.t t (.i .i64)], facts := fun n => [.le (.c 0) (.v n), .le (.v n) (.v 0), .le (.v n) (.c 1000000), .happ h (.cons (.v n) (.lv 0))], meas := fun n => .sub (.v 0) (.v n) }
def nN (k : Nat) : List E := .le (.c 0) (.v k) :: nL k
theorem nN_of {ρ : Env} {w : World} {aks : List AK} (hR : RowsAt ρ w aks) {k : Nat} {kds : List Kd} (hk : (k, rowL k kds) ∈ rowsL 0 (ksOf aks)) (h : holds ρ (nL k)) : holds ρ (nN k) := fun e he => by
  rcases List.mem_cons.1 he with rfl | he
  · simpa using (row_facts hR hk).1
  · exact h e he
def allr0 : E := .allr (-16777216) 1073741824 (.lv 0)
def both (atoms facts : List E) : List (V × List E) := [(.b .tt, atoms ++ facts), (.b .ff, [.not (conjE atoms)])]
theorem both_of {P : Program} {f : FuncId} {aks : List AK} {atoms facts : List E} {ρ : Env} {w : World} (h : Calls P f (arr ρ (patAs 0 aks)) w fun e w' => e = .returned (.bool (allE ρ atoms)) ∧ Below w.heap.size w w')
    (hf : allE ρ atoms = true → ∀ e ∈ facts, e.B ρ = true) : CasesAt P f aks (both atoms facts) ρ w := by
  refine h.mono fun e w' ⟨h1, h2⟩ => ⟨?_, h2⟩
  cases ha : allE ρ atoms with
  | true =>
    refine ⟨_, List.mem_cons_self, by rw [h1, ha]; rfl, fun a hm => ?_⟩
    rcases List.mem_append.1 hm with hm | hm
    · exact (List.all_eq_true.1 ha) a hm
    · exact hf ha a hm
  | false =>
    refine ⟨_, List.mem_cons_of_mem _ List.mem_cons_self, by rw [h1, ha]; rfl, fun a hm => ?_⟩
    cases List.mem_singleton.1 hm
    rw [B_not, conjE_B, ha]; rfl
theorem allE_mem {ρ : Env} {l : List E} (h : allE ρ l = true) {a : E} (ha : a ∈ l) : a.B ρ = true := (List.all_eq_true.1 h) a ha

/-! weather -/
def skyA : List E := [.le (.v 0) (.c 100), .happ 4 (.cons (.v 0) (.lv 0))]
def cCheckWeather := ctrCases 22 [rowK 8] (nL 0) (both skyA [allr0])
def cCheckWeatherR := ctrCases 23 [rowK 8] (nL 0) (both skyA [allr0])
theorem range_end {ρ : Env} (u : UTab ρ.g ρ.h ρ.k ρ.m) {s : Nat} (hs : 0 < s) {w : World} (hR : RowsAt ρ w [rowK s]) {atoms : List E} {h : Nat} (hh : ∀ l, hF h l = allTo (nI l 0) (atB s atoms (l.drop 1)))
    (hr : ∀ ρ : Env, allE ρ atoms = true → ∀ k, k < s → -16777216 ≤ ρ.i k ∧ ρ.i k ≤ 1073741824) (ha : (E.happ h (.cons (.v 0) (.lv 0))).B ρ = true) : allr0.B ρ = true := by
  obtain ⟨h0, h1⟩ := row_facts hR (k := 0) (kds := ints s) (by simp [ksOf, rowK, AK.ks, rowsL])
  rw [B_happ, u.2, hh] at ha
  simp only [allr0, B_allr, L_lv]
  exact allr_of hs h0 (by rw [h1]; simp [ints]) (l := ρ.l 0) (by simpa [nI_0] using ha) hr
theorem sky_rng (ρ : Env) (h : allE ρ frontA = true) (k : Nat) (hk : k < 8) : -16777216 ≤ ρ.i k ∧ ρ.i k ≤ 1073741824 := by
  simp [allE, frontA, timeA, spotA, btw] at h
  match k, hk with
  | 0, _ | 1, _ | 2, _ | 3, _ | 4, _ | 5, _ | 6, _ | 7, _ => omega
theorem CheckWeather_ok (u : Fit TT) : CtrOk TT Try.prog cCheckWeather := ctrCases_ok rfl fun ρ w hF hT hR =>
  both_of (conj_calls (Γ := { calls := [cIsFront], loops := [allL 2 9 4] }) (by simpa using isFront_ok u.open.J) (decideL_ok (decideH_ok (S := [spFront]) (by simpa using spFront_ok u))) (gas := 400) (F := nN 0) (by kernel_rfl) ρ w (nN_of hR (k := 0) (kds := ints 8) (by simp [ksOf, rowK, AK.ks, rowsL]) hF) hT hR (u.J w)) fun ha e he => by
    cases List.mem_singleton.1 he
    exact range_end (u.tab hT) (s := 8) (by omega) hR (h := 4) (fun _ => rfl) sky_rng (allE_mem ha (by simp [skyA]))
theorem CheckWeatherR_ok (u : Fit TT) : CtrOk TT Try.prog cCheckWeatherR := ctrCases_ok rfl fun ρ w hF hT hR =>
  both_of (conj_calls (Γ := { calls := [cPlace], loops := [allL 2 3 4] }) (by simpa using place_ok u.open.J) (decideL_ok (decideH_ok (S := [spFront]) (by simpa using spFront_ok u))) (gas := 400) (F := nN 0) (by kernel_rfl) ρ w (nN_of hR (k := 0) (kds := ints 8) (by simp [ksOf, rowK, AK.ks, rowsL]) hF) hT hR (u.J w)) fun ha e he => by
    cases List.mem_singleton.1 he
    exact range_end (u.tab hT) (s := 8) (by omega) hR (h := 4) (fun _ => rfl) sky_rng (allE_mem ha (by simp [skyA]))

/-! ways of a route -/
def wayAll : List E := [.happ 5 (.cons (.v 0) (.lv 0))]
def cAllWays := ctrCases 62 [rowK 3, .one (.lit (.fn (.func 63) .nil .nil))] (nL 0) (both wayAll [allr0])
def cWays := ctrCases 65 [rowK 3] (nL 0) (both wayAll [allr0])
theorem way_rng (ρ : Env) (h : allE ρ wayA = true) (k : Nat) (hk : k < 3) : -16777216 ≤ ρ.i k ∧ ρ.i k ≤ 1073741824 := by
  simp [allE, wayA, timeA, spotA, btw] at h
  match k, hk with
  | 0, _ | 1, _ | 2, _ => omega
theorem rowIn (n : Nat) (l : List AK) : (0, rowL 0 (ints n)) ∈ rowsL 0 (ksOf (rowK n :: l)) := by simp [ksOf, rowK, AK.ks, rowsL]
theorem RowsAt.first {ρ : Env} {w : World} {n : Nat} {l : List AK} (h : RowsAt ρ w (rowK n :: l)) : RowsAt ρ w [rowK n] := fun p hp => by
  have : p = (0, rowL 0 (ints n)) := by simpa [ksOf, rowK, AK.ks, rowsL] using hp
  rw [this]
  exact h _ (rowIn n l)
theorem allWays_ok (u : Fit TT) : CtrOk TT Try.prog cAllWays := ctrCases_ok rfl fun ρ w hF hT hR =>
  both_of (conj_calls (Γ := { calls := [cIsWay], loops := [allL 2 9 5] }) (by simpa using isWay_ok u.open.J) (decideL_ok (decideH_ok (S := [spWay]) (by simpa using spWay_ok u))) (gas := 400) (F := nN 0) (by kernel_rfl) ρ w (nN_of hR (rowIn 3 _) hF) hT hR (u.J w)) fun ha e he => by
    cases List.mem_singleton.1 he
    exact range_end (u.tab hT) (s := 3) (by omega) (RowsAt.first hR) (h := 5) (fun _ => rfl) way_rng (allE_mem ha (by simp [wayAll]))
theorem ways_ok (u : Fit TT) : CtrOk TT Try.prog cWays := ctrCases_ok rfl fun ρ w hF hT hR =>
  both_of (conj_calls (Γ := { calls := [cPlace], loops := [allL 2 3 5] }) (by simpa using place_ok u.open.J) (decideL_ok (decideH_ok (S := [spWay]) (by simpa using spWay_ok u))) (gas := 400) (F := nN 0) (by kernel_rfl) ρ w (nN_of hR (rowIn 3 _) hF) hT hR (u.J w)) fun ha e he => by
    cases List.mem_singleton.1 he
    exact range_end (u.tab hT) (s := 3) (by omega) hR (h := 5) (fun _ => rfl) way_rng (allE_mem ha (by simp [wayAll]))

/-! legs -/
def nthP (xs j : E) (k : Nat) : E := nthF 8 xs (.sub j (.c 1)) k
def instC (xs j : E) : List E := [.or (.eq j (.c 0)) (.and (.and (.eq (nthF 8 xs j 0) (nthP xs j 2)) (.eq (nthF 8 xs j 1) (nthP xs j 3))) (.eq (nthF 8 xs j 4) (nthP xs j 6)))]
def spCont : AllSp := ⟨3, instC⟩
def legsA : List E := [.lt (.c 0) (.v 0), .happ 2 (.cons (.v 0) (.lv 0)), .happ 3 (.cons (.v 0) (.lv 0))]
def legsL (key t : Nat) : LoopSpec := { key := key, locs := [.t t (.i .i64)], facts := fun n => [.le (.c 0) (.v n), .le (.v n) (.v 0), .le (.v n) (.c 1000000), .happ 2 (.cons (.v n) (.lv 0)), .happ 3 (.cons (.v n) (.lv 0))], meas := fun n => .sub (.v 0) (.v n) }
theorem contB_inst {ρ : Env} (xs j : E) (hj : 0 ≤ j.I ρ) : allE ρ (instC xs j) = contB (xs.L ρ) (j.I ρ) := by
  by_cases h0 : j.I ρ = 0
  · simp [allE, instC, contB, h0]
  · simp only [allE, instC, List.all_cons, List.all_nil, Bool.and_true, B_or, B_eq, B_and, I_c, nthP, contB]
    rw [nthF_I hj (by omega), nthF_I hj (by omega), nthF_I hj (by omega), nthF_I (j := .sub j (.c 1)) (by simp; omega) (by omega), nthF_I (j := .sub j (.c 1)) (by simp; omega) (by omega), nthF_I (j := .sub j (.c 1)) (by simp; omega) (by omega)]
    simp
theorem spCont_ok (u : Fit TT) : SpOk TT spCont := fun ρ hT =>
  ⟨fun k l => contB l k, fun e xs => by rw [B_happ]; simp only [spCont]; rw [(u.tab hT).2]; rfl, fun _ _ hj => contB_inst _ _ hj⟩
theorem leg_rng (ρ : Env) (h : allE ρ legA = true) (k : Nat) (hk : k < 8) : -16777216 ≤ ρ.i k ∧ ρ.i k ≤ 1073741824 := by
  simp [allE, legA, timeA, spotA, btw] at h
  match k, hk with
  | 0, _ | 1, _ | 2, _ | 3, _ | 4, _ | 5, _ | 6, _ | 7, _ => omega
def cLegsR := ctrCases 41 [rowK 8] (nL 0) (both legsA [allr0])
def cAreLegs := ctrCases 67 [rowK 8] (nL 0) (both legsA [allr0])
theorem refLegs_ok (u : Fit TT) : CtrOk TT Try.prog cLegsR := ctrCases_ok rfl fun ρ w hF hT hR =>
  both_of (conj_calls (Γ := { calls := [cPlace], loops := [legsL 2 3] }) (by simpa using place_ok u.open.J) (decideL_ok (decideH_ok (S := [spLeg, spCont]) (by simpa using ⟨spLeg_ok u, spCont_ok u⟩))) (gas := 400) (F := nN 0) (by kernel_rfl) ρ w (nN_of hR (rowIn 8 _) hF) hT hR (u.J w)) fun ha e he => by
    cases List.mem_singleton.1 he
    exact range_end (u.tab hT) (s := 8) (by omega) hR (h := 2) (fun _ => rfl) leg_rng (allE_mem ha (by simp [legsA]))
theorem nI_eq (xs : LL) (i : Int) : ((xs[i.toNat]?).map Prod.fst).getD 0 = nI xs i := rfl
theorem lsub_nth {l : LL} {b a i : Int} (hl : (l.length : Int) ≤ b) (ha : 0 ≤ a) (hi : 0 ≤ i) : (Option.map Prod.fst ((l.take b.toNat).drop a.toNat)[i.toNat]?).getD 0 = nI l (a + i) := by
  rw [List.take_of_length_le (by omega), List.getElem?_drop]
  unfold nI
  rw [show (a + i).toNat = a.toNat + i.toNat from by omega]
def contL : LoopSpec := { key := 4, locs := [.t 16 (.i .i64)], facts := fun n => [.le (.c 0) (.v n), .le (.add (.v n) (.c 1)) (.v 0), .le (.v n) (.c 1000000), .happ 3 (.cons (.add (.v n) (.c 1)) (.lv 0))], meas := fun n => .sub (.v 0) (.v n) }
theorem cont_next {l : LL} {i : Int} (hi : 0 ≤ i) : contB l (i + 1) = (decide (nI l (8 + i * 8) = nI l (i * 8 + 2)) && decide (nI l (8 + (i * 8 + 1)) = nI l (i * 8 + 3)) && decide (nI l (8 + (i * 8 + 4)) = nI l (i * 8 + 6))) := by
  unfold contB
  have h : decide (i + 1 = 0) = false := by simp; omega
  rw [h, Bool.false_or]
  have e1 : 8 * (i + 1) = 8 + i * 8 := by omega
  have e2 : 8 + i * 8 + 1 = 8 + (i * 8 + 1) := by omega
  have e3 : 8 + i * 8 + 4 = 8 + (i * 8 + 4) := by omega
  have e4 : 8 * (i + 1 - 1) = i * 8 := by omega
  rw [e1, e2, e3, e4]
theorem areLegs_calls (u : Fit TT) (ρ : Env) (w : World) (hF : holds ρ (nL 0)) (hT : TT.tab ρ.g ρ.h ρ.k ρ.m) (hR : RowsAt ρ w [rowK 8]) : Calls Try.prog 67 (arr ρ (patAs 0 [rowK 8])) w fun e w' => e = .returned (.bool (allE ρ legsA)) ∧ Below w.heap.size w w' := by
  have hh := (u.tab hT).2
  obtain ⟨n0, hlen⟩ := row_facts hR (rowIn 8 [])
  have hlen' : ((ρ.l 0).length : Int) ≤ ρ.i 0 * 8 := by rw [hlen]; simp [ints]; omega
  have hd : allE ρ legsA = (decide (0 < ρ.i 0) && allTo (ρ.i 0) (legB (ρ.l 0)) && allTo (ρ.i 0) (contB (ρ.l 0))) := by
    simp [allE, legsA, hh, hF_2, hF_3, nI_0, Bool.and_assoc]
  refine conj_rest (decideL_ok (decideH_ok (S := [spLeg, spCont]) (by simpa using ⟨spLeg_ok u, spCont_ok u⟩))) (Γ := { calls := [cIsLeg], loops := [allL 2 9 2, contL] }) (by simpa using isLeg_ok u.open.J) 400 [rowK 8] (nN 0) legsA (by decide)
    [⟨(.val (.b .ff)), [(.not (.and (.eq (.nthI (.lsub (.lv 0) (.c 8) (.mul (.v 0) (.c 8))) (.mul (.v 13) (.c 8))) (.nthI (.lv 0) (.add (.mul (.v 13) (.c 8)) (.c 2)))) (.eq (.nthI (.lsub (.lv 0) (.c 8) (.mul (.v 0) (.c 8))) (.add (.mul (.v 13) (.c 8)) (.c 1))) (.nthI (.lv 0) (.add (.mul (.v 13) (.c 8)) (.c 3)))))), (.lt (.v 13) (.v 0)), (.lt (.v 13) (.sub (.v 0) (.c 1))), (.le (.c 0) (.v 13)), (.le (.add (.v 13) (.c 1)) (.v 0)), (.le (.v 13) (.c 1000000)), (.happ 3 (.cons (.add (.v 13) (.c 1)) (.lv 0))), (.le (.c 1) (.v 0)), (.le (.v 0) (.v 1)), (.le (.c 0) (.v 1)), (.le (.v 1) (.v 0)), (.le (.v 1) (.c 1000000)), (.happ 2 (.cons (.v 1) (.lv 0))), (.not (.eq (.v 0) (.c 0))), (.le (.c 0) (.v 0)), (.le (.v 0) (.c 1000000))], []⟩,
⟨(.val (.b .ff)), [(.not (.eq (.nthI (.lsub (.lv 0) (.c 8) (.mul (.v 0) (.c 8))) (.add (.mul (.v 13) (.c 8)) (.c 4))) (.nthI (.lv 0) (.add (.mul (.v 13) (.c 8)) (.c 6))))), (.eq (.nthI (.lsub (.lv 0) (.c 8) (.mul (.v 0) (.c 8))) (.mul (.v 13) (.c 8))) (.nthI (.lv 0) (.add (.mul (.v 13) (.c 8)) (.c 2)))), (.eq (.nthI (.lsub (.lv 0) (.c 8) (.mul (.v 0) (.c 8))) (.add (.mul (.v 13) (.c 8)) (.c 1))) (.nthI (.lv 0) (.add (.mul (.v 13) (.c 8)) (.c 3)))), (.lt (.v 13) (.v 0)), (.lt (.v 13) (.sub (.v 0) (.c 1))), (.le (.c 0) (.v 13)), (.le (.add (.v 13) (.c 1)) (.v 0)), (.le (.v 13) (.c 1000000)), (.happ 3 (.cons (.add (.v 13) (.c 1)) (.lv 0))), (.le (.c 1) (.v 0)), (.le (.v 0) (.v 1)), (.le (.c 0) (.v 1)), (.le (.v 1) (.v 0)), (.le (.v 1) (.c 1000000)), (.happ 2 (.cons (.v 1) (.lv 0))), (.not (.eq (.v 0) (.c 0))), (.le (.c 0) (.v 0)), (.le (.v 0) (.c 1000000))], []⟩,
⟨(.must (.happ 3 (.cons (.add (.add (.v 13) (.c 1)) (.c 1)) (.lv 0)))), [(.eq (.nthI (.lsub (.lv 0) (.c 8) (.mul (.v 0) (.c 8))) (.add (.mul (.v 13) (.c 8)) (.c 4))) (.nthI (.lv 0) (.add (.mul (.v 13) (.c 8)) (.c 6)))), (.eq (.nthI (.lsub (.lv 0) (.c 8) (.mul (.v 0) (.c 8))) (.mul (.v 13) (.c 8))) (.nthI (.lv 0) (.add (.mul (.v 13) (.c 8)) (.c 2)))), (.eq (.nthI (.lsub (.lv 0) (.c 8) (.mul (.v 0) (.c 8))) (.add (.mul (.v 13) (.c 8)) (.c 1))) (.nthI (.lv 0) (.add (.mul (.v 13) (.c 8)) (.c 3)))), (.lt (.v 13) (.v 0)), (.lt (.v 13) (.sub (.v 0) (.c 1))), (.le (.c 0) (.v 13)), (.le (.add (.v 13) (.c 1)) (.v 0)), (.le (.v 13) (.c 1000000)), (.happ 3 (.cons (.add (.v 13) (.c 1)) (.lv 0))), (.le (.c 1) (.v 0)), (.le (.v 0) (.v 1)), (.le (.c 0) (.v 1)), (.le (.v 1) (.v 0)), (.le (.v 1) (.c 1000000)), (.happ 2 (.cons (.v 1) (.lv 0))), (.not (.eq (.v 0) (.c 0))), (.le (.c 0) (.v 0)), (.le (.v 0) (.c 1000000))], []⟩] (by kernel_rfl) ρ w (nN_of hR (rowIn 8 _) hF) hT hR ⟨?_, ?_, ?_⟩ (u.J w)
  all_goals
    intro ρ' w' hx _ hF hb _
    have hh' : ρ'.h = Un.hF := by rw [hx.h]; exact hh
    have e0 : ρ'.i 0 = ρ.i 0 := hx.i 0 (by decide)
    have l0 : ρ'.l 0 = ρ.l 0 := hx.l 0 (by decide)
    simp only [holds, List.mem_cons, List.not_mem_nil, or_false, forall_eq_or_imp, forall_eq, B_le, B_lt, B_eq, B_and, B_not, B_happ, I_add, I_mul, I_sub, I_c, I_v, I_nthI, L_cons, L_lv, L_lsub, decide_eq_true_eq, Bool.not_eq_true', decide_eq_false_iff_not, e0, l0, hh', hF_3, nI_0, List.drop_succ_cons, List.drop_zero] at hF ⊢
    have k0 : 0 ≤ ρ'.i 13 := by omega
    have N := fun (i : Int) (hi : 0 ≤ i) => lsub_nth (a := 8) (i := i) hlen' (by omega) hi
    repeat rw [N _ (by omega)] at hF
    simp only [nI_eq] at hF
  · refine ⟨?_, hb⟩
    rw [hd, allTo_not (k := ρ'.i 13 + 1) (p := contB (ρ.l 0)) (by omega) (by omega) (by
      rw [cont_next k0]
      have h1 := hF.1
      rw [Bool.and_eq_false_iff] at h1
      rcases h1 with h1 | h1 <;> simp [of_decide_eq_false h1]), Bool.and_false]; rfl
  · refine ⟨?_, hb⟩
    rw [hd, allTo_not (k := ρ'.i 13 + 1) (p := contB (ρ.l 0)) (by omega) (by omega) (by rw [cont_next k0, decide_eq_false hF.1, Bool.and_false]), Bool.and_false]; rfl
  · rw [allTo_succ (by omega), hF.2.2.2.2.2.2.2.2.1, Bool.true_and, cont_next k0]
    simp [hF.1, hF.2.1, hF.2.2.1]
theorem areLegs_ok (u : Fit TT) : CtrOk TT Try.prog cAreLegs := ctrCases_ok rfl fun ρ w hF hT hR =>
  both_of (areLegs_calls u ρ w hF hT hR) fun ha e he => by
    cases List.mem_singleton.1 he
    exact range_end (u.tab hT) (s := 8) (by omega) hR (h := 2) (fun _ => rfl) leg_rng (allE_mem ha (by simp [legsA]))
end Go.Proofs.Ytmbhjfembfidnaa.Un
end
section
namespace Go.Proofs.Ytmbhjfembfidnaa.Un
open Go Go.Proofs.Ytmbhjfembfidnaa.Sx Go.RowKit
variable {TT : Tb}

theorem okC {TT : Tb} {a : Ctr} {P : Program} (h : CtrOk TT P a) : ∀ q ∈ [a], CtrOk TT P q := by simpa using h
/-- the leg at the time t of the legs at n. -/
def ixF (n t : Nat) : E := .app 7 (.cons (.v n) (.cons (.v t) (.lv n)))
def legF (n t k : Nat) : E := nthF 8 (.lv n) (ixF n t) k
def ixE : E := ixF 0 1
def legAE (k : Nat) : E := legF 0 1 k
def validA : List E := legsA
def hereF (n t : Nat) : List E := [.le (.c 0) (ixF n t), .lt (ixF n t) (.v n), .le (legF n t 4) (.v t), .le (.v t) (legF n t 6), .le (.c 0) (.v t), .le (.v t) (.c 1073741824)]
def hereA : List E := hereF 0 1
def legAtV : V := .tup (V.ofL [.agg (V.ofL ((List.range 8).map fun k => .i .i64 (legAE k))), .b .tt])
def legNoV : V := .tup (V.ofL [.agg (V.ofL ((List.range 8).map fun _ => .i .i64 (.c 0))), .b .ff])
def legAtCs : List (V × List E) := [(legAtV, hereA), (legNoV, [.lt ixE (.c 0)])]
def byCs : List (V × List E) := [(.i .i64 ixE, hereA), (.i .i64 (.c (-1)), [.lt ixE (.c 0)])]
def i64A (k : Nat) : List E := btw (-9223372036854775808) k 9223372036854775807
def cLegAt := ctrCases 68 [rowK 8, .one K] (nL 0 ++ validA ++ [allr0]) legAtCs
def cBy := ctrCases 70 [rowK 8, .one K] (nL 0 ++ validA ++ [allr0]) byCs
/-- all of the first n legs are over before a time. -/
def instO : E → E → List E
  | .cons t l, j => [.lt (nthF 8 l j 6) t]
  | xs, j => [.lt (.nthI xs (.add (.mul j (.c 8)) (.c 7))) (.nthI xs (.c 0))]
def spOver : AllSp := ⟨9, instO⟩
def overL (key t : Nat) : LoopSpec := { key := key, locs := [.t t (.i .i64)], facts := fun n => [.le (.c 0) (.v n), .le (.v n) (.v 0), .le (.v n) (.c 1000000), .happ 9 (.cons (.v n) (.cons (.v 1) (.lv 0)))], meas := fun n => .sub (.v 0) (.v n) }
theorem over_iff {t n : Int} {l : LL} : hF 9 ((n, ⟨#[]⟩) :: (t, ⟨#[]⟩) :: l) = allTo n fun k => decide (nI l (8 * k + 6) < t) := rfl
theorem legIx_here {n t : Int} {l : LL} {i : Int} (h0 : 0 ≤ i) (hi : i < n) (hs : nI l 4 ≤ t) (ht : t ≤ nI l (8 * i + 6)) (ho : allTo i (fun k => decide (nI l (8 * k + 6) < t)) = true) : legIx n t l = i := by
  unfold legIx
  rw [if_neg (by omega)]
  refine firstB_is h0 hi (by simpa using ht) ?_
  refine allTo_of fun k k0 k1 => ?_
  have := allTo_at ho k0 k1
  simp at this ⊢; omega
theorem legIx_early {n t : Int} {l : LL} (hs : t < nI l 4) : legIx n t l = -1 := by unfold legIx; rw [if_pos hs]
theorem legIx_late {n t : Int} {l : LL} (ho : allTo n (fun k => decide (nI l (8 * k + 6) < t)) = true) : legIx n t l = -1 := by
  unfold legIx
  split
  · rfl
  · refine firstB_none (allTo_of fun k k0 k1 => ?_)
    have := allTo_at ho k0 k1
    simp at this ⊢; omega
theorem leg_time {l : LL} {k : Int} (h : legB l k = true) : 0 ≤ nI l (8 * k + 4) ∧ nI l (8 * k + 6) ≤ 1073741824 := by
  simp [legB, atB, allE, legA, timeA, spotA, btw, envAt] at h
  omega
theorem here_start {n t : Int} {l : LL} {i : Int} (hc : allTo n (contB l) = true) (h0 : 0 ≤ i) (hi : i < n) (hs : nI l 4 ≤ t) (ho : allTo i (fun k => decide (nI l (8 * k + 6) < t)) = true) : nI l (8 * i + 4) ≤ t := by
  rcases Int.lt_or_le 0 i with h | h
  · have h1 := allTo_at hc h0 hi
    have h2 := allTo_at ho (k := i - 1) (by omega) (by omega)
    unfold contB at h1
    simp at h1 h2
    rcases h1 with h1 | h1
    · omega
    · rw [h1.2]; omega
  · have : i = 0 := by omega
    subst this
    simpa using hs
theorem ix_I {ρ : Env} (hg : ρ.g = gF) : ixE.I ρ = legIx (ρ.i 0) (ρ.i 1) (ρ.l 0) := by
  simp only [ixE, ixF, I_app, hg, L_cons, L_lv, I_v]; rfl
theorem nI_drop1 (l : LL) {i : Int} (h : 0 ≤ i) : nI (l.drop 1) i = nI l (i + 1) := by
  unfold nI
  rw [List.getElem?_drop, show (i + 1).toNat = 1 + i.toNat from by omega]
theorem spOver_ok (u : Fit TT) : SpOk TT spOver := fun ρ hT =>
  ⟨fun k l => decide (nI (l.drop 1) (8 * k + 6) < nI l 0), fun e xs => by
    rw [B_happ]; simp only [spOver]; rw [(u.tab hT).2]; rfl, fun xs j hj => by
    have gen : allE ρ [.lt (.nthI xs (.add (.mul j (.c 8)) (.c 7))) (.nthI xs (.c 0))] = decide (nI ((xs.L ρ).drop 1) (8 * j.I ρ + 6) < nI (xs.L ρ) 0) := by
      rw [nI_drop1 _ (by omega)]
      simp [allE, nI, Int.mul_comm, Int.add_assoc]
    cases xs with
    | cons t l =>
      show allE ρ [.lt (nthF 8 l j 6) t] = _
      simp only [allE, List.all_cons, List.all_nil, Bool.and_true, B_lt, nthF_I hj (show 6 < 8 by omega)]
      rfl
    | _ => exact gen⟩
theorem legAt_ok (u : Fit TT) : CtrOk TT Try.prog cLegAt := ctrCases_ok rfl fun ρ w hF hT hR => by
  have hg := (u.tab hT).1
  have hh := (u.tab hT).2
  have hF0 := hF
  have hN : holds ρ (nN 0 ++ validA ++ [allr0]) := fun e he => by
    rcases List.mem_append.1 he with he | he
    · rcases List.mem_append.1 he with he | he
      · exact nN_of hR (rowIn 8 _) (fun x hx => hF x (by simp [hx])) e he
      · exact hF e (by simp [he])
    · exact hF e (by simp [he])
  have hL : allTo (ρ.i 0) (legB (ρ.l 0)) = true := by have := hF (.happ 2 (.cons (.v 0) (.lv 0))) (by simp [validA, legsA]); simpa [hh, hF_2, nI_0] using this
  have hC : allTo (ρ.i 0) (contB (ρ.l 0)) = true := by have := hF (.happ 3 (.cons (.v 0) (.lv 0))) (by simp [validA, legsA]); simpa [hh, hF_3, nI_0] using this
  refine cases_rest (decideN_ok (decideL_ok (decideH_ok (S := [spOver]) (by simpa using spOver_ok u)))) (Γ := { loops := [overL 2 8] }) (by simp) 400 [rowK 8, .one K] (nN 0 ++ validA ++ [allr0]) legAtCs (by decide)
    [⟨(.val (.tup (.cons (.agg (.cons (.i .i64 (.c 0)) (.cons (.i .i64 (.c 0)) (.cons (.i .i64 (.c 0)) (.cons (.i .i64 (.c 0)) (.cons (.i .i64 (.c 0)) (.cons (.i .i64 (.c 0)) (.cons (.i .i64 (.c 0)) (.cons (.i .i64 (.c 0)) .nil))))))))) (.cons (.b .ff) .nil)))), [(.lt (.v 1) (.nthI (.lv 0) (.c 4))), (.le (.v 1) (.nthI (.lv 0) (.add (.mul (.v 4) (.c 8)) (.c 6)))), (.lt (.v 4) (.v 0)), (.le (.c 0) (.v 4)), (.le (.v 4) (.v 0)), (.le (.v 4) (.c 1000000)), (.happ 9 (.cons (.v 4) (.cons (.v 1) (.lv 0)))), (.le (.c 0) (.v 0)), (.le (.v 0) (.c 1000000)), (.lt (.c 0) (.v 0)), (.happ 2 (.cons (.v 0) (.lv 0))), (.happ 3 (.cons (.v 0) (.lv 0))), (.allr (-16777216) 1073741824 (.lv 0))], []⟩,
⟨(.val (.tup (.cons (.agg (.cons (.i .i64 (.nthI (.lv 0) (.mul (.v 4) (.c 8)))) (.cons (.i .i64 (.nthI (.lv 0) (.add (.mul (.v 4) (.c 8)) (.c 1)))) (.cons (.i .i64 (.nthI (.lv 0) (.add (.mul (.v 4) (.c 8)) (.c 2)))) (.cons (.i .i64 (.nthI (.lv 0) (.add (.mul (.v 4) (.c 8)) (.c 3)))) (.cons (.i .i64 (.nthI (.lv 0) (.add (.mul (.v 4) (.c 8)) (.c 4)))) (.cons (.i .i64 (.nthI (.lv 0) (.add (.mul (.v 4) (.c 8)) (.c 5)))) (.cons (.i .i64 (.nthI (.lv 0) (.add (.mul (.v 4) (.c 8)) (.c 6)))) (.cons (.i .i64 (.nthI (.lv 0) (.add (.mul (.v 4) (.c 8)) (.c 7)))) .nil))))))))) (.cons (.b .tt) .nil)))), [(.le (.nthI (.lv 0) (.c 4)) (.v 1)), (.le (.v 1) (.nthI (.lv 0) (.add (.mul (.v 4) (.c 8)) (.c 6)))), (.lt (.v 4) (.v 0)), (.le (.c 0) (.v 4)), (.le (.v 4) (.v 0)), (.le (.v 4) (.c 1000000)), (.happ 9 (.cons (.v 4) (.cons (.v 1) (.lv 0)))), (.le (.c 0) (.v 0)), (.le (.v 0) (.c 1000000)), (.lt (.c 0) (.v 0)), (.happ 2 (.cons (.v 0) (.lv 0))), (.happ 3 (.cons (.v 0) (.lv 0))), (.allr (-16777216) 1073741824 (.lv 0))], []⟩,
⟨(.val (.tup (.cons (.agg (.cons (.i .i64 (.c 0)) (.cons (.i .i64 (.c 0)) (.cons (.i .i64 (.c 0)) (.cons (.i .i64 (.c 0)) (.cons (.i .i64 (.c 0)) (.cons (.i .i64 (.c 0)) (.cons (.i .i64 (.c 0)) (.cons (.i .i64 (.c 0)) .nil))))))))) (.cons (.b .ff) .nil)))), [(.le (.v 0) (.v 4)), (.le (.c 0) (.v 4)), (.le (.v 4) (.v 0)), (.le (.v 4) (.c 1000000)), (.happ 9 (.cons (.v 4) (.cons (.v 1) (.lv 0)))), (.le (.c 0) (.v 0)), (.le (.v 0) (.c 1000000)), (.lt (.c 0) (.v 0)), (.happ 2 (.cons (.v 0) (.lv 0))), (.happ 3 (.cons (.v 0) (.lv 0))), (.allr (-16777216) 1073741824 (.lv 0))], []⟩] (by kernel_rfl) ρ w hN hT hR ⟨?_, ?_, ?_⟩ (u.J w)
  all_goals
    intro ρ' w' hx _ hF hb _
    have e0 : ρ'.i 0 = ρ.i 0 := hx.i 0 (by decide)
    have e1 : ρ'.i 1 = ρ.i 1 := hx.i 1 (by decide)
    have l0 : ρ'.l 0 = ρ.l 0 := hx.l 0 (by decide)
    have hh' : ρ'.h = Un.hF := by rw [hx.h]; exact hh
    simp only [holds, List.mem_cons, List.not_mem_nil, or_false, forall_eq_or_imp, forall_eq, B_le, B_lt, B_happ, I_add, I_mul, I_c, I_v, I_nthI, L_cons, L_lv, decide_eq_true_eq, e0, e1, l0, hh', nI_eq] at hF ⊢
    refine ⟨?_, hb⟩
  · refine ⟨_, List.mem_cons_of_mem _ List.mem_cons_self, rfl, fun a ha => ?_⟩
    cases List.mem_singleton.1 ha
    simp only [B_lt, I_c, ix_I hg, legIx_early hF.1]; rfl
  · have ho : allTo (ρ'.i 4) (fun k => decide (nI (ρ.l 0) (8 * k + 6) < ρ.i 1)) = true := hF.2.2.2.2.2.2.1
    have h6 : ρ.i 1 ≤ nI (ρ.l 0) (8 * ρ'.i 4 + 6) := by rw [Int.mul_comm]; exact hF.2.1
    have hix : ixE.I ρ = ρ'.i 4 := by rw [ix_I hg]; exact legIx_here (by omega) (by omega) hF.1 h6 ho
    have hs := here_start hC (i := ρ'.i 4) (by omega) (by omega) hF.1 ho
    have ht := leg_time (allTo_at hL (k := ρ'.i 4) (by omega) (by omega))
    have h4 : (legAE 4).I ρ = nI (ρ.l 0) (8 * ρ'.i 4 + 4) := by rw [legAE, legF, nthF_I (by exact (by omega : 0 ≤ ixE.I ρ)) (by omega), show (ixF 0 1).I ρ = _ from hix]; rfl
    have h6' : (legAE 6).I ρ = nI (ρ.l 0) (8 * ρ'.i 4 + 6) := by rw [legAE, legF, nthF_I (by exact (by omega : 0 ≤ ixE.I ρ)) (by omega), show (ixF 0 1).I ρ = _ from hix]; rfl
    refine ⟨_, List.mem_cons_self, ?_, ?_⟩
    · have hix' : (ixF 0 1).I ρ = _ := hix
      simp only [legAtV, legAE, legF, nthF, V.ofL, List.range, List.range.loop, List.map, den_tup, den_agg, dens_cons, dens_nil, den_i, den_b, B_t, I_add, I_mul, I_c, I_v, I_nthI, L_lv, l0]
      simp [hix']
    · have hix' : (ixF 0 1).I ρ = _ := hix
      have h4' : (legF 0 1 4).I ρ = _ := h4
      have h6'' : (legF 0 1 6).I ρ = _ := h6'
      simp only [hereA, hereF, List.mem_cons, List.not_mem_nil, or_false, forall_eq_or_imp, forall_eq, B_le, B_lt, I_c, I_v, decide_eq_true_eq, hix', h4', h6'']
      omega
  · refine ⟨_, List.mem_cons_of_mem _ List.mem_cons_self, rfl, fun a ha => ?_⟩
    cases List.mem_singleton.1 ha
    have ho : allTo (ρ.i 0) (fun k => decide (nI (ρ.l 0) (8 * k + 6) < ρ.i 1)) = true := by
      have h := hF.2.2.2.2.1
      rw [show ρ'.i 4 = ρ.i 0 by omega] at h
      exact h
    simp only [B_lt, I_c, ix_I hg, legIx_late ho]; rfl
theorem by_ok (u : Fit TT) : CtrOk TT Try.prog cBy := ctrCases_ok rfl fun ρ w hF hT hR => by
  have hg := (u.tab hT).1
  have hh := (u.tab hT).2
  have hF0 := hF
  have hN : holds ρ (nN 0 ++ validA ++ [allr0]) := fun e he => by
    rcases List.mem_append.1 he with he | he
    · rcases List.mem_append.1 he with he | he
      · exact nN_of hR (rowIn 8 _) (fun x hx => hF x (by simp [hx])) e he
      · exact hF e (by simp [he])
    · exact hF e (by simp [he])
  have hL : allTo (ρ.i 0) (legB (ρ.l 0)) = true := by have := hF (.happ 2 (.cons (.v 0) (.lv 0))) (by simp [validA, legsA]); simpa [hh, hF_2, nI_0] using this
  have hC : allTo (ρ.i 0) (contB (ρ.l 0)) = true := by have := hF (.happ 3 (.cons (.v 0) (.lv 0))) (by simp [validA, legsA]); simpa [hh, hF_3, nI_0] using this
  refine cases_rest (decideN_ok (decideL_ok (decideH_ok (S := [spOver]) (by simpa using spOver_ok u)))) (Γ := { loops := [overL 4 5] }) (by simp) 400 [rowK 8, .one K] (nN 0 ++ validA ++ [allr0]) byCs (by decide)
    [⟨(.val (.i .i64 (.c (-1)))), [(.lt (.v 1) (.nthI (.lv 0) (.c 4))), (.le (.c 0) (.v 0)), (.le (.v 0) (.c 1000000)), (.lt (.c 0) (.v 0)), (.happ 2 (.cons (.v 0) (.lv 0))), (.happ 3 (.cons (.v 0) (.lv 0))), (.allr (-16777216) 1073741824 (.lv 0))], []⟩,
⟨(.val (.i .i64 (.v 2))), [(.le (.v 1) (.nthI (.lv 0) (.add (.mul (.v 2) (.c 8)) (.c 6)))), (.lt (.v 2) (.v 0)), (.le (.c 0) (.v 2)), (.le (.v 2) (.v 0)), (.le (.v 2) (.c 1000000)), (.happ 9 (.cons (.v 2) (.cons (.v 1) (.lv 0)))), (.le (.nthI (.lv 0) (.c 4)) (.v 1)), (.le (.c 0) (.v 0)), (.le (.v 0) (.c 1000000)), (.lt (.c 0) (.v 0)), (.happ 2 (.cons (.v 0) (.lv 0))), (.happ 3 (.cons (.v 0) (.lv 0))), (.allr (-16777216) 1073741824 (.lv 0))], []⟩,
⟨(.val (.i .i64 (.c (-1)))), [(.le (.v 0) (.v 2)), (.le (.c 0) (.v 2)), (.le (.v 2) (.v 0)), (.le (.v 2) (.c 1000000)), (.happ 9 (.cons (.v 2) (.cons (.v 1) (.lv 0)))), (.le (.nthI (.lv 0) (.c 4)) (.v 1)), (.le (.c 0) (.v 0)), (.le (.v 0) (.c 1000000)), (.lt (.c 0) (.v 0)), (.happ 2 (.cons (.v 0) (.lv 0))), (.happ 3 (.cons (.v 0) (.lv 0))), (.allr (-16777216) 1073741824 (.lv 0))], []⟩] (by kernel_rfl) ρ w hN hT hR ⟨?_, ?_, ?_⟩ (u.J w)
  all_goals
    intro ρ' w' hx _ hF hb _
    have e0 : ρ'.i 0 = ρ.i 0 := hx.i 0 (by decide)
    have e1 : ρ'.i 1 = ρ.i 1 := hx.i 1 (by decide)
    have l0 : ρ'.l 0 = ρ.l 0 := hx.l 0 (by decide)
    have hh' : ρ'.h = Un.hF := by rw [hx.h]; exact hh
    simp only [holds, List.mem_cons, List.not_mem_nil, or_false, forall_eq_or_imp, forall_eq, B_le, B_lt, B_happ, I_add, I_mul, I_c, I_v, I_nthI, L_cons, L_lv, decide_eq_true_eq, e0, e1, l0, hh', nI_eq] at hF ⊢
    refine ⟨?_, hb⟩
  · refine ⟨_, List.mem_cons_of_mem _ List.mem_cons_self, rfl, fun a ha => ?_⟩
    cases List.mem_singleton.1 ha
    simp only [B_lt, I_c, ix_I hg, legIx_early hF.1]; rfl
  · have ho : allTo (ρ'.i 2) (fun k => decide (nI (ρ.l 0) (8 * k + 6) < ρ.i 1)) = true := hF.2.2.2.2.2.1
    have h6 : ρ.i 1 ≤ nI (ρ.l 0) (8 * ρ'.i 2 + 6) := by rw [Int.mul_comm]; exact hF.1
    have hix : ixE.I ρ = ρ'.i 2 := by rw [ix_I hg]; exact legIx_here (by omega) (by omega) hF.2.2.2.2.2.2.1 h6 ho
    have hs := here_start hC (i := ρ'.i 2) (by omega) (by omega) hF.2.2.2.2.2.2.1 ho
    have ht := leg_time (allTo_at hL (k := ρ'.i 2) (by omega) (by omega))
    have h4 : (legAE 4).I ρ = nI (ρ.l 0) (8 * ρ'.i 2 + 4) := by rw [legAE, legF, nthF_I (by exact (by omega : 0 ≤ ixE.I ρ)) (by omega), show (ixF 0 1).I ρ = _ from hix]; rfl
    have h6' : (legAE 6).I ρ = nI (ρ.l 0) (8 * ρ'.i 2 + 6) := by rw [legAE, legF, nthF_I (by exact (by omega : 0 ≤ ixE.I ρ)) (by omega), show (ixF 0 1).I ρ = _ from hix]; rfl
    refine ⟨_, List.mem_cons_self, ?_, ?_⟩
    · simp only [den_i, hix, I_v]
    · have hix' : (ixF 0 1).I ρ = _ := hix
      have h4' : (legF 0 1 4).I ρ = _ := h4
      have h6'' : (legF 0 1 6).I ρ = _ := h6'
      simp only [hereA, hereF, List.mem_cons, List.not_mem_nil, or_false, forall_eq_or_imp, forall_eq, B_le, B_lt, I_c, I_v, decide_eq_true_eq, hix', h4', h6'']
      omega
  · refine ⟨_, List.mem_cons_of_mem _ List.mem_cons_self, rfl, fun a ha => ?_⟩
    cases List.mem_singleton.1 ha
    have ho : allTo (ρ.i 0) (fun k => decide (nI (ρ.l 0) (8 * k + 6) < ρ.i 1)) = true := by
      have h := hF.2.2.2.2.1
      rw [show ρ'.i 2 = ρ.i 0 by omega] at h
      exact h
    simp only [B_lt, I_c, ix_I hg, legIx_late ho]; rfl

/-! where a unit is, and what is left of its fuel -/
def zeroS : V := .agg (V.ofL [.i .i64 (.c 0), .i .i64 (.c 0)])
def plT (f a b : Nat) : E := apps f [legAE a, legAE b, legAE 4, legAE 5, .v 1]
def whereV : V := .tup (V.ofL [.agg (V.ofL [.i .i64 (plT 3 0 2), .i .i64 (plT 3 1 3)]), .agg (V.ofL [.i .i64 (plT 4 0 2), .i .i64 (plT 4 1 3)]), .i .i64 (.c 0)])
def whereB : List E := bound (plT 3 0 2) ++ bound (plT 3 1 3) ++ bound (plT 4 0 2) ++ bound (plT 4 1 3)
def errV (n : Int) : V := .tup (V.ofL [zeroS, zeroS, .i .i64 (.c n)])
def legsF : List E := legsA ++ [allr0]
def whereCs : List (V × List E) := [(whereV, legsF ++ hereA ++ whereB), (errV 7, legsF ++ [.lt ixE (.c 0)]), (errV 2, [.not (conjE legsA)])]
def cWhere := ctrCases 28 [rowK 8, .one K] (nL 0) whereCs
def cWhereR := ctrCases 29 [rowK 8, .one K] (nL 0) whereCs
abbrev DD : Dec := decideN decideB
theorem DD_ok : DecOk TT DD := decideN_ok decB_ok
theorem nN_at {ρ : Env} {w : World} {aks : List AK} (hR : RowsAt ρ w aks) {k : Nat} {kds : List Kd} (hk : (k, rowL k kds) ∈ rowsL 0 (ksOf aks)) {F G : List E} (h : holds ρ F) (hn : ∀ e ∈ G, e = .le (.c 0) (.v k) ∨ e ∈ F) : holds ρ G := fun e he => by
  rcases hn e he with rfl | h1
  · simpa using (row_facts hR hk).1
  · exact h e h1
theorem Where_ok (u : Fit TT) : CtrOk TT Try.prog cWhere := ctrCases_ok rfl fun ρ w hF hT hR =>
  cases_calls DD_ok (Γ := { calls := [cAreLegs, cLegAt, cPlaceAt] }) (by simpa using ⟨areLegs_ok u.open, legAt_ok u.open, placeAt_ok u.open⟩) (gas := 400) (F := nN 0) (by kernel_rfl) ρ w (nN_of hR (rowIn 8 _) hF) hT hR (u.J w)
theorem WhereR_ok (u : Fit TT) : CtrOk TT Try.prog cWhereR := ctrCases_ok rfl fun ρ w hF hT hR =>
  cases_calls DD_ok (Γ := { calls := [cLegsR, cBy, cPlaceR] }) (by simpa using ⟨refLegs_ok u.open, by_ok u.open, placeR_ok u.open⟩) (gas := 400) (F := nN 0) (by kernel_rfl) ρ w (nN_of hR (rowIn 8 _) hF) hT hR (u.J w)

/-! units: what is asked but of the name -/
def nameE (k : Nat) : E := .happ 0 (.cons (.sv k) .nil)
def nameCs (k : Nat) : List (V × List E) := both [nameE k] []
def cIsName := ctrCases 53 [.one KS] [.le (.len (.sv 0)) (.c 4611686018427387904)] (nameCs 0)
def cNameR := ctrCases 59 [.one KS] [.le (.len (.sv 0)) (.c 4611686018427387904)] (nameCs 0)
def unitF : List E := [.le (.len (.sv 0)) (.c 4611686018427387904)]
def cCheckUnit := ctrCases 20 [unitK] unitF (both unitA [])
def cCheckUnitR := ctrCases 21 [unitK] unitF (both unitA [])

/-! legs and units at other places of the arguments -/
def legsAt (n : Nat) : List E := [.lt (.c 0) (.v n), .happ 2 (.cons (.v n) (.lv n)), .happ 3 (.cons (.v n) (.lv n))]
def legsFt (n : Nat) : List E := legsAt n ++ [.allr (-16777216) 1073741824 (.lv n)]
def leftV : V := .tup (V.ofL [.i .i64 (apps 8 [legF 12 13 7, .v 3, legF 12 13 6, .v 13]), .i .i64 (.c 0)])
def errN (n : Int) : V := .tup (V.ofL [.i .i64 (.c 0), .i .i64 (.c n)])
def leftCs : List (V × List E) := [(leftV, unitA ++ legsFt 12 ++ hereF 12 13), (errN 7, unitA ++ legsFt 12 ++ [.lt (ixF 12 13) (.c 0)]), (errN 2, [.not (conjE (unitA ++ legsAt 12))])]
def lfF : List E := unitF ++ nL 12
def leftK : List AK := [unitK, rowK 8, .one K]
def cLeft := ctrCases 30 leftK lfF leftCs
def cLeftR := ctrCases 31 leftK lfF leftCs

/-! the way between two places -/
def wayA4 : List E := spotA 0 ++ spotA 2
def distCs : List (V × List E) := [(.tup (V.ofL [.i .i64 (four 0), .i .i64 (.c 0)]), wayA4 ++ wayB'), (errN 2, [.not (conjE wayA4)])]
def cDist := ctrCases 18 [spotK, spotK] [] distCs
def cDistR := ctrCases 19 [spotK, spotK] [] distCs
theorem Distance_ok (u : Fit TT) : CtrOk TT Try.prog cDist := ctrCases_ok rfl fun ρ w hF hT hR =>
  cases_calls DD_ok (Γ := { calls := [cIsSpot, cDistance] }) (by simpa using ⟨isSpot_ok u.open.J, distance_ok u.open⟩) (gas := 400) (by kernel_rfl) ρ w hF hT hR (u.J w)
theorem DistanceR_ok (u : Fit TT) : CtrOk TT Try.prog cDistR := ctrCases_ok rfl fun ρ w hF hT hR =>
  cases_calls DD_ok (Γ := { calls := [cPlace, cWay] }) (by simpa using ⟨place_ok u.open.J, refway_ok u.open⟩) (gas := 400) (by kernel_rfl) ρ w hF hT hR (u.J w)
theorem no_facts {ρ : Env} {atoms : List E} : allE ρ atoms = true → ∀ e ∈ ([] : List E), e.B ρ = true := fun _ _ h => by cases h
theorem CheckUnit_ok (u : Fit TT) (hn : CtrOk TT.open Try.prog cIsName) : CtrOk TT Try.prog cCheckUnit := ctrCases_ok rfl fun ρ w hF hT hR =>
  both_of (conj_calls (Γ := { calls := [cIsName] }) (by simpa using hn) decB_ok (gas := 400) (by kernel_rfl) ρ w hF hT hR (u.J w)) no_facts
def cIn := ctrConj 58 [.one K, .one K, .one K] [] [.le (.v 1) (.v 0), .le (.v 0) (.v 2)]
def cTimeR := ctrConj 48 [.one K] [] (timeA 0)
theorem in_ok (hJ : ∀ w, TT.J w) : CtrOk TT Try.prog cIn := auto_conj (Γ := {}) (by simp) 400 (by kernel_rfl) hJ
theorem timeR_ok (hJ : ∀ w, TT.J w) : CtrOk TT Try.prog cTimeR := auto_conj (Γ := {}) (by simp) 400 (by kernel_rfl) hJ
theorem CheckUnitR_ok (u : Fit TT) (hn : CtrOk TT.open Try.prog cNameR) : CtrOk TT Try.prog cCheckUnitR := ctrCases_ok rfl fun ρ w hF hT hR =>
  cases_calls DD_ok (Γ := { calls := [cNameR, cIn, cTimeR, cPlace] }) (by simpa using ⟨hn, in_ok u.open.J, timeR_ok u.open.J, place_ok u.open.J⟩) (gas := 400) (by kernel_rfl) ρ w hF hT hR (u.J w)
theorem lf_rows {ρ : Env} {w : World} (hR : RowsAt ρ w leftK) (h : holds ρ lfF) : holds ρ (.le (.c 0) (.v 12) :: lfF) :=
  nN_at hR (k := 12) (kds := ints 8) (by decide) h fun e he => by rcases List.mem_cons.1 he with h | h <;> simp [h]
theorem Left_ok (u : Fit TT) (hu : CtrOk TT.open Try.prog cCheckUnit) : CtrOk TT Try.prog cLeft := ctrCases_ok rfl fun ρ w hF hT hR =>
  cases_calls DD_ok (Γ := { calls := [cCheckUnit, cAreLegs, cLegAt, cLeftAt] }) (by simpa using ⟨hu, areLegs_ok u.open, legAt_ok u.open, leftAt_ok u.open⟩) (gas := 400) (F := .le (.c 0) (.v 12) :: lfF) (by kernel_rfl) ρ w (lf_rows hR hF) hT hR (u.J w)
def leftVR : V := .tup (V.ofL [.i .i64 (.add (legF 12 13 7) (.quo (.mul (.v 3) (.sub (legF 12 13 6) (.v 13))) (.c 3600))), .i .i64 (.c 0)])
def leftCsR : List (V × List E) := [(leftVR, unitA ++ legsFt 12 ++ hereF 12 13), (errN 7, unitA ++ legsFt 12 ++ [.lt (ixF 12 13) (.c 0)]), (errN 2, [.not (conjE (unitA ++ legsAt 12))])]
theorem leftVR_den {ρ : Env} (hg : ρ.g = gF) (h : ∀ a ∈ unitA ++ legsFt 12 ++ hereF 12 13, a.B ρ = true) : leftVR.den ρ = leftV.den ρ := by
  have h3 : 0 ≤ ρ.i 3 := by simpa using h (.le (.c 0) (.v 3)) (by simp [unitA, btw])
  have h6 := h (.le (.v 13) (legF 12 13 6)) (by simp [hereF])
  simp only [B_le, I_v, decide_eq_true_eq] at h6
  simp only [leftVR, leftV, V.ofL, den_tup, dens_cons, dens_nil, den_i, I_add, I_quo, I_mul, I_sub, I_c, I_v, apps, List.foldr, I_app, hg, L_cons, L_nil]
  rw [Int.tdiv_eq_ediv_of_nonneg (Int.mul_nonneg h3 (by omega))]
  rfl
theorem LeftR_ok (u : Fit TT) (hu : CtrOk TT.open Try.prog cCheckUnitR) : CtrOk TT Try.prog cLeftR := ctrCases_ok rfl fun ρ w hF hT hR => by
  refine (cases_calls DD_ok (Γ := { calls := [cCheckUnitR, cLegsR, cBy] }) (by simpa using ⟨hu, refLegs_ok u.open, by_ok u.open⟩) (gas := 400) (cases := leftCsR) (F := .le (.c 0) (.v 12) :: lfF) (by kernel_rfl) ρ w (lf_rows hR hF) hT hR (u.J w)).mono ?_
  rintro e w' ⟨⟨c, hc, he, hf⟩, hb⟩
  refine ⟨?_, hb⟩
  rcases List.mem_cons.1 hc with rfl | hc
  · exact ⟨_, List.mem_cons_self, by rw [he, leftVR_den (u.tab hT).1 hf], hf⟩
  · exact ⟨c, List.mem_cons_of_mem _ hc, he, hf⟩
end Go.Proofs.Ytmbhjfembfidnaa.Un
end
section
namespace Go.Proofs.Ytmbhjfembfidnaa.Un
open Go Go.Proofs.Ytmbhjfembfidnaa.Sx Go.RowKit
variable {TT : Tb}

def R8 : LK := .row (List.replicate 8 (.i .i64))
def tripK : AK := .ag [KS, K, K, K, K, K, K, K, K, K, K, K, R8, K, K, K, K, K]
def tripF : List E := btw 1 1 1000000 ++ btw 0 3 1048576 ++ spotA 8 ++ spotA 14 ++ btw 0 16 1073741824 ++ btw 0 17 1099511627776
def stepF : List E := tripF ++ spotA 18 ++ timeA 20
def tE : E := apps 5 (vs [1, 14, 15, 18, 19])
def aE : E := .add (.v 16) tE
def lE : E := .add aE (.v 20)
def fE : E := .sub (.v 17) (apps 6 [.v 3, .sub lE (.v 16)])
def hE : E := apps 5 (vs [1, 18, 19, 8, 9])
def bE : E := .add lE hE
def bfE : E := .sub fE (apps 6 [.v 3, .sub bE lE])
def iv (e : E) : V := .i .i64 e
def outLV : List V := [iv (.v 14), iv (.v 15), iv (.v 18), iv (.v 19), iv (.v 16), iv aE, iv lE, iv fE]
def backLV : List V := [iv (.v 18), iv (.v 19), iv (.v 8), iv (.v 9), iv lE, iv bE, iv bE, iv bfE]
def tripLV : List V := freshes 0 tripK.ks
def stepV : V := .agg (V.ofL (tripLV ++ outLV ++ backLV))
def homeV : V := .agg (V.ofL [iv (.v 14), iv (.v 15), iv (.v 8), iv (.v 9), iv (.v 16), iv (.add (.v 16) (apps 5 (vs [1, 14, 15, 8, 9]))), iv (.add (.v 16) (apps 5 (vs [1, 14, 15, 8, 9]))), iv (.sub (.v 17) (apps 6 [.v 3, .sub (.add (.v 16) (apps 5 (vs [1, 14, 15, 8, 9]))) (.v 16)]))])
def legK8 : AK := .ag [K, K, K, K, K, K, K, K]
def afterV : V := .agg (V.ofL (freshes 0 (tripK.ks.take 14) ++ [iv (.v 20), iv (.v 21), iv (.v 24), iv (.v 25)]))
abbrev DL : Dec := decideL2 decideB
/-- a trip whose weather is only handed on. -/
def tripS : AK := .ag [KS, K, K, K, K, K, K, K, K, K, K, K, .lit (.rsl 12), K, K, K, K, K]
def tripVS : List V := freshes 0 tripS.ks
def stepVS : V := .agg (V.ofL (tripVS ++ outLV ++ backLV))
def afterVS : V := .agg (V.ofL (freshes 0 (tripS.ks.take 14) ++ [iv (.v 20), iv (.v 21), iv (.v 24), iv (.v 25)]))
/-! why a unit cannot go on: of a step's 34 numbers -/
def meetE (a b c d : E) : E := .le (.ite (.lt a c) c a) (.ite (.lt d b) d b)
def stepK : AK := .ag [KS, K, K, K, K, K, K, K, K, K, K, K, R8, K, K, K, K, K, K, K, K, K, K, K, K, K, K, K, K, K, K, K, K, K]
/-- what of a way is asked: from, to, start, leave. -/
def conA (f : Nat) (fx fy tx ty st lv : E) : List E := [meetE (.v f) (.v (f + 1)) st lv, meetE (.v (f + 2)) (.v (f + 4)) (.ite (.lt tx fx) tx fx) (.ite (.lt fx tx) tx fx), meetE (.v (f + 3)) (.v (f + 5)) (.ite (.lt ty fy) ty fy) (.ite (.lt fy ty) ty fy)]
def concAtoms : List E := conA 0 (.v 8) (.v 9) (.v 10) (.v 11) (.v 12) (.v 14)
def cConc := ctrConj 125 [.ag [K, K, K, K, K, K, K, K], .ag [K, K, K, K, K, K, K, K]] [] concAtoms
def calmE (k : E) : E := .happ 13 (.cons k (.cons (.v 6) (.cons (.v 7) (.cons (.v 18) (.cons (.v 19) (.cons (.v 20) (.cons (.v 21) (.cons (.v 22) (.cons (.v 24) (.cons (.v 26) (.cons (.v 27) (.cons (.v 28) (.cons (.v 29) (.cons (.v 30) (.cons (.v 32) (.lv 12))))))))))))))))
def calmL : LoopSpec := { key := 2, locs := [.t 9 (.i .i64)], facts := fun n => [.le (.c 0) (.v n), .le (.v n) (.v 12), .le (.v n) (.c 1000000), calmE (.v n)], meas := fun n => .sub (.v 12) (.v n) }
def whyF : List E := [.le (.c 0) (.v 12), .le (.v 12) (.c 1000000), .le (.c 0) (.v 32), .le (.v 32) (.c 4611686018427387904), .le (.c 0) (.v 13), .le (.v 13) (.c 1073741824)]
def concAt (f : List E) (fx fy tx ty st lv : E) : List E := [meetE (f.getD 0 .nil) (f.getD 1 .nil) st lv, meetE (f.getD 2 .nil) (f.getD 4 .nil) (.ite (.lt tx fx) tx fx) (.ite (.lt fx tx) tx fx), meetE (f.getD 3 .nil) (f.getD 5 .nil) (.ite (.lt ty fy) ty fy) (.ite (.lt fy ty) ty fy)]
def fld (sky j : E) : List E := (List.range 8).map fun k : Nat => .nthI sky (if k = 0 then .mul j (.c 8) else .add (.mul j (.c 8)) (.c (k : Int)))
def calmAtom (f : List E) (sea wind : E) (o b : List E) : E := .or (.and (.le (f.getD 6 .nil) sea) (.le (f.getD 7 .nil) wind)) (.and (.not (conjE o)) (.not (conjE b)))
def instK : E → E → List E
  | .cons sea (.cons wind (.cons a0 (.cons a1 (.cons a2 (.cons a3 (.cons a4 (.cons a5 (.cons b0 (.cons b1 (.cons b2 (.cons b3 (.cons b4 (.cons b5 sky))))))))))))), j =>
    [calmAtom (fld sky j) sea wind (concAt (fld sky j) a0 a1 a2 a3 a4 a5) (concAt (fld sky j) b0 b1 b2 b3 b4 b5)]
  | xs, j => [.happ 13 (.cons (.c 1) (.lcat (.lsub xs (.c 0) (.c 14)) (.lsub xs (.add (.c 14) (.mul j (.c 8))) (.llen xs))))]
def spCalm : AllSp := ⟨13, instK⟩
def cMeets := ctrCases 122 [stepK] whyF [(.b .ff, [calmE (.v 12)]), (.b .tt, [.not (calmE (.v 12))])]
def meetsCs : List (V × List E) := [(.b .ff, [calmE (.v 12)]), (.b .tt, [.not (calmE (.v 12))])]
def w4 : List E := [.le (.v 32) (.c 1073741824)]
def w1 : List E := w4 ++ [.le (.v 4) (.v 33)]
def w2 : List E := w1 ++ [.le (.sub (.v 32) (.v 13)) (.v 5)]
def whyCs : List (V × List E) := [(.i .i64 (.c 0), w2 ++ [calmE (.v 12)]), (.i .i64 (.c 3), w2 ++ [.not (calmE (.v 12))]), (.i .i64 (.c 2), w1 ++ [.lt (.v 5) (.sub (.v 32) (.v 13))]), (.i .i64 (.c 1), w4 ++ [.lt (.v 33) (.v 4)]), (.i .i64 (.c 4), [.lt (.c 1073741824) (.v 32)])]
abbrev DK : Dec := decideN (decideL2 (decideH [spCalm]))
theorem concerns_ok (hJ : ∀ w, TT.J w) : CtrOk TT Try.prog cConc := auto_conj (Γ := {}) (by simp) 400 (by kernel_rfl) hJ
theorem min_code (a b : Int) : (if b < a then b else a) = min a b := by rw [Int.min_def]; split <;> split <;> omega
theorem max_code (a b : Int) : (if a < b then b else a) = max a b := by rw [Int.max_def]; split <;> split <;> omega
theorem meetE_B (ρ : Env) (a b c d : E) : (meetE a b c d).B ρ = meetB (a.I ρ) (b.I ρ) (c.I ρ) (d.I ρ) := by
  simp only [meetE, B_le, I_ite, B_lt, decide_eq_true_eq, meetB]
  congr 1
  rw [max_code, min_code]
theorem fld_I {ρ : Env} (sky j : E) {k : Nat} (hk : k < 8) : ((fld sky j).getD k .nil).I ρ = nI (sky.L ρ) (8 * j.I ρ + k) := by
  match k, hk with
  | 0, _ | 1, _ | 2, _ | 3, _ | 4, _ | 5, _ | 6, _ | 7, _ => simp [fld, nI, Int.mul_comm]
theorem concAt_B {ρ : Env} (sky j fx fy tx ty st lv : E) : (conjE (concAt (fld sky j) fx fy tx ty st lv)).B ρ = concB (sky.L ρ) (j.I ρ) (fx.I ρ) (fy.I ρ) (tx.I ρ) (ty.I ρ) (st.I ρ) (lv.I ρ) := by
  rw [conjE_B]
  simp only [allE, concAt, List.all_cons, List.all_nil, Bool.and_true, meetE_B, fld_I sky j (show 0 < 8 by omega), fld_I sky j (show 1 < 8 by omega), fld_I sky j (show 2 < 8 by omega), fld_I sky j (show 3 < 8 by omega), fld_I sky j (show 4 < 8 by omega), fld_I sky j (show 5 < 8 by omega), I_ite, B_lt, decide_eq_true_eq, concB]
  rw [min_code, max_code, min_code, max_code]
  simp [Bool.and_assoc]
theorem cut_head {l : LL} {m : Nat} (hm : 14 ≤ m) {i : Int} (hi : i < 14) : nI (l.take 14 ++ l.drop m) i = nI l i := by
  unfold nI
  by_cases h : i.toNat < l.length
  · rw [List.getElem?_append_left (by simp; omega), List.getElem?_take, if_pos (by omega)]
  · have hd : l.drop m = [] := List.drop_eq_nil_of_le (by omega)
    rw [List.getElem?_eq_none (l := l) (by omega), hd, List.append_nil, List.getElem?_eq_none (by simp; omega)]
theorem cut_tail {l : LL} {m : Nat} (hm : 14 ≤ m) : (l.take 14 ++ l.drop m).drop 14 = l.drop m := by
  by_cases h : 14 ≤ l.length
  · rw [List.drop_append_of_le_length (by simp; omega), List.drop_eq_nil_of_le (by simp; omega), List.nil_append]
  · have hd : l.drop m = [] := List.drop_eq_nil_of_le (by omega)
    rw [hd, List.append_nil, List.drop_eq_nil_of_le (by simp; omega)]
theorem nI_dropN (l : LL) (m : Nat) {i : Int} (h : 0 ≤ i) : nI (l.drop m) i = nI l (m + i) := by
  unfold nI
  rw [List.getElem?_drop, show ((m : Int) + i).toNat = m + i.toNat from by omega]
theorem okSky_cut (l : LL) {j : Int} (hj : 0 ≤ j) : okSky (l.take 14 ++ l.drop (14 + 8 * j).toNat) 0 = okSky l j := by
  have hm : 14 ≤ (14 + 8 * j).toNat := by omega
  have e : ∀ t : Int, 0 ≤ t → nI (l.drop (14 + 8 * j).toNat) t = nI (l.drop 14) (8 * j + t) := fun t ht => by
    rw [nI_dropN _ _ ht, nI_dropN _ _ (by omega), show (((14 + 8 * j).toNat : Nat) : Int) + t = ((14 : Nat) : Int) + (8 * j + t) from by omega]
  have e0 : nI (l.drop (14 + 8 * j).toNat) 0 = nI (l.drop 14) (8 * j) := by rw [e 0 (by omega)]; simp
  unfold okSky calmB concB
  simp only [cut_tail hm, cut_head hm (show (0 : Int) < 14 by omega), cut_head hm (show (1 : Int) < 14 by omega), cut_head hm (show (2 : Int) < 14 by omega), cut_head hm (show (3 : Int) < 14 by omega), cut_head hm (show (4 : Int) < 14 by omega), cut_head hm (show (5 : Int) < 14 by omega), cut_head hm (show (6 : Int) < 14 by omega), cut_head hm (show (7 : Int) < 14 by omega), cut_head hm (show (8 : Int) < 14 by omega), cut_head hm (show (9 : Int) < 14 by omega), cut_head hm (show (10 : Int) < 14 by omega), cut_head hm (show (11 : Int) < 14 by omega), cut_head hm (show (12 : Int) < 14 by omega), cut_head hm (show (13 : Int) < 14 by omega), Int.mul_zero, Int.zero_add, e 1 (by omega), e 2 (by omega), e 3 (by omega), e 4 (by omega), e 5 (by omega), e 6 (by omega), e 7 (by omega), e0]
theorem spCalm_ok (u : Fit TT) : SpOk TT spCalm := fun ρ hT =>
  ⟨fun k l => okSky l k, fun e xs => by rw [B_happ]; simp only [spCalm]; rw [(u.tab hT).2]; rfl, fun xs j hj => by
    show allE ρ (instK xs j) = _
    unfold instK
    split
    · simp only [allE, List.all_cons, List.all_nil, Bool.and_true, calmAtom, B_or, B_and, B_not, B_le, concAt_B, fld_I _ _ (show 6 < 8 by omega), fld_I _ _ (show 7 < 8 by omega)]
      rfl
    · simp only [allE, List.all_cons, List.all_nil, Bool.and_true]
      rw [B_happ, (u.tab hT).2]
      have e : ((E.lsub xs (.add (.c 14) (.mul j (.c 8))) (.llen xs)).L ρ) = (xs.L ρ).drop (14 + 8 * j.I ρ).toNat := by
        simp only [L_lsub, I_llen, I_add, I_mul, I_c, Int.toNat_natCast, List.take_length, Int.mul_comm]
      have e2 : ((E.lsub xs (.c 0) (.c 14)).L ρ) = (xs.L ρ).take 14 := by simp [L_lsub]
      have e3 : Un.hF 13 ((E.cons (.c 1) (.lcat (.lsub xs (.c 0) (.c 14)) (.lsub xs (.add (.c 14) (.mul j (.c 8))) (.llen xs)))).L ρ) = okSky ((xs.L ρ).take 14 ++ (xs.L ρ).drop (14 + 8 * j.I ρ).toNat) 0 := by
        rw [L_cons, L_lcat, e, e2]
        show allTo 1 (okSky _) = _
        rw [show (1 : Int) = 0 + 1 from rfl, allTo_succ (by omega), allTo_zero, Bool.true_and]
        rfl
      rw [e3]
      exact okSky_cut _ hj⟩
theorem meets_ok (u : Fit TT) : CtrOk TT Try.prog cMeets := ctrCases_ok rfl fun ρ w hF hT hR =>
  cases_calls (decideN_ok (decideL2_ok (decideH_ok (S := [spCalm]) (by simpa using spCalm_ok u)))) (Γ := { calls := [cConc], loops := [calmL] }) (by simpa using concerns_ok u.open.J) (gas := 400) (by kernel_rfl) ρ w hF hT hR (u.J w)
def cWhy := ctrCases 113 [stepK] whyF whyCs
theorem why_cases (u : Fit TT) (ρ : Env) (w : World) (hF : holds ρ whyF) (hT : TT.tab ρ.g ρ.h ρ.k ρ.m) (hR : RowsAt ρ w [stepK]) : CasesAt Try.prog 113 [stepK] whyCs ρ w :=
  cases_calls (decideN_ok (decideL2_ok (decideH_ok (S := [spCalm]) (by simpa using spCalm_ok u)))) (Γ := { calls := [cMeets] }) (by simpa using meets_ok u.open) (gas := 400) (by kernel_rfl) ρ w hF hT hR (u.J w)
end Go.Proofs.Ytmbhjfembfidnaa.Un
end
