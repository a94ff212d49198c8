/- Layer 9 (unit): the law of plans that are made again: what it reckons with. Layer 9 (unit): the law of plans that are made again: its ends. -/
import Derived.Test.YtmbhjfembfidnaaPc6
section
namespace Go.Proofs.Ytmbhjfembfidnaa.Un
open Go Go.Proofs.Ytmbhjfembfidnaa.Sx Go.RowKit
def oN1 : E := .add (.v 13) (.c 1)
def oAll : E := .add (.sub (lastAt 6) (.v 12)) (.c 1)
def oA (k : Nat) : E := .add (.v 12) (.rem (.add (.rem (.v k) oAll) oAll) oAll)
def oMin : E := .ite (.lt (oA 17) (oA 16)) (oA 17) (oA 16)
def oMax : E := .ite (.lt (oA 16) (oA 17)) (oA 17) (oA 16)
def oK (t : E) : E := .app 7 (.cons oN1 (.cons t oLL))
def oL (t : E) (k : Nat) : E := .nthI oLL (.add (.mul (oK t) (.c 8)) (.c (k : Int)))
def oLeft (t : E) : E := apps 8 [oL t 7, .v 3, oL t 6, t]
def oOk : List E := unitA ++ [.lt (.c 0) oN1, .happ 2 (.cons oN1 oLL), .happ 3 (.cons oN1 oLL)] ++ skyAt 14
def oWay : E := .happ 5 (.cons (.sub (.v 13) oI1) oWs)
theorem mF_3 (l : LL) : mF 3 l = planL l := by simp only [mF]
theorem gF_11 (l : LL) : gF 11 l = badIx l := by simp only [gF]
/-- What is known in the law. -/
structure Goes (ρ : Env) (N i : Nat) (l : LL) : Prop where
  plan : Planned ρ N l
  lt : i < N
  eI : oI.I ρ = (i : Int)
  eI1 : oI1.I ρ = (i : Int) + 1
  eLL : oLL.L ρ = planL l
  eT : oT.I ρ = (stAt l (i + 1)).t
  eN : oN1.I ρ = (N : Int) + 1
  ix : ∃ j : Nat, oJ.I ρ = (j : Int)
  eX : oX.I ρ = (stAt l (i + 1)).x
  eY : oY.I ρ = (stAt l (i + 1)).y
  eU : oU.I ρ = (stAt l (i + 1)).f
  e4 : (E.nthI oLL (.c 4)).I ρ = ρ.i 12
  ways : (oWs.L ρ) = ((ρ.l 13).take (3 * N)).drop (3 * (i + 1))
  tail : Tail l (oP.L ρ) i N
  hg : ρ.g = gF
  hh : ρ.h = Un.hF
  hm : ρ.m = mF
theorem goes_of {ρ : Env} {N i : Nat} {l : LL} (hg : ρ.g = gF) (hh : ρ.h = Un.hF) (hm : ρ.m = mF) (P : Planned ρ N l) (hl : planE2.L ρ = l) (h8 : (ρ.l 14).length = (8 * ρ.i 14).toNat) (h3 : (ρ.l 13).length = (3 * ρ.i 13).toNat) (hi : (ρ.i 15).tmod (ρ.i 13) = (i : Int)) (hiN : i < N) : Goes ρ N i l := by
  have hnum := P.num
  have few := P.few
  have eI : oI.I ρ = (i : Int) := hi
  have eI1 : oI1.I ρ = (i : Int) + 1 := by
    show IntKind.i64.wrap (oI.I ρ + 1) = _
    rw [eI, IntKind.wrap_i64]
    omega
  have eLL : oLL.L ρ = planL l := by show ρ.m 3 (planE2.L ρ) = _; rw [hm, hl, mF_3]
  have eT : oT.I ρ = (stAt l (i + 1)).t := by
    have : oT.I ρ = nI (oLL.L ρ) (oI.I ρ * 8 + 6) := rfl
    rw [this, eLL, eI, Int.mul_comm, (P.c (k := i) (by omega)).2.1]
    unfold lvT
    rw [if_pos hiN]
  have eN : oN1.I ρ = (N : Int) + 1 := by show ρ.i 13 + 1 = _; omega
  obtain ⟨j, hjN, hj, hjt, hjs⟩ := P.at_leave hiN
  have eJ : oJ.I ρ = (j : Int) := by
    have : oJ.I ρ = ρ.g 7 ((oN1.I ρ, ⟨#[]⟩) :: (oT.I ρ, ⟨#[]⟩) :: oLL.L ρ) := rfl
    rw [this, hg, eN, eT, eLL, gF_7]
    exact hj
  obtain ⟨x2, y2, ar, ⟨c0, c1, c2, c3, c4, c5, c6, c7⟩, hn, -, -, t2, -, -, -, u2⟩ := P.leg (k := j) (by omega)
  obtain ⟨rfl, rfl⟩ := hn hjN
  simp only [Int.cast_ofNat_Int] at c2 c3 c5 c6 c7
  have ec : ∀ k : Nat, 0 < k → (oc k).I ρ = nI (planL l) (8 * (j : Int) + k) := fun k hk => by
    have : (oc k).I ρ = nI (oLL.L ρ) (oJ.I ρ * 8 + k) := by unfold oc; rw [if_neg (by omega)]; rfl
    rw [this, eLL, eJ, Int.mul_comm]
  have k2 := ec 2 (by omega); have k3 := ec 3 (by omega); have k5 := ec 5 (by omega); have k6 := ec 6 (by omega); have k7 := ec 7 (by omega)
  simp only [Int.cast_ofNat_Int] at k2 k3 k5 k6 k7
  have eX : oX.I ρ = (stAt l (i + 1)).x := by
    have : oX.I ρ = ρ.g 3 [((oc 0).I ρ, ⟨#[]⟩), ((oc 2).I ρ, ⟨#[]⟩), ((oc 4).I ρ, ⟨#[]⟩), ((oc 5).I ρ, ⟨#[]⟩), (oT.I ρ, ⟨#[]⟩)] := rfl
    rw [this, hg, gF_3, plx, if_pos (by rw [k5, c5, eT]; omega), k2, c2, hjs]
  have eY : oY.I ρ = (stAt l (i + 1)).y := by
    have : oY.I ρ = ρ.g 3 [((oc 1).I ρ, ⟨#[]⟩), ((oc 3).I ρ, ⟨#[]⟩), ((oc 4).I ρ, ⟨#[]⟩), ((oc 5).I ρ, ⟨#[]⟩), (oT.I ρ, ⟨#[]⟩)] := rfl
    rw [this, hg, gF_3, plx, if_pos (by rw [k5, c5, eT]; omega), k3, c3, hjs]
  have eU : oU.I ρ = (stAt l (i + 1)).f := by
    have : oU.I ρ = ρ.g 8 [((oc 7).I ρ, ⟨#[]⟩), (ρ.i 3, ⟨#[]⟩), ((oc 6).I ρ, ⟨#[]⟩), (oT.I ρ, ⟨#[]⟩)] := rfl
    rw [this, hg, gF_8, k6, k7, c6, c7, eT, hjt, leftF, Int.sub_self, Int.mul_zero, show rdn 0 3600 = 0 from rfl, Int.add_zero, ← hjs]
    unfold lvU
    rw [if_pos hjN]
  have e4 : (E.nthI oLL (.c 4)).I ρ = ρ.i 12 := by
    have : (E.nthI oLL (.c 4)).I ρ = nI (oLL.L ρ) 4 := rfl
    rw [this, eLL, P.first, P.at0]
  have eW : oWs.L ρ = ((ρ.l 13).take (3 * N)).drop (3 * (i + 1)) := by
    have : oWs.L ρ = ((ρ.l 13).take (ρ.i 13 * 3).toNat).drop (oI1.I ρ * 3).toNat := by unfold oWs; rw [L_lsub]; rfl
    rw [this, eI1, hnum, show ((N : Int) * 3).toNat = 3 * N by omega, show (((i : Int) + 1) * 3).toNat = 3 * (i + 1) by omega]
  have hlen : (ρ.l 13).length = 3 * N := by omega
  have hpw : pWays (oP.L ρ) = oWs.L ρ := by
    show ((ρ.l 14 ++ oWs.L ρ).drop (8 * ρ.i 14).toNat) = _
    rw [← h8, List.drop_left']
    rfl
  refine { plan := P, lt := hiN, eI := eI, eI1 := eI1, eLL := eLL, eT := eT, eN := eN, ix := ⟨j, eJ⟩, eX := eX, eY := eY, eU := eU, e4 := e4, ways := eW, hg := hg, hh := hh, hm := hm, tail := ?_ }
  refine { e0 := P.n0.symm, e1 := P.n1.symm, e2 := P.n2.symm, e3 := P.n3.symm, e4 := P.n4.symm, e5 := P.n5.symm, e6 := P.n6.symm, e7 := P.n7.symm, e8 := ?_, e13 := P.n13.symm, e14 := ?_, sky := ?_, at0 := ?_, ways := fun k q hk hq => ?_ }
  · rw [P.n8]; exact e4
  · show ρ.i 13 - oI1.I ρ = _
    rw [eI1, hnum]
    omega
  · rw [P.sky]
    show ((ρ.l 14 ++ oWs.L ρ).take (8 * ρ.i 14).toNat) = _
    rw [← h8, List.take_left']
    rfl
  · show (⟨oX.I ρ, oY.I ρ, oT.I ρ, oU.I ρ⟩ : At) = _
    rw [eX, eY, eT, eU]
  · rw [hpw, eW, P.ways]
    unfold nI
    rw [List.getElem?_drop, List.getElem?_take, if_pos (by omega)]
    congr 3
    omega
theorem Goes.m1 {ρ : Env} {N i : Nat} {l : LL} (G : Goes ρ N i l) (h8 : (ρ.l 14).length = (8 * ρ.i 14).toNat) (hN : N = i + 1) : whyB (o1.L ρ) (stAt (o1.L ρ) 0) 0 = 0 := by
  subst hN
  have P := G.plan
  refine stay_why P P.n0.symm P.n1.symm P.n2.symm P.n3.symm P.n4.symm P.n5.symm P.n6.symm P.n7.symm (by rw [P.n8]; exact G.e4) P.n13.symm ?_ ?_ ?_
  · rw [P.sky]
    show ((ρ.l 14 ++ [(oX.I ρ, (⟨#[]⟩ : ByteArray)), (oY.I ρ, ⟨#[]⟩), (0, ⟨#[]⟩)]).take (8 * ρ.i 14).toNat) = _
    rw [← h8, List.take_left']
    rfl
  · show (⟨oX.I ρ, oY.I ρ, oT.I ρ, oU.I ρ⟩ : At) = _
    rw [G.eX, G.eY, G.eT, G.eU]
  · show ((ρ.l 14 ++ [(oX.I ρ, (⟨#[]⟩ : ByteArray)), (oY.I ρ, ⟨#[]⟩), (0, ⟨#[]⟩)]).drop (8 * ρ.i 14).toNat) = _
    rw [← h8, List.drop_left' rfl, G.eX, G.eY]
/-- a time that is asked for. -/
theorem Goes.time {ρ : Env} {N i : Nat} {l : LL} (G : Goes ρ N i l) (k : Nat) : ρ.i 12 ≤ (oA k).I ρ ∧ (oA k).I ρ ≤ lvT l N N := by
  have P := G.plan
  have e6 : (lastAt 6).I ρ = lvT l N N := by
    have : (lastAt 6).I ρ = nI (oLL.L ρ) (ρ.i 13 * 8 + 6) := rfl
    rw [this, G.eLL, P.num, Int.mul_comm, (P.c (Nat.le_refl N)).2.1]
  have m0 := P.mono (i := 0) (k := N) (by omega) (Nat.le_refl _)
  have ht0 : (stAt l 0).t = ρ.i 12 := by rw [P.at0]
  have hh := P.home.1
  have hl : lvT l N N = (stAt l N).t + wayHome l (stAt l N) := by unfold lvT; rw [if_neg (Nat.lt_irrefl _)]
  have ea : oAll.I ρ = lvT l N N - ρ.i 12 + 1 := by show (lastAt 6).I ρ - ρ.i 12 + 1 = _; rw [e6]
  have : (oA k).I ρ = ρ.i 12 + ((ρ.i k).tmod (oAll.I ρ) + oAll.I ρ).tmod (oAll.I ρ) := rfl
  rw [this, ea]
  have hp : 0 < lvT l N N - ρ.i 12 + 1 := by omega
  have h1 := Int.tmod_lt_of_pos (ρ.i k) hp
  have h2 : -(lvT l N N - ρ.i 12 + 1) < (ρ.i k).tmod (lvT l N N - ρ.i 12 + 1) := by
    rcases Int.le_total 0 (ρ.i k) with h | h
    · have := Int.tmod_nonneg (lvT l N N - ρ.i 12 + 1) h
      omega
    · have := Int.tmod_lt_of_pos (-(ρ.i k)) hp
      rw [Int.neg_tmod] at this
      omega
  have h3 := Int.tmod_nonneg (lvT l N N - ρ.i 12 + 1) (a := (ρ.i k).tmod (lvT l N N - ρ.i 12 + 1) + (lvT l N N - ρ.i 12 + 1)) (by omega)
  have h4 := Int.tmod_lt_of_pos ((ρ.i k).tmod (lvT l N N - ρ.i 12 + 1) + (lvT l N N - ρ.i 12 + 1)) hp
  omega
/-- where it is. -/
theorem Goes.at {ρ : Env} {N i : Nat} {l : LL} (G : Goes ρ N i l) (t : E) (h0 : ρ.i 12 ≤ t.I ρ) (h1 : t.I ρ ≤ lvT l N N) : ∃ j : Nat, j ≤ N ∧ (oK t).I ρ = (j : Int) ∧ t.I ρ ≤ lvT l N j ∧ (stAt l j).t ≤ t.I ρ ∧ (∀ k : Nat, k < j → lvT l N k < t.I ρ) ∧ (oLeft t).I ρ = leftIn l N j (t.I ρ) := by
  have P := G.plan
  obtain ⟨j, hj, e, a, b, c⟩ := P.ix h0 h1
  have eK : (oK t).I ρ = (j : Int) := by
    have : (oK t).I ρ = ρ.g 7 ((oN1.I ρ, ⟨#[]⟩) :: (t.I ρ, t.S ρ) :: oLL.L ρ) := rfl
    rw [this, G.hg, G.eN, G.eLL, gF_7]
    exact e
  refine ⟨j, hj, eK, a, b, c, ?_⟩
  have e7 : (oL t 7).I ρ = lvU l N j := by
    have : (oL t 7).I ρ = nI (oLL.L ρ) ((oK t).I ρ * 8 + 7) := rfl
    rw [this, G.eLL, eK, Int.mul_comm, (P.c hj).2.2]
  have e6 : (oL t 6).I ρ = lvT l N j := by
    have : (oL t 6).I ρ = nI (oLL.L ρ) ((oK t).I ρ * 8 + 6) := rfl
    rw [this, G.eLL, eK, Int.mul_comm, (P.c hj).2.1]
  have : (oLeft t).I ρ = ρ.g 8 [((oL t 7).I ρ, ⟨#[]⟩), (ρ.i 3, ⟨#[]⟩), ((oL t 6).I ρ, ⟨#[]⟩), (t.I ρ, t.S ρ)] := rfl
  rw [this, G.hg, gF_8, e6, e7, leftIn, P.n1]
end Go.Proofs.Ytmbhjfembfidnaa.Un
end
section
namespace Go.Proofs.Ytmbhjfembfidnaa.Un
open Go Go.Proofs.Ytmbhjfembfidnaa.Sx Go.RowKit
set_option maxHeartbeats 16000000 in
theorem goes_law (ρ : Env) (w : World) (hF0 : holds ρ goF') (hT : UT.tab ρ.g ρ.h ρ.k ρ.m) (hR : RowsAt ρ w goK) : Calls Try.prog 9 (arr ρ (patAs 0 goK)) w fun e w' => e = .returned (.bool true) ∧ Below w.heap.size w w' := by
  obtain ⟨hn14, hl14⟩ := row_facts hR (k := 14) (kds := ints 8) (by decide)
  obtain ⟨hn13, hl13⟩ := row_facts hR (k := 13) (kds := ints 3) (by decide)
  have h8 : (ρ.l 14).length = (8 * ρ.i 14).toNat := by rw [hl14]; simp [ints]; omega
  have h3 : (ρ.l 13).length = (3 * ρ.i 13).toNat := by rw [hl13]; simp [ints]; omega
  refine val_rest (TT := UT) DD2_ok (Γ := goG) (by simpa [goG] using ⟨awake_ok, plan3_ok fit_UT.open, again_ok fit_UT.open, sameL_ok fun _ => trivial, left_any U0⟩) 400 goK goF' (.b .tt) rfl goD goD_ok ρ w hF0 hT hR ⟨?_, ?_, ?_, ?_, ?_, ?_, ?_, ?_, ?_, ?_, ?_, ?_, ?_, ?_, ?_, ?_, ?_, ?_, ?_, ?_, ?_, ?_, ?_, ?_⟩
  all_goals
    intro ρ' w' hx hT' hF hb _
    have hg := hT'.1.1
    have hh := hT'.1.2
    have hm := hT'.2
    have e13 : ρ'.i 13 = ρ.i 13 := hx.i 13 (by decide)
    have e14 : ρ'.i 14 = ρ.i 14 := hx.i 14 (by decide)
    have l14 : ρ'.l 14 = ρ.l 14 := hx.l 14 (by decide)
    have l13 : ρ'.l 13 = ρ.l 13 := hx.l 13 (by decide)
    have h15 : 0 ≤ ρ'.i 15 := by
      have : (E.le (.c 0) (.v 15)).B ρ' = true := by rw [B_ext hx (by decide)]; exact hF0 _ (by simp [goF'])
      simpa using this
    have P := planned hg hh (by rw [e13]; exact hn13) (by rw [e14, l14]; exact ⟨hn14, h8⟩) (sub_facts hF (G := plOk) (by decide +kernel))
    rw [← l13, ← e13] at h3
    have h8' : (ρ'.l 14).length = (8 * ρ'.i 14).toNat := by rw [e14, l14]; exact h8
    obtain ⟨l, hl⟩ : ∃ l, planE2.L ρ' = l := ⟨_, rfl⟩
    rw [hl] at P
    obtain ⟨N, hN⟩ : ∃ N, (ρ'.i 13).toNat = N := ⟨_, rfl⟩
    rw [hN] at P
    have hnum := P.num
    have hN0 : ρ'.i 13 ≠ 0 := by
      have := hF (.not (.eq (.v 13) (.c 0))) (List.contains_iff_mem.1 (by decide +kernel))
      simpa using this
    clear hx hT' hT hR hl14 hl13 hn13 hn14 h8 hF0
    obtain ⟨i, hi⟩ := Int.eq_ofNat_of_zero_le (Int.tmod_nonneg (ρ'.i 13) h15)
    have hiN : i < N := by have := Int.tmod_lt_of_pos (ρ'.i 15) (show 0 < ρ'.i 13 by omega); omega
    have G := goes_of hg hh hm P hl h8' h3 hi hiN
    have few := P.few
    first
    | (show (E.le (.c 0) oI).B ρ' = true
       rw [B_le, G.eI, decide_eq_true_eq]; simp only [I_c]; omega)
    | (show (E.lt oI oN1).B ρ' = true
       rw [B_lt, G.eI, G.eN, decide_eq_true_eq]; omega)
    | (show (E.le (.c 0) oI1).B ρ' = true
       rw [B_le, G.eI1, decide_eq_true_eq]; simp only [I_c]; omega)
    | (show (E.le oI1 (.v 13)).B ρ' = true
       rw [B_le, G.eI1, decide_eq_true_eq]; simp only [I_v]; omega)
    | (show (E.le oI1 oN1).B ρ' = true
       rw [B_le, G.eI1, G.eN, decide_eq_true_eq]; omega)
    | (exfalso
       have hn : (E.lt oJ (.c 0)).B ρ' = true := hF _ (List.contains_iff_mem.1 (by decide +kernel))
       obtain ⟨j, hj⟩ := G.ix
       rw [B_lt, hj, decide_eq_true_eq] at hn
       simp only [I_c] at hn
       omega)
    | (exfalso
       have hn : (E.lt oAll (.c 1)).B ρ' = true := hF _ (List.contains_iff_mem.1 (by decide +kernel))
       have hm6 : (E.le (.v 12) (lastAt 6)).B ρ' = true := hF _ (List.contains_iff_mem.1 (by decide +kernel))
       simp only [B_lt, B_le, oAll, I_add, I_sub, I_v, I_c, decide_eq_true_eq] at hn hm6
       omega)
    | (exfalso
       have hn : (E.not (.eq (.app 17 o1) (.c 0))).B ρ' = true := hF _ (List.contains_iff_mem.1 (by decide +kernel))
       have hz : (E.le (.sub (.v 13) oI1) (.c 0)).B ρ' = true := hF _ (List.contains_iff_mem.1 (by decide +kernel))
       have e1 : (E.app 17 o1).I ρ' = whyB (o1.L ρ') (stAt (o1.L ρ') 0) 0 := by show ρ'.g 17 _ = _; rw [hg]; rfl
       rw [B_le, I_sub, G.eI1, decide_eq_true_eq] at hz
       simp only [I_c, I_v] at hz
       rw [B_not, B_eq, e1, G.m1 h8' (by omega)] at hn
       simp at hn)
    | (exfalso
       have t16 := G.time 16
       have t17 := G.time 17
       have mn : oMin.I ρ' = min ((oA 16).I ρ') ((oA 17).I ρ') := by
         simp only [oMin, I_ite, B_lt, decide_eq_true_eq, min_code]
       have mx : oMax.I ρ' = max ((oA 16).I ρ') ((oA 17).I ρ') := by
         simp only [oMax, I_ite, B_lt, decide_eq_true_eq, max_code]
       obtain ⟨j, hj, ek, a1, a2, a3, el⟩ := G.at oMin (by omega) (by omega)
       obtain ⟨k, hk, ek2, b1, b2, b3, el2⟩ := G.at oMax (by omega) (by omega)
       first
       | (have hn : (E.lt (oK oMax) (.c 0)).B ρ' = true := hF _ (List.contains_iff_mem.1 (by decide +kernel))
          rw [B_lt, ek2, decide_eq_true_eq] at hn
          simp only [I_c] at hn
          omega)
       | (have hn : (E.lt (oK oMin) (.c 0)).B ρ' = true := hF _ (List.contains_iff_mem.1 (by decide +kernel))
          rw [B_lt, ek, decide_eq_true_eq] at hn
          simp only [I_c] at hn
          omega)
       | (have hn : (E.lt (oLeft oMin) (oLeft oMax)).B ρ' = true := hF _ (List.contains_iff_mem.1 (by decide +kernel))
          rw [B_lt, el, el2, decide_eq_true_eq] at hn
          have hjk : j ≤ k := by
            rcases Nat.lt_or_ge k j with h | h
            · have := a3 k h
              omega
            · exact h
          have := P.left_mono hj hk a2 a1 b2 b1 hjk (by omega)
          omega)
       | (have hn : (E.lt (.wrap .i64 (.mul (.c 3600) (.wrap .i64 (.sub (.v 2) (oLeft oMin))))) (.mul (.v 3) (.sub oMin (.v 12)))).B ρ' = true := hF _ (List.contains_iff_mem.1 (by decide +kernel))
          rw [B_lt, decide_eq_true_eq] at hn
          simp only [I_wrap, I_mul, I_sub, I_c, I_v, el] at hn
          have hb := P.left_burnt hj (t := oMin.I ρ')
          have hl2 := P.left_le hj a2 a1
          have hfu := P.fuels hj
          have hfl := P.fuel
          obtain ⟨x2, y2, ar, -, -, -, -, -, -, -, u1, -⟩ := P.leg hj
          rw [P.n1] at hb
          have w1 : IntKind.i64.wrap (ρ'.i 2 - leftIn l N j (oMin.I ρ')) = ρ'.i 2 - leftIn l N j (oMin.I ρ') := by rw [IntKind.wrap_i64]; omega
          have w2 : IntKind.i64.wrap (3600 * (ρ'.i 2 - leftIn l N j (oMin.I ρ'))) = 3600 * (ρ'.i 2 - leftIn l N j (oMin.I ρ')) := by rw [IntKind.wrap_i64]; omega
          rw [w1, w2] at hn
          omega))
    | (show (E.leq (.lapp 3 oP) (.lsub oLL (.mul oI1 (.c 8)) (.mul oN1 (.c 8)))).B ρ' = true
       have e1 : (E.lapp 3 oP).L ρ' = planL (oP.L ρ') := by show ρ'.m 3 _ = _; rw [hm, mF_3]; rfl
       have hlen : (planL l).length = 8 * (N + 1) := by
         rw [planL, P.n14, List.length_append, legsTo_len, show (homeL l (stAt l ((N : Int)).toNat)).length = 8 from rfl]
         omega
       rw [B_leq, e1, G.tail.plan P hiN, L_lsub, G.eLL, I_mul, I_mul, G.eI1, G.eN, I_c, decide_eq_true_eq, show (((N : Int) + 1) * 8).toNat = (planL l).length by rw [hlen]; omega, List.take_length]
       congr 1
       omega)
    | (exfalso
       have hn : (E.not (conjE (oOk ++ [oWay]))).B ρ' = true := hF _ (List.contains_iff_mem.1 (by decide +kernel))
       have hy : allE ρ' (oOk ++ [oWay]) = true := by
         refine List.all_eq_true.2 fun a ha => ?_
         rcases List.mem_append.1 ha with ha | ha
         · rcases List.mem_append.1 ha with ha | ha
           · rcases List.mem_append.1 ha with ha | ha
             · exact sub_facts hF (G := unitA) (by decide +kernel) a ha
             · rcases List.mem_cons.1 ha with rfl | ha
               · rw [B_lt, G.eN, decide_eq_true_eq]; simp only [I_c]; omega
               · exact sub_facts hF (G := [.happ 2 (.cons oN1 oLL), .happ 3 (.cons oN1 oLL)]) (by decide +kernel) a ha
           · exact sub_facts hF (G := skyAt 14) (by decide +kernel) a ha
         · cases List.mem_singleton.1 ha
           rw [oWay, B_happ, hh, L_cons, G.ways]
           show allTo (ρ'.i 13 - oI1.I ρ') (atB 3 wayA (((ρ'.l 13).take (3 * N)).drop (3 * (i + 1)))) = true
           rw [G.eI1]
           refine allTo_of fun k k0 kn => ?_
           have hall : allTo (ρ'.i 13) (atB 3 wayA (ρ'.l 13)) = true := by
             have := hF (.happ 5 (.cons (.v 13) (.lv 13))) (List.contains_iff_mem.1 (by decide +kernel))
             rw [B_happ, hh] at this
             exact this
           have hk := allTo_at hall (k := k + ((i : Int) + 1)) (by omega) (by omega)
           obtain ⟨q, rfl⟩ := Int.eq_ofNat_of_zero_le k0
           have e : ∀ m : Nat, m < 3 → nI (((ρ'.l 13).take (3 * N)).drop (3 * (i + 1))) (3 * (q : Int) + (m : Int)) = nI (ρ'.l 13) (3 * ((q : Int) + ((i : Int) + 1)) + (m : Int)) := fun m hm3 => by
             unfold nI
             rw [List.getElem?_drop, List.getElem?_take, if_pos (by omega)]
             congr 3
             omega
           have e0 := e 0 (by omega); have e1 := e 1 (by omega); have e2 := e 2 (by omega)
           simp only [atB, allE, wayA, spotA, timeA, btw, envAt, List.cons_append, List.nil_append, List.all_cons, List.all_nil, B_le, I_c, I_v, e0, e1, e2] at hk ⊢
           exact hk
       rw [B_not, conjE_B, hy] at hn
       cases hn)
    | (exfalso
       have hn : (E.le (.c 0) (.app 11 oP)).B ρ' = true := hF _ (List.contains_iff_mem.1 (by decide +kernel))
       have e1 : (E.app 11 oP).I ρ' = badIx (oP.L ρ') := by show ρ'.g 11 _ = _; rw [hg, gF_11]; rfl
       rw [B_le, e1, G.tail.bad P, decide_eq_true_eq] at hn
       have h01 : (0 : Int) ≤ -1 := hn
       omega)
end Go.Proofs.Ytmbhjfembfidnaa.Un
end
