/- Layer 9 (unit): a plan's steps as calls. -/
import Derived.Lib.Hide
import Derived.WalkKit
import Derived.Test.YtmbhjfembfidnaaPb10
namespace Go.Proofs.Ytmbhjfembfidnaa.Un
open Go Go.Proofs.Ytmbhjfembfidnaa.Sx Go.RowKit

/-- what of a trip a plan does not reckon with. -/
structure Tr where
  nm : ByteArray
  fu : Int
  mg : Int
  lv : Int
  sky : Value
def i64 (z : Int) : Value := .int .i64 z
def cellsA (x : LL) : List Value := x.map fun p => i64 p.1
def tripCs (q : Tr) (l : LL) (a : At) : List Value := [.string q.nm, i64 (nI l 0), i64 q.fu, i64 (nI l 1), i64 (nI l 2), i64 (nI l 3), i64 (nI l 4), i64 (nI l 5), i64 (nI l 6), i64 (nI l 7), i64 q.mg, i64 q.lv, q.sky, i64 (nI l 8), i64 a.x, i64 a.y, i64 a.t, i64 a.f]
def tripA (q : Tr) (l : LL) (a : At) : Value := .agg (tripCs q l a).toArray
def wayVal (l : LL) (k : Int) : Value := .agg #[i64 (nI (pWays l) (3 * k)), i64 (nI (pWays l) (3 * k + 1)), i64 (nI (pWays l) (3 * k + 2))]
def legVal (x : LL) : Value := .agg (cellsA x).toArray
def stepA (q : Tr) (l : LL) (a : At) (k : Int) : Value := .agg (tripCs q l a ++ cellsA (legL l a k) ++ cellsA (homeL l (goOn l a k))).toArray
def envQ (q : Tr) (l : LL) (a : At) (k : Int) (more : List Int := []) : Env :=
  { i := fun n => ([0, nI l 0, q.fu, nI l 1, nI l 2, nI l 3, nI l 4, nI l 5, nI l 6, nI l 7, q.mg, q.lv, 0, nI l 8, a.x, a.y, a.t, a.f, nI (pWays l) (3 * k), nI (pWays l) (3 * k + 1), nI (pWays l) (3 * k + 2)] ++ more).getD n 0,
    b := fun _ => false, s := fun _ => q.nm, v := fun _ => q.sky, n := fun _ => 0, g := gF, h := Un.hF, k := noK, l := fun _ => [], m := mF }
/-- what holds of a unit that is on its way. -/
def Fine (l : LL) (a : At) : Prop := 1 ≤ nI l 0 ∧ nI l 0 ≤ 1000000 ∧ 0 ≤ nI l 1 ∧ nI l 1 ≤ 1048576 ∧ spotB (nI l 6) (nI l 7) = true ∧ spotB a.x a.y = true ∧ 0 ≤ a.t ∧ a.t ≤ 1073741824 ∧ 0 ≤ a.f ∧ a.f ≤ 1099511627776
def FineW (l : LL) (k : Int) : Prop := spotB (nI (pWays l) (3 * k)) (nI (pWays l) (3 * k + 1)) = true ∧ 0 ≤ nI (pWays l) (3 * k + 2) ∧ nI (pWays l) (3 * k + 2) ≤ 1073741824
theorem fine_trip {q : Tr} {l : LL} {a : At} {k : Int} (h : Fine l a) : holds (envQ q l a k) tripF := by
  unfold Fine at h
  simp only [spotB, decide_eq_true_eq] at h
  simp [tripF, spotA, btw, holds, envQ]
  omega
theorem fine_step {q : Tr} {l : LL} {a : At} {k : Int} (h : Fine l a) (hw : FineW l k) : holds (envQ q l a k) stepF := fun e he => by
  simp only [stepF, List.append_assoc] at he
  rcases List.mem_append.1 he with he | he
  · exact fine_trip h e he
  · unfold FineW at hw
    simp only [spotB, decide_eq_true_eq] at hw
    have h2 : holds (envQ q l a k) (spotA 18 ++ timeA 20) := by
      simp [spotA, timeA, btw, holds, envQ]
      omega
    exact h2 e he
theorem envQ_tab (q l a k) : UT.tab (envQ q l a k).g (envQ q l a k).h (envQ q l a k).k (envQ q l a k).m := ⟨⟨rfl, rfl⟩, rfl⟩
theorem no_rows (aks : List AK) (ρ : Env) (w : World) (h : rowsL 0 (ksOf aks) = []) : RowsAt ρ w aks := fun p hp => by rw [h] at hp; cases hp
theorem step_args (q : Tr) (l : LL) (a : At) (k : Int) (hs : asSl q.sky = q.sky) : arr (envQ q l a k) (patAs 0 [tripS, .ag [K, K, K]]) = #[tripA q l a, wayVal l k] := by
  have : arr (envQ q l a k) (patAs 0 [tripS, .ag [K, K, K]]) = #[.agg #[.string q.nm, i64 (nI l 0), i64 q.fu, i64 (nI l 1), i64 (nI l 2), i64 (nI l 3), i64 (nI l 4), i64 (nI l 5), i64 (nI l 6), i64 (nI l 7), i64 q.mg, i64 q.lv, asSl q.sky, i64 (nI l 8), i64 a.x, i64 a.y, i64 a.t, i64 a.f], wayVal l k] := rfl
  rw [this, hs]; rfl
theorem sub_same (a b : Int) : a + b - a = b := by omega
theorem step_calls (q : Tr) (l : LL) (a : At) (k : Int) (hs : asSl q.sky = q.sky) (h : Fine l a) (hw : FineW l k) (w : World) : Calls Try.prog 112 #[tripA q l a, wayVal l k] w fun e w' => e = .returned (stepA q l a k) ∧ Below w.heap.size w w' := by
  have := val_callsD (TT := UT) (decideL2_ok decB_ok) (Γ := { calls := [cTimeOf, cBurnt] }) (by simpa using ⟨timeOf_ok fit_UT.open, burnt_ok fit_UT.open⟩) (gas := 400) (f := 112) (aks := [tripS, .ag [K, K, K]]) (F := stepF) (v := stepVS) (D := DL) (by kernel_rfl) (envQ q l a k) w (fine_step h hw) (envQ_tab _ _ _ _) (no_rows _ _ _ rfl)
  rw [step_args q l a k hs] at this
  refine this.mono fun e w' ⟨h1, h2⟩ => ⟨?_, h2⟩
  rw [h1]
  have e : stepVS.den (envQ q l a k) = .agg #[.string q.nm, i64 (nI l 0), i64 q.fu, i64 (nI l 1), i64 (nI l 2), i64 (nI l 3), i64 (nI l 4), i64 (nI l 5), i64 (nI l 6), i64 (nI l 7), i64 q.mg, i64 q.lv, asSl q.sky, i64 (nI l 8), i64 a.x, i64 a.y, i64 a.t, i64 a.f,
    i64 a.x, i64 a.y, i64 (nI (pWays l) (3 * k)), i64 (nI (pWays l) (3 * k + 1)), i64 a.t, i64 (a.t + wayTo l a k), i64 (goOn l a k).t, i64 (goOn l a k).f,
    i64 (nI (pWays l) (3 * k)), i64 (nI (pWays l) (3 * k + 1)), i64 (nI l 6), i64 (nI l 7), i64 (goOn l a k).t, i64 ((goOn l a k).t + wayHome l (goOn l a k)), i64 ((goOn l a k).t + wayHome l (goOn l a k)), i64 ((goOn l a k).f - burnF (nI l 1) ((goOn l a k).t + wayHome l (goOn l a k) - (goOn l a k).t))] := rfl
  rw [e, hs, sub_same]; rfl
theorem home_args (q : Tr) (l : LL) (a : At) (k : Int) (hs : asSl q.sky = q.sky) : arr (envQ q l a k) (patAs 0 [tripS]) = #[tripA q l a] := by
  have : arr (envQ q l a k) (patAs 0 [tripS]) = #[.agg #[.string q.nm, i64 (nI l 0), i64 q.fu, i64 (nI l 1), i64 (nI l 2), i64 (nI l 3), i64 (nI l 4), i64 (nI l 5), i64 (nI l 6), i64 (nI l 7), i64 q.mg, i64 q.lv, asSl q.sky, i64 (nI l 8), i64 a.x, i64 a.y, i64 a.t, i64 a.f]] := rfl
  rw [this, hs]; rfl
theorem home_calls (q : Tr) (l : LL) (a : At) (hs : asSl q.sky = q.sky) (h : Fine l a) (w : World) : Calls Try.prog 115 #[tripA q l a] w fun e w' => e = .returned (legVal (homeL l a)) ∧ Below w.heap.size w w' := by
  have := val_callsD (TT := UT) (decideL2_ok decB_ok) (Γ := { calls := [cTimeOf, cBurnt] }) (by simpa using ⟨timeOf_ok fit_UT.open, burnt_ok fit_UT.open⟩) (gas := 400) (f := 115) (aks := [tripS]) (F := tripF) (v := homeV) (D := DL) (by kernel_rfl) (envQ q l a 0) w (fine_trip h) (envQ_tab _ _ _ _) (no_rows _ _ _ rfl)
  rw [home_args q l a 0 hs] at this
  refine this.mono fun e w' ⟨h1, h2⟩ => ⟨?_, h2⟩
  rw [h1]
  have e : homeV.den (envQ q l a 0) = .agg #[i64 a.x, i64 a.y, i64 (nI l 6), i64 (nI l 7), i64 a.t, i64 (a.t + wayHome l a), i64 (a.t + wayHome l a), i64 (a.f - burnF (nI l 1) (a.t + wayHome l a - a.t))] := rfl
  rw [e, sub_same]; rfl
def envA (q : Tr) (l : LL) (a : At) (k : Int) : Env := { envQ q l a k with i := fun n => [0, nI l 0, q.fu, nI l 1, nI l 2, nI l 3, nI l 4, nI l 5, nI l 6, nI l 7, q.mg, q.lv, 0, nI l 8, a.x, a.y, a.t, a.f, a.x, a.y, nI (pWays l) (3 * k), nI (pWays l) (3 * k + 1), a.t, a.t + wayTo l a k, (goOn l a k).t, (goOn l a k).f].getD n 0 }
theorem after_calls (q : Tr) (l : LL) (a : At) (k : Int) (hs : asSl q.sky = q.sky) (w : World) : Calls Try.prog 114 #[tripA q l a, legVal (legL l a k)] w fun e w' => e = .returned (tripA q l (goOn l a k)) ∧ Below w.heap.size w w' := by
  have := val_callsD (TT := UT) (decideL2_ok decB_ok) (P := Try.prog) (Γ := {}) (by simp) (gas := 400) (f := 114) (aks := [tripS, legK8]) (F := []) (v := afterVS) (D := DL) (by kernel_rfl)
    (envA q l a k) w (by simp [holds]) (envQ_tab q l a k) (no_rows _ _ _ rfl)
  have e1 : arr (envA q l a k) (patAs 0 [tripS, legK8]) =
    #[.agg #[.string q.nm, i64 (nI l 0), i64 q.fu, i64 (nI l 1), i64 (nI l 2), i64 (nI l 3), i64 (nI l 4), i64 (nI l 5), i64 (nI l 6), i64 (nI l 7), i64 q.mg, i64 q.lv, asSl q.sky, i64 (nI l 8), i64 a.x, i64 a.y, i64 a.t, i64 a.f], legVal (legL l a k)] := rfl
  rw [e1, hs] at this
  refine this.mono fun e w' ⟨h1, h2⟩ => ⟨?_, h2⟩
  have e2 : afterVS.den (envA q l a k) = .agg #[.string q.nm, i64 (nI l 0), i64 q.fu, i64 (nI l 1), i64 (nI l 2), i64 (nI l 3), i64 (nI l 4), i64 (nI l 5), i64 (nI l 6), i64 (nI l 7), i64 q.mg, i64 q.lv, asSl q.sky, i64 (nI l 8), i64 (goOn l a k).x, i64 (goOn l a k).y, i64 (goOn l a k).t, i64 (goOn l a k).f] := rfl
  rw [h1, e2, hs]; rfl
end Go.Proofs.Ytmbhjfembfidnaa.Un
