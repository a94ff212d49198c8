/- Laid tables as a law by the executor wants them: the cells of a variable out of what its data say (arrays of arrays of numbers). -/
import Derived.OpenShut
import Derived.FnData
import Derived.ProofKit
import Derived.MakeChecks
import Derived.Test.YtkhffloahpdbdaaDoorPa9
namespace Go.Proofs.YtkhffloahpdbdaaDoor.Sx
open Go Go.RowKit

def allD {α β : Type} (f : α → Option β) : List α → Option (List β)
  | [] => some []
  | d :: r => match f d with
    | some a => match allD f r with
      | some b => some (a :: b)
      | none => none
    | none => none
theorem allD_at {α β : Type} {f : α → Option β} : ∀ {l : List α} {ls : List β}, allD f l = some ls → ls.length = l.length ∧ ∀ i (h : i < l.length), ∃ b, ls[i]? = some b ∧ f l[i] = some b
  | [], ls, h => by cases h; exact ⟨rfl, fun i h => absurd h (by simp)⟩
  | d :: r, ls, h => by
    simp only [allD] at h
    cases h1 : f d with
    | none => rw [h1] at h; cases h
    | some a =>
      rw [h1] at h
      cases h2 : allD f r with
      | none => rw [h2] at h; cases h
      | some b =>
        rw [h2] at h
        cases h
        obtain ⟨e1, e2⟩ := allD_at h2
        refine ⟨by simp [e1], fun i hi => ?_⟩
        cases i with
        | zero => exact ⟨a, rfl, h1⟩
        | succ j =>
          obtain ⟨b', e3, e4⟩ := e2 j (by simpa using hi)
          exact ⟨b', by simpa using e3, by simpa using e4⟩
/-- The numbers of data, as cells. -/
def flatD (P : Program) : Nat → TypeId → DataW Unit → Option (List (IntKind × Int))
  | 0, _, _ => none
  | n + 1, t, d => match P.underlying t, d with
    | some (.int k), .lit (.int _ z) => some [(k, z)]
    | some (.array m e), .agg l => if Nat.beq l.length m && Nat.beq (P.cellsOf t) (m * P.cellsOf e) then (allD (flatD P n e) l).map List.flatten else none
    | _, _ => none
theorem chunks {α : Type} (c : Nat) : ∀ (ys : List (List α)) (cs : List α), cs.length = ys.length * c → (∀ i, i < ys.length → some ((cs.drop (i * c)).take c) = ys[i]?) → cs = ys.flatten
  | [], cs, h, _ => by
    have : cs.length = 0 := by simpa using h
    simpa using List.length_eq_zero_iff.1 this
  | y :: ys, cs, h, hi => by
    have h0 := hi 0 (by simp)
    simp only [Nat.zero_mul, List.drop_zero, List.getElem?_cons_zero, Option.some.injEq] at h0
    rw [List.length_cons, Nat.add_one_mul] at h
    have ih := chunks c ys (cs.drop c) (by rw [List.length_drop]; omega) (fun i hh => by
      have := hi (i + 1) (by simpa using hh)
      rw [List.getElem?_cons_succ] at this
      rw [← this, List.drop_drop, Nat.add_one_mul, Nat.add_comm c])
    rw [List.flatten_cons, ← ih, ← h0, List.take_append_drop]
section
variable {P : Program} {w : World} {base : Nat} {spare : Nat → Bool} {held : Bool}
theorem flat_cells : ∀ {n fuel : Nat} {t : TypeId} {cs : List Value} {d : DataW Unit} {p : List MemPlace} {l : List (IntKind × Int)}, flatD P n t d = some l → DataW.trod (fun _ => ()) P w base spare held fuel t cs = some (d, p) → cs = l.map fun q => Value.int q.1 q.2
  | 0, _, _, _, _, _, _, h, _ => by cases h
  | n + 1, fuel, t, cs, d, p, l, h, ht => by
    unfold flatD at h
    split at h
    · rename_i k _ z hu
      cases h
      obtain ⟨m, e1, e2, -⟩ := DataW.trod_int hu ht
      have e3 : (DataW.lit (.int _ z) : DataW Unit) = .lit (.int k m) := (Prod.mk.inj e2).1
      injection e3 with e3; injection e3 with e3 e4
      rw [e1, e4]; rfl
    · rename_i m e l' hu
      split at h
      · rename_i hc
        simp only [Bool.and_eq_true, Nat.beq_eq] at hc
        rw [Option.map_eq_some_iff] at h
        obtain ⟨ls, hls, rfl⟩ := h
        obtain ⟨xs, f, hf, ex, hlen, hxl, hel⟩ := DataW.trod_array hu ht
        have e1 : l' = xs.map (·.1) := DataW.agg.inj (Prod.mk.inj ex).1
        obtain ⟨a1, a2⟩ := allD_at hls
        rw [List.map_flatten]
        refine chunks (P.cellsOf e) (ls.map (List.map fun q => Value.int q.1 q.2)) cs (by rw [List.length_map, a1, hc.1, hlen, hc.2]) fun i hi => ?_
        rw [List.length_map, a1] at hi
        obtain ⟨b, hb1, hb2⟩ := a2 i hi
        have hx := hel i (by omega)
        have hxi : xs[i]? = some (l'[i], (xs[i]'(by omega)).2) := by
          rw [List.getElem?_eq_getElem (by omega)]
          subst e1
          simp
        rw [hxi] at hx
        have := flat_cells hb2 hx
        rw [List.getElem?_map, hb1, this]; rfl
      · cases h
    · cases h
end
/-- Do the tables say what the data say? -/
def tiesB (P : Program) : List (String × DataW Unit) → List (Nat × List (IntKind × Int)) → Bool
  | [], [] => true
  | (n, d) :: r, (g, l) :: s => match P.globalNamed n, (P.globals[g]?).map (·.type) with
    | some g', some t => Nat.beq g' g && decide (flatD P 9 t d = some l) && tiesB P r s
    | _, _ => false
  | _, _ => false
theorem tabs_laid {P : Program} {w : World} : ∀ {laid : List (String × DataW Unit)} {tb : List (Nat × List (IntKind × Int))} {ps : List MemPlace}, tiesB P laid tb = true → DataW.LaidVars P w laid ps → TabsAt tb w
  | [], [], _, _, _ => fun p hp => by cases hp
  | [], _ :: _, _, h, _ => by cases h
  | _ :: _, [], _, h, _ => by cases h
  | (n, d) :: r, (g, l) :: s, ps, h, hl => by
    obtain ⟨g1, t1, cs, fuel, p, q, hg, ht, hv, hd, hrest, -⟩ := hl
    simp only [tiesB, hg] at h
    split at h
    · rename_i g' t eg et
      cases eg
      simp only [Bool.and_eq_true, Nat.beq_eq, decide_eq_true_eq] at h
      obtain ⟨⟨rfl, hf⟩, hr⟩ := h
      rw [ht] at et; cases et
      have hc := flat_cells hf hd
      intro x hx
      rcases List.mem_cons.1 hx with rfl | hx
      · simp only [World.var?, hg, Option.bind_some] at hv
        split at hv
        · rename_i c t2 fr hh
          cases hv
          exact ⟨t2, fr, by rw [hh, ← hc]⟩
        · cases hv
      · exact tabs_laid hr hrest x hx
    · cases h
theorem tabs_of {P : Program} {w : World} {laid : List (String × DataW Unit)} {tb : List (Nat × List (IntKind × Int))} (hn : (laid.all fun x => x.2.handleName?.isNone) = true) (h : tiesB P laid tb = true) (hl : laidMetH P laid w) : TabsAt tb w := by
  rw [MakeChecks.laidMetH_plain _ _ _ hn] at hl
  obtain ⟨ps, hv, -⟩ := hl
  exact tabs_laid h hv
end Go.Proofs.YtkhffloahpdbdaaDoor.Sx
