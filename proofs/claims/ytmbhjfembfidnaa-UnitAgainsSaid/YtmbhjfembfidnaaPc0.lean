/- A contract whose argument is a slice of known cells that are the call's own: they are made a row first. Layer 9 (unit): Again, by the code. -/
import Derived.Test.YtmbhjfembfidnaaPb9
import Derived.Test.YtmbhjfembfidnaaPb18
section
namespace Go.Proofs.Ytmbhjfembfidnaa.Sx
open Go Go.RowKit
variable {TT : Tb}

def promK (σ : St) (e : TypeId) (kds : List Kd) : V → Option (St × V)
  | .sl b 0 [] (.c n) (.c cap) => match σ.look b with
    | some (.cells l t') => match termV kds (l.take (n.toNat * kds.length)) 0 with
      | some xs => if σ.ok = true ∧ b.own σ.own = true ∧ t' = e ∧ (0 ≤ n ∧ n ≤ cap ∧ cap ≤ maxLenZ) ∧ l.length = cap.toNat * kds.length ∧ 0 < kds.length ∧ xs.under σ.fr = true then
          some ({ σ with H := σ.H.filter (fun p => p.1 != b), R := (σ.fr, ⟨true, e, kds, .c n, xs⟩) :: σ.R, fr := σ.fr + 1 }, .var σ.fr)
        else none
      | none => none
    | _ => none
  | _ => none
theorem promK_ok {ρ : Env} {σ σ' : St} {w0 w : World} (hs : Sees TT ρ σ w0 w) {e : TypeId} {kds : List Kd} {s v : V} (h : promK σ e kds s = some (σ', v)) :
    σ.ok = true ∧ σ'.fr = σ.fr + 1 ∧ ∃ ρ', Ext σ.fr ρ ρ' ∧ v.den ρ' = s.den ρ ∧ Sees TT ρ' σ' w0 w := by
  unfold promK at h
  split at h
  case h_2 => cases h
  rename_i b n cap
  split at h
  case h_2 => cases h
  rename_i l t' hb
  split at h
  case h_2 => cases h
  rename_i xs hx
  split at h
  case isFalse => cases h
  rename_i hc
  cases h
  obtain ⟨hok, hown, rfl, ⟨n0, n1, n2⟩, hl, hsz, hxu⟩ := hc
  refine ⟨hok, rfl, ?_⟩
  have hv : (V.sl b 0 [] (.c n) (.c cap)).den ρ = .slice (some ⟨ρ.blk b, 0, none⟩) n.toNat cap.toNat := den_sl _ _ _ _ _ _
  generalize hU : (V.sl b 0 [] (.c n) (.c cap)).den ρ = u at hv ⊢
  have hex := nameV_ext ρ σ.fr u
  obtain ⟨-, hH, hF, hW, hR⟩ := ok_parts hok
  have hs' := sees_ext hex hH hF hW hR hs
  have hnew : (ρ.nameV σ.fr u).v σ.fr = u := by simp [Env.nameV]
  have hold : ∀ p ∈ σ.R, (ρ.nameV σ.fr u).v p.1 = ρ.v p.1 := fun p hp => hex.v _ (hR p hp).1
  have hbm := look_mem hb
  have hfil : ∀ q ∈ σ.H.filter (fun p => p.1 != b), q ∈ σ.H ∧ q.1 ≠ b := fun q hq => by
    obtain ⟨h1, h2⟩ := List.mem_filter.1 hq
    exact ⟨h1, by simpa using h2⟩
  have hob : u.ownBlock = some (ρ.blk b) := by rw [hv]; rfl
  have hbl : (ρ.nameV σ.fr u).blk b = ρ.blk b := blk_ext hex (hH _ hbm).1
  have hblk : w.heap[ρ.blk b]? = some (.cells (l.map (V.den ρ)).toArray t') := hs.blk _ hbm
  refine ⟨ρ.nameV σ.fr u, hex, by rw [den_var, hnew], hs'.os, hs'.tape, hs'.output, hs'.size, hs'.keep, fun p hp => hs'.blk p (hfil p hp).1, fun p hp q hq he => hs'.sep p (hfil p hp).1 q (hfil q hq).1 he, fun p hp ho => hs'.own p (hfil p hp).1 ho, fun p hp => ?_, fun p hp c hc q hq => ?_, fun p hp hpo q hq hne c hc => ?_, hs'.fact, hs'.tab, fun p hp c hc => ?_⟩
  · rcases List.mem_cons.1 hp with rfl | hp
    · unfold maxLenZ at n2
      have ht := termV_ok (ρ := ρ) hx
      have ht' : (l.take (n.toNat * kds.length)).map (V.den ρ) = cellsV kds (xs.L ρ) := ht
      have hxl : xs.L (ρ.nameV σ.fr u) = xs.L ρ := congrArg D.l (den_ext hex hxu)
      refine ⟨by simpa using n0, (show 0 < kds.length by omega), ?_⟩
      simp only [if_true, hnew, I_c, hxl, ← ht']
      refine OwnAt.of_row ⟨?_, .inr ⟨ρ.blk b, cap.toNat, (l.map (V.den ρ)).toArray, hv, hs.own _ hbm hown, hblk, by omega, ?_, by simp [hl], ?_⟩⟩
      · simp only [List.length_map, List.length_take, hl]
        exact Nat.min_eq_left (Nat.mul_le_mul_right _ (by omega))
      · omega
      · simp [List.map_take]
    · exact hs'.row p hp
  · rcases List.mem_cons.1 hp with rfl | hp
    · simp only [hnew, hob, Option.some.injEq] at hc
      subst hc
      intro he
      exact (hfil q hq).2 (hs'.sep q (hfil q hq).1 _ hbm (by rw [he, hbl]))
    · exact hs'.rsep p hp c hc q (hfil q hq).1
  · rcases List.mem_cons.1 hp with rfl | hp
    · simp only [hnew, hob, Option.some.injEq] at hc
      subst hc
      rcases List.mem_cons.1 hq with rfl | hq
      · exact absurd rfl hne
      · intro he
        exact hs'.rsep q hq _ he _ hbm hbl
    · rcases List.mem_cons.1 hq with rfl | hq
      · simp only [hnew, hob]
        intro he
        cases he
        exact hs'.rsep p hp _ hc _ hbm hbl
      · exact hs'.rown p hp hpo q hq hne c hc
  · rcases List.mem_cons.1 hp with rfl | hp
    · simp only [hnew, hob, Option.some.injEq] at hc
      subst hc
      exact .inl (hs.own _ hbm hown)
    · exact hs'.src p hp c hc
/-- The contract, where the argument i may be such a slice. -/
def ctrProm (i : Nat) (e : TypeId) (kds : List Kd) (c : Ctr) : Ctr :=
  ⟨c.f, fun args σ => match (args[i]?).bind (promK σ e kds) with
    | some (σ', v) => if σ'.ok = true ∧ (args.set i v).all (V.under σ'.fr) = true then c.run (args.set i v) σ' else none
    | none => c.run args σ⟩
theorem ctrProm_ok {P : Program} {i : Nat} {e : TypeId} {kds : List Kd} {c : Ctr} (h : CtrOk TT P c) : CtrOk TT P (ctrProm i e kds c) := fun args σ outs hr hok hu ρ w0 w R hs hg => by
  simp only [ctrProm] at hr ⊢
  split at hr
  · rename_i σ' v hp
    split at hr
    case isFalse => cases hr
    rename_i hc
    obtain ⟨s, hi, hp⟩ := Option.bind_eq_some_iff.1 hp
    obtain ⟨-, hfr, ρ1, hx, hd, hs1⟩ := promK_ok hs hp
    have hcall := h _ _ _ hr hc.1 hc.2 ρ1 w0 w R hs1 fun o ho ρ2 w2 h1 h2 => hg o ho ρ2 w2 (hx.trans h1 (by omega)) h2
    have he : arr ρ1 (args.set i v) = arr ρ args := by
      unfold arr
      congr 1
      apply List.ext_getElem?
      intro j
      simp only [List.getElem?_map, List.getElem?_set]
      by_cases hj : i = j
      · subst hj
        have hlt : i < args.length := (List.getElem?_eq_some_iff.1 hi).1
        simp only [hlt, if_true, hi, Option.map_some, hd]
      · simp only [hj, if_false]
        cases ha : args[j]? with
        | none => rfl
        | some x =>
          simp only [Option.map_some]
          rw [den_extV hx (List.all_eq_true.1 hu x (List.mem_of_getElem? ha))]
    rw [he] at hcall
    exact hcall
  · exact h _ _ _ hr hok hu ρ w0 w R hs hg
/-! ### Contracts of functions that yield a row, which is new, but need not be the call's own to append to -/
def RC.is2 (c : RC) (ρ : Env) (w w' : World) (e : Ending) : Prop :=
  (∀ a ∈ c.facts, a.B ρ = true) ∧ match c.row with
    | none => e = .returned (.tuple (.slice none 0 0 :: c.v.den ρ :: c.more.map (V.den ρ)).toArray)
    | some r => ∃ u, e = .returned (.tuple (u :: c.v.den ρ :: c.more.map (V.den ρ)).toArray) ∧ r.at ρ w.heap.size w' u ∧ ∀ b, u.ownBlock = some b → w.heap.size ≤ b
def RowDAt (P : Program) (f : FuncId) (aks : List AK) (cases : List RC) (ρ : Env) (w : World) : Prop :=
  Calls P f (arr ρ (patAs 0 aks)) w fun e w' => (∃ c ∈ cases, c.is2 ρ w w' e) ∧ Below w.heap.size w w'
theorem rowD_core {P : Program} {f : FuncId} {aks : List AK} {F : List E} {cases : List RC} (hv : cases.all (fun c => c.vals.all fun v => v.simple) = true) {args : List V} {σ : St} {outs : List Out} (hr : (ctrRowC f aks F cases).run args σ = some outs) (hok : σ.ok = true)
    {ρ : Env} {w0 w : World} {R : Ending → World → Prop} (hs : Sees TT ρ σ w0 w) (hg : ∀ o ∈ outs, GoodF TT R ρ σ.fr w0 o)
    (h : ∀ ρ, holds ρ F → TT.tab ρ.g ρ.h ρ.k ρ.m → RowsAt ρ w aks → RowDAt P f aks cases ρ w) : Calls P f (arr ρ args) w R := by
  simp only [ctrRowC] at hr
  split at hr
  case h_2 => cases hr
  rename_i vs hvX
  split at hr
  case isFalse => cases hr
  rename_i hund
  cases hr
  have hn := need_of hs hg
  have hn' : holds (ρ.assign 0 σ.R vs) F := fun e he => by rw [← subst_B]; exact hn _ (List.mem_map.2 ⟨e, he, rfl⟩)
  have hc := h (ρ.assign 0 σ.R vs) hn' hs.tab.1 (rowsAt_of (fun x r hf => hs.row _ (findR_mem hf)) hvX)
  unfold RowDAt at hc
  rw [flat_arr ρ hvX] at hc
  have hG := news_holds hs.fact hn
  refine hc.mono fun e w' ⟨⟨c, hcm, hf, he⟩, hb⟩ => ?_
  have hfa : ∀ a ∈ c.facts.map (E.subst 0 (vs.map (V.asE σ.R))), a.B ρ = true := fun a ha' => by
    obtain ⟨b, hb', rfl⟩ := List.mem_map.1 ha'
    rw [subst_B]
    exact hf b hb'
  have hmem : c ∈ (cases.filter fun c => !(c.facts.map (E.subst 0 (vs.map (V.asE σ.R)))).any fun a => decideB (news σ.F (F.map (E.subst 0 (vs.map (V.asE σ.R)))) ++ σ.F) a == some false) := by
    refine List.mem_filter.2 ⟨hcm, ?_⟩
    simp only [Bool.not_eq_true', List.any_eq_false, beq_iff_eq]
    intro a ha' hd
    have := decideB_ok hG hd
    rw [hfa a ha'] at this
    cases this
  have hF : holds ρ (((c.facts.map (E.subst 0 (vs.map (V.asE σ.R)))).flatMap fun a => fact a true) ++ (news σ.F (F.map (E.subst 0 (vs.map (V.asE σ.R)))) ++ σ.F)) := fun e he => by
    rcases List.mem_append.1 he with he | he
    · obtain ⟨a, ha', he⟩ := List.mem_flatMap.1 he
      exact fact_ok (hfa a ha') e he
    · exact hG e he
  have hsv : (c.vals.map (V.subst 0 σ.R vs)).map (V.den ρ) = c.v.den (ρ.assign 0 σ.R vs) :: c.more.map (V.den (ρ.assign 0 σ.R vs)) := by
    rw [List.map_map]
    show _ = c.vals.map (V.den (ρ.assign 0 σ.R vs))
    refine List.map_congr_left fun v hvm => ?_
    exact (substV ρ σ.R vs v (List.all_eq_true.1 (List.all_eq_true.1 hv c hcm) v hvm)).1
  have hgo := hg (RC.outOf σ vs (news σ.F (F.map (E.subst 0 (vs.map (V.asE σ.R)))) ++ σ.F) c) (List.mem_append.2 (.inr (List.mem_map.2 ⟨c, hmem, rfl⟩)))
  unfold RC.outOf at hgo
  cases hr : c.row with
  | none =>
    rw [hr] at he hgo
    simp only at he hgo
    subst he
    have := hgo ρ w' (Ext.refl _ _) ((hs.step hb).withF hF)
    simp only [V.ofL, den_tup, dens_cons, dens_ofL, hsv, den_nils] at this
    exact this
  | some r =>
    rw [hr] at he hgo
    simp only at he hgo
    obtain ⟨u, rfl, hat, hblk⟩ := he
    have hx := nameV_ext ρ σ.fr u
    have hsr := sees_res (R' := σ.R) hs hok hb u (at_base hs.size (row_subst hat)) (fun p hp => hp) (fun b hbb => .inl (hblk b hbb)) hF
    have this := hgo (ρ.nameV σ.fr u) w' hx hsr
    have e1 : (ρ.nameV σ.fr u).v σ.fr = u := by simp [Env.nameV]
    have e2 : (c.vals.map (V.subst 0 σ.R vs)).map (V.den (ρ.nameV σ.fr u)) = c.v.den (ρ.assign 0 σ.R vs) :: c.more.map (V.den (ρ.assign 0 σ.R vs)) := by
      rw [← hsv]
      refine List.map_congr_left fun v hvm => ?_
      obtain ⟨v0, hv0, rfl⟩ := List.mem_map.1 hvm
      exact den_extV hx (List.all_eq_true.1 (List.all_eq_true.1 hund c hcm) v0 hv0)
    simp only [V.ofL, den_tup, dens_cons, dens_ofL, den_var, e1, e2] at this
    exact this
theorem ctrRowD_ok {P : Program} {f : FuncId} {aks : List AK} {F : List E} {cases : List RC} (hv : cases.all (fun c => c.vals.all fun v => v.simple) = true)
    (h : ∀ ρ w, holds ρ F → TT.tab ρ.g ρ.h ρ.k ρ.m → RowsAt ρ w aks → RowDAt P f aks cases ρ w) : CtrOk TT P (ctrRowC f aks F cases) :=
  fun _ _ _ hr hok _ _ _ w _ hs hg => rowD_core hv hr hok hs hg fun ρ a b c => h ρ w a b c
end Go.Proofs.Ytmbhjfembfidnaa.Sx
end
section
namespace Go.Proofs.Ytmbhjfembfidnaa.Un
open Go Go.Proofs.Ytmbhjfembfidnaa.Sx Go.RowKit
variable {TT : Tb}
def agK : List AK := [unitK, rowK 8, .one K, rowK 3, rowK 8]
def agF : List E := unitF ++ nL 12 ++ nL 14 ++ nL 15
def agF' : List E := .le (.c 0) (.v 12) :: .le (.c 0) (.v 14) :: .le (.c 0) (.v 15) :: agF
def agIx : E := ixF 12 13
def agL (k : Nat) : E := legF 12 13 k
def agX : E := apps 3 [agL 0, agL 2, agL 4, agL 5, .v 13]
def agY : E := apps 3 [agL 1, agL 3, agL 4, agL 5, .v 13]
def agU : E := apps 8 [agL 7, .v 3, agL 6, .v 13]
def agLs (n ways : E) : E := lvE [.v 1, .v 3, .v 4, .v 5, .v 6, .v 7, .v 8, .v 9, .nthI (.lv 12) (.c 4), agX, agY, .v 13, agU, .v 15, n] (.lcat (.lv 15) ways)
def agP : E := agLs (.v 14) (.lv 14)
def ag1 : E := agLs (.c 1) (lvE [agX, agY, .c 0] .nil)
def agOk : List E := unitA ++ legsAt 12 ++ skyAt 15 ++ waysAt 14
def agRow (o : Bool) : Row := ⟨o, 51, ints 8, .add (.v 14) (.c 1), .lapp 3 agP⟩
def z0 : List V := [.i .i64 (.c 0), .i .i64 (.c 0)]
def agC (o : Bool) : List RC := [⟨none, .i .i64 (.c (-1)), [.not (conjE agOk)], [.i .i64 (.c 0), .i .i64 (.c 2)]⟩, ⟨none, .i .i64 (.c (-1)), agOk ++ [.lt agIx (.c 0)], [.i .i64 (.c 0), .i .i64 (.c 7)]⟩,
  ⟨none, .i .i64 (.c (-1)), agOk ++ [.le (.c 0) agIx, .lt (.c 30) (.v 14)], [.i .i64 (.c 0), .i .i64 (.c 3)]⟩,
  ⟨some (agRow true), .i .i64 (.c (-1)), agOk ++ [.le (.c 0) agIx, .lt (.c 0) (.v 14), .le (.v 14) (.c 30), .lt (.app 11 agP) (.c 0)], z0⟩,
  ⟨none, .i .i64 (.app 11 agP), agOk ++ [.le (.c 0) agIx, .lt (.c 0) (.v 14), .le (.v 14) (.c 30), .le (.c 0) (.app 11 agP)], [.i .i64 (.app 12 agP), .i .i64 (.c 9)]⟩,
  ⟨some (agRow o), .i .i64 (.c (-1)), agOk ++ [.le (.c 0) agIx, .le (.v 14) (.c 0), .eq (.app 17 ag1) (.c 0)], z0⟩,
  ⟨none, .i .i64 (.c 0), agOk ++ [.le (.c 0) agIx, .le (.v 14) (.c 0), .not (.eq (.app 17 ag1) (.c 0))], [.i .i64 (.app 17 ag1), .i .i64 (.c 9)]⟩]
def cAgain := ctrRowC 32 agK agF (agC true)
def agG : Ctx := { calls := [cCheckUnit, cAreLegs, cCheckWeather, cAllWays, cLegAt, cPlaceAt, cLeftAt, ctrProm 1 53 (ints 3) cFollow], keep := [(97, 39)] }
theorem ag_rows {ρ : Env} {w : World} (hR : RowsAt ρ w agK) (h : holds ρ agF) : holds ρ agF' :=
  nN_at hR (k := 12) (kds := ints 8) (by decide) (nN_at hR (k := 14) (kds := ints 3) (by decide) (G := .le (.c 0) (.v 14) :: .le (.c 0) (.v 15) :: agF) (nN_at hR (k := 15) (kds := ints 8) (by decide) h (G := .le (.c 0) (.v 15) :: agF) fun e he => by rcases List.mem_cons.1 he with h | h <;> simp [h]) fun e he => by rcases List.mem_cons.1 he with h | h <;> simp [h]) fun e he => by rcases List.mem_cons.1 he with h | h <;> simp [h]
/-! mathematics -/
theorem mul_between {d s e : Int} (h0 : 0 ≤ s) (h1 : s ≤ e) : (0 ≤ d → 0 ≤ d * s ∧ d * s ≤ d * e) ∧ (d ≤ 0 → d * e ≤ d * s ∧ d * s ≤ 0) :=
  ⟨fun hd => ⟨Int.mul_nonneg hd h0, Int.mul_le_mul_of_nonneg_left h1 hd⟩, fun hd => ⟨Int.mul_le_mul_of_nonpos_left hd h1, Int.mul_nonpos_of_nonpos_of_nonneg hd h0⟩⟩
theorem plx_le {a b st ar t M : Int} (h : st ≤ t) (ha : a ≤ M) (hb : b ≤ M) : plx true a b st ar t ≤ M := by
  unfold plx
  split
  · exact hb
  · simp only [if_true]
    obtain ⟨h1, h2⟩ := mul_between (d := b - a) (s := t - st) (e := ar - st) (by omega) (by omega)
    rcases Int.le_total 0 (b - a) with hd | hd
    · have := rdn_le (a := (b - a) * (t - st)) (b := ar - st) (c := b - a) (by omega) (h1 hd).2
      omega
    · have := rdn_le (a := (b - a) * (t - st)) (b := ar - st) (c := 0) (by omega) (by rw [Int.zero_mul]; exact (h2 hd).2)
      omega
theorem le_plx {a b st ar t M : Int} (h : st ≤ t) (ha : M ≤ a) (hb : M ≤ b) : M ≤ plx true a b st ar t := by
  unfold plx
  split
  · exact hb
  · simp only [if_true]
    obtain ⟨h1, h2⟩ := mul_between (d := b - a) (s := t - st) (e := ar - st) (by omega) (by omega)
    rcases Int.le_total 0 (b - a) with hd | hd
    · have := le_rdn (a := (b - a) * (t - st)) (b := ar - st) (c := 0) (by omega) (by rw [Int.zero_mul]; exact (h1 hd).1)
      omega
    · have := le_rdn (a := (b - a) * (t - st)) (b := ar - st) (c := b - a) (by omega) (h2 hd).1
      omega
theorem leftF_bounds {f b lv t : Int} (hf : 0 ≤ f) (hf2 : f ≤ 1073741824) (hb : 0 ≤ b) (hb2 : b ≤ 1048576) (h0 : 0 ≤ t) (ht : t ≤ lv) (hl : lv ≤ 1073741824) : 0 ≤ leftF f b lv t ∧ leftF f b lv t ≤ 1099511627776 := by
  have h1 : 0 ≤ b * (lv - t) := Int.mul_nonneg hb (by omega)
  have h2 : b * (lv - t) ≤ 1048576 * 1073741824 := Int.mul_le_mul hb2 (by omega) (by omega) (by omega)
  have h3 := le_rdn (a := b * (lv - t)) (b := 3600) (c := 0) (by omega) (by omega)
  have h4 := rdn_le (a := b * (lv - t)) (b := 3600) (c := 312749974123) (by omega) (by omega)
  unfold leftF
  omega
theorem way_same {x y : Int} (h : spotB x y = true) : way x y x y = 0 := (way_is h h ⟨by omega, by unfold sqd; simp, .inl rfl⟩).symm
theorem rup_zero {b : Int} : rup 0 b = 0 := by simp [rup]
theorem timeF_same {s x y : Int} (h : spotB x y = true) : timeF s x y x y = 0 := by rw [timeF, way_same h, Int.zero_mul, rup_zero]
theorem burnF_zero (b : Int) : burnF b 0 = 0 := by rw [burnF, Int.mul_zero, rup_zero]
theorem leg_all {l : LL} {n k : Int} (h : allTo n (legB l) = true) (h0 : 0 ≤ k) (hk : k < n) : spotB (nI l (8 * k)) (nI l (8 * k + 1)) = true ∧ spotB (nI l (8 * k + 2)) (nI l (8 * k + 3)) = true ∧ (0 ≤ nI l (8 * k + 4) ∧ nI l (8 * k + 4) ≤ 1073741824) ∧ (0 ≤ nI l (8 * k + 5) ∧ nI l (8 * k + 5) ≤ 1073741824) ∧ (0 ≤ nI l (8 * k + 6) ∧ nI l (8 * k + 6) ≤ 1073741824) ∧ (0 ≤ nI l (8 * k + 7) ∧ nI l (8 * k + 7) ≤ 1073741824) := by
  have := allTo_at h h0 hk
  simp only [legB, atB, allE, legA, spotA, timeA, btw, envAt, List.cons_append, List.nil_append, List.all_cons, List.all_nil, B_le, I_c, I_v, Bool.and_eq_true, decide_eq_true_eq, Int.cast_ofNat_Int, Int.add_zero, Nat.zero_add, Nat.reduceAdd] at this
  simp only [spotB, decide_eq_true_eq]
  omega
theorem gF_7 (n t : Int) (s1 s2 : ByteArray) (l : LL) : gF 7 ((n, s1) :: (t, s2) :: l) = legIx n t l := rfl
theorem gF_3 (a b c d e : Int) (s1 s2 s3 s4 s5 : ByteArray) : gF 3 [(a, s1), (b, s2), (c, s3), (d, s4), (e, s5)] = plx true a b c d e := rfl
theorem gF_8 (a b c d : Int) (s1 s2 s3 s4 : ByteArray) : gF 8 [(a, s1), (b, s2), (c, s3), (d, s4)] = leftF a b c d := rfl
theorem hF_2v (i : Int) (s : ByteArray) (l : LL) : Un.hF 2 ((i, s) :: l) = allTo i (legB l) := rfl
/-- One way, to where the unit is. -/
theorem stay_goes {l : LL} {a : At} (h : spotB a.x a.y = true) (hx : nI (pWays l) 0 = a.x) (hy : nI (pWays l) 1 = a.y) (hs : nI (pWays l) 2 = 0) : goOn l a 0 = a := by
  have e : wayTo l a 0 = 0 := by
    show timeF (nI l 0) a.x a.y (nI (pWays l) (3 * 0)) (nI (pWays l) (3 * 0 + 1)) = 0
    simp only [Int.mul_zero, Int.zero_add, hx, hy, timeF_same h]
  obtain ⟨x, y, t, f⟩ := a
  unfold goOn
  rw [e]
  simp only [Int.mul_zero, Int.zero_add, hx, hy, hs, Int.add_zero, Int.sub_self, burnF_zero, Int.sub_zero]
theorem plan_one {l : LL} (h14 : nI l 14 = 1) : planL l = legL l (stAt l 0) 0 ++ homeL l (stAt l 1) := by
  have h1 : legsTo l 1 = legL l (stAt l 0) 0 := by
    have := legsTo_nat l 0
    simp only [Int.natCast_zero, Int.zero_add] at this
    rw [this]
    rfl
  rw [planL, h14, h1]
  rfl
theorem plan_none {l : LL} (h14 : nI l 14 = 0) : planL l = homeL l (stAt l 0) := by
  rw [planL, h14]
  rfl
theorem home_same {l m : LL} {a : At} (h0 : nI l 0 = nI m 0) (h1 : nI l 1 = nI m 1) (h6 : nI l 6 = nI m 6) (h7 : nI l 7 = nI m 7) : homeL l a = homeL m a := by
  unfold homeL wayHome
  rw [h0, h1, h6, h7]
theorem bad_one {l : LL} (h14 : nI l 14 = 1) : badIx l = if whyB l (stAt l 0) 0 = 0 then -1 else 0 := by
  split
  · rename_i h
    exact bad_no (N := 1) h14 fun j hj => by obtain rfl : j = 0 := (by omega); exact h
  · rename_i h
    exact bad_is (N := 1) (i := 0) h14 (by omega) (fun j hj => by omega) h
end Go.Proofs.Ytmbhjfembfidnaa.Un
end
