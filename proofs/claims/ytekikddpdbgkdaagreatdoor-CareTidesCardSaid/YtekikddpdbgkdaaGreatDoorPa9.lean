/- The executor is right: code, functions; the theorem that is used. The executor in small pieces, which the kernel reckons with more quickly. The executor in use: functions without writes to old memory; contracts. Functions of rows: rows as parameters, rows as results, contracts of such functions. -/
import Derived.Test.YtekikddpdbgkdaaGreatDoorPa8
section
namespace Go.Proofs.YtekikddpdbgkdaaGreatDoor.Sx
open Go
variable {TT : Tb}
section
variable {P : Program} {Γ : Ctx}

theorem GoodC.goto {Q : Exit → Act → World → Prop} {ρ : Env} {n : Nat} {w0 : World} {o : Out} (h : GoodC TT Q ρ n w0 o) : GoodC TT (Exit.noGoto Q) ρ n w0 o := by
  intro ρ' w' hx hs
  have := h ρ' w' hx hs
  revert this
  cases o.x <;> intro this <;> exact this
theorem Sees.withTM {ρ : Env} {σ : St} {w0 w : World} (h : Sees TT ρ σ w0 w) (T : List V) (M : List Nat) : Sees TT ρ { σ with T := T, M := M } w0 w :=
  ⟨h.os, h.tape, h.output, h.size, h.keep, h.blk, h.sep, h.own, h.row, h.rsep, h.rown, h.fact, h.tab, h.src⟩
theorem fn_same {n : Nat} {ρ ρ' : Env} (hx : Ext n ρ ρ') {σ : St} (hok : σ.ok = true) (hn : n = σ.fr) {f : Operand} {g : Fn} {x y : V} (hf : evalO σ.T f = some (.fn g x y)) : x.dens ρ' = x.dens ρ ∧ y.dens ρ' = y.dens ρ := by
  subst hn
  have h1 := evalO_ok (ρ := ρ) (M := []) hf
  have h2 := evalO_ok (ρ := ρ') (M := []) hf
  have h3 : actOf ρ' σ.T [] = actOf ρ σ.T [] := actOf_ext hx (ok_parts hok).1 rfl
  rw [h3, h1, den_fn, den_fn] at h2
  injection h2 with _ h4 h5
  exact ⟨by simpa using h4.symm, by simpa using h5.symm⟩
theorem putObj_size (w : World) (b : Nat) (o : Obj) : (w.putObj b o).heap.size = w.heap.size := by simp [World.putObj]
/-- Behind a range over a function. -/
theorem after_ok {σ : St} {k l : Nat} {o : Out} {s : List Out} (h : afterRange σ k l o = some s) {ρ ρ' : Env} {w0 w' : World} {Q : Exit → Act → World → Prop} {r : Option Nat} {D : List Deferred} (hx : Ext σ.fr ρ ρ') (hs : Sees TT ρ' o.st w0 w')
    (hT : o.st.T = σ.T) (hM : o.st.M = σ.M) (hok : σ.ok = true) (hD : D ++ σ.M.map (mark ρ') = (if k = l then σ.M else k :: σ.M).map (mark ρ')) (hg : ∀ u ∈ s, GoodC TT Q ρ σ.fr w0 u) :
    match o.x with
    | .val v => rangePost (fen r) 0 P (ρ'.n l) Q { actOf ρ σ.T σ.M with defers := D ++ (actOf ρ σ.T σ.M).defers } (.returned (v.den ρ')) w'
    | .must e => e.B ρ' = true
    | _ => False := by
  unfold afterRange at h
  cases hox : o.x <;> simp only [hox] at h ⊢ <;> try (cases h; done)
  case must e =>
    cases h
    exact hg _ List.mem_cons_self ρ' w' hx hs
  case val v =>
    split at h
    · rename_i st l' hl
      split at h
      · rename_i hc
        obtain ⟨rfl, hown⟩ := hc
        have hmem := look_mem hl
        have hb : w'.heap[ρ'.n l']? = some (.loop (st.on (ρ'.c l'))) := hs.blk _ hmem
        have hnb : (st.on (ρ'.c l')).state ≠ .busy := by
          cases st <;> simp only [LS.on, ne_eq, reduceCtorEq, not_false_eq_true] <;> cases h
        have hrun := run_endLoop (P := P) hb hnb
        have hs2 : Sees TT ρ' (o.st.drop (.n l')) w0 (w'.putObj (ρ'.n l') (.loop { st.on (ρ'.c l') with state := .exhausted })) :=
          sees_drop hs (b := .n l') (List.mem_map.2 ⟨_, hmem, rfl⟩) (by simp [Bk.own, hown]) (fun j hj => World.putObj_heap_other hj) rfl rfl rfl (putObj_size _ _ _)
        have hs3 := hs2.withTM σ.T (if k = l' then σ.M else k :: σ.M)
        have hact : ({ actOf ρ σ.T σ.M with defers := D ++ (actOf ρ σ.T σ.M).defers } : Act) = actOf ρ' σ.T (if k = l' then σ.M else k :: σ.M) := by
          have e1 := actOf_ext hx (ok_parts hok).1 (ok_M hok)
          rw [← e1]
          simp only [actOf, hD]
        have hst : ({ o.st.drop (.n l') with M := if k = l' then o.st.M else k :: o.st.M } : St) = { o.st.drop (.n l') with T := σ.T, M := if k = l' then σ.M else k :: σ.M } := by
          rw [← hT, ← hM]; rfl
        refine ⟨_, _, hrun, ?_⟩
        rw [hact]
        simp only [hst] at h
        cases st with
        | ready =>
          cases h
          exact hg _ List.mem_cons_self ρ' _ hx hs3
        | ret =>
          cases h
          exact wpIn_ret (hg _ List.mem_cons_self ρ' _ hx hs3)
        | exit id =>
          cases h
          exact wpIn_exit (hg _ List.mem_cons_self ρ' _ hx hs3)
        | busy => cases h
      · cases h
    · cases h
theorem ok_range {g : Nat} (hfn : ∀ Γ', Γ'.calls = Γ.calls → OkFnG TT P Γ' g) {f : Operand} {ps : Array Tmp} {a b : Code} {σ : St} {outs : List Out} (h : go P (g + 1) Γ (.code (.rangeFunc f ps a b)) σ = some outs)
    {ρ : Env} {w0 w : World} {Q : Exit → Act → World → Prop} {r : Option Nat} (hk : Kn ρ Γ r σ.fr) (hs : Sees TT ρ σ w0 w) (hg : ∀ o ∈ outs, GoodC TT Q ρ σ.fr w0 o) : (Code.rangeFunc f ps a b).wpIn (fen r) 0 P Q (actOf ρ σ.T σ.M) w := by
  simp only [go] at h
  split at h
  case h_2 => cases h
  rename_i fid first cap hf
  split at h
  case isFalse => cases h
  rename_i hc
  simp only [Bool.and_eq_true] at hc
  obtain ⟨⟨hok, hok1⟩, hent⟩ := hc
  have hev : (actOf ρ σ.T σ.M).eval f = .func (.func fid) (first.dens ρ).toArray (cap.dens ρ).toArray := evalO_ok hf
  have key : ∀ (l : Nat) (ln : Nat) (w1 : World) (ρ2 : Env), Ext σ.fr ρ ρ2 → ρ2.n l = ln →
      (resolve (actOf ρ σ.T σ.M).eval (rangeCall f ln) 0).run P w1 = .ok { target := .fn (.func fid) (cap.dens ρ).toArray, args := (first.dens ρ).toArray ++ #[.func (.yield ln) #[] #[]] } w1 ∧
      (invoke (.fn (.func fid) (cap.dens ρ).toArray) ((first.dens ρ).toArray ++ #[.func (.yield ln) #[] #[]])).run P w1 = .ok (.enter fid (arr ρ2 (first.toL ++ [.yld (.n l)] ++ cap.toL))) w1 := fun l ln w1 ρ2 hx hl => by
    obtain ⟨e1, e2⟩ := fn_same hx hok rfl hf
    refine ⟨?_, ?_⟩
    · simp only [resolve, hev, Deferred.ofValue, Sem.run_pure]
      simp [Act.eval]
    · simp only [invoke]
      rw [callFunc_enters hent]
      congr 2
      apply Array.ext'
      simp only [arr, List.map_append, toL_dens, e1, e2, List.map_cons, List.map_nil, den_yld, Env.blk, hl]
      simp
  split at h
  · -- an outermost loop
    rename_i hrd
    have hr : r = none := by rw [hk.rd, hrd]; rfl
    subst hr
    split at h
    case h_2 => cases h
    rename_i outs1 hgo
    refine wpIn_rangeFunc (F := fen none) fun fn _ => ?_
    obtain ⟨rec, hrec⟩ : ∃ rec : Loop, rec = { state := .ready, pending := none, fn := fn, tmps := (actOf ρ σ.T σ.M).tmps, params := ps, assign := a, body := b, defers := w.heap.size } := ⟨_, rfl⟩
    have hx1 := name_ext ρ σ.fr w.heap.size
    have hs1 : Sees TT (ρ.name σ.fr w.heap.size) (σ.newB .defd) w0 (w.alloc (.deferred (some []))) := sees_new' hs hok hx1 (by simp [Env.blk, Env.name]) rfl
    have hx2 := nameC_ext (ρ.name σ.fr w.heap.size) (σ.fr + 1) (w.heap.size + 1) rec
    have hx : Ext σ.fr ρ ((ρ.name σ.fr w.heap.size).nameC (σ.fr + 1) (w.heap.size + 1) rec) := hx1.trans hx2 (Nat.le_succ _)
    have hs2 : Sees TT ((ρ.name σ.fr w.heap.size).nameC (σ.fr + 1) (w.heap.size + 1) rec) ((σ.newB .defd).newB (.loop .ready (σ.fr + 1))) w0 ((w.alloc (.deferred (some []))).alloc (.loop rec)) :=
      sees_new' hs1 hok1 hx2 (by simp [Env.blk, Env.nameC, World.size_alloc, St.newB]) (by simp only [HO.at, Env.nameC, if_true, LS.on]; rw [hrec])
    obtain ⟨ρ2, hρ2⟩ : ∃ ρ2, (ρ.name σ.fr w.heap.size).nameC (σ.fr + 1) (w.heap.size + 1) rec = ρ2 := ⟨_, rfl⟩
    have hn1 : ρ2.n (σ.fr + 1) = w.heap.size + 1 := by rw [← hρ2]; simp [Env.nameC]
    have hn0 : ρ2.n σ.fr = w.heap.size := by rw [← hρ2]; simp [Env.nameC, Env.name]
    have hc2 : ρ2.c (σ.fr + 1) = rec := by rw [← hρ2]; simp [Env.nameC]
    rw [hρ2] at hx hs2
    have hkn : Kn ρ2 { Γ with rounds := (σ.fr + 1, ⟨σ.T, ps, a, b⟩) :: Γ.rounds, rd := none } none (σ.fr + 2) := by
      refine ⟨rfl, fun q hq => (by cases hq), fun p hp => ?_⟩
      rcases List.mem_cons.1 hp with rfl | hp
      · refine ⟨by simp, ⟨σ.fr, by omega, (ok_parts hok).1⟩, ?_⟩
        simp only [hc2, hrec]
        exact ⟨(arr_ext hx (ok_parts hok).1).symm, trivial, trivial, trivial⟩
      · exact (hk.ext hx (Nat.le_add_right _ 2)).recs p hp
    obtain ⟨hst, hcall⟩ := hfn { Γ with rounds := (σ.fr + 1, ⟨σ.T, ps, a, b⟩) :: Γ.rounds, rd := none } rfl _ _ _ _ hgo
    obtain ⟨k1, k2⟩ := key (σ.fr + 1) (w.heap.size + 1) ((w.alloc (.deferred (some []))).alloc (.loop rec)) ρ2 hx hn1
    refine ⟨w.heap.size + 1, [{ target := .collected w.heap.size, args := #[] }], _, _, _, fid, _, _, ?_, k1, fun _ _ => fen_fn _ _, k2, fen_deep, fen_calls.2 ?_⟩
    · have := run_enterLoop_outer (P := P) (w := w) fn (actOf ρ σ.T σ.M).tmps ps a b
      rw [fen_round, hrec]
      exact this
    · refine hcall ρ2 w0 _ _ ⟨none, hkn⟩ hs2 fun o ho ρ' w' hx' hs' => ?_
      obtain ⟨s, hf', hsub⟩ := bindL_mem h o ho
      have hxx : Ext σ.fr ρ ρ' := hx.trans hx' (by show σ.fr ≤ σ.fr + 1 + 1; omega)
      have hn1' : ρ'.n (σ.fr + 1) = w.heap.size + 1 := (hx'.n _ (by show σ.fr + 1 < σ.fr + 1 + 1; omega)).trans hn1
      have hn0' : ρ'.n σ.fr = w.heap.size := (hx'.n _ (by show σ.fr < σ.fr + 1 + 1; omega)).trans hn0
      have := after_ok (P := P) (r := none) (D := [{ target := .collected w.heap.size, args := #[] }]) hf' hxx hs' (hst o ho).1 (hst o ho).2.1 hok (by
        rw [if_neg (by omega)]
        simp only [List.map_cons, mark, hn0', List.cons_append, List.nil_append]) fun z hz => hg z (hsub z hz)
      rw [hn1'] at this
      cases hox : o.x <;> simp only [hox] at this ⊢ <;> first | exact this | exact this.elim
  · -- within a round
    rename_i q hrd
    have hr : r = some (ρ.n q) := by rw [hk.rd, hrd]; rfl
    subst hr
    split at h
    case h_2 => cases h
    rename_i st0 k0 hlook
    split at h
    case h_2 => cases h
    rename_i outs1 hgo
    have hq : w.heap[ρ.n q]? = some (.loop (st0.on (ρ.c k0))) := hs.blk _ (look_mem hlook)
    refine wpIn_rangeFunc (F := fen (some (ρ.n q))) fun fn _ => ?_
    obtain ⟨rec, hrec⟩ : ∃ rec : Loop, rec = { state := .ready, pending := none, fn := fn, tmps := (actOf ρ σ.T σ.M).tmps, params := ps, assign := a, body := b, defers := (st0.on (ρ.c k0)).defers } := ⟨_, rfl⟩
    have hx := nameC_ext ρ σ.fr w.heap.size rec
    have hs2 : Sees TT (ρ.nameC σ.fr w.heap.size rec) (σ.newB (.loop .ready σ.fr)) w0 (w.alloc (.loop rec)) :=
      sees_new' hs hok hx (by simp [Env.blk, Env.nameC]) (by simp only [HO.at, Env.nameC, if_true, LS.on]; rw [hrec])
    obtain ⟨ρ2, hρ2⟩ : ∃ ρ2, ρ.nameC σ.fr w.heap.size rec = ρ2 := ⟨_, rfl⟩
    have hn1 : ρ2.n σ.fr = w.heap.size := by rw [← hρ2]; simp [Env.nameC]
    have hc2 : ρ2.c σ.fr = rec := by rw [← hρ2]; simp [Env.nameC]
    rw [hρ2] at hx hs2
    have hkn : Kn ρ2 { Γ with rounds := (σ.fr, ⟨σ.T, ps, a, b⟩) :: Γ.rounds, rd := none } none (σ.fr + 1) := by
      refine ⟨rfl, fun q hq => (by cases hq), fun p hp => ?_⟩
      rcases List.mem_cons.1 hp with rfl | hp
      · refine ⟨by simp, ⟨σ.fr, by omega, (ok_parts hok).1⟩, ?_⟩
        simp only [hc2, hrec]
        exact ⟨(arr_ext hx (ok_parts hok).1).symm, trivial, trivial, trivial⟩
      · exact (hk.ext hx (Nat.le_add_right _ 1)).recs p hp
    obtain ⟨hst, hcall⟩ := hfn { Γ with rounds := (σ.fr, ⟨σ.T, ps, a, b⟩) :: Γ.rounds, rd := none } rfl _ _ _ _ hgo
    obtain ⟨k1, k2⟩ := key σ.fr w.heap.size (w.alloc (.loop rec)) ρ2 hx hn1
    refine ⟨w.heap.size, [], _, _, _, fid, _, _, ?_, k1, fun _ _ => fen_fn _ _, k2, fen_deep, fen_calls.2 ?_⟩
    · have := run_enterLoop_inner (P := P) (w := w) hq fn (actOf ρ σ.T σ.M).tmps ps a b
      rw [fen_round, hrec]
      exact this
    · refine hcall ρ2 w0 _ _ ⟨none, hkn⟩ hs2 fun o ho ρ' w' hx' hs' => ?_
      obtain ⟨s, hf', hsub⟩ := bindL_mem h o ho
      have hxx : Ext σ.fr ρ ρ' := hx.trans hx' (by show σ.fr ≤ σ.fr + 1; omega)
      have hn1' : ρ'.n σ.fr = w.heap.size := (hx'.n _ (by show σ.fr < σ.fr + 1; omega)).trans hn1
      have := after_ok (P := P) (r := some (ρ.n q)) (D := []) hf' hxx hs' (hst o ho).1 (hst o ho).2.1 hok (by rw [if_pos rfl]; rfl) fun z hz => hg z (hsub z hz)
      rw [hn1'] at this
      cases hox : o.x <;> simp only [hox] at this ⊢ <;> first | exact this | exact this.elim

theorem setP_ok (ρ : Env) : ∀ (ps : List Tmp) (vs T : List V), ps.length = vs.length → ((ps.zip (vs.map (V.den ρ))).foldl (fun tmps (p : Tmp × Value) => tmps.setIfInBounds p.1 p.2) (arr ρ T)) = arr ρ (setP T ps vs)
  | [], [], T, _ => rfl
  | [], _ :: _, T, h => by cases h
  | _ :: _, [], T, h => by cases h
  | p :: ps, v :: vs, T, h => by
    have e1 : (arr ρ T).setIfInBounds p (v.den ρ) = arr ρ (T.set p v) := by simp [arr, List.map_set]
    simp only [List.map_cons, List.zip_cons_cons, List.foldl_cons, e1, setP]
    exact setP_ok ρ ps vs _ (by simpa using h)
theorem fen_in (r : Option Nat) (l : Nat) : (fen r).inRound l = fen (some l) := by cases r <;> rfl
theorem ok_round {g : Nat} (hcode : ∀ Γ', Γ'.calls = Γ.calls → OkCode TT P Γ' g) : OkRound TT P Γ (g + 1) := by
  intro l args σ outs h
  simp only [go] at h
  split at h
  · cases h
  rename_i l0 rec hfind
  have hl0 : l0 = l := by have := List.find?_some hfind; simpa using this
  subst hl0
  have hmem := List.mem_of_find?_eq_some hfind
  split at h
  case h_2 => cases h
  rename_i l' hlook
  split at h
  case isFalse => cases h
  rename_i hc
  simp only [Bool.and_eq_true, decide_eq_true_eq] at hc
  obtain ⟨⟨⟨hok, rfl⟩, hargs⟩, hlen⟩ := hc
  split at h
  case h_2 => cases h
  rename_i la hla
  refine ⟨⟨hok, fun o ho => ?_⟩, fun ρ w0 w R r hk hs hg => ?_⟩
  · obtain ⟨u, hu, s, hf, hos⟩ := bindL_mem' h o ho
    cases hux : u.x <;> simp only [hux] at hf <;> try (cases hf; done)
    case must e =>
      split at hf <;> cases hf
      cases List.mem_singleton.1 hos
      exact ⟨rfl, rfl, fun v hv => by cases hv⟩
    case norm =>
      split at hf
      case isFalse => cases hf
      split at hf
      case h_2 => cases hf
      obtain ⟨z, hz, s2, hf2, hos2⟩ := bindL_mem' hf o hos
      split at hf2
      case isFalse => cases hf2
      cases hzx : z.x <;> simp only [hzx] at hf2
      case must e =>
        cases hf2
        cases List.mem_singleton.1 hos2
        exact ⟨rfl, rfl, fun v hv => by cases hv⟩
      all_goals
        split at hf2
        case isFalse => cases hf2
        first
          | (cases hf2; cases List.mem_singleton.1 hos2; exact ⟨rfl, rfl, fun v hv => by cases hv⟩)
          | (cases hf2; done)
  · obtain ⟨hlt, ⟨m0, hm0, hTu⟩, ht1, ht2, ht3, ht4⟩ := hk.recs _ hmem
    simp only at hlt hTu ht1 ht2 ht3 ht4
    have hblk : w.heap[ρ.n l']? = some (.loop (LS.ready.on (ρ.c l'))) := hs.blk _ (look_mem hlook)
    have hyield := run_yield (P := P) (w := w) (args := arr ρ args) hblk (by simp only [arr, LS.on, ht2]; simp [hlen])
    simp only [LS.on, ht1, ht2, ht3, ht4] at hyield
    have htm : ((rec.ps.zip (arr ρ args)).foldl (fun tmps (x : Tmp × Value) => tmps.setIfInBounds x.1 x.2) (arr ρ rec.T)) = arr ρ (setP rec.T rec.ps.toList args) := by
      rw [← setP_ok ρ rec.ps.toList args rec.T (by simp [hlen]), ← Array.foldl_toList, Array.toList_zip]
      rfl
    refine ⟨_, _, _, _, hyield, roundIn_of_wpIn (fen_fn _ _) ?_⟩
    rw [fen_in]
    have hk1 := hk.round hlt
    have hact : ({ tmps := arr ρ (setP rec.T rec.ps.toList args), defers := [] } : Act) = actOf ρ (setP rec.T rec.ps.toList args) [] := rfl
    rw [htm, hact]
    refine hcode { Γ with rd := some l' } rfl rec.a _ la hla ρ w0 w _ _ hk1 (hs.withTM _ _) fun o ho ρ1 w1 hx1 hs1 => ?_
    obtain ⟨s, hf, hsub⟩ := bindL_mem h o ho
    have hn1 : ρ1.n l' = ρ.n l' := hx1.n _ hlt
    cases hox : o.x <;> simp only [hox] at hf ⊢ <;> try (cases hf; done)
    case must e =>
      split at hf
      case isFalse => cases hf
      cases hf
      exact hg _ (hsub _ List.mem_cons_self) ρ1 w1 hx1 (hs1.withTM _ _)
    case norm =>
      split at hf
      case isFalse => cases hf
      rename_i hc1
      obtain ⟨hfr1, hlook1⟩ := hc1
      split at hf
      case h_2 => cases hf
      rename_i lb hlb
      have hb1 : w1.heap[ρ.n l']? = some (.loop (LS.ready.on (ρ1.c l'))) := by rw [← hn1]; exact hs1.blk _ (look_mem hlook1)
      have hbr := run_beginRound (P := P) hb1 rfl
      refine ⟨_, hbr, ?_⟩
      have hlt1 := (Array.getElem?_eq_some_iff.1 hb1).1
      have hs2 : Sees TT ρ1 (o.st.upd (.n l') (.loop .busy l')) w0 (w1.putObj (ρ.n l') (.loop { LS.ready.on (ρ1.c l') with state := .busy })) :=
        sees_upd hs1 (List.mem_map.2 ⟨_, look_mem hlook1, rfl⟩) (by
          show (w1.putObj _ _).heap[ρ1.n l']? = _
          rw [hn1, World.putObj_heap_same hlt1]; rfl) (fun j hj => World.putObj_heap_other (by rw [← hn1]; exact hj)) rfl rfl rfl (putObj_size _ _ _)
      have hk2 : Kn ρ1 { Γ with rd := some l' } (some (ρ.n l')) o.st.fr := hk1.ext hx1 hfr1
      refine hcode { Γ with rd := some l' } rfl rec.b _ lb hlb ρ1 w0 _ _ _ hk2 hs2 fun u hu ρ2 w2 hx2 hs3 => ?_
      obtain ⟨s2, hf2, hsub2⟩ := bindL_mem hf u hu
      have hx12 : Ext σ.fr ρ ρ2 := hx1.trans hx2 hfr1
      have hn2 : ρ2.n l' = ρ.n l' := hx12.n _ hlt
      split at hf2
      case isFalse => cases hf2
      have fin : ∀ (s : LS) (j : Option Code), u.st.look (.n l') = some (.loop .busy l') → (∀ r0 : Loop, ({ LS.busy.on r0 with state := if j.isNone then .ready else .done, pending := j } : Loop) = s.on r0) →
          GoodF TT R ρ σ.fr w0 ⟨.val (.b (if j.isNone then .tt else .ff)), σ.back l' s u.st⟩ → ∃ v w', (Instr.endRound (ρ.n l') j).run P w2 = .ok v w' ∧ R (.returned v) w' := fun s j hl2 he hgd => by
        have hb2 : w2.heap[ρ.n l']? = some (.loop (LS.busy.on (ρ2.c l'))) := by rw [← hn2]; exact hs3.blk _ (look_mem hl2)
        have hlt2 := (Array.getElem?_eq_some_iff.1 hb2).1
        refine ⟨_, _, run_endRound (P := P) j hb2, ?_⟩
        have hs4 : Sees TT ρ2 (u.st.upd (.n l') (.loop s l')) w0 (w2.putObj (ρ.n l') (.loop { LS.busy.on (ρ2.c l') with state := if j.isNone then .ready else .done, pending := j })) :=
          sees_upd hs3 (List.mem_map.2 ⟨_, look_mem hl2, rfl⟩) (by
            show (w2.putObj _ _).heap[ρ2.n l']? = _
            rw [hn2, World.putObj_heap_same hlt2, he]) (fun j hj => World.putObj_heap_other (by rw [← hn2]; exact hj)) rfl rfl rfl (putObj_size _ _ _)
        have := hgd ρ2 _ hx12 (hs4.withTM σ.T σ.M)
        simp only at this
        cases j <;> exact this
      cases hux : u.x <;> simp only [hux] at hf2 ⊢
      case must e =>
        cases hf2
        exact hg _ (hsub _ (hsub2 _ List.mem_cons_self)) ρ2 w2 hx12 (hs3.withTM _ _)
      case norm =>
        split at hf2
        case isFalse => cases hf2
        rename_i hl2
        cases hf2
        exact fin .ready none hl2 (fun r0 => rfl) (hg _ (hsub _ (hsub2 _ List.mem_cons_self)))
      case ret =>
        split at hf2
        case isFalse => cases hf2
        rename_i hl2
        cases hf2
        exact fin .ret (some .ret) hl2 (fun r0 => rfl) (hg _ (hsub _ (hsub2 _ List.mem_cons_self)))
      case exit id =>
        split at hf2
        case isFalse => cases hf2
        rename_i hl2
        cases hf2
        exact fin (.exit id) (some (.exit id)) hl2 (fun r0 => rfl) (hg _ (hsub _ (hsub2 _ List.mem_cons_self)))
      all_goals
        split at hf2
        case isFalse => cases hf2
        cases hf2
theorem ok_code {g : Nat} (hcode : OkCode TT P Γ g) (hseq : OkSeq TT P Γ g) (hany : OkAny TT P Γ g) (hun : OkUnroll TT P Γ g) (hfn : ∀ Γ', Γ'.calls = Γ.calls → OkFnG TT P Γ' g) : OkCode TT P Γ (g + 1) := by
  intro c σ outs h ρ w0 w Q r hk hs hg
  cases c with
  | skip => simp only [go] at h; cases h; exact wpIn_skip (hg _ List.mem_cons_self ρ w (Ext.refl _ _) hs)
  | label l => simp only [go] at h; cases h; exact wpIn_label (hg _ List.mem_cons_self ρ w (Ext.refl _ _) hs)
  | ret => simp only [go] at h; cases h; exact wpIn_ret (hg _ List.mem_cons_self ρ w (Ext.refl _ _) hs)
  | exit id => simp only [go] at h; cases h; exact wpIn_exit (hg _ List.mem_cons_self ρ w (Ext.refl _ _) hs)
  | seq a b =>
    simp only [go] at h
    split at h
    · rename_i l hl
      refine wpIn_seq (hcode a σ l hl ρ w0 w _ r hk hs fun u hu ρ' w' hx hs' => ?_)
      obtain ⟨s, hf, hsub⟩ := bindL_mem h u hu
      cases hux : u.x with
      | norm =>
        simp only [hux] at hf ⊢
        split at hf
        · rename_i hfr
          exact hcode b u.st s hf ρ' w0 w' Q r (hk.ext hx hfr) hs' fun z hz => (hg z (hsub z hz)).ext hx hfr
        · cases hf
      | _ =>
        simp only [hux] at hf ⊢
        cases hf
        have := hg u (hsub u List.mem_cons_self) ρ' w' hx hs'
        rw [hux] at this
        exact this
    · cases h
  | block id c =>
    simp only [go] at h
    split at h
    · rename_i l hl
      cases h
      refine wpIn_block (hcode c σ l hl ρ w0 w _ r hk hs fun u hu ρ' w' hx hs' => ?_)
      have := hg _ (List.mem_map.2 ⟨u, hu, rfl⟩)
      by_cases he : u.x = .exit id
      · rw [if_pos he] at this
        rw [he]
        show Exit.inBlock id Q (.exit id) _ _
        simp only [Exit.inBlock, if_true]
        exact this ρ' w' hx hs'
      · rw [if_neg he] at this
        have := this ρ' w' hx hs'
        revert this he
        cases u.x <;> intro he this
        case exit id' =>
          show Exit.inBlock id Q (.exit id') _ _
          have : ¬ id' = id := fun e => he (by rw [e])
          simp only [Exit.inBlock, this, if_false]
          assumption
        all_goals exact this
    · cases h
  | scope c =>
    simp only [go] at h
    exact scopeIn (hcode c σ outs h ρ w0 w _ r hk hs fun u hu => (hg u hu).goto)
  | cond q a b =>
    simp only [go] at h
    split at h
    · rename_i e he
      have hev : (actOf ρ σ.T σ.M).eval q = .bool (e.B ρ) := evalO_ok he
      split at h
      · rename_i hd
        refine wpIn_cond hev ?_
        rw [decideB_ok hs.fact hd]
        exact hcode a σ outs h ρ w0 w Q r hk hs hg
      · rename_i hd
        refine wpIn_cond hev ?_
        rw [decideB_ok hs.fact hd]
        exact hcode b σ outs h ρ w0 w Q r hk hs hg
      · split at h
        · rename_i x y h1 h2
          cases h
          refine wpIn_cond hev ?_
          cases hb : e.B ρ with
          | true => exact hcode a (σ.know e true) x h1 ρ w0 w Q r hk (hs.know hb) fun u hu => hg u (List.mem_append.2 (.inl hu))
          | false => exact hcode b (σ.know e false) y h2 ρ w0 w Q r hk (hs.know hb) fun u hu => hg u (List.mem_append.2 (.inr hu))
        · cases h
    · cases h
  | region id ops draw =>
    cases draw with
    | false =>
      simp only [go] at h
      exact wpIn_region (hseq ops _ σ outs h ρ w0 w Q r hk hs hg)
    | true =>
      simp only [go] at h
      split at h
      · rename_i hc
        simp only [Bool.and_eq_true] at hc
        split at h
        · rename_i l hl
          cases h
          refine wpIn_mono (regionR (Q := strong Q) hc.1.1 (S := Held []) ?_) (fun _ _ _ => strong_out)
          have hs' : Sees TT ρ σ w0 { w with drawn := w.drawn + 1 } := hs.drew _
          have hpl : ∀ (j : Nat) (o : Oper), ops[j]? = some o → Plain r o := fun j o ho => by
            cases hr : Γ.rd with
            | none => left; rw [hk.rd, hr]; rfl
            | some q =>
              right
              have h3 := hc.2
              simp only [hr, Option.isNone_some, Bool.false_or, Array.all_eq_true_iff_forall_mem] at h3
              simpa using h3 o (Array.mem_of_getElem? ho)
          exact hany ops _ _ [] σ l hl hc.1.2 ρ w0 _ Q [] r hpl hk hs' (fun p hp => by cases hp) (fun p hp => by cases hp) fun u hu => hg u (List.mem_eraseDups.2 hu)
        · cases h
      · cases h
  | loop c =>
    simp only [go] at h
    split at h
    · split at h
      · rename_i σI ms hin
        split at h
        · rename_i l hl
          split at h
          · rename_i r hb
            cases h
            exact ok_loop hcode hin hl hb hk hs hg
          · cases h
        · cases h
      · cases h
    · exact wp_rounds (hun c σ outs h ρ w0 w Q r hk hs hg)
  | rangeFunc f ps a b => exact ok_range hfn h hk hs hg
  | goto l => simp only [go] at h; cases h
  | refuse s => simp only [go] at h; cases h

theorem tupV_ok (ρ : Env) (l : List V) : (tupV l).den ρ = (if h : (arr ρ l).size = 1 then (arr ρ l)[0] else .tuple (arr ρ l)) := by
  match l with
  | [] => simp [tupV, den_tup, arr, V.ofL, dens_nil]
  | [x] => simp [tupV, arr]
  | x :: y :: l =>
    have : ¬ (arr ρ (x :: y :: l)).size = 1 := by simp [arr]
    rw [dif_neg this]
    show V.den ρ (.tup (V.ofL (x :: y :: l))) = _
    rw [den_tup, dens_ofL]; rfl
theorem resV_ok {ρ : Env} {σ : St} {w0 w : World} (hs : Sees TT ρ σ w0 w) (F : ResultVar → Sem Value) (F1 : ∀ t, F (.tmp t) = pure ((actOf ρ σ.T σ.M).tmps.getD t undef))
    (F2 : ∀ a t, F (.cell a t) = (do loadVar t (← asAddr ((actOf ρ σ.T σ.M).tmps.getD a undef)))) : ∀ {l : List ResultVar} {vs : List V}, resV P σ l = some vs → (l.mapM F).run P w = .ok (vs.map (V.den ρ)) w
  | [], vs, h => by cases h; rfl
  | .tmp t :: l, vs, h => by
    simp only [resV] at h
    split at h
    · rename_i a b h1 h2
      cases h
      have : (actOf ρ σ.T σ.M).tmps.getD t undef = a.den ρ := by simp [actOf, h1]
      simp only [List.mapM_cons, F1, this, Sem.run_bind, Sem.run_pure, Result.andThen_ok]
      rw [resV_ok hs F F1 F2 h2]; rfl
    · cases h
  | .cell a t :: l, vs, h => by
    simp only [resV] at h
    split at h
    · rename_i p b h1 h2
      split at h
      · rename_i v hv
        cases h
        have hp : (actOf ρ σ.T σ.M).tmps.getD a undef = p.den ρ := by simp [actOf, h1]
        have hl := loadV_ok (P := P) hs hv
        have hpp : ∃ x, p.den ρ = .pointer (some x) := by
          unfold loadV at hv
          split at hv
          · split at hv
            · split at hv
              · rename_i hc _
                obtain ⟨a, ha, -⟩ := cellAt_ok hs hc
                exact ⟨a, ha⟩
              · cases hv
            · obtain ⟨a, ha, -⟩ := cellAt_ok hs hv
              exact ⟨a, ha⟩
            · cases hv
          · cases hv
        obtain ⟨x, hx⟩ := hpp
        simp only [Instr.loadAt, hx, Instr.sureAddr, Sem.run_bind, Sem.run_pure, Result.andThen_ok] at hl
        have ha : asAddr (.pointer (some x)) = pure x := rfl
        simp only [List.mapM_cons, F2, hp, hx, ha, Sem.run_bind, Sem.run_pure, Result.andThen_ok, hl]
        rw [resV_ok hs F F1 F2 h2]; rfl
      · cases h
    · cases h
theorem results_ok {ρ : Env} {σ : St} {w0 w : World} (hs : Sees TT ρ σ w0 w) {fn : Func} {vs : List V} (h : resV P σ fn.results.toList = some vs) : (results fn (actOf ρ σ.T σ.M).tmps).run P w = .ok ((tupV vs).den ρ) w := by
  unfold results
  rw [Sem.run_bind, Array.mapM_eq_mapM_toList]
  simp only [Sem.run_map]
  rw [resV_ok (P := P) hs _ (fun _ => rfl) (fun _ _ => rfl) h]
  simp only [Result.andThen_ok, Sem.run_pure, tupV_ok]
  rfl

/-- A function leaves with marks. -/
theorem leaves_marks {fn : Func} {tmps : Array Value} {R : Ending → World → Prop} {ρ : Env} {w0 : World} : ∀ (M : List Nat) (σ τ : St) (w : World), dropM M σ = some τ → Sees TT ρ σ w0 w → (∀ w', Sees TT ρ τ w0 w' → ∃ v, (results fn tmps).run P w' = .ok v w' ∧ R (.returned v) w') →
    LeavesInM Fence.wide 0 P fn tmps R (M.map (mark ρ)) .returning w
  | [], σ, τ, w, h, hs, hr => by cases h; exact hr w hs
  | k :: ks, σ, τ, w, h, hs, hr => by
    simp only [dropM] at h
    split at h
    · rename_i hc
      have hmem := look_mem hc.1
      have hb : w.heap[ρ.n k]? = some (.deferred (some [])) := hs.blk _ hmem
      refine ⟨by simp, .inl ⟨ρ.n k, _, rfl, run_takeDeferred (P := P) hb, ?_⟩⟩
      exact leaves_marks ks _ τ _ h (sees_drop hs (b := .n k) (List.mem_map.2 ⟨_, hmem, rfl⟩) (by simp [Bk.own, hc.2]) (fun j hj => World.putObj_heap_other hj) rfl rfl rfl (putObj_size _ _ _)) hr
    · cases h
theorem dropM_same : ∀ {M : List Nat} {σ τ : St}, dropM M σ = some τ → τ.T = σ.T ∧ τ.fr = σ.fr
  | [], σ, τ, h => by cases h; exact ⟨rfl, rfl⟩
  | k :: ks, σ, τ, h => by
    simp only [dropM] at h
    split at h
    · have h2 := dropM_same (M := ks) h
      exact h2
    · cases h
theorem ok_fn {g : Nat} (hΓ : ∀ q ∈ Γ.calls, CtrOk TT P q) (hcode : ∀ Γ', Γ'.calls = Γ.calls → OkCode TT P Γ' g) : OkFnG TT P Γ (g + 1) := by
  intro f args σ outs h
  simp only [go] at h
  split at h
  · rename_i q hq
    split at h
    · rename_i l hl
      split at h
      · rename_i hc
        cases h
        simp only [Bool.and_eq_true, Nat.ble_eq] at hc
        obtain ⟨⟨h1, h2⟩, h3⟩ := hc
        rw [List.all_eq_true] at h3
        refine ⟨fun o ho => ?_, fun ρ w0 w R hk hs hg => ?_⟩
        · obtain ⟨u, hu, rfl⟩ := List.mem_map.1 ho
          exact ⟨rfl, rfl, by simpa [Nat.ble_eq] using h3 u hu⟩
        · have hf : q.f = f := by have := List.find?_some hq; simpa using this
          rw [← hf]
          exact hΓ q (List.mem_of_find?_eq_some hq) args σ _ hl h1 (bdL_under h2) ρ w0 w R hs fun u hu ρ' w' hx hs' => hg _ (List.mem_map.2 ⟨u, hu, rfl⟩) ρ' w' hx (hs'.withTM _ _)
      · cases h
    · cases h
  · split at h
    · rename_i fn hfn
      split at h
      · rename_i c hb
        split at h
        · rename_i l hl
          refine ⟨fun o ho => ?_, fun ρ w0 w R hk hs hg => ?_⟩
          · obtain ⟨u, hu, s, hf, hos⟩ := bindL_mem' h o ho
            split at hf
            · rename_i hfr
              cases hux : u.x <;> simp only [hux] at hf <;> try (cases hf; done)
              case must =>
                cases hf
                cases List.mem_singleton.1 hos
                exact ⟨rfl, rfl, hfr⟩
              case panic =>
                split at hf <;> cases hf
                cases List.mem_singleton.1 hos
                exact ⟨rfl, rfl, hfr⟩
              all_goals
                split at hf
                case h_2 => cases hf
                rename_i τ hτ
                split at hf <;> cases hf
                cases List.mem_singleton.1 hos
                exact ⟨rfl, rfl, by show σ.fr ≤ (St.gc _ _ _).fr; rw [gc_fr, (dropM_same hτ).2]; exact hfr⟩
            · cases hf
          · obtain ⟨rr, hk⟩ := hk
            refine callsIn_wide.1 (callsIn_of_wp_marks (F := Fence.wide) (n := 0) hfn hb trivial ?_)
            have hact : (⟨arr ρ args ++ Array.replicate (fn.ntmps - (arr ρ args).size) undef, []⟩ : Act) = actOf ρ (args ++ List.replicate (fn.ntmps - args.length) undefV) [] := by
              simp only [actOf, arr, List.map_append, List.map_replicate, undef_den, List.map_nil]
              congr 1
              apply Array.ext'
              simp
            rw [hact]
            refine hcode { Γ with rd := none } rfl c _ l hl ρ w0 w _ none hk.plain (hs.withTM _ _) fun u hu ρ' w' hx hs' => ?_
            obtain ⟨s, hf, hsub⟩ := bindL_mem h u hu
            split at hf
            · rename_i hfr
              cases hux : u.x <;> simp only [hux] at hf ⊢ <;> try (cases hf; done)
              case must =>
                cases hf
                exact hg _ (hsub _ List.mem_cons_self) ρ' w' hx (hs'.withTM _ _)
              case panic =>
                split at hf
                case isFalse => cases hf
                rename_i hM
                cases hf
                intro a ha
                show LeavesInM Fence.wide 0 P fn a.tmps R a.defers (.panicking _) w'
                rw [ha]
                exact hg _ (hsub _ List.mem_cons_self) ρ' w' hx (hs'.withTM _ _)
              all_goals
                split at hf
                case h_2 => cases hf
                rename_i τ hτ
                split at hf <;> cases hf
                rename_i vs hv
                refine leaves_marks u.st.M u.st τ w' hτ hs' fun w2 hs2 => ?_
                refine ⟨_, ?_, hg _ (hsub _ List.mem_cons_self) ρ' w2 hx ((sees_gc hs2 _ _).withTM _ _)⟩
                have := results_ok (P := P) hs2 hv
                rw [(dropM_same hτ).1] at this
                exact this
            · cases hf
        · cases h
      · cases h
    · cases h

theorem go_ok {calls : List Ctr} (hΓ : ∀ q ∈ calls, CtrOk TT P q) : ∀ g Γ, Γ.calls = calls → OkCode TT P Γ g ∧ OkOp TT P Γ g ∧ OkSeq TT P Γ g ∧ OkAny TT P Γ g ∧ OkFnG TT P Γ g ∧ OkUnroll TT P Γ g ∧ OkRound TT P Γ g
  | 0, Γ, _ => by
    refine ⟨fun c σ outs h => ?_, fun o σ outs h => ?_, fun a l σ outs h => ?_, fun a n li K σ outs h => ?_, fun f as σ outs h => ?_, fun c σ outs h => ?_, fun l as σ outs h => ?_⟩ <;> simp only [go] at h <;> cases h
  | g + 1, Γ, hc => by
    have ih := fun Γ' (h : Γ'.calls = Γ.calls) => go_ok hΓ g Γ' (h.trans hc)
    obtain ⟨h1, h2, h3, h4, h5, h6, h7⟩ := ih Γ rfl
    exact ⟨ok_code h1 h3 h4 h6 fun Γ' h => (ih Γ' h).2.2.2.2.1, ok_op h2 h5 h7, ok_seq h2 h3, ok_any h2 h4, ok_fn (by rw [hc]; exact hΓ) fun Γ' h => (ih Γ' h).1, ok_unroll h1 h6, ok_round fun Γ' h => (ih Γ' h).1⟩

def Ctx.top (Γ : Ctx) : Ctx := { Γ with rounds := [], rd := none }
theorem known_top (Γ : Ctx) (ρ : Env) (m : Nat) : Known Γ.top ρ m := ⟨none, ⟨rfl, (fun q hq => by cases hq), (fun p hp => by cases hp)⟩⟩
/-- **A FUNCTION's CALL**: what the executor says of it holds. -/
theorem sx_call (hΓ : ∀ q ∈ Γ.calls, CtrOk TT P q) {g : Nat} {f : FuncId} {args : List V} {σ : St} {outs : List Out} (h : go P g Γ.top (.fn f args) σ = some outs) {ρ : Env} {w : World} {as : Array Value} (ha : as = arr ρ args)
    (hH : σ.H = []) (hW : σ.W = []) (hR : σ.R = []) (hF : holds ρ σ.F) (hT : TT.tab ρ.g ρ.h ρ.k ρ.m ∧ TT.J w) {R : Ending → World → Prop} (hg : ∀ o ∈ outs, GoodF TT R ρ σ.fr w o) : Calls P f as w R := by
  rw [ha]
  exact ((go_ok hΓ g Γ.top rfl).2.2.2.2.1 f args σ outs h).2 ρ w w R (known_top _ _ _) (Sees.start ρ σ w hH hW hR hF hT) hg
end
end Go.Proofs.YtekikddpdbgkdaaGreatDoor.Sx
end
section
namespace Go.Proofs.YtekikddpdbgkdaaGreatDoor.Sx
open Go

def nthL {α : Type} : List α → Nat → Option α
  | [], _ => none
  | a :: l, n => match n with | 0 => some a | m + 1 => nthL l m
theorem nthL_eq {α : Type} : ∀ (l : List α) (n : Nat), nthL l n = l[n]?
  | [], _ => rfl
  | a :: l, 0 => rfl
  | a :: l, n + 1 => by rw [nthL, nthL_eq l n]; simp
theorem nthA {α : Type} (l : Array α) (n : Nat) : nthL l.toList n = l[n]? := by rw [nthL_eq]; simp
def evalK : Operand → List V → Option V
  | .tmp t => fun T => nthL T t
  | .const v => fun _ => ofV v
  | .global g => fun _ => some (.ptr (.g g) 0 [])
  | .func f => fun _ => some (.fn (.func f) .nil .nil)
def evalF (T : List V) (x : Operand) : Option V := evalK x T
theorem evalF_eq (T : List V) (x : Operand) : evalF T x = evalO T x := by cases x <;> simp [evalF, evalK, evalO, nthL_eq]

/-! ### Values -/
def fMove (_F : List E) (RR : List (Nat × Row)) (T : List V) (y : Operand) : Option R := match evalF T y with
  | some (.rsl x) => (match findR RR x with | some _ => some (.val (.var x)) | none => some (.val (.rsl x)))
  | some v => some (.val v)
  | none => none
def fAssign (T : List V) (y : Operand) : Option R := (evalF T y).map .val
def fPick (F : List E) (T : List V) (q a b : Operand) : Option R := match evalF T q with
  | some (.b e) => match decideB F e with | some true => (evalF T a).map .val | some false => (evalF T b).map .val | none => some (.split e)
  | _ => none
def fBin (P : Program) (F : List E) (T : List V) (op : BinOp) (t : TypeId) (x y : Operand) : Option R := match evalF T x, evalF T y with
  | some a, some b => (match structR P F op t a b with | some r => some r | none => binR P F op t a b)
  | _, _ => none
def fField (P : Program) (T : List V) (t : TypeId) (x : Operand) (n : Nat) : Option R := match evalF T x with | some a => fieldR P t n a | _ => none
def fNil (F : List E) (RR : List (Nat × Row)) (T : List V) (x : Operand) : Option R := match evalF T x with
  | some (.rptr v k l) => (match findR RR v with | some r => if someR F r l then some (.val (.rptr v k l)) else none | none => none)
  | some (.ptr b k l) => some (.val (.ptr b k l))
  | some (.fn (.func f) a b) => some (.val (.fn (.func f) a b))
  | _ => none
def opK : Op → Program → St → Oper → Option R
  | .move y => fun _ σ _ => fMove σ.F σ.R σ.T y
  | .assign y => fun _ σ _ => fAssign σ.T y
  | .pick q a b => fun _ σ _ => fPick σ.F σ.T q a b
  | .binOp op t x y _ => fun P σ _ => fBin P σ.F σ.T op t x y
  | .field t x n => fun P σ _ => fField P σ.T t x n
  | .nilCheck x => fun _ σ _ => fNil σ.F σ.R σ.T x
  | .load _ _ | .store _ _ _ | .alloc _ | .box _ _ | .buildSlice _ _ _ | .makeSlice _ _ _ | .makeMap _ _ | .insert _ _ _ _ | .mapUpdate _ _ _ _ | .lookup _ _ _ _ | .panic _ => fun _ _ _ => none
  | .call c => match c.callee with | .value _ => fun _ _ _ => none | _ => fun P σ o => opW P σ o
  | _ => fun P σ o => opW P σ o
def opF (P : Program) (σ : St) (o : Oper) : Option R := opK o.op P σ o
theorem opF_eq (P : Program) (σ : St) (o : Oper) : opF P σ o = opW P σ o := by
  unfold opF
  cases hop : o.op <;> simp only [opK]
  case move y =>
    simp only [opW, rowR, opV, hop, fMove, evalF_eq]
    cases evalO σ.T y with
    | none => rfl
    | some v =>
      cases v <;> try rfl
      rename_i x
      simp only
      cases findR σ.R x <;> rfl
  case assign => simp only [opW, rowR, opV, hop, fAssign, evalF_eq]
  case pick => simp only [opW, rowR, opV, hop, fPick, evalF_eq]; rfl
  case binOp => simp only [opW, rowR, opV, hop, fBin, evalF_eq]; rfl
  case field => simp only [opW, rowR, opV, hop, fField, evalF_eq]; rfl
  case nilCheck x =>
    simp only [opW, rowR, opV, hop, fNil, evalF_eq]
    cases evalO σ.T x with
    | none => rfl
    | some v =>
      cases v
      case fn f a b => cases f <;> rfl
      case rptr x k l =>
        simp only
        cases findR σ.R x with
        | none => rfl
        | some r => simp only; split <;> rfl
      all_goals rfl
  case call c =>
    obtain ⟨cl, ag, ts⟩ := c
    cases cl <;> first
      | rfl
      | simp only [opW, rowR, opV, hop]
  all_goals first
    | rfl
    | simp only [opW, rowR, opV, hop]

/-! ### Regions that draw their order -/
def guardF (ops : List Oper) (σ : St) (o : Oper) : Option (Bool ⊕ E) :=
  match o.guard with
  | none => some (.inl true)
  | some (j, want) =>
    match (nthL ops j).bind (·.dst) with
    | none => some (.inl false)
    | some d => match nthL σ.T d with
      | some (.b e) => match decideB σ.F e with | some b => some (.inl (b == want)) | none => some (.inr e)
      | some (.tup _) => some (.inl false)
      | some (.i _ _) => some (.inl false)
      | _ => none
theorem guardF_eq (ops : Array Oper) (σ : St) (o : Oper) : guardF ops.toList σ o = guardV ops σ o := by
  simp only [guardF, guardV, nthA]
  simp only [nthL_eq]
  rfl
def readyF (ops : List Oper) (L : List Bool) : List Nat :=
  (List.range ops.length).filter fun i => !(nthL L i).getD true && ((nthL ops i).map fun o => o.after.toList.all fun e => !Region.binds .any e || (nthL L e.on).getD false).getD false
theorem readyF_eq (ops : Array Oper) (listed : Array Bool) : readyF ops.toList listed.toList = Region.ready .any ops listed := by
  unfold readyF Region.ready
  rw [Array.length_toList]
  apply List.filter_congr
  intro i _
  simp only [nthA, Array.getD_eq_getD_getElem?]
  congr 2
  cases ops[i]? with
  | none => rfl
  | some o => simp only [Option.map_some, Array.all_toList]
def looksF (ops : List Oper) (o : Oper) : List Tmp :=
  (o.op.operands.toList.filterMap fun | .tmp t => some t | _ => none) ++
  (match o.guard with
   | some (g, _) => ((nthL ops g).bind (·.dst)).toList
   | none => [])
theorem looksF_eq (ops : Array Oper) (o : Oper) : looksF ops.toList o = o.looksAt ops := by simp only [looksF, Oper.looksAt, nthA]; rfl
def apartF (ops : List Oper) (x y : Oper) : Bool :=
  (match x.dst with
   | some d => !(looksF ops y).contains d && y.dst != some d
   | none => true) &&
  (match y.dst with
   | some d => !(looksF ops x).contains d
   | none => true)
theorem apartF_eq (ops : Array Oper) (x y : Oper) : apartF ops.toList x y = x.apart ops y := by simp only [apartF, Oper.apart, looksF_eq]; rfl
def freeF (ops : List Oper) (L : List Bool) (i : Nat) : Bool :=
  match nthL ops i with
  | none => false
  | some oi => (List.range ops.length).all fun j => j == i || (nthL L j).getD true || match nthL ops j with
      | some oj => oj.after.toList.any (fun e => Region.binds .any e && e.on == i) || apartF ops oi oj
      | none => true
theorem freeF_eq (ops : Array Oper) (listed : Array Bool) (i : Nat) : freeF ops.toList listed.toList i = Region.free .any ops listed i := by
  unfold freeF Region.free
  simp only [nthA, Array.getD_eq_getD_getElem?, Array.length_toList, apartF_eq, Array.any_toList]
  rfl
def pickF (P : Program) (ops : Array Oper) (listed : Array Bool) (σ : St) : List Nat → Pick
  | [] => .none
  | i :: rest =>
    match nthL ops.toList i with
    | none => .none
    | some o =>
      match guardF ops.toList σ o with
      | some (.inl false) => if freeF ops.toList listed.toList i then .take i undefV [] else pickF P ops listed σ rest
      | some (.inr e) => .split e
      | some (.inl true) =>
        if freeF ops.toList listed.toList i then
          match opF P σ o with
          | some (.val v) => .take i v []
          | some (.need e) => .need e
          | some (.split e) => .split e
          | none => match o.op with
            | .load t x => match evalF σ.T x with
              | some p => match loadV P σ t p with
                | some v => if hits ops listed σ p then pickF P ops listed σ rest else .take i v (loadK P σ t p)
                | none => pickF P ops listed σ rest
              | none => pickF P ops listed σ rest
            | _ => pickF P ops listed σ rest
        else pickF P ops listed σ rest
      | none => pickF P ops listed σ rest
theorem pickF_eq (P : Program) (ops : Array Oper) (listed : Array Bool) (σ : St) : ∀ l, pickF P ops listed σ l = pickOp P ops listed σ l
  | [] => rfl
  | i :: rest => by simp only [pickF, pickOp, nthA, guardF_eq, freeF_eq, opF_eq, evalF_eq, pickF_eq P ops listed σ rest]; rfl
def setL : List Bool → Nat → List Bool
  | [], _ => []
  | b :: l, n => match n with | 0 => true :: l | m + 1 => b :: setL l m
theorem setL_eq : ∀ (l : List Bool) (n : Nat), setL l n = l.set n true
  | [], _ => rfl
  | b :: l, 0 => rfl
  | b :: l, n + 1 => by rw [setL, setL_eq l n]; rfl
def listF (listed : Array Bool) (i : Nat) : Array Bool := ⟨setL listed.toList i⟩
theorem listF_eq (listed : Array Bool) (i : Nat) : listF listed i = listed.setIfInBounds i true := by
  apply Array.ext'
  simp [listF, setL_eq]

/-! ### Operations that change memory -/
def fLoad (P : Program) (σ : St) (t : TypeId) (x : Operand) : Option (List Out) := match evalF σ.T x with
  | some p => match loadV P σ t p with | some v => some [⟨.val v, σ⟩] | none => none
  | none => none
def fStore (P : Program) (σ : St) (t : TypeId) (a x : Operand) : Option (List Out) := match evalF σ.T a, evalF σ.T x with
  | some p, some v => match storeS P σ t p (toR σ.R v) with
    | some σ' => some [⟨.val undefV, σ'⟩]
    | none => match storeRS P σ t p v with | some σ' => some [⟨.val undefV, σ'⟩] | none => none
  | _, _ => none
def fAlloc (P : Program) (σ : St) (t : TypeId) : Option (List Out) := match zeroV P t with
  | some z => match z.cells with
    | some l => if σ.ok && decide (σ.own ≤ σ.fr) then some [⟨.val (.ptr (.n σ.fr) 0 []), σ.newB (.cells l t)⟩] else none
    | none => none
  | none => none
def fBox (σ : St) (t : TypeId) (x : Operand) : Option (List Out) := match evalF σ.T x with
  | some v => match (toR σ.R v).cells with
    | some l => if σ.ok && decide (σ.own ≤ σ.fr) then some [⟨.val (.ptr (.n σ.fr) 0 []), σ.newB (.cells l t)⟩] else none
    | none => none
  | none => none
def fCall (P : Program) (call : FuncId → List V → St → Option (List Out)) (σ : St) (f : Operand) (args : Array Operand) : Option (List Out) := match evalF σ.T f, evalOs σ.T args.toList with
  | some (.fn (.func f) first cap), some as => if σ.ok && enters P f then match call f (first.toL ++ as ++ cap.toL) σ with | some l => if σ.M.isEmpty || l.all (fun o => !o.x.isPanic) then some l else none | none => none else none
  | _, _ => none
def effK : Op → Program → (FuncId → List V → St → Option (List Out)) → St → Oper → Option (List Out)
  | .load t x => fun P _ σ _ => fLoad P σ t x
  | .store t a x => fun P _ σ _ => fStore P σ t a x
  | .alloc t => fun P _ σ _ => fAlloc P σ t
  | .box t x => fun _ _ σ _ => fBox σ t x
  | .call c => match c.callee with | .value f => fun P call σ _ => fCall P call σ f c.args | _ => fun P call σ o => effS P call σ o
  | _ => fun P call σ o => effS P call σ o
def effF (P : Program) (call : FuncId → List V → St → Option (List Out)) (σ : St) (o : Oper) : Option (List Out) := effK o.op P call σ o
theorem effF_eq (P : Program) (call : FuncId → List V → St → Option (List Out)) (σ : St) (o : Oper) : effF P call σ o = effS P call σ o := by
  unfold effF
  cases hop : o.op <;> simp only [effK]
  case load => simp only [effS, hop, fLoad, evalF_eq]; rfl
  case store => simp only [effS, hop, fStore, evalF_eq]; rfl
  case alloc => simp only [effS, hop, fAlloc]; rfl
  case box => simp only [effS, hop, fBox, evalF_eq]; rfl
  case call c =>
    obtain ⟨cl, ag, ts⟩ := c
    cases cl <;> simp only [effS, hop, fCall, evalF_eq]
    rfl

/-! ### States, with their temporaries in full -/
def setK {β : Type} : List V → Nat → V → (List V → β) → β
  | [], _, _, k => k []
  | a :: l, n, v, k => match n with | 0 => k (v :: l) | m + 1 => setK l m v fun l' => k (a :: l')
theorem setK_eq {β : Type} : ∀ (l : List V) (n : Nat) (v : V) (k : List V → β), setK l n v k = k (l.set n v)
  | [], _, _, _ => rfl
  | a :: l, 0, _, _ => rfl
  | a :: l, n + 1, v, k => by rw [setK, setK_eq l n v]; rfl
def fullK {β : Type} : List V → (List V → β) → β
  | [], k => k []
  | a :: l, k => fullK l fun l' => k (a :: l')
theorem fullK_eq {β : Type} : ∀ (l : List V) (k : List V → β), fullK l k = k l
  | [], _ => rfl
  | a :: l, k => by rw [fullK, fullK_eq l]
def putK {β : Type} (σ : St) (d : Option Tmp) (v : V) (k : St → β) : β :=
  match σ with
  | ⟨T, H, R, F, fr, W, own, M⟩ => match d with
    | some d => setK T d v fun T' => k ⟨T', H, R, F, fr, W, own, M⟩
    | none => k ⟨T, H, R, F, fr, W, own, M⟩
theorem putK_eq {β : Type} (σ : St) (d : Option Tmp) (v : V) (k : St → β) : putK σ d v k = k (σ.put d v) := by
  cases σ
  cases d with
  | none => rfl
  | some d => simp only [putK, setK_eq, St.put]
def putNK {β : Type} (σ : St) (d : Option Tmp) (v : V) (k : St → β) : β := putK σ d (unR' σ.R v) k
theorem putNK_eq {β : Type} (σ : St) (d : Option Tmp) (v : V) (k : St → β) : putNK σ d v k = k (σ.putN d v) := by rw [putNK, putK_eq]; rfl

/-! ### Steps -/
abbrev Rc := Ctx → Job → St → Option (List Out)
def cSeq (rec : Rc) (Γ : Ctx) (a b : Code) (σ : St) : Option (List Out) := match rec Γ (.code a) σ with
  | some l => bindL l fun o => match o.x with
    | .norm => if σ.fr ≤ o.st.fr then rec Γ (.code b) o.st else none
    | _ => some [o]
  | none => none
def cCond (rec : Rc) (Γ : Ctx) (q : Operand) (a b : Code) (σ : St) : Option (List Out) := match evalF σ.T q with
  | some (.b e) => match decideB σ.F e with
    | some true => rec Γ (.code a) σ
    | some false => rec Γ (.code b) σ
    | none => match rec Γ (.code a) (σ.know e true), rec Γ (.code b) (σ.know e false) with
      | some x, some y => some (x ++ y)
      | _, _ => none
  | _ => none
def cBlock (rec : Rc) (Γ : Ctx) (id : Nat) (c : Code) (σ : St) : Option (List Out) := match rec Γ (.code c) σ with
  | some l => some (l.map fun o => if o.x = .exit id then ⟨.norm, o.st⟩ else o)
  | none => none
def cLoop (rec : Rc) (Γ : Ctx) (c : Code) (σ : St) : Option (List Out) := match Γ.loops.find? (fun L => some L.key == firstReg c) with
  | some L => match loopIn L c σ with
    | some (σI, ms) => match rec Γ (.code c) σI with
      | some l => match bindL l (fun o => match o.x with
        | .norm => loopBack L c σ.fr (σI.R.drop (L.rows σ.fr).length) σI o.st
        | _ => if σI.fr ≤ o.st.fr then some [o] else none) with
        | some r => some (ms ++ r)
        | none => none
      | none => none
    | none => none
  | none => rec Γ (.unroll c) σ
def cDraw (P : Program) (rec : Rc) (Γ : Ctx) (ops : Array Oper) (σ : St) : Option (List Out) :=
  if P.follows .mixedOrders && Region.noSelect ops && (Γ.rd.isNone || ops.all fun o => !isDefer o) then
    match rec Γ (.any ops ops.size (Array.replicate ops.size false) []) σ with | some l => some l.eraseDups | none => none else none
def cRange (P : Program) (rec : Rc) (Γ : Ctx) (f : Operand) (ps : Array Tmp) (a b : Code) (σ : St) : Option (List Out) := match evalF σ.T f with
  | some (.fn (.func fid) first cap) =>
    if σ.ok && (σ.newB .defd).ok && enters P fid then
      match Γ.rd with
      | none =>
        let l := σ.fr + 1
        match rec { Γ with rounds := (l, ⟨σ.T, ps, a, b⟩) :: Γ.rounds, rd := none } (.fn fid (first.toL ++ [.yld (.n l)] ++ cap.toL)) ((σ.newB .defd).newB (.loop .ready l)) with
        | some r => bindL r (afterRange σ σ.fr l)
        | none => none
      | some q => match σ.look (.n q) with
        | some (.loop _ _) =>
          let l := σ.fr
          match rec { Γ with rounds := (l, ⟨σ.T, ps, a, b⟩) :: Γ.rounds, rd := none } (.fn fid (first.toL ++ [.yld (.n l)] ++ cap.toL)) (σ.newB (.loop .ready l)) with
          | some r => bindL r (afterRange σ l l)
          | none => none
        | _ => none
    else none
  | _ => none
def codeK : Code → Program → Rc → Ctx → St → Option (List Out)
  | .skip => fun _ _ _ σ => some [⟨.norm, σ⟩]
  | .label _ => fun _ _ _ σ => some [⟨.norm, σ⟩]
  | .ret => fun _ _ _ σ => some [⟨.ret, σ⟩]
  | .exit id => fun _ _ _ σ => some [⟨.exit id, σ⟩]
  | .seq a b => fun _ rec Γ σ => cSeq rec Γ a b σ
  | .block id c => fun _ rec Γ σ => cBlock rec Γ id c σ
  | .scope c => fun _ rec Γ σ => rec Γ (.code c) σ
  | .cond q a b => fun _ rec Γ σ => cCond rec Γ q a b σ
  | .loop c => fun _ rec Γ σ => cLoop rec Γ c σ
  | .region _ ops draw => match draw with
    | false => fun _ rec Γ σ => rec Γ (.seq ops (List.range ops.size)) σ
    | true => fun P rec Γ σ => cDraw P rec Γ ops σ
  | .rangeFunc f ps a b => fun P rec Γ σ => cRange P rec Γ f ps a b σ
  | _ => fun _ _ _ _ => none
def jCode (P : Program) (rec : Rc) (Γ : Ctx) (c : Code) (σ : St) : Option (List Out) := codeK c P rec Γ σ
def rBody (rec : Rc) (Γ : Ctx) (l : Nat) (r : Rec) (σ τ : St) : Option (List Out) :=
  match rec { Γ with rd := some l } (.code r.b) (τ.upd (.n l) (.loop .busy l)) with
  | some lb => bindL lb fun u => if τ.fr ≤ u.st.fr then
      match u.x with
      | .must e => some [⟨.must e, { u.st with T := σ.T, M := σ.M }⟩]
      | x => if u.st.look (.n l) = some (.loop .busy l) then match x with
        | .norm => some [⟨.val (.b .tt), σ.back l .ready u.st⟩]
        | .ret => some [⟨.val (.b .ff), σ.back l .ret u.st⟩]
        | .exit id => some [⟨.val (.b .ff), σ.back l (.exit id) u.st⟩]
        | _ => none
        else none
    else none
  | none => none
def jRound (rec : Rc) (Γ : Ctx) (l : Nat) (args : List V) (σ : St) : Option (List Out) :=
  match Γ.rounds.find? (·.1 == l) with
  | none => none
  | some (_, r) => match σ.look (.n l) with
    | some (.loop .ready l') =>
      if σ.ok && decide (l' = l) && Nat.ble (bdL args) σ.fr && decide (args.length = r.ps.size) then
        match rec { Γ with rd := some l } (.code r.a) { σ with T := setP r.T r.ps.toList args, M := [] } with
        | some la => bindL la fun o => match o.x with
          | .norm => if σ.fr ≤ o.st.fr ∧ o.st.look (.n l) = some (.loop .ready l) then rBody rec Γ l r σ o.st else none
          | .must e => if σ.fr ≤ o.st.fr then some [⟨.must e, { o.st with T := σ.T, M := σ.M }⟩] else none
          | _ => none
        | none => none
      else none
    | _ => none
def jUnroll (rec : Rc) (Γ : Ctx) (c : Code) (σ : St) : Option (List Out) := match rec Γ (.code c) σ with
  | some l => bindL l fun o => match o.x with
    | .norm => if σ.fr ≤ o.st.fr then rec Γ (.unroll c) o.st else none
    | _ => some [o]
  | none => none
def oEff (P : Program) (rec : Rc) (Γ : Ctx) (o : Oper) (σ : St) : Option (List Out) := match yieldOf σ o with
  | some (l, vs) => rec Γ (.round l vs) σ
  | none => effF P (fun f as τ => rec Γ (.fn f as) τ) σ o
def jOp (P : Program) (rec : Rc) (Γ : Ctx) (o : Oper) (σ : St) : Option (List Out) :=
  if Γ.rd.isSome && isDefer o then none else
  match opF P σ o with
  | some (.val v) => some [⟨.val v, σ⟩]
  | some (.need e) => match rec Γ (.op o) (σ.know e true) with | some l => some (⟨.must e, σ⟩ :: l) | none => none
  | some (.split e) => match rec Γ (.op o) (σ.know e true), rec Γ (.op o) (σ.know e false) with
    | some x, some y => some (x ++ y)
    | _, _ => none
  | none => oEff P rec Γ o σ
def sOp (rec : Rc) (Γ : Ctx) (ops : Array Oper) (i : Nat) (rest : List Nat) (o : Oper) (σ : St) : Option (List Out) := match guardF ops.toList σ o with
  | some (.inl false) => putK σ o.dst undefV (rec Γ (.seq ops rest))
  | some (.inr e) => match rec Γ (.seq ops (i :: rest)) (σ.know e true), rec Γ (.seq ops (i :: rest)) (σ.know e false) with
    | some x, some y => some (x ++ y)
    | _, _ => none
  | some (.inl true) => match rec Γ (.op o) σ with
    | some l => bindL l fun u => match u.x with
      | .val v => if σ.fr ≤ u.st.fr then putNK u.st o.dst v (rec Γ (.seq ops rest)) else none
      | .must _ => some [u]
      | .panic _ => some [u]
      | _ => none
    | none => none
  | none => none
def jSeq (rec : Rc) (Γ : Ctx) (ops : Array Oper) (l : List Nat) (σ : St) : Option (List Out) := match l with
  | [] => some [⟨.norm, σ⟩]
  | i :: rest => match nthL ops.toList i with
    | none => rec Γ (.seq ops rest) σ
    | some o => sOp rec Γ ops i rest o σ
def aEach (rec : Rc) (Γ : Ctx) (ops : Array Oper) (n : Nat) (listed : Array Bool) (K : List (V × V)) (σ : St) (i : Nat) : Option (List Out) := match nthL ops.toList i with
  | some o => match guardF ops.toList σ o with
    | some (.inl false) => putK σ o.dst undefV (rec Γ (.any ops n (listF listed i) K))
    | some (.inl true) => match rec Γ (.op o) σ with
      | some l => bindL l fun u => match u.x with
        | .val v => if σ.fr ≤ u.st.fr ∧ kept σ.fr u.st K = true then putNK u.st o.dst v (rec Γ (.any ops n (listF listed i) K)) else none
        | .must _ => some [u]
        | .panic _ => some [u]
        | _ => none
      | none => none
    | _ => none
  | none => none
def jAny (P : Program) (rec : Rc) (Γ : Ctx) (ops : Array Oper) (n : Nat) (listed : Array Bool) (K : List (V × V)) (σ : St) : Option (List Out) :=
  match readyF ops.toList listed.toList with
  | [] => some [⟨.norm, σ⟩]
  | r :: rs => match pickF P ops listed σ (r :: rs) with
    | .need e => match rec Γ (.any ops n listed K) (σ.know e true) with | some l => some (⟨.must e, σ⟩ :: l) | none => none
    | .split e => match rec Γ (.any ops n listed K) (σ.know e true), rec Γ (.any ops n listed K) (σ.know e false) with
      | some x, some y => some (x ++ y)
      | _, _ => none
    | .take i v K' => match n, nthL ops.toList i with
      | n + 1, some o => putNK σ o.dst v (rec Γ (.any ops n (listF listed i) (K' ++ K)))
      | _, _ => none
    | .none => match n with
      | 0 => none
      | n + 1 => foldL (r :: rs) (aEach rec Γ ops n listed K σ)
def fRet (P : Program) (σ : St) (fn : Func) (o : Out) : Option (List Out) :=
  if σ.fr ≤ o.st.fr then
    match o.x with
    | .norm | .ret => match dropM o.st.M o.st with
      | some τ => match resV P τ fn.results.toList with
        | some vs => some [⟨.val (tupV vs), { τ.gc σ.fr (tupV vs) with T := σ.T, M := σ.M }⟩]
        | none => none
      | none => none
    | .panic v => if o.st.M = [] then some [⟨.panic v, { o.st with T := σ.T, M := σ.M }⟩] else none
    | .must e => some [⟨.must e, { o.st with T := σ.T, M := σ.M }⟩]
    | _ => none
  else none
def fBody (P : Program) (rec : Rc) (Γ : Ctx) (f : FuncId) (args : List V) (σ : St) : Option (List Out) := match P.funcs[f]? with
  | some fn => match fn.body with
    | some c => match fullK (args ++ List.replicate (fn.ntmps - args.length) undefV) (fun T => rec { Γ with rd := none } (.code c) { σ with T := T, M := [] }) with
      | some l => bindL l (fRet P σ fn)
      | none => none
    | none => none
  | none => none
def jFn (P : Program) (rec : Rc) (Γ : Ctx) (f : FuncId) (args : List V) (σ : St) : Option (List Out) :=
  match Γ.calls.find? (·.f == f) with
  | some q => match q.run args σ with
    | some l => if σ.ok && Nat.ble (bdL args) σ.fr && l.all (fun o => Nat.ble σ.fr o.st.fr) then some (l.map fun o => ⟨o.x, { o.st with T := σ.T, M := σ.M }⟩) else none
    | none => none
  | none => fBody P rec Γ f args σ
def jobK : Job → Program → Rc → Ctx → St → Option (List Out)
  | .code c => fun P rec Γ σ => jCode P rec Γ c σ
  | .op o => fun P rec Γ σ => jOp P rec Γ o σ
  | .seq ops l => fun _ rec Γ σ => jSeq rec Γ ops l σ
  | .any ops n listed K => fun P rec Γ σ => jAny P rec Γ ops n listed K σ
  | .fn f args => fun P rec Γ σ => jFn P rec Γ f args σ
  | .unroll c => fun _ rec Γ σ => jUnroll rec Γ c σ
  | .round l args => fun _ rec Γ σ => jRound rec Γ l args σ
def stepJ (P : Program) (rec : Rc) : Rc := fun Γ job σ => jobK job P rec Γ σ
def goF (P : Program) : Nat → Rc
  | 0 => fun _ _ _ => none
  | g + 1 => stepJ P (goF P g)
theorem goF_eq (P : Program) : ∀ g, goF P g = go P g
  | 0 => by funext Γ job σ; simp only [goF, go]
  | g + 1 => by
    funext Γ job σ
    show stepJ P (goF P g) Γ job σ = _
    rw [goF_eq P g]
    cases job with
    | code c =>
      cases c with
      | region id ops draw => cases draw <;> (simp only [stepJ, jobK, codeK, go, jCode, cDraw]; try rfl)
      | _ => simp only [stepJ, jobK, codeK, go, jCode, cSeq, cBlock, cCond, cLoop, cRange, evalF_eq]; try rfl
    | op o => simp only [stepJ, jobK, go, jOp, oEff, opF_eq, effF_eq]; rfl
    | seq ops l => cases l <;> (simp only [stepJ, jobK, go, jSeq, sOp, nthA, guardF_eq, putK_eq, putNK_eq]; try rfl)
    | any ops n listed K =>
      simp only [stepJ, jobK, go, jAny, readyF_eq, nthA]
      cases hr : Region.ready .any ops listed with
      | nil => simp
      | cons r rs =>
        simp only [reduceCtorEq, if_false, pickF_eq]
        cases pickOp P ops listed σ (r :: rs) with
        | take i v K' => cases n <;> simp only [listF_eq, putNK_eq] <;> rfl
        | none =>
          cases n with
          | zero => rfl
          | succ n =>
            simp only
            congr 1
            funext i
            simp only [aEach, nthA, guardF_eq, listF_eq, putK_eq, putNK_eq]
            rfl
        | _ => rfl
    | fn f args => simp only [stepJ, jobK, go, jFn, fBody, fullK_eq]; rfl
    | unroll c => simp only [stepJ, jobK, go, jUnroll]; rfl
    | round l args => simp only [stepJ, jobK, go, jRound, rBody]; rfl
end Go.Proofs.YtekikddpdbgkdaaGreatDoor.Sx
end
section
namespace Go.Proofs.YtekikddpdbgkdaaGreatDoor.Sx
open Go Go.RowKit
variable {TT : Tb}

def envOf (is : List Int) (bs : List Bool) (ss : List ByteArray) (g : Nat → List (Int × ByteArray) → Int) (h : Nat → List (Int × ByteArray) → Bool) (k : Nat → List (Int × ByteArray) → ByteArray) (ls : List (List (Int × ByteArray)) := []) (m : Nat → List (Int × ByteArray) → List (Int × ByteArray) := fun _ _ => []) : Env :=
  { i := fun n => is.getD n 0, b := fun n => bs.getD n false, s := fun n => ss.getD n ⟨#[]⟩, v := fun _ => undef, n := fun _ => 0, g, h, k, l := fun n => ls.getD n [], m }
def noG : Nat → List (Int × ByteArray) → Int := fun _ _ => 0
def noH : Nat → List (Int × ByteArray) → Bool := fun _ _ => false
def noK : Nat → List (Int × ByteArray) → ByteArray := fun _ _ => ⟨#[]⟩
def anyT : Tb := { tab := fun _ _ _ _ => True }

structure Dig where
  x : X
  F : List E
  deriving DecidableEq, Inhabited
def digs : Option (List Out) → Option (List Dig)
  | some l => if l.all (fun o => o.st.W.isEmpty) then some (l.map fun o => ⟨o.x, o.st.F⟩).eraseDups else none
  | none => none
def GoodD (TT : Tb) (R : Ending → World → Prop) (ρ : Env) (n : Nat) (w : World) (d : Dig) : Prop :=
  ∀ ρ' w', Ext n ρ ρ' → TT.tab ρ'.g ρ'.h ρ'.k ρ'.m → holds ρ' d.F → Below w.heap.size w w' → match d.x with
    | .val v => R (.returned (v.den ρ')) w'
    | .must e => e.B ρ' = true
    | .panic v => R (.panicked [{ v := v.den ρ', recovered := false }]) w'
    | _ => False
def AllD (p : Dig → Prop) : List Dig → Prop
  | [] => True
  | [d] => p d
  | d :: l => p d ∧ AllD p l
theorem AllD_mem {p : Dig → Prop} : ∀ {l : List Dig}, AllD p l → ∀ d ∈ l, p d
  | [], _, d, hd => by cases hd
  | [a], h, d, hd => by cases List.mem_singleton.1 hd; exact h
  | a :: b :: l, h, d, hd => by
    rcases List.mem_cons.1 hd with rfl | hd
    · exact h.1
    · exact AllD_mem h.2 d hd
/-- **A FUNCTION's CALL**, told by how it ends alone. -/
theorem sx_pure {P : Program} {Γ : Ctx} (hΓ : ∀ q ∈ Γ.calls, CtrOk TT P q) (g : Nat) {f : FuncId} (args : List V) (F : List E) (n : Nat) (ds : List Dig) (h : digs (goF P g Γ.top (.fn f args) { T := [], F := F, fr := n, own := n }) = some ds)
    (ρ : Env) {w : World} {as : Array Value} (ha : as = arr ρ args) (hF : holds ρ F) (hT : TT.tab ρ.g ρ.h ρ.k ρ.m) {R : Ending → World → Prop} (hg : AllD (GoodD TT R ρ n w) ds) (hJ : TT.J w := by exact trivial) : Calls P f as w R := by
  cases hgo : goF P g Γ.top (.fn f args) { T := [], F := F, fr := n, own := n } with
  | none => rw [hgo] at h; cases h
  | some outs =>
    rw [hgo] at h
    simp only [digs] at h
    split at h
    · rename_i hW
      cases h
      refine sx_call hΓ (by rw [goF_eq] at hgo; exact hgo) ha rfl rfl rfl hF ⟨hT, hJ⟩ fun o ho ρ' w' hx hs => ?_
      have hd : (⟨o.x, o.st.F⟩ : Dig) ∈ (outs.map fun o => (⟨o.x, o.st.F⟩ : Dig)).eraseDups := List.mem_eraseDups.2 (List.mem_map.2 ⟨o, ho, rfl⟩)
      rw [List.all_eq_true] at hW
      have hWo : o.st.W = [] := by simpa using hW o ho
      exact AllD_mem hg _ hd ρ' w' hx hs.tab.1 hs.fact (hs.below hWo)
    · cases h

/-! ### Contracts -/
theorem Sees.step {ρ : Env} {σ : St} {w0 w w' : World} (h : Sees TT ρ σ w0 w) (hb : Below w.heap.size w w') : Sees TT ρ σ w0 w' := by
  refine ⟨hb.os.trans h.os, hb.tape.trans h.tape, hb.output.trans h.output, Nat.le_trans h.size hb.size, fun k hk hW => ?_, fun p hp => ?_, h.sep, h.own, fun p hp => row_world (h.row p hp) hb.size (fun j hj => hb.block j (row_lt (h.row p hp) hj)), h.rsep, h.rown, h.fact, h.tab, h.src⟩
  · rw [hb.block k (Nat.lt_of_lt_of_le hk h.size)]; exact h.keep k hk hW
  · obtain ⟨y, hy⟩ := HO.at_some (h.blk p hp)
    rw [hb.block _ (Array.getElem?_eq_some_iff.1 hy).1]
    exact h.blk p hp
/-- A function that yields one value, if some truths hold. -/
def Ctr.pure (f : FuncId) (m : List V → Option (V × List E)) : Ctr :=
  ⟨f, fun args σ => match m args with
    | some (v, need) => if need.all (fun e => decideB σ.F e == some true) then some [⟨.val v, σ⟩] else some (need.map (fun e => ⟨.must e, σ⟩) ++ [⟨.val v, need.foldl (fun τ e => τ.know e true) σ⟩])
    | none => none⟩
theorem know_all {ρ : Env} {w0 w : World} : ∀ {need : List E} {σ : St}, Sees TT ρ σ w0 w → (∀ e ∈ need, e.B ρ = true) → Sees TT ρ (need.foldl (fun τ e => τ.know e true) σ) w0 w
  | [], _, h, _ => h
  | e :: _l, σ, h, hn => know_all (σ := σ.know e true) (h.know (hn e List.mem_cons_self)) fun x hx => hn x (List.mem_cons_of_mem _ hx)
theorem Ctr.pure_ok {P : Program} {f : FuncId} {m : List V → Option (V × List E)}
    (h : ∀ args v need ρ w, m args = some (v, need) → TT.tab ρ.g ρ.h ρ.k ρ.m → (∀ e ∈ need, e.B ρ = true) → Calls P f (arr ρ args) w fun e w' => e = .returned (v.den ρ) ∧ Below w.heap.size w w') : CtrOk TT P (Ctr.pure f m) := by
  intro args σ outs hr hok ha ρ w0 w R hs hg
  simp only [Ctr.pure] at hr
  split at hr
  · rename_i v need hm
    split at hr
    · rename_i hd
      cases hr
      rw [List.all_eq_true] at hd
      refine (h args v need ρ w hm hs.tab.1 fun e he => decideB_ok hs.fact (by simpa using hd e he)).mono fun e w' ⟨he, hb⟩ => ?_
      subst he
      exact hg _ List.mem_cons_self ρ w' (Ext.refl _ _) (hs.step hb)
    · cases hr
      have hn : ∀ e ∈ need, e.B ρ = true := fun e he =>
        hg ⟨.must e, σ⟩ (List.mem_append.2 (.inl (List.mem_map.2 ⟨e, he, rfl⟩))) ρ w (Ext.refl _ _) hs
      refine (h args v need ρ w hm hs.tab.1 hn).mono fun e w' ⟨he, hb⟩ => ?_
      subst he
      exact hg ⟨.val v, _⟩ (List.mem_append.2 (.inr List.mem_cons_self)) ρ w' (Ext.refl _ _) (know_all (hs.step hb) hn)
  · cases hr
end Go.Proofs.YtekikddpdbgkdaaGreatDoor.Sx
end
section
namespace Go.Proofs.YtekikddpdbgkdaaGreatDoor.Sx
open Go Go.RowKit
variable {TT : Tb}

theorem Sees.startR (ρ : Env) (σ : St) (w : World) (hH : σ.H = []) (_hW : σ.W = []) (hR : ∀ p ∈ σ.R, p.2.own = false ∧ p.2.at ρ w.heap.size w (ρ.v p.1) ∧ ∀ b, (ρ.v p.1).ownBlock = some b → TT.A b) (hF : holds ρ σ.F) (hT : TT.tab ρ.g ρ.h ρ.k ρ.m ∧ TT.J w) : Sees TT ρ σ w w :=
  ⟨rfl, rfl, rfl, Nat.le_refl _, fun _ _ _ => rfl, by simp [hH], by simp [hH], by simp [hH], fun p hp => (hR p hp).2.1, by simp [hH], fun p hp ho => absurd ho (by rw [(hR p hp).1]; simp), hF, hT, fun p hp b hb => .inr ((hR p hp).2.2 b hb)⟩

structure RDig where
  x : X
  F : List E
  R : List (Nat × Row)
  deriving DecidableEq, Inhabited
/-- The rows that a value names. -/
def namesV : V → List Nat
  | .var x => [x]
  | .rsl x => [x]
  | .tup l => namesV l
  | .agg l => namesV l
  | .cons a l => namesV a ++ namesV l
  | _ => []
def rowsOf (o : Out) : List (Nat × Row) := match o.x with | .val v => o.st.R.filter fun p => (namesV v).contains p.1 | _ => []
def rdigs : Option (List Out) → Option (List RDig)
  | some l => if l.all (fun o => o.st.W.isEmpty) then some (l.map fun o => ⟨o.x, o.st.F, rowsOf o⟩).eraseDups else none
  | none => none
def GoodR (TT : Tb) (Q : Ending → World → Prop) (ρ : Env) (n : Nat) (w : World) (d : RDig) : Prop :=
  ∀ ρ' w', Ext n ρ ρ' → TT.tab ρ'.g ρ'.h ρ'.k ρ'.m → holds ρ' d.F → Below w.heap.size w w' → (∀ p ∈ d.R, p.2.at ρ' w.heap.size w' (ρ'.v p.1) ∧ ∀ b, (ρ'.v p.1).ownBlock = some b → w.heap.size ≤ b ∨ TT.A b) → match d.x with
    | .val v => Q (.returned (v.den ρ')) w'
    | .must e => e.B ρ' = true
    | .panic v => Q (.panicked [{ v := v.den ρ', recovered := false }]) w'
    | _ => False
def AllR (p : RDig → Prop) : List RDig → Prop
  | [] => True
  | [d] => p d
  | d :: l => p d ∧ AllR p l
theorem AllR_mem {p : RDig → Prop} : ∀ {l : List RDig}, AllR p l → ∀ d ∈ l, p d
  | [], _, d, hd => by cases hd
  | [a], h, d, hd => by cases List.mem_singleton.1 hd; exact h
  | a :: b :: l, h, d, hd => by
    rcases List.mem_cons.1 hd with rfl | hd
    · exact h.1
    · exact AllR_mem h.2 d hd
/-- **A CALL WITH ROWS**. -/
theorem sx_rows {P : Program} {Γ : Ctx} (hΓ : ∀ q ∈ Γ.calls, CtrOk TT P q) (g : Nat) {f : FuncId} (args : List V) (R0 : List (Nat × Row)) (F : List E) (n : Nat) (ds : List RDig) (h : rdigs (goF P g Γ.top (.fn f args) { T := [], R := R0, F := F, fr := n, own := n }) = some ds)
    (ρ : Env) {w : World} {as : Array Value} (ha : as = arr ρ args) (hR : ∀ p ∈ R0, p.2.own = false ∧ p.2.at ρ w.heap.size w (ρ.v p.1) ∧ ∀ b, (ρ.v p.1).ownBlock = some b → TT.A b) (hF : holds ρ F) (hT : TT.tab ρ.g ρ.h ρ.k ρ.m) {Q : Ending → World → Prop} (hg : AllR (GoodR TT Q ρ n w) ds) (hJ : TT.J w := by exact trivial) : Calls P f as w Q := by
  cases hgo : goF P g Γ.top (.fn f args) { T := [], R := R0, F := F, fr := n, own := n } with
  | none => rw [hgo] at h; cases h
  | some outs =>
    rw [hgo] at h
    simp only [rdigs] at h
    split at h
    · rename_i hW
      cases h
      rw [ha]
      refine ((go_ok hΓ g Γ.top rfl).2.2.2.2.1 f args _ outs (by rw [goF_eq] at hgo; exact hgo)).2 ρ w w Q (known_top _ _ _) (Sees.startR ρ _ w rfl rfl hR hF ⟨hT, hJ⟩) fun o ho ρ' w' hx hs => ?_
      have hd : (⟨o.x, o.st.F, rowsOf o⟩ : RDig) ∈ (outs.map fun o => (⟨o.x, o.st.F, rowsOf o⟩ : RDig)).eraseDups := List.mem_eraseDups.2 (List.mem_map.2 ⟨o, ho, rfl⟩)
      rw [List.all_eq_true] at hW
      have hWo : o.st.W = [] := by simpa using hW o ho
      refine AllR_mem hg _ hd ρ' w' hx hs.tab.1 hs.fact (hs.below hWo) fun p hp => ?_
      have hp : p ∈ o.st.R := by
        simp only [rowsOf] at hp
        split at hp
        · exact (List.mem_filter.1 hp).1
        · cases hp
      exact ⟨hs.row p hp, hs.src p hp⟩
    · cases h

/-- A row that a call gives. -/
theorem sees_res {ρ : Env} {σ : St} {w0 w w' : World} (hs : Sees TT ρ σ w0 w) (hok : σ.ok = true) (hb : Below w.heap.size w w') (u : Value) {r : Row} (hat : r.at ρ w0.heap.size w' u) {R' : List (Nat × Row)} (hR' : ∀ p ∈ R', p ∈ σ.R)
    (hblk : ∀ b, u.ownBlock = some b → w.heap.size ≤ b ∨ (r.own = false ∧ ∃ p ∈ σ.R, (ρ.v p.1).ownBlock = some b ∧ ∀ q ∈ R', q.1 = p.1 → q.2.own = false)) {F' : List E} (hF' : holds ρ F') :
    Sees TT (ρ.nameV σ.fr u) { σ with R := (σ.fr, r) :: R', fr := σ.fr + 1, F := F' } w0 w' := by
  obtain ⟨-, hH, hF, hW, hR⟩ := ok_parts hok
  have hx := nameV_ext ρ σ.fr u
  have hst := hs.step hb
  have hs' := sees_ext hx hH hF hW hR hst
  have hnew : (ρ.nameV σ.fr u).v σ.fr = u := by simp [Env.nameV]
  have hold : ∀ p ∈ σ.R, (ρ.nameV σ.fr u).v p.1 = ρ.v p.1 := fun p hp => hx.v _ (hR p hp).1
  have hlt : ∀ p ∈ σ.R, ∀ b, (ρ.v p.1).ownBlock = some b → b < w.heap.size := fun p hp b h => row_lt (hs.row p hp) h
  refine ⟨hs'.os, hs'.tape, hs'.output, hs'.size, hs'.keep, hs'.blk, hs'.sep, hs'.own, fun p hp => ?_, fun p hp b hb q hq => ?_, fun p hp ho q hq hne b hb e => ?_, fun f hf => by rw [nameV_B]; exact hF' f hf, hs'.tab, fun p hp b hb => ?_⟩
  · rcases List.mem_cons.1 hp with rfl | hp
    · simp only [hnew]; exact nameV_at.2 hat
    · exact hs'.row p (hR' p hp)
  · rcases List.mem_cons.1 hp with rfl | hp
    · simp only [hnew] at hb
      rw [blk_ext hx (hH q hq).1]
      rcases hblk b hb with h1 | ⟨-, p2, hp2, hb2, -⟩
      · obtain ⟨y, hy⟩ := HO.at_some (hs.blk q hq)
        have := (Array.getElem?_eq_some_iff.1 hy).1
        omega
      · exact hs.rsep p2 hp2 b hb2 q hq
    · exact hs'.rsep p (hR' p hp) b hb q hq
  · rcases List.mem_cons.1 hp with rfl | hp
    · simp only at ho
      simp only [hnew] at hb
      rcases List.mem_cons.1 hq with rfl | hq
      · exact hne rfl
      · rw [hold q (hR' q hq)] at e
        have := hlt q (hR' q hq) b e
        rcases hblk b hb with h1 | ⟨h1, -⟩
        · omega
        · rw [ho] at h1; cases h1
    · have hpR := hR' p hp
      rw [hold p hpR] at hb
      rcases List.mem_cons.1 hq with rfl | hq
      · simp only [hnew] at e
        rcases hblk b e with h1 | ⟨-, p2, hp2, hb2, hq2⟩
        · have := hlt p hpR b hb; omega
        · by_cases hpp : p.1 = p2.1
          · have := hq2 p hp hpp
            rw [ho] at this; cases this
          · exact hs.rown p hpR ho p2 hp2 hpp b hb hb2
      · rw [hold q (hR' q hq)] at e
        exact hs.rown p hpR ho q (hR' q hq) hne b hb e
  · rcases List.mem_cons.1 hp with rfl | hp
    · simp only [hnew] at hb
      rcases hblk b hb with h1 | ⟨-, p2, hp2, hb2, -⟩
      · exact .inl (Nat.le_trans hs.size h1)
      · exact hs.src p2 hp2 b hb2
    · exact hs'.src p (hR' p hp) b hb

/-! ### Contracts -/
inductive Res where
  | val (v : V) | row (r : Row)
def argsV (args : List V) : List Nat := args.filterMap fun | .var x => some x | _ => none
/-- A function of rows: what is to be shown first, what it yields, what is known then. -/
def Ctr.rows (f : FuncId) (m : List V → List (Nat × Row) → Option (List E × Res × List E)) : Ctr :=
  ⟨f, fun args σ => match m args σ.R with
    | some (need, .val v, facts) => some (musts σ need ++ [⟨.val v, { σ with F := facts ++ news σ.F need ++ σ.F }⟩])
    | some (need, .row r, facts) => some (musts σ need ++ [⟨.val (.var σ.fr), { σ with R := (σ.fr, r) :: (if r.own then σ.R else σ.R.filter fun p => !(p.2.own && (argsV args).contains p.1)), fr := σ.fr + 1, F := facts ++ news σ.F need ++ σ.F }⟩])
    | none => none⟩
def CtrRows (TT : Tb) (P : Program) (f : FuncId) (m : List V → List (Nat × Row) → Option (List E × Res × List E)) : Prop :=
  ∀ args R need res facts ρ base w, m args R = some (need, res, facts) → TT.tab ρ.g ρ.h ρ.k ρ.m → (∀ e ∈ need, e.B ρ = true) → (∀ x r, findR R x = some r → r.at ρ base w (ρ.v x)) →
    Calls P f (arr ρ args) w fun e w' => Below w.heap.size w w' ∧ (∀ e ∈ facts, e.B ρ = true) ∧ match res with
      | .val v => e = .returned (v.den ρ)
      | .row r => ∃ u, e = .returned u ∧ r.at ρ w.heap.size w' u ∧ ∀ b, u.ownBlock = some b → w.heap.size ≤ b ∨ (r.own = false ∧ ∃ x r', x ∈ argsV args ∧ findR R x = some r' ∧ (ρ.v x).ownBlock = some b)
theorem at_base {ρ : Env} {a b : Nat} (hab : a ≤ b) {w : World} {v : Value} {r : Row} (h : r.at ρ b w v) : r.at ρ a w v := by
  obtain ⟨h0, h1, h2⟩ := h
  refine ⟨h0, h1, ?_⟩
  split
  · rename_i ho
    rw [if_pos ho] at h2
    refine ⟨h2.1, ?_⟩
    rcases h2.2 with h3 | ⟨g, cap, cur, hv, hg, hrest⟩
    · exact .inl h3
    · exact .inr ⟨g, cap, cur, hv, by omega, hrest⟩
  · rename_i ho
    rw [if_neg ho] at h2
    exact h2
theorem Ctr.rows_ok {P : Program} {f : FuncId} {m : List V → List (Nat × Row) → Option (List E × Res × List E)} (h : CtrRows TT P f m) : CtrOk TT P (Ctr.rows f m) := by
  intro args σ outs hr hok ha ρ w0 w R hs hg
  simp only [Ctr.rows] at hr
  have hneed : ∀ {need : List E} {l : List Out}, (∀ o ∈ musts σ need ++ l, GoodF TT R ρ σ.fr w0 o) → ∀ e ∈ need, e.B ρ = true := fun hg e he =>
    musts_ok hs (fun u hu e hue => by
      have := hg u (List.mem_append.2 (.inl hu)) ρ w (Ext.refl _ _) (by
        obtain ⟨e', -, rfl⟩ := List.mem_map.1 hu
        exact hs)
      rw [hue] at this
      exact this) e he
  split at hr
  · rename_i need v facts hm
    cases hr
    have hn := hneed hg
    refine (h args σ.R need _ facts ρ w0.heap.size w hm hs.tab.1 hn fun x r hf => hs.row _ (findR_mem hf)).mono fun e w' ⟨hb, hfa, he⟩ => ?_
    simp only at he
    subst he
    refine hg _ (List.mem_append.2 (.inr List.mem_cons_self)) ρ w' (Ext.refl _ _) ((hs.step hb).withF fun e he => ?_)
    rcases List.mem_append.1 he with he | he
    · rcases List.mem_append.1 he with he | he
      · exact hfa e he
      · exact hn e (List.mem_filter.1 he).1
    · exact hs.fact e he
  · rename_i need r facts hm
    cases hr
    have hn := hneed hg
    refine (h args σ.R need _ facts ρ w0.heap.size w hm hs.tab.1 hn fun x r hf => hs.row _ (findR_mem hf)).mono fun e w' ⟨hb, hfa, he⟩ => ?_
    simp only at he
    obtain ⟨u, rfl, hat, hblk⟩ := he
    have hF' : holds ρ (facts ++ news σ.F need ++ σ.F) := fun e he => by
      rcases List.mem_append.1 he with he | he
      · rcases List.mem_append.1 he with he | he
        · exact hfa e he
        · exact hn e (List.mem_filter.1 he).1
      · exact hs.fact e he
    have hsr := sees_res (R' := if r.own then σ.R else σ.R.filter fun p => !(p.2.own && (argsV args).contains p.1)) hs hok hb u (at_base hs.size hat) (fun p hp => by
      split at hp
      · exact hp
      · exact (List.mem_filter.1 hp).1) (fun b hbb => ?_) hF'
    · have := hg _ (List.mem_append.2 (.inr List.mem_cons_self)) (ρ.nameV σ.fr u) w' (nameV_ext _ _ _) hsr
      simp only [den_var, Env.nameV, if_true] at this
      exact this
    · rcases hblk b hbb with h1 | ⟨h1, x, r', hx, hf, hxb⟩
      · exact .inl h1
      · refine .inr ⟨h1, (x, r'), findR_mem hf, hxb, fun q hq hqx => ?_⟩
        rw [h1] at hq
        simp only [Bool.false_eq_true, if_false, List.mem_filter, Bool.not_eq_true', Bool.and_eq_false_iff] at hq
        rcases hq.2 with h2 | h2
        · exact h2
        · simp only at hqx
          rw [hqx] at h2
          simp [hx] at h2
  · cases hr
/-- A row as one that is only read. -/
theorem at_len {ρ : Env} {r : Row} {base : Nat} {w : World} {v : Value} (h : r.at ρ base w v) : 0 ≤ r.n.I ρ ∧ (r.xs.L ρ).length = (r.n.I ρ).toNat * r.kds.length := by
  obtain ⟨h0, h1, h2⟩ := h
  refine ⟨h0, ?_⟩
  split at h2
  · rw [← h2.1, cellsV_length]
  · exact h2.1
end Go.Proofs.YtekikddpdbgkdaaGreatDoor.Sx
end
