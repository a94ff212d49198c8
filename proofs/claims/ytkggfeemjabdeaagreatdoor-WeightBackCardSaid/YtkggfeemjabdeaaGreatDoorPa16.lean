/- Loops. The executor is right: code, functions; the theorem that is used. The executor in use: functions without writes to old memory; contracts. Functions of rows: rows as parameters, rows as results, contracts of such functions. -/
import Derived.Deep.LoopGhost
import Derived.Test.YtkggfeemjabdeaaGreatDoorPa15
section
namespace Go.Proofs.YtkggfeemjabdeaaGreatDoor.Sx
open Go
variable {TT : Tb}

theorem isI_den {ρ : Env} : ∀ {e : E}, e.isI = true → e.den ρ = { i := e.I ρ } := by
  intro e
  induction e <;> intro h <;> first | (simp only [E.isI] at h; cases h; done) | rfl | skip
  rename_i q a b _ iha ihb
  simp only [E.isI, Bool.and_eq_true] at h
  simp only [E.den, I_ite]
  show (if E.B ρ q = true then _ else _) = _
  split
  · exact iha h.1
  · exact ihb h.2
theorem isB_den {ρ : Env} : ∀ {e : E}, e.isB = true → e.den ρ = { b := e.B ρ } := by
  intro e
  induction e <;> intro h <;> first | (simp only [E.isB] at h; cases h; done) | rfl | skip
  rename_i q a b _ iha ihb
  simp only [E.isB, Bool.and_eq_true] at h
  have hB : E.B ρ (.ite q a b) = if q.B ρ then a.B ρ else b.B ρ := by show (if (q.den ρ).b then a.den ρ else b.den ρ).b = _; unfold E.B; split <;> rfl
  simp only [E.den, hB]
  show (if E.B ρ q = true then _ else _) = _
  split
  · exact iha h.1
  · exact ihb h.2
theorem isS_den {ρ : Env} : ∀ {e : E}, e.isS = true → e.den ρ = { s := e.S ρ } := by
  intro e
  induction e <;> intro h <;> first | (simp only [E.isS] at h; cases h; done) | rfl | skip
  rename_i q a b _ iha ihb
  simp only [E.isS, Bool.and_eq_true] at h
  have hB : E.S ρ (.ite q a b) = if q.B ρ then a.S ρ else b.S ρ := by show (if (q.den ρ).b then a.den ρ else b.den ρ).s = _; unfold E.S E.B; split <;> rfl
  simp only [E.den, hB]
  show (if E.B ρ q = true then _ else _) = _
  split
  · exact iha h.1
  · exact ihb h.2
theorem isL_den {ρ : Env} {e : E} (h : e.isL = true) : e.den ρ = { l := e.L ρ } := by
  cases e <;> first | (simp only [E.isL] at h; cases h; done) | rfl
theorem compI_isI (e : E) : (compI e).isI = true := by unfold compI; split <;> split <;> first | assumption | rfl
theorem compL_isL (e : E) : (compL e).isL = true := by unfold compL; split <;> split <;> first | assumption | rfl
theorem compI_of {e : E} (h : e.isI = true) : compI e = e := by
  unfold compI
  split
  · simp [E.isI] at h
  · simp [h]
theorem compI_den (ρ : Env) (e : E) : (compI e).den ρ = { i := (compI e).I ρ } := isI_den (compI_isI e)
theorem compL_den (ρ : Env) (e : E) : (compL e).den ρ = { l := (compL e).L ρ } := isL_den (compL_isL e)
theorem compB_den (ρ : Env) (e : E) : (compB e).den ρ = { b := (compB e).B ρ } := isB_den (by unfold compB; split; assumption; rfl)
theorem compS_den (ρ : Env) (e : E) : (compS e).den ρ = { s := (compS e).S ρ } := isS_den (by unfold compS; split; assumption; rfl)

/-- The names from n on stand for what these values are. -/
def Env.assign (ρ : Env) (n : Nat) (R : List (Nat × Row)) (vs : List V) : Env :=
  { ρ with
    i := fun k => if n ≤ k then (compI ((vs.map (V.asE R)).getD (k - n) (.c 0))).I ρ else ρ.i k
    b := fun k => if n ≤ k then (compB ((vs.map (V.asE R)).getD (k - n) (.c 0))).B ρ else ρ.b k
    s := fun k => if n ≤ k then (compS ((vs.map (V.asE R)).getD (k - n) (.c 0))).S ρ else ρ.s k
    l := fun k => if n ≤ k then (compL ((vs.map (V.asE R)).getD (k - n) (.c 0))).L ρ else ρ.l k
    v := fun k => if n ≤ k then (vs.getD (k - n) undefV).den ρ else ρ.v k }
theorem assign_ext (ρ : Env) (n : Nat) (R : List (Nat × Row)) (vs : List V) : Ext n ρ (ρ.assign n R vs) :=
  ⟨fun k hk => by simp [Env.assign]; omega, fun k hk => by simp [Env.assign]; omega, fun k hk => by simp [Env.assign]; omega, fun k hk => by simp [Env.assign]; omega, fun _ _ => rfl, rfl, rfl, rfl, fun k hk => by simp [Env.assign]; omega, rfl⟩
theorem assign_blk (ρ : Env) (n : Nat) (R : List (Nat × Row)) (vs : List V) (b : Bk) : (ρ.assign n R vs).blk b = ρ.blk b := by cases b <;> rfl
theorem subst_den (ρ : Env) (n : Nat) (R : List (Nat × Row)) (vs : List V) : ∀ e : E, (e.subst n (vs.map (V.asE R))).den ρ = e.den (ρ.assign n R vs) := by
  intro e
  induction e <;> simp only [E.subst, E.den] <;> try (simp_all; done)
  case v k =>
    split
    · rename_i h; rw [compI_den]; simp only [Env.assign, h, if_true]
    · rename_i h; simp only [E.den, Env.assign, h, if_false]
  case bv k =>
    split
    · rename_i h; rw [compB_den]; simp only [Env.assign, h, if_true]
    · rename_i h; simp only [E.den, Env.assign, h, if_false]
  case sv k =>
    split
    · rename_i h; rw [compS_den]; simp only [Env.assign, h, if_true]
    · rename_i h; simp only [E.den, Env.assign, h, if_false]
  case app f l ih => rw [ih]; rfl
  case happ f l ih => rw [ih]; rfl
  case sapp f l ih => rw [ih]; rfl
  case lapp f l ih => rw [ih]; rfl
  case lv k =>
    split
    · rename_i h; rw [compL_den]; simp only [Env.assign, h, if_true]
    · rename_i h; simp only [E.den, Env.assign, h, if_false]
theorem subst_B (ρ : Env) (n : Nat) (R : List (Nat × Row)) (vs : List V) (e : E) : (e.subst n (vs.map (V.asE R))).B ρ = e.B (ρ.assign n R vs) := congrArg D.b (subst_den ρ n R vs e)
theorem subst_L (ρ : Env) (n : Nat) (R : List (Nat × Row)) (vs : List V) (e : E) : (e.subst n (vs.map (V.asE R))).L ρ = e.L (ρ.assign n R vs) := congrArg D.l (subst_den ρ n R vs e)
theorem subst_I (ρ : Env) (n : Nat) (R : List (Nat × Row)) (vs : List V) (e : E) : (e.subst n (vs.map (V.asE R))).I ρ = e.I (ρ.assign n R vs) := congrArg D.i (subst_den ρ n R vs e)

theorem fresh_den (ρ : Env) (n j : Nat) (R : List (Nat × Row)) (vs : List V) (k : Kd) {x : V} (hx : vs[j]? = some x) (hf : k.fits x = true) : (k.fresh (n + j)).den (ρ.assign n R vs) = x.den ρ := by
  have hE : (vs.map (V.asE R)).getD (n + j - n) (.c 0) = x.asE R := by rw [Nat.add_sub_cancel_left]; simp [hx]
  have hV : vs.getD (n + j - n) undefV = x := by rw [Nat.add_sub_cancel_left]; simp [hx]
  cases k with
  | any => simp only [Kd.fresh, den_var, Env.assign, Nat.le_add_right, if_true, hV]
  | i k =>
    cases x <;> simp only [Kd.fits, Bool.and_eq_true, decide_eq_true_eq, reduceCtorEq] at hf
    obtain ⟨rfl, h2⟩ := hf
    simp only [Kd.fresh, den_i, I_v, Env.assign, Nat.le_add_right, if_true, hE, V.asE]
    simp only [compI_of h2]
  | b =>
    cases x <;> simp only [Kd.fits, reduceCtorEq] at hf
    simp only [Kd.fresh, den_b, B_bv, Env.assign, Nat.le_add_right, if_true, hE, V.asE]
    simp only [compB, hf, if_true]
  | s =>
    cases x <;> simp only [Kd.fits, reduceCtorEq] at hf
    simp only [Kd.fresh, den_s, S_sv, Env.assign, Nat.le_add_right, if_true, hE, V.asE]
    simp only [compS, hf, if_true]

theorem tIdx_ok {i : Tmp} : ∀ {locs : List Loc} {n m : Nat} {k : Kd}, tIdx i locs n = some (m, k) → ∃ j, m = n + j ∧ locs[j]? = some (.t i k)
  | [], _, _, _, h => by cases h
  | .t j k :: l, n, m, k', h => by
    simp only [tIdx] at h
    split at h
    · rename_i hj; cases h; subst hj; exact ⟨0, rfl, rfl⟩
    · obtain ⟨j, h1, h2⟩ := tIdx_ok h; exact ⟨j + 1, by omega, by simpa using h2⟩
  | .h _ _ _ :: l, n, m, k', h => by
    simp only [tIdx] at h
    obtain ⟨j, h1, h2⟩ := tIdx_ok h; exact ⟨j + 1, by omega, by simpa using h2⟩
theorem hIdx_ok {b : Bk} {o : Nat} : ∀ {locs : List Loc} {n m : Nat} {k : Kd}, hIdx b o locs n = some (m, k) → ∃ j, m = n + j ∧ locs[j]? = some (.h b o k)
  | [], _, _, _, h => by cases h
  | .h b' o' k :: l, n, m, k', h => by
    simp only [hIdx] at h
    split at h
    · rename_i hj; cases h; obtain ⟨rfl, rfl⟩ := hj; exact ⟨0, rfl, rfl⟩
    · obtain ⟨j, h1, h2⟩ := hIdx_ok h; exact ⟨j + 1, by omega, by simpa using h2⟩
  | .t _ _ :: l, n, m, k', h => by
    simp only [hIdx] at h
    obtain ⟨j, h1, h2⟩ := hIdx_ok h; exact ⟨j + 1, by omega, by simpa using h2⟩
theorem locVs_ok {σ : St} : ∀ {locs : List Loc} {vs : List V}, locVs σ locs = some vs → vs.length = locs.length ∧ ∀ (j : Nat) (l : Loc), locs[j]? = some l → ∃ x : V, vs[j]? = some x ∧ locV σ l = some x ∧ l.kd.fits x = true
  | [], vs, h => by cases h; exact ⟨rfl, fun j l hl => by cases j <;> cases hl⟩
  | l :: ls, vs, h => by
    simp only [locVs] at h
    split at h
    · rename_i v vs' h1 h2
      split at h
      · rename_i hf
        cases h
        obtain ⟨e1, e2⟩ := locVs_ok h2
        refine ⟨by simp [e1], fun j l' hl => ?_⟩
        cases j with
        | zero => cases hl; exact ⟨v, rfl, h1, hf⟩
        | succ j => exact e2 j l' (by simpa using hl)
      · cases h
    · cases h

/-- A state, told by the names at a loop's head. -/
theorem genT_den {ρ : Env} {n : Nat} {R : List (Nat × Row)} {locs : List Loc} {σ : St} {vs : List V} (hv : locVs σ locs = some vs) (hu : ∀ i x, (genT n locs σ.T)[i]? = some x → tIdx i locs n = none → x.under n = true) :
    actOf (ρ.assign n R vs) (genT n locs σ.T) = actOf ρ σ.T := by
  simp only [actOf]
  congr 2
  apply List.ext_getElem?
  intro i
  simp only [List.getElem?_map]
  have hg : (genT n locs σ.T)[i]? = (σ.T[i]?).map fun x => match tIdx i locs n with | some (m, k) => k.fresh m | none => x := by
    simp [genT]; rfl
  have hu := hu i
  rw [hg] at hu ⊢
  cases hx : σ.T[i]? with
  | none => rfl
  | some x =>
    simp only [Option.map_some, hx] at hu ⊢
    cases ht : tIdx i locs n with
    | none =>
      simp only [ht] at hu ⊢
      rw [den_extV (assign_ext ρ n R vs) (hu x rfl trivial)]
    | some p =>
      obtain ⟨m, k⟩ := p
      simp only
      obtain ⟨j, rfl, hj⟩ := tIdx_ok ht
      obtain ⟨y, h1, h2, h3⟩ := (locVs_ok hv).2 j _ hj
      simp only [locV, hx, Option.some.injEq] at h2
      subst h2
      rw [fresh_den ρ n j R vs k h1 h3]
theorem genH_at {ρ : Env} {n : Nat} {R : List (Nat × Row)} {locs : List Loc} {σ : St} {vs : List V} (hv : locVs σ locs = some vs) {b : Bk} {o : HO} (hb : σ.look b = some o) (hu : ∀ i m k, hIdx b i locs n = some (m, k) → True)
    (hn : ∀ l t i x, o = .cells l t → l[i]? = some x → hIdx b i locs n = none → x.under n = true) {y : Option Obj} (hat : o.at ρ y) : (genH n locs b o).at (ρ.assign n R vs) y := by
  cases o with
  | cells l t =>
    simp only [HO.at, genH] at hat ⊢
    rw [hat]
    congr 3
    apply List.ext_getElem?
    intro i
    simp only [List.getElem?_map, List.getElem?_zipIdx, Nat.zero_add]
    cases hx : l[i]? with
    | none => simp
    | some x =>
      simp only [Option.map_some]
      cases ht : hIdx b i locs n with
      | none =>
        simp only
        rw [den_extV (assign_ext ρ n R vs) (hn l t i x rfl hx ht)]
      | some p =>
        obtain ⟨m, k⟩ := p
        simp only
        obtain ⟨j, rfl, hj⟩ := hIdx_ok ht
        obtain ⟨z, h1, h2, h3⟩ := (locVs_ok hv).2 j _ hj
        simp only [locV, hb, hx, Option.some.injEq] at h2
        subst h2
        rw [fresh_den ρ n j R vs k h1 h3]

theorem look_gen {n : Nat} {locs : List Loc} {σ : St} {b : Bk} {o : HO} (h : (gen n locs σ).look b = some o) : ∃ o', σ.look b = some o' ∧ o = genH n locs b o' := by
  unfold St.look gen at h
  simp only [List.find?_map, Option.map_map, Option.map_eq_some_iff] at h
  obtain ⟨p, hp, hpo⟩ := h
  have h2 := List.find?_some hp
  simp only [Function.comp, beq_iff_eq] at h2
  refine ⟨p.2, ?_, ?_⟩
  · unfold St.look
    rw [Option.map_eq_some_iff]
    exact ⟨p, hp, rfl⟩
  · rw [← h2]; exact hpo.symm
theorem genH_none {n : Nat} {locs : List Loc} {b : Bk} {l l' : List V} {t t' : TypeId} {i : Nat} {x : V} (h : genH n locs b (.cells l t) = .cells l' t') (hx : l[i]? = some x) (hn : hIdx b i locs n = none) : l'[i]? = some x := by
  simp only [genH, HO.cells.injEq] at h
  rw [← h.1]
  simp [hx, hn]

theorem rowFor_ok {ρ : Env} {τ : St} {w0 w : World} (hs : Sees TT ρ τ w0 w) {v : V} {r : Row} {x : Option Nat} {qn qx : E} (h : rowFor τ v r = some (x, qn, qx)) :
    ({ r with n := qn, xs := qx } : Row).at ρ w0.heap.size w (v.den ρ) ∧ (x = none ∧ (v.den ρ).ownBlock = none ∨ ∃ y q, x = some y ∧ v.den ρ = ρ.v y ∧ (y, q) ∈ τ.R ∧ q.own = r.own) := by
  unfold rowFor at h
  split at h
  · rename_i y
    split at h
    · rename_i p hp
      split at h
      · rename_i hc
        cases h
        have hm := List.mem_of_find?_eq_some hp
        have h1 : p.1 = y := by have := List.find?_some hp; simpa using this
        have hat := hs.row p hm
        refine ⟨?_, .inr ⟨y, p.2, rfl, rfl, by rw [← h1]; exact hm, hc.1⟩⟩
        have : ({ r with n := p.2.n, xs := p.2.xs } : Row) = p.2 := by
          obtain ⟨a, q⟩ := p
          obtain ⟨o, e, k, n', x'⟩ := q
          obtain ⟨o2, e2, k2, n2, x2⟩ := r
          simp only at hc
          obtain ⟨rfl, rfl, rfl⟩ := hc
          rfl
        rw [this, den_var, ← h1]
        exact hat
      · cases h
    · cases h
  · split at h
    · cases h
    · rename_i hk
      cases h
      refine ⟨⟨by simp, by simp only; omega, ?_⟩, .inl ⟨rfl, rfl⟩⟩
      simp only [L_nil, I_c]
      split
      · exact ⟨by simp [cellsV], .inl ⟨rfl, rfl⟩⟩
      · exact ⟨by simp, .inl ⟨rfl, trivial⟩⟩
  · cases h
theorem rowsFor_ok {τ : St} {n : Nat} {vs : List V} : ∀ {rows : List (Nat × Row)} {us : List (Option Nat × Nat)} {es : List E}, rowsFor τ n vs rows = some (us, es) →
    ∀ p ∈ rows, ∃ v x qn qx, vs[p.1]? = some v ∧ rowFor τ v p.2 = some (x, qn, qx) ∧ (x, p.1) ∈ us ∧ .eq qn (p.2.n.subst n (vs.map (V.asE τ.R))) ∈ es ∧ .leq qx (p.2.xs.subst n (vs.map (V.asE τ.R))) ∈ es
  | [], _, _, _, p, hp => by cases hp
  | (j, r) :: l, us, es, h, p, hp => by
    simp only [rowsFor] at h
    split at h
    · rename_i v us' es' h1 h2
      split at h
      · rename_i x qn qx h3
        cases h
        rcases List.mem_cons.1 hp with rfl | hp
        · exact ⟨v, x, qn, qx, h1, h3, List.mem_cons_self, List.mem_cons_self, List.mem_cons_of_mem _ List.mem_cons_self⟩
        · obtain ⟨v', x', a, b, e1, e2, e3, e4, e5⟩ := rowsFor_ok h2 p hp
          exact ⟨v', x', a, b, e1, e2, List.mem_cons_of_mem _ e3, List.mem_cons_of_mem _ (List.mem_cons_of_mem _ e4), List.mem_cons_of_mem _ (List.mem_cons_of_mem _ e5)⟩
      · cases h
    · cases h
/-- The rows at a loop's head. -/
theorem rows_head {ρ : Env} {τ : St} {w0 w : World} (hs : Sees TT ρ τ w0 w) {n : Nat} {vs : List V} {rows R0 : List (Nat × Row)} {us : List (Option Nat × Nat)} {es : List E}
    (hr : rowsFor τ n vs rows = some (us, es)) (he : ∀ e ∈ es, e.B ρ = true) (ha : apartO us = true) (hR0 : ∀ p ∈ R0, p ∈ τ.R ∧ p.1 < n ∧ p.2.under n = true ∧ ∀ u ∈ us, u.1 ≠ some p.1) :
    (∀ p ∈ headR n rows ++ R0, p.2.at (ρ.assign n τ.R vs) w0.heap.size w ((ρ.assign n τ.R vs).v p.1)) ∧
    (∀ p ∈ headR n rows ++ R0, ∀ b, ((ρ.assign n τ.R vs).v p.1).ownBlock = some b → ∀ q ∈ τ.H, ρ.blk q.1 ≠ b) ∧
    (∀ p ∈ headR n rows ++ R0, p.2.own = true → ∀ q ∈ headR n rows ++ R0, p.1 ≠ q.1 → ∀ b, ((ρ.assign n τ.R vs).v p.1).ownBlock = some b → ((ρ.assign n τ.R vs).v q.1).ownBlock ≠ some b) ∧
    (∀ p ∈ headR n rows ++ R0, ∀ b, ((ρ.assign n τ.R vs).v p.1).ownBlock = some b → w0.heap.size ≤ b ∨ TT.A b) := by
  have hx := assign_ext ρ n τ.R vs
  -- each row of the head: its value, and where it comes from
  have key : ∀ p ∈ rows, ∃ (v : V) (x : Option Nat), (ρ.assign n τ.R vs).v (n + p.1) = v.den ρ ∧ (x, p.1) ∈ us ∧ p.2.at (ρ.assign n τ.R vs) w0.heap.size w (v.den ρ) ∧ (x = none ∧ (v.den ρ).ownBlock = none ∨ ∃ y q, x = some y ∧ v.den ρ = ρ.v y ∧ (y, q) ∈ τ.R ∧ q.own = p.2.own) := fun p hp => by
    obtain ⟨v, x, qn, qx, h1, h2, h3, h4, h5⟩ := rowsFor_ok hr p hp
    obtain ⟨hat, hsrc⟩ := rowFor_ok hs h2
    refine ⟨v, x, ?_, h3, ?_, hsrc⟩
    · simp only [Env.assign, Nat.le_add_right, if_true, Nat.add_sub_cancel_left, List.getD, h1, Option.getD_some]
    · have e1 := he _ h4
      have e2 := he _ h5
      simp only [B_eq, B_leq, subst_I, subst_L, decide_eq_true_eq] at e1 e2
      unfold Row.at at hat ⊢
      simp only at hat
      rw [← e1, ← e2]
      exact hat
  have hold : ∀ p ∈ R0, (ρ.assign n τ.R vs).v p.1 = ρ.v p.1 := fun p hp => hx.v p.1 (hR0 p hp).2.1
  have hd : ∀ p ∈ headR n rows, ∃ q ∈ rows, p = (n + q.1, q.2) := fun p hp => by
    obtain ⟨q, hq, rfl⟩ := List.mem_map.1 hp
    exact ⟨q, hq, rfl⟩
  refine ⟨fun p hp => ?_, fun p hp b hb q hq => ?_, fun p hp ho q hq hne b hb => ?_, fun p hp b hb => ?_⟩
  · rcases List.mem_append.1 hp with hp | hp
    · obtain ⟨q, hq, rfl⟩ := hd p hp
      obtain ⟨v, x, e1, -, e2, -⟩ := key q hq
      simp only [e1]
      exact e2
    · rw [hold p hp]
      exact row_ext hx (hR0 p hp).2.2.1 (hs.row p (hR0 p hp).1)
  · rcases List.mem_append.1 hp with hp | hp
    · obtain ⟨z, hz, rfl⟩ := hd p hp
      obtain ⟨v, x, e1, -, -, e3⟩ := key z hz
      simp only [e1] at hb
      rcases e3 with ⟨-, e3⟩ | ⟨y, q', -, e4, e5, -⟩
      · rw [e3] at hb; cases hb
      · rw [e4] at hb
        exact hs.rsep _ e5 b hb q hq
    · rw [hold p hp] at hb
      exact hs.rsep p (hR0 p hp).1 b hb q hq
  · have ha' : ∀ a ∈ us, ∀ b ∈ us, a.2 = b.2 ∨ a.1 = none ∨ a.1 ≠ b.1 := fun a h1 b h2 => by
      have := List.all_eq_true.1 (List.all_eq_true.1 ha a h1) b h2
      simp only [Bool.or_eq_true, beq_iff_eq, bne_iff_ne, Option.isNone_iff_eq_none] at this
      rcases this with (h | h) | h
      · exact .inl h
      · exact .inr (.inl h)
      · exact .inr (.inr h)
    rcases List.mem_append.1 hp with hp | hp
    · obtain ⟨z, hz, rfl⟩ := hd p hp
      obtain ⟨v, x, e1, m1, -, e3⟩ := key z hz
      simp only [e1] at hb
      rcases e3 with ⟨-, e3⟩ | ⟨y, q', hxy, e4, e5, e6⟩
      · rw [e3] at hb; cases hb
      · rw [e4] at hb
        have hown' : q'.own = true := by rw [e6]; exact ho
        rcases List.mem_append.1 hq with hq | hq
        · obtain ⟨z2, hz2, rfl⟩ := hd q hq
          obtain ⟨v2, x2, f1, m2, -, f3⟩ := key z2 hz2
          simp only [f1]
          rcases f3 with ⟨-, f3⟩ | ⟨y2, q2, hxy2, f4, f5, f6⟩
          · rw [f3]; exact fun e => by cases e
          · rw [f4]
            refine hs.rown (y, q') e5 hown' (y2, q2) f5 ?_ b hb
            rcases ha' _ m1 _ m2 with h | h | h
            · exact absurd (by simp only at h; rw [h]) hne
            · rw [hxy] at h; cases h
            · simp only [hxy, hxy2] at h; simpa using h
        · rw [hold q hq]
          refine hs.rown (y, q') e5 hown' q (hR0 q hq).1 (fun e => ?_) b hb
          have := (hR0 q hq).2.2.2 _ m1
          rw [hxy] at this
          exact this (by rw [← e])
    · rw [hold p hp] at hb
      rcases List.mem_append.1 hq with hq | hq
      · obtain ⟨z2, hz2, rfl⟩ := hd q hq
        obtain ⟨v2, x2, f1, m2, -, f3⟩ := key z2 hz2
        simp only [f1]
        rcases f3 with ⟨-, f3⟩ | ⟨y2, q2, hxy2, f4, f5, f6⟩
        · rw [f3]; exact fun e => by cases e
        · rw [f4]
          refine hs.rown p (hR0 p hp).1 ho (y2, q2) f5 (fun e => ?_) b hb
          have := (hR0 p hp).2.2.2 _ m2
          rw [hxy2] at this
          exact this (by rw [e])
      · rw [hold q hq]
        exact hs.rown p (hR0 p hp).1 ho q (hR0 q hq).1 hne b hb
  · rcases List.mem_append.1 hp with hp | hp
    · obtain ⟨z, hz, rfl⟩ := hd p hp
      obtain ⟨v, x, e1, -, -, e3⟩ := key z hz
      simp only [e1] at hb
      rcases e3 with ⟨-, e3⟩ | ⟨y, q', -, e4, e5, -⟩
      · rw [e3] at hb; cases hb
      · rw [e4] at hb
        exact hs.src _ e5 b hb
    · rw [hold p hp] at hb
      exact hs.src p (hR0 p hp).1 b hb

section
variable {P : Program} {Γ : Ctx}
theorem ok_loop {g : Nat} (hcode : OkCode TT P Γ g) {L : LoopSpec} {c : Code} {σ σI : St} {ms l r : List Out} (hin : loopIn L c σ = some (σI, ms)) (hl : go P Γ g (.code c) σI = some l)
    (hb : bindL l (fun o => match o.x with | .norm => loopBack L c σ.fr (σI.R.drop (L.rows σ.fr).length) σI o.st | _ => if σI.fr ≤ o.st.fr then some [o] else none) = some r)
    {ρ : Env} {w0 w : World} {Q : Exit → Act → World → Prop} (hs : Sees TT ρ σ w0 w) (hg : ∀ o ∈ ms ++ r, GoodC TT Q ρ σ.fr w0 o) : (Code.loop c).wp P Q (actOf ρ σ.T) w := by
  unfold loopIn at hin
  simp only at hin
  split at hin
  · rename_i vs hvs
    split at hin
    case h_2 => cases hin
    rename_i us es hrows
    split at hin
    · rename_i hc
      cases hin
      simp only [Bool.and_eq_true] at hc
      obtain ⟨⟨⟨⟨⟨hok, hnd⟩, hfu⟩, hmu⟩, hWu⟩, hap⟩ := hc
      have hdrop : (headR σ.fr (L.rows σ.fr) ++ keptR us σ.R).drop (L.rows σ.fr).length = keptR us σ.R := by
        rw [List.drop_append_of_le_length (by simp [headR])]
        simp [headR]
      simp only [hdrop] at hb
      obtain ⟨hT, hH, hF, hW, hR⟩ := ok_parts hok
      rw [List.all_eq_true] at hT hnd
      have huT : ∀ i x, (genT σ.fr (locsOf L c) σ.T)[i]? = some x → tIdx i (locsOf L c) σ.fr = none → x.under σ.fr = true := fun i x hx hn => by
        have : σ.T[i]? = some x := by
          simp only [genT, List.getElem?_map, List.getElem?_zipIdx, Nat.zero_add, Option.map_map, Option.map_eq_some_iff, Function.comp, hn] at hx
          obtain ⟨y, hy, rfl⟩ := hx
          exact hy
        exact hT x (List.mem_of_getElem? this)
      have huH : ∀ p ∈ σ.H, ∀ (l : List V) (t : TypeId) (i : Nat) (x : V), p.2 = .cells l t → l[i]? = some x → x.under σ.fr = true := fun p hp l t i x he hx => by
        have := (hH p hp).2
        rw [he] at this
        simp only [HO.under, List.all_eq_true] at this
        exact this x (List.mem_of_getElem? hx)
      -- the invariant
      refine wp_loop_ghost (fun m a w => ∃ ρ2, Ext σ.fr ρ ρ2 ∧ a = actOf ρ2 (genT σ.fr (locsOf L c) σ.T) ∧
        Sees TT ρ2 { gen σ.fr (locsOf L c) σ with R := headR σ.fr (L.rows σ.fr) ++ keptR us σ.R, F := L.facts σ.fr ++ σ.F, fr := σ.fr + (locsOf L c).length, W := L.W ++ σ.W } w0 w ∧ m = ((L.meas σ.fr).I ρ2).toNat) _ ⟨ρ.assign σ.fr σ.R vs, assign_ext _ _ _ _, (genT_den hvs huT).symm, ?_, rfl⟩ ?_
      · have hall := musts_ok hs (l := (L.facts σ.fr).map (E.subst σ.fr (vs.map (V.asE σ.R))) ++ es) (fun o ho e he => by
          have := hg o (List.mem_append.2 (.inl ho)) ρ w (Ext.refl _ _) (by
            obtain ⟨e', -, rfl⟩ := List.mem_map.1 ho
            exact hs)
          rw [he] at this
          exact this)
        have hfacts : ∀ f ∈ L.facts σ.fr, f.B (ρ.assign σ.fr σ.R vs) = true := fun f hf => by
          rw [← subst_B]
          exact hall _ (List.mem_append.2 (.inl (List.mem_map.2 ⟨f, hf, rfl⟩)))
        have hx := assign_ext ρ σ.fr σ.R vs
        obtain ⟨r1, r2, r3, r4⟩ := rows_head (R0 := keptR us σ.R) hs hrows (fun e he => hall e (List.mem_append.2 (.inr he))) hap (fun p hp => by
          obtain ⟨h1, h2⟩ := List.mem_filter.1 hp
          rw [List.all_eq_true] at h2
          exact ⟨h1, (hR p h1).1, (hR p h1).2, fun u hu => by simpa using h2 u hu⟩)
        refine ⟨hs.os, hs.tape, hs.output, hs.size, fun k hk hb => hs.keep k hk fun b hbW => ?_, fun p hp => ?_, fun p hp q hq he => ?_, fun p hp ho => ?_, r1, fun p hp b hb q hq => ?_, r3, fun f hf => ?_, hs.tab, r4⟩
        · have := hb b (List.mem_append.2 (.inr hbW))
          rwa [assign_blk] at this
        · simp only [gen, List.mem_map] at hp
          obtain ⟨q, hq, rfl⟩ := hp
          have hlook : σ.look q.1 = some q.2 := by simpa using hnd q hq
          rw [assign_blk]
          exact genH_at hvs hlook (fun _ _ _ _ => trivial) (fun l t i x he hx _ => huH q hq l t i x he hx) (hs.blk q hq)
        · simp only [gen, List.mem_map] at hp hq
          obtain ⟨p', hp', rfl⟩ := hp
          obtain ⟨q', hq', rfl⟩ := hq
          rw [assign_blk, assign_blk] at he
          exact hs.sep p' hp' q' hq' he
        · simp only [gen, List.mem_map] at hp
          obtain ⟨p', hp', rfl⟩ := hp
          rw [assign_blk]
          exact hs.own p' hp' ho
        · simp only [gen, List.mem_map] at hq
          obtain ⟨q', hq', rfl⟩ := hq
          rw [assign_blk]
          exact r2 p hp b hb q' hq'
        · rcases List.mem_append.1 hf with hf | hf
          · exact hfacts f hf
          · rw [B_ext hx (hF f hf)]; exact hs.fact f hf
      · rintro m a w ⟨ρ2, hx2, rfl, hs2, rfl⟩
        refine hcode c _ l hl ρ2 w0 w _ hs2 fun u hu ρ3 w3 hx3 hs3 => ?_
        obtain ⟨s, hf, hsub⟩ := bindL_mem hb u hu
        have hx : Ext σ.fr ρ ρ3 := hx2.trans hx3 (Nat.le_add_right _ _)
        have hgood : ∀ o ∈ s, GoodC TT Q ρ σ.fr w0 o := fun o ho => hg o (List.mem_append.2 (.inr (hsub o ho)))
        cases hux : u.x with
        | norm =>
          simp only [hux] at hf ⊢
          unfold loopBack at hf
          simp only at hf
          split at hf
          · rename_i vs' hvs'
            split at hf
            case h_2 => cases hf
            rename_i us' rs hrows'
            split at hf
            · rename_i hc'
              cases hf
              simp only [Bool.and_eq_true, decide_eq_true_eq] at hc'
              obtain ⟨⟨⟨⟨⟨⟨⟨eT, eH⟩, eW⟩, eo⟩, -⟩, eap⟩, -⟩, eR⟩ := hc'
              rw [List.all_eq_true] at eH eW eR
              have hm := musts_ok hs3 (fun o ho e he => by
                have := hgood o ho ρ3 w3 hx (by
                  obtain ⟨e', -, rfl⟩ := List.mem_map.1 ho
                  exact hs3)
                rw [he] at this
                exact this)
              have hx4 := assign_ext ρ3 σ.fr u.st.R vs'
              have hx04 : Ext σ.fr ρ (ρ3.assign σ.fr u.st.R vs') := hx.trans hx4 (Nat.le_refl _)
              have hmeas : (L.meas σ.fr).I ρ3 = (L.meas σ.fr).I ρ2 := I_ext hx3 hmu
              have h1 := hm _ (List.mem_append.2 (.inr List.mem_cons_self))
              have h2 := hm _ (List.mem_append.2 (.inr (List.mem_cons_of_mem _ List.mem_cons_self)))
              simp only [B_lt, B_le, I_c, subst_I, decide_eq_true_eq, hmeas] at h1 h2
              obtain ⟨r1, r2, r3, r4⟩ := rows_head (R0 := keptR us σ.R) hs3 hrows' (fun e he => hm e (List.mem_append.2 (.inl (List.mem_append.2 (.inr he))))) eap (fun p hp => by
                have h9 := eR p hp
                obtain ⟨h1, h2⟩ := List.mem_filter.1 hp
                simp only [Bool.and_eq_true, List.all_eq_true] at h9
                exact ⟨by simpa using h9.1, (hR p h1).1, (hR p h1).2, fun u hu => by simpa using h9.2 u hu⟩)
              refine ⟨_, ?_, ρ3.assign σ.fr u.st.R vs', hx04, ?_, ?_, rfl⟩
              · omega
              · have e1 : genT σ.fr (locsOf L c) u.st.T = genT σ.fr (locsOf L c) σ.T := eT
                have := genT_den (ρ := ρ3) (R := u.st.R) hvs' (fun i x hx hn => huT i x (by rw [← e1]; exact hx) hn)
                rw [e1] at this
                exact this.symm
              · have hlk : ∀ p ∈ (gen σ.fr (locsOf L c) σ).H, ∃ o', u.st.look p.1 = some o' ∧ p.2 = genH σ.fr (locsOf L c) p.1 o' := fun p hp => by
                  have := eH p hp
                  simp only [beq_iff_eq] at this
                  exact look_gen this
                refine ⟨hs3.os, hs3.tape, hs3.output, hs3.size, fun k hk hb => hs3.keep k hk fun b hbW => ?_, fun p hp => ?_, fun p hp q hq he => ?_, fun p hp ho => ?_, r1, fun p hp b hb q hq => ?_, r3, fun f hf => ?_, hs3.tab, r4⟩
                · have := hb b (by have := eW b hbW; simpa using this)
                  rwa [assign_blk] at this
                · obtain ⟨o', h3, h4⟩ := hlk p hp
                  rw [assign_blk, h4]
                  refine genH_at hvs' h3 (fun _ _ _ _ => trivial) (fun l t i x he hx hn => ?_) (hs3.blk _ (look_mem h3))
                  simp only [gen, List.mem_map] at hp
                  obtain ⟨q, hq, rfl⟩ := hp
                  cases hq2 : q.2 with
                  | cells lq tq =>
                    simp only [hq2, he] at h4
                    have h5 : genH σ.fr (locsOf L c) q.1 (.cells l t) = .cells (lq.zipIdx.map fun p => match hIdx q.1 p.2 (locsOf L c) σ.fr with | some (m, k) => k.fresh m | none => p.1) tq := h4.symm
                    have h6 := genH_none h5 hx hn
                    simp only [List.getElem?_map, List.getElem?_zipIdx, Nat.zero_add, Option.map_map, Option.map_eq_some_iff, Function.comp, hn] at h6
                    obtain ⟨y, hy, rfl⟩ := h6
                    exact huH q hq lq tq i y hq2 hy
                · obtain ⟨o1, h3, -⟩ := hlk p hp
                  obtain ⟨o2, h4, -⟩ := hlk q hq
                  rw [assign_blk, assign_blk] at he
                  exact hs3.sep (p.1, o1) (look_mem h3) (q.1, o2) (look_mem h4) he
                · obtain ⟨o1, h3, -⟩ := hlk p hp
                  rw [assign_blk]
                  refine hs3.own (p.1, o1) (look_mem h3) ?_
                  rw [eo]; exact ho
                · obtain ⟨o1, h3, -⟩ := hlk q hq
                  rw [assign_blk]
                  exact r2 p hp b hb (q.1, o1) (look_mem h3)
                · rcases List.mem_append.1 hf with hf | hf
                  · rw [← subst_B]
                    exact hm _ (List.mem_append.2 (.inl (List.mem_append.2 (.inl (List.mem_map.2 ⟨f, hf, rfl⟩)))))
                  · rw [B_ext hx04 (hF f hf)]; exact hs.fact f hf
            · cases hf
          · cases hf
        | _ =>
          simp only [hux] at hf ⊢
          split at hf
          · cases hf
            have := hgood u List.mem_cons_self ρ3 w3 hx hs3
            rw [hux] at this
            exact this
          · cases hf
    · cases hin
  · cases hin

/-- A loop whose rounds come to an end after so many. -/
def Rounds (P : Program) (c : Code) (Q : Exit → Act → World → Prop) : Nat → Act → World → Prop
  | 0, _, _ => False
  | n + 1, a, w => c.wp P (Exit.then (Rounds P c Q n) Q) a w
theorem wp_rounds {c : Code} {Q : Exit → Act → World → Prop} {n : Nat} {a : Act} {w : World} (h : Rounds P c Q n a w) : (Code.loop c).wp P Q a w := by
  refine wp_loop_ghost (fun n a w => Rounds P c Q n a w) n h fun n a w hr => ?_
  cases n with
  | zero => exact hr.elim
  | succ n =>
    refine wp_mono hr fun e a' w' hq => ?_
    cases e with
    | normal => exact ⟨n, Nat.lt_succ_self n, hq⟩
    | _ => exact hq
def OkUnroll (TT : Tb) (P : Program) (Γ : Ctx) (g : Nat) : Prop := ∀ c σ outs, go P Γ g (.unroll c) σ = some outs → ∀ ρ w0 w Q, Sees TT ρ σ w0 w → (∀ o ∈ outs, GoodC TT Q ρ σ.fr w0 o) → Rounds P c Q g (actOf ρ σ.T) w
theorem ok_unroll {g : Nat} (hcode : OkCode TT P Γ g) (hun : OkUnroll TT P Γ g) : OkUnroll TT P Γ (g + 1) := by
  intro c σ outs h ρ w0 w Q hs hg
  simp only [go] at h
  split at h
  · rename_i l hl
    show c.wp P (Exit.then (Rounds P c Q g) Q) _ _
    refine hcode c σ l hl ρ w0 w _ hs fun u hu ρ' w' hx hs' => ?_
    obtain ⟨s, hf, hsub⟩ := bindL_mem h u hu
    cases hux : u.x with
    | norm =>
      simp only [hux] at hf ⊢
      split at hf
      · rename_i hfr
        exact hun c u.st s hf ρ' w0 w' Q hs' fun z hz => (hg z (hsub z hz)).ext hx hfr
      · cases hf
    | _ =>
      simp only [hux] at hf ⊢
      cases hf
      have := hg u (hsub u List.mem_cons_self) ρ' w' hx hs'
      rw [hux] at this
      exact this
  · cases h
end
end Go.Proofs.YtkggfeemjabdeaaGreatDoor.Sx
end
section
namespace Go.Proofs.YtkggfeemjabdeaaGreatDoor.Sx
open Go
variable {TT : Tb}
section
variable {P : Program} {Γ : Ctx}

theorem GoodC.goto {Q : Exit → Act → World → Prop} {ρ : Env} {n : Nat} {w0 : World} {o : Out} (h : GoodC TT Q ρ n w0 o) : GoodC TT (Exit.noGoto Q) ρ n w0 o := by
  intro ρ' w' hx hs
  have := h ρ' w' hx hs
  revert this
  cases o.x <;> intro this <;> exact this
theorem ok_code {g : Nat} (hcode : OkCode TT P Γ g) (hseq : OkSeq TT P Γ g) (hany : OkAny TT P Γ g) (hun : OkUnroll TT P Γ g) : OkCode TT P Γ (g + 1) := by
  intro c σ outs h ρ w0 w Q hs hg
  cases c with
  | skip => simp only [go] at h; cases h; exact wp_skip (hg _ List.mem_cons_self ρ w (Ext.refl _ _) hs)
  | label l => simp only [go] at h; cases h; exact wp_label (hg _ List.mem_cons_self ρ w (Ext.refl _ _) hs)
  | ret => simp only [go] at h; cases h; exact wp_ret (hg _ List.mem_cons_self ρ w (Ext.refl _ _) hs)
  | exit id => simp only [go] at h; cases h; exact wp_exit (hg _ List.mem_cons_self ρ w (Ext.refl _ _) hs)
  | seq a b =>
    simp only [go] at h
    split at h
    · rename_i l hl
      refine wp_seq (hcode a σ l hl ρ w0 w _ hs fun u hu ρ' w' hx hs' => ?_)
      obtain ⟨s, hf, hsub⟩ := bindL_mem h u hu
      cases hux : u.x with
      | norm =>
        simp only [hux] at hf ⊢
        split at hf
        · rename_i hfr
          exact hcode b u.st s hf ρ' w0 w' Q hs' fun z hz => (hg z (hsub z hz)).ext hx hfr
        · cases hf
      | _ =>
        simp only [hux] at hf ⊢
        cases hf
        have := hg u (hsub u List.mem_cons_self) ρ' w' hx hs'
        rw [hux] at this
        exact this
    · cases h
  | block id c =>
    simp only [go] at h
    split at h
    · rename_i l hl
      cases h
      refine wp_block (hcode c σ l hl ρ w0 w _ hs fun u hu ρ' w' hx hs' => ?_)
      have := hg _ (List.mem_map.2 ⟨u, hu, rfl⟩)
      by_cases he : u.x = .exit id
      · rw [if_pos he] at this
        rw [he]
        show Exit.inBlock id Q (.exit id) _ _
        simp only [Exit.inBlock, if_true]
        exact this ρ' w' hx hs'
      · rw [if_neg he] at this
        have := this ρ' w' hx hs'
        revert this he
        cases u.x <;> intro he this
        case exit id' =>
          show Exit.inBlock id Q (.exit id') _ _
          have : ¬ id' = id := fun e => he (by rw [e])
          simp only [Exit.inBlock, this, if_false]
          assumption
        all_goals exact this
    · cases h
  | scope c =>
    simp only [go] at h
    exact wp_scope_straight (hcode c σ outs h ρ w0 w _ hs fun u hu => (hg u hu).goto)
  | cond q a b =>
    simp only [go] at h
    split at h
    · rename_i e he
      have hev : (actOf ρ σ.T).eval q = .bool (e.B ρ) := evalO_ok he
      split at h
      · rename_i hd
        refine wp_cond hev ?_
        rw [decideB_ok hs.fact hd]
        exact hcode a σ outs h ρ w0 w Q hs hg
      · rename_i hd
        refine wp_cond hev ?_
        rw [decideB_ok hs.fact hd]
        exact hcode b σ outs h ρ w0 w Q hs hg
      · split at h
        · rename_i x y h1 h2
          cases h
          refine wp_cond hev ?_
          cases hb : e.B ρ with
          | true => exact hcode a (σ.know e true) x h1 ρ w0 w Q (hs.know hb) fun u hu => hg u (List.mem_append.2 (.inl hu))
          | false => exact hcode b (σ.know e false) y h2 ρ w0 w Q (hs.know hb) fun u hu => hg u (List.mem_append.2 (.inr hu))
        · cases h
    · cases h
  | region id ops draw =>
    cases draw with
    | false =>
      simp only [go] at h
      exact wp_region (hseq ops _ σ outs h ρ w0 w Q hs hg)
    | true =>
      simp only [go] at h
      split at h
      · rename_i hc
        simp only [Bool.and_eq_true] at hc
        split at h
        · rename_i l hl
          cases h
          refine wp_mono (wp_region_held (Q := strong Q) hc.1 (S := Held []) ?_) (fun _ _ _ => strong_out)
          have hs' : Sees TT ρ σ w0 { w with drawn := w.drawn + 1 } := hs.drew _
          exact hany ops _ _ [] σ l hl hc.2 ρ w0 _ Q [] hs' (fun p hp => by cases hp) (fun p hp => by cases hp) fun u hu => hg u (List.mem_eraseDups.2 hu)
        · cases h
      · cases h
  | loop c =>
    simp only [go] at h
    split at h
    · split at h
      · rename_i σI ms hin
        split at h
        · rename_i l hl
          split at h
          · rename_i r hb
            cases h
            exact ok_loop hcode hin hl hb hs hg
          · cases h
        · cases h
      · cases h
    · exact wp_rounds (hun c σ outs h ρ w0 w Q hs hg)
  | rangeFunc f ps a b => simp only [go] at h; cases h
  | goto l => simp only [go] at h; cases h
  | refuse s => simp only [go] at h; cases h

theorem tupV_ok (ρ : Env) (l : List V) : (tupV l).den ρ = (if h : (arr ρ l).size = 1 then (arr ρ l)[0] else .tuple (arr ρ l)) := by
  match l with
  | [] => simp [tupV, den_tup, arr, V.ofL, dens_nil]
  | [x] => simp [tupV, arr]
  | x :: y :: l =>
    have : ¬ (arr ρ (x :: y :: l)).size = 1 := by simp [arr]
    rw [dif_neg this]
    show V.den ρ (.tup (V.ofL (x :: y :: l))) = _
    rw [den_tup, dens_ofL]; rfl
theorem resV_ok {ρ : Env} {σ : St} {w0 w : World} (hs : Sees TT ρ σ w0 w) (F : ResultVar → Sem Value) (F1 : ∀ t, F (.tmp t) = pure ((actOf ρ σ.T).tmps.getD t undef))
    (F2 : ∀ a t, F (.cell a t) = (do loadVar t (← asAddr ((actOf ρ σ.T).tmps.getD a undef)))) : ∀ {l : List ResultVar} {vs : List V}, resV P σ l = some vs → (l.mapM F).run P w = .ok (vs.map (V.den ρ)) w
  | [], vs, h => by cases h; rfl
  | .tmp t :: l, vs, h => by
    simp only [resV] at h
    split at h
    · rename_i a b h1 h2
      cases h
      have : (actOf ρ σ.T).tmps.getD t undef = a.den ρ := by simp [actOf, h1]
      simp only [List.mapM_cons, F1, this, Sem.run_bind, Sem.run_pure, Result.andThen_ok]
      rw [resV_ok hs F F1 F2 h2]; rfl
    · cases h
  | .cell a t :: l, vs, h => by
    simp only [resV] at h
    split at h
    · rename_i p b h1 h2
      split at h
      · rename_i v hv
        cases h
        have hp : (actOf ρ σ.T).tmps.getD a undef = p.den ρ := by simp [actOf, h1]
        have hl := loadV_ok (P := P) hs hv
        have hpp : ∃ x, p.den ρ = .pointer (some x) := by
          unfold loadV at hv
          split at hv
          · split at hv
            · split at hv
              · rename_i hc _
                obtain ⟨a, ha, -⟩ := cellAt_ok hs hc
                exact ⟨a, ha⟩
              · cases hv
            · obtain ⟨a, ha, -⟩ := cellAt_ok hs hv
              exact ⟨a, ha⟩
            · cases hv
          · cases hv
        obtain ⟨x, hx⟩ := hpp
        simp only [Instr.loadAt, hx, Instr.sureAddr, Sem.run_bind, Sem.run_pure, Result.andThen_ok] at hl
        have ha : asAddr (.pointer (some x)) = pure x := rfl
        simp only [List.mapM_cons, F2, hp, hx, ha, Sem.run_bind, Sem.run_pure, Result.andThen_ok, hl]
        rw [resV_ok hs F F1 F2 h2]; rfl
      · cases h
    · cases h
theorem results_ok {ρ : Env} {σ : St} {w0 w : World} (hs : Sees TT ρ σ w0 w) {fn : Func} {vs : List V} (h : resV P σ fn.results.toList = some vs) : (results fn (actOf ρ σ.T).tmps).run P w = .ok ((tupV vs).den ρ) w := by
  unfold results
  rw [Sem.run_bind, Array.mapM_eq_mapM_toList]
  simp only [Sem.run_map]
  rw [resV_ok (P := P) hs _ (fun _ => rfl) (fun _ _ => rfl) h]
  simp only [Result.andThen_ok, Sem.run_pure, tupV_ok]
  rfl

theorem ok_fn {g : Nat} (hΓ : ∀ q ∈ Γ.calls, CtrOk TT P q) (hcode : OkCode TT P Γ g) : OkFn TT P fun f as τ => go P Γ (g + 1) (.fn f as) τ := by
  intro f args σ outs h
  simp only [go] at h
  split at h
  · rename_i q hq
    split at h
    · rename_i l hl
      split at h
      · rename_i hc
        cases h
        simp only [Bool.and_eq_true] at hc
        obtain ⟨⟨h1, h2⟩, h3⟩ := hc
        rw [List.all_eq_true] at h3
        refine ⟨fun o ho => ?_, fun ρ w0 w R hs hg => ?_⟩
        · have := h3 o ho
          simp only [Bool.and_eq_true, decide_eq_true_eq] at this
          exact ⟨this.2, this.1⟩
        · have hf : q.f = f := by have := List.find?_some hq; simpa using this
          rw [← hf]
          exact hΓ q (List.mem_of_find?_eq_some hq) args σ _ hl h1 h2 ρ w0 w R hs hg
      · cases h
    · cases h
  · split at h
    · rename_i fn hfn
      split at h
      · rename_i c hb
        split at h
        · rename_i l hl
          refine ⟨fun o ho => ?_, fun ρ w0 w R hs hg => ?_⟩
          · obtain ⟨u, hu, s, hf, hos⟩ := bindL_mem' h o ho
            split at hf
            · rename_i hfr
              cases hux : u.x <;> simp only [hux] at hf <;> try (cases hf; done)
              case norm =>
                split at hf <;> cases hf
                cases List.mem_singleton.1 hos
                exact ⟨rfl, hfr⟩
              case ret =>
                split at hf <;> cases hf
                cases List.mem_singleton.1 hos
                exact ⟨rfl, hfr⟩
              case must =>
                cases hf
                cases List.mem_singleton.1 hos
                exact ⟨rfl, hfr⟩
              case panic =>
                cases hf
                cases List.mem_singleton.1 hos
                exact ⟨rfl, hfr⟩
            · cases hf
          · refine calls_of_wp hfn hb ?_
            have hact : (⟨arr ρ args ++ Array.replicate (fn.ntmps - (arr ρ args).size) undef, []⟩ : Act) = actOf ρ (args ++ List.replicate (fn.ntmps - args.length) undefV) := by
              simp only [actOf, arr, List.map_append, List.map_replicate, undef_den]
              congr 1
              apply Array.ext'
              simp
            rw [hact]
            refine hcode c _ l hl ρ w0 w _ (hs.withT _) fun u hu ρ' w' hx hs' => ?_
            obtain ⟨s, hf, hsub⟩ := bindL_mem h u hu
            split at hf
            · rename_i hfr
              cases hux : u.x <;> simp only [hux] at hf ⊢ <;> try (cases hf; done)
              case norm =>
                split at hf <;> cases hf
                rename_i vs hv
                have := hg _ (hsub _ List.mem_cons_self) ρ' w' hx (hs'.withT _)
                exact ⟨rfl, _, results_ok hs' hv, this⟩
              case ret =>
                split at hf <;> cases hf
                rename_i vs hv
                have := hg _ (hsub _ List.mem_cons_self) ρ' w' hx (hs'.withT _)
                exact ⟨rfl, _, results_ok hs' hv, this⟩
              case must =>
                cases hf
                exact hg _ (hsub _ List.mem_cons_self) ρ' w' hx (hs'.withT _)
              case panic =>
                cases hf
                exact fun a ha => ⟨ha, hg _ (hsub _ List.mem_cons_self) ρ' w' hx (hs'.withT _)⟩
            · cases hf
        · cases h
      · cases h
    · cases h

theorem go_ok (hΓ : ∀ q ∈ Γ.calls, CtrOk TT P q) : ∀ g, OkCode TT P Γ g ∧ OkOp TT P Γ g ∧ OkSeq TT P Γ g ∧ OkAny TT P Γ g ∧ (OkFn TT P fun f as τ => go P Γ g (.fn f as) τ) ∧ OkUnroll TT P Γ g
  | 0 => by
    refine ⟨fun c σ outs h => ?_, fun o σ outs h => ?_, fun a l σ outs h => ?_, fun a n li K σ outs h => ?_, fun f as σ outs h => ?_, fun c σ outs h => ?_⟩ <;> simp only [go] at h <;> cases h
  | g + 1 => by
    obtain ⟨h1, h2, h3, h4, h5, h6⟩ := go_ok hΓ g
    exact ⟨ok_code h1 h3 h4 h6, ok_op h2 h5, ok_seq h2 h3, ok_any h2 h4, ok_fn hΓ h1, ok_unroll h1 h6⟩

/-- **A FUNCTION's CALL**: what the executor says of it holds. -/
theorem sx_call (hΓ : ∀ q ∈ Γ.calls, CtrOk TT P q) {g : Nat} {f : FuncId} {args : List V} {σ : St} {outs : List Out} (h : go P Γ g (.fn f args) σ = some outs) {ρ : Env} {w : World} {as : Array Value} (ha : as = arr ρ args)
    (hH : σ.H = []) (hW : σ.W = []) (hR : σ.R = []) (hF : holds ρ σ.F) (hT : TT.tab ρ.g ρ.h ρ.k ρ.m ∧ TT.J w) {R : Ending → World → Prop} (hg : ∀ o ∈ outs, GoodF TT R ρ σ.fr w o) : Calls P f as w R := by
  rw [ha]
  exact ((go_ok hΓ g).2.2.2.2.1 f args σ outs h).2 ρ w w R (Sees.start ρ σ w hH hW hR hF hT) hg
end
end Go.Proofs.YtkggfeemjabdeaaGreatDoor.Sx
end
section
namespace Go.Proofs.YtkggfeemjabdeaaGreatDoor.Sx
open Go Go.RowKit
variable {TT : Tb}

def envOf (is : List Int) (bs : List Bool) (ss : List ByteArray) (g : Nat → List (Int × ByteArray) → Int) (h : Nat → List (Int × ByteArray) → Bool) (k : Nat → List (Int × ByteArray) → ByteArray) (ls : List (List (Int × ByteArray)) := []) (m : Nat → List (Int × ByteArray) → List (Int × ByteArray) := fun _ _ => []) : Env :=
  { i := fun n => is.getD n 0, b := fun n => bs.getD n false, s := fun n => ss.getD n ⟨#[]⟩, v := fun _ => undef, n := fun _ => 0, g, h, k, l := fun n => ls.getD n [], m }
def noG : Nat → List (Int × ByteArray) → Int := fun _ _ => 0
def noH : Nat → List (Int × ByteArray) → Bool := fun _ _ => false
def noK : Nat → List (Int × ByteArray) → ByteArray := fun _ _ => ⟨#[]⟩
def anyT : Tb := { tab := fun _ _ _ _ => True }

structure Dig where
  x : X
  F : List E
  deriving DecidableEq, Inhabited
def digs : Option (List Out) → Option (List Dig)
  | some l => if l.all (fun o => o.st.W.isEmpty) then some (l.map fun o => ⟨o.x, o.st.F⟩).eraseDups else none
  | none => none
def GoodD (TT : Tb) (R : Ending → World → Prop) (ρ : Env) (n : Nat) (w : World) (d : Dig) : Prop :=
  ∀ ρ' w', Ext n ρ ρ' → TT.tab ρ'.g ρ'.h ρ'.k ρ'.m → holds ρ' d.F → Below w.heap.size w w' → match d.x with
    | .val v => R (.returned (v.den ρ')) w'
    | .must e => e.B ρ' = true
    | .panic v => R (.panicked [{ v := v.den ρ', recovered := false }]) w'
    | _ => False
def AllD (p : Dig → Prop) : List Dig → Prop
  | [] => True
  | [d] => p d
  | d :: l => p d ∧ AllD p l
theorem AllD_mem {p : Dig → Prop} : ∀ {l : List Dig}, AllD p l → ∀ d ∈ l, p d
  | [], _, d, hd => by cases hd
  | [a], h, d, hd => by cases List.mem_singleton.1 hd; exact h
  | a :: b :: l, h, d, hd => by
    rcases List.mem_cons.1 hd with rfl | hd
    · exact h.1
    · exact AllD_mem h.2 d hd
/-- **A FUNCTION's CALL**, told by how it ends alone. -/
theorem sx_pure {P : Program} {Γ : Ctx} (hΓ : ∀ q ∈ Γ.calls, CtrOk TT P q) (g : Nat) {f : FuncId} (args : List V) (F : List E) (n : Nat) (ds : List Dig) (h : digs (go P Γ g (.fn f args) { T := [], F := F, fr := n, own := n }) = some ds)
    (ρ : Env) {w : World} {as : Array Value} (ha : as = arr ρ args) (hF : holds ρ F) (hT : TT.tab ρ.g ρ.h ρ.k ρ.m) {R : Ending → World → Prop} (hg : AllD (GoodD TT R ρ n w) ds) (hJ : TT.J w := by exact trivial) : Calls P f as w R := by
  cases hgo : go P Γ g (.fn f args) { T := [], F := F, fr := n, own := n } with
  | none => rw [hgo] at h; cases h
  | some outs =>
    rw [hgo] at h
    simp only [digs] at h
    split at h
    · rename_i hW
      cases h
      refine sx_call hΓ hgo ha rfl rfl rfl hF ⟨hT, hJ⟩ fun o ho ρ' w' hx hs => ?_
      have hd : (⟨o.x, o.st.F⟩ : Dig) ∈ (outs.map fun o => (⟨o.x, o.st.F⟩ : Dig)).eraseDups := List.mem_eraseDups.2 (List.mem_map.2 ⟨o, ho, rfl⟩)
      rw [List.all_eq_true] at hW
      have hWo : o.st.W = [] := by simpa using hW o ho
      exact AllD_mem hg _ hd ρ' w' hx hs.tab.1 hs.fact (hs.below hWo)
    · cases h

/-! ### Contracts -/
theorem Sees.step {ρ : Env} {σ : St} {w0 w w' : World} (h : Sees TT ρ σ w0 w) (hb : Below w.heap.size w w') : Sees TT ρ σ w0 w' := by
  refine ⟨hb.os.trans h.os, hb.tape.trans h.tape, hb.output.trans h.output, Nat.le_trans h.size hb.size, fun k hk hW => ?_, fun p hp => ?_, h.sep, h.own, fun p hp => row_world (h.row p hp) hb.size (fun j hj => hb.block j (row_lt (h.row p hp) hj)), h.rsep, h.rown, h.fact, h.tab, h.src⟩
  · rw [hb.block k (Nat.lt_of_lt_of_le hk h.size)]; exact h.keep k hk hW
  · obtain ⟨y, hy⟩ := HO.at_some (h.blk p hp)
    rw [hb.block _ (Array.getElem?_eq_some_iff.1 hy).1]
    exact h.blk p hp
/-- A function that yields one value, if some truths hold. -/
def Ctr.pure (f : FuncId) (m : List V → Option (V × List E)) : Ctr :=
  ⟨f, fun args σ => match m args with
    | some (v, need) => if need.all (fun e => decideB σ.F e == some true) then some [⟨.val v, σ⟩] else some (need.map (fun e => ⟨.must e, σ⟩) ++ [⟨.val v, need.foldl (fun τ e => τ.know e true) σ⟩])
    | none => none⟩
theorem know_all {ρ : Env} {w0 w : World} : ∀ {need : List E} {σ : St}, Sees TT ρ σ w0 w → (∀ e ∈ need, e.B ρ = true) → Sees TT ρ (need.foldl (fun τ e => τ.know e true) σ) w0 w
  | [], _, h, _ => h
  | e :: l, σ, h, hn => know_all (σ := σ.know e true) (h.know (hn e List.mem_cons_self)) fun x hx => hn x (List.mem_cons_of_mem _ hx)
theorem Ctr.pure_ok {P : Program} {f : FuncId} {m : List V → Option (V × List E)}
    (h : ∀ args v need ρ w, m args = some (v, need) → TT.tab ρ.g ρ.h ρ.k ρ.m → (∀ e ∈ need, e.B ρ = true) → Calls P f (arr ρ args) w fun e w' => e = .returned (v.den ρ) ∧ Below w.heap.size w w') : CtrOk TT P (Ctr.pure f m) := by
  intro args σ outs hr hok ha ρ w0 w R hs hg
  simp only [Ctr.pure] at hr
  split at hr
  · rename_i v need hm
    split at hr
    · rename_i hd
      cases hr
      rw [List.all_eq_true] at hd
      refine (h args v need ρ w hm hs.tab.1 fun e he => decideB_ok hs.fact (by simpa using hd e he)).mono fun e w' ⟨he, hb⟩ => ?_
      subst he
      exact hg _ List.mem_cons_self ρ w' (Ext.refl _ _) (hs.step hb)
    · cases hr
      have hn : ∀ e ∈ need, e.B ρ = true := fun e he =>
        hg ⟨.must e, σ⟩ (List.mem_append.2 (.inl (List.mem_map.2 ⟨e, he, rfl⟩))) ρ w (Ext.refl _ _) hs
      refine (h args v need ρ w hm hs.tab.1 hn).mono fun e w' ⟨he, hb⟩ => ?_
      subst he
      exact hg ⟨.val v, _⟩ (List.mem_append.2 (.inr List.mem_cons_self)) ρ w' (Ext.refl _ _) (know_all (hs.step hb) hn)
  · cases hr
end Go.Proofs.YtkggfeemjabdeaaGreatDoor.Sx
end
section
namespace Go.Proofs.YtkggfeemjabdeaaGreatDoor.Sx
open Go Go.RowKit
variable {TT : Tb}

theorem Sees.startR (ρ : Env) (σ : St) (w : World) (hH : σ.H = []) (hW : σ.W = []) (hR : ∀ p ∈ σ.R, p.2.own = false ∧ p.2.at ρ w.heap.size w (ρ.v p.1) ∧ ∀ b, (ρ.v p.1).ownBlock = some b → TT.A b) (hF : holds ρ σ.F) (hT : TT.tab ρ.g ρ.h ρ.k ρ.m ∧ TT.J w) : Sees TT ρ σ w w :=
  ⟨rfl, rfl, rfl, Nat.le_refl _, fun _ _ _ => rfl, by simp [hH], by simp [hH], by simp [hH], fun p hp => (hR p hp).2.1, by simp [hH], fun p hp ho => absurd ho (by rw [(hR p hp).1]; simp), hF, hT, fun p hp b hb => .inr ((hR p hp).2.2 b hb)⟩

structure RDig where
  x : X
  F : List E
  R : List (Nat × Row)
  deriving DecidableEq, Inhabited
/-- The rows that a value names. -/
def namesV : V → List Nat
  | .var x => [x]
  | .rsl x => [x]
  | .tup l => namesV l
  | .agg l => namesV l
  | .cons a l => namesV a ++ namesV l
  | _ => []
def rowsOf (o : Out) : List (Nat × Row) := match o.x with | .val v => o.st.R.filter fun p => (namesV v).contains p.1 | _ => []
def rdigs : Option (List Out) → Option (List RDig)
  | some l => if l.all (fun o => o.st.W.isEmpty) then some (l.map fun o => ⟨o.x, o.st.F, rowsOf o⟩).eraseDups else none
  | none => none
def GoodR (TT : Tb) (Q : Ending → World → Prop) (ρ : Env) (n : Nat) (w : World) (d : RDig) : Prop :=
  ∀ ρ' w', Ext n ρ ρ' → TT.tab ρ'.g ρ'.h ρ'.k ρ'.m → holds ρ' d.F → Below w.heap.size w w' → (∀ p ∈ d.R, p.2.at ρ' w.heap.size w' (ρ'.v p.1) ∧ ∀ b, (ρ'.v p.1).ownBlock = some b → w.heap.size ≤ b ∨ TT.A b) → match d.x with
    | .val v => Q (.returned (v.den ρ')) w'
    | .must e => e.B ρ' = true
    | .panic v => Q (.panicked [{ v := v.den ρ', recovered := false }]) w'
    | _ => False
def AllR (p : RDig → Prop) : List RDig → Prop
  | [] => True
  | [d] => p d
  | d :: l => p d ∧ AllR p l
theorem AllR_mem {p : RDig → Prop} : ∀ {l : List RDig}, AllR p l → ∀ d ∈ l, p d
  | [], _, d, hd => by cases hd
  | [a], h, d, hd => by cases List.mem_singleton.1 hd; exact h
  | a :: b :: l, h, d, hd => by
    rcases List.mem_cons.1 hd with rfl | hd
    · exact h.1
    · exact AllR_mem h.2 d hd
/-- **A CALL WITH ROWS**. -/
theorem sx_rows {P : Program} {Γ : Ctx} (hΓ : ∀ q ∈ Γ.calls, CtrOk TT P q) (g : Nat) {f : FuncId} (args : List V) (R0 : List (Nat × Row)) (F : List E) (n : Nat) (ds : List RDig) (h : rdigs (go P Γ g (.fn f args) { T := [], R := R0, F := F, fr := n, own := n }) = some ds)
    (ρ : Env) {w : World} {as : Array Value} (ha : as = arr ρ args) (hR : ∀ p ∈ R0, p.2.own = false ∧ p.2.at ρ w.heap.size w (ρ.v p.1) ∧ ∀ b, (ρ.v p.1).ownBlock = some b → TT.A b) (hF : holds ρ F) (hT : TT.tab ρ.g ρ.h ρ.k ρ.m) {Q : Ending → World → Prop} (hg : AllR (GoodR TT Q ρ n w) ds) (hJ : TT.J w := by exact trivial) : Calls P f as w Q := by
  cases hgo : go P Γ g (.fn f args) { T := [], R := R0, F := F, fr := n, own := n } with
  | none => rw [hgo] at h; cases h
  | some outs =>
    rw [hgo] at h
    simp only [rdigs] at h
    split at h
    · rename_i hW
      cases h
      rw [ha]
      refine ((go_ok hΓ g).2.2.2.2.1 f args _ outs hgo).2 ρ w w Q (Sees.startR ρ _ w rfl rfl hR hF ⟨hT, hJ⟩) fun o ho ρ' w' hx hs => ?_
      have hd : (⟨o.x, o.st.F, rowsOf o⟩ : RDig) ∈ (outs.map fun o => (⟨o.x, o.st.F, rowsOf o⟩ : RDig)).eraseDups := List.mem_eraseDups.2 (List.mem_map.2 ⟨o, ho, rfl⟩)
      rw [List.all_eq_true] at hW
      have hWo : o.st.W = [] := by simpa using hW o ho
      refine AllR_mem hg _ hd ρ' w' hx hs.tab.1 hs.fact (hs.below hWo) fun p hp => ?_
      have hp : p ∈ o.st.R := by
        simp only [rowsOf] at hp
        split at hp
        · exact (List.mem_filter.1 hp).1
        · cases hp
      exact ⟨hs.row p hp, hs.src p hp⟩
    · cases h

/-- A row that a call gives. -/
theorem sees_res {ρ : Env} {σ : St} {w0 w w' : World} (hs : Sees TT ρ σ w0 w) (hok : σ.ok = true) (hb : Below w.heap.size w w') (u : Value) {r : Row} (hat : r.at ρ w0.heap.size w' u) {R' : List (Nat × Row)} (hR' : ∀ p ∈ R', p ∈ σ.R)
    (hblk : ∀ b, u.ownBlock = some b → w.heap.size ≤ b ∨ (r.own = false ∧ ∃ p ∈ σ.R, (ρ.v p.1).ownBlock = some b ∧ ∀ q ∈ R', q.1 = p.1 → q.2.own = false)) {F' : List E} (hF' : holds ρ F') :
    Sees TT (ρ.nameV σ.fr u) { σ with R := (σ.fr, r) :: R', fr := σ.fr + 1, F := F' } w0 w' := by
  obtain ⟨-, hH, hF, hW, hR⟩ := ok_parts hok
  have hx := nameV_ext ρ σ.fr u
  have hst := hs.step hb
  have hs' := sees_ext hx hH hF hW hR hst
  have hnew : (ρ.nameV σ.fr u).v σ.fr = u := by simp [Env.nameV]
  have hold : ∀ p ∈ σ.R, (ρ.nameV σ.fr u).v p.1 = ρ.v p.1 := fun p hp => hx.v _ (hR p hp).1
  have hlt : ∀ p ∈ σ.R, ∀ b, (ρ.v p.1).ownBlock = some b → b < w.heap.size := fun p hp b h => row_lt (hs.row p hp) h
  refine ⟨hs'.os, hs'.tape, hs'.output, hs'.size, hs'.keep, hs'.blk, hs'.sep, hs'.own, fun p hp => ?_, fun p hp b hb q hq => ?_, fun p hp ho q hq hne b hb e => ?_, fun f hf => by rw [nameV_B]; exact hF' f hf, hs'.tab, fun p hp b hb => ?_⟩
  · rcases List.mem_cons.1 hp with rfl | hp
    · simp only [hnew]; exact nameV_at.2 hat
    · exact hs'.row p (hR' p hp)
  · rcases List.mem_cons.1 hp with rfl | hp
    · simp only [hnew] at hb
      rw [blk_ext hx (hH q hq).1]
      rcases hblk b hb with h1 | ⟨-, p2, hp2, hb2, -⟩
      · obtain ⟨y, hy⟩ := HO.at_some (hs.blk q hq)
        have := (Array.getElem?_eq_some_iff.1 hy).1
        omega
      · exact hs.rsep p2 hp2 b hb2 q hq
    · exact hs'.rsep p (hR' p hp) b hb q hq
  · rcases List.mem_cons.1 hp with rfl | hp
    · simp only at ho
      simp only [hnew] at hb
      rcases List.mem_cons.1 hq with rfl | hq
      · exact hne rfl
      · rw [hold q (hR' q hq)] at e
        have := hlt q (hR' q hq) b e
        rcases hblk b hb with h1 | ⟨h1, -⟩
        · omega
        · rw [ho] at h1; cases h1
    · have hpR := hR' p hp
      rw [hold p hpR] at hb
      rcases List.mem_cons.1 hq with rfl | hq
      · simp only [hnew] at e
        rcases hblk b e with h1 | ⟨-, p2, hp2, hb2, hq2⟩
        · have := hlt p hpR b hb; omega
        · by_cases hpp : p.1 = p2.1
          · have := hq2 p hp hpp
            rw [ho] at this; cases this
          · exact hs.rown p hpR ho p2 hp2 hpp b hb hb2
      · rw [hold q (hR' q hq)] at e
        exact hs.rown p hpR ho q (hR' q hq) hne b hb e
  · rcases List.mem_cons.1 hp with rfl | hp
    · simp only [hnew] at hb
      rcases hblk b hb with h1 | ⟨-, p2, hp2, hb2, -⟩
      · exact .inl (Nat.le_trans hs.size h1)
      · exact hs.src p2 hp2 b hb2
    · exact hs'.src p (hR' p hp) b hb

/-! ### Contracts -/
inductive Res where
  | val (v : V) | row (r : Row)
def argsV (args : List V) : List Nat := args.filterMap fun | .var x => some x | _ => none
/-- A function of rows: what is to be shown first, what it yields, what is known then. -/
def Ctr.rows (f : FuncId) (m : List V → List (Nat × Row) → Option (List E × Res × List E)) : Ctr :=
  ⟨f, fun args σ => match m args σ.R with
    | some (need, .val v, facts) => some (musts σ need ++ [⟨.val v, { σ with F := facts ++ news σ.F need ++ σ.F }⟩])
    | some (need, .row r, facts) => some (musts σ need ++ [⟨.val (.var σ.fr), { σ with R := (σ.fr, r) :: (if r.own then σ.R else σ.R.filter fun p => !(p.2.own && (argsV args).contains p.1)), fr := σ.fr + 1, F := facts ++ news σ.F need ++ σ.F }⟩])
    | none => none⟩
def CtrRows (TT : Tb) (P : Program) (f : FuncId) (m : List V → List (Nat × Row) → Option (List E × Res × List E)) : Prop :=
  ∀ args R need res facts ρ base w, m args R = some (need, res, facts) → TT.tab ρ.g ρ.h ρ.k ρ.m → (∀ e ∈ need, e.B ρ = true) → (∀ x r, findR R x = some r → r.at ρ base w (ρ.v x)) →
    Calls P f (arr ρ args) w fun e w' => Below w.heap.size w w' ∧ (∀ e ∈ facts, e.B ρ = true) ∧ match res with
      | .val v => e = .returned (v.den ρ)
      | .row r => ∃ u, e = .returned u ∧ r.at ρ w.heap.size w' u ∧ ∀ b, u.ownBlock = some b → w.heap.size ≤ b ∨ (r.own = false ∧ ∃ x r', x ∈ argsV args ∧ findR R x = some r' ∧ (ρ.v x).ownBlock = some b)
theorem at_base {ρ : Env} {a b : Nat} (hab : a ≤ b) {w : World} {v : Value} {r : Row} (h : r.at ρ b w v) : r.at ρ a w v := by
  obtain ⟨h0, h1, h2⟩ := h
  refine ⟨h0, h1, ?_⟩
  split
  · rename_i ho
    rw [if_pos ho] at h2
    refine ⟨h2.1, ?_⟩
    rcases h2.2 with h3 | ⟨g, cap, cur, hv, hg, hrest⟩
    · exact .inl h3
    · exact .inr ⟨g, cap, cur, hv, by omega, hrest⟩
  · rename_i ho
    rw [if_neg ho] at h2
    exact h2
theorem Ctr.rows_ok {P : Program} {f : FuncId} {m : List V → List (Nat × Row) → Option (List E × Res × List E)} (h : CtrRows TT P f m) : CtrOk TT P (Ctr.rows f m) := by
  intro args σ outs hr hok ha ρ w0 w R hs hg
  simp only [Ctr.rows] at hr
  have hneed : ∀ {need : List E} {l : List Out}, (∀ o ∈ musts σ need ++ l, GoodF TT R ρ σ.fr w0 o) → ∀ e ∈ need, e.B ρ = true := fun hg e he =>
    musts_ok hs (fun u hu e hue => by
      have := hg u (List.mem_append.2 (.inl hu)) ρ w (Ext.refl _ _) (by
        obtain ⟨e', -, rfl⟩ := List.mem_map.1 hu
        exact hs)
      rw [hue] at this
      exact this) e he
  split at hr
  · rename_i need v facts hm
    cases hr
    have hn := hneed hg
    refine (h args σ.R need _ facts ρ w0.heap.size w hm hs.tab.1 hn fun x r hf => hs.row _ (findR_mem hf)).mono fun e w' ⟨hb, hfa, he⟩ => ?_
    simp only at he
    subst he
    refine hg _ (List.mem_append.2 (.inr List.mem_cons_self)) ρ w' (Ext.refl _ _) ((hs.step hb).withF fun e he => ?_)
    rcases List.mem_append.1 he with he | he
    · rcases List.mem_append.1 he with he | he
      · exact hfa e he
      · exact hn e (List.mem_filter.1 he).1
    · exact hs.fact e he
  · rename_i need r facts hm
    cases hr
    have hn := hneed hg
    refine (h args σ.R need _ facts ρ w0.heap.size w hm hs.tab.1 hn fun x r hf => hs.row _ (findR_mem hf)).mono fun e w' ⟨hb, hfa, he⟩ => ?_
    simp only at he
    obtain ⟨u, rfl, hat, hblk⟩ := he
    have hF' : holds ρ (facts ++ news σ.F need ++ σ.F) := fun e he => by
      rcases List.mem_append.1 he with he | he
      · rcases List.mem_append.1 he with he | he
        · exact hfa e he
        · exact hn e (List.mem_filter.1 he).1
      · exact hs.fact e he
    have hsr := sees_res (R' := if r.own then σ.R else σ.R.filter fun p => !(p.2.own && (argsV args).contains p.1)) hs hok hb u (at_base hs.size hat) (fun p hp => by
      split at hp
      · exact hp
      · exact (List.mem_filter.1 hp).1) (fun b hbb => ?_) hF'
    · have := hg _ (List.mem_append.2 (.inr List.mem_cons_self)) (ρ.nameV σ.fr u) w' (nameV_ext _ _ _) hsr
      simp only [den_var, Env.nameV, if_true] at this
      exact this
    · rcases hblk b hbb with h1 | ⟨h1, x, r', hx, hf, hxb⟩
      · exact .inl h1
      · refine .inr ⟨h1, (x, r'), findR_mem hf, hxb, fun q hq hqx => ?_⟩
        rw [h1] at hq
        simp only [Bool.false_eq_true, if_false, List.mem_filter, Bool.not_eq_true', Bool.and_eq_false_iff] at hq
        rcases hq.2 with h2 | h2
        · exact h2
        · simp only at hqx
          rw [hqx] at h2
          simp [hx] at h2
  · cases hr
/-- A row as one that is only read. -/
theorem at_read {ρ ρ' : Env} {r r' : Row} {base base' : Nat} {w : World} {v : Value} (h : r.at ρ base w v) (ho : r'.own = false) (hk : r'.kds = r.kds) (hn : r'.n.I ρ' = r.n.I ρ) (hx : r'.xs.L ρ' = r.xs.L ρ) : r'.at ρ' base' w v := by
  obtain ⟨h0, h1, h2⟩ := h
  refine ⟨by rw [hn]; exact h0, by rw [hk]; exact h1, ?_⟩
  rw [hk, hn, hx]
  simp only [ho, Bool.false_eq_true, if_false]
  split at h2
  · have hown := h2
    obtain ⟨e1, e2⟩ := h2
    refine ⟨by rw [← e1, cellsV_length], ?_⟩
    rcases e2 with ⟨rfl, e0⟩ | ⟨g, cap, cur, rfl, hbg, hh, hnc, hcm, hcs, ht⟩
    · exact .inl ⟨rfl, by omega⟩
    · exact .inr ⟨_, cap, rfl, rfl, (Array.getElem?_eq_some_iff.1 hh).1, ⟨hnc, hcm⟩, hown.cells (g := g) rfl⟩
  · exact h2
theorem at_len {ρ : Env} {r : Row} {base : Nat} {w : World} {v : Value} (h : r.at ρ base w v) : 0 ≤ r.n.I ρ ∧ (r.xs.L ρ).length = (r.n.I ρ).toNat * r.kds.length := by
  obtain ⟨h0, h1, h2⟩ := h
  refine ⟨h0, ?_⟩
  split at h2
  · rw [← h2.1, cellsV_length]
  · exact h2.1
end Go.Proofs.YtkggfeemjabdeaaGreatDoor.Sx
end
