/- Operations: values in whatever world, loads, stores, new blocks. -/
import Derived.Laws.Cells
import Derived.Test.YtkhffloahpdbdaaDoorPa3
namespace Go.Proofs.YtkhffloahpdbdaaDoor.Sx
open Go
variable {TT : Tb}

def partsR (T : List V) : List (Nat × Operand) → Option (List (Nat × V))
  | [] => some []
  | (i, x) :: l => match evalO T x, partsR T l with | some a, some b => some ((i, a) :: b) | _, _ => none
theorem parts_ok {ρ : Env} {T : List V} {M : List Nat} : ∀ {l : List (Nat × Operand)} {vs : List (Nat × V)}, partsR T l = some vs → l.map (fun p => (p.1, (actOf ρ T M).eval p.2)) = vs.map fun p => (p.1, p.2.den ρ)
  | [], vs, h => by cases h; rfl
  | (i, x) :: l, vs, h => by
    simp only [partsR] at h
    split at h
    · cases h
      rename_i h1 h2
      simp [evalO_ok h1, parts_ok h2]
    · cases h
def optO (T : List V) : Option Operand → Option (Option V)
  | none => some none
  | some x => (evalO T x).map some
theorem opt_ok {ρ : Env} {T : List V} {M : List Nat} {x : Option Operand} {v : Option V} (h : optO T x = some v) : x.map (actOf ρ T M).eval = v.map (V.den ρ) := by
  cases x with
  | none => cases h; rfl
  | some x =>
    simp only [optO, Option.map_eq_some_iff] at h
    obtain ⟨a, ha, rfl⟩ := h
    simp [evalO_ok ha]

def opV (P : Program) (F : List E) (T : List V) (o : Oper) : Option R :=
  match o.op with
  | .move x => (evalO T x).map .val
  | .assign x => (evalO T x).map .val
  | .pick q a b => match evalO T q with
    | some (.b e) => match decideB F e with | some true => (evalO T a).map .val | some false => (evalO T b).map .val | none => some (.split e)
    | _ => none
  | .binOp op t x y _ => match evalO T x, evalO T y with | some a, some b => (match structR P F op t a b with | some r => some r | none => binR P F op t a b) | _, _ => none
  | .unOp op _ x => match evalO T x with | some a => unR F op a | _ => none
  | .convert s d x => match evalO T x with | some a => convR P F s d a | _ => none
  | .fieldAddr t x n => match evalO T x with | some a => fieldAddrR P t n a | _ => none
  | .field t x n => match evalO T x with | some a => fieldR P t n a | _ => none
  | .index t x y => match evalO T x, evalO T y with | some a, some b => indexR P F t a b | _, _ => none
  | .indexAddr t x y => match evalO T x, evalO T y with | some a, some b => indexAddrR P F t a b | _, _ => none
  | .nilCheck x => match evalO T x with | some (.ptr b k l) => some (.val (.ptr b k l)) | some (.fn (.func f) a b) => some (.val (.fn (.func f) a b)) | _ => none
  | .extract x n => match evalO T x with | some (.tup l) => l.toL[n]?.map .val | _ => none
  | .build t parts => match partsR T parts.toList with | some ps => (builtV P t ps).map .val | none => none
  | .makeInterface t x => match evalO T x with | some a => if P.concrete t then some (.val (.ifc t a)) else none | none => none
  | .makeFunc fn first captured => match evalOs T first.toList, evalOs T captured.toList with | some a, some b => some (.val (.fn fn (V.ofL a) (V.ofL b))) | _, _ => none
  | .slice t x lo hi none => match evalO T x, optO T lo, optO T hi with | some a, some l, some u => sliceR P F t a l u | _, _, _ => none
  | .call ⟨.builtin b, args, ts⟩ => match evalOs T args.toList with | some vs => builtinR P F b ts vs | none => none
  | _ => none

theorem arr_get (ρ : Env) (l : List V) (n : Nat) : (arr ρ l)[n]? = (l[n]?).map (V.den ρ) := by simp [arr]
theorem run_v {P : Program} {w : World} {s : Sem Value} {u : Value} (h : s.run P w = .ok u w) : ((do pure (.value (← s))) : Sem Next).run P w = .ok (.value u) w := by
  rw [Sem.run_bind, h]; rfl
theorem opV_ok {P : Program} {ρ : Env} {F : List E} (h : holds ρ F) {T : List V} {M : List Nat} {o : Oper} {v : V} (hr : opV P F T o = some (.val v)) (w : World) :
    (execOp (actOf ρ T M).eval o).run P w = .ok (.value (v.den ρ)) w := by
  unfold opV at hr
  unfold execOp
  split at hr <;> rename_i hop <;> simp only [hop]
  · rw [Option.map_eq_some_iff] at hr
    obtain ⟨a, ha, hv⟩ := hr
    cases hv
    rw [evalO_ok ha]; rfl
  · rw [Option.map_eq_some_iff] at hr
    obtain ⟨a, ha, hv⟩ := hr
    cases hv
    rw [evalO_ok ha]; rfl
  · split at hr
    · rename_i e hq
      rw [evalO_ok hq]
      split at hr
      · rename_i hd
        rw [Option.map_eq_some_iff] at hr
        obtain ⟨a, ha, hv⟩ := hr
        cases hv
        simp only [den_b, asBool, decideB_ok h hd, Sem.run_bind, Sem.run_pure, Result.andThen_ok, if_true, evalO_ok ha]
      · rename_i hd
        rw [Option.map_eq_some_iff] at hr
        obtain ⟨a, ha, hv⟩ := hr
        cases hv
        simp only [den_b, asBool, decideB_ok h hd, Sem.run_bind, Sem.run_pure, Result.andThen_ok, Bool.false_eq_true, if_false, evalO_ok ha]
      · cases hr
    · cases hr
  · split at hr
    · rename_i h1 h2
      rw [evalO_ok h1, evalO_ok h2]
      split at hr
      · rename_i hst
        rw [hr] at hst
        exact run_v (structR_ok h hst _ _ w)
      · exact run_v (binR_ok h hr _ _ w)
    · cases hr
  · split at hr
    · rename_i h1
      rw [evalO_ok h1]
      exact run_v (unR_ok h hr w)
    · cases hr
  · split at hr
    · rename_i h1
      rw [evalO_ok h1]
      exact run_v (convR_ok h hr w)
    · cases hr
  · split at hr
    · rename_i h1
      rw [evalO_ok h1]
      exact run_v (fieldAddrR_ok hr w)
    · cases hr
  · split at hr
    · rename_i h1
      rw [evalO_ok h1]
      exact run_v (fieldR_ok hr w)
    · cases hr
  · split at hr
    · rename_i h1 h2
      rw [evalO_ok h1, evalO_ok h2]
      exact run_v (indexR_ok h hr w)
    · cases hr
  · split at hr
    · rename_i h1 h2
      rw [evalO_ok h1, evalO_ok h2]
      exact run_v (indexAddrR_ok h hr w)
    · cases hr
  · split at hr
    · rename_i h1
      cases hr
      rw [evalO_ok h1]; rfl
    · rename_i h1
      cases hr
      rw [evalO_ok h1]; rfl
    · cases hr
  · split at hr
    · rename_i l h1
      rw [Option.map_eq_some_iff] at hr
      obtain ⟨a, ha, hv⟩ := hr
      cases hv
      rw [evalO_ok h1, den_tup]
      refine run_v ?_
      simp only [Instr.extract, arr_toL]
      simp only [arr_get, ha, Option.map_some, Sem.run_pure]
    · cases hr
  · split at hr
    · rename_i ps hp
      rw [Option.map_eq_some_iff] at hr
      obtain ⟨a, ha, hv⟩ := hr
      cases hv
      refine run_v (builtV_ok ha _ ?_ w)
      rw [← parts_ok (M := M) hp]
      simp
    · cases hr
  · split at hr
    · rename_i h1
      split at hr
      · rename_i hc
        cases hr
        rw [evalO_ok h1]
        exact run_v (run_makeInterface w _ _ hc)
      · cases hr
    · cases hr
  · split at hr
    · rename_i h1 h2
      cases hr
      refine run_v ?_
      have e1 := evalOs_ok (ρ := ρ) (M := M) h1
      have e2 := evalOs_ok (ρ := ρ) (M := M) h2
      simp only [Instr.makeFunc, Sem.run_pure, den_fn, dens_ofL, ← e1, ← e2]
      congr 2 <;> apply Array.ext' <;> simp
    · cases hr
  · split at hr
    · rename_i h1 h2 h3
      rw [evalO_ok h1, opt_ok h2, opt_ok h3]
      exact run_v (sliceR_ok h hr w)
    · cases hr
  · split at hr
    · rename_i vs hv
      simp only [resolve, Sem.run_bind, Sem.run_pure, Result.andThen_ok, invoke]
      refine builtinR_ok h hr _ ?_ w
      rw [← evalOs_ok (M := M) hv]
      simp
    · cases hr
  · cases hr

/-! ### Rows -/
def findR (R : List (Nat × Row)) (x : Nat) : Option Row := (R.find? (·.1 == x)).map (·.2)
theorem findR_mem {R : List (Nat × Row)} {x : Nat} {r : Row} (h : findR R x = some r) : (x, r) ∈ R := by
  unfold findR at h
  rw [Option.map_eq_some_iff] at h
  obtain ⟨p, hp, rfl⟩ := h
  have h1 := List.mem_of_find?_eq_some hp
  have h2 := List.find?_some hp
  simp at h2
  subst h2
  exact h1
/-- What is known of the rows' slices, whatever memory holds. -/
def RowVals (ρ : Env) (R : List (Nat × Row)) : Prop :=
  ∀ p ∈ R, 0 ≤ p.2.n.I ρ ∧ (ρ.v p.1 = .slice none 0 0 ∧ p.2.n.I ρ = 0 ∨ ∃ a cap, ρ.v p.1 = .slice (some a) (p.2.n.I ρ).toNat cap ∧ a.spot = none)
theorem Sees.rows {ρ : Env} {σ : St} {w0 w : World} (h : Sees TT ρ σ w0 w) : RowVals ρ σ.R := fun p hp => by
  obtain ⟨h0, -, h2⟩ := h.row p hp
  refine ⟨h0, ?_⟩
  split at h2
  · obtain ⟨-, e2⟩ := h2
    rcases e2 with ⟨e, e0⟩ | ⟨g, cap, cur, hv, -⟩
    · exact .inl ⟨e, by omega⟩
    · exact .inr ⟨_, cap, hv, rfl⟩
  · obtain ⟨-, e2⟩ := h2
    rcases e2 with e2 | ⟨a, cap, hv, hsp, -⟩
    · exact .inl e2
    · exact .inr ⟨a, cap, hv, hsp⟩
theorem cellsV_get (kds : List Kd) (xs : List (Int × ByteArray)) (j : Nat) : (cellsV kds xs)[j]? = (xs[j]?).map fun x => cellV x (kds.getD (j % kds.length) .any) := by
  simp [cellsV]; rfl
/-- A cell of a row. -/
theorem row_cell {ρ : Env} {r : Row} {base : Nat} {w : World} {v : Value} (h : r.at ρ base w v) {j : Nat} (hj : j < (r.n.I ρ).toNat * r.kds.length) :
    ∃ a cap x, v = .slice (some a) (r.n.I ρ).toNat cap ∧ a.spot = none ∧ (r.xs.L ρ)[j]? = some x ∧ w.cell? ⟨a.block, a.off + j, none⟩ = some (cellV x (r.kds.getD (j % r.kds.length) .any)) := by
  obtain ⟨h0, h1, h2⟩ := h
  have hn : (r.n.I ρ).toNat ≠ 0 := fun e => by rw [e, Nat.zero_mul] at hj; omega
  split at h2
  · obtain ⟨e1, e2⟩ := h2
    rcases e2 with ⟨-, e0⟩ | ⟨g, cap, cur, hv, -, hh, hnc, -, hcs, ht⟩
    · exact absurd e0 hn
    · have hlen : (r.xs.L ρ).length = (r.n.I ρ).toNat * r.kds.length := by rw [← e1]; simp [cellsV]
      have hx : (r.xs.L ρ)[j]? = some ((r.xs.L ρ)[j]'(by omega)) := by simp [hlen, hj]
      refine ⟨_, cap, _, hv, rfl, hx, ?_⟩
      have hc := cellsV_get r.kds (r.xs.L ρ) j
      rw [hx, ← ht, List.getElem?_take, if_pos hj] at hc
      simp only [World.cell?, hh, Nat.zero_add]
      simpa using hc
  · obtain ⟨e1, e2⟩ := h2
    rcases e2 with ⟨-, e0⟩ | ⟨a, cap, hv, hsp, -, -, hc⟩
    · omega
    · have hx : (r.xs.L ρ)[j]? = some ((r.xs.L ρ)[j]'(by omega)) := by simp [e1, hj]
      refine ⟨a, cap, _, hv, hsp, hx, ?_⟩
      have := hc j _ (by rw [cellsV_get, hx]; rfl)
      have ha : a.add j = ⟨a.block, a.off + j, none⟩ := by
        obtain ⟨b, o, s⟩ := a
        simp only at hsp
        subst hsp
        exact Addr.add_lit b o j
      rw [ha] at this
      exact this
/-- How long a list is, and what its elements are, where its term tells. -/
def lenE : E → Option Nat
  | .nil => some 0
  | .cons _ l => (lenE l).map (· + 1)
  | .lrep (.c n) _ => some n.toNat
  | .lset l _ _ => lenE l
  | .lsub l (.c i) (.c j) => (lenE l).map fun n => min j.toNat n - i.toNat
  | .lcat a b => match lenE a, lenE b with | some m, some n => some (m + n) | _, _ => none
  | _ => none
theorem lenE_ok (ρ : Env) : ∀ {l : E} {n : Nat}, lenE l = some n → (l.L ρ).length = n := by
  intro l
  induction l <;> intro m h <;> try simp only [lenE, reduceCtorEq, Option.some.injEq] at h
  case nil => subst h; rfl
  case cons a l _ ih =>
    rw [Option.map_eq_some_iff] at h
    obtain ⟨k, hk, rfl⟩ := h
    simp [ih hk]
  case lcat a b iha ihb =>
    split at h
    · rename_i h1 h2; cases h; simp [iha h1, ihb h2]
    · cases h
  case lrep a b _ _ =>
    cases a <;> simp only [lenE, reduceCtorEq, Option.some.injEq] at h
    subst h; simp
  case lset l i a ih _ _ => simp [ih h]
  case lsub l i j ih _ _ =>
    cases i <;> try (simp only [lenE, reduceCtorEq] at h; done)
    cases j <;> simp only [lenE, reduceCtorEq] at h
    rw [Option.map_eq_some_iff] at h
    obtain ⟨k, hk, rfl⟩ := h
    simp [ih hk]
def nthE : E → Nat → Option E
  | .cons a _, 0 => some a
  | .cons _ l, z + 1 => nthE l z
  | .lrep (.c n) a, z => if z < n.toNat then some a else none
  | .lset l (.c i) a, z => if i.toNat = z then (match lenE l with | some n => if z < n then some a else none | none => none) else nthE l z
  | .lsub l (.c i) (.c j), z => if i.toNat + z < j.toNat then nthE l (i.toNat + z) else none
  | .lcat a b, z => match lenE a with | some n => if z < n then nthE a z else nthE b (z - n) | none => none
  | _, _ => none
theorem nthE_ok (ρ : Env) : ∀ {l : E} {z : Nat} {a : E}, nthE l z = some a → (l.L ρ)[z]? = some (a.I ρ, a.S ρ) := by
  intro l
  induction l <;> intro z x h <;> try (simp only [nthE, reduceCtorEq] at h; done)
  case cons a l _ ih =>
    cases z with
    | zero => simp only [nthE, Option.some.injEq] at h; subst h; simp
    | succ z => simp only [nthE] at h; simpa using ih h
  case lcat a b iha ihb =>
    simp only [nthE] at h
    split at h
    · rename_i n hn
      have := lenE_ok ρ hn
      split at h
      · rw [L_lcat, List.getElem?_append_left (by omega)]; exact iha h
      · rw [L_lcat, List.getElem?_append_right (by omega), this]; exact ihb h
    · cases h
  case lrep a b _ _ =>
    cases a <;> simp only [nthE, reduceCtorEq] at h
    split at h
    · rename_i hz; cases h; simp [hz]
    · cases h
  case lset l i a ih _ _ =>
    cases i <;> simp only [nthE, reduceCtorEq] at h
    split at h
    · rename_i hi
      split at h
      · rename_i n hn
        split at h
        · rename_i hz
          cases h
          have := lenE_ok ρ hn
          simp [hi, this, hz]
        · cases h
      · cases h
    · rename_i hi
      rw [L_lset, I_c, List.getElem?_set_ne hi]
      exact ih h
  case lsub l i j ih _ _ =>
    cases i <;> try (simp only [nthE, reduceCtorEq] at h; done)
    cases j <;> simp only [nthE, reduceCtorEq] at h
    split at h
    · rename_i hz
      rw [L_lsub, I_c, I_c, List.getElem?_drop, List.getElem?_take, if_pos hz]
      exact ih h
    · cases h
def mkNthI : E → E → E | l, .c z => (nthE l z.toNat).getD (.nthI l (.c z)) | l, i => .nthI l i
theorem mkNthI_ok (ρ : Env) (l i : E) : (mkNthI l i).I ρ = ((((l.L ρ)[(i.I ρ).toNat]?).map Prod.fst).getD 0) := by
  unfold mkNthI
  split
  · rename_i z
    cases hn : nthE l z.toNat with
    | none => rfl
    | some a => rw [I_c, nthE_ok ρ hn]; rfl
  · rfl
def mkNthS : E → E → E | l, .c z => (nthE l z.toNat).getD (.nthS l (.c z)) | l, i => .nthS l i
theorem mkNthS_ok (ρ : Env) (l i : E) : (mkNthS l i).S ρ = ((((l.L ρ)[(i.I ρ).toNat]?).map Prod.snd).getD ⟨#[]⟩) := by
  unfold mkNthS
  split
  · rename_i z
    cases hn : nthE l z.toNat with
    | none => rfl
    | some a => rw [I_c, nthE_ok ρ hn]; rfl
  · rfl
def nthV (kd : Kd) (xs i : E) : Option V := match kd with
  | .i k => some (.i k (mkNthI xs i))
  | .s => some (.s (mkNthS xs i))
  | .b => some (.b (.not (.eq (mkNthI xs i) (.c 0))))
  | .any => none
theorem nthV_ok {ρ : Env} {kd : Kd} {xs i : E} {v : V} (h : nthV kd xs i = some v) {x : Int × ByteArray} (hx : (xs.L ρ)[(i.I ρ).toNat]? = some x) : v.den ρ = cellV x kd := by
  cases kd <;> simp only [nthV, Option.some.injEq, reduceCtorEq] at h <;> subst h
  · simp only [den_i, mkNthI_ok, hx, cellV]; rfl
  · simp only [den_b, B_not, B_eq, mkNthI_ok, I_c, hx, cellV]
    simp
  · simp only [den_s, mkNthS_ok, hx, cellV]; rfl

/-! ### Loads -/
def shiftP (j : Nat) : V → V | .ptr b k l => .ptr b (k + j) l | .rptr x k l => .rptr x (k + j) l | v => v
/-- One of the numbers that stand so far apart, by an index that is a term. -/
def pickV (e : E) (s k : Nat) (l : List V) : Nat → Nat → Option V
  | _, 0 => none
  | j, 1 => match l[k + j * s]? with | some (.i t x) => some (.i t x) | _ => none
  | j, n + 2 => match l[k + j * s]?, pickV e s k l (j + 1) (n + 1) with
    | some (.i t x), some (.i t' y) => if t = t' then some (.i t (.ite (.eq e (.c (j : Int))) x y)) else none
    | _, _ => none
theorem pickV_ok {ρ : Env} {e : E} {s k : Nat} {l : List V} : ∀ {n j : Nat} {v : V}, pickV e s k l j n = some v → (j : Int) ≤ e.I ρ → e.I ρ < (j : Int) + n → ∃ u, l[k + (e.I ρ).toNat * s]? = some u ∧ u.den ρ = v.den ρ
  | 0, j, v, h, _, _ => by cases h
  | 1, j, v, h, h1, h2 => by
    simp only [pickV] at h
    have ej : (e.I ρ).toNat = j := by omega
    rw [ej]
    split at h
    · rename_i t x hx
      cases h
      exact ⟨_, hx, rfl⟩
    · cases h
  | n + 2, j, v, h, h1, h2 => by
    simp only [pickV] at h
    split at h
    · rename_i t x t' y hx hy
      split at h
      · rename_i ht
        cases h
        subst ht
        by_cases hj : e.I ρ = (j : Int)
        · have ej : (e.I ρ).toNat = j := by omega
          rw [ej]
          refine ⟨_, hx, ?_⟩
          simp only [den_i, I_ite, B_eq, I_c, hj, decide_true, if_true]
        · obtain ⟨u, hu, hd⟩ := pickV_ok (ρ := ρ) (e := e) (j := j + 1) hy (by omega) (by omega)
          refine ⟨u, hu, ?_⟩
          rw [hd]
          simp only [den_i, I_ite, B_eq, I_c, hj, decide_false, Bool.false_eq_true, if_false]
      · cases h
    · cases h
/-- The cell behind a pointer. -/
def cellAt (σ : St) : V → Option V
  | .ptr b k [] => match σ.look b with | some (.cells l _) => l[k]? | some (.tab l) => (tabV l)[k]? | _ => none
  | .ptr b k [(s, e)] => match σ.look b with
    | some (.tab l) => if 0 < s ∧ decideB σ.F (.le (.c 0) e) = some true ∧ decideB σ.F (.lt e (.c ((((tabV l).length - k + s - 1) / s : Nat) : Int))) = some true then pickV e s k (tabV l) 0 (((tabV l).length - k + s - 1) / s) else none
    | some (.cells l _) => if 0 < s ∧ decideB σ.F (.le (.c 0) e) = some true ∧ decideB σ.F (.lt e (.c (((l.length - k + s - 1) / s : Nat) : Int))) = some true then pickV e s k l 0 ((l.length - k + s - 1) / s) else none
    | _ => none
  | .rptr x k [] => match findR σ.R x with
    | some r => if decideB σ.F (.lt (.c ((k / r.kds.length : Nat) : Int)) r.n) = some true ∧ 0 < r.kds.length then nthV (r.kds.getD (k % r.kds.length) .any) r.xs (.c k) else none
    | none => none
  | .rptr x k [(s, e)] => match findR σ.R x with
    | some r => if s = r.kds.length ∧ k < s ∧ decideB σ.F (.le (.c 0) e) = some true ∧ decideB σ.F (.lt e r.n) = some true then nthV (r.kds.getD k .any) r.xs (mkAdd (mkMul e (.c s)) (.c k)) else none
    | none => none
  | _ => none
theorem cell_at {ρ : Env} {l : List V} {t : TypeId} {w : World} {g : Nat} (h : (HO.cells l t).at ρ w.heap[g]?) (k : Nat) : w.cell? ⟨g, k, none⟩ = (l[k]?).map (V.den ρ) := by
  have h : w.heap[g]? = some (.cells (l.map (V.den ρ)).toArray t) := h
  simp [World.cell?, h]
theorem tab_at {ρ : Env} {l : List (IntKind × Int)} {w : World} {g : Nat} (h : (HO.tab l).at ρ w.heap[g]?) (k : Nat) : w.cell? ⟨g, k, none⟩ = ((tabV l)[k]?).map (V.den ρ) := by
  obtain ⟨t, fr, h⟩ : ∃ t fr, w.heap[g]? = some (.cells ((tabV l).map (V.den ρ)).toArray t fr) := h
  simp [World.cell?, h]
theorem cellAt_ok {ρ : Env} {σ : St} {w0 w : World} (hs : Sees TT ρ σ w0 w) {p v : V} (h : cellAt σ p = some v) : ∃ a, p.den ρ = .pointer (some a) ∧ a.spot = none ∧ w.cell? a = some (v.den ρ) := by
  unfold cellAt at h
  split at h
  · rename_i b k
    split at h
    · rename_i l ty hb
      refine ⟨addrD ρ b k [], den_ptr _ _ _ _, rfl, ?_⟩
      show w.cell? ⟨ρ.blk b, k, none⟩ = _
      rw [cell_at (hs.blk _ (look_mem hb)), h]; rfl
    · rename_i l hb
      refine ⟨addrD ρ b k [], den_ptr _ _ _ _, rfl, ?_⟩
      show w.cell? ⟨ρ.blk b, k, none⟩ = _
      rw [tab_at (hs.blk _ (look_mem hb)), h]; rfl
    · cases h
  · rename_i b k s e
    split at h
    · rename_i l hb
      split at h
      · rename_i hc
        obtain ⟨-, h0, h1⟩ := hc
        have h0 := decideB_ok hs.fact h0
        have h1 := decideB_ok hs.fact h1
        simp only [B_le, B_lt, I_c, decide_eq_true_eq] at h0 h1
        obtain ⟨u, hu, hd⟩ := pickV_ok (ρ := ρ) h (by simpa using h0) (by simpa using h1)
        refine ⟨addrD ρ b k [(s, e)], den_ptr _ _ _ _, rfl, ?_⟩
        show w.cell? ⟨ρ.blk b, k + (e.I ρ).toNat * s, none⟩ = _
        rw [tab_at (hs.blk _ (look_mem hb)), hu, Option.map_some, hd]
      · cases h
    · rename_i l ty hb
      split at h
      · rename_i hc
        obtain ⟨-, h0, h1⟩ := hc
        have h0 := decideB_ok hs.fact h0
        have h1 := decideB_ok hs.fact h1
        simp only [B_le, B_lt, I_c, decide_eq_true_eq] at h0 h1
        obtain ⟨u, hu, hd⟩ := pickV_ok (ρ := ρ) h (by simpa using h0) (by simpa using h1)
        refine ⟨addrD ρ b k [(s, e)], den_ptr _ _ _ _, rfl, ?_⟩
        show w.cell? ⟨ρ.blk b, k + (e.I ρ).toNat * s, none⟩ = _
        rw [cell_at (hs.blk _ (look_mem hb)), hu, Option.map_some, hd]
      · cases h
    · cases h
  · rename_i x k
    split at h
    · rename_i r hr
      split at h
      · rename_i hc
        have hlt := decideB_ok hs.fact hc.1
        simp only [B_lt, I_c, decide_eq_true_eq] at hlt
        have hk : k < (r.n.I ρ).toNat * r.kds.length := by
          have h1 : k / r.kds.length < (r.n.I ρ).toNat := by omega
          have h2 := Nat.div_add_mod k r.kds.length
          have h3 := Nat.mod_lt k hc.2
          have h4 : (k / r.kds.length + 1) * r.kds.length ≤ (r.n.I ρ).toNat * r.kds.length := Nat.mul_le_mul_right _ h1
          rw [Nat.add_mul, Nat.one_mul, Nat.mul_comm] at h4
          omega
        obtain ⟨a, cap, y, hv, hsp, hy, hcell⟩ := row_cell (hs.row _ (findR_mem hr)) hk
        simp only at hv
        refine ⟨⟨a.block, a.off + k, none⟩, by rw [den_rptr, hv]; rfl, rfl, ?_⟩
        rw [hcell, nthV_ok h (x := y) (by simpa using hy)]
      · cases h
    · cases h
  · rename_i x k s e
    split at h
    · rename_i r hr
      split at h
      · rename_i hc
        obtain ⟨rfl, hk, h0, h1⟩ := hc
        have h0 := decideB_ok hs.fact h0
        have h1 := decideB_ok hs.fact h1
        simp only [B_le, B_lt, I_c, decide_eq_true_eq] at h0 h1
        have h2 : (e.I ρ).toNat < (r.n.I ρ).toNat := by omega
        have hj : (e.I ρ).toNat * r.kds.length + k < (r.n.I ρ).toNat * r.kds.length := by
          have : ((e.I ρ).toNat + 1) * r.kds.length ≤ (r.n.I ρ).toNat * r.kds.length := Nat.mul_le_mul_right _ h2
          rw [Nat.add_mul, Nat.one_mul] at this
          omega
        obtain ⟨a, cap, y, hv, hsp, hy, hcell⟩ := row_cell (hs.row _ (findR_mem hr)) hj
        simp only at hv
        have hmod : ((e.I ρ).toNat * r.kds.length + k) % r.kds.length = k := by rw [Nat.mul_add_mod', Nat.mod_eq_of_lt hk]
        rw [hmod] at hcell
        refine ⟨⟨a.block, a.off + ((e.I ρ).toNat * r.kds.length + k), none⟩, by rw [den_rptr, hv]; simp [offN, Nat.add_comm], rfl, ?_⟩
        have hi : ((mkAdd (mkMul e (.c (r.kds.length : Int))) (.c (k : Int))).I ρ).toNat = (e.I ρ).toNat * r.kds.length + k := by
          rw [mkAdd_ok, mkMul_ok]
          simp only [I_c]
          obtain ⟨z, hz⟩ : ∃ z : Nat, e.I ρ = z := ⟨(e.I ρ).toNat, by omega⟩
          rw [hz, Int.toNat_natCast, ← Int.natCast_mul, ← Int.natCast_add, Int.toNat_natCast]
        rw [hcell, nthV_ok h (x := y) (by rw [hi]; exact hy)]
      · cases h
    · cases h
  · cases h
def cellsAt (σ : St) (p : V) (j : Nat) : Nat → Option (List V)
  | 0 => some []
  | n + 1 => match cellAt σ (shiftP j p), cellsAt σ p (j + 1) n with | some v, some l => some (v :: l) | _, _ => none
def isPtrV : V → Bool | .ptr _ _ _ | .rptr _ _ _ => true | _ => false
def loadV (P : Program) (σ : St) (t : TypeId) (p : V) : Option V :=
  if isPtrV p then match isAggV P t, sizeV P t with
    | some true, some n => match cellAt σ p, cellsAt σ p 0 n with | some _, some l => some (.agg (V.ofL l)) | _, _ => none
    | some false, _ => cellAt σ p
    | _, _ => none
  else none
theorem shift_den {ρ : Env} {p : V} (hp : isPtrV p = true) {a : Addr} (h : p.den ρ = .pointer (some a)) (hs : a.spot = none) (j : Nat) : (shiftP j p).den ρ = .pointer (some (a.add j)) := by
  have key : ∀ b o, (⟨b, o, none⟩ : Addr).add j = ⟨b, o + j, none⟩ := fun b o => Addr.add_lit b o j
  cases p <;> first | (cases hp; done) | skip
  · rename_i b k l
    rw [den_ptr] at h
    injection h with h
    injection h with h
    subst h
    simp only [shiftP, den_ptr]
    congr 2
    rw [addr_add]
  · rename_i x k l
    rw [den_rptr] at h
    simp only [shiftP, den_rptr]
    split at h
    · rename_i a' n c hv
      injection h with h
      injection h with h
      subst h
      rw [key, offN_add, Nat.add_assoc]
    · cases h
theorem cellsAt_ok {ρ : Env} {σ : St} {w0 w : World} (hs : Sees TT ρ σ w0 w) {p : V} (hp : isPtrV p = true) {a : Addr} (ha : p.den ρ = .pointer (some a)) (hsp : a.spot = none) : ∀ {n j : Nat} {l : List V}, cellsAt σ p j n = some l →
    l.length = n ∧ ∀ i u, (l.map (V.den ρ))[i]? = some u → w.cell? (a.add (j + i)) = some u
  | 0, j, l, h => by cases h; exact ⟨rfl, fun i u hi => by cases hi⟩
  | n + 1, j, l, h => by
    simp only [cellsAt] at h
    split at h
    · rename_i v l' h1 h2
      cases h
      obtain ⟨e1, e2⟩ := cellsAt_ok hs hp ha hsp h2
      refine ⟨by simp [e1], fun i u hi => ?_⟩
      cases i with
      | zero =>
        obtain ⟨a', h3, -, h4⟩ := cellAt_ok hs h1
        rw [shift_den hp ha hsp] at h3
        injection h3 with h3
        injection h3 with h3
        simp at hi
        rw [Nat.add_zero, h3, h4, hi]
      | succ i =>
        have := e2 i u (by simpa using hi)
        rwa [show j + 1 + i = j + (i + 1) by omega] at this
    · cases h
theorem loadV_ok {P : Program} {ρ : Env} {σ : St} {w0 w : World} (hs : Sees TT ρ σ w0 w) {t : TypeId} {x v : V} (hl : loadV P σ t x = some v) :
    (Instr.loadAt t (x.den ρ)).run P w = .ok (v.den ρ) w := by
  unfold loadV at hl
  split at hl
  · rename_i hp
    split at hl
    · rename_i n h1 h2
      split at hl
      · rename_i u l hc0 hc
        cases hl
        obtain ⟨a, ha, hsp, -⟩ := cellAt_ok hs hc0
        obtain ⟨e1, e2⟩ := cellsAt_ok hs hp ha hsp hc
        simp only [Instr.loadAt, ha, Instr.sureAddr, Sem.run_bind, Sem.run_pure, Result.andThen_ok, loadVar, isAgg_ok h1, if_true, sizeOf_ok h2, agg_ofL]
        have := run_loadCells_list (P := P) w a (l.map (V.den ρ)) (fun j u hj => by have := e2 j u hj; rwa [Nat.zero_add] at this)
        rw [List.length_map, e1] at this
        rw [this]; rfl
      · cases hl
    · rename_i h1
      obtain ⟨a, ha, -, hc⟩ := cellAt_ok hs hl
      simp only [Instr.loadAt, ha, Instr.sureAddr, Sem.run_bind, Sem.run_pure, Result.andThen_ok, loadVar, isAgg_ok h1, Bool.false_eq_true, if_false, run_load, hc]
    · cases hl
  · cases hl

/-! ### Stores and new blocks -/
def V.isCell : V → Bool
  | .agg _ | .tup _ | .nil | .cons _ _ | .var _ | .rptr _ _ _ => false
  | _ => true
theorem isCell_ok {ρ : Env} {x : V} (h : x.isCell = true) : (x.den ρ).oneCell' = true := by
  cases x <;> first | (cases h; done) | rfl | (show (asSl _).oneCell' = true; unfold asSl; split <;> rfl)
def St.upd (σ : St) (b : Bk) (o : HO) : St := { σ with H := σ.H.map (fun p => if p.1 = b then (b, o) else p), W := if b.own σ.own then σ.W else b :: σ.W }
def storeS (P : Program) (σ : St) (t : TypeId) (a x : V) : Option St :=
  match a with
  | .ptr b k [] => match σ.look b, x.cells, sizeV P t with
    | some (.cells l ty), some cs, some n => if cs.length = n ∧ k + n ≤ l.length ∧ cs.all V.isCell = true then some (σ.upd b (.cells (setsV l k cs) ty)) else none
    | _, _, _ => none
  | _ => none
theorem setsV_length : ∀ (vs l : List V) (o : Nat), (setsV l o vs).length = l.length
  | [], _, _ => rfl
  | v :: vs, l, o => by simp [setsV, setsV_length vs]
theorem setRow_same {w : World} {g : Nat} {cs : Array Value} {t : TypeId} {fr : Nat × Nat} (hg : w.heap[g]? = some (.cells cs t fr)) : w.setRow g cs = w := by
  have h1 : (w.setRow g cs).heap = w.heap := by
    apply Array.ext_getElem?
    intro k
    by_cases hk : k = g
    · subst hk; rw [setRow_heap w k cs cs t fr hg, hg]
    · rw [setRow_other w g k cs hk]
  show ({ w with heap := (w.setRow g cs).heap } : World) = w
  rw [h1]
theorem storeCells_ok {P : Program} {ρ : Env} {g : Nat} {t : TypeId} : ∀ (vs l : List V) (k i : Nat) (w : World), w.heap[g]? = some (.cells (arr ρ l) t) → k + i + vs.length ≤ l.length → vs.all V.isCell = true →
    (storeCells ⟨g, k, none⟩ (vs.map (V.den ρ)) i).run P w = .ok () (w.setRow g (arr ρ (setsV l (k + i) vs)))
  | [], l, k, i, w, hg, hl, hc => by
    simp only [List.map_nil, storeCells, Sem.run_pure, setsV]
    rw [setRow_same hg]
  | v :: vs, l, k, i, w, hg, hl, hc => by
    simp only [List.all_cons, Bool.and_eq_true] at hc
    simp only [List.length_cons] at hl
    have hk : (Addr.add ⟨g, k, none⟩ i) = ⟨g, k + i, none⟩ := Addr.add_lit g k i
    have hcell : w.cell? ⟨g, k + i, none⟩ = some ((arr ρ l)[k + i]'(by simp [arr]; omega)) := by
      simp only [World.cell?, hg]
      simp
    have hfr : w.frozen? ⟨g, k + i, none⟩ = false := by simp [World.frozen?, hg]
    have e1 : (arr ρ l).setIfInBounds (k + i) (v.den ρ) = arr ρ (l.set (k + i) v) := by simp [arr, List.map_set]
    have hset : w.setCell ⟨g, k + i, none⟩ (v.den ρ) = w.setRow g (arr ρ (l.set (k + i) v)) := by
      rw [setCell_eq_setRow w g (k + i) (arr ρ l) t (0, 0) (v.den ρ) hg, e1]
    simp only [List.map_cons, storeCells, Sem.run_bind, hk, run_store P w _ _ .plain (isCell_ok hc.1), hcell, hfr, Bool.false_eq_true, if_false, Result.andThen_ok, hset]
    have hg' := setRow_heap w g (arr ρ l) (arr ρ (l.set (k + i) v)) t (0, 0) hg
    rw [storeCells_ok vs (l.set (k + i) v) k (i + 1) _ hg' (by simp; omega) hc.2, setRow_setRow]
    rfl
theorem sees_upd {ρ : Env} {σ : St} {w0 w w' : World} (hs : Sees TT ρ σ w0 w) {b : Bk} {o : HO} (hm : b ∈ σ.H.map (·.1)) (h1 : o.at ρ w'.heap[ρ.blk b]?) (hoth : ∀ k, k ≠ ρ.blk b → w'.heap[k]? = w.heap[k]?)
    (hos : w'.os = w.os) (htape : w'.tape = w.tape) (hout : w'.output = w.output) (hsz : w'.heap.size = w.heap.size) : Sees TT ρ (σ.upd b o) w0 w' := by
  rw [List.mem_map] at hm
  obtain ⟨⟨b', o'⟩, hmem, hb'⟩ := hm
  simp only at hb'
  subst hb'
  have hH : ∀ p ∈ (σ.upd b' o).H, p = (b', o) ∨ (p ∈ σ.H ∧ p.1 ≠ b') := fun p hp => by
    simp only [St.upd, List.mem_map] at hp
    obtain ⟨q, hq, rfl⟩ := hp
    split
    · exact Or.inl rfl
    · rename_i hne; exact Or.inr ⟨hq, hne⟩
  have key : ∀ p ∈ (σ.upd b' o).H, ∃ q ∈ σ.H, q.1 = p.1 := fun p hp => by
    rcases hH p hp with rfl | ⟨h, -⟩
    · exact ⟨_, hmem, rfl⟩
    · exact ⟨_, h, rfl⟩
  refine ⟨hos.trans hs.os, htape.trans hs.tape, hout.trans hs.output, by rw [hsz]; exact hs.size, fun k hk hW => ?_, fun p hp => ?_, fun p hp q hq he => ?_, fun p hp ho => ?_, fun p hp => row_world (hs.row p hp) (by rw [hsz]; exact Nat.le_refl _) (fun j hj => hoth j (Ne.symm (hs.rsep p hp j hj _ hmem))), fun p hp j hj q hq => ?_, hs.rown, hs.fact, hs.tab, hs.src⟩
  · have hne : k ≠ ρ.blk b' := by
      by_cases ho : b'.own σ.own = true
      · have := hs.own _ hmem ho
        simp only at this
        omega
      · have : b' ∈ (σ.upd b' o).W := by simp [St.upd, ho]
        exact fun e => hW b' this e.symm
    rw [hoth k hne]
    refine hs.keep k hk fun x hx => hW x ?_
    simp only [St.upd]
    split
    · exact hx
    · exact List.mem_cons_of_mem _ hx
  · rcases hH p hp with rfl | ⟨h, hne⟩
    · exact h1
    · rw [hoth _ (fun e => hne (hs.sep _ h _ hmem e))]
      exact hs.blk p h
  · obtain ⟨p', hp', e1⟩ := key p hp
    obtain ⟨q', hq', e2⟩ := key q hq
    rw [← e1, ← e2] at he ⊢
    exact hs.sep _ hp' _ hq' he
  · obtain ⟨p', hp', e1⟩ := key p hp
    rw [← e1] at ho ⊢
    exact hs.own _ hp' ho
  · obtain ⟨q', hq', e1⟩ := key q hq
    rw [← e1]
    exact hs.rsep p hp j hj _ hq'
theorem storeS_ok {P : Program} {ρ : Env} {σ σ' : St} {w0 w : World} (hs : Sees TT ρ σ w0 w) {t : TypeId} {a x : V} (hr : storeS P σ t a x = some σ') :
    ∃ w', (Instr.storeAt t (a.den ρ) (x.den ρ)).run P w = .ok () w' ∧ Sees TT ρ σ' w0 w' := by
  unfold storeS at hr
  split at hr
  · rename_i b k
    split at hr
    · rename_i l ty cs n hb hx hn
      split at hr
      · rename_i hc
        cases hr
        obtain ⟨hc1, hc2, hc3⟩ := hc
        have hmem := look_mem hb
        have hat := hs.blk _ hmem
        have hat' : w.heap[ρ.blk b]? = some (.cells (arr ρ l) ty) := hat
        refine ⟨w.setRow (ρ.blk b) (arr ρ (setsV l k cs)), ?_, ?_⟩
        · have hsize : (x.den ρ).cells.size = n := by rw [cells_ok hx]; simp [arr, hc1]
          have hL : (x.den ρ).cells.toList = cs.map (V.den ρ) := by rw [cells_ok hx]; rfl
          simp only [Instr.storeAt, den_ptr, Instr.sureAddr, Sem.run_bind, Sem.run_pure, Result.andThen_ok, storeVar, sizeOf_ok hn, hsize, ne_eq, not_true_eq_false, if_false, hL]
          exact storeCells_ok cs l k 0 w hat' (by omega) hc3
        · refine sees_upd hs (List.mem_map.2 ⟨_, hmem, rfl⟩) ?_ (fun j hj => setRow_other w _ j _ hj) rfl rfl rfl (by simp)
          exact setRow_heap w _ _ _ ty (0, 0) hat'
      · cases hr
    · cases hr
  · cases hr

/-- The next name stands for the next block. -/
def Env.name (ρ : Env) (k n : Nat) : Env := { ρ with n := fun j => if j = k then n else ρ.n j }
theorem name_ext (ρ : Env) (k n : Nat) : Ext k ρ (ρ.name k n) :=
  ⟨fun _ _ => rfl, fun _ _ => rfl, fun _ _ => rfl, fun _ _ => rfl, fun j hj => by simp [Env.name]; omega, rfl, rfl, rfl, fun _ _ => rfl, fun _ _ => rfl, rfl⟩
def St.newB (σ : St) (o : HO) : St := { σ with H := (.n σ.fr, o) :: σ.H, fr := σ.fr + 1 }
theorem sees_new' {ρ ρ' : Env} {σ : St} {w0 w : World} (hs : Sees TT ρ σ w0 w) (hok : σ.ok = true) {o : HO} {obj : Obj} (hx : Ext σ.fr ρ ρ') (hnew : ρ'.blk (.n σ.fr) = w.heap.size) (hat : o.at ρ' (some obj)) :
    Sees TT ρ' (σ.newB o) w0 (w.alloc obj) := by
  obtain ⟨-, hH, hF, hW, hR⟩ := ok_parts hok
  have hs' := sees_ext hx hH hF hW hR hs
  have hlt : ∀ p ∈ σ.H, ρ'.blk p.1 < w.heap.size := fun p hp => by
    obtain ⟨y, hy⟩ := HO.at_some (hs'.blk p hp)
    exact (Array.getElem?_eq_some_iff.1 hy).1
  have hold : ∀ k, k < w.heap.size → (w.alloc obj).heap[k]? = w.heap[k]? := fun k hk => by
    show (w.heap.push obj)[k]? = _
    rw [Array.getElem?_push, if_neg (by omega)]
  refine ⟨hs'.os, hs'.tape, hs'.output, by rw [World.size_alloc]; have := hs'.size; omega, fun k hk hb => ?_, fun p hp => ?_, fun p hp q hq he => ?_, fun p hp hown => ?_, fun p hp => row_world (hs'.row p hp) (by rw [World.size_alloc]; omega) (fun j hj => hold j (row_lt (hs'.row p hp) hj)), fun p hp j hj q hq => ?_, hs'.rown, hs'.fact, hs'.tab, hs'.src⟩
  · rw [hold k (by have := hs'.size; omega)]
    exact hs'.keep k hk hb
  · simp only [St.newB, List.mem_cons] at hp
    rcases hp with rfl | hp
    · simp only [hnew]
      rw [show (w.alloc obj).heap[w.heap.size]? = some obj by show (w.heap.push obj)[w.heap.size]? = _; simp]
      exact hat
    · rw [hold _ (hlt p hp)]
      exact hs'.blk p hp
  · simp only [St.newB, List.mem_cons] at hp hq
    rcases hp with rfl | hp <;> rcases hq with rfl | hq
    · rfl
    · simp only [hnew] at he; have := hlt q hq; omega
    · simp only [hnew] at he; have := hlt p hp; omega
    · exact hs'.sep p hp q hq he
  · simp only [St.newB, List.mem_cons] at hp
    rcases hp with rfl | hp
    · simp only [hnew]; exact hs'.size
    · exact hs'.own p hp hown
  · simp only [St.newB, List.mem_cons] at hq
    rcases hq with rfl | hq
    · simp only [hnew]; have := row_lt (hs'.row p hp) hj; omega
    · exact hs'.rsep p hp j hj q hq
theorem sees_new {ρ : Env} {σ : St} {w0 w : World} (hs : Sees TT ρ σ w0 w) (hok : σ.ok = true) (_ho : σ.own ≤ σ.fr) {o : HO} {obj : Obj} (hat : o.at (ρ.name σ.fr w.heap.size) (some obj)) :
    Sees TT (ρ.name σ.fr w.heap.size) (σ.newB o) w0 (w.alloc obj) :=
  sees_new' hs hok (name_ext ρ σ.fr w.heap.size) (by simp [Env.blk, Env.name]) hat
/-- The next name stands for the next block, a loop's record. -/
def Env.nameC (ρ : Env) (k n : Nat) (r : Loop) : Env := { ρ with n := fun j => if j = k then n else ρ.n j, c := fun j => if j = k then r else ρ.c j }
theorem nameC_ext (ρ : Env) (k n : Nat) (r : Loop) : Ext k ρ (ρ.nameC k n r) :=
  ⟨fun _ _ => rfl, fun _ _ => rfl, fun _ _ => rfl, fun _ _ => rfl, fun j hj => by simp [Env.nameC]; omega, rfl, rfl, rfl, fun _ _ => rfl, fun j hj => by simp [Env.nameC]; omega, rfl⟩
/-- A block is no longer looked at. -/
def St.drop (σ : St) (b : Bk) : St := { σ with H := σ.H.filter (fun p => p.1 != b) }
theorem sees_drop {ρ : Env} {σ : St} {w0 w w' : World} (hs : Sees TT ρ σ w0 w) {b : Bk} (hm : b ∈ σ.H.map (·.1)) (hw : b.own σ.own = true) (hoth : ∀ k, k ≠ ρ.blk b → w'.heap[k]? = w.heap[k]?)
    (hos : w'.os = w.os) (htape : w'.tape = w.tape) (hout : w'.output = w.output) (hsz : w'.heap.size = w.heap.size) : Sees TT ρ (σ.drop b) w0 w' := by
  rw [List.mem_map] at hm
  obtain ⟨⟨b', o'⟩, hmem, hb'⟩ := hm
  simp only at hb'
  subst hb'
  have hH : ∀ p ∈ (σ.drop b').H, p ∈ σ.H ∧ p.1 ≠ b' := fun p hp => by
    simp only [St.drop, List.mem_filter] at hp
    exact ⟨hp.1, by simpa using hp.2⟩
  refine ⟨hos.trans hs.os, htape.trans hs.tape, hout.trans hs.output, by rw [hsz]; exact hs.size, fun k hk hW => ?_, fun p hp => ?_, fun p hp q hq he => hs.sep _ (hH p hp).1 _ (hH q hq).1 he, fun p hp ho => hs.own _ (hH p hp).1 ho, fun p hp => row_world (hs.row p hp) (by rw [hsz]; exact Nat.le_refl _) (fun j hj => hoth j (Ne.symm (hs.rsep p hp j hj _ hmem))), fun p hp j hj q hq => hs.rsep p hp j hj _ (hH q hq).1, hs.rown, hs.fact, hs.tab, hs.src⟩
  · rw [hoth k (by have := hs.own _ hmem hw; simp only at this; omega)]
    exact hs.keep k hk hW
  · rw [hoth _ (fun e => (hH p hp).2 (hs.sep _ (hH p hp).1 _ hmem e))]
    exact hs.blk p (hH p hp).1

/-! ### Operations on rows' slices -/
/-- Is the row known to have an element? -/
def someR (F : List E) (r : Row) (l : List (Nat × E)) : Bool :=
  decideB F (.lt (.c 0) r.n) == some true || match l with | [(_, e)] => decideB F (.le (.c 0) e) == some true && decideB F (.lt e r.n) == some true | _ => false
theorem someR_ok {ρ : Env} {F : List E} (h : holds ρ F) {r : Row} {l : List (Nat × E)} (hs : someR F r l = true) : 0 < r.n.I ρ := by
  unfold someR at hs
  rw [Bool.or_eq_true] at hs
  rcases hs with hs | hs
  · have := decideB_ok h (by simpa using hs); simpa only [B_lt, I_c, decide_eq_true_eq] using this
  · split at hs
    · simp only [Bool.and_eq_true, beq_iff_eq] at hs
      have h1 := decideB_ok h hs.1
      have h2 := decideB_ok h hs.2
      simp only [B_le, B_lt, I_c, decide_eq_true_eq] at h1 h2
      omega
    · cases hs
def V.isVar : V → Bool | .var _ => true | _ => false
/-- A row's slice as a value of one cell; and back. -/
def toR (RR : List (Nat × Row)) : V → V | .var x => if (findR RR x).isSome then .rsl x else .var x | v => v
def unR' (RR : List (Nat × Row)) : V → V | .rsl x => if (findR RR x).isSome then .var x else .rsl x | v => v
theorem asSl_row {ρ : Env} {RR : List (Nat × Row)} (hR : RowVals ρ RR) {x : Nat} (h : (findR RR x).isSome = true) : asSl (ρ.v x) = ρ.v x := by
  obtain ⟨r, hr⟩ := Option.isSome_iff_exists.1 h
  obtain ⟨-, hval⟩ := hR _ (findR_mem hr)
  simp only at hval
  rcases hval with ⟨e1, -⟩ | ⟨a, cap, e1, -⟩ <;> rw [e1] <;> rfl
theorem toR_den {ρ : Env} {RR : List (Nat × Row)} (hR : RowVals ρ RR) (v : V) : (toR RR v).den ρ = v.den ρ := by
  unfold toR
  split
  · split
    · rename_i h; rw [den_rsl, den_var, asSl_row hR h]
    · rfl
  · rfl
theorem unR'_den {ρ : Env} {RR : List (Nat × Row)} (hR : RowVals ρ RR) (v : V) : (unR' RR v).den ρ = v.den ρ := by
  unfold unR'
  split
  · split
    · rename_i h; rw [den_rsl, den_var, asSl_row hR h]
    · rfl
  · rfl
/-- Is a row nil? (One that has an element is not.) -/
def nilR (P : Program) (F : List E) (RR : List (Nat × Row)) (op : BinOp) (t : TypeId) : Option V → Option V → Option R
  | some (.var v), some .nils => match op with
    | .eql => match P.underlying t, findR RR v with
      | some (.slice _), some r => if decideB F (.lt (.c 0) r.n) = some true then some (.val (.b .ff)) else none
      | _, _ => none
    | _ => none
  | _, _ => none
def rowR (P : Program) (F : List E) (RR : List (Nat × Row)) (T : List V) (o : Oper) : Option R :=
  match o.op with
  | .call ⟨.builtin .len, args, ts⟩ => match evalOs T args.toList, ts[0]? with
    | some [.var x], some t => match P.underlying t, findR RR x with
      | some (.slice _), some r => some (.val (.i .i64 r.n))
      | _, _ => none
    | _, _ => none
  | .indexAddr t x y => match evalO T x, evalO T y with
    | some (.var v), some (.i _ e) => match P.underlying t, findR RR v with
      | some (.slice elem), some r => match sizeV P elem with
        | some s => match decideB F (.le (.c 0) e) with
          | some true => ask F (.lt e r.n) (match e with | .c z => .rptr v (z.toNat * s) [] | e => .rptr v 0 [(s, e)])
          | none => some (.need (.le (.c 0) e))
          | _ => none
        | none => none
      | _, _ => none
    | _, _ => none
  | .fieldAddr t x n => match evalO T x with
    | some (.rptr v k l) => match P.underlying t with
      | some (.struct fs) => match fs[n]? with
        | some f => match sizeV P f.type with | some (_m + 1) => (match findR RR v with | some r => if someR F r l then some (.val (.rptr v (k + f.offset) l)) else none | none => none) | _ => none
        | none => none
      | _ => none
    | _ => none
  | .move y => match evalO T y with
    | some (.rsl x) => match findR RR x with | some _ => some (.val (.var x)) | none => none
    | _ => none
  | .build t parts => match partsR T parts.toList with
    | some ps => if ps.any fun p => p.2.isVar then (builtV P t (ps.map fun p => (p.1, toR RR p.2))).map .val else none
    | none => none
  | .nilCheck x => match evalO T x with
    | some (.rptr v k l) => (match findR RR v with | some r => if someR F r l then some (.val (.rptr v k l)) else none | none => none)
    | _ => none
  | .binOp op t x y _ => nilR P F RR op t (evalO T x) (evalO T y)
  | _ => none
theorem rptrAt_ok (ρ : Env) (x s : Nat) (e : E) {a : Addr} {n c : Nat} (hv : ρ.v x = .slice (some a) n c) : V.den ρ (match e with | .c z => .rptr x (z.toNat * s) [] | e => .rptr x 0 [(s, e)]) = .pointer (some ⟨a.block, a.off + (e.I ρ).toNat * s, none⟩) := by
  split
  · rw [den_rptr, hv]; rfl
  · rw [den_rptr, hv]; simp [offN]
theorem nil_in {P : Program} (w : World) (d : Nat) {t e : TypeId} (a : Addr) (n c : Nat) (h : P.underlying t = some (.slice e)) : (Op.equalIn (d + 1) t (.slice (some a) n c) (.slice none 0 0)).run P w = .ok false w := by simp [Op.equalIn, run_underlying h]
theorem nil_run {P : Program} (w : World) {t e : TypeId} (a : Addr) (n c : Nat) (h : P.underlying t = some (.slice e)) : (binOp .eql t (.slice (some a) n c) (.slice none 0 0)).run P w = .ok (.bool false) w := by
  simp only [binOp]
  simp [Op.equal, Op.maxDepth, nil_in w 9999 a n c h]
theorem rowR_ok {P : Program} {ρ : Env} {F : List E} (h : holds ρ F) {RR : List (Nat × Row)} (hR : RowVals ρ RR) {T : List V} {M : List Nat} {o : Oper} {v : V} (hr : rowR P F RR T o = some (.val v)) (w : World) :
    (execOp (actOf ρ T M).eval o).run P w = .ok (.value (v.den ρ)) w := by
  unfold rowR at hr
  unfold execOp
  split at hr <;> rename_i hop <;> simp only [hop]
  · rename_i args ts
    split at hr
    · rename_i x t hv ht
      split at hr
      · rename_i r hu hf
        cases hr
        simp only [resolve, Sem.run_bind, Sem.run_pure, Result.andThen_ok, invoke]
        have ha := evalOs_ok (ρ := ρ) (M := M) hv
        have hx : (Array.map (actOf ρ T M).eval args)[0]? = some (ρ.v x) := by rw [← Array.getElem?_toList, Array.toList_map, ha]; rfl
        obtain ⟨h0, hval⟩ := hR _ (findR_mem hf)
        simp only at h0 hval
        simp only [builtin, Sem.run_bind]
        have hl : (Builtin.len_ ts o.type (Array.map (actOf ρ T M).eval args)).run P w = .ok (V.den ρ (.i .i64 r.n)) w := by
          unfold Builtin.len_
          simp only [ht, hx]
          rcases hval with ⟨e1, e2⟩ | ⟨a, cap, e1, -⟩
          · simp only [Sem.run_bind, run_underlying hu, Result.andThen_ok, e1, den_i, goInt, e2]; rfl
          · simp only [Sem.run_bind, run_underlying hu, Result.andThen_ok, e1, den_i, goInt]
            show Result.ok (Value.int .i64 _) w = _
            rw [Int.toNat_of_nonneg h0]
        rw [hl]; rfl
      · cases hr
    · cases hr
  · split at hr
    · rename_i x k e hx hy
      split at hr
      · rename_i hu hf
        split at hr
        · rename_i s hs
          split at hr
          · rename_i hd
            have h0 := decideB_ok h hd
            obtain ⟨h1, rfl⟩ := ask_ok h hr
            simp only [B_le, B_lt, I_c, decide_eq_true_eq] at h0 h1
            obtain ⟨hn, hval⟩ := hR _ (findR_mem hf)
            simp only at hn hval
            rcases hval with ⟨-, e2⟩ | ⟨a, cap, e1, e3⟩
            · omega
            · rw [evalO_ok hx, evalO_ok hy, den_var, e1, den_i]
              refine run_v ?_
              simp only [Instr.indexAt, asIntOf, Sem.run_bind, Sem.run_pure, Result.andThen_ok, run_underlying hu, Sem.run_ite, sizeOf_ok hs]
              rw [if_pos (by omega), rptrAt_ok ρ x s e e1]
              have : a.add ((e.I ρ).toNat * s) = ⟨a.block, a.off + (e.I ρ).toNat * s, none⟩ := by
                obtain ⟨b, o', sp⟩ := a
                simp only at e3
                subst e3
                exact Addr.add_lit _ _ _
              rw [this]
          · cases hr
          · cases hr
        · cases hr
      · cases hr
    · cases hr
  · split at hr
    · rename_i x k l hx
      split at hr
      · rename_i hu
        split at hr
        · rename_i f hf
          split at hr
          · rename_i m hm
            split at hr
            case h_2 => cases hr
            rename_i r hfr
            split at hr
            case isFalse => cases hr
            case isTrue hsome =>
              cases hr
              have hpos := someR_ok h hsome
              obtain ⟨-, hval⟩ := hR _ (findR_mem hfr)
              simp only at hval
              obtain ⟨a, ha⟩ : ∃ a, (V.rptr x k l).den ρ = .pointer (some a) := by
                rcases hval with ⟨-, e2⟩ | ⟨a, cap, e1, -⟩
                · omega
                · exact ⟨_, by rw [den_rptr, e1]⟩
              rw [evalO_ok hx]
              refine run_v ?_
              have hsp : a.spot = none := by
                rw [den_rptr] at ha
                split at ha
                · injection ha with ha; injection ha with ha; subst ha; rfl
                · cases ha
              have hsh := shift_den (p := .rptr x k l) rfl ha hsp f.offset
              simp only [shiftP] at hsh
              rw [hsh]
              simp only [Instr.fieldAt, Sem.run_bind, run_underlying hu, Result.andThen_ok, hf, ha, Instr.sureAddr, Sem.run_pure, fieldPlace, sizeOf_ok hm]
              simp
          · cases hr
        · cases hr
      · cases hr
    · cases hr
  · split at hr
    · rename_i y x hx
      split at hr
      · rename_i r hf
        cases hr
        obtain ⟨-, hval⟩ := hR _ (findR_mem hf)
        simp only at hval
        rw [evalO_ok hx, den_rsl, den_var]
        have e : asSl (ρ.v x) = ρ.v x := by
          rcases hval with ⟨e1, -⟩ | ⟨a, cap, e1, -⟩ <;> rw [e1] <;> rfl
        rw [e]; rfl
      · cases hr
    · cases hr
  · split at hr
    · rename_i ps hp
      split at hr
      case isFalse => cases hr
      rw [Option.map_eq_some_iff] at hr
      obtain ⟨v', hv, hvv⟩ := hr
      cases hvv
      refine run_v (builtV_ok hv _ ?_ w)
      have h1 : (ps.map fun p => (p.1, toR RR p.2)).map (fun p : Nat × V => (p.1, p.2.den ρ)) = ps.map fun p => (p.1, p.2.den ρ) := by
        rw [List.map_map]
        exact List.map_congr_left fun p _ => by simp only [Function.comp, toR_den hR]
      rw [h1, ← parts_ok (M := M) hp]
      simp
    · cases hr
  · split at hr
    · rename_i x k l hx
      split at hr
      case h_2 => cases hr
      rename_i r hfr
      split at hr
      case isFalse => cases hr
      case isTrue hsome =>
        cases hr
        have hpos := someR_ok h hsome
        obtain ⟨-, hval⟩ := hR _ (findR_mem hfr)
        simp only at hval
        obtain ⟨a, ha⟩ : ∃ a, (V.rptr x k l).den ρ = .pointer (some a) := by
          rcases hval with ⟨-, e2⟩ | ⟨a, cap, e1, -⟩
          · omega
          · exact ⟨_, by rw [den_rptr, e1]⟩
        rw [evalO_ok hx, ha]
        rfl
    · cases hr
  · rename_i op t x y ot
    unfold nilR at hr
    split at hr
    case h_2 => cases hr
    rename_i v hx hy
    split at hr
    case h_2 => cases hr
    split at hr
    case h_2 => cases hr
    rename_i e r hu hf
    split at hr
    case isFalse => cases hr
    rename_i hd
    cases hr
    have h0 := decideB_ok h hd
    simp only [B_lt, I_c, decide_eq_true_eq] at h0
    obtain ⟨-, hval⟩ := hR _ (findR_mem hf)
    simp only at hval
    rcases hval with ⟨-, e2⟩ | ⟨a, cap, e1, -⟩
    · omega
    · rw [evalO_ok hx, evalO_ok hy, den_var, e1, den_nils]
      refine run_v ?_
      rw [run_then (eqGuard_ok P .eql t x y w trivial)]
      exact nil_run w a _ cap hu
  · cases hr

/-! ### Lists of values -/
def listV (P : Program) (t : TypeId) (len : Nat) (parts : List (Nat × V)) : Option (TypeId × List V) :=
  match P.underlying t with
  | some (.slice e) => match sizeV P e, zeroV P e with
    | some n, some z => match z.cells with
      | some zc => if len * n ≤ 2 ^ 24 ∧ 0 < zc.length then (fillV (fun i => some (i * n, n)) ((List.range (len * n)).map fun j => zc.getD (j % zc.length) .nil) parts).map fun l => (e, l) else none
      | none => none
    | _, _ => none
  | _ => none
theorem listV_ok {P : Program} {ρ : Env} {t e : TypeId} {len : Nat} {parts : List (Nat × V)} {l : List V} (h : listV P t len parts = some (e, l)) (ps : Array (Nat × Value)) (hp : ps.toList = parts.map fun p => (p.1, p.2.den ρ)) (w : World) :
    (Instr.buildSlice t len ps).run P w = .ok (.slice (some ⟨w.heap.size, 0, none⟩) len len) (w.alloc (.cells (arr ρ l) e)) := by
  unfold listV at h
  split at h
  case h_2 => cases h
  rename_i e' hu
  split at h
  case h_2 => cases h
  rename_i n z hn hz
  split at h
  case h_2 => cases h
  rename_i zc hzc
  split at h
  case isFalse => cases h
  rename_i hc
  rw [Option.map_eq_some_iff] at h
  obtain ⟨l', hl, he⟩ := h
  cases he
  obtain ⟨i, h1, h2⟩ := zeroV_ok (ρ := ρ) hz
  have hcells := cells_ok (ρ := ρ) hzc
  have hfill := fillV_ok ρ _ _ _ _ hl
  rw [← hp] at hfill
  have hz0 : (arr ρ zc).size = zc.length := by simp [arr]
  have hcs : (Array.range (len * n)).map ((z.den ρ).cells[· % (z.den ρ).cells.size]!) = arr ρ ((List.range (len * n)).map fun j => zc.getD (j % zc.length) .nil) := by
    rw [hcells]
    apply Array.ext
    · simp [arr]
    · intro j hj hj2
      have hm : j % zc.length < zc.length := Nat.mod_lt _ hc.2
      simp [arr, hm]
  unfold Instr.buildSlice
  simp only [Sem.run_bind, run_underlying hu, Result.andThen_ok, sizeOf_ok hn]
  rw [if_neg (by omega)]
  by_cases h0 : len * n = 0
  · have hem : (#[] : Array Value) = arr ρ ((List.range (len * n)).map fun j => zc.getD (j % zc.length) .nil) := by rw [h0]; rfl
    have hrng : ∀ zs : Array Value, (Array.range (len * n)).map (zs[· % zs.size]!) = arr ρ ((List.range (len * n)).map fun j => zc.getD (j % zc.length) .nil) := fun zs => by rw [h0]; simp [arr]
    simp only [h0, if_true]
    rw [h0] at hrng hfill
    simp only [hrng, hfill, Sem.run_bind, newRow]
    rfl
  · simp only [h0, if_false, zeroValue, typeInfo, Sem.run_bind, run_program, Result.andThen_ok, h1, h2, Sem.run_pure]
    simp only [hcs, hfill, Sem.run_bind, newRow]
    rfl
end Go.Proofs.YtkhffloahpdbdaaDoor.Sx
