/- Operations: values in whatever world, loads, stores, new blocks. Appending to a slice of the call's own. Rows: slicing, storing, making. -/
import Derived.Laws.Cells
import Derived.Laws.OwnMore
import Derived.Test.YtmbhjfembfidnaaPb4
section
namespace Go.Proofs.Ytmbhjfembfidnaa.Sx
open Go
variable {TT : Tb}

def partsR (T : List V) : List (Nat × Operand) → Option (List (Nat × V))
  | [] => some []
  | (i, x) :: l => match evalO T x, partsR T l with | some a, some b => some ((i, a) :: b) | _, _ => none
theorem parts_ok {ρ : Env} {T : List V} {M : List Nat} : ∀ {l : List (Nat × Operand)} {vs : List (Nat × V)}, partsR T l = some vs → l.map (fun p => (p.1, (actOf ρ T M).eval p.2)) = vs.map fun p => (p.1, p.2.den ρ)
  | [], vs, h => by cases h; rfl
  | (i, x) :: l, vs, h => by
    simp only [partsR] at h
    split at h
    · cases h
      rename_i h1 h2
      simp [evalO_ok h1, parts_ok h2]
    · cases h
def optO (T : List V) : Option Operand → Option (Option V)
  | none => some none
  | some x => (evalO T x).map some
theorem opt_ok {ρ : Env} {T : List V} {M : List Nat} {x : Option Operand} {v : Option V} (h : optO T x = some v) : x.map (actOf ρ T M).eval = v.map (V.den ρ) := by
  cases x with
  | none => cases h; rfl
  | some x =>
    simp only [optO, Option.map_eq_some_iff] at h
    obtain ⟨a, ha, rfl⟩ := h
    simp [evalO_ok ha]

def opV (P : Program) (F : List E) (T : List V) (o : Oper) : Option R :=
  match o.op with
  | .move x => (evalO T x).map .val
  | .assign x => (evalO T x).map .val
  | .pick q a b => match evalO T q with
    | some (.b e) => match decideB F e with | some true => (evalO T a).map .val | some false => (evalO T b).map .val | none => some (.split e)
    | _ => none
  | .binOp op t x y _ => match evalO T x, evalO T y with | some a, some b => (match structR P F op t a b with | some r => some r | none => binR P F op t a b) | _, _ => none
  | .unOp op _ x => match evalO T x with | some a => unR F op a | _ => none
  | .convert s d x => match evalO T x with | some a => convR P F s d a | _ => none
  | .fieldAddr t x n => match evalO T x with | some a => fieldAddrR P t n a | _ => none
  | .field t x n => match evalO T x with | some a => fieldR P t n a | _ => none
  | .index t x y => match evalO T x, evalO T y with | some a, some b => indexR P F t a b | _, _ => none
  | .indexAddr t x y => match evalO T x, evalO T y with | some a, some b => indexAddrR P F t a b | _, _ => none
  | .nilCheck x => match evalO T x with | some (.ptr b k l) => some (.val (.ptr b k l)) | some (.fn (.func f) a b) => some (.val (.fn (.func f) a b)) | _ => none
  | .extract x n => match evalO T x with | some (.tup l) => l.toL[n]?.map .val | _ => none
  | .build t parts => match partsR T parts.toList with | some ps => (builtV P t ps).map .val | none => none
  | .makeInterface t x => match evalO T x with | some a => if P.concrete t then some (.val (.ifc t a)) else none | none => none
  | .makeFunc fn first captured => match evalOs T first.toList, evalOs T captured.toList with | some a, some b => some (.val (.fn fn (V.ofL a) (V.ofL b))) | _, _ => none
  | .slice t x lo hi none => match evalO T x, optO T lo, optO T hi with | some a, some l, some u => sliceR P F t a l u | _, _, _ => none
  | .call ⟨.builtin b, args, ts⟩ => match evalOs T args.toList with | some vs => builtinR P F b ts vs | none => none
  | _ => none

theorem arr_get (ρ : Env) (l : List V) (n : Nat) : (arr ρ l)[n]? = (l[n]?).map (V.den ρ) := by simp [arr]
theorem run_v {P : Program} {w : World} {s : Sem Value} {u : Value} (h : s.run P w = .ok u w) : ((do pure (.value (← s))) : Sem Next).run P w = .ok (.value u) w := by
  rw [Sem.run_bind, h]; rfl
theorem opV_ok {P : Program} {ρ : Env} {F : List E} (h : holds ρ F) {T : List V} {M : List Nat} {o : Oper} {v : V} (hr : opV P F T o = some (.val v)) (w : World) :
    (execOp (actOf ρ T M).eval o).run P w = .ok (.value (v.den ρ)) w := by
  unfold opV at hr
  unfold execOp
  split at hr <;> rename_i hop <;> simp only [hop]
  · rw [Option.map_eq_some_iff] at hr
    obtain ⟨a, ha, hv⟩ := hr
    cases hv
    rw [evalO_ok ha]; rfl
  · rw [Option.map_eq_some_iff] at hr
    obtain ⟨a, ha, hv⟩ := hr
    cases hv
    rw [evalO_ok ha]; rfl
  · split at hr
    · rename_i e hq
      rw [evalO_ok hq]
      split at hr
      · rename_i hd
        rw [Option.map_eq_some_iff] at hr
        obtain ⟨a, ha, hv⟩ := hr
        cases hv
        simp only [den_b, asBool, decideB_ok h hd, Sem.run_bind, Sem.run_pure, Result.andThen_ok, if_true, evalO_ok ha]
      · rename_i hd
        rw [Option.map_eq_some_iff] at hr
        obtain ⟨a, ha, hv⟩ := hr
        cases hv
        simp only [den_b, asBool, decideB_ok h hd, Sem.run_bind, Sem.run_pure, Result.andThen_ok, Bool.false_eq_true, if_false, evalO_ok ha]
      · cases hr
    · cases hr
  · split at hr
    · rename_i h1 h2
      rw [evalO_ok h1, evalO_ok h2]
      split at hr
      · rename_i hst
        rw [hr] at hst
        exact run_v (structR_ok h hst _ _ w)
      · exact run_v (binR_ok h hr _ _ w)
    · cases hr
  · split at hr
    · rename_i h1
      rw [evalO_ok h1]
      exact run_v (unR_ok h hr w)
    · cases hr
  · split at hr
    · rename_i h1
      rw [evalO_ok h1]
      exact run_v (convR_ok h hr w)
    · cases hr
  · split at hr
    · rename_i h1
      rw [evalO_ok h1]
      exact run_v (fieldAddrR_ok hr w)
    · cases hr
  · split at hr
    · rename_i h1
      rw [evalO_ok h1]
      exact run_v (fieldR_ok hr w)
    · cases hr
  · split at hr
    · rename_i h1 h2
      rw [evalO_ok h1, evalO_ok h2]
      exact run_v (indexR_ok h hr w)
    · cases hr
  · split at hr
    · rename_i h1 h2
      rw [evalO_ok h1, evalO_ok h2]
      exact run_v (indexAddrR_ok h hr w)
    · cases hr
  · split at hr
    · rename_i h1
      cases hr
      rw [evalO_ok h1]; rfl
    · rename_i h1
      cases hr
      rw [evalO_ok h1]; rfl
    · cases hr
  · split at hr
    · rename_i l h1
      rw [Option.map_eq_some_iff] at hr
      obtain ⟨a, ha, hv⟩ := hr
      cases hv
      rw [evalO_ok h1, den_tup]
      refine run_v ?_
      simp only [Instr.extract, arr_toL]
      simp only [arr_get, ha, Option.map_some, Sem.run_pure]
    · cases hr
  · split at hr
    · rename_i ps hp
      rw [Option.map_eq_some_iff] at hr
      obtain ⟨a, ha, hv⟩ := hr
      cases hv
      refine run_v (builtV_ok ha _ ?_ w)
      rw [← parts_ok (M := M) hp]
      simp
    · cases hr
  · split at hr
    · rename_i h1
      split at hr
      · rename_i hc
        cases hr
        rw [evalO_ok h1]
        exact run_v (run_makeInterface w _ _ hc)
      · cases hr
    · cases hr
  · split at hr
    · rename_i h1 h2
      cases hr
      refine run_v ?_
      have e1 := evalOs_ok (ρ := ρ) (M := M) h1
      have e2 := evalOs_ok (ρ := ρ) (M := M) h2
      simp only [Instr.makeFunc, Sem.run_pure, den_fn, dens_ofL, ← e1, ← e2]
      congr 2 <;> apply Array.ext' <;> simp
    · cases hr
  · split at hr
    · rename_i h1 h2 h3
      rw [evalO_ok h1, opt_ok h2, opt_ok h3]
      exact run_v (sliceR_ok h hr w)
    · cases hr
  · split at hr
    · rename_i vs hv
      simp only [resolve, Sem.run_bind, Sem.run_pure, Result.andThen_ok, invoke]
      refine builtinR_ok h hr _ ?_ w
      rw [← evalOs_ok (M := M) hv]
      simp
    · cases hr
  · cases hr

/-! ### Rows -/
def findR (R : List (Nat × Row)) (x : Nat) : Option Row := (R.find? (·.1 == x)).map (·.2)
theorem findR_mem {R : List (Nat × Row)} {x : Nat} {r : Row} (h : findR R x = some r) : (x, r) ∈ R := by
  unfold findR at h
  rw [Option.map_eq_some_iff] at h
  obtain ⟨p, hp, rfl⟩ := h
  have h1 := List.mem_of_find?_eq_some hp
  have h2 := List.find?_some hp
  simp at h2
  subst h2
  exact h1
/-- What is known of the rows' slices, whatever memory holds. -/
def RowVals (ρ : Env) (R : List (Nat × Row)) : Prop :=
  ∀ p ∈ R, 0 ≤ p.2.n.I ρ ∧ (ρ.v p.1 = .slice none 0 0 ∧ p.2.n.I ρ = 0 ∨ ∃ a cap, ρ.v p.1 = .slice (some a) (p.2.n.I ρ).toNat cap ∧ a.spot = none)
theorem Sees.rows {ρ : Env} {σ : St} {w0 w : World} (h : Sees TT ρ σ w0 w) : RowVals ρ σ.R := fun p hp => by
  obtain ⟨h0, -, h2⟩ := h.row p hp
  refine ⟨h0, ?_⟩
  split at h2
  · obtain ⟨-, e2⟩ := h2
    rcases e2 with ⟨e, e0⟩ | ⟨g, cap, cur, -, -, -, -, -, off, hv, -⟩
    · exact .inl ⟨e, by omega⟩
    · exact .inr ⟨_, cap, hv, rfl⟩
  · obtain ⟨-, e2⟩ := h2
    rcases e2 with e2 | ⟨a, cap, hv, hsp, -⟩
    · exact .inl e2
    · exact .inr ⟨a, cap, hv, hsp⟩
theorem cellsV_get (kds : List Kd) (xs : List (Int × ByteArray)) (j : Nat) : (cellsV kds xs)[j]? = (xs[j]?).map fun x => cellV x (kds.getD (j % kds.length) .any) := by
  simp [cellsV]; rfl
/-- A cell of a row. -/
theorem row_cell {ρ : Env} {r : Row} {base : Nat} {w : World} {v : Value} (h : r.at ρ base w v) {j : Nat} (hj : j < (r.n.I ρ).toNat * r.kds.length) :
    ∃ a cap x, v = .slice (some a) (r.n.I ρ).toNat cap ∧ a.spot = none ∧ (r.xs.L ρ)[j]? = some x ∧ w.cell? ⟨a.block, a.off + j, none⟩ = some (cellV x (r.kds.getD (j % r.kds.length) .any)) := by
  obtain ⟨h0, h1, h2⟩ := h
  have hn : (r.n.I ρ).toNat ≠ 0 := fun e => by rw [e, Nat.zero_mul] at hj; omega
  split at h2
  · obtain ⟨e1, e2⟩ := h2
    rcases e2 with ⟨-, e0⟩ | ⟨g, cap, cur, -, -, hh, hnc, -, off, hv, hcs, ht⟩
    · exact absurd e0 hn
    · have hlen : (r.xs.L ρ).length = (r.n.I ρ).toNat * r.kds.length := by rw [← e1]; simp [cellsV]
      have hx : (r.xs.L ρ)[j]? = some ((r.xs.L ρ)[j]'(by omega)) := by simp [hlen, hj]
      refine ⟨_, cap, _, hv, rfl, hx, ?_⟩
      rw [own_cell hh ht hj, cellsV_get, hx]
      rfl
  · obtain ⟨e1, e2⟩ := h2
    rcases e2 with ⟨-, e0⟩ | ⟨a, cap, hv, hsp, -, -, hc⟩
    · omega
    · have hx : (r.xs.L ρ)[j]? = some ((r.xs.L ρ)[j]'(by omega)) := by simp [e1, hj]
      refine ⟨a, cap, _, hv, hsp, hx, ?_⟩
      have := hc j _ (by rw [cellsV_get, hx]; rfl)
      have ha : a.add j = ⟨a.block, a.off + j, none⟩ := by
        obtain ⟨b, o, s⟩ := a
        simp only at hsp
        subst hsp
        exact Addr.add_lit b o j
      rw [ha] at this
      exact this
/-- How long a list is, and what its elements are, where its term tells. -/
def lenE : E → Option Nat
  | .nil => some 0
  | .cons _ l => (lenE l).map (· + 1)
  | .lrep (.c n) _ => some n.toNat
  | .lset l _ _ => lenE l
  | .lsub l (.c i) (.c j) => (lenE l).map fun n => min j.toNat n - i.toNat
  | .lcat a b => match lenE a, lenE b with | some m, some n => some (m + n) | _, _ => none
  | _ => none
theorem lenE_ok (ρ : Env) : ∀ {l : E} {n : Nat}, lenE l = some n → (l.L ρ).length = n := by
  intro l
  induction l <;> intro m h <;> try simp only [lenE, reduceCtorEq, Option.some.injEq] at h
  case nil => subst h; rfl
  case cons a l _ ih =>
    rw [Option.map_eq_some_iff] at h
    obtain ⟨k, hk, rfl⟩ := h
    simp [ih hk]
  case lcat a b iha ihb =>
    split at h
    · rename_i h1 h2; cases h; simp [iha h1, ihb h2]
    · cases h
  case lrep a b _ _ =>
    cases a <;> simp only [lenE, reduceCtorEq, Option.some.injEq] at h
    subst h; simp
  case lset l i a ih _ _ => simp [ih h]
  case lsub l i j ih _ _ =>
    cases i <;> try (simp only [lenE, reduceCtorEq] at h; done)
    cases j <;> simp only [lenE, reduceCtorEq] at h
    rw [Option.map_eq_some_iff] at h
    obtain ⟨k, hk, rfl⟩ := h
    simp [ih hk]
def nthE : E → Nat → Option E
  | .cons a _, 0 => some a
  | .cons _ l, z + 1 => nthE l z
  | .lrep (.c n) a, z => if z < n.toNat then some a else none
  | .lset l (.c i) a, z => if i.toNat = z then (match lenE l with | some n => if z < n then some a else none | none => none) else nthE l z
  | .lsub l (.c i) (.c j), z => if i.toNat + z < j.toNat then nthE l (i.toNat + z) else none
  | .lcat a b, z => match lenE a with | some n => if z < n then nthE a z else nthE b (z - n) | none => none
  | _, _ => none
theorem nthE_ok (ρ : Env) : ∀ {l : E} {z : Nat} {a : E}, nthE l z = some a → (l.L ρ)[z]? = some (a.I ρ, a.S ρ) := by
  intro l
  induction l <;> intro z x h <;> try (simp only [nthE, reduceCtorEq] at h; done)
  case cons a l _ ih =>
    cases z with
    | zero => simp only [nthE, Option.some.injEq] at h; subst h; simp
    | succ z => simp only [nthE] at h; simpa using ih h
  case lcat a b iha ihb =>
    simp only [nthE] at h
    split at h
    · rename_i n hn
      have := lenE_ok ρ hn
      split at h
      · rw [L_lcat, List.getElem?_append_left (by omega)]; exact iha h
      · rw [L_lcat, List.getElem?_append_right (by omega), this]; exact ihb h
    · cases h
  case lrep a b _ _ =>
    cases a <;> simp only [nthE, reduceCtorEq] at h
    split at h
    · rename_i hz; cases h; simp [hz]
    · cases h
  case lset l i a ih _ _ =>
    cases i <;> simp only [nthE, reduceCtorEq] at h
    split at h
    · rename_i hi
      split at h
      · rename_i n hn
        split at h
        · rename_i hz
          cases h
          have := lenE_ok ρ hn
          simp [hi, this, hz]
        · cases h
      · cases h
    · rename_i hi
      rw [L_lset, I_c, List.getElem?_set_ne hi]
      exact ih h
  case lsub l i j ih _ _ =>
    cases i <;> try (simp only [nthE, reduceCtorEq] at h; done)
    cases j <;> simp only [nthE, reduceCtorEq] at h
    split at h
    · rename_i hz
      rw [L_lsub, I_c, I_c, List.getElem?_drop, List.getElem?_take, if_pos hz]
      exact ih h
    · cases h
def mkNthI : E → E → E | l, .c z => (nthE l z.toNat).getD (.nthI l (.c z)) | l, i => .nthI l i
theorem mkNthI_ok (ρ : Env) (l i : E) : (mkNthI l i).I ρ = ((((l.L ρ)[(i.I ρ).toNat]?).map Prod.fst).getD 0) := by
  unfold mkNthI
  split
  · rename_i z
    cases hn : nthE l z.toNat with
    | none => rfl
    | some a => rw [I_c, nthE_ok ρ hn]; rfl
  · rfl
def mkNthS : E → E → E | l, .c z => (nthE l z.toNat).getD (.nthS l (.c z)) | l, i => .nthS l i
theorem mkNthS_ok (ρ : Env) (l i : E) : (mkNthS l i).S ρ = ((((l.L ρ)[(i.I ρ).toNat]?).map Prod.snd).getD ⟨#[]⟩) := by
  unfold mkNthS
  split
  · rename_i z
    cases hn : nthE l z.toNat with
    | none => rfl
    | some a => rw [I_c, nthE_ok ρ hn]; rfl
  · rfl
def nthV (kd : Kd) (xs i : E) : Option V := match kd with
  | .i k => some (.i k (mkNthI xs i))
  | .s => some (.s (mkNthS xs i))
  | .b => some (.b (.not (.eq (mkNthI xs i) (.c 0))))
  | .any => none
  | .sl => none
theorem nthV_ok {ρ : Env} {kd : Kd} {xs i : E} {v : V} (h : nthV kd xs i = some v) {x : Int × ByteArray} (hx : (xs.L ρ)[(i.I ρ).toNat]? = some x) : v.den ρ = cellV x kd := by
  cases kd <;> simp only [nthV, Option.some.injEq, reduceCtorEq] at h <;> subst h
  · simp only [den_i, mkNthI_ok, hx, cellV]; rfl
  · simp only [den_b, B_not, B_eq, mkNthI_ok, I_c, hx, cellV]
    simp
  · simp only [den_s, mkNthS_ok, hx, cellV]; rfl

/-! ### Loads -/
def shiftP (j : Nat) : V → V | .ptr b k l => .ptr b (k + j) l | .rptr x k l => .rptr x (k + j) l | v => v
/-- One of the numbers that stand so far apart, by an index that is a term. -/
def pickV (e : E) (s k : Nat) (l : List V) : Nat → Nat → Option V
  | _, 0 => none
  | j, 1 => match l[k + j * s]? with | some (.i t x) => some (.i t x) | _ => none
  | j, n + 2 => match l[k + j * s]?, pickV e s k l (j + 1) (n + 1) with
    | some (.i t x), some (.i t' y) => if t = t' then some (.i t (.ite (.eq e (.c (j : Int))) x y)) else none
    | _, _ => none
theorem pickV_ok {ρ : Env} {e : E} {s k : Nat} {l : List V} : ∀ {n j : Nat} {v : V}, pickV e s k l j n = some v → (j : Int) ≤ e.I ρ → e.I ρ < (j : Int) + n → ∃ u, l[k + (e.I ρ).toNat * s]? = some u ∧ u.den ρ = v.den ρ
  | 0, j, v, h, _, _ => by cases h
  | 1, j, v, h, h1, h2 => by
    simp only [pickV] at h
    have ej : (e.I ρ).toNat = j := by omega
    rw [ej]
    split at h
    · rename_i t x hx
      cases h
      exact ⟨_, hx, rfl⟩
    · cases h
  | n + 2, j, v, h, h1, h2 => by
    simp only [pickV] at h
    split at h
    · rename_i t x t' y hx hy
      split at h
      · rename_i ht
        cases h
        subst ht
        by_cases hj : e.I ρ = (j : Int)
        · have ej : (e.I ρ).toNat = j := by omega
          rw [ej]
          refine ⟨_, hx, ?_⟩
          simp only [den_i, I_ite, B_eq, I_c, hj, decide_true, if_true]
        · obtain ⟨u, hu, hd⟩ := pickV_ok (ρ := ρ) (e := e) (j := j + 1) hy (by omega) (by omega)
          refine ⟨u, hu, ?_⟩
          rw [hd]
          simp only [den_i, I_ite, B_eq, I_c, hj, decide_false, Bool.false_eq_true, if_false]
      · cases h
    · cases h
/-- The cell behind a pointer. -/
def cellAt (σ : St) : V → Option V
  | .ptr b k [] => match σ.look b with | some (.cells l _) => l[k]? | some (.tab l) => (tabV l)[k]? | _ => none
  | .ptr b k [(s, e)] => match σ.look b with
    | some (.tab l) => if 0 < s ∧ decideB σ.F (.le (.c 0) e) = some true ∧ decideB σ.F (.lt e (.c ((((tabV l).length - k + s - 1) / s : Nat) : Int))) = some true then pickV e s k (tabV l) 0 (((tabV l).length - k + s - 1) / s) else none
    | some (.cells l _) => if 0 < s ∧ decideB σ.F (.le (.c 0) e) = some true ∧ decideB σ.F (.lt e (.c (((l.length - k + s - 1) / s : Nat) : Int))) = some true then pickV e s k l 0 ((l.length - k + s - 1) / s) else none
    | _ => none
  | .rptr x k [] => match findR σ.R x with
    | some r => if decideB σ.F (.lt (.c ((k / r.kds.length : Nat) : Int)) r.n) = some true ∧ 0 < r.kds.length then nthV (r.kds.getD (k % r.kds.length) .any) r.xs (.c k) else none
    | none => none
  | .rptr x k [(s, e)] => match findR σ.R x with
    | some r => if s = r.kds.length ∧ k < s ∧ decideB σ.F (.le (.c 0) e) = some true ∧ decideB σ.F (.lt e r.n) = some true then nthV (r.kds.getD k .any) r.xs (mkAdd (mkMul e (.c s)) (.c k)) else none
    | none => none
  | _ => none
theorem cell_at {ρ : Env} {l : List V} {t : TypeId} {w : World} {g : Nat} (h : (HO.cells l t).at ρ w.heap[g]?) (k : Nat) : w.cell? ⟨g, k, none⟩ = (l[k]?).map (V.den ρ) := by
  have h : w.heap[g]? = some (.cells (l.map (V.den ρ)).toArray t) := h
  simp [World.cell?, h]
theorem tab_at {ρ : Env} {l : List (IntKind × Int)} {w : World} {g : Nat} (h : (HO.tab l).at ρ w.heap[g]?) (k : Nat) : w.cell? ⟨g, k, none⟩ = ((tabV l)[k]?).map (V.den ρ) := by
  obtain ⟨t, fr, h⟩ : ∃ t fr, w.heap[g]? = some (.cells ((tabV l).map (V.den ρ)).toArray t fr) := h
  simp [World.cell?, h]
theorem cellAt_ok {ρ : Env} {σ : St} {w0 w : World} (hs : Sees TT ρ σ w0 w) {p v : V} (h : cellAt σ p = some v) : ∃ a, p.den ρ = .pointer (some a) ∧ a.spot = none ∧ w.cell? a = some (v.den ρ) := by
  unfold cellAt at h
  split at h
  · rename_i b k
    split at h
    · rename_i l ty hb
      refine ⟨addrD ρ b k [], den_ptr _ _ _ _, rfl, ?_⟩
      show w.cell? ⟨ρ.blk b, k, none⟩ = _
      rw [cell_at (hs.blk _ (look_mem hb)), h]; rfl
    · rename_i l hb
      refine ⟨addrD ρ b k [], den_ptr _ _ _ _, rfl, ?_⟩
      show w.cell? ⟨ρ.blk b, k, none⟩ = _
      rw [tab_at (hs.blk _ (look_mem hb)), h]; rfl
    · cases h
  · rename_i b k s e
    split at h
    · rename_i l hb
      split at h
      · rename_i hc
        obtain ⟨-, h0, h1⟩ := hc
        have h0 := decideB_ok hs.fact h0
        have h1 := decideB_ok hs.fact h1
        simp only [B_le, B_lt, I_c, decide_eq_true_eq] at h0 h1
        obtain ⟨u, hu, hd⟩ := pickV_ok (ρ := ρ) h (by simpa using h0) (by simpa using h1)
        refine ⟨addrD ρ b k [(s, e)], den_ptr _ _ _ _, rfl, ?_⟩
        show w.cell? ⟨ρ.blk b, k + (e.I ρ).toNat * s, none⟩ = _
        rw [tab_at (hs.blk _ (look_mem hb)), hu, Option.map_some, hd]
      · cases h
    · rename_i l ty hb
      split at h
      · rename_i hc
        obtain ⟨-, h0, h1⟩ := hc
        have h0 := decideB_ok hs.fact h0
        have h1 := decideB_ok hs.fact h1
        simp only [B_le, B_lt, I_c, decide_eq_true_eq] at h0 h1
        obtain ⟨u, hu, hd⟩ := pickV_ok (ρ := ρ) h (by simpa using h0) (by simpa using h1)
        refine ⟨addrD ρ b k [(s, e)], den_ptr _ _ _ _, rfl, ?_⟩
        show w.cell? ⟨ρ.blk b, k + (e.I ρ).toNat * s, none⟩ = _
        rw [cell_at (hs.blk _ (look_mem hb)), hu, Option.map_some, hd]
      · cases h
    · cases h
  · rename_i x k
    split at h
    · rename_i r hr
      split at h
      · rename_i hc
        have hlt := decideB_ok hs.fact hc.1
        simp only [B_lt, I_c, decide_eq_true_eq] at hlt
        have hk : k < (r.n.I ρ).toNat * r.kds.length := by
          have h1 : k / r.kds.length < (r.n.I ρ).toNat := by omega
          have h2 := Nat.div_add_mod k r.kds.length
          have h3 := Nat.mod_lt k hc.2
          have h4 : (k / r.kds.length + 1) * r.kds.length ≤ (r.n.I ρ).toNat * r.kds.length := Nat.mul_le_mul_right _ h1
          rw [Nat.add_mul, Nat.one_mul, Nat.mul_comm] at h4
          omega
        obtain ⟨a, cap, y, hv, hsp, hy, hcell⟩ := row_cell (hs.row _ (findR_mem hr)) hk
        simp only at hv
        refine ⟨⟨a.block, a.off + k, none⟩, by rw [den_rptr, hv]; rfl, rfl, ?_⟩
        rw [hcell, nthV_ok h (x := y) (by simpa using hy)]
      · cases h
    · cases h
  · rename_i x k s e
    split at h
    · rename_i r hr
      split at h
      · rename_i hc
        obtain ⟨rfl, hk, h0, h1⟩ := hc
        have h0 := decideB_ok hs.fact h0
        have h1 := decideB_ok hs.fact h1
        simp only [B_le, B_lt, I_c, decide_eq_true_eq] at h0 h1
        have h2 : (e.I ρ).toNat < (r.n.I ρ).toNat := by omega
        have hj : (e.I ρ).toNat * r.kds.length + k < (r.n.I ρ).toNat * r.kds.length := by
          have : ((e.I ρ).toNat + 1) * r.kds.length ≤ (r.n.I ρ).toNat * r.kds.length := Nat.mul_le_mul_right _ h2
          rw [Nat.add_mul, Nat.one_mul] at this
          omega
        obtain ⟨a, cap, y, hv, hsp, hy, hcell⟩ := row_cell (hs.row _ (findR_mem hr)) hj
        simp only at hv
        have hmod : ((e.I ρ).toNat * r.kds.length + k) % r.kds.length = k := by rw [Nat.mul_add_mod', Nat.mod_eq_of_lt hk]
        rw [hmod] at hcell
        refine ⟨⟨a.block, a.off + ((e.I ρ).toNat * r.kds.length + k), none⟩, by rw [den_rptr, hv]; simp [offN, Nat.add_comm], rfl, ?_⟩
        have hi : ((mkAdd (mkMul e (.c (r.kds.length : Int))) (.c (k : Int))).I ρ).toNat = (e.I ρ).toNat * r.kds.length + k := by
          rw [mkAdd_ok, mkMul_ok]
          simp only [I_c]
          obtain ⟨z, hz⟩ : ∃ z : Nat, e.I ρ = z := ⟨(e.I ρ).toNat, by omega⟩
          rw [hz, Int.toNat_natCast, ← Int.natCast_mul, ← Int.natCast_add, Int.toNat_natCast]
        rw [hcell, nthV_ok h (x := y) (by rw [hi]; exact hy)]
      · cases h
    · cases h
  · cases h
def cellsAt (σ : St) (p : V) (j : Nat) : Nat → Option (List V)
  | 0 => some []
  | n + 1 => match cellAt σ (shiftP j p), cellsAt σ p (j + 1) n with | some v, some l => some (v :: l) | _, _ => none
def isPtrV : V → Bool | .ptr _ _ _ | .rptr _ _ _ => true | _ => false
def loadV (P : Program) (σ : St) (t : TypeId) (p : V) : Option V :=
  if isPtrV p then match isAggV P t, sizeV P t with
    | some true, some n => match cellAt σ p, cellsAt σ p 0 n with | some _, some l => some (.agg (V.ofL l)) | _, _ => none
    | some false, _ => cellAt σ p
    | _, _ => none
  else none
theorem shift_den {ρ : Env} {p : V} (hp : isPtrV p = true) {a : Addr} (h : p.den ρ = .pointer (some a)) (hs : a.spot = none) (j : Nat) : (shiftP j p).den ρ = .pointer (some (a.add j)) := by
  have key : ∀ b o, (⟨b, o, none⟩ : Addr).add j = ⟨b, o + j, none⟩ := fun b o => Addr.add_lit b o j
  cases p <;> first | (cases hp; done) | skip
  · rename_i b k l
    rw [den_ptr] at h
    injection h with h
    injection h with h
    subst h
    simp only [shiftP, den_ptr]
    congr 2
    rw [addr_add]
  · rename_i x k l
    rw [den_rptr] at h
    simp only [shiftP, den_rptr]
    split at h
    · rename_i a' n c hv
      injection h with h
      injection h with h
      subst h
      rw [key, offN_add, Nat.add_assoc]
    · cases h
theorem cellsAt_ok {ρ : Env} {σ : St} {w0 w : World} (hs : Sees TT ρ σ w0 w) {p : V} (hp : isPtrV p = true) {a : Addr} (ha : p.den ρ = .pointer (some a)) (hsp : a.spot = none) : ∀ {n j : Nat} {l : List V}, cellsAt σ p j n = some l →
    l.length = n ∧ ∀ i u, (l.map (V.den ρ))[i]? = some u → w.cell? (a.add (j + i)) = some u
  | 0, j, l, h => by cases h; exact ⟨rfl, fun i u hi => by cases hi⟩
  | n + 1, j, l, h => by
    simp only [cellsAt] at h
    split at h
    · rename_i v l' h1 h2
      cases h
      obtain ⟨e1, e2⟩ := cellsAt_ok hs hp ha hsp h2
      refine ⟨by simp [e1], fun i u hi => ?_⟩
      cases i with
      | zero =>
        obtain ⟨a', h3, -, h4⟩ := cellAt_ok hs h1
        rw [shift_den hp ha hsp] at h3
        injection h3 with h3
        injection h3 with h3
        simp at hi
        rw [Nat.add_zero, h3, h4, hi]
      | succ i =>
        have := e2 i u (by simpa using hi)
        rwa [show j + 1 + i = j + (i + 1) by omega] at this
    · cases h
theorem loadV_ok {P : Program} {ρ : Env} {σ : St} {w0 w : World} (hs : Sees TT ρ σ w0 w) {t : TypeId} {x v : V} (hl : loadV P σ t x = some v) :
    (Instr.loadAt t (x.den ρ)).run P w = .ok (v.den ρ) w := by
  unfold loadV at hl
  split at hl
  · rename_i hp
    split at hl
    · rename_i n h1 h2
      split at hl
      · rename_i u l hc0 hc
        cases hl
        obtain ⟨a, ha, hsp, -⟩ := cellAt_ok hs hc0
        obtain ⟨e1, e2⟩ := cellsAt_ok hs hp ha hsp hc
        simp only [Instr.loadAt, ha, Instr.sureAddr, Sem.run_bind, Sem.run_pure, Result.andThen_ok, loadVar, isAgg_ok h1, if_true, sizeOf_ok h2, agg_ofL]
        have := run_loadCells_list (P := P) w a (l.map (V.den ρ)) (fun j u hj => by have := e2 j u hj; rwa [Nat.zero_add] at this)
        rw [List.length_map, e1] at this
        rw [this]; rfl
      · cases hl
    · rename_i h1
      obtain ⟨a, ha, -, hc⟩ := cellAt_ok hs hl
      simp only [Instr.loadAt, ha, Instr.sureAddr, Sem.run_bind, Sem.run_pure, Result.andThen_ok, loadVar, isAgg_ok h1, Bool.false_eq_true, if_false, run_load, hc]
    · cases hl
  · cases hl

/-! ### Stores and new blocks -/
def V.isCell : V → Bool
  | .agg _ | .tup _ | .nil | .cons _ _ | .var _ | .rptr _ _ _ => false
  | _ => true
theorem isCell_ok {ρ : Env} {x : V} (h : x.isCell = true) : (x.den ρ).oneCell' = true := by
  cases x <;> first | (cases h; done) | rfl | (show (asSl _).oneCell' = true; unfold asSl; split <;> rfl)
def St.upd (σ : St) (b : Bk) (o : HO) : St := { σ with H := σ.H.map (fun p => if p.1 = b then (b, o) else p), W := if b.own σ.own then σ.W else b :: σ.W }
def storeS (P : Program) (σ : St) (t : TypeId) (a x : V) : Option St :=
  match a with
  | .ptr b k [] => match σ.look b, x.cells, sizeV P t with
    | some (.cells l ty), some cs, some n => if cs.length = n ∧ k + n ≤ l.length ∧ cs.all V.isCell = true then some (σ.upd b (.cells (setsV l k cs) ty)) else none
    | _, _, _ => none
  | _ => none
theorem setsV_length : ∀ (vs l : List V) (o : Nat), (setsV l o vs).length = l.length
  | [], _, _ => rfl
  | v :: vs, l, o => by simp [setsV, setsV_length vs]
theorem setRow_same {w : World} {g : Nat} {cs : Array Value} {t : TypeId} {fr : Nat × Nat} (hg : w.heap[g]? = some (.cells cs t fr)) : w.setRow g cs = w := by
  have h1 : (w.setRow g cs).heap = w.heap := by
    apply Array.ext_getElem?
    intro k
    by_cases hk : k = g
    · subst hk; rw [setRow_heap w k cs cs t fr hg, hg]
    · rw [setRow_other w g k cs hk]
  show ({ w with heap := (w.setRow g cs).heap } : World) = w
  rw [h1]
theorem storeCells_ok {P : Program} {ρ : Env} {g : Nat} {t : TypeId} : ∀ (vs l : List V) (k i : Nat) (w : World), w.heap[g]? = some (.cells (arr ρ l) t) → k + i + vs.length ≤ l.length → vs.all V.isCell = true →
    (storeCells ⟨g, k, none⟩ (vs.map (V.den ρ)) i).run P w = .ok () (w.setRow g (arr ρ (setsV l (k + i) vs)))
  | [], l, k, i, w, hg, hl, hc => by
    simp only [List.map_nil, storeCells, Sem.run_pure, setsV]
    rw [setRow_same hg]
  | v :: vs, l, k, i, w, hg, hl, hc => by
    simp only [List.all_cons, Bool.and_eq_true] at hc
    simp only [List.length_cons] at hl
    have hk : (Addr.add ⟨g, k, none⟩ i) = ⟨g, k + i, none⟩ := Addr.add_lit g k i
    have hcell : w.cell? ⟨g, k + i, none⟩ = some ((arr ρ l)[k + i]'(by simp [arr]; omega)) := by
      simp only [World.cell?, hg]
      simp
    have hfr : w.frozen? ⟨g, k + i, none⟩ = false := by simp [World.frozen?, hg]
    have e1 : (arr ρ l).setIfInBounds (k + i) (v.den ρ) = arr ρ (l.set (k + i) v) := by simp [arr, List.map_set]
    have hset : w.setCell ⟨g, k + i, none⟩ (v.den ρ) = w.setRow g (arr ρ (l.set (k + i) v)) := by
      rw [setCell_eq_setRow w g (k + i) (arr ρ l) t (0, 0) (v.den ρ) hg, e1]
    simp only [List.map_cons, storeCells, Sem.run_bind, hk, run_store P w _ _ .plain (isCell_ok hc.1), hcell, hfr, Bool.false_eq_true, if_false, Result.andThen_ok, hset]
    have hg' := setRow_heap w g (arr ρ l) (arr ρ (l.set (k + i) v)) t (0, 0) hg
    rw [storeCells_ok vs (l.set (k + i) v) k (i + 1) _ hg' (by simp; omega) hc.2, setRow_setRow]
    rfl
theorem sees_upd {ρ : Env} {σ : St} {w0 w w' : World} (hs : Sees TT ρ σ w0 w) {b : Bk} {o : HO} (hm : b ∈ σ.H.map (·.1)) (h1 : o.at ρ w'.heap[ρ.blk b]?) (hoth : ∀ k, k ≠ ρ.blk b → w'.heap[k]? = w.heap[k]?)
    (hos : w'.os = w.os) (htape : w'.tape = w.tape) (hout : w'.output = w.output) (hsz : w'.heap.size = w.heap.size) : Sees TT ρ (σ.upd b o) w0 w' := by
  rw [List.mem_map] at hm
  obtain ⟨⟨b', o'⟩, hmem, hb'⟩ := hm
  simp only at hb'
  subst hb'
  have hH : ∀ p ∈ (σ.upd b' o).H, p = (b', o) ∨ (p ∈ σ.H ∧ p.1 ≠ b') := fun p hp => by
    simp only [St.upd, List.mem_map] at hp
    obtain ⟨q, hq, rfl⟩ := hp
    split
    · exact Or.inl rfl
    · rename_i hne; exact Or.inr ⟨hq, hne⟩
  have key : ∀ p ∈ (σ.upd b' o).H, ∃ q ∈ σ.H, q.1 = p.1 := fun p hp => by
    rcases hH p hp with rfl | ⟨h, -⟩
    · exact ⟨_, hmem, rfl⟩
    · exact ⟨_, h, rfl⟩
  refine ⟨hos.trans hs.os, htape.trans hs.tape, hout.trans hs.output, by rw [hsz]; exact hs.size, fun k hk hW => ?_, fun p hp => ?_, fun p hp q hq he => ?_, fun p hp ho => ?_, fun p hp => row_world (hs.row p hp) (by rw [hsz]; exact Nat.le_refl _) (fun j hj => hoth j (Ne.symm (hs.rsep p hp j hj _ hmem))), fun p hp j hj q hq => ?_, hs.rown, hs.fact, hs.tab, hs.src⟩
  · have hne : k ≠ ρ.blk b' := by
      by_cases ho : b'.own σ.own = true
      · have := hs.own _ hmem ho
        simp only at this
        omega
      · have : b' ∈ (σ.upd b' o).W := by simp [St.upd, ho]
        exact fun e => hW b' this e.symm
    rw [hoth k hne]
    refine hs.keep k hk fun x hx => hW x ?_
    simp only [St.upd]
    split
    · exact hx
    · exact List.mem_cons_of_mem _ hx
  · rcases hH p hp with rfl | ⟨h, hne⟩
    · exact h1
    · rw [hoth _ (fun e => hne (hs.sep _ h _ hmem e))]
      exact hs.blk p h
  · obtain ⟨p', hp', e1⟩ := key p hp
    obtain ⟨q', hq', e2⟩ := key q hq
    rw [← e1, ← e2] at he ⊢
    exact hs.sep _ hp' _ hq' he
  · obtain ⟨p', hp', e1⟩ := key p hp
    rw [← e1] at ho ⊢
    exact hs.own _ hp' ho
  · obtain ⟨q', hq', e1⟩ := key q hq
    rw [← e1]
    exact hs.rsep p hp j hj _ hq'
theorem storeS_ok {P : Program} {ρ : Env} {σ σ' : St} {w0 w : World} (hs : Sees TT ρ σ w0 w) {t : TypeId} {a x : V} (hr : storeS P σ t a x = some σ') :
    ∃ w', (Instr.storeAt t (a.den ρ) (x.den ρ)).run P w = .ok () w' ∧ Sees TT ρ σ' w0 w' := by
  unfold storeS at hr
  split at hr
  · rename_i b k
    split at hr
    · rename_i l ty cs n hb hx hn
      split at hr
      · rename_i hc
        cases hr
        obtain ⟨hc1, hc2, hc3⟩ := hc
        have hmem := look_mem hb
        have hat := hs.blk _ hmem
        have hat' : w.heap[ρ.blk b]? = some (.cells (arr ρ l) ty) := hat
        refine ⟨w.setRow (ρ.blk b) (arr ρ (setsV l k cs)), ?_, ?_⟩
        · have hsize : (x.den ρ).cells.size = n := by rw [cells_ok hx]; simp [arr, hc1]
          have hL : (x.den ρ).cells.toList = cs.map (V.den ρ) := by rw [cells_ok hx]; rfl
          simp only [Instr.storeAt, den_ptr, Instr.sureAddr, Sem.run_bind, Sem.run_pure, Result.andThen_ok, storeVar, sizeOf_ok hn, hsize, ne_eq, not_true_eq_false, if_false, hL]
          exact storeCells_ok cs l k 0 w hat' (by omega) hc3
        · refine sees_upd hs (List.mem_map.2 ⟨_, hmem, rfl⟩) ?_ (fun j hj => setRow_other w _ j _ hj) rfl rfl rfl (by simp)
          exact setRow_heap w _ _ _ ty (0, 0) hat'
      · cases hr
    · cases hr
  · cases hr

/-- The next name stands for the next block. -/
def Env.name (ρ : Env) (k n : Nat) : Env := { ρ with n := fun j => if j = k then n else ρ.n j }
theorem name_ext (ρ : Env) (k n : Nat) : Ext k ρ (ρ.name k n) :=
  ⟨fun _ _ => rfl, fun _ _ => rfl, fun _ _ => rfl, fun _ _ => rfl, fun j hj => by simp [Env.name]; omega, rfl, rfl, rfl, fun _ _ => rfl, fun _ _ => rfl, rfl⟩
def St.newB (σ : St) (o : HO) : St := { σ with H := (.n σ.fr, o) :: σ.H, fr := σ.fr + 1 }
theorem sees_new' {ρ ρ' : Env} {σ : St} {w0 w : World} (hs : Sees TT ρ σ w0 w) (hok : σ.ok = true) {o : HO} {obj : Obj} (hx : Ext σ.fr ρ ρ') (hnew : ρ'.blk (.n σ.fr) = w.heap.size) (hat : o.at ρ' (some obj)) :
    Sees TT ρ' (σ.newB o) w0 (w.alloc obj) := by
  obtain ⟨-, hH, hF, hW, hR⟩ := ok_parts hok
  have hs' := sees_ext hx hH hF hW hR hs
  have hlt : ∀ p ∈ σ.H, ρ'.blk p.1 < w.heap.size := fun p hp => by
    obtain ⟨y, hy⟩ := HO.at_some (hs'.blk p hp)
    exact (Array.getElem?_eq_some_iff.1 hy).1
  have hold : ∀ k, k < w.heap.size → (w.alloc obj).heap[k]? = w.heap[k]? := fun k hk => by
    show (w.heap.push obj)[k]? = _
    rw [Array.getElem?_push, if_neg (by omega)]
  refine ⟨hs'.os, hs'.tape, hs'.output, by rw [World.size_alloc]; have := hs'.size; omega, fun k hk hb => ?_, fun p hp => ?_, fun p hp q hq he => ?_, fun p hp hown => ?_, fun p hp => row_world (hs'.row p hp) (by rw [World.size_alloc]; omega) (fun j hj => hold j (row_lt (hs'.row p hp) hj)), fun p hp j hj q hq => ?_, hs'.rown, hs'.fact, hs'.tab, hs'.src⟩
  · rw [hold k (by have := hs'.size; omega)]
    exact hs'.keep k hk hb
  · simp only [St.newB, List.mem_cons] at hp
    rcases hp with rfl | hp
    · simp only [hnew]
      rw [show (w.alloc obj).heap[w.heap.size]? = some obj by show (w.heap.push obj)[w.heap.size]? = _; simp]
      exact hat
    · rw [hold _ (hlt p hp)]
      exact hs'.blk p hp
  · simp only [St.newB, List.mem_cons] at hp hq
    rcases hp with rfl | hp <;> rcases hq with rfl | hq
    · rfl
    · simp only [hnew] at he; have := hlt q hq; omega
    · simp only [hnew] at he; have := hlt p hp; omega
    · exact hs'.sep p hp q hq he
  · simp only [St.newB, List.mem_cons] at hp
    rcases hp with rfl | hp
    · simp only [hnew]; exact hs'.size
    · exact hs'.own p hp hown
  · simp only [St.newB, List.mem_cons] at hq
    rcases hq with rfl | hq
    · simp only [hnew]; have := row_lt (hs'.row p hp) hj; omega
    · exact hs'.rsep p hp j hj q hq
theorem sees_new {ρ : Env} {σ : St} {w0 w : World} (hs : Sees TT ρ σ w0 w) (hok : σ.ok = true) (_ho : σ.own ≤ σ.fr) {o : HO} {obj : Obj} (hat : o.at (ρ.name σ.fr w.heap.size) (some obj)) :
    Sees TT (ρ.name σ.fr w.heap.size) (σ.newB o) w0 (w.alloc obj) :=
  sees_new' hs hok (name_ext ρ σ.fr w.heap.size) (by simp [Env.blk, Env.name]) hat
/-- The next name stands for the next block, a loop's record. -/
def Env.nameC (ρ : Env) (k n : Nat) (r : Loop) : Env := { ρ with n := fun j => if j = k then n else ρ.n j, c := fun j => if j = k then r else ρ.c j }
theorem nameC_ext (ρ : Env) (k n : Nat) (r : Loop) : Ext k ρ (ρ.nameC k n r) :=
  ⟨fun _ _ => rfl, fun _ _ => rfl, fun _ _ => rfl, fun _ _ => rfl, fun j hj => by simp [Env.nameC]; omega, rfl, rfl, rfl, fun _ _ => rfl, fun j hj => by simp [Env.nameC]; omega, rfl⟩
/-- A block is no longer looked at. -/
def St.drop (σ : St) (b : Bk) : St := { σ with H := σ.H.filter (fun p => p.1 != b) }
theorem sees_drop {ρ : Env} {σ : St} {w0 w w' : World} (hs : Sees TT ρ σ w0 w) {b : Bk} (hm : b ∈ σ.H.map (·.1)) (hw : b.own σ.own = true) (hoth : ∀ k, k ≠ ρ.blk b → w'.heap[k]? = w.heap[k]?)
    (hos : w'.os = w.os) (htape : w'.tape = w.tape) (hout : w'.output = w.output) (hsz : w'.heap.size = w.heap.size) : Sees TT ρ (σ.drop b) w0 w' := by
  rw [List.mem_map] at hm
  obtain ⟨⟨b', o'⟩, hmem, hb'⟩ := hm
  simp only at hb'
  subst hb'
  have hH : ∀ p ∈ (σ.drop b').H, p ∈ σ.H ∧ p.1 ≠ b' := fun p hp => by
    simp only [St.drop, List.mem_filter] at hp
    exact ⟨hp.1, by simpa using hp.2⟩
  refine ⟨hos.trans hs.os, htape.trans hs.tape, hout.trans hs.output, by rw [hsz]; exact hs.size, fun k hk hW => ?_, fun p hp => ?_, fun p hp q hq he => hs.sep _ (hH p hp).1 _ (hH q hq).1 he, fun p hp ho => hs.own _ (hH p hp).1 ho, fun p hp => row_world (hs.row p hp) (by rw [hsz]; exact Nat.le_refl _) (fun j hj => hoth j (Ne.symm (hs.rsep p hp j hj _ hmem))), fun p hp j hj q hq => hs.rsep p hp j hj _ (hH q hq).1, hs.rown, hs.fact, hs.tab, hs.src⟩
  · rw [hoth k (by have := hs.own _ hmem hw; simp only at this; omega)]
    exact hs.keep k hk hW
  · rw [hoth _ (fun e => (hH p hp).2 (hs.sep _ (hH p hp).1 _ hmem e))]
    exact hs.blk p (hH p hp).1

/-! ### Operations on rows' slices -/
/-- Is the row known to have an element? -/
def someR (F : List E) (r : Row) (l : List (Nat × E)) : Bool :=
  decideB F (.lt (.c 0) r.n) == some true || match l with | [(_, e)] => decideB F (.le (.c 0) e) == some true && decideB F (.lt e r.n) == some true | _ => false
theorem someR_ok {ρ : Env} {F : List E} (h : holds ρ F) {r : Row} {l : List (Nat × E)} (hs : someR F r l = true) : 0 < r.n.I ρ := by
  unfold someR at hs
  rw [Bool.or_eq_true] at hs
  rcases hs with hs | hs
  · have := decideB_ok h (by simpa using hs); simpa only [B_lt, I_c, decide_eq_true_eq] using this
  · split at hs
    · simp only [Bool.and_eq_true, beq_iff_eq] at hs
      have h1 := decideB_ok h hs.1
      have h2 := decideB_ok h hs.2
      simp only [B_le, B_lt, I_c, decide_eq_true_eq] at h1 h2
      omega
    · cases hs
def V.isVar : V → Bool | .var _ => true | _ => false
/-- A row's slice as a value of one cell; and back. -/
def toR (RR : List (Nat × Row)) : V → V | .var x => if (findR RR x).isSome then .rsl x else .var x | v => v
def unR' (RR : List (Nat × Row)) : V → V | .rsl x => if (findR RR x).isSome then .var x else .rsl x | v => v
theorem asSl_row {ρ : Env} {RR : List (Nat × Row)} (hR : RowVals ρ RR) {x : Nat} (h : (findR RR x).isSome = true) : asSl (ρ.v x) = ρ.v x := by
  obtain ⟨r, hr⟩ := Option.isSome_iff_exists.1 h
  obtain ⟨-, hval⟩ := hR _ (findR_mem hr)
  simp only at hval
  rcases hval with ⟨e1, -⟩ | ⟨a, cap, e1, -⟩ <;> rw [e1] <;> rfl
theorem toR_den {ρ : Env} {RR : List (Nat × Row)} (hR : RowVals ρ RR) (v : V) : (toR RR v).den ρ = v.den ρ := by
  unfold toR
  split
  · split
    · rename_i h; rw [den_rsl, den_var, asSl_row hR h]
    · rfl
  · rfl
theorem unR'_den {ρ : Env} {RR : List (Nat × Row)} (hR : RowVals ρ RR) (v : V) : (unR' RR v).den ρ = v.den ρ := by
  unfold unR'
  split
  · split
    · rename_i h; rw [den_rsl, den_var, asSl_row hR h]
    · rfl
  · rfl
/-- Is a row nil? (One that has an element is not.) -/
def nilR (P : Program) (F : List E) (RR : List (Nat × Row)) (op : BinOp) (t : TypeId) : Option V → Option V → Option R
  | some (.var v), some .nils => match op with
    | .eql => match P.underlying t, findR RR v with
      | some (.slice _), some r => if decideB F (.lt (.c 0) r.n) = some true then some (.val (.b .ff)) else none
      | _, _ => none
    | _ => none
  | _, _ => none
def rowR (P : Program) (F : List E) (RR : List (Nat × Row)) (T : List V) (o : Oper) : Option R :=
  match o.op with
  | .call ⟨.builtin .len, args, ts⟩ => match evalOs T args.toList, ts[0]? with
    | some [.var x], some t => match P.underlying t, findR RR x with
      | some (.slice _), some r => some (.val (.i .i64 r.n))
      | _, _ => none
    | _, _ => none
  | .indexAddr t x y => match evalO T x, evalO T y with
    | some (.var v), some (.i _ e) => match P.underlying t, findR RR v with
      | some (.slice elem), some r => match sizeV P elem with
        | some s => match decideB F (.le (.c 0) e) with
          | some true => ask F (.lt e r.n) (match e with | .c z => .rptr v (z.toNat * s) [] | e => .rptr v 0 [(s, e)])
          | none => some (.need (.le (.c 0) e))
          | _ => none
        | none => none
      | _, _ => none
    | _, _ => none
  | .fieldAddr t x n => match evalO T x with
    | some (.rptr v k l) => match P.underlying t with
      | some (.struct fs) => match fs[n]? with
        | some f => match sizeV P f.type with | some (_m + 1) => (match findR RR v with | some r => if someR F r l then some (.val (.rptr v (k + f.offset) l)) else none | none => none) | _ => none
        | none => none
      | _ => none
    | _ => none
  | .move y => match evalO T y with
    | some (.rsl x) => match findR RR x with | some _ => some (.val (.var x)) | none => none
    | _ => none
  | .build t parts => match partsR T parts.toList with
    | some ps => if ps.any fun p => p.2.isVar then (builtV P t (ps.map fun p => (p.1, toR RR p.2))).map .val else none
    | none => none
  | .nilCheck x => match evalO T x with
    | some (.rptr v k l) => (match findR RR v with | some r => if someR F r l then some (.val (.rptr v k l)) else none | none => none)
    | _ => none
  | .binOp op t x y _ => nilR P F RR op t (evalO T x) (evalO T y)
  | _ => none
theorem rptrAt_ok (ρ : Env) (x s : Nat) (e : E) {a : Addr} {n c : Nat} (hv : ρ.v x = .slice (some a) n c) : V.den ρ (match e with | .c z => .rptr x (z.toNat * s) [] | e => .rptr x 0 [(s, e)]) = .pointer (some ⟨a.block, a.off + (e.I ρ).toNat * s, none⟩) := by
  split
  · rw [den_rptr, hv]; rfl
  · rw [den_rptr, hv]; simp [offN]
theorem nil_in {P : Program} (w : World) (d : Nat) {t e : TypeId} (a : Addr) (n c : Nat) (h : P.underlying t = some (.slice e)) : (Op.equalIn (d + 1) t (.slice (some a) n c) (.slice none 0 0)).run P w = .ok false w := by simp [Op.equalIn, run_underlying h]
theorem nil_run {P : Program} (w : World) {t e : TypeId} (a : Addr) (n c : Nat) (h : P.underlying t = some (.slice e)) : (binOp .eql t (.slice (some a) n c) (.slice none 0 0)).run P w = .ok (.bool false) w := by
  simp only [binOp]
  simp [Op.equal, Op.maxDepth, nil_in w 9999 a n c h]
theorem rowR_ok {P : Program} {ρ : Env} {F : List E} (h : holds ρ F) {RR : List (Nat × Row)} (hR : RowVals ρ RR) {T : List V} {M : List Nat} {o : Oper} {v : V} (hr : rowR P F RR T o = some (.val v)) (w : World) :
    (execOp (actOf ρ T M).eval o).run P w = .ok (.value (v.den ρ)) w := by
  unfold rowR at hr
  unfold execOp
  split at hr <;> rename_i hop <;> simp only [hop]
  · rename_i args ts
    split at hr
    · rename_i x t hv ht
      split at hr
      · rename_i r hu hf
        cases hr
        simp only [resolve, Sem.run_bind, Sem.run_pure, Result.andThen_ok, invoke]
        have ha := evalOs_ok (ρ := ρ) (M := M) hv
        have hx : (Array.map (actOf ρ T M).eval args)[0]? = some (ρ.v x) := by rw [← Array.getElem?_toList, Array.toList_map, ha]; rfl
        obtain ⟨h0, hval⟩ := hR _ (findR_mem hf)
        simp only at h0 hval
        simp only [builtin, Sem.run_bind]
        have hl : (Builtin.len_ ts o.type (Array.map (actOf ρ T M).eval args)).run P w = .ok (V.den ρ (.i .i64 r.n)) w := by
          unfold Builtin.len_
          simp only [ht, hx]
          rcases hval with ⟨e1, e2⟩ | ⟨a, cap, e1, -⟩
          · simp only [Sem.run_bind, run_underlying hu, Result.andThen_ok, e1, den_i, goInt, e2]; rfl
          · simp only [Sem.run_bind, run_underlying hu, Result.andThen_ok, e1, den_i, goInt]
            show Result.ok (Value.int .i64 _) w = _
            rw [Int.toNat_of_nonneg h0]
        rw [hl]; rfl
      · cases hr
    · cases hr
  · split at hr
    · rename_i x k e hx hy
      split at hr
      · rename_i hu hf
        split at hr
        · rename_i s hs
          split at hr
          · rename_i hd
            have h0 := decideB_ok h hd
            obtain ⟨h1, rfl⟩ := ask_ok h hr
            simp only [B_le, B_lt, I_c, decide_eq_true_eq] at h0 h1
            obtain ⟨hn, hval⟩ := hR _ (findR_mem hf)
            simp only at hn hval
            rcases hval with ⟨-, e2⟩ | ⟨a, cap, e1, e3⟩
            · omega
            · rw [evalO_ok hx, evalO_ok hy, den_var, e1, den_i]
              refine run_v ?_
              simp only [Instr.indexAt, asIntOf, Sem.run_bind, Sem.run_pure, Result.andThen_ok, run_underlying hu, Sem.run_ite, sizeOf_ok hs]
              rw [if_pos (by omega), rptrAt_ok ρ x s e e1]
              have : a.add ((e.I ρ).toNat * s) = ⟨a.block, a.off + (e.I ρ).toNat * s, none⟩ := by
                obtain ⟨b, o', sp⟩ := a
                simp only at e3
                subst e3
                exact Addr.add_lit _ _ _
              rw [this]
          · cases hr
          · cases hr
        · cases hr
      · cases hr
    · cases hr
  · split at hr
    · rename_i x k l hx
      split at hr
      · rename_i hu
        split at hr
        · rename_i f hf
          split at hr
          · rename_i m hm
            split at hr
            case h_2 => cases hr
            rename_i r hfr
            split at hr
            case isFalse => cases hr
            case isTrue hsome =>
              cases hr
              have hpos := someR_ok h hsome
              obtain ⟨-, hval⟩ := hR _ (findR_mem hfr)
              simp only at hval
              obtain ⟨a, ha⟩ : ∃ a, (V.rptr x k l).den ρ = .pointer (some a) := by
                rcases hval with ⟨-, e2⟩ | ⟨a, cap, e1, -⟩
                · omega
                · exact ⟨_, by rw [den_rptr, e1]⟩
              rw [evalO_ok hx]
              refine run_v ?_
              have hsp : a.spot = none := by
                rw [den_rptr] at ha
                split at ha
                · injection ha with ha; injection ha with ha; subst ha; rfl
                · cases ha
              have hsh := shift_den (p := .rptr x k l) rfl ha hsp f.offset
              simp only [shiftP] at hsh
              rw [hsh]
              simp only [Instr.fieldAt, Sem.run_bind, run_underlying hu, Result.andThen_ok, hf, ha, Instr.sureAddr, Sem.run_pure, fieldPlace, sizeOf_ok hm]
              simp
          · cases hr
        · cases hr
      · cases hr
    · cases hr
  · split at hr
    · rename_i y x hx
      split at hr
      · rename_i r hf
        cases hr
        obtain ⟨-, hval⟩ := hR _ (findR_mem hf)
        simp only at hval
        rw [evalO_ok hx, den_rsl, den_var]
        have e : asSl (ρ.v x) = ρ.v x := by
          rcases hval with ⟨e1, -⟩ | ⟨a, cap, e1, -⟩ <;> rw [e1] <;> rfl
        rw [e]; rfl
      · cases hr
    · cases hr
  · split at hr
    · rename_i ps hp
      split at hr
      case isFalse => cases hr
      rw [Option.map_eq_some_iff] at hr
      obtain ⟨v', hv, hvv⟩ := hr
      cases hvv
      refine run_v (builtV_ok hv _ ?_ w)
      have h1 : (ps.map fun p => (p.1, toR RR p.2)).map (fun p : Nat × V => (p.1, p.2.den ρ)) = ps.map fun p => (p.1, p.2.den ρ) := by
        rw [List.map_map]
        exact List.map_congr_left fun p _ => by simp only [Function.comp, toR_den hR]
      rw [h1, ← parts_ok (M := M) hp]
      simp
    · cases hr
  · split at hr
    · rename_i x k l hx
      split at hr
      case h_2 => cases hr
      rename_i r hfr
      split at hr
      case isFalse => cases hr
      case isTrue hsome =>
        cases hr
        have hpos := someR_ok h hsome
        obtain ⟨-, hval⟩ := hR _ (findR_mem hfr)
        simp only at hval
        obtain ⟨a, ha⟩ : ∃ a, (V.rptr x k l).den ρ = .pointer (some a) := by
          rcases hval with ⟨-, e2⟩ | ⟨a, cap, e1, -⟩
          · omega
          · exact ⟨_, by rw [den_rptr, e1]⟩
        rw [evalO_ok hx, ha]
        rfl
    · cases hr
  · rename_i op t x y ot
    unfold nilR at hr
    split at hr
    case h_2 => cases hr
    rename_i v hx hy
    split at hr
    case h_2 => cases hr
    split at hr
    case h_2 => cases hr
    rename_i e r hu hf
    split at hr
    case isFalse => cases hr
    rename_i hd
    cases hr
    have h0 := decideB_ok h hd
    simp only [B_lt, I_c, decide_eq_true_eq] at h0
    obtain ⟨-, hval⟩ := hR _ (findR_mem hf)
    simp only at hval
    rcases hval with ⟨-, e2⟩ | ⟨a, cap, e1, -⟩
    · omega
    · rw [evalO_ok hx, evalO_ok hy, den_var, e1, den_nils]
      refine run_v ?_
      rw [run_then (eqGuard_ok P .eql t x y w trivial)]
      exact nil_run w a _ cap hu
  · cases hr

/-! ### Lists of values -/
def listV (P : Program) (t : TypeId) (len : Nat) (parts : List (Nat × V)) : Option (TypeId × List V) :=
  match P.underlying t with
  | some (.slice e) => match sizeV P e, zeroV P e with
    | some n, some z => match z.cells with
      | some zc => if len * n ≤ 2 ^ 24 ∧ 0 < zc.length then (fillV (fun i => some (i * n, n)) ((List.range (len * n)).map fun j => zc.getD (j % zc.length) .nil) parts).map fun l => (e, l) else none
      | none => none
    | _, _ => none
  | _ => none
theorem listV_ok {P : Program} {ρ : Env} {t e : TypeId} {len : Nat} {parts : List (Nat × V)} {l : List V} (h : listV P t len parts = some (e, l)) (ps : Array (Nat × Value)) (hp : ps.toList = parts.map fun p => (p.1, p.2.den ρ)) (w : World) :
    (Instr.buildSlice t len ps).run P w = .ok (.slice (some ⟨w.heap.size, 0, none⟩) len len) (w.alloc (.cells (arr ρ l) e)) := by
  unfold listV at h
  split at h
  case h_2 => cases h
  rename_i e' hu
  split at h
  case h_2 => cases h
  rename_i n z hn hz
  split at h
  case h_2 => cases h
  rename_i zc hzc
  split at h
  case isFalse => cases h
  rename_i hc
  rw [Option.map_eq_some_iff] at h
  obtain ⟨l', hl, he⟩ := h
  cases he
  obtain ⟨i, h1, h2⟩ := zeroV_ok (ρ := ρ) hz
  have hcells := cells_ok (ρ := ρ) hzc
  have hfill := fillV_ok ρ _ _ _ _ hl
  rw [← hp] at hfill
  have hz0 : (arr ρ zc).size = zc.length := by simp [arr]
  have hcs : (Array.range (len * n)).map ((z.den ρ).cells[· % (z.den ρ).cells.size]!) = arr ρ ((List.range (len * n)).map fun j => zc.getD (j % zc.length) .nil) := by
    rw [hcells]
    apply Array.ext
    · simp [arr]
    · intro j hj hj2
      have hm : j % zc.length < zc.length := Nat.mod_lt _ hc.2
      simp [arr, hm]
  unfold Instr.buildSlice
  simp only [Sem.run_bind, run_underlying hu, Result.andThen_ok, sizeOf_ok hn]
  rw [if_neg (by omega)]
  by_cases h0 : len * n = 0
  · have hem : (#[] : Array Value) = arr ρ ((List.range (len * n)).map fun j => zc.getD (j % zc.length) .nil) := by rw [h0]; rfl
    have hrng : ∀ zs : Array Value, (Array.range (len * n)).map (zs[· % zs.size]!) = arr ρ ((List.range (len * n)).map fun j => zc.getD (j % zc.length) .nil) := fun zs => by rw [h0]; simp [arr]
    simp only [h0, if_true]
    rw [h0] at hrng hfill
    simp only [hrng, hfill, Sem.run_bind, newRow]
    rfl
  · simp only [h0, if_false, zeroValue, typeInfo, Sem.run_bind, run_program, Result.andThen_ok, h1, h2, Sem.run_pure]
    simp only [hcs, hfill, Sem.run_bind, newRow]
    rfl
end Go.Proofs.Ytmbhjfembfidnaa.Sx
end
section
namespace Go.Proofs.Ytmbhjfembfidnaa.Sx
open Go
variable {TT : Tb}

def kdV : V → Option Kd | .i k _ => some (.i k) | .b _ => some .b | .s _ => some .s | _ => none
def kdsV : List V → Option (List Kd)
  | [] => some []
  | v :: l => match kdV v, kdsV l with | some a, some b => some (a :: b) | _, _ => none
/-- Cells as a list's term. -/
def termV (kds : List Kd) : List V → Nat → Option E
  | [], _ => some .nil
  | v :: l, j => match kds.getD (j % kds.length) .any, v, termV kds l (j + 1) with
    | .i k, .i k' e, some r => if k = k' then some (.cons e r) else none
    | .s, .s e, some r => some (.cons e r)
    | .b, .b e, some r => some (.cons (.ite e (.c 1) (.c 0)) r)
    | _, _, _ => none
theorem termV_ok {ρ : Env} {kds : List Kd} : ∀ {l : List V} {j : Nat} {xs : E}, termV kds l j = some xs → l.map (V.den ρ) = ((xs.L ρ).zipIdx j).map fun p => cellV p.1 (kds.getD (p.2 % kds.length) .any)
  | [], _, _, h => by cases h; rfl
  | v :: l, j, xs, h => by
    simp only [termV] at h
    split at h
    · rename_i k k' e r hk hr
      split at h
      · rename_i hkk
        cases h
        subst hkk
        simp only [List.map_cons, L_cons, List.zipIdx_cons, hk, termV_ok hr, den_i, cellV]
      · cases h
    · rename_i e r hk hr
      cases h
      simp only [List.map_cons, L_cons, List.zipIdx_cons, hk, termV_ok hr, den_s, cellV]
    · rename_i e r hk hr
      cases h
      simp only [List.map_cons, L_cons, List.zipIdx_cons, hk, termV_ok hr, den_b, cellV, I_ite, I_c]
      cases e.B ρ <;> rfl
    · cases h
theorem cellsV_append {kds : List Kd} (xs ys : List (Int × ByteArray)) (h : xs.length % kds.length = 0) : cellsV kds (xs ++ ys) = cellsV kds xs ++ cellsV kds ys := by
  simp only [cellsV, List.zipIdx_append, List.map_append, Nat.zero_add]
  congr 1
  apply List.ext_getElem?
  intro i
  simp only [List.getElem?_map, List.getElem?_zipIdx, Option.map_map]
  cases ys[i]? with
  | none => rfl
  | some y =>
    simp only [Option.map_some, Function.comp, Nat.zero_add]
    have : (xs.length + i) % kds.length = i % kds.length := by rw [Nat.add_mod, h, Nat.zero_add, Nat.mod_mod]
    rw [this]
def mkLcat : E → E → E | .nil, b => b | a, .nil => a | .cons a l, b => .cons a (mkLcat l b) | a, b => .lcat a b
theorem mkLcat_ok (ρ : Env) : ∀ a b : E, (mkLcat a b).L ρ = a.L ρ ++ b.L ρ := by
  intro a
  induction a with
  | cons x l _ ih =>
    intro b
    unfold mkLcat
    split
    · simp_all
    · simp
    · rename_i e1 e2
      cases e1
      simp [ih]
    · simp
  | nil => intro b; unfold mkLcat; simp
  | _ => intro b; unfold mkLcat; split <;> simp_all
def noAny (kds : List Kd) : Bool := kds.all fun k => k != .any && k != .sl
theorem noAny_cell {kds : List Kd} (h : noAny kds = true) (h0 : 0 < kds.length) (xs : List (Int × ByteArray)) : ∀ u ∈ cellsV kds xs, u.oneCell' = true := fun u hu => by
  obtain ⟨j, hj⟩ := List.mem_iff_getElem?.1 hu
  rw [cellsV_get, Option.map_eq_some_iff] at hj
  obtain ⟨x, hx, rfl⟩ := hj
  have hlt : j % kds.length < kds.length := Nat.mod_lt _ h0
  have hk : kds.getD (j % kds.length) .any = kds[j % kds.length] := by simp [List.getD, hlt]
  rw [hk]
  unfold noAny at h
  rw [List.all_eq_true] at h
  have := h _ (List.getElem_mem hlt)
  cases hh : kds[j % kds.length] <;> first | rfl | (rw [hh] at this; simp at this)
theorem cellsV_length (kds : List Kd) (xs : List (Int × ByteArray)) : (cellsV kds xs).length = xs.length := by simp [cellsV]

/-- What is appended: how many, their kinds, the list. -/
def srcS (σ : St) (size : Nat) : V → Option (E × List Kd × E)
  | .sl b k [] (.c m) _ => match σ.look b with
    | some (.cells l _) =>
      match kdsV (((l.drop k).take (m.toNat * size)).take size) with
      | some kds => match termV kds ((l.drop k).take (m.toNat * size)) 0 with
        | some xs => if 0 ≤ m ∧ k + m.toNat * size ≤ l.length ∧ kds.length = size then some (.c m, kds, xs) else none
        | none => none
      | none => none
    | _ => none
  | .var y => match findR σ.R y with | some r => some (r.n, r.kds, r.xs) | none => none
  | _ => none
theorem srcS_ok {ρ : Env} {σ : St} {w0 w : World} (hs : Sees TT ρ σ w0 w) {size : Nat} {x : V} {m : E} {kds : List Kd} {xs : E} (h : srcS σ size x = some (m, kds, xs)) (h0 : 0 < kds.length) (hsz : kds.length = size) :
    0 ≤ m.I ρ ∧ (cellsV kds (xs.L ρ)).length = (m.I ρ).toNat * size ∧ ((x.den ρ = .slice none 0 0 ∧ m.I ρ = 0) ∨
      ∃ a c, x.den ρ = .slice (some a) (m.I ρ).toNat c ∧ ∀ j u, (cellsV kds (xs.L ρ))[j]? = some u → w.cell? (a.add j) = some u) := by
  unfold srcS at h
  split at h
  · rename_i b k z c
    split at h
    · rename_i l t hb
      split at h
      · rename_i kds' hk
        split at h
        · rename_i xs' hx
          split at h
          · rename_i hc
            cases h
            obtain ⟨c1, c2, c3⟩ := hc
            have ht := termV_ok (ρ := ρ) hx
            have ht' : ((l.drop k).take (z.toNat * size)).map (V.den ρ) = cellsV kds (xs.L ρ) := ht
            refine ⟨c1, ?_, .inr ⟨_, _, den_sl _ _ _ _ _ _, fun j u hj => ?_⟩⟩
            · rw [← ht']; simp only [List.length_map, List.length_take, List.length_drop, I_c]; omega
            · rw [addr_add]
              show w.cell? ⟨ρ.blk b, k + j, none⟩ = _
              rw [cell_at (hs.blk _ (look_mem hb))]
              rw [← ht', List.getElem?_map, List.getElem?_take] at hj
              split at hj
              · rw [List.getElem?_drop] at hj; exact hj
              · cases hj
          · cases h
        · cases h
      · cases h
    · cases h
  · rename_i y
    split at h
    · rename_i r hr
      cases h
      have hat := hs.row _ (findR_mem hr)
      simp only at hat
      rw [den_var]
      have hat0 := hat
      obtain ⟨g0, g1, g2⟩ := hat
      have hlen : (r.xs.L ρ).length = (r.n.I ρ).toNat * r.kds.length := by
        split at g2
        · rw [← g2.1, cellsV_length]
        · exact g2.1
      refine ⟨g0, by rw [cellsV_length, hlen, hsz], ?_⟩
      by_cases hn : r.n.I ρ = 0
      · split at g2
        · rcases g2.2 with ⟨e, -⟩ | ⟨g, cap, cur, -, -, -, -, -, off, hv, -⟩
          · exact .inl ⟨e, hn⟩
          · refine .inr ⟨_, _, hv, fun j u hj => ?_⟩
            have := (List.getElem?_eq_some_iff.1 hj).1
            rw [cellsV_length, hlen, hn] at this
            simp at this
        · rcases g2.2 with e | ⟨a, cap, hv, -, -, -, hc⟩
          · exact .inl e
          · exact .inr ⟨_, _, hv, hc⟩
      · have hpos : 0 < (r.n.I ρ).toNat * r.kds.length := Nat.mul_pos (by omega) h0
        obtain ⟨a, cap, y', hv, hsp, -, -⟩ := row_cell hat0 hpos
        refine .inr ⟨a, cap, hv, fun j u hj => ?_⟩
        have hjl := (List.getElem?_eq_some_iff.1 hj).1
        rw [cellsV_length, hlen] at hjl
        obtain ⟨a2, cap2, y2, hv2, hsp2, hy2, hc2⟩ := row_cell hat0 hjl
        rw [hv] at hv2
        cases hv2
        rw [cellsV_get, hy2] at hj
        have ha : a.add j = ⟨a.block, a.off + j, none⟩ := by
          obtain ⟨b, o, s⟩ := a
          simp only at hsp
          subst hsp
          exact Addr.add_lit b o j
        rw [ha, hc2]
        exact hj
    · cases h
  · cases h

/-- The row that is appended to. -/
def dstS (σ : St) (e : TypeId) (kds : List Kd) : V → Option (Option Nat × E × E)
  | .var v => match findR σ.R v with
    | some r => if r.own = true ∧ r.e = e ∧ r.kds = kds then some (some v, r.n, r.xs) else none
    | none => none
  | .nils => some (none, .c 0, .nil)
  | _ => none
def maxLenZ : Int := (maxLen : Nat)
/-- append: what is to be shown, the new state, the value. -/
def appendS0 (P : Program) (σ : St) (t : TypeId) (s x : V) : Option (List E × St × V) :=
  match P.underlying t with
  | some (.slice e) => match P.info? e, zeroV P e with
    | some i, some z => match z.cells with
      | some zc => match srcS σ i.size x with
        | some (m, kds, ys) => match dstS σ e kds s with
          | some (v, n, xs) =>
            if σ.ok = true ∧ σ.own ≤ σ.fr ∧ zc.length = i.size ∧ 0 < i.size ∧ kds.length = i.size ∧ noAny kds = true then
              some ([.le (mkAdd n m) (.c maxLenZ), .le (mkMul (mkAdd n m) (.c i.bytes)) (.c 140737488355328)],
                { σ with R := (σ.fr, ⟨true, e, kds, mkAdd n m, mkLcat xs ys⟩) :: σ.R.filter (fun p => v != some p.1), fr := σ.fr + 1 }, .var σ.fr)
            else none
          | none => none
        | none => none
      | none => none
    | _, _ => none
  | _ => none
def Env.nameV (ρ : Env) (k : Nat) (u : Value) : Env := { ρ with v := fun j => if j = k then u else ρ.v j }
theorem nameV_ext (ρ : Env) (k : Nat) (u : Value) : Ext k ρ (ρ.nameV k u) :=
  ⟨fun _ _ => rfl, fun _ _ => rfl, fun _ _ => rfl, fun j hj => by simp [Env.nameV]; omega, fun _ _ => rfl, rfl, rfl, rfl, fun _ _ => rfl, fun _ _ => rfl, rfl⟩
theorem appendS0_ok {P : Program} {ρ : Env} {σ σ' : St} {w0 w : World} (hs : Sees TT ρ σ w0 w) {t ty : TypeId} {s x v : V} {es : List E} (h : appendS0 P σ t s x = some (es, σ', v)) (he : ∀ e ∈ es, e.B ρ = true) :
    (σ'.T = σ.T ∧ σ'.M = σ.M) ∧ σ.ok = true ∧ ∃ ρ' w', Ext σ.fr ρ ρ' ∧ (Builtin.append_ #[t, t] ty #[s.den ρ, x.den ρ]).run P w = .ok (v.den ρ') w' ∧ Sees TT ρ' σ' w0 w' := by
  unfold appendS0 at h
  split at h
  case h_2 => cases h
  rename_i e hu
  split at h
  case h_2 => cases h
  rename_i i z hi hz
  split at h
  case h_2 => cases h
  rename_i zc hzc
  split at h
  case h_2 => cases h
  rename_i m kds ys hsrc
  split at h
  case h_2 => cases h
  rename_i q n xs hdst
  split at h
  case isFalse => cases h
  rename_i hc
  cases h
  obtain ⟨hok, hfr, c1, c2, c3, c4⟩ := hc
  refine ⟨⟨rfl, rfl⟩, hok, ?_⟩
  have h0 : 0 < kds.length := by omega
  obtain ⟨m0, ml, msrc⟩ := srcS_ok hs hsrc h0 c3
  have e1 := he _ List.mem_cons_self
  have e2 := he _ (List.mem_cons_of_mem _ List.mem_cons_self)
  simp only [B_le, I_c, mkAdd_ok, mkMul_ok, maxLenZ, decide_eq_true_eq] at e1 e2
  obtain ⟨i2, hi2, hz2⟩ := zeroV_ok (ρ := ρ) hz
  rw [hi] at hi2
  cases hi2
  have hzs : (z.den ρ).cells.size = i.size := by rw [cells_ok hzc]; simp [arr, c1]
  -- the row
  have hrow : 0 ≤ n.I ρ ∧ (xs.L ρ).length = (n.I ρ).toNat * i.size ∧ OwnAt w w0.heap.size e i.size (s.den ρ) (n.I ρ).toNat (cellsV kds (xs.L ρ)) ∧ (∀ b, (s.den ρ).ownBlock = some b → ∃ y r, q = some y ∧ (y, r) ∈ σ.R ∧ r.own = true ∧ s.den ρ = ρ.v y) := by
    unfold dstS at hdst
    split at hdst
    · rename_i y
      split at hdst
      · rename_i r hr
        split at hdst
        · rename_i hcc
          cases hdst
          obtain ⟨d1, rfl, rfl⟩ := hcc
          have hat := hs.row _ (findR_mem hr)
          obtain ⟨g0, g1, g2⟩ := hat
          simp only [d1, if_true] at g2
          refine ⟨g0, by rw [← cellsV_length r.kds, g2.1, c3], by rw [← c3]; exact g2, fun b _ => ⟨y, r, rfl, findR_mem hr, d1, rfl⟩⟩
        · cases hdst
      · cases hdst
    · cases hdst
      exact ⟨by simp, by simp, by simp only [L_nil, den_nils]; exact OwnAt.nil w _ e i.size, fun b hb => by cases hb⟩
    · cases hdst
  obtain ⟨n0, nl, hown, hblk⟩ := hrow
  have hnm : ((n.I ρ).toNat + (m.I ρ).toNat : Nat) = (n.I ρ + m.I ρ).toNat := by omega
  have h63 : (n.I ρ).toNat + (m.I ρ).toNat ≤ maxLen := by omega
  have hbytes : ((n.I ρ).toNat + (m.I ρ).toNat) * i.bytes ≤ 140737488355328 := by
    have h3 : (((n.I ρ).toNat + (m.I ρ).toNat : Nat) : Int) = n.I ρ + m.I ρ := by omega
    have : ((((n.I ρ).toNat + (m.I ρ).toNat) * i.bytes : Nat) : Int) ≤ 140737488355328 := by rw [Int.natCast_mul, h3]; exact e2
    exact Int.ofNat_le.1 this
  -- the run
  have hrun : ∃ v' w', (Builtin.append_ #[t, t] ty #[s.den ρ, x.den ρ]).run P w = .ok v' w' ∧ OwnAt w' w0.heap.size e i.size v' ((n.I ρ).toNat + (m.I ρ).toNat) (cellsV kds (xs.L ρ) ++ cellsV kds (ys.L ρ)) ∧ w.grownBy w' (s.den ρ).ownBlock ∧
      (∀ b, v'.ownBlock = some b → (s.den ρ).ownBlock = some b ∨ w.heap.size ≤ b) := by
    rcases msrc with ⟨hx, hm0⟩ | ⟨a, c, hx, hcells⟩
    · have hnil : cellsV kds (ys.L ρ) = [] := List.eq_nil_of_length_eq_zero (by rw [ml, hm0]; simp)
      refine ⟨_, w, by rw [hx]; exact own_append_none (P := P) hu hi hown, ?_, ⟨rfl, rfl, rfl, Nat.le_refl _, fun _ _ _ => rfl⟩, fun b hb => .inl hb⟩
      rw [hnil, hm0, List.append_nil]
      exact hown
    · rw [hx]
      exact own_append hu hi hz2 rfl rfl hzs c2 hown ml hcells (noAny_cell c4 h0 _) h63 hbytes hs.size
  obtain ⟨v', w', hr, ho, hgr, hw⟩ := hrun
  have hx := nameV_ext ρ σ.fr v'
  obtain ⟨-, hH, hF, hW, hR⟩ := ok_parts hok
  have hs' := sees_ext hx hH hF hW hR hs
  have hnew : (ρ.nameV σ.fr v').v σ.fr = v' := by simp [Env.nameV]
  have hold : ∀ p ∈ σ.R, (ρ.nameV σ.fr v').v p.1 = ρ.v p.1 := fun p hp => hx.v _ (hR p hp).1
  have hden : ∀ {a : E}, a.under σ.fr = true → a.I (ρ.nameV σ.fr v') = a.I ρ := fun h => I_ext hx h
  have hsb : ∀ b, (s.den ρ).ownBlock = some b → w0.heap.size ≤ b ∧ b < w.heap.size := fun b hb => hown.lt b hb
  have hsame : ∀ k, k < w.heap.size → some k ≠ (s.den ρ).ownBlock → w'.heap[k]? = w.heap[k]? := hgr.block
  have hqR : ∀ p ∈ σ.R.filter (fun p => q != some p.1), p ∈ σ.R ∧ q ≠ some p.1 := fun p hp => by
    obtain ⟨h1, h2⟩ := List.mem_filter.1 hp
    exact ⟨h1, by simpa using h2⟩
  have hoth : ∀ p ∈ σ.R, q ≠ some p.1 → ∀ b, (ρ.v p.1).ownBlock = some b → some b ≠ (s.den ρ).ownBlock := fun p hp hne b hb e => by
    obtain ⟨y, r, hq, hy, hro, hv⟩ := hblk b e.symm
    refine hs.rown (y, r) hy hro p hp (fun e2 => hne (by rw [hq, ← e2])) b (by rw [← hv]; exact e.symm) hb
  refine ⟨ρ.nameV σ.fr v', w', hx, by rw [hr, den_var, hnew], ?_⟩
  have hxsu : xs.L (ρ.nameV σ.fr v') = xs.L ρ ∧ n.I (ρ.nameV σ.fr v') = n.I ρ := by
    unfold dstS at hdst
    split at hdst
    · split at hdst
      · rename_i r hr
        split at hdst
        · cases hdst
          have := (hR _ (findR_mem hr)).2
          simp only [Row.under, Bool.and_eq_true] at this
          exact ⟨congrArg D.l (den_ext hx this.2), I_ext hx this.1⟩
        · cases hdst
      · cases hdst
    · cases hdst; exact ⟨rfl, rfl⟩
    · cases hdst
  have hysu : ys.L (ρ.nameV σ.fr v') = ys.L ρ ∧ m.I (ρ.nameV σ.fr v') = m.I ρ := by
    unfold srcS at hsrc
    split at hsrc
    · rename_i b k zz cc
      split at hsrc
      · rename_i l t' hb
        split at hsrc
        · rename_i kds' hk
          split at hsrc
          · rename_i xs' hxx
            split at hsrc
            · cases hsrc
              have h1 := termV_ok (ρ := ρ) hxx
              have h2 := termV_ok (ρ := ρ.nameV σ.fr v') hxx
              refine ⟨?_, rfl⟩
              have hu1 : ys.under σ.fr = true → ys.L (ρ.nameV σ.fr v') = ys.L ρ := fun h => congrArg D.l (den_ext hx h)
              refine hu1 ?_
              have hl := (hH _ (look_mem hb)).2
              simp only [HO.under] at hl
              have hgen : ∀ (l : List V) (j : Nat) (xs : E), l.all (V.under σ.fr) = true → termV kds l j = some xs → xs.under σ.fr = true := by
                intro l
                induction l with
                | nil => intro j xs _ h; cases h; rfl
                | cons v l ih =>
                  intro j xs hl h
                  simp only [List.all_cons, Bool.and_eq_true] at hl
                  simp only [termV] at h
                  split at h
                  · rename_i hr'
                    split at h
                    · cases h
                      simp only [E.under, Bool.and_eq_true]
                      exact ⟨hl.1, ih _ _ hl.2 hr'⟩
                    · cases h
                  · rename_i hr'
                    cases h
                    simp only [E.under, Bool.and_eq_true]
                    exact ⟨hl.1, ih _ _ hl.2 hr'⟩
                  · rename_i hr'
                    cases h
                    simp only [E.under, Bool.and_eq_true]
                    exact ⟨⟨⟨hl.1, trivial⟩, trivial⟩, ih _ _ hl.2 hr'⟩
                  · cases h
              refine hgen _ _ _ ?_ hxx
              rw [List.all_eq_true] at hl ⊢
              exact fun y hy => hl y (List.mem_of_mem_drop (List.mem_of_mem_take hy))
            · cases hsrc
          · cases hsrc
        · cases hsrc
      · cases hsrc
    · split at hsrc
      · rename_i r hr
        cases hsrc
        have := (hR _ (findR_mem hr)).2
        simp only [Row.under, Bool.and_eq_true] at this
        exact ⟨congrArg D.l (den_ext hx this.2), I_ext hx this.1⟩
      · cases hsrc
    · cases hsrc
  refine ⟨hgr.os.trans hs.os, hgr.tape.trans hs.tape, hgr.output.trans hs.output, Nat.le_trans hs.size hgr.size, fun k hk hb => ?_, fun p hp => ?_, hs'.sep, hs'.own, fun p hp => ?_, fun p hp b hb p2 hp2 => ?_, fun p hp hpo p2 hp2 hne b hb => ?_, hs'.fact, hs'.tab, fun p hp b hb => ?_⟩
  · rw [hsame k (Nat.lt_of_lt_of_le hk hs.size) (fun e => by have := hsb k e.symm; omega)]
    exact hs'.keep k hk hb
  · have hb2 := hs'.blk p hp
    obtain ⟨y, hy⟩ := HO.at_some hb2
    have hlt := (Array.getElem?_eq_some_iff.1 hy).1
    rw [hsame _ hlt (fun e => ?_)]
    · exact hb2
    · obtain ⟨y2, r2, -, hy2, -, hv2⟩ := hblk _ e.symm
      have := hs.rsep _ hy2 _ (by rw [← hv2]; exact e.symm) p hp
      rw [blk_ext hx (hH p hp).1] at this
      exact this rfl
  · rcases List.mem_cons.1 hp with rfl | hp
    · refine ⟨?_, h0, ?_⟩
      · simp only [mkAdd_ok, hxsu.2, hysu.2]; omega
      · simp only [if_true, mkAdd_ok, mkLcat_ok, hxsu.1, hxsu.2, hysu.1, hysu.2, hnew]
        rw [cellsV_append _ _ (by rw [nl, c3]; exact Nat.mul_mod_left _ _), ← hnm, c3]
        exact ho
    · obtain ⟨hp, hq⟩ := hqR p hp
      refine row_world (hs'.row p hp) hgr.size fun b hb => ?_
      rw [hold p hp] at hb
      exact hsame b (row_lt (hs.row p hp) hb) (hoth p hp hq b hb)
  · rcases List.mem_cons.1 hp with rfl | hp
    · simp only [hnew] at hb
      rcases hw b hb with h1 | h1
      · obtain ⟨y2, r2, -, hy2, -, hv2⟩ := hblk _ h1
        rw [blk_ext hx (hH p2 hp2).1]
        exact hs.rsep _ hy2 _ (by rw [← hv2]; exact h1) p2 hp2
      · obtain ⟨y, hy⟩ := HO.at_some (hs'.blk p2 hp2)
        have hlt := (Array.getElem?_eq_some_iff.1 hy).1
        omega
    · exact hs'.rsep p (hqR p hp).1 b hb p2 hp2
  · rcases List.mem_cons.1 hp with rfl | hp
    · rcases List.mem_cons.1 hp2 with rfl | hp2
      · exact absurd rfl hne
      · obtain ⟨hp2, hq2⟩ := hqR p2 hp2
        simp only [hnew] at hb
        rw [hold p2 hp2]
        rcases hw b hb with h1 | h1
        · exact fun e => hoth p2 hp2 hq2 b e h1.symm
        · exact fun e => by have := row_lt (hs.row p2 hp2) e; omega
    · obtain ⟨hp, hq⟩ := hqR p hp
      rw [hold p hp] at hb
      rcases List.mem_cons.1 hp2 with rfl | hp2
      · simp only [hnew]
        intro e
        rcases hw b e with h1 | h1
        · exact hoth p hp hq b hb h1.symm
        · have := row_lt (hs.row p hp) hb; omega
      · obtain ⟨hp2, -⟩ := hqR p2 hp2
        rw [hold p2 hp2]
        exact hs.rown p hp hpo p2 hp2 hne b hb
  · rcases List.mem_cons.1 hp with rfl | hp
    · simp only [hnew] at hb
      rcases hw b hb with h1 | h1
      · obtain ⟨y2, r2, -, hy2, -, hv2⟩ := hblk _ h1
        exact hs.src _ hy2 _ (by rw [← hv2]; exact h1)
      · exact .inl (Nat.le_trans hs.size h1)
    · exact hs'.src p (hqR p hp).1 b hb
/-- A block of known cells that is the call's own, made a row. -/
def promote (P : Program) (σ : St) (t : TypeId) : V → Option (St × V)
  | .sl b 0 [] (.c n) (.c cap) => match P.underlying t with
    | some (.slice e) => match P.info? e, zeroV P e, σ.look b with
      | some i, some z, some (.cells l t') => match z.cells with
        | some zc => match kdsV zc with
          | some kds => match termV kds (l.take (n.toNat * i.size)) 0 with
            | some xs => if σ.ok = true ∧ b.own σ.own = true ∧ t' = e ∧ (0 ≤ n ∧ n ≤ cap ∧ cap ≤ maxLenZ) ∧ l.length = cap.toNat * i.size ∧ kds.length = i.size ∧ 0 < i.size ∧ xs.under σ.fr = true then
                some ({ σ with H := σ.H.filter (fun p => p.1 != b), R := (σ.fr, ⟨true, e, kds, .c n, xs⟩) :: σ.R, fr := σ.fr + 1 }, .var σ.fr)
              else none
            | none => none
          | none => none
        | none => none
      | _, _, _ => none
    | _ => none
  | _ => none
theorem promote_ok {P : Program} {ρ : Env} {σ σ' : St} {w0 w : World} (hs : Sees TT ρ σ w0 w) {t : TypeId} {s v : V} (h : promote P σ t s = some (σ', v)) :
    (σ'.T = σ.T ∧ σ'.M = σ.M) ∧ σ.ok = true ∧ σ'.fr = σ.fr + 1 ∧ ∃ ρ', Ext σ.fr ρ ρ' ∧ v.den ρ' = s.den ρ ∧ Sees TT ρ' σ' w0 w := by
  unfold promote at h
  split at h
  case h_2 => cases h
  rename_i b n cap
  split at h
  case h_2 => cases h
  rename_i e hu
  split at h
  case h_2 => cases h
  rename_i i z l t' hi hz hb
  split at h
  case h_2 => cases h
  rename_i zc hzc
  split at h
  case h_2 => cases h
  rename_i kds hk
  split at h
  case h_2 => cases h
  rename_i xs hx
  split at h
  case isFalse => cases h
  rename_i hc
  cases h
  obtain ⟨hok, hown, rfl, ⟨n0, n1, n2⟩, hl, hkl, hsz, hxu⟩ := hc
  refine ⟨⟨rfl, rfl⟩, hok, rfl, ?_⟩
  have hv : (V.sl b 0 [] (.c n) (.c cap)).den ρ = .slice (some ⟨ρ.blk b, 0, none⟩) n.toNat cap.toNat := den_sl _ _ _ _ _ _
  generalize hU : (V.sl b 0 [] (.c n) (.c cap)).den ρ = u at hv ⊢
  have hex := nameV_ext ρ σ.fr u
  obtain ⟨-, hH, hF, hW, hR⟩ := ok_parts hok
  have hs' := sees_ext hex hH hF hW hR hs
  have hnew : (ρ.nameV σ.fr u).v σ.fr = u := by simp [Env.nameV]
  have hold : ∀ p ∈ σ.R, (ρ.nameV σ.fr u).v p.1 = ρ.v p.1 := fun p hp => hex.v _ (hR p hp).1
  have hbm := look_mem hb
  have hfil : ∀ q ∈ σ.H.filter (fun p => p.1 != b), q ∈ σ.H ∧ q.1 ≠ b := fun q hq => by
    obtain ⟨h1, h2⟩ := List.mem_filter.1 hq
    exact ⟨h1, by simpa using h2⟩
  have hob : u.ownBlock = some (ρ.blk b) := by rw [hv]; rfl
  have hbl : (ρ.nameV σ.fr u).blk b = ρ.blk b := blk_ext hex (hH _ hbm).1
  have hblk : w.heap[ρ.blk b]? = some (.cells (l.map (V.den ρ)).toArray t') := hs.blk _ hbm
  refine ⟨ρ.nameV σ.fr u, hex, by rw [den_var, hnew], hs'.os, hs'.tape, hs'.output, hs'.size, hs'.keep, fun p hp => hs'.blk p (hfil p hp).1, fun p hp q hq he => hs'.sep p (hfil p hp).1 q (hfil q hq).1 he, fun p hp ho => hs'.own p (hfil p hp).1 ho, fun p hp => ?_, fun p hp c hc q hq => ?_, fun p hp hpo q hq hne c hc => ?_, hs'.fact, hs'.tab, fun p hp c hc => ?_⟩
  · rcases List.mem_cons.1 hp with rfl | hp
    · unfold maxLenZ at n2
      have ht := termV_ok (ρ := ρ) hx
      have ht' : (l.take (n.toNat * i.size)).map (V.den ρ) = cellsV kds (xs.L ρ) := ht
      have hxl : xs.L (ρ.nameV σ.fr u) = xs.L ρ := congrArg D.l (den_ext hex hxu)
      refine ⟨by simpa using n0, (show 0 < kds.length by omega), ?_⟩
      simp only [if_true, hnew, I_c, hxl, ← ht', hkl]
      refine OwnAt.of_row ⟨?_, .inr ⟨ρ.blk b, cap.toNat, (l.map (V.den ρ)).toArray, hv, hs.own _ hbm hown, hblk, by omega, ?_, by simp [hl], ?_⟩⟩
      · simp only [List.length_map, List.length_take, hl]
        exact Nat.min_eq_left (Nat.mul_le_mul_right _ (by omega))
      · omega
      · simp [List.map_take]
    · exact hs'.row p hp
  · rcases List.mem_cons.1 hp with rfl | hp
    · simp only [hnew, hob, Option.some.injEq] at hc
      subst hc
      intro he
      exact (hfil q hq).2 (hs'.sep q (hfil q hq).1 _ hbm (by rw [he, hbl]))
    · exact hs'.rsep p hp c hc q (hfil q hq).1
  · rcases List.mem_cons.1 hp with rfl | hp
    · simp only [hnew, hob, Option.some.injEq] at hc
      subst hc
      rcases List.mem_cons.1 hq with rfl | hq
      · exact absurd rfl hne
      · intro he
        exact hs'.rsep q hq _ he _ hbm hbl
    · rcases List.mem_cons.1 hq with rfl | hq
      · simp only [hnew, hob]
        intro he
        cases he
        exact hs'.rsep p hp _ hc _ hbm hbl
      · exact hs'.rown p hp hpo q hq hne c hc
  · rcases List.mem_cons.1 hp with rfl | hp
    · simp only [hnew, hob, Option.some.injEq] at hc
      subst hc
      exact .inl (hs.own _ hbm hown)
    · exact hs'.src p hp c hc
/-- append: onto a row, or onto a block of known cells. -/
def appendS (P : Program) (σ : St) (t : TypeId) (s x : V) : Option (List E × St × V) :=
  match appendS0 P σ t s x with
  | some r => some r
  | none => match promote P σ t s with
    | some (σ', s') => match appendS0 P σ' t s' x with
      | some (es, τ, v) => if es.all (E.under σ.fr) && x.under σ.fr then some (es, τ, v) else none
      | none => none
    | none => none
theorem appendS_ok {P : Program} {ρ : Env} {σ σ' : St} {w0 w : World} (hs : Sees TT ρ σ w0 w) {t ty : TypeId} {s x v : V} {es : List E} (h : appendS P σ t s x = some (es, σ', v)) (he : ∀ e ∈ es, e.B ρ = true) :
    (σ'.T = σ.T ∧ σ'.M = σ.M) ∧ σ.ok = true ∧ ∃ ρ' w', Ext σ.fr ρ ρ' ∧ (Builtin.append_ #[t, t] ty #[s.den ρ, x.den ρ]).run P w = .ok (v.den ρ') w' ∧ Sees TT ρ' σ' w0 w' := by
  unfold appendS at h
  split at h
  · rename_i r hr
    cases h
    exact appendS0_ok hs hr he
  · split at h
    · rename_i σ1 s1 hp
      split at h
      · rename_i es1 τ v1 ha
        split at h
        · rename_i hun
          cases h
          simp only [Bool.and_eq_true, List.all_eq_true] at hun
          obtain ⟨⟨hT, hM⟩, hok, hfr, ρ1, hx1, hd, hs1⟩ := promote_ok hs hp
          obtain ⟨⟨hT2, hM2⟩, hok2, ρ2, w2, hx2, hr2, hs2⟩ := appendS0_ok (ty := ty) hs1 ha fun e hm => by rw [B_ext hx1 (hun.1 e hm)]; exact he e hm
          refine ⟨⟨hT2.trans hT, hM2.trans hM⟩, hok, ρ2, w2, hx1.trans hx2 (by omega), ?_, hs2⟩
          rw [← hd, ← den_extV hx1 hun.2]
          exact hr2
        · cases h
      · cases h
    · cases h
end Go.Proofs.Ytmbhjfembfidnaa.Sx
end
section
namespace Go.Proofs.Ytmbhjfembfidnaa.Sx
open Go
variable {TT : Tb}

theorem nameV_den (ρ : Env) (k : Nat) (u : Value) : ∀ e : E, e.den (ρ.nameV k u) = e.den ρ := by
  intro e
  induction e <;> simp only [E.den] <;> first | (simp_all; done) | rfl | simp_all [Env.nameV]
theorem nameV_I (ρ : Env) (k : Nat) (u : Value) (e : E) : e.I (ρ.nameV k u) = e.I ρ := congrArg D.i (nameV_den ρ k u e)
theorem nameV_L (ρ : Env) (k : Nat) (u : Value) (e : E) : e.L (ρ.nameV k u) = e.L ρ := congrArg D.l (nameV_den ρ k u e)
theorem nameV_B (ρ : Env) (k : Nat) (u : Value) (e : E) : e.B (ρ.nameV k u) = e.B ρ := congrArg D.b (nameV_den ρ k u e)
theorem nameV_at {ρ : Env} {k : Nat} {u : Value} {r : Row} {base : Nat} {w : World} {v : Value} : r.at (ρ.nameV k u) base w v ↔ r.at ρ base w v := by
  unfold Row.at; rw [nameV_I, nameV_L]

/-- Facts that were shown. -/
def news (F : List E) (es : List E) : List E := es.filter fun e => decideB F e != some true
theorem holds_news {ρ : Env} {F es : List E} (h : holds ρ F) (he : ∀ e ∈ es, e.B ρ = true) : holds ρ (news F es ++ F) := fun f hf => by
  rcases List.mem_append.1 hf with hf | hf
  · exact he f (List.mem_filter.1 hf).1
  · exact h f hf

/-- A row that is part of one that is there. -/
theorem sees_part {ρ : Env} {σ : St} {w0 w : World} (hs : Sees TT ρ σ w0 w) (hok : σ.ok = true) (u : Value) {r : Row} {R' : List (Nat × Row)} (hro : r.own = true → ∀ b, u.ownBlock = some b → ∀ q ∈ R', (ρ.v q.1).ownBlock ≠ some b) (hat : r.at ρ w0.heap.size w u) (hR' : ∀ p ∈ R', p ∈ σ.R)
    (hblk : ∀ b, u.ownBlock = some b → ∃ p ∈ σ.R, (ρ.v p.1).ownBlock = some b ∧ ∀ q ∈ R', q.1 = p.1 → q.2.own = false) {F' : List E} (hF' : holds ρ F') :
    Sees TT (ρ.nameV σ.fr u) { σ with R := (σ.fr, r) :: R', fr := σ.fr + 1, F := F' } w0 w := by
  obtain ⟨-, hH, hF, hW, hR⟩ := ok_parts hok
  have hx := nameV_ext ρ σ.fr u
  have hs' := sees_ext hx hH hF hW hR hs
  have hnew : (ρ.nameV σ.fr u).v σ.fr = u := by simp [Env.nameV]
  have hold : ∀ p ∈ σ.R, (ρ.nameV σ.fr u).v p.1 = ρ.v p.1 := fun p hp => hx.v _ (hR p hp).1
  refine ⟨hs'.os, hs'.tape, hs'.output, hs'.size, hs'.keep, hs'.blk, hs'.sep, hs'.own, fun p hp => ?_, fun p hp b hb q hq => ?_, fun p hp ho q hq hne b hb e => ?_, fun f hf => by rw [nameV_B]; exact hF' f hf, hs'.tab, fun p hp b hb => ?_⟩
  · rcases List.mem_cons.1 hp with rfl | hp
    · simp only [hnew]; exact nameV_at.2 hat
    · exact hs'.row p (hR' p hp)
  · rcases List.mem_cons.1 hp with rfl | hp
    · simp only [hnew] at hb
      obtain ⟨p2, hp2, hb2, -⟩ := hblk b hb
      rw [blk_ext hx (hH q hq).1]
      exact hs.rsep p2 hp2 b hb2 q hq
    · exact hs'.rsep p (hR' p hp) b hb q hq
  · rcases List.mem_cons.1 hp with rfl | hp
    · rcases List.mem_cons.1 hq with rfl | hq
      · exact hne rfl
      · simp only [hnew] at hb
        rw [hold q (hR' q hq)] at e
        exact hro ho b hb q hq e
    · have hpR := hR' p hp
      rcases List.mem_cons.1 hq with rfl | hq
      · simp only [hnew] at e
        rw [hold p hpR] at hb
        obtain ⟨p2, hp2, hb2, hq2⟩ := hblk b e
        by_cases hpp : p.1 = p2.1
        · have := hq2 p hp hpp
          rw [ho] at this; cases this
        · exact hs.rown p hpR ho p2 hp2 hpp b hb hb2
      · have hqR := hR' q hq
        rw [hold p hpR] at hb
        rw [hold q hqR] at e
        exact hs.rown p hpR ho q hqR hne b hb e
  · rcases List.mem_cons.1 hp with rfl | hp
    · simp only [hnew] at hb
      obtain ⟨p2, hp2, hb2, -⟩ := hblk b hb
      exact hs.src p2 hp2 b hb2
    · exact hs'.src p (hR' p hp) b hb

/-! ### Slicing -/
def boundE (d : E) : Option V → Option E
  | none => some d
  | some (.i _ e) => some e
  | _ => none
theorem bounds_val {P : Program} {ρ : Env} {n l u : E} {lo hi : Option V} {C : Nat} (hl : boundE (.c 0) lo = some l) (hu : boundE n hi = some u) (h0 : 0 ≤ l.I ρ) (h1 : l.I ρ ≤ u.I ρ) (h2 : u.I ρ ≤ n.I ρ) (hC : (n.I ρ).toNat ≤ C) (w : World) :
    (Instr.sliceBounds true (n.I ρ).toNat C (lo.map (V.den ρ)) (hi.map (V.den ρ)) none).run P w = .ok ((l.I ρ).toNat, (u.I ρ).toNat, C) w := by
  have e1 : ((match hi.map (V.den ρ) with | some v => Instr.sliceBound v C .sliceAcap | none => pure (n.I ρ).toNat) : Sem Nat).run P w = .ok (u.I ρ).toNat w := by
    cases hi with
    | none => cases hu; rfl
    | some v =>
      cases v <;> simp only [boundE, reduceCtorEq] at hu
      cases hu
      simp only [Option.map_some, den_i, Instr.sliceBound, asIntOf, Sem.run_bind, Sem.run_pure, Result.andThen_ok, Sem.run_ite]
      rw [if_pos (by omega)]
  have e2 : ((match lo.map (V.den ρ) with | some v => Instr.sliceBound v (u.I ρ).toNat .sliceB | none => pure 0) : Sem Nat).run P w = .ok (l.I ρ).toNat w := by
    cases lo with
    | none => cases hl; rfl
    | some v =>
      cases v <;> simp only [boundE, reduceCtorEq] at hl
      cases hl
      simp only [Option.map_some, den_i, Instr.sliceBound, asIntOf, Sem.run_bind, Sem.run_pure, Result.andThen_ok, Sem.run_ite]
      rw [if_pos (by omega)]
  unfold Instr.sliceBounds
  cases hi with
  | none =>
    cases lo with
    | none =>
      simp only [Option.map_none, Sem.run_bind, Sem.run_pure, Result.andThen_ok] at e1 e2 ⊢
      injection e1 with e1; injection e2 with e2
      rw [e1, ← e2]
    | some l =>
      simp only [Option.map_none, Option.map_some, Sem.run_bind, Sem.run_pure, Result.andThen_ok, Option.isSome_none, Bool.false_eq_true, if_false] at e1 e2 ⊢
      injection e1 with e1
      rw [e1, e2]; rfl
  | some u =>
    cases lo with
    | none =>
      simp only [Option.map_none, Option.map_some, Sem.run_bind, Sem.run_pure, Result.andThen_ok, if_true] at e1 e2 ⊢
      injection e2 with e2
      rw [e1, ← e2]; rfl
    | some l =>
      simp only [Option.map_some, Sem.run_bind, Sem.run_pure, Result.andThen_ok, Option.isSome_none, Bool.false_eq_true, if_false, if_true] at e1 e2 ⊢
      rw [e1]
      simp only [Result.andThen_ok, e2]

def sliceS (P : Program) (σ : St) (t : TypeId) (v : Nat) (lo hi : Option V) : Option (List E × St × V) :=
  match P.underlying t, findR σ.R v with
  | some (.slice elem), some r =>
    match sizeV P elem, boundE (.c 0) lo, boundE r.n hi with
    | some s, some l, some u =>
      if σ.ok = true ∧ s = r.kds.length then
        some ([.le (.c 0) l, .le l u, .le u r.n],
          { σ with R := (σ.fr, ⟨r.own, r.e, r.kds, mkSub u l, if l = .c 0 ∧ u = r.n then r.xs else .lsub r.xs (mkMul l (.c (s : Nat))) (mkMul u (.c (s : Nat)))⟩) :: σ.R.filter (fun p => p.1 != v || (!p.2.own && !r.own)), fr := σ.fr + 1,
                    F := news σ.F [.le (.c 0) l, .le l u, .le u r.n] ++ σ.F }, .var σ.fr)
      else none
    | _, _, _ => none
  | _, _ => none
theorem cellsV_sub {kds : List Kd} {xs : List (Int × ByteArray)} (a b j : Nat) (ha : a % kds.length = 0) {u : Value} (h : (cellsV kds ((xs.take b).drop a))[j]? = some u) : (cellsV kds xs)[a + j]? = some u := by
  rw [cellsV_get] at h ⊢
  rw [Option.map_eq_some_iff] at h
  obtain ⟨x, hx, rfl⟩ := h
  rw [List.getElem?_drop, List.getElem?_take] at hx
  split at hx
  · rw [hx, Option.map_some]
    have : (a + j) % kds.length = j % kds.length := by rw [Nat.add_mod, ha, Nat.zero_add, Nat.mod_mod]
    rw [this]
  · cases hx
theorem sliceS_ok {P : Program} {ρ : Env} {σ σ' : St} {w0 w : World} (hs : Sees TT ρ σ w0 w) {t : TypeId} {v : Nat} {lo hi : Option V} {x : V} {es : List E} (h : sliceS P σ t v lo hi = some (es, σ', x)) (he : ∀ e ∈ es, e.B ρ = true) :
    (σ'.T = σ.T ∧ σ'.M = σ.M) ∧ σ.ok = true ∧ ∃ ρ', Ext σ.fr ρ ρ' ∧ (Instr.sliceAt t (ρ.v v) (lo.map (V.den ρ)) (hi.map (V.den ρ)) none).run P w = .ok (x.den ρ') w ∧ Sees TT ρ' σ' w0 w := by
  unfold sliceS at h
  split at h
  case h_2 => cases h
  rename_i elem r hu hr
  split at h
  case h_2 => cases h
  rename_i s l u hsz hl hh
  split at h
  case isFalse => cases h
  rename_i hc
  cases h
  obtain ⟨hok, rfl⟩ := hc
  refine ⟨⟨rfl, rfl⟩, hok, ?_⟩
  have hF' := holds_news hs.fact he
  have h0 := he _ List.mem_cons_self
  have h1 := he _ (List.mem_cons_of_mem _ List.mem_cons_self)
  have h2 := he _ (List.mem_cons_of_mem _ (List.mem_cons_of_mem _ List.mem_cons_self))
  simp only [B_le, I_c, decide_eq_true_eq] at h0 h1 h2
  have hmem := findR_mem hr
  have hat := hs.row _ hmem
  simp only at hat
  have hat0 := hat
  obtain ⟨g0, g1, g2⟩ := hat
  -- the list
  have hlen : (r.xs.L ρ).length = (r.n.I ρ).toNat * r.kds.length := by
    split at g2
    · rw [← g2.1, cellsV_length]
    · exact g2.1
  generalize hX : (if l = E.c 0 ∧ u = r.n then r.xs else E.lsub r.xs (mkMul l (.c (r.kds.length : Nat))) (mkMul u (.c (r.kds.length : Nat)))) = X
  have hXL : X.L ρ = ((r.xs.L ρ).take ((u.I ρ).toNat * r.kds.length)).drop ((l.I ρ).toNat * r.kds.length) := by
    rw [← hX]
    split
    · rename_i hcc
      obtain ⟨rfl, rfl⟩ := hcc
      simp only [I_c, Int.toNat_zero, Nat.zero_mul, List.drop_zero]
      rw [List.take_of_length_le (by rw [hlen]; exact Nat.le_refl _)]
    · simp only [L_lsub, mkMul_ok, I_c]
      have e1 : ∀ z : Int, 0 ≤ z → (z * (r.kds.length : Nat)).toNat = z.toNat * r.kds.length := fun z hz => by
        obtain ⟨m, rfl⟩ := Int.eq_ofNat_of_zero_le hz
        rw [← Int.natCast_mul, Int.toNat_natCast, Int.toNat_natCast]
      rw [e1 _ h0, e1 _ (by omega)]
  have hXlen : (X.L ρ).length = ((u.I ρ).toNat - (l.I ρ).toNat) * r.kds.length := by
    rw [hXL, List.length_drop, List.length_take, hlen, Nat.sub_mul, Nat.min_eq_left (Nat.mul_le_mul_right _ (by omega))]
  have hsub : (u.I ρ - l.I ρ).toNat = (u.I ρ).toNat - (l.I ρ).toNat := by omega
  -- the slice as it is
  have hval : (ρ.v v = .slice none 0 0 ∧ r.n.I ρ = 0) ∨ ∃ a cap, ρ.v v = .slice (some a) (r.n.I ρ).toNat cap ∧ a.spot = none ∧ (r.n.I ρ).toNat ≤ cap ∧ cap ≤ maxLen := by
    split at g2
    · rcases g2.2 with ⟨e, e0⟩ | ⟨g, cap, cur, -, -, -, hnc, hcm, off, hv, -⟩
      · exact .inl ⟨e, by omega⟩
      · exact .inr ⟨_, cap, hv, rfl, hnc, hcm⟩
    · rcases g2.2 with e | ⟨a, cap, hv, hsp, -, hnc, -⟩
      · exact .inl e
      · exact .inr ⟨a, cap, hv, hsp, hnc⟩
  rcases hval with ⟨hv, hn⟩ | ⟨a, cap, hv, hsp, hnc, hcm⟩
  · -- nothing
    have hl0 : l.I ρ = 0 := by omega
    have hu0 : u.I ρ = 0 := by omega
    refine ⟨ρ.nameV σ.fr (.slice none 0 0), nameV_ext _ _ _, ?_, ?_⟩
    · have e1 := bounds_val (P := P) (C := 0) hl hh h0 h1 h2 (by omega) w
      rw [hn] at e1
      simp only [Int.toNat_zero] at e1
      rw [hv]
      simp only [Instr.sliceAt, Instr.slice, Sem.run_bind, run_underlying hu, Result.andThen_ok, e1, sizeOf_ok hsz, Sem.run_pure, den_var, hl0, hu0]
      simp [Env.nameV]
    · refine sees_part hs hok _ (fun _ b hb => by cases hb) ?_ (fun p hp => (List.mem_filter.1 hp).1) (fun b hb => by cases hb) hF'
      refine ⟨by simp only [mkSub_ok]; omega, g1, ?_⟩
      simp only [mkSub_ok, hXlen, hl0, hu0]
      have hXn : X.L ρ = [] := List.eq_nil_of_length_eq_zero (by rw [hXlen, hl0, hu0]; simp)
      split
      · rw [hXn]; exact OwnAt.nil w _ _ _
      · simp
  · -- an address
    obtain ⟨aB, aO, aS⟩ := a
    simp only at hsp
    subst hsp
    have haddr : ∀ j, (⟨aB, aO, none⟩ : Addr).add j = ⟨aB, aO + j, none⟩ := fun j => Addr.add_lit _ _ _
    generalize hA : (if cap = (l.I ρ).toNat then (⟨aB, aO, none⟩ : Addr) else ⟨aB, aO + (l.I ρ).toNat * r.kds.length, none⟩) = A
    have hAb : A.block = aB ∧ A.spot = none := by rw [← hA]; split <;> exact ⟨rfl, rfl⟩
    refine ⟨ρ.nameV σ.fr (.slice (some A) ((u.I ρ).toNat - (l.I ρ).toNat) (cap - (l.I ρ).toNat)), nameV_ext _ _ _, ?_, ?_⟩
    · rw [hv]
      simp only [Instr.sliceAt, Instr.slice, Sem.run_bind, run_underlying hu, Result.andThen_ok, bounds_val (P := P) hl hh h0 h1 h2 hnc w, sizeOf_ok hsz, Sem.run_pure, den_var]
      simp only [Env.nameV, if_true, Option.map_some, haddr]
      rw [← hA]
      congr 3
      by_cases hcl : cap = (l.I ρ).toNat <;> simp [hcl]
    · refine sees_part hs hok _ (fun ho b hb q hq => ?_) ?_ (fun p hp => (List.mem_filter.1 hp).1) (fun b hb => ⟨_, hmem, by rw [hv]; rw [← hb]; show some aB = some A.block; rw [hAb.1], fun q hq hqv => ?_⟩) hF'
      · simp only at ho
        have hq2 := (List.mem_filter.1 hq).2
        simp only [ho, Bool.not_true, Bool.and_false, Bool.or_false, bne_iff_ne, ne_eq] at hq2
        have hbb : (ρ.v v).ownBlock = some b := by rw [hv, ← hb]; show some aB = some A.block; rw [hAb.1]
        exact hs.rown _ hmem ho q (List.mem_filter.1 hq).1 (fun e => hq2 e.symm) b hbb
      · refine ⟨by simp only [mkSub_ok]; omega, g1, ?_⟩
        simp only [mkSub_ok, hsub]
        by_cases ho : r.own = true
        · rw [if_pos ho] at g2 ⊢
          rw [hv] at g2
          rw [hXL]
          have hcs := g2.sub (lo := (l.I ρ).toNat) (hi := (u.I ρ).toNat) (by omega) (by omega) (off' := A.off) (by rw [← hA]; by_cases hcl : cap = (l.I ρ).toNat <;> simp [hcl])
          have hAe : (⟨aB, A.off, none⟩ : Addr) = A := by obtain ⟨x1, x2, x3⟩ := A; simp only at hAb; rw [hAb.1, hAb.2]
          rw [hAe] at hcs
          have e1 : cellsV r.kds (((r.xs.L ρ).take ((u.I ρ).toNat * r.kds.length)).drop ((l.I ρ).toNat * r.kds.length)) = ((cellsV r.kds (r.xs.L ρ)).take ((u.I ρ).toNat * r.kds.length)).drop ((l.I ρ).toNat * r.kds.length) := by
            apply List.ext_getElem?
            intro j
            rw [cellsV_get, List.getElem?_drop, List.getElem?_drop, List.getElem?_take, List.getElem?_take, cellsV_get]
            split
            · rw [Nat.mul_comm, Nat.mul_add_mod]
            · rfl
          rw [e1]
          exact hcs
        rw [if_neg ho]
        refine ⟨hXlen, .inr ⟨A, _, rfl, hAb.2, by rw [hAb.1]; exact row_lt hat0 (by rw [hv]; rfl), ⟨by omega, by omega⟩, fun j y hj => ?_⟩⟩
        have hjl := (List.getElem?_eq_some_iff.1 hj).1
        rw [cellsV_length, hXlen] at hjl
        rw [hXL] at hj
        have hj2 := cellsV_sub ((l.I ρ).toNat * r.kds.length) ((u.I ρ).toNat * r.kds.length) j (Nat.mul_mod_left _ _) hj
        have hlu : (l.I ρ).toNat < (u.I ρ).toNat := by
          rcases Nat.lt_or_ge (l.I ρ).toNat (u.I ρ).toNat with hh | hh
          · exact hh
          · rw [Nat.sub_eq_zero_of_le hh, Nat.zero_mul] at hjl; omega
        have hcl : cap ≠ (l.I ρ).toNat := by omega
        rw [← hA, if_neg hcl, Addr.add_lit]
        have hidx : (l.I ρ).toNat * r.kds.length + j < (r.n.I ρ).toNat * r.kds.length := by
          have := (List.getElem?_eq_some_iff.1 hj2).1
          rwa [cellsV_length, hlen] at this
        obtain ⟨a2, cap2, y2, hv2, hsp2, hy2, hc2⟩ := row_cell hat0 hidx
        rw [hv] at hv2
        cases hv2
        rw [cellsV_get, hy2] at hj2
        rw [Nat.add_assoc, hc2]
        exact hj2
      · have := (List.mem_filter.1 hq).2
        simp only [Bool.or_eq_true, bne_iff_ne, ne_eq] at this
        rcases this with h3 | h3
        · exact absurd hqv h3
        · simp only [Bool.and_eq_true, Bool.not_eq_true'] at h3
          exact h3.1

theorem at_read {ρ ρ' : Env} {r r' : Row} {base base' : Nat} {w : World} {v : Value} (h : r.at ρ base w v) (ho : r'.own = false) (hk : r'.kds = r.kds) (hn : r'.n.I ρ' = r.n.I ρ) (hx : r'.xs.L ρ' = r.xs.L ρ) : r'.at ρ' base' w v := by
  obtain ⟨h0, h1, h2⟩ := h
  refine ⟨by rw [hn]; exact h0, by rw [hk]; exact h1, ?_⟩
  rw [hk, hn, hx]
  simp only [ho, Bool.false_eq_true, if_false]
  split at h2
  · have hown := h2
    obtain ⟨e1, e2⟩ := h2
    refine ⟨by rw [← e1, cellsV_length], ?_⟩
    rcases e2 with ⟨rfl, e0⟩ | ⟨g, cap, cur, -, hbg, hh, hnc, hcm, off, rfl, hcs, ht⟩
    · exact .inl ⟨rfl, by omega⟩
    · exact .inr ⟨_, cap, rfl, rfl, (Array.getElem?_eq_some_iff.1 hh).1, ⟨hnc, hcm⟩, hown.cells⟩
  · exact h2
/-- A row that more than one slice shows is only read. -/
def St.share (σ : St) (v : Nat) : St := { σ with R := σ.R.map fun p => if p.1 == v then (p.1, { p.2 with own := false }) else p }
theorem share_mem {σ : St} {v : Nat} {p : Nat × Row} (hp : p ∈ (σ.share v).R) : ∃ q ∈ σ.R, p.1 = q.1 ∧ (p = q ∨ p.2 = { q.2 with own := false }) := by
  obtain ⟨q, hq, rfl⟩ := List.mem_map.1 hp
  refine ⟨q, hq, ?_⟩
  split
  · exact ⟨rfl, .inr rfl⟩
  · exact ⟨rfl, .inl rfl⟩
theorem sees_share {ρ : Env} {σ : St} {w0 w : World} (hs : Sees TT ρ σ w0 w) (v : Nat) : Sees TT ρ (σ.share v) w0 w := by
  refine ⟨hs.os, hs.tape, hs.output, hs.size, hs.keep, hs.blk, hs.sep, hs.own, fun p hp => ?_, fun p hp b hb q hq => ?_, fun p hp ho q hq hne b hb => ?_, hs.fact, hs.tab, fun p hp b hb => ?_⟩
  · obtain ⟨q, hq, h1, h2⟩ := share_mem hp
    rw [h1]
    rcases h2 with rfl | h2
    · exact hs.row p hq
    · exact at_read (hs.row q hq) (by rw [h2]) (by rw [h2]) (by rw [h2]) (by rw [h2])
  · obtain ⟨p', hp', h1, -⟩ := share_mem hp
    rw [h1] at hb
    exact hs.rsep p' hp' b hb q hq
  · obtain ⟨p', hp', h1, h2⟩ := share_mem hp
    obtain ⟨q', hq', h3, -⟩ := share_mem hq
    have ho' : p'.2.own = true := by
      rcases h2 with rfl | h2
      · exact ho
      · rw [h2] at ho; cases ho
    rw [h1] at hb
    rw [h3]
    exact hs.rown p' hp' ho' q' hq' (by rw [← h1, ← h3]; exact hne) b hb
  · obtain ⟨p', hp', h1, -⟩ := share_mem hp
    rw [h1] at hb
    exact hs.src p' hp' b hb

/-! ### Storing -/
/-- The flat index of a pointer into a row. -/
def idxS (F : List E) (r : Row) (k : Nat) : List (Nat × E) → Option E
  | [] => if 0 < r.kds.length ∧ decideB F (.lt (.c ((k / r.kds.length : Nat) : Int)) r.n) = some true then some (.c k) else none
  | [(s, e)] => if s = r.kds.length ∧ k < s ∧ decideB F (.le (.c 0) e) = some true ∧ decideB F (.lt e r.n) = some true then some (mkAdd (mkMul e (.c s)) (.c k)) else none
  | _ => none
theorem idxS_ok {ρ : Env} {F : List E} (h : holds ρ F) {r : Row} {k : Nat} {l : List (Nat × E)} {j : E} (hi : idxS F r k l = some j) :
    j.I ρ = (offN ρ k l : Nat) ∧ offN ρ k l % r.kds.length = k % r.kds.length ∧ 0 < r.kds.length ∧ ∀ m, k % r.kds.length + m ≤ r.kds.length → offN ρ k l + m ≤ (r.n.I ρ).toNat * r.kds.length := by
  unfold idxS at hi
  split at hi
  · split at hi
    · rename_i hc
      cases hi
      have hlt := decideB_ok h hc.2
      simp only [B_lt, I_c, decide_eq_true_eq] at hlt
      refine ⟨rfl, rfl, hc.1, fun m hm => ?_⟩
      show k + m ≤ _
      have h1 : k / r.kds.length + 1 ≤ (r.n.I ρ).toNat := by omega
      have h2 := Nat.div_add_mod k r.kds.length
      have h4 : (k / r.kds.length + 1) * r.kds.length ≤ (r.n.I ρ).toNat * r.kds.length := Nat.mul_le_mul_right _ h1
      rw [Nat.add_mul, Nat.one_mul, Nat.mul_comm] at h4
      omega
    · cases hi
  · rename_i s e
    split at hi
    · rename_i hc
      cases hi
      obtain ⟨rfl, hk, h0, h1⟩ := hc
      have h0 := decideB_ok h h0
      have h1 := decideB_ok h h1
      simp only [B_le, B_lt, I_c, decide_eq_true_eq] at h0 h1
      have ho : offN ρ k [(r.kds.length, e)] = k + (e.I ρ).toNat * r.kds.length := by simp [offN]
      refine ⟨?_, ?_, by omega, fun m hm => ?_⟩
      · rw [ho, mkAdd_ok, mkMul_ok]
        simp only [I_c]
        obtain ⟨z, hz⟩ := Int.eq_ofNat_of_zero_le h0
        rw [hz, Int.toNat_natCast, Int.natCast_add, Int.natCast_mul, Int.add_comm]
      · rw [ho, Nat.add_mul_mod_self_right]
      · rw [ho]
        rw [Nat.mod_eq_of_lt hk] at hm
        have h2 : (e.I ρ).toNat + 1 ≤ (r.n.I ρ).toNat := by omega
        have h4 : ((e.I ρ).toNat + 1) * r.kds.length ≤ (r.n.I ρ).toNat * r.kds.length := Nat.mul_le_mul_right _ h2
        rw [Nat.add_mul, Nat.one_mul] at h4
        omega
    · cases hi
  · cases hi
def termC : Kd → V → Option E
  | .i k, .i k' e => if k = k' then some e else none
  | .s, .s e => some e
  | .b, .b e => some (.ite e (.c 1) (.c 0))
  | _, _ => none
theorem termC_ok {ρ : Env} {kd : Kd} {v : V} {e : E} (h : termC kd v = some e) : v.den ρ = cellV (e.I ρ, e.S ρ) kd ∧ (v.den ρ).oneCell' = true := by
  unfold termC at h
  split at h
  · split at h
    · rename_i hk
      cases h
      subst hk
      exact ⟨rfl, rfl⟩
    · cases h
  · cases h; exact ⟨rfl, rfl⟩
  · rename_i e
    cases h
    refine ⟨?_, rfl⟩
    simp only [den_b, cellV, I_ite, I_c]
    cases e.B ρ <;> rfl
  · cases h
def termsC (kds : List Kd) (k : Nat) : List V → Option (List E)
  | [] => some []
  | v :: l => match termC (kds.getD (k % kds.length) .any) v, termsC kds (k + 1) l with | some a, some b => some (a :: b) | _, _ => none
def setsE (xs j : E) : List E → E
  | [] => xs
  | e :: l => setsE (.lset xs j e) (mkAdd j (.c 1)) l
theorem cellsV_set (kds : List Kd) (xs : List (Int × ByteArray)) (j : Nat) (x : Int × ByteArray) : cellsV kds (xs.set j x) = (cellsV kds xs).set j (cellV x (kds.getD (j % kds.length) .any)) := by
  apply List.ext_getElem?
  intro i
  rw [cellsV_get, List.getElem?_set, List.getElem?_set, cellsV_length, cellsV_get]
  by_cases hij : j = i
  · subst hij
    simp only [if_true]
    split <;> simp
  · simp only [hij, if_false]
theorem rowStores {P : Program} {ρ : Env} {base : Nat} {te : TypeId} {kds : List Kd} {g n cap o off : Nat} : ∀ (vs : List V) (es : List E) (xs jE : E) (j k i : Nat) (w : World),
    OwnAt w base te kds.length (.slice (some ⟨g, off, none⟩) n cap) n (cellsV kds (xs.L ρ)) → jE.I ρ = (j : Nat) → o + i = off + j → termsC kds k vs = some es → k % kds.length = j % kds.length → j + vs.length ≤ n * kds.length →
    ∃ w', (storeCells ⟨g, o, none⟩ (vs.map (V.den ρ)) i).run P w = .ok () w' ∧ OwnAt w' base te kds.length (.slice (some ⟨g, off, none⟩) n cap) n (cellsV kds ((setsE xs jE es).L ρ)) ∧ w.grownBy w' (some g)
  | [], es, xs, jE, j, k, i, w, hown, hj, ho, ht, hk, hl => by
    cases ht
    exact ⟨w, rfl, hown, ⟨rfl, rfl, rfl, Nat.le_refl _, fun _ _ _ => rfl⟩⟩
  | v :: vs, es, xs, jE, j, k, i, w, hown, hj, ho, ht, hk, hl => by
    simp only [termsC] at ht
    split at ht
    · rename_i a b ha hb
      cases ht
      obtain ⟨hv, h1⟩ := termC_ok (ρ := ρ) ha
      simp only [List.length_cons] at hl
      have hjlt : j < n * kds.length := by omega
      have hlen := hown.1
      have hjl : j < (cellsV kds (xs.L ρ)).length := by rw [hlen]; exact hjlt
      have hcell : w.cell? ⟨g, off + j, none⟩ = some ((cellsV kds (xs.L ρ))[j]'hjl) := by
        rw [hown.cellAt j hjlt, List.getElem?_eq_getElem hjl]
      have hfr := hown.frozenAt (off + j)
      have hadd : (Addr.add ⟨g, o, none⟩ i) = ⟨g, off + j, none⟩ := by rw [← ho]; exact Addr.add_lit g o i
      obtain ⟨hown2, hgr⟩ := hown.stored j hjlt (v.den ρ)
      have hset : (cellsV kds (xs.L ρ)).set j (v.den ρ) = cellsV kds ((E.lset xs jE a).L ρ) := by
        rw [L_lset, cellsV_set, hj, Int.toNat_natCast, hv, hk]
      rw [hset] at hown2
      have q1 : (mkAdd jE (.c 1)).I ρ = ((j + 1 : Nat) : Int) := by rw [mkAdd_ok, hj]; simp
      have q2 : (k + 1) % kds.length = (j + 1) % kds.length := by rw [Nat.add_mod, hk, ← Nat.add_mod]
      have q3 : o + (i + 1) = off + (j + 1) := by omega
      have q4 : j + 1 + vs.length ≤ n * kds.length := by omega
      obtain ⟨w', hr, ho2, hg2⟩ := rowStores (o := o) vs b (.lset xs jE a) (mkAdd jE (.c 1)) (j + 1) (k + 1) (i + 1) _ hown2 q1 q3 hb q2 q4
      refine ⟨w', ?_, ho2, ⟨hg2.os.trans hgr.os, hg2.tape.trans hgr.tape, hg2.output.trans hgr.output, Nat.le_trans hgr.size hg2.size, fun q hq hqg => ?_⟩⟩
      · simp only [List.map_cons, storeCells, Sem.run_bind, hadd, run_store P w _ _ .plain h1, hcell, hfr, Bool.false_eq_true, if_false, Result.andThen_ok]
        exact hr
      · rw [hg2.block q (Nat.lt_of_lt_of_le hq hgr.size) hqg, hgr.block q hq hqg]
    · cases ht
def storeRS (P : Program) (σ : St) (t : TypeId) (p v : V) : Option St :=
  match p, v.cells, sizeV P t with
  | .rptr x k l, some cs, some n => match findR σ.R x with
    | some r => match idxS σ.F r k l, termsC r.kds k cs with
      | some j, some es => if r.own = true ∧ cs.length = n ∧ k % r.kds.length + cs.length ≤ r.kds.length ∧ 0 < cs.length then some { σ with R := (x, { r with xs := setsE r.xs j es }) :: σ.R.filter (fun p => p.1 != x) } else none
      | _, _ => none
    | none => none
  | _, _, _ => none
theorem storeRS_ok {P : Program} {ρ : Env} {σ σ' : St} {w0 w : World} (hs : Sees TT ρ σ w0 w) {t : TypeId} {a x : V} (hr : storeRS P σ t a x = some σ') :
    (σ'.T = σ.T ∧ σ'.M = σ.M) ∧ ∃ w', (Instr.storeAt t (a.den ρ) (x.den ρ)).run P w = .ok () w' ∧ Sees TT ρ σ' w0 w' := by
  unfold storeRS at hr
  split at hr
  case h_2 => cases hr
  rename_i y k l cs n hcs hn
  split at hr
  case h_2 => cases hr
  rename_i r hf
  split at hr
  case h_2 => cases hr
  rename_i j es hj hes
  split at hr
  case isFalse => cases hr
  rename_i hc
  cases hr
  obtain ⟨hro, hcn, hck, hc0⟩ := hc
  refine ⟨⟨rfl, rfl⟩, ?_⟩
  have hmem := findR_mem hf
  have hat := hs.row _ hmem
  simp only at hat
  obtain ⟨i1, i2, i3, i4⟩ := idxS_ok hs.fact hj
  have hroom := i4 _ hck
  obtain ⟨g0, g1, g2⟩ := hat
  simp only [hro, if_true] at g2
  rcases g2.2 with ⟨-, e0⟩ | ⟨g, cap, cur, -, hbg, hh, -, -, off, hv, hrest⟩
  · rw [e0, Nat.zero_mul] at hroom; omega
  have hown := g2
  rw [hv] at hown
  obtain ⟨w', hrun, hown', hgr⟩ := rowStores (P := P) (ρ := ρ) (o := off + offN ρ k l) cs es r.xs j (offN ρ k l) k 0 w hown i1 (by omega) hes i2.symm hroom
  refine ⟨w', ?_, ?_⟩
  · have hsize : (x.den ρ).cells.size = n := by rw [cells_ok hcs]; simp [arr, hcn]
    have hL : (x.den ρ).cells.toList = cs.map (V.den ρ) := by rw [cells_ok hcs]; rfl
    simp only [Instr.storeAt, den_rptr, hv, Instr.sureAddr, Sem.run_bind, Sem.run_pure, Result.andThen_ok, storeVar, sizeOf_ok hn, hsize, ne_eq, not_true_eq_false, if_false, hL]
    exact hrun
  · have hyb : (ρ.v y).ownBlock = some g := by rw [hv]; rfl
    have hoth : ∀ p ∈ σ.R, y ≠ p.1 → ∀ b, (ρ.v p.1).ownBlock = some b → b ≠ g := fun p hp hne b hb e => by
      subst e
      exact hs.rown (y, r) hmem hro p hp hne b hyb hb
    have hfil : ∀ p ∈ σ.R.filter (fun p => p.1 != y), p ∈ σ.R ∧ y ≠ p.1 := fun p hp => by
      obtain ⟨h1, h2⟩ := List.mem_filter.1 hp
      exact ⟨h1, fun e => by simp [e] at h2⟩
    refine ⟨hgr.os.trans hs.os, hgr.tape.trans hs.tape, hgr.output.trans hs.output, Nat.le_trans hs.size hgr.size, fun q hq hb => ?_, fun p hp => ?_, hs.sep, hs.own, fun p hp => ?_, fun p hp b hb q hq => ?_, fun p hp ho q hq hne b hb e => ?_, hs.fact, hs.tab, fun p hp b hb => ?_⟩
    · rw [hgr.block q (Nat.lt_of_lt_of_le hq hs.size) (fun e => by cases e; omega)]
      exact hs.keep q hq hb
    · have hb2 := hs.blk p hp
      obtain ⟨z, hz⟩ := HO.at_some hb2
      rw [hgr.block _ (Array.getElem?_eq_some_iff.1 hz).1 (fun e => by injection e with e; exact hs.rsep _ hmem g hyb p hp e)]
      exact hb2
    · rcases List.mem_cons.1 hp with rfl | hp
      · refine ⟨g0, g1, ?_⟩
        simp only [hro, if_true]
        rw [hv]
        exact hown'
      · obtain ⟨hp, hne⟩ := hfil p hp
        refine row_world (hs.row p hp) hgr.size fun b hb => ?_
        exact hgr.block b (row_lt (hs.row p hp) hb) (fun e => by injection e with e; exact hoth p hp hne b hb e)
    · rcases List.mem_cons.1 hp with rfl | hp
      · exact hs.rsep _ hmem b hb q hq
      · exact hs.rsep p (hfil p hp).1 b hb q hq
    · rcases List.mem_cons.1 hp with rfl | hp
      · rcases List.mem_cons.1 hq with rfl | hq
        · exact hne rfl
        · exact hs.rown _ hmem hro q (hfil q hq).1 (hfil q hq).2 b hb e
      · obtain ⟨hp, hne2⟩ := hfil p hp
        rcases List.mem_cons.1 hq with rfl | hq
        · simp only at e
          exact hs.rown _ hmem hro p hp hne2 b e hb
        · exact hs.rown p hp ho q (hfil q hq).1 hne b hb e
    · rcases List.mem_cons.1 hp with rfl | hp
      · exact hs.src _ hmem b hb
      · exact hs.src p (hfil p hp).1 b hb

/-! ### Making -/
def makeR (P : Program) (σ : St) (t : TypeId) (x y : V) : Option (List E × St × V) :=
  match x, y, P.underlying t with
  | .i _ n, .i _ c, some (.slice e) => match P.info? e, zeroV P e with
    | some i, some z => match z.cells with
      | some [zc] => match kdV zc with
        | some kd => match termC kd zc with
          | some z0 =>
            if σ.ok = true ∧ n = c ∧ i.size = 1 then
              some ([.le (.c 0) n, .le n (.c maxLenZ), .le (mkMul n (.c (i.bytes : Nat))) (.c 281474976710656)],
                { σ with R := (σ.fr, ⟨true, e, [kd], n, .lrep n z0⟩) :: σ.R, fr := σ.fr + 1, F := news σ.F [.le (.c 0) n, .le n (.c maxLenZ), .le (mkMul n (.c (i.bytes : Nat))) (.c 281474976710656)] ++ σ.F }, .var σ.fr)
            else none
          | none => none
        | none => none
      | _ => none
    | _, _ => none
  | _, _, _ => none
theorem cellsV_rep (kd : Kd) (n : Nat) (x : Int × ByteArray) : cellsV [kd] (List.replicate n x) = List.replicate n (cellV x kd) := by
  apply List.ext_getElem?
  intro i
  rw [cellsV_get, List.getElem?_replicate, List.getElem?_replicate]
  split <;> simp [Nat.mod_one]
theorem makeR_ok {P : Program} {ρ : Env} {σ σ' : St} {w0 w : World} (hs : Sees TT ρ σ w0 w) {t : TypeId} {x y v : V} {es : List E} (h : makeR P σ t x y = some (es, σ', v)) (he : ∀ e ∈ es, e.B ρ = true) :
    (σ'.T = σ.T ∧ σ'.M = σ.M) ∧ σ.ok = true ∧ ∃ ρ' w', Ext σ.fr ρ ρ' ∧ (Instr.makeSlice t (x.den ρ) (y.den ρ)).run P w = .ok (v.den ρ') w' ∧ Sees TT ρ' σ' w0 w' := by
  unfold makeR at h
  split at h
  case h_2 => cases h
  rename_i k1 n k2 c e hu
  split at h
  case h_2 => cases h
  rename_i i z hi hz
  split at h
  case h_2 => cases h
  rename_i zc hzc
  split at h
  case h_2 => cases h
  rename_i kd hkd
  split at h
  case h_2 => cases h
  rename_i z0 hz0
  split at h
  case isFalse => cases h
  rename_i hc
  cases h
  obtain ⟨hok, rfl, hsz⟩ := hc
  refine ⟨⟨rfl, rfl⟩, hok, ?_⟩
  have hF' := holds_news hs.fact he
  have e0 := he _ List.mem_cons_self
  have e1 := he _ (List.mem_cons_of_mem _ List.mem_cons_self)
  have e2 := he _ (List.mem_cons_of_mem _ (List.mem_cons_of_mem _ List.mem_cons_self))
  simp only [B_le, I_c, mkMul_ok, maxLenZ, decide_eq_true_eq] at e0 e1 e2
  obtain ⟨i2, hi2, hz2⟩ := zeroV_ok (ρ := ρ) hz
  rw [hi] at hi2
  cases hi2
  obtain ⟨m, hm⟩ := Int.eq_ofNat_of_zero_le e0
  have hbytes : i.bytes * m ≤ 281474976710656 := by
    rw [hm, ← Int.natCast_mul, Nat.mul_comm] at e2
    exact Int.ofNat_le.1 e2
  obtain ⟨w', hr, hown, hgr⟩ := run_make_full (P := P) w w0.heap.size t e i (z.den ρ) 1 hu hi hz2 hsz k1 k2 m hbytes (by omega) hs.size
  have hcells : (madeCells (z.den ρ).cells (m * 1)).toList = cellsV [kd] ((E.lrep n z0).L ρ) := by
    rw [cells_ok hzc, show arr ρ [zc] = #[zc.den ρ] from rfl, Nat.mul_one, toList_madeCells_one, L_lrep, cellsV_rep, hm, Int.toNat_natCast, (termC_ok (ρ := ρ) hz0).1]
  rw [hcells] at hown
  have hx := nameV_ext ρ σ.fr (.slice (some ⟨w.heap.size, 0, none⟩) m m)
  refine ⟨ρ.nameV σ.fr (.slice (some ⟨w.heap.size, 0, none⟩) m m), w', hx, ?_, ?_⟩
  · simp only [den_i, hm, den_var, Env.nameV, if_true]
    exact hr
  · obtain ⟨-, hH, hF, hW, hR⟩ := ok_parts hok
    have hs' := sees_ext hx hH hF hW hR hs
    have hnew : (ρ.nameV σ.fr (.slice (some ⟨w.heap.size, 0, none⟩) m m)).v σ.fr = .slice (some ⟨w.heap.size, 0, none⟩) m m := by simp [Env.nameV]
    have hold : ∀ p ∈ σ.R, (ρ.nameV σ.fr (.slice (some ⟨w.heap.size, 0, none⟩) m m)).v p.1 = ρ.v p.1 := fun p hp => hx.v _ (hR p hp).1
    have hsame : ∀ k, k < w.heap.size → w'.heap[k]? = w.heap[k]? := fun k hk => hgr.block k hk (by simp)
    refine ⟨hgr.os.trans hs.os, hgr.tape.trans hs.tape, hgr.output.trans hs.output, Nat.le_trans hs.size hgr.size, fun q hq hb => ?_, fun p hp => ?_, hs'.sep, hs'.own, fun p hp => ?_, fun p hp b hb q hq => ?_, fun p hp ho q hq hne b hb e3 => ?_, fun f hf => by rw [nameV_B]; exact hF' f hf, hs'.tab, fun p hp b hb => ?_⟩
    · rw [hsame q (Nat.lt_of_lt_of_le hq hs.size)]
      exact hs'.keep q hq hb
    · have hb2 := hs'.blk p hp
      obtain ⟨u, hu2⟩ := HO.at_some hb2
      rw [hsame _ (Array.getElem?_eq_some_iff.1 hu2).1]
      exact hb2
    · rcases List.mem_cons.1 hp with rfl | hp
      · simp only [hnew]
        refine ⟨by simp only [nameV_I]; exact e0, by simp, ?_⟩
        simp only [if_true, nameV_I, nameV_L]
        rw [hm, Int.toNat_natCast]
        exact OwnAt.of_row hown
      · exact row_world (hs'.row p hp) hgr.size fun b hb => hsame b (row_lt (hs'.row p hp) hb)
    · rcases List.mem_cons.1 hp with rfl | hp
      · simp only [hnew] at hb
        cases hb
        obtain ⟨u, hu2⟩ := HO.at_some (hs'.blk q hq)
        have := (Array.getElem?_eq_some_iff.1 hu2).1
        exact fun e4 => absurd this (by rw [e4]; exact Nat.lt_irrefl _)
      · exact hs'.rsep p hp b hb q hq
    · rcases List.mem_cons.1 hp with rfl | hp
      · rcases List.mem_cons.1 hq with rfl | hq
        · exact hne rfl
        · simp only [hnew] at hb
          cases hb
          exact absurd (row_lt (hs'.row q hq) e3) (Nat.lt_irrefl _)
      · rcases List.mem_cons.1 hq with rfl | hq
        · simp only [hnew] at e3
          cases e3
          exact absurd (row_lt (hs'.row p hp) hb) (Nat.lt_irrefl _)
        · exact hs'.rown p hp ho q hq hne b hb e3
    · rcases List.mem_cons.1 hp with rfl | hp
      · simp only [hnew] at hb
        cases hb
        exact .inl hs.size
      · exact hs'.src p hp b hb
/-- So many elements, each as a new one is: a block of known cells. -/
def madeL (cs : List V) (n : Nat) : List V := (List.range n).map fun k => cs.getD (k % cs.length) (.tup .nil)
theorem madeL_ok {ρ : Env} {cs : List V} {n : Nat} (h0 : 0 < cs.length) : madeCells (arr ρ cs) n = arr ρ (madeL cs n) := by
  unfold madeCells madeL arr
  apply Array.ext
  · simp
  · intro i h1 h2
    have hlt : i % cs.length < cs.length := Nat.mod_lt _ h0
    simp [hlt]
def makeL (P : Program) (σ : St) (t : TypeId) (x y : V) : Option (List E × St × V) :=
  match x, y, P.underlying t with
  | .i _ (.c n), .i _ (.c c), some (.slice e) => match P.info? e, zeroV P e with
    | some i, some z => match z.cells with
      | some cs =>
        if σ.ok = true ∧ σ.own ≤ σ.fr ∧ n = c ∧ 0 ≤ n ∧ n ≤ 4096 ∧ (i.bytes : Int) * n ≤ 281474976710656 ∧ i.size = cs.length ∧ 0 < cs.length then
          some ([], σ.newB (.cells (madeL cs (n.toNat * cs.length)) e), .sl (.n σ.fr) 0 [] (.c n) (.c n))
        else none
      | none => none
    | _, _ => none
  | _, _, _ => none
theorem makeL_ok {P : Program} {ρ : Env} {σ σ' : St} {w0 w : World} (hs : Sees TT ρ σ w0 w) {t : TypeId} {x y v : V} {es : List E} (h : makeL P σ t x y = some (es, σ', v)) :
    (σ'.T = σ.T ∧ σ'.M = σ.M) ∧ σ.ok = true ∧ ∃ ρ' w', Ext σ.fr ρ ρ' ∧ (Instr.makeSlice t (x.den ρ) (y.den ρ)).run P w = .ok (v.den ρ') w' ∧ Sees TT ρ' σ' w0 w' := by
  unfold makeL at h
  split at h
  case h_2 => cases h
  rename_i k1 n k2 c e hu
  split at h
  case h_2 => cases h
  rename_i i z hi hz
  split at h
  case h_2 => cases h
  rename_i cs hcs
  split at h
  case isFalse => cases h
  rename_i hc
  cases h
  obtain ⟨hok, hown, rfl, hn0, hn1, hby, hsz, hlen⟩ := hc
  refine ⟨⟨rfl, rfl⟩, hok, ?_⟩
  obtain ⟨i2, hi2, hz2⟩ := zeroV_ok (ρ := ρ) hz
  rw [hi] at hi2
  cases hi2
  have hr := run_make (P := P) w t e i (z.den ρ) hu hi hz2 k1 k2 n n hn0 (Int.le_refl _) hby (by omega)
  have hx := name_ext ρ σ.fr w.heap.size
  refine ⟨ρ.name σ.fr w.heap.size, _, hx, ?_, sees_new (obj := .cells (madeCells (z.den ρ).cells (n.toNat * i.size)) e) hs hok hown ?_⟩
  · simp only [den_i, I_c]
    rw [hr]
    simp [den_sl, addrD, offN, Env.blk, Env.name]
  · obtain ⟨i3, hi3, hz3⟩ := zeroV_ok (ρ := ρ.name σ.fr w.heap.size) hz
    rw [hi] at hi3
    cases hi3
    rw [hz2] at hz3
    have hzz : z.den ρ = z.den (ρ.name σ.fr w.heap.size) := Option.some.inj hz3
    rw [hzz, cells_ok hcs, hsz, madeL_ok hlen]
    rfl
def makeS (P : Program) (σ : St) (t : TypeId) (x y : V) : Option (List E × St × V) :=
  match makeR P σ t x y with | some r => some r | none => makeL P σ t x y
theorem makeS_ok {P : Program} {ρ : Env} {σ σ' : St} {w0 w : World} (hs : Sees TT ρ σ w0 w) {t : TypeId} {x y v : V} {es : List E} (h : makeS P σ t x y = some (es, σ', v)) (he : ∀ e ∈ es, e.B ρ = true) :
    (σ'.T = σ.T ∧ σ'.M = σ.M) ∧ σ.ok = true ∧ ∃ ρ' w', Ext σ.fr ρ ρ' ∧ (Instr.makeSlice t (x.den ρ) (y.den ρ)).run P w = .ok (v.den ρ') w' ∧ Sees TT ρ' σ' w0 w' := by
  unfold makeS at h
  split at h
  · rename_i hr
    cases h
    exact makeR_ok hs hr he
  · exact makeL_ok hs h
end Go.Proofs.Ytmbhjfembfidnaa.Sx
end
