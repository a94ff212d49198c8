/- The walk's laws within the wide fence, in a round of a range over a function and outside of one. The executor is right. The executor is right: all jobs. Loops. The executor is right: code, functions; the theorem that is used. The executor in small pieces, which the kernel reckons with more quickly. The executor in use: functions without writes to old memory; contracts. Functions of rows: rows as parameters, rows as results, contracts of such functions. Layer 9 (unit): the plain mathematics of ways, times, legs. -/
import Derived.RangeFuncLeaves
import Derived.RangeFuncRecord
import Derived.RangeFuncNested
import Derived.OrdersIn
import Derived.Deep.LoopGhost
import Derived.Scope
import Derived.Test.YtmbhjfembfidnaaPb7
section
namespace Go.Proofs.Ytmbhjfembfidnaa.Sx
open Go

/-- The wide fence, for a round's frame or another one. -/
def fen : Option Nat → Fence | none => Fence.wide | some l => Fence.wide.inRound l
theorem fen_round (r : Option Nat) : (fen r).round = r := by cases r <;> rfl
theorem fen_fn (r : Option Nat) (f : FuncId) : (fen r).fn f := by cases r <;> trivial
theorem fen_depth (r : Option Nat) : (fen r).depth = none := by cases r <;> rfl
theorem fen_deep {r : Option Nat} {n : Nat} : (fen r).depth.isSome = true → 1 ≤ n := fun h => by rw [fen_depth] at h; cases h
theorem fen_calls {r : Option Nat} {n : Nat} {P : Program} {f : FuncId} {args : Array Value} {w : World} {R : Ending → World → Prop} : CallsIn (fen r) n P f args w R ↔ Calls P f args w R := by
  cases r with
  | none => exact callsIn_wide
  | some l => exact callsIn_wide (n := n)
theorem fen_rows {r : Option Nat} {n : Nat} {P : Program} {row : String} {args : Array Value} {w : World} {R : Value → World → Prop} (h : Rows P row args w R) : RowsIn (fen r) n P row args w R := by
  have h0 : RowsIn Fence.wide n P row args w R := fun c cs _ => let ⟨v, w', hr, hs⟩ := h c cs; ⟨v, w', hr, stepsIn_wide.2 hs⟩
  cases r with
  | none => exact h0
  | some l => exact h0
theorem not_defer {o : Oper} (h : isDefer o = false) : ∀ c, o.op ≠ .defer c := fun c hc => by simp [isDefer, hc] at h
/-- Operations that are no defer statement, or no round. -/
def Plain (r : Option Nat) (o : Oper) : Prop := r = none ∨ isDefer o = false
theorem Plain.sem {r : Option Nat} {o : Oper} (h : Plain r o) (ρ : Operand → Value) : o.semAt r ρ = execOp ρ o := by
  rcases h with rfl | h
  · rfl
  · exact Oper.semAt_eq _ _ _ (not_defer h)
theorem op_in {r : Option Nat} {P : Program} {o : Oper} {a : Act} {w : World} {K : Act → World → Prop} {Q : Exit → Act → World → Prop} (hd : Plain r o) (h : o.wp P a w K Q) : o.wpIn (fen r) 0 P a w K Q := by
  refine ⟨fun _ _ => fen_fn r _, ?_⟩
  rw [fen_round, hd.sem]
  unfold Oper.wp at h
  generalize (execOp a.eval o).run P w = x at h
  cases x with
  | ok n w' =>
    cases n <;> simp only [Oper.upon, Oper.uponIn] at h ⊢ <;> first
      | exact h
      | exact ⟨fen_deep, fen_calls.2 h⟩
      | exact ⟨fen_deep, fen_rows h⟩
      | exact h.elim
  | halt x w' => cases x <;> simp only [Oper.upon, Oper.uponIn] at h ⊢ <;> exact h

section
variable {r : Option Nat} {P : Program} {ops : Array Oper} {Q : Exit → Act → World → Prop} {md : Region.Mode} {S : World → Prop}
theorem yieldsR {i : Nat} {o : Oper} {v : Value} {a : Act} (hd : Plain r o) (hi : ops[i]? = some o) (hy : YieldsIf P ops S o v a) {K : Act → World → Prop} {w : World} (hS : S w) (h : K (a.put o.dst v) w) : wpOpIn (fen r) 0 P ops Q i K a w := by
  unfold wpOpIn
  simp only [hi]
  rcases hy with ⟨hw, hv⟩ | ⟨hw, rfl⟩
  · simp only [hw, if_true, Oper.wpIn, fen_round, hd.sem, hv w hS, Oper.uponIn]; exact ⟨fun _ _ => fen_fn r _, h⟩
  · simp only [hw, Bool.false_eq_true, if_false]; exact ⟨fun _ _ => fen_fn r _, h⟩
theorem putR {j : Nat} {oi oj : Oper} {v : Value} (hd : Plain r oj) (hj : ops[j]? = some oj) (hap : oi.apart ops oj = true) (hsi : ∀ cs b, oi.op ≠ .select cs b) (hsj : ∀ cs b, oj.op ≠ .select cs b)
    (hQ : ∀ c a w, Q (.panic c) (a.put oi.dst v) w → Q (.panic c) a w) {K : Act → World → Prop} {a : Act} {w : World} (hy : YieldsIf P ops S oi v a) (h : wpOpIn (fen r) 0 P ops Q j K (a.put oi.dst v) w) :
    wpOpIn (fen r) 0 P ops Q j (fun a' w' => YieldsIf P ops S oi v a' ∧ K (a'.put oi.dst v) w') a w := by
  obtain ⟨h1, h2, h3⟩ := Oper.apart_spec hap
  have keep : ∀ (a : Act), YieldsIf P ops S oi v a → ∀ u, YieldsIf P ops S oi v (a.put oj.dst u) := fun a hy u =>
    hy.of_same (execOp_put oi hsi a oj.dst u h3) (wanted_put oi a oj.dst u h3)
  have keepD : ∀ d, YieldsIf P ops S oi v { a with defers := d :: a.defers } := fun d => hy.of_same rfl rfl
  unfold wpOpIn at *
  simp only [hj] at *
  rw [wanted_put oj a oi.dst v h1] at h
  split
  · rename_i hw
    simp only [hw, if_true] at h
    refine ⟨fun _ _ => fen_fn r _, ?_⟩
    have h := h.2
    rw [fen_round, hd.sem, execOp_put oj hsj a oi.dst v h1] at h
    rw [fen_round, hd.sem]
    generalize (execOp a.eval oj).run P w = x at *
    cases x with
    | ok x w' =>
      cases x <;> simp only [Oper.uponIn] at h ⊢
      case value u => exact ⟨keep a hy u, by rw [← Act.put_comm a v u h2]; exact h⟩
      case skip => exact ⟨keep a hy _, by rw [← Act.put_comm a v undef h2]; exact h⟩
      case defer d =>
        refine ⟨keep _ (keepD d) _, ?_⟩
        rw [← Act.put_comm _ v undef h2, ← Act.put_defers]
        exact h
      case enter f args =>
        refine ⟨h.1, CallsIn.mono h.2 fun e w'' he => ?_⟩
        cases e with
        | returned u => exact ⟨keep a hy u, by rw [← Act.put_comm a v u h2]; exact he⟩
        | panicked c => exact hQ _ _ _ he
        | outgrown => exact he
      case row row args => exact ⟨h.1, RowsIn.mono h.2 fun u w'' he => ⟨keep a hy u, by rw [← Act.put_comm a v u h2]; exact he⟩⟩
      case round l f tmps assign body =>
        refine ⟨h.1, RoundIn.mono h.2 fun e w'' he => ?_⟩
        cases e with
        | returned u => exact ⟨keep a hy u, by rw [← Act.put_comm a v u h2]; exact he⟩
        | panicked c => exact hQ _ _ _ he
        | outgrown => exact he
    | halt x w' =>
      cases x <;> simp only [Oper.uponIn] at h ⊢
      case panic u => exact hQ _ _ _ h
  · rename_i hw
    simp only [hw] at h
    exact ⟨fun _ _ => fen_fn r _, keep a hy _, by rw [← Act.put_comm a v undef h2]; exact h.2⟩

/-- Whatever order comes up, and S holds behind each operation. -/
def wpAnyR (r : Option Nat) (P : Program) (md : Region.Mode) (ops : Array Oper) (Q : Exit → Act → World → Prop) (S : World → Prop) : Nat → Array Bool → Act → World → Prop
  | 0, listed, a, w => Region.ready md ops listed = [] ∧ Q .normal a w
  | fuel + 1, listed, a, w =>
    (Region.ready md ops listed = [] → Q .normal a w) ∧
    ∀ i ∈ Region.ready md ops listed, wpOpIn (fen r) 0 P ops Q i (fun a' w' => S w' ∧ wpAnyR r P md ops Q S fuel (listed.setIfInBounds i true) a' w') a w
theorem anyIn_of_R : ∀ (fuel : Nat) (listed : Array Bool) (a : Act) (w : World), wpAnyR r P md ops Q S fuel listed a w → wpAnyIn (fen r) 0 P md ops Q fuel listed a w
  | 0, _, _, _, h => h
  | fuel + 1, _, _, _, h => ⟨h.1, fun i hi => wpOpIn_mono (fun a' w' h' => anyIn_of_R fuel _ a' w' h'.2) (h.2 i hi)⟩
theorem anyR_weaken {S' : World → Prop} (h : ∀ w, S' w → S w) : ∀ (n : Nat) (listed : Array Bool) (a : Act) (w : World), wpAnyR r P md ops Q S' n listed a w → wpAnyR r P md ops Q S n listed a w
  | 0, _, _, _, hh => hh
  | n + 1, _, _, _, hh => ⟨hh.1, fun i hi => wpOpIn_mono (fun _ _ hk => ⟨h _ hk.1, anyR_weaken h n _ _ _ hk.2⟩) (hh.2 i hi)⟩
theorem anyR_first {i : Nat} {oi : Oper} {v : Value} (hpl : ∀ (j : Nat) (o : Oper), ops[j]? = some o → Plain r o) (hi : ops[i]? = some oi) (hsel : ∀ (j : Nat) (o : Oper) cs b, ops[j]? = some o → o.op ≠ .select cs b)
    (hQ : ∀ c a w, Q (.panic c) (a.put oi.dst v) w → Q (.panic c) a w) :
    ∀ (fuel : Nat) (listed : Array Bool) (a : Act) (w : World),
      (∀ j oj, ops[j]? = some oj → j ≠ i → listed.getD j true = false → (∀ e ∈ oj.after, Region.binds md e = true → e.on ≠ i) → oi.apart ops oj = true) →
      i ∈ Region.ready md ops listed → YieldsIf P ops S oi v a → S w →
      wpAnyR r P md ops Q S fuel (listed.setIfInBounds i true) (a.put oi.dst v) w → wpAnyR r P md ops Q S (fuel + 1) listed a w := by
  intro fuel
  induction fuel with
  | zero =>
    intro listed a w _ hr hy hS H
    refine ⟨fun h => (by rw [h] at hr; cases hr), fun j hj => ?_⟩
    by_cases hji : j = i
    · subst hji; exact yieldsR (hpl _ _ hi) hi hy hS ⟨hS, H⟩
    · have := ready_mono hj hji
      rw [H.1] at this
      cases this
  | succ fuel ih =>
    intro listed a w hfree hr hy hS H
    refine ⟨fun h => (by rw [h] at hr; cases hr), fun j hj => ?_⟩
    by_cases hji : j = i
    · subst hji; exact yieldsR (hpl _ _ hi) hi hy hS ⟨hS, H⟩
    · have h1 := H.2 j (ready_mono hj hji)
      obtain ⟨hjun, oj, hoj, hall⟩ := mem_ready.1 hj
      have hnot : ∀ e ∈ oj.after, Region.binds md e = true → e.on ≠ i := fun e he hb heq => by
        have h1 := hall e he hb
        have h0 := (mem_ready.1 hr).1
        rw [heq] at h1
        rcases Nat.lt_or_ge i listed.size with h' | h'
        · simp [h'] at h0 h1; rw [h0] at h1; cases h1
        · simp [Array.getElem?_eq_none h'] at h1
      have h2 := putR (hpl _ _ hoj) hoj (hfree j oj hoj hji hjun hnot) (fun cs b => hsel i oi cs b hi) (fun cs b => hsel j oj cs b hoj) hQ hy h1
      have hfree' : ∀ k ok, ops[k]? = some ok → k ≠ i → (listed.setIfInBounds j true).getD k true = false →
          (∀ e ∈ ok.after, Region.binds md e = true → e.on ≠ i) → oi.apart ops ok = true := fun k ok hk hki hun hno => by
        refine hfree k ok hk hki ?_ hno
        by_cases hjk : j = k
        · subst hjk; exact hjun
        · rw [getD_set_ne true hjk] at hun; exact hun
      refine wpOpIn_mono (fun a' w' h3 => ⟨h3.2.1, ih (listed.setIfInBounds j true) a' w' hfree' (ready_mono hr (Ne.symm hji)) h3.1 h3.2.1 ?_⟩) h2
      rw [Array.setIfInBounds_comm _ _ hji]
      exact h3.2.2
theorem anyR_take {i : Nat} {oi : Oper} {v : Value} {fuel : Nat} {listed : Array Bool} {a : Act} {w : World} (hpl : ∀ (j : Nat) (o : Oper), ops[j]? = some o → Plain r o) (hi : ops[i]? = some oi)
    (hs : Region.noSelect ops = true) (hf : Region.free md ops listed i = true) (hr : (Region.ready md ops listed).contains i = true)
    (hQ : ∀ c a w, Q (.panic c) (a.put oi.dst v) w → Q (.panic c) a w) (hy : YieldsIf P ops S oi v a) (hS : S w)
    (h : wpAnyR r P md ops Q S fuel (listed.setIfInBounds i true) (a.put oi.dst v) w) : wpAnyR r P md ops Q S (fuel + 1) listed a w :=
  anyR_first hpl hi (Region.noSelect_spec hs) hQ fuel listed a w (Region.free_spec hi hf) (by simpa using hr) hy hS h
theorem anyR_done {listed : Array Bool} {a : Act} {w : World} (hr : Region.ready md ops listed = []) (h : Q .normal a w) : ∀ fuel, wpAnyR r P md ops Q S fuel listed a w
  | 0 => ⟨hr, h⟩
  | _ + 1 => ⟨fun _ => h, by rw [hr]; simp⟩
theorem regionR {id : Nat} {a : Act} {w : World} (hm : P.follows .mixedOrders = true) (h : wpAnyR r P .any ops Q S ops.size (Array.replicate ops.size false) a { w with drawn := w.drawn + 1 }) : (Code.region id ops true).wpIn (fen r) 0 P Q a w :=
  wpIn_region_any hm (anyIn_of_R _ _ _ _ h)
end

section
variable {F : Fence} {n : Nat} {P : Program} {Q : Exit → Act → World → Prop} {a : Act} {w : World}
theorem loop_ghostIn {c : Code} (I : Nat → Act → World → Prop) (n₀ : Nat) (h₀ : I n₀ a w)
    (round : ∀ m a w, I m a w → c.wpIn F n P (Exit.then (fun a' w' => ∃ m', m' < m ∧ I m' a' w') Q) a w) : (Code.loop c).wpIn F n P Q a w := by
  refine wpIn_loop (fun a w => ∃ m, I m a w) (fun a w => leastOf (fun m => I m a w)) ⟨n₀, h₀⟩ ?_
  intro a w hI
  refine wpIn_mono (round _ a w (leastOf_spec hI).1) ?_
  intro e a' w' hq
  cases e with
  | normal =>
    obtain ⟨n', hlt, hI'⟩ := hq
    exact show (∃ m, I m a' w') ∧ leastOf (fun m => I m a' w') < leastOf (fun m => I m a w) from ⟨⟨n', hI'⟩, Nat.lt_of_le_of_lt ((leastOf_spec ⟨n', hI'⟩).2 n' hI') hlt⟩
  | exit id => exact hq
  | goto l => exact hq
  | ret => exact hq
  | panic ch => exact hq
  | outgrown => exact hq
theorem stepR_scope {b : Frame} {k : List Item} {cs : List Frame} {c : Code} : step P (lone (b.atR a (.code (.scope c) :: k)) cs w) = .next (lone (b.atR a (.code c :: .inScope c :: k)) cs w) :=
  step_lone_go (by simp [stepG, stepG.exec, Frame.atR])
theorem stepR_inScope {b : Frame} {k : List Item} {cs : List Frame} {c : Code} : step P (lone (b.atR a (.inScope c :: k)) cs w) = .next (lone (b.atR a k) cs w) :=
  step_lone_go (by simp [stepG, stepG.exec, Frame.atR])
theorem scopeIn {c : Code} (h : c.wpIn F n P (Exit.noGoto Q) a w) : (Code.scope c).wpIn F n P Q a w := by
  intro b k cs hro hb hr
  have h0 : (lone (b.atR a (.code (.scope c) :: k)) cs w).fenced P F := fenced_calm hb hr rfl
  obtain ⟨e, a₁, w₁, hq, harr⟩ := h b (.inScope c :: k) cs hro hb hr
  cases e with
  | normal => exact ⟨.normal, a₁, w₁, hq, .head h0 stepR_scope (StepsIn.trans harr (.one (fenced_calm hb hr rfl) stepR_inScope))⟩
  | exit id => exact ⟨.exit id, a₁, w₁, hq, fun k' hk => .head h0 stepR_scope (harr.1 k' (by simp [exitTo, hk])), fun hk1 hk2 => by
      obtain ⟨k₁, h1, h2⟩ := harr.2 hk1 (by simpa [exitTo] using hk2)
      exact ⟨k₁, h1, .head h0 stepR_scope h2⟩⟩
  | goto l => exact hq.elim
  | ret => exact ⟨_, a₁, w₁, hq, .of_steps (.one h0 stepR_scope) harr⟩
  | panic ch => exact ⟨_, a₁, w₁, hq, .of_steps (.one h0 stepR_scope) harr⟩
  | outgrown => exact ⟨_, a₁, w₁, hq, .of_steps (.one h0 stepR_scope) harr⟩
end
end Go.Proofs.Ytmbhjfembfidnaa.Sx
end
section
namespace Go.Proofs.Ytmbhjfembfidnaa.Sx
open Go
variable {TT : Tb}

/-- The panic's posts, for every frame without deferred calls. -/
def strong (Q : Exit → Act → World → Prop) : Exit → Act → World → Prop
  | .panic c, a, w => a.defers = [] ∧ ∀ a', a'.defers = [] → Q (.panic c) a' w
  | e, a, w => Q e a w
theorem strong_out {Q : Exit → Act → World → Prop} {e : Exit} {a : Act} {w : World} (h : strong Q e a w) : Q e a w := by
  cases e with
  | panic c => exact h.2 a h.1
  | _ => exact h

theorem sees_part' {ρ : Env} {σ : St} {w0 w : World} (hs : Sees TT ρ σ w0 w) {H : List (Bk × HO)} {R : List (Nat × Row)} (hH : ∀ p ∈ H, p ∈ σ.H) (hR : ∀ p ∈ R, p ∈ σ.R) : Sees TT ρ { σ with H := H, R := R } w0 w :=
  ⟨hs.os, hs.tape, hs.output, hs.size, hs.keep, fun p hp => hs.blk p (hH p hp), fun p hp q hq => hs.sep p (hH p hp) q (hH q hq), fun p hp => hs.own p (hH p hp), fun p hp => hs.row p (hR p hp), fun p hp b hb q hq => hs.rsep p (hR p hp) b hb q (hH q hq),
   fun p hp ho q hq => hs.rown p (hR p hp) ho q (hR q hq), hs.fact, hs.tab, fun p hp => hs.src p (hR p hp)⟩
theorem sees_gc {ρ : Env} {σ : St} {w0 w : World} (hs : Sees TT ρ σ w0 w) (n0 : Nat) (v : V) : Sees TT ρ (σ.gc n0 v) w0 w := by
  unfold St.gc
  split
  · exact sees_part' hs (fun p hp => (List.mem_filter.1 hp).1) (fun p hp => (List.mem_filter.1 hp).1)
  · exact hs
theorem gc_fr (σ : St) (n0 : Nat) (v : V) : (σ.gc n0 v).fr = σ.fr := by unfold St.gc; split <;> rfl
theorem opW_ok {P : Program} {ρ : Env} {σ : St} {w0 w1 : World} (hs : Sees TT ρ σ w0 w1) {o : Oper} {v : V} (hr : opW P σ o = some (.val v)) (w : World) : (execOp (actOf ρ σ.T σ.M).eval o).run P w = .ok (.value (v.den ρ)) w := by
  unfold opW at hr
  split at hr
  · rename_i h; rw [hr] at h; exact rowR_ok hs.fact hs.rows h w
  · exact opV_ok hs.fact hr w
def GoodC (TT : Tb) (Q : Exit → Act → World → Prop) (ρ : Env) (n : Nat) (w0 : World) (o : Out) : Prop :=
  ∀ ρ' w', Ext n ρ ρ' → Sees TT ρ' o.st w0 w' → match o.x with
    | .norm => Q .normal (actOf ρ' o.st.T o.st.M) w'
    | .exit id => Q (.exit id) (actOf ρ' o.st.T o.st.M) w'
    | .ret => Q .ret (actOf ρ' o.st.T o.st.M) w'
    | .must e => e.B ρ' = true
    | .panic v => ∀ a : Act, a.defers = [] → Q (.panic [{ v := v.den ρ', recovered := false }]) a w'
    | .val _ => False
def GoodO (TT : Tb) (next : Act → World → Prop) (Q : Exit → Act → World → Prop) (d : Option Tmp) (ρ : Env) (n : Nat) (w0 : World) (o : Out) : Prop :=
  ∀ ρ' w', Ext n ρ ρ' → Sees TT ρ' o.st w0 w' → match o.x with
    | .val v => next ((actOf ρ' o.st.T o.st.M).put d (v.den ρ')) w'
    | .must e => e.B ρ' = true
    | .panic v => ∀ a : Act, a.defers = [] → Q (.panic [{ v := v.den ρ', recovered := false }]) a w'
    | _ => False
def GoodF (TT : Tb) (R : Ending → World → Prop) (ρ : Env) (n : Nat) (w0 : World) (o : Out) : Prop :=
  ∀ ρ' w', Ext n ρ ρ' → Sees TT ρ' o.st w0 w' → match o.x with
    | .val v => R (.returned (v.den ρ')) w'
    | .must e => e.B ρ' = true
    | .panic v => R (.panicked [{ v := v.den ρ', recovered := false }]) w'
    | _ => False

def CtrOk (TT : Tb) (P : Program) (q : Ctr) : Prop :=
  ∀ args σ outs, q.run args σ = some outs → σ.ok = true → args.all (V.under σ.fr) = true → ∀ ρ w0 w R, Sees TT ρ σ w0 w → (∀ o ∈ outs, GoodF TT R ρ σ.fr w0 o) → Calls P q.f (arr ρ args) w R

theorem GoodC.ext {Q : Exit → Act → World → Prop} {ρ ρ' : Env} {n m : Nat} {w0 : World} {o : Out} (h : GoodC TT Q ρ n w0 o) (hx : Ext n ρ ρ') (hm : n ≤ m) : GoodC TT Q ρ' m w0 o :=
  fun ρ2 w2 h1 h2 => h ρ2 w2 (hx.trans h1 hm) h2
theorem GoodO.ext {K : Act → World → Prop} {Q : Exit → Act → World → Prop} {d : Option Tmp} {ρ ρ' : Env} {n m : Nat} {w0 : World} {o : Out} (h : GoodO TT K Q d ρ n w0 o) (hx : Ext n ρ ρ') (hm : n ≤ m) : GoodO TT K Q d ρ' m w0 o :=
  fun ρ2 w2 h1 h2 => h ρ2 w2 (hx.trans h1 hm) h2

theorem bindL_mem {f : Out → Option (List Out)} : ∀ {l r : List Out}, bindL l f = some r → ∀ o ∈ l, ∃ s, f o = some s ∧ ∀ x ∈ s, x ∈ r
  | [], r, h, o, ho => by cases ho
  | a :: l, r, h, o, ho => by
    simp only [bindL] at h
    split at h
    · rename_i x y h1 h2
      cases h
      rcases List.mem_cons.1 ho with rfl | ho
      · exact ⟨x, h1, fun z hz => List.mem_append.2 (.inl hz)⟩
      · obtain ⟨s, hs, hsub⟩ := bindL_mem h2 o ho
        exact ⟨s, hs, fun z hz => List.mem_append.2 (.inr (hsub z hz))⟩
    · cases h
theorem Sees.know {ρ : Env} {σ : St} {w0 w : World} (h : Sees TT ρ σ w0 w) {e : E} {b : Bool} (he : e.B ρ = b) : Sees TT ρ (σ.know e b) w0 w :=
  h.withF (holds_append (fact_ok he) h.fact)
theorem actOf_know (ρ : Env) (σ : St) (e : E) (b : Bool) : actOf ρ (σ.know e b).T (σ.know e b).M = actOf ρ σ.T σ.M := rfl
theorem act_put (ρ : Env) (σ : St) (d : Option Tmp) (v : V) : (actOf ρ σ.T σ.M).put d (v.den ρ) = actOf ρ (σ.put d v).T (σ.put d v).M := by
  cases d with
  | none => rfl
  | some d => simp [Act.put, actOf, St.put, List.map_set]
theorem act_putN {ρ : Env} {σ : St} (hR : RowVals ρ σ.R) (d : Option Tmp) (v : V) : (actOf ρ σ.T σ.M).put d (v.den ρ) = actOf ρ (σ.putN d v).T (σ.putN d v).M := by
  unfold St.putN
  rw [← act_put, unR'_den hR]
theorem Sees.put {ρ : Env} {σ : St} {w0 w : World} (h : Sees TT ρ σ w0 w) (d : Option Tmp) (v : V) : Sees TT ρ (σ.put d v) w0 w := by
  cases d with
  | none => exact h
  | some d => exact h.withT _
theorem Sees.putN {ρ : Env} {σ : St} {w0 w : World} (h : Sees TT ρ σ w0 w) (d : Option Tmp) (v : V) : Sees TT ρ (σ.putN d v) w0 w := h.put d _
theorem putN_fr (σ : St) (d : Option Tmp) (v : V) : (σ.putN d v).fr = σ.fr := by unfold St.putN; cases d <;> rfl
theorem put_fr (σ : St) (d : Option Tmp) (v : V) : (σ.put d v).fr = σ.fr := by cases d <;> rfl
theorem undef_den (ρ : Env) : undefV.den ρ = undef := rfl

theorem guard_ok {ρ : Env} {σ : St} {w0 w : World} (h : Sees TT ρ σ w0 w) {ops : Array Oper} {o : Oper} {b : Bool} (hg : guardV ops σ o = some (.inl b)) : Region.wanted o (yielded ops (actOf ρ σ.T σ.M).tmps) = b := by
  unfold guardV at hg
  unfold Region.wanted yielded
  split at hg
  · cases hg; rename_i h1; rw [h1]
  · rename_i j want h1
    rw [h1]
    simp only
    split at hg
    · cases hg; rename_i h2; rw [h2]; rfl
    · rename_i d h2
      rw [h2]
      have ht : ∀ x : V, σ.T[d]? = some x → (actOf ρ σ.T σ.M).tmps[d]? = some (x.den ρ) := fun x hx => by simp [actOf, hx]
      split at hg
      · rename_i e he
        split at hg
        · cases hg
          rename_i b' hd
          simp only [Option.bind_some, ht _ he, den_b, decideB_ok h.fact hd]
          cases b' <;> cases want <;> rfl
        · cases hg
      · cases hg
        rename_i he
        simp only [Option.bind_some, ht _ he, den_tup]; rfl
      · cases hg
        rename_i he
        simp only [Option.bind_some, ht _ he, den_i]; rfl
      · cases hg

/-- What an operation yields, in the form of its 'wp'. -/
theorem wp_value {P : Program} {o : Oper} {a : Act} {w w' : World} {K : Act → World → Prop} {Q : Exit → Act → World → Prop} {v : Value} (hr : (execOp a.eval o).run P w = .ok (.value v) w') (h : K (a.put o.dst v) w') : o.wp P a w K Q := by
  unfold Oper.wp; rw [hr]; exact h
theorem wp_skip' {P : Program} {o : Oper} {a : Act} {w w' : World} {K : Act → World → Prop} {Q : Exit → Act → World → Prop} (hr : (execOp a.eval o).run P w = .ok .skip w') (h : K (a.put o.dst undef) w') : o.wp P a w K Q := by
  unfold Oper.wp; rw [hr]; exact h
theorem wp_enter {P : Program} {o : Oper} {a : Act} {w w' : World} {K : Act → World → Prop} {Q : Exit → Act → World → Prop} {f : FuncId} {args : Array Value} (hr : (execOp a.eval o).run P w = .ok (.enter f args) w')
    (h : Calls P f args w' fun | .returned v, w'' => K (a.put o.dst v) w'' | .panicked c, w'' => Q (.panic c) a w'' | .outgrown, _ => False) : o.wp P a w K Q := by
  unfold Oper.wp; rw [hr]
  exact h.mono fun e w'' he => by cases e <;> first | exact he | exact he.elim

theorem actOf_ext {n : Nat} {ρ ρ' : Env} (h : Ext n ρ ρ') {T : List V} {M : List Nat} (hu : T.all (V.under n) = true) (hm : M.all (fun k => decide (k < n)) = true) : actOf ρ' T M = actOf ρ T M := by
  have : M.map (mark ρ') = M.map (mark ρ) := List.map_congr_left fun k hk => by
    simp only [List.all_eq_true, decide_eq_true_eq] at hm
    simp only [mark, h.n k (hm k hk)]
  simp only [actOf, dens_extL h hu, this]

theorem run_alloc {P : Program} {t : TypeId} {i : TypeInfo} {z : Value} (hi : P.info? t = some i) (hz : i.zero = some z) (v : Value) (w : World) :
    (Instr.alloc t true v).run P w = .ok (.pointer (some ⟨w.heap.size, 0, none⟩)) (w.alloc (.cells z.cells t)) := by
  simp [Instr.alloc, zeroValue, typeInfo, hi, hz, newVar, newRow]

theorem run_v2 {P : Program} {w w' : World} {s : Sem Value} {u : Value} (h : s.run P w = .ok u w') : ((do pure (.value (← s))) : Sem Next).run P w = .ok (.value u) w' := by
  rw [Sem.run_bind, h]; rfl
theorem callFunc_enters {P : Program} {f : FuncId} (h : enters P f = true) (args : Array Value) (w : World) : (callFunc f args).run P w = .ok (.enter f args) w := by
  unfold enters at h
  split at h
  · rename_i fn hf
    simp only [Bool.and_eq_true, Bool.not_eq_true'] at h
    have hb : fn.body.isNone = false := by rw [← Option.not_isSome, h.2]; rfl
    simp only [callFunc, Sem.run_bind, run_program, Result.andThen_ok, hf, h.1, Bool.false_eq_true, if_false, hb, Sem.run_pure]
  · cases h
section
variable {P : Program} {Γ : Ctx}

def OkFn (TT : Tb) (P : Program) (Pre : Env → Nat → Prop) (call : FuncId → List V → St → Option (List Out)) : Prop :=
  ∀ f args σ outs, call f args σ = some outs → (∀ o ∈ outs, o.st.T = σ.T ∧ o.st.M = σ.M ∧ σ.fr ≤ o.st.fr) ∧ ∀ ρ w0 w R, Pre ρ σ.fr → Sees TT ρ σ w0 w → (∀ o ∈ outs, GoodF TT R ρ σ.fr w0 o) → Calls P f (arr ρ args) w R

theorem musts_ok {ρ : Env} {σ : St} {w0 w : World} (hs : Sees TT ρ σ w0 w) {l : List E} (h : ∀ o ∈ musts σ l, ∀ e, o.x = .must e → e.B ρ = true) : ∀ e ∈ l, e.B ρ = true := fun e he => by
  by_cases hd : decideB σ.F e = some true
  · exact decideB_ok hs.fact hd
  · exact h ⟨.must e, σ⟩ (List.mem_map.2 ⟨e, List.mem_filter.2 ⟨he, by simp [hd]⟩, rfl⟩) e rfl
theorem effS_ok {Pre : Env → Nat → Prop} {call : FuncId → List V → St → Option (List Out)} (hcall : OkFn TT P Pre call) {σ : St} {o : Oper} {outs : List Out} (h : effS P call σ o = some outs)
    {ρ : Env} {w0 w : World} {K : Act → World → Prop} {Q : Exit → Act → World → Prop} (hpre : Pre ρ σ.fr) (hs : Sees TT ρ σ w0 w) (hg : ∀ u ∈ outs, GoodO TT K Q o.dst ρ σ.fr w0 u) : o.wp P (actOf ρ σ.T σ.M) w K Q := by
  unfold effS at h
  split at h
  · rename_i t x hop
    split at h
    · rename_i p hp
      split at h
      · rename_i v hv
        cases h
        refine wp_value (w' := w) (v := v.den ρ) ?_ (hg _ List.mem_cons_self ρ w (Ext.refl _ _) hs)
        unfold execOp
        simp only [hop]
        rw [evalO_ok hp]
        exact run_v (loadV_ok hs hv)
      · cases h
    · cases h
  · rename_i t a x hop
    split at h
    · rename_i p v hp hv
      split at h
      · rename_i σ' hσ
        cases h
        obtain ⟨w', hrun, hs'⟩ := storeS_ok hs hσ
        have hT : σ'.T = σ.T ∧ σ'.M = σ.M := by
          unfold storeS at hσ
          split at hσ
          · split at hσ
            · split at hσ <;> cases hσ; exact ⟨rfl, rfl⟩
            · cases hσ
          · cases hσ
        have := hg _ List.mem_cons_self ρ w' (Ext.refl _ _) hs'
        simp only [hT.1, hT.2] at this
        refine wp_skip' (w' := w') ?_ this
        unfold execOp
        simp only [hop]
        rw [evalO_ok hp, evalO_ok hv, Sem.run_bind, ← toR_den hs.rows v, hrun]; rfl
      · split at h
        · rename_i σ' hσ
          cases h
          obtain ⟨hT, w', hrun, hs'⟩ := storeRS_ok hs hσ
          have := hg _ List.mem_cons_self ρ w' (Ext.refl _ _) hs'
          simp only [hT.1, hT.2] at this
          refine wp_skip' (w' := w') ?_ this
          unfold execOp
          simp only [hop]
          rw [evalO_ok hp, evalO_ok hv, Sem.run_bind, hrun]; rfl
        · cases h
    · cases h
  · rename_i t hop
    split at h
    · rename_i z hz
      split at h
      · rename_i l hl
        split at h
        · rename_i hc
          cases h
          simp only [Bool.and_eq_true, decide_eq_true_eq] at hc
          obtain ⟨i, hi, hzv⟩ := zeroV_ok (ρ := ρ) hz
          have hcells := cells_ok (ρ := ρ.name σ.fr w.heap.size) hl
          have hx := name_ext ρ σ.fr w.heap.size
          have hzz : z.den (ρ.name σ.fr w.heap.size) = z.den ρ := by
            obtain ⟨i2, hi2, hz2⟩ := zeroV_ok (ρ := ρ.name σ.fr w.heap.size) hz
            rw [hi] at hi2; cases hi2; rw [hzv] at hz2; exact (Option.some.inj hz2).symm
          have hs' := sees_new (o := .cells l t) (obj := .cells (z.den ρ).cells t) hs hc.1 hc.2 (by rw [← hzz, hcells]; rfl)
          have := hg _ List.mem_cons_self _ _ hx hs'
          simp only at this
          have hT : actOf (ρ.name σ.fr w.heap.size) (σ.newB (.cells l t)).T (σ.newB (.cells l t)).M = actOf ρ σ.T σ.M := actOf_ext hx (ok_parts hc.1).1 (ok_M hc.1)
          rw [hT] at this
          refine wp_value (v := V.den (ρ.name σ.fr w.heap.size) (.ptr (.n σ.fr) 0 [])) ?_ this
          unfold execOp
          simp only [hop]
          refine run_v2 ?_
          rw [run_alloc hi hzv]
          simp [den_ptr, addrD, offN, Env.blk, Env.name]
        · cases h
      · cases h
    · cases h
  · rename_i t x hop
    split at h
    · rename_i v hv
      split at h
      · rename_i l hl
        split at h
        · rename_i hc
          cases h
          simp only [Bool.and_eq_true, decide_eq_true_eq] at hc
          have hx := name_ext ρ σ.fr w.heap.size
          have hT : actOf (ρ.name σ.fr w.heap.size) (σ.newB (.cells l t)).T (σ.newB (.cells l t)).M = actOf ρ σ.T σ.M := actOf_ext hx (ok_parts hc.1).1 (ok_M hc.1)
          have hvv0 : v.den (ρ.name σ.fr w.heap.size) = v.den ρ := by
            rw [← evalO_ok (ρ := ρ) (M := σ.M) hv, ← evalO_ok (ρ := ρ.name σ.fr w.heap.size) (M := σ.M) hv]
            exact congrArg (fun a => a.eval x) hT
          have hR2 : RowVals (ρ.name σ.fr w.heap.size) σ.R := by
            obtain ⟨-, hH, hF, hW, hRR⟩ := ok_parts hc.1
            exact (sees_ext hx hH hF hW hRR hs).rows
          have hvv : (toR σ.R v).den (ρ.name σ.fr w.heap.size) = v.den ρ := by rw [toR_den hR2, hvv0]
          have hcells := cells_ok (ρ := ρ.name σ.fr w.heap.size) hl
          have hs' := sees_new (o := .cells l t) (obj := .cells (v.den ρ).cells t) hs hc.1 hc.2 (by rw [← hvv, hcells]; rfl)
          have := hg _ List.mem_cons_self _ _ hx hs'
          simp only at this
          rw [hT] at this
          refine wp_value (v := V.den (ρ.name σ.fr w.heap.size) (.ptr (.n σ.fr) 0 [])) ?_ this
          unfold execOp
          simp only [hop]
          refine run_v2 ?_
          rw [evalO_ok hv]
          simp [Instr.box, newVar, newRow, den_ptr, addrD, offN, Env.blk, Env.name]
        · cases h
      · cases h
    · cases h
  · rename_i t n parts hop
    split at h
    · rename_i ps hps
      split at h
      · rename_i e l hl
        split at h
        · rename_i hc
          cases h
          simp only [Bool.and_eq_true, decide_eq_true_eq] at hc
          have hx := name_ext ρ σ.fr w.heap.size
          have hs' := sees_new (o := .cells l e) (obj := .cells (arr (ρ.name σ.fr w.heap.size) l) e) hs hc.1 hc.2 rfl
          have := hg _ List.mem_cons_self _ _ hx hs'
          simp only at this
          have hT : actOf (ρ.name σ.fr w.heap.size) (σ.newB (.cells l e)).T (σ.newB (.cells l e)).M = actOf ρ σ.T σ.M := actOf_ext hx (ok_parts hc.1).1 (ok_M hc.1)
          rw [hT] at this
          refine wp_value (v := V.den (ρ.name σ.fr w.heap.size) (.sl (.n σ.fr) 0 [] (.c n) (.c n))) ?_ this
          unfold execOp
          simp only [hop]
          refine run_v2 ?_
          rw [listV_ok (ρ := ρ.name σ.fr w.heap.size) hl]
          · simp [den_sl, addrD, offN, Env.blk, Env.name]
          · have hR2 : RowVals (ρ.name σ.fr w.heap.size) σ.R := by
              obtain ⟨-, hH, hF, hW, hRR⟩ := ok_parts hc.1
              exact (sees_ext hx hH hF hW hRR hs).rows
            have h1 : (ps.map fun p => (p.1, toR σ.R p.2)).map (fun p : Nat × V => (p.1, p.2.den (ρ.name σ.fr w.heap.size))) = ps.map fun p => (p.1, p.2.den (ρ.name σ.fr w.heap.size)) := by
              rw [List.map_map]
              exact List.map_congr_left fun p _ => by simp only [Function.comp, toR_den hR2]
            rw [h1]
            have := parts_ok (ρ := ρ.name σ.fr w.heap.size) (M := σ.M) hps
            have hT' : actOf (ρ.name σ.fr w.heap.size) σ.T σ.M = actOf ρ σ.T σ.M := hT
            rw [← this, hT']
            simp
        · cases h
      · cases h
    · cases h
  · rename_i t x lo hi hop
    split at h
    · rename_i v l u hxe hle hue
      split at h
      · rename_i es σ' y hsl
        cases h
        have he := musts_ok hs (fun u hu e hue => by
          have := hg u (List.mem_append.2 (.inl hu)) ρ w (Ext.refl _ _) (by
            obtain ⟨e', -, rfl⟩ := List.mem_map.1 hu
            exact hs)
          rw [hue] at this
          exact this)
        obtain ⟨hT, hok, ρ', hx, hr, hs'⟩ := sliceS_ok (σ := σ.share v) (sees_share hs v) hsl he
        have := hg ⟨.val y, σ'⟩ (List.mem_append.2 (.inr List.mem_cons_self)) ρ' w hx hs'
        simp only at this
        rw [hT.1, hT.2, actOf_ext hx (ok_parts hok).1 (ok_M hok)] at this
        refine wp_value ?_ this
        unfold execOp
        simp only [hop]
        rw [evalO_ok hxe, opt_ok hle, opt_ok hue, den_var]
        exact run_v2 hr
      · cases h
    · cases h
  · rename_i t hop
    split at h
    · rename_i hc
      cases h
      simp only [Bool.and_eq_true, decide_eq_true_eq] at hc
      have hx := name_ext ρ σ.fr w.heap.size
      have hs' := sees_new (o := .map []) (obj := .map #[] 0) hs hc.1 hc.2 rfl
      have := hg _ List.mem_cons_self _ _ hx hs'
      simp only at this
      have hT : actOf (ρ.name σ.fr w.heap.size) (σ.newB (.map [])).T (σ.newB (.map [])).M = actOf ρ σ.T σ.M := actOf_ext hx (ok_parts hc.1).1 (ok_M hc.1)
      rw [hT] at this
      refine wp_value (v := V.den (ρ.name σ.fr w.heap.size) (.mp (.n σ.fr))) ?_ this
      unfold execOp
      simp only [hop]
      refine run_v2 ?_
      show (Instr.makeMap t none).run P w = _
      rw [show (Instr.makeMap t none).run P w = .ok (.map (some w.heap.size)) (w.alloc (.map #[] 0)) from rfl]
      simp [den_mp, Env.blk, Env.name]
    · cases h
  · rename_i t m k x hop
    split at h
    · rename_i vm vk vx hm hk hx
      rw [Option.map_eq_some_iff] at h
      obtain ⟨l, hl, rfl⟩ := h
      obtain ⟨τ, hτ, w', h1, h2, h3, hs', hrun⟩ := insertS_ok hs hl
      have := hg _ (List.mem_map.2 ⟨τ, hτ, rfl⟩) ρ w' (Ext.refl _ _) hs'
      simp only [h1, h2] at this
      refine wp_skip' (w' := w') ?_ this
      unfold execOp
      simp only [hop]
      rw [evalO_ok hm, evalO_ok hk, evalO_ok hx, Sem.run_bind, hrun]; rfl
    · cases h
  · rename_i t m k x hop
    split at h
    · rename_i vm vk vx hm hk hx
      rw [Option.map_eq_some_iff] at h
      obtain ⟨l, hl, rfl⟩ := h
      obtain ⟨τ, hτ, w', h1, h2, h3, hs', hrun⟩ := insertS_ok hs hl
      have := hg _ (List.mem_map.2 ⟨τ, hτ, rfl⟩) ρ w' (Ext.refl _ _) hs'
      simp only [h1, h2] at this
      refine wp_skip' (w' := w') ?_ this
      unfold execOp
      simp only [hop]
      rw [evalO_ok hm, evalO_ok hk, evalO_ok hx, Sem.run_bind, hrun]; rfl
    · cases h
  · rename_i t m k ok hop
    split at h
    · rename_i vm vk hm hk
      rw [Option.map_eq_some_iff] at h
      obtain ⟨l, hl, rfl⟩ := h
      obtain ⟨p, hp, ⟨F', hF'⟩, hs', hrun⟩ := lookupS_ok hs hl
      have := hg _ (List.mem_map.2 ⟨p, hp, rfl⟩) ρ w (Ext.refl _ _) hs'
      simp only [hF'] at this
      refine wp_value (w' := w) ?_ this
      unfold execOp
      simp only [hop]
      rw [evalO_ok hm, evalO_ok hk]
      exact run_v hrun
    · cases h
  · rename_i t x y hop
    split at h
    · rename_i a b hae hbe
      split at h
      · rename_i es σ' v hmk
        cases h
        have he := musts_ok hs (fun u hu e hue => by
          have := hg u (List.mem_append.2 (.inl hu)) ρ w (Ext.refl _ _) (by
            obtain ⟨e', -, rfl⟩ := List.mem_map.1 hu
            exact hs)
          rw [hue] at this
          exact this)
        obtain ⟨hT, hok, ρ', w', hx, hr, hs'⟩ := makeS_ok hs hmk he
        have := hg ⟨.val v, σ'⟩ (List.mem_append.2 (.inr List.mem_cons_self)) ρ' w' hx hs'
        simp only at this
        rw [hT.1, hT.2, actOf_ext hx (ok_parts hok).1 (ok_M hok)] at this
        refine wp_value ?_ this
        unfold execOp
        simp only [hop]
        rw [evalO_ok hae, evalO_ok hbe]
        exact run_v2 hr
      · cases h
    · cases h
  · rename_i args ts hop
    split at h
    · rename_i a b t t' hargs hts
      split at h
      · rename_i htt
        subst htt
        split at h
        · rename_i s x hsv hxv
          split at h
          · rename_i es σ' v happ
            cases h
            have he := musts_ok hs (fun u hu e hue => by
              have := hg u (List.mem_append.2 (.inl hu)) ρ w (Ext.refl _ _) (by
                obtain ⟨e', -, rfl⟩ := List.mem_map.1 hu
                exact hs)
              rw [hue] at this
              exact this)
            obtain ⟨hT, hok, ρ', w', hx, hr, hs'⟩ := appendS_ok (ty := o.type) hs happ he
            have := hg ⟨.val v, σ'⟩ (List.mem_append.2 (.inr List.mem_cons_self)) ρ' w' hx hs'
            simp only at this
            rw [hT.1, hT.2, actOf_ext hx (ok_parts hok).1 (ok_M hok)] at this
            refine wp_value ?_ this
            have e1 : args = #[a, b] := by apply Array.ext'; rw [hargs]
            have e2 : ts = #[t, t] := by apply Array.ext'; rw [hts]
            subst e1
            subst e2
            unfold execOp
            simp only [hop, resolve, Sem.run_bind, Sem.run_pure, Result.andThen_ok, invoke, builtin, List.map_toArray, List.map_cons, List.map_nil, evalO_ok hsv, evalO_ok hxv, hr]
          · cases h
        · cases h
      · cases h
    · cases h
  · rename_i f args ts hop
    split at h
    · rename_i g first cap as hf has
      split at h
      · rename_i hok
        simp only [Bool.and_eq_true] at hok
        split at h
        case h_2 => cases h
        rename_i l0 hl0
        split at h
        case isFalse => cases h
        rename_i hpn
        cases h
        obtain ⟨hT, hc⟩ := hcall _ _ _ _ hl0
        have hargs : (arr ρ (first.toL ++ as ++ cap.toL)) = (first.dens ρ).toArray ++ args.map (actOf ρ σ.T σ.M).eval ++ (cap.dens ρ).toArray := by
          have := evalOs_ok (ρ := ρ) (M := σ.M) has
          apply Array.ext'
          simp only [arr, List.map_append, toL_dens, Array.toList_append, Array.toList_map, this]
        refine wp_enter (w' := w) (f := g) (args := arr ρ (first.toL ++ as ++ cap.toL)) ?_ ?_
        · unfold execOp
          simp only [hop, resolve, evalO_ok hf, den_fn, Deferred.ofValue, Sem.run_bind, Sem.run_pure, Result.andThen_ok, invoke]
          rw [callFunc_enters hok.2, hargs]
        · refine hc ρ w0 w _ hpre hs fun u hu ρ' w' hx hs' => ?_
          have h1 := hg u hu ρ' w' hx hs'
          have h2 : actOf ρ' u.st.T u.st.M = actOf ρ σ.T σ.M := by rw [(hT u hu).1, (hT u hu).2.1]; exact actOf_ext hx (ok_parts hok.1).1 (ok_M hok.1)
          rw [h2] at h1
          simp only [Bool.or_eq_true, List.isEmpty_iff, List.all_eq_true] at hpn
          cases hux : u.x <;> simp only [hux] at h1 ⊢
          case val => exact h1
          case must => exact h1
          case panic =>
            refine h1 _ ?_
            rcases hpn with hpn | hpn
            · simp [actOf, hpn]
            · have := hpn u hu
              rw [hux] at this
              cases this
          all_goals exact h1.elim
      · cases h
    · cases h
  · rename_i x hop
    split at h
    · rename_i t v hx
      split at h
      case isFalse => cases h
      rename_i hM
      cases h
      have := hg _ List.mem_cons_self ρ w (Ext.refl _ _) hs (actOf ρ σ.T σ.M) (by simp only [List.isEmpty_iff] at hM; simp [actOf, hM])
      unfold Oper.wp execOp
      simp only [hop]
      rw [evalO_ok hx, den_ifc]
      exact this
    · cases h
  · cases h
end
theorem effX_ok {P : Program} {Pre : Env → Nat → Prop} {keep : List (Nat × TypeId)} {call : FuncId → List V → St → Option (List Out)} (hcall : OkFn TT P Pre call) {σ : St} {o : Oper} {outs : List Out} (h : effX P keep call σ o = some outs)
    {ρ : Env} {w0 w : World} {K : Act → World → Prop} {Q : Exit → Act → World → Prop} (hpre : Pre ρ σ.fr) (hs : Sees TT ρ σ w0 w) (hg : ∀ u ∈ outs, GoodO TT K Q o.dst ρ σ.fr w0 u) : o.wp P (actOf ρ σ.T σ.M) w K Q := by
  unfold effX at h
  split at h
  case h_2 => exact effS_ok hcall h hpre hs hg
  rename_i r hr
  cases h
  unfold sliceG at hr
  split at hr
  · cases hr
  split at hr
  · rename_i t x lo hi hop
    split at hr
    case isFalse => cases hr
    split at hr
    · rename_i v l u hxe hle hue
      split at hr
      · rename_i es σ' y hsl
        cases hr
        have he := musts_ok hs (fun u hu e hue => by
          have := hg u (List.mem_append.2 (.inl hu)) ρ w (Ext.refl _ _) (by
            obtain ⟨e', -, rfl⟩ := List.mem_map.1 hu
            exact hs)
          rw [hue] at this
          exact this)
        obtain ⟨hT, hok, ρ', hx, hr, hs'⟩ := sliceS_ok hs hsl he
        have := hg ⟨.val y, σ'⟩ (List.mem_append.2 (.inr List.mem_cons_self)) ρ' w hx hs'
        simp only at this
        rw [hT.1, hT.2, actOf_ext hx (ok_parts hok).1 (ok_M hok)] at this
        refine wp_value ?_ this
        unfold execOp
        simp only [hop]
        rw [evalO_ok hxe, opt_ok hle, opt_ok hue, den_var]
        exact run_v2 hr
      · cases hr
    · cases hr
  · cases hr
end Go.Proofs.Ytmbhjfembfidnaa.Sx
end
section
namespace Go.Proofs.Ytmbhjfembfidnaa.Sx
open Go
variable {TT : Tb}
section
variable {P : Program} {Γ : Ctx}

theorem bindL_mem' {f : Out → Option (List Out)} : ∀ {l r : List Out}, bindL l f = some r → ∀ x ∈ r, ∃ o ∈ l, ∃ s, f o = some s ∧ x ∈ s
  | [], r, h, x, hx => by cases h; cases hx
  | a :: l, r, h, x, hx => by
    simp only [bindL] at h
    split at h
    · rename_i s t h1 h2
      cases h
      rcases List.mem_append.1 hx with hx | hx
      · exact ⟨a, List.mem_cons_self, s, h1, hx⟩
      · obtain ⟨o, ho, s', hs', hx'⟩ := bindL_mem' h2 x hx
        exact ⟨o, List.mem_cons_of_mem _ ho, s', hs', hx'⟩
    · cases h
theorem foldL_mem {f : Nat → Option (List Out)} : ∀ {l : List Nat} {r : List Out}, foldL l f = some r → ∀ o ∈ l, ∃ s, f o = some s ∧ ∀ x ∈ s, x ∈ r
  | [], r, h, o, ho => by cases ho
  | a :: l, r, h, o, ho => by
    simp only [foldL] at h
    split at h
    · rename_i x y h1 h2
      cases h
      rcases List.mem_cons.1 ho with rfl | ho
      · exact ⟨x, h1, fun z hz => List.mem_append.2 (.inl hz)⟩
      · obtain ⟨s, hs, hsub⟩ := foldL_mem h2 o ho
        exact ⟨s, hs, fun z hz => List.mem_append.2 (.inr (hsub z hz))⟩
    · cases h

/-- What is held of memory while a region's operations come up in some order. -/
def Held (L : List (Addr × Value)) (w : World) : Prop := ∀ p ∈ L, w.cell? p.1 = some p.2
def Tied (ρ : Env) (K : List (V × V)) (L : List (Addr × Value)) : Prop := ∀ p ∈ L, ∃ q ∈ K, q.1.den ρ = .pointer (some p.1) ∧ p.2 = q.2.den ρ
def cellsOf (ρ : Env) (K : List (V × V)) : List (Addr × Value) := K.filterMap fun q => match q.1.den ρ with | .pointer (some a) => some (a, q.2.den ρ) | _ => none
theorem mem_cells {ρ : Env} {K : List (V × V)} {q : V × V} (hq : q ∈ K) {a : Addr} (ha : q.1.den ρ = .pointer (some a)) : (a, q.2.den ρ) ∈ cellsOf ρ K :=
  List.mem_filterMap.2 ⟨q, hq, by simp only [ha]⟩
theorem tied_cells (ρ : Env) (K : List (V × V)) : Tied ρ K (cellsOf ρ K) := fun p hp => by
  obtain ⟨q, hq, h⟩ := List.mem_filterMap.1 hp
  split at h
  · rename_i a ha
    cases h
    exact ⟨q, hq, ha, rfl⟩
  · cases h
theorem kept_ok {ρ ρ' : Env} {n : Nat} {σ : St} {K : List (V × V)} (hk : kept n σ K = true) (hx : Ext n ρ ρ') {w0 w : World} (hs : Sees TT ρ' σ w0 w) {L : List (Addr × Value)} (ht : Tied ρ K L) : Tied ρ' K L ∧ Held L w := by
  unfold kept at hk
  rw [List.all_eq_true] at hk
  refine ⟨fun p hp => ?_, fun p hp => ?_⟩
  · obtain ⟨q, hq, e1, e2⟩ := ht p hp
    have := hk q hq
    simp only [Bool.and_eq_true] at this
    exact ⟨q, hq, by rw [den_extV hx this.1.1, e1], by rw [den_extV hx this.1.2, e2]⟩
  · obtain ⟨q, hq, e1, e2⟩ := ht p hp
    have := hk q hq
    simp only [Bool.and_eq_true, beq_iff_eq] at this
    obtain ⟨a, h1, -, h2⟩ := cellAt_ok hs this.2
    rw [den_extV hx this.1.1, e1] at h1
    injection h1 with h1
    injection h1 with h1
    rw [h1, h2, e2, den_extV hx this.1.2]
theorem loadK_held {ρ : Env} {σ : St} {w0 w : World} (hs : Sees TT ρ σ w0 w) (t : TypeId) (x : V) : Held (cellsOf ρ (loadK P σ t x)) w := by
  intro p hp
  obtain ⟨q, hq, e1, e2⟩ := tied_cells ρ _ p hp
  have key : cellAt σ q.1 = some q.2 := by
    rcases List.mem_append.1 hq with hq | hq
    · split at hq
      · rename_i v hv; cases List.mem_singleton.1 hq; exact hv
      · cases hq
    · split at hq
      · obtain ⟨j, -, h⟩ := List.mem_filterMap.1 hq
        rw [Option.map_eq_some_iff] at h
        obtain ⟨v, hv, rfl⟩ := h
        exact hv
      · cases hq
  obtain ⟨a, h1, -, h2⟩ := cellAt_ok hs key
  rw [e1] at h1
  injection h1 with h1
  injection h1 with h1
  rw [h1, h2, e2]
theorem cellsAt_get {σ : St} {p : V} : ∀ {n j : Nat} {l : List V}, cellsAt σ p j n = some l → ∀ i, i < n → ∃ u, l[i]? = some u ∧ cellAt σ (shiftP (j + i) p) = some u
  | 0, _, _, _, i, hi => by omega
  | n + 1, j, l, h, i, hi => by
    simp only [cellsAt] at h
    split at h
    · rename_i v l' h1 h2
      cases h
      cases i with
      | zero => exact ⟨v, rfl, h1⟩
      | succ i =>
        obtain ⟨u, e1, e2⟩ := cellsAt_get h2 i (by omega)
        exact ⟨u, by simpa using e1, by rwa [show j + 1 + i = j + (i + 1) by omega] at e2⟩
    · cases h
theorem loadK_ok {ρ : Env} {σ : St} {w0 w1 : World} (hs : Sees TT ρ σ w0 w1) {t : TypeId} {x v : V} (hl : loadV P σ t x = some v) {w : World} (hh : Held (cellsOf ρ (loadK P σ t x)) w) : (Instr.loadAt t (x.den ρ)).run P w = .ok (v.den ρ) w := by
  unfold loadV at hl
  split at hl
  · rename_i hp
    split at hl
    · rename_i n h1 h2
      split at hl
      · rename_i u l hc0 hc
        cases hl
        obtain ⟨a, ha, hsp, -⟩ := cellAt_ok hs hc0
        obtain ⟨e1, -⟩ := cellsAt_ok hs hp ha hsp hc
        simp only [Instr.loadAt, ha, Instr.sureAddr, Sem.run_bind, Sem.run_pure, Result.andThen_ok, loadVar, isAgg_ok h1, if_true, sizeOf_ok h2, agg_ofL]
        have := run_loadCells_list (P := P) w a (l.map (V.den ρ)) (fun j y hj => by
          rw [List.getElem?_map, Option.map_eq_some_iff] at hj
          obtain ⟨z, hz, rfl⟩ := hj
          have hjn : j < n := by rw [← e1]; exact (List.getElem?_eq_some_iff.1 hz).1
          obtain ⟨u', e3, e4⟩ := cellsAt_get hc j hjn
          rw [hz] at e3
          cases e3
          rw [Nat.zero_add] at e4
          refine hh (a.add j, z.den ρ) (mem_cells (q := (shiftP j x, z)) ?_ (shift_den hp ha hsp j))
          unfold loadK
          simp only [h1, h2]
          exact List.mem_append.2 (.inr (List.mem_filterMap.2 ⟨j, by simpa using hjn, by simp [e4]⟩)))
        rw [List.length_map, e1] at this
        rw [this]; rfl
      · cases hl
    · rename_i h1
      obtain ⟨a, ha, -, -⟩ := cellAt_ok hs hl
      have hc : w.cell? a = some (v.den ρ) := hh (a, v.den ρ) (mem_cells (q := (x, v)) (by unfold loadK; simp [hl]) ha)
      simp only [Instr.loadAt, ha, Instr.sureAddr, Sem.run_bind, Sem.run_pure, Result.andThen_ok, loadVar, isAgg_ok h1, Bool.false_eq_true, if_false, run_load, hc]
    · cases hl
  · cases hl

theorem pick_ok {ops : Array Oper} {listed : Array Bool} {σ : St} {i : Nat} {v : V} {K : List (V × V)} : ∀ {rs : List Nat}, pickOp P ops listed σ rs = .take i v K →
    i ∈ rs ∧ Region.free .any ops listed i = true ∧ ∃ o, ops[i]? = some o ∧ ((guardV ops σ o = some (.inl false) ∧ v = undefV ∧ K = []) ∨
      (guardV ops σ o = some (.inl true) ∧ ((opW P σ o = some (.val v) ∧ K = []) ∨ ∃ t x p, o.op = .load t x ∧ evalO σ.T x = some p ∧ loadV P σ t p = some v ∧ K = loadK P σ t p)))
  | [], h => by cases h
  | j :: rest, h => by
    have later : pickOp P ops listed σ rest = .take i v K → i ∈ j :: rest ∧ Region.free .any ops listed i = true ∧ ∃ o, ops[i]? = some o ∧ ((guardV ops σ o = some (.inl false) ∧ v = undefV ∧ K = []) ∨
      (guardV ops σ o = some (.inl true) ∧ ((opW P σ o = some (.val v) ∧ K = []) ∨ ∃ t x p, o.op = .load t x ∧ evalO σ.T x = some p ∧ loadV P σ t p = some v ∧ K = loadK P σ t p))) := fun h => by
      obtain ⟨h1, h2⟩ := pick_ok h
      exact ⟨List.mem_cons_of_mem _ h1, h2⟩
    simp only [pickOp] at h
    split at h
    · cases h
    · rename_i o ho
      split at h
      · rename_i hg
        split at h
        · rename_i hf
          cases h
          exact ⟨List.mem_cons_self, hf, o, ho, .inl ⟨hg, rfl, rfl⟩⟩
        · exact later h
      · cases h
      · rename_i hg
        split at h
        · rename_i hf
          split at h
          · rename_i hv
            cases h
            exact ⟨List.mem_cons_self, hf, o, ho, .inr ⟨hg, .inl ⟨hv, rfl⟩⟩⟩
          · cases h
          · cases h
          · split at h
            · rename_i t x hop
              split at h
              · rename_i p hp
                split at h
                · rename_i u hu
                  split at h
                  · exact later h
                  · cases h
                    exact ⟨List.mem_cons_self, hf, o, ho, .inr ⟨hg, .inr ⟨t, x, p, hop, hp, hu, rfl⟩⟩⟩
                · exact later h
              · exact later h
            · exact later h
        · exact later h
      · exact later h

theorem strong_blind {Q : Exit → Act → World → Prop} (d : Option Tmp) (v : Value) (cc : List PanicEntry) (a : Act) (w : World) (h : strong Q (.panic cc) (a.put d v) w) : strong Q (.panic cc) a w := by
  obtain ⟨h1, h2⟩ := h
  refine ⟨?_, h2⟩
  cases d <;> exact h1

/-- What is known of the rounds that are under way. -/
structure Kn (ρ : Env) (Γ : Ctx) (r : Option Nat) (m : Nat) : Prop where
  rd : r = Γ.rd.map ρ.n
  lt : ∀ q, Γ.rd = some q → q < m
  recs : ∀ p ∈ Γ.rounds, p.1 < m ∧ (∃ m0, m0 ≤ m ∧ p.2.T.all (V.under m0) = true) ∧ (ρ.c p.1).tmps = arr ρ p.2.T ∧ (ρ.c p.1).params = p.2.ps ∧ (ρ.c p.1).assign = p.2.a ∧ (ρ.c p.1).body = p.2.b
theorem arr_ext {m : Nat} {ρ ρ' : Env} (hx : Ext m ρ ρ') {T : List V} (hu : T.all (V.under m) = true) : arr ρ' T = arr ρ T := by simp only [arr, dens_extL hx hu]
theorem Kn.ext {ρ ρ' : Env} {Γ : Ctx} {r : Option Nat} {m m' : Nat} (h : Kn ρ Γ r m) (hx : Ext m ρ ρ') (hm : m ≤ m') : Kn ρ' Γ r m' :=
  ⟨by rw [h.rd]; cases hq : Γ.rd with
    | none => rfl
    | some q => simp only [Option.map_some, hx.n q (h.lt q hq)],
   fun q hq => Nat.lt_of_lt_of_le (h.lt q hq) hm, fun p hp => by
    obtain ⟨h1, ⟨m0, h2, h3⟩, h4⟩ := h.recs p hp
    refine ⟨by omega, ⟨m0, by omega, h3⟩, ?_⟩
    rw [hx.c _ h1, arr_ext (hx.mono h2) h3]
    exact h4⟩
theorem Kn.plain {ρ : Env} {Γ : Ctx} {r : Option Nat} {m : Nat} (h : Kn ρ Γ r m) : Kn ρ { Γ with rd := none } none m := ⟨rfl, fun q hq => (by cases hq), h.recs⟩
theorem Kn.round {ρ : Env} {Γ : Ctx} {r : Option Nat} {m l : Nat} (h : Kn ρ Γ r m) (hl : l < m) : Kn ρ { Γ with rd := some l } (some (ρ.n l)) m := ⟨rfl, fun q hq => (by cases hq; exact hl), h.recs⟩
def OkCode (TT : Tb) (P : Program) (Γ : Ctx) (g : Nat) : Prop := ∀ c σ outs, go P g Γ (.code c) σ = some outs → ∀ ρ w0 w Q r, Kn ρ Γ r σ.fr → Sees TT ρ σ w0 w → (∀ o ∈ outs, GoodC TT Q ρ σ.fr w0 o) → c.wpIn (fen r) 0 P Q (actOf ρ σ.T σ.M) w
def OkOp (TT : Tb) (P : Program) (Γ : Ctx) (g : Nat) : Prop := ∀ o σ outs, go P g Γ (.op o) σ = some outs → ∀ ρ w0 w K Q r, Kn ρ Γ r σ.fr → Sees TT ρ σ w0 w → (∀ u ∈ outs, GoodO TT K Q o.dst ρ σ.fr w0 u) → o.wpIn (fen r) 0 P (actOf ρ σ.T σ.M) w K Q
def OkSeq (TT : Tb) (P : Program) (Γ : Ctx) (g : Nat) : Prop := ∀ ops l σ outs, go P g Γ (.seq ops l) σ = some outs → ∀ ρ w0 w Q r, Kn ρ Γ r σ.fr → Sees TT ρ σ w0 w → (∀ o ∈ outs, GoodC TT Q ρ σ.fr w0 o) → wpOpsIn (fen r) 0 P ops Q l (actOf ρ σ.T σ.M) w
def OkAny (TT : Tb) (P : Program) (Γ : Ctx) (g : Nat) : Prop := ∀ ops n listed K σ outs, go P g Γ (.any ops n listed K) σ = some outs → Region.noSelect ops = true → ∀ ρ w0 w Q L r, (∀ (j : Nat) (o : Oper), ops[j]? = some o → Plain r o) → Kn ρ Γ r σ.fr → Sees TT ρ σ w0 w → Tied ρ K L → Held L w →
  (∀ o ∈ outs, GoodC TT Q ρ σ.fr w0 o) → wpAnyR r P .any ops (strong Q) (Held L) n listed (actOf ρ σ.T σ.M) w
def Known (Γ : Ctx) (ρ : Env) (m : Nat) : Prop := ∃ r, Kn ρ Γ r m
def OkFnG (TT : Tb) (P : Program) (Γ : Ctx) (g : Nat) : Prop := OkFn TT P (Known Γ) fun f as τ => go P g Γ (.fn f as) τ
/-- A round, as the call of yield meets it. -/
def OkRound (TT : Tb) (P : Program) (Γ : Ctx) (g : Nat) : Prop := ∀ l args σ outs, go P g Γ (.round l args) σ = some outs → (σ.ok = true ∧ ∀ o ∈ outs, o.st.T = σ.T ∧ o.st.M = σ.M ∧ ∀ v, o.x ≠ .panic v) ∧
  ∀ ρ w0 w R r, Kn ρ Γ r σ.fr → Sees TT ρ σ w0 w → (∀ o ∈ outs, GoodF TT R ρ σ.fr w0 o) → ∃ fn tmps a b, (Instr.yield (ρ.n l) (arr ρ args)).run P w = .ok (.round (ρ.n l) fn tmps a b) w ∧ RoundIn (fen r) 0 P (ρ.n l) fn tmps a b w R

theorem GoodC.strong {Q : Exit → Act → World → Prop} {ρ : Env} {n : Nat} {w0 : World} {o : Out} (h : GoodC TT Q ρ n w0 o) : GoodC TT (strong Q) ρ n w0 o := by
  intro ρ' w' hx hs
  have := h ρ' w' hx hs
  revert this
  cases o.x <;> intro this
  case panic => exact fun a ha => ⟨ha, fun a' ha' => this a' ha'⟩
  all_goals exact this

theorem plain_of {Γ : Ctx} {ρ : Env} {r : Option Nat} {m : Nat} (hk : Kn ρ Γ r m) {o : Oper} (h : ¬ (Γ.rd.isSome && isDefer o) = true) : Plain r o := by
  cases hr : Γ.rd with
  | none => left; rw [hk.rd, hr]; rfl
  | some q => right; simpa [hr] using h
theorem ok_op {g : Nat} (hop : OkOp TT P Γ g) (hfn : OkFnG TT P Γ g) (hrd : OkRound TT P Γ g) : OkOp TT P Γ (g + 1) := by
  intro o σ outs h ρ w0 w K Q r hk hs hg
  simp only [go] at h
  split at h
  · cases h
  rename_i hdf
  have hpl := plain_of hk hdf
  split at h
  · rename_i v hv
    cases h
    exact op_in hpl (wp_value (opW_ok hs hv w) (hg _ List.mem_cons_self ρ w (Ext.refl _ _) hs))
  · rename_i e he
    split at h
    · rename_i l hl
      cases h
      have hb : e.B ρ = true := hg _ List.mem_cons_self ρ w (Ext.refl _ _) hs
      exact hop o (σ.know e true) l hl ρ w0 w K Q r hk (hs.know hb) fun u hu => hg u (List.mem_cons_of_mem _ hu)
    · cases h
  · rename_i e he
    split at h
    · rename_i x y h1 h2
      cases h
      cases hb : e.B ρ with
      | true => exact hop o (σ.know e true) x h1 ρ w0 w K Q r hk (hs.know hb) fun u hu => hg u (List.mem_append.2 (.inl hu))
      | false => exact hop o (σ.know e false) y h2 ρ w0 w K Q r hk (hs.know hb) fun u hu => hg u (List.mem_append.2 (.inr hu))
    · cases h
  · split at h
    · rename_i l vs hy
      obtain ⟨⟨hok, hT⟩, hround⟩ := hrd l vs σ outs h
      unfold yieldOf at hy
      split at hy
      · rename_i f args ts hop'
        split at hy
        · rename_i l' hf
          rw [Option.map_eq_some_iff] at hy
          obtain ⟨vs', hvs, hy⟩ := hy
          cases hy
          obtain ⟨fn, tmps, a, b, hrun, hin⟩ := hround ρ w0 w (fun | .returned v, w'' => K ((actOf ρ σ.T σ.M).put o.dst v) w'' | _, _ => False) r hk hs fun u hu ρ' w' hx hs' => by
            have h1 := hg u hu ρ' w' hx hs'
            have h2 : actOf ρ' u.st.T u.st.M = actOf ρ σ.T σ.M := by rw [(hT u hu).1, (hT u hu).2.1]; exact actOf_ext hx (ok_parts hok).1 (ok_M hok)
            have h3 := (hT u hu).2.2
            rw [h2] at h1
            cases hux : u.x <;> simp only [hux] at h1 h3 ⊢
            case val => exact h1
            case must => exact h1
            case panic v => exact h3 v rfl
            all_goals exact h1.elim
          refine ⟨fun _ _ => fen_fn r _, ?_⟩
          rw [fen_round, hpl.sem]
          have hargs : args.map (actOf ρ σ.T σ.M).eval = arr ρ vs := by
            have := evalOs_ok (ρ := ρ) (M := σ.M) hvs
            apply Array.ext'
            simp only [arr, Array.toList_map, this]
          have he : (execOp (actOf ρ σ.T σ.M).eval o).run P w = .ok (.round (ρ.n l) fn tmps a b) w := by
            unfold execOp
            simp only [hop', resolve, evalO_ok hf, den_yld, Deferred.ofValue, Sem.run_bind, Sem.run_pure, Result.andThen_ok, invoke]
            simp only [Array.empty_append, hargs]
            exact hrun
          rw [he]
          exact ⟨fen_deep, hin.mono fun e w'' hh => by cases e <;> first | exact hh | exact hh.elim⟩
        · cases hy
      · cases hy
    · exact op_in hpl (effX_ok hfn h ⟨r, hk⟩ hs hg)

theorem ok_seq {g : Nat} (hop : OkOp TT P Γ g) (hseq : OkSeq TT P Γ g) : OkSeq TT P Γ (g + 1) := by
  intro ops l σ outs h ρ w0 w Q r hk hs hg
  cases l with
  | nil =>
    simp only [go] at h
    cases h
    exact hg _ List.mem_cons_self ρ w (Ext.refl _ _) hs
  | cons i rest =>
    rw [wpOpsIn_cons]
    simp only [go] at h
    unfold wpOpIn
    split at h
    · rename_i ho
      rw [ho]
      exact hseq ops rest σ outs h ρ w0 w Q r hk hs hg
    · rename_i o ho
      rw [ho]
      simp only
      split at h
      · rename_i hgd
        rw [guard_ok hs hgd]
        simp only [Bool.false_eq_true, if_false]
        refine ⟨fun _ _ => fen_fn r _, ?_⟩
        rw [← undef_den ρ, act_put]
        exact hseq ops rest _ outs h ρ w0 w Q r (by rw [put_fr]; exact hk) (hs.put _ _) fun u hu => by rw [put_fr]; exact hg u hu
      · rename_i e he
        split at h
        · rename_i x y h1 h2
          cases h
          have key := hseq ops (i :: rest)
          cases hb : e.B ρ with
          | true =>
            have := key (σ.know e true) x h1 ρ w0 w Q r hk (hs.know hb) fun u hu => hg u (List.mem_append.2 (.inl hu))
            rw [wpOpsIn_cons] at this
            unfold wpOpIn at this
            rw [ho] at this
            exact this
          | false =>
            have := key (σ.know e false) y h2 ρ w0 w Q r hk (hs.know hb) fun u hu => hg u (List.mem_append.2 (.inr hu))
            rw [wpOpsIn_cons] at this
            unfold wpOpIn at this
            rw [ho] at this
            exact this
        · cases h
      · rename_i hgd
        rw [guard_ok hs hgd]
        simp only [if_true]
        split at h
        · rename_i l hl
          refine hop o σ l hl ρ w0 w _ _ r hk hs fun u hu ρ' w' hx hs' => ?_
          obtain ⟨s, hf, hsub⟩ := bindL_mem h u hu
          cases hux : u.x with
          | val v =>
            simp only [hux] at hf ⊢
            split at hf
            · rename_i hfr
              rw [act_putN hs'.rows]
              exact hseq ops rest _ s hf ρ' w0 w' Q r (by rw [putN_fr]; exact hk.ext hx hfr) (hs'.putN _ _) fun z hz => by
                rw [putN_fr]; exact (hg z (hsub z hz)).ext hx hfr
            · cases hf
          | must e =>
            simp only [hux] at hf ⊢
            cases hf
            have := hg u (hsub u List.mem_cons_self) ρ' w' hx hs'
            rw [hux] at this
            exact this
          | panic v =>
            simp only [hux] at hf ⊢
            cases hf
            have := hg u (hsub u List.mem_cons_self) ρ' w' hx hs'
            rw [hux] at this
            exact this
          | _ => simp only [hux] at hf; cases hf
        · cases h
      · cases h

theorem ok_any {g : Nat} (hop : OkOp TT P Γ g) (hany : OkAny TT P Γ g) : OkAny TT P Γ (g + 1) := by
  intro ops n listed K σ outs h hsel ρ w0 w Q L r hpl hk hs ht hh hg
  simp only [go] at h
  split at h
  · rename_i hr
    cases h
    refine anyR_done hr ?_ n
    exact hg _ List.mem_cons_self ρ w (Ext.refl _ _) hs
  · rename_i hr
    split at h
    · rename_i e he
      split at h
      · rename_i l hl
        cases h
        have hb : e.B ρ = true := hg _ List.mem_cons_self ρ w (Ext.refl _ _) hs
        exact hany ops n listed K (σ.know e true) l hl hsel ρ w0 w Q L r hpl hk (hs.know hb) ht hh fun u hu => hg u (List.mem_cons_of_mem _ hu)
      · cases h
    · rename_i e he
      split at h
      · rename_i x y h1 h2
        cases h
        cases hb : e.B ρ with
        | true => exact hany ops n listed K (σ.know e true) x h1 hsel ρ w0 w Q L r hpl hk (hs.know hb) ht hh fun u hu => hg u (List.mem_append.2 (.inl hu))
        | false => exact hany ops n listed K (σ.know e false) y h2 hsel ρ w0 w Q L r hpl hk (hs.know hb) ht hh fun u hu => hg u (List.mem_append.2 (.inr hu))
      · cases h
    · rename_i i v K' hp
      obtain ⟨hi, hf, o, ho, hcase⟩ := pick_ok hp
      split at h
      · rename_i m o' ho'
        rw [ho] at ho'; cases ho'
        have hh' : Held (cellsOf ρ K' ++ L) w ∧ YieldsIf P ops (Held (cellsOf ρ K' ++ L)) o (v.den ρ) (actOf ρ σ.T σ.M) := by
          rcases hcase with ⟨h1, rfl, rfl⟩ | ⟨h1, ⟨h2, rfl⟩ | ⟨t, x, p, h2, h3, h4, rfl⟩⟩
          · exact ⟨hh, .inr ⟨guard_ok hs h1, rfl⟩⟩
          · exact ⟨hh, .inl ⟨guard_ok hs h1, fun w' _ => opW_ok hs h2 w'⟩⟩
          · have hk := loadK_held (P := P) hs t p
            refine ⟨fun q hq => ?_, .inl ⟨guard_ok hs h1, fun w' hw' => ?_⟩⟩
            · rcases List.mem_append.1 hq with hq | hq
              · exact hk q hq
              · exact hh q hq
            · unfold execOp
              simp only [h2]
              rw [evalO_ok h3]
              exact run_v (loadK_ok hs h4 fun q hq => hw' q (List.mem_append.2 (.inl hq)))
        refine anyR_weaken (S' := Held (cellsOf ρ K' ++ L)) (fun w' hw' q hq => hw' q (List.mem_append.2 (.inr hq))) _ _ _ _ ?_
        refine anyR_take hpl ho hsel hf (by simpa using hi) (fun cc a w' => strong_blind _ _ cc a w') hh'.2 hh'.1 ?_
        rw [act_putN hs.rows]
        refine hany ops m _ (K' ++ K) _ outs h hsel ρ w0 w Q _ r hpl (by rw [putN_fr]; exact hk) (hs.putN _ _) (fun q hq => ?_) hh'.1 (fun u hu => by rw [putN_fr]; exact hg u hu)
        rcases List.mem_append.1 hq with hq | hq
        · obtain ⟨z, hz, e⟩ := tied_cells ρ K' q hq
          exact ⟨z, List.mem_append.2 (.inl hz), e⟩
        · obtain ⟨z, hz, e⟩ := ht q hq
          exact ⟨z, List.mem_append.2 (.inr hz), e⟩
      · cases h
    · split at h
      · cases h
      · rename_i m
        refine ⟨fun h0 => absurd h0 hr, fun i hi => ?_⟩
        obtain ⟨s, hf, hsub⟩ := foldL_mem h i hi
        split at hf
        · rename_i o ho
          unfold wpOpIn
          rw [ho]
          simp only
          split at hf
          · rename_i hgd
            rw [guard_ok hs hgd]
            simp only [Bool.false_eq_true, if_false]
            refine ⟨fun _ _ => fen_fn r _, hh, ?_⟩
            rw [← undef_den ρ, act_put]
            exact hany ops m _ K _ s hf hsel ρ w0 w Q L r hpl (by rw [put_fr]; exact hk) (hs.put _ _) ht hh fun u hu => by rw [put_fr]; exact hg u (hsub u hu)
          · rename_i hgd
            rw [guard_ok hs hgd]
            simp only [if_true]
            split at hf
            · rename_i l hl
              refine hop o σ l hl ρ w0 w _ _ r hk hs fun u hu ρ' w' hx hs' => ?_
              obtain ⟨s', hf', hsub'⟩ := bindL_mem hf u hu
              cases hux : u.x with
              | val v =>
                simp only [hux] at hf' ⊢
                split at hf'
                · rename_i hfr
                  obtain ⟨ht', hh'⟩ := kept_ok hfr.2 hx hs' ht
                  refine ⟨hh', ?_⟩
                  rw [act_putN hs'.rows]
                  exact hany ops m _ K _ s' hf' hsel ρ' w0 w' Q L r hpl (by rw [putN_fr]; exact hk.ext hx hfr.1) (hs'.putN _ _) ht' hh' fun z hz => by
                    rw [putN_fr]; exact (hg z (hsub z (hsub' z hz))).ext hx hfr.1
                · cases hf'
              | must e =>
                simp only [hux] at hf' ⊢
                cases hf'
                have := hg u (hsub u (hsub' u List.mem_cons_self)) ρ' w' hx hs'
                rw [hux] at this
                exact this
              | panic v =>
                simp only [hux] at hf' ⊢
                cases hf'
                have := (hg u (hsub u (hsub' u List.mem_cons_self))).strong ρ' w' hx hs'
                rw [hux] at this
                exact this
              | _ => simp only [hux] at hf'; cases hf'
            · cases hf
          · cases hf
        · cases hf
end
end Go.Proofs.Ytmbhjfembfidnaa.Sx
end
section
namespace Go.Proofs.Ytmbhjfembfidnaa.Sx
open Go
variable {TT : Tb}

theorem isI_den {ρ : Env} : ∀ {e : E}, e.isI = true → e.den ρ = { i := e.I ρ } := by
  intro e
  induction e <;> intro h <;> first | (simp only [E.isI] at h; cases h; done) | rfl | skip
  rename_i q a b _ iha ihb
  simp only [E.isI, Bool.and_eq_true] at h
  simp only [E.den, I_ite]
  show (if E.B ρ q = true then _ else _) = _
  split
  · exact iha h.1
  · exact ihb h.2
theorem isB_den {ρ : Env} : ∀ {e : E}, e.isB = true → e.den ρ = { b := e.B ρ } := by
  intro e
  induction e <;> intro h <;> first | (simp only [E.isB] at h; cases h; done) | rfl | skip
  rename_i q a b _ iha ihb
  simp only [E.isB, Bool.and_eq_true] at h
  have hB : E.B ρ (.ite q a b) = if q.B ρ then a.B ρ else b.B ρ := by show (if (q.den ρ).b then a.den ρ else b.den ρ).b = _; unfold E.B; split <;> rfl
  simp only [E.den, hB]
  show (if E.B ρ q = true then _ else _) = _
  split
  · exact iha h.1
  · exact ihb h.2
theorem isS_den {ρ : Env} : ∀ {e : E}, e.isS = true → e.den ρ = { s := e.S ρ } := by
  intro e
  induction e <;> intro h <;> first | (simp only [E.isS] at h; cases h; done) | rfl | skip
  rename_i q a b _ iha ihb
  simp only [E.isS, Bool.and_eq_true] at h
  have hB : E.S ρ (.ite q a b) = if q.B ρ then a.S ρ else b.S ρ := by show (if (q.den ρ).b then a.den ρ else b.den ρ).s = _; unfold E.S E.B; split <;> rfl
  simp only [E.den, hB]
  show (if E.B ρ q = true then _ else _) = _
  split
  · exact iha h.1
  · exact ihb h.2
theorem isL_den {ρ : Env} {e : E} (h : e.isL = true) : e.den ρ = { l := e.L ρ } := by
  cases e <;> first | (simp only [E.isL] at h; cases h; done) | rfl
theorem compI_isI (e : E) : (compI e).isI = true := by unfold compI; split <;> split <;> first | assumption | rfl
theorem compL_isL (e : E) : (compL e).isL = true := by unfold compL; split <;> split <;> first | assumption | rfl
theorem compI_of {e : E} (h : e.isI = true) : compI e = e := by
  unfold compI
  split
  · simp [E.isI] at h
  · simp [h]
theorem compI_den (ρ : Env) (e : E) : (compI e).den ρ = { i := (compI e).I ρ } := isI_den (compI_isI e)
theorem compL_den (ρ : Env) (e : E) : (compL e).den ρ = { l := (compL e).L ρ } := isL_den (compL_isL e)
theorem compB_den (ρ : Env) (e : E) : (compB e).den ρ = { b := (compB e).B ρ } := isB_den (by unfold compB; split; assumption; rfl)
theorem compS_den (ρ : Env) (e : E) : (compS e).den ρ = { s := (compS e).S ρ } := isS_den (by unfold compS; split; assumption; rfl)

/-- The names from n on stand for what these values are. -/
def Env.assign (ρ : Env) (n : Nat) (R : List (Nat × Row)) (vs : List V) : Env :=
  { ρ with
    i := fun k => if n ≤ k then (compI ((vs.map (V.asE R)).getD (k - n) (.c 0))).I ρ else ρ.i k
    b := fun k => if n ≤ k then (compB ((vs.map (V.asE R)).getD (k - n) (.c 0))).B ρ else ρ.b k
    s := fun k => if n ≤ k then (compS ((vs.map (V.asE R)).getD (k - n) (.c 0))).S ρ else ρ.s k
    l := fun k => if n ≤ k then (compL ((vs.map (V.asE R)).getD (k - n) (.c 0))).L ρ else ρ.l k
    v := fun k => if n ≤ k then (vs.getD (k - n) undefV).den ρ else ρ.v k }
theorem assign_ext (ρ : Env) (n : Nat) (R : List (Nat × Row)) (vs : List V) : Ext n ρ (ρ.assign n R vs) :=
  ⟨fun k hk => by simp [Env.assign]; omega, fun k hk => by simp [Env.assign]; omega, fun k hk => by simp [Env.assign]; omega, fun k hk => by simp [Env.assign]; omega, fun _ _ => rfl, rfl, rfl, rfl, fun k hk => by simp [Env.assign]; omega, fun _ _ => rfl, rfl⟩
theorem assign_blk (ρ : Env) (n : Nat) (R : List (Nat × Row)) (vs : List V) (b : Bk) : (ρ.assign n R vs).blk b = ρ.blk b := by cases b <;> rfl
theorem subst_den (ρ : Env) (n : Nat) (R : List (Nat × Row)) (vs : List V) : ∀ e : E, (e.subst n (vs.map (V.asE R))).den ρ = e.den (ρ.assign n R vs) := by
  intro e
  induction e <;> simp only [E.subst, E.den] <;> try (simp_all; done)
  case v k =>
    split
    · rename_i h; rw [compI_den]; simp only [Env.assign, h, if_true]
    · rename_i h; simp only [E.den, Env.assign, h, if_false]
  case bv k =>
    split
    · rename_i h; rw [compB_den]; simp only [Env.assign, h, if_true]
    · rename_i h; simp only [E.den, Env.assign, h, if_false]
  case sv k =>
    split
    · rename_i h; rw [compS_den]; simp only [Env.assign, h, if_true]
    · rename_i h; simp only [E.den, Env.assign, h, if_false]
  case app f l ih => rw [ih]; rfl
  case happ f l ih => rw [ih]; rfl
  case sapp f l ih => rw [ih]; rfl
  case lapp f l ih => rw [ih]; rfl
  case lv k =>
    split
    · rename_i h; rw [compL_den]; simp only [Env.assign, h, if_true]
    · rename_i h; simp only [E.den, Env.assign, h, if_false]
theorem subst_B (ρ : Env) (n : Nat) (R : List (Nat × Row)) (vs : List V) (e : E) : (e.subst n (vs.map (V.asE R))).B ρ = e.B (ρ.assign n R vs) := congrArg D.b (subst_den ρ n R vs e)
theorem subst_L (ρ : Env) (n : Nat) (R : List (Nat × Row)) (vs : List V) (e : E) : (e.subst n (vs.map (V.asE R))).L ρ = e.L (ρ.assign n R vs) := congrArg D.l (subst_den ρ n R vs e)
theorem subst_I (ρ : Env) (n : Nat) (R : List (Nat × Row)) (vs : List V) (e : E) : (e.subst n (vs.map (V.asE R))).I ρ = e.I (ρ.assign n R vs) := congrArg D.i (subst_den ρ n R vs e)

theorem fresh_den (ρ : Env) (n j : Nat) (R : List (Nat × Row)) (vs : List V) (k : Kd) {x : V} (hx : vs[j]? = some x) (hf : k.fits x = true) : (k.fresh (n + j)).den (ρ.assign n R vs) = x.den ρ := by
  have hE : (vs.map (V.asE R)).getD (n + j - n) (.c 0) = x.asE R := by rw [Nat.add_sub_cancel_left]; simp [hx]
  have hV : vs.getD (n + j - n) undefV = x := by rw [Nat.add_sub_cancel_left]; simp [hx]
  cases k with
  | any => simp only [Kd.fresh, den_var, Env.assign, Nat.le_add_right, if_true, hV]
  | sl =>
    cases x <;> simp only [Kd.fits, Bool.false_eq_true] at hf
    case nils => simp only [Kd.fresh, den_rsl, Env.assign, Nat.le_add_right, if_true, hV]; rfl
    case rsl y =>
      simp only [Kd.fresh, den_rsl, Env.assign, Nat.le_add_right, if_true, hV]
      cases ρ.v y <;> rfl
  | i k =>
    cases x <;> simp only [Kd.fits, Bool.and_eq_true, decide_eq_true_eq, reduceCtorEq] at hf
    obtain ⟨rfl, h2⟩ := hf
    simp only [Kd.fresh, den_i, I_v, Env.assign, Nat.le_add_right, if_true, hE, V.asE]
    simp only [compI_of h2]
  | b =>
    cases x <;> simp only [Kd.fits, reduceCtorEq] at hf
    simp only [Kd.fresh, den_b, B_bv, Env.assign, Nat.le_add_right, if_true, hE, V.asE]
    simp only [compB, hf, if_true]
  | s =>
    cases x <;> simp only [Kd.fits, reduceCtorEq] at hf
    simp only [Kd.fresh, den_s, S_sv, Env.assign, Nat.le_add_right, if_true, hE, V.asE]
    simp only [compS, hf, if_true]

theorem tIdx_ok {i : Tmp} : ∀ {locs : List Loc} {n m : Nat} {k : Kd}, tIdx i locs n = some (m, k) → ∃ j, m = n + j ∧ locs[j]? = some (.t i k)
  | [], _, _, _, h => by cases h
  | .t j k :: l, n, m, k', h => by
    simp only [tIdx] at h
    split at h
    · rename_i hj; cases h; subst hj; exact ⟨0, rfl, rfl⟩
    · obtain ⟨j, h1, h2⟩ := tIdx_ok h; exact ⟨j + 1, by omega, by simpa using h2⟩
  | .h _ _ _ :: l, n, m, k', h => by
    simp only [tIdx] at h
    obtain ⟨j, h1, h2⟩ := tIdx_ok h; exact ⟨j + 1, by omega, by simpa using h2⟩
  | .r _ :: l, n, m, k', h => by
    simp only [tIdx] at h
    obtain ⟨j, h1, h2⟩ := tIdx_ok h; exact ⟨j + 1, by omega, by simpa using h2⟩
theorem hIdx_ok {b : Bk} {o : Nat} : ∀ {locs : List Loc} {n m : Nat} {k : Kd}, hIdx b o locs n = some (m, k) → ∃ j, m = n + j ∧ locs[j]? = some (.h b o k)
  | [], _, _, _, h => by cases h
  | .h b' o' k :: l, n, m, k', h => by
    simp only [hIdx] at h
    split at h
    · rename_i hj; cases h; obtain ⟨rfl, rfl⟩ := hj; exact ⟨0, rfl, rfl⟩
    · obtain ⟨j, h1, h2⟩ := hIdx_ok h; exact ⟨j + 1, by omega, by simpa using h2⟩
  | .t _ _ :: l, n, m, k', h => by
    simp only [hIdx] at h
    obtain ⟨j, h1, h2⟩ := hIdx_ok h; exact ⟨j + 1, by omega, by simpa using h2⟩
  | .r _ :: l, n, m, k', h => by
    simp only [hIdx] at h
    obtain ⟨j, h1, h2⟩ := hIdx_ok h; exact ⟨j + 1, by omega, by simpa using h2⟩
theorem locVs_ok {σ : St} : ∀ {locs : List Loc} {vs : List V}, locVs σ locs = some vs → vs.length = locs.length ∧ ∀ (j : Nat) (l : Loc), locs[j]? = some l → ∃ x : V, vs[j]? = some x ∧ locV σ l = some x ∧ l.kd.fits x = true
  | [], vs, h => by cases h; exact ⟨rfl, fun j l hl => by cases j <;> cases hl⟩
  | l :: ls, vs, h => by
    simp only [locVs] at h
    split at h
    · rename_i v vs' h1 h2
      split at h
      · rename_i hf
        cases h
        obtain ⟨e1, e2⟩ := locVs_ok h2
        refine ⟨by simp [e1], fun j l' hl => ?_⟩
        cases j with
        | zero => cases hl; exact ⟨v, rfl, h1, hf⟩
        | succ j => exact e2 j l' (by simpa using hl)
      · cases h
    · cases h

/-- A state, told by the names at a loop's head. -/
theorem genT_den {ρ : Env} {n : Nat} {R : List (Nat × Row)} {locs : List Loc} {σ : St} {vs : List V} (hv : locVs σ locs = some vs) (hu : ∀ i x, (genT n locs σ.T)[i]? = some x → tIdx i locs n = none → x.under n = true) :
    actOf (ρ.assign n R vs) (genT n locs σ.T) σ.M = actOf ρ σ.T σ.M := by
  simp only [actOf]
  congr 1
  congr 1
  apply List.ext_getElem?
  intro i
  simp only [List.getElem?_map]
  have hg : (genT n locs σ.T)[i]? = (σ.T[i]?).map fun x => match tIdx i locs n with | some (m, k) => k.fresh m | none => x := by
    simp [genT]; rfl
  have hu := hu i
  rw [hg] at hu ⊢
  cases hx : σ.T[i]? with
  | none => rfl
  | some x =>
    simp only [Option.map_some, hx] at hu ⊢
    cases ht : tIdx i locs n with
    | none =>
      simp only [ht] at hu ⊢
      rw [den_extV (assign_ext ρ n R vs) (hu x rfl trivial)]
    | some p =>
      obtain ⟨m, k⟩ := p
      simp only
      obtain ⟨j, rfl, hj⟩ := tIdx_ok ht
      obtain ⟨y, h1, h2, h3⟩ := (locVs_ok hv).2 j _ hj
      simp only [locV, hx, Option.some.injEq] at h2
      subst h2
      rw [fresh_den ρ n j R vs k h1 h3]
theorem genH_at {ρ : Env} {n : Nat} {R : List (Nat × Row)} {locs : List Loc} {σ : St} {vs : List V} (hv : locVs σ locs = some vs) {b : Bk} {o : HO} (hb : σ.look b = some o) (_hu : ∀ i m k, hIdx b i locs n = some (m, k) → True)
    (hn : ∀ l t i x, o = .cells l t → l[i]? = some x → hIdx b i locs n = none → x.under n = true) (hmp : ∀ l, o = .map l → o.under n = true) {y : Option Obj} (hat : o.at ρ y) : (genH n locs b o).at (ρ.assign n R vs) y := by
  cases o with
  | cells l t =>
    simp only [HO.at, genH] at hat ⊢
    rw [hat]
    congr 3
    apply List.ext_getElem?
    intro i
    simp only [List.getElem?_map, List.getElem?_zipIdx, Nat.zero_add]
    cases hx : l[i]? with
    | none => simp
    | some x =>
      simp only [Option.map_some]
      cases ht : hIdx b i locs n with
      | none =>
        simp only
        rw [den_extV (assign_ext ρ n R vs) (hn l t i x rfl hx ht)]
      | some p =>
        obtain ⟨m, k⟩ := p
        simp only
        obtain ⟨j, rfl, hj⟩ := hIdx_ok ht
        obtain ⟨z, h1, h2, h3⟩ := (locVs_ok hv).2 j _ hj
        simp only [locV, hb, hx, Option.some.injEq] at h2
        subst h2
        rw [fresh_den ρ n j R vs k h1 h3]
  | loop s k => exact hat
  | defd => exact hat
  | tab l => simp only [genH, HO.at, tabV_den (ρ.assign n R vs) ρ] at hat ⊢; exact hat
  | map l => exact hat_ext (assign_ext ρ n R vs) (hmp l rfl) hat

theorem look_gen {n : Nat} {locs : List Loc} {σ : St} {b : Bk} {o : HO} (h : (gen n locs σ).look b = some o) : ∃ o', σ.look b = some o' ∧ o = genH n locs b o' := by
  unfold St.look gen at h
  simp only [List.find?_map, Option.map_map, Option.map_eq_some_iff] at h
  obtain ⟨p, hp, hpo⟩ := h
  have h2 := List.find?_some hp
  simp only [Function.comp, beq_iff_eq] at h2
  refine ⟨p.2, ?_, ?_⟩
  · unfold St.look
    rw [Option.map_eq_some_iff]
    exact ⟨p, hp, rfl⟩
  · rw [← h2]; exact hpo.symm
theorem genH_none {n : Nat} {locs : List Loc} {b : Bk} {l l' : List V} {t t' : TypeId} {i : Nat} {x : V} (h : genH n locs b (.cells l t) = .cells l' t') (hx : l[i]? = some x) (hn : hIdx b i locs n = none) : l'[i]? = some x := by
  simp only [genH, HO.cells.injEq] at h
  rw [← h.1]
  simp [hx, hn]

theorem rowFor_ok {ρ : Env} {τ : St} {w0 w : World} (hs : Sees TT ρ τ w0 w) {v : V} {r : Row} {x : Option Nat} {qn qx : E} (h : rowFor τ v r = some (x, qn, qx)) :
    ({ r with n := qn, xs := qx } : Row).at ρ w0.heap.size w (v.den ρ) ∧ (x = none ∧ (v.den ρ).ownBlock = none ∨ ∃ y q, x = some y ∧ v.den ρ = ρ.v y ∧ (y, q) ∈ τ.R ∧ q.own = r.own) := by
  unfold rowFor at h
  split at h
  · rename_i y
    split at h
    · rename_i p hp
      split at h
      · rename_i hc
        cases h
        have hm := List.mem_of_find?_eq_some hp
        have h1 : p.1 = y := by have := List.find?_some hp; simpa using this
        have hat := hs.row p hm
        refine ⟨?_, .inr ⟨y, p.2, rfl, rfl, by rw [← h1]; exact hm, hc.1⟩⟩
        have : ({ r with n := p.2.n, xs := p.2.xs } : Row) = p.2 := by
          obtain ⟨a, q⟩ := p
          obtain ⟨o, e, k, n', x'⟩ := q
          obtain ⟨o2, e2, k2, n2, x2⟩ := r
          simp only at hc
          obtain ⟨rfl, rfl, rfl⟩ := hc
          rfl
        rw [this, den_var, ← h1]
        exact hat
      · cases h
    · cases h
  · rename_i y
    split at h
    · rename_i p hp
      split at h
      · rename_i hc
        cases h
        have hm := List.mem_of_find?_eq_some hp
        have h1 : p.1 = y := by have := List.find?_some hp; simpa using this
        have hat := hs.row p hm
        have hsl : asSl (ρ.v y) = ρ.v y := by
          obtain ⟨-, hval⟩ := hs.rows p hm
          rw [h1] at hval
          rcases hval with ⟨e1, -⟩ | ⟨a, cap, e1, -⟩ <;> rw [e1] <;> rfl
        refine ⟨?_, .inr ⟨y, p.2, rfl, by rw [den_rsl, hsl], by rw [← h1]; exact hm, hc.1⟩⟩
        have : ({ r with n := p.2.n, xs := p.2.xs } : Row) = p.2 := by
          obtain ⟨a, q⟩ := p
          obtain ⟨o, e, k, n', x'⟩ := q
          obtain ⟨o2, e2, k2, n2, x2⟩ := r
          simp only at hc
          obtain ⟨rfl, rfl, rfl⟩ := hc
          rfl
        rw [this, den_rsl, hsl, ← h1]
        exact hat
      · cases h
    · cases h
  · split at h
    · cases h
    · rename_i hk
      cases h
      refine ⟨⟨by simp, by simp only; omega, ?_⟩, .inl ⟨rfl, rfl⟩⟩
      simp only [L_nil, I_c]
      split
      · exact ⟨by simp [cellsV], .inl ⟨rfl, rfl⟩⟩
      · exact ⟨by simp, .inl ⟨rfl, trivial⟩⟩
  · cases h
theorem rowsFor_ok {τ : St} {n : Nat} {vs : List V} : ∀ {rows : List (Nat × Row)} {us : List (Option Nat × Nat)} {es : List E}, rowsFor τ n vs rows = some (us, es) →
    ∀ p ∈ rows, ∃ v x qn qx, vs[p.1]? = some v ∧ rowFor τ v p.2 = some (x, qn, qx) ∧ (x, p.1) ∈ us ∧ .eq qn (p.2.n.subst n (vs.map (V.asE τ.R))) ∈ es ∧ .leq qx (p.2.xs.subst n (vs.map (V.asE τ.R))) ∈ es
  | [], _, _, _, p, hp => by cases hp
  | (j, r) :: l, us, es, h, p, hp => by
    simp only [rowsFor] at h
    split at h
    · rename_i v us' es' h1 h2
      split at h
      · rename_i x qn qx h3
        cases h
        rcases List.mem_cons.1 hp with rfl | hp
        · exact ⟨v, x, qn, qx, h1, h3, List.mem_cons_self, List.mem_cons_self, List.mem_cons_of_mem _ List.mem_cons_self⟩
        · obtain ⟨v', x', a, b, e1, e2, e3, e4, e5⟩ := rowsFor_ok h2 p hp
          exact ⟨v', x', a, b, e1, e2, List.mem_cons_of_mem _ e3, List.mem_cons_of_mem _ (List.mem_cons_of_mem _ e4), List.mem_cons_of_mem _ (List.mem_cons_of_mem _ e5)⟩
      · cases h
    · cases h
/-- Where the rows' names come from. -/
theorem rowsFor_us {τ : St} {n : Nat} {vs : List V} : ∀ {rows : List (Nat × Row)} {us : List (Option Nat × Nat)} {es : List E}, rowsFor τ n vs rows = some (us, es) → ∀ u ∈ us, ∀ y, u.1 = some y → vs[u.2]? = some (.var y) ∨ (vs[u.2]? = some (.rsl y) ∧ ∃ q, (y, q) ∈ τ.R)
  | [], _, _, h, u, hu, _, _ => by cases h; cases hu
  | (j, r) :: l, us, es, h, u, hu, y, hy => by
    simp only [rowsFor] at h
    split at h
    · rename_i v us' es' h1 h2
      split at h
      · rename_i x qn qx h3
        cases h
        rcases List.mem_cons.1 hu with rfl | hu
        · simp only at hy
          subst hy
          unfold rowFor at h3
          split at h3
          · rename_i z
            split at h3
            · split at h3
              · cases h3; exact .inl h1
              · cases h3
            · cases h3
          · rename_i z
            split at h3
            · rename_i p hp
              split at h3
              · cases h3
                have h4 : p.1 = y := by have := List.find?_some hp; simpa using this
                exact .inr ⟨h1, p.2, by rw [← h4]; exact List.mem_of_find?_eq_some hp⟩
              · cases h3
            · cases h3
          · split at h3
            · cases h3
            · cases h3
          · cases h3
        · exact rowsFor_us h2 u hu y hy
      · cases h
    · cases h
theorem nmOf_v {ρ : Env} {τ : St} (hs : RowVals ρ τ.R) {n : Nat} {vs : List V} {rows : List (Nat × Row)} {us : List (Option Nat × Nat)} {es : List E} {inp : List Nat} (hr : rowsFor τ n vs rows = some (us, es)) {j : Nat} {v : V} (h1 : vs[j]? = some v) : (ρ.assign n τ.R vs).v (nmOf inp us n j) = v.den ρ := by
  have hn : (ρ.assign n τ.R vs).v (n + j) = v.den ρ := by
    simp only [Env.assign, Nat.le_add_right, if_true, Nat.add_sub_cancel_left, List.getD, h1, Option.getD_some]
  unfold nmOf
  split
  · split
    · rename_i x k hf
      split
      · rename_i hlt
        have hm := List.mem_of_find?_eq_some hf
        have hk := List.find?_some hf
        simp only [beq_iff_eq] at hk
        have hv := rowsFor_us hr _ hm x rfl
        simp only [hk] at hv
        rw [h1] at hv
        rcases hv with hv | ⟨hv, q, hq⟩
        · cases hv
          rw [(assign_ext ρ n τ.R vs).v x hlt, den_var]
        · cases hv
          rw [(assign_ext ρ n τ.R vs).v x hlt, den_rsl]
          obtain ⟨-, hval⟩ := hs _ hq
          simp only at hval
          rcases hval with ⟨e1, -⟩ | ⟨a, cap, e1, -⟩ <;> rw [e1] <;> rfl
      · exact hn
    · exact hn
  · exact hn
/-- The rows at a loop's head. -/
theorem rows_head {ρ : Env} {τ : St} {w0 w : World} (hs : Sees TT ρ τ w0 w) {n : Nat} {vs : List V} {rows R0 : List (Nat × Row)} {us : List (Option Nat × Nat)} {es : List E} {inp : List Nat}
    (hr : rowsFor τ n vs rows = some (us, es)) (he : ∀ e ∈ es, e.B ρ = true) (ha : apartO us = true) (hR0 : ∀ p ∈ R0, p ∈ τ.R ∧ p.1 < n ∧ p.2.under n = true ∧ ∀ u ∈ us, u.1 ≠ some p.1) :
    (∀ p ∈ headR inp us n rows ++ R0, p.2.at (ρ.assign n τ.R vs) w0.heap.size w ((ρ.assign n τ.R vs).v p.1)) ∧
    (∀ p ∈ headR inp us n rows ++ R0, ∀ b, ((ρ.assign n τ.R vs).v p.1).ownBlock = some b → ∀ q ∈ τ.H, ρ.blk q.1 ≠ b) ∧
    (∀ p ∈ headR inp us n rows ++ R0, p.2.own = true → ∀ q ∈ headR inp us n rows ++ R0, p.1 ≠ q.1 → ∀ b, ((ρ.assign n τ.R vs).v p.1).ownBlock = some b → ((ρ.assign n τ.R vs).v q.1).ownBlock ≠ some b) ∧
    (∀ p ∈ headR inp us n rows ++ R0, ∀ b, ((ρ.assign n τ.R vs).v p.1).ownBlock = some b → w0.heap.size ≤ b ∨ TT.A b) := by
  have hx := assign_ext ρ n τ.R vs
  -- each row of the head: its value, and where it comes from
  have key : ∀ p ∈ rows, ∃ (v : V) (x : Option Nat), (ρ.assign n τ.R vs).v (nmOf inp us n p.1) = v.den ρ ∧ (x, p.1) ∈ us ∧ p.2.at (ρ.assign n τ.R vs) w0.heap.size w (v.den ρ) ∧ (x = none ∧ (v.den ρ).ownBlock = none ∨ ∃ y q, x = some y ∧ v.den ρ = ρ.v y ∧ (y, q) ∈ τ.R ∧ q.own = p.2.own) := fun p hp => by
    obtain ⟨v, x, qn, qx, h1, h2, h3, h4, h5⟩ := rowsFor_ok hr p hp
    obtain ⟨hat, hsrc⟩ := rowFor_ok hs h2
    refine ⟨v, x, nmOf_v hs.rows hr h1, h3, ?_, hsrc⟩
    · have e1 := he _ h4
      have e2 := he _ h5
      simp only [B_eq, B_leq, subst_I, subst_L, decide_eq_true_eq] at e1 e2
      unfold Row.at at hat ⊢
      simp only at hat
      rw [← e1, ← e2]
      exact hat
  have hold : ∀ p ∈ R0, (ρ.assign n τ.R vs).v p.1 = ρ.v p.1 := fun p hp => hx.v p.1 (hR0 p hp).2.1
  have hd : ∀ p ∈ headR inp us n rows, ∃ q ∈ rows, p = (nmOf inp us n q.1, q.2) := fun p hp => by
    obtain ⟨q, hq, rfl⟩ := List.mem_map.1 hp
    exact ⟨q, hq, rfl⟩
  refine ⟨fun p hp => ?_, fun p hp b hb q hq => ?_, fun p hp ho q hq hne b hb => ?_, fun p hp b hb => ?_⟩
  · rcases List.mem_append.1 hp with hp | hp
    · obtain ⟨q, hq, rfl⟩ := hd p hp
      obtain ⟨v, x, e1, -, e2, -⟩ := key q hq
      simp only [e1]
      exact e2
    · rw [hold p hp]
      exact row_ext hx (hR0 p hp).2.2.1 (hs.row p (hR0 p hp).1)
  · rcases List.mem_append.1 hp with hp | hp
    · obtain ⟨z, hz, rfl⟩ := hd p hp
      obtain ⟨v, x, e1, -, -, e3⟩ := key z hz
      simp only [e1] at hb
      rcases e3 with ⟨-, e3⟩ | ⟨y, q', -, e4, e5, -⟩
      · rw [e3] at hb; cases hb
      · rw [e4] at hb
        exact hs.rsep _ e5 b hb q hq
    · rw [hold p hp] at hb
      exact hs.rsep p (hR0 p hp).1 b hb q hq
  · have ha' : ∀ a ∈ us, ∀ b ∈ us, a.2 = b.2 ∨ a.1 = none ∨ a.1 ≠ b.1 := fun a h1 b h2 => by
      have := List.all_eq_true.1 (List.all_eq_true.1 ha a h1) b h2
      simp only [Bool.or_eq_true, beq_iff_eq, bne_iff_ne, Option.isNone_iff_eq_none] at this
      rcases this with (h | h) | h
      · exact .inl h
      · exact .inr (.inl h)
      · exact .inr (.inr h)
    rcases List.mem_append.1 hp with hp | hp
    · obtain ⟨z, hz, rfl⟩ := hd p hp
      obtain ⟨v, x, e1, m1, -, e3⟩ := key z hz
      simp only [e1] at hb
      rcases e3 with ⟨-, e3⟩ | ⟨y, q', hxy, e4, e5, e6⟩
      · rw [e3] at hb; cases hb
      · rw [e4] at hb
        have hown' : q'.own = true := by rw [e6]; exact ho
        rcases List.mem_append.1 hq with hq | hq
        · obtain ⟨z2, hz2, rfl⟩ := hd q hq
          obtain ⟨v2, x2, f1, m2, -, f3⟩ := key z2 hz2
          simp only [f1]
          rcases f3 with ⟨-, f3⟩ | ⟨y2, q2, hxy2, f4, f5, f6⟩
          · rw [f3]; exact fun e => by cases e
          · rw [f4]
            refine hs.rown (y, q') e5 hown' (y2, q2) f5 ?_ b hb
            rcases ha' _ m1 _ m2 with h | h | h
            · exact absurd (by simp only at h; rw [h]) hne
            · rw [hxy] at h; cases h
            · simp only [hxy, hxy2] at h; simpa using h
        · rw [hold q hq]
          refine hs.rown (y, q') e5 hown' q (hR0 q hq).1 (fun e => ?_) b hb
          have := (hR0 q hq).2.2.2 _ m1
          rw [hxy] at this
          exact this (by rw [← e])
    · rw [hold p hp] at hb
      rcases List.mem_append.1 hq with hq | hq
      · obtain ⟨z2, hz2, rfl⟩ := hd q hq
        obtain ⟨v2, x2, f1, m2, -, f3⟩ := key z2 hz2
        simp only [f1]
        rcases f3 with ⟨-, f3⟩ | ⟨y2, q2, hxy2, f4, f5, f6⟩
        · rw [f3]; exact fun e => by cases e
        · rw [f4]
          refine hs.rown p (hR0 p hp).1 ho (y2, q2) f5 (fun e => ?_) b hb
          have := (hR0 p hp).2.2.2 _ m2
          rw [hxy2] at this
          exact this (by rw [e])
      · rw [hold q hq]
        exact hs.rown p (hR0 p hp).1 ho q (hR0 q hq).1 hne b hb
  · rcases List.mem_append.1 hp with hp | hp
    · obtain ⟨z, hz, rfl⟩ := hd p hp
      obtain ⟨v, x, e1, -, -, e3⟩ := key z hz
      simp only [e1] at hb
      rcases e3 with ⟨-, e3⟩ | ⟨y, q', -, e4, e5, -⟩
      · rw [e3] at hb; cases hb
      · rw [e4] at hb
        exact hs.src _ e5 b hb
    · rw [hold p hp] at hb
      exact hs.src p (hR0 p hp).1 b hb

section
variable {P : Program} {Γ : Ctx}
theorem ok_loop {g : Nat} (hcode : OkCode TT P Γ g) {L : LoopSpec} {c : Code} {σ σI : St} {ms l r : List Out} (hin : loopIn L c σ = some (σI, ms)) (hl : go P g Γ (.code c) σI = some l)
    (hb : bindL l (fun o => match o.x with | .norm => loopBack L c σ.fr (σI.R.drop (L.rows σ.fr).length) σI o.st | _ => if σI.fr ≤ o.st.fr then some [o] else none) = some r)
    {ρ : Env} {w0 w : World} {Q : Exit → Act → World → Prop} {rr : Option Nat} (hk : Kn ρ Γ rr σ.fr) (hs : Sees TT ρ σ w0 w) (hg : ∀ o ∈ ms ++ r, GoodC TT Q ρ σ.fr w0 o) : (Code.loop c).wpIn (fen rr) 0 P Q (actOf ρ σ.T σ.M) w := by
  unfold loopIn at hin
  simp only at hin
  split at hin
  · rename_i vs hvs
    split at hin
    case h_2 => cases hin
    rename_i us es hrows
    split at hin
    · rename_i hc
      cases hin
      simp only [Bool.and_eq_true] at hc
      obtain ⟨⟨⟨⟨⟨hok, hnd⟩, hfu⟩, hmu⟩, hWu⟩, hap⟩ := hc
      have hdrop : (headR L.inp us σ.fr (L.rows σ.fr) ++ keptR us σ.R).drop (L.rows σ.fr).length = keptR us σ.R := by
        rw [List.drop_append_of_le_length (by simp [headR])]
        simp [headR]
      simp only [hdrop] at hb
      obtain ⟨hT, hH, hF, hW, hR⟩ := ok_parts hok
      rw [List.all_eq_true] at hT hnd
      have huT : ∀ i x, (genT σ.fr (locsOf L c) σ.T)[i]? = some x → tIdx i (locsOf L c) σ.fr = none → x.under σ.fr = true := fun i x hx hn => by
        have : σ.T[i]? = some x := by
          simp only [genT, List.getElem?_map, List.getElem?_zipIdx, Nat.zero_add, Option.map_map, Option.map_eq_some_iff, Function.comp, hn] at hx
          obtain ⟨y, hy, rfl⟩ := hx
          exact hy
        exact hT x (List.mem_of_getElem? this)
      have huH : ∀ p ∈ σ.H, ∀ (l : List V) (t : TypeId) (i : Nat) (x : V), p.2 = .cells l t → l[i]? = some x → x.under σ.fr = true := fun p hp l t i x he hx => by
        have := (hH p hp).2
        rw [he] at this
        simp only [HO.under, List.all_eq_true] at this
        exact this x (List.mem_of_getElem? hx)
      -- the invariant
      refine loop_ghostIn (fun m a w => ∃ ρ2, Ext σ.fr ρ ρ2 ∧ a = actOf ρ2 (genT σ.fr (locsOf L c) σ.T) σ.M ∧
        Sees TT ρ2 { gen σ.fr (locsOf L c) σ with R := headR L.inp us σ.fr (L.rows σ.fr) ++ keptR us σ.R, F := L.facts σ.fr ++ σ.F, fr := σ.fr + (locsOf L c).length, W := L.W ++ σ.W } w0 w ∧ m = ((L.meas σ.fr).I ρ2).toNat) _ ⟨ρ.assign σ.fr σ.R vs, assign_ext _ _ _ _, (genT_den hvs huT).symm, ?_, rfl⟩ ?_
      · have hall := musts_ok hs (l := (L.facts σ.fr).map (E.subst σ.fr (vs.map (V.asE σ.R))) ++ es) (fun o ho e he => by
          have := hg o (List.mem_append.2 (.inl ho)) ρ w (Ext.refl _ _) (by
            obtain ⟨e', -, rfl⟩ := List.mem_map.1 ho
            exact hs)
          rw [he] at this
          exact this)
        have hfacts : ∀ f ∈ L.facts σ.fr, f.B (ρ.assign σ.fr σ.R vs) = true := fun f hf => by
          rw [← subst_B]
          exact hall _ (List.mem_append.2 (.inl (List.mem_map.2 ⟨f, hf, rfl⟩)))
        have hx := assign_ext ρ σ.fr σ.R vs
        obtain ⟨r1, r2, r3, r4⟩ := rows_head (R0 := keptR us σ.R) hs hrows (fun e he => hall e (List.mem_append.2 (.inr he))) hap (fun p hp => by
          obtain ⟨h1, h2⟩ := List.mem_filter.1 hp
          rw [List.all_eq_true] at h2
          exact ⟨h1, (hR p h1).1, (hR p h1).2, fun u hu => by simpa using h2 u hu⟩)
        refine ⟨hs.os, hs.tape, hs.output, hs.size, fun k hk hb => hs.keep k hk fun b hbW => ?_, fun p hp => ?_, fun p hp q hq he => ?_, fun p hp ho => ?_, r1, fun p hp b hb q hq => ?_, r3, fun f hf => ?_, hs.tab, r4⟩
        · have := hb b (List.mem_append.2 (.inr hbW))
          rwa [assign_blk] at this
        · simp only [gen, List.mem_map] at hp
          obtain ⟨q, hq, rfl⟩ := hp
          have hlook : σ.look q.1 = some q.2 := by simpa using hnd q hq
          rw [assign_blk]
          exact genH_at hvs hlook (fun _ _ _ _ => trivial) (fun l t i x he hx _ => huH q hq l t i x he hx) (fun l _ => (hH q hq).2) (hs.blk q hq)
        · simp only [gen, List.mem_map] at hp hq
          obtain ⟨p', hp', rfl⟩ := hp
          obtain ⟨q', hq', rfl⟩ := hq
          rw [assign_blk, assign_blk] at he
          exact hs.sep p' hp' q' hq' he
        · simp only [gen, List.mem_map] at hp
          obtain ⟨p', hp', rfl⟩ := hp
          rw [assign_blk]
          exact hs.own p' hp' ho
        · simp only [gen, List.mem_map] at hq
          obtain ⟨q', hq', rfl⟩ := hq
          rw [assign_blk]
          exact r2 p hp b hb q' hq'
        · rcases List.mem_append.1 hf with hf | hf
          · exact hfacts f hf
          · rw [B_ext hx (hF f hf)]; exact hs.fact f hf
      · rintro m a w ⟨ρ2, hx2, rfl, hs2, rfl⟩
        refine hcode c _ l hl ρ2 w0 w _ rr (hk.ext hx2 (Nat.le_add_right _ _)) hs2 fun u hu ρ3 w3 hx3 hs3 => ?_
        obtain ⟨s, hf, hsub⟩ := bindL_mem hb u hu
        have hx : Ext σ.fr ρ ρ3 := hx2.trans hx3 (Nat.le_add_right _ _)
        have hgood : ∀ o ∈ s, GoodC TT Q ρ σ.fr w0 o := fun o ho => hg o (List.mem_append.2 (.inr (hsub o ho)))
        cases hux : u.x with
        | norm =>
          simp only [hux] at hf ⊢
          unfold loopBack at hf
          simp only at hf
          split at hf
          · rename_i vs' hvs'
            split at hf
            case h_2 => cases hf
            rename_i us' rs hrows'
            split at hf
            · rename_i hc'
              cases hf
              simp only [Bool.and_eq_true, decide_eq_true_eq] at hc'
              obtain ⟨⟨⟨⟨⟨⟨⟨eT, eH⟩, eW⟩, eo⟩, -⟩, eap⟩, eI⟩, eR⟩ := hc'
              rw [List.all_eq_true] at eH eW eR
              have hm := musts_ok hs3 (fun o ho e he => by
                have := hgood o ho ρ3 w3 hx (by
                  obtain ⟨e', -, rfl⟩ := List.mem_map.1 ho
                  exact hs3)
                rw [he] at this
                exact this)
              have hx4 := assign_ext ρ3 σ.fr u.st.R vs'
              have hx04 : Ext σ.fr ρ (ρ3.assign σ.fr u.st.R vs') := hx.trans hx4 (Nat.le_refl _)
              have hmeas : (L.meas σ.fr).I ρ3 = (L.meas σ.fr).I ρ2 := I_ext hx3 hmu
              have h1 := hm _ (List.mem_append.2 (.inr List.mem_cons_self))
              have h2 := hm _ (List.mem_append.2 (.inr (List.mem_cons_of_mem _ List.mem_cons_self)))
              simp only [B_lt, B_le, I_c, subst_I, decide_eq_true_eq, hmeas] at h1 h2
              obtain ⟨r1, r2, r3, r4⟩ := rows_head (R0 := keptR us σ.R) hs3 hrows' (fun e he => hm e (List.mem_append.2 (.inl (List.mem_append.2 (.inr he))))) eap (fun p hp => by
                have h9 := eR p hp
                obtain ⟨h1, h2⟩ := List.mem_filter.1 hp
                simp only [Bool.and_eq_true, List.all_eq_true] at h9
                exact ⟨by simpa using h9.1, (hR p h1).1, (hR p h1).2, fun u hu => by simpa using h9.2 u hu⟩)
              have eI2 : headR L.inp us σ.fr (L.rows σ.fr) ++ keptR us σ.R = headR L.inp us' σ.fr (L.rows σ.fr) ++ keptR us σ.R := eI
              rw [← eI2] at r1 r2 r3 r4
              refine ⟨_, ?_, ρ3.assign σ.fr u.st.R vs', hx04, ?_, ?_, rfl⟩
              · omega
              · have e1 : genT σ.fr (locsOf L c) u.st.T = genT σ.fr (locsOf L c) σ.T := eT
                have := genT_den (ρ := ρ3) (R := u.st.R) hvs' (fun i x hx hn => huT i x (by rw [← e1]; exact hx) hn)
                rw [e1, show u.st.M = σ.M from eo.2] at this
                show actOf ρ3 u.st.T u.st.M = _
                rw [show u.st.M = σ.M from eo.2]
                exact this.symm
              · have hlk : ∀ p ∈ (gen σ.fr (locsOf L c) σ).H, ∃ o', u.st.look p.1 = some o' ∧ p.2 = genH σ.fr (locsOf L c) p.1 o' := fun p hp => by
                  have := eH p hp
                  simp only [beq_iff_eq] at this
                  exact look_gen this
                refine ⟨hs3.os, hs3.tape, hs3.output, hs3.size, fun k hk hb => hs3.keep k hk fun b hbW => ?_, fun p hp => ?_, fun p hp q hq he => ?_, fun p hp ho => ?_, r1, fun p hp b hb q hq => ?_, r3, fun f hf => ?_, hs3.tab, r4⟩
                · have := hb b (by have := eW b hbW; simpa using this)
                  rwa [assign_blk] at this
                · obtain ⟨o', h3, h4⟩ := hlk p hp
                  rw [assign_blk, h4]
                  refine genH_at hvs' h3 (fun _ _ _ _ => trivial) (fun l t i x he hx hn => ?_) (fun l hl => ?_) (hs3.blk _ (look_mem h3))
                  rotate_left
                  · simp only [gen, List.mem_map] at hp
                    obtain ⟨q, hq, rfl⟩ := hp
                    have hu := (hH q hq).2
                    simp only [hl, genH] at h4
                    cases hq2 : q.2 <;> simp only [hq2] at h4 <;> cases h4
                    rw [hl, ← hq2]; exact hu
                  simp only [gen, List.mem_map] at hp
                  obtain ⟨q, hq, rfl⟩ := hp
                  cases hq2 : q.2 with
                  | cells lq tq =>
                    simp only [hq2, he] at h4
                    have h5 : genH σ.fr (locsOf L c) q.1 (.cells l t) = .cells (lq.zipIdx.map fun p => match hIdx q.1 p.2 (locsOf L c) σ.fr with | some (m, k) => k.fresh m | none => p.1) tq := h4.symm
                    have h6 := genH_none h5 hx hn
                    simp only [List.getElem?_map, List.getElem?_zipIdx, Nat.zero_add, Option.map_map, Option.map_eq_some_iff, Function.comp, hn] at h6
                    obtain ⟨y, hy, rfl⟩ := h6
                    exact huH q hq lq tq i y hq2 hy
                  | loop s k => simp only [hq2, he, genH] at h4; cases h4
                  | defd => simp only [hq2, he, genH] at h4; cases h4
                  | map l => simp only [hq2, he, genH] at h4; cases h4
                  | tab l => simp only [hq2, he, genH] at h4; cases h4
                · obtain ⟨o1, h3, -⟩ := hlk p hp
                  obtain ⟨o2, h4, -⟩ := hlk q hq
                  rw [assign_blk, assign_blk] at he
                  exact hs3.sep (p.1, o1) (look_mem h3) (q.1, o2) (look_mem h4) he
                · obtain ⟨o1, h3, -⟩ := hlk p hp
                  rw [assign_blk]
                  refine hs3.own (p.1, o1) (look_mem h3) ?_
                  rw [show u.st.own = σ.own from eo.1]; exact ho
                · obtain ⟨o1, h3, -⟩ := hlk q hq
                  rw [assign_blk]
                  exact r2 p hp b hb (q.1, o1) (look_mem h3)
                · rcases List.mem_append.1 hf with hf | hf
                  · rw [← subst_B]
                    exact hm _ (List.mem_append.2 (.inl (List.mem_append.2 (.inl (List.mem_map.2 ⟨f, hf, rfl⟩)))))
                  · rw [B_ext hx04 (hF f hf)]; exact hs.fact f hf
            · cases hf
          · cases hf
        | _ =>
          simp only [hux] at hf ⊢
          split at hf
          · cases hf
            have := hgood u List.mem_cons_self ρ3 w3 hx hs3
            rw [hux] at this
            exact this
          · cases hf
    · cases hin
  · cases hin

/-- A loop whose rounds come to an end after so many. -/
def Rounds (rr : Option Nat) (P : Program) (c : Code) (Q : Exit → Act → World → Prop) : Nat → Act → World → Prop
  | 0, _, _ => False
  | n + 1, a, w => c.wpIn (fen rr) 0 P (Exit.then (Rounds rr P c Q n) Q) a w
theorem wp_rounds {rr : Option Nat} {c : Code} {Q : Exit → Act → World → Prop} {n : Nat} {a : Act} {w : World} (h : Rounds rr P c Q n a w) : (Code.loop c).wpIn (fen rr) 0 P Q a w := by
  refine loop_ghostIn (fun n a w => Rounds rr P c Q n a w) n h fun n a w hr => ?_
  cases n with
  | zero => exact hr.elim
  | succ n =>
    refine wpIn_mono hr fun e a' w' hq => ?_
    cases e with
    | normal => exact ⟨n, Nat.lt_succ_self n, hq⟩
    | _ => exact hq
def OkUnroll (TT : Tb) (P : Program) (Γ : Ctx) (g : Nat) : Prop := ∀ c σ outs, go P g Γ (.unroll c) σ = some outs → ∀ ρ w0 w Q r, Kn ρ Γ r σ.fr → Sees TT ρ σ w0 w → (∀ o ∈ outs, GoodC TT Q ρ σ.fr w0 o) → Rounds r P c Q g (actOf ρ σ.T σ.M) w
theorem ok_unroll {g : Nat} (hcode : OkCode TT P Γ g) (hun : OkUnroll TT P Γ g) : OkUnroll TT P Γ (g + 1) := by
  intro c σ outs h ρ w0 w Q r hk hs hg
  simp only [go] at h
  split at h
  · rename_i l hl
    show c.wpIn (fen r) 0 P (Exit.then (Rounds r P c Q g) Q) _ _
    refine hcode c σ l hl ρ w0 w _ r hk hs fun u hu ρ' w' hx hs' => ?_
    obtain ⟨s, hf, hsub⟩ := bindL_mem h u hu
    cases hux : u.x with
    | norm =>
      simp only [hux] at hf ⊢
      split at hf
      · rename_i hfr
        exact hun c u.st s hf ρ' w0 w' Q r (hk.ext hx hfr) hs' fun z hz => (hg z (hsub z hz)).ext hx hfr
      · cases hf
    | _ =>
      simp only [hux] at hf ⊢
      cases hf
      have := hg u (hsub u List.mem_cons_self) ρ' w' hx hs'
      rw [hux] at this
      exact this
  · cases h
end
end Go.Proofs.Ytmbhjfembfidnaa.Sx
end
section
namespace Go.Proofs.Ytmbhjfembfidnaa.Sx
open Go
variable {TT : Tb}
section
variable {P : Program} {Γ : Ctx}

theorem GoodC.goto {Q : Exit → Act → World → Prop} {ρ : Env} {n : Nat} {w0 : World} {o : Out} (h : GoodC TT Q ρ n w0 o) : GoodC TT (Exit.noGoto Q) ρ n w0 o := by
  intro ρ' w' hx hs
  have := h ρ' w' hx hs
  revert this
  cases o.x <;> intro this <;> exact this
theorem Sees.withTM {ρ : Env} {σ : St} {w0 w : World} (h : Sees TT ρ σ w0 w) (T : List V) (M : List Nat) : Sees TT ρ { σ with T := T, M := M } w0 w :=
  ⟨h.os, h.tape, h.output, h.size, h.keep, h.blk, h.sep, h.own, h.row, h.rsep, h.rown, h.fact, h.tab, h.src⟩
theorem promS_ok {P : Program} {w0 w : World} : ∀ (l : List (Nat × TypeId)) {σ : St} {ρ : Env}, Sees TT ρ σ w0 w → ∃ ρ', Ext σ.fr ρ ρ' ∧ σ.fr ≤ (promS P l σ).fr ∧ actOf ρ' (promS P l σ).T (promS P l σ).M = actOf ρ σ.T σ.M ∧ Sees TT ρ' (promS P l σ) w0 w
  | [], σ, ρ, hs => ⟨ρ, Ext.refl _ _, Nat.le_refl _, rfl, hs⟩
  | (i, t) :: l, σ, ρ, hs => by
    simp only [promS]
    split
    · rename_i s hi
      split
      · rename_i σ' v hp
        obtain ⟨⟨hT, hM⟩, hok, hfr, ρ1, hx1, hd, hs1⟩ := promote_ok hs hp
        obtain ⟨ρ2, hx2, hle, hact, hs2⟩ := promS_ok l (hs1.withTM (σ'.T.set i v) σ'.M)
        have hle' : σ'.fr ≤ (promS P l { σ' with T := σ'.T.set i v }).fr := hle
        refine ⟨ρ2, hx1.trans hx2 (by show σ.fr ≤ σ'.fr; omega), by omega, ?_, hs2⟩
        rw [show actOf ρ2 (promS P l { σ' with T := σ'.T.set i v }).T (promS P l { σ' with T := σ'.T.set i v }).M = actOf ρ1 (σ'.T.set i v) σ'.M from hact, ← actOf_ext hx1 (ok_parts hok).1 (ok_M hok), hT, hM]
        have hu : s.under σ.fr = true := by
          have := (ok_parts hok).1
          rw [List.all_eq_true] at this
          exact this s (List.mem_of_getElem? hi)
        have e : (σ.T.set i v).map (V.den ρ1) = σ.T.map (V.den ρ1) := by
          apply List.ext_getElem?
          intro j
          simp only [List.getElem?_map, List.getElem?_set]
          by_cases hj : i = j
          · subst hj
            have hlt : i < σ.T.length := (List.getElem?_eq_some_iff.1 hi).1
            simp only [hlt, if_true, hi, Option.map_some, hd, den_extV hx1 hu]
          · simp only [hj, if_false]
        simp only [actOf, e]
      · exact promS_ok l hs
    · exact promS_ok l hs
theorem fn_same {n : Nat} {ρ ρ' : Env} (hx : Ext n ρ ρ') {σ : St} (hok : σ.ok = true) (hn : n = σ.fr) {f : Operand} {g : Fn} {x y : V} (hf : evalO σ.T f = some (.fn g x y)) : x.dens ρ' = x.dens ρ ∧ y.dens ρ' = y.dens ρ := by
  subst hn
  have h1 := evalO_ok (ρ := ρ) (M := []) hf
  have h2 := evalO_ok (ρ := ρ') (M := []) hf
  have h3 : actOf ρ' σ.T [] = actOf ρ σ.T [] := actOf_ext hx (ok_parts hok).1 rfl
  rw [h3, h1, den_fn, den_fn] at h2
  injection h2 with _ h4 h5
  exact ⟨by simpa using h4.symm, by simpa using h5.symm⟩
theorem putObj_size (w : World) (b : Nat) (o : Obj) : (w.putObj b o).heap.size = w.heap.size := by simp [World.putObj]
/-- Behind a range over a function. -/
theorem after_ok {σ : St} {k l : Nat} {o : Out} {s : List Out} (h : afterRange σ k l o = some s) {ρ ρ' : Env} {w0 w' : World} {Q : Exit → Act → World → Prop} {r : Option Nat} {D : List Deferred} (hx : Ext σ.fr ρ ρ') (hs : Sees TT ρ' o.st w0 w')
    (hT : o.st.T = σ.T) (hM : o.st.M = σ.M) (hok : σ.ok = true) (hD : D ++ σ.M.map (mark ρ') = (if k = l then σ.M else k :: σ.M).map (mark ρ')) (hg : ∀ u ∈ s, GoodC TT Q ρ σ.fr w0 u) :
    match o.x with
    | .val v => rangePost (fen r) 0 P (ρ'.n l) Q { actOf ρ σ.T σ.M with defers := D ++ (actOf ρ σ.T σ.M).defers } (.returned (v.den ρ')) w'
    | .must e => e.B ρ' = true
    | _ => False := by
  unfold afterRange at h
  cases hox : o.x <;> simp only [hox] at h ⊢ <;> try (cases h; done)
  case must e =>
    cases h
    exact hg _ List.mem_cons_self ρ' w' hx hs
  case val v =>
    split at h
    · rename_i st l' hl
      split at h
      · rename_i hc
        obtain ⟨rfl, hown⟩ := hc
        have hmem := look_mem hl
        have hb : w'.heap[ρ'.n l']? = some (.loop (st.on (ρ'.c l'))) := hs.blk _ hmem
        have hnb : (st.on (ρ'.c l')).state ≠ .busy := by
          cases st <;> simp only [LS.on, ne_eq, reduceCtorEq, not_false_eq_true] <;> cases h
        have hrun := run_endLoop (P := P) hb hnb
        have hs2 : Sees TT ρ' (o.st.drop (.n l')) w0 (w'.putObj (ρ'.n l') (.loop { st.on (ρ'.c l') with state := .exhausted })) :=
          sees_drop hs (b := .n l') (List.mem_map.2 ⟨_, hmem, rfl⟩) (by simp [Bk.own, hown]) (fun j hj => World.putObj_heap_other hj) rfl rfl rfl (putObj_size _ _ _)
        have hs3 := hs2.withTM σ.T (if k = l' then σ.M else k :: σ.M)
        have hact : ({ actOf ρ σ.T σ.M with defers := D ++ (actOf ρ σ.T σ.M).defers } : Act) = actOf ρ' σ.T (if k = l' then σ.M else k :: σ.M) := by
          have e1 := actOf_ext hx (ok_parts hok).1 (ok_M hok)
          rw [← e1]
          simp only [actOf, hD]
        have hst : ({ o.st.drop (.n l') with M := if k = l' then o.st.M else k :: o.st.M } : St) = { o.st.drop (.n l') with T := σ.T, M := if k = l' then σ.M else k :: σ.M } := by
          rw [← hT, ← hM]; rfl
        refine ⟨_, _, hrun, ?_⟩
        rw [hact]
        simp only [hst] at h
        cases st with
        | ready =>
          cases h
          exact hg _ List.mem_cons_self ρ' _ hx hs3
        | ret =>
          cases h
          exact wpIn_ret (hg _ List.mem_cons_self ρ' _ hx hs3)
        | exit id =>
          cases h
          exact wpIn_exit (hg _ List.mem_cons_self ρ' _ hx hs3)
        | busy => cases h
      · cases h
    · cases h
theorem ok_range {g : Nat} (hfn : ∀ Γ', Γ'.calls = Γ.calls → OkFnG TT P Γ' g) {f : Operand} {ps : Array Tmp} {a b : Code} {σ : St} {outs : List Out} (h : go P (g + 1) Γ (.code (.rangeFunc f ps a b)) σ = some outs)
    {ρ : Env} {w0 w : World} {Q : Exit → Act → World → Prop} {r : Option Nat} (hk : Kn ρ Γ r σ.fr) (hs : Sees TT ρ σ w0 w) (hg : ∀ o ∈ outs, GoodC TT Q ρ σ.fr w0 o) : (Code.rangeFunc f ps a b).wpIn (fen r) 0 P Q (actOf ρ σ.T σ.M) w := by
  simp only [go] at h
  split at h
  case h_2 => cases h
  rename_i fid first cap hf
  split at h
  case isFalse => cases h
  rename_i hc
  simp only [Bool.and_eq_true] at hc
  obtain ⟨⟨hok, hok1⟩, hent⟩ := hc
  have hev : (actOf ρ σ.T σ.M).eval f = .func (.func fid) (first.dens ρ).toArray (cap.dens ρ).toArray := evalO_ok hf
  have key : ∀ (l : Nat) (ln : Nat) (w1 : World) (ρ2 : Env), Ext σ.fr ρ ρ2 → ρ2.n l = ln →
      (resolve (actOf ρ σ.T σ.M).eval (rangeCall f ln) 0).run P w1 = .ok { target := .fn (.func fid) (cap.dens ρ).toArray, args := (first.dens ρ).toArray ++ #[.func (.yield ln) #[] #[]] } w1 ∧
      (invoke (.fn (.func fid) (cap.dens ρ).toArray) ((first.dens ρ).toArray ++ #[.func (.yield ln) #[] #[]])).run P w1 = .ok (.enter fid (arr ρ2 (first.toL ++ [.yld (.n l)] ++ cap.toL))) w1 := fun l ln w1 ρ2 hx hl => by
    obtain ⟨e1, e2⟩ := fn_same hx hok rfl hf
    refine ⟨?_, ?_⟩
    · simp only [resolve, hev, Deferred.ofValue, Sem.run_pure]
      simp [Act.eval]
    · simp only [invoke]
      rw [callFunc_enters hent]
      congr 2
      apply Array.ext'
      simp only [arr, List.map_append, toL_dens, e1, e2, List.map_cons, List.map_nil, den_yld, Env.blk, hl]
      simp
  split at h
  · -- an outermost loop
    rename_i hrd
    have hr : r = none := by rw [hk.rd, hrd]; rfl
    subst hr
    split at h
    case h_2 => cases h
    rename_i outs1 hgo
    refine wpIn_rangeFunc (F := fen none) fun fn _ => ?_
    obtain ⟨rec, hrec⟩ : ∃ rec : Loop, rec = { state := .ready, pending := none, fn := fn, tmps := (actOf ρ σ.T σ.M).tmps, params := ps, assign := a, body := b, defers := w.heap.size } := ⟨_, rfl⟩
    have hx1 := name_ext ρ σ.fr w.heap.size
    have hs1 : Sees TT (ρ.name σ.fr w.heap.size) (σ.newB .defd) w0 (w.alloc (.deferred (some []))) := sees_new' hs hok hx1 (by simp [Env.blk, Env.name]) rfl
    have hx2 := nameC_ext (ρ.name σ.fr w.heap.size) (σ.fr + 1) (w.heap.size + 1) rec
    have hx : Ext σ.fr ρ ((ρ.name σ.fr w.heap.size).nameC (σ.fr + 1) (w.heap.size + 1) rec) := hx1.trans hx2 (Nat.le_succ _)
    have hs2 : Sees TT ((ρ.name σ.fr w.heap.size).nameC (σ.fr + 1) (w.heap.size + 1) rec) ((σ.newB .defd).newB (.loop .ready (σ.fr + 1))) w0 ((w.alloc (.deferred (some []))).alloc (.loop rec)) :=
      sees_new' hs1 hok1 hx2 (by simp [Env.blk, Env.nameC, World.size_alloc, St.newB]) (by simp only [HO.at, Env.nameC, if_true, LS.on]; rw [hrec])
    obtain ⟨ρ2, hρ2⟩ : ∃ ρ2, (ρ.name σ.fr w.heap.size).nameC (σ.fr + 1) (w.heap.size + 1) rec = ρ2 := ⟨_, rfl⟩
    have hn1 : ρ2.n (σ.fr + 1) = w.heap.size + 1 := by rw [← hρ2]; simp [Env.nameC]
    have hn0 : ρ2.n σ.fr = w.heap.size := by rw [← hρ2]; simp [Env.nameC, Env.name]
    have hc2 : ρ2.c (σ.fr + 1) = rec := by rw [← hρ2]; simp [Env.nameC]
    rw [hρ2] at hx hs2
    have hkn : Kn ρ2 { Γ with rounds := (σ.fr + 1, ⟨σ.T, ps, a, b⟩) :: Γ.rounds, rd := none } none (σ.fr + 2) := by
      refine ⟨rfl, fun q hq => (by cases hq), fun p hp => ?_⟩
      rcases List.mem_cons.1 hp with rfl | hp
      · refine ⟨by simp, ⟨σ.fr, by omega, (ok_parts hok).1⟩, ?_⟩
        simp only [hc2, hrec]
        exact ⟨(arr_ext hx (ok_parts hok).1).symm, trivial, trivial, trivial⟩
      · exact (hk.ext hx (Nat.le_add_right _ 2)).recs p hp
    obtain ⟨hst, hcall⟩ := hfn { Γ with rounds := (σ.fr + 1, ⟨σ.T, ps, a, b⟩) :: Γ.rounds, rd := none } rfl _ _ _ _ hgo
    obtain ⟨k1, k2⟩ := key (σ.fr + 1) (w.heap.size + 1) ((w.alloc (.deferred (some []))).alloc (.loop rec)) ρ2 hx hn1
    refine ⟨w.heap.size + 1, [{ target := .collected w.heap.size, args := #[] }], _, _, _, fid, _, _, ?_, k1, fun _ _ => fen_fn _ _, k2, fen_deep, fen_calls.2 ?_⟩
    · have := run_enterLoop_outer (P := P) (w := w) fn (actOf ρ σ.T σ.M).tmps ps a b
      rw [fen_round, hrec]
      exact this
    · refine hcall ρ2 w0 _ _ ⟨none, hkn⟩ hs2 fun o ho ρ' w' hx' hs' => ?_
      obtain ⟨s, hf', hsub⟩ := bindL_mem h o ho
      have hxx : Ext σ.fr ρ ρ' := hx.trans hx' (by show σ.fr ≤ σ.fr + 1 + 1; omega)
      have hn1' : ρ'.n (σ.fr + 1) = w.heap.size + 1 := (hx'.n _ (by show σ.fr + 1 < σ.fr + 1 + 1; omega)).trans hn1
      have hn0' : ρ'.n σ.fr = w.heap.size := (hx'.n _ (by show σ.fr < σ.fr + 1 + 1; omega)).trans hn0
      have := after_ok (P := P) (r := none) (D := [{ target := .collected w.heap.size, args := #[] }]) hf' hxx hs' (hst o ho).1 (hst o ho).2.1 hok (by
        rw [if_neg (by omega)]
        simp only [List.map_cons, mark, hn0', List.cons_append, List.nil_append]) fun z hz => hg z (hsub z hz)
      rw [hn1'] at this
      cases hox : o.x <;> simp only [hox] at this ⊢ <;> first | exact this | exact this.elim
  · -- within a round
    rename_i q hrd
    have hr : r = some (ρ.n q) := by rw [hk.rd, hrd]; rfl
    subst hr
    split at h
    case h_2 => cases h
    rename_i st0 k0 hlook
    split at h
    case h_2 => cases h
    rename_i outs1 hgo
    have hq : w.heap[ρ.n q]? = some (.loop (st0.on (ρ.c k0))) := hs.blk _ (look_mem hlook)
    refine wpIn_rangeFunc (F := fen (some (ρ.n q))) fun fn _ => ?_
    obtain ⟨rec, hrec⟩ : ∃ rec : Loop, rec = { state := .ready, pending := none, fn := fn, tmps := (actOf ρ σ.T σ.M).tmps, params := ps, assign := a, body := b, defers := (st0.on (ρ.c k0)).defers } := ⟨_, rfl⟩
    have hx := nameC_ext ρ σ.fr w.heap.size rec
    have hs2 : Sees TT (ρ.nameC σ.fr w.heap.size rec) (σ.newB (.loop .ready σ.fr)) w0 (w.alloc (.loop rec)) :=
      sees_new' hs hok hx (by simp [Env.blk, Env.nameC]) (by simp only [HO.at, Env.nameC, if_true, LS.on]; rw [hrec])
    obtain ⟨ρ2, hρ2⟩ : ∃ ρ2, ρ.nameC σ.fr w.heap.size rec = ρ2 := ⟨_, rfl⟩
    have hn1 : ρ2.n σ.fr = w.heap.size := by rw [← hρ2]; simp [Env.nameC]
    have hc2 : ρ2.c σ.fr = rec := by rw [← hρ2]; simp [Env.nameC]
    rw [hρ2] at hx hs2
    have hkn : Kn ρ2 { Γ with rounds := (σ.fr, ⟨σ.T, ps, a, b⟩) :: Γ.rounds, rd := none } none (σ.fr + 1) := by
      refine ⟨rfl, fun q hq => (by cases hq), fun p hp => ?_⟩
      rcases List.mem_cons.1 hp with rfl | hp
      · refine ⟨by simp, ⟨σ.fr, by omega, (ok_parts hok).1⟩, ?_⟩
        simp only [hc2, hrec]
        exact ⟨(arr_ext hx (ok_parts hok).1).symm, trivial, trivial, trivial⟩
      · exact (hk.ext hx (Nat.le_add_right _ 1)).recs p hp
    obtain ⟨hst, hcall⟩ := hfn { Γ with rounds := (σ.fr, ⟨σ.T, ps, a, b⟩) :: Γ.rounds, rd := none } rfl _ _ _ _ hgo
    obtain ⟨k1, k2⟩ := key σ.fr w.heap.size (w.alloc (.loop rec)) ρ2 hx hn1
    refine ⟨w.heap.size, [], _, _, _, fid, _, _, ?_, k1, fun _ _ => fen_fn _ _, k2, fen_deep, fen_calls.2 ?_⟩
    · have := run_enterLoop_inner (P := P) (w := w) hq fn (actOf ρ σ.T σ.M).tmps ps a b
      rw [fen_round, hrec]
      exact this
    · refine hcall ρ2 w0 _ _ ⟨none, hkn⟩ hs2 fun o ho ρ' w' hx' hs' => ?_
      obtain ⟨s, hf', hsub⟩ := bindL_mem h o ho
      have hxx : Ext σ.fr ρ ρ' := hx.trans hx' (by show σ.fr ≤ σ.fr + 1; omega)
      have hn1' : ρ'.n σ.fr = w.heap.size := (hx'.n _ (by show σ.fr < σ.fr + 1; omega)).trans hn1
      have := after_ok (P := P) (r := some (ρ.n q)) (D := []) hf' hxx hs' (hst o ho).1 (hst o ho).2.1 hok (by rw [if_pos rfl]; rfl) fun z hz => hg z (hsub z hz)
      rw [hn1'] at this
      cases hox : o.x <;> simp only [hox] at this ⊢ <;> first | exact this | exact this.elim

theorem setP_ok (ρ : Env) : ∀ (ps : List Tmp) (vs T : List V), ps.length = vs.length → ((ps.zip (vs.map (V.den ρ))).foldl (fun tmps (p : Tmp × Value) => tmps.setIfInBounds p.1 p.2) (arr ρ T)) = arr ρ (setP T ps vs)
  | [], [], T, _ => rfl
  | [], _ :: _, T, h => by cases h
  | _ :: _, [], T, h => by cases h
  | p :: ps, v :: vs, T, h => by
    have e1 : (arr ρ T).setIfInBounds p (v.den ρ) = arr ρ (T.set p v) := by simp [arr, List.map_set]
    simp only [List.map_cons, List.zip_cons_cons, List.foldl_cons, e1, setP]
    exact setP_ok ρ ps vs _ (by simpa using h)
theorem fen_in (r : Option Nat) (l : Nat) : (fen r).inRound l = fen (some l) := by cases r <;> rfl
theorem ok_round {g : Nat} (hcode : ∀ Γ', Γ'.calls = Γ.calls → OkCode TT P Γ' g) : OkRound TT P Γ (g + 1) := by
  intro l args σ outs h
  simp only [go] at h
  split at h
  · cases h
  rename_i l0 rec hfind
  have hl0 : l0 = l := by have := List.find?_some hfind; simpa using this
  subst hl0
  have hmem := List.mem_of_find?_eq_some hfind
  split at h
  case h_2 => cases h
  rename_i l' hlook
  split at h
  case isFalse => cases h
  rename_i hc
  simp only [Bool.and_eq_true, decide_eq_true_eq] at hc
  obtain ⟨⟨⟨hok, rfl⟩, hargs⟩, hlen⟩ := hc
  split at h
  case h_2 => cases h
  rename_i la hla
  refine ⟨⟨hok, fun o ho => ?_⟩, fun ρ w0 w R r hk hs hg => ?_⟩
  · obtain ⟨u, hu, s, hf, hos⟩ := bindL_mem' h o ho
    cases hux : u.x <;> simp only [hux] at hf <;> try (cases hf; done)
    case must e =>
      split at hf <;> cases hf
      cases List.mem_singleton.1 hos
      exact ⟨rfl, rfl, fun v hv => by cases hv⟩
    case norm =>
      split at hf
      case isFalse => cases hf
      split at hf
      case h_2 => cases hf
      obtain ⟨z, hz, s2, hf2, hos2⟩ := bindL_mem' hf o hos
      split at hf2
      case isFalse => cases hf2
      cases hzx : z.x <;> simp only [hzx] at hf2
      case must e =>
        cases hf2
        cases List.mem_singleton.1 hos2
        exact ⟨rfl, rfl, fun v hv => by cases hv⟩
      all_goals
        split at hf2
        case isFalse => cases hf2
        first
          | (cases hf2; cases List.mem_singleton.1 hos2; exact ⟨rfl, rfl, fun v hv => by cases hv⟩)
          | (cases hf2; done)
  · obtain ⟨hlt, ⟨m0, hm0, hTu⟩, ht1, ht2, ht3, ht4⟩ := hk.recs _ hmem
    simp only at hlt hTu ht1 ht2 ht3 ht4
    have hblk : w.heap[ρ.n l']? = some (.loop (LS.ready.on (ρ.c l'))) := hs.blk _ (look_mem hlook)
    have hyield := run_yield (P := P) (w := w) (args := arr ρ args) hblk (by simp only [arr, LS.on, ht2]; simp [hlen])
    simp only [LS.on, ht1, ht2, ht3, ht4] at hyield
    have htm : ((rec.ps.zip (arr ρ args)).foldl (fun tmps (x : Tmp × Value) => tmps.setIfInBounds x.1 x.2) (arr ρ rec.T)) = arr ρ (setP rec.T rec.ps.toList args) := by
      rw [← setP_ok ρ rec.ps.toList args rec.T (by simp [hlen]), ← Array.foldl_toList, Array.toList_zip]
      rfl
    refine ⟨_, _, _, _, hyield, roundIn_of_wpIn (fen_fn _ _) ?_⟩
    rw [fen_in]
    have hk1 := hk.round hlt
    have hact : ({ tmps := arr ρ (setP rec.T rec.ps.toList args), defers := [] } : Act) = actOf ρ (setP rec.T rec.ps.toList args) [] := rfl
    rw [htm, hact]
    refine hcode { Γ with rd := some l' } rfl rec.a _ la hla ρ w0 w _ _ hk1 (hs.withTM _ _) fun o ho ρ1 w1 hx1 hs1 => ?_
    obtain ⟨s, hf, hsub⟩ := bindL_mem h o ho
    have hn1 : ρ1.n l' = ρ.n l' := hx1.n _ hlt
    cases hox : o.x <;> simp only [hox] at hf ⊢ <;> try (cases hf; done)
    case must e =>
      split at hf
      case isFalse => cases hf
      cases hf
      exact hg _ (hsub _ List.mem_cons_self) ρ1 w1 hx1 (hs1.withTM _ _)
    case norm =>
      split at hf
      case isFalse => cases hf
      rename_i hc1
      obtain ⟨hfr1, hlook1⟩ := hc1
      split at hf
      case h_2 => cases hf
      rename_i lb hlb
      have hb1 : w1.heap[ρ.n l']? = some (.loop (LS.ready.on (ρ1.c l'))) := by rw [← hn1]; exact hs1.blk _ (look_mem hlook1)
      have hbr := run_beginRound (P := P) hb1 rfl
      refine ⟨_, hbr, ?_⟩
      have hlt1 := (Array.getElem?_eq_some_iff.1 hb1).1
      have hs2 : Sees TT ρ1 (o.st.upd (.n l') (.loop .busy l')) w0 (w1.putObj (ρ.n l') (.loop { LS.ready.on (ρ1.c l') with state := .busy })) :=
        sees_upd hs1 (List.mem_map.2 ⟨_, look_mem hlook1, rfl⟩) (by
          show (w1.putObj _ _).heap[ρ1.n l']? = _
          rw [hn1, World.putObj_heap_same hlt1]; rfl) (fun j hj => World.putObj_heap_other (by rw [← hn1]; exact hj)) rfl rfl rfl (putObj_size _ _ _)
      have hk2 : Kn ρ1 { Γ with rd := some l' } (some (ρ.n l')) o.st.fr := hk1.ext hx1 hfr1
      refine hcode { Γ with rd := some l' } rfl rec.b _ lb hlb ρ1 w0 _ _ _ hk2 hs2 fun u hu ρ2 w2 hx2 hs3 => ?_
      obtain ⟨s2, hf2, hsub2⟩ := bindL_mem hf u hu
      have hx12 : Ext σ.fr ρ ρ2 := hx1.trans hx2 hfr1
      have hn2 : ρ2.n l' = ρ.n l' := hx12.n _ hlt
      split at hf2
      case isFalse => cases hf2
      have fin : ∀ (s : LS) (j : Option Code), u.st.look (.n l') = some (.loop .busy l') → (∀ r0 : Loop, ({ LS.busy.on r0 with state := if j.isNone then .ready else .done, pending := j } : Loop) = s.on r0) →
          GoodF TT R ρ σ.fr w0 ⟨.val (.b (if j.isNone then .tt else .ff)), σ.back l' s u.st⟩ → ∃ v w', (Instr.endRound (ρ.n l') j).run P w2 = .ok v w' ∧ R (.returned v) w' := fun s j hl2 he hgd => by
        have hb2 : w2.heap[ρ.n l']? = some (.loop (LS.busy.on (ρ2.c l'))) := by rw [← hn2]; exact hs3.blk _ (look_mem hl2)
        have hlt2 := (Array.getElem?_eq_some_iff.1 hb2).1
        refine ⟨_, _, run_endRound (P := P) j hb2, ?_⟩
        have hs4 : Sees TT ρ2 (u.st.upd (.n l') (.loop s l')) w0 (w2.putObj (ρ.n l') (.loop { LS.busy.on (ρ2.c l') with state := if j.isNone then .ready else .done, pending := j })) :=
          sees_upd hs3 (List.mem_map.2 ⟨_, look_mem hl2, rfl⟩) (by
            show (w2.putObj _ _).heap[ρ2.n l']? = _
            rw [hn2, World.putObj_heap_same hlt2, he]) (fun j hj => World.putObj_heap_other (by rw [← hn2]; exact hj)) rfl rfl rfl (putObj_size _ _ _)
        have := hgd ρ2 _ hx12 (hs4.withTM σ.T σ.M)
        simp only at this
        cases j <;> exact this
      cases hux : u.x <;> simp only [hux] at hf2 ⊢
      case must e =>
        cases hf2
        exact hg _ (hsub _ (hsub2 _ List.mem_cons_self)) ρ2 w2 hx12 (hs3.withTM _ _)
      case norm =>
        split at hf2
        case isFalse => cases hf2
        rename_i hl2
        cases hf2
        exact fin .ready none hl2 (fun r0 => rfl) (hg _ (hsub _ (hsub2 _ List.mem_cons_self)))
      case ret =>
        split at hf2
        case isFalse => cases hf2
        rename_i hl2
        cases hf2
        exact fin .ret (some .ret) hl2 (fun r0 => rfl) (hg _ (hsub _ (hsub2 _ List.mem_cons_self)))
      case exit id =>
        split at hf2
        case isFalse => cases hf2
        rename_i hl2
        cases hf2
        exact fin (.exit id) (some (.exit id)) hl2 (fun r0 => rfl) (hg _ (hsub _ (hsub2 _ List.mem_cons_self)))
      all_goals
        split at hf2
        case isFalse => cases hf2
        cases hf2
theorem ok_code {g : Nat} (hcode : OkCode TT P Γ g) (hseq : OkSeq TT P Γ g) (hany : OkAny TT P Γ g) (hun : OkUnroll TT P Γ g) (hfn : ∀ Γ', Γ'.calls = Γ.calls → OkFnG TT P Γ' g) : OkCode TT P Γ (g + 1) := by
  intro c σ outs h ρ w0 w Q r hk hs hg
  cases c with
  | skip => simp only [go] at h; cases h; exact wpIn_skip (hg _ List.mem_cons_self ρ w (Ext.refl _ _) hs)
  | label l => simp only [go] at h; cases h; exact wpIn_label (hg _ List.mem_cons_self ρ w (Ext.refl _ _) hs)
  | ret => simp only [go] at h; cases h; exact wpIn_ret (hg _ List.mem_cons_self ρ w (Ext.refl _ _) hs)
  | exit id => simp only [go] at h; cases h; exact wpIn_exit (hg _ List.mem_cons_self ρ w (Ext.refl _ _) hs)
  | seq a b =>
    simp only [go] at h
    split at h
    · rename_i l hl
      refine wpIn_seq (hcode a σ l hl ρ w0 w _ r hk hs fun u hu ρ' w' hx hs' => ?_)
      obtain ⟨s, hf, hsub⟩ := bindL_mem h u hu
      cases hux : u.x with
      | norm =>
        simp only [hux] at hf ⊢
        split at hf
        · rename_i hfr
          exact hcode b u.st s hf ρ' w0 w' Q r (hk.ext hx hfr) hs' fun z hz => (hg z (hsub z hz)).ext hx hfr
        · cases hf
      | _ =>
        simp only [hux] at hf ⊢
        cases hf
        have := hg u (hsub u List.mem_cons_self) ρ' w' hx hs'
        rw [hux] at this
        exact this
    · cases h
  | block id c =>
    simp only [go] at h
    split at h
    · rename_i l hl
      cases h
      refine wpIn_block (hcode c σ l hl ρ w0 w _ r hk hs fun u hu ρ' w' hx hs' => ?_)
      have := hg _ (List.mem_map.2 ⟨u, hu, rfl⟩)
      by_cases he : u.x = .exit id
      · rw [if_pos he] at this
        rw [he]
        show Exit.inBlock id Q (.exit id) _ _
        simp only [Exit.inBlock, if_true]
        exact this ρ' w' hx hs'
      · rw [if_neg he] at this
        have := this ρ' w' hx hs'
        revert this he
        cases u.x <;> intro he this
        case exit id' =>
          show Exit.inBlock id Q (.exit id') _ _
          have : ¬ id' = id := fun e => he (by rw [e])
          simp only [Exit.inBlock, this, if_false]
          assumption
        all_goals exact this
    · cases h
  | scope c =>
    simp only [go] at h
    exact scopeIn (hcode c σ outs h ρ w0 w _ r hk hs fun u hu => (hg u hu).goto)
  | cond q a b =>
    simp only [go] at h
    split at h
    · rename_i e he
      have hev : (actOf ρ σ.T σ.M).eval q = .bool (e.B ρ) := evalO_ok he
      split at h
      · rename_i hd
        refine wpIn_cond hev ?_
        rw [decideB_ok hs.fact hd]
        exact hcode a σ outs h ρ w0 w Q r hk hs hg
      · rename_i hd
        refine wpIn_cond hev ?_
        rw [decideB_ok hs.fact hd]
        exact hcode b σ outs h ρ w0 w Q r hk hs hg
      · split at h
        · rename_i x y h1 h2
          cases h
          refine wpIn_cond hev ?_
          cases hb : e.B ρ with
          | true => exact hcode a (σ.know e true) x h1 ρ w0 w Q r hk (hs.know hb) fun u hu => hg u (List.mem_append.2 (.inl hu))
          | false => exact hcode b (σ.know e false) y h2 ρ w0 w Q r hk (hs.know hb) fun u hu => hg u (List.mem_append.2 (.inr hu))
        · cases h
    · cases h
  | region id ops draw =>
    cases draw with
    | false =>
      simp only [go] at h
      exact wpIn_region (hseq ops _ σ outs h ρ w0 w Q r hk hs hg)
    | true =>
      simp only [go] at h
      split at h
      · rename_i hc
        simp only [Bool.and_eq_true] at hc
        split at h
        · rename_i l hl
          cases h
          refine wpIn_mono (regionR (Q := strong Q) hc.1.1 (S := Held []) ?_) (fun _ _ _ => strong_out)
          have hs' : Sees TT ρ σ w0 { w with drawn := w.drawn + 1 } := hs.drew _
          have hpl : ∀ (j : Nat) (o : Oper), ops[j]? = some o → Plain r o := fun j o ho => by
            cases hr : Γ.rd with
            | none => left; rw [hk.rd, hr]; rfl
            | some q =>
              right
              have h3 := hc.2
              simp only [hr, Option.isNone_some, Bool.false_or, Array.all_eq_true_iff_forall_mem] at h3
              simpa using h3 o (Array.mem_of_getElem? ho)
          exact hany ops _ _ [] σ l hl hc.1.2 ρ w0 _ Q [] r hpl hk hs' (fun p hp => by cases hp) (fun p hp => by cases hp) fun u hu => hg u (List.mem_eraseDups.2 hu)
        · cases h
      · cases h
  | loop c =>
    simp only [go] at h
    split at h
    · rename_i L hL
      split at h
      · rename_i σI ms hin
        split at h
        · rename_i l hl
          split at h
          · rename_i r hb
            cases h
            obtain ⟨ρ1, hx1, hle, hact, hs1⟩ := promS_ok (P := P) L.prom hs
            rw [← hact]
            exact ok_loop hcode hin hl hb (hk.ext hx1 hle) hs1 fun o ho => (hg o ho).ext hx1 hle
          · cases h
        · cases h
      · cases h
    · exact wp_rounds (hun c σ outs h ρ w0 w Q r hk hs hg)
  | rangeFunc f ps a b => exact ok_range hfn h hk hs hg
  | goto l => simp only [go] at h; cases h
  | refuse s => simp only [go] at h; cases h

theorem tupV_ok (ρ : Env) (l : List V) : (tupV l).den ρ = (if h : (arr ρ l).size = 1 then (arr ρ l)[0] else .tuple (arr ρ l)) := by
  match l with
  | [] => simp [tupV, den_tup, arr, V.ofL, dens_nil]
  | [x] => simp [tupV, arr]
  | x :: y :: l =>
    have : ¬ (arr ρ (x :: y :: l)).size = 1 := by simp [arr]
    rw [dif_neg this]
    show V.den ρ (.tup (V.ofL (x :: y :: l))) = _
    rw [den_tup, dens_ofL]; rfl
theorem resV_ok {ρ : Env} {σ : St} {w0 w : World} (hs : Sees TT ρ σ w0 w) (F : ResultVar → Sem Value) (F1 : ∀ t, F (.tmp t) = pure ((actOf ρ σ.T σ.M).tmps.getD t undef))
    (F2 : ∀ a t, F (.cell a t) = (do loadVar t (← asAddr ((actOf ρ σ.T σ.M).tmps.getD a undef)))) : ∀ {l : List ResultVar} {vs : List V}, resV P σ l = some vs → (l.mapM F).run P w = .ok (vs.map (V.den ρ)) w
  | [], vs, h => by cases h; rfl
  | .tmp t :: l, vs, h => by
    simp only [resV] at h
    split at h
    · rename_i a b h1 h2
      cases h
      have : (actOf ρ σ.T σ.M).tmps.getD t undef = a.den ρ := by simp [actOf, h1]
      simp only [List.mapM_cons, F1, this, Sem.run_bind, Sem.run_pure, Result.andThen_ok]
      rw [resV_ok hs F F1 F2 h2]; rfl
    · cases h
  | .cell a t :: l, vs, h => by
    simp only [resV] at h
    split at h
    · rename_i p b h1 h2
      split at h
      · rename_i v hv
        cases h
        have hp : (actOf ρ σ.T σ.M).tmps.getD a undef = p.den ρ := by simp [actOf, h1]
        have hl := loadV_ok (P := P) hs hv
        have hpp : ∃ x, p.den ρ = .pointer (some x) := by
          unfold loadV at hv
          split at hv
          · split at hv
            · split at hv
              · rename_i hc _
                obtain ⟨a, ha, -⟩ := cellAt_ok hs hc
                exact ⟨a, ha⟩
              · cases hv
            · obtain ⟨a, ha, -⟩ := cellAt_ok hs hv
              exact ⟨a, ha⟩
            · cases hv
          · cases hv
        obtain ⟨x, hx⟩ := hpp
        simp only [Instr.loadAt, hx, Instr.sureAddr, Sem.run_bind, Sem.run_pure, Result.andThen_ok] at hl
        have ha : asAddr (.pointer (some x)) = pure x := rfl
        simp only [List.mapM_cons, F2, hp, hx, ha, Sem.run_bind, Sem.run_pure, Result.andThen_ok, hl]
        rw [resV_ok hs F F1 F2 h2]; rfl
      · cases h
    · cases h
theorem results_ok {ρ : Env} {σ : St} {w0 w : World} (hs : Sees TT ρ σ w0 w) {fn : Func} {vs : List V} (h : resV P σ fn.results.toList = some vs) : (results fn (actOf ρ σ.T σ.M).tmps).run P w = .ok ((tupV vs).den ρ) w := by
  unfold results
  rw [Sem.run_bind, Array.mapM_eq_mapM_toList]
  simp only [Sem.run_map]
  rw [resV_ok (P := P) hs _ (fun _ => rfl) (fun _ _ => rfl) h]
  simp only [Result.andThen_ok, Sem.run_pure, tupV_ok]
  rfl

/-- A function leaves with marks. -/
theorem leaves_marks {fn : Func} {tmps : Array Value} {R : Ending → World → Prop} {ρ : Env} {w0 : World} : ∀ (M : List Nat) (σ τ : St) (w : World), dropM M σ = some τ → Sees TT ρ σ w0 w → (∀ w', Sees TT ρ τ w0 w' → ∃ v, (results fn tmps).run P w' = .ok v w' ∧ R (.returned v) w') →
    LeavesInM Fence.wide 0 P fn tmps R (M.map (mark ρ)) .returning w
  | [], σ, τ, w, h, hs, hr => by cases h; exact hr w hs
  | k :: ks, σ, τ, w, h, hs, hr => by
    simp only [dropM] at h
    split at h
    · rename_i hc
      have hmem := look_mem hc.1
      have hb : w.heap[ρ.n k]? = some (.deferred (some [])) := hs.blk _ hmem
      refine ⟨by simp, .inl ⟨ρ.n k, _, rfl, run_takeDeferred (P := P) hb, ?_⟩⟩
      exact leaves_marks ks _ τ _ h (sees_drop hs (b := .n k) (List.mem_map.2 ⟨_, hmem, rfl⟩) (by simp [Bk.own, hc.2]) (fun j hj => World.putObj_heap_other hj) rfl rfl rfl (putObj_size _ _ _)) hr
    · cases h
theorem dropM_same : ∀ {M : List Nat} {σ τ : St}, dropM M σ = some τ → τ.T = σ.T ∧ τ.fr = σ.fr
  | [], σ, τ, h => by cases h; exact ⟨rfl, rfl⟩
  | k :: ks, σ, τ, h => by
    simp only [dropM] at h
    split at h
    · have h2 := dropM_same (M := ks) h
      exact h2
    · cases h
theorem ok_fn {g : Nat} (hΓ : ∀ q ∈ Γ.calls, CtrOk TT P q) (hcode : ∀ Γ', Γ'.calls = Γ.calls → OkCode TT P Γ' g) : OkFnG TT P Γ (g + 1) := by
  intro f args σ outs h
  simp only [go] at h
  split at h
  · rename_i q hq
    split at h
    · rename_i l hl
      split at h
      · rename_i hc
        cases h
        simp only [Bool.and_eq_true, Nat.ble_eq] at hc
        obtain ⟨⟨h1, h2⟩, h3⟩ := hc
        rw [List.all_eq_true] at h3
        refine ⟨fun o ho => ?_, fun ρ w0 w R hk hs hg => ?_⟩
        · obtain ⟨u, hu, rfl⟩ := List.mem_map.1 ho
          exact ⟨rfl, rfl, by simpa [Nat.ble_eq] using h3 u hu⟩
        · have hf : q.f = f := by have := List.find?_some hq; simpa using this
          rw [← hf]
          exact hΓ q (List.mem_of_find?_eq_some hq) args σ _ hl h1 (bdL_under h2) ρ w0 w R hs fun u hu ρ' w' hx hs' => hg _ (List.mem_map.2 ⟨u, hu, rfl⟩) ρ' w' hx (hs'.withTM _ _)
      · cases h
    · cases h
  · split at h
    · rename_i fn hfn
      split at h
      · rename_i c hb
        split at h
        · rename_i l hl
          refine ⟨fun o ho => ?_, fun ρ w0 w R hk hs hg => ?_⟩
          · obtain ⟨u, hu, s, hf, hos⟩ := bindL_mem' h o ho
            split at hf
            · rename_i hfr
              cases hux : u.x <;> simp only [hux] at hf <;> try (cases hf; done)
              case must =>
                cases hf
                cases List.mem_singleton.1 hos
                exact ⟨rfl, rfl, hfr⟩
              case panic =>
                split at hf <;> cases hf
                cases List.mem_singleton.1 hos
                exact ⟨rfl, rfl, hfr⟩
              all_goals
                split at hf
                case h_2 => cases hf
                rename_i τ hτ
                split at hf <;> cases hf
                cases List.mem_singleton.1 hos
                exact ⟨rfl, rfl, by show σ.fr ≤ (St.gc _ _ _).fr; rw [gc_fr, (dropM_same hτ).2]; exact hfr⟩
            · cases hf
          · obtain ⟨rr, hk⟩ := hk
            refine callsIn_wide.1 (callsIn_of_wp_marks (F := Fence.wide) (n := 0) hfn hb trivial ?_)
            have hact : (⟨arr ρ args ++ Array.replicate (fn.ntmps - (arr ρ args).size) undef, []⟩ : Act) = actOf ρ (args ++ List.replicate (fn.ntmps - args.length) undefV) [] := by
              simp only [actOf, arr, List.map_append, List.map_replicate, undef_den, List.map_nil]
              congr 1
              apply Array.ext'
              simp
            rw [hact]
            refine hcode { Γ with rd := none } rfl c _ l hl ρ w0 w _ none hk.plain (hs.withTM _ _) fun u hu ρ' w' hx hs' => ?_
            obtain ⟨s, hf, hsub⟩ := bindL_mem h u hu
            split at hf
            · rename_i hfr
              cases hux : u.x <;> simp only [hux] at hf ⊢ <;> try (cases hf; done)
              case must =>
                cases hf
                exact hg _ (hsub _ List.mem_cons_self) ρ' w' hx (hs'.withTM _ _)
              case panic =>
                split at hf
                case isFalse => cases hf
                rename_i hM
                cases hf
                intro a ha
                show LeavesInM Fence.wide 0 P fn a.tmps R a.defers (.panicking _) w'
                rw [ha]
                exact hg _ (hsub _ List.mem_cons_self) ρ' w' hx (hs'.withTM _ _)
              all_goals
                split at hf
                case h_2 => cases hf
                rename_i τ hτ
                split at hf <;> cases hf
                rename_i vs hv
                refine leaves_marks u.st.M u.st τ w' hτ hs' fun w2 hs2 => ?_
                refine ⟨_, ?_, hg _ (hsub _ List.mem_cons_self) ρ' w2 hx ((sees_gc hs2 _ _).withTM _ _)⟩
                have := results_ok (P := P) hs2 hv
                rw [(dropM_same hτ).1] at this
                exact this
            · cases hf
        · cases h
      · cases h
    · cases h

theorem go_ok {calls : List Ctr} (hΓ : ∀ q ∈ calls, CtrOk TT P q) : ∀ g Γ, Γ.calls = calls → OkCode TT P Γ g ∧ OkOp TT P Γ g ∧ OkSeq TT P Γ g ∧ OkAny TT P Γ g ∧ OkFnG TT P Γ g ∧ OkUnroll TT P Γ g ∧ OkRound TT P Γ g
  | 0, Γ, _ => by
    refine ⟨fun c σ outs h => ?_, fun o σ outs h => ?_, fun a l σ outs h => ?_, fun a n li K σ outs h => ?_, fun f as σ outs h => ?_, fun c σ outs h => ?_, fun l as σ outs h => ?_⟩ <;> simp only [go] at h <;> cases h
  | g + 1, Γ, hc => by
    have ih := fun Γ' (h : Γ'.calls = Γ.calls) => go_ok hΓ g Γ' (h.trans hc)
    obtain ⟨h1, h2, h3, h4, h5, h6, h7⟩ := ih Γ rfl
    exact ⟨ok_code h1 h3 h4 h6 fun Γ' h => (ih Γ' h).2.2.2.2.1, ok_op h2 h5 h7, ok_seq h2 h3, ok_any h2 h4, ok_fn (by rw [hc]; exact hΓ) fun Γ' h => (ih Γ' h).1, ok_unroll h1 h6, ok_round fun Γ' h => (ih Γ' h).1⟩

def Ctx.top (Γ : Ctx) : Ctx := { Γ with rounds := [], rd := none }
theorem known_top (Γ : Ctx) (ρ : Env) (m : Nat) : Known Γ.top ρ m := ⟨none, ⟨rfl, (fun q hq => by cases hq), (fun p hp => by cases hp)⟩⟩
/-- **A FUNCTION's CALL**: what the executor says of it holds. -/
theorem sx_call (hΓ : ∀ q ∈ Γ.calls, CtrOk TT P q) {g : Nat} {f : FuncId} {args : List V} {σ : St} {outs : List Out} (h : go P g Γ.top (.fn f args) σ = some outs) {ρ : Env} {w : World} {as : Array Value} (ha : as = arr ρ args)
    (hH : σ.H = []) (hW : σ.W = []) (hR : σ.R = []) (hF : holds ρ σ.F) (hT : TT.tab ρ.g ρ.h ρ.k ρ.m ∧ TT.J w) {R : Ending → World → Prop} (hg : ∀ o ∈ outs, GoodF TT R ρ σ.fr w o) : Calls P f as w R := by
  rw [ha]
  exact ((go_ok hΓ g Γ.top rfl).2.2.2.2.1 f args σ outs h).2 ρ w w R (known_top _ _ _) (Sees.start ρ σ w hH hW hR hF hT) hg
end
end Go.Proofs.Ytmbhjfembfidnaa.Sx
end
section
namespace Go.Proofs.Ytmbhjfembfidnaa.Sx
open Go

def nthL {α : Type} : List α → Nat → Option α
  | [], _ => none
  | a :: l, n => match n with | 0 => some a | m + 1 => nthL l m
theorem nthL_eq {α : Type} : ∀ (l : List α) (n : Nat), nthL l n = l[n]?
  | [], _ => rfl
  | a :: l, 0 => rfl
  | a :: l, n + 1 => by rw [nthL, nthL_eq l n]; simp
theorem nthA {α : Type} (l : Array α) (n : Nat) : nthL l.toList n = l[n]? := by rw [nthL_eq]; simp
def evalK : Operand → List V → Option V
  | .tmp t => fun T => nthL T t
  | .const v => fun _ => ofV v
  | .global g => fun _ => some (.ptr (.g g) 0 [])
  | .func f => fun _ => some (.fn (.func f) .nil .nil)
def evalF (T : List V) (x : Operand) : Option V := evalK x T
theorem evalF_eq (T : List V) (x : Operand) : evalF T x = evalO T x := by cases x <;> simp [evalF, evalK, evalO, nthL_eq]

/-! ### Values -/
def fMove (_F : List E) (RR : List (Nat × Row)) (T : List V) (y : Operand) : Option R := match evalF T y with
  | some (.rsl x) => (match findR RR x with | some _ => some (.val (.var x)) | none => some (.val (.rsl x)))
  | some v => some (.val v)
  | none => none
def fAssign (T : List V) (y : Operand) : Option R := (evalF T y).map .val
def fPick (F : List E) (T : List V) (q a b : Operand) : Option R := match evalF T q with
  | some (.b e) => match decideB F e with | some true => (evalF T a).map .val | some false => (evalF T b).map .val | none => some (.split e)
  | _ => none
def fBin (P : Program) (F : List E) (RR : List (Nat × Row)) (T : List V) (op : BinOp) (t : TypeId) (x y : Operand) : Option R := match nilR P F RR op t (evalF T x) (evalF T y) with
  | some r => some r
  | none => match evalF T x, evalF T y with
    | some a, some b => (match structR P F op t a b with | some r => some r | none => binR P F op t a b)
    | _, _ => none
def fField (P : Program) (T : List V) (t : TypeId) (x : Operand) (n : Nat) : Option R := match evalF T x with | some a => fieldR P t n a | _ => none
def fNil (F : List E) (RR : List (Nat × Row)) (T : List V) (x : Operand) : Option R := match evalF T x with
  | some (.rptr v k l) => (match findR RR v with | some r => if someR F r l then some (.val (.rptr v k l)) else none | none => none)
  | some (.ptr b k l) => some (.val (.ptr b k l))
  | some (.fn (.func f) a b) => some (.val (.fn (.func f) a b))
  | _ => none
def opK : Op → Program → St → Oper → Option R
  | .move y => fun _ σ _ => fMove σ.F σ.R σ.T y
  | .assign y => fun _ σ _ => fAssign σ.T y
  | .pick q a b => fun _ σ _ => fPick σ.F σ.T q a b
  | .binOp op t x y _ => fun P σ _ => fBin P σ.F σ.R σ.T op t x y
  | .field t x n => fun P σ _ => fField P σ.T t x n
  | .nilCheck x => fun _ σ _ => fNil σ.F σ.R σ.T x
  | .load _ _ | .store _ _ _ | .alloc _ | .box _ _ | .buildSlice _ _ _ | .makeSlice _ _ _ | .makeMap _ _ | .insert _ _ _ _ | .mapUpdate _ _ _ _ | .lookup _ _ _ _ | .panic _ => fun _ _ _ => none
  | .call c => match c.callee with | .value _ => fun _ _ _ => none | _ => fun P σ o => opW P σ o
  | _ => fun P σ o => opW P σ o
def opF (P : Program) (σ : St) (o : Oper) : Option R := opK o.op P σ o
theorem opF_eq (P : Program) (σ : St) (o : Oper) : opF P σ o = opW P σ o := by
  unfold opF
  cases hop : o.op <;> simp only [opK]
  case move y =>
    simp only [opW, rowR, opV, hop, fMove, evalF_eq]
    cases evalO σ.T y with
    | none => rfl
    | some v =>
      cases v <;> try rfl
      rename_i x
      simp only
      cases findR σ.R x <;> rfl
  case assign => simp only [opW, rowR, opV, hop, fAssign, evalF_eq]
  case pick => simp only [opW, rowR, opV, hop, fPick, evalF_eq]; rfl
  case binOp => simp only [opW, rowR, opV, hop, fBin, evalF_eq]; rfl
  case field => simp only [opW, rowR, opV, hop, fField, evalF_eq]; rfl
  case nilCheck x =>
    simp only [opW, rowR, opV, hop, fNil, evalF_eq]
    cases evalO σ.T x with
    | none => rfl
    | some v =>
      cases v
      case fn f a b => cases f <;> rfl
      case rptr x k l =>
        simp only
        cases findR σ.R x with
        | none => rfl
        | some r => simp only; split <;> rfl
      all_goals rfl
  case call c =>
    obtain ⟨cl, ag, ts⟩ := c
    cases cl <;> first
      | rfl
      | simp only [opW, rowR, opV, hop]
  all_goals first
    | rfl
    | simp only [opW, rowR, opV, hop]

/-! ### Regions that draw their order -/
def guardF (ops : List Oper) (σ : St) (o : Oper) : Option (Bool ⊕ E) :=
  match o.guard with
  | none => some (.inl true)
  | some (j, want) =>
    match (nthL ops j).bind (·.dst) with
    | none => some (.inl false)
    | some d => match nthL σ.T d with
      | some (.b e) => match decideB σ.F e with | some b => some (.inl (b == want)) | none => some (.inr e)
      | some (.tup _) => some (.inl false)
      | some (.i _ _) => some (.inl false)
      | _ => none
theorem guardF_eq (ops : Array Oper) (σ : St) (o : Oper) : guardF ops.toList σ o = guardV ops σ o := by
  simp only [guardF, guardV, nthA]
  simp only [nthL_eq]
  rfl
def readyF (ops : List Oper) (L : List Bool) : List Nat :=
  (List.range ops.length).filter fun i => !(nthL L i).getD true && ((nthL ops i).map fun o => o.after.toList.all fun e => !Region.binds .any e || (nthL L e.on).getD false).getD false
theorem readyF_eq (ops : Array Oper) (listed : Array Bool) : readyF ops.toList listed.toList = Region.ready .any ops listed := by
  unfold readyF Region.ready
  rw [Array.length_toList]
  apply List.filter_congr
  intro i _
  simp only [nthA, Array.getD_eq_getD_getElem?]
  congr 2
  cases ops[i]? with
  | none => rfl
  | some o => simp only [Option.map_some, Array.all_toList]
def looksF (ops : List Oper) (o : Oper) : List Tmp :=
  (o.op.operands.toList.filterMap fun | .tmp t => some t | _ => none) ++
  (match o.guard with
   | some (g, _) => ((nthL ops g).bind (·.dst)).toList
   | none => [])
theorem looksF_eq (ops : Array Oper) (o : Oper) : looksF ops.toList o = o.looksAt ops := by simp only [looksF, Oper.looksAt, nthA]; rfl
def apartF (ops : List Oper) (x y : Oper) : Bool :=
  (match x.dst with
   | some d => !(looksF ops y).contains d && y.dst != some d
   | none => true) &&
  (match y.dst with
   | some d => !(looksF ops x).contains d
   | none => true)
theorem apartF_eq (ops : Array Oper) (x y : Oper) : apartF ops.toList x y = x.apart ops y := by simp only [apartF, Oper.apart, looksF_eq]; rfl
def freeF (ops : List Oper) (L : List Bool) (i : Nat) : Bool :=
  match nthL ops i with
  | none => false
  | some oi => (List.range ops.length).all fun j => j == i || (nthL L j).getD true || match nthL ops j with
      | some oj => oj.after.toList.any (fun e => Region.binds .any e && e.on == i) || apartF ops oi oj
      | none => true
theorem freeF_eq (ops : Array Oper) (listed : Array Bool) (i : Nat) : freeF ops.toList listed.toList i = Region.free .any ops listed i := by
  unfold freeF Region.free
  simp only [nthA, Array.getD_eq_getD_getElem?, Array.length_toList, apartF_eq, Array.any_toList]
  rfl
def pickF (P : Program) (ops : Array Oper) (listed : Array Bool) (σ : St) : List Nat → Pick
  | [] => .none
  | i :: rest =>
    match nthL ops.toList i with
    | none => .none
    | some o =>
      match guardF ops.toList σ o with
      | some (.inl false) => if freeF ops.toList listed.toList i then .take i undefV [] else pickF P ops listed σ rest
      | some (.inr e) => .split e
      | some (.inl true) =>
        if freeF ops.toList listed.toList i then
          match opF P σ o with
          | some (.val v) => .take i v []
          | some (.need e) => .need e
          | some (.split e) => .split e
          | none => match o.op with
            | .load t x => match evalF σ.T x with
              | some p => match loadV P σ t p with
                | some v => if hits ops listed σ p then pickF P ops listed σ rest else .take i v (loadK P σ t p)
                | none => pickF P ops listed σ rest
              | none => pickF P ops listed σ rest
            | _ => pickF P ops listed σ rest
        else pickF P ops listed σ rest
      | none => pickF P ops listed σ rest
theorem pickF_eq (P : Program) (ops : Array Oper) (listed : Array Bool) (σ : St) : ∀ l, pickF P ops listed σ l = pickOp P ops listed σ l
  | [] => rfl
  | i :: rest => by simp only [pickF, pickOp, nthA, guardF_eq, freeF_eq, opF_eq, evalF_eq, pickF_eq P ops listed σ rest]; rfl
def setL : List Bool → Nat → List Bool
  | [], _ => []
  | b :: l, n => match n with | 0 => true :: l | m + 1 => b :: setL l m
theorem setL_eq : ∀ (l : List Bool) (n : Nat), setL l n = l.set n true
  | [], _ => rfl
  | b :: l, 0 => rfl
  | b :: l, n + 1 => by rw [setL, setL_eq l n]; rfl
def listF (listed : Array Bool) (i : Nat) : Array Bool := ⟨setL listed.toList i⟩
theorem listF_eq (listed : Array Bool) (i : Nat) : listF listed i = listed.setIfInBounds i true := by
  apply Array.ext'
  simp [listF, setL_eq]

/-! ### Operations that change memory -/
def fLoad (P : Program) (σ : St) (t : TypeId) (x : Operand) : Option (List Out) := match evalF σ.T x with
  | some p => match loadV P σ t p with | some v => some [⟨.val v, σ⟩] | none => none
  | none => none
def fStore (P : Program) (σ : St) (t : TypeId) (a x : Operand) : Option (List Out) := match evalF σ.T a, evalF σ.T x with
  | some p, some v => match storeS P σ t p (toR σ.R v) with
    | some σ' => some [⟨.val undefV, σ'⟩]
    | none => match storeRS P σ t p v with | some σ' => some [⟨.val undefV, σ'⟩] | none => none
  | _, _ => none
def fAlloc (P : Program) (σ : St) (t : TypeId) : Option (List Out) := match zeroV P t with
  | some z => match z.cells with
    | some l => if σ.ok && decide (σ.own ≤ σ.fr) then some [⟨.val (.ptr (.n σ.fr) 0 []), σ.newB (.cells l t)⟩] else none
    | none => none
  | none => none
def fBox (σ : St) (t : TypeId) (x : Operand) : Option (List Out) := match evalF σ.T x with
  | some v => match (toR σ.R v).cells with
    | some l => if σ.ok && decide (σ.own ≤ σ.fr) then some [⟨.val (.ptr (.n σ.fr) 0 []), σ.newB (.cells l t)⟩] else none
    | none => none
  | none => none
def fCall (P : Program) (call : FuncId → List V → St → Option (List Out)) (σ : St) (f : Operand) (args : Array Operand) : Option (List Out) := match evalF σ.T f, evalOs σ.T args.toList with
  | some (.fn (.func f) first cap), some as => if σ.ok && enters P f then match call f (first.toL ++ as ++ cap.toL) σ with | some l => if σ.M.isEmpty || l.all (fun o => !o.x.isPanic) then some l else none | none => none else none
  | _, _ => none
def effK : Op → Program → (FuncId → List V → St → Option (List Out)) → St → Oper → Option (List Out)
  | .load t x => fun P _ σ _ => fLoad P σ t x
  | .store t a x => fun P _ σ _ => fStore P σ t a x
  | .alloc t => fun P _ σ _ => fAlloc P σ t
  | .box t x => fun _ _ σ _ => fBox σ t x
  | .call c => match c.callee with | .value f => fun P call σ _ => fCall P call σ f c.args | _ => fun P call σ o => effS P call σ o
  | _ => fun P call σ o => effS P call σ o
def effF (P : Program) (call : FuncId → List V → St → Option (List Out)) (σ : St) (o : Oper) : Option (List Out) := effK o.op P call σ o
theorem effF_eq (P : Program) (call : FuncId → List V → St → Option (List Out)) (σ : St) (o : Oper) : effF P call σ o = effS P call σ o := by
  unfold effF
  cases hop : o.op <;> simp only [effK]
  case load => simp only [effS, hop, fLoad, evalF_eq]; rfl
  case store => simp only [effS, hop, fStore, evalF_eq]; rfl
  case alloc => simp only [effS, hop, fAlloc]; rfl
  case box => simp only [effS, hop, fBox, evalF_eq]; rfl
  case call c =>
    obtain ⟨cl, ag, ts⟩ := c
    cases cl <;> simp only [effS, hop, fCall, evalF_eq]
    rfl

/-! ### States, with their temporaries in full -/
def setK {β : Type} : List V → Nat → V → (List V → β) → β
  | [], _, _, k => k []
  | a :: l, n, v, k => match n with | 0 => k (v :: l) | m + 1 => setK l m v fun l' => k (a :: l')
theorem setK_eq {β : Type} : ∀ (l : List V) (n : Nat) (v : V) (k : List V → β), setK l n v k = k (l.set n v)
  | [], _, _, _ => rfl
  | a :: l, 0, _, _ => rfl
  | a :: l, n + 1, v, k => by rw [setK, setK_eq l n v]; rfl
def fullK {β : Type} : List V → (List V → β) → β
  | [], k => k []
  | a :: l, k => fullK l fun l' => k (a :: l')
theorem fullK_eq {β : Type} : ∀ (l : List V) (k : List V → β), fullK l k = k l
  | [], _ => rfl
  | a :: l, k => by rw [fullK, fullK_eq l]
def putK {β : Type} (σ : St) (d : Option Tmp) (v : V) (k : St → β) : β :=
  match σ with
  | ⟨T, H, R, F, fr, W, own, M⟩ => match d with
    | some d => setK T d v fun T' => k ⟨T', H, R, F, fr, W, own, M⟩
    | none => k ⟨T, H, R, F, fr, W, own, M⟩
theorem putK_eq {β : Type} (σ : St) (d : Option Tmp) (v : V) (k : St → β) : putK σ d v k = k (σ.put d v) := by
  cases σ
  cases d with
  | none => rfl
  | some d => simp only [putK, setK_eq, St.put]
def putNK {β : Type} (σ : St) (d : Option Tmp) (v : V) (k : St → β) : β := putK σ d (unR' σ.R v) k
theorem putNK_eq {β : Type} (σ : St) (d : Option Tmp) (v : V) (k : St → β) : putNK σ d v k = k (σ.putN d v) := by rw [putNK, putK_eq]; rfl

/-! ### Steps -/
abbrev Rc := Ctx → Job → St → Option (List Out)
def cSeq (rec : Rc) (Γ : Ctx) (a b : Code) (σ : St) : Option (List Out) := match rec Γ (.code a) σ with
  | some l => bindL l fun o => match o.x with
    | .norm => if σ.fr ≤ o.st.fr then rec Γ (.code b) o.st else none
    | _ => some [o]
  | none => none
def cCond (rec : Rc) (Γ : Ctx) (q : Operand) (a b : Code) (σ : St) : Option (List Out) := match evalF σ.T q with
  | some (.b e) => match decideB σ.F e with
    | some true => rec Γ (.code a) σ
    | some false => rec Γ (.code b) σ
    | none => match rec Γ (.code a) (σ.know e true), rec Γ (.code b) (σ.know e false) with
      | some x, some y => some (x ++ y)
      | _, _ => none
  | _ => none
def cBlock (rec : Rc) (Γ : Ctx) (id : Nat) (c : Code) (σ : St) : Option (List Out) := match rec Γ (.code c) σ with
  | some l => some (l.map fun o => if o.x = .exit id then ⟨.norm, o.st⟩ else o)
  | none => none
def cLoop (P : Program) (rec : Rc) (Γ : Ctx) (c : Code) (σ : St) : Option (List Out) := match Γ.loops.find? (fun L => some L.key == firstReg c && L.fits σ.T.length) with
  | some L => match loopIn L c (promS P L.prom σ) with
    | some (σI, ms) => match rec Γ (.code c) σI with
      | some l => match bindL l (fun o => match o.x with
        | .norm => loopBack L c (promS P L.prom σ).fr (σI.R.drop (L.rows (promS P L.prom σ).fr).length) σI o.st
        | _ => if σI.fr ≤ o.st.fr then some [o] else none) with
        | some r => some (ms ++ r)
        | none => none
      | none => none
    | none => none
  | none => rec Γ (.unroll c) σ
def cDraw (P : Program) (rec : Rc) (Γ : Ctx) (ops : Array Oper) (σ : St) : Option (List Out) :=
  if P.follows .mixedOrders && Region.noSelect ops && (Γ.rd.isNone || ops.all fun o => !isDefer o) then
    match rec Γ (.any ops ops.size (Array.replicate ops.size false) []) σ with | some l => some l.eraseDups | none => none else none
def cRange (P : Program) (rec : Rc) (Γ : Ctx) (f : Operand) (ps : Array Tmp) (a b : Code) (σ : St) : Option (List Out) := match evalF σ.T f with
  | some (.fn (.func fid) first cap) =>
    if σ.ok && (σ.newB .defd).ok && enters P fid then
      match Γ.rd with
      | none =>
        let l := σ.fr + 1
        match rec { Γ with rounds := (l, ⟨σ.T, ps, a, b⟩) :: Γ.rounds, rd := none } (.fn fid (first.toL ++ [.yld (.n l)] ++ cap.toL)) ((σ.newB .defd).newB (.loop .ready l)) with
        | some r => bindL r (afterRange σ σ.fr l)
        | none => none
      | some q => match σ.look (.n q) with
        | some (.loop _ _) =>
          let l := σ.fr
          match rec { Γ with rounds := (l, ⟨σ.T, ps, a, b⟩) :: Γ.rounds, rd := none } (.fn fid (first.toL ++ [.yld (.n l)] ++ cap.toL)) (σ.newB (.loop .ready l)) with
          | some r => bindL r (afterRange σ l l)
          | none => none
        | _ => none
    else none
  | _ => none
def codeK : Code → Program → Rc → Ctx → St → Option (List Out)
  | .skip => fun _ _ _ σ => some [⟨.norm, σ⟩]
  | .label _ => fun _ _ _ σ => some [⟨.norm, σ⟩]
  | .ret => fun _ _ _ σ => some [⟨.ret, σ⟩]
  | .exit id => fun _ _ _ σ => some [⟨.exit id, σ⟩]
  | .seq a b => fun _ rec Γ σ => cSeq rec Γ a b σ
  | .block id c => fun _ rec Γ σ => cBlock rec Γ id c σ
  | .scope c => fun _ rec Γ σ => rec Γ (.code c) σ
  | .cond q a b => fun _ rec Γ σ => cCond rec Γ q a b σ
  | .loop c => fun P rec Γ σ => cLoop P rec Γ c σ
  | .region _ ops draw => match draw with
    | false => fun _ rec Γ σ => rec Γ (.seq ops (List.range ops.size)) σ
    | true => fun P rec Γ σ => cDraw P rec Γ ops σ
  | .rangeFunc f ps a b => fun P rec Γ σ => cRange P rec Γ f ps a b σ
  | _ => fun _ _ _ _ => none
def jCode (P : Program) (rec : Rc) (Γ : Ctx) (c : Code) (σ : St) : Option (List Out) := codeK c P rec Γ σ
def rBody (rec : Rc) (Γ : Ctx) (l : Nat) (r : Rec) (σ τ : St) : Option (List Out) :=
  match rec { Γ with rd := some l } (.code r.b) (τ.upd (.n l) (.loop .busy l)) with
  | some lb => bindL lb fun u => if τ.fr ≤ u.st.fr then
      match u.x with
      | .must e => some [⟨.must e, { u.st with T := σ.T, M := σ.M }⟩]
      | x => if u.st.look (.n l) = some (.loop .busy l) then match x with
        | .norm => some [⟨.val (.b .tt), σ.back l .ready u.st⟩]
        | .ret => some [⟨.val (.b .ff), σ.back l .ret u.st⟩]
        | .exit id => some [⟨.val (.b .ff), σ.back l (.exit id) u.st⟩]
        | _ => none
        else none
    else none
  | none => none
def jRound (rec : Rc) (Γ : Ctx) (l : Nat) (args : List V) (σ : St) : Option (List Out) :=
  match Γ.rounds.find? (·.1 == l) with
  | none => none
  | some (_, r) => match σ.look (.n l) with
    | some (.loop .ready l') =>
      if σ.ok && decide (l' = l) && Nat.ble (bdL args) σ.fr && decide (args.length = r.ps.size) then
        match rec { Γ with rd := some l } (.code r.a) { σ with T := setP r.T r.ps.toList args, M := [] } with
        | some la => bindL la fun o => match o.x with
          | .norm => if σ.fr ≤ o.st.fr ∧ o.st.look (.n l) = some (.loop .ready l) then rBody rec Γ l r σ o.st else none
          | .must e => if σ.fr ≤ o.st.fr then some [⟨.must e, { o.st with T := σ.T, M := σ.M }⟩] else none
          | _ => none
        | none => none
      else none
    | _ => none
def jUnroll (rec : Rc) (Γ : Ctx) (c : Code) (σ : St) : Option (List Out) := match rec Γ (.code c) σ with
  | some l => bindL l fun o => match o.x with
    | .norm => if σ.fr ≤ o.st.fr then rec Γ (.unroll c) o.st else none
    | _ => some [o]
  | none => none
def oEff (P : Program) (rec : Rc) (Γ : Ctx) (o : Oper) (σ : St) : Option (List Out) := match yieldOf σ o with
  | some (l, vs) => rec Γ (.round l vs) σ
  | none => match sliceG P Γ.keep σ o with
    | some r => some r
    | none => effF P (fun f as τ => rec Γ (.fn f as) τ) σ o
def jOp (P : Program) (rec : Rc) (Γ : Ctx) (o : Oper) (σ : St) : Option (List Out) :=
  if Γ.rd.isSome && isDefer o then none else
  match opF P σ o with
  | some (.val v) => some [⟨.val v, σ⟩]
  | some (.need e) => match rec Γ (.op o) (σ.know e true) with | some l => some (⟨.must e, σ⟩ :: l) | none => none
  | some (.split e) => match rec Γ (.op o) (σ.know e true), rec Γ (.op o) (σ.know e false) with
    | some x, some y => some (x ++ y)
    | _, _ => none
  | none => oEff P rec Γ o σ
def sOp (rec : Rc) (Γ : Ctx) (ops : Array Oper) (i : Nat) (rest : List Nat) (o : Oper) (σ : St) : Option (List Out) := match guardF ops.toList σ o with
  | some (.inl false) => putK σ o.dst undefV (rec Γ (.seq ops rest))
  | some (.inr e) => match rec Γ (.seq ops (i :: rest)) (σ.know e true), rec Γ (.seq ops (i :: rest)) (σ.know e false) with
    | some x, some y => some (x ++ y)
    | _, _ => none
  | some (.inl true) => match rec Γ (.op o) σ with
    | some l => bindL l fun u => match u.x with
      | .val v => if σ.fr ≤ u.st.fr then putNK u.st o.dst v (rec Γ (.seq ops rest)) else none
      | .must _ => some [u]
      | .panic _ => some [u]
      | _ => none
    | none => none
  | none => none
def jSeq (rec : Rc) (Γ : Ctx) (ops : Array Oper) (l : List Nat) (σ : St) : Option (List Out) := match l with
  | [] => some [⟨.norm, σ⟩]
  | i :: rest => match nthL ops.toList i with
    | none => rec Γ (.seq ops rest) σ
    | some o => sOp rec Γ ops i rest o σ
def aEach (rec : Rc) (Γ : Ctx) (ops : Array Oper) (n : Nat) (listed : Array Bool) (K : List (V × V)) (σ : St) (i : Nat) : Option (List Out) := match nthL ops.toList i with
  | some o => match guardF ops.toList σ o with
    | some (.inl false) => putK σ o.dst undefV (rec Γ (.any ops n (listF listed i) K))
    | some (.inl true) => match rec Γ (.op o) σ with
      | some l => bindL l fun u => match u.x with
        | .val v => if σ.fr ≤ u.st.fr ∧ kept σ.fr u.st K = true then putNK u.st o.dst v (rec Γ (.any ops n (listF listed i) K)) else none
        | .must _ => some [u]
        | .panic _ => some [u]
        | _ => none
      | none => none
    | _ => none
  | none => none
def jAny (P : Program) (rec : Rc) (Γ : Ctx) (ops : Array Oper) (n : Nat) (listed : Array Bool) (K : List (V × V)) (σ : St) : Option (List Out) :=
  match readyF ops.toList listed.toList with
  | [] => some [⟨.norm, σ⟩]
  | r :: rs => match pickF P ops listed σ (r :: rs) with
    | .need e => match rec Γ (.any ops n listed K) (σ.know e true) with | some l => some (⟨.must e, σ⟩ :: l) | none => none
    | .split e => match rec Γ (.any ops n listed K) (σ.know e true), rec Γ (.any ops n listed K) (σ.know e false) with
      | some x, some y => some (x ++ y)
      | _, _ => none
    | .take i v K' => match n, nthL ops.toList i with
      | n + 1, some o => putNK σ o.dst v (rec Γ (.any ops n (listF listed i) (K' ++ K)))
      | _, _ => none
    | .none => match n with
      | 0 => none
      | n + 1 => foldL (r :: rs) (aEach rec Γ ops n listed K σ)
def fRet (P : Program) (σ : St) (fn : Func) (o : Out) : Option (List Out) :=
  if σ.fr ≤ o.st.fr then
    match o.x with
    | .norm | .ret => match dropM o.st.M o.st with
      | some τ => match resV P τ fn.results.toList with
        | some vs => some [⟨.val (tupV vs), { τ.gc σ.fr (tupV vs) with T := σ.T, M := σ.M }⟩]
        | none => none
      | none => none
    | .panic v => if o.st.M = [] then some [⟨.panic v, { o.st with T := σ.T, M := σ.M }⟩] else none
    | .must e => some [⟨.must e, { o.st with T := σ.T, M := σ.M }⟩]
    | _ => none
  else none
def fBody (P : Program) (rec : Rc) (Γ : Ctx) (f : FuncId) (args : List V) (σ : St) : Option (List Out) := match P.funcs[f]? with
  | some fn => match fn.body with
    | some c => match fullK (args ++ List.replicate (fn.ntmps - args.length) undefV) (fun T => rec { Γ with rd := none } (.code c) { σ with T := T, M := [] }) with
      | some l => bindL l (fRet P σ fn)
      | none => none
    | none => none
  | none => none
def jFn (P : Program) (rec : Rc) (Γ : Ctx) (f : FuncId) (args : List V) (σ : St) : Option (List Out) :=
  match Γ.calls.find? (·.f == f) with
  | some q => match q.run args σ with
    | some l => if σ.ok && Nat.ble (bdL args) σ.fr && l.all (fun o => Nat.ble σ.fr o.st.fr) then some (l.map fun o => ⟨o.x, { o.st with T := σ.T, M := σ.M }⟩) else none
    | none => none
  | none => fBody P rec Γ f args σ
def jobK : Job → Program → Rc → Ctx → St → Option (List Out)
  | .code c => fun P rec Γ σ => jCode P rec Γ c σ
  | .op o => fun P rec Γ σ => jOp P rec Γ o σ
  | .seq ops l => fun _ rec Γ σ => jSeq rec Γ ops l σ
  | .any ops n listed K => fun P rec Γ σ => jAny P rec Γ ops n listed K σ
  | .fn f args => fun P rec Γ σ => jFn P rec Γ f args σ
  | .unroll c => fun _ rec Γ σ => jUnroll rec Γ c σ
  | .round l args => fun _ rec Γ σ => jRound rec Γ l args σ
def stepJ (P : Program) (rec : Rc) : Rc := fun Γ job σ => jobK job P rec Γ σ
def goF (P : Program) : Nat → Rc
  | 0 => fun _ _ _ => none
  | g + 1 => stepJ P (goF P g)
theorem goF_eq (P : Program) : ∀ g, goF P g = go P g
  | 0 => by funext Γ job σ; simp only [goF, go]
  | g + 1 => by
    funext Γ job σ
    show stepJ P (goF P g) Γ job σ = _
    rw [goF_eq P g]
    cases job with
    | code c =>
      cases c with
      | region id ops draw => cases draw <;> (simp only [stepJ, jobK, codeK, go, jCode, cDraw]; try rfl)
      | _ => simp only [stepJ, jobK, codeK, go, jCode, cSeq, cBlock, cCond, cLoop, cRange, evalF_eq]; try rfl
    | op o => simp only [stepJ, jobK, go, jOp, oEff, opF_eq, effF_eq, effX]; rfl
    | seq ops l => cases l <;> (simp only [stepJ, jobK, go, jSeq, sOp, nthA, guardF_eq, putK_eq, putNK_eq]; try rfl)
    | any ops n listed K =>
      simp only [stepJ, jobK, go, jAny, readyF_eq, nthA]
      cases hr : Region.ready .any ops listed with
      | nil => simp
      | cons r rs =>
        simp only [reduceCtorEq, if_false, pickF_eq]
        cases pickOp P ops listed σ (r :: rs) with
        | take i v K' => cases n <;> simp only [listF_eq, putNK_eq] <;> rfl
        | none =>
          cases n with
          | zero => rfl
          | succ n =>
            simp only
            congr 1
            funext i
            simp only [aEach, nthA, guardF_eq, listF_eq, putK_eq, putNK_eq]
            rfl
        | _ => rfl
    | fn f args => simp only [stepJ, jobK, go, jFn, fBody, fullK_eq]; rfl
    | unroll c => simp only [stepJ, jobK, go, jUnroll]; rfl
    | round l args => simp only [stepJ, jobK, go, jRound, rBody]; rfl
end Go.Proofs.Ytmbhjfembfidnaa.Sx
end
section
namespace Go.Proofs.Ytmbhjfembfidnaa.Sx
open Go Go.RowKit
variable {TT : Tb}

def envOf (is : List Int) (bs : List Bool) (ss : List ByteArray) (g : Nat → List (Int × ByteArray) → Int) (h : Nat → List (Int × ByteArray) → Bool) (k : Nat → List (Int × ByteArray) → ByteArray) (ls : List (List (Int × ByteArray)) := []) (m : Nat → List (Int × ByteArray) → List (Int × ByteArray) := fun _ _ => []) : Env :=
  { i := fun n => is.getD n 0, b := fun n => bs.getD n false, s := fun n => ss.getD n ⟨#[]⟩, v := fun _ => undef, n := fun _ => 0, g, h, k, l := fun n => ls.getD n [], m }
def noG : Nat → List (Int × ByteArray) → Int := fun _ _ => 0
def noH : Nat → List (Int × ByteArray) → Bool := fun _ _ => false
def noK : Nat → List (Int × ByteArray) → ByteArray := fun _ _ => ⟨#[]⟩
def anyT : Tb := { tab := fun _ _ _ _ => True }

structure Dig where
  x : X
  F : List E
  deriving DecidableEq, Inhabited
def digs : Option (List Out) → Option (List Dig)
  | some l => if l.all (fun o => o.st.W.isEmpty) then some (l.map fun o => ⟨o.x, o.st.F⟩).eraseDups else none
  | none => none
def GoodD (TT : Tb) (R : Ending → World → Prop) (ρ : Env) (n : Nat) (w : World) (d : Dig) : Prop :=
  ∀ ρ' w', Ext n ρ ρ' → TT.tab ρ'.g ρ'.h ρ'.k ρ'.m → holds ρ' d.F → Below w.heap.size w w' → match d.x with
    | .val v => R (.returned (v.den ρ')) w'
    | .must e => e.B ρ' = true
    | .panic v => R (.panicked [{ v := v.den ρ', recovered := false }]) w'
    | _ => False
def AllD (p : Dig → Prop) : List Dig → Prop
  | [] => True
  | [d] => p d
  | d :: l => p d ∧ AllD p l
theorem AllD_mem {p : Dig → Prop} : ∀ {l : List Dig}, AllD p l → ∀ d ∈ l, p d
  | [], _, d, hd => by cases hd
  | [a], h, d, hd => by cases List.mem_singleton.1 hd; exact h
  | a :: b :: l, h, d, hd => by
    rcases List.mem_cons.1 hd with rfl | hd
    · exact h.1
    · exact AllD_mem h.2 d hd
/-- **A FUNCTION's CALL**, told by how it ends alone. -/
theorem sx_pure {P : Program} {Γ : Ctx} (hΓ : ∀ q ∈ Γ.calls, CtrOk TT P q) (g : Nat) {f : FuncId} (args : List V) (F : List E) (n : Nat) (ds : List Dig) (h : digs (goF P g Γ.top (.fn f args) { T := [], F := F, fr := n, own := n }) = some ds)
    (ρ : Env) {w : World} {as : Array Value} (ha : as = arr ρ args) (hF : holds ρ F) (hT : TT.tab ρ.g ρ.h ρ.k ρ.m) {R : Ending → World → Prop} (hg : AllD (GoodD TT R ρ n w) ds) (hJ : TT.J w := by exact trivial) : Calls P f as w R := by
  cases hgo : goF P g Γ.top (.fn f args) { T := [], F := F, fr := n, own := n } with
  | none => rw [hgo] at h; cases h
  | some outs =>
    rw [hgo] at h
    simp only [digs] at h
    split at h
    · rename_i hW
      cases h
      refine sx_call hΓ (by rw [goF_eq] at hgo; exact hgo) ha rfl rfl rfl hF ⟨hT, hJ⟩ fun o ho ρ' w' hx hs => ?_
      have hd : (⟨o.x, o.st.F⟩ : Dig) ∈ (outs.map fun o => (⟨o.x, o.st.F⟩ : Dig)).eraseDups := List.mem_eraseDups.2 (List.mem_map.2 ⟨o, ho, rfl⟩)
      rw [List.all_eq_true] at hW
      have hWo : o.st.W = [] := by simpa using hW o ho
      exact AllD_mem hg _ hd ρ' w' hx hs.tab.1 hs.fact (hs.below hWo)
    · cases h

/-! ### Contracts -/
theorem Sees.step {ρ : Env} {σ : St} {w0 w w' : World} (h : Sees TT ρ σ w0 w) (hb : Below w.heap.size w w') : Sees TT ρ σ w0 w' := by
  refine ⟨hb.os.trans h.os, hb.tape.trans h.tape, hb.output.trans h.output, Nat.le_trans h.size hb.size, fun k hk hW => ?_, fun p hp => ?_, h.sep, h.own, fun p hp => row_world (h.row p hp) hb.size (fun j hj => hb.block j (row_lt (h.row p hp) hj)), h.rsep, h.rown, h.fact, h.tab, h.src⟩
  · rw [hb.block k (Nat.lt_of_lt_of_le hk h.size)]; exact h.keep k hk hW
  · obtain ⟨y, hy⟩ := HO.at_some (h.blk p hp)
    rw [hb.block _ (Array.getElem?_eq_some_iff.1 hy).1]
    exact h.blk p hp
/-- A function that yields one value, if some truths hold. -/
def Ctr.pure (f : FuncId) (m : List V → Option (V × List E)) : Ctr :=
  ⟨f, fun args σ => match m args with
    | some (v, need) => if need.all (fun e => decideB σ.F e == some true) then some [⟨.val v, σ⟩] else some (need.map (fun e => ⟨.must e, σ⟩) ++ [⟨.val v, need.foldl (fun τ e => τ.know e true) σ⟩])
    | none => none⟩
theorem know_all {ρ : Env} {w0 w : World} : ∀ {need : List E} {σ : St}, Sees TT ρ σ w0 w → (∀ e ∈ need, e.B ρ = true) → Sees TT ρ (need.foldl (fun τ e => τ.know e true) σ) w0 w
  | [], _, h, _ => h
  | e :: _l, σ, h, hn => know_all (σ := σ.know e true) (h.know (hn e List.mem_cons_self)) fun x hx => hn x (List.mem_cons_of_mem _ hx)
theorem Ctr.pure_ok {P : Program} {f : FuncId} {m : List V → Option (V × List E)}
    (h : ∀ args v need ρ w, m args = some (v, need) → TT.tab ρ.g ρ.h ρ.k ρ.m → (∀ e ∈ need, e.B ρ = true) → Calls P f (arr ρ args) w fun e w' => e = .returned (v.den ρ) ∧ Below w.heap.size w w') : CtrOk TT P (Ctr.pure f m) := by
  intro args σ outs hr hok ha ρ w0 w R hs hg
  simp only [Ctr.pure] at hr
  split at hr
  · rename_i v need hm
    split at hr
    · rename_i hd
      cases hr
      rw [List.all_eq_true] at hd
      refine (h args v need ρ w hm hs.tab.1 fun e he => decideB_ok hs.fact (by simpa using hd e he)).mono fun e w' ⟨he, hb⟩ => ?_
      subst he
      exact hg _ List.mem_cons_self ρ w' (Ext.refl _ _) (hs.step hb)
    · cases hr
      have hn : ∀ e ∈ need, e.B ρ = true := fun e he =>
        hg ⟨.must e, σ⟩ (List.mem_append.2 (.inl (List.mem_map.2 ⟨e, he, rfl⟩))) ρ w (Ext.refl _ _) hs
      refine (h args v need ρ w hm hs.tab.1 hn).mono fun e w' ⟨he, hb⟩ => ?_
      subst he
      exact hg ⟨.val v, _⟩ (List.mem_append.2 (.inr List.mem_cons_self)) ρ w' (Ext.refl _ _) (know_all (hs.step hb) hn)
  · cases hr
end Go.Proofs.Ytmbhjfembfidnaa.Sx
end
section
namespace Go.Proofs.Ytmbhjfembfidnaa.Sx
open Go Go.RowKit
variable {TT : Tb}

theorem Sees.startR (ρ : Env) (σ : St) (w : World) (hH : σ.H = []) (_hW : σ.W = []) (hR : ∀ p ∈ σ.R, p.2.own = false ∧ p.2.at ρ w.heap.size w (ρ.v p.1) ∧ ∀ b, (ρ.v p.1).ownBlock = some b → TT.A b) (hF : holds ρ σ.F) (hT : TT.tab ρ.g ρ.h ρ.k ρ.m ∧ TT.J w) : Sees TT ρ σ w w :=
  ⟨rfl, rfl, rfl, Nat.le_refl _, fun _ _ _ => rfl, by simp [hH], by simp [hH], by simp [hH], fun p hp => (hR p hp).2.1, by simp [hH], fun p hp ho => absurd ho (by rw [(hR p hp).1]; simp), hF, hT, fun p hp b hb => .inr ((hR p hp).2.2 b hb)⟩

structure RDig where
  x : X
  F : List E
  R : List (Nat × Row)
  deriving DecidableEq, Inhabited
/-- The rows that a value names. -/
def namesV : V → List Nat
  | .var x => [x]
  | .rsl x => [x]
  | .tup l => namesV l
  | .agg l => namesV l
  | .cons a l => namesV a ++ namesV l
  | _ => []
def rowsOf (o : Out) : List (Nat × Row) := match o.x with | .val v => o.st.R.filter fun p => (namesV v).contains p.1 | _ => []
def rdigs : Option (List Out) → Option (List RDig)
  | some l => if l.all (fun o => o.st.W.isEmpty) then some (l.map fun o => ⟨o.x, o.st.F, rowsOf o⟩).eraseDups else none
  | none => none
def GoodR (TT : Tb) (Q : Ending → World → Prop) (ρ : Env) (n : Nat) (w : World) (d : RDig) : Prop :=
  ∀ ρ' w', Ext n ρ ρ' → TT.tab ρ'.g ρ'.h ρ'.k ρ'.m → holds ρ' d.F → Below w.heap.size w w' → (∀ p ∈ d.R, p.2.at ρ' w.heap.size w' (ρ'.v p.1) ∧ ∀ b, (ρ'.v p.1).ownBlock = some b → w.heap.size ≤ b ∨ TT.A b) → match d.x with
    | .val v => Q (.returned (v.den ρ')) w'
    | .must e => e.B ρ' = true
    | .panic v => Q (.panicked [{ v := v.den ρ', recovered := false }]) w'
    | _ => False
def AllR (p : RDig → Prop) : List RDig → Prop
  | [] => True
  | [d] => p d
  | d :: l => p d ∧ AllR p l
theorem AllR_mem {p : RDig → Prop} : ∀ {l : List RDig}, AllR p l → ∀ d ∈ l, p d
  | [], _, d, hd => by cases hd
  | [a], h, d, hd => by cases List.mem_singleton.1 hd; exact h
  | a :: b :: l, h, d, hd => by
    rcases List.mem_cons.1 hd with rfl | hd
    · exact h.1
    · exact AllR_mem h.2 d hd
/-- **A CALL WITH ROWS**. -/
theorem sx_rows {P : Program} {Γ : Ctx} (hΓ : ∀ q ∈ Γ.calls, CtrOk TT P q) (g : Nat) {f : FuncId} (args : List V) (R0 : List (Nat × Row)) (F : List E) (n : Nat) (ds : List RDig) (h : rdigs (goF P g Γ.top (.fn f args) { T := [], R := R0, F := F, fr := n, own := n }) = some ds)
    (ρ : Env) {w : World} {as : Array Value} (ha : as = arr ρ args) (hR : ∀ p ∈ R0, p.2.own = false ∧ p.2.at ρ w.heap.size w (ρ.v p.1) ∧ ∀ b, (ρ.v p.1).ownBlock = some b → TT.A b) (hF : holds ρ F) (hT : TT.tab ρ.g ρ.h ρ.k ρ.m) {Q : Ending → World → Prop} (hg : AllR (GoodR TT Q ρ n w) ds) (hJ : TT.J w := by exact trivial) : Calls P f as w Q := by
  cases hgo : goF P g Γ.top (.fn f args) { T := [], R := R0, F := F, fr := n, own := n } with
  | none => rw [hgo] at h; cases h
  | some outs =>
    rw [hgo] at h
    simp only [rdigs] at h
    split at h
    · rename_i hW
      cases h
      rw [ha]
      refine ((go_ok hΓ g Γ.top rfl).2.2.2.2.1 f args _ outs (by rw [goF_eq] at hgo; exact hgo)).2 ρ w w Q (known_top _ _ _) (Sees.startR ρ _ w rfl rfl hR hF ⟨hT, hJ⟩) fun o ho ρ' w' hx hs => ?_
      have hd : (⟨o.x, o.st.F, rowsOf o⟩ : RDig) ∈ (outs.map fun o => (⟨o.x, o.st.F, rowsOf o⟩ : RDig)).eraseDups := List.mem_eraseDups.2 (List.mem_map.2 ⟨o, ho, rfl⟩)
      rw [List.all_eq_true] at hW
      have hWo : o.st.W = [] := by simpa using hW o ho
      refine AllR_mem hg _ hd ρ' w' hx hs.tab.1 hs.fact (hs.below hWo) fun p hp => ?_
      have hp : p ∈ o.st.R := by
        simp only [rowsOf] at hp
        split at hp
        · exact (List.mem_filter.1 hp).1
        · cases hp
      exact ⟨hs.row p hp, hs.src p hp⟩
    · cases h

/-- A row that a call gives. -/
theorem sees_res {ρ : Env} {σ : St} {w0 w w' : World} (hs : Sees TT ρ σ w0 w) (hok : σ.ok = true) (hb : Below w.heap.size w w') (u : Value) {r : Row} (hat : r.at ρ w0.heap.size w' u) {R' : List (Nat × Row)} (hR' : ∀ p ∈ R', p ∈ σ.R)
    (hblk : ∀ b, u.ownBlock = some b → w.heap.size ≤ b ∨ (r.own = false ∧ ∃ p ∈ σ.R, (ρ.v p.1).ownBlock = some b ∧ ∀ q ∈ R', q.1 = p.1 → q.2.own = false)) {F' : List E} (hF' : holds ρ F') :
    Sees TT (ρ.nameV σ.fr u) { σ with R := (σ.fr, r) :: R', fr := σ.fr + 1, F := F' } w0 w' := by
  obtain ⟨-, hH, hF, hW, hR⟩ := ok_parts hok
  have hx := nameV_ext ρ σ.fr u
  have hst := hs.step hb
  have hs' := sees_ext hx hH hF hW hR hst
  have hnew : (ρ.nameV σ.fr u).v σ.fr = u := by simp [Env.nameV]
  have hold : ∀ p ∈ σ.R, (ρ.nameV σ.fr u).v p.1 = ρ.v p.1 := fun p hp => hx.v _ (hR p hp).1
  have hlt : ∀ p ∈ σ.R, ∀ b, (ρ.v p.1).ownBlock = some b → b < w.heap.size := fun p hp b h => row_lt (hs.row p hp) h
  refine ⟨hs'.os, hs'.tape, hs'.output, hs'.size, hs'.keep, hs'.blk, hs'.sep, hs'.own, fun p hp => ?_, fun p hp b hb q hq => ?_, fun p hp ho q hq hne b hb e => ?_, fun f hf => by rw [nameV_B]; exact hF' f hf, hs'.tab, fun p hp b hb => ?_⟩
  · rcases List.mem_cons.1 hp with rfl | hp
    · simp only [hnew]; exact nameV_at.2 hat
    · exact hs'.row p (hR' p hp)
  · rcases List.mem_cons.1 hp with rfl | hp
    · simp only [hnew] at hb
      rw [blk_ext hx (hH q hq).1]
      rcases hblk b hb with h1 | ⟨-, p2, hp2, hb2, -⟩
      · obtain ⟨y, hy⟩ := HO.at_some (hs.blk q hq)
        have := (Array.getElem?_eq_some_iff.1 hy).1
        omega
      · exact hs.rsep p2 hp2 b hb2 q hq
    · exact hs'.rsep p (hR' p hp) b hb q hq
  · rcases List.mem_cons.1 hp with rfl | hp
    · simp only at ho
      simp only [hnew] at hb
      rcases List.mem_cons.1 hq with rfl | hq
      · exact hne rfl
      · rw [hold q (hR' q hq)] at e
        have := hlt q (hR' q hq) b e
        rcases hblk b hb with h1 | ⟨h1, -⟩
        · omega
        · rw [ho] at h1; cases h1
    · have hpR := hR' p hp
      rw [hold p hpR] at hb
      rcases List.mem_cons.1 hq with rfl | hq
      · simp only [hnew] at e
        rcases hblk b e with h1 | ⟨-, p2, hp2, hb2, hq2⟩
        · have := hlt p hpR b hb; omega
        · by_cases hpp : p.1 = p2.1
          · have := hq2 p hp hpp
            rw [ho] at this; cases this
          · exact hs.rown p hpR ho p2 hp2 hpp b hb hb2
      · rw [hold q (hR' q hq)] at e
        exact hs.rown p hpR ho q (hR' q hq) hne b hb e
  · rcases List.mem_cons.1 hp with rfl | hp
    · simp only [hnew] at hb
      rcases hblk b hb with h1 | ⟨-, p2, hp2, hb2, -⟩
      · exact .inl (Nat.le_trans hs.size h1)
      · exact hs.src p2 hp2 b hb2
    · exact hs'.src p (hR' p hp) b hb

/-! ### Contracts -/
inductive Res where
  | val (v : V) | row (r : Row)
def argsV (args : List V) : List Nat := args.filterMap fun | .var x => some x | _ => none
/-- A function of rows: what is to be shown first, what it yields, what is known then. -/
def Ctr.rows (f : FuncId) (m : List V → List (Nat × Row) → Option (List E × Res × List E)) : Ctr :=
  ⟨f, fun args σ => match m args σ.R with
    | some (need, .val v, facts) => some (musts σ need ++ [⟨.val v, { σ with F := facts ++ news σ.F need ++ σ.F }⟩])
    | some (need, .row r, facts) => some (musts σ need ++ [⟨.val (.var σ.fr), { σ with R := (σ.fr, r) :: (if r.own then σ.R else σ.R.filter fun p => !(p.2.own && (argsV args).contains p.1)), fr := σ.fr + 1, F := facts ++ news σ.F need ++ σ.F }⟩])
    | none => none⟩
def CtrRows (TT : Tb) (P : Program) (f : FuncId) (m : List V → List (Nat × Row) → Option (List E × Res × List E)) : Prop :=
  ∀ args R need res facts ρ base w, m args R = some (need, res, facts) → TT.tab ρ.g ρ.h ρ.k ρ.m → (∀ e ∈ need, e.B ρ = true) → (∀ x r, findR R x = some r → r.at ρ base w (ρ.v x)) →
    Calls P f (arr ρ args) w fun e w' => Below w.heap.size w w' ∧ (∀ e ∈ facts, e.B ρ = true) ∧ match res with
      | .val v => e = .returned (v.den ρ)
      | .row r => ∃ u, e = .returned u ∧ r.at ρ w.heap.size w' u ∧ ∀ b, u.ownBlock = some b → w.heap.size ≤ b ∨ (r.own = false ∧ ∃ x r', x ∈ argsV args ∧ findR R x = some r' ∧ (ρ.v x).ownBlock = some b)
theorem at_base {ρ : Env} {a b : Nat} (hab : a ≤ b) {w : World} {v : Value} {r : Row} (h : r.at ρ b w v) : r.at ρ a w v := by
  obtain ⟨h0, h1, h2⟩ := h
  refine ⟨h0, h1, ?_⟩
  split
  · rename_i ho
    rw [if_pos ho] at h2
    refine ⟨h2.1, ?_⟩
    rcases h2.2 with h3 | ⟨g, cap, cur, hv, hg, hrest⟩
    · exact .inl h3
    · exact .inr ⟨g, cap, cur, hv, by omega, hrest⟩
  · rename_i ho
    rw [if_neg ho] at h2
    exact h2
theorem Ctr.rows_ok {P : Program} {f : FuncId} {m : List V → List (Nat × Row) → Option (List E × Res × List E)} (h : CtrRows TT P f m) : CtrOk TT P (Ctr.rows f m) := by
  intro args σ outs hr hok ha ρ w0 w R hs hg
  simp only [Ctr.rows] at hr
  have hneed : ∀ {need : List E} {l : List Out}, (∀ o ∈ musts σ need ++ l, GoodF TT R ρ σ.fr w0 o) → ∀ e ∈ need, e.B ρ = true := fun hg e he =>
    musts_ok hs (fun u hu e hue => by
      have := hg u (List.mem_append.2 (.inl hu)) ρ w (Ext.refl _ _) (by
        obtain ⟨e', -, rfl⟩ := List.mem_map.1 hu
        exact hs)
      rw [hue] at this
      exact this) e he
  split at hr
  · rename_i need v facts hm
    cases hr
    have hn := hneed hg
    refine (h args σ.R need _ facts ρ w0.heap.size w hm hs.tab.1 hn fun x r hf => hs.row _ (findR_mem hf)).mono fun e w' ⟨hb, hfa, he⟩ => ?_
    simp only at he
    subst he
    refine hg _ (List.mem_append.2 (.inr List.mem_cons_self)) ρ w' (Ext.refl _ _) ((hs.step hb).withF fun e he => ?_)
    rcases List.mem_append.1 he with he | he
    · rcases List.mem_append.1 he with he | he
      · exact hfa e he
      · exact hn e (List.mem_filter.1 he).1
    · exact hs.fact e he
  · rename_i need r facts hm
    cases hr
    have hn := hneed hg
    refine (h args σ.R need _ facts ρ w0.heap.size w hm hs.tab.1 hn fun x r hf => hs.row _ (findR_mem hf)).mono fun e w' ⟨hb, hfa, he⟩ => ?_
    simp only at he
    obtain ⟨u, rfl, hat, hblk⟩ := he
    have hF' : holds ρ (facts ++ news σ.F need ++ σ.F) := fun e he => by
      rcases List.mem_append.1 he with he | he
      · rcases List.mem_append.1 he with he | he
        · exact hfa e he
        · exact hn e (List.mem_filter.1 he).1
      · exact hs.fact e he
    have hsr := sees_res (R' := if r.own then σ.R else σ.R.filter fun p => !(p.2.own && (argsV args).contains p.1)) hs hok hb u (at_base hs.size hat) (fun p hp => by
      split at hp
      · exact hp
      · exact (List.mem_filter.1 hp).1) (fun b hbb => ?_) hF'
    · have := hg _ (List.mem_append.2 (.inr List.mem_cons_self)) (ρ.nameV σ.fr u) w' (nameV_ext _ _ _) hsr
      simp only [den_var, Env.nameV, if_true] at this
      exact this
    · rcases hblk b hbb with h1 | ⟨h1, x, r', hx, hf, hxb⟩
      · exact .inl h1
      · refine .inr ⟨h1, (x, r'), findR_mem hf, hxb, fun q hq hqx => ?_⟩
        rw [h1] at hq
        simp only [Bool.false_eq_true, if_false, List.mem_filter, Bool.not_eq_true', Bool.and_eq_false_iff] at hq
        rcases hq.2 with h2 | h2
        · exact h2
        · simp only at hqx
          rw [hqx] at h2
          simp [hx] at h2
  · cases hr
/-- A row as one that is only read. -/
theorem at_len {ρ : Env} {r : Row} {base : Nat} {w : World} {v : Value} (h : r.at ρ base w v) : 0 ≤ r.n.I ρ ∧ (r.xs.L ρ).length = (r.n.I ρ).toNat * r.kds.length := by
  obtain ⟨h0, h1, h2⟩ := h
  refine ⟨h0, ?_⟩
  split at h2
  · rw [← h2.1, cellsV_length]
  · exact h2.1
end Go.Proofs.Ytmbhjfembfidnaa.Sx
end
section
namespace Go.Proofs.Ytmbhjfembfidnaa.Un

abbrev LL := List (Int × ByteArray)
def nI (xs : LL) (i : Int) : Int := ((xs[i.toNat]?).map Prod.fst).getD 0

/-- by halves: the least number above lo whose square is at least s. -/
def bis : Nat → Int → Int → Int → Int
  | 0, _, _, hi => hi
  | k + 1, s, lo, hi => if hi - lo ≤ 1 then hi else if s ≤ ((lo + hi) / 2) * ((lo + hi) / 2) then bis k s lo ((lo + hi) / 2) else bis k s ((lo + hi) / 2) hi
def IsRoot (s r : Int) : Prop := 0 ≤ r ∧ s ≤ r * r ∧ (r = 0 ∨ (r - 1) * (r - 1) < s)
theorem bis_spec (s : Int) : ∀ (k : Nat) (lo hi : Int), lo < hi → hi - lo ≤ 2 ^ k → -1 ≤ lo → s ≤ hi * hi → (lo = -1 ∨ lo * lo < s) → IsRoot s (bis k s lo hi) ∧ bis k s lo hi ≤ hi
  | 0, lo, hi, h1, h2, h3, h4, h5 => by
    have : hi = lo + 1 := by simp at h2; omega
    subst this
    refine ⟨⟨?_, h4, ?_⟩, Int.le_refl _⟩
    · simp only [bis]; omega
    · simp only [bis]
      rcases h5 with h5 | h5
      · left; omega
      · right; rw [show lo + 1 - 1 = lo from by omega]; exact h5
  | k + 1, lo, hi, h1, h2, h3, h4, h5 => by
    simp only [bis]
    split
    · rename_i h
      have : hi = lo + 1 := by omega
      subst this
      refine ⟨⟨by omega, h4, ?_⟩, Int.le_refl _⟩
      rcases h5 with h5 | h5
      · left; omega
      · right; rw [show lo + 1 - 1 = lo from by omega]; exact h5
    · rename_i h
      have hp : (2 : Int) ^ (k + 1) = 2 * 2 ^ k := by rw [Int.pow_succ]; omega
      rw [hp] at h2
      obtain ⟨m, hm⟩ : ∃ m, m = (lo + hi) / 2 := ⟨_, rfl⟩
      rw [← hm]
      split
      · rename_i hs
        obtain ⟨a, b⟩ := bis_spec s k lo m (by omega) (by omega) h3 hs h5
        exact ⟨a, by omega⟩
      · rename_i hs
        exact bis_spec s k m hi (by omega) (by omega) (by omega) h4 (.inr (by omega))
theorem sq_mono {a b : Int} (h0 : 0 ≤ a) (h : a ≤ b) : a * a ≤ b * b := Int.mul_le_mul h h h0 (by omega)
theorem root_uniq {s a b : Int} (ha : IsRoot s a) (hb : IsRoot s b) : a = b := by
  obtain ⟨a0, a1, a2⟩ := ha
  obtain ⟨b0, b1, b2⟩ := hb
  rcases Int.lt_trichotomy a b with h | h | h
  · rcases b2 with b2 | b2
    · omega
    · have := sq_mono a0 (show a ≤ b - 1 by omega); omega
  · exact h
  · rcases a2 with a2 | a2
    · omega
    · have := sq_mono b0 (show b ≤ a - 1 by omega); omega
/-- the square of a distance, and the way. -/
def sqd (ax ay bx b_y : Int) : Int := (ax - bx) * (ax - bx) + (ay - b_y) * (ay - b_y)
def way (ax ay bx b_y : Int) : Int := bis 27 (sqd ax ay bx b_y) (-1) 67108864
def spotB (x y : Int) : Bool := decide (-16777216 ≤ x ∧ x ≤ 16777216 ∧ -16777216 ≤ y ∧ y ≤ 16777216)
theorem sq_le {d : Int} {m : Int} (h1 : -m ≤ d) (h2 : d ≤ m) : 0 ≤ d * d ∧ d * d ≤ m * m := by
  rcases Int.le_total 0 d with h | h
  · exact ⟨Int.mul_nonneg h h, sq_mono h h2⟩
  · have := sq_mono (a := -d) (b := m) (by omega) (by omega)
    rw [Int.neg_mul_neg] at this
    have h3 : 0 ≤ (-d) * (-d) := Int.mul_nonneg (by omega) (by omega)
    rw [Int.neg_mul_neg] at h3
    exact ⟨h3, this⟩
theorem sqd_bounds {ax ay bx b_y : Int} (ha : spotB ax ay = true) (hb : spotB bx b_y = true) : 0 ≤ sqd ax ay bx b_y ∧ sqd ax ay bx b_y ≤ 2251799813685248 := by
  simp only [spotB, decide_eq_true_eq] at ha hb
  have h1 := sq_le (d := ax - bx) (m := 33554432) (by omega) (by omega)
  have h2 := sq_le (d := ay - b_y) (m := 33554432) (by omega) (by omega)
  unfold sqd
  omega
theorem way_root {ax ay bx b_y : Int} (ha : spotB ax ay = true) (hb : spotB bx b_y = true) : IsRoot (sqd ax ay bx b_y) (way ax ay bx b_y) ∧ way ax ay bx b_y ≤ 67108864 := by
  have h := sqd_bounds ha hb
  exact bis_spec _ 27 (-1) 67108864 (by omega) (by decide) (by omega) (by omega) (.inl rfl)
theorem way_bounds {ax ay bx b_y : Int} (ha : spotB ax ay = true) (hb : spotB bx b_y = true) : 0 ≤ way ax ay bx b_y ∧ way ax ay bx b_y ≤ 67108864 := ⟨(way_root ha hb).1.1, (way_root ha hb).2⟩
theorem way_is {ax ay bx b_y d : Int} (ha : spotB ax ay = true) (hb : spotB bx b_y = true) (h : IsRoot (sqd ax ay bx b_y) d) : d = way ax ay bx b_y := root_uniq h (way_root ha hb).1
theorem sqd_comm (ax ay bx b_y : Int) : sqd ax ay bx b_y = sqd bx b_y ax ay := by unfold sqd; grind
theorem way_comm (ax ay bx b_y : Int) : way ax ay bx b_y = way bx b_y ax ay := by unfold way; rw [sqd_comm]
theorem cauchy (u v p q : Int) : (u * p + v * q) * (u * p + v * q) ≤ (u * u + v * v) * (p * p + q * q) := by
  have h : 0 ≤ (u * q - v * p) * (u * q - v * p) := by
    rcases Int.le_total 0 (u * q - v * p) with h | h
    · exact Int.mul_nonneg h h
    · exact Int.mul_nonneg_of_nonpos_of_nonpos h h
  have e : (u * u + v * v) * (p * p + q * q) = (u * p + v * q) * (u * p + v * q) + (u * q - v * p) * (u * q - v * p) := by grind
  omega
theorem le_of_sq {a b : Int} (hb : 0 ≤ b) (h : a * a ≤ b * b) : a ≤ b := by
  rcases Int.lt_or_le b a with h1 | h1
  · have h2 : (b + 1) * (b + 1) ≤ a * a := sq_mono (by omega) (by omega)
    have h3 : (b + 1) * (b + 1) = b * b + 2 * b + 1 := by grind
    omega
  · exact h1
theorem triangle {ax ay bx b_y cx cy : Int} (ha : spotB ax ay = true) (hb : spotB bx b_y = true) (hc : spotB cx cy = true) : way ax ay cx cy ≤ way ax ay bx b_y + way bx b_y cx cy := by
  obtain ⟨⟨x0, x1, -⟩, -⟩ := way_root ha hb
  obtain ⟨⟨y0, y1, -⟩, -⟩ := way_root hb hc
  obtain ⟨⟨z0, z1, z2⟩, -⟩ := way_root ha hc
  generalize way ax ay bx b_y = x at *
  generalize way bx b_y cx cy = y at *
  generalize way ax ay cx cy = z at *
  rcases Int.lt_or_le (x + y) z with h | h
  · rcases z2 with z2 | z2
    · omega
    · exfalso
      have h1 := sq_mono (a := x + y) (b := z - 1) (by omega) (by omega)
      unfold sqd at x1 y1 z2
      generalize hu : ax - bx = u at *
      generalize hv : ay - b_y = v at *
      generalize hp : bx - cx = p at *
      generalize hq : b_y - cy = q at *
      have e1 : ax - cx = u + p := by omega
      have e2 : ay - cy = v + q := by omega
      rw [e1, e2] at z2
      have hcs := cauchy u v p q
      have hA : 0 ≤ u * u + v * v := by have := (sq_le (d := u) (m := u.natAbs) (by omega) (by omega)).1; have := (sq_le (d := v) (m := v.natAbs) (by omega) (by omega)).1; omega
      have hB : 0 ≤ p * p + q * q := by have := (sq_le (d := p) (m := p.natAbs) (by omega) (by omega)).1; have := (sq_le (d := q) (m := q.natAbs) (by omega) (by omega)).1; omega
      have h2 : (u * u + v * v) * (p * p + q * q) ≤ (x * x) * (y * y) := Int.mul_le_mul x1 y1 hB (by omega)
      have h3 : (x * x) * (y * y) = (x * y) * (x * y) := by grind
      have h4 : u * p + v * q ≤ x * y := le_of_sq (Int.mul_nonneg x0 y0) (by omega)
      have h5 : (u + p) * (u + p) + (v + q) * (v + q) = (u * u + v * v) + (p * p + q * q) + 2 * (u * p + v * q) := by grind
      have h6 : (x + y) * (x + y) = x * x + y * y + 2 * (x * y) := by grind
      omega
  · exact h

/-- quotients, rounded down and up (for a b above 0). -/
def rdn (a b : Int) : Int := a / b
def rup (a b : Int) : Int := -((-a) / b)
theorem rdn_code {a b : Int} (hb : 0 < b) : (if a.tmod b < 0 then a.tdiv b - 1 else a.tdiv b) = rdn a b := by
  unfold rdn
  rw [Int.tmod_eq_emod, Int.tdiv_eq_ediv, Int.sign_eq_one_of_pos hb]
  have h1 := Int.emod_nonneg a (show b ≠ 0 by omega)
  have h2 := Int.emod_lt_of_pos a hb
  have h3 : (b.natAbs : Int) = b := by omega
  by_cases h : 0 ≤ a ∨ b ∣ a
  · simp only [h, if_true]
    rw [if_neg (by simp; omega)]
    omega
  · simp only [h, if_false]
    have : a % b ≠ 0 := fun e => h (.inr (Int.dvd_of_emod_eq_zero e))
    rw [if_pos (by omega)]
    omega
theorem rdn_neg {a b : Int} (hb : 0 < b) (h : a.tmod b < 0) : a.tdiv b - 1 = rdn a b := by rw [← rdn_code hb, if_pos h]
theorem rdn_pos {a b : Int} (hb : 0 < b) (h : 0 ≤ a.tmod b) : a.tdiv b = rdn a b := by rw [← rdn_code hb, if_neg (by omega)]
theorem rdn_le {a b c : Int} (hb : 0 < b) (h : a ≤ c * b) : rdn a b ≤ c := Int.ediv_le_of_le_mul hb h
theorem le_rdn {a b c : Int} (hb : 0 < b) (h : c * b ≤ a) : c ≤ rdn a b := Int.le_ediv_of_mul_le hb h
theorem rup_le {a b c : Int} (hb : 0 < b) (h : a ≤ c * b) : rup a b ≤ c := by
  have := le_rdn (a := -a) (b := b) (c := -c) hb (by rw [Int.neg_mul]; omega)
  unfold rup; unfold rdn at this; omega
theorem le_rup {a b c : Int} (hb : 0 < b) (h : c * b ≤ a) : c ≤ rup a b := by
  have := rdn_le (a := -a) (b := b) (c := -c) hb (by rw [Int.neg_mul]; omega)
  unfold rup; unfold rdn at this; omega
/-- the document's quotient, rounded up, of what is not below 0. -/
theorem up_rup {a b : Int} (hb : 0 < b) (ha : 0 ≤ a) : (a + b - 1).tdiv b = rup a b := by
  rw [Int.tdiv_eq_ediv_of_nonneg (by omega)]
  unfold rup
  have h1 := Int.mul_ediv_add_emod (-a) b
  have h2 := Int.emod_nonneg (-a) (show b ≠ 0 by omega)
  have h3 := Int.emod_lt_of_pos (-a) hb
  have e : a + b - 1 = (b - 1 - (-a) % b) + b * (-((-a) / b)) := by rw [Int.mul_neg]; omega
  rw [e, Int.add_mul_ediv_left _ _ (by omega), Int.ediv_eq_zero_of_lt (by omega) (by omega)]
  omega
def timeF (speed ax ay bx b_y : Int) : Int := rup (way ax ay bx b_y * 3600) speed
def burnF (burn t : Int) : Int := rup (burn * t) 3600
theorem timeF_bounds {s ax ay bx b_y : Int} (hs : 1 ≤ s) (ha : spotB ax ay = true) (hb : spotB bx b_y = true) : 0 ≤ timeF s ax ay bx b_y ∧ timeF s ax ay bx b_y ≤ 241591910400 := by
  have h := way_bounds ha hb
  unfold timeF
  generalize way ax ay bx b_y = d at *
  refine ⟨le_rup (by omega) (by omega), rup_le (by omega) ?_⟩
  have : 241591910400 * 1 ≤ 241591910400 * s := Int.mul_le_mul_of_nonneg_left hs (by omega)
  omega
theorem burnF_bounds {b t : Int} (hb : 0 ≤ b) (hb2 : b ≤ 1048576) (ht : 0 ≤ t) (ht2 : t ≤ 1099511627776) : 0 ≤ burnF b t ∧ burnF b t ≤ 320255973501902 := by
  have h0 : 0 ≤ b * t := Int.mul_nonneg hb ht
  have h1 : b * t ≤ 1048576 * 1099511627776 := Int.mul_le_mul hb2 ht2 ht (by omega)
  unfold burnF
  refine ⟨le_rup (by omega) (by omega), rup_le (by omega) (by omega)⟩
end Go.Proofs.Ytmbhjfembfidnaa.Un
end
