/- The executor is right. The executor is right: all jobs. -/
import Derived.Scope
import Derived.Test.YtkggfeemjabdeaaGreatDoorPa14
section
namespace Go.Proofs.YtkggfeemjabdeaaGreatDoor.Sx
open Go
variable {TT : Tb}

/-- The panic's posts, for every frame without deferred calls. -/
def strong (Q : Exit → Act → World → Prop) : Exit → Act → World → Prop
  | .panic c, a, w => a.defers = [] ∧ ∀ a', a'.defers = [] → Q (.panic c) a' w
  | e, a, w => Q e a w
theorem strong_out {Q : Exit → Act → World → Prop} {e : Exit} {a : Act} {w : World} (h : strong Q e a w) : Q e a w := by
  cases e with
  | panic c => exact h.2 a h.1
  | _ => exact h

theorem opW_ok {P : Program} {ρ : Env} {σ : St} {w0 w1 : World} (hs : Sees TT ρ σ w0 w1) {o : Oper} {v : V} (hr : opW P σ o = some (.val v)) (w : World) : (execOp (actOf ρ σ.T).eval o).run P w = .ok (.value (v.den ρ)) w := by
  unfold opW at hr
  split at hr
  · rename_i h; rw [hr] at h; exact rowR_ok hs.fact hs.rows h w
  · exact opV_ok hs.fact hr w
def GoodC (TT : Tb) (Q : Exit → Act → World → Prop) (ρ : Env) (n : Nat) (w0 : World) (o : Out) : Prop :=
  ∀ ρ' w', Ext n ρ ρ' → Sees TT ρ' o.st w0 w' → match o.x with
    | .norm => Q .normal (actOf ρ' o.st.T) w'
    | .exit id => Q (.exit id) (actOf ρ' o.st.T) w'
    | .ret => Q .ret (actOf ρ' o.st.T) w'
    | .must e => e.B ρ' = true
    | .panic v => ∀ a : Act, a.defers = [] → Q (.panic [{ v := v.den ρ', recovered := false }]) a w'
    | .val _ => False
def GoodO (TT : Tb) (next : Act → World → Prop) (Q : Exit → Act → World → Prop) (d : Option Tmp) (ρ : Env) (n : Nat) (w0 : World) (o : Out) : Prop :=
  ∀ ρ' w', Ext n ρ ρ' → Sees TT ρ' o.st w0 w' → match o.x with
    | .val v => next ((actOf ρ' o.st.T).put d (v.den ρ')) w'
    | .must e => e.B ρ' = true
    | .panic v => ∀ a : Act, a.defers = [] → Q (.panic [{ v := v.den ρ', recovered := false }]) a w'
    | _ => False
def GoodF (TT : Tb) (R : Ending → World → Prop) (ρ : Env) (n : Nat) (w0 : World) (o : Out) : Prop :=
  ∀ ρ' w', Ext n ρ ρ' → Sees TT ρ' o.st w0 w' → match o.x with
    | .val v => R (.returned (v.den ρ')) w'
    | .must e => e.B ρ' = true
    | .panic v => R (.panicked [{ v := v.den ρ', recovered := false }]) w'
    | _ => False

def CtrOk (TT : Tb) (P : Program) (q : Ctr) : Prop :=
  ∀ args σ outs, q.run args σ = some outs → σ.ok = true → args.all (V.under σ.fr) = true → ∀ ρ w0 w R, Sees TT ρ σ w0 w → (∀ o ∈ outs, GoodF TT R ρ σ.fr w0 o) → Calls P q.f (arr ρ args) w R

theorem GoodC.ext {Q : Exit → Act → World → Prop} {ρ ρ' : Env} {n m : Nat} {w0 : World} {o : Out} (h : GoodC TT Q ρ n w0 o) (hx : Ext n ρ ρ') (hm : n ≤ m) : GoodC TT Q ρ' m w0 o :=
  fun ρ2 w2 h1 h2 => h ρ2 w2 (hx.trans h1 hm) h2
theorem GoodO.ext {K : Act → World → Prop} {Q : Exit → Act → World → Prop} {d : Option Tmp} {ρ ρ' : Env} {n m : Nat} {w0 : World} {o : Out} (h : GoodO TT K Q d ρ n w0 o) (hx : Ext n ρ ρ') (hm : n ≤ m) : GoodO TT K Q d ρ' m w0 o :=
  fun ρ2 w2 h1 h2 => h ρ2 w2 (hx.trans h1 hm) h2

theorem bindL_mem {f : Out → Option (List Out)} : ∀ {l r : List Out}, bindL l f = some r → ∀ o ∈ l, ∃ s, f o = some s ∧ ∀ x ∈ s, x ∈ r
  | [], r, h, o, ho => by cases ho
  | a :: l, r, h, o, ho => by
    simp only [bindL] at h
    split at h
    · rename_i x y h1 h2
      cases h
      rcases List.mem_cons.1 ho with rfl | ho
      · exact ⟨x, h1, fun z hz => List.mem_append.2 (.inl hz)⟩
      · obtain ⟨s, hs, hsub⟩ := bindL_mem h2 o ho
        exact ⟨s, hs, fun z hz => List.mem_append.2 (.inr (hsub z hz))⟩
    · cases h
theorem Sees.know {ρ : Env} {σ : St} {w0 w : World} (h : Sees TT ρ σ w0 w) {e : E} {b : Bool} (he : e.B ρ = b) : Sees TT ρ (σ.know e b) w0 w :=
  h.withF (holds_append (fact_ok he) h.fact)
theorem actOf_know (ρ : Env) (σ : St) (e : E) (b : Bool) : actOf ρ (σ.know e b).T = actOf ρ σ.T := rfl
theorem act_put (ρ : Env) (σ : St) (d : Option Tmp) (v : V) : (actOf ρ σ.T).put d (v.den ρ) = actOf ρ (σ.put d v).T := by
  cases d with
  | none => rfl
  | some d => simp [Act.put, actOf, St.put, List.map_set]
theorem Sees.put {ρ : Env} {σ : St} {w0 w : World} (h : Sees TT ρ σ w0 w) (d : Option Tmp) (v : V) : Sees TT ρ (σ.put d v) w0 w := by
  cases d with
  | none => exact h
  | some d => exact h.withT _
theorem put_fr (σ : St) (d : Option Tmp) (v : V) : (σ.put d v).fr = σ.fr := by cases d <;> rfl
theorem undef_den (ρ : Env) : undefV.den ρ = undef := rfl

theorem guard_ok {ρ : Env} {σ : St} {w0 w : World} (h : Sees TT ρ σ w0 w) {ops : Array Oper} {o : Oper} {b : Bool} (hg : guardV ops σ o = some (.inl b)) : Region.wanted o (yielded ops (actOf ρ σ.T).tmps) = b := by
  unfold guardV at hg
  unfold Region.wanted yielded
  split at hg
  · cases hg; rename_i h1; rw [h1]
  · rename_i j want h1
    rw [h1]
    simp only
    split at hg
    · cases hg; rename_i h2; rw [h2]; rfl
    · rename_i d h2
      rw [h2]
      have ht : ∀ x : V, σ.T[d]? = some x → (actOf ρ σ.T).tmps[d]? = some (x.den ρ) := fun x hx => by simp [actOf, hx]
      split at hg
      · rename_i e he
        split at hg
        · cases hg
          rename_i b' hd
          simp only [Option.bind_some, ht _ he, den_b, decideB_ok h.fact hd]
          cases b' <;> cases want <;> rfl
        · cases hg
      · cases hg
        rename_i he
        simp only [Option.bind_some, ht _ he, den_tup]; rfl
      · cases hg
        rename_i he
        simp only [Option.bind_some, ht _ he, den_i]; rfl
      · cases hg

/-- What an operation yields, in the form of its 'wp'. -/
theorem wp_value {P : Program} {o : Oper} {a : Act} {w w' : World} {K : Act → World → Prop} {Q : Exit → Act → World → Prop} {v : Value} (hr : (execOp a.eval o).run P w = .ok (.value v) w') (h : K (a.put o.dst v) w') : o.wp P a w K Q := by
  unfold Oper.wp; rw [hr]; exact h
theorem wp_skip' {P : Program} {o : Oper} {a : Act} {w w' : World} {K : Act → World → Prop} {Q : Exit → Act → World → Prop} (hr : (execOp a.eval o).run P w = .ok .skip w') (h : K (a.put o.dst undef) w') : o.wp P a w K Q := by
  unfold Oper.wp; rw [hr]; exact h
theorem wp_enter {P : Program} {o : Oper} {a : Act} {w w' : World} {K : Act → World → Prop} {Q : Exit → Act → World → Prop} {f : FuncId} {args : Array Value} (hr : (execOp a.eval o).run P w = .ok (.enter f args) w')
    (h : Calls P f args w' fun | .returned v, w'' => K (a.put o.dst v) w'' | .panicked c, w'' => Q (.panic c) a w'' | .outgrown, _ => False) : o.wp P a w K Q := by
  unfold Oper.wp; rw [hr]
  exact h.mono fun e w'' he => by cases e <;> first | exact he | exact he.elim

theorem actOf_ext {n : Nat} {ρ ρ' : Env} (h : Ext n ρ ρ') {T : List V} (hu : T.all (V.under n) = true) : actOf ρ' T = actOf ρ T := by
  simp only [actOf, dens_extL h hu]

theorem run_alloc {P : Program} {t : TypeId} {i : TypeInfo} {z : Value} (hi : P.info? t = some i) (hz : i.zero = some z) (v : Value) (w : World) :
    (Instr.alloc t true v).run P w = .ok (.pointer (some ⟨w.heap.size, 0, none⟩)) (w.alloc (.cells z.cells t)) := by
  simp [Instr.alloc, zeroValue, typeInfo, hi, hz, newVar, newRow]

theorem run_v2 {P : Program} {w w' : World} {s : Sem Value} {u : Value} (h : s.run P w = .ok u w') : ((do pure (.value (← s))) : Sem Next).run P w = .ok (.value u) w' := by
  rw [Sem.run_bind, h]; rfl
theorem callFunc_enters {P : Program} {f : FuncId} (h : enters P f = true) (args : Array Value) (w : World) : (callFunc f args).run P w = .ok (.enter f args) w := by
  unfold enters at h
  split at h
  · rename_i fn hf
    simp only [Bool.and_eq_true, Bool.not_eq_true'] at h
    have hb : fn.body.isNone = false := by rw [← Option.not_isSome, h.2]; rfl
    simp only [callFunc, Sem.run_bind, run_program, Result.andThen_ok, hf, h.1, Bool.false_eq_true, if_false, hb, Sem.run_pure]
  · cases h
section
variable {P : Program} {Γ : Ctx}

def OkFn (TT : Tb) (P : Program) (call : FuncId → List V → St → Option (List Out)) : Prop :=
  ∀ f args σ outs, call f args σ = some outs → (∀ o ∈ outs, o.st.T = σ.T ∧ σ.fr ≤ o.st.fr) ∧ ∀ ρ w0 w R, Sees TT ρ σ w0 w → (∀ o ∈ outs, GoodF TT R ρ σ.fr w0 o) → Calls P f (arr ρ args) w R

theorem musts_ok {ρ : Env} {σ : St} {w0 w : World} (hs : Sees TT ρ σ w0 w) {l : List E} (h : ∀ o ∈ musts σ l, ∀ e, o.x = .must e → e.B ρ = true) : ∀ e ∈ l, e.B ρ = true := fun e he => by
  by_cases hd : decideB σ.F e = some true
  · exact decideB_ok hs.fact hd
  · exact h ⟨.must e, σ⟩ (List.mem_map.2 ⟨e, List.mem_filter.2 ⟨he, by simp [hd]⟩, rfl⟩) e rfl
theorem effS_ok {call : FuncId → List V → St → Option (List Out)} (hcall : OkFn TT P call) {σ : St} {o : Oper} {outs : List Out} (h : effS P call σ o = some outs)
    {ρ : Env} {w0 w : World} {K : Act → World → Prop} {Q : Exit → Act → World → Prop} (hs : Sees TT ρ σ w0 w) (hg : ∀ u ∈ outs, GoodO TT K Q o.dst ρ σ.fr w0 u) : o.wp P (actOf ρ σ.T) w K Q := by
  unfold effS at h
  split at h
  · rename_i t x hop
    split at h
    · rename_i p hp
      split at h
      · rename_i v hv
        cases h
        refine wp_value (w' := w) (v := v.den ρ) ?_ (hg _ List.mem_cons_self ρ w (Ext.refl _ _) hs)
        unfold execOp
        simp only [hop]
        rw [evalO_ok hp]
        exact run_v (loadV_ok hs hv)
      · cases h
    · cases h
  · rename_i t a x hop
    split at h
    · rename_i p v hp hv
      split at h
      · rename_i σ' hσ
        cases h
        obtain ⟨w', hrun, hs'⟩ := storeS_ok hs hσ
        have hT : σ'.T = σ.T := by
          unfold storeS at hσ
          split at hσ
          · split at hσ
            · split at hσ <;> cases hσ; rfl
            · cases hσ
          · cases hσ
        have := hg _ List.mem_cons_self ρ w' (Ext.refl _ _) hs'
        simp only [hT] at this
        refine wp_skip' (w' := w') ?_ this
        unfold execOp
        simp only [hop]
        rw [evalO_ok hp, evalO_ok hv, Sem.run_bind, hrun]; rfl
      · split at h
        · rename_i σ' hσ
          cases h
          obtain ⟨hT, w', hrun, hs'⟩ := storeRS_ok hs hσ
          have := hg _ List.mem_cons_self ρ w' (Ext.refl _ _) hs'
          simp only [hT] at this
          refine wp_skip' (w' := w') ?_ this
          unfold execOp
          simp only [hop]
          rw [evalO_ok hp, evalO_ok hv, Sem.run_bind, hrun]; rfl
        · cases h
    · cases h
  · rename_i t hop
    split at h
    · rename_i z hz
      split at h
      · rename_i l hl
        split at h
        · rename_i hc
          cases h
          simp only [Bool.and_eq_true, decide_eq_true_eq] at hc
          obtain ⟨i, hi, hzv⟩ := zeroV_ok (ρ := ρ) hz
          have hcells := cells_ok (ρ := ρ.name σ.fr w.heap.size) hl
          have hx := name_ext ρ σ.fr w.heap.size
          have hzz : z.den (ρ.name σ.fr w.heap.size) = z.den ρ := by
            obtain ⟨i2, hi2, hz2⟩ := zeroV_ok (ρ := ρ.name σ.fr w.heap.size) hz
            rw [hi] at hi2; cases hi2; rw [hzv] at hz2; exact (Option.some.inj hz2).symm
          have hs' := sees_new (o := .cells l t) (obj := .cells (z.den ρ).cells t) hs hc.1 hc.2 (by rw [← hzz, hcells]; rfl)
          have := hg _ List.mem_cons_self _ _ hx hs'
          simp only at this
          have hT : actOf (ρ.name σ.fr w.heap.size) (σ.newB (.cells l t)).T = actOf ρ σ.T := actOf_ext hx (ok_parts hc.1).1
          rw [hT] at this
          refine wp_value (v := V.den (ρ.name σ.fr w.heap.size) (.ptr (.n σ.fr) 0 [])) ?_ this
          unfold execOp
          simp only [hop]
          refine run_v2 ?_
          rw [run_alloc hi hzv]
          simp [den_ptr, addrD, offN, Env.blk, Env.name]
        · cases h
      · cases h
    · cases h
  · rename_i t x hop
    split at h
    · rename_i v hv
      split at h
      · rename_i l hl
        split at h
        · rename_i hc
          cases h
          simp only [Bool.and_eq_true, decide_eq_true_eq] at hc
          have hx := name_ext ρ σ.fr w.heap.size
          have hT : actOf (ρ.name σ.fr w.heap.size) (σ.newB (.cells l t)).T = actOf ρ σ.T := actOf_ext hx (ok_parts hc.1).1
          have hvv : v.den (ρ.name σ.fr w.heap.size) = v.den ρ := by
            rw [← evalO_ok (ρ := ρ) hv, ← evalO_ok (ρ := ρ.name σ.fr w.heap.size) hv]
            exact congrArg (fun a => a.eval x) hT
          have hcells := cells_ok (ρ := ρ.name σ.fr w.heap.size) hl
          have hs' := sees_new (o := .cells l t) (obj := .cells (v.den ρ).cells t) hs hc.1 hc.2 (by rw [← hvv, hcells]; rfl)
          have := hg _ List.mem_cons_self _ _ hx hs'
          simp only at this
          rw [hT] at this
          refine wp_value (v := V.den (ρ.name σ.fr w.heap.size) (.ptr (.n σ.fr) 0 [])) ?_ this
          unfold execOp
          simp only [hop]
          refine run_v2 ?_
          rw [evalO_ok hv]
          simp [Instr.box, newVar, newRow, den_ptr, addrD, offN, Env.blk, Env.name]
        · cases h
      · cases h
    · cases h
  · rename_i t n parts hop
    split at h
    · rename_i ps hps
      split at h
      · rename_i e l hl
        split at h
        · rename_i hc
          cases h
          simp only [Bool.and_eq_true, decide_eq_true_eq] at hc
          have hx := name_ext ρ σ.fr w.heap.size
          have hs' := sees_new (o := .cells l e) (obj := .cells (arr (ρ.name σ.fr w.heap.size) l) e) hs hc.1 hc.2 rfl
          have := hg _ List.mem_cons_self _ _ hx hs'
          simp only at this
          have hT : actOf (ρ.name σ.fr w.heap.size) (σ.newB (.cells l e)).T = actOf ρ σ.T := actOf_ext hx (ok_parts hc.1).1
          rw [hT] at this
          refine wp_value (v := V.den (ρ.name σ.fr w.heap.size) (.sl (.n σ.fr) 0 [] (.c n) (.c n))) ?_ this
          unfold execOp
          simp only [hop]
          refine run_v2 ?_
          rw [listV_ok (ρ := ρ.name σ.fr w.heap.size) hl]
          · simp [den_sl, addrD, offN, Env.blk, Env.name]
          · have := parts_ok (ρ := ρ.name σ.fr w.heap.size) hps
            have hT' : actOf (ρ.name σ.fr w.heap.size) σ.T = actOf ρ σ.T := hT
            rw [← this, hT']
            simp
        · cases h
      · cases h
    · cases h
  · rename_i t x lo hi hop
    split at h
    · rename_i v l u hxe hle hue
      split at h
      · rename_i es σ' y hsl
        cases h
        have he := musts_ok hs (fun u hu e hue => by
          have := hg u (List.mem_append.2 (.inl hu)) ρ w (Ext.refl _ _) (by
            obtain ⟨e', -, rfl⟩ := List.mem_map.1 hu
            exact hs)
          rw [hue] at this
          exact this)
        obtain ⟨hT, hok, ρ', hx, hr, hs'⟩ := sliceS_ok hs hsl he
        have := hg ⟨.val y, σ'⟩ (List.mem_append.2 (.inr List.mem_cons_self)) ρ' w hx hs'
        simp only at this
        rw [hT, actOf_ext hx (ok_parts hok).1] at this
        refine wp_value ?_ this
        unfold execOp
        simp only [hop]
        rw [evalO_ok hxe, opt_ok hle, opt_ok hue, den_var]
        exact run_v2 hr
      · cases h
    · cases h
  · rename_i t x y hop
    split at h
    · rename_i a b hae hbe
      split at h
      · rename_i es σ' v hmk
        cases h
        have he := musts_ok hs (fun u hu e hue => by
          have := hg u (List.mem_append.2 (.inl hu)) ρ w (Ext.refl _ _) (by
            obtain ⟨e', -, rfl⟩ := List.mem_map.1 hu
            exact hs)
          rw [hue] at this
          exact this)
        obtain ⟨hT, hok, ρ', w', hx, hr, hs'⟩ := makeS_ok hs hmk he
        have := hg ⟨.val v, σ'⟩ (List.mem_append.2 (.inr List.mem_cons_self)) ρ' w' hx hs'
        simp only at this
        rw [hT, actOf_ext hx (ok_parts hok).1] at this
        refine wp_value ?_ this
        unfold execOp
        simp only [hop]
        rw [evalO_ok hae, evalO_ok hbe]
        exact run_v2 hr
      · cases h
    · cases h
  · rename_i args ts hop
    split at h
    · rename_i a b t t' hargs hts
      split at h
      · rename_i htt
        subst htt
        split at h
        · rename_i s x hsv hxv
          split at h
          · rename_i es σ' v happ
            cases h
            have he := musts_ok hs (fun u hu e hue => by
              have := hg u (List.mem_append.2 (.inl hu)) ρ w (Ext.refl _ _) (by
                obtain ⟨e', -, rfl⟩ := List.mem_map.1 hu
                exact hs)
              rw [hue] at this
              exact this)
            obtain ⟨hT, hok, ρ', w', hx, hr, hs'⟩ := appendS_ok (ty := o.type) hs happ he
            have := hg ⟨.val v, σ'⟩ (List.mem_append.2 (.inr List.mem_cons_self)) ρ' w' hx hs'
            simp only at this
            rw [hT, actOf_ext hx (ok_parts hok).1] at this
            refine wp_value ?_ this
            have e1 : args = #[a, b] := by apply Array.ext'; rw [hargs]
            have e2 : ts = #[t, t] := by apply Array.ext'; rw [hts]
            subst e1
            subst e2
            unfold execOp
            simp only [hop, resolve, Sem.run_bind, Sem.run_pure, Result.andThen_ok, invoke, builtin, List.map_toArray, List.map_cons, List.map_nil, evalO_ok hsv, evalO_ok hxv, hr]
          · cases h
        · cases h
      · cases h
    · cases h
  · rename_i f args ts hop
    split at h
    · rename_i g first cap as hf has
      split at h
      · rename_i hok
        simp only [Bool.and_eq_true] at hok
        obtain ⟨hT, hc⟩ := hcall _ _ _ _ h
        have hargs : (arr ρ (first.toL ++ as ++ cap.toL)) = (first.dens ρ).toArray ++ args.map (actOf ρ σ.T).eval ++ (cap.dens ρ).toArray := by
          have := evalOs_ok (ρ := ρ) has
          apply Array.ext'
          simp only [arr, List.map_append, toL_dens, Array.toList_append, Array.toList_map, this]
        refine wp_enter (w' := w) (f := g) (args := arr ρ (first.toL ++ as ++ cap.toL)) ?_ ?_
        · unfold execOp
          simp only [hop, resolve, evalO_ok hf, den_fn, Deferred.ofValue, Sem.run_bind, Sem.run_pure, Result.andThen_ok, invoke]
          rw [callFunc_enters hok.2, hargs]
        · refine hc ρ w0 w _ hs fun u hu ρ' w' hx hs' => ?_
          have h1 := hg u hu ρ' w' hx hs'
          have h2 : actOf ρ' u.st.T = actOf ρ σ.T := by rw [(hT u hu).1]; exact actOf_ext hx (ok_parts hok.1).1
          rw [h2] at h1
          revert h1
          cases u.x <;> intro h1
          case val => exact h1
          case must => exact h1
          case panic => exact h1 _ rfl
          all_goals exact h1.elim
      · cases h
    · cases h
  · rename_i x hop
    split at h
    · rename_i t v hx
      cases h
      have := hg _ List.mem_cons_self ρ w (Ext.refl _ _) hs (actOf ρ σ.T) rfl
      unfold Oper.wp execOp
      simp only [hop]
      rw [evalO_ok hx, den_ifc]
      exact this
    · cases h
  · cases h
end
end Go.Proofs.YtkggfeemjabdeaaGreatDoor.Sx
end
section
namespace Go.Proofs.YtkggfeemjabdeaaGreatDoor.Sx
open Go
variable {TT : Tb}
section
variable {P : Program} {Γ : Ctx}

theorem bindL_mem' {f : Out → Option (List Out)} : ∀ {l r : List Out}, bindL l f = some r → ∀ x ∈ r, ∃ o ∈ l, ∃ s, f o = some s ∧ x ∈ s
  | [], r, h, x, hx => by cases h; cases hx
  | a :: l, r, h, x, hx => by
    simp only [bindL] at h
    split at h
    · rename_i s t h1 h2
      cases h
      rcases List.mem_append.1 hx with hx | hx
      · exact ⟨a, List.mem_cons_self, s, h1, hx⟩
      · obtain ⟨o, ho, s', hs', hx'⟩ := bindL_mem' h2 x hx
        exact ⟨o, List.mem_cons_of_mem _ ho, s', hs', hx'⟩
    · cases h
theorem foldL_mem {f : Nat → Option (List Out)} : ∀ {l : List Nat} {r : List Out}, foldL l f = some r → ∀ o ∈ l, ∃ s, f o = some s ∧ ∀ x ∈ s, x ∈ r
  | [], r, h, o, ho => by cases ho
  | a :: l, r, h, o, ho => by
    simp only [foldL] at h
    split at h
    · rename_i x y h1 h2
      cases h
      rcases List.mem_cons.1 ho with rfl | ho
      · exact ⟨x, h1, fun z hz => List.mem_append.2 (.inl hz)⟩
      · obtain ⟨s, hs, hsub⟩ := foldL_mem h2 o ho
        exact ⟨s, hs, fun z hz => List.mem_append.2 (.inr (hsub z hz))⟩
    · cases h

/-- What is held of memory while a region's operations come up in some order. -/
def Held (L : List (Addr × Value)) (w : World) : Prop := ∀ p ∈ L, w.cell? p.1 = some p.2
def Tied (ρ : Env) (K : List (V × V)) (L : List (Addr × Value)) : Prop := ∀ p ∈ L, ∃ q ∈ K, q.1.den ρ = .pointer (some p.1) ∧ p.2 = q.2.den ρ
def cellsOf (ρ : Env) (K : List (V × V)) : List (Addr × Value) := K.filterMap fun q => match q.1.den ρ with | .pointer (some a) => some (a, q.2.den ρ) | _ => none
theorem mem_cells {ρ : Env} {K : List (V × V)} {q : V × V} (hq : q ∈ K) {a : Addr} (ha : q.1.den ρ = .pointer (some a)) : (a, q.2.den ρ) ∈ cellsOf ρ K :=
  List.mem_filterMap.2 ⟨q, hq, by simp only [ha]⟩
theorem tied_cells (ρ : Env) (K : List (V × V)) : Tied ρ K (cellsOf ρ K) := fun p hp => by
  obtain ⟨q, hq, h⟩ := List.mem_filterMap.1 hp
  split at h
  · rename_i a ha
    cases h
    exact ⟨q, hq, ha, rfl⟩
  · cases h
theorem kept_ok {ρ ρ' : Env} {n : Nat} {σ : St} {K : List (V × V)} (hk : kept n σ K = true) (hx : Ext n ρ ρ') {w0 w : World} (hs : Sees TT ρ' σ w0 w) {L : List (Addr × Value)} (ht : Tied ρ K L) : Tied ρ' K L ∧ Held L w := by
  unfold kept at hk
  rw [List.all_eq_true] at hk
  refine ⟨fun p hp => ?_, fun p hp => ?_⟩
  · obtain ⟨q, hq, e1, e2⟩ := ht p hp
    have := hk q hq
    simp only [Bool.and_eq_true] at this
    exact ⟨q, hq, by rw [den_extV hx this.1.1, e1], by rw [den_extV hx this.1.2, e2]⟩
  · obtain ⟨q, hq, e1, e2⟩ := ht p hp
    have := hk q hq
    simp only [Bool.and_eq_true, beq_iff_eq] at this
    obtain ⟨a, h1, -, h2⟩ := cellAt_ok hs this.2
    rw [den_extV hx this.1.1, e1] at h1
    injection h1 with h1
    injection h1 with h1
    rw [h1, h2, e2, den_extV hx this.1.2]
theorem loadK_held {ρ : Env} {σ : St} {w0 w : World} (hs : Sees TT ρ σ w0 w) (t : TypeId) (x : V) : Held (cellsOf ρ (loadK P σ t x)) w := by
  intro p hp
  obtain ⟨q, hq, e1, e2⟩ := tied_cells ρ _ p hp
  have key : cellAt σ q.1 = some q.2 := by
    rcases List.mem_append.1 hq with hq | hq
    · split at hq
      · rename_i v hv; cases List.mem_singleton.1 hq; exact hv
      · cases hq
    · split at hq
      · obtain ⟨j, -, h⟩ := List.mem_filterMap.1 hq
        rw [Option.map_eq_some_iff] at h
        obtain ⟨v, hv, rfl⟩ := h
        exact hv
      · cases hq
  obtain ⟨a, h1, -, h2⟩ := cellAt_ok hs key
  rw [e1] at h1
  injection h1 with h1
  injection h1 with h1
  rw [h1, h2, e2]
theorem cellsAt_get {σ : St} {p : V} : ∀ {n j : Nat} {l : List V}, cellsAt σ p j n = some l → ∀ i, i < n → ∃ u, l[i]? = some u ∧ cellAt σ (shiftP (j + i) p) = some u
  | 0, _, _, _, i, hi => by omega
  | n + 1, j, l, h, i, hi => by
    simp only [cellsAt] at h
    split at h
    · rename_i v l' h1 h2
      cases h
      cases i with
      | zero => exact ⟨v, rfl, h1⟩
      | succ i =>
        obtain ⟨u, e1, e2⟩ := cellsAt_get h2 i (by omega)
        exact ⟨u, by simpa using e1, by rwa [show j + 1 + i = j + (i + 1) by omega] at e2⟩
    · cases h
theorem loadK_ok {ρ : Env} {σ : St} {w0 w1 : World} (hs : Sees TT ρ σ w0 w1) {t : TypeId} {x v : V} (hl : loadV P σ t x = some v) {w : World} (hh : Held (cellsOf ρ (loadK P σ t x)) w) : (Instr.loadAt t (x.den ρ)).run P w = .ok (v.den ρ) w := by
  unfold loadV at hl
  split at hl
  · rename_i hp
    split at hl
    · rename_i n h1 h2
      split at hl
      · rename_i u l hc0 hc
        cases hl
        obtain ⟨a, ha, hsp, -⟩ := cellAt_ok hs hc0
        obtain ⟨e1, -⟩ := cellsAt_ok hs hp ha hsp hc
        simp only [Instr.loadAt, ha, Instr.sureAddr, Sem.run_bind, Sem.run_pure, Result.andThen_ok, loadVar, isAgg_ok h1, if_true, sizeOf_ok h2, agg_ofL]
        have := run_loadCells_list (P := P) w a (l.map (V.den ρ)) (fun j y hj => by
          rw [List.getElem?_map, Option.map_eq_some_iff] at hj
          obtain ⟨z, hz, rfl⟩ := hj
          have hjn : j < n := by rw [← e1]; exact (List.getElem?_eq_some_iff.1 hz).1
          obtain ⟨u', e3, e4⟩ := cellsAt_get hc j hjn
          rw [hz] at e3
          cases e3
          rw [Nat.zero_add] at e4
          refine hh (a.add j, z.den ρ) (mem_cells (q := (shiftP j x, z)) ?_ (shift_den hp ha hsp j))
          unfold loadK
          simp only [h1, h2]
          exact List.mem_append.2 (.inr (List.mem_filterMap.2 ⟨j, by simpa using hjn, by simp [e4]⟩)))
        rw [List.length_map, e1] at this
        rw [this]; rfl
      · cases hl
    · rename_i h1
      obtain ⟨a, ha, -, -⟩ := cellAt_ok hs hl
      have hc : w.cell? a = some (v.den ρ) := hh (a, v.den ρ) (mem_cells (q := (x, v)) (by unfold loadK; simp [hl]) ha)
      simp only [Instr.loadAt, ha, Instr.sureAddr, Sem.run_bind, Sem.run_pure, Result.andThen_ok, loadVar, isAgg_ok h1, Bool.false_eq_true, if_false, run_load, hc]
    · cases hl
  · cases hl

theorem wpAnyH_weaken {ops : Array Oper} {Q : Exit → Act → World → Prop} {md : Region.Mode} {S S' : World → Prop} (h : ∀ w, S' w → S w) : ∀ (n : Nat) (listed : Array Bool) (a : Act) (w : World), wpAnyH P md ops Q S' n listed a w → wpAnyH P md ops Q S n listed a w
  | 0, _, _, _, hh => hh
  | n + 1, _, _, _, hh => ⟨hh.1, fun i hi => wpOp_mono (fun _ _ hk => ⟨h _ hk.1, wpAnyH_weaken h n _ _ _ hk.2⟩) (hh.2 i hi)⟩

theorem pick_ok {ops : Array Oper} {listed : Array Bool} {σ : St} {i : Nat} {v : V} {K : List (V × V)} : ∀ {rs : List Nat}, pickOp P ops listed σ rs = .take i v K →
    i ∈ rs ∧ Region.free .any ops listed i = true ∧ ∃ o, ops[i]? = some o ∧ ((guardV ops σ o = some (.inl false) ∧ v = undefV ∧ K = []) ∨
      (guardV ops σ o = some (.inl true) ∧ ((opW P σ o = some (.val v) ∧ K = []) ∨ ∃ t x p, o.op = .load t x ∧ evalO σ.T x = some p ∧ loadV P σ t p = some v ∧ K = loadK P σ t p)))
  | [], h => by cases h
  | j :: rest, h => by
    have later : pickOp P ops listed σ rest = .take i v K → i ∈ j :: rest ∧ Region.free .any ops listed i = true ∧ ∃ o, ops[i]? = some o ∧ ((guardV ops σ o = some (.inl false) ∧ v = undefV ∧ K = []) ∨
      (guardV ops σ o = some (.inl true) ∧ ((opW P σ o = some (.val v) ∧ K = []) ∨ ∃ t x p, o.op = .load t x ∧ evalO σ.T x = some p ∧ loadV P σ t p = some v ∧ K = loadK P σ t p))) := fun h => by
      obtain ⟨h1, h2⟩ := pick_ok h
      exact ⟨List.mem_cons_of_mem _ h1, h2⟩
    simp only [pickOp] at h
    split at h
    · cases h
    · rename_i o ho
      split at h
      · rename_i hg
        split at h
        · rename_i hf
          cases h
          exact ⟨List.mem_cons_self, hf, o, ho, .inl ⟨hg, rfl, rfl⟩⟩
        · exact later h
      · cases h
      · rename_i hg
        split at h
        · rename_i hf
          split at h
          · rename_i hv
            cases h
            exact ⟨List.mem_cons_self, hf, o, ho, .inr ⟨hg, .inl ⟨hv, rfl⟩⟩⟩
          · cases h
          · cases h
          · split at h
            · rename_i t x hop
              split at h
              · rename_i p hp
                split at h
                · rename_i u hu
                  split at h
                  · exact later h
                  · cases h
                    exact ⟨List.mem_cons_self, hf, o, ho, .inr ⟨hg, .inr ⟨t, x, p, hop, hp, hu, rfl⟩⟩⟩
                · exact later h
              · exact later h
            · exact later h
        · exact later h
      · exact later h

theorem strong_blind {Q : Exit → Act → World → Prop} (d : Option Tmp) (v : Value) (cc : List PanicEntry) (a : Act) (w : World) (h : strong Q (.panic cc) (a.put d v) w) : strong Q (.panic cc) a w := by
  obtain ⟨h1, h2⟩ := h
  refine ⟨?_, h2⟩
  cases d <;> exact h1

def OkCode (TT : Tb) (P : Program) (Γ : Ctx) (g : Nat) : Prop := ∀ c σ outs, go P Γ g (.code c) σ = some outs → ∀ ρ w0 w Q, Sees TT ρ σ w0 w → (∀ o ∈ outs, GoodC TT Q ρ σ.fr w0 o) → c.wp P Q (actOf ρ σ.T) w
def OkOp (TT : Tb) (P : Program) (Γ : Ctx) (g : Nat) : Prop := ∀ o σ outs, go P Γ g (.op o) σ = some outs → ∀ ρ w0 w K Q, Sees TT ρ σ w0 w → (∀ u ∈ outs, GoodO TT K Q o.dst ρ σ.fr w0 u) → o.wp P (actOf ρ σ.T) w K Q
def OkSeq (TT : Tb) (P : Program) (Γ : Ctx) (g : Nat) : Prop := ∀ ops l σ outs, go P Γ g (.seq ops l) σ = some outs → ∀ ρ w0 w Q, Sees TT ρ σ w0 w → (∀ o ∈ outs, GoodC TT Q ρ σ.fr w0 o) → wpOps P ops Q l (actOf ρ σ.T) w
def OkAny (TT : Tb) (P : Program) (Γ : Ctx) (g : Nat) : Prop := ∀ ops n listed K σ outs, go P Γ g (.any ops n listed K) σ = some outs → Region.noSelect ops = true → ∀ ρ w0 w Q L, Sees TT ρ σ w0 w → Tied ρ K L → Held L w →
  (∀ o ∈ outs, GoodC TT Q ρ σ.fr w0 o) → wpAnyH P .any ops (strong Q) (Held L) n listed (actOf ρ σ.T) w

theorem GoodC.strong {Q : Exit → Act → World → Prop} {ρ : Env} {n : Nat} {w0 : World} {o : Out} (h : GoodC TT Q ρ n w0 o) : GoodC TT (strong Q) ρ n w0 o := by
  intro ρ' w' hx hs
  have := h ρ' w' hx hs
  revert this
  cases o.x <;> intro this
  case panic => exact fun a ha => ⟨ha, fun a' ha' => this a' ha'⟩
  all_goals exact this

theorem ok_op {g : Nat} (hop : OkOp TT P Γ g) (hfn : OkFn TT P fun f as τ => go P Γ g (.fn f as) τ) : OkOp TT P Γ (g + 1) := by
  intro o σ outs h ρ w0 w K Q hs hg
  simp only [go] at h
  split at h
  · rename_i v hv
    cases h
    exact wp_value (opW_ok hs hv w) (hg _ List.mem_cons_self ρ w (Ext.refl _ _) hs)
  · rename_i e he
    split at h
    · rename_i l hl
      cases h
      have hb : e.B ρ = true := hg _ List.mem_cons_self ρ w (Ext.refl _ _) hs
      exact hop o (σ.know e true) l hl ρ w0 w K Q (hs.know hb) fun u hu => hg u (List.mem_cons_of_mem _ hu)
    · cases h
  · rename_i e he
    split at h
    · rename_i x y h1 h2
      cases h
      cases hb : e.B ρ with
      | true => exact hop o (σ.know e true) x h1 ρ w0 w K Q (hs.know hb) fun u hu => hg u (List.mem_append.2 (.inl hu))
      | false => exact hop o (σ.know e false) y h2 ρ w0 w K Q (hs.know hb) fun u hu => hg u (List.mem_append.2 (.inr hu))
    · cases h
  · exact effS_ok hfn h hs hg

theorem ok_seq {g : Nat} (hop : OkOp TT P Γ g) (hseq : OkSeq TT P Γ g) : OkSeq TT P Γ (g + 1) := by
  intro ops l σ outs h ρ w0 w Q hs hg
  cases l with
  | nil =>
    simp only [go] at h
    cases h
    exact hg _ List.mem_cons_self ρ w (Ext.refl _ _) hs
  | cons i rest =>
    rw [wpOps_cons]
    simp only [go] at h
    unfold wpOp
    split at h
    · rename_i ho
      rw [ho]
      exact hseq ops rest σ outs h ρ w0 w Q hs hg
    · rename_i o ho
      rw [ho]
      simp only
      split at h
      · rename_i hgd
        rw [guard_ok hs hgd]
        simp only [Bool.false_eq_true, if_false]
        rw [← undef_den ρ, act_put]
        exact hseq ops rest _ outs h ρ w0 w Q (hs.put _ _) fun u hu => by rw [put_fr]; exact hg u hu
      · rename_i e he
        split at h
        · rename_i x y h1 h2
          cases h
          have key := hseq ops (i :: rest)
          cases hb : e.B ρ with
          | true =>
            have := key (σ.know e true) x h1 ρ w0 w Q (hs.know hb) fun u hu => hg u (List.mem_append.2 (.inl hu))
            rw [wpOps_cons] at this
            unfold wpOp at this
            rw [ho] at this
            exact this
          | false =>
            have := key (σ.know e false) y h2 ρ w0 w Q (hs.know hb) fun u hu => hg u (List.mem_append.2 (.inr hu))
            rw [wpOps_cons] at this
            unfold wpOp at this
            rw [ho] at this
            exact this
        · cases h
      · rename_i hgd
        rw [guard_ok hs hgd]
        simp only [if_true]
        refine .inl ?_
        split at h
        · rename_i l hl
          refine hop o σ l hl ρ w0 w _ _ hs fun u hu ρ' w' hx hs' => ?_
          obtain ⟨s, hf, hsub⟩ := bindL_mem h u hu
          cases hux : u.x with
          | val v =>
            simp only [hux] at hf ⊢
            split at hf
            · rename_i hfr
              rw [act_put]
              exact hseq ops rest _ s hf ρ' w0 w' Q (hs'.put _ _) fun z hz => by
                rw [put_fr]; exact (hg z (hsub z hz)).ext hx hfr
            · cases hf
          | must e =>
            simp only [hux] at hf ⊢
            cases hf
            have := hg u (hsub u List.mem_cons_self) ρ' w' hx hs'
            rw [hux] at this
            exact this
          | panic v =>
            simp only [hux] at hf ⊢
            cases hf
            have := hg u (hsub u List.mem_cons_self) ρ' w' hx hs'
            rw [hux] at this
            exact this
          | _ => simp only [hux] at hf; cases hf
        · cases h
      · cases h

theorem ok_any {g : Nat} (hop : OkOp TT P Γ g) (hany : OkAny TT P Γ g) : OkAny TT P Γ (g + 1) := by
  intro ops n listed K σ outs h hsel ρ w0 w Q L hs ht hh hg
  simp only [go] at h
  split at h
  · rename_i hr
    cases h
    refine wpAnyH_done hr ?_ n
    exact hg _ List.mem_cons_self ρ w (Ext.refl _ _) hs
  · rename_i hr
    split at h
    · rename_i e he
      split at h
      · rename_i l hl
        cases h
        have hb : e.B ρ = true := hg _ List.mem_cons_self ρ w (Ext.refl _ _) hs
        exact hany ops n listed K (σ.know e true) l hl hsel ρ w0 w Q L (hs.know hb) ht hh fun u hu => hg u (List.mem_cons_of_mem _ hu)
      · cases h
    · rename_i e he
      split at h
      · rename_i x y h1 h2
        cases h
        cases hb : e.B ρ with
        | true => exact hany ops n listed K (σ.know e true) x h1 hsel ρ w0 w Q L (hs.know hb) ht hh fun u hu => hg u (List.mem_append.2 (.inl hu))
        | false => exact hany ops n listed K (σ.know e false) y h2 hsel ρ w0 w Q L (hs.know hb) ht hh fun u hu => hg u (List.mem_append.2 (.inr hu))
      · cases h
    · rename_i i v K' hp
      obtain ⟨hi, hf, o, ho, hcase⟩ := pick_ok hp
      split at h
      · rename_i m o' ho'
        rw [ho] at ho'; cases ho'
        have hh' : Held (cellsOf ρ K' ++ L) w ∧ YieldsIf P ops (Held (cellsOf ρ K' ++ L)) o (v.den ρ) (actOf ρ σ.T) := by
          rcases hcase with ⟨h1, rfl, rfl⟩ | ⟨h1, ⟨h2, rfl⟩ | ⟨t, x, p, h2, h3, h4, rfl⟩⟩
          · exact ⟨hh, .inr ⟨guard_ok hs h1, rfl⟩⟩
          · exact ⟨hh, .inl ⟨guard_ok hs h1, fun w' _ => opW_ok hs h2 w'⟩⟩
          · have hk := loadK_held (P := P) hs t p
            refine ⟨fun q hq => ?_, .inl ⟨guard_ok hs h1, fun w' hw' => ?_⟩⟩
            · rcases List.mem_append.1 hq with hq | hq
              · exact hk q hq
              · exact hh q hq
            · unfold execOp
              simp only [h2]
              rw [evalO_ok h3]
              exact run_v (loadK_ok hs h4 fun q hq => hw' q (List.mem_append.2 (.inl hq)))
        refine wpAnyH_weaken (S' := Held (cellsOf ρ K' ++ L)) (fun w' hw' q hq => hw' q (List.mem_append.2 (.inr hq))) _ _ _ _ ?_
        refine wpAnyH_take ho hsel hf (by simpa using hi) (fun cc a w' => strong_blind _ _ cc a w') hh'.2 hh'.1 ?_
        rw [act_put]
        refine hany ops m _ (K' ++ K) _ outs h hsel ρ w0 w Q _ (hs.put _ _) (fun q hq => ?_) hh'.1 (fun u hu => by rw [put_fr]; exact hg u hu)
        rcases List.mem_append.1 hq with hq | hq
        · obtain ⟨z, hz, e⟩ := tied_cells ρ K' q hq
          exact ⟨z, List.mem_append.2 (.inl hz), e⟩
        · obtain ⟨z, hz, e⟩ := ht q hq
          exact ⟨z, List.mem_append.2 (.inr hz), e⟩
      · cases h
    · split at h
      · cases h
      · rename_i m
        refine wpAnyH_all rfl hr fun i hi => ?_
        obtain ⟨s, hf, hsub⟩ := foldL_mem h i hi
        split at hf
        · rename_i o ho
          unfold wpOp
          rw [ho]
          simp only
          split at hf
          · rename_i hgd
            rw [guard_ok hs hgd]
            simp only [Bool.false_eq_true, if_false]
            refine ⟨hh, ?_⟩
            rw [← undef_den ρ, act_put]
            exact hany ops m _ K _ s hf hsel ρ w0 w Q L (hs.put _ _) ht hh fun u hu => by rw [put_fr]; exact hg u (hsub u hu)
          · rename_i hgd
            rw [guard_ok hs hgd]
            simp only [if_true]
            refine .inl ?_
            split at hf
            · rename_i l hl
              refine hop o σ l hl ρ w0 w _ _ hs fun u hu ρ' w' hx hs' => ?_
              obtain ⟨s', hf', hsub'⟩ := bindL_mem hf u hu
              cases hux : u.x with
              | val v =>
                simp only [hux] at hf' ⊢
                split at hf'
                · rename_i hfr
                  obtain ⟨ht', hh'⟩ := kept_ok hfr.2 hx hs' ht
                  refine ⟨hh', ?_⟩
                  rw [act_put]
                  exact hany ops m _ K _ s' hf' hsel ρ' w0 w' Q L (hs'.put _ _) ht' hh' fun z hz => by
                    rw [put_fr]; exact (hg z (hsub z (hsub' z hz))).ext hx hfr.1
                · cases hf'
              | must e =>
                simp only [hux] at hf' ⊢
                cases hf'
                have := hg u (hsub u (hsub' u List.mem_cons_self)) ρ' w' hx hs'
                rw [hux] at this
                exact this
              | panic v =>
                simp only [hux] at hf' ⊢
                cases hf'
                have := (hg u (hsub u (hsub' u List.mem_cons_self))).strong ρ' w' hx hs'
                rw [hux] at this
                exact this
              | _ => simp only [hux] at hf'; cases hf'
            · cases hf
          · cases hf
        · cases hf
end
end Go.Proofs.YtkggfeemjabdeaaGreatDoor.Sx
end
