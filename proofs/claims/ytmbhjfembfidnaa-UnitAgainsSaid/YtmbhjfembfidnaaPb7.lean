/- The executor. -/
import Derived.Orders
import Derived.OrdersHeld
import Derived.Test.YtmbhjfembfidnaaPb6
namespace Go.Proofs.Ytmbhjfembfidnaa.Sx
open Go

/-- How a piece of code ends. -/
inductive X where
  | norm | exit (id : Nat) | ret | val (v : V) | must (e : E) | panic (v : V)
  deriving DecidableEq, Inhabited
def X.isPanic : X → Bool | .panic _ => true | _ => false
structure Out where
  x : X
  st : St
  deriving DecidableEq, Inhabited

def St.put (σ : St) (d : Option Tmp) (v : V) : St := match d with | some d => { σ with T := σ.T.set d v } | none => σ
/-- A result is stored; a row's slice as such. -/
def St.putN (σ : St) (d : Option Tmp) (v : V) : St := σ.put d (unR' σ.R v)
def St.know (σ : St) (e : E) (b : Bool) : St := { σ with F := fact e b ++ σ.F }
def undefV : V := .tup .nil

def musts (σ : St) (l : List E) : List Out := (l.filter fun e => decideB σ.F e != some true).map fun e => ⟨.must e, σ⟩
def bindL : List Out → (Out → Option (List Out)) → Option (List Out)
  | [], _ => some []
  | o :: l, f => match f o, bindL l f with | some a, some b => some (a ++ b) | _, _ => none

def foldL : List Nat → (Nat → Option (List Out)) → Option (List Out)
  | [], _ => some []
  | o :: l, f => match f o, foldL l f with | some a, some b => some (a ++ b) | _, _ => none

/-- Is an operation's guard met? -/
def guardV (ops : Array Oper) (σ : St) (o : Oper) : Option (Bool ⊕ E) :=
  match o.guard with
  | none => some (.inl true)
  | some (j, want) =>
    match (ops[j]?).bind (·.dst) with
    | none => some (.inl false)
    | some d => match σ.T[d]? with
      | some (.b e) => match decideB σ.F e with | some b => some (.inl (b == want)) | none => some (.inr e)
      | some (.tup _) => some (.inl false)
      | some (.i _ _) => some (.inl false)
      | _ => none

inductive Job where
  | code (c : Code)
  | op (o : Oper)
  | seq (ops : Array Oper) (l : List Nat)
  | any (ops : Array Oper) (n : Nat) (listed : Array Bool) (K : List (V × V))
  | fn (f : FuncId) (args : List V)
  | unroll (c : Code)
  | round (l : Nat) (args : List V)

/-- A contract: what a call comes to. -/
structure Ctr where
  f : FuncId
  run : List V → St → Option (List Out)

/-- A place that a loop writes, and what kind of value stands there. -/
inductive Loc where
  | t (i : Tmp) (k : Kd) | h (b : Bk) (o : Nat) (k : Kd) | r (i : Tmp)
  deriving DecidableEq, Inhabited
def Loc.kd : Loc → Kd | .t _ k => k | .h _ _ k => k | .r _ => .any
def Kd.fresh (n : Nat) : Kd → V | .i k => .i k (.v n) | .b => .b (.bv n) | .s => .s (.sv n) | .any => .var n | .sl => .rsl n
/-- Terms of one sort alone. -/
def E.isI : E → Bool
  | .c _ | .v _ | .add _ _ | .sub _ _ | .mul _ _ | .quo _ _ | .rem _ _ | .wrap _ _ | .bits _ _ _ _ | .shl _ _ _ | .shr _ _ _ | .len _ | .byte _ _ | .app _ _ | .nthI _ _ | .llen _ => true
  | .ite _ a b => a.isI && b.isI
  | _ => false
def E.isB : E → Bool
  | .tt | .ff | .bv _ | .lt _ _ | .le _ _ | .eq _ _ | .seq _ _ | .not _ | .and _ _ | .or _ _ | .happ _ _ | .leq _ _ | .allr _ _ _ => true
  | .ite _ a b => a.isB && b.isB
  | _ => false
def E.isS : E → Bool
  | .sv _ | .lit _ | .ssub _ _ _ | .cat _ _ | .sapp _ _ | .nthS _ _ => true
  | .ite _ a b => a.isS && b.isS
  | _ => false
def E.isL : E → Bool
  | .nil | .cons _ _ | .lv _ | .lapp _ _ | .lcat _ _ | .lrep _ _ | .lsub _ _ _ | .lset _ _ _ => true
  | _ => false
def compI : E → E | .pair a _ => if a.isI then a else .c 0 | e => if e.isI then e else .c 0
def compL : E → E | .pair _ l => if l.isL then l else .nil | e => if e.isL then e else .nil
def compB (e : E) : E := if e.isB then e else .ff
def compS (e : E) : E := if e.isS then e else .lit []
def Kd.fits : Kd → V → Bool
  | .i k, .i k' e => decide (k = k') && e.isI | .b, .b e => e.isB | .s, .s e => e.isS | .any, _ => true | .sl, .rsl _ => true | .sl, .nils => true | _, _ => false
/-- What holds at a loop's head: the places it writes (by the n-th names on), what is known of them, what falls with each round. -/
structure LoopSpec where
  key : Nat
  locs : List Loc
  facts : Nat → List E := fun _ => []
  meas : Nat → E
  W : List Bk := []
  rows : Nat → List (Nat × Row) := fun _ => []
  inp : List Nat := []
  prom : List (Nat × TypeId) := []
  nt : Option Nat := none
/-- Does it speak of a function with so many temporaries? -/
def LoopSpec.fits (L : LoopSpec) (n : Nat) : Bool := match L.nt with | none => true | some k => Nat.beq k n
/-- A range over a function that is under way: its frame's temporaries, its parameters, its code. -/
structure Rec where
  T : List V
  ps : Array Tmp
  a : Code
  b : Code
structure Ctx where
  calls : List Ctr := []
  loops : List LoopSpec := []
  rounds : List (Nat × Rec) := []
  rd : Option Nat := none
  /-- Slices (by their frame's number of temporaries, and their type) that take their row's place: the row is not read any more behind them. -/
  keep : List (Nat × TypeId) := []

def firstReg : Code → Option Nat
  | .region id _ _ => some id
  | .seq a b => match firstReg a with | some n => some n | none => firstReg b
  | .cond _ a b => match firstReg a with | some n => some n | none => firstReg b
  | .block _ c | .loop c | .scope c => firstReg c
  | .rangeFunc _ _ a b => match firstReg a with | some n => some n | none => firstReg b
  | _ => none
def writes : Code → List Tmp
  | .region _ ops _ => ops.toList.filterMap (·.dst)
  | .seq a b | .cond _ a b => writes a ++ writes b
  | .block _ c | .loop c | .scope c => writes c
  | _ => []
/-- Code that the executor goes through (so that 'writes' is all that it writes). -/
def locsOf (L : LoopSpec) (c : Code) : List Loc :=
  L.locs ++ ((writes c).eraseDups.filter fun t => !L.locs.any fun l => match l with | .t i _ => i == t | _ => false).map fun t => .t t .any
def tIdx (i : Tmp) : List Loc → Nat → Option (Nat × Kd)
  | [], _ => none
  | .t j k :: l, n => if j = i then some (n, k) else tIdx i l (n + 1)
  | _ :: l, n => tIdx i l (n + 1)
def hIdx (b : Bk) (o : Nat) : List Loc → Nat → Option (Nat × Kd)
  | [], _ => none
  | .h b' o' k :: l, n => if b' = b ∧ o' = o then some (n, k) else hIdx b o l (n + 1)
  | _ :: l, n => hIdx b o l (n + 1)
def genT (n : Nat) (locs : List Loc) (T : List V) : List V := T.zipIdx.map fun p => match tIdx p.2 locs n with | some (m, k) => k.fresh m | none => p.1
def genH (n : Nat) (locs : List Loc) (b : Bk) : HO → HO
  | .cells l t => .cells (l.zipIdx.map fun p => match hIdx b p.2 locs n with | some (m, k) => k.fresh m | none => p.1) t
  | o => o
def gen (n : Nat) (locs : List Loc) (σ : St) : St := { σ with T := genT n locs σ.T, H := σ.H.map fun p => (p.1, genH n locs p.1 p.2) }
def locV (σ : St) : Loc → Option V
  | .t i _ => σ.T[i]?
  | .r i => σ.T[i]?
  | .h b o _ => match σ.look b with | some (.cells l _) => l[o]? | _ => none
def locVs (σ : St) : List Loc → Option (List V)
  | [] => some []
  | l :: ls => match locV σ l, locVs σ ls with
    | some v, some vs => if l.kd.fits v then some (v :: vs) else none
    | _, _ => none
def V.asE (R : List (Nat × Row)) : V → E
  | .i _ e => e | .b e => e | .s e => e
  | .var x | .rsl x => match R.find? (·.1 == x) with | some p => .pair p.2.n p.2.xs | none => .c 0
  | .nils => .pair (.c 0) .nil
  | _ => .c 0
def E.subst (n : Nat) (es : List E) : E → E
  | .v k => if n ≤ k then compI (es.getD (k - n) (.c 0)) else .v k
  | .bv k => if n ≤ k then compB (es.getD (k - n) (.c 0)) else .bv k
  | .sv k => if n ≤ k then compS (es.getD (k - n) (.c 0)) else .sv k
  | .add a b => .add (a.subst n es) (b.subst n es) | .sub a b => .sub (a.subst n es) (b.subst n es) | .mul a b => .mul (a.subst n es) (b.subst n es)
  | .quo a b => .quo (a.subst n es) (b.subst n es) | .rem a b => .rem (a.subst n es) (b.subst n es)
  | .wrap k a => .wrap k (a.subst n es) | .bits op k a b => .bits op k (a.subst n es) (b.subst n es) | .shl k a b => .shl k (a.subst n es) (b.subst n es) | .shr k a b => .shr k (a.subst n es) (b.subst n es)
  | .ite q a b => .ite (q.subst n es) (a.subst n es) (b.subst n es)
  | .len a => .len (a.subst n es) | .byte a b => .byte (a.subst n es) (b.subst n es) | .app f l => .app f (l.subst n es)
  | .lt a b => .lt (a.subst n es) (b.subst n es) | .le a b => .le (a.subst n es) (b.subst n es) | .eq a b => .eq (a.subst n es) (b.subst n es) | .seq a b => .seq (a.subst n es) (b.subst n es)
  | .not a => .not (a.subst n es) | .and a b => .and (a.subst n es) (b.subst n es) | .or a b => .or (a.subst n es) (b.subst n es) | .happ f l => .happ f (l.subst n es)
  | .sapp f l => .sapp f (l.subst n es) | .ssub a b d => .ssub (a.subst n es) (b.subst n es) (d.subst n es) | .cat a b => .cat (a.subst n es) (b.subst n es)
  | .cons a l => .cons (a.subst n es) (l.subst n es)
  | .lapp f l => .lapp f (l.subst n es) | .lcat a b => .lcat (a.subst n es) (b.subst n es) | .nthI a b => .nthI (a.subst n es) (b.subst n es) | .nthS a b => .nthS (a.subst n es) (b.subst n es) | .llen a => .llen (a.subst n es) | .leq a b => .leq (a.subst n es) (b.subst n es)
  | .lv k => if n ≤ k then compL (es.getD (k - n) (.c 0)) else .lv k
  | .pair a b => .pair (a.subst n es) (b.subst n es)
  | .allr lo hi l => .allr lo hi (l.subst n es)
  | .lrep a b => .lrep (a.subst n es) (b.subst n es) | .lsub q a b => .lsub (q.subst n es) (a.subst n es) (b.subst n es) | .lset q a b => .lset (q.subst n es) (a.subst n es) (b.subst n es)
  | e => e
/-- The row behind a slice. -/
def rowFor (τ : St) (v : V) (r : Row) : Option (Option Nat × E × E) :=
  match v with
  | .var x | .rsl x => match τ.R.find? (·.1 == x) with
    | some p => if p.2.own = r.own ∧ p.2.e = r.e ∧ p.2.kds = r.kds then some (some x, p.2.n, p.2.xs) else none
    | none => none
  | .nils => if r.kds.length = 0 then none else some (none, .c 0, .nil)
  | _ => none
def rowsFor (τ : St) (n : Nat) (vs : List V) : List (Nat × Row) → Option (List (Option Nat × Nat) × List E)
  | [] => some ([], [])
  | (j, r) :: l => match vs[j]?, rowsFor τ n vs l with
    | some v, some (us, es) => match rowFor τ v r with
      | some (x, qn, qx) => some ((x, j) :: us, .eq qn (r.n.subst n (vs.map (V.asE τ.R))) :: .leq qx (r.xs.subst n (vs.map (V.asE τ.R))) :: es)
      | none => none
    | _, _ => none
def apartO (us : List (Option Nat × Nat)) : Bool := us.all fun a => us.all fun b => a.2 == b.2 || a.1.isNone || a.1 != b.1
def keptR (us : List (Option Nat × Nat)) (R : List (Nat × Row)) : List (Nat × Row) := R.filter fun p => us.all fun u => u.1 != some p.1
/-- The name of a row at a loop's head: a new one, or (of a row that is written in place) the one that it has. -/
def nmOf (inp : List Nat) (us : List (Option Nat × Nat)) (n j : Nat) : Nat := if inp.contains j then (match us.find? (fun u => u.2 == j) with | some (some x, _) => if x < n then x else n + j | _ => n + j) else n + j
def headR (inp : List Nat) (us : List (Option Nat × Nat)) (n : Nat) (rows : List (Nat × Row)) : List (Nat × Row) := rows.map fun p => (nmOf inp us n p.1, p.2)
/-- Slices of known cells, made rows ahead of a loop. -/
def promS (P : Program) : List (Nat × TypeId) → St → St
  | [], σ => σ
  | (i, t) :: l, σ => match σ.T[i]? with
    | some s => match promote P σ t s with
      | some (σ', v) => promS P l { σ' with T := σ'.T.set i v }
      | none => promS P l σ
    | none => promS P l σ
/-- A loop's head, and what is to be shown ahead of it. -/
def loopIn (L : LoopSpec) (c : Code) (σ : St) : Option (St × List Out) :=
  let locs := locsOf L c
  let n := σ.fr
  match locVs σ locs with
  | some vs => match rowsFor σ n vs (L.rows n) with
    | some (us, es) =>
      let τ := gen n locs σ
      let m := n + locs.length
      let σI : St := { τ with R := headR L.inp us n (L.rows n) ++ keptR us σ.R, F := L.facts n ++ σ.F, fr := m, W := L.W ++ σ.W }
      if σ.ok && σ.H.all (fun p => σ.look p.1 == some p.2) && (L.facts n).all (E.under m) && (L.meas n).under m && L.W.all (Bk.under n) && apartO us then
        some (σI, musts σ ((L.facts n).map (E.subst n (vs.map (V.asE σ.R))) ++ es))
      else none
    | none => none
  | none => none
/-- Behind a round: back at the head. -/
def loopBack (L : LoopSpec) (c : Code) (n : Nat) (R0 : List (Nat × Row)) (σI : St) (τ : St) : Option (List Out) :=
  let locs := locsOf L c
  match locVs τ locs with
  | some vs => match rowsFor τ n vs (L.rows n) with
    | some (us, rs) =>
      let γ := gen n locs τ
      let es := vs.map (V.asE τ.R)
      if decide (γ.T = σI.T) && σI.H.all (fun p => γ.look p.1 == some p.2) && τ.W.all σI.W.contains && decide (τ.own = σI.own ∧ τ.M = σI.M) && decide (σI.fr ≤ τ.fr) && apartO us
          && decide (σI.R = headR L.inp us n (L.rows n) ++ R0) && R0.all (fun p => τ.R.contains p && us.all fun u => u.1 != some p.1) then
        some (musts τ ((L.facts n).map (E.subst n es) ++ rs ++ [.lt ((L.meas n).subst n es) (L.meas n), .le (.c 0) ((L.meas n).subst n es)]))
      else none
    | none => none
  | none => none

def resV (P : Program) (σ : St) : List ResultVar → Option (List V)
  | [] => some []
  | .tmp t :: l => match σ.T[t]?, resV P σ l with | some a, some b => some (a :: b) | _, _ => none
  | .cell a t :: l => match σ.T[a]?, resV P σ l with
    | some p, some b => match loadV P σ t p with | some v => some (v :: b) | none => none
    | _, _ => none
def tupV : List V → V | [x] => x | l => .tup (V.ofL l)

/-- Do these cells read as they did? -/
def kept (n : Nat) (σ : St) (K : List (V × V)) : Bool := K.all fun q => q.1.under n && q.2.under n && cellAt σ q.1 == some q.2
/-- The cells that a load reads. -/
def cellsK (σ : St) (p : V) (l : List Nat) : List (V × V) := l.filterMap fun j => (cellAt σ (shiftP j p)).map fun v => (shiftP j p, v)
def loadK (P : Program) (σ : St) (t : TypeId) (p : V) : List (V × V) :=
  (match cellAt σ p with | some v => [(p, v)] | none => []) ++
  match isAggV P t, sizeV P t with
    | some true, some n => cellsK σ p (List.range n)
    | _, _ => []
/-- Is this the address of a block that is still to be made? -/
def toCome (ops : Array Oper) (listed : Array Bool) : Operand → Bool
  | .tmp t => ops.toList.zipIdx.any fun p => !listed.getD p.2 true && p.1.dst == some t && match p.1.op with | .alloc _ => true | .box _ _ => true | _ => false
  | _ => false
/-- Is there a store to come that may hit what is loaded? -/
def hits (ops : Array Oper) (listed : Array Bool) (σ : St) (v : V) : Bool :=
  match v with
  | .ptr b _ _ => ops.toList.zipIdx.any fun p => !listed.getD p.2 true && match p.1.op with
    | .store _ a _ => !toCome ops listed a && match evalO σ.T a with
      | some (.ptr c _ _) => b == c
      | _ => true
    | _ => false
  | .rptr x _ _ => ops.toList.zipIdx.any fun p => !listed.getD p.2 true && match p.1.op with
    | .store _ a _ => match evalO σ.T a with
      | some (.rptr y _ _) => x == y
      | some (.ptr _ _ _) => false
      | _ => true
    | _ => false
  | _ => false
/-- What an operation yields, in whatever memory. -/
def opW (P : Program) (σ : St) (o : Oper) : Option R := match rowR P σ.F σ.R σ.T o with | some r => some r | none => opV P σ.F σ.T o

inductive Pick where
  | take (i : Nat) (v : V) (K : List (V × V))
  | need (e : E) | split (e : E)
  | none
def pickOp (P : Program) (ops : Array Oper) (listed : Array Bool) (σ : St) : List Nat → Pick
  | [] => .none
  | i :: rest =>
    match ops[i]? with
    | none => .none
    | some o =>
      match guardV ops σ o with
      | some (.inl false) => if Region.free .any ops listed i then .take i undefV [] else pickOp P ops listed σ rest
      | some (.inr e) => .split e
      | some (.inl true) =>
        if Region.free .any ops listed i then
          match opW P σ o with
          | some (.val v) => .take i v []
          | some (.need e) => .need e
          | some (.split e) => .split e
          | none => match o.op with
            | .load t x => match evalO σ.T x with
              | some p => match loadV P σ t p with
                | some v => if hits ops listed σ p then pickOp P ops listed σ rest else .take i v (loadK P σ t p)
                | none => pickOp P ops listed σ rest
              | none => pickOp P ops listed σ rest
            | _ => pickOp P ops listed σ rest
        else pickOp P ops listed σ rest
      | none => pickOp P ops listed σ rest

/-- Is it a function with a body? -/
def enters (P : Program) (f : FuncId) : Bool := match P.funcs[f]? with | some fn => !(fn.name == "runtime.NumGoroutine") && fn.body.isSome | none => false
/-- An operation that changes memory, or calls; `call`: what calls come to. -/
def effS (P : Program) (call : FuncId → List V → St → Option (List Out)) (σ : St) (o : Oper) : Option (List Out) :=
  match o.op with
  | .load t x => match evalO σ.T x with
    | some p => match loadV P σ t p with | some v => some [⟨.val v, σ⟩] | none => none
    | none => none
  | .store t a x => match evalO σ.T a, evalO σ.T x with
    | some p, some v => match storeS P σ t p (toR σ.R v) with
      | some σ' => some [⟨.val undefV, σ'⟩]
      | none => match storeRS P σ t p v with | some σ' => some [⟨.val undefV, σ'⟩] | none => none
    | _, _ => none
  | .alloc t => match zeroV P t with
    | some z => match z.cells with
      | some l => if σ.ok && decide (σ.own ≤ σ.fr) then some [⟨.val (.ptr (.n σ.fr) 0 []), σ.newB (.cells l t)⟩] else none
      | none => none
    | none => none
  | .box t x => match evalO σ.T x with
    | some v => match (toR σ.R v).cells with
      | some l => if σ.ok && decide (σ.own ≤ σ.fr) then some [⟨.val (.ptr (.n σ.fr) 0 []), σ.newB (.cells l t)⟩] else none
      | none => none
    | none => none
  | .buildSlice t n parts => match partsR σ.T parts.toList with
    | some ps => match listV P t n (ps.map fun p => (p.1, toR σ.R p.2)) with
      | some (e, l) => if σ.ok && decide (σ.own ≤ σ.fr) then some [⟨.val (.sl (.n σ.fr) 0 [] (.c n) (.c n)), σ.newB (.cells l e)⟩] else none
      | none => none
    | none => none
  | .slice t x lo hi none => match evalO σ.T x, optO σ.T lo, optO σ.T hi with
    | some (.var v), some l, some u => match sliceS P (σ.share v) t v l u with
      | some (es, σ', y) => some (musts σ es ++ [⟨.val y, σ'⟩])
      | none => none
    | _, _, _ => none
  | .makeMap _ none => if σ.ok && decide (σ.own ≤ σ.fr) then some [⟨.val (.mp (.n σ.fr)), σ.newB (.map [])⟩] else none
  | .insert t m k x | .mapUpdate t m k x => match evalO σ.T m, evalO σ.T k, evalO σ.T x with
    | some vm, some vk, some vx => (insertS P σ t vm vk vx).map fun l => l.map fun τ => ⟨.val undefV, τ⟩
    | _, _, _ => none
  | .lookup t m k ok => match evalO σ.T m, evalO σ.T k with
    | some vm, some vk => (lookupS P σ t vm vk ok).map fun l => l.map fun p => ⟨.val p.2, p.1⟩
    | _, _ => none
  | .makeSlice t x y => match evalO σ.T x, evalO σ.T y with
    | some a, some b => match makeS P σ t a b with
      | some (es, σ', v) => some (musts σ es ++ [⟨.val v, σ'⟩])
      | none => none
    | _, _ => none
  | .call ⟨.builtin .append, args, ts⟩ => match args.toList, ts.toList with
    | [a, b], [t, t'] => if t = t' then match evalO σ.T a, evalO σ.T b with
      | some s, some x => match appendS P σ t s x with
        | some (es, σ', v) => some (musts σ es ++ [⟨.val v, σ'⟩])
        | none => none
      | _, _ => none
      else none
    | _, _ => none
  | .call ⟨.value f, args, _⟩ => match evalO σ.T f, evalOs σ.T args.toList with
    | some (.fn (.func f) first cap), some as => if σ.ok && enters P f then match call f (first.toL ++ as ++ cap.toL) σ with | some l => if σ.M.isEmpty || l.all (fun o => !o.x.isPanic) then some l else none | none => none else none
    | _, _ => none
  | .panic x => match evalO σ.T x with
    | some (.ifc t v) => if σ.M.isEmpty then some [⟨.panic (.ifc t v), σ⟩] else none
    | _ => none
  | _ => none

/-- A slice that takes its row's place. -/
def sliceG (P : Program) (keep : List (Nat × TypeId)) (σ : St) (o : Oper) : Option (List Out) :=
  match keep with
  | [] => none
  | _ => match o.op with
    | .slice t x lo hi none => if keep.contains (σ.T.length, t) then match evalO σ.T x, optO σ.T lo, optO σ.T hi with
      | some (.var v), some l, some u => match sliceS P σ t v l u with
        | some (es, σ', y) => some (musts σ es ++ [⟨.val y, σ'⟩])
        | none => none
      | _, _, _ => none
                               else none
    | _ => none
def effX (P : Program) (keep : List (Nat × TypeId)) (call : FuncId → List V → St → Option (List Out)) (σ : St) (o : Oper) : Option (List Out) :=
  match sliceG P keep σ o with | some r => some r | none => effS P call σ o
def isDefer (o : Oper) : Bool := match o.op with | .defer _ => true | _ => false
/-- A call of a round's function. -/
def yieldOf (σ : St) (o : Oper) : Option (Nat × List V) :=
  match o.op with
  | .call ⟨.value f, args, _⟩ => match evalO σ.T f with
    | some (.yld (.n l)) => (evalOs σ.T args.toList).map fun vs => (l, vs)
    | _ => none
  | _ => none
def setP : List V → List Tmp → List V → List V
  | T, p :: ps, v :: vs => setP (T.set p v) ps vs
  | T, _, _ => T
/-- The state behind a round, for the caller of yield. -/
def St.back (σ : St) (l : Nat) (s : LS) (τ : St) : St := { (τ.upd (.n l) (.loop s l)) with T := σ.T, M := σ.M }
/-- The marks are taken up as a function ends. -/
def dropM : List Nat → St → Option St
  | [], σ => some σ
  | k :: ks, σ => if σ.look (.n k) = some .defd ∧ σ.own ≤ k then dropM ks (σ.drop (.n k)) else none
/-- The names that a value mentions. -/
def V.refs : V → List Nat
  | .ptr (.n k) _ _ | .sl (.n k) _ _ _ _ | .mp (.n k) | .yld (.n k) => [k]
  | .var x | .rsl x | .rptr x _ _ => [x]
  | .fn _ p q | .cons p q => p.refs ++ q.refs
  | .ifc _ x | .agg x | .tup x => x.refs
  | _ => []
def HO.refs : HO → List Nat
  | .cells l _ => l.flatMap V.refs
  | .map l => l.flatMap fun p => p.1.refs ++ p.2.refs
  | _ => []
def liveN (H : List (Bk × HO)) (n0 : Nat) : Nat → List Nat → List Nat → List Nat
  | 0, todo, done => todo ++ done
  | _ + 1, [], done => done
  | f + 1, k :: todo, done => if k < n0 || done.contains k then liveN H n0 f todo done
    else liveN H n0 f ((match H.find? (·.1 == .n k) with | some p => p.2.refs | none => []) ++ todo) (k :: done)
def Bk.isNew (n0 : Nat) : Bk → Bool | .n k => decide (n0 ≤ k) | .g _ => false
/-- What a call has made and nothing shows any more is no longer looked at. -/
def St.gc (σ : St) (n0 : Nat) (v : V) : St :=
  if σ.H.any (fun p => p.1.isNew n0) then
    let live := liveN σ.H n0 2000 (v.refs ++ (σ.H.filter fun p => !p.1.isNew n0).flatMap fun p => p.2.refs) []
    { σ with H := σ.H.filter (fun p => match p.1 with | .n k => decide (k < n0) || live.contains k | .g _ => true), R := σ.R.filter fun p => decide (p.1 < n0) || live.contains p.1 }
  else σ
/-- Behind a range over a function. -/
def afterRange (_σ : St) (k l : Nat) (o : Out) : Option (List Out) :=
  match o.x with
  | .val _ => match o.st.look (.n l) with
    | some (.loop s l') => if l' = l ∧ o.st.own ≤ l then
        let τ : St := { o.st.drop (.n l) with M := if k = l then o.st.M else k :: o.st.M }
        match s with
        | .ready => some [⟨.norm, τ⟩]
        | .ret => some [⟨.ret, τ⟩]
        | .exit id => some [⟨.exit id, τ⟩]
        | .busy => none
      else none
    | _ => none
  | .must e => some [⟨.must e, o.st⟩]
  | _ => none

def go (P : Program) : Nat → Ctx → Job → St → Option (List Out)
  | 0, _, _, _ => none
  | g + 1, Γ, job, σ =>
    match job with
    | .code c =>
      match c with
      | .skip => some [⟨.norm, σ⟩]
      | .label _ => some [⟨.norm, σ⟩]
      | .ret => some [⟨.ret, σ⟩]
      | .exit id => some [⟨.exit id, σ⟩]
      | .seq a b => match go P g Γ (.code a) σ with
        | some l => bindL l fun o => match o.x with
          | .norm => if σ.fr ≤ o.st.fr then go P g Γ (.code b) o.st else none
          | _ => some [o]
        | none => none
      | .block id c => match go P g Γ (.code c) σ with
        | some l => some (l.map fun o => if o.x = .exit id then ⟨.norm, o.st⟩ else o)
        | none => none
      | .scope c => go P g Γ (.code c) σ
      | .cond q a b => match evalO σ.T q with
        | some (.b e) => match decideB σ.F e with
          | some true => go P g Γ (.code a) σ
          | some false => go P g Γ (.code b) σ
          | none => match go P g Γ (.code a) (σ.know e true), go P g Γ (.code b) (σ.know e false) with
            | some x, some y => some (x ++ y)
            | _, _ => none
        | _ => none
      | .loop c => match Γ.loops.find? (fun L => some L.key == firstReg c && L.fits σ.T.length) with
        | some L => match loopIn L c (promS P L.prom σ) with
          | some (σI, ms) => match go P g Γ (.code c) σI with
            | some l => match bindL l (fun o => match o.x with
              | .norm => loopBack L c (promS P L.prom σ).fr (σI.R.drop (L.rows (promS P L.prom σ).fr).length) σI o.st
              | _ => if σI.fr ≤ o.st.fr then some [o] else none) with
              | some r => some (ms ++ r)
              | none => none
            | none => none
          | none => none
        | none => go P g Γ (.unroll c) σ
      | .region _ ops false => go P g Γ (.seq ops (List.range ops.size)) σ
      | .region _ ops true => if P.follows .mixedOrders && Region.noSelect ops && (Γ.rd.isNone || ops.all fun o => !isDefer o) then
          match go P g Γ (.any ops ops.size (Array.replicate ops.size false) []) σ with | some l => some l.eraseDups | none => none else none
      | .rangeFunc f ps a b => match evalO σ.T f with
        | some (.fn (.func fid) first cap) =>
          if σ.ok && (σ.newB .defd).ok && enters P fid then
            match Γ.rd with
            | none =>
              let l := σ.fr + 1
              match go P g { Γ with rounds := (l, ⟨σ.T, ps, a, b⟩) :: Γ.rounds, rd := none } (.fn fid (first.toL ++ [.yld (.n l)] ++ cap.toL)) ((σ.newB .defd).newB (.loop .ready l)) with
              | some r => bindL r (afterRange σ σ.fr l)
              | none => none
            | some q => match σ.look (.n q) with
              | some (.loop _ _) =>
                let l := σ.fr
                match go P g { Γ with rounds := (l, ⟨σ.T, ps, a, b⟩) :: Γ.rounds, rd := none } (.fn fid (first.toL ++ [.yld (.n l)] ++ cap.toL)) (σ.newB (.loop .ready l)) with
                | some r => bindL r (afterRange σ l l)
                | none => none
              | _ => none
          else none
        | _ => none
      | _ => none
    | .round l args =>
      match Γ.rounds.find? (·.1 == l) with
      | none => none
      | some (_, r) => match σ.look (.n l) with
        | some (.loop .ready l') =>
          if σ.ok && decide (l' = l) && Nat.ble (bdL args) σ.fr && decide (args.length = r.ps.size) then
            match go P g { Γ with rd := some l } (.code r.a) { σ with T := setP r.T r.ps.toList args, M := [] } with
            | some la => bindL la fun o => match o.x with
              | .norm => if σ.fr ≤ o.st.fr ∧ o.st.look (.n l) = some (.loop .ready l) then
                  match go P g { Γ with rd := some l } (.code r.b) (o.st.upd (.n l) (.loop .busy l)) with
                  | some lb => bindL lb fun u => if o.st.fr ≤ u.st.fr then
                      match u.x with
                      | .must e => some [⟨.must e, { u.st with T := σ.T, M := σ.M }⟩]
                      | x => if u.st.look (.n l) = some (.loop .busy l) then match x with
                        | .norm => some [⟨.val (.b .tt), σ.back l .ready u.st⟩]
                        | .ret => some [⟨.val (.b .ff), σ.back l .ret u.st⟩]
                        | .exit id => some [⟨.val (.b .ff), σ.back l (.exit id) u.st⟩]
                        | _ => none
                        else none
                    else none
                  | none => none
                else none
              | .must e => if σ.fr ≤ o.st.fr then some [⟨.must e, { o.st with T := σ.T, M := σ.M }⟩] else none
              | _ => none
            | none => none
          else none
        | _ => none
    | .unroll c => match go P g Γ (.code c) σ with
      | some l => bindL l fun o => match o.x with
        | .norm => if σ.fr ≤ o.st.fr then go P g Γ (.unroll c) o.st else none
        | _ => some [o]
      | none => none
    | .op o =>
      if Γ.rd.isSome && isDefer o then none else
      match opW P σ o with
      | some (.val v) => some [⟨.val v, σ⟩]
      | some (.need e) => match go P g Γ (.op o) (σ.know e true) with | some l => some (⟨.must e, σ⟩ :: l) | none => none
      | some (.split e) => match go P g Γ (.op o) (σ.know e true), go P g Γ (.op o) (σ.know e false) with
        | some x, some y => some (x ++ y)
        | _, _ => none
      | none => match yieldOf σ o with
        | some (l, vs) => go P g Γ (.round l vs) σ
        | none => effX P Γ.keep (fun f as τ => go P g Γ (.fn f as) τ) σ o
    | .seq _ [] => some [⟨.norm, σ⟩]
    | .seq ops (i :: rest) =>
      match ops[i]? with
      | none => go P g Γ (.seq ops rest) σ
      | some o => match guardV ops σ o with
        | some (.inl false) => go P g Γ (.seq ops rest) (σ.put o.dst undefV)
        | some (.inr e) => match go P g Γ (.seq ops (i :: rest)) (σ.know e true), go P g Γ (.seq ops (i :: rest)) (σ.know e false) with
          | some x, some y => some (x ++ y)
          | _, _ => none
        | some (.inl true) => match go P g Γ (.op o) σ with
          | some l => bindL l fun u => match u.x with
            | .val v => if σ.fr ≤ u.st.fr then go P g Γ (.seq ops rest) (u.st.putN o.dst v) else none
            | .must _ => some [u]
            | .panic _ => some [u]
            | _ => none
          | none => none
        | none => none
    | .any ops n listed K =>
      let rs := Region.ready .any ops listed
      if rs = [] then some [⟨.norm, σ⟩] else
      match pickOp P ops listed σ rs with
      | .need e => match go P g Γ (.any ops n listed K) (σ.know e true) with | some l => some (⟨.must e, σ⟩ :: l) | none => none
      | .split e => match go P g Γ (.any ops n listed K) (σ.know e true), go P g Γ (.any ops n listed K) (σ.know e false) with
        | some x, some y => some (x ++ y)
        | _, _ => none
      | .take i v K' => match n, ops[i]? with
        | n + 1, some o => go P g Γ (.any ops n (listed.setIfInBounds i true) (K' ++ K)) (σ.putN o.dst v)
        | _, _ => none
      | .none => match n with
        | 0 => none
        | n + 1 => foldL rs fun i => match ops[i]? with
          | some o => match guardV ops σ o with
            | some (.inl false) => go P g Γ (.any ops n (listed.setIfInBounds i true) K) (σ.put o.dst undefV)
            | some (.inl true) => match go P g Γ (.op o) σ with
              | some l => bindL l fun u => match u.x with
                | .val v => if σ.fr ≤ u.st.fr ∧ kept σ.fr u.st K = true then go P g Γ (.any ops n (listed.setIfInBounds i true) K) (u.st.putN o.dst v) else none
                | .must _ => some [u]
                | .panic _ => some [u]
                | _ => none
              | none => none
            | _ => none
          | none => none
    | .fn f args =>
      match Γ.calls.find? (·.f == f) with
      | some q => match q.run args σ with
        | some l => if σ.ok && Nat.ble (bdL args) σ.fr && l.all (fun o => Nat.ble σ.fr o.st.fr) then some (l.map fun o => ⟨o.x, { o.st with T := σ.T, M := σ.M }⟩) else none
        | none => none
      | none => match P.funcs[f]? with
        | some fn => match fn.body with
          | some c => match go P g { Γ with rd := none } (.code c) { σ with T := args ++ List.replicate (fn.ntmps - args.length) undefV, M := [] } with
            | some l => bindL l fun o =>
              if σ.fr ≤ o.st.fr then
                match o.x with
                | .norm | .ret => match dropM o.st.M o.st with
                  | some τ => match resV P τ fn.results.toList with
                    | some vs => some [⟨.val (tupV vs), { τ.gc σ.fr (tupV vs) with T := σ.T, M := σ.M }⟩]
                    | none => none
                  | none => none
                | .panic v => if o.st.M = [] then some [⟨.panic v, { o.st with T := σ.T, M := σ.M }⟩] else none
                | .must e => some [⟨.must e, { o.st with T := σ.T, M := σ.M }⟩]
                | _ => none
              else none
            | none => none
          | none => none
        | none => none
end Go.Proofs.Ytmbhjfembfidnaa.Sx
