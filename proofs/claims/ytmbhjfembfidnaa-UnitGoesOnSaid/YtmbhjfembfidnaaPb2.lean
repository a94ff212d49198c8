/- Symbolic values, frames and memory. -/
import Derived.Laws.Sem
import Derived.Laws.World
import Derived.Test.YtmbhjfembfidnaaPb0
import Derived.Test.YtmbhjfembfidnaaPb1
namespace Go.Proofs.Ytmbhjfembfidnaa.Sx
open Go

/-- A block: of a package's variable, or by a name. -/
inductive Bk where
  | g (n : Nat) | n (n : Nat)
  deriving Inhabited
def Bk.same : Bk → Bk → Bool | .g a, .g b => Nat.beq a b | .n a, .n b => Nat.beq a b | _, _ => false
theorem Bk.same_iff (a b : Bk) : a.same b = true ↔ a = b := by cases a <;> cases b <;> simp [Bk.same]
instance : DecidableEq Bk := fun a b => match h : a.same b with
  | true => isTrue ((Bk.same_iff a b).1 h)
  | false => isFalse fun e => by rw [(Bk.same_iff a b).2 e] at h; cases h
def Env.blk (ρ : Env) : Bk → Nat | .g n => n | .n k => ρ.n k

inductive V where
  | i (k : IntKind) (e : E) | b (e : E) | s (e : E)
  | ptr (b : Bk) (k : Nat) (l : List (Nat × E)) | nilp
  | sl (b : Bk) (k : Nat) (l : List (Nat × E)) (len cap : E) | nils
  | mp (b : Bk) | nilm | nilf | nili
  | fn (f : Fn) (first cap : V) | ifc (t : TypeId) (v : V)
  | agg (l : V) | tup (l : V) | nil | cons (a l : V)
  | var (n : Nat) | rptr (x k : Nat) (l : List (Nat × E)) | rsl (n : Nat) | yld (q : Bk)
  deriving Inhabited
def offB : List (Nat × E) → List (Nat × E) → Bool
  | [], [] => true
  | p :: l, q :: m => Nat.beq p.1 q.1 && p.2.same q.2 && offB l m
  | _, _ => false
theorem offB_iff : ∀ a b : List (Nat × E), offB a b = true ↔ a = b
  | [], [] => by simp [offB]
  | [], _ :: _ => by simp [offB]
  | _ :: _, [] => by simp [offB]
  | (x, e) :: l, (y, f) :: m => by simp [offB, offB_iff l m, E.same_iff, Nat.beq_eq]
def fnB : Fn → Fn → Bool | .func a, .func b => Nat.beq a b | a, b => decide (a = b)
theorem fnB_iff (a b : Fn) : fnB a b = true ↔ a = b := by unfold fnB; split <;> simp
def V.is_i (f0 : IntKind) (f1 : E) : V → Bool | .i x0 x1 => kindB f0 x0 && E.same f1 x1 | _ => false
def V.is_b (f0 : E) : V → Bool | .b x0 => E.same f0 x0 | _ => false
def V.is_s (f0 : E) : V → Bool | .s x0 => E.same f0 x0 | _ => false
def V.is_ptr (f0 : Bk) (f1 : Nat) (f2 : List (Nat × E)) : V → Bool | .ptr x0 x1 x2 => Bk.same f0 x0 && Nat.beq f1 x1 && offB f2 x2 | _ => false
def V.is_nilp : V → Bool | .nilp => true | _ => false
def V.is_sl (f0 : Bk) (f1 : Nat) (f2 : List (Nat × E)) (f3 : E) (f4 : E) : V → Bool | .sl x0 x1 x2 x3 x4 => Bk.same f0 x0 && Nat.beq f1 x1 && offB f2 x2 && E.same f3 x3 && E.same f4 x4 | _ => false
def V.is_nils : V → Bool | .nils => true | _ => false
def V.is_mp (f0 : Bk) : V → Bool | .mp x0 => Bk.same f0 x0 | _ => false
def V.is_nilm : V → Bool | .nilm => true | _ => false
def V.is_nilf : V → Bool | .nilf => true | _ => false
def V.is_nili : V → Bool | .nili => true | _ => false
def V.is_fn (f0 : Fn) (f1 : V → Bool) (f2 : V → Bool) : V → Bool | .fn x0 x1 x2 => fnB f0 x0 && f1 x1 && f2 x2 | _ => false
def V.is_ifc (f0 : TypeId) (f1 : V → Bool) : V → Bool | .ifc x0 x1 => Nat.beq f0 x0 && f1 x1 | _ => false
def V.is_agg (f0 : V → Bool) : V → Bool | .agg x0 => f0 x0 | _ => false
def V.is_tup (f0 : V → Bool) : V → Bool | .tup x0 => f0 x0 | _ => false
def V.is_nil : V → Bool | .nil => true | _ => false
def V.is_cons (f0 : V → Bool) (f1 : V → Bool) : V → Bool | .cons x0 x1 => f0 x0 && f1 x1 | _ => false
def V.is_var (f0 : Nat) : V → Bool | .var x0 => Nat.beq f0 x0 | _ => false
def V.is_rptr (f0 : Nat) (f1 : Nat) (f2 : List (Nat × E)) : V → Bool | .rptr x0 x1 x2 => Nat.beq f0 x0 && Nat.beq f1 x1 && offB f2 x2 | _ => false
def V.is_rsl (f0 : Nat) : V → Bool | .rsl x0 => Nat.beq f0 x0 | _ => false
def V.is_yld (f0 : Bk) : V → Bool | .yld x0 => Bk.same f0 x0 | _ => false
def V.same : V → V → Bool
  | .i a0 a1 => V.is_i a0 a1
  | .b a0 => V.is_b a0
  | .s a0 => V.is_s a0
  | .ptr a0 a1 a2 => V.is_ptr a0 a1 a2
  | .nilp => V.is_nilp
  | .sl a0 a1 a2 a3 a4 => V.is_sl a0 a1 a2 a3 a4
  | .nils => V.is_nils
  | .mp a0 => V.is_mp a0
  | .nilm => V.is_nilm
  | .nilf => V.is_nilf
  | .nili => V.is_nili
  | .fn a0 a1 a2 => V.is_fn a0 (a1.same) (a2.same)
  | .ifc a0 a1 => V.is_ifc a0 (a1.same)
  | .agg a0 => V.is_agg (a0.same)
  | .tup a0 => V.is_tup (a0.same)
  | .nil => V.is_nil
  | .cons a0 a1 => V.is_cons (a0.same) (a1.same)
  | .var a0 => V.is_var a0
  | .rptr a0 a1 a2 => V.is_rptr a0 a1 a2
  | .rsl a0 => V.is_rsl a0
  | .yld a0 => V.is_yld a0
theorem V.same_iff : ∀ a b : V, a.same b = true ↔ a = b := by
  intro a
  induction a <;> intro b <;> unfold V.same <;> cases b <;> first
    | (simp only [V.is_i, V.is_b, V.is_s, V.is_ptr, V.is_nilp, V.is_sl, V.is_nils, V.is_mp, V.is_nilm, V.is_nilf, V.is_nili, V.is_fn, V.is_ifc, V.is_agg, V.is_tup, V.is_nil, V.is_cons, V.is_var, V.is_rptr, V.is_rsl, V.is_yld, reduceCtorEq, Bool.false_eq_true]; done)
    | (simp_all [V.is_i, V.is_b, V.is_s, V.is_ptr, V.is_sl, V.is_mp, V.is_fn, V.is_ifc, V.is_agg, V.is_tup, V.is_cons, V.is_var, V.is_rptr, V.is_rsl, V.is_yld, kindB, Nat.beq_eq, and_assoc, E.same_iff, Bk.same_iff, offB_iff, fnB_iff]; done)
instance : DecidableEq V := fun a b => match h : a.same b with
  | true => isTrue ((V.same_iff a b).1 h)
  | false => isFalse fun e => by rw [(V.same_iff a b).2 e] at h; cases h

def offN (ρ : Env) (k : Nat) (l : List (Nat × E)) : Nat := l.foldl (fun n p => n + (p.2.I ρ).toNat * p.1) k
def addrD (ρ : Env) (b : Bk) (k : Nat) (l : List (Nat × E)) : Addr := ⟨ρ.blk b, offN ρ k l, none⟩

structure DV where
  v : Value := undef
  l : List Value := []
/-- A value that is a slice, in any case. -/
def asSl : Value → Value | .slice a n c => .slice a n c | _ => .slice none 0 0
def V.dd (ρ : Env) : V → DV
  | .i k e => { v := .int k (e.I ρ) }
  | .b e => { v := .bool (e.B ρ) }
  | .s e => { v := .string (e.S ρ) }
  | .ptr q k l => { v := .pointer (some (addrD ρ q k l)) }
  | .nilp => { v := .pointer none }
  | .sl q k l x y => { v := .slice (some (addrD ρ q k l)) (x.I ρ).toNat (y.I ρ).toNat }
  | .nils => { v := .slice none 0 0 }
  | .mp q => { v := .map (some (ρ.blk q)) }
  | .nilm => { v := .map none }
  | .nilf => { v := .nilFunc }
  | .nili => { v := .nilIface }
  | .fn f x y => { v := .func f (x.dd ρ).l.toArray (y.dd ρ).l.toArray }
  | .ifc t x => { v := .iface t (x.dd ρ).v }
  | .agg l => { v := .agg (l.dd ρ).l.toArray }
  | .tup l => { v := .tuple (l.dd ρ).l.toArray }
  | .nil => {}
  | .cons a l => { l := (a.dd ρ).v :: (l.dd ρ).l }
  | .var n => { v := ρ.v n }
  | .rsl n => { v := asSl (ρ.v n) }
  | .yld q => { v := .func (.yield (ρ.blk q)) #[] #[] }
  | .rptr x k l => { v := match ρ.v x with | .slice (some a) _ _ => .pointer (some ⟨a.block, a.off + offN ρ k l, none⟩) | _ => undef }
def V.den (ρ : Env) (x : V) : Value := (x.dd ρ).v
def V.dens (ρ : Env) (x : V) : List Value := (x.dd ρ).l

def V.toL : V → List V | .cons a l => a :: l.toL | _ => []
def V.ofL : List V → V | [] => .nil | a :: l => .cons a (V.ofL l)
theorem toL_dens (ρ : Env) (x : V) : x.toL.map (V.den ρ) = x.dens ρ := by
  induction x with
  | cons a l _ ih => simp only [V.toL, List.map_cons, ih]; rfl
  | _ => rfl
theorem dens_ofL (ρ : Env) (l : List V) : (V.ofL l).dens ρ = l.map (V.den ρ) := by
  induction l with
  | nil => rfl
  | cons a l ih => show (V.ofL (a :: l)).dens ρ = _; rw [List.map_cons, ← ih]; rfl

section
variable (ρ : Env)
theorem den_i (k : IntKind) (e : E) : V.den ρ (.i k e) = .int k (e.I ρ) := rfl
theorem den_b (e : E) : V.den ρ (.b e) = .bool (e.B ρ) := rfl
theorem den_s (e : E) : V.den ρ (.s e) = .string (e.S ρ) := rfl
theorem den_ptr (b : Bk) (k : Nat) (l : List (Nat × E)) : V.den ρ (.ptr b k l) = .pointer (some (addrD ρ b k l)) := rfl
theorem den_nilp : V.den ρ .nilp = .pointer none := rfl
theorem den_sl (b : Bk) (k : Nat) (l : List (Nat × E)) (n c : E) : V.den ρ (.sl b k l n c) = .slice (some (addrD ρ b k l)) (n.I ρ).toNat (c.I ρ).toNat := rfl
theorem den_nils : V.den ρ .nils = .slice none 0 0 := rfl
theorem den_mp (b : Bk) : V.den ρ (.mp b) = .map (some (ρ.blk b)) := rfl
theorem den_nilm : V.den ρ .nilm = .map none := rfl
theorem den_nilf : V.den ρ .nilf = .nilFunc := rfl
theorem den_nili : V.den ρ .nili = .nilIface := rfl
theorem den_fn (f : Fn) (a b : V) : V.den ρ (.fn f a b) = .func f (a.dens ρ).toArray (b.dens ρ).toArray := rfl
theorem den_ifc (t : TypeId) (x : V) : V.den ρ (.ifc t x) = .iface t (x.den ρ) := rfl
theorem den_agg (l : V) : V.den ρ (.agg l) = .agg (l.dens ρ).toArray := rfl
theorem den_tup (l : V) : V.den ρ (.tup l) = .tuple (l.dens ρ).toArray := rfl
theorem den_var (n : Nat) : V.den ρ (.var n) = ρ.v n := rfl
theorem den_rsl (n : Nat) : V.den ρ (.rsl n) = asSl (ρ.v n) := rfl
theorem den_rptr (x k : Nat) (l : List (Nat × E)) : V.den ρ (.rptr x k l) = match ρ.v x with | .slice (some a) _ _ => .pointer (some ⟨a.block, a.off + offN ρ k l, none⟩) | _ => undef := rfl
theorem den_yld (q : Bk) : V.den ρ (.yld q) = .func (.yield (ρ.blk q)) #[] #[] := rfl
theorem dens_nil : V.dens ρ .nil = [] := rfl
theorem dens_cons (a l : V) : V.dens ρ (.cons a l) = a.den ρ :: l.dens ρ := rfl
end

/-- A constant's term. -/
def ofA : Value → Option V
  | .int k n => some (.i k (.c n))
  | .bool true => some (.b .tt)
  | .bool false => some (.b .ff)
  | .string s => some (.s (.lit s.data.toList))
  | .pointer none => some .nilp
  | .pointer (some ⟨b, o, none⟩) => some (.ptr (.g b) o [])
  | .slice none 0 0 => some .nils
  | .map none => some .nilm
  | .nilFunc => some .nilf
  | .nilIface => some .nili
  | .func f ⟨[]⟩ ⟨[]⟩ => some (.fn f .nil .nil)
  | .tuple ⟨[]⟩ => some (.tup .nil)
  | _ => none
theorem ofA_ok {ρ : Env} {v : Value} {x : V} (h : ofA v = some x) : x.den ρ = v := by
  unfold ofA at h
  split at h <;> cases h <;> first | rfl | skip
def ofAs : List Value → Option V
  | [] => some .nil
  | v :: l => match ofA v, ofAs l with | some a, some b => some (.cons a b) | _, _ => none
theorem ofAs_ok {ρ : Env} : ∀ {l : List Value} {x : V}, ofAs l = some x → x.dens ρ = l
  | [], x, h => by cases h; rfl
  | v :: l, x, h => by
    simp only [ofAs] at h
    split at h
    · cases h
      rename_i h1 h2
      rw [dens_cons, ofA_ok h1, ofAs_ok h2]
    · cases h
def ofV : Value → Option V
  | .agg ⟨cs⟩ => (ofAs cs).map .agg
  | v => ofA v
theorem ofV_ok {ρ : Env} {v : Value} {x : V} (h : ofV v = some x) : x.den ρ = v := by
  unfold ofV at h
  split at h
  · simp only [Option.map_eq_some_iff] at h
    obtain ⟨y, hy, rfl⟩ := h
    rw [den_agg, ofAs_ok hy]
  · exact ofA_ok h

/-- What an operand is. -/
def evalO (T : List V) : Operand → Option V
  | .tmp t => T[t]?
  | .const v => ofV v
  | .global g => some (.ptr (.g g) 0 [])
  | .func f => some (.fn (.func f) .nil .nil)
/-- The mark that a range over a function leaves. -/
def mark (ρ : Env) (k : Nat) : Deferred := { target := .collected (ρ.n k), args := #[] }
def actOf (ρ : Env) (T : List V) (M : List Nat := []) : Act := ⟨(T.map (V.den ρ)).toArray, M.map (mark ρ)⟩
theorem act_eval (ρ : Env) (T : List V) (M : List Nat) : (actOf ρ T M).eval = (actOf ρ T).eval := funext fun x => by cases x <;> rfl
theorem evalO_ok {ρ : Env} {T : List V} {M : List Nat} {x : Operand} {v : V} (h : evalO T x = some v) : (actOf ρ T M).eval x = v.den ρ := by
  cases x with
  | tmp t =>
    simp only [evalO] at h
    simp [Act.eval, actOf, h]
  | const u => exact (ofV_ok h).symm
  | global g => cases h; rfl
  | func f => cases h; rfl
def evalOs (T : List V) : List Operand → Option (List V)
  | [] => some []
  | x :: l => match evalO T x, evalOs T l with | some a, some b => some (a :: b) | _, _ => none
theorem evalOs_ok {ρ : Env} {T : List V} {M : List Nat} : ∀ {l : List Operand} {vs : List V}, evalOs T l = some vs → l.map (actOf ρ T M).eval = vs.map (V.den ρ)
  | [], vs, h => by cases h; rfl
  | x :: l, vs, h => by
    simp only [evalOs] at h
    split at h
    · cases h
      rename_i h1 h2
      simp [evalO_ok h1, evalOs_ok h2]
    · cases h

/-! ### Scope -/
def E.under (n : Nat) : E → Bool
  | .c _ | .tt | .ff | .lit _ | .nil => true
  | .v k | .bv k | .sv k => decide (k < n)
  | .add a b | .sub a b | .mul a b | .quo a b | .rem a b | .bits _ _ a b | .shl _ a b | .shr _ a b | .byte a b | .lt a b | .le a b | .eq a b | .seq a b | .and a b | .or a b | .cat a b | .cons a b => a.under n && b.under n
  | .wrap _ a | .len a | .not a => a.under n
  | .ite q a b | .ssub q a b => q.under n && a.under n && b.under n
  | .app _ l | .happ _ l | .sapp _ l | .lapp _ l | .llen l | .allr _ _ l => l.under n
  | .lv k => decide (k < n)
  | .lcat a b | .nthI a b | .nthS a b | .leq a b | .lrep a b | .pair a b => a.under n && b.under n
  | .lsub q a b | .lset q a b => q.under n && a.under n && b.under n
/-- The first number above all names of a term. -/
def E.bd : E → Nat
  | .c _ | .tt | .ff | .lit _ | .nil => 0
  | .v k | .bv k | .sv k | .lv k => k + 1
  | .add a b | .sub a b | .mul a b | .quo a b | .rem a b | .bits _ _ a b | .shl _ a b | .shr _ a b | .byte a b | .lt a b | .le a b | .eq a b | .seq a b | .and a b | .or a b | .cat a b | .cons a b => max a.bd b.bd
  | .wrap _ a | .len a | .not a => a.bd
  | .ite q a b | .ssub q a b => max q.bd (max a.bd b.bd)
  | .app _ l | .happ _ l | .sapp _ l | .lapp _ l | .llen l | .allr _ _ l => l.bd
  | .lcat a b | .nthI a b | .nthS a b | .leq a b | .lrep a b | .pair a b => max a.bd b.bd
  | .lsub q a b | .lset q a b => max q.bd (max a.bd b.bd)
theorem E.bd_under (n : Nat) : ∀ e : E, e.bd ≤ n → e.under n = true := by
  intro e
  induction e <;> intro h <;> simp only [E.bd, E.under, Bool.and_eq_true, decide_eq_true_eq] at h ⊢ <;> first
    | (simp_all; done)
    | omega
    | (rename_i ih; exact ih (by omega))
    | (rename_i iha ihb; exact ⟨iha (by omega), ihb (by omega)⟩)
    | (rename_i iha ihb ihc; exact ⟨⟨iha (by omega), ihb (by omega)⟩, ihc (by omega)⟩)
structure Ext (m : Nat) (ρ ρ' : Env) : Prop where
  i : ∀ k, k < m → ρ'.i k = ρ.i k
  b : ∀ k, k < m → ρ'.b k = ρ.b k
  s : ∀ k, k < m → ρ'.s k = ρ.s k
  v : ∀ k, k < m → ρ'.v k = ρ.v k
  n : ∀ k, k < m → ρ'.n k = ρ.n k
  g : ρ'.g = ρ.g
  h : ρ'.h = ρ.h
  k : ρ'.k = ρ.k
  l : ∀ k, k < m → ρ'.l k = ρ.l k
  c : ∀ k, k < m → ρ'.c k = ρ.c k
  m : ρ'.m = ρ.m
theorem Ext.refl (n : Nat) (ρ : Env) : Ext n ρ ρ := ⟨fun _ _ => rfl, fun _ _ => rfl, fun _ _ => rfl, fun _ _ => rfl, fun _ _ => rfl, rfl, rfl, rfl, fun _ _ => rfl, fun _ _ => rfl, rfl⟩
theorem Ext.trans {n m : Nat} {a b c : Env} (h : Ext n a b) (k : Ext m b c) (hm : n ≤ m) : Ext n a c :=
  ⟨fun i hi => (k.i i (by omega)).trans (h.i i hi), fun i hi => (k.b i (by omega)).trans (h.b i hi), fun i hi => (k.s i (by omega)).trans (h.s i hi),
   fun i hi => (k.v i (by omega)).trans (h.v i hi), fun i hi => (k.n i (by omega)).trans (h.n i hi), k.g.trans h.g, k.h.trans h.h, k.k.trans h.k, fun i hi => (k.l i (by omega)).trans (h.l i hi), fun i hi => (k.c i (by omega)).trans (h.c i hi), k.m.trans h.m⟩
theorem Ext.mono {n m : Nat} {a b : Env} (h : Ext m a b) (hm : n ≤ m) : Ext n a b := (Ext.refl n a).trans h hm
theorem den_ext {n : Nat} {ρ ρ' : Env} (h : Ext n ρ ρ') : ∀ {e : E}, e.under n = true → e.den ρ' = e.den ρ := by
  intro e
  induction e <;> intro hu <;> simp only [E.under, Bool.and_eq_true, decide_eq_true_eq] at hu <;> simp only [E.den] <;>
    simp_all [h.i, h.b, h.s, h.g, h.h, h.k, h.l, h.m]
theorem I_ext {n : Nat} {ρ ρ' : Env} (h : Ext n ρ ρ') {e : E} (hu : e.under n = true) : e.I ρ' = e.I ρ := congrArg D.i (den_ext h hu)
theorem B_ext {n : Nat} {ρ ρ' : Env} (h : Ext n ρ ρ') {e : E} (hu : e.under n = true) : e.B ρ' = e.B ρ := congrArg D.b (den_ext h hu)
theorem S_ext {n : Nat} {ρ ρ' : Env} (h : Ext n ρ ρ') {e : E} (hu : e.under n = true) : e.S ρ' = e.S ρ := congrArg D.s (den_ext h hu)

def Bk.under (n : Nat) : Bk → Bool | .g _ => true | .n k => decide (k < n)
def offU (n : Nat) (l : List (Nat × E)) : Bool := l.all fun p => p.2.under n
def V.under (n : Nat) : V → Bool
  | .i _ e | .b e | .s e => e.under n
  | .ptr q _ l => q.under n && offU n l
  | .sl q _ l x y => q.under n && offU n l && x.under n && y.under n
  | .mp q | .yld q => q.under n
  | .nilp | .nils | .nilm | .nilf | .nili | .nil => true
  | .fn _ x y | .cons x y => x.under n && y.under n
  | .ifc _ x | .agg x | .tup x => x.under n
  | .var k | .rsl k => decide (k < n)
  | .rptr x _ l => decide (x < n) && offU n l
def Bk.bd : Bk → Nat | .g _ => 0 | .n k => k + 1
def offBd : List (Nat × E) → Nat | [] => 0 | p :: l => max p.2.bd (offBd l)
def V.bd : V → Nat
  | .i _ e | .b e | .s e => e.bd
  | .ptr q _ l => max q.bd (offBd l)
  | .sl q _ l x y => max (max q.bd (offBd l)) (max x.bd y.bd)
  | .mp q | .yld q => q.bd
  | .nilp | .nils | .nilm | .nilf | .nili | .nil => 0
  | .fn _ x y | .cons x y => max x.bd y.bd
  | .ifc _ x | .agg x | .tup x => x.bd
  | .var k | .rsl k => k + 1
  | .rptr x _ l => max (x + 1) (offBd l)
theorem Bk.bd_under {n : Nat} {q : Bk} (h : q.bd ≤ n) : q.under n = true := by
  cases q <;> simp [Bk.bd, Bk.under] at h ⊢
  omega
theorem offBd_under {n : Nat} : ∀ {l : List (Nat × E)}, offBd l ≤ n → offU n l = true
  | [], _ => rfl
  | p :: l, h => by
    simp only [offBd] at h
    simp only [offU, List.all_cons, Bool.and_eq_true]
    exact ⟨E.bd_under n _ (by omega), offBd_under (by omega)⟩
theorem V.bd_under (n : Nat) : ∀ x : V, x.bd ≤ n → x.under n = true := by
  intro x
  induction x <;> intro h <;> simp only [V.bd, V.under, Bool.and_eq_true, decide_eq_true_eq] at h ⊢
  case i => exact E.bd_under n _ h
  case b => exact E.bd_under n _ h
  case s => exact E.bd_under n _ h
  case ptr => exact ⟨Bk.bd_under (by omega), offBd_under (by omega)⟩
  case sl => exact ⟨⟨⟨Bk.bd_under (by omega), offBd_under (by omega)⟩, E.bd_under n _ (by omega)⟩, E.bd_under n _ (by omega)⟩
  case mp => exact Bk.bd_under h
  case fn iha ihb => exact ⟨iha (by omega), ihb (by omega)⟩
  case ifc ih => exact ih h
  case agg ih => exact ih h
  case tup ih => exact ih h
  case cons iha ihb => exact ⟨iha (by omega), ihb (by omega)⟩
  case var => omega
  case rsl => omega
  case rptr => exact ⟨by omega, offBd_under (by omega)⟩
  case yld => exact Bk.bd_under h
theorem blk_ext {n : Nat} {ρ ρ' : Env} (h : Ext n ρ ρ') {b : Bk} (hb : b.under n = true) : ρ'.blk b = ρ.blk b := by
  cases b with
  | g k => rfl
  | n k => exact h.n k (by simpa [Bk.under] using hb)
theorem offN_ext {n : Nat} {ρ ρ' : Env} (h : Ext n ρ ρ') : ∀ {l : List (Nat × E)} {k : Nat}, offU n l = true → offN ρ' k l = offN ρ k l
  | [], _, _ => rfl
  | p :: l, k, hu => by
    simp only [offU, List.all_cons, Bool.and_eq_true] at hu
    show offN ρ' (k + (p.2.I ρ').toNat * p.1) l = offN ρ (k + (p.2.I ρ).toNat * p.1) l
    rw [I_ext h hu.1]
    exact offN_ext h hu.2
theorem dd_ext {n : Nat} {ρ ρ' : Env} (h : Ext n ρ ρ') : ∀ {x : V}, x.under n = true → x.dd ρ' = x.dd ρ := by
  intro x
  induction x <;> intro hu <;> simp only [V.under, Bool.and_eq_true, decide_eq_true_eq] at hu <;> simp only [V.dd, addrD]
  case i => rw [I_ext h hu]
  case b => rw [B_ext h hu]
  case s => rw [S_ext h hu]
  case ptr => rw [blk_ext h hu.1, offN_ext h hu.2]
  case sl => rw [blk_ext h hu.1.1.1, offN_ext h hu.1.1.2, I_ext h hu.1.2, I_ext h hu.2]
  case mp => rw [blk_ext h hu]
  case fn _ _ _ iha ihb => rw [iha hu.1, ihb hu.2]
  case ifc _ _ ih => rw [ih hu]
  case agg _ ih => rw [ih hu]
  case tup _ ih => rw [ih hu]
  case cons _ _ iha ihb => rw [iha hu.1, ihb hu.2]
  case var k => rw [h.v k hu]
  case rsl k => rw [h.v k hu]
  case rptr x k l => rw [h.v x hu.1, offN_ext h hu.2]
  case yld q => rw [blk_ext h hu]
theorem den_extV {n : Nat} {ρ ρ' : Env} (h : Ext n ρ ρ') {x : V} (hu : x.under n = true) : x.den ρ' = x.den ρ := congrArg DV.v (dd_ext h hu)
theorem dens_extL {n : Nat} {ρ ρ' : Env} (h : Ext n ρ ρ') {l : List V} (hu : l.all (V.under n) = true) : l.map (V.den ρ') = l.map (V.den ρ) := by
  apply List.map_congr_left
  intro x hx
  exact den_extV h (by simp only [List.all_eq_true] at hu; exact hu x hx)

/-! ### Memory -/
/-- How far a range over a function has come. -/
inductive LS where
  | ready | busy | ret | exit (id : Nat)
  deriving DecidableEq, Inhabited
def LS.on (s : LS) (r : Loop) : Loop :=
  { r with
    state := match s with | .ready => .ready | .busy => .busy | _ => .done
    pending := match s with | .ret => some .ret | .exit id => some (.exit id) | _ => none }
inductive HO where
  | cells (l : List V) (t : TypeId)
  | loop (s : LS) (k : Nat)
  | defd
  | map (l : List (V × V))
  | tab (l : List (IntKind × Int))
  deriving DecidableEq, Inhabited
/-- A laid table's numbers. -/
def tabV (l : List (IntKind × Int)) : List V := l.map fun p => .i p.1 (.c p.2)
/-- What stands at a block. -/
def HO.at (ρ : Env) (x : Option Obj) : HO → Prop
  | .cells l t => x = some (.cells (l.map (V.den ρ)).toArray t)
  | .loop s k => x = some (.loop (s.on (ρ.c k)))
  | .defd => x = some (.deferred (some []))
  | .map l => x = some (.map (l.zipIdx.map fun p => ({ key := p.1.1.den ρ, val := p.1.2.den ρ, born := p.2 } : MapEntry)).toArray l.length)
  | .tab l => ∃ t fr, x = some (.cells ((tabV l).map (V.den ρ)).toArray t fr)
theorem HO.at_some {ρ : Env} {x : Option Obj} {o : HO} (h : o.at ρ x) : ∃ y, x = some y := by
  cases o
  case tab => obtain ⟨t, fr, h⟩ := h; exact ⟨_, h⟩
  all_goals exact ⟨_, h⟩
def HO.under (n : Nat) : HO → Bool
  | .cells l _ => l.all (V.under n)
  | .loop _ k => decide (k < n)
  | .defd => true
  | .map l => l.all fun p => p.1.under n && p.2.under n
  | .tab _ => true
def bdL : List V → Nat | [] => 0 | v :: l => max v.bd (bdL l)
theorem bdL_under {n : Nat} : ∀ {l : List V}, bdL l ≤ n → l.all (V.under n) = true
  | [], _ => rfl
  | v :: l, h => by
    simp only [bdL] at h
    simp only [List.all_cons, Bool.and_eq_true]
    exact ⟨V.bd_under n v (by omega), bdL_under (by omega)⟩
def bdM : List (V × V) → Nat | [] => 0 | p :: l => max (max p.1.bd p.2.bd) (bdM l)
theorem bdM_under {n : Nat} : ∀ {l : List (V × V)}, bdM l ≤ n → (l.all fun p => p.1.under n && p.2.under n) = true
  | [], _ => rfl
  | p :: l, h => by
    simp only [bdM] at h
    simp only [List.all_cons, Bool.and_eq_true]
    exact ⟨⟨V.bd_under n _ (by omega), V.bd_under n _ (by omega)⟩, bdM_under (by omega)⟩
def HO.bd : HO → Nat | .cells l _ => bdL l | .loop _ k => k + 1 | .defd => 0 | .map l => bdM l | .tab _ => 0
theorem HO.bd_under {n : Nat} {o : HO} (h : o.bd ≤ n) : o.under n = true := by
  cases o with
  | cells l t => exact bdL_under h
  | loop s k => simp only [HO.bd, HO.under, decide_eq_true_eq] at h ⊢; omega
  | defd => rfl
  | map l => exact bdM_under h
  | tab l => rfl
theorem tabV_den (ρ ρ' : Env) (l : List (IntKind × Int)) : (tabV l).map (V.den ρ) = (tabV l).map (V.den ρ') := by
  simp only [tabV, List.map_map]
  refine List.map_congr_left fun p _ => ?_
  simp only [Function.comp, den_i, I_c]
theorem hat_ext {n : Nat} {ρ ρ' : Env} (h : Ext n ρ ρ') {o : HO} (hu : o.under n = true) {x : Option Obj} (hx : o.at ρ x) : o.at ρ' x := by
  cases o with
  | cells l t => simp only [HO.at, dens_extL h hu] at hx ⊢; exact hx
  | loop s k => simp only [HO.at, h.c k (by simpa [HO.under] using hu)] at hx ⊢; exact hx
  | defd => exact hx
  | tab l => simp only [HO.at, tabV_den ρ' ρ] at hx ⊢; exact hx
  | map l =>
    simp only [HO.under, List.all_eq_true, Bool.and_eq_true] at hu
    simp only [HO.at] at hx ⊢
    rw [hx]
    congr 3
    apply List.map_congr_left
    intro p hp
    obtain ⟨h1, h2⟩ := hu p.1 (by
      obtain ⟨q, j⟩ := p
      exact List.mem_of_getElem? (List.mem_zipIdx_iff_getElem?.1 hp))
    rw [den_extV h h1, den_extV h h2]

/-- What kind of value stands in a cell. -/
inductive Kd where
  | i (k : IntKind) | b | s | any | sl
  deriving DecidableEq, Inhabited
def cellV (x : Int × ByteArray) : Kd → Value | .i k => .int k x.1 | .b => .bool (decide (x.1 ≠ 0)) | .s => .string x.2 | .any => undef | .sl => undef
/-- A list as cells: so many kinds, over and over. -/
def cellsV (kds : List Kd) (xs : List (Int × ByteArray)) : List Value := xs.zipIdx.map fun p => cellV p.1 (kds.getD (p.2 % kds.length) .any)
/-- A slice's row: of the call's own, or only read; its elements. -/
structure Row where
  own : Bool
  e : TypeId
  kds : List Kd
  n : E
  xs : E
  deriving DecidableEq, Inhabited
def Row.at (ρ : Env) (base : Nat) (w : World) (v : Value) (r : Row) : Prop :=
  0 ≤ r.n.I ρ ∧ 0 < r.kds.length ∧
  if r.own then OwnAt w base r.e r.kds.length v (r.n.I ρ).toNat (cellsV r.kds (r.xs.L ρ))
  else (r.xs.L ρ).length = (r.n.I ρ).toNat * r.kds.length ∧ (v = .slice none 0 0 ∧ r.n.I ρ = 0 ∨
    ∃ a cap, v = .slice (some a) (r.n.I ρ).toNat cap ∧ a.spot = none ∧ a.block < w.heap.size ∧ ((r.n.I ρ).toNat ≤ cap ∧ cap ≤ maxLen) ∧ ∀ j u, (cellsV r.kds (r.xs.L ρ))[j]? = some u → w.cell? (a.add j) = some u)
def Row.under (n : Nat) (r : Row) : Bool := r.n.under n && r.xs.under n

structure St where
  T : List V
  H : List (Bk × HO) := []
  R : List (Nat × Row) := []
  F : List E := []
  fr : Nat := 0
  W : List Bk := []
  own : Nat := 0
  M : List Nat := []
  deriving DecidableEq, Inhabited
def Bk.own (k : Nat) : Bk → Bool | .g _ => false | .n j => decide (k ≤ j)
def St.look (σ : St) (b : Bk) : Option HO := (σ.H.find? (·.1 == b)).map (·.2)

/-- What the functions' names stand for. -/
structure Tb where
  tab : (Nat → List (Int × ByteArray) → Int) → (Nat → List (Int × ByteArray) → Bool) → (Nat → List (Int × ByteArray) → ByteArray) → (Nat → List (Int × ByteArray) → List (Int × ByteArray)) → Prop
  /-- Blocks that rows may lie in, besides new ones. -/
  A : Nat → Prop := fun _ => False
  /-- What holds of the memory at the beginning. -/
  J : World → Prop := fun _ => True
variable {TT : Tb}
/-- The memory w is as σ tells, begun at w0. -/
structure Sees (TT : Tb) (ρ : Env) (σ : St) (w0 w : World) : Prop where
  os : w.os = w0.os
  tape : w.tape = w0.tape
  output : w.output = w0.output
  size : w0.heap.size ≤ w.heap.size
  keep : ∀ k, k < w0.heap.size → (∀ b ∈ σ.W, ρ.blk b ≠ k) → w.heap[k]? = w0.heap[k]?
  blk : ∀ p ∈ σ.H, p.2.at ρ w.heap[ρ.blk p.1]?
  sep : ∀ p ∈ σ.H, ∀ q ∈ σ.H, ρ.blk p.1 = ρ.blk q.1 → p.1 = q.1
  own : ∀ p ∈ σ.H, p.1.own σ.own = true → w0.heap.size ≤ ρ.blk p.1
  row : ∀ p ∈ σ.R, p.2.at ρ w0.heap.size w (ρ.v p.1)
  rsep : ∀ p ∈ σ.R, ∀ b, (ρ.v p.1).ownBlock = some b → ∀ q ∈ σ.H, ρ.blk q.1 ≠ b
  rown : ∀ p ∈ σ.R, p.2.own = true → ∀ q ∈ σ.R, p.1 ≠ q.1 → ∀ b, (ρ.v p.1).ownBlock = some b → (ρ.v q.1).ownBlock ≠ some b
  fact : holds ρ σ.F
  tab : TT.tab ρ.g ρ.h ρ.k ρ.m ∧ TT.J w0
  src : ∀ p ∈ σ.R, ∀ b, (ρ.v p.1).ownBlock = some b → w0.heap.size ≤ b ∨ TT.A b
theorem look_mem {σ : St} {b : Bk} {o : HO} (h : σ.look b = some o) : (b, o) ∈ σ.H := by
  unfold St.look at h
  rw [Option.map_eq_some_iff] at h
  obtain ⟨p, hp, rfl⟩ := h
  have h1 := List.mem_of_find?_eq_some hp
  have h2 := List.find?_some hp
  simp at h2
  subst h2
  exact h1
def bdE : List E → Nat | [] => 0 | e :: l => max e.bd (bdE l)
theorem bdE_under {n : Nat} : ∀ {l : List E}, bdE l ≤ n → ∀ f ∈ l, f.under n = true
  | [], _, f, hf => by cases hf
  | e :: l, h, f, hf => by
    simp only [bdE] at h
    rcases List.mem_cons.1 hf with rfl | hf
    · exact E.bd_under n _ (by omega)
    · exact bdE_under (by omega) f hf
def bdH : List (Bk × HO) → Nat | [] => 0 | p :: l => max (max p.1.bd p.2.bd) (bdH l)
theorem bdH_under {n : Nat} : ∀ {l : List (Bk × HO)}, bdH l ≤ n → ∀ p ∈ l, p.1.under n = true ∧ p.2.under n = true
  | [], _, p, hp => by cases hp
  | q :: l, h, p, hp => by
    simp only [bdH] at h
    rcases List.mem_cons.1 hp with rfl | hp
    · exact ⟨Bk.bd_under (by omega), HO.bd_under (by omega)⟩
    · exact bdH_under (by omega) p hp
def bdR : List (Nat × Row) → Nat | [] => 0 | p :: l => max (max (p.1 + 1) (max p.2.n.bd p.2.xs.bd)) (bdR l)
theorem bdR_under {n : Nat} : ∀ {l : List (Nat × Row)}, bdR l ≤ n → ∀ p ∈ l, p.1 < n ∧ p.2.under n = true
  | [], _, p, hp => by cases hp
  | q :: l, h, p, hp => by
    simp only [bdR] at h
    rcases List.mem_cons.1 hp with rfl | hp
    · exact ⟨by omega, by simp only [Row.under, Bool.and_eq_true]; exact ⟨E.bd_under n _ (by omega), E.bd_under n _ (by omega)⟩⟩
    · exact bdR_under (by omega) p hp
/-- Are all names below the next one? -/
def St.ok (σ : St) : Bool := Nat.ble (bdL σ.T) σ.fr && Nat.ble (bdH σ.H) σ.fr && Nat.ble (bdE σ.F) σ.fr && σ.W.all (Bk.under σ.fr) && Nat.ble (bdR σ.R) σ.fr && σ.M.all (fun k => decide (k < σ.fr))
theorem row_ext {ρ ρ' : Env} {n : Nat} (hx : Ext n ρ ρ') {r : Row} (hu : r.under n = true) {base : Nat} {w : World} {v : Value} (h : r.at ρ base w v) : r.at ρ' base w v := by
  simp only [Row.under, Bool.and_eq_true] at hu
  have hL : r.xs.L ρ' = r.xs.L ρ := congrArg D.l (den_ext hx hu.2)
  unfold Row.at at h ⊢
  rw [I_ext hx hu.1, hL]
  exact h
theorem row_world {ρ : Env} {r : Row} {base : Nat} {w w' : World} {v : Value} (h : r.at ρ base w v) (hs : w.heap.size ≤ w'.heap.size) (hb : ∀ b, v.ownBlock = some b → w'.heap[b]? = w.heap[b]?) : r.at ρ base w' v := by
  unfold Row.at at h ⊢
  obtain ⟨h0, h1, h2⟩ := h
  refine ⟨h0, h1, ?_⟩
  split
  · rename_i ho
    rw [if_pos ho] at h2
    exact h2.world hb
  · rename_i ho
    rw [if_neg ho] at h2
    obtain ⟨e1, e2⟩ := h2
    refine ⟨e1, ?_⟩
    rcases e2 with e2 | ⟨a, cap, hv, hsp, hlt, hnc, hc⟩
    · exact .inl e2
    · refine .inr ⟨a, cap, hv, hsp, by omega, hnc, fun j u hj => ?_⟩
      rw [← hc j u hj]
      have : (a.add j).block = a.block := by unfold Addr.add; split <;> rfl
      refine World.cell?_of_block (w := w) ?_
      rw [this]
      exact hb a.block (by rw [hv]; rfl)
theorem row_lt {ρ : Env} {r : Row} {base : Nat} {w : World} {v : Value} (h : r.at ρ base w v) {b : Nat} (hb : v.ownBlock = some b) : b < w.heap.size := by
  unfold Row.at at h
  obtain ⟨-, -, h2⟩ := h
  split at h2
  · exact (h2.lt b hb).2
  · obtain ⟨-, e2⟩ := h2
    rcases e2 with ⟨rfl, -⟩ | ⟨a, cap, hv, hsp, hlt, -, hc⟩
    · cases hb
    · rw [hv] at hb; cases hb; exact hlt
theorem sees_ext {ρ ρ' : Env} {σ : St} {w0 w : World} {n : Nat} (hx : Ext n ρ ρ') (hH : ∀ p ∈ σ.H, p.1.under n = true ∧ p.2.under n = true) (hF : ∀ f ∈ σ.F, f.under n = true) (hW : ∀ b ∈ σ.W, b.under n = true) (hR : ∀ p ∈ σ.R, p.1 < n ∧ p.2.under n = true) (h : Sees TT ρ σ w0 w) : Sees TT ρ' σ w0 w := by
  refine ⟨h.os, h.tape, h.output, h.size, fun k hk hb => h.keep k hk fun b hbW => ?_, fun p hp => ?_, fun p hp q hq he => ?_, fun p hp ho => ?_, fun p hp => ?_, fun p hp b hb q hq => ?_, fun p hp ho q hq hne b hb => ?_, fun f hf => ?_, by rw [hx.g, hx.h, hx.k, hx.m]; exact h.tab, fun p hp b hb => by rw [hx.v _ (hR p hp).1] at hb; exact h.src p hp b hb⟩
  · have := hb b hbW
    rwa [blk_ext hx (hW b hbW)] at this
  · rw [blk_ext hx (hH p hp).1]; exact hat_ext hx (hH p hp).2 (h.blk p hp)
  · rw [blk_ext hx (hH p hp).1, blk_ext hx (hH q hq).1] at he; exact h.sep p hp q hq he
  · rw [blk_ext hx (hH p hp).1]; exact h.own p hp ho
  · rw [hx.v _ (hR p hp).1]; exact row_ext hx (hR p hp).2 (h.row p hp)
  · rw [hx.v _ (hR p hp).1] at hb; rw [blk_ext hx (hH q hq).1]; exact h.rsep p hp b hb q hq
  · rw [hx.v _ (hR p hp).1] at hb; rw [hx.v _ (hR q hq).1]; exact h.rown p hp ho q hq hne b hb
  · rw [B_ext hx (hF f hf)]; exact h.fact f hf
theorem ok_parts {σ : St} (h : σ.ok = true) : σ.T.all (V.under σ.fr) = true ∧ (∀ p ∈ σ.H, p.1.under σ.fr = true ∧ p.2.under σ.fr = true) ∧ (∀ f ∈ σ.F, f.under σ.fr = true) ∧ (∀ b ∈ σ.W, b.under σ.fr = true) ∧ (∀ p ∈ σ.R, p.1 < σ.fr ∧ p.2.under σ.fr = true) := by
  simp only [St.ok, Bool.and_eq_true, List.all_eq_true, decide_eq_true_eq, Nat.ble_eq] at h
  obtain ⟨⟨⟨⟨⟨h1, h2⟩, h3⟩, h4⟩, h5⟩, -⟩ := h
  exact ⟨bdL_under h1, bdH_under h2, bdE_under h3, h4, bdR_under h5⟩
theorem ok_M {σ : St} (h : σ.ok = true) : σ.M.all (fun k => decide (k < σ.fr)) = true := by
  simp only [St.ok, Bool.and_eq_true] at h
  exact h.2
theorem Sees.below {ρ : Env} {σ : St} {w0 w : World} (h : Sees TT ρ σ w0 w) (hW : σ.W = []) : RowKit.Below w0.heap.size w0 w :=
  ⟨h.os, h.tape, h.output, h.size, fun k hk => h.keep k hk (by rw [hW]; simp)⟩
theorem Sees.start (ρ : Env) (σ : St) (w : World) (hH : σ.H = []) (_hW : σ.W = []) (hR : σ.R = []) (hF : holds ρ σ.F) (hT : TT.tab ρ.g ρ.h ρ.k ρ.m ∧ TT.J w) : Sees TT ρ σ w w :=
  ⟨rfl, rfl, rfl, Nat.le_refl _, fun _ _ _ => rfl, by simp [hH], by simp [hH], by simp [hH], by simp [hR], by simp [hR], by simp [hR], hF, hT, by simp [hR]⟩
theorem Sees.drew {ρ : Env} {σ : St} {w0 w : World} (h : Sees TT ρ σ w0 w) (n : Nat) : Sees TT ρ σ w0 { w with drawn := n } :=
  ⟨h.os, h.tape, h.output, h.size, h.keep, h.blk, h.sep, h.own, fun p hp => row_world (h.row p hp) (Nat.le_refl _) (fun _ _ => rfl), h.rsep, h.rown, h.fact, h.tab, h.src⟩
theorem Sees.withT {ρ : Env} {σ : St} {w0 w : World} (h : Sees TT ρ σ w0 w) (T : List V) : Sees TT ρ { σ with T := T } w0 w :=
  ⟨h.os, h.tape, h.output, h.size, h.keep, h.blk, h.sep, h.own, h.row, h.rsep, h.rown, h.fact, h.tab, h.src⟩
theorem Sees.withF {ρ : Env} {σ : St} {w0 w : World} (h : Sees TT ρ σ w0 w) {F : List E} (hF : holds ρ F) : Sees TT ρ { σ with F := F } w0 w :=
  ⟨h.os, h.tape, h.output, h.size, h.keep, h.blk, h.sep, h.own, h.row, h.rsep, h.rown, hF, h.tab, h.src⟩
end Go.Proofs.Ytmbhjfembfidnaa.Sx
