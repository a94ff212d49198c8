/- Symbolic terms, their meaning, ranges, what facts decide. -/
import Derived.Calls
import Derived.KernelRfl
import Derived.Below
import Derived.Laws.BitsLemmas
import Derived.Laws.Bits64
import Derived.Laws.BitsAllLaws
namespace Go.Proofs.Ytmbhjfembfidnaa.Sx
open Go

/-- What the names of symbolic terms stand for. -/
structure Env where
  i : Nat → Int
  b : Nat → Bool
  s : Nat → ByteArray
  v : Nat → Value
  n : Nat → Nat
  g : Nat → List (Int × ByteArray) → Int
  h : Nat → List (Int × ByteArray) → Bool
  k : Nat → List (Int × ByteArray) → ByteArray
  l : Nat → List (Int × ByteArray)
  m : Nat → List (Int × ByteArray) → List (Int × ByteArray)
  c : Nat → Loop := fun _ => default

/-- Terms of numbers, truths, strings. -/
inductive E where
  | c (z : Int) | v (n : Nat)
  | add (a b : E) | sub (a b : E) | mul (a b : E) | quo (a b : E) | rem (a b : E)
  | wrap (k : IntKind) (a : E)
  | bits (op : BinOp) (k : IntKind) (a b : E)
  | shl (k : IntKind) (a b : E) | shr (k : IntKind) (a b : E)
  | ite (c a b : E)
  | len (s : E) | byte (s i : E)
  | app (f : Nat) (l : E)
  | tt | ff | bv (n : Nat) | lt (a b : E) | le (a b : E) | eq (a b : E) | seq (a b : E) | not (a : E) | and (a b : E) | or (a b : E) | happ (f : Nat) (l : E)
  | sv (n : Nat) | sapp (f : Nat) (l : E) | lit (l : List UInt8) | ssub (s i j : E) | cat (a b : E)
  | nil | cons (a l : E)
  | lv (n : Nat) | lapp (f : Nat) (l : E) | lcat (a b : E) | nthI (l i : E) | nthS (l i : E) | llen (l : E) | leq (a b : E)
  | lrep (n a : E) | lsub (l i j : E) | lset (l i a : E) | pair (a l : E) | allr (lo hi : Int) (l : E)
  deriving Inhabited
def intB : Int → Int → Bool
  | .ofNat m, .ofNat n => Nat.beq m n
  | .negSucc m, .negSucc n => Nat.beq m n
  | _, _ => false
theorem intB_eq (a b : Int) : intB a b = decide (a = b) := by
  rw [Bool.eq_iff_iff, decide_eq_true_eq]
  cases a <;> cases b <;> simp only [intB, Nat.beq_eq, reduceCtorEq, Bool.false_eq_true, Int.ofNat.injEq, Int.negSucc.injEq]
def kindB (a b : IntKind) : Bool := decide (a = b)
def opB (a b : BinOp) : Bool := decide (a = b)
def bytesB : List UInt8 → List UInt8 → Bool
  | [], [] => true
  | a :: l, b :: m => Nat.beq a.toNat b.toNat && bytesB l m
  | _, _ => false
theorem bytesB_eq : ∀ (a b : List UInt8), bytesB a b = decide (a = b)
  | [], [] => by simp [bytesB]
  | [], _ :: _ => by simp [bytesB]
  | _ :: _, [] => by simp [bytesB]
  | a :: l, b :: m => by
    rw [bytesB, bytesB_eq l m, Bool.eq_iff_iff]
    simp [UInt8.toNat_inj]
def E.is_c (f0 : Int) : E → Bool | .c x0 => intB f0 x0 | _ => false
def E.is_v (f0 : Nat) : E → Bool | .v x0 => Nat.beq f0 x0 | _ => false
def E.is_add (f0 : E → Bool) (f1 : E → Bool) : E → Bool | .add x0 x1 => f0 x0 && f1 x1 | _ => false
def E.is_sub (f0 : E → Bool) (f1 : E → Bool) : E → Bool | .sub x0 x1 => f0 x0 && f1 x1 | _ => false
def E.is_mul (f0 : E → Bool) (f1 : E → Bool) : E → Bool | .mul x0 x1 => f0 x0 && f1 x1 | _ => false
def E.is_quo (f0 : E → Bool) (f1 : E → Bool) : E → Bool | .quo x0 x1 => f0 x0 && f1 x1 | _ => false
def E.is_rem (f0 : E → Bool) (f1 : E → Bool) : E → Bool | .rem x0 x1 => f0 x0 && f1 x1 | _ => false
def E.is_wrap (f0 : IntKind) (f1 : E → Bool) : E → Bool | .wrap x0 x1 => kindB f0 x0 && f1 x1 | _ => false
def E.is_bits (f0 : BinOp) (f1 : IntKind) (f2 : E → Bool) (f3 : E → Bool) : E → Bool | .bits x0 x1 x2 x3 => opB f0 x0 && kindB f1 x1 && f2 x2 && f3 x3 | _ => false
def E.is_shl (f0 : IntKind) (f1 : E → Bool) (f2 : E → Bool) : E → Bool | .shl x0 x1 x2 => kindB f0 x0 && f1 x1 && f2 x2 | _ => false
def E.is_shr (f0 : IntKind) (f1 : E → Bool) (f2 : E → Bool) : E → Bool | .shr x0 x1 x2 => kindB f0 x0 && f1 x1 && f2 x2 | _ => false
def E.is_ite (f0 : E → Bool) (f1 : E → Bool) (f2 : E → Bool) : E → Bool | .ite x0 x1 x2 => f0 x0 && f1 x1 && f2 x2 | _ => false
def E.is_len (f0 : E → Bool) : E → Bool | .len x0 => f0 x0 | _ => false
def E.is_byte (f0 : E → Bool) (f1 : E → Bool) : E → Bool | .byte x0 x1 => f0 x0 && f1 x1 | _ => false
def E.is_app (f0 : Nat) (f1 : E → Bool) : E → Bool | .app x0 x1 => Nat.beq f0 x0 && f1 x1 | _ => false
def E.is_tt : E → Bool | .tt => true | _ => false
def E.is_ff : E → Bool | .ff => true | _ => false
def E.is_bv (f0 : Nat) : E → Bool | .bv x0 => Nat.beq f0 x0 | _ => false
def E.is_lt (f0 : E → Bool) (f1 : E → Bool) : E → Bool | .lt x0 x1 => f0 x0 && f1 x1 | _ => false
def E.is_le (f0 : E → Bool) (f1 : E → Bool) : E → Bool | .le x0 x1 => f0 x0 && f1 x1 | _ => false
def E.is_eq (f0 : E → Bool) (f1 : E → Bool) : E → Bool | .eq x0 x1 => f0 x0 && f1 x1 | _ => false
def E.is_seq (f0 : E → Bool) (f1 : E → Bool) : E → Bool | .seq x0 x1 => f0 x0 && f1 x1 | _ => false
def E.is_not (f0 : E → Bool) : E → Bool | .not x0 => f0 x0 | _ => false
def E.is_and (f0 : E → Bool) (f1 : E → Bool) : E → Bool | .and x0 x1 => f0 x0 && f1 x1 | _ => false
def E.is_or (f0 : E → Bool) (f1 : E → Bool) : E → Bool | .or x0 x1 => f0 x0 && f1 x1 | _ => false
def E.is_happ (f0 : Nat) (f1 : E → Bool) : E → Bool | .happ x0 x1 => Nat.beq f0 x0 && f1 x1 | _ => false
def E.is_sv (f0 : Nat) : E → Bool | .sv x0 => Nat.beq f0 x0 | _ => false
def E.is_sapp (f0 : Nat) (f1 : E → Bool) : E → Bool | .sapp x0 x1 => Nat.beq f0 x0 && f1 x1 | _ => false
def E.is_lit (f0 : List UInt8) : E → Bool | .lit x0 => bytesB f0 x0 | _ => false
def E.is_ssub (f0 : E → Bool) (f1 : E → Bool) (f2 : E → Bool) : E → Bool | .ssub x0 x1 x2 => f0 x0 && f1 x1 && f2 x2 | _ => false
def E.is_cat (f0 : E → Bool) (f1 : E → Bool) : E → Bool | .cat x0 x1 => f0 x0 && f1 x1 | _ => false
def E.is_nil : E → Bool | .nil => true | _ => false
def E.is_cons (f0 : E → Bool) (f1 : E → Bool) : E → Bool | .cons x0 x1 => f0 x0 && f1 x1 | _ => false
def E.is_lv (f0 : Nat) : E → Bool | .lv x0 => Nat.beq f0 x0 | _ => false
def E.is_lapp (f0 : Nat) (f1 : E → Bool) : E → Bool | .lapp x0 x1 => Nat.beq f0 x0 && f1 x1 | _ => false
def E.is_lcat (f0 : E → Bool) (f1 : E → Bool) : E → Bool | .lcat x0 x1 => f0 x0 && f1 x1 | _ => false
def E.is_nthI (f0 : E → Bool) (f1 : E → Bool) : E → Bool | .nthI x0 x1 => f0 x0 && f1 x1 | _ => false
def E.is_nthS (f0 : E → Bool) (f1 : E → Bool) : E → Bool | .nthS x0 x1 => f0 x0 && f1 x1 | _ => false
def E.is_llen (f0 : E → Bool) : E → Bool | .llen x0 => f0 x0 | _ => false
def E.is_leq (f0 : E → Bool) (f1 : E → Bool) : E → Bool | .leq x0 x1 => f0 x0 && f1 x1 | _ => false
def E.is_lrep (f0 : E → Bool) (f1 : E → Bool) : E → Bool | .lrep x0 x1 => f0 x0 && f1 x1 | _ => false
def E.is_lsub (f0 : E → Bool) (f1 : E → Bool) (f2 : E → Bool) : E → Bool | .lsub x0 x1 x2 => f0 x0 && f1 x1 && f2 x2 | _ => false
def E.is_lset (f0 : E → Bool) (f1 : E → Bool) (f2 : E → Bool) : E → Bool | .lset x0 x1 x2 => f0 x0 && f1 x1 && f2 x2 | _ => false
def E.is_pair (f0 : E → Bool) (f1 : E → Bool) : E → Bool | .pair x0 x1 => f0 x0 && f1 x1 | _ => false
def E.is_allr (f0 : Int) (f1 : Int) (f2 : E → Bool) : E → Bool | .allr x0 x1 x2 => intB f0 x0 && intB f1 x1 && f2 x2 | _ => false
/-- Are two terms the same? (In small pieces, for the kernel.) -/
def E.same : E → E → Bool
  | .c a0 => E.is_c a0
  | .v a0 => E.is_v a0
  | .add a0 a1 => E.is_add (a0.same) (a1.same)
  | .sub a0 a1 => E.is_sub (a0.same) (a1.same)
  | .mul a0 a1 => E.is_mul (a0.same) (a1.same)
  | .quo a0 a1 => E.is_quo (a0.same) (a1.same)
  | .rem a0 a1 => E.is_rem (a0.same) (a1.same)
  | .wrap a0 a1 => E.is_wrap a0 (a1.same)
  | .bits a0 a1 a2 a3 => E.is_bits a0 a1 (a2.same) (a3.same)
  | .shl a0 a1 a2 => E.is_shl a0 (a1.same) (a2.same)
  | .shr a0 a1 a2 => E.is_shr a0 (a1.same) (a2.same)
  | .ite a0 a1 a2 => E.is_ite (a0.same) (a1.same) (a2.same)
  | .len a0 => E.is_len (a0.same)
  | .byte a0 a1 => E.is_byte (a0.same) (a1.same)
  | .app a0 a1 => E.is_app a0 (a1.same)
  | .tt => E.is_tt
  | .ff => E.is_ff
  | .bv a0 => E.is_bv a0
  | .lt a0 a1 => E.is_lt (a0.same) (a1.same)
  | .le a0 a1 => E.is_le (a0.same) (a1.same)
  | .eq a0 a1 => E.is_eq (a0.same) (a1.same)
  | .seq a0 a1 => E.is_seq (a0.same) (a1.same)
  | .not a0 => E.is_not (a0.same)
  | .and a0 a1 => E.is_and (a0.same) (a1.same)
  | .or a0 a1 => E.is_or (a0.same) (a1.same)
  | .happ a0 a1 => E.is_happ a0 (a1.same)
  | .sv a0 => E.is_sv a0
  | .sapp a0 a1 => E.is_sapp a0 (a1.same)
  | .lit a0 => E.is_lit a0
  | .ssub a0 a1 a2 => E.is_ssub (a0.same) (a1.same) (a2.same)
  | .cat a0 a1 => E.is_cat (a0.same) (a1.same)
  | .nil => E.is_nil
  | .cons a0 a1 => E.is_cons (a0.same) (a1.same)
  | .lv a0 => E.is_lv a0
  | .lapp a0 a1 => E.is_lapp a0 (a1.same)
  | .lcat a0 a1 => E.is_lcat (a0.same) (a1.same)
  | .nthI a0 a1 => E.is_nthI (a0.same) (a1.same)
  | .nthS a0 a1 => E.is_nthS (a0.same) (a1.same)
  | .llen a0 => E.is_llen (a0.same)
  | .leq a0 a1 => E.is_leq (a0.same) (a1.same)
  | .lrep a0 a1 => E.is_lrep (a0.same) (a1.same)
  | .lsub a0 a1 a2 => E.is_lsub (a0.same) (a1.same) (a2.same)
  | .lset a0 a1 a2 => E.is_lset (a0.same) (a1.same) (a2.same)
  | .pair a0 a1 => E.is_pair (a0.same) (a1.same)
  | .allr a0 a1 a2 => E.is_allr a0 a1 (a2.same)
set_option maxHeartbeats 4000000 in
theorem E.same_iff : ∀ a b : E, a.same b = true ↔ a = b := by
  intro a
  induction a <;> intro b <;> unfold E.same <;> cases b <;> first
    | (simp only [E.is_c, E.is_v, E.is_add, E.is_sub, E.is_mul, E.is_quo, E.is_rem, E.is_wrap, E.is_bits, E.is_shl, E.is_shr, E.is_ite, E.is_len, E.is_byte, E.is_app, E.is_tt, E.is_ff, E.is_bv, E.is_lt, E.is_le, E.is_eq, E.is_seq, E.is_not, E.is_and, E.is_or, E.is_happ, E.is_sv, E.is_sapp, E.is_lit, E.is_ssub, E.is_cat, E.is_nil, E.is_cons, E.is_lv, E.is_lapp, E.is_lcat, E.is_nthI, E.is_nthS, E.is_llen, E.is_leq, E.is_lrep, E.is_lsub, E.is_lset, E.is_pair, E.is_allr, reduceCtorEq, Bool.false_eq_true]; done)
    | (simp_all [E.is_c, E.is_v, E.is_add, E.is_sub, E.is_mul, E.is_quo, E.is_rem, E.is_wrap, E.is_bits, E.is_shl, E.is_shr, E.is_ite, E.is_len, E.is_byte, E.is_app, E.is_bv, E.is_lt, E.is_le, E.is_eq, E.is_seq, E.is_not, E.is_and, E.is_or, E.is_happ, E.is_sv, E.is_sapp, E.is_lit, E.is_ssub, E.is_cat, E.is_cons, E.is_lv, E.is_lapp, E.is_lcat, E.is_nthI, E.is_nthS, E.is_llen, E.is_leq, E.is_lrep, E.is_lsub, E.is_lset, E.is_pair, E.is_allr, intB_eq, kindB, opB, bytesB_eq, Nat.beq_eq, and_assoc]; done)
instance : DecidableEq E := fun a b => match h : a.same b with
  | true => isTrue ((E.same_iff a b).1 h)
  | false => isFalse fun e => by rw [(E.same_iff a b).2 e] at h; cases h

structure D where
  i : Int := 0
  b : Bool := false
  s : ByteArray := ⟨#[]⟩
  l : List (Int × ByteArray) := []

def bitsI (op : BinOp) (k : IntKind) (x y : Int) : Int :=
  let a := BitVec.ofInt k.bits x
  let b := BitVec.ofInt k.bits y
  match op with
  | .and => k.wrap (a &&& b).toNat
  | .or => k.wrap (a ||| b).toNat
  | .xor => k.wrap (a ^^^ b).toNat
  | _ => k.wrap (a &&& ~~~b).toNat

def E.den (ρ : Env) : E → D
  | .c z => { i := z }
  | .v n => { i := ρ.i n }
  | .add a b => { i := (a.den ρ).i + (b.den ρ).i }
  | .sub a b => { i := (a.den ρ).i - (b.den ρ).i }
  | .mul a b => { i := (a.den ρ).i * (b.den ρ).i }
  | .quo a b => { i := (a.den ρ).i.tdiv (b.den ρ).i }
  | .rem a b => { i := (a.den ρ).i.tmod (b.den ρ).i }
  | .wrap k a => { i := k.wrap (a.den ρ).i }
  | .bits op k a b => { i := bitsI op k (a.den ρ).i (b.den ρ).i }
  | .shl k a b => { i := k.wrap ((a.den ρ).i * 2 ^ (min (b.den ρ).i.toNat k.bits)) }
  | .shr k a b => { i := (a.den ρ).i.fdiv (2 ^ (min (b.den ρ).i.toNat k.bits)) }
  | .ite q a b => if (q.den ρ).b then a.den ρ else b.den ρ
  | .len s => { i := ((s.den ρ).s.size : Nat) }
  | .byte s i => { i := (((s.den ρ).s[(i.den ρ).i.toNat]?.map UInt8.toNat).getD 0 : Nat) }
  | .app f l => { i := ρ.g f (l.den ρ).l }
  | .tt => { b := true }
  | .ff => { b := false }
  | .bv n => { b := ρ.b n }
  | .lt a b => { b := decide ((a.den ρ).i < (b.den ρ).i) }
  | .le a b => { b := decide ((a.den ρ).i ≤ (b.den ρ).i) }
  | .eq a b => { b := decide ((a.den ρ).i = (b.den ρ).i) }
  | .seq a b => { b := decide ((a.den ρ).s = (b.den ρ).s) }
  | .not a => { b := !(a.den ρ).b }
  | .and a b => { b := (a.den ρ).b && (b.den ρ).b }
  | .or a b => { b := (a.den ρ).b || (b.den ρ).b }
  | .happ f l => { b := ρ.h f (l.den ρ).l }
  | .sv n => { s := ρ.s n }
  | .sapp f l => { s := ρ.k f (l.den ρ).l }
  | .lit l => { s := ⟨l.toArray⟩ }
  | .ssub s i j => { s := (s.den ρ).s.extract (i.den ρ).i.toNat (j.den ρ).i.toNat }
  | .cat a b => { s := (a.den ρ).s ++ (b.den ρ).s }
  | .nil => {}
  | .cons a l => { l := ((a.den ρ).i, (a.den ρ).s) :: (l.den ρ).l }
  | .lv n => { l := ρ.l n }
  | .lapp f l => { l := ρ.m f (l.den ρ).l }
  | .lcat a b => { l := (a.den ρ).l ++ (b.den ρ).l }
  | .nthI l i => { i := (((l.den ρ).l[(i.den ρ).i.toNat]?).map Prod.fst).getD 0 }
  | .nthS l i => { s := (((l.den ρ).l[(i.den ρ).i.toNat]?).map Prod.snd).getD ⟨#[]⟩ }
  | .llen l => { i := ((l.den ρ).l.length : Nat) }
  | .leq a b => { b := decide ((a.den ρ).l = (b.den ρ).l) }
  | .lrep n a => { l := List.replicate (n.den ρ).i.toNat ((a.den ρ).i, (a.den ρ).s) }
  | .lsub l i j => { l := ((l.den ρ).l.take (j.den ρ).i.toNat).drop (i.den ρ).i.toNat }
  | .lset l i a => { l := (l.den ρ).l.set (i.den ρ).i.toNat ((a.den ρ).i, (a.den ρ).s) }
  | .pair a l => { i := (a.den ρ).i, l := (l.den ρ).l }
  | .allr lo hi l => { b := (l.den ρ).l.all fun p => decide (lo ≤ p.1 ∧ p.1 ≤ hi) }

def E.I (ρ : Env) (e : E) : Int := (e.den ρ).i
def E.B (ρ : Env) (e : E) : Bool := (e.den ρ).b
def E.S (ρ : Env) (e : E) : ByteArray := (e.den ρ).s
def E.L (ρ : Env) (e : E) : List (Int × ByteArray) := (e.den ρ).l

/-- An equation that simp is not to take for one by definition. -/
theorem sm {α : Type} {a b : α} (h : a = b) : a = b := h
section
variable (ρ : Env)
@[simp] theorem I_c (z : Int) : E.I ρ (.c z) = z := sm rfl
@[simp] theorem I_v (n : Nat) : E.I ρ (.v n) = ρ.i n := sm rfl
@[simp] theorem I_add (a b : E) : E.I ρ (.add a b) = a.I ρ + b.I ρ := sm rfl
@[simp] theorem I_sub (a b : E) : E.I ρ (.sub a b) = a.I ρ - b.I ρ := sm rfl
@[simp] theorem I_mul (a b : E) : E.I ρ (.mul a b) = a.I ρ * b.I ρ := sm rfl
@[simp] theorem I_quo (a b : E) : E.I ρ (.quo a b) = (a.I ρ).tdiv (b.I ρ) := sm rfl
@[simp] theorem I_rem (a b : E) : E.I ρ (.rem a b) = (a.I ρ).tmod (b.I ρ) := sm rfl
@[simp] theorem I_wrap (k : IntKind) (a : E) : E.I ρ (.wrap k a) = k.wrap (a.I ρ) := sm rfl
@[simp] theorem I_bits (op : BinOp) (k : IntKind) (a b : E) : E.I ρ (.bits op k a b) = bitsI op k (a.I ρ) (b.I ρ) := sm rfl
@[simp] theorem I_shl (k : IntKind) (a b : E) : E.I ρ (.shl k a b) = k.wrap (a.I ρ * 2 ^ (min (b.I ρ).toNat k.bits)) := sm rfl
@[simp] theorem I_shr (k : IntKind) (a b : E) : E.I ρ (.shr k a b) = (a.I ρ).fdiv (2 ^ (min (b.I ρ).toNat k.bits)) := sm rfl
@[simp] theorem I_ite (c a b : E) : E.I ρ (.ite c a b) = if c.B ρ then a.I ρ else b.I ρ := by
  show (if (c.den ρ).b then a.den ρ else b.den ρ).i = _; unfold E.B E.I; split <;> rfl
@[simp] theorem I_len (s : E) : E.I ρ (.len s) = ((s.S ρ).size : Nat) := sm rfl
@[simp] theorem I_byte (s i : E) : E.I ρ (.byte s i) = (((s.S ρ)[(i.I ρ).toNat]?.map UInt8.toNat).getD 0 : Nat) := sm rfl
@[simp] theorem I_app (f : Nat) (l : E) : E.I ρ (.app f l) = ρ.g f (l.L ρ) := sm rfl
@[simp] theorem B_t : E.B ρ .tt = true := sm rfl
@[simp] theorem B_f : E.B ρ .ff = false := sm rfl
@[simp] theorem B_bv (n : Nat) : E.B ρ (.bv n) = ρ.b n := sm rfl
@[simp] theorem B_lt (a b : E) : E.B ρ (.lt a b) = decide (a.I ρ < b.I ρ) := sm rfl
@[simp] theorem B_le (a b : E) : E.B ρ (.le a b) = decide (a.I ρ ≤ b.I ρ) := sm rfl
@[simp] theorem B_eq (a b : E) : E.B ρ (.eq a b) = decide (a.I ρ = b.I ρ) := sm rfl
@[simp] theorem B_seq (a b : E) : E.B ρ (.seq a b) = decide (a.S ρ = b.S ρ) := sm rfl
@[simp] theorem B_not (a : E) : E.B ρ (.not a) = !a.B ρ := sm rfl
@[simp] theorem B_and (a b : E) : E.B ρ (.and a b) = (a.B ρ && b.B ρ) := sm rfl
@[simp] theorem B_or (a b : E) : E.B ρ (.or a b) = (a.B ρ || b.B ρ) := sm rfl
@[simp] theorem B_happ (f : Nat) (l : E) : E.B ρ (.happ f l) = ρ.h f (l.L ρ) := sm rfl
@[simp] theorem S_sv (n : Nat) : E.S ρ (.sv n) = ρ.s n := sm rfl
@[simp] theorem S_sapp (f : Nat) (l : E) : E.S ρ (.sapp f l) = ρ.k f (l.L ρ) := sm rfl
@[simp] theorem S_lit (l : List UInt8) : E.S ρ (.lit l) = ⟨l.toArray⟩ := sm rfl
@[simp] theorem S_ssub (s i j : E) : E.S ρ (.ssub s i j) = (s.S ρ).extract (i.I ρ).toNat (j.I ρ).toNat := sm rfl
@[simp] theorem S_cat (a b : E) : E.S ρ (.cat a b) = a.S ρ ++ b.S ρ := sm rfl
@[simp] theorem L_nil : E.L ρ .nil = [] := sm rfl
@[simp] theorem L_cons (a l : E) : E.L ρ (.cons a l) = (a.I ρ, a.S ρ) :: l.L ρ := sm rfl
@[simp] theorem L_lv (n : Nat) : E.L ρ (.lv n) = ρ.l n := sm rfl
@[simp] theorem L_lapp (f : Nat) (l : E) : E.L ρ (.lapp f l) = ρ.m f (l.L ρ) := sm rfl
@[simp] theorem L_lcat (a b : E) : E.L ρ (.lcat a b) = a.L ρ ++ b.L ρ := sm rfl
@[simp] theorem B_allr (lo hi : Int) (l : E) : E.B ρ (.allr lo hi l) = (l.L ρ).all fun p => decide (lo ≤ p.1 ∧ p.1 ≤ hi) := sm rfl
@[simp] theorem L_lrep (n a : E) : E.L ρ (.lrep n a) = List.replicate (n.I ρ).toNat (a.I ρ, a.S ρ) := sm rfl
@[simp] theorem L_lsub (l i j : E) : E.L ρ (.lsub l i j) = ((l.L ρ).take (j.I ρ).toNat).drop (i.I ρ).toNat := sm rfl
@[simp] theorem L_lset (l i a : E) : E.L ρ (.lset l i a) = (l.L ρ).set (i.I ρ).toNat (a.I ρ, a.S ρ) := sm rfl
@[simp] theorem I_nthI (l i : E) : E.I ρ (.nthI l i) = (((l.L ρ)[(i.I ρ).toNat]?).map Prod.fst).getD 0 := sm rfl
@[simp] theorem S_nthS (l i : E) : E.S ρ (.nthS l i) = (((l.L ρ)[(i.I ρ).toNat]?).map Prod.snd).getD ⟨#[]⟩ := sm rfl
@[simp] theorem I_llen (l : E) : E.I ρ (.llen l) = ((l.L ρ).length : Nat) := sm rfl
@[simp] theorem B_leq (a b : E) : E.B ρ (.leq a b) = decide (a.L ρ = b.L ρ) := sm rfl
end

/-! ### Ranges -/
structure Rng where
  lo : Option Int := none
  hi : Option Int := none
  deriving Inhabited

def Rng.has (r : Rng) (z : Int) : Prop := (∀ a, r.lo = some a → a ≤ z) ∧ (∀ a, r.hi = some a → z ≤ a)
theorem Rng.has_any (z : Int) : Rng.has {} z := ⟨(fun _ h => by cases h), (fun _ h => by cases h)⟩
def oadd (a b : Option Int) : Option Int := match a, b with | some x, some y => some (x + y) | _, _ => none
def osub (a b : Option Int) : Option Int := match a, b with | some x, some y => some (x - y) | _, _ => none
def omax (a b : Option Int) : Option Int := match a, b with | some x, some y => some (max x y) | some x, none => some x | none, y => y
def omin (a b : Option Int) : Option Int := match a, b with | some x, some y => some (min x y) | some x, none => some x | none, y => y
def Rng.meet (r q : Rng) : Rng := ⟨omax r.lo q.lo, omin r.hi q.hi⟩
def Rng.join (r q : Rng) : Rng :=
  ⟨match r.lo, q.lo with | some x, some y => some (min x y) | _, _ => none, match r.hi, q.hi with | some x, some y => some (max x y) | _, _ => none⟩
theorem Rng.meet_has {r q : Rng} {z : Int} (h : r.has z) (k : q.has z) : (r.meet q).has z := by
  obtain ⟨rl, rh⟩ := r; obtain ⟨ql, qh⟩ := q
  obtain ⟨h1, h2⟩ := h; obtain ⟨k1, k2⟩ := k
  refine ⟨fun a ha => ?_, fun a ha => ?_⟩
  · cases rl <;> cases ql <;> simp only [Rng.meet, omax, Option.some.injEq, reduceCtorEq] at ha h1 k1
    · exact k1 _ ha
    · exact h1 _ ha
    · have := h1 _ rfl; have := k1 _ rfl; omega
  · cases rh <;> cases qh <;> simp only [Rng.meet, omin, Option.some.injEq, reduceCtorEq] at ha h2 k2
    · exact k2 _ ha
    · exact h2 _ ha
    · have := h2 _ rfl; have := k2 _ rfl; omega
theorem Rng.join_has_l {r q : Rng} {z : Int} (h : r.has z) : (r.join q).has z := by
  obtain ⟨rl, rh⟩ := r; obtain ⟨ql, qh⟩ := q
  obtain ⟨h1, h2⟩ := h
  refine ⟨fun a ha => ?_, fun a ha => ?_⟩
  · cases rl <;> cases ql <;> simp only [Rng.join, Option.some.injEq, reduceCtorEq] at ha h1
    have := h1 _ rfl; omega
  · cases rh <;> cases qh <;> simp only [Rng.join, Option.some.injEq, reduceCtorEq] at ha h2
    have := h2 _ rfl; omega
theorem Rng.join_has_r {r q : Rng} {z : Int} (h : q.has z) : (r.join q).has z := by
  obtain ⟨rl, rh⟩ := r; obtain ⟨ql, qh⟩ := q
  obtain ⟨h1, h2⟩ := h
  refine ⟨fun a ha => ?_, fun a ha => ?_⟩
  · cases rl <;> cases ql <;> simp only [Rng.join, Option.some.injEq, reduceCtorEq] at ha h1
    have := h1 _ rfl; omega
  · cases rh <;> cases qh <;> simp only [Rng.join, Option.some.injEq, reduceCtorEq] at ha h2
    have := h2 _ rfl; omega

/-- What a fact says of the range of a term. -/
def factRng (e : E) : E → Rng
  | .le (.c z) x => if x = e then ⟨some z, none⟩ else {}
  | .le x (.c z) => if x = e then ⟨none, some z⟩ else {}
  | .lt (.c z) x => if x = e then ⟨some (z + 1), none⟩ else {}
  | .lt x (.c z) => if x = e then ⟨none, some (z - 1)⟩ else {}
  | .eq x (.c z) => if x = e then ⟨some z, some z⟩ else {}
  | _ => {}
theorem factRng_has {ρ : Env} {e f : E} (h : f.B ρ = true) : (factRng e f).has (e.I ρ) := by
  revert h
  unfold factRng
  split <;> intro h <;> try exact Rng.has_any _
  all_goals
    split
    · rename_i hx
      subst hx
      simp only [B_le, B_lt, B_eq, I_c, decide_eq_true_eq] at h
      refine ⟨fun a ha => ?_, fun a ha => ?_⟩ <;> simp only [Option.some.injEq, reduceCtorEq] at ha <;> omega
    · exact Rng.has_any _

def factsRng (F : List E) (e : E) : Rng := F.foldr (fun f r => (factRng e f).meet r) {}
def holds (ρ : Env) (F : List E) : Prop := ∀ f ∈ F, f.B ρ = true
theorem factsRng_has {ρ : Env} {F : List E} (h : holds ρ F) (e : E) : (factsRng F e).has (e.I ρ) := by
  induction F with
  | nil => exact Rng.has_any _
  | cons f F ih => exact Rng.meet_has (factRng_has (h f (by simp))) (ih fun x hx => h x (by simp [hx]))

def kindRng (k : IntKind) : Rng := match k with
  | .i8 => ⟨some (-128), some 127⟩ | .i16 => ⟨some (-32768), some 32767⟩ | .i32 => ⟨some (-2147483648), some 2147483647⟩
  | .i64 => ⟨some (-9223372036854775808), some 9223372036854775807⟩
  | .u8 => ⟨some 0, some 255⟩ | .u16 => ⟨some 0, some 65535⟩ | .u32 => ⟨some 0, some 4294967295⟩ | .u64 => ⟨some 0, some 18446744073709551615⟩
theorem wrap_has (k : IntKind) (z : Int) : (kindRng k).has (k.wrap z) := by
  cases k <;> refine ⟨fun a ha => ?_, fun a ha => ?_⟩ <;> simp only [kindRng, Option.some.injEq] at ha <;> subst ha <;>
    simp [IntKind.wrap, IntKind.bits, IntKind.signed] <;> (try split) <;> omega
def Rng.within (r q : Rng) : Bool :=
  (match q.lo, r.lo with | none, _ => true | some _, none => false | some a, some b => decide (a ≤ b)) &&
  (match q.hi, r.hi with | none, _ => true | some _, none => false | some a, some b => decide (b ≤ a))
theorem Rng.within_has {r q : Rng} {z : Int} (hw : r.within q = true) (h : r.has z) : q.has z := by
  obtain ⟨rl, rh⟩ := r; obtain ⟨ql, qh⟩ := q
  obtain ⟨h1, h2⟩ := h
  simp only [Rng.within, Bool.and_eq_true] at hw
  obtain ⟨w1, w2⟩ := hw
  refine ⟨fun a ha => ?_, fun a ha => ?_⟩
  · simp only at ha; subst ha
    cases rl with
    | none => simp at w1
    | some b => simp at w1; have := h1 b rfl; omega
  · simp only at ha; subst ha
    cases rh with
    | none => simp at w2
    | some b => simp at w2; have := h2 b rfl; omega
theorem wrap_same {k : IntKind} {z : Int} (h : (kindRng k).has z) : k.wrap z = z := by
  obtain ⟨h1, h2⟩ := h
  cases k <;> simp only [kindRng, Option.some.injEq] at h1 h2 <;> have h1 := h1 _ rfl <;> have h2 := h2 _ rfl <;>
    simp [IntKind.wrap, IntKind.bits, IntKind.signed] <;> (try split) <;> omega

def mulRng (r q : Rng) : Rng :=
  match r.lo, r.hi, q.lo, q.hi with
  | some a, some b, some c, some d => ⟨some (min (min (a * c) (a * d)) (min (b * c) (b * d))), some (max (max (a * c) (a * d)) (max (b * c) (b * d)))⟩
  | some a, _, some c, _ => if 0 ≤ a ∧ 0 ≤ c then ⟨some (a * c), none⟩ else {}
  | _, _, _, _ => {}
theorem tdiv_nonpos {x y : Int} (hx : x ≤ 0) (hy : 0 ≤ y) : x.tdiv y ≤ 0 := by
  have h1 : 0 ≤ (-x).tdiv y := Int.tdiv_nonneg (by omega) hy
  rw [Int.neg_tdiv] at h1
  omega
theorem mul_between {a b z y : Int} (h1 : a ≤ z) (h2 : z ≤ b) : min (a * y) (b * y) ≤ z * y ∧ z * y ≤ max (a * y) (b * y) := by
  rcases Int.le_total 0 y with h | h
  · have := Int.mul_le_mul_of_nonneg_right h1 h; have := Int.mul_le_mul_of_nonneg_right h2 h; omega
  · have := Int.mul_le_mul_of_nonpos_right h1 h; have := Int.mul_le_mul_of_nonpos_right h2 h; omega
theorem mulRng_has {r q : Rng} {x y : Int} (h : r.has x) (k : q.has y) : (mulRng r q).has (x * y) := by
  obtain ⟨rl, rh⟩ := r; obtain ⟨ql, qh⟩ := q
  obtain ⟨h1, h2⟩ := h; obtain ⟨k1, k2⟩ := k
  unfold mulRng
  simp only at h1 h2 k1 k2
  split
  · rename_i a b c d e1 e2 e3 e4
    simp only at e1 e2 e3 e4
    have h1 := h1 _ e1; have h2 := h2 _ e2; have k1 := k1 _ e3; have k2 := k2 _ e4
    have g0 := mul_between (y := y) h1 h2
    have g1 := mul_between (y := a) k1 k2
    have g2 := mul_between (y := b) k1 k2
    rw [Int.mul_comm c a, Int.mul_comm d a, Int.mul_comm y a] at g1
    rw [Int.mul_comm c b, Int.mul_comm d b, Int.mul_comm y b] at g2
    refine ⟨fun z hz => ?_, fun z hz => ?_⟩ <;> simp only [Option.some.injEq] at hz <;> omega
  · simp only at *
    split
    · rename_i h0
      have h1 := h1 _ ‹rl = some _›; have k1 := k1 _ ‹ql = some _›
      refine ⟨fun z hz => ?_, fun z hz => by cases hz⟩
      simp only [Option.some.injEq] at hz
      subst hz
      exact Int.le_trans (Int.mul_le_mul_of_nonneg_right h1 h0.2) (Int.mul_le_mul_of_nonneg_left k1 (by omega : 0 ≤ x))
    · exact Rng.has_any _
  · exact Rng.has_any _

/-- The range of a quotient by a constant above zero, and of a rest by one. -/
def quoRng (r q : Rng) : Rng :=
  match q.lo, q.hi with
  | some c, some d => if 0 < c then
      ⟨match r.lo with | some a => if 0 ≤ a then some 0 else some a | none => none, match r.hi with | some b => if 0 ≤ b then (if c = d then some (b / c) else some b) else some 0 | none => none⟩ else {}
  | _, _ => {}
theorem quoRng_has {r q : Rng} {x y : Int} (h : r.has x) (k : q.has y) : (quoRng r q).has (x.tdiv y) := by
  obtain ⟨rl, rh⟩ := r; obtain ⟨ql, qh⟩ := q
  obtain ⟨h1, h2⟩ := h; obtain ⟨k1, k2⟩ := k
  unfold quoRng
  simp only at h1 h2 k1 k2
  split
  · rename_i c d e1 e2
    simp only at e1 e2
    have k1 := k1 _ e1; have k2 := k2 _ e2
    split
    · rename_i hc
      have hy : 0 < y := by omega
      have up : ∀ b, x ≤ b → 0 ≤ b → x.tdiv y ≤ b := fun b hb h0 => by
        rcases Int.le_total 0 x with hx | hx
        · have := Int.tdiv_le_self y hx; omega
        · have : x.tdiv y ≤ 0 := tdiv_nonpos hx (by omega) ; omega
      have low : 0 ≤ x → 0 ≤ x.tdiv y := fun hx => Int.tdiv_nonneg hx (by omega)
      refine ⟨fun z hz => ?_, fun z hz => ?_⟩
      · cases rl with
        | none => simp at hz
        | some a =>
          have h1 := h1 a rfl
          simp only at hz
          split at hz <;> simp only [Option.some.injEq] at hz <;> subst hz
          · exact low (by omega)
          · rcases Int.le_total 0 x with hx | hx
            · have := low hx; omega
            · have h5 : (-x).tdiv y = - (x.tdiv y) := Int.neg_tdiv x y
              have h6 : (-x).tdiv y ≤ -x := Int.tdiv_le_self y (by omega)
              omega
      · cases rh with
        | none => simp at hz
        | some b =>
          have h2 := h2 b rfl
          simp only at hz
          split at hz
          · rename_i hb
            split at hz <;> simp only [Option.some.injEq] at hz <;> subst hz
            · rename_i hcd
              have hyc : y = c := by omega
              subst hyc
              rcases Int.le_total 0 x with hx | hx
              · rw [Int.tdiv_eq_ediv_of_nonneg hx]
                exact Int.ediv_le_ediv hy h2
              · have e1 : x.tdiv y ≤ 0 := tdiv_nonpos hx (by omega)
                have e2 : 0 ≤ b / y := Int.ediv_nonneg hb (by omega)
                omega
            · exact up _ h2 hb
          · simp only [Option.some.injEq] at hz
            subst hz
            exact tdiv_nonpos (by omega) (by omega)
    · exact Rng.has_any _
  · exact Rng.has_any _
def remRng (r q : Rng) : Rng :=
  match q.lo, q.hi with
  | some c, some d => if 0 < c then
      ⟨match r.lo with | some a => if 0 ≤ a then some 0 else some (1 - d) | none => some (1 - d), some (d - 1)⟩ else {}
  | _, _ => {}
theorem remRng_has {r q : Rng} {x y : Int} (h : r.has x) (k : q.has y) : (remRng r q).has (x.tmod y) := by
  obtain ⟨rl, rh⟩ := r; obtain ⟨ql, qh⟩ := q
  obtain ⟨h1, h2⟩ := h; obtain ⟨k1, k2⟩ := k
  unfold remRng
  simp only at h1 h2 k1 k2
  split
  · rename_i c d e1 e2
    simp only at e1 e2
    have k1 := k1 _ e1; have k2 := k2 _ e2
    split
    · rename_i hc
      have hy : 0 < y := by omega
      have up : x.tmod y < y := Int.tmod_lt_of_pos x hy
      have low : - y < x.tmod y := Int.lt_tmod_of_pos x hy
      refine ⟨fun z hz => ?_, fun z hz => ?_⟩
      · cases rl with
        | none => simp at hz; omega
        | some a =>
          have h1 := h1 a rfl
          simp only at hz
          split at hz <;> simp only [Option.some.injEq] at hz <;> subst hz
          · exact Int.tmod_nonneg y (by omega)
          · omega
      · simp only [Option.some.injEq] at hz; omega
    · exact Rng.has_any _
  · exact Rng.has_any _

/-- What is known of all elements of a list (and 0). -/
def E.base : E → E | .lsub l _ _ => l.base | l => l
def allFact (F : List E) (l : E) : Rng := match F.find? (fun f => match f with | .allr lo hi l' => decide (l' = l ∧ lo ≤ 0 ∧ 0 ≤ hi) | _ => false) with | some (.allr lo hi _) => ⟨some lo, some hi⟩ | _ => {}
theorem base_mem (ρ : Env) : ∀ (l : E) (x : Int × ByteArray), x ∈ l.L ρ → x ∈ l.base.L ρ := by
  intro l
  induction l with
  | lsub l i j ih _ _ =>
    intro x hx
    rw [L_lsub] at hx
    exact ih x (List.mem_of_mem_take (List.mem_of_mem_drop hx))
  | _ => intro x hx; exact hx
theorem allFact_has {ρ : Env} {F : List E} (h : holds ρ F) (l i : E) : (allFact F l.base).has (E.I ρ (.nthI l i)) := by
  unfold allFact
  split
  · rename_i lo hi l' hf
    have h1 := List.mem_of_find?_eq_some hf
    have h2 := List.find?_some hf
    simp only [decide_eq_true_eq] at h2
    obtain ⟨rfl, h3, h4⟩ := h2
    have h5 := h _ h1
    rw [B_allr, List.all_eq_true] at h5
    rw [I_nthI]
    have key : lo ≤ ((Option.map Prod.fst (l.L ρ)[(i.I ρ).toNat]?).getD 0) ∧ ((Option.map Prod.fst (l.L ρ)[(i.I ρ).toNat]?).getD 0) ≤ hi := by
      cases hx : (l.L ρ)[(i.I ρ).toNat]? with
      | none => exact ⟨h3, h4⟩
      | some x => simpa using h5 x (base_mem ρ l x (List.mem_of_getElem? hx))
    exact ⟨fun z hz => by simp only [Option.some.injEq] at hz; omega, fun z hz => by simp only [Option.some.injEq] at hz; omega⟩
  · exact Rng.has_any _
def shrRng (r : Rng) (k : IntKind) : E → Rng
  | .c z => match r.lo, r.hi with
    | some lo, some hi => if 0 ≤ lo then ⟨some 0, some (hi.fdiv (2 ^ (min z.toNat k.bits)))⟩ else {}
    | _, _ => {}
  | _ => {}
theorem shrRng_has {ρ : Env} {r : Rng} {k : IntKind} {x : Int} {b : E} (h : r.has x) : (shrRng r k b).has (x.fdiv (2 ^ (min (b.I ρ).toNat k.bits))) := by
  unfold shrRng
  split
  · rename_i z
    obtain ⟨rl, rh⟩ := r
    obtain ⟨h1, h2⟩ := h
    simp only at h1 h2
    split
    · rename_i lo hi e1 e2
      simp only at e1 e2
      have h1 := h1 _ e1; have h2 := h2 _ e2
      split
      · rename_i hl
        rw [I_c]
        have hp : (0 : Int) < 2 ^ (min z.toNat k.bits) := Int.pow_pos (by omega)
        rw [Int.fdiv_eq_ediv_of_nonneg _ (by omega), Int.fdiv_eq_ediv_of_nonneg _ (by omega)]
        refine ⟨fun a ha => ?_, fun a ha => ?_⟩ <;> simp only [Option.some.injEq] at ha <;> subst ha
        · exact Int.ediv_nonneg (by omega) (by omega)
        · exact Int.ediv_le_ediv hp h2
      · exact Rng.has_any _
    · exact Rng.has_any _
  · exact Rng.has_any _
def rng (F : List E) : E → Rng
  | .c z => ⟨some z, some z⟩
  | .add a b => (factsRng F (.add a b)).meet ⟨oadd (rng F a).lo (rng F b).lo, oadd (rng F a).hi (rng F b).hi⟩
  | .sub a b => (factsRng F (.sub a b)).meet ⟨osub (rng F a).lo (rng F b).hi, osub (rng F a).hi (rng F b).lo⟩
  | .mul a b => (factsRng F (.mul a b)).meet (mulRng (rng F a) (rng F b))
  | .quo a b => (factsRng F (.quo a b)).meet (quoRng (rng F a) (rng F b))
  | .rem a b => (factsRng F (.rem a b)).meet (remRng (rng F a) (rng F b))
  | .wrap k a => (factsRng F (.wrap k a)).meet (kindRng k)
  | .bits op k a b => (factsRng F (.bits op k a b)).meet (kindRng k)
  | .shl k a b => (factsRng F (.shl k a b)).meet (kindRng k)
  | .shr k a b => (factsRng F (.shr k a b)).meet (shrRng (rng F a) k b)
  | .ite c a b => (factsRng F (.ite c a b)).meet ((rng F a).join (rng F b))
  | .len s => (factsRng F (.len s)).meet ⟨some 0, none⟩
  | .llen s => (factsRng F (.llen s)).meet ⟨some 0, none⟩
  | .byte s i => (factsRng F (.byte s i)).meet ⟨some 0, some 255⟩
  | .nthI l i => (factsRng F (.nthI l i)).meet (allFact F l.base)
  | e => factsRng F e

theorem rng_has {ρ : Env} {F : List E} (h : holds ρ F) : ∀ e, (rng F e).has (e.I ρ) := by
  intro e
  induction e with
  | c z => exact ⟨fun a ha => by simp [rng] at ha; simp [ha], fun a ha => by simp [rng] at ha; simp [ha]⟩
  | add a b iha ihb =>
    refine Rng.meet_has (factsRng_has h _) ?_
    obtain ⟨a1, a2⟩ := iha; obtain ⟨b1, b2⟩ := ihb
    refine ⟨fun z hz => ?_, fun z hz => ?_⟩
    · simp only at hz
      cases hx : (rng F a).lo <;> cases hy : (rng F b).lo <;> simp [oadd, hx, hy] at hz
      have := a1 _ hx; have := b1 _ hy; simp; omega
    · simp only at hz
      cases hx : (rng F a).hi <;> cases hy : (rng F b).hi <;> simp [oadd, hx, hy] at hz
      have := a2 _ hx; have := b2 _ hy; simp; omega
  | sub a b iha ihb =>
    refine Rng.meet_has (factsRng_has h _) ?_
    obtain ⟨a1, a2⟩ := iha; obtain ⟨b1, b2⟩ := ihb
    refine ⟨fun z hz => ?_, fun z hz => ?_⟩
    · simp only at hz
      cases hx : (rng F a).lo <;> cases hy : (rng F b).hi <;> simp [osub, hx, hy] at hz
      have := a1 _ hx; have := b2 _ hy; simp; omega
    · simp only at hz
      cases hx : (rng F a).hi <;> cases hy : (rng F b).lo <;> simp [osub, hx, hy] at hz
      have := a2 _ hx; have := b1 _ hy; simp; omega
  | mul a b iha ihb => exact Rng.meet_has (factsRng_has h _) (mulRng_has iha ihb)
  | quo a b iha ihb => exact Rng.meet_has (factsRng_has h _) (quoRng_has iha ihb)
  | rem a b iha ihb => exact Rng.meet_has (factsRng_has h _) (remRng_has iha ihb)
  | wrap k a _ => exact Rng.meet_has (factsRng_has h _) (wrap_has _ _)
  | bits op k a b _ _ => exact Rng.meet_has (factsRng_has h _) (by simp only [I_bits]; unfold bitsI; dsimp only; split <;> exact wrap_has _ _)
  | shl k a b _ _ => exact Rng.meet_has (factsRng_has h _) (wrap_has _ _)
  | shr k a b iha _ => exact Rng.meet_has (factsRng_has h _) (by rw [I_shr]; exact shrRng_has iha)
  | ite c a b _ iha ihb =>
    refine Rng.meet_has (factsRng_has h _) ?_
    rw [I_ite]
    split
    · exact Rng.join_has_l iha
    · exact Rng.join_has_r ihb
  | len s _ => exact Rng.meet_has (factsRng_has h _) ⟨fun a ha => by simp at ha; simp; omega, fun a ha => by simp at ha⟩
  | llen s _ => exact Rng.meet_has (factsRng_has h _) ⟨fun a ha => by simp at ha; simp; omega, fun a ha => by simp at ha⟩
  | byte s i _ _ =>
    refine Rng.meet_has (factsRng_has h _) ?_
    have hb : ((((s.S ρ)[(i.I ρ).toNat]?.map UInt8.toNat).getD 0 : Nat) : Int) ≤ 255 := by
      cases hx : (s.S ρ)[(i.I ρ).toNat]? with
      | none => simp
      | some u => simp; have := u.toNat_lt; omega
    exact ⟨fun a ha => by simp only [Option.some.injEq] at ha; rw [I_byte]; omega, fun a ha => by simp only [Option.some.injEq] at ha; rw [I_byte]; omega⟩
  | nthI l i _ _ => exact Rng.meet_has (factsRng_has h _) (allFact_has h l i)
  | _ => exact factsRng_has h _

/-! ### What facts decide -/
def lhs : E → Option Int | .c z => some z | _ => none
def ltB (F : List E) (a b : E) : Option Bool :=
  let r := rng F a
  let q := rng F b
  match r.hi, q.lo with
  | some x, some y => if x < y then some true else (match r.lo, q.hi with | some x, some y => if y ≤ x then some false else none | _, _ => none)
  | _, _ => (match r.lo, q.hi with | some x, some y => if y ≤ x then some false else none | _, _ => none)
theorem ltB_ok {ρ : Env} {F : List E} (h : holds ρ F) {a b : E} {r : Bool} (hr : ltB F a b = some r) : decide (a.I ρ < b.I ρ) = r := by
  obtain ⟨a1, a2⟩ := rng_has h a
  obtain ⟨b1, b2⟩ := rng_has h b
  unfold ltB at hr
  simp only at hr
  have key : ∀ x y, (rng F a).lo = some x → (rng F b).hi = some y → y ≤ x → decide (a.I ρ < b.I ρ) = false := fun x y hx hy hxy => by
    have := a1 _ hx; have := b2 _ hy; simp; omega
  have key2 : (match (rng F a).lo, (rng F b).hi with | some x, some y => if y ≤ x then some false else none | _, _ => none) = some r → decide (a.I ρ < b.I ρ) = r := fun hh => by
    split at hh
    · split at hh
      · rename_i e1 e2 hxy
        cases hh; exact key _ _ e1 e2 hxy
      · cases hh
    · cases hh
  split at hr
  · rename_i e1 e2
    split at hr
    · cases hr
      have := a2 _ e1; have := b1 _ e2; simp; omega
    · exact key2 hr
  · exact key2 hr

/-- Does a fact of the list say it, or say the contrary? -/
def known (F : List E) (e : E) : Option Bool :=
  if F.contains e then some true else
  if F.contains (.not e) then some false else
  match e with
  | .lt a b => if F.contains (.le b a) || F.contains (.lt b a) || F.contains (.eq a b) || F.contains (.eq b a) then some false else none
  | .le a b => if F.contains (.lt b a) then some false else if F.contains (.lt a b) || F.contains (.eq a b) || F.contains (.eq b a) then some true else none
  | .eq a b => if F.contains (.eq b a) then some true else if F.contains (.lt a b) || F.contains (.lt b a) || F.contains (.not (.eq b a)) then some false else none
  | .seq a b => if F.contains (.seq b a) then some true else if F.contains (.not (.seq b a)) then some false else none
  | _ => none
theorem known_ok {ρ : Env} {F : List E} (h : holds ρ F) {e : E} {r : Bool} (hr : known F e = some r) : e.B ρ = r := by
  have get : ∀ {x : E}, F.contains x = true → x.B ρ = true := fun hx => h _ (by simpa using hx)
  unfold known at hr
  split at hr
  · rename_i hc; cases hr; exact get hc
  split at hr
  · rename_i hc; cases hr; have := get hc; simpa using this
  split at hr
  · split at hr
    · rename_i hc
      simp only [Bool.or_eq_true] at hc
      cases hr
      rcases hc with ((hc | hc) | hc) | hc <;> have := get hc <;> simp at this ⊢ <;> omega
    · cases hr
  · split at hr
    · rename_i hc; cases hr; have := get hc; simp at this ⊢; omega
    · split at hr
      · rename_i hc
        simp only [Bool.or_eq_true] at hc
        cases hr
        rcases hc with (hc | hc) | hc <;> have := get hc <;> simp at this ⊢ <;> omega
      · cases hr
  · split at hr
    · rename_i hc; cases hr; have := get hc; simp at this ⊢; omega
    · split at hr
      · rename_i hc
        simp only [Bool.or_eq_true] at hc
        cases hr
        rcases hc with (hc | hc) | hc <;> have := get hc <;> simp at this ⊢ <;> omega
      · cases hr
  · split at hr
    · rename_i hc; cases hr; have := get hc; simp at this ⊢; exact this.symm
    · split at hr
      · rename_i hc
        cases hr
        have := get hc
        simp at this ⊢
        exact fun e => this e.symm
      · cases hr
  · cases hr

def Rng.inside (r : Rng) (lo hi : Int) : Bool := match r.lo, r.hi with | some a, some b => decide (lo ≤ a ∧ b ≤ hi) | _, _ => false
theorem inside_ok {r : Rng} {lo hi x : Int} (h : r.inside lo hi = true) (hx : r.has x) : lo ≤ x ∧ x ≤ hi := by
  unfold Rng.inside at h
  split at h
  · rename_i a b e1 e2
    simp only [decide_eq_true_eq] at h
    have := hx.1 _ e1
    have := hx.2 _ e2
    omega
  · cases h
/-- Are all elements of a list in a range? -/
def allB (F : List E) (lo hi : Int) : E → Bool
  | .nil => true
  | .cons a l => (rng F a).inside lo hi && allB F lo hi l
  | .lcat a b => allB F lo hi a && allB F lo hi b
  | .lsub l _ _ => allB F lo hi l
  | .lset l _ a => allB F lo hi l && (rng F a).inside lo hi
  | .lrep _ a => (rng F a).inside lo hi
  | l => F.any fun f => match f with | .allr lo' hi' l' => decide (l' = l ∧ lo ≤ lo' ∧ hi' ≤ hi) | _ => false
theorem allF_ok {ρ : Env} {F : List E} (h : holds ρ F) {lo hi : Int} {l : E} (ha : (F.any fun f => match f with | .allr lo' hi' l' => decide (l' = l ∧ lo ≤ lo' ∧ hi' ≤ hi) | _ => false) = true) : ∀ x ∈ l.L ρ, lo ≤ x.1 ∧ x.1 ≤ hi := by
  rw [List.any_eq_true] at ha
  obtain ⟨f, hf, h1⟩ := ha
  split at h1
  · rename_i lo' hi' l'
    simp only [decide_eq_true_eq] at h1
    obtain ⟨rfl, h2, h3⟩ := h1
    have h5 := h _ hf
    rw [B_allr, List.all_eq_true] at h5
    intro x hx
    have := h5 x hx
    simp only [decide_eq_true_eq] at this
    omega
  · cases h1
theorem allB_ok {ρ : Env} {F : List E} (h : holds ρ F) {lo hi : Int} : ∀ {l : E}, allB F lo hi l = true → ∀ x ∈ l.L ρ, lo ≤ x.1 ∧ x.1 ≤ hi := by
  intro l
  induction l with
  | nil => intro _ x hx; simp at hx
  | cons a l _ ih =>
    intro ha x hx
    simp only [allB, Bool.and_eq_true] at ha
    rw [L_cons] at hx
    rcases List.mem_cons.1 hx with rfl | hx
    · exact inside_ok ha.1 (rng_has h a)
    · exact ih ha.2 x hx
  | lcat a b iha ihb =>
    intro ha x hx
    simp only [allB, Bool.and_eq_true] at ha
    rw [L_lcat] at hx
    rcases List.mem_append.1 hx with hx | hx
    · exact iha ha.1 x hx
    · exact ihb ha.2 x hx
  | lsub l i j ih _ _ =>
    intro ha x hx
    simp only [allB] at ha
    rw [L_lsub] at hx
    exact ih ha x (List.mem_of_mem_take (List.mem_of_mem_drop hx))
  | lset l i a ih _ _ =>
    intro ha x hx
    simp only [allB, Bool.and_eq_true] at ha
    rw [L_lset] at hx
    rcases List.mem_or_eq_of_mem_set hx with hx | rfl
    · exact ih ha.1 x hx
    · exact inside_ok ha.2 (rng_has h a)
  | lrep n a _ _ =>
    intro ha x hx
    simp only [allB] at ha
    rw [L_lrep] at hx
    rw [List.eq_of_mem_replicate hx]
    exact inside_ok ha (rng_has h a)
  | _ => intro ha; simp only [allB] at ha; exact allF_ok h ha
/-- At most, and not the same. -/
def lessB (F : List E) (a b : E) : Bool := F.contains (.le a b) && (F.contains (.not (.eq a b)) || F.contains (.not (.eq b a)))
theorem lessB_ok {ρ : Env} {F : List E} (h : holds ρ F) {a b : E} (hl : lessB F a b = true) : a.I ρ < b.I ρ := by
  simp only [lessB, Bool.and_eq_true, Bool.or_eq_true, List.contains_iff_mem] at hl
  have h1 := h _ hl.1
  rcases hl.2 with h2 | h2
  · have h2 := h _ h2; simp at h1 h2; omega
  · have h2 := h _ h2; simp at h1 h2; omega
def isC : E → Option Int | .c z => some z | _ => none
theorem isC_ok {e : E} {z : Int} (h : isC e = some z) : e = .c z := by cases e <;> simp_all [isC]
def ltD (F : List E) (a b : E) : Option Bool := match isC a, isC b with
  | some x, some y => some (decide (x < y))
  | _, _ => if a = b then some false else match known F (.lt a b) with | some r => some r | none => match ltB F a b with | some r => some r | none => if lessB F a b then some true else none
def leD (F : List E) (a b : E) : Option Bool := match isC a, isC b with
  | some x, some y => some (decide (x ≤ y))
  | _, _ => if a = b then some true else match known F (.le a b) with | some r => some r | none => (ltB F b a).map (!·)
def eqD (F : List E) (a b : E) : Option Bool := match isC a, isC b with
  | some x, some y => some (intB x y)
  | _, _ => if a = b then some true else match known F (.eq a b) with
    | some r => some r
    | none => match ltB F a b, ltB F b a with
      | some true, _ => some false
      | _, some true => some false
      | some false, some false => some true
      | _, _ => none
def seqD (F : List E) (a b : E) : Option Bool := if a = b then some true else match a, b with
    | .lit x, .lit y => some (bytesB x y)
    | _, _ => known F (.seq a b)
def decideB (F : List E) : E → Option Bool
  | .tt => some true
  | .ff => some false
  | .not a => (decideB F a).map (!·)
  | .and a b => match decideB F a, decideB F b with
    | some false, _ => some false
    | _, some false => some false
    | some true, some true => some true
    | _, _ => known F (.and a b)
  | .or a b => match decideB F a, decideB F b with
    | some true, _ => some true
    | _, some true => some true
    | some false, some false => some false
    | _, _ => known F (.or a b)
  | .lt a b => ltD F a b
  | .le a b => leD F a b
  | .eq a b => eqD F a b
  | .seq a b => seqD F a b
  | .leq a b => if a = b then some true else known F (.leq a b)
  | .allr lo hi l => match known F (.allr lo hi l) with | some r => some r | none => if allB F lo hi l then some true else none
  | e => known F e

theorem decideB_ok {ρ : Env} {F : List E} (h : holds ρ F) : ∀ {e : E} {r : Bool}, decideB F e = some r → e.B ρ = r := by
  intro e
  induction e with
  | tt => intro r hr; cases hr; rfl
  | ff => intro r hr; cases hr; rfl
  | not a ih =>
    intro r hr
    simp only [decideB, Option.map_eq_some_iff] at hr
    obtain ⟨q, hq, rfl⟩ := hr
    rw [B_not, ih hq]
  | and a b iha ihb =>
    intro r hr
    simp only [decideB] at hr
    split at hr
    · rename_i e1; cases hr; rw [B_and, iha e1]; rfl
    · rename_i e1 _; cases hr; rw [B_and, ihb e1, Bool.and_false]
    · rename_i e1 e2; cases hr; rw [B_and, iha e1, ihb e2]; rfl
    · exact known_ok h hr
  | or a b iha ihb =>
    intro r hr
    simp only [decideB] at hr
    split at hr
    · rename_i e1; cases hr; rw [B_or, iha e1]; rfl
    · rename_i e1 _; cases hr; rw [B_or, ihb e1, Bool.or_true]
    · rename_i e1 e2; cases hr; rw [B_or, iha e1, ihb e2]; rfl
    · exact known_ok h hr
  | lt a b _ _ =>
    intro r hr
    simp only [decideB] at hr
    unfold ltD at hr
    split at hr
    · rename_i e1 e2; cases hr; rw [isC_ok e1, isC_ok e2, B_lt, I_c, I_c]
    split at hr
    · rename_i hab; cases hr; subst hab; simp
    split at hr
    · rename_i hk; cases hr; exact known_ok h hk
    · split at hr
      · rename_i hl; cases hr; exact ltB_ok h hl
      · split at hr
        · rename_i hl; cases hr; have := lessB_ok h hl; simpa using this
        · cases hr
  | le a b _ _ =>
    intro r hr
    simp only [decideB] at hr
    unfold leD at hr
    split at hr
    · rename_i e1 e2; cases hr; rw [isC_ok e1, isC_ok e2, B_le, I_c, I_c]
    split at hr
    · rename_i hab; cases hr; subst hab; simp
    split at hr
    · rename_i hk; cases hr; exact known_ok h hk
    · simp only [Option.map_eq_some_iff] at hr
      obtain ⟨q, hq, rfl⟩ := hr
      have := ltB_ok h hq
      rw [B_le, ← this]
      by_cases hh : b.I ρ < a.I ρ
      · simp [hh]
      · simp [hh]; omega
  | eq a b _ _ =>
    intro r hr
    simp only [decideB] at hr
    unfold eqD at hr
    split at hr
    · rename_i e1 e2; cases hr; rw [isC_ok e1, isC_ok e2, B_eq, I_c, I_c, intB_eq]
    split at hr
    · rename_i hab; cases hr; subst hab; simp
    split at hr
    · rename_i hk; cases hr; exact known_ok h hk
    · split at hr
      · rename_i e1; cases hr; have := ltB_ok h e1; simp at this ⊢; omega
      · rename_i e1 _; cases hr; have := ltB_ok h e1; simp at this ⊢; omega
      · rename_i e1 e2; cases hr; have := ltB_ok h e1; have := ltB_ok h e2; simp at *; omega
      · cases hr
  | seq a b _ _ =>
    intro r hr
    simp only [decideB] at hr
    unfold seqD at hr
    split at hr
    · rename_i hab; cases hr; subst hab; simp
    split at hr
    · cases hr
      rename_i x y _ _ _
      rw [B_seq, S_lit, S_lit, bytesB_eq]
      by_cases hxy : x = y
      · simp [hxy]
      · have : (⟨x.toArray⟩ : ByteArray) ≠ ⟨y.toArray⟩ := fun e => hxy (by simpa using congrArg (fun b => b.data.toList) e)
        simp [hxy, this]
    · exact known_ok h hr
  | allr lo hi l _ =>
    intro r hr
    simp only [decideB] at hr
    split at hr
    · rename_i hk; cases hr; exact known_ok h hk
    · split at hr
      · rename_i ha
        cases hr
        rw [B_allr, List.all_eq_true]
        intro x hx
        simpa using allB_ok h ha x hx
      · cases hr
  | leq a b _ _ =>
    intro r hr
    simp only [decideB] at hr
    split at hr
    · rename_i hab; cases hr; subst hab; simp
    · exact known_ok h hr
  | bv n => intro r hr; exact known_ok h hr
  | happ f l _ => intro r hr; exact known_ok h hr
  | _ => intro r hr; exact known_ok h hr

/-- A fact, as it is kept. -/
def fact : E → Bool → List E
  | .and a b, true => fact a true ++ fact b true
  | .or a b, false => fact a false ++ fact b false
  | .not a, true => fact a false
  | .not a, false => fact a true
  | .lt a b, false => [.le b a]
  | .le a b, false => [.lt b a]
  | e, true => [e]
  | e, false => [.not e]
theorem fact_ok {ρ : Env} : ∀ {e : E} {r : Bool}, e.B ρ = r → holds ρ (fact e r) := by
  intro e
  induction e with
  | and a b iha ihb =>
    intro r h
    cases r with
    | true =>
      simp only [B_and, Bool.and_eq_true] at h
      intro x hx
      simp only [fact] at hx
      rcases List.mem_append.1 hx with hx | hx
      · exact iha h.1 x hx
      · exact ihb h.2 x hx
    | false => intro x hx; simp only [fact, List.mem_singleton] at hx; subst hx; rw [B_not, h]; rfl
  | or a b iha ihb =>
    intro r h
    cases r with
    | false =>
      simp only [B_or, Bool.or_eq_false_iff] at h
      intro x hx
      simp only [fact] at hx
      rcases List.mem_append.1 hx with hx | hx
      · exact iha h.1 x hx
      · exact ihb h.2 x hx
    | true => intro x hx; simp only [fact, List.mem_singleton] at hx; subst hx; exact h
  | not a ih =>
    intro r h
    cases r with
    | true => simp only [fact]; exact ih (by simpa using h)
    | false => simp only [fact]; exact ih (by simpa using h)
  | lt a b _ _ =>
    intro r h x hx
    cases r <;> simp only [fact, List.mem_singleton] at hx <;> subst hx
    · simp at h ⊢; omega
    · exact h
  | le a b _ _ =>
    intro r h x hx
    cases r <;> simp only [fact, List.mem_singleton] at hx <;> subst hx
    · simp at h ⊢; omega
    · exact h
  | _ =>
    intro r h x hx
    cases r <;> simp only [fact, List.mem_singleton] at hx <;> subst hx
    · rw [B_not, h]; rfl
    · exact h
theorem holds_append {ρ : Env} {F G : List E} (h : holds ρ F) (k : holds ρ G) : holds ρ (F ++ G) := fun x hx => by
  rcases List.mem_append.1 hx with hx | hx
  · exact h x hx
  · exact k x hx

/-! ### Terms made simple -/
def mkWrap (F : List E) (k : IntKind) (e : E) : E := match e with
  | .c z => .c (k.wrap z)
  | e => if (rng F e).within (kindRng k) then e else .wrap k e
theorem mkWrap_ok {ρ : Env} {F : List E} (h : holds ρ F) (k : IntKind) (e : E) : (mkWrap F k e).I ρ = k.wrap (e.I ρ) := by
  unfold mkWrap
  split
  · rfl
  · split
    · rename_i hw; exact (wrap_same (Rng.within_has hw (rng_has h _))).symm
    · rfl
def mkAdd : E → E → E
  | .c a, .c b => .c (a + b)
  | a, .c b => if b = 0 then a else match a with | .add x (.c y) => .add x (.c (y + b)) | .sub x (.c y) => .add x (.c (b - y)) | a => .add a (.c b)
  | .c a, b => if a = 0 then b else .add (.c a) b
  | a, b => .add a b
theorem mkAdd_ok (ρ : Env) (a b : E) : (mkAdd a b).I ρ = a.I ρ + b.I ρ := by
  unfold mkAdd
  split
  · rfl
  · split
    · rename_i h; subst h; simp
    · split <;> simp <;> omega
  · split
    · rename_i h; subst h; simp
    · rfl
  · rfl
def mkSub : E → E → E
  | .c a, .c b => .c (a - b)
  | a, .c b => if b = 0 then a else match a with | .add x (.c y) => if y = b then x else .add x (.c (y - b)) | .sub x (.c y) => .sub x (.c (y + b)) | a => .sub a (.c b)
  | a, b => if a = b then .c 0 else .sub a b
theorem mkSub_ok (ρ : Env) (a b : E) : (mkSub a b).I ρ = a.I ρ - b.I ρ := by
  unfold mkSub
  split
  · rfl
  · split
    · rename_i h; subst h; simp
    · split
      · split
        · rename_i h; subst h; simp; try omega
        · simp; try omega
      · simp; try omega
      · rfl
  · split
    · rename_i h; subst h; simp
    · rfl
def mkMul : E → E → E
  | .c a, .c b => .c (a * b)
  | a, .c b => if b = 1 then a else .mul a (.c b)
  | .c a, b => if a = 1 then b else .mul (.c a) b
  | a, b => .mul a b
theorem mkMul_ok (ρ : Env) (a b : E) : (mkMul a b).I ρ = a.I ρ * b.I ρ := by
  unfold mkMul
  split
  · rfl
  · split
    · rename_i h; subst h; simp
    · rfl
  · split
    · rename_i h; subst h; simp
    · rfl
  · rfl
def mkQuo : E → E → E | .c a, .c b => .c (a.tdiv b) | a, b => .quo a b
theorem mkQuo_ok (ρ : Env) (a b : E) : (mkQuo a b).I ρ = (a.I ρ).tdiv (b.I ρ) := by unfold mkQuo; split <;> rfl
def mkRem : E → E → E | .c a, .c b => .c (a.tmod b) | a, b => .rem a b
theorem mkRem_ok (ρ : Env) (a b : E) : (mkRem a b).I ρ = (a.I ρ).tmod (b.I ρ) := by unfold mkRem; split <;> rfl
def mkB (F : List E) (e : E) : E := match decideB F e with | some true => .tt | some false => .ff | none => match e with | .not (.not a) => a | e => e
theorem mkB_ok {ρ : Env} {F : List E} (h : holds ρ F) (e : E) : (mkB F e).B ρ = e.B ρ := by
  unfold mkB
  split
  · rename_i hd; rw [decideB_ok h hd]; rfl
  · rename_i hd; rw [decideB_ok h hd]; rfl
  · split
    · simp
    · rfl
def mkLlen : E → E | .nil => .c 0 | .cons _ l => mkAdd (mkLlen l) (.c 1) | .lcat a b => mkAdd (mkLlen a) (mkLlen b) | e => .llen e
theorem mkLlen_ok (ρ : Env) : ∀ e : E, (mkLlen e).I ρ = ((e.L ρ).length : Nat) := by
  intro e
  induction e <;> simp only [mkLlen] <;> try (exact I_llen ρ _)
  case nil => rfl
  case cons a l _ ih => rw [mkAdd_ok, ih]; simp
  case lcat a b iha ihb => rw [mkAdd_ok, iha, ihb]; simp
def mkLen : E → E | .lit l => .c l.length | e => .len e
theorem mkLen_ok (ρ : Env) (e : E) : (mkLen e).I ρ = ((e.S ρ).size : Nat) := by
  unfold mkLen
  split
  · simp [ByteArray.size]
  · rfl
end Go.Proofs.Ytmbhjfembfidnaa.Sx
