/- Symbolic terms, their meaning, ranges, what facts decide. -/
import Derived.Calls
import Derived.KernelRfl
import Derived.Below
import Derived.Laws.BitsLemmas
import Derived.Laws.Bits64
import Derived.Laws.BitsAllLaws
namespace Go.Proofs.YtkggfeemjabdeaaGreatDoor.Sx
open Go

/-- What the names of symbolic terms stand for. -/
structure Env where
  i : Nat → Int
  b : Nat → Bool
  s : Nat → ByteArray
  v : Nat → Value
  n : Nat → Nat
  g : Nat → List (Int × ByteArray) → Int
  h : Nat → List (Int × ByteArray) → Bool
  k : Nat → List (Int × ByteArray) → ByteArray
  l : Nat → List (Int × ByteArray)
  m : Nat → List (Int × ByteArray) → List (Int × ByteArray)

/-- Terms of numbers, truths, strings. -/
inductive E where
  | c (z : Int) | v (n : Nat)
  | add (a b : E) | sub (a b : E) | mul (a b : E) | quo (a b : E) | rem (a b : E)
  | wrap (k : IntKind) (a : E)
  | bits (op : BinOp) (k : IntKind) (a b : E)
  | shl (k : IntKind) (a b : E) | shr (k : IntKind) (a b : E)
  | ite (c a b : E)
  | len (s : E) | byte (s i : E)
  | app (f : Nat) (l : E)
  | tt | ff | bv (n : Nat) | lt (a b : E) | le (a b : E) | eq (a b : E) | seq (a b : E) | not (a : E) | and (a b : E) | or (a b : E) | happ (f : Nat) (l : E)
  | sv (n : Nat) | sapp (f : Nat) (l : E) | lit (l : List UInt8) | ssub (s i j : E) | cat (a b : E)
  | nil | cons (a l : E)
  | lv (n : Nat) | lapp (f : Nat) (l : E) | lcat (a b : E) | nthI (l i : E) | nthS (l i : E) | llen (l : E) | leq (a b : E)
  | lrep (n a : E) | lsub (l i j : E) | lset (l i a : E) | pair (a l : E) | allr (lo hi : Int) (l : E)
  deriving DecidableEq, Inhabited

structure D where
  i : Int := 0
  b : Bool := false
  s : ByteArray := ⟨#[]⟩
  l : List (Int × ByteArray) := []

def bitsI (op : BinOp) (k : IntKind) (x y : Int) : Int :=
  let a := BitVec.ofInt k.bits x
  let b := BitVec.ofInt k.bits y
  match op with
  | .and => k.wrap (a &&& b).toNat
  | .or => k.wrap (a ||| b).toNat
  | .xor => k.wrap (a ^^^ b).toNat
  | _ => k.wrap (a &&& ~~~b).toNat

def E.den (ρ : Env) : E → D
  | .c z => { i := z }
  | .v n => { i := ρ.i n }
  | .add a b => { i := (a.den ρ).i + (b.den ρ).i }
  | .sub a b => { i := (a.den ρ).i - (b.den ρ).i }
  | .mul a b => { i := (a.den ρ).i * (b.den ρ).i }
  | .quo a b => { i := (a.den ρ).i.tdiv (b.den ρ).i }
  | .rem a b => { i := (a.den ρ).i.tmod (b.den ρ).i }
  | .wrap k a => { i := k.wrap (a.den ρ).i }
  | .bits op k a b => { i := bitsI op k (a.den ρ).i (b.den ρ).i }
  | .shl k a b => { i := k.wrap ((a.den ρ).i * 2 ^ (min (b.den ρ).i.toNat k.bits)) }
  | .shr k a b => { i := (a.den ρ).i.fdiv (2 ^ (min (b.den ρ).i.toNat k.bits)) }
  | .ite q a b => if (q.den ρ).b then a.den ρ else b.den ρ
  | .len s => { i := ((s.den ρ).s.size : Nat) }
  | .byte s i => { i := (((s.den ρ).s[(i.den ρ).i.toNat]?.map UInt8.toNat).getD 0 : Nat) }
  | .app f l => { i := ρ.g f (l.den ρ).l }
  | .tt => { b := true }
  | .ff => { b := false }
  | .bv n => { b := ρ.b n }
  | .lt a b => { b := decide ((a.den ρ).i < (b.den ρ).i) }
  | .le a b => { b := decide ((a.den ρ).i ≤ (b.den ρ).i) }
  | .eq a b => { b := decide ((a.den ρ).i = (b.den ρ).i) }
  | .seq a b => { b := decide ((a.den ρ).s = (b.den ρ).s) }
  | .not a => { b := !(a.den ρ).b }
  | .and a b => { b := (a.den ρ).b && (b.den ρ).b }
  | .or a b => { b := (a.den ρ).b || (b.den ρ).b }
  | .happ f l => { b := ρ.h f (l.den ρ).l }
  | .sv n => { s := ρ.s n }
  | .sapp f l => { s := ρ.k f (l.den ρ).l }
  | .lit l => { s := ⟨l.toArray⟩ }
  | .ssub s i j => { s := (s.den ρ).s.extract (i.den ρ).i.toNat (j.den ρ).i.toNat }
  | .cat a b => { s := (a.den ρ).s ++ (b.den ρ).s }
  | .nil => {}
  | .cons a l => { l := ((a.den ρ).i, (a.den ρ).s) :: (l.den ρ).l }
  | .lv n => { l := ρ.l n }
  | .lapp f l => { l := ρ.m f (l.den ρ).l }
  | .lcat a b => { l := (a.den ρ).l ++ (b.den ρ).l }
  | .nthI l i => { i := (((l.den ρ).l[(i.den ρ).i.toNat]?).map Prod.fst).getD 0 }
  | .nthS l i => { s := (((l.den ρ).l[(i.den ρ).i.toNat]?).map Prod.snd).getD ⟨#[]⟩ }
  | .llen l => { i := ((l.den ρ).l.length : Nat) }
  | .leq a b => { b := decide ((a.den ρ).l = (b.den ρ).l) }
  | .lrep n a => { l := List.replicate (n.den ρ).i.toNat ((a.den ρ).i, (a.den ρ).s) }
  | .lsub l i j => { l := ((l.den ρ).l.take (j.den ρ).i.toNat).drop (i.den ρ).i.toNat }
  | .lset l i a => { l := (l.den ρ).l.set (i.den ρ).i.toNat ((a.den ρ).i, (a.den ρ).s) }
  | .pair a l => { i := (a.den ρ).i, l := (l.den ρ).l }
  | .allr lo hi l => { b := (l.den ρ).l.all fun p => decide (lo ≤ p.1 ∧ p.1 ≤ hi) }

def E.I (ρ : Env) (e : E) : Int := (e.den ρ).i
def E.B (ρ : Env) (e : E) : Bool := (e.den ρ).b
def E.S (ρ : Env) (e : E) : ByteArray := (e.den ρ).s
def E.L (ρ : Env) (e : E) : List (Int × ByteArray) := (e.den ρ).l

/-- An equation that simp is not to take for one by definition. -/
theorem sm {α : Type} {a b : α} (h : a = b) : a = b := h
section
variable (ρ : Env)
@[simp] theorem I_c (z : Int) : E.I ρ (.c z) = z := sm rfl
@[simp] theorem I_v (n : Nat) : E.I ρ (.v n) = ρ.i n := sm rfl
@[simp] theorem I_add (a b : E) : E.I ρ (.add a b) = a.I ρ + b.I ρ := sm rfl
@[simp] theorem I_sub (a b : E) : E.I ρ (.sub a b) = a.I ρ - b.I ρ := sm rfl
@[simp] theorem I_mul (a b : E) : E.I ρ (.mul a b) = a.I ρ * b.I ρ := sm rfl
@[simp] theorem I_quo (a b : E) : E.I ρ (.quo a b) = (a.I ρ).tdiv (b.I ρ) := sm rfl
@[simp] theorem I_rem (a b : E) : E.I ρ (.rem a b) = (a.I ρ).tmod (b.I ρ) := sm rfl
@[simp] theorem I_wrap (k : IntKind) (a : E) : E.I ρ (.wrap k a) = k.wrap (a.I ρ) := sm rfl
@[simp] theorem I_bits (op : BinOp) (k : IntKind) (a b : E) : E.I ρ (.bits op k a b) = bitsI op k (a.I ρ) (b.I ρ) := sm rfl
@[simp] theorem I_shl (k : IntKind) (a b : E) : E.I ρ (.shl k a b) = k.wrap (a.I ρ * 2 ^ (min (b.I ρ).toNat k.bits)) := sm rfl
@[simp] theorem I_shr (k : IntKind) (a b : E) : E.I ρ (.shr k a b) = (a.I ρ).fdiv (2 ^ (min (b.I ρ).toNat k.bits)) := sm rfl
@[simp] theorem I_ite (c a b : E) : E.I ρ (.ite c a b) = if c.B ρ then a.I ρ else b.I ρ := by
  show (if (c.den ρ).b then a.den ρ else b.den ρ).i = _; unfold E.B E.I; split <;> rfl
@[simp] theorem I_len (s : E) : E.I ρ (.len s) = ((s.S ρ).size : Nat) := sm rfl
@[simp] theorem I_byte (s i : E) : E.I ρ (.byte s i) = (((s.S ρ)[(i.I ρ).toNat]?.map UInt8.toNat).getD 0 : Nat) := sm rfl
@[simp] theorem I_app (f : Nat) (l : E) : E.I ρ (.app f l) = ρ.g f (l.L ρ) := sm rfl
@[simp] theorem B_t : E.B ρ .tt = true := sm rfl
@[simp] theorem B_f : E.B ρ .ff = false := sm rfl
@[simp] theorem B_bv (n : Nat) : E.B ρ (.bv n) = ρ.b n := sm rfl
@[simp] theorem B_lt (a b : E) : E.B ρ (.lt a b) = decide (a.I ρ < b.I ρ) := sm rfl
@[simp] theorem B_le (a b : E) : E.B ρ (.le a b) = decide (a.I ρ ≤ b.I ρ) := sm rfl
@[simp] theorem B_eq (a b : E) : E.B ρ (.eq a b) = decide (a.I ρ = b.I ρ) := sm rfl
@[simp] theorem B_seq (a b : E) : E.B ρ (.seq a b) = decide (a.S ρ = b.S ρ) := sm rfl
@[simp] theorem B_not (a : E) : E.B ρ (.not a) = !a.B ρ := sm rfl
@[simp] theorem B_and (a b : E) : E.B ρ (.and a b) = (a.B ρ && b.B ρ) := sm rfl
@[simp] theorem B_or (a b : E) : E.B ρ (.or a b) = (a.B ρ || b.B ρ) := sm rfl
@[simp] theorem B_happ (f : Nat) (l : E) : E.B ρ (.happ f l) = ρ.h f (l.L ρ) := sm rfl
@[simp] theorem S_sv (n : Nat) : E.S ρ (.sv n) = ρ.s n := sm rfl
@[simp] theorem S_sapp (f : Nat) (l : E) : E.S ρ (.sapp f l) = ρ.k f (l.L ρ) := sm rfl
@[simp] theorem S_lit (l : List UInt8) : E.S ρ (.lit l) = ⟨l.toArray⟩ := sm rfl
@[simp] theorem S_ssub (s i j : E) : E.S ρ (.ssub s i j) = (s.S ρ).extract (i.I ρ).toNat (j.I ρ).toNat := sm rfl
@[simp] theorem S_cat (a b : E) : E.S ρ (.cat a b) = a.S ρ ++ b.S ρ := sm rfl
@[simp] theorem L_nil : E.L ρ .nil = [] := sm rfl
@[simp] theorem L_cons (a l : E) : E.L ρ (.cons a l) = (a.I ρ, a.S ρ) :: l.L ρ := sm rfl
@[simp] theorem L_lv (n : Nat) : E.L ρ (.lv n) = ρ.l n := sm rfl
@[simp] theorem L_lapp (f : Nat) (l : E) : E.L ρ (.lapp f l) = ρ.m f (l.L ρ) := sm rfl
@[simp] theorem L_lcat (a b : E) : E.L ρ (.lcat a b) = a.L ρ ++ b.L ρ := sm rfl
@[simp] theorem B_allr (lo hi : Int) (l : E) : E.B ρ (.allr lo hi l) = (l.L ρ).all fun p => decide (lo ≤ p.1 ∧ p.1 ≤ hi) := sm rfl
@[simp] theorem L_lrep (n a : E) : E.L ρ (.lrep n a) = List.replicate (n.I ρ).toNat (a.I ρ, a.S ρ) := sm rfl
@[simp] theorem L_lsub (l i j : E) : E.L ρ (.lsub l i j) = ((l.L ρ).take (j.I ρ).toNat).drop (i.I ρ).toNat := sm rfl
@[simp] theorem L_lset (l i a : E) : E.L ρ (.lset l i a) = (l.L ρ).set (i.I ρ).toNat (a.I ρ, a.S ρ) := sm rfl
@[simp] theorem I_nthI (l i : E) : E.I ρ (.nthI l i) = (((l.L ρ)[(i.I ρ).toNat]?).map Prod.fst).getD 0 := sm rfl
@[simp] theorem S_nthS (l i : E) : E.S ρ (.nthS l i) = (((l.L ρ)[(i.I ρ).toNat]?).map Prod.snd).getD ⟨#[]⟩ := sm rfl
@[simp] theorem I_llen (l : E) : E.I ρ (.llen l) = ((l.L ρ).length : Nat) := sm rfl
@[simp] theorem B_leq (a b : E) : E.B ρ (.leq a b) = decide (a.L ρ = b.L ρ) := sm rfl
end

/-! ### Ranges -/
structure Rng where
  lo : Option Int := none
  hi : Option Int := none
  deriving Inhabited

def Rng.has (r : Rng) (z : Int) : Prop := (∀ a, r.lo = some a → a ≤ z) ∧ (∀ a, r.hi = some a → z ≤ a)
theorem Rng.has_any (z : Int) : Rng.has {} z := ⟨(fun _ h => by cases h), (fun _ h => by cases h)⟩
def oadd (a b : Option Int) : Option Int := match a, b with | some x, some y => some (x + y) | _, _ => none
def osub (a b : Option Int) : Option Int := match a, b with | some x, some y => some (x - y) | _, _ => none
def omax (a b : Option Int) : Option Int := match a, b with | some x, some y => some (max x y) | some x, none => some x | none, y => y
def omin (a b : Option Int) : Option Int := match a, b with | some x, some y => some (min x y) | some x, none => some x | none, y => y
def Rng.meet (r q : Rng) : Rng := ⟨omax r.lo q.lo, omin r.hi q.hi⟩
def Rng.join (r q : Rng) : Rng :=
  ⟨match r.lo, q.lo with | some x, some y => some (min x y) | _, _ => none, match r.hi, q.hi with | some x, some y => some (max x y) | _, _ => none⟩
theorem Rng.meet_has {r q : Rng} {z : Int} (h : r.has z) (k : q.has z) : (r.meet q).has z := by
  obtain ⟨rl, rh⟩ := r; obtain ⟨ql, qh⟩ := q
  obtain ⟨h1, h2⟩ := h; obtain ⟨k1, k2⟩ := k
  refine ⟨fun a ha => ?_, fun a ha => ?_⟩
  · cases rl <;> cases ql <;> simp only [Rng.meet, omax, Option.some.injEq, reduceCtorEq] at ha h1 k1
    · exact k1 _ ha
    · exact h1 _ ha
    · have := h1 _ rfl; have := k1 _ rfl; omega
  · cases rh <;> cases qh <;> simp only [Rng.meet, omin, Option.some.injEq, reduceCtorEq] at ha h2 k2
    · exact k2 _ ha
    · exact h2 _ ha
    · have := h2 _ rfl; have := k2 _ rfl; omega
theorem Rng.join_has_l {r q : Rng} {z : Int} (h : r.has z) : (r.join q).has z := by
  obtain ⟨rl, rh⟩ := r; obtain ⟨ql, qh⟩ := q
  obtain ⟨h1, h2⟩ := h
  refine ⟨fun a ha => ?_, fun a ha => ?_⟩
  · cases rl <;> cases ql <;> simp only [Rng.join, Option.some.injEq, reduceCtorEq] at ha h1
    have := h1 _ rfl; omega
  · cases rh <;> cases qh <;> simp only [Rng.join, Option.some.injEq, reduceCtorEq] at ha h2
    have := h2 _ rfl; omega
theorem Rng.join_has_r {r q : Rng} {z : Int} (h : q.has z) : (r.join q).has z := by
  obtain ⟨rl, rh⟩ := r; obtain ⟨ql, qh⟩ := q
  obtain ⟨h1, h2⟩ := h
  refine ⟨fun a ha => ?_, fun a ha => ?_⟩
  · cases rl <;> cases ql <;> simp only [Rng.join, Option.some.injEq, reduceCtorEq] at ha h1
    have := h1 _ rfl; omega
  · cases rh <;> cases qh <;> simp only [Rng.join, Option.some.injEq, reduceCtorEq] at ha h2
    have := h2 _ rfl; omega

/-- What a fact says of the range of a term. -/
def factRng (e : E) : E → Rng
  | .le (.c z) x => if x = e then ⟨some z, none⟩ else {}
  | .le x (.c z) => if x = e then ⟨none, some z⟩ else {}
  | .lt (.c z) x => if x = e then ⟨some (z + 1), none⟩ else {}
  | .lt x (.c z) => if x = e then ⟨none, some (z - 1)⟩ else {}
  | .eq x (.c z) => if x = e then ⟨some z, some z⟩ else {}
  | _ => {}
theorem factRng_has {ρ : Env} {e f : E} (h : f.B ρ = true) : (factRng e f).has (e.I ρ) := by
  revert h
  unfold factRng
  split <;> intro h <;> try exact Rng.has_any _
  all_goals
    split
    · rename_i hx
      subst hx
      simp only [B_le, B_lt, B_eq, I_c, decide_eq_true_eq] at h
      refine ⟨fun a ha => ?_, fun a ha => ?_⟩ <;> simp only [Option.some.injEq, reduceCtorEq] at ha <;> omega
    · exact Rng.has_any _

def factsRng (F : List E) (e : E) : Rng := F.foldr (fun f r => (factRng e f).meet r) {}
def holds (ρ : Env) (F : List E) : Prop := ∀ f ∈ F, f.B ρ = true
theorem factsRng_has {ρ : Env} {F : List E} (h : holds ρ F) (e : E) : (factsRng F e).has (e.I ρ) := by
  induction F with
  | nil => exact Rng.has_any _
  | cons f F ih => exact Rng.meet_has (factRng_has (h f (by simp))) (ih fun x hx => h x (by simp [hx]))

def kindRng (k : IntKind) : Rng := match k with
  | .i8 => ⟨some (-128), some 127⟩ | .i16 => ⟨some (-32768), some 32767⟩ | .i32 => ⟨some (-2147483648), some 2147483647⟩
  | .i64 => ⟨some (-9223372036854775808), some 9223372036854775807⟩
  | .u8 => ⟨some 0, some 255⟩ | .u16 => ⟨some 0, some 65535⟩ | .u32 => ⟨some 0, some 4294967295⟩ | .u64 => ⟨some 0, some 18446744073709551615⟩
theorem wrap_has (k : IntKind) (z : Int) : (kindRng k).has (k.wrap z) := by
  cases k <;> refine ⟨fun a ha => ?_, fun a ha => ?_⟩ <;> simp only [kindRng, Option.some.injEq] at ha <;> subst ha <;>
    simp [IntKind.wrap, IntKind.bits, IntKind.signed] <;> (try split) <;> omega
def Rng.within (r q : Rng) : Bool :=
  (match q.lo, r.lo with | none, _ => true | some _, none => false | some a, some b => decide (a ≤ b)) &&
  (match q.hi, r.hi with | none, _ => true | some _, none => false | some a, some b => decide (b ≤ a))
theorem Rng.within_has {r q : Rng} {z : Int} (hw : r.within q = true) (h : r.has z) : q.has z := by
  obtain ⟨rl, rh⟩ := r; obtain ⟨ql, qh⟩ := q
  obtain ⟨h1, h2⟩ := h
  simp only [Rng.within, Bool.and_eq_true] at hw
  obtain ⟨w1, w2⟩ := hw
  refine ⟨fun a ha => ?_, fun a ha => ?_⟩
  · simp only at ha; subst ha
    cases rl with
    | none => simp at w1
    | some b => simp at w1; have := h1 b rfl; omega
  · simp only at ha; subst ha
    cases rh with
    | none => simp at w2
    | some b => simp at w2; have := h2 b rfl; omega
theorem wrap_same {k : IntKind} {z : Int} (h : (kindRng k).has z) : k.wrap z = z := by
  obtain ⟨h1, h2⟩ := h
  cases k <;> simp only [kindRng, Option.some.injEq] at h1 h2 <;> have h1 := h1 _ rfl <;> have h2 := h2 _ rfl <;>
    simp [IntKind.wrap, IntKind.bits, IntKind.signed] <;> (try split) <;> omega

def mulRng (r q : Rng) : Rng :=
  match r.lo, r.hi, q.lo, q.hi with
  | some a, some b, some c, some d => ⟨some (min (min (a * c) (a * d)) (min (b * c) (b * d))), some (max (max (a * c) (a * d)) (max (b * c) (b * d)))⟩
  | some a, _, some c, _ => if 0 ≤ a ∧ 0 ≤ c then ⟨some (a * c), none⟩ else {}
  | _, _, _, _ => {}
theorem tdiv_nonpos {x y : Int} (hx : x ≤ 0) (hy : 0 ≤ y) : x.tdiv y ≤ 0 := by
  have h1 : 0 ≤ (-x).tdiv y := Int.tdiv_nonneg (by omega) hy
  rw [Int.neg_tdiv] at h1
  omega
theorem mul_between {a b z y : Int} (h1 : a ≤ z) (h2 : z ≤ b) : min (a * y) (b * y) ≤ z * y ∧ z * y ≤ max (a * y) (b * y) := by
  rcases Int.le_total 0 y with h | h
  · have := Int.mul_le_mul_of_nonneg_right h1 h; have := Int.mul_le_mul_of_nonneg_right h2 h; omega
  · have := Int.mul_le_mul_of_nonpos_right h1 h; have := Int.mul_le_mul_of_nonpos_right h2 h; omega
theorem mulRng_has {r q : Rng} {x y : Int} (h : r.has x) (k : q.has y) : (mulRng r q).has (x * y) := by
  obtain ⟨rl, rh⟩ := r; obtain ⟨ql, qh⟩ := q
  obtain ⟨h1, h2⟩ := h; obtain ⟨k1, k2⟩ := k
  unfold mulRng
  simp only at h1 h2 k1 k2
  split
  · rename_i a b c d e1 e2 e3 e4
    simp only at e1 e2 e3 e4
    have h1 := h1 _ e1; have h2 := h2 _ e2; have k1 := k1 _ e3; have k2 := k2 _ e4
    have g0 := mul_between (y := y) h1 h2
    have g1 := mul_between (y := a) k1 k2
    have g2 := mul_between (y := b) k1 k2
    rw [Int.mul_comm c a, Int.mul_comm d a, Int.mul_comm y a] at g1
    rw [Int.mul_comm c b, Int.mul_comm d b, Int.mul_comm y b] at g2
    refine ⟨fun z hz => ?_, fun z hz => ?_⟩ <;> simp only [Option.some.injEq] at hz <;> omega
  · simp only at *
    split
    · rename_i h0
      have h1 := h1 _ ‹rl = some _›; have k1 := k1 _ ‹ql = some _›
      refine ⟨fun z hz => ?_, fun z hz => by cases hz⟩
      simp only [Option.some.injEq] at hz
      subst hz
      exact Int.le_trans (Int.mul_le_mul_of_nonneg_right h1 h0.2) (Int.mul_le_mul_of_nonneg_left k1 (by omega : 0 ≤ x))
    · exact Rng.has_any _
  · exact Rng.has_any _

/-- The range of a quotient by a constant above zero, and of a rest by one. -/
def quoRng (r q : Rng) : Rng :=
  match q.lo, q.hi with
  | some c, some d => if 0 < c then
      ⟨match r.lo with | some a => if 0 ≤ a then some 0 else some a | none => none, match r.hi with | some b => if 0 ≤ b then (if c = d then some (b / c) else some b) else some 0 | none => none⟩ else {}
  | _, _ => {}
theorem quoRng_has {r q : Rng} {x y : Int} (h : r.has x) (k : q.has y) : (quoRng r q).has (x.tdiv y) := by
  obtain ⟨rl, rh⟩ := r; obtain ⟨ql, qh⟩ := q
  obtain ⟨h1, h2⟩ := h; obtain ⟨k1, k2⟩ := k
  unfold quoRng
  simp only at h1 h2 k1 k2
  split
  · rename_i c d e1 e2
    simp only at e1 e2
    have k1 := k1 _ e1; have k2 := k2 _ e2
    split
    · rename_i hc
      have hy : 0 < y := by omega
      have up : ∀ b, x ≤ b → 0 ≤ b → x.tdiv y ≤ b := fun b hb h0 => by
        rcases Int.le_total 0 x with hx | hx
        · have := Int.tdiv_le_self y hx; omega
        · have : x.tdiv y ≤ 0 := tdiv_nonpos hx (by omega) ; omega
      have low : 0 ≤ x → 0 ≤ x.tdiv y := fun hx => Int.tdiv_nonneg hx (by omega)
      refine ⟨fun z hz => ?_, fun z hz => ?_⟩
      · cases rl with
        | none => simp at hz
        | some a =>
          have h1 := h1 a rfl
          simp only at hz
          split at hz <;> simp only [Option.some.injEq] at hz <;> subst hz
          · exact low (by omega)
          · rcases Int.le_total 0 x with hx | hx
            · have := low hx; omega
            · have h5 : (-x).tdiv y = - (x.tdiv y) := Int.neg_tdiv x y
              have h6 : (-x).tdiv y ≤ -x := Int.tdiv_le_self y (by omega)
              omega
      · cases rh with
        | none => simp at hz
        | some b =>
          have h2 := h2 b rfl
          simp only at hz
          split at hz
          · rename_i hb
            split at hz <;> simp only [Option.some.injEq] at hz <;> subst hz
            · rename_i hcd
              have hyc : y = c := by omega
              subst hyc
              rcases Int.le_total 0 x with hx | hx
              · rw [Int.tdiv_eq_ediv_of_nonneg hx]
                exact Int.ediv_le_ediv hy h2
              · have e1 : x.tdiv y ≤ 0 := tdiv_nonpos hx (by omega)
                have e2 : 0 ≤ b / y := Int.ediv_nonneg hb (by omega)
                omega
            · exact up _ h2 hb
          · simp only [Option.some.injEq] at hz
            subst hz
            exact tdiv_nonpos (by omega) (by omega)
    · exact Rng.has_any _
  · exact Rng.has_any _
def remRng (r q : Rng) : Rng :=
  match q.lo, q.hi with
  | some c, some d => if 0 < c then
      ⟨match r.lo with | some a => if 0 ≤ a then some 0 else some (1 - d) | none => some (1 - d), some (d - 1)⟩ else {}
  | _, _ => {}
theorem remRng_has {r q : Rng} {x y : Int} (h : r.has x) (k : q.has y) : (remRng r q).has (x.tmod y) := by
  obtain ⟨rl, rh⟩ := r; obtain ⟨ql, qh⟩ := q
  obtain ⟨h1, h2⟩ := h; obtain ⟨k1, k2⟩ := k
  unfold remRng
  simp only at h1 h2 k1 k2
  split
  · rename_i c d e1 e2
    simp only at e1 e2
    have k1 := k1 _ e1; have k2 := k2 _ e2
    split
    · rename_i hc
      have hy : 0 < y := by omega
      have up : x.tmod y < y := Int.tmod_lt_of_pos x hy
      have low : - y < x.tmod y := Int.lt_tmod_of_pos x hy
      refine ⟨fun z hz => ?_, fun z hz => ?_⟩
      · cases rl with
        | none => simp at hz; omega
        | some a =>
          have h1 := h1 a rfl
          simp only at hz
          split at hz <;> simp only [Option.some.injEq] at hz <;> subst hz
          · exact Int.tmod_nonneg y (by omega)
          · omega
      · simp only [Option.some.injEq] at hz; omega
    · exact Rng.has_any _
  · exact Rng.has_any _

/-- What is known of all elements of a list (and 0). -/
def E.base : E → E | .lsub l _ _ => l.base | l => l
def allFact (F : List E) (l : E) : Rng := match F.find? (fun f => match f with | .allr lo hi l' => decide (l' = l ∧ lo ≤ 0 ∧ 0 ≤ hi) | _ => false) with | some (.allr lo hi _) => ⟨some lo, some hi⟩ | _ => {}
theorem base_mem (ρ : Env) : ∀ (l : E) (x : Int × ByteArray), x ∈ l.L ρ → x ∈ l.base.L ρ := by
  intro l
  induction l with
  | lsub l i j ih _ _ =>
    intro x hx
    rw [L_lsub] at hx
    exact ih x (List.mem_of_mem_take (List.mem_of_mem_drop hx))
  | _ => intro x hx; exact hx
theorem allFact_has {ρ : Env} {F : List E} (h : holds ρ F) (l i : E) : (allFact F l.base).has (E.I ρ (.nthI l i)) := by
  unfold allFact
  split
  · rename_i lo hi l' hf
    have h1 := List.mem_of_find?_eq_some hf
    have h2 := List.find?_some hf
    simp only [decide_eq_true_eq] at h2
    obtain ⟨rfl, h3, h4⟩ := h2
    have h5 := h _ h1
    rw [B_allr, List.all_eq_true] at h5
    rw [I_nthI]
    have key : lo ≤ ((Option.map Prod.fst (l.L ρ)[(i.I ρ).toNat]?).getD 0) ∧ ((Option.map Prod.fst (l.L ρ)[(i.I ρ).toNat]?).getD 0) ≤ hi := by
      cases hx : (l.L ρ)[(i.I ρ).toNat]? with
      | none => exact ⟨h3, h4⟩
      | some x => simpa using h5 x (base_mem ρ l x (List.mem_of_getElem? hx))
    exact ⟨fun z hz => by simp only [Option.some.injEq] at hz; omega, fun z hz => by simp only [Option.some.injEq] at hz; omega⟩
  · exact Rng.has_any _
def rng (F : List E) : E → Rng
  | .c z => ⟨some z, some z⟩
  | .add a b => (factsRng F (.add a b)).meet ⟨oadd (rng F a).lo (rng F b).lo, oadd (rng F a).hi (rng F b).hi⟩
  | .sub a b => (factsRng F (.sub a b)).meet ⟨osub (rng F a).lo (rng F b).hi, osub (rng F a).hi (rng F b).lo⟩
  | .mul a b => (factsRng F (.mul a b)).meet (mulRng (rng F a) (rng F b))
  | .quo a b => (factsRng F (.quo a b)).meet (quoRng (rng F a) (rng F b))
  | .rem a b => (factsRng F (.rem a b)).meet (remRng (rng F a) (rng F b))
  | .wrap k a => (factsRng F (.wrap k a)).meet (kindRng k)
  | .bits op k a b => (factsRng F (.bits op k a b)).meet (kindRng k)
  | .shl k a b => (factsRng F (.shl k a b)).meet (kindRng k)
  | .ite c a b => (factsRng F (.ite c a b)).meet ((rng F a).join (rng F b))
  | .len s => (factsRng F (.len s)).meet ⟨some 0, none⟩
  | .llen s => (factsRng F (.llen s)).meet ⟨some 0, none⟩
  | .byte s i => (factsRng F (.byte s i)).meet ⟨some 0, some 255⟩
  | .nthI l i => (factsRng F (.nthI l i)).meet (allFact F l.base)
  | e => factsRng F e

theorem rng_has {ρ : Env} {F : List E} (h : holds ρ F) : ∀ e, (rng F e).has (e.I ρ) := by
  intro e
  induction e with
  | c z => exact ⟨fun a ha => by simp [rng] at ha; simp [ha], fun a ha => by simp [rng] at ha; simp [ha]⟩
  | add a b iha ihb =>
    refine Rng.meet_has (factsRng_has h _) ?_
    obtain ⟨a1, a2⟩ := iha; obtain ⟨b1, b2⟩ := ihb
    refine ⟨fun z hz => ?_, fun z hz => ?_⟩
    · simp only at hz
      cases hx : (rng F a).lo <;> cases hy : (rng F b).lo <;> simp [oadd, hx, hy] at hz
      have := a1 _ hx; have := b1 _ hy; simp; omega
    · simp only at hz
      cases hx : (rng F a).hi <;> cases hy : (rng F b).hi <;> simp [oadd, hx, hy] at hz
      have := a2 _ hx; have := b2 _ hy; simp; omega
  | sub a b iha ihb =>
    refine Rng.meet_has (factsRng_has h _) ?_
    obtain ⟨a1, a2⟩ := iha; obtain ⟨b1, b2⟩ := ihb
    refine ⟨fun z hz => ?_, fun z hz => ?_⟩
    · simp only at hz
      cases hx : (rng F a).lo <;> cases hy : (rng F b).hi <;> simp [osub, hx, hy] at hz
      have := a1 _ hx; have := b2 _ hy; simp; omega
    · simp only at hz
      cases hx : (rng F a).hi <;> cases hy : (rng F b).lo <;> simp [osub, hx, hy] at hz
      have := a2 _ hx; have := b1 _ hy; simp; omega
  | mul a b iha ihb => exact Rng.meet_has (factsRng_has h _) (mulRng_has iha ihb)
  | quo a b iha ihb => exact Rng.meet_has (factsRng_has h _) (quoRng_has iha ihb)
  | rem a b iha ihb => exact Rng.meet_has (factsRng_has h _) (remRng_has iha ihb)
  | wrap k a _ => exact Rng.meet_has (factsRng_has h _) (wrap_has _ _)
  | bits op k a b _ _ => exact Rng.meet_has (factsRng_has h _) (by simp only [I_bits]; unfold bitsI; dsimp only; split <;> exact wrap_has _ _)
  | shl k a b _ _ => exact Rng.meet_has (factsRng_has h _) (wrap_has _ _)
  | ite c a b _ iha ihb =>
    refine Rng.meet_has (factsRng_has h _) ?_
    rw [I_ite]
    split
    · exact Rng.join_has_l iha
    · exact Rng.join_has_r ihb
  | len s _ => exact Rng.meet_has (factsRng_has h _) ⟨fun a ha => by simp at ha; simp; omega, fun a ha => by simp at ha⟩
  | llen s _ => exact Rng.meet_has (factsRng_has h _) ⟨fun a ha => by simp at ha; simp; omega, fun a ha => by simp at ha⟩
  | byte s i _ _ =>
    refine Rng.meet_has (factsRng_has h _) ?_
    have hb : ((((s.S ρ)[(i.I ρ).toNat]?.map UInt8.toNat).getD 0 : Nat) : Int) ≤ 255 := by
      cases hx : (s.S ρ)[(i.I ρ).toNat]? with
      | none => simp
      | some u => simp; have := u.toNat_lt; omega
    exact ⟨fun a ha => by simp only [Option.some.injEq] at ha; rw [I_byte]; omega, fun a ha => by simp only [Option.some.injEq] at ha; rw [I_byte]; omega⟩
  | nthI l i _ _ => exact Rng.meet_has (factsRng_has h _) (allFact_has h l i)
  | _ => exact factsRng_has h _

/-! ### What facts decide -/
def lhs : E → Option Int | .c z => some z | _ => none
def ltB (F : List E) (a b : E) : Option Bool :=
  let r := rng F a
  let q := rng F b
  match r.hi, q.lo with
  | some x, some y => if x < y then some true else (match r.lo, q.hi with | some x, some y => if y ≤ x then some false else none | _, _ => none)
  | _, _ => (match r.lo, q.hi with | some x, some y => if y ≤ x then some false else none | _, _ => none)
theorem ltB_ok {ρ : Env} {F : List E} (h : holds ρ F) {a b : E} {r : Bool} (hr : ltB F a b = some r) : decide (a.I ρ < b.I ρ) = r := by
  obtain ⟨a1, a2⟩ := rng_has h a
  obtain ⟨b1, b2⟩ := rng_has h b
  unfold ltB at hr
  simp only at hr
  have key : ∀ x y, (rng F a).lo = some x → (rng F b).hi = some y → y ≤ x → decide (a.I ρ < b.I ρ) = false := fun x y hx hy hxy => by
    have := a1 _ hx; have := b2 _ hy; simp; omega
  have key2 : (match (rng F a).lo, (rng F b).hi with | some x, some y => if y ≤ x then some false else none | _, _ => none) = some r → decide (a.I ρ < b.I ρ) = r := fun hh => by
    split at hh
    · split at hh
      · rename_i e1 e2 hxy
        cases hh; exact key _ _ e1 e2 hxy
      · cases hh
    · cases hh
  split at hr
  · rename_i e1 e2
    split at hr
    · cases hr
      have := a2 _ e1; have := b1 _ e2; simp; omega
    · exact key2 hr
  · exact key2 hr

/-- Does a fact of the list say it, or say the contrary? -/
def known (F : List E) (e : E) : Option Bool :=
  if F.contains e then some true else
  if F.contains (.not e) then some false else
  match e with
  | .lt a b => if F.contains (.le b a) || F.contains (.lt b a) || F.contains (.eq a b) || F.contains (.eq b a) then some false else none
  | .le a b => if F.contains (.lt b a) then some false else if F.contains (.lt a b) || F.contains (.eq a b) || F.contains (.eq b a) then some true else none
  | .eq a b => if F.contains (.eq b a) then some true else if F.contains (.lt a b) || F.contains (.lt b a) || F.contains (.not (.eq b a)) then some false else none
  | .seq a b => if F.contains (.seq b a) then some true else if F.contains (.not (.seq b a)) then some false else none
  | _ => none
theorem known_ok {ρ : Env} {F : List E} (h : holds ρ F) {e : E} {r : Bool} (hr : known F e = some r) : e.B ρ = r := by
  have get : ∀ {x : E}, F.contains x = true → x.B ρ = true := fun hx => h _ (by simpa using hx)
  unfold known at hr
  split at hr
  · rename_i hc; cases hr; exact get hc
  split at hr
  · rename_i hc; cases hr; have := get hc; simpa using this
  split at hr
  · split at hr
    · rename_i hc
      simp only [Bool.or_eq_true] at hc
      cases hr
      rcases hc with ((hc | hc) | hc) | hc <;> have := get hc <;> simp at this ⊢ <;> omega
    · cases hr
  · split at hr
    · rename_i hc; cases hr; have := get hc; simp at this ⊢; omega
    · split at hr
      · rename_i hc
        simp only [Bool.or_eq_true] at hc
        cases hr
        rcases hc with (hc | hc) | hc <;> have := get hc <;> simp at this ⊢ <;> omega
      · cases hr
  · split at hr
    · rename_i hc; cases hr; have := get hc; simp at this ⊢; omega
    · split at hr
      · rename_i hc
        simp only [Bool.or_eq_true] at hc
        cases hr
        rcases hc with (hc | hc) | hc <;> have := get hc <;> simp at this ⊢ <;> omega
      · cases hr
  · split at hr
    · rename_i hc; cases hr; have := get hc; simp at this ⊢; exact this.symm
    · split at hr
      · rename_i hc
        cases hr
        have := get hc
        simp at this ⊢
        exact fun e => this e.symm
      · cases hr
  · cases hr

def Rng.inside (r : Rng) (lo hi : Int) : Bool := match r.lo, r.hi with | some a, some b => decide (lo ≤ a ∧ b ≤ hi) | _, _ => false
theorem inside_ok {r : Rng} {lo hi x : Int} (h : r.inside lo hi = true) (hx : r.has x) : lo ≤ x ∧ x ≤ hi := by
  unfold Rng.inside at h
  split at h
  · rename_i a b e1 e2
    simp only [decide_eq_true_eq] at h
    have := hx.1 _ e1
    have := hx.2 _ e2
    omega
  · cases h
/-- Are all elements of a list in a range? -/
def allB (F : List E) (lo hi : Int) : E → Bool
  | .nil => true
  | .cons a l => (rng F a).inside lo hi && allB F lo hi l
  | .lcat a b => allB F lo hi a && allB F lo hi b
  | .lsub l _ _ => allB F lo hi l
  | .lset l _ a => allB F lo hi l && (rng F a).inside lo hi
  | .lrep _ a => (rng F a).inside lo hi
  | l => F.any fun f => match f with | .allr lo' hi' l' => decide (l' = l ∧ lo ≤ lo' ∧ hi' ≤ hi) | _ => false
theorem allF_ok {ρ : Env} {F : List E} (h : holds ρ F) {lo hi : Int} {l : E} (ha : (F.any fun f => match f with | .allr lo' hi' l' => decide (l' = l ∧ lo ≤ lo' ∧ hi' ≤ hi) | _ => false) = true) : ∀ x ∈ l.L ρ, lo ≤ x.1 ∧ x.1 ≤ hi := by
  rw [List.any_eq_true] at ha
  obtain ⟨f, hf, h1⟩ := ha
  split at h1
  · rename_i lo' hi' l'
    simp only [decide_eq_true_eq] at h1
    obtain ⟨rfl, h2, h3⟩ := h1
    have h5 := h _ hf
    rw [B_allr, List.all_eq_true] at h5
    intro x hx
    have := h5 x hx
    simp only [decide_eq_true_eq] at this
    omega
  · cases h1
theorem allB_ok {ρ : Env} {F : List E} (h : holds ρ F) {lo hi : Int} : ∀ {l : E}, allB F lo hi l = true → ∀ x ∈ l.L ρ, lo ≤ x.1 ∧ x.1 ≤ hi := by
  intro l
  induction l with
  | nil => intro _ x hx; simp at hx
  | cons a l _ ih =>
    intro ha x hx
    simp only [allB, Bool.and_eq_true] at ha
    rw [L_cons] at hx
    rcases List.mem_cons.1 hx with rfl | hx
    · exact inside_ok ha.1 (rng_has h a)
    · exact ih ha.2 x hx
  | lcat a b iha ihb =>
    intro ha x hx
    simp only [allB, Bool.and_eq_true] at ha
    rw [L_lcat] at hx
    rcases List.mem_append.1 hx with hx | hx
    · exact iha ha.1 x hx
    · exact ihb ha.2 x hx
  | lsub l i j ih _ _ =>
    intro ha x hx
    simp only [allB] at ha
    rw [L_lsub] at hx
    exact ih ha x (List.mem_of_mem_take (List.mem_of_mem_drop hx))
  | lset l i a ih _ _ =>
    intro ha x hx
    simp only [allB, Bool.and_eq_true] at ha
    rw [L_lset] at hx
    rcases List.mem_or_eq_of_mem_set hx with hx | rfl
    · exact ih ha.1 x hx
    · exact inside_ok ha.2 (rng_has h a)
  | lrep n a _ _ =>
    intro ha x hx
    simp only [allB] at ha
    rw [L_lrep] at hx
    rw [List.eq_of_mem_replicate hx]
    exact inside_ok ha (rng_has h a)
  | _ => intro ha; simp only [allB] at ha; exact allF_ok h ha
def decideB (F : List E) : E → Option Bool
  | .tt => some true
  | .ff => some false
  | .not a => (decideB F a).map (!·)
  | .and a b => match decideB F a, decideB F b with
    | some false, _ => some false
    | _, some false => some false
    | some true, some true => some true
    | _, _ => none
  | .or a b => match decideB F a, decideB F b with
    | some true, _ => some true
    | _, some true => some true
    | some false, some false => some false
    | _, _ => none
  | .lt a b => if a = b then some false else match known F (.lt a b) with | some r => some r | none => ltB F a b
  | .le a b => if a = b then some true else match known F (.le a b) with | some r => some r | none => (ltB F b a).map (!·)
  | .eq a b => if a = b then some true else match known F (.eq a b) with
    | some r => some r
    | none => match ltB F a b, ltB F b a with
      | some true, _ => some false
      | _, some true => some false
      | some false, some false => some true
      | _, _ => none
  | .seq a b => if a = b then some true else match a, b with
    | .lit x, .lit y => some (decide (x = y))
    | _, _ => known F (.seq a b)
  | .leq a b => if a = b then some true else known F (.leq a b)
  | .allr lo hi l => match known F (.allr lo hi l) with | some r => some r | none => if allB F lo hi l then some true else none
  | e => known F e

theorem decideB_ok {ρ : Env} {F : List E} (h : holds ρ F) : ∀ {e : E} {r : Bool}, decideB F e = some r → e.B ρ = r := by
  intro e
  induction e with
  | tt => intro r hr; cases hr; rfl
  | ff => intro r hr; cases hr; rfl
  | not a ih =>
    intro r hr
    simp only [decideB, Option.map_eq_some_iff] at hr
    obtain ⟨q, hq, rfl⟩ := hr
    rw [B_not, ih hq]
  | and a b iha ihb =>
    intro r hr
    simp only [decideB] at hr
    split at hr <;> cases hr <;> rw [B_and]
    · rename_i e1; rw [iha e1]; rfl
    · rename_i e1 _; rw [ihb e1, Bool.and_false]
    · rename_i e1 e2; rw [iha e1, ihb e2]; rfl
  | or a b iha ihb =>
    intro r hr
    simp only [decideB] at hr
    split at hr <;> cases hr <;> rw [B_or]
    · rename_i e1; rw [iha e1]; rfl
    · rename_i e1 _; rw [ihb e1, Bool.or_true]
    · rename_i e1 e2; rw [iha e1, ihb e2]; rfl
  | lt a b _ _ =>
    intro r hr
    simp only [decideB] at hr
    split at hr
    · rename_i hab; cases hr; subst hab; simp
    split at hr
    · rename_i hk; cases hr; exact known_ok h hk
    · exact ltB_ok h hr
  | le a b _ _ =>
    intro r hr
    simp only [decideB] at hr
    split at hr
    · rename_i hab; cases hr; subst hab; simp
    split at hr
    · rename_i hk; cases hr; exact known_ok h hk
    · simp only [Option.map_eq_some_iff] at hr
      obtain ⟨q, hq, rfl⟩ := hr
      have := ltB_ok h hq
      rw [B_le, ← this]
      by_cases hh : b.I ρ < a.I ρ
      · simp [hh]
      · simp [hh]; omega
  | eq a b _ _ =>
    intro r hr
    simp only [decideB] at hr
    split at hr
    · rename_i hab; cases hr; subst hab; simp
    split at hr
    · rename_i hk; cases hr; exact known_ok h hk
    · split at hr
      · rename_i e1; cases hr; have := ltB_ok h e1; simp at this ⊢; omega
      · rename_i e1 _; cases hr; have := ltB_ok h e1; simp at this ⊢; omega
      · rename_i e1 e2; cases hr; have := ltB_ok h e1; have := ltB_ok h e2; simp at *; omega
      · cases hr
  | seq a b _ _ =>
    intro r hr
    simp only [decideB] at hr
    split at hr
    · rename_i hab; cases hr; subst hab; simp
    split at hr
    · cases hr
      rename_i x y _ _ _
      rw [B_seq, S_lit, S_lit]
      by_cases hxy : x = y
      · simp [hxy]
      · have : (⟨x.toArray⟩ : ByteArray) ≠ ⟨y.toArray⟩ := fun e => hxy (by simpa using congrArg (fun b => b.data.toList) e)
        simp [hxy, this]
    · exact known_ok h hr
  | allr lo hi l _ =>
    intro r hr
    simp only [decideB] at hr
    split at hr
    · rename_i hk; cases hr; exact known_ok h hk
    · split at hr
      · rename_i ha
        cases hr
        rw [B_allr, List.all_eq_true]
        intro x hx
        simpa using allB_ok h ha x hx
      · cases hr
  | leq a b _ _ =>
    intro r hr
    simp only [decideB] at hr
    split at hr
    · rename_i hab; cases hr; subst hab; simp
    · exact known_ok h hr
  | bv n => intro r hr; exact known_ok h hr
  | happ f l _ => intro r hr; exact known_ok h hr
  | _ => intro r hr; exact known_ok h hr

/-- A fact, as it is kept. -/
def fact (e : E) (r : Bool) : List E :=
  match r, e with
  | true, .and a b => [a, b]
  | false, .or a b => [.not a, .not b]
  | false, .not a => [a]
  | false, .lt a b => [.le b a]
  | false, .le a b => [.lt b a]
  | true, .not (.lt a b) => [.le b a]
  | true, .not (.le a b) => [.lt b a]
  | true, e => [e]
  | false, e => [.not e]
theorem fact_ok {ρ : Env} {e : E} {r : Bool} (h : e.B ρ = r) : holds ρ (fact e r) := by
  unfold fact
  intro x hx
  split at hx <;> simp at hx h
  · rcases hx with rfl | rfl <;> simp [h]
  · rcases hx with rfl | rfl <;> simp [h]
  · subst hx; simpa using h
  · subst hx; simp; omega
  · subst hx; simp; omega
  · subst hx; simp; omega
  · subst hx; simp; omega
  · subst hx; exact h
  · subst hx; simp [h]
theorem holds_append {ρ : Env} {F G : List E} (h : holds ρ F) (k : holds ρ G) : holds ρ (F ++ G) := fun x hx => by
  rcases List.mem_append.1 hx with hx | hx
  · exact h x hx
  · exact k x hx

/-! ### Terms made simple -/
def mkWrap (F : List E) (k : IntKind) (e : E) : E := match e with
  | .c z => .c (k.wrap z)
  | e => if (rng F e).within (kindRng k) then e else .wrap k e
theorem mkWrap_ok {ρ : Env} {F : List E} (h : holds ρ F) (k : IntKind) (e : E) : (mkWrap F k e).I ρ = k.wrap (e.I ρ) := by
  unfold mkWrap
  split
  · rfl
  · split
    · rename_i hw; exact (wrap_same (Rng.within_has hw (rng_has h _))).symm
    · rfl
def mkAdd : E → E → E
  | .c a, .c b => .c (a + b)
  | a, .c b => if b = 0 then a else match a with | .add x (.c y) => .add x (.c (y + b)) | .sub x (.c y) => .add x (.c (b - y)) | a => .add a (.c b)
  | .c a, b => if a = 0 then b else .add (.c a) b
  | a, b => .add a b
theorem mkAdd_ok (ρ : Env) (a b : E) : (mkAdd a b).I ρ = a.I ρ + b.I ρ := by
  unfold mkAdd
  split
  · rfl
  · split
    · rename_i h; subst h; simp
    · split <;> simp <;> omega
  · split
    · rename_i h; subst h; simp
    · rfl
  · rfl
def mkSub : E → E → E
  | .c a, .c b => .c (a - b)
  | a, .c b => if b = 0 then a else match a with | .add x (.c y) => if y = b then x else .add x (.c (y - b)) | .sub x (.c y) => .sub x (.c (y + b)) | a => .sub a (.c b)
  | a, b => if a = b then .c 0 else .sub a b
theorem mkSub_ok (ρ : Env) (a b : E) : (mkSub a b).I ρ = a.I ρ - b.I ρ := by
  unfold mkSub
  split
  · rfl
  · split
    · rename_i h; subst h; simp
    · split
      · split
        · rename_i h; subst h; simp; try omega
        · simp; try omega
      · simp; try omega
      · rfl
  · split
    · rename_i h; subst h; simp
    · rfl
def mkMul : E → E → E
  | .c a, .c b => .c (a * b)
  | a, .c b => if b = 1 then a else .mul a (.c b)
  | .c a, b => if a = 1 then b else .mul (.c a) b
  | a, b => .mul a b
theorem mkMul_ok (ρ : Env) (a b : E) : (mkMul a b).I ρ = a.I ρ * b.I ρ := by
  unfold mkMul
  split
  · rfl
  · split
    · rename_i h; subst h; simp
    · rfl
  · split
    · rename_i h; subst h; simp
    · rfl
  · rfl
def mkQuo : E → E → E | .c a, .c b => .c (a.tdiv b) | a, b => .quo a b
theorem mkQuo_ok (ρ : Env) (a b : E) : (mkQuo a b).I ρ = (a.I ρ).tdiv (b.I ρ) := by unfold mkQuo; split <;> rfl
def mkRem : E → E → E | .c a, .c b => .c (a.tmod b) | a, b => .rem a b
theorem mkRem_ok (ρ : Env) (a b : E) : (mkRem a b).I ρ = (a.I ρ).tmod (b.I ρ) := by unfold mkRem; split <;> rfl
def mkB (F : List E) (e : E) : E := match decideB F e with | some true => .tt | some false => .ff | none => match e with | .not (.not a) => a | e => e
theorem mkB_ok {ρ : Env} {F : List E} (h : holds ρ F) (e : E) : (mkB F e).B ρ = e.B ρ := by
  unfold mkB
  split
  · rename_i hd; rw [decideB_ok h hd]; rfl
  · rename_i hd; rw [decideB_ok h hd]; rfl
  · split
    · simp
    · rfl
def mkLlen : E → E | .nil => .c 0 | .cons _ l => mkAdd (mkLlen l) (.c 1) | .lcat a b => mkAdd (mkLlen a) (mkLlen b) | e => .llen e
theorem mkLlen_ok (ρ : Env) : ∀ e : E, (mkLlen e).I ρ = ((e.L ρ).length : Nat) := by
  intro e
  induction e <;> simp only [mkLlen] <;> try (exact I_llen ρ _)
  case nil => rfl
  case cons a l _ ih => rw [mkAdd_ok, ih]; simp
  case lcat a b iha ihb => rw [mkAdd_ok, iha, ihb]; simp
def mkLen : E → E | .lit l => .c l.length | e => .len e
theorem mkLen_ok (ρ : Env) (e : E) : (mkLen e).I ρ = ((e.S ρ).size : Nat) := by
  unfold mkLen
  split
  · simp [ByteArray.size]
  · rfl
end Go.Proofs.YtkggfeemjabdeaaGreatDoor.Sx
