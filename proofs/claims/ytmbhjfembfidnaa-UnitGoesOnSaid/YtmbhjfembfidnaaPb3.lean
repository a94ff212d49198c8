/- Operations that yield their value in whatever world. -/
import Derived.Laws.StructEq
import Derived.Laws.Build
import Derived.Laws.Small
import Derived.Laws.Strings
import Derived.Test.YtmbhjfembfidnaaPb2
namespace Go.Proofs.Ytmbhjfembfidnaa.Sx
open Go

inductive R where
  | val (v : V) | split (e : E) | need (e : E)
  deriving Inhabited

/-- A value, if a truth is known; else it is asked for. -/
def ask (F : List E) (e : E) (v : V) : Option R := match decideB F e with | some true => some (.val v) | some false => none | none => some (.need e)
theorem ask_ok {ρ : Env} {F : List E} (h : holds ρ F) {e : E} {v u : V} (ha : ask F e v = some (.val u)) : e.B ρ = true ∧ u = v := by
  unfold ask at ha
  split at ha <;> cases ha
  rename_i hd
  exact ⟨decideB_ok h hd, rfl⟩

def cmpE (op : BinOp) (a b : E) : Option E :=
  match op with | .eql => some (.eq a b) | .neq => some (.not (.eq a b)) | .lss => some (.lt a b) | .leq => some (.le a b) | .gtr => some (.lt b a) | .geq => some (.le b a) | _ => none
theorem cmpE_ok {ρ : Env} {op : BinOp} {a b e : E} (h : cmpE op a b = some e) (P : Program) (w : World) : (Op.intCmp op (a.I ρ) (b.I ρ)).run P w = .ok (.bool (e.B ρ)) w := by
  unfold cmpE at h
  split at h <;> cases h <;> simp [Op.intCmp, BEq.beq, bne]

def mkBits (op : BinOp) (k : IntKind) : E → E → E | .c a, .c b => .c (bitsI op k a b) | a, b => .bits op k a b
theorem mkBits_ok (ρ : Env) (op : BinOp) (k : IntKind) (a b : E) : (mkBits op k a b).I ρ = bitsI op k (a.I ρ) (b.I ρ) := by unfold mkBits; split <;> rfl
def mkShl (F : List E) (k : IntKind) : E → E → E | a, .c b => if 0 ≤ b ∧ b ≤ 63 then mkWrap F k (mkMul a (.c (2 ^ (min b.toNat k.bits)))) else .shl k a (.c b) | a, b => .shl k a b
theorem mkShl_ok {ρ : Env} {F : List E} (h : holds ρ F) (k : IntKind) (a b : E) : (mkShl F k a b).I ρ = k.wrap (a.I ρ * 2 ^ (min (b.I ρ).toNat k.bits)) := by
  unfold mkShl
  split
  · split
    · rw [mkWrap_ok h, mkMul_ok]; rfl
    · rfl
  · rfl
def mkShr (k : IntKind) : E → E → E | .c a, .c b => .c (a.fdiv (2 ^ (min b.toNat k.bits))) | a, b => .shr k a b
theorem mkShr_ok (ρ : Env) (k : IntKind) (a b : E) : (mkShr k a b).I ρ = (a.I ρ).fdiv (2 ^ (min (b.I ρ).toNat k.bits)) := by unfold mkShr; split <;> rfl
def mkCat : E → E → E
  | .lit a, .lit b => .lit (a ++ b)
  | .lit [], b => b
  | a, .lit [] => a
  | a, b => .cat a b
theorem mkCat_ok (ρ : Env) (a b : E) : (mkCat a b).S ρ = a.S ρ ++ b.S ρ := by
  unfold mkCat
  split
  · apply ByteArray.ext; simp
  · apply ByteArray.ext; simp
  · apply ByteArray.ext; simp
  · rfl

def isBits : BinOp → Bool | .and | .or | .xor | .andNot => true | _ => false
theorem bits_run {op : BinOp} (h : isBits op = true) (k : IntKind) (x y : Int) (P : Program) (w : World) : (Op.intBits op k x y).run P w = .ok (.int k (bitsI op k x y)) w := by
  cases op <;> first | (cases h; done) | (simp [Op.intBits, bitsI])

def binR (P : Program) (F : List E) (op : BinOp) (t : TypeId) : V → V → Option R
  | .i k a, .i k' b =>
    match op with
    | .shl => ask F (.le (.c 0) b) (.i k (mkShl F k a b))
    | .shr => ask F (.le (.c 0) b) (.i k (mkShr k a b))
    | _ => if k = k' then match op with
      | .add => some (.val (.i k (mkWrap F k (mkAdd a b))))
      | .sub => some (.val (.i k (mkWrap F k (mkSub a b))))
      | .mul => some (.val (.i k (mkWrap F k (mkMul a b))))
      | .quo => ask F (.not (.eq b (.c 0))) (.i k (mkWrap F k (mkQuo a b)))
      | .rem => ask F (.not (.eq b (.c 0))) (.i k (mkRem a b))
      | .and => some (.val (.i k (mkBits .and k a b)))
      | .or => some (.val (.i k (mkBits .or k a b)))
      | .xor => some (.val (.i k (mkBits .xor k a b)))
      | .andNot => some (.val (.i k (mkBits .andNot k a b)))
      | op => (cmpE op a b).map fun e => .val (.b (mkB F e))
      else none
  | .s a, .s b =>
    match op with
    | .add => ask F (.le (.add (mkLen a) (mkLen b)) (.c 9223372036854775807)) (.s (mkCat a b))
    | .eql => some (.val (.b (mkB F (.seq a b))))
    | .neq => some (.val (.b (mkB F (.not (.seq a b)))))
    | _ => none
  | .b a, .b b =>
    match op, P.underlying t with
    | .eql, some .bool => some (.val (.b (mkB F (.or (.and a b) (.and (.not a) (.not b))))))
    | .neq, some .bool => some (.val (.b (mkB F (.not (.or (.and a b) (.and (.not a) (.not b)))))))
    | _, _ => none
  | .ptr _ _ _, .nilp =>
    match op, P.underlying t with
    | .eql, some (.pointer _) => some (.val (.b .ff))
    | .neq, some (.pointer _) => some (.val (.b .tt))
    | _, _ => none
  | .nilp, .nilp =>
    match op, P.underlying t with
    | .eql, some (.pointer _) => some (.val (.b .tt))
    | .neq, some (.pointer _) => some (.val (.b .ff))
    | _, _ => none
  | .nilp, .ptr _ _ _ =>
    match op, P.underlying t with
    | .eql, some (.pointer _) => some (.val (.b .ff))
    | .neq, some (.pointer _) => some (.val (.b .tt))
    | _, _ => none
  | .ptr b k [], .ptr b' k' [] =>
    if b = b' ∧ k = k' then match op, P.underlying t with
    | .eql, some (.pointer e) => if (P.info? e).isSome then some (.val (.b .tt)) else none
    | .neq, some (.pointer e) => if (P.info? e).isSome then some (.val (.b .ff)) else none
    | _, _ => none
    else none
  | .nils, .nils =>
    match op, P.underlying t with
    | .eql, some (.slice _) => some (.val (.b .tt))
    | .neq, some (.slice _) => some (.val (.b .ff))
    | _, _ => none
  | .sl _ _ _ _ _, .nils =>
    match op, P.underlying t with
    | .eql, some (.slice _) => some (.val (.b .ff))
    | .neq, some (.slice _) => some (.val (.b .tt))
    | _, _ => none
  | .fn _ _ _, .nilf =>
    match op, P.underlying t with
    | .eql, some (.func _ _ _) => some (.val (.b .ff))
    | .neq, some (.func _ _ _) => some (.val (.b .tt))
    | _, _ => none
  | _, _ => none

theorem bytes_beq (a b : ByteArray) : (a.toList == b.toList) = decide (a = b) := by
  rw [ByteArray.toList_eq, ByteArray.toList_eq]
  by_cases h : a = b
  · subst h; simp
  · rw [decide_eq_false h]
    simp only [beq_eq_false_iff_ne, ne_eq]
    exact fun e => h (ByteArray.ext (Array.ext' e))
theorem eqIn_ptr_nil {P : Program} (d : Nat) {t e : TypeId} (ht : P.underlying t = some (.pointer e)) (a : Option Addr) (w : World) : (Op.equalIn (d + 1) t (.pointer a) (.pointer none)).run P w = .ok a.isNone w := by
  cases a <;> simp [Op.equalIn, run_underlying ht]
theorem eqIn_nil_ptr {P : Program} (d : Nat) {t e : TypeId} (ht : P.underlying t = some (.pointer e)) (a : Addr) (w : World) : (Op.equalIn (d + 1) t (.pointer none) (.pointer (some a))).run P w = .ok false w := by
  simp [Op.equalIn, run_underlying ht]
theorem eqIn_ptr_same {P : Program} (d : Nat) {t e : TypeId} (ht : P.underlying t = some (.pointer e)) {i : TypeInfo} (hi : P.info? e = some i) (a : Addr) (w : World) : (Op.equalIn (d + 1) t (.pointer (some a)) (.pointer (some a))).run P w = .ok true w := by
  simp only [Op.equalIn, Sem.run_bind, run_underlying ht, Result.andThen_ok, sizeOf, typeInfo, run_program, hi, Sem.run_pure]
  by_cases h : i.size = 0
  · simp [h]
  · simp [h, sameAddr]
theorem eqIn_slice_nil {P : Program} (d : Nat) {t e : TypeId} (ht : P.underlying t = some (.slice e)) (a : Option Addr) (l c : Nat) (w : World) : (Op.equalIn (d + 1) t (.slice a l c) (.slice none 0 0)).run P w = .ok a.isNone w := by
  cases a <;> simp [Op.equalIn, run_underlying ht]
theorem eqIn_fn_nil {P : Program} (d : Nat) {t : TypeId} {a b : Array TypeId} {c : Bool} (ht : P.underlying t = some (.func a b c)) (f : Fn) (x y : Array Value) (w : World) : (Op.equalIn (d + 1) t (.func f x y) .nilFunc).run P w = .ok false w := by
  simp [Op.equalIn, run_underlying ht]
theorem equal_eql {P : Program} {t : TypeId} {u v : Value} {r : Bool} {w : World} (h : (Op.equalIn (9999 + 1) t u v).run P w = .ok r w) :
    ((do pure (.bool (← Op.equal t u v)) : Sem Value)).run P w = .ok (.bool r) w := by
  rw [Sem.run_bind]
  show ((Op.equalIn (9999 + 1) t u v).run P w).andThen _ = _
  rw [h]; rfl
theorem equal_neq {P : Program} {t : TypeId} {u v : Value} {r : Bool} {w : World} (h : (Op.equalIn (9999 + 1) t u v).run P w = .ok r w) :
    ((do pure (.bool (!(← Op.equal t u v))) : Sem Value)).run P w = .ok (.bool (!r)) w := by
  rw [Sem.run_bind]
  show ((Op.equalIn (9999 + 1) t u v).run P w).andThen _ = _
  rw [h]; rfl

theorem eqGuard_ok (P : Program) (op : BinOp) (t : TypeId) (x y : Operand) {u v : Value} (w : World) (h : match u with | .agg _ | .nilIface => False | _ => True) : (eqGuard op t x y u v).run P w = .ok () w := by
  cases u <;> first | (cases h; done) | (cases op <;> rfl)

theorem run_then {α : Type} {P : Program} {w : World} {x : Sem Unit} {y : Sem α} (h : x.run P w = .ok () w) : (x >>= fun _ => y).run P w = y.run P w := by
  rw [Sem.run_bind, h]; rfl

theorem binR_ok {P : Program} {ρ : Env} {F : List E} (h : holds ρ F) {op : BinOp} {t : TypeId} {x y v : V} (hr : binR P F op t x y = some (.val v)) (ox oy : Operand) (w : World) :
    ((do eqGuard op t ox oy (x.den ρ) (y.den ρ); binOp op t (x.den ρ) (y.den ρ)) : Sem Value).run P w = .ok (v.den ρ) w := by
  unfold binR at hr
  split at hr
  · -- numbers
    rename_i k a k' b
    rw [run_then (eqGuard_ok P op t ox oy w (by simp [den_i]))]
    simp only [den_i]
    split at hr
    · obtain ⟨h1, rfl⟩ := ask_ok h hr
      simp only [B_le, I_c, decide_eq_true_eq] at h1
      simp only [binOp, Op.shift]
      rw [Sem.run_ite, if_neg (by omega), den_i, mkShl_ok h]; rfl
    · obtain ⟨h1, rfl⟩ := ask_ok h hr
      simp only [B_le, I_c, decide_eq_true_eq] at h1
      simp only [binOp, Op.shift]
      rw [Sem.run_ite, if_neg (by omega), den_i, mkShr_ok]; rfl
    · split at hr
      · rename_i hk
        subst hk
        split at hr
        · cases hr; simp [binOp, Op.intArith, den_i, mkWrap_ok h, mkAdd_ok]
        · cases hr; simp [binOp, Op.intArith, den_i, mkWrap_ok h, mkSub_ok]
        · cases hr; simp [binOp, Op.intArith, den_i, mkWrap_ok h, mkMul_ok]
        · obtain ⟨h1, rfl⟩ := ask_ok h hr
          simp only [B_not, B_eq, I_c, Bool.not_eq_true', decide_eq_false_iff_not] at h1
          simp [binOp, Op.intDiv, h1, den_i, mkWrap_ok h, mkQuo_ok]
        · obtain ⟨h1, rfl⟩ := ask_ok h hr
          simp only [B_not, B_eq, I_c, Bool.not_eq_true', decide_eq_false_iff_not] at h1
          simp [binOp, Op.intDiv, h1, den_i, mkRem_ok]
        · cases hr; simp only [binOp, den_i, mkBits_ok, ne_eq, not_true_eq_false, if_false]; exact bits_run rfl _ _ _ _ _
        · cases hr; simp only [binOp, den_i, mkBits_ok, ne_eq, not_true_eq_false, if_false]; exact bits_run rfl _ _ _ _ _
        · cases hr; simp only [binOp, den_i, mkBits_ok, ne_eq, not_true_eq_false, if_false]; exact bits_run rfl _ _ _ _ _
        · cases hr; simp only [binOp, den_i, mkBits_ok, ne_eq, not_true_eq_false, if_false]; exact bits_run rfl _ _ _ _ _
        · simp only [Option.map_eq_some_iff] at hr
          obtain ⟨e, he, hv⟩ := hr
          cases hv
          rw [den_b, mkB_ok h, ← cmpE_ok he P w]
          unfold cmpE at he
          split at he <;> first | (cases he; done) | (simp [binOp])
      · cases hr
  · -- strings
    rename_i a b
    rw [run_then (eqGuard_ok P op t ox oy w (by simp [den_s]))]
    simp only [den_s]
    split at hr
    · obtain ⟨h1, rfl⟩ := ask_ok h hr
      simp only [B_le, I_add, I_c, mkLen_ok, decide_eq_true_eq] at h1
      simp only [binOp, Op.stringOp]
      rw [Sem.run_ite, if_neg (by rw [IntKind.max_i64]; omega), den_s, mkCat_ok]; rfl
    · cases hr
      simp [binOp, Op.stringOp, den_b, mkB_ok h, bytes_beq]
    · cases hr
      simp [binOp, Op.stringOp, den_b, mkB_ok h, bytes_beq]
    · cases hr
  · -- truths
    rename_i a b
    rw [run_then (eqGuard_ok P op t ox oy w (by simp [den_b]))]
    simp only [den_b]
    split at hr
    · rename_i ht
      cases hr
      refine (equal_eql (run_equalIn_bool' _ _ _ _ _ ht)).trans ?_
      rw [den_b, mkB_ok h]
      simp only [B_or, B_and, B_not]
      cases a.B ρ <;> cases b.B ρ <;> rfl
    · rename_i ht
      cases hr
      refine (equal_neq (run_equalIn_bool' _ _ _ _ _ ht)).trans ?_
      rw [den_b, mkB_ok h]
      simp only [B_or, B_and, B_not]
      cases a.B ρ <;> cases b.B ρ <;> rfl
    · cases hr
  · rw [run_then (eqGuard_ok P op t ox oy w (by simp [den_ptr]))]
    simp only [den_ptr, den_nilp]
    split at hr
    · rename_i ht
      cases hr
      exact equal_eql (eqIn_ptr_nil _ ht _ w)
    · rename_i ht
      cases hr
      exact equal_neq (eqIn_ptr_nil _ ht _ w)
    · cases hr
  · rw [run_then (eqGuard_ok P op t ox oy w (by simp [den_nilp]))]
    simp only [den_nilp]
    split at hr
    · rename_i ht
      cases hr
      exact equal_eql (eqIn_ptr_nil _ ht _ w)
    · rename_i ht
      cases hr
      exact equal_neq (eqIn_ptr_nil _ ht _ w)
    · cases hr
  · rw [run_then (eqGuard_ok P op t ox oy w (by simp [den_nilp]))]
    simp only [den_ptr, den_nilp]
    split at hr
    · rename_i ht
      cases hr
      exact equal_eql (eqIn_nil_ptr _ ht _ w)
    · rename_i ht
      cases hr
      exact equal_neq (eqIn_nil_ptr _ ht _ w)
    · cases hr
  · split at hr
    case isFalse => cases hr
    rename_i hc
    obtain ⟨rfl, rfl⟩ := hc
    rw [run_then (eqGuard_ok P op t ox oy w (by simp [den_ptr]))]
    simp only [den_ptr]
    split at hr
    · rename_i e ht
      split at hr
      · rename_i hi
        cases hr
        obtain ⟨i, hi⟩ := Option.isSome_iff_exists.1 hi
        exact equal_eql (eqIn_ptr_same _ ht hi _ w)
      · cases hr
    · rename_i e ht
      split at hr
      · rename_i hi
        cases hr
        obtain ⟨i, hi⟩ := Option.isSome_iff_exists.1 hi
        exact equal_neq (eqIn_ptr_same _ ht hi _ w)
      · cases hr
    · cases hr
  · rw [run_then (eqGuard_ok P op t ox oy w (by simp [den_nils]))]
    simp only [den_nils]
    split at hr
    · rename_i ht
      cases hr
      exact equal_eql (eqIn_slice_nil _ ht _ _ _ w)
    · rename_i ht
      cases hr
      exact equal_neq (eqIn_slice_nil _ ht _ _ _ w)
    · cases hr
  · rw [run_then (eqGuard_ok P op t ox oy w (by simp [den_sl]))]
    simp only [den_sl, den_nils]
    split at hr
    · rename_i ht
      cases hr
      exact equal_eql (eqIn_slice_nil _ ht _ _ _ w)
    · rename_i ht
      cases hr
      exact equal_neq (eqIn_slice_nil _ ht _ _ _ w)
    · cases hr
  · rw [run_then (eqGuard_ok P op t ox oy w (by simp [den_fn]))]
    simp only [den_fn, den_nilf]
    split at hr
    · rename_i ht
      cases hr
      exact equal_eql (eqIn_fn_nil _ ht _ _ _ w)
    · rename_i ht
      cases hr
      exact equal_neq (eqIn_fn_nil _ ht _ _ _ w)
    · cases hr
  · cases hr
end Go.Proofs.Ytmbhjfembfidnaa.Sx
