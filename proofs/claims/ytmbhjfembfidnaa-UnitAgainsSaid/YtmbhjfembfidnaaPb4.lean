/- More operations that yield their value in whatever world. All operations that yield their value in whatever world; loads. -/
import Derived.Laws.Tables
import Derived.Test.YtmbhjfembfidnaaPb3
section
namespace Go.Proofs.Ytmbhjfembfidnaa.Sx
open Go

def arr (ρ : Env) (l : List V) : Array Value := (l.map (V.den ρ)).toArray
/-- The cells of a value. -/
def V.cells : V → Option (List V)
  | .agg l => some l.toL
  | .var _ => none
  | .rptr _ _ _ => none
  | x => some [x]
theorem cells_ok {ρ : Env} {x : V} {l : List V} (h : x.cells = some l) : (x.den ρ).cells = arr ρ l := by
  cases x <;> simp only [V.cells, Option.some.injEq, reduceCtorEq] at h <;> subst h <;> first | rfl | skip
  case rsl n =>
    show (asSl (ρ.v n)).cells = #[asSl (ρ.v n)]
    unfold asSl; split <;> rfl
  rename_i l
  show (Value.agg (l.dens ρ).toArray).cells = _
  simp only [Value.cells, arr, toL_dens]

def setsV : List V → Nat → List V → List V
  | c, _, [] => c
  | c, o, v :: l => setsV (c.set o v) (o + 1) l
def fillV (place : Nat → Option (Nat × Nat)) (cells : List V) : List (Nat × V) → Option (List V)
  | [] => some cells
  | (i, v) :: rest =>
    match place i, v.cells with
    | some (off, size), some l => if l.length ≠ size || off + l.length > cells.length then none else fillV place (setsV cells off l) rest
    | _, _ => none
theorem sets_ok (ρ : Env) : ∀ (l : List V) (c : List V) (o j : Nat), List.foldl (fun cs (p : Value × Nat) => Array.setIfInBounds cs (o + p.2) p.1) (arr ρ c) ((l.map (V.den ρ)).zipIdx j) = arr ρ (setsV c (o + j) l)
  | [], c, o, j => rfl
  | v :: l, c, o, j => by
    have e1 : (arr ρ c).setIfInBounds (o + j) (v.den ρ) = arr ρ (c.set (o + j) v) := by simp [arr, List.map_set]
    simp only [List.map_cons, List.zipIdx_cons, List.foldl_cons, e1, setsV]
    exact sets_ok ρ l _ o (j + 1)
theorem fillV_ok (ρ : Env) (place : Nat → Option (Nat × Nat)) : ∀ (parts : List (Nat × V)) (c c' : List V), fillV place c parts = some c' → Instr.fill place (arr ρ c) (parts.map fun p => (p.1, p.2.den ρ)) = some (arr ρ c')
  | [], c, c', h => by cases h; rfl
  | (i, v) :: rest, c, c', h => by
    simp only [fillV] at h
    split at h
    · rename_i off size l h1 h2
      split at h
      · cases h
      · rename_i hn
        simp only [List.map_cons, Instr.fill, h1, cells_ok (ρ := ρ) h2]
        have hs : (arr ρ l).size = l.length := by simp [arr]
        have hc : (arr ρ c).size = c.length := by simp [arr]
        rw [hs, hc, if_neg hn]
        have : (arr ρ l).zipIdx.foldl (fun cs (x : Value × Nat) => cs.setIfInBounds (off + x.2) x.1) (arr ρ c) = arr ρ (setsV c off l) := by
          have := sets_ok ρ l c off 0
          simpa [arr] using this
        simp only [this]
        exact fillV_ok ρ place rest _ _ h
    · cases h

def zeroV (P : Program) (t : TypeId) : Option V := match P.info? t with | some i => (match i.zero with | some z => ofV z | none => none) | none => none
theorem zeroV_ok {P : Program} {ρ : Env} {t : TypeId} {x : V} (h : zeroV P t = some x) : ∃ i, P.info? t = some i ∧ i.zero = some (x.den ρ) := by
  unfold zeroV at h
  split at h
  · rename_i i hi
    split at h
    · rename_i z hz
      exact ⟨i, hi, by rw [hz, ofV_ok h]⟩
    · cases h
  · cases h
def builtV (P : Program) (t : TypeId) (parts : List (Nat × V)) : Option V :=
  match zeroV P t, P.underlying t with
  | some z, some (.array _ e) => match z.cells, P.info? e with | some c, some ie => (fillV (fun i => some (i * ie.size, ie.size)) c parts).map fun l => .agg (V.ofL l) | _, _ => none
  | some z, some (.struct fields) => match z.cells, fields.toList.mapM (fun f => (P.info? f.type).map fun i => (f.offset, i.size)) with
    | some c, some places => (fillV (places.toArray[·]?) c parts).map fun l => .agg (V.ofL l)
    | _, _ => none
  | _, _ => none
theorem agg_ofL (ρ : Env) (l : List V) : V.den ρ (.agg (V.ofL l)) = .agg (arr ρ l) := by rw [den_agg, dens_ofL]; rfl
theorem builtV_ok {P : Program} {ρ : Env} {t : TypeId} {parts : List (Nat × V)} {x : V} (h : builtV P t parts = some x) (ps : Array (Nat × Value)) (hp : ps.toList = parts.map fun p => (p.1, p.2.den ρ)) (w : World) :
    (Instr.build t ps).run P w = .ok (x.den ρ) w := by
  unfold builtV at h
  split at h
  · rename_i z n e hz hu
    split at h
    · rename_i c ie hc hi
      rw [Option.map_eq_some_iff] at h
      obtain ⟨l, hl, rfl⟩ := h
      obtain ⟨i, h1, h2⟩ := zeroV_ok (ρ := ρ) hz
      rw [agg_ofL]
      refine run_build w t ps _ ?_
      simp only [Program.built, h1, hu, h2, hi, cells_ok (ρ := ρ) hc, hp]
      exact fillV_ok ρ _ _ _ _ hl
    · cases h
  · rename_i z fields hz hu
    split at h
    · rename_i c places hc hpl
      rw [Option.map_eq_some_iff] at h
      obtain ⟨l, hl, rfl⟩ := h
      obtain ⟨i, h1, h2⟩ := zeroV_ok (ρ := ρ) hz
      rw [agg_ofL]
      refine run_build w t ps _ ?_
      simp only [Program.built, h1, hu, h2, hpl, cells_ok (ρ := ρ) hc, hp]
      exact fillV_ok ρ _ _ _ _ hl
    · cases h
  · cases h

def isAggV (P : Program) (t : TypeId) : Option Bool := match P.underlying t with | some (.struct _) | some (.array _ _) => some true | some _ => some false | none => none
theorem isAgg_ok {P : Program} {t : TypeId} {b : Bool} (h : isAggV P t = some b) (w : World) : (isAgg t).run P w = .ok b w := by
  unfold isAggV at h
  unfold isAgg
  split at h <;> cases h <;> rename_i hu
  · simp [run_underlying hu]
  · simp [run_underlying hu]
  · rename_i d h1 h2 
    rw [Sem.run_bind, run_underlying hu]
    simp only [Result.andThen_ok]
    first
      | rfl
      | (split
         · rename_i hd; exact absurd rfl (h1 _)
         · rename_i hd; exact absurd rfl (h2 _ _)
         · rfl)
def sizeV (P : Program) (t : TypeId) : Option Nat := (P.info? t).map (·.size)
theorem sizeOf_ok {P : Program} {t : TypeId} {n : Nat} (h : sizeV P t = some n) (w : World) : (sizeOf t).run P w = .ok n w := by
  unfold sizeV at h
  rw [Option.map_eq_some_iff] at h
  obtain ⟨i, hi, rfl⟩ := h
  simp [sizeOf, typeInfo, hi]
/-- A part of a struct or an array. -/
def partV (P : Program) (t : TypeId) (l : List V) (off : Nat) : Option V :=
  match isAggV P t, sizeV P t with
  | some true, some n => some (.agg (V.ofL ((l.drop off).take n)))
  | some false, _ => l[off]?
  | _, _ => none
theorem arr_extract (ρ : Env) (l : List V) (a n : Nat) : (arr ρ l).extract a (a + n) = arr ρ ((l.drop a).take n) := by
  simp only [arr, List.extract_toArray, List.extract_eq_take_drop, List.map_take, List.map_drop]
  congr 1
  rw [Nat.add_sub_cancel_left]
theorem partV_ok {P : Program} {ρ : Env} {t : TypeId} {l : List V} {off : Nat} {x : V} (h : partV P t l off = some x) (w : World) : (part t (arr ρ l) off).run P w = .ok (x.den ρ) w := by
  unfold partV at h
  split at h
  · rename_i n h1 h2
    cases h
    simp only [part, Sem.run_bind, isAgg_ok h1, Result.andThen_ok, if_true, sizeOf_ok h2, agg_ofL, Sem.run_pure, arr_extract]
  · rename_i h1
    simp only [part, Sem.run_bind, isAgg_ok h1, Result.andThen_ok, Bool.false_eq_true, if_false]
    have : (arr ρ l)[off]? = some (x.den ρ) := by simp [arr, h]
    rw [this]; rfl
  · cases h

def unR (F : List E) (op : UnOp) : V → Option R
  | .i k a => match op with | .neg => some (.val (.i k (mkWrap F k (mkSub (.c 0) a)))) | _ => none
  | .b a => match op with | .not => some (.val (.b (mkB F (.not a)))) | _ => none
  | _ => none
theorem unR_ok {P : Program} {ρ : Env} {F : List E} (h : holds ρ F) {op : UnOp} {x v : V} (hr : unR F op x = some (.val v)) (w : World) : (Op.unary op (x.den ρ)).run P w = .ok (v.den ρ) w := by
  unfold unR at hr
  split at hr
  · split at hr <;> cases hr
    simp [den_i, Op.unary, Op.intArith, mkWrap_ok h, mkSub_ok]
  · split at hr <;> cases hr
    simp [den_b, Op.unary, mkB_ok h]
  · cases hr

def convR (P : Program) (F : List E) (src dst : TypeId) : V → Option R
  | .i _ a => match P.underlying src, P.underlying dst with
    | some _, some (.int k) => some (.val (.i k (mkWrap F k a)))
    | _, _ => none
  | .s a => match P.underlying src, P.underlying dst with
    | some .string, some .string => some (.val (.s a))
    | _, _ => none
  | _ => none
theorem convR_ok {P : Program} {ρ : Env} {F : List E} (h : holds ρ F) {src dst : TypeId} {x v : V} (hr : convR P F src dst x = some (.val v)) (w : World) : (convert src dst (x.den ρ)).run P w = .ok (v.den ρ) w := by
  unfold convR at hr
  split at hr
  · split at hr <;> cases hr
    rename_i h1 h2
    simp only [convert, Sem.run_bind, run_underlying h1, run_underlying h2, Result.andThen_ok, den_i, mkWrap_ok h]
    rfl
  · split at hr <;> cases hr
    rename_i h1 h2
    simp only [convert, Sem.run_bind, run_underlying h1, run_underlying h2, Result.andThen_ok, den_s]
    rfl
  · cases hr

theorem offN_add (ρ : Env) (k n : Nat) (l : List (Nat × E)) : offN ρ (k + n) l = offN ρ k l + n := by
  unfold offN
  induction l generalizing k with
  | nil => rfl
  | cons p l ih =>
    simp only [List.foldl_cons]
    rw [show k + n + (p.2.I ρ).toNat * p.1 = k + (p.2.I ρ).toNat * p.1 + n by omega]
    exact ih _
theorem addr_add (ρ : Env) (b : Bk) (k n : Nat) (l : List (Nat × E)) : (addrD ρ b k l).add n = addrD ρ b (k + n) l := by
  unfold Addr.add addrD
  split
  · rename_i h; subst h; rfl
  · rw [offN_add]
theorem offN_snoc (ρ : Env) (k s : Nat) (e : E) (l : List (Nat × E)) : offN ρ k (l ++ [(s, e)]) = offN ρ k l + (e.I ρ).toNat * s := by
  simp [offN, List.foldl_append]
theorem addr_snoc (ρ : Env) (b : Bk) (k s : Nat) (e : E) (l : List (Nat × E)) : (addrD ρ b k l).add ((e.I ρ).toNat * s) = addrD ρ b k (l ++ [(s, e)]) := by
  unfold Addr.add addrD
  split
  · rename_i h; rw [offN_snoc, h]; rfl
  · rw [offN_snoc]

def fieldAddrR (P : Program) (t : TypeId) (n : Nat) : V → Option R
  | .ptr b k l => match P.underlying t with
    | some (.struct fs) => match fs[n]? with
      | some f => match sizeV P f.type with | some (_m + 1) => some (.val (.ptr b (k + f.offset) l)) | _ => none
      | none => none
    | _ => none
  | _ => none
theorem fieldAddrR_ok {P : Program} {ρ : Env} {t : TypeId} {n : Nat} {x v : V} (hr : fieldAddrR P t n x = some (.val v)) (w : World) : (Instr.fieldAt t (x.den ρ) n).run P w = .ok (v.den ρ) w := by
  unfold fieldAddrR at hr
  split at hr
  · split at hr
    · rename_i hu
      split at hr
      · rename_i f hf
        split at hr
        · rename_i m hm
          cases hr
          simp only [Instr.fieldAt, Sem.run_bind, run_underlying hu, Result.andThen_ok, hf, den_ptr, Instr.sureAddr, Sem.run_pure, fieldPlace, sizeOf_ok hm]
          simp [addr_add]
        · cases hr
      · cases hr
    · cases hr
  · cases hr
def fieldR (P : Program) (t : TypeId) (n : Nat) : V → Option R
  | .agg l => match P.underlying t with
    | some (.struct fs) => match fs[n]? with
      | some f => (partV P f.type l.toL f.offset).map .val
      | none => none
    | _ => none
  | _ => none
theorem arr_toL (ρ : Env) (l : V) : (l.dens ρ).toArray = arr ρ l.toL := by simp [arr, toL_dens]
theorem fieldR_ok {P : Program} {ρ : Env} {t : TypeId} {n : Nat} {x v : V} (hr : fieldR P t n x = some (.val v)) (w : World) : (Instr.field t (x.den ρ) n).run P w = .ok (v.den ρ) w := by
  unfold fieldR at hr
  split at hr
  · split at hr
    · rename_i hu
      split at hr
      · rename_i f hf
        rw [Option.map_eq_some_iff] at hr
        obtain ⟨y, hy, hv⟩ := hr
        cases hv
        simp only [Instr.field, Sem.run_bind, run_underlying hu, Result.andThen_ok, hf, den_agg, asAgg, Sem.run_pure, arr_toL, partV_ok hy]
      · cases hr
    · cases hr
  · cases hr

def mkByte : E → E → E
  | .lit l, .c z => if 0 ≤ z then .c (((⟨l.toArray⟩ : ByteArray)[z.toNat]?.map UInt8.toNat).getD 0 : Nat) else .byte (.lit l) (.c z)
  | a, e => .byte a e
theorem mkByte_ok (ρ : Env) (a e : E) : (mkByte a e).I ρ = (E.byte a e).I ρ := by
  unfold mkByte
  split
  · split
    · simp only [I_c, I_byte]; rfl
    · rfl
  · rfl
def indexR (P : Program) (F : List E) (t : TypeId) : V → V → Option R
  | .agg l, .i _ e => match P.underlying t with
    | some (.array len elem) => match e, sizeV P elem with
      | .c z, some n => if 0 ≤ z ∧ z < len then (partV P elem l.toL (z.toNat * n)).map .val else none
      | _, _ => none
    | _ => none
  | .s a, .i _ e => match P.underlying t with
    | some .string => match decideB F (.le (.c 0) e) with
      | some true => ask F (.lt e (mkLen a)) (.i .u8 (mkByte a e))
      | none => some (.need (.le (.c 0) e))
      | _ => none
    | _ => none
  | _, _ => none
theorem indexR_ok {P : Program} {ρ : Env} {F : List E} (h : holds ρ F) {t : TypeId} {x y v : V} (hr : indexR P F t x y = some (.val v)) (w : World) : (Instr.index t (x.den ρ) (y.den ρ)).run P w = .ok (v.den ρ) w := by
  unfold indexR at hr
  split at hr
  · split at hr
    · rename_i hu
      split at hr
      · rename_i z n hn
        split at hr
        · rename_i hz
          rw [Option.map_eq_some_iff] at hr
          obtain ⟨u, hu2, hv⟩ := hr
          cases hv
          simp only [Instr.index, den_i, asIntOf, Sem.run_bind, Sem.run_pure, Result.andThen_ok, run_underlying hu, den_agg, I_c, arr_toL, Sem.run_ite]
          rw [if_pos hz, sizeOf_ok hn]
          exact partV_ok hu2 w
        · cases hr
      · cases hr
    · cases hr
  · rename_i a k e
    split at hr
    · rename_i hu
      split at hr
      · rename_i h0
        have h0 := decideB_ok h h0
        obtain ⟨h1, rfl⟩ := ask_ok h hr
        simp only [B_le, B_lt, I_c, mkLen_ok, decide_eq_true_eq] at h0 h1
        have hlt : (e.I ρ).toNat < (a.S ρ).size := by omega
        have hs : (a.S ρ)[(e.I ρ).toNat]? = some ((a.S ρ)[(e.I ρ).toNat]'hlt) := by simp [hlt]
        simp only [Instr.index, den_i, den_s, asIntOf, Sem.run_bind, Sem.run_pure, Result.andThen_ok, run_underlying hu, if_pos h0, hs, mkByte_ok, I_byte]
        rfl
      · cases hr
      · cases hr
    · cases hr
  · cases hr

def indexAddrR (P : Program) (F : List E) (t : TypeId) : V → V → Option R
  | .sl b k l n _, .i _ e => match P.underlying t with
    | some (.slice elem) => match sizeV P elem with
      | some s => match decideB F (.le (.c 0) e) with
        | some true => ask F (.lt e n) (match e with | .c z => .ptr b (k + z.toNat * s) l | e => .ptr b k (l ++ [(s, e)]))
        | none => some (.need (.le (.c 0) e))
        | _ => none
      | none => none
    | _ => none
  | .ptr b k l, .i _ e => match P.underlying t with
    | some (.array n elem) => match sizeV P elem with
      | some s => match decideB F (.le (.c 0) e) with
        | some true => ask F (.lt e (.c n)) (match e with | .c z => .ptr b (k + z.toNat * s) l | e => .ptr b k (l ++ [(s, e)]))
        | none => some (.need (.le (.c 0) e))
        | _ => none
      | none => none
    | _ => none
  | _, _ => none
theorem ptrAt_ok (ρ : Env) (b : Bk) (k s : Nat) (l : List (Nat × E)) (e : E) : V.den ρ (match e with | .c z => .ptr b (k + z.toNat * s) l | e => .ptr b k (l ++ [(s, e)])) = .pointer (some ((addrD ρ b k l).add ((e.I ρ).toNat * s))) := by
  split
  · rw [den_ptr, addr_add]; rfl
  · rw [den_ptr, addr_snoc]
theorem indexAddrR_ok {P : Program} {ρ : Env} {F : List E} (h : holds ρ F) {t : TypeId} {x y v : V} (hr : indexAddrR P F t x y = some (.val v)) (w : World) : (Instr.indexAt t (x.den ρ) (y.den ρ)).run P w = .ok (v.den ρ) w := by
  unfold indexAddrR at hr
  split at hr
  · split at hr
    · rename_i hu
      split at hr
      · rename_i s hs
        split at hr
        · rename_i h0
          have h0 := decideB_ok h h0
          obtain ⟨h1, rfl⟩ := ask_ok h hr
          simp only [B_le, B_lt, I_c, decide_eq_true_eq] at h0 h1
          simp only [Instr.indexAt, den_i, den_sl, asIntOf, Sem.run_bind, Sem.run_pure, Result.andThen_ok, run_underlying hu, Sem.run_ite, sizeOf_ok hs, ptrAt_ok]
          rw [if_pos (by omega)]
        · cases hr
        · cases hr
      · cases hr
    · cases hr
  · split at hr
    · rename_i hu
      split at hr
      · rename_i s hs
        split at hr
        · rename_i h0
          have h0 := decideB_ok h h0
          obtain ⟨h1, rfl⟩ := ask_ok h hr
          simp only [B_le, B_lt, I_c, decide_eq_true_eq] at h0 h1
          simp only [Instr.indexAt, den_i, den_ptr, asIntOf, Instr.sureAddr, Sem.run_bind, Sem.run_pure, Result.andThen_ok, run_underlying hu, Sem.run_ite, sizeOf_ok hs, ptrAt_ok]
          rw [if_pos (by omega)]
        · cases hr
        · cases hr
      · cases hr
    · cases hr
  · cases hr

/-! ### Structs compared -/
/-- Two values of one field. -/
def eqV (P : Program) (t : TypeId) : V → V → Option E
  | .i k a, .i k' b => match P.underlying t with | some (.int _) => if k = k' then some (.eq a b) else none | _ => none
  | .s a, .s b => match P.underlying t with | some .string => some (.seq a b) | _ => none
  | .b a, .b b => match P.underlying t with | some .bool => some (.or (.and a b) (.and (.not a) (.not b))) | _ => none
  | _, _ => none
theorem eqV_ok {P : Program} {ρ : Env} {t : TypeId} {x y : V} {e : E} (h : eqV P t x y = some e) (d : Nat) (w : World) : (Op.equalIn (d + 1) t (x.den ρ) (y.den ρ)).run P w = .ok (e.B ρ) w := by
  unfold eqV at h
  split at h
  · split at h
    · rename_i hu
      split at h
      · rename_i hk
        cases h
        subst hk
        rw [den_i, den_i, run_equalIn_int w d t _ _ _ _ hu, B_eq]
        rfl
      · cases h
    · cases h
  · split at h
    · rename_i hu
      cases h
      rw [den_s, den_s, run_equalIn_string w d t _ _ hu, B_seq, bytes_beq]
    · cases h
  · split at h
    · rename_i hu
      cases h
      rw [den_b, den_b, run_equalIn_bool' w d t _ _ hu]
      simp only [B_or, B_and, B_not]
      congr 1
      cases E.B ρ _ <;> cases E.B ρ _ <;> rfl
    · cases h
  · cases h
def eqFs (P : Program) (xs ys : List V) : List Field → Option E
  | [] => some .tt
  | f :: fs =>
    if f.name ≠ "_" then
      match partV P f.type xs f.offset, partV P f.type ys f.offset, eqFs P xs ys fs with
      | some a, some b, some r => match eqV P f.type a b with | some e => some (match r with | .tt => e | r => .and e r) | none => none
      | _, _, _ => none
    else eqFs P xs ys fs
theorem eqFs_ok {P : Program} {ρ : Env} {xs ys : List V} (d : Nat) (w : World) : ∀ {fs : List Field} {e : E}, eqFs P xs ys fs = some e → (Op.eqFields (d + 1) (arr ρ xs) (arr ρ ys) fs).run P w = .ok (e.B ρ) w
  | [], e, h => by cases h; rfl
  | f :: fs, e, h => by
    simp only [eqFs] at h
    simp only [Op.eqFields]
    split at h
    · rename_i hn
      rw [if_pos hn]
      split at h
      · rename_i a b r h1 h2 h3
        split at h
        · rename_i q hq
          cases h
          have ih := eqFs_ok (ρ := ρ) d w h3
          simp only [Sem.run_bind, partV_ok h1, partV_ok h2, Result.andThen_ok, eqV_ok hq]
          have hB : (match r with | .tt => q | r => E.and q r).B ρ = (q.B ρ && r.B ρ) := by
            split
            · simp
            · rfl
          rw [hB]
          cases hqb : q.B ρ with
          | false => simp
          | true => simp [ih]
        · cases h
      · cases h
    · rename_i hn
      rw [if_neg hn]
      exact eqFs_ok d w h
/-- The same, where a field may be a struct of plain fields. -/
def eqV2 (P : Program) (t : TypeId) (x y : V) : Option E :=
  match x, y with
  | .agg a, .agg b => match P.underlying t with
    | some (.struct fs) => if P.stoodInHeld t = false then eqFs P a.toL b.toL fs.toList else none
    | _ => none
  | _, _ => eqV P t x y
theorem eqV2_ok {P : Program} {ρ : Env} {t : TypeId} {x y : V} {e : E} (h : eqV2 P t x y = some e) (d : Nat) (w : World) : (Op.equalIn (d + 2) t (x.den ρ) (y.den ρ)).run P w = .ok (e.B ρ) w := by
  unfold eqV2 at h
  split at h
  · rename_i a b
    split at h
    · rename_i fs hu
      split at h
      · rename_i hc
        have hfo : P.fieldsOf t = fs := by unfold Program.fieldsOf; rw [hu]
        have := run_equalIn_struct (P := P) w (d + 1) t (arr ρ a.toL) (arr ρ b.toL) (by rw [hfo]; exact hu) hc
        rw [den_agg, den_agg, arr_toL, arr_toL, this, hfo]
        exact eqFs_ok d w h
      · cases h
    · cases h
  · exact eqV_ok h (d + 1) w
def eqFs2 (P : Program) (xs ys : List V) : List Field → Option E
  | [] => some .tt
  | f :: fs =>
    if f.name ≠ "_" then
      match partV P f.type xs f.offset, partV P f.type ys f.offset, eqFs2 P xs ys fs with
      | some a, some b, some r => match eqV2 P f.type a b with | some e => some (match r with | .tt => e | r => .and e r) | none => none
      | _, _, _ => none
    else eqFs2 P xs ys fs
theorem eqFs2_ok {P : Program} {ρ : Env} {xs ys : List V} (d : Nat) (w : World) : ∀ {fs : List Field} {e : E}, eqFs2 P xs ys fs = some e → (Op.eqFields (d + 2) (arr ρ xs) (arr ρ ys) fs).run P w = .ok (e.B ρ) w
  | [], e, h => by cases h; rfl
  | f :: fs, e, h => by
    simp only [eqFs2] at h
    simp only [Op.eqFields]
    split at h
    · rename_i hn
      rw [if_pos hn]
      split at h
      · rename_i a b r h1 h2 h3
        split at h
        · rename_i q hq
          cases h
          have ih := eqFs2_ok (ρ := ρ) d w h3
          simp only [Sem.run_bind, partV_ok h1, partV_ok h2, Result.andThen_ok, eqV2_ok hq]
          have hB : (match r with | .tt => q | r => E.and q r).B ρ = (q.B ρ && r.B ρ) := by
            split
            · simp
            · rfl
          rw [hB]
          cases hqb : q.B ρ with
          | false => simp
          | true => simp [ih]
        · cases h
      · cases h
    · rename_i hn
      rw [if_neg hn]
      exact eqFs2_ok d w h
/-- A struct's fields, if it can be compared field by field and holds no interface. -/
def flatV (P : Program) (t : TypeId) : Option (List Field) :=
  match P.underlying t with
  | some (.struct fs) => if P.stoodInHeld t = false ∧ P.eqGuardType P.depth t = false then some fs.toList else none
  | _ => none
def structR (P : Program) (F : List E) (op : BinOp) (t : TypeId) : V → V → Option R
  | .agg x, .agg y => match flatV P t with
    | some fs => match eqFs2 P x.toL y.toL fs, op with
      | some e, .eql => some (.val (.b (mkB F e)))
      | some e, .neq => some (.val (.b (mkB F (.not e))))
      | _, _ => none
    | none => none
  | _, _ => none
theorem structR_ok {P : Program} {ρ : Env} {F : List E} (h : holds ρ F) {op : BinOp} {t : TypeId} {x y v : V} (hr : structR P F op t x y = some (.val v)) (ox oy : Operand) (w : World) :
    ((do eqGuard op t ox oy (x.den ρ) (y.den ρ); binOp op t (x.den ρ) (y.den ρ)) : Sem Value).run P w = .ok (v.den ρ) w := by
  unfold structR at hr
  split at hr
  · rename_i x y
    split at hr
    · rename_i fs hf
      unfold flatV at hf
      split at hf
      · rename_i fs' hu
        split at hf
        · rename_i hc
          cases hf
          have hfo : P.fieldsOf t = fs' := by unfold Program.fieldsOf; rw [hu]
          have hg : (eqGuard op t ox oy (.agg (arr ρ x.toL)) (.agg (arr ρ y.toL))).run P w = .ok () w := by
            unfold eqGuard
            cases op <;> simp [hc.2]
          have key : ∀ {e : E}, eqFs2 P x.toL y.toL fs'.toList = some e → (Op.equalIn (9998 + 1 + 1) t (.agg (arr ρ x.toL)) (.agg (arr ρ y.toL))).run P w = .ok (e.B ρ) w := fun {e} he => by
            have := run_equalIn_struct (P := P) w (9998 + 1) t (arr ρ x.toL) (arr ρ y.toL) (by rw [hfo]; exact hu) hc.1
            rw [this, hfo]
            exact eqFs2_ok 9997 w he
          rw [den_agg, den_agg, arr_toL, arr_toL, run_then hg]
          split at hr
          · rename_i e he
            cases hr
            rw [den_b, mkB_ok h]
            exact equal_eql (key he)
          · rename_i e he
            cases hr
            rw [den_b, mkB_ok h, B_not]
            exact equal_neq (key he)
          · cases hr
        · cases hf
      · cases hf
    · cases hr
  · cases hr
end Go.Proofs.Ytmbhjfembfidnaa.Sx
end
section
namespace Go.Proofs.Ytmbhjfembfidnaa.Sx
open Go

def mkMin (F : List E) (a b : E) : E := match decideB F (.lt b a) with | some true => b | some false => a | none => .ite (.lt b a) b a
theorem mkMin_ok {ρ : Env} {F : List E} (h : holds ρ F) (a b : E) : (mkMin F a b).I ρ = if b.I ρ < a.I ρ then b.I ρ else a.I ρ := by
  unfold mkMin
  split
  · rename_i hd; have := decideB_ok h hd; simp only [B_lt, decide_eq_true_eq] at this; rw [if_pos this]
  · rename_i hd; have := decideB_ok h hd; simp only [B_lt, decide_eq_false_iff_not] at this; rw [if_neg this]
  · simp only [I_ite, B_lt, decide_eq_true_eq]
def mkMax (F : List E) (a b : E) : E := match decideB F (.lt a b) with | some true => b | some false => a | none => .ite (.lt a b) b a
theorem mkMax_ok {ρ : Env} {F : List E} (h : holds ρ F) (a b : E) : (mkMax F a b).I ρ = if b.I ρ > a.I ρ then b.I ρ else a.I ρ := by
  unfold mkMax
  split
  · rename_i hd; have := decideB_ok h hd; simp only [B_lt, decide_eq_true_eq] at this; rw [if_pos (by omega)]
  · rename_i hd; have := decideB_ok h hd; simp only [B_lt, decide_eq_false_iff_not] at this; rw [if_neg (by omega)]
  · simp only [I_ite, B_lt, decide_eq_true_eq, gt_iff_lt]
def minsV (F : List E) (k : IntKind) (a : E) : List V → Option E
  | [] => some a
  | .i _ b :: l => minsV F k (mkMin F a b) l
  | _ => none
def maxsV (F : List E) (k : IntKind) (a : E) : List V → Option E
  | [] => some a
  | .i _ b :: l => maxsV F k (mkMax F a b) l
  | _ => none
theorem minsV_ok {P : Program} {ρ : Env} {F : List E} (h : holds ρ F) {k : IntKind} (w : World) : ∀ {l : List V} {a e : E}, minsV F k a l = some e →
    ((l.map (V.den ρ)).foldlM Builtin.min2 (.int k (a.I ρ))).run P w = .ok (.int k (e.I ρ)) w
  | [], a, e, hm => by cases hm; rfl
  | .i k' b :: l, a, e, hm => by
    simp only [minsV] at hm
    have := minsV_ok (P := P) h w hm
    rw [mkMin_ok h] at this
    simpa only [List.map_cons, List.foldlM_cons, den_i, Builtin.min2, Sem.run_bind, Sem.run_pure, Result.andThen_ok] using this
theorem maxsV_ok {P : Program} {ρ : Env} {F : List E} (h : holds ρ F) {k : IntKind} (w : World) : ∀ {l : List V} {a e : E}, maxsV F k a l = some e →
    ((l.map (V.den ρ)).foldlM Builtin.max2 (.int k (a.I ρ))).run P w = .ok (.int k (e.I ρ)) w
  | [], a, e, hm => by cases hm; rfl
  | .i k' b :: l, a, e, hm => by
    simp only [maxsV] at hm
    have := maxsV_ok (P := P) h w hm
    rw [mkMax_ok h] at this
    simpa only [List.map_cons, List.foldlM_cons, den_i, Builtin.max2, Sem.run_bind, Sem.run_pure, Result.andThen_ok] using this

/-- A natural number's term. -/
def natE (F : List E) (e : E) : Option E := match decideB F (.le (.c 0) e) with | some true => some e | _ => none
theorem natE_ok {ρ : Env} {F : List E} (h : holds ρ F) {e x : E} (hn : natE F e = some x) : (((e.I ρ).toNat : Nat) : Int) = x.I ρ := by
  unfold natE at hn
  split at hn <;> cases hn
  rename_i hd
  have := decideB_ok h hd
  simp only [B_le, I_c, decide_eq_true_eq] at this
  omega
def lenR (P : Program) (F : List E) (t : TypeId) : V → Option R
  | .s a => match P.underlying t with | some .string => some (.val (.i .i64 (mkLen a))) | _ => none
  | .sl _ _ _ n _ => match P.underlying t with | some (.slice _) => (natE F n).map fun e => .val (.i .i64 e) | _ => none
  | .nils => match P.underlying t with | some (.slice _) => some (.val (.i .i64 (.c 0))) | _ => none
  | .nilm => match P.underlying t with | some (.map _ _) => some (.val (.i .i64 (.c 0))) | _ => none
  | .agg _ => match P.underlying t with | some (.array n _) => some (.val (.i .i64 (.c n))) | _ => none
  | .ptr _ _ _ => match P.underlying t with | some (.pointer a) => (match P.underlying a with | some (.array n _) => some (.val (.i .i64 (.c n))) | _ => none) | _ => none
  | _ => none
theorem lenR_ok {P : Program} {ρ : Env} {F : List E} (h : holds ρ F) {ts : Array TypeId} {t ty : TypeId} (ht : ts[0]? = some t) {x v : V} (hr : lenR P F t x = some (.val v)) (args : Array Value) (ha : args[0]? = some (x.den ρ)) (w : World) :
    (Builtin.len_ ts ty args).run P w = .ok (v.den ρ) w := by
  unfold lenR at hr
  unfold Builtin.len_
  simp only [ht, ha]
  split at hr
  · split at hr <;> cases hr
    rename_i hu
    simp only [Sem.run_bind, run_underlying hu, Result.andThen_ok, den_s, den_i, mkLen_ok]; rfl
  · split at hr
    · rename_i hu
      rw [Option.map_eq_some_iff] at hr
      obtain ⟨e, he, hv⟩ := hr
      cases hv
      simp only [Sem.run_bind, run_underlying hu, Result.andThen_ok, den_sl, den_i, goInt, ← natE_ok h he]; rfl
    · cases hr
  · split at hr <;> cases hr
    rename_i hu
    simp only [Sem.run_bind, run_underlying hu, Result.andThen_ok, den_nils, den_i]; rfl
  · split at hr <;> cases hr
    rename_i hu
    simp only [Sem.run_bind, run_underlying hu, Result.andThen_ok, den_nilm, den_i]; rfl
  · split at hr <;> cases hr
    rename_i hu
    simp only [Sem.run_bind, run_underlying hu, Result.andThen_ok, den_agg, den_i]; rfl
  · split at hr
    · rename_i hu
      split at hr <;> cases hr
      rename_i hu2
      simp only [Sem.run_bind, run_underlying hu, run_underlying hu2, Result.andThen_ok, den_ptr, den_i]; rfl
    · cases hr
  · cases hr

def builtinR (P : Program) (F : List E) (b : Builtin) (ts : Array TypeId) (args : List V) : Option R :=
  match b, args with
  | .len, [x] => match ts[0]? with | some t => lenR P F t x | none => none
  | .min, .i k a :: l => (minsV F k a l).map fun e => .val (.i k e)
  | .max, .i k a :: l => (maxsV F k a l).map fun e => .val (.i k e)
  | _, _ => none
theorem builtinR_ok {P : Program} {ρ : Env} {F : List E} (h : holds ρ F) {b : Builtin} {ts : Array TypeId} {ty : TypeId} {cs : Array Bool} {args : List V} {v : V} (hr : builtinR P F b ts args = some (.val v)) (as : Array Value) (ha : as.toList = args.map (V.den ρ)) (w : World) :
    (builtin b ts ty cs as).run P w = .ok (.value (v.den ρ)) w := by
  unfold builtinR at hr
  split at hr
  · split at hr
    · rename_i x _ t ht
      have : as[0]? = some (x.den ρ) := by rw [← Array.getElem?_toList, ha]; rfl
      simp only [builtin, Sem.run_bind, lenR_ok h ht hr as this w, Result.andThen_ok, Sem.run_pure]
    · cases hr
  · rename_i k a l
    rw [Option.map_eq_some_iff] at hr
    obtain ⟨e, he, hv⟩ := hr
    cases hv
    simp only [builtin, Builtin.min_, ha, List.map_cons, den_i, Sem.run_bind, minsV_ok h w he, Result.andThen_ok, Sem.run_pure]
  · rename_i k a l
    rw [Option.map_eq_some_iff] at hr
    obtain ⟨e, he, hv⟩ := hr
    cases hv
    simp only [builtin, Builtin.max_, ha, List.map_cons, den_i, Sem.run_bind, maxsV_ok h w he, Result.andThen_ok, Sem.run_pure]
  · cases hr

/-! slices -/
/-- A bound: the term, if it is known to be between 0 and y. -/
def boundR (F : List E) (y : E) : Option V → (dflt : E) → Option (E ⊕ E)
  | none, d => some (.inl d)
  | some (.i _ e), _ => match decideB F (.le (.c 0) e) with
    | some true => match decideB F (.le e y) with | some true => some (.inl e) | none => some (.inr (.le e y)) | _ => none
    | none => some (.inr (.le (.c 0) e))
    | _ => none
  | _, _ => none
theorem bound_ok {P : Program} {ρ : Env} {F : List E} (h : holds ρ F) {y d e : E} {k : IntKind} {x : E} {code : BoundsCode} {Y : Nat} (hY : (Y : Int) = y.I ρ) (hb : boundR F y (some (.i k x)) d = some (.inl e)) (w : World) :
    e = x ∧ 0 ≤ x.I ρ ∧ x.I ρ ≤ y.I ρ ∧ (Instr.sliceBound (.int k (x.I ρ)) Y code).run P w = .ok (x.I ρ).toNat w := by
  simp only [boundR] at hb
  split at hb
  · rename_i h0
    split at hb
    · rename_i h1
      cases hb
      have h0 := decideB_ok h h0
      have h1 := decideB_ok h h1
      simp only [B_le, I_c, decide_eq_true_eq] at h0 h1
      refine ⟨rfl, h0, h1, ?_⟩
      simp only [Instr.sliceBound, asIntOf, Sem.run_bind, Sem.run_pure, Result.andThen_ok, Sem.run_ite]
      rw [if_pos (by omega)]
    · cases hb
    · cases hb
  · cases hb
  · cases hb

def sliceR (P : Program) (F : List E) (t : TypeId) (x : V) (lo hi : Option V) : Option R :=
  match x, P.underlying t with
  | .s a, some .string =>
    match boundR F (mkLen a) hi (mkLen a) with
    | some (.inr q) => some (.need q)
    | some (.inl hE) => match boundR F hE lo (.c 0) with
      | some (.inr q) => some (.need q)
      | some (.inl lE) => some (.val (.s (.ssub a lE hE)))
      | none => none
    | none => none
  | .sl b k l n c, some (.slice elem) =>
    match natE F n, natE F c, sizeV P elem with
    | some _, some _, some s =>
      match boundR F c hi n with
      | some (.inr q) => some (.need q)
      | some (.inl hE) => match boundR F hE lo (.c 0) with
        | some (.inr q) => some (.need q)
        | some (.inl lE) => match lE with
          | .c 0 => some (.val (.sl b k l hE c))
          | lE => match decideB F (.eq c lE) with
            | none => some (.split (.eq c lE))
            | some true => some (.val (.sl b k l (mkSub hE lE) (mkSub c lE)))
            | some false => some (.val (match lE with | .c z => .sl b (k + z.toNat * s) l (mkSub hE (.c z)) (mkSub c (.c z)) | lE => .sl b k (l ++ [(s, lE)]) (mkSub hE lE) (mkSub c lE)))
        | none => none
      | none => none
    | _, _, _ => none
  | _, _ => none

theorem hi_ok {P : Program} {ρ : Env} {F : List E} (h : holds ρ F) {y d e : E} {hi : Option V} {Y D : Nat} (hY : (Y : Int) = y.I ρ) (hD : (D : Int) = d.I ρ) (hb : boundR F y hi d = some (.inl e)) (w : World) (code : BoundsCode) :
    ((match hi.map (V.den ρ) with | some v => Instr.sliceBound v Y code | none => pure D) : Sem Nat).run P w = .ok (e.I ρ).toNat w ∧ 0 ≤ e.I ρ ∧ (e.I ρ ≤ y.I ρ ∨ e = d) := by
  cases hi with
  | none =>
    cases hb
    refine ⟨?_, by omega, Or.inr rfl⟩
    show Result.ok D w = _
    congr 1
    omega
  | some v =>
    cases v <;> simp only [boundR, reduceCtorEq] at hb
    rename_i k x
    obtain ⟨rfl, h1, h2, h3⟩ := bound_ok (P := P) (code := code) h hY (d := d) (k := k) (x := x) (by simpa only [boundR] using hb) w
    exact ⟨h3, h1, Or.inl h2⟩
theorem bounds_ok {P : Program} {ρ : Env} {F : List E} (h : holds ρ F) {isS : Bool} {n c hE lE : E} {N C : Nat} (hN : (N : Int) = n.I ρ) (hC : (C : Int) = c.I ρ) {lo hi : Option V} (h1 : boundR F c hi n = some (.inl hE)) (h2 : boundR F hE lo (.c 0) = some (.inl lE)) (w : World) :
    (Instr.sliceBounds isS N C (lo.map (V.den ρ)) (hi.map (V.den ρ)) none).run P w = .ok ((lE.I ρ).toNat, (hE.I ρ).toNat, C) w ∧ 0 ≤ lE.I ρ ∧ lE.I ρ ≤ hE.I ρ := by
  obtain ⟨e1, b1, b2⟩ := hi_ok (P := P) h hC hN h1 w (if isS then BoundsCode.sliceAcap else BoundsCode.sliceAlen)
  obtain ⟨e2, c1, c2⟩ := hi_ok (P := P) (Y := (hE.I ρ).toNat) (D := 0) h (by omega) rfl h2 w BoundsCode.sliceB
  refine ⟨?_, c1, ?_⟩
  · unfold Instr.sliceBounds
    cases hi with
    | none =>
      cases lo with
      | none =>
        simp only [Option.map_none, Sem.run_bind, Sem.run_pure, Result.andThen_ok] at e1 e2 ⊢
        injection e1 with e1; injection e2 with e2
        rw [e1, ← e2]
      | some l =>
        simp only [Option.map_none, Option.map_some, Sem.run_bind, Sem.run_pure, Result.andThen_ok, Option.isSome_none, Bool.false_eq_true, if_false] at e1 e2 ⊢
        injection e1 with e1
        rw [e1, e2]; rfl
    | some u =>
      cases lo with
      | none =>
        simp only [Option.map_none, Option.map_some, Sem.run_bind, Sem.run_pure, Result.andThen_ok] at e1 e2 ⊢
        injection e2 with e2
        rw [e1, ← e2]; rfl
      | some l =>
        simp only [Option.map_some, Sem.run_bind, Sem.run_pure, Result.andThen_ok, Option.isSome_none, Bool.false_eq_true, if_false] at e1 e2 ⊢
        rw [e1]
        simp only [Result.andThen_ok, e2]
  · rcases c2 with c2 | rfl
    · exact c2
    · simp only [I_c]; exact b1

theorem sliceR_ok {P : Program} {ρ : Env} {F : List E} (h : holds ρ F) {t : TypeId} {x v : V} {lo hi : Option V} (hr : sliceR P F t x lo hi = some (.val v)) (w : World) :
    (Instr.sliceAt t (x.den ρ) (lo.map (V.den ρ)) (hi.map (V.den ρ)) none).run P w = .ok (v.den ρ) w := by
  unfold sliceR at hr
  split at hr
  · rename_i a hu
    split at hr
    · cases hr
    · rename_i hE h1
      split at hr
      · cases hr
      · rename_i lE h2
        cases hr
        obtain ⟨e1, -, -⟩ := bounds_ok (P := P) (isS := false) (N := (a.S ρ).size) (C := (a.S ρ).size) h (mkLen_ok ρ a).symm (mkLen_ok ρ a).symm h1 h2 w
        simp only [Instr.sliceAt, Instr.slice, Sem.run_bind, run_underlying hu, Result.andThen_ok, den_s, Option.isSome_none, Bool.false_eq_true, if_false, Sem.run_pure, e1, S_ssub]
      · cases hr
    · cases hr
  · rename_i b k l n c elem hu
    split at hr
    · rename_i n' c' s hn hc hs
      have hN := natE_ok h hn
      have hC := natE_ok h hc
      have hN' : n' = n := by unfold natE at hn; split at hn <;> cases hn; rfl
      have hC' : c' = c := by unfold natE at hc; split at hc <;> cases hc; rfl
      subst hN' hC'
      split at hr
      · cases hr
      · rename_i hE h1
        split at hr
        · cases hr
        · rename_i lE h2
          obtain ⟨e1, b1, b2⟩ := bounds_ok (P := P) (isS := true) (N := (n'.I ρ).toNat) (C := (c'.I ρ).toNat) h hN hC h1 h2 w
          have hrun : (Instr.sliceAt t (V.den ρ (.sl b k l n' c')) (lo.map (V.den ρ)) (hi.map (V.den ρ)) none).run P w =
              .ok (.slice (if (c'.I ρ).toNat = (lE.I ρ).toNat then some (addrD ρ b k l) else some ((addrD ρ b k l).add ((lE.I ρ).toNat * s))) ((hE.I ρ).toNat - (lE.I ρ).toNat) ((c'.I ρ).toNat - (lE.I ρ).toNat)) w := by
            simp only [Instr.sliceAt, Instr.slice, Sem.run_bind, run_underlying hu, Result.andThen_ok, den_sl, e1, sizeOf_ok hs, Sem.run_pure]
            rfl
          rw [hrun]
          split at hr
          · cases hr
            simp only [I_c, Int.toNat_zero, Nat.zero_mul, Nat.sub_zero, Addr.add, if_true, ite_self, den_sl]
          · split at hr
            · cases hr
            · rename_i hd
              cases hr
              have := decideB_ok h hd
              simp only [B_eq, decide_eq_true_eq] at this
              rw [if_pos (by rw [this]), den_sl, mkSub_ok, mkSub_ok]
              congr 2 <;> omega
            · rename_i hd
              cases hr
              have := decideB_ok h hd
              simp only [B_eq, decide_eq_false_iff_not] at this
              rw [if_neg (by omega)]
              split
              · rw [den_sl, mkSub_ok, mkSub_ok, addr_add]
                simp only [I_c]
                congr 2 <;> simp only [I_c] at * <;> omega
              · rw [den_sl, mkSub_ok, mkSub_ok, addr_snoc]
                congr 2 <;> omega
        · cases hr
      · cases hr
    · cases hr
  · cases hr
end Go.Proofs.Ytmbhjfembfidnaa.Sx
end
