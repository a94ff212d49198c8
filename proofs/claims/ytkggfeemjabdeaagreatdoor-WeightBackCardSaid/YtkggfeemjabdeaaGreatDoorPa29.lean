/- The code's naturals as rows of the executor. Contracts of the code's naturals, for the executor. Contracts of functions that return a fraction, or panic. What functions of fractions come to: terms; how their contracts are proved. Contracts of lowest and fitting. Calls that return a fraction or panic, by the executor: what it says is looked through by the kernel. Sizes. Contracts of sums, differences, products, quotients, the order and the text of fractions. Texts of numbers: plain mathematics; parse and isDigits for the executor. Contracts of open, Make and Ratio. -/
import Derived.Test.YtkggfeemjabdeaaGreatDoorPa1
import Derived.Test.YtkggfeemjabdeaaGreatDoorPa5
import Derived.Test.YtkggfeemjabdeaaGreatDoorPa16
import Derived.Test.YtkggfeemjabdeaaGreatDoorPa19
import Derived.Test.YtkggfeemjabdeaaGreatDoorPa22
import Derived.Test.YtkggfeemjabdeaaGreatDoorPa24
import Derived.Test.YtkggfeemjabdeaaGreatDoorPa26
import Derived.Test.YtkggfeemjabdeaaGreatDoorPa28
section
namespace Go.Proofs.YtkggfeemjabdeaaGreatDoor.Wc
open Go Go.Proofs.YtkggfeemjabdeaaGreatDoor.Sx Go.RowKit

/-! ### The words of a number -/
def limbs (x : Nat) : List Nat := if h : x = 0 then [] else (x % R64) :: limbs (x / R64)
termination_by x
decreasing_by exact Nat.div_lt_self (Nat.pos_of_ne_zero h) (by rw [R64_eq]; omega)
theorem limbs_zero : limbs 0 = [] := by rw [limbs]; simp
theorem limbs_pos {x : Nat} (h : x ≠ 0) : limbs x = (x % R64) :: limbs (x / R64) := by rw [limbs, dif_neg h]
theorem nrm_limbs : ∀ {n : Nat} {f : Nat → Nat}, Nrm f n → limbs (val f n) = (List.range n).map f
  | 0, f, _ => by show limbs 0 = _; rw [limbs_zero]; rfl
  | n + 1, f, h => by
    have h0 := h.lim 0 (by omega)
    have hn : Nrm (fun j => f (j + 1)) n := ⟨fun i hi => h.lim (i + 1) (by omega), by
      rcases Nat.eq_zero_or_pos n with e | e
      · exact .inl e
      · refine .inr ?_
        rcases h.top with h1 | h1
        · omega
        · rw [show n + 1 - 1 = (n - 1) + 1 from by omega] at h1; exact h1⟩
    have ih := nrm_limbs hn
    have hv := val_shift f n
    have hx : val f (n + 1) ≠ 0 := by
      have := val_ge (f := f) (n := n + 1) (by omega) (by rcases h.top with h1 | h1; omega; exact h1)
      have := Nat.pow_pos (n := n + 1 - 1) R64_pos
      omega
    rw [limbs_pos hx, hv, Nat.add_mul_mod_self_left, Nat.mod_eq_of_lt h0, Nat.add_mul_div_left _ _ R64_pos, Nat.div_eq_of_lt h0, Nat.zero_add, ih, List.range_succ_eq_map]
    simp [Function.comp_def]
theorem limbs_nrm (A : Nat) : Nrm (fun i => (limbs A).getD i 0) (limbs A).length ∧ val (fun i => (limbs A).getD i 0) (limbs A).length = A := by
  induction A using Nat.strongRecOn with
  | _ A ih =>
    by_cases h : A = 0
    · subst h; rw [limbs_zero]; exact ⟨⟨(fun i hi => by cases hi), .inl rfl⟩, rfl⟩
    · obtain ⟨h1, h2⟩ := ih (A / R64) (Nat.div_lt_self (Nat.pos_of_ne_zero h) (by rw [R64_eq]; omega))
      rw [limbs_pos h]
      have hv : val (fun i => ((A % R64) :: limbs (A / R64)).getD i 0) ((limbs (A / R64)).length + 1) = A := by
        rw [val_shift]
        show A % R64 + R64 * val (fun j => (limbs (A / R64)).getD j 0) (limbs (A / R64)).length = A
        rw [h2]; exact Nat.mod_add_div _ _
      refine ⟨⟨fun i hi => ?_, ?_⟩, hv⟩
      · cases i with
        | zero => exact Nat.mod_lt _ R64_pos
        | succ i => exact h1.lim i (by simpa using hi)
      · refine .inr ?_
        show ((A % R64) :: limbs (A / R64)).getD ((limbs (A / R64)).length + 1 - 1) 0 ≠ 0
        rw [Nat.add_sub_cancel]
        rcases Nat.eq_zero_or_pos (limbs (A / R64)).length with e | e
        · rw [e]
          show A % R64 ≠ 0
          have h3 : A / R64 = 0 := by rw [e] at h2; exact h2.symm
          intro e2
          have := Nat.mod_add_div A R64
          rw [h3, Nat.mul_zero] at this
          omega
        · obtain ⟨k, hk⟩ : ∃ k, (limbs (A / R64)).length = k + 1 := ⟨(limbs (A / R64)).length - 1, by omega⟩
          rw [hk]
          show (limbs (A / R64)).getD k 0 ≠ 0
          rcases h1.top with h3 | h3
          · omega
          · rw [hk] at h3; exact h3

abbrev LL := List (Int × ByteArray)
def nL (x : Nat) : LL := (limbs x).map fun (a : Nat) => ((a : Int), ⟨#[]⟩)
def fstI (l : LL) : Int := (l.head?.map Prod.fst).getD 0
def sndI (l : LL) : Int := (l.tail.head?.map Prod.fst).getD 0
def fstS (l : LL) : ByteArray := (l.head?.map Prod.snd).getD ⟨#[]⟩
/-- A number's row. -/
def numRow (a : E) : Sx.Row := ⟨false, 0, [.i .u64], .llen (.lapp 2 (.cons a .nil)), .lapp 2 (.cons a .nil)⟩
def nM (l : LL) : LL := nL (fstI l).toNat
/-- the text of a number. -/
def dec (X : Nat) : ByteArray := ⟨(Lib.decDigits X).toArray⟩
/-- the number of a text. -/
def numL (l : List UInt8) : Nat := l.foldl (fun a c => a * 10 + (c.toNat - 48)) 0
def num (s : ByteArray) : Nat := numL s.data.toList
def bigOK (z : Int) : Prop := 0 ≤ z ∧ z.toNat < Big
instance (z : Int) : Decidable (bigOK z) := instDecidableAnd
def at4 (l : LL) (n : Nat) : Nat := ((l[n]?.map Prod.fst).getD 0).toNat
def frA (l : LL) : Nat × Nat := (at4 l 0, at4 l 1)
def frB (l : LL) : Nat × Nat := (at4 l 2, at4 l 3)
def fit1 (n : Nat) : Bool := decide (n < T600)
def fitsF (x : Nat × Nat) : Bool := fit1 x.1 && fit1 x.2
/-- a fraction in lowest terms that fits. -/
def goodB (x : Nat × Nat) : Bool := decide (0 < x.2) && decide (Nat.gcd x.1 x.2 = 1) && fitsF x
def nonneg (l : LL) : Bool := l.all fun p => decide (0 ≤ p.1)
def bigB (z : Int) : Bool := decide (bigOK z)
theorem fit1_t {n : Nat} : (fit1 n = true) = (n < T600) := by unfold fit1; simp
theorem fit1_f {n : Nat} : (fit1 n = false) = (T600 ≤ n) := by unfold fit1; simp
theorem bigB_t {z : Int} : (bigB z = true) = (0 ≤ z ∧ z.toNat < Big) := propext ⟨fun h => of_decide_eq_true h, fun h => decide_eq_true h⟩
def zeroB : ByteArray := ⟨#[48]⟩
/-- a valid fraction. -/
def validP (n d : ByteArray) : Bool := isNt n && isNt d && !decide (d = zeroB) && decide (Nat.gcd (num n) (num d) = 1)
def sndS (l : LL) : ByteArray := (l.tail.head?.map Prod.snd).getD ⟨#[]⟩
/-- What the functions' names stand for. -/
def wg (n : Nat) (l : LL) : Int := match n with
  | 6 => ((num (fstS l) : Nat) : Int)
  | 7 => ((Nat.gcd (fstI l).toNat (sndI l).toNat : Nat) : Int)
  | 10 => ((low (at4 l 0) (at4 l 1)).1 : Nat)
  | 11 => ((low (at4 l 0) (at4 l 1)).2 : Nat)
  | 12 => ((addF (frA l) (frB l)).1 : Nat)
  | 13 => ((addF (frA l) (frB l)).2 : Nat)
  | 14 => ((subF (frA l) (frB l)).1 : Nat)
  | 15 => ((subF (frA l) (frB l)).2 : Nat)
  | 16 => ((mulF (frA l) (frB l)).1 : Nat)
  | 17 => ((mulF (frA l) (frB l)).2 : Nat)
  | 22 => if fitsF (addF (frA l) (frB l)) then 0 else 4
  | 24 => if fitsF (subF (frA l) (frB l)) then 0 else 4
  | 26 => if fitsF (mulF (frA l) (frB l)) then 0 else 4
  | _ => 0
def wh (n : Nat) (l : LL) : Bool := match n with
  | 6 => isNt (fstS l)
  | 7 => bigB (fstI l)
  | 8 => fit1 (fstI l).toNat
  | 9 => isNum (fstS l)
  | 10 => isDigs (fstS l) && decide ((fstS l).size ≤ 2000)
  | 11 => nonneg l && goodB (frA l)
  | 12 => fitsF (addF (frA l) (frB l))
  | 14 => fitsF (subF (frA l) (frB l))
  | 16 => fitsF (mulF (frA l) (frB l))
  | 20 => validP (fstS l) (sndS l)
  | _ => false
def wk (n : Nat) (l : LL) : ByteArray := match n with
  | 1 => dec (fstI l).toNat
  | 12 => if fitsF (addF (frA l) (frB l)) then dec (addF (frA l) (frB l)).1 else ⟨#[]⟩
  | 13 => if fitsF (addF (frA l) (frB l)) then dec (addF (frA l) (frB l)).2 else ⟨#[]⟩
  | 14 => if fitsF (subF (frA l) (frB l)) then dec (subF (frA l) (frB l)).1 else ⟨#[]⟩
  | 15 => if fitsF (subF (frA l) (frB l)) then dec (subF (frA l) (frB l)).2 else ⟨#[]⟩
  | 16 => if fitsF (mulF (frA l) (frB l)) then dec (mulF (frA l) (frB l)).1 else ⟨#[]⟩
  | 17 => if fitsF (mulF (frA l) (frB l)) then dec (mulF (frA l) (frB l)).2 else ⟨#[]⟩
  | _ => ⟨#[]⟩
def wm (n : Nat) (l : LL) : LL := match n with | 2 => nM l | _ => []
structure WTab (g : Nat → LL → Int) (h : Nat → LL → Bool) (k : Nat → LL → ByteArray) (m : Nat → LL → LL) : Prop where
  g : g = wg
  h : h = wh
  k : k = wk
  m : m = wm
section
variable {g : Nat → LL → Int} {h : Nat → LL → Bool} {k : Nat → LL → ByteArray} {m : Nat → LL → LL} (hw : WTab g h k m)
include hw
theorem WTab.m2 : m 2 = nM := by rw [hw.m]; rfl
theorem WTab.k1 : k 1 = fun l => dec (fstI l).toNat := by rw [hw.k]; rfl
theorem WTab.g6 : g 6 = fun l => ((num (fstS l) : Nat) : Int) := by rw [hw.g]; rfl
theorem WTab.g7 : g 7 = fun l => ((Nat.gcd (fstI l).toNat (sndI l).toNat : Nat) : Int) := by rw [hw.g]; rfl
theorem WTab.h6 : h 6 = fun l => isNt (fstS l) := by rw [hw.h]; rfl
theorem WTab.h7 : h 7 = fun l => decide (bigOK (fstI l)) := by rw [hw.h]; rfl
theorem WTab.h8 : h 8 = fun l => decide ((fstI l).toNat < T600) := by rw [hw.h]; rfl
theorem WTab.h9 : h 9 = fun l => isNum (fstS l) := by rw [hw.h]; rfl
end
/-- The number that a value is. -/
def natA : V → List (Nat × Sx.Row) → Option E
  | .rsl x, R => match findR R x with
    | some r => if r.kds = [.i .u64] ∧ r.own = false then match r.xs with
      | .lapp 2 (.cons a .nil) => some a
      | _ => none
      else none
    | none => none
  | .nils, _ => some (.c 0)
  | _, _ => none
theorem cellsV_nL (A j : Nat) : (cellsV [.i .u64] (nL A))[j]? = ((limbs A)[j]?).map fun (a : Nat) => Value.int .u64 (a : Int) := by
  rw [cellsV_get]
  unfold nL
  rw [List.getElem?_map, Option.map_map]
  show Option.map _ _ = _
  congr 1
  funext a
  show cellV ((a : Int), ⟨#[]⟩) ([Kd.i IntKind.u64].getD (j % 1) Kd.any) = _
  rw [Nat.mod_one]
  rfl
theorem limbs_getD {A i : Nat} (hi : i < (limbs A).length) : (limbs A)[i]? = some ((limbs A).getD i 0) := by
  rw [List.getD_eq_getElem?_getD, List.getElem?_eq_getElem hi]; rfl
theorem natV_of_at {ρ : Env} {r : Sx.Row} {base : Nat} {w : World} {v : Value} {A : Nat} (hk : r.kds = [.i .u64]) (ho : r.own = false) (hx : r.xs.L ρ = nL A) (h : r.at ρ base w v) : NatV w v A := by
  obtain ⟨h0, -, h2⟩ := h
  rw [ho, hk, hx] at h2
  simp only [Bool.false_eq_true, if_false, List.length_cons, List.length_nil, Nat.zero_add, Nat.mul_one] at h2
  obtain ⟨hlen, h2⟩ := h2
  have hl : (limbs A).length = (r.n.I ρ).toNat := by rw [← hlen]; simp [nL]
  obtain ⟨l1, l2⟩ := limbs_nrm A
  refine ⟨(limbs A).length, _, ?_, l1, l2⟩
  rcases h2 with ⟨rfl, e⟩ | ⟨⟨b, o, s⟩, cap, rfl, hs, hb, ⟨hc1, hc2⟩, hc⟩
  · exact .inl ⟨rfl, by rw [hl, e]; rfl⟩
  · simp only at hs
    subst hs
    refine .inr ⟨b, o, cap, by rw [hl], by omega, hc2, hb, fun i hi => ?_⟩
    have := hc i (.int .u64 ((limbs A).getD i 0 : Nat)) (by rw [cellsV_nL, limbs_getD hi]; rfl)
    rw [Addr.add_lit] at this
    exact this
theorem at_of_natV {ρ : Env} {base : Nat} {w : World} {v : Value} {a : E} (hm : ρ.m 2 = nM) (h : NatV w v (a.I ρ).toNat) : (numRow a).at ρ base w v := by
  obtain ⟨n, f, h1, h2, h3⟩ := h
  have hx : (numRow a).xs.L ρ = nL (a.I ρ).toNat := by simp [numRow, hm, nM, fstI]
  have hl : limbs (a.I ρ).toNat = (List.range n).map f := by rw [← h3]; exact nrm_limbs h2
  have hn : (numRow a).n.I ρ = (n : Nat) := by
    show (E.llen (numRow a).xs).I ρ = _
    rw [I_llen, hx]
    simp [nL, hl]
  refine ⟨by rw [hn]; omega, by simp [numRow], ?_⟩
  rw [hn, hx]
  simp only [numRow, Bool.false_eq_true, if_false, Int.toNat_natCast, List.length_cons, List.length_nil, Nat.zero_add, Nat.mul_one]
  refine ⟨by simp [nL, hl], ?_⟩
  rcases h1 with ⟨rfl, rfl⟩ | ⟨b, off, cap, rfl, k2, k3, k4, k5⟩
  · exact .inl ⟨rfl, rfl⟩
  · refine .inr ⟨_, cap, rfl, rfl, k4, ⟨k2, k3⟩, fun j u hu => ?_⟩
    rw [cellsV_nL, hl] at hu
    have hj : j < n := by
      rcases Nat.lt_or_ge j n with h | h
      · exact h
      · rw [List.getElem?_eq_none (by simpa using h)] at hu; cases hu
    simp [hj] at hu
    subst hu
    rw [Addr.add_lit]
    exact k5 j hj
theorem asSl_at {ρ : Env} {r : Sx.Row} {base : Nat} {w : World} {v : Value} (h : r.at ρ base w v) : asSl v = v := by
  obtain ⟨-, -, h2⟩ := h
  split at h2
  · rcases h2.2 with ⟨rfl, -⟩ | ⟨g, cap, cur, rfl, -⟩ <;> rfl
  · rcases h2.2 with ⟨rfl, -⟩ | ⟨a, cap, rfl, -⟩ <;> rfl
theorem natA_ok {ρ : Env} {R : List (Nat × Sx.Row)} {v : V} {a : E} {base : Nat} {w : World} (hm : ρ.m 2 = nM) (h : natA v R = some a) (hrows : ∀ x r, findR R x = some r → r.at ρ base w (ρ.v x)) : NatV w (v.den ρ) (a.I ρ).toNat := by
  unfold natA at h
  split at h
  · rename_i x
    split at h
    · rename_i r hr
      split at h
      · rename_i hk
        split at h
        · rename_i a' hx
          cases h
          rw [den_rsl, asSl_at (hrows _ _ hr)]
          exact natV_of_at hk.1 hk.2 (by rw [hx]; simp [hm, nM, fstI]) (hrows _ _ hr)
        · cases h
      · cases h
    · cases h
  · cases h
    exact ⟨0, fun _ => 0, .inl ⟨rfl, rfl⟩, ⟨fun _ h => by omega, .inl rfl⟩, rfl⟩
  · cases h
/-- The rows that are arguments. -/
def argsN (args : List V) : List Nat := args.filterMap fun | .var x => some x | .rsl x => some x | _ => none
theorem natA_src {ρ : Env} {R : List (Nat × Sx.Row)} {v : V} {a : E} {base : Nat} {w : World} (h : natA v R = some a) (hrows : ∀ x r, findR R x = some r → r.at ρ base w (ρ.v x)) {args : List V} (hv : v ∈ args) {b : Nat} (hb : (v.den ρ).ownBlock = some b) :
    ∃ x r', x ∈ argsN args ∧ findR R x = some r' ∧ (ρ.v x).ownBlock = some b := by
  unfold natA at h
  split at h
  · rename_i x
    split at h
    · rename_i r hr
      rw [den_rsl, asSl_at (hrows _ _ hr)] at hb
      exact ⟨x, r, List.mem_filterMap.2 ⟨.rsl x, hv, rfl⟩, hr, hb⟩
    · cases h
  · cases hb
  · cases h

/-! ### Contracts that know the memory at the beginning -/
def CtrJ (TT : Tb) (P : Program) (f : FuncId) (m : List V → List (Nat × Sx.Row) → Option (List E × Res × List E)) : Prop :=
  ∀ args R need res facts ρ base w w0, m args R = some (need, res, facts) → TT.tab ρ.g ρ.h ρ.k ρ.m → TT.J w0 → Below w0.heap.size w0 w → (∀ e ∈ need, e.B ρ = true) → (∀ x r, findR R x = some r → r.at ρ base w (ρ.v x)) →
    Calls P f (arr ρ args) w fun e w' => Below w.heap.size w w' ∧ (∀ e ∈ facts, e.B ρ = true) ∧ match res with
      | .val v => e = .returned (v.den ρ)
      | .row r => ∃ u, e = .returned u ∧ r.at ρ w.heap.size w' u ∧ ∀ b, u.ownBlock = some b → w.heap.size ≤ b ∨ (r.own = false ∧ ∃ x r', x ∈ argsN args ∧ findR R x = some r' ∧ (ρ.v x).ownBlock = some b)
def ctrJ (f : FuncId) (m : List V → List (Nat × Sx.Row) → Option (List E × Res × List E)) : Ctr :=
  ⟨f, fun args σ => if σ.W.isEmpty then match m args σ.R with
    | some (need, .val v, facts) => some (musts σ need ++ [⟨.val v, { σ with F := facts ++ news σ.F need ++ σ.F }⟩])
    | some (need, .row r, facts) => some (musts σ need ++ [⟨.val (.rsl σ.fr), { σ with R := (σ.fr, r) :: (if r.own then σ.R else σ.R.filter fun p => !(p.2.own && (argsN args).contains p.1)), fr := σ.fr + 1, F := facts ++ news σ.F need ++ σ.F }⟩])
    | none => none
    else none⟩
theorem ctrJ_ok {TT : Tb} {P : Program} {f : FuncId} {m : List V → List (Nat × Sx.Row) → Option (List E × Res × List E)} (h : CtrJ TT P f m) : CtrOk TT P (ctrJ f m) := by
  intro args σ outs hr hok ha ρ w0 w R hs hg
  simp only [ctrJ] at hr
  split at hr
  case isFalse => cases hr
  rename_i hW
  have hW : σ.W = [] := by simpa using hW
  have hbel := hs.below hW
  have hneed : ∀ {need : List E} {l : List Out}, (∀ o ∈ musts σ need ++ l, GoodF TT R ρ σ.fr w0 o) → ∀ e ∈ need, e.B ρ = true := fun hg e he =>
    musts_ok hs (fun u hu e hue => by
      have := hg u (List.mem_append.2 (.inl hu)) ρ w (Ext.refl _ _) (by
        obtain ⟨e', -, rfl⟩ := List.mem_map.1 hu
        exact hs)
      rw [hue] at this
      exact this) e he
  split at hr
  · rename_i need v facts hm
    cases hr
    have hn := hneed hg
    refine (h args σ.R need _ facts ρ w0.heap.size w w0 hm hs.tab.1 hs.tab.2 hbel hn fun x r hf => hs.row _ (findR_mem hf)).mono fun e w' ⟨hb, hfa, he⟩ => ?_
    simp only at he
    subst he
    refine hg _ (List.mem_append.2 (.inr List.mem_cons_self)) ρ w' (Ext.refl _ _) ((hs.step hb).withF fun e he => ?_)
    rcases List.mem_append.1 he with he | he
    · rcases List.mem_append.1 he with he | he
      · exact hfa e he
      · exact hn e (List.mem_filter.1 he).1
    · exact hs.fact e he
  · rename_i need r facts hm
    cases hr
    have hn := hneed hg
    refine (h args σ.R need _ facts ρ w0.heap.size w w0 hm hs.tab.1 hs.tab.2 hbel hn fun x r hf => hs.row _ (findR_mem hf)).mono fun e w' ⟨hb, hfa, he⟩ => ?_
    simp only at he
    obtain ⟨u, rfl, hat, hblk⟩ := he
    have hF' : holds ρ (facts ++ news σ.F need ++ σ.F) := fun e he => by
      rcases List.mem_append.1 he with he | he
      · rcases List.mem_append.1 he with he | he
        · exact hfa e he
        · exact hn e (List.mem_filter.1 he).1
      · exact hs.fact e he
    have hsr := sees_res (R' := if r.own then σ.R else σ.R.filter fun p => !(p.2.own && (argsN args).contains p.1)) hs hok hb u (at_base hs.size hat) (fun p hp => by
      split at hp
      · exact hp
      · exact (List.mem_filter.1 hp).1) (fun b hbb => ?_) hF'
    · have := hg _ (List.mem_append.2 (.inr List.mem_cons_self)) (ρ.nameV σ.fr u) w' (nameV_ext _ _ _) hsr
      simp only [den_rsl, Env.nameV, if_true, asSl_at hat] at this
      exact this
    · rcases hblk b hbb with h1 | ⟨h1, x, r', hx, hf, hxb⟩
      · exact .inl h1
      · refine .inr ⟨h1, (x, r'), findR_mem hf, hxb, fun q hq hqx => ?_⟩
        rw [h1] at hq
        simp only [Bool.false_eq_true, if_false, List.mem_filter, Bool.not_eq_true', Bool.and_eq_false_iff] at hq
        rcases hq.2 with h2 | h2
        · exact h2
        · simp only at hqx
          rw [hqx] at h2
          simp [hx] at h2
  · cases hr
end Go.Proofs.YtkggfeemjabdeaaGreatDoor.Wc
end
section
namespace Go.Proofs.YtkggfeemjabdeaaGreatDoor.Wc
open Go Go.Proofs.YtkggfeemjabdeaaGreatDoor.Sx Go.RowKit

def e1 (a : E) : E := .cons a .nil
def e2 (a b : E) : E := .cons a (.cons b .nil)
def bigE (a : E) : E := .happ 7 (.cons a .nil)
section
variable {TT : Tb}
theorem bigE_ok {ρ : Env} (h : WTab ρ.g ρ.h ρ.k ρ.m) {a : E} (hb : (bigE a).B ρ = true) : 0 ≤ a.I ρ ∧ (a.I ρ).toNat < Big := by
  unfold bigE at hb
  rw [B_happ, h.h7] at hb
  simpa [fstI, bigOK] using hb
theorem RetNatOwn.toS {x : Nat} {w w' : World} {e : Ending} (h : RetNatOwn x w e w') (us : List Value) : RetNatS us x w e w' := by
  obtain ⟨v, h1, h2, h3⟩ := h
  exact ⟨v, h1, h2.natV, h3, fun b hb => .inl (h2.base hb).1⟩

def binM (need : E → E → List E) (res : E → E → E) : List V → List (Nat × Sx.Row) → Option (List E × Res × List E)
  | [v, v'], R => match natA v R, natA v' R with
    | some a, some b => some (need a b, .row (numRow (res a b)), [])
    | _, _ => none
  | _, _ => none
/-- Two numbers come to one. -/
theorem bin_ctr {P : Program} {f : FuncId} {need : E → E → List E} {res : E → E → E} (hTT : ∀ g h k m, TT.tab g h k m → WTab g h k m)
    (h : ∀ ρ w v v' a b, WTab ρ.g ρ.h ρ.k ρ.m → (∀ e ∈ need a b, e.B ρ = true) → NatV w v (a.I ρ).toNat → NatV w v' (b.I ρ).toNat → Calls P f #[v, v'] w (RetNatS [v, v'] ((res a b).I ρ).toNat w)) : CtrJ TT P f (binM need res) := by
  intro args R nd r facts ρ base w w0 hm htab hJ hbel hneed hrows
  unfold binM at hm
  split at hm
  case h_2 => cases hm
  rename_i v v'
  split at hm
  case h_2 => cases hm
  rename_i a b ha hb
  cases hm
  have hw := hTT _ _ _ _ htab
  have va := natA_ok hw.m2 ha hrows
  have vb := natA_ok hw.m2 hb hrows
  refine (h ρ w _ _ a b hw hneed va vb).mono ?_
  rintro e w' ⟨u, rfl, hu, hbel', hs⟩
  refine ⟨hbel', by simp, u, rfl, at_of_natV hw.m2 hu, fun c hc => ?_⟩
  rcases hs c hc with h1 | ⟨y, hy, hyc⟩
  · exact .inl h1
  · refine .inr ⟨rfl, ?_⟩
    rcases List.mem_cons.1 hy with rfl | hy
    · exact natA_src ha hrows (by simp) hyc
    · cases List.mem_singleton.1 hy
      exact natA_src hb hrows (by simp) hyc
def unM (need : E → List E) (res : E → V) : List V → List (Nat × Sx.Row) → Option (List E × Res × List E)
  | [v], R => match natA v R with
    | some a => some (need a, .val (res a), [])
    | none => none
  | _, _ => none
/-- A number comes to a value. -/
theorem un_ctr {P : Program} {f : FuncId} {need : E → List E} {res : E → V} (hTT : ∀ g h k m, TT.tab g h k m → WTab g h k m) (hJ : ∀ w, TT.J w → Tens w)
    (h : ∀ ρ w v a, WTab ρ.g ρ.h ρ.k ρ.m → Tens w → (∀ e ∈ need a, e.B ρ = true) → NatV w v (a.I ρ).toNat → Calls P f #[v] w fun e w' => e = .returned ((res a).den ρ) ∧ Below w.heap.size w w') : CtrJ TT P f (unM need res) := by
  intro args R nd r facts ρ base w w0 hm htab hj hbel hneed hrows
  unfold unM at hm
  split at hm
  case h_2 => cases hm
  rename_i v
  split at hm
  case h_2 => cases hm
  rename_i a ha
  cases hm
  have hw := hTT _ _ _ _ htab
  have va := natA_ok hw.m2 ha hrows
  refine (h ρ w _ a hw (fun j hj' => cell_later hbel (hJ w0 hj j hj')) hneed va).mono ?_
  rintro e w' ⟨rfl, hb⟩
  exact ⟨hb, by simp, rfl⟩
def strM (need : E → List E) (res : E → V) : List V → List (Nat × Sx.Row) → Option (List E × Res × List E)
  | [.s a], _ => some (need a, .val (res a), [])
  | _, _ => none
theorem str_ctr {P : Program} {f : FuncId} {need : E → List E} {res : E → V} (hTT : ∀ g h k m, TT.tab g h k m → WTab g h k m)
    (h : ∀ ρ w a, WTab ρ.g ρ.h ρ.k ρ.m → (∀ e ∈ need a, e.B ρ = true) → Calls P f #[.string (a.S ρ)] w fun e w' => e = .returned ((res a).den ρ) ∧ Below w.heap.size w w') : CtrJ TT P f (strM need res) := by
  intro args R nd r facts ρ base w w0 hm htab hj hbel hneed hrows
  unfold strM at hm
  split at hm
  case h_2 => cases hm
  rename_i a
  cases hm
  refine (h ρ w a (hTT _ _ _ _ htab) hneed).mono ?_
  rintro e w' ⟨rfl, hb⟩
  exact ⟨hb, by simp, rfl⟩

variable (hTT : ∀ g h k m, TT.tab g h k m → WTab g h k m) (hJ : ∀ w, TT.J w → Tens w)
include hTT

def gcdM := binM (fun a b => [bigE a, bigE b]) fun a b => .app 7 (e2 a b)
theorem gcd_ctr : CtrJ TT Tryz.prog 68 gcdM := bin_ctr hTT fun ρ w v v' a b hw hn ha hb => by
  have h1 := bigE_ok hw (hn (bigE a) (by simp)); have h2 := bigE_ok hw (hn (bigE b) (by simp))
  have := gcd_core _ _ v v' w ha hb h1.2 h2.2
  rw [show ((E.app 7 (e2 a b)).I ρ).toNat = Nat.gcd (a.I ρ).toNat (b.I ρ).toNat from by simp [e2, hw.g7, fstI, sndI]]
  exact this
def overM := binM (fun a b => [bigE a, .lt (.c 0) b]) fun a b => .quo a b
theorem over_ctr : CtrJ TT Tryz.prog 69 overM := bin_ctr hTT fun ρ w v v' a b hw hn ha hb => by
  have h1 := bigE_ok hw (hn (bigE a) (by simp))
  have h2 := hn (.lt (.c 0) b) (by simp)
  simp only [B_lt, I_c, decide_eq_true_eq] at h2
  have := over_any v v' _ _ w ha hb h1.2 (by omega)
  rw [show ((E.quo a b).I ρ).toNat = (a.I ρ).toNat / (b.I ρ).toNat from by
    rw [I_quo]
    obtain ⟨x, hx⟩ := Int.eq_ofNat_of_zero_le h1.1
    obtain ⟨y, hy⟩ := Int.eq_ofNat_of_zero_le (Int.le_of_lt h2)
    rw [hx, hy]; rfl]
  exact this
def timesM := binM (fun a b => [bigE a, bigE b]) fun a b => .mul a b
theorem times_ctr : CtrJ TT Tryz.prog 38 timesM := bin_ctr hTT fun ρ w v v' a b hw hn ha hb => by
  have h1 := bigE_ok hw (hn (bigE a) (by simp)); have h2 := bigE_ok hw (hn (bigE b) (by simp))
  rw [show ((E.mul a b).I ρ).toNat = (a.I ρ).toNat * (b.I ρ).toNat from by rw [I_mul]; exact Int.toNat_mul h1.1 h2.1]
  exact (times_any v v' _ _ w ha hb h1.2 h2.2).mono fun _ _ h => RetNatOwn.toS h _
def plusM := binM (fun a b => [bigE a, bigE b]) fun a b => .add a b
theorem plus_ctr : CtrJ TT Tryz.prog 43 plusM := bin_ctr hTT fun ρ w v v' a b hw hn ha hb => by
  have h1 := bigE_ok hw (hn (bigE a) (by simp)); have h2 := bigE_ok hw (hn (bigE b) (by simp))
  rw [show ((E.add a b).I ρ).toNat = (a.I ρ).toNat + (b.I ρ).toNat from by rw [I_add]; omega]
  exact (plus_any v v' _ _ w ha hb h1.2 h2.2).mono fun _ _ h => RetNatOwn.toS h _
def minusM := binM (fun a b => [bigE a, .le (.c 0) b, .le b a]) fun a b => .sub a b
theorem minus_ctr : CtrJ TT Tryz.prog 92 minusM := bin_ctr hTT fun ρ w v v' a b hw hn ha hb => by
  have h1 := bigE_ok hw (hn (bigE a) (by simp))
  have h2 := hn (.le (.c 0) b) (by simp)
  have h3 := hn (.le b a) (by simp)
  simp only [B_le, I_c, decide_eq_true_eq] at h2 h3
  rw [show ((E.sub a b).I ρ).toNat = (a.I ρ).toNat - (b.I ρ).toNat from by rw [I_sub]; omega]
  exact (minus_any v v' _ _ w ha hb h1.2 (by omega)).mono fun _ _ h => RetNatOwn.toS h _
def cmpM : List V → List (Nat × Sx.Row) → Option (List E × Res × List E)
  | [v, v'], R => match natA v R, natA v' R with
    | some a, some b => some ([.le (.c 0) a, .le (.c 0) b], .val (.i .i64 (.ite (.lt a b) (.c (-1)) (.ite (.lt b a) (.c 1) (.c 0)))), [])
    | _, _ => none
  | _, _ => none
theorem cmp_ctr : CtrJ TT Tryz.prog 82 cmpM := by
  intro args R nd r facts ρ base w w0 hm htab hj hbel hneed hrows
  unfold cmpM at hm
  split at hm
  case h_2 => cases hm
  rename_i v v'
  split at hm
  case h_2 => cases hm
  rename_i a b ha hb
  cases hm
  have hw := hTT _ _ _ _ htab
  have h1 := hneed (.le (.c 0) a) (by simp); have h2 := hneed (.le (.c 0) b) (by simp)
  simp only [B_le, I_c, decide_eq_true_eq] at h1 h2
  refine (compare_any _ _ _ _ w (natA_ok hw.m2 ha hrows) (natA_ok hw.m2 hb hrows)).mono ?_
  rintro e w' ⟨rfl, q, rfl⟩
  refine ⟨below_draws w q, by simp, ?_⟩
  show Ending.returned (.int .i64 (cmpN _ _)) = .returned (V.den ρ (.i .i64 _))
  rw [den_i]
  congr 2
  simp only [I_ite, B_lt, I_c, decide_eq_true_eq]
  unfold cmpN
  by_cases k1 : a.I ρ < b.I ρ
  · rw [if_pos k1, if_pos (by omega)]
  · rw [if_neg k1, if_neg (by omega)]
    by_cases k2 : b.I ρ < a.I ρ
    · rw [if_pos k2, if_pos (by omega)]
    · rw [if_neg k2, if_neg (by omega)]
def isNatM := strM (fun a => [.le (.len a) (.c 9223372036854775807)]) fun a => .b (.happ 6 (.cons a .nil))
def isNumberM := strM (fun a => [.le (.len a) (.c 9223372036854775807)]) fun a => .b (.happ 9 (.cons a .nil))
theorem isNat_ctr : CtrJ TT Tryz.prog 29 isNatM := str_ctr hTT fun ρ w a hw hn => by
  have h1 := hn _ List.mem_cons_self
  simp only [B_le, I_c, I_len, decide_eq_true_eq] at h1
  refine (isNat_any (a.S ρ) w (by unfold maxLen; omega)).mono ?_
  rintro e w' ⟨rfl, rfl⟩
  exact ⟨by rw [den_b, B_happ, hw.h6]; rfl, Below.refl _ _⟩
theorem isNumber_ctr : CtrJ TT Tryz.prog 67 isNumberM := str_ctr hTT fun ρ w a hw hn => by
  have h1 := hn _ List.mem_cons_self
  simp only [B_le, I_c, I_len, decide_eq_true_eq] at h1
  refine (isNumber_any (a.S ρ) w (by unfold maxLen; omega)).mono ?_
  rintro e w' ⟨rfl, rfl⟩
  exact ⟨by rw [den_b, B_happ, hw.h9]; rfl, Below.refl _ _⟩
def wordM : List V → List (Nat × Sx.Row) → Option (List E × Res × List E)
  | [.i .u64 a], _ => some ([.le (.c 0) a, .le a (.c 18446744073709551615)], .row (numRow a), [])
  | _, _ => none
theorem word_ctr : CtrJ TT Tryz.prog 44 wordM := by
  intro args R nd r facts ρ base w w0 hm htab hj hbel hneed hrows
  unfold wordM at hm
  split at hm
  case h_2 => cases hm
  rename_i a
  cases hm
  have hw := hTT _ _ _ _ htab
  have h1 := hneed (.le (.c 0) a) (by simp); have h2 := hneed (.le a (.c 18446744073709551615)) (by simp)
  simp only [B_le, I_c, decide_eq_true_eq] at h1 h2
  have := ofWord_own (a.I ρ).toNat (by rw [R64_eq]; omega) w
  rw [show (((a.I ρ).toNat : Nat) : Int) = a.I ρ from by omega] at this
  refine this.mono ?_
  rintro e w' ⟨u, rfl, hu, hb⟩
  exact ⟨hb, by simp, u, rfl, at_of_natV hw.m2 hu.natV, fun b hbb => .inl (hu.base hbb).1⟩
include hJ
def isOneM := unM (fun _ => []) fun a => .b (.eq a (.c 1))
theorem isOne_ctr : CtrJ TT Tryz.prog 78 isOneM := un_ctr hTT hJ fun ρ w v a hw ht hn ha => by
  refine (isOne_any v _ w ha).mono ?_
  rintro e w' ⟨rfl, rfl⟩
  refine ⟨?_, Below.refl _ _⟩
  rw [den_b, B_eq, I_c]
  congr 2
  exact decide_eq_decide.2 (by omega)
def digitsM := unM (fun a => [bigE a]) fun a => .s (.sapp 1 (.cons a .nil))
theorem digits_ctr : CtrJ TT Tryz.prog 72 digitsM := un_ctr hTT hJ fun ρ w v a hw ht hn ha => by
  have h1 := bigE_ok hw (hn (bigE a) (by simp))
  refine (digits_core _ v w ha h1.2 (ht 18 (Nat.le_refl _))).mono ?_
  rintro e w' ⟨rfl, hb⟩
  refine ⟨?_, hb⟩
  rw [den_s, S_sapp, hw.k1]
  simp [fstI, dec]
def fitsM := unM (fun a => [bigE a]) fun a => .b (.happ 8 (.cons a .nil))
theorem fits_ctr : CtrJ TT Tryz.prog 117 fitsM := un_ctr hTT hJ fun ρ w v a hw ht hn ha => by
  have h1 := bigE_ok hw (hn (bigE a) (by simp))
  refine (fits_any _ v w ha h1.2 (ht 18 (Nat.le_refl _))).mono ?_
  rintro e w' ⟨rfl, hb⟩
  refine ⟨?_, hb⟩
  rw [den_b, B_happ, hw.h8]
  simp [fstI]
def isZeroM := unM (fun a => [.le (.c 0) a]) fun a => .b (.eq a (.c 0))
theorem isZero_ctr : CtrJ TT Tryz.prog 42 isZeroM := un_ctr hTT hJ fun ρ w v a hw ht hn ha => by
  have h1 := hn _ List.mem_cons_self
  simp only [B_le, I_c, decide_eq_true_eq] at h1
  obtain ⟨n, f, k1, k2, k3⟩ := ha
  obtain ⟨a', cap, rfl⟩ := k1.shape
  rw [den_b, B_eq, I_c]
  rcases Nat.eq_zero_or_pos n with h0 | h0
  · subst h0
    have : a.I ρ = 0 := by
      have : (0 : Nat) = (a.I ρ).toNat := k3
      omega
    refine (isZero_yes a' cap w).mono ?_
    rintro e w' ⟨rfl, rfl⟩
    exact ⟨by rw [this]; rfl, Below.refl _ _⟩
  · have hp := val_ge h0 (k2.top.resolve_left (by omega))
    have hp2 := Nat.pow_pos (n := n - 1) R64_pos
    have hn2 : n ≤ maxLen := by
      rcases k1 with ⟨-, h⟩ | ⟨_, _, c, h, h2, h3, -⟩
      · omega
      · omega
    refine (isZero_no a' n cap hn2 h0 w).mono ?_
    rintro e w' ⟨rfl, rfl⟩
    refine ⟨?_, Below.refl _ _⟩
    rw [decide_eq_false (by omega)]
/-- the contracts of the naturals. -/
def natCalls : List Ctr := [ctrJ 68 gcdM, ctrJ 69 overM, ctrJ 38 timesM, ctrJ 43 plusM, ctrJ 92 minusM,
  ctrJ 82 cmpM, ctrJ 29 isNatM, ctrJ 67 isNumberM, ctrJ 44 wordM, ctrJ 78 isOneM,
  ctrJ 72 digitsM, ctrJ 117 fitsM, ctrJ 42 isZeroM]
theorem natCalls_ok : ∀ q ∈ natCalls, CtrOk TT Tryz.prog q := by
  intro q hq
  simp only [natCalls, List.mem_cons, List.not_mem_nil, or_false] at hq
  rcases hq with rfl | rfl | rfl | rfl | rfl | rfl | rfl | rfl | rfl | rfl | rfl | rfl | rfl
  · exact ctrJ_ok (gcd_ctr hTT)
  · exact ctrJ_ok (over_ctr hTT)
  · exact ctrJ_ok (times_ctr hTT)
  · exact ctrJ_ok (plus_ctr hTT)
  · exact ctrJ_ok (minus_ctr hTT)
  · exact ctrJ_ok (cmp_ctr hTT)
  · exact ctrJ_ok (isNat_ctr hTT)
  · exact ctrJ_ok (isNumber_ctr hTT)
  · exact ctrJ_ok (word_ctr hTT)
  · exact ctrJ_ok (isOne_ctr hTT hJ)
  · exact ctrJ_ok (digits_ctr hTT hJ)
  · exact ctrJ_ok (fits_ctr hTT hJ)
  · exact ctrJ_ok (isZero_ctr hTT hJ)
end
end Go.Proofs.YtkggfeemjabdeaaGreatDoor.Wc
end
section
namespace Go.Proofs.YtkggfeemjabdeaaGreatDoor.Wc
open Go Go.Proofs.YtkggfeemjabdeaaGreatDoor.Sx Go.RowKit

def ratA : V → List (Nat × Sx.Row) → Option (E × E)
  | .agg (.cons a (.cons b .nil)), R => match natA a R, natA b R with | some x, some y => some (x, y) | _, _ => none
  | _, _ => none
/-- What a call comes to: what is asked, the fraction, when it is one, what is known then. -/
structure Q where
  need : List E
  num : E
  den : E
  ok : E := .tt
  facts : List E := []
def errV : V := .ifc 25 (.i .i64 (.c 4))
def ratV (n : Nat) : V := .agg (.cons (.rsl n) (.cons (.rsl (n + 1)) .nil))
def ctrQ (f : FuncId) (m : List V → List (Nat × Sx.Row) → Option Q) : Ctr :=
  ⟨f, fun args σ => if σ.W.isEmpty && σ.R.all (fun p => !p.2.own) then match m args σ.R with
    | some q => if St.ok { σ with R := (σ.fr, numRow q.num) :: σ.R, fr := σ.fr + 1, F := σ.F } then some (musts σ q.need ++ (if q.ok = .tt then [] else [⟨.panic errV, { σ with F := .not q.ok :: (news σ.F q.need ++ σ.F) }⟩]) ++
      [⟨.val (ratV σ.fr), { σ with R := (σ.fr + 1, numRow q.den) :: (σ.fr, numRow q.num) :: σ.R, fr := σ.fr + 2, F := q.ok :: (q.facts ++ news σ.F q.need ++ σ.F) }⟩]) else none
    | none => none
    else none⟩
def SrcR (ρ : Env) (R : List (Nat × Sx.Row)) (w : World) (u : Value) : Prop := ∀ b, u.ownBlock = some b → w.heap.size ≤ b ∨ ∃ x r', findR R x = some r' ∧ (ρ.v x).ownBlock = some b
def QOk (TT : Tb) (P : Program) (f : FuncId) (m : List V → List (Nat × Sx.Row) → Option Q) : Prop :=
  ∀ args R q ρ base w w0, m args R = some q → TT.tab ρ.g ρ.h ρ.k ρ.m → TT.J w0 → Below w0.heap.size w0 w → (∀ e ∈ q.need, e.B ρ = true) → (∀ x r, findR R x = some r → r.at ρ base w (ρ.v x)) →
    Calls P f (arr ρ args) w fun e w' => Below w.heap.size w w' ∧
      (q.ok.B ρ = true → (∀ e ∈ q.facts, e.B ρ = true) ∧ ∃ u1 u2, e = .returned (.agg #[u1, u2]) ∧ NatV w' u1 (q.num.I ρ).toNat ∧ NatV w' u2 (q.den.I ρ).toNat ∧ SrcR ρ R w u1 ∧ SrcR ρ R w u2) ∧
      (q.ok.B ρ = false → e = .panicked [{ v := errV.den ρ, recovered := false }])
/-- One more row, in memory that is new since w. -/
theorem sees_more {TT : Tb} {ρ : Env} {σ : St} {w0 w w' : World} {σ1 : St} {ρ1 : Env} (hs : Sees TT ρ σ w0 w) (hs1 : Sees TT ρ1 σ1 w0 w') (hok1 : σ1.ok = true) (hH : σ1.H = σ.H) (hHb : ∀ p ∈ σ.H, ρ1.blk p.1 = ρ.blk p.1) (hsz : w0.heap.size ≤ w.heap.size)
    (hown : ∀ p ∈ σ1.R, p.2.own = false) (u : Value) {r : Sx.Row} (hat : r.at ρ1 w0.heap.size w' u) (hro : r.own = false)
    (hblk : ∀ b, u.ownBlock = some b → w.heap.size ≤ b ∨ ∃ p ∈ σ1.R, (ρ1.v p.1).ownBlock = some b) {F' : List E} (hF' : holds ρ1 F') :
    Sees TT (ρ1.nameV σ1.fr u) { σ1 with R := (σ1.fr, r) :: σ1.R, fr := σ1.fr + 1, F := F' } w0 w' := by
  obtain ⟨-, hH1, hF, hW, hR⟩ := ok_parts hok1
  have hx := nameV_ext ρ1 σ1.fr u
  have hs' := sees_ext hx hH1 hF hW hR hs1
  have hnew : (ρ1.nameV σ1.fr u).v σ1.fr = u := by simp [Env.nameV]
  have hold : ∀ p ∈ σ1.R, (ρ1.nameV σ1.fr u).v p.1 = ρ1.v p.1 := fun p hp => hx.v _ (hR p hp).1
  refine ⟨hs'.os, hs'.tape, hs'.output, hs'.size, hs'.keep, hs'.blk, hs'.sep, hs'.own, fun p hp => ?_, fun p hp b hb q hq => ?_, fun p hp ho => ?_, fun f hf => by rw [nameV_B]; exact hF' f hf, hs'.tab, fun p hp b hb => ?_⟩
  · rcases List.mem_cons.1 hp with rfl | hp
    · simp only [hnew]; exact nameV_at.2 hat
    · exact hs'.row p hp
  · rcases List.mem_cons.1 hp with rfl | hp
    · simp only [hnew] at hb
      rw [blk_ext hx (hH1 q hq).1]
      rcases hblk b hb with h1 | ⟨p2, hp2, hb2⟩
      · have hq' : q ∈ σ.H := by rw [← hH]; exact hq
        obtain ⟨y, hy⟩ := HO.at_some (hs.blk q hq')
        have := (Array.getElem?_eq_some_iff.1 hy).1
        rw [hHb q hq']
        omega
      · exact hs1.rsep p2 hp2 b hb2 q hq
    · exact hs'.rsep p hp b hb q hq
  · rcases List.mem_cons.1 hp with rfl | hp
    · simp only at ho; rw [hro] at ho; cases ho
    · rw [hown p hp] at ho; cases ho
  · rcases List.mem_cons.1 hp with rfl | hp
    · simp only [hnew] at hb
      rcases hblk b hb with h1 | ⟨p2, hp2, hb2⟩
      · exact .inl (Nat.le_trans hsz h1)
      · exact hs1.src p2 hp2 b hb2
    · exact hs'.src p hp b hb
theorem ctrQ_ok {TT : Tb} {P : Program} {f : FuncId} {m : List V → List (Nat × Sx.Row) → Option Q} (hTT : ∀ g h k m, TT.tab g h k m → WTab g h k m)
    (h : QOk TT P f m) : CtrOk TT P (ctrQ f m) := by
  intro args σ outs hr hok ha ρ w0 w R hs hg
  simp only [ctrQ] at hr
  split at hr
  case isFalse => cases hr
  rename_i hc
  simp only [Bool.and_eq_true, List.isEmpty_iff, List.all_eq_true, Bool.not_eq_true'] at hc
  obtain ⟨hW, hown⟩ := hc
  split at hr
  case h_2 => cases hr
  rename_i q hm
  split at hr
  case isFalse => cases hr
  rename_i hok1
  cases hr
  have hbel := hs.below hW
  have hn : ∀ e ∈ q.need, e.B ρ = true := fun e he =>
    musts_ok hs (fun u hu e hue => by
      have := hg u (List.mem_append.2 (.inl (List.mem_append.2 (.inl hu)))) ρ w (Ext.refl _ _) (by
        obtain ⟨e', -, rfl⟩ := List.mem_map.1 hu
        exact hs)
      rw [hue] at this
      exact this) e he
  have hR := (ok_parts hok).2.2.2.2
  have hw := hTT _ _ _ _ hs.tab.1
  refine (h args σ.R q ρ w0.heap.size w w0 hm hs.tab.1 hs.tab.2 hbel hn fun x r hf => hs.row _ (findR_mem hf)).mono fun e w' ⟨hb, h1, h2⟩ => ?_
  have hF0 : holds ρ (news σ.F q.need ++ σ.F) := fun e he => by
    rcases List.mem_append.1 he with he | he
    · exact hn e (List.mem_filter.1 he).1
    · exact hs.fact e he
  cases hqo : q.ok.B ρ with
  | false =>
    have he := h2 hqo
    have hne : q.ok ≠ .tt := fun e => by rw [e] at hqo; cases hqo
    subst he
    exact hg ⟨.panic errV, _⟩ (List.mem_append.2 (.inl (List.mem_append.2 (.inr (by rw [if_neg hne]; exact List.mem_cons_self))))) ρ w' (Ext.refl _ _) ((hs.step hb).withF fun e he => by
      rcases List.mem_cons.1 he with rfl | he
      · simp [hqo]
      · exact hF0 e he)
  | true =>
    obtain ⟨hfa, u1, u2, rfl, v1, v2, s1, s2⟩ := h1 hqo
    have hF' : holds ρ (q.ok :: (q.facts ++ news σ.F q.need ++ σ.F)) := fun e he => by
      rcases List.mem_cons.1 he with rfl | he
      · exact hqo
      · rw [List.append_assoc] at he
        rcases List.mem_append.1 he with he | he
        · exact hfa e he
        · exact hF0 e he
    have hx1 := nameV_ext ρ σ.fr u1
    have hs1 := sees_res (R' := σ.R) (r := numRow q.num) (F' := σ.F) hs hok hb u1 (at_of_natV hw.m2 v1) (fun p hp => hp) (fun b hbb => by
      rcases s1 b hbb with h3 | ⟨x, r', hf, hxb⟩
      · exact .inl h3
      · exact .inr ⟨rfl, (x, r'), findR_mem hf, hxb, fun q hq _ => hown q hq⟩) hs.fact
    have e2 : (q.den.I (ρ.nameV σ.fr u1)) = q.den.I ρ := nameV_I _ _ _ _
    have hs2 := sees_more (σ := σ) (σ1 := { σ with R := (σ.fr, numRow q.num) :: σ.R, fr := σ.fr + 1, F := σ.F }) (r := numRow q.den) (F' := q.ok :: (q.facts ++ news σ.F q.need ++ σ.F)) hs hs1 hok1 rfl (fun p hp => blk_ext hx1 ((ok_parts hok).2.1 p hp).1) hs.size
      (fun p hp => by
        rcases List.mem_cons.1 hp with rfl | hp
        · rfl
        · exact hown p hp) u2 (at_of_natV (by exact hw.m2) (by rw [e2]; exact v2)) rfl (fun b hbb => by
        rcases s2 b hbb with h3 | ⟨x, r', hf, hxb⟩
        · exact .inl h3
        · refine .inr ⟨(x, r'), List.mem_cons_of_mem _ (findR_mem hf), ?_⟩
          rw [hx1.v _ (hR _ (findR_mem hf)).1]; exact hxb) (fun e he => by rw [nameV_B]; exact hF' e he)
    have := hg ⟨.val (ratV σ.fr), _⟩ (List.mem_append.2 (.inr List.mem_cons_self)) _ w' (hx1.trans (nameV_ext _ (σ.fr + 1) u2) (by omega)) hs2
    simp only [ratV, den_agg, dens_cons, dens_nil, den_rsl] at this
    have a1 : ((ρ.nameV σ.fr u1).nameV (σ.fr + 1) u2).v σ.fr = u1 := by simp [Env.nameV]
    have a2 : ((ρ.nameV σ.fr u1).nameV (σ.fr + 1) u2).v (σ.fr + 1) = u2 := by simp [Env.nameV]
    rw [a1, a2, asSl_at (at_of_natV (a := q.num) (base := 0) hw.m2 v1), asSl_at (at_of_natV (a := q.den) (base := 0) hw.m2 v2)] at this
    exact this
end Go.Proofs.YtkggfeemjabdeaaGreatDoor.Wc
end
section
namespace Go.Proofs.YtkggfeemjabdeaaGreatDoor.Wc
open Go Go.Proofs.YtkggfeemjabdeaaGreatDoor.Sx Go.RowKit

def e4 (a b c d : E) : E := .cons a (.cons b (.cons c (.cons d .nil)))
def goodE (a b : E) : E := .happ 11 (e2 a b)
def fitE (a : E) : E := .happ 8 (e1 a)
def lowM : List V → List (Nat × Sx.Row) → Option Q
  | [v, v'], R => match natA v R, natA v' R with
    | some a, some b => some { need := [bigE a, bigE b, .lt (.c 0) b], num := .app 10 (e2 a b), den := .app 11 (e2 a b), facts := [bigE (.app 10 (e2 a b)), bigE (.app 11 (e2 a b)), .lt (.c 0) (.app 11 (e2 a b))] }
    | _, _ => none
  | _, _ => none
def fitM : List V → List (Nat × Sx.Row) → Option Q
  | [q], R => match ratA q R with
    | some (a, b) => some { need := [bigE a, bigE b], num := a, den := b, ok := .and (fitE a) (fitE b) }
    | none => none
  | _, _ => none
def binQ (n : Nat) (more : E → E → E → E → List E) : List V → List (Nat × Sx.Row) → Option Q
  | [q, q'], R => match ratA q R, ratA q' R with
    | some (a, b), some (c, d) => some { need := [goodE a b, goodE c d] ++ more a b c d, num := .app n (e4 a b c d), den := .app (n + 1) (e4 a b c d), ok := .happ n (e4 a b c d), facts := [goodE (.app n (e4 a b c d)) (.app (n + 1) (e4 a b c d))] }
    | _, _ => none
  | _, _ => none
def addM := binQ 12 fun _ _ _ _ => []
def subM := binQ 14 fun a b c d => [.le (.mul c b) (.mul a d)]
def mulM := binQ 16 fun _ _ _ _ => []
def divM : List V → List (Nat × Sx.Row) → Option Q
  | [q, q'], R => match ratA q R, ratA q' R with
    | some (a, b), some (c, d) => some { need := [goodE a b, goodE c d, .lt (.c 0) c], num := .app 16 (e4 a b d c), den := .app 17 (e4 a b d c), ok := .happ 16 (e4 a b d c), facts := [goodE (.app 16 (e4 a b d c)) (.app 17 (e4 a b d c))] }
    | _, _ => none
  | _, _ => none

/-! ### Calls on plain numbers -/
def envN (xs : List Nat) (vs : List Value) : Env :=
  { i := fun n => ((xs.getD n 0 : Nat) : Int), b := fun _ => false, s := fun _ => ⟨#[]⟩, v := fun n => vs.getD n (.slice none 0 0), n := fun _ => 0, g := wg, h := wh, k := wk, l := fun _ => [], m := wm }
def rowsN (n : Nat) : List (Nat × Sx.Row) := (List.range n).map fun i => (i, numRow (.v i))
def ttN (vs : List Value) : Tb := { tab := WTab, A := fun b => ∃ u ∈ vs, u.ownBlock = some b, J := Tens }
theorem wtab : WTab wg wh wk wm := ⟨rfl, rfl, rfl, rfl⟩
inductive Nats (w : World) : List Nat → List Value → Prop
  | nil : Nats w [] []
  | cons {x v xs vs} : NatV w v x → Nats w xs vs → Nats w (x :: xs) (v :: vs)
theorem Nats.len {w : World} {xs : List Nat} {vs : List Value} (h : Nats w xs vs) : xs.length = vs.length := by
  induction h with
  | nil => rfl
  | cons _ _ ih => simp [ih]
theorem Nats.at {w : World} {xs : List Nat} {vs : List Value} (h : Nats w xs vs) : ∀ i, i < xs.length → NatV w (vs.getD i (.slice none 0 0)) (xs.getD i 0) := by
  induction h with
  | nil => intro i hi; cases hi
  | cons h1 _ ih =>
    intro i hi
    cases i with
    | zero => exact h1
    | succ i => exact ih i (by simpa using hi)
theorem natV_sl {w : World} {v : Value} {x : Nat} (h : NatV w v x) : asSl v = v := by
  obtain ⟨n, f, h1, -, -⟩ := h
  obtain ⟨a, c, rfl⟩ := h1.shape
  rfl
theorem rowsN_ok {w : World} {xs : List Nat} {vs : List Value} (h : Nats w xs vs) : ∀ p ∈ rowsN xs.length, p.2.own = false ∧ p.2.at (envN xs vs) w.heap.size w ((envN xs vs).v p.1) ∧ ∀ b, ((envN xs vs).v p.1).ownBlock = some b → (ttN vs).A b := by
  intro p hp
  obtain ⟨i, hi, rfl⟩ := List.mem_map.1 hp
  have hi := List.mem_range.1 hi
  refine ⟨rfl, at_of_natV rfl ?_, fun b hb => ?_⟩
  · have := h.at i hi
    simpa [envN] using this
  · refine ⟨vs.getD i (.slice none 0 0), ?_, hb⟩
    rw [List.getD_eq_getElem?_getD, List.getElem?_eq_getElem (by rw [← h.len]; exact hi)]
    exact List.getElem_mem _
def errVal : Value := .iface 25 (.int .i64 4)
/-- A call returns a fraction, or panics. -/
def RetQ (us : List Value) (ok : Bool) (x : Nat × Nat) (w : World) (e : Ending) (w' : World) : Prop :=
  Below w.heap.size w w' ∧ (ok = true → ∃ u1 u2, e = .returned (.agg #[u1, u2]) ∧ NatV w' u1 x.1 ∧ NatV w' u2 x.2 ∧ Src w us u1 ∧ Src w us u2) ∧ (ok = false → e = .panicked [{ v := errVal, recovered := false }])
/-- The fraction that an ending of the executor tells. -/
theorem ret_rat {ρ : Env} {w w' : World} {vs : List Value} {i j : Nat} {a b : E} {R : List (Nat × Sx.Row)} (hm : ρ.m = wm) (hrow : ∀ p ∈ R, p.2.at ρ w.heap.size w' (ρ.v p.1) ∧ ∀ c, (ρ.v p.1).ownBlock = some c → w.heap.size ≤ c ∨ (ttN vs).A c)
    (hi : (i, numRow a) ∈ R) (hj : (j, numRow b) ∈ R) {x : Nat × Nat} (ha : (a.I ρ).toNat = x.1) (hb : (b.I ρ).toNat = x.2) :
    ∃ u1 u2, Ending.returned (V.den ρ (.agg (.cons (.rsl i) (.cons (.rsl j) .nil)))) = .returned (.agg #[u1, u2]) ∧ NatV w' u1 x.1 ∧ NatV w' u2 x.2 ∧ Src w vs u1 ∧ Src w vs u2 := by
  obtain ⟨r1, s1⟩ := hrow _ hi
  obtain ⟨r2, s2⟩ := hrow _ hj
  have hm2 : ρ.m 2 = nM := by rw [hm]; rfl
  refine ⟨ρ.v i, ρ.v j, ?_, by rw [← ha]; exact natV_of_at rfl rfl (by simp [numRow, hm2, nM, fstI]) r1, by rw [← hb]; exact natV_of_at rfl rfl (by simp [numRow, hm2, nM, fstI]) r2, s1, s2⟩
  rw [den_agg, dens_cons, dens_cons, dens_nil, den_rsl, den_rsl, asSl_at r1, asSl_at r2]

/-! ### From calls on plain numbers to the executor's contracts -/
theorem ratA_ok {ρ : Env} {R : List (Nat × Sx.Row)} {q : V} {a b : E} {base : Nat} {w : World} (hm : ρ.m 2 = nM) (h : ratA q R = some (a, b)) (hrows : ∀ x r, findR R x = some r → r.at ρ base w (ρ.v x)) :
    ∃ v v', q.den ρ = .agg #[v, v'] ∧ NatV w v (a.I ρ).toNat ∧ NatV w v' (b.I ρ).toNat ∧ (∀ c, v.ownBlock = some c → ∃ x r', findR R x = some r' ∧ (ρ.v x).ownBlock = some c) ∧ (∀ c, v'.ownBlock = some c → ∃ x r', findR R x = some r' ∧ (ρ.v x).ownBlock = some c) := by
  unfold ratA at h
  split at h
  · rename_i u u'
    split at h
    · rename_i x y h1 h2
      cases h
      refine ⟨u.den ρ, u'.den ρ, rfl, natA_ok hm h1 hrows, natA_ok hm h2 hrows, fun c hc => ?_, fun c hc => ?_⟩
      · obtain ⟨x, r, -, h3, h4⟩ := natA_src h1 hrows (args := [u]) (by simp) hc
        exact ⟨x, r, h3, h4⟩
      · obtain ⟨x, r, -, h3, h4⟩ := natA_src h2 hrows (args := [u']) (by simp) hc
        exact ⟨x, r, h3, h4⟩
    · cases h
  · cases h
theorem retQ_post {ρ : Env} {R : List (Nat × Sx.Row)} {q : Q} {us : List Value} {ok : Bool} {x : Nat × Nat} {w w' : World} {e : Ending} (h : RetQ us ok x w e w') (hok : q.ok.B ρ = ok) (hx : (q.num.I ρ).toNat = x.1) (hy : (q.den.I ρ).toNat = x.2)
    (hf : ok = true → ∀ e ∈ q.facts, e.B ρ = true) (hs : ∀ u ∈ us, ∀ c, u.ownBlock = some c → ∃ x r', findR R x = some r' ∧ (ρ.v x).ownBlock = some c) :
    Below w.heap.size w w' ∧
      (q.ok.B ρ = true → (∀ e ∈ q.facts, e.B ρ = true) ∧ ∃ u1 u2, e = .returned (.agg #[u1, u2]) ∧ NatV w' u1 (q.num.I ρ).toNat ∧ NatV w' u2 (q.den.I ρ).toNat ∧ SrcR ρ R w u1 ∧ SrcR ρ R w u2) ∧
      (q.ok.B ρ = false → e = .panicked [{ v := errV.den ρ, recovered := false }]) := by
  obtain ⟨h1, h2, h3⟩ := h
  have src : ∀ u, Src w us u → SrcR ρ R w u := fun u hu c hc => by
    rcases hu c hc with h | ⟨y, hy, hyc⟩
    · exact .inl h
    · exact .inr (hs y hy c hyc)
  refine ⟨h1, fun ht => ?_, fun ht => h3 (by rw [← hok]; exact ht)⟩
  rw [hok] at ht
  obtain ⟨u1, u2, k1, k2, k3, k4, k5⟩ := h2 ht
  exact ⟨hf ht, u1, u2, k1, by rw [hx]; exact k2, by rw [hy]; exact k3, src _ k4, src _ k5⟩
theorem bigE_of {ρ : Env} (h : WTab ρ.g ρ.h ρ.k ρ.m) {a : E} (h0 : 0 ≤ a.I ρ) (h1 : (a.I ρ).toNat < Big) : (bigE a).B ρ = true := by
  unfold bigE
  rw [B_happ, h.h]
  simp [wh, fstI, bigB_t, h0, h1]
theorem goodE_ok {ρ : Env} (h : WTab ρ.g ρ.h ρ.k ρ.m) {a b : E} (hb : (goodE a b).B ρ = true) : 0 ≤ a.I ρ ∧ 0 ≤ b.I ρ ∧ Fr ((a.I ρ).toNat, (b.I ρ).toNat) ∧ (a.I ρ).toNat < T600 ∧ (b.I ρ).toNat < T600 := by
  unfold goodE at hb
  rw [B_happ, h.h] at hb
  simp only [e2, L_cons, L_nil, wh, nonneg, goodB, fitsF, fit1_t, frA, at4, Bool.and_eq_true, decide_eq_true_eq, List.all_cons, List.all_nil] at hb
  simp at hb
  obtain ⟨⟨h1, h2⟩, ⟨h3, h4⟩, h5, h6⟩ := hb
  exact ⟨h1, h2, ⟨by simpa using h3, by simpa using h4⟩, h5, h6⟩
theorem goodE_of {ρ : Env} (h : WTab ρ.g ρ.h ρ.k ρ.m) {a b : E} (h0 : 0 ≤ a.I ρ) (h1 : 0 ≤ b.I ρ) (hf : Fr ((a.I ρ).toNat, (b.I ρ).toNat)) (h2 : (a.I ρ).toNat < T600) (h3 : (b.I ρ).toNat < T600) : (goodE a b).B ρ = true := by
  unfold goodE
  rw [B_happ, h.h]
  have k1 := hf.pos; have k2 := hf.cop
  simp only at k1 k2
  simp only [e2, L_cons, L_nil, wh, nonneg, goodB, fitsF, fit1_t, frA, at4, Bool.and_eq_true, decide_eq_true_eq, List.all_cons, List.all_nil]
  simp [h0, h1, h2, h3, k2]
  omega
end Go.Proofs.YtkggfeemjabdeaaGreatDoor.Wc
end
section
namespace Go.Proofs.YtkggfeemjabdeaaGreatDoor.Wc
open Go Go.Proofs.YtkggfeemjabdeaaGreatDoor.Sx Go.RowKit

theorem gcd_pos' {x y : Nat} (h : 0 < y) : 0 < Nat.gcd x y := Nat.gcd_pos_of_pos_right x h
theorem tdiv_nat (x y : Nat) : ((x : Int).tdiv (y : Int)).toNat = x / y := rfl
theorem lowest_any (x y : Nat) (v v' : Value) (w : World) (hv : NatV w v x) (hv' : NatV w v' y) (hx : x < Big) (hy : y < Big) (h0 : 0 < y) (ht : Tens w) :
    Calls Tryz.prog 30 #[v, v'] w (RetQ [v, v'] true (low x y) w) := by
  have key : Calls Tryz.prog 30 (arr (envN [x, y] [v, v']) [.rsl 0, .rsl 1]) w (RetQ [v, v'] true (low x y) w) := by
    refine sx_rows (TT := ttN [v, v']) (Γ := { calls := natCalls }) (natCalls_ok (fun _ _ _ _ h => h) (fun _ h => h)) 400 [.rsl 0, .rsl 1] (rowsN 2) [bigE (.v 0), bigE (.v 1), .lt (.c 0) (.v 1)] 10
      [⟨(.must (.lt (.c 0) (.app 7 (.cons (.v 0) (.cons (.v 1) .nil))))), [(.happ 7 (.cons (.v 0) .nil)), (.happ 7 (.cons (.v 1) .nil)), (.lt (.c 0) (.v 1))], []⟩,
⟨(.val (.agg (.cons (.rsl 12) (.cons (.rsl 13) .nil)))), [(.lt (.c 0) (.app 7 (.cons (.v 0) (.cons (.v 1) .nil)))), (.happ 7 (.cons (.v 0) .nil)), (.happ 7 (.cons (.v 1) .nil)), (.lt (.c 0) (.v 1))], [(13, ⟨false, 0, [(.i .u64)], (.llen (.lapp 2 (.cons (.quo (.v 1) (.app 7 (.cons (.v 0) (.cons (.v 1) .nil)))) .nil))), (.lapp 2 (.cons (.quo (.v 1) (.app 7 (.cons (.v 0) (.cons (.v 1) .nil)))) .nil))⟩), (12, ⟨false, 0, [(.i .u64)], (.llen (.lapp 2 (.cons (.quo (.v 0) (.app 7 (.cons (.v 0) (.cons (.v 1) .nil)))) .nil))), (.lapp 2 (.cons (.quo (.v 0) (.app 7 (.cons (.v 0) (.cons (.v 1) .nil)))) .nil))⟩)]⟩]
      (by kernel_rfl) (envN [x, y] [v, v']) rfl (rowsN_ok (.cons hv (.cons hv' .nil))) ?_ wtab ⟨?_, ?_⟩ ht
    · simp [holds, bigE, envN, wh, fstI, bigB_t, hx, hy, h0]
    all_goals
      intro ρ' w' hx' htab' hF hbel hrow
      have e0 : ρ'.i 0 = (x : Nat) := hx'.i 0 (by decide)
      have e1 : ρ'.i 1 = (y : Nat) := hx'.i 1 (by decide)
      have hg := htab'.g
    · simp [hg, wg, fstI, sndI, e0, e1]
      exact .inr h0
    · refine ⟨hbel, fun _ => ret_rat htab'.m hrow (.tail _ (.head _)) (.head _) ?_ ?_, fun h => by cases h⟩
      · simp [hg, wg, fstI, sndI, e0, e1]; exact tdiv_nat _ _
      · simp [hg, wg, fstI, sndI, e0, e1]; exact tdiv_nat _ _
  have e : arr (envN [x, y] [v, v']) [.rsl 0, .rsl 1] = #[v, v'] := by
    simp [arr, den_rsl, envN, natV_sl hv, natV_sl hv']
  rw [e] at key
  exact key
theorem fitting_any (x y : Nat) (v v' : Value) (w : World) (hv : NatV w v x) (hv' : NatV w v' y) (hx : x < Big) (hy : y < Big) (ht : Tens w) :
    Calls Tryz.prog 77 #[.agg #[v, v']] w (RetQ [v, v'] (fitsF (x, y)) (x, y) w) := by
  have key : Calls Tryz.prog 77 (arr (envN [x, y] [v, v']) [ratV 0]) w (RetQ [v, v'] (fitsF (x, y)) (x, y) w) := by
    refine sx_rows (TT := ttN [v, v']) (Γ := { calls := natCalls }) (natCalls_ok (fun _ _ _ _ h => h) (fun _ h => h)) 400 [ratV 0] (rowsN 2) [bigE (.v 0), bigE (.v 1)] 10
      [⟨(.panic (.ifc 25 (.i .i64 (.c 4)))), [(.not (.happ 8 (.cons (.v 0) .nil))), (.happ 7 (.cons (.v 0) .nil)), (.happ 7 (.cons (.v 1) .nil))], []⟩,
⟨(.panic (.ifc 25 (.i .i64 (.c 4)))), [(.not (.happ 8 (.cons (.v 1) .nil))), (.happ 8 (.cons (.v 0) .nil)), (.happ 7 (.cons (.v 0) .nil)), (.happ 7 (.cons (.v 1) .nil))], []⟩,
⟨(.val (.agg (.cons (.rsl 0) (.cons (.rsl 1) .nil)))), [(.happ 8 (.cons (.v 1) .nil)), (.happ 8 (.cons (.v 0) .nil)), (.happ 7 (.cons (.v 0) .nil)), (.happ 7 (.cons (.v 1) .nil))], [(0, ⟨false, 0, [(.i .u64)], (.llen (.lapp 2 (.cons (.v 0) .nil))), (.lapp 2 (.cons (.v 0) .nil))⟩), (1, ⟨false, 0, [(.i .u64)], (.llen (.lapp 2 (.cons (.v 1) .nil))), (.lapp 2 (.cons (.v 1) .nil))⟩)]⟩]
      (by kernel_rfl) (envN [x, y] [v, v']) rfl (rowsN_ok (.cons hv (.cons hv' .nil))) ?_ wtab ⟨?_, ?_, ?_⟩ ht
    · simp [holds, bigE, envN, wh, fstI, bigB_t, hx, hy]
    all_goals
      intro ρ' w' hx' htab' hF hbel hrow
      have e0 : ρ'.i 0 = (x : Nat) := hx'.i 0 (by decide)
      have e1 : ρ'.i 1 = (y : Nat) := hx'.i 1 (by decide)
      have hh := htab'.h
      simp [holds, hh, wh, fstI, e0, e1, fit1_t, fit1_f] at hF
    · have hf : fitsF (x, y) = false := by unfold fitsF; simp [fit1_t, fit1_f]; omega
      exact ⟨hbel, (fun h => by rw [hf] at h; cases h), fun _ => rfl⟩
    · have hf : fitsF (x, y) = false := by unfold fitsF; simp [fit1_t, fit1_f]; omega
      exact ⟨hbel, (fun h => by rw [hf] at h; cases h), fun _ => rfl⟩
    · have hf : fitsF (x, y) = true := by unfold fitsF; simp [fit1_t, fit1_f]; omega
      refine ⟨hbel, fun _ => ret_rat htab'.m hrow (.head _) (.tail _ (.head _)) ?_ ?_, (fun h => by rw [hf] at h; cases h)⟩
      · simp [e0]
      · simp [e1]
  have e : arr (envN [x, y] [v, v']) [ratV 0] = #[.agg #[v, v']] := by
    simp [arr, ratV, den_agg, dens_cons, dens_nil, den_rsl, envN, natV_sl hv, natV_sl hv']
  rw [e] at key
  exact key
theorem low_ctr {TT : Tb} (hTT : ∀ g h k m, TT.tab g h k m → WTab g h k m) (hJ : ∀ w, TT.J w → Tens w) : QOk TT Tryz.prog 30 lowM := by
  intro args R q ρ base w w0 hm htab hj hbel hneed hrows
  unfold lowM at hm
  split at hm
  case h_2 => cases hm
  rename_i v v'
  split at hm
  case h_2 => cases hm
  rename_i a b ha hb
  cases hm
  have hw := hTT _ _ _ _ htab
  have h1 := bigE_ok hw (hneed (bigE a) (by simp)); have h2 := bigE_ok hw (hneed (bigE b) (by simp))
  have h3 := hneed (.lt (.c 0) b) (by simp)
  simp only [B_lt, I_c, decide_eq_true_eq] at h3
  have ex : ((E.app 10 (e2 a b)).I ρ) = ((low (a.I ρ).toNat (b.I ρ).toNat).1 : Nat) := by simp [e2, hw.g, wg, at4]
  have ey : ((E.app 11 (e2 a b)).I ρ) = ((low (a.I ρ).toNat (b.I ρ).toNat).2 : Nat) := by simp [e2, hw.g, wg, at4]
  refine (lowest_any _ _ _ _ w (natA_ok hw.m2 ha hrows) (natA_ok hw.m2 hb hrows) h1.2 h2.2 (by omega) (fun j hj' => cell_later hbel (hJ w0 hj j hj'))).mono fun e w' h => ?_
  refine retQ_post h rfl (by simp only [ex]; rfl) (by simp only [ey]; rfl) (fun _ => ?_) ?_
  · have hl := low_le (a.I ρ).toNat (b.I ρ).toNat
    have hp := (low_fr (n := (a.I ρ).toNat) (d := (b.I ρ).toNat) (by omega)).pos
    simp only [List.mem_cons, List.not_mem_nil, or_false, forall_eq_or_imp, forall_eq]
    refine ⟨bigE_of hw (by rw [ex]; omega) (by rw [ex]; omega), bigE_of hw (by rw [ey]; omega) (by rw [ey]; omega), ?_⟩
    rw [B_lt, I_c, ey]; simp; omega
  · intro u hu c hc
    rcases List.mem_cons.1 hu with rfl | hu
    · obtain ⟨x, r, -, h4, h5⟩ := natA_src ha hrows (args := [v]) (by simp) hc; exact ⟨x, r, h4, h5⟩
    · cases List.mem_singleton.1 hu
      obtain ⟨x, r, -, h4, h5⟩ := natA_src hb hrows (args := [v']) (by simp) hc; exact ⟨x, r, h4, h5⟩
theorem fit_ctr {TT : Tb} (hTT : ∀ g h k m, TT.tab g h k m → WTab g h k m) (hJ : ∀ w, TT.J w → Tens w) : QOk TT Tryz.prog 77 fitM := by
  intro args R q ρ base w w0 hm htab hj hbel hneed hrows
  unfold fitM at hm
  split at hm
  case h_2 => cases hm
  rename_i v
  split at hm
  case h_2 => cases hm
  rename_i a b ha
  cases hm
  have hw := hTT _ _ _ _ htab
  have h1 := bigE_ok hw (hneed (bigE a) (by simp)); have h2 := bigE_ok hw (hneed (bigE b) (by simp))
  obtain ⟨u1, u2, k1, k2, k3, k4, k5⟩ := ratA_ok hw.m2 ha hrows
  have earg : arr ρ [v] = #[.agg #[u1, u2]] := by simp [arr, k1]
  rw [earg]
  refine (fitting_any _ _ _ _ w k2 k3 h1.2 h2.2 (fun j hj' => cell_later hbel (hJ w0 hj j hj'))).mono fun e w' h => ?_
  refine retQ_post h ?_ rfl rfl (fun _ => by simp) ?_
  · simp [fitE, e1, hw.h, wh, fstI, fitsF]
  · intro u hu c hc
    rcases List.mem_cons.1 hu with rfl | hu
    · exact k4 c hc
    · cases List.mem_singleton.1 hu; exact k5 c hc
/-- the contracts of naturals, lowest and fitting. -/
def ratCalls : List Ctr := ctrQ 30 lowM :: ctrQ 77 fitM :: natCalls
theorem ratCalls_ok {TT : Tb} (hTT : ∀ g h k m, TT.tab g h k m → WTab g h k m) (hJ : ∀ w, TT.J w → Tens w) : ∀ q ∈ ratCalls, CtrOk TT Tryz.prog q := by
  intro q hq
  simp only [ratCalls, List.mem_cons] at hq
  rcases hq with rfl | rfl | hq
  · exact ctrQ_ok hTT (low_ctr hTT hJ)
  · exact ctrQ_ok hTT (fit_ctr hTT hJ)
  · exact natCalls_ok hTT hJ q hq
end Go.Proofs.YtkggfeemjabdeaaGreatDoor.Wc
end
section
namespace Go.Proofs.YtkggfeemjabdeaaGreatDoor.Wc
open Go Go.Proofs.YtkggfeemjabdeaaGreatDoor.Sx Go.RowKit

def chkQ (ms : List E) (okE numE denE : E) : Option (List Out) → Bool
  | some l => l.all fun o => o.st.W.isEmpty && match o.x with
    | .must e => ms.contains e
    | .panic v => (v == errV) && o.st.F.contains (.not okE)
    | .val (.agg (.cons (.rsl i) (.cons (.rsl j) .nil))) => o.st.F.contains okE && o.st.R.contains (i, numRow numE) && o.st.R.contains (j, numRow denE)
    | _ => false
  | none => false
/-- **A CALL THAT RETURNS A FRACTION, OR PANICS.** -/
theorem sx_rat {TT : Tb} {P : Program} {Γ : Ctx} (hΓ : ∀ q ∈ Γ.calls, CtrOk TT P q) (g : Nat) {f : FuncId} (args : List V) (R0 : List (Nat × Sx.Row)) (F : List E) (n : Nat) (ms : List E) (okE numE denE : E)
    (h : chkQ ms okE numE denE (go P Γ g (.fn f args) { T := [], R := R0, F := F, fr := n, own := n }) = true)
    (ρ : Env) {w : World} (hR : ∀ p ∈ R0, p.2.own = false ∧ p.2.at ρ w.heap.size w (ρ.v p.1) ∧ ∀ b, (ρ.v p.1).ownBlock = some b → TT.A b) (hF : holds ρ F) (hT : TT.tab ρ.g ρ.h ρ.k ρ.m) (hJ : TT.J w) (hTT : ∀ g h k m, TT.tab g h k m → WTab g h k m)
    (hm : ∀ ρ', Ext n ρ ρ' → WTab ρ'.g ρ'.h ρ'.k ρ'.m → ∀ e ∈ ms, e.B ρ' = true) {us : List Value} (hA : ∀ b, TT.A b → ∃ u ∈ us, u.ownBlock = some b) {ok : Bool} {x : Nat × Nat}
    (hx : ∀ ρ', Ext n ρ ρ' → WTab ρ'.g ρ'.h ρ'.k ρ'.m → okE.B ρ' = ok ∧ (numE.I ρ').toNat = x.1 ∧ (denE.I ρ').toNat = x.2) : Calls P f (arr ρ args) w (RetQ us ok x w) := by
  cases hgo : go P Γ g (.fn f args) { T := [], R := R0, F := F, fr := n, own := n } with
  | none => rw [hgo] at h; cases h
  | some outs =>
    rw [hgo] at h
    simp only [chkQ, List.all_eq_true] at h
    refine ((go_ok hΓ g).2.2.2.2.1 f args _ outs hgo).2 ρ w w _ (Sees.startR ρ _ w rfl rfl hR hF ⟨hT, hJ⟩) fun o ho ρ' w' hx' hs => ?_
    have ho := h o ho
    simp only [Bool.and_eq_true] at ho
    obtain ⟨hW, ho⟩ := ho
    have hWo : o.st.W = [] := by simpa using hW
    have hw := hTT _ _ _ _ hs.tab.1
    obtain ⟨k1, k2, k3⟩ := hx ρ' hx' hw
    have hm2 : ρ'.m 2 = nM := hw.m2
    split at ho
    · rename_i e hox
      rw [hox]
      exact hm ρ' hx' hw e (List.contains_iff_mem.1 ho)
    · rename_i v hox
      rw [hox]
      simp only [Bool.and_eq_true, beq_iff_eq] at ho
      obtain ⟨rfl, hf⟩ := ho
      have hf := hs.fact _ (List.contains_iff_mem.1 hf)
      simp only [B_not, k1, Bool.not_eq_true'] at hf
      exact ⟨hs.below hWo, (fun h => by rw [hf] at h; cases h), fun _ => rfl⟩
    · rename_i i j hox
      rw [hox]
      simp only [Bool.and_eq_true] at ho
      obtain ⟨⟨hf, hi⟩, hj⟩ := ho
      have hf := hs.fact _ (List.contains_iff_mem.1 hf)
      rw [k1] at hf
      have hi := List.contains_iff_mem.1 hi; have hj := List.contains_iff_mem.1 hj
      have r1 := hs.row _ hi; have r2 := hs.row _ hj
      have s1 := hs.src _ hi; have s2 := hs.src _ hj
      have src : ∀ v : Value, (∀ b, v.ownBlock = some b → w.heap.size ≤ b ∨ TT.A b) → Src w us v := fun v hv b hb => by
        rcases hv b hb with h | h
        · exact .inl h
        · exact .inr (hA b h)
      refine ⟨hs.below hWo, fun _ => ⟨ρ'.v i, ρ'.v j, ?_, by rw [← k2]; exact natV_of_at rfl rfl (by simp [numRow, hm2, nM, fstI]) r1, by rw [← k3]; exact natV_of_at rfl rfl (by simp [numRow, hm2, nM, fstI]) r2, src _ s1, src _ s2⟩, (fun h => by rw [hf] at h; cases h)⟩
      show Ending.returned (V.den ρ' (.agg (.cons (.rsl i) (.cons (.rsl j) .nil)))) = _
      rw [den_agg, dens_cons, dens_cons, dens_nil, den_rsl, den_rsl, asSl_at r1, asSl_at r2]
    · cases ho
def chkV (ms : List E) (v : V) : Option (List Out) → Bool
  | some l => l.all fun o => o.st.W.isEmpty && match o.x with
    | .must e => ms.contains e
    | .val u => u == v
    | _ => false
  | none => false
/-- A call that returns one value. -/
theorem sx_val {TT : Tb} {P : Program} {Γ : Ctx} (hΓ : ∀ q ∈ Γ.calls, CtrOk TT P q) (g : Nat) {f : FuncId} (args : List V) (R0 : List (Nat × Sx.Row)) (F : List E) (n : Nat) (ms : List E) (v : V)
    (h : chkV ms v (go P Γ g (.fn f args) { T := [], R := R0, F := F, fr := n, own := n }) = true)
    (ρ : Env) {w : World} (hR : ∀ p ∈ R0, p.2.own = false ∧ p.2.at ρ w.heap.size w (ρ.v p.1) ∧ ∀ b, (ρ.v p.1).ownBlock = some b → TT.A b) (hF : holds ρ F) (hT : TT.tab ρ.g ρ.h ρ.k ρ.m) (hJ : TT.J w) (hTT : ∀ g h k m, TT.tab g h k m → WTab g h k m)
    (hm : ∀ ρ', Ext n ρ ρ' → WTab ρ'.g ρ'.h ρ'.k ρ'.m → ∀ e ∈ ms, e.B ρ' = true) {u : Value}
    (hx : ∀ ρ', Ext n ρ ρ' → WTab ρ'.g ρ'.h ρ'.k ρ'.m → v.den ρ' = u) : Calls P f (arr ρ args) w fun e w' => e = .returned u ∧ Below w.heap.size w w' := by
  cases hgo : go P Γ g (.fn f args) { T := [], R := R0, F := F, fr := n, own := n } with
  | none => rw [hgo] at h; cases h
  | some outs =>
    rw [hgo] at h
    simp only [chkV, List.all_eq_true] at h
    refine ((go_ok hΓ g).2.2.2.2.1 f args _ outs hgo).2 ρ w w _ (Sees.startR ρ _ w rfl rfl hR hF ⟨hT, hJ⟩) fun o ho ρ' w' hx' hs => ?_
    have ho := h o ho
    simp only [Bool.and_eq_true] at ho
    obtain ⟨hW, ho⟩ := ho
    have hWo : o.st.W = [] := by simpa using hW
    have hw := hTT _ _ _ _ hs.tab.1
    split at ho
    · rename_i e hox
      rw [hox]
      exact hm ρ' hx' hw e (List.contains_iff_mem.1 ho)
    · rename_i y hox
      rw [hox]
      simp only [beq_iff_eq] at ho
      subst ho
      exact ⟨by rw [hx ρ' hx' hw], hs.below hWo⟩
    · cases ho

/-! ### Sizes -/
/-- A number below 10^600 to the k. -/
class TB (n : Nat) (k : outParam Nat) : Prop where
  lt : n < T600 ^ k
theorem T600_pos : 0 < T600 := pow10_pos 600
theorem tp_le {i j : Nat} (h : i ≤ j) : T600 ^ i ≤ T600 ^ j := Nat.pow_le_pow_right T600_pos h
theorem T600_two : 2 ≤ T600 := Nat.le_of_ble_eq_true (by kernel_rfl)
instance {a b i : Nat} [h : TB a i] : TB (a / b) i := ⟨Nat.lt_of_le_of_lt (Nat.div_le_self _ _) h.lt⟩
instance {a b i : Nat} [h : TB a i] : TB (a - b) i := ⟨Nat.lt_of_le_of_lt (Nat.sub_le _ _) h.lt⟩
instance {a b i j : Nat} [h : TB a i] [k : TB b j] : TB (a * b) (i + j) := ⟨by rw [Nat.pow_add]; exact Nat.mul_lt_mul'' h.lt k.lt⟩
instance {a b i j : Nat} [h : TB a i] [k : TB b j] : TB (a + b) (max i j + 1) := ⟨by
  have h1 := Nat.lt_of_lt_of_le h.lt (tp_le (Nat.le_max_left i j))
  have h2 := Nat.lt_of_lt_of_le k.lt (tp_le (Nat.le_max_right i j))
  rw [Nat.pow_succ]
  have := Nat.mul_le_mul_left (T600 ^ max i j) T600_two
  omega⟩
instance {a b i j : Nat} [h : TB a i] [k : TB b j] : TB (Nat.gcd a b) (max i j) := ⟨by
  rcases Nat.eq_zero_or_pos a with e | e
  · subst e; rw [Nat.gcd_zero_left]; exact Nat.lt_of_lt_of_le k.lt (tp_le (Nat.le_max_right i j))
  · exact Nat.lt_of_le_of_lt (Nat.gcd_le_left b e) (Nat.lt_of_lt_of_le h.lt (tp_le (Nat.le_max_left i j)))⟩
instance {a b i : Nat} [h : TB a i] : TB (low a b).1 i := ⟨Nat.lt_of_le_of_lt (low_le a b).1 h.lt⟩
instance {a b i : Nat} [h : TB b i] : TB (low a b).2 i := ⟨Nat.lt_of_le_of_lt (low_le a b).2 h.lt⟩
theorem big6 : T600 ^ 6 ≤ Big := Nat.le_of_ble_eq_true (by kernel_rfl)
theorem tb_big {n k : Nat} [h : TB n k] (hk : k ≤ 6 := by decide) : n < Big := Nat.lt_of_lt_of_le h.lt (Nat.le_trans (tp_le hk) big6)
theorem tb_one {n : Nat} (h : n < T600) : TB n 1 := ⟨by rw [Nat.pow_one]; exact h⟩
theorem cquo (a b : Nat) : (a : Int).tdiv (b : Int) = ((a / b : Nat) : Int) := rfl
theorem cmul (a b : Nat) : (a : Int) * (b : Int) = ((a * b : Nat) : Int) := (Int.natCast_mul a b).symm
theorem cadd (a b : Nat) : (a : Int) + (b : Int) = ((a + b : Nat) : Int) := (Int.natCast_add a b).symm
theorem ctoN (a : Nat) : ((a : Int)).toNat = a := rfl
theorem bigN (n : Nat) (h : n < Big) : bigB (n : Int) = true := by rw [bigB_t]; exact ⟨by omega, by simpa using h⟩
theorem at4_0 (a : Int) (s : ByteArray) (l : LL) : at4 ((a, s) :: l) 0 = a.toNat := rfl
theorem at4_1 (p q : Int × ByteArray) (l : LL) : at4 (p :: q :: l) 1 = q.1.toNat := rfl
theorem at4_2 (p q r : Int × ByteArray) (l : LL) : at4 (p :: q :: r :: l) 2 = r.1.toNat := rfl
theorem at4_3 (p q r s : Int × ByteArray) (l : LL) : at4 (p :: q :: r :: s :: l) 3 = s.1.toNat := rfl
theorem fstI_c (a : Int) (s : ByteArray) (l : LL) : fstI ((a, s) :: l) = a := rfl
theorem sndI_c (p q : Int × ByteArray) (l : LL) : sndI (p :: q :: l) = q.1 := rfl
theorem wg7 (l : LL) : wg 7 l = ((Nat.gcd (fstI l).toNat (sndI l).toNat : Nat) : Int) := rfl
theorem wg10 (l : LL) : wg 10 l = ((low (at4 l 0) (at4 l 1)).1 : Nat) := rfl
theorem wg11 (l : LL) : wg 11 l = ((low (at4 l 0) (at4 l 1)).2 : Nat) := rfl
theorem wh7 (l : LL) : wh 7 l = bigB (fstI l) := rfl
theorem wh8 (l : LL) : wh 8 l = fit1 (fstI l).toNat := rfl
end Go.Proofs.YtkggfeemjabdeaaGreatDoor.Wc
end
section
namespace Go.Proofs.YtkggfeemjabdeaaGreatDoor.Wc
open Go Go.Proofs.YtkggfeemjabdeaaGreatDoor.Sx Go.RowKit

def f4 : List E := [bigE (.v 0), bigE (.v 1), bigE (.v 2), bigE (.v 3), .le (.c 0) (.v 0), .lt (.c 0) (.v 1), .le (.c 0) (.v 2), .lt (.c 0) (.v 3)]
theorem f4_ok {a b c d : Nat} {vs : List Value} (ha : a < T600) (hb : b < T600) (hc : c < T600) (hd : d < T600) (hb0 : 0 < b) (hd0 : 0 < d) : holds (envN [a, b, c, d] vs) f4 := by
  haveI := tb_one ha; haveI := tb_one hb; haveI := tb_one hc; haveI := tb_one hd
  have h1 : a < Big := tb_big; have h2 : b < Big := tb_big; have h3 : c < Big := tb_big; have h4 : d < Big := tb_big
  simp [f4, holds, bigE, envN, wh, fstI, bigB_t, h1, h2, h3, h4, hb0, hd0]
structure FrT (x : Nat × Nat) : Prop where
  fr : Fr x
  n : x.1 < T600
  d : x.2 < T600
theorem nats4 {w : World} {x y : Nat × Nat} {v v' u u' : Value} (h1 : NatV w v x.1) (h2 : NatV w v' x.2) (h3 : NatV w u y.1) (h4 : NatV w u' y.2) : Nats w [x.1, x.2, y.1, y.2] [v, v', u, u'] := .cons h1 (.cons h2 (.cons h3 (.cons h4 .nil)))
theorem arr4 {w : World} {x y : Nat × Nat} {v v' u u' : Value} (h1 : NatV w v x.1) (h2 : NatV w v' x.2) (h3 : NatV w u y.1) (h4 : NatV w u' y.2) : arr (envN [x.1, x.2, y.1, y.2] [v, v', u, u']) [ratV 0, ratV 2] = #[.agg #[v, v'], .agg #[u, u']] := by
  simp [arr, ratV, den_agg, dens_cons, dens_nil, den_rsl, envN, natV_sl h1, natV_sl h2, natV_sl h3, natV_sl h4]
theorem plus_rat (x y : Nat × Nat) (v v' u u' : Value) (w : World) (h1 : NatV w v x.1) (h2 : NatV w v' x.2) (h3 : NatV w u y.1) (h4 : NatV w u' y.2) (hx : FrT x) (hy : FrT y) (ht : Tens w) :
    Calls Tryz.prog 61 #[.agg #[v, v'], .agg #[u, u']] w (RetQ [v, v', u, u'] (fitsF (addF x y)) (addF x y) w) := by
  haveI := tb_one hx.n; haveI := tb_one hx.d; haveI := tb_one hy.n; haveI := tb_one hy.d
  rw [← arr4 h1 h2 h3 h4]
  refine sx_rat (TT := ttN [v, v', u, u']) (Γ := { calls := ratCalls }) (ratCalls_ok (fun _ _ _ _ h => h) (fun _ h => h)) 600 [ratV 0, ratV 2] (rowsN 4) f4 10
    [(.lt (.c 0) (.app 7 (.cons (.v 1) (.cons (.v 3) .nil)))), (.happ 7 (.cons (.quo (.v 3) (.app 7 (.cons (.v 1) (.cons (.v 3) .nil)))) .nil)), (.happ 7 (.cons (.quo (.v 1) (.app 7 (.cons (.v 1) (.cons (.v 3) .nil)))) .nil)), (.happ 7 (.cons (.mul (.v 0) (.quo (.v 3) (.app 7 (.cons (.v 1) (.cons (.v 3) .nil))))) .nil)), (.happ 7 (.cons (.mul (.v 2) (.quo (.v 1) (.app 7 (.cons (.v 1) (.cons (.v 3) .nil))))) .nil)), (.happ 7 (.cons (.add (.mul (.v 0) (.quo (.v 3) (.app 7 (.cons (.v 1) (.cons (.v 3) .nil))))) (.mul (.v 2) (.quo (.v 1) (.app 7 (.cons (.v 1) (.cons (.v 3) .nil)))))) .nil)), (.happ 7 (.cons (.app 7 (.cons (.v 1) (.cons (.v 3) .nil))) .nil)), (.happ 7 (.cons (.mul (.app 11 (.cons (.add (.mul (.v 0) (.quo (.v 3) (.app 7 (.cons (.v 1) (.cons (.v 3) .nil))))) (.mul (.v 2) (.quo (.v 1) (.app 7 (.cons (.v 1) (.cons (.v 3) .nil)))))) (.cons (.app 7 (.cons (.v 1) (.cons (.v 3) .nil))) .nil))) (.quo (.v 1) (.app 7 (.cons (.v 1) (.cons (.v 3) .nil))))) .nil)), (.happ 7 (.cons (.mul (.mul (.app 11 (.cons (.add (.mul (.v 0) (.quo (.v 3) (.app 7 (.cons (.v 1) (.cons (.v 3) .nil))))) (.mul (.v 2) (.quo (.v 1) (.app 7 (.cons (.v 1) (.cons (.v 3) .nil)))))) (.cons (.app 7 (.cons (.v 1) (.cons (.v 3) .nil))) .nil))) (.quo (.v 1) (.app 7 (.cons (.v 1) (.cons (.v 3) .nil))))) (.quo (.v 3) (.app 7 (.cons (.v 1) (.cons (.v 3) .nil))))) .nil))] (.and (.happ 8 (.cons (.app 10 (.cons (.add (.mul (.v 0) (.quo (.v 3) (.app 7 (.cons (.v 1) (.cons (.v 3) .nil))))) (.mul (.v 2) (.quo (.v 1) (.app 7 (.cons (.v 1) (.cons (.v 3) .nil)))))) (.cons (.app 7 (.cons (.v 1) (.cons (.v 3) .nil))) .nil))) .nil)) (.happ 8 (.cons (.mul (.mul (.app 11 (.cons (.add (.mul (.v 0) (.quo (.v 3) (.app 7 (.cons (.v 1) (.cons (.v 3) .nil))))) (.mul (.v 2) (.quo (.v 1) (.app 7 (.cons (.v 1) (.cons (.v 3) .nil)))))) (.cons (.app 7 (.cons (.v 1) (.cons (.v 3) .nil))) .nil))) (.quo (.v 1) (.app 7 (.cons (.v 1) (.cons (.v 3) .nil))))) (.quo (.v 3) (.app 7 (.cons (.v 1) (.cons (.v 3) .nil))))) .nil))) (.app 10 (.cons (.add (.mul (.v 0) (.quo (.v 3) (.app 7 (.cons (.v 1) (.cons (.v 3) .nil))))) (.mul (.v 2) (.quo (.v 1) (.app 7 (.cons (.v 1) (.cons (.v 3) .nil)))))) (.cons (.app 7 (.cons (.v 1) (.cons (.v 3) .nil))) .nil))) (.mul (.mul (.app 11 (.cons (.add (.mul (.v 0) (.quo (.v 3) (.app 7 (.cons (.v 1) (.cons (.v 3) .nil))))) (.mul (.v 2) (.quo (.v 1) (.app 7 (.cons (.v 1) (.cons (.v 3) .nil)))))) (.cons (.app 7 (.cons (.v 1) (.cons (.v 3) .nil))) .nil))) (.quo (.v 1) (.app 7 (.cons (.v 1) (.cons (.v 3) .nil))))) (.quo (.v 3) (.app 7 (.cons (.v 1) (.cons (.v 3) .nil)))))
    (by kernel_rfl) (envN [x.1, x.2, y.1, y.2] [v, v', u, u']) (rowsN_ok (nats4 h1 h2 h3 h4)) (f4_ok hx.n hx.d hy.n hy.d hx.fr.pos hy.fr.pos) wtab ht (fun _ _ _ _ h => h) (fun ρ' hx' hw => ?_) (fun b hb => hb) (fun ρ' hx' hw => ?_)
  all_goals
    have e0 : ρ'.i 0 = (x.1 : Nat) := hx'.i 0 (by decide)
    have e1 : ρ'.i 1 = (x.2 : Nat) := hx'.i 1 (by decide)
    have e2 : ρ'.i 2 = (y.1 : Nat) := hx'.i 2 (by decide)
    have e3 : ρ'.i 3 = (y.2 : Nat) := hx'.i 3 (by decide)
    have hg := hw.g; have hh := hw.h
    have gp : 0 < Nat.gcd x.2 y.2 := Nat.gcd_pos_of_pos_left _ hx.fr.pos
  · simp only [List.mem_cons, List.not_mem_nil, or_false, forall_eq_or_imp, forall_eq, B_lt, B_happ, I_c, I_app, I_v, I_quo, I_mul, I_add, L_cons, L_nil, hg, hh, wh7, wg7, wg10, wg11, fstI_c, sndI_c, at4_0, at4_1, e0, e1, e2, e3, ctoN, cquo, cmul, cadd]
    refine ⟨?_, bigN _ tb_big, bigN _ tb_big, bigN _ tb_big, bigN _ tb_big, bigN _ tb_big, bigN _ tb_big, bigN _ tb_big, bigN _ tb_big⟩
    simp; exact .inl hx.fr.pos
  · have key := add_code hx.fr hy.fr rfl rfl rfl
    simp only [fitE, Wc.e1, B_and, B_happ, I_app, I_v, I_quo, I_mul, I_add, L_cons, L_nil, hg, hh, wh8, wg7, wg10, wg11, fstI_c, sndI_c, at4_0, at4_1, e0, e1, e2, e3, ctoN, cquo, cmul, cadd]
    rw [← key]
    exact ⟨rfl, rfl, rfl⟩
theorem csub {a b : Nat} (h : b ≤ a) : (a : Int) - (b : Int) = ((a - b : Nat) : Int) := (Int.ofNat_sub h).symm
theorem minus_rat (x y : Nat × Nat) (v v' u u' : Value) (w : World) (h1 : NatV w v x.1) (h2 : NatV w v' x.2) (h3 : NatV w u y.1) (h4 : NatV w u' y.2) (hx : FrT x) (hy : FrT y) (hle : y.1 * x.2 ≤ x.1 * y.2) (ht : Tens w) :
    Calls Tryz.prog 49 #[.agg #[v, v'], .agg #[u, u']] w (RetQ [v, v', u, u'] (fitsF (subF x y)) (subF x y) w) := by
  haveI := tb_one hx.n; haveI := tb_one hx.d; haveI := tb_one hy.n; haveI := tb_one hy.d
  rw [← arr4 h1 h2 h3 h4]
  refine sx_rat (TT := ttN [v, v', u, u']) (Γ := { calls := ratCalls }) (ratCalls_ok (fun _ _ _ _ h => h) (fun _ h => h)) 600 [ratV 0, ratV 2] (rowsN 4) f4 10
    [(.lt (.c 0) (.app 7 (.cons (.v 1) (.cons (.v 3) .nil)))), (.happ 7 (.cons (.quo (.v 3) (.app 7 (.cons (.v 1) (.cons (.v 3) .nil)))) .nil)), (.happ 7 (.cons (.quo (.v 1) (.app 7 (.cons (.v 1) (.cons (.v 3) .nil)))) .nil)), (.happ 7 (.cons (.mul (.v 0) (.quo (.v 3) (.app 7 (.cons (.v 1) (.cons (.v 3) .nil))))) .nil)), (.le (.c 0) (.mul (.v 2) (.quo (.v 1) (.app 7 (.cons (.v 1) (.cons (.v 3) .nil)))))), (.le (.mul (.v 2) (.quo (.v 1) (.app 7 (.cons (.v 1) (.cons (.v 3) .nil))))) (.mul (.v 0) (.quo (.v 3) (.app 7 (.cons (.v 1) (.cons (.v 3) .nil)))))), (.happ 7 (.cons (.sub (.mul (.v 0) (.quo (.v 3) (.app 7 (.cons (.v 1) (.cons (.v 3) .nil))))) (.mul (.v 2) (.quo (.v 1) (.app 7 (.cons (.v 1) (.cons (.v 3) .nil)))))) .nil)), (.happ 7 (.cons (.app 7 (.cons (.v 1) (.cons (.v 3) .nil))) .nil)), (.happ 7 (.cons (.mul (.app 11 (.cons (.sub (.mul (.v 0) (.quo (.v 3) (.app 7 (.cons (.v 1) (.cons (.v 3) .nil))))) (.mul (.v 2) (.quo (.v 1) (.app 7 (.cons (.v 1) (.cons (.v 3) .nil)))))) (.cons (.app 7 (.cons (.v 1) (.cons (.v 3) .nil))) .nil))) (.quo (.v 1) (.app 7 (.cons (.v 1) (.cons (.v 3) .nil))))) .nil)), (.happ 7 (.cons (.mul (.mul (.app 11 (.cons (.sub (.mul (.v 0) (.quo (.v 3) (.app 7 (.cons (.v 1) (.cons (.v 3) .nil))))) (.mul (.v 2) (.quo (.v 1) (.app 7 (.cons (.v 1) (.cons (.v 3) .nil)))))) (.cons (.app 7 (.cons (.v 1) (.cons (.v 3) .nil))) .nil))) (.quo (.v 1) (.app 7 (.cons (.v 1) (.cons (.v 3) .nil))))) (.quo (.v 3) (.app 7 (.cons (.v 1) (.cons (.v 3) .nil))))) .nil))] (.and (.happ 8 (.cons (.app 10 (.cons (.sub (.mul (.v 0) (.quo (.v 3) (.app 7 (.cons (.v 1) (.cons (.v 3) .nil))))) (.mul (.v 2) (.quo (.v 1) (.app 7 (.cons (.v 1) (.cons (.v 3) .nil)))))) (.cons (.app 7 (.cons (.v 1) (.cons (.v 3) .nil))) .nil))) .nil)) (.happ 8 (.cons (.mul (.mul (.app 11 (.cons (.sub (.mul (.v 0) (.quo (.v 3) (.app 7 (.cons (.v 1) (.cons (.v 3) .nil))))) (.mul (.v 2) (.quo (.v 1) (.app 7 (.cons (.v 1) (.cons (.v 3) .nil)))))) (.cons (.app 7 (.cons (.v 1) (.cons (.v 3) .nil))) .nil))) (.quo (.v 1) (.app 7 (.cons (.v 1) (.cons (.v 3) .nil))))) (.quo (.v 3) (.app 7 (.cons (.v 1) (.cons (.v 3) .nil))))) .nil))) (.app 10 (.cons (.sub (.mul (.v 0) (.quo (.v 3) (.app 7 (.cons (.v 1) (.cons (.v 3) .nil))))) (.mul (.v 2) (.quo (.v 1) (.app 7 (.cons (.v 1) (.cons (.v 3) .nil)))))) (.cons (.app 7 (.cons (.v 1) (.cons (.v 3) .nil))) .nil))) (.mul (.mul (.app 11 (.cons (.sub (.mul (.v 0) (.quo (.v 3) (.app 7 (.cons (.v 1) (.cons (.v 3) .nil))))) (.mul (.v 2) (.quo (.v 1) (.app 7 (.cons (.v 1) (.cons (.v 3) .nil)))))) (.cons (.app 7 (.cons (.v 1) (.cons (.v 3) .nil))) .nil))) (.quo (.v 1) (.app 7 (.cons (.v 1) (.cons (.v 3) .nil))))) (.quo (.v 3) (.app 7 (.cons (.v 1) (.cons (.v 3) .nil)))))
    (by kernel_rfl) (envN [x.1, x.2, y.1, y.2] [v, v', u, u']) (rowsN_ok (nats4 h1 h2 h3 h4)) (f4_ok hx.n hx.d hy.n hy.d hx.fr.pos hy.fr.pos) wtab ht (fun _ _ _ _ h => h) (fun ρ' hx' hw => ?_) (fun b hb => hb) (fun ρ' hx' hw => ?_)
  all_goals
    have e0 : ρ'.i 0 = (x.1 : Nat) := hx'.i 0 (by decide)
    have e1 : ρ'.i 1 = (x.2 : Nat) := hx'.i 1 (by decide)
    have e2 : ρ'.i 2 = (y.1 : Nat) := hx'.i 2 (by decide)
    have e3 : ρ'.i 3 = (y.2 : Nat) := hx'.i 3 (by decide)
    have hg := hw.g; have hh := hw.h
    have gp : 0 < Nat.gcd x.2 y.2 := Nat.gcd_pos_of_pos_left _ hx.fr.pos
  · have key := (sub_code hx.fr hy.fr hle rfl rfl rfl).1
    simp only [List.mem_cons, List.not_mem_nil, or_false, forall_eq_or_imp, forall_eq, B_lt, B_le, B_happ, I_c, I_app, I_v, I_quo, I_mul, I_add, I_sub, L_cons, L_nil, hg, hh, wh7, wg7, wg10, wg11, fstI_c, sndI_c, at4_0, at4_1, e0, e1, e2, e3, ctoN, cquo, cmul, cadd, csub key]
    refine ⟨?_, bigN _ tb_big, bigN _ tb_big, bigN _ tb_big, ?_, ?_, bigN _ tb_big, bigN _ tb_big, bigN _ tb_big, bigN _ tb_big⟩
    · simp; exact .inl hx.fr.pos
    · exact decide_eq_true (Int.natCast_nonneg _)
    · exact decide_eq_true (Int.ofNat_le.2 key)
  · obtain ⟨hle2, key⟩ := sub_code hx.fr hy.fr hle rfl rfl rfl
    simp only [fitE, Wc.e1, B_and, B_happ, I_app, I_v, I_quo, I_mul, I_add, I_sub, L_cons, L_nil, hg, hh, wh8, wg7, wg10, wg11, fstI_c, sndI_c, at4_0, at4_1, e0, e1, e2, e3, ctoN, cquo, cmul, cadd, csub hle2]
    rw [← key]
    exact ⟨rfl, rfl, rfl⟩
theorem times_rat (x y : Nat × Nat) (v v' u u' : Value) (w : World) (h1 : NatV w v x.1) (h2 : NatV w v' x.2) (h3 : NatV w u y.1) (h4 : NatV w u' y.2) (hx : FrT x) (hy : FrT y) (ht : Tens w) :
    Calls Tryz.prog 63 #[.agg #[v, v'], .agg #[u, u']] w (RetQ [v, v', u, u'] (fitsF (mulF x y)) (mulF x y) w) := by
  haveI := tb_one hx.n; haveI := tb_one hx.d; haveI := tb_one hy.n; haveI := tb_one hy.d
  rw [← arr4 h1 h2 h3 h4]
  refine sx_rat (TT := ttN [v, v', u, u']) (Γ := { calls := ratCalls }) (ratCalls_ok (fun _ _ _ _ h => h) (fun _ h => h)) 600 [ratV 0, ratV 2] (rowsN 4) f4 10
    [(.happ 7 (.cons (.mul (.app 10 (.cons (.v 0) (.cons (.v 3) .nil))) (.app 10 (.cons (.v 2) (.cons (.v 1) .nil)))) .nil)), (.happ 7 (.cons (.mul (.app 11 (.cons (.v 0) (.cons (.v 3) .nil))) (.app 11 (.cons (.v 2) (.cons (.v 1) .nil)))) .nil))] (.and (.happ 8 (.cons (.mul (.app 10 (.cons (.v 0) (.cons (.v 3) .nil))) (.app 10 (.cons (.v 2) (.cons (.v 1) .nil)))) .nil)) (.happ 8 (.cons (.mul (.app 11 (.cons (.v 0) (.cons (.v 3) .nil))) (.app 11 (.cons (.v 2) (.cons (.v 1) .nil)))) .nil))) (.mul (.app 10 (.cons (.v 0) (.cons (.v 3) .nil))) (.app 10 (.cons (.v 2) (.cons (.v 1) .nil)))) (.mul (.app 11 (.cons (.v 0) (.cons (.v 3) .nil))) (.app 11 (.cons (.v 2) (.cons (.v 1) .nil))))
    (by kernel_rfl) (envN [x.1, x.2, y.1, y.2] [v, v', u, u']) (rowsN_ok (nats4 h1 h2 h3 h4)) (f4_ok hx.n hx.d hy.n hy.d hx.fr.pos hy.fr.pos) wtab ht (fun _ _ _ _ h => h) (fun ρ' hx' hw => ?_) (fun b hb => hb) (fun ρ' hx' hw => ?_)
  all_goals
    have e0 : ρ'.i 0 = (x.1 : Nat) := hx'.i 0 (by decide)
    have e1 : ρ'.i 1 = (x.2 : Nat) := hx'.i 1 (by decide)
    have e2 : ρ'.i 2 = (y.1 : Nat) := hx'.i 2 (by decide)
    have e3 : ρ'.i 3 = (y.2 : Nat) := hx'.i 3 (by decide)
    have hg := hw.g; have hh := hw.h
    have gp : 0 < Nat.gcd x.2 y.2 := Nat.gcd_pos_of_pos_left _ hx.fr.pos
  · simp only [List.mem_cons, List.not_mem_nil, or_false, forall_eq_or_imp, forall_eq, B_lt, B_le, B_happ, I_c, I_app, I_v, I_quo, I_mul, I_add, I_sub, L_cons, L_nil, hg, hh, wh7, wg7, wg10, wg11, fstI_c, sndI_c, at4_0, at4_1, e0, e1, e2, e3, ctoN, cquo, cmul, cadd]
    exact ⟨bigN _ tb_big, bigN _ tb_big⟩
  · have key := mul_code hx.fr hy.fr
    simp only [fitE, Wc.e1, B_and, B_happ, I_app, I_v, I_quo, I_mul, I_add, I_sub, L_cons, L_nil, hg, hh, wh8, wg7, wg10, wg11, fstI_c, sndI_c, at4_0, at4_1, e0, e1, e2, e3, ctoN, cquo, cmul, cadd]
    rw [← key]
    exact ⟨rfl, rfl, rfl⟩
theorem over_rat (x y : Nat × Nat) (v v' u u' : Value) (w : World) (h1 : NatV w v x.1) (h2 : NatV w v' x.2) (h3 : NatV w u y.1) (h4 : NatV w u' y.2) (hx : FrT x) (hy : FrT y) (hp : 0 < y.1) (ht : Tens w) :
    Calls Tryz.prog 65 #[.agg #[v, v'], .agg #[u, u']] w (RetQ [v, v', u, u'] (fitsF (mulF x (y.2, y.1))) (mulF x (y.2, y.1)) w) := by
  haveI := tb_one hx.n; haveI := tb_one hx.d; haveI := tb_one hy.n; haveI := tb_one hy.d
  rw [← arr4 h1 h2 h3 h4]
  refine sx_rat (TT := ttN [v, v', u, u']) (Γ := { calls := ratCalls }) (ratCalls_ok (fun _ _ _ _ h => h) (fun _ h => h)) 600 [ratV 0, ratV 2] (rowsN 4) f4 10
    [(.lt (.c 0) (.v 2)), (.happ 7 (.cons (.mul (.app 10 (.cons (.v 0) (.cons (.v 2) .nil))) (.app 10 (.cons (.v 3) (.cons (.v 1) .nil)))) .nil)), (.happ 7 (.cons (.mul (.app 11 (.cons (.v 0) (.cons (.v 2) .nil))) (.app 11 (.cons (.v 3) (.cons (.v 1) .nil)))) .nil))] (.and (.happ 8 (.cons (.mul (.app 10 (.cons (.v 0) (.cons (.v 2) .nil))) (.app 10 (.cons (.v 3) (.cons (.v 1) .nil)))) .nil)) (.happ 8 (.cons (.mul (.app 11 (.cons (.v 0) (.cons (.v 2) .nil))) (.app 11 (.cons (.v 3) (.cons (.v 1) .nil)))) .nil))) (.mul (.app 10 (.cons (.v 0) (.cons (.v 2) .nil))) (.app 10 (.cons (.v 3) (.cons (.v 1) .nil)))) (.mul (.app 11 (.cons (.v 0) (.cons (.v 2) .nil))) (.app 11 (.cons (.v 3) (.cons (.v 1) .nil))))
    (by kernel_rfl) (envN [x.1, x.2, y.1, y.2] [v, v', u, u']) (rowsN_ok (nats4 h1 h2 h3 h4)) (f4_ok hx.n hx.d hy.n hy.d hx.fr.pos hy.fr.pos) wtab ht (fun _ _ _ _ h => h) (fun ρ' hx' hw => ?_) (fun b hb => hb) (fun ρ' hx' hw => ?_)
  all_goals
    have e0 : ρ'.i 0 = (x.1 : Nat) := hx'.i 0 (by decide)
    have e1 : ρ'.i 1 = (x.2 : Nat) := hx'.i 1 (by decide)
    have e2 : ρ'.i 2 = (y.1 : Nat) := hx'.i 2 (by decide)
    have e3 : ρ'.i 3 = (y.2 : Nat) := hx'.i 3 (by decide)
    have hg := hw.g; have hh := hw.h
    have gp : 0 < Nat.gcd x.2 y.2 := Nat.gcd_pos_of_pos_left _ hx.fr.pos
  · simp only [List.mem_cons, List.not_mem_nil, or_false, forall_eq_or_imp, forall_eq, B_lt, B_le, B_happ, I_c, I_app, I_v, I_quo, I_mul, I_add, I_sub, L_cons, L_nil, hg, hh, wh7, wg7, wg10, wg11, fstI_c, sndI_c, at4_0, at4_1, e0, e1, e2, e3, ctoN, cquo, cmul, cadd]
    exact ⟨decide_eq_true (Int.ofNat_lt.2 hp), bigN _ tb_big, bigN _ tb_big⟩
  · have key := mul_code (y := (y.2, y.1)) hx.fr ⟨hp, by rw [Nat.gcd_comm]; exact hy.fr.cop⟩
    simp only [fitE, Wc.e1, B_and, B_happ, I_app, I_v, I_quo, I_mul, I_add, I_sub, L_cons, L_nil, hg, hh, wh8, wg7, wg10, wg11, fstI_c, sndI_c, at4_0, at4_1, e0, e1, e2, e3, ctoN, cquo, cmul, cadd]
    rw [← key]
    exact ⟨rfl, rfl, rfl⟩
theorem cmp_rat (x y : Nat × Nat) (v v' u u' : Value) (w : World) (h1 : NatV w v x.1) (h2 : NatV w v' x.2) (h3 : NatV w u y.1) (h4 : NatV w u' y.2) (hx : FrT x) (hy : FrT y) (ht : Tens w) :
    Calls Tryz.prog 46 #[.agg #[v, v'], .agg #[u, u']] w fun e w' => e = .returned (.int .i64 (cmpF x y)) ∧ Below w.heap.size w w' := by
  haveI := tb_one hx.n; haveI := tb_one hx.d; haveI := tb_one hy.n; haveI := tb_one hy.d
  rw [← arr4 h1 h2 h3 h4]
  refine sx_val (TT := ttN [v, v', u, u']) (Γ := { calls := ratCalls }) (ratCalls_ok (fun _ _ _ _ h => h) (fun _ h => h)) 600 [ratV 0, ratV 2] (rowsN 4) f4 10
    [] (.i .i64 (.ite (.lt (.mul (.v 0) (.v 3)) (.mul (.v 2) (.v 1))) (.c (-1)) (.ite (.lt (.mul (.v 2) (.v 1)) (.mul (.v 0) (.v 3))) (.c 1) (.c 0))))
    (by kernel_rfl) (envN [x.1, x.2, y.1, y.2] [v, v', u, u']) (rowsN_ok (nats4 h1 h2 h3 h4)) (f4_ok hx.n hx.d hy.n hy.d hx.fr.pos hy.fr.pos) wtab ht (fun _ _ _ _ h => h) (fun ρ' hx' hw => ?_) (fun ρ' hx' hw => ?_)
  all_goals
    have e0 : ρ'.i 0 = (x.1 : Nat) := hx'.i 0 (by decide)
    have e1 : ρ'.i 1 = (x.2 : Nat) := hx'.i 1 (by decide)
    have e2 : ρ'.i 2 = (y.1 : Nat) := hx'.i 2 (by decide)
    have e3 : ρ'.i 3 = (y.2 : Nat) := hx'.i 3 (by decide)
    have hg := hw.g; have hh := hw.h
  · simp only [List.mem_cons, List.not_mem_nil, or_false, forall_eq_or_imp, forall_eq, B_lt, B_le, B_happ, I_c, I_app, I_v, I_quo, I_mul, I_add, I_sub, L_cons, L_nil, hg, hh, wh7, wg7, wg10, wg11, fstI_c, sndI_c, at4_0, at4_1, e0, e1, e2, e3, ctoN, cquo, cmul, cadd]
    exact fun _ h => h.elim
  · simp only [den_i, I_ite, B_lt, B_le, I_c, I_v, I_mul, e0, e1, e2, e3, cmul, decide_eq_true_eq]
    congr 1
    unfold cmpF
    generalize x.1 * y.2 = p
    generalize y.1 * x.2 = q
    by_cases k1 : p < q
    · rw [if_pos (by omega), if_pos k1]
    · rw [if_neg (by omega), if_neg k1]
      by_cases k2 : q < p
      · rw [if_pos (by omega), if_neg (by omega)]
      · rw [if_neg (by omega), if_pos (by omega)]
theorem part_rat (x : Nat × Nat) (v v' : Value) (w : World) (h1 : NatV w v x.1) (h2 : NatV w v' x.2) (hx : FrT x) (ht : Tens w) :
    Calls Tryz.prog 32 #[.agg #[v, v']] w fun e w' => e = .returned (.agg #[.string (dec x.1), .string (dec x.2)]) ∧ Below w.heap.size w w' := by
  haveI := tb_one hx.n; haveI := tb_one hx.d
  have b1 : x.1 < Big := tb_big
  have b2 : x.2 < Big := tb_big
  have ea : arr (envN [x.1, x.2] [v, v']) [ratV 0] = #[.agg #[v, v']] := by
    simp [arr, ratV, den_agg, dens_cons, dens_nil, den_rsl, envN, natV_sl h1, natV_sl h2]
  rw [← ea]
  refine sx_val (TT := ttN [v, v']) (Γ := { calls := ratCalls }) (ratCalls_ok (fun _ _ _ _ h => h) (fun _ h => h)) 600 [ratV 0] (rowsN 2) [bigE (.v 0), bigE (.v 1)] 10
    [] (.agg (.cons (.s (.sapp 1 (.cons (.v 0) .nil))) (.cons (.s (.sapp 1 (.cons (.v 1) .nil))) .nil)))
    (by kernel_rfl) (envN [x.1, x.2] [v, v']) (rowsN_ok (.cons h1 (.cons h2 .nil))) (by simp [holds, bigE, envN, wh, fstI, bigB_t, b1, b2]) wtab ht (fun _ _ _ _ h => h) (fun ρ' hx' hw => by simp) (fun ρ' hx' hw => ?_)
  have e0 : ρ'.i 0 = (x.1 : Nat) := hx'.i 0 (by decide)
  have e1 : ρ'.i 1 = (x.2 : Nat) := hx'.i 1 (by decide)
  simp [den_agg, dens_cons, dens_nil, den_s, hw.k, wk, fstI, e0, e1]
end Go.Proofs.YtkggfeemjabdeaaGreatDoor.Wc
end
section
namespace Go.Proofs.YtkggfeemjabdeaaGreatDoor.Wc
open Go Go.Proofs.YtkggfeemjabdeaaGreatDoor.Sx Go.RowKit

theorem numL_app (l : List UInt8) (c : UInt8) : numL (l ++ [c]) = numL l * 10 + (c.toNat - 48) := by simp [numL]
theorem decDigits_small {u : Nat} (h : u < 10) : Lib.decDigits u = [UInt8.ofNat (48 + u)] := by rw [Lib.decDigits, dif_pos h]
theorem decDigits_big {u : Nat} (h : ¬ u < 10) : Lib.decDigits u = Lib.decDigits (u / 10) ++ [UInt8.ofNat (48 + u % 10)] := by rw [Lib.decDigits, dif_neg h]
theorem dig_nat {d : Nat} (h : d < 10) : (UInt8.ofNat (48 + d)).toNat = 48 + d := by
  rw [UInt8.toNat_ofNat_of_lt' (by show 48 + d < 256; omega)]
theorem numL_dec (u : Nat) : numL (Lib.decDigits u) = u := by
  induction u using Nat.strongRecOn with
  | _ u ih =>
    by_cases h : u < 10
    · rw [decDigits_small h]
      show 0 * 10 + ((UInt8.ofNat (48 + u)).toNat - 48) = u
      rw [dig_nat h]; omega
    · rw [decDigits_big h, numL_app, ih _ (by omega), dig_nat (by omega)]; omega
theorem num_dec (u : Nat) : num (dec u) = u := numL_dec u
theorem digB_dig {d : Nat} (h : d < 10) : digB (UInt8.ofNat (48 + d)) = true := by
  unfold digB; rw [dig_nat h]; simp; omega
theorem dec_all (u : Nat) : (Lib.decDigits u).all digB = true := by
  induction u using Nat.strongRecOn with
  | _ u ih =>
    by_cases h : u < 10
    · rw [decDigits_small h]
      show (digB _ && true) = true
      rw [digB_dig h]; rfl
    · rw [decDigits_big h, List.all_append, ih _ (by omega)]
      show (true && (digB _ && true)) = true
      rw [digB_dig (show u % 10 < 10 by omega)]; rfl
theorem dec_head (u : Nat) (h : 10 ≤ u) : (Lib.decDigits u).head? ≠ some 48 := by
  induction u using Nat.strongRecOn with
  | _ u ih =>
    rw [decDigits_big (by omega)]
    rw [List.head?_append]
    by_cases h2 : u / 10 < 10
    · rw [decDigits_small h2]
      simp only [List.head?_cons, Option.some_or]
      intro e
      have := congrArg UInt8.toNat (Option.some.inj e)
      rw [dig_nat h2] at this
      have : (48 : UInt8).toNat = 48 := rfl
      omega
    · have := ih (u / 10) (by omega) (by omega)
      cases e : (Lib.decDigits (u / 10)).head? with
      | none =>
        rw [List.head?_eq_none_iff] at e
        exact absurd e (decDigits_ne _)
      | some c => rw [e] at this; simpa using this
theorem dec_list (u : Nat) : (dec u).data.toList = Lib.decDigits u := rfl
theorem isNum_dec (u : Nat) : isNum (dec u) = true := by
  unfold isNum isDigs
  rw [dec_list]
  have h1 := List.length_pos_iff.2 (decDigits_ne u)
  simp only [dec_all, Bool.and_true, Bool.and_eq_true, Bool.or_eq_true, decide_eq_true_eq, Bool.not_eq_true', beq_eq_false_iff_ne]
  refine ⟨by show 0 < (Lib.decDigits u).toArray.size; simpa using h1, ?_⟩
  by_cases h : u < 10
  · refine .inr ?_
    show (Lib.decDigits u).toArray.size = 1
    rw [decDigits_small h]; rfl
  · exact .inl (dec_head u (by omega))
theorem size_eq_length (s : ByteArray) : s.size = s.data.toList.length := rfl
theorem snoc_ind {α : Type} {P : List α → Prop} (h0 : P []) (h1 : ∀ l c, P l → P (l ++ [c])) (l : List α) : P l := by
  have h : ∀ r : List α, P r.reverse := by
    intro r
    induction r with
    | nil => exact h0
    | cons a r ih => rw [List.reverse_cons]; exact h1 _ _ ih
  have := h l.reverse
  rwa [List.reverse_reverse] at this
theorem numL_lt : ∀ (l : List UInt8), l.all digB = true → numL l < 10 ^ l.length := by
  refine snoc_ind (fun _ => by simp [numL]) ?_
  · intro l c ih h
    rw [List.all_append, Bool.and_eq_true] at h
    have h1 := ih h.1
    have h2 : digB c = true := by simpa using h.2
    have h3 := ((digB_iff c).1 h2).2
    rw [numL_app, List.length_append, List.length_singleton, Nat.pow_succ]
    omega
theorem isNum_parts {s : ByteArray} (h : isNum s = true) : 0 < s.data.toList.length ∧ s.data.toList.all digB = true ∧ (s.data.toList.head? ≠ some 48 ∨ s.data.toList.length = 1) := by
  unfold isNum isDigs at h
  simp only [Bool.and_eq_true, Bool.or_eq_true, decide_eq_true_eq, Bool.not_eq_true', beq_eq_false_iff_ne] at h
  exact ⟨h.1.1, h.1.2, h.2⟩
theorem isNt_parts {s : ByteArray} (h : isNt s = true) : s.size ≤ 600 ∧ isNum s = true := by
  unfold isNt at h
  simpa using h
theorem num_lt {s : ByteArray} (h : isNt s = true) : num s < T600 := by
  obtain ⟨h1, h2⟩ := isNt_parts h
  have h3 := numL_lt _ (isNum_parts h2).2.1
  refine Nat.lt_of_lt_of_le h3 ?_
  exact pow10_le (n := 600) h1
theorem dec_numL : ∀ (l : List UInt8), 0 < l.length → l.all digB = true → (l.head? ≠ some 48 ∨ l.length = 1) → Lib.decDigits (numL l) = l ∧ (1 < l.length → 1 ≤ numL l) := by
  refine snoc_ind (fun h => by simp at h) ?_
  · intro l c ih _ h2 h3
    rw [List.all_append, Bool.and_eq_true] at h2
    have hc : digB c = true := by simpa using h2.2
    have hd := (digB_iff c).1 hc
    have hcc : UInt8.ofNat (48 + (c.toNat - 48)) = c := by
      have : 48 + (c.toNat - 48) = c.toNat := by have := hd.1; omega
      rw [this]; simp
    rw [numL_app]
    rcases Nat.eq_zero_or_pos l.length with h0 | h0
    · have : l = [] := List.eq_nil_of_length_eq_zero h0
      subst this
      refine ⟨?_, by simp⟩
      show Lib.decDigits (0 * 10 + (c.toNat - 48)) = [c]
      rw [Nat.zero_mul, Nat.zero_add, decDigits_small (by have := hd.2; omega), hcc]
    · have hh : l.head? ≠ some 48 := by
        rcases h3 with h3 | h3
        · rw [List.head?_append] at h3
          cases e : l.head? with
          | none => rw [List.head?_eq_none_iff] at e; subst e; simp at h0
          | some x => rw [e] at h3; simpa using h3
        · rw [List.length_append, List.length_singleton] at h3; omega
      obtain ⟨i1, i2⟩ := ih h0 h2.1 (.inl hh)
      have hp : 1 ≤ numL l := by
        rcases Nat.lt_or_ge 1 l.length with h4 | h4
        · exact i2 h4
        · obtain ⟨d, rfl⟩ : ∃ d, l = [d] := List.length_eq_one_iff.1 (by omega)
          have hd2 := (digB_iff d).1 (by simpa using h2.1)
          have : d ≠ 48 := fun e => hh (by rw [e]; rfl)
          show 1 ≤ 0 * 10 + (d.toNat - 48)
          have h48 : d.toNat ≠ 48 := fun e => this (UInt8.toNat_inj.1 e)
          have := hd2.1
          omega
      have hd10 : c.toNat - 48 < 10 := by have := hd.2; omega
      refine ⟨?_, fun _ => by omega⟩
      rw [decDigits_big (by omega), show (numL l * 10 + (c.toNat - 48)) / 10 = numL l from by omega, show (numL l * 10 + (c.toNat - 48)) % 10 = c.toNat - 48 from by omega, i1, hcc]
theorem dec_num {s : ByteArray} (h : isNum s = true) : dec (num s) = s := by
  obtain ⟨h1, h2, h3⟩ := isNum_parts h
  have := (dec_numL _ h1 h2 h3).1
  apply ByteArray.ext
  apply Array.ext'
  show Lib.decDigits (numL s.data.toList) = s.data.toList
  exact this
theorem isNt_dec {u : Nat} (h : u < T600) : isNt (dec u) = true := by
  unfold isNt
  rw [isNum_dec, Bool.and_true, decide_eq_true_eq]
  have := size_dec u
  show (⟨(Lib.decDigits u).toArray⟩ : ByteArray).size ≤ 600
  rw [this]
  exact (nDigits_le_pow u 600 (by decide)).2 h
theorem dv_take (s : ByteArray) : ∀ k, k ≤ s.size → dv s 0 k = numL (s.data.toList.take k)
  | 0, _ => rfl
  | k + 1, h => by
    have hk : k < s.data.toList.length := h
    show dv s 0 k * 10 + ((s.get! (0 + k)).toNat - 48) = _
    rw [dv_take s k (by omega), List.take_succ_eq_append_getElem hk, numL_app, Nat.zero_add]
    congr 2
    show (s.data[k]!).toNat = _
    rw [getElem!_pos s.data k h]; rfl
theorem dv_num (s : ByteArray) : dv s 0 s.size = num s := by
  rw [dv_take s s.size (Nat.le_refl _)]
  show numL (s.data.toList.take s.data.toList.length) = _
  rw [List.take_length]; rfl
theorem dig_get {s : ByteArray} (h : isDigs s = true) : ∀ j, j < s.size → Dig (s.get! j) := fun j hj => by
  have := ((isDigs_iff s).1 h).2 j hj
  show Dig (s.data[j]!)
  rw [getElem!_pos s.data j hj]; exact this

def parseM : List V → List (Nat × Sx.Row) → Option (List E × Res × List E)
  | [.s a], _ => some ([.happ 10 (.cons a .nil)], .row (numRow (.app 6 (.cons a .nil))), [])
  | _, _ => none
theorem parse_ctr {TT : Tb} (hTT : ∀ g h k m, TT.tab g h k m → WTab g h k m) (hJ : ∀ w, TT.J w → Tens w) : CtrJ TT Tryz.prog 31 parseM := by
  intro args R nd r facts ρ base w w0 hm htab hj hbel hneed hrows
  unfold parseM at hm
  split at hm
  case h_2 => cases hm
  rename_i a
  cases hm
  have hw := hTT _ _ _ _ htab
  have h1 := hneed _ List.mem_cons_self
  rw [B_happ, hw.h] at h1
  simp only [L_cons, L_nil, wh, fstS, List.head?_cons, Option.map_some, Option.getD_some, Bool.and_eq_true, decide_eq_true_eq] at h1
  refine (parse_any (a.S ρ) w h1.2 (dig_get h1.1) (fun j hj' => cell_later hbel (hJ w0 hj j hj'))).mono ?_
  rintro e w' ⟨u, rfl, hu, hb⟩
  refine ⟨hb, by simp, u, rfl, at_of_natV hw.m2 ?_, fun b hbb => .inl (hu.base hbb).1⟩
  have : ((E.app 6 (.cons a .nil)).I ρ).toNat = dv (a.S ρ) 0 (a.S ρ).size := by rw [dv_num]; simp [hw.g, wg, fstS]
  rw [this]
  exact hu.natV
/-- the contracts of naturals, lowest, fitting, parse. -/
def openCalls : List Ctr := ctrJ 31 parseM :: ratCalls
theorem openCalls_ok {TT : Tb} (hTT : ∀ g h k m, TT.tab g h k m → WTab g h k m) (hJ : ∀ w, TT.J w → Tens w) : ∀ q ∈ openCalls, CtrOk TT Tryz.prog q := by
  intro q hq
  simp only [openCalls, List.mem_cons] at hq
  rcases hq with rfl | hq
  · exact ctrJ_ok (parse_ctr hTT hJ)
  · exact ratCalls_ok hTT hJ q hq
end Go.Proofs.YtkggfeemjabdeaaGreatDoor.Wc
end
section
namespace Go.Proofs.YtkggfeemjabdeaaGreatDoor.Wc
open Go Go.Proofs.YtkggfeemjabdeaaGreatDoor.Sx Go.RowKit

theorem num_pos {d : ByteArray} (h : isNt d = true) (h0 : d ≠ zeroB) : 0 < num d := by
  rcases Nat.eq_zero_or_pos (num d) with e | e
  · exfalso
    have := dec_num (isNt_parts h).2
    rw [e] at this
    exact h0 (this.symm.trans (by unfold dec; rw [decDigits_small (by omega)]; rfl))
  · exact e
theorem valid_frt {n d : ByteArray} (h : validP n d = true) : FrT (num n, num d) := by
  unfold validP at h
  simp only [Bool.and_eq_true, Bool.not_eq_true', decide_eq_false_iff_not, decide_eq_true_eq] at h
  obtain ⟨⟨⟨h1, h2⟩, h3⟩, h4⟩ := h
  exact ⟨⟨num_pos h2 h3, h4⟩, num_lt h1, num_lt h2⟩
theorem valid_dec {n d : ByteArray} (h : validP n d = true) : dec (num n) = n ∧ dec (num d) = d := by
  unfold validP at h
  simp only [Bool.and_eq_true] at h
  exact ⟨dec_num (isNt_parts h.1.1.1).2, dec_num (isNt_parts h.1.1.2).2⟩
theorem dec_pos_ne {x : Nat} (h : 0 < x) : dec x ≠ zeroB := fun e => by
  have := congrArg num e
  rw [num_dec] at this
  have h0 : num zeroB = 0 := rfl
  omega
theorem valid_of {x : Nat × Nat} (h : FrT x) : validP (dec x.1) (dec x.2) = true := by
  unfold validP
  simp only [Bool.and_eq_true, Bool.not_eq_true', decide_eq_false_iff_not, decide_eq_true_eq, num_dec]
  exact ⟨⟨⟨isNt_dec h.n, isNt_dec h.d⟩, dec_pos_ne h.fr.pos⟩, h.fr.cop⟩
def envS (is : List Int) (ss : List ByteArray) : Env :=
  { i := fun n => is.getD n 0, b := fun _ => false, s := fun n => ss.getD n ⟨#[]⟩, v := fun _ => undef, n := fun _ => 0, g := wg, h := wh, k := wk, l := fun _ => [], m := wm }
theorem nt_digs {s : ByteArray} (h : isNt s = true) : isDigs s = true ∧ s.size ≤ 2000 := by
  obtain ⟨h1, h2⟩ := isNt_parts h
  unfold isNum at h2
  simp only [Bool.and_eq_true] at h2
  exact ⟨h2.1, by omega⟩
theorem nt_big {s : ByteArray} (h : isNt s = true) : num s < Big := by
  haveI := tb_one (num_lt h)
  exact tb_big
def OpenPost (n d : ByteArray) (w : World) (e : Ending) (w' : World) : Prop :=
  Below w.heap.size w w' ∧ (validP n d = true → ∃ u1 u2, e = .returned (.tuple #[.agg #[u1, u2], .int .i64 0]) ∧ NatV w' u1 (num n) ∧ NatV w' u2 (num d) ∧ Src w [] u1 ∧ Src w [] u2) ∧
    (validP n d = false → e = .returned (.tuple #[.agg #[.slice none 0 0, .slice none 0 0], .int .i64 2]))
theorem ret_new {ρ : Env} {w w' : World} {i j : Nat} {a b : E} {R : List (Nat × Sx.Row)} (hm : ρ.m = wm) (hrow : ∀ p ∈ R, p.2.at ρ w.heap.size w' (ρ.v p.1) ∧ ∀ c, (ρ.v p.1).ownBlock = some c → w.heap.size ≤ c ∨ (ttN []).A c)
    (hi : (i, numRow a) ∈ R) (hj : (j, numRow b) ∈ R) {x : Nat × Nat} (ha : (a.I ρ).toNat = x.1) (hb : (b.I ρ).toNat = x.2) :
    ∃ u1 u2, V.den ρ (.agg (.cons (.rsl i) (.cons (.rsl j) .nil))) = .agg #[u1, u2] ∧ NatV w' u1 x.1 ∧ NatV w' u2 x.2 ∧ Src w [] u1 ∧ Src w [] u2 := by
  obtain ⟨u1, u2, h1, h2⟩ := ret_rat hm hrow hi hj ha hb
  exact ⟨u1, u2, Ending.returned.inj h1, h2⟩
theorem open_any (n d : ByteArray) (w : World) (hn : n.size ≤ maxLen) (hd : d.size ≤ maxLen) (ht : Tens w) :
    Calls Tryz.prog 37 #[.agg #[.string n, .string d]] w (OpenPost n d w) := by
  have key : Calls Tryz.prog 37 (arr (envS [] [n, d]) [.agg (.cons (.s (.sv 0)) (.cons (.s (.sv 1)) .nil))]) w (OpenPost n d w) := by
    refine sx_rows (TT := ttN []) (Γ := { calls := openCalls }) (openCalls_ok (fun _ _ _ _ h => h) (fun _ h => h)) 600 [.agg (.cons (.s (.sv 0)) (.cons (.s (.sv 1)) .nil))] [] [.le (.len (.sv 0)) (.c 9223372036854775807), .le (.len (.sv 1)) (.c 9223372036854775807)] 10
      [⟨(.val (.tup (.cons (.agg (.cons .nils (.cons .nils .nil))) (.cons (.i .i64 (.c 2)) .nil)))), [(.not (.happ 6 (.cons (.sv 0) .nil))), (.le (.len (.sv 0)) (.c 9223372036854775807)), (.le (.len (.sv 1)) (.c 9223372036854775807))], []⟩,
⟨(.val (.tup (.cons (.agg (.cons .nils (.cons .nils .nil))) (.cons (.i .i64 (.c 2)) .nil)))), [(.not (.happ 6 (.cons (.sv 1) .nil))), (.happ 6 (.cons (.sv 0) .nil)), (.le (.len (.sv 0)) (.c 9223372036854775807)), (.le (.len (.sv 1)) (.c 9223372036854775807))], []⟩,
⟨(.val (.tup (.cons (.agg (.cons .nils (.cons .nils .nil))) (.cons (.i .i64 (.c 2)) .nil)))), [(.seq (.sv 1) (.lit [48])), (.happ 6 (.cons (.sv 1) .nil)), (.happ 6 (.cons (.sv 0) .nil)), (.le (.len (.sv 0)) (.c 9223372036854775807)), (.le (.len (.sv 1)) (.c 9223372036854775807))], []⟩,
⟨(.must (.happ 10 (.cons (.sv 0) .nil))), [(.not (.seq (.sv 1) (.lit [48]))), (.happ 6 (.cons (.sv 1) .nil)), (.happ 6 (.cons (.sv 0) .nil)), (.le (.len (.sv 0)) (.c 9223372036854775807)), (.le (.len (.sv 1)) (.c 9223372036854775807))], []⟩,
⟨(.must (.happ 10 (.cons (.sv 1) .nil))), [(.happ 10 (.cons (.sv 0) .nil)), (.not (.seq (.sv 1) (.lit [48]))), (.happ 6 (.cons (.sv 1) .nil)), (.happ 6 (.cons (.sv 0) .nil)), (.le (.len (.sv 0)) (.c 9223372036854775807)), (.le (.len (.sv 1)) (.c 9223372036854775807))], []⟩,
⟨(.must (.happ 7 (.cons (.app 6 (.cons (.sv 0) .nil)) .nil))), [(.happ 10 (.cons (.sv 1) .nil)), (.happ 10 (.cons (.sv 0) .nil)), (.not (.seq (.sv 1) (.lit [48]))), (.happ 6 (.cons (.sv 1) .nil)), (.happ 6 (.cons (.sv 0) .nil)), (.le (.len (.sv 0)) (.c 9223372036854775807)), (.le (.len (.sv 1)) (.c 9223372036854775807))], []⟩,
⟨(.must (.happ 7 (.cons (.app 6 (.cons (.sv 1) .nil)) .nil))), [(.happ 10 (.cons (.sv 1) .nil)), (.happ 10 (.cons (.sv 0) .nil)), (.not (.seq (.sv 1) (.lit [48]))), (.happ 6 (.cons (.sv 1) .nil)), (.happ 6 (.cons (.sv 0) .nil)), (.le (.len (.sv 0)) (.c 9223372036854775807)), (.le (.len (.sv 1)) (.c 9223372036854775807))], []⟩,
⟨(.val (.tup (.cons (.agg (.cons .nils (.cons .nils .nil))) (.cons (.i .i64 (.c 2)) .nil)))), [(.not (.eq (.app 7 (.cons (.app 6 (.cons (.sv 0) .nil)) (.cons (.app 6 (.cons (.sv 1) .nil)) .nil))) (.c 1))), (.happ 7 (.cons (.app 6 (.cons (.sv 0) .nil)) .nil)), (.happ 7 (.cons (.app 6 (.cons (.sv 1) .nil)) .nil)), (.happ 10 (.cons (.sv 1) .nil)), (.happ 10 (.cons (.sv 0) .nil)), (.not (.seq (.sv 1) (.lit [48]))), (.happ 6 (.cons (.sv 1) .nil)), (.happ 6 (.cons (.sv 0) .nil)), (.le (.len (.sv 0)) (.c 9223372036854775807)), (.le (.len (.sv 1)) (.c 9223372036854775807))], []⟩,
⟨(.val (.tup (.cons (.agg (.cons (.rsl 12) (.cons (.rsl 13) .nil))) (.cons (.i .i64 (.c 0)) .nil)))), [(.eq (.app 7 (.cons (.app 6 (.cons (.sv 0) .nil)) (.cons (.app 6 (.cons (.sv 1) .nil)) .nil))) (.c 1)), (.happ 7 (.cons (.app 6 (.cons (.sv 0) .nil)) .nil)), (.happ 7 (.cons (.app 6 (.cons (.sv 1) .nil)) .nil)), (.happ 10 (.cons (.sv 1) .nil)), (.happ 10 (.cons (.sv 0) .nil)), (.not (.seq (.sv 1) (.lit [48]))), (.happ 6 (.cons (.sv 1) .nil)), (.happ 6 (.cons (.sv 0) .nil)), (.le (.len (.sv 0)) (.c 9223372036854775807)), (.le (.len (.sv 1)) (.c 9223372036854775807))], [(13, ⟨false, 0, [(.i .u64)], (.llen (.lapp 2 (.cons (.app 6 (.cons (.sv 1) .nil)) .nil))), (.lapp 2 (.cons (.app 6 (.cons (.sv 1) .nil)) .nil))⟩), (12, ⟨false, 0, [(.i .u64)], (.llen (.lapp 2 (.cons (.app 6 (.cons (.sv 0) .nil)) .nil))), (.lapp 2 (.cons (.app 6 (.cons (.sv 0) .nil)) .nil))⟩)]⟩,
⟨(.val (.tup (.cons (.agg (.cons (.rsl 12) (.cons (.rsl 14) .nil))) (.cons (.i .i64 (.c 0)) .nil)))), [(.eq (.app 7 (.cons (.app 6 (.cons (.sv 0) .nil)) (.cons (.app 6 (.cons (.sv 1) .nil)) .nil))) (.c 1)), (.happ 7 (.cons (.app 6 (.cons (.sv 0) .nil)) .nil)), (.happ 7 (.cons (.app 6 (.cons (.sv 1) .nil)) .nil)), (.happ 10 (.cons (.sv 1) .nil)), (.happ 10 (.cons (.sv 0) .nil)), (.not (.seq (.sv 1) (.lit [48]))), (.happ 6 (.cons (.sv 1) .nil)), (.happ 6 (.cons (.sv 0) .nil)), (.le (.len (.sv 0)) (.c 9223372036854775807)), (.le (.len (.sv 1)) (.c 9223372036854775807))], [(14, ⟨false, 0, [(.i .u64)], (.llen (.lapp 2 (.cons (.app 6 (.cons (.sv 1) .nil)) .nil))), (.lapp 2 (.cons (.app 6 (.cons (.sv 1) .nil)) .nil))⟩), (12, ⟨false, 0, [(.i .u64)], (.llen (.lapp 2 (.cons (.app 6 (.cons (.sv 0) .nil)) .nil))), (.lapp 2 (.cons (.app 6 (.cons (.sv 0) .nil)) .nil))⟩)]⟩,
⟨(.val (.tup (.cons (.agg (.cons (.rsl 13) (.cons (.rsl 14) .nil))) (.cons (.i .i64 (.c 0)) .nil)))), [(.eq (.app 7 (.cons (.app 6 (.cons (.sv 0) .nil)) (.cons (.app 6 (.cons (.sv 1) .nil)) .nil))) (.c 1)), (.happ 7 (.cons (.app 6 (.cons (.sv 0) .nil)) .nil)), (.happ 7 (.cons (.app 6 (.cons (.sv 1) .nil)) .nil)), (.happ 10 (.cons (.sv 1) .nil)), (.happ 10 (.cons (.sv 0) .nil)), (.not (.seq (.sv 1) (.lit [48]))), (.happ 6 (.cons (.sv 1) .nil)), (.happ 6 (.cons (.sv 0) .nil)), (.le (.len (.sv 0)) (.c 9223372036854775807)), (.le (.len (.sv 1)) (.c 9223372036854775807))], [(14, ⟨false, 0, [(.i .u64)], (.llen (.lapp 2 (.cons (.app 6 (.cons (.sv 1) .nil)) .nil))), (.lapp 2 (.cons (.app 6 (.cons (.sv 1) .nil)) .nil))⟩), (13, ⟨false, 0, [(.i .u64)], (.llen (.lapp 2 (.cons (.app 6 (.cons (.sv 0) .nil)) .nil))), (.lapp 2 (.cons (.app 6 (.cons (.sv 0) .nil)) .nil))⟩)]⟩]
      (by kernel_rfl) (envS [] [n, d]) rfl (by simp) ?_ wtab ⟨?_, ?_, ?_, ?_, ?_, ?_, ?_, ?_, ?_, ?_, ?_⟩ ht
    · simp [holds, envS]
      unfold maxLen at hn hd
      omega
    all_goals
      intro ρ' w' hx' htab' hF hbel hrow
      have s0 : ρ'.s 0 = n := hx'.s 0 (by decide)
      have s1 : ρ'.s 1 = d := hx'.s 1 (by decide)
      have hh := htab'.h; have hg := htab'.g
      simp only [holds, List.mem_cons, List.not_mem_nil, or_false, forall_eq_or_imp, forall_eq, B_not, B_happ, B_seq, B_eq, B_le, I_len, I_c, I_app, S_sv, S_lit, L_cons, L_nil, hh, hg, s0, s1, wh, wg7, fstI_c, sndI_c, Bool.not_eq_true', decide_eq_true_eq, decide_eq_false_iff_not] at hF
      simp only [wg, fstS, List.head?_cons, Option.map_some, Option.getD_some, s0, s1, S_sv, ctoN] at hF
    · have hv : validP n d = false := by unfold validP; rw [hF.1]; rfl
      exact ⟨hbel, (fun h => by rw [hv] at h; cases h), fun _ => rfl⟩
    · have hv : validP n d = false := by unfold validP; rw [hF.1]; simp
      exact ⟨hbel, (fun h => by rw [hv] at h; cases h), fun _ => rfl⟩
    · have hv : validP n d = false := by unfold validP zeroB; rw [decide_eq_true hF.1]; simp
      exact ⟨hbel, (fun h => by rw [hv] at h; cases h), fun _ => rfl⟩
    · have := nt_digs hF.2.2.1
      simp [hh, wh, fstS, s0, this]
    · have := nt_digs hF.2.2.1
      simp [hh, wh, fstS, s1, this]
    · simp [hh, wh, hg, wg, fstI, fstS, s0, bigN _ (nt_big hF.2.2.2.2.1)]
    · simp [hh, wh, hg, wg, fstI, fstS, s1, bigN _ (nt_big hF.2.2.2.1)]
    · have hv : validP n d = false := by
        have : ¬ Nat.gcd (num n) (num d) = 1 := fun e => hF.1 (by rw [e]; rfl)
        unfold validP; rw [decide_eq_false this]; simp
      exact ⟨hbel, (fun h => by rw [hv] at h; cases h), fun _ => rfl⟩
    all_goals
      have hv : validP n d = true := by
        have : Nat.gcd (num n) (num d) = 1 := Int.ofNat.inj hF.1
        unfold validP zeroB
        rw [decide_eq_true this, hF.2.2.2.2.2.2.1, hF.2.2.2.2.2.2.2.1, decide_eq_false hF.2.2.2.2.2.1]; rfl
      refine ⟨hbel, fun _ => ?_, (fun h => by rw [hv] at h; cases h)⟩
      obtain ⟨u1, u2, k1, k2⟩ := ret_new (x := (num n, num d)) htab'.m hrow (.tail _ (.head _)) (.head _) (by simp [hg, wg, fstS, s0]) (by simp [hg, wg, fstS, s1])
      refine ⟨u1, u2, ?_, k2⟩
      rw [den_tup, dens_cons, dens_cons, dens_nil, k1]
      rfl
  exact key
end Go.Proofs.YtkggfeemjabdeaaGreatDoor.Wc
end
