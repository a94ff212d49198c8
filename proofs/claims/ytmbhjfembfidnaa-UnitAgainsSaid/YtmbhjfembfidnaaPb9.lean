/- Contracts by program: functions that answer a conjunction of atoms, functions that yield one value. Contracts by program: cases. Layer 9 (unit): what the document says, as plain functions; the table of names. Contracts at numbers that are known; contracts that ask something of the memory at the beginning. Contracts of functions that yield a row of their own and one more value, by cases. -/
import Derived.Test.YtmbhjfembfidnaaPb8
section
namespace Go.Proofs.Ytmbhjfembfidnaa.Sx
open Go Go.RowKit
variable {TT : Tb}

/-- A leaf of an argument: a single value, or a row that is only read. -/
inductive LK where
  | sc (k : Kd) | row (kds : List Kd) | lit (v : V)
  deriving DecidableEq, Inhabited
/-- An argument's shape: a leaf, or a struct of leaves. -/
inductive AK where
  | one (l : LK) | ag (ls : List LK)
  deriving DecidableEq, Inhabited
def AK.ks : AK → List LK | .one k => [k] | .ag ks => ks
def ksOf (aks : List AK) : List LK := aks.flatMap AK.ks
def LK.fresh (n : Nat) : LK → V | .sc k => k.fresh n | .row _ => .var n | .lit v => v
def freshes (n : Nat) : List LK → List V
  | [] => []
  | k :: l => k.fresh n :: freshes (n + 1) l
def patA (n : Nat) : AK → V
  | .one k => k.fresh n
  | .ag ks => .agg (V.ofL (freshes n ks))
def patAs (n : Nat) : List AK → List V
  | [] => []
  | a :: l => patA n a :: patAs (n + a.ks.length) l
def rowL (n : Nat) (kds : List Kd) : Row := ⟨false, 0, kds, .v n, .lv n⟩
def rowsL (n : Nat) : List LK → List (Nat × Row)
  | [] => []
  | .sc _ :: l => rowsL (n + 1) l
  | .row kds :: l => (n, rowL n kds) :: rowsL (n + 1) l
  | .lit _ :: l => rowsL (n + 1) l
def LK.fits (R : List (Nat × Row)) : LK → V → Bool
  | .sc k, v => k.fits v
  | .row kds, .var x => match findR R x with | some r => decide (r.kds = kds) && r.n.isI && r.xs.isL | none => false
  | .row kds, .rsl x => match findR R x with | some r => decide (r.kds = kds) && r.n.isI && r.xs.isL | none => false
  | .row kds, .nils => decide (0 < kds.length)
  | .lit v, u => u == v && v.under 0
  | _, _ => false
def fitsL (R : List (Nat × Row)) : List LK → List V → Bool
  | [], [] => true
  | k :: ks, v :: vs => k.fits R v && fitsL R ks vs
  | _, _ => false
def flatA (R : List (Nat × Row)) : AK → V → Option (List V)
  | .one k, v => if k.fits R v then some [v] else none
  | .ag ks, .agg l => if fitsL R ks l.toL then some l.toL else none
  | _, _ => none
def flatAs (R : List (Nat × Row)) : List AK → List V → Option (List V)
  | [], [] => some []
  | a :: as', v :: vs => match flatA R a v, flatAs R as' vs with | some x, some y => some (x ++ y) | _, _ => none
  | _, _ => none
theorem flatA_fits {R : List (Nat × Row)} {a : AK} {v : V} {vs : List V} (h : flatA R a v = some vs) : fitsL R a.ks vs = true := by
  cases a with
  | one k => simp only [flatA] at h; split at h <;> cases h; rename_i hk; simp [AK.ks, fitsL, hk]
  | ag ks =>
    cases v <;> simp only [flatA, reduceCtorEq] at h
    split at h <;> cases h
    assumption
theorem fitsL_length {R : List (Nat × Row)} : ∀ {ks : List LK} {vs : List V}, fitsL R ks vs = true → vs.length = ks.length
  | [], [], _ => rfl
  | [], _ :: _, h => by cases h
  | _ :: _, [], h => by cases h
  | k :: ks, v :: vs, h => by
    simp only [fitsL, Bool.and_eq_true] at h
    simp [fitsL_length h.2]
theorem fitsL_append {R : List (Nat × Row)} : ∀ {ks ks' : List LK} {vs vs' : List V}, fitsL R ks vs = true → fitsL R ks' vs' = true → fitsL R (ks ++ ks') (vs ++ vs') = true
  | [], _, [], _, _, h => h
  | [], _, _ :: _, _, h, _ => by cases h
  | _ :: _, _, [], _, h, _ => by cases h
  | k :: ks, ks', v :: vs, vs', h, h' => by
    simp only [fitsL, Bool.and_eq_true, List.cons_append] at h ⊢
    exact ⟨h.1, fitsL_append h.2 h'⟩
theorem flatAs_fits {R : List (Nat × Row)} : ∀ {aks : List AK} {args vs : List V}, flatAs R aks args = some vs → fitsL R (ksOf aks) vs = true
  | [], [], _, h => by cases h; rfl
  | [], _ :: _, _, h => by cases h
  | _ :: _, [], _, h => by cases h
  | a :: as', v :: args, vs, h => by
    simp only [flatAs] at h
    split at h
    · rename_i x y hx hy
      cases h
      exact fitsL_append (flatA_fits hx) (flatAs_fits hy)
    · cases h
theorem leaf_den (ρ : Env) (R : List (Nat × Row)) (all : List V) {n : Nat} {k : LK} {v : V} (hf : k.fits R v = true) (ha : all[n]? = some v) : (k.fresh n).den (ρ.assign 0 R all) = v.den ρ := by
  cases k with
  | sc k =>
    have := fresh_den ρ 0 n R all k (x := v) ha hf
    rwa [Nat.zero_add] at this
  | row kds =>
    have := fresh_den ρ 0 n R all .any (x := v) ha rfl
    rwa [Nat.zero_add] at this
  | lit u =>
    simp only [LK.fits, Bool.and_eq_true, beq_iff_eq] at hf
    obtain ⟨rfl, hu⟩ := hf
    exact den_extV (assign_ext ρ 0 R all) hu
theorem freshes_den (ρ : Env) (R : List (Nat × Row)) (all : List V) : ∀ (ks : List LK) (n : Nat) (vs : List V), fitsL R ks vs = true → (∀ j v, vs[j]? = some v → all[n + j]? = some v) → (freshes n ks).map (V.den (ρ.assign 0 R all)) = vs.map (V.den ρ)
  | [], _, [], _, _ => rfl
  | [], _, _ :: _, h, _ => by cases h
  | _ :: _, _, [], h, _ => by cases h
  | k :: ks, n, v :: vs, h, ha => by
    simp only [fitsL, Bool.and_eq_true] at h
    have h0 := leaf_den ρ R all h.1 (n := n) (by simpa using ha 0 v rfl)
    simp only [freshes, List.map_cons, h0]
    rw [freshes_den ρ R all ks (n + 1) vs h.2 fun j u hj => by have := ha (j + 1) u hj; rwa [show n + (j + 1) = n + 1 + j from by omega] at this]
theorem patA_den (ρ : Env) (R : List (Nat × Row)) (all : List V) {a : AK} {v : V} {vs : List V} {n : Nat} (h : flatA R a v = some vs) (ha : ∀ j u, vs[j]? = some u → all[n + j]? = some u) : (patA n a).den (ρ.assign 0 R all) = v.den ρ := by
  have hf := flatA_fits h
  cases a with
  | one k =>
    simp only [flatA] at h
    split at h <;> cases h
    have := freshes_den ρ R all [k] n [v] hf ha
    simpa [freshes, patA] using this
  | ag ks =>
    cases v <;> simp only [flatA, reduceCtorEq] at h
    rename_i l
    split at h <;> cases h
    have := freshes_den ρ R all ks n l.toL hf ha
    simp only [patA, den_agg, dens_ofL, this, toL_dens]
theorem patAs_den (ρ : Env) (R : List (Nat × Row)) (all : List V) : ∀ {aks : List AK} {args vs : List V} {n : Nat}, flatAs R aks args = some vs → (∀ j u, vs[j]? = some u → all[n + j]? = some u) → (patAs n aks).map (V.den (ρ.assign 0 R all)) = args.map (V.den ρ)
  | [], [], vs, n, h, _ => rfl
  | [], _ :: _, vs, n, h, _ => by cases h
  | _ :: _, [], vs, n, h, _ => by cases h
  | a :: as', v :: args, vs, n, h, ha => by
    simp only [flatAs] at h
    split at h
    · rename_i x y hx hy
      cases h
      have hl : x.length = a.ks.length := fitsL_length (flatA_fits hx)
      simp only [patAs, List.map_cons]
      rw [patA_den ρ R all hx fun j u hj => ha j u (by rw [List.getElem?_append_left (List.getElem?_eq_some_iff.1 hj).1]; exact hj)]
      rw [patAs_den ρ R all hy fun j u hj => by
        have := ha (x.length + j) u (by rw [List.getElem?_append_right (by omega)]; simpa using hj)
        rwa [← Nat.add_assoc, hl] at this]
    · cases h
theorem flat_arr (ρ : Env) {R : List (Nat × Row)} {aks : List AK} {args vs : List V} (h : flatAs R aks args = some vs) : arr (ρ.assign 0 R vs) (patAs 0 aks) = arr ρ args := by
  unfold arr
  rw [patAs_den ρ R vs h fun j u hj => by simpa using hj]
/-- A row's value is a slice. -/
theorem at_asSl {ρ : Env} {r : Row} {base : Nat} {w : World} {v : Value} (h : r.at ρ base w v) : asSl v = v := by
  obtain ⟨-, -, h⟩ := h
  split at h
  · rcases h.2 with ⟨rfl, -⟩ | ⟨g, cap, cur, -, -, -, -, -, off, rfl, -⟩ <;> rfl
  · rcases h.2 with ⟨rfl, -⟩ | ⟨a, cap, rfl, -⟩ <;> rfl
/-- The rows of the pattern are those of the arguments. -/
theorem rowsL_at {ρ : Env} {R : List (Nat × Row)} {base : Nat} {w : World} (hR : ∀ x r, findR R x = some r → r.at ρ base w (ρ.v x)) (all : List V) : ∀ (ks : List LK) (n : Nat) (vs : List V), fitsL R ks vs = true → (∀ j v, vs[j]? = some v → all[n + j]? = some v) →
    ∀ p ∈ rowsL n ks, p.2.own = false ∧ p.2.at (ρ.assign 0 R all) base w ((ρ.assign 0 R all).v p.1)
  | [], _, _, _, _, p, hp => by cases hp
  | _ :: _, _, [], h, _, p, hp => by cases h
  | .sc k :: ks, n, v :: vs, h, ha, p, hp => by
    simp only [fitsL, Bool.and_eq_true] at h
    exact rowsL_at hR all ks (n + 1) vs h.2 (fun j u hj => by have := ha (j + 1) u hj; rwa [show n + (j + 1) = n + 1 + j from by omega] at this) p hp
  | .lit k :: ks, n, v :: vs, h, ha, p, hp => by
    simp only [fitsL, Bool.and_eq_true] at h
    exact rowsL_at hR all ks (n + 1) vs h.2 (fun j u hj => by have := ha (j + 1) u hj; rwa [show n + (j + 1) = n + 1 + j from by omega] at this) p hp
  | .row kds :: ks, n, v :: vs, h, ha, p, hp => by
    simp only [fitsL, Bool.and_eq_true] at h
    simp only [rowsL] at hp
    rcases List.mem_cons.1 hp with rfl | hp
    · refine ⟨rfl, ?_⟩
      have hv : all[n]? = some v := by simpa using ha 0 v rfl
      have hE : (all.map (V.asE R)).getD (n - 0) (.c 0) = v.asE R := by simp [hv]
      have e1 : (rowL n kds).n.I (ρ.assign 0 R all) = (compI (v.asE R)).I ρ := by
        simp only [rowL, I_v, Env.assign, Nat.zero_le, if_true, hE]
      have e2 : (rowL n kds).xs.L (ρ.assign 0 R all) = (compL (v.asE R)).L ρ := by
        simp only [rowL, L_lv, Env.assign, Nat.zero_le, if_true, hE]
      have e3 : (ρ.assign 0 R all).v n = v.den ρ := by
        simp [Env.assign, hv]
      rw [e3]
      have hf := h.1
      cases v <;> simp only [LK.fits, Bool.false_eq_true] at hf
      case var x =>
        split at hf
        · rename_i r hr
          simp only [Bool.and_eq_true, decide_eq_true_eq] at hf
          obtain ⟨⟨hk, hn⟩, hx⟩ := hf
          have hA : V.asE R (.var x) = .pair r.n r.xs := by
            unfold findR at hr
            rw [Option.map_eq_some_iff] at hr
            obtain ⟨q, hq, rfl⟩ := hr
            simp only [V.asE, hq]
          rw [hA] at e1 e2
          simp only [compI, hn, if_true] at e1
          simp only [compL, hx, if_true] at e2
          exact at_read (hR x r hr) rfl hk.symm e1 e2
        · cases hf
      case rsl x =>
        split at hf
        · rename_i r hr
          simp only [Bool.and_eq_true, decide_eq_true_eq] at hf
          obtain ⟨⟨hk, hn⟩, hx⟩ := hf
          have hA : V.asE R (.rsl x) = .pair r.n r.xs := by
            unfold findR at hr
            rw [Option.map_eq_some_iff] at hr
            obtain ⟨q, hq, rfl⟩ := hr
            simp only [V.asE, hq]
          rw [hA] at e1 e2
          simp only [compI, hn, if_true] at e1
          simp only [compL, hx, if_true] at e2
          rw [den_rsl, at_asSl (hR x r hr)]
          exact at_read (hR x r hr) rfl hk.symm e1 e2
        · cases hf
      case nils =>
        have z1 : (rowL n kds).n.I (ρ.assign 0 R all) = 0 := e1
        have z2 : (rowL n kds).xs.L (ρ.assign 0 R all) = [] := e2
        show Row.at _ _ _ _ (rowL n kds)
        unfold Row.at
        rw [z1, z2]
        exact ⟨by decide, by simpa [rowL] using hf, by simp [rowL, den_nils]⟩
    · exact rowsL_at hR all ks (n + 1) vs h.2 (fun j u hj => by have := ha (j + 1) u hj; rwa [show n + (j + 1) = n + 1 + j from by omega] at this) p hp

/-! ### Conjunctions -/
def allE (ρ : Env) (atoms : List E) : Bool := atoms.all (E.B ρ)
def conjE : List E → E | [] => .tt | [a] => a | a :: l => .and a (conjE l)
theorem conjE_B (ρ : Env) : ∀ l, (conjE l).B ρ = allE ρ l
  | [] => rfl
  | [a] => by simp [conjE, allE]
  | a :: b :: l => by
    have := conjE_B ρ (b :: l)
    simp only [conjE, B_and, this, allE, List.all_cons]
/-! ### What is decided -/
abbrev Dec := List E → E → Option Bool
def DecOk (TT : Tb) (D : Dec) : Prop := ∀ ρ F e r, TT.tab ρ.g ρ.h ρ.k ρ.m → holds ρ F → D F e = some r → e.B ρ = r
theorem decB_ok : DecOk TT decideB := fun _ _ _ _ _ h k => decideB_ok h k
/-- all of the first n. -/
def allTo (n : Int) (p : Int → Bool) : Bool := (List.range n.toNat).all fun k => p k
theorem allTo_zero (p : Int → Bool) : allTo 0 p = true := rfl
theorem allTo_neg {n : Int} (h : n ≤ 0) (p : Int → Bool) : allTo n p = true := by unfold allTo; rw [show n.toNat = 0 from by omega]; rfl
theorem allTo_succ {n : Int} (h : 0 ≤ n) (p : Int → Bool) : allTo (n + 1) p = (allTo n p && p n) := by
  unfold allTo
  rw [show (n + 1).toNat = n.toNat + 1 from by omega, List.range_succ, List.all_append]
  simp [Int.toNat_of_nonneg h]
theorem allTo_at {n : Int} {p : Int → Bool} (h : allTo n p = true) {k : Int} (h0 : 0 ≤ k) (hk : k < n) : p k = true := by
  unfold allTo at h
  rw [List.all_eq_true] at h
  have := h k.toNat (List.mem_range.2 (by omega))
  rwa [Int.toNat_of_nonneg h0] at this
theorem allTo_of {n : Int} {p : Int → Bool} (h : ∀ k, 0 ≤ k → k < n → p k = true) : allTo n p = true := by
  unfold allTo
  rw [List.all_eq_true]
  intro k hk
  exact h k (by omega) (by have := List.mem_range.1 hk; omega)
theorem allTo_not {n : Int} {p : Int → Bool} {k : Int} (h0 : 0 ≤ k) (hk : k < n) (h : p k = false) : allTo n p = false := by
  cases e : allTo n p with
  | false => rfl
  | true => rw [allTo_at e h0 hk] at h; cases h
/-! ### Linear facts -/
structure Lin where
  l : List (E × Int) := []
  c : Int := 0
def evL (ρ : Env) (l : List (E × Int)) : Int := l.foldr (fun p s => p.2 * p.1.I ρ + s) 0
def Lin.ev (ρ : Env) (L : Lin) : Int := evL ρ L.l + L.c
def addT (t : E) (k : Int) : List (E × Int) → List (E × Int)
  | [] => if k = 0 then [] else [(t, k)]
  | (u, m) :: l => if u = t then (if m + k = 0 then l else (u, m + k) :: l) else (u, m) :: addT t k l
theorem addT_ev (ρ : Env) (t : E) (k : Int) : ∀ l, evL ρ (addT t k l) = evL ρ l + k * t.I ρ
  | [] => by
    unfold addT
    split
    · rename_i h; subst h; simp [evL]
    · simp [evL]
  | (u, m) :: l => by
    unfold addT
    split
    · rename_i h
      subst h
      split
      · rename_i h
        have : k = -m := by omega
        subst this
        simp only [evL, List.foldr_cons]
        rw [Int.neg_mul]
        omega
      · simp only [evL, List.foldr_cons]
        rw [Int.add_mul]
        omega
    · have := addT_ev ρ t k l
      simp only [evL, List.foldr_cons] at this ⊢
      omega
def lin : E → Int → Lin → Lin
  | .c z, k, L => { L with c := L.c + k * z }
  | .add a b, k, L => lin b k (lin a k L)
  | .sub a b, k, L => lin b (-k) (lin a k L)
  | .mul a b, k, L => match b with | .c z => lin a (k * z) L | b => { L with l := addT (.mul a b) k L.l }
  | e, k, L => { L with l := addT e k L.l }
theorem lin_ev (ρ : Env) : ∀ (e : E) (k : Int) (L : Lin), (lin e k L).ev ρ = L.ev ρ + k * e.I ρ := by
  intro e
  induction e with
  | c z => intro k L; simp only [lin, Lin.ev, I_c]; omega
  | add a b iha ihb => intro k L; simp only [lin, ihb, iha, I_add, Int.mul_add]; omega
  | sub a b iha ihb => intro k L; simp only [lin, ihb, iha, I_sub, Int.mul_sub, Int.neg_mul]; omega
  | mul a b iha ihb =>
    intro k L
    unfold lin
    split
    · rename_i z; rw [iha, I_mul, I_c, Int.mul_assoc, Int.mul_comm z]
    · simp only [Lin.ev, addT_ev]; omega
  | _ => intro k L; simp only [lin, Lin.ev, addT_ev]; omega
def subL (L M : Lin) : Lin := { l := M.l.foldr (fun p s => addT p.1 (-p.2) s) L.l, c := L.c - M.c }
theorem subL_ev (ρ : Env) (L M : Lin) : (subL L M).ev ρ = L.ev ρ - M.ev ρ := by
  have : ∀ m : List (E × Int), evL ρ (m.foldr (fun p s => addT p.1 (-p.2) s) L.l) = evL ρ L.l - evL ρ m := by
    intro m
    induction m with
    | nil => simp [evL]
    | cons p m ih =>
      rw [List.foldr_cons, addT_ev, ih, Int.neg_mul]
      simp only [evL, List.foldr_cons]
      omega
  simp only [subL, Lin.ev, this]
  omega
/-- What a fact says is not below 0. -/
def factLin : E → List Lin
  | .le a b => [lin b 1 (lin a (-1) {})]
  | .lt a b => [lin b 1 (lin a (-1) { c := -1 })]
  | .eq a b => [lin b 1 (lin a (-1) {}), lin a 1 (lin b (-1) {})]
  | _ => []
theorem factLin_ok {ρ : Env} {f : E} (h : f.B ρ = true) : ∀ L ∈ factLin f, 0 ≤ L.ev ρ := by
  unfold factLin
  split <;> intro L hL
  · cases List.mem_singleton.1 hL; simp at h; simp only [lin_ev]; simp [Lin.ev, evL]; omega
  · cases List.mem_singleton.1 hL; simp at h; simp only [lin_ev]; simp [Lin.ev, evL]; omega
  · simp at h
    simp only [List.mem_cons, List.not_mem_nil, or_false] at hL
    rcases hL with rfl | rfl <;> simp only [lin_ev] <;> simp [Lin.ev, evL] <;> omega
  · cases hL
def Lin.pos (L : Lin) : Bool := L.l.isEmpty && decide (0 ≤ L.c)
theorem pos_ok {ρ : Env} {L : Lin} (h : L.pos = true) : 0 ≤ L.ev ρ := by
  simp only [Lin.pos, Bool.and_eq_true, List.isEmpty_iff, decide_eq_true_eq] at h
  simp only [Lin.ev, h.1, evL, List.foldr_nil]
  omega
def Lin.meets (L M : Lin) : Bool := M.l.any fun p => L.l.any fun q => decide (0 < p.2 * q.2) && p.1 == q.1
def linBy (G : List Lin) (L : Lin) : Bool := L.pos || (decide (L.l.length ≤ 3) && G.any fun M => L.meets M && (let K := subL L M; K.pos || (decide (K.l.length ≤ 2) && G.any fun N => decide (N.l.length = K.l.length) && (K.meets N && (subL K N).pos))))
theorem linBy_ok {ρ : Env} {G : List Lin} (hG : ∀ M ∈ G, 0 ≤ M.ev ρ) {L : Lin} (h : linBy G L = true) : 0 ≤ L.ev ρ := by
  unfold linBy at h
  simp only [Bool.or_eq_true, Bool.and_eq_true, List.any_eq_true] at h
  rcases h with h | ⟨-, M, hM, -, h | ⟨-, N, hN, -, -, h⟩⟩
  · exact pos_ok h
  · have h1 := pos_ok (ρ := ρ) h; have h2 := hG M hM; rw [subL_ev] at h1; omega
  · have h1 := pos_ok (ρ := ρ) h; have h2 := hG M hM; have h3 := hG N hN; rw [subL_ev, subL_ev] at h1; omega
/-- What two that differ say, where one is known to be at most the other. -/
def neLin (G : List Lin) : E → List Lin
  | .not (.eq a b) => (if linBy G (lin a 1 (lin b (-1) {})) then [lin a 1 (lin b (-1) { c := -1 })] else []) ++ (if linBy G (lin b 1 (lin a (-1) {})) then [lin b 1 (lin a (-1) { c := -1 })] else [])
  | _ => []
theorem neLin_ok {ρ : Env} {G : List Lin} (hG : ∀ M ∈ G, 0 ≤ M.ev ρ) {f : E} (h : f.B ρ = true) : ∀ L ∈ neLin G f, 0 ≤ L.ev ρ := by
  have z : ({} : Lin).ev ρ = 0 := rfl
  have z1 : ({ c := -1 } : Lin).ev ρ = -1 := rfl
  unfold neLin
  split <;> intro L hL
  · simp at h
    rcases List.mem_append.1 hL with hL | hL <;> split at hL <;> rename_i hp <;> simp only [List.mem_singleton, List.not_mem_nil] at hL <;> subst hL <;> have := linBy_ok hG hp <;> simp only [lin_ev, z, z1] at this ⊢ <;> omega
  · cases hL
def linT : E → Bool | .c _ | .v _ => true | .add a b | .sub a b => linT a && linT b | .mul a (.c _) => linT a | _ => false
/-- Is a fact linear in names? -/
def linF : E → Bool | .le a b | .lt a b | .eq a b => linT a && linT b | .not a => linF a | _ => false
def linPos (F0 : List E) (L : Lin) : Bool := let F := F0.filter linF; let G := F.flatMap factLin; linBy (G ++ F.flatMap (neLin G)) L
theorem linPos_ok {ρ : Env} {F0 : List E} (hF0 : holds ρ F0) {L : Lin} (h : linPos F0 L = true) : 0 ≤ L.ev ρ := by
  have hF : holds ρ (F0.filter linF) := fun f hf => hF0 f (List.mem_filter.1 hf).1
  unfold linPos at h
  generalize F0.filter linF = F at hF h
  have hG : ∀ M ∈ F.flatMap factLin, 0 ≤ M.ev ρ := fun M hM => by
    obtain ⟨f, hf, hM⟩ := List.mem_flatMap.1 hM
    exact factLin_ok (hF f hf) M hM
  refine linBy_ok (fun M hM => ?_) h
  rcases List.mem_append.1 hM with hM | hM
  · exact hG M hM
  · obtain ⟨f, hf, hM⟩ := List.mem_flatMap.1 hM
    exact neLin_ok hG (hF f hf) M hM
def decideL (D : Dec) : Dec := fun F e => match D F e with
  | some r => some r
  | none => match e with
    | .le a b => if linPos F (lin b 1 (lin a (-1) {})) then some true else if linPos F (lin a 1 (lin b (-1) { c := -1 })) then some false else none
    | .lt a b => if linPos F (lin b 1 (lin a (-1) { c := -1 })) then some true else if linPos F (lin a 1 (lin b (-1) {})) then some false else none
    | .eq a b => if linPos F (lin b 1 (lin a (-1) {})) && linPos F (lin a 1 (lin b (-1) {})) then some true else none
    | _ => none
theorem decideL_ok {D : Dec} (hD : DecOk TT D) : DecOk TT (decideL D) := fun ρ F e r hT hF h => by
  have z : ({} : Lin).ev ρ = 0 := rfl
  have z1 : ({ c := -1 } : Lin).ev ρ = -1 := rfl
  unfold decideL at h
  split at h
  · rename_i hd
    cases h
    exact hD _ _ _ _ hT hF hd
  · split at h
    · rename_i a b _
      split at h
      · rename_i hp; cases h; have := linPos_ok hF hp; simp only [lin_ev, z] at this; simp; omega
      · split at h
        · rename_i hp; cases h; have := linPos_ok hF hp; simp only [lin_ev, z1] at this; simp; omega
        · cases h
    · rename_i a b _
      split at h
      · rename_i hp; cases h; have := linPos_ok hF hp; simp only [lin_ev, z1] at this; simp; omega
      · split at h
        · rename_i hp; cases h; have := linPos_ok hF hp; simp only [lin_ev, z] at this; simp; omega
        · cases h
    · rename_i a b _
      split at h
      · rename_i hp
        cases h
        simp only [Bool.and_eq_true] at hp
        have h1 := linPos_ok hF hp.1; have h2 := linPos_ok hF hp.2
        simp only [lin_ev, z] at h1 h2
        simp; omega
      · cases h
    · cases h
/-- A name for 'all of the first ..': what is said of each. -/
structure AllSp where
  h : Nat
  inst : E → E → List E
def SpOk (TT : Tb) (s : AllSp) : Prop := ∀ ρ : Env, TT.tab ρ.g ρ.h ρ.k ρ.m → ∃ P : Int → List (Int × ByteArray) → Bool,
  (∀ e xs : E, (E.happ s.h (.cons e xs)).B ρ = allTo (e.I ρ) fun k => P k (xs.L ρ)) ∧ ∀ xs j : E, 0 ≤ j.I ρ → allE ρ (s.inst xs j) = P (j.I ρ) (xs.L ρ)
def leavesE : E → List E | .and a b => leavesE a ++ leavesE b | e => [e]
theorem leavesE_B (ρ : Env) : ∀ e : E, allE ρ (leavesE e) = e.B ρ := by
  intro e
  induction e with
  | and a b iha ihb => simp only [leavesE, allE, List.all_append, B_and] at *; rw [iha, ihb]
  | _ => simp [leavesE, allE]
/-- Is it known that not all of these are true? -/
def notAll (F l : List E) : Bool := (l.any fun a => decideB F a == some false) || F.any fun f => match f with | .not c => (leavesE c).all fun x => (l.flatMap leavesE).contains x | _ => false
theorem notAll_ok {ρ : Env} {F l : List E} (hF : holds ρ F) (h : notAll F l = true) : allE ρ l = false := by
  unfold notAll at h
  simp only [Bool.or_eq_true, List.any_eq_true, beq_iff_eq] at h
  rcases h with ⟨a, ha, hd⟩ | ⟨f, hf, h⟩
  · simp only [allE, List.all_eq_false]
    exact ⟨a, ha, by simp [decideB_ok hF hd]⟩
  · split at h
    · rename_i c
      have hc := hF _ hf
      rw [B_not, Bool.not_eq_true', ← leavesE_B] at hc
      cases e : allE ρ l with
      | false => rfl
      | true =>
        rw [← hc]
        symm
        simp only [List.all_eq_true, List.contains_iff_mem, List.mem_flatMap] at h
        simp only [allE, List.all_eq_true] at e ⊢
        intro x hx
        obtain ⟨a, ha, hxa⟩ := h x hx
        have h1 := e a ha
        rw [← leavesE_B] at h1
        exact (List.all_eq_true.1 h1) x hxa
    · cases h
def stepH (F : List E) (s : AllSp) (e xs : E) : E → Option Bool
  | .happ h' (.cons j xs') =>
    if h' = s.h ∧ xs' = xs then
      if decideL decideB F (.eq j e) = some true then some true
      else if e = .add j (.c 1) ∧ decideL decideB F (.le (.c 0) j) = some true ∧ ((s.inst xs j).all fun a => decideB F a == some true) = true then some true
      else if decideL decideB F (.le (.c 0) j) = some true ∧ decideL decideB F (.lt j e) = some true ∧ notAll F (s.inst xs j) = true then some false
      else none
    else none
  | _ => none
def decideH (S : List AllSp) : Dec := fun F e => match decideB F e with
  | some r => some r
  | none => match e with
    | .happ h (.cons e xs) => match S.find? (·.h == h) with
      | some s => if e = .c 0 then some true else (.happ h (.cons (.c 0) xs) :: F).findSome? (stepH F s e xs)
      | none => none
    | _ => none
theorem stepH_ok {s : AllSp} (hs : SpOk TT s) {ρ : Env} {F : List E} {e xs f : E} {r : Bool} (hT : TT.tab ρ.g ρ.h ρ.k ρ.m) (hF : holds ρ F) (hf : f.B ρ = true) (h : stepH F s e xs f = some r) : (E.happ s.h (.cons e xs)).B ρ = r := by
  obtain ⟨P, hP, hI⟩ := hs ρ hT
  unfold stepH at h
  split at h
  · rename_i h' j xs'
    split at h
    · rename_i hc
      obtain ⟨rfl, rfl⟩ := hc
      have hj := hf
      rw [hP] at hj ⊢
      split at h
      · rename_i hd
        cases h
        have : j.I ρ = e.I ρ := by
          have := decideL_ok decB_ok _ _ _ _ hT hF hd; simpa using this
        rw [← this]; exact hj
      · split at h
        · rename_i hd
          cases h
          obtain ⟨rfl, h0, hall⟩ := hd
          have h0 := decideL_ok decB_ok _ _ _ _ hT hF h0
          simp only [B_le, I_c, decide_eq_true_eq] at h0
          rw [I_add, I_c, allTo_succ h0, hj, Bool.true_and, ← hI _ _ h0]
          simp only [List.all_eq_true, beq_iff_eq] at hall
          simp only [allE, List.all_eq_true]
          exact fun a ha => decideB_ok hF (hall a ha)
        · split at h
          · rename_i hd
            cases h
            obtain ⟨h0, hlt, hany⟩ := hd
            have h0 := decideL_ok decB_ok _ _ _ _ hT hF h0
            have hlt := decideL_ok decB_ok _ _ _ _ hT hF hlt
            simp only [B_le, B_lt, I_c, decide_eq_true_eq] at h0 hlt
            refine allTo_not h0 hlt ?_
            rw [← hI _ _ h0]
            exact notAll_ok hF hany
          · cases h
    · cases h
  · cases h
theorem decideH_ok {S : List AllSp} (hS : ∀ s ∈ S, SpOk TT s) : DecOk TT (decideH S) := fun ρ F e r hT hF h => by
  unfold decideH at h
  split at h
  · rename_i hd
    cases h
    exact decideB_ok hF hd
  · split at h
    · rename_i hh e xs _
      split at h
      · rename_i s hs
        have hm := List.mem_of_find?_eq_some hs
        have hsh : s.h = hh := by have := List.find?_some hs; simpa using this
        subst hsh
        split at h
        · rename_i he
          subst he
          cases h
          obtain ⟨P, hP, -⟩ := hS s hm ρ hT
          rw [hP]
          exact allTo_zero _
        · obtain ⟨f, hf, h⟩ := List.exists_of_findSome?_eq_some h
          refine stepH_ok (hS s hm) hT hF ?_ h
          rcases List.mem_cons.1 hf with rfl | hf
          · obtain ⟨P, hP, -⟩ := hS s hm ρ hT
            rw [hP]
            exact allTo_zero _
          · exact hF f hf
      · cases h
    · cases h
/-- Does a path's end say what the atoms say? -/
def chkO (D : Dec) (atoms : List E) (o : Out) : Bool := o.st.W.isEmpty && match o.x with
  | .val (.b .ff) => atoms.any fun a => D o.st.F a == some false
  | .val (.b .tt) => atoms.all fun a => D o.st.F a == some true
  | .val (.b e) => atoms.contains e && atoms.all fun a => a == e || D o.st.F a == some true
  | .must e => D o.st.F e == some true
  | _ => false
theorem chkO_ok {D : Dec} (hD : DecOk TT D) {ρ : Env} (hT : TT.tab ρ.g ρ.h ρ.k ρ.m) {atoms : List E} {o : Out} (h : chkO D atoms o = true) (hF : holds ρ o.st.F) : o.st.W = [] ∧ match o.x with
    | .val v => v.den ρ = .bool (allE ρ atoms)
    | .must e => e.B ρ = true
    | _ => False := by
  unfold chkO at h
  simp only [Bool.and_eq_true, List.isEmpty_iff] at h
  refine ⟨h.1, ?_⟩
  replace h := h.2
  split at h
  · rename_i hx
    rw [hx]
    simp only [List.any_eq_true, beq_iff_eq] at h
    obtain ⟨a, ha, hd⟩ := h
    have := hD _ _ _ _ hT hF hd
    show Value.bool _ = _
    congr 1
    symm
    simp only [allE, B_f, List.all_eq_false]
    exact ⟨a, ha, by simp [this]⟩
  · rename_i hx
    rw [hx]
    simp only [List.all_eq_true, beq_iff_eq] at h
    show Value.bool _ = _
    congr 1
    symm
    simp only [allE, B_t, List.all_eq_true]
    exact fun a ha => hD _ _ _ _ hT hF (h a ha)
  · rename_i e _ _ hx
    rw [hx]
    simp only [Bool.and_eq_true, List.all_eq_true, Bool.or_eq_true, beq_iff_eq] at h
    show Value.bool _ = _
    congr 1
    have hm : e ∈ atoms := by simpa using h.1
    cases he : e.B ρ with
    | true =>
      symm
      simp only [allE, List.all_eq_true]
      intro a ha
      rcases h.2 a ha with rfl | hd
      · exact he
      · exact hD _ _ _ _ hT hF hd
    | false =>
      symm
      simp only [allE, List.all_eq_false]
      exact ⟨e, hm, by simp [he]⟩
  · rename_i e hx
    rw [hx]
    exact hD _ _ _ _ hT hF (by simpa using h)
  · cases h
theorem read_base {ρ : Env} {r : Row} {a b : Nat} {w : World} {v : Value} (ho : r.own = false) (h : r.at ρ a w v) : r.at ρ b w v := at_read h ho rfl rfl rfl
/-- The rows of a call's arguments. -/
def RowsAt (ρ : Env) (w : World) (aks : List AK) : Prop := ∀ p ∈ rowsL 0 (ksOf aks), p.2.own = false ∧ ∀ base, p.2.at ρ base w (ρ.v p.1)
/-- The same, where rows may lie anywhere. -/
def Tb.open (T : Tb) : Tb := { T with A := fun _ => True }
theorem rowsAt_of {ρ : Env} {R : List (Nat × Row)} {base : Nat} {w : World} (hR : ∀ x r, findR R x = some r → r.at ρ base w (ρ.v x)) {aks : List AK} {args vs : List V} (h : flatAs R aks args = some vs) : RowsAt (ρ.assign 0 R vs) w aks := fun p hp => by
  obtain ⟨h1, h2⟩ := rowsL_at hR vs (ksOf aks) 0 vs (flatAs_fits h) (fun j u hj => by simpa using hj) p hp
  exact ⟨h1, fun b => read_base h1 h2⟩
def chkConj (P : Program) (Γ : Ctx) (gas : Nat) (f : FuncId) (aks : List AK) (F atoms : List E) (D : Dec := decideB) : Bool :=
  atoms.all (E.under (ksOf aks).length) &&
  match goF P gas Γ.top (.fn f (patAs 0 aks)) { T := [], R := rowsL 0 (ksOf aks), F := F, fr := (ksOf aks).length, own := (ksOf aks).length } with
  | some l => l.all (chkO D atoms)
  | none => false
/-- **A CONJUNCTION**: what a call yields. -/
theorem conj_calls {P : Program} {Γ : Ctx} (hΓ : ∀ q ∈ Γ.calls, CtrOk TT.open P q) {gas : Nat} {f : FuncId} {aks : List AK} {F atoms : List E} {D : Dec} (hD : DecOk TT D) (h : chkConj P Γ gas f aks F atoms D = true) (ρ : Env) (w : World)
    (hF : holds ρ F) (hT : TT.tab ρ.g ρ.h ρ.k ρ.m) (hR : RowsAt ρ w aks) (hJ : TT.J w := by exact trivial) : Calls P f (arr ρ (patAs 0 aks)) w fun e w' => e = .returned (.bool (allE ρ atoms)) ∧ Below w.heap.size w w' := by
  unfold chkConj at h
  simp only [Bool.and_eq_true] at h
  obtain ⟨hu, h⟩ := h
  split at h
  case h_2 => cases h
  rename_i outs hgo
  rw [List.all_eq_true] at h hu
  refine ((go_ok hΓ gas Γ.top rfl).2.2.2.2.1 f _ _ outs (by rw [goF_eq] at hgo; exact hgo)).2 ρ w w _ (known_top _ _ _) (Sees.startR ρ _ w rfl rfl (fun p hp => ⟨(hR p hp).1, (hR p hp).2 _, fun _ _ => trivial⟩) hF ⟨hT, hJ⟩) fun o ho ρ' w' hx hs => ?_
  obtain ⟨hW, hv⟩ := chkO_ok hD hs.tab.1 (h o ho) hs.fact
  have e : allE ρ' atoms = allE ρ atoms := by
    unfold allE
    rw [Bool.eq_iff_iff]
    simp only [List.all_eq_true]
    exact ⟨fun hh a ha => by rw [← B_ext hx (hu a ha)]; exact hh a ha, fun hh a ha => by rw [B_ext hx (hu a ha)]; exact hh a ha⟩
  revert hv
  cases o.x <;> intro hv
  case val v => exact ⟨by rw [hv, e], hs.below hW⟩
  case must => exact hv
  all_goals exact hv.elim
def ctrConj (f : FuncId) (aks : List AK) (F atoms : List E) : Ctr :=
  ⟨f, fun args σ => match flatAs σ.R aks args with
    | some vs =>
      let as' := atoms.map (E.subst 0 (vs.map (V.asE σ.R)))
      let need := F.map (E.subst 0 (vs.map (V.asE σ.R)))
      let G := news σ.F need ++ σ.F
      some (musts σ need ++
        (if as'.any (fun a => decideB G a == some false) then [⟨.val (.b .ff), { σ with F := G }⟩]
         else if as'.all (fun a => decideB G a == some true) then [⟨.val (.b .tt), { σ with F := G }⟩]
         else [⟨.val (.b .tt), { σ with F := as' ++ G }⟩, ⟨.val (.b .ff), { σ with F := .not (conjE as') :: G }⟩]))
    | none => none⟩
theorem need_of {σ : St} {ρ : Env} {w0 w : World} {R : Ending → World → Prop} (hs : Sees TT ρ σ w0 w) {need : List E} {l : List Out} (hg : ∀ o ∈ musts σ need ++ l, GoodF TT R ρ σ.fr w0 o) : ∀ e ∈ need, e.B ρ = true := fun e he =>
  musts_ok hs (fun u hu e hue => by
    have := hg u (List.mem_append.2 (.inl hu)) ρ w (Ext.refl _ _) (by
      obtain ⟨e', -, rfl⟩ := List.mem_map.1 hu
      exact hs)
    rw [hue] at this
    exact this) e he
theorem news_holds {σF need : List E} {ρ : Env} (h1 : holds ρ σF) (h2 : ∀ e ∈ need, e.B ρ = true) : holds ρ (news σF need ++ σF) := fun e he => by
  rcases List.mem_append.1 he with he | he
  · exact h2 e (List.mem_filter.1 he).1
  · exact h1 e he
theorem ctrConj_ok {P : Program} {f : FuncId} {aks : List AK} {F atoms : List E}
    (h : ∀ ρ w, holds ρ F → TT.tab ρ.g ρ.h ρ.k ρ.m → RowsAt ρ w aks → Calls P f (arr ρ (patAs 0 aks)) w fun e w' => e = .returned (.bool (allE ρ atoms)) ∧ Below w.heap.size w w') : CtrOk TT P (ctrConj f aks F atoms) := by
  intro args σ outs hr hok ha ρ w0 w R hs hg
  simp only [ctrConj] at hr
  split at hr
  case h_2 => cases hr
  rename_i vs hvX
  cases hr
  have hn := need_of hs hg
  have hn' : holds (ρ.assign 0 σ.R vs) F := fun e he => by rw [← subst_B]; exact hn _ (List.mem_map.2 ⟨e, he, rfl⟩)
  have hc := h (ρ.assign 0 σ.R vs) w hn' hs.tab.1 (rowsAt_of (fun x r hf => hs.row _ (findR_mem hf)) hvX)
  rw [flat_arr ρ hvX] at hc
  have hG := news_holds hs.fact hn
  have hat : allE (ρ.assign 0 σ.R vs) atoms = allE ρ (atoms.map (E.subst 0 (vs.map (V.asE σ.R)))) := by
    unfold allE
    rw [List.all_map]
    congr 1
    funext a
    exact (subst_B ρ 0 σ.R vs a).symm
  rw [hat] at hc
  refine hc.mono fun e w' ⟨he, hb⟩ => ?_
  subst he
  generalize atoms.map (E.subst 0 (vs.map (V.asE σ.R))) = as' at *
  split at hg
  · rename_i hd
    simp only [List.any_eq_true, beq_iff_eq] at hd
    obtain ⟨a, ha', hd⟩ := hd
    have := decideB_ok hG hd
    have e : allE ρ as' = false := by
      simp only [allE, List.all_eq_false]
      exact ⟨a, ha', by simp [this]⟩
    rw [e]
    exact hg _ (List.mem_append.2 (.inr List.mem_cons_self)) ρ w' (Ext.refl _ _) ((hs.step hb).withF hG)
  · split at hg
    · rename_i hd
      simp only [List.all_eq_true, beq_iff_eq] at hd
      have e : allE ρ as' = true := by
        simp only [allE, List.all_eq_true]
        exact fun a ha' => decideB_ok hG (hd a ha')
      rw [e]
      exact hg _ (List.mem_append.2 (.inr List.mem_cons_self)) ρ w' (Ext.refl _ _) ((hs.step hb).withF hG)
    · cases e : allE ρ as' with
      | true =>
        refine hg ⟨.val (.b .tt), _⟩ (List.mem_append.2 (.inr List.mem_cons_self)) ρ w' (Ext.refl _ _) ((hs.step hb).withF fun a ha' => ?_)
        rcases List.mem_append.1 ha' with ha' | ha'
        · exact (List.all_eq_true.1 e) a ha'
        · exact hG a ha'
      | false =>
        refine hg ⟨.val (.b .ff), _⟩ (List.mem_append.2 (.inr (List.mem_cons_of_mem _ List.mem_cons_self))) ρ w' (Ext.refl _ _) ((hs.step hb).withF fun a ha' => ?_)
        rcases List.mem_cons.1 ha' with rfl | ha'
        · simp [conjE_B, e]
        · exact hG a ha'
/-- **A CONTRACT BY PROGRAM**. -/
theorem auto_conj {P : Program} {Γ : Ctx} (hΓ : ∀ q ∈ Γ.calls, CtrOk TT.open P q) (gas : Nat) {f : FuncId} {aks : List AK} {F atoms : List E} (h : chkConj P Γ gas f aks F atoms = true) (hJ : ∀ w, TT.J w := by exact fun _ => trivial) : CtrOk TT P (ctrConj f aks F atoms) :=
  ctrConj_ok fun ρ w hF hT hR => conj_calls hΓ decB_ok h ρ w hF hT hR (hJ w)

/-- **A CALL BY THE PATTERN OF ITS ARGUMENTS**, told by all its ends. -/
theorem pat_calls {P : Program} {Γ : Ctx} (hΓ : ∀ q ∈ Γ.calls, CtrOk TT.open P q) (g : Nat) {f : FuncId} (aks : List AK) (F : List E) (ds : List RDig) (h : rdigs (goF P g Γ.top (.fn f (patAs 0 aks)) { T := [], R := rowsL 0 (ksOf aks), F := F, fr := (ksOf aks).length, own := (ksOf aks).length }) = some ds)
    (ρ : Env) (w : World) (hF : holds ρ F) (hT : TT.tab ρ.g ρ.h ρ.k ρ.m) (hR : RowsAt ρ w aks) {Q : Ending → World → Prop} (hg : AllR (GoodR TT.open Q ρ (ksOf aks).length w) ds) (hJ : TT.J w := by exact trivial) : Calls P f (arr ρ (patAs 0 aks)) w Q :=
  sx_rows (TT := TT.open) hΓ g (patAs 0 aks) (rowsL 0 (ksOf aks)) F (ksOf aks).length ds h ρ rfl (fun p hp => ⟨(hR p hp).1, (hR p hp).2 _, fun _ _ => trivial⟩) hF hT hg hJ

def rdigsC (D : Dec) (atoms : List E) : Option (List Out) → Option (List RDig)
  | some l => if l.all (fun o => o.st.W.isEmpty) then some ((l.filter fun o => !chkO D atoms o).map fun o => ⟨o.x, o.st.F, rowsOf o⟩).eraseDups else none
  | none => none
/-- **A CONJUNCTION**, told by the ends that are not decided. -/
theorem conj_rest {D : Dec} (hD : DecOk TT D) {P : Program} {Γ : Ctx} (hΓ : ∀ q ∈ Γ.calls, CtrOk TT.open P q) (g : Nat) {f : FuncId} (aks : List AK) (F atoms : List E) (hu : atoms.all (E.under (ksOf aks).length) = true) (ds : List RDig) (h : rdigsC D atoms (goF P g Γ.top (.fn f (patAs 0 aks)) { T := [], R := rowsL 0 (ksOf aks), F := F, fr := (ksOf aks).length, own := (ksOf aks).length }) = some ds)
    (ρ : Env) (w : World) (hF : holds ρ F) (hT : TT.tab ρ.g ρ.h ρ.k ρ.m) (hR : RowsAt ρ w aks) (hg : AllR (GoodR TT.open (fun e w' => e = .returned (.bool (allE ρ atoms)) ∧ Below w.heap.size w w') ρ (ksOf aks).length w) ds) (hJ : TT.J w := by exact trivial) :
    Calls P f (arr ρ (patAs 0 aks)) w fun e w' => e = .returned (.bool (allE ρ atoms)) ∧ Below w.heap.size w w' := by
  cases hgo : goF P g Γ.top (.fn f (patAs 0 aks)) { T := [], R := rowsL 0 (ksOf aks), F := F, fr := (ksOf aks).length, own := (ksOf aks).length } with
  | none => rw [hgo] at h; cases h
  | some outs =>
    rw [hgo] at h
    simp only [rdigsC] at h
    split at h
    · rename_i hW
      cases h
      rw [List.all_eq_true] at hu
      refine ((go_ok hΓ g Γ.top rfl).2.2.2.2.1 f _ _ outs (by rw [goF_eq] at hgo; exact hgo)).2 ρ w w _ (known_top _ _ _) (Sees.startR ρ _ w rfl rfl (fun p hp => ⟨(hR p hp).1, (hR p hp).2 _, fun _ _ => trivial⟩) hF ⟨hT, hJ⟩) fun o ho ρ' w' hx hs => ?_
      rw [List.all_eq_true] at hW
      have hWo : o.st.W = [] := by simpa using hW o ho
      by_cases hc : chkO D atoms o = true
      · obtain ⟨-, hv⟩ := chkO_ok hD hs.tab.1 hc hs.fact
        have e : allE ρ' atoms = allE ρ atoms := by
          unfold allE
          rw [Bool.eq_iff_iff]
          simp only [List.all_eq_true]
          exact ⟨fun hh a ha => by rw [← B_ext hx (hu a ha)]; exact hh a ha, fun hh a ha => by rw [B_ext hx (hu a ha)]; exact hh a ha⟩
        revert hv
        cases o.x <;> intro hv
        case val v => exact ⟨by rw [hv, e], hs.below hWo⟩
        case must => exact hv
        all_goals exact hv.elim
      · have hd : (⟨o.x, o.st.F, rowsOf o⟩ : RDig) ∈ ((outs.filter fun o => !chkO D atoms o).map fun o => (⟨o.x, o.st.F, rowsOf o⟩ : RDig)).eraseDups := List.mem_eraseDups.2 (List.mem_map.2 ⟨o, List.mem_filter.2 ⟨ho, by simpa using hc⟩, rfl⟩)
        refine AllR_mem hg _ hd ρ' w' hx hs.tab.1 hs.fact (hs.below hWo) fun p hp => ?_
        have hp : p ∈ o.st.R := by
          simp only [rowsOf] at hp
          split at hp
          · exact (List.mem_filter.1 hp).1
          · cases hp
        exact ⟨hs.row p hp, hs.src p hp⟩
    · cases h
def rdigsD (D : Dec) : Option (List Out) → Option (List RDig)
  | some l => if l.all (fun o => o.st.W.isEmpty) then some ((l.filter fun o => match o.x with | .must e => D o.st.F e != some true | _ => true).map fun o => ⟨o.x, o.st.F, rowsOf o⟩).eraseDups else none
  | none => none
/-- The same, told by the ends that are not decided. -/
theorem pat_callsD {D : Dec} (hD : DecOk TT D) {P : Program} {Γ : Ctx} (hΓ : ∀ q ∈ Γ.calls, CtrOk TT.open P q) (g : Nat) {f : FuncId} (aks : List AK) (F : List E) (ds : List RDig) (h : rdigsD D (goF P g Γ.top (.fn f (patAs 0 aks)) { T := [], R := rowsL 0 (ksOf aks), F := F, fr := (ksOf aks).length, own := (ksOf aks).length }) = some ds)
    (ρ : Env) (w : World) (hF : holds ρ F) (hT : TT.tab ρ.g ρ.h ρ.k ρ.m) (hR : RowsAt ρ w aks) {Q : Ending → World → Prop} (hg : AllR (GoodR TT.open Q ρ (ksOf aks).length w) ds) (hJ : TT.J w := by exact trivial) : Calls P f (arr ρ (patAs 0 aks)) w Q := by
  cases hgo : goF P g Γ.top (.fn f (patAs 0 aks)) { T := [], R := rowsL 0 (ksOf aks), F := F, fr := (ksOf aks).length, own := (ksOf aks).length } with
  | none => rw [hgo] at h; cases h
  | some outs =>
    rw [hgo] at h
    simp only [rdigsD] at h
    split at h
    · rename_i hW
      cases h
      refine ((go_ok hΓ g Γ.top rfl).2.2.2.2.1 f _ _ outs (by rw [goF_eq] at hgo; exact hgo)).2 ρ w w Q (known_top _ _ _) (Sees.startR ρ _ w rfl rfl (fun p hp => ⟨(hR p hp).1, (hR p hp).2 _, fun _ _ => trivial⟩) hF ⟨hT, hJ⟩) fun o ho ρ' w' hx hs => ?_
      rw [List.all_eq_true] at hW
      have hWo : o.st.W = [] := by simpa using hW o ho
      have fin : (match o.x with | .must e => D o.st.F e != some true | _ => true) = true → (match o.x with
          | .val v => Q (.returned (v.den ρ')) w'
          | .must e => e.B ρ' = true
          | .panic v => Q (.panicked [{ v := v.den ρ', recovered := false }]) w'
          | _ => False) := fun hk => by
        have hd : (⟨o.x, o.st.F, rowsOf o⟩ : RDig) ∈ ((outs.filter fun o => match o.x with | .must e => D o.st.F e != some true | _ => true).map fun o => (⟨o.x, o.st.F, rowsOf o⟩ : RDig)).eraseDups := List.mem_eraseDups.2 (List.mem_map.2 ⟨o, List.mem_filter.2 ⟨ho, hk⟩, rfl⟩)
        refine AllR_mem hg _ hd ρ' w' hx hs.tab.1 hs.fact (hs.below hWo) fun p hp => ?_
        have hp : p ∈ o.st.R := by
          simp only [rowsOf] at hp
          split at hp
          · exact (List.mem_filter.1 hp).1
          · cases hp
        exact ⟨hs.row p hp, hs.src p hp⟩
      cases hx' : o.x with
      | must e =>
        by_cases hdec : D o.st.F e = some true
        · exact hD _ _ _ _ hs.tab.1 hs.fact hdec
        · have := fin (by rw [hx']; simpa using hdec)
          rw [hx'] at this
          exact this
      | _ =>
        have := fin (by rw [hx'])
        rw [hx'] at this
        exact this
    · cases h

/-! ### Values -/
def V.subst (n : Nat) (R : List (Nat × Row)) (vs : List V) : V → V
  | .i k e => .i k (e.subst n (vs.map (V.asE R)))
  | .b e => .b (e.subst n (vs.map (V.asE R)))
  | .s e => .s (e.subst n (vs.map (V.asE R)))
  | .agg l => .agg (l.subst n R vs)
  | .tup l => .tup (l.subst n R vs)
  | .cons a l => .cons (a.subst n R vs) (l.subst n R vs)
  | .var k => if n ≤ k then vs.getD (k - n) undefV else .var k
  | v => v
def V.isL : V → Bool | .nil | .cons _ _ => true | _ => false
def V.simple : V → Bool
  | .i _ _ | .b _ | .s _ | .nil | .nils | .var _ => true
  | .agg l | .tup l => l.isL && l.simple
  | .cons a l => a.simple && l.isL && l.simple
  | _ => false
theorem substV (ρ : Env) (R : List (Nat × Row)) (vs : List V) : ∀ v : V, v.simple = true → (v.subst 0 R vs).den ρ = v.den (ρ.assign 0 R vs) ∧ (v.isL = true → (v.subst 0 R vs).dens ρ = v.dens (ρ.assign 0 R vs)) := by
  intro v
  induction v <;> intro h <;> simp only [V.simple, Bool.and_eq_true, reduceCtorEq] at h
  case i k e => exact ⟨by simp only [V.subst, den_i, subst_I], fun h => by cases h⟩
  case b e => exact ⟨by simp only [V.subst, den_b, subst_B], fun h => by cases h⟩
  case s e => exact ⟨by simp only [V.subst, den_s]; congr 1; exact congrArg D.s (subst_den ρ 0 R vs e), fun h => by cases h⟩
  case nils => exact ⟨rfl, fun h => by cases h⟩
  case nil => exact ⟨rfl, fun _ => rfl⟩
  case agg l ih => exact ⟨by simp only [V.subst, den_agg, (ih h.2).2 h.1], fun h => by cases h⟩
  case tup l ih => exact ⟨by simp only [V.subst, den_tup, (ih h.2).2 h.1], fun h => by cases h⟩
  case cons a l iha ihl => exact ⟨rfl, fun _ => by simp only [V.subst, dens_cons, (iha h.1.1).1, (ihl h.2).2 h.1.2]⟩
  case var k =>
    have e : V.subst 0 R vs (.var k) = vs.getD k undefV := by simp [V.subst]
    rw [e]
    exact ⟨by simp [Env.assign, den_var], fun h => by cases h⟩

/-- A function that yields one value: what is asked, what it yields, what is known then. -/
def ctrVal (f : FuncId) (aks : List AK) (F : List E) (v : V) (facts : List E) : Ctr :=
  ⟨f, fun args σ => match flatAs σ.R aks args with
    | some vs => let need := F.map (E.subst 0 (vs.map (V.asE σ.R)))
      some (musts σ need ++ [⟨.val (v.subst 0 σ.R vs), { σ with F := facts.map (E.subst 0 (vs.map (V.asE σ.R))) ++ news σ.F need ++ σ.F }⟩])
    | none => none⟩
theorem ctrVal_ok {P : Program} {f : FuncId} {aks : List AK} {F facts : List E} {v : V} (hv : v.simple = true)
    (h : ∀ ρ w, holds ρ F → TT.tab ρ.g ρ.h ρ.k ρ.m → RowsAt ρ w aks → Calls P f (arr ρ (patAs 0 aks)) w fun e w' => (e = .returned (v.den ρ) ∧ ∀ e ∈ facts, e.B ρ = true) ∧ Below w.heap.size w w') : CtrOk TT P (ctrVal f aks F v facts) := by
  intro args σ outs hr hok ha ρ w0 w R hs hg
  simp only [ctrVal] at hr
  split at hr
  case h_2 => cases hr
  rename_i vs hvX
  cases hr
  have hn := need_of hs hg
  have hn' : holds (ρ.assign 0 σ.R vs) F := fun e he => by rw [← subst_B]; exact hn _ (List.mem_map.2 ⟨e, he, rfl⟩)
  have hc := h (ρ.assign 0 σ.R vs) w hn' hs.tab.1 (rowsAt_of (fun x r hf => hs.row _ (findR_mem hf)) hvX)
  rw [flat_arr ρ hvX] at hc
  refine hc.mono fun e w' ⟨⟨he, hf⟩, hb⟩ => ?_
  subst he
  have := hg ⟨.val (v.subst 0 σ.R vs), _⟩ (List.mem_append.2 (.inr List.mem_cons_self)) ρ w' (Ext.refl _ _) ((hs.step hb).withF fun e he => by
    rcases List.mem_append.1 he with he | he
    · rcases List.mem_append.1 he with he | he
      · obtain ⟨a, ha', rfl⟩ := List.mem_map.1 he
        rw [subst_B]
        exact hf a ha'
      · exact hn e (List.mem_filter.1 he).1
    · exact hs.fact e he)
  simp only [(substV ρ σ.R vs v hv).1] at this
  exact this
/-- Is the only value that a call yields this one, and is all that is to be shown decided? -/
def chkV (D : Dec) (v : V) (o : Out) : Bool := o.st.W.isEmpty && match o.x with
  | .val u => u == v
  | .must e => D o.st.F e == some true
  | _ => false
def chkVal (P : Program) (Γ : Ctx) (gas : Nat) (f : FuncId) (aks : List AK) (F : List E) (v : V) (D : Dec := decideB) : Bool :=
  v.under (ksOf aks).length &&
  match goF P gas Γ.top (.fn f (patAs 0 aks)) { T := [], R := rowsL 0 (ksOf aks), F := F, fr := (ksOf aks).length, own := (ksOf aks).length } with
  | some l => l.all (chkV D v)
  | none => false
theorem val_callsD {D : Dec} (hD : DecOk TT D) {P : Program} {Γ : Ctx} (hΓ : ∀ q ∈ Γ.calls, CtrOk TT.open P q) {gas : Nat} {f : FuncId} {aks : List AK} {F : List E} {v : V} (h : chkVal P Γ gas f aks F v D = true) (ρ : Env) (w : World)
    (hF : holds ρ F) (hT : TT.tab ρ.g ρ.h ρ.k ρ.m) (hR : RowsAt ρ w aks) (hJ : TT.J w := by exact trivial) : Calls P f (arr ρ (patAs 0 aks)) w fun e w' => e = .returned (v.den ρ) ∧ Below w.heap.size w w' := by
  unfold chkVal at h
  simp only [Bool.and_eq_true] at h
  obtain ⟨hu, h⟩ := h
  split at h
  case h_2 => cases h
  rename_i outs hgo
  rw [List.all_eq_true] at h
  refine ((go_ok hΓ gas Γ.top rfl).2.2.2.2.1 f _ _ outs (by rw [goF_eq] at hgo; exact hgo)).2 ρ w w _ (known_top _ _ _) (Sees.startR ρ _ w rfl rfl (fun p hp => ⟨(hR p hp).1, (hR p hp).2 _, fun _ _ => trivial⟩) hF ⟨hT, hJ⟩) fun o ho ρ' w' hx hs => ?_
  have hv := h o ho
  unfold chkV at hv
  simp only [Bool.and_eq_true, List.isEmpty_iff] at hv
  obtain ⟨hW, hv⟩ := hv
  revert hv
  cases o.x <;> intro hv <;> simp only [beq_iff_eq, Bool.false_eq_true] at hv
  case val u => subst hv; exact ⟨by rw [den_extV hx hu], hs.below hW⟩
  case must => exact hD _ _ _ _ hs.tab.1 hs.fact hv
theorem val_calls {P : Program} {Γ : Ctx} (hΓ : ∀ q ∈ Γ.calls, CtrOk TT.open P q) {gas : Nat} {f : FuncId} {aks : List AK} {F : List E} {v : V} (h : chkVal P Γ gas f aks F v = true) (ρ : Env) (w : World)
    (hF : holds ρ F) (hT : TT.tab ρ.g ρ.h ρ.k ρ.m) (hR : RowsAt ρ w aks) (hJ : TT.J w := by exact trivial) : Calls P f (arr ρ (patAs 0 aks)) w fun e w' => e = .returned (v.den ρ) ∧ Below w.heap.size w w' := val_callsD decB_ok hΓ h ρ w hF hT hR hJ
theorem auto_val {P : Program} {Γ : Ctx} (hΓ : ∀ q ∈ Γ.calls, CtrOk TT.open P q) (gas : Nat) {f : FuncId} {aks : List AK} {F : List E} {v : V} (hv : v.simple = true) (h : chkVal P Γ gas f aks F v = true) (hJ : ∀ w, TT.J w := by exact fun _ => trivial) : CtrOk TT P (ctrVal f aks F v []) :=
  ctrVal_ok hv fun ρ w hF hT hR => (val_calls hΓ h ρ w hF hT hR (hJ w)).mono fun e w' ⟨h1, h2⟩ => ⟨⟨h1, fun _ h => by cases h⟩, h2⟩

/-! ### Cases -/
/-- A function that yields one of some values: each with what is known then. -/
def ctrCases (f : FuncId) (aks : List AK) (F : List E) (cases : List (V × List E)) : Ctr :=
  ⟨f, fun args σ => match flatAs σ.R aks args with
    | some vs =>
      let need := F.map (E.subst 0 (vs.map (V.asE σ.R)))
      let G := news σ.F need ++ σ.F
      some (musts σ need ++ ((cases.map fun c => (c.1.subst 0 σ.R vs, c.2.map (E.subst 0 (vs.map (V.asE σ.R))))).filter fun c => !c.2.any fun a => decideB G a == some false).map fun c =>
        ⟨.val c.1, { σ with F := (c.2.flatMap fun a => fact a true) ++ G }⟩)
    | none => none⟩
def CasesAt (P : Program) (f : FuncId) (aks : List AK) (cases : List (V × List E)) (ρ : Env) (w : World) : Prop :=
  Calls P f (arr ρ (patAs 0 aks)) w fun e w' => (∃ c ∈ cases, e = .returned (c.1.den ρ) ∧ ∀ a ∈ c.2, a.B ρ = true) ∧ Below w.heap.size w w'
theorem ctrCases_ok {P : Program} {f : FuncId} {aks : List AK} {F : List E} {cases : List (V × List E)} (hv : cases.all (fun c => c.1.simple) = true)
    (h : ∀ ρ w, holds ρ F → TT.tab ρ.g ρ.h ρ.k ρ.m → RowsAt ρ w aks → CasesAt P f aks cases ρ w) : CtrOk TT P (ctrCases f aks F cases) := by
  intro args σ outs hr hok ha ρ w0 w R hs hg
  simp only [ctrCases] at hr
  split at hr
  case h_2 => cases hr
  rename_i vs hvX
  cases hr
  have hn := need_of hs hg
  have hn' : holds (ρ.assign 0 σ.R vs) F := fun e he => by rw [← subst_B]; exact hn _ (List.mem_map.2 ⟨e, he, rfl⟩)
  have hc := h (ρ.assign 0 σ.R vs) w hn' hs.tab.1 (rowsAt_of (fun x r hf => hs.row _ (findR_mem hf)) hvX)
  unfold CasesAt at hc
  rw [flat_arr ρ hvX] at hc
  have hG := news_holds hs.fact hn
  refine hc.mono fun e w' ⟨⟨c, hcm, he, hf⟩, hb⟩ => ?_
  subst he
  have hfa : ∀ a ∈ c.2.map (E.subst 0 (vs.map (V.asE σ.R))), a.B ρ = true := fun a ha' => by
    obtain ⟨b, hb', rfl⟩ := List.mem_map.1 ha'
    rw [subst_B]
    exact hf b hb'
  have hmem : (c.1.subst 0 σ.R vs, c.2.map (E.subst 0 (vs.map (V.asE σ.R)))) ∈ ((cases.map fun c => (c.1.subst 0 σ.R vs, c.2.map (E.subst 0 (vs.map (V.asE σ.R))))).filter fun c => !c.2.any fun a => decideB (news σ.F (F.map (E.subst 0 (vs.map (V.asE σ.R)))) ++ σ.F) a == some false) := by
    refine List.mem_filter.2 ⟨List.mem_map.2 ⟨c, hcm, rfl⟩, ?_⟩
    simp only [Bool.not_eq_true', List.any_eq_false, beq_iff_eq]
    intro a ha' hd
    have := decideB_ok hG hd
    rw [hfa a ha'] at this
    cases this
  have := hg _ (List.mem_append.2 (.inr (List.mem_map.2 ⟨_, hmem, rfl⟩))) ρ w' (Ext.refl _ _) ((hs.step hb).withF fun e he => by
    rcases List.mem_append.1 he with he | he
    · obtain ⟨a, ha', he⟩ := List.mem_flatMap.1 he
      exact fact_ok (hfa a ha') e he
    · exact hG e he)
  simp only [(substV ρ σ.R vs c.1 (List.all_eq_true.1 hv c hcm)).1] at this
  exact this
/-- What the rows of a call's arguments are. -/
theorem row_facts {ρ : Env} {w : World} {aks : List AK} (hR : RowsAt ρ w aks) {k : Nat} {kds : List Kd} (hk : (k, rowL k kds) ∈ rowsL 0 (ksOf aks)) : 0 ≤ ρ.i k ∧ (ρ.l k).length = (ρ.i k).toNat * kds.length := by
  obtain ⟨h1, h2⟩ := hR _ hk
  have h := h2 0
  have hl := at_len h
  simp only [rowL, I_v, L_lv] at hl
  exact hl
end Go.Proofs.Ytmbhjfembfidnaa.Sx
end
section
namespace Go.Proofs.Ytmbhjfembfidnaa.Sx
open Go Go.RowKit
variable {TT : Tb}

/-! what is linear, with lengths of strings -/
def linT2 : E → Bool | .c _ | .v _ | .len _ | .app _ _ => true | .add a b | .sub a b => linT2 a && linT2 b | .mul a (.c _) => linT2 a | _ => false
/-- Is a fact linear in names? -/
def linF2 : E → Bool | .le a b | .lt a b | .eq a b => linT2 a && linT2 b | .not a => linF2 a | _ => false
def linPos2 (F0 : List E) (L : Lin) : Bool := let F := F0.filter linF2; let G := F.flatMap factLin; linBy (G ++ F.flatMap (neLin G)) L
theorem linPos2_ok {ρ : Env} {F0 : List E} (hF0 : holds ρ F0) {L : Lin} (h : linPos2 F0 L = true) : 0 ≤ L.ev ρ := by
  have hF : holds ρ (F0.filter linF2) := fun f hf => hF0 f (List.mem_filter.1 hf).1
  unfold linPos2 at h
  generalize F0.filter linF2 = F at hF h
  have hG : ∀ M ∈ F.flatMap factLin, 0 ≤ M.ev ρ := fun M hM => by
    obtain ⟨f, hf, hM⟩ := List.mem_flatMap.1 hM
    exact factLin_ok (hF f hf) M hM
  refine linBy_ok (fun M hM => ?_) h
  rcases List.mem_append.1 hM with hM | hM
  · exact hG M hM
  · obtain ⟨f, hf, hM⟩ := List.mem_flatMap.1 hM
    exact neLin_ok hG (hF f hf) M hM
def decideL2 (D : Dec) : Dec := fun F e => match D F e with
  | some r => some r
  | none => match e with
    | .le a b => if linPos2 F (lin b 1 (lin a (-1) {})) then some true else if linPos2 F (lin a 1 (lin b (-1) { c := -1 })) then some false else none
    | .lt a b => if linPos2 F (lin b 1 (lin a (-1) { c := -1 })) then some true else if linPos2 F (lin a 1 (lin b (-1) {})) then some false else none
    | .eq a b => if linPos2 F (lin b 1 (lin a (-1) {})) && linPos2 F (lin a 1 (lin b (-1) {})) then some true else none
    | _ => none
theorem decideL2_ok {D : Dec} (hD : DecOk TT D) : DecOk TT (decideL2 D) := fun ρ F e r hT hF h => by
  have z : ({} : Lin).ev ρ = 0 := rfl
  have z1 : ({ c := -1 } : Lin).ev ρ = -1 := rfl
  unfold decideL2 at h
  split at h
  · rename_i hd
    cases h
    exact hD _ _ _ _ hT hF hd
  · split at h
    · rename_i a b _
      split at h
      · rename_i hp; cases h; have := linPos2_ok hF hp; simp only [lin_ev, z] at this; simp; omega
      · split at h
        · rename_i hp; cases h; have := linPos2_ok hF hp; simp only [lin_ev, z1] at this; simp; omega
        · cases h
    · rename_i a b _
      split at h
      · rename_i hp; cases h; have := linPos2_ok hF hp; simp only [lin_ev, z1] at this; simp; omega
      · split at h
        · rename_i hp; cases h; have := linPos2_ok hF hp; simp only [lin_ev, z] at this; simp; omega
        · cases h
    · rename_i a b _
      split at h
      · rename_i hp
        cases h
        simp only [Bool.and_eq_true] at hp
        have h1 := linPos2_ok hF hp.1; have h2 := linPos2_ok hF hp.2
        simp only [lin_ev, z] at h1 h2
        simp; omega
      · cases h
    · cases h

/-- Conjunctions, and what is not one. -/
def decideN (D : Dec) : Dec := fun F e => match D F e with
  | some r => some r
  | none => match e with
    | .and a b => if notAll F (leavesE (.and a b)) then some false else if (leavesE (.and a b)).all fun x => D F x == some true then some true else none
    | .not (.and a b) => if notAll F (leavesE (.and a b)) then some true else if (leavesE (.and a b)).all fun x => D F x == some true then some false else none
    | .not a => (D F a).map (!·)
    | _ => none
theorem decideN_ok {D : Dec} (hD : DecOk TT D) : DecOk TT (decideN D) := fun ρ F e r hT hF h => by
  have key : ∀ a b, (leavesE (.and a b)).all (fun x => D F x == some true) = true → (E.and a b).B ρ = true := fun a b hall => by
    rw [← leavesE_B, allE, List.all_eq_true]
    simp only [List.all_eq_true, beq_iff_eq] at hall
    exact fun x hx => hD _ _ _ _ hT hF (hall x hx)
  unfold decideN at h
  split at h
  · rename_i hd
    cases h
    exact hD _ _ _ _ hT hF hd
  · split at h
    · rename_i a b _
      split at h
      · rename_i hn; cases h; rw [← leavesE_B]; exact notAll_ok hF hn
      · split at h
        · rename_i hall; cases h; exact key a b hall
        · cases h
    · rename_i a b _
      split at h
      · rename_i hn; cases h; rw [B_not, ← leavesE_B, notAll_ok hF hn]; rfl
      · split at h
        · rename_i hall; cases h; rw [B_not, key a b hall]; rfl
        · cases h
    · rename_i a _ _
      rw [Option.map_eq_some_iff] at h
      obtain ⟨q, hq, rfl⟩ := h
      rw [B_not, hD _ _ _ _ hT hF hq]
    · cases h
/-- Is a path's end one of the cases? -/
def chkC (D : Dec) (cases : List (V × List E)) (o : Out) : Bool := o.st.W.isEmpty && match o.x with
  | .val u => cases.any fun c => u == c.1 && c.2.all fun a => D o.st.F a == some true
  | .must e => D o.st.F e == some true
  | _ => false
def chkCases (P : Program) (Γ : Ctx) (gas : Nat) (f : FuncId) (aks : List AK) (F : List E) (cases : List (V × List E)) (D : Dec := decideB) : Bool :=
  cases.all (fun c => c.1.under (ksOf aks).length && c.2.all (E.under (ksOf aks).length)) &&
  match goF P gas Γ.top (.fn f (patAs 0 aks)) { T := [], R := rowsL 0 (ksOf aks), F := F, fr := (ksOf aks).length, own := (ksOf aks).length } with
  | some l => l.all (chkC D cases)
  | none => false
theorem cases_calls {D : Dec} (hD : DecOk TT D) {P : Program} {Γ : Ctx} (hΓ : ∀ q ∈ Γ.calls, CtrOk TT.open P q) {gas : Nat} {f : FuncId} {aks : List AK} {F : List E} {cases : List (V × List E)} (h : chkCases P Γ gas f aks F cases D = true) (ρ : Env) (w : World)
    (hF : holds ρ F) (hT : TT.tab ρ.g ρ.h ρ.k ρ.m) (hR : RowsAt ρ w aks) (hJ : TT.J w := by exact trivial) : CasesAt P f aks cases ρ w := by
  unfold chkCases at h
  simp only [Bool.and_eq_true] at h
  obtain ⟨hu, h⟩ := h
  split at h
  case h_2 => cases h
  rename_i outs hgo
  rw [List.all_eq_true] at h hu
  refine ((go_ok hΓ gas Γ.top rfl).2.2.2.2.1 f _ _ outs (by rw [goF_eq] at hgo; exact hgo)).2 ρ w w _ (known_top _ _ _) (Sees.startR ρ _ w rfl rfl (fun p hp => ⟨(hR p hp).1, (hR p hp).2 _, fun _ _ => trivial⟩) hF ⟨hT, hJ⟩) fun o ho ρ' w' hx hs => ?_
  have hv := h o ho
  unfold chkC at hv
  simp only [Bool.and_eq_true, List.isEmpty_iff] at hv
  obtain ⟨hW, hv⟩ := hv
  revert hv
  cases o.x <;> intro hv <;> simp only [beq_iff_eq, Bool.false_eq_true] at hv
  case val v =>
    rw [List.any_eq_true] at hv
    obtain ⟨c, hc, hv⟩ := hv
    simp only [Bool.and_eq_true, beq_iff_eq, List.all_eq_true] at hv
    obtain ⟨rfl, hv⟩ := hv
    have huc := hu c hc
    simp only [Bool.and_eq_true, List.all_eq_true] at huc
    exact ⟨⟨c, hc, by rw [den_extV hx huc.1], fun a ha => by rw [← B_ext hx (huc.2 a ha)]; exact hD _ _ _ _ hs.tab.1 hs.fact (hv a ha)⟩, hs.below hW⟩
  case must => exact hD _ _ _ _ hs.tab.1 hs.fact hv
def rdigsX (D : Dec) (cases : List (V × List E)) : Option (List Out) → Option (List RDig)
  | some l => if l.all (fun o => o.st.W.isEmpty) then some ((l.filter fun o => !chkC D cases o).map fun o => ⟨o.x, o.st.F, rowsOf o⟩).eraseDups else none
  | none => none
/-- Cases, told by the ends that are not decided. -/
theorem cases_rest {D : Dec} (hD : DecOk TT D) {P : Program} {Γ : Ctx} (hΓ : ∀ q ∈ Γ.calls, CtrOk TT.open P q) (g : Nat) {f : FuncId} (aks : List AK) (F : List E) (cases : List (V × List E)) (hu : cases.all (fun c => c.1.under (ksOf aks).length && c.2.all (E.under (ksOf aks).length)) = true) (ds : List RDig) (h : rdigsX D cases (goF P g Γ.top (.fn f (patAs 0 aks)) { T := [], R := rowsL 0 (ksOf aks), F := F, fr := (ksOf aks).length, own := (ksOf aks).length }) = some ds)
    (ρ : Env) (w : World) (hF : holds ρ F) (hT : TT.tab ρ.g ρ.h ρ.k ρ.m) (hR : RowsAt ρ w aks) (hg : AllR (GoodR TT.open (fun e w' => (∃ c ∈ cases, e = .returned (c.1.den ρ) ∧ ∀ a ∈ c.2, a.B ρ = true) ∧ Below w.heap.size w w') ρ (ksOf aks).length w) ds) (hJ : TT.J w := by exact trivial) : CasesAt P f aks cases ρ w := by
  unfold CasesAt
  cases hgo : goF P g Γ.top (.fn f (patAs 0 aks)) { T := [], R := rowsL 0 (ksOf aks), F := F, fr := (ksOf aks).length, own := (ksOf aks).length } with
  | none => rw [hgo] at h; cases h
  | some outs =>
    rw [hgo] at h
    simp only [rdigsX] at h
    split at h
    · rename_i hW
      cases h
      rw [List.all_eq_true] at hu
      refine ((go_ok hΓ g Γ.top rfl).2.2.2.2.1 f _ _ outs (by rw [goF_eq] at hgo; exact hgo)).2 ρ w w _ (known_top _ _ _) (Sees.startR ρ _ w rfl rfl (fun p hp => ⟨(hR p hp).1, (hR p hp).2 _, fun _ _ => trivial⟩) hF ⟨hT, hJ⟩) fun o ho ρ' w' hx hs => ?_
      rw [List.all_eq_true] at hW
      have hWo : o.st.W = [] := by simpa using hW o ho
      by_cases hc : chkC D cases o = true
      · unfold chkC at hc
        simp only [Bool.and_eq_true, List.isEmpty_iff] at hc
        obtain ⟨-, hv⟩ := hc
        revert hv
        cases o.x <;> intro hv <;> simp only [beq_iff_eq, Bool.false_eq_true] at hv
        case val v =>
          rw [List.any_eq_true] at hv
          obtain ⟨c, hc, hv⟩ := hv
          simp only [Bool.and_eq_true, beq_iff_eq, List.all_eq_true] at hv
          obtain ⟨rfl, hv⟩ := hv
          have huc := hu c hc
          simp only [Bool.and_eq_true, List.all_eq_true] at huc
          exact ⟨⟨c, hc, by rw [den_extV hx huc.1], fun a ha => by rw [← B_ext hx (huc.2 a ha)]; exact hD _ _ _ _ hs.tab.1 hs.fact (hv a ha)⟩, hs.below hWo⟩
        case must => exact hD _ _ _ _ hs.tab.1 hs.fact hv
      · have hd : (⟨o.x, o.st.F, rowsOf o⟩ : RDig) ∈ ((outs.filter fun o => !chkC D cases o).map fun o => (⟨o.x, o.st.F, rowsOf o⟩ : RDig)).eraseDups := List.mem_eraseDups.2 (List.mem_map.2 ⟨o, List.mem_filter.2 ⟨ho, by simpa using hc⟩, rfl⟩)
        refine AllR_mem hg _ hd ρ' w' hx hs.tab.1 hs.fact (hs.below hWo) fun p hp => ?_
        have hp : p ∈ o.st.R := by
          simp only [rowsOf] at hp
          split at hp
          · exact (List.mem_filter.1 hp).1
          · cases hp
        exact ⟨hs.row p hp, hs.src p hp⟩
    · cases h

/-! ### Ends that cannot be -/
def contra (F : List E) : Bool := F.any fun f => match f with | .not t => decideB F t == some true | _ => false
theorem contra_ok {ρ : Env} {F : List E} (h : contra F = true) : ¬ holds ρ F := fun hF => by
  unfold contra at h
  rw [List.any_eq_true] at h
  obtain ⟨f, hf, h⟩ := h
  split at h
  · rename_i t
    have h1 := hF _ hf
    have h2 := decideB_ok hF (by simpa using h)
    rw [B_not, h2] at h1
    cases h1
  · cases h
def rdigsV (D : Dec) (v : V) : Option (List Out) → Option (List RDig)
  | some l => if l.all (fun o => o.st.W.isEmpty) then some ((l.filter fun o => !(contra o.st.F || chkV D v o)).map fun o => ⟨o.x, o.st.F, rowsOf o⟩).eraseDups else none
  | none => none
/-- **ONE VALUE**, told by the ends that are not decided. -/
theorem val_rest {D : Dec} (hD : DecOk TT D) {P : Program} {Γ : Ctx} (hΓ : ∀ q ∈ Γ.calls, CtrOk TT.open P q) (g : Nat) {f : FuncId} (aks : List AK) (F : List E) (v : V) (hu : v.under (ksOf aks).length = true) (ds : List RDig) (h : rdigsV D v (goF P g Γ.top (.fn f (patAs 0 aks)) { T := [], R := rowsL 0 (ksOf aks), F := F, fr := (ksOf aks).length, own := (ksOf aks).length }) = some ds)
    (ρ : Env) (w : World) (hF : holds ρ F) (hT : TT.tab ρ.g ρ.h ρ.k ρ.m) (hR : RowsAt ρ w aks) (hg : AllR (GoodR TT.open (fun e w' => e = .returned (v.den ρ) ∧ Below w.heap.size w w') ρ (ksOf aks).length w) ds) (hJ : TT.J w := by exact trivial) :
    Calls P f (arr ρ (patAs 0 aks)) w fun e w' => e = .returned (v.den ρ) ∧ Below w.heap.size w w' := by
  cases hgo : goF P g Γ.top (.fn f (patAs 0 aks)) { T := [], R := rowsL 0 (ksOf aks), F := F, fr := (ksOf aks).length, own := (ksOf aks).length } with
  | none => rw [hgo] at h; cases h
  | some outs =>
    rw [hgo] at h
    simp only [rdigsV] at h
    split at h
    · rename_i hW
      cases h
      refine ((go_ok hΓ g Γ.top rfl).2.2.2.2.1 f _ _ outs (by rw [goF_eq] at hgo; exact hgo)).2 ρ w w _ (known_top _ _ _) (Sees.startR ρ _ w rfl rfl (fun p hp => ⟨(hR p hp).1, (hR p hp).2 _, fun _ _ => trivial⟩) hF ⟨hT, hJ⟩) fun o ho ρ' w' hx hs => ?_
      rw [List.all_eq_true] at hW
      have hWo : o.st.W = [] := by simpa using hW o ho
      by_cases hc0 : contra o.st.F = true
      · exact absurd hs.fact (contra_ok hc0)
      · by_cases hc : chkV D v o = true
        · unfold chkV at hc
          simp only [Bool.and_eq_true, List.isEmpty_iff] at hc
          obtain ⟨-, hv⟩ := hc
          revert hv
          cases o.x <;> intro hv <;> simp only [beq_iff_eq, Bool.false_eq_true] at hv
          case val u => subst hv; exact ⟨by rw [den_extV hx hu], hs.below hWo⟩
          case must => exact hD _ _ _ _ hs.tab.1 hs.fact hv
        · have hd : (⟨o.x, o.st.F, rowsOf o⟩ : RDig) ∈ ((outs.filter fun o => !(contra o.st.F || chkV D v o)).map fun o => (⟨o.x, o.st.F, rowsOf o⟩ : RDig)).eraseDups := List.mem_eraseDups.2 (List.mem_map.2 ⟨o, List.mem_filter.2 ⟨ho, by simp [hc0, hc]⟩, rfl⟩)
          refine AllR_mem hg _ hd ρ' w' hx hs.tab.1 hs.fact (hs.below hWo) fun p hp => ?_
          have hp : p ∈ o.st.R := by
            simp only [rowsOf] at hp
            split at hp
            · exact (List.mem_filter.1 hp).1
            · cases hp
          exact ⟨hs.row p hp, hs.src p hp⟩
    · cases h
end Go.Proofs.Ytmbhjfembfidnaa.Sx
end
section
namespace Go.Proofs.Ytmbhjfembfidnaa.Un
open Go Go.Proofs.Ytmbhjfembfidnaa.Sx

def s0 (l : LL) : ByteArray := ((l[0]?).map Prod.snd).getD ⟨#[]⟩
def b2 (p : Prop) [Decidable p] : Bool := decide p
def timeB (t : Int) : Bool := decide (0 ≤ t ∧ t ≤ 1073741824)
/-! names -/
def letterB (b : Nat) : Bool := decide (97 ≤ b ∧ b ≤ 122)
def nameByte (b : Nat) : Bool := letterB b || decide (48 ≤ b ∧ b ≤ 57) || decide (b = 45)
def nameB (s : ByteArray) : Bool := decide (1 ≤ s.size) && decide (s.size ≤ 32) && letterB ((s.data.toList.getD 0 0).toNat) && s.data.toList.all fun b => nameByte b.toNat

/-! what is asked of numbers, as atoms -/
def btw (lo : Int) (k : Nat) (hi : Int) : List E := [.le (.c lo) (.v k), .le (.v k) (.c hi)]
def spotA (k : Nat) : List E := btw (-16777216) k 16777216 ++ btw (-16777216) (k + 1) 16777216
def timeA (k : Nat) : List E := btw 0 k 1073741824
def legA : List E := spotA 0 ++ spotA 2 ++ timeA 4 ++ timeA 5 ++ timeA 6 ++ [.le (.v 4) (.v 5), .le (.v 5) (.v 6), .or (.lt (.v 4) (.v 5)) (.and (.eq (.v 0) (.v 2)) (.eq (.v 1) (.v 3)))] ++ btw 0 7 1073741824
def frontA : List E := timeA 0 ++ timeA 1 ++ [.le (.v 0) (.v 1)] ++ spotA 2 ++ spotA 4 ++ [.le (.v 2) (.v 4), .le (.v 3) (.v 5)] ++ btw 0 6 100 ++ btw 0 7 100
def wayA : List E := spotA 0 ++ timeA 2
/-- the numbers of the element k of a row whose elements have s numbers. -/
def envAt (s : Int) (l : LL) (k : Int) : Env :=
  { i := fun m => nI l (s * k + m), b := fun _ => false, s := fun _ => ⟨#[]⟩, v := fun _ => undef, n := fun _ => 0, g := noG, h := noH, k := noK, l := fun _ => [], m := fun _ _ => [] }
def atB (s : Int) (atoms : List E) (l : LL) (k : Int) : Bool := allE (envAt s l k) atoms
def unitA : List E := [.happ 0 (.cons (.sv 0) .nil)] ++ btw 1 1 1000000 ++ btw 0 2 1073741824 ++ btw 0 3 1048576 ++ [.le (.c 0) (.v 4), .le (.v 4) (.v 2)] ++ timeA 5 ++ btw 0 6 100 ++ btw 0 7 100 ++ spotA 8 ++ btw 0 10 100000 ++ btw 0 11 100

def contB (l : LL) (k : Int) : Bool := decide (k = 0) ||
  decide (nI l (8 * k) = nI l (8 * (k - 1) + 2)) && decide (nI l (8 * k + 1) = nI l (8 * (k - 1) + 3)) && decide (nI l (8 * k + 4) = nI l (8 * (k - 1) + 6))
def legB : LL → Int → Bool := atB 8 legA
def legsB (n : Int) (l : LL) : Bool := decide (0 < n) && allTo n (legB l) && allTo n (contB l)
/-! where a unit is: a leg's eight numbers, and a time -/
def plx (lo : Bool) (a b st ar t : Int) : Int := if ar ≤ t then b else if lo then a + rdn ((b - a) * (t - st)) (ar - st) else a + rup ((b - a) * (t - st)) (ar - st)
/-- the first of the first n legs that is not over before a time; -1: none. -/
def firstB (p : Int → Bool) : Nat → Nat → Int
  | 0, _ => -1
  | n + 1, k => if p k then k else firstB p n (k + 1)
def legIx (n t : Int) (l : LL) : Int := if t < nI l 4 then -1 else firstB (fun k => decide (t ≤ nI l (8 * k + 6))) n.toNat 0
def leftF (fuel burn lv t : Int) : Int := fuel + rdn (burn * (lv - t)) 3600

/-! boxes -/
def meetB (a b c d : Int) : Bool := decide (max a c ≤ min b d)
def clashB (a : LL) (i : Int) (b : LL) (k : Int) : Bool :=
  decide (nI a (7 * i + 6) = nI b (7 * k + 6)) && meetB (nI a (7 * i + 4)) (nI a (7 * i + 5)) (nI b (7 * k + 4)) (nI b (7 * k + 5)) &&
  meetB (nI a (7 * i)) (nI a (7 * i + 2)) (nI b (7 * k)) (nI b (7 * k + 2)) && meetB (nI a (7 * i + 1)) (nI a (7 * i + 3)) (nI b (7 * k + 1)) (nI b (7 * k + 3))

/-- the first boxes that have something in common: of n, of m. -/
def clashI (n m : Int) (a b : LL) : Int := firstB (fun i => !allTo m fun k => !clashB a i b k) n.toNat 0
def clashK (n m : Int) (a b : LL) : Int := if clashI n m a b = -1 then -1 else firstB (fun k => clashB a (clashI n m a b) b k) m.toNat 0
theorem firstB_from (p : Int → Bool) : ∀ (n a : Nat), (firstB p n a = -1 ∧ ∀ k : Int, a ≤ k → k < a + n → p k = false) ∨ ((a : Int) ≤ firstB p n a ∧ firstB p n a < a + n ∧ p (firstB p n a) = true ∧ ∀ k : Int, a ≤ k → k < firstB p n a → p k = false)
  | 0, a => .inl ⟨rfl, fun k h1 h2 => by omega⟩
  | n + 1, a => by
    unfold firstB
    cases h : p a with
    | true => right; simp only [if_true]; exact ⟨Int.le_refl _, by omega, h, fun k h1 h2 => by omega⟩
    | false =>
      simp only [Bool.false_eq_true, if_false]
      rcases firstB_from p n (a + 1) with ⟨h1, h2⟩ | ⟨h1, h2, h3, h4⟩
      · left
        refine ⟨h1, fun k hk1 hk2 => ?_⟩
        rcases Int.lt_or_le (a : Int) k with hlt | hle
        · exact h2 k (by omega) (by omega)
        · rw [show k = a from by omega]; exact h
      · right
        refine ⟨by omega, by omega, h3, fun k hk1 hk2 => ?_⟩
        rcases Int.lt_or_le (a : Int) k with hlt | hle
        · exact h4 k (by omega) hk2
        · rw [show k = a from by omega]; exact h
theorem firstB_is {p : Int → Bool} {n : Int} {k : Int} (h0 : 0 ≤ k) (hk : k < n) (hp : p k = true) (hq : allTo k (fun j => !p j) = true) : firstB p n.toNat 0 = k := by
  rcases firstB_from p n.toNat 0 with ⟨h1, h2⟩ | ⟨h1, h2, h3, h4⟩
  · rw [h2 k (by omega) (by omega)] at hp; cases hp
  · rcases Int.lt_trichotomy (firstB p n.toNat 0) k with h | h | h
    · have := allTo_at hq (k := firstB p n.toNat 0) (by omega) h
      rw [h3] at this; cases this
    · exact h
    · rw [h4 k (by omega) h] at hp; cases hp
theorem firstB_none {p : Int → Bool} {n : Int} (hq : allTo n (fun j => !p j) = true) : firstB p n.toNat 0 = -1 := by
  rcases firstB_from p n.toNat 0 with ⟨h1, h2⟩ | ⟨h1, h2, h3, h4⟩
  · exact h1
  · have := allTo_at hq (k := firstB p n.toNat 0) (by omega) (by omega)
    rw [h3] at this; cases this
/-! weather -/
/-- does the weather k concern a way? -/
def concB (sky : LL) (k fx fy tx ty st lv : Int) : Bool :=
  meetB (nI sky (8 * k)) (nI sky (8 * k + 1)) st lv && meetB (nI sky (8 * k + 2)) (nI sky (8 * k + 4)) (min fx tx) (max fx tx) && meetB (nI sky (8 * k + 3)) (nI sky (8 * k + 5)) (min fy ty) (max fy ty)
def calmB (sky : LL) (k sea wind : Int) : Bool := decide (nI sky (8 * k + 6) ≤ sea) && decide (nI sky (8 * k + 7) ≤ wind)
/-- a list of sea, wind, two ways (from, to, start, leave), and weather. -/
def okSky (l : LL) (k : Int) : Bool := calmB (l.drop 14) k (nI l 0) (nI l 1) ||
  (!concB (l.drop 14) k (nI l 2) (nI l 3) (nI l 4) (nI l 5) (nI l 6) (nI l 7) && !concB (l.drop 14) k (nI l 8) (nI l 9) (nI l 10) (nI l 11) (nI l 12) (nI l 13))
def okOne (l : LL) (k : Int) : Bool := calmB (l.drop 8) k (nI l 0) (nI l 1) || !concB (l.drop 8) k (nI l 2) (nI l 3) (nI l 4) (nI l 5) (nI l 6) (nI l 7)

/-! plans: a list of speed, burn, reserve, hours, sea, wind, base, since, place, time, fuel, how much weather, how many ways; the weather; the ways -/
def pSky (l : LL) : LL := (l.drop 15).take (8 * nI l 13).toNat
def pWays (l : LL) : LL := (l.drop 15).drop (8 * nI l 13).toNat
structure At where
  x : Int
  y : Int
  t : Int
  f : Int
def wayTo (l : LL) (a : At) (k : Int) : Int := timeF (nI l 0) a.x a.y (nI (pWays l) (3 * k)) (nI (pWays l) (3 * k + 1))
def wayHome (l : LL) (a : At) : Int := timeF (nI l 0) a.x a.y (nI l 6) (nI l 7)
def goOn (l : LL) (a : At) (k : Int) : At :=
  ⟨nI (pWays l) (3 * k), nI (pWays l) (3 * k + 1), a.t + wayTo l a k + nI (pWays l) (3 * k + 2), a.f - burnF (nI l 1) (a.t + wayTo l a k + nI (pWays l) (3 * k + 2) - a.t)⟩
def stAt (l : LL) : Nat → At
  | 0 => ⟨nI l 9, nI l 10, nI l 11, nI l 12⟩
  | k + 1 => goOn l (stAt l k) k
def e8 (a b c d e f g h : Int) : LL := [(a, ⟨#[]⟩), (b, ⟨#[]⟩), (c, ⟨#[]⟩), (d, ⟨#[]⟩), (e, ⟨#[]⟩), (f, ⟨#[]⟩), (g, ⟨#[]⟩), (h, ⟨#[]⟩)]
def legL (l : LL) (a : At) (k : Int) : LL := e8 a.x a.y (nI (pWays l) (3 * k)) (nI (pWays l) (3 * k + 1)) a.t (a.t + wayTo l a k) (goOn l a k).t (goOn l a k).f
def homeL (l : LL) (a : At) : LL := e8 a.x a.y (nI l 6) (nI l 7) a.t (a.t + wayHome l a) (a.t + wayHome l a) (a.f - burnF (nI l 1) (wayHome l a))
/-- why a unit cannot go on behind the way k. -/
def whyB (l : LL) (a : At) (k : Int) : Int :=
  if 1073741824 < (goOn l a k).t + wayHome l (goOn l a k) then 4
  else if (goOn l a k).f - burnF (nI l 1) (wayHome l (goOn l a k)) < nI l 2 then 1
  else if nI l 3 < (goOn l a k).t + wayHome l (goOn l a k) - nI l 8 then 2
  else if allTo (nI l 13) (fun j => calmB (pSky l) j (nI l 4) (nI l 5) ||
      (!concB (pSky l) j a.x a.y (nI (pWays l) (3 * k)) (nI (pWays l) (3 * k + 1)) a.t (goOn l a k).t &&
       !concB (pSky l) j (nI (pWays l) (3 * k)) (nI (pWays l) (3 * k + 1)) (nI l 6) (nI l 7) (goOn l a k).t ((goOn l a k).t + wayHome l (goOn l a k)))) then 0
  else 3
/-- the first way behind which a unit cannot go on; -1: none. -/
def badIx (l : LL) : Int := firstB (fun k => !decide (whyB l (stAt l k.toNat) k = 0)) (nI l 14).toNat 0
def planWhy (l : LL) : Int := if badIx l < 0 then 0 else whyB l (stAt l (badIx l).toNat) (badIx l)
def legsTo (l : LL) (n : Int) : LL := (List.range n.toNat).flatMap fun k : Nat => legL l (stAt l k) (k : Int)
def planL (l : LL) : LL := legsTo l (nI l 14) ++ homeL l (stAt l (nI l 14).toNat)

def minI (a b : Int) : Int := if b < a then b else a
def maxI (a b : Int) : Int := if a < b then b else a
/-- the sides of a box, from one time to another one; the times of a piece of a way. -/
def lowF (a b st ar s t m : Int) : Int := minI (plx true a b st ar s) (plx true a b st ar t) - m
def highF (a b st ar s t m : Int) : Int := maxI (plx false a b st ar s) (plx false a b st ar t) + m
def psF (st ar j p : Int) : Int := st + rdn ((ar - st) * j) p
def ptF (st ar j p : Int) : Int := st + rup ((ar - st) * (j + 1)) p
/-- a unit's numbers and its name: is it valid? -/
def unitB (l : LL) : Bool := nameB (s0 l) && decide (1 ≤ nI l 1 ∧ nI l 1 ≤ 1000000) && decide (0 ≤ nI l 2 ∧ nI l 2 ≤ 1073741824) && decide (0 ≤ nI l 3 ∧ nI l 3 ≤ 1048576) && decide (0 ≤ nI l 4 ∧ nI l 4 ≤ nI l 2) && decide (0 ≤ nI l 5 ∧ nI l 5 ≤ 1073741824) && decide (0 ≤ nI l 6 ∧ nI l 6 ≤ 100) && decide (0 ≤ nI l 7 ∧ nI l 7 ≤ 100) && decide (-16777216 ≤ nI l 8 ∧ nI l 8 ≤ 16777216) && decide (-16777216 ≤ nI l 9 ∧ nI l 9 ≤ 16777216) && decide (0 ≤ nI l 10 ∧ nI l 10 ≤ 100000) && decide (0 ≤ nI l 11 ∧ nI l 11 ≤ 100)
def n0 (l : LL) : Int := nI l 0
def gF : Nat → LL → Int
  | 0, l => way (nI l 0) (nI l 1) (nI l 2) (nI l 3)
  | 1, l => rdn (nI l 0) (nI l 1)
  | 2, l => rup (nI l 0) (nI l 1)
  | 3, l => plx true (nI l 0) (nI l 1) (nI l 2) (nI l 3) (nI l 4)
  | 4, l => plx false (nI l 0) (nI l 1) (nI l 2) (nI l 3) (nI l 4)
  | 5, l => timeF (nI l 0) (nI l 1) (nI l 2) (nI l 3) (nI l 4)
  | 6, l => burnF (nI l 0) (nI l 1)
  | 7, l => legIx (nI l 0) (nI l 1) (l.drop 2)
  | 8, l => leftF (nI l 0) (nI l 1) (nI l 2) (nI l 3)
  | 9, l => clashI (nI l 0) (nI l 1) ((l.drop 2).take (7 * nI l 0).toNat) ((l.drop 2).drop (7 * nI l 0).toNat)
  | 10, l => clashK (nI l 0) (nI l 1) ((l.drop 2).take (7 * nI l 0).toNat) ((l.drop 2).drop (7 * nI l 0).toNat)
  | 11, l => badIx l
  | 12, l => planWhy l
  | 13, l => lowF (nI l 0) (nI l 1) (nI l 2) (nI l 3) (nI l 4) (nI l 5) (nI l 6)
  | 14, l => highF (nI l 0) (nI l 1) (nI l 2) (nI l 3) (nI l 4) (nI l 5) (nI l 6)
  | 15, l => psF (nI l 0) (nI l 1) (nI l 2) (nI l 3)
  | 16, l => ptF (nI l 0) (nI l 1) (nI l 2) (nI l 3)
  | 17, l => whyB l (stAt l 0) 0
  | 18, l => (stAt (l.drop 1) (nI l 0).toNat).x
  | 19, l => (stAt (l.drop 1) (nI l 0).toNat).y
  | 20, l => (stAt (l.drop 1) (nI l 0).toNat).t
  | 21, l => (stAt (l.drop 1) (nI l 0).toNat).f
  | _, _ => 0
def hF : Nat → LL → Bool
  | 0, l => nameB (s0 l)
  | 1, l => legsB (nI l 0) (l.drop 1)
  | 2, l => allTo (nI l 0) (legB (l.drop 1))
  | 3, l => allTo (nI l 0) (contB (l.drop 1))
  | 4, l => allTo (nI l 0) (atB 8 frontA (l.drop 1))
  | 5, l => allTo (nI l 0) (atB 3 wayA (l.drop 1))
  | 6, l => allTo (nI l 0) (atB 2 (spotA 0) (l.drop 1))
  | 7, l => allTo (nI l 0) (atB 1 (timeA 0) (l.drop 1))
  | 8, l => allTo (nI l 0) (fun k => nameByte (nI (l.drop 1) k).toNat)
  | 9, l => allTo (nI l 0) (fun k => decide (nI (l.drop 2) (8 * k + 6) < nI l 1))
  | 10, l => allTo (nI l 0) (fun i => allTo (nI l 1) (fun k => !clashB ((l.drop 3).take (7 * nI l 2).toNat) i ((l.drop 3).drop (7 * nI l 2).toNat) k))
  | 13, l => allTo (nI l 0) (okSky (l.drop 1))
  | 14, l => allTo (nI l 0) (okOne (l.drop 1))
  | 15, l => unitB l
  | 16, l => allTo (nI l 0) (fun k => decide (whyB (l.drop 1) (stAt (l.drop 1) k.toNat) k = 0))
  | 12, l => allTo (nI l 0) (fun k => nameByte ((s0 (l.drop 1)).data.toList.getD k.toNat 0).toNat)
  | 11, l => allTo (nI l 0) (fun k => !clashB ((l.drop 3).take (7 * nI l 2).toNat) (nI l 1) ((l.drop 3).drop (7 * nI l 2).toNat) k)
  | _, _ => false
theorem hF_0 (l : LL) : hF 0 l = nameB (s0 l) := rfl
theorem hF_2 (l : LL) : hF 2 l = allTo (nI l 0) (legB (l.drop 1)) := rfl
theorem hF_3 (l : LL) : hF 3 l = allTo (nI l 0) (contB (l.drop 1)) := rfl
theorem hF_4 (l : LL) : hF 4 l = allTo (nI l 0) (atB 8 frontA (l.drop 1)) := rfl
theorem hF_5 (l : LL) : hF 5 l = allTo (nI l 0) (atB 3 wayA (l.drop 1)) := rfl
/-! boxes of legs -/
def e7 (a b c d e f g : Int) : LL := [(a, ⟨#[]⟩), (b, ⟨#[]⟩), (c, ⟨#[]⟩), (d, ⟨#[]⟩), (e, ⟨#[]⟩), (f, ⟨#[]⟩), (g, ⟨#[]⟩)]
/-- the box of the leg i from a time to another one. -/
def boxAt (margin level : Int) (l : LL) (i s t : Int) : LL :=
  e7 (minI (plx true (nI l (8 * i)) (nI l (8 * i + 2)) (nI l (8 * i + 4)) (nI l (8 * i + 5)) s) (plx true (nI l (8 * i)) (nI l (8 * i + 2)) (nI l (8 * i + 4)) (nI l (8 * i + 5)) t) - margin)
    (minI (plx true (nI l (8 * i + 1)) (nI l (8 * i + 3)) (nI l (8 * i + 4)) (nI l (8 * i + 5)) s) (plx true (nI l (8 * i + 1)) (nI l (8 * i + 3)) (nI l (8 * i + 4)) (nI l (8 * i + 5)) t) - margin)
    (maxI (plx false (nI l (8 * i)) (nI l (8 * i + 2)) (nI l (8 * i + 4)) (nI l (8 * i + 5)) s) (plx false (nI l (8 * i)) (nI l (8 * i + 2)) (nI l (8 * i + 4)) (nI l (8 * i + 5)) t) + margin)
    (maxI (plx false (nI l (8 * i + 1)) (nI l (8 * i + 3)) (nI l (8 * i + 4)) (nI l (8 * i + 5)) s) (plx false (nI l (8 * i + 1)) (nI l (8 * i + 3)) (nI l (8 * i + 4)) (nI l (8 * i + 5)) t) + margin)
    s t level
/-- the times of the piece j of so many pieces of a leg's way. -/
def pieceS (pieces : Int) (l : LL) (i j : Int) : Int := nI l (8 * i + 4) + rdn ((nI l (8 * i + 5) - nI l (8 * i + 4)) * j) pieces
def pieceT (pieces : Int) (l : LL) (i j : Int) : Int := nI l (8 * i + 4) + rup ((nI l (8 * i + 5) - nI l (8 * i + 4)) * (j + 1)) pieces
def flatTo (n : Int) (f : Int → LL) : LL := (List.range n.toNat).flatMap fun k : Nat => f (k : Int)
theorem flatTo_zero (f : Int → LL) : flatTo 0 f = [] := rfl
theorem flatTo_succ {n : Int} (h : 0 ≤ n) (f : Int → LL) : flatTo (n + 1) f = flatTo n f ++ f n := by
  unfold flatTo
  rw [show (n + 1).toNat = n.toNat + 1 from by omega, List.range_succ, List.flatMap_append]
  simp [Int.toNat_of_nonneg h]
def piecesF (pieces margin level : Int) (l : LL) (i j : Int) : LL := flatTo j fun j => boxAt margin level l i (pieceS pieces l i j) (pieceT pieces l i j)
def legBoxes (pieces margin level : Int) (l : LL) (i : Int) : LL :=
  (if nI l (8 * i + 4) < nI l (8 * i + 5) then piecesF pieces margin level l i pieces else []) ++
  (if nI l (8 * i + 5) < nI l (8 * i + 6) ∨ nI l (8 * i + 4) = nI l (8 * i + 6) then boxAt margin level l i (nI l (8 * i + 5)) (nI l (8 * i + 6)) else [])
def boxesF (pieces margin level : Int) (l : LL) (i : Int) : LL := flatTo i (legBoxes pieces margin level l)
def mF : Nat → LL → LL
  | 0, l => boxesF (nI l 1) (nI l 2) (nI l 3) (l.drop 4) (nI l 0)
  | 1, l => piecesF (nI l 2) (nI l 3) (nI l 4) (l.drop 5) (nI l 1) (nI l 0)
  | 2, l => legBoxes (nI l 1) (nI l 2) (nI l 3) (l.drop 4) (nI l 0)
  | 3, l => planL l
  | 4, l => legsTo (l.drop 1) (nI l 0)
  | _, _ => []
def UTab (g : Nat → LL → Int) (h : Nat → LL → Bool) (_k : Nat → LL → ByteArray) (_m : Nat → LL → LL) : Prop := g = gF ∧ h = hF
def UT : Tb := { tab := fun g h k m => UTab g h k m ∧ m = mF }
/-- Tables that serve. -/
structure Fit (TT : Tb) : Prop where
  tab : ∀ {g h k m}, TT.tab g h k m → UTab g h k m
  J : ∀ w, TT.J w
  m : ∀ {g h k m}, TT.tab g h k m → m = mF
theorem Fit.open {TT : Tb} (u : Fit TT) : Fit TT.open := ⟨u.tab, u.J, u.m⟩
theorem fit_UT : Fit UT := ⟨fun h => h.1, fun _ => trivial, fun h => h.2⟩
theorem nI_0 (a : Int × ByteArray) (l : LL) : nI (a :: l) 0 = a.1 := rfl
theorem nI_1 (a b : Int × ByteArray) (l : LL) : nI (a :: b :: l) 1 = b.1 := rfl
theorem nI_2 (a b c : Int × ByteArray) (l : LL) : nI (a :: b :: c :: l) 2 = c.1 := rfl
theorem nI_3 (a b c d : Int × ByteArray) (l : LL) : nI (a :: b :: c :: d :: l) 3 = d.1 := rfl
theorem nI_4 (a b c d e : Int × ByteArray) (l : LL) : nI (a :: b :: c :: d :: e :: l) 4 = e.1 := rfl
end Go.Proofs.Ytmbhjfembfidnaa.Un
end
section
namespace Go.Proofs.Ytmbhjfembfidnaa.Sx
open Go Go.RowKit

abbrev LL := List (Int × ByteArray)
def nI (xs : LL) (i : Int) : Int := ((xs[i.toNat]?).map Prod.fst).getD 0
theorem nI_eq (xs : LL) (i : Int) : ((xs[i.toNat]?).map Prod.fst).getD 0 = nI xs i := rfl
/-! ### Contracts at numbers that are known -/
inductive Lt where
  | i (z : Int) | b (t : Bool) | l (x : LL)
def ltI : Option Lt → Option Int | some (.i z) => some z | _ => none
def ltB' : Option Lt → Option Bool | some (.b t) => some t | _ => none
def ltL : Option Lt → Option LL | some (.l x) => some x | _ => none
def ltI2 (f : Int → Int → Lt) (a b : Option Lt) : Option Lt := match ltI a, ltI b with | some x, some y => some (f x y) | _, _ => none
def ltB2 (f : Bool → Bool → Lt) (a b : Option Lt) : Option Lt := match ltB' a, ltB' b with | some x, some y => some (f x y) | _, _ => none
def ev (G : Nat → LL → Int) (Hh : Nat → LL → Bool) : E → Option Lt
  | .c z => some (.i z)
  | .add a b => ltI2 (fun x y => .i (x + y)) (ev G Hh a) (ev G Hh b)
  | .sub a b => ltI2 (fun x y => .i (x - y)) (ev G Hh a) (ev G Hh b)
  | .mul a b => ltI2 (fun x y => .i (x * y)) (ev G Hh a) (ev G Hh b)
  | .le a b => ltI2 (fun x y => .b (decide (x ≤ y))) (ev G Hh a) (ev G Hh b)
  | .lt a b => ltI2 (fun x y => .b (decide (x < y))) (ev G Hh a) (ev G Hh b)
  | .eq a b => ltI2 (fun x y => .b (decide (x = y))) (ev G Hh a) (ev G Hh b)
  | .and a b => ltB2 (fun x y => .b (x && y)) (ev G Hh a) (ev G Hh b)
  | .or a b => ltB2 (fun x y => .b (x || y)) (ev G Hh a) (ev G Hh b)
  | .not a => (ltB' (ev G Hh a)).map fun x => .b (!x)
  | .tt => some (.b true)
  | .ff => some (.b false)
  | .ite q a b => match ltB' (ev G Hh q) with | some true => ev G Hh a | some false => ev G Hh b | none => none
  | .nil => some (.l [])
  | .cons a l => match ltI (ev G Hh a), ltL (ev G Hh l) with | some z, some x => some (.l ((z, ⟨#[]⟩) :: x)) | _, _ => none
  | .app f l => (ltL (ev G Hh l)).map fun x => .i (G f x)
  | .happ f l => (ltL (ev G Hh l)).map fun x => .b (Hh f x)
  | .quo a b => ltI2 (fun x y => .i (x.tdiv y)) (ev G Hh a) (ev G Hh b)
  | .rem a b => ltI2 (fun x y => .i (x.tmod y)) (ev G Hh a) (ev G Hh b)
  | _ => none
def Lt.d : Lt → D | .i z => { i := z } | .b t => { b := t } | .l x => { l := x }
theorem ev_ok {G : Nat → LL → Int} {Hh : Nat → LL → Bool} {ρ : Env} (hg : ρ.g = G ∧ ρ.h = Hh) : ∀ {e : E} {x : Lt}, ev G Hh e = some x → e.den ρ = x.d := by
  have hi : ∀ {o : Option Lt} {z : Int}, ltI o = some z → o = some (.i z) := fun {o z} h => by
    cases o with
    | none => cases h
    | some y => cases y <;> cases h; rfl
  have hb : ∀ {o : Option Lt} {z : Bool}, ltB' o = some z → o = some (.b z) := fun {o z} h => by
    cases o with
    | none => cases h
    | some y => cases y <;> cases h; rfl
  have hl : ∀ {o : Option Lt} {z : LL}, ltL o = some z → o = some (.l z) := fun {o z} h => by
    cases o with
    | none => cases h
    | some y => cases y <;> cases h; rfl
  intro e
  induction e <;> intro x h <;> try (simp only [ev, reduceCtorEq] at h; done)
  case c z => simp only [ev, Option.some.injEq] at h; subst h; rfl
  case tt => simp only [ev, Option.some.injEq] at h; subst h; rfl
  case ff => simp only [ev, Option.some.injEq] at h; subst h; rfl
  case nil => simp only [ev, Option.some.injEq] at h; subst h; rfl
  case not a ih =>
    simp only [ev, Option.map_eq_some_iff] at h
    obtain ⟨t, ht, rfl⟩ := h
    simp only [E.den, ih (hb ht), Lt.d]
  case app f l ih =>
    simp only [ev, Option.map_eq_some_iff] at h
    obtain ⟨t, ht, rfl⟩ := h
    simp only [E.den, ih (hl ht), Lt.d, hg.1]
  case happ f l ih =>
    simp only [ev, Option.map_eq_some_iff] at h
    obtain ⟨t, ht, rfl⟩ := h
    simp only [E.den, ih (hl ht), Lt.d, hg.2]
  case ite q a b ihq iha ihb =>
    simp only [ev] at h
    split at h
    · rename_i hq; simp only [E.den, ihq (hb hq), Lt.d, if_true]; exact iha h
    · rename_i hq; simp only [E.den, ihq (hb hq), Lt.d, Bool.false_eq_true, if_false]; exact ihb h
    · cases h
  case cons a l iha ihl =>
    simp only [ev] at h
    split at h
    · rename_i h1 h2; cases h; simp only [E.den, iha (hi h1), ihl (hl h2), Lt.d]
    · cases h
  all_goals
    rename_i iha ihb
    simp only [ev, ltI2, ltB2] at h
    split at h
    · rename_i h1 h2
      cases h
      first
        | simp only [E.den, iha (hi h1), ihb (hi h2), Lt.d]
        | simp only [E.den, iha (hb h1), ihb (hb h2), Lt.d]
    · cases h
def evV (G : Nat → LL → Int) (Hh : Nat → LL → Bool) : V → V
  | .i k e => match ev G Hh e with | some (.i z) => .i k (.c z) | _ => .i k e
  | .b e => match ev G Hh e with | some (.b t) => .b (if t then .tt else .ff) | _ => .b e
  | .agg l => .agg (evV G Hh l)
  | .tup l => .tup (evV G Hh l)
  | .cons a l => .cons (evV G Hh a) (evV G Hh l)
  | v => v
theorem evV_dd {G : Nat → LL → Int} {Hh : Nat → LL → Bool} {ρ : Env} (hg : ρ.g = G ∧ ρ.h = Hh) (v : V) : (evV G Hh v).dd ρ = v.dd ρ := by
  induction v <;> simp only [evV] <;> try rfl
  case i k e =>
    split
    · rename_i z h
      show ({ v := Value.int k (E.I ρ (.c z)) } : DV) = { v := Value.int k (e.I ρ) }
      have := ev_ok hg h
      simp only [E.I, this, Lt.d]; rfl
    · rfl
  case b e =>
    split
    · rename_i t h
      show ({ v := Value.bool (E.B ρ (if t then .tt else .ff)) } : DV) = { v := Value.bool (e.B ρ) }
      have := ev_ok hg h
      simp only [E.B, this, Lt.d]
      cases t <;> rfl
    · rfl
  case agg l ih => simp only [V.dd, ih]
  case tup l ih => simp only [V.dd, ih]
  case cons a l iha ihl => simp only [V.dd, iha, ihl]
/-- Is one of these facts false? -/
def anyF (G : Nat → LL → Int) (Hh : Nat → LL → Bool) (F : List E) : Bool := F.any fun e => match ev G Hh e with | some (.b false) => true | _ => false
theorem anyF_ok {G : Nat → LL → Int} {Hh : Nat → LL → Bool} {ρ : Env} (hg : ρ.g = G ∧ ρ.h = Hh) {F : List E} (hF : holds ρ F) : anyF G Hh F = false := by
  cases h : anyF G Hh F with
  | false => rfl
  | true =>
    unfold anyF at h
    rw [List.any_eq_true] at h
    obtain ⟨e, he, h⟩ := h
    split at h
    · rename_i hev
      have h1 := hF e he
      have h2 := ev_ok hg hev
      simp only [E.B, h2, Lt.d] at h1
      cases h1
    · cases h
/-- A contract's values reckoned, ends that cannot be left out; what it tells besides is forgotten. -/
def litCtr (G : Nat → LL → Int) (Hh : Nat → LL → Bool) (q : Ctr) : Ctr := ⟨q.f, fun args σ => (q.run args σ).map fun l => (l.filter fun o => !anyF G Hh o.st.F).map fun o => match o.x with
  | .val v => ⟨.val (evV G Hh v), { o.st with F := σ.F }⟩
  | x => ⟨x, o.st⟩⟩
theorem litCtr_ok {G : Nat → LL → Int} {Hh : Nat → LL → Bool} {TT : Tb} {P : Program} {q : Ctr} (hgt : ∀ ρ : Env, TT.tab ρ.g ρ.h ρ.k ρ.m → ρ.g = G ∧ ρ.h = Hh) (h : CtrOk TT P q) : CtrOk TT P (litCtr G Hh q) := by
  intro args σ outs hr hok ha ρ w0 w R hs hg
  simp only [litCtr, Option.map_eq_some_iff] at hr
  obtain ⟨l, hl, rfl⟩ := hr
  refine h args σ l hl hok ha ρ w0 w R hs fun o ho ρ' w' hx hs' => ?_
  have hn : anyF G Hh o.st.F = false := anyF_ok (hgt ρ' hs'.tab.1) hs'.fact
  have h1 := hg _ (List.mem_map.2 ⟨o, List.mem_filter.2 ⟨ho, by simp [hn]⟩, rfl⟩)
  have hF : holds ρ' σ.F := fun e he => by rw [B_ext hx ((ok_parts hok).2.2.1 e he)]; exact hs.fact e he
  cases hox : o.x <;> simp only [hox] at h1 ⊢
  case val v =>
    have := h1 ρ' w' hx (hs'.withF hF)
    simp only at this
    rw [show (evV G Hh v).den ρ' = v.den ρ' from congrArg DV.v (evV_dd (hgt ρ' hs'.tab.1) v)] at this
    exact this
  all_goals exact h1 ρ' w' hx hs'

/-! ### What is asked of the memory at the beginning -/
def Tb.noJ (T : Tb) : Tb := { T with J := fun _ => True }
theorem Sees.noJ {TT : Tb} {ρ : Env} {σ : St} {w0 w : World} (h : Sees TT ρ σ w0 w) : Sees TT.noJ ρ σ w0 w :=
  ⟨h.os, h.tape, h.output, h.size, h.keep, h.blk, h.sep, h.own, h.row, h.rsep, h.rown, h.fact, ⟨h.tab.1, trivial⟩, h.src⟩
theorem Sees.toJ {TT : Tb} {ρ : Env} {σ : St} {w0 w : World} (h : Sees TT.noJ ρ σ w0 w) (hJ : TT.J w0) : Sees TT ρ σ w0 w :=
  ⟨h.os, h.tape, h.output, h.size, h.keep, h.blk, h.sep, h.own, h.row, h.rsep, h.rown, h.fact, ⟨h.tab.1, hJ⟩, h.src⟩
/-- A contract that asks nothing of the memory. -/
theorem ctr_noJ {TT : Tb} {P : Program} {q : Ctr} (h : CtrOk TT.noJ P q) : CtrOk TT P q := fun args σ outs hr hok ha ρ w0 w R hs hg =>
  h args σ outs hr hok ha ρ w0 w R hs.noJ fun o ho ρ' w' hx hs' => hg o ho ρ' w' hx (hs'.toJ hs.tab.2)
/-- A contract where no old block has been written. -/
def ctrW (c : Ctr) : Ctr := ⟨c.f, fun args σ => if σ.W.isEmpty then c.run args σ else none⟩
def Stable (J : World → Prop) : Prop := ∀ w w', J w → Below w.heap.size w w' → J w'
/-- The contract's own memory, where what is asked at the beginning holds still. -/
theorem ctrW_ok {TT : Tb} {P : Program} {q : Ctr} (hst : Stable TT.J) (h : ∀ args σ outs, q.run args σ = some outs → σ.ok = true → args.all (V.under σ.fr) = true → ∀ ρ w0 w R, Sees TT ρ σ w0 w → TT.J w → (∀ o ∈ outs, GoodF TT R ρ σ.fr w0 o) → Calls P q.f (arr ρ args) w R) : CtrOk TT P (ctrW q) := by
  intro args σ outs hr hok ha ρ w0 w R hs hg
  simp only [ctrW] at hr
  split at hr
  · rename_i hW
    exact h args σ outs hr hok ha ρ w0 w R hs (hst w0 w hs.tab.2 (hs.below (by simpa using hW))) hg
  · cases hr
/-- A value's contract, where what is asked at the beginning holds still. -/
theorem ctrValJ_ok {TT : Tb} {P : Program} {f : FuncId} {aks : List AK} {F facts : List E} {v : V} (hst : Stable TT.J) (hv : v.simple = true)
    (h : ∀ ρ w, holds ρ F → TT.tab ρ.g ρ.h ρ.k ρ.m → RowsAt ρ w aks → TT.J w → Calls P f (arr ρ (patAs 0 aks)) w fun e w' => (e = .returned (v.den ρ) ∧ ∀ e ∈ facts, e.B ρ = true) ∧ Below w.heap.size w w') : CtrOk TT P (ctrW (ctrVal f aks F v facts)) := by
  refine ctrW_ok hst fun args σ outs hr hok ha ρ w0 w R hs hJ hg => ?_
  simp only [ctrVal] at hr
  split at hr
  case h_2 => cases hr
  rename_i vs hvX
  cases hr
  have hn := need_of hs hg
  have hn' : holds (ρ.assign 0 σ.R vs) F := fun e he => by rw [← subst_B]; exact hn _ (List.mem_map.2 ⟨e, he, rfl⟩)
  have hc := h (ρ.assign 0 σ.R vs) w hn' hs.tab.1 (rowsAt_of (fun x r hf => hs.row _ (findR_mem hf)) hvX) hJ
  rw [flat_arr ρ hvX] at hc
  refine hc.mono fun e w' ⟨⟨he, hf⟩, hb⟩ => ?_
  subst he
  have := hg ⟨.val (v.subst 0 σ.R vs), _⟩ (List.mem_append.2 (.inr List.mem_cons_self)) ρ w' (Ext.refl _ _) ((hs.step hb).withF fun e he => by
    rcases List.mem_append.1 he with he | he
    · rcases List.mem_append.1 he with he | he
      · obtain ⟨a, ha', rfl⟩ := List.mem_map.1 he
        rw [subst_B]
        exact hf a ha'
      · exact hn e (List.mem_filter.1 he).1
    · exact hs.fact e he)
  simp only [(substV ρ σ.R vs v hv).1] at this
  exact this

/-! ### A closed call in pieces -/
def hdC : Code → Code | .seq a _ => a | c => c
def nxC : Code → Code | .seq _ b => b | c => c
theorem seq_step {P : Program} {g : Nat} {Γ : Ctx} {a b : Code} {σ τ : St} {r : List Out} (h1 : go P g Γ (.code a) σ = some [⟨.norm, τ⟩]) (hfr : σ.fr ≤ τ.fr) (h2 : go P g Γ (.code b) τ = some r) : go P (g + 1) Γ (.code (.seq a b)) σ = some r := by
  simp [go, h1, bindL, hfr, h2]
theorem piece {P : Program} {g : Nat} {Γ : Ctx} {c : Code} {σ τ : St} {r : List Out} (hc : c = .seq (hdC c) (nxC c)) (h1 : goF P g Γ (.code (hdC c)) σ = some [⟨.norm, τ⟩]) (hfr : σ.fr ≤ τ.fr) (h2 : go P g Γ (.code (nxC c)) τ = some r) : go P (g + 1) Γ (.code c) σ = some r := by
  rw [hc]
  exact seq_step (by rw [← goF_eq]; exact h1) hfr h2
def bodyOf (P : Program) (f : FuncId) : Code := ((P.funcs[f]?).bind (·.body)).getD .skip
theorem fn_run {P : Program} {g : Nat} {Γ : Ctx} {f : FuncId} {fn : Func} {args : List V} {σ τ : St} {vs : List V} (h0 : Γ.calls.find? (·.f == f) = none) (h1 : P.funcs[f]? = some fn) (h2 : fn.body.isSome = true)
    (h3 : go P g { Γ with rd := none } (.code (bodyOf P f)) { σ with T := args ++ List.replicate (fn.ntmps - args.length) undefV, M := [] } = some [⟨.ret, τ⟩]) (hfr : σ.fr ≤ τ.fr) (hM : τ.M = []) (hres : resV P τ fn.results.toList = some vs) :
    go P (g + 1) Γ (.fn f args) σ = some [⟨.val (tupV vs), { τ.gc σ.fr (tupV vs) with T := σ.T, M := σ.M }⟩] := by
  obtain ⟨c, hc⟩ := Option.isSome_iff_exists.1 h2
  have hb : bodyOf P f = c := by simp [bodyOf, h1, hc]
  rw [hb] at h3
  simp [go, h0, h1, hc, h3, bindL, hfr, hM, dropM, hres]
theorem val_of_go {P : Program} {Γ : Ctx} {gas : Nat} {f : FuncId} {aks : List AK} {F : List E} {v : V} {D : Dec} {l : List Out} (hu : (v.under (ksOf aks).length) = true) (h : go P gas Γ.top (.fn f (patAs 0 aks)) { T := [], R := rowsL 0 (ksOf aks), F := F, fr := (ksOf aks).length, own := (ksOf aks).length } = some l) (hl : l.all (chkV D v) = true) : chkVal P Γ gas f aks F v D = true := by
  unfold chkVal
  rw [goF_eq, h]
  simp [hu, hl]

/-! ### Contracts by records: what calls came to, at the states in which they were made -/
def listB {α : Type} (f : α → α → Bool) : List α → List α → Bool
  | [], [] => true
  | a :: l, b :: m => f a b && listB f l m
  | _, _ => false
theorem listB_ok {α : Type} {f : α → α → Bool} (hf : ∀ a b, f a b = true → a = b) : ∀ {l m : List α}, listB f l m = true → l = m
  | [], [], _ => rfl
  | [], _ :: _, h => by cases h
  | _ :: _, [], h => by cases h
  | a :: l, b :: m, h => by
    simp only [listB, Bool.and_eq_true] at h
    rw [hf a b h.1, listB_ok hf h.2]
def pairB {α β : Type} (f : α → α → Bool) (g : β → β → Bool) (a b : α × β) : Bool := f a.1 b.1 && g a.2 b.2
theorem pairB_ok {α β : Type} {f : α → α → Bool} {g : β → β → Bool} (hf : ∀ a b, f a b = true → a = b) (hg : ∀ a b, g a b = true → a = b) (a b : α × β) (h : pairB f g a b = true) : a = b := by
  simp only [pairB, Bool.and_eq_true] at h
  obtain ⟨a1, a2⟩ := a
  obtain ⟨b1, b2⟩ := b
  exact Prod.ext (hf _ _ h.1) (hg _ _ h.2)
def HO.sameB : HO → HO → Bool
  | .cells l t, .cells m u => Nat.beq t u && listB V.same l m
  | .loop s k, .loop r j => Nat.beq k j && decide (s = r)
  | .defd, .defd => true
  | .map l, .map m => listB (pairB V.same V.same) l m
  | .tab l, .tab m => decide (l = m)
  | _, _ => false
theorem vSame_ok (a b : V) (h : a.same b = true) : a = b := (V.same_iff a b).1 h
theorem HO.sameB_ok (a b : HO) (h : a.sameB b = true) : a = b := by
  cases a <;> cases b <;> simp only [HO.sameB, Bool.and_eq_true, Bool.false_eq_true, Nat.beq_eq, decide_eq_true_eq] at h
  case cells => rw [h.1, listB_ok vSame_ok h.2]
  case loop => rw [h.1, h.2]
  case defd => rfl
  case tab => rw [h]
  case map => rw [listB_ok (pairB_ok vSame_ok vSame_ok) h]
def kdB : Kd → Kd → Bool
  | .i k, .i k' => kindB k k'
  | .b, .b => true
  | .s, .s => true
  | .any, .any => true
  | .sl, .sl => true
  | _, _ => false
theorem kdB_ok (x y : Kd) (h : kdB x y = true) : x = y := by
  cases x <;> cases y <;> simp only [kdB, kindB, Bool.false_eq_true, decide_eq_true_eq] at h
  case i => rw [h]
  all_goals rfl
def Row.sameB (a b : Row) : Bool := (a.own == b.own) && Nat.beq a.e b.e && listB kdB a.kds b.kds && a.n.same b.n && a.xs.same b.xs
theorem Row.sameB_ok (a b : Row) (h : a.sameB b = true) : a = b := by
  simp only [Row.sameB, Bool.and_eq_true, beq_iff_eq, Nat.beq_eq, E.same_iff] at h
  obtain ⟨⟨⟨⟨h1, h2⟩, h3⟩, h4⟩, h5⟩ := h
  obtain ⟨a1, a2, a3, a4, a5⟩ := a
  obtain ⟨b1, b2, b3, b4, b5⟩ := b
  simp only at h1 h2 h3 h4 h5
  rw [h1, h2, listB_ok kdB_ok h3, h4, h5]
def natB (a b : Nat) : Bool := Nat.beq a b
theorem natB_ok (a b : Nat) (h : natB a b = true) : a = b := by simpa [natB] using h
/-- Are two states the same, but for the frame? -/
def stB (a b : St) : Bool := listB E.same a.F b.F && Nat.beq a.fr b.fr && Nat.beq a.own b.own && listB (pairB Bk.same HO.sameB) a.H b.H && listB (pairB natB Row.sameB) a.R b.R && listB Bk.same a.W b.W
theorem stB_ok {a b : St} (h : stB a b = true) : a = { b with T := a.T, M := a.M } := by
  simp only [stB, Bool.and_eq_true, Nat.beq_eq] at h
  obtain ⟨⟨⟨⟨⟨h5, h1⟩, h2⟩, h3⟩, h4⟩, h6⟩ := h
  obtain ⟨a1, a2, a3, a4, a5, a6, a7, a8⟩ := a
  obtain ⟨b1, b2, b3, b4, b5, b6, b7, b8⟩ := b
  simp only at h1 h2 h3 h4 h5 h6
  rw [h1, h2, listB_ok (pairB_ok (fun a b h => (Bk.same_iff a b).1 h) HO.sameB_ok) h3, listB_ok (pairB_ok natB_ok Row.sameB_ok) h4, listB_ok (fun a b h => (E.same_iff a b).1 h) h5, listB_ok (fun a b h => (Bk.same_iff a b).1 h) h6]
structure CallRec where
  args : List V
  st : St
  outs : List Out
def recOf (rs : List CallRec) (args : List V) (σ : St) : Option CallRec := rs.find? fun r => Nat.beq r.st.fr σ.fr && listB V.same r.args args && stB r.st σ
def ctrRec (f : FuncId) (rs : List CallRec) : Ctr := ⟨f, fun args σ => (recOf rs args σ).map (·.outs)⟩
/-- What a record says was reckoned. -/
def RecOk (P : Program) (calls : List Ctr) (f : FuncId) (r : CallRec) : Prop := ∃ g, go P g { calls := calls } (.fn f r.args) r.st = some r.outs
theorem ctrRec_ok {TT : Tb} {P : Program} {calls : List Ctr} (hΓ : ∀ q ∈ calls, CtrOk TT P q) {f : FuncId} {rs : List CallRec} (h : ∀ r ∈ rs, RecOk P calls f r) : CtrOk TT P (ctrRec f rs) := by
  intro args σ outs hr hok ha ρ w0 w R hs hg
  simp only [ctrRec, Option.map_eq_some_iff] at hr
  obtain ⟨r, hr, rfl⟩ := hr
  have hm := List.mem_of_find?_eq_some hr
  have hb := List.find?_some hr
  simp only [Bool.and_eq_true, Nat.beq_eq] at hb
  obtain ⟨⟨hfr, hargs⟩, hst⟩ := hb
  obtain ⟨g, hgo⟩ := h r hm
  have e1 := listB_ok vSame_ok hargs
  have e2 := stB_ok hst
  have hs' : Sees TT ρ r.st w0 w := by
    rw [e2]
    exact ⟨hs.os, hs.tape, hs.output, hs.size, hs.keep, hs.blk, hs.sep, hs.own, hs.row, hs.rsep, hs.rown, hs.fact, hs.tab, hs.src⟩
  have hgo' : go P g (Ctx.top { calls := calls }) (.fn f r.args) r.st = some r.outs := hgo
  rw [← e1]
  exact ((go_ok hΓ g (Ctx.top { calls := calls }) rfl).2.2.2.2.1 f r.args r.st r.outs hgo').2 ρ w0 w R (known_top _ _ _) hs' (by rw [hfr]; exact hg)
theorem rec_run {P : Program} {calls : List Ctr} {f : FuncId} {r : CallRec} (g : Nat) (h : goF P g { calls := calls } (.fn f r.args) r.st = some r.outs) : RecOk P calls f r := ⟨g, by rw [← goF_eq]; exact h⟩
end Go.Proofs.Ytmbhjfembfidnaa.Sx
end
section
namespace Go.Proofs.Ytmbhjfembfidnaa.Sx
open Go Go.RowKit
variable {TT : Tb}

/-- A case: the row (or none: an empty slice), the other values, what is known then. -/
structure RC where
  row : Option Row
  v : V
  facts : List E
  more : List V := []
def RC.vals (c : RC) : List V := c.v :: c.more
def Row.subst (es : List E) (r : Row) : Row := { r with n := r.n.subst 0 es, xs := r.xs.subst 0 es }
def RC.outOf (σ : St) (vs : List V) (G : List E) (c : RC) : Out :=
  let F := ((c.facts.map (E.subst 0 (vs.map (V.asE σ.R)))).flatMap fun a => fact a true) ++ G
  match c.row with
  | none => ⟨.val (.tup (V.ofL (.nils :: c.vals.map (V.subst 0 σ.R vs)))), { σ with F := F }⟩
  | some r => ⟨.val (.tup (V.ofL (.var σ.fr :: c.vals.map (V.subst 0 σ.R vs)))), { σ with R := (σ.fr, r.subst (vs.map (V.asE σ.R))) :: σ.R, fr := σ.fr + 1, F := F }⟩
def ctrRowC (f : FuncId) (aks : List AK) (F : List E) (cases : List RC) : Ctr :=
  ⟨f, fun args σ => match flatAs σ.R aks args with
    | some vs =>
      let need := F.map (E.subst 0 (vs.map (V.asE σ.R)))
      let G := news σ.F need ++ σ.F
      if cases.all (fun c => c.vals.all fun v => (v.subst 0 σ.R vs).under σ.fr) = true then some (musts σ need ++ (cases.filter fun c => !(c.facts.map (E.subst 0 (vs.map (V.asE σ.R)))).any fun a => decideB G a == some false).map (RC.outOf σ vs G)) else none
    | none => none⟩
def RC.is (c : RC) (ρ : Env) (w w' : World) (e : Ending) : Prop :=
  (∀ a ∈ c.facts, a.B ρ = true) ∧ match c.row with
    | none => e = .returned (.tuple (.slice none 0 0 :: c.v.den ρ :: c.more.map (V.den ρ)).toArray)
    | some r => r.own = true ∧ ∃ u, e = .returned (.tuple (u :: c.v.den ρ :: c.more.map (V.den ρ)).toArray) ∧ r.at ρ w.heap.size w' u ∧ ∀ b, u.ownBlock = some b → w.heap.size ≤ b
def RowCAt (P : Program) (f : FuncId) (aks : List AK) (cases : List RC) (ρ : Env) (w : World) : Prop :=
  Calls P f (arr ρ (patAs 0 aks)) w fun e w' => (∃ c ∈ cases, c.is ρ w w' e) ∧ Below w.heap.size w w'
theorem row_subst {ρ : Env} {R : List (Nat × Row)} {vs : List V} {r : Row} {base : Nat} {w : World} {u : Value} (h : r.at (ρ.assign 0 R vs) base w u) : (r.subst (vs.map (V.asE R))).at ρ base w u := by
  unfold Row.at at h ⊢
  simp only [Row.subst, subst_I, subst_L]
  exact h
theorem rowC_core {P : Program} {f : FuncId} {aks : List AK} {F : List E} {cases : List RC} (hv : cases.all (fun c => c.vals.all fun v => v.simple) = true) {args : List V} {σ : St} {outs : List Out} (hr : (ctrRowC f aks F cases).run args σ = some outs) (hok : σ.ok = true)
    {ρ : Env} {w0 w : World} {R : Ending → World → Prop} (hs : Sees TT ρ σ w0 w) (hg : ∀ o ∈ outs, GoodF TT R ρ σ.fr w0 o)
    (h : ∀ ρ, holds ρ F → TT.tab ρ.g ρ.h ρ.k ρ.m → RowsAt ρ w aks → RowCAt P f aks cases ρ w) : Calls P f (arr ρ args) w R := by
  simp only [ctrRowC] at hr
  split at hr
  case h_2 => cases hr
  rename_i vs hvX
  split at hr
  case isFalse => cases hr
  rename_i hund
  cases hr
  have hn := need_of hs hg
  have hn' : holds (ρ.assign 0 σ.R vs) F := fun e he => by rw [← subst_B]; exact hn _ (List.mem_map.2 ⟨e, he, rfl⟩)
  have hc := h (ρ.assign 0 σ.R vs) hn' hs.tab.1 (rowsAt_of (fun x r hf => hs.row _ (findR_mem hf)) hvX)
  unfold RowCAt at hc
  rw [flat_arr ρ hvX] at hc
  have hG := news_holds hs.fact hn
  refine hc.mono fun e w' ⟨⟨c, hcm, hf, he⟩, hb⟩ => ?_
  have hfa : ∀ a ∈ c.facts.map (E.subst 0 (vs.map (V.asE σ.R))), a.B ρ = true := fun a ha' => by
    obtain ⟨b, hb', rfl⟩ := List.mem_map.1 ha'
    rw [subst_B]
    exact hf b hb'
  have hmem : c ∈ (cases.filter fun c => !(c.facts.map (E.subst 0 (vs.map (V.asE σ.R)))).any fun a => decideB (news σ.F (F.map (E.subst 0 (vs.map (V.asE σ.R)))) ++ σ.F) a == some false) := by
    refine List.mem_filter.2 ⟨hcm, ?_⟩
    simp only [Bool.not_eq_true', List.any_eq_false, beq_iff_eq]
    intro a ha' hd
    have := decideB_ok hG hd
    rw [hfa a ha'] at this
    cases this
  have hF : holds ρ (((c.facts.map (E.subst 0 (vs.map (V.asE σ.R)))).flatMap fun a => fact a true) ++ (news σ.F (F.map (E.subst 0 (vs.map (V.asE σ.R)))) ++ σ.F)) := fun e he => by
    rcases List.mem_append.1 he with he | he
    · obtain ⟨a, ha', he⟩ := List.mem_flatMap.1 he
      exact fact_ok (hfa a ha') e he
    · exact hG e he
  have hsv : (c.vals.map (V.subst 0 σ.R vs)).map (V.den ρ) = c.v.den (ρ.assign 0 σ.R vs) :: c.more.map (V.den (ρ.assign 0 σ.R vs)) := by
    rw [List.map_map]
    show _ = c.vals.map (V.den (ρ.assign 0 σ.R vs))
    refine List.map_congr_left fun v hvm => ?_
    exact (substV ρ σ.R vs v (List.all_eq_true.1 (List.all_eq_true.1 hv c hcm) v hvm)).1
  have hgo := hg (RC.outOf σ vs (news σ.F (F.map (E.subst 0 (vs.map (V.asE σ.R)))) ++ σ.F) c) (List.mem_append.2 (.inr (List.mem_map.2 ⟨c, hmem, rfl⟩)))
  unfold RC.outOf at hgo
  cases hr : c.row with
  | none =>
    rw [hr] at he hgo
    simp only at he hgo
    subst he
    have := hgo ρ w' (Ext.refl _ _) ((hs.step hb).withF hF)
    simp only [V.ofL, den_tup, dens_cons, dens_ofL, hsv, den_nils] at this
    exact this
  | some r =>
    rw [hr] at he hgo
    simp only at he hgo
    obtain ⟨hown, u, rfl, hat, hblk⟩ := he
    have hx := nameV_ext ρ σ.fr u
    have hsr := sees_res (R' := σ.R) hs hok hb u (at_base hs.size (row_subst hat)) (fun p hp => hp) (fun b hbb => .inl (hblk b hbb)) hF
    have this := hgo (ρ.nameV σ.fr u) w' hx hsr
    have e1 : (ρ.nameV σ.fr u).v σ.fr = u := by simp [Env.nameV]
    have e2 : (c.vals.map (V.subst 0 σ.R vs)).map (V.den (ρ.nameV σ.fr u)) = c.v.den (ρ.assign 0 σ.R vs) :: c.more.map (V.den (ρ.assign 0 σ.R vs)) := by
      rw [← hsv]
      refine List.map_congr_left fun v hvm => ?_
      obtain ⟨v0, hv0, rfl⟩ := List.mem_map.1 hvm
      exact den_extV hx (List.all_eq_true.1 (List.all_eq_true.1 hund c hcm) v0 hv0)
    simp only [V.ofL, den_tup, dens_cons, dens_ofL, den_var, e1, e2] at this
    exact this
theorem ctrRowC_ok {P : Program} {f : FuncId} {aks : List AK} {F : List E} {cases : List RC} (hv : cases.all (fun c => c.vals.all fun v => v.simple) = true)
    (h : ∀ ρ w, holds ρ F → TT.tab ρ.g ρ.h ρ.k ρ.m → RowsAt ρ w aks → RowCAt P f aks cases ρ w) : CtrOk TT P (ctrRowC f aks F cases) :=
  fun _ _ _ hr hok _ _ _ w _ hs hg => rowC_core hv hr hok hs hg fun ρ a b c => h ρ w a b c
/-- The same, where what is asked of the memory at the beginning holds still. -/
theorem ctrRowCJ_ok {P : Program} {f : FuncId} {aks : List AK} {F : List E} {cases : List RC} (hst : Stable TT.J) (hv : cases.all (fun c => c.vals.all fun v => v.simple) = true)
    (h : ∀ ρ w, holds ρ F → TT.tab ρ.g ρ.h ρ.k ρ.m → RowsAt ρ w aks → TT.J w → RowCAt P f aks cases ρ w) : CtrOk TT P (ctrW (ctrRowC f aks F cases)) :=
  ctrW_ok hst fun _ _ _ hr hok _ _ _ w _ hs hJ hg => rowC_core hv hr hok hs hg fun ρ a b c => h ρ w a b c hJ
end Go.Proofs.Ytmbhjfembfidnaa.Sx
end
