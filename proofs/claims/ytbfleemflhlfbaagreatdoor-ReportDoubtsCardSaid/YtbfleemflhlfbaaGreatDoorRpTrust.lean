/- What reports leave: a map of trusts (no walk in this text). -/
import Derived.Test.YtbfleemflhlfbaaGreatDoorRpCheck
import Derived.Maps.RangeWalk
import Derived.Maps.OwnOps
import Derived.Maps.OwnSet
namespace Go.Proofs.YtbfleemflhlfbaaGreatDoor
open Go.RowKit Go.Maps

def nOf : DataW Unit → Int
  | .lit (.int _ c) => c
  | _ => 0
def lit0 : DataW Unit := .lit (.int .i64 0)
def keyL (s : ByteArray) : Lit := .string s.data.toList
def addT (D : DataW Unit) (s : St) : DataW Unit := D.put (keyL s.src) (.lit (.int .i64 (max (nOf (D.atKey (keyL s.src) lit0)) s.trust)))
def trustsOf (l : List St) : DataW Unit := l.foldl addT (.map [])
theorem trusts_snoc (l : List St) (s : St) : trustsOf (l ++ [s]) = addT (trustsOf l) s := by
  unfold trustsOf; rw [List.foldl_append]; rfl

/-- a map whose trusts lie in their range. -/
def GoodD (D : DataW Unit) : Prop := IsMap D ∧ ∀ k, WideAt.IsKeyLit k → 0 ≤ nOf (D.atKey k lit0) ∧ nOf (D.atKey k lit0) ≤ 1000
theorem good_add {D : DataW Unit} (h : GoodD D) {s : St} (hs : 0 ≤ s.trust ∧ s.trust ≤ 1000) : GoodD (addT D s) := by
  refine ⟨h.1.put _ _, fun k hk => ?_⟩
  have h0 := h.2 (keyL s.src) trivial
  unfold addT
  by_cases e : k = keyL s.src
  · rw [e, atKey_put_same h.1 (k := keyL s.src) trivial]
    show 0 ≤ max _ _ ∧ max _ _ ≤ 1000
    omega
  · rw [atKey_put_other e]; exact h.2 k hk
theorem trusts_good {l : List St} (h : ∀ s ∈ l, 0 ≤ s.trust ∧ s.trust ≤ 1000) : GoodD (trustsOf l) := by
  have : ∀ (l : List St) (D : DataW Unit), GoodD D → (∀ s ∈ l, 0 ≤ s.trust ∧ s.trust ≤ 1000) → GoodD (l.foldl addT D) := by
    intro l
    induction l with
    | nil => intro D h _; exact h
    | cons s l ih => intro D h hl; exact ih _ (good_add h (hl s (List.mem_cons_self ..))) fun t ht => hl t (List.mem_cons_of_mem _ ht)
  refine this l _ ⟨⟨_, rfl⟩, fun k _ => ?_⟩ h
  rw [WideAt.atKey_none _ (by intro p hp; cases hp)]
  exact ⟨Int.le_refl _, by decide⟩

def facts (es : List (Lit × DataW Unit)) : Int := es.foldr (fun p a => (1000 - nOf p.2) * a) 1
theorem strike {es : List (Lit × DataW Unit)} (hap : es.Pairwise (fun p q => p.1 ≠ q.1)) {kl : Lit} (hk : WideAt.IsKeyLit kl) {left : Lit → Bool} (hl : left kl = true) {d : DataW Unit} (hm : (kl, d) ∈ es) :
    facts (es.filter fun p => left p.1) = (1000 - nOf d) * facts (es.filter fun p => left p.1 && !p.1.sameKey kl) ∧ (es.filter fun p => left p.1).length = (es.filter fun p => left p.1 && !p.1.sameKey kl).length + 1 := by
  induction es with
  | nil => cases hm
  | cons q es ih =>
    rw [List.pairwise_cons] at hap
    rcases List.mem_cons.1 hm with e | hm'
    · have e1 : (es.filter fun p => left p.1 && !p.1.sameKey kl) = es.filter fun p => left p.1 := by
        refine List.filter_congr fun p hp => ?_
        have hne : p.1.sameKey kl = false := by
          cases hs : p.1.sameKey kl with
          | false => rfl
          | true => exact absurd (WideAt.sameKey_eq hs) (by have := hap.1 p hp; rw [← e] at this; exact fun x => this x.symm)
        rw [hne]; simp
      subst e
      rw [List.filter_cons, List.filter_cons, hl, WideAt.sameKey_self hk, e1]
      exact ⟨rfl, rfl⟩
    · obtain ⟨i1, i2⟩ := ih hap.2 hm'
      have hne : q.1.sameKey kl = false := by
        cases hs : q.1.sameKey kl with
        | false => rfl
        | true => exact absurd (WideAt.sameKey_eq hs) (hap.1 _ hm')
      rw [List.filter_cons, List.filter_cons, hne]
      cases hq : left q.1 with
      | false => exact ⟨i1, i2⟩
      | true =>
        refine ⟨?_, congrArg (· + 1) i2⟩
        show (1000 - nOf q.2) * facts _ = (1000 - nOf d) * ((1000 - nOf q.2) * facts _)
        rw [i1]; exact Int.mul_left_comm _ _ _

theorem ranges_mem {P : Program} {k : TypeId} {R : Value → Option (DataW Unit × List MemPlace)} {w : World} {b r n : Nat} {es0 : List (Lit × DataW Unit)} {left : Lit → Bool} {cnt : Nat}
    (h : w.ranges P k R b r n (.map es0) left cnt) {kl : Lit} (hl : left kl = true) : ∃ d, (kl, d) ∈ es0 := by
  obtain ⟨es, clock, since, seen, c0, _, _, _, hD, _, _, _, _, hex, _, _⟩ := h
  obtain ⟨x, hx, e⟩ := hex kl hl
  injection hD with hD
  exact ⟨(WideElems.rg P k R x).2, by rw [hD, ← e]; exact mem_sorted.2 (List.mem_map_of_mem hx)⟩

/-- what the range over the trusts has come to. -/
structure MidT (es0 : List (Lit × DataW Unit)) (left : Lit → Bool) (a b : Int) : Prop where
  prod : a * facts (es0.filter fun p => left p.1) = facts es0
  pow : b * 1000 ^ (es0.filter fun p => left p.1).length = 1000 ^ es0.length
  lo : 0 ≤ a
  hi : a ≤ b
theorem MidT.start {es0 : List (Lit × DataW Unit)} (hkeys : ∀ p ∈ es0, WideAt.IsKeyLit p.1) : MidT es0 (Maps.has (.map es0)) 1 1 := by
  have e : (es0.filter fun p => Maps.has (.map es0) p.1) = es0 := List.filter_eq_self.2 (fun p hp => List.any_eq_true.2 ⟨p, hp, WideAt.sameKey_self (hkeys p hp)⟩)
  exact ⟨by rw [e, Int.one_mul], by rw [e, Int.one_mul], by decide, by decide⟩
theorem MidT.stop {es0 : List (Lit × DataW Unit)} {left : Lit → Bool} {a b : Int} (h : MidT es0 left a b) (hl : ∀ kl, left kl = false) : a = facts es0 ∧ b = 1000 ^ es0.length := by
  have e : (es0.filter fun p => left p.1) = [] := List.filter_eq_nil_iff.2 (fun p _ => by simp [hl])
  have h1 := h.prod; have h2 := h.pow
  rw [e] at h1 h2
  exact ⟨by rw [← h1]; exact (Int.mul_one a).symm, by rw [← h2]; exact (Int.mul_one b).symm⟩
theorem pow_pos1000 (n : Nat) : (1 : Int) ≤ 1000 ^ n := by
  induction n with
  | zero => decide
  | succ n ih => rw [Int.pow_succ]; omega
theorem pow_le6 {n : Nat} (h : n ≤ 6) : (1000 : Int) ^ n ≤ 1000000000000000000 := by
  have : n = 0 ∨ n = 1 ∨ n = 2 ∨ n = 3 ∨ n = 4 ∨ n = 5 ∨ n = 6 := by omega
  rcases this with rfl | rfl | rfl | rfl | rfl | rfl | rfl <;> decide
theorem MidT.step {es0 : List (Lit × DataW Unit)} (hap : es0.Pairwise (fun p q => p.1 ≠ q.1)) (hn : es0.length ≤ 6) {left : Lit → Bool} {a b : Int} (h : MidT es0 left a b) {kl : Lit} (hk : WideAt.IsKeyLit kl) (hl : left kl = true) {c : Int} (hm : (kl, DataW.lit (.int .i64 c)) ∈ es0) (hc : 0 ≤ c ∧ c ≤ 1000) :
    MidT es0 (fun z => left z && !z.sameKey kl) (a * (1000 - c)) (b * 1000) ∧ a * (1000 - c) ≤ 1000000000000000000 ∧ b * 1000 ≤ 1000000000000000000 ∧ 0 ≤ a * (1000 - c) ∧ 0 ≤ b * 1000 := by
  obtain ⟨s1, s2⟩ := strike hap hk hl hm
  have h1 := h.prod; have h2 := h.pow; have h3 := h.lo; have h4 := h.hi
  rw [s1] at h1
  rw [s2] at h2
  have h0 : 0 ≤ a * (1000 - c) := Int.mul_nonneg h3 (by omega)
  have hle : a * (1000 - c) ≤ b * 1000 := Int.le_trans (Int.mul_le_mul_of_nonneg_left (by omega) h3) (Int.mul_le_mul_of_nonneg_right h4 (by decide))
  have hb : b * 1000 ≤ 1000000000000000000 := by
    refine Int.le_trans ?_ (pow_le6 hn)
    rw [← h2, Int.pow_succ]
    generalize hz : (1000 : Int) ^ (es0.filter fun p => left p.1 && !p.1.sameKey kl).length = z
    have hz1 : 1 ≤ z := by rw [← hz]; exact pow_pos1000 _
    rw [show b * (z * 1000) = b * 1000 * z by rw [Int.mul_comm z, Int.mul_assoc]]
    have hb0 : 0 ≤ b * 1000 := Int.le_trans h0 hle
    calc b * 1000 = b * 1000 * 1 := (Int.mul_one _).symm
      _ ≤ b * 1000 * z := Int.mul_le_mul_of_nonneg_left hz1 hb0
  refine ⟨⟨?_, ?_, h0, hle⟩, Int.le_trans hle hb, hb, h0, Int.le_trans h0 hle⟩
  · rw [Int.mul_assoc]; exact h1
  · rw [Int.mul_assoc, Int.mul_comm 1000, ← Int.pow_succ]; exact h2
end Go.Proofs.YtbfleemflhlfbaaGreatDoor
