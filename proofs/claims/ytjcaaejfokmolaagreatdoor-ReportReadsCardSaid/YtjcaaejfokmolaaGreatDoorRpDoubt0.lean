/- Several parts: What reports leave: a map of trusts (no walk in this text). Doubt. -/
import Derived.Test.YtjcaaejfokmolaaGreatDoorRpCheck
import Derived.Maps.RangeWalk
import Derived.Maps.OwnOps
import Derived.Maps.OwnSet
import Derived.Laws.ResultCell
import Derived.Sort.MapsRangeIn
/- What reports leave: a map of trusts (no walk in this text). -/
namespace Go.Proofs.YtjcaaejfokmolaaGreatDoor
open Go.RowKit Go.Maps

def nOf : DataW Unit → Int
  | .lit (.int _ c) => c
  | _ => 0
def lit0 : DataW Unit := .lit (.int .i64 0)
def keyL (s : ByteArray) : Lit := .string s.data.toList
def addT (D : DataW Unit) (s : St) : DataW Unit := D.put (keyL s.src) (.lit (.int .i64 (max (nOf (D.atKey (keyL s.src) lit0)) s.trust)))
def trustsOf (l : List St) : DataW Unit := l.foldl addT (.map [])
theorem trusts_snoc (l : List St) (s : St) : trustsOf (l ++ [s]) = addT (trustsOf l) s := by
  unfold trustsOf; rw [List.foldl_append]; rfl

/-- a map whose trusts lie in their range. -/
def GoodD (D : DataW Unit) : Prop := IsMap D ∧ ∀ k, WideAt.IsKeyLit k → 0 ≤ nOf (D.atKey k lit0) ∧ nOf (D.atKey k lit0) ≤ 1000
theorem good_add {D : DataW Unit} (h : GoodD D) {s : St} (hs : 0 ≤ s.trust ∧ s.trust ≤ 1000) : GoodD (addT D s) := by
  refine ⟨h.1.put _ _, fun k hk => ?_⟩
  have h0 := h.2 (keyL s.src) trivial
  unfold addT
  by_cases e : k = keyL s.src
  · rw [e, atKey_put_same h.1 (k := keyL s.src) trivial]
    show 0 ≤ max _ _ ∧ max _ _ ≤ 1000
    omega
  · rw [atKey_put_other e]; exact h.2 k hk
theorem trusts_good {l : List St} (h : ∀ s ∈ l, 0 ≤ s.trust ∧ s.trust ≤ 1000) : GoodD (trustsOf l) := by
  have : ∀ (l : List St) (D : DataW Unit), GoodD D → (∀ s ∈ l, 0 ≤ s.trust ∧ s.trust ≤ 1000) → GoodD (l.foldl addT D) := by
    intro l
    induction l with
    | nil => intro D h _; exact h
    | cons s l ih => intro D h hl; exact ih _ (good_add h (hl s (List.mem_cons_self ..))) fun t ht => hl t (List.mem_cons_of_mem _ ht)
  refine this l _ ⟨⟨_, rfl⟩, fun k _ => ?_⟩ h
  rw [WideAt.atKey_none _ (by intro p hp; cases hp)]
  exact ⟨Int.le_refl _, by decide⟩

def facts (es : List (Lit × DataW Unit)) : Int := es.foldr (fun p a => (1000 - nOf p.2) * a) 1
theorem strike {es : List (Lit × DataW Unit)} (hap : es.Pairwise (fun p q => p.1 ≠ q.1)) {kl : Lit} (hk : WideAt.IsKeyLit kl) {left : Lit → Bool} (hl : left kl = true) {d : DataW Unit} (hm : (kl, d) ∈ es) :
    facts (es.filter fun p => left p.1) = (1000 - nOf d) * facts (es.filter fun p => left p.1 && !p.1.sameKey kl) ∧ (es.filter fun p => left p.1).length = (es.filter fun p => left p.1 && !p.1.sameKey kl).length + 1 := by
  induction es with
  | nil => cases hm
  | cons q es ih =>
    rw [List.pairwise_cons] at hap
    rcases List.mem_cons.1 hm with e | hm'
    · have e1 : (es.filter fun p => left p.1 && !p.1.sameKey kl) = es.filter fun p => left p.1 := by
        refine List.filter_congr fun p hp => ?_
        have hne : p.1.sameKey kl = false := by
          cases hs : p.1.sameKey kl with
          | false => rfl
          | true => exact absurd (WideAt.sameKey_eq hs) (by have := hap.1 p hp; rw [← e] at this; exact fun x => this x.symm)
        rw [hne]; simp
      subst e
      rw [List.filter_cons, List.filter_cons, hl, WideAt.sameKey_self hk, e1]
      exact ⟨rfl, rfl⟩
    · obtain ⟨i1, i2⟩ := ih hap.2 hm'
      have hne : q.1.sameKey kl = false := by
        cases hs : q.1.sameKey kl with
        | false => rfl
        | true => exact absurd (WideAt.sameKey_eq hs) (hap.1 _ hm')
      rw [List.filter_cons, List.filter_cons, hne]
      cases hq : left q.1 with
      | false => exact ⟨i1, i2⟩
      | true =>
        refine ⟨?_, congrArg (· + 1) i2⟩
        show (1000 - nOf q.2) * facts _ = (1000 - nOf d) * ((1000 - nOf q.2) * facts _)
        rw [i1]; exact Int.mul_left_comm _ _ _

theorem ranges_mem {P : Program} {k : TypeId} {R : Value → Option (DataW Unit × List MemPlace)} {w : World} {b r n : Nat} {es0 : List (Lit × DataW Unit)} {left : Lit → Bool} {cnt : Nat}
    (h : w.ranges P k R b r n (.map es0) left cnt) {kl : Lit} (hl : left kl = true) : ∃ d, (kl, d) ∈ es0 := by
  obtain ⟨es, clock, since, seen, c0, _, _, _, hD, _, _, _, _, hex, _, _⟩ := h
  obtain ⟨x, hx, e⟩ := hex kl hl
  injection hD with hD
  exact ⟨(WideElems.rg P k R x).2, by rw [hD, ← e]; exact mem_sorted.2 (List.mem_map_of_mem hx)⟩

/-- what the range over the trusts has come to. -/
structure MidT (es0 : List (Lit × DataW Unit)) (left : Lit → Bool) (a b : Int) : Prop where
  prod : a * facts (es0.filter fun p => left p.1) = facts es0
  pow : b * 1000 ^ (es0.filter fun p => left p.1).length = 1000 ^ es0.length
  lo : 0 ≤ a
  hi : a ≤ b
theorem MidT.start {es0 : List (Lit × DataW Unit)} (hkeys : ∀ p ∈ es0, WideAt.IsKeyLit p.1) : MidT es0 (Maps.has (.map es0)) 1 1 := by
  have e : (es0.filter fun p => Maps.has (.map es0) p.1) = es0 := List.filter_eq_self.2 (fun p hp => List.any_eq_true.2 ⟨p, hp, WideAt.sameKey_self (hkeys p hp)⟩)
  exact ⟨by rw [e, Int.one_mul], by rw [e, Int.one_mul], by decide, by decide⟩
theorem MidT.stop {es0 : List (Lit × DataW Unit)} {left : Lit → Bool} {a b : Int} (h : MidT es0 left a b) (hl : ∀ kl, left kl = false) : a = facts es0 ∧ b = 1000 ^ es0.length := by
  have e : (es0.filter fun p => left p.1) = [] := List.filter_eq_nil_iff.2 (fun p _ => by simp [hl])
  have h1 := h.prod; have h2 := h.pow
  rw [e] at h1 h2
  exact ⟨by rw [← h1]; exact (Int.mul_one a).symm, by rw [← h2]; exact (Int.mul_one b).symm⟩
theorem pow_pos1000 (n : Nat) : (1 : Int) ≤ 1000 ^ n := by
  induction n with
  | zero => decide
  | succ n ih => rw [Int.pow_succ]; omega
theorem pow_le6 {n : Nat} (h : n ≤ 6) : (1000 : Int) ^ n ≤ 1000000000000000000 := by
  have : n = 0 ∨ n = 1 ∨ n = 2 ∨ n = 3 ∨ n = 4 ∨ n = 5 ∨ n = 6 := by omega
  rcases this with rfl | rfl | rfl | rfl | rfl | rfl | rfl <;> decide
theorem MidT.step {es0 : List (Lit × DataW Unit)} (hap : es0.Pairwise (fun p q => p.1 ≠ q.1)) (hn : es0.length ≤ 6) {left : Lit → Bool} {a b : Int} (h : MidT es0 left a b) {kl : Lit} (hk : WideAt.IsKeyLit kl) (hl : left kl = true) {c : Int} (hm : (kl, DataW.lit (.int .i64 c)) ∈ es0) (hc : 0 ≤ c ∧ c ≤ 1000) :
    MidT es0 (fun z => left z && !z.sameKey kl) (a * (1000 - c)) (b * 1000) ∧ a * (1000 - c) ≤ 1000000000000000000 ∧ b * 1000 ≤ 1000000000000000000 ∧ 0 ≤ a * (1000 - c) ∧ 0 ≤ b * 1000 := by
  obtain ⟨s1, s2⟩ := strike hap hk hl hm
  have h1 := h.prod; have h2 := h.pow; have h3 := h.lo; have h4 := h.hi
  rw [s1] at h1
  rw [s2] at h2
  have h0 : 0 ≤ a * (1000 - c) := Int.mul_nonneg h3 (by omega)
  have hle : a * (1000 - c) ≤ b * 1000 := Int.le_trans (Int.mul_le_mul_of_nonneg_left (by omega) h3) (Int.mul_le_mul_of_nonneg_right h4 (by decide))
  have hb : b * 1000 ≤ 1000000000000000000 := by
    refine Int.le_trans ?_ (pow_le6 hn)
    rw [← h2, Int.pow_succ]
    generalize hz : (1000 : Int) ^ (es0.filter fun p => left p.1 && !p.1.sameKey kl).length = z
    have hz1 : 1 ≤ z := by rw [← hz]; exact pow_pos1000 _
    rw [show b * (z * 1000) = b * 1000 * z by rw [Int.mul_comm z, Int.mul_assoc]]
    have hb0 : 0 ≤ b * 1000 := Int.le_trans h0 hle
    calc b * 1000 = b * 1000 * 1 := (Int.mul_one _).symm
      _ ≤ b * 1000 * z := Int.mul_le_mul_of_nonneg_left hz1 hb0
  refine ⟨⟨?_, ?_, h0, hle⟩, Int.le_trans hle hb, hb, h0, Int.le_trans h0 hle⟩
  · rw [Int.mul_assoc]; exact h1
  · rw [Int.mul_assoc, Int.mul_comm 1000, ← Int.pow_succ]; exact h2
end Go.Proofs.YtjcaaejfokmolaaGreatDoor
/- Doubt. -/
namespace Go.Proofs.YtjcaaejfokmolaaGreatDoor
open Go.RowKit Go.Maps Go.WideMaps

abbrev Rpt := St × Value × Bool
/-- the seven cells of a report. -/
structure RepAt (w : World) (b o : Nat) (s : St) (wv : Value) : Prop where
  c0 : w.cell? ⟨b, o, none⟩ = some (.int .i64 s.kind)
  c1 : w.cell? ⟨b, o + 1, none⟩ = some (.int .i64 s.time)
  c2 : w.cell? ⟨b, o + 2, none⟩ = some (.string s.src)
  c3 : w.cell? ⟨b, o + 3, none⟩ = some (.string s.abt)
  c4 : w.cell? ⟨b, o + 4, none⟩ = some wv
  c5 : w.cell? ⟨b, o + 5, none⟩ = some (.int .i64 s.souls)
  c6 : w.cell? ⟨b, o + 6, none⟩ = some (.int .i64 s.trust)
theorem RepAt.keep {w w' : World} {b o : Nat} {s : St} {wv : Value} (h : RepAt w b o s wv) {n : Nat} (hb : Below n w w') (hbn : b < n) : RepAt w' b o s wv := by
  have k : ∀ i, w'.cell? ⟨b, i, none⟩ = w.cell? ⟨b, i, none⟩ := fun i => hb.cell (p := ⟨b, i, none⟩) hbn
  exact ⟨(k _).trans h.c0, (k _).trans h.c1, (k _).trans h.c2, (k _).trans h.c3, (k _).trans h.c4, (k _).trans h.c5, (k _).trans h.c6⟩
/-- a report that can be checked. -/
def Says (w : World) (r : Rpt) : Prop := (∃ A n cap, r.2.1 = .slice A n cap) ∧ AreaSays w r.2.1 r.2.2 ∧ r.1.abt.size ≤ 9223372036854775807 ∧ r.1.src.size ≤ 9223372036854775807
theorem Says.keep {w w' : World} {r : Rpt} (h : Says w r) (hb : Below w.heap.size w w') : Says w' r :=
  ⟨h.1, fun W hW => h.2.1 W (below_chain hb hW), h.2.2⟩
theorem Says.check {w : World} {s : St} {wv : Value} {q : Bool} (h : Says w (s, wv, q)) : Calls Tryz.prog 16 #[repV s wv] w fun e w' => e = .returned (.bool (checkB s q)) ∧ Below w.heap.size w w' := by
  obtain ⟨⟨A, n, cap, h1⟩, h2, h3, h4⟩ := h
  exact CheckReport_any s wv A n cap h1 w q h2 h3 h4

theorem lawS : Keyed Tryz.prog 9 := string_keyed Tryz.underlying9
theorem zeroI (w : World) : (zeroValue 3).run Tryz.prog w = .ok (.int .i64 0) w := by kernel_rfl

theorem check_trust {s : St} {q : Bool} (h : checkB s q = true) : 0 ≤ s.trust ∧ s.trust ≤ 1000 := by
  unfold checkB at h
  simp only [Bool.and_eq_true] at h
  exact inB_true.1 h.2.2.2.2.2.2

def sts (l : List Rpt) : List St := l.map (·.1)
def allOk (l : List Rpt) : Bool := l.all fun r => checkB r.1 r.2.2
def entriesOf : DataW Unit → List (Lit × DataW Unit)
  | .map es => es
  | _ => []
/-- what Doubt answers. -/
def doubtV (l : List Rpt) : Value :=
  if l = [] then .tuple #[.int .i64 0, .int .i64 0, .int .i64 7]
  else if allOk l then
    (if Maps.size (trustsOf (sts l)) > 6 then .tuple #[.int .i64 0, .int .i64 0, .int .i64 3]
    else .tuple #[.int .i64 (facts (entriesOf (trustsOf (sts l)))), .int .i64 (1000 ^ (entriesOf (trustsOf (sts l))).length), .int .i64 0])
  else .tuple #[.int .i64 0, .int .i64 0, .int .i64 2]

set_option maxHeartbeats 1000000 in
theorem Doubt_none (A : Option Addr) (cap : Nat) (w : World) :
    Calls Tryz.prog 29 #[.slice A 0 cap] w fun e w' => e = .returned (doubtV []) ∧ w = w' := by
  go_enter Tryz.func29, Tryz.ntmps29
  go_wp2
  exact bodyPost_ret (v := doubtV []) (by simp [results, Tryz.results29, go_sem, doubtV]) rfl ⟨rfl, rfl⟩

theorem take_snoc {α : Type} {l : List α} {k : Nat} {r : α} (h : l[k]? = some r) : l.take (k + 1) = l.take k ++ [r] := by
  obtain ⟨hk, e⟩ := List.getElem?_eq_some_iff.1 h
  rw [List.take_succ_eq_append_getElem hk, e]
theorem trusts_next {l : List Rpt} {k : Nat} {s : St} {wv : Value} {q : Bool} (h : l[k]? = some (s, wv, q)) {c : Int} (hat : (trustsOf (sts (l.take k))).atKey (keyL s.src) lit0 = .lit (.int .i64 c)) :
    trustsOf (sts (l.take (k + 1))) = (trustsOf (sts (l.take k))).put (keyL s.src) (.lit (.int .i64 (max c s.trust))) := by
  rw [take_snoc h]
  unfold sts
  rw [List.map_append]
  show trustsOf (_ ++ [s]) = _
  rw [trusts_snoc]
  show addT (trustsOf (sts (l.take k))) s = _
  unfold addT
  rw [hat]; rfl
theorem ok_next {l : List Rpt} {k : Nat} {s : St} {wv : Value} {q : Bool} (h : l[k]? = some (s, wv, q)) (h1 : allOk (l.take k) = true) (h2 : checkB s q = true) : allOk (l.take (k + 1)) = true := by
  rw [take_snoc h]
  unfold allOk at h1 ⊢
  rw [List.all_append, h1]
  simp [h2]

theorem ok_trust {l : List Rpt} (h : allOk l = true) : ∀ s ∈ sts l, 0 ≤ s.trust ∧ s.trust ≤ 1000 := by
  intro s hs
  unfold sts at hs
  obtain ⟨r, hr, rfl⟩ := List.mem_map.1 hs
  unfold allOk at h
  exact check_trust (List.all_eq_true.1 h r hr)

theorem some_bad {l : List Rpt} {k : Nat} {s : St} {wv : Value} {q : Bool} (hk : l[k]? = some (s, wv, q)) (h : checkB s q = false) : doubtV l = .tuple #[.int .i64 0, .int .i64 0, .int .i64 2] := by
  have hm : (s, wv, q) ∈ l := List.mem_of_getElem? hk
  have h1 : l ≠ [] := fun e => by rw [e] at hm; cases hm
  have h2 : allOk l = false := by
    unfold allOk
    rw [List.all_eq_false]
    exact ⟨_, hm, by rw [h]; decide⟩
  unfold doubtV
  rw [if_neg h1, h2, if_neg (by decide)]

set_option maxRecDepth 100000 in
set_option maxHeartbeats 4000000 in
theorem Doubt_some (l : List Rpt) (b off cap : Nat) (hl : l ≠ []) (hlen : l.length ≤ 70368744177664) (w : World) (hb : b < w.heap.size)
    (hat : ∀ k s wv q, l[k]? = some (s, wv, q) → RepAt w b (off + k * 7) s wv) (hsay : ∀ r ∈ l, Says w r) :
    Calls Tryz.prog 29 #[.slice (some ⟨b, off, none⟩) l.length cap] w fun e w' => e = .returned (doubtV l) ∧ Below w.heap.size w w' := by
  have hmm := @run_makeMap Tryz.prog
  obtain ⟨len, hln⟩ : ∃ len, len = l.length := ⟨_, rfl⟩
  have hl0 : len ≠ 0 := by rw [hln]; intro e; exact hl (List.length_eq_zero_iff.1 e)
  rw [← hln] at hlen ⊢
  have HLN := Lib.hid hln; have HAT := Lib.hid hat; have HSAY := Lib.hid hsay
  clear hln hat hsay hl
  have hz0 : ((len : Int) == 0) = false := by simp; omega
  go_enter Tryz.func29, Tryz.ntmps29
  go_wp2
  go_loopw [16] (fun i wr => ∃ k : Nat, k ≤ len ∧ i = .int .i64 k ∧ wr.ownsMap Tryz.prog 9 (plainElem Tryz.prog 3) w.heap.size k (trustsOf (sts (l.take k))) ∧ Below w.heap.size w wr ∧ allOk (l.take k) = true)
    (fun i _ => len - (intOf i).toNat)
  case atStart => exact ⟨0, Nat.zero_le _, rfl, World.ownsMap_made _ _ _ _, (Below.refl _ _).alloc (Nat.le_refl _) _, rfl⟩
  case round =>
    obtain ⟨k, hk, rfl, hown, hbw, hok⟩ := hrel
    by_cases hlt : k < len
    · obtain ⟨⟨s, wv, q⟩, hgk⟩ : ∃ r : Rpt, l[k]? = some r := by
        have : k < l.length := by rw [← HLN.out]; exact hlt
        exact ⟨_, List.getElem?_eq_getElem this⟩
      have hsz : s.src.size ≤ maxLen := by
        have := (HSAY.out _ (List.mem_of_getElem? hgk)).2.2.2
        unfold maxLen; simpa using this
      obtain ⟨A, n, cp, hwv⟩ := (HSAY.out _ (List.mem_of_getElem? hgk)).1
      simp only at hwv
      subst hwv
      obtain ⟨c0, c1, c2, c3, c4, c5, c6⟩ := (HAT.out k s _ q hgk).keep hbw hb
      have HSC := Lib.hid ((HSAY.out _ (List.mem_of_getElem? hgk)).keep hbw)
      have HGK := Lib.hid hgk; have HOWN := Lib.hid hown; have HBW := Lib.hid hbw; have HOK := Lib.hid hok
      clear hgk hown hbw hok
      go_wp2_with fail
      obtain ⟨W2, hW2⟩ : ∃ W2, W2 = wr.alloc (.cells #[.int .i64 s.kind, .int .i64 s.time, .string s.src, .string s.abt, .slice A n cp, .int .i64 s.souls, .int .i64 s.trust] 29) := ⟨_, rfl⟩
      rw [← hW2]
      have h2b : Below wr.heap.size wr W2 := by rw [hW2]; exact (Below.refl _ _).alloc (Nat.le_refl _) _
      have h2x : W2.heap[wr.heap.size]? = some (.cells #[.int .i64 s.kind, .int .i64 s.time, .string s.src, .string s.abt, .slice A n cp, .int .i64 s.souls, .int .i64 s.trust] 29 (0, 0)) := by rw [hW2]; exact heap_alloc_new wr _
      have h2s : wr.heap.size < W2.heap.size := by rw [hW2]; simp
      clear hW2 c0 c1 c2 c3 c4 c5 c6
      refine (Says.check (HSC.out.keep h2b)).mono ?_
      rintro e w3 ⟨rfl, hb3⟩
      have h3x := (hb3.block wr.heap.size h2s).trans h2x
      have y2 : w3.cell? ⟨wr.heap.size, 2, none⟩ = some (.string s.src) := by simp [World.cell?, h3x]
      have y6 : w3.cell? ⟨wr.heap.size, 6, none⟩ = some (.int .i64 s.trust) := by simp [World.cell?, h3x]
      have h3b := below_chain h2b hb3
      have h3w := HBW.out.trans (h3b.mono HBW.out.size)
      have hown := HOWN.out.kept (grown_below (r := none) h3b) (by simp)
      have H3W := Lib.hid h3w
      clear h2b h2x h2s hb3 h3x h3b h3w HSC HSAY HAT HBW
      cases hck : checkB s q with
      | false =>
        have HV := Lib.hid (some_bad HGK.out hck)
        clear hck
        go_wp2
        exact bodyPost_ret (v := .tuple #[.int .i64 0, .int .i64 0, .int .i64 2]) (by simp [results, Tryz.results29, go_sem]) rfl ⟨by rw [HV.out], H3W.out⟩
      | true =>
        have HCK := Lib.hid hck
        have htr := check_trust hck
        clear hck
        have HG : Hid (∀ c : Int, (trustsOf (sts (l.take k))).atKey (keyL s.src) lit0 = .lit (.int .i64 c) → 0 ≤ c ∧ c ≤ 1000) := Lib.hid fun c e => by
          have := (trusts_good (ok_trust HOK.out)).2 (keyL s.src) trivial
          rw [e] at this; exact this
        have hkey : keyOf Tryz.prog 9 (.string s.src) = some (keyL s.src) := keyOf_string_mk Tryz.underlying9 hsz
        go_wp2_with (first
          | (at_lookup; refine wpList_lookup_own_int _ rfl _ _ 108 rfl 9 3 .i64 lawS Tryz.underlying108 Tryz.underlying3 (zeroI _) w.heap.size k _ rfl hown _ _ rfl hkey ?_; intro c hatc hwc)
          | (at_mapUpdate; refine wpList_mapUpdate_own _ rfl _ _ _ 108 rfl 9 3 lawS Tryz.underlying108 _ w.heap.size k _ rfl hown (by unfold maxLen; omega) _ _ _ rfl rfl hkey _ [] (plainElem_int Tryz.underlying3 (WalkArith.wf_i64 (by have := HG.out _ hatc; omega))) ?_; intro w4 hown1 hgrow1)
          | go_in)
        go_roundw
        case rel =>
          refine ⟨k + 1, by omega, by go_num, ?_, H3W.out.grown hgrow1 H3W.out.size (fun j hj => by cases hj; exact Nat.le_refl _), ok_next HGK.out HOK.out HCK.out⟩
          rw [trusts_next HGK.out hatc]; exact hown1
        case measure => simp [intOf]; omega
    · have hkl : k = len := by omega
      subst hkl
      have hall : l.take k = l := by rw [HLN.out]; exact List.take_length
      rw [hall] at hown hok
      have hne : l ≠ [] := by intro e; rw [e] at HLN; exact hl0 HLN.out
      obtain ⟨es, hes, hap, hkeys⟩ := hown.entries lawS
      have hgd := trusts_good (ok_trust hok)
      have HV : Hid (doubtV l = if es.length > 6 then .tuple #[.int .i64 0, .int .i64 0, .int .i64 3] else .tuple #[.int .i64 (facts es), .int .i64 (1000 ^ es.length), .int .i64 0]) := Lib.hid (by
        unfold doubtV
        rw [if_neg hne, if_pos hok, hes]; rfl)
      rw [hes] at hown hgd
      have HGD := Lib.hid hgd; have HAP := Lib.hid hap; have HKEYS := Lib.hid hkeys; have HBW := Lib.hid hbw
      clear hgd hap hkeys hbw hes hne hall hok hl0 HSAY HAT HLN
      have hlenrun := fun ty => hown.len Tryz.underlying108 ty
      obtain ⟨m, hm⟩ : ∃ m, m = es.length := ⟨_, rfl⟩
      rw [show Maps.size (DataW.map es) = m from hm.symm] at hlenrun
      by_cases h6 : m > 6
      · have h6' : ((m : Int) ≤ 6) = False := by simp; omega
        rw [← hm, if_pos h6] at HV
        clear hm
        go_wp2
        exact bodyPost_ret (v := .tuple #[.int .i64 0, .int .i64 0, .int .i64 3]) (by simp [results, Tryz.results29, go_sem]) rfl ⟨by rw [HV.out], HBW.out⟩
      · rw [if_neg (by rw [← hm]; exact h6)] at HV
        have h6' : ((m : Int) ≤ 6) = True := by simp; omega
        go_wp2_with (first
          | (at_range; refine wpList_range_own _ rfl _ 108 rfl 9 3 lawS Tryz.underlying108 _ w.heap.size k _ rfl hown ?_; intro w0 hrg0 hg0 hs0)
          | go_in)
        have h6l : es.length ≤ 6 := by omega
        have HN0 : Hid (wr.heap.size ≠ w.heap.size) := Lib.hid hrg0.ne
        have hbw0 : Below w.heap.size w w0 := HBW.out.grown hg0 HBW.out.size (fun j hj => by cases hj)
        have hmid := MidT.start HKEYS.out
        have HBS : Hid (w.heap.size ≤ wr.heap.size) := Lib.hid HBW.out.size
        clear hm h6' h6 hlenrun hown hg0 hs0 HBW
        generalize wr.heap.size = R at hrg0 HN0 HBS ⊢
        go_frame
        go_loopw [2, 3] (fun x y ww => ∃ (left : Lit → Bool) (cnt : Nat) (p q : Int), ww.ranges Tryz.prog 9 (plainElem Tryz.prog 3) w.heap.size R k (.map es) left cnt ∧ MidT es left p q ∧ Below w.heap.size w ww ∧ x = .int .i64 p ∧ y = .int .i64 q)
          (fun _ _ ww => ww.rangeLeft w.heap.size R)
        case atStart => exact ⟨_, _, 1, 1, hrg0, hmid, hbw0, rfl, rfl⟩
        case round =>
          obtain ⟨left, cnt, p, q, hrg, hmd, hbd, rfl, rfl⟩ := hrel
          go_wp2_with (first
            | (at_next; refine wpList_next_ranges _ rfl _ rfl 9 lawS (plainElem Tryz.prog 3) Value.string (Value.int .i64) (fun key kl hk => Maps.keyOf_string_inv Tryz.underlying9 hk) (fun v z hv => by obtain ⟨c, rfl, _⟩ := plainElem_int_inv Tryz.underlying3 hv; exact ⟨c, rfl⟩) w.heap.size R k _ _ _ rfl hrg ?_ ?_)
            | go_in)
          · intro _ hl0
            obtain ⟨e1, e2⟩ := hmd.stop hl0
            subst e1 e2
            go_wp2
            exact bodyPost_ret (v := .tuple #[.int .i64 (facts es), .int .i64 (1000 ^ es.length), .int .i64 0]) (by simp [results, Tryz.results29, go_sem]) rfl ⟨by rw [HV.out], hbd⟩
          · intro x c kl y ps w1 cnt1 hkx hlx hy hat hrg1 hlt hg1 hs1 hen
            obtain ⟨d, hd⟩ := ranges_mem hrg hlx
            have hkl := HKEYS.out _ hd
            obtain ⟨c', ec, ey, _⟩ := plainElem_int_inv Tryz.underlying3 hy
            cases ec
            cases ey
            have hdc : d = .lit (.int .i64 c) := (WideAt.atKey_mem lit0 hkl HAP.out hd).symm.trans (hat lit0)
            subst hdc
            have hcr : 0 ≤ c ∧ c ≤ 1000 := by
              have := HGD.out.2 kl hkl
              rw [hat lit0] at this; exact this
            obtain ⟨hm2, b1, b2, b3, b4⟩ := MidT.step HAP.out h6l hmd hkl hlx hd hcr
            obtain ⟨hc0, hc1⟩ := hcr
            have i1 : IntKind.i64.wrap (1000 - c) = 1000 - c := IntWalk.i64_in _ (by omega)
            have i2 : IntKind.i64.wrap (p * (1000 - c)) = p * (1000 - c) := IntWalk.i64_in _ (by omega)
            have i3 : IntKind.i64.wrap (q * 1000) = q * 1000 := IntWalk.i64_in _ (by omega)
            have HM2 := Lib.hid hm2
            have hb2 : Below w.heap.size w w1 := hbd.grown hg1 hbd.size (fun j hj => by cases hj; exact HBS.out)
            have HB2 := Lib.hid hb2; have HR1 := Lib.hid hrg1; have HLT := Lib.hid hlt
            have HLE := Lib.hid hrg.left_eq
            have HLE1 := Lib.hid hrg1.left_eq
            clear hm2 hb2 hrg1 hlt hrg hmd hbd hg1 hs1 hy hat hd hkx b1 b2 b3 b4
            go_wp2
            go_roundw
            case rel => exact ⟨_, cnt1, _, _, HR1.out, HM2.out, HB2.out, rfl, rfl⟩
            case measure => rw [HLE.out, HLE1.out]; exact HLT.out
end Go.Proofs.YtjcaaejfokmolaaGreatDoor
