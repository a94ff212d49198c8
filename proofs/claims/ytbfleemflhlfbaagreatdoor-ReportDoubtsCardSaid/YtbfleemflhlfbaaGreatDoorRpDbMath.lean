/- What Doubt answers over a map of trusts is what the document's Doubt answers by the reports that count (no walk in this text). -/
import Derived.Test.YtbfleemflhlfbaaGreatDoorRpDbRef
namespace Go.Proofs.YtbfleemflhlfbaaGreatDoor
open Go.RowKit Go.Maps

def prodF {α : Type} (F : α → Int) (l : List α) : Int := l.foldr (fun k a => F k * a) 1
theorem prod_mid {α : Type} (F : α → Int) (l1 l2 : List α) (k : α) : prodF F (l1 ++ k :: l2) = F k * prodF F (l1 ++ l2) := by
  induction l1 with
  | nil => rfl
  | cons a r ih =>
    show F a * prodF F (r ++ k :: l2) = F k * (F a * prodF F (r ++ l2))
    rw [ih]; exact Int.mul_left_comm _ _ _
/-- two lists without doubles that have the same elements have the same product, and length. -/
theorem prod_same {α : Type} (F : α → Int) : ∀ l m : List α, l.Nodup → m.Nodup → (∀ x, x ∈ l ↔ x ∈ m) → prodF F l = prodF F m ∧ l.length = m.length := by
  intro l
  induction l with
  | nil =>
    intro m _ _ h
    cases m with
    | nil => exact ⟨rfl, rfl⟩
    | cons a r => exact absurd ((h a).2 (List.mem_cons_self ..)) (by simp)
  | cons x l ih =>
    intro m hl hm h
    obtain ⟨m1, m2, rfl⟩ := List.append_of_mem ((h x).1 (List.mem_cons_self ..))
    rw [List.nodup_cons] at hl
    have hm' := hm
    rw [List.nodup_append] at hm'
    obtain ⟨n1, n2, n3⟩ := hm'
    rw [List.nodup_cons] at n2
    have hx1 : x ∉ m1 := fun hx => n3 x hx x (List.mem_cons_self ..) rfl
    have e : ∀ y, y ∈ l ↔ y ∈ m1 ++ m2 := by
      intro y
      have hy := h y
      simp only [List.mem_cons, List.mem_append] at hy ⊢
      constructor
      · intro hyl
        have hne : y ≠ x := fun e => hl.1 (e ▸ hyl)
        rcases hy.1 (Or.inr hyl) with h1 | h2 | h3
        · exact Or.inl h1
        · exact absurd h2 hne
        · exact Or.inr h3
      · intro hym
        have hne : y ≠ x := by
          rintro rfl
          rcases hym with h1 | h2
          · exact hx1 h1
          · exact n2.1 h2
        rcases hy.2 (by rcases hym with h1 | h2; exact Or.inl h1; exact Or.inr (Or.inr h2)) with h1 | h2
        · exact absurd h1 hne
        · exact h2
    obtain ⟨i1, i2⟩ := ih (m1 ++ m2) hl.2 (List.nodup_append.2 ⟨n1, n2.2, fun a ha b hb => n3 a ha b (List.mem_cons_of_mem _ hb)⟩) e
    refine ⟨?_, ?_⟩
    · rw [prod_mid]; show F x * prodF F l = _; rw [i1]
    · simp only [List.length_cons, List.length_append] at i2 ⊢; omega

/-- the greatest trust of a source. -/
def mxF (u : List UInt8) (a : Int) (l : List St) : Int := l.foldl (fun a s => if s.src.data.toList = u then max a s.trust else a) a
theorem mx_cons (u : List UInt8) (a : Int) (s : St) (l : List St) : mxF u a (s :: l) = mxF u (if s.src.data.toList = u then max a s.trust else a) l := rfl
theorem lit_ne {u v : List UInt8} (h : v ≠ u) : Lit.string u ≠ Lit.string v := fun e => h (by injection e with e; exact e.symm)
theorem trusts_at (u : List UInt8) : ∀ (l : List St) (D : DataW Unit), IsMap D → nOf ((l.foldl addT D).atKey (.string u) lit0) = mxF u (nOf (D.atKey (.string u) lit0)) l := by
  intro l
  induction l with
  | nil => intro D _; rfl
  | cons s l ih =>
    intro D hD
    rw [List.foldl_cons, mx_cons, ih (addT D s) (hD.put _ _)]
    congr 1
    unfold addT
    by_cases e : s.src.data.toList = u
    · subst e
      rw [if_pos rfl]
      show nOf ((D.put (keyL s.src) _).atKey (keyL s.src) lit0) = _
      rw [atKey_put_same hD (k := keyL s.src) trivial]
      rfl
    · rw [if_neg e, atKey_put_other (show Lit.string u ≠ keyL s.src from lit_ne e)]
theorem trusts_mx (u : List UInt8) (l : List St) : nOf ((trustsOf l).atKey (.string u) lit0) = mxF u 0 l := trusts_at u l _ ⟨_, rfl⟩
theorem trusts_has (u : Lit) : ∀ (l : List St) (D : DataW Unit), IsMap D → (has (l.foldl addT D) u = true ↔ has D u = true ∨ ∃ s ∈ l, keyL s.src = u) := by
  intro l
  induction l with
  | nil => intro D _; simp
  | cons s l ih =>
    intro D hD
    rw [List.foldl_cons, ih (addT D s) (hD.put _ _)]
    unfold addT
    by_cases e : keyL s.src = u
    · subst e
      rw [has_put_same hD (k := keyL s.src) trivial]
      simp
    · rw [has_put_other (Ne.symm e)]
      simp [e]
theorem mx_up (u : List UInt8) : ∀ (l : List St) (a : Int), a ≤ mxF u a l := by
  intro l
  induction l with
  | nil => intro a; exact Int.le_refl _
  | cons s l ih =>
    intro a
    rw [mx_cons]
    refine Int.le_trans ?_ (ih _)
    split <;> omega
theorem mx_ge {u : List UInt8} : ∀ (l : List St) (a : Int) {s : St}, s ∈ l → s.src.data.toList = u → s.trust ≤ mxF u a l := by
  intro l
  induction l with
  | nil => intro a s h; cases h
  | cons x l ih =>
    intro a s h e
    rw [mx_cons]
    rcases List.mem_cons.1 h with rfl | h
    · refine Int.le_trans ?_ (mx_up u l _)
      rw [if_pos e]; omega
    · exact ih _ h e
theorem mx_le {u : List UInt8} {c : Int} : ∀ (l : List St) (a : Int), a ≤ c → (∀ s ∈ l, s.src.data.toList = u → s.trust ≤ c) → mxF u a l ≤ c := by
  intro l
  induction l with
  | nil => intro a h _; exact h
  | cons x l ih =>
    intro a h hs
    rw [mx_cons]
    refine ih _ ?_ fun s h' => hs s (List.mem_cons_of_mem _ h')
    split
    · rename_i e; have := hs x (List.mem_cons_self ..) e; omega
    · exact h

theorem find_is {es : List (Lit × DataW Unit)} (hap : es.Pairwise (fun p q => p.1 ≠ q.1)) (hk : ∀ p ∈ es, WideAt.IsKeyLit p.1) {p : Lit × DataW Unit} (hp : p ∈ es) : es.find? (fun q => q.1.sameKey p.1) = some p := by
  induction es with
  | nil => cases hp
  | cons q r ih =>
    rw [List.pairwise_cons] at hap
    rcases List.mem_cons.1 hp with rfl | hp'
    · rw [List.find?_cons_of_pos (by exact WideAt.sameKey_self (hk _ (List.mem_cons_self ..)))]
    · have hne : q.1.sameKey p.1 = false := by
        cases hs : q.1.sameKey p.1 with
        | false => rfl
        | true => exact absurd (WideAt.sameKey_eq hs) (hap.1 _ hp')
      rw [List.find?_cons_of_neg (by simp [hne])]
      exact ih hap.2 (fun x hx => hk x (List.mem_cons_of_mem _ hx)) hp'
theorem find_at {es : List (Lit × DataW Unit)} (hap : es.Pairwise (fun p q => p.1 ≠ q.1)) (hk : ∀ p ∈ es, WideAt.IsKeyLit p.1) {p : Lit × DataW Unit} (hp : p ∈ es) : (DataW.map es).atKey p.1 lit0 = p.2 := by
  unfold DataW.atKey
  simp only [find_is hap hk hp]
theorem facts_prod {es : List (Lit × DataW Unit)} {F : Lit → Int} : (∀ p ∈ es, F p.1 = 1000 - nOf p.2) → facts es = prodF F (es.map (·.1)) := by
  induction es with
  | nil => intro _; rfl
  | cons q r ih =>
    intro h
    show (1000 - nOf q.2) * facts r = F q.1 * prodF F (r.map (·.1))
    rw [ih (fun p hp => h p (List.mem_cons_of_mem _ hp)), h q (List.mem_cons_self ..)]
theorem left_prod (l : List Rpt) : ∀ js : List Nat, leftOf l js = prodF (fun j => 1000 - trustAt l j) js := by
  intro js
  unfold leftOf
  have : ∀ (js : List Nat) (a : Int), js.foldl (fun a j => a * (1000 - trustAt l j)) a = a * prodF (fun j => 1000 - trustAt l j) js := by
    intro js
    induction js with
    | nil => intro a; exact (Int.mul_one a).symm
    | cons j r ih =>
      intro a
      rw [List.foldl_cons, ih]
      show a * (1000 - trustAt l j) * prodF _ r = a * ((1000 - trustAt l j) * prodF _ r)
      exact Int.mul_assoc _ _ _
  rw [this, Int.one_mul]
theorem prod_map {α β : Type} (F : β → Int) (f : α → β) (l : List α) : prodF F (l.map f) = prodF (fun x => F (f x)) l := by
  induction l with
  | nil => rfl
  | cons a r ih => show F (f a) * prodF F (r.map f) = F (f a) * prodF _ r; rw [ih]
theorem prod_congr {α : Type} {F G : α → Int} {l : List α} (h : ∀ x ∈ l, F x = G x) : prodF F l = prodF G l := by
  induction l with
  | nil => rfl
  | cons a r ih => show F a * prodF F r = G a * prodF G r; rw [h a (List.mem_cons_self ..), ih (fun x hx => h x (List.mem_cons_of_mem _ hx))]

/-- reports that count: who beats whom falls. -/
theorem beat_of {l : List Rpt} {k i : Nat} {a b : Rpt} (ha : l[k]? = some a) (hb : l[i]? = some b) : beatB l k i = true ↔ a.1.src = b.1.src ∧ (b.1.trust < a.1.trust ∨ (a.1.trust = b.1.trust ∧ k < i)) := by
  unfold beatB
  rw [ha, hb]
  simp
theorem free_is {l : List Rpt} {i n : Nat} : freeTo l i n = true ↔ ∀ k, k < n → beatB l k i = false := by
  unfold freeTo
  rw [List.all_eq_true]
  constructor
  · intro h k hk; have := h k (List.mem_range.2 hk); simpa using this
  · intro h k hk; rw [h k (List.mem_range.1 hk)]; rfl
theorem won_mem {l : List Rpt} {i : Nat} : i ∈ won l l.length ↔ i < l.length ∧ freeTo l i l.length = true := by
  unfold won; rw [List.mem_filter, List.mem_range]
theorem won_nodup (l : List Rpt) (n : Nat) : (won l n).Nodup := List.Pairwise.filter _ (List.nodup_range (n := n))
/-- of each source a report counts. -/
theorem some_wins {l : List Rpt} (ht : ∀ r ∈ l, 0 ≤ r.1.trust ∧ r.1.trust ≤ 1000) : ∀ (n i : Nat) (r : Rpt), l[i]? = some r → (1000 - r.1.trust).toNat * (l.length + 1) + i ≤ n → ∃ j r', j ∈ won l l.length ∧ l[j]? = some r' ∧ r'.1.src = r.1.src := by
  intro n
  induction n with
  | zero =>
    intro i r hi hn
    refine ⟨i, r, won_mem.2 ⟨(List.getElem?_eq_some_iff.1 hi).1, free_is.2 fun k hk => ?_⟩, hi, rfl⟩
    have hk' : l[k]? = some l[k] := List.getElem?_eq_getElem hk
    cases hb : beatB l k i with
    | false => rfl
    | true =>
      obtain ⟨_, h2⟩ := (beat_of hk' hi).1 hb
      have b1 := ht r (List.mem_of_getElem? hi); have b2 := ht _ (List.mem_of_getElem? hk')
      have h0 : (1000 - r.1.trust).toNat * (l.length + 1) = 0 := by omega
      have h00 : (1000 - r.1.trust).toNat = 0 := by
        rcases Nat.mul_eq_zero.1 h0 with h | h
        · exact h
        · omega
      omega
  | succ n ih =>
    intro i r hi hn
    by_cases hf : freeTo l i l.length = true
    · exact ⟨i, r, won_mem.2 ⟨(List.getElem?_eq_some_iff.1 hi).1, hf⟩, hi, rfl⟩
    · have hex : ∃ k, k < l.length ∧ beatB l k i = true := by
        apply Classical.byContradiction
        intro hno
        apply hf
        refine free_is.2 fun k hk => ?_
        cases hb : beatB l k i with
        | false => rfl
        | true => exact absurd ⟨k, hk, hb⟩ hno
      obtain ⟨k, hk, hb⟩ := hex
      have hk' : l[k]? = some l[k] := List.getElem?_eq_getElem hk
      obtain ⟨e, h2⟩ := (beat_of hk' hi).1 hb
      have b1 := ht r (List.mem_of_getElem? hi); have b2 := ht _ (List.mem_of_getElem? hk')
      have hi' := (List.getElem?_eq_some_iff.1 hi).1
      obtain ⟨j, r', h3, h4, h5⟩ := ih k l[k] hk' (by
        rcases h2 with h2 | ⟨h2, h6⟩
        · have hlt : (1000 - l[k].1.trust).toNat + 1 ≤ (1000 - r.1.trust).toNat := by omega
          have := Nat.mul_le_mul_right (l.length + 1) hlt
          rw [Nat.add_mul, Nat.one_mul] at this
          omega
        · rw [h2]; omega)
      exact ⟨j, r', h3, h4, h5.trans e⟩
/-- what counts has its source's greatest trust. -/
theorem win_max {l : List Rpt} (ht : ∀ r ∈ l, 0 ≤ r.1.trust ∧ r.1.trust ≤ 1000) {j : Nat} {r : Rpt} (hj : j ∈ won l l.length) (hr : l[j]? = some r) : mxF r.1.src.data.toList 0 (sts l) = r.1.trust := by
  obtain ⟨hjl, hf⟩ := won_mem.1 hj
  have hm := List.mem_of_getElem? hr
  refine Int.le_antisymm (mx_le _ _ (ht r hm).1 fun s hs e => ?_) (mx_ge _ _ (List.mem_map.2 ⟨r, hm, rfl⟩) rfl)
  obtain ⟨r', hr', rfl⟩ := List.mem_map.1 hs
  obtain ⟨k, hk, he⟩ := List.mem_iff_getElem.1 hr'
  have hk' : l[k]? = some r' := by rw [List.getElem?_eq_getElem hk, he]
  have hb := free_is.1 hf k hk
  apply Classical.byContradiction
  intro hno
  have : beatB l k j = true := (beat_of hk' hr).2 ⟨ByteArray.ext (Array.toList_inj.1 e), Or.inl (by omega)⟩
  rw [this] at hb; cases hb
/-- two that count are of two sources. -/
theorem win_apart {l : List Rpt} {i j : Nat} {a b : Rpt} (hi : i ∈ won l l.length) (hj : j ∈ won l l.length) (ha : l[i]? = some a) (hb : l[j]? = some b) (e : a.1.src = b.1.src) : i = j := by
  obtain ⟨hil, hfi⟩ := won_mem.1 hi
  obtain ⟨hjl, hfj⟩ := won_mem.1 hj
  apply Classical.byContradiction
  intro hne
  have h1 := free_is.1 hfi j hjl
  have h2 := free_is.1 hfj i hil
  have g1 : ¬ beatB l j i = true := by rw [h1]; simp
  have g2 : ¬ beatB l i j = true := by rw [h2]; simp
  rw [beat_of hb ha] at g1
  rw [beat_of ha hb] at g2
  rcases Int.lt_trichotomy a.1.trust b.1.trust with h | h | h
  · exact g1 ⟨e.symm, Or.inl h⟩
  · rcases Nat.lt_or_gt_of_ne hne with h3 | h3
    · exact g2 ⟨e, Or.inr ⟨h, h3⟩⟩
    · exact g1 ⟨e.symm, Or.inr ⟨h.symm, h3⟩⟩
  · exact g2 ⟨e, Or.inl h⟩

theorem win_at {l : List Rpt} {j : Nat} (hj : j < l.length) : ∃ r, l[j]? = some r ∧ r ∈ l := ⟨l[j], List.getElem?_eq_getElem hj, List.getElem_mem hj⟩
def srcAt (l : List Rpt) (j : Nat) : Lit := match l[j]? with
  | some r => keyL r.1.src
  | none => .string []
theorem src_at {l : List Rpt} {j : Nat} {r : Rpt} (h : l[j]? = some r) : srcAt l j = keyL r.1.src := by unfold srcAt; rw [h]
/-- the map's answer is that of the reports that count. -/
theorem facts_won {l : List Rpt} (ht : ∀ r ∈ l, 0 ≤ r.1.trust ∧ r.1.trust ≤ 1000) {es : List (Lit × DataW Unit)} (hes : trustsOf (sts l) = .map es) (hap : es.Pairwise (fun p q => p.1 ≠ q.1)) (hk : ∀ p ∈ es, WideAt.IsKeyLit p.1) :
    facts es = leftOf l (won l l.length) ∧ es.length = (won l l.length).length := by
  have hhas : ∀ u, (∃ p ∈ es, p.1 = u) ↔ ∃ s ∈ sts l, keyL s.src = u := by
    intro u
    have h := trusts_has u (sts l) (.map []) ⟨_, rfl⟩
    have h0 : has (.map ([] : List (Lit × DataW Unit))) u = true ↔ False := by simp [has]
    rw [h0, false_or] at h
    rw [← h]
    show _ ↔ has (trustsOf (sts l)) u = true
    rw [hes, has_eq, List.any_eq_true]
    constructor
    · rintro ⟨p, hp, rfl⟩; exact ⟨p, hp, WideAt.sameKey_self (hk p hp)⟩
    · rintro ⟨p, hp, e⟩; exact ⟨p, hp, WideAt.sameKey_eq e⟩
  have hF : ∀ p ∈ es, (fun u => 1000 - nOf ((trustsOf (sts l)).atKey u lit0)) p.1 = 1000 - nOf p.2 := by
    intro p hp
    show 1000 - nOf ((trustsOf (sts l)).atKey p.1 lit0) = _
    rw [hes, find_at hap hk hp]
  have hW : prodF (fun j => 1000 - trustAt l j) (won l l.length) = prodF (fun u => 1000 - nOf ((trustsOf (sts l)).atKey u lit0)) ((won l l.length).map (srcAt l)) := by
    rw [prod_map]
    refine prod_congr fun j hj => ?_
    obtain ⟨r, hr, hm⟩ := win_at (won_mem.1 hj).1
    show 1000 - trustAt l j = 1000 - nOf ((trustsOf (sts l)).atKey (srcAt l j) lit0)
    rw [src_at hr]
    show _ = 1000 - nOf ((trustsOf (sts l)).atKey (.string r.1.src.data.toList) lit0)
    rw [trusts_mx, win_max ht hj hr]
    unfold trustAt
    rw [hr]
  have hn1 : (es.map (·.1)).Nodup := by
    show List.Pairwise _ _
    rw [List.pairwise_map]
    exact hap
  have hn2 : ((won l l.length).map (srcAt l)).Nodup := by
    show List.Pairwise _ _
    rw [List.pairwise_map]
    refine List.Pairwise.imp_of_mem ?_ (won_nodup l l.length)
    intro i j hi hj hne he
    obtain ⟨a, ha, _⟩ := win_at (won_mem.1 hi).1
    obtain ⟨b, hb, _⟩ := win_at (won_mem.1 hj).1
    rw [src_at ha, src_at hb] at he
    refine hne (win_apart hi hj ha hb ?_)
    injection he with he
    exact ByteArray.ext (Array.toList_inj.1 he)
  have hmem : ∀ u, u ∈ es.map (·.1) ↔ u ∈ (won l l.length).map (srcAt l) := by
    intro u
    rw [List.mem_map, List.mem_map]
    rw [show (∃ a ∈ es, a.1 = u) ↔ ∃ s ∈ sts l, keyL s.src = u from hhas u]
    constructor
    · rintro ⟨s, hs, rfl⟩
      obtain ⟨r, hr, rfl⟩ := List.mem_map.1 hs
      obtain ⟨i, hi, e⟩ := List.mem_iff_getElem.1 hr
      obtain ⟨j, r', h1, h2, h3⟩ := some_wins ht _ i r (by rw [List.getElem?_eq_getElem hi, e]) (Nat.le_refl _)
      exact ⟨j, h1, by rw [src_at h2, h3]⟩
    · rintro ⟨j, hj, rfl⟩
      obtain ⟨r, hr, hm⟩ := win_at (won_mem.1 hj).1
      exact ⟨r.1, List.mem_map.2 ⟨r, hm, rfl⟩, (src_at hr).symm⟩
  obtain ⟨g1, g2⟩ := prod_same (fun u => 1000 - nOf ((trustsOf (sts l)).atKey u lit0)) _ _ hn1 hn2 hmem
  refine ⟨?_, by simpa using g2⟩
  rw [facts_prod (F := fun u => 1000 - nOf ((trustsOf (sts l)).atKey u lit0)) hF, g1, ← hW, left_prod]

/-- a map without doubles, all keys of one kind. -/
def Neat (D : DataW Unit) : Prop := ∃ es, D = .map es ∧ es.Pairwise (fun p q => p.1 ≠ q.1) ∧ ∀ p ∈ es, WideAt.IsKeyLit p.1
theorem ins_mem {x p : Lit × DataW Unit} : ∀ l, p ∈ DataW.insert x l → p = x ∨ p ∈ l := by
  intro l
  induction l with
  | nil => intro h; simp [DataW.insert] at h; exact Or.inl h
  | cons y r ih =>
    intro h
    unfold DataW.insert at h
    split at h
    · rcases List.mem_cons.1 h with h | h
      · exact Or.inl h
      · exact Or.inr h
    · rcases List.mem_cons.1 h with h | h
      · exact Or.inr (h ▸ List.mem_cons_self ..)
      · rcases ih h with h | h
        · exact Or.inl h
        · exact Or.inr (List.mem_cons_of_mem _ h)
theorem Neat.add {D : DataW Unit} (h : Neat D) (s : St) : Neat (addT D s) := by
  obtain ⟨es, rfl, h1, h2⟩ := h
  obtain ⟨es', e, h3⟩ := Tidy.put (D := .map es) ⟨es, rfl, h1⟩ (k := keyL s.src) trivial (.lit (.int .i64 (max (nOf ((DataW.map es).atKey (keyL s.src) lit0)) s.trust)))
  refine ⟨es', e, h3, fun p hp => ?_⟩
  have e2 : es' = DataW.insert (keyL s.src, .lit (.int .i64 (max (nOf ((DataW.map es).atKey (keyL s.src) lit0)) s.trust))) (es.filter fun p => !p.1.sameKey (keyL s.src)) := by
    have : DataW.map es' = DataW.map (DataW.insert (keyL s.src, .lit (.int .i64 (max (nOf ((DataW.map es).atKey (keyL s.src) lit0)) s.trust))) (es.filter fun p => !p.1.sameKey (keyL s.src))) := by rw [← e]; rfl
    injection this
  rw [e2] at hp
  rcases ins_mem _ hp with rfl | hp
  · exact trivial
  · exact h2 p ((List.mem_filter.1 hp).1)
theorem trusts_neat : ∀ (l : List St) (D : DataW Unit), Neat D → Neat (l.foldl addT D) := by
  intro l
  induction l with
  | nil => intro D h; exact h
  | cons s l ih => intro D h; exact ih _ (h.add s)
theorem neat_of (l : List St) : Neat (trustsOf l) := trusts_neat l _ ⟨[], rfl, List.Pairwise.nil, fun p hp => by cases hp⟩
theorem ok_range {l : List Rpt} (h : allOk l = true) : ∀ r ∈ l, 0 ≤ r.1.trust ∧ r.1.trust ≤ 1000 := fun r hr => check_trust (List.all_eq_true.1 h r hr)
theorem doubt_is {l : List Rpt} (hne : l ≠ []) (h : allOk l = true) {es : List (Lit × DataW Unit)} (he : trustsOf (sts l) = .map es) : doubtV l = if es.length > 6 then .tuple #[.int .i64 0, .int .i64 0, .int .i64 3] else .tuple #[.int .i64 (facts es), .int .i64 (1000 ^ es.length), .int .i64 0] := by
  unfold doubtV
  rw [if_neg hne, if_pos h, he]; rfl
/-- the code's doubt is the document's. -/
theorem doubt_same (l : List Rpt) : doubtV l = refDoubtV l := by
  by_cases hne : l = []
  · unfold doubtV refDoubtV; rw [if_pos hne, if_pos hne]
  · cases h : allOk l with
    | false => unfold doubtV refDoubtV; rw [if_neg hne, if_neg hne, h]; rfl
    | true =>
      obtain ⟨es, he, h1, h2⟩ := neat_of (sts l)
      obtain ⟨g1, g2⟩ := facts_won (ok_range h) he h1 h2
      rw [doubt_is hne h he]
      unfold refDoubtV
      rw [if_neg hne, if_pos h, g1, g2]
theorem mx_mono {u : List UInt8} {l m : List St} (h : ∀ s ∈ l, s ∈ m) : mxF u 0 l ≤ mxF u 0 m := mx_le l 0 (mx_up u m 0) fun _ hs e => mx_ge m 0 (h _ hs) e
/-- the keys of the map are the sources. -/
theorem keys_are {l : List St} {es : List (Lit × DataW Unit)} (he : trustsOf l = .map es) (hk : ∀ p ∈ es, WideAt.IsKeyLit p.1) (u : Lit) : u ∈ es.map (·.1) ↔ ∃ s ∈ l, keyL s.src = u := by
  have h := trusts_has u l (.map []) ⟨_, rfl⟩
  have h0 : has (.map ([] : List (Lit × DataW Unit))) u = true ↔ False := by simp [has]
  rw [h0, false_or] at h
  rw [← h]
  show _ ↔ has (trustsOf l) u = true
  rw [he, has_eq, List.any_eq_true, List.mem_map]
  constructor
  · rintro ⟨p, hp, rfl⟩; exact ⟨p, hp, WideAt.sameKey_self (hk p hp)⟩
  · rintro ⟨p, hp, e⟩; exact ⟨p, hp, WideAt.sameKey_eq e⟩
def litB : Lit → List UInt8
  | .string u => u
  | _ => []
theorem facts_mx {l : List St} {es : List (Lit × DataW Unit)} (he : trustsOf l = .map es) (hap : es.Pairwise (fun p q => p.1 ≠ q.1)) (hk : ∀ p ∈ es, WideAt.IsKeyLit p.1) : facts es = prodF (fun u => 1000 - mxF (litB u) 0 l) (es.map (·.1)) := by
  refine facts_prod (F := fun u => 1000 - mxF (litB u) 0 l) fun p hp => ?_
  obtain ⟨s, hs, e⟩ := (keys_are he hk p.1).1 (List.mem_map.2 ⟨p, hp, rfl⟩)
  have h1 := find_at hap hk hp
  rw [← he, ← e] at h1
  have h2 := trusts_mx s.src.data.toList l
  show 1000 - mxF (litB p.1) 0 l = 1000 - nOf p.2
  rw [← e]
  show 1000 - mxF s.src.data.toList 0 l = _
  rw [← h2, ← h1]; rfl
theorem keys_nodup {es : List (Lit × DataW Unit)} (hap : es.Pairwise (fun p q => p.1 ≠ q.1)) : (es.map (·.1)).Nodup := by
  show List.Pairwise _ _
  rw [List.pairwise_map]
  exact hap
/-- the doubt hangs on which reports there are, not on their order. -/
theorem doubt_mem {l m : List Rpt} (h : ∀ r, r ∈ l ↔ r ∈ m) : doubtV l = doubtV m := by
  by_cases hl : l = []
  · have hm : m = [] := by
      cases m with
      | nil => rfl
      | cons a r => subst hl; exact absurd ((h a).2 (List.mem_cons_self ..)) (by simp)
    rw [hl, hm]
  · have hm : m ≠ [] := by
      intro e; subst e
      cases l with
      | nil => exact hl rfl
      | cons a r => exact absurd ((h a).1 (List.mem_cons_self ..)) (by simp)
    have hok : allOk l = allOk m := by
      rw [Bool.eq_iff_iff]
      unfold allOk
      rw [List.all_eq_true, List.all_eq_true]
      exact ⟨fun g r hr => g r ((h r).2 hr), fun g r hr => g r ((h r).1 hr)⟩
    cases e : allOk l with
    | false =>
      have e' : allOk m = false := by rw [← hok]; exact e
      unfold doubtV
      rw [if_neg hl, if_neg hm, e, e']; rfl
    | true =>
      have e' : allOk m = true := by rw [← hok]; exact e
      obtain ⟨es, he, h1, h2⟩ := neat_of (sts l)
      obtain ⟨fs, hf, h3, h4⟩ := neat_of (sts m)
      have hs : ∀ s, s ∈ sts l ↔ s ∈ sts m := fun s => by
        unfold sts
        rw [List.mem_map, List.mem_map]
        exact ⟨fun ⟨r, hr, g⟩ => ⟨r, (h r).1 hr, g⟩, fun ⟨r, hr, g⟩ => ⟨r, (h r).2 hr, g⟩⟩
      have hmem : ∀ u, u ∈ es.map (·.1) ↔ u ∈ fs.map (·.1) := fun u => by
        rw [keys_are he h2 u, keys_are hf h4 u]
        exact ⟨fun ⟨s, a, b⟩ => ⟨s, (hs s).1 a, b⟩, fun ⟨s, a, b⟩ => ⟨s, (hs s).2 a, b⟩⟩
      obtain ⟨g1, g2⟩ := prod_same (fun u => 1000 - mxF (litB u) 0 (sts l)) _ _ (keys_nodup h1) (keys_nodup h3) hmem
      have g3 : facts es = facts fs := by
        rw [facts_mx he h1 h2, facts_mx hf h3 h4, g1]
        refine prod_congr fun u _ => ?_
        rw [Int.le_antisymm (mx_mono fun s a => (hs s).1 a) (mx_mono fun s a => (hs s).2 a)]
      have g4 : es.length = fs.length := by simpa using g2
      rw [doubt_is hl e he, doubt_is hm e' hf, g3, g4]
theorem prod_le {α : Type} {F G : α → Int} {l : List α} (h : ∀ x ∈ l, 0 ≤ F x ∧ F x ≤ G x) : 0 ≤ prodF F l ∧ prodF F l ≤ prodF G l := by
  induction l with
  | nil => exact ⟨show (0 : Int) ≤ 1 by decide, Int.le_refl _⟩
  | cons a r ih =>
    obtain ⟨i1, i2⟩ := ih fun x hx => h x (List.mem_cons_of_mem _ hx)
    obtain ⟨a1, a2⟩ := h a (List.mem_cons_self ..)
    exact ⟨Int.mul_nonneg a1 i1, Int.le_trans (Int.mul_le_mul_of_nonneg_left i2 a1) (Int.mul_le_mul_of_nonneg_right a2 (Int.le_trans i1 i2))⟩
/-- one more report leaves no more doubt. -/
theorem doubt_more {r : Rpt} {t : List Rpt} (ht : t ≠ []) {c d : Int} (h : doubtV (r :: t) = .tuple #[.int .i64 c, .int .i64 d, .int .i64 0]) :
    ∃ x y, doubtV t = .tuple #[.int .i64 x, .int .i64 y, .int .i64 0] ∧ 0 ≤ c ∧ 0 ≤ d ∧ 0 ≤ x ∧ 0 ≤ y ∧ ((d = y ∧ c ≤ x) ∨ (d / 1000 = y ∧ c / 1000 ≤ x)) := by
  cases e : allOk (r :: t) with
  | false => unfold doubtV at h; rw [if_neg (by simp), e] at h; simp at h
  | true =>
    have e' : allOk t = true := by unfold allOk at e ⊢; rw [List.all_cons, Bool.and_eq_true] at e; exact e.2
    obtain ⟨es, he, h1, h2⟩ := neat_of (sts (r :: t))
    obtain ⟨fs, hf, h3, h4⟩ := neat_of (sts t)
    rw [doubt_is (by simp) e he] at h
    have hlen : ¬ es.length > 6 := by
      intro g; rw [if_pos g] at h; simp at h
    rw [if_neg hlen] at h
    injection h with h
    simp only [Array.mk.injEq, List.cons.injEq, Value.int.injEq, true_and, and_true] at h
    obtain ⟨hc, hd⟩ := h
    subst hc hd
    have hmx0 : ∀ (l : List Rpt), allOk l = true → ∀ u, 0 ≤ 1000 - mxF u 0 (sts l) := fun l hl u => by
      have := mx_le (u := u) (c := 1000) (sts l) 0 (by decide) (fun s hs _ => by
        obtain ⟨q, hq, rfl⟩ := List.mem_map.1 hs
        exact (ok_range hl q hq).2)
      omega
    have hle : ∀ u, mxF u 0 (sts t) ≤ mxF u 0 (sts (r :: t)) := fun u => mx_mono fun s hs => by
      unfold sts at hs ⊢
      exact List.mem_map.2 (by obtain ⟨q, hq, e⟩ := List.mem_map.1 hs; exact ⟨q, List.mem_cons_of_mem _ hq, e⟩)
    have hx0 : 0 ≤ facts fs := by rw [facts_mx hf h3 h4]; exact (prod_le (G := fun u => 1000 - mxF (litB u) 0 (sts t)) fun u _ => ⟨hmx0 t e' _, Int.le_refl _⟩).1
    have hc0 : 0 ≤ facts es := by rw [facts_mx he h1 h2]; exact (prod_le (G := fun u => 1000 - mxF (litB u) 0 (sts (r :: t))) fun u _ => ⟨hmx0 _ e _, Int.le_refl _⟩).1
    by_cases hin : ∃ s ∈ sts t, keyL s.src = keyL r.1.src
    · have hmem : ∀ u, u ∈ es.map (·.1) ↔ u ∈ fs.map (·.1) := fun u => by
        rw [keys_are he h2 u, keys_are hf h4 u]
        constructor
        · rintro ⟨s, a, b⟩
          rcases List.mem_cons.1 (show s ∈ r.1 :: sts t from a) with rfl | a
          · obtain ⟨s', c1, c2⟩ := hin; exact ⟨s', c1, c2.trans b⟩
          · exact ⟨s, a, b⟩
        · rintro ⟨s, a, b⟩; exact ⟨s, List.mem_cons_of_mem _ a, b⟩
      obtain ⟨g1, g2⟩ := prod_same (fun u => 1000 - mxF (litB u) 0 (sts (r :: t))) _ _ (keys_nodup h1) (keys_nodup h3) hmem
      have g4 : es.length = fs.length := by simpa using g2
      refine ⟨facts fs, 1000 ^ fs.length, ?_, hc0, pow_nn _, hx0, pow_nn _, Or.inl ⟨by rw [g4], ?_⟩⟩
      · rw [doubt_is ht e' hf, if_neg (by omega)]
      · rw [facts_mx he h1 h2, g1, facts_mx hf h3 h4]
        exact (prod_le fun u _ => ⟨hmx0 _ e _, by have := hle (litB u); omega⟩).2
    · have hnk : keyL r.1.src ∉ fs.map (·.1) := by
        rw [keys_are hf h4]; exact hin
      have hmem : ∀ u, u ∈ es.map (·.1) ↔ u ∈ keyL r.1.src :: fs.map (·.1) := fun u => by
        rw [keys_are he h2 u, List.mem_cons, keys_are hf h4 u]
        constructor
        · rintro ⟨s, a, b⟩
          rcases List.mem_cons.1 (show s ∈ r.1 :: sts t from a) with rfl | a
          · exact Or.inl b.symm
          · exact Or.inr ⟨s, a, b⟩
        · rintro (rfl | ⟨s, a, b⟩)
          · exact ⟨r.1, List.mem_cons_self .., rfl⟩
          · exact ⟨s, List.mem_cons_of_mem _ a, b⟩
      obtain ⟨g1, g2⟩ := prod_same (fun u => 1000 - mxF (litB u) 0 (sts (r :: t))) _ _ (keys_nodup h1) (List.nodup_cons.2 ⟨hnk, keys_nodup h3⟩) hmem
      have g4 : es.length = fs.length + 1 := by simpa using g2
      refine ⟨facts fs, 1000 ^ fs.length, ?_, hc0, pow_nn _, hx0, pow_nn _, Or.inr ⟨by rw [g4, Int.pow_succ]; omega, ?_⟩⟩
      · rw [doubt_is ht e' hf, if_neg (by omega)]
      · have g5 : facts es ≤ 1000 * facts fs := by
          rw [facts_mx he h1 h2, g1, facts_mx hf h3 h4]
          show (1000 - mxF (litB (keyL r.1.src)) 0 (sts (r :: t))) * prodF _ _ ≤ _
          have p1 := prod_le (F := fun u => 1000 - mxF (litB u) 0 (sts (r :: t))) (G := fun u => 1000 - mxF (litB u) 0 (sts t)) (l := fs.map (·.1)) fun u _ => ⟨hmx0 _ e _, by have := hle (litB u); omega⟩
          have p2 := mx_up (litB (keyL r.1.src)) (sts (r :: t)) 0
          exact Int.le_trans (Int.mul_le_mul_of_nonneg_right (by omega) p1.1) (Int.mul_le_mul_of_nonneg_left p1.2 (by decide))
        omega
end Go.Proofs.YtbfleemflhlfbaaGreatDoor
