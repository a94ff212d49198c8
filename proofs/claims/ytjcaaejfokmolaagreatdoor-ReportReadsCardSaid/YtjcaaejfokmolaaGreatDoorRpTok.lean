/- A line by its words: what the document's reading is, that the code's is the same, that a report's line is read as it, and that what is read is its report's line. Plain mathematics. -/
import Derived.Test.YtjcaaejfokmolaaGreatDoorRpDoor
import Derived.Lib.Join
import Derived.Lib.IndexLaws
import Derived.Lib.ItoaNum
namespace Go.Proofs.YtjcaaejfokmolaaGreatDoor
open Go.RowKit

def toks : List UInt8 → List (List UInt8)
  | [] => [[]]
  | c :: r => if c = 32 then [] :: toks r else match toks r with
    | t :: ts => (c :: t) :: ts
    | [] => [[c]]
theorem toks_ne (l : List UInt8) : toks l ≠ [] := by
  cases l with
  | nil => simp [toks]
  | cons c r => unfold toks; split; simp; split <;> simp
def blankFree (w : List UInt8) : Prop := ∀ c ∈ w, c ≠ 32
theorem toks_free : ∀ l : List UInt8, ∀ w ∈ toks l, blankFree w
  | [], w, h => by simp [toks] at h; subst h; intro c hc; cases hc
  | c :: r, w, h => by
    have ih := toks_free r
    unfold toks at h
    split at h
    · rcases List.mem_cons.1 h with rfl | h
      · intro c hc; cases hc
      · exact ih w h
    · rename_i hc
      split at h
      · rename_i t ts e
        rcases List.mem_cons.1 h with rfl | h
        · intro d hd
          rcases List.mem_cons.1 hd with rfl | hd
          · exact hc
          · exact ih t (by rw [e]; exact List.mem_cons_self ..) d hd
        · exact ih w (by rw [e]; exact List.mem_cons_of_mem _ h)
      · simp at h; subst h; intro d hd; simp at hd; subst hd; exact hc

/-- words with blanks between them. -/
def joinW : List (List UInt8) → List UInt8
  | [] => []
  | [w] => w
  | w :: v :: r => w ++ 32 :: joinW (v :: r)
theorem joinW_cons {w : List UInt8} {r : List (List UInt8)} (h : r ≠ []) : joinW (w :: r) = w ++ 32 :: joinW r := by
  cases r with
  | nil => exact absurd rfl h
  | cons v r => rfl
theorem join_toks : ∀ l : List UInt8, joinW (toks l) = l
  | [] => rfl
  | c :: r => by
    have ih := join_toks r
    unfold toks
    split
    · rename_i h; rw [joinW_cons (toks_ne r), ih, h]; rfl
    · split
      · rename_i t ts e
        rw [e] at ih
        cases ts with
        | nil => show c :: t = _; rw [show t = r from ih]
        | cons v ts => show c :: (t ++ 32 :: joinW (v :: ts)) = _; rw [show t ++ 32 :: joinW (v :: ts) = r from ih]
      · rename_i e; exact absurd e (toks_ne r)
theorem toks_app {w : List UInt8} (hw : blankFree w) (r : List UInt8) : toks (w ++ 32 :: r) = w :: toks r := by
  induction w with
  | nil => simp [toks]
  | cons c w ih =>
    have h1 : c ≠ 32 := hw c (List.mem_cons_self ..)
    have h2 := ih fun d hd => hw d (List.mem_cons_of_mem _ hd)
    rw [List.cons_append, toks, if_neg h1, h2]
theorem toks_one {w : List UInt8} (hw : blankFree w) : toks w = [w] := by
  induction w with
  | nil => simp [toks]
  | cons c w ih =>
    have h1 : c ≠ 32 := hw c (List.mem_cons_self ..)
    have h2 := ih fun d hd => hw d (List.mem_cons_of_mem _ hd)
    rw [toks, if_neg h1, h2]
theorem toks_join : ∀ (ws : List (List UInt8)), ws ≠ [] → (∀ w ∈ ws, blankFree w) → toks (joinW ws) = ws
  | [], h, _ => absurd rfl h
  | [w], _, hf => toks_one (hf w (List.mem_cons_self ..))
  | w :: v :: r, _, hf => by
    show toks (w ++ 32 :: joinW (v :: r)) = _
    rw [toks_app (hf w (List.mem_cons_self ..)), toks_join (v :: r) (by simp) fun x hx => hf x (List.mem_cons_of_mem _ hx)]

/-- where the k-th word begins. -/
def pos (ws : List (List UInt8)) : Nat → Nat
  | 0 => 0
  | k + 1 => pos ws k + (ws.getD k []).length + 1
theorem pos_cons (w : List UInt8) (r : List (List UInt8)) : ∀ k, pos (w :: r) (k + 1) = w.length + 1 + pos r k
  | 0 => by simp [pos]
  | k + 1 => by
    have := pos_cons w r k
    show pos (w :: r) (k + 1) + ((w :: r).getD (k + 1) []).length + 1 = w.length + 1 + (pos r k + (r.getD k []).length + 1)
    rw [this]
    simp only [List.getD_cons_succ]
    omega
theorem drop_pos : ∀ (ws : List (List UInt8)) (k : Nat), k < ws.length → (joinW ws).drop (pos ws k) = joinW (ws.drop k) ∧ pos ws k ≤ (joinW ws).length
  | [], k, h => absurd h (Nat.not_lt_zero _)
  | w :: r, 0, _ => ⟨by simp [pos], Nat.zero_le _⟩
  | w :: r, k + 1, h => by
    have hk : k < r.length := by simpa using h
    have hne : r ≠ [] := by intro e; subst e; simp at hk
    obtain ⟨h1, h2⟩ := drop_pos r k hk
    rw [joinW_cons hne, pos_cons]
    constructor
    · rw [show w.length + 1 + pos r k = w.length + (1 + pos r k) by omega, ← List.drop_drop, List.drop_left, show 1 + pos r k = pos r k + 1 by omega, List.drop_succ_cons, h1]; rfl
    · simp only [List.length_append, List.length_cons]; omega
theorem words_end : ∀ (ws : List (List UInt8)), ws ≠ [] → pos ws ws.length = (joinW ws).length + 1
  | [], h => absurd rfl h
  | [w], _ => by simp [pos, joinW]
  | w :: v :: r, _ => by
    have := words_end (v :: r) (by simp)
    rw [List.length_cons, pos_cons, this, joinW_cons (w := w) (r := v :: r) (by simp), List.length_append, List.length_cons]; omega
theorem pos_le {ws : List (List UInt8)} {k n : Nat} (h : k ≤ n) : pos ws k ≤ pos ws n := by
  induction n with
  | zero => have : k = 0 := by omega
            subst this; exact Nat.le_refl _
  | succ n ih =>
    by_cases e : k = n + 1
    · rw [e]; exact Nat.le_refl _
    · have := ih (by omega)
      show pos ws k ≤ pos ws n + _ + 1
      omega
theorem pos_lt {ws : List (List UInt8)} {k n : Nat} (h : k < n) : pos ws k < pos ws n := by
  have := pos_le (ws := ws) (show k + 1 ≤ n by omega)
  have h2 : pos ws (k + 1) = pos ws k + (ws.getD k []).length + 1 := rfl
  omega
theorem cut_join {w : List UInt8} (hw : blankFree w) (r : List UInt8) : (Lib.cut (w ++ 32 :: r) [32]).1 = w := by
  have hi : Lib.index (w ++ 32 :: r) [32] = (w.length : Int) := by
    refine Lib.index_hit (fun j hj => ?_) (by simp) ?_
    · unfold Lib.occAt
      have hjw : j < (w ++ 32 :: r).length := by simp; omega
      rw [List.drop_eq_getElem_cons hjw, List.getElem_append_left hj]
      have := hw w[j] (List.getElem_mem hj)
      simp [List.isPrefixOf, Ne.symm this]
    · unfold Lib.occAt; rw [List.drop_left]; simp [List.isPrefixOf]
  unfold Lib.cut
  rw [hi, if_pos (by omega)]
  simp
theorem cut_end {w : List UInt8} (hw : blankFree w) : (Lib.cut w [32]).1 = w := by
  have hi : Lib.index w [32] = -1 := by
    refine Lib.index_past (i := w.length) (by simp) (fun j hj => ?_) (by simp)
    unfold Lib.occAt
    rw [List.drop_eq_getElem_cons hj]
    have := hw w[j] (List.getElem_mem hj)
    simp [List.isPrefixOf, Ne.symm this]
  unfold Lib.cut
  rw [hi, if_neg (by decide)]
theorem cut_words {ws : List (List UInt8)} (h : ws ≠ []) (hf : ∀ w ∈ ws, blankFree w) : (Lib.cut (joinW ws) [32]).1 = ws.headD [] := by
  match ws, h with
  | [w], _ => exact cut_end (hf w (List.mem_cons_self ..))
  | w :: v :: r, _ => exact cut_join (hf w (List.mem_cons_self ..)) _
theorem word_at {ws : List (List UInt8)} (hf : ∀ w ∈ ws, blankFree w) {k : Nat} (h : k < ws.length) : (Lib.cut ((joinW ws).drop (pos ws k)) [32]).1 = ws.getD k [] := by
  rw [(drop_pos ws k h).1, cut_words (by intro e; have := congrArg List.length e; simp at this; omega) fun w hw => hf w (List.mem_of_mem_drop hw)]
  rw [List.drop_eq_getElem_cons h]
  simp [List.getD_eq_getElem?_getD, h]
theorem dec_app : ∀ (l : List UInt8) (acc : Nat) (d : UInt8), Lib.decFrom acc (l ++ [d]) = (match Lib.decFrom acc l, Lib.digitVal d with
    | some m, some v => some (m * 10 + v)
    | _, _ => none)
  | [], acc, d => by
    show (match Lib.digitVal d with
      | some v => Lib.decFrom (acc * 10 + v) []
      | none => none) = _
    cases Lib.digitVal d <;> rfl
  | c :: r, acc, d => by
    rw [List.cons_append, Lib.decFrom, Lib.decFrom]
    cases h : Lib.digitVal c with
    | none => rfl
    | some v => exact dec_app r _ d
theorem digitVal_of {c : UInt8} (h : digB c = true) : Lib.digitVal c = some (c.toNat - 48) := by
  have h := of_decide_eq_true h
  unfold Lib.digitVal
  rw [if_pos (by omega)]
theorem digB_of {u : Nat} (h : u < 10) : digB (UInt8.ofNat (48 + u)) = true := by
  unfold digB
  rw [UInt8.toNat_ofNat', decide_eq_true_eq]
  omega
theorem digitVal_digit {u : Nat} (h : u < 10) : Lib.digitVal (UInt8.ofNat (48 + u)) = some u := by
  rw [digitVal_of (digB_of h), UInt8.toNat_ofNat']
  congr 1
  omega
theorem decDigits_step (n : Nat) : Lib.decDigits n = if n < 10 then [UInt8.ofNat (48 + n)] else Lib.decDigits (n / 10) ++ [UInt8.ofNat (48 + n % 10)] := by
  by_cases h : n < 10
  · rw [if_pos h, Lib.decDigits_one h]
  · rw [if_neg h, Lib.decDigits, dif_neg h]
theorem decDigits_all : ∀ (n : Nat), (Lib.decDigits n).all digB = true := by
  intro n
  induction n using Nat.strongRecOn with
  | ind n ih =>
    rw [decDigits_step]
    split
    · rename_i h; rw [List.all_cons, digB_of h]; rfl
    · rw [List.all_append, ih (n / 10) (by omega), List.all_cons, digB_of (by omega)]; rfl
theorem decDigits_ne (n : Nat) : Lib.decDigits n ≠ [] := by
  intro e
  have h1 := Lib.decDigits_length n
  have h2 := Lib.nDigits_pos n
  rw [e] at h1
  simp at h1
  omega
theorem headD_app {l : List UInt8} {r : List UInt8} (h : l ≠ []) (d : UInt8) : (l ++ r).headD d = l.headD d := by
  cases l with
  | nil => exact absurd rfl h
  | cons a l => rfl
theorem decDigits_head : ∀ (n : Nat), n ≠ 0 → (Lib.decDigits n).headD 0 ≠ 48 := by
  intro n
  induction n using Nat.strongRecOn with
  | ind n ih =>
    intro h0
    rw [decDigits_step]
    split
    · rename_i h
      show UInt8.ofNat (48 + n) ≠ 48
      intro e
      have := congrArg UInt8.toNat e
      rw [UInt8.toNat_ofNat'] at this
      have h48 : (48 : UInt8).toNat = 48 := rfl
      omega
    · rw [headD_app (decDigits_ne _)]
      exact ih (n / 10) (by omega) (by omega)
theorem decDigits_zero : Lib.decDigits 0 = [48] := by rw [Lib.decDigits_one (by omega)]; rfl
theorem dec_digits : ∀ (n : Nat), Lib.decFrom 0 (Lib.decDigits n) = some n := by
  intro n
  induction n using Nat.strongRecOn with
  | ind n ih =>
    rw [decDigits_step]
    split
    · rename_i h
      show (match Lib.digitVal _ with
        | some v => Lib.decFrom (0 * 10 + v) []
        | none => none) = _
      rw [digitVal_digit h]
      simp [Lib.decFrom]
    · rw [dec_app, ih (n / 10) (by omega), digitVal_digit (by omega)]
      show some _ = _
      congr 1
      omega
theorem digits_ok (n : Nat) : digitsL (Lib.decDigits n) = true := by
  unfold digitsL
  rw [decDigits_all, Bool.true_and]
  by_cases h : n = 0
  · subst h; rw [decDigits_zero]; rfl
  · have h1 := decDigits_head n h
    have h2 := decDigits_ne n
    rw [show ((Lib.decDigits n).headD 0 != 48) = true from bne_iff_ne.2 h1, show (Lib.decDigits n != []) = true from bne_iff_ne.2 h2, Bool.and_self, Bool.or_true]
theorem digits_len {n : Nat} (h : n < 10000000000) : (Lib.decDigits n).length ≤ 10 := by
  rw [Lib.decDigits_length]
  rcases Nat.lt_or_ge 10 (Lib.nDigits n) with h1 | h1
  · have h0 : n ≠ 0 := by intro e; subst e; rw [Lib.nDigits_small (by omega)] at h1; omega
    exfalso
    have key : ∀ k n : Nat, Lib.nDigits n = k + 1 → k ≠ 0 → 10 ^ k ≤ n := by
      intro k
      induction k with
      | zero => intro n _ h; exact absurd rfl h
      | succ k ih =>
        intro n hn _
        have hb : ¬ n < 10 := by intro hs; rw [Lib.nDigits_small hs] at hn; omega
        rw [Lib.nDigits_big hb] at hn
        by_cases hk : k = 0
        · subst hk; simp; omega
        · have := ih (n / 10) (by omega) hk
          rw [Nat.pow_succ]; omega
    have := key (Lib.nDigits n - 1) n (by omega) (by omega)
    have h10 : 10 ^ 10 ≤ 10 ^ (Lib.nDigits n - 1) := Nat.pow_le_pow_right (by omega) (by omega)
    have : (10 : Nat) ^ 10 = 10000000000 := by decide
    omega
  · exact h1
/-- the digits of what digits say. -/
theorem digits_back : ∀ (l : List UInt8) (n : Nat), digitsL l = true → Lib.decFrom 0 l = some n → Lib.decDigits n = l := by
  have key : ∀ (m : Nat) (l : List UInt8) (n : Nat), l.length = m → digitsL l = true → Lib.decFrom 0 l = some n → Lib.decDigits n = l ∧ (l.headD 0 ≠ 48 → n ≠ 0) := by
    intro m
    induction m with
    | zero =>
      intro l n hl hd _
      have : l = [] := List.length_eq_zero_iff.1 hl
      subst this
      simp [digitsL] at hd
    | succ m ih =>
      intro l n hl hd hn
      have hlne : l ≠ [] := by intro e; subst e; simp at hl
      obtain ⟨r, d, rfl⟩ : ∃ r d, l = r ++ [d] := ⟨l.dropLast, l.getLast hlne, (List.dropLast_concat_getLast hlne).symm⟩
      unfold digitsL at hd
      rw [Bool.and_eq_true, List.all_append, Bool.and_eq_true] at hd
      obtain ⟨⟨hr, hdd⟩, hh⟩ := hd
      have hdd : digB d = true := by simpa using hdd
      have hdr := of_decide_eq_true hdd
      rw [dec_app, digitVal_of hdd] at hn
      have hrl : r.length = m := by simp at hl; exact hl
      have hofd : UInt8.ofNat (48 + (d.toNat - 48)) = d := by
        apply UInt8.toNat_inj.1
        rw [UInt8.toNat_ofNat']
        omega
      by_cases hrn : r = []
      · subst hrn
        have hn : some (0 * 10 + (d.toNat - 48)) = some n := hn
        simp only [Nat.zero_mul, Nat.zero_add, Option.some.injEq] at hn
        subst hn
        rw [Lib.decDigits_one (by omega), hofd]
        refine ⟨rfl, fun h h0 => h ?_⟩
        apply UInt8.toNat_inj.1
        show d.toNat = 48
        omega
      · have hne48 : r.headD 0 ≠ 48 := by
          rw [headD_app hrn] at hh
          rcases Bool.or_eq_true_iff.1 hh with h | h
          · exfalso
            have h := eq_of_beq h
            have := congrArg List.length h
            simp at this
            exact hrn this
          · rw [Bool.and_eq_true] at h
            simpa using h.2
        cases hm : Lib.decFrom 0 r with
        | none => rw [hm] at hn; cases hn
        | some k =>
          rw [hm] at hn
          have hn : some (k * 10 + (d.toNat - 48)) = some n := hn
          simp only [Option.some.injEq] at hn
          have hdl : digitsL r = true := by
            unfold digitsL
            rw [hr, Bool.true_and, show (r.headD 0 != 48) = true from bne_iff_ne.2 hne48, show (r != []) = true from bne_iff_ne.2 hrn, Bool.and_self, Bool.or_true]
          obtain ⟨e1, e2⟩ := ih r k hrl hdl hm
          have hk0 := e2 hne48
          subst hn
          refine ⟨?_, fun _ => by omega⟩
          rw [decDigits_step, if_neg (by omega), show (k * 10 + (d.toNat - 48)) / 10 = k by omega, show (k * 10 + (d.toNat - 48)) % 10 = d.toNat - 48 by omega, e1, hofd]
  intro l n h1 h2
  exact (key l.length l n rfl h1 h2).1

theorem trim_no {c : UInt8} (r : List UInt8) (h : c ≠ 45) : Lib.trimPrefix (c :: r) [45] = c :: r := by
  simp [Lib.trimPrefix, Lib.hasPrefix]; intro e; exact absurd e.symm h
theorem trim_yes (r : List UInt8) : Lib.trimPrefix (45 :: r) [45] = r := by simp [Lib.trimPrefix, Lib.hasPrefix]
theorem dig_not {c : UInt8} (h : digB c = true) : c ≠ 45 ∧ c ≠ 43 ∧ c ≠ 32 := by
  have h := of_decide_eq_true h
  refine ⟨?_, ?_, ?_⟩ <;> (rintro rfl; revert h; decide)
/-- a numeral has the form of a number, and its value. -/
theorem itoa_form {n : Int} (h1 : -10000000000 < n) (h2 : n < 10000000000) : formL (Lib.itoa n) = true ∧ valL (Lib.itoa n) = n := by
  unfold Lib.itoa
  by_cases hn : n < 0
  · rw [if_pos hn]
    have hd := digits_ok n.natAbs
    have hl := digits_len (n := n.natAbs) (by omega)
    constructor
    · unfold formL
      rw [trim_yes, hd, decide_eq_true hl]
      have : ((45 :: Lib.decDigits n.natAbs) == [45, 48]) = false := by
        rw [beq_eq_false_iff_ne]
        intro e
        have e := List.cons.inj e |>.2
        have h3 := dec_digits n.natAbs
        rw [e] at h3
        have : Lib.decFrom 0 [48] = some 0 := by decide
        rw [this] at h3
        have := Option.some.inj h3
        omega
      rw [this]; rfl
    · unfold valL Lib.atoi
      have hne : (Lib.decDigits n.natAbs).isEmpty = false := by rw [List.isEmpty_eq_false_iff]; exact decDigits_ne _
      simp [Lib.decNat, hne, dec_digits]
      omega
  · rw [if_neg hn]
    have hd := digits_ok n.toNat
    have hl := digits_len (n := n.toNat) (by omega)
    have ha := decDigits_all n.toNat
    have hv := dec_digits n.toNat
    have hne := decDigits_ne n.toNat
    generalize Lib.decDigits n.toNat = l at hd hl ha hv hne
    cases l with
    | nil => exact absurd rfl hne
    | cons c r =>
      rw [List.all_cons, Bool.and_eq_true] at ha
      obtain ⟨n1, n2, _⟩ := dig_not ha.1
      constructor
      · unfold formL
        rw [trim_no r n1, hd, decide_eq_true hl]
        have : ((c :: r) == [45, 48]) = false := by
          rw [beq_eq_false_iff_ne]; intro e; exact n1 (List.cons.inj e).1
        rw [this]; rfl
      · unfold valL Lib.atoi
        simp [n1, n2, Lib.decNat, hv]
        omega
/-- what has the form of a number is the numeral of its value. -/
theorem form_itoa {p : List UInt8} (h : formL p = true) : Lib.itoa (valL p) = p ∧ -10000000000 < valL p ∧ valL p < 10000000000 := by
  unfold formL at h
  rw [Bool.and_eq_true, Bool.and_eq_true, decide_eq_true_eq] at h
  obtain ⟨⟨h1, h2⟩, h3⟩ := h
  have lt10 : ∀ (l : List UInt8) (m : Nat), Lib.decFrom 0 l = some m → l.length ≤ 10 → m < 10000000000 := by
    intro l m hm hl
    have := Lib.decFrom_lt l 0 m hm
    have h10 : 10 ^ l.length ≤ 10 ^ 10 := Nat.pow_le_pow_right (by omega) hl
    have : (10 : Nat) ^ 10 = 10000000000 := by decide
    omega
  have some_of : ∀ (l : List UInt8), digitsL l = true → ∃ m, Lib.decFrom 0 l = some m := by
    intro l hl
    unfold digitsL at hl
    rw [Bool.and_eq_true] at hl
    have : ∀ (l : List UInt8) (acc : Nat), l.all digB = true → ∃ n, Lib.decFrom acc l = some n := by
      intro l
      induction l with
      | nil => exact fun acc _ => ⟨acc, rfl⟩
      | cons c r ih =>
        intro acc h
        rw [List.all_cons, Bool.and_eq_true] at h
        rw [Lib.decFrom, digitVal_of h.1]
        exact ih _ h.2
    exact this l 0 hl.1
  cases p with
  | nil => simp [Lib.trimPrefix, Lib.hasPrefix, digitsL] at h1
  | cons c r =>
    by_cases hc : c = 45
    · subst hc
      rw [trim_yes] at h1 h2
      obtain ⟨m, hm⟩ := some_of r h1
      have hb := digits_back r m h1 hm
      have hl := lt10 r m hm h2
      have hne : r.isEmpty = false := by
        rw [List.isEmpty_eq_false_iff]; rintro rfl; simp [digitsL] at h1
      have hm0 : m ≠ 0 := by
        rintro rfl
        rw [decDigits_zero] at hb
        rw [← hb] at h3
        simp at h3
      have hv : valL (45 :: r) = -(m : Int) := by
        unfold valL Lib.atoi; simp [Lib.decNat, hne, hm]
      rw [hv]
      unfold Lib.itoa
      rw [if_pos (by omega), show (-(m : Int)).natAbs = m by omega, hb]
      exact ⟨rfl, by omega, by omega⟩
    · rw [trim_no r hc] at h1 h2
      obtain ⟨m, hm⟩ := some_of _ h1
      have hb := digits_back _ m h1 hm
      have hl := lt10 _ m hm h2
      have hc43 : c ≠ 43 := by
        unfold digitsL at h1
        rw [Bool.and_eq_true, List.all_cons, Bool.and_eq_true] at h1
        exact (dig_not h1.1.1).2.1
      have hv : valL (c :: r) = (m : Int) := by
        unfold valL Lib.atoi; simp [hc, hc43, Lib.decNat, hm]
      rw [hv]
      unfold Lib.itoa
      rw [if_neg (by omega), show ((m : Int)).toNat = m by omega, hb]
      exact ⟨rfl, by omega, by omega⟩
theorem itoa_free (n : Int) : blankFree (Lib.itoa n) := by
  have key : ∀ m, blankFree (Lib.decDigits m) := fun m c hc => (dig_not (List.all_eq_true.1 (decDigits_all m) c hc)).2.2
  unfold Lib.itoa
  split
  · intro c hc
    rcases List.mem_cons.1 hc with rfl | hc
    · decide
    · exact key _ c hc
  · exact key _
theorem itoa_head (n : Int) : ∃ c r, Lib.itoa n = c :: r ∧ (c = 45 ∨ digB c = true) := by
  unfold Lib.itoa
  split
  · exact ⟨45, _, rfl, Or.inl rfl⟩
  · have h1 := decDigits_all n.toNat
    have h2 := decDigits_ne n.toNat
    generalize Lib.decDigits n.toNat = l at h1 h2
    cases l with
    | nil => exact absurd rfl h2
    | cons c r => rw [List.all_cons, Bool.and_eq_true] at h1; exact ⟨c, r, rfl, Or.inr h1.1⟩
theorem name_free {l : List UInt8} (h : nameL l = true) : blankFree l := by
  unfold nameL at h
  rw [Bool.and_eq_true] at h
  intro c hc e
  have := List.all_eq_true.1 h.2 c hc
  subst e
  revert this; decide
/-- a line that is read by its words: the next word, the first fault and where it is. -/
structure Ln where
  I : Nat
  At : Nat
  E : Int
def tok (ws : List (List UInt8)) (k : Nat) : List UInt8 := ws.getD k []
def failS (ws : List (List UInt8)) (n : Nat) (p : Ln) (e : Int) : Ln := if p.E = 0 then { p with E := e, At := if p.I < ws.length then pos ws p.I else n } else p
def isS (ws : List (List UInt8)) (p : Ln) (w : List UInt8) : Bool := decide (p.I < ws.length) && (tok ws p.I == w)
def wordS (ws : List (List UInt8)) (n : Nat) (p : Ln) (w : List UInt8) : Ln := if p.E = 0 ∧ isS ws p w = true then { p with I := p.I + 1 } else failS ws n p 5
def numberS (ws : List (List UInt8)) (n : Nat) (p : Ln) (lo hi : Int) : Ln × Int :=
  if p.E = 0 ∧ p.I < ws.length then
    match numRes (tok ws p.I) lo hi with
    | .ok v => ({ p with I := p.I + 1 }, v)
    | .error er => (failS ws n p er, 0)
  else (failS ws n p 5, 0)
def nameS (ws : List (List UInt8)) (n : Nat) (p : Ln) : Ln × List UInt8 :=
  if p.E = 0 ∧ p.I < ws.length ∧ nameL (tok ws p.I) = true then ({ p with I := p.I + 1 }, tok ws p.I) else (failS ws n p 5, [])
def kindS (ws : List (List UInt8)) (n : Nat) (p : Ln) : Ln × Int :=
  if p.I < ws.length then
    match kindRes (tok ws p.I) with
    | some k => ({ p with I := p.I + 1 }, k)
    | none => (failS ws n p 5, 0)
  else (failS ws n p 5, 0)
def moreB (ws : List (List UInt8)) (p : Ln) : Bool := decide (p.I < ws.length) && !isS ws p soulsL && !isS ws p trustL
def whereS (ws : List (List UInt8)) (n : Nat) : Nat → Ln → List (Int × Int) → Ln × List (Int × Int)
  | 0, p, l => (p, l)
  | f + 1, p, l =>
    if p.E = 0 ∧ (l = [] ∨ moreB ws p = true) then
      if l.length = 12 then (failS ws n p 3, l)
      else whereS ws n f (numberS ws n (numberS ws n p (-16777216) 16777216).1 (-16777216) 16777216).1 (l ++ [((numberS ws n p (-16777216) 16777216).2, (numberS ws n (numberS ws n p (-16777216) 16777216).1 (-16777216) 16777216).2)])
    else (p, l)
def maybeS (ws : List (List UInt8)) (p : Ln) (w : List UInt8) : Bool := decide (p.E = 0) && isS ws p w

structure Fit (ws : List (List UInt8)) (t : ByteArray) : Prop where
  ne : ws ≠ []
  free : ∀ w ∈ ws, blankFree w
  join : joinW ws = t.data.toList
theorem fit_toks (t : ByteArray) : Fit (toks t.data.toList) t := ⟨toks_ne _, toks_free _, join_toks _⟩
theorem bytes_len (s : ByteArray) : s.size = s.data.toList.length := Lib.size_eq s

theorem Fit.pos_le {ws t} (h : Fit ws t) {k : Nat} (hk : k < ws.length) : pos ws k ≤ t.size := by
  rw [bytes_len, ← h.join]; exact (drop_pos ws k hk).2
theorem Fit.pos_end {ws t} (h : Fit ws t) : pos ws ws.length = t.size + 1 := by
  rw [bytes_len, ← h.join]; exact words_end ws h.ne
theorem Fit.part {ws t} (h : Fit ws t) {k : Nat} (hk : k ≤ ws.length) : partL t.data.toList (pos ws k) = tok ws k := by
  unfold partL tok
  by_cases hl : k < ws.length
  · have := h.pos_le hl
    rw [bytes_len] at this
    rw [if_neg (by omega), ← h.join]
    exact word_at h.free hl
  · have e : k = ws.length := by omega
    subst e
    have := h.pos_end
    rw [bytes_len] at this
    rw [if_pos (by omega), List.getD_eq_getElem?_getD, List.getElem?_eq_none (Nat.le_refl _)]; rfl
theorem Fit.done {ws t} (h : Fit ws t) {k : Nat} (hk : k ≤ ws.length) : t.size < pos ws k ↔ ¬ k < ws.length := by
  constructor
  · intro g hl; have := h.pos_le hl; omega
  · intro g
    have e : k = ws.length := by omega
    subst e
    rw [h.pos_end]; omega
theorem Fit.at_ {ws t} (h : Fit ws t) {k : Nat} (hk : k ≤ ws.length) : min (pos ws k) t.size = if k < ws.length then pos ws k else t.size := by
  have := h.done hk
  split
  · rename_i hl; have := h.pos_le hl; omega
  · rename_i hl; have := this.2 hl; omega
theorem Fit.after {ws t} (h : Fit ws t) {k : Nat} (hk : k < ws.length) : afterL t (pos ws k) = pos ws (k + 1) := by
  unfold afterL partB
  rw [h.part (Nat.le_of_lt hk)]
  show pos ws k + _ + 1 = pos ws k + (ws.getD k []).length + 1
  have : ByteArray.size ⟨(tok ws k).toArray⟩ = (tok ws k).length := by rw [bytes_len]
  rw [this]; rfl
theorem tok_end {ws : List (List UInt8)} {k : Nat} (h : ¬ k < ws.length) : tok ws k = [] := by
  unfold tok; rw [List.getD_eq_getElem?_getD, List.getElem?_eq_none (by omega)]; rfl

theorem fail_new {ws n} {p : Ln} {e : Int} (h : p.E = 0) : failS ws n p e = { p with E := e, At := if p.I < ws.length then pos ws p.I else n } := by unfold failS; rw [if_pos h]
theorem fail_old {ws n} {p : Ln} {e : Int} (h : p.E ≠ 0) : failS ws n p e = p := by unfold failS; rw [if_neg h]
theorem word_old {ws n w} {p : Ln} (h : p.E ≠ 0) : wordS ws n p w = p := by unfold wordS; rw [if_neg (fun g => h g.1), fail_old h]
theorem number_old {ws n lo hi} {p : Ln} (h : p.E ≠ 0) : numberS ws n p lo hi = (p, 0) := by unfold numberS; rw [if_neg (fun g => h g.1), fail_old h]
theorem name_old {ws n} {p : Ln} (h : p.E ≠ 0) : nameS ws n p = (p, []) := by unfold nameS; rw [if_neg (fun g => h g.1), fail_old h]
theorem where_old {ws n} {p : Ln} (h : p.E ≠ 0) (f : Nat) (l : List (Int × Int)) : whereS ws n f p l = (p, l) := by
  cases f with
  | zero => rfl
  | succ f => unfold whereS; rw [if_neg (fun g => h g.1)]

/-- the code's reading against the document's. -/
def Rel (ws : List (List UInt8)) (r : Except (Nat × Int) Sl) (p : Ln) (s : Sl) : Prop := match r with
  | .ok s' => p.E = 0 ∧ p.I ≤ ws.length ∧ s' = ({ s.1 with a := pos ws p.I }, s.2)
  | .error x => p.E ≠ 0 ∧ x = (p.At, p.E)
theorem rel_fail {ws t} (h : Fit ws t) {p : Ln} (hE : p.E = 0) (hI : p.I ≤ ws.length) {e : Int} (he : e ≠ 0) (s : Sl) : Rel ws (.error (min (pos ws p.I) t.size, e)) (failS ws t.size p e) s := by
  rw [fail_new hE, h.at_ hI]
  exact ⟨he, rfl⟩

/-- a word that must be there. -/
theorem word_cases {ws t} (h : Fit ws t) {p : Ln} (hE : p.E = 0) (hI : p.I ≤ ws.length) {w : List UInt8} (hw : w ≠ []) :
    (partL t.data.toList (pos ws p.I) = w ∧ isS ws p w = true ∧ p.I < ws.length ∧ wordS ws t.size p w = { p with I := p.I + 1 }) ∨
    (partL t.data.toList (pos ws p.I) ≠ w ∧ isS ws p w = false ∧ wordS ws t.size p w = failS ws t.size p 5) := by
  rw [h.part hI]
  by_cases e : tok ws p.I = w
  · have hl : p.I < ws.length := by
      rcases Nat.lt_or_ge p.I ws.length with g | g
      · exact g
      · exact absurd ((tok_end (by omega)).symm.trans e).symm hw
    have hi : isS ws p w = true := by unfold isS; rw [decide_eq_true hl, e]; simp
    exact Or.inl ⟨e, hi, hl, by unfold wordS; rw [if_pos ⟨hE, hi⟩]⟩
  · have hi : isS ws p w = false := by unfold isS; rw [beq_eq_false_iff_ne.2 e]; simp
    exact Or.inr ⟨e, hi, by unfold wordS; rw [if_neg (by rw [hi]; simp)]⟩
theorem number_cases {ws t} (h : Fit ws t) {p : Ln} (hE : p.E = 0) (hI : p.I ≤ ws.length) (lo hi : Int) :
    (∃ v, numRes (partL t.data.toList (pos ws p.I)) lo hi = .ok v ∧ p.I < ws.length ∧ numberS ws t.size p lo hi = ({ p with I := p.I + 1 }, v)) ∨
    (∃ er, er ≠ 0 ∧ numRes (partL t.data.toList (pos ws p.I)) lo hi = .error er ∧ numberS ws t.size p lo hi = (failS ws t.size p er, 0)) := by
  rw [h.part hI]
  by_cases hl : p.I < ws.length
  · unfold numberS
    rw [if_pos ⟨hE, hl⟩]
    cases hr : numRes (tok ws p.I) lo hi with
    | ok v => exact Or.inl ⟨v, rfl, hl, rfl⟩
    | error er =>
      refine Or.inr ⟨er, ?_, rfl, rfl⟩
      unfold numRes at hr
      split at hr
      · split at hr
        · cases hr
        · cases hr; decide
      · cases hr; decide
  · refine Or.inr ⟨5, by decide, ?_, by unfold numberS; rw [if_neg (fun g => hl g.2)]⟩
    rw [tok_end hl]; rfl
theorem name_cases {ws t} (h : Fit ws t) {p : Ln} (hE : p.E = 0) (hI : p.I ≤ ws.length) :
    (nameL (partL t.data.toList (pos ws p.I)) = true ∧ p.I < ws.length ∧ nameS ws t.size p = ({ p with I := p.I + 1 }, partL t.data.toList (pos ws p.I))) ∨
    (nameL (partL t.data.toList (pos ws p.I)) = false ∧ nameS ws t.size p = (failS ws t.size p 5, [])) := by
  rw [h.part hI]
  by_cases hl : p.I < ws.length
  · cases hn : nameL (tok ws p.I) with
    | true => exact Or.inl ⟨rfl, hl, by unfold nameS; rw [if_pos ⟨hE, hl, hn⟩]⟩
    | false => exact Or.inr ⟨rfl, by unfold nameS; rw [if_neg (by rw [hn]; simp)]⟩
  · refine Or.inr ⟨by rw [tok_end hl]; rfl, by unfold nameS; rw [if_neg (fun g => hl g.2.1)]⟩

theorem rel_num {ws t} (h : Fit ws t) {p : Ln} (hE : p.E = 0) (hI : p.I ≤ ws.length) (lo hi : Int) (put : St → Int → St) (hput : ∀ s a v, put { s with a := a } v = { put s v with a := a }) (s : Sl) (hs : s.1.a = pos ws p.I) :
    Rel ws (lift (numSec lo hi put) t s) (numberS ws t.size p lo hi).1 (put s.1 (numberS ws t.size p lo hi).2, s.2) := by
  unfold lift numSec
  rw [hs]
  rcases number_cases h hE hI lo hi with ⟨v, h1, h2, h3⟩ | ⟨er, h0, h1, h3⟩
  · rw [h1, h3]
    refine ⟨hE, h2, ?_⟩
    show (put { s.1 with a := afterL t (pos ws p.I) } v, s.2) = _
    rw [hput, h.after h2]
  · rw [h1, h3]
    exact rel_fail h hE hI h0 _
theorem rel_name {ws t} (h : Fit ws t) {p : Ln} (hE : p.E = 0) (hI : p.I ≤ ws.length) (put : St → ByteArray → St) (hput : ∀ s a v, put { s with a := a } v = { put s v with a := a }) (s : Sl) (hs : s.1.a = pos ws p.I) :
    Rel ws (lift (nameSec put) t s) (nameS ws t.size p).1 (put s.1 ⟨(nameS ws t.size p).2.toArray⟩, s.2) := by
  unfold lift nameSec
  rw [hs]
  rcases name_cases h hE hI with ⟨h1, h2, h3⟩ | ⟨h1, h3⟩
  · rw [h1, h3, if_pos rfl]
    refine ⟨hE, h2, ?_⟩
    show (put { s.1 with a := afterL t (pos ws p.I) } _, s.2) = _
    rw [hput, h.after h2]; rfl
  · rw [h1, h3, if_neg (by decide)]
    exact rel_fail h hE hI (by decide) _
theorem rel_kind {ws t} (h : Fit ws t) {p : Ln} (hE : p.E = 0) (hI : p.I ≤ ws.length) (s : Sl) (hs : s.1.a = pos ws p.I) :
    Rel ws (lift kindSec t s) (kindS ws t.size p).1 ({ s.1 with kind := (kindS ws t.size p).2 }, s.2) := by
  unfold lift kindSec
  rw [hs, h.part hI]
  by_cases hl : p.I < ws.length
  · unfold kindS
    rw [if_pos hl]
    cases hk : kindRes (tok ws p.I) with
    | some k =>
      refine ⟨hE, hl, ?_⟩
      show ({ s.1 with a := afterL t (pos ws p.I), kind := k }, s.2) = _
      rw [h.after hl]
    | none => exact rel_fail h hE hI (by decide) _
  · unfold kindS
    rw [if_neg hl, tok_end hl]
    exact rel_fail h hE hI (by decide) _
/-- a section with its word. -/
theorem rel_word {ws t} (h : Fit ws t) {p : Ln} (hE : p.E = 0) (hI : p.I ≤ ws.length) {w : List UInt8} (hw : w ≠ []) (f : Sl → Except (Nat × Int) Sl) (s : Sl) (hs : s.1.a = pos ws p.I) (g : Ln → Ln) (val : Ln → Sl) (hold : ∀ q : Ln, q.E ≠ 0 → g q = q)
    (hf : ∀ q : Ln, q.E = 0 → q.I ≤ ws.length → Rel ws (f ({ s.1 with a := pos ws q.I }, s.2)) (g q) (val q)) :
    Rel ws (section_ t w false f s) (g (wordS ws t.size p w)) (val (wordS ws t.size p w)) := by
  unfold section_
  rw [if_neg hw, hs]
  rcases word_cases h hE hI hw with ⟨h1, h2, h3, h4⟩ | ⟨h1, h2, h4⟩
  · rw [if_pos h1, h4, h.after h3]
    exact hf { p with I := p.I + 1 } hE h3
  · rw [if_neg h1, h4, if_neg (by decide)]
    have h0 := rel_fail h hE hI (e := 5) (by decide) s
    rw [hold _ h0.1]
    exact h0
/-- a section that may be missing. -/
theorem rel_free {ws t} (h : Fit ws t) {p : Ln} (hE : p.E = 0) (hI : p.I ≤ ws.length) {w : List UInt8} (hw : w ≠ []) (f : Sl → Except (Nat × Int) Sl) (s : Sl) (hs : s.1.a = pos ws p.I) (g : Ln → Ln) (val : Ln → Sl)
    (hf : ∀ q : Ln, q.E = 0 → q.I ≤ ws.length → Rel ws (f ({ s.1 with a := pos ws q.I }, s.2)) (g q) (val q)) :
    Rel ws (section_ t w true f s) (if maybeS ws p w then g (wordS ws t.size p w) else p) (if maybeS ws p w then val (wordS ws t.size p w) else s) := by
  unfold section_
  rw [if_neg hw, hs]
  rcases word_cases h hE hI hw with ⟨h1, h2, h3, h4⟩ | ⟨h1, h2, h4⟩
  · have hm : maybeS ws p w = true := by unfold maybeS; rw [decide_eq_true hE, h2]; rfl
    rw [if_pos h1, hm, if_pos rfl, if_pos rfl, h4, h.after h3]
    exact hf { p with I := p.I + 1 } hE h3
  · have hm : maybeS ws p w = false := by unfold maybeS; rw [h2, Bool.and_false]
    rw [if_neg h1, hm]
    simp only [Bool.false_eq_true, if_false, if_true]
    refine ⟨hE, hI, ?_⟩
    rw [← hs]

theorem stop_go {ws t} (h : Fit ws t) {p : Ln} (hI : p.I ≤ ws.length) : stopB t (pos ws p.I) = !moreB ws p := by
  unfold stopB moreB isS
  rw [h.part hI]
  by_cases hl : p.I < ws.length
  · rw [decide_eq_false (by rw [h.done hI]; exact fun g => g hl), decide_eq_true hl]; simp
  · rw [decide_eq_true ((h.done hI).2 hl), decide_eq_false hl]; simp
theorem rel_where {ws t} (h : Fit ws t) : ∀ (f : Nat) (p : Ln) (s : Sl), p.E = 0 → p.I ≤ ws.length → s.1.a = pos ws p.I → s.2.length + f = 12 → (s.2 = [] ∨ moreB ws p = true) →
    Rel ws (whereL t f s) (whereS ws t.size (f + 2) p s.2).1 (s.1, (whereS ws t.size (f + 2) p s.2).2)
  | 0, p, s, hE, hI, hs, hl, hg => by
    unfold whereL whereS
    rw [if_pos ⟨hE, hg⟩, if_pos (by omega), hs]
    exact rel_fail h hE hI (by decide) _
  | f + 1, p, s, hE, hI, hs, hl, hg => by
    rw [whereL, whereS, if_pos ⟨hE, hg⟩, if_neg (by omega), hs]
    rcases number_cases h hE hI (-16777216) 16777216 with ⟨x, h1, h2, h3⟩ | ⟨er, h0, h1, h3⟩
    · rw [h1, h3]
      dsimp only
      rw [h.after h2]
      rcases number_cases h (p := { p with I := p.I + 1 }) hE h2 (-16777216) 16777216 with ⟨y, g1, g2, g3⟩ | ⟨er, g0, g1, g3⟩
      · rw [g1, g3]
        dsimp only at g1 g2 g3 ⊢
        rw [h.after g2]
        have hst := stop_go h (p := { p with I := p.I + 1 + 1 }) g2
        dsimp only at hst
        rw [hst]
        cases hgo : moreB ws { p with I := p.I + 1 + 1 } with
        | true =>
          rw [Bool.not_true, if_neg (by decide)]
          exact rel_where h f { p with I := p.I + 1 + 1 } ({ s.1 with a := pos ws (p.I + 1 + 1) }, s.2 ++ [(x, y)]) hE g2 rfl (by simp; omega) (Or.inr hgo)
        | false =>
          rw [Bool.not_false, if_pos rfl]
          have : whereS ws t.size (f + 2) { p with I := p.I + 1 + 1 } (s.2 ++ [(x, y)]) = ({ p with I := p.I + 1 + 1 }, s.2 ++ [(x, y)]) := by
            rw [whereS, if_neg (by rw [hgo]; simp)]
          rw [this]
          exact ⟨hE, g2, rfl⟩
      · dsimp only at g1 g3 ⊢
        rw [g1, g3]
        have h0 := rel_fail h (p := { p with I := p.I + 1 }) hE h2 g0 s
        dsimp only
        rw [where_old h0.1]
        exact h0
    · rw [h1, h3]
      have h0' := rel_fail h hE hI h0 s
      dsimp only
      rw [number_old h0'.1, where_old h0'.1]
      exact h0'

/-- how the document reads a line, step by step. -/
structure Rd where
  p : Ln
  kind : Int
  time : Int
  src : List UInt8
  abt : List UInt8
  wh : List (Int × Int)
  souls : Int
  trust : Int
def Rd.st (r : Rd) (a : Nat) : St := ⟨a, r.kind, r.time, ⟨r.src.toArray⟩, ⟨r.abt.toArray⟩, r.souls, r.trust⟩
def r0 : Rd := ⟨⟨0, 0, 0⟩, 0, 0, [], [], [], -1, 0⟩
def kdR (ws : List (List UInt8)) (n : Nat) (r : Rd) : Rd := { r with p := (kindS ws n r.p).1, kind := (kindS ws n r.p).2 }
def tmR (ws : List (List UInt8)) (n : Nat) (r : Rd) : Rd := { r with p := (numberS ws n (wordS ws n r.p [97, 116]) 0 1073741824).1, time := (numberS ws n (wordS ws n r.p [97, 116]) 0 1073741824).2 }
def srR (ws : List (List UInt8)) (n : Nat) (r : Rd) : Rd := { r with p := (nameS ws n (wordS ws n r.p [98, 121])).1, src := (nameS ws n (wordS ws n r.p [98, 121])).2 }
def abR (ws : List (List UInt8)) (n : Nat) (r : Rd) : Rd := if maybeS ws r.p [97, 98, 111, 117, 116] then { r with p := (nameS ws n (wordS ws n r.p [97, 98, 111, 117, 116])).1, abt := (nameS ws n (wordS ws n r.p [97, 98, 111, 117, 116])).2 } else r
def whR (ws : List (List UInt8)) (n : Nat) (r : Rd) : Rd := { r with p := (whereS ws n 14 (wordS ws n r.p [105, 110]) r.wh).1, wh := (whereS ws n 14 (wordS ws n r.p [105, 110]) r.wh).2 }
def soR (ws : List (List UInt8)) (n : Nat) (r : Rd) : Rd := if maybeS ws r.p soulsL then { r with p := (numberS ws n (wordS ws n r.p soulsL) 0 10000).1, souls := (numberS ws n (wordS ws n r.p soulsL) 0 10000).2 } else r
def trR (ws : List (List UInt8)) (n : Nat) (r : Rd) : Rd := { r with p := (numberS ws n (wordS ws n r.p trustL) 0 1000).1, trust := (numberS ws n (wordS ws n r.p trustL) 0 1000).2 }
def enR (ws : List (List UInt8)) (n : Nat) (r : Rd) : Rd := { r with p := if r.p.I < ws.length then failS ws n r.p 5 else r.p }
def ckR (ws : List (List UInt8)) (n : Nat) (q : List (Int × Int) → Bool) (r : Rd) : Rd := { r with p := if r.p.E = 0 ∧ checkB (r.st 0) (q r.wh) = false then failS ws n r.p 2 else r.p }
def readS (ws : List (List UInt8)) (n : Nat) (q : List (Int × Int) → Bool) : Rd := ckR ws n q (enR ws n (trR ws n (soR ws n (whR ws n (abR ws n (srR ws n (tmR ws n (kdR ws n r0))))))))

theorem rel_in {ws : List (List UInt8)} {r : Except (Nat × Int) Sl} {p : Ln} {s : Sl} (h : Rel ws r p s) {s' : Sl} (hr : r = .ok s') : p.E = 0 ∧ p.I ≤ ws.length ∧ s' = ({ s.1 with a := pos ws p.I }, s.2) := by
  subst hr; exact h
theorem rel_err {ws : List (List UInt8)} {r : Except (Nat × Int) Sl} {p : Ln} {s : Sl} (h : Rel ws r p s) {x : Nat × Int} (hr : r = .error x) : p.E ≠ 0 ∧ x = (p.At, p.E) := by
  subst hr; exact h
theorem maybe_old {ws w} {p : Ln} (h : p.E ≠ 0) : maybeS ws p w = false := by unfold maybeS; rw [decide_eq_false h]; rfl


def RelR (ws : List (List UInt8)) (x : Except (Nat × Int) Sl) (r : Rd) : Prop := Rel ws x r.p (r.st 0, r.wh)
def thenE (x : Except (Nat × Int) Sl) (f : Sl → Except (Nat × Int) Sl) : Except (Nat × Int) Sl := match x with
  | .ok s => f s
  | .error e => .error e
theorem rel_step {ws : List (List UInt8)} {x : Except (Nat × Int) Sl} {r r' : Rd} (f : Sl → Except (Nat × Int) Sl) (h : RelR ws x r) (hold : r.p.E ≠ 0 → r'.p = r.p)
    (hf : r.p.E = 0 → r.p.I ≤ ws.length → Rel ws (f (r.st (pos ws r.p.I), r.wh)) r'.p (r'.st 0, r'.wh)) : RelR ws (thenE x f) r' := by
  cases x with
  | ok s =>
    obtain ⟨h1, h2, h3⟩ := rel_in h rfl
    subst h3
    exact hf h1 h2
  | error e =>
    obtain ⟨h1, h2⟩ := rel_err h rfl
    show Rel ws (.error e) r'.p _
    rw [hold h1]
    exact ⟨h1, h2⟩
theorem rel_eq {ws : List (List UInt8)} {x : Except (Nat × Int) Sl} {p p' : Ln} {s s' : Sl} (h : Rel ws x p s) (e1 : p = p') (e2 : s = s') : Rel ws x p' s' := by rw [← e1, ← e2]; exact h

theorem goOn_then (t : ByteArray) (n : Nat) (s : Sl) : goOn t (n + 1) s = thenE (secL t (6 - n) s) (goOn t n) := rfl
theorem then_assoc (x : Except (Nat × Int) Sl) (f g : Sl → Except (Nat × Int) Sl) : thenE (thenE x f) g = thenE x fun s => thenE (f s) g := by cases x <;> rfl
/-- the code reads as the document does. -/
theorem read_same {ws t} (h : Fit ws t) (hs : t.size ≤ 300) (q : List (Int × Int) → Bool) : RelR ws (parseR t q) (readS ws t.size q) := by
  have e0 : parseR t q = thenE (thenE (thenE (thenE (thenE (thenE (thenE (thenE (secL t 0 s0) (secL t 1)) (secL t 2)) (secL t 3)) (secL t 4)) (secL t 5)) (secL t 6)) fun s => if t.size < s.1.a then .ok s else .error (min s.1.a t.size, 5)) fun s => if checkB s.1 (q s.2) then .ok s else .error (min s.1.a t.size, 2) := by
    have e1 : parseR t q = thenE (goOn t 7 s0) fun s => thenE (if t.size < s.1.a then .ok s else .error (min s.1.a t.size, 5)) fun s => if checkB s.1 (q s.2) then .ok s else .error (min s.1.a t.size, 2) := by
      unfold parseR
      rw [if_neg (by omega)]
      cases goOn t 7 s0 with
      | error x => rfl
      | ok s =>
        show (match endR t s.1 (q s.2) with
          | .ok _ => (.ok s : Except (Nat × Int) Sl)
          | .error x => .error x) = _
        unfold endR
        show _ = thenE (if t.size < s.1.a then .ok s else .error (min s.1.a t.size, 5)) _
        by_cases hd : t.size < s.1.a
        · rw [if_pos hd, if_pos hd]
          show _ = (if checkB s.1 (q s.2) then (.ok s : Except (Nat × Int) Sl) else .error (min s.1.a t.size, 2))
          cases checkB s.1 (q s.2) <;> rfl
        · rw [if_neg hd, if_neg hd]; rfl
    rw [e1]
    simp only [goOn_then, then_assoc]
    rfl
  rw [e0]
  unfold readS
  have R0 : RelR ws (secL t 0 s0) (kdR ws t.size r0) := rel_kind h (p := ⟨0, 0, 0⟩) rfl (Nat.zero_le _) s0 rfl
  have W0 : (kdR ws t.size r0).wh = [] := rfl
  generalize kdR ws t.size r0 = a0 at R0 W0 ⊢
  have R1 := rel_step (r' := tmR ws t.size a0) (secL t 1) R0 (fun hE => by unfold tmR; rw [word_old hE, number_old hE]) (fun hE hI => rel_word h hE hI (by decide) _ _ rfl (fun p => (numberS ws t.size p 0 1073741824).1) (fun p => ({ a0.st 0 with time := (numberS ws t.size p 0 1073741824).2 }, a0.wh)) (fun p hp => by rw [number_old hp]) (fun p hp hpI => rel_num h hp hpI _ _ _ (fun _ _ _ => rfl) _ rfl))
  have W1 : (tmR ws t.size a0).wh = [] := W0
  generalize tmR ws t.size a0 = a1 at R1 W1 ⊢
  have R2 := rel_step (r' := srR ws t.size a1) (secL t 2) R1 (fun hE => by unfold srR; rw [word_old hE, name_old hE]) (fun hE hI => rel_word h hE hI (by decide) _ _ rfl (fun p => (nameS ws t.size p).1) (fun p => ({ a1.st 0 with src := ⟨(nameS ws t.size p).2.toArray⟩ }, a1.wh)) (fun p hp => by rw [name_old hp]) (fun p hp hpI => rel_name h hp hpI _ (fun _ _ _ => rfl) _ rfl))
  have W2 : (srR ws t.size a1).wh = [] := W1
  generalize srR ws t.size a1 = a2 at R2 W2 ⊢
  have R3 := rel_step (r' := abR ws t.size a2) (secL t 3) R2 (fun hE => by unfold abR; rw [maybe_old hE]; rfl) (fun hE hI => by
    have := rel_free h hE hI (w := [97, 98, 111, 117, 116]) (by decide) (lift (nameSec (fun s v => { s with abt := v })) t) (a2.st (pos ws a2.p.I), a2.wh) rfl (fun p => (nameS ws t.size p).1) (fun p => ({ a2.st 0 with abt := ⟨(nameS ws t.size p).2.toArray⟩ }, a2.wh)) (fun p hp hpI => rel_name h hp hpI _ (fun _ _ _ => rfl) _ rfl)
    unfold abR
    cases hm : maybeS ws a2.p [97, 98, 111, 117, 116] with
    | true => rw [hm] at this; exact this
    | false => rw [hm] at this; exact this)
  have W3 : (abR ws t.size a2).wh = [] := by unfold abR; split <;> exact W2
  generalize abR ws t.size a2 = a3 at R3 W3 ⊢
  have R4 := rel_step (r' := whR ws t.size a3) (secL t 4) R3 (fun hE => by unfold whR; rw [word_old hE, where_old hE]) (fun hE hI => rel_word h hE hI (by decide) _ _ rfl (fun p => (whereS ws t.size 14 p a3.wh).1) (fun p => (a3.st 0, (whereS ws t.size 14 p a3.wh).2)) (fun p hp => by rw [where_old hp]) (fun p hp hpI => rel_where h 12 p ({ a3.st (pos ws a3.p.I) with a := pos ws p.I }, a3.wh) hp hpI rfl (by rw [W3]; rfl) (Or.inl W3)))
  generalize whR ws t.size a3 = a4 at R4 ⊢
  have R5 := rel_step (r' := soR ws t.size a4) (secL t 5) R4 (fun hE => by unfold soR; rw [maybe_old hE]; rfl) (fun hE hI => by
    have := rel_free h hE hI (w := soulsL) (by decide) (lift (numSec 0 10000 (fun s v => { s with souls := v })) t) (a4.st (pos ws a4.p.I), a4.wh) rfl (fun p => (numberS ws t.size p 0 10000).1) (fun p => ({ a4.st 0 with souls := (numberS ws t.size p 0 10000).2 }, a4.wh)) (fun p hp hpI => rel_num h hp hpI _ _ _ (fun _ _ _ => rfl) _ rfl)
    unfold soR
    cases hm : maybeS ws a4.p soulsL with
    | true => rw [hm] at this; exact this
    | false => rw [hm] at this; exact this)
  generalize soR ws t.size a4 = a5 at R5 ⊢
  have R6 := rel_step (r' := trR ws t.size a5) (secL t 6) R5 (fun hE => by unfold trR; rw [word_old hE, number_old hE]) (fun hE hI => rel_word h hE hI (w := trustL) (by decide) _ _ rfl (fun p => (numberS ws t.size p 0 1000).1) (fun p => ({ a5.st 0 with trust := (numberS ws t.size p 0 1000).2 }, a5.wh)) (fun p hp => by rw [number_old hp]) (fun p hp hpI => rel_num h hp hpI _ _ _ (fun _ _ _ => rfl) _ rfl))
  generalize trR ws t.size a5 = a6 at R6 ⊢
  have R7 := rel_step (r' := enR ws t.size a6) (fun s => if t.size < s.1.a then .ok s else .error (min s.1.a t.size, 5)) R6 (fun hE => by unfold enR; dsimp only; rw [fail_old hE]; simp) (fun hE hI => by
    show Rel ws (if t.size < pos ws a6.p.I then .ok (a6.st (pos ws a6.p.I), a6.wh) else .error (min (pos ws a6.p.I) t.size, 5)) (if a6.p.I < ws.length then failS ws t.size a6.p 5 else a6.p) (a6.st 0, a6.wh)
    by_cases hl : a6.p.I < ws.length
    · rw [if_pos hl, if_neg (by rw [h.done hI]; exact fun g => g hl)]
      exact rel_fail h hE hI (by decide) _
    · rw [if_neg hl, if_pos ((h.done hI).2 hl)]
      exact ⟨hE, hI, rfl⟩)
  generalize enR ws t.size a6 = a7 at R7 ⊢
  exact rel_step (r' := ckR ws t.size q a7) (fun s => if checkB s.1 (q s.2) then .ok s else .error (min s.1.a t.size, 2)) R7 (fun hE => by unfold ckR; dsimp only; rw [if_neg fun g => hE g.1]) (fun hE hI => by
    show Rel ws (if checkB (a7.st 0) (q a7.wh) then .ok (a7.st (pos ws a7.p.I), a7.wh) else .error (min (pos ws a7.p.I) t.size, 2)) (if a7.p.E = 0 ∧ checkB (a7.st 0) (q a7.wh) = false then failS ws t.size a7.p 2 else a7.p) (a7.st 0, a7.wh)
    cases hc : checkB (a7.st 0) (q a7.wh) with
    | true => rw [if_pos rfl, if_neg (by simp)]; exact ⟨hE, hI, rfl⟩
    | false => rw [if_neg (by decide), if_pos ⟨hE, rfl⟩]; exact rel_fail h hE hI (by decide) _)

/-- the words of a report's line. -/
def wordsR (kind time : Int) (src abt : List UInt8) (l : List (Int × Int)) (souls trust : Int) : List (List UInt8) :=
  kwL kind.toNat :: [97, 116] :: Lib.itoa time :: [98, 121] :: src :: ((if abt = [] then [] else [[97, 98, 111, 117, 116], abt]) ++ [105, 110] :: (l.flatMap (fun p => [Lib.itoa p.1, Lib.itoa p.2]) ++ ((if souls = -1 then [] else [soulsL, Lib.itoa souls]) ++ [trustL, Lib.itoa trust])))

theorem drop_tok {ws : List (List UInt8)} {k : Nat} (h : k < ws.length) : ws.drop k = tok ws k :: ws.drop (k + 1) := by
  rw [List.drop_eq_getElem_cons h]
  unfold tok
  rw [List.getD_eq_getElem?_getD, List.getElem?_eq_getElem h]; rfl
/-- a line of whose words these are left. -/
def Left (ws : List (List UInt8)) (p : Ln) (l : List (List UInt8)) : Prop := p.E = 0 ∧ ws.drop p.I = l
theorem left_cons {ws : List (List UInt8)} {p : Ln} {w : List UInt8} {l : List (List UInt8)} (h : Left ws p (w :: l)) : p.E = 0 ∧ p.I < ws.length ∧ tok ws p.I = w ∧ Left ws { p with I := p.I + 1 } l := by
  obtain ⟨h1, h2⟩ := h
  have hl : p.I < ws.length := by
    rcases Nat.lt_or_ge p.I ws.length with g | g
    · exact g
    · rw [List.drop_of_length_le g] at h2; cases h2
  rw [drop_tok hl] at h2
  injection h2 with e1 e2
  exact ⟨h1, hl, e1, h1, e2⟩
theorem left_is {ws : List (List UInt8)} {p : Ln} {w v : List UInt8} {l : List (List UInt8)} (h : Left ws p (w :: l)) : isS ws p v = (w == v) := by
  obtain ⟨_, h2, h3, _⟩ := left_cons h
  unfold isS
  rw [decide_eq_true h2, h3]; rfl
theorem b_word {ws n w l} {p : Ln} (h : Left ws p (w :: l)) : Left ws (wordS ws n p w) l := by
  have hi := left_is (v := w) h
  obtain ⟨h1, _, _, h4⟩ := left_cons h
  unfold wordS
  rw [if_pos ⟨h1, by rw [hi]; simp⟩]
  exact h4
theorem num_of {v lo hi : Int} (hv : inB v lo hi = true) (hlo : -10000000000 < lo) (hhi : hi < 10000000000) : numRes (Lib.itoa v) lo hi = .ok v := by
  have hb : lo ≤ v ∧ v ≤ hi := by simpa [inB] using hv
  obtain ⟨e1, e2⟩ := itoa_form (n := v) (by omega) (by omega)
  unfold numRes
  rw [e1, e2, hv]; rfl
theorem b_num {ws n v lo hi l} {p : Ln} (hv : inB v lo hi = true) (hlo : -10000000000 < lo) (hhi : hi < 10000000000) (h : Left ws p (Lib.itoa v :: l)) : (numberS ws n p lo hi).2 = v ∧ Left ws (numberS ws n p lo hi).1 l := by
  obtain ⟨h1, h2, h3, h4⟩ := left_cons h
  unfold numberS
  rw [if_pos ⟨h1, h2⟩, h3, num_of hv hlo hhi]
  exact ⟨rfl, h4⟩
theorem b_name {ws n a l} {p : Ln} (ha : nameL a = true) (h : Left ws p (a :: l)) : (nameS ws n p).2 = a ∧ Left ws (nameS ws n p).1 l := by
  obtain ⟨h1, h2, h3, h4⟩ := left_cons h
  unfold nameS
  rw [if_pos ⟨h1, h2, by rw [h3]; exact ha⟩]
  exact ⟨h3, h4⟩
theorem kind_of {k : Int} (hk : inB k 1 4 = true) : kindRes (kwL k.toNat) = some k := by
  have hb : 1 ≤ k ∧ k ≤ 4 := by simpa [inB] using hk
  have : k = 1 ∨ k = 2 ∨ k = 3 ∨ k = 4 := by omega
  rcases this with rfl | rfl | rfl | rfl <;> rfl
theorem b_kind {ws n k l} {p : Ln} (hk : inB k 1 4 = true) (h : Left ws p (kwL k.toNat :: l)) : (kindS ws n p).2 = k ∧ Left ws (kindS ws n p).1 l := by
  obtain ⟨h1, h2, h3, h4⟩ := left_cons h
  unfold kindS
  rw [if_pos h2, h3, kind_of hk]
  exact ⟨rfl, h4⟩
theorem itoa_not {v : Int} {w : List UInt8} (hw : ∀ c r, w = c :: r → c ≠ 45 ∧ digB c = false) (h : Lib.itoa v = w) : False := by
  obtain ⟨c, r, e, hc⟩ := itoa_head v
  obtain ⟨g1, g2⟩ := hw c r (h.symm.trans e)
  rcases hc with rfl | hc
  · exact g1 rfl
  · rw [hc] at g2; cases g2
theorem go_num {ws l} {v : Int} {p : Ln} (h : Left ws p (Lib.itoa v :: l)) : moreB ws p = true := by
  unfold moreB
  rw [left_is h, left_is h, decide_eq_true (left_cons h).2.1]
  have e1 : (Lib.itoa v == soulsL) = false := beq_eq_false_iff_ne.2 fun e => itoa_not (by intro c r e; cases e; exact ⟨by decide, by decide⟩) e
  have e2 : (Lib.itoa v == trustL) = false := beq_eq_false_iff_ne.2 fun e => itoa_not (by intro c r e; cases e; exact ⟨by decide, by decide⟩) e
  rw [e1, e2]; rfl
theorem go_stop {ws l w} {p : Ln} (h : Left ws p (w :: l)) (hw : w = soulsL ∨ w = trustL) : moreB ws p = false := by
  unfold moreB
  rw [left_is h, left_is h]
  rcases hw with rfl | rfl <;> simp
def flatW (l : List (Int × Int)) : List (List UInt8) := l.flatMap fun p => [Lib.itoa p.1, Lib.itoa p.2]
theorem b_where {ws n w r} (hw : w = soulsL ∨ w = trustL) : ∀ (l : List (Int × Int)) (f : Nat) (p : Ln) (acc : List (Int × Int)), (∀ q ∈ l, inB q.1 (-16777216) 16777216 = true ∧ inB q.2 (-16777216) 16777216 = true) →
    acc.length + l.length ≤ 12 → l.length < f → (acc ≠ [] ∨ l ≠ []) → Left ws p (flatW l ++ w :: r) → (whereS ws n f p acc).2 = acc ++ l ∧ Left ws (whereS ws n f p acc).1 (w :: r)
  | [], f + 1, p, acc, _, _, _, ha, h => by
    have ha : acc ≠ [] := ha.elim id fun h => absurd rfl h
    unfold whereS
    rw [if_neg (by rw [go_stop h hw]; intro g; rcases g.2 with g | g; exact ha g; cases g)]
    exact ⟨by simp, h⟩
  | (x, y) :: l, f + 1, p, acc, hl, hn, hf, _, h => by
    have hxy := hl _ (List.mem_cons_self ..)
    have h' : Left ws p (Lib.itoa x :: Lib.itoa y :: (flatW l ++ w :: r)) := h
    obtain ⟨e1, e2⟩ := b_num (n := n) hxy.1 (by decide) (by decide) h'
    obtain ⟨e3, e4⟩ := b_num (n := n) hxy.2 (by decide) (by decide) e2
    have hlen : acc.length + (l.length + 1) ≤ 12 := hn
    rw [whereS, if_pos ⟨h.1, Or.inr (go_num h')⟩, if_neg (by omega), e1, e3]
    have := b_where (n := n) hw l f _ (acc ++ [(x, y)]) (fun q hq => hl q (List.mem_cons_of_mem _ hq)) (by simp; omega) (by simp at hf; omega) (Or.inl (by simp)) e4
    refine ⟨?_, this.2⟩
    rw [this.1]; simp
theorem maybe_is {ws w v l} {p : Ln} (h : Left ws p (w :: l)) : maybeS ws p v = (w == v) := by
  unfold maybeS; rw [left_is h, decide_eq_true h.1]; rfl
theorem check_parts {s : St} {q : Bool} (h : checkB s q = true) : inB s.kind 1 4 = true ∧ inB s.time 0 1073741824 = true ∧ nameL s.src.data.toList = true ∧ aboutB s.kind s.abt.data.toList = true ∧ q = true ∧ inB s.souls (-1) 10000 = true ∧ inB s.trust 0 1000 = true := by
  unfold checkB at h
  simp only [Bool.and_eq_true] at h
  exact h
theorem about_name {k : Int} {a : List UInt8} (h : aboutB k a = true) (ha : a ≠ []) : nameL a = true := by
  unfold aboutB at h; rw [if_neg ha] at h; exact h

theorem ck_ok {ws n q} {r : Rd} (h : checkB (r.st 0) (q r.wh) = true) : ckR ws n q r = r := by
  unfold ckR; rw [if_neg (fun g => by rw [h] at g; cases g.2)]
/-- a valid report's line is read as it. -/
theorem print_reads (n : Nat) (q : List (Int × Int) → Bool) (hq : ∀ l, q l = true → l ≠ [] ∧ l.length ≤ 12 ∧ ∀ p ∈ l, inB p.1 (-16777216) 16777216 = true ∧ inB p.2 (-16777216) 16777216 = true)
    (kind time souls trust : Int) (src abt : List UInt8) (l : List (Int × Int)) (hc : checkB ⟨0, kind, time, ⟨src.toArray⟩, ⟨abt.toArray⟩, souls, trust⟩ (q l) = true) :
    (readS (wordsR kind time src abt l souls trust) n q).p.E = 0 ∧ (readS (wordsR kind time src abt l souls trust) n q).st 0 = ⟨0, kind, time, ⟨src.toArray⟩, ⟨abt.toArray⟩, souls, trust⟩ ∧ (readS (wordsR kind time src abt l souls trust) n q).wh = l := by
  obtain ⟨c1, c2, c3, c4, c5, c6, c7⟩ := check_parts hc
  simp only at c1 c2 c3 c4 c5 c6 c7
  obtain ⟨l1, l2, l3⟩ := hq l c5
  obtain ⟨ws, hws⟩ : ∃ ws, ws = wordsR kind time src abt l souls trust := ⟨_, rfl⟩
  rw [← hws]
  have L0 : Left ws r0.p (wordsR kind time src abt l souls trust) := ⟨rfl, hws⟩
  unfold wordsR at L0
  clear hws
  unfold readS
  obtain ⟨e1, L1⟩ := b_kind (n := n) c1 L0
  have A0 : kdR ws n r0 = { r0 with p := (kindS ws n r0.p).1, kind := kind } := by unfold kdR; rw [e1]
  rw [A0]; clear A0 e1 L0
  generalize (kindS ws n r0.p).1 = p1 at L1 ⊢
  obtain ⟨e1, L2⟩ := b_num (n := n) c2 (by decide) (by decide) (b_word (n := n) L1)
  have A0 : ∀ r : Rd, r.p = p1 → tmR ws n r = { r with p := (numberS ws n (wordS ws n p1 [97, 116]) 0 1073741824).1, time := time } := by intro r hr; unfold tmR; rw [hr, e1]
  rw [A0 _ rfl]; clear A0 e1 L1
  generalize (numberS ws n (wordS ws n p1 [97, 116]) 0 1073741824).1 = p2 at L2 ⊢
  obtain ⟨e1, L3⟩ := b_name (n := n) c3 (b_word (n := n) L2)
  have A0 : ∀ r : Rd, r.p = p2 → srR ws n r = { r with p := (nameS ws n (wordS ws n p2 [98, 121])).1, src := src } := by intro r hr; unfold srR; rw [hr, e1]
  rw [A0 _ rfl]; clear A0 e1 L2
  generalize (nameS ws n (wordS ws n p2 [98, 121])).1 = p3 at L3 ⊢
  obtain ⟨p4, L4, A4⟩ : ∃ p4, Left ws p4 ([105, 110] :: (flatW l ++ ((if souls = -1 then [] else [soulsL, Lib.itoa souls]) ++ [trustL, Lib.itoa trust]))) ∧ ∀ r : Rd, r.p = p3 → r.abt = [] → abR ws n r = { r with p := p4, abt := abt } := by
    by_cases ha : abt = []
    · rw [if_pos ha] at L3
      refine ⟨p3, L3, fun r hr hra => ?_⟩
      unfold abR
      rw [hr, maybe_is (v := [97, 98, 111, 117, 116]) L3, if_neg (by decide), ha, ← hr, ← hra]
    · rw [if_neg ha] at L3
      obtain ⟨e1, L4⟩ := b_name (n := n) (about_name c4 ha) (b_word (n := n) L3)
      refine ⟨_, L4, fun r hr hra => ?_⟩
      unfold abR
      rw [hr, maybe_is (v := [97, 98, 111, 117, 116]) L3, if_pos (by decide), e1]
  rw [A4 _ rfl rfl]; clear A4 L3
  obtain ⟨p6, L6, A6⟩ : ∃ p6, Left ws p6 [trustL, Lib.itoa trust] ∧ ∀ r : Rd, r.p = p4 → r.wh = [] → r.souls = -1 → soR ws n (whR ws n r) = { r with p := p6, wh := l, souls := souls } := by
    by_cases hs : souls = -1
    · rw [if_pos hs] at L4
      obtain ⟨e1, L5⟩ := b_where (n := n) (Or.inr rfl) l 14 _ [] l3 (by simpa using l2) (by omega) (Or.inr l1) (b_word (n := n) L4)
      refine ⟨_, L5, fun r hr hw hsl => ?_⟩
      unfold whR soR
      dsimp only
      rw [hr, hw, e1, maybe_is (v := soulsL) L5, if_neg (by decide), hs, ← hsl]
      rfl
    · rw [if_neg hs] at L4
      obtain ⟨e1, L5⟩ := b_where (n := n) (Or.inl rfl) l 14 _ [] l3 (by simpa using l2) (by omega) (Or.inr l1) (b_word (n := n) L4)
      have c6' : inB souls 0 10000 = true := by simp [inB] at c6 ⊢; omega
      obtain ⟨e2, L6⟩ := b_num (n := n) c6' (by decide) (by decide) (b_word (n := n) L5)
      refine ⟨_, L6, fun r hr hw hsl => ?_⟩
      unfold whR soR
      dsimp only
      rw [hr, hw, e1, maybe_is (v := soulsL) L5, if_pos (by decide), e2]
      rfl
  rw [A6 _ rfl rfl rfl]; clear A6 L4
  obtain ⟨e1, L7⟩ := b_num (n := n) c7 (by decide) (by decide) (b_word (n := n) L6)
  have A0 : ∀ r : Rd, r.p = p6 → trR ws n r = { r with p := (numberS ws n (wordS ws n p6 trustL) 0 1000).1, trust := trust } := by intro r hr; unfold trR; rw [hr, e1]
  rw [A0 _ rfl]; clear A0 e1 L6
  generalize (numberS ws n (wordS ws n p6 trustL) 0 1000).1 = p7 at L7 ⊢
  have h7 : ¬ p7.I < ws.length := by
    intro g
    have := L7.2
    rw [drop_tok g] at this; cases this
  have A8 : ∀ r : Rd, r.p = p7 → enR ws n r = r := by
    intro r hr; unfold enR; rw [hr, if_neg h7, ← hr]
  rw [A8 _ rfl, ck_ok (by exact hc)]
  exact ⟨L7.1, rfl, rfl⟩

/-- what is left of a line ahead of what a step leaves. -/
def Used (ws : List (List UInt8)) (p p' : Ln) (l : List (List UInt8)) : Prop := p.E = 0 ∧ ws.drop p.I = l ++ ws.drop p'.I
theorem used_trans {ws p p' p'' l l'} (h : Used ws p p' l) (h' : Used ws p' p'' l') : Used ws p p'' (l ++ l') := ⟨h.1, by rw [h.2, h'.2, List.append_assoc]⟩
theorem fail_E {ws n} {p : Ln} {e : Int} (he : e ≠ 0) : (failS ws n p e).E ≠ 0 := by
  unfold failS
  split
  · exact he
  · assumption
theorem a_word {ws n w} {p : Ln} (h : (wordS ws n p w).E = 0) : Used ws p (wordS ws n p w) [w] := by
  unfold wordS at h ⊢
  split
  · rename_i g
    obtain ⟨g1, g2⟩ := g
    unfold isS at g2
    rw [Bool.and_eq_true, decide_eq_true_eq, beq_iff_eq] at g2
    exact ⟨g1, by rw [drop_tok g2.1, g2.2]; rfl⟩
  · rename_i g
    rw [if_neg g] at h
    exact absurd h (fail_E (by decide))
theorem a_num {ws n lo hi} {p : Ln} (h : (numberS ws n p lo hi).1.E = 0) : Used ws p (numberS ws n p lo hi).1 [Lib.itoa (numberS ws n p lo hi).2] := by
  unfold numberS at h ⊢
  split
  · rename_i g
    rw [if_pos g] at h
    cases hr : numRes (tok ws p.I) lo hi with
    | error er =>
      rw [hr] at h
      refine absurd h (fail_E ?_)
      unfold numRes at hr
      split at hr
      · split at hr
        · cases hr
        · cases hr; decide
      · cases hr; decide
    | ok v =>
      unfold numRes at hr
      split at hr
      · rename_i hf
        split at hr
        · injection hr with hr
          refine ⟨g.1, ?_⟩
          dsimp only
          rw [drop_tok g.2, ← hr, (form_itoa hf).1]; rfl
        · cases hr
      · cases hr
  · rename_i g
    rw [if_neg g] at h
    exact absurd h (fail_E (by decide))
theorem a_name {ws n} {p : Ln} (h : (nameS ws n p).1.E = 0) : Used ws p (nameS ws n p).1 [(nameS ws n p).2] ∧ nameL (nameS ws n p).2 = true := by
  unfold nameS at h ⊢
  split
  · rename_i g
    exact ⟨⟨g.1, by dsimp only; rw [drop_tok g.2.1]; rfl⟩, g.2.2⟩
  · rename_i g
    rw [if_neg g] at h
    exact absurd h (fail_E (by decide))
theorem a_kind {ws n} {p : Ln} (hE : p.E = 0) (h : (kindS ws n p).1.E = 0) : Used ws p (kindS ws n p).1 [kwL (kindS ws n p).2.toNat] := by
  unfold kindS at h ⊢
  split
  · rename_i g
    rw [if_pos g] at h
    cases hr : kindRes (tok ws p.I) with
    | none => rw [hr] at h; exact absurd h (fail_E (by decide))
    | some k =>
      refine ⟨hE, ?_⟩
      dsimp only
      rw [drop_tok g]
      unfold kindRes at hr
      have : tok ws p.I = kwL k.toNat := by
        split at hr
        · injection hr with hr; subst hr; assumption
        · split at hr
          · injection hr with hr; subst hr; assumption
          · split at hr
            · injection hr with hr; subst hr; assumption
            · split at hr
              · injection hr with hr; subst hr; assumption
              · cases hr
      rw [this]; rfl
  · rename_i g
    rw [if_neg g] at h
    exact absurd h (fail_E (by decide))
theorem a_where {ws n} : ∀ (f : Nat) (p : Ln) (acc : List (Int × Int)), (whereS ws n f p acc).1.E = 0 → ∃ l, (whereS ws n f p acc).2 = acc ++ l ∧ Used ws p (whereS ws n f p acc).1 (flatW l)
  | 0, p, acc, h => ⟨[], by simp [whereS], h, rfl⟩
  | f + 1, p, acc, h => by
    rw [whereS] at h ⊢
    split
    · rename_i g
      rw [if_pos g] at h
      split
      · rename_i g2
        rw [if_pos g2] at h
        exact absurd h (fail_E (by decide))
      · rename_i g2
        rw [if_neg g2] at h
        obtain ⟨l, h1, h2⟩ := a_where f _ _ h
        have h3 := a_num h2.1
        have h4 := a_num h3.1
        refine ⟨((numberS ws n p (-16777216) 16777216).2, (numberS ws n (numberS ws n p (-16777216) 16777216).1 (-16777216) 16777216).2) :: l, by rw [h1]; simp, ?_⟩
        have := used_trans h4 (used_trans h3 h2)
        simpa [flatW] using this
    · rename_i g
      rw [if_neg g] at h
      exact ⟨[], by simp, h, rfl⟩
theorem maybe_word {ws n w} {p : Ln} (h : maybeS ws p w = true) : (wordS ws n p w).E = 0 := by
  unfold maybeS at h
  rw [Bool.and_eq_true, decide_eq_true_eq] at h
  unfold wordS
  rw [if_pos h]; exact h.1

/-- a line that is read is that of its report. -/
theorem reads_print {ws t} (h : Fit ws t) (n : Nat) (q : List (Int × Int) → Bool) (hE : (readS ws n q).p.E = 0) :
    ws = wordsR (readS ws n q).kind (readS ws n q).time (readS ws n q).src (readS ws n q).abt (readS ws n q).wh (readS ws n q).souls (readS ws n q).trust ∧ checkB ((readS ws n q).st 0) (q (readS ws n q).wh) = true := by
  unfold readS at hE ⊢
  have W3 : (abR ws n (srR ws n (tmR ws n (kdR ws n r0)))).wh = [] := by unfold abR; split <;> rfl
  have B2 : (srR ws n (tmR ws n (kdR ws n r0))).abt = [] := rfl
  have S3 : (abR ws n (srR ws n (tmR ws n (kdR ws n r0)))).souls = -1 := by unfold abR; split <;> rfl
  have P0 : r0.p.E = 0 ∧ ws.drop r0.p.I = ws := ⟨rfl, rfl⟩
  obtain ⟨a0, ha0⟩ : ∃ a, a = kdR ws n r0 := ⟨_, rfl⟩
  obtain ⟨a1, ha1⟩ : ∃ a, a = tmR ws n a0 := ⟨_, rfl⟩
  obtain ⟨a2, ha2⟩ : ∃ a, a = srR ws n a1 := ⟨_, rfl⟩
  obtain ⟨a3, ha3⟩ : ∃ a, a = abR ws n a2 := ⟨_, rfl⟩
  obtain ⟨a4, ha4⟩ : ∃ a, a = whR ws n a3 := ⟨_, rfl⟩
  obtain ⟨a5, ha5⟩ : ∃ a, a = soR ws n a4 := ⟨_, rfl⟩
  obtain ⟨a6, ha6⟩ : ∃ a, a = trR ws n a5 := ⟨_, rfl⟩
  rw [← ha0, ← ha1, ← ha2] at W3 B2 S3
  rw [← ha3] at W3 S3
  rw [← ha0, ← ha1, ← ha2, ← ha3, ← ha4, ← ha5, ← ha6] at hE ⊢
  -- the end
  have hck : a6.p.E = 0 ∧ ¬ a6.p.I < ws.length ∧ checkB (a6.st 0) (q a6.wh) = true := by
    have h0 : (enR ws n a6).p.E = 0 ∧ checkB ((enR ws n a6).st 0) (q (enR ws n a6).wh) = true := by
      unfold ckR at hE
      dsimp only at hE
      split at hE
      · exact absurd hE (fail_E (by decide))
      · rename_i g
        refine ⟨hE, ?_⟩
        cases hc : checkB ((enR ws n a6).st 0) (q (enR ws n a6).wh) with
        | true => rfl
        | false => exact absurd ⟨hE, hc⟩ g
    obtain ⟨h1, h2⟩ := h0
    by_cases g : a6.p.I < ws.length
    · unfold enR at h1
      dsimp only at h1
      rw [if_pos g] at h1
      exact absurd h1 (fail_E (by decide))
    · unfold enR at h1
      dsimp only at h1
      rw [if_neg g] at h1
      exact ⟨h1, g, h2⟩
  obtain ⟨c1, c2, c3⟩ := hck
  have e8 : ckR ws n q (enR ws n a6) = a6 := by
    have : enR ws n a6 = a6 := by unfold enR; rw [if_neg c2]
    rw [this, ck_ok c3]
  rw [e8]
  refine ⟨?_, c3⟩
  have u6 : Used ws a5.p a6.p [trustL, Lib.itoa a6.trust] := by
    have : (numberS ws n (wordS ws n a5.p trustL) 0 1000).1.E = 0 := by rw [ha6] at c1; exact c1
    have h1 := a_num this
    have h2 := a_word h1.1
    rw [ha6]; exact used_trans h2 h1
  have u5 : Used ws a4.p a5.p (if a5.souls = -1 then [] else [soulsL, Lib.itoa a5.souls]) ∧ a5.wh = a4.wh ∧ (a4.kind, a4.time, a4.src, a4.abt) = (a5.kind, a5.time, a5.src, a5.abt) := by
    have hs4 : a4.souls = -1 := by rw [ha4]; exact S3
    have g5 := u6.1
    rw [ha5] at g5 ⊢
    unfold soR at g5 ⊢
    split
    · rename_i hm
      rw [if_pos hm] at g5
      have h1 := a_num g5
      have h2 := a_word (maybe_word (n := n) hm)
      refine ⟨?_, rfl, rfl⟩
      dsimp only
      rw [if_neg ?_]
      · exact used_trans h2 h1
      · intro e
        have hge : 0 ≤ (numberS ws n (wordS ws n a4.p soulsL) 0 10000).2 := by
          unfold numberS
          split
          · split
            · rename_i v hv
              unfold numRes at hv
              split at hv
              · split at hv
                · rename_i hin
                  injection hv with hv
                  subst hv
                  exact (of_decide_eq_true hin).1
                · cases hv
              · cases hv
            · exact Int.le_refl _
          · exact Int.le_refl _
        omega
    · rename_i hm
      rw [if_neg hm] at g5
      refine ⟨?_, rfl, rfl⟩
      exact ⟨g5, rfl⟩
  have u4 : ∃ l, a4.wh = l ∧ Used ws a3.p a4.p ([105, 110] :: flatW l) := by
    have g4 := u5.1.1
    rw [ha4] at g4 ⊢
    unfold whR at g4 ⊢
    dsimp only at g4 ⊢
    rw [W3] at g4 ⊢
    obtain ⟨l, h1, h2⟩ := a_where 14 _ _ g4
    have h3 := a_word h2.1
    exact ⟨l, by rw [h1]; simp, used_trans h3 h2⟩
  obtain ⟨l, hl, u4⟩ := u4
  have u3 : Used ws a2.p a3.p (if a3.abt = [] then [] else [[97, 98, 111, 117, 116], a3.abt]) ∧ (a2.kind, a2.time, a2.src) = (a3.kind, a3.time, a3.src) := by
    have g3 := u4.1
    rw [ha3] at g3 ⊢
    unfold abR at g3 ⊢
    split
    · rename_i hm
      rw [if_pos hm] at g3
      obtain ⟨h1, h0⟩ := a_name g3
      have h2 := a_word (maybe_word (n := n) hm)
      refine ⟨?_, rfl⟩
      dsimp only
      rw [if_neg ?_]
      · exact used_trans h2 h1
      · intro e; rw [e] at h0; cases h0
    · rename_i hm
      rw [if_neg hm] at g3
      refine ⟨?_, rfl⟩
      exact ⟨g3, rfl⟩
  have u2 : Used ws a1.p a2.p [[98, 121], a2.src] := by
    have g := u3.1.1
    rw [ha2] at g ⊢
    have h1 := (a_name g).1
    have h2 := a_word h1.1
    exact used_trans h2 h1
  have u1 : Used ws a0.p a1.p [[97, 116], Lib.itoa a1.time] := by
    have g := u2.1
    rw [ha1] at g ⊢
    have h1 := a_num g
    have h2 := a_word h1.1
    exact used_trans h2 h1
  have u0 : Used ws r0.p a0.p [kwL a0.kind.toNat] := by
    have g := u1.1
    rw [ha0] at g ⊢
    exact a_kind rfl g
  have k1 : a2.kind = a0.kind := by rw [ha2, ha1]; rfl
  have k2 : a2.time = a1.time := by rw [ha2]; rfl
  have k3 : (a4.kind, a4.time, a4.src, a4.abt) = (a3.kind, a3.time, a3.src, a3.abt) := by rw [ha4]; rfl
  have k4 : (a6.kind, a6.time, a6.src, a6.abt, a6.wh, a6.souls) = (a5.kind, a5.time, a5.src, a5.abt, a5.wh, a5.souls) := by rw [ha6]; rfl
  have all := used_trans u0 (used_trans u1 (used_trans u2 (used_trans u3.1 (used_trans u4 (used_trans u5.1 u6)))))
  have hend : ws.drop a6.p.I = [] := List.drop_of_length_le (by omega)
  have hall := all.2
  rw [P0.2, hend, List.append_nil] at hall
  obtain ⟨x5, x6, x7⟩ := u5
  have y3 := u3.2
  simp only [Prod.mk.injEq] at x7 y3 k3 k4
  obtain ⟨q1, q2, q3, q4, q5, q6⟩ := k4
  obtain ⟨s1, s2, s3, s4⟩ := k3
  obtain ⟨t1, t2, t3, t4⟩ := x7
  obtain ⟨v1, v2, v3⟩ := y3
  unfold wordsR
  rw [q1, q2, q3, q4, q5, q6, ← t1, ← t2, ← t3, ← t4, s1, s2, s3, s4, ← v1, ← v2, ← v3, k1, k2, x6, hl]
  refine hall.trans ?_
  simp [flatW]
end Go.Proofs.YtjcaaejfokmolaaGreatDoor
