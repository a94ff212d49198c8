/- Plain mathematics of words of 64 bits and of numbers of such words: nothing of the program. Plain mathematics of Lehmer's steps. Plain mathematics of long division. -/
section
namespace Go.Proofs.YtkggfeemjabdeaaGreatDoor
/-- 2 to the 64th, behind a name. -/
def R64 : Nat := 18446744073709551616
theorem R64_eq : R64 = 18446744073709551616 := rfl
theorem R64_pos : 0 < R64 := by rw [R64_eq]; omega
/-- the low and the high word of a number. -/
def lo (n : Nat) : Nat := n % R64
def hi (n : Nat) : Nat := n / R64
theorem lo_lt (n : Nat) : lo n < R64 := Nat.mod_lt _ R64_pos
theorem lo_hi (n : Nat) : lo n + R64 * hi n = n := Nat.mod_add_div _ _
theorem hi_lt {n k : Nat} (h : n < k * R64) : hi n < k := (Nat.div_lt_iff_lt_mul R64_pos).2 h
theorem lo_of {n q r : Nat} (h : n = r + R64 * q) (hr : r < R64) : lo n = r := by
  unfold lo; rw [h, Nat.add_mul_mod_self_left]; exact Nat.mod_eq_of_lt hr
theorem hi_of {n q r : Nat} (h : n = r + R64 * q) (hr : r < R64) : hi n = q := by
  unfold hi; rw [h, Nat.add_mul_div_left _ _ R64_pos, Nat.div_eq_of_lt hr, Nat.zero_add]
theorem mul_lt_sq {a b : Nat} (ha : a < R64) (hb : b < R64) : a * b ≤ (R64 - 1) * (R64 - 1) := Nat.mul_le_mul (by omega) (by omega)
theorem mad_lt {a b c : Nat} (ha : a < R64) (hb : b < R64) (hc : c < R64) : a * b + c < R64 * R64 := by
  have h1 := mul_lt_sq ha hb
  have h2 : (R64 - 1) * (R64 - 1) + R64 < R64 * R64 + 1 := by rw [R64_eq]; omega
  omega
theorem mad_nat {a b c : Nat} (ha : a < R64) (hb : b < R64) (hc : c < R64) :
    lo (lo (a * b) + c) = lo (a * b + c) ∧ hi (a * b) + hi (lo (a * b) + c) = hi (a * b + c) ∧ hi (a * b + c) < R64 := by
  have h := mad_lt ha hb hc
  have e1 := lo_hi (a * b)
  have e2 := lo_hi (lo (a * b) + c)
  have e3 : a * b + c = lo (lo (a * b) + c) + R64 * (hi (a * b) + hi (lo (a * b) + c)) := by rw [Nat.mul_add]; omega
  refine ⟨(lo_of e3 (lo_lt _)).symm, (hi_of e3 (lo_lt _)).symm, hi_lt h⟩

/-- the value of the first n words. -/
def val (f : Nat → Nat) : Nat → Nat
  | 0 => 0
  | n + 1 => val f n + f n * R64 ^ n
theorem val_congr {f g : Nat → Nat} : ∀ {n : Nat}, (∀ i, i < n → f i = g i) → val f n = val g n
  | 0, _ => rfl
  | n + 1, h => by unfold val; rw [val_congr fun i hi => h i (by omega), h n (by omega)]
theorem val_lt {f : Nat → Nat} : ∀ {n : Nat}, (∀ i, i < n → f i < R64) → val f n < R64 ^ n
  | 0, _ => by simp [val]
  | n + 1, h => by
    have h1 := val_lt (n := n) fun i hi => h i (by omega)
    have h2 := h n (by omega)
    unfold val
    have h3 : f n * R64 ^ n ≤ (R64 - 1) * R64 ^ n := Nat.mul_le_mul_right _ (by omega)
    have h4 : R64 ^ (n + 1) = (R64 - 1) * R64 ^ n + R64 ^ n := by
      rw [← Nat.succ_mul, Nat.succ_eq_add_one, Nat.sub_add_cancel R64_pos, Nat.pow_succ, Nat.mul_comm]
    omega
theorem val_ge {f : Nat → Nat} {n : Nat} (h : 0 < n) (h0 : f (n - 1) ≠ 0) : R64 ^ (n - 1) ≤ val f n := by
  obtain ⟨k, rfl⟩ : ∃ k, n = k + 1 := ⟨n - 1, by omega⟩
  unfold val
  simp only [Nat.add_sub_cancel] at h0 ⊢
  have : 1 * R64 ^ k ≤ f k * R64 ^ k := Nat.mul_le_mul_right _ (by omega)
  omega
/-- how many words are left of the first n, without zeros at the end. -/
def tl (f : Nat → Nat) : Nat → Nat
  | 0 => 0
  | k + 1 => if f k = 0 then tl f k else k + 1
theorem tl_le (f : Nat → Nat) : ∀ k, tl f k ≤ k
  | 0 => Nat.le_refl _
  | k + 1 => by
    unfold tl
    split
    · exact Nat.le_succ_of_le (tl_le f k)
    · exact Nat.le_refl _
theorem tl_top (f : Nat → Nat) : ∀ k, tl f k = 0 ∨ f (tl f k - 1) ≠ 0
  | 0 => .inl rfl
  | k + 1 => by
    unfold tl
    split
    · exact tl_top f k
    · right; simpa using ‹¬ f k = 0›
theorem val_tl (f : Nat → Nat) : ∀ k, val f (tl f k) = val f k
  | 0 => rfl
  | k + 1 => by
    unfold tl
    split
    · rename_i h; rw [val_tl f k]; simp [val, h]
    · rfl
theorem tl_id {f : Nat → Nat} {n : Nat} (h : n = 0 ∨ f (n - 1) ≠ 0) : tl f n = n := by
  cases n with
  | zero => rfl
  | succ k => rcases h with h | h; cases h; simp at h; simp [tl, h]
/-- words of 64 bits, the last one not 0. -/
structure Nrm (f : Nat → Nat) (n : Nat) : Prop where
  lim : ∀ i, i < n → f i < R64
  top : n = 0 ∨ f (n - 1) ≠ 0
theorem pow_le_pow {a b : Nat} (h : a ≤ b) : R64 ^ a ≤ R64 ^ b := Nat.pow_le_pow_right R64_pos h
theorem Nrm.len_lt {f g : Nat → Nat} {n m : Nat} (hf : Nrm f n) (hg : Nrm g m) (h : n < m) : val f n < val g m := by
  have h1 := val_lt hf.lim
  have h2 := val_ge (f := g) (n := m) (by omega) (by rcases hg.top with h | h; omega; exact h)
  have h3 := pow_le_pow (show n ≤ m - 1 by omega)
  omega
theorem Nrm.len_le {f : Nat → Nat} {n k : Nat} (hf : Nrm f n) (h : val f n < R64 ^ k) : n ≤ k := by
  by_cases h0 : n = 0
  · omega
  by_cases h1 : n ≤ k
  · exact h1
  have h2 := val_ge (f := f) (n := n) (by omega) (by rcases hf.top with h | h; omega; exact h)
  have h3 := pow_le_pow (show k ≤ n - 1 by omega)
  omega
theorem val_cmp {f g : Nat → Nat} {i : Nat} (hf : ∀ j, j ≤ i → f j < R64) (hg : ∀ j, j ≤ i → g j < R64) (hlt : f i < g i) :
    ∀ {n : Nat}, i < n → (∀ j, i < j → j < n → f j = g j) → val f n < val g n
  | 0, h, _ => by omega
  | n + 1, h, he => by
    unfold val
    by_cases hi : i = n
    · subst hi
      have h1 := val_lt (f := f) (n := i) fun j hj => hf j (by omega)
      have h2 : (f i + 1) * R64 ^ i ≤ g i * R64 ^ i := Nat.mul_le_mul_right _ (by omega)
      rw [Nat.add_mul, Nat.one_mul] at h2
      omega
    · have h1 := val_cmp hf hg hlt (n := n) (by omega) fun j a b => he j a (by omega)
      rw [he n (by omega) (by omega)]
      omega
/-- -1, 0, 1. -/
def cmpN (a b : Nat) : Int := if a < b then -1 else if b < a then 1 else 0
theorem cmpN_lt {a b : Nat} (h : a < b) : cmpN a b = -1 := if_pos h
theorem cmpN_gt {a b : Nat} (h : b < a) : cmpN a b = 1 := by unfold cmpN; rw [if_neg (by omega), if_pos h]
theorem cmpN_eq {a b : Nat} (h : a = b) : cmpN a b = 0 := by unfold cmpN; rw [if_neg (by omega), if_neg (by omega)]
theorem cmp_at {f g : Nat → Nat} {n k : Nat} (hk : k < n) (lf : ∀ i, i < n → f i < R64) (lg : ∀ i, i < n → g i < R64) (h : f k ≠ g k) (he : ∀ j, k + 1 ≤ j → j < n → f j = g j) :
    cmpN (val f n) (val g n) = cmpN (f k) (g k) := by
  rcases Nat.lt_or_gt_of_ne h with h | h
  · rw [cmpN_lt h, cmpN_lt (val_cmp (fun j hj => lf j (by omega)) (fun j hj => lg j (by omega)) h hk fun j a b => he j a b)]
  · rw [cmpN_gt h, cmpN_gt (val_cmp (fun j hj => lg j (by omega)) (fun j hj => lf j (by omega)) h hk fun j a b => (he j a b).symm)]
/-- f, with x at i. -/
def upd (f : Nat → Nat) (i x : Nat) : Nat → Nat := fun j => if j = i then x else f j
theorem upd_at (f : Nat → Nat) (i x : Nat) : upd f i x i = x := if_pos rfl
theorem upd_ne (f : Nat → Nat) {i j : Nat} (x : Nat) (h : j ≠ i) : upd f i x j = f j := if_neg h
theorem upd_lim {f : Nat → Nat} {i x n B : Nat} (hf : ∀ j, j < n → f j < B) (hx : x < B) : ∀ j, j < n → upd f i x j < B := by
  intro j hj
  by_cases h : j = i
  · subst h; rw [upd_at]; exact hx
  · rw [upd_ne _ _ h]; exact hf j hj
theorem val_upd (f : Nat → Nat) (x : Nat) {i n : Nat} (h : n ≤ i) : val (upd f i x) n = val f n := val_congr fun j hj => upd_ne _ _ (by omega)
theorem val_upd_succ (f : Nat → Nat) (x i : Nat) : val (upd f i x) (i + 1) = val f i + x * R64 ^ i := by
  show val (upd f i x) i + upd f i x i * R64 ^ i = _
  rw [val_upd _ _ (Nat.le_refl _), upd_at]
theorem pow_succ_R (n : Nat) : R64 ^ (n + 1) = R64 * R64 ^ n := by rw [Nat.pow_succ, Nat.mul_comm]
theorem raise_step {f g h : Nat → Nat} {c i : Nat} (e : val f i + val g i = val h i + c * R64 ^ i) :
    val f (i + 1) + val g (i + 1) = val (upd h i (lo (f i + g i + c))) (i + 1) + hi (f i + g i + c) * R64 ^ (i + 1) := by
  have e1 := lo_hi (f i + g i + c)
  rw [val_upd_succ, pow_succ_R]
  show val f i + f i * R64 ^ i + (val g i + g i * R64 ^ i) = _
  generalize hL : lo (f i + g i + c) = L at *
  generalize hH : hi (f i + g i + c) = H at *
  have e2 : (f i + g i + c) * R64 ^ i = (L + R64 * H) * R64 ^ i := by rw [e1]
  have e3 : H * (R64 * R64 ^ i) = R64 * H * R64 ^ i := by rw [← Nat.mul_assoc, Nat.mul_comm H]
  rw [Nat.add_mul, Nat.add_mul, Nat.add_mul] at e2
  omega
theorem hi_carry {a b c : Nat} (ha : a < R64) (hb : b < R64) (hc : c ≤ 1) : hi (a + b + c) ≤ 1 := by
  have := hi_lt (n := a + b + c) (k := 2) (by omega)
  omega
/-- only the first k words, and zeros behind them. -/
def cutf (g : Nat → Nat) (k : Nat) : Nat → Nat := fun j => if j < k then g j else 0
theorem cutf_lt {g : Nat → Nat} {k j : Nat} (h : j < k) : cutf g k j = g j := if_pos h
theorem cutf_ge {g : Nat → Nat} {k j : Nat} (h : k ≤ j) : cutf g k j = 0 := if_neg (by omega)
theorem cutf_lim {g : Nat → Nat} {k : Nat} (hg : ∀ i, i < k → g i < R64) (j : Nat) : cutf g k j < R64 := by
  unfold cutf; split
  · exact hg j ‹_›
  · exact R64_pos
theorem val_cutf {g : Nat → Nat} {k : Nat} : ∀ {n : Nat}, k ≤ n → val (cutf g k) n = val g k
  | n, h => by
    induction n with
    | zero => obtain rfl : k = 0 := by omega
              rfl
    | succ n ih =>
      by_cases hk : k = n + 1
      · subst hk; exact val_congr fun i hi => cutf_lt hi
      · show val (cutf g k) n + cutf g k n * _ = _
        rw [ih (by omega), cutf_ge (by omega)]; omega
theorem same_tail {f g h : Nat → Nat} {i : Nat} : ∀ {n : Nat}, i ≤ n → val f i + val g i = val h i → (∀ j, i ≤ j → j < n → h j = f j) → (∀ j, i ≤ j → j < n → g j = 0) → val f n + val g n = val h n
  | 0, hi, e, _, _ => by obtain rfl : i = 0 := by omega
                         exact e
  | n + 1, hi, e, h1, h2 => by
    by_cases hk : i = n + 1
    · subst hk; exact e
    · have := same_tail (n := n) (by omega) e (fun j a b => h1 j a (by omega)) (fun j a b => h2 j a (by omega))
      show val f n + f n * _ + (val g n + g n * _) = val h n + h n * _
      rw [h1 n (by omega) (by omega), h2 n (by omega) (by omega)]; omega
theorem lo_add (a q : Nat) : lo (lo a + q) = lo (a + q) := by
  unfold lo; rw [Nat.mod_add_mod]
theorem hi_add (a q : Nat) : hi a + hi (lo a + q) = hi (a + q) := by
  have e1 := lo_hi a
  have e2 := lo_hi (lo a + q)
  have e3 : a + q = lo (lo a + q) + R64 * (hi a + hi (lo a + q)) := by rw [Nat.mul_add]; omega
  exact (hi_of e3 (lo_lt _)).symm
theorem mad2_lt {a b c d : Nat} (ha : a < R64) (hb : b < R64) (hc : c < R64) (hd : d < R64) : hi (a * b + c + d) < R64 := by
  apply hi_lt
  have h1 := mul_lt_sq ha hb
  have h2 : (R64 - 1) * (R64 - 1) + 2 * R64 < R64 * R64 + 2 := by rw [R64_eq]; omega
  omega
theorem times_step {q p g : Nat → Nat} {i k c x : Nat} (e : val q (i + k) + c * R64 ^ (i + k) = val p (i + k) + x * R64 ^ i * val g k) (hq : q (i + k) = p (i + k)) :
    val (upd q (i + k) (lo (g k * x + c + q (i + k)))) (i + (k + 1)) + hi (g k * x + c + q (i + k)) * R64 ^ (i + (k + 1)) = val p (i + (k + 1)) + x * R64 ^ i * val g (k + 1) := by
  have e1 := lo_hi (g k * x + c + q (i + k))
  rw [show i + (k + 1) = i + k + 1 from rfl, val_upd_succ, pow_succ_R]
  show _ = val p (i + k) + p (i + k) * R64 ^ (i + k) + x * R64 ^ i * (val g k + g k * R64 ^ k)
  rw [← hq]
  generalize hL : lo (g k * x + c + q (i + k)) = L at *
  generalize hH : hi (g k * x + c + q (i + k)) = H at *
  have e2 : (g k * x + c + q (i + k)) * R64 ^ (i + k) = (L + R64 * H) * R64 ^ (i + k) := by rw [e1]
  have e3 : H * (R64 * R64 ^ (i + k)) = R64 * H * R64 ^ (i + k) := by rw [← Nat.mul_assoc, Nat.mul_comm H]
  have e4 : x * R64 ^ i * (g k * R64 ^ k) = g k * x * R64 ^ (i + k) := by rw [Nat.pow_add]; ac_rfl
  rw [Nat.mul_add, e4, e3]
  simp only [Nat.add_mul] at e2
  omega
theorem times_row {f g q p : Nat → Nat} {i m c : Nat} (e : val q (i + m) + c * R64 ^ (i + m) = val p (i + m) + f i * R64 ^ i * val g m) (hp : val p (i + m) = val f i * val g m) :
    val (upd q (i + m) c) (i + 1 + m) = val f (i + 1) * val g m := by
  rw [show i + 1 + m = i + m + 1 from by omega, val_upd_succ, e, hp]
  show _ = (val f i + f i * R64 ^ i) * val g m
  rw [Nat.add_mul]
theorem val_zero : ∀ n, val (fun _ => 0) n = 0
  | 0 => rfl
  | n + 1 => by unfold val; rw [val_zero n]; simp
theorem R64_split {s : Nat} (h : s ≤ 64) : R64 = 2 ^ s * 2 ^ (64 - s) := by
  rw [← Nat.pow_add, show s + (64 - s) = 64 from by omega, R64_eq]
theorem lo_shl (x : Nat) {s : Nat} (h : s ≤ 64) : lo (x * 2 ^ s) = 2 ^ s * (x % 2 ^ (64 - s)) := by
  unfold lo; rw [R64_split h, Nat.mul_comm x, Nat.mul_mod_mul_left]
theorem hi_shl (x : Nat) {s : Nat} (h : s ≤ 64) : hi (x * 2 ^ s) = x / 2 ^ (64 - s) := by
  unfold hi; rw [R64_split h, Nat.mul_comm x, Nat.mul_div_mul_left _ _ (Nat.two_pow_pos s)]
theorem shl_join {q x s : Nat} (h : s ≤ 64) (hq : q < 2 ^ s) : q + lo (x * 2 ^ s) < R64 := by
  rw [lo_shl x h]
  have h1 := Nat.mod_lt x (Nat.two_pow_pos (64 - s))
  have h2 : 2 ^ s * (x % 2 ^ (64 - s) + 1) ≤ 2 ^ s * 2 ^ (64 - s) := Nat.mul_le_mul_left _ h1
  rw [← R64_split h, Nat.mul_add, Nat.mul_one] at h2
  omega
theorem div_lt_pow {x s : Nat} (hx : x < R64) (h : s ≤ 64) : x / 2 ^ (64 - s) < 2 ^ s := by
  apply (Nat.div_lt_iff_lt_mul (Nat.two_pow_pos _)).2
  rw [← R64_split h]; exact hx
theorem shl_step {f p : Nat → Nat} {i s : Nat} (hs : s ≤ 64) (e : val p (i + 1) = val f i * 2 ^ s) :
    val (upd (upd p i (p i + lo (f i * 2 ^ s))) (i + 1) (f i / 2 ^ (64 - s))) (i + 1 + 1) = val f (i + 1) * 2 ^ s := by
  rw [val_upd_succ, val_upd_succ, ← hi_shl _ hs, pow_succ_R]
  have e1 := lo_hi (f i * 2 ^ s)
  have e2 : val p i + p i * R64 ^ i = val f i * 2 ^ s := e
  show _ = (val f i + f i * R64 ^ i) * 2 ^ s
  generalize hL : lo (f i * 2 ^ s) = L at *
  generalize hH : hi (f i * 2 ^ s) = H at *
  have e3 : (f i * 2 ^ s) * R64 ^ i = (L + R64 * H) * R64 ^ i := by rw [e1]
  have e4 : H * (R64 * R64 ^ i) = R64 * H * R64 ^ i := by rw [← Nat.mul_assoc, Nat.mul_comm H]
  have e5 : f i * R64 ^ i * 2 ^ s = f i * 2 ^ s * R64 ^ i := by ac_rfl
  rw [e4, Nat.add_mul (val f i), e5, e3]
  simp only [Nat.add_mul]
  omega
theorem shr_first {f : Nat → Nat} (p : Nat → Nat) (s : Nat) : val (upd p 0 (f 0 / 2 ^ s)) (0 + 1) = val f (0 + 1) / 2 ^ s := by
  rw [val_upd_succ]; simp [val]
theorem shr_step {f p : Nat → Nat} {i s : Nat} (hs : s ≤ 64) (e : val p (i + 1) = val f (i + 1) / 2 ^ s) :
    val (upd (upd p (i + 1) (f (i + 1) / 2 ^ s)) i (p i + lo (f (i + 1) * 2 ^ (64 - s)))) (i + 1 + 1) = val f (i + 1 + 1) / 2 ^ s := by
  have e1 := lo_hi (f (i + 1) * 2 ^ (64 - s))
  have e2 : hi (f (i + 1) * 2 ^ (64 - s)) = f (i + 1) / 2 ^ s := by rw [hi_shl _ (by omega), show 64 - (64 - s) = s from by omega]
  have a1 : val (upd (upd p (i + 1) (f (i + 1) / 2 ^ s)) i (p i + lo (f (i + 1) * 2 ^ (64 - s)))) (i + 1 + 1) = val p i + (p i + lo (f (i + 1) * 2 ^ (64 - s))) * R64 ^ i + f (i + 1) / 2 ^ s * R64 ^ (i + 1) := by
    show val _ i + _ * R64 ^ i + _ * R64 ^ (i + 1) = _
    rw [upd_at, upd_ne _ _ (show i + 1 ≠ i by omega), upd_at, val_upd _ _ (Nat.le_refl _), val_upd _ _ (by omega)]
  have a2 : val f (i + 1 + 1) = val f (i + 1) + f (i + 1) * 2 ^ (64 - s) * R64 ^ i * 2 ^ s := by
    show val f (i + 1) + f (i + 1) * R64 ^ (i + 1) = _
    rw [pow_succ_R, R64_split hs]
    congr 1
    rw [← Nat.mul_assoc, ← Nat.mul_assoc]
    generalize (2 ^ s * 2 ^ (64 - s)) ^ i = y
    ac_rfl
  rw [a1, a2, Nat.add_mul_div_right _ _ (Nat.two_pow_pos s), ← e, ← e2, pow_succ_R]
  show _ = val p i + p i * R64 ^ i + _
  generalize hL : lo (f (i + 1) * 2 ^ (64 - s)) = L at *
  generalize hH : hi (f (i + 1) * 2 ^ (64 - s)) = H at *
  rw [← e1]
  have e4 : H * (R64 * R64 ^ i) = R64 * H * R64 ^ i := by rw [← Nat.mul_assoc, Nat.mul_comm H]
  rw [e4]
  simp only [Nat.add_mul]
  omega
/-- 2 to the 32nd, behind a name. -/
def B32 : Nat := 4294967296
theorem B32_eq : B32 = 4294967296 := rfl
theorem B32_sq : B32 * B32 = R64 := rfl
/-- a guess of a digit: the guess X and what it leaves, T. -/
structure Est (y1 y0 u u1 X T : Nat) : Prop where
  sum : X * y1 + T = u
  ge : (u * B32 + u1) / (y1 * B32 + y0) ≤ X
  le : X ≤ B32 + 1
  lt : T < B32
section
variable {y1 y0 u u1 X T : Nat}
theorem est_pos (h : B32 ≤ 2 * y1) : 0 < y1 * B32 + y0 := by rw [B32_eq] at *; omega
theorem est_init (h : B32 ≤ 2 * y1) (h1 : y1 < B32) (h0 : y0 < B32) (hu : u < y1 * B32 + y0) (hu1 : u1 < B32) : Est y1 y0 u u1 (u / y1) (u % y1) := by
  have hp : 0 < y1 := by rw [B32_eq] at h; omega
  refine ⟨by rw [Nat.mul_comm]; exact Nat.div_add_mod u y1, ?_, ?_, Nat.lt_trans (Nat.mod_lt _ hp) h1⟩
  · rw [Nat.le_div_iff_mul_le hp]
    have h2 := Nat.div_mul_le_self (u * B32 + u1) (y1 * B32 + y0)
    generalize (u * B32 + u1) / (y1 * B32 + y0) = q at *
    rw [Nat.mul_add, ← Nat.mul_assoc] at h2
    generalize q * y1 = a at *
    generalize q * y0 = b at *
    rw [B32_eq] at *
    omega
  · have h2 := Nat.div_mul_le_self u y1
    rcases Nat.lt_or_ge (B32 + 1) (u / y1) with h3 | h3
    · exfalso
      have h4 : (B32 + 2) * y1 ≤ u / y1 * y1 := Nat.mul_le_mul_right _ h3
      rw [B32_eq] at *
      omega
    · exact h3
theorem est_digit (hu : u < y1 * B32 + y0) (hu1 : u1 < B32) : (u * B32 + u1) / (y1 * B32 + y0) < B32 := by
  apply (Nat.div_lt_iff_lt_mul (by omega)).2
  have : (u + 1) * B32 ≤ (y1 * B32 + y0) * B32 := Nat.mul_le_mul_right _ hu
  rw [Nat.add_mul, Nat.mul_comm (y1 * B32 + y0)] at this
  omega
theorem est_mul (X y1 y0 : Nat) : X * (y1 * B32 + y0) = X * y1 * B32 + X * y0 := by rw [Nat.mul_add, ← Nat.mul_assoc]
theorem est_stop (e : Est y1 y0 u u1 X T) (h : B32 ≤ 2 * y1) (ht : X * y0 ≤ B32 * T + u1) : X = (u * B32 + u1) / (y1 * B32 + y0) := by
  apply Nat.le_antisymm _ e.ge
  rw [Nat.le_div_iff_mul_le (est_pos h), est_mul]
  have h1 := e.sum
  generalize X * y1 = a at *
  generalize X * y0 = b at *
  rw [B32_eq] at *
  omega
theorem est_less (e : Est y1 y0 u u1 X T) (h : B32 ≤ 2 * y1) (hu : u < y1 * B32 + y0) (hu1 : u1 < B32) (ht : B32 ≤ X ∨ B32 * T + u1 < X * y0) : (u * B32 + u1) / (y1 * B32 + y0) < X := by
  rcases ht with ht | ht
  · exact Nat.lt_of_lt_of_le (est_digit hu hu1) ht
  · apply (Nat.div_lt_iff_lt_mul (est_pos h)).2
    rw [est_mul]
    have h1 := e.sum
    generalize X * y1 = a at *
    generalize X * y0 = b at *
    rw [B32_eq] at *
    omega
theorem est_next_sum (e : Est y1 y0 u u1 X T) (hX : 0 < X) : (X - 1) * y1 + (T + y1) = u := by
  have h1 := e.sum
  obtain ⟨Z, rfl⟩ : ∃ Z, X = Z + 1 := ⟨X - 1, by omega⟩
  rw [Nat.add_mul, Nat.one_mul] at h1
  rw [Nat.add_sub_cancel]
  omega
theorem est_next (e : Est y1 y0 u u1 X T) (hq : (u * B32 + u1) / (y1 * B32 + y0) < X) (ht : T + y1 < B32) : Est y1 y0 u u1 (X - 1) (T + y1) :=
  ⟨est_next_sum e (Nat.lt_of_le_of_lt (Nat.zero_le _) hq), Nat.le_sub_one_of_lt hq, Nat.le_trans (Nat.sub_le _ _) e.le, ht⟩
theorem est_break (e : Est y1 y0 u u1 X T) (h : B32 ≤ 2 * y1) (h0 : y0 < B32) (hq : (u * B32 + u1) / (y1 * B32 + y0) < X) (ht : B32 ≤ T + y1) : X - 1 = (u * B32 + u1) / (y1 * B32 + y0) := by
  apply Nat.le_antisymm _ (Nat.le_sub_one_of_lt hq)
  have hX : 0 < X := Nat.lt_of_le_of_lt (Nat.zero_le _) hq
  clear hq
  rw [Nat.le_div_iff_mul_le (est_pos h), est_mul]
  have h1 := est_next_sum e hX
  have h2 := e.le
  have h3 : (X - 1) * y0 ≤ B32 * y0 := Nat.mul_le_mul_right _ (by omega)
  have h4 : B32 * y0 ≤ B32 * (B32 - 1) := Nat.mul_le_mul_left _ (by omega)
  have h5 : B32 * B32 ≤ B32 * (T + y1) := Nat.mul_le_mul_left _ ht
  generalize (X - 1) * y1 = a at *
  generalize (X - 1) * y0 = b at *
  rw [B32_eq] at *
  omega
end
theorem val_shift (f : Nat → Nat) : ∀ n, val f (n + 1) = f 0 + R64 * val (fun j => f (j + 1)) n
  | 0 => by simp [val]
  | n + 1 => by
    show val f (n + 1) + f (n + 1) * R64 ^ (n + 1) = f 0 + R64 * (val (fun j => f (j + 1)) n + f (n + 1) * R64 ^ n)
    rw [val_shift f n, pow_succ_R, Nat.mul_add]
    have : f (n + 1) * (R64 * R64 ^ n) = R64 * (f (n + 1) * R64 ^ n) := by ac_rfl
    omega
theorem div_step {f h : Nat → Nat} {n k x m q : Nat} (hk : k < n) (e : val f n = val f (k + 1) + (x + m * val (fun j => h (k + 1 + j)) (n - (k + 1))) * R64 ^ (k + 1)) (hq : q = (x * R64 + f k) / m) :
    val f n = val f k + ((x * R64 + f k) % m + m * val (fun j => upd h k q (k + j)) (n - k)) * R64 ^ k := by
  have e1 : val (fun j => upd h k q (k + j)) (n - k) = q + R64 * val (fun j => h (k + 1 + j)) (n - (k + 1)) := by
    rw [show n - k = n - (k + 1) + 1 from by omega, val_shift]
    congr 1
    · show upd h k q (k + 0) = q
      rw [Nat.add_zero, upd_at]
    · congr 1
      exact val_congr fun i _ => by rw [upd_ne _ _ (by omega), show k + (i + 1) = k + 1 + i from by omega]
  rw [e1, e]
  have e2 := Nat.div_add_mod (x * R64 + f k) m
  rw [← hq] at e2
  show val f k + f k * R64 ^ k + _ = _
  generalize val (fun j => h (k + 1 + j)) (n - (k + 1)) = Q at *
  generalize (x * R64 + f k) % m = r at *
  have e3 : r + m * (q + R64 * Q) = f k + (x + m * Q) * R64 := by
    rw [Nat.mul_add, Nat.add_mul]
    have : m * (R64 * Q) = m * Q * R64 := by ac_rfl
    omega
  rw [e3, pow_succ_R, Nat.add_mul (f k)]
  have e4 : (x + m * Q) * (R64 * R64 ^ k) = (x + m * Q) * R64 * R64 ^ k := by ac_rfl
  omega
theorem div_end {A x m Q : Nat} (e : A = x + m * Q) (hx : x < m) : A % m = x ∧ A / m = Q := by
  rw [e]
  exact ⟨by rw [Nat.add_mul_mod_self_left]; exact Nat.mod_eq_of_lt hx, by rw [Nat.add_mul_div_left _ _ (by omega), Nat.div_eq_of_lt hx, Nat.zero_add]⟩
theorem digit_lt {x l m : Nat} (hx : x < m) (hl : l < R64) : (x * R64 + l) / m < R64 := by
  apply (Nat.div_lt_iff_lt_mul (by omega)).2
  have : (x + 1) * R64 ≤ m * R64 := Nat.mul_le_mul_right _ hx
  rw [Nat.add_mul, Nat.mul_comm m] at this
  omega
theorem quot_top {N D : Nat} (h : N < D * R64) : N / D ≤ R64 - 1 := by
  have hD : 0 < D := by
    rcases Nat.eq_zero_or_pos D with h0 | h0
    · rw [h0, Nat.zero_mul] at h; omega
    · exact h0
  have := (Nat.div_lt_iff_lt_mul hD).2 (by rw [Nat.mul_comm]; exact h)
  exact Nat.le_sub_one_of_lt this
theorem quot_est {f g : Nat → Nat} {k : Nat} (lf : ∀ i, i < k → f i < R64) (hy : 0 < g k) : val f (k + 2) / val g (k + 1) ≤ (f (k + 1) * R64 + f k) / g k := by
  rw [Nat.le_div_iff_mul_le hy]
  have h1 := Nat.div_mul_le_self (val f (k + 2)) (val g (k + 1))
  generalize val f (k + 2) / val g (k + 1) = q at *
  have h2 : q * (g k * R64 ^ k) ≤ q * val g (k + 1) := Nat.mul_le_mul_left _ (Nat.le_add_left _ _)
  have h3 := val_lt lf
  have h4 : val f (k + 2) = val f k + f k * R64 ^ k + f (k + 1) * R64 ^ (k + 1) := rfl
  rw [pow_succ_R, ← Nat.mul_assoc] at h4
  rw [← Nat.mul_assoc] at h2
  have h5 : q * g k * R64 ^ k < (f (k + 1) * R64 + f k + 1) * R64 ^ k := by
    rw [Nat.add_mul, Nat.add_mul, Nat.one_mul]; omega
  have := Nat.lt_of_mul_lt_mul_right h5
  omega
/-- the state of a division's step: what is there, the guess X, and whether too much was taken. -/
def Took (N D M X V : Nat) (b : Bool) : Prop := if b then N + M = V + X * D else N = V + X * D ∧ V < D
theorem took_first {N D M X V e : Nat} (h : N + e * M = V + X * D) (hV : V < M) (hX : N / D ≤ X) (hXD : X * D < M) (hD : 0 < D) : Took N D M X V (decide (e ≠ 0)) := by
  rcases Nat.eq_zero_or_pos e with h0 | h0
  · subst h0
    show N = V + X * D ∧ V < D
    rw [Nat.zero_mul, Nat.add_zero] at h
    refine ⟨h, ?_⟩
    have h1 : N < D * (N / D) + D := by
      have := Nat.div_add_mod N D
      have := Nat.mod_lt N hD
      omega
    have h2 : D * (N / D) ≤ X * D := by rw [Nat.mul_comm]; exact Nat.mul_le_mul_right _ hX
    omega
  · have h1 : e < 2 := by
      rcases Nat.lt_or_ge e 2 with h2 | h2
      · exact h2
      · have : 2 * M ≤ e * M := Nat.mul_le_mul_right _ h2
        omega
    have h2 : e = 1 := by omega
    subst h2
    show N + M = V + X * D
    omega
theorem took_pos {N D M X V : Nat} (h : Took N D M X V true) (hV : V < M) : 0 < X := by
  have h1 : N + M = V + X * D := h
  rcases Nat.eq_zero_or_pos X with h0 | h0
  · rw [h0, Nat.zero_mul] at h1; omega
  · exact h0
theorem took_next {N D M X V V' c : Nat} (h : Took N D M X V true) (hV : V < M) (e : V + D = V' + c * M) (hc : c ≤ 1) : Took N D M (X - 1) V' (!(decide (c ≠ 0))) := by
  have hX := took_pos h hV
  have h1 : N + M = V + X * D := h
  obtain ⟨Z, rfl⟩ : ∃ Z, X = Z + 1 := ⟨X - 1, by omega⟩
  rw [Nat.add_mul, Nat.one_mul] at h1
  rw [Nat.add_sub_cancel]
  rcases Nat.eq_zero_or_pos c with h0 | h0
  · subst h0
    show N + M = V' + Z * D
    omega
  · have h2 : c = 1 := by omega
    subst h2
    show N = V' + Z * D ∧ V' < D
    omega
theorem took_end {N D M X V : Nat} (h : Took N D M X V false) : X = N / D ∧ V = N % D := by
  obtain ⟨h1, h2⟩ : N = V + X * D ∧ V < D := h
  rw [Nat.mul_comm] at h1
  have := div_end h1 h2
  exact ⟨this.2.symm, this.1.symm⟩
end Go.Proofs.YtkggfeemjabdeaaGreatDoor
end
section
namespace Go.Proofs.YtkggfeemjabdeaaGreatDoor

/-- the numbers at the head of a round of foresee: the leading words X, Y, what is left of them, and the factors. -/
structure Lead (X Y x y a2 b2 a3 b3 : Nat) (even : Bool) : Prop where
  sX : X = b3 * x + b2 * y
  sY : Y = a3 * x + a2 * y
  det : if even then a2 * b3 = a3 * b2 + 1 else a3 * b2 = a2 * b3 + 1
  le : y ≤ x
  pos3 : 1 ≤ b3
  ab3 : a3 ≤ b3
  ab2 : a2 ≤ b2 ∨ (a2 = 1 ∧ b2 = 0 ∧ a3 = 0 ∧ b3 = 1 ∧ even = true)

theorem Lead.first {X Y : Nat} (h : Y ≤ X) : Lead X Y X Y 1 0 0 1 true := by
  refine ⟨by simp, by simp, by simp, h, Nat.le_refl _, by omega, .inr ⟨rfl, rfl, rfl, rfl, rfl⟩⟩

/-- what a pair of factors makes of two numbers. -/
def Makes (A B a1 b1 a2 b2 : Nat) (even : Bool) (P Q : Nat) : Prop :=
  if even then P + b1 * B = a1 * A ∧ Q + a2 * A = b2 * B else P + a1 * A = b1 * B ∧ Q + b2 * B = a2 * A

theorem Lead.next {X Y x y a2 b2 a3 b3 : Nat} {even : Bool} (h : Lead X Y x y a2 b2 a3 b3 even) (hy : 0 < y) : Lead X Y y (x % y) a3 b3 (a2 + x / y * a3) (b2 + x / y * b3) (!even) := by
  have hd := Nat.div_add_mod x y
  have hq : 1 ≤ x / y := (Nat.le_div_iff_mul_le hy).2 (by have := h.le; omega)
  have hm := Nat.mod_lt x hy
  obtain ⟨h1, h2, h3, h4, h5, h6, h7⟩ := h
  generalize x / y = q at *
  generalize x % y = r at *
  have b3' : 1 ≤ b2 + q * b3 := by
    have : 1 * b3 ≤ q * b3 := Nat.mul_le_mul_right _ hq
    omega
  refine ⟨?_, ?_, ?_, by omega, b3', ?_, .inl h6⟩
  · rw [h1]; subst hd; grind
  · rw [h2]; subst hd; grind
  · cases even <;> simp at h3 ⊢ <;> grind
  · rcases h7 with h7 | ⟨rfl, rfl, rfl, rfl, _⟩
    · have : q * a3 ≤ q * b3 := Nat.mul_le_mul_left _ h6
      omega
    · simp; omega

/-- the factors stay words. -/
theorem Lead.small {X Y x y a2 b2 a3 b3 : Nat} {even : Bool} (h : Lead X Y x y a2 b2 a3 b3 even) (hy : 0 < y) (hX : X < R64) (hYX : Y ≤ X) : a2 + x / y * a3 < R64 ∧ b2 + x / y * b3 < R64 := by
  have n := h.next hy
  have h1 := n.sX
  have h2 := n.sY
  have e1 : (b2 + x / y * b3) * 1 ≤ (b2 + x / y * b3) * y := Nat.mul_le_mul_left _ hy
  have e2 : (a2 + x / y * a3) * 1 ≤ (a2 + x / y * a3) * y := Nat.mul_le_mul_left _ hy
  omega

/-- where the test says yes: the real numbers are made, and in order. -/
theorem Lead.good {X Y x y a2 b2 a3 b3 H α β A B : Nat} {even : Bool} (h : Lead X Y x y a2 b2 a3 b3 even) (hA : A = X * H + α) (hB : B = Y * H + β) (hα : α < H) (hβ : β < H) (t1 : b3 ≤ y) (t2 : b2 + b3 ≤ x - y) :
    ∃ P Q, Makes A B a2 b2 a3 b3 even P Q ∧ 0 < Q ∧ Q < P ∧ A = b3 * P + b2 * Q ∧ B = a3 * P + a2 * Q := by
  obtain ⟨h1, h2, h3, h4, h5, h6, h7⟩ := h
  have t3 : y + b2 + b3 ≤ x := by omega
  cases even with
  | true =>
    simp at h3
    -- P = a2 A - b2 B, Q = b3 B - a3 A
    have eP : a2 * A + b2 * β = b2 * B + x * H + a2 * α := by
      subst hA hB; rw [h1, h2]; grind
    have eQ : b3 * B + a3 * α = a3 * A + y * H + b3 * β := by
      subst hA hB; rw [h1, h2]; grind
    have k1 : b2 * β ≤ b2 * H := Nat.mul_le_mul_left _ (Nat.le_of_lt hβ)
    have k2 : a3 * α ≤ a3 * H := Nat.mul_le_mul_left _ (Nat.le_of_lt hα)
    have k3 : b3 * β < b3 * H := Nat.mul_lt_mul_of_pos_left hβ h5
    have k4 : (y + b2 + b3) * H ≤ x * H := Nat.mul_le_mul_right _ t3
    have k5 : a3 * H ≤ b3 * H := Nat.mul_le_mul_right _ h6
    have k6 : b3 * H ≤ y * H := Nat.mul_le_mul_right _ t1
    have k7 : a3 * α < b3 * H := by
      rcases Nat.eq_zero_or_pos a3 with h0 | h0
      · subst h0; have := Nat.mul_le_mul_right H h5; omega
      · have := Nat.mul_lt_mul_of_pos_left hα h0; omega
    simp only [Nat.add_mul] at k4
    refine ⟨a2 * A - b2 * B, b3 * B - a3 * A, ⟨by omega, by omega⟩, by omega, by omega, ?_, ?_⟩
    · have f1 : (a2 * A - b2 * B) + b2 * B = a2 * A := by omega
      have f2 : (b3 * B - a3 * A) + a3 * A = b3 * B := by omega
      generalize a2 * A - b2 * B = P at *
      generalize b3 * B - a3 * A = Q at *
      clear eP eQ k1 k2 k3 k4 k5 k6 k7 h1 h2 hA hB
      grind
    · have f1 : (a2 * A - b2 * B) + b2 * B = a2 * A := by omega
      have f2 : (b3 * B - a3 * A) + a3 * A = b3 * B := by omega
      generalize a2 * A - b2 * B = P at *
      generalize b3 * B - a3 * A = Q at *
      clear eP eQ k1 k2 k3 k4 k5 k6 k7 h1 h2 hA hB
      grind
  | false =>
    simp at h3
    have h8 : a2 ≤ b2 := by rcases h7 with h7 | ⟨_, _, _, _, h7⟩; exact h7; cases h7
    have eP : b2 * B + a2 * α = a2 * A + x * H + b2 * β := by
      subst hA hB; rw [h1, h2]; grind
    have eQ : a3 * A + b3 * β = b3 * B + y * H + a3 * α := by
      subst hA hB; rw [h1, h2]; grind
    have k1 : a2 * α ≤ a2 * H := Nat.mul_le_mul_left _ (Nat.le_of_lt hα)
    have k2 : b3 * β < b3 * H := Nat.mul_lt_mul_of_pos_left hβ h5
    have h9 : 0 < a3 := by
      rcases Nat.eq_zero_or_pos a3 with h0 | h0
      · rw [h0, Nat.zero_mul] at h3; omega
      · exact h0
    have k3 : a3 * α < a3 * H := Nat.mul_lt_mul_of_pos_left hα h9
    have k4 : (y + b2 + b3) * H ≤ x * H := Nat.mul_le_mul_right _ t3
    have k5 : a3 * H ≤ b3 * H := Nat.mul_le_mul_right _ h6
    have k6 : b3 * H ≤ y * H := Nat.mul_le_mul_right _ t1
    have k7 : a2 * H ≤ b2 * H := Nat.mul_le_mul_right _ h8
    simp only [Nat.add_mul] at k4
    refine ⟨b2 * B - a2 * A, a3 * A - b3 * B, ⟨by omega, by omega⟩, by omega, by omega, ?_, ?_⟩
    · have f1 : (b2 * B - a2 * A) + a2 * A = b2 * B := by omega
      have f2 : (a3 * A - b3 * B) + b3 * B = a3 * A := by omega
      generalize b2 * B - a2 * A = P at *
      generalize a3 * A - b3 * B = Q at *
      clear eP eQ k1 k2 k3 k4 k5 k6 k7 h1 h2 hA hB
      grind
    · have f1 : (b2 * B - a2 * A) + a2 * A = b2 * B := by omega
      have f2 : (a3 * A - b3 * B) + b3 * B = a3 * A := by omega
      generalize b2 * B - a2 * A = P at *
      generalize a3 * A - b3 * B = Q at *
      clear eP eQ k1 k2 k3 k4 k5 k6 k7 h1 h2 hA hB
      grind

theorem gcd_of_combo {A B P Q a2 b2 a3 b3 : Nat} {even : Bool} (hm : Makes A B a2 b2 a3 b3 even P Q) (hA : A = b3 * P + b2 * Q) (hB : B = a3 * P + a2 * Q) : Nat.gcd P Q = Nat.gcd A B := by
  apply Nat.dvd_antisymm
  · have d1 := Nat.gcd_dvd_left P Q
    have d2 := Nat.gcd_dvd_right P Q
    apply Nat.dvd_gcd
    · rw [hA]; exact Nat.dvd_add (Nat.dvd_mul_left_of_dvd d1 _) (Nat.dvd_mul_left_of_dvd d2 _)
    · rw [hB]; exact Nat.dvd_add (Nat.dvd_mul_left_of_dvd d1 _) (Nat.dvd_mul_left_of_dvd d2 _)
  · have d1 := Nat.gcd_dvd_left A B
    have d2 := Nat.gcd_dvd_right A B
    unfold Makes at hm
    apply Nat.dvd_gcd
    · split at hm
      · exact (Nat.dvd_add_iff_left (Nat.dvd_mul_left_of_dvd d2 b2)).2 (by rw [hm.1]; exact Nat.dvd_mul_left_of_dvd d1 _)
      · exact (Nat.dvd_add_iff_left (Nat.dvd_mul_left_of_dvd d1 a2)).2 (by rw [hm.1]; exact Nat.dvd_mul_left_of_dvd d2 _)
    · split at hm
      · exact (Nat.dvd_add_iff_left (Nat.dvd_mul_left_of_dvd d1 a3)).2 (by rw [hm.2]; exact Nat.dvd_mul_left_of_dvd d2 _)
      · exact (Nat.dvd_add_iff_left (Nat.dvd_mul_left_of_dvd d2 b3)).2 (by rw [hm.2]; exact Nat.dvd_mul_left_of_dvd d1 _)

/-- the factors a1, b1, a2, b2 make of two numbers with these leading words two others, with the same divisors. -/
def Sure (X Y a1 b1 a2 b2 : Nat) (even : Bool) : Prop :=
  ∀ H α β A B, A = X * H + α → B = Y * H + β → α < H → β < H → ∃ P Q, Makes A B a1 b1 a2 b2 (!even) P Q ∧ 0 < Q ∧ Q < P ∧ Nat.gcd P Q = Nat.gcd A B ∧ (b1 ≠ 0 → P ≤ B)

theorem Lead.sure {X Y x y a2 b2 a3 b3 : Nat} {even : Bool} (h : Lead X Y x y a2 b2 a3 b3 even) (hb : b2 = 0 ∨ 1 ≤ a3) (t1 : b3 ≤ y) (t2 : b2 + b3 ≤ x - y) : Sure X Y a2 b2 a3 b3 (!even) := by
  intro H α β A B hA hB hα hβ
  obtain ⟨P, Q, hm, h1, h2, h3, h4⟩ := h.good hA hB hα hβ t1 t2
  refine ⟨P, Q, by rw [Bool.not_not]; exact hm, h1, h2, gcd_of_combo hm h3 h4, fun h5 => ?_⟩
  rcases hb with h6 | h6
  · exact absurd h6 h5
  · have : 1 * P ≤ a3 * P := Nat.mul_le_mul_right _ h6
    omega

theorem Lead.a3_next {X Y x y a2 b2 a3 b3 : Nat} {even : Bool} (h : Lead X Y x y a2 b2 a3 b3 even) (hy : 0 < y) : 1 ≤ a2 + x / y * a3 := by
  have hq : 1 ≤ x / y := (Nat.le_div_iff_mul_le hy).2 (by have := h.le; omega)
  rcases Nat.eq_zero_or_pos a3 with h0 | h0
  · have := h.det
    subst h0
    cases even with
    | true =>
      simp at this
      rcases Nat.eq_zero_or_pos a2 with h1 | h1
      · rw [h1, Nat.zero_mul] at this; omega
      · omega
    | false => simp at this
  · have : 1 * a3 ≤ x / y * a3 := Nat.mul_le_mul_right _ hq
    omega
end Go.Proofs.YtkggfeemjabdeaaGreatDoor
end
section
namespace Go.Proofs.YtkggfeemjabdeaaGreatDoor
theorem val_z (f : Nat → Nat) : val f 0 = 0 := rfl
theorem val_split (l : Nat → Nat) (i : Nat) : ∀ n, val l (i + n) = val l i + val (fun j => l (i + j)) n * R64 ^ i
  | 0 => by simp [val]
  | n + 1 => by
    show val l (i + n) + l (i + n) * R64 ^ (i + n) = val l i + (val (fun j => l (i + j)) n + l (i + n) * R64 ^ n) * R64 ^ i
    rw [val_split l i n, Nat.add_mul, Nat.pow_add]
    have : l (i + n) * R64 ^ n * R64 ^ i = l (i + n) * (R64 ^ i * R64 ^ n) := by ac_rfl
    omega
/-- the state of a long division of N by D, down to the digit k. -/
structure Long (N D m t k : Nat) (l q : Nat → Nat) : Prop where
  sum : N = val l (k + m) + D * val (fun j => q (k + j)) (t - k) * R64 ^ k
  lt : val l (k + m) < D * R64 ^ k
  zero : ∀ j, k + m ≤ j → l j = 0
theorem Long.window {N D m t k : Nat} {l q : Nat → Nat} (h : Long N D m t (k + 1) l q) : val (fun j => l (k + j)) (m + 1) < D * R64 := by
  have h1 := h.lt
  rw [show k + 1 + m = k + (m + 1) from by omega, val_split, pow_succ_R] at h1
  have h2 : val (fun j => l (k + j)) (m + 1) * R64 ^ k < D * R64 * R64 ^ k := by rw [Nat.mul_assoc]; omega
  exact Nat.lt_of_mul_lt_mul_right h2
/-- the window with other words. -/
def win (l h : Nat → Nat) (i n : Nat) : Nat → Nat := fun j => if i ≤ j ∧ j < i + n then h (j - i) else l j
theorem win_in {l h : Nat → Nat} {i n j : Nat} (hj : j < n) : win l h i n (i + j) = h j := by
  unfold win; rw [if_pos ⟨by omega, by omega⟩, Nat.add_sub_cancel_left]
theorem win_lt {l h : Nat → Nat} {i n j : Nat} (hj : j < i) : win l h i n j = l j := if_neg (by omega)
theorem win_ge {l h : Nat → Nat} {i n j : Nat} (hj : i + n ≤ j) : win l h i n j = l j := if_neg (by omega)
theorem Long.next {N D m t k : Nat} {l q h : Nat → Nat} (H : Long N D m t (k + 1) l q) (hk : k < t) (hD : D < R64 ^ m) (hh : val h (m + 1) = val (fun j => l (k + j)) (m + 1) % D) (ll : ∀ j, j < k → l j < R64) :
    Long N D m t k (win l h k (m + 1)) (upd q k (val (fun j => l (k + j)) (m + 1) / D)) := by
  have hDp : 0 < D := by
    have := H.lt
    rcases Nat.eq_zero_or_pos D with h0 | h0
    · rw [h0, Nat.zero_mul] at this; omega
    · exact h0
  have h1 := H.sum
  rw [show k + 1 + m = k + (m + 1) from by omega, val_split, pow_succ_R] at h1
  generalize hW : val (fun j => l (k + j)) (m + 1) = W at *
  have h2 := Nat.div_add_mod W D
  have h3 := Nat.mod_lt W hDp
  generalize W % D = r at *
  generalize W / D = x at *
  have top : h m = 0 := by
    rcases Nat.eq_zero_or_pos (h m) with h0 | h0
    · exact h0
    · have : 1 * R64 ^ m ≤ h m * R64 ^ m := Nat.mul_le_mul_right _ h0
      have : val h (m + 1) = val h m + h m * R64 ^ m := rfl
      omega
  have e1 : val (win l h k (m + 1)) (k + m) = val l k + r * R64 ^ k := by
    rw [val_split, val_congr (fun j hj => win_lt hj), val_congr (g := h) (fun j hj => win_in (by omega))]
    have : val h (m + 1) = val h m + h m * R64 ^ m := rfl
    rw [top, Nat.zero_mul, Nat.add_zero] at this
    rw [show val h m = r from by omega]
  have e2 : val (fun j => upd q k x (k + j)) (t - k) = x + R64 * val (fun j => q (k + 1 + j)) (t - (k + 1)) := by
    rw [show t - k = t - (k + 1) + 1 from by omega, val_shift]
    congr 1
    · show upd q k x (k + 0) = x
      rw [Nat.add_zero, upd_at]
    · congr 1
      exact val_congr fun i _ => by rw [upd_ne _ _ (by omega), show k + (i + 1) = k + 1 + i from by omega]
  refine ⟨?_, ?_, fun j hj => ?_⟩
  · rw [e1, e2, h1]
    generalize val (fun j => q (k + 1 + j)) (t - (k + 1)) = Q at *
    have a1 : D * Q * (R64 * R64 ^ k) = D * (R64 * Q) * R64 ^ k := by ac_rfl
    rw [a1, ← h2, Nat.add_mul, Nat.mul_add D, Nat.add_mul (D * x)]
    omega
  · rw [e1]
    have a2 : (r + 1) * R64 ^ k ≤ D * R64 ^ k := Nat.mul_le_mul_right _ h3
    rw [Nat.add_mul, Nat.one_mul] at a2
    have a3 : val l k < R64 ^ k := val_lt ll
    omega
  · by_cases hj2 : j < k + (m + 1)
    · obtain rfl : j = k + m := by omega
      rw [win_in (by omega), top]
    · rw [win_ge (by omega)]; exact H.zero j (by omega)
end Go.Proofs.YtkggfeemjabdeaaGreatDoor
end
