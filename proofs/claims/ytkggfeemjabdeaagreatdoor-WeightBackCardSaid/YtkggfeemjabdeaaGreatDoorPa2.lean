/- Contracts of the words of 64 bits in package weight: Add64, Sub64, Mul64, multiplyAdd. Contracts of isZero, isOne, trim, ofWord. Contract of lower. Contracts of raise and lower. -/
import Derived.WalkKit
import Derived.WalkSpells
import Derived.WalkLawsBesides
import Derived.Lib.Hide
import Derived.IntWalk
import Derived.Shelf.Spec.BitsCarry
import Derived.Test.YtkggfeemjabdeaaGreatDoorRows
import Derived.Test.YtkggfeemjabdeaaGreatDoorShelf
import Derived.Test.YtkggfeemjabdeaaGreatDoorPa0
import Derived.Test.YtkggfeemjabdeaaGreatDoorPa1
section
namespace Go.Proofs.YtkggfeemjabdeaaGreatDoor
open Go.RowKit

theorem mul64_any (a b : Nat) (ha : a < R64) (hb : b < R64) (w : World) :
    Calls Tryz.prog 110 #[.int .u64 a, .int .u64 b] w fun e w' => e = .returned (.tuple #[.int .u64 (hi (a * b)), .int .u64 (lo (a * b))]) ∧ w = w' :=
  (Tryz.bits_Mul64 a b ha hb w).mono fun _ _ h => ⟨h.1, h.2.symm⟩

theorem add64_run (x y c : Nat) (hc : c ≤ 1) (w : World) :
    (callFunc 79 #[.int .u64 x, .int .u64 y, .int .u64 c]).run Tryz.prog w = .ok (.value (.tuple #[.int .u64 (lo (x + y + c)), .int .u64 (hi (x + y + c))])) w := by
  rw [run_callFunc_extern Tryz.func79 (by kernel_rfl) (by kernel_rfl) (by kernel_rfl) (e := add64Entry) (by kernel_rfl), run_add64 x y c (by omega) (by omega) (by omega) (by omega)]
  simp only [Result.andThen]
  congr 5 <;> (simp only [lo, hi, R64_eq]; omega)

theorem add64_run0 (x y : Nat) (w : World) :
    (callFunc 79 #[.int .u64 x, .int .u64 y, .int .u64 0]).run Tryz.prog w = .ok (.value (.tuple #[.int .u64 (lo (x + y)), .int .u64 (hi (x + y))])) w := add64_run x y 0 (by omega) w

theorem sub64_run (x y b : Nat) (hb : b ≤ 1) (w : World) :
    (callFunc 149 #[.int .u64 x, .int .u64 y, .int .u64 b]).run Tryz.prog w = .ok (.value (.tuple #[.int .u64 (lo (x + R64 - y - b)), .int .u64 ((if x < y + b then 1 else 0 : Nat) : Int)])) w := by
  rw [run_callFunc_extern Tryz.func149 (by kernel_rfl) (by kernel_rfl) (by kernel_rfl) (e := sub64Entry) (by kernel_rfl), run_sub64 x y b hb]
  rfl

/-- the difference of words, and what it borrows. -/
def sbl (x y b : Nat) : Nat := lo (x + R64 - y - b)
def bor (x y b : Nat) : Nat := if x < y + b then 1 else 0
theorem bor_le (x y b : Nat) : bor x y b ≤ 1 := by unfold bor; split <;> omega
theorem sbl_eq {x y b : Nat} (hx : x < R64) (hy : y < R64) (hb : b ≤ 1) : x + R64 * bor x y b = sbl x y b + y + b := by
  unfold sbl bor lo
  rw [R64_eq] at *
  split
  · rw [Nat.mod_eq_of_lt (by omega)]; omega
  · rw [show x + 18446744073709551616 - y - b = x - y - b + 18446744073709551616 from by omega, Nat.add_mod_right, Nat.mod_eq_of_lt (by omega)]; omega

theorem sub64_law (x y b : Nat) (hb : b ≤ 1) (w : World) :
    (callFunc 149 #[.int .u64 x, .int .u64 y, .int .u64 b]).run Tryz.prog w = .ok (.value (.tuple #[.int .u64 (sbl x y b), .int .u64 (bor x y b)])) w :=
  sub64_run x y b hb w

theorem wrap_u64 (n : Nat) (h : n < R64) : IntKind.u64.wrap (n : Int) = (n : Int) := by
  have := R64_eq
  exact IntWalk.u64_in _ (by omega)

theorem mad_eq {a b c : Nat} (ha : a < R64) (hb : b < R64) (hc : c < R64) :
    Ending.returned (.tuple #[.int .u64 (lo (lo (a * b) + c)), .int .u64 (IntKind.u64.wrap ((hi (a * b) : Int) + hi (lo (a * b) + c)))]) =
      Ending.returned (.tuple #[.int .u64 (lo (a * b + c)), .int .u64 (hi (a * b + c))]) := by
  have e := mad_nat ha hb hc
  rw [← Int.natCast_add, e.1, e.2.1, wrap_u64 _ e.2.2]

set_option maxHeartbeats 400000 in
theorem multiplyAdd_any (a b c : Nat) (ha : a < R64) (hb : b < R64) (hc : c < R64) (w : World) :
    Calls Tryz.prog 71 #[.int .u64 a, .int .u64 b, .int .u64 c] w fun e w' => e = .returned (.tuple #[.int .u64 (lo (a * b + c)), .int .u64 (hi (a * b + c))]) ∧ w = w' := by
  go_enter Tryz.func71, Tryz.ntmps71
  go_wp2_with fail
  refine (mul64_any a b ha hb _).mono ?_
  rintro e w' ⟨rfl, rfl⟩
  have h0 := fun W => add64_run0 (lo (a * b)) c W
  go_wp2_with fail
  go_ret2
  exact ⟨mad_eq ha hb hc, rfl⟩
end Go.Proofs.YtkggfeemjabdeaaGreatDoor
end
section
namespace Go.Proofs.YtkggfeemjabdeaaGreatDoor
open Go.RowKit

set_option maxHeartbeats 400000 in
theorem isZero_yes (a : Option Addr) (cap : Nat) (w : World) :
    Calls Tryz.prog 42 #[.slice a 0 cap] w fun e w' => e = .returned (.bool true) ∧ w = w' := by
  go_enter Tryz.func42, Tryz.ntmps42
  go_wp2
  go_ret
  exact ⟨rfl, rfl⟩

set_option maxHeartbeats 400000 in
theorem isZero_no (a : Option Addr) (n cap : Nat) (hn : n ≤ maxLen) (h0 : 0 < n) (w : World) :
    Calls Tryz.prog 42 #[.slice a n cap] w fun e w' => e = .returned (.bool false) ∧ w = w' := by
  unfold maxLen at hn
  have h1 : ((n : Int) == 0) = false := beq_eq_false_iff_ne.2 (by omega)
  go_enter Tryz.func42, Tryz.ntmps42
  go_wp2
  go_ret
  exact ⟨rfl, rfl⟩

set_option maxHeartbeats 400000 in
theorem trim_some (n : Nat) (f : Nat → Nat) (b off cap : Nat) (hn : n ≤ cap) (hm : cap ≤ maxLen) (w : World) (hc : ∀ i, i < n → w.cell? ⟨b, off + i, none⟩ = some (.int .u64 (f i))) :
    Calls Tryz.prog 80 #[.slice (some ⟨b, off, none⟩) n cap] w fun e w' => e = .returned (.slice (some ⟨b, off, none⟩) (tl f n) cap) ∧ w = w' := by
  unfold maxLen at hm
  go_enter Tryz.func80, Tryz.ntmps80
  go_wp2
  go_loop [0] (fun v => ∃ k : Nat, k ≤ n ∧ tl f k = tl f n ∧ v = .slice (some ⟨b, off, none⟩) k cap) (fun v => match v with | .slice _ k _ => k | _ => 0)
  case atStart => exact ⟨_, Nat.le_refl _, rfl, rfl⟩
  case round =>
    obtain ⟨k, hk, ht, rfl⟩ := hrel
    have HT := Lib.hid ht; clear ht
    cases k with
    | zero =>
      go_wp2
      go_ret
      exact ⟨by rw [← HT.out]; rfl, rfl⟩
    | succ k =>
      have h1 := hc k (by omega)
      by_cases h0 : f k = 0
      · have h2 : ((f k : Nat) : Int) = 0 := by omega
        rw [h2] at h1
        go_wp2
        go_round
        case rel => exact ⟨k, by omega, by rw [← HT.out]; simp only [tl, if_pos h0], rfl⟩
        case measure => simp
      · have h2 : (((f k : Nat) : Int) == 0) = false := beq_eq_false_iff_ne.2 (by omega)
        go_wp2
        go_ret
        exact ⟨by rw [← HT.out]; simp only [tl, if_neg h0]; rfl, rfl⟩

theorem tl_nrm {f : Nat → Nat} {n : Nat} (h : ∀ i, i < n → f i < R64) : Nrm f (tl f n) :=
  ⟨fun i hi => h i (Nat.lt_of_lt_of_le hi (tl_le f n)), tl_top f n⟩

set_option maxHeartbeats 400000 in
theorem trim_nil (w : World) :
    Calls Tryz.prog 80 #[.slice none 0 0] w fun e w' => e = .returned (.slice none 0 0) ∧ w = w' := by
  go_enter Tryz.func80, Tryz.ntmps80
  go_wp2
  go_loop [0] (fun v => v = .slice none 0 0) (fun _ => 0)
  case atStart => rfl
  case round =>
    obtain rfl := hrel
    go_wp2
    go_ret
    exact ⟨rfl, rfl⟩

/-- trim: the number is as it was. -/
theorem trim_any (v : Value) (n : Nat) (f : Nat → Nat) (w : World) (h : Row w .u64 v n f) (hl : ∀ i, i < n → f i < R64) :
    Calls Tryz.prog 80 #[v] w fun e w' => (∃ v', e = .returned v' ∧ NatV w v' (val f n)) ∧ w = w' := by
  rcases h with ⟨rfl, rfl⟩ | ⟨b, off, cap, rfl, h2, h3, h4, h5⟩
  · refine (trim_nil w).mono ?_
    rintro e w' ⟨rfl, rfl⟩
    exact ⟨⟨_, rfl, 0, f, .inl ⟨rfl, rfl⟩, ⟨fun i hi => by omega, .inl rfl⟩, rfl⟩, rfl⟩
  · refine (trim_some n f b off cap h2 h3 w h5).mono ?_
    rintro e w' ⟨rfl, rfl⟩
    exact ⟨⟨_, rfl, _, f, .inr ⟨b, off, cap, rfl, Nat.le_trans (tl_le f n) h2, h3, h4, fun i hi => h5 i (Nat.lt_of_lt_of_le hi (tl_le f n))⟩, tl_nrm hl, val_tl f n⟩, rfl⟩

end Go.Proofs.YtkggfeemjabdeaaGreatDoor
end
section
namespace Go.Proofs.YtkggfeemjabdeaaGreatDoor
open Go.RowKit

/-- What lower has done: the cells, and what it says of carry and borrow. -/
def Lowered (n : Nat) (f g : Nat → Nat) (m : Nat) (b off : Nat) (w : World) (e : Ending) (w' : World) : Prop :=
  ∃ (c d : Nat) (h : Nat → Nat), e = .returned (.bool (decide (c + d ≠ 0))) ∧ d ≤ 1 ∧ c < R64 ∧ (∀ j, j < n → h j < R64) ∧ (∀ j, j < n → w'.cell? ⟨b, off + j, none⟩ = some (.int .u64 (h j))) ∧
    val f n + (c + d) * R64 ^ n = val h n + m * val g n ∧ Wrote b off n w w'

theorem lower_step {f g h : Nat → Nat} {c d c1 d1 i m t q : Nat} (e : val f i + (c + d) * R64 ^ i = val h i + m * val g i) (e1 : t + R64 * c1 = g i * m + c) (e2 : f i + R64 * d1 = q + t + d) :
    val f (i + 1) + (c1 + d1) * R64 ^ (i + 1) = val (upd h i q) (i + 1) + m * val g (i + 1) := by
  rw [val_upd_succ, pow_succ_R]
  show val f i + f i * R64 ^ i + _ = _ + m * (val g i + g i * R64 ^ i)
  have e3 : (f i + R64 * (c1 + d1)) * R64 ^ i = (q + g i * m + c + d) * R64 ^ i := by rw [show f i + R64 * (c1 + d1) = q + g i * m + c + d from by rw [Nat.mul_add]; omega]
  have e4 : (c1 + d1) * (R64 * R64 ^ i) = R64 * (c1 + d1) * R64 ^ i := by rw [← Nat.mul_assoc, Nat.mul_comm (c1 + d1)]
  have e5 : m * (val g i + g i * R64 ^ i) = m * val g i + g i * m * R64 ^ i := by rw [Nat.mul_add, ← Nat.mul_assoc, Nat.mul_comm m (g i)]
  rw [e4, e5]
  simp only [Nat.add_mul] at e3 e ⊢
  omega

theorem lower_tail {f g h : Nat → Nat} {i m : Nat} {n : Nat} (hi : i ≤ n) (e : val f i = val h i + m * val g i) (h1 : ∀ j, i ≤ j → j < n → h j = f j) (h2 : ∀ j, i ≤ j → j < n → g j = 0) : val f n = val h n + m * val g n := by
  induction n with
  | zero => obtain rfl : i = 0 := by omega
            exact e
  | succ n ih =>
    by_cases hk : i = n + 1
    · subst hk; exact e
    · have := ih (by omega) (fun j a b => h1 j a (by omega)) (fun j a b => h2 j a (by omega))
      show val f n + f n * _ = val h n + h n * _ + m * (val g n + g n * _)
      rw [h1 n (by omega) (by omega), h2 n (by omega) (by omega), Nat.zero_mul, Nat.add_zero]; omega

theorem lower_rel {n k x c d m t c1 b off : Nat} {f g h : Nat → Nat} {w wr : World} (hlt : x < n) (he : ∀ j, x ≤ j → j < n → h j = f j)
    (hh : ∀ j, j < n → wr.cell? ⟨b, off + j, none⟩ = some (.int .u64 (h j))) (hv : val f x + (c + d) * R64 ^ x = val h x + m * val (cutf g k) x) (lh : ∀ j, j < n → h j < R64)
    (ht : t < R64) (hc1 : c1 < R64) (e1 : t + R64 * c1 = cutf g k x * m + c) (hf : f x < R64) (hd : d ≤ 1) (hw : Wrote b off n w wr) :
    ∃ (x1 c2 d2 : Nat) (h1 : Nat → Nat), x1 ≤ n ∧ Value.int .i64 ((x : Int) + 1) = .int .i64 x1 ∧ Value.int .u64 c1 = .int .u64 c2 ∧ Value.int .u64 (bor (h x) t d) = .int .u64 d2 ∧ d2 ≤ 1 ∧ c2 < R64 ∧ (∀ j, j < n → h1 j < R64) ∧
      (∀ j, j < n → (wr.setCell ⟨b, off + x, none⟩ (.int .u64 (sbl (h x) t d))).cell? ⟨b, off + j, none⟩ = some (.int .u64 (h1 j))) ∧
      (∀ j, x1 ≤ j → j < n → h1 j = f j) ∧ val f x1 + (c2 + d2) * R64 ^ x1 = val h1 x1 + m * val (cutf g k) x1 ∧ Wrote b off n w (wr.setCell ⟨b, off + x, none⟩ (.int .u64 (sbl (h x) t d))) := by
  refine ⟨x + 1, c1, bor (h x) t d, upd h x (sbl (h x) t d), by omega, rfl, rfl, rfl, bor_le _ _ _, hc1, upd_lim lh (lo_lt _), cells_set hh hlt _, fun j a c => ?_, ?_, hw.setCell hlt _⟩
  · rw [upd_ne _ _ (by omega)]; exact he j (by omega) c
  · refine lower_step hv e1 ?_
    rw [he x (Nat.le_refl _) hlt]
    exact sbl_eq hf ht hd

set_option maxHeartbeats 1000000 in
theorem lower_some (n k m : Nat) (f g : Nat → Nat) (b off cap b' off' cap' : Nat) (hn : n ≤ maxLen) (w : World) (hb : b' ≠ b) (hb' : b' < w.heap.size)
    (hf : ∀ i, i < n → w.cell? ⟨b, off + i, none⟩ = some (.int .u64 (f i))) (hg : ∀ i, i < k → w.cell? ⟨b', off' + i, none⟩ = some (.int .u64 (g i)))
    (hz : ∀ i, i < n → w.frozen? ⟨b, off + i, none⟩ = false)
    (lf : ∀ i, i < n → f i < R64) (lg : ∀ i, i < k → g i < R64) (hm : m < R64) :
    Calls Tryz.prog 128 #[.slice (some ⟨b, off, none⟩) n cap, .slice (some ⟨b', off', none⟩) k cap', .int .u64 m] w (Lowered n f (cutf g k) m b off w) := by
  unfold maxLen at hn
  go_enter Tryz.func128, Tryz.ntmps128
  go_wp2
  go_loopw [7, 8, 13] (fun cv dv i wr => ∃ (x c d : Nat) (h : Nat → Nat), x ≤ n ∧ i = .int .i64 x ∧ cv = .int .u64 c ∧ dv = .int .u64 d ∧ d ≤ 1 ∧ c < R64 ∧ (∀ j, j < n → h j < R64) ∧ (∀ j, j < n → wr.cell? ⟨b, off + j, none⟩ = some (.int .u64 (h j))) ∧
      (∀ j, x ≤ j → j < n → h j = f j) ∧ val f x + (c + d) * R64 ^ x = val h x + m * val (cutf g k) x ∧ Wrote b off n w wr) (fun _ _ i _ => n - (intOf i).toNat)
  case atStart => exact ⟨0, 0, 0, f, Nat.zero_le _, rfl, rfl, rfl, by omega, R64_pos, lf, hf, fun _ _ _ => rfl, rfl, Wrote.refl _ _ _ _⟩
  case round =>
    obtain ⟨x, c, d, h, hx, rfl, rfl, rfl, hd, hc, lh, hh, he, hv, hw⟩ := hrel
    have HE := Lib.hid he; clear he
    have HV := Lib.hid hv; clear hv
    have HH := Lib.hid hh; clear hh
    by_cases hlt : x < n
    · have h1 := HH.out x hlt
      have h2 := hz x hlt
      rw [← hw.froz] at h2
      by_cases hxk : x < k
      · have h3 := hg x hxk
        rw [← hw.other hb' hb] at h3
        have h4 := fun W => sub64_law (h x) (lo (g x * m + c)) d hd W
        go_wp2_with ((go_at_call 71; refine (multiplyAdd_any _ _ _ (lg x hxk) hm hc _).mono ?_; rintro e w' ⟨rfl, rfl⟩))
        go_roundw
        case rel => exact lower_rel hlt HE.out HH.out HV.out lh (lo_lt _) (hi_lt (mad_lt (lg x hxk) hm hc)) (by rw [cutf_lt hxk]; exact lo_hi _) (lf x hlt) hd hw
        case measure => simp [intOf]; omega
      · by_cases hcd : c = 0 ∧ d = 0
        · obtain ⟨rfl, rfl⟩ := hcd
          go_wp2
          go_ret
          exact ⟨0, 0, h, rfl, by omega, R64_pos, lh, HH.out, by
            have := lower_tail hx (by have := HV.out; simpa using this) HE.out (fun j a _ => cutf_ge (k := k) (g := g) (by omega))
            simpa using this, hw⟩
        · have h4 := fun W => sub64_law (h x) c d hd W
          by_cases hc0 : c = 0
          · have hd0 : ((d : Int) == 0) = false := beq_eq_false_iff_ne.2 (by omega)
            have hc1 : ((c : Int) == 0) = true := beq_iff_eq.2 (by omega)
            clear hcd
            have HC := Lib.hid hc0; clear hc0
            go_wp2
            go_roundw
            case rel => exact lower_rel (c1 := 0) hlt HE.out HH.out HV.out lh hc R64_pos (by rw [cutf_ge (by omega)]; omega) (lf x hlt) hd hw
            case measure => simp [intOf]; omega
          · have hc1 : ((c : Int) == 0) = false := beq_eq_false_iff_ne.2 (by omega)
            clear hcd
            go_wp2
            go_roundw
            case rel => exact lower_rel (c1 := 0) hlt HE.out HH.out HV.out lh hc R64_pos (by rw [cutf_ge (by omega)]; omega) (lf x hlt) hd hw
            case measure => simp [intOf]; omega
    · obtain rfl : x = n := by omega
      by_cases hc0 : c = 0
      · have hc1 : ((c : Int) != 0) = false := by rw [hc0]; rfl
        have HC := Lib.hid hc0; clear hc0
        by_cases hd0 : d = 0
        · have hd1 : ((d : Int) != 0) = false := by rw [hd0]; rfl
          have HD := Lib.hid hd0; clear hd0
          go_wp2
          go_ret
          exact ⟨c, d, h, by rw [HC.out, HD.out]; rfl, hd, hc, lh, HH.out, HV.out, hw⟩
        · have hd1 : ((d : Int) != 0) = true := by rw [bne_iff_ne]; omega
          go_wp2
          go_ret
          exact ⟨c, d, h, by rw [decide_eq_true (by omega)]; rfl, hd, hc, lh, HH.out, HV.out, hw⟩
      · have hc1 : ((c : Int) != 0) = true := by rw [bne_iff_ne]; omega
        go_wp2
        go_ret
        exact ⟨c, d, h, by rw [decide_eq_true (by omega)]; rfl, hd, hc, lh, HH.out, HV.out, hw⟩
end Go.Proofs.YtkggfeemjabdeaaGreatDoor
end
section
namespace Go.Proofs.YtkggfeemjabdeaaGreatDoor
open Go.RowKit

/-- What raise has done: the cells, and what it says of the carry. -/
def Raised (n : Nat) (f g : Nat → Nat) (b off : Nat) (w : World) (e : Ending) (w' : World) : Prop :=
  ∃ (c : Nat) (h : Nat → Nat), e = .returned (.bool ((c : Int) != 0)) ∧ c ≤ 1 ∧ (∀ j, j < n → h j < R64) ∧ (∀ j, j < n → w'.cell? ⟨b, off + j, none⟩ = some (.int .u64 (h j))) ∧
    val f n + val g n = val h n + c * R64 ^ n ∧ Wrote b off n w w'

theorem raise_rel {n k x y b off : Nat} {f g h : Nat → Nat} {w wr : World} {L : Nat} (hlt : x < n) (he : ∀ j, x ≤ j → j < n → h j = f j)
    (hh : ∀ j, j < n → wr.cell? ⟨b, off + j, none⟩ = some (.int .u64 (h j))) (hv : val f x + val (cutf g k) x = val h x + y * R64 ^ x) (lh : ∀ j, j < n → h j < R64)
    (hL : cutf g k x = L) (hf : f x < R64) (hl : L < R64) (hy : y ≤ 1) (hw : Wrote b off n w wr) :
    ∃ (x1 y1 : Nat) (h1 : Nat → Nat), x1 ≤ n ∧ Value.int .i64 ((x : Int) + 1) = .int .i64 x1 ∧ Value.int .u64 (hi (h x + L + y)) = .int .u64 y1 ∧ y1 ≤ 1 ∧ (∀ j, j < n → h1 j < R64) ∧
      (∀ j, j < n → (wr.setCell ⟨b, off + x, none⟩ (.int .u64 (lo (h x + L + y)))).cell? ⟨b, off + j, none⟩ = some (.int .u64 (h1 j))) ∧
      (∀ j, x1 ≤ j → j < n → h1 j = f j) ∧ val f x1 + val (cutf g k) x1 = val h1 x1 + y1 * R64 ^ x1 ∧ Wrote b off n w (wr.setCell ⟨b, off + x, none⟩ (.int .u64 (lo (h x + L + y)))) := by
  refine ⟨x + 1, hi (h x + L + y), upd h x (lo (h x + L + y)), by omega, rfl, rfl, ?_, upd_lim lh (lo_lt _), cells_set hh hlt _, fun j a c => ?_, ?_, hw.setCell hlt _⟩
  · rw [he x (Nat.le_refl _) hlt]; exact hi_carry hf hl hy
  · rw [upd_ne _ _ (by omega)]; exact he j (by omega) c
  · rw [he x (Nat.le_refl _) hlt, ← hL]; exact raise_step hv

set_option maxHeartbeats 400000 in
theorem raise_some (n k : Nat) (f g : Nat → Nat) (b off cap b' off' cap' : Nat) (hn : n ≤ maxLen) (w : World) (hb : b' ≠ b) (hb' : b' < w.heap.size)
    (hf : ∀ i, i < n → w.cell? ⟨b, off + i, none⟩ = some (.int .u64 (f i))) (hg : ∀ i, i < k → w.cell? ⟨b', off' + i, none⟩ = some (.int .u64 (g i)))
    (hz : ∀ i, i < n → w.frozen? ⟨b, off + i, none⟩ = false)
    (lf : ∀ i, i < n → f i < R64) (lg : ∀ i, i < k → g i < R64) :
    Calls Tryz.prog 89 #[.slice (some ⟨b, off, none⟩) n cap, .slice (some ⟨b', off', none⟩) k cap'] w (Raised n f (cutf g k) b off w) := by
  unfold maxLen at hn
  go_enter Tryz.func89, Tryz.ntmps89
  go_wp2
  go_loopw [5, 10] (fun c i wr => ∃ (x y : Nat) (h : Nat → Nat), x ≤ n ∧ i = .int .i64 x ∧ c = .int .u64 y ∧ y ≤ 1 ∧ (∀ j, j < n → h j < R64) ∧ (∀ j, j < n → wr.cell? ⟨b, off + j, none⟩ = some (.int .u64 (h j))) ∧
      (∀ j, x ≤ j → j < n → h j = f j) ∧ val f x + val (cutf g k) x = val h x + y * R64 ^ x ∧ Wrote b off n w wr) (fun _ i _ => n - (intOf i).toNat)
  case atStart => exact ⟨0, 0, f, Nat.zero_le _, rfl, rfl, by omega, lf, hf, fun _ _ _ => rfl, rfl, Wrote.refl _ _ _ _⟩
  case round =>
    obtain ⟨x, y, h, hx, rfl, rfl, hy, lh, hh, he, hv, hw⟩ := hrel
    have HE := Lib.hid he; clear he
    have HV := Lib.hid hv; clear hv
    have HH := Lib.hid hh; clear hh
    by_cases hlt : x < n
    · have h1 := HH.out x hlt
      have h2 := hz x hlt
      rw [← hw.froz] at h2
      by_cases hxk : x < k
      · have h3 := hg x hxk
        rw [← hw.other hb' hb] at h3
        have h4 := fun W => add64_run (h x) (g x) y hy W
        go_wp2
        go_roundw
        case rel => exact raise_rel hlt HE.out HH.out HV.out lh (cutf_lt hxk) (lf x hlt) (lg x hxk) hy hw
        case measure => simp [intOf]; omega
      · rcases Nat.lt_or_ge 0 y with hy0 | hy0
        · have h5 : ((y : Int) == 0) = false := beq_eq_false_iff_ne.2 (by omega)
          have h4 : ∀ W, (callFunc 79 #[.int .u64 (h x), .int .u64 0, .int .u64 y]).run Tryz.prog W = .ok (.value (.tuple #[.int .u64 (lo (h x + 0 + y)), .int .u64 (hi (h x + 0 + y))])) W := fun W => add64_run (h x) 0 y hy W
          go_wp2
          go_roundw
          case rel => exact raise_rel hlt HE.out HH.out HV.out lh (cutf_ge (by omega)) (lf x hlt) R64_pos hy hw
          case measure => simp [intOf]; omega
        · obtain rfl : y = 0 := by omega
          go_wp2
          go_ret
          exact ⟨0, h, rfl, Nat.zero_le _, lh, HH.out, by
            rw [Nat.zero_mul, Nat.add_zero]
            exact same_tail hx (by rw [HV.out, Nat.zero_mul, Nat.add_zero]) HE.out (fun j a _ => cutf_ge (by omega)), hw⟩
    · obtain rfl : x = n := by omega
      go_wp2
      go_ret
      exact ⟨y, h, rfl, hy, lh, HH.out, HV.out, hw⟩
end Go.Proofs.YtkggfeemjabdeaaGreatDoor
end
