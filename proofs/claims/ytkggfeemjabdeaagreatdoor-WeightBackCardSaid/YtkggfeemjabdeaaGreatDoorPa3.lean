/- Contracts of ofWord, cmp.Compare, compare. Contracts of next and gcdOfWords. -/
import Derived.Deep.QuietTactic
import Derived.BigQuiet
import Derived.Test.YtkggfeemjabdeaaGreatDoorPa0
import Derived.Test.YtkggfeemjabdeaaGreatDoorPa2
section
namespace Go.Proofs.YtkggfeemjabdeaaGreatDoor
open Go.RowKit

/-- A call returns the natural number x, in new memory or old, and changes nothing that was there. -/
def RetNat (x : Nat) (w : World) (e : Ending) (w' : World) : Prop := ∃ v, e = .returned v ∧ NatV w' v x ∧ Below w.heap.size w w'

set_option maxHeartbeats 400000 in
theorem ofWord_any (x : Nat) (hx : x < R64) (w : World) :
    Calls Tryz.prog 44 #[.int .u64 x] w (RetNat x w) := by
  go_enter Tryz.func44, Tryz.ntmps44
  go_wp2_with fail
  refine (trim_any _ 1 (fun _ => x) _ (.inr ⟨w.heap.size, 0, 1, rfl, Nat.le_refl _, by unfold maxLen; omega, by simp, ?_⟩) (fun _ _ => hx)).mono ?_
  · intro i hi
    obtain rfl : i = 0 := by omega
    simp
  rintro e w' ⟨⟨v, rfl, hv⟩, rfl⟩
  have HV := Lib.hid hv; clear hv
  go_wp2_with fail
  go_ret
  have := HV.out
  exact ⟨v, rfl, by simpa [val] using this, (Below.refl _ _).alloc (Nat.le_refl _) _⟩

set_option maxHeartbeats 400000 in
theorem cmpW_any (a b : Nat) (w : World) :
    Calls Tryz.prog 125 #[.int .u64 a, .int .u64 b] w fun e w' => e = .returned (.int .i64 (cmpN a b)) ∧ w = w' := by
  rcases Nat.lt_trichotomy a b with h | h | h
  · rw [cmpN_lt h]
    go_enter Tryz.func125, Tryz.ntmps125
    go_wp2
    go_ret
    exact ⟨rfl, rfl⟩
  · subst h
    rw [cmpN_eq rfl]
    go_enter Tryz.func125, Tryz.ntmps125
    go_wp2
    go_ret
    exact ⟨rfl, rfl⟩
  · rw [cmpN_gt h]
    have h' : ¬ (a : Int) < b := by omega
    go_enter Tryz.func125, Tryz.ntmps125
    go_wp2
    go_ret
    exact ⟨rfl, rfl⟩

set_option maxHeartbeats 400000 in
theorem cmpI_any (a b : Nat) (w : World) :
    Calls Tryz.prog 124 #[.int .i64 a, .int .i64 b] w fun e w' => e = .returned (.int .i64 (cmpN a b)) ∧ w = w' := by
  rcases Nat.lt_trichotomy a b with h | h | h
  · rw [cmpN_lt h]
    go_enter Tryz.func124, Tryz.ntmps124
    go_wp2
    go_ret
    exact ⟨rfl, rfl⟩
  · subst h
    rw [cmpN_eq rfl]
    go_enter Tryz.func124, Tryz.ntmps124
    go_wp2
    go_ret
    exact ⟨rfl, rfl⟩
  · rw [cmpN_gt h]
    have h' : ¬ (a : Int) < b := by omega
    go_enter Tryz.func124, Tryz.ntmps124
    go_wp2
    go_ret
    exact ⟨rfl, rfl⟩

set_option maxHeartbeats 400000 in
theorem compare_len (a a' : Option Addr) (n m cap cap' : Nat) (h : n ≠ m) (w : World) :
    Calls Tryz.prog 82 #[.slice a n cap, .slice a' m cap'] w fun e w' => e = .returned (.int .i64 (cmpN n m)) ∧ w = w' := by
  have h1 : ((n : Int) != m) = true := by rw [bne_iff_ne]; omega
  go_enter Tryz.func82, Tryz.ntmps82
  go_wp2_with fail
  refine (cmpI_any n m _).mono ?_
  rintro e w' ⟨rfl, rfl⟩
  go_wp2_with fail
  go_ret
  exact ⟨rfl, rfl⟩

set_option maxHeartbeats 400000 in
theorem compare_nil (a a' : Option Addr) (cap cap' : Nat) (w : World) :
    Calls Tryz.prog 82 #[.slice a 0 cap, .slice a' 0 cap'] w fun e w' => e = .returned (.int .i64 0) ∧ w = w' := by
  go_enter Tryz.func82, Tryz.ntmps82
  go_wp2
  go_loop [5] (fun i => i = .int .i64 (-1)) (fun _ => 0)
  case atStart => rfl
  case round =>
    obtain rfl := hrel
    go_wp2
    go_ret
    exact ⟨rfl, rfl⟩

set_option maxHeartbeats 400000 in
theorem compare_some (n : Nat) (f g : Nat → Nat) (b off cap b' off' cap' : Nat) (hn : n ≤ maxLen) (w : World)
    (hf : ∀ i, i < n → w.cell? ⟨b, off + i, none⟩ = some (.int .u64 (f i))) (hg : ∀ i, i < n → w.cell? ⟨b', off' + i, none⟩ = some (.int .u64 (g i)))
    (lf : ∀ i, i < n → f i < R64) (lg : ∀ i, i < n → g i < R64) :
    Calls Tryz.prog 82 #[.slice (some ⟨b, off, none⟩) n cap, .slice (some ⟨b', off', none⟩) n cap'] w fun e w' => e = .returned (.int .i64 (cmpN (val f n) (val g n))) ∧ ∃ q, w' = w.drewN q := by
  unfold maxLen at hn
  go_enter Tryz.func82, Tryz.ntmps82
  go_wp2
  go_loopw [5] (fun i wr => ∃ k : Nat, k ≤ n ∧ i = .int .i64 ((k : Int) - 1) ∧ (∀ j, k ≤ j → j < n → f j = g j) ∧ ∃ q, wr = w.drewN q) (fun i _ => (intOf i + 1).toNat)
  case atStart => exact ⟨n, Nat.le_refl _, rfl, fun j a b => by omega, 0, rfl⟩
  case round =>
    obtain ⟨k, hk, rfl, he, q, rfl⟩ := hrel
    have HE := Lib.hid he; clear he
    cases k with
    | zero =>
      go_wp2
      go_ret
      exact ⟨by rw [cmpN_eq (val_congr fun i hi => HE.out i (Nat.zero_le _) hi)]; rfl, q, rfl⟩
    | succ k =>
      have h1 := hf k (by omega)
      have h2 := hg k (by omega)
      rw [show ((k + 1 : Nat) : Int) - 1 = (k : Int) from by omega]
      by_cases h0 : f k = g k
      · have h3 : (((f k : Nat) : Int) != g k) = false := by rw [h0]; simp
        have H0 := Lib.hid h0; clear h0
        go_wp2
        go_quiet (fail)
        go_wp2
        go_roundw
        case rel => exact ⟨k, by omega, rfl, fun j a b => by
          by_cases hj : j = k
          · subst hj; exact H0.out
          · exact HE.out j (by omega) b, _, rfl⟩
        case measure => simp [intOf]
      · have h3 : (((f k : Nat) : Int) != g k) = true := by rw [bne_iff_ne]; omega
        go_wp2
        go_quiet (fail)
        go_wp2
        go_quiet ((go_at_call 125; exact quiet_add_left (cmpW_any _ _ _)))
        go_wp2
        go_ret
        exact ⟨by rw [cmp_at (by omega) lf lg h0 HE.out]; rfl, _, draws_draws3 w _ _ _⟩

/-- compare: -1, 0 or 1 by the values. -/
theorem compare_any (v v' : Value) (x y : Nat) (w : World) (h : NatV w v x) (h' : NatV w v' y) :
    Calls Tryz.prog 82 #[v, v'] w fun e w' => e = .returned (.int .i64 (cmpN x y)) ∧ ∃ q, w' = w.drewN q := by
  obtain ⟨n, f, h1, h2, rfl⟩ := h
  obtain ⟨m, g, h3, h4, rfl⟩ := h'
  by_cases hnm : n = m
  · subst hnm
    rcases h1 with ⟨rfl, rfl⟩ | ⟨b, off, cap, rfl, k1, k2, k3, k4⟩
    · obtain ⟨a, c, rfl⟩ := h3.shape
      refine (compare_nil _ _ _ _ _).mono ?_
      rintro e w' ⟨rfl, rfl⟩
      exact ⟨by rw [cmpN_eq (a := val f 0) (b := val g 0) rfl], 0, rfl⟩
    · rcases h3 with ⟨rfl, rfl⟩ | ⟨b', off', cap', rfl, l1, l2, l3, l4⟩
      · refine (compare_nil _ _ _ _ _).mono ?_
        rintro e w' ⟨rfl, rfl⟩
        exact ⟨by rw [cmpN_eq (a := val f 0) (b := val g 0) rfl], 0, rfl⟩
      · exact compare_some n f g b off cap b' off' cap' (by omega) w k4 l4 h2.lim h4.lim
  · obtain ⟨a, c, rfl⟩ := h1.shape
    obtain ⟨a', c', rfl⟩ := h3.shape
    refine (compare_len a a' n m c c' hnm w).mono ?_
    rintro e w' ⟨rfl, rfl⟩
    refine ⟨?_, 0, rfl⟩
    rcases Nat.lt_or_gt_of_ne hnm with h | h
    · rw [cmpN_lt h, cmpN_lt (h2.len_lt h4 h)]
    · rw [cmpN_gt h, cmpN_gt (h4.len_lt h2 h)]

end Go.Proofs.YtkggfeemjabdeaaGreatDoor
end
section
namespace Go.Proofs.YtkggfeemjabdeaaGreatDoor
open Go.RowKit

theorem owed_lt {g y o : Nat} (hg : g < R64) (hy : y < R64) (ho : o < R64) (h : Nat) : hi (g * y + o) + bor h (lo (g * y + o)) 0 < R64 := by
  have e := lo_hi (g * y + o)
  have h1 := mul_lt_sq hg hy
  have h2 := hi_lt (mad_lt hg hy ho)
  rcases Nat.lt_or_ge (hi (g * y + o) + 1) R64 with h3 | h3
  · have := bor_le h (lo (g * y + o)) 0; omega
  · have h4 : hi (g * y + o) = R64 - 1 := by omega
    have h5 : lo (g * y + o) = 0 := by
      rw [h4] at e
      have e2 : R64 * (R64 - 1) = (R64 - 1) * (R64 - 1) + (R64 - 1) := by rw [R64_eq]
      omega
    rw [h5]
    have : bor h 0 0 = 0 := by unfold bor; rw [if_neg (by omega)]
    omega

theorem next_eq {f x c g y o : Nat} : f * x + c + R64 * (hi (g * y + o) + bor (lo (f * x + c)) (lo (g * y + o)) 0) = sbl (lo (f * x + c)) (lo (g * y + o)) 0 + g * y + o + R64 * hi (f * x + c) := by
  have e1 := lo_hi (f * x + c)
  have e2 := lo_hi (g * y + o)
  have e3 := sbl_eq (lo_lt (f * x + c)) (lo_lt (g * y + o)) (Nat.zero_le 1)
  rw [Nat.mul_add]
  omega

/-- What next has done. -/
def Nexted (d f x c g y o : Nat) (w : World) (e : Ending) (w' : World) : Prop :=
  ∃ r c' o' : Nat, e = .returned (.int .u64 r) ∧ r < R64 ∧ c' < R64 ∧ o' < R64 ∧ f * x + c + R64 * o' = r + g * y + o + R64 * c' ∧
    w'.cell? ⟨d, 0, none⟩ = some (.int .u64 c') ∧ w'.cell? ⟨d, 1, none⟩ = some (.int .u64 o') ∧ Wrote d 0 2 w w'

set_option maxRecDepth 100000 in
set_option maxHeartbeats 1000000 in
theorem next_any (d f x c g y o : Nat) (w : World) (hc : w.cell? ⟨d, 0, none⟩ = some (.int .u64 c)) (ho : w.cell? ⟨d, 1, none⟩ = some (.int .u64 o)) (z0 : w.frozen? ⟨d, 0, none⟩ = false) (z1 : w.frozen? ⟨d, 1, none⟩ = false)
    (lf : f < R64) (lx : x < R64) (lc : c < R64) (lg : g < R64) (ly : y < R64) (l_o : o < R64) :
    Calls Tryz.prog 134 #[.pointer (some ⟨d, 0, none⟩), .int .u64 f, .int .u64 x, .int .u64 g, .int .u64 y] w (Nexted d f x c g y o w) := by
  have law : ∀ W, (callFunc 149 #[.int .u64 (lo (f * x + c)), .int .u64 (lo (g * y + o)), .int .u64 0]).run Tryz.prog W = .ok (.value (.tuple #[.int .u64 (sbl (lo (f * x + c)) (lo (g * y + o)) 0), .int .u64 (bor (lo (f * x + c)) (lo (g * y + o)) 0)])) W := fun W => sub64_law _ _ 0 (by omega) W
  have rw1 : IntKind.u64.wrap ((hi (g * y + o) : Int) + bor (lo (f * x + c)) (lo (g * y + o)) 0) = ((hi (g * y + o) + bor (lo (f * x + c)) (lo (g * y + o)) 0 : Nat) : Int) := by
    rw [← Int.natCast_add]; exact wrap_u64 _ (owed_lt lg ly l_o _)
  go_enter Tryz.func134, Tryz.ntmps134
  go_wp2_with fail
  refine (multiplyAdd_any f x c lf lx lc _).mono ?_
  rintro e w' ⟨rfl, rfl⟩
  go_wp2_with fail
  refine (multiplyAdd_any g y o lg ly l_o _).mono ?_
  rintro e w' ⟨rfl, rfl⟩
  go_wp2_with fail
  go_ret
  refine ⟨_, _, _, rfl, lo_lt _, hi_lt (mad_lt lf lx lc), owed_lt lg ly l_o (lo (f * x + c)), next_eq, ?_, ?_, ?_⟩
  · rw [World.cell?_setCell_other (h := by intro e; injection e with _ e2; cases e2), World.cell?_setCell_other (h := by intro e; injection e with _ e2; cases e2)]
    exact World.cell?_setCell_same _ _ _ hc
  · have h1 : ((w.setCell ⟨d, 0, none⟩ (.int .u64 (hi (f * x + c)))).setCell ⟨d, 1, none⟩ (.int .u64 (hi (g * y + o)))).cell? ⟨d, 1, none⟩ = some (.int .u64 (hi (g * y + o))) := by
      refine World.cell?_setCell_same _ _ _ (u := .int .u64 o) ?_
      rw [World.cell?_setCell_other (h := by intro e; injection e with _ e2; cases e2)]
      exact ho
    have h2 := World.cell?_setCell_same _ _ (.int .u64 ((hi (g * y + o) + bor (lo (f * x + c)) (lo (g * y + o)) 0 : Nat) : Int)) h1
    rw [Int.natCast_add] at h2 ⊢
    exact h2
  · have h1 := Wrote.setCell (b := d) (off := 0) (n := 2) (Wrote.refl d 0 2 w) (i := 0) (by omega) (.int .u64 (hi (f * x + c)))
    have h2 := h1.setCell (i := 1) (by omega) (.int .u64 (hi (g * y + o)))
    exact h2.setCell (i := 1) (by omega) _

set_option maxHeartbeats 400000 in
theorem gcdOfWords_any (a b : Nat) (w : World) :
    Calls Tryz.prog 108 #[.int .u64 a, .int .u64 b] w fun e w' => e = .returned (.int .u64 (Nat.gcd a b)) ∧ ∃ q, w' = w.drewN q := by
  go_enter Tryz.func108, Tryz.ntmps108
  go_wp2
  go_loopw [0, 1] (fun av bv wr => ∃ x y : Nat, av = .int .u64 x ∧ bv = .int .u64 y ∧ Nat.gcd x y = Nat.gcd a b ∧ ∃ q, wr = w.drewN q) (fun _ bv _ => (intOf bv).toNat)
  case atStart => exact ⟨a, b, rfl, rfl, rfl, 0, rfl⟩
  case round =>
    obtain ⟨x, y, rfl, rfl, hg, q, rfl⟩ := hrel
    have HG := Lib.hid hg; clear hg
    rcases Nat.eq_zero_or_pos y with h0 | h0
    · subst h0
      go_wp2
      go_ret
      exact ⟨by rw [← HG.out, Nat.gcd_zero_right]; rfl, q, rfl⟩
    · have h1 : ((y : Int) != 0) = true := by rw [bne_iff_ne]; omega
      go_wp2
      go_quiet (fail)
      go_wp2
      go_roundw
      case rel => exact ⟨y, x % y, rfl, by norm_cast, by rw [← HG.out, Nat.gcd_comm x y]; exact (Nat.gcd_rec y x).symm ▸ Nat.gcd_comm _ _, _, draws_draws w _ _⟩
      case measure => have := Nat.mod_lt x h0; simp [intOf]; omega
end Go.Proofs.YtkggfeemjabdeaaGreatDoor
end
