/- isOdd, isSignal, dataOf, signed, signalOf. -/
import Derived.Test.YtjcaaejfokmolaaGreatDoorRpPop
import Derived.Test.YtjcaaejfokmolaaGreatDoorShelf
import Derived.Laws.Bits64b
import Derived.IntWalk
namespace Go.Proofs.YtjcaaejfokmolaaGreatDoor
open Go.RowKit

theorem swar_bd (x : Int) : 0 ≤ swar x ∧ swar x ≤ 127 := by
  unfold swar
  generalize wrap64 _ = y
  show 0 ≤ IntKind.i64.wrap ((BitVec.ofInt 64 y &&& BitVec.ofInt 64 127).toNat : Int) ∧ IntKind.i64.wrap ((BitVec.ofInt 64 y &&& BitVec.ofInt 64 127).toNat : Int) ≤ 127
  have h : (BitVec.ofInt 64 y &&& BitVec.ofInt 64 127).toNat ≤ 127 := by
    rw [BitVec.toNat_and]
    exact Nat.le_trans Nat.and_le_right (by decide)
  rw [IntKind.wrap_i64]; omega

theorem pop8_le (c : Nat) (hc : c < 256) : Lib.onesCount c ≤ 8 := Lib.onesCount_le8 ⟨c, hc⟩

theorem ones8_any (c : Nat) (hc : c < 256) (w : World) : Calls Tryz.prog 100 #[.int .u8 c] w fun e w' => e = .returned (.int .i64 (Lib.onesCount c)) ∧ w' = w := by
  have := Tryz.bits_OnesCount8 (c : Int) w (by omega) (by omega)
  rwa [Int.toNat_natCast] at this

/-- is the number of all bits odd, as the code reckons it? -/
def oddB (d c : Nat) : Bool := (swar d + Lib.onesCount c) % 2 == 1

set_option maxHeartbeats 1000000 in
theorem isOdd_any (d c : Nat) (hc : c < 256) (w : World) :
    Calls Tryz.prog 70 #[.agg #[.int .u64 d, .int .u8 c]] w fun e w' => e = .returned (.bool (oddB d c)) ∧ Below w.heap.size w w' := by
  have h1 := fun W => ones64_any d W
  have h2 := fun W => ones8_any c hc W
  obtain ⟨b1, b2⟩ := swar_bd d
  have b3 := pop8_le c hc
  obtain ⟨s, hs⟩ : ∃ s, s = swar d := ⟨_, rfl⟩
  obtain ⟨o, ho⟩ : ∃ o, o = Lib.onesCount c := ⟨_, rfl⟩
  have HO : Hid (oddB d c = ((s + o) % 2 == 1)) := Lib.hid (by rw [hs, ho]; rfl)
  rw [← hs] at h1 b1 b2
  rw [← ho] at h2 b3
  have H1 := Lib.hid h1; have H2 := Lib.hid h2
  have hw : IntKind.i64.wrap (s + o) = s + o := IntWalk.i64_in _ (by omega)
  have h0 : 0 ≤ s + (o : Int) := by omega
  clear h1 h2 hs ho
  obtain ⟨W, hW⟩ : ∃ W, W = w.alloc (.cells #[.int .u64 d, .int .u8 c] 54) := ⟨_, rfl⟩
  have a0 : W.cell? ⟨w.heap.size, 0, none⟩ = some (.int .u64 d) := by rw [hW]; exact cell_of_row _ w.heap.size 0 _ _ (0, 0) (heap_alloc_new w _)
  have a1 : W.cell? ⟨w.heap.size, 1, none⟩ = some (.int .u8 c) := by rw [hW]; exact cell_of_row _ w.heap.size 1 _ _ (0, 0) (heap_alloc_new w _)
  have HWB : Hid (Below w.heap.size w W) := Lib.hid (by rw [hW]; exact (Below.refl _ _).alloc (Nat.le_refl _) _)
  go_enter Tryz.func70, Tryz.ntmps70
  go_wp2_with fail
  rw [← hW]
  clear hW
  go_quiet (first | (go_at_call 99; exact rp_quiet (H1.out _)) | (go_at_call 100; exact Calls.quiet_of_same (H2.out _)))
  go_wp2
  go_ret
  exact ⟨by rw [HO.out]; rfl, HWB.out.trans ⟨rfl, rfl, rfl, Nat.le_refl _, fun _ _ => rfl⟩⟩

theorem ofInt_toNat (x : Int) : (BitVec.ofInt 64 x).toNat = (x % 18446744073709551616).toNat := by
  rw [BitVec.toNat_ofInt]; rfl
theorem and14 (x : Int) : bits .and .i64 x 16383 = x % 16384 := by
  show IntKind.i64.wrap ((BitVec.ofInt 64 x &&& BitVec.ofInt 64 16383).toNat : Int) = _
  rw [BitVec.toNat_and, ofInt_toNat, show (BitVec.ofInt 64 16383).toNat = 2 ^ 14 - 1 from by decide, Nat.and_two_pow_sub_one_eq_mod, IntKind.wrap_i64]
  omega
theorem or_u64 (a b : Nat) (ha : a < 18446744073709551616) (hb : b < 18446744073709551616) : bits .or .u64 (a : Int) (b : Int) = ((a ||| b : Nat) : Int) := by
  have hx : a ||| b < 2 ^ 64 := Nat.or_lt_two_pow (by omega) (by omega)
  have h1 : (BitVec.ofInt 64 (a : Int)).toNat = a := by
    rw [BitVec.ofInt_natCast, BitVec.toNat_ofNat]; exact Nat.mod_eq_of_lt (by omega)
  have h2 : (BitVec.ofInt 64 (b : Int)).toNat = b := by
    rw [BitVec.ofInt_natCast, BitVec.toNat_ofNat]; exact Nat.mod_eq_of_lt (by omega)
  show IntKind.u64.wrap ((BitVec.ofInt 64 (a : Int) ||| BitVec.ofInt 64 (b : Int)).toNat : Int) = _
  rw [BitVec.toNat_or, h1, h2, IntKind.wrap_u64]
  omega
theorem or_high (a c k : Nat) (ha : a < 2 ^ k) : a ||| c * 2 ^ k = a + c * 2 ^ k := by
  have h := Nat.shiftLeft_add_eq_or_of_lt ha c
  rw [Nat.shiftLeft_eq] at h
  rw [Nat.or_comm, ← h, Nat.add_comm]

/-- the bits of a signal. -/
def dataN (o x y b f : Int) : Nat := o.toNat + (x % 16384).toNat * 2 ^ 28 + (y % 16384).toNat * 2 ^ 42 + b.toNat * 2 ^ 56 + f.toNat * 2 ^ 60
theorem dataN_lt (o x y b f : Int) (h1 : 0 ≤ o ∧ o ≤ 268435455) (h4 : 0 ≤ b ∧ b ≤ 15) (h5 : 0 ≤ f ∧ f ≤ 15) : dataN o x y b f < 18446744073709551616 := by
  unfold dataN; omega
theorem data_eq (o x y b f : Int) (h1 : 0 ≤ o ∧ o ≤ 268435455) (h4 : 0 ≤ b ∧ b ≤ 15) (h5 : 0 ≤ f ∧ f ≤ 15) :
    bits .or .u64 (bits .or .u64 (bits .or .u64 (bits .or .u64 o (IntKind.u64.wrap (IntKind.u64.wrap (bits .and .i64 x 16383) * 268435456))) (IntKind.u64.wrap (IntKind.u64.wrap (bits .and .i64 y 16383) * 4398046511104))) (b * 72057594037927936)) (f * 1152921504606846976) = (dataN o x y b f : Int) := by
  obtain ⟨o', rfl⟩ : ∃ n : Nat, o = n := ⟨o.toNat, by omega⟩
  obtain ⟨b', rfl⟩ : ∃ n : Nat, b = n := ⟨b.toNat, by omega⟩
  obtain ⟨f', rfl⟩ : ∃ n : Nat, f = n := ⟨f.toNat, by omega⟩
  obtain ⟨p, hp⟩ : ∃ n : Nat, x % 16384 = n := ⟨(x % 16384).toNat, by omega⟩
  obtain ⟨q, hq⟩ : ∃ n : Nat, y % 16384 = n := ⟨(y % 16384).toNat, by omega⟩
  have hp' : p < 16384 := by omega
  have hq' : q < 16384 := by omega
  rw [and14, and14, hp, hq]
  have e1 : IntKind.u64.wrap (IntKind.u64.wrap (p : Int) * 268435456) = ((p * 2 ^ 28 : Nat) : Int) := by rw [IntKind.wrap_u64, IntKind.wrap_u64]; omega
  have e2 : IntKind.u64.wrap (IntKind.u64.wrap (q : Int) * 4398046511104) = ((q * 2 ^ 42 : Nat) : Int) := by rw [IntKind.wrap_u64, IntKind.wrap_u64]; omega
  have e3 : (b' : Int) * 72057594037927936 = ((b' * 2 ^ 56 : Nat) : Int) := by omega
  have e4 : (f' : Int) * 1152921504606846976 = ((f' * 2 ^ 60 : Nat) : Int) := by omega
  rw [e1, e2, e3, e4]
  rw [or_u64 _ _ (by omega) (by omega), or_high _ _ _ (by omega), or_u64 _ _ (by omega) (by omega), or_high _ _ _ (by omega), or_u64 _ _ (by omega) (by omega), or_high _ _ _ (by omega), or_u64 _ _ (by omega) (by omega), or_high _ _ _ (by omega)]
  unfold dataN
  rw [hp, hq]
  simp

set_option maxRecDepth 100000 in
set_option maxHeartbeats 1000000 in
theorem dataOf_any (o x y b f : Int) (h1 : 0 ≤ o ∧ o ≤ 268435455) (h2 : -8192 ≤ x ∧ x ≤ 8191) (h3 : -8192 ≤ y ∧ y ≤ 8191) (h4 : 0 ≤ b ∧ b ≤ 15) (h5 : 0 ≤ f ∧ f ≤ 15) (w : World) :
    Calls Tryz.prog 68 #[.agg #[.int .i64 o, .int .i64 x, .int .i64 y, .int .i64 b, .int .i64 f]] w fun e w' => e = .returned (.int .u64 (dataN o x y b f)) ∧ Below w.heap.size w w' := by
  have HD := Lib.hid (data_eq o x y b f h1 h4 h5)
  obtain ⟨h1, h1'⟩ := h1; obtain ⟨h2, h2'⟩ := h2; obtain ⟨h3, h3'⟩ := h3; obtain ⟨h4, h4'⟩ := h4; obtain ⟨h5, h5'⟩ := h5
  go_enter Tryz.func68, Tryz.ntmps68
  go_wp2
  rw [HD.out]
  go_ret
  exact ⟨rfl, (Below.refl _ _).alloc (Nat.le_refl _) _⟩

/-- 14 bits in two's complement. -/
def backZ (d : Nat) : Int := if d % 16384 < 8192 then (d % 16384 : Nat) else (d % 16384 : Nat) - 16384
theorem back_eq (d : Nat) : wrap64 (IntKind.u64.wrap ((d : Int) * 1125899906842624)) / 1125899906842624 = backZ d := by
  rw [IntKind.wrap_u64]
  unfold wrap64 backZ
  split <;> omega
theorem back_bd (d : Nat) : -8192 ≤ backZ d ∧ backZ d ≤ 8191 := by
  unfold backZ; split <;> omega

set_option maxRecDepth 100000 in
set_option maxHeartbeats 1000000 in
theorem signed_any (d : Nat) (w : World) :
    Calls Tryz.prog 101 #[.int .u64 d] w fun e w' => e = .returned (.int .i64 (backZ d)) ∧ w = w' := by
  have HD := Lib.hid (back_eq d)
  go_enter Tryz.func101, Tryz.ntmps101
  go_wp2
  rw [HD.out]
  go_ret
  exact ⟨rfl, rfl⟩

theorem and_ones (d k : Nat) (hk : k ≤ 63) (hd : d < 18446744073709551616) (m : Int) (hm : m = ((2 ^ k - 1 : Nat) : Int)) : bits .and .u64 (d : Int) m = ((d % 2 ^ k : Nat) : Int) := by
  subst hm
  have hk2 : 2 ^ k ≤ 2 ^ 63 := Nat.pow_le_pow_right (by omega) hk
  rw [bits_and_u64_nat _ _ hd (by omega), Nat.and_two_pow_sub_one_eq_mod]

/-- the signal of some bits, as a value. -/
def sigV (d : Nat) : Value := .agg #[.int .i64 (d % 268435456 : Nat), .int .i64 (backZ (d / 268435456)), .int .i64 (backZ (d / 4398046511104)), .int .i64 (d / 72057594037927936 % 16 : Nat), .int .i64 (d / 1152921504606846976 % 16 : Nat)]

set_option maxRecDepth 100000 in
set_option maxHeartbeats 2000000 in
theorem signalOf_any (d : Nat) (hd : d < 18446744073709551616) (w : World) :
    Calls Tryz.prog 71 #[.int .u64 d] w fun e w' => e = .returned (sigV d) ∧ Below w.heap.size w w' := by
  have s1 : ∀ W, Calls Tryz.prog 101 #[.int .u64 ((d : Int) / 268435456)] W fun e w' => e = .returned (.int .i64 (backZ (d / 268435456))) ∧ W = w' := fun W => by
    have := signed_any (d / 268435456) W; rwa [Int.natCast_ediv] at this
  have s2 : ∀ W, Calls Tryz.prog 101 #[.int .u64 ((d : Int) / 4398046511104)] W fun e w' => e = .returned (.int .i64 (backZ (d / 4398046511104))) ∧ W = w' := fun W => by
    have := signed_any (d / 4398046511104) W; rwa [Int.natCast_ediv] at this
  have b1 := back_bd (d / 268435456); have b2 := back_bd (d / 4398046511104)
  have e1 : bits .and .u64 (d : Int) 268435455 = ((d % 268435456 : Nat) : Int) := and_ones d 28 (by omega) hd _ (by decide)
  have e2 : bits .and .u64 ((d : Int) / 72057594037927936) 15 = ((d / 72057594037927936 % 16 : Nat) : Int) := by
    have := and_ones (d / 72057594037927936) 4 (by omega) (by omega) 15 (by decide)
    rwa [Int.natCast_ediv] at this
  have e3 : bits .and .u64 ((d : Int) / 1152921504606846976) 15 = ((d / 1152921504606846976 % 16 : Nat) : Int) := by
    have := and_ones (d / 1152921504606846976) 4 (by omega) (by omega) 15 (by decide)
    rwa [Int.natCast_ediv] at this
  obtain ⟨x, hx⟩ : ∃ x, x = backZ (d / 268435456) := ⟨_, rfl⟩
  obtain ⟨y, hy⟩ : ∃ y, y = backZ (d / 4398046511104) := ⟨_, rfl⟩
  obtain ⟨o, ho⟩ : ∃ o, o = d % 268435456 := ⟨_, rfl⟩
  obtain ⟨b, hb⟩ : ∃ b, b = d / 72057594037927936 % 16 := ⟨_, rfl⟩
  obtain ⟨f, hf⟩ : ∃ f, f = d / 1152921504606846976 % 16 := ⟨_, rfl⟩
  have HV : Hid (sigV d = .agg #[.int .i64 o, .int .i64 x, .int .i64 y, .int .i64 b, .int .i64 f]) := Lib.hid (by rw [hx, hy, ho, hb, hf]; rfl)
  rw [HV.out]
  rw [← hx] at s1 b1; rw [← hy] at s2 b2; rw [← ho] at e1; rw [← hb] at e2; rw [← hf] at e3
  have l1 : o < 268435456 := by omega
  have l2 : b < 16 := by omega
  have l3 : f < 16 := by omega
  have H1 := Lib.hid s1; have H2 := Lib.hid s2
  obtain ⟨b1, b1'⟩ := b1; obtain ⟨b2, b2'⟩ := b2
  clear s1 s2 hx hy ho hb hf
  go_enter Tryz.func71, Tryz.ntmps71
  go_wp2_with (go_at_call 101; first | ((with_reducible refine (H1.out _).mono ?_); rintro e w' ⟨rfl, rfl⟩) | ((with_reducible refine (H2.out _).mono ?_); rintro e w' ⟨rfl, rfl⟩))
  exact bodyPost_ret (v := .agg #[.int .i64 o, .int .i64 x, .int .i64 y, .int .i64 b, .int .i64 f]) (by simp [results, Tryz.results71, go_sem]) rfl ⟨rfl, (Below.refl _ _).alloc (Nat.le_refl _) _⟩
end Go.Proofs.YtjcaaejfokmolaaGreatDoor
