/- Contract of math/bits.Div64. Contract of leading. Contract of foresee. Contracts of shrink, divideStep and divide. -/
import Derived.Deep.DeepCutAuto
import Derived.Deep.CutBlock
import Derived.Test.YtkggfeemjabdeaaGreatDoorPa3
import Derived.Test.YtkggfeemjabdeaaGreatDoorPa4
import Derived.Test.YtkggfeemjabdeaaGreatDoorPa17
section
namespace Go.Proofs.YtkggfeemjabdeaaGreatDoor
open Go.RowKit

theorem ret2_u64 {a b c d : Int} (h : a = c) (k : b = d) : Ending.returned (.tuple #[.int .u64 a, .int .u64 b]) = Ending.returned (.tuple #[.int .u64 c, .int .u64 d]) := by rw [h, k]

set_option maxRecDepth 100000 in
set_option maxHeartbeats 1000000 in
theorem div64_zero (l y : Nat) (hl : l < R64) (h0 : 0 < y) (w : World) :
    Calls Tryz.prog 126 #[.int .u64 0, .int .u64 l, .int .u64 y] w fun e w' => e = .returned (.tuple #[.int .u64 (l / y : Nat), .int .u64 (l % y : Nat)]) ∧ ∃ q, w' = w.drewN q := by
  have h1 : ((y : Int) == 0) = false := beq_eq_false_iff_ne.2 (by omega)
  have h2 : ¬ (y : Int) ≤ 0 := by omega
  go_enter Tryz.func126, Tryz.ntmps126
  go_wp2
  go_quiet (fail)
  go_wp2
  go_ret2
  exact ⟨ret2_u64 (by exact_mod_cast wrap_u64 (l / y) (Nat.lt_of_le_of_lt (Nat.div_le_self _ _) hl)) (by norm_cast), _, rfl⟩

theorem wrap_chain {a b c Y v : Nat} (e : c * Y + v = a * B32 + b) (hv : v < R64) :
    IntKind.u64.wrap (IntKind.u64.wrap (IntKind.u64.wrap ((a : Int) * 4294967296) + b) - IntKind.u64.wrap ((c : Int) * Y)) = (v : Int) := by
  have e2 : (c : Int) * Y + v = a * 4294967296 + b := by
    have : ((c * Y + v : Nat) : Int) = ((a * B32 + b : Nat) : Int) := by rw [e]
    rw [Int.natCast_add, Int.natCast_add, Int.natCast_mul, Int.natCast_mul] at this
    exact this
  rw [R64_eq] at hv
  simp only [IntKind.wrap_u64]
  generalize (c : Int) * Y = m at *
  omega

theorem and_mask (x : Nat) (hx : x < R64) : bits .and .u64 (x : Int) 4294967295 = ((x % B32 : Nat) : Int) := by
  have h := u64_and_nat x 4294967295 hx (by omega)
  rw [show (x &&& 4294967295) = x % 2 ^ 32 from Nat.and_two_pow_sub_one_eq_mod x 32] at h
  exact h

/-- the numbers of a division of two words by one. -/
structure DivSet (h l y s Y y1 y0 u z u1 u0 : Nat) : Prop where
  s64 : s < 64
  Y_eq : y * 2 ^ s = Y
  Y_lt : Y < R64
  Y_two : Y = y1 * B32 + y0
  y1_ge : B32 ≤ 2 * y1
  y1_lt : y1 < B32
  y0_lt : y0 < B32
  u_eq : h * 2 ^ s + l / 2 ^ (64 - s) = u
  u_lt : u < Y
  z_eq : lo (l * 2 ^ s) = z
  z_two : z = u1 * B32 + u0
  u1_lt : u1 < B32
  u0_lt : u0 < B32

theorem divset {h l y s : Nat} (hl : l < R64) (hh : h < y) (hs : s < 64) (h1 : y * 2 ^ s < R64) (h2 : R64 ≤ 2 * (y * 2 ^ s)) :
    ∃ Y y1 y0 u z u1 u0, DivSet h l y s Y y1 y0 u z u1 u0 ∧ y1 = Y / B32 ∧ y0 = Y % B32 ∧ u1 = z / B32 ∧ u0 = z % B32 := by
  have hz := lo_lt (l * 2 ^ s)
  have hB : 0 < B32 := by rw [B32_eq]; omega
  have a3 := div_lt_pow (s := s) hl (by omega)
  have a4 : (h + 1) * 2 ^ s ≤ y * 2 ^ s := Nat.mul_le_mul_right _ hh
  rw [Nat.add_mul, Nat.one_mul] at a4
  refine ⟨y * 2 ^ s, _, _, _, _, _, _, ⟨hs, rfl, h1, ?_, ?_, ?_, Nat.mod_lt _ hB, rfl, by omega, rfl, ?_, ?_, Nat.mod_lt _ hB⟩, rfl, rfl, rfl, rfl⟩
  · rw [Nat.mul_comm _ B32]; exact (Nat.div_add_mod _ _).symm
  · have := Nat.div_add_mod (y * 2 ^ s) B32
    have h3 := Nat.mod_lt (y * 2 ^ s) hB
    generalize y * 2 ^ s = Y at *
    rw [B32_eq] at *; rw [R64_eq] at *
    omega
  · apply (Nat.div_lt_iff_lt_mul hB).2; rw [B32_sq]; exact h1
  · rw [Nat.mul_comm _ B32]; exact (Nat.div_add_mod _ _).symm
  · apply (Nat.div_lt_iff_lt_mul hB).2; rw [B32_sq]; exact hz

theorem divset_end {h l y s Y y1 y0 u z u1 u0 q1 v q0 r : Nat} (d : DivSet h l y s Y y1 y0 u z u1 u0) (e1 : q1 * Y + v = u * B32 + u1) (e0 : q0 * Y + r = v * B32 + u0) (hr : r < Y) :
    q1 * B32 + q0 = (h * R64 + l) / y ∧ r / 2 ^ s = (h * R64 + l) % y := by
  have hp := Nat.two_pow_pos s
  have hy : 0 < y := by
    rcases Nat.eq_zero_or_pos y with h0 | h0
    · have := d.Y_eq; rw [h0, Nat.zero_mul] at this; have := d.u_lt; omega
    · exact h0
  -- the whole numerator, shifted
  have eN : (h * R64 + l) * 2 ^ s = u * R64 + z := by
    have a1 := lo_hi (l * 2 ^ s)
    rw [hi_shl l (Nat.le_of_lt d.s64), d.z_eq] at a1
    have a2 : h * R64 * 2 ^ s = h * 2 ^ s * R64 := by ac_rfl
    rw [Nat.add_mul, a2, ← a1, ← d.u_eq, Nat.add_mul, Nat.mul_comm R64]
    omega
  have eQ : (q1 * B32 + q0) * Y + r = u * R64 + z := by
    rw [d.z_two, ← B32_sq, ← Nat.mul_assoc, Nat.add_mul]
    have a1 : q1 * B32 * Y = q1 * Y * B32 := by ac_rfl
    have a2 : (q1 * Y + v) * B32 = (u * B32 + u1) * B32 := by rw [e1]
    rw [Nat.add_mul, Nat.add_mul] at a2
    rw [a1]
    omega
  rw [← eN, ← d.Y_eq] at eQ
  have a3 : (q1 * B32 + q0) * (y * 2 ^ s) = (q1 * B32 + q0) * y * 2 ^ s := by rw [Nat.mul_assoc]
  rw [a3] at eQ
  have a4 : r % 2 ^ s = 0 := by
    have : ((q1 * B32 + q0) * y * 2 ^ s + r) % 2 ^ s = (h * R64 + l) * 2 ^ s % 2 ^ s := by rw [eQ]
    rw [Nat.mul_add_mod_self_right, Nat.mul_mod_left] at this
    exact this
  have a5 : r = r / 2 ^ s * 2 ^ s := by
    have := Nat.div_add_mod r (2 ^ s)
    rw [a4, Nat.add_zero, Nat.mul_comm] at this
    exact this.symm
  generalize r / 2 ^ s = t at *
  rw [a5, ← Nat.add_mul] at eQ
  have a6 : (q1 * B32 + q0) * y + t = h * R64 + l := Nat.eq_of_mul_eq_mul_right hp eQ
  have a7 : t < y := by
    rw [a5, ← d.Y_eq] at hr
    exact Nat.lt_of_mul_lt_mul_right hr
  rw [← a6]
  constructor
  · rw [Nat.mul_comm _ y, Nat.mul_add_div hy, Nat.div_eq_of_lt a7, Nat.add_zero]
  · rw [Nat.mul_comm _ y, Nat.mul_add_mod, Nat.mod_eq_of_lt a7]

theorem divset_rules {h l y s Y y1 y0 u z u1 u0 : Nat} (d : DivSet h l y s Y y1 y0 u z u1 u0) (hl : l < R64) (e1 : y1 = Y / B32) (e2 : y0 = Y % B32) (e3 : u1 = z / B32) (e4 : u0 = z % B32) :
    IntKind.u64.wrap ((y : Int) * 2 ^ s) = (Y : Int) ∧ (Y : Int) / 4294967296 = (y1 : Int) ∧ bits .and .u64 (Y : Int) 4294967295 = (y0 : Int) ∧
      bits BinOp.or IntKind.u64 (IntKind.u64.wrap ((h : Int) * 2 ^ s)) ((l : Int) / 2 ^ (64 - s)) = (u : Int) ∧ IntKind.u64.wrap ((l : Int) * 2 ^ s) = (z : Int) ∧ (z : Int) / 4294967296 = (u1 : Int) ∧ bits .and .u64 (z : Int) 4294967295 = (u0 : Int) ∧
      IntKind.u64.wrap ((u : Int).tdiv y1) = ((u / y1 : Nat) : Int) ∧ IntKind.u64.wrap (((u / y1 : Nat) : Int) * y1) = ((u / y1 * y1 : Nat) : Int) ∧ IntKind.u64.wrap ((u : Int) - ((u / y1 * y1 : Nat) : Int)) = ((u % y1 : Nat) : Int) := by
  have hz : z < R64 := by rw [← d.z_eq]; exact lo_lt _
  have hu : u < R64 := Nat.lt_trans d.u_lt d.Y_lt
  have hd := Nat.div_mul_le_self u y1
  have hd2 := Nat.div_add_mod u y1
  rw [Nat.mul_comm] at hd2
  refine ⟨?_, ?_, and_mask Y d.Y_lt ▸ (by rw [e2]), ?_, ?_, ?_, and_mask z hz ▸ (by rw [e4]), ?_, ?_, ?_⟩
  · rw [← d.Y_eq]
    have := wrap_u64 (y * 2 ^ s) (by rw [d.Y_eq]; exact d.Y_lt)
    exact_mod_cast this
  · rw [e1]; rfl
  · have hw : h * 2 ^ s < R64 := Nat.lt_of_le_of_lt (by rw [← d.u_eq]; exact Nat.le_add_right _ _) hu
    have h1 : IntKind.u64.wrap ((h : Int) * 2 ^ s) = ((h * 2 ^ s : Nat) : Int) := by exact_mod_cast wrap_u64 _ hw
    have h2 : ((l : Int) / 2 ^ (64 - s)) = ((l / 2 ^ (64 - s) : Nat) : Int) := by norm_cast
    have h3 := div_lt_pow (s := s) hl (Nat.le_of_lt d.s64)
    rw [h1, h2, u64_or_nat _ _ hw (Nat.lt_of_le_of_lt (Nat.div_le_self _ _) hl), nat_join s _ _ (Nat.mul_mod_left _ _) h3, d.u_eq]
  · rw [← d.z_eq, IntKind.wrap_u64]; unfold lo; rw [Int.natCast_emod, Int.natCast_mul, Int.natCast_pow]; rfl
  · rw [e3]; rfl
  · rw [show (u : Int).tdiv y1 = ((u / y1 : Nat) : Int) from rfl]
    exact wrap_u64 _ (Nat.lt_of_le_of_lt (Nat.div_le_self _ _) hu)
  · rw [← Int.natCast_mul]; exact wrap_u64 _ (Nat.lt_of_le_of_lt hd hu)
  · rw [show (u : Int) - ((u / y1 * y1 : Nat) : Int) = ((u % y1 : Nat) : Int) from by omega]
    exact wrap_u64 _ (Nat.lt_of_le_of_lt (Nat.mod_le _ _) hu)


theorem wrap_mulB {Q : Nat} (h : Q < B32) : IntKind.u64.wrap ((Q : Int) * 4294967296) = ((Q * B32 : Nat) : Int) := by
  rw [show (Q : Int) * 4294967296 = ((Q * B32 : Nat) : Int) from by rw [Int.natCast_mul]; rfl]
  exact wrap_u64 _ (by rw [B32_eq] at *; rw [R64_eq]; omega)
theorem wrap_Bmul {Q : Nat} (h : Q < B32) : IntKind.u64.wrap (4294967296 * (Q : Int)) = ((B32 * Q : Nat) : Int) := by
  rw [show 4294967296 * (Q : Int) = ((B32 * Q : Nat) : Int) from by rw [Int.natCast_mul]; rfl]
  exact wrap_u64 _ (by rw [B32_eq] at *; rw [R64_eq]; omega)
theorem wrap_add {a b : Nat} (h : a + b < R64) : IntKind.u64.wrap ((a : Int) + b) = ((a + b : Nat) : Int) := by
  rw [← Int.natCast_add]; exact wrap_u64 _ h
theorem wrap_mul {a b : Nat} (h : a * b < R64) : IntKind.u64.wrap ((a : Int) * b) = ((a * b : Nat) : Int) := by
  rw [← Int.natCast_mul]; exact wrap_u64 _ h
theorem wrap_pred {a : Nat} (h : 0 < a) (h2 : a < R64) : IntKind.u64.wrap ((a : Int) - 1) = ((a - 1 : Nat) : Int) := by
  rw [show (a : Int) - 1 = ((a - 1 : Nat) : Int) from by omega]; exact wrap_u64 _ (by omega)

/-- what the walk is told of the numbers, and what they are. -/
structure DivRules (h l y s Y y1 y0 u z u1 u0 X0 P0 T0 Q1 v X1 P1 T1 Q0 r qq rr : Nat) : Prop where
  r8 : IntKind.u64.wrap ((u : Int) / y1) = (X0 : Int)
  r9 : IntKind.u64.wrap ((X0 : Int) * y1) = (P0 : Int)
  r10 : IntKind.u64.wrap ((u : Int) - P0) = (T0 : Int)
  r11 : IntKind.u64.wrap (IntKind.u64.wrap (IntKind.u64.wrap ((u : Int) * 4294967296) + u1) - IntKind.u64.wrap ((Q1 : Int) * Y)) = (v : Int)
  r12 : IntKind.u64.wrap ((v : Int) / y1) = (X1 : Int)
  r13 : IntKind.u64.wrap ((X1 : Int) * y1) = (P1 : Int)
  r14 : IntKind.u64.wrap ((v : Int) - P1) = (T1 : Int)
  r15 : IntKind.u64.wrap (IntKind.u64.wrap ((Q1 : Int) * 4294967296) + Q0) = (qq : Int)
  r16 : IntKind.u64.wrap (IntKind.u64.wrap (IntKind.u64.wrap ((v : Int) * 4294967296) + u0) - IntKind.u64.wrap ((Q0 : Int) * Y)) = (r : Int)
  r17 : (r : Int) / 2 ^ s = (rr : Int)
  i0 : Est y1 y0 u u1 X0 T0
  i1 : Est y1 y0 v u0 X1 T1
  u_lt : u < y1 * B32 + y0
  v_lt : v < y1 * B32 + y0
  q1 : Q1 = (u * B32 + u1) / (y1 * B32 + y0)
  q0 : Q0 = (v * B32 + u0) / (y1 * B32 + y0)
  qq_eq : qq = (h * R64 + l) / y
  rr_eq : rr = (h * R64 + l) % y

theorem divrules {h l y s Y y1 y0 u z u1 u0 : Nat} (d : DivSet h l y s Y y1 y0 u z u1 u0) : ∃ X0 P0 T0 Q1 v X1 P1 T1 Q0 r qq rr, DivRules h l y s Y y1 y0 u z u1 u0 X0 P0 T0 Q1 v X1 P1 T1 Q0 r qq rr := by
  have hu : u < y1 * B32 + y0 := by rw [← d.Y_two]; exact d.u_lt
  have hp := est_pos (y0 := y0) d.y1_ge
  have hY := d.Y_lt
  have a1 := Nat.div_add_mod (u * B32 + u1) (y1 * B32 + y0)
  have a2 := Nat.mod_lt (u * B32 + u1) hp
  have a3 := est_digit hu d.u1_lt
  generalize hQ1 : (u * B32 + u1) / (y1 * B32 + y0) = Q1 at *
  generalize hv : (u * B32 + u1) % (y1 * B32 + y0) = v at *
  have b1 := Nat.div_add_mod (v * B32 + u0) (y1 * B32 + y0)
  have b2 := Nat.mod_lt (v * B32 + u0) hp
  have b3 := est_digit a2 d.u0_lt
  generalize hQ0 : (v * B32 + u0) / (y1 * B32 + y0) = Q0 at *
  generalize hr : (v * B32 + u0) % (y1 * B32 + y0) = r at *
  rw [Nat.mul_comm, ← d.Y_two] at a1 b1
  have fin := divset_end d a1 b1 (by rw [d.Y_two]; exact b2)
  have w8 : ∀ x : Nat, x < y1 * B32 + y0 → IntKind.u64.wrap ((x : Int) / y1) = ((x / y1 : Nat) : Int) ∧ IntKind.u64.wrap (((x / y1 : Nat) : Int) * y1) = ((x / y1 * y1 : Nat) : Int) ∧ IntKind.u64.wrap ((x : Int) - ((x / y1 * y1 : Nat) : Int)) = ((x % y1 : Nat) : Int) := by
    intro x hx
    have hxR : x < R64 := Nat.lt_trans hx (by rw [← d.Y_two]; exact hY)
    have hd := Nat.div_mul_le_self x y1
    have hd2 := Nat.div_add_mod x y1
    rw [Nat.mul_comm] at hd2
    refine ⟨?_, ?_, ?_⟩
    · exact_mod_cast wrap_u64 (x / y1) (Nat.lt_of_le_of_lt (Nat.div_le_self _ _) hxR)
    · rw [← Int.natCast_mul]; exact wrap_u64 _ (Nat.lt_of_le_of_lt hd hxR)
    · rw [show (x : Int) - ((x / y1 * y1 : Nat) : Int) = ((x % y1 : Nat) : Int) from by omega]
      exact wrap_u64 _ (Nat.lt_of_le_of_lt (Nat.mod_le _ _) hxR)
  have hvR : v < R64 := Nat.lt_trans a2 (by rw [← d.Y_two]; exact hY)
  have hrR : r < R64 := Nat.lt_trans b2 (by rw [← d.Y_two]; exact hY)
  refine ⟨_, _, _, Q1, v, _, _, _, Q0, r, _, _, (w8 u hu).1, (w8 u hu).2.1, (w8 u hu).2.2, wrap_chain a1 hvR, (w8 v a2).1, (w8 v a2).2.1, (w8 v a2).2.2, ?_, wrap_chain b1 hrR, ?_, est_init d.y1_ge d.y1_lt d.y0_lt hu d.u1_lt, est_init d.y1_ge d.y1_lt d.y0_lt a2 d.u0_lt, hu, a2, hQ1.symm, hQ0.symm, fin.1, fin.2⟩
  · rw [wrap_mulB a3, ← Int.natCast_add]
    refine wrap_u64 _ ?_
    clear fin; rw [B32_eq] at *; rw [R64_eq]; omega
  · norm_cast

set_option maxRecDepth 100000 in
set_option maxHeartbeats 2000000 in
theorem div64_core (h l y s Y y1 y0 u z u1 u0 X0 P0 T0 Q1 v X1 P1 T1 Q0 r qq rr : Nat) (d : DivSet h l y s Y y1 y0 u z u1 u0) (R : DivRules h l y s Y y1 y0 u z u1 u0 X0 P0 T0 Q1 v X1 P1 T1 Q0 r qq rr) (hl : l < R64) (e1 : y1 = Y / B32) (e2 : y0 = Y % B32) (e3 : u1 = z / B32) (e4 : u0 = z % B32)
    (hy : y < R64) (hh : h < y) (h0 : 0 < h) (hs : (64 - (Lib.bitLen (y : Int).toNat : Int)) = (s : Int)) (w : World) :
    Calls Tryz.prog 126 #[.int .u64 h, .int .u64 l, .int .u64 y] w fun e w' => e = .returned (.tuple #[.int .u64 qq, .int .u64 rr]) ∧ w = w' := by
  have h1 : ((y : Int) == 0) = false := beq_eq_false_iff_ne.2 (by omega)
  have h2 : ¬ (y : Int) ≤ h := by omega
  have h3 : ((h : Int) == 0) = false := beq_eq_false_iff_ne.2 (by omega)
  obtain ⟨r1, r2, r3, r4, r5, r6, r7, x8, x9, x10⟩ := divset_rules d hl e1 e2 e3 e4
  clear x8 x9 x10
  obtain ⟨r8, r9, r10, r11, r12, r13, r14, r15, r16, r17, i0, i1, hu, hv, q1, q0, qe, re⟩ := R
  clear qe re
  have HI0 := Lib.hid i0; have HI1 := Lib.hid i1; have HU := Lib.hid hu; have HV := Lib.hid hv; have HQ1 := Lib.hid q1; have HQ0 := Lib.hid q0; have HS := Lib.hid hs
  clear e1 e2 e3 e4 hs i0 i1 hu hv q1 q0
  have s64 := d.s64
  have hy1 : ¬ (y1 : Int) = 0 := by have := d.y1_ge; rw [B32_eq] at this; omega
  have hs64 : (s : Int) < 64 := by omega
  go_enter Tryz.func126, Tryz.ntmps126
  go_wp2_with fail
  refine (Tryz.bits_LeadingZeros64 (y : Int) _ (by omega) (by rw [R64_eq] at hy; omega)).mono ?_
  rintro e w' ⟨rfl, rfl⟩
  rw [HS.out]
  go_upto_block 0 with fail
  go_cut [15] (fun q1 wx => q1 = .int .u64 Q1 ∧ wx = w')
  case first =>
    go_wp2_with fail
    go_loop [15, 16] (fun q1 rh => ∃ X T : Nat, Est y1 y0 u u1 X T ∧ q1 = .int .u64 X ∧ rh = .int .u64 T) (fun q1 _ => (intOf q1).toNat)
    case atStart => exact ⟨X0, T0, HI0.out, rfl, rfl⟩
    case round =>
      obtain ⟨X, T, est, rfl, rfl⟩ := hrel
      have HE := Lib.hid est; clear est
      have hT := HE.out.lt
      have hX := HE.out.le
      rw [B32_eq] at hT hX
      have rT : IntKind.u64.wrap ((T : Int) + y1) = ((T + y1 : Nat) : Int) := by
        have := d.y1_lt; rw [B32_eq] at this
        exact wrap_add (by rw [R64_eq]; omega)
      by_cases hXB : (4294967296 : Int) ≤ X
      · have rX := wrap_pred (a := X) (by omega) (by rw [R64_eq]; omega)
        have hlt := est_less HE.out d.y1_ge HU.out d.u1_lt (.inl (by rw [B32_eq]; omega))
        have HLT := Lib.hid hlt; clear hlt
        generalize hZ : X - 1 = Z at rX
        generalize hS : T + y1 = S at rT
        have HZ := Lib.hid hZ; have HS2 := Lib.hid hS; clear hZ hS
        by_cases hS : (4294967296 : Int) ≤ S
        · clear hT hX
          go_wp2
          go_meet
          case rel => exact ⟨by rw [HQ1.out, ← est_break HE.out d.y1_ge d.y0_lt HLT.out (by have := HS2.out; rw [B32_eq]; omega), HZ.out], rfl⟩
        · clear hT hX
          go_wp2
          go_round
          case rel => exact ⟨Z, S, by rw [← HZ.out, ← HS2.out]; exact est_next HE.out HLT.out (by have := HS2.out; rw [B32_eq]; omega), rfl, rfl⟩
          case measure => have := HZ.out; simp [intOf]; omega
      · have rA : IntKind.u64.wrap ((X : Int) * y0) = ((X * y0 : Nat) : Int) := by
          have a1 : X * y0 ≤ X * 4294967296 := Nat.mul_le_mul_left _ (by have := d.y0_lt; rw [B32_eq] at this; omega)
          exact wrap_mul (by rw [R64_eq]; omega)
        have rC := wrap_Bmul HE.out.lt
        have rD := wrap_add (a := B32 * T) (b := u1) (by
            have a1 := d.u1_lt
            rw [B32_eq] at *; rw [R64_eq]; omega)
        by_cases hlt0 : B32 * T + u1 < X * y0
        · have hlt := est_less HE.out d.y1_ge HU.out d.u1_lt (.inr hlt0)
          have HLT := Lib.hid hlt; clear hlt
          have hXp : 0 < X := Nat.lt_of_le_of_lt (Nat.zero_le _) HLT.out
          have rX := wrap_pred (a := X) (by omega) (by rw [R64_eq]; omega)
          generalize hZ : X - 1 = Z at rX
          generalize hS : T + y1 = S at rT
          generalize hA : X * y0 = A at rA hlt0
          generalize hC : B32 * T + u1 = C at rD hlt0
          generalize hC2 : B32 * T = C2 at rC rD
          have HZ := Lib.hid hZ; have HS2 := Lib.hid hS
          clear hZ hS hA hC hC2
          by_cases hS : (4294967296 : Int) ≤ S
          · clear hT hX
            go_wp2
            go_meet
            case rel => exact ⟨by rw [HQ1.out, ← est_break HE.out d.y1_ge d.y0_lt HLT.out (by have := HS2.out; rw [B32_eq]; omega), HZ.out], rfl⟩
          · clear hT hX
            go_wp2
            go_round
            case rel => exact ⟨Z, S, by rw [← HZ.out, ← HS2.out]; exact est_next HE.out HLT.out (by have := HS2.out; rw [B32_eq]; omega), rfl, rfl⟩
            case measure => have := HZ.out; simp [intOf]; omega
        · have heq := est_stop HE.out d.y1_ge (by omega)
          have HEQ := Lib.hid heq; clear heq
          generalize hA : X * y0 = A at rA hlt0
          generalize hC : B32 * T + u1 = C at rD hlt0
          generalize hC2 : B32 * T = C2 at rC rD
          clear hA hC hC2
          clear hT hX
          go_wp2
          go_meet
          case rel => exact ⟨by rw [HQ1.out, HEQ.out], rfl⟩
  case rest =>
    obtain ⟨rfl, rfl⟩ := hcut
    go_upto_block 2 with fail
    go_cut [18] (fun q0 wy => q0 = .int .u64 Q0 ∧ wy = wc)
    case first =>
      go_wp2_with fail
      go_loop [18, 16] (fun q1 rh => ∃ X T : Nat, Est y1 y0 v u0 X T ∧ q1 = .int .u64 X ∧ rh = .int .u64 T) (fun q1 _ => (intOf q1).toNat)
      case atStart => exact ⟨X1, T1, HI1.out, rfl, rfl⟩
      case round =>
        obtain ⟨X, T, est, rfl, rfl⟩ := hrel
        have HE := Lib.hid est; clear est
        have hT := HE.out.lt
        have hX := HE.out.le
        rw [B32_eq] at hT hX
        have rT : IntKind.u64.wrap ((T : Int) + y1) = ((T + y1 : Nat) : Int) := by
          have := d.y1_lt; rw [B32_eq] at this
          exact wrap_add (by rw [R64_eq]; omega)
        by_cases hXB : (4294967296 : Int) ≤ X
        · have rX := wrap_pred (a := X) (by omega) (by rw [R64_eq]; omega)
          have hlt := est_less HE.out d.y1_ge HV.out d.u0_lt (.inl (by rw [B32_eq]; omega))
          have HLT := Lib.hid hlt; clear hlt
          generalize hZ : X - 1 = Z at rX
          generalize hS : T + y1 = S at rT
          have HZ := Lib.hid hZ; have HS2 := Lib.hid hS; clear hZ hS
          by_cases hS : (4294967296 : Int) ≤ S
          · clear hT hX
            go_wp2
            go_meet
            case rel => exact ⟨by rw [HQ0.out, ← est_break HE.out d.y1_ge d.y0_lt HLT.out (by have := HS2.out; rw [B32_eq]; omega), HZ.out], rfl⟩
          · clear hT hX
            go_wp2
            go_round
            case rel => exact ⟨Z, S, by rw [← HZ.out, ← HS2.out]; exact est_next HE.out HLT.out (by have := HS2.out; rw [B32_eq]; omega), rfl, rfl⟩
            case measure => have := HZ.out; simp [intOf]; omega
        · have rA : IntKind.u64.wrap ((X : Int) * y0) = ((X * y0 : Nat) : Int) := by
            have a1 : X * y0 ≤ X * 4294967296 := Nat.mul_le_mul_left _ (by have := d.y0_lt; rw [B32_eq] at this; omega)
            exact wrap_mul (by rw [R64_eq]; omega)
          have rC := wrap_Bmul HE.out.lt
          have rD := wrap_add (a := B32 * T) (b := u0) (by
              have a1 := d.u0_lt
              rw [B32_eq] at *; rw [R64_eq]; omega)
          by_cases hlt0 : B32 * T + u0 < X * y0
          · have hlt := est_less HE.out d.y1_ge HV.out d.u0_lt (.inr hlt0)
            have HLT := Lib.hid hlt; clear hlt
            have hXp : 0 < X := Nat.lt_of_le_of_lt (Nat.zero_le _) HLT.out
            have rX := wrap_pred (a := X) (by omega) (by rw [R64_eq]; omega)
            generalize hZ : X - 1 = Z at rX
            generalize hS : T + y1 = S at rT
            generalize hA : X * y0 = A at rA hlt0
            generalize hC : B32 * T + u0 = C at rD hlt0
            generalize hC2 : B32 * T = C2 at rC rD
            have HZ := Lib.hid hZ; have HS2 := Lib.hid hS
            clear hZ hS hA hC hC2
            by_cases hS : (4294967296 : Int) ≤ S
            · clear hT hX
              go_wp2
              go_meet
              case rel => exact ⟨by rw [HQ0.out, ← est_break HE.out d.y1_ge d.y0_lt HLT.out (by have := HS2.out; rw [B32_eq]; omega), HZ.out], rfl⟩
            · clear hT hX
              go_wp2
              go_round
              case rel => exact ⟨Z, S, by rw [← HZ.out, ← HS2.out]; exact est_next HE.out HLT.out (by have := HS2.out; rw [B32_eq]; omega), rfl, rfl⟩
              case measure => have := HZ.out; simp [intOf]; omega
          · have heq := est_stop HE.out d.y1_ge (by omega)
            have HEQ := Lib.hid heq; clear heq
            generalize hA : X * y0 = A at rA hlt0
            generalize hC : B32 * T + u0 = C at rD hlt0
            generalize hC2 : B32 * T = C2 at rC rD
            clear hA hC hC2
            clear hT hX
            go_wp2
            go_meet
            case rel => exact ⟨by rw [HQ0.out, HEQ.out], rfl⟩

    case rest =>
      obtain ⟨rfl, rfl⟩ := hcut
      go_wp2
      go_ret2
      exact ⟨rfl, rfl⟩

theorem bitLenAux_spec : ∀ (f x : Nat), x < 2 ^ f → Lib.bitLenAux f x ≤ f ∧ x < 2 ^ Lib.bitLenAux f x ∧ (x ≠ 0 → 1 ≤ Lib.bitLenAux f x ∧ 2 ^ (Lib.bitLenAux f x - 1) ≤ x)
  | 0, x, h => by
    have : x = 0 := by simpa using h
    subst this
    exact ⟨Nat.le_refl _, by simp [Lib.bitLenAux], fun h => absurd rfl h⟩
  | f + 1, x, h => by
    unfold Lib.bitLenAux
    by_cases hx : x = 0
    · rw [if_pos hx]; subst hx; exact ⟨Nat.zero_le _, by simp, fun h => absurd rfl h⟩
    · rw [if_neg hx]
      obtain ⟨h1, h2, h3⟩ := bitLenAux_spec f (x / 2) (by rw [Nat.pow_succ] at h; omega)
      have hz : x / 2 = 0 → Lib.bitLenAux f (x / 2) = 0 := fun h => by rw [h]; cases f <;> simp [Lib.bitLenAux]
      generalize Lib.bitLenAux f (x / 2) = L at *
      refine ⟨by omega, by rw [Nat.add_comm 1, Nat.pow_succ]; omega, fun _ => ⟨by omega, ?_⟩⟩
      rw [Nat.add_sub_cancel_left]
      by_cases h4 : x / 2 = 0
      · have := hz h4
        subst this
        simp; omega
      · obtain ⟨h5, h6⟩ := h3 h4
        obtain ⟨M, rfl⟩ : ∃ M, L = M + 1 := ⟨L - 1, by omega⟩
        rw [Nat.add_sub_cancel] at h6
        rw [Nat.pow_succ]; omega

theorem lead_spec {y : Nat} (hy : y < R64) (h0 : 0 < y) : ∃ s : Nat, (64 - (Lib.bitLen (y : Int).toNat : Int)) = (s : Int) ∧ s < 64 ∧ y * 2 ^ s < R64 ∧ R64 ≤ 2 * (y * 2 ^ s) := by
  obtain ⟨h1, h2, h3⟩ := bitLenAux_spec 64 y (by rw [R64_eq] at hy; exact hy)
  obtain ⟨h4, h5⟩ := h3 (by omega)
  rw [Int.toNat_natCast]
  unfold Lib.bitLen
  generalize Lib.bitLenAux 64 y = L at *
  have e1 : 2 ^ L * 2 ^ (64 - L) = R64 := by rw [← Nat.pow_add, show L + (64 - L) = 64 from by omega, R64_eq]
  have e2 : 2 ^ L = 2 * 2 ^ (L - 1) := by
    obtain ⟨M, rfl⟩ : ∃ M, L = M + 1 := ⟨L - 1, by omega⟩
    rw [Nat.pow_succ, Nat.mul_comm, Nat.add_sub_cancel]
  refine ⟨64 - L, by omega, by omega, ?_, ?_⟩
  · rw [← e1]; exact Nat.mul_lt_mul_of_pos_right h2 (Nat.two_pow_pos _)
  · rw [← e1, e2, Nat.mul_assoc]; exact Nat.mul_le_mul_left _ (Nat.mul_le_mul_right _ h5)

/-- Div64: quotient and rest, where the quotient is a word. -/
theorem div64_any (h l y : Nat) (hl : l < R64) (hy : y < R64) (hh : h < y) (w : World) :
    Calls Tryz.prog 126 #[.int .u64 h, .int .u64 l, .int .u64 y] w fun e w' => e = .returned (.tuple #[.int .u64 ((h * R64 + l) / y : Nat), .int .u64 ((h * R64 + l) % y : Nat)]) ∧ ∃ q, w' = w.drewN q := by
  rcases Nat.eq_zero_or_pos h with h0 | h0
  · subst h0
    rw [Nat.zero_mul, Nat.zero_add]
    exact div64_zero l y hl hh w
  · obtain ⟨s, hs, s64, a1, a2⟩ := lead_spec hy (by omega)
    obtain ⟨Y, y1, y0, u, z, u1, u0, d, e1, e2, e3, e4⟩ := divset hl hh s64 a1 a2
    obtain ⟨X0, P0, T0, Q1, v, X1, P1, T1, Q0, r, qq, rr, R⟩ := divrules d
    refine (div64_core h l y s Y y1 y0 u z u1 u0 X0 P0 T0 Q1 v X1 P1 T1 Q0 r qq rr d R hl e1 e2 e3 e4 hy hh h0 hs w).mono ?_
    rintro e w' ⟨rfl, rfl⟩
    exact ⟨by rw [R.qq_eq, R.rr_eq], 0, rfl⟩

end Go.Proofs.YtkggfeemjabdeaaGreatDoor
end
section
namespace Go.Proofs.YtkggfeemjabdeaaGreatDoor
open Go.RowKit

/-- the leading word of a number of k + 2 words, from the bit s on. -/
def ldw (f : Nat → Nat) (k s : Nat) : Nat := f (k + 1) * 2 ^ s + f k / 2 ^ (64 - s)
theorem ldw_split (f : Nat → Nat) (k : Nat) {s : Nat} (hs : s ≤ 64) (lf : ∀ i, i < k → f i < R64) :
    val f (k + 2) = ldw f k s * (2 ^ (64 - s) * R64 ^ k) + (val f k + f k % 2 ^ (64 - s) * R64 ^ k) ∧ val f k + f k % 2 ^ (64 - s) * R64 ^ k < 2 ^ (64 - s) * R64 ^ k := by
  have h1 := R64_split hs
  have h2 := Nat.div_add_mod (f k) (2 ^ (64 - s))
  have hp := Nat.two_pow_pos (64 - s)
  have h3 := Nat.mod_lt (f k) hp
  have h4 := val_lt lf
  unfold ldw
  generalize f k % 2 ^ (64 - s) = r at *
  generalize f k / 2 ^ (64 - s) = q at *
  generalize hP : 2 ^ (64 - s) = P at *
  constructor
  · have h5 : val f (k + 2) = val f k + f k * R64 ^ k + f (k + 1) * (R64 * R64 ^ k) := by rw [← pow_succ_R]; rfl
    rw [h5, ← h2]
    generalize R64 ^ k = M at *
    rw [h1]
    generalize 2 ^ s = S at *
    clear h1 h2 h3 h4 h5 hP hp lf
    grind
  · have h5 : (r + 1) * R64 ^ k ≤ P * R64 ^ k := Nat.mul_le_mul_right _ h3
    rw [Nat.add_mul, Nat.one_mul] at h5
    omega
theorem ldw_lt {f : Nat → Nat} {k s : Nat} (hs : s ≤ 64) (h1 : f (k + 1) * 2 ^ s < R64) (h0 : f k < R64) : ldw f k s < R64 := by
  have h2 := div_lt_pow (s := s) h0 hs
  unfold ldw
  have h3 := R64_split hs
  rw [h3, Nat.mul_comm (2 ^ s)] at h1 ⊢
  have h4 := Nat.lt_of_mul_lt_mul_right h1
  have h5 : (f (k + 1) + 1) * 2 ^ s ≤ 2 ^ (64 - s) * 2 ^ s := Nat.mul_le_mul_right _ h4
  rw [Nat.add_mul, Nat.one_mul] at h5
  omega
theorem ldw_le {f g : Nat → Nat} {k s : Nat} (hs : s ≤ 64) (lf : ∀ i, i < k → f i < R64) (lg : ∀ i, i < k → g i < R64) (h : val g (k + 2) ≤ val f (k + 2)) : ldw g k s ≤ ldw f k s := by
  obtain ⟨a1, a2⟩ := ldw_split f k hs lf
  obtain ⟨b1, b2⟩ := ldw_split g k hs lg
  rw [a1, b1] at h
  rcases Nat.lt_or_ge (ldw f k s) (ldw g k s) with h1 | h1
  · exfalso
    have h2 : (ldw f k s + 1) * (2 ^ (64 - s) * R64 ^ k) ≤ ldw g k s * (2 ^ (64 - s) * R64 ^ k) := Nat.mul_le_mul_right _ h1
    rw [Nat.add_mul, Nat.one_mul] at h2
    omega
  · exact h1
theorem or_lead {h l s : Nat} (hs : s ≤ 64) (hw : h * 2 ^ s < R64) (hl : l < R64) : bits BinOp.or IntKind.u64 (IntKind.u64.wrap ((h : Int) * 2 ^ s)) ((l : Int) / 2 ^ (64 - s)) = ((h * 2 ^ s + l / 2 ^ (64 - s) : Nat) : Int) := by
  have h1 : IntKind.u64.wrap ((h : Int) * 2 ^ s) = ((h * 2 ^ s : Nat) : Int) := by exact_mod_cast wrap_u64 _ hw
  have h2 : ((l : Int) / 2 ^ (64 - s)) = ((l / 2 ^ (64 - s) : Nat) : Int) := by norm_cast
  have h3 := div_lt_pow (s := s) hl hs
  rw [h1, h2, u64_or_nat _ _ hw (Nat.lt_of_le_of_lt (Nat.div_le_self _ _) hl), nat_join s _ _ (Nat.mul_mod_left _ _) h3]

/-- What leading returns. -/
def Leads (f g : Nat → Nat) (k s : Nat) (w : World) (e : Ending) (w' : World) : Prop := e = .returned (.tuple #[.int .u64 (ldw f k s), .int .u64 (ldw g k s)]) ∧ ∃ q, w' = w.drewN q

set_option maxRecDepth 100000 in
set_option maxHeartbeats 1000000 in
theorem leading_core (k m s b off cap b' off' cap' : Nat) (f g : Nat → Nat) (hn : k + 2 ≤ 201) (hm : 2 ≤ m) (hmk : m ≤ k + 2) (w : World)
    (cf : ∀ i, i < k + 2 → w.cell? ⟨b, off + i, none⟩ = some (.int .u64 (f i))) (cg : ∀ i, i < m → w.cell? ⟨b', off' + i, none⟩ = some (.int .u64 (g i)))
    (lf : ∀ i, i < k + 2 → f i < R64) (lg : ∀ i, i < m → g i < R64) (ptop : 0 < f (k + 1)) (hs : (64 - (Lib.bitLen (f (k + 1) : Int).toNat : Int)) = (s : Int)) (s64 : s < 64) (hw : f (k + 1) * 2 ^ s < R64) (hgw : cutf g m (k + 1) * 2 ^ s < R64) :
    Calls Tryz.prog 133 #[.slice (some ⟨b, off, none⟩) (k + 2) cap, .slice (some ⟨b', off', none⟩) m cap'] w (Leads f (cutf g m) k s w) := by
  have HS := Lib.hid hs; have CF := Lib.hid cf; have CG := Lib.hid cg
  clear hs cf cg
  have c1 := CF.out (k + 1) (by omega)
  have c2 := CF.out k (by omega)
  have l1 := lf (k + 1) (by omega)
  have l2 := lf k (by omega)
  have r1 := or_lead (Nat.le_of_lt s64) hw l2
  obtain ⟨X, hX⟩ : ∃ X, X = ldw f k s := ⟨_, rfl⟩
  have r1' : bits BinOp.or IntKind.u64 (IntKind.u64.wrap ((f (k + 1) : Int) * 2 ^ s)) ((f k : Int) / 2 ^ (64 - s)) = (X : Int) := by rw [r1, hX]; rfl
  clear r1
  have HX := Lib.hid hX; clear hX
  have s64' : (s : Int) < 64 := by omega
  go_enter Tryz.func133, Tryz.ntmps133
  go_wp2_with fail
  refine (Tryz.bits_LeadingZeros64 (f (k + 1) : Int) _ (by omega) (by rw [R64_eq] at l1; omega)).mono ?_
  rintro e w' ⟨rfl, rfl⟩
  rw [HS.out]
  go_wp2_with fail
  go_quiet (fail)
  by_cases h1 : m = k + 2
  · subst h1
    have d1 := CG.out (k + 1) (by omega)
    have d2 := CG.out k (by omega)
    have e1 : ((k : Int) + 2 == k + 2) = true := by simp
    rw [cutf_lt (by omega)] at hgw
    have r2 := or_lead (Nat.le_of_lt s64) hgw (lg k (by omega))
    obtain ⟨Y, hY⟩ : ∃ Y, Y = ldw (cutf g (k + 2)) k s := ⟨_, rfl⟩
    have r2' : bits BinOp.or IntKind.u64 (IntKind.u64.wrap ((g (k + 1) : Int) * 2 ^ s)) ((g k : Int) / 2 ^ (64 - s)) = (Y : Int) := by
      rw [r2, hY]; unfold ldw; rw [cutf_lt (by omega), cutf_lt (by omega)]
    clear r2
    have HY := Lib.hid hY; clear hY
    go_wp2_with fail
    go_quiet (fail)
    go_wp2_with fail
    go_ret2
    exact ⟨by rw [← HX.out, ← HY.out]; rfl, _, draws_draws _ _ _⟩
  · by_cases h2 : m = k + 1
    · subst h2
      have d2 := CG.out k (by omega)
      have e1 : ((k : Int) + 1 == k + 2) = false := beq_eq_false_iff_ne.2 (by omega)
      obtain ⟨Y, hY⟩ : ∃ Y, Y = ldw (cutf g (k + 1)) k s := ⟨_, rfl⟩
      have r2' : ((g k : Int) / 2 ^ (64 - s)) = (Y : Int) := by
        rw [hY]; unfold ldw; rw [cutf_ge (by omega), cutf_lt (by omega), Nat.zero_mul, Nat.zero_add]; norm_cast
      have HY := Lib.hid hY; clear hY
      go_wp2_with fail
      go_ret2
      exact ⟨by rw [← HX.out, ← HY.out]; rfl, _, rfl⟩
    · have e1 : ((m : Int) == k + 2) = false := beq_eq_false_iff_ne.2 (by omega)
      have e2 : ((m : Int) == k + 1) = false := beq_eq_false_iff_ne.2 (by omega)
      obtain ⟨Y, hY⟩ : ∃ Y, Y = ldw (cutf g m) k s := ⟨_, rfl⟩
      have r2' : Y = 0 := by
        rw [hY]; unfold ldw; rw [cutf_ge (by omega), cutf_ge (by omega)]; simp
      have HY := Lib.hid (hY.symm.trans r2'); clear hY r2'
      go_wp2_with fail
      go_ret2
      exact ⟨by rw [← HX.out, HY.out]; rfl, _, rfl⟩
end Go.Proofs.YtkggfeemjabdeaaGreatDoor
end
section
namespace Go.Proofs.YtkggfeemjabdeaaGreatDoor
open Go.RowKit


/-- What foresee returns. -/
def Foreseen (X Y : Nat) (w : World) (e : Ending) (w' : World) : Prop :=
  ∃ (a1 b1 a2 b2 : Nat) (even ok : Bool), e = .returned (.tuple #[.agg #[.int .u64 a1, .int .u64 b1, .int .u64 a2, .int .u64 b2, .bool even], .bool ok]) ∧ (a1 < R64 ∧ b1 < R64 ∧ a2 < R64 ∧ b2 < R64) ∧ (ok = true → Sure X Y a1 b1 a2 b2 even ∧ b1 ≠ 0) ∧ Below w.heap.size w w'

/-- the five cells of a leap. -/
structure Leap (w : World) (L a1 b1 a2 b2 : Nat) (even : Bool) : Prop where
  c0 : w.cell? ⟨L, 0, none⟩ = some (.int .u64 a1)
  c1 : w.cell? ⟨L, 1, none⟩ = some (.int .u64 b1)
  c2 : w.cell? ⟨L, 2, none⟩ = some (.int .u64 a2)
  c3 : w.cell? ⟨L, 3, none⟩ = some (.int .u64 b2)
  c4 : w.cell? ⟨L, 4, none⟩ = some (.bool even)
  z : ∀ i, w.frozen? ⟨L, i, none⟩ = false

theorem Leap.set0 {w : World} {L a1 b1 a2 b2 : Nat} {even : Bool} (h : Leap w L a1 b1 a2 b2 even) (x : Nat) : Leap (w.setCell ⟨L, 0, none⟩ (.int .u64 x)) L x b1 a2 b2 even := by
  constructor
  · exact World.cell?_setCell_same _ _ _ h.c0
  · rw [World.cell?_setCell_other (h := by intro e; injection e with _ e2; cases e2)]; exact h.c1
  · rw [World.cell?_setCell_other (h := by intro e; injection e with _ e2; cases e2)]; exact h.c2
  · rw [World.cell?_setCell_other (h := by intro e; injection e with _ e2; cases e2)]; exact h.c3
  · rw [World.cell?_setCell_other (h := by intro e; injection e with _ e2; cases e2)]; exact h.c4
  · intro i; rw [World.frozen?_setCell]; exact h.z i
theorem Leap.set1 {w : World} {L a1 b1 a2 b2 : Nat} {even : Bool} (h : Leap w L a1 b1 a2 b2 even) (x : Nat) : Leap (w.setCell ⟨L, 1, none⟩ (.int .u64 x)) L a1 x a2 b2 even := by
  constructor
  · rw [World.cell?_setCell_other (h := by intro e; injection e with _ e2; cases e2)]; exact h.c0
  · exact World.cell?_setCell_same _ _ _ h.c1
  · rw [World.cell?_setCell_other (h := by intro e; injection e with _ e2; cases e2)]; exact h.c2
  · rw [World.cell?_setCell_other (h := by intro e; injection e with _ e2; cases e2)]; exact h.c3
  · rw [World.cell?_setCell_other (h := by intro e; injection e with _ e2; cases e2)]; exact h.c4
  · intro i; rw [World.frozen?_setCell]; exact h.z i
theorem Leap.set2 {w : World} {L a1 b1 a2 b2 : Nat} {even : Bool} (h : Leap w L a1 b1 a2 b2 even) (x : Nat) : Leap (w.setCell ⟨L, 2, none⟩ (.int .u64 x)) L a1 b1 x b2 even := by
  constructor
  · rw [World.cell?_setCell_other (h := by intro e; injection e with _ e2; cases e2)]; exact h.c0
  · rw [World.cell?_setCell_other (h := by intro e; injection e with _ e2; cases e2)]; exact h.c1
  · exact World.cell?_setCell_same _ _ _ h.c2
  · rw [World.cell?_setCell_other (h := by intro e; injection e with _ e2; cases e2)]; exact h.c3
  · rw [World.cell?_setCell_other (h := by intro e; injection e with _ e2; cases e2)]; exact h.c4
  · intro i; rw [World.frozen?_setCell]; exact h.z i
theorem Leap.set3 {w : World} {L a1 b1 a2 b2 : Nat} {even : Bool} (h : Leap w L a1 b1 a2 b2 even) (x : Nat) : Leap (w.setCell ⟨L, 3, none⟩ (.int .u64 x)) L a1 b1 a2 x even := by
  constructor
  · rw [World.cell?_setCell_other (h := by intro e; injection e with _ e2; cases e2)]; exact h.c0
  · rw [World.cell?_setCell_other (h := by intro e; injection e with _ e2; cases e2)]; exact h.c1
  · rw [World.cell?_setCell_other (h := by intro e; injection e with _ e2; cases e2)]; exact h.c2
  · exact World.cell?_setCell_same _ _ _ h.c3
  · rw [World.cell?_setCell_other (h := by intro e; injection e with _ e2; cases e2)]; exact h.c4
  · intro i; rw [World.frozen?_setCell]; exact h.z i
theorem Leap.set4 {w : World} {L a1 b1 a2 b2 : Nat} {even : Bool} (h : Leap w L a1 b1 a2 b2 even) (x : Bool) : Leap (w.setCell ⟨L, 4, none⟩ (.bool x)) L a1 b1 a2 b2 x := by
  constructor
  · rw [World.cell?_setCell_other (h := by intro e; injection e with _ e2; cases e2)]; exact h.c0
  · rw [World.cell?_setCell_other (h := by intro e; injection e with _ e2; cases e2)]; exact h.c1
  · rw [World.cell?_setCell_other (h := by intro e; injection e with _ e2; cases e2)]; exact h.c2
  · rw [World.cell?_setCell_other (h := by intro e; injection e with _ e2; cases e2)]; exact h.c3
  · exact World.cell?_setCell_same _ _ _ h.c4
  · intro i; rw [World.frozen?_setCell]; exact h.z i
theorem Leap.other {w : World} {L a1 b1 a2 b2 : Nat} {even : Bool} (h : Leap w L a1 b1 a2 b2 even) {p : Addr} (hp : p.block ≠ L) (u : Value) : Leap (w.setCell p u) L a1 b1 a2 b2 even := by
  have e : ∀ i, (w.setCell p u).cell? ⟨L, i, none⟩ = w.cell? ⟨L, i, none⟩ := fun i => World.cell?_setCell_other (h := by rintro rfl; exact hp rfl) ..
  exact ⟨(e 0).trans h.c0, (e 1).trans h.c1, (e 2).trans h.c2, (e 3).trans h.c3, (e 4).trans h.c4, fun i => by rw [World.frozen?_setCell]; exact h.z i⟩
theorem Leap.drewN {w : World} {L a1 b1 a2 b2 : Nat} {even : Bool} (h : Leap w L a1 b1 a2 b2 even) (n : Nat) : Leap (w.drewN n) L a1 b1 a2 b2 even := ⟨h.c0, h.c1, h.c2, h.c3, h.c4, h.z⟩
theorem Leap.drew {w : World} {L a1 b1 a2 b2 : Nat} {even : Bool} (h : Leap w L a1 b1 a2 b2 even) : Leap w.drew L a1 b1 a2 b2 even := ⟨h.c0, h.c1, h.c2, h.c3, h.c4, h.z⟩

theorem foreseen_end {X Y a1 b1 a2 b2 : Nat} {even : Bool} {w W : World} (hW : a1 < R64 ∧ b1 < R64 ∧ a2 < R64 ∧ b2 < R64) (hs : b1 = 0 ∨ Sure X Y a1 b1 a2 b2 even) (hb : Below w.heap.size w W) :
    Foreseen X Y w (.returned (.tuple #[.agg #[.int .u64 a1, .int .u64 b1, .int .u64 a2, .int .u64 b2, .bool even], .bool ((b1 : Int) != 0)])) W := by
  refine ⟨a1, b1, a2, b2, even, _, rfl, hW, fun h => ?_, hb⟩
  rw [bne_iff_ne] at h
  rcases hs with h1 | h1
  · exact absurd (by rw [h1]; rfl) h
  · exact ⟨h1, fun h2 => h (by rw [h2]; rfl)⟩

theorem below_drewN {B : Nat} {a w : World} (h : Below B a w) (n : Nat) : Below B a (w.drewN n) := ⟨h.os, h.tape, h.output, h.size, h.block⟩

set_option maxRecDepth 100000 in
set_option maxHeartbeats 2000000 in
theorem foresee_core (X Y : Nat) (va vb : Value) (w : World) (hle : Y ≤ X) (hXR : X < R64)
    (hlead : ∀ W : World, Below w.heap.size w W → Calls Tryz.prog 133 #[va, vb] W fun e w' => e = .returned (.tuple #[.int .u64 X, .int .u64 Y]) ∧ ∃ q, w' = W.drewN q) :
    Calls Tryz.prog 106 #[va, vb] w (Foreseen X Y w) := by
  have HL := Lib.hid hlead; clear hlead
  go_enter Tryz.func106, Tryz.ntmps106
  go_wp2_with fail
  refine (HL.out _ ((Below.refl _ _).alloc (Nat.le_refl _) _)).mono ?_
  rintro e w' ⟨rfl, q, rfl⟩
  go_wp2_with fail
  go_loopw [6, 7, 9, 10] (fun xv yv av bv wr => ∃ (x y a1 b1 a2 b2 a3 b3 : Nat) (even : Bool), xv = .int .u64 x ∧ yv = .int .u64 y ∧ av = .int .u64 a3 ∧ bv = .int .u64 b3 ∧ Lead X Y x y a2 b2 a3 b3 even ∧ (b2 = 0 ∨ 1 ≤ a3) ∧ (a1 < R64 ∧ b1 < R64 ∧ a2 < R64 ∧ b2 < R64 ∧ a3 < R64 ∧ b3 < R64) ∧
      (b1 = 0 ∨ Sure X Y a1 b1 a2 b2 even) ∧ Leap wr (w.heap.size + 1) a1 b1 a2 b2 even ∧ Leap wr w.heap.size 0 0 0 0 false ∧ Below w.heap.size w wr) (fun _ yv _ _ _ => (intOf yv).toNat)
  case atStart =>
    refine ⟨X, Y, 0, 0, 1, 0, 0, 1, true, rfl, rfl, rfl, rfl, Lead.first hle, .inl rfl, ⟨R64_pos, R64_pos, by rw [R64_eq]; omega, R64_pos, R64_pos, by rw [R64_eq]; omega⟩, .inl rfl, ?_, ?_, ?_⟩
    · constructor <;> simp [go_sem]
    · constructor <;> simp [go_sem]
    · exact (below_drewN ((Below.refl _ _).alloc (Nat.le_refl _) _) q).alloc (by simp) _
  case round =>
    obtain ⟨x, y, a1, b1, a2, b2, a3, b3, even, rfl, rfl, rfl, rfl, hl, ha3, hw, hs, hc, hr, hb⟩ := hrel
    have HLL := Lib.hid hl; have HA := Lib.hid ha3; have HW := Lib.hid hw; have HS := Lib.hid hs; have HB := Lib.hid hb; have HR := Lib.hid hr
    clear hl ha3 hw hs hb hr
    obtain ⟨c0, c1, c2, c3, c4, hz⟩ := hc
    have z0 := hz 0; have z1 := hz 1; have z2 := hz 2; have z3 := hz 3; have z4 := hz 4
    have HZ := Lib.hid hz; clear hz
    by_cases t1 : b3 ≤ y
    · have hy : 0 < y := by have := HLL.out.pos3; omega
      have xy := HLL.out.le
      have sx := HLL.out.sX
      have p3 := HLL.out.pos3
      have k1 : 1 * x ≤ b3 * x := Nat.mul_le_mul_right _ p3
      have sub : IntKind.u64.wrap ((x : Int) - y) = ((x - y : Nat) : Int) := by
        rw [show (x : Int) - y = ((x - y : Nat) : Int) from by omega]
        exact wrap_u64 _ (by omega)
      have sum : IntKind.u64.wrap ((b2 : Int) + b3) = ((b2 + b3 : Nat) : Int) := by
        rw [← Int.natCast_add]; refine wrap_u64 _ ?_
        have k2 : b2 * 1 ≤ b2 * y := Nat.mul_le_mul_left _ hy
        have k3 : b3 * 1 ≤ b3 * x := Nat.mul_le_mul_left _ (by omega)
        omega
      clear k1 sx
      generalize hD : x - y = d at sub
      generalize hE : b2 + b3 = e at sum
      have HD := Lib.hid hD; have HE := Lib.hid hE; clear hD hE
      by_cases t2 : e ≤ d
      · have hsm := HLL.out.small hy hXR hle
        have qa : IntKind.u64.wrap ((x : Int) / y) = ((x / y : Nat) : Int) := by
          exact_mod_cast wrap_u64 (x / y) (Nat.lt_of_le_of_lt (Nat.div_le_self _ _) (by have := HLL.out.sX; have k1 : 1 * x ≤ b3 * x := Nat.mul_le_mul_right _ p3; omega))
        have nx := HLL.out.next hy
        have na := HLL.out.a3_next hy
        have sr := HLL.out.sure HA.out t1 (by rw [HD.out, HE.out]; exact t2)
        have qm := Nat.mod_lt x hy
        generalize x / y = Q at *
        generalize hM : x % y = M at *
        have q3 : IntKind.u64.wrap ((Q : Int) * a3) = ((Q * a3 : Nat) : Int) := wrap_mul (by omega)
        have q4 : IntKind.u64.wrap ((Q : Int) * b3) = ((Q * b3 : Nat) : Int) := wrap_mul (by omega)
        have q5 : IntKind.u64.wrap ((a2 : Int) + (Q * a3 : Nat)) = ((a2 + Q * a3 : Nat) : Int) := wrap_add (by omega)
        have q6 : IntKind.u64.wrap ((b2 : Int) + (Q * b3 : Nat)) = ((b2 + Q * b3 : Nat) : Int) := wrap_add (by omega)
        generalize hA' : a2 + Q * a3 = A' at *
        generalize hB' : b2 + Q * b3 = B' at *
        generalize Q * a3 = C3 at *
        generalize Q * b3 = C4 at *
        clear hA' hB'
        have NX := Lib.hid nx; have NA := Lib.hid na; have SR := Lib.hid sr; have HM := Lib.hid hM; have HSM := Lib.hid hsm
        clear nx na sr hM hsm
        have mr : ((x : Int) % y) = (M : Int) := by rw [← HM.out]; norm_cast
        have hy0 : ¬ y = 0 := by omega
        have hyi : ¬ (y : Int) = 0 := by omega
        go_wp2_with fail
        go_quiet (fail)
        go_wp2_with fail
        go_roundw
        case rel =>
          have hw := HW.out
          have l1 : Leap wr (w.heap.size + 1) a1 b1 a2 b2 even := ⟨c0, c1, c2, c3, c4, HZ.out⟩
          have hsz : w.heap.size ≤ w.heap.size + 1 := Nat.le_succ _
          exact ⟨y, M, a2, b2, a3, b3, A', B', !even, rfl, by rw [mr], rfl, rfl, NX.out, .inr NA.out, ⟨hw.2.2.1, hw.2.2.2.1, hw.2.2.2.2.1, hw.2.2.2.2.2, HSM.out.1, HSM.out.2⟩, .inr SR.out, (((((l1.drewN nq).set0 a2).set2 a3).set1 b2).set3 b3).set4 (!even),
            (((((HR.out.drewN nq).other (by simp) _).other (by simp) _).other (by simp) _).other (by simp) _).other (by simp) _, (((((below_drewN HB.out nq).setCell hsz _).setCell hsz _).setCell hsz _).setCell hsz _).setCell hsz _⟩
        case measure => have := HM.out; simp [intOf]; omega
      · have t2' : ¬ (e : Int) ≤ d := by omega
        obtain ⟨r0, r1, r2, r3, r4, rz⟩ := HR.out
        have y0 := rz 0; have y1 := rz 1; have y2 := rz 2; have y3 := rz 3; have y4 := rz 4
        have RZ := Lib.hid rz; clear rz
        go_wp2_with fail
        go_region
        go_wp2_with fail
        have hw := HW.out
        have l1 : Leap wr w.heap.size 0 0 0 0 false := ⟨r0, r1, r2, r3, r4, RZ.out⟩
        have l2 := (((((l1.set0 a1).set1 b1).set2 a2).set3 b2).set4 even).drew
        have hb2 := ((((((HB.out.setCell (p := ⟨w.heap.size, 0, none⟩) (Nat.le_refl _) (.int .u64 a1)).setCell (p := ⟨w.heap.size, 1, none⟩) (Nat.le_refl _) (.int .u64 b1)).setCell (p := ⟨w.heap.size, 2, none⟩) (Nat.le_refl _) (.int .u64 a2)).setCell (p := ⟨w.heap.size, 3, none⟩) (Nat.le_refl _) (.int .u64 b2)).setCell (p := ⟨w.heap.size, 4, none⟩) (Nat.le_refl _) (.bool even)).drew)
        generalize (((((wr.setCell ⟨w.heap.size, 0, none⟩ (.int .u64 a1)).setCell ⟨w.heap.size, 1, none⟩ (.int .u64 b1)).setCell ⟨w.heap.size, 2, none⟩ (.int .u64 a2)).setCell ⟨w.heap.size, 3, none⟩ (.int .u64 b2)).setCell ⟨w.heap.size, 4, none⟩ (.bool even)).drew = W at *
        exact bodyPost_ret (v := .tuple #[.agg #[.int .u64 a1, .int .u64 b1, .int .u64 a2, .int .u64 b2, .bool even], .bool ((b1 : Int) != 0)]) (by simp [results, Tryz.results106, go_sem, l2.c0, l2.c1, l2.c2, l2.c3, l2.c4]) rfl (foreseen_end ⟨hw.1, hw.2.1, hw.2.2.1, hw.2.2.2.1⟩ HS.out hb2)
    · obtain ⟨r0, r1, r2, r3, r4, rz⟩ := HR.out
      have y0 := rz 0; have y1 := rz 1; have y2 := rz 2; have y3 := rz 3; have y4 := rz 4
      have RZ := Lib.hid rz; clear rz
      go_wp2_with fail
      go_region
      go_wp2_with fail
      have hw := HW.out
      have l1 : Leap wr w.heap.size 0 0 0 0 false := ⟨r0, r1, r2, r3, r4, RZ.out⟩
      have l2 := (((((l1.set0 a1).set1 b1).set2 a2).set3 b2).set4 even).drew
      have hb2 := ((((((HB.out.setCell (p := ⟨w.heap.size, 0, none⟩) (Nat.le_refl _) (.int .u64 a1)).setCell (p := ⟨w.heap.size, 1, none⟩) (Nat.le_refl _) (.int .u64 b1)).setCell (p := ⟨w.heap.size, 2, none⟩) (Nat.le_refl _) (.int .u64 a2)).setCell (p := ⟨w.heap.size, 3, none⟩) (Nat.le_refl _) (.int .u64 b2)).setCell (p := ⟨w.heap.size, 4, none⟩) (Nat.le_refl _) (.bool even)).drew)
      generalize (((((wr.setCell ⟨w.heap.size, 0, none⟩ (.int .u64 a1)).setCell ⟨w.heap.size, 1, none⟩ (.int .u64 b1)).setCell ⟨w.heap.size, 2, none⟩ (.int .u64 a2)).setCell ⟨w.heap.size, 3, none⟩ (.int .u64 b2)).setCell ⟨w.heap.size, 4, none⟩ (.bool even)).drew = W at *
      exact bodyPost_ret (v := .tuple #[.agg #[.int .u64 a1, .int .u64 b1, .int .u64 a2, .int .u64 b2, .bool even], .bool ((b1 : Int) != 0)]) (by simp [results, Tryz.results106, go_sem, l2.c0, l2.c1, l2.c2, l2.c3, l2.c4]) rfl (foreseen_end ⟨hw.1, hw.2.1, hw.2.2.1, hw.2.2.2.1⟩ HS.out hb2)
end Go.Proofs.YtkggfeemjabdeaaGreatDoor
end
section
namespace Go.Proofs.YtkggfeemjabdeaaGreatDoor
open Go.RowKit

/-- What shrink has done: the quotient lies where the number lay. -/
def Shrunk (n : Nat) (f : Nat → Nat) (b off cap m : Nat) (w : World) (e : Ending) (w' : World) : Prop :=
  ∃ (k r : Nat) (h : Nat → Nat), e = .returned (.tuple #[.slice (some ⟨b, off, none⟩) k cap, .int .u64 r]) ∧ r = val f n % m ∧ k ≤ n ∧ Nrm h k ∧ (∀ j, j < n → w'.cell? ⟨b, off + j, none⟩ = some (.int .u64 (h j))) ∧ val h k = val f n / m ∧ Wrote b off n w w'

set_option maxRecDepth 100000 in
set_option maxHeartbeats 1000000 in
theorem shrink_core (n m : Nat) (f : Nat → Nat) (b off cap : Nat) (hn : n ≤ cap) (hcap : cap ≤ maxLen) (w : World)
    (hf : ∀ i, i < n → w.cell? ⟨b, off + i, none⟩ = some (.int .u64 (f i))) (hz : ∀ i, i < n → w.frozen? ⟨b, off + i, none⟩ = false)
    (lf : ∀ i, i < n → f i < R64) (hm : m < R64) (h0 : 0 < m) :
    Calls Tryz.prog 84 #[.slice (some ⟨b, off, none⟩) n cap, .int .u64 m] w (Shrunk n f b off cap m w) := by
  unfold maxLen at hcap
  go_enter Tryz.func84, Tryz.ntmps84
  go_wp2
  go_loopw [6, 7] (fun lv iv wr => ∃ (k x : Nat) (h : Nat → Nat), k ≤ n ∧ iv = .int .i64 ((k : Int) - 1) ∧ lv = .int .u64 x ∧ x < m ∧ (∀ j, j < n → h j < R64) ∧ (∀ j, j < n → wr.cell? ⟨b, off + j, none⟩ = some (.int .u64 (h j))) ∧
      (∀ j, j < k → h j = f j) ∧ val f n = val f k + (x + m * val (fun j => h (k + j)) (n - k)) * R64 ^ k ∧ Wrote b off n w wr) (fun _ iv _ => (intOf iv + 1).toNat)
  case atStart => exact ⟨n, 0, f, Nat.le_refl _, rfl, rfl, h0, lf, hf, fun _ _ => rfl, by rw [Nat.sub_self]; simp [val], Wrote.refl _ _ _ _⟩
  case round =>
    obtain ⟨k, x, h, hk, rfl, rfl, hx, lh, hh, he, hv, hw⟩ := hrel
    have HE := Lib.hid he; have HV := Lib.hid hv; have HH := Lib.hid hh
    clear he hv hh
    cases k with
    | zero =>
      go_wp2_with fail
      refine (trim_some n h b off cap hn (by unfold maxLen; omega) wr HH.out).mono ?_
      rintro e w' ⟨rfl, rfl⟩
      go_wp2_with fail
      go_ret2
      have e1 := HV.out
      rw [Nat.sub_zero, Nat.pow_zero, Nat.mul_one] at e1
      have e2 : (fun j => h (0 + j)) = h := funext fun j => by rw [Nat.zero_add]
      rw [e2] at e1
      obtain ⟨e3, e4⟩ := div_end (show val f n = _ from by rw [e1]; simp [val]; rfl) hx
      exact ⟨tl h n, x, h, rfl, e3.symm, tl_le h n, tl_nrm lh, HH.out, by rw [val_tl, e4], hw⟩
    | succ k =>
      have h1 := HH.out k (by omega)
      have h2 := hz k (by omega)
      rw [← hw.froz] at h2
      rw [show ((k + 1 : Nat) : Int) - 1 = (k : Int) from by omega]
      have h3 := HE.out k (by omega)
      have lk := lf k (by omega)
      rw [h3] at h1
      clear h3
      go_wp2_with fail
      refine (div64_any x (f k) m lk hm hx _).mono ?_
      rintro e w' ⟨rfl, q, rfl⟩
      generalize hQ : (x * R64 + f k) / m = Q at *
      generalize hX : (x * R64 + f k) % m = X at *
      have HQ := Lib.hid hQ; have HX := Lib.hid hX; clear hQ hX
      go_wp2_with fail
      go_roundw
      case rel =>
        refine ⟨k, X, upd h k Q, by omega, rfl, rfl, by rw [← HX.out]; exact Nat.mod_lt _ h0, upd_lim lh (by rw [← HQ.out]; exact digit_lt hx lk), cells_set HH.out (by omega) _, fun j hj => by rw [upd_ne _ _ (by omega)]; exact HE.out j (by omega), ?_, ?_⟩
        · rw [← HX.out]; exact div_step (by omega) HV.out HQ.out.symm
        · exact (hw.setCell (by omega) _).drewN q
      case measure => simp [intOf]

theorem mul_lt_pow {X D k : Nat} (hX : X < R64) (hD : D < R64 ^ (k + 1)) : X * D < R64 ^ (k + 2) := by
  rw [show k + 2 = k + 1 + 1 from rfl, pow_succ_R]
  exact Nat.mul_lt_mul_of_lt_of_lt hX hD
theorem val_pos {g : Nat → Nat} {k : Nat} (h : 0 < g k) : 0 < val g (k + 1) := by
  show 0 < val g k + g k * R64 ^ k
  have := Nat.mul_pos h (Nat.pow_pos (n := k) R64_pos)
  omega

/-- What divideStep has done: the rest lies where the number lay. -/
def Stepped (n : Nat) (f g : Nat → Nat) (b off : Nat) (w : World) (e : Ending) (w' : World) : Prop :=
  ∃ (q : Nat) (h : Nat → Nat), e = .returned (.int .u64 q) ∧ q = val f (n + 1) / val g n ∧ (∀ j, j < n + 1 → h j < R64) ∧ (∀ j, j < n + 1 → w'.cell? ⟨b, off + j, none⟩ = some (.int .u64 (h j))) ∧ val h (n + 1) = val f (n + 1) % val g n ∧ Wrote b off (n + 1) w w'

set_option maxRecDepth 100000 in
set_option maxHeartbeats 1000000 in
theorem divideStep_core (k : Nat) (f g : Nat → Nat) (b off cap b' off' cap' : Nat) (hn : k + 2 ≤ maxLen) (w : World) (hb : b' ≠ b) (hb' : b' < w.heap.size)
    (hf : ∀ i, i < k + 2 → w.cell? ⟨b, off + i, none⟩ = some (.int .u64 (f i))) (hg : ∀ i, i < k + 1 → w.cell? ⟨b', off' + i, none⟩ = some (.int .u64 (g i)))
    (hz : ∀ i, i < k + 2 → w.frozen? ⟨b, off + i, none⟩ = false)
    (lf : ∀ i, i < k + 2 → f i < R64) (lg : ∀ i, i < k + 1 → g i < R64) (hy : 0 < g k) (hN : val f (k + 2) < val g (k + 1) * R64) :
    Calls Tryz.prog 87 #[.slice (some ⟨b, off, none⟩) (k + 2) cap, .slice (some ⟨b', off', none⟩) (k + 1) cap'] w (Stepped (k + 1) f g b off w) := by
  unfold maxLen at hn
  have c1 := hf (k + 1) (by omega)
  have c2 := hf k (by omega)
  have c3 := hg k (by omega)
  have HN := Lib.hid hN; clear hN
  have top := quot_top HN.out
  have est := quot_est (f := f) (g := g) (k := k) (fun i hi => lf i (by omega)) hy
  have HT := Lib.hid top; have HE := Lib.hid est; clear top est
  go_enter Tryz.func87, Tryz.ntmps87
  go_wp2_with fail
  go_quiet (fail)
  go_upto_if 20 with fail
  go_cut [6] (fun x wx => ∃ X : Nat, x = .int .u64 X ∧ X < R64 ∧ val f (k + 2) / val g (k + 1) ≤ X ∧ ∃ q, wx = w.drewN q)
  case first =>
    by_cases hlt : (f (k + 1) : Int) < g k
    · have hlt' : f (k + 1) < g k := by omega
      have lk := lg k (by omega)
      have lfk := lf k (by omega)
      go_wp2_with fail
      go_quiet ((go_at_call 126; exact quiet_add (div64_any _ _ _ lfk lk hlt' _)))
      go_wp2_with fail
      go_meet
      case rel => exact ⟨(f (k + 1) * R64 + f k) / g k, rfl, digit_lt hlt' lfk, HE.out, _, draws_draws w _ _⟩
    · go_wp2_with fail
      go_meet
      case rel => exact ⟨R64 - 1, rfl, by have := R64_pos; omega, HT.out, _, rfl⟩
  case rest =>
    obtain ⟨X, rfl, hX, hq, q, rfl⟩ := hcut
    have HQ := Lib.hid hq; clear hq
    go_wp2_with fail
    refine (lower_some (k + 2) (k + 1) X f g b off cap b' off' cap' (by unfold maxLen; omega) (w.drewN q) hb hb' hf hg hz lf lg hX).mono ?_
    rintro e w1 ⟨c, d, h, rfl, _, _, lh, hc, hv, hw⟩
    have hV := val_lt lh
    have ht := took_first (N := val f (k + 2)) (D := val g (k + 1)) (M := R64 ^ (k + 2)) (X := X) (V := val h (k + 2)) (e := c + d) (by rw [hv, val_cutf (by omega)]) hV HQ.out (mul_lt_pow hX (val_lt lg)) (val_pos hy)
    have HT2 := Lib.hid ht; have HC := Lib.hid hc; have LH := Lib.hid lh
    clear ht hc lh hv hV
    generalize decide (c + d ≠ 0) = bl at HT2
    go_wp2_with fail
    go_loopw [6, 7] (fun xv bv wr => ∃ (X : Nat) (bl : Bool) (h : Nat → Nat), xv = .int .u64 X ∧ X < R64 ∧ bv = .bool bl ∧ Took (val f (k + 2)) (val g (k + 1)) (R64 ^ (k + 2)) X (val h (k + 2)) bl ∧ (∀ j, j < k + 2 → h j < R64) ∧
      (∀ j, j < k + 2 → wr.cell? ⟨b, off + j, none⟩ = some (.int .u64 (h j))) ∧ Wrote b off (k + 2) w wr) (fun xv _ _ => (intOf xv).toNat)
    case atStart => exact ⟨X, bl, h, rfl, hX, rfl, HT2.out, LH.out, HC.out, ((Wrote.refl _ _ _ w).drewN q).trans hw⟩
    case round =>
      obtain ⟨X, bl, h, rfl, hX, rfl, ht, lh, hc, hw⟩ := hrel
      have HT2 := Lib.hid ht; have HC := Lib.hid hc; have LH := Lib.hid lh
      clear ht hc lh
      cases bl with
      | false =>
        go_wp2_with fail
        go_ret
        obtain ⟨a1, a2⟩ := took_end HT2.out
        exact ⟨X, h, rfl, a1, LH.out, HC.out, a2, hw⟩
      | true =>
        have hp := took_pos HT2.out (val_lt LH.out)
        have rX := wrap_pred hp hX
        generalize hZ : X - 1 = Z at rX
        have HZ := Lib.hid hZ; clear hZ
        go_wp2_with fail
        refine (raise_some (k + 2) (k + 1) h g b off cap b' off' cap' (by unfold maxLen; omega) wr hb (Nat.lt_of_lt_of_le hb' hw.grown.size) HC.out (fun i hi => by rw [hw.other hb' hb]; exact hg i hi) (fun i hi => by rw [hw.froz]; exact hz i hi) LH.out lg).mono ?_
        rintro e w2 ⟨c2, h2, rfl, hc1, lh2, hcc, hv2, hw2⟩
        have ht2 := took_next HT2.out (val_lt LH.out) (V' := val h2 (k + 2)) (c := c2) (by rw [← hv2, val_cutf (by omega)]) hc1
        rw [HZ.out] at ht2
        have HT3 := Lib.hid ht2; have HC2 := Lib.hid hcc; have LH2 := Lib.hid lh2
        clear ht2 hcc lh2 hv2
        go_wp2_with fail
        go_roundw
        case rel =>
          exact ⟨Z, _, h2, rfl, by have := HZ.out; omega, by by_cases h0 : c2 = 0 <;> simp [h0], HT3.out, LH2.out, HC2.out, hw.trans hw2⟩
        case measure => have := HZ.out; simp [intOf]; omega
end Go.Proofs.YtkggfeemjabdeaaGreatDoor
end
