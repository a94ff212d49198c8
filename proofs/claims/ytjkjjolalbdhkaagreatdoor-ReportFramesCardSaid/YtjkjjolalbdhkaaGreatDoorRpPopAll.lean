/- OnesCount64: the number of the bits that are 1, byte by byte; how it changes when a bit is turned. -/
import Derived.Test.YtjkjjolalbdhkaaGreatDoorRpPointer
namespace Go.Proofs.YtjkjjolalbdhkaaGreatDoor
open Go.RowKit

def fA (m x : Nat) : Nat := (x / 2 &&& m) + (x &&& m)
def fB (m x : Nat) : Nat := (x / 4 &&& m) + (x &&& m)
def fC (m x : Nat) : Nat := (x / 16 + x) &&& m

theorem land_step (a c b d : Nat) (ha : a < 256) (hb : b < 256) : (a + 256 * c) &&& (b + 256 * d) = (a &&& b) + 256 * (c &&& d) := by
  have h1 : ((a + 256 * c) &&& (b + 256 * d)) % 2 ^ 8 = a &&& b := by
    rw [Nat.and_mod_two_pow, show (a + 256 * c) % 2 ^ 8 = a by omega, show (b + 256 * d) % 2 ^ 8 = b by omega]
  have h2 : ((a + 256 * c) &&& (b + 256 * d)) / 2 ^ 8 = c &&& d := by
    rw [← Nat.shiftRight_eq_div_pow, Nat.shiftRight_and_distrib, Nat.shiftRight_eq_div_pow, Nat.shiftRight_eq_div_pow, show (a + 256 * c) / 2 ^ 8 = c by omega, show (b + 256 * d) / 2 ^ 8 = d by omega]
  omega
theorem lowA : ∀ (b : Fin 256) (p : Fin 2), (b.val / 2 + 128 * p.val) &&& 85 = b.val / 2 &&& 85 := by decide +kernel
theorem lowB : ∀ (b : Fin 256) (p : Fin 4), (b.val / 4 + 64 * p.val) &&& 51 = b.val / 4 &&& 51 := by decide +kernel
theorem fA_step (b y m : Nat) (hb : b < 256) : fA (85 + 256 * m) (b + 256 * y) = fA 85 b + 256 * fA m y := by
  unfold fA
  have e : (b + 256 * y) / 2 = (b / 2 + 128 * (y % 2)) + 256 * (y / 2) := by omega
  rw [e, land_step _ _ _ _ (by omega) (by omega), land_step _ _ _ _ hb (by omega), show (b / 2 + 128 * (y % 2)) &&& 85 = b / 2 &&& 85 from lowA ⟨b, hb⟩ ⟨y % 2, by omega⟩]
  omega
theorem fB_step (b y m : Nat) (hb : b < 256) : fB (51 + 256 * m) (b + 256 * y) = fB 51 b + 256 * fB m y := by
  unfold fB
  have e : (b + 256 * y) / 4 = (b / 4 + 64 * (y % 4)) + 256 * (y / 4) := by omega
  rw [e, land_step _ _ _ _ (by omega) (by omega), land_step _ _ _ _ hb (by omega), show (b / 4 + 64 * (y % 4)) &&& 51 = b / 4 &&& 51 from lowB ⟨b, hb⟩ ⟨y % 4, by omega⟩]
  omega
theorem fC_step (b y m : Nat) (hb : b ≤ 68) (hy : y % 16 ≤ 4) : fC (15 + 256 * m) (b + 256 * y) = fC 15 b + 256 * fC m y := by
  unfold fC
  have e : (b + 256 * y) / 16 + (b + 256 * y) = (b / 16 + 16 * (y % 16) + b) + 256 * (y / 16 + y) := by omega
  rw [e, land_step _ _ _ _ (by omega) (by omega)]
  have l1 := Nat.and_two_pow_sub_one_eq_mod (b / 16 + 16 * (y % 16) + b) 4
  have l2 := Nat.and_two_pow_sub_one_eq_mod (b / 16 + b) 4
  simp only [Nat.reducePow, Nat.reduceSub] at l1 l2
  rw [l1, l2]
  omega
theorem byteA : ∀ b : Fin 256, fA 85 b.val < 256 := by decide +kernel
theorem byteB : ∀ b : Fin 256, fB 51 (fA 85 b.val) ≤ 68 ∧ fB 51 (fA 85 b.val) % 16 ≤ 4 := by decide +kernel
theorem byteC : ∀ b : Fin 256, fC 15 (fB 51 (fA 85 b.val)) = Lib.onesCount b.val := by decide +kernel

/-- bytes, the lowest first. -/
def ofBytes : List Nat → Nat
  | [] => 0
  | b :: r => b + 256 * ofBytes r
def masks (m : Nat) : Nat → Nat
  | 0 => 0
  | n + 1 => m + 256 * masks m n
theorem fA_bytes : ∀ l : List Nat, (∀ b ∈ l, b < 256) → fA (masks 85 l.length) (ofBytes l) = ofBytes (l.map (fA 85)) := by
  intro l
  induction l with
  | nil => intro _; rfl
  | cons b r ih =>
    intro h
    show fA (85 + 256 * masks 85 r.length) (b + 256 * ofBytes r) = fA 85 b + 256 * ofBytes (r.map (fA 85))
    rw [fA_step _ _ _ (h b (by simp)), ih (fun x hx => h x (by simp [hx]))]
theorem fB_bytes : ∀ l : List Nat, (∀ b ∈ l, b < 256) → fB (masks 51 l.length) (ofBytes l) = ofBytes (l.map (fB 51)) := by
  intro l
  induction l with
  | nil => intro _; rfl
  | cons b r ih =>
    intro h
    show fB (51 + 256 * masks 51 r.length) (b + 256 * ofBytes r) = fB 51 b + 256 * ofBytes (r.map (fB 51))
    rw [fB_step _ _ _ (h b (by simp)), ih (fun x hx => h x (by simp [hx]))]
theorem fC_bytes : ∀ l : List Nat, (∀ b ∈ l, b ≤ 68 ∧ b % 16 ≤ 4) → fC (masks 15 l.length) (ofBytes l) = ofBytes (l.map (fC 15)) := by
  intro l
  induction l with
  | nil => intro _; rfl
  | cons b r ih =>
    intro h
    show fC (15 + 256 * masks 15 r.length) (b + 256 * ofBytes r) = fC 15 b + 256 * ofBytes (r.map (fC 15))
    have hr : ofBytes r % 16 ≤ 4 := by
      cases r with
      | nil => simp [ofBytes]
      | cons x q =>
        have := (h x (by simp)).2
        show (x + 256 * ofBytes q) % 16 ≤ 4
        omega
    rw [fC_step _ _ _ (h b (by simp)).1 hr, ih (fun x hx => h x (by simp [hx]))]

/-- the bytes of a word. -/
def byteN (x i : Nat) : Nat := x / 256 ^ i % 256
def bytes8 (x : Nat) : List Nat := [byteN x 0, byteN x 1, byteN x 2, byteN x 3, byteN x 4, byteN x 5, byteN x 6, byteN x 7]
theorem bytes8_eq (x : Nat) (hx : x < 18446744073709551616) : ofBytes (bytes8 x) = x := by
  simp only [bytes8, ofBytes, byteN, Nat.reducePow]
  omega
theorem bytes8_lt (x : Nat) : ∀ b ∈ bytes8 x, b < 256 := by
  intro b hb
  simp only [bytes8, List.mem_cons, List.not_mem_nil, or_false] at hb
  rcases hb with rfl | rfl | rfl | rfl | rfl | rfl | rfl | rfl <;> exact Nat.mod_lt _ (by omega)
/-- how many bits of a word are 1. -/
def popN (x : Nat) : Nat := Lib.onesCount (byteN x 0) + Lib.onesCount (byteN x 1) + Lib.onesCount (byteN x 2) + Lib.onesCount (byteN x 3) + Lib.onesCount (byteN x 4) + Lib.onesCount (byteN x 5) + Lib.onesCount (byteN x 6) + Lib.onesCount (byteN x 7)

/-- the sum of two masked words. -/
theorem mask_sum (u v m : Nat) (hu : u < 18446744073709551616) (hv : v < 18446744073709551616) (hm : m < 9223372036854775808) :
    IntKind.u64.wrap (bits .and .u64 (u : Int) (m : Int) + bits .and .u64 (v : Int) (m : Int)) = (((u &&& m) + (v &&& m) : Nat) : Int) ∧ (u &&& m) + (v &&& m) ≤ 2 * m := by
  have l1 := @Nat.and_le_right u m
  have l2 := @Nat.and_le_right v m
  rw [and_u64 _ _ hu (by omega), and_u64 _ _ hv (by omega), IntKind.wrap_u64]
  generalize u &&& m = p at *
  generalize v &&& m = q at *
  omega
theorem swA_eq (x : Nat) (hx : x < 18446744073709551616) : swA (x : Int) = (fA 6148914691236517205 x : Nat) ∧ fA 6148914691236517205 x < 18446744073709551616 := by
  have h := mask_sum (x / 2) x 6148914691236517205 (by omega) hx (by omega)
  have e : ((x : Int) / 2) = ((x / 2 : Nat) : Int) := by omega
  refine ⟨?_, Nat.lt_of_le_of_lt h.2 (by omega)⟩
  unfold swA
  rw [e]
  exact h.1
theorem swB_eq (x : Nat) (hx : x < 18446744073709551616) : swB (x : Int) = (fB 3689348814741910323 x : Nat) ∧ fB 3689348814741910323 x < 9223372036854775808 := by
  have h := mask_sum (x / 4) x 3689348814741910323 (by omega) hx (by omega)
  have e : ((x : Int) / 4) = ((x / 4 : Nat) : Int) := by omega
  refine ⟨?_, Nat.lt_of_le_of_lt h.2 (by omega)⟩
  unfold swB
  rw [e]
  exact h.1
theorem swC_eq (x : Nat) (hx : x < 9223372036854775808) : swC (x : Int) = (fC 1085102592571150095 x : Nat) := by
  have e : IntKind.u64.wrap ((x : Int) / 16 + x) = ((x / 16 + x : Nat) : Int) := by rw [IntKind.wrap_u64]; omega
  unfold swC
  rw [e]
  exact and_u64 (x / 16 + x) 1085102592571150095 (by omega) (by omega)

theorem map_three (f g h k : Nat → Nat) (l : List Nat) (hk : ∀ b ∈ l, h (g (f b)) = k b) : ((l.map f).map g).map h = l.map k := by
  induction l with
  | nil => rfl
  | cons d r ih =>
    rw [List.map_cons, List.map_cons, List.map_cons, List.map_cons, hk d (List.mem_cons_self ..), ih (fun y hy => hk y (List.mem_cons_of_mem _ hy))]
theorem byteC' (b : Nat) (h : b < 256) : fC 15 (fB 51 (fA 85 b)) = Lib.onesCount b := byteC ⟨b, h⟩
theorem bytes_pop (l : List Nat) (hb : ∀ b ∈ l, b < 256) : ((l.map (fA 85)).map (fB 51)).map (fC 15) = l.map Lib.onesCount :=
  map_three (fA 85) (fB 51) (fC 15) Lib.onesCount l fun b h => byteC' b (hb b h)
theorem swABC (l : List Nat) (hl : l.length = 8) (hb : ∀ b ∈ l, b < 256) (x : Nat) (he : ofBytes l = x) (hx : x < 18446744073709551616) : swC (swB (swA x)) = (ofBytes (l.map Lib.onesCount) : Nat) := by
  have m85 : masks 85 8 = 6148914691236517205 := by decide +kernel
  have m51 : masks 51 8 = 3689348814741910323 := by decide +kernel
  have m15 : masks 15 8 = 1085102592571150095 := by decide +kernel
  obtain ⟨hA, la⟩ := swA_eq x hx
  have e1 := fA_bytes l hb
  rw [he, hl, m85] at e1
  have hA8 : ∀ b ∈ l.map (fA 85), b < 256 := by
    intro b h
    obtain ⟨c, hc, rfl⟩ := List.mem_map.1 h
    exact byteA ⟨c, hb c hc⟩
  rw [hA]
  generalize fA 6148914691236517205 x = a at e1 la ⊢
  obtain ⟨hB, lb⟩ := swB_eq a la
  have e2 := fB_bytes (l.map (fA 85)) hA8
  rw [← e1, List.length_map, hl, m51] at e2
  rw [hB]
  generalize fB 3689348814741910323 a = b at e2 lb ⊢
  have hB8 : ∀ b ∈ (l.map (fA 85)).map (fB 51), b ≤ 68 ∧ b % 16 ≤ 4 := by
    intro b h
    obtain ⟨c, hc, rfl⟩ := List.mem_map.1 h
    obtain ⟨d, hd, rfl⟩ := List.mem_map.1 hc
    exact byteB ⟨d, hb d hd⟩
  have e3 := fC_bytes ((l.map (fA 85)).map (fB 51)) hB8
  rw [← e2, List.length_map, List.length_map, hl, m15] at e3
  rw [swC_eq b lb, e3, bytes_pop l hb]

theorem and127 (x : Int) : bits .and .i64 x 127 = x % 128 := by
  show IntKind.i64.wrap ((BitVec.ofInt 64 x &&& BitVec.ofInt 64 127).toNat : Int) = _
  have e : (BitVec.ofInt 64 x).toNat = (x % 18446744073709551616).toNat := by rw [BitVec.toNat_ofInt]; rfl
  rw [BitVec.toNat_and, e, show (BitVec.ofInt 64 127).toNat = 2 ^ 7 - 1 from by decide, Nat.and_two_pow_sub_one_eq_mod, IntKind.wrap_i64]
  omega

theorem shr (x r q k : Nat) (h : x = r + k * q) (hr : r < k) : x / k = q := by
  subst h
  rw [Nat.add_mul_div_left _ _ (by omega), Nat.div_eq_of_lt hr, Nat.zero_add]
theorem swD_eq (x : Nat) : swD (x : Int) = ((x + x / 256) % 18446744073709551616 : Nat) := by
  unfold swD; rw [IntKind.wrap_u64]; omega
theorem swE_eq (x : Nat) : swE (x : Int) = ((x + x / 65536) % 18446744073709551616 : Nat) := by
  unfold swE; rw [IntKind.wrap_u64]; omega
theorem swF_eq (x : Nat) : swF (x : Int) = ((x + x / 4294967296) % 18446744073709551616 : Nat) := by
  unfold swF; rw [IntKind.wrap_u64]; omega
theorem wrap_low (n s q : Nat) (h : n = s + 128 * q) (hs : s < 128) : wrap64 (n : Int) % 128 = (s : Int) := by
  unfold wrap64; omega
theorem stepD (c0 c1 c2 c3 c4 c5 c6 c7 : Nat) (l0 : c0 ≤ 8) (l1 : c1 ≤ 8) (l2 : c2 ≤ 8) (l3 : c3 ≤ 8) (l4 : c4 ≤ 8) (l5 : c5 ≤ 8) (l6 : c6 ≤ 8) (l7 : c7 ≤ 8) :
    swD ((c0 + 256 * (c1 + 256 * (c2 + 256 * (c3 + 256 * (c4 + 256 * (c5 + 256 * (c6 + 256 * (c7 + 256 * 0))))))) : Nat) : Int) = (((c0 + c1) + 256 * (c1 + c2)) + 65536 * ((c2 + c3) + 256 * (c3 + c4) + 65536 * (c4 + c5) + 16777216 * (c5 + c6) + 4294967296 * (c6 + c7) + 1099511627776 * c7) : Nat) := by
  have q1 := shr (c0 + 256 * (c1 + 256 * (c2 + 256 * (c3 + 256 * (c4 + 256 * (c5 + 256 * (c6 + 256 * (c7 + 256 * 0)))))))) c0 _ 256 rfl (by omega)
  rw [swD_eq, q1]
  congr 1
  rw [Nat.mod_eq_of_lt (by omega)]
  omega
theorem stepE (u v : Nat) (hu : u < 65536) (hv : 65536 * v + v + u < 18446744073709551616) : swE ((u + 65536 * v : Nat) : Int) = (u + 65536 * v + v : Nat) := by
  have q1 := shr (u + 65536 * v) u v 65536 rfl hu
  rw [swE_eq, q1, Nat.mod_eq_of_lt (by omega)]
theorem stepF (u v : Nat) (hu : u < 4294967296) (hv : 4294967296 * v + v + u < 18446744073709551616) : swF ((u + 4294967296 * v : Nat) : Int) = (u + 4294967296 * v + v : Nat) := by
  have q1 := shr (u + 4294967296 * v) u v 4294967296 rfl hu
  rw [swF_eq, q1, Nat.mod_eq_of_lt (by omega)]
theorem swDEF (c0 c1 c2 c3 c4 c5 c6 c7 : Nat) (l0 : c0 ≤ 8) (l1 : c1 ≤ 8) (l2 : c2 ≤ 8) (l3 : c3 ≤ 8) (l4 : c4 ≤ 8) (l5 : c5 ≤ 8) (l6 : c6 ≤ 8) (l7 : c7 ≤ 8) :
    wrap64 (swF (swE (swD ((c0 + 256 * (c1 + 256 * (c2 + 256 * (c3 + 256 * (c4 + 256 * (c5 + 256 * (c6 + 256 * (c7 + 256 * 0))))))) : Nat) : Int)))) % 128 = ((c0 + c1 + c2 + c3 + c4 + c5 + c6 + c7 : Nat) : Int) := by
  rw [stepD c0 c1 c2 c3 c4 c5 c6 c7 l0 l1 l2 l3 l4 l5 l6 l7, stepE _ _ (by omega) (by omega)]
  have e : (c0 + c1) + 256 * (c1 + c2) + 65536 * ((c2 + c3) + 256 * (c3 + c4) + 65536 * (c4 + c5) + 16777216 * (c5 + c6) + 4294967296 * (c6 + c7) + 1099511627776 * c7) + ((c2 + c3) + 256 * (c3 + c4) + 65536 * (c4 + c5) + 16777216 * (c5 + c6) + 4294967296 * (c6 + c7) + 1099511627776 * c7) = ((c0 + c1 + c2 + c3) + 256 * (c1 + c2 + c3 + c4) + 65536 * (c2 + c3 + c4 + c5) + 16777216 * (c3 + c4 + c5 + c6)) + 4294967296 * ((c4 + c5 + c6 + c7) + 256 * (c5 + c6 + c7) + 65536 * (c6 + c7) + 16777216 * c7) := by omega
  rw [e, stepF _ _ (by omega) (by omega)]
  refine wrap_low _ (c0 + c1 + c2 + c3 + c4 + c5 + c6 + c7) (2 * (c1 + c2 + c3 + c4) + 512 * (c2 + c3 + c4 + c5) + 131072 * (c3 + c4 + c5 + c6) + 33554432 * ((c4 + c5 + c6 + c7) + 256 * (c5 + c6 + c7) + 65536 * (c6 + c7) + 16777216 * c7) + (2 * (c5 + c6 + c7) + 512 * (c6 + c7) + 131072 * c7)) ?_ (by omega)
  omega

theorem swar_all (x : Nat) (hx : x < 18446744073709551616) : swar (x : Int) = (popN x : Nat) := by
  unfold swar
  rw [swABC (bytes8 x) rfl (bytes8_lt x) x (bytes8_eq x hx) hx, and127]
  have l : ∀ i, Lib.onesCount (byteN x i) ≤ 8 := fun i => Lib.onesCount_le8 ⟨byteN x i, Nat.mod_lt _ (by omega)⟩
  exact swDEF _ _ _ _ _ _ _ _ (l 0) (l 1) (l 2) (l 3) (l 4) (l 5) (l 6) (l 7)
end Go.Proofs.YtjkjjolalbdhkaaGreatDoor
