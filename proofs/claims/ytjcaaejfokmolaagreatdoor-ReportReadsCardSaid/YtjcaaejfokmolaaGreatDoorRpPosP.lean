/- Several parts: positions: the bits of a frame's data with their positions. pointer: the exclusive or of the positions of all bits that are 1. -/
import Derived.RangeFuncNested
import Derived.RangeFuncBound
import Derived.RangeFuncCalls
import Derived.RangeFuncLeaves
import Derived.Shelf.Abstract
import Derived.Shelf.RegionOpen
import Derived.WalkKit
import Derived.OwnWalkIn
import Derived.TacticsInMore
import Derived.LoopNIn
import Derived.LoopIn
import Derived.Test.YtjcaaejfokmolaaGreatDoorRpPop
import Derived.Laws.ShiftsVar
/- positions: the bits of a frame's data with their positions. -/
namespace Go.Proofs.YtjcaaejfokmolaaGreatDoor
open Go.RowKit Go.Shelf
attribute [local go_sem] Oper.semAt_some

def posL : List Nat := (List.range 72).filter fun p => decide (1 ≤ p) && !checkP p
def posOf (b : Nat) : Nat := posL.getD b 0
def cntP (p : Nat) : Nat := ((List.range p).filter fun p => decide (1 ≤ p) && !checkP p).length
theorem pos_step : ∀ p : Fin 72, 1 ≤ p.val → (checkP p.val = true → cntP (p.val + 1) = cntP p.val) ∧ (checkP p.val = false → cntP (p.val + 1) = cntP p.val + 1 ∧ cntP p.val < 64 ∧ posOf (cntP p.val) = p.val) := by decide +kernel
theorem cnt_all : cntP 72 = 64 := by decide +kernel
theorem posOf_le : ∀ b : Fin 64, posOf b.val ≤ 71 := by decide +kernel

def encP (b : Fin 64) : Array Value := #[.int .i64 (b.val : Int), .int .i64 (posOf b.val : Int)]
def bitsTo (k : Nat) : List (Fin 64) := (List.finRange 64).take k
theorem bitsTo_snoc (k : Nat) (h : k < 64) : bitsTo (k + 1) = bitsTo k ++ [⟨k, h⟩] := by
  unfold bitsTo
  rw [List.take_succ_eq_append_getElem (by simpa using h)]
  simp
theorem bitsTo_length (k : Nat) (h : k ≤ 64) : (bitsTo k).length = k := by simp [bitsTo]; omega

theorem positions_any (w : World) : Calls Tryz.prog 73 #[] w fun e w' => e = .returned (.func (.func 103) #[] #[]) ∧ w = w' := by
  go_enter Tryz.func73, Tryz.ntmps73
  go_wp2
  go_ret
  exact ⟨rfl, rfl⟩

set_option maxRecDepth 100000 in
set_option maxHeartbeats 4000000 in
theorem positions_stops (n : Nat) (hn : 1 ≤ n) (Kp : World → World → Prop) (w : World) :
    SeqStopsK Fence.wide n Tryz.prog 103 #[] encP Kp (fun xs => xs = bitsTo 64) (fun pre => ∃ k, k < 64 ∧ pre = bitsTo (k + 1)) 64 w := fun l J Jx W _ _ _ hY h0 => by
  refine callsIn_of_wp Tryz.func103 rfl trivial ?_ rfl
  simp only [Tryz.ntmps103, List.size_toArray, List.length_cons, List.length_nil, Nat.reduceAdd, Nat.reduceSub, Array.replicate_succ, Array.replicate_zero, List.push_toArray, List.append_toArray, List.nil_append, List.cons_append]
  have HY := Lib.hid hY
  clear hY
  gi_wp2
  gi_loopw [2, 3] (fun bv pv wr => ∃ p : Nat, 1 ≤ p ∧ p ≤ 72 ∧ pv = .int .i64 p ∧ bv = .int .i64 (cntP p) ∧ J (bitsTo (cntP p)) wr) (fun _ pv _ => 72 - (intOf pv).toNat)
  case atStart => exact ⟨1, by omega, by omega, rfl, rfl, h0⟩
  case round =>
    obtain ⟨p, hp1, hp2, rfl, rfl, hJ⟩ := hrel
    obtain ⟨b, hb⟩ : ∃ b, b = cntP p := ⟨_, rfl⟩
    rw [← hb] at hJ ⊢
    have HJ := Lib.hid hJ; clear hJ
    by_cases hlt : p ≤ 71
    · obtain ⟨s1, s2⟩ := pos_step ⟨p, by omega⟩ hp1
      simp only at s1 s2
      rw [← hb] at s1 s2
      have hck := fun W => isCheck_any p (by omega) W
      cases hc : checkP p with
      | true =>
        rw [hc] at hck
        have HC := Lib.hid hck
        have HS := Lib.hid (s1 hc)
        clear s1 s2 hc hck hb
        gi_wp2_with (refine ⟨trivial, ?_⟩; gi_at_call 72; refine (callsIn_wide.2 (HC.out _)).mono ?_; rintro e w' ⟨rfl, rfl⟩)
        go_roundw
        case rel => exact ⟨p + 1, by omega, by omega, by go_num, by rw [HS.out], by rw [HS.out]; exact HJ.out⟩
        case measure => simp [intOf]; omega
      | false =>
        rw [hc] at hck
        have HC := Lib.hid hck
        obtain ⟨t1, t2, t3⟩ := s2 hc
        have HS := Lib.hid t1
        obtain ⟨fn, tmps, assign, body, hy, hR⟩ := HY.out (bitsTo b) ⟨b, t2⟩ wr HJ.out (by rw [bitsTo_length b (by omega)]; exact t2)
        rw [← bitsTo_snoc b t2] at hR
        have HR := Lib.hid hR
        unfold encP at hy
        simp only at hy
        rw [t3] at hy
        have T2 := Lib.hid t2
        clear s1 s2 hc hck hb t1 t3 hR
        gi_wp2_with (refine ⟨trivial, ?_⟩; gi_at_call 72; refine (callsIn_wide.2 (HC.out _)).mono ?_; rintro e w' ⟨rfl, rfl⟩)
        refine HR.out.mono ?_
        rintro e W3 (⟨rfl, hJ3, _⟩ | ⟨rfl, hJx3⟩)
        · have HJ3 := Lib.hid hJ3; clear hJ3
          gi_wp2
          go_roundw
          case rel => exact ⟨p + 1, by omega, by omega, by go_num, by rw [HS.out]; go_num, by rw [HS.out]; exact HJ3.out⟩
          case measure => simp [intOf]; omega
        · have HX3 := Lib.hid hJx3; clear hJx3
          gi_wp2
          refine bodyPost_ret (results_none rfl _ _ _) rfl ?_
          exact ⟨⟨_, rfl⟩, .inr ⟨_, ⟨b, T2.out, rfl⟩, HX3.out⟩⟩
    · obtain rfl : p = 72 := by omega
      have hb64 : b = 64 := by rw [hb]; exact cnt_all
      clear hb
      subst hb64
      gi_wp2
      go_end0
      exact ⟨⟨_, rfl⟩, .inl ⟨_, rfl, HJ.out⟩⟩
end Go.Proofs.YtjcaaejfokmolaaGreatDoor
/- pointer: the exclusive or of the positions of all bits that are 1. -/
namespace Go.Proofs.YtjcaaejfokmolaaGreatDoor
open Go.RowKit Go.Shelf
attribute [local go_sem] Oper.semAt_some

def xorL (d : Nat) (l : List (Fin 64)) : Nat := l.foldl (fun s b => if d.testBit b.val then s ^^^ posOf b.val else s) 0
def syndL (d c : Nat) (l : List (Fin 64)) : Nat := l.foldl (fun s b => if d.testBit b.val then s ^^^ posOf b.val else s) (c % 128)
/-- what the frame's positions give. -/
def synd (d c : Nat) : Nat := syndL d c (bitsTo 64)
theorem syndL_snoc (d c : Nat) (l : List (Fin 64)) (b : Fin 64) : syndL d c (l ++ [b]) = if d.testBit b.val then syndL d c l ^^^ posOf b.val else syndL d c l := by
  unfold syndL; rw [List.foldl_append]; rfl
theorem syndL_lt (d c : Nat) : ∀ l, syndL d c l < 128 := by
  intro l
  unfold syndL
  have : ∀ (l : List (Fin 64)) (s : Nat), s < 128 → l.foldl (fun s b => if d.testBit b.val then s ^^^ posOf b.val else s) s < 128 := by
    intro l
    induction l with
    | nil => intro s h; exact h
    | cons b r ih =>
      intro s h
      refine ih _ ?_
      show (if d.testBit b.val = true then s ^^^ posOf b.val else s) < 128
      split
      · exact Nat.xor_lt_two_pow (n := 7) h (by have := posOf_le b; omega)
      · exact h
  exact this l _ (Nat.mod_lt _ (by omega))

theorem xor_i64 (a b : Nat) (ha : a < 4611686018427387904) (hb : b < 4611686018427387904) : bits .xor .i64 (a : Int) (b : Int) = ((a ^^^ b : Nat) : Int) := by
  have hx : a ^^^ b < 2 ^ 62 := Nat.xor_lt_two_pow (by omega) (by omega)
  have h1 : (BitVec.ofInt 64 (a : Int)).toNat = a := by
    rw [BitVec.ofInt_natCast, BitVec.toNat_ofNat]; exact Nat.mod_eq_of_lt (by omega)
  have h2 : (BitVec.ofInt 64 (b : Int)).toNat = b := by
    rw [BitVec.ofInt_natCast, BitVec.toNat_ofNat]; exact Nat.mod_eq_of_lt (by omega)
  show IntKind.i64.wrap ((BitVec.ofInt 64 (a : Int) ^^^ BitVec.ofInt 64 (b : Int)).toNat : Int) = _
  rw [BitVec.toNat_xor, h1, h2, IntKind.wrap_i64]
  omega
theorem and_u64 (a b : Nat) (ha : a < 18446744073709551616) (hb : b < 18446744073709551616) : bits .and .u64 (a : Int) (b : Int) = ((a &&& b : Nat) : Int) := by
  have hx : a &&& b < 2 ^ 64 := Nat.and_lt_two_pow _ (by omega)
  have h1 : (BitVec.ofInt 64 (a : Int)).toNat = a := by
    rw [BitVec.ofInt_natCast, BitVec.toNat_ofNat]; exact Nat.mod_eq_of_lt (by omega)
  have h2 : (BitVec.ofInt 64 (b : Int)).toNat = b := by
    rw [BitVec.ofInt_natCast, BitVec.toNat_ofNat]; exact Nat.mod_eq_of_lt (by omega)
  show IntKind.u64.wrap ((BitVec.ofInt 64 (a : Int) &&& BitVec.ofInt 64 (b : Int)).toNat : Int) = _
  rw [BitVec.toNat_and, h1, h2, IntKind.wrap_u64]
  omega
theorem bit_of (d x : Nat) (hd : d < 18446744073709551616) : (bits .and .u64 ((d : Int) / 2 ^ x) 1 == 1) = d.testBit x := by
  have e : ((d : Int) / 2 ^ x) = ((d / 2 ^ x : Nat) : Int) := by rw [Int.natCast_ediv]; norm_cast
  rw [e, show (1 : Int) = ((1 : Nat) : Int) from rfl, and_u64 _ _ (Nat.lt_of_le_of_lt (Nat.div_le_self _ _) hd) (by omega), Nat.testBit_eq_decide_div_mod_eq, Nat.and_one_is_mod]
  rw [Bool.eq_iff_iff, beq_iff_eq, decide_eq_true_eq]
  omega

theorem andNot_small : ∀ n : Fin 256, bits .andNot .u8 (n.val : Int) 128 = ((n.val % 128 : Nat) : Int) := by decide +kernel

set_option maxRecDepth 100000 in
set_option maxHeartbeats 4000000 in
theorem pointer_in (d c : Nat) (hd : d < 18446744073709551616) (hc : c < 256) (w : World) :
    CallsIn Fence.wide 3 Tryz.prog 69 #[.agg #[.int .u64 d, .int .u8 c]] w fun e w' => e = .returned (.int .i64 (synd d c)) ∧ Below w.heap.size w w' := by
  have e0 : bits .andNot .u8 (c : Int) 128 = ((c % 128 : Nat) : Int) := andNot_small ⟨c, hc⟩
  obtain ⟨c7, hc7⟩ : ∃ c7, c7 = c % 128 := ⟨_, rfl⟩
  rw [← hc7] at e0
  have h7 : c7 < 128 := by rw [hc7]; exact Nat.mod_lt _ (by omega)
  have HC7 := Lib.hid hc7; clear hc7
  refine callsIn_of_wp_marks Tryz.func69 rfl trivial ?_ rfl
  simp only [Tryz.ntmps69, List.size_toArray, List.length_cons, List.length_nil, Nat.reduceAdd, Nat.reduceSub, Array.replicate_succ, Array.replicate_zero, List.push_toArray, List.append_toArray, List.nil_append, List.cons_append]
  gi_wp2_with (refine ⟨trivial, ?_⟩; gi_at_call 73; refine (callsIn_wide.2 (positions_any _)).mono ?_; rintro e w' ⟨rfl, rfl⟩)
  refine wpIn_rangeFunc_ownF rfl (by omega) (gf := 103) (lb := #[]) rfl trivial (enters_of Tryz.func103 (by kernel_rfl) rfl)
    (positions_stops (3 - 1) (by omega) (Below w.heap.size) _) belowK_t (belowK_b (by simp; omega)) (Below.refl _ _) (fun _ => rfl)
    (fun pre W => (W.cell? ⟨w.heap.size + 1, 0, none⟩ = some (.int .i64 (syndL d c pre)) ∧ W.frozen? ⟨w.heap.size + 1, 0, none⟩ = false ∧ W.cell? ⟨w.heap.size, 0, none⟩ = some (.int .u64 d)) ∧ Below w.heap.size w W)
    (fun _ _ _ => False)
    (OwnFrom.and (Own.from (fun s A B row hs hg hr => ⟨cell_kept hs.1 hg hr, (frozen_kept hs.1 hg hr).trans hs.2.1, cell_kept hs.2.2 hg hr⟩) _) (ownFrom_below (Nat.le_refl _) (by simp; omega)))
    (fun _ => Own.from (fun _ _ _ _ hs _ _ => hs) _)
    ⟨⟨?i1, ?i2, ?i3⟩, ((Below.refl _ _).alloc (Nat.le_refl _) _).alloc (by simp) _⟩
    (fun x => { tmps := #[.agg #[.int .u64 d, .int .u8 c], .pointer (some ⟨w.heap.size, 0, none⟩), .int .i64 0, .pointer (some ⟨w.heap.size + 1, 0, none⟩), .int .i64 (x.val : Int), .int .i64 (posOf x.val : Int), .pointer (some ⟨w.heap.size, 1, none⟩), .int .u8 c, .int .u8 c7, .int .i64 c7, .func (.func 103) #[] #[], .int .i64 (x.val : Int), .int .i64 (posOf x.val : Int), undef, undef, undef, undef, undef, undef, undef, undef, undef, undef], defers := [] }) ?assign ?body ?done ?stop
  case i1 => rw [show syndL d c [] = c7 from HC7.out.symm]; simp
  case i2 => simp
  case i3 => simp
  case assign =>
    intro l x W K hK
    simp only [encP]
    gi_wp2
    exact hK
  case stop =>
    rintro D c pre W _ _ h _
    exact h.elim
  case done =>
    rintro D ys W hD rfl ⟨⟨h1, h2, h3⟩, hb⟩ hK
    have HBe := Lib.hid hb
    clear hb h3
    gi_wp2
    refine ⟨by simp, .inl ⟨_, _, rfl, run_takeDeferred hK, ?_⟩⟩
    exact ⟨_, results_tmp rfl _ _ _, rfl, HBe.out.trans (belowK_b (w := w) (Nat.le_refl _) W D _ _ (by simp at hD; omega) hK rfl rfl)⟩
  case body =>
    rintro l pre x W ⟨⟨h1, h2, h3⟩, hb⟩ hlen
    have HBe := Lib.hid hb
    clear hb
    have hx := x.2
    have hbit := bit_of d x.val hd
    have hxor := xor_i64 (syndL d c pre) (posOf x.val) (by have := syndL_lt d c pre; omega) (by have := posOf_le x; omega)
    have HXOR := Lib.hid hxor; clear hxor
    cases ht : d.testBit x.val with
    | true =>
      rw [ht] at hbit
      have HS : Hid (syndL d c (pre ++ [x]) = syndL d c pre ^^^ posOf x.val) := Lib.hid (by rw [syndL_snoc, ht]; rfl)
      clear ht
      gi_wp2
      rw [HXOR.out, ← HS.out]
      exact ⟨KeepsOthers.setCell _ _ _, (Below.refl _ _).setCell (p := ⟨w.heap.size + 1, 0, none⟩) (by simp) _, ⟨World.cell?_setCell_same _ _ _ h1, by rw [World.frozen?_setCell]; exact h2, (World.cell?_setCell_other W ⟨w.heap.size + 1, 0, none⟩ ⟨w.heap.size, 0, none⟩ _ (by intro e; injection e with e; omega)).trans h3⟩, HBe.out.setCell (p := ⟨w.heap.size + 1, 0, none⟩) (by simp) _⟩
    | false =>
      rw [ht] at hbit
      have HS : Hid (syndL d c (pre ++ [x]) = syndL d c pre) := Lib.hid (by rw [syndL_snoc, ht]; rfl)
      clear ht
      gi_wp2
      refine ⟨KeepsOthers.refl _, Below.refl _ _, ⟨?_, h2, h3⟩, HBe.out⟩
      rw [HS.out]; exact h1

theorem pointer_any (d c : Nat) (hd : d < 18446744073709551616) (hc : c < 256) (w : World) :
    Calls Tryz.prog 69 #[.agg #[.int .u64 d, .int .u8 c]] w fun e w' => e = .returned (.int .i64 (synd d c)) ∧ Below w.heap.size w w' :=
  callsIn_wide.1 (pointer_in d c hd hc w)
end Go.Proofs.YtjcaaejfokmolaaGreatDoor
