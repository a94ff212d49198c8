/- positions: the bits of a frame's data with their positions. -/
import Derived.RangeFuncNested
import Derived.RangeFuncBound
import Derived.RangeFuncCalls
import Derived.RangeFuncLeaves
import Derived.Shelf.Abstract
import Derived.Shelf.RegionOpen
import Derived.WalkKit
import Derived.OwnWalkIn
import Derived.TacticsInMore
import Derived.LoopNIn
import Derived.LoopIn
import Derived.Test.YtoehcabplbljcaaGreatDoorRpPop
namespace Go.Proofs.YtoehcabplbljcaaGreatDoor
open Go.RowKit Go.Shelf
attribute [local go_sem] Oper.semAt_some

def posL : List Nat := (List.range 72).filter fun p => decide (1 ≤ p) && !checkP p
def posOf (b : Nat) : Nat := posL.getD b 0
def cntP (p : Nat) : Nat := ((List.range p).filter fun p => decide (1 ≤ p) && !checkP p).length
theorem pos_step : ∀ p : Fin 72, 1 ≤ p.val → (checkP p.val = true → cntP (p.val + 1) = cntP p.val) ∧ (checkP p.val = false → cntP (p.val + 1) = cntP p.val + 1 ∧ cntP p.val < 64 ∧ posOf (cntP p.val) = p.val) := by decide +kernel
theorem cnt_all : cntP 72 = 64 := by decide +kernel
theorem posOf_le : ∀ b : Fin 64, posOf b.val ≤ 71 := by decide +kernel

def encP (b : Fin 64) : Array Value := #[.int .i64 (b.val : Int), .int .i64 (posOf b.val : Int)]
def bitsTo (k : Nat) : List (Fin 64) := (List.finRange 64).take k
theorem bitsTo_snoc (k : Nat) (h : k < 64) : bitsTo (k + 1) = bitsTo k ++ [⟨k, h⟩] := by
  unfold bitsTo
  rw [List.take_succ_eq_append_getElem (by simpa using h)]
  simp
theorem bitsTo_length (k : Nat) (h : k ≤ 64) : (bitsTo k).length = k := by simp [bitsTo]; omega

theorem positions_any (w : World) : Calls Tryz.prog 74 #[] w fun e w' => e = .returned (.func (.func 114) #[] #[]) ∧ w = w' := by
  go_enter Tryz.func74, Tryz.ntmps74
  go_wp2
  go_ret
  exact ⟨rfl, rfl⟩

set_option maxRecDepth 100000 in
set_option maxHeartbeats 4000000 in
theorem positions_stops (n : Nat) (hn : 1 ≤ n) (Kp : World → World → Prop) (w : World) :
    SeqStopsK Fence.wide n Tryz.prog 114 #[] encP Kp (fun xs => xs = bitsTo 64) (fun pre => ∃ k, k < 64 ∧ pre = bitsTo (k + 1)) 64 w := fun l J Jx W _ _ _ hY h0 => by
  refine callsIn_of_wp Tryz.func114 rfl trivial ?_ rfl
  simp only [Tryz.ntmps114, List.size_toArray, List.length_cons, List.length_nil, Nat.reduceAdd, Nat.reduceSub, Array.replicate_succ, Array.replicate_zero, List.push_toArray, List.append_toArray, List.nil_append, List.cons_append]
  have HY := Lib.hid hY
  clear hY
  gi_wp2
  gi_loopw [2, 3] (fun bv pv wr => ∃ p : Nat, 1 ≤ p ∧ p ≤ 72 ∧ pv = .int .i64 p ∧ bv = .int .i64 (cntP p) ∧ J (bitsTo (cntP p)) wr) (fun _ pv _ => 72 - (intOf pv).toNat)
  case atStart => exact ⟨1, by omega, by omega, rfl, rfl, h0⟩
  case round =>
    obtain ⟨p, hp1, hp2, rfl, rfl, hJ⟩ := hrel
    obtain ⟨b, hb⟩ : ∃ b, b = cntP p := ⟨_, rfl⟩
    rw [← hb] at hJ ⊢
    have HJ := Lib.hid hJ; clear hJ
    by_cases hlt : p ≤ 71
    · obtain ⟨s1, s2⟩ := pos_step ⟨p, by omega⟩ hp1
      simp only at s1 s2
      rw [← hb] at s1 s2
      have hck := fun W => isCheck_any p (by omega) W
      cases hc : checkP p with
      | true =>
        rw [hc] at hck
        have HC := Lib.hid hck
        have HS := Lib.hid (s1 hc)
        clear s1 s2 hc hck hb
        gi_wp2_with (refine ⟨trivial, ?_⟩; gi_at_call 73; refine (callsIn_wide.2 (HC.out _)).mono ?_; rintro e w' ⟨rfl, rfl⟩)
        go_roundw
        case rel => exact ⟨p + 1, by omega, by omega, by go_num, by rw [HS.out], by rw [HS.out]; exact HJ.out⟩
        case measure => simp [intOf]; omega
      | false =>
        rw [hc] at hck
        have HC := Lib.hid hck
        obtain ⟨t1, t2, t3⟩ := s2 hc
        have HS := Lib.hid t1
        obtain ⟨fn, tmps, assign, body, hy, hR⟩ := HY.out (bitsTo b) ⟨b, t2⟩ wr HJ.out (by rw [bitsTo_length b (by omega)]; exact t2)
        rw [← bitsTo_snoc b t2] at hR
        have HR := Lib.hid hR
        unfold encP at hy
        simp only at hy
        rw [t3] at hy
        have T2 := Lib.hid t2
        clear s1 s2 hc hck hb t1 t3 hR
        gi_wp2_with (refine ⟨trivial, ?_⟩; gi_at_call 73; refine (callsIn_wide.2 (HC.out _)).mono ?_; rintro e w' ⟨rfl, rfl⟩)
        refine HR.out.mono ?_
        rintro e W3 (⟨rfl, hJ3, _⟩ | ⟨rfl, hJx3⟩)
        · have HJ3 := Lib.hid hJ3; clear hJ3
          gi_wp2
          go_roundw
          case rel => exact ⟨p + 1, by omega, by omega, by go_num, by rw [HS.out]; go_num, by rw [HS.out]; exact HJ3.out⟩
          case measure => simp [intOf]; omega
        · have HX3 := Lib.hid hJx3; clear hJx3
          gi_wp2
          refine bodyPost_ret (results_none rfl _ _ _) rfl ?_
          exact ⟨⟨_, rfl⟩, .inr ⟨_, ⟨b, T2.out, rfl⟩, HX3.out⟩⟩
    · obtain rfl : p = 72 := by omega
      have hb64 : b = 64 := by rw [hb]; exact cnt_all
      clear hb
      subst hb64
      gi_wp2
      go_end0
      exact ⟨⟨_, rfl⟩, .inl ⟨_, rfl, HJ.out⟩⟩
end Go.Proofs.YtoehcabplbljcaaGreatDoor
