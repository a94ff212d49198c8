/- The document's bits of a frame. -/
import Derived.Test.YtjkjjolalbdhkaaGreatDoorRpFlip
import Derived.Test.YtjkjjolalbdhkaaGreatDoorRpRefIn
namespace Go.Proofs.YtjkjjolalbdhkaaGreatDoor
open Go.RowKit

def bitCells (l : List (Bool × Nat × Nat)) : List Value := l.flatMap fun b => [.bool b.1, .int .i64 b.2.1, .int .i64 b.2.2]
theorem bitCells_snoc (l : List (Bool × Nat × Nat)) (b : Bool × Nat × Nat) : bitCells (l ++ [b]) = bitCells l ++ [.bool b.1, .int .i64 b.2.1, .int .i64 b.2.2] := by simp [bitCells]
theorem bitCells_at (l : List (Bool × Nat × Nat)) (i : Nat) (b) (h : l[i]? = some b) : (bitCells l)[i * 3]? = some (.bool b.1) ∧ (bitCells l)[i * 3 + 1]? = some (.int .i64 b.2.1) ∧ (bitCells l)[i * 3 + 2]? = some (.int .i64 b.2.2) := by
  induction l generalizing i with
  | nil => simp at h
  | cons a r ih =>
    have e : bitCells (a :: r) = .bool a.1 :: .int .i64 a.2.1 :: .int .i64 a.2.2 :: bitCells r := by simp [bitCells]
    cases i with
    | zero => simp at h; subst h; simp [bitCells]
    | succ i =>
      have := ih i (by simpa using h)
      rw [e, show (i + 1) * 3 = i * 3 + 1 + 1 + 1 by omega]
      simpa using this

theorem infoBit : (Tryz.prog.info? 49).map (fun i => (i.zero, i.size, i.bytes)) = some (some (.agg #[.bool false, .int .i64 0, .int .i64 0]), 3, 24) := by kernel_rfl
theorem three_new (W : World) (x y z : Value) (T : TypeId) : ∀ j u, [x, y, z][j]? = some u → (W.alloc (.cells #[x, y, z] T)).cell? ((⟨W.heap.size, 0, none⟩ : Addr).add j) = some u := by
  intro j u h
  rw [addr_add]
  match j, h with
  | 0, h => simp at h; subst h; simp
  | 1, h => simp at h; subst h; simp
  | 2, h => simp at h; subst h; simp

/-- the bits of the positions before p. -/
def bitsL (p : Nat) : List (Bool × Nat × Nat) := (List.range (p - 1)).map fun i => entryB (i + 1)
theorem bitsL_len (p : Nat) : (bitsL p).length = p - 1 := by simp [bitsL]
theorem bitsL_snoc (p : Nat) (h : 1 ≤ p) : bitsL (p + 1) = bitsL p ++ [entryB p] := by
  obtain ⟨q, rfl⟩ : ∃ q, p = q + 1 := ⟨p - 1, by omega⟩
  unfold bitsL
  rw [show q + 1 + 1 - 1 = q + 1 by omega, List.range_succ, List.map_append]
  rfl
theorem bitT_eq : bitT = bitsL 72 ++ [(true, 7, 0)] := rfl
/-- a position's bit is laid once the powers below k have been tried. -/
def laidB (p k : Nat) : Bool := checkP p && decide (Nat.log2 p < k)
def partBits (p k : Nat) : List (Bool × Nat × Nat) := bitsL p ++ if laidB p k then [entryB p] else []
theorem pow_hit : ∀ (p : Fin 72) (k : Fin 7), 1 ≤ p.val → (2 ^ k.val = p.val → laidB p.val k.val = false ∧ laidB p.val (k.val + 1) = true ∧ entryB p.val = (true, k.val, p.val)) ∧ (2 ^ k.val ≠ p.val → laidB p.val (k.val + 1) = laidB p.val k.val) := by decide +kernel
theorem laid_none (p : Nat) : laidB p 0 = false := by unfold laidB; simp
theorem laid_all : ∀ p : Fin 72, 1 ≤ p.val → laidB p.val 7 = checkP p.val := by decide +kernel
theorem pow_i64 (k : Nat) (h : k < 7) : wrap64 (2 ^ k) = ((2 ^ k : Nat) : Int) := by
  have : (2 : Nat) ^ k < 2 ^ 7 := Nat.pow_lt_pow_right (by omega) h
  have e : ((2 : Int) ^ k) = ((2 ^ k : Nat) : Int) := by norm_cast
  rw [e]
  generalize 2 ^ k = y at this
  unfold wrap64
  omega

theorem below_own {a b c : World} {N : Nat} {r : Option Nat} (h : Below N a b) (hN : N ≤ b.heap.size) (k : b.grownBy c r) (hr : ∀ j, r = some j → N ≤ j) : Below N a c :=
  ⟨k.os.trans h.os, k.tape.trans h.tape, k.output.trans h.output, Nat.le_trans h.size k.size, fun i hi => (k.block i (Nat.lt_of_lt_of_le hi hN) (by intro e; have := hr i e.symm; omega)).trans (h.block i hi)⟩

/-- a list of bits of one's own. -/
structure BitRow (w : World) (N : Nat) (v : Value) (l : List (Bool × Nat × Nat)) : Prop where
  own : w.ownsRow N 49 3 v l.length (bitCells l)
theorem BitRow.put {w2 w3 : World} {N : Nat} {v v' : Value} {l : List (Bool × Nat × Nat)} {b : Bool × Nat × Nat} {o : Obj} {w : World} (h : BitRow w2 N v l) (hown : w3.ownsRow N 49 3 v' (l.length + 1) (bitCells l ++ [.bool b.1, .int .i64 b.2.1, .int .i64 b.2.2])) (hb : Below N w w2) (hN : N ≤ w2.heap.size) (hgrow : (w2.alloc o).grownBy w3 v.ownBlock) :
    BitRow w3 N v' (l ++ [b]) ∧ Below N w w3 ∧ N ≤ w3.heap.size :=
  ⟨⟨by rw [bitCells_snoc, List.length_append]; exact hown⟩, below_own (hb.alloc hN o) (by simp; omega) hgrow (fun j hj => (h.own.lt j hj).1), Nat.le_trans hN (Nat.le_trans (by simp) hgrow.size)⟩

set_option maxRecDepth 100000 in
set_option maxHeartbeats 4000000 in
theorem refBits_any (w : World) : Calls Tryz.prog 19 #[] w fun e w' => ∃ v, e = .returned v ∧ BitRow w' w.heap.size v bitT ∧ Below w.heap.size w w' := by
  obtain ⟨i0, hi, hz0, hz1, hz2⟩ := info_parts infoBit
  obtain ⟨N, hN⟩ : ∃ N, N = w.heap.size := ⟨_, rfl⟩
  rw [← hN]
  have HN := Lib.hid hN; clear hN
  go_enter Tryz.func19, Tryz.ntmps19
  go_wp2
  go_loopw [1, 2, 3] (fun ov nv pv wr => ∃ (p : Nat) (v : Value), 1 ≤ p ∧ p ≤ 72 ∧ pv = .int .i64 p ∧ nv = .int .i64 (cntP p) ∧ ov = v ∧ Hid (BitRow wr N v (bitsL p) ∧ Below N w wr ∧ N ≤ wr.heap.size)) (fun _ _ pv _ => 72 - (intOf pv).toNat)
  case atStart => exact ⟨1, _, by omega, by omega, rfl, rfl, rfl, Lib.hid ⟨⟨World.ownsRow_nil _ _ _ _⟩, Below.refl _ _, Nat.le_of_eq HN.out⟩⟩
  case round =>
    obtain ⟨p, v, hp1, hp2, rfl, rfl, rfl, HI⟩ := hrel
    obtain ⟨c, hc⟩ : ∃ c, c = cntP p := ⟨_, rfl⟩
    rw [← hc]
    have HC := Lib.hid hc; clear hc
    by_cases hlt : p ≤ 71
    · go_wp2
      go_loopw [1, 4, 5] (fun ov qv kv ww => ∃ (k : Nat) (v : Value) (b : Bool), k ≤ 7 ∧ kv = .int .i64 k ∧ qv = .bool b ∧ ov = v ∧ Hid (b = laidB p k ∧ BitRow ww N v (partBits p k) ∧ Below N w ww ∧ N ≤ ww.heap.size)) (fun _ _ kv _ => 7 - (intOf kv).toNat)
      case atStart => exact ⟨0, _, _, by omega, rfl, rfl, rfl, Lib.hid ⟨(laid_none p).symm, by unfold partBits; rw [laid_none]; simpa using HI.out.1, HI.out.2⟩⟩
      case round =>
        obtain ⟨k, v, b, hk, rfl, rfl, rfl, HK⟩ := hrel
        by_cases hk7 : k < 7
        · have hk6 : k = 0 ∨ k = 1 ∨ k = 2 ∨ k = 3 ∨ k = 4 ∨ k = 5 ∨ k = 6 := by omega
          obtain ⟨f1, f2⟩ := pow_hit ⟨p, by omega⟩ ⟨k, hk7⟩ hp1
          simp only at f1 f2
          obtain ⟨A, cap, hwv⟩ := own_shape HK.out.2.1.own
          subst hwv
          have hlen : (partBits p k).length ≤ 72 := by unfold partBits; rw [List.length_append, bitsL_len]; split <;> simp <;> omega
          obtain ⟨q, hq⟩ : ∃ q, q = 2 ^ k := ⟨_, rfl⟩
          rw [← hq] at f1 f2
          have HP := Lib.hid hp1; have HB := Lib.hid HK.out.1
          clear hp1
          by_cases hit : q = p
          · obtain ⟨g1, g2, g3⟩ := f1 hit
            obtain rfl : b = false := HB.out.trans g1
            have HL : Hid (partBits p (k + 1) = partBits p k ++ [(true, k, p)]) := Lib.hid (by unfold partBits; rw [g1, g2, g3]; simp)
            have HL2 : Hid (true = laidB p (k + 1)) := Lib.hid g2.symm
            subst hit
            generalize partBits q k = l at HK hlen HL ⊢
            have HLEN := Lib.hid hlen
            clear f1 f2 g1 g2 g3 hlen HB
            rcases hk6 with rfl | rfl | rfl | rfl | rfl | rfl | rfl
            all_goals
              simp only [Nat.reducePow] at hq
              subst hq
              go_wp2_with (at_builtin; refine wpList_append_own _ rfl _ _ 45 rfl N 49 i0 (.agg #[.bool false, .int .i64 0, .int .i64 0]) 3 24 Tryz.underlying45 hi hz0 hz1 hz2 rfl (by decide) (.slice A l.length cap) l.length (bitCells l) rfl (HK.out.2.1.own.alloc _) ⟨wr.heap.size, 0, none⟩ 1 1 [.bool true, .int .i64 _, .int .i64 _] rfl rfl (three_new _ _ _ _ _) ?c2 ?c3 ?c4 ?c5 ?_)
              case c2 => first | exact ⟨rfl, rfl, rfl⟩ | (intro u hu; simp at hu; rcases hu with rfl | rfl | rfl <;> rfl)
              case c3 => have := HLEN.out; unfold maxLen; omega
              case c4 => have := HLEN.out; omega
              case c5 => have := HK.out.2.2.2; simp; omega
              intro v' w3 hown' hgrow _
              obtain ⟨r1, r2, r3⟩ := BitRow.put (b := (true, _, _)) HK.out.2.1 hown' HK.out.2.2.1 HK.out.2.2.2 hgrow
              have R := Lib.hid (And.intro r1 (And.intro r2 r3))
              clear hown' hgrow r1 r2 r3
              go_wp2
              go_roundw
              case rel => exact ⟨_, _, _, ⟨_, by omega, rfl, _, .inr ⟨rfl, rfl, Lib.hid ⟨HL2.out.symm, by rw [HL.out]; exact R.out.1, R.out.2⟩⟩⟩, rfl, rfl, rfl⟩
              case measure => (first | (simp [intOf]; done) | (simp [intOf]; omega))
          · have g := f2 hit
            have hne : ((p : Int) == (q : Int)) = false := beq_eq_false_iff_ne.2 (by omega)
            have HL : Hid (partBits p (k + 1) = partBits p k ∧ b = laidB p (k + 1)) := Lib.hid ⟨by unfold partBits; rw [g], by rw [g]; exact HB.out⟩
            have HNE := Lib.hid hne
            clear f1 f2 g hlen HB hit hne
            rcases hk6 with rfl | rfl | rfl | rfl | rfl | rfl | rfl
            all_goals
              simp only [Nat.reducePow] at hq
              subst hq
              have hne : ((p : Int) == _) = false := HNE.out
              go_wp2
              go_roundw
              case rel => exact ⟨_, _, _, by omega, by go_num, rfl, rfl, Lib.hid ⟨HL.out.2, by rw [HL.out.1]; exact HK.out.2.1, HK.out.2.2⟩⟩
              case measure => (first | (simp [intOf]; done) | (simp [intOf]; omega))
        · obtain rfl : k = 7 := by omega
          have h7 : laidB p 7 = checkP p := laid_all ⟨p, by omega⟩ hp1
          have hpos := pos_step ⟨p, by omega⟩ hp1
          simp only at hpos
          rw [← HC.out] at hpos
          obtain ⟨p1, p2⟩ := hpos
          have hb := HK.out.1
          rw [h7] at hb
          cases hck : checkP p with
          | true =>
            rw [hck] at hb
            subst hb
            have HE : Hid (partBits p 7 = bitsL (p + 1) ∧ c = cntP (p + 1)) := Lib.hid ⟨by unfold partBits; rw [h7, hck, bitsL_snoc p hp1]; simp, (p1 hck).symm⟩
            clear p1 p2 h7 hck hk7
            go_wp2
            go_roundw
            case rel => exact ⟨p + 1, _, by omega, by omega, by go_num, by rw [HE.out.2], rfl, Lib.hid ⟨by rw [← HE.out.1]; exact HK.out.2.1, HK.out.2.2⟩⟩
            case measure => simp [intOf]; omega
          | false =>
            rw [hck] at hb
            subst hb
            obtain ⟨q1, q2, q3⟩ := p2 hck
            obtain ⟨A, cap, hwv⟩ := own_shape HK.out.2.1.own
            subst hwv
            have hlen : (partBits p 7).length ≤ 72 := by unfold partBits; rw [List.length_append, bitsL_len]; split <;> simp <;> omega
            have HE : Hid (partBits p 7 ++ [(false, c, p)] = bitsL (p + 1) ∧ c + 1 = cntP (p + 1)) := Lib.hid ⟨by unfold partBits; rw [h7, hck, bitsL_snoc p hp1]; unfold entryB; rw [hck, HC.out]; simp, q1.symm⟩
            generalize partBits p 7 = l at HK hlen HE ⊢
            have HLEN := Lib.hid hlen
            have hc64 : c < 64 := q2
            clear p1 p2 h7 hck hk7 q1 q2 q3 hlen
            go_wp2_with (at_builtin; refine wpList_append_own _ rfl _ _ 45 rfl N 49 i0 (.agg #[.bool false, .int .i64 0, .int .i64 0]) 3 24 Tryz.underlying45 hi hz0 hz1 hz2 rfl (by decide) (.slice A l.length cap) l.length (bitCells l) rfl (HK.out.2.1.own.alloc _) ⟨wr.heap.size, 0, none⟩ 1 1 [.bool false, .int .i64 c, .int .i64 p] rfl rfl (three_new _ _ _ _ _) ?c2 ?c3 ?c4 ?c5 ?_)
            case c2 => first | exact ⟨rfl, rfl, rfl⟩ | (intro u hu; simp at hu; rcases hu with rfl | rfl | rfl <;> rfl)
            case c3 => have := HLEN.out; unfold maxLen; omega
            case c4 => have := HLEN.out; omega
            case c5 => have := HK.out.2.2.2; simp; omega
            intro v' w3 hown' hgrow _
            obtain ⟨r1, r2, r3⟩ := BitRow.put (b := (false, c, p)) HK.out.2.1 hown' HK.out.2.2.1 HK.out.2.2.2 hgrow
            have R := Lib.hid (And.intro r1 (And.intro r2 r3))
            clear hown' hgrow r1 r2 r3
            go_wp2
            go_roundw
            case rel => exact ⟨p + 1, _, by omega, by omega, by go_num, by rw [← HE.out.2]; go_num, rfl, Lib.hid ⟨by rw [← HE.out.1]; exact R.out.1, R.out.2⟩⟩
            case measure => simp [intOf]; omega
    · obtain rfl : p = 72 := by omega
      obtain ⟨A, cap, hwv⟩ := own_shape HI.out.1.own
      subst hwv
      have hlen : (bitsL 72).length = 71 := bitsL_len 72
      have HE : Hid (bitsL 72 ++ [(true, 7, 0)] = bitT) := Lib.hid bitT_eq.symm
      generalize bitsL 72 = l at HI hlen HE ⊢
      have HLEN := Lib.hid hlen
      clear hlen hlt
      go_wp2_with (at_builtin; refine wpList_append_own _ rfl _ _ 45 rfl N 49 i0 (.agg #[.bool false, .int .i64 0, .int .i64 0]) 3 24 Tryz.underlying45 hi hz0 hz1 hz2 rfl (by decide) (.slice A l.length cap) l.length (bitCells l) rfl (HI.out.1.own.alloc _) ⟨wr.heap.size, 0, none⟩ 1 1 [.bool true, .int .i64 7, .int .i64 0] rfl rfl (three_new _ _ _ _ _) ?c2 ?c3 ?c4 ?c5 ?_)
      case c2 => first | exact ⟨rfl, rfl, rfl⟩ | (intro u hu; simp at hu; rcases hu with rfl | rfl | rfl <;> rfl)
      case c3 => have := HLEN.out; unfold maxLen; omega
      case c4 => have := HLEN.out; omega
      case c5 => have := HI.out.2.2; simp; omega
      intro v' w3 hown' hgrow _
      obtain ⟨r1, r2, r3⟩ := BitRow.put (b := (true, 7, 0)) HI.out.1 hown' HI.out.2.1 HI.out.2.2 hgrow
      have R := Lib.hid (And.intro r1 (And.intro r2 r3))
      clear hown' hgrow r1 r2 r3
      go_wp2
      go_ret
      exact ⟨_, rfl, by rw [← HE.out]; exact R.out.1, R.out.2.1⟩
end Go.Proofs.YtjkjjolalbdhkaaGreatDoor
