/- Contract of the function that groups returns. 'for group, room := range groups(s)': a body that always goes on. -/
import Derived.RangeFuncNested
import Derived.RangeFuncBound
import Derived.RangeFuncCalls
import Derived.RangeFuncLeaves
import Derived.Shelf.Abstract
import Derived.Shelf.RegionOpen
import Derived.WalkKit
import Derived.OwnWalkIn
import Derived.TacticsInMore
import Derived.LoopNIn
import Derived.LoopIn
import Derived.Test.YtkggfeemjabdeaaGreatDoorPa24
section
namespace Go.Proofs.YtkggfeemjabdeaaGreatDoor
open Go.RowKit Go.Shelf
attribute [local go_sem] Oper.semAt_some

/-- the number of the bytes from i on, k of them. -/
def dv (s : ByteArray) (i : Nat) : Nat → Nat
  | 0 => 0
  | k + 1 => dv s i k * 10 + ((s.get! (i + k)).toNat - 48)
theorem dv_lt (s : ByteArray) (i : Nat) : ∀ k, (∀ j, j < k → (s.get! (i + j)).toNat ≤ 57) → dv s i k < 10 ^ k
  | 0, _ => by simp [dv]
  | k + 1, h => by
    have h1 := dv_lt s i k fun j hj => h j (by omega)
    have h2 := h k (by omega)
    rw [Nat.pow_succ]; unfold dv; omega

set_option maxRecDepth 100000 in
set_option maxHeartbeats 2000000 in
theorem groups1_in (F : Fence) (n : Nat) (hf : F.fn 109) (hro : F.round = none) (hn : 1 ≤ n) (l C : Nat) (s : ByteArray) (hs : s.size ≤ 2000) (hd : ∀ j, j < s.size → Dig (s.get! j)) (J : Nat → World → Prop)
    (hset : ∀ i W u, J i W → J i (W.setCell ⟨C, 0, none⟩ u)) (hfz : ∀ i W, J i W → W.frozen? ⟨C, 0, none⟩ = false)
    (hten : ∀ i W, J i W → ∀ j, j ≤ 18 → W.cell? ⟨0, j, none⟩ = some (.int .u64 ((10 ^ j : Nat) : Int)))
    (hY : ∀ i W k, J i W → i < s.size → k = min (s.size - i) 18 → YieldAt F (n - 1) Tryz.prog l #[.int .u64 (dv s i k : Nat), .int .u64 ((10 ^ k : Nat) : Int)] W fun e W' =>
      e = .returned (.bool true) ∧ J (i + k) W' ∧ W'.cell? ⟨C, 0, none⟩ = W.cell? ⟨C, 0, none⟩)
    (W : World) (hC : W.cell? ⟨C, 0, none⟩ = some (.string s)) (h0 : J 0 W) :
    CallsIn F n Tryz.prog 109 #[.func (.yield l) #[] #[], .pointer (some ⟨C, 0, none⟩)] W fun e W' => (∃ v, e = .returned v) ∧ J s.size W' := by
  refine callsIn_of_wp Tryz.func109 rfl hf ?_ hro
  simp only [Tryz.ntmps109, List.size_toArray, List.length_cons, List.length_nil, Nat.reduceAdd, Nat.reduceSub, Array.replicate_succ, Array.replicate_zero, List.push_toArray, List.append_toArray, List.nil_append, List.cons_append]
  have HSET := Lib.hid hset; have HFZ := Lib.hid hfz; have HTEN := Lib.hid hten; have HY := Lib.hid hY
  clear hset hfz hten hY
  gi_wp2
  gi_loopw [3] (fun _ wr => ∃ (i : Nat) (t : ByteArray), i ≤ s.size ∧ t.size = s.size - i ∧ (∀ j (h : j < t.size), t[j] = s.get! (i + j)) ∧ wr.cell? ⟨C, 0, none⟩ = some (.string t) ∧ J i wr)
    (fun _ wr => match wr.cell? ⟨C, 0, none⟩ with | some (.string t) => t.size | _ => 0)
  case atStart => exact ⟨0, s, by omega, by omega, fun j h => by rw [Nat.zero_add]; exact (getElem!_pos s.data j h).symm, hC, h0⟩
  case round =>
    obtain ⟨i, t, hi, ht, hb, hc, hJ⟩ := hrel
    have HB := Lib.hid hb; have HJ := Lib.hid hJ; clear hb hJ
    have hts : t.size ≤ 2000 := by omega
    rcases Nat.eq_zero_or_pos t.size with h0 | h0
    · have em := empty_of t h0
      obtain ⟨q, hq⟩ : ∃ b, t.toList.isEmpty = b := ⟨_, rfl⟩
      rw [hq] at em; subst em
      gi_wp2
      go_end0
      refine ⟨⟨_, rfl⟩, ?_⟩
      have := HJ.out
      rwa [show i = s.size from by omega] at this
    · have em := nonempty_of t h0
      obtain ⟨q, hq⟩ : ∃ b, t.toList.isEmpty = b := ⟨_, rfl⟩
      rw [hq] at em; subst em
      gi_wp2
      obtain ⟨k, hk⟩ : ∃ k, k = min (s.size - i) 18 := ⟨_, rfl⟩
      have hmin : min ((s.size - i : Nat) : Int) 18 = (k : Int) := by omega
      have hk18 : k ≤ 18 := by omega
      have hkt : k ≤ t.size := by omega
      rw [hmin]
      have HK := Lib.hid hk; have HT := Lib.hid ht
      have his : i < s.size := by omega
      clear hk hmin ht
      gi_loopw [4, 12] (fun g q wr' => ∃ j : Nat, j ≤ k ∧ q = .int .i64 (j : Int) ∧ g = .int .u64 (dv s i j : Nat) ∧ wr' = wr) (fun _ q _ => k - (intOf q).toNat)
      case atStart => exact ⟨0, by omega, rfl, rfl, rfl⟩
      case round =>
        obtain ⟨j, hj, rfl, rfl, rfl⟩ := hrel

        by_cases hlt : j < k
        · have hjs : i + j < s.size := by have := HT.out; omega
          have b1 : t[j] = s.get! (i + j) := HB.out j (by omega)
          have hdg := hd (i + j) (by omega)
          rw [← b1] at hdg
          have hdv := dv_lt s i j fun j' hj' => by have := (hd (i + j') (by omega)).2; omega
          have hp : 10 ^ j ≤ 10 ^ 17 := Nat.pow_le_pow_right (by decide) (by omega)
          obtain ⟨g, hg⟩ : ∃ g, dv s i j = g := ⟨_, rfl⟩
          have hg17 : g < 100000000000000000 := by omega
          rw [hg]
          obtain ⟨hd1, hd2⟩ := hdg
          gi_wp2
          refine ⟨⟨j + 1, by omega, by simp, ?_, trivial⟩, by simp [intOf]; omega⟩
          congr 1
          unfold dv
          rw [hg]
          rw [b1] at hd1 hd2
          omega
        · have hjk : j = k := by omega
          subst hjk
          have hc2 := HTEN.out i wr HJ.out j hk18
          obtain ⟨fn, tmps, assign, body, hy, hR⟩ := HY.out i wr j HJ.out his HK.out
          have HR := Lib.hid hR; clear hR
          generalize hp10 : 10 ^ j = p10 at *
          generalize hdv : dv s i j = vg at *
          gi_wp2
          refine HR.out.mono ?_
          rintro e W3 ⟨rfl, hJ3, hc3⟩
          have hc4 := hc3.trans hc
          have hz := HFZ.out _ W3 hJ3
          gi_wp2
          have hcn : (W3.setCell ⟨C, 0, none⟩ (.string (t.extract j t.size))).cell? ⟨C, 0, none⟩ = some (.string (t.extract j t.size)) := World.cell?_setCell_same _ _ _ hc4
          have hj0 : 0 < j ∧ j ≤ s.size - i := by have := HK.out; omega
          have htt := HT.out
          go_roundw
          case rel =>
            refine ⟨i + j, t.extract j t.size, by omega, by rw [ByteArray.size_extract]; omega, fun q hq => ?_, hcn, HSET.out _ _ _ hJ3⟩
            rw [ByteArray.size_extract] at hq
            rw [ByteArray.getElem_extract, HB.out (j + q) (by omega), Nat.add_assoc]
          case measure =>
            rw [hcn, hc]
            show (t.extract j t.size).size < t.size
            rw [ByteArray.size_extract]; omega
end Go.Proofs.YtkggfeemjabdeaaGreatDoor
end
section
namespace Go.Proofs.YtkggfeemjabdeaaGreatDoor
open Go.RowKit Go.Shelf
attribute [local go_sem] Oper.semAt_some

/-- the three blocks that the body leaves alone. -/
def Leaves (C D : Nat) (W W' : World) : Prop := ∀ b, b = C ∨ b = D ∨ b = D + 1 → W'.heap[b]? = W.heap[b]?

set_option maxHeartbeats 1000000 in
theorem range_groups {F : Fence} {n : Nat} {g : Operand} {ps : Array Tmp} {assign body : Code} {Q : Exit → Act → World → Prop} {a : Act} {w : World} (hro : F.round = none) (h1 : 2 ≤ n) (C : Nat) (s : ByteArray)
    (hC : w.cell? ⟨C, 0, none⟩ = some (.string s)) (hz : w.frozen? ⟨C, 0, none⟩ = false) (hg : a.eval g = .func (.func 109) #[] #[.pointer (some ⟨C, 0, none⟩)]) (hf : F.fn 109)
    (hs : s.size ≤ 2000) (hd : ∀ j, j < s.size → Dig (s.get! j)) (hps : ps.size = 2) (I : Nat → World → Prop)
    (hI : ∀ i W W' r, I i W → W.grownBy W' (some r) → (r = C ∨ r = w.heap.size ∨ r = w.heap.size + 1) → I i W')
    (hten : ∀ i W, I i W → ∀ j, j ≤ 18 → W.cell? ⟨0, j, none⟩ = some (.int .u64 ((10 ^ j : Nat) : Int))) (h0 : I 0 w) (a₁ : Nat → Nat → Act)
    (hassign : ∀ (l x y : Nat) (W : World) (K : Act → World → Prop), K (a₁ x y) W →
      assign.wpIn (F.inRound l) (n - 1 - 1) Tryz.prog (Exit.then K (fun _ _ _ => False)) { tmps := (ps.zip #[.int .u64 (x : Int), .int .u64 (y : Int)]).foldl (fun t (p, v) => t.setIfInBounds p v) a.tmps, defers := [] } W)
    (hbody : ∀ (l i k : Nat) (W : World), I i W → i < s.size → k = min (s.size - i) 18 → w.heap.size + 1 < W.heap.size →
      body.wpIn (F.inRound l) (n - 1 - 1) Tryz.prog (fun e _ W' => e = .normal ∧ I (i + k) W' ∧ Leaves C w.heap.size W W') (a₁ (dv s i k) (10 ^ k)) W)
    (hdone : ∀ W, I s.size W → W.heap[w.heap.size]? = some (.deferred (some [])) → Q .normal { a with defers := { target := .collected w.heap.size, args := #[] } :: a.defers } W) :
    (Code.rangeFunc g ps assign body).wpIn F n Tryz.prog Q a w := by
  have hCw : C < w.heap.size := World.block_lt_of_cell? w ⟨C, 0, none⟩ hC
  refine wpIn_rangeFunc ?_
  intro fn hfn
  rw [hro]
  obtain ⟨rec, hrec⟩ : ∃ rec : LoopState → Loop, rec = fun st => { state := st, pending := none, fn, tmps := a.tmps, params := ps, assign, body, defers := w.heap.size } := ⟨_, rfl⟩
  obtain ⟨W1, hW1⟩ : ∃ W1, (w.alloc (.deferred (some []))).alloc (.loop (rec .ready)) = W1 := ⟨_, rfl⟩
  have hL1 : W1.heap[w.heap.size + 1]? = some (.loop (rec .ready)) := by
    rw [← hW1]
    have := World.alloc_heap_new (w.alloc (.deferred (some []))) (.loop (rec .ready))
    rwa [World.size_alloc] at this
  have hK1 : W1.heap[w.heap.size]? = some (.deferred (some [])) := by
    rw [← hW1]
    exact (Below.heap_alloc _ _ _ (by simp)).trans (World.alloc_heap_new w _)
  have hg1 : ∀ r, w.grownBy W1 (some r) := fun r => by
    rw [← hW1]; exact (World.grownBy_alloc w _ _).trans (World.grownBy_alloc _ _ _)
  have hc1 : W1.heap[C]? = w.heap[C]? := (hg1 w.heap.size).block C hCw (by intro e; injection e with e; omega)
  refine ⟨w.heap.size + 1, [{ target := .collected w.heap.size, args := #[] }], W1, { target := .fn (.func 109) #[.pointer (some ⟨C, 0, none⟩)], args := #[.func (.yield (w.heap.size + 1)) #[] #[]] }, W1, 109,
    #[.func (.yield (w.heap.size + 1)) #[] #[], .pointer (some ⟨C, 0, none⟩)], W1, ?_, ?_, ?_, ?_, fun _ => by omega, ?_⟩
  · rw [← hW1, hrec]; exact run_enterLoop_outer _ _ _ _ _
  · simp only [resolve, hg]
    simp [go_sem]
  · intro f' hf'
    simp [Target.leads] at hf'
    subst hf'; exact hf
  · have := enters_of (P := Tryz.prog) Tryz.func109 (by kernel_rfl) rfl
    simp [invoke, go_sem]
  · refine (groups1_in F (n - 1) hf hro (by omega) (w.heap.size + 1) C s hs hd
      (fun i W => I i W ∧ W.heap[w.heap.size + 1]? = some (.loop (rec .ready)) ∧ W.heap[w.heap.size]? = some (.deferred (some [])) ∧ W.frozen? ⟨C, 0, none⟩ = false)
      (fun i W u h => ?_) (fun i W h => h.2.2.2) (fun i W h => hten i W h.1) ?_ W1 ((World.cell?_of_block (a := ⟨C, 0, none⟩) hc1).trans hC) ⟨hI 0 w W1 w.heap.size h0 (hg1 _) (.inr (.inl rfl)), hL1, hK1, (World.frozen?_of_block (a := ⟨C, 0, none⟩) hc1).trans hz⟩).mono ?_
    · have hh : ∀ b, b ≠ C → (W.setCell ⟨C, 0, none⟩ u).heap[b]? = W.heap[b]? := fun b hb => Below.heap_setCell W _ u b hb
      refine ⟨hI i W _ C h.1 ⟨rfl, rfl, rfl, by simp [World.setCell], fun b _ hb => hh b (by intro e; exact hb (by rw [e]))⟩ (.inl rfl), (hh _ (by omega)).trans h.2.1, (hh _ (by omega)).trans h.2.2.1, ?_⟩
      rw [World.frozen?_setCell]; exact h.2.2.2
    · rintro i W k ⟨hi, hl, hk, hfz⟩ hlt hk18
      have hltW : w.heap.size + 1 < W.heap.size := (Array.getElem?_eq_some_iff.1 hl).1
      have hy := run_yield (P := Tryz.prog) (args := #[.int .u64 (dv s i k : Nat), .int .u64 ((10 ^ k : Nat) : Int)]) hl (by rw [hrec]; exact hps.symm)
      rw [hrec] at hy
      refine ⟨fn, _, assign, body, hy, roundIn_of_wpIn hfn (hassign _ _ _ W _ ⟨_, run_beginRound hl (by rw [hrec]), ?_⟩)⟩
      obtain ⟨W2, hW2⟩ : ∃ W2, W.putObj (w.heap.size + 1) (.loop { rec .ready with state := .busy }) = W2 := ⟨_, rfl⟩
      rw [hW2]
      have hl2 : W2.heap[w.heap.size + 1]? = some (.loop { rec .ready with state := .busy }) := by rw [← hW2]; exact World.putObj_heap_same hltW
      have ho2 : ∀ b, b ≠ w.heap.size + 1 → W2.heap[b]? = W.heap[b]? := fun b hb => by rw [← hW2]; exact World.putObj_heap_other hb
      have hg2 : W.grownBy W2 (some (w.heap.size + 1)) := by rw [← hW2]; exact grownBy_putObj' _ _ _
      refine wpIn_mono (hbody _ i k W2 (hI i W W2 _ hi hg2 (.inr (.inr rfl))) hlt hk18 (Nat.lt_of_lt_of_le hltW hg2.size)) ?_
      rintro e a3 W3 ⟨rfl, hi3, hv3⟩
      have hl3 := (hv3 _ (.inr (.inr rfl))).trans hl2
      have hr3 := run_endRound (P := Tryz.prog) none hl3
      have hlt3 : w.heap.size + 1 < W3.heap.size := (Array.getElem?_eq_some_iff.1 hl3).1
      refine ⟨_, _, hr3, rfl, ⟨hI _ W3 _ _ hi3 (grownBy_putObj' _ _ _) (.inr (.inr rfl)), ?_, ?_, ?_⟩, ?_⟩
      · rw [World.putObj_heap_same hlt3, hrec]; rfl
      · rw [World.putObj_heap_other (by omega), hv3 _ (.inr (.inl rfl)), ho2 _ (by omega)]; exact hk
      · refine (World.frozen?_of_block (a := ⟨C, 0, none⟩) (w := W) ?_).trans hfz
        show (W3.putObj _ _).heap[C]? = _
        rw [World.putObj_heap_other (by omega), hv3 _ (.inl rfl), ho2 _ (by omega)]
      · refine World.cell?_of_block (a := ⟨C, 0, none⟩) (w := W) ?_
        show (W3.putObj _ _).heap[C]? = _
        rw [World.putObj_heap_other (by omega), hv3 _ (.inl rfl), ho2 _ (by omega)]
    · rintro e W2 ⟨⟨v, rfl⟩, hi, hl, hk, _⟩
      exact ⟨none, _, by have := run_endLoop (P := Tryz.prog) hl (by rw [hrec]; simp); rw [hrec] at this; exact this, hdone _ (hI _ W2 _ _ hi (grownBy_putObj' _ _ _) (.inr (.inr rfl))) ((World.putObj_heap_other (by omega)).trans hk)⟩
end Go.Proofs.YtkggfeemjabdeaaGreatDoor
end
