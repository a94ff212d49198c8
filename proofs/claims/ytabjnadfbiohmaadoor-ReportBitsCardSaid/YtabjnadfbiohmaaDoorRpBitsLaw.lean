/- The law of the 72 bits: its walk. -/
import Derived.Test.YtabjnadfbiohmaaDoorRpRefTurn
import Derived.Test.YtabjnadfbiohmaaDoorRpMend
import Derived.Test.YtabjnadfbiohmaaDoorRpAwake
import Derived.Deep.RegionHeld3
import Derived.Deep.DeepCutAuto
namespace Go.Proofs.YtabjnadfbiohmaaDoor
open Go.RowKit

abbrev sigA (o x y b f : Int) : Value := .agg #[.int .i64 o, .int .i64 x, .int .i64 y, .int .i64 b, .int .i64 f]
abbrev sigO (o x y b f : Int) : Obj := .cells #[.int .i64 o, .int .i64 x, .int .i64 y, .int .i64 b, .int .i64 f] 23 (0, 0)
abbrev frO (d c : Nat) : Obj := .cells #[.int .u64 d, .int .u8 c] 26 (0, 0)

theorem sig_cells {W : World} {n : Nat} {o x y b f : Int} (h : W.heap[n]? = some (sigO o x y b f)) : W.cell? ⟨n, 0, none⟩ = some (.int .i64 o) ∧ W.cell? ⟨n, 1, none⟩ = some (.int .i64 x) ∧ W.cell? ⟨n, 2, none⟩ = some (.int .i64 y) ∧ W.cell? ⟨n, 3, none⟩ = some (.int .i64 b) ∧ W.cell? ⟨n, 4, none⟩ = some (.int .i64 f) := by
  refine ⟨?_, ?_, ?_, ?_, ?_⟩ <;> simp [World.cell?, h]
theorem sig_free {W : World} {n : Nat} {o x y b f : Int} (h : W.heap[n]? = some (sigO o x y b f)) : W.frozen? ⟨n, 0, none⟩ = false ∧ W.frozen? ⟨n, 1, none⟩ = false ∧ W.frozen? ⟨n, 2, none⟩ = false ∧ W.frozen? ⟨n, 3, none⟩ = false ∧ W.frozen? ⟨n, 4, none⟩ = false := by
  refine ⟨?_, ?_, ?_, ?_, ?_⟩ <;> simp [World.frozen?, h]
theorem fr_cells {W : World} {n d c : Nat} (h : W.heap[n]? = some (frO d c)) : W.cell? ⟨n, 0, none⟩ = some (.int .u64 d) ∧ W.cell? ⟨n, 1, none⟩ = some (.int .u8 c) := by
  refine ⟨?_, ?_⟩ <;> simp [World.cell?, h]

set_option maxRecDepth 100000 in
set_option maxHeartbeats 1000000 in
theorem bits_no (o x y b f : Int) (hs : sigB o x y b f = false) (i k : Nat) (m : Int) (w : World) (hE : Env m w) :
    Calls Tryd.prog 3 #[sigA o x y b f, .int .u8 i, .int .u8 k] w fun e w' => e = .returned (.bool true) ∧ Below w.heap.size w w' := by
  obtain ⟨W, hW⟩ : ∃ W, W = w.alloc (sigO o x y b f) := ⟨_, rfl⟩
  have hb0 : Below w.heap.size w W := by rw [hW]; exact new_below _ _
  have r0 : W.heap[w.heap.size]? = some (sigO o x y b f) := by rw [hW]; exact heap_alloc_new _ _
  have HE := Lib.hid (hE.below hb0); have HB := Lib.hid hb0; have R0 := Lib.hid r0
  have HP := Lib.hid fun W => Pack_no o x y b f hs W
  have HS : Hid (∀ W, Calls Tryd.prog 5 #[sigA o x y b f] W fun e w' => e = .returned (.bool false) ∧ Below W.heap.size W w') := Lib.hid fun W => by have := refSignal_any o x y b f W; rwa [hs] at this
  have HW := Lib.hid hW
  clear hE hb0 r0 hs hW
  go_enter Tryd.func3, Tryd.ntmps3
  go_wp2_with fail
  rw [← HW.out]
  refine (HP.out W).mono ?_
  rintro e w1 ⟨rfl, hb1⟩
  have r1 := stay R0.out hb1; have T1 := Lib.hid (below_chain HB.out hb1); have E1 := Lib.hid (HE.out.below hb1)
  have hlt : w.heap.size < w1.heap.size := (Array.getElem?_eq_some_iff.1 r1).1
  obtain ⟨c0, c1, c2, c3, c4⟩ := sig_cells r1
  clear HW R0 HB HE hb1 r1
  generalize hn : w.heap.size = n at hlt c0 c1 c2 c3 c4 ⊢
  have HN := Lib.hid hn; clear hn
  have HT : Hid (∀ O, Below w.heap.size w (w1.alloc O)) := Lib.hid fun O => below_chain T1.out (new_below _ O)
  have HE2 : Hid (∀ O, Env m (w1.alloc O)) := Lib.hid fun O => E1.out.below (new_below _ O)
  go_wp2_with fail
  obtain ⟨W2, hW2⟩ : ∃ W2, W2 = w1.alloc (.cells #[.int .u64 0, .int .u8 0] 26) := ⟨_, rfl⟩
  rw [← hW2]
  have t2 := HT.out (.cells #[.int .u64 0, .int .u8 0] 26); have e2 := HE2.out (.cells #[.int .u64 0, .int .u8 0] 26)
  rw [← hW2] at t2 e2
  have T2 := Lib.hid t2; have E2 := Lib.hid e2
  clear hW2 t2 e2 HT HE2 T1 E1 c0 c1 c2 c3 c4 hlt
  refine (HS.out W2).mono ?_
  rintro e w3 ⟨rfl, hb3⟩
  have T3 := Lib.hid (below_chain T2.out hb3); have E3 := Lib.hid (E2.out.below hb3)
  clear hb3
  go_wp2_with (go_at_call 6; refine (awake_any m w3 E3.out).mono ?_; rintro e w4 ⟨rfl, hb4⟩; have T4 := Lib.hid (below_chain T3.out hb4); clear hb4)
  go_ret
  exact ⟨rfl, T4.out⟩

/-- what Mend answers of a right frame, of one with a bit turned, of one with two. -/
theorem mend_says (o x y b f : Int) (hs : sigB o x y b f = true) :
    (∀ W, Calls Tryd.prog 8 #[.agg #[.int .u64 (dataN o x y b f), .int .u8 (packC (dataN o x y b f))]] W fun e w' => e = .returned (.tuple #[sigA o x y b f, .bool false, .int .i64 0]) ∧ Below W.heap.size W w') ∧
    (∀ q, BitOk q → ∀ W, Calls Tryd.prog 8 #[.agg #[.int .u64 (turnD (dataN o x y b f) q), .int .u8 (turnC (packC (dataN o x y b f)) q)]] W fun e w' => e = .returned (.tuple #[sigA o x y b f, .bool true, .int .i64 0]) ∧ Below W.heap.size W w') ∧
    (∀ q p, BitOk q → BitOk p → q.2.2 ≠ p.2.2 → ∀ W, Calls Tryd.prog 8 #[.agg #[.int .u64 (turnD (turnD (dataN o x y b f) q) p), .int .u8 (turnC (turnC (packC (dataN o x y b f)) q) p)]] W fun e w' => e = .returned (.tuple #[sigA 0 0 0 0 0, .bool false, .int .i64 20]) ∧ Below W.heap.size W w') := by
  unfold sigB at hs
  rw [Bool.and_eq_true, Bool.and_eq_true, Bool.and_eq_true, Bool.and_eq_true, inB_true, inB_true, inB_true, inB_true, inB_true] at hs
  obtain ⟨h1, h2, h3, h4, h5⟩ := hs
  have hd := dataN_lt o x y b f h1 h4 h5
  have hsig := sig_data o x y b f h1 h2 h3 h4 h5
  obtain ⟨hr, hc⟩ := pack_right (dataN o x y b f) hd
  generalize dataN o x y b f = d at hd hsig hr hc ⊢
  generalize packC d = c at hr hc ⊢
  refine ⟨fun W => ?_, fun q hq W => ?_, fun q p hq hp hne W => ?_⟩
  · have := Mend_any d c hd hc W
    rw [mendR_right d c hr, show mendV (some (d, false)) = .tuple #[sigV d, .bool false, .int .i64 0] from rfl, hsig] at this
    exact this
  · have := Mend_any _ _ (turnD_lt d q hd hq) (turnC_lt c q hc hq) W
    rw [mendR_one d c q hd hc hr hq, show mendV (some (d, true)) = .tuple #[sigV d, .bool true, .int .i64 0] from rfl, hsig] at this
    exact this
  · have := Mend_any _ _ (turnD_lt _ p (turnD_lt d q hd hq) hp) (turnC_lt _ p (turnC_lt c q hc hq) hp) W
    rw [mendR_two d c q p hd hc hr hq hp hne] at this
    exact this
theorem turned_says (d c : Nat) (q : Bool × Nat × Nat) (hd : d < 18446744073709551616) (hc : c < 256) (hq : BitOk q) (W : World) :
    Calls Tryd.prog 9 #[.agg #[.int .u64 d, .int .u8 c], .agg #[.bool q.1, .int .i64 q.2.1, .int .i64 q.2.2]] W fun e w' => e = .returned (.agg #[.int .u64 (turnD d q), .int .u8 (turnC c q)]) ∧ Below W.heap.size W w' := by
  obtain ⟨q1, n, a⟩ := q
  unfold BitOk at hq
  unfold turnD turnC
  cases q1 with
  | true => exact refTurned_check d c n a hc hq.1 W
  | false => exact refTurned_data d c n a hd hq.1 W

/-- the cells of the bits. -/
theorem bit_cells {w : World} {N : Nat} {v : Value} (h : BitRow w N v bitT) : ∃ g cap, v = .slice (some ⟨g, 0, none⟩) 72 cap ∧ N ≤ g ∧ g < w.heap.size ∧ ∀ j q, bitT[j]? = some q → w.cell? ⟨g, j * 3, none⟩ = some (.bool q.1) ∧ w.cell? ⟨g, j * 3 + 1, none⟩ = some (.int .i64 q.2.1) ∧ w.cell? ⟨g, j * 3 + 2, none⟩ = some (.int .i64 q.2.2) := by
  have hl := bitT_len
  rcases h.own.2 with ⟨_, hn⟩ | ⟨g, cap, cur, rfl, hNg, hh, hc, _⟩
  · rw [hl] at hn; cases hn
  · refine ⟨g, cap, by rw [hl], hNg, (Array.getElem?_eq_some_iff.1 hh).1, fun j q hj => ?_⟩
    obtain ⟨h1, h2, h3⟩ := bitCells_at bitT j q hj
    have c1 := h.own.cells (g := g) rfl _ _ h1
    have c2 := h.own.cells (g := g) rfl _ _ h2
    have c3 := h.own.cells (g := g) rfl _ _ h3
    rw [addr_add] at c1 c2 c3
    exact ⟨c1, c2, c3⟩

theorem five_set {W W9 : World} {n : Nat} {o x y b f o' x' y' b' f' : Int} (h : W.heap[n]? = some (sigO o x y b f))
    (e : W9 = (((((W.setCell ⟨n, 0, none⟩ (.int .i64 o')).setCell ⟨n, 1, none⟩ (.int .i64 x')).setCell ⟨n, 2, none⟩ (.int .i64 y')).setCell ⟨n, 3, none⟩ (.int .i64 b')).setCell ⟨n, 4, none⟩ (.int .i64 f'))) :
    W9.heap[n]? = some (sigO o' x' y' b' f') ∧ (∀ g, g ≠ n → W9.heap[g]? = W.heap[g]?) ∧ W9.heap.size = W.heap.size ∧ ∀ N (w0 : World), N ≤ n → Below N w0 W → Below N w0 W9 := by
  subst e
  refine ⟨?_, fun g hg => ?_, by simp [World.setCell], fun N w0 hN hb => ((((hb.setCell (p := ⟨n, 0, none⟩) hN _).setCell (p := ⟨n, 1, none⟩) hN _).setCell (p := ⟨n, 2, none⟩) hN _).setCell (p := ⟨n, 3, none⟩) hN _).setCell (p := ⟨n, 4, none⟩) hN _⟩
  · have h5 := heap_set (heap_set (heap_set (heap_set (heap_set h 0 (.int .i64 o')) 1 (.int .i64 x')) 2 (.int .i64 y')) 3 (.int .i64 b')) 4 (.int .i64 f')
    simp only [List.setIfInBounds_toArray, List.set_cons_zero, List.set_cons_succ] at h5
    exact h5
  · cases hh : W.heap[g]? with
    | none =>
      have : W.heap.size ≤ g := by rw [Array.getElem?_eq_none_iff] at hh; exact hh
      rw [Array.getElem?_eq_none_iff]; simpa [World.setCell] using this
    | some ob =>
      exact heap_far (a := ⟨n, 4, none⟩) (heap_far (a := ⟨n, 3, none⟩) (heap_far (a := ⟨n, 2, none⟩) (heap_far (a := ⟨n, 1, none⟩) (heap_far (a := ⟨n, 0, none⟩) hh hg) hg) hg) hg) hg
theorem new_cells {W w6 : World} {u v : Value} {T : TypeId} (hb : Below (W.drew.alloc (.cells #[u, v] T)).heap.size (W.drew.alloc (.cells #[u, v] T)) w6) : w6.cell? ⟨W.heap.size, 0, none⟩ = some u ∧ w6.cell? ⟨W.heap.size, 1, none⟩ = some v ∧ w6.frozen? ⟨W.heap.size, 0, none⟩ = false ∧ w6.frozen? ⟨W.heap.size, 1, none⟩ = false := by
  have h : w6.heap[W.heap.size]? = some (.cells #[u, v] T (0, 0)) := stay (heap_alloc_new W.drew (.cells #[u, v] T)) hb
  refine ⟨?_, ?_, ?_, ?_⟩ <;> simp [World.cell?, World.frozen?, h]
theorem mod72 (i : Nat) (hi : i < 256) : (IntKind.i64.wrap (i : Int)).tmod 72 = ((i % 72 : Nat) : Int) := by
  rw [IntWalk.i64_in _ (by omega)]
  exact IntWalk.up_tmod rfl rfl
theorem bits_apart {j j2 : Nat} {q p : Bool × Nat × Nat} (hj : j < 72) (hj2 : j2 < 72) (hq : bitT[j]? = some q) (hp : bitT[j2]? = some p) : j ≠ j2 → q.2.2 ≠ p.2.2 := by
  intro hne
  have h := bitT_apart ⟨j, hj⟩ ⟨j2, hj2⟩ (by intro e; injection e with e; exact hne e)
  simp only [List.getD_eq_getElem?_getD, hq, hp, Option.getD_some] at h
  simpa using h

set_option maxRecDepth 100000 in
set_option maxHeartbeats 2000000 in
theorem bits_yes (o x y b f : Int) (hs : sigB o x y b f = true) (i k : Nat) (hi : i < 256) (hk : k < 256) (m : Int) (w : World) (hE : Env m w) :
    Calls Tryd.prog 3 #[sigA o x y b f, .int .u8 i, .int .u8 k] w fun e w' => e = .returned (.bool true) ∧ Below w.heap.size w w' := by
  obtain ⟨M1, M2, M3⟩ := mend_says o x y b f hs
  have HP := Lib.hid fun W => Pack_yes o x y b f hs W
  have hdc : dataN o x y b f < 18446744073709551616 ∧ packC (dataN o x y b f) < 256 := by
    unfold sigB at hs
    rw [Bool.and_eq_true, Bool.and_eq_true, Bool.and_eq_true, Bool.and_eq_true, inB_true, inB_true, inB_true, inB_true, inB_true] at hs
    obtain ⟨h1, h2, h3, h4, h5⟩ := hs
    have hd := dataN_lt o x y b f h1 h4 h5
    exact ⟨hd, (pack_right _ hd).2⟩
  generalize dataN o x y b f = d at M1 M2 M3 HP hdc
  generalize packC d = c at M1 M2 M3 HP hdc
  have HM1 := Lib.hid M1; have HM2 := Lib.hid M2; have HM3 := Lib.hid M3; have HDC := Lib.hid hdc
  clear M1 M2 M3 hdc
  obtain ⟨W, hW⟩ : ∃ W, W = w.alloc (sigO o x y b f) := ⟨_, rfl⟩
  have hb0 : Below w.heap.size w W := by rw [hW]; exact new_below _ _
  have r0 : W.heap[w.heap.size]? = some (sigO o x y b f) := by rw [hW]; exact heap_alloc_new _ _
  have HE0 := Lib.hid hE
  have HE := Lib.hid (hE.below hb0); have HB := Lib.hid hb0; have R0 := Lib.hid r0
  have HW := Lib.hid hW
  clear hE hb0 r0 hs hW
  go_enter Tryd.func3, Tryd.ntmps3
  go_wp2_with fail
  rw [← HW.out]
  refine (HP.out W).mono ?_
  rintro e w1 ⟨rfl, hb1⟩
  have R1 := Lib.hid (stay R0.out hb1); have T1 := Lib.hid (below_chain HB.out hb1); have E1 := Lib.hid (HE.out.below hb1)
  clear HW R0 HB HE hb1
  go_wp2_with fail
  obtain ⟨W2, hW2⟩ : ∃ W2, W2 = w1.alloc (.cells #[.int .u64 d, .int .u8 c] 26) := ⟨_, rfl⟩
  rw [← hW2]
  obtain ⟨n, hn⟩ : ∃ n, n = w.heap.size := ⟨_, rfl⟩
  obtain ⟨n1, hn1⟩ : ∃ n1, n1 = w1.heap.size := ⟨_, rfl⟩
  have k2 : Below w1.heap.size w1 W2 := by rw [hW2]; exact new_below _ _
  have f2 : W2.heap[n1]? = some (frO d c) := by rw [hW2, hn1]; exact heap_alloc_new _ _
  have R2 : Hid (W2.heap[n]? = some (sigO o x y b f)) := Lib.hid (by rw [hn]; exact stay R1.out k2)
  have T2 := Lib.hid (below_chain T1.out k2); have E2 := Lib.hid (E1.out.below k2); have F2 := Lib.hid f2
  rw [← hn, ← hn1]
  clear R1 T1 E1 k2 f2 hW2 hn hn1
  refine (refBitsUp_any W2).mono ?_
  rintro e w3 ⟨v, rfl, hrow, hb3⟩
  have r3 := stay R2.out hb3; have t3 := below_chain T2.out hb3; have e3 := E2.out.below hb3; have f3 := stay F2.out hb3
  obtain ⟨g, cap, rfl, hNg, hg, hcell⟩ := bit_cells hrow
  obtain ⟨j, hj⟩ : ∃ j, j = i % 72 := ⟨_, rfl⟩
  have hj72 : j < 72 := by rw [hj]; exact Nat.mod_lt _ (by omega)
  obtain ⟨j2, hj2⟩ : ∃ j2, j2 = k % 72 := ⟨_, rfl⟩
  have hj272 : j2 < 72 := by rw [hj2]; exact Nat.mod_lt _ (by omega)
  clear hrow R2 T2 E2 F2 hb3 hNg
  have R3 := Lib.hid r3; have T3 := Lib.hid t3; have E3 := Lib.hid e3; have F3 := Lib.hid f3; have G3 := Lib.hid hcell
  obtain ⟨c0, c1⟩ := fr_cells f3
  clear r3 t3 e3 f3 hcell
  go_wp2_with fail
  refine (HM1.out w3).mono ?_
  rintro e w4 ⟨rfl, hb4⟩
  have r4 := stay R3.out hb4
  have hlt : n < w4.heap.size := (Array.getElem?_eq_some_iff.1 r4).1
  have F4 := Lib.hid (stay F3.out hb4); have T4 := Lib.hid (below_chain T3.out hb4); have E4 := Lib.hid (E3.out.below hb4)
  have G4 : Hid (g < w4.heap.size ∧ ∀ (j : Nat) (q : Bool × Nat × Nat), bitT[j]? = some q → w4.cell? ⟨g, j * 3, none⟩ = some (.bool q.1) ∧ w4.cell? ⟨g, j * 3 + 1, none⟩ = some (.int .i64 q.2.1) ∧ w4.cell? ⟨g, j * 3 + 2, none⟩ = some (.int .i64 q.2.2)) :=
    Lib.hid ⟨Nat.lt_of_lt_of_le hg hb4.size, fun j q h => ⟨(hb4.cell (p := ⟨g, j * 3, none⟩) hg).trans (G3.out j q h).1, (hb4.cell (p := ⟨g, j * 3 + 1, none⟩) hg).trans (G3.out j q h).2.1, (hb4.cell (p := ⟨g, j * 3 + 2, none⟩) hg).trans (G3.out j q h).2.2⟩⟩
  have R4 := Lib.hid r4
  clear c0 c1
  obtain ⟨x0, x1, x2, x3, x4⟩ := sig_cells r4
  clear R3 T3 E3 F3 G3 hb4 r4 hg HM1 HP
  go_upto_region 8 with fail
  clear x0 x1 x2 x3 x4 hlt
  obtain ⟨W5, hW5⟩ : ∃ W5, W5 = w4.alloc (.cells #[.int .i64 o, .int .i64 x, .int .i64 y, .int .i64 b, .int .i64 f] 23) := ⟨_, rfl⟩
  rw [← hW5]
  have k5 : Below w4.heap.size w4 W5 := by rw [hW5]; exact new_below _ _
  have s5 : W5.heap[w4.heap.size]? = some (sigO o x y b f) := by rw [hW5]; exact heap_alloc_new _ _
  obtain ⟨n2, hn2⟩ : ∃ n2, n2 = w4.heap.size := ⟨_, rfl⟩
  have hnn : n < n2 := by rw [hn2]; exact (Array.getElem?_eq_some_iff.1 R4.out).1
  have hwn : w.heap.size ≤ n2 := by rw [hn2]; exact T4.out.size
  have hgn : g < n2 := by rw [hn2]; exact G4.out.1
  have r5 := stay R4.out k5; have t5 := below_chain T4.out k5; have e5 := E4.out.below k5; have f5 := stay F4.out k5
  have g5 : g < W5.heap.size := Nat.lt_of_lt_of_le G4.out.1 k5.size
  obtain ⟨q, hq⟩ : ∃ q, bitT[j]? = some q := ⟨_, List.getElem?_eq_getElem (by rw [bitT_len]; exact hj72)⟩
  obtain ⟨p, hp⟩ : ∃ p, bitT[j2]? = some p := ⟨_, List.getElem?_eq_getElem (by rw [bitT_len]; exact hj272)⟩
  have gl := G4.out.1
  obtain ⟨q0, q1, q2⟩ := G4.out.2 j q hq
  obtain ⟨p0, p1, p2⟩ := G4.out.2 j2 p hp
  rw [← hn2] at s5 ⊢
  have hqo := bitT_ok q (List.mem_of_getElem? hq)
  have hpo := bitT_ok p (List.mem_of_getElem? hp)
  have HQP : Hid (j ≠ j2 → q.2.2 ≠ p.2.2) := Lib.hid (bits_apart hj72 hj272 hq hp)
  obtain ⟨a0, a1⟩ := fr_cells f5
  have z0 := (k5.cell (p := ⟨g, j * 3, none⟩) gl).trans q0; have z1 := (k5.cell (p := ⟨g, j * 3 + 1, none⟩) gl).trans q1; have z2 := (k5.cell (p := ⟨g, j * 3 + 2, none⟩) gl).trans q2
  have y0 := (k5.cell (p := ⟨g, j2 * 3, none⟩) gl).trans p0; have y1 := (k5.cell (p := ⟨g, j2 * 3 + 1, none⟩) gl).trans p1; have y2 := (k5.cell (p := ⟨g, j2 * 3 + 2, none⟩) gl).trans p2
  have hn1 : n1 < W5.heap.size := (Array.getElem?_eq_some_iff.1 f5).1
  have HY := Lib.hid (And.intro y0 (And.intro y1 y2))
  have HNN : Hid (n < n2 ∧ w.heap.size ≤ n2 ∧ g < n2) := Lib.hid ⟨hnn, hwn, hgn⟩
  have HS : Hid (∀ w', Below W5.heap.size W5 w' → (w'.cell? ⟨n1, 0, none⟩ = some (.int .u64 d) ∧ w'.cell? ⟨n1, 1, none⟩ = some (.int .u8 c) ∧ w'.cell? ⟨g, j * 3, none⟩ = some (.bool q.1) ∧ w'.cell? ⟨g, j * 3 + 1, none⟩ = some (.int .i64 q.2.1) ∧ w'.cell? ⟨g, j * 3 + 2, none⟩ = some (.int .i64 q.2.2) ∧ Below W5.heap.size W5 w')) := Lib.hid fun w' h =>
    ⟨(h.cell (p := ⟨n1, 0, none⟩) hn1).trans a0, (h.cell (p := ⟨n1, 1, none⟩) hn1).trans a1, (h.cell (p := ⟨g, j * 3, none⟩) g5).trans z0, (h.cell (p := ⟨g, j * 3 + 1, none⟩) g5).trans z1, (h.cell (p := ⟨g, j * 3 + 2, none⟩) g5).trans z2, h⟩
  have hwi : IntKind.i64.wrap (i : Int) = (i : Int) := IntWalk.i64_in _ (by omega)
  have htm : (i : Int).tmod 72 = (j : Int) := by rw [hj]; exact IntWalk.up_tmod rfl rfl
  have hji0 : (0 : Int) ≤ (j : Int) := by omega
  have hji1 : (j : Int) < 72 := by omega
  have HJ := Lib.hid hj; clear hj
  have HT := Lib.hid (turned_says d c q HDC.out.1 HDC.out.2 hqo)
  have HT2 : Hid (Calls Tryd.prog 9 #[.agg #[.int .u64 d, .int .u8 c], .agg #[.bool q.1, .int .i64 q.2.1, .int .i64 q.2.2]] (W5.drew.alloc (.cells #[.int .u64 0, .int .u8 0] 26)) fun e w' => e = .returned (.agg #[.int .u64 (turnD d q), .int .u8 (turnC c q)]) ∧ Below (W5.drew.alloc (.cells #[.int .u64 0, .int .u8 0] 26)).heap.size (W5.drew.alloc (.cells #[.int .u64 0, .int .u8 0] 26)) w' ∧
      w'.cell? ⟨W5.heap.size, 0, none⟩ = some (.int .u64 0) ∧ w'.cell? ⟨W5.heap.size, 1, none⟩ = some (.int .u8 0) ∧ w'.frozen? ⟨W5.heap.size, 0, none⟩ = false ∧ w'.frozen? ⟨W5.heap.size, 1, none⟩ = false) := Lib.hid ((HT.out _).mono fun _ _ ⟨he, hb⟩ => ⟨he, hb, new_cells hb⟩)
  have R5 := Lib.hid r5; have T5 := Lib.hid t5; have E5 := Lib.hid e5; have S5 := Lib.hid s5; have G5 := Lib.hid g5
  have HMQ := Lib.hid (HM2.out q hqo)
  clear hW5 k5 hn2 r5 t5 e5 f5 s5 g5 hq hp gl q0 q1 q2 p0 p1 p2 a0 a1 z0 z1 z2 y0 y1 y2 hn1 hnn hwn hgn R4 T4 E4 F4 G4 HM2
  go_cut [13] (fun t wx => ∃ nz, t = .pointer (some ⟨nz, 0, none⟩) ∧ Hid (wx.heap[nz]? = some (frO (turnD d q) (turnC c q)) ∧ Below W5.heap.size W5 wx ∧ W5.heap.size ≤ nz))
  case first =>
    refine wp_region_held_drew (S := (fun w' => w'.cell? ⟨n1, 0, none⟩ = some (.int .u64 d) ∧ w'.cell? ⟨n1, 1, none⟩ = some (.int .u8 c) ∧ w'.cell? ⟨g, j * 3, none⟩ = some (.bool q.1) ∧ w'.cell? ⟨g, j * 3 + 1, none⟩ = some (.int .i64 q.2.1) ∧ w'.cell? ⟨g, j * 3 + 2, none⟩ = some (.int .i64 q.2.2) ∧ Below W5.heap.size W5 w')) (by kernel_rfl) (HS.out _ (Below.refl _ _).drew) (fun hHeld => ?_)
    refine wpAnyH_take (i := 0) (v := .agg #[.int .u64 d, .int .u8 c]) rfl (by kernel_rfl) (by kernel_rfl) (by kernel_rfl) (fun _ _ _ h => h) (Or.inl ⟨by rfl, ?_⟩) (by assumption) ?_
    · intro w hSw; (try dsimp only at hSw); go_simp
    try simp only [Act.put, List.setIfInBounds_toArray, List.set_cons_zero, List.set_cons_succ]
    refine wpAnyH_take (i := 1) (v := .slice (some ⟨g, 0, none⟩) 72 cap) rfl (by kernel_rfl) (by kernel_rfl) (by kernel_rfl) (fun _ _ _ h => h) (Or.inl ⟨by rfl, ?_⟩) (by assumption) ?_
    · intro w hSw; (try dsimp only at hSw); go_simp
    try simp only [Act.put, List.setIfInBounds_toArray, List.set_cons_zero, List.set_cons_succ]
    refine wpAnyH_take (i := 2) (v := .int .u8 i) rfl (by kernel_rfl) (by kernel_rfl) (by kernel_rfl) (fun _ _ _ h => h) (Or.inl ⟨by rfl, ?_⟩) (by assumption) ?_
    · intro w hSw; (try dsimp only at hSw); go_simp
    try simp only [Act.put, List.setIfInBounds_toArray, List.set_cons_zero, List.set_cons_succ]
    refine wpAnyH_take (i := 3) (v := .int .i64 i) rfl (by kernel_rfl) (by kernel_rfl) (by kernel_rfl) (fun _ _ _ h => h) (Or.inl ⟨by rfl, ?_⟩) (by assumption) ?_
    · intro w hSw; (try dsimp only at hSw); go_simp
    try simp only [Act.put, List.setIfInBounds_toArray, List.set_cons_zero, List.set_cons_succ]
    refine wpAnyH_take (i := 4) (v := .int .i64 j) rfl (by kernel_rfl) (by kernel_rfl) (by kernel_rfl) (fun _ _ _ h => h) (Or.inl ⟨by rfl, ?_⟩) (by assumption) ?_
    · intro w hSw; (try dsimp only at hSw); go_simp
    try simp only [Act.put, List.setIfInBounds_toArray, List.set_cons_zero, List.set_cons_succ]
    refine wpAnyH_take (i := 5) (v := .pointer (some ⟨g, j * 3, none⟩)) rfl (by kernel_rfl) (by kernel_rfl) (by kernel_rfl) (fun _ _ _ h => h) (Or.inl ⟨by rfl, ?_⟩) (by assumption) ?_
    · intro w hSw; (try dsimp only at hSw); go_simp
    try simp only [Act.put, List.setIfInBounds_toArray, List.set_cons_zero, List.set_cons_succ]
    refine wpAnyH_take (i := 6) (v := .agg #[.bool q.1, .int .i64 q.2.1, .int .i64 q.2.2]) rfl (by kernel_rfl) (by kernel_rfl) (by kernel_rfl) (fun _ _ _ h => h) (Or.inl ⟨by rfl, ?_⟩) (by assumption) ?_
    · intro w hSw; (try dsimp only at hSw); go_simp
    try simp only [Act.put, List.setIfInBounds_toArray, List.set_cons_zero, List.set_cons_succ]
    refine wpAnyH_ready (rs := [7, 8]) (by kernel_rfl) (by simp) ?_
    refine AllReadyH.cons rfl (fun K hK => ?_) (AllReadyH.cons rfl (fun K hK => ?_) AllReadyH.nil)
    · try rw [if_pos (by rfl)]
      try go_simp
      go_at_call 9
      refine (HT.out _).mono ?_
      rintro e w6 ⟨rfl, hb⟩
      have hBn := below_chain (W := W5) (Below.refl _ _).drew hb
      refine hK.out _ _ (HS.out _ hBn) (fun hHeld2 => ?_)
      clear hK K
      try simp only [Act.put, List.setIfInBounds_toArray, List.set_cons_zero, List.set_cons_succ]
      refine wpAnyH_ready (rs := [8]) (by kernel_rfl) (by simp) ?_
      refine AllReadyH.cons rfl (fun K hK => ?_) AllReadyH.nil
      try rw [if_pos (by rfl)]
      try go_simp
      refine hK.out _ _ (HS.out _ (hBn.alloc hBn.size _)) (fun hHeld3 => ?_)
      clear hK K
      try simp only [Act.put, List.setIfInBounds_toArray, List.set_cons_zero, List.set_cons_succ]
      refine wpAnyH_ready (rs := [9]) (by kernel_rfl) (by simp) ?_
      refine AllReadyH.cons rfl (fun K hK => ?_) AllReadyH.nil
      try rw [if_pos (by rfl)]
      try go_simp
      refine hK.out _ _ (HS.out _ (hBn.alloc hBn.size _)) (fun hHeld4 => ?_)
      clear hK K
      refine wpAnyH_done (by kernel_rfl) ?_ _
      go_wp2_with fail
      go_meet
      case rel => exact ⟨w6.heap.size, rfl, Lib.hid ⟨heap_alloc_new _ _, hBn.alloc hBn.size _, hBn.size⟩⟩
    · try rw [if_pos (by rfl)]
      try go_simp
      refine hK.out _ _ (HS.out _ ((Below.refl _ _).drew.alloc (Nat.le_refl _) _)) (fun hHeld3 => ?_)
      clear hK K
      try simp only [Act.put, List.setIfInBounds_toArray, List.set_cons_zero, List.set_cons_succ]
      refine wpAnyH_ready (rs := [7]) (by kernel_rfl) (by simp) ?_
      refine AllReadyH.cons rfl (fun K hK => ?_) AllReadyH.nil
      try rw [if_pos (by rfl)]
      try go_simp
      go_at_call 9
      refine (HT.out _).mono ?_
      rintro e w6 ⟨rfl, hb⟩
      have hBn := below_chain (W := W5) ((Below.refl _ _).drew.alloc (Nat.le_refl _) _) hb
      refine hK.out _ _ (HS.out _ hBn) (fun hHeld2 => ?_)
      clear hK K
      try simp only [Act.put, List.setIfInBounds_toArray, List.set_cons_zero, List.set_cons_succ]
      refine wpAnyH_ready (rs := [9]) (by kernel_rfl) (by simp) ?_
      refine AllReadyH.cons rfl (fun K hK => ?_) AllReadyH.nil
      try rw [if_pos (by rfl)]
      obtain ⟨nn0, nn1, nn2, nn3⟩ := new_cells hb
      try go_simp
      refine hK.out _ _ (HS.out _ ((hBn.setCell (p := ⟨W5.heap.size, 0, none⟩) (Nat.le_refl _) _).setCell (p := ⟨W5.heap.size, 1, none⟩) (Nat.le_refl _) _)) (fun hHeld4 => ?_)
      clear hK K
      refine wpAnyH_done (by kernel_rfl) ?_ _
      go_wp2_with fail
      go_meet
      have hz : w6.heap[W5.heap.size]? = some (.cells #[.int .u64 0, .int .u8 0] 26 (0, 0)) := stay (heap_alloc_new W5.drew (.cells #[.int .u64 0, .int .u8 0] 26)) hb
      have hz2 := heap_set (heap_set hz 0 (.int .u64 (turnD d q))) 1 (.int .u8 (turnC c q))
      simp only [List.setIfInBounds_toArray, List.set_cons_zero, List.set_cons_succ] at hz2
      case rel => exact ⟨W5.heap.size, rfl, Lib.hid ⟨hz2, (hBn.setCell (p := ⟨W5.heap.size, 0, none⟩) (Nat.le_refl _) _).setCell (p := ⟨W5.heap.size, 1, none⟩) (Nat.le_refl _) _, Nat.le_refl _⟩⟩
  case rest =>
    obtain ⟨nz, rfl, HZ⟩ := hcut
    have hbz := HZ.out.2.1
    have r6 := stay R5.out hbz; have t6 := below_chain T5.out hbz; have e6 := E5.out.below hbz; have s6 := stay S5.out hbz
    have g6 : g < wc.heap.size := Nat.lt_of_lt_of_le G5.out hbz.size
    have y6 : wc.cell? ⟨g, j2 * 3, none⟩ = some (.bool p.1) ∧ wc.cell? ⟨g, j2 * 3 + 1, none⟩ = some (.int .i64 p.2.1) ∧ wc.cell? ⟨g, j2 * 3 + 2, none⟩ = some (.int .i64 p.2.2) := ⟨(hbz.cell (p := ⟨g, j2 * 3, none⟩) G5.out).trans HY.out.1, (hbz.cell (p := ⟨g, j2 * 3 + 1, none⟩) G5.out).trans HY.out.2.1, (hbz.cell (p := ⟨g, j2 * 3 + 2, none⟩) G5.out).trans HY.out.2.2⟩
    have R6 := Lib.hid r6; have T6 := Lib.hid t6; have E6 := Lib.hid e6; have S6 := Lib.hid s6; have G6 := Lib.hid g6; have Y6 := Lib.hid y6
    have HZ2 : Hid (n2 ≠ nz ∧ g ≠ nz) := Lib.hid ⟨Nat.ne_of_lt (Nat.lt_of_lt_of_le (Array.getElem?_eq_some_iff.1 S5.out).1 HZ.out.2.2), Nat.ne_of_lt (Nat.lt_of_lt_of_le G5.out HZ.out.2.2)⟩
    have F6 := Lib.hid HZ.out.1
    obtain ⟨f0, f1⟩ := fr_cells HZ.out.1
    clear hbz r6 t6 e6 s6 g6 y6 HZ R5 T5 E5 S5 G5 HY HS HT HT2 hwi htm hji0 hji1
    go_wp2_with fail
    refine (HMQ.out wc).mono ?_
    rintro e w8 ⟨rfl, hb8⟩
    have r8 := stay R6.out hb8; have s8 := stay S6.out hb8; have f8 := stay F6.out hb8; have t8 := below_chain T6.out hb8; have e8 := E6.out.below hb8
    have g8 : g < w8.heap.size := Nat.lt_of_lt_of_le G6.out hb8.size
    have y8 : w8.cell? ⟨g, j2 * 3, none⟩ = some (.bool p.1) ∧ w8.cell? ⟨g, j2 * 3 + 1, none⟩ = some (.int .i64 p.2.1) ∧ w8.cell? ⟨g, j2 * 3 + 2, none⟩ = some (.int .i64 p.2.2) := ⟨(hb8.cell (p := ⟨g, j2 * 3, none⟩) G6.out).trans Y6.out.1, (hb8.cell (p := ⟨g, j2 * 3 + 1, none⟩) G6.out).trans Y6.out.2.1, (hb8.cell (p := ⟨g, j2 * 3 + 2, none⟩) G6.out).trans Y6.out.2.2⟩
    obtain ⟨x0, x1, x2, x3, x4⟩ := sig_cells s8
    obtain ⟨l0, l1, l2, l3, l4⟩ := sig_free s8
    have R8 := Lib.hid r8; have S8 := Lib.hid s8; have F8 := Lib.hid f8; have T8 := Lib.hid t8; have E8 := Lib.hid e8; have G8 := Lib.hid g8; have Y8 := Lib.hid y8
    clear hb8 r8 s8 f8 t8 e8 g8 y8 R6 T6 E6 S6 G6 Y6 F6 f0 f1 HMQ
    go_upto_region 10 with fail
    obtain ⟨W9, hW9⟩ : ∃ W9, W9 = (((((w8.setCell ⟨n2, 0, none⟩ (.int .i64 o)).setCell ⟨n2, 1, none⟩ (.int .i64 x)).setCell ⟨n2, 2, none⟩ (.int .i64 y)).setCell ⟨n2, 3, none⟩ (.int .i64 b)).setCell ⟨n2, 4, none⟩ (.int .i64 f)) := ⟨_, rfl⟩
    rw [← hW9]
    obtain ⟨s9, k9, z9, b9⟩ := five_set (W9 := W9) S8.out hW9
    have hnz := HZ2.out
    have r9 : W9.heap[n]? = some (sigO o x y b f) := (k9 n (Nat.ne_of_lt HNN.out.1)).trans R8.out
    have f9 : W9.heap[nz]? = some (frO (turnD d q) (turnC c q)) := (k9 nz (Ne.symm hnz.1)).trans F8.out
    have T9 : Hid (Below w.heap.size w W9) := Lib.hid (b9 _ _ HNN.out.2.1 T8.out)
    have E9 : Hid (Env m W9) := Lib.hid (HE0.out.below T9.out)
    have hg9 := k9 g (Nat.ne_of_lt HNN.out.2.2)
    have G9 : Hid (g < W9.heap.size) := Lib.hid (by rw [z9]; exact G8.out)
    have Y9 : Hid (W9.cell? ⟨g, j2 * 3, none⟩ = some (.bool p.1) ∧ W9.cell? ⟨g, j2 * 3 + 1, none⟩ = some (.int .i64 p.2.1) ∧ W9.cell? ⟨g, j2 * 3 + 2, none⟩ = some (.int .i64 p.2.2)) := Lib.hid ⟨(World.cell?_of_block hg9).trans Y8.out.1, (World.cell?_of_block hg9).trans Y8.out.2.1, (World.cell?_of_block hg9).trans Y8.out.2.2⟩
    have R9 := Lib.hid r9; have S9 := Lib.hid s9; have F9 := Lib.hid f9
    clear x0 x1 x2 x3 x4 l0 l1 l2 l3 l4 hW9 k9 z9 b9 hnz hg9 R8 S8 F8 T8 E8 G8 Y8
    obtain ⟨u0, u1, u2, u3, u4⟩ := sig_cells s9
    obtain ⟨v0, v1, v2, v3, v4⟩ := sig_cells r9
    clear s9 r9 f9
    by_cases hjk : i % 72 = k % 72
    · have hA : ((i : Int).tmod 72 == (k : Int).tmod 72) = true := by rw [beq_iff_eq, IntWalk.up_tmod (a := (i : Int)) (b := 72) (y := 72) rfl rfl, IntWalk.up_tmod (a := (k : Int)) (b := 72) (y := 72) rfl rfl, hjk]
      have hB : ((i : Int) % 72 == (k : Int) % 72) = true := by rw [beq_iff_eq]; omega
      go_wp2_with (go_at_call 6; refine (awake_any m W9 E9.out).mono ?_; rintro e w10 ⟨rfl, hb10⟩; have T10 := Lib.hid (below_chain T9.out hb10); clear hb10)
      go_ret
      exact ⟨rfl, T10.out⟩
    · have hA : ((i : Int).tmod 72 == (k : Int).tmod 72) = false := by rw [beq_eq_false_iff_ne, IntWalk.up_tmod (a := (i : Int)) (b := 72) (y := 72) rfl rfl, IntWalk.up_tmod (a := (k : Int)) (b := 72) (y := 72) rfl rfl]; omega
      have hB : ((i : Int) % 72 == (k : Int) % 72) = false := by rw [beq_eq_false_iff_ne]; omega
      have HNE : Hid (q.2.2 ≠ p.2.2) := Lib.hid (HQP.out (by rw [HJ.out, hj2]; exact hjk))
      go_wp2_with fail
      clear u0 u1 u2 u3 u4 v0 v1 v2 v3 v4 hA hB
      obtain ⟨b0, b1⟩ := fr_cells F9.out
      have hwi : IntKind.i64.wrap (k : Int) = (k : Int) := IntWalk.i64_in _ (by omega)
      have htm : (k : Int).tmod 72 = (j2 : Int) := by rw [hj2]; exact IntWalk.up_tmod rfl rfl
      have hji0 : (0 : Int) ≤ (j2 : Int) := by omega
      have hji1 : (j2 : Int) < 72 := by omega
      have hnzl : nz < W9.heap.size := (Array.getElem?_eq_some_iff.1 F9.out).1
      have HS : Hid (∀ w', Below W9.heap.size W9 w' → (w'.cell? ⟨nz, 0, none⟩ = some (.int .u64 (turnD d q)) ∧ w'.cell? ⟨nz, 1, none⟩ = some (.int .u8 (turnC c q)) ∧ w'.cell? ⟨g, j2 * 3, none⟩ = some (.bool p.1) ∧ w'.cell? ⟨g, j2 * 3 + 1, none⟩ = some (.int .i64 p.2.1) ∧ w'.cell? ⟨g, j2 * 3 + 2, none⟩ = some (.int .i64 p.2.2))) := Lib.hid fun w' h =>
        ⟨(h.cell (p := ⟨nz, 0, none⟩) hnzl).trans b0, (h.cell (p := ⟨nz, 1, none⟩) hnzl).trans b1, (h.cell (p := ⟨g, j2 * 3, none⟩) G9.out).trans Y9.out.1, (h.cell (p := ⟨g, j2 * 3 + 1, none⟩) G9.out).trans Y9.out.2.1, (h.cell (p := ⟨g, j2 * 3 + 2, none⟩) G9.out).trans Y9.out.2.2⟩
      have HT := Lib.hid (turned_says (turnD d q) (turnC c q) p (turnD_lt d q HDC.out.1 hqo) (turnC_lt c q HDC.out.2 hqo) hpo)
      have HMP := Lib.hid (HM3.out q p hqo hpo HNE.out)
      clear b0 b1 hnzl HM3 HNE HQP HJ hj2 hjk
      refine wp_region_held_drew (S := fun w' => w'.cell? ⟨nz, 0, none⟩ = some (.int .u64 (turnD d q)) ∧ w'.cell? ⟨nz, 1, none⟩ = some (.int .u8 (turnC c q)) ∧ w'.cell? ⟨g, j2 * 3, none⟩ = some (.bool p.1) ∧ w'.cell? ⟨g, j2 * 3 + 1, none⟩ = some (.int .i64 p.2.1) ∧ w'.cell? ⟨g, j2 * 3 + 2, none⟩ = some (.int .i64 p.2.2)) (by kernel_rfl) (HS.out _ (Below.refl _ _).drew) (fun hHeld => ?_)
      refine wpAnyH_take (i := 0) (v := .agg #[.int .u64 (turnD d q), .int .u8 (turnC c q)]) rfl (by kernel_rfl) (by kernel_rfl) (by kernel_rfl) (fun _ _ _ h => h) (Or.inl ⟨by rfl, ?_⟩) (by assumption) ?_
      · intro w hSw; (try dsimp only at hSw); go_simp
      try simp only [Act.put, List.setIfInBounds_toArray, List.set_cons_zero, List.set_cons_succ]
      refine wpAnyH_take (i := 1) (v := .slice (some ⟨g, 0, none⟩) 72 cap) rfl (by kernel_rfl) (by kernel_rfl) (by kernel_rfl) (fun _ _ _ h => h) (Or.inl ⟨by rfl, ?_⟩) (by assumption) ?_
      · intro w hSw; (try dsimp only at hSw); go_simp
      try simp only [Act.put, List.setIfInBounds_toArray, List.set_cons_zero, List.set_cons_succ]
      refine wpAnyH_take (i := 2) (v := .int .u8 k) rfl (by kernel_rfl) (by kernel_rfl) (by kernel_rfl) (fun _ _ _ h => h) (Or.inl ⟨by rfl, ?_⟩) (by assumption) ?_
      · intro w hSw; (try dsimp only at hSw); go_simp
      try simp only [Act.put, List.setIfInBounds_toArray, List.set_cons_zero, List.set_cons_succ]
      refine wpAnyH_take (i := 3) (v := .int .i64 k) rfl (by kernel_rfl) (by kernel_rfl) (by kernel_rfl) (fun _ _ _ h => h) (Or.inl ⟨by rfl, ?_⟩) (by assumption) ?_
      · intro w hSw; (try dsimp only at hSw); go_simp
      try simp only [Act.put, List.setIfInBounds_toArray, List.set_cons_zero, List.set_cons_succ]
      refine wpAnyH_take (i := 4) (v := .int .i64 j2) rfl (by kernel_rfl) (by kernel_rfl) (by kernel_rfl) (fun _ _ _ h => h) (Or.inl ⟨by rfl, ?_⟩) (by assumption) ?_
      · intro w hSw; (try dsimp only at hSw); go_simp
      try simp only [Act.put, List.setIfInBounds_toArray, List.set_cons_zero, List.set_cons_succ]
      refine wpAnyH_take (i := 5) (v := .pointer (some ⟨g, j2 * 3, none⟩)) rfl (by kernel_rfl) (by kernel_rfl) (by kernel_rfl) (fun _ _ _ h => h) (Or.inl ⟨by rfl, ?_⟩) (by assumption) ?_
      · intro w hSw; (try dsimp only at hSw); go_simp
      try simp only [Act.put, List.setIfInBounds_toArray, List.set_cons_zero, List.set_cons_succ]
      refine wpAnyH_take (i := 6) (v := .agg #[.bool p.1, .int .i64 p.2.1, .int .i64 p.2.2]) rfl (by kernel_rfl) (by kernel_rfl) (by kernel_rfl) (fun _ _ _ h => h) (Or.inl ⟨by rfl, ?_⟩) (by assumption) ?_
      · intro w hSw; (try dsimp only at hSw); go_simp
      try simp only [Act.put, List.setIfInBounds_toArray, List.set_cons_zero, List.set_cons_succ]
      refine wpAnyH_ready (rs := [7]) (by kernel_rfl) (by simp) ?_
      refine AllReadyH.cons rfl (fun K hK => ?_) AllReadyH.nil
      try rw [if_pos (by rfl)]
      try go_simp
      go_at_call 9
      refine (HT.out _).mono ?_
      rintro e w10 ⟨rfl, hb10⟩
      have hBn := below_chain (W := W9) (Below.refl _ _).drew hb10
      refine hK.out _ _ (HS.out _ hBn) (fun hHeld2 => ?_)
      clear hK K hb10
      try simp only [Act.put, List.setIfInBounds_toArray, List.set_cons_zero, List.set_cons_succ]
      refine wpAnyH_ready (rs := [8]) (by kernel_rfl) (by simp) ?_
      refine AllReadyH.cons rfl (fun K hK => ?_) AllReadyH.nil
      try rw [if_pos (by rfl)]
      try go_simp
      go_at_call 8
      refine (HMP.out _).mono ?_
      rintro e w11 ⟨rfl, hb11⟩
      have hBm := below_chain hBn hb11
      refine hK.out _ _ (HS.out _ hBm) (fun hHeld3 => ?_)
      clear hK K hb11 hBn
      try simp only [Act.put, List.setIfInBounds_toArray, List.set_cons_zero, List.set_cons_succ]
      refine wpAnyH_take (i := 9) (v := .tuple #[sigA 0 0 0 0 0, .bool false, .int .i64 20]) rfl (by kernel_rfl) (by kernel_rfl) (by kernel_rfl) (fun _ _ _ h => h) (Or.inl ⟨by rfl, ?_⟩) (by assumption) ?_
      · intro w hSw; (try dsimp only at hSw); go_simp
      try simp only [Act.put, List.setIfInBounds_toArray, List.set_cons_zero, List.set_cons_succ]
      refine wpAnyH_take (i := 10) (v := sigA 0 0 0 0 0) rfl (by kernel_rfl) (by kernel_rfl) (by kernel_rfl) (fun _ _ _ h => h) (Or.inl ⟨by rfl, ?_⟩) (by assumption) ?_
      · intro w hSw; (try dsimp only at hSw); go_simp
      try simp only [Act.put, List.setIfInBounds_toArray, List.set_cons_zero, List.set_cons_succ]
      refine wpAnyH_take (i := 11) (v := .bool false) rfl (by kernel_rfl) (by kernel_rfl) (by kernel_rfl) (fun _ _ _ h => h) (Or.inl ⟨by rfl, ?_⟩) (by assumption) ?_
      · intro w hSw; (try dsimp only at hSw); go_simp
      try simp only [Act.put, List.setIfInBounds_toArray, List.set_cons_zero, List.set_cons_succ]
      refine wpAnyH_take (i := 12) (v := .int .i64 20) rfl (by kernel_rfl) (by kernel_rfl) (by kernel_rfl) (fun _ _ _ h => h) (Or.inl ⟨by rfl, ?_⟩) (by assumption) ?_
      · intro w hSw; (try dsimp only at hSw); go_simp
      try simp only [Act.put, List.setIfInBounds_toArray, List.set_cons_zero, List.set_cons_succ]
      have s11 := stay S9.out hBm
      obtain ⟨x0, x1, x2, x3, x4⟩ := sig_cells s11
      obtain ⟨l0, l1, l2, l3, l4⟩ := sig_free s11
      obtain ⟨c0, c1, c2, c3, c4⟩ := HS.out w11 hBm
      have hnz := HZ2.out
      have hT11 := below_chain T9.out hBm
      have HX := Lib.hid (And.intro c0 (And.intro c1 (And.intro c2 (And.intro c3 c4))))
      have HT11 := Lib.hid hT11; have S11 := Lib.hid s11
      clear c0 c1 c2 c3 c4 hBm hT11 s11 HS HT HMP R9 S9 F9 Y9 G9 T9 E9 hnz hHeld hHeld2 hwi htm hji0 hji1
      refine wpAnyH_ready (rs := [13]) (by kernel_rfl) (by simp) ?_
      refine AllReadyH.cons rfl (fun K hK => ?_) AllReadyH.nil
      try rw [if_pos (by rfl)]
      go_simp
      obtain ⟨W12, hW12⟩ : ∃ W12, W12 = (((((w11.setCell ⟨n2, 0, none⟩ (.int .i64 0)).setCell ⟨n2, 1, none⟩ (.int .i64 0)).setCell ⟨n2, 2, none⟩ (.int .i64 0)).setCell ⟨n2, 3, none⟩ (.int .i64 0)).setCell ⟨n2, 4, none⟩ (.int .i64 0)) := ⟨_, rfl⟩
      rw [← hW12]
      obtain ⟨s12, k12, z12, b12⟩ := five_set (W9 := W12) S11.out hW12
      have hkz := k12 nz (Ne.symm HZ2.out.1)
      have hkg := k12 g (Nat.ne_of_lt HNN.out.2.2)
      refine hK.out _ _ ⟨(World.cell?_of_block hkz).trans HX.out.1, (World.cell?_of_block hkz).trans HX.out.2.1, (World.cell?_of_block hkg).trans HX.out.2.2.1, (World.cell?_of_block hkg).trans HX.out.2.2.2.1, (World.cell?_of_block hkg).trans HX.out.2.2.2.2⟩ (fun hHeld4 => ?_)
      clear hK K
      try simp only [Act.put, List.setIfInBounds_toArray, List.set_cons_zero, List.set_cons_succ]
      refine wpAnyH_take (i := 14) (v := .bool false) rfl (by kernel_rfl) (by kernel_rfl) (by kernel_rfl) (fun _ _ _ h => h) (Or.inl ⟨by rfl, ?_⟩) (by assumption) ?_
      · intro w hSw; (try dsimp only at hSw); go_simp
      try simp only [Act.put, List.setIfInBounds_toArray, List.set_cons_zero, List.set_cons_succ]
      refine wpAnyH_take (i := 15) (v := .int .i64 20) rfl (by kernel_rfl) (by kernel_rfl) (by kernel_rfl) (fun _ _ _ h => h) (Or.inl ⟨by rfl, ?_⟩) (by assumption) ?_
      · intro w hSw; (try dsimp only at hSw); go_simp
      try simp only [Act.put, List.setIfInBounds_toArray, List.set_cons_zero, List.set_cons_succ]
      clear hHeld4
      refine wpAnyH_done (by kernel_rfl) ?_ _
      have T12 : Hid (Below w.heap.size w W12) := Lib.hid (b12 _ _ HNN.out.2.1 HT11.out)
      have E12 : Hid (Env m W12) := Lib.hid (HE0.out.below T12.out)
      obtain ⟨y0, y1, y2, y3, y4⟩ := sig_cells s12
      clear x0 x1 x2 x3 x4 l0 l1 l2 l3 l4 hW12 k12 z12 b12 hkz hkg s12 HX HT11 S11
      go_wp2_with (go_at_call 6; refine (awake_any m W12 E12.out).mono ?_; rintro e w13 ⟨rfl, hb13⟩; have T13 := Lib.hid (below_chain T12.out hb13); clear hb13)
      go_ret
      exact ⟨rfl, T13.out⟩
end Go.Proofs.YtabjnadfbiohmaaDoor
