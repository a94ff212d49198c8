/- The document's Mend: what Mend answers. -/
import Derived.Test.YtjkjjolalbdhkaaGreatDoorRpRefRight2
import Derived.Test.YtjkjjolalbdhkaaGreatDoorRpMendRef
import Derived.Deep.DeepCutAuto
namespace Go.Proofs.YtjkjjolalbdhkaaGreatDoor
open Go.RowKit

/-- what holds while the document's Mend looks for the bit. -/
structure Mends (w W : World) (n g d c : Nat) : Prop where
  looks : Looks w W n g d c
  res : W.heap[n + 1]? = some (.cells #[.int .i64 0, .int .i64 0, .int .i64 0, .int .i64 0, .int .i64 0] 23 (0, 0))
theorem Mends.next {w W W' : World} {n g d c : Nat} (h : Mends w W n g d c) (hb : Below W.heap.size W W') : Mends w W' n g d c := ⟨h.looks.next hb, stay h.res hb⟩

set_option maxRecDepth 100000 in
set_option maxHeartbeats 4000000 in
theorem refMend_any (d c : Nat) (hd : d < 18446744073709551616) (hc : c < 256) (w : World) :
    Calls Tryz.prog 7 #[.agg #[.int .u64 d, .int .u8 c]] w fun e w' => e = .returned (mendV (mendR d c)) ∧ Below w.heap.size w w' := by
  have HRT : Hid (∀ d' c' : Nat, d' < 18446744073709551616 → c' < 256 → ∀ W, Calls Tryz.prog 14 #[.agg #[.int .u64 d', .int .u8 c']] W fun e w' => e = .returned (.bool (rightL d' c')) ∧ Below W.heap.size W w') := Lib.hid fun d' c' h1 h2 W => refRight_any d' c' h1 h2 W
  have HSI : Hid (∀ d' c' : Nat, d' < 18446744073709551616 → ∀ W, Calls Tryz.prog 18 #[.agg #[.int .u64 d', .int .u8 c']] W fun e w' => e = .returned (sigV d') ∧ Below W.heap.size W w') := Lib.hid fun d' c' h1 W => refSignalOf_any d' c' h1 W
  have HD := Lib.hid hd; have HC := Lib.hid hc
  clear hd hc
  obtain ⟨n, hn⟩ : ∃ n, n = w.heap.size := ⟨_, rfl⟩
  obtain ⟨W, hW⟩ : ∃ W, W = (w.alloc (frO d c)).alloc (.cells #[.int .i64 0, .int .i64 0, .int .i64 0, .int .i64 0, .int .i64 0] 23 (0, 0)) := ⟨_, rfl⟩
  have hWB : Below w.heap.size w W := by rw [hW]; exact ((Below.refl _ _).alloc (Nat.le_refl _) _).alloc (by simp) _
  have hr : W.heap[n + 1]? = some (.cells #[.int .i64 0, .int .i64 0, .int .i64 0, .int .i64 0, .int .i64 0] 23 (0, 0)) := by
    rw [hW, hn]; have := heap_alloc_new (w.alloc (frO d c)) (.cells #[.int .i64 0, .int .i64 0, .int .i64 0, .int .i64 0, .int .i64 0] 23 (0, 0)); rw [World.size_alloc] at this; exact this
  have hbx : W.heap[n]? = some (frO d c) := by
    rw [hW, hn]; exact (Below.heap_alloc _ _ _ (by simp)).trans (heap_alloc_new w _)
  have HW := Lib.hid hW; have HWB := Lib.hid hWB; have HRS := Lib.hid hr; have HBX := Lib.hid hbx; have HN := Lib.hid hn
  have HNN : Hid (w.heap.size ≤ n + 1) := Lib.hid (by rw [hn]; omega)
  clear hW hWB hr hbx hn
  obtain ⟨rb, hrb⟩ : ∃ rb, rb = rightL d c := ⟨_, rfl⟩
  have HR0 := Lib.hid (HRT.out d c HD.out HC.out)
  rw [← hrb] at HR0
  have HRB := Lib.hid hrb; clear hrb
  go_enter Tryz.func7, Tryz.ntmps7
  go_wp2_with fail
  rw [← HW.out, ← HN.out]
  refine (HR0.out W).mono ?_
  rintro e w1 ⟨rfl, hb1⟩
  have f1 := stay HBX.out hb1
  obtain ⟨y0, y1⟩ := fr_cells f1
  have HS1 := Lib.hid (stay HRS.out hb1); have HB1 := Lib.hid (below_chain HWB.out hb1); have HF1 := Lib.hid f1
  clear HR0 HW HWB HRS HBX hb1 f1
  cases rb with
  | true =>
    have HR : Hid (mendV (mendR d c) = .tuple #[sigV d, .bool false, .int .i64 0]) := Lib.hid (by rw [mendR_right d c ((right_is d c HD.out HC.out).1 HRB.out.symm)]; rfl)
    have HS := Lib.hid (HSI.out d c HD.out)
    obtain ⟨a0, a1, a2, a3, a4, ha⟩ : ∃ a0 a1 a2 a3 a4 : Int, sigV d = .agg #[.int .i64 a0, .int .i64 a1, .int .i64 a2, .int .i64 a3, .int .i64 a4] := ⟨_, _, _, _, _, rfl⟩
    rw [ha] at HR HS
    clear ha HRB HRT HSI
    go_wp2_with fail
    refine (HS.out w1).mono ?_
    rintro e w2 ⟨rfl, hb2⟩
    have HSG := Lib.hid (stay HS1.out hb2); have HBW := Lib.hid (below_chain HB1.out hb2)
    obtain ⟨g0, g1, g2, g3, g4⟩ := sig_cells HSG.out
    obtain ⟨z0, z1, z2, z3, z4⟩ := sig_free HSG.out
    clear hb2 HS HS1 HB1 HF1 y0 y1
    go_wp2
    obtain ⟨s9, _, _, b9⟩ := five_set (W9 := ((((((w2.setCell ⟨n + 1, 0, none⟩ (.int .i64 a0)).setCell ⟨n + 1, 1, none⟩ (.int .i64 a1)).setCell ⟨n + 1, 2, none⟩ (.int .i64 a2)).setCell ⟨n + 1, 3, none⟩ (.int .i64 a3)).setCell ⟨n + 1, 4, none⟩ (.int .i64 a4)))) HSG.out rfl
    obtain ⟨v0, v1, v2, v3, v4⟩ := sig_cells s9
    exact bodyPost_ret (v := .tuple #[.agg #[.int .i64 a0, .int .i64 a1, .int .i64 a2, .int .i64 a3, .int .i64 a4], .bool false, .int .i64 0]) (by simp [results, Tryz.results7, go_sem, v0, v1, v2, v3, v4]) rfl ⟨by rw [HR.out], b9 _ _ HNN.out HBW.out⟩
  | false =>
    have HNR : Hid (¬ RightF d c) := Lib.hid fun h => by have := (right_is d c HD.out HC.out).2 h; rw [← HRB.out] at this; cases this
    clear y0 y1
    go_wp2_with fail
    refine (refBits_any w1).mono ?_
    rintro e w2 ⟨v, rfl, hrow, hb2⟩
    obtain ⟨g, cap, rfl, hNg, hg, hcell⟩ := bit_cells hrow
    have HM : Hid (Mends w w2 n g d c) := Lib.hid ⟨⟨stay HF1.out hb2, ⟨hg, hcell⟩, below_chain HB1.out hb2⟩, stay HS1.out hb2⟩
    clear hrow hb2 hNg hg hcell HF1 HB1 HS1 HRB
    go_wp2_with fail
    go_loopw [6] (fun iv wr => ∃ i : Nat, i ≤ 72 ∧ iv = .int .i64 i ∧ Hid (Mends w wr n g d c ∧ ∀ j b, j < i → bitT[j]? = some b → ¬ RightF (turnD d b) (turnC c b))) (fun iv _ => 72 - (intOf iv).toNat)
    case atStart => exact ⟨0, Nat.zero_le _, rfl, Lib.hid ⟨HM.out, fun j b hj => absurd hj (Nat.not_lt_zero j)⟩⟩
    case round =>
      obtain ⟨i, hi, rfl, HI⟩ := hrel
      by_cases hi72 : i < 72
      · obtain ⟨b, hb, hok, hat⟩ := bitT_get hi72
        obtain ⟨x0, x1, x2⟩ := HI.out.1.looks.bits.2 i b hb
        obtain ⟨f0, f1⟩ := fr_cells HI.out.1.looks.frame
        have hlt1 : n < wr.heap.size := (Array.getElem?_eq_some_iff.1 HI.out.1.looks.frame).1
        have hlt2 : g < wr.heap.size := HI.out.1.looks.bits.1
        have HS : Hid (∀ w', Below wr.heap.size wr w' → (w'.cell? ⟨n, 0, none⟩ = some (.int .u64 d) ∧ w'.cell? ⟨n, 1, none⟩ = some (.int .u8 c) ∧ w'.cell? ⟨g, i * 3, none⟩ = some (.bool b.1) ∧ w'.cell? ⟨g, i * 3 + 1, none⟩ = some (.int .i64 b.2.1) ∧ w'.cell? ⟨g, i * 3 + 2, none⟩ = some (.int .i64 b.2.2) ∧ Below wr.heap.size wr w')) := Lib.hid fun w' h =>
          ⟨(h.cell (p := ⟨n, 0, none⟩) hlt1).trans f0, (h.cell (p := ⟨n, 1, none⟩) hlt1).trans f1, (h.cell (p := ⟨g, i * 3, none⟩) hlt2).trans x0, (h.cell (p := ⟨g, i * 3 + 1, none⟩) hlt2).trans x1, (h.cell (p := ⟨g, i * 3 + 2, none⟩) hlt2).trans x2, h⟩
        have HT := Lib.hid (turned_says d c b HD.out HC.out hok)
        have hmem : b ∈ bitT := List.mem_of_getElem? hb
        have HMEM := Lib.hid hmem; have HBI := Lib.hid hb
        have HD2 : Hid (turnD d b < 18446744073709551616) := Lib.hid (turnD_lt d b HD.out hok)
        have HC2 : Hid (turnC c b < 256) := Lib.hid (turnC_lt c b HC.out hok)
        have HI72 := Lib.hid hi72
        clear x0 x1 x2 f0 f1 hlt1 hlt2 hmem hb hok hat
        go_upto_region 7 with fail
        go_cut [7] from 13 to 28 (fun t wx => ∃ nz, t = .pointer (some ⟨nz, 0, none⟩) ∧ Hid (wx.heap[nz]? = some (frO (turnD d b) (turnC c b)) ∧ Below wr.heap.size wr wx ∧ wr.heap.size ≤ nz))
        case first =>
          refine wp_region_held_drew (S := (fun w' => w'.cell? ⟨n, 0, none⟩ = some (.int .u64 d) ∧ w'.cell? ⟨n, 1, none⟩ = some (.int .u8 c) ∧ w'.cell? ⟨g, i * 3, none⟩ = some (.bool b.1) ∧ w'.cell? ⟨g, i * 3 + 1, none⟩ = some (.int .i64 b.2.1) ∧ w'.cell? ⟨g, i * 3 + 2, none⟩ = some (.int .i64 b.2.2) ∧ Below wr.heap.size wr w')) (by kernel_rfl) (HS.out _ (Below.refl _ _).drew) (fun hHeld => ?_)
          refine takeH (i := 0) (n := 19) (v := .agg #[.int .u64 d, .int .u8 c]) rfl rfl (by kernel_rfl) (by kernel_rfl) (by kernel_rfl) (fun _ _ _ h => h) (Or.inl ⟨by kernel_rfl, ?_⟩) (by assumption) ?_
          · intro w hSw; (try dsimp only at hSw); go_simp
          try simp only [Act.put, List.setIfInBounds_toArray, List.set_cons_zero, List.set_cons_succ]
          refine takeH (i := 1) (n := 20) (v := .slice (some ⟨g, 0, none⟩) 72 cap) rfl rfl (by kernel_rfl) (by kernel_rfl) (by kernel_rfl) (fun _ _ _ h => h) (Or.inl ⟨by kernel_rfl, ?_⟩) (by assumption) ?_
          · intro w hSw; (try dsimp only at hSw); go_simp
          try simp only [Act.put, List.setIfInBounds_toArray, List.set_cons_zero, List.set_cons_succ]
          refine takeH (i := 2) (n := 21) (v := .int .i64 i) rfl rfl (by kernel_rfl) (by kernel_rfl) (by kernel_rfl) (fun _ _ _ h => h) (Or.inl ⟨by kernel_rfl, ?_⟩) (by assumption) ?_
          · intro w hSw; (try dsimp only at hSw); go_simp
          try simp only [Act.put, List.setIfInBounds_toArray, List.set_cons_zero, List.set_cons_succ]
          refine takeH (i := 3) (n := 22) (v := .pointer (some ⟨g, i * 3, none⟩)) rfl rfl (by kernel_rfl) (by kernel_rfl) (by kernel_rfl) (fun _ _ _ h => h) (Or.inl ⟨by kernel_rfl, ?_⟩) (by assumption) ?_
          · intro w hSw; (try dsimp only at hSw); go_simp
          try simp only [Act.put, List.setIfInBounds_toArray, List.set_cons_zero, List.set_cons_succ]
          refine takeH (i := 4) (n := 23) (v := .agg #[.bool b.1, .int .i64 b.2.1, .int .i64 b.2.2]) rfl rfl (by kernel_rfl) (by kernel_rfl) (by kernel_rfl) (fun _ _ _ h => h) (Or.inl ⟨by kernel_rfl, ?_⟩) (by assumption) ?_
          · intro w hSw; (try dsimp only at hSw); go_simp
          try simp only [Act.put, List.setIfInBounds_toArray, List.set_cons_zero, List.set_cons_succ]
          refine wpAnyH_ready (rs := [5, 6]) (by kernel_rfl) (by simp) ?_
          refine AllReadyH.cons rfl (fun K hK => ?_) (AllReadyH.cons rfl (fun K hK => ?_) AllReadyH.nil)
          · try rw [if_pos (by kernel_rfl)]
            try go_simp
            go_at_call 20
            refine (HT.out _).mono ?_
            rintro e w6 ⟨rfl, hb⟩
            have hBn := below_chain (W := wr) (Below.refl _ _).drew hb
            refine hK.out _ _ (HS.out _ hBn) (fun hHeld2 => ?_)
            clear hK K
            try simp only [Act.put, List.getElem_toArray, List.getElem_cons_succ, List.getElem_cons_zero, List.setIfInBounds_toArray, List.set_cons_zero, List.set_cons_succ]
            refine wpAnyH_ready (rs := [6]) (by kernel_rfl) (by simp) ?_
            refine AllReadyH.cons rfl (fun K hK => ?_) AllReadyH.nil
            try rw [if_pos (by kernel_rfl)]
            try go_simp
            refine hK.out _ _ (HS.out _ (hBn.alloc hBn.size _)) (fun hHeld3 => ?_)
            clear hK K
            try simp only [Act.put, List.getElem_toArray, List.getElem_cons_succ, List.getElem_cons_zero, List.setIfInBounds_toArray, List.set_cons_zero, List.set_cons_succ]
            refine wpAnyH_ready (rs := [7]) (by kernel_rfl) (by simp) ?_
            refine AllReadyH.cons rfl (fun K hK => ?_) AllReadyH.nil
            try rw [if_pos (by kernel_rfl)]
            try go_simp
            refine hK.out _ _ (HS.out _ (hBn.alloc hBn.size _)) (fun hHeld4 => ?_)
            clear hK K
            refine wpAnyH_done (by kernel_rfl) ?_ _
            clear hHeld hHeld2 hHeld3 hHeld4
            go_wp2_with fail
            go_meet
            case rel => exact ⟨w6.heap.size, rfl, Lib.hid ⟨heap_alloc_new _ _, hBn.alloc hBn.size _, hBn.size⟩⟩
          · try rw [if_pos (by kernel_rfl)]
            try go_simp
            refine hK.out _ _ (HS.out _ ((Below.refl _ _).drew.alloc (Nat.le_refl _) _)) (fun hHeld3 => ?_)
            clear hK K
            try simp only [Act.put, List.getElem_toArray, List.getElem_cons_succ, List.getElem_cons_zero, List.setIfInBounds_toArray, List.set_cons_zero, List.set_cons_succ]
            refine wpAnyH_ready (rs := [5]) (by kernel_rfl) (by simp) ?_
            refine AllReadyH.cons rfl (fun K hK => ?_) AllReadyH.nil
            try rw [if_pos (by kernel_rfl)]
            try go_simp
            go_at_call 20
            refine (HT.out _).mono ?_
            rintro e w6 ⟨rfl, hb⟩
            have hBn := below_chain (W := wr) ((Below.refl _ _).drew.alloc (Nat.le_refl _) _) hb
            refine hK.out _ _ (HS.out _ hBn) (fun hHeld2 => ?_)
            clear hK K
            try simp only [Act.put, List.getElem_toArray, List.getElem_cons_succ, List.getElem_cons_zero, List.setIfInBounds_toArray, List.set_cons_zero, List.set_cons_succ]
            refine wpAnyH_ready (rs := [7]) (by kernel_rfl) (by simp) ?_
            refine AllReadyH.cons rfl (fun K hK => ?_) AllReadyH.nil
            try rw [if_pos (by kernel_rfl)]
            obtain ⟨nn0, nn1, nn2, nn3⟩ := new_cells hb
            try go_simp
            refine hK.out _ _ (HS.out _ ((hBn.setCell (p := ⟨wr.heap.size, 0, none⟩) (Nat.le_refl _) _).setCell (p := ⟨wr.heap.size, 1, none⟩) (Nat.le_refl _) _)) (fun hHeld4 => ?_)
            clear hK K
            refine wpAnyH_done (by kernel_rfl) ?_ _
            clear hHeld hHeld2 hHeld3 hHeld4
            go_wp2_with fail
            go_meet
            have hz : w6.heap[wr.heap.size]? = some (.cells #[.int .u64 0, .int .u8 0] 26 (0, 0)) := stay (heap_alloc_new wr.drew (.cells #[.int .u64 0, .int .u8 0] 26)) hb
            have hz2 := heap_set (heap_set hz 0 (.int .u64 (turnD d b))) 1 (.int .u8 (turnC c b))
            simp only [List.setIfInBounds_toArray, List.set_cons_zero, List.set_cons_succ] at hz2
            case rel => exact ⟨wr.heap.size, rfl, Lib.hid ⟨hz2, (hBn.setCell (p := ⟨wr.heap.size, 0, none⟩) (Nat.le_refl _) _).setCell (p := ⟨wr.heap.size, 1, none⟩) (Nat.le_refl _) _, Nat.le_refl _⟩⟩
        case rest =>
          obtain ⟨nz, rfl, HZ⟩ := hcut
          obtain ⟨d2, hd2⟩ : ∃ d2, d2 = turnD d b := ⟨_, rfl⟩
          obtain ⟨c2, hc2⟩ : ∃ c2, c2 = turnC c b := ⟨_, rfl⟩
          rw [← hd2] at HZ HD2
          rw [← hc2] at HZ HC2
          have HMN := Lib.hid (HI.out.1.next HZ.out.2.1)
          have HF2 := Lib.hid HZ.out.1
          obtain ⟨rb, hrb⟩ : ∃ rb, rb = rightL d2 c2 := ⟨_, rfl⟩
          have HR2 := Lib.hid (HRT.out d2 c2 HD2.out HC2.out)
          rw [← hrb] at HR2
          have HE : Hid (rb = rightL d2 c2 ∧ d2 = turnD d b ∧ c2 = turnC c b) := Lib.hid ⟨hrb, hd2, hc2⟩
          clear HZ HS HT hrb hd2 hc2
          obtain ⟨y0, y1⟩ := fr_cells HF2.out
          go_wp2_with fail
          refine (HR2.out wc).mono ?_
          rintro e w5 ⟨rfl, hb5⟩
          have HM5 := Lib.hid (HMN.out.next hb5)
          have HF5 := Lib.hid (stay HF2.out hb5)
          clear hb5 HR2 HMN HF2 y0 y1
          cases rb with
          | true =>
            have HR : Hid (mendV (mendR d c) = .tuple #[sigV d2, .bool true, .int .i64 0]) := Lib.hid (by
              rw [mend_found d c b HD.out HC.out HMEM.out (by have := (right_is d2 c2 HD2.out HC2.out).1 HE.out.1.symm; rwa [HE.out.2.1, HE.out.2.2] at this), ← HE.out.2.1]; rfl)
            have HS := Lib.hid (HSI.out d2 c2 HD2.out)
            obtain ⟨a0, a1, a2, a3, a4, ha⟩ : ∃ a0 a1 a2 a3 a4 : Int, sigV d2 = .agg #[.int .i64 a0, .int .i64 a1, .int .i64 a2, .int .i64 a3, .int .i64 a4] := ⟨_, _, _, _, _, rfl⟩
            rw [ha] at HR HS
            obtain ⟨y0, y1⟩ := fr_cells HF5.out
            clear ha HRT HSI HE
            go_wp2_with fail
            refine (HS.out w5).mono ?_
            rintro e w6 ⟨rfl, hb6⟩
            have hm6 := HM5.out.next hb6
            have HSG := Lib.hid hm6.res; have HBW := Lib.hid hm6.looks.below
            obtain ⟨g0, g1, g2, g3, g4⟩ := sig_cells HSG.out
            obtain ⟨z0, z1, z2, z3, z4⟩ := sig_free HSG.out
            clear hb6 hm6 HS HM5 HF5 y0 y1
            go_wp2
            obtain ⟨s9, _, _, b9⟩ := five_set (W9 := ((((((w6.setCell ⟨n + 1, 0, none⟩ (.int .i64 a0)).setCell ⟨n + 1, 1, none⟩ (.int .i64 a1)).setCell ⟨n + 1, 2, none⟩ (.int .i64 a2)).setCell ⟨n + 1, 3, none⟩ (.int .i64 a3)).setCell ⟨n + 1, 4, none⟩ (.int .i64 a4)))) HSG.out rfl
            obtain ⟨v0, v1, v2, v3, v4⟩ := sig_cells s9
            exact bodyPost_ret (v := .tuple #[.agg #[.int .i64 a0, .int .i64 a1, .int .i64 a2, .int .i64 a3, .int .i64 a4], .bool true, .int .i64 0]) (by simp [results, Tryz.results7, go_sem, v0, v1, v2, v3, v4]) rfl ⟨by rw [HR.out], b9 _ _ HNN.out HBW.out⟩
          | false =>
            have HNO : Hid (¬ RightF (turnD d b) (turnC c b)) := Lib.hid fun h => by
              rw [← HE.out.2.1, ← HE.out.2.2] at h
              have := (right_is d2 c2 HD2.out HC2.out).2 h; rw [← HE.out.1] at this; cases this
            clear HE HF5
            go_wp2
            go_roundw
            case rel => exact ⟨i + 1, by have := HI72.out; omega, by go_num, Lib.hid ⟨HM5.out, fun j b' hj hb' => by
              by_cases e : j = i
              · subst e; rw [HBI.out] at hb'; cases hb'; exact HNO.out
              · exact HI.out.2 j b' (by omega) hb'⟩⟩
            case measure => have := HI72.out; simp [intOf]; omega
      · have HR : Hid (mendV (mendR d c) = .tuple #[.agg #[.int .i64 0, .int .i64 0, .int .i64 0, .int .i64 0, .int .i64 0], .bool false, .int .i64 20]) := Lib.hid (by
          rw [mend_lost d c HD.out HC.out HNR.out (fun b hb => by
            obtain ⟨j, hj, e⟩ := List.mem_iff_getElem.1 hb
            have hj72 : j < 72 := by rw [← bitT_len]; exact hj
            exact HI.out.2 j b (by omega) (by rw [List.getElem?_eq_getElem hj, e]))]
          rfl)
        have HSG := Lib.hid HI.out.1.res; have HBW := Lib.hid HI.out.1.looks.below
        obtain ⟨g0, g1, g2, g3, g4⟩ := sig_cells HSG.out
        obtain ⟨z0, z1, z2, z3, z4⟩ := sig_free HSG.out
        have HI72 := Lib.hid hi72
        clear HNR HRT HSI
        go_wp2
        obtain ⟨s9, _, _, b9⟩ := five_set (W9 := (((((wr.setCell ⟨n + 1, 0, none⟩ (.int .i64 0)).setCell ⟨n + 1, 1, none⟩ (.int .i64 0)).setCell ⟨n + 1, 2, none⟩ (.int .i64 0)).setCell ⟨n + 1, 3, none⟩ (.int .i64 0)).setCell ⟨n + 1, 4, none⟩ (.int .i64 0))) HSG.out rfl
        obtain ⟨v0, v1, v2, v3, v4⟩ := sig_cells s9
        exact bodyPost_ret (v := .tuple #[.agg #[.int .i64 0, .int .i64 0, .int .i64 0, .int .i64 0, .int .i64 0], .bool false, .int .i64 20]) (by simp [results, Tryz.results7, go_sem, v0, v1, v2, v3, v4]) rfl ⟨by rw [HR.out], b9 _ _ HNN.out HBW.out⟩
end Go.Proofs.YtjkjjolalbdhkaaGreatDoor
