/- Several parts: isConvex. CheckArea in general. -/
import Derived.Test.YtjcaaejfokmolaaGreatDoorRpHull
import Derived.Test.YtjcaaejfokmolaaGreatDoorRpTake
import Derived.Test.YtjcaaejfokmolaaGreatDoorRpOneR
/- isConvex. -/
namespace Go.Proofs.YtjcaaejfokmolaaGreatDoor
open Go.RowKit

set_option maxRecDepth 100000 in
set_option maxHeartbeats 4000000 in
theorem isConvex_any (A : Option Addr) (cap : Nat) (l : List (Int × Int)) (w : World) (h : Area w (.slice A l.length cap) l) (hm : l.length ≤ 1000) (hl : ∀ k, k < l.length → near2 (atZ l k)) :
    Calls Tryz.prog 32 #[.slice A l.length cap] w fun e w' => e = .returned (.bool (convexB l)) ∧ Below w.heap.size w w' := by
  have HA := Lib.hid h; have HL := Lib.hid hl
  clear h hl
  obtain ⟨n, hn⟩ : ∃ n, n = l.length := ⟨_, rfl⟩
  rw [← hn] at hm ⊢
  have HN := Lib.hid hn; clear hn
  go_enter Tryz.func32, Tryz.ntmps32
  go_wp2
  go_loopw [7] (fun iv wr => ∃ k : Nat, k ≤ n ∧ iv = .int .i64 k ∧ Hid (Below w.heap.size w wr ∧ ∀ j, j < k → cornerB l j = true)) (fun iv _ => n - (intOf iv).toNat)
  case atStart => exact ⟨0, Nat.zero_le _, rfl, Lib.hid ⟨Below.refl _ _, fun j hj => absurd hj (Nat.not_lt_zero j)⟩⟩
  case round =>
    obtain ⟨k, hk, rfl, HI⟩ := hrel
    by_cases hlt : k < n
    · have hlt' : k < l.length := by rw [← HN.out]; exact hlt
      have hsz : w.heap.size ≤ wr.heap.size := HI.out.1.size
      have hAr : Area wr (.slice A n cap) l := by have := HA.out.below HI.out.1; rw [← HN.out] at this; exact this
      obtain ⟨hnn, hcap, g, off, rfl, hg, c1, c2⟩ := hAr.at_ hlt'
      clear hnn
      obtain ⟨a, ha⟩ : ∃ a, a = atZ l k := ⟨_, rfl⟩
      obtain ⟨b, hb⟩ : ∃ b, b = atZ l ((k + 1) % l.length) := ⟨_, rfl⟩
      obtain ⟨c, hc⟩ : ∃ c, c = atZ l ((k + 2) % l.length) := ⟨_, rfl⟩
      obtain ⟨r, hr⟩ : ∃ r, r = turnZ a b c := ⟨_, rfl⟩
      rw [← ha] at c1 c2
      obtain ⟨W, hW⟩ : ∃ W, W = wr.alloc (.cells #[.int .i64 a.1, .int .i64 a.2] 24) := ⟨_, rfl⟩
      have hWb : Below wr.heap.size wr W := by rw [hW]; exact (Below.refl _ _).alloc (Nat.le_refl _) _
      have hWs : W.heap.size = wr.heap.size + 1 := by rw [hW]; simp
      have a1 : W.cell? ⟨wr.heap.size, 0, none⟩ = some (.int .i64 a.1) := by rw [hW]; exact cellNew wr _ _ 0
      have a2 : W.cell? ⟨wr.heap.size, 1, none⟩ = some (.int .i64 a.2) := by rw [hW]; exact cellNew wr _ _ 1
      have HS : Hid (∀ w', Below W.heap.size W w' → (w'.cell? ⟨wr.heap.size, 0, none⟩ = some (.int .i64 a.1) ∧ w'.cell? ⟨wr.heap.size, 1, none⟩ = some (.int .i64 a.2) ∧ Below W.heap.size W w')) := Lib.hid fun w' h =>
        ⟨(h.cell (p := ⟨wr.heap.size, 0, none⟩) (by simp only; omega)).trans a1, (h.cell (p := ⟨wr.heap.size, 1, none⟩) (by simp only; omega)).trans a2, h⟩
      have hArW : Area W (.slice (some ⟨g, off, none⟩) n cap) l := hAr.below hWb
      obtain ⟨ins, hins⟩ : ∃ ins, ins = insideB l a := ⟨_, rfl⟩
      have HIN : Hid (∀ w', Below W.heap.size W w' → Calls Tryz.prog 37 #[.slice (some ⟨g, off, none⟩) n cap, .agg #[.int .i64 a.1, .int .i64 a.2]] w' fun e w2 => e = .returned (.bool ins) ∧ Below w'.heap.size w' w2) := Lib.hid fun w' h => by
        have h1 := hArW.below h
        rw [HN.out] at h1 ⊢
        rw [hins]; exact isInside_any _ cap l a w' h1 (by have := HN.out; omega) HL.out (by rw [ha]; exact HL.out k hlt')
      have HAF : Hid (∀ w', Below W.heap.size W w' → Calls Tryz.prog 75 #[.slice (some ⟨g, off, none⟩) n cap, .int .i64 k] w' fun e w2 => e = .returned (.agg #[.int .i64 b.1, .int .i64 b.2]) ∧ Below w'.heap.size w' w2) := Lib.hid fun w' h => by
        rw [hb]; exact after_any _ n cap l k w' (hArW.below h) (by omega) (by omega) (by have := HN.out; omega)
      have HAG : Hid (∀ w', Below W.heap.size W w' → Calls Tryz.prog 75 #[.slice (some ⟨g, off, none⟩) n cap, .int .i64 (k + 1)] w' fun e w2 => e = .returned (.agg #[.int .i64 c.1, .int .i64 c.2]) ∧ Below w'.heap.size w' w2) := Lib.hid fun w' h => by
        rw [hc]; exact after_any _ n cap l (k + 1) w' (hArW.below h) (by omega) (by omega) (by have := HN.out; omega)
      have HT : Hid (∀ w', Calls Tryz.prog 74 #[.agg #[.int .i64 a.1, .int .i64 a.2], .agg #[.int .i64 b.1, .int .i64 b.2], .agg #[.int .i64 c.1, .int .i64 c.2]] w' fun e w2 => e = .returned (.int .i64 r) ∧ Below w'.heap.size w' w2) := Lib.hid fun w' => by
        rw [hr]; exact turn_any a b c w' (by rw [ha]; exact HL.out k hlt') (by rw [hb]; exact HL.out _ (Nat.mod_lt _ (by omega))) (by rw [hc]; exact HL.out _ (Nat.mod_lt _ (by omega)))
      have HBW : Hid (Below w.heap.size w W) := Lib.hid (HI.out.1.trans (hWb.mono hsz))
      have HWS : Hid (w.heap.size ≤ W.heap.size) := Lib.hid (by omega)
      have HCOR : Hid (cornerB l k = (ins && decide (0 < r))) := Lib.hid (by rw [hr, hins, ha, hb, hc]; rfl)
      have HWW := Lib.hid hW
      have HLT' := Lib.hid hlt'
      have hwrap : IntKind.i64.wrap ((k : Int) + 1) = k + 1 := IntWalk.i64_in _ (by omega)
      clear hAr hArW hWb hWs a1 a2 ha hb hc hr hins hsz hW hlt'
      have HLT := Lib.hid hlt
      cases ins with
      | false =>
        have HF : Hid (convexB l = false) := Lib.hid (range_all_false HLT'.out (by rw [HCOR.out]; rfl))
        go_wp2_with fail
        rw [← HWW.out]
        have hB4 := (Below.refl W.heap.size W).drew
        refine wp_region_held_drew (S := (fun w' => w'.cell? ⟨wr.heap.size, 0, none⟩ = some (.int .i64 a.1) ∧ w'.cell? ⟨wr.heap.size, 1, none⟩ = some (.int .i64 a.2) ∧ Below W.heap.size W w')) (by kernel_rfl) (HS.out _ hB4) (fun hHeld => ?_)
        refine takeH (i := 0) (n := 12) (v := .slice (some ⟨g, off, none⟩) n cap) rfl rfl (by kernel_rfl) (by kernel_rfl) (by kernel_rfl) (fun _ _ _ h => h) (Or.inl ⟨by kernel_rfl, ?_⟩) (by assumption) ?_
        · intro w hSw; (try dsimp only at hSw); go_simp
        try simp only [Act.put, List.setIfInBounds_toArray, List.set_cons_zero, List.set_cons_succ]
        refine takeH (i := 1) (n := 13) (v := .agg #[.int .i64 a.1, .int .i64 a.2]) rfl rfl (by kernel_rfl) (by kernel_rfl) (by kernel_rfl) (fun _ _ _ h => h) (Or.inl ⟨by kernel_rfl, ?_⟩) (by assumption) ?_
        · intro w hSw; (try dsimp only at hSw); go_simp
        try simp only [Act.put, List.setIfInBounds_toArray, List.set_cons_zero, List.set_cons_succ]
        refine wpAnyH_ready (rs := [2]) (by kernel_rfl) (by simp) ?_
        refine AllReadyH.cons rfl (fun K hK => ?_) AllReadyH.nil
        try rw [if_pos (by kernel_rfl)]
        try go_simp
        go_at_call 37
        refine (HIN.out _ hB4).mono ?_
        rintro e w5 ⟨rfl, hb⟩
        have hB5 := below_chain (W := W) hB4 hb
        refine hK.out _ _ (HS.out _ hB5) (fun hHeld => ?_)
        clear hK K hb
        try simp only [Act.put, List.getElem_toArray, List.getElem_cons_succ, List.getElem_cons_zero, List.setIfInBounds_toArray, List.set_cons_zero, List.set_cons_succ]
        refine takeH (i := 3) (n := 15) (v := .bool true) rfl rfl (by kernel_rfl) (by kernel_rfl) (by kernel_rfl) (fun _ _ _ h => h) (Or.inl ⟨by kernel_rfl, ?_⟩) (by assumption) ?_
        · intro w hSw; (try dsimp only at hSw); go_simp
        try simp only [Act.put, List.setIfInBounds_toArray, List.set_cons_zero, List.set_cons_succ]
        refine takeH (i := 4) (n := 16) (v := .bool true) rfl rfl (by kernel_rfl) (by kernel_rfl) (by kernel_rfl) (fun _ _ _ h => h) (Or.inl ⟨by kernel_rfl, ?_⟩) (by assumption) ?_
        · intro w hSw; (try dsimp only at hSw); go_simp
        try simp only [Act.put, List.setIfInBounds_toArray, List.set_cons_zero, List.set_cons_succ]
        refine takeH (i := 5) (n := 17) (v := undef) rfl rfl (by kernel_rfl) (by kernel_rfl) (by kernel_rfl) (fun _ _ _ h => h) (Or.inr ⟨by kernel_rfl, rfl⟩) (by assumption) ?_
        try simp only [Act.put, List.setIfInBounds_toArray, List.set_cons_zero, List.set_cons_succ]
        refine takeH (i := 6) (n := 18) (v := undef) rfl rfl (by kernel_rfl) (by kernel_rfl) (by kernel_rfl) (fun _ _ _ h => h) (Or.inr ⟨by kernel_rfl, rfl⟩) (by assumption) ?_
        try simp only [Act.put, List.setIfInBounds_toArray, List.set_cons_zero, List.set_cons_succ]
        refine takeH (i := 7) (n := 19) (v := undef) rfl rfl (by kernel_rfl) (by kernel_rfl) (by kernel_rfl) (fun _ _ _ h => h) (Or.inr ⟨by kernel_rfl, rfl⟩) (by assumption) ?_
        try simp only [Act.put, List.setIfInBounds_toArray, List.set_cons_zero, List.set_cons_succ]
        refine takeH (i := 8) (n := 20) (v := undef) rfl rfl (by kernel_rfl) (by kernel_rfl) (by kernel_rfl) (fun _ _ _ h => h) (Or.inr ⟨by kernel_rfl, rfl⟩) (by assumption) ?_
        try simp only [Act.put, List.setIfInBounds_toArray, List.set_cons_zero, List.set_cons_succ]
        refine takeH (i := 9) (n := 21) (v := undef) rfl rfl (by kernel_rfl) (by kernel_rfl) (by kernel_rfl) (fun _ _ _ h => h) (Or.inr ⟨by kernel_rfl, rfl⟩) (by assumption) ?_
        try simp only [Act.put, List.setIfInBounds_toArray, List.set_cons_zero, List.set_cons_succ]
        refine takeH (i := 10) (n := 22) (v := undef) rfl rfl (by kernel_rfl) (by kernel_rfl) (by kernel_rfl) (fun _ _ _ h => h) (Or.inr ⟨by kernel_rfl, rfl⟩) (by assumption) ?_
        try simp only [Act.put, List.setIfInBounds_toArray, List.set_cons_zero, List.set_cons_succ]
        refine takeH (i := 11) (n := 23) (v := undef) rfl rfl (by kernel_rfl) (by kernel_rfl) (by kernel_rfl) (fun _ _ _ h => h) (Or.inr ⟨by kernel_rfl, rfl⟩) (by assumption) ?_
        try simp only [Act.put, List.setIfInBounds_toArray, List.set_cons_zero, List.set_cons_succ]
        refine takeH (i := 12) (n := 24) (v := undef) rfl rfl (by kernel_rfl) (by kernel_rfl) (by kernel_rfl) (fun _ _ _ h => h) (Or.inr ⟨by kernel_rfl, rfl⟩) (by assumption) ?_
        try simp only [Act.put, List.setIfInBounds_toArray, List.set_cons_zero, List.set_cons_succ]
        refine takeH (i := 13) (n := 25) (v := undef) rfl rfl (by kernel_rfl) (by kernel_rfl) (by kernel_rfl) (fun _ _ _ h => h) (Or.inr ⟨by kernel_rfl, rfl⟩) (by assumption) ?_
        try simp only [Act.put, List.setIfInBounds_toArray, List.set_cons_zero, List.set_cons_succ]
        refine takeH (i := 14) (n := 26) (v := undef) rfl rfl (by kernel_rfl) (by kernel_rfl) (by kernel_rfl) (fun _ _ _ h => h) (Or.inr ⟨by kernel_rfl, rfl⟩) (by assumption) ?_
        try simp only [Act.put, List.setIfInBounds_toArray, List.set_cons_zero, List.set_cons_succ]
        refine takeH (i := 15) (n := 27) (v := .bool true) rfl rfl (by kernel_rfl) (by kernel_rfl) (by kernel_rfl) (fun _ _ _ h => h) (Or.inl ⟨by kernel_rfl, ?_⟩) (by assumption) ?_
        · intro w hSw; (try dsimp only at hSw); go_simp
        try simp only [Act.put, List.setIfInBounds_toArray, List.set_cons_zero, List.set_cons_succ]
        refine wpAnyH_done (by kernel_rfl) ?_ _
        have HZ := Lib.hid (HBW.out.trans (hB5.mono HWS.out))
        clear HS HAF HAG HT HIN HBW HWS hB4 hB5
        go_wp2
        go_ret
        exact ⟨by rw [HF.out]; rfl, HZ.out⟩
      | true =>
        by_cases hr0 : r ≤ 0
        · have HF : Hid (convexB l = false) := Lib.hid (range_all_false HLT'.out (by rw [HCOR.out, decide_eq_false (by omega)]; rfl))
          go_wp2_with fail
          rw [← HWW.out]
          have hB4 := (Below.refl W.heap.size W).drew
          refine wp_region_held_drew (S := (fun w' => w'.cell? ⟨wr.heap.size, 0, none⟩ = some (.int .i64 a.1) ∧ w'.cell? ⟨wr.heap.size, 1, none⟩ = some (.int .i64 a.2) ∧ Below W.heap.size W w')) (by kernel_rfl) (HS.out _ hB4) (fun hHeld => ?_)
          refine takeH (i := 0) (n := 12) (v := .slice (some ⟨g, off, none⟩) n cap) rfl rfl (by kernel_rfl) (by kernel_rfl) (by kernel_rfl) (fun _ _ _ h => h) (Or.inl ⟨by kernel_rfl, ?_⟩) (by assumption) ?_
          · intro w hSw; (try dsimp only at hSw); go_simp
          try simp only [Act.put, List.setIfInBounds_toArray, List.set_cons_zero, List.set_cons_succ]
          refine takeH (i := 1) (n := 13) (v := .agg #[.int .i64 a.1, .int .i64 a.2]) rfl rfl (by kernel_rfl) (by kernel_rfl) (by kernel_rfl) (fun _ _ _ h => h) (Or.inl ⟨by kernel_rfl, ?_⟩) (by assumption) ?_
          · intro w hSw; (try dsimp only at hSw); go_simp
          try simp only [Act.put, List.setIfInBounds_toArray, List.set_cons_zero, List.set_cons_succ]
          refine wpAnyH_ready (rs := [2]) (by kernel_rfl) (by simp) ?_
          refine AllReadyH.cons rfl (fun K hK => ?_) AllReadyH.nil
          try rw [if_pos (by kernel_rfl)]
          try go_simp
          go_at_call 37
          refine (HIN.out _ hB4).mono ?_
          rintro e w5 ⟨rfl, hb⟩
          have hB5 := below_chain (W := W) hB4 hb
          refine hK.out _ _ (HS.out _ hB5) (fun hHeld => ?_)
          clear hK K hb
          try simp only [Act.put, List.getElem_toArray, List.getElem_cons_succ, List.getElem_cons_zero, List.setIfInBounds_toArray, List.set_cons_zero, List.set_cons_succ]
          refine takeH (i := 3) (n := 15) (v := .bool false) rfl rfl (by kernel_rfl) (by kernel_rfl) (by kernel_rfl) (fun _ _ _ h => h) (Or.inl ⟨by kernel_rfl, ?_⟩) (by assumption) ?_
          · intro w hSw; (try dsimp only at hSw); go_simp
          try simp only [Act.put, List.setIfInBounds_toArray, List.set_cons_zero, List.set_cons_succ]
          refine takeH (i := 4) (n := 16) (v := .bool false) rfl rfl (by kernel_rfl) (by kernel_rfl) (by kernel_rfl) (fun _ _ _ h => h) (Or.inl ⟨by kernel_rfl, ?_⟩) (by assumption) ?_
          · intro w hSw; (try dsimp only at hSw); go_simp
          try simp only [Act.put, List.setIfInBounds_toArray, List.set_cons_zero, List.set_cons_succ]
          refine takeH (i := 5) (n := 17) (v := .agg #[.int .i64 a.1, .int .i64 a.2]) rfl rfl (by kernel_rfl) (by kernel_rfl) (by kernel_rfl) (fun _ _ _ h => h) (Or.inl ⟨by kernel_rfl, ?_⟩) (by assumption) ?_
          · intro w hSw; (try dsimp only at hSw); go_simp
          try simp only [Act.put, List.setIfInBounds_toArray, List.set_cons_zero, List.set_cons_succ]
          refine takeH (i := 6) (n := 18) (v := .slice (some ⟨g, off, none⟩) n cap) rfl rfl (by kernel_rfl) (by kernel_rfl) (by kernel_rfl) (fun _ _ _ h => h) (Or.inl ⟨by kernel_rfl, ?_⟩) (by assumption) ?_
          · intro w hSw; (try dsimp only at hSw); go_simp
          try simp only [Act.put, List.setIfInBounds_toArray, List.set_cons_zero, List.set_cons_succ]
          refine takeH (i := 7) (n := 19) (v := .int .i64 k) rfl rfl (by kernel_rfl) (by kernel_rfl) (by kernel_rfl) (fun _ _ _ h => h) (Or.inl ⟨by kernel_rfl, ?_⟩) (by assumption) ?_
          · intro w hSw; (try dsimp only at hSw); go_simp
          try simp only [Act.put, List.setIfInBounds_toArray, List.set_cons_zero, List.set_cons_succ]
          refine takeH (i := 9) (n := 21) (v := .slice (some ⟨g, off, none⟩) n cap) rfl rfl (by kernel_rfl) (by kernel_rfl) (by kernel_rfl) (fun _ _ _ h => h) (Or.inl ⟨by kernel_rfl, ?_⟩) (by assumption) ?_
          · intro w hSw; (try dsimp only at hSw); go_simp
          try simp only [Act.put, List.setIfInBounds_toArray, List.set_cons_zero, List.set_cons_succ]
          refine takeH (i := 10) (n := 22) (v := .int .i64 k) rfl rfl (by kernel_rfl) (by kernel_rfl) (by kernel_rfl) (fun _ _ _ h => h) (Or.inl ⟨by kernel_rfl, ?_⟩) (by assumption) ?_
          · intro w hSw; (try dsimp only at hSw); go_simp
          try simp only [Act.put, List.setIfInBounds_toArray, List.set_cons_zero, List.set_cons_succ]
          refine takeH (i := 11) (n := 23) (v := .int .i64 (k + 1)) rfl rfl (by kernel_rfl) (by kernel_rfl) (by kernel_rfl) (fun _ _ _ h => h) (Or.inl ⟨by kernel_rfl, ?_⟩) (by assumption) ?_
          · intro w hSw; (try dsimp only at hSw); go_simp
          try simp only [Act.put, List.setIfInBounds_toArray, List.set_cons_zero, List.set_cons_succ]
          refine wpAnyH_ready (rs := [8]) (by kernel_rfl) (by simp) ?_
          refine AllReadyH.cons rfl (fun K hK => ?_) AllReadyH.nil
          try rw [if_pos (by kernel_rfl)]
          try go_simp
          go_at_call 75
          refine (HAF.out _ hB5).mono ?_
          rintro e w6 ⟨rfl, hb⟩
          have hB6 := below_chain (W := W) hB5 hb
          refine hK.out _ _ (HS.out _ hB6) (fun hHeld => ?_)
          clear hK K hb
          try simp only [Act.put, List.getElem_toArray, List.getElem_cons_succ, List.getElem_cons_zero, List.setIfInBounds_toArray, List.set_cons_zero, List.set_cons_succ]
          refine wpAnyH_ready (rs := [12]) (by kernel_rfl) (by simp) ?_
          refine AllReadyH.cons rfl (fun K hK => ?_) AllReadyH.nil
          try rw [if_pos (by kernel_rfl)]
          try go_simp
          go_at_call 75
          refine (HAG.out _ hB6).mono ?_
          rintro e w7 ⟨rfl, hb⟩
          have hB7 := below_chain (W := W) hB6 hb
          refine hK.out _ _ (HS.out _ hB7) (fun hHeld => ?_)
          clear hK K hb
          try simp only [Act.put, List.getElem_toArray, List.getElem_cons_succ, List.getElem_cons_zero, List.setIfInBounds_toArray, List.set_cons_zero, List.set_cons_succ]
          refine wpAnyH_ready (rs := [13]) (by kernel_rfl) (by simp) ?_
          refine AllReadyH.cons rfl (fun K hK => ?_) AllReadyH.nil
          try rw [if_pos (by kernel_rfl)]
          try go_simp
          go_at_call 74
          refine (HT.out _).mono ?_
          rintro e w8 ⟨rfl, hb⟩
          have hB8 := below_chain (W := W) hB7 hb
          refine hK.out _ _ (HS.out _ hB8) (fun hHeld => ?_)
          clear hK K hb
          try simp only [Act.put, List.getElem_toArray, List.getElem_cons_succ, List.getElem_cons_zero, List.setIfInBounds_toArray, List.set_cons_zero, List.set_cons_succ]
          refine takeH (i := 14) (n := 26) (v := .bool true) rfl rfl (by kernel_rfl) (by kernel_rfl) (by kernel_rfl) (fun _ _ _ h => h) (Or.inl ⟨by kernel_rfl, ?_⟩) (by assumption) ?_
          · intro w hSw; (try dsimp only at hSw); go_simp
          try simp only [Act.put, List.setIfInBounds_toArray, List.set_cons_zero, List.set_cons_succ]
          refine takeH (i := 15) (n := 27) (v := .bool true) rfl rfl (by kernel_rfl) (by kernel_rfl) (by kernel_rfl) (fun _ _ _ h => h) (Or.inl ⟨by kernel_rfl, ?_⟩) (by assumption) ?_
          · intro w hSw; (try dsimp only at hSw); go_simp
          try simp only [Act.put, List.setIfInBounds_toArray, List.set_cons_zero, List.set_cons_succ]
          refine wpAnyH_done (by kernel_rfl) ?_ _
          have HZ := Lib.hid (HBW.out.trans (hB8.mono HWS.out))
          clear HS HAF HAG HT HIN HBW HWS hB4 hB5 hB6 hB7 hB8
          go_wp2
          go_ret
          exact ⟨by rw [HF.out]; rfl, HZ.out⟩
        · have HF : Hid (cornerB l k = true) := Lib.hid (by rw [HCOR.out, decide_eq_true (by omega)]; rfl)
          go_wp2_with fail
          rw [← HWW.out]
          have hB4 := (Below.refl W.heap.size W).drew
          refine wp_region_held_drew (S := (fun w' => w'.cell? ⟨wr.heap.size, 0, none⟩ = some (.int .i64 a.1) ∧ w'.cell? ⟨wr.heap.size, 1, none⟩ = some (.int .i64 a.2) ∧ Below W.heap.size W w')) (by kernel_rfl) (HS.out _ hB4) (fun hHeld => ?_)
          refine takeH (i := 0) (n := 12) (v := .slice (some ⟨g, off, none⟩) n cap) rfl rfl (by kernel_rfl) (by kernel_rfl) (by kernel_rfl) (fun _ _ _ h => h) (Or.inl ⟨by kernel_rfl, ?_⟩) (by assumption) ?_
          · intro w hSw; (try dsimp only at hSw); go_simp
          try simp only [Act.put, List.setIfInBounds_toArray, List.set_cons_zero, List.set_cons_succ]
          refine takeH (i := 1) (n := 13) (v := .agg #[.int .i64 a.1, .int .i64 a.2]) rfl rfl (by kernel_rfl) (by kernel_rfl) (by kernel_rfl) (fun _ _ _ h => h) (Or.inl ⟨by kernel_rfl, ?_⟩) (by assumption) ?_
          · intro w hSw; (try dsimp only at hSw); go_simp
          try simp only [Act.put, List.setIfInBounds_toArray, List.set_cons_zero, List.set_cons_succ]
          refine wpAnyH_ready (rs := [2]) (by kernel_rfl) (by simp) ?_
          refine AllReadyH.cons rfl (fun K hK => ?_) AllReadyH.nil
          try rw [if_pos (by kernel_rfl)]
          try go_simp
          go_at_call 37
          refine (HIN.out _ hB4).mono ?_
          rintro e w5 ⟨rfl, hb⟩
          have hB5 := below_chain (W := W) hB4 hb
          refine hK.out _ _ (HS.out _ hB5) (fun hHeld => ?_)
          clear hK K hb
          try simp only [Act.put, List.getElem_toArray, List.getElem_cons_succ, List.getElem_cons_zero, List.setIfInBounds_toArray, List.set_cons_zero, List.set_cons_succ]
          refine takeH (i := 3) (n := 15) (v := .bool false) rfl rfl (by kernel_rfl) (by kernel_rfl) (by kernel_rfl) (fun _ _ _ h => h) (Or.inl ⟨by kernel_rfl, ?_⟩) (by assumption) ?_
          · intro w hSw; (try dsimp only at hSw); go_simp
          try simp only [Act.put, List.setIfInBounds_toArray, List.set_cons_zero, List.set_cons_succ]
          refine takeH (i := 4) (n := 16) (v := .bool false) rfl rfl (by kernel_rfl) (by kernel_rfl) (by kernel_rfl) (fun _ _ _ h => h) (Or.inl ⟨by kernel_rfl, ?_⟩) (by assumption) ?_
          · intro w hSw; (try dsimp only at hSw); go_simp
          try simp only [Act.put, List.setIfInBounds_toArray, List.set_cons_zero, List.set_cons_succ]
          refine takeH (i := 5) (n := 17) (v := .agg #[.int .i64 a.1, .int .i64 a.2]) rfl rfl (by kernel_rfl) (by kernel_rfl) (by kernel_rfl) (fun _ _ _ h => h) (Or.inl ⟨by kernel_rfl, ?_⟩) (by assumption) ?_
          · intro w hSw; (try dsimp only at hSw); go_simp
          try simp only [Act.put, List.setIfInBounds_toArray, List.set_cons_zero, List.set_cons_succ]
          refine takeH (i := 6) (n := 18) (v := .slice (some ⟨g, off, none⟩) n cap) rfl rfl (by kernel_rfl) (by kernel_rfl) (by kernel_rfl) (fun _ _ _ h => h) (Or.inl ⟨by kernel_rfl, ?_⟩) (by assumption) ?_
          · intro w hSw; (try dsimp only at hSw); go_simp
          try simp only [Act.put, List.setIfInBounds_toArray, List.set_cons_zero, List.set_cons_succ]
          refine takeH (i := 7) (n := 19) (v := .int .i64 k) rfl rfl (by kernel_rfl) (by kernel_rfl) (by kernel_rfl) (fun _ _ _ h => h) (Or.inl ⟨by kernel_rfl, ?_⟩) (by assumption) ?_
          · intro w hSw; (try dsimp only at hSw); go_simp
          try simp only [Act.put, List.setIfInBounds_toArray, List.set_cons_zero, List.set_cons_succ]
          refine takeH (i := 9) (n := 21) (v := .slice (some ⟨g, off, none⟩) n cap) rfl rfl (by kernel_rfl) (by kernel_rfl) (by kernel_rfl) (fun _ _ _ h => h) (Or.inl ⟨by kernel_rfl, ?_⟩) (by assumption) ?_
          · intro w hSw; (try dsimp only at hSw); go_simp
          try simp only [Act.put, List.setIfInBounds_toArray, List.set_cons_zero, List.set_cons_succ]
          refine takeH (i := 10) (n := 22) (v := .int .i64 k) rfl rfl (by kernel_rfl) (by kernel_rfl) (by kernel_rfl) (fun _ _ _ h => h) (Or.inl ⟨by kernel_rfl, ?_⟩) (by assumption) ?_
          · intro w hSw; (try dsimp only at hSw); go_simp
          try simp only [Act.put, List.setIfInBounds_toArray, List.set_cons_zero, List.set_cons_succ]
          refine takeH (i := 11) (n := 23) (v := .int .i64 (k + 1)) rfl rfl (by kernel_rfl) (by kernel_rfl) (by kernel_rfl) (fun _ _ _ h => h) (Or.inl ⟨by kernel_rfl, ?_⟩) (by assumption) ?_
          · intro w hSw; (try dsimp only at hSw); go_simp
          try simp only [Act.put, List.setIfInBounds_toArray, List.set_cons_zero, List.set_cons_succ]
          refine wpAnyH_ready (rs := [8]) (by kernel_rfl) (by simp) ?_
          refine AllReadyH.cons rfl (fun K hK => ?_) AllReadyH.nil
          try rw [if_pos (by kernel_rfl)]
          try go_simp
          go_at_call 75
          refine (HAF.out _ hB5).mono ?_
          rintro e w6 ⟨rfl, hb⟩
          have hB6 := below_chain (W := W) hB5 hb
          refine hK.out _ _ (HS.out _ hB6) (fun hHeld => ?_)
          clear hK K hb
          try simp only [Act.put, List.getElem_toArray, List.getElem_cons_succ, List.getElem_cons_zero, List.setIfInBounds_toArray, List.set_cons_zero, List.set_cons_succ]
          refine wpAnyH_ready (rs := [12]) (by kernel_rfl) (by simp) ?_
          refine AllReadyH.cons rfl (fun K hK => ?_) AllReadyH.nil
          try rw [if_pos (by kernel_rfl)]
          try go_simp
          go_at_call 75
          refine (HAG.out _ hB6).mono ?_
          rintro e w7 ⟨rfl, hb⟩
          have hB7 := below_chain (W := W) hB6 hb
          refine hK.out _ _ (HS.out _ hB7) (fun hHeld => ?_)
          clear hK K hb
          try simp only [Act.put, List.getElem_toArray, List.getElem_cons_succ, List.getElem_cons_zero, List.setIfInBounds_toArray, List.set_cons_zero, List.set_cons_succ]
          refine wpAnyH_ready (rs := [13]) (by kernel_rfl) (by simp) ?_
          refine AllReadyH.cons rfl (fun K hK => ?_) AllReadyH.nil
          try rw [if_pos (by kernel_rfl)]
          try go_simp
          go_at_call 74
          refine (HT.out _).mono ?_
          rintro e w8 ⟨rfl, hb⟩
          have hB8 := below_chain (W := W) hB7 hb
          refine hK.out _ _ (HS.out _ hB8) (fun hHeld => ?_)
          clear hK K hb
          try simp only [Act.put, List.getElem_toArray, List.getElem_cons_succ, List.getElem_cons_zero, List.setIfInBounds_toArray, List.set_cons_zero, List.set_cons_succ]
          refine takeH (i := 14) (n := 26) (v := .bool false) rfl rfl (by kernel_rfl) (by kernel_rfl) (by kernel_rfl) (fun _ _ _ h => h) (Or.inl ⟨by kernel_rfl, ?_⟩) (by assumption) ?_
          · intro w hSw; (try dsimp only at hSw); go_simp
          try simp only [Act.put, List.setIfInBounds_toArray, List.set_cons_zero, List.set_cons_succ]
          refine takeH (i := 15) (n := 27) (v := .bool false) rfl rfl (by kernel_rfl) (by kernel_rfl) (by kernel_rfl) (fun _ _ _ h => h) (Or.inl ⟨by kernel_rfl, ?_⟩) (by assumption) ?_
          · intro w hSw; (try dsimp only at hSw); go_simp
          try simp only [Act.put, List.setIfInBounds_toArray, List.set_cons_zero, List.set_cons_succ]
          refine wpAnyH_done (by kernel_rfl) ?_ _
          have HZ := Lib.hid (HBW.out.trans (hB8.mono HWS.out))
          clear HS HAF HAG HT HIN HBW HWS hB4 hB5 hB6 hB7 hB8
          go_wp2
          go_roundw
          case rel => exact ⟨k + 1, by have := HLT.out; omega, by go_num, Lib.hid ⟨HZ.out, fun j hj => by
            by_cases e : j = k
            · subst e; exact HF.out
            · exact HI.out.2 j (by omega)⟩⟩
          case measure => have := HLT.out; simp [intOf]; omega
    · have hall : convexB l = true := range_all_true fun j hj => HI.out.2 j (by have := HN.out; omega)
      have HF := Lib.hid hall; clear hall
      go_wp2
      go_ret
      exact ⟨by rw [HF.out]; rfl, HI.out.1⟩
end Go.Proofs.YtjcaaejfokmolaaGreatDoor
/- CheckArea in general. -/
namespace Go.Proofs.YtjcaaejfokmolaaGreatDoor
open Go.RowKit

theorem all_atZ (l : List (Int × Int)) : l.all placeB = (List.range l.length).all (fun k => placeB (atZ l k)) := by
  rw [Bool.eq_iff_iff, List.all_eq_true, List.all_eq_true]
  constructor
  · intro h k hk
    have hk := List.mem_range.1 hk
    have e : atZ l k = l[k] := by simp [atZ, hk]
    rw [e]; exact h _ (List.getElem_mem hk)
  · intro h p hp
    obtain ⟨k, hk, rfl⟩ := List.mem_iff_getElem.1 hp
    have := h k (List.mem_range.2 hk)
    simpa [atZ, hk] using this
theorem place_near2 {p : Int × Int} (h : placeB p = true) : near2 p := by
  unfold placeB at h
  rw [Bool.and_eq_true, inB_true, inB_true] at h
  unfold near2; omega
theorem areaB_len {l : List (Int × Int)} (h : ¬ (1 ≤ l.length ∧ l.length ≤ 12)) : areaB l = false := by unfold areaB; rw [decide_eq_false h]; rfl
theorem areaB_place {l : List (Int × Int)} {k : Nat} (hk : k < l.length) (h : placeB (atZ l k) = false) : areaB l = false := by
  unfold areaB
  rw [show l.all placeB = false by rw [all_atZ]; exact range_all_false hk h, Bool.false_and, Bool.and_false]
theorem areaB_in {l : List (Int × Int)} (h : 1 ≤ l.length ∧ l.length ≤ 12) (hp : ∀ k, k < l.length → placeB (atZ l k) = true) : areaB l = if l.length = 1 then true else if l.length = 2 then decide (atZ l 0 ≠ atZ l 1) else convexB l := by
  unfold areaB
  rw [decide_eq_true h, show l.all placeB = true by rw [all_atZ]; exact range_all_true hp, Bool.true_and, Bool.true_and]

/-- the two places of an area of two. -/
theorem Area.two {w : World} {A : Option Addr} {cap : Nat} {l : List (Int × Int)} (h : Area w (.slice A 2 cap) l) (hl : l.length = 2) : ∃ g off, A = some ⟨g, off, none⟩ ∧ 2 ≤ cap ∧ g < w.heap.size ∧ w.cell? ⟨g, off, none⟩ = some (.int .i64 (atZ l 0).1) ∧ w.cell? ⟨g, off + 1, none⟩ = some (.int .i64 (atZ l 0).2) ∧ w.cell? ⟨g, off + 2, none⟩ = some (.int .i64 (atZ l 1).1) ∧ w.cell? ⟨g, off + 2 + 1, none⟩ = some (.int .i64 (atZ l 1).2) := by
  obtain ⟨_, hcap, g, off, rfl, hg, c1, c2⟩ := h.at_ (k := 0) (by omega)
  obtain ⟨_, _, g', off', hgo, _, c3, c4⟩ := h.at_ (k := 1) (by omega)
  injection hgo with hgo; injection hgo with e1 e2; subst e1; subst e2
  exact ⟨g, off, rfl, hcap, hg, c1, c2, c3, c4⟩
set_option maxRecDepth 100000 in
set_option maxHeartbeats 4000000 in
theorem CheckArea_any (A : Option Addr) (cap : Nat) (l : List (Int × Int)) (w : World) (h : Area w (.slice A l.length cap) l) (hm : l.length ≤ 1000000) :
    Calls Tryz.prog 10 #[.slice A l.length cap] w fun e w' => e = .returned (.bool (areaB l)) ∧ Below w.heap.size w w' := by
  have HA := Lib.hid h
  clear h
  obtain ⟨n, hn⟩ : ∃ n, n = l.length := ⟨_, rfl⟩
  rw [← hn] at hm ⊢
  have HN := Lib.hid hn; clear hn
  by_cases hr : 1 ≤ n ∧ n ≤ 12
  · have HFR : Hid (∀ W, Calls Tryz.prog 30 #[.int .i64 n, .int .i64 1, .int .i64 12] W fun e w' => e = .returned (.bool true) ∧ W = w') := Lib.hid fun W => by
      have := isFrom_any n 1 12 W
      rwa [show inB n 1 12 = true from inB_true.2 (by omega)] at this
    have HR := Lib.hid hr
    obtain ⟨hr1, hr2⟩ := hr
    go_enter Tryz.func10, Tryz.ntmps10
    go_wp2_with (go_at_call 30; ((with_reducible refine (HFR.out _).mono ?_); rintro e w' ⟨rfl, rfl⟩))
    go_loopw [11] (fun iv wr => ∃ k : Nat, k ≤ n ∧ iv = .int .i64 k ∧ Hid (Below w.heap.size w wr ∧ ∀ j, j < k → placeB (atZ l j) = true)) (fun iv _ => n - (intOf iv).toNat)
    case atStart => exact ⟨0, Nat.zero_le _, rfl, Lib.hid ⟨Below.refl _ _, fun j hj => absurd hj (Nat.not_lt_zero j)⟩⟩
    case round =>
      obtain ⟨k, hk, rfl, HI⟩ := hrel
      by_cases hlt : k < n
      · have hlt' : k < l.length := by rw [← HN.out]; exact hlt
        have hAr : Area wr (.slice A n cap) l := by have := HA.out.below HI.out.1; rw [← HN.out] at this; exact this
        obtain ⟨hnn, hcap, g, off, rfl, hg, c1, c2⟩ := hAr.at_ hlt'
        clear hnn
        obtain ⟨p, hp⟩ : ∃ p, p = atZ l k := ⟨_, rfl⟩
        rw [← hp] at c1 c2
        obtain ⟨b, hb⟩ : ∃ b, b = placeB p := ⟨_, rfl⟩
        have HPL : Hid (∀ W, Calls Tryz.prog 31 #[.agg #[.int .i64 p.1, .int .i64 p.2]] W fun e w' => e = .returned (.bool b) ∧ Below W.heap.size W w') := Lib.hid fun W => by rw [hb]; exact isPlace_any p W
        have HB : Hid (placeB (atZ l k) = b) := Lib.hid (by rw [hb, hp])
        have HLT := Lib.hid hlt; have HLT' := Lib.hid hlt'
        clear hAr hp hb hlt'
        cases b with
        | true =>
          go_wp2_with (go_at_call 31; ((with_reducible refine (HPL.out _).mono ?_); rintro e w' ⟨rfl, hb⟩); have HB2 := Lib.hid hb; clear hb)
          go_roundw
          case rel => exact ⟨k + 1, by omega, by go_num, Lib.hid ⟨below_chain (HI.out.1.trans (((Below.refl _ _).alloc (Nat.le_refl _) _).mono HI.out.1.size)) HB2.out, fun j hj => by
            by_cases e : j = k
            · subst e; exact HB.out
            · exact HI.out.2 j (by omega)⟩⟩
          case measure => have := HLT.out; simp [intOf]; omega
        | false =>
          go_wp2_with (go_at_call 31; ((with_reducible refine (HPL.out _).mono ?_); rintro e w' ⟨rfl, hb⟩); have HB2 := Lib.hid hb; clear hb)
          go_ret
          exact ⟨by rw [areaB_place HLT'.out HB.out]; rfl, below_chain (HI.out.1.trans (((Below.refl _ _).alloc (Nat.le_refl _) _).mono HI.out.1.size)) HB2.out⟩
      · obtain rfl : k = n := by omega
        have HP : Hid (∀ j, j < l.length → placeB (atZ l j) = true) := Lib.hid fun j hj => HI.out.2 j (by rw [HN.out]; exact hj)
        have HQ : Hid (areaB l = if l.length = 1 then true else if l.length = 2 then decide (atZ l 0 ≠ atZ l 1) else convexB l) := Lib.hid (areaB_in (by rw [← HN.out]; exact HR.out) HP.out)
        have HAr : Hid (Area wr (.slice A k cap) l) := Lib.hid (by have := HA.out.below HI.out.1; rw [← HN.out] at this; exact this)
        by_cases n1 : k = 1
        · subst n1
          have HX : Hid (areaB l = true) := Lib.hid (by rw [HQ.out, if_pos HN.out.symm])
          go_wp2
          go_ret
          exact ⟨by rw [HX.out]; rfl, HI.out.1⟩
        · by_cases n2 : k = 2
          · subst n2
            have HX : Hid (areaB l = decide (atZ l 0 ≠ atZ l 1)) := Lib.hid (by rw [HQ.out, if_neg (by rw [← HN.out]; omega), if_pos HN.out.symm])
            obtain ⟨hnn, hcap, g, off, rfl, hg, c1, c2⟩ := HAr.out.at_ (k := 0) (by rw [← HN.out]; omega)
            obtain ⟨hnn', hcap', g', off', hgo, _, c3, c4⟩ := HAr.out.at_ (k := 1) (by rw [← HN.out]; omega)
            injection hgo with hgo; injection hgo with e1 e2; subst e1; subst e2
            obtain ⟨p, hp⟩ : ∃ p, p = atZ l 0 := ⟨_, rfl⟩
            obtain ⟨q, hq⟩ : ∃ q, q = atZ l 1 := ⟨_, rfl⟩
            rw [← hp] at c1 c2; rw [← hq] at c3 c4
            rw [← hp, ← hq] at HX
            obtain ⟨p1, p2⟩ := p; obtain ⟨q1, q2⟩ := q
            simp only [Nat.zero_mul, Nat.add_zero, Nat.one_mul] at c1 c2 c3 c4
            clear hnn hnn' hp hq HAr HQ HP
            by_cases e1 : p1 = q1
            · by_cases e2 : p2 = q2
              · have HY : Hid (areaB l = false) := Lib.hid (by rw [HX.out, e1, e2]; simp)
                clear HX
                go_wp2_with fail
                go_quiet (fail)
                go_wp2
                go_ret
                exact ⟨by rw [HY.out]; rfl, HI.out.1.trans ⟨rfl, rfl, rfl, Nat.le_refl _, fun _ _ => rfl⟩⟩
              · have HY : Hid (areaB l = true) := Lib.hid (by rw [HX.out]; simp [e2])
                clear HX
                go_wp2_with fail
                go_quiet (fail)
                go_wp2
                go_ret
                exact ⟨by rw [HY.out]; rfl, HI.out.1.trans ⟨rfl, rfl, rfl, Nat.le_refl _, fun _ _ => rfl⟩⟩
            · have HY : Hid (areaB l = true) := Lib.hid (by rw [HX.out]; simp [e1])
              clear HX
              go_wp2_with fail
              go_quiet (fail)
              go_wp2
              go_ret
              exact ⟨by rw [HY.out]; rfl, HI.out.1.trans ⟨rfl, rfl, rfl, Nat.le_refl _, fun _ _ => rfl⟩⟩
          · have HX : Hid (areaB l = convexB l) := Lib.hid (by rw [HQ.out, if_neg (by rw [← HN.out]; omega), if_neg (by rw [← HN.out]; omega)])
            have HC : Hid (Calls Tryz.prog 32 #[.slice A k cap] wr fun e w' => e = .returned (.bool (convexB l)) ∧ Below wr.heap.size wr w') := Lib.hid (by
              have := isConvex_any A cap l wr (by rw [← HN.out]; exact HAr.out) (by rw [← HN.out]; have := HR.out; omega) (fun j hj => place_near2 (HP.out j hj))
              rw [← HN.out] at this; exact this)
            obtain ⟨q, hq⟩ : ∃ q, q = convexB l := ⟨_, rfl⟩
            rw [← hq] at HX HC
            clear hq HQ
            go_wp2_with (go_at_call 32; (refine HC.out.mono ?_); rintro e w' ⟨rfl, hb⟩; have HB2 := Lib.hid hb; clear hb)
            go_ret
            exact ⟨by rw [HX.out]; rfl, HI.out.1.trans (HB2.out.mono HI.out.1.size)⟩
  · have HX : Hid (areaB l = false) := Lib.hid (areaB_len (by rw [← HN.out]; exact hr))
    have HFR : Hid (∀ W, Calls Tryz.prog 30 #[.int .i64 n, .int .i64 1, .int .i64 12] W fun e w' => e = .returned (.bool false) ∧ W = w') := Lib.hid fun W => by
      have := isFrom_any n 1 12 W
      rwa [show inB n 1 12 = false from inB_false.2 (by omega)] at this
    clear hr
    go_enter Tryz.func10, Tryz.ntmps10
    go_wp2_with (go_at_call 30; ((with_reducible refine (HFR.out _).mono ?_); rintro e w' ⟨rfl, rfl⟩))
    go_ret
    exact ⟨by rw [HX.out]; rfl, Below.refl _ _⟩
end Go.Proofs.YtjcaaejfokmolaaGreatDoor
