/- The law of areas: its walk. -/
import Derived.Test.YtbfleemflhlfbaaGreatDoorRpHasRef
import Derived.Test.YtbfleemflhlfbaaGreatDoorRpAwake
namespace Go.Proofs.YtbfleemflhlfbaaGreatDoor
open Go.RowKit

set_option maxRecDepth 100000 in
set_option maxHeartbeats 2000000 in
theorem areas_law (A : Option Addr) (cap : Nat) (l : List (Int × Int)) (p : Int × Int) (m : Int) (w : World) (h : Area w (.slice A l.length cap) l) (hmx : l.length ≤ maxLen) (hE : Env m w) :
    Calls Tryz.prog 3 #[.slice A l.length cap, spotV p] w fun e w' => e = .returned (.bool true) ∧ Below w.heap.size w w' := by
  obtain ⟨W, hW⟩ : ∃ W, W = w.alloc (spO p) := ⟨_, rfl⟩
  have hWB : Below w.heap.size w W := by rw [hW]; exact new_below _ _
  obtain ⟨m0, hm0⟩ : ∃ m, m = w.heap.size := ⟨_, rfl⟩
  have hp0 : W.heap[m0]? = some (spO p) := by rw [hW, hm0]; exact heap_alloc_new _ _
  have HA := Lib.hid (h.below hWB); have HE := Lib.hid (hE.below hWB)
  obtain ⟨n, hn⟩ : ∃ n, n = l.length := ⟨_, rfl⟩
  rw [← hn] at hmx ⊢
  have HN := Lib.hid hn; have HW := Lib.hid hW; have HWB := Lib.hid hWB; have HP0 := Lib.hid hp0; have HM0 := Lib.hid hm0
  clear h hn hW hWB hp0 hE hm0
  unfold spotV
  have hmx' : n ≤ 9223372036854775807 := by unfold maxLen at hmx; omega
  clear hmx
  by_cases h40 : 40 < n
  · go_enter Tryz.func3, Tryz.ntmps3
    go_wp2_with fail
    rw [← HW.out]
    refine (awake_any m W HE.out).mono ?_
    rintro e w1 ⟨rfl, hb1⟩
    have HZ := Lib.hid (below_chain HWB.out hb1)
    clear hb1 HA HE HW HWB HP0
    go_wp2
    go_ret
    exact ⟨rfl, HZ.out⟩
  · obtain ⟨qa, hqa⟩ : ∃ q, q = areaB l := ⟨_, rfl⟩
    obtain ⟨qh, hqh⟩ : ∃ q, q = hasB l p := ⟨_, rfl⟩
    have HL : Hid (l.length ≤ 1000000) := Lib.hid (by rw [← HN.out]; omega)
    have HC1 : Hid (∀ X, Area X (.slice A n cap) l → Calls Tryz.prog 7 #[.slice A n cap] X fun e w' => e = .returned (.bool qa) ∧ Below X.heap.size X w') := Lib.hid fun X hX => by
      have := CheckArea_any A cap l X (by rw [← HN.out]; exact hX) HL.out; rw [← HN.out, ← hqa] at this; exact this
    have HC2 : Hid (∀ X, Area X (.slice A n cap) l → Calls Tryz.prog 8 #[.slice A n cap] X fun e w' => e = .returned (.bool qa) ∧ Below X.heap.size X w') := Lib.hid fun X hX => by
      have := refCheckArea_any A cap l X (by rw [← HN.out]; exact hX) HL.out; rw [← HN.out, ← area_same, ← hqa] at this; exact this
    have HH1 : Hid (∀ X, Area X (.slice A n cap) l → Calls Tryz.prog 9 #[.slice A n cap, .agg #[.int .i64 p.1, .int .i64 p.2]] X fun e w' => e = .returned (.bool qh) ∧ Below X.heap.size X w') := Lib.hid fun X hX => by
      have := Has_any A cap l p X (by rw [← HN.out]; exact hX) HL.out; rw [← HN.out, ← hqh] at this; exact this
    have HH2 : Hid (∀ X, Area X (.slice A n cap) l → Calls Tryz.prog 10 #[.slice A n cap, .agg #[.int .i64 p.1, .int .i64 p.2]] X fun e w' => e = .returned (.bool qh) ∧ Below X.heap.size X w') := Lib.hid fun X hX => by
      have := refHas_any A cap l p X (by rw [← HN.out]; exact hX) HL.out; rw [← HN.out, ← hqh] at this; exact this
    have HAW : Hid (Area W (.slice A n cap) l) := Lib.hid (by have := HA.out; rw [← HN.out] at this; exact this)
    have HS : Hid (∀ w', Below W.heap.size W w' → (w'.cell? ⟨m0, 0, none⟩ = some (.int .i64 p.1) ∧ w'.cell? ⟨m0, 1, none⟩ = some (.int .i64 p.2) ∧ Below W.heap.size W w')) := Lib.hid fun w' h =>
      ⟨(spot_cells (stay HP0.out h)).1, (spot_cells (stay HP0.out h)).2, h⟩
    clear hqa hqh HA HP0 HL
    go_enter Tryz.func3, Tryz.ntmps3
    go_upto_region 3 with fail
    rw [← HW.out, ← HM0.out]
    have hB4 := (Below.refl W.heap.size W).drew
    refine wp_region_held_drew (S := (fun w' => w'.cell? ⟨m0, 0, none⟩ = some (.int .i64 p.1) ∧ w'.cell? ⟨m0, 1, none⟩ = some (.int .i64 p.2) ∧ Below W.heap.size W w')) (by kernel_rfl) (HS.out _ hB4) (fun hHeld => ?_)
    refine takeH (i := 0) (n := 9) (v := .slice A n cap) rfl rfl (by kernel_rfl) (by kernel_rfl) (by kernel_rfl) (fun _ _ _ h => h) (Or.inl ⟨by kernel_rfl, ?_⟩) (by assumption) ?_
    · intro w hSw; (try dsimp only at hSw); go_simp
    try simp only [Act.put, List.setIfInBounds_toArray, List.set_cons_zero, List.set_cons_succ]
    refine takeH (i := 2) (n := 11) (v := .slice A n cap) rfl rfl (by kernel_rfl) (by kernel_rfl) (by kernel_rfl) (fun _ _ _ h => h) (Or.inl ⟨by kernel_rfl, ?_⟩) (by assumption) ?_
    · intro w hSw; (try dsimp only at hSw); go_simp
    try simp only [Act.put, List.setIfInBounds_toArray, List.set_cons_zero, List.set_cons_succ]
    refine wpAnyH_ready (rs := [1]) (by kernel_rfl) (by simp) ?_
    refine AllReadyH.cons rfl (fun K hK => ?_) AllReadyH.nil
    try rw [if_pos (by kernel_rfl)]
    try go_simp
    go_at_call 7
    refine (HC1.out _ (HAW.out.below hB4)).mono ?_
    rintro e w5 ⟨rfl, hb⟩
    have hB5 := below_chain (W := W) hB4 hb
    refine hK.out _ _ (HS.out _ hB5) (fun hHeld => ?_)
    clear hK K hb
    try simp only [Act.put, List.getElem_toArray, List.getElem_cons_succ, List.getElem_cons_zero, List.setIfInBounds_toArray, List.set_cons_zero, List.set_cons_succ]
    refine wpAnyH_ready (rs := [3]) (by kernel_rfl) (by simp) ?_
    refine AllReadyH.cons rfl (fun K hK => ?_) AllReadyH.nil
    try rw [if_pos (by kernel_rfl)]
    try go_simp
    go_at_call 8
    refine (HC2.out _ (HAW.out.below hB5)).mono ?_
    rintro e w6 ⟨rfl, hb⟩
    have hB6 := below_chain (W := W) hB5 hb
    refine hK.out _ _ (HS.out _ hB6) (fun hHeld => ?_)
    clear hK K hb
    try simp only [Act.put, List.getElem_toArray, List.getElem_cons_succ, List.getElem_cons_zero, List.setIfInBounds_toArray, List.set_cons_zero, List.set_cons_succ]
    refine takeH (i := 4) (n := 13) (v := .bool true) rfl rfl (by kernel_rfl) (by kernel_rfl) (by kernel_rfl) (fun _ _ _ h => h) (Or.inl ⟨by kernel_rfl, ?_⟩) (by assumption) ?_
    · intro w hSw; (try dsimp only at hSw); go_simp
    try simp only [Act.put, List.setIfInBounds_toArray, List.set_cons_zero, List.set_cons_succ]
    refine takeH (i := 5) (n := 14) (v := .bool true) rfl rfl (by kernel_rfl) (by kernel_rfl) (by kernel_rfl) (fun _ _ _ h => h) (Or.inl ⟨by kernel_rfl, ?_⟩) (by assumption) ?_
    · intro w hSw; (try dsimp only at hSw); go_simp
    try simp only [Act.put, List.setIfInBounds_toArray, List.set_cons_zero, List.set_cons_succ]
    refine takeH (i := 6) (n := 15) (v := .slice A n cap) rfl rfl (by kernel_rfl) (by kernel_rfl) (by kernel_rfl) (fun _ _ _ h => h) (Or.inl ⟨by kernel_rfl, ?_⟩) (by assumption) ?_
    · intro w hSw; (try dsimp only at hSw); go_simp
    try simp only [Act.put, List.setIfInBounds_toArray, List.set_cons_zero, List.set_cons_succ]
    refine takeH (i := 7) (n := 16) (v := .agg #[.int .i64 p.1, .int .i64 p.2]) rfl rfl (by kernel_rfl) (by kernel_rfl) (by kernel_rfl) (fun _ _ _ h => h) (Or.inl ⟨by kernel_rfl, ?_⟩) (by assumption) ?_
    · intro w hSw; (try dsimp only at hSw); go_simp
    try simp only [Act.put, List.setIfInBounds_toArray, List.set_cons_zero, List.set_cons_succ]
    refine takeH (i := 9) (n := 18) (v := .slice A n cap) rfl rfl (by kernel_rfl) (by kernel_rfl) (by kernel_rfl) (fun _ _ _ h => h) (Or.inl ⟨by kernel_rfl, ?_⟩) (by assumption) ?_
    · intro w hSw; (try dsimp only at hSw); go_simp
    try simp only [Act.put, List.setIfInBounds_toArray, List.set_cons_zero, List.set_cons_succ]
    refine takeH (i := 10) (n := 19) (v := .agg #[.int .i64 p.1, .int .i64 p.2]) rfl rfl (by kernel_rfl) (by kernel_rfl) (by kernel_rfl) (fun _ _ _ h => h) (Or.inl ⟨by kernel_rfl, ?_⟩) (by assumption) ?_
    · intro w hSw; (try dsimp only at hSw); go_simp
    try simp only [Act.put, List.setIfInBounds_toArray, List.set_cons_zero, List.set_cons_succ]
    refine wpAnyH_ready (rs := [8]) (by kernel_rfl) (by simp) ?_
    refine AllReadyH.cons rfl (fun K hK => ?_) AllReadyH.nil
    try rw [if_pos (by kernel_rfl)]
    try go_simp
    go_at_call 9
    refine (HH1.out _ (HAW.out.below hB6)).mono ?_
    rintro e w7 ⟨rfl, hb⟩
    have hB7 := below_chain (W := W) hB6 hb
    refine hK.out _ _ (HS.out _ hB7) (fun hHeld => ?_)
    clear hK K hb
    try simp only [Act.put, List.getElem_toArray, List.getElem_cons_succ, List.getElem_cons_zero, List.setIfInBounds_toArray, List.set_cons_zero, List.set_cons_succ]
    refine wpAnyH_ready (rs := [11]) (by kernel_rfl) (by simp) ?_
    refine AllReadyH.cons rfl (fun K hK => ?_) AllReadyH.nil
    try rw [if_pos (by kernel_rfl)]
    try go_simp
    go_at_call 10
    refine (HH2.out _ (HAW.out.below hB7)).mono ?_
    rintro e w8 ⟨rfl, hb⟩
    have hB8 := below_chain (W := W) hB7 hb
    refine hK.out _ _ (HS.out _ hB8) (fun hHeld => ?_)
    clear hK K hb
    try simp only [Act.put, List.getElem_toArray, List.getElem_cons_succ, List.getElem_cons_zero, List.setIfInBounds_toArray, List.set_cons_zero, List.set_cons_succ]
    refine takeH (i := 12) (n := 21) (v := .bool true) rfl rfl (by kernel_rfl) (by kernel_rfl) (by kernel_rfl) (fun _ _ _ h => h) (Or.inl ⟨by kernel_rfl, ?_⟩) (by assumption) ?_
    · intro w hSw; (try dsimp only at hSw); go_simp
    try simp only [Act.put, List.setIfInBounds_toArray, List.set_cons_zero, List.set_cons_succ]
    refine takeH (i := 13) (n := 22) (v := .bool true) rfl rfl (by kernel_rfl) (by kernel_rfl) (by kernel_rfl) (fun _ _ _ h => h) (Or.inl ⟨by kernel_rfl, ?_⟩) (by assumption) ?_
    · intro w hSw; (try dsimp only at hSw); go_simp
    try simp only [Act.put, List.setIfInBounds_toArray, List.set_cons_zero, List.set_cons_succ]
    refine takeH (i := 14) (n := 23) (v := .bool true) rfl rfl (by kernel_rfl) (by kernel_rfl) (by kernel_rfl) (fun _ _ _ h => h) (Or.inl ⟨by kernel_rfl, ?_⟩) (by assumption) ?_
    · intro w hSw; (try dsimp only at hSw); go_simp
    try simp only [Act.put, List.setIfInBounds_toArray, List.set_cons_zero, List.set_cons_succ]
    refine wpAnyH_ready (rs := [15]) (by kernel_rfl) (by simp) ?_
    refine AllReadyH.cons rfl (fun K hK => ?_) AllReadyH.nil
    try rw [if_pos (by kernel_rfl)]
    try go_simp
    go_at_call 6
    refine (awake_any m _ (HE.out.below hB8)).mono ?_
    rintro e w9 ⟨rfl, hb⟩
    have hB9 := below_chain (W := W) hB8 hb
    refine hK.out _ _ (HS.out _ hB9) (fun hHeld => ?_)
    clear hK K hb
    try simp only [Act.put, List.getElem_toArray, List.getElem_cons_succ, List.getElem_cons_zero, List.setIfInBounds_toArray, List.set_cons_zero, List.set_cons_succ]
    refine takeH (i := 16) (n := 25) (v := .bool true) rfl rfl (by kernel_rfl) (by kernel_rfl) (by kernel_rfl) (fun _ _ _ h => h) (Or.inl ⟨by kernel_rfl, ?_⟩) (by assumption) ?_
    · intro w hSw; (try dsimp only at hSw); go_simp
    try simp only [Act.put, List.setIfInBounds_toArray, List.set_cons_zero, List.set_cons_succ]
    refine takeH (i := 17) (n := 4) (v := .bool true) rfl rfl (by kernel_rfl) (by kernel_rfl) (by kernel_rfl) (fun _ _ _ h => h) (Or.inl ⟨by kernel_rfl, ?_⟩) (by assumption) ?_
    · intro w hSw; (try dsimp only at hSw); go_simp
    try simp only [Act.put, List.setIfInBounds_toArray, List.set_cons_zero, List.set_cons_succ]
    refine wpAnyH_done (by kernel_rfl) ?_ _
    have HZ := Lib.hid (HWB.out.trans (hB9.mono HWB.out.size))
    clear HS hB4 hB5 hB6 hB7 hB8 hB9
    go_wp2
    go_ret
    exact ⟨rfl, HZ.out⟩
end Go.Proofs.YtbfleemflhlfbaaGreatDoor
