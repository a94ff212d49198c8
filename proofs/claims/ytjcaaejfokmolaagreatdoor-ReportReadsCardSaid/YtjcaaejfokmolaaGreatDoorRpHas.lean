/- Has. -/
import Derived.Test.YtjcaaejfokmolaaGreatDoorRpConvA
import Derived.Test.YtjcaaejfokmolaaGreatDoorRpArBe
import Derived.Test.YtjcaaejfokmolaaGreatDoorRpTake
namespace Go.Proofs.YtjcaaejfokmolaaGreatDoor
open Go.RowKit

theorem area_near {l : List (Int × Int)} (h : areaB l = true) : (1 ≤ l.length ∧ l.length ≤ 12) ∧ ∀ k, k < l.length → near2 (atZ l k) := by
  unfold areaB at h
  rw [Bool.and_eq_true, Bool.and_eq_true, all_atZ, List.all_eq_true] at h
  exact ⟨of_decide_eq_true h.1, fun k hk => place_near2 (h.2.1 k (List.mem_range.2 hk))⟩
theorem has_no {l : List (Int × Int)} {p : Int × Int} (h : areaB l = false) : hasB l p = false := by unfold hasB; rw [h]; rfl
theorem has_far {l : List (Int × Int)} {p : Int × Int} (h : placeB p = false) : hasB l p = false := by unfold hasB; rw [h]; simp
theorem has_in {l : List (Int × Int)} {p : Int × Int} (h : areaB l = true) (hp : placeB p = true) : hasB l p = if l.length = 1 then decide (p = atZ l 0) else if l.length = 2 then betweenB (atZ l 0) (atZ l 1) p else insideB l p := by unfold hasB; rw [h, hp]; rfl

set_option maxRecDepth 100000 in
set_option maxHeartbeats 4000000 in
theorem Has_any (A : Option Addr) (cap : Nat) (l : List (Int × Int)) (p : Int × Int) (w : World) (h : Area w (.slice A l.length cap) l) (hm : l.length ≤ 1000000) :
    Calls Tryz.prog 12 #[.slice A l.length cap, spotV p] w fun e w' => e = .returned (.bool (hasB l p)) ∧ Below w.heap.size w w' := by
  obtain ⟨W, hW⟩ : ∃ W, W = w.alloc (spO p) := ⟨_, rfl⟩
  have hWB : Below w.heap.size w W := by rw [hW]; exact new_below _ _
  have hp0 : W.heap[w.heap.size]? = some (spO p) := by rw [hW]; exact heap_alloc_new _ _
  have HA := Lib.hid (h.below hWB)
  obtain ⟨n, hn⟩ : ∃ n, n = l.length := ⟨_, rfl⟩
  rw [← hn] at hm ⊢
  have HN := Lib.hid hn
  obtain ⟨qa, hqa⟩ : ∃ q, q = areaB l := ⟨_, rfl⟩
  have HCA : Hid (Calls Tryz.prog 10 #[.slice A n cap] W fun e w' => e = .returned (.bool qa) ∧ Below W.heap.size W w') := Lib.hid (by
    have := CheckArea_any A cap l W HA.out (by rw [← hn]; exact hm)
    rw [← hn, ← hqa] at this; exact this)
  obtain ⟨qp, hqp⟩ : ∃ q, q = placeB p := ⟨_, rfl⟩
  have HPL : Hid (∀ W, Calls Tryz.prog 31 #[.agg #[.int .i64 p.1, .int .i64 p.2]] W fun e w' => e = .returned (.bool qp) ∧ Below W.heap.size W w') := Lib.hid fun W => by rw [hqp]; exact isPlace_any p W
  have HQA := Lib.hid hqa; have HQP := Lib.hid hqp; have HW := Lib.hid hW; have HWB := Lib.hid hWB; have HP0 := Lib.hid hp0
  clear h hn hqa hqp hW hWB hp0
  unfold spotV
  go_enter Tryz.func12, Tryz.ntmps12
  go_wp2_with fail
  rw [← HW.out]
  refine HCA.out.mono ?_
  rintro e w1 ⟨rfl, hb1⟩
  have HB1 := Lib.hid (below_chain HWB.out hb1); have HP1 := Lib.hid (stay HP0.out hb1); have HA1 := Lib.hid (HA.out.below hb1)
  clear hb1 HCA HA HW HWB HP0
  cases qa with
  | false =>
    have HR : Hid (hasB l p = false) := Lib.hid (has_no HQA.out.symm)
    clear HPL HA1 HP1
    go_wp2
    go_ret
    exact ⟨by rw [HR.out]; rfl, HB1.out⟩
  | true =>
    have u0 : w1.cell? ⟨w.heap.size, 0, none⟩ = some (.int .i64 p.1) := by have := HP1.out; simp [World.cell?, this]
    have u1 : w1.cell? ⟨w.heap.size, 1, none⟩ = some (.int .i64 p.2) := by have := HP1.out; simp [World.cell?, this]
    go_wp2_with fail
    refine (HPL.out w1).mono ?_
    rintro e w2 ⟨rfl, hb2⟩
    have HB2 := Lib.hid (below_chain HB1.out hb2); have HP2 := Lib.hid (stay HP1.out hb2); have HA2 := Lib.hid (HA1.out.below hb2)
    clear hb2 u0 u1 HPL HA1 HP1 HB1
    cases qp with
    | false =>
      have HR : Hid (hasB l p = false) := Lib.hid (has_far HQP.out.symm)
      clear HA2 HP2
      go_wp2
      go_ret
      exact ⟨by rw [HR.out]; rfl, HB2.out⟩
    | true =>
      have HR := Lib.hid (has_in HQA.out.symm HQP.out.symm)
      have HNR := Lib.hid (area_near HQA.out.symm)
      have HPN : Hid (near2 p) := Lib.hid (place_near2 HQP.out.symm)
      have hplt : w.heap.size < w2.heap.size := (Array.getElem?_eq_some_iff.1 HP2.out).1
      have u0 : w2.cell? ⟨w.heap.size, 0, none⟩ = some (.int .i64 p.1) := by have := HP2.out; simp [World.cell?, this]
      have u1 : w2.cell? ⟨w.heap.size, 1, none⟩ = some (.int .i64 p.2) := by have := HP2.out; simp [World.cell?, this]
      by_cases n1 : n = 1
      · subst n1
        have HR1 : Hid (hasB l p = decide (p = atZ l 0)) := Lib.hid (by rw [HR.out, if_pos HN.out.symm])
        obtain ⟨hnn, hcap, g, off, rfl, hg, c1, c2⟩ := HA2.out.at_ (k := 0) (by rw [← HN.out]; omega)
        obtain ⟨q, hq⟩ : ∃ q, q = atZ l 0 := ⟨_, rfl⟩
        rw [← hq] at c1 c2 HR1
        obtain ⟨p1, p2⟩ := p; obtain ⟨q1, q2⟩ := q
        simp only [Nat.zero_mul, Nat.add_zero] at c1 c2 u0 u1
        clear hnn hq HA2 HR HNR HPN hg hplt HP2
        by_cases e1 : p1 = q1
        · by_cases e2 : p2 = q2
          · have HY : Hid (hasB l (p1, p2) = true) := Lib.hid (by rw [HR1.out, e1, e2]; simp)
            clear HR1
            go_wp2_with fail
            go_quiet (fail)
            go_wp2
            go_ret
            exact ⟨by rw [HY.out]; rfl, HB2.out.trans ⟨rfl, rfl, rfl, Nat.le_refl _, fun _ _ => rfl⟩⟩
          · have HY : Hid (hasB l (p1, p2) = false) := Lib.hid (by rw [HR1.out]; simp [e2])
            clear HR1
            go_wp2_with fail
            go_quiet (fail)
            go_wp2
            go_ret
            exact ⟨by rw [HY.out]; rfl, HB2.out.trans ⟨rfl, rfl, rfl, Nat.le_refl _, fun _ _ => rfl⟩⟩
        · have HY : Hid (hasB l (p1, p2) = false) := Lib.hid (by rw [HR1.out]; simp [e1])
          clear HR1
          go_wp2_with fail
          go_quiet (fail)
          go_wp2
          go_ret
          exact ⟨by rw [HY.out]; rfl, HB2.out.trans ⟨rfl, rfl, rfl, Nat.le_refl _, fun _ _ => rfl⟩⟩
      · by_cases n2 : n = 2
        · subst n2
          obtain ⟨g, off, rfl, hcap, hg, c1, c2, c3, c4⟩ := (show Area w2 (.slice A 2 cap) l by have := HA2.out; rw [← HN.out] at this; exact this).two HN.out.symm
          obtain ⟨a, ha⟩ : ∃ a, a = atZ l 0 := ⟨_, rfl⟩
          obtain ⟨b, hb⟩ : ∃ b, b = atZ l 1 := ⟨_, rfl⟩
          obtain ⟨q, hq⟩ : ∃ q, q = betweenB a b p := ⟨_, rfl⟩
          have HR2 : Hid (hasB l p = q) := Lib.hid (by rw [HR.out, if_neg (by rw [← HN.out]; omega), if_pos HN.out.symm, hq, ha, hb])
          have HBT : Hid (∀ W, Calls Tryz.prog 36 #[.agg #[.int .i64 a.1, .int .i64 a.2], .agg #[.int .i64 b.1, .int .i64 b.2], .agg #[.int .i64 p.1, .int .i64 p.2]] W fun e w' => e = .returned (.bool q) ∧ Below W.heap.size W w') := Lib.hid fun W => by
            rw [hq]; exact isBetween_any a b p W (by rw [ha]; exact HNR.out.2 0 (by rw [← HN.out]; omega)) (by rw [hb]; exact HNR.out.2 1 (by rw [← HN.out]; omega)) HPN.out
          rw [← ha] at c1 c2; rw [← hb] at c3 c4
          obtain ⟨a1, a2⟩ := a; obtain ⟨b1, b2⟩ := b
          simp only at c1 c2 c3 c4 HBT
          have HS : Hid (∀ w', Below w2.heap.size w2 w' → (w'.cell? ⟨g, off, none⟩ = some (.int .i64 a1) ∧ w'.cell? ⟨g, off + 1, none⟩ = some (.int .i64 a2) ∧ w'.cell? ⟨g, off + 2, none⟩ = some (.int .i64 b1) ∧ w'.cell? ⟨g, off + 2 + 1, none⟩ = some (.int .i64 b2) ∧ w'.cell? ⟨w.heap.size, 0, none⟩ = some (.int .i64 p.1) ∧ w'.cell? ⟨w.heap.size, 1, none⟩ = some (.int .i64 p.2) ∧ Below w2.heap.size w2 w')) := Lib.hid fun w' h =>
            ⟨(h.cell (p := ⟨g, off, none⟩) hg).trans c1, (h.cell (p := ⟨g, off + 1, none⟩) hg).trans c2, (h.cell (p := ⟨g, off + 2, none⟩) hg).trans c3, (h.cell (p := ⟨g, off + 2 + 1, none⟩) hg).trans c4, (h.cell (p := ⟨w.heap.size, 0, none⟩) hplt).trans u0, (h.cell (p := ⟨w.heap.size, 1, none⟩) hplt).trans u1, h⟩
          clear ha hb hq HR HNR HPN HA2 HP2 c1 c2 c3 c4 u0 u1 hg hplt
          go_wp2_with fail
          have hB4 := (Below.refl w2.heap.size w2).drew
          refine wp_region_held_drew (S := (fun w' => w'.cell? ⟨g, off, none⟩ = some (.int .i64 a1) ∧ w'.cell? ⟨g, off + 1, none⟩ = some (.int .i64 a2) ∧ w'.cell? ⟨g, off + 2, none⟩ = some (.int .i64 b1) ∧ w'.cell? ⟨g, off + 2 + 1, none⟩ = some (.int .i64 b2) ∧ w'.cell? ⟨w.heap.size, 0, none⟩ = some (.int .i64 p.1) ∧ w'.cell? ⟨w.heap.size, 1, none⟩ = some (.int .i64 p.2) ∧ Below w2.heap.size w2 w')) (by kernel_rfl) (HS.out _ hB4) (fun hHeld => ?_)
          refine takeH (i := 0) (n := 24) (v := .slice (some ⟨g, off, none⟩) 2 cap) rfl rfl (by kernel_rfl) (by kernel_rfl) (by kernel_rfl) (fun _ _ _ h => h) (Or.inl ⟨by kernel_rfl, ?_⟩) (by assumption) ?_
          · intro w hSw; (try dsimp only at hSw); go_simp
          try simp only [Act.put, List.setIfInBounds_toArray, List.set_cons_zero, List.set_cons_succ]
          refine takeH (i := 1) (n := 25) (v := .pointer (some ⟨g, off, none⟩)) rfl rfl (by kernel_rfl) (by kernel_rfl) (by kernel_rfl) (fun _ _ _ h => h) (Or.inl ⟨by kernel_rfl, ?_⟩) (by assumption) ?_
          · intro w hSw; (try dsimp only at hSw); go_simp
          try simp only [Act.put, List.setIfInBounds_toArray, List.set_cons_zero, List.set_cons_succ]
          refine takeH (i := 2) (n := 26) (v := .agg #[.int .i64 a1, .int .i64 a2]) rfl rfl (by kernel_rfl) (by kernel_rfl) (by kernel_rfl) (fun _ _ _ h => h) (Or.inl ⟨by kernel_rfl, ?_⟩) (by assumption) ?_
          · intro w hSw; (try dsimp only at hSw); go_simp
          try simp only [Act.put, List.setIfInBounds_toArray, List.set_cons_zero, List.set_cons_succ]
          refine takeH (i := 3) (n := 27) (v := .slice (some ⟨g, off, none⟩) 2 cap) rfl rfl (by kernel_rfl) (by kernel_rfl) (by kernel_rfl) (fun _ _ _ h => h) (Or.inl ⟨by kernel_rfl, ?_⟩) (by assumption) ?_
          · intro w hSw; (try dsimp only at hSw); go_simp
          try simp only [Act.put, List.setIfInBounds_toArray, List.set_cons_zero, List.set_cons_succ]
          refine takeH (i := 4) (n := 28) (v := .pointer (some ⟨g, off + 2, none⟩)) rfl rfl (by kernel_rfl) (by kernel_rfl) (by kernel_rfl) (fun _ _ _ h => h) (Or.inl ⟨by kernel_rfl, ?_⟩) (by assumption) ?_
          · intro w hSw; (try dsimp only at hSw); go_simp
          try simp only [Act.put, List.setIfInBounds_toArray, List.set_cons_zero, List.set_cons_succ]
          refine takeH (i := 5) (n := 29) (v := .agg #[.int .i64 b1, .int .i64 b2]) rfl rfl (by kernel_rfl) (by kernel_rfl) (by kernel_rfl) (fun _ _ _ h => h) (Or.inl ⟨by kernel_rfl, ?_⟩) (by assumption) ?_
          · intro w hSw; (try dsimp only at hSw); go_simp
          try simp only [Act.put, List.setIfInBounds_toArray, List.set_cons_zero, List.set_cons_succ]
          refine takeH (i := 6) (n := 30) (v := .agg #[.int .i64 p.1, .int .i64 p.2]) rfl rfl (by kernel_rfl) (by kernel_rfl) (by kernel_rfl) (fun _ _ _ h => h) (Or.inl ⟨by kernel_rfl, ?_⟩) (by assumption) ?_
          · intro w hSw; (try dsimp only at hSw); go_simp
          try simp only [Act.put, List.setIfInBounds_toArray, List.set_cons_zero, List.set_cons_succ]
          refine wpAnyH_ready (rs := [7]) (by kernel_rfl) (by simp) ?_
          refine AllReadyH.cons rfl (fun K hK => ?_) AllReadyH.nil
          try rw [if_pos (by kernel_rfl)]
          try go_simp
          go_at_call 36
          refine (HBT.out _).mono ?_
          rintro e w5 ⟨rfl, hb⟩
          have hB5 := below_chain (W := w2) hB4 hb
          refine hK.out _ _ (HS.out _ hB5) (fun hHeld => ?_)
          clear hK K hb
          try simp only [Act.put, List.getElem_toArray, List.getElem_cons_succ, List.getElem_cons_zero, List.setIfInBounds_toArray, List.set_cons_zero, List.set_cons_succ]
          refine takeH (i := 8) (n := 4) (v := .bool q) rfl rfl (by kernel_rfl) (by kernel_rfl) (by kernel_rfl) (fun _ _ _ h => h) (Or.inl ⟨by kernel_rfl, ?_⟩) (by assumption) ?_
          · intro w hSw; (try dsimp only at hSw); go_simp
          try simp only [Act.put, List.setIfInBounds_toArray, List.set_cons_zero, List.set_cons_succ]
          refine wpAnyH_done (by kernel_rfl) ?_ _
          have HZ := Lib.hid (HB2.out.trans (hB5.mono HB2.out.size))
          clear HS HBT hB4 hB5
          go_wp2
          go_ret
          exact ⟨by rw [HR2.out]; rfl, HZ.out⟩
        · obtain ⟨q, hq⟩ : ∃ q, q = insideB l p := ⟨_, rfl⟩
          have HR2 : Hid (hasB l p = q) := Lib.hid (by rw [HR.out, if_neg (by rw [← HN.out]; exact n1), if_neg (by rw [← HN.out]; exact n2), hq])
          have HI : Hid (Calls Tryz.prog 37 #[.slice A n cap, .agg #[.int .i64 p.1, .int .i64 p.2]] w2 fun e w' => e = .returned (.bool q) ∧ Below w2.heap.size w2 w') := Lib.hid (by
            rw [hq]
            have := isInside_any A cap l p w2 HA2.out (by rw [← HN.out]; exact hm) HNR.out.2 HPN.out
            rw [← HN.out] at this; exact this)
          clear hq HR HNR HPN HA2 HP2 hplt
          go_wp2_with fail
          refine HI.out.mono ?_
          rintro e w3 ⟨rfl, hb3⟩
          have HZ := Lib.hid (below_chain HB2.out hb3)
          clear hb3 HI u0 u1
          go_wp2
          go_ret
          exact ⟨by rw [HR2.out]; rfl, HZ.out⟩
end Go.Proofs.YtjcaaejfokmolaaGreatDoor
