/- The document's Has. -/
import Derived.Test.YtjcaaejfokmolaaGreatDoorRpAreaRef2
import Derived.Test.YtjcaaejfokmolaaGreatDoorRpHas
namespace Go.Proofs.YtjcaaejfokmolaaGreatDoor
open Go.RowKit

theorem inside_no {l : List (Int × Int)} {p : Int × Int} {k : Nat} (hk : k < l.length) (h : turnZ (atZ l k) (atZ l ((k + 1) % l.length)) p < 0) : insideB l p = false := range_all_false hk (decide_eq_false (by omega))
theorem inside_yes {l : List (Int × Int)} {p : Int × Int} (h : ∀ k, k < l.length → ¬ turnZ (atZ l k) (atZ l ((k + 1) % l.length)) p < 0) : insideB l p = true := range_all_true fun k hk => decide_eq_true (by have := h k hk; omega)
theorem laid2 (w : World) (o1 o2 : Obj) : ((w.alloc o1).alloc o2).drew.heap[w.heap.size]? = some o1 ∧ ((w.alloc o1).alloc o2).drew.heap[w.heap.size + 1]? = some o2 ∧ Below w.heap.size w ((w.alloc o1).alloc o2).drew := by
  have hb : Below w.heap.size w ((w.alloc o1).alloc o2) := ((Below.refl _ _).alloc (Nat.le_refl _) _).alloc (by simp) _
  refine ⟨?_, ?_, hb.drew⟩
  · show ((w.alloc o1).alloc o2).heap[w.heap.size]? = some o1
    exact stay (heap_alloc_new w o1) (new_below _ o2)
  · show ((w.alloc o1).alloc o2).heap[w.heap.size + 1]? = some o2
    have := heap_alloc_new (w.alloc o1) o2
    rwa [World.size_alloc] at this

set_option maxRecDepth 100000 in
set_option maxHeartbeats 4000000 in
theorem refHas_any (A : Option Addr) (cap : Nat) (l : List (Int × Int)) (p : Int × Int) (w : World) (h : Area w (.slice A l.length cap) l) (hm : l.length ≤ 1000000) :
    Calls Tryz.prog 13 #[.slice A l.length cap, spotV p] w fun e w' => e = .returned (.bool (hasB l p)) ∧ Below w.heap.size w w' := by
  obtain ⟨W, hW⟩ : ∃ W, W = w.alloc (spO p) := ⟨_, rfl⟩
  have hWB : Below w.heap.size w W := by rw [hW]; exact new_below _ _
  obtain ⟨m, hmm⟩ : ∃ m, m = w.heap.size := ⟨_, rfl⟩
  have hp0 : W.heap[m]? = some (spO p) := by rw [hW, hmm]; exact heap_alloc_new _ _
  have HA := Lib.hid (h.below hWB)
  obtain ⟨n, hn⟩ : ∃ n, n = l.length := ⟨_, rfl⟩
  rw [← hn] at hm ⊢
  have HN := Lib.hid hn
  obtain ⟨qa, hqa⟩ : ∃ q, q = areaB l := ⟨_, rfl⟩
  have HCA : Hid (Calls Tryz.prog 11 #[.slice A n cap] W fun e w' => e = .returned (.bool qa) ∧ Below W.heap.size W w') := Lib.hid (by
    have := refCheckArea_any A cap l W HA.out (by rw [← hn]; exact hm)
    rw [← hn, ← area_same, ← hqa] at this; exact this)
  obtain ⟨qp, hqp⟩ : ∃ q, q = placeB p := ⟨_, rfl⟩
  have HPL : Hid (∀ W, Calls Tryz.prog 34 #[.agg #[.int .i64 p.1, .int .i64 p.2]] W fun e w' => e = .returned (.bool qp) ∧ Below W.heap.size W w') := Lib.hid fun W => by rw [hqp]; exact refPlace_any p W
  have HQA := Lib.hid hqa; have HQP := Lib.hid hqp; have HW := Lib.hid hW; have HWB := Lib.hid hWB; have HP0 := Lib.hid hp0; have HMM := Lib.hid hmm
  clear h hn hqa hqp hW hWB hp0 hmm
  unfold spotV
  go_enter Tryz.func13, Tryz.ntmps13
  go_wp2_with fail
  rw [← HW.out, ← HMM.out]
  refine HCA.out.mono ?_
  rintro e w1 ⟨rfl, hb1⟩
  have HB1 := Lib.hid (below_chain HWB.out hb1); have HP1 := Lib.hid (stay HP0.out hb1); have HA1 := Lib.hid (HA.out.below hb1)
  clear hb1 HCA HA HW HWB HP0 HMM
  cases qa with
  | false =>
    have HR : Hid (hasB l p = false) := Lib.hid (has_no HQA.out.symm)
    clear HPL HA1 HP1
    go_wp2
    go_ret
    exact ⟨by rw [HR.out]; rfl, HB1.out⟩
  | true =>
    obtain ⟨u0, u1⟩ := spot_cells HP1.out
    go_wp2_with fail
    refine (HPL.out w1).mono ?_
    rintro e w2 ⟨rfl, hb2⟩
    have HB2 := Lib.hid (below_chain HB1.out hb2); have HP2 := Lib.hid (stay HP1.out hb2); have HA2 : Hid (Area w2 (.slice A n cap) l) := Lib.hid (by have := HA1.out.below hb2; rw [← HN.out] at this; exact this)
    clear hb2 u0 u1 HPL HA1 HP1 HB1
    cases qp with
    | false =>
      have HR : Hid (hasB l p = false) := Lib.hid (has_far HQP.out.symm)
      clear HA2 HP2
      go_wp2
      go_ret
      exact ⟨by rw [HR.out]; rfl, HB2.out⟩
    | true =>
      have HR := Lib.hid (has_in HQA.out.symm HQP.out.symm)
      have HNR := Lib.hid (area_near HQA.out.symm)
      have HPN : Hid (near2 p) := Lib.hid (place_near2 HQP.out.symm)
      have hplt : m < w2.heap.size := (Array.getElem?_eq_some_iff.1 HP2.out).1
      obtain ⟨u0, u1⟩ := spot_cells HP2.out
      by_cases n1 : n = 1
      · subst n1
        have HR1 : Hid (hasB l p = decide (p = atZ l 0)) := Lib.hid (by rw [HR.out, if_pos HN.out.symm])
        obtain ⟨hnn, hcap, g, off, rfl, hg, c1, c2⟩ := HA2.out.at_ (k := 0) (by rw [← HN.out]; omega)
        obtain ⟨q, hq⟩ : ∃ q, q = atZ l 0 := ⟨_, rfl⟩
        rw [← hq] at c1 c2 HR1
        obtain ⟨p1, p2⟩ := p; obtain ⟨q1, q2⟩ := q
        simp only [Nat.zero_mul, Nat.add_zero] at c1 c2 u0 u1
        clear hnn hq HA2 HR HNR HPN hg hplt HP2
        by_cases e1 : p1 = q1
        · by_cases e2 : p2 = q2
          · have HY : Hid (hasB l (p1, p2) = true) := Lib.hid (by rw [HR1.out, e1, e2]; simp)
            clear HR1
            go_wp2_with fail
            go_quiet (fail)
            go_wp2
            go_ret
            exact ⟨by rw [HY.out]; rfl, HB2.out.trans ⟨rfl, rfl, rfl, Nat.le_refl _, fun _ _ => rfl⟩⟩
          · have HY : Hid (hasB l (p1, p2) = false) := Lib.hid (by rw [HR1.out]; simp [e2])
            have e3 : ¬ q2 = p2 := fun h => e2 h.symm
            clear HR1
            go_wp2_with fail
            go_quiet (fail)
            go_wp2
            go_ret
            exact ⟨by rw [HY.out]; rfl, HB2.out.trans ⟨rfl, rfl, rfl, Nat.le_refl _, fun _ _ => rfl⟩⟩
        · have HY : Hid (hasB l (p1, p2) = false) := Lib.hid (by rw [HR1.out]; simp [e1])
          have e3 : ¬ q1 = p1 := fun h => e1 h.symm
          clear HR1
          go_wp2_with fail
          go_quiet (fail)
          go_wp2
          go_ret
          exact ⟨by rw [HY.out]; rfl, HB2.out.trans ⟨rfl, rfl, rfl, Nat.le_refl _, fun _ _ => rfl⟩⟩
      · by_cases n2 : n = 2
        · subst n2
          obtain ⟨g, off, rfl, hcap, hg, c1, c2, c3, c4⟩ := HA2.out.two HN.out.symm
          obtain ⟨a, ha⟩ : ∃ a, a = atZ l 0 := ⟨_, rfl⟩
          obtain ⟨b, hb⟩ : ∃ b, b = atZ l 1 := ⟨_, rfl⟩
          have HR2 : Hid (hasB l p = betweenB a b p) := Lib.hid (by rw [HR.out, if_neg (by rw [← HN.out]; omega), if_pos HN.out.symm, ha, hb])
          have HNAB : Hid (near2 a ∧ near2 b) := Lib.hid ⟨by rw [ha]; exact HNR.out.2 0 (by rw [← HN.out]; omega), by rw [hb]; exact HNR.out.2 1 (by rw [← HN.out]; omega)⟩
          rw [← ha] at c1 c2; rw [← hb] at c3 c4
          clear ha hb HR HNR HA2
          go_upto_region 6 with fail
          go_cut [5, 6] (fun pa pb wx => ∃ na nb, pa = .pointer (some ⟨na, 0, none⟩) ∧ pb = .pointer (some ⟨nb, 0, none⟩) ∧ Hid (wx.heap[na]? = some (spO a) ∧ wx.heap[nb]? = some (spO b) ∧ Below w2.heap.size w2 wx))
          case first =>
            obtain ⟨A1, A2, A3⟩ := cells_new hg c1
            obtain ⟨B1, B2, B3⟩ := cells_new hg c2
            obtain ⟨C1, C2, C3⟩ := cells_new hg c3
            obtain ⟨D1, D2, D3⟩ := cells_new hg c4
            have gn1 : g ≠ w2.heap.size := by omega
            have gn2 : g ≠ w2.heap.size + 1 := by omega
            clear A3 B3 C3 D3
            go_region
            all_goals go_wp2_with fail
            all_goals go_meet
            all_goals (case rel => (refine ⟨_, _, rfl, rfl, Lib.hid ⟨?_, ?_, ?_⟩⟩ <;> first | exact (laid2 _ _ _).1 | exact (laid2 _ _ _).2.1 | exact (laid2 _ _ _).2.2))
          case rest =>
            obtain ⟨na, nb, rfl, rfl, HZ⟩ := hcut
            obtain ⟨x0, x1⟩ := spot_cells HZ.out.1
            obtain ⟨y0, y1⟩ := spot_cells HZ.out.2.1
            obtain ⟨v0, v1⟩ := spot_cells (stay HP2.out HZ.out.2.2)
            have HB3 := Lib.hid (HB2.out.trans (HZ.out.2.2.mono HB2.out.size))
            obtain ⟨t, ht⟩ : ∃ t, t = turnZ a b p := ⟨_, rfl⟩
            obtain ⟨i0, hx0⟩ : ∃ t, min a.1 b.1 = t := ⟨_, rfl⟩
            obtain ⟨i1, hx1⟩ : ∃ t, max a.1 b.1 = t := ⟨_, rfl⟩
            obtain ⟨j0, hy0⟩ : ∃ t, min a.2 b.2 = t := ⟨_, rfl⟩
            obtain ⟨j1, hy1⟩ : ∃ t, max a.2 b.2 = t := ⟨_, rfl⟩
            have HT : Hid (∀ W, Calls Tryz.prog 35 #[.agg #[.int .i64 a.1, .int .i64 a.2], .agg #[.int .i64 b.1, .int .i64 b.2], .agg #[.int .i64 p.1, .int .i64 p.2]] W fun e w' => e = .returned (.int .i64 t) ∧ Below W.heap.size W w') := Lib.hid fun W => by rw [ht]; exact refTurn_any a b p W HNAB.out.1 HNAB.out.2 HPN.out
            obtain ⟨bx, hbx⟩ : ∃ q, q = inB p.1 i0 i1 := ⟨_, rfl⟩
            obtain ⟨by_, hby⟩ : ∃ q, q = inB p.2 j0 j1 := ⟨_, rfl⟩
            have HX : Hid (∀ W, Calls Tryz.prog 33 #[.int .i64 p.1, .int .i64 i0, .int .i64 i1] W fun e w' => e = .returned (.bool bx) ∧ W = w') := Lib.hid fun W => by rw [hbx]; exact refIn_any _ _ _ W
            have HY : Hid (∀ W, Calls Tryz.prog 33 #[.int .i64 p.2, .int .i64 j0, .int .i64 j1] W fun e w' => e = .returned (.bool by_) ∧ W = w') := Lib.hid fun W => by rw [hby]; exact refIn_any _ _ _ W
            have HRR : Hid (hasB l p = ((t == 0) && (bx && by_))) := Lib.hid (by rw [HR2.out, ht, hbx, hby, ← hx0, ← hx1, ← hy0, ← hy1]; rfl)
            clear HR2 ht hbx hby c1 c2 c3 c4 u0 u1 hplt hg
            go_wp2_with fail
            refine (HT.out wc).mono ?_
            rintro e w4 ⟨rfl, hb4⟩
            obtain ⟨x0, x1⟩ := spot_cells (stay HZ.out.1 hb4)
            obtain ⟨y0, y1⟩ := spot_cells (stay HZ.out.2.1 hb4)
            obtain ⟨v0, v1⟩ := spot_cells (stay (stay HP2.out HZ.out.2.2) hb4)
            have HB := Lib.hid (below_chain HB3.out hb4)
            clear hb4 HZ HT HB3
            by_cases h0 : t = 0
            · cases bx with
              | true =>
                go_wp2_with (go_at_call 33; first | ((with_reducible refine (HX.out _).mono ?_); rintro e w' ⟨rfl, rfl⟩) | ((with_reducible refine (HY.out _).mono ?_); rintro e w' ⟨rfl, rfl⟩))
                go_ret
                exact ⟨by rw [HRR.out]; simp [h0], HB.out⟩
              | false =>
                go_wp2_with (go_at_call 33; first | ((with_reducible refine (HX.out _).mono ?_); rintro e w' ⟨rfl, rfl⟩) | ((with_reducible refine (HY.out _).mono ?_); rintro e w' ⟨rfl, rfl⟩))
                go_ret
                exact ⟨by rw [HRR.out]; simp, HB.out⟩
            · go_wp2_with fail
              go_ret
              exact ⟨by rw [HRR.out]; simp [h0], HB.out⟩
        · have HR2 : Hid (hasB l p = insideB l p) := Lib.hid (by rw [HR.out, if_neg (by rw [← HN.out]; exact n1), if_neg (by rw [← HN.out]; exact n2)])
          have hn3 : 3 ≤ n := by have := HNR.out.1; rw [← HN.out] at this; omega
          have hn12 : n ≤ 12 := by have := HNR.out.1; rw [← HN.out] at this; omega
          obtain ⟨hnn, hcap, g, off, rfl, hg, c1, c2⟩ := HA2.out.at_ (k := 0) (by rw [← HN.out]; omega)
          clear hnn hg c1 c2 HR u0 u1 hplt
          go_upto_region 8 with fail
          generalize ((n : Int) == 1) = d18
          generalize ((n : Int) == 2) = d26
          have hn0 : (n = 0) = False := by simp; omega
          clear n1 n2
          have hl0 : 0 < l.length := by rw [← HN.out]; omega
          go_wp2_with fail
          go_loopw [7] (fun iv wr => ∃ k : Nat, k ≤ n ∧ iv = .int .i64 k ∧ Hid (wr.heap[m]? = some (spO p) ∧ Below w.heap.size w wr ∧ Area wr (.slice (some ⟨g, off, none⟩) n cap) l ∧ ∀ j, j < k → ¬ turnZ (atZ l j) (atZ l ((j + 1) % l.length)) p < 0)) (fun iv _ => n - (intOf iv).toNat)
          case atStart => exact ⟨0, Nat.zero_le _, rfl, Lib.hid ⟨HP2.out, HB2.out, HA2.out, fun j hj => absurd hj (Nat.not_lt_zero j)⟩⟩
          case round =>
            obtain ⟨k, hk, rfl, HJ⟩ := hrel
            by_cases hkn : k < n
            · have HM1 : Hid ((k + 1) % n < n) := Lib.hid (Nat.mod_lt _ (by omega))
              obtain ⟨k1, hk1⟩ : ∃ i1, i1 = (k + 1) % n := ⟨_, rfl⟩
              have hm1 : ((k : Int) + 1) % (n : Int) = (k1 : Int) := by rw [hk1]; have := Int.natCast_emod (k + 1) n; rw [Int.natCast_add] at this; exact this.symm
              have hl1 : k1 < n := by rw [hk1]; exact HM1.out
              have hwk : IntKind.i64.wrap ((k : Int) + 1) = (k : Int) + 1 := IntWalk.i64_in _ (by omega)
              have htm : ((k : Int) + 1).tmod (n : Int) = (k1 : Int) := by rw [← hm1]; exact Int.tmod_eq_emod_of_nonneg (by omega)
              have hkl : k < l.length := by rw [← HN.out]; exact hkn
              obtain ⟨a, ha⟩ : ∃ a, a = atZ l k := ⟨_, rfl⟩
              obtain ⟨b, hb⟩ : ∃ b, b = atZ l k1 := ⟨_, rfl⟩
              obtain ⟨tq, htq⟩ : ∃ t, t = turnZ a b p := ⟨_, rfl⟩
              have HTV : Hid (turnZ (atZ l k) (atZ l ((k + 1) % l.length)) p = tq) := Lib.hid (by rw [htq, ha, hb, hk1, HN.out])
              have HTQ : Hid (∀ W, Calls Tryz.prog 35 #[.agg #[.int .i64 a.1, .int .i64 a.2], .agg #[.int .i64 b.1, .int .i64 b.2], .agg #[.int .i64 p.1, .int .i64 p.2]] W fun e w' => e = .returned (.int .i64 tq) ∧ Below W.heap.size W w') := Lib.hid fun W => by
                rw [htq]; exact refTurn_any a b p W (by rw [ha]; exact HNR.out.2 k hkl) (by rw [hb]; exact HNR.out.2 k1 (by rw [← HN.out]; exact hl1)) HPN.out
              obtain ⟨x0, x1⟩ := HJ.out.2.2.1.cell hkl
              obtain ⟨y0, y1⟩ := HJ.out.2.2.1.cell (k := k1) (by rw [← HN.out]; exact hl1)
              obtain ⟨hgl, hgc⟩ := HJ.out.2.2.1.lt hl0
              obtain ⟨v0, v1⟩ := spot_cells HJ.out.1
              have hmo := (Array.getElem?_eq_some_iff.1 HJ.out.1).1
              rw [← ha] at x0 x1; rw [← hb] at y0 y1
              have HS : Hid (∀ w', Below wr.heap.size wr w' → (w'.cell? ⟨g, off + k * 2, none⟩ = some (.int .i64 a.1) ∧ w'.cell? ⟨g, off + k * 2 + 1, none⟩ = some (.int .i64 a.2) ∧ w'.cell? ⟨g, off + k1 * 2, none⟩ = some (.int .i64 b.1) ∧ w'.cell? ⟨g, off + k1 * 2 + 1, none⟩ = some (.int .i64 b.2) ∧ w'.cell? ⟨m, 0, none⟩ = some (.int .i64 p.1) ∧ w'.cell? ⟨m, 1, none⟩ = some (.int .i64 p.2) ∧ Below wr.heap.size wr w')) := Lib.hid fun w' h =>
                ⟨(h.cell (p := ⟨g, off + k * 2, none⟩) hgl).trans x0, (h.cell (p := ⟨g, off + k * 2 + 1, none⟩) hgl).trans x1, (h.cell (p := ⟨g, off + k1 * 2, none⟩) hgl).trans y0, (h.cell (p := ⟨g, off + k1 * 2 + 1, none⟩) hgl).trans y1, (h.cell (p := ⟨m, 0, none⟩) hmo).trans v0, (h.cell (p := ⟨m, 1, none⟩) hmo).trans v1, h⟩
              have HKL := Lib.hid hkl; have HKN := Lib.hid hkn
              clear ha hb htq hk1 x0 x1 y0 y1 v0 v1 hgl hkl
              by_cases hneg : tq < 0
              · have HF : Hid (hasB l p = false) := Lib.hid (by rw [HR2.out]; exact inside_no HKL.out (by rw [HTV.out]; exact hneg))
                go_wp2_with fail
                have hB4 := (Below.refl wr.heap.size wr).drew
                refine wp_region_held_drew (S := (fun w' => w'.cell? ⟨g, off + k * 2, none⟩ = some (.int .i64 a.1) ∧ w'.cell? ⟨g, off + k * 2 + 1, none⟩ = some (.int .i64 a.2) ∧ w'.cell? ⟨g, off + k1 * 2, none⟩ = some (.int .i64 b.1) ∧ w'.cell? ⟨g, off + k1 * 2 + 1, none⟩ = some (.int .i64 b.2) ∧ w'.cell? ⟨m, 0, none⟩ = some (.int .i64 p.1) ∧ w'.cell? ⟨m, 1, none⟩ = some (.int .i64 p.2) ∧ Below wr.heap.size wr w')) (by kernel_rfl) (HS.out _ hB4) (fun hHeld => ?_)
                refine takeH (i := 0) (n := 74) (v := .slice (some ⟨g, off, none⟩) n cap) rfl rfl (by kernel_rfl) (by kernel_rfl) (by kernel_rfl) (fun _ _ _ h => h) (Or.inl ⟨by kernel_rfl, ?_⟩) (by assumption) ?_
                · intro w hSw; (try dsimp only at hSw); go_simp
                try simp only [Act.put, List.setIfInBounds_toArray, List.set_cons_zero, List.set_cons_succ]
                refine takeH (i := 1) (n := 75) (v := .int .i64 k) rfl rfl (by kernel_rfl) (by kernel_rfl) (by kernel_rfl) (fun _ _ _ h => h) (Or.inl ⟨by kernel_rfl, ?_⟩) (by assumption) ?_
                · intro w hSw; (try dsimp only at hSw); go_simp
                try simp only [Act.put, List.setIfInBounds_toArray, List.set_cons_zero, List.set_cons_succ]
                refine takeH (i := 2) (n := 76) (v := .pointer (some ⟨g, off + k * 2, none⟩)) rfl rfl (by kernel_rfl) (by kernel_rfl) (by kernel_rfl) (fun _ _ _ h => h) (Or.inl ⟨by kernel_rfl, ?_⟩) (by assumption) ?_
                · intro w hSw; (try dsimp only at hSw); go_simp
                try simp only [Act.put, List.setIfInBounds_toArray, List.set_cons_zero, List.set_cons_succ]
                refine takeH (i := 3) (n := 77) (v := .agg #[.int .i64 a.1, .int .i64 a.2]) rfl rfl (by kernel_rfl) (by kernel_rfl) (by kernel_rfl) (fun _ _ _ h => h) (Or.inl ⟨by kernel_rfl, ?_⟩) (by assumption) ?_
                · intro w hSw; (try dsimp only at hSw); go_simp
                try simp only [Act.put, List.setIfInBounds_toArray, List.set_cons_zero, List.set_cons_succ]
                refine takeH (i := 4) (n := 78) (v := .slice (some ⟨g, off, none⟩) n cap) rfl rfl (by kernel_rfl) (by kernel_rfl) (by kernel_rfl) (fun _ _ _ h => h) (Or.inl ⟨by kernel_rfl, ?_⟩) (by assumption) ?_
                · intro w hSw; (try dsimp only at hSw); go_simp
                try simp only [Act.put, List.setIfInBounds_toArray, List.set_cons_zero, List.set_cons_succ]
                refine takeH (i := 5) (n := 79) (v := .int .i64 k) rfl rfl (by kernel_rfl) (by kernel_rfl) (by kernel_rfl) (fun _ _ _ h => h) (Or.inl ⟨by kernel_rfl, ?_⟩) (by assumption) ?_
                · intro w hSw; (try dsimp only at hSw); go_simp
                try simp only [Act.put, List.setIfInBounds_toArray, List.set_cons_zero, List.set_cons_succ]
                refine takeH (i := 6) (n := 80) (v := .int .i64 ((k : Int) + 1)) rfl rfl (by kernel_rfl) (by kernel_rfl) (by kernel_rfl) (fun _ _ _ h => h) (Or.inl ⟨by kernel_rfl, ?_⟩) (by assumption) ?_
                · intro w hSw; (try dsimp only at hSw); go_simp
                try simp only [Act.put, List.setIfInBounds_toArray, List.set_cons_zero, List.set_cons_succ]
                refine takeH (i := 7) (n := 81) (v := .slice (some ⟨g, off, none⟩) n cap) rfl rfl (by kernel_rfl) (by kernel_rfl) (by kernel_rfl) (fun _ _ _ h => h) (Or.inl ⟨by kernel_rfl, ?_⟩) (by assumption) ?_
                · intro w hSw; (try dsimp only at hSw); go_simp
                try simp only [Act.put, List.setIfInBounds_toArray, List.set_cons_zero, List.set_cons_succ]
                refine takeH (i := 8) (n := 82) (v := .int .i64 n) rfl rfl (by kernel_rfl) (by kernel_rfl) (by kernel_rfl) (fun _ _ _ h => h) (Or.inl ⟨by kernel_rfl, ?_⟩) (by assumption) ?_
                · intro w hSw; (try dsimp only at hSw); go_simp
                try simp only [Act.put, List.setIfInBounds_toArray, List.set_cons_zero, List.set_cons_succ]
                refine takeH (i := 9) (n := 83) (v := .int .i64 k1) rfl rfl (by kernel_rfl) (by kernel_rfl) (by kernel_rfl) (fun _ _ _ h => h) (Or.inl ⟨by kernel_rfl, ?_⟩) (by assumption) ?_
                · intro w hSw; (try dsimp only at hSw); go_simp
                try simp only [Act.put, List.setIfInBounds_toArray, List.set_cons_zero, List.set_cons_succ]
                refine takeH (i := 10) (n := 84) (v := .pointer (some ⟨g, off + k1 * 2, none⟩)) rfl rfl (by kernel_rfl) (by kernel_rfl) (by kernel_rfl) (fun _ _ _ h => h) (Or.inl ⟨by kernel_rfl, ?_⟩) (by assumption) ?_
                · intro w hSw; (try dsimp only at hSw); go_simp
                try simp only [Act.put, List.setIfInBounds_toArray, List.set_cons_zero, List.set_cons_succ]
                refine takeH (i := 11) (n := 85) (v := .agg #[.int .i64 b.1, .int .i64 b.2]) rfl rfl (by kernel_rfl) (by kernel_rfl) (by kernel_rfl) (fun _ _ _ h => h) (Or.inl ⟨by kernel_rfl, ?_⟩) (by assumption) ?_
                · intro w hSw; (try dsimp only at hSw); go_simp
                try simp only [Act.put, List.setIfInBounds_toArray, List.set_cons_zero, List.set_cons_succ]
                refine takeH (i := 12) (n := 86) (v := .agg #[.int .i64 p.1, .int .i64 p.2]) rfl rfl (by kernel_rfl) (by kernel_rfl) (by kernel_rfl) (fun _ _ _ h => h) (Or.inl ⟨by kernel_rfl, ?_⟩) (by assumption) ?_
                · intro w hSw; (try dsimp only at hSw); go_simp
                try simp only [Act.put, List.setIfInBounds_toArray, List.set_cons_zero, List.set_cons_succ]
                refine wpAnyH_ready (rs := [13]) (by kernel_rfl) (by simp) ?_
                refine AllReadyH.cons rfl (fun K hK => ?_) AllReadyH.nil
                try rw [if_pos (by kernel_rfl)]
                try go_simp
                go_at_call 35
                refine (HTQ.out _).mono ?_
                rintro e w5 ⟨rfl, hb⟩
                have hB5 := below_chain (W := wr) hB4 hb
                refine hK.out _ _ (HS.out _ hB5) (fun hHeld => ?_)
                clear hK K hb
                try simp only [Act.put, List.getElem_toArray, List.getElem_cons_succ, List.getElem_cons_zero, List.setIfInBounds_toArray, List.set_cons_zero, List.set_cons_succ]
                refine takeH (i := 14) (n := 88) (v := .bool true) rfl rfl (by kernel_rfl) (by kernel_rfl) (by kernel_rfl) (fun _ _ _ h => h) (Or.inl ⟨by kernel_rfl, ?_⟩) (by assumption) ?_
                · intro w hSw; (try dsimp only at hSw); go_simp
                try simp only [Act.put, List.setIfInBounds_toArray, List.set_cons_zero, List.set_cons_succ]
                refine wpAnyH_done (by kernel_rfl) ?_ _
                have HZ := Lib.hid hB5
                clear HS hB4 hB5 hmo hwk htm hm1
                go_wp2
                go_ret
                exact ⟨by rw [HF.out]; rfl, HJ.out.2.1.trans (HZ.out.mono HJ.out.2.1.size)⟩
              · have HNG := Lib.hid hneg
                go_wp2_with fail
                have hB4 := (Below.refl wr.heap.size wr).drew
                refine wp_region_held_drew (S := (fun w' => w'.cell? ⟨g, off + k * 2, none⟩ = some (.int .i64 a.1) ∧ w'.cell? ⟨g, off + k * 2 + 1, none⟩ = some (.int .i64 a.2) ∧ w'.cell? ⟨g, off + k1 * 2, none⟩ = some (.int .i64 b.1) ∧ w'.cell? ⟨g, off + k1 * 2 + 1, none⟩ = some (.int .i64 b.2) ∧ w'.cell? ⟨m, 0, none⟩ = some (.int .i64 p.1) ∧ w'.cell? ⟨m, 1, none⟩ = some (.int .i64 p.2) ∧ Below wr.heap.size wr w')) (by kernel_rfl) (HS.out _ hB4) (fun hHeld => ?_)
                refine takeH (i := 0) (n := 74) (v := .slice (some ⟨g, off, none⟩) n cap) rfl rfl (by kernel_rfl) (by kernel_rfl) (by kernel_rfl) (fun _ _ _ h => h) (Or.inl ⟨by kernel_rfl, ?_⟩) (by assumption) ?_
                · intro w hSw; (try dsimp only at hSw); go_simp
                try simp only [Act.put, List.setIfInBounds_toArray, List.set_cons_zero, List.set_cons_succ]
                refine takeH (i := 1) (n := 75) (v := .int .i64 k) rfl rfl (by kernel_rfl) (by kernel_rfl) (by kernel_rfl) (fun _ _ _ h => h) (Or.inl ⟨by kernel_rfl, ?_⟩) (by assumption) ?_
                · intro w hSw; (try dsimp only at hSw); go_simp
                try simp only [Act.put, List.setIfInBounds_toArray, List.set_cons_zero, List.set_cons_succ]
                refine takeH (i := 2) (n := 76) (v := .pointer (some ⟨g, off + k * 2, none⟩)) rfl rfl (by kernel_rfl) (by kernel_rfl) (by kernel_rfl) (fun _ _ _ h => h) (Or.inl ⟨by kernel_rfl, ?_⟩) (by assumption) ?_
                · intro w hSw; (try dsimp only at hSw); go_simp
                try simp only [Act.put, List.setIfInBounds_toArray, List.set_cons_zero, List.set_cons_succ]
                refine takeH (i := 3) (n := 77) (v := .agg #[.int .i64 a.1, .int .i64 a.2]) rfl rfl (by kernel_rfl) (by kernel_rfl) (by kernel_rfl) (fun _ _ _ h => h) (Or.inl ⟨by kernel_rfl, ?_⟩) (by assumption) ?_
                · intro w hSw; (try dsimp only at hSw); go_simp
                try simp only [Act.put, List.setIfInBounds_toArray, List.set_cons_zero, List.set_cons_succ]
                refine takeH (i := 4) (n := 78) (v := .slice (some ⟨g, off, none⟩) n cap) rfl rfl (by kernel_rfl) (by kernel_rfl) (by kernel_rfl) (fun _ _ _ h => h) (Or.inl ⟨by kernel_rfl, ?_⟩) (by assumption) ?_
                · intro w hSw; (try dsimp only at hSw); go_simp
                try simp only [Act.put, List.setIfInBounds_toArray, List.set_cons_zero, List.set_cons_succ]
                refine takeH (i := 5) (n := 79) (v := .int .i64 k) rfl rfl (by kernel_rfl) (by kernel_rfl) (by kernel_rfl) (fun _ _ _ h => h) (Or.inl ⟨by kernel_rfl, ?_⟩) (by assumption) ?_
                · intro w hSw; (try dsimp only at hSw); go_simp
                try simp only [Act.put, List.setIfInBounds_toArray, List.set_cons_zero, List.set_cons_succ]
                refine takeH (i := 6) (n := 80) (v := .int .i64 ((k : Int) + 1)) rfl rfl (by kernel_rfl) (by kernel_rfl) (by kernel_rfl) (fun _ _ _ h => h) (Or.inl ⟨by kernel_rfl, ?_⟩) (by assumption) ?_
                · intro w hSw; (try dsimp only at hSw); go_simp
                try simp only [Act.put, List.setIfInBounds_toArray, List.set_cons_zero, List.set_cons_succ]
                refine takeH (i := 7) (n := 81) (v := .slice (some ⟨g, off, none⟩) n cap) rfl rfl (by kernel_rfl) (by kernel_rfl) (by kernel_rfl) (fun _ _ _ h => h) (Or.inl ⟨by kernel_rfl, ?_⟩) (by assumption) ?_
                · intro w hSw; (try dsimp only at hSw); go_simp
                try simp only [Act.put, List.setIfInBounds_toArray, List.set_cons_zero, List.set_cons_succ]
                refine takeH (i := 8) (n := 82) (v := .int .i64 n) rfl rfl (by kernel_rfl) (by kernel_rfl) (by kernel_rfl) (fun _ _ _ h => h) (Or.inl ⟨by kernel_rfl, ?_⟩) (by assumption) ?_
                · intro w hSw; (try dsimp only at hSw); go_simp
                try simp only [Act.put, List.setIfInBounds_toArray, List.set_cons_zero, List.set_cons_succ]
                refine takeH (i := 9) (n := 83) (v := .int .i64 k1) rfl rfl (by kernel_rfl) (by kernel_rfl) (by kernel_rfl) (fun _ _ _ h => h) (Or.inl ⟨by kernel_rfl, ?_⟩) (by assumption) ?_
                · intro w hSw; (try dsimp only at hSw); go_simp
                try simp only [Act.put, List.setIfInBounds_toArray, List.set_cons_zero, List.set_cons_succ]
                refine takeH (i := 10) (n := 84) (v := .pointer (some ⟨g, off + k1 * 2, none⟩)) rfl rfl (by kernel_rfl) (by kernel_rfl) (by kernel_rfl) (fun _ _ _ h => h) (Or.inl ⟨by kernel_rfl, ?_⟩) (by assumption) ?_
                · intro w hSw; (try dsimp only at hSw); go_simp
                try simp only [Act.put, List.setIfInBounds_toArray, List.set_cons_zero, List.set_cons_succ]
                refine takeH (i := 11) (n := 85) (v := .agg #[.int .i64 b.1, .int .i64 b.2]) rfl rfl (by kernel_rfl) (by kernel_rfl) (by kernel_rfl) (fun _ _ _ h => h) (Or.inl ⟨by kernel_rfl, ?_⟩) (by assumption) ?_
                · intro w hSw; (try dsimp only at hSw); go_simp
                try simp only [Act.put, List.setIfInBounds_toArray, List.set_cons_zero, List.set_cons_succ]
                refine takeH (i := 12) (n := 86) (v := .agg #[.int .i64 p.1, .int .i64 p.2]) rfl rfl (by kernel_rfl) (by kernel_rfl) (by kernel_rfl) (fun _ _ _ h => h) (Or.inl ⟨by kernel_rfl, ?_⟩) (by assumption) ?_
                · intro w hSw; (try dsimp only at hSw); go_simp
                try simp only [Act.put, List.setIfInBounds_toArray, List.set_cons_zero, List.set_cons_succ]
                refine wpAnyH_ready (rs := [13]) (by kernel_rfl) (by simp) ?_
                refine AllReadyH.cons rfl (fun K hK => ?_) AllReadyH.nil
                try rw [if_pos (by kernel_rfl)]
                try go_simp
                go_at_call 35
                refine (HTQ.out _).mono ?_
                rintro e w5 ⟨rfl, hb⟩
                have hB5 := below_chain (W := wr) hB4 hb
                refine hK.out _ _ (HS.out _ hB5) (fun hHeld => ?_)
                clear hK K hb
                try simp only [Act.put, List.getElem_toArray, List.getElem_cons_succ, List.getElem_cons_zero, List.setIfInBounds_toArray, List.set_cons_zero, List.set_cons_succ]
                refine takeH (i := 14) (n := 88) (v := .bool false) rfl rfl (by kernel_rfl) (by kernel_rfl) (by kernel_rfl) (fun _ _ _ h => h) (Or.inl ⟨by kernel_rfl, ?_⟩) (by assumption) ?_
                · intro w hSw; (try dsimp only at hSw); go_simp
                try simp only [Act.put, List.setIfInBounds_toArray, List.set_cons_zero, List.set_cons_succ]
                refine wpAnyH_done (by kernel_rfl) ?_ _
                have HZ := Lib.hid hB5
                clear HS hB4 hB5 hmo hwk htm hm1
                clear hneg
                go_wp2
                go_roundw
                case rel => exact ⟨k + 1, by have := HKN.out; omega, by go_num, Lib.hid ⟨stay HJ.out.1 HZ.out, HJ.out.2.1.trans (HZ.out.mono HJ.out.2.1.size), HJ.out.2.2.1.below HZ.out, fun j hj => by
                  by_cases e : j = k
                  · subst e; rw [HTV.out]; have := HNG.out; omega
                  · have := HJ.out.2.2.2 j (by omega); omega⟩⟩
                case measure => have := HKN.out; simp [intOf]; omega
            · have HF : Hid (hasB l p = true) := Lib.hid (by rw [HR2.out]; exact inside_yes (fun j hj => HJ.out.2.2.2 j (by rw [← HN.out] at hj; omega)))
              go_wp2
              go_ret
              exact ⟨by rw [HF.out]; rfl, HJ.out.2.1⟩
end Go.Proofs.YtjcaaejfokmolaaGreatDoor
