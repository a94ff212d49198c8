/- The document's CheckArea. -/
import Derived.Test.YtjcaaejfokmolaaGreatDoorRpArBe
import Derived.Test.YtjcaaejfokmolaaGreatDoorRpConvA
import Derived.Test.YtjcaaejfokmolaaGreatDoorRpTake
import Derived.Deep.DeepCutAuto
import Derived.Deep.CutRange
import Derived.BigRegion
namespace Go.Proofs.YtjcaaejfokmolaaGreatDoor
open Go.RowKit

theorem areaR_len {l : List (Int × Int)} (h : ¬ (1 ≤ l.length ∧ l.length ≤ 12)) : areaR l = false := by unfold areaR; rw [decide_eq_false h]; rfl
theorem areaR_place {l : List (Int × Int)} {k : Nat} (hk : k < l.length) (h : placeB (atZ l k) = false) : areaR l = false := by
  unfold areaR
  rw [show l.all placeB = false by rw [all_atZ]; exact range_all_false hk h, Bool.false_and, Bool.and_false]
theorem areaR_in {l : List (Int × Int)} (h : 1 ≤ l.length ∧ l.length ≤ 12) (hp : ∀ k, k < l.length → placeB (atZ l k) = true) : areaR l = if l.length = 1 then true else if l.length = 2 then decide (atZ l 0 ≠ atZ l 1) else convexR l := by
  unfold areaR
  rw [decide_eq_true h, show l.all placeB = true by rw [all_atZ]; exact range_all_true hp, Bool.true_and, Bool.true_and]
theorem okR_turn {l : List (Int × Int)} {i : Nat} (h : turnZ (atZ l i) (atZ l ((i + 1) % l.length)) (atZ l ((i + 2) % l.length)) ≤ 0) : okR l i = false := by unfold okR; rw [decide_eq_false (by omega), Bool.false_and]
theorem okR_side {l : List (Int × Int)} {i k : Nat} (hk : k < l.length) (h : turnZ (atZ l i) (atZ l ((i + 1) % l.length)) (atZ l k) < 0) : okR l i = false := by
  unfold okR; rw [range_all_false hk (decide_eq_false (by omega)), Bool.and_false]
theorem okR_yes {l : List (Int × Int)} {i : Nat} (h : ¬ turnZ (atZ l i) (atZ l ((i + 1) % l.length)) (atZ l ((i + 2) % l.length)) ≤ 0) (h2 : ∀ k, k < l.length → ¬ turnZ (atZ l i) (atZ l ((i + 1) % l.length)) (atZ l k) < 0) : okR l i = true := by
  unfold okR; rw [range_all_true (fun k hk => decide_eq_true (by have := h2 k hk; omega)), decide_eq_true (by omega)]; rfl
theorem convexR_no {l : List (Int × Int)} {i : Nat} (hi : i < l.length) (h : okR l i = false) : convexR l = false := by unfold convexR; rw [range_all_false hi h, Bool.false_and]
theorem convexR_end {l : List (Int × Int)} (h : ∀ i, i < l.length → okR l i = true) : convexR l = decide (0 < sumZ l l.length) := by unfold convexR; rw [range_all_true h, Bool.true_and]
theorem mul_place {a b : Int} (h1 : -16777216 ≤ a ∧ a ≤ 16777216) (h2 : -16777216 ≤ b ∧ b ≤ 16777216) : -281474976710656 ≤ a * b ∧ a * b ≤ 281474976710656 := by
  obtain ⟨a1, a2⟩ := h1; obtain ⟨b1, b2⟩ := h2
  have t1 : 0 ≤ (a + 16777216) * (b + 16777216) := Int.mul_nonneg (by omega) (by omega)
  have t2 : 0 ≤ (16777216 - a) * (16777216 - b) := Int.mul_nonneg (by omega) (by omega)
  have t3 : 0 ≤ (a + 16777216) * (16777216 - b) := Int.mul_nonneg (by omega) (by omega)
  have t4 : 0 ≤ (16777216 - a) * (b + 16777216) := Int.mul_nonneg (by omega) (by omega)
  rw [Int.add_mul, Int.mul_add, Int.mul_add] at t1
  rw [Int.sub_mul, Int.mul_sub, Int.mul_sub] at t2
  rw [Int.add_mul, Int.mul_sub, Int.mul_sub] at t3
  rw [Int.sub_mul, Int.mul_add, Int.mul_add] at t4
  omega
theorem place_bd {p : Int × Int} (h : placeB p = true) : (-16777216 ≤ p.1 ∧ p.1 ≤ 16777216) ∧ (-16777216 ≤ p.2 ∧ p.2 ≤ 16777216) := by
  unfold placeB at h
  rwa [Bool.and_eq_true, inB_true, inB_true] at h
theorem sumZ_bd {l : List (Int × Int)} (h : ∀ k, k < l.length → placeB (atZ l k) = true) : ∀ i, i ≤ l.length → -(562949953421312 * (i : Int)) ≤ sumZ l i ∧ sumZ l i ≤ 562949953421312 * (i : Int) := by
  intro i
  induction i with
  | zero => intro _; simp [sumZ]
  | succ i ih =>
    intro hi
    obtain ⟨b1, b2⟩ := ih (by omega)
    have p := place_bd (h i (by omega)); have q := place_bd (h ((i + 1) % l.length) (Nat.mod_lt _ (by omega)))
    have m1 := mul_place p.1 q.2; have m2 := mul_place p.2 q.1
    simp only [sumZ, crossZ]
    omega

/-- the cells of a place of an area, at an index of Nat. -/
theorem Area.cell {w : World} {g off n cap : Nat} {l : List (Int × Int)} (h : Area w (.slice (some ⟨g, off, none⟩) n cap) l) {k : Nat} (hk : k < l.length) :
    w.cell? ⟨g, off + k * 2, none⟩ = some (.int .i64 (atZ l k).1) ∧ w.cell? ⟨g, off + k * 2 + 1, none⟩ = some (.int .i64 (atZ l k).2) := by
  obtain ⟨_, _, g', off', e, _, c1, c2⟩ := h.at_ hk
  injection e with e; injection e with e1 e2; subst e1; subst e2
  exact ⟨c1, c2⟩
theorem Area.lt {w : World} {g off n cap : Nat} {l : List (Int × Int)} (h : Area w (.slice (some ⟨g, off, none⟩) n cap) l) (hl : 0 < l.length) : g < w.heap.size ∧ n ≤ cap := by
  obtain ⟨_, hc, g', off', e, hg, _, _⟩ := h.at_ (k := 0) hl
  injection e with e; injection e with e1 e2; subst e1; subst e2
  exact ⟨hg, hc⟩

theorem cells_new {w : World} {g i : Nat} {v : Value} (hg : g < w.heap.size) (h : w.cell? ⟨g, i, none⟩ = some v) : (∀ o, (w.alloc o).cell? ⟨g, i, none⟩ = some v) ∧ (∀ o o', ((w.alloc o).alloc o').cell? ⟨g, i, none⟩ = some v) ∧ (∀ o o' o'', (((w.alloc o).alloc o').alloc o'').cell? ⟨g, i, none⟩ = some v) := by
  have h1 : ∀ o, (w.alloc o).cell? ⟨g, i, none⟩ = some v := fun o => (World.cell?_alloc_lt w o ⟨g, i, none⟩ hg).trans h
  have h2 : ∀ o o', ((w.alloc o).alloc o').cell? ⟨g, i, none⟩ = some v := fun o o' => (World.cell?_alloc_lt _ o' ⟨g, i, none⟩ (by simp; omega)).trans (h1 o)
  exact ⟨h1, h2, fun o o' o'' => (World.cell?_alloc_lt _ o'' ⟨g, i, none⟩ (by simp; omega)).trans (h2 o o')⟩

theorem spot_cells {W : World} {n : Nat} {p : Int × Int} (h : W.heap[n]? = some (spO p)) : W.cell? ⟨n, 0, none⟩ = some (.int .i64 p.1) ∧ W.cell? ⟨n, 1, none⟩ = some (.int .i64 p.2) := by
  refine ⟨?_, ?_⟩ <;> simp [World.cell?, h]
theorem laid3 (w : World) (o1 o2 o3 : Obj) : (((w.alloc o1).alloc o2).alloc o3).drew.heap[w.heap.size]? = some o1 ∧ (((w.alloc o1).alloc o2).alloc o3).drew.heap[w.heap.size + 1]? = some o2 ∧ (((w.alloc o1).alloc o2).alloc o3).drew.heap[w.heap.size + 1 + 1]? = some o3 ∧ Below w.heap.size w (((w.alloc o1).alloc o2).alloc o3).drew := by
  have hb : Below w.heap.size w (((w.alloc o1).alloc o2).alloc o3) := (((Below.refl _ _).alloc (Nat.le_refl _) _).alloc (by simp) _).alloc (by simp; omega) _
  refine ⟨?_, ?_, ?_, hb.drew⟩
  · show (((w.alloc o1).alloc o2).alloc o3).heap[w.heap.size]? = some o1
    exact stay (stay (heap_alloc_new w o1) (new_below _ o2)) (new_below _ o3)
  · show (((w.alloc o1).alloc o2).alloc o3).heap[w.heap.size + 1]? = some o2
    have := heap_alloc_new (w.alloc o1) o2
    rw [World.size_alloc] at this
    exact stay this (new_below _ o3)
  · show (((w.alloc o1).alloc o2).alloc o3).heap[w.heap.size + 1 + 1]? = some o3
    have := heap_alloc_new ((w.alloc o1).alloc o2) o3
    rw [World.size_alloc, World.size_alloc] at this
    exact this

set_option maxRecDepth 100000 in
set_option maxHeartbeats 8000000 in
theorem refCheckArea_any (A : Option Addr) (cap : Nat) (l : List (Int × Int)) (w : World) (h : Area w (.slice A l.length cap) l) (hm : l.length ≤ 1000000) :
    Calls Tryz.prog 11 #[.slice A l.length cap] w fun e w' => e = .returned (.bool (areaR l)) ∧ Below w.heap.size w w' := by
  have HA := Lib.hid h
  clear h
  obtain ⟨n, hn⟩ : ∃ n, n = l.length := ⟨_, rfl⟩
  rw [← hn] at hm ⊢
  have HN := Lib.hid hn; clear hn
  by_cases hr : 1 ≤ n ∧ n ≤ 12
  · have HFR : Hid (∀ W, Calls Tryz.prog 33 #[.int .i64 n, .int .i64 1, .int .i64 12] W fun e w' => e = .returned (.bool true) ∧ W = w') := Lib.hid fun W => by
      have := refIn_any n 1 12 W
      rwa [show inB n 1 12 = true from inB_true.2 (by omega)] at this
    have HR := Lib.hid hr
    obtain ⟨hr1, hr2⟩ := hr
    go_enter Tryz.func11, Tryz.ntmps11
    go_wp2_with (go_at_call 33; ((with_reducible refine (HFR.out _).mono ?_); rintro e w' ⟨rfl, rfl⟩))
    go_loopw [4] (fun iv wr => ∃ k : Nat, k ≤ n ∧ iv = .int .i64 k ∧ Hid (Below w.heap.size w wr ∧ ∀ j, j < k → placeB (atZ l j) = true)) (fun iv _ => n - (intOf iv).toNat)
    case atStart => exact ⟨0, Nat.zero_le _, rfl, Lib.hid ⟨Below.refl _ _, fun j hj => absurd hj (Nat.not_lt_zero j)⟩⟩
    case round =>
      obtain ⟨k, hk, rfl, HI⟩ := hrel
      have HAr : Hid (Area wr (.slice A n cap) l) := Lib.hid (by have := HA.out.below HI.out.1; rw [← HN.out] at this; exact this)
      by_cases hlt : k < n
      · have hlt' : k < l.length := by rw [← HN.out]; exact hlt
        obtain ⟨hnn, hcap, g, off, rfl, hg, c1, c2⟩ := HAr.out.at_ hlt'
        clear hnn
        obtain ⟨p, hp⟩ : ∃ p, p = atZ l k := ⟨_, rfl⟩
        rw [← hp] at c1 c2
        obtain ⟨b, hb⟩ : ∃ b, b = placeB p := ⟨_, rfl⟩
        have HPL : Hid (∀ W, Calls Tryz.prog 34 #[.agg #[.int .i64 p.1, .int .i64 p.2]] W fun e w' => e = .returned (.bool b) ∧ Below W.heap.size W w') := Lib.hid fun W => by rw [hb]; exact refPlace_any p W
        have HB : Hid (placeB (atZ l k) = b) := Lib.hid (by rw [hb, hp])
        have HLT := Lib.hid hlt; have HLT' := Lib.hid hlt'
        clear HAr hp hb hlt'
        go_wp2_with fail
        refine (HPL.out wr).mono ?_
        rintro e w3 ⟨rfl, hb3⟩
        have HB3 := Lib.hid (HI.out.1.trans (hb3.mono HI.out.1.size))
        clear hb3 HPL c1 c2
        cases b with
        | true =>
          go_wp2
          go_roundw
          case rel => exact ⟨k + 1, by have := HLT.out; omega, by go_num, Lib.hid ⟨HB3.out, fun j hj => by
            by_cases e : j = k
            · subst e; exact HB.out
            · exact HI.out.2 j (by omega)⟩⟩
          case measure => have := HLT.out; simp [intOf]; omega
        | false =>
          go_wp2
          go_ret
          exact ⟨by rw [areaR_place HLT'.out HB.out]; rfl, HB3.out⟩
      · have HP : Hid (∀ j, j < l.length → placeB (atZ l j) = true) := Lib.hid fun j hj => HI.out.2 j (by rw [← HN.out] at hj; omega)
        have HQ : Hid (areaR l = if l.length = 1 then true else if l.length = 2 then decide (atZ l 0 ≠ atZ l 1) else convexR l) := Lib.hid (areaR_in (by rw [← HN.out]; exact HR.out) HP.out)
        have HBW := Lib.hid HI.out.1
        have hnk : n = k := by omega
        clear HI
        subst hnk
        clear hlt hk
        by_cases n1 : n = 1
        · subst n1
          have HX : Hid (areaR l = true) := Lib.hid (by rw [HQ.out, if_pos HN.out.symm])
          clear HAr HQ HP HFR
          go_wp2_with fail
          go_quiet (fail)
          go_wp2
          go_ret
          exact ⟨by rw [HX.out]; rfl, HBW.out.trans ⟨rfl, rfl, rfl, Nat.le_refl _, fun _ _ => rfl⟩⟩
        · by_cases n2 : n = 2
          · subst n2
            have HX : Hid (areaR l = decide (atZ l 0 ≠ atZ l 1)) := Lib.hid (by rw [HQ.out, if_neg (by rw [← HN.out]; omega), if_pos HN.out.symm])
            obtain ⟨g, off, rfl, hcap, hg, c1, c2, c3, c4⟩ := HAr.out.two HN.out.symm
            obtain ⟨p, hp⟩ : ∃ p, p = atZ l 0 := ⟨_, rfl⟩
            obtain ⟨q, hq⟩ : ∃ q, q = atZ l 1 := ⟨_, rfl⟩
            rw [← hp] at c1 c2; rw [← hq] at c3 c4
            rw [← hp, ← hq] at HX
            obtain ⟨p1, p2⟩ := p; obtain ⟨q1, q2⟩ := q
            simp only at c1 c2 c3 c4
            clear hp hq HAr HQ HP HFR hg
            by_cases e1 : p1 = q1
            · by_cases e2 : p2 = q2
              · have HY : Hid (areaR l = false) := Lib.hid (by rw [HX.out, e1, e2]; simp)
                clear HX
                go_wp2_with fail
                go_quiet (fail)
                go_wp2
                go_ret
                exact ⟨by rw [HY.out]; rfl, HBW.out.trans ⟨rfl, rfl, rfl, Nat.le_refl _, fun _ _ => rfl⟩⟩
              · have HY : Hid (areaR l = true) := Lib.hid (by rw [HX.out]; simp [e2])
                clear HX
                go_wp2_with fail
                go_quiet (fail)
                go_wp2
                go_ret
                exact ⟨by rw [HY.out]; rfl, HBW.out.trans ⟨rfl, rfl, rfl, Nat.le_refl _, fun _ _ => rfl⟩⟩
            · have HY : Hid (areaR l = true) := Lib.hid (by rw [HX.out]; simp [e1])
              clear HX
              go_wp2_with fail
              go_quiet (fail)
              go_wp2
              go_ret
              exact ⟨by rw [HY.out]; rfl, HBW.out.trans ⟨rfl, rfl, rfl, Nat.le_refl _, fun _ _ => rfl⟩⟩
          · have HX : Hid (areaR l = convexR l) := Lib.hid (by rw [HQ.out, if_neg (by rw [← HN.out]; exact n1), if_neg (by rw [← HN.out]; exact n2)])
            have hn3 : 3 ≤ n := by omega
            obtain ⟨hnn, hcap, g, off, rfl, hg, c1, c2⟩ := HAr.out.at_ (k := 0) (by rw [← HN.out]; omega)
            clear hnn hg c1 c2 HQ HFR n1 n2 hr1
            go_upto_region 11 with fail
            generalize decide ((n : Int) ≤ 2) = d28
            have HN3 := Lib.hid hn3; have HR2 := Lib.hid hr2
            have hk12 : n ≤ 12 := HR.out.2
            clear hn3 hr2
            rename 2 < (n : Int) => h2k
            clear h2k
            go_wp2_with fail
            go_loopw [5, 6] (fun sv iv wr => ∃ i : Nat, i ≤ n ∧ sv = .int .i64 (sumZ l i) ∧ iv = .int .i64 i ∧ Hid (Below w.heap.size w wr ∧ Area wr (.slice (some ⟨g, off, none⟩) n cap) l ∧ ∀ j, j < i → okR l j = true)) (fun _ iv _ => n - (intOf iv).toNat)
            case atStart => exact ⟨0, Nat.zero_le _, rfl, rfl, Lib.hid ⟨HBW.out, HAr.out, fun j hj => absurd hj (Nat.not_lt_zero j)⟩⟩
            case round =>
              obtain ⟨i, hi, rfl, rfl, HI⟩ := hrel
              obtain ⟨s, hs⟩ : ∃ s, s = sumZ l i := ⟨_, rfl⟩
              have hsb : -(562949953421312 * (i : Int)) ≤ s ∧ s ≤ 562949953421312 * (i : Int) := by rw [hs]; exact sumZ_bd HP.out i (by rw [← HN.out]; exact hi)
              have HSU := Lib.hid hs
              rw [← hs]
              clear hs
              by_cases hlt : i < n
              · have hl0 : 0 < l.length := by rw [← HN.out]; omega
                have HM1 : Hid ((i + 1) % n < n ∧ (i + 2) % n < n) := Lib.hid ⟨Nat.mod_lt _ (by omega), Nat.mod_lt _ (by omega)⟩
                obtain ⟨i1, hi1⟩ : ∃ i1, i1 = (i + 1) % n := ⟨_, rfl⟩
                obtain ⟨i2, hi2⟩ : ∃ i2, i2 = (i + 2) % n := ⟨_, rfl⟩
                have hm1 : ((i : Int) + 1) % (n : Int) = (i1 : Int) := by rw [hi1]; have := Int.natCast_emod (i + 1) n; rw [Int.natCast_add] at this; exact this.symm
                have hm2 : ((i : Int) + 2) % (n : Int) = (i2 : Int) := by rw [hi2]; have := Int.natCast_emod (i + 2) n; rw [Int.natCast_add] at this; exact this.symm
                have hl1 : i1 < n := by rw [hi1]; exact HM1.out.1
                have hl2 : i2 < n := by rw [hi2]; exact HM1.out.2
                obtain ⟨a, ha⟩ : ∃ a, a = atZ l i := ⟨_, rfl⟩
                obtain ⟨b, hb⟩ : ∃ b, b = atZ l i1 := ⟨_, rfl⟩
                obtain ⟨c, hc⟩ : ∃ c, c = atZ l i2 := ⟨_, rfl⟩
                obtain ⟨x0, x1⟩ := HI.out.2.1.cell (k := i) (by rw [← HN.out]; exact hlt)
                obtain ⟨y0, y1⟩ := HI.out.2.1.cell (k := i1) (by rw [← HN.out]; exact hl1)
                obtain ⟨z0, z1⟩ := HI.out.2.1.cell (k := i2) (by rw [← HN.out]; exact hl2)
                rw [← ha] at x0 x1; rw [← hb] at y0 y1; rw [← hc] at z0 z1
                have hga := HI.out.2.1.lt hl0
                have HABC : Hid (a = atZ l i ∧ b = atZ l ((i + 1) % l.length) ∧ c = atZ l ((i + 2) % l.length)) := Lib.hid ⟨ha, by rw [hb, hi1, HN.out], by rw [hc, hi2, HN.out]⟩
                have HPA : Hid (placeB a = true ∧ placeB b = true ∧ placeB c = true) := Lib.hid ⟨by rw [ha]; exact HP.out i (by rw [← HN.out]; exact hlt), by rw [hb]; exact HP.out i1 (by rw [← HN.out]; exact hl1), by rw [hc]; exact HP.out i2 (by rw [← HN.out]; exact hl2)⟩
                obtain ⟨hga1, hga2⟩ := hga
                have HLT := Lib.hid hlt
                clear ha hb hc hi1 hi2
                go_upto_region 15 with fail
                go_cut [7, 8, 9] from 40 to 93 (fun pa pb pc wx => ∃ na nb nc, pa = .pointer (some ⟨na, 0, none⟩) ∧ pb = .pointer (some ⟨nb, 0, none⟩) ∧ pc = .pointer (some ⟨nc, 0, none⟩) ∧ Hid (wx.heap[na]? = some (spO a) ∧ wx.heap[nb]? = some (spO b) ∧ wx.heap[nc]? = some (spO c) ∧ Below wr.heap.size wr wx))
                case first =>
                  obtain ⟨A1, A2, A3⟩ := cells_new hga1 x0
                  obtain ⟨B1, B2, B3⟩ := cells_new hga1 x1
                  obtain ⟨C1, C2, C3⟩ := cells_new hga1 y0
                  obtain ⟨D1, D2, D3⟩ := cells_new hga1 y1
                  obtain ⟨E1, E2, E3⟩ := cells_new hga1 z0
                  obtain ⟨F1, F2, F3⟩ := cells_new hga1 z1
                  have hn0 : (n = 0) = False := by simp; omega
                  have gn1 : g ≠ wr.heap.size := by omega
                  have gn2 : g ≠ wr.heap.size + 1 := by omega
                  have gn3 : g ≠ wr.heap.size + 1 + 1 := by omega
                  clear HABC HPA HM1 HSU
                  go_region
                  all_goals go_wp2_with fail
                  all_goals go_meet
                  all_goals (case rel => (refine ⟨_, _, _, rfl, rfl, rfl, Lib.hid ⟨?_, ?_, ?_, ?_⟩⟩ <;> first | exact (laid3 _ _ _ _).1 | exact (laid3 _ _ _ _).2.1 | exact (laid3 _ _ _ _).2.2.1 | exact (laid3 _ _ _ _).2.2.2))
                case rest =>
                  obtain ⟨na, nb, nc, rfl, rfl, rfl, HZ⟩ := hcut
                  clear x0 x1 y0 y1 z0 z1 hga1 hga2 hm1 hm2 hl1 hl2
                  have HZ4 : Hid (Below w.heap.size w wc ∧ Area wc (.slice (some ⟨g, off, none⟩) n cap) l) := Lib.hid ⟨HI.out.1.trans (HZ.out.2.2.2.mono HI.out.1.size), HI.out.2.1.below HZ.out.2.2.2⟩
                  have HOK := Lib.hid HI.out.2.2
                  obtain ⟨x0, x1⟩ := spot_cells HZ.out.1
                  obtain ⟨y0, y1⟩ := spot_cells HZ.out.2.1
                  obtain ⟨z0, z1⟩ := spot_cells HZ.out.2.2.1
                  obtain ⟨t, ht⟩ : ∃ t, t = turnZ a b c := ⟨_, rfl⟩
                  have HT : Hid (∀ W, Calls Tryz.prog 35 #[.agg #[.int .i64 a.1, .int .i64 a.2], .agg #[.int .i64 b.1, .int .i64 b.2], .agg #[.int .i64 c.1, .int .i64 c.2]] W fun e w' => e = .returned (.int .i64 t) ∧ Below W.heap.size W w') := Lib.hid fun W => by
                    rw [ht]; exact refTurn_any a b c W (place_near2 HPA.out.1) (place_near2 HPA.out.2.1) (place_near2 HPA.out.2.2)
                  have HTT : Hid (turnZ (atZ l i) (atZ l ((i + 1) % l.length)) (atZ l ((i + 2) % l.length)) = t) := Lib.hid (by rw [ht, ← HABC.out.1, ← HABC.out.2.1, ← HABC.out.2.2])
                  have HLL : Hid (i < l.length) := Lib.hid (by rw [← HN.out]; exact hlt)
                  clear ht HI
                  go_wp2_with fail
                  refine (HT.out wc).mono ?_
                  rintro e w5 ⟨rfl, hb5⟩
                  have HA5 := Lib.hid (stay HZ.out.1 hb5); have HB5 := Lib.hid (stay HZ.out.2.1 hb5)
                  have HZ5 : Hid (Below w.heap.size w w5 ∧ Area w5 (.slice (some ⟨g, off, none⟩) n cap) l) := Lib.hid ⟨HZ4.out.1.trans (hb5.mono HZ4.out.1.size), HZ4.out.2.below hb5⟩
                  clear hb5 HZ HZ4 HT x0 x1 y0 y1 z0 z1
                  by_cases ht0 : t ≤ 0
                  · have HF : Hid (areaR l = false) := Lib.hid (by rw [HX.out]; exact convexR_no HLL.out (okR_turn (by rw [HTT.out]; exact ht0)))
                    go_wp2
                    go_ret
                    exact ⟨by rw [HF.out]; rfl, HZ5.out.1⟩
                  · have HT0 := Lib.hid ht0
                    obtain ⟨m1, hm1⟩ : ∃ m, a.1 * b.2 = m := ⟨_, rfl⟩
                    obtain ⟨m2, hm2⟩ : ∃ m, b.1 * a.2 = m := ⟨_, rfl⟩
                    have bm1 : -281474976710656 ≤ m1 ∧ m1 ≤ 281474976710656 := by rw [← hm1]; exact mul_place (place_bd HPA.out.1).1 (place_bd HPA.out.2.1).2
                    have bm2 : -281474976710656 ≤ m2 ∧ m2 ≤ 281474976710656 := by rw [← hm2]; exact mul_place (place_bd HPA.out.2.1).1 (place_bd HPA.out.1).2
                    have w1 : IntKind.i64.wrap (a.1 * b.2) = m1 := by rw [hm1]; exact IntWalk.i64_in _ (by omega)
                    have w2 : IntKind.i64.wrap (b.1 * a.2) = m2 := by rw [hm2]; exact IntWalk.i64_in _ (by omega)
                    have HS2 : Hid (s + m1 - m2 = sumZ l (i + 1)) := Lib.hid (by
                      simp only [sumZ, crossZ]
                      rw [← HSU.out, ← HABC.out.1, ← HABC.out.2.1, ← hm1, ← hm2, Int.mul_comm a.2 b.1]
                      omega)
                    obtain ⟨b1, b1'⟩ := bm1; obtain ⟨b2, b2'⟩ := bm2; obtain ⟨b3, b3'⟩ := hsb
                    have b4 : -6755399441055744 ≤ s := by omega
                    have b4' : s ≤ 6755399441055744 := by omega
                    clear b3 b3'
                    obtain ⟨x0, x1⟩ := spot_cells HA5.out
                    obtain ⟨y0, y1⟩ := spot_cells HB5.out
                    go_upto_region 19 with fail
                    clear b1 b1' b2 b2' b4 b4' w1 w2 x0 x1 y0 y1 ht0
                    obtain ⟨s2, hs2⟩ : ∃ s2, s2 = s + m1 - m2 := ⟨_, rfl⟩
                    rw [← hs2] at HS2 ⊢
                    clear hm1 hm2 hs2
                    go_cut [10] from 40 to 93 (fun kv wx => kv = .int .i64 0 ∧ wx = w5)
                    case first =>
                      go_wp2_with fail
                      go_meet
                      case rel => exact ⟨rfl, rfl⟩
                    case rest =>
                      obtain ⟨rfl, rfl⟩ := hcut
                      clear hlt
                      go_wp2_with fail
                      go_loopw [10] (fun kv wr => ∃ k : Nat, k ≤ n ∧ kv = .int .i64 k ∧ Hid (wr.heap[na]? = some (spO a) ∧ wr.heap[nb]? = some (spO b) ∧ Below w.heap.size w wr ∧ Area wr (.slice (some ⟨g, off, none⟩) n cap) l ∧ ∀ j, j < k → ¬ turnZ a b (atZ l j) < 0)) (fun kv _ => n - (intOf kv).toNat)
                      case atStart => exact ⟨0, Nat.zero_le _, rfl, Lib.hid ⟨HA5.out, HB5.out, HZ5.out.1, HZ5.out.2, fun j hj => absurd hj (Nat.not_lt_zero j)⟩⟩
                      case round =>
                        obtain ⟨k, hk, rfl, HJ⟩ := hrel
                        by_cases hkn : k < n
                        · have hkl : k < l.length := by rw [← HN.out]; exact hkn
                          obtain ⟨q, hq⟩ : ∃ q, q = atZ l k := ⟨_, rfl⟩
                          obtain ⟨tq, htq⟩ : ∃ t, t = turnZ a b q := ⟨_, rfl⟩
                          have HTQ : Hid (∀ W, Calls Tryz.prog 35 #[.agg #[.int .i64 a.1, .int .i64 a.2], .agg #[.int .i64 b.1, .int .i64 b.2], .agg #[.int .i64 q.1, .int .i64 q.2]] W fun e w' => e = .returned (.int .i64 tq) ∧ Below W.heap.size W w') := Lib.hid fun W => by
                            rw [htq]; exact refTurn_any a b q W (place_near2 HPA.out.1) (place_near2 HPA.out.2.1) (place_near2 (by rw [hq]; exact HP.out k hkl))
                          obtain ⟨q0, q1⟩ := HJ.out.2.2.2.1.cell hkl
                          obtain ⟨hgl, hgc⟩ := HJ.out.2.2.2.1.lt (by omega)
                          obtain ⟨x0, x1⟩ := spot_cells HJ.out.1
                          obtain ⟨y0, y1⟩ := spot_cells HJ.out.2.1
                          have hla := (Array.getElem?_eq_some_iff.1 HJ.out.1).1
                          have hlb := (Array.getElem?_eq_some_iff.1 HJ.out.2.1).1
                          rw [← hq] at q0 q1
                          have HS : Hid (∀ w', Below wr.heap.size wr w' → (w'.cell? ⟨na, 0, none⟩ = some (.int .i64 a.1) ∧ w'.cell? ⟨na, 1, none⟩ = some (.int .i64 a.2) ∧ w'.cell? ⟨nb, 0, none⟩ = some (.int .i64 b.1) ∧ w'.cell? ⟨nb, 1, none⟩ = some (.int .i64 b.2) ∧ w'.cell? ⟨g, off + k * 2, none⟩ = some (.int .i64 q.1) ∧ w'.cell? ⟨g, off + k * 2 + 1, none⟩ = some (.int .i64 q.2) ∧ Below wr.heap.size wr w')) := Lib.hid fun w' h =>
                            ⟨(h.cell (p := ⟨na, 0, none⟩) hla).trans x0, (h.cell (p := ⟨na, 1, none⟩) hla).trans x1, (h.cell (p := ⟨nb, 0, none⟩) hlb).trans y0, (h.cell (p := ⟨nb, 1, none⟩) hlb).trans y1, (h.cell (p := ⟨g, off + k * 2, none⟩) hgl).trans q0, (h.cell (p := ⟨g, off + k * 2 + 1, none⟩) hgl).trans q1, h⟩
                          have HTV : Hid (turnZ a b (atZ l k) = tq) := Lib.hid (by rw [htq, hq])
                          have HKL := Lib.hid hkl; have HKN := Lib.hid hkn
                          clear hq htq q0 q1 x0 x1 y0 y1 hla hlb hgl hkl
                          by_cases hneg : tq < 0
                          · have HF : Hid (areaR l = false) := Lib.hid (by rw [HX.out]; exact convexR_no HLL.out (okR_side HKL.out (by rw [← HABC.out.1, ← HABC.out.2.1, HTV.out]; exact hneg)))
                            go_wp2_with fail
                            have hB4 := (Below.refl wr.heap.size wr).drew
                            refine wp_region_held_drew (S := (fun w' => w'.cell? ⟨na, 0, none⟩ = some (.int .i64 a.1) ∧ w'.cell? ⟨na, 1, none⟩ = some (.int .i64 a.2) ∧ w'.cell? ⟨nb, 0, none⟩ = some (.int .i64 b.1) ∧ w'.cell? ⟨nb, 1, none⟩ = some (.int .i64 b.2) ∧ w'.cell? ⟨g, off + k * 2, none⟩ = some (.int .i64 q.1) ∧ w'.cell? ⟨g, off + k * 2 + 1, none⟩ = some (.int .i64 q.2) ∧ Below wr.heap.size wr w')) (by kernel_rfl) (HS.out _ hB4) (fun hHeld => ?_)
                            refine takeH (i := 0) (n := 86) (v := .agg #[.int .i64 a.1, .int .i64 a.2]) rfl rfl (by kernel_rfl) (by kernel_rfl) (by kernel_rfl) (fun _ _ _ h => h) (Or.inl ⟨by kernel_rfl, ?_⟩) (by assumption) ?_
                            · intro w hSw; (try dsimp only at hSw); go_simp
                            try simp only [Act.put, List.setIfInBounds_toArray, List.set_cons_zero, List.set_cons_succ]
                            refine takeH (i := 1) (n := 87) (v := .agg #[.int .i64 b.1, .int .i64 b.2]) rfl rfl (by kernel_rfl) (by kernel_rfl) (by kernel_rfl) (fun _ _ _ h => h) (Or.inl ⟨by kernel_rfl, ?_⟩) (by assumption) ?_
                            · intro w hSw; (try dsimp only at hSw); go_simp
                            try simp only [Act.put, List.setIfInBounds_toArray, List.set_cons_zero, List.set_cons_succ]
                            refine takeH (i := 2) (n := 88) (v := .slice (some ⟨g, off, none⟩) n cap) rfl rfl (by kernel_rfl) (by kernel_rfl) (by kernel_rfl) (fun _ _ _ h => h) (Or.inl ⟨by kernel_rfl, ?_⟩) (by assumption) ?_
                            · intro w hSw; (try dsimp only at hSw); go_simp
                            try simp only [Act.put, List.setIfInBounds_toArray, List.set_cons_zero, List.set_cons_succ]
                            refine takeH (i := 3) (n := 89) (v := .int .i64 k) rfl rfl (by kernel_rfl) (by kernel_rfl) (by kernel_rfl) (fun _ _ _ h => h) (Or.inl ⟨by kernel_rfl, ?_⟩) (by assumption) ?_
                            · intro w hSw; (try dsimp only at hSw); go_simp
                            try simp only [Act.put, List.setIfInBounds_toArray, List.set_cons_zero, List.set_cons_succ]
                            refine takeH (i := 4) (n := 90) (v := .pointer (some ⟨g, off + k * 2, none⟩)) rfl rfl (by kernel_rfl) (by kernel_rfl) (by kernel_rfl) (fun _ _ _ h => h) (Or.inl ⟨by kernel_rfl, ?_⟩) (by assumption) ?_
                            · intro w hSw; (try dsimp only at hSw); go_simp
                            try simp only [Act.put, List.setIfInBounds_toArray, List.set_cons_zero, List.set_cons_succ]
                            refine takeH (i := 5) (n := 91) (v := .agg #[.int .i64 q.1, .int .i64 q.2]) rfl rfl (by kernel_rfl) (by kernel_rfl) (by kernel_rfl) (fun _ _ _ h => h) (Or.inl ⟨by kernel_rfl, ?_⟩) (by assumption) ?_
                            · intro w hSw; (try dsimp only at hSw); go_simp
                            try simp only [Act.put, List.setIfInBounds_toArray, List.set_cons_zero, List.set_cons_succ]
                            refine wpAnyH_ready (rs := [6]) (by kernel_rfl) (by simp) ?_
                            refine AllReadyH.cons rfl (fun K hK => ?_) AllReadyH.nil
                            try rw [if_pos (by kernel_rfl)]
                            try go_simp
                            go_at_call 35
                            refine (HTQ.out _).mono ?_
                            rintro e w5 ⟨rfl, hb⟩
                            have hB5 := below_chain (W := wr) hB4 hb
                            refine hK.out _ _ (HS.out _ hB5) (fun hHeld => ?_)
                            clear hK K hb
                            try simp only [Act.put, List.getElem_toArray, List.getElem_cons_succ, List.getElem_cons_zero, List.setIfInBounds_toArray, List.set_cons_zero, List.set_cons_succ]
                            refine takeH (i := 7) (n := 93) (v := .bool true) rfl rfl (by kernel_rfl) (by kernel_rfl) (by kernel_rfl) (fun _ _ _ h => h) (Or.inl ⟨by kernel_rfl, ?_⟩) (by assumption) ?_
                            · intro w hSw; (try dsimp only at hSw); go_simp
                            try simp only [Act.put, List.setIfInBounds_toArray, List.set_cons_zero, List.set_cons_succ]
                            refine wpAnyH_done (by kernel_rfl) ?_ _
                            have HZ := Lib.hid hB5
                            clear HS hB4 hB5
                            go_wp2
                            go_ret
                            exact ⟨by rw [HF.out]; rfl, HJ.out.2.2.1.trans (HZ.out.mono HJ.out.2.2.1.size)⟩
                          · have HNG := Lib.hid hneg
                            go_wp2_with fail
                            have hB4 := (Below.refl wr.heap.size wr).drew
                            refine wp_region_held_drew (S := (fun w' => w'.cell? ⟨na, 0, none⟩ = some (.int .i64 a.1) ∧ w'.cell? ⟨na, 1, none⟩ = some (.int .i64 a.2) ∧ w'.cell? ⟨nb, 0, none⟩ = some (.int .i64 b.1) ∧ w'.cell? ⟨nb, 1, none⟩ = some (.int .i64 b.2) ∧ w'.cell? ⟨g, off + k * 2, none⟩ = some (.int .i64 q.1) ∧ w'.cell? ⟨g, off + k * 2 + 1, none⟩ = some (.int .i64 q.2) ∧ Below wr.heap.size wr w')) (by kernel_rfl) (HS.out _ hB4) (fun hHeld => ?_)
                            refine takeH (i := 0) (n := 86) (v := .agg #[.int .i64 a.1, .int .i64 a.2]) rfl rfl (by kernel_rfl) (by kernel_rfl) (by kernel_rfl) (fun _ _ _ h => h) (Or.inl ⟨by kernel_rfl, ?_⟩) (by assumption) ?_
                            · intro w hSw; (try dsimp only at hSw); go_simp
                            try simp only [Act.put, List.setIfInBounds_toArray, List.set_cons_zero, List.set_cons_succ]
                            refine takeH (i := 1) (n := 87) (v := .agg #[.int .i64 b.1, .int .i64 b.2]) rfl rfl (by kernel_rfl) (by kernel_rfl) (by kernel_rfl) (fun _ _ _ h => h) (Or.inl ⟨by kernel_rfl, ?_⟩) (by assumption) ?_
                            · intro w hSw; (try dsimp only at hSw); go_simp
                            try simp only [Act.put, List.setIfInBounds_toArray, List.set_cons_zero, List.set_cons_succ]
                            refine takeH (i := 2) (n := 88) (v := .slice (some ⟨g, off, none⟩) n cap) rfl rfl (by kernel_rfl) (by kernel_rfl) (by kernel_rfl) (fun _ _ _ h => h) (Or.inl ⟨by kernel_rfl, ?_⟩) (by assumption) ?_
                            · intro w hSw; (try dsimp only at hSw); go_simp
                            try simp only [Act.put, List.setIfInBounds_toArray, List.set_cons_zero, List.set_cons_succ]
                            refine takeH (i := 3) (n := 89) (v := .int .i64 k) rfl rfl (by kernel_rfl) (by kernel_rfl) (by kernel_rfl) (fun _ _ _ h => h) (Or.inl ⟨by kernel_rfl, ?_⟩) (by assumption) ?_
                            · intro w hSw; (try dsimp only at hSw); go_simp
                            try simp only [Act.put, List.setIfInBounds_toArray, List.set_cons_zero, List.set_cons_succ]
                            refine takeH (i := 4) (n := 90) (v := .pointer (some ⟨g, off + k * 2, none⟩)) rfl rfl (by kernel_rfl) (by kernel_rfl) (by kernel_rfl) (fun _ _ _ h => h) (Or.inl ⟨by kernel_rfl, ?_⟩) (by assumption) ?_
                            · intro w hSw; (try dsimp only at hSw); go_simp
                            try simp only [Act.put, List.setIfInBounds_toArray, List.set_cons_zero, List.set_cons_succ]
                            refine takeH (i := 5) (n := 91) (v := .agg #[.int .i64 q.1, .int .i64 q.2]) rfl rfl (by kernel_rfl) (by kernel_rfl) (by kernel_rfl) (fun _ _ _ h => h) (Or.inl ⟨by kernel_rfl, ?_⟩) (by assumption) ?_
                            · intro w hSw; (try dsimp only at hSw); go_simp
                            try simp only [Act.put, List.setIfInBounds_toArray, List.set_cons_zero, List.set_cons_succ]
                            refine wpAnyH_ready (rs := [6]) (by kernel_rfl) (by simp) ?_
                            refine AllReadyH.cons rfl (fun K hK => ?_) AllReadyH.nil
                            try rw [if_pos (by kernel_rfl)]
                            try go_simp
                            go_at_call 35
                            refine (HTQ.out _).mono ?_
                            rintro e w5 ⟨rfl, hb⟩
                            have hB5 := below_chain (W := wr) hB4 hb
                            refine hK.out _ _ (HS.out _ hB5) (fun hHeld => ?_)
                            clear hK K hb
                            try simp only [Act.put, List.getElem_toArray, List.getElem_cons_succ, List.getElem_cons_zero, List.setIfInBounds_toArray, List.set_cons_zero, List.set_cons_succ]
                            refine takeH (i := 7) (n := 93) (v := .bool false) rfl rfl (by kernel_rfl) (by kernel_rfl) (by kernel_rfl) (fun _ _ _ h => h) (Or.inl ⟨by kernel_rfl, ?_⟩) (by assumption) ?_
                            · intro w hSw; (try dsimp only at hSw); go_simp
                            try simp only [Act.put, List.setIfInBounds_toArray, List.set_cons_zero, List.set_cons_succ]
                            refine wpAnyH_done (by kernel_rfl) ?_ _
                            have HZ := Lib.hid hB5
                            clear HS hB4 hB5
                            clear hneg
                            go_wp2
                            go_roundw
                            case rel => exact ⟨k + 1, by have := HKN.out; omega, by go_num, Lib.hid ⟨stay HJ.out.1 HZ.out, stay HJ.out.2.1 HZ.out, HJ.out.2.2.1.trans (HZ.out.mono HJ.out.2.2.1.size), HJ.out.2.2.2.1.below HZ.out, fun j hj => by
                              by_cases e : j = k
                              · subst e; rw [HTV.out]; have := HNG.out; omega
                              · have := HJ.out.2.2.2.2 j (by omega); omega⟩⟩
                            case measure => have := HKN.out; simp [intOf]; omega
                        · have HFI : Hid (okR l i = true) := Lib.hid (okR_yes (by rw [HTT.out]; have := HT0.out; omega) (fun j hj => by
                            rw [← HABC.out.1, ← HABC.out.2.1]; have := HJ.out.2.2.2.2 j (by rw [← HN.out] at hj; omega); omega))
                          go_wp2
                          go_roundw
                          case rel => exact ⟨i + 1, by have := HLT.out; omega, by rw [HS2.out], by go_num, Lib.hid ⟨HJ.out.2.2.1, HJ.out.2.2.2.1, fun j hj => by
                            by_cases e : j = i
                            · subst e; exact HFI.out
                            · exact HOK.out j (by omega)⟩⟩
                          case measure => have := HLT.out; simp [intOf]; omega
              · have HF : Hid (areaR l = decide (0 < s)) := Lib.hid (by rw [HX.out, convexR_end (fun j hj => HI.out.2.2 j (by rw [← HN.out] at hj; omega)), HSU.out, ← HN.out, show i = n by omega])
                by_cases hs0 : 0 < s
                · have HG : Hid (areaR l = true) := Lib.hid (by rw [HF.out, decide_eq_true hs0])
                  clear HF
                  go_wp2
                  go_ret
                  exact ⟨by rw [HG.out]; rfl, HI.out.1⟩
                · have HG : Hid (areaR l = false) := Lib.hid (by rw [HF.out, decide_eq_false hs0])
                  clear HF
                  go_wp2
                  go_ret
                  exact ⟨by rw [HG.out]; rfl, HI.out.1⟩
  · have HX : Hid (areaR l = false) := Lib.hid (areaR_len (by rw [← HN.out]; exact hr))
    have HFR : Hid (∀ W, Calls Tryz.prog 33 #[.int .i64 n, .int .i64 1, .int .i64 12] W fun e w' => e = .returned (.bool false) ∧ W = w') := Lib.hid fun W => by
      have := refIn_any n 1 12 W
      rwa [show inB n 1 12 = false from inB_false.2 (by omega)] at this
    clear hr
    go_enter Tryz.func11, Tryz.ntmps11
    go_wp2_with (go_at_call 33; ((with_reducible refine (HFR.out _).mono ?_); rintro e w' ⟨rfl, rfl⟩))
    go_ret
    exact ⟨by rw [HX.out]; rfl, Below.refl _ _⟩
end Go.Proofs.YtjcaaejfokmolaaGreatDoor
