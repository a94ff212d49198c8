/- Mend. -/
import Derived.Test.YtjcaaejfokmolaaGreatDoorRpMendKit
namespace Go.Proofs.YtjcaaejfokmolaaGreatDoor
open Go.RowKit Go.Shelf
attribute [local go_sem] Oper.semAt_some

set_option maxRecDepth 100000 in
set_option maxHeartbeats 8000000 in
theorem Mend_in (d c : Nat) (hd : d < 18446744073709551616) (hc : c < 256) (w : World) :
    CallsIn Fence.wide 3 Tryz.prog 28 #[.agg #[.int .u64 d, .int .u8 c]] w fun e w' => e = .returned (mendV (mendR d c)) ∧ Below w.heap.size w w' := by
  have hpt := fun W => pointer_any d c hd hc W
  have hod := fun W => isOdd_any d c hc W
  have HSG : Hid (∀ W, Calls Tryz.prog 71 #[.int .u64 d] W fun e w' => e = .returned (sigV d) ∧ Below W.heap.size W w') := Lib.hid fun W => signalOf_any d hd W
  obtain ⟨s, hs⟩ : ∃ s, s = synd d c := ⟨_, rfl⟩
  obtain ⟨od, ho⟩ : ∃ od, od = oddB d c := ⟨_, rfl⟩
  rw [← hs] at hpt
  rw [← ho] at hod
  have HPT := Lib.hid hpt; have HOD := Lib.hid hod
  have HS := Lib.hid hs; have HO := Lib.hid ho
  clear hpt hod hs ho
  obtain ⟨W, hW⟩ : ∃ W, W = (((w.alloc (.cells #[.int .u64 d, .int .u8 c] 54)).alloc (.cells #[.int .i64 0, .int .i64 0, .int .i64 0, .int .i64 0, .int .i64 0] 38)).alloc (.cells #[.bool false] 4)).alloc (.cells #[.int .i64 0] 32) := ⟨_, rfl⟩
  have HW := Lib.hid hW; clear hW
  refine callsIn_of_wp_marks Tryz.func28 rfl trivial ?_ rfl
  simp only [Tryz.ntmps28, List.size_toArray, List.length_cons, List.length_nil, Nat.reduceAdd, Nat.reduceSub, Array.replicate_succ, Array.replicate_zero, List.push_toArray, List.append_toArray, List.nil_append, List.cons_append]
  gi_wp2_with fail
  rw [← HW.out]
  refine ⟨trivial, ?_⟩
  refine (callsIn_wide.2 (HPT.out W)).mono ?_
  rintro e w1 ⟨rfl, hb1⟩
  have hb1' : Below (w.heap.size + 4) W w1 := by
    have : W.heap.size = w.heap.size + 4 := by rw [HW.out]; simp
    rw [← this]; exact hb1
  rw [HW.out] at hb1'
  obtain ⟨hz, hx1, hmb, hbw⟩ := mb_start (s := s) hb1'
  have x0 : w1.cell? ⟨w.heap.size, 0, none⟩ = some (.int .u64 d) := by simp [World.cell?, hx1]
  have x1 : w1.cell? ⟨w.heap.size, 1, none⟩ = some (.int .u8 c) := by simp [World.cell?, hx1]
  have hlt : w.heap.size < w1.heap.size := by omega
  have HZ := Lib.hid hz
  clear hx1 hb1 hb1' hz
  have HMB := Lib.hid hmb; have HBW := Lib.hid hbw; clear hmb hbw
  gi_wp2_with fail
  obtain ⟨W2, hW2⟩ : ∃ W2, W2 = w1.alloc (.cells #[.int .i64 s] 3) := ⟨_, rfl⟩
  rw [← hW2] at HMB HBW
  have hl2 : w.heap.size ≤ W2.heap.size := by rw [hW2]; simp; have := HZ.out; omega
  rw [← hW2]
  clear hW2 x0 x1 hlt
  refine ⟨trivial, ?_⟩
  refine (callsIn_wide.2 (HOD.out W2)).mono ?_
  rintro e w3 ⟨rfl, hb3⟩
  have hm3 := HMB.out.below hb3
  have hB3 := HBW.out.trans (hb3.mono hl2)
  have hl3 : w.heap.size ≤ w3.heap.size := Nat.le_trans hl2 hb3.size
  clear hb3 hl2 HMB HBW HW
  obtain ⟨c1, c2, q0, r0, r1, r2, r3, r4, m0, e0, f0, f1, f2, f3, f4, fm, fe⟩ := hm3.cells
  have HM := Lib.hid hm3; have HB := Lib.hid hB3; clear hm3 hB3
  cases od with
  | false =>
    by_cases hs0 : s = 0
    · subst hs0
      have HR : Hid (mendV (mendR d c) = .tuple #[sigV d, .bool false, .int .i64 0]) := Lib.hid (by unfold mendR; rw [← HO.out, ← HS.out]; rfl)
      clear HS HO HPT HOD
      obtain ⟨a0, a1, a2, a3, a4, ha⟩ : ∃ a0 a1 a2 a3 a4 : Int, sigV d = .agg #[.int .i64 a0, .int .i64 a1, .int .i64 a2, .int .i64 a3, .int .i64 a4] := ⟨_, _, _, _, _, rfl⟩
      rw [ha] at HR HSG
      clear ha
      gi_wp2_with fail
      refine ⟨trivial, ?_⟩
      refine (callsIn_wide.2 (HSG.out w3)).mono ?_
      rintro e w4 ⟨rfl, hb4⟩
      have hm4 := HM.out.below hb4
      have hB4 := HB.out.trans (hb4.mono hl3)
      clear HM HB hb4 hl3 c1 c2 q0 r0 r1 r2 r3 r4 m0 e0 f0 f1 f2 f3 f4 fm fe
      obtain ⟨c1, c2, q0, r0, r1, r2, r3, r4, m0, e0, f0, f1, f2, f3, f4, fm, fe⟩ := hm4.cells
      have HM := Lib.hid hm4; have HB := Lib.hid hB4; clear hm4 hB4
      gi_wp2
      exact ⟨_, results_mend (mended_res HM.out (.int .i64 a0) (.int .i64 a1) (.int .i64 a2) (.int .i64 a3) (.int .i64 a4) false 0) _ rfl rfl rfl, by rw [HR.out], mended_below HB.out⟩
    · have HR : Hid (mendV (mendR d c) = .tuple #[.agg #[.int .i64 0, .int .i64 0, .int .i64 0, .int .i64 0, .int .i64 0], .bool false, .int .i64 20]) := Lib.hid (by unfold mendR; rw [← HO.out, ← HS.out, if_neg (by decide), if_neg hs0]; rfl)
      clear HS HO HPT HOD
      have hne : ((s : Int) = 0) = False := by simp; exact hs0
      gi_wp2_with fail
      exact ⟨_, results_mend (mended_res HM.out (.int .i64 0) (.int .i64 0) (.int .i64 0) (.int .i64 0) (.int .i64 0) false 20) _ rfl rfl rfl, by rw [HR.out], mended_below HB.out⟩
  | true =>
    have hs128 : s < 128 := by rw [HS.out]; exact synd_lt d c
    have hck := fun W => isCheck_any s (by omega) W
    obtain ⟨ck, hckv⟩ : ∃ ck, ck = checkP s := ⟨_, rfl⟩
    rw [← hckv] at hck
    have HC := Lib.hid hck
    have HCK := Lib.hid hckv
    clear hck hckv
    by_cases hgo : (ck || s == 0) = true
    · have HR : Hid (mendV (mendR d c) = .tuple #[sigV d, .bool true, .int .i64 0]) := Lib.hid (by unfold mendR; rw [← HO.out, ← HS.out, if_pos rfl, ← HCK.out, if_pos hgo]; rfl)
      clear HS HO HPT HOD HCK
      obtain ⟨a0, a1, a2, a3, a4, ha⟩ : ∃ a0 a1 a2 a3 a4 : Int, sigV d = .agg #[.int .i64 a0, .int .i64 a1, .int .i64 a2, .int .i64 a3, .int .i64 a4] := ⟨_, _, _, _, _, rfl⟩
      rw [ha] at HR HSG
      clear ha
      cases ck with
      | true =>
        clear hgo
        gi_wp2_with (refine ⟨trivial, ?_⟩; gi_at_call 72; refine (callsIn_wide.2 (HC.out _)).mono ?_; rintro e w' ⟨rfl, rfl⟩)
        refine ⟨trivial, ?_⟩
        refine (callsIn_wide.2 (HSG.out w3)).mono ?_
        rintro e w4 ⟨rfl, hb4⟩
        have hm4 := HM.out.below hb4
        have hB4 := HB.out.trans (hb4.mono hl3)
        clear HM HB hb4 hl3 c1 c2 q0 r0 r1 r2 r3 r4 m0 e0 f0 f1 f2 f3 f4 fm fe
        obtain ⟨c1, c2, q0, r0, r1, r2, r3, r4, m0, e0, f0, f1, f2, f3, f4, fm, fe⟩ := hm4.cells
        have HM := Lib.hid hm4; have HB := Lib.hid hB4; clear hm4 hB4
        gi_wp2
        exact ⟨_, results_mend (mended_res HM.out (.int .i64 a0) (.int .i64 a1) (.int .i64 a2) (.int .i64 a3) (.int .i64 a4) true 0) _ rfl rfl rfl, by rw [HR.out], mended_below HB.out⟩
      | false =>
        have hs0 : s = 0 := by simpa using hgo
        subst hs0
        clear hgo hs128
        gi_wp2_with (refine ⟨trivial, ?_⟩; gi_at_call 72; refine (callsIn_wide.2 (HC.out _)).mono ?_; rintro e w' ⟨rfl, rfl⟩)
        refine ⟨trivial, ?_⟩
        refine (callsIn_wide.2 (HSG.out w3)).mono ?_
        rintro e w4 ⟨rfl, hb4⟩
        have hm4 := HM.out.below hb4
        have hB4 := HB.out.trans (hb4.mono hl3)
        clear HM HB hb4 hl3 c1 c2 q0 r0 r1 r2 r3 r4 m0 e0 f0 f1 f2 f3 f4 fm fe
        obtain ⟨c1, c2, q0, r0, r1, r2, r3, r4, m0, e0, f0, f1, f2, f3, f4, fm, fe⟩ := hm4.cells
        have HM := Lib.hid hm4; have HB := Lib.hid hB4; clear hm4 hB4
        gi_wp2
        exact ⟨_, results_mend (mended_res HM.out (.int .i64 a0) (.int .i64 a1) (.int .i64 a2) (.int .i64 a3) (.int .i64 a4) true 0) _ rfl rfl rfl, by rw [HR.out], mended_below HB.out⟩
    · have hcf : ck = false := by cases ck with | false => rfl | true => simp at hgo
      subst hcf
      have hs0 : ¬ s = 0 := by simpa using hgo
      have hne : ((s : Int) = 0) = False := by simp; exact hs0
      have HR : Hid (mendR d c = match findP s with | some b => some (d ^^^ 2 ^ b.val, true) | none => none) := Lib.hid (by unfold mendR; rw [← HO.out, ← HS.out, if_pos rfl, ← HCK.out, if_neg hgo]; rfl)
      clear HS HO HPT HOD HCK hgo
      gi_wp2_with (refine ⟨trivial, ?_⟩; first | (gi_at_call 72; refine (callsIn_wide.2 (HC.out _)).mono ?_; rintro e w' ⟨rfl, rfl⟩) | (gi_at_call 73; refine (callsIn_wide.2 (positions_any _)).mono ?_; rintro e w' ⟨rfl, rfl⟩))
      have hmix : Tryz.prog.follows .mixedOrders = true := by kernel_rfl
      have hNW : w.heap.size ≤ w3.heap.size := hl3
      refine wpIn_rangeFunc_ownF rfl (by omega) (gf := 103) (lb := #[]) rfl trivial (enters_of Tryz.func103 (by kernel_rfl) rfl)
        (positions_stops (3 - 1) (by omega) (Below w.heap.size) _) belowK_t (belowK_b hNW) (Below.refl _ _) (fun _ => rfl)
        (fun pre X => (MB X w.heap.size w1.heap.size d c s ∧ ∀ b ∈ pre, posOf b.val ≠ s) ∧ Below w.heap.size w X)
        (Found w w.heap.size d s)
        (OwnFrom.and (Own.from (fun _ A B row hs hg hr => ⟨hs.1.own hg hr, hs.2⟩) _) (ownFrom_below (Nat.le_refl _) hNW))
        (fun k => OwnFrom.and (Own.from (fun _ A B row hs hg hr => ?ownx) _) (ownFrom_below (Nat.le_refl _) hNW))
        ⟨⟨HM.out, by intro b hb; cases hb⟩, HB.out⟩
        (fun x => { tmps := #[.agg #[.int .u64 d, .int .u8 c], .pointer (some ⟨w.heap.size, 0, none⟩), .pointer (some ⟨w.heap.size + 1, 0, none⟩), .pointer (some ⟨w.heap.size + 1 + 1, 0, none⟩), .pointer (some ⟨w.heap.size + 1 + 1 + 1, 0, none⟩), .pointer (some ⟨w1.heap.size, 0, none⟩), .int .i64 (x.val : Int), .int .i64 (posOf x.val : Int), .agg #[.int .u64 d, .int .u8 c], .int .i64 s, .agg #[.int .u64 d, .int .u8 c], .bool true, .bool false, undef, undef, undef, undef, undef, undef, .int .i64 s, .bool false, .bool false, .int .i64 s, .bool false, .bool false, undef, undef, undef, .func (.func 103) #[] #[], .int .i64 (x.val : Int), .int .i64 (posOf x.val : Int), undef, undef, undef, undef, undef, undef, undef, undef, undef, undef], defers := [] }) ?assign ?body ?done ?stop
      case ownx =>
        obtain ⟨h1, pre, b, h2, h3, h4, v0, v1, v2, v3, v4, h5, h6⟩ := hs
        exact ⟨h1, pre, b, h2, h3, h4, v0, v1, v2, v3, v4, h5, h6.own hg hr⟩
      case assign =>
        intro l x W K hK
        simp only [encP]
        gi_wp2
        exact hK
      case stop =>
        rintro D k pre X hD ⟨m, hm, hpre⟩ ⟨⟨rfl, pre', b, rfl, h3, h4, v0, v1, v2, v3, v4, h5, h6⟩, hbx⟩ hK
        have hf := findP_some hm hpre h3 h4
        have HR2 : Hid (mendV (mendR d c) = .tuple #[.agg #[v0, v1, v2, v3, v4], .bool true, .int .i64 0]) := Lib.hid (by rw [HR.out, hf, ← h5]; rfl)
        clear HR hf h3 h4 h5 hpre hm
        have H6 := Lib.hid h6; have HBX := Lib.hid hbx; have HD := Lib.hid (Nat.le_trans hNW hD)
        clear h6 hbx hD
        gi_wp2
        refine ⟨by simp, .inl ⟨_, _, rfl, run_takeDeferred hK, ?_⟩⟩
        refine ⟨_, results_mend (H6.out.kept_def hK) _ rfl rfl rfl, by rw [HR2.out], HBX.out.trans (belowK_b (w := w) (Nat.le_refl _) X D _ _ HD.out hK rfl rfl)⟩
      case done =>
        rintro D ys X hD rfl ⟨⟨hmx, hno⟩, hbx⟩ hK
        have hf := findP_none hno
        have HR2 : Hid (mendV (mendR d c) = .tuple #[.agg #[.int .i64 0, .int .i64 0, .int .i64 0, .int .i64 0, .int .i64 0], .bool false, .int .i64 20]) := Lib.hid (by rw [HR.out, hf]; rfl)
        clear HR hf hno
        clear HM HB hl3 c1 c2 q0 r0 r1 r2 r3 r4 m0 e0 f0 f1 f2 f3 f4 fm fe
        obtain ⟨c1, c2, q0, r0, r1, r2, r3, r4, m0, e0, f0, f1, f2, f3, f4, fm, fe⟩ := hmx.cells
        have HM := Lib.hid hmx; have HB := Lib.hid hbx; have HD := Lib.hid (Nat.le_trans hNW hD); clear hmx hbx hD
        gi_wp2
        have H6 := mended_res HM.out (.int .i64 0) (.int .i64 0) (.int .i64 0) (.int .i64 0) (.int .i64 0) false 20
        have hK2 := (mended_others X w.heap.size (.int .i64 0) (.int .i64 0) (.int .i64 0) (.int .i64 0) (.int .i64 0) false 20).same D _ hK rfl
        refine ⟨by simp, .inl ⟨_, _, rfl, run_takeDeferred hK2, ?_⟩⟩
        refine ⟨_, results_mend (H6.kept_def hK2) _ rfl rfl rfl, by rw [HR2.out], (mended_below HB.out).trans (belowK_b (w := w) (Nat.le_refl _) _ D _ _ HD.out hK2 rfl rfl)⟩
      case body =>
        rintro l pre x X ⟨⟨hmx, hno⟩, hbx⟩ hlen
        have hl4 : w.heap.size ≤ X.heap.size := by
          have := hmx.far
          have := (Array.getElem?_eq_some_iff.1 hmx.q).1
          omega
        clear HM HB hl3 c1 c2 q0 r0 r1 r2 r3 r4 m0 e0 f0 f1 f2 f3 f4 fm fe
        obtain ⟨c1, c2, q0, r0, r1, r2, r3, r4, m0, e0, f0, f1, f2, f3, f4, fm, fe⟩ := hmx.cells
        have HM := Lib.hid hmx; have HB := Lib.hid hbx; have HN := Lib.hid hno; clear hmx hbx hno
        have hx := x.2
        by_cases hp : posOf x.val = s
        · have HP := Lib.hid hp
          rw [hp]
          clear hp
          have hx64 : (2 : Nat) ^ x.val < 18446744073709551616 := Nat.pow_lt_pow_right (a := 2) (m := x.val) (n := 64) (by omega) hx
          have hdx : d ^^^ 2 ^ x.val < 18446744073709551616 := Nat.xor_lt_two_pow (n := 64) hd hx64
          have hwr : IntKind.u64.wrap (2 ^ x.val) = ((2 ^ x.val : Nat) : Int) := by
            rw [show ((2 : Int) ^ x.val) = ((2 ^ x.val : Nat) : Int) by norm_cast]
            generalize 2 ^ x.val = y at hx64
            rw [IntKind.wrap_u64]; omega
          obtain ⟨a0, a1, a2, a3, a4, ha⟩ : ∃ a0 a1 a2 a3 a4 : Int, sigV (d ^^^ 2 ^ x.val) = .agg #[.int .i64 a0, .int .i64 a1, .int .i64 a2, .int .i64 a3, .int .i64 a4] := ⟨_, _, _, _, _, rfl⟩
          have HSX : Hid (∀ W, Calls Tryz.prog 71 #[.int .u64 (bits .xor .u64 (d : Int) (IntKind.u64.wrap (2 ^ x.val)))] W fun e w' => e = .returned (.agg #[.int .i64 a0, .int .i64 a1, .int .i64 a2, .int .i64 a3, .int .i64 a4]) ∧ Below W.heap.size W w') := Lib.hid fun W => by
            rw [hwr, xor_u64 _ _ hd hx64, ← ha]; exact signalOf_any _ hdx W
          have HA := Lib.hid ha
          clear ha hwr hdx hx64
          have HMD := Lib.hid (HM.out.keep (Y := X.drew) (fun b o _ _ => by rw [drew_heap]))
          gi_wp2_with fail
          gi_region_with_o (refine ⟨trivial, ?_⟩; gi_at_call 71; refine (CallsIn.inRound l (callsIn_wide.2 (HSX.out _))).mono ?_; rintro e w4 ⟨rfl, hb4⟩; have hm4 := HMD.out.below hb4; obtain ⟨k1, k2, l0, l1, l2, l3, l4, l5, n0, n1, g0, g1, g2, g3, g4, gm, ge⟩ := hm4.cells; have HM4 := Lib.hid hm4; have HB4 := Lib.hid hb4; clear hb4 hm4)
          all_goals
            gi_wp2
            exact ⟨((KeepsOthers.drew X).trans (below_others HB4.out)).trans (mended_others w4 w.heap.size (.int .i64 a0) (.int .i64 a1) (.int .i64 a2) (.int .i64 a3) (.int .i64 a4) true 0),
              ⟨rfl, pre, x, rfl, HN.out, HP.out, _, _, _, _, _, HA.out, mended_res HM4.out (.int .i64 a0) (.int .i64 a1) (.int .i64 a2) (.int .i64 a3) (.int .i64 a4) true 0⟩,
              mended_below ((HB.out.trans (⟨rfl, rfl, rfl, Nat.le_refl _, fun _ _ => rfl⟩ : Below w.heap.size X X.drew)).trans (HB4.out.mono hl4))⟩
        · obtain ⟨p, hpp⟩ : ∃ p, p = posOf x.val := ⟨_, rfl⟩
          rw [← hpp] at hp ⊢
          have hpe : ((p : Int) == (s : Int)) = false := by simp; omega
          have HP := Lib.hid hp; have HPP := Lib.hid hpp
          clear hp hpp
          gi_wp2
          refine ⟨KeepsOthers.refl _, Below.refl _ _, ⟨HM.out, ?_⟩, HB.out⟩
          intro b hb
          rcases List.mem_append.1 hb with hb | hb
          · exact HN.out b hb
          · cases List.mem_singleton.1 hb; rw [← HPP.out]; exact HP.out
theorem Mend_any (d c : Nat) (hd : d < 18446744073709551616) (hc : c < 256) (w : World) :
    Calls Tryz.prog 28 #[.agg #[.int .u64 d, .int .u8 c]] w fun e w' => e = .returned (mendV (mendR d c)) ∧ Below w.heap.size w w' :=
  callsIn_wide.1 (Mend_in d c hd hc w)
end Go.Proofs.YtjcaaejfokmolaaGreatDoor
