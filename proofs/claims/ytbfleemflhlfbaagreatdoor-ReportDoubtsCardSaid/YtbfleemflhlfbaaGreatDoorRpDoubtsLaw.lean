/- The law of doubts: its walk. -/
import Derived.Test.YtbfleemflhlfbaaGreatDoorRpDbFlat
import Derived.Test.YtbfleemflhlfbaaGreatDoorRpTake
import Derived.Deep.DeepCutAuto
import Derived.BigQuiet
namespace Go.Proofs.YtbfleemflhlfbaaGreatDoor
open Go.RowKit

set_option maxRecDepth 100000 in
set_option maxHeartbeats 2000000 in
theorem doubts_many (A : Option Addr) (n cap : Nat) (t : Int) (h20 : 20 < n) (hn : n ≤ 9223372036854775807) (m : Int) (w : World) (hE : Env m w) :
    Calls Tryz.prog 5 #[.slice A n cap, .int .u8 t] w fun e w' => e = .returned (.bool true) ∧ Below w.heap.size w w' := by
  have HE := Lib.hid hE
  clear hE
  go_enter Tryz.func5, Tryz.ntmps5
  go_wp2_with fail
  refine (awake_any m w HE.out).mono ?_
  rintro e w1 ⟨rfl, hb1⟩
  have HZ := Lib.hid hb1
  clear hb1 HE
  go_wp2
  go_ret
  exact ⟨rfl, HZ.out⟩

set_option maxRecDepth 100000 in
set_option maxHeartbeats 2000000 in
theorem doubts_nil (A : Option Addr) (cap : Nat) (t : Int) (m : Int) (w : World) (hE : Env m w) :
    Calls Tryz.prog 5 #[.slice A 0 cap, .int .u8 t] w fun e w' => e = .returned (.bool true) ∧ Below w.heap.size w w' := by
  have HE := Lib.hid hE
  clear hE
  have D1 : Hid (∀ W, Calls Tryz.prog 16 #[.slice A 0 cap] W fun e w' => e = .returned (.tuple #[.int .i64 0, .int .i64 0, .int .i64 7]) ∧ W = w') := Lib.hid fun W => Doubt_none A cap W
  have D2 : Hid (∀ W, Calls Tryz.prog 17 #[.slice A 0 cap] W fun e w' => e = .returned (.tuple #[.int .i64 0, .int .i64 0, .int .i64 7]) ∧ W = w') := Lib.hid fun W => refDoubt_none A cap W
  go_enter Tryz.func5, Tryz.ntmps5
  go_wp2_with fail
  go_loopw [5] (fun iv wr => iv = .int .i64 0 ∧ wr = w) (fun iv _ => 0)
  case atStart => exact ⟨rfl, rfl⟩
  case round =>
    obtain ⟨rfl, rfl⟩ := hrel
    go_wp2_with fail
    refine (D1.out _).mono ?_
    rintro e w1 ⟨rfl, rfl⟩
    go_wp2_with fail
    refine (D2.out _).mono ?_
    rintro e w1 ⟨rfl, rfl⟩
    go_wp2_with fail
    refine (awake_any m _ HE.out).mono ?_
    rintro e w1 ⟨rfl, hb1⟩
    have HZ := Lib.hid hb1
    clear hb1 HE
    go_wp2
    go_ret
    exact ⟨rfl, HZ.out⟩

/-- no more than a statement looks at. -/
def Small (r : Rpt) : Prop := ∀ A n c, r.2.1 = .slice A n c → greatB r.1 n = false

set_option maxRecDepth 100000 in
set_option maxHeartbeats 4000000 in
theorem doubts_some (l : List Rpt) (b off cap : Nat) (t : Int) (hl : l ≠ []) (hlen : l.length ≤ 20) (hcap : l.length ≤ cap) (hmx : cap ≤ 9223372036854775807) (ht0 : 0 ≤ t) (ht1 : t ≤ 255) (m : Int) (w : World) (hE : Env m w) (hb : b < w.heap.size)
    (hat : RepsAt w b off l) (hshape : ∀ r ∈ l, ∃ A n c, r.2.1 = .slice A n c) (hok : (∀ r ∈ l, Small r) → (∀ r ∈ l, Says w r) ∧ ∀ r ∈ l, RefCan w r) :
    Calls Tryz.prog 5 #[.slice (some ⟨b, off, none⟩) l.length cap, .int .u8 t] w fun e w' => e = .returned (.bool true) ∧ Below w.heap.size w w' := by
  obtain ⟨len, hln⟩ : ∃ len, len = l.length := ⟨_, rfl⟩
  have hl0 : len ≠ 0 := by rw [hln]; intro e; exact hl (List.length_eq_zero_iff.1 e)
  obtain ⟨C, D, E, hform⟩ := doubt_form l
  rw [← hln] at hlen hcap ⊢
  have HLN := Lib.hid hln; have HAT := Lib.hid hat; have HSH := Lib.hid hshape; have HOK := Lib.hid hok; have HBLT := Lib.hid hb; have HNE := Lib.hid hl; have HE := Lib.hid hE; have HF := Lib.hid hform
  clear hln hat hshape hok hl hb hE hform
  have hz0 : ((len : Int) == 0) = false := by simp; omega
  go_enter Tryz.func5, Tryz.ntmps5
  go_wp2_with fail
  go_loopw [5] (fun iv wr => ∃ k : Nat, k ≤ len ∧ iv = .int .i64 k ∧ Hid (Below w.heap.size w wr) ∧ Hid (∀ j, j < k → ∀ r, l[j]? = some r → Small r)) (fun iv _ => len - (intOf iv).toNat)
  case atStart => exact ⟨0, Nat.zero_le _, rfl, Lib.hid (Below.refl _ _), Lib.hid fun j hj => absurd hj (Nat.not_lt_zero _)⟩
  case round =>
    obtain ⟨k, hk, rfl, HI, HSM⟩ := hrel
    by_cases hlt : k < len
    · obtain ⟨⟨s, wv, q⟩, hgk⟩ : ∃ r : Rpt, l[k]? = some r := by
        have : k < l.length := by rw [← HLN.out]; exact hlt
        exact ⟨_, List.getElem?_eq_getElem this⟩
      obtain ⟨A, n, cp, hwv⟩ := HSH.out _ (List.mem_of_getElem? hgk)
      have HGK := Lib.hid hgk
      simp only at hwv
      subst hwv
      obtain ⟨c0, c1, c2, c3, c4, c5, c6⟩ := (HAT.out k s _ q hgk).keep HI.out HBLT.out
      have HC : Hid (Calls Tryz.prog 15 #[repA s.kind s.time s.src s.abt (.slice A n cp) s.souls s.trust] wr fun e w' => e = .returned (.bool (greatB s n)) ∧ Below wr.heap.size wr w') := Lib.hid (refGreat_any s A n cp wr)
      have HLT := Lib.hid hlt
      clear hgk
      go_wp2_with fail
      refine HC.out.mono ?_
      rintro e w3 ⟨rfl, hb3⟩
      have HB3 := Lib.hid (HI.out.trans (hb3.mono HI.out.size))
      clear hb3 HC c0 c1 c2 c3 c4 c5 c6
      cases hgr : greatB s n with
      | true =>
        clear hgr
        go_wp2_with fail
        refine (awake_any m _ (HE.out.below HB3.out)).mono ?_
        rintro e w4 ⟨rfl, hb4⟩
        have HZ := Lib.hid (HB3.out.trans (hb4.mono HB3.out.size))
        clear hb4
        go_wp2
        go_ret
        exact ⟨rfl, HZ.out⟩
      | false =>
        have HSM2 : Hid (∀ j, j < k + 1 → ∀ r, l[j]? = some r → Small r) := Lib.hid (by
          intro j hj r hr
          by_cases hjk : j < k
          · exact HSM.out j hjk r hr
          · have hjk : j = k := by omega
            subst hjk
            have := HGK.out
            rw [hr] at this
            cases this
            intro A' n' c' he
            simp only [Value.slice.injEq] at he
            obtain ⟨-, rfl, -⟩ := he
            exact hgr)
        clear hgr
        go_wp2
        go_roundw
        case rel => exact ⟨k + 1, by have := HLT.out; omega, by go_num, HB3, HSM2⟩
        case measure => have := HLT.out; simp [intOf]; omega
    · have HALL : Hid (∀ r ∈ l, Small r) := Lib.hid fun r hr => by
        obtain ⟨j, hj⟩ := List.mem_iff_getElem?.1 hr
        have hjl := (List.getElem?_eq_some_iff.1 hj).1
        exact HSM.out j (by have := HLN.out; omega) r hj
      have HSAY := Lib.hid (HOK.out HALL.out).1
      have HCAN := Lib.hid (HOK.out HALL.out).2
      clear HALL HOK HSM
      have D1 : Hid (∀ W, Below w.heap.size w W → Calls Tryz.prog 16 #[.slice (some ⟨b, off, none⟩) len cap] W fun e w' => e = .returned (.tuple #[.int .i64 C, .int .i64 D, .int .i64 E]) ∧ Below W.heap.size W w') := Lib.hid fun W hW => by
        have := Doubt_some l b off cap HNE.out (by have := HLN.out; omega) W (Nat.lt_of_lt_of_le HBLT.out hW.size) (fun k s wv q h => (HAT.out k s wv q h).keep hW HBLT.out) (fun r hr => (HSAY.out r hr).keep hW)
        rw [HF.out, ← HLN.out] at this; exact this
      have D2 : Hid (∀ W, Below w.heap.size w W → Calls Tryz.prog 17 #[.slice (some ⟨b, off, none⟩) len cap] W fun e w' => e = .returned (.tuple #[.int .i64 C, .int .i64 D, .int .i64 E]) ∧ Below W.heap.size W w') := Lib.hid fun W hW => by
        have := refDoubt_some l b off cap HNE.out (by have := HLN.out; omega) (by have := HLN.out; omega) W (Nat.lt_of_lt_of_le HBLT.out hW.size) (fun k s wv q h => (HAT.out k s wv q h).keep hW HBLT.out) (fun r hr => ⟨(HCAN.out r hr).1, fun X hX => (HCAN.out r hr).2.1 X (hW.trans (hX.mono hW.size)), (HCAN.out r hr).2.2⟩)
        rw [← doubt_same, HF.out, ← HLN.out] at this; exact this
      go_wp2_with fail
      refine (D1.out _ HI.out).mono ?_
      rintro e w1 ⟨rfl, hb1⟩
      have HB1 := Lib.hid (HI.out.trans (hb1.mono HI.out.size))
      clear hb1
      go_wp2_with fail
      refine (D2.out _ HB1.out).mono ?_
      rintro e w2 ⟨rfl, hb2⟩
      have HB2 := Lib.hid (HB1.out.trans (hb2.mono HB1.out.size))
      clear hb2 D1 D2 HI HB1 hlt hk
      go_upto_region 15 with fail
      obtain ⟨n, hn, hnl⟩ : ∃ n : Nat, t % (len : Int) = n ∧ n < len := ⟨(t % (len : Int)).toNat, by have := Int.emod_nonneg t (b := (len : Int)) (by omega); omega, by have := Int.emod_lt_of_pos t (b := (len : Int)) (by omega); omega⟩
      rw [hn]
      clear hn
      have hnle : n ≤ len := Nat.le_of_lt hnl
      have hcn : ¬ cap = n := by omega
      have hcn2 : n ≤ cap := by omega
      refine wp_region_held_drew (S := fun _ => True) (by kernel_rfl) trivial (fun _ => ?_)
      refine takeH (i := 1) (n := 68) (v := (.slice (some ⟨b, off, none⟩) len cap)) rfl rfl (by kernel_rfl) (by kernel_rfl) (by kernel_rfl) (fun _ _ _ h => h) (Or.inl ⟨by kernel_rfl, ?_⟩) trivial ?_
      · intro w hSw; go_simp
      try simp only [Act.put, List.setIfInBounds_toArray, List.set_cons_zero, List.set_cons_succ]
      refine takeH (i := 2) (n := 69) (v := (.int .i64 n)) rfl rfl (by kernel_rfl) (by kernel_rfl) (by kernel_rfl) (fun _ _ _ h => h) (Or.inl ⟨by kernel_rfl, ?_⟩) trivial ?_
      · intro w hSw; go_simp
      try simp only [Act.put, List.setIfInBounds_toArray, List.set_cons_zero, List.set_cons_succ]
      refine takeH (i := 3) (n := 70) (v := (.slice (some ⟨b, off + n * 7, none⟩) (len - n) (cap - n))) rfl rfl (by kernel_rfl) (by kernel_rfl) (by kernel_rfl) (fun _ _ _ h => h) (Or.inl ⟨by kernel_rfl, ?_⟩) trivial ?_
      · intro w hSw; go_simp
      try simp only [Act.put, List.setIfInBounds_toArray, List.set_cons_zero, List.set_cons_succ]
      refine takeH (i := 5) (n := 72) (v := (.slice (some ⟨b, off, none⟩) len cap)) rfl rfl (by kernel_rfl) (by kernel_rfl) (by kernel_rfl) (fun _ _ _ h => h) (Or.inl ⟨by kernel_rfl, ?_⟩) trivial ?_
      · intro w hSw; go_simp
      try simp only [Act.put, List.setIfInBounds_toArray, List.set_cons_zero, List.set_cons_succ]
      refine takeH (i := 6) (n := 73) (v := (.int .i64 n)) rfl rfl (by kernel_rfl) (by kernel_rfl) (by kernel_rfl) (fun _ _ _ h => h) (Or.inl ⟨by kernel_rfl, ?_⟩) trivial ?_
      · intro w hSw; go_simp
      try simp only [Act.put, List.setIfInBounds_toArray, List.set_cons_zero, List.set_cons_succ]
      refine takeH (i := 7) (n := 74) (v := (.slice (some ⟨b, off, none⟩) n cap)) rfl rfl (by kernel_rfl) (by kernel_rfl) (by kernel_rfl) (fun _ _ _ h => h) (Or.inl ⟨by kernel_rfl, ?_⟩) trivial ?_
      · intro w hSw; go_simp
      try simp only [Act.put, List.setIfInBounds_toArray, List.set_cons_zero, List.set_cons_succ]
      refine wpAnyH_ready (rs := [0]) (by kernel_rfl) (by simp) ?_
      refine AllReadyH.cons rfl (fun K hK => ?_) AllReadyH.nil
      try rw [if_pos (by kernel_rfl)]
      try go_simp
      refine hK.out _ _ trivial (fun _ => ?_)
      clear hK K
      try simp only [Act.put, List.getElem_toArray, List.getElem_cons_succ, List.getElem_cons_zero, List.setIfInBounds_toArray, List.set_cons_zero, List.set_cons_succ]
      refine wpAnyH_ready (rs := [4]) (by kernel_rfl) (by simp) ?_
      refine AllReadyH.cons rfl (fun K hK => ?_) AllReadyH.nil
      try rw [if_pos (by kernel_rfl)]
      obtain ⟨W3, hW3⟩ : ∃ W, W = (w2.alloc (Obj.cells #[] 33)).drew := ⟨_, rfl⟩
      have hown3 : W3.ownsRow w2.heap.size 33 7 (.slice (some ⟨w2.heap.size, 0, none⟩) 0 0) 0 [] := by rw [hW3]; exact World.ownsRow_made w2 #[] 0 (Nat.le_refl _) (by decide) rfl
      have hsz3 : w2.heap.size ≤ W3.heap.size := by rw [hW3]; exact (new_below w2 (Obj.cells #[] 33)).drew.size
      have hb3 : Below w2.heap.size w2 W3 := by rw [hW3]; exact (new_below w2 (Obj.cells #[] 33)).drew
      rw [← hW3]
      clear hW3
      have hB3 : Below w.heap.size w W3 := HB2.out.trans (hb3.mono HB2.out.size)
      obtain ⟨i, hi, hz0', hz1', hz2'⟩ := info_parts infoR
      have hlen2 : l.length = len := HLN.out.symm
      have hdl : (l.drop n).length = len - n := by rw [List.length_drop, hlen2]
      have htl : (l.take n).length = n := by rw [List.length_take, hlen2]; omega
      have hone : ∀ u ∈ flat l, u.oneCell' = true := flat_one HSAY.out
      have hone1 : ∀ u ∈ flat (l.drop n), u.oneCell' = true := flat_one fun r hr => HSAY.out r (List.mem_of_mem_drop hr)
      have hone2 : ∀ u ∈ flat (l.take n), u.oneCell' = true := flat_one fun r hr => HSAY.out r (List.mem_of_mem_take hr)
      have hml : len ≤ maxLen := by unfold maxLen; omega
      refine wp_append_own W3 (.tmp 67) (.tmp 70) 40 rfl w2.heap.size 33 i _ 7 88 sliceR hi hz0' hz1' hz2' rfl (by decide) (.slice (some ⟨w2.heap.size, 0, none⟩) 0 0) 0 [] rfl hown3 ⟨b, off + n * 7, none⟩ (len - n) (cap - n) (flat (l.drop n)) rfl (by rw [flat_len, hdl]) (((HAT.out.drop n).keep hB3 HBLT.out).cells) hone1 (by omega) (by omega) hsz3 ?_
      rintro v4 W4 hown4 hg4 -
      have hb4 : Below w2.heap.size w2 W4 := hb3.grown hg4 hsz3 (fun j hj => by cases hj; exact Nat.le_refl _)
      have hB4 : Below w.heap.size w W4 := HB2.out.trans (hb4.mono HB2.out.size)
      refine hK.out _ _ trivial (fun _ => ?_)
      clear hK K
      try simp only [Act.put, List.getElem_toArray, List.getElem_cons_succ, List.getElem_cons_zero, List.setIfInBounds_toArray, List.set_cons_zero, List.set_cons_succ]
      refine wpAnyH_ready (rs := [8]) (by kernel_rfl) (by simp) ?_
      refine AllReadyH.cons rfl (fun K hK => ?_) AllReadyH.nil
      try rw [if_pos (by kernel_rfl)]
      refine wp_append_own W4 (.tmp 71) (.tmp 74) 40 rfl w2.heap.size 33 i _ 7 88 sliceR hi hz0' hz1' hz2' rfl (by decide) v4 (0 + (len - n)) ([] ++ flat (l.drop n)) rfl hown4 ⟨b, off, none⟩ n cap (flat (l.take n)) rfl (by rw [flat_len, htl]) (((HAT.out.take n).keep hB4 HBLT.out).cells) hone2 (by omega) (by omega) hb4.size ?_
      rintro v5 W5 hown5 hg5 -
      have hb5 : Below w2.heap.size w2 W5 := hb4.grown hg5 hb4.size (fun j hj => (hown4.lt j hj).1)
      have hB5 : Below w.heap.size w W5 := HB2.out.trans (hb5.mono HB2.out.size)
      have hl5 : (l.drop n ++ l.take n).length = len := by rw [List.length_append, hdl, htl]; omega
      have hx5 : ([] ++ flat (l.drop n)) ++ flat (l.take n) = flat (l.drop n ++ l.take n) := by rw [List.nil_append, flat_app]
      rw [hx5, show 0 + (len - n) + n = len by omega] at hown5
      obtain ⟨g, cap5, cur5, hv5, hbg, hg5h, hcap5, -⟩ : ∃ g cap5 cur, v5 = .slice (some ⟨g, 0, none⟩) len cap5 ∧ w2.heap.size ≤ g ∧ W5.heap[g]? = some (.cells cur 33 (0, 0)) ∧ len ≤ cap5 ∧ True := by
        rcases hown5.2 with ⟨-, h⟩ | ⟨g, c, cur, h1, h2, h3, h4, -⟩
        · exact absurd h hl0
        · exact ⟨g, c, cur, h1, h2, h3, h4, trivial⟩
      have hat5 : RepsAt W5 g 0 (l.drop n ++ l.take n) := RepsAt.of (hown5.cells (g := g) (by rw [hv5]; rfl))
      have hglt : g < W5.heap.size := (Array.getElem?_eq_some_iff.1 hg5h).1
      subst hv5
      have HD3 : Hid (Calls Tryz.prog 16 #[.slice (some ⟨g, 0, none⟩) len cap5] W5 fun e w' => e = .returned (.tuple #[.int .i64 C, .int .i64 D, .int .i64 E]) ∧ Below W5.heap.size W5 w') := Lib.hid (by
        have hne5 : l.drop n ++ l.take n ≠ [] := by intro h; rw [h] at hl5; simp at hl5; omega
        have := Doubt_some (l.drop n ++ l.take n) g 0 cap5 hne5 (by omega) W5 hglt hat5 (fun r hr => (HSAY.out r ((turned l n r).2 hr)).keep hB5)
        rw [← doubt_mem (turned l n), HF.out, hl5] at this; exact this)
      have HB5 := Lib.hid hB5
      clear hown3 hown4 hown5 hg4 hg5 hb3 hb4 hb5 hB3 hB4 hB5 hat5 hx5 hl5 hone hone1 hone2 hsz3 hg5h hi hz0' hz1' hz2' hbg hglt
      refine hK.out _ _ trivial (fun _ => ?_)
      clear hK K
      try simp only [Act.put, List.getElem_toArray, List.getElem_cons_succ, List.getElem_cons_zero, List.setIfInBounds_toArray, List.set_cons_zero, List.set_cons_succ]
      refine wpAnyH_ready (rs := [9]) (by kernel_rfl) (by simp) ?_
      refine AllReadyH.cons rfl (fun K hK => ?_) AllReadyH.nil
      try rw [if_pos (by kernel_rfl)]
      try go_simp
      go_at_call 16
      refine (HD3.out).mono ?_
      rintro e w6 ⟨rfl, hb6⟩
      have HB6 := Lib.hid (HB5.out.trans (hb6.mono HB5.out.size))
      refine hK.out _ _ trivial (fun _ => ?_)
      clear hK K hb6 HD3
      try simp only [Act.put, List.getElem_toArray, List.getElem_cons_succ, List.getElem_cons_zero, List.setIfInBounds_toArray, List.set_cons_zero, List.set_cons_succ]
      refine takeH (i := 10) (n := 66) (v := (.tuple #[.int .i64 C, .int .i64 D, .int .i64 E])) rfl rfl (by kernel_rfl) (by kernel_rfl) (by kernel_rfl) (fun _ _ _ h => h) (Or.inl ⟨by kernel_rfl, ?_⟩) trivial ?_
      · intro w hSw; go_simp
      try simp only [Act.put, List.setIfInBounds_toArray, List.set_cons_zero, List.set_cons_succ]
      refine takeH (i := 11) (n := 77) (v := (.int .i64 C)) rfl rfl (by kernel_rfl) (by kernel_rfl) (by kernel_rfl) (fun _ _ _ h => h) (Or.inl ⟨by kernel_rfl, ?_⟩) trivial ?_
      · intro w hSw; go_simp
      try simp only [Act.put, List.setIfInBounds_toArray, List.set_cons_zero, List.set_cons_succ]
      refine takeH (i := 12) (n := 78) (v := (.int .i64 D)) rfl rfl (by kernel_rfl) (by kernel_rfl) (by kernel_rfl) (fun _ _ _ h => h) (Or.inl ⟨by kernel_rfl, ?_⟩) trivial ?_
      · intro w hSw; go_simp
      try simp only [Act.put, List.setIfInBounds_toArray, List.set_cons_zero, List.set_cons_succ]
      refine takeH (i := 13) (n := 79) (v := (.int .i64 E)) rfl rfl (by kernel_rfl) (by kernel_rfl) (by kernel_rfl) (fun _ _ _ h => h) (Or.inl ⟨by kernel_rfl, ?_⟩) trivial ?_
      · intro w hSw; go_simp
      try simp only [Act.put, List.setIfInBounds_toArray, List.set_cons_zero, List.set_cons_succ]
      refine takeH (i := 14) (n := 6) (v := (.int .i64 C)) rfl rfl (by kernel_rfl) (by kernel_rfl) (by kernel_rfl) (fun _ _ _ h => h) (Or.inl ⟨by kernel_rfl, ?_⟩) trivial ?_
      · intro w hSw; go_simp
      try simp only [Act.put, List.setIfInBounds_toArray, List.set_cons_zero, List.set_cons_succ]
      refine takeH (i := 15) (n := 7) (v := (.int .i64 D)) rfl rfl (by kernel_rfl) (by kernel_rfl) (by kernel_rfl) (fun _ _ _ h => h) (Or.inl ⟨by kernel_rfl, ?_⟩) trivial ?_
      · intro w hSw; go_simp
      try simp only [Act.put, List.setIfInBounds_toArray, List.set_cons_zero, List.set_cons_succ]
      refine takeH (i := 16) (n := 8) (v := (.int .i64 E)) rfl rfl (by kernel_rfl) (by kernel_rfl) (by kernel_rfl) (fun _ _ _ h => h) (Or.inl ⟨by kernel_rfl, ?_⟩) trivial ?_
      · intro w hSw; go_simp
      try simp only [Act.put, List.setIfInBounds_toArray, List.set_cons_zero, List.set_cons_succ]
      refine wpAnyH_done (by kernel_rfl) ?_ _
      clear hdl htl hml hcn hcn2 hnl hnle
      by_cases hE0 : E = 0
      · subst hE0
        by_cases h1 : len = 1
        · subst h1
          go_wp2_with fail
          refine (awake_any m _ (HE.out.below HB6.out)).mono ?_
          rintro e w7 ⟨rfl, hb7⟩
          have HZ := Lib.hid (HB6.out.trans (hb7.mono HB6.out.size))
          clear hb7
          go_wp2
          go_ret
          exact ⟨rfl, HZ.out⟩
        · have h1' : ((len : Int) == 1) = false := by simp; omega
          have hc1 : ¬ cap = 1 := by omega
          have hl1 : 1 ≤ len := by omega
          have hc2 : 1 ≤ cap := by omega
          obtain ⟨r, t', hlt⟩ : ∃ r t', l = r :: t' := by
            cases hc : l with
            | nil => exact absurd hc HNE.out
            | cons r t' => exact ⟨r, t', rfl⟩
          have htl : t'.length = len - 1 := by have := HLN.out; rw [hlt, List.length_cons] at this; omega
          have htn : t' ≠ [] := by intro h; rw [h] at htl; simp at htl; omega
          obtain ⟨x, y, hxy, hC0, hD0, hx0, hy0, hor⟩ := doubt_more (r := r) (t := t') htn (by rw [← hlt]; exact HF.out)
          have HD4 : Hid (Calls Tryz.prog 16 #[.slice (some ⟨b, off + 7, none⟩) (len - 1) (cap - 1)] w6 fun e w' => e = .returned (.tuple #[.int .i64 x, .int .i64 y, .int .i64 0]) ∧ Below w6.heap.size w6 w') := Lib.hid (by
            have hd := (HAT.out.drop 1).keep HB6.out HBLT.out
            rw [hlt, List.drop_succ_cons, List.drop_zero] at hd
            have := Doubt_some t' b (off + 7) (cap - 1) htn (by omega) w6 (Nat.lt_of_lt_of_le HBLT.out HB6.out.size) hd (fun q hq => (HSAY.out q (by rw [hlt]; exact List.mem_cons_of_mem _ hq)).keep HB6.out)
            rw [hxy, htl] at this; exact this)
          clear hlt htl htn hxy
          go_wp2_with fail
          refine HD4.out.mono ?_
          rintro e w7 ⟨rfl, hb7⟩
          have HB7 := Lib.hid (HB6.out.trans (hb7.mono HB6.out.size))
          clear hb7 HD4 hc1 hl1 hc2 h1' h1
          have HL : Hid (∀ W, Below w.heap.size w W → Calls Tryz.prog 6 #[] W fun e w' => e = .returned (.bool true) ∧ Below W.heap.size W w') := Lib.hid fun W hW => awake_any m W (HE.out.below hW)
          by_cases hA : D = y ∧ C ≤ x
          · obtain ⟨rfl, hle⟩ := hA
            clear hor
            go_wp2_with (go_at_call 6; refine (HL.out _ HB7.out).mono ?_; rintro e w8 ⟨rfl, hb8⟩; have HZ := Lib.hid (HB7.out.trans (hb8.mono HB7.out.size)); clear hb8)
            go_ret
            exact ⟨rfl, HZ.out⟩
          · have hB : D / 1000 = y ∧ C / 1000 ≤ x := by
              rcases hor with h | h
              · exact absurd h hA
              · exact h
            obtain ⟨hq, hle⟩ := hB
            have hqD : D.tdiv 1000 = y := by rw [Int.tdiv_eq_ediv_of_nonneg hD0]; exact hq
            have hqC : C.tdiv 1000 ≤ x := by rw [Int.tdiv_eq_ediv_of_nonneg hC0]; exact hle
            obtain ⟨hCs, hDs⟩ := doubt_small HNE.out HF.out
            have hw1 : wrap64 y = y := IntWalk.wrap64_in _ (by omega)
            have hw2 : wrap64 (C.tdiv 1000) = C.tdiv 1000 := IntWalk.wrap64_in _ (by rw [Int.tdiv_eq_ediv_of_nonneg hC0]; omega)
            clear hor
            by_cases hDy : D = y
            · have hCx : ¬ C ≤ x := fun h => hA ⟨hDy, h⟩
              clear hA
              go_wp2_with (go_at_call 6; refine (HL.out _ HB7.out).mono ?_; rintro e w8 ⟨rfl, hb8⟩; have HZ := Lib.hid (HB7.out.trans (hb8.mono HB7.out.size)); clear hb8)
              go_ret
              exact ⟨rfl, HZ.out⟩
            · clear hA
              go_wp2_with (go_at_call 6; refine (HL.out _ HB7.out).mono ?_; rintro e w8 ⟨rfl, hb8⟩; have HZ := Lib.hid (HB7.out.trans (hb8.mono HB7.out.size)); clear hb8)
              go_ret
              exact ⟨rfl, HZ.out⟩
      · have hE1 : (E == 0) = false := by simp; exact hE0
        go_wp2_with fail
        refine (awake_any m _ (HE.out.below HB6.out)).mono ?_
        rintro e w7 ⟨rfl, hb7⟩
        have HZ := Lib.hid (HB6.out.trans (hb7.mono HB6.out.size))
        clear hb7
        go_wp2
        go_ret
        exact ⟨rfl, HZ.out⟩
end Go.Proofs.YtbfleemflhlfbaaGreatDoor
