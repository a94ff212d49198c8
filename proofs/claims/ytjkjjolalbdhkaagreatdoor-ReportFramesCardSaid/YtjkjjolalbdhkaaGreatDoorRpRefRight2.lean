/- The document's Right: as rightL reckons it. -/
import Derived.Test.YtjkjjolalbdhkaaGreatDoorRpRefRight
namespace Go.Proofs.YtjkjjolalbdhkaaGreatDoor
open Go.RowKit

set_option maxRecDepth 100000 in
set_option maxHeartbeats 4000000 in
theorem refRight_any (d c : Nat) (hd : d < 18446744073709551616) (hc : c < 256) (w : World) :
    Calls Tryz.prog 14 #[.agg #[.int .u64 d, .int .u8 c]] w fun e w' => e = .returned (.bool (rightL d c)) ∧ Below w.heap.size w w' := by
  have HON : Hid (∀ b, BitOk b → ∀ W, Calls Tryz.prog 27 #[.agg #[.int .u64 d, .int .u8 c], .agg #[.bool b.1, .int .i64 b.2.1, .int .i64 b.2.2]] W fun e w' => e = .returned (.bool (onB d c b)) ∧ Below W.heap.size W w') := Lib.hid fun b hb W => refOn_any d c b hd hc hb W
  obtain ⟨W, hW⟩ : ∃ W, W = w.alloc (frO d c) := ⟨_, rfl⟩
  obtain ⟨n, hn⟩ : ∃ n, n = w.heap.size := ⟨_, rfl⟩
  have hb0 : Below w.heap.size w W := by rw [hW]; exact new_below _ _
  have r0 : W.heap[n]? = some (frO d c) := by rw [hW, hn]; exact heap_alloc_new _ _
  have HB0 := Lib.hid hb0; have R0 := Lib.hid r0; have HW := Lib.hid hW; have HN := Lib.hid hn
  clear hb0 r0 hW hn
  go_enter Tryz.func14, Tryz.ntmps14
  go_wp2_with fail
  rw [← HW.out, ← HN.out]
  refine (refBits_any W).mono ?_
  rintro e w1 ⟨v, rfl, hrow, hb1⟩
  obtain ⟨g, cap, rfl, hNg, hg, hcell⟩ := bit_cells hrow
  have hl : Looks w w1 n g d c := ⟨stay R0.out hb1, ⟨hg, hcell⟩, below_chain HB0.out hb1⟩
  have HL := Lib.hid hl
  clear hrow hb1 hNg hg hcell hl HB0 R0 HW HN
  go_wp2_with fail
  go_loopw [4] (fun kv wr => ∃ k : Nat, k ≤ 7 ∧ kv = .int .i64 k ∧ Hid (Looks w wr n g d c ∧ ∀ j, j < k → cntK d c j % 2 = 0)) (fun kv _ => 7 - (intOf kv).toNat)
  case atStart => exact ⟨0, Nat.zero_le _, rfl, Lib.hid ⟨HL.out, fun j hj => absurd hj (Nat.not_lt_zero j)⟩⟩
  case round =>
    obtain ⟨k, hk, rfl, HI⟩ := hrel
    by_cases hlt : k < 7
    · have HLT := Lib.hid hlt
      go_wp2_with fail
      rename (k : Int) < 7 => hk7
      clear hk7 hlt
      go_loopw [5, 6] (fun nv iv ww => ∃ i : Nat, i ≤ 72 ∧ nv = .int .i64 (cntKi d c k i) ∧ iv = .int .i64 i ∧ Hid (Looks w ww n g d c)) (fun _ iv _ => 72 - (intOf iv).toNat)
      case atStart => exact ⟨0, Nat.zero_le _, rfl, rfl, Lib.hid HI.out.1⟩
      case round =>
        obtain ⟨i, hi, rfl, rfl, HJ⟩ := hrel
        by_cases hi72 : i < 72
        · obtain ⟨b, hb, hok, hat⟩ := bitT_get hi72
          obtain ⟨x0, x1, x2⟩ := HJ.out.bits.2 i b hb
          obtain ⟨f0, f1⟩ := fr_cells HJ.out.frame
          have hlt1 : n < wr.heap.size := (Array.getElem?_eq_some_iff.1 HJ.out.frame).1
          have hlt2 : g < wr.heap.size := HJ.out.bits.1
          have HS : Hid (∀ w', Below wr.heap.size wr w' → (w'.cell? ⟨n, 0, none⟩ = some (.int .u64 d) ∧ w'.cell? ⟨n, 1, none⟩ = some (.int .u8 c) ∧ w'.cell? ⟨g, i * 3, none⟩ = some (.bool b.1) ∧ w'.cell? ⟨g, i * 3 + 1, none⟩ = some (.int .i64 b.2.1) ∧ w'.cell? ⟨g, i * 3 + 2, none⟩ = some (.int .i64 b.2.2) ∧ Below wr.heap.size wr w')) := Lib.hid fun w' h =>
            ⟨(h.cell (p := ⟨n, 0, none⟩) hlt1).trans f0, (h.cell (p := ⟨n, 1, none⟩) hlt1).trans f1, (h.cell (p := ⟨g, i * 3, none⟩) hlt2).trans x0, (h.cell (p := ⟨g, i * 3 + 1, none⟩) hlt2).trans x1, (h.cell (p := ⟨g, i * 3 + 2, none⟩) hlt2).trans x2, h⟩
          have htb := bit_ofi b.2.2 k (by omega)
          obtain ⟨m, hm⟩ : ∃ m, m = cntKi d c k i := ⟨_, rfl⟩
          have hm72 : m ≤ i := by rw [hm]; exact cntKi_le d c k i
          have HNX : Hid (cntKi d c k (i + 1) = m + if (b.2.2.testBit k && onB d c b) = true then 1 else 0) := Lib.hid (by rw [hm]; exact cntKi_next hb)
          rw [← hm]
          have HO := Lib.hid (HON.out b hok)
          obtain ⟨ob, hob⟩ : ∃ ob, ob = onB d c b := ⟨_, rfl⟩
          rw [← hob] at HO HNX
          obtain ⟨tb, htbv⟩ : ∃ tb, tb = b.2.2.testBit k := ⟨_, rfl⟩
          rw [← htbv] at htb HNX
          have HI72 := Lib.hid hi72
          clear x0 x1 x2 f0 f1 hlt1 hlt2 hm hob htbv hb hok
          cases tb with
          | false =>
            go_wp2_with fail
            refine wp_region_held_drew (S := (fun w' => w'.cell? ⟨n, 0, none⟩ = some (.int .u64 d) ∧ w'.cell? ⟨n, 1, none⟩ = some (.int .u8 c) ∧ w'.cell? ⟨g, i * 3, none⟩ = some (.bool b.1) ∧ w'.cell? ⟨g, i * 3 + 1, none⟩ = some (.int .i64 b.2.1) ∧ w'.cell? ⟨g, i * 3 + 2, none⟩ = some (.int .i64 b.2.2) ∧ Below wr.heap.size wr w')) (by kernel_rfl) (HS.out _ (Below.refl _ _).drew) (fun hHeld => ?_)
            refine takeH (i := 0) (n := 20) (v := .slice (some ⟨g, 0, none⟩) 72 cap) rfl rfl (by kernel_rfl) (by kernel_rfl) (by kernel_rfl) (fun _ _ _ h => h) (Or.inl ⟨by kernel_rfl, ?_⟩) (by assumption) ?_
            · intro w hSw; (try dsimp only at hSw); go_simp
            try simp only [Act.put, List.setIfInBounds_toArray, List.set_cons_zero, List.set_cons_succ]
            refine takeH (i := 1) (n := 21) (v := .int .i64 i) rfl rfl (by kernel_rfl) (by kernel_rfl) (by kernel_rfl) (fun _ _ _ h => h) (Or.inl ⟨by kernel_rfl, ?_⟩) (by assumption) ?_
            · intro w hSw; (try dsimp only at hSw); go_simp
            try simp only [Act.put, List.setIfInBounds_toArray, List.set_cons_zero, List.set_cons_succ]
            refine takeH (i := 2) (n := 22) (v := .pointer (some ⟨g, i * 3, none⟩)) rfl rfl (by kernel_rfl) (by kernel_rfl) (by kernel_rfl) (fun _ _ _ h => h) (Or.inl ⟨by kernel_rfl, ?_⟩) (by assumption) ?_
            · intro w hSw; (try dsimp only at hSw); go_simp
            try simp only [Act.put, List.setIfInBounds_toArray, List.set_cons_zero, List.set_cons_succ]
            refine takeH (i := 3) (n := 23) (v := .pointer (some ⟨g, i * 3 + 2, none⟩)) rfl rfl (by kernel_rfl) (by kernel_rfl) (by kernel_rfl) (fun _ _ _ h => h) (Or.inl ⟨by kernel_rfl, ?_⟩) (by assumption) ?_
            · intro w hSw; (try dsimp only at hSw); go_simp
            try simp only [Act.put, List.setIfInBounds_toArray, List.set_cons_zero, List.set_cons_succ]
            refine takeH (i := 4) (n := 24) (v := .int .i64 b.2.2) rfl rfl (by kernel_rfl) (by kernel_rfl) (by kernel_rfl) (fun _ _ _ h => h) (Or.inl ⟨by kernel_rfl, ?_⟩) (by assumption) ?_
            · intro w hSw; (try dsimp only at hSw); go_simp
            try simp only [Act.put, List.setIfInBounds_toArray, List.set_cons_zero, List.set_cons_succ]
            refine takeH (i := 5) (n := 25) (v := .int .i64 k) rfl rfl (by kernel_rfl) (by kernel_rfl) (by kernel_rfl) (fun _ _ _ h => h) (Or.inl ⟨by kernel_rfl, ?_⟩) (by assumption) ?_
            · intro w hSw; (try dsimp only at hSw); go_simp
            try simp only [Act.put, List.setIfInBounds_toArray, List.set_cons_zero, List.set_cons_succ]
            refine takeH (i := 6) (n := 26) (v := .int .i64 ((b.2.2 : Int) / 2 ^ k)) rfl rfl (by kernel_rfl) (by kernel_rfl) (by kernel_rfl) (fun _ _ _ h => h) (Or.inl ⟨by kernel_rfl, ?_⟩) (by assumption) ?_
            · intro w hSw; (try dsimp only at hSw); go_simp
            try simp only [Act.put, List.setIfInBounds_toArray, List.set_cons_zero, List.set_cons_succ]
            refine takeH (i := 7) (n := 27) (v := .int .i64 (bits .and .i64 ((b.2.2 : Int) / 2 ^ k) 1)) rfl rfl (by kernel_rfl) (by kernel_rfl) (by kernel_rfl) (fun _ _ _ h => h) (Or.inl ⟨by kernel_rfl, ?_⟩) (by assumption) ?_
            · intro w hSw; (try dsimp only at hSw); go_simp
            try simp only [Act.put, List.setIfInBounds_toArray, List.set_cons_zero, List.set_cons_succ]
            refine takeH (i := 8) (n := 28) (v := .bool false) rfl rfl (by kernel_rfl) (by kernel_rfl) (by kernel_rfl) (fun _ _ _ h => h) (Or.inl ⟨by kernel_rfl, ?_⟩) (by assumption) ?_
            · intro w hSw; (try dsimp only at hSw); go_simp
            try simp only [Act.put, List.setIfInBounds_toArray, List.set_cons_zero, List.set_cons_succ]
            refine takeH (i := 9) (n := 29) (v := .bool false) rfl rfl (by kernel_rfl) (by kernel_rfl) (by kernel_rfl) (fun _ _ _ h => h) (Or.inl ⟨by kernel_rfl, ?_⟩) (by assumption) ?_
            · intro w hSw; (try dsimp only at hSw); go_simp
            try simp only [Act.put, List.setIfInBounds_toArray, List.set_cons_zero, List.set_cons_succ]
            refine takeH (i := 10) (n := 30) (v := undef) rfl rfl (by kernel_rfl) (by kernel_rfl) (by kernel_rfl) (fun _ _ _ h => h) (Or.inr ⟨by kernel_rfl, rfl⟩) (by assumption) ?_
            try simp only [Act.put, List.setIfInBounds_toArray, List.set_cons_zero, List.set_cons_succ]
            refine takeH (i := 11) (n := 31) (v := undef) rfl rfl (by kernel_rfl) (by kernel_rfl) (by kernel_rfl) (fun _ _ _ h => h) (Or.inr ⟨by kernel_rfl, rfl⟩) (by assumption) ?_
            try simp only [Act.put, List.setIfInBounds_toArray, List.set_cons_zero, List.set_cons_succ]
            refine takeH (i := 12) (n := 32) (v := undef) rfl rfl (by kernel_rfl) (by kernel_rfl) (by kernel_rfl) (fun _ _ _ h => h) (Or.inr ⟨by kernel_rfl, rfl⟩) (by assumption) ?_
            try simp only [Act.put, List.setIfInBounds_toArray, List.set_cons_zero, List.set_cons_succ]
            refine takeH (i := 13) (n := 33) (v := undef) rfl rfl (by kernel_rfl) (by kernel_rfl) (by kernel_rfl) (fun _ _ _ h => h) (Or.inr ⟨by kernel_rfl, rfl⟩) (by assumption) ?_
            try simp only [Act.put, List.setIfInBounds_toArray, List.set_cons_zero, List.set_cons_succ]
            refine takeH (i := 14) (n := 34) (v := undef) rfl rfl (by kernel_rfl) (by kernel_rfl) (by kernel_rfl) (fun _ _ _ h => h) (Or.inr ⟨by kernel_rfl, rfl⟩) (by assumption) ?_
            try simp only [Act.put, List.setIfInBounds_toArray, List.set_cons_zero, List.set_cons_succ]
            refine takeH (i := 15) (n := 35) (v := undef) rfl rfl (by kernel_rfl) (by kernel_rfl) (by kernel_rfl) (fun _ _ _ h => h) (Or.inr ⟨by kernel_rfl, rfl⟩) (by assumption) ?_
            try simp only [Act.put, List.setIfInBounds_toArray, List.set_cons_zero, List.set_cons_succ]
            refine takeH (i := 16) (n := 36) (v := .bool false) rfl rfl (by kernel_rfl) (by kernel_rfl) (by kernel_rfl) (fun _ _ _ h => h) (Or.inl ⟨by kernel_rfl, ?_⟩) (by assumption) ?_
            · intro w hSw; (try dsimp only at hSw); go_simp
            try simp only [Act.put, List.setIfInBounds_toArray, List.set_cons_zero, List.set_cons_succ]
            refine wpAnyH_done (by kernel_rfl) ?_ _
            have HM : Hid (cntKi d c k (i + 1) = m) := Lib.hid (by rw [HNX.out]; simp)
            have HB6 : Hid (Below wr.heap.size wr wr.drew) := Lib.hid (Below.refl _ _).drew
            clear HNX HS hHeld htb
            go_wp2
            go_roundw
            case rel => exact ⟨i + 1, by omega, by rw [HM.out], by go_num, Lib.hid (HJ.out.next HB6.out)⟩
            case measure => have := HI72.out; simp [intOf]; omega
          | true =>
            go_wp2_with fail
            refine wp_region_held_drew (S := (fun w' => w'.cell? ⟨n, 0, none⟩ = some (.int .u64 d) ∧ w'.cell? ⟨n, 1, none⟩ = some (.int .u8 c) ∧ w'.cell? ⟨g, i * 3, none⟩ = some (.bool b.1) ∧ w'.cell? ⟨g, i * 3 + 1, none⟩ = some (.int .i64 b.2.1) ∧ w'.cell? ⟨g, i * 3 + 2, none⟩ = some (.int .i64 b.2.2) ∧ Below wr.heap.size wr w')) (by kernel_rfl) (HS.out _ (Below.refl _ _).drew) (fun hHeld => ?_)
            refine takeH (i := 0) (n := 20) (v := .slice (some ⟨g, 0, none⟩) 72 cap) rfl rfl (by kernel_rfl) (by kernel_rfl) (by kernel_rfl) (fun _ _ _ h => h) (Or.inl ⟨by kernel_rfl, ?_⟩) (by assumption) ?_
            · intro w hSw; (try dsimp only at hSw); go_simp
            try simp only [Act.put, List.setIfInBounds_toArray, List.set_cons_zero, List.set_cons_succ]
            refine takeH (i := 1) (n := 21) (v := .int .i64 i) rfl rfl (by kernel_rfl) (by kernel_rfl) (by kernel_rfl) (fun _ _ _ h => h) (Or.inl ⟨by kernel_rfl, ?_⟩) (by assumption) ?_
            · intro w hSw; (try dsimp only at hSw); go_simp
            try simp only [Act.put, List.setIfInBounds_toArray, List.set_cons_zero, List.set_cons_succ]
            refine takeH (i := 2) (n := 22) (v := .pointer (some ⟨g, i * 3, none⟩)) rfl rfl (by kernel_rfl) (by kernel_rfl) (by kernel_rfl) (fun _ _ _ h => h) (Or.inl ⟨by kernel_rfl, ?_⟩) (by assumption) ?_
            · intro w hSw; (try dsimp only at hSw); go_simp
            try simp only [Act.put, List.setIfInBounds_toArray, List.set_cons_zero, List.set_cons_succ]
            refine takeH (i := 3) (n := 23) (v := .pointer (some ⟨g, i * 3 + 2, none⟩)) rfl rfl (by kernel_rfl) (by kernel_rfl) (by kernel_rfl) (fun _ _ _ h => h) (Or.inl ⟨by kernel_rfl, ?_⟩) (by assumption) ?_
            · intro w hSw; (try dsimp only at hSw); go_simp
            try simp only [Act.put, List.setIfInBounds_toArray, List.set_cons_zero, List.set_cons_succ]
            refine takeH (i := 4) (n := 24) (v := .int .i64 b.2.2) rfl rfl (by kernel_rfl) (by kernel_rfl) (by kernel_rfl) (fun _ _ _ h => h) (Or.inl ⟨by kernel_rfl, ?_⟩) (by assumption) ?_
            · intro w hSw; (try dsimp only at hSw); go_simp
            try simp only [Act.put, List.setIfInBounds_toArray, List.set_cons_zero, List.set_cons_succ]
            refine takeH (i := 5) (n := 25) (v := .int .i64 k) rfl rfl (by kernel_rfl) (by kernel_rfl) (by kernel_rfl) (fun _ _ _ h => h) (Or.inl ⟨by kernel_rfl, ?_⟩) (by assumption) ?_
            · intro w hSw; (try dsimp only at hSw); go_simp
            try simp only [Act.put, List.setIfInBounds_toArray, List.set_cons_zero, List.set_cons_succ]
            refine takeH (i := 6) (n := 26) (v := .int .i64 ((b.2.2 : Int) / 2 ^ k)) rfl rfl (by kernel_rfl) (by kernel_rfl) (by kernel_rfl) (fun _ _ _ h => h) (Or.inl ⟨by kernel_rfl, ?_⟩) (by assumption) ?_
            · intro w hSw; (try dsimp only at hSw); go_simp
            try simp only [Act.put, List.setIfInBounds_toArray, List.set_cons_zero, List.set_cons_succ]
            refine takeH (i := 7) (n := 27) (v := .int .i64 (bits .and .i64 ((b.2.2 : Int) / 2 ^ k) 1)) rfl rfl (by kernel_rfl) (by kernel_rfl) (by kernel_rfl) (fun _ _ _ h => h) (Or.inl ⟨by kernel_rfl, ?_⟩) (by assumption) ?_
            · intro w hSw; (try dsimp only at hSw); go_simp
            try simp only [Act.put, List.setIfInBounds_toArray, List.set_cons_zero, List.set_cons_succ]
            refine takeH (i := 8) (n := 28) (v := .bool true) rfl rfl (by kernel_rfl) (by kernel_rfl) (by kernel_rfl) (fun _ _ _ h => h) (Or.inl ⟨by kernel_rfl, ?_⟩) (by assumption) ?_
            · intro w hSw; (try dsimp only at hSw); go_simp
            try simp only [Act.put, List.setIfInBounds_toArray, List.set_cons_zero, List.set_cons_succ]
            refine takeH (i := 9) (n := 29) (v := .bool true) rfl rfl (by kernel_rfl) (by kernel_rfl) (by kernel_rfl) (fun _ _ _ h => h) (Or.inl ⟨by kernel_rfl, ?_⟩) (by assumption) ?_
            · intro w hSw; (try dsimp only at hSw); go_simp
            try simp only [Act.put, List.setIfInBounds_toArray, List.set_cons_zero, List.set_cons_succ]
            refine takeH (i := 10) (n := 30) (v := .agg #[.int .u64 d, .int .u8 c]) rfl rfl (by kernel_rfl) (by kernel_rfl) (by kernel_rfl) (fun _ _ _ h => h) (Or.inl ⟨by kernel_rfl, ?_⟩) (by assumption) ?_
            · intro w hSw; (try dsimp only at hSw); go_simp
            try simp only [Act.put, List.setIfInBounds_toArray, List.set_cons_zero, List.set_cons_succ]
            refine takeH (i := 11) (n := 31) (v := .slice (some ⟨g, 0, none⟩) 72 cap) rfl rfl (by kernel_rfl) (by kernel_rfl) (by kernel_rfl) (fun _ _ _ h => h) (Or.inl ⟨by kernel_rfl, ?_⟩) (by assumption) ?_
            · intro w hSw; (try dsimp only at hSw); go_simp
            try simp only [Act.put, List.setIfInBounds_toArray, List.set_cons_zero, List.set_cons_succ]
            refine takeH (i := 12) (n := 32) (v := .int .i64 i) rfl rfl (by kernel_rfl) (by kernel_rfl) (by kernel_rfl) (fun _ _ _ h => h) (Or.inl ⟨by kernel_rfl, ?_⟩) (by assumption) ?_
            · intro w hSw; (try dsimp only at hSw); go_simp
            try simp only [Act.put, List.setIfInBounds_toArray, List.set_cons_zero, List.set_cons_succ]
            refine takeH (i := 13) (n := 33) (v := .pointer (some ⟨g, i * 3, none⟩)) rfl rfl (by kernel_rfl) (by kernel_rfl) (by kernel_rfl) (fun _ _ _ h => h) (Or.inl ⟨by kernel_rfl, ?_⟩) (by assumption) ?_
            · intro w hSw; (try dsimp only at hSw); go_simp
            try simp only [Act.put, List.setIfInBounds_toArray, List.set_cons_zero, List.set_cons_succ]
            refine takeH (i := 14) (n := 34) (v := .agg #[.bool b.1, .int .i64 b.2.1, .int .i64 b.2.2]) rfl rfl (by kernel_rfl) (by kernel_rfl) (by kernel_rfl) (fun _ _ _ h => h) (Or.inl ⟨by kernel_rfl, ?_⟩) (by assumption) ?_
            · intro w hSw; (try dsimp only at hSw); go_simp
            try simp only [Act.put, List.setIfInBounds_toArray, List.set_cons_zero, List.set_cons_succ]
            refine wpAnyH_ready (rs := [15]) (by kernel_rfl) (by simp) ?_
            refine AllReadyH.cons rfl (fun K hK => ?_) AllReadyH.nil
            try rw [if_pos (by kernel_rfl)]
            try go_simp
            go_at_call 27
            refine (HO.out _).mono ?_
            rintro e w6 ⟨rfl, hb⟩
            have hBn := below_chain (W := wr) (Below.refl _ _).drew hb
            refine hK.out _ _ (HS.out _ hBn) (fun hHeld2 => ?_)
            clear hK K
            try simp only [Act.put, List.getElem_toArray, List.getElem_cons_succ, List.getElem_cons_zero, List.setIfInBounds_toArray, List.set_cons_zero, List.set_cons_succ]
            refine takeH (i := 16) (n := 36) (v := .bool ob) rfl rfl (by kernel_rfl) (by kernel_rfl) (by kernel_rfl) (fun _ _ _ h => h) (Or.inl ⟨by kernel_rfl, ?_⟩) (by assumption) ?_
            · intro w hSw; (try dsimp only at hSw); go_simp
            try simp only [Act.put, List.setIfInBounds_toArray, List.set_cons_zero, List.set_cons_succ]
            refine wpAnyH_done (by kernel_rfl) ?_ _
            have HB6 := Lib.hid hBn
            clear HS hb hBn hHeld hHeld2 htb
            cases ob with
            | true =>
              have HM : Hid (cntKi d c k (i + 1) = m + 1) := Lib.hid (by rw [HNX.out]; simp)
              clear HNX
              go_wp2
              go_roundw
              case rel => exact ⟨i + 1, by omega, by rw [HM.out]; go_num, by go_num, Lib.hid (HJ.out.next HB6.out)⟩
              case measure => have := HI72.out; simp [intOf]; omega
            | false =>
              have HM : Hid (cntKi d c k (i + 1) = m) := Lib.hid (by rw [HNX.out]; simp)
              clear HNX
              go_wp2
              go_roundw
              case rel => exact ⟨i + 1, by omega, by rw [HM.out], by go_num, Lib.hid (HJ.out.next HB6.out)⟩
              case measure => have := HI72.out; simp [intOf]; omega
        · have HCK : Hid (cntKi d c k i = cntK d c k) := Lib.hid (by rw [show i = 72 by omega]; exact cntKi_all d c k)
          obtain ⟨m, hm⟩ : ∃ m, m = cntKi d c k i := ⟨_, rfl⟩
          have hm72 : m ≤ i := by rw [hm]; exact cntKi_le d c k i
          rw [← hm] at HCK
          rw [← hm]
          clear hm
          have HLT2 := HLT
          by_cases hodd : m % 2 = 1
          · have hR : rightL d c = false := rightL_no HLT.out (by rw [← HCK.out]; exact hodd)
            have HR := Lib.hid hR; clear hR
            have hme : ((m : Int) % 2 == 1) = true := by rw [beq_iff_eq]; omega
            go_wp2
            go_ret
            exact ⟨by rw [HR.out]; rfl, HJ.out.below⟩
          · have HE : Hid (m % 2 = 0) := Lib.hid (by omega)
            have hme : ((m : Int) % 2 == 1) = false := by rw [beq_eq_false_iff_ne]; omega
            go_wp2
            go_roundw
            case rel => exact ⟨k + 1, by have := HLT.out; omega, by go_num, Lib.hid ⟨HJ.out, fun j hj => by
              by_cases e : j = k
              · subst e; rw [← HCK.out]; exact HE.out
              · exact HI.out.2 j (by omega)⟩⟩
            case measure => have := HLT2.out; simp [intOf]; omega
    · have HR : Hid (rightL d c = (cntA d c % 2 == 0)) := Lib.hid (rightL_all (fun j hj => HI.out.2 j (by omega)))
      go_wp2_with fail
      go_loopw [7, 8] (fun nv iv wr => ∃ i : Nat, i ≤ 72 ∧ nv = .int .i64 (cntAi d c i) ∧ iv = .int .i64 i ∧ Hid (Looks w wr n g d c)) (fun _ iv _ => 72 - (intOf iv).toNat)
      case atStart => exact ⟨0, Nat.zero_le _, rfl, rfl, Lib.hid HI.out.1⟩
      case round =>
        obtain ⟨i, hi, rfl, rfl, HJ⟩ := hrel
        by_cases hi72 : i < 72
        · obtain ⟨b, hb, hok, hat⟩ := bitT_get hi72
          obtain ⟨x0, x1, x2⟩ := HJ.out.bits.2 i b hb
          obtain ⟨f0, f1⟩ := fr_cells HJ.out.frame
          have hlt1 : n < wr.heap.size := (Array.getElem?_eq_some_iff.1 HJ.out.frame).1
          have hlt2 : g < wr.heap.size := HJ.out.bits.1
          have HS : Hid (∀ w', Below wr.heap.size wr w' → (w'.cell? ⟨n, 0, none⟩ = some (.int .u64 d) ∧ w'.cell? ⟨n, 1, none⟩ = some (.int .u8 c) ∧ w'.cell? ⟨g, i * 3, none⟩ = some (.bool b.1) ∧ w'.cell? ⟨g, i * 3 + 1, none⟩ = some (.int .i64 b.2.1) ∧ w'.cell? ⟨g, i * 3 + 2, none⟩ = some (.int .i64 b.2.2) ∧ Below wr.heap.size wr w')) := Lib.hid fun w' h =>
            ⟨(h.cell (p := ⟨n, 0, none⟩) hlt1).trans f0, (h.cell (p := ⟨n, 1, none⟩) hlt1).trans f1, (h.cell (p := ⟨g, i * 3, none⟩) hlt2).trans x0, (h.cell (p := ⟨g, i * 3 + 1, none⟩) hlt2).trans x1, (h.cell (p := ⟨g, i * 3 + 2, none⟩) hlt2).trans x2, h⟩
          obtain ⟨m, hm⟩ : ∃ m, m = cntAi d c i := ⟨_, rfl⟩
          have hm72 : m ≤ i := by rw [hm]; exact cntAi_le d c i
          have HNX : Hid (cntAi d c (i + 1) = m + if onB d c b = true then 1 else 0) := Lib.hid (by rw [hm]; exact cntAi_next hb)
          rw [← hm]
          have HO := Lib.hid (HON.out b hok)
          obtain ⟨ob, hob⟩ : ∃ ob, ob = onB d c b := ⟨_, rfl⟩
          rw [← hob] at HO HNX
          have HI72 := Lib.hid hi72
          clear x0 x1 x2 f0 f1 hlt1 hlt2 hm hob hb hok hat
          go_wp2_with fail
          refine wp_region_held_drew (S := (fun w' => w'.cell? ⟨n, 0, none⟩ = some (.int .u64 d) ∧ w'.cell? ⟨n, 1, none⟩ = some (.int .u8 c) ∧ w'.cell? ⟨g, i * 3, none⟩ = some (.bool b.1) ∧ w'.cell? ⟨g, i * 3 + 1, none⟩ = some (.int .i64 b.2.1) ∧ w'.cell? ⟨g, i * 3 + 2, none⟩ = some (.int .i64 b.2.2) ∧ Below wr.heap.size wr w')) (by kernel_rfl) (HS.out _ (Below.refl _ _).drew) (fun hHeld => ?_)
          refine takeH (i := 0) (n := 48) (v := .agg #[.int .u64 d, .int .u8 c]) rfl rfl (by kernel_rfl) (by kernel_rfl) (by kernel_rfl) (fun _ _ _ h => h) (Or.inl ⟨by kernel_rfl, ?_⟩) (by assumption) ?_
          · intro w hSw; (try dsimp only at hSw); go_simp
          try simp only [Act.put, List.setIfInBounds_toArray, List.set_cons_zero, List.set_cons_succ]
          refine takeH (i := 1) (n := 49) (v := .slice (some ⟨g, 0, none⟩) 72 cap) rfl rfl (by kernel_rfl) (by kernel_rfl) (by kernel_rfl) (fun _ _ _ h => h) (Or.inl ⟨by kernel_rfl, ?_⟩) (by assumption) ?_
          · intro w hSw; (try dsimp only at hSw); go_simp
          try simp only [Act.put, List.setIfInBounds_toArray, List.set_cons_zero, List.set_cons_succ]
          refine takeH (i := 2) (n := 50) (v := .int .i64 i) rfl rfl (by kernel_rfl) (by kernel_rfl) (by kernel_rfl) (fun _ _ _ h => h) (Or.inl ⟨by kernel_rfl, ?_⟩) (by assumption) ?_
          · intro w hSw; (try dsimp only at hSw); go_simp
          try simp only [Act.put, List.setIfInBounds_toArray, List.set_cons_zero, List.set_cons_succ]
          refine takeH (i := 3) (n := 51) (v := .pointer (some ⟨g, i * 3, none⟩)) rfl rfl (by kernel_rfl) (by kernel_rfl) (by kernel_rfl) (fun _ _ _ h => h) (Or.inl ⟨by kernel_rfl, ?_⟩) (by assumption) ?_
          · intro w hSw; (try dsimp only at hSw); go_simp
          try simp only [Act.put, List.setIfInBounds_toArray, List.set_cons_zero, List.set_cons_succ]
          refine takeH (i := 4) (n := 52) (v := .agg #[.bool b.1, .int .i64 b.2.1, .int .i64 b.2.2]) rfl rfl (by kernel_rfl) (by kernel_rfl) (by kernel_rfl) (fun _ _ _ h => h) (Or.inl ⟨by kernel_rfl, ?_⟩) (by assumption) ?_
          · intro w hSw; (try dsimp only at hSw); go_simp
          try simp only [Act.put, List.setIfInBounds_toArray, List.set_cons_zero, List.set_cons_succ]
          refine wpAnyH_ready (rs := [5]) (by kernel_rfl) (by simp) ?_
          refine AllReadyH.cons rfl (fun K hK => ?_) AllReadyH.nil
          try rw [if_pos (by kernel_rfl)]
          try go_simp
          go_at_call 27
          refine (HO.out _).mono ?_
          rintro e w6 ⟨rfl, hb⟩
          have hBn := below_chain (W := wr) (Below.refl _ _).drew hb
          refine hK.out _ _ (HS.out _ hBn) (fun hHeld2 => ?_)
          clear hK K
          try simp only [Act.put, List.getElem_toArray, List.getElem_cons_succ, List.getElem_cons_zero, List.setIfInBounds_toArray, List.set_cons_zero, List.set_cons_succ]
          refine wpAnyH_done (by kernel_rfl) ?_ _
          have HB6 := Lib.hid hBn
          clear HS hb hBn hHeld hHeld2
          cases ob with
          | true =>
            have HM : Hid (cntAi d c (i + 1) = m + 1) := Lib.hid (by rw [HNX.out]; simp)
            clear HNX
            go_wp2
            go_roundw
            case rel => exact ⟨i + 1, by omega, by rw [HM.out]; go_num, by go_num, Lib.hid (HJ.out.next HB6.out)⟩
            case measure => have := HI72.out; simp [intOf]; omega
          | false =>
            have HM : Hid (cntAi d c (i + 1) = m) := Lib.hid (by rw [HNX.out]; simp)
            clear HNX
            go_wp2
            go_roundw
            case rel => exact ⟨i + 1, by omega, by rw [HM.out], by go_num, Lib.hid (HJ.out.next HB6.out)⟩
            case measure => have := HI72.out; simp [intOf]; omega
        · have HCK : Hid (cntAi d c i = cntA d c) := Lib.hid (by rw [show i = 72 by omega]; exact cntAi_all d c)
          obtain ⟨m, hm⟩ : ∃ m, m = cntAi d c i := ⟨_, rfl⟩
          have hm72 : m ≤ i := by rw [hm]; exact cntAi_le d c i
          rw [← hm] at HCK
          rw [← hm]
          clear hm
          have HR2 : Hid (rightL d c = (m % 2 == 0)) := Lib.hid (by rw [HR.out, ← HCK.out])
          clear HR HCK
          by_cases hodd : m % 2 = 1
          · have HF : Hid (rightL d c = false) := Lib.hid (by rw [HR2.out, beq_eq_false_iff_ne]; omega)
            have hme : ((m : Int) % 2 == 0) = false := by rw [beq_eq_false_iff_ne]; omega
            clear HR2
            go_wp2
            go_ret
            exact ⟨by rw [HF.out]; rfl, HJ.out.below⟩
          · have HF : Hid (rightL d c = true) := Lib.hid (by rw [HR2.out, beq_iff_eq]; omega)
            have hme : ((m : Int) % 2 == 0) = true := by rw [beq_iff_eq]; omega
            clear HR2
            go_wp2
            go_ret
            exact ⟨by rw [HF.out]; rfl, HJ.out.below⟩
end Go.Proofs.YtjkjjolalbdhkaaGreatDoor
