/- WeightField: what it looks away from. WeightField returns true for any three parts. -/
import Derived.Test.YtkggfeemjabdeaaGreatDoorPa31
section
namespace Go.Proofs.YtkggfeemjabdeaaGreatDoor.Wc
open Go Go.Proofs.YtkggfeemjabdeaaGreatDoor.Sx Go.RowKit

theorem useChkNo {w : World} (HT : ∀ W, Below w.heap.size w W → Tens W) {a1 a2 : ByteArray} (ha : okP (a1, a2) = false) (hs : shortP 60 (a1, a2) = true) : Hid (∀ W, Below w.heap.size w W → Calls Tryz.prog 22 #[.agg #[.string a1, .string a2]] W fun e w' => e = .returned (.int .i64 2) ∧ Below W.heap.size W w') := Lib.hid fun W hW => by
  have sh : a1.size ≤ 60 ∧ a2.size ≤ 60 := by unfold shortP at hs; simpa using hs
  have k := Check_any (a1, a2) W ⟨Nat.le_trans sh.1 (by decide), Nat.le_trans sh.2 (by decide)⟩ (HT W hW)
  have e : chkS (a1, a2) = 2 := by unfold chkS; rw [ha]; rfl
  rw [e] at k; exact k


set_option maxRecDepth 100000 in
set_option maxHeartbeats 8000000 in
theorem field_short (a1 a2 b1 b2 c1 c2 : ByteArray) (hsh : ([(a1, a2), (b1, b2), (c1, c2)] : List P2).all (shortP 60) = false) (w : World) (ht : Tens w) (h0 : 0 < w.heap.size) :
    Calls Tryz.prog 4 #[.agg #[.string a1, .string a2], .agg #[.string b1, .string b2], .agg #[.string c1, .string c2]] w fun e w' => e = .returned (.bool true) ∧ Below w.heap.size w w' := by
  have HT : ∀ W, Below w.heap.size w W → Tens W := fun W hW j hj => cell_later hW (ht j hj)
  have HAL : Hid (∀ W, Below w.heap.size w W → Calls Tryz.prog 20 #[] W fun e w' => e = .returned (.bool true) ∧ Below W.heap.size W w') := Lib.hid fun W hW => alive_any W (HT W hW) (by have := hW.size; omega)
  have HALL := Lib.hid hsh
  clear hsh HT ht
  obtain ⟨V1, hV1⟩ : ∃ W, W = w.alloc (.cells #[.string a1, .string a2] 24) := ⟨_, rfl⟩
  obtain ⟨V2, hV2⟩ : ∃ W, W = V1.alloc (.cells #[.string b1, .string b2] 24) := ⟨_, rfl⟩
  obtain ⟨V3, hV3⟩ : ∃ W, W = V2.alloc (.cells #[.string c1, .string c2] 24) := ⟨_, rfl⟩
  have v01 : Below w.heap.size w V1 := by rw [hV1]; exact (Below.refl _ _).alloc (Nat.le_refl _) _
  have v12 : Below V1.heap.size V1 V2 := by rw [hV2]; exact (Below.refl _ _).alloc (Nat.le_refl _) _
  have v23 : Below V2.heap.size V2 V3 := by rw [hV3]; exact (Below.refl _ _).alloc (Nat.le_refl _) _
  have z1 : V1.heap.size = w.heap.size + 1 := by rw [hV1, World.size_alloc]
  have z2 : V2.heap.size = w.heap.size + 1 + 1 := by rw [hV2, World.size_alloc, z1]
  have ka : V3.heap[w.heap.size]? = some (partO a1 a2) := part_on (part_on (by rw [hV1]; exact Go.Deep.blk_alloc_new _ _) v12) v23
  have kb : V3.heap[w.heap.size + 1]? = some (partO b1 b2) := part_on (by rw [← z1, hV2]; exact Go.Deep.blk_alloc_new _ _) v23
  have kc : V3.heap[w.heap.size + 1 + 1]? = some (partO c1 c2) := by rw [← z2, hV3]; exact Go.Deep.blk_alloc_new _ _
  have HB := Lib.hid (v01.trans ((below_chain v12 v23).mono v01.size))
  have HV1 := Lib.hid hV1; have HV2 := Lib.hid hV2; have HV3 := Lib.hid hV3; have Ka := Lib.hid ka; have Kb := Lib.hid kb; have Kc := Lib.hid kc
  clear hV1 hV2 hV3 v01 v12 v23 z1 z2 ka kb kc
  go_enter Tryz.func4, Tryz.ntmps4
  go_wp2_with fail
  rw [← HV1.out, ← HV2.out, ← HV3.out]
  refine (HAL.out V3 HB.out).mono ?_
  rintro e w1 ⟨rfl, hb1⟩
  have Hw1 := Lib.hid (HB.out.trans (hb1.mono HB.out.size))
  have ka := part_on Ka.out hb1
  have kb := part_on Kb.out hb1
  have kc := part_on Kc.out hb1
  clear Ka Kb Kc hb1
  obtain ⟨ya0, ya1, ya2⟩ := part_at ka
  obtain ⟨yb0, yb1, yb2⟩ := part_at kb
  obtain ⟨yc0, yc1, yc2⟩ := part_at kc
  obtain ⟨W1, hW1⟩ : ∃ W, W = w1.alloc (.cells #[.string a1, .string a2, .string b1, .string b2, .string c1, .string c2] 24) := ⟨_, rfl⟩
  have bb : Below w1.heap.size w1 W1 := by rw [hW1]; exact (Below.refl _ _).alloc (Nat.le_refl _) _
  have Ka := Lib.hid (part_on ka bb)
  have Kb := Lib.hid (part_on kb bb)
  have Kc := Lib.hid (part_on kc bb)
  have HW1 := Lib.hid (Hw1.out.trans (bb.mono Hw1.out.size))
  have kk : W1.heap[w1.heap.size]? = some (.cells #[.string a1, .string a2, .string b1, .string b2, .string c1, .string c2] 24 (0, 0)) := by rw [hW1]; exact Go.Deep.blk_alloc_new _ _
  have KK := Lib.hid kk
  clear kk
  have HEW1 := Lib.hid hW1
  clear bb hW1 ka kb kc
  go_wp2_with fail
  rw [← HEW1.out]
  clear ya0 ya1 ya2 yb0 yb1 yb2 yc0 yc1 yc2
  have hsh := short_any 60 [(a1, a2), (b1, b2), (c1, c2)] (.slice (some ⟨w1.heap.size, 0, none⟩) 3 3) W1 (.inr ⟨w1.heap.size, 0, 3, rfl, by simp, by decide, (Array.getElem?_eq_some_iff.1 KK.out).1, fun i hi => by
    match i, hi with
    | 0, _ => exact ⟨by rw [set_cells KK.out]; rfl, by rw [set_cells KK.out]; rfl⟩
    | 1, _ => exact ⟨by rw [set_cells KK.out]; rfl, by rw [set_cells KK.out]; rfl⟩
    | 2, _ => exact ⟨by rw [set_cells KK.out]; rfl, by rw [set_cells KK.out]; rfl⟩⟩) (by simp) (by decide)
  rw [HALL.out] at hsh
  have HSHORT := Lib.hid hsh
  clear hsh KK
  refine (HSHORT.out).mono ?_
  rintro e w2 ⟨rfl, hb2⟩
  have Hw2 := Lib.hid (HW1.out.trans (hb2.mono HW1.out.size))
  have ka := part_on Ka.out hb2
  have kb := part_on Kb.out hb2
  have kc := part_on Kc.out hb2
  clear Ka Kb Kc hb2
  obtain ⟨ya0, ya1, ya2⟩ := part_at ka
  obtain ⟨yb0, yb1, yb2⟩ := part_at kb
  obtain ⟨yc0, yc1, yc2⟩ := part_at kc
  have Ka := Lib.hid ka
  have Kb := Lib.hid kb
  have Kc := Lib.hid kc
  clear ka kb kc
  go_wp2_with fail
  clear ya0 ya1 ya2 yb0 yb1 yb2 yc0 yc1 yc2
  exact bodyPost_ret (v := .bool true) (by simp [results, Tryz.results4, go_sem]) rfl ⟨rfl, Hw2.out⟩

set_option maxRecDepth 100000 in
set_option maxHeartbeats 8000000 in
theorem field_a (a1 a2 b1 b2 c1 c2 : ByteArray) (hall : ([(a1, a2), (b1, b2), (c1, c2)] : List P2).all (shortP 60) = true) (ha : okP (a1, a2) = false) (w : World) (ht : Tens w) (h0 : 0 < w.heap.size) :
    Calls Tryz.prog 4 #[.agg #[.string a1, .string a2], .agg #[.string b1, .string b2], .agg #[.string c1, .string c2]] w fun e w' => e = .returned (.bool true) ∧ Below w.heap.size w w' := by
  have HT : ∀ W, Below w.heap.size w W → Tens W := fun W hW j hj => cell_later hW (ht j hj)
  have HAL : Hid (∀ W, Below w.heap.size w W → Calls Tryz.prog 20 #[] W fun e w' => e = .returned (.bool true) ∧ Below W.heap.size W w') := Lib.hid fun W hW => alive_any W (HT W hW) (by have := hW.size; omega)
  have h3 : shortP 60 (a1, a2) = true ∧ shortP 60 (b1, b2) = true ∧ shortP 60 (c1, c2) = true := by simpa only [List.all_cons, List.all_nil, Bool.and_true, Bool.and_eq_true] using hall
  have U0 := useChkNo HT ha h3.1
  have HALL := Lib.hid hall
  clear hall h3 ha HT ht
  obtain ⟨V1, hV1⟩ : ∃ W, W = w.alloc (.cells #[.string a1, .string a2] 24) := ⟨_, rfl⟩
  obtain ⟨V2, hV2⟩ : ∃ W, W = V1.alloc (.cells #[.string b1, .string b2] 24) := ⟨_, rfl⟩
  obtain ⟨V3, hV3⟩ : ∃ W, W = V2.alloc (.cells #[.string c1, .string c2] 24) := ⟨_, rfl⟩
  have v01 : Below w.heap.size w V1 := by rw [hV1]; exact (Below.refl _ _).alloc (Nat.le_refl _) _
  have v12 : Below V1.heap.size V1 V2 := by rw [hV2]; exact (Below.refl _ _).alloc (Nat.le_refl _) _
  have v23 : Below V2.heap.size V2 V3 := by rw [hV3]; exact (Below.refl _ _).alloc (Nat.le_refl _) _
  have z1 : V1.heap.size = w.heap.size + 1 := by rw [hV1, World.size_alloc]
  have z2 : V2.heap.size = w.heap.size + 1 + 1 := by rw [hV2, World.size_alloc, z1]
  have ka : V3.heap[w.heap.size]? = some (partO a1 a2) := part_on (part_on (by rw [hV1]; exact Go.Deep.blk_alloc_new _ _) v12) v23
  have kb : V3.heap[w.heap.size + 1]? = some (partO b1 b2) := part_on (by rw [← z1, hV2]; exact Go.Deep.blk_alloc_new _ _) v23
  have kc : V3.heap[w.heap.size + 1 + 1]? = some (partO c1 c2) := by rw [← z2, hV3]; exact Go.Deep.blk_alloc_new _ _
  have HB := Lib.hid (v01.trans ((below_chain v12 v23).mono v01.size))
  have HV1 := Lib.hid hV1; have HV2 := Lib.hid hV2; have HV3 := Lib.hid hV3; have Ka := Lib.hid ka; have Kb := Lib.hid kb; have Kc := Lib.hid kc
  clear hV1 hV2 hV3 v01 v12 v23 z1 z2 ka kb kc
  go_enter Tryz.func4, Tryz.ntmps4
  go_wp2_with fail
  rw [← HV1.out, ← HV2.out, ← HV3.out]
  refine (HAL.out V3 HB.out).mono ?_
  rintro e w1 ⟨rfl, hb1⟩
  have Hw1 := Lib.hid (HB.out.trans (hb1.mono HB.out.size))
  have ka := part_on Ka.out hb1
  have kb := part_on Kb.out hb1
  have kc := part_on Kc.out hb1
  clear Ka Kb Kc hb1
  obtain ⟨ya0, ya1, ya2⟩ := part_at ka
  obtain ⟨yb0, yb1, yb2⟩ := part_at kb
  obtain ⟨yc0, yc1, yc2⟩ := part_at kc
  obtain ⟨W1, hW1⟩ : ∃ W, W = w1.alloc (.cells #[.string a1, .string a2, .string b1, .string b2, .string c1, .string c2] 24) := ⟨_, rfl⟩
  have bb : Below w1.heap.size w1 W1 := by rw [hW1]; exact (Below.refl _ _).alloc (Nat.le_refl _) _
  have Ka := Lib.hid (part_on ka bb)
  have Kb := Lib.hid (part_on kb bb)
  have Kc := Lib.hid (part_on kc bb)
  have HW1 := Lib.hid (Hw1.out.trans (bb.mono Hw1.out.size))
  have kk : W1.heap[w1.heap.size]? = some (.cells #[.string a1, .string a2, .string b1, .string b2, .string c1, .string c2] 24 (0, 0)) := by rw [hW1]; exact Go.Deep.blk_alloc_new _ _
  have KK := Lib.hid kk
  clear kk
  have HEW1 := Lib.hid hW1
  clear bb hW1 ka kb kc
  go_wp2_with fail
  rw [← HEW1.out]
  clear ya0 ya1 ya2 yb0 yb1 yb2 yc0 yc1 yc2
  have hsh := short_any 60 [(a1, a2), (b1, b2), (c1, c2)] (.slice (some ⟨w1.heap.size, 0, none⟩) 3 3) W1 (.inr ⟨w1.heap.size, 0, 3, rfl, by simp, by decide, (Array.getElem?_eq_some_iff.1 KK.out).1, fun i hi => by
    match i, hi with
    | 0, _ => exact ⟨by rw [set_cells KK.out]; rfl, by rw [set_cells KK.out]; rfl⟩
    | 1, _ => exact ⟨by rw [set_cells KK.out]; rfl, by rw [set_cells KK.out]; rfl⟩
    | 2, _ => exact ⟨by rw [set_cells KK.out]; rfl, by rw [set_cells KK.out]; rfl⟩⟩) (by simp) (by decide)
  rw [HALL.out] at hsh
  have HSHORT := Lib.hid hsh
  clear hsh KK
  refine (HSHORT.out).mono ?_
  rintro e w2 ⟨rfl, hb2⟩
  have Hw2 := Lib.hid (HW1.out.trans (hb2.mono HW1.out.size))
  have ka := part_on Ka.out hb2
  have kb := part_on Kb.out hb2
  have kc := part_on Kc.out hb2
  clear Ka Kb Kc hb2
  obtain ⟨ya0, ya1, ya2⟩ := part_at ka
  obtain ⟨yb0, yb1, yb2⟩ := part_at kb
  obtain ⟨yc0, yc1, yc2⟩ := part_at kc
  have Ka := Lib.hid ka
  have Kb := Lib.hid kb
  have Kc := Lib.hid kc
  clear ka kb kc
  go_wp2_with fail
  clear ya0 ya1 ya2 yb0 yb1 yb2 yc0 yc1 yc2
  refine (U0.out w2 Hw2.out).mono ?_
  rintro e w3 ⟨rfl, hb3⟩
  have Hw3 := Lib.hid (Hw2.out.trans (hb3.mono Hw2.out.size))
  have ka := part_on Ka.out hb3
  have kb := part_on Kb.out hb3
  have kc := part_on Kc.out hb3
  clear Ka Kb Kc hb3
  obtain ⟨ya0, ya1, ya2⟩ := part_at ka
  obtain ⟨yb0, yb1, yb2⟩ := part_at kb
  obtain ⟨yc0, yc1, yc2⟩ := part_at kc
  have Ka := Lib.hid ka
  have Kb := Lib.hid kb
  have Kc := Lib.hid kc
  clear ka kb kc
  go_wp2_with fail
  clear ya0 ya1 ya2 yb0 yb1 yb2 yc0 yc1 yc2
  exact bodyPost_ret (v := .bool true) (by simp [results, Tryz.results4, go_sem]) rfl ⟨rfl, Hw3.out⟩

set_option maxRecDepth 100000 in
set_option maxHeartbeats 8000000 in
theorem field_b (a1 a2 b1 b2 c1 c2 : ByteArray) (hall : ([(a1, a2), (b1, b2), (c1, c2)] : List P2).all (shortP 60) = true) (ha : okP (a1, a2) = true) (hb : okP (b1, b2) = false) (w : World) (ht : Tens w) (h0 : 0 < w.heap.size) :
    Calls Tryz.prog 4 #[.agg #[.string a1, .string a2], .agg #[.string b1, .string b2], .agg #[.string c1, .string c2]] w fun e w' => e = .returned (.bool true) ∧ Below w.heap.size w w' := by
  have HT : ∀ W, Below w.heap.size w W → Tens W := fun W hW j hj => cell_later hW (ht j hj)
  have HAL : Hid (∀ W, Below w.heap.size w W → Calls Tryz.prog 20 #[] W fun e w' => e = .returned (.bool true) ∧ Below W.heap.size W w') := Lib.hid fun W hW => alive_any W (HT W hW) (by have := hW.size; omega)
  have h3 : shortP 60 (a1, a2) = true ∧ shortP 60 (b1, b2) = true ∧ shortP 60 (c1, c2) = true := by simpa only [List.all_cons, List.all_nil, Bool.and_true, Bool.and_eq_true] using hall
  have U0 := useChk HT ha
  have U1 := useChkNo HT hb h3.2.1
  have HALL := Lib.hid hall
  clear hall h3 ha hb HT ht
  obtain ⟨V1, hV1⟩ : ∃ W, W = w.alloc (.cells #[.string a1, .string a2] 24) := ⟨_, rfl⟩
  obtain ⟨V2, hV2⟩ : ∃ W, W = V1.alloc (.cells #[.string b1, .string b2] 24) := ⟨_, rfl⟩
  obtain ⟨V3, hV3⟩ : ∃ W, W = V2.alloc (.cells #[.string c1, .string c2] 24) := ⟨_, rfl⟩
  have v01 : Below w.heap.size w V1 := by rw [hV1]; exact (Below.refl _ _).alloc (Nat.le_refl _) _
  have v12 : Below V1.heap.size V1 V2 := by rw [hV2]; exact (Below.refl _ _).alloc (Nat.le_refl _) _
  have v23 : Below V2.heap.size V2 V3 := by rw [hV3]; exact (Below.refl _ _).alloc (Nat.le_refl _) _
  have z1 : V1.heap.size = w.heap.size + 1 := by rw [hV1, World.size_alloc]
  have z2 : V2.heap.size = w.heap.size + 1 + 1 := by rw [hV2, World.size_alloc, z1]
  have ka : V3.heap[w.heap.size]? = some (partO a1 a2) := part_on (part_on (by rw [hV1]; exact Go.Deep.blk_alloc_new _ _) v12) v23
  have kb : V3.heap[w.heap.size + 1]? = some (partO b1 b2) := part_on (by rw [← z1, hV2]; exact Go.Deep.blk_alloc_new _ _) v23
  have kc : V3.heap[w.heap.size + 1 + 1]? = some (partO c1 c2) := by rw [← z2, hV3]; exact Go.Deep.blk_alloc_new _ _
  have HB := Lib.hid (v01.trans ((below_chain v12 v23).mono v01.size))
  have HV1 := Lib.hid hV1; have HV2 := Lib.hid hV2; have HV3 := Lib.hid hV3; have Ka := Lib.hid ka; have Kb := Lib.hid kb; have Kc := Lib.hid kc
  clear hV1 hV2 hV3 v01 v12 v23 z1 z2 ka kb kc
  go_enter Tryz.func4, Tryz.ntmps4
  go_wp2_with fail
  rw [← HV1.out, ← HV2.out, ← HV3.out]
  refine (HAL.out V3 HB.out).mono ?_
  rintro e w1 ⟨rfl, hb1⟩
  have Hw1 := Lib.hid (HB.out.trans (hb1.mono HB.out.size))
  have ka := part_on Ka.out hb1
  have kb := part_on Kb.out hb1
  have kc := part_on Kc.out hb1
  clear Ka Kb Kc hb1
  obtain ⟨ya0, ya1, ya2⟩ := part_at ka
  obtain ⟨yb0, yb1, yb2⟩ := part_at kb
  obtain ⟨yc0, yc1, yc2⟩ := part_at kc
  obtain ⟨W1, hW1⟩ : ∃ W, W = w1.alloc (.cells #[.string a1, .string a2, .string b1, .string b2, .string c1, .string c2] 24) := ⟨_, rfl⟩
  have bb : Below w1.heap.size w1 W1 := by rw [hW1]; exact (Below.refl _ _).alloc (Nat.le_refl _) _
  have Ka := Lib.hid (part_on ka bb)
  have Kb := Lib.hid (part_on kb bb)
  have Kc := Lib.hid (part_on kc bb)
  have HW1 := Lib.hid (Hw1.out.trans (bb.mono Hw1.out.size))
  have kk : W1.heap[w1.heap.size]? = some (.cells #[.string a1, .string a2, .string b1, .string b2, .string c1, .string c2] 24 (0, 0)) := by rw [hW1]; exact Go.Deep.blk_alloc_new _ _
  have KK := Lib.hid kk
  clear kk
  have HEW1 := Lib.hid hW1
  clear bb hW1 ka kb kc
  go_wp2_with fail
  rw [← HEW1.out]
  clear ya0 ya1 ya2 yb0 yb1 yb2 yc0 yc1 yc2
  have hsh := short_any 60 [(a1, a2), (b1, b2), (c1, c2)] (.slice (some ⟨w1.heap.size, 0, none⟩) 3 3) W1 (.inr ⟨w1.heap.size, 0, 3, rfl, by simp, by decide, (Array.getElem?_eq_some_iff.1 KK.out).1, fun i hi => by
    match i, hi with
    | 0, _ => exact ⟨by rw [set_cells KK.out]; rfl, by rw [set_cells KK.out]; rfl⟩
    | 1, _ => exact ⟨by rw [set_cells KK.out]; rfl, by rw [set_cells KK.out]; rfl⟩
    | 2, _ => exact ⟨by rw [set_cells KK.out]; rfl, by rw [set_cells KK.out]; rfl⟩⟩) (by simp) (by decide)
  rw [HALL.out] at hsh
  have HSHORT := Lib.hid hsh
  clear hsh KK
  refine (HSHORT.out).mono ?_
  rintro e w2 ⟨rfl, hb2⟩
  have Hw2 := Lib.hid (HW1.out.trans (hb2.mono HW1.out.size))
  have ka := part_on Ka.out hb2
  have kb := part_on Kb.out hb2
  have kc := part_on Kc.out hb2
  clear Ka Kb Kc hb2
  obtain ⟨ya0, ya1, ya2⟩ := part_at ka
  obtain ⟨yb0, yb1, yb2⟩ := part_at kb
  obtain ⟨yc0, yc1, yc2⟩ := part_at kc
  have Ka := Lib.hid ka
  have Kb := Lib.hid kb
  have Kc := Lib.hid kc
  clear ka kb kc
  go_wp2_with fail
  clear ya0 ya1 ya2 yb0 yb1 yb2 yc0 yc1 yc2
  refine (U0.out w2 Hw2.out).mono ?_
  rintro e w3 ⟨rfl, hb3⟩
  have Hw3 := Lib.hid (Hw2.out.trans (hb3.mono Hw2.out.size))
  have ka := part_on Ka.out hb3
  have kb := part_on Kb.out hb3
  have kc := part_on Kc.out hb3
  clear Ka Kb Kc hb3
  obtain ⟨ya0, ya1, ya2⟩ := part_at ka
  obtain ⟨yb0, yb1, yb2⟩ := part_at kb
  obtain ⟨yc0, yc1, yc2⟩ := part_at kc
  have Ka := Lib.hid ka
  have Kb := Lib.hid kb
  have Kc := Lib.hid kc
  clear ka kb kc
  go_wp2_with fail
  clear ya0 ya1 ya2 yb0 yb1 yb2 yc0 yc1 yc2
  refine (U1.out w3 Hw3.out).mono ?_
  rintro e w4 ⟨rfl, hb4⟩
  have Hw4 := Lib.hid (Hw3.out.trans (hb4.mono Hw3.out.size))
  have ka := part_on Ka.out hb4
  have kb := part_on Kb.out hb4
  have kc := part_on Kc.out hb4
  clear Ka Kb Kc hb4
  obtain ⟨ya0, ya1, ya2⟩ := part_at ka
  obtain ⟨yb0, yb1, yb2⟩ := part_at kb
  obtain ⟨yc0, yc1, yc2⟩ := part_at kc
  have Ka := Lib.hid ka
  have Kb := Lib.hid kb
  have Kc := Lib.hid kc
  clear ka kb kc
  go_wp2_with fail
  clear ya0 ya1 ya2 yb0 yb1 yb2 yc0 yc1 yc2
  exact bodyPost_ret (v := .bool true) (by simp [results, Tryz.results4, go_sem]) rfl ⟨rfl, Hw4.out⟩

set_option maxRecDepth 100000 in
set_option maxHeartbeats 8000000 in
theorem field_c (a1 a2 b1 b2 c1 c2 : ByteArray) (hall : ([(a1, a2), (b1, b2), (c1, c2)] : List P2).all (shortP 60) = true) (ha : okP (a1, a2) = true) (hb : okP (b1, b2) = true) (hc : okP (c1, c2) = false) (w : World) (ht : Tens w) (h0 : 0 < w.heap.size) :
    Calls Tryz.prog 4 #[.agg #[.string a1, .string a2], .agg #[.string b1, .string b2], .agg #[.string c1, .string c2]] w fun e w' => e = .returned (.bool true) ∧ Below w.heap.size w w' := by
  have HT : ∀ W, Below w.heap.size w W → Tens W := fun W hW j hj => cell_later hW (ht j hj)
  have HAL : Hid (∀ W, Below w.heap.size w W → Calls Tryz.prog 20 #[] W fun e w' => e = .returned (.bool true) ∧ Below W.heap.size W w') := Lib.hid fun W hW => alive_any W (HT W hW) (by have := hW.size; omega)
  have h3 : shortP 60 (a1, a2) = true ∧ shortP 60 (b1, b2) = true ∧ shortP 60 (c1, c2) = true := by simpa only [List.all_cons, List.all_nil, Bool.and_true, Bool.and_eq_true] using hall
  have U0 := useChk HT ha
  have U1 := useChk HT hb
  have U2 := useChkNo HT hc h3.2.2
  have HALL := Lib.hid hall
  clear hall h3 ha hb hc HT ht
  obtain ⟨V1, hV1⟩ : ∃ W, W = w.alloc (.cells #[.string a1, .string a2] 24) := ⟨_, rfl⟩
  obtain ⟨V2, hV2⟩ : ∃ W, W = V1.alloc (.cells #[.string b1, .string b2] 24) := ⟨_, rfl⟩
  obtain ⟨V3, hV3⟩ : ∃ W, W = V2.alloc (.cells #[.string c1, .string c2] 24) := ⟨_, rfl⟩
  have v01 : Below w.heap.size w V1 := by rw [hV1]; exact (Below.refl _ _).alloc (Nat.le_refl _) _
  have v12 : Below V1.heap.size V1 V2 := by rw [hV2]; exact (Below.refl _ _).alloc (Nat.le_refl _) _
  have v23 : Below V2.heap.size V2 V3 := by rw [hV3]; exact (Below.refl _ _).alloc (Nat.le_refl _) _
  have z1 : V1.heap.size = w.heap.size + 1 := by rw [hV1, World.size_alloc]
  have z2 : V2.heap.size = w.heap.size + 1 + 1 := by rw [hV2, World.size_alloc, z1]
  have ka : V3.heap[w.heap.size]? = some (partO a1 a2) := part_on (part_on (by rw [hV1]; exact Go.Deep.blk_alloc_new _ _) v12) v23
  have kb : V3.heap[w.heap.size + 1]? = some (partO b1 b2) := part_on (by rw [← z1, hV2]; exact Go.Deep.blk_alloc_new _ _) v23
  have kc : V3.heap[w.heap.size + 1 + 1]? = some (partO c1 c2) := by rw [← z2, hV3]; exact Go.Deep.blk_alloc_new _ _
  have HB := Lib.hid (v01.trans ((below_chain v12 v23).mono v01.size))
  have HV1 := Lib.hid hV1; have HV2 := Lib.hid hV2; have HV3 := Lib.hid hV3; have Ka := Lib.hid ka; have Kb := Lib.hid kb; have Kc := Lib.hid kc
  clear hV1 hV2 hV3 v01 v12 v23 z1 z2 ka kb kc
  go_enter Tryz.func4, Tryz.ntmps4
  go_wp2_with fail
  rw [← HV1.out, ← HV2.out, ← HV3.out]
  refine (HAL.out V3 HB.out).mono ?_
  rintro e w1 ⟨rfl, hb1⟩
  have Hw1 := Lib.hid (HB.out.trans (hb1.mono HB.out.size))
  have ka := part_on Ka.out hb1
  have kb := part_on Kb.out hb1
  have kc := part_on Kc.out hb1
  clear Ka Kb Kc hb1
  obtain ⟨ya0, ya1, ya2⟩ := part_at ka
  obtain ⟨yb0, yb1, yb2⟩ := part_at kb
  obtain ⟨yc0, yc1, yc2⟩ := part_at kc
  obtain ⟨W1, hW1⟩ : ∃ W, W = w1.alloc (.cells #[.string a1, .string a2, .string b1, .string b2, .string c1, .string c2] 24) := ⟨_, rfl⟩
  have bb : Below w1.heap.size w1 W1 := by rw [hW1]; exact (Below.refl _ _).alloc (Nat.le_refl _) _
  have Ka := Lib.hid (part_on ka bb)
  have Kb := Lib.hid (part_on kb bb)
  have Kc := Lib.hid (part_on kc bb)
  have HW1 := Lib.hid (Hw1.out.trans (bb.mono Hw1.out.size))
  have kk : W1.heap[w1.heap.size]? = some (.cells #[.string a1, .string a2, .string b1, .string b2, .string c1, .string c2] 24 (0, 0)) := by rw [hW1]; exact Go.Deep.blk_alloc_new _ _
  have KK := Lib.hid kk
  clear kk
  have HEW1 := Lib.hid hW1
  clear bb hW1 ka kb kc
  go_wp2_with fail
  rw [← HEW1.out]
  clear ya0 ya1 ya2 yb0 yb1 yb2 yc0 yc1 yc2
  have hsh := short_any 60 [(a1, a2), (b1, b2), (c1, c2)] (.slice (some ⟨w1.heap.size, 0, none⟩) 3 3) W1 (.inr ⟨w1.heap.size, 0, 3, rfl, by simp, by decide, (Array.getElem?_eq_some_iff.1 KK.out).1, fun i hi => by
    match i, hi with
    | 0, _ => exact ⟨by rw [set_cells KK.out]; rfl, by rw [set_cells KK.out]; rfl⟩
    | 1, _ => exact ⟨by rw [set_cells KK.out]; rfl, by rw [set_cells KK.out]; rfl⟩
    | 2, _ => exact ⟨by rw [set_cells KK.out]; rfl, by rw [set_cells KK.out]; rfl⟩⟩) (by simp) (by decide)
  rw [HALL.out] at hsh
  have HSHORT := Lib.hid hsh
  clear hsh KK
  refine (HSHORT.out).mono ?_
  rintro e w2 ⟨rfl, hb2⟩
  have Hw2 := Lib.hid (HW1.out.trans (hb2.mono HW1.out.size))
  have ka := part_on Ka.out hb2
  have kb := part_on Kb.out hb2
  have kc := part_on Kc.out hb2
  clear Ka Kb Kc hb2
  obtain ⟨ya0, ya1, ya2⟩ := part_at ka
  obtain ⟨yb0, yb1, yb2⟩ := part_at kb
  obtain ⟨yc0, yc1, yc2⟩ := part_at kc
  have Ka := Lib.hid ka
  have Kb := Lib.hid kb
  have Kc := Lib.hid kc
  clear ka kb kc
  go_wp2_with fail
  clear ya0 ya1 ya2 yb0 yb1 yb2 yc0 yc1 yc2
  refine (U0.out w2 Hw2.out).mono ?_
  rintro e w3 ⟨rfl, hb3⟩
  have Hw3 := Lib.hid (Hw2.out.trans (hb3.mono Hw2.out.size))
  have ka := part_on Ka.out hb3
  have kb := part_on Kb.out hb3
  have kc := part_on Kc.out hb3
  clear Ka Kb Kc hb3
  obtain ⟨ya0, ya1, ya2⟩ := part_at ka
  obtain ⟨yb0, yb1, yb2⟩ := part_at kb
  obtain ⟨yc0, yc1, yc2⟩ := part_at kc
  have Ka := Lib.hid ka
  have Kb := Lib.hid kb
  have Kc := Lib.hid kc
  clear ka kb kc
  go_wp2_with fail
  clear ya0 ya1 ya2 yb0 yb1 yb2 yc0 yc1 yc2
  refine (U1.out w3 Hw3.out).mono ?_
  rintro e w4 ⟨rfl, hb4⟩
  have Hw4 := Lib.hid (Hw3.out.trans (hb4.mono Hw3.out.size))
  have ka := part_on Ka.out hb4
  have kb := part_on Kb.out hb4
  have kc := part_on Kc.out hb4
  clear Ka Kb Kc hb4
  obtain ⟨ya0, ya1, ya2⟩ := part_at ka
  obtain ⟨yb0, yb1, yb2⟩ := part_at kb
  obtain ⟨yc0, yc1, yc2⟩ := part_at kc
  have Ka := Lib.hid ka
  have Kb := Lib.hid kb
  have Kc := Lib.hid kc
  clear ka kb kc
  go_wp2_with fail
  clear ya0 ya1 ya2 yb0 yb1 yb2 yc0 yc1 yc2
  refine (U2.out w4 Hw4.out).mono ?_
  rintro e w5 ⟨rfl, hb5⟩
  have Hw5 := Lib.hid (Hw4.out.trans (hb5.mono Hw4.out.size))
  have ka := part_on Ka.out hb5
  have kb := part_on Kb.out hb5
  have kc := part_on Kc.out hb5
  clear Ka Kb Kc hb5
  obtain ⟨ya0, ya1, ya2⟩ := part_at ka
  obtain ⟨yb0, yb1, yb2⟩ := part_at kb
  obtain ⟨yc0, yc1, yc2⟩ := part_at kc
  have Ka := Lib.hid ka
  have Kb := Lib.hid kb
  have Kc := Lib.hid kc
  clear ka kb kc
  go_wp2_with fail
  clear ya0 ya1 ya2 yb0 yb1 yb2 yc0 yc1 yc2
  exact bodyPost_ret (v := .bool true) (by simp [results, Tryz.results4, go_sem]) rfl ⟨rfl, Hw5.out⟩
end Go.Proofs.YtkggfeemjabdeaaGreatDoor.Wc
end
section
namespace Go.Proofs.YtkggfeemjabdeaaGreatDoor.Wc
open Go Go.Proofs.YtkggfeemjabdeaaGreatDoor.Sx Go.RowKit

theorem field_any (a1 a2 b1 b2 c1 c2 : ByteArray) (w : World) (ht : Tens w) (h0 : 0 < w.heap.size) :
    Calls Tryz.prog 4 #[.agg #[.string a1, .string a2], .agg #[.string b1, .string b2], .agg #[.string c1, .string c2]] w fun e w' => e = .returned (.bool true) ∧ Below w.heap.size w w' := by
  cases hall : ([(a1, a2), (b1, b2), (c1, c2)] : List P2).all (shortP 60) with
  | false => exact field_short a1 a2 b1 b2 c1 c2 hall w ht h0
  | true =>
    cases ha : okP (a1, a2) with
    | false => exact field_a a1 a2 b1 b2 c1 c2 hall ha w ht h0
    | true =>
      cases hb : okP (b1, b2) with
      | false => exact field_b a1 a2 b1 b2 c1 c2 hall ha hb w ht h0
      | true =>
        cases hc : okP (c1, c2) with
        | false => exact field_c a1 a2 b1 b2 c1 c2 hall ha hb hc w ht h0
        | true =>
          have h3 : shortP 60 (a1, a2) = true ∧ shortP 60 (b1, b2) = true ∧ shortP 60 (c1, c2) = true := by simpa only [List.all_cons, List.all_nil, Bool.and_true, Bool.and_eq_true] using hall
          exact field_ok a1 a2 b1 b2 c1 c2 ha hb hc h3.1 h3.2.1 h3.2.2 w ht h0
end Go.Proofs.YtkggfeemjabdeaaGreatDoor.Wc
end
