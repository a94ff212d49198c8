/- WeightField: what it looks away from. WeightOrders: what it looks away from. WeightOrders: the main path. WeightOrders returns true for any three parts. -/
import Derived.Test.YtkggfeemjabdeaaGreatDoorPa30
import Derived.Test.YtkggfeemjabdeaaGreatDoorPa31
section
namespace Go.Proofs.YtkggfeemjabdeaaGreatDoor.Wc
open Go Go.Proofs.YtkggfeemjabdeaaGreatDoor.Sx Go.RowKit

theorem useChkNo {w : World} (HT : ∀ W, Below w.heap.size w W → Tens W) {a1 a2 : ByteArray} (ha : okP (a1, a2) = false) (hs : shortP 60 (a1, a2) = true) : Hid (∀ W, Below w.heap.size w W → Calls Tryz.prog 22 #[.agg #[.string a1, .string a2]] W fun e w' => e = .returned (.int .i64 2) ∧ Below W.heap.size W w') := Lib.hid fun W hW => by
  have sh : a1.size ≤ 60 ∧ a2.size ≤ 60 := by unfold shortP at hs; simpa using hs
  have k := Check_any (a1, a2) W ⟨Nat.le_trans sh.1 (by decide), Nat.le_trans sh.2 (by decide)⟩ (HT W hW)
  have e : chkS (a1, a2) = 2 := by unfold chkS; rw [ha]; rfl
  rw [e] at k; exact k


set_option maxRecDepth 100000 in
set_option maxHeartbeats 8000000 in
theorem field_short (a1 a2 b1 b2 c1 c2 : ByteArray) (hsh : ([(a1, a2), (b1, b2), (c1, c2)] : List P2).all (shortP 60) = false) (w : World) (ht : Tens w) (h0 : 0 < w.heap.size) :
    Calls Tryz.prog 4 #[.agg #[.string a1, .string a2], .agg #[.string b1, .string b2], .agg #[.string c1, .string c2]] w fun e w' => e = .returned (.bool true) ∧ Below w.heap.size w w' := by
  have HT : ∀ W, Below w.heap.size w W → Tens W := fun W hW j hj => cell_later hW (ht j hj)
  have HAL : Hid (∀ W, Below w.heap.size w W → Calls Tryz.prog 20 #[] W fun e w' => e = .returned (.bool true) ∧ Below W.heap.size W w') := Lib.hid fun W hW => alive_any W (HT W hW) (by have := hW.size; omega)
  have HALL := Lib.hid hsh
  clear hsh HT ht
  obtain ⟨V1, hV1⟩ : ∃ W, W = w.alloc (.cells #[.string a1, .string a2] 24) := ⟨_, rfl⟩
  obtain ⟨V2, hV2⟩ : ∃ W, W = V1.alloc (.cells #[.string b1, .string b2] 24) := ⟨_, rfl⟩
  obtain ⟨V3, hV3⟩ : ∃ W, W = V2.alloc (.cells #[.string c1, .string c2] 24) := ⟨_, rfl⟩
  have v01 : Below w.heap.size w V1 := by rw [hV1]; exact (Below.refl _ _).alloc (Nat.le_refl _) _
  have v12 : Below V1.heap.size V1 V2 := by rw [hV2]; exact (Below.refl _ _).alloc (Nat.le_refl _) _
  have v23 : Below V2.heap.size V2 V3 := by rw [hV3]; exact (Below.refl _ _).alloc (Nat.le_refl _) _
  have z1 : V1.heap.size = w.heap.size + 1 := by rw [hV1, World.size_alloc]
  have z2 : V2.heap.size = w.heap.size + 1 + 1 := by rw [hV2, World.size_alloc, z1]
  have ka : V3.heap[w.heap.size]? = some (partO a1 a2) := part_on (part_on (by rw [hV1]; exact Go.Deep.blk_alloc_new _ _) v12) v23
  have kb : V3.heap[w.heap.size + 1]? = some (partO b1 b2) := part_on (by rw [← z1, hV2]; exact Go.Deep.blk_alloc_new _ _) v23
  have kc : V3.heap[w.heap.size + 1 + 1]? = some (partO c1 c2) := by rw [← z2, hV3]; exact Go.Deep.blk_alloc_new _ _
  have HB := Lib.hid (v01.trans ((below_chain v12 v23).mono v01.size))
  have HV1 := Lib.hid hV1; have HV2 := Lib.hid hV2; have HV3 := Lib.hid hV3; have Ka := Lib.hid ka; have Kb := Lib.hid kb; have Kc := Lib.hid kc
  clear hV1 hV2 hV3 v01 v12 v23 z1 z2 ka kb kc
  go_enter Tryz.func4, Tryz.ntmps4
  go_wp2_with fail
  rw [← HV1.out, ← HV2.out, ← HV3.out]
  refine (HAL.out V3 HB.out).mono ?_
  rintro e w1 ⟨rfl, hb1⟩
  have Hw1 := Lib.hid (HB.out.trans (hb1.mono HB.out.size))
  have ka := part_on Ka.out hb1
  have kb := part_on Kb.out hb1
  have kc := part_on Kc.out hb1
  clear Ka Kb Kc hb1
  obtain ⟨ya0, ya1, ya2⟩ := part_at ka
  obtain ⟨yb0, yb1, yb2⟩ := part_at kb
  obtain ⟨yc0, yc1, yc2⟩ := part_at kc
  obtain ⟨W1, hW1⟩ : ∃ W, W = w1.alloc (.cells #[.string a1, .string a2, .string b1, .string b2, .string c1, .string c2] 24) := ⟨_, rfl⟩
  have bb : Below w1.heap.size w1 W1 := by rw [hW1]; exact (Below.refl _ _).alloc (Nat.le_refl _) _
  have Ka := Lib.hid (part_on ka bb)
  have Kb := Lib.hid (part_on kb bb)
  have Kc := Lib.hid (part_on kc bb)
  have HW1 := Lib.hid (Hw1.out.trans (bb.mono Hw1.out.size))
  have kk : W1.heap[w1.heap.size]? = some (.cells #[.string a1, .string a2, .string b1, .string b2, .string c1, .string c2] 24 (0, 0)) := by rw [hW1]; exact Go.Deep.blk_alloc_new _ _
  have KK := Lib.hid kk
  clear kk
  have HEW1 := Lib.hid hW1
  clear bb hW1 ka kb kc
  go_wp2_with fail
  rw [← HEW1.out]
  clear ya0 ya1 ya2 yb0 yb1 yb2 yc0 yc1 yc2
  have hsh := short_any 60 [(a1, a2), (b1, b2), (c1, c2)] (.slice (some ⟨w1.heap.size, 0, none⟩) 3 3) W1 (.inr ⟨w1.heap.size, 0, 3, rfl, by simp, by decide, (Array.getElem?_eq_some_iff.1 KK.out).1, fun i hi => by
    match i, hi with
    | 0, _ => exact ⟨by rw [set_cells KK.out]; rfl, by rw [set_cells KK.out]; rfl⟩
    | 1, _ => exact ⟨by rw [set_cells KK.out]; rfl, by rw [set_cells KK.out]; rfl⟩
    | 2, _ => exact ⟨by rw [set_cells KK.out]; rfl, by rw [set_cells KK.out]; rfl⟩⟩) (by simp) (by decide)
  rw [HALL.out] at hsh
  have HSHORT := Lib.hid hsh
  clear hsh KK
  refine (HSHORT.out).mono ?_
  rintro e w2 ⟨rfl, hb2⟩
  have Hw2 := Lib.hid (HW1.out.trans (hb2.mono HW1.out.size))
  have ka := part_on Ka.out hb2
  have kb := part_on Kb.out hb2
  have kc := part_on Kc.out hb2
  clear Ka Kb Kc hb2
  obtain ⟨ya0, ya1, ya2⟩ := part_at ka
  obtain ⟨yb0, yb1, yb2⟩ := part_at kb
  obtain ⟨yc0, yc1, yc2⟩ := part_at kc
  have Ka := Lib.hid ka
  have Kb := Lib.hid kb
  have Kc := Lib.hid kc
  clear ka kb kc
  go_wp2_with fail
  clear ya0 ya1 ya2 yb0 yb1 yb2 yc0 yc1 yc2
  exact bodyPost_ret (v := .bool true) (by simp [results, Tryz.results4, go_sem]) rfl ⟨rfl, Hw2.out⟩

set_option maxRecDepth 100000 in
set_option maxHeartbeats 8000000 in
theorem field_a (a1 a2 b1 b2 c1 c2 : ByteArray) (hall : ([(a1, a2), (b1, b2), (c1, c2)] : List P2).all (shortP 60) = true) (ha : okP (a1, a2) = false) (w : World) (ht : Tens w) (h0 : 0 < w.heap.size) :
    Calls Tryz.prog 4 #[.agg #[.string a1, .string a2], .agg #[.string b1, .string b2], .agg #[.string c1, .string c2]] w fun e w' => e = .returned (.bool true) ∧ Below w.heap.size w w' := by
  have HT : ∀ W, Below w.heap.size w W → Tens W := fun W hW j hj => cell_later hW (ht j hj)
  have HAL : Hid (∀ W, Below w.heap.size w W → Calls Tryz.prog 20 #[] W fun e w' => e = .returned (.bool true) ∧ Below W.heap.size W w') := Lib.hid fun W hW => alive_any W (HT W hW) (by have := hW.size; omega)
  have h3 : shortP 60 (a1, a2) = true ∧ shortP 60 (b1, b2) = true ∧ shortP 60 (c1, c2) = true := by simpa only [List.all_cons, List.all_nil, Bool.and_true, Bool.and_eq_true] using hall
  have U0 := useChkNo HT ha h3.1
  have HALL := Lib.hid hall
  clear hall h3 ha HT ht
  obtain ⟨V1, hV1⟩ : ∃ W, W = w.alloc (.cells #[.string a1, .string a2] 24) := ⟨_, rfl⟩
  obtain ⟨V2, hV2⟩ : ∃ W, W = V1.alloc (.cells #[.string b1, .string b2] 24) := ⟨_, rfl⟩
  obtain ⟨V3, hV3⟩ : ∃ W, W = V2.alloc (.cells #[.string c1, .string c2] 24) := ⟨_, rfl⟩
  have v01 : Below w.heap.size w V1 := by rw [hV1]; exact (Below.refl _ _).alloc (Nat.le_refl _) _
  have v12 : Below V1.heap.size V1 V2 := by rw [hV2]; exact (Below.refl _ _).alloc (Nat.le_refl _) _
  have v23 : Below V2.heap.size V2 V3 := by rw [hV3]; exact (Below.refl _ _).alloc (Nat.le_refl _) _
  have z1 : V1.heap.size = w.heap.size + 1 := by rw [hV1, World.size_alloc]
  have z2 : V2.heap.size = w.heap.size + 1 + 1 := by rw [hV2, World.size_alloc, z1]
  have ka : V3.heap[w.heap.size]? = some (partO a1 a2) := part_on (part_on (by rw [hV1]; exact Go.Deep.blk_alloc_new _ _) v12) v23
  have kb : V3.heap[w.heap.size + 1]? = some (partO b1 b2) := part_on (by rw [← z1, hV2]; exact Go.Deep.blk_alloc_new _ _) v23
  have kc : V3.heap[w.heap.size + 1 + 1]? = some (partO c1 c2) := by rw [← z2, hV3]; exact Go.Deep.blk_alloc_new _ _
  have HB := Lib.hid (v01.trans ((below_chain v12 v23).mono v01.size))
  have HV1 := Lib.hid hV1; have HV2 := Lib.hid hV2; have HV3 := Lib.hid hV3; have Ka := Lib.hid ka; have Kb := Lib.hid kb; have Kc := Lib.hid kc
  clear hV1 hV2 hV3 v01 v12 v23 z1 z2 ka kb kc
  go_enter Tryz.func4, Tryz.ntmps4
  go_wp2_with fail
  rw [← HV1.out, ← HV2.out, ← HV3.out]
  refine (HAL.out V3 HB.out).mono ?_
  rintro e w1 ⟨rfl, hb1⟩
  have Hw1 := Lib.hid (HB.out.trans (hb1.mono HB.out.size))
  have ka := part_on Ka.out hb1
  have kb := part_on Kb.out hb1
  have kc := part_on Kc.out hb1
  clear Ka Kb Kc hb1
  obtain ⟨ya0, ya1, ya2⟩ := part_at ka
  obtain ⟨yb0, yb1, yb2⟩ := part_at kb
  obtain ⟨yc0, yc1, yc2⟩ := part_at kc
  obtain ⟨W1, hW1⟩ : ∃ W, W = w1.alloc (.cells #[.string a1, .string a2, .string b1, .string b2, .string c1, .string c2] 24) := ⟨_, rfl⟩
  have bb : Below w1.heap.size w1 W1 := by rw [hW1]; exact (Below.refl _ _).alloc (Nat.le_refl _) _
  have Ka := Lib.hid (part_on ka bb)
  have Kb := Lib.hid (part_on kb bb)
  have Kc := Lib.hid (part_on kc bb)
  have HW1 := Lib.hid (Hw1.out.trans (bb.mono Hw1.out.size))
  have kk : W1.heap[w1.heap.size]? = some (.cells #[.string a1, .string a2, .string b1, .string b2, .string c1, .string c2] 24 (0, 0)) := by rw [hW1]; exact Go.Deep.blk_alloc_new _ _
  have KK := Lib.hid kk
  clear kk
  have HEW1 := Lib.hid hW1
  clear bb hW1 ka kb kc
  go_wp2_with fail
  rw [← HEW1.out]
  clear ya0 ya1 ya2 yb0 yb1 yb2 yc0 yc1 yc2
  have hsh := short_any 60 [(a1, a2), (b1, b2), (c1, c2)] (.slice (some ⟨w1.heap.size, 0, none⟩) 3 3) W1 (.inr ⟨w1.heap.size, 0, 3, rfl, by simp, by decide, (Array.getElem?_eq_some_iff.1 KK.out).1, fun i hi => by
    match i, hi with
    | 0, _ => exact ⟨by rw [set_cells KK.out]; rfl, by rw [set_cells KK.out]; rfl⟩
    | 1, _ => exact ⟨by rw [set_cells KK.out]; rfl, by rw [set_cells KK.out]; rfl⟩
    | 2, _ => exact ⟨by rw [set_cells KK.out]; rfl, by rw [set_cells KK.out]; rfl⟩⟩) (by simp) (by decide)
  rw [HALL.out] at hsh
  have HSHORT := Lib.hid hsh
  clear hsh KK
  refine (HSHORT.out).mono ?_
  rintro e w2 ⟨rfl, hb2⟩
  have Hw2 := Lib.hid (HW1.out.trans (hb2.mono HW1.out.size))
  have ka := part_on Ka.out hb2
  have kb := part_on Kb.out hb2
  have kc := part_on Kc.out hb2
  clear Ka Kb Kc hb2
  obtain ⟨ya0, ya1, ya2⟩ := part_at ka
  obtain ⟨yb0, yb1, yb2⟩ := part_at kb
  obtain ⟨yc0, yc1, yc2⟩ := part_at kc
  have Ka := Lib.hid ka
  have Kb := Lib.hid kb
  have Kc := Lib.hid kc
  clear ka kb kc
  go_wp2_with fail
  clear ya0 ya1 ya2 yb0 yb1 yb2 yc0 yc1 yc2
  refine (U0.out w2 Hw2.out).mono ?_
  rintro e w3 ⟨rfl, hb3⟩
  have Hw3 := Lib.hid (Hw2.out.trans (hb3.mono Hw2.out.size))
  have ka := part_on Ka.out hb3
  have kb := part_on Kb.out hb3
  have kc := part_on Kc.out hb3
  clear Ka Kb Kc hb3
  obtain ⟨ya0, ya1, ya2⟩ := part_at ka
  obtain ⟨yb0, yb1, yb2⟩ := part_at kb
  obtain ⟨yc0, yc1, yc2⟩ := part_at kc
  have Ka := Lib.hid ka
  have Kb := Lib.hid kb
  have Kc := Lib.hid kc
  clear ka kb kc
  go_wp2_with fail
  clear ya0 ya1 ya2 yb0 yb1 yb2 yc0 yc1 yc2
  exact bodyPost_ret (v := .bool true) (by simp [results, Tryz.results4, go_sem]) rfl ⟨rfl, Hw3.out⟩

set_option maxRecDepth 100000 in
set_option maxHeartbeats 8000000 in
theorem field_b (a1 a2 b1 b2 c1 c2 : ByteArray) (hall : ([(a1, a2), (b1, b2), (c1, c2)] : List P2).all (shortP 60) = true) (ha : okP (a1, a2) = true) (hb : okP (b1, b2) = false) (w : World) (ht : Tens w) (h0 : 0 < w.heap.size) :
    Calls Tryz.prog 4 #[.agg #[.string a1, .string a2], .agg #[.string b1, .string b2], .agg #[.string c1, .string c2]] w fun e w' => e = .returned (.bool true) ∧ Below w.heap.size w w' := by
  have HT : ∀ W, Below w.heap.size w W → Tens W := fun W hW j hj => cell_later hW (ht j hj)
  have HAL : Hid (∀ W, Below w.heap.size w W → Calls Tryz.prog 20 #[] W fun e w' => e = .returned (.bool true) ∧ Below W.heap.size W w') := Lib.hid fun W hW => alive_any W (HT W hW) (by have := hW.size; omega)
  have h3 : shortP 60 (a1, a2) = true ∧ shortP 60 (b1, b2) = true ∧ shortP 60 (c1, c2) = true := by simpa only [List.all_cons, List.all_nil, Bool.and_true, Bool.and_eq_true] using hall
  have U0 := useChk HT ha
  have U1 := useChkNo HT hb h3.2.1
  have HALL := Lib.hid hall
  clear hall h3 ha hb HT ht
  obtain ⟨V1, hV1⟩ : ∃ W, W = w.alloc (.cells #[.string a1, .string a2] 24) := ⟨_, rfl⟩
  obtain ⟨V2, hV2⟩ : ∃ W, W = V1.alloc (.cells #[.string b1, .string b2] 24) := ⟨_, rfl⟩
  obtain ⟨V3, hV3⟩ : ∃ W, W = V2.alloc (.cells #[.string c1, .string c2] 24) := ⟨_, rfl⟩
  have v01 : Below w.heap.size w V1 := by rw [hV1]; exact (Below.refl _ _).alloc (Nat.le_refl _) _
  have v12 : Below V1.heap.size V1 V2 := by rw [hV2]; exact (Below.refl _ _).alloc (Nat.le_refl _) _
  have v23 : Below V2.heap.size V2 V3 := by rw [hV3]; exact (Below.refl _ _).alloc (Nat.le_refl _) _
  have z1 : V1.heap.size = w.heap.size + 1 := by rw [hV1, World.size_alloc]
  have z2 : V2.heap.size = w.heap.size + 1 + 1 := by rw [hV2, World.size_alloc, z1]
  have ka : V3.heap[w.heap.size]? = some (partO a1 a2) := part_on (part_on (by rw [hV1]; exact Go.Deep.blk_alloc_new _ _) v12) v23
  have kb : V3.heap[w.heap.size + 1]? = some (partO b1 b2) := part_on (by rw [← z1, hV2]; exact Go.Deep.blk_alloc_new _ _) v23
  have kc : V3.heap[w.heap.size + 1 + 1]? = some (partO c1 c2) := by rw [← z2, hV3]; exact Go.Deep.blk_alloc_new _ _
  have HB := Lib.hid (v01.trans ((below_chain v12 v23).mono v01.size))
  have HV1 := Lib.hid hV1; have HV2 := Lib.hid hV2; have HV3 := Lib.hid hV3; have Ka := Lib.hid ka; have Kb := Lib.hid kb; have Kc := Lib.hid kc
  clear hV1 hV2 hV3 v01 v12 v23 z1 z2 ka kb kc
  go_enter Tryz.func4, Tryz.ntmps4
  go_wp2_with fail
  rw [← HV1.out, ← HV2.out, ← HV3.out]
  refine (HAL.out V3 HB.out).mono ?_
  rintro e w1 ⟨rfl, hb1⟩
  have Hw1 := Lib.hid (HB.out.trans (hb1.mono HB.out.size))
  have ka := part_on Ka.out hb1
  have kb := part_on Kb.out hb1
  have kc := part_on Kc.out hb1
  clear Ka Kb Kc hb1
  obtain ⟨ya0, ya1, ya2⟩ := part_at ka
  obtain ⟨yb0, yb1, yb2⟩ := part_at kb
  obtain ⟨yc0, yc1, yc2⟩ := part_at kc
  obtain ⟨W1, hW1⟩ : ∃ W, W = w1.alloc (.cells #[.string a1, .string a2, .string b1, .string b2, .string c1, .string c2] 24) := ⟨_, rfl⟩
  have bb : Below w1.heap.size w1 W1 := by rw [hW1]; exact (Below.refl _ _).alloc (Nat.le_refl _) _
  have Ka := Lib.hid (part_on ka bb)
  have Kb := Lib.hid (part_on kb bb)
  have Kc := Lib.hid (part_on kc bb)
  have HW1 := Lib.hid (Hw1.out.trans (bb.mono Hw1.out.size))
  have kk : W1.heap[w1.heap.size]? = some (.cells #[.string a1, .string a2, .string b1, .string b2, .string c1, .string c2] 24 (0, 0)) := by rw [hW1]; exact Go.Deep.blk_alloc_new _ _
  have KK := Lib.hid kk
  clear kk
  have HEW1 := Lib.hid hW1
  clear bb hW1 ka kb kc
  go_wp2_with fail
  rw [← HEW1.out]
  clear ya0 ya1 ya2 yb0 yb1 yb2 yc0 yc1 yc2
  have hsh := short_any 60 [(a1, a2), (b1, b2), (c1, c2)] (.slice (some ⟨w1.heap.size, 0, none⟩) 3 3) W1 (.inr ⟨w1.heap.size, 0, 3, rfl, by simp, by decide, (Array.getElem?_eq_some_iff.1 KK.out).1, fun i hi => by
    match i, hi with
    | 0, _ => exact ⟨by rw [set_cells KK.out]; rfl, by rw [set_cells KK.out]; rfl⟩
    | 1, _ => exact ⟨by rw [set_cells KK.out]; rfl, by rw [set_cells KK.out]; rfl⟩
    | 2, _ => exact ⟨by rw [set_cells KK.out]; rfl, by rw [set_cells KK.out]; rfl⟩⟩) (by simp) (by decide)
  rw [HALL.out] at hsh
  have HSHORT := Lib.hid hsh
  clear hsh KK
  refine (HSHORT.out).mono ?_
  rintro e w2 ⟨rfl, hb2⟩
  have Hw2 := Lib.hid (HW1.out.trans (hb2.mono HW1.out.size))
  have ka := part_on Ka.out hb2
  have kb := part_on Kb.out hb2
  have kc := part_on Kc.out hb2
  clear Ka Kb Kc hb2
  obtain ⟨ya0, ya1, ya2⟩ := part_at ka
  obtain ⟨yb0, yb1, yb2⟩ := part_at kb
  obtain ⟨yc0, yc1, yc2⟩ := part_at kc
  have Ka := Lib.hid ka
  have Kb := Lib.hid kb
  have Kc := Lib.hid kc
  clear ka kb kc
  go_wp2_with fail
  clear ya0 ya1 ya2 yb0 yb1 yb2 yc0 yc1 yc2
  refine (U0.out w2 Hw2.out).mono ?_
  rintro e w3 ⟨rfl, hb3⟩
  have Hw3 := Lib.hid (Hw2.out.trans (hb3.mono Hw2.out.size))
  have ka := part_on Ka.out hb3
  have kb := part_on Kb.out hb3
  have kc := part_on Kc.out hb3
  clear Ka Kb Kc hb3
  obtain ⟨ya0, ya1, ya2⟩ := part_at ka
  obtain ⟨yb0, yb1, yb2⟩ := part_at kb
  obtain ⟨yc0, yc1, yc2⟩ := part_at kc
  have Ka := Lib.hid ka
  have Kb := Lib.hid kb
  have Kc := Lib.hid kc
  clear ka kb kc
  go_wp2_with fail
  clear ya0 ya1 ya2 yb0 yb1 yb2 yc0 yc1 yc2
  refine (U1.out w3 Hw3.out).mono ?_
  rintro e w4 ⟨rfl, hb4⟩
  have Hw4 := Lib.hid (Hw3.out.trans (hb4.mono Hw3.out.size))
  have ka := part_on Ka.out hb4
  have kb := part_on Kb.out hb4
  have kc := part_on Kc.out hb4
  clear Ka Kb Kc hb4
  obtain ⟨ya0, ya1, ya2⟩ := part_at ka
  obtain ⟨yb0, yb1, yb2⟩ := part_at kb
  obtain ⟨yc0, yc1, yc2⟩ := part_at kc
  have Ka := Lib.hid ka
  have Kb := Lib.hid kb
  have Kc := Lib.hid kc
  clear ka kb kc
  go_wp2_with fail
  clear ya0 ya1 ya2 yb0 yb1 yb2 yc0 yc1 yc2
  exact bodyPost_ret (v := .bool true) (by simp [results, Tryz.results4, go_sem]) rfl ⟨rfl, Hw4.out⟩

set_option maxRecDepth 100000 in
set_option maxHeartbeats 8000000 in
theorem field_c (a1 a2 b1 b2 c1 c2 : ByteArray) (hall : ([(a1, a2), (b1, b2), (c1, c2)] : List P2).all (shortP 60) = true) (ha : okP (a1, a2) = true) (hb : okP (b1, b2) = true) (hc : okP (c1, c2) = false) (w : World) (ht : Tens w) (h0 : 0 < w.heap.size) :
    Calls Tryz.prog 4 #[.agg #[.string a1, .string a2], .agg #[.string b1, .string b2], .agg #[.string c1, .string c2]] w fun e w' => e = .returned (.bool true) ∧ Below w.heap.size w w' := by
  have HT : ∀ W, Below w.heap.size w W → Tens W := fun W hW j hj => cell_later hW (ht j hj)
  have HAL : Hid (∀ W, Below w.heap.size w W → Calls Tryz.prog 20 #[] W fun e w' => e = .returned (.bool true) ∧ Below W.heap.size W w') := Lib.hid fun W hW => alive_any W (HT W hW) (by have := hW.size; omega)
  have h3 : shortP 60 (a1, a2) = true ∧ shortP 60 (b1, b2) = true ∧ shortP 60 (c1, c2) = true := by simpa only [List.all_cons, List.all_nil, Bool.and_true, Bool.and_eq_true] using hall
  have U0 := useChk HT ha
  have U1 := useChk HT hb
  have U2 := useChkNo HT hc h3.2.2
  have HALL := Lib.hid hall
  clear hall h3 ha hb hc HT ht
  obtain ⟨V1, hV1⟩ : ∃ W, W = w.alloc (.cells #[.string a1, .string a2] 24) := ⟨_, rfl⟩
  obtain ⟨V2, hV2⟩ : ∃ W, W = V1.alloc (.cells #[.string b1, .string b2] 24) := ⟨_, rfl⟩
  obtain ⟨V3, hV3⟩ : ∃ W, W = V2.alloc (.cells #[.string c1, .string c2] 24) := ⟨_, rfl⟩
  have v01 : Below w.heap.size w V1 := by rw [hV1]; exact (Below.refl _ _).alloc (Nat.le_refl _) _
  have v12 : Below V1.heap.size V1 V2 := by rw [hV2]; exact (Below.refl _ _).alloc (Nat.le_refl _) _
  have v23 : Below V2.heap.size V2 V3 := by rw [hV3]; exact (Below.refl _ _).alloc (Nat.le_refl _) _
  have z1 : V1.heap.size = w.heap.size + 1 := by rw [hV1, World.size_alloc]
  have z2 : V2.heap.size = w.heap.size + 1 + 1 := by rw [hV2, World.size_alloc, z1]
  have ka : V3.heap[w.heap.size]? = some (partO a1 a2) := part_on (part_on (by rw [hV1]; exact Go.Deep.blk_alloc_new _ _) v12) v23
  have kb : V3.heap[w.heap.size + 1]? = some (partO b1 b2) := part_on (by rw [← z1, hV2]; exact Go.Deep.blk_alloc_new _ _) v23
  have kc : V3.heap[w.heap.size + 1 + 1]? = some (partO c1 c2) := by rw [← z2, hV3]; exact Go.Deep.blk_alloc_new _ _
  have HB := Lib.hid (v01.trans ((below_chain v12 v23).mono v01.size))
  have HV1 := Lib.hid hV1; have HV2 := Lib.hid hV2; have HV3 := Lib.hid hV3; have Ka := Lib.hid ka; have Kb := Lib.hid kb; have Kc := Lib.hid kc
  clear hV1 hV2 hV3 v01 v12 v23 z1 z2 ka kb kc
  go_enter Tryz.func4, Tryz.ntmps4
  go_wp2_with fail
  rw [← HV1.out, ← HV2.out, ← HV3.out]
  refine (HAL.out V3 HB.out).mono ?_
  rintro e w1 ⟨rfl, hb1⟩
  have Hw1 := Lib.hid (HB.out.trans (hb1.mono HB.out.size))
  have ka := part_on Ka.out hb1
  have kb := part_on Kb.out hb1
  have kc := part_on Kc.out hb1
  clear Ka Kb Kc hb1
  obtain ⟨ya0, ya1, ya2⟩ := part_at ka
  obtain ⟨yb0, yb1, yb2⟩ := part_at kb
  obtain ⟨yc0, yc1, yc2⟩ := part_at kc
  obtain ⟨W1, hW1⟩ : ∃ W, W = w1.alloc (.cells #[.string a1, .string a2, .string b1, .string b2, .string c1, .string c2] 24) := ⟨_, rfl⟩
  have bb : Below w1.heap.size w1 W1 := by rw [hW1]; exact (Below.refl _ _).alloc (Nat.le_refl _) _
  have Ka := Lib.hid (part_on ka bb)
  have Kb := Lib.hid (part_on kb bb)
  have Kc := Lib.hid (part_on kc bb)
  have HW1 := Lib.hid (Hw1.out.trans (bb.mono Hw1.out.size))
  have kk : W1.heap[w1.heap.size]? = some (.cells #[.string a1, .string a2, .string b1, .string b2, .string c1, .string c2] 24 (0, 0)) := by rw [hW1]; exact Go.Deep.blk_alloc_new _ _
  have KK := Lib.hid kk
  clear kk
  have HEW1 := Lib.hid hW1
  clear bb hW1 ka kb kc
  go_wp2_with fail
  rw [← HEW1.out]
  clear ya0 ya1 ya2 yb0 yb1 yb2 yc0 yc1 yc2
  have hsh := short_any 60 [(a1, a2), (b1, b2), (c1, c2)] (.slice (some ⟨w1.heap.size, 0, none⟩) 3 3) W1 (.inr ⟨w1.heap.size, 0, 3, rfl, by simp, by decide, (Array.getElem?_eq_some_iff.1 KK.out).1, fun i hi => by
    match i, hi with
    | 0, _ => exact ⟨by rw [set_cells KK.out]; rfl, by rw [set_cells KK.out]; rfl⟩
    | 1, _ => exact ⟨by rw [set_cells KK.out]; rfl, by rw [set_cells KK.out]; rfl⟩
    | 2, _ => exact ⟨by rw [set_cells KK.out]; rfl, by rw [set_cells KK.out]; rfl⟩⟩) (by simp) (by decide)
  rw [HALL.out] at hsh
  have HSHORT := Lib.hid hsh
  clear hsh KK
  refine (HSHORT.out).mono ?_
  rintro e w2 ⟨rfl, hb2⟩
  have Hw2 := Lib.hid (HW1.out.trans (hb2.mono HW1.out.size))
  have ka := part_on Ka.out hb2
  have kb := part_on Kb.out hb2
  have kc := part_on Kc.out hb2
  clear Ka Kb Kc hb2
  obtain ⟨ya0, ya1, ya2⟩ := part_at ka
  obtain ⟨yb0, yb1, yb2⟩ := part_at kb
  obtain ⟨yc0, yc1, yc2⟩ := part_at kc
  have Ka := Lib.hid ka
  have Kb := Lib.hid kb
  have Kc := Lib.hid kc
  clear ka kb kc
  go_wp2_with fail
  clear ya0 ya1 ya2 yb0 yb1 yb2 yc0 yc1 yc2
  refine (U0.out w2 Hw2.out).mono ?_
  rintro e w3 ⟨rfl, hb3⟩
  have Hw3 := Lib.hid (Hw2.out.trans (hb3.mono Hw2.out.size))
  have ka := part_on Ka.out hb3
  have kb := part_on Kb.out hb3
  have kc := part_on Kc.out hb3
  clear Ka Kb Kc hb3
  obtain ⟨ya0, ya1, ya2⟩ := part_at ka
  obtain ⟨yb0, yb1, yb2⟩ := part_at kb
  obtain ⟨yc0, yc1, yc2⟩ := part_at kc
  have Ka := Lib.hid ka
  have Kb := Lib.hid kb
  have Kc := Lib.hid kc
  clear ka kb kc
  go_wp2_with fail
  clear ya0 ya1 ya2 yb0 yb1 yb2 yc0 yc1 yc2
  refine (U1.out w3 Hw3.out).mono ?_
  rintro e w4 ⟨rfl, hb4⟩
  have Hw4 := Lib.hid (Hw3.out.trans (hb4.mono Hw3.out.size))
  have ka := part_on Ka.out hb4
  have kb := part_on Kb.out hb4
  have kc := part_on Kc.out hb4
  clear Ka Kb Kc hb4
  obtain ⟨ya0, ya1, ya2⟩ := part_at ka
  obtain ⟨yb0, yb1, yb2⟩ := part_at kb
  obtain ⟨yc0, yc1, yc2⟩ := part_at kc
  have Ka := Lib.hid ka
  have Kb := Lib.hid kb
  have Kc := Lib.hid kc
  clear ka kb kc
  go_wp2_with fail
  clear ya0 ya1 ya2 yb0 yb1 yb2 yc0 yc1 yc2
  refine (U2.out w4 Hw4.out).mono ?_
  rintro e w5 ⟨rfl, hb5⟩
  have Hw5 := Lib.hid (Hw4.out.trans (hb5.mono Hw4.out.size))
  have ka := part_on Ka.out hb5
  have kb := part_on Kb.out hb5
  have kc := part_on Kc.out hb5
  clear Ka Kb Kc hb5
  obtain ⟨ya0, ya1, ya2⟩ := part_at ka
  obtain ⟨yb0, yb1, yb2⟩ := part_at kb
  obtain ⟨yc0, yc1, yc2⟩ := part_at kc
  have Ka := Lib.hid ka
  have Kb := Lib.hid kb
  have Kc := Lib.hid kc
  clear ka kb kc
  go_wp2_with fail
  clear ya0 ya1 ya2 yb0 yb1 yb2 yc0 yc1 yc2
  exact bodyPost_ret (v := .bool true) (by simp [results, Tryz.results4, go_sem]) rfl ⟨rfl, Hw5.out⟩
end Go.Proofs.YtkggfeemjabdeaaGreatDoor.Wc
end
section
namespace Go.Proofs.YtkggfeemjabdeaaGreatDoor.Wc
open Go Go.Proofs.YtkggfeemjabdeaaGreatDoor.Sx Go.RowKit



set_option maxRecDepth 100000 in
set_option maxHeartbeats 8000000 in
theorem orders_short (a1 a2 b1 b2 c1 c2 : ByteArray) (hsh : ([(a1, a2), (b1, b2), (c1, c2)] : List P2).all (shortP 60) = false) (w : World) (ht : Tens w) (h0 : 0 < w.heap.size) :
    Calls Tryz.prog 5 #[.agg #[.string a1, .string a2], .agg #[.string b1, .string b2], .agg #[.string c1, .string c2]] w fun e w' => e = .returned (.bool true) ∧ Below w.heap.size w w' := by
  have HT : ∀ W, Below w.heap.size w W → Tens W := fun W hW j hj => cell_later hW (ht j hj)
  have HAL : Hid (∀ W, Below w.heap.size w W → Calls Tryz.prog 20 #[] W fun e w' => e = .returned (.bool true) ∧ Below W.heap.size W w') := Lib.hid fun W hW => alive_any W (HT W hW) (by have := hW.size; omega)
  have HALL := Lib.hid hsh
  clear hsh HT ht
  obtain ⟨V1, hV1⟩ : ∃ W, W = w.alloc (.cells #[.string a1, .string a2] 24) := ⟨_, rfl⟩
  obtain ⟨V2, hV2⟩ : ∃ W, W = V1.alloc (.cells #[.string b1, .string b2] 24) := ⟨_, rfl⟩
  obtain ⟨V3, hV3⟩ : ∃ W, W = V2.alloc (.cells #[.string c1, .string c2] 24) := ⟨_, rfl⟩
  have v01 : Below w.heap.size w V1 := by rw [hV1]; exact (Below.refl _ _).alloc (Nat.le_refl _) _
  have v12 : Below V1.heap.size V1 V2 := by rw [hV2]; exact (Below.refl _ _).alloc (Nat.le_refl _) _
  have v23 : Below V2.heap.size V2 V3 := by rw [hV3]; exact (Below.refl _ _).alloc (Nat.le_refl _) _
  have z1 : V1.heap.size = w.heap.size + 1 := by rw [hV1, World.size_alloc]
  have z2 : V2.heap.size = w.heap.size + 1 + 1 := by rw [hV2, World.size_alloc, z1]
  have ka : V3.heap[w.heap.size]? = some (partO a1 a2) := part_on (part_on (by rw [hV1]; exact Go.Deep.blk_alloc_new _ _) v12) v23
  have kb : V3.heap[w.heap.size + 1]? = some (partO b1 b2) := part_on (by rw [← z1, hV2]; exact Go.Deep.blk_alloc_new _ _) v23
  have kc : V3.heap[w.heap.size + 1 + 1]? = some (partO c1 c2) := by rw [← z2, hV3]; exact Go.Deep.blk_alloc_new _ _
  have HB := Lib.hid (v01.trans ((below_chain v12 v23).mono v01.size))
  have HV1 := Lib.hid hV1; have HV2 := Lib.hid hV2; have HV3 := Lib.hid hV3; have Ka := Lib.hid ka; have Kb := Lib.hid kb; have Kc := Lib.hid kc
  clear hV1 hV2 hV3 v01 v12 v23 z1 z2 ka kb kc
  go_enter Tryz.func5, Tryz.ntmps5
  go_wp2_with fail
  rw [← HV1.out, ← HV2.out, ← HV3.out]
  refine (HAL.out V3 HB.out).mono ?_
  rintro e w1 ⟨rfl, hb1⟩
  have Hw1 := Lib.hid (HB.out.trans (hb1.mono HB.out.size))
  have ka := part_on Ka.out hb1
  have kb := part_on Kb.out hb1
  have kc := part_on Kc.out hb1
  clear Ka Kb Kc hb1
  obtain ⟨ya0, ya1, ya2⟩ := part_at ka
  obtain ⟨yb0, yb1, yb2⟩ := part_at kb
  obtain ⟨yc0, yc1, yc2⟩ := part_at kc
  obtain ⟨W1, hW1⟩ : ∃ W, W = w1.alloc (.cells #[.string a1, .string a2, .string b1, .string b2, .string c1, .string c2] 24) := ⟨_, rfl⟩
  have bb : Below w1.heap.size w1 W1 := by rw [hW1]; exact (Below.refl _ _).alloc (Nat.le_refl _) _
  have Ka := Lib.hid (part_on ka bb)
  have Kb := Lib.hid (part_on kb bb)
  have Kc := Lib.hid (part_on kc bb)
  have HW1 := Lib.hid (Hw1.out.trans (bb.mono Hw1.out.size))
  have kk : W1.heap[w1.heap.size]? = some (.cells #[.string a1, .string a2, .string b1, .string b2, .string c1, .string c2] 24 (0, 0)) := by rw [hW1]; exact Go.Deep.blk_alloc_new _ _
  have KK := Lib.hid kk
  clear kk
  have HEW1 := Lib.hid hW1
  clear bb hW1 ka kb kc
  go_wp2_with fail
  rw [← HEW1.out]
  clear ya0 ya1 ya2 yb0 yb1 yb2 yc0 yc1 yc2
  have hsh := short_any 60 [(a1, a2), (b1, b2), (c1, c2)] (.slice (some ⟨w1.heap.size, 0, none⟩) 3 3) W1 (.inr ⟨w1.heap.size, 0, 3, rfl, by simp, by decide, (Array.getElem?_eq_some_iff.1 KK.out).1, fun i hi => by
    match i, hi with
    | 0, _ => exact ⟨by rw [set_cells KK.out]; rfl, by rw [set_cells KK.out]; rfl⟩
    | 1, _ => exact ⟨by rw [set_cells KK.out]; rfl, by rw [set_cells KK.out]; rfl⟩
    | 2, _ => exact ⟨by rw [set_cells KK.out]; rfl, by rw [set_cells KK.out]; rfl⟩⟩) (by simp) (by decide)
  rw [HALL.out] at hsh
  have HSHORT := Lib.hid hsh
  clear hsh KK
  refine (HSHORT.out).mono ?_
  rintro e w2 ⟨rfl, hb2⟩
  have Hw2 := Lib.hid (HW1.out.trans (hb2.mono HW1.out.size))
  have ka := part_on Ka.out hb2
  have kb := part_on Kb.out hb2
  have kc := part_on Kc.out hb2
  clear Ka Kb Kc hb2
  obtain ⟨ya0, ya1, ya2⟩ := part_at ka
  obtain ⟨yb0, yb1, yb2⟩ := part_at kb
  obtain ⟨yc0, yc1, yc2⟩ := part_at kc
  have Ka := Lib.hid ka
  have Kb := Lib.hid kb
  have Kc := Lib.hid kc
  clear ka kb kc
  go_wp2_with fail
  clear ya0 ya1 ya2 yb0 yb1 yb2 yc0 yc1 yc2
  exact bodyPost_ret (v := .bool true) (by simp [results, Tryz.results5, go_sem]) rfl ⟨rfl, Hw2.out⟩

set_option maxRecDepth 100000 in
set_option maxHeartbeats 8000000 in
theorem orders_a (a1 a2 b1 b2 c1 c2 : ByteArray) (hall : ([(a1, a2), (b1, b2), (c1, c2)] : List P2).all (shortP 60) = true) (ha : okP (a1, a2) = false) (w : World) (ht : Tens w) (h0 : 0 < w.heap.size) :
    Calls Tryz.prog 5 #[.agg #[.string a1, .string a2], .agg #[.string b1, .string b2], .agg #[.string c1, .string c2]] w fun e w' => e = .returned (.bool true) ∧ Below w.heap.size w w' := by
  have HT : ∀ W, Below w.heap.size w W → Tens W := fun W hW j hj => cell_later hW (ht j hj)
  have HAL : Hid (∀ W, Below w.heap.size w W → Calls Tryz.prog 20 #[] W fun e w' => e = .returned (.bool true) ∧ Below W.heap.size W w') := Lib.hid fun W hW => alive_any W (HT W hW) (by have := hW.size; omega)
  have h3 : shortP 60 (a1, a2) = true ∧ shortP 60 (b1, b2) = true ∧ shortP 60 (c1, c2) = true := by simpa only [List.all_cons, List.all_nil, Bool.and_true, Bool.and_eq_true] using hall
  have U0 := useChkNo HT ha h3.1
  have HALL := Lib.hid hall
  clear hall h3 ha HT ht
  obtain ⟨V1, hV1⟩ : ∃ W, W = w.alloc (.cells #[.string a1, .string a2] 24) := ⟨_, rfl⟩
  obtain ⟨V2, hV2⟩ : ∃ W, W = V1.alloc (.cells #[.string b1, .string b2] 24) := ⟨_, rfl⟩
  obtain ⟨V3, hV3⟩ : ∃ W, W = V2.alloc (.cells #[.string c1, .string c2] 24) := ⟨_, rfl⟩
  have v01 : Below w.heap.size w V1 := by rw [hV1]; exact (Below.refl _ _).alloc (Nat.le_refl _) _
  have v12 : Below V1.heap.size V1 V2 := by rw [hV2]; exact (Below.refl _ _).alloc (Nat.le_refl _) _
  have v23 : Below V2.heap.size V2 V3 := by rw [hV3]; exact (Below.refl _ _).alloc (Nat.le_refl _) _
  have z1 : V1.heap.size = w.heap.size + 1 := by rw [hV1, World.size_alloc]
  have z2 : V2.heap.size = w.heap.size + 1 + 1 := by rw [hV2, World.size_alloc, z1]
  have ka : V3.heap[w.heap.size]? = some (partO a1 a2) := part_on (part_on (by rw [hV1]; exact Go.Deep.blk_alloc_new _ _) v12) v23
  have kb : V3.heap[w.heap.size + 1]? = some (partO b1 b2) := part_on (by rw [← z1, hV2]; exact Go.Deep.blk_alloc_new _ _) v23
  have kc : V3.heap[w.heap.size + 1 + 1]? = some (partO c1 c2) := by rw [← z2, hV3]; exact Go.Deep.blk_alloc_new _ _
  have HB := Lib.hid (v01.trans ((below_chain v12 v23).mono v01.size))
  have HV1 := Lib.hid hV1; have HV2 := Lib.hid hV2; have HV3 := Lib.hid hV3; have Ka := Lib.hid ka; have Kb := Lib.hid kb; have Kc := Lib.hid kc
  clear hV1 hV2 hV3 v01 v12 v23 z1 z2 ka kb kc
  go_enter Tryz.func5, Tryz.ntmps5
  go_wp2_with fail
  rw [← HV1.out, ← HV2.out, ← HV3.out]
  refine (HAL.out V3 HB.out).mono ?_
  rintro e w1 ⟨rfl, hb1⟩
  have Hw1 := Lib.hid (HB.out.trans (hb1.mono HB.out.size))
  have ka := part_on Ka.out hb1
  have kb := part_on Kb.out hb1
  have kc := part_on Kc.out hb1
  clear Ka Kb Kc hb1
  obtain ⟨ya0, ya1, ya2⟩ := part_at ka
  obtain ⟨yb0, yb1, yb2⟩ := part_at kb
  obtain ⟨yc0, yc1, yc2⟩ := part_at kc
  obtain ⟨W1, hW1⟩ : ∃ W, W = w1.alloc (.cells #[.string a1, .string a2, .string b1, .string b2, .string c1, .string c2] 24) := ⟨_, rfl⟩
  have bb : Below w1.heap.size w1 W1 := by rw [hW1]; exact (Below.refl _ _).alloc (Nat.le_refl _) _
  have Ka := Lib.hid (part_on ka bb)
  have Kb := Lib.hid (part_on kb bb)
  have Kc := Lib.hid (part_on kc bb)
  have HW1 := Lib.hid (Hw1.out.trans (bb.mono Hw1.out.size))
  have kk : W1.heap[w1.heap.size]? = some (.cells #[.string a1, .string a2, .string b1, .string b2, .string c1, .string c2] 24 (0, 0)) := by rw [hW1]; exact Go.Deep.blk_alloc_new _ _
  have KK := Lib.hid kk
  clear kk
  have HEW1 := Lib.hid hW1
  clear bb hW1 ka kb kc
  go_wp2_with fail
  rw [← HEW1.out]
  clear ya0 ya1 ya2 yb0 yb1 yb2 yc0 yc1 yc2
  have hsh := short_any 60 [(a1, a2), (b1, b2), (c1, c2)] (.slice (some ⟨w1.heap.size, 0, none⟩) 3 3) W1 (.inr ⟨w1.heap.size, 0, 3, rfl, by simp, by decide, (Array.getElem?_eq_some_iff.1 KK.out).1, fun i hi => by
    match i, hi with
    | 0, _ => exact ⟨by rw [set_cells KK.out]; rfl, by rw [set_cells KK.out]; rfl⟩
    | 1, _ => exact ⟨by rw [set_cells KK.out]; rfl, by rw [set_cells KK.out]; rfl⟩
    | 2, _ => exact ⟨by rw [set_cells KK.out]; rfl, by rw [set_cells KK.out]; rfl⟩⟩) (by simp) (by decide)
  rw [HALL.out] at hsh
  have HSHORT := Lib.hid hsh
  clear hsh KK
  refine (HSHORT.out).mono ?_
  rintro e w2 ⟨rfl, hb2⟩
  have Hw2 := Lib.hid (HW1.out.trans (hb2.mono HW1.out.size))
  have ka := part_on Ka.out hb2
  have kb := part_on Kb.out hb2
  have kc := part_on Kc.out hb2
  clear Ka Kb Kc hb2
  obtain ⟨ya0, ya1, ya2⟩ := part_at ka
  obtain ⟨yb0, yb1, yb2⟩ := part_at kb
  obtain ⟨yc0, yc1, yc2⟩ := part_at kc
  have Ka := Lib.hid ka
  have Kb := Lib.hid kb
  have Kc := Lib.hid kc
  clear ka kb kc
  go_wp2_with fail
  clear ya0 ya1 ya2 yb0 yb1 yb2 yc0 yc1 yc2
  refine (U0.out w2 Hw2.out).mono ?_
  rintro e w3 ⟨rfl, hb3⟩
  have Hw3 := Lib.hid (Hw2.out.trans (hb3.mono Hw2.out.size))
  have ka := part_on Ka.out hb3
  have kb := part_on Kb.out hb3
  have kc := part_on Kc.out hb3
  clear Ka Kb Kc hb3
  obtain ⟨ya0, ya1, ya2⟩ := part_at ka
  obtain ⟨yb0, yb1, yb2⟩ := part_at kb
  obtain ⟨yc0, yc1, yc2⟩ := part_at kc
  have Ka := Lib.hid ka
  have Kb := Lib.hid kb
  have Kc := Lib.hid kc
  clear ka kb kc
  go_wp2_with fail
  clear ya0 ya1 ya2 yb0 yb1 yb2 yc0 yc1 yc2
  exact bodyPost_ret (v := .bool true) (by simp [results, Tryz.results5, go_sem]) rfl ⟨rfl, Hw3.out⟩

set_option maxRecDepth 100000 in
set_option maxHeartbeats 8000000 in
theorem orders_b (a1 a2 b1 b2 c1 c2 : ByteArray) (hall : ([(a1, a2), (b1, b2), (c1, c2)] : List P2).all (shortP 60) = true) (ha : okP (a1, a2) = true) (hb : okP (b1, b2) = false) (w : World) (ht : Tens w) (h0 : 0 < w.heap.size) :
    Calls Tryz.prog 5 #[.agg #[.string a1, .string a2], .agg #[.string b1, .string b2], .agg #[.string c1, .string c2]] w fun e w' => e = .returned (.bool true) ∧ Below w.heap.size w w' := by
  have HT : ∀ W, Below w.heap.size w W → Tens W := fun W hW j hj => cell_later hW (ht j hj)
  have HAL : Hid (∀ W, Below w.heap.size w W → Calls Tryz.prog 20 #[] W fun e w' => e = .returned (.bool true) ∧ Below W.heap.size W w') := Lib.hid fun W hW => alive_any W (HT W hW) (by have := hW.size; omega)
  have h3 : shortP 60 (a1, a2) = true ∧ shortP 60 (b1, b2) = true ∧ shortP 60 (c1, c2) = true := by simpa only [List.all_cons, List.all_nil, Bool.and_true, Bool.and_eq_true] using hall
  have U0 := useChk HT ha
  have U1 := useChkNo HT hb h3.2.1
  have HALL := Lib.hid hall
  clear hall h3 ha hb HT ht
  obtain ⟨V1, hV1⟩ : ∃ W, W = w.alloc (.cells #[.string a1, .string a2] 24) := ⟨_, rfl⟩
  obtain ⟨V2, hV2⟩ : ∃ W, W = V1.alloc (.cells #[.string b1, .string b2] 24) := ⟨_, rfl⟩
  obtain ⟨V3, hV3⟩ : ∃ W, W = V2.alloc (.cells #[.string c1, .string c2] 24) := ⟨_, rfl⟩
  have v01 : Below w.heap.size w V1 := by rw [hV1]; exact (Below.refl _ _).alloc (Nat.le_refl _) _
  have v12 : Below V1.heap.size V1 V2 := by rw [hV2]; exact (Below.refl _ _).alloc (Nat.le_refl _) _
  have v23 : Below V2.heap.size V2 V3 := by rw [hV3]; exact (Below.refl _ _).alloc (Nat.le_refl _) _
  have z1 : V1.heap.size = w.heap.size + 1 := by rw [hV1, World.size_alloc]
  have z2 : V2.heap.size = w.heap.size + 1 + 1 := by rw [hV2, World.size_alloc, z1]
  have ka : V3.heap[w.heap.size]? = some (partO a1 a2) := part_on (part_on (by rw [hV1]; exact Go.Deep.blk_alloc_new _ _) v12) v23
  have kb : V3.heap[w.heap.size + 1]? = some (partO b1 b2) := part_on (by rw [← z1, hV2]; exact Go.Deep.blk_alloc_new _ _) v23
  have kc : V3.heap[w.heap.size + 1 + 1]? = some (partO c1 c2) := by rw [← z2, hV3]; exact Go.Deep.blk_alloc_new _ _
  have HB := Lib.hid (v01.trans ((below_chain v12 v23).mono v01.size))
  have HV1 := Lib.hid hV1; have HV2 := Lib.hid hV2; have HV3 := Lib.hid hV3; have Ka := Lib.hid ka; have Kb := Lib.hid kb; have Kc := Lib.hid kc
  clear hV1 hV2 hV3 v01 v12 v23 z1 z2 ka kb kc
  go_enter Tryz.func5, Tryz.ntmps5
  go_wp2_with fail
  rw [← HV1.out, ← HV2.out, ← HV3.out]
  refine (HAL.out V3 HB.out).mono ?_
  rintro e w1 ⟨rfl, hb1⟩
  have Hw1 := Lib.hid (HB.out.trans (hb1.mono HB.out.size))
  have ka := part_on Ka.out hb1
  have kb := part_on Kb.out hb1
  have kc := part_on Kc.out hb1
  clear Ka Kb Kc hb1
  obtain ⟨ya0, ya1, ya2⟩ := part_at ka
  obtain ⟨yb0, yb1, yb2⟩ := part_at kb
  obtain ⟨yc0, yc1, yc2⟩ := part_at kc
  obtain ⟨W1, hW1⟩ : ∃ W, W = w1.alloc (.cells #[.string a1, .string a2, .string b1, .string b2, .string c1, .string c2] 24) := ⟨_, rfl⟩
  have bb : Below w1.heap.size w1 W1 := by rw [hW1]; exact (Below.refl _ _).alloc (Nat.le_refl _) _
  have Ka := Lib.hid (part_on ka bb)
  have Kb := Lib.hid (part_on kb bb)
  have Kc := Lib.hid (part_on kc bb)
  have HW1 := Lib.hid (Hw1.out.trans (bb.mono Hw1.out.size))
  have kk : W1.heap[w1.heap.size]? = some (.cells #[.string a1, .string a2, .string b1, .string b2, .string c1, .string c2] 24 (0, 0)) := by rw [hW1]; exact Go.Deep.blk_alloc_new _ _
  have KK := Lib.hid kk
  clear kk
  have HEW1 := Lib.hid hW1
  clear bb hW1 ka kb kc
  go_wp2_with fail
  rw [← HEW1.out]
  clear ya0 ya1 ya2 yb0 yb1 yb2 yc0 yc1 yc2
  have hsh := short_any 60 [(a1, a2), (b1, b2), (c1, c2)] (.slice (some ⟨w1.heap.size, 0, none⟩) 3 3) W1 (.inr ⟨w1.heap.size, 0, 3, rfl, by simp, by decide, (Array.getElem?_eq_some_iff.1 KK.out).1, fun i hi => by
    match i, hi with
    | 0, _ => exact ⟨by rw [set_cells KK.out]; rfl, by rw [set_cells KK.out]; rfl⟩
    | 1, _ => exact ⟨by rw [set_cells KK.out]; rfl, by rw [set_cells KK.out]; rfl⟩
    | 2, _ => exact ⟨by rw [set_cells KK.out]; rfl, by rw [set_cells KK.out]; rfl⟩⟩) (by simp) (by decide)
  rw [HALL.out] at hsh
  have HSHORT := Lib.hid hsh
  clear hsh KK
  refine (HSHORT.out).mono ?_
  rintro e w2 ⟨rfl, hb2⟩
  have Hw2 := Lib.hid (HW1.out.trans (hb2.mono HW1.out.size))
  have ka := part_on Ka.out hb2
  have kb := part_on Kb.out hb2
  have kc := part_on Kc.out hb2
  clear Ka Kb Kc hb2
  obtain ⟨ya0, ya1, ya2⟩ := part_at ka
  obtain ⟨yb0, yb1, yb2⟩ := part_at kb
  obtain ⟨yc0, yc1, yc2⟩ := part_at kc
  have Ka := Lib.hid ka
  have Kb := Lib.hid kb
  have Kc := Lib.hid kc
  clear ka kb kc
  go_wp2_with fail
  clear ya0 ya1 ya2 yb0 yb1 yb2 yc0 yc1 yc2
  refine (U0.out w2 Hw2.out).mono ?_
  rintro e w3 ⟨rfl, hb3⟩
  have Hw3 := Lib.hid (Hw2.out.trans (hb3.mono Hw2.out.size))
  have ka := part_on Ka.out hb3
  have kb := part_on Kb.out hb3
  have kc := part_on Kc.out hb3
  clear Ka Kb Kc hb3
  obtain ⟨ya0, ya1, ya2⟩ := part_at ka
  obtain ⟨yb0, yb1, yb2⟩ := part_at kb
  obtain ⟨yc0, yc1, yc2⟩ := part_at kc
  have Ka := Lib.hid ka
  have Kb := Lib.hid kb
  have Kc := Lib.hid kc
  clear ka kb kc
  go_wp2_with fail
  clear ya0 ya1 ya2 yb0 yb1 yb2 yc0 yc1 yc2
  refine (U1.out w3 Hw3.out).mono ?_
  rintro e w4 ⟨rfl, hb4⟩
  have Hw4 := Lib.hid (Hw3.out.trans (hb4.mono Hw3.out.size))
  have ka := part_on Ka.out hb4
  have kb := part_on Kb.out hb4
  have kc := part_on Kc.out hb4
  clear Ka Kb Kc hb4
  obtain ⟨ya0, ya1, ya2⟩ := part_at ka
  obtain ⟨yb0, yb1, yb2⟩ := part_at kb
  obtain ⟨yc0, yc1, yc2⟩ := part_at kc
  have Ka := Lib.hid ka
  have Kb := Lib.hid kb
  have Kc := Lib.hid kc
  clear ka kb kc
  go_wp2_with fail
  clear ya0 ya1 ya2 yb0 yb1 yb2 yc0 yc1 yc2
  exact bodyPost_ret (v := .bool true) (by simp [results, Tryz.results5, go_sem]) rfl ⟨rfl, Hw4.out⟩

set_option maxRecDepth 100000 in
set_option maxHeartbeats 8000000 in
theorem orders_c (a1 a2 b1 b2 c1 c2 : ByteArray) (hall : ([(a1, a2), (b1, b2), (c1, c2)] : List P2).all (shortP 60) = true) (ha : okP (a1, a2) = true) (hb : okP (b1, b2) = true) (hc : okP (c1, c2) = false) (w : World) (ht : Tens w) (h0 : 0 < w.heap.size) :
    Calls Tryz.prog 5 #[.agg #[.string a1, .string a2], .agg #[.string b1, .string b2], .agg #[.string c1, .string c2]] w fun e w' => e = .returned (.bool true) ∧ Below w.heap.size w w' := by
  have HT : ∀ W, Below w.heap.size w W → Tens W := fun W hW j hj => cell_later hW (ht j hj)
  have HAL : Hid (∀ W, Below w.heap.size w W → Calls Tryz.prog 20 #[] W fun e w' => e = .returned (.bool true) ∧ Below W.heap.size W w') := Lib.hid fun W hW => alive_any W (HT W hW) (by have := hW.size; omega)
  have h3 : shortP 60 (a1, a2) = true ∧ shortP 60 (b1, b2) = true ∧ shortP 60 (c1, c2) = true := by simpa only [List.all_cons, List.all_nil, Bool.and_true, Bool.and_eq_true] using hall
  have U0 := useChk HT ha
  have U1 := useChk HT hb
  have U2 := useChkNo HT hc h3.2.2
  have HALL := Lib.hid hall
  clear hall h3 ha hb hc HT ht
  obtain ⟨V1, hV1⟩ : ∃ W, W = w.alloc (.cells #[.string a1, .string a2] 24) := ⟨_, rfl⟩
  obtain ⟨V2, hV2⟩ : ∃ W, W = V1.alloc (.cells #[.string b1, .string b2] 24) := ⟨_, rfl⟩
  obtain ⟨V3, hV3⟩ : ∃ W, W = V2.alloc (.cells #[.string c1, .string c2] 24) := ⟨_, rfl⟩
  have v01 : Below w.heap.size w V1 := by rw [hV1]; exact (Below.refl _ _).alloc (Nat.le_refl _) _
  have v12 : Below V1.heap.size V1 V2 := by rw [hV2]; exact (Below.refl _ _).alloc (Nat.le_refl _) _
  have v23 : Below V2.heap.size V2 V3 := by rw [hV3]; exact (Below.refl _ _).alloc (Nat.le_refl _) _
  have z1 : V1.heap.size = w.heap.size + 1 := by rw [hV1, World.size_alloc]
  have z2 : V2.heap.size = w.heap.size + 1 + 1 := by rw [hV2, World.size_alloc, z1]
  have ka : V3.heap[w.heap.size]? = some (partO a1 a2) := part_on (part_on (by rw [hV1]; exact Go.Deep.blk_alloc_new _ _) v12) v23
  have kb : V3.heap[w.heap.size + 1]? = some (partO b1 b2) := part_on (by rw [← z1, hV2]; exact Go.Deep.blk_alloc_new _ _) v23
  have kc : V3.heap[w.heap.size + 1 + 1]? = some (partO c1 c2) := by rw [← z2, hV3]; exact Go.Deep.blk_alloc_new _ _
  have HB := Lib.hid (v01.trans ((below_chain v12 v23).mono v01.size))
  have HV1 := Lib.hid hV1; have HV2 := Lib.hid hV2; have HV3 := Lib.hid hV3; have Ka := Lib.hid ka; have Kb := Lib.hid kb; have Kc := Lib.hid kc
  clear hV1 hV2 hV3 v01 v12 v23 z1 z2 ka kb kc
  go_enter Tryz.func5, Tryz.ntmps5
  go_wp2_with fail
  rw [← HV1.out, ← HV2.out, ← HV3.out]
  refine (HAL.out V3 HB.out).mono ?_
  rintro e w1 ⟨rfl, hb1⟩
  have Hw1 := Lib.hid (HB.out.trans (hb1.mono HB.out.size))
  have ka := part_on Ka.out hb1
  have kb := part_on Kb.out hb1
  have kc := part_on Kc.out hb1
  clear Ka Kb Kc hb1
  obtain ⟨ya0, ya1, ya2⟩ := part_at ka
  obtain ⟨yb0, yb1, yb2⟩ := part_at kb
  obtain ⟨yc0, yc1, yc2⟩ := part_at kc
  obtain ⟨W1, hW1⟩ : ∃ W, W = w1.alloc (.cells #[.string a1, .string a2, .string b1, .string b2, .string c1, .string c2] 24) := ⟨_, rfl⟩
  have bb : Below w1.heap.size w1 W1 := by rw [hW1]; exact (Below.refl _ _).alloc (Nat.le_refl _) _
  have Ka := Lib.hid (part_on ka bb)
  have Kb := Lib.hid (part_on kb bb)
  have Kc := Lib.hid (part_on kc bb)
  have HW1 := Lib.hid (Hw1.out.trans (bb.mono Hw1.out.size))
  have kk : W1.heap[w1.heap.size]? = some (.cells #[.string a1, .string a2, .string b1, .string b2, .string c1, .string c2] 24 (0, 0)) := by rw [hW1]; exact Go.Deep.blk_alloc_new _ _
  have KK := Lib.hid kk
  clear kk
  have HEW1 := Lib.hid hW1
  clear bb hW1 ka kb kc
  go_wp2_with fail
  rw [← HEW1.out]
  clear ya0 ya1 ya2 yb0 yb1 yb2 yc0 yc1 yc2
  have hsh := short_any 60 [(a1, a2), (b1, b2), (c1, c2)] (.slice (some ⟨w1.heap.size, 0, none⟩) 3 3) W1 (.inr ⟨w1.heap.size, 0, 3, rfl, by simp, by decide, (Array.getElem?_eq_some_iff.1 KK.out).1, fun i hi => by
    match i, hi with
    | 0, _ => exact ⟨by rw [set_cells KK.out]; rfl, by rw [set_cells KK.out]; rfl⟩
    | 1, _ => exact ⟨by rw [set_cells KK.out]; rfl, by rw [set_cells KK.out]; rfl⟩
    | 2, _ => exact ⟨by rw [set_cells KK.out]; rfl, by rw [set_cells KK.out]; rfl⟩⟩) (by simp) (by decide)
  rw [HALL.out] at hsh
  have HSHORT := Lib.hid hsh
  clear hsh KK
  refine (HSHORT.out).mono ?_
  rintro e w2 ⟨rfl, hb2⟩
  have Hw2 := Lib.hid (HW1.out.trans (hb2.mono HW1.out.size))
  have ka := part_on Ka.out hb2
  have kb := part_on Kb.out hb2
  have kc := part_on Kc.out hb2
  clear Ka Kb Kc hb2
  obtain ⟨ya0, ya1, ya2⟩ := part_at ka
  obtain ⟨yb0, yb1, yb2⟩ := part_at kb
  obtain ⟨yc0, yc1, yc2⟩ := part_at kc
  have Ka := Lib.hid ka
  have Kb := Lib.hid kb
  have Kc := Lib.hid kc
  clear ka kb kc
  go_wp2_with fail
  clear ya0 ya1 ya2 yb0 yb1 yb2 yc0 yc1 yc2
  refine (U0.out w2 Hw2.out).mono ?_
  rintro e w3 ⟨rfl, hb3⟩
  have Hw3 := Lib.hid (Hw2.out.trans (hb3.mono Hw2.out.size))
  have ka := part_on Ka.out hb3
  have kb := part_on Kb.out hb3
  have kc := part_on Kc.out hb3
  clear Ka Kb Kc hb3
  obtain ⟨ya0, ya1, ya2⟩ := part_at ka
  obtain ⟨yb0, yb1, yb2⟩ := part_at kb
  obtain ⟨yc0, yc1, yc2⟩ := part_at kc
  have Ka := Lib.hid ka
  have Kb := Lib.hid kb
  have Kc := Lib.hid kc
  clear ka kb kc
  go_wp2_with fail
  clear ya0 ya1 ya2 yb0 yb1 yb2 yc0 yc1 yc2
  refine (U1.out w3 Hw3.out).mono ?_
  rintro e w4 ⟨rfl, hb4⟩
  have Hw4 := Lib.hid (Hw3.out.trans (hb4.mono Hw3.out.size))
  have ka := part_on Ka.out hb4
  have kb := part_on Kb.out hb4
  have kc := part_on Kc.out hb4
  clear Ka Kb Kc hb4
  obtain ⟨ya0, ya1, ya2⟩ := part_at ka
  obtain ⟨yb0, yb1, yb2⟩ := part_at kb
  obtain ⟨yc0, yc1, yc2⟩ := part_at kc
  have Ka := Lib.hid ka
  have Kb := Lib.hid kb
  have Kc := Lib.hid kc
  clear ka kb kc
  go_wp2_with fail
  clear ya0 ya1 ya2 yb0 yb1 yb2 yc0 yc1 yc2
  refine (U2.out w4 Hw4.out).mono ?_
  rintro e w5 ⟨rfl, hb5⟩
  have Hw5 := Lib.hid (Hw4.out.trans (hb5.mono Hw4.out.size))
  have ka := part_on Ka.out hb5
  have kb := part_on Kb.out hb5
  have kc := part_on Kc.out hb5
  clear Ka Kb Kc hb5
  obtain ⟨ya0, ya1, ya2⟩ := part_at ka
  obtain ⟨yb0, yb1, yb2⟩ := part_at kb
  obtain ⟨yc0, yc1, yc2⟩ := part_at kc
  have Ka := Lib.hid ka
  have Kb := Lib.hid kb
  have Kc := Lib.hid kc
  clear ka kb kc
  go_wp2_with fail
  clear ya0 ya1 ya2 yb0 yb1 yb2 yc0 yc1 yc2
  exact bodyPost_ret (v := .bool true) (by simp [results, Tryz.results5, go_sem]) rfl ⟨rfl, Hw5.out⟩
end Go.Proofs.YtkggfeemjabdeaaGreatDoor.Wc
end
section
namespace Go.Proofs.YtkggfeemjabdeaaGreatDoor.Wc
open Go Go.Proofs.YtkggfeemjabdeaaGreatDoor.Sx Go.RowKit

theorem list_inj {a b : ByteArray} (h : a.toList = b.toList) : a = b := by
  rw [ByteArray.toList_eq, ByteArray.toList_eq] at h
  exact Go.WideShapes.bytes_inj h
theorem useCmp {w : World} (HT : ∀ W, Below w.heap.size w W → Tens W) {a1 a2 b1 b2 : ByteArray} {z : Int} (ha : okP (a1, a2) = true) (hb : okP (b1, b2) = true) (h : cmpF (pv (a1, a2)) (pv (b1, b2)) = z) : Hid (∀ W, Below w.heap.size w W → Calls Tryz.prog 26 #[.agg #[.string a1, .string a2], .agg #[.string b1, .string b2]] W fun e w' => e = .returned (.int .i64 z) ∧ Below W.heap.size W w') := Lib.hid fun W hW => by
  have k := Compare_any (a1, a2) (b1, b2) W (short_ok ha) (short_ok hb) (HT W hW)
  have e : cmpS (a1, a2) (b1, b2) = z := by unfold cmpS; rw [ha, hb, ← h]; rfl
  rw [e] at k; exact k


set_option maxRecDepth 100000 in
set_option maxHeartbeats 8000000 in
theorem orders_lt_z (a1 a2 b1 b2 c1 c2 : ByteArray) (ha : okP (a1, a2) = true) (hb : okP (b1, b2) = true) (hc : okP (c1, c2) = true) (sa : shortP 60 (a1, a2) = true) (sb : shortP 60 (b1, b2) = true) (sc : shortP 60 (c1, c2) = true) (hn : (pv (a1, a2)).1 * (pv (b1, b2)).2 < (pv (b1, b2)).1 * (pv (a1, a2)).2) (hcz : c1 = zeroB) (w : World) (ht : Tens w) (h0 : 0 < w.heap.size) :
    Calls Tryz.prog 5 #[.agg #[.string a1, .string a2], .agg #[.string b1, .string b2], .agg #[.string c1, .string c2]] w fun e w' => e = .returned (.bool true) ∧ Below w.heap.size w w' := by
  have HT : ∀ W, Below w.heap.size w W → Tens W := fun W hW j hj => cell_later hW (ht j hj)
  have HAL : Hid (∀ W, Below w.heap.size w W → Calls Tryz.prog 20 #[] W fun e w' => e = .returned (.bool true) ∧ Below W.heap.size W w') := Lib.hid fun W hW => alive_any W (HT W hW) (by have := hW.size; omega)
  have sha : a1.size ≤ 60 ∧ a2.size ≤ 60 := by unfold shortP at sa; simpa using sa
  have shb : b1.size ≤ 60 ∧ b2.size ≤ 60 := by unfold shortP at sb; simpa using sb
  have shc : c1.size ≤ 60 ∧ c2.size ≤ 60 := by unfold shortP at sc; simpa using sc
  have mA := sm_of (k := 60) ha sha.1 sha.2
  have mB := sm_of (k := 60) hb shb.1 shb.2
  have mC := sm_of (k := 60) hc shc.1 shc.2
  have eA := pt_pv ha; have eB := pt_pv hb; have eC := pt_pv hc
  have hzz := num_zero hc
  have hcmp : cmpF (pv (a1, a2)) (pv (b1, b2)) = (-1) := cmpF_lt hn
  have C1 := useCmp HT ha hb hcmp
  have C2 := useCmp (z := 1) HT hb ha (by rw [cmpF_swap, hcmp] <;> rfl)
  have heq : ¬ (a1, a2) = (b1, b2) := fun h => by rw [h] at hn; exact Nat.lt_irrefl _ hn
  obtain ⟨⟨d1, d2⟩, hsub⟩ : ∃ r, subS (a1, a2) (b1, b2) = (r, 11) := ⟨_, subS_less ha hb hn⟩
  have Q2 := useSub HT hsub ha hb
  generalize hgA : pv (a1, a2) = A at *
  generalize hgB : pv (b1, b2) = B at *
  generalize hgC : pv (c1, c2) = C at *
  have m1 := mA.add mC (m := 121) rfl; have m2 := mB.add mC (m := 121) rfl; have m3 := mA.mul mC (m := 120) rfl; have m4 := mB.mul mC (m := 120) rfl
  have q3 := add_pt mA mC (by decide); have q4 := add_pt mB mC (by decide); have q5 := mul_pt mA mC (by decide); have q6 := mul_pt mB mC (by decide)
  have o1 := pt_ok m1 (by decide); have o2 := pt_ok m2 (by decide); have o3 := pt_ok m3 (by decide); have o4 := pt_ok m4 (by decide)
  have v1 := pv_pt (addF A C); have v2 := pv_pt (addF B C); have v3 := pv_pt (mulF A C); have v4 := pv_pt (mulF B C)
  rw [eA, eC] at q3 q5; rw [eB, eC] at q4 q6
  obtain ⟨⟨x1, x2⟩, hx⟩ : ∃ r, ptOf (addF A C) = r := ⟨_, rfl⟩
  obtain ⟨⟨y1, y2⟩, hy⟩ : ∃ r, ptOf (addF B C) = r := ⟨_, rfl⟩
  obtain ⟨⟨p1, p2⟩, hp⟩ : ∃ r, ptOf (mulF A C) = r := ⟨_, rfl⟩
  obtain ⟨⟨r1, r2⟩, hr⟩ : ∃ r, ptOf (mulF B C) = r := ⟨_, rfl⟩
  rw [hx] at q3 o1 v1; rw [hy] at q4 o2 v2; rw [hp] at q5 o3 v3; rw [hr] at q6 o4 v4
  have Q3 := useAdd HT q3 ha hc; have Q4 := useAdd HT q4 hb hc; have Q5 := useMul HT q5 ha hc; have Q6 := useMul HT q6 hb hc
  have C3 := useCmp (z := 0) HT o3 o4 (by rw [v3, v4]; exact cmpF_prod0 mA.fr mB.fr mC.fr (by rw [hzz]; exact hcz))
  have C4 := useCmp (z := (-1)) HT o1 o2 (by rw [v1, v2]; exact (cmpF_sum mA.fr mB.fr mC.fr).trans hcmp)
  have U1 := useChk HT ha; have U2 := useChk HT hb; have U3 := useChk HT hc
  have HSH := Lib.hid (And.intro sa (And.intro sb sc)); have HEQ := Lib.hid heq; have HCZ := Lib.hid hcz
  clear q3 q4 q5 q6 o1 o2 o3 o4 v1 v2 v3 v4 m1 m2 m3 m4 mA mB mC eA eB eC hx hy hp hr hsub hcmp hn heq hcz hzz sha shb shc sa sb sc HT ht ha hb hc hgA hgB hgC
  obtain ⟨V1, hV1⟩ : ∃ W, W = w.alloc (.cells #[.string a1, .string a2] 24) := ⟨_, rfl⟩
  obtain ⟨V2, hV2⟩ : ∃ W, W = V1.alloc (.cells #[.string b1, .string b2] 24) := ⟨_, rfl⟩
  obtain ⟨V3, hV3⟩ : ∃ W, W = V2.alloc (.cells #[.string c1, .string c2] 24) := ⟨_, rfl⟩
  have v01 : Below w.heap.size w V1 := by rw [hV1]; exact (Below.refl _ _).alloc (Nat.le_refl _) _
  have v12 : Below V1.heap.size V1 V2 := by rw [hV2]; exact (Below.refl _ _).alloc (Nat.le_refl _) _
  have v23 : Below V2.heap.size V2 V3 := by rw [hV3]; exact (Below.refl _ _).alloc (Nat.le_refl _) _
  have z1 : V1.heap.size = w.heap.size + 1 := by rw [hV1, World.size_alloc]
  have z2 : V2.heap.size = w.heap.size + 1 + 1 := by rw [hV2, World.size_alloc, z1]
  have ka : V3.heap[w.heap.size]? = some (partO a1 a2) := part_on (part_on (by rw [hV1]; exact Go.Deep.blk_alloc_new _ _) v12) v23
  have kb : V3.heap[w.heap.size + 1]? = some (partO b1 b2) := part_on (by rw [← z1, hV2]; exact Go.Deep.blk_alloc_new _ _) v23
  have kc : V3.heap[w.heap.size + 1 + 1]? = some (partO c1 c2) := by rw [← z2, hV3]; exact Go.Deep.blk_alloc_new _ _
  have HB := Lib.hid (v01.trans ((below_chain v12 v23).mono v01.size))
  have HV1 := Lib.hid hV1; have HV2 := Lib.hid hV2; have HV3 := Lib.hid hV3; have Ka := Lib.hid ka; have Kb := Lib.hid kb; have Kc := Lib.hid kc
  clear hV1 hV2 hV3 v01 v12 v23 z1 z2 ka kb kc
  go_enter Tryz.func5, Tryz.ntmps5
  go_wp2_with fail
  rw [← HV1.out, ← HV2.out, ← HV3.out]
  refine (HAL.out V3 HB.out).mono ?_
  rintro e w1 ⟨rfl, hb1⟩
  have Hw1 := Lib.hid (HB.out.trans (hb1.mono HB.out.size))
  have ka := part_on Ka.out hb1
  have kb := part_on Kb.out hb1
  have kc := part_on Kc.out hb1
  clear Ka Kb Kc hb1
  obtain ⟨ya0, ya1, ya2⟩ := part_at ka
  obtain ⟨yb0, yb1, yb2⟩ := part_at kb
  obtain ⟨yc0, yc1, yc2⟩ := part_at kc
  obtain ⟨W1, hW1⟩ : ∃ W, W = w1.alloc (.cells #[.string a1, .string a2, .string b1, .string b2, .string c1, .string c2] 24) := ⟨_, rfl⟩
  have bb : Below w1.heap.size w1 W1 := by rw [hW1]; exact (Below.refl _ _).alloc (Nat.le_refl _) _
  have Ka := Lib.hid (part_on ka bb)
  have Kb := Lib.hid (part_on kb bb)
  have Kc := Lib.hid (part_on kc bb)
  have HW1 := Lib.hid (Hw1.out.trans (bb.mono Hw1.out.size))
  have kk : W1.heap[w1.heap.size]? = some (.cells #[.string a1, .string a2, .string b1, .string b2, .string c1, .string c2] 24 (0, 0)) := by rw [hW1]; exact Go.Deep.blk_alloc_new _ _
  have KK := Lib.hid kk
  clear kk
  have HEW1 := Lib.hid hW1
  clear bb hW1 ka kb kc
  go_wp2_with fail
  rw [← HEW1.out]
  clear ya0 ya1 ya2 yb0 yb1 yb2 yc0 yc1 yc2
  have hsh := short_any 60 [(a1, a2), (b1, b2), (c1, c2)] (.slice (some ⟨w1.heap.size, 0, none⟩) 3 3) W1 (.inr ⟨w1.heap.size, 0, 3, rfl, by simp, by decide, (Array.getElem?_eq_some_iff.1 KK.out).1, fun i hi => by
    match i, hi with
    | 0, _ => exact ⟨by rw [set_cells KK.out]; rfl, by rw [set_cells KK.out]; rfl⟩
    | 1, _ => exact ⟨by rw [set_cells KK.out]; rfl, by rw [set_cells KK.out]; rfl⟩
    | 2, _ => exact ⟨by rw [set_cells KK.out]; rfl, by rw [set_cells KK.out]; rfl⟩⟩) (by simp) (by decide)
  have hall : [(a1, a2), (b1, b2), (c1, c2)].all (shortP 60) = true := by
    simp only [List.all_cons, List.all_nil, HSH.out.1, HSH.out.2.1, HSH.out.2.2, Bool.and_self]
  rw [hall] at hsh
  have HSHORT := Lib.hid hsh
  clear hsh hall KK
  refine (HSHORT.out).mono ?_
  rintro e w2 ⟨rfl, hb2⟩
  have Hw2 := Lib.hid (HW1.out.trans (hb2.mono HW1.out.size))
  have ka := part_on Ka.out hb2
  have kb := part_on Kb.out hb2
  have kc := part_on Kc.out hb2
  clear Ka Kb Kc hb2
  obtain ⟨ya0, ya1, ya2⟩ := part_at ka
  obtain ⟨yb0, yb1, yb2⟩ := part_at kb
  obtain ⟨yc0, yc1, yc2⟩ := part_at kc
  have Ka := Lib.hid ka
  have Kb := Lib.hid kb
  have Kc := Lib.hid kc
  clear ka kb kc
  go_wp2_with fail
  clear ya0 ya1 ya2 yb0 yb1 yb2 yc0 yc1 yc2
  refine (U1.out w2 Hw2.out).mono ?_
  rintro e w3 ⟨rfl, hb3⟩
  have Hw3 := Lib.hid (Hw2.out.trans (hb3.mono Hw2.out.size))
  have ka := part_on Ka.out hb3
  have kb := part_on Kb.out hb3
  have kc := part_on Kc.out hb3
  clear Ka Kb Kc hb3
  obtain ⟨ya0, ya1, ya2⟩ := part_at ka
  obtain ⟨yb0, yb1, yb2⟩ := part_at kb
  obtain ⟨yc0, yc1, yc2⟩ := part_at kc
  have Ka := Lib.hid ka
  have Kb := Lib.hid kb
  have Kc := Lib.hid kc
  clear ka kb kc
  go_wp2_with fail
  clear ya0 ya1 ya2 yb0 yb1 yb2 yc0 yc1 yc2
  refine (U2.out w3 Hw3.out).mono ?_
  rintro e w4 ⟨rfl, hb4⟩
  have Hw4 := Lib.hid (Hw3.out.trans (hb4.mono Hw3.out.size))
  have ka := part_on Ka.out hb4
  have kb := part_on Kb.out hb4
  have kc := part_on Kc.out hb4
  clear Ka Kb Kc hb4
  obtain ⟨ya0, ya1, ya2⟩ := part_at ka
  obtain ⟨yb0, yb1, yb2⟩ := part_at kb
  obtain ⟨yc0, yc1, yc2⟩ := part_at kc
  have Ka := Lib.hid ka
  have Kb := Lib.hid kb
  have Kc := Lib.hid kc
  clear ka kb kc
  go_wp2_with fail
  clear ya0 ya1 ya2 yb0 yb1 yb2 yc0 yc1 yc2
  refine (U3.out w4 Hw4.out).mono ?_
  rintro e w5 ⟨rfl, hb5⟩
  have Hw5 := Lib.hid (Hw4.out.trans (hb5.mono Hw4.out.size))
  have ka := part_on Ka.out hb5
  have kb := part_on Kb.out hb5
  have kc := part_on Kc.out hb5
  clear Ka Kb Kc hb5
  obtain ⟨ya0, ya1, ya2⟩ := part_at ka
  obtain ⟨yb0, yb1, yb2⟩ := part_at kb
  obtain ⟨yc0, yc1, yc2⟩ := part_at kc
  have Ka := Lib.hid ka
  have Kb := Lib.hid kb
  have Kc := Lib.hid kc
  clear ka kb kc
  go_wp2_with fail
  clear ya0 ya1 ya2 yb0 yb1 yb2 yc0 yc1 yc2
  refine (C1.out w5 Hw5.out).mono ?_
  rintro e w6 ⟨rfl, hb6⟩
  have Hw6 := Lib.hid (Hw5.out.trans (hb6.mono Hw5.out.size))
  have ka := part_on Ka.out hb6
  have kb := part_on Kb.out hb6
  have kc := part_on Kc.out hb6
  clear Ka Kb Kc hb6
  obtain ⟨ya0, ya1, ya2⟩ := part_at ka
  obtain ⟨yb0, yb1, yb2⟩ := part_at kb
  obtain ⟨yc0, yc1, yc2⟩ := part_at kc
  have Ka := Lib.hid ka
  have Kb := Lib.hid kb
  have Kc := Lib.hid kc
  clear ka kb kc
  go_wp2_with fail
  clear ya0 ya1 ya2 yb0 yb1 yb2 yc0 yc1 yc2
  refine (Q2.out w6 Hw6.out).mono ?_
  rintro e w7 ⟨rfl, hb7⟩
  have Hw7 := Lib.hid (Hw6.out.trans (hb7.mono Hw6.out.size))
  have ka := part_on Ka.out hb7
  have kb := part_on Kb.out hb7
  have kc := part_on Kc.out hb7
  clear Ka Kb Kc hb7
  obtain ⟨ya0, ya1, ya2⟩ := part_at ka
  obtain ⟨yb0, yb1, yb2⟩ := part_at kb
  obtain ⟨yc0, yc1, yc2⟩ := part_at kc
  obtain ⟨W7, hW7⟩ : ∃ W, W = w7.alloc (.cells #[.string d1, .string d2] 24) := ⟨_, rfl⟩
  have bb : Below w7.heap.size w7 W7 := by rw [hW7]; exact (Below.refl _ _).alloc (Nat.le_refl _) _
  have Ka := Lib.hid (part_on ka bb)
  have Kb := Lib.hid (part_on kb bb)
  have Kc := Lib.hid (part_on kc bb)
  have HW7 := Lib.hid (Hw7.out.trans (bb.mono Hw7.out.size))
  have Kd : Hid (W7.heap[w7.heap.size]? = some (partO d1 d2)) := Lib.hid (by rw [hW7]; exact Go.Deep.blk_alloc_new _ _)
  have HEW7 := Lib.hid hW7
  clear bb hW7 ka kb kc
  go_wp2_with fail
  rw [← HEW7.out]
  clear ya0 ya1 ya2 yb0 yb1 yb2 yc0 yc1 yc2
  refine (Q3.out W7 HW7.out).mono ?_
  rintro e w8 ⟨rfl, hb8⟩
  have Hw8 := Lib.hid (HW7.out.trans (hb8.mono HW7.out.size))
  have ka := part_on Ka.out hb8
  have kb := part_on Kb.out hb8
  have kc := part_on Kc.out hb8
  have kd := part_on Kd.out hb8
  clear Ka Kb Kc Kd hb8
  obtain ⟨ya0, ya1, ya2⟩ := part_at ka
  obtain ⟨yb0, yb1, yb2⟩ := part_at kb
  obtain ⟨yc0, yc1, yc2⟩ := part_at kc
  obtain ⟨yd0, yd1, yd2⟩ := part_at kd
  obtain ⟨W8, hW8⟩ : ∃ W, W = w8.alloc (.cells #[.string x1, .string x2] 24) := ⟨_, rfl⟩
  have bb : Below w8.heap.size w8 W8 := by rw [hW8]; exact (Below.refl _ _).alloc (Nat.le_refl _) _
  have Ka := Lib.hid (part_on ka bb)
  have Kb := Lib.hid (part_on kb bb)
  have Kc := Lib.hid (part_on kc bb)
  have Kd := Lib.hid (part_on kd bb)
  have HW8 := Lib.hid (Hw8.out.trans (bb.mono Hw8.out.size))
  have Kx : Hid (W8.heap[w8.heap.size]? = some (partO x1 x2)) := Lib.hid (by rw [hW8]; exact Go.Deep.blk_alloc_new _ _)
  have HEW8 := Lib.hid hW8
  clear bb hW8 ka kb kc kd
  go_wp2_with fail
  rw [← HEW8.out]
  clear ya0 ya1 ya2 yb0 yb1 yb2 yc0 yc1 yc2 yd0 yd1 yd2
  refine (Q4.out W8 HW8.out).mono ?_
  rintro e w9 ⟨rfl, hb9⟩
  have Hw9 := Lib.hid (HW8.out.trans (hb9.mono HW8.out.size))
  have ka := part_on Ka.out hb9
  have kb := part_on Kb.out hb9
  have kc := part_on Kc.out hb9
  have kd := part_on Kd.out hb9
  have kx := part_on Kx.out hb9
  clear Ka Kb Kc Kd Kx hb9
  obtain ⟨ya0, ya1, ya2⟩ := part_at ka
  obtain ⟨yb0, yb1, yb2⟩ := part_at kb
  obtain ⟨yc0, yc1, yc2⟩ := part_at kc
  obtain ⟨yd0, yd1, yd2⟩ := part_at kd
  obtain ⟨yx0, yx1, yx2⟩ := part_at kx
  obtain ⟨W9, hW9⟩ : ∃ W, W = w9.alloc (.cells #[.string y1, .string y2] 24) := ⟨_, rfl⟩
  have bb : Below w9.heap.size w9 W9 := by rw [hW9]; exact (Below.refl _ _).alloc (Nat.le_refl _) _
  have Ka := Lib.hid (part_on ka bb)
  have Kb := Lib.hid (part_on kb bb)
  have Kc := Lib.hid (part_on kc bb)
  have Kd := Lib.hid (part_on kd bb)
  have Kx := Lib.hid (part_on kx bb)
  have HW9 := Lib.hid (Hw9.out.trans (bb.mono Hw9.out.size))
  have Ky : Hid (W9.heap[w9.heap.size]? = some (partO y1 y2)) := Lib.hid (by rw [hW9]; exact Go.Deep.blk_alloc_new _ _)
  have HEW9 := Lib.hid hW9
  clear bb hW9 ka kb kc kd kx
  go_wp2_with fail
  rw [← HEW9.out]
  clear ya0 ya1 ya2 yb0 yb1 yb2 yc0 yc1 yc2 yd0 yd1 yd2 yx0 yx1 yx2
  refine (Q5.out W9 HW9.out).mono ?_
  rintro e w10 ⟨rfl, hb10⟩
  have Hw10 := Lib.hid (HW9.out.trans (hb10.mono HW9.out.size))
  have ka := part_on Ka.out hb10
  have kb := part_on Kb.out hb10
  have kc := part_on Kc.out hb10
  have kd := part_on Kd.out hb10
  have kx := part_on Kx.out hb10
  have ky := part_on Ky.out hb10
  clear Ka Kb Kc Kd Kx Ky hb10
  obtain ⟨ya0, ya1, ya2⟩ := part_at ka
  obtain ⟨yb0, yb1, yb2⟩ := part_at kb
  obtain ⟨yc0, yc1, yc2⟩ := part_at kc
  obtain ⟨yd0, yd1, yd2⟩ := part_at kd
  obtain ⟨yx0, yx1, yx2⟩ := part_at kx
  obtain ⟨yy0, yy1, yy2⟩ := part_at ky
  obtain ⟨W10, hW10⟩ : ∃ W, W = w10.alloc (.cells #[.string p1, .string p2] 24) := ⟨_, rfl⟩
  have bb : Below w10.heap.size w10 W10 := by rw [hW10]; exact (Below.refl _ _).alloc (Nat.le_refl _) _
  have Ka := Lib.hid (part_on ka bb)
  have Kb := Lib.hid (part_on kb bb)
  have Kc := Lib.hid (part_on kc bb)
  have Kd := Lib.hid (part_on kd bb)
  have Kx := Lib.hid (part_on kx bb)
  have Ky := Lib.hid (part_on ky bb)
  have HW10 := Lib.hid (Hw10.out.trans (bb.mono Hw10.out.size))
  have Kp : Hid (W10.heap[w10.heap.size]? = some (partO p1 p2)) := Lib.hid (by rw [hW10]; exact Go.Deep.blk_alloc_new _ _)
  have HEW10 := Lib.hid hW10
  clear bb hW10 ka kb kc kd kx ky
  go_wp2_with fail
  rw [← HEW10.out]
  clear ya0 ya1 ya2 yb0 yb1 yb2 yc0 yc1 yc2 yd0 yd1 yd2 yx0 yx1 yx2 yy0 yy1 yy2
  refine (Q6.out W10 HW10.out).mono ?_
  rintro e w11 ⟨rfl, hb11⟩
  have Hw11 := Lib.hid (HW10.out.trans (hb11.mono HW10.out.size))
  have ka := part_on Ka.out hb11
  have kb := part_on Kb.out hb11
  have kc := part_on Kc.out hb11
  have kd := part_on Kd.out hb11
  have kx := part_on Kx.out hb11
  have ky := part_on Ky.out hb11
  have kp := part_on Kp.out hb11
  clear Ka Kb Kc Kd Kx Ky Kp hb11
  obtain ⟨ya0, ya1, ya2⟩ := part_at ka
  obtain ⟨yb0, yb1, yb2⟩ := part_at kb
  obtain ⟨yc0, yc1, yc2⟩ := part_at kc
  obtain ⟨yd0, yd1, yd2⟩ := part_at kd
  obtain ⟨yx0, yx1, yx2⟩ := part_at kx
  obtain ⟨yy0, yy1, yy2⟩ := part_at ky
  obtain ⟨yp0, yp1, yp2⟩ := part_at kp
  obtain ⟨W11, hW11⟩ : ∃ W, W = w11.alloc (.cells #[.string r1, .string r2] 24) := ⟨_, rfl⟩
  have bb : Below w11.heap.size w11 W11 := by rw [hW11]; exact (Below.refl _ _).alloc (Nat.le_refl _) _
  have Ka := Lib.hid (part_on ka bb)
  have Kb := Lib.hid (part_on kb bb)
  have Kc := Lib.hid (part_on kc bb)
  have Kd := Lib.hid (part_on kd bb)
  have Kx := Lib.hid (part_on kx bb)
  have Ky := Lib.hid (part_on ky bb)
  have Kp := Lib.hid (part_on kp bb)
  have HW11 := Lib.hid (Hw11.out.trans (bb.mono Hw11.out.size))
  have Kr : Hid (W11.heap[w11.heap.size]? = some (partO r1 r2)) := Lib.hid (by rw [hW11]; exact Go.Deep.blk_alloc_new _ _)
  have HEW11 := Lib.hid hW11
  clear bb hW11 ka kb kc kd kx ky kp
  go_wp2_with fail
  rw [← HEW11.out]
  clear ya0 ya1 ya2 yb0 yb1 yb2 yc0 yc1 yc2 yd0 yd1 yd2 yx0 yx1 yx2 yy0 yy1 yy2 yp0 yp1 yp2
  have hc0 : c1 = ⟨#[48]⟩ := HCZ.out
  subst hc0
  refine (C3.out W11 HW11.out).mono ?_
  rintro e w12 ⟨rfl, hb12⟩
  have Hw12 := Lib.hid (HW11.out.trans (hb12.mono HW11.out.size))
  have ka := part_on Ka.out hb12
  have kb := part_on Kb.out hb12
  have kc := part_on Kc.out hb12
  have kd := part_on Kd.out hb12
  have kx := part_on Kx.out hb12
  have ky := part_on Ky.out hb12
  have kp := part_on Kp.out hb12
  have kr := part_on Kr.out hb12
  clear Ka Kb Kc Kd Kx Ky Kp Kr hb12
  obtain ⟨ya0, ya1, ya2⟩ := part_at ka
  obtain ⟨yb0, yb1, yb2⟩ := part_at kb
  obtain ⟨yc0, yc1, yc2⟩ := part_at kc
  obtain ⟨yd0, yd1, yd2⟩ := part_at kd
  obtain ⟨yx0, yx1, yx2⟩ := part_at kx
  obtain ⟨yy0, yy1, yy2⟩ := part_at ky
  obtain ⟨yp0, yp1, yp2⟩ := part_at kp
  obtain ⟨yr0, yr1, yr2⟩ := part_at kr
  have Ka := Lib.hid ka
  have Kb := Lib.hid kb
  have Kc := Lib.hid kc
  have Kd := Lib.hid kd
  have Kx := Lib.hid kx
  have Ky := Lib.hid ky
  have Kp := Lib.hid kp
  have Kr := Lib.hid kr
  clear ka kb kc kd kx ky kp kr
  go_wp2_with fail
  clear ya0 ya1 ya2 yb0 yb1 yb2 yc0 yc1 yc2 yd0 yd1 yd2 yx0 yx1 yx2 yy0 yy1 yy2 yp0 yp1 yp2 yr0 yr1 yr2
  by_cases e1 : a1 = b1
  · have e2 : ¬ a2 = b2 := fun h => HEQ.out (Prod.ext e1 h)
    subst e1
    have e2l : ¬ a2.toList = b2.toList := fun h => e2 (list_inj h)
    refine (C2.out w12 Hw12.out).mono ?_
    rintro e w13 ⟨rfl, hb13⟩
    have Hw13 := Lib.hid (Hw12.out.trans (hb13.mono Hw12.out.size))
    have ka := part_on Ka.out hb13
    have kb := part_on Kb.out hb13
    have kc := part_on Kc.out hb13
    have kd := part_on Kd.out hb13
    have kx := part_on Kx.out hb13
    have ky := part_on Ky.out hb13
    have kp := part_on Kp.out hb13
    have kr := part_on Kr.out hb13
    clear Ka Kb Kc Kd Kx Ky Kp Kr hb13
    obtain ⟨ya0, ya1, ya2⟩ := part_at ka
    obtain ⟨yb0, yb1, yb2⟩ := part_at kb
    obtain ⟨yc0, yc1, yc2⟩ := part_at kc
    obtain ⟨yd0, yd1, yd2⟩ := part_at kd
    obtain ⟨yx0, yx1, yx2⟩ := part_at kx
    obtain ⟨yy0, yy1, yy2⟩ := part_at ky
    obtain ⟨yp0, yp1, yp2⟩ := part_at kp
    obtain ⟨yr0, yr1, yr2⟩ := part_at kr
    have Ka := Lib.hid ka
    have Kb := Lib.hid kb
    have Kc := Lib.hid kc
    have Kd := Lib.hid kd
    have Kx := Lib.hid kx
    have Ky := Lib.hid ky
    have Kp := Lib.hid kp
    have Kr := Lib.hid kr
    clear ka kb kc kd kx ky kp kr
    go_wp2_with fail
    clear ya0 ya1 ya2 yb0 yb1 yb2 yc0 yc1 yc2 yd0 yd1 yd2 yx0 yx1 yx2 yy0 yy1 yy2 yp0 yp1 yp2 yr0 yr1 yr2
    refine (C4.out w13 Hw13.out).mono ?_
    rintro e w14 ⟨rfl, hb14⟩
    have Hw14 := Lib.hid (Hw13.out.trans (hb14.mono Hw13.out.size))
    have ka := part_on Ka.out hb14
    have kb := part_on Kb.out hb14
    have kc := part_on Kc.out hb14
    have kd := part_on Kd.out hb14
    have kx := part_on Kx.out hb14
    have ky := part_on Ky.out hb14
    have kp := part_on Kp.out hb14
    have kr := part_on Kr.out hb14
    clear Ka Kb Kc Kd Kx Ky Kp Kr hb14
    obtain ⟨ya0, ya1, ya2⟩ := part_at ka
    obtain ⟨yb0, yb1, yb2⟩ := part_at kb
    obtain ⟨yc0, yc1, yc2⟩ := part_at kc
    obtain ⟨yd0, yd1, yd2⟩ := part_at kd
    obtain ⟨yx0, yx1, yx2⟩ := part_at kx
    obtain ⟨yy0, yy1, yy2⟩ := part_at ky
    obtain ⟨yp0, yp1, yp2⟩ := part_at kp
    obtain ⟨yr0, yr1, yr2⟩ := part_at kr
    have Ka := Lib.hid ka
    have Kb := Lib.hid kb
    have Kc := Lib.hid kc
    have Kd := Lib.hid kd
    have Kx := Lib.hid kx
    have Ky := Lib.hid ky
    have Kp := Lib.hid kp
    have Kr := Lib.hid kr
    clear ka kb kc kd kx ky kp kr
    go_wp2_with fail
    clear ya0 ya1 ya2 yb0 yb1 yb2 yc0 yc1 yc2 yd0 yd1 yd2 yx0 yx1 yx2 yy0 yy1 yy2 yp0 yp1 yp2 yr0 yr1 yr2
    exact bodyPost_ret (v := .bool true) (by simp [results, Tryz.results5, go_sem]) rfl ⟨rfl, Hw14.out⟩
  · have e3 : ¬ b1 = a1 := fun h => e1 h.symm
    have e2l : ¬ a1.toList = b1.toList := fun h => e1 (list_inj h)
    refine (C2.out w12 Hw12.out).mono ?_
    rintro e w13 ⟨rfl, hb13⟩
    have Hw13 := Lib.hid (Hw12.out.trans (hb13.mono Hw12.out.size))
    have ka := part_on Ka.out hb13
    have kb := part_on Kb.out hb13
    have kc := part_on Kc.out hb13
    have kd := part_on Kd.out hb13
    have kx := part_on Kx.out hb13
    have ky := part_on Ky.out hb13
    have kp := part_on Kp.out hb13
    have kr := part_on Kr.out hb13
    clear Ka Kb Kc Kd Kx Ky Kp Kr hb13
    obtain ⟨ya0, ya1, ya2⟩ := part_at ka
    obtain ⟨yb0, yb1, yb2⟩ := part_at kb
    obtain ⟨yc0, yc1, yc2⟩ := part_at kc
    obtain ⟨yd0, yd1, yd2⟩ := part_at kd
    obtain ⟨yx0, yx1, yx2⟩ := part_at kx
    obtain ⟨yy0, yy1, yy2⟩ := part_at ky
    obtain ⟨yp0, yp1, yp2⟩ := part_at kp
    obtain ⟨yr0, yr1, yr2⟩ := part_at kr
    have Ka := Lib.hid ka
    have Kb := Lib.hid kb
    have Kc := Lib.hid kc
    have Kd := Lib.hid kd
    have Kx := Lib.hid kx
    have Ky := Lib.hid ky
    have Kp := Lib.hid kp
    have Kr := Lib.hid kr
    clear ka kb kc kd kx ky kp kr
    go_wp2_with fail
    clear ya0 ya1 ya2 yb0 yb1 yb2 yc0 yc1 yc2 yd0 yd1 yd2 yx0 yx1 yx2 yy0 yy1 yy2 yp0 yp1 yp2 yr0 yr1 yr2
    refine (C4.out w13 Hw13.out).mono ?_
    rintro e w14 ⟨rfl, hb14⟩
    have Hw14 := Lib.hid (Hw13.out.trans (hb14.mono Hw13.out.size))
    have ka := part_on Ka.out hb14
    have kb := part_on Kb.out hb14
    have kc := part_on Kc.out hb14
    have kd := part_on Kd.out hb14
    have kx := part_on Kx.out hb14
    have ky := part_on Ky.out hb14
    have kp := part_on Kp.out hb14
    have kr := part_on Kr.out hb14
    clear Ka Kb Kc Kd Kx Ky Kp Kr hb14
    obtain ⟨ya0, ya1, ya2⟩ := part_at ka
    obtain ⟨yb0, yb1, yb2⟩ := part_at kb
    obtain ⟨yc0, yc1, yc2⟩ := part_at kc
    obtain ⟨yd0, yd1, yd2⟩ := part_at kd
    obtain ⟨yx0, yx1, yx2⟩ := part_at kx
    obtain ⟨yy0, yy1, yy2⟩ := part_at ky
    obtain ⟨yp0, yp1, yp2⟩ := part_at kp
    obtain ⟨yr0, yr1, yr2⟩ := part_at kr
    have Ka := Lib.hid ka
    have Kb := Lib.hid kb
    have Kc := Lib.hid kc
    have Kd := Lib.hid kd
    have Kx := Lib.hid kx
    have Ky := Lib.hid ky
    have Kp := Lib.hid kp
    have Kr := Lib.hid kr
    clear ka kb kc kd kx ky kp kr
    go_wp2_with fail
    clear ya0 ya1 ya2 yb0 yb1 yb2 yc0 yc1 yc2 yd0 yd1 yd2 yx0 yx1 yx2 yy0 yy1 yy2 yp0 yp1 yp2 yr0 yr1 yr2
    exact bodyPost_ret (v := .bool true) (by simp [results, Tryz.results5, go_sem]) rfl ⟨rfl, Hw14.out⟩

set_option maxRecDepth 100000 in
set_option maxHeartbeats 8000000 in
theorem orders_lt_p (a1 a2 b1 b2 c1 c2 : ByteArray) (ha : okP (a1, a2) = true) (hb : okP (b1, b2) = true) (hc : okP (c1, c2) = true) (sa : shortP 60 (a1, a2) = true) (sb : shortP 60 (b1, b2) = true) (sc : shortP 60 (c1, c2) = true) (hn : (pv (a1, a2)).1 * (pv (b1, b2)).2 < (pv (b1, b2)).1 * (pv (a1, a2)).2) (hcz : ¬ c1 = zeroB) (w : World) (ht : Tens w) (h0 : 0 < w.heap.size) :
    Calls Tryz.prog 5 #[.agg #[.string a1, .string a2], .agg #[.string b1, .string b2], .agg #[.string c1, .string c2]] w fun e w' => e = .returned (.bool true) ∧ Below w.heap.size w w' := by
  have HT : ∀ W, Below w.heap.size w W → Tens W := fun W hW j hj => cell_later hW (ht j hj)
  have HAL : Hid (∀ W, Below w.heap.size w W → Calls Tryz.prog 20 #[] W fun e w' => e = .returned (.bool true) ∧ Below W.heap.size W w') := Lib.hid fun W hW => alive_any W (HT W hW) (by have := hW.size; omega)
  have sha : a1.size ≤ 60 ∧ a2.size ≤ 60 := by unfold shortP at sa; simpa using sa
  have shb : b1.size ≤ 60 ∧ b2.size ≤ 60 := by unfold shortP at sb; simpa using sb
  have shc : c1.size ≤ 60 ∧ c2.size ≤ 60 := by unfold shortP at sc; simpa using sc
  have mA := sm_of (k := 60) ha sha.1 sha.2
  have mB := sm_of (k := 60) hb shb.1 shb.2
  have mC := sm_of (k := 60) hc shc.1 shc.2
  have eA := pt_pv ha; have eB := pt_pv hb; have eC := pt_pv hc
  have hzz := num_zero hc
  have hcmp : cmpF (pv (a1, a2)) (pv (b1, b2)) = (-1) := cmpF_lt hn
  have C1 := useCmp HT ha hb hcmp
  have C2 := useCmp (z := 1) HT hb ha (by rw [cmpF_swap, hcmp] <;> rfl)
  have heq : ¬ (a1, a2) = (b1, b2) := fun h => by rw [h] at hn; exact Nat.lt_irrefl _ hn
  obtain ⟨⟨d1, d2⟩, hsub⟩ : ∃ r, subS (a1, a2) (b1, b2) = (r, 11) := ⟨_, subS_less ha hb hn⟩
  have Q2 := useSub HT hsub ha hb
  generalize hgA : pv (a1, a2) = A at *
  generalize hgB : pv (b1, b2) = B at *
  generalize hgC : pv (c1, c2) = C at *
  have m1 := mA.add mC (m := 121) rfl; have m2 := mB.add mC (m := 121) rfl; have m3 := mA.mul mC (m := 120) rfl; have m4 := mB.mul mC (m := 120) rfl
  have q3 := add_pt mA mC (by decide); have q4 := add_pt mB mC (by decide); have q5 := mul_pt mA mC (by decide); have q6 := mul_pt mB mC (by decide)
  have o1 := pt_ok m1 (by decide); have o2 := pt_ok m2 (by decide); have o3 := pt_ok m3 (by decide); have o4 := pt_ok m4 (by decide)
  have v1 := pv_pt (addF A C); have v2 := pv_pt (addF B C); have v3 := pv_pt (mulF A C); have v4 := pv_pt (mulF B C)
  rw [eA, eC] at q3 q5; rw [eB, eC] at q4 q6
  obtain ⟨⟨x1, x2⟩, hx⟩ : ∃ r, ptOf (addF A C) = r := ⟨_, rfl⟩
  obtain ⟨⟨y1, y2⟩, hy⟩ : ∃ r, ptOf (addF B C) = r := ⟨_, rfl⟩
  obtain ⟨⟨p1, p2⟩, hp⟩ : ∃ r, ptOf (mulF A C) = r := ⟨_, rfl⟩
  obtain ⟨⟨r1, r2⟩, hr⟩ : ∃ r, ptOf (mulF B C) = r := ⟨_, rfl⟩
  rw [hx] at q3 o1 v1; rw [hy] at q4 o2 v2; rw [hp] at q5 o3 v3; rw [hr] at q6 o4 v4
  have Q3 := useAdd HT q3 ha hc; have Q4 := useAdd HT q4 hb hc; have Q5 := useMul HT q5 ha hc; have Q6 := useMul HT q6 hb hc
  have C3 := useCmp (z := (-1)) HT o3 o4 (by rw [v3, v4]; exact (cmpF_prod mA.fr mB.fr mC.fr (Nat.pos_of_ne_zero (by rw [Ne, hzz]; exact hcz))).trans hcmp)
  have C4 := useCmp (z := (-1)) HT o1 o2 (by rw [v1, v2]; exact (cmpF_sum mA.fr mB.fr mC.fr).trans hcmp)
  have U1 := useChk HT ha; have U2 := useChk HT hb; have U3 := useChk HT hc
  have HSH := Lib.hid (And.intro sa (And.intro sb sc)); have HEQ := Lib.hid heq; have HCZ := Lib.hid hcz
  clear q3 q4 q5 q6 o1 o2 o3 o4 v1 v2 v3 v4 m1 m2 m3 m4 mA mB mC eA eB eC hx hy hp hr hsub hcmp hn heq hcz hzz sha shb shc sa sb sc HT ht ha hb hc hgA hgB hgC
  obtain ⟨V1, hV1⟩ : ∃ W, W = w.alloc (.cells #[.string a1, .string a2] 24) := ⟨_, rfl⟩
  obtain ⟨V2, hV2⟩ : ∃ W, W = V1.alloc (.cells #[.string b1, .string b2] 24) := ⟨_, rfl⟩
  obtain ⟨V3, hV3⟩ : ∃ W, W = V2.alloc (.cells #[.string c1, .string c2] 24) := ⟨_, rfl⟩
  have v01 : Below w.heap.size w V1 := by rw [hV1]; exact (Below.refl _ _).alloc (Nat.le_refl _) _
  have v12 : Below V1.heap.size V1 V2 := by rw [hV2]; exact (Below.refl _ _).alloc (Nat.le_refl _) _
  have v23 : Below V2.heap.size V2 V3 := by rw [hV3]; exact (Below.refl _ _).alloc (Nat.le_refl _) _
  have z1 : V1.heap.size = w.heap.size + 1 := by rw [hV1, World.size_alloc]
  have z2 : V2.heap.size = w.heap.size + 1 + 1 := by rw [hV2, World.size_alloc, z1]
  have ka : V3.heap[w.heap.size]? = some (partO a1 a2) := part_on (part_on (by rw [hV1]; exact Go.Deep.blk_alloc_new _ _) v12) v23
  have kb : V3.heap[w.heap.size + 1]? = some (partO b1 b2) := part_on (by rw [← z1, hV2]; exact Go.Deep.blk_alloc_new _ _) v23
  have kc : V3.heap[w.heap.size + 1 + 1]? = some (partO c1 c2) := by rw [← z2, hV3]; exact Go.Deep.blk_alloc_new _ _
  have HB := Lib.hid (v01.trans ((below_chain v12 v23).mono v01.size))
  have HV1 := Lib.hid hV1; have HV2 := Lib.hid hV2; have HV3 := Lib.hid hV3; have Ka := Lib.hid ka; have Kb := Lib.hid kb; have Kc := Lib.hid kc
  clear hV1 hV2 hV3 v01 v12 v23 z1 z2 ka kb kc
  go_enter Tryz.func5, Tryz.ntmps5
  go_wp2_with fail
  rw [← HV1.out, ← HV2.out, ← HV3.out]
  refine (HAL.out V3 HB.out).mono ?_
  rintro e w1 ⟨rfl, hb1⟩
  have Hw1 := Lib.hid (HB.out.trans (hb1.mono HB.out.size))
  have ka := part_on Ka.out hb1
  have kb := part_on Kb.out hb1
  have kc := part_on Kc.out hb1
  clear Ka Kb Kc hb1
  obtain ⟨ya0, ya1, ya2⟩ := part_at ka
  obtain ⟨yb0, yb1, yb2⟩ := part_at kb
  obtain ⟨yc0, yc1, yc2⟩ := part_at kc
  obtain ⟨W1, hW1⟩ : ∃ W, W = w1.alloc (.cells #[.string a1, .string a2, .string b1, .string b2, .string c1, .string c2] 24) := ⟨_, rfl⟩
  have bb : Below w1.heap.size w1 W1 := by rw [hW1]; exact (Below.refl _ _).alloc (Nat.le_refl _) _
  have Ka := Lib.hid (part_on ka bb)
  have Kb := Lib.hid (part_on kb bb)
  have Kc := Lib.hid (part_on kc bb)
  have HW1 := Lib.hid (Hw1.out.trans (bb.mono Hw1.out.size))
  have kk : W1.heap[w1.heap.size]? = some (.cells #[.string a1, .string a2, .string b1, .string b2, .string c1, .string c2] 24 (0, 0)) := by rw [hW1]; exact Go.Deep.blk_alloc_new _ _
  have KK := Lib.hid kk
  clear kk
  have HEW1 := Lib.hid hW1
  clear bb hW1 ka kb kc
  go_wp2_with fail
  rw [← HEW1.out]
  clear ya0 ya1 ya2 yb0 yb1 yb2 yc0 yc1 yc2
  have hsh := short_any 60 [(a1, a2), (b1, b2), (c1, c2)] (.slice (some ⟨w1.heap.size, 0, none⟩) 3 3) W1 (.inr ⟨w1.heap.size, 0, 3, rfl, by simp, by decide, (Array.getElem?_eq_some_iff.1 KK.out).1, fun i hi => by
    match i, hi with
    | 0, _ => exact ⟨by rw [set_cells KK.out]; rfl, by rw [set_cells KK.out]; rfl⟩
    | 1, _ => exact ⟨by rw [set_cells KK.out]; rfl, by rw [set_cells KK.out]; rfl⟩
    | 2, _ => exact ⟨by rw [set_cells KK.out]; rfl, by rw [set_cells KK.out]; rfl⟩⟩) (by simp) (by decide)
  have hall : [(a1, a2), (b1, b2), (c1, c2)].all (shortP 60) = true := by
    simp only [List.all_cons, List.all_nil, HSH.out.1, HSH.out.2.1, HSH.out.2.2, Bool.and_self]
  rw [hall] at hsh
  have HSHORT := Lib.hid hsh
  clear hsh hall KK
  refine (HSHORT.out).mono ?_
  rintro e w2 ⟨rfl, hb2⟩
  have Hw2 := Lib.hid (HW1.out.trans (hb2.mono HW1.out.size))
  have ka := part_on Ka.out hb2
  have kb := part_on Kb.out hb2
  have kc := part_on Kc.out hb2
  clear Ka Kb Kc hb2
  obtain ⟨ya0, ya1, ya2⟩ := part_at ka
  obtain ⟨yb0, yb1, yb2⟩ := part_at kb
  obtain ⟨yc0, yc1, yc2⟩ := part_at kc
  have Ka := Lib.hid ka
  have Kb := Lib.hid kb
  have Kc := Lib.hid kc
  clear ka kb kc
  go_wp2_with fail
  clear ya0 ya1 ya2 yb0 yb1 yb2 yc0 yc1 yc2
  refine (U1.out w2 Hw2.out).mono ?_
  rintro e w3 ⟨rfl, hb3⟩
  have Hw3 := Lib.hid (Hw2.out.trans (hb3.mono Hw2.out.size))
  have ka := part_on Ka.out hb3
  have kb := part_on Kb.out hb3
  have kc := part_on Kc.out hb3
  clear Ka Kb Kc hb3
  obtain ⟨ya0, ya1, ya2⟩ := part_at ka
  obtain ⟨yb0, yb1, yb2⟩ := part_at kb
  obtain ⟨yc0, yc1, yc2⟩ := part_at kc
  have Ka := Lib.hid ka
  have Kb := Lib.hid kb
  have Kc := Lib.hid kc
  clear ka kb kc
  go_wp2_with fail
  clear ya0 ya1 ya2 yb0 yb1 yb2 yc0 yc1 yc2
  refine (U2.out w3 Hw3.out).mono ?_
  rintro e w4 ⟨rfl, hb4⟩
  have Hw4 := Lib.hid (Hw3.out.trans (hb4.mono Hw3.out.size))
  have ka := part_on Ka.out hb4
  have kb := part_on Kb.out hb4
  have kc := part_on Kc.out hb4
  clear Ka Kb Kc hb4
  obtain ⟨ya0, ya1, ya2⟩ := part_at ka
  obtain ⟨yb0, yb1, yb2⟩ := part_at kb
  obtain ⟨yc0, yc1, yc2⟩ := part_at kc
  have Ka := Lib.hid ka
  have Kb := Lib.hid kb
  have Kc := Lib.hid kc
  clear ka kb kc
  go_wp2_with fail
  clear ya0 ya1 ya2 yb0 yb1 yb2 yc0 yc1 yc2
  refine (U3.out w4 Hw4.out).mono ?_
  rintro e w5 ⟨rfl, hb5⟩
  have Hw5 := Lib.hid (Hw4.out.trans (hb5.mono Hw4.out.size))
  have ka := part_on Ka.out hb5
  have kb := part_on Kb.out hb5
  have kc := part_on Kc.out hb5
  clear Ka Kb Kc hb5
  obtain ⟨ya0, ya1, ya2⟩ := part_at ka
  obtain ⟨yb0, yb1, yb2⟩ := part_at kb
  obtain ⟨yc0, yc1, yc2⟩ := part_at kc
  have Ka := Lib.hid ka
  have Kb := Lib.hid kb
  have Kc := Lib.hid kc
  clear ka kb kc
  go_wp2_with fail
  clear ya0 ya1 ya2 yb0 yb1 yb2 yc0 yc1 yc2
  refine (C1.out w5 Hw5.out).mono ?_
  rintro e w6 ⟨rfl, hb6⟩
  have Hw6 := Lib.hid (Hw5.out.trans (hb6.mono Hw5.out.size))
  have ka := part_on Ka.out hb6
  have kb := part_on Kb.out hb6
  have kc := part_on Kc.out hb6
  clear Ka Kb Kc hb6
  obtain ⟨ya0, ya1, ya2⟩ := part_at ka
  obtain ⟨yb0, yb1, yb2⟩ := part_at kb
  obtain ⟨yc0, yc1, yc2⟩ := part_at kc
  have Ka := Lib.hid ka
  have Kb := Lib.hid kb
  have Kc := Lib.hid kc
  clear ka kb kc
  go_wp2_with fail
  clear ya0 ya1 ya2 yb0 yb1 yb2 yc0 yc1 yc2
  refine (Q2.out w6 Hw6.out).mono ?_
  rintro e w7 ⟨rfl, hb7⟩
  have Hw7 := Lib.hid (Hw6.out.trans (hb7.mono Hw6.out.size))
  have ka := part_on Ka.out hb7
  have kb := part_on Kb.out hb7
  have kc := part_on Kc.out hb7
  clear Ka Kb Kc hb7
  obtain ⟨ya0, ya1, ya2⟩ := part_at ka
  obtain ⟨yb0, yb1, yb2⟩ := part_at kb
  obtain ⟨yc0, yc1, yc2⟩ := part_at kc
  obtain ⟨W7, hW7⟩ : ∃ W, W = w7.alloc (.cells #[.string d1, .string d2] 24) := ⟨_, rfl⟩
  have bb : Below w7.heap.size w7 W7 := by rw [hW7]; exact (Below.refl _ _).alloc (Nat.le_refl _) _
  have Ka := Lib.hid (part_on ka bb)
  have Kb := Lib.hid (part_on kb bb)
  have Kc := Lib.hid (part_on kc bb)
  have HW7 := Lib.hid (Hw7.out.trans (bb.mono Hw7.out.size))
  have Kd : Hid (W7.heap[w7.heap.size]? = some (partO d1 d2)) := Lib.hid (by rw [hW7]; exact Go.Deep.blk_alloc_new _ _)
  have HEW7 := Lib.hid hW7
  clear bb hW7 ka kb kc
  go_wp2_with fail
  rw [← HEW7.out]
  clear ya0 ya1 ya2 yb0 yb1 yb2 yc0 yc1 yc2
  refine (Q3.out W7 HW7.out).mono ?_
  rintro e w8 ⟨rfl, hb8⟩
  have Hw8 := Lib.hid (HW7.out.trans (hb8.mono HW7.out.size))
  have ka := part_on Ka.out hb8
  have kb := part_on Kb.out hb8
  have kc := part_on Kc.out hb8
  have kd := part_on Kd.out hb8
  clear Ka Kb Kc Kd hb8
  obtain ⟨ya0, ya1, ya2⟩ := part_at ka
  obtain ⟨yb0, yb1, yb2⟩ := part_at kb
  obtain ⟨yc0, yc1, yc2⟩ := part_at kc
  obtain ⟨yd0, yd1, yd2⟩ := part_at kd
  obtain ⟨W8, hW8⟩ : ∃ W, W = w8.alloc (.cells #[.string x1, .string x2] 24) := ⟨_, rfl⟩
  have bb : Below w8.heap.size w8 W8 := by rw [hW8]; exact (Below.refl _ _).alloc (Nat.le_refl _) _
  have Ka := Lib.hid (part_on ka bb)
  have Kb := Lib.hid (part_on kb bb)
  have Kc := Lib.hid (part_on kc bb)
  have Kd := Lib.hid (part_on kd bb)
  have HW8 := Lib.hid (Hw8.out.trans (bb.mono Hw8.out.size))
  have Kx : Hid (W8.heap[w8.heap.size]? = some (partO x1 x2)) := Lib.hid (by rw [hW8]; exact Go.Deep.blk_alloc_new _ _)
  have HEW8 := Lib.hid hW8
  clear bb hW8 ka kb kc kd
  go_wp2_with fail
  rw [← HEW8.out]
  clear ya0 ya1 ya2 yb0 yb1 yb2 yc0 yc1 yc2 yd0 yd1 yd2
  refine (Q4.out W8 HW8.out).mono ?_
  rintro e w9 ⟨rfl, hb9⟩
  have Hw9 := Lib.hid (HW8.out.trans (hb9.mono HW8.out.size))
  have ka := part_on Ka.out hb9
  have kb := part_on Kb.out hb9
  have kc := part_on Kc.out hb9
  have kd := part_on Kd.out hb9
  have kx := part_on Kx.out hb9
  clear Ka Kb Kc Kd Kx hb9
  obtain ⟨ya0, ya1, ya2⟩ := part_at ka
  obtain ⟨yb0, yb1, yb2⟩ := part_at kb
  obtain ⟨yc0, yc1, yc2⟩ := part_at kc
  obtain ⟨yd0, yd1, yd2⟩ := part_at kd
  obtain ⟨yx0, yx1, yx2⟩ := part_at kx
  obtain ⟨W9, hW9⟩ : ∃ W, W = w9.alloc (.cells #[.string y1, .string y2] 24) := ⟨_, rfl⟩
  have bb : Below w9.heap.size w9 W9 := by rw [hW9]; exact (Below.refl _ _).alloc (Nat.le_refl _) _
  have Ka := Lib.hid (part_on ka bb)
  have Kb := Lib.hid (part_on kb bb)
  have Kc := Lib.hid (part_on kc bb)
  have Kd := Lib.hid (part_on kd bb)
  have Kx := Lib.hid (part_on kx bb)
  have HW9 := Lib.hid (Hw9.out.trans (bb.mono Hw9.out.size))
  have Ky : Hid (W9.heap[w9.heap.size]? = some (partO y1 y2)) := Lib.hid (by rw [hW9]; exact Go.Deep.blk_alloc_new _ _)
  have HEW9 := Lib.hid hW9
  clear bb hW9 ka kb kc kd kx
  go_wp2_with fail
  rw [← HEW9.out]
  clear ya0 ya1 ya2 yb0 yb1 yb2 yc0 yc1 yc2 yd0 yd1 yd2 yx0 yx1 yx2
  refine (Q5.out W9 HW9.out).mono ?_
  rintro e w10 ⟨rfl, hb10⟩
  have Hw10 := Lib.hid (HW9.out.trans (hb10.mono HW9.out.size))
  have ka := part_on Ka.out hb10
  have kb := part_on Kb.out hb10
  have kc := part_on Kc.out hb10
  have kd := part_on Kd.out hb10
  have kx := part_on Kx.out hb10
  have ky := part_on Ky.out hb10
  clear Ka Kb Kc Kd Kx Ky hb10
  obtain ⟨ya0, ya1, ya2⟩ := part_at ka
  obtain ⟨yb0, yb1, yb2⟩ := part_at kb
  obtain ⟨yc0, yc1, yc2⟩ := part_at kc
  obtain ⟨yd0, yd1, yd2⟩ := part_at kd
  obtain ⟨yx0, yx1, yx2⟩ := part_at kx
  obtain ⟨yy0, yy1, yy2⟩ := part_at ky
  obtain ⟨W10, hW10⟩ : ∃ W, W = w10.alloc (.cells #[.string p1, .string p2] 24) := ⟨_, rfl⟩
  have bb : Below w10.heap.size w10 W10 := by rw [hW10]; exact (Below.refl _ _).alloc (Nat.le_refl _) _
  have Ka := Lib.hid (part_on ka bb)
  have Kb := Lib.hid (part_on kb bb)
  have Kc := Lib.hid (part_on kc bb)
  have Kd := Lib.hid (part_on kd bb)
  have Kx := Lib.hid (part_on kx bb)
  have Ky := Lib.hid (part_on ky bb)
  have HW10 := Lib.hid (Hw10.out.trans (bb.mono Hw10.out.size))
  have Kp : Hid (W10.heap[w10.heap.size]? = some (partO p1 p2)) := Lib.hid (by rw [hW10]; exact Go.Deep.blk_alloc_new _ _)
  have HEW10 := Lib.hid hW10
  clear bb hW10 ka kb kc kd kx ky
  go_wp2_with fail
  rw [← HEW10.out]
  clear ya0 ya1 ya2 yb0 yb1 yb2 yc0 yc1 yc2 yd0 yd1 yd2 yx0 yx1 yx2 yy0 yy1 yy2
  refine (Q6.out W10 HW10.out).mono ?_
  rintro e w11 ⟨rfl, hb11⟩
  have Hw11 := Lib.hid (HW10.out.trans (hb11.mono HW10.out.size))
  have ka := part_on Ka.out hb11
  have kb := part_on Kb.out hb11
  have kc := part_on Kc.out hb11
  have kd := part_on Kd.out hb11
  have kx := part_on Kx.out hb11
  have ky := part_on Ky.out hb11
  have kp := part_on Kp.out hb11
  clear Ka Kb Kc Kd Kx Ky Kp hb11
  obtain ⟨ya0, ya1, ya2⟩ := part_at ka
  obtain ⟨yb0, yb1, yb2⟩ := part_at kb
  obtain ⟨yc0, yc1, yc2⟩ := part_at kc
  obtain ⟨yd0, yd1, yd2⟩ := part_at kd
  obtain ⟨yx0, yx1, yx2⟩ := part_at kx
  obtain ⟨yy0, yy1, yy2⟩ := part_at ky
  obtain ⟨yp0, yp1, yp2⟩ := part_at kp
  obtain ⟨W11, hW11⟩ : ∃ W, W = w11.alloc (.cells #[.string r1, .string r2] 24) := ⟨_, rfl⟩
  have bb : Below w11.heap.size w11 W11 := by rw [hW11]; exact (Below.refl _ _).alloc (Nat.le_refl _) _
  have Ka := Lib.hid (part_on ka bb)
  have Kb := Lib.hid (part_on kb bb)
  have Kc := Lib.hid (part_on kc bb)
  have Kd := Lib.hid (part_on kd bb)
  have Kx := Lib.hid (part_on kx bb)
  have Ky := Lib.hid (part_on ky bb)
  have Kp := Lib.hid (part_on kp bb)
  have HW11 := Lib.hid (Hw11.out.trans (bb.mono Hw11.out.size))
  have Kr : Hid (W11.heap[w11.heap.size]? = some (partO r1 r2)) := Lib.hid (by rw [hW11]; exact Go.Deep.blk_alloc_new _ _)
  have HEW11 := Lib.hid hW11
  clear bb hW11 ka kb kc kd kx ky kp
  go_wp2_with fail
  rw [← HEW11.out]
  clear ya0 ya1 ya2 yb0 yb1 yb2 yc0 yc1 yc2 yd0 yd1 yd2 yx0 yx1 yx2 yy0 yy1 yy2 yp0 yp1 yp2
  have hc0 : ¬ c1 = ⟨#[48]⟩ := HCZ.out
  have hc0l : ¬ c1.toList = [48] := fun h => hc0 (list_inj (h.trans (by rw [ByteArray.toList_eq])))
  have hc0b : (c1.toList == [48]) = false := beq_eq_false_iff_ne.2 hc0l
  refine (C3.out W11 HW11.out).mono ?_
  rintro e w12 ⟨rfl, hb12⟩
  have Hw12 := Lib.hid (HW11.out.trans (hb12.mono HW11.out.size))
  have ka := part_on Ka.out hb12
  have kb := part_on Kb.out hb12
  have kc := part_on Kc.out hb12
  have kd := part_on Kd.out hb12
  have kx := part_on Kx.out hb12
  have ky := part_on Ky.out hb12
  have kp := part_on Kp.out hb12
  have kr := part_on Kr.out hb12
  clear Ka Kb Kc Kd Kx Ky Kp Kr hb12
  obtain ⟨ya0, ya1, ya2⟩ := part_at ka
  obtain ⟨yb0, yb1, yb2⟩ := part_at kb
  obtain ⟨yc0, yc1, yc2⟩ := part_at kc
  obtain ⟨yd0, yd1, yd2⟩ := part_at kd
  obtain ⟨yx0, yx1, yx2⟩ := part_at kx
  obtain ⟨yy0, yy1, yy2⟩ := part_at ky
  obtain ⟨yp0, yp1, yp2⟩ := part_at kp
  obtain ⟨yr0, yr1, yr2⟩ := part_at kr
  have Ka := Lib.hid ka
  have Kb := Lib.hid kb
  have Kc := Lib.hid kc
  have Kd := Lib.hid kd
  have Kx := Lib.hid kx
  have Ky := Lib.hid ky
  have Kp := Lib.hid kp
  have Kr := Lib.hid kr
  clear ka kb kc kd kx ky kp kr
  go_wp2_with fail
  clear ya0 ya1 ya2 yb0 yb1 yb2 yc0 yc1 yc2 yd0 yd1 yd2 yx0 yx1 yx2 yy0 yy1 yy2 yp0 yp1 yp2 yr0 yr1 yr2
  by_cases e1 : a1 = b1
  · have e2 : ¬ a2 = b2 := fun h => HEQ.out (Prod.ext e1 h)
    subst e1
    have e2l : ¬ a2.toList = b2.toList := fun h => e2 (list_inj h)
    refine (C2.out w12 Hw12.out).mono ?_
    rintro e w13 ⟨rfl, hb13⟩
    have Hw13 := Lib.hid (Hw12.out.trans (hb13.mono Hw12.out.size))
    have ka := part_on Ka.out hb13
    have kb := part_on Kb.out hb13
    have kc := part_on Kc.out hb13
    have kd := part_on Kd.out hb13
    have kx := part_on Kx.out hb13
    have ky := part_on Ky.out hb13
    have kp := part_on Kp.out hb13
    have kr := part_on Kr.out hb13
    clear Ka Kb Kc Kd Kx Ky Kp Kr hb13
    obtain ⟨ya0, ya1, ya2⟩ := part_at ka
    obtain ⟨yb0, yb1, yb2⟩ := part_at kb
    obtain ⟨yc0, yc1, yc2⟩ := part_at kc
    obtain ⟨yd0, yd1, yd2⟩ := part_at kd
    obtain ⟨yx0, yx1, yx2⟩ := part_at kx
    obtain ⟨yy0, yy1, yy2⟩ := part_at ky
    obtain ⟨yp0, yp1, yp2⟩ := part_at kp
    obtain ⟨yr0, yr1, yr2⟩ := part_at kr
    have Ka := Lib.hid ka
    have Kb := Lib.hid kb
    have Kc := Lib.hid kc
    have Kd := Lib.hid kd
    have Kx := Lib.hid kx
    have Ky := Lib.hid ky
    have Kp := Lib.hid kp
    have Kr := Lib.hid kr
    clear ka kb kc kd kx ky kp kr
    go_wp2_with fail
    clear ya0 ya1 ya2 yb0 yb1 yb2 yc0 yc1 yc2 yd0 yd1 yd2 yx0 yx1 yx2 yy0 yy1 yy2 yp0 yp1 yp2 yr0 yr1 yr2
    refine (C4.out w13 Hw13.out).mono ?_
    rintro e w14 ⟨rfl, hb14⟩
    have Hw14 := Lib.hid (Hw13.out.trans (hb14.mono Hw13.out.size))
    have ka := part_on Ka.out hb14
    have kb := part_on Kb.out hb14
    have kc := part_on Kc.out hb14
    have kd := part_on Kd.out hb14
    have kx := part_on Kx.out hb14
    have ky := part_on Ky.out hb14
    have kp := part_on Kp.out hb14
    have kr := part_on Kr.out hb14
    clear Ka Kb Kc Kd Kx Ky Kp Kr hb14
    obtain ⟨ya0, ya1, ya2⟩ := part_at ka
    obtain ⟨yb0, yb1, yb2⟩ := part_at kb
    obtain ⟨yc0, yc1, yc2⟩ := part_at kc
    obtain ⟨yd0, yd1, yd2⟩ := part_at kd
    obtain ⟨yx0, yx1, yx2⟩ := part_at kx
    obtain ⟨yy0, yy1, yy2⟩ := part_at ky
    obtain ⟨yp0, yp1, yp2⟩ := part_at kp
    obtain ⟨yr0, yr1, yr2⟩ := part_at kr
    have Ka := Lib.hid ka
    have Kb := Lib.hid kb
    have Kc := Lib.hid kc
    have Kd := Lib.hid kd
    have Kx := Lib.hid kx
    have Ky := Lib.hid ky
    have Kp := Lib.hid kp
    have Kr := Lib.hid kr
    clear ka kb kc kd kx ky kp kr
    go_wp2_with fail
    clear ya0 ya1 ya2 yb0 yb1 yb2 yc0 yc1 yc2 yd0 yd1 yd2 yx0 yx1 yx2 yy0 yy1 yy2 yp0 yp1 yp2 yr0 yr1 yr2
    exact bodyPost_ret (v := .bool true) (by simp [results, hc0b, Tryz.results5, go_sem]) rfl ⟨rfl, Hw14.out⟩
  · have e3 : ¬ b1 = a1 := fun h => e1 h.symm
    have e2l : ¬ a1.toList = b1.toList := fun h => e1 (list_inj h)
    refine (C2.out w12 Hw12.out).mono ?_
    rintro e w13 ⟨rfl, hb13⟩
    have Hw13 := Lib.hid (Hw12.out.trans (hb13.mono Hw12.out.size))
    have ka := part_on Ka.out hb13
    have kb := part_on Kb.out hb13
    have kc := part_on Kc.out hb13
    have kd := part_on Kd.out hb13
    have kx := part_on Kx.out hb13
    have ky := part_on Ky.out hb13
    have kp := part_on Kp.out hb13
    have kr := part_on Kr.out hb13
    clear Ka Kb Kc Kd Kx Ky Kp Kr hb13
    obtain ⟨ya0, ya1, ya2⟩ := part_at ka
    obtain ⟨yb0, yb1, yb2⟩ := part_at kb
    obtain ⟨yc0, yc1, yc2⟩ := part_at kc
    obtain ⟨yd0, yd1, yd2⟩ := part_at kd
    obtain ⟨yx0, yx1, yx2⟩ := part_at kx
    obtain ⟨yy0, yy1, yy2⟩ := part_at ky
    obtain ⟨yp0, yp1, yp2⟩ := part_at kp
    obtain ⟨yr0, yr1, yr2⟩ := part_at kr
    have Ka := Lib.hid ka
    have Kb := Lib.hid kb
    have Kc := Lib.hid kc
    have Kd := Lib.hid kd
    have Kx := Lib.hid kx
    have Ky := Lib.hid ky
    have Kp := Lib.hid kp
    have Kr := Lib.hid kr
    clear ka kb kc kd kx ky kp kr
    go_wp2_with fail
    clear ya0 ya1 ya2 yb0 yb1 yb2 yc0 yc1 yc2 yd0 yd1 yd2 yx0 yx1 yx2 yy0 yy1 yy2 yp0 yp1 yp2 yr0 yr1 yr2
    refine (C4.out w13 Hw13.out).mono ?_
    rintro e w14 ⟨rfl, hb14⟩
    have Hw14 := Lib.hid (Hw13.out.trans (hb14.mono Hw13.out.size))
    have ka := part_on Ka.out hb14
    have kb := part_on Kb.out hb14
    have kc := part_on Kc.out hb14
    have kd := part_on Kd.out hb14
    have kx := part_on Kx.out hb14
    have ky := part_on Ky.out hb14
    have kp := part_on Kp.out hb14
    have kr := part_on Kr.out hb14
    clear Ka Kb Kc Kd Kx Ky Kp Kr hb14
    obtain ⟨ya0, ya1, ya2⟩ := part_at ka
    obtain ⟨yb0, yb1, yb2⟩ := part_at kb
    obtain ⟨yc0, yc1, yc2⟩ := part_at kc
    obtain ⟨yd0, yd1, yd2⟩ := part_at kd
    obtain ⟨yx0, yx1, yx2⟩ := part_at kx
    obtain ⟨yy0, yy1, yy2⟩ := part_at ky
    obtain ⟨yp0, yp1, yp2⟩ := part_at kp
    obtain ⟨yr0, yr1, yr2⟩ := part_at kr
    have Ka := Lib.hid ka
    have Kb := Lib.hid kb
    have Kc := Lib.hid kc
    have Kd := Lib.hid kd
    have Kx := Lib.hid kx
    have Ky := Lib.hid ky
    have Kp := Lib.hid kp
    have Kr := Lib.hid kr
    clear ka kb kc kd kx ky kp kr
    go_wp2_with fail
    clear ya0 ya1 ya2 yb0 yb1 yb2 yc0 yc1 yc2 yd0 yd1 yd2 yx0 yx1 yx2 yy0 yy1 yy2 yp0 yp1 yp2 yr0 yr1 yr2
    exact bodyPost_ret (v := .bool true) (by simp [results, hc0b, Tryz.results5, go_sem]) rfl ⟨rfl, Hw14.out⟩

set_option maxRecDepth 100000 in
set_option maxHeartbeats 8000000 in
theorem orders_eq_z (a1 a2 b1 b2 c1 c2 : ByteArray) (ha : okP (a1, a2) = true) (hb : okP (b1, b2) = true) (hc : okP (c1, c2) = true) (sa : shortP 60 (a1, a2) = true) (sb : shortP 60 (b1, b2) = true) (sc : shortP 60 (c1, c2) = true) (hn : (pv (a1, a2)).1 * (pv (b1, b2)).2 = (pv (b1, b2)).1 * (pv (a1, a2)).2) (hcz : c1 = zeroB) (w : World) (ht : Tens w) (h0 : 0 < w.heap.size) :
    Calls Tryz.prog 5 #[.agg #[.string a1, .string a2], .agg #[.string b1, .string b2], .agg #[.string c1, .string c2]] w fun e w' => e = .returned (.bool true) ∧ Below w.heap.size w w' := by
  have HT : ∀ W, Below w.heap.size w W → Tens W := fun W hW j hj => cell_later hW (ht j hj)
  have HAL : Hid (∀ W, Below w.heap.size w W → Calls Tryz.prog 20 #[] W fun e w' => e = .returned (.bool true) ∧ Below W.heap.size W w') := Lib.hid fun W hW => alive_any W (HT W hW) (by have := hW.size; omega)
  have sha : a1.size ≤ 60 ∧ a2.size ≤ 60 := by unfold shortP at sa; simpa using sa
  have shb : b1.size ≤ 60 ∧ b2.size ≤ 60 := by unfold shortP at sb; simpa using sb
  have shc : c1.size ≤ 60 ∧ c2.size ≤ 60 := by unfold shortP at sc; simpa using sc
  have mA := sm_of (k := 60) ha sha.1 sha.2
  have mB := sm_of (k := 60) hb shb.1 shb.2
  have mC := sm_of (k := 60) hc shc.1 shc.2
  have eA := pt_pv ha; have eB := pt_pv hb; have eC := pt_pv hc
  have hzz := num_zero hc
  have hcmp : cmpF (pv (a1, a2)) (pv (b1, b2)) = 0 := cmpF_eq hn
  have C1 := useCmp HT ha hb hcmp
  have C2 := useCmp (z := 0) HT hb ha (by rw [cmpF_swap, hcmp] <;> rfl)
  have heq : (a1, a2) = (b1, b2) := by rw [← eA, ← eB, fr_uniq mA.fr mB.fr hn]
  obtain ⟨⟨d1, d2⟩, hsub⟩ : ∃ r, subS (a1, a2) (b1, b2) = (r, 0) := ⟨_, (subS_ok ha hb (by omega)).trans (res_sm (k := 120) (low_sm (Nat.mul_pos mA.fr.pos mB.fr.pos) (Nat.lt_of_le_of_lt (Nat.sub_le _ _) (by rw [show (120:Nat) = 60 + 60 from rfl, Nat.pow_add]; exact Nat.mul_lt_mul'' mA.n mB.d)) (by rw [show (120:Nat) = 60 + 60 from rfl, Nat.pow_add]; exact Nat.mul_lt_mul'' mA.d mB.d)) (by decide))⟩
  have Q2 := useSub HT hsub ha hb
  generalize hgA : pv (a1, a2) = A at *
  generalize hgB : pv (b1, b2) = B at *
  generalize hgC : pv (c1, c2) = C at *
  have m1 := mA.add mC (m := 121) rfl; have m2 := mB.add mC (m := 121) rfl; have m3 := mA.mul mC (m := 120) rfl; have m4 := mB.mul mC (m := 120) rfl
  have q3 := add_pt mA mC (by decide); have q4 := add_pt mB mC (by decide); have q5 := mul_pt mA mC (by decide); have q6 := mul_pt mB mC (by decide)
  have o1 := pt_ok m1 (by decide); have o2 := pt_ok m2 (by decide); have o3 := pt_ok m3 (by decide); have o4 := pt_ok m4 (by decide)
  have v1 := pv_pt (addF A C); have v2 := pv_pt (addF B C); have v3 := pv_pt (mulF A C); have v4 := pv_pt (mulF B C)
  rw [eA, eC] at q3 q5; rw [eB, eC] at q4 q6
  obtain ⟨⟨x1, x2⟩, hx⟩ : ∃ r, ptOf (addF A C) = r := ⟨_, rfl⟩
  obtain ⟨⟨y1, y2⟩, hy⟩ : ∃ r, ptOf (addF B C) = r := ⟨_, rfl⟩
  obtain ⟨⟨p1, p2⟩, hp⟩ : ∃ r, ptOf (mulF A C) = r := ⟨_, rfl⟩
  obtain ⟨⟨r1, r2⟩, hr⟩ : ∃ r, ptOf (mulF B C) = r := ⟨_, rfl⟩
  rw [hx] at q3 o1 v1; rw [hy] at q4 o2 v2; rw [hp] at q5 o3 v3; rw [hr] at q6 o4 v4
  have Q3 := useAdd HT q3 ha hc; have Q4 := useAdd HT q4 hb hc; have Q5 := useMul HT q5 ha hc; have Q6 := useMul HT q6 hb hc
  have C3 := useCmp (z := 0) HT o3 o4 (by rw [v3, v4]; exact cmpF_prod0 mA.fr mB.fr mC.fr (by rw [hzz]; exact hcz))
  have C4 := useCmp (z := 0) HT o1 o2 (by rw [v1, v2]; exact (cmpF_sum mA.fr mB.fr mC.fr).trans hcmp)
  have U1 := useChk HT ha; have U2 := useChk HT hb; have U3 := useChk HT hc
  have HSH := Lib.hid (And.intro sa (And.intro sb sc)); have HEQ := Lib.hid heq; have HCZ := Lib.hid hcz
  clear q3 q4 q5 q6 o1 o2 o3 o4 v1 v2 v3 v4 m1 m2 m3 m4 mA mB mC eA eB eC hx hy hp hr hsub hcmp hn heq hcz hzz sha shb shc sa sb sc HT ht ha hb hc hgA hgB hgC
  obtain ⟨V1, hV1⟩ : ∃ W, W = w.alloc (.cells #[.string a1, .string a2] 24) := ⟨_, rfl⟩
  obtain ⟨V2, hV2⟩ : ∃ W, W = V1.alloc (.cells #[.string b1, .string b2] 24) := ⟨_, rfl⟩
  obtain ⟨V3, hV3⟩ : ∃ W, W = V2.alloc (.cells #[.string c1, .string c2] 24) := ⟨_, rfl⟩
  have v01 : Below w.heap.size w V1 := by rw [hV1]; exact (Below.refl _ _).alloc (Nat.le_refl _) _
  have v12 : Below V1.heap.size V1 V2 := by rw [hV2]; exact (Below.refl _ _).alloc (Nat.le_refl _) _
  have v23 : Below V2.heap.size V2 V3 := by rw [hV3]; exact (Below.refl _ _).alloc (Nat.le_refl _) _
  have z1 : V1.heap.size = w.heap.size + 1 := by rw [hV1, World.size_alloc]
  have z2 : V2.heap.size = w.heap.size + 1 + 1 := by rw [hV2, World.size_alloc, z1]
  have ka : V3.heap[w.heap.size]? = some (partO a1 a2) := part_on (part_on (by rw [hV1]; exact Go.Deep.blk_alloc_new _ _) v12) v23
  have kb : V3.heap[w.heap.size + 1]? = some (partO b1 b2) := part_on (by rw [← z1, hV2]; exact Go.Deep.blk_alloc_new _ _) v23
  have kc : V3.heap[w.heap.size + 1 + 1]? = some (partO c1 c2) := by rw [← z2, hV3]; exact Go.Deep.blk_alloc_new _ _
  have HB := Lib.hid (v01.trans ((below_chain v12 v23).mono v01.size))
  have HV1 := Lib.hid hV1; have HV2 := Lib.hid hV2; have HV3 := Lib.hid hV3; have Ka := Lib.hid ka; have Kb := Lib.hid kb; have Kc := Lib.hid kc
  clear hV1 hV2 hV3 v01 v12 v23 z1 z2 ka kb kc
  go_enter Tryz.func5, Tryz.ntmps5
  go_wp2_with fail
  rw [← HV1.out, ← HV2.out, ← HV3.out]
  refine (HAL.out V3 HB.out).mono ?_
  rintro e w1 ⟨rfl, hb1⟩
  have Hw1 := Lib.hid (HB.out.trans (hb1.mono HB.out.size))
  have ka := part_on Ka.out hb1
  have kb := part_on Kb.out hb1
  have kc := part_on Kc.out hb1
  clear Ka Kb Kc hb1
  obtain ⟨ya0, ya1, ya2⟩ := part_at ka
  obtain ⟨yb0, yb1, yb2⟩ := part_at kb
  obtain ⟨yc0, yc1, yc2⟩ := part_at kc
  obtain ⟨W1, hW1⟩ : ∃ W, W = w1.alloc (.cells #[.string a1, .string a2, .string b1, .string b2, .string c1, .string c2] 24) := ⟨_, rfl⟩
  have bb : Below w1.heap.size w1 W1 := by rw [hW1]; exact (Below.refl _ _).alloc (Nat.le_refl _) _
  have Ka := Lib.hid (part_on ka bb)
  have Kb := Lib.hid (part_on kb bb)
  have Kc := Lib.hid (part_on kc bb)
  have HW1 := Lib.hid (Hw1.out.trans (bb.mono Hw1.out.size))
  have kk : W1.heap[w1.heap.size]? = some (.cells #[.string a1, .string a2, .string b1, .string b2, .string c1, .string c2] 24 (0, 0)) := by rw [hW1]; exact Go.Deep.blk_alloc_new _ _
  have KK := Lib.hid kk
  clear kk
  have HEW1 := Lib.hid hW1
  clear bb hW1 ka kb kc
  go_wp2_with fail
  rw [← HEW1.out]
  clear ya0 ya1 ya2 yb0 yb1 yb2 yc0 yc1 yc2
  have hsh := short_any 60 [(a1, a2), (b1, b2), (c1, c2)] (.slice (some ⟨w1.heap.size, 0, none⟩) 3 3) W1 (.inr ⟨w1.heap.size, 0, 3, rfl, by simp, by decide, (Array.getElem?_eq_some_iff.1 KK.out).1, fun i hi => by
    match i, hi with
    | 0, _ => exact ⟨by rw [set_cells KK.out]; rfl, by rw [set_cells KK.out]; rfl⟩
    | 1, _ => exact ⟨by rw [set_cells KK.out]; rfl, by rw [set_cells KK.out]; rfl⟩
    | 2, _ => exact ⟨by rw [set_cells KK.out]; rfl, by rw [set_cells KK.out]; rfl⟩⟩) (by simp) (by decide)
  have hall : [(a1, a2), (b1, b2), (c1, c2)].all (shortP 60) = true := by
    simp only [List.all_cons, List.all_nil, HSH.out.1, HSH.out.2.1, HSH.out.2.2, Bool.and_self]
  rw [hall] at hsh
  have HSHORT := Lib.hid hsh
  clear hsh hall KK
  refine (HSHORT.out).mono ?_
  rintro e w2 ⟨rfl, hb2⟩
  have Hw2 := Lib.hid (HW1.out.trans (hb2.mono HW1.out.size))
  have ka := part_on Ka.out hb2
  have kb := part_on Kb.out hb2
  have kc := part_on Kc.out hb2
  clear Ka Kb Kc hb2
  obtain ⟨ya0, ya1, ya2⟩ := part_at ka
  obtain ⟨yb0, yb1, yb2⟩ := part_at kb
  obtain ⟨yc0, yc1, yc2⟩ := part_at kc
  have Ka := Lib.hid ka
  have Kb := Lib.hid kb
  have Kc := Lib.hid kc
  clear ka kb kc
  go_wp2_with fail
  clear ya0 ya1 ya2 yb0 yb1 yb2 yc0 yc1 yc2
  refine (U1.out w2 Hw2.out).mono ?_
  rintro e w3 ⟨rfl, hb3⟩
  have Hw3 := Lib.hid (Hw2.out.trans (hb3.mono Hw2.out.size))
  have ka := part_on Ka.out hb3
  have kb := part_on Kb.out hb3
  have kc := part_on Kc.out hb3
  clear Ka Kb Kc hb3
  obtain ⟨ya0, ya1, ya2⟩ := part_at ka
  obtain ⟨yb0, yb1, yb2⟩ := part_at kb
  obtain ⟨yc0, yc1, yc2⟩ := part_at kc
  have Ka := Lib.hid ka
  have Kb := Lib.hid kb
  have Kc := Lib.hid kc
  clear ka kb kc
  go_wp2_with fail
  clear ya0 ya1 ya2 yb0 yb1 yb2 yc0 yc1 yc2
  refine (U2.out w3 Hw3.out).mono ?_
  rintro e w4 ⟨rfl, hb4⟩
  have Hw4 := Lib.hid (Hw3.out.trans (hb4.mono Hw3.out.size))
  have ka := part_on Ka.out hb4
  have kb := part_on Kb.out hb4
  have kc := part_on Kc.out hb4
  clear Ka Kb Kc hb4
  obtain ⟨ya0, ya1, ya2⟩ := part_at ka
  obtain ⟨yb0, yb1, yb2⟩ := part_at kb
  obtain ⟨yc0, yc1, yc2⟩ := part_at kc
  have Ka := Lib.hid ka
  have Kb := Lib.hid kb
  have Kc := Lib.hid kc
  clear ka kb kc
  go_wp2_with fail
  clear ya0 ya1 ya2 yb0 yb1 yb2 yc0 yc1 yc2
  refine (U3.out w4 Hw4.out).mono ?_
  rintro e w5 ⟨rfl, hb5⟩
  have Hw5 := Lib.hid (Hw4.out.trans (hb5.mono Hw4.out.size))
  have ka := part_on Ka.out hb5
  have kb := part_on Kb.out hb5
  have kc := part_on Kc.out hb5
  clear Ka Kb Kc hb5
  obtain ⟨ya0, ya1, ya2⟩ := part_at ka
  obtain ⟨yb0, yb1, yb2⟩ := part_at kb
  obtain ⟨yc0, yc1, yc2⟩ := part_at kc
  have Ka := Lib.hid ka
  have Kb := Lib.hid kb
  have Kc := Lib.hid kc
  clear ka kb kc
  go_wp2_with fail
  clear ya0 ya1 ya2 yb0 yb1 yb2 yc0 yc1 yc2
  refine (C1.out w5 Hw5.out).mono ?_
  rintro e w6 ⟨rfl, hb6⟩
  have Hw6 := Lib.hid (Hw5.out.trans (hb6.mono Hw5.out.size))
  have ka := part_on Ka.out hb6
  have kb := part_on Kb.out hb6
  have kc := part_on Kc.out hb6
  clear Ka Kb Kc hb6
  obtain ⟨ya0, ya1, ya2⟩ := part_at ka
  obtain ⟨yb0, yb1, yb2⟩ := part_at kb
  obtain ⟨yc0, yc1, yc2⟩ := part_at kc
  have Ka := Lib.hid ka
  have Kb := Lib.hid kb
  have Kc := Lib.hid kc
  clear ka kb kc
  go_wp2_with fail
  clear ya0 ya1 ya2 yb0 yb1 yb2 yc0 yc1 yc2
  refine (Q2.out w6 Hw6.out).mono ?_
  rintro e w7 ⟨rfl, hb7⟩
  have Hw7 := Lib.hid (Hw6.out.trans (hb7.mono Hw6.out.size))
  have ka := part_on Ka.out hb7
  have kb := part_on Kb.out hb7
  have kc := part_on Kc.out hb7
  clear Ka Kb Kc hb7
  obtain ⟨ya0, ya1, ya2⟩ := part_at ka
  obtain ⟨yb0, yb1, yb2⟩ := part_at kb
  obtain ⟨yc0, yc1, yc2⟩ := part_at kc
  obtain ⟨W7, hW7⟩ : ∃ W, W = w7.alloc (.cells #[.string d1, .string d2] 24) := ⟨_, rfl⟩
  have bb : Below w7.heap.size w7 W7 := by rw [hW7]; exact (Below.refl _ _).alloc (Nat.le_refl _) _
  have Ka := Lib.hid (part_on ka bb)
  have Kb := Lib.hid (part_on kb bb)
  have Kc := Lib.hid (part_on kc bb)
  have HW7 := Lib.hid (Hw7.out.trans (bb.mono Hw7.out.size))
  have Kd : Hid (W7.heap[w7.heap.size]? = some (partO d1 d2)) := Lib.hid (by rw [hW7]; exact Go.Deep.blk_alloc_new _ _)
  have HEW7 := Lib.hid hW7
  clear bb hW7 ka kb kc
  go_wp2_with fail
  rw [← HEW7.out]
  clear ya0 ya1 ya2 yb0 yb1 yb2 yc0 yc1 yc2
  refine (Q3.out W7 HW7.out).mono ?_
  rintro e w8 ⟨rfl, hb8⟩
  have Hw8 := Lib.hid (HW7.out.trans (hb8.mono HW7.out.size))
  have ka := part_on Ka.out hb8
  have kb := part_on Kb.out hb8
  have kc := part_on Kc.out hb8
  have kd := part_on Kd.out hb8
  clear Ka Kb Kc Kd hb8
  obtain ⟨ya0, ya1, ya2⟩ := part_at ka
  obtain ⟨yb0, yb1, yb2⟩ := part_at kb
  obtain ⟨yc0, yc1, yc2⟩ := part_at kc
  obtain ⟨yd0, yd1, yd2⟩ := part_at kd
  obtain ⟨W8, hW8⟩ : ∃ W, W = w8.alloc (.cells #[.string x1, .string x2] 24) := ⟨_, rfl⟩
  have bb : Below w8.heap.size w8 W8 := by rw [hW8]; exact (Below.refl _ _).alloc (Nat.le_refl _) _
  have Ka := Lib.hid (part_on ka bb)
  have Kb := Lib.hid (part_on kb bb)
  have Kc := Lib.hid (part_on kc bb)
  have Kd := Lib.hid (part_on kd bb)
  have HW8 := Lib.hid (Hw8.out.trans (bb.mono Hw8.out.size))
  have Kx : Hid (W8.heap[w8.heap.size]? = some (partO x1 x2)) := Lib.hid (by rw [hW8]; exact Go.Deep.blk_alloc_new _ _)
  have HEW8 := Lib.hid hW8
  clear bb hW8 ka kb kc kd
  go_wp2_with fail
  rw [← HEW8.out]
  clear ya0 ya1 ya2 yb0 yb1 yb2 yc0 yc1 yc2 yd0 yd1 yd2
  refine (Q4.out W8 HW8.out).mono ?_
  rintro e w9 ⟨rfl, hb9⟩
  have Hw9 := Lib.hid (HW8.out.trans (hb9.mono HW8.out.size))
  have ka := part_on Ka.out hb9
  have kb := part_on Kb.out hb9
  have kc := part_on Kc.out hb9
  have kd := part_on Kd.out hb9
  have kx := part_on Kx.out hb9
  clear Ka Kb Kc Kd Kx hb9
  obtain ⟨ya0, ya1, ya2⟩ := part_at ka
  obtain ⟨yb0, yb1, yb2⟩ := part_at kb
  obtain ⟨yc0, yc1, yc2⟩ := part_at kc
  obtain ⟨yd0, yd1, yd2⟩ := part_at kd
  obtain ⟨yx0, yx1, yx2⟩ := part_at kx
  obtain ⟨W9, hW9⟩ : ∃ W, W = w9.alloc (.cells #[.string y1, .string y2] 24) := ⟨_, rfl⟩
  have bb : Below w9.heap.size w9 W9 := by rw [hW9]; exact (Below.refl _ _).alloc (Nat.le_refl _) _
  have Ka := Lib.hid (part_on ka bb)
  have Kb := Lib.hid (part_on kb bb)
  have Kc := Lib.hid (part_on kc bb)
  have Kd := Lib.hid (part_on kd bb)
  have Kx := Lib.hid (part_on kx bb)
  have HW9 := Lib.hid (Hw9.out.trans (bb.mono Hw9.out.size))
  have Ky : Hid (W9.heap[w9.heap.size]? = some (partO y1 y2)) := Lib.hid (by rw [hW9]; exact Go.Deep.blk_alloc_new _ _)
  have HEW9 := Lib.hid hW9
  clear bb hW9 ka kb kc kd kx
  go_wp2_with fail
  rw [← HEW9.out]
  clear ya0 ya1 ya2 yb0 yb1 yb2 yc0 yc1 yc2 yd0 yd1 yd2 yx0 yx1 yx2
  refine (Q5.out W9 HW9.out).mono ?_
  rintro e w10 ⟨rfl, hb10⟩
  have Hw10 := Lib.hid (HW9.out.trans (hb10.mono HW9.out.size))
  have ka := part_on Ka.out hb10
  have kb := part_on Kb.out hb10
  have kc := part_on Kc.out hb10
  have kd := part_on Kd.out hb10
  have kx := part_on Kx.out hb10
  have ky := part_on Ky.out hb10
  clear Ka Kb Kc Kd Kx Ky hb10
  obtain ⟨ya0, ya1, ya2⟩ := part_at ka
  obtain ⟨yb0, yb1, yb2⟩ := part_at kb
  obtain ⟨yc0, yc1, yc2⟩ := part_at kc
  obtain ⟨yd0, yd1, yd2⟩ := part_at kd
  obtain ⟨yx0, yx1, yx2⟩ := part_at kx
  obtain ⟨yy0, yy1, yy2⟩ := part_at ky
  obtain ⟨W10, hW10⟩ : ∃ W, W = w10.alloc (.cells #[.string p1, .string p2] 24) := ⟨_, rfl⟩
  have bb : Below w10.heap.size w10 W10 := by rw [hW10]; exact (Below.refl _ _).alloc (Nat.le_refl _) _
  have Ka := Lib.hid (part_on ka bb)
  have Kb := Lib.hid (part_on kb bb)
  have Kc := Lib.hid (part_on kc bb)
  have Kd := Lib.hid (part_on kd bb)
  have Kx := Lib.hid (part_on kx bb)
  have Ky := Lib.hid (part_on ky bb)
  have HW10 := Lib.hid (Hw10.out.trans (bb.mono Hw10.out.size))
  have Kp : Hid (W10.heap[w10.heap.size]? = some (partO p1 p2)) := Lib.hid (by rw [hW10]; exact Go.Deep.blk_alloc_new _ _)
  have HEW10 := Lib.hid hW10
  clear bb hW10 ka kb kc kd kx ky
  go_wp2_with fail
  rw [← HEW10.out]
  clear ya0 ya1 ya2 yb0 yb1 yb2 yc0 yc1 yc2 yd0 yd1 yd2 yx0 yx1 yx2 yy0 yy1 yy2
  refine (Q6.out W10 HW10.out).mono ?_
  rintro e w11 ⟨rfl, hb11⟩
  have Hw11 := Lib.hid (HW10.out.trans (hb11.mono HW10.out.size))
  have ka := part_on Ka.out hb11
  have kb := part_on Kb.out hb11
  have kc := part_on Kc.out hb11
  have kd := part_on Kd.out hb11
  have kx := part_on Kx.out hb11
  have ky := part_on Ky.out hb11
  have kp := part_on Kp.out hb11
  clear Ka Kb Kc Kd Kx Ky Kp hb11
  obtain ⟨ya0, ya1, ya2⟩ := part_at ka
  obtain ⟨yb0, yb1, yb2⟩ := part_at kb
  obtain ⟨yc0, yc1, yc2⟩ := part_at kc
  obtain ⟨yd0, yd1, yd2⟩ := part_at kd
  obtain ⟨yx0, yx1, yx2⟩ := part_at kx
  obtain ⟨yy0, yy1, yy2⟩ := part_at ky
  obtain ⟨yp0, yp1, yp2⟩ := part_at kp
  obtain ⟨W11, hW11⟩ : ∃ W, W = w11.alloc (.cells #[.string r1, .string r2] 24) := ⟨_, rfl⟩
  have bb : Below w11.heap.size w11 W11 := by rw [hW11]; exact (Below.refl _ _).alloc (Nat.le_refl _) _
  have Ka := Lib.hid (part_on ka bb)
  have Kb := Lib.hid (part_on kb bb)
  have Kc := Lib.hid (part_on kc bb)
  have Kd := Lib.hid (part_on kd bb)
  have Kx := Lib.hid (part_on kx bb)
  have Ky := Lib.hid (part_on ky bb)
  have Kp := Lib.hid (part_on kp bb)
  have HW11 := Lib.hid (Hw11.out.trans (bb.mono Hw11.out.size))
  have Kr : Hid (W11.heap[w11.heap.size]? = some (partO r1 r2)) := Lib.hid (by rw [hW11]; exact Go.Deep.blk_alloc_new _ _)
  have HEW11 := Lib.hid hW11
  clear bb hW11 ka kb kc kd kx ky kp
  go_wp2_with fail
  rw [← HEW11.out]
  clear ya0 ya1 ya2 yb0 yb1 yb2 yc0 yc1 yc2 yd0 yd1 yd2 yx0 yx1 yx2 yy0 yy1 yy2 yp0 yp1 yp2
  have hc0 : c1 = ⟨#[48]⟩ := HCZ.out
  subst hc0
  obtain ⟨rfl, rfl⟩ := Prod.mk.inj HEQ.out
  refine (C3.out W11 HW11.out).mono ?_
  rintro e w12 ⟨rfl, hb12⟩
  have Hw12 := Lib.hid (HW11.out.trans (hb12.mono HW11.out.size))
  have ka := part_on Ka.out hb12
  have kb := part_on Kb.out hb12
  have kc := part_on Kc.out hb12
  have kd := part_on Kd.out hb12
  have kx := part_on Kx.out hb12
  have ky := part_on Ky.out hb12
  have kp := part_on Kp.out hb12
  have kr := part_on Kr.out hb12
  clear Ka Kb Kc Kd Kx Ky Kp Kr hb12
  obtain ⟨ya0, ya1, ya2⟩ := part_at ka
  obtain ⟨yb0, yb1, yb2⟩ := part_at kb
  obtain ⟨yc0, yc1, yc2⟩ := part_at kc
  obtain ⟨yd0, yd1, yd2⟩ := part_at kd
  obtain ⟨yx0, yx1, yx2⟩ := part_at kx
  obtain ⟨yy0, yy1, yy2⟩ := part_at ky
  obtain ⟨yp0, yp1, yp2⟩ := part_at kp
  obtain ⟨yr0, yr1, yr2⟩ := part_at kr
  have Ka := Lib.hid ka
  have Kb := Lib.hid kb
  have Kc := Lib.hid kc
  have Kd := Lib.hid kd
  have Kx := Lib.hid kx
  have Ky := Lib.hid ky
  have Kp := Lib.hid kp
  have Kr := Lib.hid kr
  clear ka kb kc kd kx ky kp kr
  go_wp2_with fail
  clear ya0 ya1 ya2 yb0 yb1 yb2 yc0 yc1 yc2 yd0 yd1 yd2 yx0 yx1 yx2 yy0 yy1 yy2 yp0 yp1 yp2 yr0 yr1 yr2
  refine (C2.out w12 Hw12.out).mono ?_
  rintro e w13 ⟨rfl, hb13⟩
  have Hw13 := Lib.hid (Hw12.out.trans (hb13.mono Hw12.out.size))
  have ka := part_on Ka.out hb13
  have kb := part_on Kb.out hb13
  have kc := part_on Kc.out hb13
  have kd := part_on Kd.out hb13
  have kx := part_on Kx.out hb13
  have ky := part_on Ky.out hb13
  have kp := part_on Kp.out hb13
  have kr := part_on Kr.out hb13
  clear Ka Kb Kc Kd Kx Ky Kp Kr hb13
  obtain ⟨ya0, ya1, ya2⟩ := part_at ka
  obtain ⟨yb0, yb1, yb2⟩ := part_at kb
  obtain ⟨yc0, yc1, yc2⟩ := part_at kc
  obtain ⟨yd0, yd1, yd2⟩ := part_at kd
  obtain ⟨yx0, yx1, yx2⟩ := part_at kx
  obtain ⟨yy0, yy1, yy2⟩ := part_at ky
  obtain ⟨yp0, yp1, yp2⟩ := part_at kp
  obtain ⟨yr0, yr1, yr2⟩ := part_at kr
  have Ka := Lib.hid ka
  have Kb := Lib.hid kb
  have Kc := Lib.hid kc
  have Kd := Lib.hid kd
  have Kx := Lib.hid kx
  have Ky := Lib.hid ky
  have Kp := Lib.hid kp
  have Kr := Lib.hid kr
  clear ka kb kc kd kx ky kp kr
  go_wp2_with fail
  clear ya0 ya1 ya2 yb0 yb1 yb2 yc0 yc1 yc2 yd0 yd1 yd2 yx0 yx1 yx2 yy0 yy1 yy2 yp0 yp1 yp2 yr0 yr1 yr2
  refine (C4.out w13 Hw13.out).mono ?_
  rintro e w14 ⟨rfl, hb14⟩
  have Hw14 := Lib.hid (Hw13.out.trans (hb14.mono Hw13.out.size))
  have ka := part_on Ka.out hb14
  have kb := part_on Kb.out hb14
  have kc := part_on Kc.out hb14
  have kd := part_on Kd.out hb14
  have kx := part_on Kx.out hb14
  have ky := part_on Ky.out hb14
  have kp := part_on Kp.out hb14
  have kr := part_on Kr.out hb14
  clear Ka Kb Kc Kd Kx Ky Kp Kr hb14
  obtain ⟨ya0, ya1, ya2⟩ := part_at ka
  obtain ⟨yb0, yb1, yb2⟩ := part_at kb
  obtain ⟨yc0, yc1, yc2⟩ := part_at kc
  obtain ⟨yd0, yd1, yd2⟩ := part_at kd
  obtain ⟨yx0, yx1, yx2⟩ := part_at kx
  obtain ⟨yy0, yy1, yy2⟩ := part_at ky
  obtain ⟨yp0, yp1, yp2⟩ := part_at kp
  obtain ⟨yr0, yr1, yr2⟩ := part_at kr
  have Ka := Lib.hid ka
  have Kb := Lib.hid kb
  have Kc := Lib.hid kc
  have Kd := Lib.hid kd
  have Kx := Lib.hid kx
  have Ky := Lib.hid ky
  have Kp := Lib.hid kp
  have Kr := Lib.hid kr
  clear ka kb kc kd kx ky kp kr
  go_wp2_with fail
  clear ya0 ya1 ya2 yb0 yb1 yb2 yc0 yc1 yc2 yd0 yd1 yd2 yx0 yx1 yx2 yy0 yy1 yy2 yp0 yp1 yp2 yr0 yr1 yr2
  exact bodyPost_ret (v := .bool true) (by simp [results, Tryz.results5, go_sem]) rfl ⟨rfl, Hw14.out⟩

set_option maxRecDepth 100000 in
set_option maxHeartbeats 8000000 in
theorem orders_eq_p (a1 a2 b1 b2 c1 c2 : ByteArray) (ha : okP (a1, a2) = true) (hb : okP (b1, b2) = true) (hc : okP (c1, c2) = true) (sa : shortP 60 (a1, a2) = true) (sb : shortP 60 (b1, b2) = true) (sc : shortP 60 (c1, c2) = true) (hn : (pv (a1, a2)).1 * (pv (b1, b2)).2 = (pv (b1, b2)).1 * (pv (a1, a2)).2) (hcz : ¬ c1 = zeroB) (w : World) (ht : Tens w) (h0 : 0 < w.heap.size) :
    Calls Tryz.prog 5 #[.agg #[.string a1, .string a2], .agg #[.string b1, .string b2], .agg #[.string c1, .string c2]] w fun e w' => e = .returned (.bool true) ∧ Below w.heap.size w w' := by
  have HT : ∀ W, Below w.heap.size w W → Tens W := fun W hW j hj => cell_later hW (ht j hj)
  have HAL : Hid (∀ W, Below w.heap.size w W → Calls Tryz.prog 20 #[] W fun e w' => e = .returned (.bool true) ∧ Below W.heap.size W w') := Lib.hid fun W hW => alive_any W (HT W hW) (by have := hW.size; omega)
  have sha : a1.size ≤ 60 ∧ a2.size ≤ 60 := by unfold shortP at sa; simpa using sa
  have shb : b1.size ≤ 60 ∧ b2.size ≤ 60 := by unfold shortP at sb; simpa using sb
  have shc : c1.size ≤ 60 ∧ c2.size ≤ 60 := by unfold shortP at sc; simpa using sc
  have mA := sm_of (k := 60) ha sha.1 sha.2
  have mB := sm_of (k := 60) hb shb.1 shb.2
  have mC := sm_of (k := 60) hc shc.1 shc.2
  have eA := pt_pv ha; have eB := pt_pv hb; have eC := pt_pv hc
  have hzz := num_zero hc
  have hcmp : cmpF (pv (a1, a2)) (pv (b1, b2)) = 0 := cmpF_eq hn
  have C1 := useCmp HT ha hb hcmp
  have C2 := useCmp (z := 0) HT hb ha (by rw [cmpF_swap, hcmp] <;> rfl)
  have heq : (a1, a2) = (b1, b2) := by rw [← eA, ← eB, fr_uniq mA.fr mB.fr hn]
  obtain ⟨⟨d1, d2⟩, hsub⟩ : ∃ r, subS (a1, a2) (b1, b2) = (r, 0) := ⟨_, (subS_ok ha hb (by omega)).trans (res_sm (k := 120) (low_sm (Nat.mul_pos mA.fr.pos mB.fr.pos) (Nat.lt_of_le_of_lt (Nat.sub_le _ _) (by rw [show (120:Nat) = 60 + 60 from rfl, Nat.pow_add]; exact Nat.mul_lt_mul'' mA.n mB.d)) (by rw [show (120:Nat) = 60 + 60 from rfl, Nat.pow_add]; exact Nat.mul_lt_mul'' mA.d mB.d)) (by decide))⟩
  have Q2 := useSub HT hsub ha hb
  generalize hgA : pv (a1, a2) = A at *
  generalize hgB : pv (b1, b2) = B at *
  generalize hgC : pv (c1, c2) = C at *
  have m1 := mA.add mC (m := 121) rfl; have m2 := mB.add mC (m := 121) rfl; have m3 := mA.mul mC (m := 120) rfl; have m4 := mB.mul mC (m := 120) rfl
  have q3 := add_pt mA mC (by decide); have q4 := add_pt mB mC (by decide); have q5 := mul_pt mA mC (by decide); have q6 := mul_pt mB mC (by decide)
  have o1 := pt_ok m1 (by decide); have o2 := pt_ok m2 (by decide); have o3 := pt_ok m3 (by decide); have o4 := pt_ok m4 (by decide)
  have v1 := pv_pt (addF A C); have v2 := pv_pt (addF B C); have v3 := pv_pt (mulF A C); have v4 := pv_pt (mulF B C)
  rw [eA, eC] at q3 q5; rw [eB, eC] at q4 q6
  obtain ⟨⟨x1, x2⟩, hx⟩ : ∃ r, ptOf (addF A C) = r := ⟨_, rfl⟩
  obtain ⟨⟨y1, y2⟩, hy⟩ : ∃ r, ptOf (addF B C) = r := ⟨_, rfl⟩
  obtain ⟨⟨p1, p2⟩, hp⟩ : ∃ r, ptOf (mulF A C) = r := ⟨_, rfl⟩
  obtain ⟨⟨r1, r2⟩, hr⟩ : ∃ r, ptOf (mulF B C) = r := ⟨_, rfl⟩
  rw [hx] at q3 o1 v1; rw [hy] at q4 o2 v2; rw [hp] at q5 o3 v3; rw [hr] at q6 o4 v4
  have Q3 := useAdd HT q3 ha hc; have Q4 := useAdd HT q4 hb hc; have Q5 := useMul HT q5 ha hc; have Q6 := useMul HT q6 hb hc
  have C3 := useCmp (z := 0) HT o3 o4 (by rw [v3, v4]; exact (cmpF_prod mA.fr mB.fr mC.fr (Nat.pos_of_ne_zero (by rw [Ne, hzz]; exact hcz))).trans hcmp)
  have C4 := useCmp (z := 0) HT o1 o2 (by rw [v1, v2]; exact (cmpF_sum mA.fr mB.fr mC.fr).trans hcmp)
  have U1 := useChk HT ha; have U2 := useChk HT hb; have U3 := useChk HT hc
  have HSH := Lib.hid (And.intro sa (And.intro sb sc)); have HEQ := Lib.hid heq; have HCZ := Lib.hid hcz
  clear q3 q4 q5 q6 o1 o2 o3 o4 v1 v2 v3 v4 m1 m2 m3 m4 mA mB mC eA eB eC hx hy hp hr hsub hcmp hn heq hcz hzz sha shb shc sa sb sc HT ht ha hb hc hgA hgB hgC
  obtain ⟨V1, hV1⟩ : ∃ W, W = w.alloc (.cells #[.string a1, .string a2] 24) := ⟨_, rfl⟩
  obtain ⟨V2, hV2⟩ : ∃ W, W = V1.alloc (.cells #[.string b1, .string b2] 24) := ⟨_, rfl⟩
  obtain ⟨V3, hV3⟩ : ∃ W, W = V2.alloc (.cells #[.string c1, .string c2] 24) := ⟨_, rfl⟩
  have v01 : Below w.heap.size w V1 := by rw [hV1]; exact (Below.refl _ _).alloc (Nat.le_refl _) _
  have v12 : Below V1.heap.size V1 V2 := by rw [hV2]; exact (Below.refl _ _).alloc (Nat.le_refl _) _
  have v23 : Below V2.heap.size V2 V3 := by rw [hV3]; exact (Below.refl _ _).alloc (Nat.le_refl _) _
  have z1 : V1.heap.size = w.heap.size + 1 := by rw [hV1, World.size_alloc]
  have z2 : V2.heap.size = w.heap.size + 1 + 1 := by rw [hV2, World.size_alloc, z1]
  have ka : V3.heap[w.heap.size]? = some (partO a1 a2) := part_on (part_on (by rw [hV1]; exact Go.Deep.blk_alloc_new _ _) v12) v23
  have kb : V3.heap[w.heap.size + 1]? = some (partO b1 b2) := part_on (by rw [← z1, hV2]; exact Go.Deep.blk_alloc_new _ _) v23
  have kc : V3.heap[w.heap.size + 1 + 1]? = some (partO c1 c2) := by rw [← z2, hV3]; exact Go.Deep.blk_alloc_new _ _
  have HB := Lib.hid (v01.trans ((below_chain v12 v23).mono v01.size))
  have HV1 := Lib.hid hV1; have HV2 := Lib.hid hV2; have HV3 := Lib.hid hV3; have Ka := Lib.hid ka; have Kb := Lib.hid kb; have Kc := Lib.hid kc
  clear hV1 hV2 hV3 v01 v12 v23 z1 z2 ka kb kc
  go_enter Tryz.func5, Tryz.ntmps5
  go_wp2_with fail
  rw [← HV1.out, ← HV2.out, ← HV3.out]
  refine (HAL.out V3 HB.out).mono ?_
  rintro e w1 ⟨rfl, hb1⟩
  have Hw1 := Lib.hid (HB.out.trans (hb1.mono HB.out.size))
  have ka := part_on Ka.out hb1
  have kb := part_on Kb.out hb1
  have kc := part_on Kc.out hb1
  clear Ka Kb Kc hb1
  obtain ⟨ya0, ya1, ya2⟩ := part_at ka
  obtain ⟨yb0, yb1, yb2⟩ := part_at kb
  obtain ⟨yc0, yc1, yc2⟩ := part_at kc
  obtain ⟨W1, hW1⟩ : ∃ W, W = w1.alloc (.cells #[.string a1, .string a2, .string b1, .string b2, .string c1, .string c2] 24) := ⟨_, rfl⟩
  have bb : Below w1.heap.size w1 W1 := by rw [hW1]; exact (Below.refl _ _).alloc (Nat.le_refl _) _
  have Ka := Lib.hid (part_on ka bb)
  have Kb := Lib.hid (part_on kb bb)
  have Kc := Lib.hid (part_on kc bb)
  have HW1 := Lib.hid (Hw1.out.trans (bb.mono Hw1.out.size))
  have kk : W1.heap[w1.heap.size]? = some (.cells #[.string a1, .string a2, .string b1, .string b2, .string c1, .string c2] 24 (0, 0)) := by rw [hW1]; exact Go.Deep.blk_alloc_new _ _
  have KK := Lib.hid kk
  clear kk
  have HEW1 := Lib.hid hW1
  clear bb hW1 ka kb kc
  go_wp2_with fail
  rw [← HEW1.out]
  clear ya0 ya1 ya2 yb0 yb1 yb2 yc0 yc1 yc2
  have hsh := short_any 60 [(a1, a2), (b1, b2), (c1, c2)] (.slice (some ⟨w1.heap.size, 0, none⟩) 3 3) W1 (.inr ⟨w1.heap.size, 0, 3, rfl, by simp, by decide, (Array.getElem?_eq_some_iff.1 KK.out).1, fun i hi => by
    match i, hi with
    | 0, _ => exact ⟨by rw [set_cells KK.out]; rfl, by rw [set_cells KK.out]; rfl⟩
    | 1, _ => exact ⟨by rw [set_cells KK.out]; rfl, by rw [set_cells KK.out]; rfl⟩
    | 2, _ => exact ⟨by rw [set_cells KK.out]; rfl, by rw [set_cells KK.out]; rfl⟩⟩) (by simp) (by decide)
  have hall : [(a1, a2), (b1, b2), (c1, c2)].all (shortP 60) = true := by
    simp only [List.all_cons, List.all_nil, HSH.out.1, HSH.out.2.1, HSH.out.2.2, Bool.and_self]
  rw [hall] at hsh
  have HSHORT := Lib.hid hsh
  clear hsh hall KK
  refine (HSHORT.out).mono ?_
  rintro e w2 ⟨rfl, hb2⟩
  have Hw2 := Lib.hid (HW1.out.trans (hb2.mono HW1.out.size))
  have ka := part_on Ka.out hb2
  have kb := part_on Kb.out hb2
  have kc := part_on Kc.out hb2
  clear Ka Kb Kc hb2
  obtain ⟨ya0, ya1, ya2⟩ := part_at ka
  obtain ⟨yb0, yb1, yb2⟩ := part_at kb
  obtain ⟨yc0, yc1, yc2⟩ := part_at kc
  have Ka := Lib.hid ka
  have Kb := Lib.hid kb
  have Kc := Lib.hid kc
  clear ka kb kc
  go_wp2_with fail
  clear ya0 ya1 ya2 yb0 yb1 yb2 yc0 yc1 yc2
  refine (U1.out w2 Hw2.out).mono ?_
  rintro e w3 ⟨rfl, hb3⟩
  have Hw3 := Lib.hid (Hw2.out.trans (hb3.mono Hw2.out.size))
  have ka := part_on Ka.out hb3
  have kb := part_on Kb.out hb3
  have kc := part_on Kc.out hb3
  clear Ka Kb Kc hb3
  obtain ⟨ya0, ya1, ya2⟩ := part_at ka
  obtain ⟨yb0, yb1, yb2⟩ := part_at kb
  obtain ⟨yc0, yc1, yc2⟩ := part_at kc
  have Ka := Lib.hid ka
  have Kb := Lib.hid kb
  have Kc := Lib.hid kc
  clear ka kb kc
  go_wp2_with fail
  clear ya0 ya1 ya2 yb0 yb1 yb2 yc0 yc1 yc2
  refine (U2.out w3 Hw3.out).mono ?_
  rintro e w4 ⟨rfl, hb4⟩
  have Hw4 := Lib.hid (Hw3.out.trans (hb4.mono Hw3.out.size))
  have ka := part_on Ka.out hb4
  have kb := part_on Kb.out hb4
  have kc := part_on Kc.out hb4
  clear Ka Kb Kc hb4
  obtain ⟨ya0, ya1, ya2⟩ := part_at ka
  obtain ⟨yb0, yb1, yb2⟩ := part_at kb
  obtain ⟨yc0, yc1, yc2⟩ := part_at kc
  have Ka := Lib.hid ka
  have Kb := Lib.hid kb
  have Kc := Lib.hid kc
  clear ka kb kc
  go_wp2_with fail
  clear ya0 ya1 ya2 yb0 yb1 yb2 yc0 yc1 yc2
  refine (U3.out w4 Hw4.out).mono ?_
  rintro e w5 ⟨rfl, hb5⟩
  have Hw5 := Lib.hid (Hw4.out.trans (hb5.mono Hw4.out.size))
  have ka := part_on Ka.out hb5
  have kb := part_on Kb.out hb5
  have kc := part_on Kc.out hb5
  clear Ka Kb Kc hb5
  obtain ⟨ya0, ya1, ya2⟩ := part_at ka
  obtain ⟨yb0, yb1, yb2⟩ := part_at kb
  obtain ⟨yc0, yc1, yc2⟩ := part_at kc
  have Ka := Lib.hid ka
  have Kb := Lib.hid kb
  have Kc := Lib.hid kc
  clear ka kb kc
  go_wp2_with fail
  clear ya0 ya1 ya2 yb0 yb1 yb2 yc0 yc1 yc2
  refine (C1.out w5 Hw5.out).mono ?_
  rintro e w6 ⟨rfl, hb6⟩
  have Hw6 := Lib.hid (Hw5.out.trans (hb6.mono Hw5.out.size))
  have ka := part_on Ka.out hb6
  have kb := part_on Kb.out hb6
  have kc := part_on Kc.out hb6
  clear Ka Kb Kc hb6
  obtain ⟨ya0, ya1, ya2⟩ := part_at ka
  obtain ⟨yb0, yb1, yb2⟩ := part_at kb
  obtain ⟨yc0, yc1, yc2⟩ := part_at kc
  have Ka := Lib.hid ka
  have Kb := Lib.hid kb
  have Kc := Lib.hid kc
  clear ka kb kc
  go_wp2_with fail
  clear ya0 ya1 ya2 yb0 yb1 yb2 yc0 yc1 yc2
  refine (Q2.out w6 Hw6.out).mono ?_
  rintro e w7 ⟨rfl, hb7⟩
  have Hw7 := Lib.hid (Hw6.out.trans (hb7.mono Hw6.out.size))
  have ka := part_on Ka.out hb7
  have kb := part_on Kb.out hb7
  have kc := part_on Kc.out hb7
  clear Ka Kb Kc hb7
  obtain ⟨ya0, ya1, ya2⟩ := part_at ka
  obtain ⟨yb0, yb1, yb2⟩ := part_at kb
  obtain ⟨yc0, yc1, yc2⟩ := part_at kc
  obtain ⟨W7, hW7⟩ : ∃ W, W = w7.alloc (.cells #[.string d1, .string d2] 24) := ⟨_, rfl⟩
  have bb : Below w7.heap.size w7 W7 := by rw [hW7]; exact (Below.refl _ _).alloc (Nat.le_refl _) _
  have Ka := Lib.hid (part_on ka bb)
  have Kb := Lib.hid (part_on kb bb)
  have Kc := Lib.hid (part_on kc bb)
  have HW7 := Lib.hid (Hw7.out.trans (bb.mono Hw7.out.size))
  have Kd : Hid (W7.heap[w7.heap.size]? = some (partO d1 d2)) := Lib.hid (by rw [hW7]; exact Go.Deep.blk_alloc_new _ _)
  have HEW7 := Lib.hid hW7
  clear bb hW7 ka kb kc
  go_wp2_with fail
  rw [← HEW7.out]
  clear ya0 ya1 ya2 yb0 yb1 yb2 yc0 yc1 yc2
  refine (Q3.out W7 HW7.out).mono ?_
  rintro e w8 ⟨rfl, hb8⟩
  have Hw8 := Lib.hid (HW7.out.trans (hb8.mono HW7.out.size))
  have ka := part_on Ka.out hb8
  have kb := part_on Kb.out hb8
  have kc := part_on Kc.out hb8
  have kd := part_on Kd.out hb8
  clear Ka Kb Kc Kd hb8
  obtain ⟨ya0, ya1, ya2⟩ := part_at ka
  obtain ⟨yb0, yb1, yb2⟩ := part_at kb
  obtain ⟨yc0, yc1, yc2⟩ := part_at kc
  obtain ⟨yd0, yd1, yd2⟩ := part_at kd
  obtain ⟨W8, hW8⟩ : ∃ W, W = w8.alloc (.cells #[.string x1, .string x2] 24) := ⟨_, rfl⟩
  have bb : Below w8.heap.size w8 W8 := by rw [hW8]; exact (Below.refl _ _).alloc (Nat.le_refl _) _
  have Ka := Lib.hid (part_on ka bb)
  have Kb := Lib.hid (part_on kb bb)
  have Kc := Lib.hid (part_on kc bb)
  have Kd := Lib.hid (part_on kd bb)
  have HW8 := Lib.hid (Hw8.out.trans (bb.mono Hw8.out.size))
  have Kx : Hid (W8.heap[w8.heap.size]? = some (partO x1 x2)) := Lib.hid (by rw [hW8]; exact Go.Deep.blk_alloc_new _ _)
  have HEW8 := Lib.hid hW8
  clear bb hW8 ka kb kc kd
  go_wp2_with fail
  rw [← HEW8.out]
  clear ya0 ya1 ya2 yb0 yb1 yb2 yc0 yc1 yc2 yd0 yd1 yd2
  refine (Q4.out W8 HW8.out).mono ?_
  rintro e w9 ⟨rfl, hb9⟩
  have Hw9 := Lib.hid (HW8.out.trans (hb9.mono HW8.out.size))
  have ka := part_on Ka.out hb9
  have kb := part_on Kb.out hb9
  have kc := part_on Kc.out hb9
  have kd := part_on Kd.out hb9
  have kx := part_on Kx.out hb9
  clear Ka Kb Kc Kd Kx hb9
  obtain ⟨ya0, ya1, ya2⟩ := part_at ka
  obtain ⟨yb0, yb1, yb2⟩ := part_at kb
  obtain ⟨yc0, yc1, yc2⟩ := part_at kc
  obtain ⟨yd0, yd1, yd2⟩ := part_at kd
  obtain ⟨yx0, yx1, yx2⟩ := part_at kx
  obtain ⟨W9, hW9⟩ : ∃ W, W = w9.alloc (.cells #[.string y1, .string y2] 24) := ⟨_, rfl⟩
  have bb : Below w9.heap.size w9 W9 := by rw [hW9]; exact (Below.refl _ _).alloc (Nat.le_refl _) _
  have Ka := Lib.hid (part_on ka bb)
  have Kb := Lib.hid (part_on kb bb)
  have Kc := Lib.hid (part_on kc bb)
  have Kd := Lib.hid (part_on kd bb)
  have Kx := Lib.hid (part_on kx bb)
  have HW9 := Lib.hid (Hw9.out.trans (bb.mono Hw9.out.size))
  have Ky : Hid (W9.heap[w9.heap.size]? = some (partO y1 y2)) := Lib.hid (by rw [hW9]; exact Go.Deep.blk_alloc_new _ _)
  have HEW9 := Lib.hid hW9
  clear bb hW9 ka kb kc kd kx
  go_wp2_with fail
  rw [← HEW9.out]
  clear ya0 ya1 ya2 yb0 yb1 yb2 yc0 yc1 yc2 yd0 yd1 yd2 yx0 yx1 yx2
  refine (Q5.out W9 HW9.out).mono ?_
  rintro e w10 ⟨rfl, hb10⟩
  have Hw10 := Lib.hid (HW9.out.trans (hb10.mono HW9.out.size))
  have ka := part_on Ka.out hb10
  have kb := part_on Kb.out hb10
  have kc := part_on Kc.out hb10
  have kd := part_on Kd.out hb10
  have kx := part_on Kx.out hb10
  have ky := part_on Ky.out hb10
  clear Ka Kb Kc Kd Kx Ky hb10
  obtain ⟨ya0, ya1, ya2⟩ := part_at ka
  obtain ⟨yb0, yb1, yb2⟩ := part_at kb
  obtain ⟨yc0, yc1, yc2⟩ := part_at kc
  obtain ⟨yd0, yd1, yd2⟩ := part_at kd
  obtain ⟨yx0, yx1, yx2⟩ := part_at kx
  obtain ⟨yy0, yy1, yy2⟩ := part_at ky
  obtain ⟨W10, hW10⟩ : ∃ W, W = w10.alloc (.cells #[.string p1, .string p2] 24) := ⟨_, rfl⟩
  have bb : Below w10.heap.size w10 W10 := by rw [hW10]; exact (Below.refl _ _).alloc (Nat.le_refl _) _
  have Ka := Lib.hid (part_on ka bb)
  have Kb := Lib.hid (part_on kb bb)
  have Kc := Lib.hid (part_on kc bb)
  have Kd := Lib.hid (part_on kd bb)
  have Kx := Lib.hid (part_on kx bb)
  have Ky := Lib.hid (part_on ky bb)
  have HW10 := Lib.hid (Hw10.out.trans (bb.mono Hw10.out.size))
  have Kp : Hid (W10.heap[w10.heap.size]? = some (partO p1 p2)) := Lib.hid (by rw [hW10]; exact Go.Deep.blk_alloc_new _ _)
  have HEW10 := Lib.hid hW10
  clear bb hW10 ka kb kc kd kx ky
  go_wp2_with fail
  rw [← HEW10.out]
  clear ya0 ya1 ya2 yb0 yb1 yb2 yc0 yc1 yc2 yd0 yd1 yd2 yx0 yx1 yx2 yy0 yy1 yy2
  refine (Q6.out W10 HW10.out).mono ?_
  rintro e w11 ⟨rfl, hb11⟩
  have Hw11 := Lib.hid (HW10.out.trans (hb11.mono HW10.out.size))
  have ka := part_on Ka.out hb11
  have kb := part_on Kb.out hb11
  have kc := part_on Kc.out hb11
  have kd := part_on Kd.out hb11
  have kx := part_on Kx.out hb11
  have ky := part_on Ky.out hb11
  have kp := part_on Kp.out hb11
  clear Ka Kb Kc Kd Kx Ky Kp hb11
  obtain ⟨ya0, ya1, ya2⟩ := part_at ka
  obtain ⟨yb0, yb1, yb2⟩ := part_at kb
  obtain ⟨yc0, yc1, yc2⟩ := part_at kc
  obtain ⟨yd0, yd1, yd2⟩ := part_at kd
  obtain ⟨yx0, yx1, yx2⟩ := part_at kx
  obtain ⟨yy0, yy1, yy2⟩ := part_at ky
  obtain ⟨yp0, yp1, yp2⟩ := part_at kp
  obtain ⟨W11, hW11⟩ : ∃ W, W = w11.alloc (.cells #[.string r1, .string r2] 24) := ⟨_, rfl⟩
  have bb : Below w11.heap.size w11 W11 := by rw [hW11]; exact (Below.refl _ _).alloc (Nat.le_refl _) _
  have Ka := Lib.hid (part_on ka bb)
  have Kb := Lib.hid (part_on kb bb)
  have Kc := Lib.hid (part_on kc bb)
  have Kd := Lib.hid (part_on kd bb)
  have Kx := Lib.hid (part_on kx bb)
  have Ky := Lib.hid (part_on ky bb)
  have Kp := Lib.hid (part_on kp bb)
  have HW11 := Lib.hid (Hw11.out.trans (bb.mono Hw11.out.size))
  have Kr : Hid (W11.heap[w11.heap.size]? = some (partO r1 r2)) := Lib.hid (by rw [hW11]; exact Go.Deep.blk_alloc_new _ _)
  have HEW11 := Lib.hid hW11
  clear bb hW11 ka kb kc kd kx ky kp
  go_wp2_with fail
  rw [← HEW11.out]
  clear ya0 ya1 ya2 yb0 yb1 yb2 yc0 yc1 yc2 yd0 yd1 yd2 yx0 yx1 yx2 yy0 yy1 yy2 yp0 yp1 yp2
  have hc0 : ¬ c1 = ⟨#[48]⟩ := HCZ.out
  have hc0l : ¬ c1.toList = [48] := fun h => hc0 (list_inj (h.trans (by rw [ByteArray.toList_eq])))
  have hc0b : (c1.toList == [48]) = false := beq_eq_false_iff_ne.2 hc0l
  obtain ⟨rfl, rfl⟩ := Prod.mk.inj HEQ.out
  refine (C3.out W11 HW11.out).mono ?_
  rintro e w12 ⟨rfl, hb12⟩
  have Hw12 := Lib.hid (HW11.out.trans (hb12.mono HW11.out.size))
  have ka := part_on Ka.out hb12
  have kb := part_on Kb.out hb12
  have kc := part_on Kc.out hb12
  have kd := part_on Kd.out hb12
  have kx := part_on Kx.out hb12
  have ky := part_on Ky.out hb12
  have kp := part_on Kp.out hb12
  have kr := part_on Kr.out hb12
  clear Ka Kb Kc Kd Kx Ky Kp Kr hb12
  obtain ⟨ya0, ya1, ya2⟩ := part_at ka
  obtain ⟨yb0, yb1, yb2⟩ := part_at kb
  obtain ⟨yc0, yc1, yc2⟩ := part_at kc
  obtain ⟨yd0, yd1, yd2⟩ := part_at kd
  obtain ⟨yx0, yx1, yx2⟩ := part_at kx
  obtain ⟨yy0, yy1, yy2⟩ := part_at ky
  obtain ⟨yp0, yp1, yp2⟩ := part_at kp
  obtain ⟨yr0, yr1, yr2⟩ := part_at kr
  have Ka := Lib.hid ka
  have Kb := Lib.hid kb
  have Kc := Lib.hid kc
  have Kd := Lib.hid kd
  have Kx := Lib.hid kx
  have Ky := Lib.hid ky
  have Kp := Lib.hid kp
  have Kr := Lib.hid kr
  clear ka kb kc kd kx ky kp kr
  go_wp2_with fail
  clear ya0 ya1 ya2 yb0 yb1 yb2 yc0 yc1 yc2 yd0 yd1 yd2 yx0 yx1 yx2 yy0 yy1 yy2 yp0 yp1 yp2 yr0 yr1 yr2
  refine (C2.out w12 Hw12.out).mono ?_
  rintro e w13 ⟨rfl, hb13⟩
  have Hw13 := Lib.hid (Hw12.out.trans (hb13.mono Hw12.out.size))
  have ka := part_on Ka.out hb13
  have kb := part_on Kb.out hb13
  have kc := part_on Kc.out hb13
  have kd := part_on Kd.out hb13
  have kx := part_on Kx.out hb13
  have ky := part_on Ky.out hb13
  have kp := part_on Kp.out hb13
  have kr := part_on Kr.out hb13
  clear Ka Kb Kc Kd Kx Ky Kp Kr hb13
  obtain ⟨ya0, ya1, ya2⟩ := part_at ka
  obtain ⟨yb0, yb1, yb2⟩ := part_at kb
  obtain ⟨yc0, yc1, yc2⟩ := part_at kc
  obtain ⟨yd0, yd1, yd2⟩ := part_at kd
  obtain ⟨yx0, yx1, yx2⟩ := part_at kx
  obtain ⟨yy0, yy1, yy2⟩ := part_at ky
  obtain ⟨yp0, yp1, yp2⟩ := part_at kp
  obtain ⟨yr0, yr1, yr2⟩ := part_at kr
  have Ka := Lib.hid ka
  have Kb := Lib.hid kb
  have Kc := Lib.hid kc
  have Kd := Lib.hid kd
  have Kx := Lib.hid kx
  have Ky := Lib.hid ky
  have Kp := Lib.hid kp
  have Kr := Lib.hid kr
  clear ka kb kc kd kx ky kp kr
  go_wp2_with fail
  clear ya0 ya1 ya2 yb0 yb1 yb2 yc0 yc1 yc2 yd0 yd1 yd2 yx0 yx1 yx2 yy0 yy1 yy2 yp0 yp1 yp2 yr0 yr1 yr2
  refine (C4.out w13 Hw13.out).mono ?_
  rintro e w14 ⟨rfl, hb14⟩
  have Hw14 := Lib.hid (Hw13.out.trans (hb14.mono Hw13.out.size))
  have ka := part_on Ka.out hb14
  have kb := part_on Kb.out hb14
  have kc := part_on Kc.out hb14
  have kd := part_on Kd.out hb14
  have kx := part_on Kx.out hb14
  have ky := part_on Ky.out hb14
  have kp := part_on Kp.out hb14
  have kr := part_on Kr.out hb14
  clear Ka Kb Kc Kd Kx Ky Kp Kr hb14
  obtain ⟨ya0, ya1, ya2⟩ := part_at ka
  obtain ⟨yb0, yb1, yb2⟩ := part_at kb
  obtain ⟨yc0, yc1, yc2⟩ := part_at kc
  obtain ⟨yd0, yd1, yd2⟩ := part_at kd
  obtain ⟨yx0, yx1, yx2⟩ := part_at kx
  obtain ⟨yy0, yy1, yy2⟩ := part_at ky
  obtain ⟨yp0, yp1, yp2⟩ := part_at kp
  obtain ⟨yr0, yr1, yr2⟩ := part_at kr
  have Ka := Lib.hid ka
  have Kb := Lib.hid kb
  have Kc := Lib.hid kc
  have Kd := Lib.hid kd
  have Kx := Lib.hid kx
  have Ky := Lib.hid ky
  have Kp := Lib.hid kp
  have Kr := Lib.hid kr
  clear ka kb kc kd kx ky kp kr
  go_wp2_with fail
  clear ya0 ya1 ya2 yb0 yb1 yb2 yc0 yc1 yc2 yd0 yd1 yd2 yx0 yx1 yx2 yy0 yy1 yy2 yp0 yp1 yp2 yr0 yr1 yr2
  exact bodyPost_ret (v := .bool true) (by simp [results, hc0b, Tryz.results5, go_sem]) rfl ⟨rfl, Hw14.out⟩

set_option maxRecDepth 100000 in
set_option maxHeartbeats 8000000 in
theorem orders_gt_z (a1 a2 b1 b2 c1 c2 : ByteArray) (ha : okP (a1, a2) = true) (hb : okP (b1, b2) = true) (hc : okP (c1, c2) = true) (sa : shortP 60 (a1, a2) = true) (sb : shortP 60 (b1, b2) = true) (sc : shortP 60 (c1, c2) = true) (hn : (pv (b1, b2)).1 * (pv (a1, a2)).2 < (pv (a1, a2)).1 * (pv (b1, b2)).2) (hcz : c1 = zeroB) (w : World) (ht : Tens w) (h0 : 0 < w.heap.size) :
    Calls Tryz.prog 5 #[.agg #[.string a1, .string a2], .agg #[.string b1, .string b2], .agg #[.string c1, .string c2]] w fun e w' => e = .returned (.bool true) ∧ Below w.heap.size w w' := by
  have HT : ∀ W, Below w.heap.size w W → Tens W := fun W hW j hj => cell_later hW (ht j hj)
  have HAL : Hid (∀ W, Below w.heap.size w W → Calls Tryz.prog 20 #[] W fun e w' => e = .returned (.bool true) ∧ Below W.heap.size W w') := Lib.hid fun W hW => alive_any W (HT W hW) (by have := hW.size; omega)
  have sha : a1.size ≤ 60 ∧ a2.size ≤ 60 := by unfold shortP at sa; simpa using sa
  have shb : b1.size ≤ 60 ∧ b2.size ≤ 60 := by unfold shortP at sb; simpa using sb
  have shc : c1.size ≤ 60 ∧ c2.size ≤ 60 := by unfold shortP at sc; simpa using sc
  have mA := sm_of (k := 60) ha sha.1 sha.2
  have mB := sm_of (k := 60) hb shb.1 shb.2
  have mC := sm_of (k := 60) hc shc.1 shc.2
  have eA := pt_pv ha; have eB := pt_pv hb; have eC := pt_pv hc
  have hzz := num_zero hc
  have hcmp : cmpF (pv (a1, a2)) (pv (b1, b2)) = 1 := cmpF_gt hn
  have C1 := useCmp HT ha hb hcmp
  have C2 := useCmp (z := (-1)) HT hb ha (by rw [cmpF_swap, hcmp] <;> rfl)
  have heq : ¬ (a1, a2) = (b1, b2) := fun h => by rw [h] at hn; exact Nat.lt_irrefl _ hn
  obtain ⟨⟨d1, d2⟩, hsub⟩ : ∃ r, subS (a1, a2) (b1, b2) = (r, 0) := ⟨_, (subS_ok ha hb (by omega)).trans (res_sm (k := 120) (low_sm (Nat.mul_pos mA.fr.pos mB.fr.pos) (Nat.lt_of_le_of_lt (Nat.sub_le _ _) (by rw [show (120:Nat) = 60 + 60 from rfl, Nat.pow_add]; exact Nat.mul_lt_mul'' mA.n mB.d)) (by rw [show (120:Nat) = 60 + 60 from rfl, Nat.pow_add]; exact Nat.mul_lt_mul'' mA.d mB.d)) (by decide))⟩
  have Q2 := useSub HT hsub ha hb
  generalize hgA : pv (a1, a2) = A at *
  generalize hgB : pv (b1, b2) = B at *
  generalize hgC : pv (c1, c2) = C at *
  have m1 := mA.add mC (m := 121) rfl; have m2 := mB.add mC (m := 121) rfl; have m3 := mA.mul mC (m := 120) rfl; have m4 := mB.mul mC (m := 120) rfl
  have q3 := add_pt mA mC (by decide); have q4 := add_pt mB mC (by decide); have q5 := mul_pt mA mC (by decide); have q6 := mul_pt mB mC (by decide)
  have o1 := pt_ok m1 (by decide); have o2 := pt_ok m2 (by decide); have o3 := pt_ok m3 (by decide); have o4 := pt_ok m4 (by decide)
  have v1 := pv_pt (addF A C); have v2 := pv_pt (addF B C); have v3 := pv_pt (mulF A C); have v4 := pv_pt (mulF B C)
  rw [eA, eC] at q3 q5; rw [eB, eC] at q4 q6
  obtain ⟨⟨x1, x2⟩, hx⟩ : ∃ r, ptOf (addF A C) = r := ⟨_, rfl⟩
  obtain ⟨⟨y1, y2⟩, hy⟩ : ∃ r, ptOf (addF B C) = r := ⟨_, rfl⟩
  obtain ⟨⟨p1, p2⟩, hp⟩ : ∃ r, ptOf (mulF A C) = r := ⟨_, rfl⟩
  obtain ⟨⟨r1, r2⟩, hr⟩ : ∃ r, ptOf (mulF B C) = r := ⟨_, rfl⟩
  rw [hx] at q3 o1 v1; rw [hy] at q4 o2 v2; rw [hp] at q5 o3 v3; rw [hr] at q6 o4 v4
  have Q3 := useAdd HT q3 ha hc; have Q4 := useAdd HT q4 hb hc; have Q5 := useMul HT q5 ha hc; have Q6 := useMul HT q6 hb hc
  have C3 := useCmp (z := 0) HT o3 o4 (by rw [v3, v4]; exact cmpF_prod0 mA.fr mB.fr mC.fr (by rw [hzz]; exact hcz))
  have C4 := useCmp (z := 1) HT o1 o2 (by rw [v1, v2]; exact (cmpF_sum mA.fr mB.fr mC.fr).trans hcmp)
  have U1 := useChk HT ha; have U2 := useChk HT hb; have U3 := useChk HT hc
  have HSH := Lib.hid (And.intro sa (And.intro sb sc)); have HEQ := Lib.hid heq; have HCZ := Lib.hid hcz
  clear q3 q4 q5 q6 o1 o2 o3 o4 v1 v2 v3 v4 m1 m2 m3 m4 mA mB mC eA eB eC hx hy hp hr hsub hcmp hn heq hcz hzz sha shb shc sa sb sc HT ht ha hb hc hgA hgB hgC
  obtain ⟨V1, hV1⟩ : ∃ W, W = w.alloc (.cells #[.string a1, .string a2] 24) := ⟨_, rfl⟩
  obtain ⟨V2, hV2⟩ : ∃ W, W = V1.alloc (.cells #[.string b1, .string b2] 24) := ⟨_, rfl⟩
  obtain ⟨V3, hV3⟩ : ∃ W, W = V2.alloc (.cells #[.string c1, .string c2] 24) := ⟨_, rfl⟩
  have v01 : Below w.heap.size w V1 := by rw [hV1]; exact (Below.refl _ _).alloc (Nat.le_refl _) _
  have v12 : Below V1.heap.size V1 V2 := by rw [hV2]; exact (Below.refl _ _).alloc (Nat.le_refl _) _
  have v23 : Below V2.heap.size V2 V3 := by rw [hV3]; exact (Below.refl _ _).alloc (Nat.le_refl _) _
  have z1 : V1.heap.size = w.heap.size + 1 := by rw [hV1, World.size_alloc]
  have z2 : V2.heap.size = w.heap.size + 1 + 1 := by rw [hV2, World.size_alloc, z1]
  have ka : V3.heap[w.heap.size]? = some (partO a1 a2) := part_on (part_on (by rw [hV1]; exact Go.Deep.blk_alloc_new _ _) v12) v23
  have kb : V3.heap[w.heap.size + 1]? = some (partO b1 b2) := part_on (by rw [← z1, hV2]; exact Go.Deep.blk_alloc_new _ _) v23
  have kc : V3.heap[w.heap.size + 1 + 1]? = some (partO c1 c2) := by rw [← z2, hV3]; exact Go.Deep.blk_alloc_new _ _
  have HB := Lib.hid (v01.trans ((below_chain v12 v23).mono v01.size))
  have HV1 := Lib.hid hV1; have HV2 := Lib.hid hV2; have HV3 := Lib.hid hV3; have Ka := Lib.hid ka; have Kb := Lib.hid kb; have Kc := Lib.hid kc
  clear hV1 hV2 hV3 v01 v12 v23 z1 z2 ka kb kc
  go_enter Tryz.func5, Tryz.ntmps5
  go_wp2_with fail
  rw [← HV1.out, ← HV2.out, ← HV3.out]
  refine (HAL.out V3 HB.out).mono ?_
  rintro e w1 ⟨rfl, hb1⟩
  have Hw1 := Lib.hid (HB.out.trans (hb1.mono HB.out.size))
  have ka := part_on Ka.out hb1
  have kb := part_on Kb.out hb1
  have kc := part_on Kc.out hb1
  clear Ka Kb Kc hb1
  obtain ⟨ya0, ya1, ya2⟩ := part_at ka
  obtain ⟨yb0, yb1, yb2⟩ := part_at kb
  obtain ⟨yc0, yc1, yc2⟩ := part_at kc
  obtain ⟨W1, hW1⟩ : ∃ W, W = w1.alloc (.cells #[.string a1, .string a2, .string b1, .string b2, .string c1, .string c2] 24) := ⟨_, rfl⟩
  have bb : Below w1.heap.size w1 W1 := by rw [hW1]; exact (Below.refl _ _).alloc (Nat.le_refl _) _
  have Ka := Lib.hid (part_on ka bb)
  have Kb := Lib.hid (part_on kb bb)
  have Kc := Lib.hid (part_on kc bb)
  have HW1 := Lib.hid (Hw1.out.trans (bb.mono Hw1.out.size))
  have kk : W1.heap[w1.heap.size]? = some (.cells #[.string a1, .string a2, .string b1, .string b2, .string c1, .string c2] 24 (0, 0)) := by rw [hW1]; exact Go.Deep.blk_alloc_new _ _
  have KK := Lib.hid kk
  clear kk
  have HEW1 := Lib.hid hW1
  clear bb hW1 ka kb kc
  go_wp2_with fail
  rw [← HEW1.out]
  clear ya0 ya1 ya2 yb0 yb1 yb2 yc0 yc1 yc2
  have hsh := short_any 60 [(a1, a2), (b1, b2), (c1, c2)] (.slice (some ⟨w1.heap.size, 0, none⟩) 3 3) W1 (.inr ⟨w1.heap.size, 0, 3, rfl, by simp, by decide, (Array.getElem?_eq_some_iff.1 KK.out).1, fun i hi => by
    match i, hi with
    | 0, _ => exact ⟨by rw [set_cells KK.out]; rfl, by rw [set_cells KK.out]; rfl⟩
    | 1, _ => exact ⟨by rw [set_cells KK.out]; rfl, by rw [set_cells KK.out]; rfl⟩
    | 2, _ => exact ⟨by rw [set_cells KK.out]; rfl, by rw [set_cells KK.out]; rfl⟩⟩) (by simp) (by decide)
  have hall : [(a1, a2), (b1, b2), (c1, c2)].all (shortP 60) = true := by
    simp only [List.all_cons, List.all_nil, HSH.out.1, HSH.out.2.1, HSH.out.2.2, Bool.and_self]
  rw [hall] at hsh
  have HSHORT := Lib.hid hsh
  clear hsh hall KK
  refine (HSHORT.out).mono ?_
  rintro e w2 ⟨rfl, hb2⟩
  have Hw2 := Lib.hid (HW1.out.trans (hb2.mono HW1.out.size))
  have ka := part_on Ka.out hb2
  have kb := part_on Kb.out hb2
  have kc := part_on Kc.out hb2
  clear Ka Kb Kc hb2
  obtain ⟨ya0, ya1, ya2⟩ := part_at ka
  obtain ⟨yb0, yb1, yb2⟩ := part_at kb
  obtain ⟨yc0, yc1, yc2⟩ := part_at kc
  have Ka := Lib.hid ka
  have Kb := Lib.hid kb
  have Kc := Lib.hid kc
  clear ka kb kc
  go_wp2_with fail
  clear ya0 ya1 ya2 yb0 yb1 yb2 yc0 yc1 yc2
  refine (U1.out w2 Hw2.out).mono ?_
  rintro e w3 ⟨rfl, hb3⟩
  have Hw3 := Lib.hid (Hw2.out.trans (hb3.mono Hw2.out.size))
  have ka := part_on Ka.out hb3
  have kb := part_on Kb.out hb3
  have kc := part_on Kc.out hb3
  clear Ka Kb Kc hb3
  obtain ⟨ya0, ya1, ya2⟩ := part_at ka
  obtain ⟨yb0, yb1, yb2⟩ := part_at kb
  obtain ⟨yc0, yc1, yc2⟩ := part_at kc
  have Ka := Lib.hid ka
  have Kb := Lib.hid kb
  have Kc := Lib.hid kc
  clear ka kb kc
  go_wp2_with fail
  clear ya0 ya1 ya2 yb0 yb1 yb2 yc0 yc1 yc2
  refine (U2.out w3 Hw3.out).mono ?_
  rintro e w4 ⟨rfl, hb4⟩
  have Hw4 := Lib.hid (Hw3.out.trans (hb4.mono Hw3.out.size))
  have ka := part_on Ka.out hb4
  have kb := part_on Kb.out hb4
  have kc := part_on Kc.out hb4
  clear Ka Kb Kc hb4
  obtain ⟨ya0, ya1, ya2⟩ := part_at ka
  obtain ⟨yb0, yb1, yb2⟩ := part_at kb
  obtain ⟨yc0, yc1, yc2⟩ := part_at kc
  have Ka := Lib.hid ka
  have Kb := Lib.hid kb
  have Kc := Lib.hid kc
  clear ka kb kc
  go_wp2_with fail
  clear ya0 ya1 ya2 yb0 yb1 yb2 yc0 yc1 yc2
  refine (U3.out w4 Hw4.out).mono ?_
  rintro e w5 ⟨rfl, hb5⟩
  have Hw5 := Lib.hid (Hw4.out.trans (hb5.mono Hw4.out.size))
  have ka := part_on Ka.out hb5
  have kb := part_on Kb.out hb5
  have kc := part_on Kc.out hb5
  clear Ka Kb Kc hb5
  obtain ⟨ya0, ya1, ya2⟩ := part_at ka
  obtain ⟨yb0, yb1, yb2⟩ := part_at kb
  obtain ⟨yc0, yc1, yc2⟩ := part_at kc
  have Ka := Lib.hid ka
  have Kb := Lib.hid kb
  have Kc := Lib.hid kc
  clear ka kb kc
  go_wp2_with fail
  clear ya0 ya1 ya2 yb0 yb1 yb2 yc0 yc1 yc2
  refine (C1.out w5 Hw5.out).mono ?_
  rintro e w6 ⟨rfl, hb6⟩
  have Hw6 := Lib.hid (Hw5.out.trans (hb6.mono Hw5.out.size))
  have ka := part_on Ka.out hb6
  have kb := part_on Kb.out hb6
  have kc := part_on Kc.out hb6
  clear Ka Kb Kc hb6
  obtain ⟨ya0, ya1, ya2⟩ := part_at ka
  obtain ⟨yb0, yb1, yb2⟩ := part_at kb
  obtain ⟨yc0, yc1, yc2⟩ := part_at kc
  have Ka := Lib.hid ka
  have Kb := Lib.hid kb
  have Kc := Lib.hid kc
  clear ka kb kc
  go_wp2_with fail
  clear ya0 ya1 ya2 yb0 yb1 yb2 yc0 yc1 yc2
  refine (Q2.out w6 Hw6.out).mono ?_
  rintro e w7 ⟨rfl, hb7⟩
  have Hw7 := Lib.hid (Hw6.out.trans (hb7.mono Hw6.out.size))
  have ka := part_on Ka.out hb7
  have kb := part_on Kb.out hb7
  have kc := part_on Kc.out hb7
  clear Ka Kb Kc hb7
  obtain ⟨ya0, ya1, ya2⟩ := part_at ka
  obtain ⟨yb0, yb1, yb2⟩ := part_at kb
  obtain ⟨yc0, yc1, yc2⟩ := part_at kc
  obtain ⟨W7, hW7⟩ : ∃ W, W = w7.alloc (.cells #[.string d1, .string d2] 24) := ⟨_, rfl⟩
  have bb : Below w7.heap.size w7 W7 := by rw [hW7]; exact (Below.refl _ _).alloc (Nat.le_refl _) _
  have Ka := Lib.hid (part_on ka bb)
  have Kb := Lib.hid (part_on kb bb)
  have Kc := Lib.hid (part_on kc bb)
  have HW7 := Lib.hid (Hw7.out.trans (bb.mono Hw7.out.size))
  have Kd : Hid (W7.heap[w7.heap.size]? = some (partO d1 d2)) := Lib.hid (by rw [hW7]; exact Go.Deep.blk_alloc_new _ _)
  have HEW7 := Lib.hid hW7
  clear bb hW7 ka kb kc
  go_wp2_with fail
  rw [← HEW7.out]
  clear ya0 ya1 ya2 yb0 yb1 yb2 yc0 yc1 yc2
  refine (Q3.out W7 HW7.out).mono ?_
  rintro e w8 ⟨rfl, hb8⟩
  have Hw8 := Lib.hid (HW7.out.trans (hb8.mono HW7.out.size))
  have ka := part_on Ka.out hb8
  have kb := part_on Kb.out hb8
  have kc := part_on Kc.out hb8
  have kd := part_on Kd.out hb8
  clear Ka Kb Kc Kd hb8
  obtain ⟨ya0, ya1, ya2⟩ := part_at ka
  obtain ⟨yb0, yb1, yb2⟩ := part_at kb
  obtain ⟨yc0, yc1, yc2⟩ := part_at kc
  obtain ⟨yd0, yd1, yd2⟩ := part_at kd
  obtain ⟨W8, hW8⟩ : ∃ W, W = w8.alloc (.cells #[.string x1, .string x2] 24) := ⟨_, rfl⟩
  have bb : Below w8.heap.size w8 W8 := by rw [hW8]; exact (Below.refl _ _).alloc (Nat.le_refl _) _
  have Ka := Lib.hid (part_on ka bb)
  have Kb := Lib.hid (part_on kb bb)
  have Kc := Lib.hid (part_on kc bb)
  have Kd := Lib.hid (part_on kd bb)
  have HW8 := Lib.hid (Hw8.out.trans (bb.mono Hw8.out.size))
  have Kx : Hid (W8.heap[w8.heap.size]? = some (partO x1 x2)) := Lib.hid (by rw [hW8]; exact Go.Deep.blk_alloc_new _ _)
  have HEW8 := Lib.hid hW8
  clear bb hW8 ka kb kc kd
  go_wp2_with fail
  rw [← HEW8.out]
  clear ya0 ya1 ya2 yb0 yb1 yb2 yc0 yc1 yc2 yd0 yd1 yd2
  refine (Q4.out W8 HW8.out).mono ?_
  rintro e w9 ⟨rfl, hb9⟩
  have Hw9 := Lib.hid (HW8.out.trans (hb9.mono HW8.out.size))
  have ka := part_on Ka.out hb9
  have kb := part_on Kb.out hb9
  have kc := part_on Kc.out hb9
  have kd := part_on Kd.out hb9
  have kx := part_on Kx.out hb9
  clear Ka Kb Kc Kd Kx hb9
  obtain ⟨ya0, ya1, ya2⟩ := part_at ka
  obtain ⟨yb0, yb1, yb2⟩ := part_at kb
  obtain ⟨yc0, yc1, yc2⟩ := part_at kc
  obtain ⟨yd0, yd1, yd2⟩ := part_at kd
  obtain ⟨yx0, yx1, yx2⟩ := part_at kx
  obtain ⟨W9, hW9⟩ : ∃ W, W = w9.alloc (.cells #[.string y1, .string y2] 24) := ⟨_, rfl⟩
  have bb : Below w9.heap.size w9 W9 := by rw [hW9]; exact (Below.refl _ _).alloc (Nat.le_refl _) _
  have Ka := Lib.hid (part_on ka bb)
  have Kb := Lib.hid (part_on kb bb)
  have Kc := Lib.hid (part_on kc bb)
  have Kd := Lib.hid (part_on kd bb)
  have Kx := Lib.hid (part_on kx bb)
  have HW9 := Lib.hid (Hw9.out.trans (bb.mono Hw9.out.size))
  have Ky : Hid (W9.heap[w9.heap.size]? = some (partO y1 y2)) := Lib.hid (by rw [hW9]; exact Go.Deep.blk_alloc_new _ _)
  have HEW9 := Lib.hid hW9
  clear bb hW9 ka kb kc kd kx
  go_wp2_with fail
  rw [← HEW9.out]
  clear ya0 ya1 ya2 yb0 yb1 yb2 yc0 yc1 yc2 yd0 yd1 yd2 yx0 yx1 yx2
  refine (Q5.out W9 HW9.out).mono ?_
  rintro e w10 ⟨rfl, hb10⟩
  have Hw10 := Lib.hid (HW9.out.trans (hb10.mono HW9.out.size))
  have ka := part_on Ka.out hb10
  have kb := part_on Kb.out hb10
  have kc := part_on Kc.out hb10
  have kd := part_on Kd.out hb10
  have kx := part_on Kx.out hb10
  have ky := part_on Ky.out hb10
  clear Ka Kb Kc Kd Kx Ky hb10
  obtain ⟨ya0, ya1, ya2⟩ := part_at ka
  obtain ⟨yb0, yb1, yb2⟩ := part_at kb
  obtain ⟨yc0, yc1, yc2⟩ := part_at kc
  obtain ⟨yd0, yd1, yd2⟩ := part_at kd
  obtain ⟨yx0, yx1, yx2⟩ := part_at kx
  obtain ⟨yy0, yy1, yy2⟩ := part_at ky
  obtain ⟨W10, hW10⟩ : ∃ W, W = w10.alloc (.cells #[.string p1, .string p2] 24) := ⟨_, rfl⟩
  have bb : Below w10.heap.size w10 W10 := by rw [hW10]; exact (Below.refl _ _).alloc (Nat.le_refl _) _
  have Ka := Lib.hid (part_on ka bb)
  have Kb := Lib.hid (part_on kb bb)
  have Kc := Lib.hid (part_on kc bb)
  have Kd := Lib.hid (part_on kd bb)
  have Kx := Lib.hid (part_on kx bb)
  have Ky := Lib.hid (part_on ky bb)
  have HW10 := Lib.hid (Hw10.out.trans (bb.mono Hw10.out.size))
  have Kp : Hid (W10.heap[w10.heap.size]? = some (partO p1 p2)) := Lib.hid (by rw [hW10]; exact Go.Deep.blk_alloc_new _ _)
  have HEW10 := Lib.hid hW10
  clear bb hW10 ka kb kc kd kx ky
  go_wp2_with fail
  rw [← HEW10.out]
  clear ya0 ya1 ya2 yb0 yb1 yb2 yc0 yc1 yc2 yd0 yd1 yd2 yx0 yx1 yx2 yy0 yy1 yy2
  refine (Q6.out W10 HW10.out).mono ?_
  rintro e w11 ⟨rfl, hb11⟩
  have Hw11 := Lib.hid (HW10.out.trans (hb11.mono HW10.out.size))
  have ka := part_on Ka.out hb11
  have kb := part_on Kb.out hb11
  have kc := part_on Kc.out hb11
  have kd := part_on Kd.out hb11
  have kx := part_on Kx.out hb11
  have ky := part_on Ky.out hb11
  have kp := part_on Kp.out hb11
  clear Ka Kb Kc Kd Kx Ky Kp hb11
  obtain ⟨ya0, ya1, ya2⟩ := part_at ka
  obtain ⟨yb0, yb1, yb2⟩ := part_at kb
  obtain ⟨yc0, yc1, yc2⟩ := part_at kc
  obtain ⟨yd0, yd1, yd2⟩ := part_at kd
  obtain ⟨yx0, yx1, yx2⟩ := part_at kx
  obtain ⟨yy0, yy1, yy2⟩ := part_at ky
  obtain ⟨yp0, yp1, yp2⟩ := part_at kp
  obtain ⟨W11, hW11⟩ : ∃ W, W = w11.alloc (.cells #[.string r1, .string r2] 24) := ⟨_, rfl⟩
  have bb : Below w11.heap.size w11 W11 := by rw [hW11]; exact (Below.refl _ _).alloc (Nat.le_refl _) _
  have Ka := Lib.hid (part_on ka bb)
  have Kb := Lib.hid (part_on kb bb)
  have Kc := Lib.hid (part_on kc bb)
  have Kd := Lib.hid (part_on kd bb)
  have Kx := Lib.hid (part_on kx bb)
  have Ky := Lib.hid (part_on ky bb)
  have Kp := Lib.hid (part_on kp bb)
  have HW11 := Lib.hid (Hw11.out.trans (bb.mono Hw11.out.size))
  have Kr : Hid (W11.heap[w11.heap.size]? = some (partO r1 r2)) := Lib.hid (by rw [hW11]; exact Go.Deep.blk_alloc_new _ _)
  have HEW11 := Lib.hid hW11
  clear bb hW11 ka kb kc kd kx ky kp
  go_wp2_with fail
  rw [← HEW11.out]
  clear ya0 ya1 ya2 yb0 yb1 yb2 yc0 yc1 yc2 yd0 yd1 yd2 yx0 yx1 yx2 yy0 yy1 yy2 yp0 yp1 yp2
  have hc0 : c1 = ⟨#[48]⟩ := HCZ.out
  subst hc0
  refine (C3.out W11 HW11.out).mono ?_
  rintro e w12 ⟨rfl, hb12⟩
  have Hw12 := Lib.hid (HW11.out.trans (hb12.mono HW11.out.size))
  have ka := part_on Ka.out hb12
  have kb := part_on Kb.out hb12
  have kc := part_on Kc.out hb12
  have kd := part_on Kd.out hb12
  have kx := part_on Kx.out hb12
  have ky := part_on Ky.out hb12
  have kp := part_on Kp.out hb12
  have kr := part_on Kr.out hb12
  clear Ka Kb Kc Kd Kx Ky Kp Kr hb12
  obtain ⟨ya0, ya1, ya2⟩ := part_at ka
  obtain ⟨yb0, yb1, yb2⟩ := part_at kb
  obtain ⟨yc0, yc1, yc2⟩ := part_at kc
  obtain ⟨yd0, yd1, yd2⟩ := part_at kd
  obtain ⟨yx0, yx1, yx2⟩ := part_at kx
  obtain ⟨yy0, yy1, yy2⟩ := part_at ky
  obtain ⟨yp0, yp1, yp2⟩ := part_at kp
  obtain ⟨yr0, yr1, yr2⟩ := part_at kr
  have Ka := Lib.hid ka
  have Kb := Lib.hid kb
  have Kc := Lib.hid kc
  have Kd := Lib.hid kd
  have Kx := Lib.hid kx
  have Ky := Lib.hid ky
  have Kp := Lib.hid kp
  have Kr := Lib.hid kr
  clear ka kb kc kd kx ky kp kr
  go_wp2_with fail
  clear ya0 ya1 ya2 yb0 yb1 yb2 yc0 yc1 yc2 yd0 yd1 yd2 yx0 yx1 yx2 yy0 yy1 yy2 yp0 yp1 yp2 yr0 yr1 yr2
  by_cases e1 : a1 = b1
  · have e2 : ¬ a2 = b2 := fun h => HEQ.out (Prod.ext e1 h)
    subst e1
    have e2l : ¬ a2.toList = b2.toList := fun h => e2 (list_inj h)
    refine (C2.out w12 Hw12.out).mono ?_
    rintro e w13 ⟨rfl, hb13⟩
    have Hw13 := Lib.hid (Hw12.out.trans (hb13.mono Hw12.out.size))
    have ka := part_on Ka.out hb13
    have kb := part_on Kb.out hb13
    have kc := part_on Kc.out hb13
    have kd := part_on Kd.out hb13
    have kx := part_on Kx.out hb13
    have ky := part_on Ky.out hb13
    have kp := part_on Kp.out hb13
    have kr := part_on Kr.out hb13
    clear Ka Kb Kc Kd Kx Ky Kp Kr hb13
    obtain ⟨ya0, ya1, ya2⟩ := part_at ka
    obtain ⟨yb0, yb1, yb2⟩ := part_at kb
    obtain ⟨yc0, yc1, yc2⟩ := part_at kc
    obtain ⟨yd0, yd1, yd2⟩ := part_at kd
    obtain ⟨yx0, yx1, yx2⟩ := part_at kx
    obtain ⟨yy0, yy1, yy2⟩ := part_at ky
    obtain ⟨yp0, yp1, yp2⟩ := part_at kp
    obtain ⟨yr0, yr1, yr2⟩ := part_at kr
    have Ka := Lib.hid ka
    have Kb := Lib.hid kb
    have Kc := Lib.hid kc
    have Kd := Lib.hid kd
    have Kx := Lib.hid kx
    have Ky := Lib.hid ky
    have Kp := Lib.hid kp
    have Kr := Lib.hid kr
    clear ka kb kc kd kx ky kp kr
    go_wp2_with fail
    clear ya0 ya1 ya2 yb0 yb1 yb2 yc0 yc1 yc2 yd0 yd1 yd2 yx0 yx1 yx2 yy0 yy1 yy2 yp0 yp1 yp2 yr0 yr1 yr2
    refine (C4.out w13 Hw13.out).mono ?_
    rintro e w14 ⟨rfl, hb14⟩
    have Hw14 := Lib.hid (Hw13.out.trans (hb14.mono Hw13.out.size))
    have ka := part_on Ka.out hb14
    have kb := part_on Kb.out hb14
    have kc := part_on Kc.out hb14
    have kd := part_on Kd.out hb14
    have kx := part_on Kx.out hb14
    have ky := part_on Ky.out hb14
    have kp := part_on Kp.out hb14
    have kr := part_on Kr.out hb14
    clear Ka Kb Kc Kd Kx Ky Kp Kr hb14
    obtain ⟨ya0, ya1, ya2⟩ := part_at ka
    obtain ⟨yb0, yb1, yb2⟩ := part_at kb
    obtain ⟨yc0, yc1, yc2⟩ := part_at kc
    obtain ⟨yd0, yd1, yd2⟩ := part_at kd
    obtain ⟨yx0, yx1, yx2⟩ := part_at kx
    obtain ⟨yy0, yy1, yy2⟩ := part_at ky
    obtain ⟨yp0, yp1, yp2⟩ := part_at kp
    obtain ⟨yr0, yr1, yr2⟩ := part_at kr
    have Ka := Lib.hid ka
    have Kb := Lib.hid kb
    have Kc := Lib.hid kc
    have Kd := Lib.hid kd
    have Kx := Lib.hid kx
    have Ky := Lib.hid ky
    have Kp := Lib.hid kp
    have Kr := Lib.hid kr
    clear ka kb kc kd kx ky kp kr
    go_wp2_with fail
    clear ya0 ya1 ya2 yb0 yb1 yb2 yc0 yc1 yc2 yd0 yd1 yd2 yx0 yx1 yx2 yy0 yy1 yy2 yp0 yp1 yp2 yr0 yr1 yr2
    exact bodyPost_ret (v := .bool true) (by simp [results, Tryz.results5, go_sem]) rfl ⟨rfl, Hw14.out⟩
  · have e3 : ¬ b1 = a1 := fun h => e1 h.symm
    have e2l : ¬ a1.toList = b1.toList := fun h => e1 (list_inj h)
    refine (C2.out w12 Hw12.out).mono ?_
    rintro e w13 ⟨rfl, hb13⟩
    have Hw13 := Lib.hid (Hw12.out.trans (hb13.mono Hw12.out.size))
    have ka := part_on Ka.out hb13
    have kb := part_on Kb.out hb13
    have kc := part_on Kc.out hb13
    have kd := part_on Kd.out hb13
    have kx := part_on Kx.out hb13
    have ky := part_on Ky.out hb13
    have kp := part_on Kp.out hb13
    have kr := part_on Kr.out hb13
    clear Ka Kb Kc Kd Kx Ky Kp Kr hb13
    obtain ⟨ya0, ya1, ya2⟩ := part_at ka
    obtain ⟨yb0, yb1, yb2⟩ := part_at kb
    obtain ⟨yc0, yc1, yc2⟩ := part_at kc
    obtain ⟨yd0, yd1, yd2⟩ := part_at kd
    obtain ⟨yx0, yx1, yx2⟩ := part_at kx
    obtain ⟨yy0, yy1, yy2⟩ := part_at ky
    obtain ⟨yp0, yp1, yp2⟩ := part_at kp
    obtain ⟨yr0, yr1, yr2⟩ := part_at kr
    have Ka := Lib.hid ka
    have Kb := Lib.hid kb
    have Kc := Lib.hid kc
    have Kd := Lib.hid kd
    have Kx := Lib.hid kx
    have Ky := Lib.hid ky
    have Kp := Lib.hid kp
    have Kr := Lib.hid kr
    clear ka kb kc kd kx ky kp kr
    go_wp2_with fail
    clear ya0 ya1 ya2 yb0 yb1 yb2 yc0 yc1 yc2 yd0 yd1 yd2 yx0 yx1 yx2 yy0 yy1 yy2 yp0 yp1 yp2 yr0 yr1 yr2
    refine (C4.out w13 Hw13.out).mono ?_
    rintro e w14 ⟨rfl, hb14⟩
    have Hw14 := Lib.hid (Hw13.out.trans (hb14.mono Hw13.out.size))
    have ka := part_on Ka.out hb14
    have kb := part_on Kb.out hb14
    have kc := part_on Kc.out hb14
    have kd := part_on Kd.out hb14
    have kx := part_on Kx.out hb14
    have ky := part_on Ky.out hb14
    have kp := part_on Kp.out hb14
    have kr := part_on Kr.out hb14
    clear Ka Kb Kc Kd Kx Ky Kp Kr hb14
    obtain ⟨ya0, ya1, ya2⟩ := part_at ka
    obtain ⟨yb0, yb1, yb2⟩ := part_at kb
    obtain ⟨yc0, yc1, yc2⟩ := part_at kc
    obtain ⟨yd0, yd1, yd2⟩ := part_at kd
    obtain ⟨yx0, yx1, yx2⟩ := part_at kx
    obtain ⟨yy0, yy1, yy2⟩ := part_at ky
    obtain ⟨yp0, yp1, yp2⟩ := part_at kp
    obtain ⟨yr0, yr1, yr2⟩ := part_at kr
    have Ka := Lib.hid ka
    have Kb := Lib.hid kb
    have Kc := Lib.hid kc
    have Kd := Lib.hid kd
    have Kx := Lib.hid kx
    have Ky := Lib.hid ky
    have Kp := Lib.hid kp
    have Kr := Lib.hid kr
    clear ka kb kc kd kx ky kp kr
    go_wp2_with fail
    clear ya0 ya1 ya2 yb0 yb1 yb2 yc0 yc1 yc2 yd0 yd1 yd2 yx0 yx1 yx2 yy0 yy1 yy2 yp0 yp1 yp2 yr0 yr1 yr2
    exact bodyPost_ret (v := .bool true) (by simp [results, Tryz.results5, go_sem]) rfl ⟨rfl, Hw14.out⟩

set_option maxRecDepth 100000 in
set_option maxHeartbeats 8000000 in
theorem orders_gt_p (a1 a2 b1 b2 c1 c2 : ByteArray) (ha : okP (a1, a2) = true) (hb : okP (b1, b2) = true) (hc : okP (c1, c2) = true) (sa : shortP 60 (a1, a2) = true) (sb : shortP 60 (b1, b2) = true) (sc : shortP 60 (c1, c2) = true) (hn : (pv (b1, b2)).1 * (pv (a1, a2)).2 < (pv (a1, a2)).1 * (pv (b1, b2)).2) (hcz : ¬ c1 = zeroB) (w : World) (ht : Tens w) (h0 : 0 < w.heap.size) :
    Calls Tryz.prog 5 #[.agg #[.string a1, .string a2], .agg #[.string b1, .string b2], .agg #[.string c1, .string c2]] w fun e w' => e = .returned (.bool true) ∧ Below w.heap.size w w' := by
  have HT : ∀ W, Below w.heap.size w W → Tens W := fun W hW j hj => cell_later hW (ht j hj)
  have HAL : Hid (∀ W, Below w.heap.size w W → Calls Tryz.prog 20 #[] W fun e w' => e = .returned (.bool true) ∧ Below W.heap.size W w') := Lib.hid fun W hW => alive_any W (HT W hW) (by have := hW.size; omega)
  have sha : a1.size ≤ 60 ∧ a2.size ≤ 60 := by unfold shortP at sa; simpa using sa
  have shb : b1.size ≤ 60 ∧ b2.size ≤ 60 := by unfold shortP at sb; simpa using sb
  have shc : c1.size ≤ 60 ∧ c2.size ≤ 60 := by unfold shortP at sc; simpa using sc
  have mA := sm_of (k := 60) ha sha.1 sha.2
  have mB := sm_of (k := 60) hb shb.1 shb.2
  have mC := sm_of (k := 60) hc shc.1 shc.2
  have eA := pt_pv ha; have eB := pt_pv hb; have eC := pt_pv hc
  have hzz := num_zero hc
  have hcmp : cmpF (pv (a1, a2)) (pv (b1, b2)) = 1 := cmpF_gt hn
  have C1 := useCmp HT ha hb hcmp
  have C2 := useCmp (z := (-1)) HT hb ha (by rw [cmpF_swap, hcmp] <;> rfl)
  have heq : ¬ (a1, a2) = (b1, b2) := fun h => by rw [h] at hn; exact Nat.lt_irrefl _ hn
  obtain ⟨⟨d1, d2⟩, hsub⟩ : ∃ r, subS (a1, a2) (b1, b2) = (r, 0) := ⟨_, (subS_ok ha hb (by omega)).trans (res_sm (k := 120) (low_sm (Nat.mul_pos mA.fr.pos mB.fr.pos) (Nat.lt_of_le_of_lt (Nat.sub_le _ _) (by rw [show (120:Nat) = 60 + 60 from rfl, Nat.pow_add]; exact Nat.mul_lt_mul'' mA.n mB.d)) (by rw [show (120:Nat) = 60 + 60 from rfl, Nat.pow_add]; exact Nat.mul_lt_mul'' mA.d mB.d)) (by decide))⟩
  have Q2 := useSub HT hsub ha hb
  generalize hgA : pv (a1, a2) = A at *
  generalize hgB : pv (b1, b2) = B at *
  generalize hgC : pv (c1, c2) = C at *
  have m1 := mA.add mC (m := 121) rfl; have m2 := mB.add mC (m := 121) rfl; have m3 := mA.mul mC (m := 120) rfl; have m4 := mB.mul mC (m := 120) rfl
  have q3 := add_pt mA mC (by decide); have q4 := add_pt mB mC (by decide); have q5 := mul_pt mA mC (by decide); have q6 := mul_pt mB mC (by decide)
  have o1 := pt_ok m1 (by decide); have o2 := pt_ok m2 (by decide); have o3 := pt_ok m3 (by decide); have o4 := pt_ok m4 (by decide)
  have v1 := pv_pt (addF A C); have v2 := pv_pt (addF B C); have v3 := pv_pt (mulF A C); have v4 := pv_pt (mulF B C)
  rw [eA, eC] at q3 q5; rw [eB, eC] at q4 q6
  obtain ⟨⟨x1, x2⟩, hx⟩ : ∃ r, ptOf (addF A C) = r := ⟨_, rfl⟩
  obtain ⟨⟨y1, y2⟩, hy⟩ : ∃ r, ptOf (addF B C) = r := ⟨_, rfl⟩
  obtain ⟨⟨p1, p2⟩, hp⟩ : ∃ r, ptOf (mulF A C) = r := ⟨_, rfl⟩
  obtain ⟨⟨r1, r2⟩, hr⟩ : ∃ r, ptOf (mulF B C) = r := ⟨_, rfl⟩
  rw [hx] at q3 o1 v1; rw [hy] at q4 o2 v2; rw [hp] at q5 o3 v3; rw [hr] at q6 o4 v4
  have Q3 := useAdd HT q3 ha hc; have Q4 := useAdd HT q4 hb hc; have Q5 := useMul HT q5 ha hc; have Q6 := useMul HT q6 hb hc
  have C3 := useCmp (z := 1) HT o3 o4 (by rw [v3, v4]; exact (cmpF_prod mA.fr mB.fr mC.fr (Nat.pos_of_ne_zero (by rw [Ne, hzz]; exact hcz))).trans hcmp)
  have C4 := useCmp (z := 1) HT o1 o2 (by rw [v1, v2]; exact (cmpF_sum mA.fr mB.fr mC.fr).trans hcmp)
  have U1 := useChk HT ha; have U2 := useChk HT hb; have U3 := useChk HT hc
  have HSH := Lib.hid (And.intro sa (And.intro sb sc)); have HEQ := Lib.hid heq; have HCZ := Lib.hid hcz
  clear q3 q4 q5 q6 o1 o2 o3 o4 v1 v2 v3 v4 m1 m2 m3 m4 mA mB mC eA eB eC hx hy hp hr hsub hcmp hn heq hcz hzz sha shb shc sa sb sc HT ht ha hb hc hgA hgB hgC
  obtain ⟨V1, hV1⟩ : ∃ W, W = w.alloc (.cells #[.string a1, .string a2] 24) := ⟨_, rfl⟩
  obtain ⟨V2, hV2⟩ : ∃ W, W = V1.alloc (.cells #[.string b1, .string b2] 24) := ⟨_, rfl⟩
  obtain ⟨V3, hV3⟩ : ∃ W, W = V2.alloc (.cells #[.string c1, .string c2] 24) := ⟨_, rfl⟩
  have v01 : Below w.heap.size w V1 := by rw [hV1]; exact (Below.refl _ _).alloc (Nat.le_refl _) _
  have v12 : Below V1.heap.size V1 V2 := by rw [hV2]; exact (Below.refl _ _).alloc (Nat.le_refl _) _
  have v23 : Below V2.heap.size V2 V3 := by rw [hV3]; exact (Below.refl _ _).alloc (Nat.le_refl _) _
  have z1 : V1.heap.size = w.heap.size + 1 := by rw [hV1, World.size_alloc]
  have z2 : V2.heap.size = w.heap.size + 1 + 1 := by rw [hV2, World.size_alloc, z1]
  have ka : V3.heap[w.heap.size]? = some (partO a1 a2) := part_on (part_on (by rw [hV1]; exact Go.Deep.blk_alloc_new _ _) v12) v23
  have kb : V3.heap[w.heap.size + 1]? = some (partO b1 b2) := part_on (by rw [← z1, hV2]; exact Go.Deep.blk_alloc_new _ _) v23
  have kc : V3.heap[w.heap.size + 1 + 1]? = some (partO c1 c2) := by rw [← z2, hV3]; exact Go.Deep.blk_alloc_new _ _
  have HB := Lib.hid (v01.trans ((below_chain v12 v23).mono v01.size))
  have HV1 := Lib.hid hV1; have HV2 := Lib.hid hV2; have HV3 := Lib.hid hV3; have Ka := Lib.hid ka; have Kb := Lib.hid kb; have Kc := Lib.hid kc
  clear hV1 hV2 hV3 v01 v12 v23 z1 z2 ka kb kc
  go_enter Tryz.func5, Tryz.ntmps5
  go_wp2_with fail
  rw [← HV1.out, ← HV2.out, ← HV3.out]
  refine (HAL.out V3 HB.out).mono ?_
  rintro e w1 ⟨rfl, hb1⟩
  have Hw1 := Lib.hid (HB.out.trans (hb1.mono HB.out.size))
  have ka := part_on Ka.out hb1
  have kb := part_on Kb.out hb1
  have kc := part_on Kc.out hb1
  clear Ka Kb Kc hb1
  obtain ⟨ya0, ya1, ya2⟩ := part_at ka
  obtain ⟨yb0, yb1, yb2⟩ := part_at kb
  obtain ⟨yc0, yc1, yc2⟩ := part_at kc
  obtain ⟨W1, hW1⟩ : ∃ W, W = w1.alloc (.cells #[.string a1, .string a2, .string b1, .string b2, .string c1, .string c2] 24) := ⟨_, rfl⟩
  have bb : Below w1.heap.size w1 W1 := by rw [hW1]; exact (Below.refl _ _).alloc (Nat.le_refl _) _
  have Ka := Lib.hid (part_on ka bb)
  have Kb := Lib.hid (part_on kb bb)
  have Kc := Lib.hid (part_on kc bb)
  have HW1 := Lib.hid (Hw1.out.trans (bb.mono Hw1.out.size))
  have kk : W1.heap[w1.heap.size]? = some (.cells #[.string a1, .string a2, .string b1, .string b2, .string c1, .string c2] 24 (0, 0)) := by rw [hW1]; exact Go.Deep.blk_alloc_new _ _
  have KK := Lib.hid kk
  clear kk
  have HEW1 := Lib.hid hW1
  clear bb hW1 ka kb kc
  go_wp2_with fail
  rw [← HEW1.out]
  clear ya0 ya1 ya2 yb0 yb1 yb2 yc0 yc1 yc2
  have hsh := short_any 60 [(a1, a2), (b1, b2), (c1, c2)] (.slice (some ⟨w1.heap.size, 0, none⟩) 3 3) W1 (.inr ⟨w1.heap.size, 0, 3, rfl, by simp, by decide, (Array.getElem?_eq_some_iff.1 KK.out).1, fun i hi => by
    match i, hi with
    | 0, _ => exact ⟨by rw [set_cells KK.out]; rfl, by rw [set_cells KK.out]; rfl⟩
    | 1, _ => exact ⟨by rw [set_cells KK.out]; rfl, by rw [set_cells KK.out]; rfl⟩
    | 2, _ => exact ⟨by rw [set_cells KK.out]; rfl, by rw [set_cells KK.out]; rfl⟩⟩) (by simp) (by decide)
  have hall : [(a1, a2), (b1, b2), (c1, c2)].all (shortP 60) = true := by
    simp only [List.all_cons, List.all_nil, HSH.out.1, HSH.out.2.1, HSH.out.2.2, Bool.and_self]
  rw [hall] at hsh
  have HSHORT := Lib.hid hsh
  clear hsh hall KK
  refine (HSHORT.out).mono ?_
  rintro e w2 ⟨rfl, hb2⟩
  have Hw2 := Lib.hid (HW1.out.trans (hb2.mono HW1.out.size))
  have ka := part_on Ka.out hb2
  have kb := part_on Kb.out hb2
  have kc := part_on Kc.out hb2
  clear Ka Kb Kc hb2
  obtain ⟨ya0, ya1, ya2⟩ := part_at ka
  obtain ⟨yb0, yb1, yb2⟩ := part_at kb
  obtain ⟨yc0, yc1, yc2⟩ := part_at kc
  have Ka := Lib.hid ka
  have Kb := Lib.hid kb
  have Kc := Lib.hid kc
  clear ka kb kc
  go_wp2_with fail
  clear ya0 ya1 ya2 yb0 yb1 yb2 yc0 yc1 yc2
  refine (U1.out w2 Hw2.out).mono ?_
  rintro e w3 ⟨rfl, hb3⟩
  have Hw3 := Lib.hid (Hw2.out.trans (hb3.mono Hw2.out.size))
  have ka := part_on Ka.out hb3
  have kb := part_on Kb.out hb3
  have kc := part_on Kc.out hb3
  clear Ka Kb Kc hb3
  obtain ⟨ya0, ya1, ya2⟩ := part_at ka
  obtain ⟨yb0, yb1, yb2⟩ := part_at kb
  obtain ⟨yc0, yc1, yc2⟩ := part_at kc
  have Ka := Lib.hid ka
  have Kb := Lib.hid kb
  have Kc := Lib.hid kc
  clear ka kb kc
  go_wp2_with fail
  clear ya0 ya1 ya2 yb0 yb1 yb2 yc0 yc1 yc2
  refine (U2.out w3 Hw3.out).mono ?_
  rintro e w4 ⟨rfl, hb4⟩
  have Hw4 := Lib.hid (Hw3.out.trans (hb4.mono Hw3.out.size))
  have ka := part_on Ka.out hb4
  have kb := part_on Kb.out hb4
  have kc := part_on Kc.out hb4
  clear Ka Kb Kc hb4
  obtain ⟨ya0, ya1, ya2⟩ := part_at ka
  obtain ⟨yb0, yb1, yb2⟩ := part_at kb
  obtain ⟨yc0, yc1, yc2⟩ := part_at kc
  have Ka := Lib.hid ka
  have Kb := Lib.hid kb
  have Kc := Lib.hid kc
  clear ka kb kc
  go_wp2_with fail
  clear ya0 ya1 ya2 yb0 yb1 yb2 yc0 yc1 yc2
  refine (U3.out w4 Hw4.out).mono ?_
  rintro e w5 ⟨rfl, hb5⟩
  have Hw5 := Lib.hid (Hw4.out.trans (hb5.mono Hw4.out.size))
  have ka := part_on Ka.out hb5
  have kb := part_on Kb.out hb5
  have kc := part_on Kc.out hb5
  clear Ka Kb Kc hb5
  obtain ⟨ya0, ya1, ya2⟩ := part_at ka
  obtain ⟨yb0, yb1, yb2⟩ := part_at kb
  obtain ⟨yc0, yc1, yc2⟩ := part_at kc
  have Ka := Lib.hid ka
  have Kb := Lib.hid kb
  have Kc := Lib.hid kc
  clear ka kb kc
  go_wp2_with fail
  clear ya0 ya1 ya2 yb0 yb1 yb2 yc0 yc1 yc2
  refine (C1.out w5 Hw5.out).mono ?_
  rintro e w6 ⟨rfl, hb6⟩
  have Hw6 := Lib.hid (Hw5.out.trans (hb6.mono Hw5.out.size))
  have ka := part_on Ka.out hb6
  have kb := part_on Kb.out hb6
  have kc := part_on Kc.out hb6
  clear Ka Kb Kc hb6
  obtain ⟨ya0, ya1, ya2⟩ := part_at ka
  obtain ⟨yb0, yb1, yb2⟩ := part_at kb
  obtain ⟨yc0, yc1, yc2⟩ := part_at kc
  have Ka := Lib.hid ka
  have Kb := Lib.hid kb
  have Kc := Lib.hid kc
  clear ka kb kc
  go_wp2_with fail
  clear ya0 ya1 ya2 yb0 yb1 yb2 yc0 yc1 yc2
  refine (Q2.out w6 Hw6.out).mono ?_
  rintro e w7 ⟨rfl, hb7⟩
  have Hw7 := Lib.hid (Hw6.out.trans (hb7.mono Hw6.out.size))
  have ka := part_on Ka.out hb7
  have kb := part_on Kb.out hb7
  have kc := part_on Kc.out hb7
  clear Ka Kb Kc hb7
  obtain ⟨ya0, ya1, ya2⟩ := part_at ka
  obtain ⟨yb0, yb1, yb2⟩ := part_at kb
  obtain ⟨yc0, yc1, yc2⟩ := part_at kc
  obtain ⟨W7, hW7⟩ : ∃ W, W = w7.alloc (.cells #[.string d1, .string d2] 24) := ⟨_, rfl⟩
  have bb : Below w7.heap.size w7 W7 := by rw [hW7]; exact (Below.refl _ _).alloc (Nat.le_refl _) _
  have Ka := Lib.hid (part_on ka bb)
  have Kb := Lib.hid (part_on kb bb)
  have Kc := Lib.hid (part_on kc bb)
  have HW7 := Lib.hid (Hw7.out.trans (bb.mono Hw7.out.size))
  have Kd : Hid (W7.heap[w7.heap.size]? = some (partO d1 d2)) := Lib.hid (by rw [hW7]; exact Go.Deep.blk_alloc_new _ _)
  have HEW7 := Lib.hid hW7
  clear bb hW7 ka kb kc
  go_wp2_with fail
  rw [← HEW7.out]
  clear ya0 ya1 ya2 yb0 yb1 yb2 yc0 yc1 yc2
  refine (Q3.out W7 HW7.out).mono ?_
  rintro e w8 ⟨rfl, hb8⟩
  have Hw8 := Lib.hid (HW7.out.trans (hb8.mono HW7.out.size))
  have ka := part_on Ka.out hb8
  have kb := part_on Kb.out hb8
  have kc := part_on Kc.out hb8
  have kd := part_on Kd.out hb8
  clear Ka Kb Kc Kd hb8
  obtain ⟨ya0, ya1, ya2⟩ := part_at ka
  obtain ⟨yb0, yb1, yb2⟩ := part_at kb
  obtain ⟨yc0, yc1, yc2⟩ := part_at kc
  obtain ⟨yd0, yd1, yd2⟩ := part_at kd
  obtain ⟨W8, hW8⟩ : ∃ W, W = w8.alloc (.cells #[.string x1, .string x2] 24) := ⟨_, rfl⟩
  have bb : Below w8.heap.size w8 W8 := by rw [hW8]; exact (Below.refl _ _).alloc (Nat.le_refl _) _
  have Ka := Lib.hid (part_on ka bb)
  have Kb := Lib.hid (part_on kb bb)
  have Kc := Lib.hid (part_on kc bb)
  have Kd := Lib.hid (part_on kd bb)
  have HW8 := Lib.hid (Hw8.out.trans (bb.mono Hw8.out.size))
  have Kx : Hid (W8.heap[w8.heap.size]? = some (partO x1 x2)) := Lib.hid (by rw [hW8]; exact Go.Deep.blk_alloc_new _ _)
  have HEW8 := Lib.hid hW8
  clear bb hW8 ka kb kc kd
  go_wp2_with fail
  rw [← HEW8.out]
  clear ya0 ya1 ya2 yb0 yb1 yb2 yc0 yc1 yc2 yd0 yd1 yd2
  refine (Q4.out W8 HW8.out).mono ?_
  rintro e w9 ⟨rfl, hb9⟩
  have Hw9 := Lib.hid (HW8.out.trans (hb9.mono HW8.out.size))
  have ka := part_on Ka.out hb9
  have kb := part_on Kb.out hb9
  have kc := part_on Kc.out hb9
  have kd := part_on Kd.out hb9
  have kx := part_on Kx.out hb9
  clear Ka Kb Kc Kd Kx hb9
  obtain ⟨ya0, ya1, ya2⟩ := part_at ka
  obtain ⟨yb0, yb1, yb2⟩ := part_at kb
  obtain ⟨yc0, yc1, yc2⟩ := part_at kc
  obtain ⟨yd0, yd1, yd2⟩ := part_at kd
  obtain ⟨yx0, yx1, yx2⟩ := part_at kx
  obtain ⟨W9, hW9⟩ : ∃ W, W = w9.alloc (.cells #[.string y1, .string y2] 24) := ⟨_, rfl⟩
  have bb : Below w9.heap.size w9 W9 := by rw [hW9]; exact (Below.refl _ _).alloc (Nat.le_refl _) _
  have Ka := Lib.hid (part_on ka bb)
  have Kb := Lib.hid (part_on kb bb)
  have Kc := Lib.hid (part_on kc bb)
  have Kd := Lib.hid (part_on kd bb)
  have Kx := Lib.hid (part_on kx bb)
  have HW9 := Lib.hid (Hw9.out.trans (bb.mono Hw9.out.size))
  have Ky : Hid (W9.heap[w9.heap.size]? = some (partO y1 y2)) := Lib.hid (by rw [hW9]; exact Go.Deep.blk_alloc_new _ _)
  have HEW9 := Lib.hid hW9
  clear bb hW9 ka kb kc kd kx
  go_wp2_with fail
  rw [← HEW9.out]
  clear ya0 ya1 ya2 yb0 yb1 yb2 yc0 yc1 yc2 yd0 yd1 yd2 yx0 yx1 yx2
  refine (Q5.out W9 HW9.out).mono ?_
  rintro e w10 ⟨rfl, hb10⟩
  have Hw10 := Lib.hid (HW9.out.trans (hb10.mono HW9.out.size))
  have ka := part_on Ka.out hb10
  have kb := part_on Kb.out hb10
  have kc := part_on Kc.out hb10
  have kd := part_on Kd.out hb10
  have kx := part_on Kx.out hb10
  have ky := part_on Ky.out hb10
  clear Ka Kb Kc Kd Kx Ky hb10
  obtain ⟨ya0, ya1, ya2⟩ := part_at ka
  obtain ⟨yb0, yb1, yb2⟩ := part_at kb
  obtain ⟨yc0, yc1, yc2⟩ := part_at kc
  obtain ⟨yd0, yd1, yd2⟩ := part_at kd
  obtain ⟨yx0, yx1, yx2⟩ := part_at kx
  obtain ⟨yy0, yy1, yy2⟩ := part_at ky
  obtain ⟨W10, hW10⟩ : ∃ W, W = w10.alloc (.cells #[.string p1, .string p2] 24) := ⟨_, rfl⟩
  have bb : Below w10.heap.size w10 W10 := by rw [hW10]; exact (Below.refl _ _).alloc (Nat.le_refl _) _
  have Ka := Lib.hid (part_on ka bb)
  have Kb := Lib.hid (part_on kb bb)
  have Kc := Lib.hid (part_on kc bb)
  have Kd := Lib.hid (part_on kd bb)
  have Kx := Lib.hid (part_on kx bb)
  have Ky := Lib.hid (part_on ky bb)
  have HW10 := Lib.hid (Hw10.out.trans (bb.mono Hw10.out.size))
  have Kp : Hid (W10.heap[w10.heap.size]? = some (partO p1 p2)) := Lib.hid (by rw [hW10]; exact Go.Deep.blk_alloc_new _ _)
  have HEW10 := Lib.hid hW10
  clear bb hW10 ka kb kc kd kx ky
  go_wp2_with fail
  rw [← HEW10.out]
  clear ya0 ya1 ya2 yb0 yb1 yb2 yc0 yc1 yc2 yd0 yd1 yd2 yx0 yx1 yx2 yy0 yy1 yy2
  refine (Q6.out W10 HW10.out).mono ?_
  rintro e w11 ⟨rfl, hb11⟩
  have Hw11 := Lib.hid (HW10.out.trans (hb11.mono HW10.out.size))
  have ka := part_on Ka.out hb11
  have kb := part_on Kb.out hb11
  have kc := part_on Kc.out hb11
  have kd := part_on Kd.out hb11
  have kx := part_on Kx.out hb11
  have ky := part_on Ky.out hb11
  have kp := part_on Kp.out hb11
  clear Ka Kb Kc Kd Kx Ky Kp hb11
  obtain ⟨ya0, ya1, ya2⟩ := part_at ka
  obtain ⟨yb0, yb1, yb2⟩ := part_at kb
  obtain ⟨yc0, yc1, yc2⟩ := part_at kc
  obtain ⟨yd0, yd1, yd2⟩ := part_at kd
  obtain ⟨yx0, yx1, yx2⟩ := part_at kx
  obtain ⟨yy0, yy1, yy2⟩ := part_at ky
  obtain ⟨yp0, yp1, yp2⟩ := part_at kp
  obtain ⟨W11, hW11⟩ : ∃ W, W = w11.alloc (.cells #[.string r1, .string r2] 24) := ⟨_, rfl⟩
  have bb : Below w11.heap.size w11 W11 := by rw [hW11]; exact (Below.refl _ _).alloc (Nat.le_refl _) _
  have Ka := Lib.hid (part_on ka bb)
  have Kb := Lib.hid (part_on kb bb)
  have Kc := Lib.hid (part_on kc bb)
  have Kd := Lib.hid (part_on kd bb)
  have Kx := Lib.hid (part_on kx bb)
  have Ky := Lib.hid (part_on ky bb)
  have Kp := Lib.hid (part_on kp bb)
  have HW11 := Lib.hid (Hw11.out.trans (bb.mono Hw11.out.size))
  have Kr : Hid (W11.heap[w11.heap.size]? = some (partO r1 r2)) := Lib.hid (by rw [hW11]; exact Go.Deep.blk_alloc_new _ _)
  have HEW11 := Lib.hid hW11
  clear bb hW11 ka kb kc kd kx ky kp
  go_wp2_with fail
  rw [← HEW11.out]
  clear ya0 ya1 ya2 yb0 yb1 yb2 yc0 yc1 yc2 yd0 yd1 yd2 yx0 yx1 yx2 yy0 yy1 yy2 yp0 yp1 yp2
  have hc0 : ¬ c1 = ⟨#[48]⟩ := HCZ.out
  have hc0l : ¬ c1.toList = [48] := fun h => hc0 (list_inj (h.trans (by rw [ByteArray.toList_eq])))
  have hc0b : (c1.toList == [48]) = false := beq_eq_false_iff_ne.2 hc0l
  refine (C3.out W11 HW11.out).mono ?_
  rintro e w12 ⟨rfl, hb12⟩
  have Hw12 := Lib.hid (HW11.out.trans (hb12.mono HW11.out.size))
  have ka := part_on Ka.out hb12
  have kb := part_on Kb.out hb12
  have kc := part_on Kc.out hb12
  have kd := part_on Kd.out hb12
  have kx := part_on Kx.out hb12
  have ky := part_on Ky.out hb12
  have kp := part_on Kp.out hb12
  have kr := part_on Kr.out hb12
  clear Ka Kb Kc Kd Kx Ky Kp Kr hb12
  obtain ⟨ya0, ya1, ya2⟩ := part_at ka
  obtain ⟨yb0, yb1, yb2⟩ := part_at kb
  obtain ⟨yc0, yc1, yc2⟩ := part_at kc
  obtain ⟨yd0, yd1, yd2⟩ := part_at kd
  obtain ⟨yx0, yx1, yx2⟩ := part_at kx
  obtain ⟨yy0, yy1, yy2⟩ := part_at ky
  obtain ⟨yp0, yp1, yp2⟩ := part_at kp
  obtain ⟨yr0, yr1, yr2⟩ := part_at kr
  have Ka := Lib.hid ka
  have Kb := Lib.hid kb
  have Kc := Lib.hid kc
  have Kd := Lib.hid kd
  have Kx := Lib.hid kx
  have Ky := Lib.hid ky
  have Kp := Lib.hid kp
  have Kr := Lib.hid kr
  clear ka kb kc kd kx ky kp kr
  go_wp2_with fail
  clear ya0 ya1 ya2 yb0 yb1 yb2 yc0 yc1 yc2 yd0 yd1 yd2 yx0 yx1 yx2 yy0 yy1 yy2 yp0 yp1 yp2 yr0 yr1 yr2
  by_cases e1 : a1 = b1
  · have e2 : ¬ a2 = b2 := fun h => HEQ.out (Prod.ext e1 h)
    subst e1
    have e2l : ¬ a2.toList = b2.toList := fun h => e2 (list_inj h)
    refine (C2.out w12 Hw12.out).mono ?_
    rintro e w13 ⟨rfl, hb13⟩
    have Hw13 := Lib.hid (Hw12.out.trans (hb13.mono Hw12.out.size))
    have ka := part_on Ka.out hb13
    have kb := part_on Kb.out hb13
    have kc := part_on Kc.out hb13
    have kd := part_on Kd.out hb13
    have kx := part_on Kx.out hb13
    have ky := part_on Ky.out hb13
    have kp := part_on Kp.out hb13
    have kr := part_on Kr.out hb13
    clear Ka Kb Kc Kd Kx Ky Kp Kr hb13
    obtain ⟨ya0, ya1, ya2⟩ := part_at ka
    obtain ⟨yb0, yb1, yb2⟩ := part_at kb
    obtain ⟨yc0, yc1, yc2⟩ := part_at kc
    obtain ⟨yd0, yd1, yd2⟩ := part_at kd
    obtain ⟨yx0, yx1, yx2⟩ := part_at kx
    obtain ⟨yy0, yy1, yy2⟩ := part_at ky
    obtain ⟨yp0, yp1, yp2⟩ := part_at kp
    obtain ⟨yr0, yr1, yr2⟩ := part_at kr
    have Ka := Lib.hid ka
    have Kb := Lib.hid kb
    have Kc := Lib.hid kc
    have Kd := Lib.hid kd
    have Kx := Lib.hid kx
    have Ky := Lib.hid ky
    have Kp := Lib.hid kp
    have Kr := Lib.hid kr
    clear ka kb kc kd kx ky kp kr
    go_wp2_with fail
    clear ya0 ya1 ya2 yb0 yb1 yb2 yc0 yc1 yc2 yd0 yd1 yd2 yx0 yx1 yx2 yy0 yy1 yy2 yp0 yp1 yp2 yr0 yr1 yr2
    refine (C4.out w13 Hw13.out).mono ?_
    rintro e w14 ⟨rfl, hb14⟩
    have Hw14 := Lib.hid (Hw13.out.trans (hb14.mono Hw13.out.size))
    have ka := part_on Ka.out hb14
    have kb := part_on Kb.out hb14
    have kc := part_on Kc.out hb14
    have kd := part_on Kd.out hb14
    have kx := part_on Kx.out hb14
    have ky := part_on Ky.out hb14
    have kp := part_on Kp.out hb14
    have kr := part_on Kr.out hb14
    clear Ka Kb Kc Kd Kx Ky Kp Kr hb14
    obtain ⟨ya0, ya1, ya2⟩ := part_at ka
    obtain ⟨yb0, yb1, yb2⟩ := part_at kb
    obtain ⟨yc0, yc1, yc2⟩ := part_at kc
    obtain ⟨yd0, yd1, yd2⟩ := part_at kd
    obtain ⟨yx0, yx1, yx2⟩ := part_at kx
    obtain ⟨yy0, yy1, yy2⟩ := part_at ky
    obtain ⟨yp0, yp1, yp2⟩ := part_at kp
    obtain ⟨yr0, yr1, yr2⟩ := part_at kr
    have Ka := Lib.hid ka
    have Kb := Lib.hid kb
    have Kc := Lib.hid kc
    have Kd := Lib.hid kd
    have Kx := Lib.hid kx
    have Ky := Lib.hid ky
    have Kp := Lib.hid kp
    have Kr := Lib.hid kr
    clear ka kb kc kd kx ky kp kr
    go_wp2_with fail
    clear ya0 ya1 ya2 yb0 yb1 yb2 yc0 yc1 yc2 yd0 yd1 yd2 yx0 yx1 yx2 yy0 yy1 yy2 yp0 yp1 yp2 yr0 yr1 yr2
    exact bodyPost_ret (v := .bool true) (by simp [results, hc0b, Tryz.results5, go_sem]) rfl ⟨rfl, Hw14.out⟩
  · have e3 : ¬ b1 = a1 := fun h => e1 h.symm
    have e2l : ¬ a1.toList = b1.toList := fun h => e1 (list_inj h)
    refine (C2.out w12 Hw12.out).mono ?_
    rintro e w13 ⟨rfl, hb13⟩
    have Hw13 := Lib.hid (Hw12.out.trans (hb13.mono Hw12.out.size))
    have ka := part_on Ka.out hb13
    have kb := part_on Kb.out hb13
    have kc := part_on Kc.out hb13
    have kd := part_on Kd.out hb13
    have kx := part_on Kx.out hb13
    have ky := part_on Ky.out hb13
    have kp := part_on Kp.out hb13
    have kr := part_on Kr.out hb13
    clear Ka Kb Kc Kd Kx Ky Kp Kr hb13
    obtain ⟨ya0, ya1, ya2⟩ := part_at ka
    obtain ⟨yb0, yb1, yb2⟩ := part_at kb
    obtain ⟨yc0, yc1, yc2⟩ := part_at kc
    obtain ⟨yd0, yd1, yd2⟩ := part_at kd
    obtain ⟨yx0, yx1, yx2⟩ := part_at kx
    obtain ⟨yy0, yy1, yy2⟩ := part_at ky
    obtain ⟨yp0, yp1, yp2⟩ := part_at kp
    obtain ⟨yr0, yr1, yr2⟩ := part_at kr
    have Ka := Lib.hid ka
    have Kb := Lib.hid kb
    have Kc := Lib.hid kc
    have Kd := Lib.hid kd
    have Kx := Lib.hid kx
    have Ky := Lib.hid ky
    have Kp := Lib.hid kp
    have Kr := Lib.hid kr
    clear ka kb kc kd kx ky kp kr
    go_wp2_with fail
    clear ya0 ya1 ya2 yb0 yb1 yb2 yc0 yc1 yc2 yd0 yd1 yd2 yx0 yx1 yx2 yy0 yy1 yy2 yp0 yp1 yp2 yr0 yr1 yr2
    refine (C4.out w13 Hw13.out).mono ?_
    rintro e w14 ⟨rfl, hb14⟩
    have Hw14 := Lib.hid (Hw13.out.trans (hb14.mono Hw13.out.size))
    have ka := part_on Ka.out hb14
    have kb := part_on Kb.out hb14
    have kc := part_on Kc.out hb14
    have kd := part_on Kd.out hb14
    have kx := part_on Kx.out hb14
    have ky := part_on Ky.out hb14
    have kp := part_on Kp.out hb14
    have kr := part_on Kr.out hb14
    clear Ka Kb Kc Kd Kx Ky Kp Kr hb14
    obtain ⟨ya0, ya1, ya2⟩ := part_at ka
    obtain ⟨yb0, yb1, yb2⟩ := part_at kb
    obtain ⟨yc0, yc1, yc2⟩ := part_at kc
    obtain ⟨yd0, yd1, yd2⟩ := part_at kd
    obtain ⟨yx0, yx1, yx2⟩ := part_at kx
    obtain ⟨yy0, yy1, yy2⟩ := part_at ky
    obtain ⟨yp0, yp1, yp2⟩ := part_at kp
    obtain ⟨yr0, yr1, yr2⟩ := part_at kr
    have Ka := Lib.hid ka
    have Kb := Lib.hid kb
    have Kc := Lib.hid kc
    have Kd := Lib.hid kd
    have Kx := Lib.hid kx
    have Ky := Lib.hid ky
    have Kp := Lib.hid kp
    have Kr := Lib.hid kr
    clear ka kb kc kd kx ky kp kr
    go_wp2_with fail
    clear ya0 ya1 ya2 yb0 yb1 yb2 yc0 yc1 yc2 yd0 yd1 yd2 yx0 yx1 yx2 yy0 yy1 yy2 yp0 yp1 yp2 yr0 yr1 yr2
    exact bodyPost_ret (v := .bool true) (by simp [results, hc0b, Tryz.results5, go_sem]) rfl ⟨rfl, Hw14.out⟩
end Go.Proofs.YtkggfeemjabdeaaGreatDoor.Wc
end
section
namespace Go.Proofs.YtkggfeemjabdeaaGreatDoor.Wc
open Go Go.Proofs.YtkggfeemjabdeaaGreatDoor.Sx Go.RowKit

theorem orders_any (a1 a2 b1 b2 c1 c2 : ByteArray) (w : World) (ht : Tens w) (h0 : 0 < w.heap.size) :
    Calls Tryz.prog 5 #[.agg #[.string a1, .string a2], .agg #[.string b1, .string b2], .agg #[.string c1, .string c2]] w fun e w' => e = .returned (.bool true) ∧ Below w.heap.size w w' := by
  cases hall : ([(a1, a2), (b1, b2), (c1, c2)] : List P2).all (shortP 60) with
  | false => exact orders_short a1 a2 b1 b2 c1 c2 hall w ht h0
  | true =>
    cases ha : okP (a1, a2) with
    | false => exact orders_a a1 a2 b1 b2 c1 c2 hall ha w ht h0
    | true =>
      cases hb : okP (b1, b2) with
      | false => exact orders_b a1 a2 b1 b2 c1 c2 hall ha hb w ht h0
      | true =>
        cases hc : okP (c1, c2) with
        | false => exact orders_c a1 a2 b1 b2 c1 c2 hall ha hb hc w ht h0
        | true =>
          have h3 : shortP 60 (a1, a2) = true ∧ shortP 60 (b1, b2) = true ∧ shortP 60 (c1, c2) = true := by simpa only [List.all_cons, List.all_nil, Bool.and_true, Bool.and_eq_true] using hall
          by_cases hz : c1 = zeroB
          · rcases Nat.lt_trichotomy ((pv (a1, a2)).1 * (pv (b1, b2)).2) ((pv (b1, b2)).1 * (pv (a1, a2)).2) with h | h | h
            · exact orders_lt_z a1 a2 b1 b2 c1 c2 ha hb hc h3.1 h3.2.1 h3.2.2 h hz w ht h0
            · exact orders_eq_z a1 a2 b1 b2 c1 c2 ha hb hc h3.1 h3.2.1 h3.2.2 h hz w ht h0
            · exact orders_gt_z a1 a2 b1 b2 c1 c2 ha hb hc h3.1 h3.2.1 h3.2.2 h hz w ht h0
          · rcases Nat.lt_trichotomy ((pv (a1, a2)).1 * (pv (b1, b2)).2) ((pv (b1, b2)).1 * (pv (a1, a2)).2) with h | h | h
            · exact orders_lt_p a1 a2 b1 b2 c1 c2 ha hb hc h3.1 h3.2.1 h3.2.2 h hz w ht h0
            · exact orders_eq_p a1 a2 b1 b2 c1 c2 ha hb hc h3.1 h3.2.1 h3.2.2 h hz w ht h0
            · exact orders_gt_p a1 a2 b1 b2 c1 c2 ha hb hc h3.1 h3.2.1 h3.2.2 h hz w ht h0
end Go.Proofs.YtkggfeemjabdeaaGreatDoor.Wc
end
