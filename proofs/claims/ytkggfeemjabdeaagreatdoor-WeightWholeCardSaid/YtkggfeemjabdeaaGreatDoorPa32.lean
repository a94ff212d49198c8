/- WeightField: what it looks away from. WeightField returns true for any three parts. Fractions as rational numbers; sums, sums of quotients. Share and Sum. WeightWhole: the mathematics. WeightWhole: the law returns true. -/
import Derived.Test.YtkggfeemjabdeaaGreatDoorPa30
import Derived.Test.YtkggfeemjabdeaaGreatDoorPa31
section
namespace Go.Proofs.YtkggfeemjabdeaaGreatDoor.Wc
open Go Go.Proofs.YtkggfeemjabdeaaGreatDoor.Sx Go.RowKit

theorem useChkNo {w : World} (HT : ∀ W, Below w.heap.size w W → Tens W) {a1 a2 : ByteArray} (ha : okP (a1, a2) = false) (hs : shortP 60 (a1, a2) = true) : Hid (∀ W, Below w.heap.size w W → Calls Tryz.prog 22 #[.agg #[.string a1, .string a2]] W fun e w' => e = .returned (.int .i64 2) ∧ Below W.heap.size W w') := Lib.hid fun W hW => by
  have sh : a1.size ≤ 60 ∧ a2.size ≤ 60 := by unfold shortP at hs; simpa using hs
  have k := Check_any (a1, a2) W ⟨Nat.le_trans sh.1 (by decide), Nat.le_trans sh.2 (by decide)⟩ (HT W hW)
  have e : chkS (a1, a2) = 2 := by unfold chkS; rw [ha]; rfl
  rw [e] at k; exact k


set_option maxRecDepth 100000 in
set_option maxHeartbeats 8000000 in
theorem field_short (a1 a2 b1 b2 c1 c2 : ByteArray) (hsh : ([(a1, a2), (b1, b2), (c1, c2)] : List P2).all (shortP 60) = false) (w : World) (ht : Tens w) (h0 : 0 < w.heap.size) :
    Calls Tryz.prog 4 #[.agg #[.string a1, .string a2], .agg #[.string b1, .string b2], .agg #[.string c1, .string c2]] w fun e w' => e = .returned (.bool true) ∧ Below w.heap.size w w' := by
  have HT : ∀ W, Below w.heap.size w W → Tens W := fun W hW j hj => cell_later hW (ht j hj)
  have HAL : Hid (∀ W, Below w.heap.size w W → Calls Tryz.prog 20 #[] W fun e w' => e = .returned (.bool true) ∧ Below W.heap.size W w') := Lib.hid fun W hW => alive_any W (HT W hW) (by have := hW.size; omega)
  have HALL := Lib.hid hsh
  clear hsh HT ht
  obtain ⟨V1, hV1⟩ : ∃ W, W = w.alloc (.cells #[.string a1, .string a2] 24) := ⟨_, rfl⟩
  obtain ⟨V2, hV2⟩ : ∃ W, W = V1.alloc (.cells #[.string b1, .string b2] 24) := ⟨_, rfl⟩
  obtain ⟨V3, hV3⟩ : ∃ W, W = V2.alloc (.cells #[.string c1, .string c2] 24) := ⟨_, rfl⟩
  have v01 : Below w.heap.size w V1 := by rw [hV1]; exact (Below.refl _ _).alloc (Nat.le_refl _) _
  have v12 : Below V1.heap.size V1 V2 := by rw [hV2]; exact (Below.refl _ _).alloc (Nat.le_refl _) _
  have v23 : Below V2.heap.size V2 V3 := by rw [hV3]; exact (Below.refl _ _).alloc (Nat.le_refl _) _
  have z1 : V1.heap.size = w.heap.size + 1 := by rw [hV1, World.size_alloc]
  have z2 : V2.heap.size = w.heap.size + 1 + 1 := by rw [hV2, World.size_alloc, z1]
  have ka : V3.heap[w.heap.size]? = some (partO a1 a2) := part_on (part_on (by rw [hV1]; exact Go.Deep.blk_alloc_new _ _) v12) v23
  have kb : V3.heap[w.heap.size + 1]? = some (partO b1 b2) := part_on (by rw [← z1, hV2]; exact Go.Deep.blk_alloc_new _ _) v23
  have kc : V3.heap[w.heap.size + 1 + 1]? = some (partO c1 c2) := by rw [← z2, hV3]; exact Go.Deep.blk_alloc_new _ _
  have HB := Lib.hid (v01.trans ((below_chain v12 v23).mono v01.size))
  have HV1 := Lib.hid hV1; have HV2 := Lib.hid hV2; have HV3 := Lib.hid hV3; have Ka := Lib.hid ka; have Kb := Lib.hid kb; have Kc := Lib.hid kc
  clear hV1 hV2 hV3 v01 v12 v23 z1 z2 ka kb kc
  go_enter Tryz.func4, Tryz.ntmps4
  go_wp2_with fail
  rw [← HV1.out, ← HV2.out, ← HV3.out]
  refine (HAL.out V3 HB.out).mono ?_
  rintro e w1 ⟨rfl, hb1⟩
  have Hw1 := Lib.hid (HB.out.trans (hb1.mono HB.out.size))
  have ka := part_on Ka.out hb1
  have kb := part_on Kb.out hb1
  have kc := part_on Kc.out hb1
  clear Ka Kb Kc hb1
  obtain ⟨ya0, ya1, ya2⟩ := part_at ka
  obtain ⟨yb0, yb1, yb2⟩ := part_at kb
  obtain ⟨yc0, yc1, yc2⟩ := part_at kc
  obtain ⟨W1, hW1⟩ : ∃ W, W = w1.alloc (.cells #[.string a1, .string a2, .string b1, .string b2, .string c1, .string c2] 24) := ⟨_, rfl⟩
  have bb : Below w1.heap.size w1 W1 := by rw [hW1]; exact (Below.refl _ _).alloc (Nat.le_refl _) _
  have Ka := Lib.hid (part_on ka bb)
  have Kb := Lib.hid (part_on kb bb)
  have Kc := Lib.hid (part_on kc bb)
  have HW1 := Lib.hid (Hw1.out.trans (bb.mono Hw1.out.size))
  have kk : W1.heap[w1.heap.size]? = some (.cells #[.string a1, .string a2, .string b1, .string b2, .string c1, .string c2] 24 (0, 0)) := by rw [hW1]; exact Go.Deep.blk_alloc_new _ _
  have KK := Lib.hid kk
  clear kk
  have HEW1 := Lib.hid hW1
  clear bb hW1 ka kb kc
  go_wp2_with fail
  rw [← HEW1.out]
  clear ya0 ya1 ya2 yb0 yb1 yb2 yc0 yc1 yc2
  have hsh := short_any 60 [(a1, a2), (b1, b2), (c1, c2)] (.slice (some ⟨w1.heap.size, 0, none⟩) 3 3) W1 (.inr ⟨w1.heap.size, 0, 3, rfl, by simp, by decide, (Array.getElem?_eq_some_iff.1 KK.out).1, fun i hi => by
    match i, hi with
    | 0, _ => exact ⟨by rw [set_cells KK.out]; rfl, by rw [set_cells KK.out]; rfl⟩
    | 1, _ => exact ⟨by rw [set_cells KK.out]; rfl, by rw [set_cells KK.out]; rfl⟩
    | 2, _ => exact ⟨by rw [set_cells KK.out]; rfl, by rw [set_cells KK.out]; rfl⟩⟩) (by simp) (by decide)
  rw [HALL.out] at hsh
  have HSHORT := Lib.hid hsh
  clear hsh KK
  refine (HSHORT.out).mono ?_
  rintro e w2 ⟨rfl, hb2⟩
  have Hw2 := Lib.hid (HW1.out.trans (hb2.mono HW1.out.size))
  have ka := part_on Ka.out hb2
  have kb := part_on Kb.out hb2
  have kc := part_on Kc.out hb2
  clear Ka Kb Kc hb2
  obtain ⟨ya0, ya1, ya2⟩ := part_at ka
  obtain ⟨yb0, yb1, yb2⟩ := part_at kb
  obtain ⟨yc0, yc1, yc2⟩ := part_at kc
  have Ka := Lib.hid ka
  have Kb := Lib.hid kb
  have Kc := Lib.hid kc
  clear ka kb kc
  go_wp2_with fail
  clear ya0 ya1 ya2 yb0 yb1 yb2 yc0 yc1 yc2
  exact bodyPost_ret (v := .bool true) (by simp [results, Tryz.results4, go_sem]) rfl ⟨rfl, Hw2.out⟩

set_option maxRecDepth 100000 in
set_option maxHeartbeats 8000000 in
theorem field_a (a1 a2 b1 b2 c1 c2 : ByteArray) (hall : ([(a1, a2), (b1, b2), (c1, c2)] : List P2).all (shortP 60) = true) (ha : okP (a1, a2) = false) (w : World) (ht : Tens w) (h0 : 0 < w.heap.size) :
    Calls Tryz.prog 4 #[.agg #[.string a1, .string a2], .agg #[.string b1, .string b2], .agg #[.string c1, .string c2]] w fun e w' => e = .returned (.bool true) ∧ Below w.heap.size w w' := by
  have HT : ∀ W, Below w.heap.size w W → Tens W := fun W hW j hj => cell_later hW (ht j hj)
  have HAL : Hid (∀ W, Below w.heap.size w W → Calls Tryz.prog 20 #[] W fun e w' => e = .returned (.bool true) ∧ Below W.heap.size W w') := Lib.hid fun W hW => alive_any W (HT W hW) (by have := hW.size; omega)
  have h3 : shortP 60 (a1, a2) = true ∧ shortP 60 (b1, b2) = true ∧ shortP 60 (c1, c2) = true := by simpa only [List.all_cons, List.all_nil, Bool.and_true, Bool.and_eq_true] using hall
  have U0 := useChkNo HT ha h3.1
  have HALL := Lib.hid hall
  clear hall h3 ha HT ht
  obtain ⟨V1, hV1⟩ : ∃ W, W = w.alloc (.cells #[.string a1, .string a2] 24) := ⟨_, rfl⟩
  obtain ⟨V2, hV2⟩ : ∃ W, W = V1.alloc (.cells #[.string b1, .string b2] 24) := ⟨_, rfl⟩
  obtain ⟨V3, hV3⟩ : ∃ W, W = V2.alloc (.cells #[.string c1, .string c2] 24) := ⟨_, rfl⟩
  have v01 : Below w.heap.size w V1 := by rw [hV1]; exact (Below.refl _ _).alloc (Nat.le_refl _) _
  have v12 : Below V1.heap.size V1 V2 := by rw [hV2]; exact (Below.refl _ _).alloc (Nat.le_refl _) _
  have v23 : Below V2.heap.size V2 V3 := by rw [hV3]; exact (Below.refl _ _).alloc (Nat.le_refl _) _
  have z1 : V1.heap.size = w.heap.size + 1 := by rw [hV1, World.size_alloc]
  have z2 : V2.heap.size = w.heap.size + 1 + 1 := by rw [hV2, World.size_alloc, z1]
  have ka : V3.heap[w.heap.size]? = some (partO a1 a2) := part_on (part_on (by rw [hV1]; exact Go.Deep.blk_alloc_new _ _) v12) v23
  have kb : V3.heap[w.heap.size + 1]? = some (partO b1 b2) := part_on (by rw [← z1, hV2]; exact Go.Deep.blk_alloc_new _ _) v23
  have kc : V3.heap[w.heap.size + 1 + 1]? = some (partO c1 c2) := by rw [← z2, hV3]; exact Go.Deep.blk_alloc_new _ _
  have HB := Lib.hid (v01.trans ((below_chain v12 v23).mono v01.size))
  have HV1 := Lib.hid hV1; have HV2 := Lib.hid hV2; have HV3 := Lib.hid hV3; have Ka := Lib.hid ka; have Kb := Lib.hid kb; have Kc := Lib.hid kc
  clear hV1 hV2 hV3 v01 v12 v23 z1 z2 ka kb kc
  go_enter Tryz.func4, Tryz.ntmps4
  go_wp2_with fail
  rw [← HV1.out, ← HV2.out, ← HV3.out]
  refine (HAL.out V3 HB.out).mono ?_
  rintro e w1 ⟨rfl, hb1⟩
  have Hw1 := Lib.hid (HB.out.trans (hb1.mono HB.out.size))
  have ka := part_on Ka.out hb1
  have kb := part_on Kb.out hb1
  have kc := part_on Kc.out hb1
  clear Ka Kb Kc hb1
  obtain ⟨ya0, ya1, ya2⟩ := part_at ka
  obtain ⟨yb0, yb1, yb2⟩ := part_at kb
  obtain ⟨yc0, yc1, yc2⟩ := part_at kc
  obtain ⟨W1, hW1⟩ : ∃ W, W = w1.alloc (.cells #[.string a1, .string a2, .string b1, .string b2, .string c1, .string c2] 24) := ⟨_, rfl⟩
  have bb : Below w1.heap.size w1 W1 := by rw [hW1]; exact (Below.refl _ _).alloc (Nat.le_refl _) _
  have Ka := Lib.hid (part_on ka bb)
  have Kb := Lib.hid (part_on kb bb)
  have Kc := Lib.hid (part_on kc bb)
  have HW1 := Lib.hid (Hw1.out.trans (bb.mono Hw1.out.size))
  have kk : W1.heap[w1.heap.size]? = some (.cells #[.string a1, .string a2, .string b1, .string b2, .string c1, .string c2] 24 (0, 0)) := by rw [hW1]; exact Go.Deep.blk_alloc_new _ _
  have KK := Lib.hid kk
  clear kk
  have HEW1 := Lib.hid hW1
  clear bb hW1 ka kb kc
  go_wp2_with fail
  rw [← HEW1.out]
  clear ya0 ya1 ya2 yb0 yb1 yb2 yc0 yc1 yc2
  have hsh := short_any 60 [(a1, a2), (b1, b2), (c1, c2)] (.slice (some ⟨w1.heap.size, 0, none⟩) 3 3) W1 (.inr ⟨w1.heap.size, 0, 3, rfl, by simp, by decide, (Array.getElem?_eq_some_iff.1 KK.out).1, fun i hi => by
    match i, hi with
    | 0, _ => exact ⟨by rw [set_cells KK.out]; rfl, by rw [set_cells KK.out]; rfl⟩
    | 1, _ => exact ⟨by rw [set_cells KK.out]; rfl, by rw [set_cells KK.out]; rfl⟩
    | 2, _ => exact ⟨by rw [set_cells KK.out]; rfl, by rw [set_cells KK.out]; rfl⟩⟩) (by simp) (by decide)
  rw [HALL.out] at hsh
  have HSHORT := Lib.hid hsh
  clear hsh KK
  refine (HSHORT.out).mono ?_
  rintro e w2 ⟨rfl, hb2⟩
  have Hw2 := Lib.hid (HW1.out.trans (hb2.mono HW1.out.size))
  have ka := part_on Ka.out hb2
  have kb := part_on Kb.out hb2
  have kc := part_on Kc.out hb2
  clear Ka Kb Kc hb2
  obtain ⟨ya0, ya1, ya2⟩ := part_at ka
  obtain ⟨yb0, yb1, yb2⟩ := part_at kb
  obtain ⟨yc0, yc1, yc2⟩ := part_at kc
  have Ka := Lib.hid ka
  have Kb := Lib.hid kb
  have Kc := Lib.hid kc
  clear ka kb kc
  go_wp2_with fail
  clear ya0 ya1 ya2 yb0 yb1 yb2 yc0 yc1 yc2
  refine (U0.out w2 Hw2.out).mono ?_
  rintro e w3 ⟨rfl, hb3⟩
  have Hw3 := Lib.hid (Hw2.out.trans (hb3.mono Hw2.out.size))
  have ka := part_on Ka.out hb3
  have kb := part_on Kb.out hb3
  have kc := part_on Kc.out hb3
  clear Ka Kb Kc hb3
  obtain ⟨ya0, ya1, ya2⟩ := part_at ka
  obtain ⟨yb0, yb1, yb2⟩ := part_at kb
  obtain ⟨yc0, yc1, yc2⟩ := part_at kc
  have Ka := Lib.hid ka
  have Kb := Lib.hid kb
  have Kc := Lib.hid kc
  clear ka kb kc
  go_wp2_with fail
  clear ya0 ya1 ya2 yb0 yb1 yb2 yc0 yc1 yc2
  exact bodyPost_ret (v := .bool true) (by simp [results, Tryz.results4, go_sem]) rfl ⟨rfl, Hw3.out⟩

set_option maxRecDepth 100000 in
set_option maxHeartbeats 8000000 in
theorem field_b (a1 a2 b1 b2 c1 c2 : ByteArray) (hall : ([(a1, a2), (b1, b2), (c1, c2)] : List P2).all (shortP 60) = true) (ha : okP (a1, a2) = true) (hb : okP (b1, b2) = false) (w : World) (ht : Tens w) (h0 : 0 < w.heap.size) :
    Calls Tryz.prog 4 #[.agg #[.string a1, .string a2], .agg #[.string b1, .string b2], .agg #[.string c1, .string c2]] w fun e w' => e = .returned (.bool true) ∧ Below w.heap.size w w' := by
  have HT : ∀ W, Below w.heap.size w W → Tens W := fun W hW j hj => cell_later hW (ht j hj)
  have HAL : Hid (∀ W, Below w.heap.size w W → Calls Tryz.prog 20 #[] W fun e w' => e = .returned (.bool true) ∧ Below W.heap.size W w') := Lib.hid fun W hW => alive_any W (HT W hW) (by have := hW.size; omega)
  have h3 : shortP 60 (a1, a2) = true ∧ shortP 60 (b1, b2) = true ∧ shortP 60 (c1, c2) = true := by simpa only [List.all_cons, List.all_nil, Bool.and_true, Bool.and_eq_true] using hall
  have U0 := useChk HT ha
  have U1 := useChkNo HT hb h3.2.1
  have HALL := Lib.hid hall
  clear hall h3 ha hb HT ht
  obtain ⟨V1, hV1⟩ : ∃ W, W = w.alloc (.cells #[.string a1, .string a2] 24) := ⟨_, rfl⟩
  obtain ⟨V2, hV2⟩ : ∃ W, W = V1.alloc (.cells #[.string b1, .string b2] 24) := ⟨_, rfl⟩
  obtain ⟨V3, hV3⟩ : ∃ W, W = V2.alloc (.cells #[.string c1, .string c2] 24) := ⟨_, rfl⟩
  have v01 : Below w.heap.size w V1 := by rw [hV1]; exact (Below.refl _ _).alloc (Nat.le_refl _) _
  have v12 : Below V1.heap.size V1 V2 := by rw [hV2]; exact (Below.refl _ _).alloc (Nat.le_refl _) _
  have v23 : Below V2.heap.size V2 V3 := by rw [hV3]; exact (Below.refl _ _).alloc (Nat.le_refl _) _
  have z1 : V1.heap.size = w.heap.size + 1 := by rw [hV1, World.size_alloc]
  have z2 : V2.heap.size = w.heap.size + 1 + 1 := by rw [hV2, World.size_alloc, z1]
  have ka : V3.heap[w.heap.size]? = some (partO a1 a2) := part_on (part_on (by rw [hV1]; exact Go.Deep.blk_alloc_new _ _) v12) v23
  have kb : V3.heap[w.heap.size + 1]? = some (partO b1 b2) := part_on (by rw [← z1, hV2]; exact Go.Deep.blk_alloc_new _ _) v23
  have kc : V3.heap[w.heap.size + 1 + 1]? = some (partO c1 c2) := by rw [← z2, hV3]; exact Go.Deep.blk_alloc_new _ _
  have HB := Lib.hid (v01.trans ((below_chain v12 v23).mono v01.size))
  have HV1 := Lib.hid hV1; have HV2 := Lib.hid hV2; have HV3 := Lib.hid hV3; have Ka := Lib.hid ka; have Kb := Lib.hid kb; have Kc := Lib.hid kc
  clear hV1 hV2 hV3 v01 v12 v23 z1 z2 ka kb kc
  go_enter Tryz.func4, Tryz.ntmps4
  go_wp2_with fail
  rw [← HV1.out, ← HV2.out, ← HV3.out]
  refine (HAL.out V3 HB.out).mono ?_
  rintro e w1 ⟨rfl, hb1⟩
  have Hw1 := Lib.hid (HB.out.trans (hb1.mono HB.out.size))
  have ka := part_on Ka.out hb1
  have kb := part_on Kb.out hb1
  have kc := part_on Kc.out hb1
  clear Ka Kb Kc hb1
  obtain ⟨ya0, ya1, ya2⟩ := part_at ka
  obtain ⟨yb0, yb1, yb2⟩ := part_at kb
  obtain ⟨yc0, yc1, yc2⟩ := part_at kc
  obtain ⟨W1, hW1⟩ : ∃ W, W = w1.alloc (.cells #[.string a1, .string a2, .string b1, .string b2, .string c1, .string c2] 24) := ⟨_, rfl⟩
  have bb : Below w1.heap.size w1 W1 := by rw [hW1]; exact (Below.refl _ _).alloc (Nat.le_refl _) _
  have Ka := Lib.hid (part_on ka bb)
  have Kb := Lib.hid (part_on kb bb)
  have Kc := Lib.hid (part_on kc bb)
  have HW1 := Lib.hid (Hw1.out.trans (bb.mono Hw1.out.size))
  have kk : W1.heap[w1.heap.size]? = some (.cells #[.string a1, .string a2, .string b1, .string b2, .string c1, .string c2] 24 (0, 0)) := by rw [hW1]; exact Go.Deep.blk_alloc_new _ _
  have KK := Lib.hid kk
  clear kk
  have HEW1 := Lib.hid hW1
  clear bb hW1 ka kb kc
  go_wp2_with fail
  rw [← HEW1.out]
  clear ya0 ya1 ya2 yb0 yb1 yb2 yc0 yc1 yc2
  have hsh := short_any 60 [(a1, a2), (b1, b2), (c1, c2)] (.slice (some ⟨w1.heap.size, 0, none⟩) 3 3) W1 (.inr ⟨w1.heap.size, 0, 3, rfl, by simp, by decide, (Array.getElem?_eq_some_iff.1 KK.out).1, fun i hi => by
    match i, hi with
    | 0, _ => exact ⟨by rw [set_cells KK.out]; rfl, by rw [set_cells KK.out]; rfl⟩
    | 1, _ => exact ⟨by rw [set_cells KK.out]; rfl, by rw [set_cells KK.out]; rfl⟩
    | 2, _ => exact ⟨by rw [set_cells KK.out]; rfl, by rw [set_cells KK.out]; rfl⟩⟩) (by simp) (by decide)
  rw [HALL.out] at hsh
  have HSHORT := Lib.hid hsh
  clear hsh KK
  refine (HSHORT.out).mono ?_
  rintro e w2 ⟨rfl, hb2⟩
  have Hw2 := Lib.hid (HW1.out.trans (hb2.mono HW1.out.size))
  have ka := part_on Ka.out hb2
  have kb := part_on Kb.out hb2
  have kc := part_on Kc.out hb2
  clear Ka Kb Kc hb2
  obtain ⟨ya0, ya1, ya2⟩ := part_at ka
  obtain ⟨yb0, yb1, yb2⟩ := part_at kb
  obtain ⟨yc0, yc1, yc2⟩ := part_at kc
  have Ka := Lib.hid ka
  have Kb := Lib.hid kb
  have Kc := Lib.hid kc
  clear ka kb kc
  go_wp2_with fail
  clear ya0 ya1 ya2 yb0 yb1 yb2 yc0 yc1 yc2
  refine (U0.out w2 Hw2.out).mono ?_
  rintro e w3 ⟨rfl, hb3⟩
  have Hw3 := Lib.hid (Hw2.out.trans (hb3.mono Hw2.out.size))
  have ka := part_on Ka.out hb3
  have kb := part_on Kb.out hb3
  have kc := part_on Kc.out hb3
  clear Ka Kb Kc hb3
  obtain ⟨ya0, ya1, ya2⟩ := part_at ka
  obtain ⟨yb0, yb1, yb2⟩ := part_at kb
  obtain ⟨yc0, yc1, yc2⟩ := part_at kc
  have Ka := Lib.hid ka
  have Kb := Lib.hid kb
  have Kc := Lib.hid kc
  clear ka kb kc
  go_wp2_with fail
  clear ya0 ya1 ya2 yb0 yb1 yb2 yc0 yc1 yc2
  refine (U1.out w3 Hw3.out).mono ?_
  rintro e w4 ⟨rfl, hb4⟩
  have Hw4 := Lib.hid (Hw3.out.trans (hb4.mono Hw3.out.size))
  have ka := part_on Ka.out hb4
  have kb := part_on Kb.out hb4
  have kc := part_on Kc.out hb4
  clear Ka Kb Kc hb4
  obtain ⟨ya0, ya1, ya2⟩ := part_at ka
  obtain ⟨yb0, yb1, yb2⟩ := part_at kb
  obtain ⟨yc0, yc1, yc2⟩ := part_at kc
  have Ka := Lib.hid ka
  have Kb := Lib.hid kb
  have Kc := Lib.hid kc
  clear ka kb kc
  go_wp2_with fail
  clear ya0 ya1 ya2 yb0 yb1 yb2 yc0 yc1 yc2
  exact bodyPost_ret (v := .bool true) (by simp [results, Tryz.results4, go_sem]) rfl ⟨rfl, Hw4.out⟩

set_option maxRecDepth 100000 in
set_option maxHeartbeats 8000000 in
theorem field_c (a1 a2 b1 b2 c1 c2 : ByteArray) (hall : ([(a1, a2), (b1, b2), (c1, c2)] : List P2).all (shortP 60) = true) (ha : okP (a1, a2) = true) (hb : okP (b1, b2) = true) (hc : okP (c1, c2) = false) (w : World) (ht : Tens w) (h0 : 0 < w.heap.size) :
    Calls Tryz.prog 4 #[.agg #[.string a1, .string a2], .agg #[.string b1, .string b2], .agg #[.string c1, .string c2]] w fun e w' => e = .returned (.bool true) ∧ Below w.heap.size w w' := by
  have HT : ∀ W, Below w.heap.size w W → Tens W := fun W hW j hj => cell_later hW (ht j hj)
  have HAL : Hid (∀ W, Below w.heap.size w W → Calls Tryz.prog 20 #[] W fun e w' => e = .returned (.bool true) ∧ Below W.heap.size W w') := Lib.hid fun W hW => alive_any W (HT W hW) (by have := hW.size; omega)
  have h3 : shortP 60 (a1, a2) = true ∧ shortP 60 (b1, b2) = true ∧ shortP 60 (c1, c2) = true := by simpa only [List.all_cons, List.all_nil, Bool.and_true, Bool.and_eq_true] using hall
  have U0 := useChk HT ha
  have U1 := useChk HT hb
  have U2 := useChkNo HT hc h3.2.2
  have HALL := Lib.hid hall
  clear hall h3 ha hb hc HT ht
  obtain ⟨V1, hV1⟩ : ∃ W, W = w.alloc (.cells #[.string a1, .string a2] 24) := ⟨_, rfl⟩
  obtain ⟨V2, hV2⟩ : ∃ W, W = V1.alloc (.cells #[.string b1, .string b2] 24) := ⟨_, rfl⟩
  obtain ⟨V3, hV3⟩ : ∃ W, W = V2.alloc (.cells #[.string c1, .string c2] 24) := ⟨_, rfl⟩
  have v01 : Below w.heap.size w V1 := by rw [hV1]; exact (Below.refl _ _).alloc (Nat.le_refl _) _
  have v12 : Below V1.heap.size V1 V2 := by rw [hV2]; exact (Below.refl _ _).alloc (Nat.le_refl _) _
  have v23 : Below V2.heap.size V2 V3 := by rw [hV3]; exact (Below.refl _ _).alloc (Nat.le_refl _) _
  have z1 : V1.heap.size = w.heap.size + 1 := by rw [hV1, World.size_alloc]
  have z2 : V2.heap.size = w.heap.size + 1 + 1 := by rw [hV2, World.size_alloc, z1]
  have ka : V3.heap[w.heap.size]? = some (partO a1 a2) := part_on (part_on (by rw [hV1]; exact Go.Deep.blk_alloc_new _ _) v12) v23
  have kb : V3.heap[w.heap.size + 1]? = some (partO b1 b2) := part_on (by rw [← z1, hV2]; exact Go.Deep.blk_alloc_new _ _) v23
  have kc : V3.heap[w.heap.size + 1 + 1]? = some (partO c1 c2) := by rw [← z2, hV3]; exact Go.Deep.blk_alloc_new _ _
  have HB := Lib.hid (v01.trans ((below_chain v12 v23).mono v01.size))
  have HV1 := Lib.hid hV1; have HV2 := Lib.hid hV2; have HV3 := Lib.hid hV3; have Ka := Lib.hid ka; have Kb := Lib.hid kb; have Kc := Lib.hid kc
  clear hV1 hV2 hV3 v01 v12 v23 z1 z2 ka kb kc
  go_enter Tryz.func4, Tryz.ntmps4
  go_wp2_with fail
  rw [← HV1.out, ← HV2.out, ← HV3.out]
  refine (HAL.out V3 HB.out).mono ?_
  rintro e w1 ⟨rfl, hb1⟩
  have Hw1 := Lib.hid (HB.out.trans (hb1.mono HB.out.size))
  have ka := part_on Ka.out hb1
  have kb := part_on Kb.out hb1
  have kc := part_on Kc.out hb1
  clear Ka Kb Kc hb1
  obtain ⟨ya0, ya1, ya2⟩ := part_at ka
  obtain ⟨yb0, yb1, yb2⟩ := part_at kb
  obtain ⟨yc0, yc1, yc2⟩ := part_at kc
  obtain ⟨W1, hW1⟩ : ∃ W, W = w1.alloc (.cells #[.string a1, .string a2, .string b1, .string b2, .string c1, .string c2] 24) := ⟨_, rfl⟩
  have bb : Below w1.heap.size w1 W1 := by rw [hW1]; exact (Below.refl _ _).alloc (Nat.le_refl _) _
  have Ka := Lib.hid (part_on ka bb)
  have Kb := Lib.hid (part_on kb bb)
  have Kc := Lib.hid (part_on kc bb)
  have HW1 := Lib.hid (Hw1.out.trans (bb.mono Hw1.out.size))
  have kk : W1.heap[w1.heap.size]? = some (.cells #[.string a1, .string a2, .string b1, .string b2, .string c1, .string c2] 24 (0, 0)) := by rw [hW1]; exact Go.Deep.blk_alloc_new _ _
  have KK := Lib.hid kk
  clear kk
  have HEW1 := Lib.hid hW1
  clear bb hW1 ka kb kc
  go_wp2_with fail
  rw [← HEW1.out]
  clear ya0 ya1 ya2 yb0 yb1 yb2 yc0 yc1 yc2
  have hsh := short_any 60 [(a1, a2), (b1, b2), (c1, c2)] (.slice (some ⟨w1.heap.size, 0, none⟩) 3 3) W1 (.inr ⟨w1.heap.size, 0, 3, rfl, by simp, by decide, (Array.getElem?_eq_some_iff.1 KK.out).1, fun i hi => by
    match i, hi with
    | 0, _ => exact ⟨by rw [set_cells KK.out]; rfl, by rw [set_cells KK.out]; rfl⟩
    | 1, _ => exact ⟨by rw [set_cells KK.out]; rfl, by rw [set_cells KK.out]; rfl⟩
    | 2, _ => exact ⟨by rw [set_cells KK.out]; rfl, by rw [set_cells KK.out]; rfl⟩⟩) (by simp) (by decide)
  rw [HALL.out] at hsh
  have HSHORT := Lib.hid hsh
  clear hsh KK
  refine (HSHORT.out).mono ?_
  rintro e w2 ⟨rfl, hb2⟩
  have Hw2 := Lib.hid (HW1.out.trans (hb2.mono HW1.out.size))
  have ka := part_on Ka.out hb2
  have kb := part_on Kb.out hb2
  have kc := part_on Kc.out hb2
  clear Ka Kb Kc hb2
  obtain ⟨ya0, ya1, ya2⟩ := part_at ka
  obtain ⟨yb0, yb1, yb2⟩ := part_at kb
  obtain ⟨yc0, yc1, yc2⟩ := part_at kc
  have Ka := Lib.hid ka
  have Kb := Lib.hid kb
  have Kc := Lib.hid kc
  clear ka kb kc
  go_wp2_with fail
  clear ya0 ya1 ya2 yb0 yb1 yb2 yc0 yc1 yc2
  refine (U0.out w2 Hw2.out).mono ?_
  rintro e w3 ⟨rfl, hb3⟩
  have Hw3 := Lib.hid (Hw2.out.trans (hb3.mono Hw2.out.size))
  have ka := part_on Ka.out hb3
  have kb := part_on Kb.out hb3
  have kc := part_on Kc.out hb3
  clear Ka Kb Kc hb3
  obtain ⟨ya0, ya1, ya2⟩ := part_at ka
  obtain ⟨yb0, yb1, yb2⟩ := part_at kb
  obtain ⟨yc0, yc1, yc2⟩ := part_at kc
  have Ka := Lib.hid ka
  have Kb := Lib.hid kb
  have Kc := Lib.hid kc
  clear ka kb kc
  go_wp2_with fail
  clear ya0 ya1 ya2 yb0 yb1 yb2 yc0 yc1 yc2
  refine (U1.out w3 Hw3.out).mono ?_
  rintro e w4 ⟨rfl, hb4⟩
  have Hw4 := Lib.hid (Hw3.out.trans (hb4.mono Hw3.out.size))
  have ka := part_on Ka.out hb4
  have kb := part_on Kb.out hb4
  have kc := part_on Kc.out hb4
  clear Ka Kb Kc hb4
  obtain ⟨ya0, ya1, ya2⟩ := part_at ka
  obtain ⟨yb0, yb1, yb2⟩ := part_at kb
  obtain ⟨yc0, yc1, yc2⟩ := part_at kc
  have Ka := Lib.hid ka
  have Kb := Lib.hid kb
  have Kc := Lib.hid kc
  clear ka kb kc
  go_wp2_with fail
  clear ya0 ya1 ya2 yb0 yb1 yb2 yc0 yc1 yc2
  refine (U2.out w4 Hw4.out).mono ?_
  rintro e w5 ⟨rfl, hb5⟩
  have Hw5 := Lib.hid (Hw4.out.trans (hb5.mono Hw4.out.size))
  have ka := part_on Ka.out hb5
  have kb := part_on Kb.out hb5
  have kc := part_on Kc.out hb5
  clear Ka Kb Kc hb5
  obtain ⟨ya0, ya1, ya2⟩ := part_at ka
  obtain ⟨yb0, yb1, yb2⟩ := part_at kb
  obtain ⟨yc0, yc1, yc2⟩ := part_at kc
  have Ka := Lib.hid ka
  have Kb := Lib.hid kb
  have Kc := Lib.hid kc
  clear ka kb kc
  go_wp2_with fail
  clear ya0 ya1 ya2 yb0 yb1 yb2 yc0 yc1 yc2
  exact bodyPost_ret (v := .bool true) (by simp [results, Tryz.results4, go_sem]) rfl ⟨rfl, Hw5.out⟩
end Go.Proofs.YtkggfeemjabdeaaGreatDoor.Wc
end
section
namespace Go.Proofs.YtkggfeemjabdeaaGreatDoor.Wc
open Go Go.Proofs.YtkggfeemjabdeaaGreatDoor.Sx Go.RowKit

theorem field_any (a1 a2 b1 b2 c1 c2 : ByteArray) (w : World) (ht : Tens w) (h0 : 0 < w.heap.size) :
    Calls Tryz.prog 4 #[.agg #[.string a1, .string a2], .agg #[.string b1, .string b2], .agg #[.string c1, .string c2]] w fun e w' => e = .returned (.bool true) ∧ Below w.heap.size w w' := by
  cases hall : ([(a1, a2), (b1, b2), (c1, c2)] : List P2).all (shortP 60) with
  | false => exact field_short a1 a2 b1 b2 c1 c2 hall w ht h0
  | true =>
    cases ha : okP (a1, a2) with
    | false => exact field_a a1 a2 b1 b2 c1 c2 hall ha w ht h0
    | true =>
      cases hb : okP (b1, b2) with
      | false => exact field_b a1 a2 b1 b2 c1 c2 hall ha hb w ht h0
      | true =>
        cases hc : okP (c1, c2) with
        | false => exact field_c a1 a2 b1 b2 c1 c2 hall ha hb hc w ht h0
        | true =>
          have h3 : shortP 60 (a1, a2) = true ∧ shortP 60 (b1, b2) = true ∧ shortP 60 (c1, c2) = true := by simpa only [List.all_cons, List.all_nil, Bool.and_true, Bool.and_eq_true] using hall
          exact field_ok a1 a2 b1 b2 c1 c2 ha hb hc h3.1 h3.2.1 h3.2.2 w ht h0
end Go.Proofs.YtkggfeemjabdeaaGreatDoor.Wc
end
section
namespace Go.Proofs.YtkggfeemjabdeaaGreatDoor.Wc
open Go

/-- The number that a fraction is. -/
def qv (x : Nat × Nat) : Rat := (x.1 : Rat) / (x.2 : Rat)
theorem natR_ne {n : Nat} (h : 0 < n) : (n : Rat) ≠ 0 := fun e => by
  have : ((n : Nat) : Rat) = ((0 : Nat) : Rat) := by rw [e]; rfl
  have := Rat.natCast_inj.1 this
  omega
theorem qv_low {n d : Nat} (hd : 0 < d) : qv (low n d) = (n : Rat) / (d : Rat) := by
  have h := low_val n d
  have p := (low_fr (n := n) hd).pos
  generalize low n d = y at *
  have h2 : ((y.1 : Nat) : Rat) * (d : Rat) = (n : Rat) * (y.2 : Rat) := by
    rw [← Rat.natCast_mul, ← Rat.natCast_mul, h]
  have n1 := natR_ne hd; have n2 := natR_ne p
  unfold qv
  generalize ((y.1 : Nat) : Rat) = a at *
  generalize ((y.2 : Nat) : Rat) = b at *
  generalize ((n : Nat) : Rat) = c at *
  generalize ((d : Nat) : Rat) = e at *
  grind
theorem qv_inj {x y : Nat × Nat} (hx : Fr x) (hy : Fr y) (h : qv x = qv y) : x = y := by
  refine fr_uniq hx hy ?_
  have n1 := natR_ne hx.pos; have n2 := natR_ne hy.pos
  unfold qv at h
  have : ((x.1 * y.2 : Nat) : Rat) = ((y.1 * x.2 : Nat) : Rat) := by
    rw [Rat.natCast_mul, Rat.natCast_mul]
    generalize ((x.1 : Nat) : Rat) = a at *
    generalize ((x.2 : Nat) : Rat) = b at *
    generalize ((y.1 : Nat) : Rat) = c at *
    generalize ((y.2 : Nat) : Rat) = e at *
    grind
  exact Rat.natCast_inj.1 this
theorem qv_add {x y : Nat × Nat} (hx : Fr x) (hy : Fr y) : qv (addF x y) = qv x + qv y := by
  unfold addF
  rw [qv_low (Nat.mul_pos hx.pos hy.pos)]
  have n1 := natR_ne hx.pos; have n2 := natR_ne hy.pos
  unfold qv
  simp only [Rat.natCast_add, Rat.natCast_mul]
  generalize ((x.1 : Nat) : Rat) = a at *
  generalize ((x.2 : Nat) : Rat) = b at *
  generalize ((y.1 : Nat) : Rat) = c at *
  generalize ((y.2 : Nat) : Rat) = e at *
  grind
theorem qv_mul {x y : Nat × Nat} (hx : Fr x) (hy : Fr y) : qv (mulF x y) = qv x * qv y := by
  unfold mulF
  rw [qv_low (Nat.mul_pos hx.pos hy.pos)]
  have n1 := natR_ne hx.pos; have n2 := natR_ne hy.pos
  unfold qv
  simp only [Rat.natCast_mul]
  generalize ((x.1 : Nat) : Rat) = a at *
  generalize ((x.2 : Nat) : Rat) = b at *
  generalize ((y.1 : Nat) : Rat) = c at *
  generalize ((y.2 : Nat) : Rat) = e at *
  grind
theorem fr_swap {y : Nat × Nat} (hy : Fr y) (h0 : 0 < y.1) : Fr (y.2, y.1) := ⟨h0, by have := hy.cop; rw [Nat.gcd_comm] at this; exact this⟩
theorem qv_div {x y : Nat × Nat} (hx : Fr x) (hy : Fr y) (h0 : 0 < y.1) : qv (divF x y) = qv x / qv y := by
  unfold divF
  rw [qv_mul hx (fr_swap hy h0)]
  have n1 := natR_ne hx.pos; have n2 := natR_ne hy.pos; have n3 := natR_ne h0
  unfold qv
  simp only
  generalize ((x.1 : Nat) : Rat) = a at *
  generalize ((x.2 : Nat) : Rat) = b at *
  generalize ((y.1 : Nat) : Rat) = c at *
  generalize ((y.2 : Nat) : Rat) = e at *
  grind
theorem qv_zero {x : Nat × Nat} (hx : Fr x) : qv x = 0 ↔ x.1 = 0 := by
  constructor
  · intro h
    rcases Nat.eq_zero_or_pos x.1 with h0 | h0
    · exact h0
    · exfalso
      have n1 := natR_ne h0; have n2 := natR_ne hx.pos
      unfold qv at h
      generalize ((x.1 : Nat) : Rat) = a at *
      generalize ((x.2 : Nat) : Rat) = b at *
      grind
  · intro h; unfold qv; rw [h]; grind
theorem qv_ne {x : Nat × Nat} (hx : Fr x) (h0 : 0 < x.1) : qv x ≠ 0 := fun h => by have := (qv_zero hx).1 h; omega
theorem divF_fr' {x y : Nat × Nat} (hx : Fr x) (hy : Fr y) (h0 : 0 < y.1) : Fr (divF x y) := mulF_fr hx (fr_swap hy h0)
theorem Sm.div {k l m : Nat} {x y : Nat × Nat} (hx : Sm k x) (hy : Sm l y) (h0 : 0 < y.1) (hm : m = k + l) : Sm m (divF x y) := hx.mul (y := (y.2, y.1)) ⟨fr_swap hy.fr h0, hy.d, hy.n⟩ hm
theorem Sm.mono {k l : Nat} {x : Nat × Nat} (h : Sm k x) (hk : k ≤ l) : Sm l x := ⟨h.fr, Nat.lt_of_lt_of_le h.n (Nat.pow_le_pow_right (by decide) hk), Nat.lt_of_lt_of_le h.d (Nat.pow_le_pow_right (by decide) hk)⟩
theorem qv_0 : qv (0, 1) = 0 := by unfold qv; grind
theorem qv_1 : qv (1, 1) = 1 := by unfold qv; grind
theorem sm_zero : Sm 1 (0, 1) := ⟨⟨by decide, by decide⟩, by decide, by decide⟩
theorem sm_one : Sm 1 (1, 1) := ⟨⟨by decide, by decide⟩, by decide, by decide⟩
theorem fr_zero {x : Nat × Nat} (hx : Fr x) (h : x.1 = 0) : x = (0, 1) := qv_inj hx sm_zero.fr (by rw [(qv_zero hx).2 h, qv_0])
/-- Sums of quotients by the same number. -/
theorem addF_divF {p x d : Nat × Nat} (hp : Fr p) (hx : Fr x) (hd : Fr d) (h0 : 0 < d.1) : addF (divF p d) (divF x d) = divF (addF p x) d := by
  refine qv_inj (addF_fr (divF_fr' hp hd h0) (divF_fr' hx hd h0)) (divF_fr' (addF_fr hp hx) hd h0) ?_
  rw [qv_add (divF_fr' hp hd h0) (divF_fr' hx hd h0), qv_div hp hd h0, qv_div hx hd h0, qv_div (addF_fr hp hx) hd h0, qv_add hp hx]
  have := qv_ne hd h0
  grind
theorem divF_zero {d : Nat × Nat} (hd : Fr d) (h0 : 0 < d.1) : divF (0, 1) d = (0, 1) := by
  refine qv_inj (divF_fr' sm_zero.fr hd h0) sm_zero.fr ?_
  rw [qv_div sm_zero.fr hd h0]
  rw [qv_0]; grind
theorem divF_self {d : Nat × Nat} (hd : Fr d) (h0 : 0 < d.1) : divF d d = (1, 1) := by
  refine qv_inj (divF_fr' hd hd h0) sm_one.fr ?_
  rw [qv_div hd hd h0]
  rw [qv_1]; have := qv_ne hd h0; grind
theorem divF_one {x : Nat × Nat} (hx : Fr x) : divF x (1, 1) = x := by
  refine qv_inj (divF_fr' hx sm_one.fr (by decide)) hx ?_
  rw [qv_div hx sm_one.fr (by decide)]
  rw [qv_1]; grind
theorem divF_divF {x s d : Nat × Nat} (hx : Fr x) (hs : Fr s) (hd : Fr d) (s0 : 0 < s.1) (h0 : 0 < d.1) (h1 : 0 < (divF s d).1) : divF (divF x d) (divF s d) = divF x s := by
  refine qv_inj (divF_fr' (divF_fr' hx hd h0) (divF_fr' hs hd h0) h1) (divF_fr' hx hs s0) ?_
  rw [qv_div (divF_fr' hx hd h0) (divF_fr' hs hd h0) h1, qv_div hx hd h0, qv_div hs hd h0, qv_div hx hs s0]
  have := qv_ne hd h0; have := qv_ne hs s0
  grind
theorem divF_pos {s d : Nat × Nat} (hs : Fr s) (hd : Fr d) (h0 : 0 < d.1) : 0 < (divF s d).1 ↔ 0 < s.1 := by
  have k := qv_div hs hd h0
  have e1 := qv_zero (divF_fr' hs hd h0); have e2 := qv_zero hs
  have n1 := qv_ne hd h0
  constructor
  · intro h
    rcases Nat.eq_zero_or_pos s.1 with h' | h'
    · rw [e2.2 h'] at k
      have : qv (divF s d) = 0 := by rw [k]; grind
      rw [e1.1 this] at h; omega
    · exact h'
  · intro h
    rcases Nat.eq_zero_or_pos (divF s d).1 with h' | h'
    · rw [e1.2 h'] at k
      have : qv s = 0 := by grind
      rw [e2.1 this] at h; omega
    · exact h'
theorem mulF_divF {x y d : Nat × Nat} (hx : Fr x) (hy : Fr y) (hd : Fr d) (h0 : 0 < d.1) : mulF (divF x d) y = divF (mulF x y) d := by
  refine qv_inj (mulF_fr (divF_fr' hx hd h0) hy) (divF_fr' (mulF_fr hx hy) hd h0) ?_
  rw [qv_mul (divF_fr' hx hd h0) hy, qv_div hx hd h0, qv_div (mulF_fr hx hy) hd h0, qv_mul hx hy]
  have := qv_ne hd h0
  grind
theorem mulF_assoc {x y z : Nat × Nat} (hx : Fr x) (hy : Fr y) (hz : Fr z) : mulF (mulF x y) z = mulF x (mulF y z) := by
  refine qv_inj (mulF_fr (mulF_fr hx hy) hz) (mulF_fr hx (mulF_fr hy hz)) ?_
  rw [qv_mul (mulF_fr hx hy) hz, qv_mul hx hy, qv_mul hx (mulF_fr hy hz), qv_mul hy hz]; grind
theorem mulF_right_comm {x y z : Nat × Nat} (hx : Fr x) (hy : Fr y) (hz : Fr z) : mulF (mulF x y) z = mulF (mulF x z) y := by
  refine qv_inj (mulF_fr (mulF_fr hx hy) hz) (mulF_fr (mulF_fr hx hz) hy) ?_
  rw [qv_mul (mulF_fr hx hy) hz, qv_mul hx hy, qv_mul (mulF_fr hx hz) hy, qv_mul hx hz]; grind
theorem mulF_back {s d : Nat × Nat} (hs : Fr s) (hd : Fr d) (h0 : 0 < d.1) : mulF d (divF s d) = s := by
  refine qv_inj (mulF_fr hd (divF_fr' hs hd h0)) hs ?_
  rw [qv_mul hd (divF_fr' hs hd h0), qv_div hs hd h0]
  have := qv_ne hd h0
  grind
theorem mulF_zero {x y : Nat × Nat} (hx : Fr x) (hy : Fr y) (h : x.1 = 0) : (mulF x y).1 = 0 := by
  refine (qv_zero (mulF_fr hx hy)).1 ?_
  rw [qv_mul hx hy, (qv_zero hx).2 h]; grind
/-- Sums of small fractions, as they are and divided by the same number. -/
theorem sum_sm {k : Nat} : ∀ (xs : List (Nat × Nat)) (l : Nat) (p : Nat × Nat), (∀ x ∈ xs, Sm k x) → Sm l p → l + xs.length * (k + 1) ≤ 600 → ∃ s, sumO xs p = some s ∧ Sm (l + xs.length * (k + 1)) s
  | [], l, p, _, hp, _ => ⟨p, rfl, by simpa using hp⟩
  | x :: xs, l, p, hx, hp, hl => by
    have h1 := hp.add (hx x (by simp)) (m := l + k + 1) rfl
    have e : l + (x :: xs).length * (k + 1) = l + k + 1 + xs.length * (k + 1) := by simp only [List.length_cons, Nat.succ_mul]; omega
    rw [e] at hl ⊢
    obtain ⟨s, h2, h3⟩ := sum_sm xs (l + k + 1) (addF p x) (fun y hy => hx y (by simp [hy])) h1 hl
    exact ⟨s, by rw [sumO_yes (h1.fits (by omega))]; exact h2, h3⟩
theorem sumO_nil (s : Nat × Nat) : sumO [] s = some s := rfl
theorem sum_div {k ld : Nat} {d : Nat × Nat} (hd : Sm ld d) (h0 : 0 < d.1) (xs : List (Nat × Nat)) (l : Nat) (p s : Nat × Nat) (hx : ∀ x ∈ xs, Sm k x) (hp : Sm l p) (hl : l + xs.length * (k + 1) + ld ≤ 600) (h : sumO xs p = some s) : sumO (xs.map (divF · d)) (divF p d) = some (divF s d) := by
  induction xs generalizing l p with
  | nil => rw [sumO_nil] at h; injection h with h; rw [h]; exact sumO_nil _
  | cons x xs ih =>
    have hxx := hx x (by simp)
    have h1 := hp.add hxx (m := l + k + 1) rfl
    have e : l + (x :: xs).length * (k + 1) = l + k + 1 + xs.length * (k + 1) := by simp only [List.length_cons, Nat.succ_mul]; omega
    rw [e] at hl
    rw [sumO_yes (h1.fits (by omega))] at h
    have h2 := ih (l + k + 1) (addF p x) (fun y hy => hx y (by simp [hy])) h1 (by omega) h
    have e2 := addF_divF hp.fr hxx.fr hd.fr h0
    rw [List.map_cons, sumO_yes (by rw [e2]; exact (h1.div hd h0 rfl).fits (by omega)), e2]
    exact h2
theorem low_zero {n d : Nat} (hd : 0 < d) : (low n d).1 = 0 ↔ n = 0 := by
  have h := low_val n d
  have p := (low_fr (n := n) hd).pos
  constructor
  · intro h0; rw [h0, Nat.zero_mul] at h
    rcases Nat.mul_eq_zero.1 h.symm with h | h
    · exact h
    · omega
  · intro h0; rw [h0, Nat.zero_mul] at h
    rcases Nat.mul_eq_zero.1 h with h | h
    · rw [h0]; exact h
    · omega
theorem addF_pos {x y : Nat × Nat} (hx : Fr x) (hy : Fr y) : (addF x y).1 = 0 ↔ x.1 = 0 ∧ y.1 = 0 := by
  unfold addF
  rw [low_zero (Nat.mul_pos hx.pos hy.pos), Nat.add_eq_zero_iff, Nat.mul_eq_zero, Nat.mul_eq_zero]
  have := hx.pos; have := hy.pos
  omega
theorem sum_zero {k : Nat} (xs : List (Nat × Nat)) (p s : Nat × Nat) (hx : ∀ x ∈ xs, Sm k x) (hp : Fr p) (h : sumO xs p = some s) : s.1 = 0 ↔ p.1 = 0 ∧ ∀ x ∈ xs, x.1 = 0 := by
  induction xs generalizing p with
  | nil => rw [sumO_nil] at h; injection h with h; subst h; simp
  | cons x xs ih =>
    have hxx := hx x (by simp)
    cases hf : fitsF (addF p x) with
    | false => rw [sumO_no hf] at h; cases h
    | true =>
      rw [sumO_yes hf] at h
      rw [ih (addF p x) (fun y hy => hx y (by simp [hy])) (addF_fr hp hxx.fr) h, addF_pos hp hxx.fr]
      simp [and_assoc]
theorem parts_sm {k : Nat} {ps : List P2} (hall : ∀ p ∈ ps, okP p = true) (hsh : ∀ p ∈ ps, p.1.size ≤ k ∧ p.2.size ≤ k) : ∀ x ∈ ps.map pv, Sm k x := by
  intro x hx
  obtain ⟨p, hp, rfl⟩ := List.mem_map.1 hx
  exact sm_of (hall p hp) (hsh p hp).1 (hsh p hp).2
theorem openLS_yes {ps : List P2} (hl : ps.length ≤ 512) (hall : ∀ p ∈ ps, okP p = true) : openLS ps = 0 := by
  unfold openLS
  rw [if_neg (by omega), if_pos (List.all_eq_true.2 hall)]
theorem openLS_no {ps : List P2} (hl : ps.length ≤ 512) (h : openLS ps ≠ 0) : openLS ps = 2 := by
  unfold openLS at h ⊢
  rw [if_neg (by omega)] at h ⊢
  split
  · rename_i h1; rw [if_pos h1] at h; exact absurd rfl h
  · rfl
/-- The parts of fractions. -/
def pts (l : List (Nat × Nat)) : List P2 := l.map ptOf
theorem pts_len (l : List (Nat × Nat)) : (pts l).length = l.length := by simp [pts]
theorem pts_pv (l : List (Nat × Nat)) : (pts l).map pv = l := by
  unfold pts
  rw [List.map_map]
  have : (pv ∘ ptOf) = id := by funext x; exact pv_pt x
  rw [this, List.map_id]
theorem pts_ok {k : Nat} (hk : k ≤ 600) {l : List (Nat × Nat)} (h : ∀ x ∈ l, Sm k x) : ∀ p ∈ pts l, okP p = true := by
  intro p hp
  obtain ⟨x, hx, rfl⟩ := List.mem_map.1 hp
  exact pt_ok (h x hx) hk
theorem short_of_ok {ps : List P2} (h : ∀ p ∈ ps, okP p = true) : ∀ p ∈ ps, Short p := by
  intro p hp
  obtain ⟨h1, h2⟩ := okP_nt (h p hp)
  exact ⟨Nat.le_trans (isNt_parts h1).1 (by decide), Nat.le_trans (isNt_parts h2).1 (by decide)⟩
/-- The shares of small fractions. -/
theorem divs_sm {k l m : Nat} {xs : List (Nat × Nat)} {s : Nat × Nat} (hx : ∀ x ∈ xs, Sm k x) (hs : Sm l s) (h0 : 0 < s.1) (hm : m = k + l) : ∀ y ∈ xs.map (divF · s), Sm m y := by
  intro y hy
  obtain ⟨x, hxx, rfl⟩ := List.mem_map.1 hy
  exact (hx x hxx).div hs h0 hm
theorem okD_sm {k l : Nat} {xs : List (Nat × Nat)} {s : Nat × Nat} (hx : ∀ x ∈ xs, Sm k x) (hs : Sm l s) (h0 : 0 < s.1) (hm : k + l ≤ 600) : okD xs s = true :=
  List.all_eq_true.2 fun y hy => (divs_sm hx hs h0 rfl y hy).fits hm
theorem divE_zero {xs : List (Nat × Nat)} {s : Nat × Nat} (h : sumO xs (0, 1) = some s) (h0 : s.1 = 0) : divE xs = 7 := by
  unfold divE; rw [h]; simp only; rw [if_pos h0]
theorem divE_ok {xs : List (Nat × Nat)} {s : Nat × Nat} (h : sumO xs (0, 1) = some s) (h0 : s.1 ≠ 0) (hd : okD xs s = true) : divE xs = 0 := by
  unfold divE; rw [h]; simp only; rw [if_neg h0, if_pos hd]
theorem partCells_get : ∀ (l : List (Nat × Nat)) (i : Nat) (h : i < l.length), (partCells l)[i * 2]? = some (.string (dec l[i].1)) ∧ (partCells l)[i * 2 + 1]? = some (.string (dec l[i].2))
  | [], i, h => absurd h (Nat.not_lt_zero _)
  | x :: l, 0, _ => ⟨rfl, rfl⟩
  | x :: l, i + 1, h => by
    have k := partCells_get l i (by simpa using h)
    have e1 : (i + 1) * 2 = i * 2 + 1 + 1 := by omega
    rw [e1]
    exact k
/-- A row of parts, as a slice of parts. -/
theorem partL_of_owns {w : World} {base : Nat} {v : Value} {l : List (Nat × Nat)} (h : w.ownsRow base 24 2 v l.length (partCells l)) (hl : l.length ≤ 1000) : PartL w v (pts l) := by
  rcases h.2 with ⟨h1, h2⟩ | ⟨g, cap, cur, h1, h2, h3, h4⟩
  · have : l = [] := List.eq_nil_of_length_eq_zero h2
    subst this
    exact .inl ⟨⟨_, _, h1⟩, rfl⟩
  · refine .inr ⟨g, 0, cap, by rw [pts_len]; exact h1, by rw [pts_len]; exact h4.1, h4.2.1, (Array.getElem?_eq_some_iff.1 h3).1, fun i hi => ?_⟩
    rw [pts_len] at hi
    obtain ⟨k1, k2⟩ := partCells_get l i hi
    have hp : (pts l)[i]'(by rw [pts_len]; exact hi) = ptOf l[i] := by simp [pts]
    have at_ : ∀ j, j < l.length * 2 → cur[j]? = (partCells l)[j]? := fun j hj => by
      rw [← h4.2.2.2, List.getElem?_take, if_pos hj, Array.getElem?_toList]
    rw [hp, set_cells h3, set_cells h3, Nat.zero_add, at_ _ (by omega), at_ _ (by omega)]
    exact ⟨k1, k2⟩
end Go.Proofs.YtkggfeemjabdeaaGreatDoor.Wc
end
section
namespace Go.Proofs.YtkggfeemjabdeaaGreatDoor.Wc
open Go Go.Proofs.YtkggfeemjabdeaaGreatDoor.Sx Go.RowKit

/-- The error that Share returns. -/
def shrE (ps : List P2) : Int := if openLS ps ≠ 0 then openLS ps else divE (ps.map pv)
/-- What Share comes to. -/
def ShareQ (ps : List P2) (w : World) (e : Ending) (w' : World) : Prop :=
  Below w.heap.size w w' ∧ (shrE ps = 0 → ∃ s v' base, sumO (ps.map pv) (0, 1) = some s ∧ w.heap.size ≤ base ∧ e = .returned (.tuple #[v', .int .i64 0]) ∧ w'.ownsRow base 24 2 v' ps.length (partCells ((ps.map pv).map (divF · s)))) ∧
    (shrE ps ≠ 0 → e = .returned (.tuple #[.slice none 0 0, .int .i64 (shrE ps)]))

set_option maxRecDepth 100000 in
set_option maxHeartbeats 2000000 in
theorem Share_any (ps : List P2) (v : Value) (w : World) (h : PartL w v ps) (hs : ∀ p ∈ ps, Short p) (ht : Tens w) :
    Calls Tryz.prog 16 #[v] w (ShareQ ps w) := by
  have hcall := openList_any ps v w h hs ht
  obtain ⟨a, cap, rfl⟩ := h.shape
  have HC := Lib.hid hcall; have HT := Lib.hid ht
  clear hcall h hs ht
  go_enter Tryz.func16, Tryz.ntmps16
  go_wp2_with fail
  refine HC.out.mono ?_
  rintro e w2 ⟨g0, g1, g2⟩
  have HB2 := Lib.hid g0; have G1 := Lib.hid g1; have G2 := Lib.hid g2
  clear g0 g1 g2 HC
  by_cases hm : openLS ps = 0
  · obtain ⟨u, rfl, hu⟩ := G1.out hm
    clear G1 G2
    obtain ⟨rfl, cs, hx⟩ := hu
    rw [List.length_map] at hx
    have hd := divideUp_any w.heap.size ps.length (ps.map pv) cs w2 (hx.sub (fun c h _ => by omega) (fun h => h rfl)) (by rw [List.length_map]) (frt_all hm) (openLS_ok hm).1 (fun j hj => cell_later HB2.out (HT.out j hj))
    have hz : shrE ps = divE (ps.map pv) := if_neg (fun h => h hm)
    have HD := Lib.hid hd; have HZ := Lib.hid hz
    clear hd hx hm hz
    rw [List.length_map]
    go_wp2_with fail
    refine HD.out.mono ?_
    rintro e w3 ⟨g0, g1, g2⟩
    have HB3 := Lib.hid (HB2.out.trans (g0.mono HB2.out.size)); have G1 := Lib.hid g1; have G2 := Lib.hid g2
    clear g0 g1 g2 HD
    by_cases hd : divE (ps.map pv) = 0
    · obtain ⟨s, v', base, hs, hbase, rfl, hrow⟩ := G1.out hd
      have HS := Lib.hid hs; have HROW := Lib.hid hrow; have HZ2 := Lib.hid (HZ.out.trans hd); have HBA := Lib.hid hbase
      clear G1 G2 hd hs hrow hbase
      generalize hd1 : dec s.1 = d1
      generalize hd2 : dec s.2 = d2
      clear hd1 hd2
      go_wp2_with fail
      refine bodyPost_ret (v := .tuple #[v', .int .i64 0]) (by simp [results, Tryz.results16, go_sem]) rfl ⟨HB3.out.alloc HB3.out.size _, (fun _ => ⟨s, v', base, HS.out, by have := HB2.out.size; have := HBA.out; omega, rfl, ?_⟩), fun h => absurd HZ2.out h⟩
      have h := HROW.out
      rw [List.length_map] at h
      exact owns_below h ((Below.refl _ _).alloc (Nat.le_refl _) _)
    · have hr := G2.out hd
      subst hr
      have HND := Lib.hid hd
      clear G1 G2 hd
      have HZ3 := HZ
      generalize hzz : divE (ps.map pv) = z at *
      unfold noPart
      go_wp2_with fail
      refine bodyPost_ret (v := .tuple #[.slice none 0 0, .int .i64 z]) (by simp [results, Tryz.results16, go_sem]) rfl ⟨HB3.out.alloc HB3.out.size _, (fun h => absurd (HZ.out.symm.trans h) HND.out), fun _ => by rw [HZ.out]⟩
  · have hr := G2.out hm
    subst hr
    have hz : shrE ps = openLS ps := if_pos hm
    have hne : ((openLS ps) != 0) = true := bne_iff_ne.2 hm
    have HZ := Lib.hid hz; have HM := Lib.hid hm
    clear G1 G2 hz hm
    generalize hzz : openLS ps = z at *
    go_wp2_with fail
    refine bodyPost_ret (v := .tuple #[.slice none 0 0, .int .i64 z]) (by simp [results, Tryz.results16, go_sem]) rfl ⟨HB2.out, (fun h => absurd (HZ.out.symm.trans h) HM.out), fun _ => by rw [HZ.out]⟩

/-- What Sum answers. -/
def sumS (ps : List P2) : P2 × Int := if openLS ps ≠ 0 then (emptyP, openLS ps) else match sumO (ps.map pv) (0, 1) with
  | none => (emptyP, 4)
  | some s => ((dec s.1, dec s.2), 0)

set_option maxRecDepth 100000 in
set_option maxHeartbeats 2000000 in
theorem sum1_clo (B n p : Nat) (xs : List (Nat × Nat)) (cs : Array Value) (w : World) (hx : Rats (· ≠ B) w B n xs cs) (hxn : xs.length = n) (hxf : ∀ r ∈ xs, FrT r) (hn : n ≤ 512) (ht : Tens w) (hp : w.cell? ⟨p, 0, none⟩ = some (.slice (some ⟨B, 0, none⟩) n n)) :
    Calls Tryz.prog 58 #[.pointer (some ⟨p, 0, none⟩)] w fun e w' => Below w.heap.size w w' ∧ (∀ s, sumO xs (0, 1) = some s → e = .returned (.agg #[.string (dec s.1), .string (dec s.2)])) ∧ (sumO xs (0, 1) = none → e = .panicked [{ v := errV4, recovered := false }]) := by
  obtain ⟨W1, hW1⟩ : ∃ W, W = w.alloc (.cells #[.string ⟨#[]⟩, .string ⟨#[]⟩] 24) := ⟨_, rfl⟩
  have b01 : Below w.heap.size w W1 := by rw [hW1]; exact (Below.refl _ _).alloc (Nat.le_refl _) _
  have e1 : W1.heap[w.heap.size]? = some (.cells #[.string ⟨#[]⟩, .string ⟨#[]⟩] 24 (0, 0)) := by rw [hW1]; exact Go.Deep.blk_alloc_new _ _
  have l1 : w.heap.size < W1.heap.size := (Array.getElem?_eq_some_iff.1 e1).1
  have hBl := hx.lt
  have hcall := total_any (fun c => c ≠ B ∧ c ≠ w.heap.size) B n xs cs W1 (fun c hc => ⟨by omega, by omega⟩) ((hx.sub (fun c h h' => ⟨h, by omega⟩) (fun h => h.1 rfl)).below b01) hxn hxf hn (fun j hj => cell_later b01 (ht j hj))
  have hpl : p < w.heap.size := by
    cases e : w.heap[p]? with
    | none => simp [World.cell?, e] at hp
    | some _ => exact (Array.getElem?_eq_some_iff.1 e).1
  have HC := Lib.hid hcall; have HT := Lib.hid ht; have HW1 := Lib.hid hW1; have HB1 := Lib.hid b01; have HE1 := Lib.hid e1
  clear hcall hx hxf ht hBl hW1 b01 e1
  go_enter Tryz.func58, Tryz.ntmps58
  go_wp2_with fail
  rw [← HW1.out]
  refine HC.out.mono ?_
  rintro e w3 ⟨hb3, g1, g2⟩
  have HB3 := Lib.hid (HB1.out.trans (hb3.mono HB1.out.size)); have HB13 := Lib.hid hb3; have G1 := Lib.hid g1; have G2 := Lib.hid g2
  have r3 := (hb3.block _ l1).trans HE1.out
  clear hb3 g1 g2 HC hp
  generalize hoo : sumO xs (0, 1) = o at *
  have HOO := Lib.hid hoo
  cases o with
  | none =>
    obtain rfl := G2.out rfl
    clear G1 G2
    go_wp2_with fail
    exact ⟨rfl, HB3.out, (fun r h => by rw [HOO.out] at h; cases h), fun _ => rfl⟩
  | some r =>
    obtain ⟨hr, e1, e2, rfl, hv⟩ := G1.out r rfl
    clear G1 G2
    obtain ⟨p1, l1', c1, e1⟩ := nat_slice hv.n
    obtain ⟨p2, l2', c2, e2⟩ := nat_slice hv.d
    subst e1 e2
    have hpart := part_rat r _ _ w3 hv.n hv.d hr (fun j hj => cell_later HB3.out (HT.out j hj))
    have R3 := Lib.hid r3; have HP := Lib.hid hpart
    clear hr hv r3 hpart hoo
    go_wp2_with fail
    refine HP.out.mono ?_
    rintro e w4 ⟨rfl, hb4⟩
    have hl3 : w.heap.size < w3.heap.size := (Array.getElem?_eq_some_iff.1 R3.out).1
    have r4 := (hb4.block _ hl3).trans R3.out
    have q0 := set_cells r4 0; have q1 := set_cells r4 1
    simp only [List.getElem?_toArray, List.getElem?_cons_zero, List.getElem?_cons_succ] at q0 q1
    have f0 : w4.frozen? ⟨w.heap.size, 0, none⟩ = false := by simp [World.frozen?, r4]
    have f1 : w4.frozen? ⟨w.heap.size, 1, none⟩ = false := by simp [World.frozen?, r4]
    have HB4 := Lib.hid (HB3.out.trans (hb4.mono HB3.out.size)); have R4 := Lib.hid r4
    clear hb4 r4 HP
    generalize hd1 : dec r.1 = d1
    generalize hd2 : dec r.2 = d2
    have HD1 := Lib.hid hd1; have HD2 := Lib.hid hd2
    clear hd1 hd2
    go_wp2_with fail
    have g0 := heap_setCell_same w4 w.heap.size 0 _ _ (.string d1) R4.out
    have g1 := heap_setCell_same _ w.heap.size 1 _ _ (.string d2) g0
    simp only [List.setIfInBounds_toArray, List.set_cons_zero, List.set_cons_succ] at g1
    have t0 := set_cells g1 0; have t1 := set_cells g1 1
    simp only [List.getElem?_toArray, List.getElem?_cons_zero, List.getElem?_cons_succ] at t0 t1
    have hbz := (HB4.out.setCell (p := ⟨w.heap.size, 0, none⟩) (Nat.le_refl _) (.string d1)).setCell (p := ⟨w.heap.size, 1, none⟩) (Nat.le_refl _) (.string d2)
    refine bodyPost_ret (v := .agg #[.string d1, .string d2]) (by simp [results, t0, t1, Tryz.results58, go_sem]) rfl ⟨hbz, (fun s h => ?_), fun h => by rw [HOO.out] at h; cases h⟩
    rw [HOO.out] at h
    obtain rfl := Option.some.inj h
    rw [HD1.out, HD2.out]

set_option maxRecDepth 100000 in
set_option maxHeartbeats 2000000 in
theorem Sum_any (ps : List P2) (v : Value) (w : World) (h : PartL w v ps) (hs : ∀ p ∈ ps, Short p) (ht : Tens w) :
    Calls Tryz.prog 19 #[v] w fun e w' => e = .returned (retV (sumS ps)) ∧ Below w.heap.size w w' := by
  obtain ⟨W1, hW1⟩ : ∃ W, W = w.alloc (.cells #[.string ⟨#[]⟩, .string ⟨#[]⟩] 24) := ⟨_, rfl⟩
  have b01 : Below w.heap.size w W1 := by rw [hW1]; exact (Below.refl _ _).alloc (Nat.le_refl _) _
  have e1 : W1.heap[w.heap.size]? = some (.cells #[.string ⟨#[]⟩, .string ⟨#[]⟩] 24 (0, 0)) := by rw [hW1]; exact Go.Deep.blk_alloc_new _ _
  have l1 : w.heap.size < W1.heap.size := (Array.getElem?_eq_some_iff.1 e1).1
  have hcall := openList_any ps v W1 (h.below b01) hs (fun j hj => cell_later b01 (ht j hj))
  obtain ⟨a, cap, rfl⟩ := h.shape
  have HC := Lib.hid hcall; have HT := Lib.hid ht; have HW1 := Lib.hid hW1; have HB1 := Lib.hid b01; have HE1 := Lib.hid e1
  clear hcall h hs ht hW1 b01 e1
  go_enter Tryz.func19, Tryz.ntmps19
  go_wp2_with fail
  rw [← HW1.out]
  refine HC.out.mono ?_
  rintro e w2 ⟨g0, g1, g2⟩
  have HB2 := Lib.hid (HB1.out.trans (g0.mono HB1.out.size)); have G1 := Lib.hid g1; have G2 := Lib.hid g2
  have p2 := (g0.block _ l1).trans HE1.out
  have q0 := set_cells p2 0; have q1 := set_cells p2 1
  simp only [List.getElem?_toArray, List.getElem?_cons_zero, List.getElem?_cons_succ] at q0 q1
  have f0 : w2.frozen? ⟨w.heap.size, 0, none⟩ = false := by simp [World.frozen?, p2]
  have f1 : w2.frozen? ⟨w.heap.size, 1, none⟩ = false := by simp [World.frozen?, p2]
  have hl2 : w.heap.size < w2.heap.size := (Array.getElem?_eq_some_iff.1 p2).1
  have HP2 := Lib.hid p2
  clear g0 g1 g2 HC p2
  by_cases hm : openLS ps = 0
  · obtain ⟨u, rfl, hu⟩ := G1.out hm
    clear G1 G2
    obtain ⟨rfl, cs, hx⟩ := hu
    rw [List.length_map] at hx ⊢
    obtain ⟨w3, hw3⟩ : ∃ W, W = w2.alloc (.cells #[.slice (some ⟨W1.heap.size, 0, none⟩) ps.length ps.length] 85) := ⟨_, rfl⟩
    have b23 : Below w2.heap.size w2 w3 := by rw [hw3]; exact (Below.refl _ _).alloc (Nat.le_refl _) _
    have e3 : w3.heap[w2.heap.size]? = some (.cells #[.slice (some ⟨W1.heap.size, 0, none⟩) ps.length ps.length] 85 (0, 0)) := by rw [hw3]; exact Go.Deep.blk_alloc_new _ _
    have hx3 := (hx.sub (A' := (· ≠ W1.heap.size)) (fun c h _ => by omega) (fun h => h rfl)).below b23
    have hp3 := (b23.block _ hl2).trans HP2.out
    have hb03 := HB2.out.trans (b23.mono HB2.out.size)
    have hle := openLS_ok hm
    obtain ⟨o, ho⟩ : ∃ o, sumO (ps.map pv) (0, 1) = o := ⟨_, rfl⟩
    have hat := attempt_part 58 #[.pointer (some ⟨w2.heap.size, 0, none⟩)] (enters_of Tryz.func58 (by kernel_rfl) rfl) o.isSome (dec (o.getD (0, 1)).1) (dec (o.getD (0, 1)).2) w3
      (fun W hW => by
        refine (sum1_clo W1.heap.size ps.length w2.heap.size (ps.map pv) cs W (hx3.below hW) (by rw [List.length_map]) (frt_all hm) hle.1 (fun j hj => cell_later hW (cell_later hb03 (HT.out j hj))) (cell_later hW (by rw [set_cells e3]; rfl))).mono ?_
        rintro e W' ⟨k1, k2, k3⟩
        refine ⟨k1, fun h => ?_, fun h => ?_⟩
        · obtain ⟨s, hs⟩ := Option.isSome_iff_exists.1 h
          subst hs
          exact k2 s ho
        · cases o with
          | none => exact k3 ho
          | some _ => cases h)
    have hz : sumS ps = ((if o.isSome then dec (o.getD (0, 1)).1 else ⟨#[]⟩, if o.isSome then dec (o.getD (0, 1)).2 else ⟨#[]⟩), if o.isSome then 0 else 4) := by
      unfold sumS
      rw [if_neg (fun h => h hm), ho]
      cases o <;> rfl
    have HW3 := Lib.hid hw3; have HP3 := Lib.hid hp3; have HB03 := Lib.hid hb03; have HZ := Lib.hid hz
    generalize (if o.isSome then dec (o.getD (0, 1)).1 else ⟨#[]⟩) = d1 at *
    generalize (if o.isSome then dec (o.getD (0, 1)).2 else ⟨#[]⟩) = d2 at *
    generalize (if o.isSome then (0 : Int) else 4) = z at *
    have HAT := Lib.hid hat
    clear hw3 b23 e3 hx3 hp3 hb03 hle ho hat hz hx hm q0 q1 f0 f1
    have hl3 : w.heap.size < w3.heap.size := (Array.getElem?_eq_some_iff.1 HP3.out).1
    go_wp2_with fail
    rw [← HW3.out]
    refine HAT.out.mono ?_
    rintro e w4 ⟨rfl, hb4⟩
    have p4 := (hb4.block _ hl3).trans HP3.out
    have q0 := set_cells p4 0; have q1 := set_cells p4 1
    simp only [List.getElem?_toArray, List.getElem?_cons_zero, List.getElem?_cons_succ] at q0 q1
    have f0 : w4.frozen? ⟨w.heap.size, 0, none⟩ = false := by simp [World.frozen?, p4]
    have f1 : w4.frozen? ⟨w.heap.size, 1, none⟩ = false := by simp [World.frozen?, p4]
    have HB4 := Lib.hid (HB03.out.trans (hb4.mono HB03.out.size)); have HP4 := Lib.hid p4
    clear hb4 p4 HAT
    go_wp2_with fail
    have g0 := heap_setCell_same w4 w.heap.size 0 _ _ (.string d1) HP4.out
    have g1 := heap_setCell_same _ w.heap.size 1 _ _ (.string d2) g0
    simp only [List.setIfInBounds_toArray, List.set_cons_zero, List.set_cons_succ] at g1
    have t0 := set_cells g1 0; have t1 := set_cells g1 1
    simp only [List.getElem?_toArray, List.getElem?_cons_zero, List.getElem?_cons_succ] at t0 t1
    have hbz := (HB4.out.setCell (p := ⟨w.heap.size, 0, none⟩) (Nat.le_refl _) (.string d1)).setCell (p := ⟨w.heap.size, 1, none⟩) (Nat.le_refl _) (.string d2)
    refine bodyPost_ret (v := .tuple #[.agg #[.string d1, .string d2], .int .i64 z]) (by simp [results, t0, t1, Tryz.results19, go_sem]) rfl ⟨by rw [HZ.out]; rfl, hbz⟩
  · have hr := G2.out hm
    subst hr
    have hz : sumS ps = (emptyP, openLS ps) := if_pos hm
    have hne : ((openLS ps) != 0) = true := bne_iff_ne.2 hm
    have HZ := Lib.hid hz
    clear G1 G2 hz hm
    generalize hzz : openLS ps = z at *
    go_wp2_with fail
    have g0 := heap_setCell_same w2 w.heap.size 0 _ _ (.string ⟨#[]⟩) HP2.out
    have g1 := heap_setCell_same _ w.heap.size 1 _ _ (.string ⟨#[]⟩) g0
    simp only [List.setIfInBounds_toArray, List.set_cons_zero, List.set_cons_succ] at g1
    have t0 := cell_later ((Below.refl _ _).alloc (Nat.le_refl _) (.cells #[.slice none 0 0] 85)) (set_cells g1 0)
    have t1 := cell_later ((Below.refl _ _).alloc (Nat.le_refl _) (.cells #[.slice none 0 0] 85)) (set_cells g1 1)
    have hbz := ((HB2.out.setCell (p := ⟨w.heap.size, 0, none⟩) (Nat.le_refl _) (.string ⟨#[]⟩)).setCell (p := ⟨w.heap.size, 1, none⟩) (Nat.le_refl _) (.string ⟨#[]⟩))
    have hbz2 := hbz.alloc hbz.size (.cells #[.slice none 0 0] 85)
    refine bodyPost_ret (v := .tuple #[.agg #[.string ⟨#[]⟩, .string ⟨#[]⟩], .int .i64 z]) (by simp [results, t0, t1, Tryz.results19, go_sem]) rfl ⟨by rw [HZ.out]; rfl, hbz2⟩
end Go.Proofs.YtkggfeemjabdeaaGreatDoor.Wc
end
section
namespace Go.Proofs.YtkggfeemjabdeaaGreatDoor.Wc
open Go

/-- The shares of a list of parts. -/
def shares (ps : List P2) (s : Nat × Nat) : List (Nat × Nat) := (ps.map pv).map (divF · s)
theorem shares_len (ps : List P2) (s : Nat × Nat) : (shares ps s).length = ps.length := by simp [shares]
theorem whole_sum {ps : List P2} (hall : ∀ p ∈ ps, okP p = true) (hsh : ∀ p ∈ ps, p.1.size ≤ 20 ∧ p.2.size ≤ 20) (hn : ps.length ≤ 12) : ∃ s, sumO (ps.map pv) (0, 1) = some s ∧ Sm 253 s := by
  obtain ⟨s, h1, h2⟩ := sum_sm (ps.map pv) 1 (0, 1) (parts_sm hall hsh) sm_zero (by rw [List.length_map]; omega)
  exact ⟨s, h1, h2.mono (by rw [List.length_map]; omega)⟩
theorem whole_zero {ps : List P2} {s : Nat × Nat} (hall : ∀ p ∈ ps, okP p = true) (hn : ps.length ≤ 12) (h : sumO (ps.map pv) (0, 1) = some s) (h0 : s.1 = 0) : shrE ps = 7 := by
  unfold shrE
  rw [if_neg (fun k => k (openLS_yes (by omega) hall)), divE_zero h h0]
theorem whole_ok {ps : List P2} {s : Nat × Nat} (hall : ∀ p ∈ ps, okP p = true) (hsh : ∀ p ∈ ps, p.1.size ≤ 20 ∧ p.2.size ≤ 20) (hn : ps.length ≤ 12) (h : sumO (ps.map pv) (0, 1) = some s) (hs : Sm 253 s) (h0 : s.1 ≠ 0) : shrE ps = 0 := by
  unfold shrE
  rw [if_neg (fun k => k (openLS_yes (by omega) hall)), divE_ok h h0 (okD_sm (parts_sm hall hsh) hs (by omega) (by decide))]
theorem whole_no {ps : List P2} (hall : ¬ ∀ p ∈ ps, okP p = true) (hn : ps.length ≤ 12) : shrE ps = 2 := by
  have h : openLS ps ≠ 0 := fun h => hall (openLS_ok h).2
  unfold shrE
  rw [if_pos h, openLS_no (by omega) h]
theorem shares_sm {ps : List P2} {s : Nat × Nat} (hall : ∀ p ∈ ps, okP p = true) (hsh : ∀ p ∈ ps, p.1.size ≤ 20 ∧ p.2.size ≤ 20) (hs : Sm 253 s) (h0 : s.1 ≠ 0) : ∀ x ∈ shares ps s, Sm 273 x :=
  divs_sm (parts_sm hall hsh) hs (by omega) rfl
theorem whole_one {ps : List P2} {s : Nat × Nat} (hall : ∀ p ∈ ps, okP p = true) (hsh : ∀ p ∈ ps, p.1.size ≤ 20 ∧ p.2.size ≤ 20) (hn : ps.length ≤ 12) (h : sumO (ps.map pv) (0, 1) = some s) (hs : Sm 253 s) (h0 : s.1 ≠ 0) :
    sumS (pts (shares ps s)) = (ptOf (1, 1), 0) := by
  have hp : 0 < s.1 := by omega
  have k := sum_div hs hp (ps.map pv) 1 (0, 1) s (parts_sm hall hsh) sm_zero (by rw [List.length_map]; omega) h
  rw [divF_zero hs.fr hp, divF_self hs.fr hp] at k
  unfold sumS
  rw [if_neg (fun k => k (openLS_yes (by rw [pts_len, shares_len]; omega) (pts_ok (by decide) (shares_sm hall hsh hs h0)))), pts_pv]
  unfold shares
  rw [k]; rfl
theorem whole_mul {ps : List P2} {s : Nat × Nat} (hall : ∀ p ∈ ps, okP p = true) (hsh : ∀ p ∈ ps, p.1.size ≤ 20 ∧ p.2.size ≤ 20) (hs : Sm 253 s) (h0 : s.1 ≠ 0) {p q : P2} (hp : p ∈ ps) (hq : q ∈ ps) :
    ∃ r, mulS (ptOf (divF (pv p) s)) q = (r, 0) ∧ mulS (ptOf (divF (pv q) s)) p = (r, 0) := by
  have h1 : 0 < s.1 := by omega
  have a := sm_of (hall p hp) (hsh p hp).1 (hsh p hp).2
  have b := sm_of (hall q hq) (hsh q hq).1 (hsh q hq).2
  have c := mul_pt (a.div hs h1 rfl) b (by decide)
  have d := mul_pt (b.div hs h1 rfl) a (by decide)
  rw [pt_pv (hall q hq), mulF_divF a.fr b.fr hs.fr h1] at c
  rw [pt_pv (hall p hp), mulF_divF b.fr a.fr hs.fr h1, mulF_comm] at d
  exact ⟨_, c, d⟩
end Go.Proofs.YtkggfeemjabdeaaGreatDoor.Wc
end
section
namespace Go.Proofs.YtkggfeemjabdeaaGreatDoor.Wc
open Go Go.Proofs.YtkggfeemjabdeaaGreatDoor.Sx Go.RowKit

/-- Where the parts of a slice lie. -/
theorem partL_at {w : World} {a : Option Addr} {n cap : Nat} {ps : List P2} (h : PartL w (.slice a n cap) ps) {i : Nat} (hi : i < ps.length) : ∃ b off, a = some ⟨b, off, none⟩ ∧ b < w.heap.size ∧ w.cell? ⟨b, off + i * 2, none⟩ = some (.string ps[i].1) ∧ w.cell? ⟨b, off + i * 2 + 1, none⟩ = some (.string ps[i].2) := by
  rcases h with ⟨-, h⟩ | ⟨b, off, cap', h1, h2, h3, h4, h5⟩
  · subst h; exact absurd hi (Nat.not_lt_zero _)
  · injection h1 with h1 _ _
    exact ⟨b, off, h1, h4, (h5 i hi).1, (h5 i hi).2⟩

set_option maxRecDepth 100000 in
set_option maxHeartbeats 8000000 in
theorem whole_any (ps : List P2) (v : Value) (i k : Nat) (hi : i < 256) (hk : k < 256) (w : World) (h : PartL w v ps) (ht : Tens w) (h0 : 0 < w.heap.size) :
    Calls Tryz.prog 7 #[v, .int .u8 i, .int .u8 k] w fun e w' => e = .returned (.bool true) ∧ Below w.heap.size w w' := by
  have HT : Hid (∀ W, Below w.heap.size w W → Tens W) := Lib.hid fun W hW j hj => cell_later hW (ht j hj)
  have HAL : Hid (Calls Tryz.prog 20 #[] w fun e w' => e = .returned (.bool true) ∧ Below w.heap.size w w') := Lib.hid (alive_any w ht h0)
  obtain ⟨a, cap, rfl⟩ := h.shape
  have HPL := Lib.hid h
  clear h ht h0
  generalize hN : ps.length = N at *
  go_enter Tryz.func7, Tryz.ntmps7
  go_wp2_with fail
  refine HAL.out.mono ?_
  rintro e w1 ⟨rfl, hb1⟩
  have HB1 := Lib.hid hb1
  clear hb1 HAL
  by_cases h12 : 12 < N
  · have h12i : (12 : Int) < N := by omega
    go_wp2_with fail
    exact bodyPost_ret (v := .bool true) (by simp [results, Tryz.results7, go_sem]) rfl ⟨rfl, HB1.out⟩
  · have h12i : ¬ (12 : Int) < N := by omega
    have hsh := short_any 20 ps (.slice a N cap) w1 (HPL.out.below HB1.out) (by omega) (by decide)
    have HSH := Lib.hid hsh
    clear hsh
    go_wp2_with fail
    refine HSH.out.mono ?_
    rintro e w2 ⟨rfl, hb2⟩
    have HB2 := Lib.hid (HB1.out.trans (hb2.mono HB1.out.size))
    clear hb2 HSH
    cases hall : ps.all (shortP 20) with
    | false =>
      go_wp2_with fail
      exact bodyPost_ret (v := .bool true) (by simp [results, Tryz.results7, go_sem]) rfl ⟨rfl, HB2.out⟩
    | true =>
      have hsz : ∀ p ∈ ps, p.1.size ≤ 20 ∧ p.2.size ≤ 20 := fun p hp => by
        have := List.all_eq_true.1 hall p hp
        unfold shortP at this; simpa using this
      by_cases hn0 : N = 0
      · subst hn0
        go_wp2_with fail
        exact bodyPost_ret (v := .bool true) (by simp [results, Tryz.results7, go_sem]) rfl ⟨rfl, HB2.out⟩
      · have hn0i : ¬ (N : Int) = 0 := by omega
        have hn0b : ((N : Int) == 0) = false := beq_eq_false_iff_ne.2 hn0i
        have h12b : decide ((12 : Int) < N) = false := decide_eq_false (by omega)
        have hshort : ∀ p ∈ ps, Short p := fun p hp => ⟨Nat.le_trans (hsz p hp).1 (by decide), Nat.le_trans (hsz p hp).2 (by decide)⟩
        have hcall := Share_any ps (.slice a N cap) w2 (HPL.out.below HB2.out) hshort (HT.out w2 HB2.out)
        have HC := Lib.hid hcall; have HSZ := Lib.hid hsz; have HSO := Lib.hid hshort
        clear hcall hsz hshort hall
        go_wp2_with fail
        refine HC.out.mono ?_
        rintro e w3 ⟨g0, g1, g2⟩
        have HB3 := Lib.hid (HB2.out.trans (g0.mono HB2.out.size)); have G1 := Lib.hid g1; have G2 := Lib.hid g2
        clear g0 g1 g2 HC
        by_cases hok : ∀ p ∈ ps, okP p = true
        · obtain ⟨s, hs1, hs2⟩ := whole_sum hok HSZ.out (by omega)
          by_cases hs0 : s.1 = 0
          · have hz := whole_zero hok (by omega) hs1 hs0
            obtain rfl := G2.out (by rw [hz]; decide)
            rw [hz]
            clear G1 G2 hz hs0 hs1 hs2 hok
            go_wp2_with fail
            exact bodyPost_ret (v := .bool true) (by simp [results, Tryz.results7, go_sem]) rfl ⟨rfl, HB3.out⟩
          · have hz := whole_ok hok HSZ.out (by omega) hs1 hs2 hs0
            obtain ⟨s', v', base, e1, e2, rfl, hrow⟩ := G1.out hz
            obtain rfl : s = s' := Option.some.inj (hs1.symm.trans e1)
            have hone := whole_one hok HSZ.out (by omega) hs1 hs2 hs0
            have hss := shares_sm hok HSZ.out hs2 hs0
            have hlen := shares_len ps s
            rw [hN] at hlen
            have hpl : PartL w3 v' (pts (shares ps s)) := partL_of_owns (by rw [hlen, ← hN]; exact hrow) (by omega)
            have hsum := Sum_any (pts (shares ps s)) v' w3 hpl (short_of_ok (pts_ok (by decide) hss)) (HT.out w3 HB3.out)
            rw [hone, show retV (ptOf (1, 1), 0) = .tuple #[.agg #[.string ⟨#[49]⟩, .string ⟨#[49]⟩], .int .i64 0] by kernel_rfl] at hsum
            have HSUM := Lib.hid hsum; have HP2 := Lib.hid hpl; have HMUL := Lib.hid (fun p hp q hq => whole_mul hok HSZ.out hs2 hs0 (p := p) (q := q) hp hq)
            have HOK := Lib.hid hok; have HSS := Lib.hid hss; have HLEN := Lib.hid hlen
            obtain ⟨a', cap', e3⟩ := hpl.shape
            rw [pts_len, hlen] at e3
            subst e3
            clear G1 G2 hz hs0 hs1 hs2 hok hone hss hlen hpl hsum hrow e1 e2
            go_wp2_with fail
            refine HSUM.out.mono ?_
            rintro e w4 ⟨rfl, hb4⟩
            have HB4 := Lib.hid (HB3.out.trans (hb4.mono HB3.out.size)); have HP4 := Lib.hid (HP2.out.below hb4)
            clear hb4 HSUM HP2
            go_wp2_with fail
            go_quiet (fail)
            -- GEN
            obtain ⟨W5, hW5⟩ : ∃ W, W = (w4.alloc (.cells #[.string ⟨#[49]⟩, .string ⟨#[49]⟩] 24)).drewN nq := ⟨_, rfl⟩
            rw [← hW5]
            have b45 : Below w4.heap.size w4 W5 := by rw [hW5]; exact below_drewN ((Below.refl _ _).alloc (Nat.le_refl _) _) nq
            have e5 : W5.heap[w4.heap.size]? = some (partO ⟨#[49]⟩ ⟨#[49]⟩) := by rw [hW5]; exact Go.Deep.blk_alloc_new _ _
            obtain ⟨x, hx⟩ : ∃ x, x = i % N := ⟨_, rfl⟩
            obtain ⟨y, hy⟩ : ∃ y, y = k % N := ⟨_, rfl⟩
            have hxn : x < N := by rw [hx]; exact Nat.mod_lt _ (by omega)
            have hyn : y < N := by rw [hy]; exact Nat.mod_lt _ (by omega)
            rw [show ((i : Int) % (N : Int)) = (x : Int) by rw [hx]; rfl, show ((k : Int) % (N : Int)) = (y : Int) by rw [hy]; rfl]
            have HB5 := Lib.hid (HB4.out.trans (b45.mono HB4.out.size))
            have hl : (pts (shares ps s)).length = N := by rw [pts_len]; exact HLEN.out
            obtain ⟨bs, os, e7, lts, cx0, cx1⟩ := partL_at (HP4.out.below b45) (i := x) (by rw [hl]; exact hxn)
            obtain ⟨bs', os', e8, -, cy0, cy1⟩ := partL_at (HP4.out.below b45) (i := y) (by rw [hl]; exact hyn)
            obtain ⟨bl, ol, e9, ltl, dx0, dx1⟩ := partL_at (HPL.out.below HB5.out) (i := x) (by rw [hN]; exact hxn)
            obtain ⟨bl', ol', e10, -, dy0, dy1⟩ := partL_at (HPL.out.below HB5.out) (i := y) (by rw [hN]; exact hyn)
            subst e7 e9; injection e8 with e8; injection e8 with e8 e8' _; subst e8 e8'; injection e10 with e10; injection e10 with e10 e10' _; subst e10 e10'
            have hsx : (pts (shares ps s))[x]'(by rw [hl]; exact hxn) = ptOf (divF (pv (ps[x]'(by rw [hN]; exact hxn))) s) := by simp [pts, shares]
            have hsy : (pts (shares ps s))[y]'(by rw [hl]; exact hyn) = ptOf (divF (pv (ps[y]'(by rw [hN]; exact hyn))) s) := by simp [pts, shares]
            have mx : ps[x]'(by rw [hN]; exact hxn) ∈ ps := List.getElem_mem _
            have my : ps[y]'(by rw [hN]; exact hyn) ∈ ps := List.getElem_mem _
            rw [hsx] at cx0 cx1; rw [hsy] at cy0 cy1
            generalize ps[x]'(by rw [hN]; exact hxn) = px at *
            generalize ps[y]'(by rw [hN]; exact hyn) = py at *
            obtain ⟨⟨r1, r2⟩, m1, m2⟩ := HMUL.out px mx py my
            have ox := HOK.out px mx; have oy := HOK.out py my
            obtain ⟨⟨u1, u2⟩, hu⟩ : ∃ u, u = ptOf (divF (pv px) s) := ⟨_, rfl⟩
            obtain ⟨⟨v1, v2⟩, hv⟩ : ∃ u, u = ptOf (divF (pv py) s) := ⟨_, rfl⟩
            rw [← hu] at cx0 cx1 m1; rw [← hv] at cy0 cy1 m2
            have ou : okP (u1, u2) = true := by rw [hu]; exact pts_ok (k := 273) (by decide) HSS.out _ (by rw [← hsx]; exact List.getElem_mem _)
            have ov : okP (v1, v2) = true := by rw [hv]; exact pts_ok (k := 273) (by decide) HSS.out _ (by rw [← hsy]; exact List.getElem_mem _)
            obtain ⟨x1, x2⟩ := px; obtain ⟨y1, y2⟩ := py
            have HT5 : ∀ W, Below W5.heap.size W5 W → Tens W := fun W hW => HT.out W (HB5.out.trans (hW.mono HB5.out.size))
            have Q1 := useMul HT5 m1 ou oy; have Q2 := useMul HT5 m2 ov ox
            have l5s : bs < W5.heap.size := lts; have l5l : bl < W5.heap.size := ltl
            have HS1 : Hid (∀ W', Below W5.heap.size W5 W' → W'.cell? ⟨bs, os + x * 2, none⟩ = some (.string u1) ∧ W'.cell? ⟨bs, os + x * 2 + 1, none⟩ = some (.string u2) ∧ W'.cell? ⟨bl, ol + y * 2, none⟩ = some (.string y1) ∧ W'.cell? ⟨bl, ol + y * 2 + 1, none⟩ = some (.string y2)) := Lib.hid fun W' h => ⟨cell_later h cx0, cell_later h cx1, cell_later h dy0, cell_later h dy1⟩
            have HS2 : Hid (∀ W', Below W5.heap.size W5 W' → W'.cell? ⟨bs, os + y * 2, none⟩ = some (.string v1) ∧ W'.cell? ⟨bs, os + y * 2 + 1, none⟩ = some (.string v2) ∧ W'.cell? ⟨bl, ol + x * 2, none⟩ = some (.string x1) ∧ W'.cell? ⟨bl, ol + x * 2 + 1, none⟩ = some (.string x2)) := Lib.hid fun W' h => ⟨cell_later h cy0, cell_later h cy1, cell_later h dx0, cell_later h dx1⟩
            have E5 := Lib.hid e5
            clear hW5 b45 e5 hx hy hl cx0 cx1 cy0 cy1 dx0 dx1 dy0 dy1 hsx hsy mx my m1 m2 ox oy hu hv ou ov HT5 lts ltl HMUL HSS HOK HSZ HSO HP4 HB4 HLEN
            have hx0 : (0 : Int) ≤ (x : Int) := by omega
            have hx1 : (x : Int) < (N : Int) := by omega
            have hy0 : (0 : Int) ≤ (y : Int) := by omega
            have hy1 : (y : Int) < (N : Int) := by omega
            have hxw : IntKind.i64.wrap (x : Int) = (x : Int) := IntWalk.i64_in _ (by omega)
            have hyw : IntKind.i64.wrap (y : Int) = (y : Int) := IntWalk.i64_in _ (by omega)
            go_upto_region 9 with fail
            go_cut [14, 15] (fun t u wx => ∃ nz, t = .pointer (some ⟨nz, 0, none⟩) ∧ u = .int .i64 0 ∧ Hid (wx.heap[nz]? = some (partO r1 r2) ∧ Below W5.heap.size W5 wx ∧ W5.heap.size ≤ nz))
            case first =>
              refine wp_region_held_drew (S := fun W' => W'.cell? ⟨bs, os + x * 2, none⟩ = some (.string u1) ∧ W'.cell? ⟨bs, os + x * 2 + 1, none⟩ = some (.string u2) ∧ W'.cell? ⟨bl, ol + y * 2, none⟩ = some (.string y1) ∧ W'.cell? ⟨bl, ol + y * 2 + 1, none⟩ = some (.string y2)) (by kernel_rfl) (HS1.out _ (Below.refl _ _).drew) (fun hHeld => ?_)
              refine takeH (i := 0) (n := 74) (v := .slice (some ⟨bs, os, none⟩) N cap') rfl rfl (by kernel_rfl) (by kernel_rfl) (by kernel_rfl) (fun _ _ _ h => h) (Or.inl ⟨by kernel_rfl, ?_⟩) (by assumption) ?_
              · intro w hSw; (try dsimp only at hSw); go_simp
              try simp only [Act.put, List.setIfInBounds_toArray, List.set_cons_zero, List.set_cons_succ]
              refine takeH (i := 1) (n := 75) (v := .int .i64 (x : Int)) rfl rfl (by kernel_rfl) (by kernel_rfl) (by kernel_rfl) (fun _ _ _ h => h) (Or.inl ⟨by kernel_rfl, ?_⟩) (by assumption) ?_
              · intro w hSw; (try dsimp only at hSw); go_simp
              try simp only [Act.put, List.setIfInBounds_toArray, List.set_cons_zero, List.set_cons_succ]
              refine takeH (i := 2) (n := 76) (v := .pointer (some ⟨bs, os + x * 2, none⟩)) rfl rfl (by kernel_rfl) (by kernel_rfl) (by kernel_rfl) (fun _ _ _ h => h) (Or.inl ⟨by kernel_rfl, ?_⟩) (by assumption) ?_
              · intro w hSw; (try dsimp only at hSw); go_simp
              try simp only [Act.put, List.setIfInBounds_toArray, List.set_cons_zero, List.set_cons_succ]
              refine takeH (i := 3) (n := 77) (v := .agg #[.string u1, .string u2]) rfl rfl (by kernel_rfl) (by kernel_rfl) (by kernel_rfl) (fun _ _ _ h => h) (Or.inl ⟨by kernel_rfl, ?_⟩) (by assumption) ?_
              · intro w hSw; (try dsimp only at hSw); go_simp
              try simp only [Act.put, List.setIfInBounds_toArray, List.set_cons_zero, List.set_cons_succ]
              refine takeH (i := 4) (n := 78) (v := .slice (some ⟨bl, ol, none⟩) N cap) rfl rfl (by kernel_rfl) (by kernel_rfl) (by kernel_rfl) (fun _ _ _ h => h) (Or.inl ⟨by kernel_rfl, ?_⟩) (by assumption) ?_
              · intro w hSw; (try dsimp only at hSw); go_simp
              try simp only [Act.put, List.setIfInBounds_toArray, List.set_cons_zero, List.set_cons_succ]
              refine takeH (i := 5) (n := 79) (v := .int .i64 (y : Int)) rfl rfl (by kernel_rfl) (by kernel_rfl) (by kernel_rfl) (fun _ _ _ h => h) (Or.inl ⟨by kernel_rfl, ?_⟩) (by assumption) ?_
              · intro w hSw; (try dsimp only at hSw); go_simp
              try simp only [Act.put, List.setIfInBounds_toArray, List.set_cons_zero, List.set_cons_succ]
              refine takeH (i := 6) (n := 80) (v := .pointer (some ⟨bl, ol + y * 2, none⟩)) rfl rfl (by kernel_rfl) (by kernel_rfl) (by kernel_rfl) (fun _ _ _ h => h) (Or.inl ⟨by kernel_rfl, ?_⟩) (by assumption) ?_
              · intro w hSw; (try dsimp only at hSw); go_simp
              try simp only [Act.put, List.setIfInBounds_toArray, List.set_cons_zero, List.set_cons_succ]
              refine takeH (i := 7) (n := 81) (v := .agg #[.string y1, .string y2]) rfl rfl (by kernel_rfl) (by kernel_rfl) (by kernel_rfl) (fun _ _ _ h => h) (Or.inl ⟨by kernel_rfl, ?_⟩) (by assumption) ?_
              · intro w hSw; (try dsimp only at hSw); go_simp
              try simp only [Act.put, List.setIfInBounds_toArray, List.set_cons_zero, List.set_cons_succ]
              refine wpAnyH_ready (rs := [8, 12]) (by kernel_rfl) (by simp) ?_
              refine AllReadyH.cons rfl (fun K hK => ?_) (AllReadyH.cons rfl (fun K hK => ?_) AllReadyH.nil)
              · try rw [if_pos (by kernel_rfl)]
                try go_simp
                go_at_call 24
                refine (Q1.out _ (Below.refl _ _).drew).mono ?_
                rintro e w6 ⟨rfl, hb⟩
                have hBn := below_chain (W := W5) (Below.refl _ _).drew hb
                refine hK.out _ _ (HS1.out _ hBn) (fun hHeld => ?_)
                clear hK K
                try simp only [Act.put, List.setIfInBounds_toArray, List.set_cons_zero, List.set_cons_succ]
                refine takeH (i := 9) (n := 73) (v := .tuple #[.agg #[.string r1, .string r2], .int .i64 0]) rfl rfl (by kernel_rfl) (by kernel_rfl) (by kernel_rfl) (fun _ _ _ h => h) (Or.inl ⟨by kernel_rfl, ?_⟩) (by assumption) ?_
                · intro w hSw; (try dsimp only at hSw); go_simp
                try simp only [Act.put, List.setIfInBounds_toArray, List.set_cons_zero, List.set_cons_succ]
                refine takeH (i := 10) (n := 83) (v := .agg #[.string r1, .string r2]) rfl rfl (by kernel_rfl) (by kernel_rfl) (by kernel_rfl) (fun _ _ _ h => h) (Or.inl ⟨by kernel_rfl, ?_⟩) (by assumption) ?_
                · intro w hSw; (try dsimp only at hSw); go_simp
                try simp only [Act.put, List.setIfInBounds_toArray, List.set_cons_zero, List.set_cons_succ]
                refine takeH (i := 11) (n := 84) (v := .int .i64 0) rfl rfl (by kernel_rfl) (by kernel_rfl) (by kernel_rfl) (fun _ _ _ h => h) (Or.inl ⟨by kernel_rfl, ?_⟩) (by assumption) ?_
                · intro w hSw; (try dsimp only at hSw); go_simp
                try simp only [Act.put, List.setIfInBounds_toArray, List.set_cons_zero, List.set_cons_succ]
                refine wpAnyH_ready (rs := [12]) (by kernel_rfl) (by simp) ?_
                refine AllReadyH.cons rfl (fun K hK => ?_) AllReadyH.nil
                try rw [if_pos (by kernel_rfl)]
                try go_simp
                refine hK.out _ _ (HS1.out _ (hBn.alloc hBn.size _)) (fun hHeld => ?_)
                clear hK K
                try simp only [Act.put, List.setIfInBounds_toArray, List.set_cons_zero, List.set_cons_succ]
                refine wpAnyH_ready (rs := [13]) (by kernel_rfl) (by simp) ?_
                refine AllReadyH.cons rfl (fun K hK => ?_) AllReadyH.nil
                try rw [if_pos (by kernel_rfl)]
                try go_simp
                refine hK.out _ _ (HS1.out _ (hBn.alloc hBn.size _)) (fun hHeld => ?_)
                clear hK K
                try simp only [Act.put, List.setIfInBounds_toArray, List.set_cons_zero, List.set_cons_succ]
                refine takeH (i := 14) (n := 15) (v := .int .i64 0) rfl rfl (by kernel_rfl) (by kernel_rfl) (by kernel_rfl) (fun _ _ _ h => h) (Or.inl ⟨by kernel_rfl, ?_⟩) (by assumption) ?_
                · intro w hSw; (try dsimp only at hSw); go_simp
                try simp only [Act.put, List.setIfInBounds_toArray, List.set_cons_zero, List.set_cons_succ]
                refine wpAnyH_done (by kernel_rfl) ?_ _
                go_wp2_with fail
                go_meet
                case rel => exact ⟨w6.heap.size, rfl, rfl, Lib.hid ⟨Go.Deep.blk_alloc_new _ _, hBn.alloc hBn.size _, hBn.size⟩⟩
              · try rw [if_pos (by kernel_rfl)]
                try go_simp
                refine hK.out _ _ (HS1.out _ ((Below.refl _ _).drew.alloc (Nat.le_refl _) _)) (fun hHeld => ?_)
                clear hK K
                try simp only [Act.put, List.setIfInBounds_toArray, List.set_cons_zero, List.set_cons_succ]
                refine wpAnyH_ready (rs := [8]) (by kernel_rfl) (by simp) ?_
                refine AllReadyH.cons rfl (fun K hK => ?_) AllReadyH.nil
                try rw [if_pos (by kernel_rfl)]
                try go_simp
                go_at_call 24
                refine (Q1.out _ ((Below.refl _ _).drew.alloc (Nat.le_refl _) _)).mono ?_
                rintro e w6 ⟨rfl, hb⟩
                have hBn := below_chain (W := W5) ((Below.refl _ _).drew.alloc (Nat.le_refl _) _) hb
                refine hK.out _ _ (HS1.out _ hBn) (fun hHeld => ?_)
                clear hK K
                try simp only [Act.put, List.setIfInBounds_toArray, List.set_cons_zero, List.set_cons_succ]
                refine takeH (i := 9) (n := 73) (v := .tuple #[.agg #[.string r1, .string r2], .int .i64 0]) rfl rfl (by kernel_rfl) (by kernel_rfl) (by kernel_rfl) (fun _ _ _ h => h) (Or.inl ⟨by kernel_rfl, ?_⟩) (by assumption) ?_
                · intro w hSw; (try dsimp only at hSw); go_simp
                try simp only [Act.put, List.setIfInBounds_toArray, List.set_cons_zero, List.set_cons_succ]
                refine takeH (i := 10) (n := 83) (v := .agg #[.string r1, .string r2]) rfl rfl (by kernel_rfl) (by kernel_rfl) (by kernel_rfl) (fun _ _ _ h => h) (Or.inl ⟨by kernel_rfl, ?_⟩) (by assumption) ?_
                · intro w hSw; (try dsimp only at hSw); go_simp
                try simp only [Act.put, List.setIfInBounds_toArray, List.set_cons_zero, List.set_cons_succ]
                refine takeH (i := 11) (n := 84) (v := .int .i64 0) rfl rfl (by kernel_rfl) (by kernel_rfl) (by kernel_rfl) (fun _ _ _ h => h) (Or.inl ⟨by kernel_rfl, ?_⟩) (by assumption) ?_
                · intro w hSw; (try dsimp only at hSw); go_simp
                try simp only [Act.put, List.setIfInBounds_toArray, List.set_cons_zero, List.set_cons_succ]
                have r6 := (hb.block W5.heap.size (by rw [World.size_alloc]; exact Nat.lt_succ_self _)).trans (Go.Deep.blk_alloc_new W5.drew (.cells #[.string ⟨#[]⟩, .string ⟨#[]⟩] 24))
                have q0 := set_cells r6 0; have q1 := set_cells r6 1
                simp only [List.getElem?_toArray, List.getElem?_cons_zero, List.getElem?_cons_succ] at q0 q1
                have f0 : w6.frozen? ⟨W5.heap.size, 0, none⟩ = false := by simp [World.frozen?, r6]
                have f1 : w6.frozen? ⟨W5.heap.size, 1, none⟩ = false := by simp [World.frozen?, r6]
                refine wpAnyH_ready (rs := [13]) (by kernel_rfl) (by simp) ?_
                refine AllReadyH.cons rfl (fun K hK => ?_) AllReadyH.nil
                try rw [if_pos (by kernel_rfl)]
                try go_simp
                refine hK.out _ _ (HS1.out _ ((hBn.setCell (p := ⟨W5.heap.size, 0, none⟩) (Nat.le_refl _) (.string r1)).setCell (p := ⟨W5.heap.size, 1, none⟩) (Nat.le_refl _) (.string r2))) (fun hHeld => ?_)
                clear hK K
                try simp only [Act.put, List.setIfInBounds_toArray, List.set_cons_zero, List.set_cons_succ]
                refine takeH (i := 14) (n := 15) (v := .int .i64 0) rfl rfl (by kernel_rfl) (by kernel_rfl) (by kernel_rfl) (fun _ _ _ h => h) (Or.inl ⟨by kernel_rfl, ?_⟩) (by assumption) ?_
                · intro w hSw; (try dsimp only at hSw); go_simp
                try simp only [Act.put, List.setIfInBounds_toArray, List.set_cons_zero, List.set_cons_succ]
                refine wpAnyH_done (by kernel_rfl) ?_ _
                go_wp2_with fail
                go_meet
                have g0 := heap_setCell_same w6 W5.heap.size 0 _ _ (.string r1) r6
                have g1 := heap_setCell_same _ W5.heap.size 1 _ _ (.string r2) g0
                simp only [List.setIfInBounds_toArray, List.set_cons_zero, List.set_cons_succ] at g1
                case rel => exact ⟨W5.heap.size, rfl, rfl, Lib.hid ⟨g1, ((hBn.setCell (p := ⟨W5.heap.size, 0, none⟩) (Nat.le_refl _) (.string r1)).setCell (p := ⟨W5.heap.size, 1, none⟩) (Nat.le_refl _) (.string r2)), Nat.le_refl _⟩⟩
            case rest =>
              obtain ⟨n14, rfl, rfl, HZ⟩ := hcut
              obtain ⟨W6, hW6⟩ : ∃ W, W = wc := ⟨_, rfl⟩
              rw [← hW6] at HZ ⊢
              have hz := HZ.out.2.1
              have Q2' : Hid (∀ W, Below W6.heap.size W6 W → Calls Tryz.prog 24 #[.agg #[.string v1, .string v2], .agg #[.string x1, .string x2]] W fun e w' => e = .returned (.tuple #[.agg #[.string r1, .string r2], .int .i64 0]) ∧ Below W.heap.size W w') := Lib.hid fun W hW => Q2.out W (hz.trans (hW.mono hz.size))
              have HS2' : Hid (∀ W', Below W6.heap.size W6 W' → W'.cell? ⟨bs, os + y * 2, none⟩ = some (.string v1) ∧ W'.cell? ⟨bs, os + y * 2 + 1, none⟩ = some (.string v2) ∧ W'.cell? ⟨bl, ol + x * 2, none⟩ = some (.string x1) ∧ W'.cell? ⟨bl, ol + x * 2 + 1, none⟩ = some (.string x2)) := Lib.hid fun W' h => HS2.out W' (hz.trans (h.mono hz.size))
              have HB6 := Lib.hid (HB5.out.trans (hz.mono HB5.out.size))
              have E6 := Lib.hid (part_on E5.out hz); have F6 := Lib.hid HZ.out.1
              have l6s : bs < W6.heap.size := Nat.lt_of_lt_of_le l5s hz.size
              have l6l : bl < W6.heap.size := Nat.lt_of_lt_of_le l5l hz.size
              clear hW6 hz HZ Q1 Q2 HS1 HS2 HB5 E5 l5s l5l
              go_upto_region 10 with fail
              go_cut [16, 17] (fun t u wx => ∃ nz, t = .pointer (some ⟨nz, 0, none⟩) ∧ u = .int .i64 0 ∧ Hid (wx.heap[nz]? = some (partO r1 r2) ∧ Below W6.heap.size W6 wx ∧ W6.heap.size ≤ nz))
              case first =>
                refine wp_region_held_drew (S := fun W' => W'.cell? ⟨bs, os + y * 2, none⟩ = some (.string v1) ∧ W'.cell? ⟨bs, os + y * 2 + 1, none⟩ = some (.string v2) ∧ W'.cell? ⟨bl, ol + x * 2, none⟩ = some (.string x1) ∧ W'.cell? ⟨bl, ol + x * 2 + 1, none⟩ = some (.string x2)) (by kernel_rfl) (HS2'.out _ (Below.refl _ _).drew) (fun hHeld => ?_)
                refine takeH (i := 0) (n := 86) (v := .slice (some ⟨bs, os, none⟩) N cap') rfl rfl (by kernel_rfl) (by kernel_rfl) (by kernel_rfl) (fun _ _ _ h => h) (Or.inl ⟨by kernel_rfl, ?_⟩) (by assumption) ?_
                · intro w hSw; (try dsimp only at hSw); go_simp
                try simp only [Act.put, List.setIfInBounds_toArray, List.set_cons_zero, List.set_cons_succ]
                refine takeH (i := 1) (n := 87) (v := .int .i64 (y : Int)) rfl rfl (by kernel_rfl) (by kernel_rfl) (by kernel_rfl) (fun _ _ _ h => h) (Or.inl ⟨by kernel_rfl, ?_⟩) (by assumption) ?_
                · intro w hSw; (try dsimp only at hSw); go_simp
                try simp only [Act.put, List.setIfInBounds_toArray, List.set_cons_zero, List.set_cons_succ]
                refine takeH (i := 2) (n := 88) (v := .pointer (some ⟨bs, os + y * 2, none⟩)) rfl rfl (by kernel_rfl) (by kernel_rfl) (by kernel_rfl) (fun _ _ _ h => h) (Or.inl ⟨by kernel_rfl, ?_⟩) (by assumption) ?_
                · intro w hSw; (try dsimp only at hSw); go_simp
                try simp only [Act.put, List.setIfInBounds_toArray, List.set_cons_zero, List.set_cons_succ]
                refine takeH (i := 3) (n := 89) (v := .agg #[.string v1, .string v2]) rfl rfl (by kernel_rfl) (by kernel_rfl) (by kernel_rfl) (fun _ _ _ h => h) (Or.inl ⟨by kernel_rfl, ?_⟩) (by assumption) ?_
                · intro w hSw; (try dsimp only at hSw); go_simp
                try simp only [Act.put, List.setIfInBounds_toArray, List.set_cons_zero, List.set_cons_succ]
                refine takeH (i := 4) (n := 90) (v := .slice (some ⟨bl, ol, none⟩) N cap) rfl rfl (by kernel_rfl) (by kernel_rfl) (by kernel_rfl) (fun _ _ _ h => h) (Or.inl ⟨by kernel_rfl, ?_⟩) (by assumption) ?_
                · intro w hSw; (try dsimp only at hSw); go_simp
                try simp only [Act.put, List.setIfInBounds_toArray, List.set_cons_zero, List.set_cons_succ]
                refine takeH (i := 5) (n := 91) (v := .int .i64 (x : Int)) rfl rfl (by kernel_rfl) (by kernel_rfl) (by kernel_rfl) (fun _ _ _ h => h) (Or.inl ⟨by kernel_rfl, ?_⟩) (by assumption) ?_
                · intro w hSw; (try dsimp only at hSw); go_simp
                try simp only [Act.put, List.setIfInBounds_toArray, List.set_cons_zero, List.set_cons_succ]
                refine takeH (i := 6) (n := 92) (v := .pointer (some ⟨bl, ol + x * 2, none⟩)) rfl rfl (by kernel_rfl) (by kernel_rfl) (by kernel_rfl) (fun _ _ _ h => h) (Or.inl ⟨by kernel_rfl, ?_⟩) (by assumption) ?_
                · intro w hSw; (try dsimp only at hSw); go_simp
                try simp only [Act.put, List.setIfInBounds_toArray, List.set_cons_zero, List.set_cons_succ]
                refine takeH (i := 7) (n := 93) (v := .agg #[.string x1, .string x2]) rfl rfl (by kernel_rfl) (by kernel_rfl) (by kernel_rfl) (fun _ _ _ h => h) (Or.inl ⟨by kernel_rfl, ?_⟩) (by assumption) ?_
                · intro w hSw; (try dsimp only at hSw); go_simp
                try simp only [Act.put, List.setIfInBounds_toArray, List.set_cons_zero, List.set_cons_succ]
                refine wpAnyH_ready (rs := [8, 12]) (by kernel_rfl) (by simp) ?_
                refine AllReadyH.cons rfl (fun K hK => ?_) (AllReadyH.cons rfl (fun K hK => ?_) AllReadyH.nil)
                · try rw [if_pos (by kernel_rfl)]
                  try go_simp
                  go_at_call 24
                  refine (Q2'.out _ (Below.refl _ _).drew).mono ?_
                  rintro e w6 ⟨rfl, hb⟩
                  have hBn := below_chain (W := W6) (Below.refl _ _).drew hb
                  refine hK.out _ _ (HS2'.out _ hBn) (fun hHeld => ?_)
                  clear hK K
                  try simp only [Act.put, List.setIfInBounds_toArray, List.set_cons_zero, List.set_cons_succ]
                  refine takeH (i := 9) (n := 85) (v := .tuple #[.agg #[.string r1, .string r2], .int .i64 0]) rfl rfl (by kernel_rfl) (by kernel_rfl) (by kernel_rfl) (fun _ _ _ h => h) (Or.inl ⟨by kernel_rfl, ?_⟩) (by assumption) ?_
                  · intro w hSw; (try dsimp only at hSw); go_simp
                  try simp only [Act.put, List.setIfInBounds_toArray, List.set_cons_zero, List.set_cons_succ]
                  refine takeH (i := 10) (n := 95) (v := .agg #[.string r1, .string r2]) rfl rfl (by kernel_rfl) (by kernel_rfl) (by kernel_rfl) (fun _ _ _ h => h) (Or.inl ⟨by kernel_rfl, ?_⟩) (by assumption) ?_
                  · intro w hSw; (try dsimp only at hSw); go_simp
                  try simp only [Act.put, List.setIfInBounds_toArray, List.set_cons_zero, List.set_cons_succ]
                  refine takeH (i := 11) (n := 96) (v := .int .i64 0) rfl rfl (by kernel_rfl) (by kernel_rfl) (by kernel_rfl) (fun _ _ _ h => h) (Or.inl ⟨by kernel_rfl, ?_⟩) (by assumption) ?_
                  · intro w hSw; (try dsimp only at hSw); go_simp
                  try simp only [Act.put, List.setIfInBounds_toArray, List.set_cons_zero, List.set_cons_succ]
                  refine wpAnyH_ready (rs := [12]) (by kernel_rfl) (by simp) ?_
                  refine AllReadyH.cons rfl (fun K hK => ?_) AllReadyH.nil
                  try rw [if_pos (by kernel_rfl)]
                  try go_simp
                  refine hK.out _ _ (HS2'.out _ (hBn.alloc hBn.size _)) (fun hHeld => ?_)
                  clear hK K
                  try simp only [Act.put, List.setIfInBounds_toArray, List.set_cons_zero, List.set_cons_succ]
                  refine wpAnyH_ready (rs := [13]) (by kernel_rfl) (by simp) ?_
                  refine AllReadyH.cons rfl (fun K hK => ?_) AllReadyH.nil
                  try rw [if_pos (by kernel_rfl)]
                  try go_simp
                  refine hK.out _ _ (HS2'.out _ (hBn.alloc hBn.size _)) (fun hHeld => ?_)
                  clear hK K
                  try simp only [Act.put, List.setIfInBounds_toArray, List.set_cons_zero, List.set_cons_succ]
                  refine takeH (i := 14) (n := 17) (v := .int .i64 0) rfl rfl (by kernel_rfl) (by kernel_rfl) (by kernel_rfl) (fun _ _ _ h => h) (Or.inl ⟨by kernel_rfl, ?_⟩) (by assumption) ?_
                  · intro w hSw; (try dsimp only at hSw); go_simp
                  try simp only [Act.put, List.setIfInBounds_toArray, List.set_cons_zero, List.set_cons_succ]
                  refine wpAnyH_done (by kernel_rfl) ?_ _
                  go_wp2_with fail
                  go_meet
                  case rel => exact ⟨w6.heap.size, rfl, rfl, Lib.hid ⟨Go.Deep.blk_alloc_new _ _, hBn.alloc hBn.size _, hBn.size⟩⟩
                · try rw [if_pos (by kernel_rfl)]
                  try go_simp
                  refine hK.out _ _ (HS2'.out _ ((Below.refl _ _).drew.alloc (Nat.le_refl _) _)) (fun hHeld => ?_)
                  clear hK K
                  try simp only [Act.put, List.setIfInBounds_toArray, List.set_cons_zero, List.set_cons_succ]
                  refine wpAnyH_ready (rs := [8]) (by kernel_rfl) (by simp) ?_
                  refine AllReadyH.cons rfl (fun K hK => ?_) AllReadyH.nil
                  try rw [if_pos (by kernel_rfl)]
                  try go_simp
                  go_at_call 24
                  refine (Q2'.out _ ((Below.refl _ _).drew.alloc (Nat.le_refl _) _)).mono ?_
                  rintro e w6 ⟨rfl, hb⟩
                  have hBn := below_chain (W := W6) ((Below.refl _ _).drew.alloc (Nat.le_refl _) _) hb
                  refine hK.out _ _ (HS2'.out _ hBn) (fun hHeld => ?_)
                  clear hK K
                  try simp only [Act.put, List.setIfInBounds_toArray, List.set_cons_zero, List.set_cons_succ]
                  refine takeH (i := 9) (n := 85) (v := .tuple #[.agg #[.string r1, .string r2], .int .i64 0]) rfl rfl (by kernel_rfl) (by kernel_rfl) (by kernel_rfl) (fun _ _ _ h => h) (Or.inl ⟨by kernel_rfl, ?_⟩) (by assumption) ?_
                  · intro w hSw; (try dsimp only at hSw); go_simp
                  try simp only [Act.put, List.setIfInBounds_toArray, List.set_cons_zero, List.set_cons_succ]
                  refine takeH (i := 10) (n := 95) (v := .agg #[.string r1, .string r2]) rfl rfl (by kernel_rfl) (by kernel_rfl) (by kernel_rfl) (fun _ _ _ h => h) (Or.inl ⟨by kernel_rfl, ?_⟩) (by assumption) ?_
                  · intro w hSw; (try dsimp only at hSw); go_simp
                  try simp only [Act.put, List.setIfInBounds_toArray, List.set_cons_zero, List.set_cons_succ]
                  refine takeH (i := 11) (n := 96) (v := .int .i64 0) rfl rfl (by kernel_rfl) (by kernel_rfl) (by kernel_rfl) (fun _ _ _ h => h) (Or.inl ⟨by kernel_rfl, ?_⟩) (by assumption) ?_
                  · intro w hSw; (try dsimp only at hSw); go_simp
                  try simp only [Act.put, List.setIfInBounds_toArray, List.set_cons_zero, List.set_cons_succ]
                  have r6 := (hb.block W6.heap.size (by rw [World.size_alloc]; exact Nat.lt_succ_self _)).trans (Go.Deep.blk_alloc_new W6.drew (.cells #[.string ⟨#[]⟩, .string ⟨#[]⟩] 24))
                  have q0 := set_cells r6 0; have q1 := set_cells r6 1
                  simp only [List.getElem?_toArray, List.getElem?_cons_zero, List.getElem?_cons_succ] at q0 q1
                  have f0 : w6.frozen? ⟨W6.heap.size, 0, none⟩ = false := by simp [World.frozen?, r6]
                  have f1 : w6.frozen? ⟨W6.heap.size, 1, none⟩ = false := by simp [World.frozen?, r6]
                  refine wpAnyH_ready (rs := [13]) (by kernel_rfl) (by simp) ?_
                  refine AllReadyH.cons rfl (fun K hK => ?_) AllReadyH.nil
                  try rw [if_pos (by kernel_rfl)]
                  try go_simp
                  refine hK.out _ _ (HS2'.out _ ((hBn.setCell (p := ⟨W6.heap.size, 0, none⟩) (Nat.le_refl _) (.string r1)).setCell (p := ⟨W6.heap.size, 1, none⟩) (Nat.le_refl _) (.string r2))) (fun hHeld => ?_)
                  clear hK K
                  try simp only [Act.put, List.setIfInBounds_toArray, List.set_cons_zero, List.set_cons_succ]
                  refine takeH (i := 14) (n := 17) (v := .int .i64 0) rfl rfl (by kernel_rfl) (by kernel_rfl) (by kernel_rfl) (fun _ _ _ h => h) (Or.inl ⟨by kernel_rfl, ?_⟩) (by assumption) ?_
                  · intro w hSw; (try dsimp only at hSw); go_simp
                  try simp only [Act.put, List.setIfInBounds_toArray, List.set_cons_zero, List.set_cons_succ]
                  refine wpAnyH_done (by kernel_rfl) ?_ _
                  go_wp2_with fail
                  go_meet
                  have g0 := heap_setCell_same w6 W6.heap.size 0 _ _ (.string r1) r6
                  have g1 := heap_setCell_same _ W6.heap.size 1 _ _ (.string r2) g0
                  simp only [List.setIfInBounds_toArray, List.set_cons_zero, List.set_cons_succ] at g1
                  case rel => exact ⟨W6.heap.size, rfl, rfl, Lib.hid ⟨g1, ((hBn.setCell (p := ⟨W6.heap.size, 0, none⟩) (Nat.le_refl _) (.string r1)).setCell (p := ⟨W6.heap.size, 1, none⟩) (Nat.le_refl _) (.string r2)), Nat.le_refl _⟩⟩
              case rest =>
                obtain ⟨n16, rfl, rfl, HZ⟩ := hcut
                obtain ⟨W7, hW7⟩ : ∃ W, W = wc := ⟨_, rfl⟩
                rw [← hW7] at HZ ⊢
                have hz := HZ.out.2.1
                have HB7 := Lib.hid (HB6.out.trans (hz.mono HB6.out.size))
                have e7 := part_on E6.out hz; have f7 := part_on F6.out hz; have g7 := HZ.out.1
                obtain ⟨ye0, ye1, ye2⟩ := part_at e7; obtain ⟨yf0, yf1, yf2⟩ := part_at f7; obtain ⟨yg0, yg1, yg2⟩ := part_at g7
                have HS3 : Hid (∀ W', Below W7.heap.size W7 W' → W'.cell? ⟨w4.heap.size, 0, none⟩ = some (.string ⟨#[49]⟩) ∧ W'.cell? ⟨w4.heap.size, 1, none⟩ = some (.string ⟨#[49]⟩) ∧ W'.cell? ⟨n14, 0, none⟩ = some (.string r1) ∧ W'.cell? ⟨n14, 1, none⟩ = some (.string r2) ∧ W'.cell? ⟨n16, 0, none⟩ = some (.string r1) ∧ W'.cell? ⟨n16, 1, none⟩ = some (.string r2)) := Lib.hid fun W' h => ⟨cell_later h ye0, cell_later h ye1, cell_later h yf0, cell_later h yf1, cell_later h yg0, cell_later h yg1⟩
                have O11 : Hid (∀ W, Below W7.heap.size W7 W → Calls Tryz.prog 12 #[.int .i64 1, .int .i64 1] W fun e w' => e = .returned (.agg #[.string ⟨#[49]⟩, .string ⟨#[49]⟩]) ∧ Below W.heap.size W w') := Lib.hid fun W hW => of_any 1 1 (⟨#[49]⟩, ⟨#[49]⟩) W (by decide) (by decide) (by rw [show ratioS 1 1 = ((⟨#[49]⟩, ⟨#[49]⟩), 0) by kernel_rfl]) (HT.out W (HB7.out.trans (hW.mono HB7.out.size)))
                clear hW7 hz HZ Q2' HS2' HB6 E6 F6 l6s l6l e7 f7 g7 ye0 ye1 ye2 yf0 yf1 yf2 yg0 yg1 yg2
                go_upto_region 11 with fail
                refine wp_region_held_drew (S := fun W' => W'.cell? ⟨w4.heap.size, 0, none⟩ = some (.string ⟨#[49]⟩) ∧ W'.cell? ⟨w4.heap.size, 1, none⟩ = some (.string ⟨#[49]⟩) ∧ W'.cell? ⟨n14, 0, none⟩ = some (.string r1) ∧ W'.cell? ⟨n14, 1, none⟩ = some (.string r2) ∧ W'.cell? ⟨n16, 0, none⟩ = some (.string r1) ∧ W'.cell? ⟨n16, 1, none⟩ = some (.string r2)) (by kernel_rfl) (HS3.out _ (Below.refl _ _).drew) (fun hHeld => ?_)
                refine takeH (i := 0) (n := 97) (v := .bool true) rfl rfl (by kernel_rfl) (by kernel_rfl) (by kernel_rfl) (fun _ _ _ h => h) (Or.inl ⟨by kernel_rfl, ?_⟩) (by assumption) ?_
                · intro w hSw; (try dsimp only at hSw); go_simp
                try simp only [Act.put, List.setIfInBounds_toArray, List.set_cons_zero, List.set_cons_succ]
                refine takeH (i := 1) (n := 98) (v := .bool true) rfl rfl (by kernel_rfl) (by kernel_rfl) (by kernel_rfl) (fun _ _ _ h => h) (Or.inl ⟨by kernel_rfl, ?_⟩) (by assumption) ?_
                · intro w hSw; (try dsimp only at hSw); go_simp
                try simp only [Act.put, List.setIfInBounds_toArray, List.set_cons_zero, List.set_cons_succ]
                refine takeH (i := 2) (n := 99) (v := .int .i64 0) rfl rfl (by kernel_rfl) (by kernel_rfl) (by kernel_rfl) (fun _ _ _ h => h) (Or.inl ⟨by kernel_rfl, ?_⟩) (by assumption) ?_
                · intro w hSw; (try dsimp only at hSw); go_simp
                try simp only [Act.put, List.setIfInBounds_toArray, List.set_cons_zero, List.set_cons_succ]
                refine takeH (i := 3) (n := 100) (v := .bool true) rfl rfl (by kernel_rfl) (by kernel_rfl) (by kernel_rfl) (fun _ _ _ h => h) (Or.inl ⟨by kernel_rfl, ?_⟩) (by assumption) ?_
                · intro w hSw; (try dsimp only at hSw); go_simp
                try simp only [Act.put, List.setIfInBounds_toArray, List.set_cons_zero, List.set_cons_succ]
                refine takeH (i := 4) (n := 101) (v := .bool true) rfl rfl (by kernel_rfl) (by kernel_rfl) (by kernel_rfl) (fun _ _ _ h => h) (Or.inl ⟨by kernel_rfl, ?_⟩) (by assumption) ?_
                · intro w hSw; (try dsimp only at hSw); go_simp
                try simp only [Act.put, List.setIfInBounds_toArray, List.set_cons_zero, List.set_cons_succ]
                refine takeH (i := 5) (n := 102) (v := .bool true) rfl rfl (by kernel_rfl) (by kernel_rfl) (by kernel_rfl) (fun _ _ _ h => h) (Or.inl ⟨by kernel_rfl, ?_⟩) (by assumption) ?_
                · intro w hSw; (try dsimp only at hSw); go_simp
                try simp only [Act.put, List.setIfInBounds_toArray, List.set_cons_zero, List.set_cons_succ]
                refine takeH (i := 6) (n := 103) (v := .agg #[.string ⟨#[49]⟩, .string ⟨#[49]⟩]) rfl rfl (by kernel_rfl) (by kernel_rfl) (by kernel_rfl) (fun _ _ _ h => h) (Or.inl ⟨by kernel_rfl, ?_⟩) (by assumption) ?_
                · intro w hSw; (try dsimp only at hSw); go_simp
                try simp only [Act.put, List.setIfInBounds_toArray, List.set_cons_zero, List.set_cons_succ]
                refine wpAnyH_ready (rs := [7]) (by kernel_rfl) (by simp) ?_
                refine AllReadyH.cons rfl (fun K hK => ?_) AllReadyH.nil
                try rw [if_pos (by kernel_rfl)]
                try go_simp
                go_at_call 12
                refine (O11.out _ (Below.refl _ _).drew).mono ?_
                rintro e w8 ⟨rfl, hb⟩
                have hBn := below_chain (W := W7) (Below.refl _ _).drew hb
                refine hK.out _ _ (HS3.out _ hBn) (fun hHeld => ?_)
                clear hK K
                try simp only [Act.put, List.setIfInBounds_toArray, List.set_cons_zero, List.set_cons_succ]
                refine takeH (i := 8) (n := 105) (v := .bool true) rfl rfl (by kernel_rfl) (by kernel_rfl) (by kernel_rfl) (fun _ _ _ h => h) (Or.inl ⟨by kernel_rfl, ?_⟩) (by assumption) ?_
                · intro w hSw; (try dsimp only at hSw); go_simp
                try simp only [Act.put, List.setIfInBounds_toArray, List.set_cons_zero, List.set_cons_succ]
                refine takeH (i := 9) (n := 106) (v := .bool true) rfl rfl (by kernel_rfl) (by kernel_rfl) (by kernel_rfl) (fun _ _ _ h => h) (Or.inl ⟨by kernel_rfl, ?_⟩) (by assumption) ?_
                · intro w hSw; (try dsimp only at hSw); go_simp
                try simp only [Act.put, List.setIfInBounds_toArray, List.set_cons_zero, List.set_cons_succ]
                refine takeH (i := 10) (n := 107) (v := .bool true) rfl rfl (by kernel_rfl) (by kernel_rfl) (by kernel_rfl) (fun _ _ _ h => h) (Or.inl ⟨by kernel_rfl, ?_⟩) (by assumption) ?_
                · intro w hSw; (try dsimp only at hSw); go_simp
                try simp only [Act.put, List.setIfInBounds_toArray, List.set_cons_zero, List.set_cons_succ]
                refine takeH (i := 11) (n := 108) (v := .int .i64 0) rfl rfl (by kernel_rfl) (by kernel_rfl) (by kernel_rfl) (fun _ _ _ h => h) (Or.inl ⟨by kernel_rfl, ?_⟩) (by assumption) ?_
                · intro w hSw; (try dsimp only at hSw); go_simp
                try simp only [Act.put, List.setIfInBounds_toArray, List.set_cons_zero, List.set_cons_succ]
                refine takeH (i := 12) (n := 109) (v := .bool true) rfl rfl (by kernel_rfl) (by kernel_rfl) (by kernel_rfl) (fun _ _ _ h => h) (Or.inl ⟨by kernel_rfl, ?_⟩) (by assumption) ?_
                · intro w hSw; (try dsimp only at hSw); go_simp
                try simp only [Act.put, List.setIfInBounds_toArray, List.set_cons_zero, List.set_cons_succ]
                refine takeH (i := 13) (n := 110) (v := .bool true) rfl rfl (by kernel_rfl) (by kernel_rfl) (by kernel_rfl) (fun _ _ _ h => h) (Or.inl ⟨by kernel_rfl, ?_⟩) (by assumption) ?_
                · intro w hSw; (try dsimp only at hSw); go_simp
                try simp only [Act.put, List.setIfInBounds_toArray, List.set_cons_zero, List.set_cons_succ]
                refine takeH (i := 14) (n := 111) (v := .bool true) rfl rfl (by kernel_rfl) (by kernel_rfl) (by kernel_rfl) (fun _ _ _ h => h) (Or.inl ⟨by kernel_rfl, ?_⟩) (by assumption) ?_
                · intro w hSw; (try dsimp only at hSw); go_simp
                try simp only [Act.put, List.setIfInBounds_toArray, List.set_cons_zero, List.set_cons_succ]
                refine takeH (i := 15) (n := 112) (v := .int .i64 0) rfl rfl (by kernel_rfl) (by kernel_rfl) (by kernel_rfl) (fun _ _ _ h => h) (Or.inl ⟨by kernel_rfl, ?_⟩) (by assumption) ?_
                · intro w hSw; (try dsimp only at hSw); go_simp
                try simp only [Act.put, List.setIfInBounds_toArray, List.set_cons_zero, List.set_cons_succ]
                refine takeH (i := 16) (n := 113) (v := .bool true) rfl rfl (by kernel_rfl) (by kernel_rfl) (by kernel_rfl) (fun _ _ _ h => h) (Or.inl ⟨by kernel_rfl, ?_⟩) (by assumption) ?_
                · intro w hSw; (try dsimp only at hSw); go_simp
                try simp only [Act.put, List.setIfInBounds_toArray, List.set_cons_zero, List.set_cons_succ]
                refine takeH (i := 17) (n := 114) (v := .bool true) rfl rfl (by kernel_rfl) (by kernel_rfl) (by kernel_rfl) (fun _ _ _ h => h) (Or.inl ⟨by kernel_rfl, ?_⟩) (by assumption) ?_
                · intro w hSw; (try dsimp only at hSw); go_simp
                try simp only [Act.put, List.setIfInBounds_toArray, List.set_cons_zero, List.set_cons_succ]
                refine takeH (i := 18) (n := 115) (v := .bool true) rfl rfl (by kernel_rfl) (by kernel_rfl) (by kernel_rfl) (fun _ _ _ h => h) (Or.inl ⟨by kernel_rfl, ?_⟩) (by assumption) ?_
                · intro w hSw; (try dsimp only at hSw); go_simp
                try simp only [Act.put, List.setIfInBounds_toArray, List.set_cons_zero, List.set_cons_succ]
                refine takeH (i := 19) (n := 116) (v := .agg #[.string r1, .string r2]) rfl rfl (by kernel_rfl) (by kernel_rfl) (by kernel_rfl) (fun _ _ _ h => h) (Or.inl ⟨by kernel_rfl, ?_⟩) (by assumption) ?_
                · intro w hSw; (try dsimp only at hSw); go_simp
                try simp only [Act.put, List.setIfInBounds_toArray, List.set_cons_zero, List.set_cons_succ]
                refine takeH (i := 20) (n := 117) (v := .agg #[.string r1, .string r2]) rfl rfl (by kernel_rfl) (by kernel_rfl) (by kernel_rfl) (fun _ _ _ h => h) (Or.inl ⟨by kernel_rfl, ?_⟩) (by assumption) ?_
                · intro w hSw; (try dsimp only at hSw); go_simp
                try simp only [Act.put, List.setIfInBounds_toArray, List.set_cons_zero, List.set_cons_succ]
                refine takeH (i := 21) (n := 118) (v := .bool true) rfl rfl (by kernel_rfl) (by kernel_rfl) (by kernel_rfl) (fun _ _ _ h => h) (Or.inl ⟨by kernel_rfl, ?_⟩) (by assumption) ?_
                · intro w hSw; (try dsimp only at hSw); go_simp
                try simp only [Act.put, List.setIfInBounds_toArray, List.set_cons_zero, List.set_cons_succ]
                refine takeH (i := 22) (n := 119) (v := .bool true) rfl rfl (by kernel_rfl) (by kernel_rfl) (by kernel_rfl) (fun _ _ _ h => h) (Or.inl ⟨by kernel_rfl, ?_⟩) (by assumption) ?_
                · intro w hSw; (try dsimp only at hSw); go_simp
                try simp only [Act.put, List.setIfInBounds_toArray, List.set_cons_zero, List.set_cons_succ]
                refine takeH (i := 23) (n := 120) (v := .bool true) rfl rfl (by kernel_rfl) (by kernel_rfl) (by kernel_rfl) (fun _ _ _ h => h) (Or.inl ⟨by kernel_rfl, ?_⟩) (by assumption) ?_
                · intro w hSw; (try dsimp only at hSw); go_simp
                try simp only [Act.put, List.setIfInBounds_toArray, List.set_cons_zero, List.set_cons_succ]
                refine takeH (i := 24) (n := 121) (v := .slice (some ⟨bs, os, none⟩) N cap') rfl rfl (by kernel_rfl) (by kernel_rfl) (by kernel_rfl) (fun _ _ _ h => h) (Or.inl ⟨by kernel_rfl, ?_⟩) (by assumption) ?_
                · intro w hSw; (try dsimp only at hSw); go_simp
                try simp only [Act.put, List.setIfInBounds_toArray, List.set_cons_zero, List.set_cons_succ]
                refine takeH (i := 25) (n := 122) (v := .int .i64 (N : Int)) rfl rfl (by kernel_rfl) (by kernel_rfl) (by kernel_rfl) (fun _ _ _ h => h) (Or.inl ⟨by kernel_rfl, ?_⟩) (by assumption) ?_
                · intro w hSw; (try dsimp only at hSw); go_simp
                try simp only [Act.put, List.setIfInBounds_toArray, List.set_cons_zero, List.set_cons_succ]
                refine takeH (i := 26) (n := 123) (v := .slice (some ⟨bl, ol, none⟩) N cap) rfl rfl (by kernel_rfl) (by kernel_rfl) (by kernel_rfl) (fun _ _ _ h => h) (Or.inl ⟨by kernel_rfl, ?_⟩) (by assumption) ?_
                · intro w hSw; (try dsimp only at hSw); go_simp
                try simp only [Act.put, List.setIfInBounds_toArray, List.set_cons_zero, List.set_cons_succ]
                refine takeH (i := 27) (n := 124) (v := .int .i64 (N : Int)) rfl rfl (by kernel_rfl) (by kernel_rfl) (by kernel_rfl) (fun _ _ _ h => h) (Or.inl ⟨by kernel_rfl, ?_⟩) (by assumption) ?_
                · intro w hSw; (try dsimp only at hSw); go_simp
                try simp only [Act.put, List.setIfInBounds_toArray, List.set_cons_zero, List.set_cons_succ]
                refine takeH (i := 28) (n := 125) (v := .bool true) rfl rfl (by kernel_rfl) (by kernel_rfl) (by kernel_rfl) (fun _ _ _ h => h) (Or.inl ⟨by kernel_rfl, ?_⟩) (by assumption) ?_
                · intro w hSw; (try dsimp only at hSw); go_simp
                try simp only [Act.put, List.setIfInBounds_toArray, List.set_cons_zero, List.set_cons_succ]
                refine takeH (i := 29) (n := 126) (v := .bool true) rfl rfl (by kernel_rfl) (by kernel_rfl) (by kernel_rfl) (fun _ _ _ h => h) (Or.inl ⟨by kernel_rfl, ?_⟩) (by assumption) ?_
                · intro w hSw; (try dsimp only at hSw); go_simp
                try simp only [Act.put, List.setIfInBounds_toArray, List.set_cons_zero, List.set_cons_succ]
                refine takeH (i := 30) (n := 6) (v := .bool true) rfl rfl (by kernel_rfl) (by kernel_rfl) (by kernel_rfl) (fun _ _ _ h => h) (Or.inl ⟨by kernel_rfl, ?_⟩) (by assumption) ?_
                · intro w hSw; (try dsimp only at hSw); go_simp
                try simp only [Act.put, List.setIfInBounds_toArray, List.set_cons_zero, List.set_cons_succ]
                refine wpAnyH_done (by kernel_rfl) ?_ _
                go_wp2_with fail
                exact bodyPost_ret (v := .bool true) (by simp [results, Tryz.results7, go_sem]) rfl ⟨rfl, HB7.out.trans (hBn.mono HB7.out.size)⟩
        · have hz := whole_no hok (by omega)
          obtain rfl := G2.out (by rw [hz]; decide)
          rw [hz]
          clear G1 G2 hz hok
          go_wp2_with fail
          exact bodyPost_ret (v := .bool true) (by simp [results, Tryz.results7, go_sem]) rfl ⟨rfl, HB3.out⟩
end Go.Proofs.YtkggfeemjabdeaaGreatDoor.Wc
end
