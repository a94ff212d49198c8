/- WeightOrders: the main path. WeightFewest: the law returns true. -/
import Derived.Test.YtkggfeemjabdeaaGreatDoorPa30
import Derived.Test.YtkggfeemjabdeaaGreatDoorPa31
import Derived.Test.YtkggfeemjabdeaaGreatDoorPa32
section
namespace Go.Proofs.YtkggfeemjabdeaaGreatDoor.Wc
open Go Go.Proofs.YtkggfeemjabdeaaGreatDoor.Sx Go.RowKit

theorem list_inj {a b : ByteArray} (h : a.toList = b.toList) : a = b := by
  rw [ByteArray.toList_eq, ByteArray.toList_eq] at h
  exact Go.WideShapes.bytes_inj h
theorem useCmp {w : World} (HT : ∀ W, Below w.heap.size w W → Tens W) {a1 a2 b1 b2 : ByteArray} {z : Int} (ha : okP (a1, a2) = true) (hb : okP (b1, b2) = true) (h : cmpF (pv (a1, a2)) (pv (b1, b2)) = z) : Hid (∀ W, Below w.heap.size w W → Calls Tryz.prog 26 #[.agg #[.string a1, .string a2], .agg #[.string b1, .string b2]] W fun e w' => e = .returned (.int .i64 z) ∧ Below W.heap.size W w') := Lib.hid fun W hW => by
  have k := Compare_any (a1, a2) (b1, b2) W (short_ok ha) (short_ok hb) (HT W hW)
  have e : cmpS (a1, a2) (b1, b2) = z := by unfold cmpS; rw [ha, hb, ← h]; rfl
  rw [e] at k; exact k


set_option maxRecDepth 100000 in
set_option maxHeartbeats 8000000 in
theorem orders_lt_z (a1 a2 b1 b2 c1 c2 : ByteArray) (ha : okP (a1, a2) = true) (hb : okP (b1, b2) = true) (hc : okP (c1, c2) = true) (sa : shortP 60 (a1, a2) = true) (sb : shortP 60 (b1, b2) = true) (sc : shortP 60 (c1, c2) = true) (hn : (pv (a1, a2)).1 * (pv (b1, b2)).2 < (pv (b1, b2)).1 * (pv (a1, a2)).2) (hcz : c1 = zeroB) (w : World) (ht : Tens w) (h0 : 0 < w.heap.size) :
    Calls Tryz.prog 5 #[.agg #[.string a1, .string a2], .agg #[.string b1, .string b2], .agg #[.string c1, .string c2]] w fun e w' => e = .returned (.bool true) ∧ Below w.heap.size w w' := by
  have HT : ∀ W, Below w.heap.size w W → Tens W := fun W hW j hj => cell_later hW (ht j hj)
  have HAL : Hid (∀ W, Below w.heap.size w W → Calls Tryz.prog 20 #[] W fun e w' => e = .returned (.bool true) ∧ Below W.heap.size W w') := Lib.hid fun W hW => alive_any W (HT W hW) (by have := hW.size; omega)
  have sha : a1.size ≤ 60 ∧ a2.size ≤ 60 := by unfold shortP at sa; simpa using sa
  have shb : b1.size ≤ 60 ∧ b2.size ≤ 60 := by unfold shortP at sb; simpa using sb
  have shc : c1.size ≤ 60 ∧ c2.size ≤ 60 := by unfold shortP at sc; simpa using sc
  have mA := sm_of (k := 60) ha sha.1 sha.2
  have mB := sm_of (k := 60) hb shb.1 shb.2
  have mC := sm_of (k := 60) hc shc.1 shc.2
  have eA := pt_pv ha; have eB := pt_pv hb; have eC := pt_pv hc
  have hzz := num_zero hc
  have hcmp : cmpF (pv (a1, a2)) (pv (b1, b2)) = (-1) := cmpF_lt hn
  have C1 := useCmp HT ha hb hcmp
  have C2 := useCmp (z := 1) HT hb ha (by rw [cmpF_swap, hcmp] <;> rfl)
  have heq : ¬ (a1, a2) = (b1, b2) := fun h => by rw [h] at hn; exact Nat.lt_irrefl _ hn
  obtain ⟨⟨d1, d2⟩, hsub⟩ : ∃ r, subS (a1, a2) (b1, b2) = (r, 11) := ⟨_, subS_less ha hb hn⟩
  have Q2 := useSub HT hsub ha hb
  generalize hgA : pv (a1, a2) = A at *
  generalize hgB : pv (b1, b2) = B at *
  generalize hgC : pv (c1, c2) = C at *
  have m1 := mA.add mC (m := 121) rfl; have m2 := mB.add mC (m := 121) rfl; have m3 := mA.mul mC (m := 120) rfl; have m4 := mB.mul mC (m := 120) rfl
  have q3 := add_pt mA mC (by decide); have q4 := add_pt mB mC (by decide); have q5 := mul_pt mA mC (by decide); have q6 := mul_pt mB mC (by decide)
  have o1 := pt_ok m1 (by decide); have o2 := pt_ok m2 (by decide); have o3 := pt_ok m3 (by decide); have o4 := pt_ok m4 (by decide)
  have v1 := pv_pt (addF A C); have v2 := pv_pt (addF B C); have v3 := pv_pt (mulF A C); have v4 := pv_pt (mulF B C)
  rw [eA, eC] at q3 q5; rw [eB, eC] at q4 q6
  obtain ⟨⟨x1, x2⟩, hx⟩ : ∃ r, ptOf (addF A C) = r := ⟨_, rfl⟩
  obtain ⟨⟨y1, y2⟩, hy⟩ : ∃ r, ptOf (addF B C) = r := ⟨_, rfl⟩
  obtain ⟨⟨p1, p2⟩, hp⟩ : ∃ r, ptOf (mulF A C) = r := ⟨_, rfl⟩
  obtain ⟨⟨r1, r2⟩, hr⟩ : ∃ r, ptOf (mulF B C) = r := ⟨_, rfl⟩
  rw [hx] at q3 o1 v1; rw [hy] at q4 o2 v2; rw [hp] at q5 o3 v3; rw [hr] at q6 o4 v4
  have Q3 := useAdd HT q3 ha hc; have Q4 := useAdd HT q4 hb hc; have Q5 := useMul HT q5 ha hc; have Q6 := useMul HT q6 hb hc
  have C3 := useCmp (z := 0) HT o3 o4 (by rw [v3, v4]; exact cmpF_prod0 mA.fr mB.fr mC.fr (by rw [hzz]; exact hcz))
  have C4 := useCmp (z := (-1)) HT o1 o2 (by rw [v1, v2]; exact (cmpF_sum mA.fr mB.fr mC.fr).trans hcmp)
  have U1 := useChk HT ha; have U2 := useChk HT hb; have U3 := useChk HT hc
  have HSH := Lib.hid (And.intro sa (And.intro sb sc)); have HEQ := Lib.hid heq; have HCZ := Lib.hid hcz
  clear q3 q4 q5 q6 o1 o2 o3 o4 v1 v2 v3 v4 m1 m2 m3 m4 mA mB mC eA eB eC hx hy hp hr hsub hcmp hn heq hcz hzz sha shb shc sa sb sc HT ht ha hb hc hgA hgB hgC
  obtain ⟨V1, hV1⟩ : ∃ W, W = w.alloc (.cells #[.string a1, .string a2] 24) := ⟨_, rfl⟩
  obtain ⟨V2, hV2⟩ : ∃ W, W = V1.alloc (.cells #[.string b1, .string b2] 24) := ⟨_, rfl⟩
  obtain ⟨V3, hV3⟩ : ∃ W, W = V2.alloc (.cells #[.string c1, .string c2] 24) := ⟨_, rfl⟩
  have v01 : Below w.heap.size w V1 := by rw [hV1]; exact (Below.refl _ _).alloc (Nat.le_refl _) _
  have v12 : Below V1.heap.size V1 V2 := by rw [hV2]; exact (Below.refl _ _).alloc (Nat.le_refl _) _
  have v23 : Below V2.heap.size V2 V3 := by rw [hV3]; exact (Below.refl _ _).alloc (Nat.le_refl _) _
  have z1 : V1.heap.size = w.heap.size + 1 := by rw [hV1, World.size_alloc]
  have z2 : V2.heap.size = w.heap.size + 1 + 1 := by rw [hV2, World.size_alloc, z1]
  have ka : V3.heap[w.heap.size]? = some (partO a1 a2) := part_on (part_on (by rw [hV1]; exact Go.Deep.blk_alloc_new _ _) v12) v23
  have kb : V3.heap[w.heap.size + 1]? = some (partO b1 b2) := part_on (by rw [← z1, hV2]; exact Go.Deep.blk_alloc_new _ _) v23
  have kc : V3.heap[w.heap.size + 1 + 1]? = some (partO c1 c2) := by rw [← z2, hV3]; exact Go.Deep.blk_alloc_new _ _
  have HB := Lib.hid (v01.trans ((below_chain v12 v23).mono v01.size))
  have HV1 := Lib.hid hV1; have HV2 := Lib.hid hV2; have HV3 := Lib.hid hV3; have Ka := Lib.hid ka; have Kb := Lib.hid kb; have Kc := Lib.hid kc
  clear hV1 hV2 hV3 v01 v12 v23 z1 z2 ka kb kc
  go_enter Tryz.func5, Tryz.ntmps5
  go_wp2_with fail
  rw [← HV1.out, ← HV2.out, ← HV3.out]
  refine (HAL.out V3 HB.out).mono ?_
  rintro e w1 ⟨rfl, hb1⟩
  have Hw1 := Lib.hid (HB.out.trans (hb1.mono HB.out.size))
  have ka := part_on Ka.out hb1
  have kb := part_on Kb.out hb1
  have kc := part_on Kc.out hb1
  clear Ka Kb Kc hb1
  obtain ⟨ya0, ya1, ya2⟩ := part_at ka
  obtain ⟨yb0, yb1, yb2⟩ := part_at kb
  obtain ⟨yc0, yc1, yc2⟩ := part_at kc
  obtain ⟨W1, hW1⟩ : ∃ W, W = w1.alloc (.cells #[.string a1, .string a2, .string b1, .string b2, .string c1, .string c2] 24) := ⟨_, rfl⟩
  have bb : Below w1.heap.size w1 W1 := by rw [hW1]; exact (Below.refl _ _).alloc (Nat.le_refl _) _
  have Ka := Lib.hid (part_on ka bb)
  have Kb := Lib.hid (part_on kb bb)
  have Kc := Lib.hid (part_on kc bb)
  have HW1 := Lib.hid (Hw1.out.trans (bb.mono Hw1.out.size))
  have kk : W1.heap[w1.heap.size]? = some (.cells #[.string a1, .string a2, .string b1, .string b2, .string c1, .string c2] 24 (0, 0)) := by rw [hW1]; exact Go.Deep.blk_alloc_new _ _
  have KK := Lib.hid kk
  clear kk
  have HEW1 := Lib.hid hW1
  clear bb hW1 ka kb kc
  go_wp2_with fail
  rw [← HEW1.out]
  clear ya0 ya1 ya2 yb0 yb1 yb2 yc0 yc1 yc2
  have hsh := short_any 60 [(a1, a2), (b1, b2), (c1, c2)] (.slice (some ⟨w1.heap.size, 0, none⟩) 3 3) W1 (.inr ⟨w1.heap.size, 0, 3, rfl, by simp, by decide, (Array.getElem?_eq_some_iff.1 KK.out).1, fun i hi => by
    match i, hi with
    | 0, _ => exact ⟨by rw [set_cells KK.out]; rfl, by rw [set_cells KK.out]; rfl⟩
    | 1, _ => exact ⟨by rw [set_cells KK.out]; rfl, by rw [set_cells KK.out]; rfl⟩
    | 2, _ => exact ⟨by rw [set_cells KK.out]; rfl, by rw [set_cells KK.out]; rfl⟩⟩) (by simp) (by decide)
  have hall : [(a1, a2), (b1, b2), (c1, c2)].all (shortP 60) = true := by
    simp only [List.all_cons, List.all_nil, HSH.out.1, HSH.out.2.1, HSH.out.2.2, Bool.and_self]
  rw [hall] at hsh
  have HSHORT := Lib.hid hsh
  clear hsh hall KK
  refine (HSHORT.out).mono ?_
  rintro e w2 ⟨rfl, hb2⟩
  have Hw2 := Lib.hid (HW1.out.trans (hb2.mono HW1.out.size))
  have ka := part_on Ka.out hb2
  have kb := part_on Kb.out hb2
  have kc := part_on Kc.out hb2
  clear Ka Kb Kc hb2
  obtain ⟨ya0, ya1, ya2⟩ := part_at ka
  obtain ⟨yb0, yb1, yb2⟩ := part_at kb
  obtain ⟨yc0, yc1, yc2⟩ := part_at kc
  have Ka := Lib.hid ka
  have Kb := Lib.hid kb
  have Kc := Lib.hid kc
  clear ka kb kc
  go_wp2_with fail
  clear ya0 ya1 ya2 yb0 yb1 yb2 yc0 yc1 yc2
  refine (U1.out w2 Hw2.out).mono ?_
  rintro e w3 ⟨rfl, hb3⟩
  have Hw3 := Lib.hid (Hw2.out.trans (hb3.mono Hw2.out.size))
  have ka := part_on Ka.out hb3
  have kb := part_on Kb.out hb3
  have kc := part_on Kc.out hb3
  clear Ka Kb Kc hb3
  obtain ⟨ya0, ya1, ya2⟩ := part_at ka
  obtain ⟨yb0, yb1, yb2⟩ := part_at kb
  obtain ⟨yc0, yc1, yc2⟩ := part_at kc
  have Ka := Lib.hid ka
  have Kb := Lib.hid kb
  have Kc := Lib.hid kc
  clear ka kb kc
  go_wp2_with fail
  clear ya0 ya1 ya2 yb0 yb1 yb2 yc0 yc1 yc2
  refine (U2.out w3 Hw3.out).mono ?_
  rintro e w4 ⟨rfl, hb4⟩
  have Hw4 := Lib.hid (Hw3.out.trans (hb4.mono Hw3.out.size))
  have ka := part_on Ka.out hb4
  have kb := part_on Kb.out hb4
  have kc := part_on Kc.out hb4
  clear Ka Kb Kc hb4
  obtain ⟨ya0, ya1, ya2⟩ := part_at ka
  obtain ⟨yb0, yb1, yb2⟩ := part_at kb
  obtain ⟨yc0, yc1, yc2⟩ := part_at kc
  have Ka := Lib.hid ka
  have Kb := Lib.hid kb
  have Kc := Lib.hid kc
  clear ka kb kc
  go_wp2_with fail
  clear ya0 ya1 ya2 yb0 yb1 yb2 yc0 yc1 yc2
  refine (U3.out w4 Hw4.out).mono ?_
  rintro e w5 ⟨rfl, hb5⟩
  have Hw5 := Lib.hid (Hw4.out.trans (hb5.mono Hw4.out.size))
  have ka := part_on Ka.out hb5
  have kb := part_on Kb.out hb5
  have kc := part_on Kc.out hb5
  clear Ka Kb Kc hb5
  obtain ⟨ya0, ya1, ya2⟩ := part_at ka
  obtain ⟨yb0, yb1, yb2⟩ := part_at kb
  obtain ⟨yc0, yc1, yc2⟩ := part_at kc
  have Ka := Lib.hid ka
  have Kb := Lib.hid kb
  have Kc := Lib.hid kc
  clear ka kb kc
  go_wp2_with fail
  clear ya0 ya1 ya2 yb0 yb1 yb2 yc0 yc1 yc2
  refine (C1.out w5 Hw5.out).mono ?_
  rintro e w6 ⟨rfl, hb6⟩
  have Hw6 := Lib.hid (Hw5.out.trans (hb6.mono Hw5.out.size))
  have ka := part_on Ka.out hb6
  have kb := part_on Kb.out hb6
  have kc := part_on Kc.out hb6
  clear Ka Kb Kc hb6
  obtain ⟨ya0, ya1, ya2⟩ := part_at ka
  obtain ⟨yb0, yb1, yb2⟩ := part_at kb
  obtain ⟨yc0, yc1, yc2⟩ := part_at kc
  have Ka := Lib.hid ka
  have Kb := Lib.hid kb
  have Kc := Lib.hid kc
  clear ka kb kc
  go_wp2_with fail
  clear ya0 ya1 ya2 yb0 yb1 yb2 yc0 yc1 yc2
  refine (Q2.out w6 Hw6.out).mono ?_
  rintro e w7 ⟨rfl, hb7⟩
  have Hw7 := Lib.hid (Hw6.out.trans (hb7.mono Hw6.out.size))
  have ka := part_on Ka.out hb7
  have kb := part_on Kb.out hb7
  have kc := part_on Kc.out hb7
  clear Ka Kb Kc hb7
  obtain ⟨ya0, ya1, ya2⟩ := part_at ka
  obtain ⟨yb0, yb1, yb2⟩ := part_at kb
  obtain ⟨yc0, yc1, yc2⟩ := part_at kc
  obtain ⟨W7, hW7⟩ : ∃ W, W = w7.alloc (.cells #[.string d1, .string d2] 24) := ⟨_, rfl⟩
  have bb : Below w7.heap.size w7 W7 := by rw [hW7]; exact (Below.refl _ _).alloc (Nat.le_refl _) _
  have Ka := Lib.hid (part_on ka bb)
  have Kb := Lib.hid (part_on kb bb)
  have Kc := Lib.hid (part_on kc bb)
  have HW7 := Lib.hid (Hw7.out.trans (bb.mono Hw7.out.size))
  have Kd : Hid (W7.heap[w7.heap.size]? = some (partO d1 d2)) := Lib.hid (by rw [hW7]; exact Go.Deep.blk_alloc_new _ _)
  have HEW7 := Lib.hid hW7
  clear bb hW7 ka kb kc
  go_wp2_with fail
  rw [← HEW7.out]
  clear ya0 ya1 ya2 yb0 yb1 yb2 yc0 yc1 yc2
  refine (Q3.out W7 HW7.out).mono ?_
  rintro e w8 ⟨rfl, hb8⟩
  have Hw8 := Lib.hid (HW7.out.trans (hb8.mono HW7.out.size))
  have ka := part_on Ka.out hb8
  have kb := part_on Kb.out hb8
  have kc := part_on Kc.out hb8
  have kd := part_on Kd.out hb8
  clear Ka Kb Kc Kd hb8
  obtain ⟨ya0, ya1, ya2⟩ := part_at ka
  obtain ⟨yb0, yb1, yb2⟩ := part_at kb
  obtain ⟨yc0, yc1, yc2⟩ := part_at kc
  obtain ⟨yd0, yd1, yd2⟩ := part_at kd
  obtain ⟨W8, hW8⟩ : ∃ W, W = w8.alloc (.cells #[.string x1, .string x2] 24) := ⟨_, rfl⟩
  have bb : Below w8.heap.size w8 W8 := by rw [hW8]; exact (Below.refl _ _).alloc (Nat.le_refl _) _
  have Ka := Lib.hid (part_on ka bb)
  have Kb := Lib.hid (part_on kb bb)
  have Kc := Lib.hid (part_on kc bb)
  have Kd := Lib.hid (part_on kd bb)
  have HW8 := Lib.hid (Hw8.out.trans (bb.mono Hw8.out.size))
  have Kx : Hid (W8.heap[w8.heap.size]? = some (partO x1 x2)) := Lib.hid (by rw [hW8]; exact Go.Deep.blk_alloc_new _ _)
  have HEW8 := Lib.hid hW8
  clear bb hW8 ka kb kc kd
  go_wp2_with fail
  rw [← HEW8.out]
  clear ya0 ya1 ya2 yb0 yb1 yb2 yc0 yc1 yc2 yd0 yd1 yd2
  refine (Q4.out W8 HW8.out).mono ?_
  rintro e w9 ⟨rfl, hb9⟩
  have Hw9 := Lib.hid (HW8.out.trans (hb9.mono HW8.out.size))
  have ka := part_on Ka.out hb9
  have kb := part_on Kb.out hb9
  have kc := part_on Kc.out hb9
  have kd := part_on Kd.out hb9
  have kx := part_on Kx.out hb9
  clear Ka Kb Kc Kd Kx hb9
  obtain ⟨ya0, ya1, ya2⟩ := part_at ka
  obtain ⟨yb0, yb1, yb2⟩ := part_at kb
  obtain ⟨yc0, yc1, yc2⟩ := part_at kc
  obtain ⟨yd0, yd1, yd2⟩ := part_at kd
  obtain ⟨yx0, yx1, yx2⟩ := part_at kx
  obtain ⟨W9, hW9⟩ : ∃ W, W = w9.alloc (.cells #[.string y1, .string y2] 24) := ⟨_, rfl⟩
  have bb : Below w9.heap.size w9 W9 := by rw [hW9]; exact (Below.refl _ _).alloc (Nat.le_refl _) _
  have Ka := Lib.hid (part_on ka bb)
  have Kb := Lib.hid (part_on kb bb)
  have Kc := Lib.hid (part_on kc bb)
  have Kd := Lib.hid (part_on kd bb)
  have Kx := Lib.hid (part_on kx bb)
  have HW9 := Lib.hid (Hw9.out.trans (bb.mono Hw9.out.size))
  have Ky : Hid (W9.heap[w9.heap.size]? = some (partO y1 y2)) := Lib.hid (by rw [hW9]; exact Go.Deep.blk_alloc_new _ _)
  have HEW9 := Lib.hid hW9
  clear bb hW9 ka kb kc kd kx
  go_wp2_with fail
  rw [← HEW9.out]
  clear ya0 ya1 ya2 yb0 yb1 yb2 yc0 yc1 yc2 yd0 yd1 yd2 yx0 yx1 yx2
  refine (Q5.out W9 HW9.out).mono ?_
  rintro e w10 ⟨rfl, hb10⟩
  have Hw10 := Lib.hid (HW9.out.trans (hb10.mono HW9.out.size))
  have ka := part_on Ka.out hb10
  have kb := part_on Kb.out hb10
  have kc := part_on Kc.out hb10
  have kd := part_on Kd.out hb10
  have kx := part_on Kx.out hb10
  have ky := part_on Ky.out hb10
  clear Ka Kb Kc Kd Kx Ky hb10
  obtain ⟨ya0, ya1, ya2⟩ := part_at ka
  obtain ⟨yb0, yb1, yb2⟩ := part_at kb
  obtain ⟨yc0, yc1, yc2⟩ := part_at kc
  obtain ⟨yd0, yd1, yd2⟩ := part_at kd
  obtain ⟨yx0, yx1, yx2⟩ := part_at kx
  obtain ⟨yy0, yy1, yy2⟩ := part_at ky
  obtain ⟨W10, hW10⟩ : ∃ W, W = w10.alloc (.cells #[.string p1, .string p2] 24) := ⟨_, rfl⟩
  have bb : Below w10.heap.size w10 W10 := by rw [hW10]; exact (Below.refl _ _).alloc (Nat.le_refl _) _
  have Ka := Lib.hid (part_on ka bb)
  have Kb := Lib.hid (part_on kb bb)
  have Kc := Lib.hid (part_on kc bb)
  have Kd := Lib.hid (part_on kd bb)
  have Kx := Lib.hid (part_on kx bb)
  have Ky := Lib.hid (part_on ky bb)
  have HW10 := Lib.hid (Hw10.out.trans (bb.mono Hw10.out.size))
  have Kp : Hid (W10.heap[w10.heap.size]? = some (partO p1 p2)) := Lib.hid (by rw [hW10]; exact Go.Deep.blk_alloc_new _ _)
  have HEW10 := Lib.hid hW10
  clear bb hW10 ka kb kc kd kx ky
  go_wp2_with fail
  rw [← HEW10.out]
  clear ya0 ya1 ya2 yb0 yb1 yb2 yc0 yc1 yc2 yd0 yd1 yd2 yx0 yx1 yx2 yy0 yy1 yy2
  refine (Q6.out W10 HW10.out).mono ?_
  rintro e w11 ⟨rfl, hb11⟩
  have Hw11 := Lib.hid (HW10.out.trans (hb11.mono HW10.out.size))
  have ka := part_on Ka.out hb11
  have kb := part_on Kb.out hb11
  have kc := part_on Kc.out hb11
  have kd := part_on Kd.out hb11
  have kx := part_on Kx.out hb11
  have ky := part_on Ky.out hb11
  have kp := part_on Kp.out hb11
  clear Ka Kb Kc Kd Kx Ky Kp hb11
  obtain ⟨ya0, ya1, ya2⟩ := part_at ka
  obtain ⟨yb0, yb1, yb2⟩ := part_at kb
  obtain ⟨yc0, yc1, yc2⟩ := part_at kc
  obtain ⟨yd0, yd1, yd2⟩ := part_at kd
  obtain ⟨yx0, yx1, yx2⟩ := part_at kx
  obtain ⟨yy0, yy1, yy2⟩ := part_at ky
  obtain ⟨yp0, yp1, yp2⟩ := part_at kp
  obtain ⟨W11, hW11⟩ : ∃ W, W = w11.alloc (.cells #[.string r1, .string r2] 24) := ⟨_, rfl⟩
  have bb : Below w11.heap.size w11 W11 := by rw [hW11]; exact (Below.refl _ _).alloc (Nat.le_refl _) _
  have Ka := Lib.hid (part_on ka bb)
  have Kb := Lib.hid (part_on kb bb)
  have Kc := Lib.hid (part_on kc bb)
  have Kd := Lib.hid (part_on kd bb)
  have Kx := Lib.hid (part_on kx bb)
  have Ky := Lib.hid (part_on ky bb)
  have Kp := Lib.hid (part_on kp bb)
  have HW11 := Lib.hid (Hw11.out.trans (bb.mono Hw11.out.size))
  have Kr : Hid (W11.heap[w11.heap.size]? = some (partO r1 r2)) := Lib.hid (by rw [hW11]; exact Go.Deep.blk_alloc_new _ _)
  have HEW11 := Lib.hid hW11
  clear bb hW11 ka kb kc kd kx ky kp
  go_wp2_with fail
  rw [← HEW11.out]
  clear ya0 ya1 ya2 yb0 yb1 yb2 yc0 yc1 yc2 yd0 yd1 yd2 yx0 yx1 yx2 yy0 yy1 yy2 yp0 yp1 yp2
  have hc0 : c1 = ⟨#[48]⟩ := HCZ.out
  subst hc0
  refine (C3.out W11 HW11.out).mono ?_
  rintro e w12 ⟨rfl, hb12⟩
  have Hw12 := Lib.hid (HW11.out.trans (hb12.mono HW11.out.size))
  have ka := part_on Ka.out hb12
  have kb := part_on Kb.out hb12
  have kc := part_on Kc.out hb12
  have kd := part_on Kd.out hb12
  have kx := part_on Kx.out hb12
  have ky := part_on Ky.out hb12
  have kp := part_on Kp.out hb12
  have kr := part_on Kr.out hb12
  clear Ka Kb Kc Kd Kx Ky Kp Kr hb12
  obtain ⟨ya0, ya1, ya2⟩ := part_at ka
  obtain ⟨yb0, yb1, yb2⟩ := part_at kb
  obtain ⟨yc0, yc1, yc2⟩ := part_at kc
  obtain ⟨yd0, yd1, yd2⟩ := part_at kd
  obtain ⟨yx0, yx1, yx2⟩ := part_at kx
  obtain ⟨yy0, yy1, yy2⟩ := part_at ky
  obtain ⟨yp0, yp1, yp2⟩ := part_at kp
  obtain ⟨yr0, yr1, yr2⟩ := part_at kr
  have Ka := Lib.hid ka
  have Kb := Lib.hid kb
  have Kc := Lib.hid kc
  have Kd := Lib.hid kd
  have Kx := Lib.hid kx
  have Ky := Lib.hid ky
  have Kp := Lib.hid kp
  have Kr := Lib.hid kr
  clear ka kb kc kd kx ky kp kr
  go_wp2_with fail
  clear ya0 ya1 ya2 yb0 yb1 yb2 yc0 yc1 yc2 yd0 yd1 yd2 yx0 yx1 yx2 yy0 yy1 yy2 yp0 yp1 yp2 yr0 yr1 yr2
  by_cases e1 : a1 = b1
  · have e2 : ¬ a2 = b2 := fun h => HEQ.out (Prod.ext e1 h)
    subst e1
    have e2l : ¬ a2.toList = b2.toList := fun h => e2 (list_inj h)
    refine (C2.out w12 Hw12.out).mono ?_
    rintro e w13 ⟨rfl, hb13⟩
    have Hw13 := Lib.hid (Hw12.out.trans (hb13.mono Hw12.out.size))
    have ka := part_on Ka.out hb13
    have kb := part_on Kb.out hb13
    have kc := part_on Kc.out hb13
    have kd := part_on Kd.out hb13
    have kx := part_on Kx.out hb13
    have ky := part_on Ky.out hb13
    have kp := part_on Kp.out hb13
    have kr := part_on Kr.out hb13
    clear Ka Kb Kc Kd Kx Ky Kp Kr hb13
    obtain ⟨ya0, ya1, ya2⟩ := part_at ka
    obtain ⟨yb0, yb1, yb2⟩ := part_at kb
    obtain ⟨yc0, yc1, yc2⟩ := part_at kc
    obtain ⟨yd0, yd1, yd2⟩ := part_at kd
    obtain ⟨yx0, yx1, yx2⟩ := part_at kx
    obtain ⟨yy0, yy1, yy2⟩ := part_at ky
    obtain ⟨yp0, yp1, yp2⟩ := part_at kp
    obtain ⟨yr0, yr1, yr2⟩ := part_at kr
    have Ka := Lib.hid ka
    have Kb := Lib.hid kb
    have Kc := Lib.hid kc
    have Kd := Lib.hid kd
    have Kx := Lib.hid kx
    have Ky := Lib.hid ky
    have Kp := Lib.hid kp
    have Kr := Lib.hid kr
    clear ka kb kc kd kx ky kp kr
    go_wp2_with fail
    clear ya0 ya1 ya2 yb0 yb1 yb2 yc0 yc1 yc2 yd0 yd1 yd2 yx0 yx1 yx2 yy0 yy1 yy2 yp0 yp1 yp2 yr0 yr1 yr2
    refine (C4.out w13 Hw13.out).mono ?_
    rintro e w14 ⟨rfl, hb14⟩
    have Hw14 := Lib.hid (Hw13.out.trans (hb14.mono Hw13.out.size))
    have ka := part_on Ka.out hb14
    have kb := part_on Kb.out hb14
    have kc := part_on Kc.out hb14
    have kd := part_on Kd.out hb14
    have kx := part_on Kx.out hb14
    have ky := part_on Ky.out hb14
    have kp := part_on Kp.out hb14
    have kr := part_on Kr.out hb14
    clear Ka Kb Kc Kd Kx Ky Kp Kr hb14
    obtain ⟨ya0, ya1, ya2⟩ := part_at ka
    obtain ⟨yb0, yb1, yb2⟩ := part_at kb
    obtain ⟨yc0, yc1, yc2⟩ := part_at kc
    obtain ⟨yd0, yd1, yd2⟩ := part_at kd
    obtain ⟨yx0, yx1, yx2⟩ := part_at kx
    obtain ⟨yy0, yy1, yy2⟩ := part_at ky
    obtain ⟨yp0, yp1, yp2⟩ := part_at kp
    obtain ⟨yr0, yr1, yr2⟩ := part_at kr
    have Ka := Lib.hid ka
    have Kb := Lib.hid kb
    have Kc := Lib.hid kc
    have Kd := Lib.hid kd
    have Kx := Lib.hid kx
    have Ky := Lib.hid ky
    have Kp := Lib.hid kp
    have Kr := Lib.hid kr
    clear ka kb kc kd kx ky kp kr
    go_wp2_with fail
    clear ya0 ya1 ya2 yb0 yb1 yb2 yc0 yc1 yc2 yd0 yd1 yd2 yx0 yx1 yx2 yy0 yy1 yy2 yp0 yp1 yp2 yr0 yr1 yr2
    exact bodyPost_ret (v := .bool true) (by simp [results, Tryz.results5, go_sem]) rfl ⟨rfl, Hw14.out⟩
  · have e3 : ¬ b1 = a1 := fun h => e1 h.symm
    have e2l : ¬ a1.toList = b1.toList := fun h => e1 (list_inj h)
    refine (C2.out w12 Hw12.out).mono ?_
    rintro e w13 ⟨rfl, hb13⟩
    have Hw13 := Lib.hid (Hw12.out.trans (hb13.mono Hw12.out.size))
    have ka := part_on Ka.out hb13
    have kb := part_on Kb.out hb13
    have kc := part_on Kc.out hb13
    have kd := part_on Kd.out hb13
    have kx := part_on Kx.out hb13
    have ky := part_on Ky.out hb13
    have kp := part_on Kp.out hb13
    have kr := part_on Kr.out hb13
    clear Ka Kb Kc Kd Kx Ky Kp Kr hb13
    obtain ⟨ya0, ya1, ya2⟩ := part_at ka
    obtain ⟨yb0, yb1, yb2⟩ := part_at kb
    obtain ⟨yc0, yc1, yc2⟩ := part_at kc
    obtain ⟨yd0, yd1, yd2⟩ := part_at kd
    obtain ⟨yx0, yx1, yx2⟩ := part_at kx
    obtain ⟨yy0, yy1, yy2⟩ := part_at ky
    obtain ⟨yp0, yp1, yp2⟩ := part_at kp
    obtain ⟨yr0, yr1, yr2⟩ := part_at kr
    have Ka := Lib.hid ka
    have Kb := Lib.hid kb
    have Kc := Lib.hid kc
    have Kd := Lib.hid kd
    have Kx := Lib.hid kx
    have Ky := Lib.hid ky
    have Kp := Lib.hid kp
    have Kr := Lib.hid kr
    clear ka kb kc kd kx ky kp kr
    go_wp2_with fail
    clear ya0 ya1 ya2 yb0 yb1 yb2 yc0 yc1 yc2 yd0 yd1 yd2 yx0 yx1 yx2 yy0 yy1 yy2 yp0 yp1 yp2 yr0 yr1 yr2
    refine (C4.out w13 Hw13.out).mono ?_
    rintro e w14 ⟨rfl, hb14⟩
    have Hw14 := Lib.hid (Hw13.out.trans (hb14.mono Hw13.out.size))
    have ka := part_on Ka.out hb14
    have kb := part_on Kb.out hb14
    have kc := part_on Kc.out hb14
    have kd := part_on Kd.out hb14
    have kx := part_on Kx.out hb14
    have ky := part_on Ky.out hb14
    have kp := part_on Kp.out hb14
    have kr := part_on Kr.out hb14
    clear Ka Kb Kc Kd Kx Ky Kp Kr hb14
    obtain ⟨ya0, ya1, ya2⟩ := part_at ka
    obtain ⟨yb0, yb1, yb2⟩ := part_at kb
    obtain ⟨yc0, yc1, yc2⟩ := part_at kc
    obtain ⟨yd0, yd1, yd2⟩ := part_at kd
    obtain ⟨yx0, yx1, yx2⟩ := part_at kx
    obtain ⟨yy0, yy1, yy2⟩ := part_at ky
    obtain ⟨yp0, yp1, yp2⟩ := part_at kp
    obtain ⟨yr0, yr1, yr2⟩ := part_at kr
    have Ka := Lib.hid ka
    have Kb := Lib.hid kb
    have Kc := Lib.hid kc
    have Kd := Lib.hid kd
    have Kx := Lib.hid kx
    have Ky := Lib.hid ky
    have Kp := Lib.hid kp
    have Kr := Lib.hid kr
    clear ka kb kc kd kx ky kp kr
    go_wp2_with fail
    clear ya0 ya1 ya2 yb0 yb1 yb2 yc0 yc1 yc2 yd0 yd1 yd2 yx0 yx1 yx2 yy0 yy1 yy2 yp0 yp1 yp2 yr0 yr1 yr2
    exact bodyPost_ret (v := .bool true) (by simp [results, Tryz.results5, go_sem]) rfl ⟨rfl, Hw14.out⟩

set_option maxRecDepth 100000 in
set_option maxHeartbeats 8000000 in
theorem orders_lt_p (a1 a2 b1 b2 c1 c2 : ByteArray) (ha : okP (a1, a2) = true) (hb : okP (b1, b2) = true) (hc : okP (c1, c2) = true) (sa : shortP 60 (a1, a2) = true) (sb : shortP 60 (b1, b2) = true) (sc : shortP 60 (c1, c2) = true) (hn : (pv (a1, a2)).1 * (pv (b1, b2)).2 < (pv (b1, b2)).1 * (pv (a1, a2)).2) (hcz : ¬ c1 = zeroB) (w : World) (ht : Tens w) (h0 : 0 < w.heap.size) :
    Calls Tryz.prog 5 #[.agg #[.string a1, .string a2], .agg #[.string b1, .string b2], .agg #[.string c1, .string c2]] w fun e w' => e = .returned (.bool true) ∧ Below w.heap.size w w' := by
  have HT : ∀ W, Below w.heap.size w W → Tens W := fun W hW j hj => cell_later hW (ht j hj)
  have HAL : Hid (∀ W, Below w.heap.size w W → Calls Tryz.prog 20 #[] W fun e w' => e = .returned (.bool true) ∧ Below W.heap.size W w') := Lib.hid fun W hW => alive_any W (HT W hW) (by have := hW.size; omega)
  have sha : a1.size ≤ 60 ∧ a2.size ≤ 60 := by unfold shortP at sa; simpa using sa
  have shb : b1.size ≤ 60 ∧ b2.size ≤ 60 := by unfold shortP at sb; simpa using sb
  have shc : c1.size ≤ 60 ∧ c2.size ≤ 60 := by unfold shortP at sc; simpa using sc
  have mA := sm_of (k := 60) ha sha.1 sha.2
  have mB := sm_of (k := 60) hb shb.1 shb.2
  have mC := sm_of (k := 60) hc shc.1 shc.2
  have eA := pt_pv ha; have eB := pt_pv hb; have eC := pt_pv hc
  have hzz := num_zero hc
  have hcmp : cmpF (pv (a1, a2)) (pv (b1, b2)) = (-1) := cmpF_lt hn
  have C1 := useCmp HT ha hb hcmp
  have C2 := useCmp (z := 1) HT hb ha (by rw [cmpF_swap, hcmp] <;> rfl)
  have heq : ¬ (a1, a2) = (b1, b2) := fun h => by rw [h] at hn; exact Nat.lt_irrefl _ hn
  obtain ⟨⟨d1, d2⟩, hsub⟩ : ∃ r, subS (a1, a2) (b1, b2) = (r, 11) := ⟨_, subS_less ha hb hn⟩
  have Q2 := useSub HT hsub ha hb
  generalize hgA : pv (a1, a2) = A at *
  generalize hgB : pv (b1, b2) = B at *
  generalize hgC : pv (c1, c2) = C at *
  have m1 := mA.add mC (m := 121) rfl; have m2 := mB.add mC (m := 121) rfl; have m3 := mA.mul mC (m := 120) rfl; have m4 := mB.mul mC (m := 120) rfl
  have q3 := add_pt mA mC (by decide); have q4 := add_pt mB mC (by decide); have q5 := mul_pt mA mC (by decide); have q6 := mul_pt mB mC (by decide)
  have o1 := pt_ok m1 (by decide); have o2 := pt_ok m2 (by decide); have o3 := pt_ok m3 (by decide); have o4 := pt_ok m4 (by decide)
  have v1 := pv_pt (addF A C); have v2 := pv_pt (addF B C); have v3 := pv_pt (mulF A C); have v4 := pv_pt (mulF B C)
  rw [eA, eC] at q3 q5; rw [eB, eC] at q4 q6
  obtain ⟨⟨x1, x2⟩, hx⟩ : ∃ r, ptOf (addF A C) = r := ⟨_, rfl⟩
  obtain ⟨⟨y1, y2⟩, hy⟩ : ∃ r, ptOf (addF B C) = r := ⟨_, rfl⟩
  obtain ⟨⟨p1, p2⟩, hp⟩ : ∃ r, ptOf (mulF A C) = r := ⟨_, rfl⟩
  obtain ⟨⟨r1, r2⟩, hr⟩ : ∃ r, ptOf (mulF B C) = r := ⟨_, rfl⟩
  rw [hx] at q3 o1 v1; rw [hy] at q4 o2 v2; rw [hp] at q5 o3 v3; rw [hr] at q6 o4 v4
  have Q3 := useAdd HT q3 ha hc; have Q4 := useAdd HT q4 hb hc; have Q5 := useMul HT q5 ha hc; have Q6 := useMul HT q6 hb hc
  have C3 := useCmp (z := (-1)) HT o3 o4 (by rw [v3, v4]; exact (cmpF_prod mA.fr mB.fr mC.fr (Nat.pos_of_ne_zero (by rw [Ne, hzz]; exact hcz))).trans hcmp)
  have C4 := useCmp (z := (-1)) HT o1 o2 (by rw [v1, v2]; exact (cmpF_sum mA.fr mB.fr mC.fr).trans hcmp)
  have U1 := useChk HT ha; have U2 := useChk HT hb; have U3 := useChk HT hc
  have HSH := Lib.hid (And.intro sa (And.intro sb sc)); have HEQ := Lib.hid heq; have HCZ := Lib.hid hcz
  clear q3 q4 q5 q6 o1 o2 o3 o4 v1 v2 v3 v4 m1 m2 m3 m4 mA mB mC eA eB eC hx hy hp hr hsub hcmp hn heq hcz hzz sha shb shc sa sb sc HT ht ha hb hc hgA hgB hgC
  obtain ⟨V1, hV1⟩ : ∃ W, W = w.alloc (.cells #[.string a1, .string a2] 24) := ⟨_, rfl⟩
  obtain ⟨V2, hV2⟩ : ∃ W, W = V1.alloc (.cells #[.string b1, .string b2] 24) := ⟨_, rfl⟩
  obtain ⟨V3, hV3⟩ : ∃ W, W = V2.alloc (.cells #[.string c1, .string c2] 24) := ⟨_, rfl⟩
  have v01 : Below w.heap.size w V1 := by rw [hV1]; exact (Below.refl _ _).alloc (Nat.le_refl _) _
  have v12 : Below V1.heap.size V1 V2 := by rw [hV2]; exact (Below.refl _ _).alloc (Nat.le_refl _) _
  have v23 : Below V2.heap.size V2 V3 := by rw [hV3]; exact (Below.refl _ _).alloc (Nat.le_refl _) _
  have z1 : V1.heap.size = w.heap.size + 1 := by rw [hV1, World.size_alloc]
  have z2 : V2.heap.size = w.heap.size + 1 + 1 := by rw [hV2, World.size_alloc, z1]
  have ka : V3.heap[w.heap.size]? = some (partO a1 a2) := part_on (part_on (by rw [hV1]; exact Go.Deep.blk_alloc_new _ _) v12) v23
  have kb : V3.heap[w.heap.size + 1]? = some (partO b1 b2) := part_on (by rw [← z1, hV2]; exact Go.Deep.blk_alloc_new _ _) v23
  have kc : V3.heap[w.heap.size + 1 + 1]? = some (partO c1 c2) := by rw [← z2, hV3]; exact Go.Deep.blk_alloc_new _ _
  have HB := Lib.hid (v01.trans ((below_chain v12 v23).mono v01.size))
  have HV1 := Lib.hid hV1; have HV2 := Lib.hid hV2; have HV3 := Lib.hid hV3; have Ka := Lib.hid ka; have Kb := Lib.hid kb; have Kc := Lib.hid kc
  clear hV1 hV2 hV3 v01 v12 v23 z1 z2 ka kb kc
  go_enter Tryz.func5, Tryz.ntmps5
  go_wp2_with fail
  rw [← HV1.out, ← HV2.out, ← HV3.out]
  refine (HAL.out V3 HB.out).mono ?_
  rintro e w1 ⟨rfl, hb1⟩
  have Hw1 := Lib.hid (HB.out.trans (hb1.mono HB.out.size))
  have ka := part_on Ka.out hb1
  have kb := part_on Kb.out hb1
  have kc := part_on Kc.out hb1
  clear Ka Kb Kc hb1
  obtain ⟨ya0, ya1, ya2⟩ := part_at ka
  obtain ⟨yb0, yb1, yb2⟩ := part_at kb
  obtain ⟨yc0, yc1, yc2⟩ := part_at kc
  obtain ⟨W1, hW1⟩ : ∃ W, W = w1.alloc (.cells #[.string a1, .string a2, .string b1, .string b2, .string c1, .string c2] 24) := ⟨_, rfl⟩
  have bb : Below w1.heap.size w1 W1 := by rw [hW1]; exact (Below.refl _ _).alloc (Nat.le_refl _) _
  have Ka := Lib.hid (part_on ka bb)
  have Kb := Lib.hid (part_on kb bb)
  have Kc := Lib.hid (part_on kc bb)
  have HW1 := Lib.hid (Hw1.out.trans (bb.mono Hw1.out.size))
  have kk : W1.heap[w1.heap.size]? = some (.cells #[.string a1, .string a2, .string b1, .string b2, .string c1, .string c2] 24 (0, 0)) := by rw [hW1]; exact Go.Deep.blk_alloc_new _ _
  have KK := Lib.hid kk
  clear kk
  have HEW1 := Lib.hid hW1
  clear bb hW1 ka kb kc
  go_wp2_with fail
  rw [← HEW1.out]
  clear ya0 ya1 ya2 yb0 yb1 yb2 yc0 yc1 yc2
  have hsh := short_any 60 [(a1, a2), (b1, b2), (c1, c2)] (.slice (some ⟨w1.heap.size, 0, none⟩) 3 3) W1 (.inr ⟨w1.heap.size, 0, 3, rfl, by simp, by decide, (Array.getElem?_eq_some_iff.1 KK.out).1, fun i hi => by
    match i, hi with
    | 0, _ => exact ⟨by rw [set_cells KK.out]; rfl, by rw [set_cells KK.out]; rfl⟩
    | 1, _ => exact ⟨by rw [set_cells KK.out]; rfl, by rw [set_cells KK.out]; rfl⟩
    | 2, _ => exact ⟨by rw [set_cells KK.out]; rfl, by rw [set_cells KK.out]; rfl⟩⟩) (by simp) (by decide)
  have hall : [(a1, a2), (b1, b2), (c1, c2)].all (shortP 60) = true := by
    simp only [List.all_cons, List.all_nil, HSH.out.1, HSH.out.2.1, HSH.out.2.2, Bool.and_self]
  rw [hall] at hsh
  have HSHORT := Lib.hid hsh
  clear hsh hall KK
  refine (HSHORT.out).mono ?_
  rintro e w2 ⟨rfl, hb2⟩
  have Hw2 := Lib.hid (HW1.out.trans (hb2.mono HW1.out.size))
  have ka := part_on Ka.out hb2
  have kb := part_on Kb.out hb2
  have kc := part_on Kc.out hb2
  clear Ka Kb Kc hb2
  obtain ⟨ya0, ya1, ya2⟩ := part_at ka
  obtain ⟨yb0, yb1, yb2⟩ := part_at kb
  obtain ⟨yc0, yc1, yc2⟩ := part_at kc
  have Ka := Lib.hid ka
  have Kb := Lib.hid kb
  have Kc := Lib.hid kc
  clear ka kb kc
  go_wp2_with fail
  clear ya0 ya1 ya2 yb0 yb1 yb2 yc0 yc1 yc2
  refine (U1.out w2 Hw2.out).mono ?_
  rintro e w3 ⟨rfl, hb3⟩
  have Hw3 := Lib.hid (Hw2.out.trans (hb3.mono Hw2.out.size))
  have ka := part_on Ka.out hb3
  have kb := part_on Kb.out hb3
  have kc := part_on Kc.out hb3
  clear Ka Kb Kc hb3
  obtain ⟨ya0, ya1, ya2⟩ := part_at ka
  obtain ⟨yb0, yb1, yb2⟩ := part_at kb
  obtain ⟨yc0, yc1, yc2⟩ := part_at kc
  have Ka := Lib.hid ka
  have Kb := Lib.hid kb
  have Kc := Lib.hid kc
  clear ka kb kc
  go_wp2_with fail
  clear ya0 ya1 ya2 yb0 yb1 yb2 yc0 yc1 yc2
  refine (U2.out w3 Hw3.out).mono ?_
  rintro e w4 ⟨rfl, hb4⟩
  have Hw4 := Lib.hid (Hw3.out.trans (hb4.mono Hw3.out.size))
  have ka := part_on Ka.out hb4
  have kb := part_on Kb.out hb4
  have kc := part_on Kc.out hb4
  clear Ka Kb Kc hb4
  obtain ⟨ya0, ya1, ya2⟩ := part_at ka
  obtain ⟨yb0, yb1, yb2⟩ := part_at kb
  obtain ⟨yc0, yc1, yc2⟩ := part_at kc
  have Ka := Lib.hid ka
  have Kb := Lib.hid kb
  have Kc := Lib.hid kc
  clear ka kb kc
  go_wp2_with fail
  clear ya0 ya1 ya2 yb0 yb1 yb2 yc0 yc1 yc2
  refine (U3.out w4 Hw4.out).mono ?_
  rintro e w5 ⟨rfl, hb5⟩
  have Hw5 := Lib.hid (Hw4.out.trans (hb5.mono Hw4.out.size))
  have ka := part_on Ka.out hb5
  have kb := part_on Kb.out hb5
  have kc := part_on Kc.out hb5
  clear Ka Kb Kc hb5
  obtain ⟨ya0, ya1, ya2⟩ := part_at ka
  obtain ⟨yb0, yb1, yb2⟩ := part_at kb
  obtain ⟨yc0, yc1, yc2⟩ := part_at kc
  have Ka := Lib.hid ka
  have Kb := Lib.hid kb
  have Kc := Lib.hid kc
  clear ka kb kc
  go_wp2_with fail
  clear ya0 ya1 ya2 yb0 yb1 yb2 yc0 yc1 yc2
  refine (C1.out w5 Hw5.out).mono ?_
  rintro e w6 ⟨rfl, hb6⟩
  have Hw6 := Lib.hid (Hw5.out.trans (hb6.mono Hw5.out.size))
  have ka := part_on Ka.out hb6
  have kb := part_on Kb.out hb6
  have kc := part_on Kc.out hb6
  clear Ka Kb Kc hb6
  obtain ⟨ya0, ya1, ya2⟩ := part_at ka
  obtain ⟨yb0, yb1, yb2⟩ := part_at kb
  obtain ⟨yc0, yc1, yc2⟩ := part_at kc
  have Ka := Lib.hid ka
  have Kb := Lib.hid kb
  have Kc := Lib.hid kc
  clear ka kb kc
  go_wp2_with fail
  clear ya0 ya1 ya2 yb0 yb1 yb2 yc0 yc1 yc2
  refine (Q2.out w6 Hw6.out).mono ?_
  rintro e w7 ⟨rfl, hb7⟩
  have Hw7 := Lib.hid (Hw6.out.trans (hb7.mono Hw6.out.size))
  have ka := part_on Ka.out hb7
  have kb := part_on Kb.out hb7
  have kc := part_on Kc.out hb7
  clear Ka Kb Kc hb7
  obtain ⟨ya0, ya1, ya2⟩ := part_at ka
  obtain ⟨yb0, yb1, yb2⟩ := part_at kb
  obtain ⟨yc0, yc1, yc2⟩ := part_at kc
  obtain ⟨W7, hW7⟩ : ∃ W, W = w7.alloc (.cells #[.string d1, .string d2] 24) := ⟨_, rfl⟩
  have bb : Below w7.heap.size w7 W7 := by rw [hW7]; exact (Below.refl _ _).alloc (Nat.le_refl _) _
  have Ka := Lib.hid (part_on ka bb)
  have Kb := Lib.hid (part_on kb bb)
  have Kc := Lib.hid (part_on kc bb)
  have HW7 := Lib.hid (Hw7.out.trans (bb.mono Hw7.out.size))
  have Kd : Hid (W7.heap[w7.heap.size]? = some (partO d1 d2)) := Lib.hid (by rw [hW7]; exact Go.Deep.blk_alloc_new _ _)
  have HEW7 := Lib.hid hW7
  clear bb hW7 ka kb kc
  go_wp2_with fail
  rw [← HEW7.out]
  clear ya0 ya1 ya2 yb0 yb1 yb2 yc0 yc1 yc2
  refine (Q3.out W7 HW7.out).mono ?_
  rintro e w8 ⟨rfl, hb8⟩
  have Hw8 := Lib.hid (HW7.out.trans (hb8.mono HW7.out.size))
  have ka := part_on Ka.out hb8
  have kb := part_on Kb.out hb8
  have kc := part_on Kc.out hb8
  have kd := part_on Kd.out hb8
  clear Ka Kb Kc Kd hb8
  obtain ⟨ya0, ya1, ya2⟩ := part_at ka
  obtain ⟨yb0, yb1, yb2⟩ := part_at kb
  obtain ⟨yc0, yc1, yc2⟩ := part_at kc
  obtain ⟨yd0, yd1, yd2⟩ := part_at kd
  obtain ⟨W8, hW8⟩ : ∃ W, W = w8.alloc (.cells #[.string x1, .string x2] 24) := ⟨_, rfl⟩
  have bb : Below w8.heap.size w8 W8 := by rw [hW8]; exact (Below.refl _ _).alloc (Nat.le_refl _) _
  have Ka := Lib.hid (part_on ka bb)
  have Kb := Lib.hid (part_on kb bb)
  have Kc := Lib.hid (part_on kc bb)
  have Kd := Lib.hid (part_on kd bb)
  have HW8 := Lib.hid (Hw8.out.trans (bb.mono Hw8.out.size))
  have Kx : Hid (W8.heap[w8.heap.size]? = some (partO x1 x2)) := Lib.hid (by rw [hW8]; exact Go.Deep.blk_alloc_new _ _)
  have HEW8 := Lib.hid hW8
  clear bb hW8 ka kb kc kd
  go_wp2_with fail
  rw [← HEW8.out]
  clear ya0 ya1 ya2 yb0 yb1 yb2 yc0 yc1 yc2 yd0 yd1 yd2
  refine (Q4.out W8 HW8.out).mono ?_
  rintro e w9 ⟨rfl, hb9⟩
  have Hw9 := Lib.hid (HW8.out.trans (hb9.mono HW8.out.size))
  have ka := part_on Ka.out hb9
  have kb := part_on Kb.out hb9
  have kc := part_on Kc.out hb9
  have kd := part_on Kd.out hb9
  have kx := part_on Kx.out hb9
  clear Ka Kb Kc Kd Kx hb9
  obtain ⟨ya0, ya1, ya2⟩ := part_at ka
  obtain ⟨yb0, yb1, yb2⟩ := part_at kb
  obtain ⟨yc0, yc1, yc2⟩ := part_at kc
  obtain ⟨yd0, yd1, yd2⟩ := part_at kd
  obtain ⟨yx0, yx1, yx2⟩ := part_at kx
  obtain ⟨W9, hW9⟩ : ∃ W, W = w9.alloc (.cells #[.string y1, .string y2] 24) := ⟨_, rfl⟩
  have bb : Below w9.heap.size w9 W9 := by rw [hW9]; exact (Below.refl _ _).alloc (Nat.le_refl _) _
  have Ka := Lib.hid (part_on ka bb)
  have Kb := Lib.hid (part_on kb bb)
  have Kc := Lib.hid (part_on kc bb)
  have Kd := Lib.hid (part_on kd bb)
  have Kx := Lib.hid (part_on kx bb)
  have HW9 := Lib.hid (Hw9.out.trans (bb.mono Hw9.out.size))
  have Ky : Hid (W9.heap[w9.heap.size]? = some (partO y1 y2)) := Lib.hid (by rw [hW9]; exact Go.Deep.blk_alloc_new _ _)
  have HEW9 := Lib.hid hW9
  clear bb hW9 ka kb kc kd kx
  go_wp2_with fail
  rw [← HEW9.out]
  clear ya0 ya1 ya2 yb0 yb1 yb2 yc0 yc1 yc2 yd0 yd1 yd2 yx0 yx1 yx2
  refine (Q5.out W9 HW9.out).mono ?_
  rintro e w10 ⟨rfl, hb10⟩
  have Hw10 := Lib.hid (HW9.out.trans (hb10.mono HW9.out.size))
  have ka := part_on Ka.out hb10
  have kb := part_on Kb.out hb10
  have kc := part_on Kc.out hb10
  have kd := part_on Kd.out hb10
  have kx := part_on Kx.out hb10
  have ky := part_on Ky.out hb10
  clear Ka Kb Kc Kd Kx Ky hb10
  obtain ⟨ya0, ya1, ya2⟩ := part_at ka
  obtain ⟨yb0, yb1, yb2⟩ := part_at kb
  obtain ⟨yc0, yc1, yc2⟩ := part_at kc
  obtain ⟨yd0, yd1, yd2⟩ := part_at kd
  obtain ⟨yx0, yx1, yx2⟩ := part_at kx
  obtain ⟨yy0, yy1, yy2⟩ := part_at ky
  obtain ⟨W10, hW10⟩ : ∃ W, W = w10.alloc (.cells #[.string p1, .string p2] 24) := ⟨_, rfl⟩
  have bb : Below w10.heap.size w10 W10 := by rw [hW10]; exact (Below.refl _ _).alloc (Nat.le_refl _) _
  have Ka := Lib.hid (part_on ka bb)
  have Kb := Lib.hid (part_on kb bb)
  have Kc := Lib.hid (part_on kc bb)
  have Kd := Lib.hid (part_on kd bb)
  have Kx := Lib.hid (part_on kx bb)
  have Ky := Lib.hid (part_on ky bb)
  have HW10 := Lib.hid (Hw10.out.trans (bb.mono Hw10.out.size))
  have Kp : Hid (W10.heap[w10.heap.size]? = some (partO p1 p2)) := Lib.hid (by rw [hW10]; exact Go.Deep.blk_alloc_new _ _)
  have HEW10 := Lib.hid hW10
  clear bb hW10 ka kb kc kd kx ky
  go_wp2_with fail
  rw [← HEW10.out]
  clear ya0 ya1 ya2 yb0 yb1 yb2 yc0 yc1 yc2 yd0 yd1 yd2 yx0 yx1 yx2 yy0 yy1 yy2
  refine (Q6.out W10 HW10.out).mono ?_
  rintro e w11 ⟨rfl, hb11⟩
  have Hw11 := Lib.hid (HW10.out.trans (hb11.mono HW10.out.size))
  have ka := part_on Ka.out hb11
  have kb := part_on Kb.out hb11
  have kc := part_on Kc.out hb11
  have kd := part_on Kd.out hb11
  have kx := part_on Kx.out hb11
  have ky := part_on Ky.out hb11
  have kp := part_on Kp.out hb11
  clear Ka Kb Kc Kd Kx Ky Kp hb11
  obtain ⟨ya0, ya1, ya2⟩ := part_at ka
  obtain ⟨yb0, yb1, yb2⟩ := part_at kb
  obtain ⟨yc0, yc1, yc2⟩ := part_at kc
  obtain ⟨yd0, yd1, yd2⟩ := part_at kd
  obtain ⟨yx0, yx1, yx2⟩ := part_at kx
  obtain ⟨yy0, yy1, yy2⟩ := part_at ky
  obtain ⟨yp0, yp1, yp2⟩ := part_at kp
  obtain ⟨W11, hW11⟩ : ∃ W, W = w11.alloc (.cells #[.string r1, .string r2] 24) := ⟨_, rfl⟩
  have bb : Below w11.heap.size w11 W11 := by rw [hW11]; exact (Below.refl _ _).alloc (Nat.le_refl _) _
  have Ka := Lib.hid (part_on ka bb)
  have Kb := Lib.hid (part_on kb bb)
  have Kc := Lib.hid (part_on kc bb)
  have Kd := Lib.hid (part_on kd bb)
  have Kx := Lib.hid (part_on kx bb)
  have Ky := Lib.hid (part_on ky bb)
  have Kp := Lib.hid (part_on kp bb)
  have HW11 := Lib.hid (Hw11.out.trans (bb.mono Hw11.out.size))
  have Kr : Hid (W11.heap[w11.heap.size]? = some (partO r1 r2)) := Lib.hid (by rw [hW11]; exact Go.Deep.blk_alloc_new _ _)
  have HEW11 := Lib.hid hW11
  clear bb hW11 ka kb kc kd kx ky kp
  go_wp2_with fail
  rw [← HEW11.out]
  clear ya0 ya1 ya2 yb0 yb1 yb2 yc0 yc1 yc2 yd0 yd1 yd2 yx0 yx1 yx2 yy0 yy1 yy2 yp0 yp1 yp2
  have hc0 : ¬ c1 = ⟨#[48]⟩ := HCZ.out
  have hc0l : ¬ c1.toList = [48] := fun h => hc0 (list_inj (h.trans (by rw [ByteArray.toList_eq])))
  have hc0b : (c1.toList == [48]) = false := beq_eq_false_iff_ne.2 hc0l
  refine (C3.out W11 HW11.out).mono ?_
  rintro e w12 ⟨rfl, hb12⟩
  have Hw12 := Lib.hid (HW11.out.trans (hb12.mono HW11.out.size))
  have ka := part_on Ka.out hb12
  have kb := part_on Kb.out hb12
  have kc := part_on Kc.out hb12
  have kd := part_on Kd.out hb12
  have kx := part_on Kx.out hb12
  have ky := part_on Ky.out hb12
  have kp := part_on Kp.out hb12
  have kr := part_on Kr.out hb12
  clear Ka Kb Kc Kd Kx Ky Kp Kr hb12
  obtain ⟨ya0, ya1, ya2⟩ := part_at ka
  obtain ⟨yb0, yb1, yb2⟩ := part_at kb
  obtain ⟨yc0, yc1, yc2⟩ := part_at kc
  obtain ⟨yd0, yd1, yd2⟩ := part_at kd
  obtain ⟨yx0, yx1, yx2⟩ := part_at kx
  obtain ⟨yy0, yy1, yy2⟩ := part_at ky
  obtain ⟨yp0, yp1, yp2⟩ := part_at kp
  obtain ⟨yr0, yr1, yr2⟩ := part_at kr
  have Ka := Lib.hid ka
  have Kb := Lib.hid kb
  have Kc := Lib.hid kc
  have Kd := Lib.hid kd
  have Kx := Lib.hid kx
  have Ky := Lib.hid ky
  have Kp := Lib.hid kp
  have Kr := Lib.hid kr
  clear ka kb kc kd kx ky kp kr
  go_wp2_with fail
  clear ya0 ya1 ya2 yb0 yb1 yb2 yc0 yc1 yc2 yd0 yd1 yd2 yx0 yx1 yx2 yy0 yy1 yy2 yp0 yp1 yp2 yr0 yr1 yr2
  by_cases e1 : a1 = b1
  · have e2 : ¬ a2 = b2 := fun h => HEQ.out (Prod.ext e1 h)
    subst e1
    have e2l : ¬ a2.toList = b2.toList := fun h => e2 (list_inj h)
    refine (C2.out w12 Hw12.out).mono ?_
    rintro e w13 ⟨rfl, hb13⟩
    have Hw13 := Lib.hid (Hw12.out.trans (hb13.mono Hw12.out.size))
    have ka := part_on Ka.out hb13
    have kb := part_on Kb.out hb13
    have kc := part_on Kc.out hb13
    have kd := part_on Kd.out hb13
    have kx := part_on Kx.out hb13
    have ky := part_on Ky.out hb13
    have kp := part_on Kp.out hb13
    have kr := part_on Kr.out hb13
    clear Ka Kb Kc Kd Kx Ky Kp Kr hb13
    obtain ⟨ya0, ya1, ya2⟩ := part_at ka
    obtain ⟨yb0, yb1, yb2⟩ := part_at kb
    obtain ⟨yc0, yc1, yc2⟩ := part_at kc
    obtain ⟨yd0, yd1, yd2⟩ := part_at kd
    obtain ⟨yx0, yx1, yx2⟩ := part_at kx
    obtain ⟨yy0, yy1, yy2⟩ := part_at ky
    obtain ⟨yp0, yp1, yp2⟩ := part_at kp
    obtain ⟨yr0, yr1, yr2⟩ := part_at kr
    have Ka := Lib.hid ka
    have Kb := Lib.hid kb
    have Kc := Lib.hid kc
    have Kd := Lib.hid kd
    have Kx := Lib.hid kx
    have Ky := Lib.hid ky
    have Kp := Lib.hid kp
    have Kr := Lib.hid kr
    clear ka kb kc kd kx ky kp kr
    go_wp2_with fail
    clear ya0 ya1 ya2 yb0 yb1 yb2 yc0 yc1 yc2 yd0 yd1 yd2 yx0 yx1 yx2 yy0 yy1 yy2 yp0 yp1 yp2 yr0 yr1 yr2
    refine (C4.out w13 Hw13.out).mono ?_
    rintro e w14 ⟨rfl, hb14⟩
    have Hw14 := Lib.hid (Hw13.out.trans (hb14.mono Hw13.out.size))
    have ka := part_on Ka.out hb14
    have kb := part_on Kb.out hb14
    have kc := part_on Kc.out hb14
    have kd := part_on Kd.out hb14
    have kx := part_on Kx.out hb14
    have ky := part_on Ky.out hb14
    have kp := part_on Kp.out hb14
    have kr := part_on Kr.out hb14
    clear Ka Kb Kc Kd Kx Ky Kp Kr hb14
    obtain ⟨ya0, ya1, ya2⟩ := part_at ka
    obtain ⟨yb0, yb1, yb2⟩ := part_at kb
    obtain ⟨yc0, yc1, yc2⟩ := part_at kc
    obtain ⟨yd0, yd1, yd2⟩ := part_at kd
    obtain ⟨yx0, yx1, yx2⟩ := part_at kx
    obtain ⟨yy0, yy1, yy2⟩ := part_at ky
    obtain ⟨yp0, yp1, yp2⟩ := part_at kp
    obtain ⟨yr0, yr1, yr2⟩ := part_at kr
    have Ka := Lib.hid ka
    have Kb := Lib.hid kb
    have Kc := Lib.hid kc
    have Kd := Lib.hid kd
    have Kx := Lib.hid kx
    have Ky := Lib.hid ky
    have Kp := Lib.hid kp
    have Kr := Lib.hid kr
    clear ka kb kc kd kx ky kp kr
    go_wp2_with fail
    clear ya0 ya1 ya2 yb0 yb1 yb2 yc0 yc1 yc2 yd0 yd1 yd2 yx0 yx1 yx2 yy0 yy1 yy2 yp0 yp1 yp2 yr0 yr1 yr2
    exact bodyPost_ret (v := .bool true) (by simp [results, hc0b, Tryz.results5, go_sem]) rfl ⟨rfl, Hw14.out⟩
  · have e3 : ¬ b1 = a1 := fun h => e1 h.symm
    have e2l : ¬ a1.toList = b1.toList := fun h => e1 (list_inj h)
    refine (C2.out w12 Hw12.out).mono ?_
    rintro e w13 ⟨rfl, hb13⟩
    have Hw13 := Lib.hid (Hw12.out.trans (hb13.mono Hw12.out.size))
    have ka := part_on Ka.out hb13
    have kb := part_on Kb.out hb13
    have kc := part_on Kc.out hb13
    have kd := part_on Kd.out hb13
    have kx := part_on Kx.out hb13
    have ky := part_on Ky.out hb13
    have kp := part_on Kp.out hb13
    have kr := part_on Kr.out hb13
    clear Ka Kb Kc Kd Kx Ky Kp Kr hb13
    obtain ⟨ya0, ya1, ya2⟩ := part_at ka
    obtain ⟨yb0, yb1, yb2⟩ := part_at kb
    obtain ⟨yc0, yc1, yc2⟩ := part_at kc
    obtain ⟨yd0, yd1, yd2⟩ := part_at kd
    obtain ⟨yx0, yx1, yx2⟩ := part_at kx
    obtain ⟨yy0, yy1, yy2⟩ := part_at ky
    obtain ⟨yp0, yp1, yp2⟩ := part_at kp
    obtain ⟨yr0, yr1, yr2⟩ := part_at kr
    have Ka := Lib.hid ka
    have Kb := Lib.hid kb
    have Kc := Lib.hid kc
    have Kd := Lib.hid kd
    have Kx := Lib.hid kx
    have Ky := Lib.hid ky
    have Kp := Lib.hid kp
    have Kr := Lib.hid kr
    clear ka kb kc kd kx ky kp kr
    go_wp2_with fail
    clear ya0 ya1 ya2 yb0 yb1 yb2 yc0 yc1 yc2 yd0 yd1 yd2 yx0 yx1 yx2 yy0 yy1 yy2 yp0 yp1 yp2 yr0 yr1 yr2
    refine (C4.out w13 Hw13.out).mono ?_
    rintro e w14 ⟨rfl, hb14⟩
    have Hw14 := Lib.hid (Hw13.out.trans (hb14.mono Hw13.out.size))
    have ka := part_on Ka.out hb14
    have kb := part_on Kb.out hb14
    have kc := part_on Kc.out hb14
    have kd := part_on Kd.out hb14
    have kx := part_on Kx.out hb14
    have ky := part_on Ky.out hb14
    have kp := part_on Kp.out hb14
    have kr := part_on Kr.out hb14
    clear Ka Kb Kc Kd Kx Ky Kp Kr hb14
    obtain ⟨ya0, ya1, ya2⟩ := part_at ka
    obtain ⟨yb0, yb1, yb2⟩ := part_at kb
    obtain ⟨yc0, yc1, yc2⟩ := part_at kc
    obtain ⟨yd0, yd1, yd2⟩ := part_at kd
    obtain ⟨yx0, yx1, yx2⟩ := part_at kx
    obtain ⟨yy0, yy1, yy2⟩ := part_at ky
    obtain ⟨yp0, yp1, yp2⟩ := part_at kp
    obtain ⟨yr0, yr1, yr2⟩ := part_at kr
    have Ka := Lib.hid ka
    have Kb := Lib.hid kb
    have Kc := Lib.hid kc
    have Kd := Lib.hid kd
    have Kx := Lib.hid kx
    have Ky := Lib.hid ky
    have Kp := Lib.hid kp
    have Kr := Lib.hid kr
    clear ka kb kc kd kx ky kp kr
    go_wp2_with fail
    clear ya0 ya1 ya2 yb0 yb1 yb2 yc0 yc1 yc2 yd0 yd1 yd2 yx0 yx1 yx2 yy0 yy1 yy2 yp0 yp1 yp2 yr0 yr1 yr2
    exact bodyPost_ret (v := .bool true) (by simp [results, hc0b, Tryz.results5, go_sem]) rfl ⟨rfl, Hw14.out⟩

set_option maxRecDepth 100000 in
set_option maxHeartbeats 8000000 in
theorem orders_eq_z (a1 a2 b1 b2 c1 c2 : ByteArray) (ha : okP (a1, a2) = true) (hb : okP (b1, b2) = true) (hc : okP (c1, c2) = true) (sa : shortP 60 (a1, a2) = true) (sb : shortP 60 (b1, b2) = true) (sc : shortP 60 (c1, c2) = true) (hn : (pv (a1, a2)).1 * (pv (b1, b2)).2 = (pv (b1, b2)).1 * (pv (a1, a2)).2) (hcz : c1 = zeroB) (w : World) (ht : Tens w) (h0 : 0 < w.heap.size) :
    Calls Tryz.prog 5 #[.agg #[.string a1, .string a2], .agg #[.string b1, .string b2], .agg #[.string c1, .string c2]] w fun e w' => e = .returned (.bool true) ∧ Below w.heap.size w w' := by
  have HT : ∀ W, Below w.heap.size w W → Tens W := fun W hW j hj => cell_later hW (ht j hj)
  have HAL : Hid (∀ W, Below w.heap.size w W → Calls Tryz.prog 20 #[] W fun e w' => e = .returned (.bool true) ∧ Below W.heap.size W w') := Lib.hid fun W hW => alive_any W (HT W hW) (by have := hW.size; omega)
  have sha : a1.size ≤ 60 ∧ a2.size ≤ 60 := by unfold shortP at sa; simpa using sa
  have shb : b1.size ≤ 60 ∧ b2.size ≤ 60 := by unfold shortP at sb; simpa using sb
  have shc : c1.size ≤ 60 ∧ c2.size ≤ 60 := by unfold shortP at sc; simpa using sc
  have mA := sm_of (k := 60) ha sha.1 sha.2
  have mB := sm_of (k := 60) hb shb.1 shb.2
  have mC := sm_of (k := 60) hc shc.1 shc.2
  have eA := pt_pv ha; have eB := pt_pv hb; have eC := pt_pv hc
  have hzz := num_zero hc
  have hcmp : cmpF (pv (a1, a2)) (pv (b1, b2)) = 0 := cmpF_eq hn
  have C1 := useCmp HT ha hb hcmp
  have C2 := useCmp (z := 0) HT hb ha (by rw [cmpF_swap, hcmp] <;> rfl)
  have heq : (a1, a2) = (b1, b2) := by rw [← eA, ← eB, fr_uniq mA.fr mB.fr hn]
  obtain ⟨⟨d1, d2⟩, hsub⟩ : ∃ r, subS (a1, a2) (b1, b2) = (r, 0) := ⟨_, (subS_ok ha hb (by omega)).trans (res_sm (k := 120) (low_sm (Nat.mul_pos mA.fr.pos mB.fr.pos) (Nat.lt_of_le_of_lt (Nat.sub_le _ _) (by rw [show (120:Nat) = 60 + 60 from rfl, Nat.pow_add]; exact Nat.mul_lt_mul'' mA.n mB.d)) (by rw [show (120:Nat) = 60 + 60 from rfl, Nat.pow_add]; exact Nat.mul_lt_mul'' mA.d mB.d)) (by decide))⟩
  have Q2 := useSub HT hsub ha hb
  generalize hgA : pv (a1, a2) = A at *
  generalize hgB : pv (b1, b2) = B at *
  generalize hgC : pv (c1, c2) = C at *
  have m1 := mA.add mC (m := 121) rfl; have m2 := mB.add mC (m := 121) rfl; have m3 := mA.mul mC (m := 120) rfl; have m4 := mB.mul mC (m := 120) rfl
  have q3 := add_pt mA mC (by decide); have q4 := add_pt mB mC (by decide); have q5 := mul_pt mA mC (by decide); have q6 := mul_pt mB mC (by decide)
  have o1 := pt_ok m1 (by decide); have o2 := pt_ok m2 (by decide); have o3 := pt_ok m3 (by decide); have o4 := pt_ok m4 (by decide)
  have v1 := pv_pt (addF A C); have v2 := pv_pt (addF B C); have v3 := pv_pt (mulF A C); have v4 := pv_pt (mulF B C)
  rw [eA, eC] at q3 q5; rw [eB, eC] at q4 q6
  obtain ⟨⟨x1, x2⟩, hx⟩ : ∃ r, ptOf (addF A C) = r := ⟨_, rfl⟩
  obtain ⟨⟨y1, y2⟩, hy⟩ : ∃ r, ptOf (addF B C) = r := ⟨_, rfl⟩
  obtain ⟨⟨p1, p2⟩, hp⟩ : ∃ r, ptOf (mulF A C) = r := ⟨_, rfl⟩
  obtain ⟨⟨r1, r2⟩, hr⟩ : ∃ r, ptOf (mulF B C) = r := ⟨_, rfl⟩
  rw [hx] at q3 o1 v1; rw [hy] at q4 o2 v2; rw [hp] at q5 o3 v3; rw [hr] at q6 o4 v4
  have Q3 := useAdd HT q3 ha hc; have Q4 := useAdd HT q4 hb hc; have Q5 := useMul HT q5 ha hc; have Q6 := useMul HT q6 hb hc
  have C3 := useCmp (z := 0) HT o3 o4 (by rw [v3, v4]; exact cmpF_prod0 mA.fr mB.fr mC.fr (by rw [hzz]; exact hcz))
  have C4 := useCmp (z := 0) HT o1 o2 (by rw [v1, v2]; exact (cmpF_sum mA.fr mB.fr mC.fr).trans hcmp)
  have U1 := useChk HT ha; have U2 := useChk HT hb; have U3 := useChk HT hc
  have HSH := Lib.hid (And.intro sa (And.intro sb sc)); have HEQ := Lib.hid heq; have HCZ := Lib.hid hcz
  clear q3 q4 q5 q6 o1 o2 o3 o4 v1 v2 v3 v4 m1 m2 m3 m4 mA mB mC eA eB eC hx hy hp hr hsub hcmp hn heq hcz hzz sha shb shc sa sb sc HT ht ha hb hc hgA hgB hgC
  obtain ⟨V1, hV1⟩ : ∃ W, W = w.alloc (.cells #[.string a1, .string a2] 24) := ⟨_, rfl⟩
  obtain ⟨V2, hV2⟩ : ∃ W, W = V1.alloc (.cells #[.string b1, .string b2] 24) := ⟨_, rfl⟩
  obtain ⟨V3, hV3⟩ : ∃ W, W = V2.alloc (.cells #[.string c1, .string c2] 24) := ⟨_, rfl⟩
  have v01 : Below w.heap.size w V1 := by rw [hV1]; exact (Below.refl _ _).alloc (Nat.le_refl _) _
  have v12 : Below V1.heap.size V1 V2 := by rw [hV2]; exact (Below.refl _ _).alloc (Nat.le_refl _) _
  have v23 : Below V2.heap.size V2 V3 := by rw [hV3]; exact (Below.refl _ _).alloc (Nat.le_refl _) _
  have z1 : V1.heap.size = w.heap.size + 1 := by rw [hV1, World.size_alloc]
  have z2 : V2.heap.size = w.heap.size + 1 + 1 := by rw [hV2, World.size_alloc, z1]
  have ka : V3.heap[w.heap.size]? = some (partO a1 a2) := part_on (part_on (by rw [hV1]; exact Go.Deep.blk_alloc_new _ _) v12) v23
  have kb : V3.heap[w.heap.size + 1]? = some (partO b1 b2) := part_on (by rw [← z1, hV2]; exact Go.Deep.blk_alloc_new _ _) v23
  have kc : V3.heap[w.heap.size + 1 + 1]? = some (partO c1 c2) := by rw [← z2, hV3]; exact Go.Deep.blk_alloc_new _ _
  have HB := Lib.hid (v01.trans ((below_chain v12 v23).mono v01.size))
  have HV1 := Lib.hid hV1; have HV2 := Lib.hid hV2; have HV3 := Lib.hid hV3; have Ka := Lib.hid ka; have Kb := Lib.hid kb; have Kc := Lib.hid kc
  clear hV1 hV2 hV3 v01 v12 v23 z1 z2 ka kb kc
  go_enter Tryz.func5, Tryz.ntmps5
  go_wp2_with fail
  rw [← HV1.out, ← HV2.out, ← HV3.out]
  refine (HAL.out V3 HB.out).mono ?_
  rintro e w1 ⟨rfl, hb1⟩
  have Hw1 := Lib.hid (HB.out.trans (hb1.mono HB.out.size))
  have ka := part_on Ka.out hb1
  have kb := part_on Kb.out hb1
  have kc := part_on Kc.out hb1
  clear Ka Kb Kc hb1
  obtain ⟨ya0, ya1, ya2⟩ := part_at ka
  obtain ⟨yb0, yb1, yb2⟩ := part_at kb
  obtain ⟨yc0, yc1, yc2⟩ := part_at kc
  obtain ⟨W1, hW1⟩ : ∃ W, W = w1.alloc (.cells #[.string a1, .string a2, .string b1, .string b2, .string c1, .string c2] 24) := ⟨_, rfl⟩
  have bb : Below w1.heap.size w1 W1 := by rw [hW1]; exact (Below.refl _ _).alloc (Nat.le_refl _) _
  have Ka := Lib.hid (part_on ka bb)
  have Kb := Lib.hid (part_on kb bb)
  have Kc := Lib.hid (part_on kc bb)
  have HW1 := Lib.hid (Hw1.out.trans (bb.mono Hw1.out.size))
  have kk : W1.heap[w1.heap.size]? = some (.cells #[.string a1, .string a2, .string b1, .string b2, .string c1, .string c2] 24 (0, 0)) := by rw [hW1]; exact Go.Deep.blk_alloc_new _ _
  have KK := Lib.hid kk
  clear kk
  have HEW1 := Lib.hid hW1
  clear bb hW1 ka kb kc
  go_wp2_with fail
  rw [← HEW1.out]
  clear ya0 ya1 ya2 yb0 yb1 yb2 yc0 yc1 yc2
  have hsh := short_any 60 [(a1, a2), (b1, b2), (c1, c2)] (.slice (some ⟨w1.heap.size, 0, none⟩) 3 3) W1 (.inr ⟨w1.heap.size, 0, 3, rfl, by simp, by decide, (Array.getElem?_eq_some_iff.1 KK.out).1, fun i hi => by
    match i, hi with
    | 0, _ => exact ⟨by rw [set_cells KK.out]; rfl, by rw [set_cells KK.out]; rfl⟩
    | 1, _ => exact ⟨by rw [set_cells KK.out]; rfl, by rw [set_cells KK.out]; rfl⟩
    | 2, _ => exact ⟨by rw [set_cells KK.out]; rfl, by rw [set_cells KK.out]; rfl⟩⟩) (by simp) (by decide)
  have hall : [(a1, a2), (b1, b2), (c1, c2)].all (shortP 60) = true := by
    simp only [List.all_cons, List.all_nil, HSH.out.1, HSH.out.2.1, HSH.out.2.2, Bool.and_self]
  rw [hall] at hsh
  have HSHORT := Lib.hid hsh
  clear hsh hall KK
  refine (HSHORT.out).mono ?_
  rintro e w2 ⟨rfl, hb2⟩
  have Hw2 := Lib.hid (HW1.out.trans (hb2.mono HW1.out.size))
  have ka := part_on Ka.out hb2
  have kb := part_on Kb.out hb2
  have kc := part_on Kc.out hb2
  clear Ka Kb Kc hb2
  obtain ⟨ya0, ya1, ya2⟩ := part_at ka
  obtain ⟨yb0, yb1, yb2⟩ := part_at kb
  obtain ⟨yc0, yc1, yc2⟩ := part_at kc
  have Ka := Lib.hid ka
  have Kb := Lib.hid kb
  have Kc := Lib.hid kc
  clear ka kb kc
  go_wp2_with fail
  clear ya0 ya1 ya2 yb0 yb1 yb2 yc0 yc1 yc2
  refine (U1.out w2 Hw2.out).mono ?_
  rintro e w3 ⟨rfl, hb3⟩
  have Hw3 := Lib.hid (Hw2.out.trans (hb3.mono Hw2.out.size))
  have ka := part_on Ka.out hb3
  have kb := part_on Kb.out hb3
  have kc := part_on Kc.out hb3
  clear Ka Kb Kc hb3
  obtain ⟨ya0, ya1, ya2⟩ := part_at ka
  obtain ⟨yb0, yb1, yb2⟩ := part_at kb
  obtain ⟨yc0, yc1, yc2⟩ := part_at kc
  have Ka := Lib.hid ka
  have Kb := Lib.hid kb
  have Kc := Lib.hid kc
  clear ka kb kc
  go_wp2_with fail
  clear ya0 ya1 ya2 yb0 yb1 yb2 yc0 yc1 yc2
  refine (U2.out w3 Hw3.out).mono ?_
  rintro e w4 ⟨rfl, hb4⟩
  have Hw4 := Lib.hid (Hw3.out.trans (hb4.mono Hw3.out.size))
  have ka := part_on Ka.out hb4
  have kb := part_on Kb.out hb4
  have kc := part_on Kc.out hb4
  clear Ka Kb Kc hb4
  obtain ⟨ya0, ya1, ya2⟩ := part_at ka
  obtain ⟨yb0, yb1, yb2⟩ := part_at kb
  obtain ⟨yc0, yc1, yc2⟩ := part_at kc
  have Ka := Lib.hid ka
  have Kb := Lib.hid kb
  have Kc := Lib.hid kc
  clear ka kb kc
  go_wp2_with fail
  clear ya0 ya1 ya2 yb0 yb1 yb2 yc0 yc1 yc2
  refine (U3.out w4 Hw4.out).mono ?_
  rintro e w5 ⟨rfl, hb5⟩
  have Hw5 := Lib.hid (Hw4.out.trans (hb5.mono Hw4.out.size))
  have ka := part_on Ka.out hb5
  have kb := part_on Kb.out hb5
  have kc := part_on Kc.out hb5
  clear Ka Kb Kc hb5
  obtain ⟨ya0, ya1, ya2⟩ := part_at ka
  obtain ⟨yb0, yb1, yb2⟩ := part_at kb
  obtain ⟨yc0, yc1, yc2⟩ := part_at kc
  have Ka := Lib.hid ka
  have Kb := Lib.hid kb
  have Kc := Lib.hid kc
  clear ka kb kc
  go_wp2_with fail
  clear ya0 ya1 ya2 yb0 yb1 yb2 yc0 yc1 yc2
  refine (C1.out w5 Hw5.out).mono ?_
  rintro e w6 ⟨rfl, hb6⟩
  have Hw6 := Lib.hid (Hw5.out.trans (hb6.mono Hw5.out.size))
  have ka := part_on Ka.out hb6
  have kb := part_on Kb.out hb6
  have kc := part_on Kc.out hb6
  clear Ka Kb Kc hb6
  obtain ⟨ya0, ya1, ya2⟩ := part_at ka
  obtain ⟨yb0, yb1, yb2⟩ := part_at kb
  obtain ⟨yc0, yc1, yc2⟩ := part_at kc
  have Ka := Lib.hid ka
  have Kb := Lib.hid kb
  have Kc := Lib.hid kc
  clear ka kb kc
  go_wp2_with fail
  clear ya0 ya1 ya2 yb0 yb1 yb2 yc0 yc1 yc2
  refine (Q2.out w6 Hw6.out).mono ?_
  rintro e w7 ⟨rfl, hb7⟩
  have Hw7 := Lib.hid (Hw6.out.trans (hb7.mono Hw6.out.size))
  have ka := part_on Ka.out hb7
  have kb := part_on Kb.out hb7
  have kc := part_on Kc.out hb7
  clear Ka Kb Kc hb7
  obtain ⟨ya0, ya1, ya2⟩ := part_at ka
  obtain ⟨yb0, yb1, yb2⟩ := part_at kb
  obtain ⟨yc0, yc1, yc2⟩ := part_at kc
  obtain ⟨W7, hW7⟩ : ∃ W, W = w7.alloc (.cells #[.string d1, .string d2] 24) := ⟨_, rfl⟩
  have bb : Below w7.heap.size w7 W7 := by rw [hW7]; exact (Below.refl _ _).alloc (Nat.le_refl _) _
  have Ka := Lib.hid (part_on ka bb)
  have Kb := Lib.hid (part_on kb bb)
  have Kc := Lib.hid (part_on kc bb)
  have HW7 := Lib.hid (Hw7.out.trans (bb.mono Hw7.out.size))
  have Kd : Hid (W7.heap[w7.heap.size]? = some (partO d1 d2)) := Lib.hid (by rw [hW7]; exact Go.Deep.blk_alloc_new _ _)
  have HEW7 := Lib.hid hW7
  clear bb hW7 ka kb kc
  go_wp2_with fail
  rw [← HEW7.out]
  clear ya0 ya1 ya2 yb0 yb1 yb2 yc0 yc1 yc2
  refine (Q3.out W7 HW7.out).mono ?_
  rintro e w8 ⟨rfl, hb8⟩
  have Hw8 := Lib.hid (HW7.out.trans (hb8.mono HW7.out.size))
  have ka := part_on Ka.out hb8
  have kb := part_on Kb.out hb8
  have kc := part_on Kc.out hb8
  have kd := part_on Kd.out hb8
  clear Ka Kb Kc Kd hb8
  obtain ⟨ya0, ya1, ya2⟩ := part_at ka
  obtain ⟨yb0, yb1, yb2⟩ := part_at kb
  obtain ⟨yc0, yc1, yc2⟩ := part_at kc
  obtain ⟨yd0, yd1, yd2⟩ := part_at kd
  obtain ⟨W8, hW8⟩ : ∃ W, W = w8.alloc (.cells #[.string x1, .string x2] 24) := ⟨_, rfl⟩
  have bb : Below w8.heap.size w8 W8 := by rw [hW8]; exact (Below.refl _ _).alloc (Nat.le_refl _) _
  have Ka := Lib.hid (part_on ka bb)
  have Kb := Lib.hid (part_on kb bb)
  have Kc := Lib.hid (part_on kc bb)
  have Kd := Lib.hid (part_on kd bb)
  have HW8 := Lib.hid (Hw8.out.trans (bb.mono Hw8.out.size))
  have Kx : Hid (W8.heap[w8.heap.size]? = some (partO x1 x2)) := Lib.hid (by rw [hW8]; exact Go.Deep.blk_alloc_new _ _)
  have HEW8 := Lib.hid hW8
  clear bb hW8 ka kb kc kd
  go_wp2_with fail
  rw [← HEW8.out]
  clear ya0 ya1 ya2 yb0 yb1 yb2 yc0 yc1 yc2 yd0 yd1 yd2
  refine (Q4.out W8 HW8.out).mono ?_
  rintro e w9 ⟨rfl, hb9⟩
  have Hw9 := Lib.hid (HW8.out.trans (hb9.mono HW8.out.size))
  have ka := part_on Ka.out hb9
  have kb := part_on Kb.out hb9
  have kc := part_on Kc.out hb9
  have kd := part_on Kd.out hb9
  have kx := part_on Kx.out hb9
  clear Ka Kb Kc Kd Kx hb9
  obtain ⟨ya0, ya1, ya2⟩ := part_at ka
  obtain ⟨yb0, yb1, yb2⟩ := part_at kb
  obtain ⟨yc0, yc1, yc2⟩ := part_at kc
  obtain ⟨yd0, yd1, yd2⟩ := part_at kd
  obtain ⟨yx0, yx1, yx2⟩ := part_at kx
  obtain ⟨W9, hW9⟩ : ∃ W, W = w9.alloc (.cells #[.string y1, .string y2] 24) := ⟨_, rfl⟩
  have bb : Below w9.heap.size w9 W9 := by rw [hW9]; exact (Below.refl _ _).alloc (Nat.le_refl _) _
  have Ka := Lib.hid (part_on ka bb)
  have Kb := Lib.hid (part_on kb bb)
  have Kc := Lib.hid (part_on kc bb)
  have Kd := Lib.hid (part_on kd bb)
  have Kx := Lib.hid (part_on kx bb)
  have HW9 := Lib.hid (Hw9.out.trans (bb.mono Hw9.out.size))
  have Ky : Hid (W9.heap[w9.heap.size]? = some (partO y1 y2)) := Lib.hid (by rw [hW9]; exact Go.Deep.blk_alloc_new _ _)
  have HEW9 := Lib.hid hW9
  clear bb hW9 ka kb kc kd kx
  go_wp2_with fail
  rw [← HEW9.out]
  clear ya0 ya1 ya2 yb0 yb1 yb2 yc0 yc1 yc2 yd0 yd1 yd2 yx0 yx1 yx2
  refine (Q5.out W9 HW9.out).mono ?_
  rintro e w10 ⟨rfl, hb10⟩
  have Hw10 := Lib.hid (HW9.out.trans (hb10.mono HW9.out.size))
  have ka := part_on Ka.out hb10
  have kb := part_on Kb.out hb10
  have kc := part_on Kc.out hb10
  have kd := part_on Kd.out hb10
  have kx := part_on Kx.out hb10
  have ky := part_on Ky.out hb10
  clear Ka Kb Kc Kd Kx Ky hb10
  obtain ⟨ya0, ya1, ya2⟩ := part_at ka
  obtain ⟨yb0, yb1, yb2⟩ := part_at kb
  obtain ⟨yc0, yc1, yc2⟩ := part_at kc
  obtain ⟨yd0, yd1, yd2⟩ := part_at kd
  obtain ⟨yx0, yx1, yx2⟩ := part_at kx
  obtain ⟨yy0, yy1, yy2⟩ := part_at ky
  obtain ⟨W10, hW10⟩ : ∃ W, W = w10.alloc (.cells #[.string p1, .string p2] 24) := ⟨_, rfl⟩
  have bb : Below w10.heap.size w10 W10 := by rw [hW10]; exact (Below.refl _ _).alloc (Nat.le_refl _) _
  have Ka := Lib.hid (part_on ka bb)
  have Kb := Lib.hid (part_on kb bb)
  have Kc := Lib.hid (part_on kc bb)
  have Kd := Lib.hid (part_on kd bb)
  have Kx := Lib.hid (part_on kx bb)
  have Ky := Lib.hid (part_on ky bb)
  have HW10 := Lib.hid (Hw10.out.trans (bb.mono Hw10.out.size))
  have Kp : Hid (W10.heap[w10.heap.size]? = some (partO p1 p2)) := Lib.hid (by rw [hW10]; exact Go.Deep.blk_alloc_new _ _)
  have HEW10 := Lib.hid hW10
  clear bb hW10 ka kb kc kd kx ky
  go_wp2_with fail
  rw [← HEW10.out]
  clear ya0 ya1 ya2 yb0 yb1 yb2 yc0 yc1 yc2 yd0 yd1 yd2 yx0 yx1 yx2 yy0 yy1 yy2
  refine (Q6.out W10 HW10.out).mono ?_
  rintro e w11 ⟨rfl, hb11⟩
  have Hw11 := Lib.hid (HW10.out.trans (hb11.mono HW10.out.size))
  have ka := part_on Ka.out hb11
  have kb := part_on Kb.out hb11
  have kc := part_on Kc.out hb11
  have kd := part_on Kd.out hb11
  have kx := part_on Kx.out hb11
  have ky := part_on Ky.out hb11
  have kp := part_on Kp.out hb11
  clear Ka Kb Kc Kd Kx Ky Kp hb11
  obtain ⟨ya0, ya1, ya2⟩ := part_at ka
  obtain ⟨yb0, yb1, yb2⟩ := part_at kb
  obtain ⟨yc0, yc1, yc2⟩ := part_at kc
  obtain ⟨yd0, yd1, yd2⟩ := part_at kd
  obtain ⟨yx0, yx1, yx2⟩ := part_at kx
  obtain ⟨yy0, yy1, yy2⟩ := part_at ky
  obtain ⟨yp0, yp1, yp2⟩ := part_at kp
  obtain ⟨W11, hW11⟩ : ∃ W, W = w11.alloc (.cells #[.string r1, .string r2] 24) := ⟨_, rfl⟩
  have bb : Below w11.heap.size w11 W11 := by rw [hW11]; exact (Below.refl _ _).alloc (Nat.le_refl _) _
  have Ka := Lib.hid (part_on ka bb)
  have Kb := Lib.hid (part_on kb bb)
  have Kc := Lib.hid (part_on kc bb)
  have Kd := Lib.hid (part_on kd bb)
  have Kx := Lib.hid (part_on kx bb)
  have Ky := Lib.hid (part_on ky bb)
  have Kp := Lib.hid (part_on kp bb)
  have HW11 := Lib.hid (Hw11.out.trans (bb.mono Hw11.out.size))
  have Kr : Hid (W11.heap[w11.heap.size]? = some (partO r1 r2)) := Lib.hid (by rw [hW11]; exact Go.Deep.blk_alloc_new _ _)
  have HEW11 := Lib.hid hW11
  clear bb hW11 ka kb kc kd kx ky kp
  go_wp2_with fail
  rw [← HEW11.out]
  clear ya0 ya1 ya2 yb0 yb1 yb2 yc0 yc1 yc2 yd0 yd1 yd2 yx0 yx1 yx2 yy0 yy1 yy2 yp0 yp1 yp2
  have hc0 : c1 = ⟨#[48]⟩ := HCZ.out
  subst hc0
  obtain ⟨rfl, rfl⟩ := Prod.mk.inj HEQ.out
  refine (C3.out W11 HW11.out).mono ?_
  rintro e w12 ⟨rfl, hb12⟩
  have Hw12 := Lib.hid (HW11.out.trans (hb12.mono HW11.out.size))
  have ka := part_on Ka.out hb12
  have kb := part_on Kb.out hb12
  have kc := part_on Kc.out hb12
  have kd := part_on Kd.out hb12
  have kx := part_on Kx.out hb12
  have ky := part_on Ky.out hb12
  have kp := part_on Kp.out hb12
  have kr := part_on Kr.out hb12
  clear Ka Kb Kc Kd Kx Ky Kp Kr hb12
  obtain ⟨ya0, ya1, ya2⟩ := part_at ka
  obtain ⟨yb0, yb1, yb2⟩ := part_at kb
  obtain ⟨yc0, yc1, yc2⟩ := part_at kc
  obtain ⟨yd0, yd1, yd2⟩ := part_at kd
  obtain ⟨yx0, yx1, yx2⟩ := part_at kx
  obtain ⟨yy0, yy1, yy2⟩ := part_at ky
  obtain ⟨yp0, yp1, yp2⟩ := part_at kp
  obtain ⟨yr0, yr1, yr2⟩ := part_at kr
  have Ka := Lib.hid ka
  have Kb := Lib.hid kb
  have Kc := Lib.hid kc
  have Kd := Lib.hid kd
  have Kx := Lib.hid kx
  have Ky := Lib.hid ky
  have Kp := Lib.hid kp
  have Kr := Lib.hid kr
  clear ka kb kc kd kx ky kp kr
  go_wp2_with fail
  clear ya0 ya1 ya2 yb0 yb1 yb2 yc0 yc1 yc2 yd0 yd1 yd2 yx0 yx1 yx2 yy0 yy1 yy2 yp0 yp1 yp2 yr0 yr1 yr2
  refine (C2.out w12 Hw12.out).mono ?_
  rintro e w13 ⟨rfl, hb13⟩
  have Hw13 := Lib.hid (Hw12.out.trans (hb13.mono Hw12.out.size))
  have ka := part_on Ka.out hb13
  have kb := part_on Kb.out hb13
  have kc := part_on Kc.out hb13
  have kd := part_on Kd.out hb13
  have kx := part_on Kx.out hb13
  have ky := part_on Ky.out hb13
  have kp := part_on Kp.out hb13
  have kr := part_on Kr.out hb13
  clear Ka Kb Kc Kd Kx Ky Kp Kr hb13
  obtain ⟨ya0, ya1, ya2⟩ := part_at ka
  obtain ⟨yb0, yb1, yb2⟩ := part_at kb
  obtain ⟨yc0, yc1, yc2⟩ := part_at kc
  obtain ⟨yd0, yd1, yd2⟩ := part_at kd
  obtain ⟨yx0, yx1, yx2⟩ := part_at kx
  obtain ⟨yy0, yy1, yy2⟩ := part_at ky
  obtain ⟨yp0, yp1, yp2⟩ := part_at kp
  obtain ⟨yr0, yr1, yr2⟩ := part_at kr
  have Ka := Lib.hid ka
  have Kb := Lib.hid kb
  have Kc := Lib.hid kc
  have Kd := Lib.hid kd
  have Kx := Lib.hid kx
  have Ky := Lib.hid ky
  have Kp := Lib.hid kp
  have Kr := Lib.hid kr
  clear ka kb kc kd kx ky kp kr
  go_wp2_with fail
  clear ya0 ya1 ya2 yb0 yb1 yb2 yc0 yc1 yc2 yd0 yd1 yd2 yx0 yx1 yx2 yy0 yy1 yy2 yp0 yp1 yp2 yr0 yr1 yr2
  refine (C4.out w13 Hw13.out).mono ?_
  rintro e w14 ⟨rfl, hb14⟩
  have Hw14 := Lib.hid (Hw13.out.trans (hb14.mono Hw13.out.size))
  have ka := part_on Ka.out hb14
  have kb := part_on Kb.out hb14
  have kc := part_on Kc.out hb14
  have kd := part_on Kd.out hb14
  have kx := part_on Kx.out hb14
  have ky := part_on Ky.out hb14
  have kp := part_on Kp.out hb14
  have kr := part_on Kr.out hb14
  clear Ka Kb Kc Kd Kx Ky Kp Kr hb14
  obtain ⟨ya0, ya1, ya2⟩ := part_at ka
  obtain ⟨yb0, yb1, yb2⟩ := part_at kb
  obtain ⟨yc0, yc1, yc2⟩ := part_at kc
  obtain ⟨yd0, yd1, yd2⟩ := part_at kd
  obtain ⟨yx0, yx1, yx2⟩ := part_at kx
  obtain ⟨yy0, yy1, yy2⟩ := part_at ky
  obtain ⟨yp0, yp1, yp2⟩ := part_at kp
  obtain ⟨yr0, yr1, yr2⟩ := part_at kr
  have Ka := Lib.hid ka
  have Kb := Lib.hid kb
  have Kc := Lib.hid kc
  have Kd := Lib.hid kd
  have Kx := Lib.hid kx
  have Ky := Lib.hid ky
  have Kp := Lib.hid kp
  have Kr := Lib.hid kr
  clear ka kb kc kd kx ky kp kr
  go_wp2_with fail
  clear ya0 ya1 ya2 yb0 yb1 yb2 yc0 yc1 yc2 yd0 yd1 yd2 yx0 yx1 yx2 yy0 yy1 yy2 yp0 yp1 yp2 yr0 yr1 yr2
  exact bodyPost_ret (v := .bool true) (by simp [results, Tryz.results5, go_sem]) rfl ⟨rfl, Hw14.out⟩

set_option maxRecDepth 100000 in
set_option maxHeartbeats 8000000 in
theorem orders_eq_p (a1 a2 b1 b2 c1 c2 : ByteArray) (ha : okP (a1, a2) = true) (hb : okP (b1, b2) = true) (hc : okP (c1, c2) = true) (sa : shortP 60 (a1, a2) = true) (sb : shortP 60 (b1, b2) = true) (sc : shortP 60 (c1, c2) = true) (hn : (pv (a1, a2)).1 * (pv (b1, b2)).2 = (pv (b1, b2)).1 * (pv (a1, a2)).2) (hcz : ¬ c1 = zeroB) (w : World) (ht : Tens w) (h0 : 0 < w.heap.size) :
    Calls Tryz.prog 5 #[.agg #[.string a1, .string a2], .agg #[.string b1, .string b2], .agg #[.string c1, .string c2]] w fun e w' => e = .returned (.bool true) ∧ Below w.heap.size w w' := by
  have HT : ∀ W, Below w.heap.size w W → Tens W := fun W hW j hj => cell_later hW (ht j hj)
  have HAL : Hid (∀ W, Below w.heap.size w W → Calls Tryz.prog 20 #[] W fun e w' => e = .returned (.bool true) ∧ Below W.heap.size W w') := Lib.hid fun W hW => alive_any W (HT W hW) (by have := hW.size; omega)
  have sha : a1.size ≤ 60 ∧ a2.size ≤ 60 := by unfold shortP at sa; simpa using sa
  have shb : b1.size ≤ 60 ∧ b2.size ≤ 60 := by unfold shortP at sb; simpa using sb
  have shc : c1.size ≤ 60 ∧ c2.size ≤ 60 := by unfold shortP at sc; simpa using sc
  have mA := sm_of (k := 60) ha sha.1 sha.2
  have mB := sm_of (k := 60) hb shb.1 shb.2
  have mC := sm_of (k := 60) hc shc.1 shc.2
  have eA := pt_pv ha; have eB := pt_pv hb; have eC := pt_pv hc
  have hzz := num_zero hc
  have hcmp : cmpF (pv (a1, a2)) (pv (b1, b2)) = 0 := cmpF_eq hn
  have C1 := useCmp HT ha hb hcmp
  have C2 := useCmp (z := 0) HT hb ha (by rw [cmpF_swap, hcmp] <;> rfl)
  have heq : (a1, a2) = (b1, b2) := by rw [← eA, ← eB, fr_uniq mA.fr mB.fr hn]
  obtain ⟨⟨d1, d2⟩, hsub⟩ : ∃ r, subS (a1, a2) (b1, b2) = (r, 0) := ⟨_, (subS_ok ha hb (by omega)).trans (res_sm (k := 120) (low_sm (Nat.mul_pos mA.fr.pos mB.fr.pos) (Nat.lt_of_le_of_lt (Nat.sub_le _ _) (by rw [show (120:Nat) = 60 + 60 from rfl, Nat.pow_add]; exact Nat.mul_lt_mul'' mA.n mB.d)) (by rw [show (120:Nat) = 60 + 60 from rfl, Nat.pow_add]; exact Nat.mul_lt_mul'' mA.d mB.d)) (by decide))⟩
  have Q2 := useSub HT hsub ha hb
  generalize hgA : pv (a1, a2) = A at *
  generalize hgB : pv (b1, b2) = B at *
  generalize hgC : pv (c1, c2) = C at *
  have m1 := mA.add mC (m := 121) rfl; have m2 := mB.add mC (m := 121) rfl; have m3 := mA.mul mC (m := 120) rfl; have m4 := mB.mul mC (m := 120) rfl
  have q3 := add_pt mA mC (by decide); have q4 := add_pt mB mC (by decide); have q5 := mul_pt mA mC (by decide); have q6 := mul_pt mB mC (by decide)
  have o1 := pt_ok m1 (by decide); have o2 := pt_ok m2 (by decide); have o3 := pt_ok m3 (by decide); have o4 := pt_ok m4 (by decide)
  have v1 := pv_pt (addF A C); have v2 := pv_pt (addF B C); have v3 := pv_pt (mulF A C); have v4 := pv_pt (mulF B C)
  rw [eA, eC] at q3 q5; rw [eB, eC] at q4 q6
  obtain ⟨⟨x1, x2⟩, hx⟩ : ∃ r, ptOf (addF A C) = r := ⟨_, rfl⟩
  obtain ⟨⟨y1, y2⟩, hy⟩ : ∃ r, ptOf (addF B C) = r := ⟨_, rfl⟩
  obtain ⟨⟨p1, p2⟩, hp⟩ : ∃ r, ptOf (mulF A C) = r := ⟨_, rfl⟩
  obtain ⟨⟨r1, r2⟩, hr⟩ : ∃ r, ptOf (mulF B C) = r := ⟨_, rfl⟩
  rw [hx] at q3 o1 v1; rw [hy] at q4 o2 v2; rw [hp] at q5 o3 v3; rw [hr] at q6 o4 v4
  have Q3 := useAdd HT q3 ha hc; have Q4 := useAdd HT q4 hb hc; have Q5 := useMul HT q5 ha hc; have Q6 := useMul HT q6 hb hc
  have C3 := useCmp (z := 0) HT o3 o4 (by rw [v3, v4]; exact (cmpF_prod mA.fr mB.fr mC.fr (Nat.pos_of_ne_zero (by rw [Ne, hzz]; exact hcz))).trans hcmp)
  have C4 := useCmp (z := 0) HT o1 o2 (by rw [v1, v2]; exact (cmpF_sum mA.fr mB.fr mC.fr).trans hcmp)
  have U1 := useChk HT ha; have U2 := useChk HT hb; have U3 := useChk HT hc
  have HSH := Lib.hid (And.intro sa (And.intro sb sc)); have HEQ := Lib.hid heq; have HCZ := Lib.hid hcz
  clear q3 q4 q5 q6 o1 o2 o3 o4 v1 v2 v3 v4 m1 m2 m3 m4 mA mB mC eA eB eC hx hy hp hr hsub hcmp hn heq hcz hzz sha shb shc sa sb sc HT ht ha hb hc hgA hgB hgC
  obtain ⟨V1, hV1⟩ : ∃ W, W = w.alloc (.cells #[.string a1, .string a2] 24) := ⟨_, rfl⟩
  obtain ⟨V2, hV2⟩ : ∃ W, W = V1.alloc (.cells #[.string b1, .string b2] 24) := ⟨_, rfl⟩
  obtain ⟨V3, hV3⟩ : ∃ W, W = V2.alloc (.cells #[.string c1, .string c2] 24) := ⟨_, rfl⟩
  have v01 : Below w.heap.size w V1 := by rw [hV1]; exact (Below.refl _ _).alloc (Nat.le_refl _) _
  have v12 : Below V1.heap.size V1 V2 := by rw [hV2]; exact (Below.refl _ _).alloc (Nat.le_refl _) _
  have v23 : Below V2.heap.size V2 V3 := by rw [hV3]; exact (Below.refl _ _).alloc (Nat.le_refl _) _
  have z1 : V1.heap.size = w.heap.size + 1 := by rw [hV1, World.size_alloc]
  have z2 : V2.heap.size = w.heap.size + 1 + 1 := by rw [hV2, World.size_alloc, z1]
  have ka : V3.heap[w.heap.size]? = some (partO a1 a2) := part_on (part_on (by rw [hV1]; exact Go.Deep.blk_alloc_new _ _) v12) v23
  have kb : V3.heap[w.heap.size + 1]? = some (partO b1 b2) := part_on (by rw [← z1, hV2]; exact Go.Deep.blk_alloc_new _ _) v23
  have kc : V3.heap[w.heap.size + 1 + 1]? = some (partO c1 c2) := by rw [← z2, hV3]; exact Go.Deep.blk_alloc_new _ _
  have HB := Lib.hid (v01.trans ((below_chain v12 v23).mono v01.size))
  have HV1 := Lib.hid hV1; have HV2 := Lib.hid hV2; have HV3 := Lib.hid hV3; have Ka := Lib.hid ka; have Kb := Lib.hid kb; have Kc := Lib.hid kc
  clear hV1 hV2 hV3 v01 v12 v23 z1 z2 ka kb kc
  go_enter Tryz.func5, Tryz.ntmps5
  go_wp2_with fail
  rw [← HV1.out, ← HV2.out, ← HV3.out]
  refine (HAL.out V3 HB.out).mono ?_
  rintro e w1 ⟨rfl, hb1⟩
  have Hw1 := Lib.hid (HB.out.trans (hb1.mono HB.out.size))
  have ka := part_on Ka.out hb1
  have kb := part_on Kb.out hb1
  have kc := part_on Kc.out hb1
  clear Ka Kb Kc hb1
  obtain ⟨ya0, ya1, ya2⟩ := part_at ka
  obtain ⟨yb0, yb1, yb2⟩ := part_at kb
  obtain ⟨yc0, yc1, yc2⟩ := part_at kc
  obtain ⟨W1, hW1⟩ : ∃ W, W = w1.alloc (.cells #[.string a1, .string a2, .string b1, .string b2, .string c1, .string c2] 24) := ⟨_, rfl⟩
  have bb : Below w1.heap.size w1 W1 := by rw [hW1]; exact (Below.refl _ _).alloc (Nat.le_refl _) _
  have Ka := Lib.hid (part_on ka bb)
  have Kb := Lib.hid (part_on kb bb)
  have Kc := Lib.hid (part_on kc bb)
  have HW1 := Lib.hid (Hw1.out.trans (bb.mono Hw1.out.size))
  have kk : W1.heap[w1.heap.size]? = some (.cells #[.string a1, .string a2, .string b1, .string b2, .string c1, .string c2] 24 (0, 0)) := by rw [hW1]; exact Go.Deep.blk_alloc_new _ _
  have KK := Lib.hid kk
  clear kk
  have HEW1 := Lib.hid hW1
  clear bb hW1 ka kb kc
  go_wp2_with fail
  rw [← HEW1.out]
  clear ya0 ya1 ya2 yb0 yb1 yb2 yc0 yc1 yc2
  have hsh := short_any 60 [(a1, a2), (b1, b2), (c1, c2)] (.slice (some ⟨w1.heap.size, 0, none⟩) 3 3) W1 (.inr ⟨w1.heap.size, 0, 3, rfl, by simp, by decide, (Array.getElem?_eq_some_iff.1 KK.out).1, fun i hi => by
    match i, hi with
    | 0, _ => exact ⟨by rw [set_cells KK.out]; rfl, by rw [set_cells KK.out]; rfl⟩
    | 1, _ => exact ⟨by rw [set_cells KK.out]; rfl, by rw [set_cells KK.out]; rfl⟩
    | 2, _ => exact ⟨by rw [set_cells KK.out]; rfl, by rw [set_cells KK.out]; rfl⟩⟩) (by simp) (by decide)
  have hall : [(a1, a2), (b1, b2), (c1, c2)].all (shortP 60) = true := by
    simp only [List.all_cons, List.all_nil, HSH.out.1, HSH.out.2.1, HSH.out.2.2, Bool.and_self]
  rw [hall] at hsh
  have HSHORT := Lib.hid hsh
  clear hsh hall KK
  refine (HSHORT.out).mono ?_
  rintro e w2 ⟨rfl, hb2⟩
  have Hw2 := Lib.hid (HW1.out.trans (hb2.mono HW1.out.size))
  have ka := part_on Ka.out hb2
  have kb := part_on Kb.out hb2
  have kc := part_on Kc.out hb2
  clear Ka Kb Kc hb2
  obtain ⟨ya0, ya1, ya2⟩ := part_at ka
  obtain ⟨yb0, yb1, yb2⟩ := part_at kb
  obtain ⟨yc0, yc1, yc2⟩ := part_at kc
  have Ka := Lib.hid ka
  have Kb := Lib.hid kb
  have Kc := Lib.hid kc
  clear ka kb kc
  go_wp2_with fail
  clear ya0 ya1 ya2 yb0 yb1 yb2 yc0 yc1 yc2
  refine (U1.out w2 Hw2.out).mono ?_
  rintro e w3 ⟨rfl, hb3⟩
  have Hw3 := Lib.hid (Hw2.out.trans (hb3.mono Hw2.out.size))
  have ka := part_on Ka.out hb3
  have kb := part_on Kb.out hb3
  have kc := part_on Kc.out hb3
  clear Ka Kb Kc hb3
  obtain ⟨ya0, ya1, ya2⟩ := part_at ka
  obtain ⟨yb0, yb1, yb2⟩ := part_at kb
  obtain ⟨yc0, yc1, yc2⟩ := part_at kc
  have Ka := Lib.hid ka
  have Kb := Lib.hid kb
  have Kc := Lib.hid kc
  clear ka kb kc
  go_wp2_with fail
  clear ya0 ya1 ya2 yb0 yb1 yb2 yc0 yc1 yc2
  refine (U2.out w3 Hw3.out).mono ?_
  rintro e w4 ⟨rfl, hb4⟩
  have Hw4 := Lib.hid (Hw3.out.trans (hb4.mono Hw3.out.size))
  have ka := part_on Ka.out hb4
  have kb := part_on Kb.out hb4
  have kc := part_on Kc.out hb4
  clear Ka Kb Kc hb4
  obtain ⟨ya0, ya1, ya2⟩ := part_at ka
  obtain ⟨yb0, yb1, yb2⟩ := part_at kb
  obtain ⟨yc0, yc1, yc2⟩ := part_at kc
  have Ka := Lib.hid ka
  have Kb := Lib.hid kb
  have Kc := Lib.hid kc
  clear ka kb kc
  go_wp2_with fail
  clear ya0 ya1 ya2 yb0 yb1 yb2 yc0 yc1 yc2
  refine (U3.out w4 Hw4.out).mono ?_
  rintro e w5 ⟨rfl, hb5⟩
  have Hw5 := Lib.hid (Hw4.out.trans (hb5.mono Hw4.out.size))
  have ka := part_on Ka.out hb5
  have kb := part_on Kb.out hb5
  have kc := part_on Kc.out hb5
  clear Ka Kb Kc hb5
  obtain ⟨ya0, ya1, ya2⟩ := part_at ka
  obtain ⟨yb0, yb1, yb2⟩ := part_at kb
  obtain ⟨yc0, yc1, yc2⟩ := part_at kc
  have Ka := Lib.hid ka
  have Kb := Lib.hid kb
  have Kc := Lib.hid kc
  clear ka kb kc
  go_wp2_with fail
  clear ya0 ya1 ya2 yb0 yb1 yb2 yc0 yc1 yc2
  refine (C1.out w5 Hw5.out).mono ?_
  rintro e w6 ⟨rfl, hb6⟩
  have Hw6 := Lib.hid (Hw5.out.trans (hb6.mono Hw5.out.size))
  have ka := part_on Ka.out hb6
  have kb := part_on Kb.out hb6
  have kc := part_on Kc.out hb6
  clear Ka Kb Kc hb6
  obtain ⟨ya0, ya1, ya2⟩ := part_at ka
  obtain ⟨yb0, yb1, yb2⟩ := part_at kb
  obtain ⟨yc0, yc1, yc2⟩ := part_at kc
  have Ka := Lib.hid ka
  have Kb := Lib.hid kb
  have Kc := Lib.hid kc
  clear ka kb kc
  go_wp2_with fail
  clear ya0 ya1 ya2 yb0 yb1 yb2 yc0 yc1 yc2
  refine (Q2.out w6 Hw6.out).mono ?_
  rintro e w7 ⟨rfl, hb7⟩
  have Hw7 := Lib.hid (Hw6.out.trans (hb7.mono Hw6.out.size))
  have ka := part_on Ka.out hb7
  have kb := part_on Kb.out hb7
  have kc := part_on Kc.out hb7
  clear Ka Kb Kc hb7
  obtain ⟨ya0, ya1, ya2⟩ := part_at ka
  obtain ⟨yb0, yb1, yb2⟩ := part_at kb
  obtain ⟨yc0, yc1, yc2⟩ := part_at kc
  obtain ⟨W7, hW7⟩ : ∃ W, W = w7.alloc (.cells #[.string d1, .string d2] 24) := ⟨_, rfl⟩
  have bb : Below w7.heap.size w7 W7 := by rw [hW7]; exact (Below.refl _ _).alloc (Nat.le_refl _) _
  have Ka := Lib.hid (part_on ka bb)
  have Kb := Lib.hid (part_on kb bb)
  have Kc := Lib.hid (part_on kc bb)
  have HW7 := Lib.hid (Hw7.out.trans (bb.mono Hw7.out.size))
  have Kd : Hid (W7.heap[w7.heap.size]? = some (partO d1 d2)) := Lib.hid (by rw [hW7]; exact Go.Deep.blk_alloc_new _ _)
  have HEW7 := Lib.hid hW7
  clear bb hW7 ka kb kc
  go_wp2_with fail
  rw [← HEW7.out]
  clear ya0 ya1 ya2 yb0 yb1 yb2 yc0 yc1 yc2
  refine (Q3.out W7 HW7.out).mono ?_
  rintro e w8 ⟨rfl, hb8⟩
  have Hw8 := Lib.hid (HW7.out.trans (hb8.mono HW7.out.size))
  have ka := part_on Ka.out hb8
  have kb := part_on Kb.out hb8
  have kc := part_on Kc.out hb8
  have kd := part_on Kd.out hb8
  clear Ka Kb Kc Kd hb8
  obtain ⟨ya0, ya1, ya2⟩ := part_at ka
  obtain ⟨yb0, yb1, yb2⟩ := part_at kb
  obtain ⟨yc0, yc1, yc2⟩ := part_at kc
  obtain ⟨yd0, yd1, yd2⟩ := part_at kd
  obtain ⟨W8, hW8⟩ : ∃ W, W = w8.alloc (.cells #[.string x1, .string x2] 24) := ⟨_, rfl⟩
  have bb : Below w8.heap.size w8 W8 := by rw [hW8]; exact (Below.refl _ _).alloc (Nat.le_refl _) _
  have Ka := Lib.hid (part_on ka bb)
  have Kb := Lib.hid (part_on kb bb)
  have Kc := Lib.hid (part_on kc bb)
  have Kd := Lib.hid (part_on kd bb)
  have HW8 := Lib.hid (Hw8.out.trans (bb.mono Hw8.out.size))
  have Kx : Hid (W8.heap[w8.heap.size]? = some (partO x1 x2)) := Lib.hid (by rw [hW8]; exact Go.Deep.blk_alloc_new _ _)
  have HEW8 := Lib.hid hW8
  clear bb hW8 ka kb kc kd
  go_wp2_with fail
  rw [← HEW8.out]
  clear ya0 ya1 ya2 yb0 yb1 yb2 yc0 yc1 yc2 yd0 yd1 yd2
  refine (Q4.out W8 HW8.out).mono ?_
  rintro e w9 ⟨rfl, hb9⟩
  have Hw9 := Lib.hid (HW8.out.trans (hb9.mono HW8.out.size))
  have ka := part_on Ka.out hb9
  have kb := part_on Kb.out hb9
  have kc := part_on Kc.out hb9
  have kd := part_on Kd.out hb9
  have kx := part_on Kx.out hb9
  clear Ka Kb Kc Kd Kx hb9
  obtain ⟨ya0, ya1, ya2⟩ := part_at ka
  obtain ⟨yb0, yb1, yb2⟩ := part_at kb
  obtain ⟨yc0, yc1, yc2⟩ := part_at kc
  obtain ⟨yd0, yd1, yd2⟩ := part_at kd
  obtain ⟨yx0, yx1, yx2⟩ := part_at kx
  obtain ⟨W9, hW9⟩ : ∃ W, W = w9.alloc (.cells #[.string y1, .string y2] 24) := ⟨_, rfl⟩
  have bb : Below w9.heap.size w9 W9 := by rw [hW9]; exact (Below.refl _ _).alloc (Nat.le_refl _) _
  have Ka := Lib.hid (part_on ka bb)
  have Kb := Lib.hid (part_on kb bb)
  have Kc := Lib.hid (part_on kc bb)
  have Kd := Lib.hid (part_on kd bb)
  have Kx := Lib.hid (part_on kx bb)
  have HW9 := Lib.hid (Hw9.out.trans (bb.mono Hw9.out.size))
  have Ky : Hid (W9.heap[w9.heap.size]? = some (partO y1 y2)) := Lib.hid (by rw [hW9]; exact Go.Deep.blk_alloc_new _ _)
  have HEW9 := Lib.hid hW9
  clear bb hW9 ka kb kc kd kx
  go_wp2_with fail
  rw [← HEW9.out]
  clear ya0 ya1 ya2 yb0 yb1 yb2 yc0 yc1 yc2 yd0 yd1 yd2 yx0 yx1 yx2
  refine (Q5.out W9 HW9.out).mono ?_
  rintro e w10 ⟨rfl, hb10⟩
  have Hw10 := Lib.hid (HW9.out.trans (hb10.mono HW9.out.size))
  have ka := part_on Ka.out hb10
  have kb := part_on Kb.out hb10
  have kc := part_on Kc.out hb10
  have kd := part_on Kd.out hb10
  have kx := part_on Kx.out hb10
  have ky := part_on Ky.out hb10
  clear Ka Kb Kc Kd Kx Ky hb10
  obtain ⟨ya0, ya1, ya2⟩ := part_at ka
  obtain ⟨yb0, yb1, yb2⟩ := part_at kb
  obtain ⟨yc0, yc1, yc2⟩ := part_at kc
  obtain ⟨yd0, yd1, yd2⟩ := part_at kd
  obtain ⟨yx0, yx1, yx2⟩ := part_at kx
  obtain ⟨yy0, yy1, yy2⟩ := part_at ky
  obtain ⟨W10, hW10⟩ : ∃ W, W = w10.alloc (.cells #[.string p1, .string p2] 24) := ⟨_, rfl⟩
  have bb : Below w10.heap.size w10 W10 := by rw [hW10]; exact (Below.refl _ _).alloc (Nat.le_refl _) _
  have Ka := Lib.hid (part_on ka bb)
  have Kb := Lib.hid (part_on kb bb)
  have Kc := Lib.hid (part_on kc bb)
  have Kd := Lib.hid (part_on kd bb)
  have Kx := Lib.hid (part_on kx bb)
  have Ky := Lib.hid (part_on ky bb)
  have HW10 := Lib.hid (Hw10.out.trans (bb.mono Hw10.out.size))
  have Kp : Hid (W10.heap[w10.heap.size]? = some (partO p1 p2)) := Lib.hid (by rw [hW10]; exact Go.Deep.blk_alloc_new _ _)
  have HEW10 := Lib.hid hW10
  clear bb hW10 ka kb kc kd kx ky
  go_wp2_with fail
  rw [← HEW10.out]
  clear ya0 ya1 ya2 yb0 yb1 yb2 yc0 yc1 yc2 yd0 yd1 yd2 yx0 yx1 yx2 yy0 yy1 yy2
  refine (Q6.out W10 HW10.out).mono ?_
  rintro e w11 ⟨rfl, hb11⟩
  have Hw11 := Lib.hid (HW10.out.trans (hb11.mono HW10.out.size))
  have ka := part_on Ka.out hb11
  have kb := part_on Kb.out hb11
  have kc := part_on Kc.out hb11
  have kd := part_on Kd.out hb11
  have kx := part_on Kx.out hb11
  have ky := part_on Ky.out hb11
  have kp := part_on Kp.out hb11
  clear Ka Kb Kc Kd Kx Ky Kp hb11
  obtain ⟨ya0, ya1, ya2⟩ := part_at ka
  obtain ⟨yb0, yb1, yb2⟩ := part_at kb
  obtain ⟨yc0, yc1, yc2⟩ := part_at kc
  obtain ⟨yd0, yd1, yd2⟩ := part_at kd
  obtain ⟨yx0, yx1, yx2⟩ := part_at kx
  obtain ⟨yy0, yy1, yy2⟩ := part_at ky
  obtain ⟨yp0, yp1, yp2⟩ := part_at kp
  obtain ⟨W11, hW11⟩ : ∃ W, W = w11.alloc (.cells #[.string r1, .string r2] 24) := ⟨_, rfl⟩
  have bb : Below w11.heap.size w11 W11 := by rw [hW11]; exact (Below.refl _ _).alloc (Nat.le_refl _) _
  have Ka := Lib.hid (part_on ka bb)
  have Kb := Lib.hid (part_on kb bb)
  have Kc := Lib.hid (part_on kc bb)
  have Kd := Lib.hid (part_on kd bb)
  have Kx := Lib.hid (part_on kx bb)
  have Ky := Lib.hid (part_on ky bb)
  have Kp := Lib.hid (part_on kp bb)
  have HW11 := Lib.hid (Hw11.out.trans (bb.mono Hw11.out.size))
  have Kr : Hid (W11.heap[w11.heap.size]? = some (partO r1 r2)) := Lib.hid (by rw [hW11]; exact Go.Deep.blk_alloc_new _ _)
  have HEW11 := Lib.hid hW11
  clear bb hW11 ka kb kc kd kx ky kp
  go_wp2_with fail
  rw [← HEW11.out]
  clear ya0 ya1 ya2 yb0 yb1 yb2 yc0 yc1 yc2 yd0 yd1 yd2 yx0 yx1 yx2 yy0 yy1 yy2 yp0 yp1 yp2
  have hc0 : ¬ c1 = ⟨#[48]⟩ := HCZ.out
  have hc0l : ¬ c1.toList = [48] := fun h => hc0 (list_inj (h.trans (by rw [ByteArray.toList_eq])))
  have hc0b : (c1.toList == [48]) = false := beq_eq_false_iff_ne.2 hc0l
  obtain ⟨rfl, rfl⟩ := Prod.mk.inj HEQ.out
  refine (C3.out W11 HW11.out).mono ?_
  rintro e w12 ⟨rfl, hb12⟩
  have Hw12 := Lib.hid (HW11.out.trans (hb12.mono HW11.out.size))
  have ka := part_on Ka.out hb12
  have kb := part_on Kb.out hb12
  have kc := part_on Kc.out hb12
  have kd := part_on Kd.out hb12
  have kx := part_on Kx.out hb12
  have ky := part_on Ky.out hb12
  have kp := part_on Kp.out hb12
  have kr := part_on Kr.out hb12
  clear Ka Kb Kc Kd Kx Ky Kp Kr hb12
  obtain ⟨ya0, ya1, ya2⟩ := part_at ka
  obtain ⟨yb0, yb1, yb2⟩ := part_at kb
  obtain ⟨yc0, yc1, yc2⟩ := part_at kc
  obtain ⟨yd0, yd1, yd2⟩ := part_at kd
  obtain ⟨yx0, yx1, yx2⟩ := part_at kx
  obtain ⟨yy0, yy1, yy2⟩ := part_at ky
  obtain ⟨yp0, yp1, yp2⟩ := part_at kp
  obtain ⟨yr0, yr1, yr2⟩ := part_at kr
  have Ka := Lib.hid ka
  have Kb := Lib.hid kb
  have Kc := Lib.hid kc
  have Kd := Lib.hid kd
  have Kx := Lib.hid kx
  have Ky := Lib.hid ky
  have Kp := Lib.hid kp
  have Kr := Lib.hid kr
  clear ka kb kc kd kx ky kp kr
  go_wp2_with fail
  clear ya0 ya1 ya2 yb0 yb1 yb2 yc0 yc1 yc2 yd0 yd1 yd2 yx0 yx1 yx2 yy0 yy1 yy2 yp0 yp1 yp2 yr0 yr1 yr2
  refine (C2.out w12 Hw12.out).mono ?_
  rintro e w13 ⟨rfl, hb13⟩
  have Hw13 := Lib.hid (Hw12.out.trans (hb13.mono Hw12.out.size))
  have ka := part_on Ka.out hb13
  have kb := part_on Kb.out hb13
  have kc := part_on Kc.out hb13
  have kd := part_on Kd.out hb13
  have kx := part_on Kx.out hb13
  have ky := part_on Ky.out hb13
  have kp := part_on Kp.out hb13
  have kr := part_on Kr.out hb13
  clear Ka Kb Kc Kd Kx Ky Kp Kr hb13
  obtain ⟨ya0, ya1, ya2⟩ := part_at ka
  obtain ⟨yb0, yb1, yb2⟩ := part_at kb
  obtain ⟨yc0, yc1, yc2⟩ := part_at kc
  obtain ⟨yd0, yd1, yd2⟩ := part_at kd
  obtain ⟨yx0, yx1, yx2⟩ := part_at kx
  obtain ⟨yy0, yy1, yy2⟩ := part_at ky
  obtain ⟨yp0, yp1, yp2⟩ := part_at kp
  obtain ⟨yr0, yr1, yr2⟩ := part_at kr
  have Ka := Lib.hid ka
  have Kb := Lib.hid kb
  have Kc := Lib.hid kc
  have Kd := Lib.hid kd
  have Kx := Lib.hid kx
  have Ky := Lib.hid ky
  have Kp := Lib.hid kp
  have Kr := Lib.hid kr
  clear ka kb kc kd kx ky kp kr
  go_wp2_with fail
  clear ya0 ya1 ya2 yb0 yb1 yb2 yc0 yc1 yc2 yd0 yd1 yd2 yx0 yx1 yx2 yy0 yy1 yy2 yp0 yp1 yp2 yr0 yr1 yr2
  refine (C4.out w13 Hw13.out).mono ?_
  rintro e w14 ⟨rfl, hb14⟩
  have Hw14 := Lib.hid (Hw13.out.trans (hb14.mono Hw13.out.size))
  have ka := part_on Ka.out hb14
  have kb := part_on Kb.out hb14
  have kc := part_on Kc.out hb14
  have kd := part_on Kd.out hb14
  have kx := part_on Kx.out hb14
  have ky := part_on Ky.out hb14
  have kp := part_on Kp.out hb14
  have kr := part_on Kr.out hb14
  clear Ka Kb Kc Kd Kx Ky Kp Kr hb14
  obtain ⟨ya0, ya1, ya2⟩ := part_at ka
  obtain ⟨yb0, yb1, yb2⟩ := part_at kb
  obtain ⟨yc0, yc1, yc2⟩ := part_at kc
  obtain ⟨yd0, yd1, yd2⟩ := part_at kd
  obtain ⟨yx0, yx1, yx2⟩ := part_at kx
  obtain ⟨yy0, yy1, yy2⟩ := part_at ky
  obtain ⟨yp0, yp1, yp2⟩ := part_at kp
  obtain ⟨yr0, yr1, yr2⟩ := part_at kr
  have Ka := Lib.hid ka
  have Kb := Lib.hid kb
  have Kc := Lib.hid kc
  have Kd := Lib.hid kd
  have Kx := Lib.hid kx
  have Ky := Lib.hid ky
  have Kp := Lib.hid kp
  have Kr := Lib.hid kr
  clear ka kb kc kd kx ky kp kr
  go_wp2_with fail
  clear ya0 ya1 ya2 yb0 yb1 yb2 yc0 yc1 yc2 yd0 yd1 yd2 yx0 yx1 yx2 yy0 yy1 yy2 yp0 yp1 yp2 yr0 yr1 yr2
  exact bodyPost_ret (v := .bool true) (by simp [results, hc0b, Tryz.results5, go_sem]) rfl ⟨rfl, Hw14.out⟩

set_option maxRecDepth 100000 in
set_option maxHeartbeats 8000000 in
theorem orders_gt_z (a1 a2 b1 b2 c1 c2 : ByteArray) (ha : okP (a1, a2) = true) (hb : okP (b1, b2) = true) (hc : okP (c1, c2) = true) (sa : shortP 60 (a1, a2) = true) (sb : shortP 60 (b1, b2) = true) (sc : shortP 60 (c1, c2) = true) (hn : (pv (b1, b2)).1 * (pv (a1, a2)).2 < (pv (a1, a2)).1 * (pv (b1, b2)).2) (hcz : c1 = zeroB) (w : World) (ht : Tens w) (h0 : 0 < w.heap.size) :
    Calls Tryz.prog 5 #[.agg #[.string a1, .string a2], .agg #[.string b1, .string b2], .agg #[.string c1, .string c2]] w fun e w' => e = .returned (.bool true) ∧ Below w.heap.size w w' := by
  have HT : ∀ W, Below w.heap.size w W → Tens W := fun W hW j hj => cell_later hW (ht j hj)
  have HAL : Hid (∀ W, Below w.heap.size w W → Calls Tryz.prog 20 #[] W fun e w' => e = .returned (.bool true) ∧ Below W.heap.size W w') := Lib.hid fun W hW => alive_any W (HT W hW) (by have := hW.size; omega)
  have sha : a1.size ≤ 60 ∧ a2.size ≤ 60 := by unfold shortP at sa; simpa using sa
  have shb : b1.size ≤ 60 ∧ b2.size ≤ 60 := by unfold shortP at sb; simpa using sb
  have shc : c1.size ≤ 60 ∧ c2.size ≤ 60 := by unfold shortP at sc; simpa using sc
  have mA := sm_of (k := 60) ha sha.1 sha.2
  have mB := sm_of (k := 60) hb shb.1 shb.2
  have mC := sm_of (k := 60) hc shc.1 shc.2
  have eA := pt_pv ha; have eB := pt_pv hb; have eC := pt_pv hc
  have hzz := num_zero hc
  have hcmp : cmpF (pv (a1, a2)) (pv (b1, b2)) = 1 := cmpF_gt hn
  have C1 := useCmp HT ha hb hcmp
  have C2 := useCmp (z := (-1)) HT hb ha (by rw [cmpF_swap, hcmp] <;> rfl)
  have heq : ¬ (a1, a2) = (b1, b2) := fun h => by rw [h] at hn; exact Nat.lt_irrefl _ hn
  obtain ⟨⟨d1, d2⟩, hsub⟩ : ∃ r, subS (a1, a2) (b1, b2) = (r, 0) := ⟨_, (subS_ok ha hb (by omega)).trans (res_sm (k := 120) (low_sm (Nat.mul_pos mA.fr.pos mB.fr.pos) (Nat.lt_of_le_of_lt (Nat.sub_le _ _) (by rw [show (120:Nat) = 60 + 60 from rfl, Nat.pow_add]; exact Nat.mul_lt_mul'' mA.n mB.d)) (by rw [show (120:Nat) = 60 + 60 from rfl, Nat.pow_add]; exact Nat.mul_lt_mul'' mA.d mB.d)) (by decide))⟩
  have Q2 := useSub HT hsub ha hb
  generalize hgA : pv (a1, a2) = A at *
  generalize hgB : pv (b1, b2) = B at *
  generalize hgC : pv (c1, c2) = C at *
  have m1 := mA.add mC (m := 121) rfl; have m2 := mB.add mC (m := 121) rfl; have m3 := mA.mul mC (m := 120) rfl; have m4 := mB.mul mC (m := 120) rfl
  have q3 := add_pt mA mC (by decide); have q4 := add_pt mB mC (by decide); have q5 := mul_pt mA mC (by decide); have q6 := mul_pt mB mC (by decide)
  have o1 := pt_ok m1 (by decide); have o2 := pt_ok m2 (by decide); have o3 := pt_ok m3 (by decide); have o4 := pt_ok m4 (by decide)
  have v1 := pv_pt (addF A C); have v2 := pv_pt (addF B C); have v3 := pv_pt (mulF A C); have v4 := pv_pt (mulF B C)
  rw [eA, eC] at q3 q5; rw [eB, eC] at q4 q6
  obtain ⟨⟨x1, x2⟩, hx⟩ : ∃ r, ptOf (addF A C) = r := ⟨_, rfl⟩
  obtain ⟨⟨y1, y2⟩, hy⟩ : ∃ r, ptOf (addF B C) = r := ⟨_, rfl⟩
  obtain ⟨⟨p1, p2⟩, hp⟩ : ∃ r, ptOf (mulF A C) = r := ⟨_, rfl⟩
  obtain ⟨⟨r1, r2⟩, hr⟩ : ∃ r, ptOf (mulF B C) = r := ⟨_, rfl⟩
  rw [hx] at q3 o1 v1; rw [hy] at q4 o2 v2; rw [hp] at q5 o3 v3; rw [hr] at q6 o4 v4
  have Q3 := useAdd HT q3 ha hc; have Q4 := useAdd HT q4 hb hc; have Q5 := useMul HT q5 ha hc; have Q6 := useMul HT q6 hb hc
  have C3 := useCmp (z := 0) HT o3 o4 (by rw [v3, v4]; exact cmpF_prod0 mA.fr mB.fr mC.fr (by rw [hzz]; exact hcz))
  have C4 := useCmp (z := 1) HT o1 o2 (by rw [v1, v2]; exact (cmpF_sum mA.fr mB.fr mC.fr).trans hcmp)
  have U1 := useChk HT ha; have U2 := useChk HT hb; have U3 := useChk HT hc
  have HSH := Lib.hid (And.intro sa (And.intro sb sc)); have HEQ := Lib.hid heq; have HCZ := Lib.hid hcz
  clear q3 q4 q5 q6 o1 o2 o3 o4 v1 v2 v3 v4 m1 m2 m3 m4 mA mB mC eA eB eC hx hy hp hr hsub hcmp hn heq hcz hzz sha shb shc sa sb sc HT ht ha hb hc hgA hgB hgC
  obtain ⟨V1, hV1⟩ : ∃ W, W = w.alloc (.cells #[.string a1, .string a2] 24) := ⟨_, rfl⟩
  obtain ⟨V2, hV2⟩ : ∃ W, W = V1.alloc (.cells #[.string b1, .string b2] 24) := ⟨_, rfl⟩
  obtain ⟨V3, hV3⟩ : ∃ W, W = V2.alloc (.cells #[.string c1, .string c2] 24) := ⟨_, rfl⟩
  have v01 : Below w.heap.size w V1 := by rw [hV1]; exact (Below.refl _ _).alloc (Nat.le_refl _) _
  have v12 : Below V1.heap.size V1 V2 := by rw [hV2]; exact (Below.refl _ _).alloc (Nat.le_refl _) _
  have v23 : Below V2.heap.size V2 V3 := by rw [hV3]; exact (Below.refl _ _).alloc (Nat.le_refl _) _
  have z1 : V1.heap.size = w.heap.size + 1 := by rw [hV1, World.size_alloc]
  have z2 : V2.heap.size = w.heap.size + 1 + 1 := by rw [hV2, World.size_alloc, z1]
  have ka : V3.heap[w.heap.size]? = some (partO a1 a2) := part_on (part_on (by rw [hV1]; exact Go.Deep.blk_alloc_new _ _) v12) v23
  have kb : V3.heap[w.heap.size + 1]? = some (partO b1 b2) := part_on (by rw [← z1, hV2]; exact Go.Deep.blk_alloc_new _ _) v23
  have kc : V3.heap[w.heap.size + 1 + 1]? = some (partO c1 c2) := by rw [← z2, hV3]; exact Go.Deep.blk_alloc_new _ _
  have HB := Lib.hid (v01.trans ((below_chain v12 v23).mono v01.size))
  have HV1 := Lib.hid hV1; have HV2 := Lib.hid hV2; have HV3 := Lib.hid hV3; have Ka := Lib.hid ka; have Kb := Lib.hid kb; have Kc := Lib.hid kc
  clear hV1 hV2 hV3 v01 v12 v23 z1 z2 ka kb kc
  go_enter Tryz.func5, Tryz.ntmps5
  go_wp2_with fail
  rw [← HV1.out, ← HV2.out, ← HV3.out]
  refine (HAL.out V3 HB.out).mono ?_
  rintro e w1 ⟨rfl, hb1⟩
  have Hw1 := Lib.hid (HB.out.trans (hb1.mono HB.out.size))
  have ka := part_on Ka.out hb1
  have kb := part_on Kb.out hb1
  have kc := part_on Kc.out hb1
  clear Ka Kb Kc hb1
  obtain ⟨ya0, ya1, ya2⟩ := part_at ka
  obtain ⟨yb0, yb1, yb2⟩ := part_at kb
  obtain ⟨yc0, yc1, yc2⟩ := part_at kc
  obtain ⟨W1, hW1⟩ : ∃ W, W = w1.alloc (.cells #[.string a1, .string a2, .string b1, .string b2, .string c1, .string c2] 24) := ⟨_, rfl⟩
  have bb : Below w1.heap.size w1 W1 := by rw [hW1]; exact (Below.refl _ _).alloc (Nat.le_refl _) _
  have Ka := Lib.hid (part_on ka bb)
  have Kb := Lib.hid (part_on kb bb)
  have Kc := Lib.hid (part_on kc bb)
  have HW1 := Lib.hid (Hw1.out.trans (bb.mono Hw1.out.size))
  have kk : W1.heap[w1.heap.size]? = some (.cells #[.string a1, .string a2, .string b1, .string b2, .string c1, .string c2] 24 (0, 0)) := by rw [hW1]; exact Go.Deep.blk_alloc_new _ _
  have KK := Lib.hid kk
  clear kk
  have HEW1 := Lib.hid hW1
  clear bb hW1 ka kb kc
  go_wp2_with fail
  rw [← HEW1.out]
  clear ya0 ya1 ya2 yb0 yb1 yb2 yc0 yc1 yc2
  have hsh := short_any 60 [(a1, a2), (b1, b2), (c1, c2)] (.slice (some ⟨w1.heap.size, 0, none⟩) 3 3) W1 (.inr ⟨w1.heap.size, 0, 3, rfl, by simp, by decide, (Array.getElem?_eq_some_iff.1 KK.out).1, fun i hi => by
    match i, hi with
    | 0, _ => exact ⟨by rw [set_cells KK.out]; rfl, by rw [set_cells KK.out]; rfl⟩
    | 1, _ => exact ⟨by rw [set_cells KK.out]; rfl, by rw [set_cells KK.out]; rfl⟩
    | 2, _ => exact ⟨by rw [set_cells KK.out]; rfl, by rw [set_cells KK.out]; rfl⟩⟩) (by simp) (by decide)
  have hall : [(a1, a2), (b1, b2), (c1, c2)].all (shortP 60) = true := by
    simp only [List.all_cons, List.all_nil, HSH.out.1, HSH.out.2.1, HSH.out.2.2, Bool.and_self]
  rw [hall] at hsh
  have HSHORT := Lib.hid hsh
  clear hsh hall KK
  refine (HSHORT.out).mono ?_
  rintro e w2 ⟨rfl, hb2⟩
  have Hw2 := Lib.hid (HW1.out.trans (hb2.mono HW1.out.size))
  have ka := part_on Ka.out hb2
  have kb := part_on Kb.out hb2
  have kc := part_on Kc.out hb2
  clear Ka Kb Kc hb2
  obtain ⟨ya0, ya1, ya2⟩ := part_at ka
  obtain ⟨yb0, yb1, yb2⟩ := part_at kb
  obtain ⟨yc0, yc1, yc2⟩ := part_at kc
  have Ka := Lib.hid ka
  have Kb := Lib.hid kb
  have Kc := Lib.hid kc
  clear ka kb kc
  go_wp2_with fail
  clear ya0 ya1 ya2 yb0 yb1 yb2 yc0 yc1 yc2
  refine (U1.out w2 Hw2.out).mono ?_
  rintro e w3 ⟨rfl, hb3⟩
  have Hw3 := Lib.hid (Hw2.out.trans (hb3.mono Hw2.out.size))
  have ka := part_on Ka.out hb3
  have kb := part_on Kb.out hb3
  have kc := part_on Kc.out hb3
  clear Ka Kb Kc hb3
  obtain ⟨ya0, ya1, ya2⟩ := part_at ka
  obtain ⟨yb0, yb1, yb2⟩ := part_at kb
  obtain ⟨yc0, yc1, yc2⟩ := part_at kc
  have Ka := Lib.hid ka
  have Kb := Lib.hid kb
  have Kc := Lib.hid kc
  clear ka kb kc
  go_wp2_with fail
  clear ya0 ya1 ya2 yb0 yb1 yb2 yc0 yc1 yc2
  refine (U2.out w3 Hw3.out).mono ?_
  rintro e w4 ⟨rfl, hb4⟩
  have Hw4 := Lib.hid (Hw3.out.trans (hb4.mono Hw3.out.size))
  have ka := part_on Ka.out hb4
  have kb := part_on Kb.out hb4
  have kc := part_on Kc.out hb4
  clear Ka Kb Kc hb4
  obtain ⟨ya0, ya1, ya2⟩ := part_at ka
  obtain ⟨yb0, yb1, yb2⟩ := part_at kb
  obtain ⟨yc0, yc1, yc2⟩ := part_at kc
  have Ka := Lib.hid ka
  have Kb := Lib.hid kb
  have Kc := Lib.hid kc
  clear ka kb kc
  go_wp2_with fail
  clear ya0 ya1 ya2 yb0 yb1 yb2 yc0 yc1 yc2
  refine (U3.out w4 Hw4.out).mono ?_
  rintro e w5 ⟨rfl, hb5⟩
  have Hw5 := Lib.hid (Hw4.out.trans (hb5.mono Hw4.out.size))
  have ka := part_on Ka.out hb5
  have kb := part_on Kb.out hb5
  have kc := part_on Kc.out hb5
  clear Ka Kb Kc hb5
  obtain ⟨ya0, ya1, ya2⟩ := part_at ka
  obtain ⟨yb0, yb1, yb2⟩ := part_at kb
  obtain ⟨yc0, yc1, yc2⟩ := part_at kc
  have Ka := Lib.hid ka
  have Kb := Lib.hid kb
  have Kc := Lib.hid kc
  clear ka kb kc
  go_wp2_with fail
  clear ya0 ya1 ya2 yb0 yb1 yb2 yc0 yc1 yc2
  refine (C1.out w5 Hw5.out).mono ?_
  rintro e w6 ⟨rfl, hb6⟩
  have Hw6 := Lib.hid (Hw5.out.trans (hb6.mono Hw5.out.size))
  have ka := part_on Ka.out hb6
  have kb := part_on Kb.out hb6
  have kc := part_on Kc.out hb6
  clear Ka Kb Kc hb6
  obtain ⟨ya0, ya1, ya2⟩ := part_at ka
  obtain ⟨yb0, yb1, yb2⟩ := part_at kb
  obtain ⟨yc0, yc1, yc2⟩ := part_at kc
  have Ka := Lib.hid ka
  have Kb := Lib.hid kb
  have Kc := Lib.hid kc
  clear ka kb kc
  go_wp2_with fail
  clear ya0 ya1 ya2 yb0 yb1 yb2 yc0 yc1 yc2
  refine (Q2.out w6 Hw6.out).mono ?_
  rintro e w7 ⟨rfl, hb7⟩
  have Hw7 := Lib.hid (Hw6.out.trans (hb7.mono Hw6.out.size))
  have ka := part_on Ka.out hb7
  have kb := part_on Kb.out hb7
  have kc := part_on Kc.out hb7
  clear Ka Kb Kc hb7
  obtain ⟨ya0, ya1, ya2⟩ := part_at ka
  obtain ⟨yb0, yb1, yb2⟩ := part_at kb
  obtain ⟨yc0, yc1, yc2⟩ := part_at kc
  obtain ⟨W7, hW7⟩ : ∃ W, W = w7.alloc (.cells #[.string d1, .string d2] 24) := ⟨_, rfl⟩
  have bb : Below w7.heap.size w7 W7 := by rw [hW7]; exact (Below.refl _ _).alloc (Nat.le_refl _) _
  have Ka := Lib.hid (part_on ka bb)
  have Kb := Lib.hid (part_on kb bb)
  have Kc := Lib.hid (part_on kc bb)
  have HW7 := Lib.hid (Hw7.out.trans (bb.mono Hw7.out.size))
  have Kd : Hid (W7.heap[w7.heap.size]? = some (partO d1 d2)) := Lib.hid (by rw [hW7]; exact Go.Deep.blk_alloc_new _ _)
  have HEW7 := Lib.hid hW7
  clear bb hW7 ka kb kc
  go_wp2_with fail
  rw [← HEW7.out]
  clear ya0 ya1 ya2 yb0 yb1 yb2 yc0 yc1 yc2
  refine (Q3.out W7 HW7.out).mono ?_
  rintro e w8 ⟨rfl, hb8⟩
  have Hw8 := Lib.hid (HW7.out.trans (hb8.mono HW7.out.size))
  have ka := part_on Ka.out hb8
  have kb := part_on Kb.out hb8
  have kc := part_on Kc.out hb8
  have kd := part_on Kd.out hb8
  clear Ka Kb Kc Kd hb8
  obtain ⟨ya0, ya1, ya2⟩ := part_at ka
  obtain ⟨yb0, yb1, yb2⟩ := part_at kb
  obtain ⟨yc0, yc1, yc2⟩ := part_at kc
  obtain ⟨yd0, yd1, yd2⟩ := part_at kd
  obtain ⟨W8, hW8⟩ : ∃ W, W = w8.alloc (.cells #[.string x1, .string x2] 24) := ⟨_, rfl⟩
  have bb : Below w8.heap.size w8 W8 := by rw [hW8]; exact (Below.refl _ _).alloc (Nat.le_refl _) _
  have Ka := Lib.hid (part_on ka bb)
  have Kb := Lib.hid (part_on kb bb)
  have Kc := Lib.hid (part_on kc bb)
  have Kd := Lib.hid (part_on kd bb)
  have HW8 := Lib.hid (Hw8.out.trans (bb.mono Hw8.out.size))
  have Kx : Hid (W8.heap[w8.heap.size]? = some (partO x1 x2)) := Lib.hid (by rw [hW8]; exact Go.Deep.blk_alloc_new _ _)
  have HEW8 := Lib.hid hW8
  clear bb hW8 ka kb kc kd
  go_wp2_with fail
  rw [← HEW8.out]
  clear ya0 ya1 ya2 yb0 yb1 yb2 yc0 yc1 yc2 yd0 yd1 yd2
  refine (Q4.out W8 HW8.out).mono ?_
  rintro e w9 ⟨rfl, hb9⟩
  have Hw9 := Lib.hid (HW8.out.trans (hb9.mono HW8.out.size))
  have ka := part_on Ka.out hb9
  have kb := part_on Kb.out hb9
  have kc := part_on Kc.out hb9
  have kd := part_on Kd.out hb9
  have kx := part_on Kx.out hb9
  clear Ka Kb Kc Kd Kx hb9
  obtain ⟨ya0, ya1, ya2⟩ := part_at ka
  obtain ⟨yb0, yb1, yb2⟩ := part_at kb
  obtain ⟨yc0, yc1, yc2⟩ := part_at kc
  obtain ⟨yd0, yd1, yd2⟩ := part_at kd
  obtain ⟨yx0, yx1, yx2⟩ := part_at kx
  obtain ⟨W9, hW9⟩ : ∃ W, W = w9.alloc (.cells #[.string y1, .string y2] 24) := ⟨_, rfl⟩
  have bb : Below w9.heap.size w9 W9 := by rw [hW9]; exact (Below.refl _ _).alloc (Nat.le_refl _) _
  have Ka := Lib.hid (part_on ka bb)
  have Kb := Lib.hid (part_on kb bb)
  have Kc := Lib.hid (part_on kc bb)
  have Kd := Lib.hid (part_on kd bb)
  have Kx := Lib.hid (part_on kx bb)
  have HW9 := Lib.hid (Hw9.out.trans (bb.mono Hw9.out.size))
  have Ky : Hid (W9.heap[w9.heap.size]? = some (partO y1 y2)) := Lib.hid (by rw [hW9]; exact Go.Deep.blk_alloc_new _ _)
  have HEW9 := Lib.hid hW9
  clear bb hW9 ka kb kc kd kx
  go_wp2_with fail
  rw [← HEW9.out]
  clear ya0 ya1 ya2 yb0 yb1 yb2 yc0 yc1 yc2 yd0 yd1 yd2 yx0 yx1 yx2
  refine (Q5.out W9 HW9.out).mono ?_
  rintro e w10 ⟨rfl, hb10⟩
  have Hw10 := Lib.hid (HW9.out.trans (hb10.mono HW9.out.size))
  have ka := part_on Ka.out hb10
  have kb := part_on Kb.out hb10
  have kc := part_on Kc.out hb10
  have kd := part_on Kd.out hb10
  have kx := part_on Kx.out hb10
  have ky := part_on Ky.out hb10
  clear Ka Kb Kc Kd Kx Ky hb10
  obtain ⟨ya0, ya1, ya2⟩ := part_at ka
  obtain ⟨yb0, yb1, yb2⟩ := part_at kb
  obtain ⟨yc0, yc1, yc2⟩ := part_at kc
  obtain ⟨yd0, yd1, yd2⟩ := part_at kd
  obtain ⟨yx0, yx1, yx2⟩ := part_at kx
  obtain ⟨yy0, yy1, yy2⟩ := part_at ky
  obtain ⟨W10, hW10⟩ : ∃ W, W = w10.alloc (.cells #[.string p1, .string p2] 24) := ⟨_, rfl⟩
  have bb : Below w10.heap.size w10 W10 := by rw [hW10]; exact (Below.refl _ _).alloc (Nat.le_refl _) _
  have Ka := Lib.hid (part_on ka bb)
  have Kb := Lib.hid (part_on kb bb)
  have Kc := Lib.hid (part_on kc bb)
  have Kd := Lib.hid (part_on kd bb)
  have Kx := Lib.hid (part_on kx bb)
  have Ky := Lib.hid (part_on ky bb)
  have HW10 := Lib.hid (Hw10.out.trans (bb.mono Hw10.out.size))
  have Kp : Hid (W10.heap[w10.heap.size]? = some (partO p1 p2)) := Lib.hid (by rw [hW10]; exact Go.Deep.blk_alloc_new _ _)
  have HEW10 := Lib.hid hW10
  clear bb hW10 ka kb kc kd kx ky
  go_wp2_with fail
  rw [← HEW10.out]
  clear ya0 ya1 ya2 yb0 yb1 yb2 yc0 yc1 yc2 yd0 yd1 yd2 yx0 yx1 yx2 yy0 yy1 yy2
  refine (Q6.out W10 HW10.out).mono ?_
  rintro e w11 ⟨rfl, hb11⟩
  have Hw11 := Lib.hid (HW10.out.trans (hb11.mono HW10.out.size))
  have ka := part_on Ka.out hb11
  have kb := part_on Kb.out hb11
  have kc := part_on Kc.out hb11
  have kd := part_on Kd.out hb11
  have kx := part_on Kx.out hb11
  have ky := part_on Ky.out hb11
  have kp := part_on Kp.out hb11
  clear Ka Kb Kc Kd Kx Ky Kp hb11
  obtain ⟨ya0, ya1, ya2⟩ := part_at ka
  obtain ⟨yb0, yb1, yb2⟩ := part_at kb
  obtain ⟨yc0, yc1, yc2⟩ := part_at kc
  obtain ⟨yd0, yd1, yd2⟩ := part_at kd
  obtain ⟨yx0, yx1, yx2⟩ := part_at kx
  obtain ⟨yy0, yy1, yy2⟩ := part_at ky
  obtain ⟨yp0, yp1, yp2⟩ := part_at kp
  obtain ⟨W11, hW11⟩ : ∃ W, W = w11.alloc (.cells #[.string r1, .string r2] 24) := ⟨_, rfl⟩
  have bb : Below w11.heap.size w11 W11 := by rw [hW11]; exact (Below.refl _ _).alloc (Nat.le_refl _) _
  have Ka := Lib.hid (part_on ka bb)
  have Kb := Lib.hid (part_on kb bb)
  have Kc := Lib.hid (part_on kc bb)
  have Kd := Lib.hid (part_on kd bb)
  have Kx := Lib.hid (part_on kx bb)
  have Ky := Lib.hid (part_on ky bb)
  have Kp := Lib.hid (part_on kp bb)
  have HW11 := Lib.hid (Hw11.out.trans (bb.mono Hw11.out.size))
  have Kr : Hid (W11.heap[w11.heap.size]? = some (partO r1 r2)) := Lib.hid (by rw [hW11]; exact Go.Deep.blk_alloc_new _ _)
  have HEW11 := Lib.hid hW11
  clear bb hW11 ka kb kc kd kx ky kp
  go_wp2_with fail
  rw [← HEW11.out]
  clear ya0 ya1 ya2 yb0 yb1 yb2 yc0 yc1 yc2 yd0 yd1 yd2 yx0 yx1 yx2 yy0 yy1 yy2 yp0 yp1 yp2
  have hc0 : c1 = ⟨#[48]⟩ := HCZ.out
  subst hc0
  refine (C3.out W11 HW11.out).mono ?_
  rintro e w12 ⟨rfl, hb12⟩
  have Hw12 := Lib.hid (HW11.out.trans (hb12.mono HW11.out.size))
  have ka := part_on Ka.out hb12
  have kb := part_on Kb.out hb12
  have kc := part_on Kc.out hb12
  have kd := part_on Kd.out hb12
  have kx := part_on Kx.out hb12
  have ky := part_on Ky.out hb12
  have kp := part_on Kp.out hb12
  have kr := part_on Kr.out hb12
  clear Ka Kb Kc Kd Kx Ky Kp Kr hb12
  obtain ⟨ya0, ya1, ya2⟩ := part_at ka
  obtain ⟨yb0, yb1, yb2⟩ := part_at kb
  obtain ⟨yc0, yc1, yc2⟩ := part_at kc
  obtain ⟨yd0, yd1, yd2⟩ := part_at kd
  obtain ⟨yx0, yx1, yx2⟩ := part_at kx
  obtain ⟨yy0, yy1, yy2⟩ := part_at ky
  obtain ⟨yp0, yp1, yp2⟩ := part_at kp
  obtain ⟨yr0, yr1, yr2⟩ := part_at kr
  have Ka := Lib.hid ka
  have Kb := Lib.hid kb
  have Kc := Lib.hid kc
  have Kd := Lib.hid kd
  have Kx := Lib.hid kx
  have Ky := Lib.hid ky
  have Kp := Lib.hid kp
  have Kr := Lib.hid kr
  clear ka kb kc kd kx ky kp kr
  go_wp2_with fail
  clear ya0 ya1 ya2 yb0 yb1 yb2 yc0 yc1 yc2 yd0 yd1 yd2 yx0 yx1 yx2 yy0 yy1 yy2 yp0 yp1 yp2 yr0 yr1 yr2
  by_cases e1 : a1 = b1
  · have e2 : ¬ a2 = b2 := fun h => HEQ.out (Prod.ext e1 h)
    subst e1
    have e2l : ¬ a2.toList = b2.toList := fun h => e2 (list_inj h)
    refine (C2.out w12 Hw12.out).mono ?_
    rintro e w13 ⟨rfl, hb13⟩
    have Hw13 := Lib.hid (Hw12.out.trans (hb13.mono Hw12.out.size))
    have ka := part_on Ka.out hb13
    have kb := part_on Kb.out hb13
    have kc := part_on Kc.out hb13
    have kd := part_on Kd.out hb13
    have kx := part_on Kx.out hb13
    have ky := part_on Ky.out hb13
    have kp := part_on Kp.out hb13
    have kr := part_on Kr.out hb13
    clear Ka Kb Kc Kd Kx Ky Kp Kr hb13
    obtain ⟨ya0, ya1, ya2⟩ := part_at ka
    obtain ⟨yb0, yb1, yb2⟩ := part_at kb
    obtain ⟨yc0, yc1, yc2⟩ := part_at kc
    obtain ⟨yd0, yd1, yd2⟩ := part_at kd
    obtain ⟨yx0, yx1, yx2⟩ := part_at kx
    obtain ⟨yy0, yy1, yy2⟩ := part_at ky
    obtain ⟨yp0, yp1, yp2⟩ := part_at kp
    obtain ⟨yr0, yr1, yr2⟩ := part_at kr
    have Ka := Lib.hid ka
    have Kb := Lib.hid kb
    have Kc := Lib.hid kc
    have Kd := Lib.hid kd
    have Kx := Lib.hid kx
    have Ky := Lib.hid ky
    have Kp := Lib.hid kp
    have Kr := Lib.hid kr
    clear ka kb kc kd kx ky kp kr
    go_wp2_with fail
    clear ya0 ya1 ya2 yb0 yb1 yb2 yc0 yc1 yc2 yd0 yd1 yd2 yx0 yx1 yx2 yy0 yy1 yy2 yp0 yp1 yp2 yr0 yr1 yr2
    refine (C4.out w13 Hw13.out).mono ?_
    rintro e w14 ⟨rfl, hb14⟩
    have Hw14 := Lib.hid (Hw13.out.trans (hb14.mono Hw13.out.size))
    have ka := part_on Ka.out hb14
    have kb := part_on Kb.out hb14
    have kc := part_on Kc.out hb14
    have kd := part_on Kd.out hb14
    have kx := part_on Kx.out hb14
    have ky := part_on Ky.out hb14
    have kp := part_on Kp.out hb14
    have kr := part_on Kr.out hb14
    clear Ka Kb Kc Kd Kx Ky Kp Kr hb14
    obtain ⟨ya0, ya1, ya2⟩ := part_at ka
    obtain ⟨yb0, yb1, yb2⟩ := part_at kb
    obtain ⟨yc0, yc1, yc2⟩ := part_at kc
    obtain ⟨yd0, yd1, yd2⟩ := part_at kd
    obtain ⟨yx0, yx1, yx2⟩ := part_at kx
    obtain ⟨yy0, yy1, yy2⟩ := part_at ky
    obtain ⟨yp0, yp1, yp2⟩ := part_at kp
    obtain ⟨yr0, yr1, yr2⟩ := part_at kr
    have Ka := Lib.hid ka
    have Kb := Lib.hid kb
    have Kc := Lib.hid kc
    have Kd := Lib.hid kd
    have Kx := Lib.hid kx
    have Ky := Lib.hid ky
    have Kp := Lib.hid kp
    have Kr := Lib.hid kr
    clear ka kb kc kd kx ky kp kr
    go_wp2_with fail
    clear ya0 ya1 ya2 yb0 yb1 yb2 yc0 yc1 yc2 yd0 yd1 yd2 yx0 yx1 yx2 yy0 yy1 yy2 yp0 yp1 yp2 yr0 yr1 yr2
    exact bodyPost_ret (v := .bool true) (by simp [results, Tryz.results5, go_sem]) rfl ⟨rfl, Hw14.out⟩
  · have e3 : ¬ b1 = a1 := fun h => e1 h.symm
    have e2l : ¬ a1.toList = b1.toList := fun h => e1 (list_inj h)
    refine (C2.out w12 Hw12.out).mono ?_
    rintro e w13 ⟨rfl, hb13⟩
    have Hw13 := Lib.hid (Hw12.out.trans (hb13.mono Hw12.out.size))
    have ka := part_on Ka.out hb13
    have kb := part_on Kb.out hb13
    have kc := part_on Kc.out hb13
    have kd := part_on Kd.out hb13
    have kx := part_on Kx.out hb13
    have ky := part_on Ky.out hb13
    have kp := part_on Kp.out hb13
    have kr := part_on Kr.out hb13
    clear Ka Kb Kc Kd Kx Ky Kp Kr hb13
    obtain ⟨ya0, ya1, ya2⟩ := part_at ka
    obtain ⟨yb0, yb1, yb2⟩ := part_at kb
    obtain ⟨yc0, yc1, yc2⟩ := part_at kc
    obtain ⟨yd0, yd1, yd2⟩ := part_at kd
    obtain ⟨yx0, yx1, yx2⟩ := part_at kx
    obtain ⟨yy0, yy1, yy2⟩ := part_at ky
    obtain ⟨yp0, yp1, yp2⟩ := part_at kp
    obtain ⟨yr0, yr1, yr2⟩ := part_at kr
    have Ka := Lib.hid ka
    have Kb := Lib.hid kb
    have Kc := Lib.hid kc
    have Kd := Lib.hid kd
    have Kx := Lib.hid kx
    have Ky := Lib.hid ky
    have Kp := Lib.hid kp
    have Kr := Lib.hid kr
    clear ka kb kc kd kx ky kp kr
    go_wp2_with fail
    clear ya0 ya1 ya2 yb0 yb1 yb2 yc0 yc1 yc2 yd0 yd1 yd2 yx0 yx1 yx2 yy0 yy1 yy2 yp0 yp1 yp2 yr0 yr1 yr2
    refine (C4.out w13 Hw13.out).mono ?_
    rintro e w14 ⟨rfl, hb14⟩
    have Hw14 := Lib.hid (Hw13.out.trans (hb14.mono Hw13.out.size))
    have ka := part_on Ka.out hb14
    have kb := part_on Kb.out hb14
    have kc := part_on Kc.out hb14
    have kd := part_on Kd.out hb14
    have kx := part_on Kx.out hb14
    have ky := part_on Ky.out hb14
    have kp := part_on Kp.out hb14
    have kr := part_on Kr.out hb14
    clear Ka Kb Kc Kd Kx Ky Kp Kr hb14
    obtain ⟨ya0, ya1, ya2⟩ := part_at ka
    obtain ⟨yb0, yb1, yb2⟩ := part_at kb
    obtain ⟨yc0, yc1, yc2⟩ := part_at kc
    obtain ⟨yd0, yd1, yd2⟩ := part_at kd
    obtain ⟨yx0, yx1, yx2⟩ := part_at kx
    obtain ⟨yy0, yy1, yy2⟩ := part_at ky
    obtain ⟨yp0, yp1, yp2⟩ := part_at kp
    obtain ⟨yr0, yr1, yr2⟩ := part_at kr
    have Ka := Lib.hid ka
    have Kb := Lib.hid kb
    have Kc := Lib.hid kc
    have Kd := Lib.hid kd
    have Kx := Lib.hid kx
    have Ky := Lib.hid ky
    have Kp := Lib.hid kp
    have Kr := Lib.hid kr
    clear ka kb kc kd kx ky kp kr
    go_wp2_with fail
    clear ya0 ya1 ya2 yb0 yb1 yb2 yc0 yc1 yc2 yd0 yd1 yd2 yx0 yx1 yx2 yy0 yy1 yy2 yp0 yp1 yp2 yr0 yr1 yr2
    exact bodyPost_ret (v := .bool true) (by simp [results, Tryz.results5, go_sem]) rfl ⟨rfl, Hw14.out⟩

set_option maxRecDepth 100000 in
set_option maxHeartbeats 8000000 in
theorem orders_gt_p (a1 a2 b1 b2 c1 c2 : ByteArray) (ha : okP (a1, a2) = true) (hb : okP (b1, b2) = true) (hc : okP (c1, c2) = true) (sa : shortP 60 (a1, a2) = true) (sb : shortP 60 (b1, b2) = true) (sc : shortP 60 (c1, c2) = true) (hn : (pv (b1, b2)).1 * (pv (a1, a2)).2 < (pv (a1, a2)).1 * (pv (b1, b2)).2) (hcz : ¬ c1 = zeroB) (w : World) (ht : Tens w) (h0 : 0 < w.heap.size) :
    Calls Tryz.prog 5 #[.agg #[.string a1, .string a2], .agg #[.string b1, .string b2], .agg #[.string c1, .string c2]] w fun e w' => e = .returned (.bool true) ∧ Below w.heap.size w w' := by
  have HT : ∀ W, Below w.heap.size w W → Tens W := fun W hW j hj => cell_later hW (ht j hj)
  have HAL : Hid (∀ W, Below w.heap.size w W → Calls Tryz.prog 20 #[] W fun e w' => e = .returned (.bool true) ∧ Below W.heap.size W w') := Lib.hid fun W hW => alive_any W (HT W hW) (by have := hW.size; omega)
  have sha : a1.size ≤ 60 ∧ a2.size ≤ 60 := by unfold shortP at sa; simpa using sa
  have shb : b1.size ≤ 60 ∧ b2.size ≤ 60 := by unfold shortP at sb; simpa using sb
  have shc : c1.size ≤ 60 ∧ c2.size ≤ 60 := by unfold shortP at sc; simpa using sc
  have mA := sm_of (k := 60) ha sha.1 sha.2
  have mB := sm_of (k := 60) hb shb.1 shb.2
  have mC := sm_of (k := 60) hc shc.1 shc.2
  have eA := pt_pv ha; have eB := pt_pv hb; have eC := pt_pv hc
  have hzz := num_zero hc
  have hcmp : cmpF (pv (a1, a2)) (pv (b1, b2)) = 1 := cmpF_gt hn
  have C1 := useCmp HT ha hb hcmp
  have C2 := useCmp (z := (-1)) HT hb ha (by rw [cmpF_swap, hcmp] <;> rfl)
  have heq : ¬ (a1, a2) = (b1, b2) := fun h => by rw [h] at hn; exact Nat.lt_irrefl _ hn
  obtain ⟨⟨d1, d2⟩, hsub⟩ : ∃ r, subS (a1, a2) (b1, b2) = (r, 0) := ⟨_, (subS_ok ha hb (by omega)).trans (res_sm (k := 120) (low_sm (Nat.mul_pos mA.fr.pos mB.fr.pos) (Nat.lt_of_le_of_lt (Nat.sub_le _ _) (by rw [show (120:Nat) = 60 + 60 from rfl, Nat.pow_add]; exact Nat.mul_lt_mul'' mA.n mB.d)) (by rw [show (120:Nat) = 60 + 60 from rfl, Nat.pow_add]; exact Nat.mul_lt_mul'' mA.d mB.d)) (by decide))⟩
  have Q2 := useSub HT hsub ha hb
  generalize hgA : pv (a1, a2) = A at *
  generalize hgB : pv (b1, b2) = B at *
  generalize hgC : pv (c1, c2) = C at *
  have m1 := mA.add mC (m := 121) rfl; have m2 := mB.add mC (m := 121) rfl; have m3 := mA.mul mC (m := 120) rfl; have m4 := mB.mul mC (m := 120) rfl
  have q3 := add_pt mA mC (by decide); have q4 := add_pt mB mC (by decide); have q5 := mul_pt mA mC (by decide); have q6 := mul_pt mB mC (by decide)
  have o1 := pt_ok m1 (by decide); have o2 := pt_ok m2 (by decide); have o3 := pt_ok m3 (by decide); have o4 := pt_ok m4 (by decide)
  have v1 := pv_pt (addF A C); have v2 := pv_pt (addF B C); have v3 := pv_pt (mulF A C); have v4 := pv_pt (mulF B C)
  rw [eA, eC] at q3 q5; rw [eB, eC] at q4 q6
  obtain ⟨⟨x1, x2⟩, hx⟩ : ∃ r, ptOf (addF A C) = r := ⟨_, rfl⟩
  obtain ⟨⟨y1, y2⟩, hy⟩ : ∃ r, ptOf (addF B C) = r := ⟨_, rfl⟩
  obtain ⟨⟨p1, p2⟩, hp⟩ : ∃ r, ptOf (mulF A C) = r := ⟨_, rfl⟩
  obtain ⟨⟨r1, r2⟩, hr⟩ : ∃ r, ptOf (mulF B C) = r := ⟨_, rfl⟩
  rw [hx] at q3 o1 v1; rw [hy] at q4 o2 v2; rw [hp] at q5 o3 v3; rw [hr] at q6 o4 v4
  have Q3 := useAdd HT q3 ha hc; have Q4 := useAdd HT q4 hb hc; have Q5 := useMul HT q5 ha hc; have Q6 := useMul HT q6 hb hc
  have C3 := useCmp (z := 1) HT o3 o4 (by rw [v3, v4]; exact (cmpF_prod mA.fr mB.fr mC.fr (Nat.pos_of_ne_zero (by rw [Ne, hzz]; exact hcz))).trans hcmp)
  have C4 := useCmp (z := 1) HT o1 o2 (by rw [v1, v2]; exact (cmpF_sum mA.fr mB.fr mC.fr).trans hcmp)
  have U1 := useChk HT ha; have U2 := useChk HT hb; have U3 := useChk HT hc
  have HSH := Lib.hid (And.intro sa (And.intro sb sc)); have HEQ := Lib.hid heq; have HCZ := Lib.hid hcz
  clear q3 q4 q5 q6 o1 o2 o3 o4 v1 v2 v3 v4 m1 m2 m3 m4 mA mB mC eA eB eC hx hy hp hr hsub hcmp hn heq hcz hzz sha shb shc sa sb sc HT ht ha hb hc hgA hgB hgC
  obtain ⟨V1, hV1⟩ : ∃ W, W = w.alloc (.cells #[.string a1, .string a2] 24) := ⟨_, rfl⟩
  obtain ⟨V2, hV2⟩ : ∃ W, W = V1.alloc (.cells #[.string b1, .string b2] 24) := ⟨_, rfl⟩
  obtain ⟨V3, hV3⟩ : ∃ W, W = V2.alloc (.cells #[.string c1, .string c2] 24) := ⟨_, rfl⟩
  have v01 : Below w.heap.size w V1 := by rw [hV1]; exact (Below.refl _ _).alloc (Nat.le_refl _) _
  have v12 : Below V1.heap.size V1 V2 := by rw [hV2]; exact (Below.refl _ _).alloc (Nat.le_refl _) _
  have v23 : Below V2.heap.size V2 V3 := by rw [hV3]; exact (Below.refl _ _).alloc (Nat.le_refl _) _
  have z1 : V1.heap.size = w.heap.size + 1 := by rw [hV1, World.size_alloc]
  have z2 : V2.heap.size = w.heap.size + 1 + 1 := by rw [hV2, World.size_alloc, z1]
  have ka : V3.heap[w.heap.size]? = some (partO a1 a2) := part_on (part_on (by rw [hV1]; exact Go.Deep.blk_alloc_new _ _) v12) v23
  have kb : V3.heap[w.heap.size + 1]? = some (partO b1 b2) := part_on (by rw [← z1, hV2]; exact Go.Deep.blk_alloc_new _ _) v23
  have kc : V3.heap[w.heap.size + 1 + 1]? = some (partO c1 c2) := by rw [← z2, hV3]; exact Go.Deep.blk_alloc_new _ _
  have HB := Lib.hid (v01.trans ((below_chain v12 v23).mono v01.size))
  have HV1 := Lib.hid hV1; have HV2 := Lib.hid hV2; have HV3 := Lib.hid hV3; have Ka := Lib.hid ka; have Kb := Lib.hid kb; have Kc := Lib.hid kc
  clear hV1 hV2 hV3 v01 v12 v23 z1 z2 ka kb kc
  go_enter Tryz.func5, Tryz.ntmps5
  go_wp2_with fail
  rw [← HV1.out, ← HV2.out, ← HV3.out]
  refine (HAL.out V3 HB.out).mono ?_
  rintro e w1 ⟨rfl, hb1⟩
  have Hw1 := Lib.hid (HB.out.trans (hb1.mono HB.out.size))
  have ka := part_on Ka.out hb1
  have kb := part_on Kb.out hb1
  have kc := part_on Kc.out hb1
  clear Ka Kb Kc hb1
  obtain ⟨ya0, ya1, ya2⟩ := part_at ka
  obtain ⟨yb0, yb1, yb2⟩ := part_at kb
  obtain ⟨yc0, yc1, yc2⟩ := part_at kc
  obtain ⟨W1, hW1⟩ : ∃ W, W = w1.alloc (.cells #[.string a1, .string a2, .string b1, .string b2, .string c1, .string c2] 24) := ⟨_, rfl⟩
  have bb : Below w1.heap.size w1 W1 := by rw [hW1]; exact (Below.refl _ _).alloc (Nat.le_refl _) _
  have Ka := Lib.hid (part_on ka bb)
  have Kb := Lib.hid (part_on kb bb)
  have Kc := Lib.hid (part_on kc bb)
  have HW1 := Lib.hid (Hw1.out.trans (bb.mono Hw1.out.size))
  have kk : W1.heap[w1.heap.size]? = some (.cells #[.string a1, .string a2, .string b1, .string b2, .string c1, .string c2] 24 (0, 0)) := by rw [hW1]; exact Go.Deep.blk_alloc_new _ _
  have KK := Lib.hid kk
  clear kk
  have HEW1 := Lib.hid hW1
  clear bb hW1 ka kb kc
  go_wp2_with fail
  rw [← HEW1.out]
  clear ya0 ya1 ya2 yb0 yb1 yb2 yc0 yc1 yc2
  have hsh := short_any 60 [(a1, a2), (b1, b2), (c1, c2)] (.slice (some ⟨w1.heap.size, 0, none⟩) 3 3) W1 (.inr ⟨w1.heap.size, 0, 3, rfl, by simp, by decide, (Array.getElem?_eq_some_iff.1 KK.out).1, fun i hi => by
    match i, hi with
    | 0, _ => exact ⟨by rw [set_cells KK.out]; rfl, by rw [set_cells KK.out]; rfl⟩
    | 1, _ => exact ⟨by rw [set_cells KK.out]; rfl, by rw [set_cells KK.out]; rfl⟩
    | 2, _ => exact ⟨by rw [set_cells KK.out]; rfl, by rw [set_cells KK.out]; rfl⟩⟩) (by simp) (by decide)
  have hall : [(a1, a2), (b1, b2), (c1, c2)].all (shortP 60) = true := by
    simp only [List.all_cons, List.all_nil, HSH.out.1, HSH.out.2.1, HSH.out.2.2, Bool.and_self]
  rw [hall] at hsh
  have HSHORT := Lib.hid hsh
  clear hsh hall KK
  refine (HSHORT.out).mono ?_
  rintro e w2 ⟨rfl, hb2⟩
  have Hw2 := Lib.hid (HW1.out.trans (hb2.mono HW1.out.size))
  have ka := part_on Ka.out hb2
  have kb := part_on Kb.out hb2
  have kc := part_on Kc.out hb2
  clear Ka Kb Kc hb2
  obtain ⟨ya0, ya1, ya2⟩ := part_at ka
  obtain ⟨yb0, yb1, yb2⟩ := part_at kb
  obtain ⟨yc0, yc1, yc2⟩ := part_at kc
  have Ka := Lib.hid ka
  have Kb := Lib.hid kb
  have Kc := Lib.hid kc
  clear ka kb kc
  go_wp2_with fail
  clear ya0 ya1 ya2 yb0 yb1 yb2 yc0 yc1 yc2
  refine (U1.out w2 Hw2.out).mono ?_
  rintro e w3 ⟨rfl, hb3⟩
  have Hw3 := Lib.hid (Hw2.out.trans (hb3.mono Hw2.out.size))
  have ka := part_on Ka.out hb3
  have kb := part_on Kb.out hb3
  have kc := part_on Kc.out hb3
  clear Ka Kb Kc hb3
  obtain ⟨ya0, ya1, ya2⟩ := part_at ka
  obtain ⟨yb0, yb1, yb2⟩ := part_at kb
  obtain ⟨yc0, yc1, yc2⟩ := part_at kc
  have Ka := Lib.hid ka
  have Kb := Lib.hid kb
  have Kc := Lib.hid kc
  clear ka kb kc
  go_wp2_with fail
  clear ya0 ya1 ya2 yb0 yb1 yb2 yc0 yc1 yc2
  refine (U2.out w3 Hw3.out).mono ?_
  rintro e w4 ⟨rfl, hb4⟩
  have Hw4 := Lib.hid (Hw3.out.trans (hb4.mono Hw3.out.size))
  have ka := part_on Ka.out hb4
  have kb := part_on Kb.out hb4
  have kc := part_on Kc.out hb4
  clear Ka Kb Kc hb4
  obtain ⟨ya0, ya1, ya2⟩ := part_at ka
  obtain ⟨yb0, yb1, yb2⟩ := part_at kb
  obtain ⟨yc0, yc1, yc2⟩ := part_at kc
  have Ka := Lib.hid ka
  have Kb := Lib.hid kb
  have Kc := Lib.hid kc
  clear ka kb kc
  go_wp2_with fail
  clear ya0 ya1 ya2 yb0 yb1 yb2 yc0 yc1 yc2
  refine (U3.out w4 Hw4.out).mono ?_
  rintro e w5 ⟨rfl, hb5⟩
  have Hw5 := Lib.hid (Hw4.out.trans (hb5.mono Hw4.out.size))
  have ka := part_on Ka.out hb5
  have kb := part_on Kb.out hb5
  have kc := part_on Kc.out hb5
  clear Ka Kb Kc hb5
  obtain ⟨ya0, ya1, ya2⟩ := part_at ka
  obtain ⟨yb0, yb1, yb2⟩ := part_at kb
  obtain ⟨yc0, yc1, yc2⟩ := part_at kc
  have Ka := Lib.hid ka
  have Kb := Lib.hid kb
  have Kc := Lib.hid kc
  clear ka kb kc
  go_wp2_with fail
  clear ya0 ya1 ya2 yb0 yb1 yb2 yc0 yc1 yc2
  refine (C1.out w5 Hw5.out).mono ?_
  rintro e w6 ⟨rfl, hb6⟩
  have Hw6 := Lib.hid (Hw5.out.trans (hb6.mono Hw5.out.size))
  have ka := part_on Ka.out hb6
  have kb := part_on Kb.out hb6
  have kc := part_on Kc.out hb6
  clear Ka Kb Kc hb6
  obtain ⟨ya0, ya1, ya2⟩ := part_at ka
  obtain ⟨yb0, yb1, yb2⟩ := part_at kb
  obtain ⟨yc0, yc1, yc2⟩ := part_at kc
  have Ka := Lib.hid ka
  have Kb := Lib.hid kb
  have Kc := Lib.hid kc
  clear ka kb kc
  go_wp2_with fail
  clear ya0 ya1 ya2 yb0 yb1 yb2 yc0 yc1 yc2
  refine (Q2.out w6 Hw6.out).mono ?_
  rintro e w7 ⟨rfl, hb7⟩
  have Hw7 := Lib.hid (Hw6.out.trans (hb7.mono Hw6.out.size))
  have ka := part_on Ka.out hb7
  have kb := part_on Kb.out hb7
  have kc := part_on Kc.out hb7
  clear Ka Kb Kc hb7
  obtain ⟨ya0, ya1, ya2⟩ := part_at ka
  obtain ⟨yb0, yb1, yb2⟩ := part_at kb
  obtain ⟨yc0, yc1, yc2⟩ := part_at kc
  obtain ⟨W7, hW7⟩ : ∃ W, W = w7.alloc (.cells #[.string d1, .string d2] 24) := ⟨_, rfl⟩
  have bb : Below w7.heap.size w7 W7 := by rw [hW7]; exact (Below.refl _ _).alloc (Nat.le_refl _) _
  have Ka := Lib.hid (part_on ka bb)
  have Kb := Lib.hid (part_on kb bb)
  have Kc := Lib.hid (part_on kc bb)
  have HW7 := Lib.hid (Hw7.out.trans (bb.mono Hw7.out.size))
  have Kd : Hid (W7.heap[w7.heap.size]? = some (partO d1 d2)) := Lib.hid (by rw [hW7]; exact Go.Deep.blk_alloc_new _ _)
  have HEW7 := Lib.hid hW7
  clear bb hW7 ka kb kc
  go_wp2_with fail
  rw [← HEW7.out]
  clear ya0 ya1 ya2 yb0 yb1 yb2 yc0 yc1 yc2
  refine (Q3.out W7 HW7.out).mono ?_
  rintro e w8 ⟨rfl, hb8⟩
  have Hw8 := Lib.hid (HW7.out.trans (hb8.mono HW7.out.size))
  have ka := part_on Ka.out hb8
  have kb := part_on Kb.out hb8
  have kc := part_on Kc.out hb8
  have kd := part_on Kd.out hb8
  clear Ka Kb Kc Kd hb8
  obtain ⟨ya0, ya1, ya2⟩ := part_at ka
  obtain ⟨yb0, yb1, yb2⟩ := part_at kb
  obtain ⟨yc0, yc1, yc2⟩ := part_at kc
  obtain ⟨yd0, yd1, yd2⟩ := part_at kd
  obtain ⟨W8, hW8⟩ : ∃ W, W = w8.alloc (.cells #[.string x1, .string x2] 24) := ⟨_, rfl⟩
  have bb : Below w8.heap.size w8 W8 := by rw [hW8]; exact (Below.refl _ _).alloc (Nat.le_refl _) _
  have Ka := Lib.hid (part_on ka bb)
  have Kb := Lib.hid (part_on kb bb)
  have Kc := Lib.hid (part_on kc bb)
  have Kd := Lib.hid (part_on kd bb)
  have HW8 := Lib.hid (Hw8.out.trans (bb.mono Hw8.out.size))
  have Kx : Hid (W8.heap[w8.heap.size]? = some (partO x1 x2)) := Lib.hid (by rw [hW8]; exact Go.Deep.blk_alloc_new _ _)
  have HEW8 := Lib.hid hW8
  clear bb hW8 ka kb kc kd
  go_wp2_with fail
  rw [← HEW8.out]
  clear ya0 ya1 ya2 yb0 yb1 yb2 yc0 yc1 yc2 yd0 yd1 yd2
  refine (Q4.out W8 HW8.out).mono ?_
  rintro e w9 ⟨rfl, hb9⟩
  have Hw9 := Lib.hid (HW8.out.trans (hb9.mono HW8.out.size))
  have ka := part_on Ka.out hb9
  have kb := part_on Kb.out hb9
  have kc := part_on Kc.out hb9
  have kd := part_on Kd.out hb9
  have kx := part_on Kx.out hb9
  clear Ka Kb Kc Kd Kx hb9
  obtain ⟨ya0, ya1, ya2⟩ := part_at ka
  obtain ⟨yb0, yb1, yb2⟩ := part_at kb
  obtain ⟨yc0, yc1, yc2⟩ := part_at kc
  obtain ⟨yd0, yd1, yd2⟩ := part_at kd
  obtain ⟨yx0, yx1, yx2⟩ := part_at kx
  obtain ⟨W9, hW9⟩ : ∃ W, W = w9.alloc (.cells #[.string y1, .string y2] 24) := ⟨_, rfl⟩
  have bb : Below w9.heap.size w9 W9 := by rw [hW9]; exact (Below.refl _ _).alloc (Nat.le_refl _) _
  have Ka := Lib.hid (part_on ka bb)
  have Kb := Lib.hid (part_on kb bb)
  have Kc := Lib.hid (part_on kc bb)
  have Kd := Lib.hid (part_on kd bb)
  have Kx := Lib.hid (part_on kx bb)
  have HW9 := Lib.hid (Hw9.out.trans (bb.mono Hw9.out.size))
  have Ky : Hid (W9.heap[w9.heap.size]? = some (partO y1 y2)) := Lib.hid (by rw [hW9]; exact Go.Deep.blk_alloc_new _ _)
  have HEW9 := Lib.hid hW9
  clear bb hW9 ka kb kc kd kx
  go_wp2_with fail
  rw [← HEW9.out]
  clear ya0 ya1 ya2 yb0 yb1 yb2 yc0 yc1 yc2 yd0 yd1 yd2 yx0 yx1 yx2
  refine (Q5.out W9 HW9.out).mono ?_
  rintro e w10 ⟨rfl, hb10⟩
  have Hw10 := Lib.hid (HW9.out.trans (hb10.mono HW9.out.size))
  have ka := part_on Ka.out hb10
  have kb := part_on Kb.out hb10
  have kc := part_on Kc.out hb10
  have kd := part_on Kd.out hb10
  have kx := part_on Kx.out hb10
  have ky := part_on Ky.out hb10
  clear Ka Kb Kc Kd Kx Ky hb10
  obtain ⟨ya0, ya1, ya2⟩ := part_at ka
  obtain ⟨yb0, yb1, yb2⟩ := part_at kb
  obtain ⟨yc0, yc1, yc2⟩ := part_at kc
  obtain ⟨yd0, yd1, yd2⟩ := part_at kd
  obtain ⟨yx0, yx1, yx2⟩ := part_at kx
  obtain ⟨yy0, yy1, yy2⟩ := part_at ky
  obtain ⟨W10, hW10⟩ : ∃ W, W = w10.alloc (.cells #[.string p1, .string p2] 24) := ⟨_, rfl⟩
  have bb : Below w10.heap.size w10 W10 := by rw [hW10]; exact (Below.refl _ _).alloc (Nat.le_refl _) _
  have Ka := Lib.hid (part_on ka bb)
  have Kb := Lib.hid (part_on kb bb)
  have Kc := Lib.hid (part_on kc bb)
  have Kd := Lib.hid (part_on kd bb)
  have Kx := Lib.hid (part_on kx bb)
  have Ky := Lib.hid (part_on ky bb)
  have HW10 := Lib.hid (Hw10.out.trans (bb.mono Hw10.out.size))
  have Kp : Hid (W10.heap[w10.heap.size]? = some (partO p1 p2)) := Lib.hid (by rw [hW10]; exact Go.Deep.blk_alloc_new _ _)
  have HEW10 := Lib.hid hW10
  clear bb hW10 ka kb kc kd kx ky
  go_wp2_with fail
  rw [← HEW10.out]
  clear ya0 ya1 ya2 yb0 yb1 yb2 yc0 yc1 yc2 yd0 yd1 yd2 yx0 yx1 yx2 yy0 yy1 yy2
  refine (Q6.out W10 HW10.out).mono ?_
  rintro e w11 ⟨rfl, hb11⟩
  have Hw11 := Lib.hid (HW10.out.trans (hb11.mono HW10.out.size))
  have ka := part_on Ka.out hb11
  have kb := part_on Kb.out hb11
  have kc := part_on Kc.out hb11
  have kd := part_on Kd.out hb11
  have kx := part_on Kx.out hb11
  have ky := part_on Ky.out hb11
  have kp := part_on Kp.out hb11
  clear Ka Kb Kc Kd Kx Ky Kp hb11
  obtain ⟨ya0, ya1, ya2⟩ := part_at ka
  obtain ⟨yb0, yb1, yb2⟩ := part_at kb
  obtain ⟨yc0, yc1, yc2⟩ := part_at kc
  obtain ⟨yd0, yd1, yd2⟩ := part_at kd
  obtain ⟨yx0, yx1, yx2⟩ := part_at kx
  obtain ⟨yy0, yy1, yy2⟩ := part_at ky
  obtain ⟨yp0, yp1, yp2⟩ := part_at kp
  obtain ⟨W11, hW11⟩ : ∃ W, W = w11.alloc (.cells #[.string r1, .string r2] 24) := ⟨_, rfl⟩
  have bb : Below w11.heap.size w11 W11 := by rw [hW11]; exact (Below.refl _ _).alloc (Nat.le_refl _) _
  have Ka := Lib.hid (part_on ka bb)
  have Kb := Lib.hid (part_on kb bb)
  have Kc := Lib.hid (part_on kc bb)
  have Kd := Lib.hid (part_on kd bb)
  have Kx := Lib.hid (part_on kx bb)
  have Ky := Lib.hid (part_on ky bb)
  have Kp := Lib.hid (part_on kp bb)
  have HW11 := Lib.hid (Hw11.out.trans (bb.mono Hw11.out.size))
  have Kr : Hid (W11.heap[w11.heap.size]? = some (partO r1 r2)) := Lib.hid (by rw [hW11]; exact Go.Deep.blk_alloc_new _ _)
  have HEW11 := Lib.hid hW11
  clear bb hW11 ka kb kc kd kx ky kp
  go_wp2_with fail
  rw [← HEW11.out]
  clear ya0 ya1 ya2 yb0 yb1 yb2 yc0 yc1 yc2 yd0 yd1 yd2 yx0 yx1 yx2 yy0 yy1 yy2 yp0 yp1 yp2
  have hc0 : ¬ c1 = ⟨#[48]⟩ := HCZ.out
  have hc0l : ¬ c1.toList = [48] := fun h => hc0 (list_inj (h.trans (by rw [ByteArray.toList_eq])))
  have hc0b : (c1.toList == [48]) = false := beq_eq_false_iff_ne.2 hc0l
  refine (C3.out W11 HW11.out).mono ?_
  rintro e w12 ⟨rfl, hb12⟩
  have Hw12 := Lib.hid (HW11.out.trans (hb12.mono HW11.out.size))
  have ka := part_on Ka.out hb12
  have kb := part_on Kb.out hb12
  have kc := part_on Kc.out hb12
  have kd := part_on Kd.out hb12
  have kx := part_on Kx.out hb12
  have ky := part_on Ky.out hb12
  have kp := part_on Kp.out hb12
  have kr := part_on Kr.out hb12
  clear Ka Kb Kc Kd Kx Ky Kp Kr hb12
  obtain ⟨ya0, ya1, ya2⟩ := part_at ka
  obtain ⟨yb0, yb1, yb2⟩ := part_at kb
  obtain ⟨yc0, yc1, yc2⟩ := part_at kc
  obtain ⟨yd0, yd1, yd2⟩ := part_at kd
  obtain ⟨yx0, yx1, yx2⟩ := part_at kx
  obtain ⟨yy0, yy1, yy2⟩ := part_at ky
  obtain ⟨yp0, yp1, yp2⟩ := part_at kp
  obtain ⟨yr0, yr1, yr2⟩ := part_at kr
  have Ka := Lib.hid ka
  have Kb := Lib.hid kb
  have Kc := Lib.hid kc
  have Kd := Lib.hid kd
  have Kx := Lib.hid kx
  have Ky := Lib.hid ky
  have Kp := Lib.hid kp
  have Kr := Lib.hid kr
  clear ka kb kc kd kx ky kp kr
  go_wp2_with fail
  clear ya0 ya1 ya2 yb0 yb1 yb2 yc0 yc1 yc2 yd0 yd1 yd2 yx0 yx1 yx2 yy0 yy1 yy2 yp0 yp1 yp2 yr0 yr1 yr2
  by_cases e1 : a1 = b1
  · have e2 : ¬ a2 = b2 := fun h => HEQ.out (Prod.ext e1 h)
    subst e1
    have e2l : ¬ a2.toList = b2.toList := fun h => e2 (list_inj h)
    refine (C2.out w12 Hw12.out).mono ?_
    rintro e w13 ⟨rfl, hb13⟩
    have Hw13 := Lib.hid (Hw12.out.trans (hb13.mono Hw12.out.size))
    have ka := part_on Ka.out hb13
    have kb := part_on Kb.out hb13
    have kc := part_on Kc.out hb13
    have kd := part_on Kd.out hb13
    have kx := part_on Kx.out hb13
    have ky := part_on Ky.out hb13
    have kp := part_on Kp.out hb13
    have kr := part_on Kr.out hb13
    clear Ka Kb Kc Kd Kx Ky Kp Kr hb13
    obtain ⟨ya0, ya1, ya2⟩ := part_at ka
    obtain ⟨yb0, yb1, yb2⟩ := part_at kb
    obtain ⟨yc0, yc1, yc2⟩ := part_at kc
    obtain ⟨yd0, yd1, yd2⟩ := part_at kd
    obtain ⟨yx0, yx1, yx2⟩ := part_at kx
    obtain ⟨yy0, yy1, yy2⟩ := part_at ky
    obtain ⟨yp0, yp1, yp2⟩ := part_at kp
    obtain ⟨yr0, yr1, yr2⟩ := part_at kr
    have Ka := Lib.hid ka
    have Kb := Lib.hid kb
    have Kc := Lib.hid kc
    have Kd := Lib.hid kd
    have Kx := Lib.hid kx
    have Ky := Lib.hid ky
    have Kp := Lib.hid kp
    have Kr := Lib.hid kr
    clear ka kb kc kd kx ky kp kr
    go_wp2_with fail
    clear ya0 ya1 ya2 yb0 yb1 yb2 yc0 yc1 yc2 yd0 yd1 yd2 yx0 yx1 yx2 yy0 yy1 yy2 yp0 yp1 yp2 yr0 yr1 yr2
    refine (C4.out w13 Hw13.out).mono ?_
    rintro e w14 ⟨rfl, hb14⟩
    have Hw14 := Lib.hid (Hw13.out.trans (hb14.mono Hw13.out.size))
    have ka := part_on Ka.out hb14
    have kb := part_on Kb.out hb14
    have kc := part_on Kc.out hb14
    have kd := part_on Kd.out hb14
    have kx := part_on Kx.out hb14
    have ky := part_on Ky.out hb14
    have kp := part_on Kp.out hb14
    have kr := part_on Kr.out hb14
    clear Ka Kb Kc Kd Kx Ky Kp Kr hb14
    obtain ⟨ya0, ya1, ya2⟩ := part_at ka
    obtain ⟨yb0, yb1, yb2⟩ := part_at kb
    obtain ⟨yc0, yc1, yc2⟩ := part_at kc
    obtain ⟨yd0, yd1, yd2⟩ := part_at kd
    obtain ⟨yx0, yx1, yx2⟩ := part_at kx
    obtain ⟨yy0, yy1, yy2⟩ := part_at ky
    obtain ⟨yp0, yp1, yp2⟩ := part_at kp
    obtain ⟨yr0, yr1, yr2⟩ := part_at kr
    have Ka := Lib.hid ka
    have Kb := Lib.hid kb
    have Kc := Lib.hid kc
    have Kd := Lib.hid kd
    have Kx := Lib.hid kx
    have Ky := Lib.hid ky
    have Kp := Lib.hid kp
    have Kr := Lib.hid kr
    clear ka kb kc kd kx ky kp kr
    go_wp2_with fail
    clear ya0 ya1 ya2 yb0 yb1 yb2 yc0 yc1 yc2 yd0 yd1 yd2 yx0 yx1 yx2 yy0 yy1 yy2 yp0 yp1 yp2 yr0 yr1 yr2
    exact bodyPost_ret (v := .bool true) (by simp [results, hc0b, Tryz.results5, go_sem]) rfl ⟨rfl, Hw14.out⟩
  · have e3 : ¬ b1 = a1 := fun h => e1 h.symm
    have e2l : ¬ a1.toList = b1.toList := fun h => e1 (list_inj h)
    refine (C2.out w12 Hw12.out).mono ?_
    rintro e w13 ⟨rfl, hb13⟩
    have Hw13 := Lib.hid (Hw12.out.trans (hb13.mono Hw12.out.size))
    have ka := part_on Ka.out hb13
    have kb := part_on Kb.out hb13
    have kc := part_on Kc.out hb13
    have kd := part_on Kd.out hb13
    have kx := part_on Kx.out hb13
    have ky := part_on Ky.out hb13
    have kp := part_on Kp.out hb13
    have kr := part_on Kr.out hb13
    clear Ka Kb Kc Kd Kx Ky Kp Kr hb13
    obtain ⟨ya0, ya1, ya2⟩ := part_at ka
    obtain ⟨yb0, yb1, yb2⟩ := part_at kb
    obtain ⟨yc0, yc1, yc2⟩ := part_at kc
    obtain ⟨yd0, yd1, yd2⟩ := part_at kd
    obtain ⟨yx0, yx1, yx2⟩ := part_at kx
    obtain ⟨yy0, yy1, yy2⟩ := part_at ky
    obtain ⟨yp0, yp1, yp2⟩ := part_at kp
    obtain ⟨yr0, yr1, yr2⟩ := part_at kr
    have Ka := Lib.hid ka
    have Kb := Lib.hid kb
    have Kc := Lib.hid kc
    have Kd := Lib.hid kd
    have Kx := Lib.hid kx
    have Ky := Lib.hid ky
    have Kp := Lib.hid kp
    have Kr := Lib.hid kr
    clear ka kb kc kd kx ky kp kr
    go_wp2_with fail
    clear ya0 ya1 ya2 yb0 yb1 yb2 yc0 yc1 yc2 yd0 yd1 yd2 yx0 yx1 yx2 yy0 yy1 yy2 yp0 yp1 yp2 yr0 yr1 yr2
    refine (C4.out w13 Hw13.out).mono ?_
    rintro e w14 ⟨rfl, hb14⟩
    have Hw14 := Lib.hid (Hw13.out.trans (hb14.mono Hw13.out.size))
    have ka := part_on Ka.out hb14
    have kb := part_on Kb.out hb14
    have kc := part_on Kc.out hb14
    have kd := part_on Kd.out hb14
    have kx := part_on Kx.out hb14
    have ky := part_on Ky.out hb14
    have kp := part_on Kp.out hb14
    have kr := part_on Kr.out hb14
    clear Ka Kb Kc Kd Kx Ky Kp Kr hb14
    obtain ⟨ya0, ya1, ya2⟩ := part_at ka
    obtain ⟨yb0, yb1, yb2⟩ := part_at kb
    obtain ⟨yc0, yc1, yc2⟩ := part_at kc
    obtain ⟨yd0, yd1, yd2⟩ := part_at kd
    obtain ⟨yx0, yx1, yx2⟩ := part_at kx
    obtain ⟨yy0, yy1, yy2⟩ := part_at ky
    obtain ⟨yp0, yp1, yp2⟩ := part_at kp
    obtain ⟨yr0, yr1, yr2⟩ := part_at kr
    have Ka := Lib.hid ka
    have Kb := Lib.hid kb
    have Kc := Lib.hid kc
    have Kd := Lib.hid kd
    have Kx := Lib.hid kx
    have Ky := Lib.hid ky
    have Kp := Lib.hid kp
    have Kr := Lib.hid kr
    clear ka kb kc kd kx ky kp kr
    go_wp2_with fail
    clear ya0 ya1 ya2 yb0 yb1 yb2 yc0 yc1 yc2 yd0 yd1 yd2 yx0 yx1 yx2 yy0 yy1 yy2 yp0 yp1 yp2 yr0 yr1 yr2
    exact bodyPost_ret (v := .bool true) (by simp [results, hc0b, Tryz.results5, go_sem]) rfl ⟨rfl, Hw14.out⟩
end Go.Proofs.YtkggfeemjabdeaaGreatDoor.Wc
end
section
namespace Go.Proofs.YtkggfeemjabdeaaGreatDoor.Wc
open Go Go.Proofs.YtkggfeemjabdeaaGreatDoor.Sx Go.RowKit

/-- A block of truths. -/
def BoolRow (w : World) (R : Nat) (l : List Bool) : Prop := w.heap[R]? = some (.cells (l.map Value.bool).toArray 4 (0, 0))
theorem BoolRow.cell {w : World} {R : Nat} {l : List Bool} (h : BoolRow w R l) {i : Nat} {b : Bool} (hi : l[i]? = some b) : w.cell? ⟨R, i, none⟩ = some (.bool b) := by
  rw [set_cells h]; simp [hi]
theorem BoolRow.free {w : World} {R : Nat} {l : List Bool} (h : BoolRow w R l) (i : Nat) : w.frozen? ⟨R, i, none⟩ = false := by
  unfold BoolRow at h; simp [World.frozen?, h]
theorem BoolRow.lt {w : World} {R : Nat} {l : List Bool} (h : BoolRow w R l) : R < w.heap.size := (Array.getElem?_eq_some_iff.1 h).1
theorem BoolRow.below {w w' : World} {R : Nat} {l : List Bool} (h : BoolRow w R l) (hb : Below w.heap.size w w') : BoolRow w' R l := (hb.block _ h.lt).trans h
theorem BoolRow.set {w : World} {R : Nat} {l : List Bool} (h : BoolRow w R l) (i : Nat) (b : Bool) : BoolRow (w.setCell ⟨R, i, none⟩ (.bool b)) R (l.set i b) := by
  have g := heap_setCell_same w R i _ _ (.bool b) h
  rw [List.setIfInBounds_toArray] at g
  unfold BoolRow
  rw [List.map_set]; exact g
theorem made_bools (n : Nat) : madeCells (Value.bool false).cells n = ((List.replicate n false).map Value.bool).toArray := by
  apply Array.ext_getElem?
  intro i
  simp only [madeCells, Value.cells]
  by_cases hi : i < n
  · simp [hi, Nat.mod_one]
  · simp [hi]
theorem infoB : (Tryz.prog.info? 4).map (fun i => (i.zero, i.size, i.bytes)) = some (some (.bool false), 1, 1) := by kernel_rfl
/-- Which indices were seen. -/
def seenL (l : List Nat) (n i : Nat) : List Bool := (List.range n).map fun k => decide (k ∈ l.take i)
theorem seenL_zero (l : List Nat) (n : Nat) : seenL l n 0 = List.replicate n false := by
  unfold seenL; simp [List.map_const']
theorem seenL_at {l : List Nat} {n i k : Nat} (hk : k < n) : (seenL l n i)[k]? = some (decide (k ∈ l.take i)) := by
  unfold seenL; simp [hk]
theorem seenL_succ {l : List Nat} {n i a : Nat} (h : l[i]? = some a) : (seenL l n i).set a true = seenL l n (i + 1) := by
  apply List.ext_getElem?
  intro k
  by_cases hk : k < n
  · rw [seenL_at hk, List.take_add_one, h]
    by_cases e : a = k
    · subst e
      rw [List.getElem?_set_self (by unfold seenL; simp; exact hk)]
      simp
    · rw [List.getElem?_set_ne e, seenL_at hk]
      congr 1
      simp only [Option.toList_some, List.mem_append, List.mem_singleton]
      have : k ≠ a := fun h => e h.symm
      simp [this]
  · rw [List.getElem?_eq_none (by rw [List.length_set]; unfold seenL; simp; omega), List.getElem?_eq_none (by unfold seenL; simp; omega)]
theorem below_grown' {B : Nat} {w0 w1 w2 : World} {r : Option Nat} (h : Below B w0 w1) (hB : B ≤ w0.heap.size) (hg : w1.grownBy w2 r) (hr : ∀ c, r = some c → B ≤ c) : Below B w0 w2 :=
  ⟨hg.os.trans h.os, hg.tape.trans h.tape, hg.output.trans h.output, Nat.le_trans h.size hg.size, fun k hk => (hg.block k (Nat.lt_of_lt_of_le (Nat.lt_of_lt_of_le hk hB) h.size) (fun e => by have := hr k e.symm; omega)).trans (h.block k hk)⟩
theorem partL_at3 {w : World} {a : Option Addr} {n cap : Nat} {ps : List P2} (h : PartL w (.slice a n cap) ps) {i : Nat} (hi : i < ps.length) : ∃ b off, a = some ⟨b, off, none⟩ ∧ b < w.heap.size ∧ w.cell? ⟨b, off + i * 2, none⟩ = some (.string ps[i].1) ∧ w.cell? ⟨b, off + i * 2 + 1, none⟩ = some (.string ps[i].2) := by
  rcases h with ⟨-, h⟩ | ⟨b, off, cap', h1, h2, h3, h4, h5⟩
  · subst h; exact absurd hi (Nat.not_lt_zero _)
  · injection h1 with h1 _ _
    exact ⟨b, off, h1, h4, (h5 i hi).1, (h5 i hi).2⟩

set_option maxRecDepth 100000 in
set_option maxHeartbeats 16000000 in
theorem fewest_any (ps : List P2) (p1 p2 : ByteArray) (v0 : Value) (ch : Int) (hch : 0 ≤ ch ∧ ch ≤ 65535) (w : World) (h0 : PartL w v0 ps) (ht : Tens w) (hpos : 0 < w.heap.size) :
    Calls Tryz.prog 9 #[v0, .agg #[.string p1, .string p2], .int .u16 ch] w fun e w' => e = .returned (.bool true) ∧ Below w.heap.size w w' := by
  have HT : Hid (∀ W, Below w.heap.size w W → Tens W) := Lib.hid fun W hW j hj => cell_later hW (ht j hj)
  have HPOS : Hid (0 < w.heap.size) := Lib.hid hpos
  obtain ⟨a0, cap0, rfl⟩ := h0.shape
  obtain ⟨W0, hW0⟩ : ∃ W, W = w.alloc (.cells #[.string p1, .string p2] 24) := ⟨_, rfl⟩
  have b00 : Below w.heap.size w W0 := by rw [hW0]; exact (Below.refl _ _).alloc (Nat.le_refl _) _
  have ep : W0.heap[w.heap.size]? = some (partO p1 p2) := by rw [hW0]; exact Go.Deep.blk_alloc_new _ _
  have HAL := Lib.hid (alive_any W0 (HT.out W0 b00) (by have := b00.size; omega))
  have P0 := Lib.hid h0; have HW0 := Lib.hid hW0; have HB0 := Lib.hid b00; have HEP := Lib.hid ep
  clear h0 ht hpos hW0 b00 ep
  generalize hN : ps.length = N at *
  go_enter Tryz.func9, Tryz.ntmps9
  go_wp2_with fail
  rw [← HW0.out]
  refine HAL.out.mono ?_
  rintro e w1 ⟨rfl, hb1⟩
  have HB1 := Lib.hid (HB0.out.trans (hb1.mono HB0.out.size)); have E1 := Lib.hid (part_on HEP.out hb1)
  clear hb1 HAL
  by_cases g0 : 10 < N
  · have g0i : (10 : Int) < N := by omega
    have g0b : decide ((10 : Int) < N) = true := decide_eq_true g0i
    go_wp2_with fail
    exact bodyPost_ret (v := .bool true) (by simp [results, Tryz.results9, go_sem]) rfl ⟨rfl, HB1.out⟩
  have g0b : decide ((10 : Int) < N) = false := decide_eq_false (by omega)
  have hsh0 := short_any 20 ps (.slice a0 N cap0) w1 (P0.out.below HB1.out) (by omega) (by decide)
  have HSH := Lib.hid hsh0
  clear hsh0
  go_wp2_with fail
  refine HSH.out.mono ?_
  rintro e w2 ⟨rfl, hb⟩
  have HB2 := Lib.hid (HB1.out.trans (hb.mono HB1.out.size)); have E2 := Lib.hid (part_on E1.out hb)
  clear hb HSH E1
  cases hall : ps.all (shortP 20)
  · go_wp2_with fail
    exact bodyPost_ret (v := .bool true) (by simp [results, Tryz.results9, go_sem]) rfl ⟨rfl, HB2.out⟩
  have hs0 : ∀ p ∈ ps, p.1.size ≤ 20 ∧ p.2.size ≤ 20 := fun p hp => by
    have := List.all_eq_true.1 hall p hp
    unfold shortP at this; simpa using this
  have SZ := Lib.hid hs0; have SO : Hid (∀ p ∈ ps, Short p) := Lib.hid fun p hp => ⟨Nat.le_trans (hs0 p hp).1 (by decide), Nat.le_trans (hs0 p hp).2 (by decide)⟩
  clear hs0 hall
  obtain ⟨W2, hW2⟩ : ∃ W, W = w2.alloc (.cells #[.string p1, .string p2] 24) := ⟨_, rfl⟩
  have b2 : Below w2.heap.size w2 W2 := by rw [hW2]; exact (Below.refl _ _).alloc (Nat.le_refl _) _
  have kk : W2.heap[w2.heap.size]? = some (.cells #[.string p1, .string p2] 24 (0, 0)) := by rw [hW2]; exact Go.Deep.blk_alloc_new _ _
  have hsh1 := short_any 20 [(p1, p2)] (.slice (some ⟨w2.heap.size, 0, none⟩) 1 1) W2 (.inr ⟨w2.heap.size, 0, 1, rfl, by simp, by decide, (Array.getElem?_eq_some_iff.1 kk).1, fun i hi => by
    match i, hi with
    | 0, _ => exact ⟨by rw [set_cells kk]; rfl, by rw [set_cells kk]; rfl⟩⟩) (by simp) (by decide)
  have HSH := Lib.hid hsh1; have HW2 := Lib.hid hW2; have HB22 := Lib.hid (HB2.out.trans (b2.mono HB2.out.size)); have E22 := Lib.hid (part_on E2.out b2)
  obtain ⟨y0, y1, y2⟩ := part_at E2.out
  clear hsh1 hW2 b2 kk
  go_wp2_with fail
  rw [← HW2.out]
  refine HSH.out.mono ?_
  rintro e w3 ⟨rfl, hb⟩
  have HB3 := Lib.hid (HB22.out.trans (hb.mono HB22.out.size)); have E3 := Lib.hid (part_on E22.out hb)
  clear hb HSH E2 E22 y0 y1 y2
  cases hshp : [(p1, p2)].all (shortP 20)
  · go_wp2_with fail
    exact bodyPost_ret (v := .bool true) (by simp [results, Tryz.results9, go_sem]) rfl ⟨rfl, HB3.out⟩
  have hsp : p1.size ≤ 20 ∧ p2.size ≤ 20 := by
    simp only [List.all_cons, List.all_nil, Bool.and_true] at hshp
    unfold shortP at hshp; simpa using hshp
  have SP := Lib.hid hsp; have SOP : Hid (Short (p1, p2)) := Lib.hid ⟨Nat.le_trans hsp.1 (by decide), Nat.le_trans hsp.2 (by decide)⟩
  clear hsp hshp
  have hrank := Rank_any ps (.slice a0 N cap0) w3 (P0.out.below HB3.out) SO.out (by omega) (HT.out w3 HB3.out) (by have := HB3.out.size; have := HPOS.out; omega)
  have HRK := Lib.hid hrank
  clear hrank
  go_wp2_with fail
  refine HRK.out.mono ?_
  rintro e w4 ⟨hb, q1, q2⟩
  have HB4 := Lib.hid (HB3.out.trans (hb.mono HB3.out.size)); have E4 := Lib.hid (part_on E3.out hb); have G1 := Lib.hid q1; have G2 := Lib.hid q2; have H34 := Lib.hid hb.size
  clear hb q1 q2 HRK E3
  by_cases hm : openLS ps = 0
  case neg =>
    have e2 := openLS_no (ps := ps) (by omega) hm
    have hr := G2.out hm
    rw [e2] at hr
    subst hr
    clear G1 G2 hm e2
    go_wp2_with fail
    exact bodyPost_ret (v := .bool true) (by simp [results, Tryz.results9, go_sem]) rfl ⟨rfl, HB4.out⟩
  obtain ⟨R, l, hR, rfl, hl1, hl2, hl3⟩ := G1.out hm
  rw [hN] at hl2 ⊢
  have OK := Lib.hid (openLS_ok hm).2
  have HROW := Lib.hid hl1; have HPM := Lib.hid (And.intro hl2 hl3); have HR := Lib.hid hR
  have hll : l.length = N := by rw [hl2.length_eq, List.length_range]
  have HLL := Lib.hid hll
  have HM := Lib.hid hm
  clear G1 G2 hm hl1 hl2 hl3 hR hll
  obtain ⟨i0, hi, hz0, hz1, hz2⟩ : ∃ i0, Tryz.prog.info? 4 = some i0 ∧ i0.zero = some (.bool false) ∧ i0.size = 1 ∧ i0.bytes = 1 := by
    obtain ⟨i, hi, hzz⟩ := Option.map_eq_some_iff.1 infoB
    simp only [Prod.mk.injEq] at hzz
    exact ⟨i, hi, hzz.1, hzz.2.1, hzz.2.2⟩
  have hmk := run_makeSlice (P := Tryz.prog) (w := w4) 55 4 i0 _ Tryz.underlying55 hi hz0 .i64 .i64 (N : Int) (N : Int) (by omega) (by omega) (by rw [hz1]; simp; omega) (by rw [hz2]; omega) (by omega)
  rw [hz1, Int.toNat_natCast, Nat.mul_one, made_bools] at hmk
  obtain ⟨W4, hW4⟩ : ∃ W, W = w4.alloc (.cells ((List.replicate N false).map Value.bool).toArray 4) := ⟨_, rfl⟩
  have b4 : Below w4.heap.size w4 W4 := by rw [hW4]; exact (Below.refl _ _).alloc (Nat.le_refl _) _
  have hbr : BoolRow W4 w4.heap.size (List.replicate N false) := by unfold BoolRow; rw [hW4]; exact Go.Deep.blk_alloc_new _ _
  rw [← hW4] at hmk
  have HBR := Lib.hid hbr; have HB44 := Lib.hid (HB4.out.trans (b4.mono HB4.out.size)); have HROW4 := Lib.hid (HROW.out.below b4); have E44 := Lib.hid (part_on E4.out b4)
  have HRlt := Lib.hid HROW.out.lt; have HLT4 : Hid (w.heap.size < w4.heap.size) := Lib.hid (Array.getElem?_eq_some_iff.1 E4.out).1
  clear hW4 b4 hbr E4
  go_wp2_with fail
  go_loopw [58] (fun iv wr => ∃ i : Nat, i ≤ N ∧ iv = .int .i64 (i : Int) ∧ Hid (W4.grownBy wr (some w4.heap.size)) ∧ Hid (BoolRow wr w4.heap.size (seenL l N i))) (fun iv _ => N - (intOf iv).toNat)
  case atStart => exact ⟨0, Nat.zero_le _, rfl, Lib.hid ⟨rfl, rfl, rfl, Nat.le_refl _, fun _ _ _ => rfl⟩, Lib.hid (by rw [seenL_zero]; exact HBR.out)⟩
  case round =>
    obtain ⟨i, hin, rfl, HG, HBO⟩ := hrel
    have hne4 : R < w4.heap.size := HRlt.out
    have hw4 : w.heap.size ≤ w4.heap.size := HB4.out.size
    have hbw : Below w.heap.size w wr := below_row HB44.out (Nat.le_refl _) HG.out hw4
    have hrow : IntRow wr R l := (HG.out.block R HROW4.out.lt (fun e => by have := Option.some.inj e; omega)).trans HROW4.out
    have HBW := Lib.hid hbw; have HRW := Lib.hid hrow
    by_cases hlt : i < N
    case pos =>
      obtain ⟨a, ha⟩ : ∃ a, l[i]? = some a := ⟨_, List.getElem?_eq_getElem (by rw [HLL.out]; exact hlt)⟩
      have han : a < N := List.mem_range.1 (HPM.out.1.mem_iff.1 (List.mem_of_getElem? ha))
      have hnin : ¬ a ∈ l.take i := fun h => by
        have hnd : l.Nodup := HPM.out.1.nodup_iff.2 List.nodup_range
        obtain ⟨j, hj, e⟩ := List.mem_iff_getElem.1 h
        have hj2 : j < i := by simp at hj; omega
        have e2 : l[j]? = some a := by rw [← e, List.getElem_take]; exact List.getElem?_eq_getElem _
        have := (List.getElem?_inj (by rw [HLL.out]; omega) hnd).1 (e2.trans ha.symm)
        omega
      have cr := hrow.cell ha
      have cb : wr.cell? ⟨w4.heap.size, a, none⟩ = some (.bool false) := by
        have h := HBO.out.cell (seenL_at (l := l) (i := i) han)
        rw [decide_eq_false hnin] at h; exact h
      have fb := HBO.out.free a
      have hset := HBO.out.set a true
      rw [seenL_succ ha] at hset
      have HSET := Lib.hid hset; have HA := Lib.hid ha
      have hi0 : (0 : Int) ≤ (i : Int) := by omega
      have hi1 : (i : Int) < (N : Int) := by omega
      have ha0 : (0 : Int) ≤ (a : Int) := by omega
      have ha1 : (a : Int) < (N : Int) := by omega
      have hna : ¬ (N : Int) ≤ (a : Int) := by omega
      have hna0 : ¬ (a : Int) < 0 := by omega
      have hiw : IntKind.i64.wrap (i : Int) = (i : Int) := IntWalk.i64_in _ (by omega)
      have haw : IntKind.i64.wrap (a : Int) = (a : Int) := IntWalk.i64_in _ (by omega)
      clear hset ha hnin hrow hbw
      rcases Nat.eq_zero_or_pos i with hz | hp
      · subst hz
        go_wp2_with fail
        exact ⟨⟨1, by omega, rfl, Lib.hid (grown_set HG.out _ _), HSET⟩, by simp [intOf]; omega⟩
      · obtain ⟨j, rfl⟩ : ∃ j, i = j + 1 := ⟨i - 1, by omega⟩
        obtain ⟨b, hb⟩ : ∃ b, l[j]? = some b := ⟨_, List.getElem?_eq_getElem (by rw [HLL.out]; omega)⟩
        have cj := HRW.out.cell hb
        have HBJ := Lib.hid hb
        have hpos1 : (0 : Int) < (j : Int) + 1 := by omega
        have hj0 : (0 : Int) ≤ (j : Int) := by omega
        have hj1 : (j : Int) < (N : Int) := by omega
        have hjw : IntKind.i64.wrap (j : Int) = (j : Int) := IntWalk.i64_in _ (by omega)
        have hcast : ((j + 1 : Nat) : Int) = (j : Int) + 1 := rfl
        rw [hcast] at hi0 hi1 hiw ⊢
        clear hb hcast
        go_wp2_with fail
        obtain ⟨W5, hW5⟩ : ∃ W, W = wr.setCell ⟨w4.heap.size, a, none⟩ (.bool true) := ⟨_, rfl⟩
        rw [← hW5]
        have hg5 : W4.grownBy W5 (some w4.heap.size) := by rw [hW5]; exact grown_set HG.out _ _
        have hb5 : Below w.heap.size w W5 := below_row HB44.out (Nat.le_refl _) hg5 hw4
        have hrow5 : IntRow W5 R l := (hg5.block R HROW4.out.lt (fun e => by have := Option.some.inj e; omega)).trans HROW4.out
        have cj5 := hrow5.cell HBJ.out
        have hbN : b < N := List.mem_range.1 (HPM.out.1.mem_iff.1 (List.mem_of_getElem? HBJ.out))
        obtain ⟨bl, ol, e7, -, cx0, cx1⟩ := partL_at3 (P0.out.below hb5) (i := b) (by rw [hN]; exact hbN)
        obtain ⟨bl', ol', e8, -, dx0, dx1⟩ := partL_at3 (P0.out.below hb5) (i := a) (by rw [hN]; exact han)
        subst e7; injection e8 with e8; injection e8 with e8 e8' _; subst e8 e8'
        have mb : ps[b]'(by rw [hN]; exact hbN) ∈ ps := List.getElem_mem _
        have ma : ps[a]'(by rw [hN]; exact han) ∈ ps := List.getElem_mem _
        have vb : (ps.map pv).getD b (0, 1) = pv (ps[b]'(by rw [hN]; exact hbN)) := by rw [List.getD_eq_getElem?_getD, List.getElem?_map, List.getElem?_eq_getElem (by rw [hN]; exact hbN)]; rfl
        have va : (ps.map pv).getD a (0, 1) = pv (ps[a]'(by rw [hN]; exact han)) := by rw [List.getD_eq_getElem?_getD, List.getElem?_map, List.getElem?_eq_getElem (by rw [hN]; exact han)]; rfl
        have hord : bef (ps.map pv) b a := by
          have hj' : j < l.length := by rw [HLL.out]; omega
          have hi' : j + 1 < l.length := by rw [HLL.out]; omega
          have h := List.pairwise_iff_getElem.1 HPM.out.2 j (j + 1) hj' hi' (by omega)
          rw [(List.getElem?_eq_some_iff.1 HBJ.out).2, (List.getElem?_eq_some_iff.1 HA.out).2] at h
          exact h
        unfold bef at hord
        rw [va, vb] at hord
        generalize ps[b]'(by rw [hN]; exact hbN) = pb at *
        generalize ps[a]'(by rw [hN]; exact han) = pa at *
        have ob := OK.out pb mb; have oa := OK.out pa ma
        have hcq := cmpF_qv (valid_frt (show validP pb.1 pb.2 = true from ob)).fr (valid_frt (show validP pa.1 pa.2 = true from oa)).fr
        obtain ⟨c, hc⟩ : ∃ c, cmpF (pv pb) (pv pa) = c := ⟨_, rfl⟩
        have hcq2 : (cmpF (pv pb) (pv pa) < 0 ↔ qv (pv pb) < qv (pv pa)) ∧ (cmpF (pv pb) (pv pa) = 0 ↔ qv (pv pb) = qv (pv pa)) := hcq
        rw [hc] at hcq2
        have hc1 : ¬ c < 0 := fun h => by have := hcq2.1.1 h; rcases hord with h2 | ⟨h2, -⟩ <;> grind
        have hc2 : c = 0 → ¬ a < b := fun h => by
          have h3 := hcq2.2.1 h
          rcases hord with h2 | ⟨-, h2⟩
          · exfalso; grind
          · omega
        obtain ⟨x1, x2⟩ := pb; obtain ⟨y1, y2⟩ := pa
        have Q : Hid (∀ W, Below W5.heap.size W5 W → Calls Tryz.prog 26 #[.agg #[.string x1, .string x2], .agg #[.string y1, .string y2]] W fun e w' => e = .returned (.int .i64 c) ∧ Below W.heap.size W w') := useCmp (w := W5) (fun W hW => HT.out W (hb5.trans (hW.mono hb5.size))) ob oa hc
        have HS5 : Hid (∀ W', Below W5.heap.size W5 W' → W'.cell? ⟨R, j, none⟩ = some (.int .i64 (b : Int)) ∧ W'.cell? ⟨bl, ol + b * 2, none⟩ = some (.string x1) ∧ W'.cell? ⟨bl, ol + b * 2 + 1, none⟩ = some (.string x2) ∧ W'.cell? ⟨bl, ol + a * 2, none⟩ = some (.string y1) ∧ W'.cell? ⟨bl, ol + a * 2 + 1, none⟩ = some (.string y2)) := Lib.hid fun W' h => ⟨cell_later h cj5, cell_later h cx0, cell_later h cx1, cell_later h dx0, cell_later h dx1⟩
        have hb0 : (0 : Int) ≤ (b : Int) := by omega
        have hb1 : (b : Int) < (N : Int) := by omega
        have hbw2 : IntKind.i64.wrap (b : Int) = (b : Int) := IntWalk.i64_in _ (by omega)
        rw [hW5] at Q HS5 hg5
        have HG5 := Lib.hid hg5; have HC1 := Lib.hid (And.intro hc1 hc2); have HSET5 := HSET
        rw [← hW5] at HSET5 HG5 Q HS5
        have HSETW : Hid (BoolRow W5 w4.heap.size (seenL l N (j + 1 + 1))) := HSET5
        clear hg5 hb5 hrow5 cj5 cx0 cx1 dx0 dx1 mb ma vb va hord ob oa hcq hcq2 hc hW5 hc1 hc2 cr cb fb cj HSET5
        refine wp_region_held_drew (S := fun W' => W'.cell? ⟨R, j, none⟩ = some (.int .i64 (b : Int)) ∧ W'.cell? ⟨bl, ol + b * 2, none⟩ = some (.string x1) ∧ W'.cell? ⟨bl, ol + b * 2 + 1, none⟩ = some (.string x2) ∧ W'.cell? ⟨bl, ol + a * 2, none⟩ = some (.string y1) ∧ W'.cell? ⟨bl, ol + a * 2 + 1, none⟩ = some (.string y2)) (by kernel_rfl) (HS5.out _ (Below.refl _ _).drew) (fun hHeld => ?_)
        refine takeH (i := 0) (n := 82) (v := .slice (some ⟨bl, ol, none⟩) N cap0) rfl rfl (by kernel_rfl) (by kernel_rfl) (by kernel_rfl) (fun _ _ _ h => h) (Or.inl ⟨by kernel_rfl, ?_⟩) (by assumption) ?_
        · intro w hSw; (try dsimp only at hSw); go_simp
        try simp only [Act.put, List.setIfInBounds_toArray, List.set_cons_zero, List.set_cons_succ]
        refine takeH (i := 1) (n := 83) (v := .slice (some ⟨R, 0, none⟩) N N) rfl rfl (by kernel_rfl) (by kernel_rfl) (by kernel_rfl) (fun _ _ _ h => h) (Or.inl ⟨by kernel_rfl, ?_⟩) (by assumption) ?_
        · intro w hSw; (try dsimp only at hSw); go_simp
        try simp only [Act.put, List.setIfInBounds_toArray, List.set_cons_zero, List.set_cons_succ]
        refine takeH (i := 2) (n := 84) (v := .int .i64 ((j : Int) + 1)) rfl rfl (by kernel_rfl) (by kernel_rfl) (by kernel_rfl) (fun _ _ _ h => h) (Or.inl ⟨by kernel_rfl, ?_⟩) (by assumption) ?_
        · intro w hSw; (try dsimp only at hSw); go_simp
        try simp only [Act.put, List.setIfInBounds_toArray, List.set_cons_zero, List.set_cons_succ]
        refine takeH (i := 3) (n := 85) (v := .int .i64 (j : Int)) rfl rfl (by kernel_rfl) (by kernel_rfl) (by kernel_rfl) (fun _ _ _ h => h) (Or.inl ⟨by kernel_rfl, ?_⟩) (by assumption) ?_
        · intro w hSw; (try dsimp only at hSw); go_simp
        try simp only [Act.put, List.setIfInBounds_toArray, List.set_cons_zero, List.set_cons_succ]
        refine takeH (i := 4) (n := 86) (v := .pointer (some ⟨R, j, none⟩)) rfl rfl (by kernel_rfl) (by kernel_rfl) (by kernel_rfl) (fun _ _ _ h => h) (Or.inl ⟨by kernel_rfl, ?_⟩) (by assumption) ?_
        · intro w hSw; (try dsimp only at hSw); go_simp
        try simp only [Act.put, List.setIfInBounds_toArray, List.set_cons_zero, List.set_cons_succ]
        refine takeH (i := 5) (n := 87) (v := .int .i64 (b : Int)) rfl rfl (by kernel_rfl) (by kernel_rfl) (by kernel_rfl) (fun _ _ _ h => h) (Or.inl ⟨by kernel_rfl, ?_⟩) (by assumption) ?_
        · intro w hSw; (try dsimp only at hSw); go_simp
        try simp only [Act.put, List.setIfInBounds_toArray, List.set_cons_zero, List.set_cons_succ]
        refine takeH (i := 6) (n := 88) (v := .pointer (some ⟨bl, ol + b * 2, none⟩)) rfl rfl (by kernel_rfl) (by kernel_rfl) (by kernel_rfl) (fun _ _ _ h => h) (Or.inl ⟨by kernel_rfl, ?_⟩) (by assumption) ?_
        · intro w hSw; (try dsimp only at hSw); go_simp
        try simp only [Act.put, List.setIfInBounds_toArray, List.set_cons_zero, List.set_cons_succ]
        refine takeH (i := 7) (n := 89) (v := .agg #[.string x1, .string x2]) rfl rfl (by kernel_rfl) (by kernel_rfl) (by kernel_rfl) (fun _ _ _ h => h) (Or.inl ⟨by kernel_rfl, ?_⟩) (by assumption) ?_
        · intro w hSw; (try dsimp only at hSw); go_simp
        try simp only [Act.put, List.setIfInBounds_toArray, List.set_cons_zero, List.set_cons_succ]
        refine takeH (i := 8) (n := 90) (v := .slice (some ⟨bl, ol, none⟩) N cap0) rfl rfl (by kernel_rfl) (by kernel_rfl) (by kernel_rfl) (fun _ _ _ h => h) (Or.inl ⟨by kernel_rfl, ?_⟩) (by assumption) ?_
        · intro w hSw; (try dsimp only at hSw); go_simp
        try simp only [Act.put, List.setIfInBounds_toArray, List.set_cons_zero, List.set_cons_succ]
        refine takeH (i := 9) (n := 91) (v := .int .i64 (a : Int)) rfl rfl (by kernel_rfl) (by kernel_rfl) (by kernel_rfl) (fun _ _ _ h => h) (Or.inl ⟨by kernel_rfl, ?_⟩) (by assumption) ?_
        · intro w hSw; (try dsimp only at hSw); go_simp
        try simp only [Act.put, List.setIfInBounds_toArray, List.set_cons_zero, List.set_cons_succ]
        refine takeH (i := 10) (n := 92) (v := .pointer (some ⟨bl, ol + a * 2, none⟩)) rfl rfl (by kernel_rfl) (by kernel_rfl) (by kernel_rfl) (fun _ _ _ h => h) (Or.inl ⟨by kernel_rfl, ?_⟩) (by assumption) ?_
        · intro w hSw; (try dsimp only at hSw); go_simp
        try simp only [Act.put, List.setIfInBounds_toArray, List.set_cons_zero, List.set_cons_succ]
        refine takeH (i := 11) (n := 93) (v := .agg #[.string y1, .string y2]) rfl rfl (by kernel_rfl) (by kernel_rfl) (by kernel_rfl) (fun _ _ _ h => h) (Or.inl ⟨by kernel_rfl, ?_⟩) (by assumption) ?_
        · intro w hSw; (try dsimp only at hSw); go_simp
        try simp only [Act.put, List.setIfInBounds_toArray, List.set_cons_zero, List.set_cons_succ]
        refine wpAnyH_ready (rs := [12]) (by kernel_rfl) (by simp) ?_
        refine AllReadyH.cons rfl (fun K hK => ?_) AllReadyH.nil
        try rw [if_pos (by kernel_rfl)]
        try go_simp
        go_at_call 26
        refine (Q.out _ (Below.refl _ _).drew).mono ?_
        rintro e w6 ⟨rfl, hb⟩
        have hBn := below_chain (W := W5) (Below.refl _ _).drew hb
        refine hK.out _ _ (HS5.out _ hBn) (fun hHeld => ?_)
        clear hK K
        try simp only [Act.put, List.setIfInBounds_toArray, List.set_cons_zero, List.set_cons_succ]
        refine takeH (i := 13) (n := 13) (v := .int .i64 c) rfl rfl (by kernel_rfl) (by kernel_rfl) (by kernel_rfl) (fun _ _ _ h => h) (Or.inl ⟨by kernel_rfl, ?_⟩) (by assumption) ?_
        · intro w hSw; (try dsimp only at hSw); go_simp
        try simp only [Act.put, List.setIfInBounds_toArray, List.set_cons_zero, List.set_cons_succ]
        refine wpAnyH_done (by kernel_rfl) ?_ _
        have c6 := (HS5.out _ hBn).1
        have H6 := Lib.hid hBn
        clear hb hBn hHeld HS5 Q
        have hend : (∃ i : Nat, i ≤ N ∧ Value.int .i64 ((j : Int) + 1 + 1) = .int .i64 (i : Int) ∧ Hid (W4.grownBy w6 (some w4.heap.size)) ∧ Hid (BoolRow w6 w4.heap.size (seenL l N i))) := ⟨j + 1 + 1, by omega, rfl, Lib.hid (grown_trans HG5.out (grown_of H6.out (Nat.le_refl _))), Lib.hid (HSETW.out.below H6.out)⟩
        have HEND := Lib.hid hend
        clear hend
        have hc1 := HC1.out.1
        by_cases hcz : c = 0
        · have hab := HC1.out.2 hcz
          have habi : ¬ (a : Int) < (b : Int) := by omega
          subst hcz
          go_wp2_with fail
          exact ⟨HEND.out, by simp [intOf]; omega⟩
        · have hczb : (c == 0) = false := beq_eq_false_iff_ne.2 hcz
          go_wp2_with fail
          exact ⟨HEND.out, by simp [intOf]; omega⟩
    case neg =>
      obtain rfl : N = i := by omega
      have hepw : wr.heap[w.heap.size]? = some (partO p1 p2) := by
        have hlt4 : w.heap.size < w4.heap.size := HLT4.out
        exact (HG.out.block w.heap.size (Array.getElem?_eq_some_iff.1 E44.out).1 (fun e => by have := Option.some.inj e; omega)).trans E44.out
      have hcv := Cover_any ps p1 p2 (.slice a0 N cap0) wr (P0.out.below hbw) SO.out SOP.out (by omega) (HT.out wr hbw) (by have := hbw.size; have := HPOS.out; omega)
      have HCV := Lib.hid hcv; have HEW := Lib.hid hepw
      obtain ⟨y0, y1, y2⟩ := part_at hepw
      clear hcv hepw hbw hrow HBO
      go_wp2_with fail
      refine HCV.out.mono ?_
      rintro e w5 ⟨hb, c1, c2, c3⟩
      have HB5 := Lib.hid (HBW.out.trans (hb.mono HBW.out.size)); have E5 := Lib.hid (part_on HEW.out hb)
      have hsx := parts_sm OK.out SZ.out
      obtain ⟨nn, ff, rfl, hnf⟩ : ∃ nn ff : Int, e = .returned (.tuple #[.int .i64 nn, .int .i64 ff]) ∧ ((okP (p1, p2) = false ∧ ff = 2) ∨ (okP (p1, p2) = true ∧ ∀ (c : Nat → Bool) s, sumO (chosen (ps.map pv) c N) (0, 1) = some s → ¬ cmpF s (pv (p1, p2)) < 0 → ff = 0 ∧ nn ≤ ((chosen (ps.map pv) c N).length : Int))) := by
        cases hok : okP (p1, p2) with
        | false => exact ⟨0, 2, c2 HM.out hok, .inl ⟨rfl, rfl⟩⟩
        | true =>
          obtain ⟨l', k1, k2, rfl⟩ := c3 HM.out hok
          rw [hN] at k1 ⊢
          have hfg : Fr (pv (p1, p2)) := (valid_frt (show validP p1 p2 = true from hok)).fr
          have hlx : (ps.map pv).length = N := by rw [List.length_map]; exact hN
          cases ho : reachL (byIdx (ps.map pv) l') (0, 1) (pv (p1, p2)) 0 with
          | none => exact ⟨0, 4, rfl, .inr ⟨rfl, fun c s h1 h2 => by
              obtain ⟨r, e1, e2⟩ := fewest (xs := ps.map pv) (c := c) hsx (by omega) hfg (by rw [hlx]; exact k1) k2 (by rw [hlx]; exact h1)
              rw [ho] at e1; cases e1⟩⟩
          | some k =>
            have hfew : ∀ (c : Nat → Bool) s, sumO (chosen (ps.map pv) c N) (0, 1) = some s → ¬ cmpF s (pv (p1, p2)) < 0 → k ≤ (chosen (ps.map pv) c N).length := fun c s h1 h2 => by
              obtain ⟨r, e1, e2⟩ := fewest (xs := ps.map pv) (c := c) hsx (by omega) hfg (by rw [hlx]; exact k1) k2 (by rw [hlx]; exact h1)
              rw [ho] at e1
              obtain rfl := Option.some.inj e1
              have := e2 h2
              rw [hlx] at this; exact this
            by_cases hk : N < k
            · exact ⟨0, 7, by show Ending.returned (if N < k then _ else _) = _; rw [if_pos hk], .inr ⟨rfl, fun c s h1 h2 => by have := hfew c s h1 h2; have := chosen_len (ps.map pv) c N; omega⟩⟩
            · exact ⟨k, 0, by show Ending.returned (if N < k then _ else _) = _; rw [if_neg hk], .inr ⟨rfl, fun c s h1 h2 => ⟨rfl, by have := hfew c s h1 h2; omega⟩⟩⟩
      have HNF := Lib.hid hnf; have HSX := Lib.hid hsx
      clear hb c1 c2 c3 HCV hnf hsx y0 y1 y2
      go_wp2_with fail
      generalize wr = Wr at *
      obtain ⟨cc, hcc⟩ : ∃ cc : Nat → Bool, cc = fun i => (bits BinOp.and IntKind.u16 (ch / 2 ^ i) 1 == 1) := ⟨_, rfl⟩
      have HCC := Lib.hid hcc
      clear hcc
      obtain ⟨i0', hi', hz0', hz1', hz2'⟩ : ∃ i0, Tryz.prog.info? 24 = some i0 ∧ i0.zero = some (.agg #[.string ⟨#[]⟩, .string ⟨#[]⟩]) ∧ i0.size = 2 ∧ i0.bytes = 32 := by
        obtain ⟨i, hi, hzz⟩ := Option.map_eq_some_iff.1 infoP
        simp only [Prod.mk.injEq] at hzz
        exact ⟨i, hi, hzz.1, hzz.2.1, hzz.2.2⟩
      have HB5W := HB5; have E5W := E5
      go_loopw [16, 119] (fun bv iv wr => ∃ i : Nat, i ≤ N ∧ iv = .int .i64 (i : Int) ∧ Hid (Below w.heap.size w wr) ∧ Hid (wr.heap[w.heap.size]? = some (partO p1 p2)) ∧ Hid (wr.ownsRow (w.heap.size + 1) 24 2 bv (chosen (ps.map pv) cc i).length (partCells (chosen (ps.map pv) cc i)))) (fun _ iv _ => N - (intOf iv).toNat)
      case atStart => exact ⟨0, Nat.zero_le _, rfl, HB5, E5, Lib.hid ⟨by simp [chosen, partCells], .inl ⟨rfl, by simp [chosen]⟩⟩⟩
      case round =>
        obtain ⟨i, hin, rfl, HB, HEE, HR⟩ := hrel
        by_cases hlt : i < N
        case pos =>
          have hi0 : (0 : Int) ≤ (i : Int) := by omega
          have hi1 : (i : Int) < (N : Int) := by omega
          have hi2 : (i : Int) < 16 := by omega
          have hiw : IntKind.i64.wrap (i : Int) = (i : Int) := IntWalk.i64_in _ (by omega)
          have hsucc := chosen_succ (ps.map pv) cc i
          have hci : cc i = (bits BinOp.and IntKind.u16 (ch / 2 ^ i) 1 == 1) := by rw [HCC.out]
          rw [hci] at hsucc
          have HSU := Lib.hid hsucc
          clear hsucc hci
          cases htest : (bits BinOp.and IntKind.u16 (ch / 2 ^ i) 1 == 1) with
          | false =>
            have hs2 := HSU.out
            rw [htest, if_neg Bool.false_ne_true] at hs2
            have HS2 := Lib.hid hs2
            clear hs2
            go_wp2_with fail
            exact ⟨⟨i + 1, by omega, rfl, HB, HEE, Lib.hid (by rw [HS2.out]; exact HR.out)⟩, by simp [intOf]; omega⟩
          | true =>
            have hs2 := HSU.out
            rw [htest, if_pos rfl] at hs2
            have HS2 := Lib.hid hs2
            obtain ⟨bl, ol, e7, -, cx0, cx1⟩ := partL_at3 (P0.out.below HB.out) (i := i) (by rw [hN]; exact hlt)
            subst e7
            have ma : ps[i]'(by rw [hN]; exact hlt) ∈ ps := List.getElem_mem _
            have va : (ps.map pv).getD i (0, 1) = pv (ps[i]'(by rw [hN]; exact hlt)) := by rw [List.getD_eq_getElem?_getD, List.getElem?_map, List.getElem?_eq_getElem (by rw [hN]; exact hlt)]; rfl
            generalize ps[i]'(by rw [hN]; exact hlt) = pa at *
            have hpt := pt_pv (OK.out pa ma)
            obtain ⟨x1, x2⟩ := pa
            have VA := Lib.hid va; have HPT := Lib.hid hpt
            obtain ⟨cl, hcl⟩ : ∃ cl, cl = chosen (ps.map pv) cc i := ⟨_, rfl⟩
            have hclen : cl.length ≤ 10 := by rw [hcl]; exact Nat.le_trans (chosen_len _ _ _) (by omega)
            rw [← hcl] at HR HS2
            have hown5 := owns_below HR.out ((Below.refl _ _).alloc (Nat.le_refl _) (.cells #[.string x1, .string x2] 24))
            have hb5 : w.heap.size + 1 ≤ (wr.alloc (.cells #[.string x1, .string x2] 24)).heap.size := by rw [World.size_alloc]; have := HB.out.size; omega
            have HCL := Lib.hid hcl
            clear hs2 ma va hpt hcl
            go_wp2_with (at_builtin; go_loud (refine wpList_append_own_at _ rfl _ _ 34 rfl (w.heap.size + 1) 24 i0' (.agg #[.string ⟨#[]⟩, .string ⟨#[]⟩]) 2 32 Tryz.underlying34 hi' hz0' hz1' hz2' rfl (by decide) u16 cl.length (partCells cl) rfl hown5 ⟨wr.heap.size, 0, none⟩ 1 1 [.string x1, .string x2] rfl rfl (cells_two_new _ _ _ _) ?c2 ?c3 ?c4 hb5 ?_))
            case c2 => exact ⟨rfl, rfl⟩
            case c3 => unfold maxLen; omega
            case c4 => omega
            intro v' w' hrow hg hnil hob
            have hbw : Below w.heap.size w w' := below_grown' (HB.out.alloc HB.out.size (.cells #[.string x1, .string x2] 24)) (Nat.le_refl _) hg (fun c hc => by have := owns_base hown5 c hc; omega)
            have hee := (hg.block w.heap.size (by rw [World.size_alloc]; have := (Array.getElem?_eq_some_iff.1 HEE.out).1; omega) (fun e => by have := owns_base hown5 _ e.symm; omega)).trans (part_on HEE.out ((Below.refl _ _).alloc (Nat.le_refl _) (.cells #[.string x1, .string x2] 24)))
            have HROW2 := Lib.hid hrow; have HBW2 := Lib.hid hbw; have HEE2 := Lib.hid hee
            clear hrow hg hnil hob hown5 hb5 hbw hee cx0 cx1
            go_wp2_with fail
            refine ⟨⟨i + 1, by omega, rfl, HBW2, HEE2, Lib.hid ?_⟩, by simp [intOf]; omega⟩
            rw [HS2.out, partCells_snoc, VA.out, List.length_append]
            have e1 : x1 = dec (pv (x1, x2)).1 := (congrArg (·.1) HPT.out).symm
            have e2 : x2 = dec (pv (x1, x2)).2 := (congrArg (·.2) HPT.out).symm
            rw [← e1, ← e2]; exact HROW2.out
        case neg =>
          obtain rfl : N = i := by omega
          have hlx : (ps.map pv).length = N := by rw [List.length_map]; exact hN
          have hcs := chosen_sm HSX.out cc (i := N) (by omega)
          have hcl := chosen_len (ps.map pv) cc N
          obtain ⟨s, e1, e2⟩ := sum_sm (chosen (ps.map pv) cc N) 1 (0, 1) hcs sm_zero (by omega)
          have hss : Sm 211 s := e2.mono (by omega)
          have hnf2 : (okP (p1, p2) = false ∧ ff = 2) ∨ (okP (p1, p2) = true ∧ (¬ cmpF s (pv (p1, p2)) < 0 → ff = 0 ∧ nn ≤ ((chosen (ps.map pv) cc N).length : Int))) := by
            rcases HNF.out with h | ⟨h1, h2⟩
            · exact .inl h
            · exact .inr ⟨h1, fun h => h2 cc s e1 (by omega)⟩
          have hsum : sumS (pts (chosen (ps.map pv) cc N)) = (ptOf s, 0) := by
            unfold sumS
            rw [if_neg (fun k => k (openLS_yes (by rw [pts_len]; omega) (pts_ok (by decide) hcs))), pts_pv, e1]; rfl
          have hrow := HR.out
          generalize chosen (ps.map pv) cc N = cl at *
          have hpl := partL_of_owns hrow (by omega)
          obtain ⟨asv, caps, e3⟩ := hpl.shape
          rw [pts_len] at e3
          subst e3
          have hcall := Sum_any (pts cl) _ wr hpl (short_of_ok (pts_ok (by decide) hcs)) (HT.out wr HB.out)
          rw [hsum] at hcall
          obtain ⟨⟨s1, s2⟩, hs12⟩ : ∃ r, ptOf s = r := ⟨_, rfl⟩
          rw [hs12] at hcall
          have hcall2 : Calls Tryz.prog 19 #[.slice asv cl.length caps] wr fun e w' => e = .returned (.tuple #[.agg #[.string s1, .string s2], .int .i64 0]) ∧ Below wr.heap.size wr w' := hcall
          have HC := Lib.hid hcall2; have HNF2 := Lib.hid hnf2; have HS12 := Lib.hid hs12; have HSS := Lib.hid hss; have HCLN := Lib.hid hcl
          clear hcall hcall2 hnf2 hs12 hss hpl hrow hsum e1 e2 hcs hcl hlx HR HSX HNF
          go_wp2_with fail
          refine HC.out.mono ?_
          rintro e w7 ⟨rfl, hb⟩
          obtain ⟨W7, hW7⟩ : ∃ W, W = w7.alloc (.cells #[.string s1, .string s2] 24) := ⟨_, rfl⟩
          have b7 : Below w7.heap.size w7 W7 := by rw [hW7]; exact (Below.refl _ _).alloc (Nat.le_refl _) _
          have hb7 := hb.trans (b7.mono hb.size)
          have HB7 := Lib.hid (HB.out.trans (hb7.mono HB.out.size)); have E7 := Lib.hid (part_on HEE.out hb7)
          have k7 : W7.heap[w7.heap.size]? = some (partO s1 s2) := by rw [hW7]; exact Go.Deep.blk_alloc_new _ _
          have K7 := Lib.hid k7; have HW7 := Lib.hid hW7
          obtain ⟨y0, y1, y2⟩ := part_at (part_on HEE.out hb)
          have hchk := Check_any (p1, p2) W7 SOP.out (HT.out W7 HB7.out)
          have HCHK := Lib.hid hchk
          clear hb b7 hb7 k7 hW7 HC HEE hchk
          go_wp2_with fail
          rw [← HW7.out]
          refine HCHK.out.mono ?_
          rintro e w8 ⟨rfl, hb⟩
          have HB8 := Lib.hid (HB7.out.trans (hb.mono HB7.out.size)); have E8 := Lib.hid (part_on E7.out hb); have K8 := Lib.hid (part_on K7.out hb)
          clear hb HCHK y0 y1 y2 E7 K7
          rcases HNF2.out with ⟨hok, rfl⟩ | ⟨hok, himp⟩
          · have e2 : chkS (p1, p2) = 2 := by unfold chkS; rw [hok]; rfl
            rw [e2]
            go_wp2_with fail
            exact bodyPost_ret (v := .bool true) (by simp [results, Tryz.results9, go_sem]) rfl ⟨rfl, HB8.out⟩
          · have e2 : chkS (p1, p2) = 0 := by unfold chkS; rw [hok]; rfl
            rw [e2]
            obtain ⟨c, hc⟩ : ∃ c, cmpF s (pv (p1, p2)) = c := ⟨_, rfl⟩
            rw [hc] at himp
            have os : okP (s1, s2) = true := by rw [← HS12.out]; exact pt_ok HSS.out (by decide)
            have Q := useCmp (w := w) (fun W hW => HT.out W hW) os hok (z := c) (by rw [← HS12.out, pv_pt]; exact hc)
            have HIMP := Lib.hid himp
            obtain ⟨y0, y1, y2⟩ := part_at E8.out
            obtain ⟨z0, z1, z2⟩ := part_at K8.out
            clear himp hc os e2 hok
            go_wp2_with fail
            refine (Q.out _ HB8.out).mono ?_
            rintro e w9 ⟨rfl, hb⟩
            have HB9 := Lib.hid (HB8.out.trans (hb.mono HB8.out.size))
            clear hb y0 y1 y2 z0 z1 z2 Q
            by_cases hc0 : c < 0
            · have hc1 : ¬ 0 ≤ c := by omega
              go_wp2_with fail
              exact bodyPost_ret (v := .bool true) (by simp [results, Tryz.results9, go_sem]) rfl ⟨rfl, HB9.out⟩
            · have hc1 : 0 ≤ c := by omega
              obtain ⟨rfl, hnn⟩ := HIMP.out hc1
              clear hc0
              go_wp2_with fail
              exact bodyPost_ret (v := .bool true) (by simp [results, Tryz.results9, go_sem]) rfl ⟨rfl, HB9.out⟩
end Go.Proofs.YtkggfeemjabdeaaGreatDoor.Wc
end
