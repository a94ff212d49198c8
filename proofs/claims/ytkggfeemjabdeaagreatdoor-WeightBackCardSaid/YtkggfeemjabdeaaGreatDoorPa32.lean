/- WeightOrders: the main path. Text. readQuotient. -/
import Derived.Test.YtkggfeemjabdeaaGreatDoorPa30
import Derived.Test.YtkggfeemjabdeaaGreatDoorPa31
section
namespace Go.Proofs.YtkggfeemjabdeaaGreatDoor.Wc
open Go Go.Proofs.YtkggfeemjabdeaaGreatDoor.Sx Go.RowKit

theorem list_inj {a b : ByteArray} (h : a.toList = b.toList) : a = b := by
  rw [ByteArray.toList_eq, ByteArray.toList_eq] at h
  exact Go.WideShapes.bytes_inj h
theorem useCmp {w : World} (HT : ∀ W, Below w.heap.size w W → Tens W) {a1 a2 b1 b2 : ByteArray} {z : Int} (ha : okP (a1, a2) = true) (hb : okP (b1, b2) = true) (h : cmpF (pv (a1, a2)) (pv (b1, b2)) = z) : Hid (∀ W, Below w.heap.size w W → Calls Tryz.prog 26 #[.agg #[.string a1, .string a2], .agg #[.string b1, .string b2]] W fun e w' => e = .returned (.int .i64 z) ∧ Below W.heap.size W w') := Lib.hid fun W hW => by
  have k := Compare_any (a1, a2) (b1, b2) W (short_ok ha) (short_ok hb) (HT W hW)
  have e : cmpS (a1, a2) (b1, b2) = z := by unfold cmpS; rw [ha, hb, ← h]; rfl
  rw [e] at k; exact k


set_option maxRecDepth 100000 in
set_option maxHeartbeats 8000000 in
theorem orders_lt_z (a1 a2 b1 b2 c1 c2 : ByteArray) (ha : okP (a1, a2) = true) (hb : okP (b1, b2) = true) (hc : okP (c1, c2) = true) (sa : shortP 60 (a1, a2) = true) (sb : shortP 60 (b1, b2) = true) (sc : shortP 60 (c1, c2) = true) (hn : (pv (a1, a2)).1 * (pv (b1, b2)).2 < (pv (b1, b2)).1 * (pv (a1, a2)).2) (hcz : c1 = zeroB) (w : World) (ht : Tens w) (h0 : 0 < w.heap.size) :
    Calls Tryz.prog 5 #[.agg #[.string a1, .string a2], .agg #[.string b1, .string b2], .agg #[.string c1, .string c2]] w fun e w' => e = .returned (.bool true) ∧ Below w.heap.size w w' := by
  have HT : ∀ W, Below w.heap.size w W → Tens W := fun W hW j hj => cell_later hW (ht j hj)
  have HAL : Hid (∀ W, Below w.heap.size w W → Calls Tryz.prog 20 #[] W fun e w' => e = .returned (.bool true) ∧ Below W.heap.size W w') := Lib.hid fun W hW => alive_any W (HT W hW) (by have := hW.size; omega)
  have sha : a1.size ≤ 60 ∧ a2.size ≤ 60 := by unfold shortP at sa; simpa using sa
  have shb : b1.size ≤ 60 ∧ b2.size ≤ 60 := by unfold shortP at sb; simpa using sb
  have shc : c1.size ≤ 60 ∧ c2.size ≤ 60 := by unfold shortP at sc; simpa using sc
  have mA := sm_of (k := 60) ha sha.1 sha.2
  have mB := sm_of (k := 60) hb shb.1 shb.2
  have mC := sm_of (k := 60) hc shc.1 shc.2
  have eA := pt_pv ha; have eB := pt_pv hb; have eC := pt_pv hc
  have hzz := num_zero hc
  have hcmp : cmpF (pv (a1, a2)) (pv (b1, b2)) = (-1) := cmpF_lt hn
  have C1 := useCmp HT ha hb hcmp
  have C2 := useCmp (z := 1) HT hb ha (by rw [cmpF_swap, hcmp] <;> rfl)
  have heq : ¬ (a1, a2) = (b1, b2) := fun h => by rw [h] at hn; exact Nat.lt_irrefl _ hn
  obtain ⟨⟨d1, d2⟩, hsub⟩ : ∃ r, subS (a1, a2) (b1, b2) = (r, 11) := ⟨_, subS_less ha hb hn⟩
  have Q2 := useSub HT hsub ha hb
  generalize hgA : pv (a1, a2) = A at *
  generalize hgB : pv (b1, b2) = B at *
  generalize hgC : pv (c1, c2) = C at *
  have m1 := mA.add mC (m := 121) rfl; have m2 := mB.add mC (m := 121) rfl; have m3 := mA.mul mC (m := 120) rfl; have m4 := mB.mul mC (m := 120) rfl
  have q3 := add_pt mA mC (by decide); have q4 := add_pt mB mC (by decide); have q5 := mul_pt mA mC (by decide); have q6 := mul_pt mB mC (by decide)
  have o1 := pt_ok m1 (by decide); have o2 := pt_ok m2 (by decide); have o3 := pt_ok m3 (by decide); have o4 := pt_ok m4 (by decide)
  have v1 := pv_pt (addF A C); have v2 := pv_pt (addF B C); have v3 := pv_pt (mulF A C); have v4 := pv_pt (mulF B C)
  rw [eA, eC] at q3 q5; rw [eB, eC] at q4 q6
  obtain ⟨⟨x1, x2⟩, hx⟩ : ∃ r, ptOf (addF A C) = r := ⟨_, rfl⟩
  obtain ⟨⟨y1, y2⟩, hy⟩ : ∃ r, ptOf (addF B C) = r := ⟨_, rfl⟩
  obtain ⟨⟨p1, p2⟩, hp⟩ : ∃ r, ptOf (mulF A C) = r := ⟨_, rfl⟩
  obtain ⟨⟨r1, r2⟩, hr⟩ : ∃ r, ptOf (mulF B C) = r := ⟨_, rfl⟩
  rw [hx] at q3 o1 v1; rw [hy] at q4 o2 v2; rw [hp] at q5 o3 v3; rw [hr] at q6 o4 v4
  have Q3 := useAdd HT q3 ha hc; have Q4 := useAdd HT q4 hb hc; have Q5 := useMul HT q5 ha hc; have Q6 := useMul HT q6 hb hc
  have C3 := useCmp (z := 0) HT o3 o4 (by rw [v3, v4]; exact cmpF_prod0 mA.fr mB.fr mC.fr (by rw [hzz]; exact hcz))
  have C4 := useCmp (z := (-1)) HT o1 o2 (by rw [v1, v2]; exact (cmpF_sum mA.fr mB.fr mC.fr).trans hcmp)
  have U1 := useChk HT ha; have U2 := useChk HT hb; have U3 := useChk HT hc
  have HSH := Lib.hid (And.intro sa (And.intro sb sc)); have HEQ := Lib.hid heq; have HCZ := Lib.hid hcz
  clear q3 q4 q5 q6 o1 o2 o3 o4 v1 v2 v3 v4 m1 m2 m3 m4 mA mB mC eA eB eC hx hy hp hr hsub hcmp hn heq hcz hzz sha shb shc sa sb sc HT ht ha hb hc hgA hgB hgC
  obtain ⟨V1, hV1⟩ : ∃ W, W = w.alloc (.cells #[.string a1, .string a2] 24) := ⟨_, rfl⟩
  obtain ⟨V2, hV2⟩ : ∃ W, W = V1.alloc (.cells #[.string b1, .string b2] 24) := ⟨_, rfl⟩
  obtain ⟨V3, hV3⟩ : ∃ W, W = V2.alloc (.cells #[.string c1, .string c2] 24) := ⟨_, rfl⟩
  have v01 : Below w.heap.size w V1 := by rw [hV1]; exact (Below.refl _ _).alloc (Nat.le_refl _) _
  have v12 : Below V1.heap.size V1 V2 := by rw [hV2]; exact (Below.refl _ _).alloc (Nat.le_refl _) _
  have v23 : Below V2.heap.size V2 V3 := by rw [hV3]; exact (Below.refl _ _).alloc (Nat.le_refl _) _
  have z1 : V1.heap.size = w.heap.size + 1 := by rw [hV1, World.size_alloc]
  have z2 : V2.heap.size = w.heap.size + 1 + 1 := by rw [hV2, World.size_alloc, z1]
  have ka : V3.heap[w.heap.size]? = some (partO a1 a2) := part_on (part_on (by rw [hV1]; exact Go.Deep.blk_alloc_new _ _) v12) v23
  have kb : V3.heap[w.heap.size + 1]? = some (partO b1 b2) := part_on (by rw [← z1, hV2]; exact Go.Deep.blk_alloc_new _ _) v23
  have kc : V3.heap[w.heap.size + 1 + 1]? = some (partO c1 c2) := by rw [← z2, hV3]; exact Go.Deep.blk_alloc_new _ _
  have HB := Lib.hid (v01.trans ((below_chain v12 v23).mono v01.size))
  have HV1 := Lib.hid hV1; have HV2 := Lib.hid hV2; have HV3 := Lib.hid hV3; have Ka := Lib.hid ka; have Kb := Lib.hid kb; have Kc := Lib.hid kc
  clear hV1 hV2 hV3 v01 v12 v23 z1 z2 ka kb kc
  go_enter Tryz.func5, Tryz.ntmps5
  go_wp2_with fail
  rw [← HV1.out, ← HV2.out, ← HV3.out]
  refine (HAL.out V3 HB.out).mono ?_
  rintro e w1 ⟨rfl, hb1⟩
  have Hw1 := Lib.hid (HB.out.trans (hb1.mono HB.out.size))
  have ka := part_on Ka.out hb1
  have kb := part_on Kb.out hb1
  have kc := part_on Kc.out hb1
  clear Ka Kb Kc hb1
  obtain ⟨ya0, ya1, ya2⟩ := part_at ka
  obtain ⟨yb0, yb1, yb2⟩ := part_at kb
  obtain ⟨yc0, yc1, yc2⟩ := part_at kc
  obtain ⟨W1, hW1⟩ : ∃ W, W = w1.alloc (.cells #[.string a1, .string a2, .string b1, .string b2, .string c1, .string c2] 24) := ⟨_, rfl⟩
  have bb : Below w1.heap.size w1 W1 := by rw [hW1]; exact (Below.refl _ _).alloc (Nat.le_refl _) _
  have Ka := Lib.hid (part_on ka bb)
  have Kb := Lib.hid (part_on kb bb)
  have Kc := Lib.hid (part_on kc bb)
  have HW1 := Lib.hid (Hw1.out.trans (bb.mono Hw1.out.size))
  have kk : W1.heap[w1.heap.size]? = some (.cells #[.string a1, .string a2, .string b1, .string b2, .string c1, .string c2] 24 (0, 0)) := by rw [hW1]; exact Go.Deep.blk_alloc_new _ _
  have KK := Lib.hid kk
  clear kk
  have HEW1 := Lib.hid hW1
  clear bb hW1 ka kb kc
  go_wp2_with fail
  rw [← HEW1.out]
  clear ya0 ya1 ya2 yb0 yb1 yb2 yc0 yc1 yc2
  have hsh := short_any 60 [(a1, a2), (b1, b2), (c1, c2)] (.slice (some ⟨w1.heap.size, 0, none⟩) 3 3) W1 (.inr ⟨w1.heap.size, 0, 3, rfl, by simp, by decide, (Array.getElem?_eq_some_iff.1 KK.out).1, fun i hi => by
    match i, hi with
    | 0, _ => exact ⟨by rw [set_cells KK.out]; rfl, by rw [set_cells KK.out]; rfl⟩
    | 1, _ => exact ⟨by rw [set_cells KK.out]; rfl, by rw [set_cells KK.out]; rfl⟩
    | 2, _ => exact ⟨by rw [set_cells KK.out]; rfl, by rw [set_cells KK.out]; rfl⟩⟩) (by simp) (by decide)
  have hall : [(a1, a2), (b1, b2), (c1, c2)].all (shortP 60) = true := by
    simp only [List.all_cons, List.all_nil, HSH.out.1, HSH.out.2.1, HSH.out.2.2, Bool.and_self]
  rw [hall] at hsh
  have HSHORT := Lib.hid hsh
  clear hsh hall KK
  refine (HSHORT.out).mono ?_
  rintro e w2 ⟨rfl, hb2⟩
  have Hw2 := Lib.hid (HW1.out.trans (hb2.mono HW1.out.size))
  have ka := part_on Ka.out hb2
  have kb := part_on Kb.out hb2
  have kc := part_on Kc.out hb2
  clear Ka Kb Kc hb2
  obtain ⟨ya0, ya1, ya2⟩ := part_at ka
  obtain ⟨yb0, yb1, yb2⟩ := part_at kb
  obtain ⟨yc0, yc1, yc2⟩ := part_at kc
  have Ka := Lib.hid ka
  have Kb := Lib.hid kb
  have Kc := Lib.hid kc
  clear ka kb kc
  go_wp2_with fail
  clear ya0 ya1 ya2 yb0 yb1 yb2 yc0 yc1 yc2
  refine (U1.out w2 Hw2.out).mono ?_
  rintro e w3 ⟨rfl, hb3⟩
  have Hw3 := Lib.hid (Hw2.out.trans (hb3.mono Hw2.out.size))
  have ka := part_on Ka.out hb3
  have kb := part_on Kb.out hb3
  have kc := part_on Kc.out hb3
  clear Ka Kb Kc hb3
  obtain ⟨ya0, ya1, ya2⟩ := part_at ka
  obtain ⟨yb0, yb1, yb2⟩ := part_at kb
  obtain ⟨yc0, yc1, yc2⟩ := part_at kc
  have Ka := Lib.hid ka
  have Kb := Lib.hid kb
  have Kc := Lib.hid kc
  clear ka kb kc
  go_wp2_with fail
  clear ya0 ya1 ya2 yb0 yb1 yb2 yc0 yc1 yc2
  refine (U2.out w3 Hw3.out).mono ?_
  rintro e w4 ⟨rfl, hb4⟩
  have Hw4 := Lib.hid (Hw3.out.trans (hb4.mono Hw3.out.size))
  have ka := part_on Ka.out hb4
  have kb := part_on Kb.out hb4
  have kc := part_on Kc.out hb4
  clear Ka Kb Kc hb4
  obtain ⟨ya0, ya1, ya2⟩ := part_at ka
  obtain ⟨yb0, yb1, yb2⟩ := part_at kb
  obtain ⟨yc0, yc1, yc2⟩ := part_at kc
  have Ka := Lib.hid ka
  have Kb := Lib.hid kb
  have Kc := Lib.hid kc
  clear ka kb kc
  go_wp2_with fail
  clear ya0 ya1 ya2 yb0 yb1 yb2 yc0 yc1 yc2
  refine (U3.out w4 Hw4.out).mono ?_
  rintro e w5 ⟨rfl, hb5⟩
  have Hw5 := Lib.hid (Hw4.out.trans (hb5.mono Hw4.out.size))
  have ka := part_on Ka.out hb5
  have kb := part_on Kb.out hb5
  have kc := part_on Kc.out hb5
  clear Ka Kb Kc hb5
  obtain ⟨ya0, ya1, ya2⟩ := part_at ka
  obtain ⟨yb0, yb1, yb2⟩ := part_at kb
  obtain ⟨yc0, yc1, yc2⟩ := part_at kc
  have Ka := Lib.hid ka
  have Kb := Lib.hid kb
  have Kc := Lib.hid kc
  clear ka kb kc
  go_wp2_with fail
  clear ya0 ya1 ya2 yb0 yb1 yb2 yc0 yc1 yc2
  refine (C1.out w5 Hw5.out).mono ?_
  rintro e w6 ⟨rfl, hb6⟩
  have Hw6 := Lib.hid (Hw5.out.trans (hb6.mono Hw5.out.size))
  have ka := part_on Ka.out hb6
  have kb := part_on Kb.out hb6
  have kc := part_on Kc.out hb6
  clear Ka Kb Kc hb6
  obtain ⟨ya0, ya1, ya2⟩ := part_at ka
  obtain ⟨yb0, yb1, yb2⟩ := part_at kb
  obtain ⟨yc0, yc1, yc2⟩ := part_at kc
  have Ka := Lib.hid ka
  have Kb := Lib.hid kb
  have Kc := Lib.hid kc
  clear ka kb kc
  go_wp2_with fail
  clear ya0 ya1 ya2 yb0 yb1 yb2 yc0 yc1 yc2
  refine (Q2.out w6 Hw6.out).mono ?_
  rintro e w7 ⟨rfl, hb7⟩
  have Hw7 := Lib.hid (Hw6.out.trans (hb7.mono Hw6.out.size))
  have ka := part_on Ka.out hb7
  have kb := part_on Kb.out hb7
  have kc := part_on Kc.out hb7
  clear Ka Kb Kc hb7
  obtain ⟨ya0, ya1, ya2⟩ := part_at ka
  obtain ⟨yb0, yb1, yb2⟩ := part_at kb
  obtain ⟨yc0, yc1, yc2⟩ := part_at kc
  obtain ⟨W7, hW7⟩ : ∃ W, W = w7.alloc (.cells #[.string d1, .string d2] 24) := ⟨_, rfl⟩
  have bb : Below w7.heap.size w7 W7 := by rw [hW7]; exact (Below.refl _ _).alloc (Nat.le_refl _) _
  have Ka := Lib.hid (part_on ka bb)
  have Kb := Lib.hid (part_on kb bb)
  have Kc := Lib.hid (part_on kc bb)
  have HW7 := Lib.hid (Hw7.out.trans (bb.mono Hw7.out.size))
  have Kd : Hid (W7.heap[w7.heap.size]? = some (partO d1 d2)) := Lib.hid (by rw [hW7]; exact Go.Deep.blk_alloc_new _ _)
  have HEW7 := Lib.hid hW7
  clear bb hW7 ka kb kc
  go_wp2_with fail
  rw [← HEW7.out]
  clear ya0 ya1 ya2 yb0 yb1 yb2 yc0 yc1 yc2
  refine (Q3.out W7 HW7.out).mono ?_
  rintro e w8 ⟨rfl, hb8⟩
  have Hw8 := Lib.hid (HW7.out.trans (hb8.mono HW7.out.size))
  have ka := part_on Ka.out hb8
  have kb := part_on Kb.out hb8
  have kc := part_on Kc.out hb8
  have kd := part_on Kd.out hb8
  clear Ka Kb Kc Kd hb8
  obtain ⟨ya0, ya1, ya2⟩ := part_at ka
  obtain ⟨yb0, yb1, yb2⟩ := part_at kb
  obtain ⟨yc0, yc1, yc2⟩ := part_at kc
  obtain ⟨yd0, yd1, yd2⟩ := part_at kd
  obtain ⟨W8, hW8⟩ : ∃ W, W = w8.alloc (.cells #[.string x1, .string x2] 24) := ⟨_, rfl⟩
  have bb : Below w8.heap.size w8 W8 := by rw [hW8]; exact (Below.refl _ _).alloc (Nat.le_refl _) _
  have Ka := Lib.hid (part_on ka bb)
  have Kb := Lib.hid (part_on kb bb)
  have Kc := Lib.hid (part_on kc bb)
  have Kd := Lib.hid (part_on kd bb)
  have HW8 := Lib.hid (Hw8.out.trans (bb.mono Hw8.out.size))
  have Kx : Hid (W8.heap[w8.heap.size]? = some (partO x1 x2)) := Lib.hid (by rw [hW8]; exact Go.Deep.blk_alloc_new _ _)
  have HEW8 := Lib.hid hW8
  clear bb hW8 ka kb kc kd
  go_wp2_with fail
  rw [← HEW8.out]
  clear ya0 ya1 ya2 yb0 yb1 yb2 yc0 yc1 yc2 yd0 yd1 yd2
  refine (Q4.out W8 HW8.out).mono ?_
  rintro e w9 ⟨rfl, hb9⟩
  have Hw9 := Lib.hid (HW8.out.trans (hb9.mono HW8.out.size))
  have ka := part_on Ka.out hb9
  have kb := part_on Kb.out hb9
  have kc := part_on Kc.out hb9
  have kd := part_on Kd.out hb9
  have kx := part_on Kx.out hb9
  clear Ka Kb Kc Kd Kx hb9
  obtain ⟨ya0, ya1, ya2⟩ := part_at ka
  obtain ⟨yb0, yb1, yb2⟩ := part_at kb
  obtain ⟨yc0, yc1, yc2⟩ := part_at kc
  obtain ⟨yd0, yd1, yd2⟩ := part_at kd
  obtain ⟨yx0, yx1, yx2⟩ := part_at kx
  obtain ⟨W9, hW9⟩ : ∃ W, W = w9.alloc (.cells #[.string y1, .string y2] 24) := ⟨_, rfl⟩
  have bb : Below w9.heap.size w9 W9 := by rw [hW9]; exact (Below.refl _ _).alloc (Nat.le_refl _) _
  have Ka := Lib.hid (part_on ka bb)
  have Kb := Lib.hid (part_on kb bb)
  have Kc := Lib.hid (part_on kc bb)
  have Kd := Lib.hid (part_on kd bb)
  have Kx := Lib.hid (part_on kx bb)
  have HW9 := Lib.hid (Hw9.out.trans (bb.mono Hw9.out.size))
  have Ky : Hid (W9.heap[w9.heap.size]? = some (partO y1 y2)) := Lib.hid (by rw [hW9]; exact Go.Deep.blk_alloc_new _ _)
  have HEW9 := Lib.hid hW9
  clear bb hW9 ka kb kc kd kx
  go_wp2_with fail
  rw [← HEW9.out]
  clear ya0 ya1 ya2 yb0 yb1 yb2 yc0 yc1 yc2 yd0 yd1 yd2 yx0 yx1 yx2
  refine (Q5.out W9 HW9.out).mono ?_
  rintro e w10 ⟨rfl, hb10⟩
  have Hw10 := Lib.hid (HW9.out.trans (hb10.mono HW9.out.size))
  have ka := part_on Ka.out hb10
  have kb := part_on Kb.out hb10
  have kc := part_on Kc.out hb10
  have kd := part_on Kd.out hb10
  have kx := part_on Kx.out hb10
  have ky := part_on Ky.out hb10
  clear Ka Kb Kc Kd Kx Ky hb10
  obtain ⟨ya0, ya1, ya2⟩ := part_at ka
  obtain ⟨yb0, yb1, yb2⟩ := part_at kb
  obtain ⟨yc0, yc1, yc2⟩ := part_at kc
  obtain ⟨yd0, yd1, yd2⟩ := part_at kd
  obtain ⟨yx0, yx1, yx2⟩ := part_at kx
  obtain ⟨yy0, yy1, yy2⟩ := part_at ky
  obtain ⟨W10, hW10⟩ : ∃ W, W = w10.alloc (.cells #[.string p1, .string p2] 24) := ⟨_, rfl⟩
  have bb : Below w10.heap.size w10 W10 := by rw [hW10]; exact (Below.refl _ _).alloc (Nat.le_refl _) _
  have Ka := Lib.hid (part_on ka bb)
  have Kb := Lib.hid (part_on kb bb)
  have Kc := Lib.hid (part_on kc bb)
  have Kd := Lib.hid (part_on kd bb)
  have Kx := Lib.hid (part_on kx bb)
  have Ky := Lib.hid (part_on ky bb)
  have HW10 := Lib.hid (Hw10.out.trans (bb.mono Hw10.out.size))
  have Kp : Hid (W10.heap[w10.heap.size]? = some (partO p1 p2)) := Lib.hid (by rw [hW10]; exact Go.Deep.blk_alloc_new _ _)
  have HEW10 := Lib.hid hW10
  clear bb hW10 ka kb kc kd kx ky
  go_wp2_with fail
  rw [← HEW10.out]
  clear ya0 ya1 ya2 yb0 yb1 yb2 yc0 yc1 yc2 yd0 yd1 yd2 yx0 yx1 yx2 yy0 yy1 yy2
  refine (Q6.out W10 HW10.out).mono ?_
  rintro e w11 ⟨rfl, hb11⟩
  have Hw11 := Lib.hid (HW10.out.trans (hb11.mono HW10.out.size))
  have ka := part_on Ka.out hb11
  have kb := part_on Kb.out hb11
  have kc := part_on Kc.out hb11
  have kd := part_on Kd.out hb11
  have kx := part_on Kx.out hb11
  have ky := part_on Ky.out hb11
  have kp := part_on Kp.out hb11
  clear Ka Kb Kc Kd Kx Ky Kp hb11
  obtain ⟨ya0, ya1, ya2⟩ := part_at ka
  obtain ⟨yb0, yb1, yb2⟩ := part_at kb
  obtain ⟨yc0, yc1, yc2⟩ := part_at kc
  obtain ⟨yd0, yd1, yd2⟩ := part_at kd
  obtain ⟨yx0, yx1, yx2⟩ := part_at kx
  obtain ⟨yy0, yy1, yy2⟩ := part_at ky
  obtain ⟨yp0, yp1, yp2⟩ := part_at kp
  obtain ⟨W11, hW11⟩ : ∃ W, W = w11.alloc (.cells #[.string r1, .string r2] 24) := ⟨_, rfl⟩
  have bb : Below w11.heap.size w11 W11 := by rw [hW11]; exact (Below.refl _ _).alloc (Nat.le_refl _) _
  have Ka := Lib.hid (part_on ka bb)
  have Kb := Lib.hid (part_on kb bb)
  have Kc := Lib.hid (part_on kc bb)
  have Kd := Lib.hid (part_on kd bb)
  have Kx := Lib.hid (part_on kx bb)
  have Ky := Lib.hid (part_on ky bb)
  have Kp := Lib.hid (part_on kp bb)
  have HW11 := Lib.hid (Hw11.out.trans (bb.mono Hw11.out.size))
  have Kr : Hid (W11.heap[w11.heap.size]? = some (partO r1 r2)) := Lib.hid (by rw [hW11]; exact Go.Deep.blk_alloc_new _ _)
  have HEW11 := Lib.hid hW11
  clear bb hW11 ka kb kc kd kx ky kp
  go_wp2_with fail
  rw [← HEW11.out]
  clear ya0 ya1 ya2 yb0 yb1 yb2 yc0 yc1 yc2 yd0 yd1 yd2 yx0 yx1 yx2 yy0 yy1 yy2 yp0 yp1 yp2
  have hc0 : c1 = ⟨#[48]⟩ := HCZ.out
  subst hc0
  refine (C3.out W11 HW11.out).mono ?_
  rintro e w12 ⟨rfl, hb12⟩
  have Hw12 := Lib.hid (HW11.out.trans (hb12.mono HW11.out.size))
  have ka := part_on Ka.out hb12
  have kb := part_on Kb.out hb12
  have kc := part_on Kc.out hb12
  have kd := part_on Kd.out hb12
  have kx := part_on Kx.out hb12
  have ky := part_on Ky.out hb12
  have kp := part_on Kp.out hb12
  have kr := part_on Kr.out hb12
  clear Ka Kb Kc Kd Kx Ky Kp Kr hb12
  obtain ⟨ya0, ya1, ya2⟩ := part_at ka
  obtain ⟨yb0, yb1, yb2⟩ := part_at kb
  obtain ⟨yc0, yc1, yc2⟩ := part_at kc
  obtain ⟨yd0, yd1, yd2⟩ := part_at kd
  obtain ⟨yx0, yx1, yx2⟩ := part_at kx
  obtain ⟨yy0, yy1, yy2⟩ := part_at ky
  obtain ⟨yp0, yp1, yp2⟩ := part_at kp
  obtain ⟨yr0, yr1, yr2⟩ := part_at kr
  have Ka := Lib.hid ka
  have Kb := Lib.hid kb
  have Kc := Lib.hid kc
  have Kd := Lib.hid kd
  have Kx := Lib.hid kx
  have Ky := Lib.hid ky
  have Kp := Lib.hid kp
  have Kr := Lib.hid kr
  clear ka kb kc kd kx ky kp kr
  go_wp2_with fail
  clear ya0 ya1 ya2 yb0 yb1 yb2 yc0 yc1 yc2 yd0 yd1 yd2 yx0 yx1 yx2 yy0 yy1 yy2 yp0 yp1 yp2 yr0 yr1 yr2
  by_cases e1 : a1 = b1
  · have e2 : ¬ a2 = b2 := fun h => HEQ.out (Prod.ext e1 h)
    subst e1
    have e2l : ¬ a2.toList = b2.toList := fun h => e2 (list_inj h)
    refine (C2.out w12 Hw12.out).mono ?_
    rintro e w13 ⟨rfl, hb13⟩
    have Hw13 := Lib.hid (Hw12.out.trans (hb13.mono Hw12.out.size))
    have ka := part_on Ka.out hb13
    have kb := part_on Kb.out hb13
    have kc := part_on Kc.out hb13
    have kd := part_on Kd.out hb13
    have kx := part_on Kx.out hb13
    have ky := part_on Ky.out hb13
    have kp := part_on Kp.out hb13
    have kr := part_on Kr.out hb13
    clear Ka Kb Kc Kd Kx Ky Kp Kr hb13
    obtain ⟨ya0, ya1, ya2⟩ := part_at ka
    obtain ⟨yb0, yb1, yb2⟩ := part_at kb
    obtain ⟨yc0, yc1, yc2⟩ := part_at kc
    obtain ⟨yd0, yd1, yd2⟩ := part_at kd
    obtain ⟨yx0, yx1, yx2⟩ := part_at kx
    obtain ⟨yy0, yy1, yy2⟩ := part_at ky
    obtain ⟨yp0, yp1, yp2⟩ := part_at kp
    obtain ⟨yr0, yr1, yr2⟩ := part_at kr
    have Ka := Lib.hid ka
    have Kb := Lib.hid kb
    have Kc := Lib.hid kc
    have Kd := Lib.hid kd
    have Kx := Lib.hid kx
    have Ky := Lib.hid ky
    have Kp := Lib.hid kp
    have Kr := Lib.hid kr
    clear ka kb kc kd kx ky kp kr
    go_wp2_with fail
    clear ya0 ya1 ya2 yb0 yb1 yb2 yc0 yc1 yc2 yd0 yd1 yd2 yx0 yx1 yx2 yy0 yy1 yy2 yp0 yp1 yp2 yr0 yr1 yr2
    refine (C4.out w13 Hw13.out).mono ?_
    rintro e w14 ⟨rfl, hb14⟩
    have Hw14 := Lib.hid (Hw13.out.trans (hb14.mono Hw13.out.size))
    have ka := part_on Ka.out hb14
    have kb := part_on Kb.out hb14
    have kc := part_on Kc.out hb14
    have kd := part_on Kd.out hb14
    have kx := part_on Kx.out hb14
    have ky := part_on Ky.out hb14
    have kp := part_on Kp.out hb14
    have kr := part_on Kr.out hb14
    clear Ka Kb Kc Kd Kx Ky Kp Kr hb14
    obtain ⟨ya0, ya1, ya2⟩ := part_at ka
    obtain ⟨yb0, yb1, yb2⟩ := part_at kb
    obtain ⟨yc0, yc1, yc2⟩ := part_at kc
    obtain ⟨yd0, yd1, yd2⟩ := part_at kd
    obtain ⟨yx0, yx1, yx2⟩ := part_at kx
    obtain ⟨yy0, yy1, yy2⟩ := part_at ky
    obtain ⟨yp0, yp1, yp2⟩ := part_at kp
    obtain ⟨yr0, yr1, yr2⟩ := part_at kr
    have Ka := Lib.hid ka
    have Kb := Lib.hid kb
    have Kc := Lib.hid kc
    have Kd := Lib.hid kd
    have Kx := Lib.hid kx
    have Ky := Lib.hid ky
    have Kp := Lib.hid kp
    have Kr := Lib.hid kr
    clear ka kb kc kd kx ky kp kr
    go_wp2_with fail
    clear ya0 ya1 ya2 yb0 yb1 yb2 yc0 yc1 yc2 yd0 yd1 yd2 yx0 yx1 yx2 yy0 yy1 yy2 yp0 yp1 yp2 yr0 yr1 yr2
    exact bodyPost_ret (v := .bool true) (by simp [results, Tryz.results5, go_sem]) rfl ⟨rfl, Hw14.out⟩
  · have e3 : ¬ b1 = a1 := fun h => e1 h.symm
    have e2l : ¬ a1.toList = b1.toList := fun h => e1 (list_inj h)
    refine (C2.out w12 Hw12.out).mono ?_
    rintro e w13 ⟨rfl, hb13⟩
    have Hw13 := Lib.hid (Hw12.out.trans (hb13.mono Hw12.out.size))
    have ka := part_on Ka.out hb13
    have kb := part_on Kb.out hb13
    have kc := part_on Kc.out hb13
    have kd := part_on Kd.out hb13
    have kx := part_on Kx.out hb13
    have ky := part_on Ky.out hb13
    have kp := part_on Kp.out hb13
    have kr := part_on Kr.out hb13
    clear Ka Kb Kc Kd Kx Ky Kp Kr hb13
    obtain ⟨ya0, ya1, ya2⟩ := part_at ka
    obtain ⟨yb0, yb1, yb2⟩ := part_at kb
    obtain ⟨yc0, yc1, yc2⟩ := part_at kc
    obtain ⟨yd0, yd1, yd2⟩ := part_at kd
    obtain ⟨yx0, yx1, yx2⟩ := part_at kx
    obtain ⟨yy0, yy1, yy2⟩ := part_at ky
    obtain ⟨yp0, yp1, yp2⟩ := part_at kp
    obtain ⟨yr0, yr1, yr2⟩ := part_at kr
    have Ka := Lib.hid ka
    have Kb := Lib.hid kb
    have Kc := Lib.hid kc
    have Kd := Lib.hid kd
    have Kx := Lib.hid kx
    have Ky := Lib.hid ky
    have Kp := Lib.hid kp
    have Kr := Lib.hid kr
    clear ka kb kc kd kx ky kp kr
    go_wp2_with fail
    clear ya0 ya1 ya2 yb0 yb1 yb2 yc0 yc1 yc2 yd0 yd1 yd2 yx0 yx1 yx2 yy0 yy1 yy2 yp0 yp1 yp2 yr0 yr1 yr2
    refine (C4.out w13 Hw13.out).mono ?_
    rintro e w14 ⟨rfl, hb14⟩
    have Hw14 := Lib.hid (Hw13.out.trans (hb14.mono Hw13.out.size))
    have ka := part_on Ka.out hb14
    have kb := part_on Kb.out hb14
    have kc := part_on Kc.out hb14
    have kd := part_on Kd.out hb14
    have kx := part_on Kx.out hb14
    have ky := part_on Ky.out hb14
    have kp := part_on Kp.out hb14
    have kr := part_on Kr.out hb14
    clear Ka Kb Kc Kd Kx Ky Kp Kr hb14
    obtain ⟨ya0, ya1, ya2⟩ := part_at ka
    obtain ⟨yb0, yb1, yb2⟩ := part_at kb
    obtain ⟨yc0, yc1, yc2⟩ := part_at kc
    obtain ⟨yd0, yd1, yd2⟩ := part_at kd
    obtain ⟨yx0, yx1, yx2⟩ := part_at kx
    obtain ⟨yy0, yy1, yy2⟩ := part_at ky
    obtain ⟨yp0, yp1, yp2⟩ := part_at kp
    obtain ⟨yr0, yr1, yr2⟩ := part_at kr
    have Ka := Lib.hid ka
    have Kb := Lib.hid kb
    have Kc := Lib.hid kc
    have Kd := Lib.hid kd
    have Kx := Lib.hid kx
    have Ky := Lib.hid ky
    have Kp := Lib.hid kp
    have Kr := Lib.hid kr
    clear ka kb kc kd kx ky kp kr
    go_wp2_with fail
    clear ya0 ya1 ya2 yb0 yb1 yb2 yc0 yc1 yc2 yd0 yd1 yd2 yx0 yx1 yx2 yy0 yy1 yy2 yp0 yp1 yp2 yr0 yr1 yr2
    exact bodyPost_ret (v := .bool true) (by simp [results, Tryz.results5, go_sem]) rfl ⟨rfl, Hw14.out⟩

set_option maxRecDepth 100000 in
set_option maxHeartbeats 8000000 in
theorem orders_lt_p (a1 a2 b1 b2 c1 c2 : ByteArray) (ha : okP (a1, a2) = true) (hb : okP (b1, b2) = true) (hc : okP (c1, c2) = true) (sa : shortP 60 (a1, a2) = true) (sb : shortP 60 (b1, b2) = true) (sc : shortP 60 (c1, c2) = true) (hn : (pv (a1, a2)).1 * (pv (b1, b2)).2 < (pv (b1, b2)).1 * (pv (a1, a2)).2) (hcz : ¬ c1 = zeroB) (w : World) (ht : Tens w) (h0 : 0 < w.heap.size) :
    Calls Tryz.prog 5 #[.agg #[.string a1, .string a2], .agg #[.string b1, .string b2], .agg #[.string c1, .string c2]] w fun e w' => e = .returned (.bool true) ∧ Below w.heap.size w w' := by
  have HT : ∀ W, Below w.heap.size w W → Tens W := fun W hW j hj => cell_later hW (ht j hj)
  have HAL : Hid (∀ W, Below w.heap.size w W → Calls Tryz.prog 20 #[] W fun e w' => e = .returned (.bool true) ∧ Below W.heap.size W w') := Lib.hid fun W hW => alive_any W (HT W hW) (by have := hW.size; omega)
  have sha : a1.size ≤ 60 ∧ a2.size ≤ 60 := by unfold shortP at sa; simpa using sa
  have shb : b1.size ≤ 60 ∧ b2.size ≤ 60 := by unfold shortP at sb; simpa using sb
  have shc : c1.size ≤ 60 ∧ c2.size ≤ 60 := by unfold shortP at sc; simpa using sc
  have mA := sm_of (k := 60) ha sha.1 sha.2
  have mB := sm_of (k := 60) hb shb.1 shb.2
  have mC := sm_of (k := 60) hc shc.1 shc.2
  have eA := pt_pv ha; have eB := pt_pv hb; have eC := pt_pv hc
  have hzz := num_zero hc
  have hcmp : cmpF (pv (a1, a2)) (pv (b1, b2)) = (-1) := cmpF_lt hn
  have C1 := useCmp HT ha hb hcmp
  have C2 := useCmp (z := 1) HT hb ha (by rw [cmpF_swap, hcmp] <;> rfl)
  have heq : ¬ (a1, a2) = (b1, b2) := fun h => by rw [h] at hn; exact Nat.lt_irrefl _ hn
  obtain ⟨⟨d1, d2⟩, hsub⟩ : ∃ r, subS (a1, a2) (b1, b2) = (r, 11) := ⟨_, subS_less ha hb hn⟩
  have Q2 := useSub HT hsub ha hb
  generalize hgA : pv (a1, a2) = A at *
  generalize hgB : pv (b1, b2) = B at *
  generalize hgC : pv (c1, c2) = C at *
  have m1 := mA.add mC (m := 121) rfl; have m2 := mB.add mC (m := 121) rfl; have m3 := mA.mul mC (m := 120) rfl; have m4 := mB.mul mC (m := 120) rfl
  have q3 := add_pt mA mC (by decide); have q4 := add_pt mB mC (by decide); have q5 := mul_pt mA mC (by decide); have q6 := mul_pt mB mC (by decide)
  have o1 := pt_ok m1 (by decide); have o2 := pt_ok m2 (by decide); have o3 := pt_ok m3 (by decide); have o4 := pt_ok m4 (by decide)
  have v1 := pv_pt (addF A C); have v2 := pv_pt (addF B C); have v3 := pv_pt (mulF A C); have v4 := pv_pt (mulF B C)
  rw [eA, eC] at q3 q5; rw [eB, eC] at q4 q6
  obtain ⟨⟨x1, x2⟩, hx⟩ : ∃ r, ptOf (addF A C) = r := ⟨_, rfl⟩
  obtain ⟨⟨y1, y2⟩, hy⟩ : ∃ r, ptOf (addF B C) = r := ⟨_, rfl⟩
  obtain ⟨⟨p1, p2⟩, hp⟩ : ∃ r, ptOf (mulF A C) = r := ⟨_, rfl⟩
  obtain ⟨⟨r1, r2⟩, hr⟩ : ∃ r, ptOf (mulF B C) = r := ⟨_, rfl⟩
  rw [hx] at q3 o1 v1; rw [hy] at q4 o2 v2; rw [hp] at q5 o3 v3; rw [hr] at q6 o4 v4
  have Q3 := useAdd HT q3 ha hc; have Q4 := useAdd HT q4 hb hc; have Q5 := useMul HT q5 ha hc; have Q6 := useMul HT q6 hb hc
  have C3 := useCmp (z := (-1)) HT o3 o4 (by rw [v3, v4]; exact (cmpF_prod mA.fr mB.fr mC.fr (Nat.pos_of_ne_zero (by rw [Ne, hzz]; exact hcz))).trans hcmp)
  have C4 := useCmp (z := (-1)) HT o1 o2 (by rw [v1, v2]; exact (cmpF_sum mA.fr mB.fr mC.fr).trans hcmp)
  have U1 := useChk HT ha; have U2 := useChk HT hb; have U3 := useChk HT hc
  have HSH := Lib.hid (And.intro sa (And.intro sb sc)); have HEQ := Lib.hid heq; have HCZ := Lib.hid hcz
  clear q3 q4 q5 q6 o1 o2 o3 o4 v1 v2 v3 v4 m1 m2 m3 m4 mA mB mC eA eB eC hx hy hp hr hsub hcmp hn heq hcz hzz sha shb shc sa sb sc HT ht ha hb hc hgA hgB hgC
  obtain ⟨V1, hV1⟩ : ∃ W, W = w.alloc (.cells #[.string a1, .string a2] 24) := ⟨_, rfl⟩
  obtain ⟨V2, hV2⟩ : ∃ W, W = V1.alloc (.cells #[.string b1, .string b2] 24) := ⟨_, rfl⟩
  obtain ⟨V3, hV3⟩ : ∃ W, W = V2.alloc (.cells #[.string c1, .string c2] 24) := ⟨_, rfl⟩
  have v01 : Below w.heap.size w V1 := by rw [hV1]; exact (Below.refl _ _).alloc (Nat.le_refl _) _
  have v12 : Below V1.heap.size V1 V2 := by rw [hV2]; exact (Below.refl _ _).alloc (Nat.le_refl _) _
  have v23 : Below V2.heap.size V2 V3 := by rw [hV3]; exact (Below.refl _ _).alloc (Nat.le_refl _) _
  have z1 : V1.heap.size = w.heap.size + 1 := by rw [hV1, World.size_alloc]
  have z2 : V2.heap.size = w.heap.size + 1 + 1 := by rw [hV2, World.size_alloc, z1]
  have ka : V3.heap[w.heap.size]? = some (partO a1 a2) := part_on (part_on (by rw [hV1]; exact Go.Deep.blk_alloc_new _ _) v12) v23
  have kb : V3.heap[w.heap.size + 1]? = some (partO b1 b2) := part_on (by rw [← z1, hV2]; exact Go.Deep.blk_alloc_new _ _) v23
  have kc : V3.heap[w.heap.size + 1 + 1]? = some (partO c1 c2) := by rw [← z2, hV3]; exact Go.Deep.blk_alloc_new _ _
  have HB := Lib.hid (v01.trans ((below_chain v12 v23).mono v01.size))
  have HV1 := Lib.hid hV1; have HV2 := Lib.hid hV2; have HV3 := Lib.hid hV3; have Ka := Lib.hid ka; have Kb := Lib.hid kb; have Kc := Lib.hid kc
  clear hV1 hV2 hV3 v01 v12 v23 z1 z2 ka kb kc
  go_enter Tryz.func5, Tryz.ntmps5
  go_wp2_with fail
  rw [← HV1.out, ← HV2.out, ← HV3.out]
  refine (HAL.out V3 HB.out).mono ?_
  rintro e w1 ⟨rfl, hb1⟩
  have Hw1 := Lib.hid (HB.out.trans (hb1.mono HB.out.size))
  have ka := part_on Ka.out hb1
  have kb := part_on Kb.out hb1
  have kc := part_on Kc.out hb1
  clear Ka Kb Kc hb1
  obtain ⟨ya0, ya1, ya2⟩ := part_at ka
  obtain ⟨yb0, yb1, yb2⟩ := part_at kb
  obtain ⟨yc0, yc1, yc2⟩ := part_at kc
  obtain ⟨W1, hW1⟩ : ∃ W, W = w1.alloc (.cells #[.string a1, .string a2, .string b1, .string b2, .string c1, .string c2] 24) := ⟨_, rfl⟩
  have bb : Below w1.heap.size w1 W1 := by rw [hW1]; exact (Below.refl _ _).alloc (Nat.le_refl _) _
  have Ka := Lib.hid (part_on ka bb)
  have Kb := Lib.hid (part_on kb bb)
  have Kc := Lib.hid (part_on kc bb)
  have HW1 := Lib.hid (Hw1.out.trans (bb.mono Hw1.out.size))
  have kk : W1.heap[w1.heap.size]? = some (.cells #[.string a1, .string a2, .string b1, .string b2, .string c1, .string c2] 24 (0, 0)) := by rw [hW1]; exact Go.Deep.blk_alloc_new _ _
  have KK := Lib.hid kk
  clear kk
  have HEW1 := Lib.hid hW1
  clear bb hW1 ka kb kc
  go_wp2_with fail
  rw [← HEW1.out]
  clear ya0 ya1 ya2 yb0 yb1 yb2 yc0 yc1 yc2
  have hsh := short_any 60 [(a1, a2), (b1, b2), (c1, c2)] (.slice (some ⟨w1.heap.size, 0, none⟩) 3 3) W1 (.inr ⟨w1.heap.size, 0, 3, rfl, by simp, by decide, (Array.getElem?_eq_some_iff.1 KK.out).1, fun i hi => by
    match i, hi with
    | 0, _ => exact ⟨by rw [set_cells KK.out]; rfl, by rw [set_cells KK.out]; rfl⟩
    | 1, _ => exact ⟨by rw [set_cells KK.out]; rfl, by rw [set_cells KK.out]; rfl⟩
    | 2, _ => exact ⟨by rw [set_cells KK.out]; rfl, by rw [set_cells KK.out]; rfl⟩⟩) (by simp) (by decide)
  have hall : [(a1, a2), (b1, b2), (c1, c2)].all (shortP 60) = true := by
    simp only [List.all_cons, List.all_nil, HSH.out.1, HSH.out.2.1, HSH.out.2.2, Bool.and_self]
  rw [hall] at hsh
  have HSHORT := Lib.hid hsh
  clear hsh hall KK
  refine (HSHORT.out).mono ?_
  rintro e w2 ⟨rfl, hb2⟩
  have Hw2 := Lib.hid (HW1.out.trans (hb2.mono HW1.out.size))
  have ka := part_on Ka.out hb2
  have kb := part_on Kb.out hb2
  have kc := part_on Kc.out hb2
  clear Ka Kb Kc hb2
  obtain ⟨ya0, ya1, ya2⟩ := part_at ka
  obtain ⟨yb0, yb1, yb2⟩ := part_at kb
  obtain ⟨yc0, yc1, yc2⟩ := part_at kc
  have Ka := Lib.hid ka
  have Kb := Lib.hid kb
  have Kc := Lib.hid kc
  clear ka kb kc
  go_wp2_with fail
  clear ya0 ya1 ya2 yb0 yb1 yb2 yc0 yc1 yc2
  refine (U1.out w2 Hw2.out).mono ?_
  rintro e w3 ⟨rfl, hb3⟩
  have Hw3 := Lib.hid (Hw2.out.trans (hb3.mono Hw2.out.size))
  have ka := part_on Ka.out hb3
  have kb := part_on Kb.out hb3
  have kc := part_on Kc.out hb3
  clear Ka Kb Kc hb3
  obtain ⟨ya0, ya1, ya2⟩ := part_at ka
  obtain ⟨yb0, yb1, yb2⟩ := part_at kb
  obtain ⟨yc0, yc1, yc2⟩ := part_at kc
  have Ka := Lib.hid ka
  have Kb := Lib.hid kb
  have Kc := Lib.hid kc
  clear ka kb kc
  go_wp2_with fail
  clear ya0 ya1 ya2 yb0 yb1 yb2 yc0 yc1 yc2
  refine (U2.out w3 Hw3.out).mono ?_
  rintro e w4 ⟨rfl, hb4⟩
  have Hw4 := Lib.hid (Hw3.out.trans (hb4.mono Hw3.out.size))
  have ka := part_on Ka.out hb4
  have kb := part_on Kb.out hb4
  have kc := part_on Kc.out hb4
  clear Ka Kb Kc hb4
  obtain ⟨ya0, ya1, ya2⟩ := part_at ka
  obtain ⟨yb0, yb1, yb2⟩ := part_at kb
  obtain ⟨yc0, yc1, yc2⟩ := part_at kc
  have Ka := Lib.hid ka
  have Kb := Lib.hid kb
  have Kc := Lib.hid kc
  clear ka kb kc
  go_wp2_with fail
  clear ya0 ya1 ya2 yb0 yb1 yb2 yc0 yc1 yc2
  refine (U3.out w4 Hw4.out).mono ?_
  rintro e w5 ⟨rfl, hb5⟩
  have Hw5 := Lib.hid (Hw4.out.trans (hb5.mono Hw4.out.size))
  have ka := part_on Ka.out hb5
  have kb := part_on Kb.out hb5
  have kc := part_on Kc.out hb5
  clear Ka Kb Kc hb5
  obtain ⟨ya0, ya1, ya2⟩ := part_at ka
  obtain ⟨yb0, yb1, yb2⟩ := part_at kb
  obtain ⟨yc0, yc1, yc2⟩ := part_at kc
  have Ka := Lib.hid ka
  have Kb := Lib.hid kb
  have Kc := Lib.hid kc
  clear ka kb kc
  go_wp2_with fail
  clear ya0 ya1 ya2 yb0 yb1 yb2 yc0 yc1 yc2
  refine (C1.out w5 Hw5.out).mono ?_
  rintro e w6 ⟨rfl, hb6⟩
  have Hw6 := Lib.hid (Hw5.out.trans (hb6.mono Hw5.out.size))
  have ka := part_on Ka.out hb6
  have kb := part_on Kb.out hb6
  have kc := part_on Kc.out hb6
  clear Ka Kb Kc hb6
  obtain ⟨ya0, ya1, ya2⟩ := part_at ka
  obtain ⟨yb0, yb1, yb2⟩ := part_at kb
  obtain ⟨yc0, yc1, yc2⟩ := part_at kc
  have Ka := Lib.hid ka
  have Kb := Lib.hid kb
  have Kc := Lib.hid kc
  clear ka kb kc
  go_wp2_with fail
  clear ya0 ya1 ya2 yb0 yb1 yb2 yc0 yc1 yc2
  refine (Q2.out w6 Hw6.out).mono ?_
  rintro e w7 ⟨rfl, hb7⟩
  have Hw7 := Lib.hid (Hw6.out.trans (hb7.mono Hw6.out.size))
  have ka := part_on Ka.out hb7
  have kb := part_on Kb.out hb7
  have kc := part_on Kc.out hb7
  clear Ka Kb Kc hb7
  obtain ⟨ya0, ya1, ya2⟩ := part_at ka
  obtain ⟨yb0, yb1, yb2⟩ := part_at kb
  obtain ⟨yc0, yc1, yc2⟩ := part_at kc
  obtain ⟨W7, hW7⟩ : ∃ W, W = w7.alloc (.cells #[.string d1, .string d2] 24) := ⟨_, rfl⟩
  have bb : Below w7.heap.size w7 W7 := by rw [hW7]; exact (Below.refl _ _).alloc (Nat.le_refl _) _
  have Ka := Lib.hid (part_on ka bb)
  have Kb := Lib.hid (part_on kb bb)
  have Kc := Lib.hid (part_on kc bb)
  have HW7 := Lib.hid (Hw7.out.trans (bb.mono Hw7.out.size))
  have Kd : Hid (W7.heap[w7.heap.size]? = some (partO d1 d2)) := Lib.hid (by rw [hW7]; exact Go.Deep.blk_alloc_new _ _)
  have HEW7 := Lib.hid hW7
  clear bb hW7 ka kb kc
  go_wp2_with fail
  rw [← HEW7.out]
  clear ya0 ya1 ya2 yb0 yb1 yb2 yc0 yc1 yc2
  refine (Q3.out W7 HW7.out).mono ?_
  rintro e w8 ⟨rfl, hb8⟩
  have Hw8 := Lib.hid (HW7.out.trans (hb8.mono HW7.out.size))
  have ka := part_on Ka.out hb8
  have kb := part_on Kb.out hb8
  have kc := part_on Kc.out hb8
  have kd := part_on Kd.out hb8
  clear Ka Kb Kc Kd hb8
  obtain ⟨ya0, ya1, ya2⟩ := part_at ka
  obtain ⟨yb0, yb1, yb2⟩ := part_at kb
  obtain ⟨yc0, yc1, yc2⟩ := part_at kc
  obtain ⟨yd0, yd1, yd2⟩ := part_at kd
  obtain ⟨W8, hW8⟩ : ∃ W, W = w8.alloc (.cells #[.string x1, .string x2] 24) := ⟨_, rfl⟩
  have bb : Below w8.heap.size w8 W8 := by rw [hW8]; exact (Below.refl _ _).alloc (Nat.le_refl _) _
  have Ka := Lib.hid (part_on ka bb)
  have Kb := Lib.hid (part_on kb bb)
  have Kc := Lib.hid (part_on kc bb)
  have Kd := Lib.hid (part_on kd bb)
  have HW8 := Lib.hid (Hw8.out.trans (bb.mono Hw8.out.size))
  have Kx : Hid (W8.heap[w8.heap.size]? = some (partO x1 x2)) := Lib.hid (by rw [hW8]; exact Go.Deep.blk_alloc_new _ _)
  have HEW8 := Lib.hid hW8
  clear bb hW8 ka kb kc kd
  go_wp2_with fail
  rw [← HEW8.out]
  clear ya0 ya1 ya2 yb0 yb1 yb2 yc0 yc1 yc2 yd0 yd1 yd2
  refine (Q4.out W8 HW8.out).mono ?_
  rintro e w9 ⟨rfl, hb9⟩
  have Hw9 := Lib.hid (HW8.out.trans (hb9.mono HW8.out.size))
  have ka := part_on Ka.out hb9
  have kb := part_on Kb.out hb9
  have kc := part_on Kc.out hb9
  have kd := part_on Kd.out hb9
  have kx := part_on Kx.out hb9
  clear Ka Kb Kc Kd Kx hb9
  obtain ⟨ya0, ya1, ya2⟩ := part_at ka
  obtain ⟨yb0, yb1, yb2⟩ := part_at kb
  obtain ⟨yc0, yc1, yc2⟩ := part_at kc
  obtain ⟨yd0, yd1, yd2⟩ := part_at kd
  obtain ⟨yx0, yx1, yx2⟩ := part_at kx
  obtain ⟨W9, hW9⟩ : ∃ W, W = w9.alloc (.cells #[.string y1, .string y2] 24) := ⟨_, rfl⟩
  have bb : Below w9.heap.size w9 W9 := by rw [hW9]; exact (Below.refl _ _).alloc (Nat.le_refl _) _
  have Ka := Lib.hid (part_on ka bb)
  have Kb := Lib.hid (part_on kb bb)
  have Kc := Lib.hid (part_on kc bb)
  have Kd := Lib.hid (part_on kd bb)
  have Kx := Lib.hid (part_on kx bb)
  have HW9 := Lib.hid (Hw9.out.trans (bb.mono Hw9.out.size))
  have Ky : Hid (W9.heap[w9.heap.size]? = some (partO y1 y2)) := Lib.hid (by rw [hW9]; exact Go.Deep.blk_alloc_new _ _)
  have HEW9 := Lib.hid hW9
  clear bb hW9 ka kb kc kd kx
  go_wp2_with fail
  rw [← HEW9.out]
  clear ya0 ya1 ya2 yb0 yb1 yb2 yc0 yc1 yc2 yd0 yd1 yd2 yx0 yx1 yx2
  refine (Q5.out W9 HW9.out).mono ?_
  rintro e w10 ⟨rfl, hb10⟩
  have Hw10 := Lib.hid (HW9.out.trans (hb10.mono HW9.out.size))
  have ka := part_on Ka.out hb10
  have kb := part_on Kb.out hb10
  have kc := part_on Kc.out hb10
  have kd := part_on Kd.out hb10
  have kx := part_on Kx.out hb10
  have ky := part_on Ky.out hb10
  clear Ka Kb Kc Kd Kx Ky hb10
  obtain ⟨ya0, ya1, ya2⟩ := part_at ka
  obtain ⟨yb0, yb1, yb2⟩ := part_at kb
  obtain ⟨yc0, yc1, yc2⟩ := part_at kc
  obtain ⟨yd0, yd1, yd2⟩ := part_at kd
  obtain ⟨yx0, yx1, yx2⟩ := part_at kx
  obtain ⟨yy0, yy1, yy2⟩ := part_at ky
  obtain ⟨W10, hW10⟩ : ∃ W, W = w10.alloc (.cells #[.string p1, .string p2] 24) := ⟨_, rfl⟩
  have bb : Below w10.heap.size w10 W10 := by rw [hW10]; exact (Below.refl _ _).alloc (Nat.le_refl _) _
  have Ka := Lib.hid (part_on ka bb)
  have Kb := Lib.hid (part_on kb bb)
  have Kc := Lib.hid (part_on kc bb)
  have Kd := Lib.hid (part_on kd bb)
  have Kx := Lib.hid (part_on kx bb)
  have Ky := Lib.hid (part_on ky bb)
  have HW10 := Lib.hid (Hw10.out.trans (bb.mono Hw10.out.size))
  have Kp : Hid (W10.heap[w10.heap.size]? = some (partO p1 p2)) := Lib.hid (by rw [hW10]; exact Go.Deep.blk_alloc_new _ _)
  have HEW10 := Lib.hid hW10
  clear bb hW10 ka kb kc kd kx ky
  go_wp2_with fail
  rw [← HEW10.out]
  clear ya0 ya1 ya2 yb0 yb1 yb2 yc0 yc1 yc2 yd0 yd1 yd2 yx0 yx1 yx2 yy0 yy1 yy2
  refine (Q6.out W10 HW10.out).mono ?_
  rintro e w11 ⟨rfl, hb11⟩
  have Hw11 := Lib.hid (HW10.out.trans (hb11.mono HW10.out.size))
  have ka := part_on Ka.out hb11
  have kb := part_on Kb.out hb11
  have kc := part_on Kc.out hb11
  have kd := part_on Kd.out hb11
  have kx := part_on Kx.out hb11
  have ky := part_on Ky.out hb11
  have kp := part_on Kp.out hb11
  clear Ka Kb Kc Kd Kx Ky Kp hb11
  obtain ⟨ya0, ya1, ya2⟩ := part_at ka
  obtain ⟨yb0, yb1, yb2⟩ := part_at kb
  obtain ⟨yc0, yc1, yc2⟩ := part_at kc
  obtain ⟨yd0, yd1, yd2⟩ := part_at kd
  obtain ⟨yx0, yx1, yx2⟩ := part_at kx
  obtain ⟨yy0, yy1, yy2⟩ := part_at ky
  obtain ⟨yp0, yp1, yp2⟩ := part_at kp
  obtain ⟨W11, hW11⟩ : ∃ W, W = w11.alloc (.cells #[.string r1, .string r2] 24) := ⟨_, rfl⟩
  have bb : Below w11.heap.size w11 W11 := by rw [hW11]; exact (Below.refl _ _).alloc (Nat.le_refl _) _
  have Ka := Lib.hid (part_on ka bb)
  have Kb := Lib.hid (part_on kb bb)
  have Kc := Lib.hid (part_on kc bb)
  have Kd := Lib.hid (part_on kd bb)
  have Kx := Lib.hid (part_on kx bb)
  have Ky := Lib.hid (part_on ky bb)
  have Kp := Lib.hid (part_on kp bb)
  have HW11 := Lib.hid (Hw11.out.trans (bb.mono Hw11.out.size))
  have Kr : Hid (W11.heap[w11.heap.size]? = some (partO r1 r2)) := Lib.hid (by rw [hW11]; exact Go.Deep.blk_alloc_new _ _)
  have HEW11 := Lib.hid hW11
  clear bb hW11 ka kb kc kd kx ky kp
  go_wp2_with fail
  rw [← HEW11.out]
  clear ya0 ya1 ya2 yb0 yb1 yb2 yc0 yc1 yc2 yd0 yd1 yd2 yx0 yx1 yx2 yy0 yy1 yy2 yp0 yp1 yp2
  have hc0 : ¬ c1 = ⟨#[48]⟩ := HCZ.out
  have hc0l : ¬ c1.toList = [48] := fun h => hc0 (list_inj (h.trans (by rw [ByteArray.toList_eq])))
  have hc0b : (c1.toList == [48]) = false := beq_eq_false_iff_ne.2 hc0l
  refine (C3.out W11 HW11.out).mono ?_
  rintro e w12 ⟨rfl, hb12⟩
  have Hw12 := Lib.hid (HW11.out.trans (hb12.mono HW11.out.size))
  have ka := part_on Ka.out hb12
  have kb := part_on Kb.out hb12
  have kc := part_on Kc.out hb12
  have kd := part_on Kd.out hb12
  have kx := part_on Kx.out hb12
  have ky := part_on Ky.out hb12
  have kp := part_on Kp.out hb12
  have kr := part_on Kr.out hb12
  clear Ka Kb Kc Kd Kx Ky Kp Kr hb12
  obtain ⟨ya0, ya1, ya2⟩ := part_at ka
  obtain ⟨yb0, yb1, yb2⟩ := part_at kb
  obtain ⟨yc0, yc1, yc2⟩ := part_at kc
  obtain ⟨yd0, yd1, yd2⟩ := part_at kd
  obtain ⟨yx0, yx1, yx2⟩ := part_at kx
  obtain ⟨yy0, yy1, yy2⟩ := part_at ky
  obtain ⟨yp0, yp1, yp2⟩ := part_at kp
  obtain ⟨yr0, yr1, yr2⟩ := part_at kr
  have Ka := Lib.hid ka
  have Kb := Lib.hid kb
  have Kc := Lib.hid kc
  have Kd := Lib.hid kd
  have Kx := Lib.hid kx
  have Ky := Lib.hid ky
  have Kp := Lib.hid kp
  have Kr := Lib.hid kr
  clear ka kb kc kd kx ky kp kr
  go_wp2_with fail
  clear ya0 ya1 ya2 yb0 yb1 yb2 yc0 yc1 yc2 yd0 yd1 yd2 yx0 yx1 yx2 yy0 yy1 yy2 yp0 yp1 yp2 yr0 yr1 yr2
  by_cases e1 : a1 = b1
  · have e2 : ¬ a2 = b2 := fun h => HEQ.out (Prod.ext e1 h)
    subst e1
    have e2l : ¬ a2.toList = b2.toList := fun h => e2 (list_inj h)
    refine (C2.out w12 Hw12.out).mono ?_
    rintro e w13 ⟨rfl, hb13⟩
    have Hw13 := Lib.hid (Hw12.out.trans (hb13.mono Hw12.out.size))
    have ka := part_on Ka.out hb13
    have kb := part_on Kb.out hb13
    have kc := part_on Kc.out hb13
    have kd := part_on Kd.out hb13
    have kx := part_on Kx.out hb13
    have ky := part_on Ky.out hb13
    have kp := part_on Kp.out hb13
    have kr := part_on Kr.out hb13
    clear Ka Kb Kc Kd Kx Ky Kp Kr hb13
    obtain ⟨ya0, ya1, ya2⟩ := part_at ka
    obtain ⟨yb0, yb1, yb2⟩ := part_at kb
    obtain ⟨yc0, yc1, yc2⟩ := part_at kc
    obtain ⟨yd0, yd1, yd2⟩ := part_at kd
    obtain ⟨yx0, yx1, yx2⟩ := part_at kx
    obtain ⟨yy0, yy1, yy2⟩ := part_at ky
    obtain ⟨yp0, yp1, yp2⟩ := part_at kp
    obtain ⟨yr0, yr1, yr2⟩ := part_at kr
    have Ka := Lib.hid ka
    have Kb := Lib.hid kb
    have Kc := Lib.hid kc
    have Kd := Lib.hid kd
    have Kx := Lib.hid kx
    have Ky := Lib.hid ky
    have Kp := Lib.hid kp
    have Kr := Lib.hid kr
    clear ka kb kc kd kx ky kp kr
    go_wp2_with fail
    clear ya0 ya1 ya2 yb0 yb1 yb2 yc0 yc1 yc2 yd0 yd1 yd2 yx0 yx1 yx2 yy0 yy1 yy2 yp0 yp1 yp2 yr0 yr1 yr2
    refine (C4.out w13 Hw13.out).mono ?_
    rintro e w14 ⟨rfl, hb14⟩
    have Hw14 := Lib.hid (Hw13.out.trans (hb14.mono Hw13.out.size))
    have ka := part_on Ka.out hb14
    have kb := part_on Kb.out hb14
    have kc := part_on Kc.out hb14
    have kd := part_on Kd.out hb14
    have kx := part_on Kx.out hb14
    have ky := part_on Ky.out hb14
    have kp := part_on Kp.out hb14
    have kr := part_on Kr.out hb14
    clear Ka Kb Kc Kd Kx Ky Kp Kr hb14
    obtain ⟨ya0, ya1, ya2⟩ := part_at ka
    obtain ⟨yb0, yb1, yb2⟩ := part_at kb
    obtain ⟨yc0, yc1, yc2⟩ := part_at kc
    obtain ⟨yd0, yd1, yd2⟩ := part_at kd
    obtain ⟨yx0, yx1, yx2⟩ := part_at kx
    obtain ⟨yy0, yy1, yy2⟩ := part_at ky
    obtain ⟨yp0, yp1, yp2⟩ := part_at kp
    obtain ⟨yr0, yr1, yr2⟩ := part_at kr
    have Ka := Lib.hid ka
    have Kb := Lib.hid kb
    have Kc := Lib.hid kc
    have Kd := Lib.hid kd
    have Kx := Lib.hid kx
    have Ky := Lib.hid ky
    have Kp := Lib.hid kp
    have Kr := Lib.hid kr
    clear ka kb kc kd kx ky kp kr
    go_wp2_with fail
    clear ya0 ya1 ya2 yb0 yb1 yb2 yc0 yc1 yc2 yd0 yd1 yd2 yx0 yx1 yx2 yy0 yy1 yy2 yp0 yp1 yp2 yr0 yr1 yr2
    exact bodyPost_ret (v := .bool true) (by simp [results, hc0b, Tryz.results5, go_sem]) rfl ⟨rfl, Hw14.out⟩
  · have e3 : ¬ b1 = a1 := fun h => e1 h.symm
    have e2l : ¬ a1.toList = b1.toList := fun h => e1 (list_inj h)
    refine (C2.out w12 Hw12.out).mono ?_
    rintro e w13 ⟨rfl, hb13⟩
    have Hw13 := Lib.hid (Hw12.out.trans (hb13.mono Hw12.out.size))
    have ka := part_on Ka.out hb13
    have kb := part_on Kb.out hb13
    have kc := part_on Kc.out hb13
    have kd := part_on Kd.out hb13
    have kx := part_on Kx.out hb13
    have ky := part_on Ky.out hb13
    have kp := part_on Kp.out hb13
    have kr := part_on Kr.out hb13
    clear Ka Kb Kc Kd Kx Ky Kp Kr hb13
    obtain ⟨ya0, ya1, ya2⟩ := part_at ka
    obtain ⟨yb0, yb1, yb2⟩ := part_at kb
    obtain ⟨yc0, yc1, yc2⟩ := part_at kc
    obtain ⟨yd0, yd1, yd2⟩ := part_at kd
    obtain ⟨yx0, yx1, yx2⟩ := part_at kx
    obtain ⟨yy0, yy1, yy2⟩ := part_at ky
    obtain ⟨yp0, yp1, yp2⟩ := part_at kp
    obtain ⟨yr0, yr1, yr2⟩ := part_at kr
    have Ka := Lib.hid ka
    have Kb := Lib.hid kb
    have Kc := Lib.hid kc
    have Kd := Lib.hid kd
    have Kx := Lib.hid kx
    have Ky := Lib.hid ky
    have Kp := Lib.hid kp
    have Kr := Lib.hid kr
    clear ka kb kc kd kx ky kp kr
    go_wp2_with fail
    clear ya0 ya1 ya2 yb0 yb1 yb2 yc0 yc1 yc2 yd0 yd1 yd2 yx0 yx1 yx2 yy0 yy1 yy2 yp0 yp1 yp2 yr0 yr1 yr2
    refine (C4.out w13 Hw13.out).mono ?_
    rintro e w14 ⟨rfl, hb14⟩
    have Hw14 := Lib.hid (Hw13.out.trans (hb14.mono Hw13.out.size))
    have ka := part_on Ka.out hb14
    have kb := part_on Kb.out hb14
    have kc := part_on Kc.out hb14
    have kd := part_on Kd.out hb14
    have kx := part_on Kx.out hb14
    have ky := part_on Ky.out hb14
    have kp := part_on Kp.out hb14
    have kr := part_on Kr.out hb14
    clear Ka Kb Kc Kd Kx Ky Kp Kr hb14
    obtain ⟨ya0, ya1, ya2⟩ := part_at ka
    obtain ⟨yb0, yb1, yb2⟩ := part_at kb
    obtain ⟨yc0, yc1, yc2⟩ := part_at kc
    obtain ⟨yd0, yd1, yd2⟩ := part_at kd
    obtain ⟨yx0, yx1, yx2⟩ := part_at kx
    obtain ⟨yy0, yy1, yy2⟩ := part_at ky
    obtain ⟨yp0, yp1, yp2⟩ := part_at kp
    obtain ⟨yr0, yr1, yr2⟩ := part_at kr
    have Ka := Lib.hid ka
    have Kb := Lib.hid kb
    have Kc := Lib.hid kc
    have Kd := Lib.hid kd
    have Kx := Lib.hid kx
    have Ky := Lib.hid ky
    have Kp := Lib.hid kp
    have Kr := Lib.hid kr
    clear ka kb kc kd kx ky kp kr
    go_wp2_with fail
    clear ya0 ya1 ya2 yb0 yb1 yb2 yc0 yc1 yc2 yd0 yd1 yd2 yx0 yx1 yx2 yy0 yy1 yy2 yp0 yp1 yp2 yr0 yr1 yr2
    exact bodyPost_ret (v := .bool true) (by simp [results, hc0b, Tryz.results5, go_sem]) rfl ⟨rfl, Hw14.out⟩

set_option maxRecDepth 100000 in
set_option maxHeartbeats 8000000 in
theorem orders_eq_z (a1 a2 b1 b2 c1 c2 : ByteArray) (ha : okP (a1, a2) = true) (hb : okP (b1, b2) = true) (hc : okP (c1, c2) = true) (sa : shortP 60 (a1, a2) = true) (sb : shortP 60 (b1, b2) = true) (sc : shortP 60 (c1, c2) = true) (hn : (pv (a1, a2)).1 * (pv (b1, b2)).2 = (pv (b1, b2)).1 * (pv (a1, a2)).2) (hcz : c1 = zeroB) (w : World) (ht : Tens w) (h0 : 0 < w.heap.size) :
    Calls Tryz.prog 5 #[.agg #[.string a1, .string a2], .agg #[.string b1, .string b2], .agg #[.string c1, .string c2]] w fun e w' => e = .returned (.bool true) ∧ Below w.heap.size w w' := by
  have HT : ∀ W, Below w.heap.size w W → Tens W := fun W hW j hj => cell_later hW (ht j hj)
  have HAL : Hid (∀ W, Below w.heap.size w W → Calls Tryz.prog 20 #[] W fun e w' => e = .returned (.bool true) ∧ Below W.heap.size W w') := Lib.hid fun W hW => alive_any W (HT W hW) (by have := hW.size; omega)
  have sha : a1.size ≤ 60 ∧ a2.size ≤ 60 := by unfold shortP at sa; simpa using sa
  have shb : b1.size ≤ 60 ∧ b2.size ≤ 60 := by unfold shortP at sb; simpa using sb
  have shc : c1.size ≤ 60 ∧ c2.size ≤ 60 := by unfold shortP at sc; simpa using sc
  have mA := sm_of (k := 60) ha sha.1 sha.2
  have mB := sm_of (k := 60) hb shb.1 shb.2
  have mC := sm_of (k := 60) hc shc.1 shc.2
  have eA := pt_pv ha; have eB := pt_pv hb; have eC := pt_pv hc
  have hzz := num_zero hc
  have hcmp : cmpF (pv (a1, a2)) (pv (b1, b2)) = 0 := cmpF_eq hn
  have C1 := useCmp HT ha hb hcmp
  have C2 := useCmp (z := 0) HT hb ha (by rw [cmpF_swap, hcmp] <;> rfl)
  have heq : (a1, a2) = (b1, b2) := by rw [← eA, ← eB, fr_uniq mA.fr mB.fr hn]
  obtain ⟨⟨d1, d2⟩, hsub⟩ : ∃ r, subS (a1, a2) (b1, b2) = (r, 0) := ⟨_, (subS_ok ha hb (by omega)).trans (res_sm (k := 120) (low_sm (Nat.mul_pos mA.fr.pos mB.fr.pos) (Nat.lt_of_le_of_lt (Nat.sub_le _ _) (by rw [show (120:Nat) = 60 + 60 from rfl, Nat.pow_add]; exact Nat.mul_lt_mul'' mA.n mB.d)) (by rw [show (120:Nat) = 60 + 60 from rfl, Nat.pow_add]; exact Nat.mul_lt_mul'' mA.d mB.d)) (by decide))⟩
  have Q2 := useSub HT hsub ha hb
  generalize hgA : pv (a1, a2) = A at *
  generalize hgB : pv (b1, b2) = B at *
  generalize hgC : pv (c1, c2) = C at *
  have m1 := mA.add mC (m := 121) rfl; have m2 := mB.add mC (m := 121) rfl; have m3 := mA.mul mC (m := 120) rfl; have m4 := mB.mul mC (m := 120) rfl
  have q3 := add_pt mA mC (by decide); have q4 := add_pt mB mC (by decide); have q5 := mul_pt mA mC (by decide); have q6 := mul_pt mB mC (by decide)
  have o1 := pt_ok m1 (by decide); have o2 := pt_ok m2 (by decide); have o3 := pt_ok m3 (by decide); have o4 := pt_ok m4 (by decide)
  have v1 := pv_pt (addF A C); have v2 := pv_pt (addF B C); have v3 := pv_pt (mulF A C); have v4 := pv_pt (mulF B C)
  rw [eA, eC] at q3 q5; rw [eB, eC] at q4 q6
  obtain ⟨⟨x1, x2⟩, hx⟩ : ∃ r, ptOf (addF A C) = r := ⟨_, rfl⟩
  obtain ⟨⟨y1, y2⟩, hy⟩ : ∃ r, ptOf (addF B C) = r := ⟨_, rfl⟩
  obtain ⟨⟨p1, p2⟩, hp⟩ : ∃ r, ptOf (mulF A C) = r := ⟨_, rfl⟩
  obtain ⟨⟨r1, r2⟩, hr⟩ : ∃ r, ptOf (mulF B C) = r := ⟨_, rfl⟩
  rw [hx] at q3 o1 v1; rw [hy] at q4 o2 v2; rw [hp] at q5 o3 v3; rw [hr] at q6 o4 v4
  have Q3 := useAdd HT q3 ha hc; have Q4 := useAdd HT q4 hb hc; have Q5 := useMul HT q5 ha hc; have Q6 := useMul HT q6 hb hc
  have C3 := useCmp (z := 0) HT o3 o4 (by rw [v3, v4]; exact cmpF_prod0 mA.fr mB.fr mC.fr (by rw [hzz]; exact hcz))
  have C4 := useCmp (z := 0) HT o1 o2 (by rw [v1, v2]; exact (cmpF_sum mA.fr mB.fr mC.fr).trans hcmp)
  have U1 := useChk HT ha; have U2 := useChk HT hb; have U3 := useChk HT hc
  have HSH := Lib.hid (And.intro sa (And.intro sb sc)); have HEQ := Lib.hid heq; have HCZ := Lib.hid hcz
  clear q3 q4 q5 q6 o1 o2 o3 o4 v1 v2 v3 v4 m1 m2 m3 m4 mA mB mC eA eB eC hx hy hp hr hsub hcmp hn heq hcz hzz sha shb shc sa sb sc HT ht ha hb hc hgA hgB hgC
  obtain ⟨V1, hV1⟩ : ∃ W, W = w.alloc (.cells #[.string a1, .string a2] 24) := ⟨_, rfl⟩
  obtain ⟨V2, hV2⟩ : ∃ W, W = V1.alloc (.cells #[.string b1, .string b2] 24) := ⟨_, rfl⟩
  obtain ⟨V3, hV3⟩ : ∃ W, W = V2.alloc (.cells #[.string c1, .string c2] 24) := ⟨_, rfl⟩
  have v01 : Below w.heap.size w V1 := by rw [hV1]; exact (Below.refl _ _).alloc (Nat.le_refl _) _
  have v12 : Below V1.heap.size V1 V2 := by rw [hV2]; exact (Below.refl _ _).alloc (Nat.le_refl _) _
  have v23 : Below V2.heap.size V2 V3 := by rw [hV3]; exact (Below.refl _ _).alloc (Nat.le_refl _) _
  have z1 : V1.heap.size = w.heap.size + 1 := by rw [hV1, World.size_alloc]
  have z2 : V2.heap.size = w.heap.size + 1 + 1 := by rw [hV2, World.size_alloc, z1]
  have ka : V3.heap[w.heap.size]? = some (partO a1 a2) := part_on (part_on (by rw [hV1]; exact Go.Deep.blk_alloc_new _ _) v12) v23
  have kb : V3.heap[w.heap.size + 1]? = some (partO b1 b2) := part_on (by rw [← z1, hV2]; exact Go.Deep.blk_alloc_new _ _) v23
  have kc : V3.heap[w.heap.size + 1 + 1]? = some (partO c1 c2) := by rw [← z2, hV3]; exact Go.Deep.blk_alloc_new _ _
  have HB := Lib.hid (v01.trans ((below_chain v12 v23).mono v01.size))
  have HV1 := Lib.hid hV1; have HV2 := Lib.hid hV2; have HV3 := Lib.hid hV3; have Ka := Lib.hid ka; have Kb := Lib.hid kb; have Kc := Lib.hid kc
  clear hV1 hV2 hV3 v01 v12 v23 z1 z2 ka kb kc
  go_enter Tryz.func5, Tryz.ntmps5
  go_wp2_with fail
  rw [← HV1.out, ← HV2.out, ← HV3.out]
  refine (HAL.out V3 HB.out).mono ?_
  rintro e w1 ⟨rfl, hb1⟩
  have Hw1 := Lib.hid (HB.out.trans (hb1.mono HB.out.size))
  have ka := part_on Ka.out hb1
  have kb := part_on Kb.out hb1
  have kc := part_on Kc.out hb1
  clear Ka Kb Kc hb1
  obtain ⟨ya0, ya1, ya2⟩ := part_at ka
  obtain ⟨yb0, yb1, yb2⟩ := part_at kb
  obtain ⟨yc0, yc1, yc2⟩ := part_at kc
  obtain ⟨W1, hW1⟩ : ∃ W, W = w1.alloc (.cells #[.string a1, .string a2, .string b1, .string b2, .string c1, .string c2] 24) := ⟨_, rfl⟩
  have bb : Below w1.heap.size w1 W1 := by rw [hW1]; exact (Below.refl _ _).alloc (Nat.le_refl _) _
  have Ka := Lib.hid (part_on ka bb)
  have Kb := Lib.hid (part_on kb bb)
  have Kc := Lib.hid (part_on kc bb)
  have HW1 := Lib.hid (Hw1.out.trans (bb.mono Hw1.out.size))
  have kk : W1.heap[w1.heap.size]? = some (.cells #[.string a1, .string a2, .string b1, .string b2, .string c1, .string c2] 24 (0, 0)) := by rw [hW1]; exact Go.Deep.blk_alloc_new _ _
  have KK := Lib.hid kk
  clear kk
  have HEW1 := Lib.hid hW1
  clear bb hW1 ka kb kc
  go_wp2_with fail
  rw [← HEW1.out]
  clear ya0 ya1 ya2 yb0 yb1 yb2 yc0 yc1 yc2
  have hsh := short_any 60 [(a1, a2), (b1, b2), (c1, c2)] (.slice (some ⟨w1.heap.size, 0, none⟩) 3 3) W1 (.inr ⟨w1.heap.size, 0, 3, rfl, by simp, by decide, (Array.getElem?_eq_some_iff.1 KK.out).1, fun i hi => by
    match i, hi with
    | 0, _ => exact ⟨by rw [set_cells KK.out]; rfl, by rw [set_cells KK.out]; rfl⟩
    | 1, _ => exact ⟨by rw [set_cells KK.out]; rfl, by rw [set_cells KK.out]; rfl⟩
    | 2, _ => exact ⟨by rw [set_cells KK.out]; rfl, by rw [set_cells KK.out]; rfl⟩⟩) (by simp) (by decide)
  have hall : [(a1, a2), (b1, b2), (c1, c2)].all (shortP 60) = true := by
    simp only [List.all_cons, List.all_nil, HSH.out.1, HSH.out.2.1, HSH.out.2.2, Bool.and_self]
  rw [hall] at hsh
  have HSHORT := Lib.hid hsh
  clear hsh hall KK
  refine (HSHORT.out).mono ?_
  rintro e w2 ⟨rfl, hb2⟩
  have Hw2 := Lib.hid (HW1.out.trans (hb2.mono HW1.out.size))
  have ka := part_on Ka.out hb2
  have kb := part_on Kb.out hb2
  have kc := part_on Kc.out hb2
  clear Ka Kb Kc hb2
  obtain ⟨ya0, ya1, ya2⟩ := part_at ka
  obtain ⟨yb0, yb1, yb2⟩ := part_at kb
  obtain ⟨yc0, yc1, yc2⟩ := part_at kc
  have Ka := Lib.hid ka
  have Kb := Lib.hid kb
  have Kc := Lib.hid kc
  clear ka kb kc
  go_wp2_with fail
  clear ya0 ya1 ya2 yb0 yb1 yb2 yc0 yc1 yc2
  refine (U1.out w2 Hw2.out).mono ?_
  rintro e w3 ⟨rfl, hb3⟩
  have Hw3 := Lib.hid (Hw2.out.trans (hb3.mono Hw2.out.size))
  have ka := part_on Ka.out hb3
  have kb := part_on Kb.out hb3
  have kc := part_on Kc.out hb3
  clear Ka Kb Kc hb3
  obtain ⟨ya0, ya1, ya2⟩ := part_at ka
  obtain ⟨yb0, yb1, yb2⟩ := part_at kb
  obtain ⟨yc0, yc1, yc2⟩ := part_at kc
  have Ka := Lib.hid ka
  have Kb := Lib.hid kb
  have Kc := Lib.hid kc
  clear ka kb kc
  go_wp2_with fail
  clear ya0 ya1 ya2 yb0 yb1 yb2 yc0 yc1 yc2
  refine (U2.out w3 Hw3.out).mono ?_
  rintro e w4 ⟨rfl, hb4⟩
  have Hw4 := Lib.hid (Hw3.out.trans (hb4.mono Hw3.out.size))
  have ka := part_on Ka.out hb4
  have kb := part_on Kb.out hb4
  have kc := part_on Kc.out hb4
  clear Ka Kb Kc hb4
  obtain ⟨ya0, ya1, ya2⟩ := part_at ka
  obtain ⟨yb0, yb1, yb2⟩ := part_at kb
  obtain ⟨yc0, yc1, yc2⟩ := part_at kc
  have Ka := Lib.hid ka
  have Kb := Lib.hid kb
  have Kc := Lib.hid kc
  clear ka kb kc
  go_wp2_with fail
  clear ya0 ya1 ya2 yb0 yb1 yb2 yc0 yc1 yc2
  refine (U3.out w4 Hw4.out).mono ?_
  rintro e w5 ⟨rfl, hb5⟩
  have Hw5 := Lib.hid (Hw4.out.trans (hb5.mono Hw4.out.size))
  have ka := part_on Ka.out hb5
  have kb := part_on Kb.out hb5
  have kc := part_on Kc.out hb5
  clear Ka Kb Kc hb5
  obtain ⟨ya0, ya1, ya2⟩ := part_at ka
  obtain ⟨yb0, yb1, yb2⟩ := part_at kb
  obtain ⟨yc0, yc1, yc2⟩ := part_at kc
  have Ka := Lib.hid ka
  have Kb := Lib.hid kb
  have Kc := Lib.hid kc
  clear ka kb kc
  go_wp2_with fail
  clear ya0 ya1 ya2 yb0 yb1 yb2 yc0 yc1 yc2
  refine (C1.out w5 Hw5.out).mono ?_
  rintro e w6 ⟨rfl, hb6⟩
  have Hw6 := Lib.hid (Hw5.out.trans (hb6.mono Hw5.out.size))
  have ka := part_on Ka.out hb6
  have kb := part_on Kb.out hb6
  have kc := part_on Kc.out hb6
  clear Ka Kb Kc hb6
  obtain ⟨ya0, ya1, ya2⟩ := part_at ka
  obtain ⟨yb0, yb1, yb2⟩ := part_at kb
  obtain ⟨yc0, yc1, yc2⟩ := part_at kc
  have Ka := Lib.hid ka
  have Kb := Lib.hid kb
  have Kc := Lib.hid kc
  clear ka kb kc
  go_wp2_with fail
  clear ya0 ya1 ya2 yb0 yb1 yb2 yc0 yc1 yc2
  refine (Q2.out w6 Hw6.out).mono ?_
  rintro e w7 ⟨rfl, hb7⟩
  have Hw7 := Lib.hid (Hw6.out.trans (hb7.mono Hw6.out.size))
  have ka := part_on Ka.out hb7
  have kb := part_on Kb.out hb7
  have kc := part_on Kc.out hb7
  clear Ka Kb Kc hb7
  obtain ⟨ya0, ya1, ya2⟩ := part_at ka
  obtain ⟨yb0, yb1, yb2⟩ := part_at kb
  obtain ⟨yc0, yc1, yc2⟩ := part_at kc
  obtain ⟨W7, hW7⟩ : ∃ W, W = w7.alloc (.cells #[.string d1, .string d2] 24) := ⟨_, rfl⟩
  have bb : Below w7.heap.size w7 W7 := by rw [hW7]; exact (Below.refl _ _).alloc (Nat.le_refl _) _
  have Ka := Lib.hid (part_on ka bb)
  have Kb := Lib.hid (part_on kb bb)
  have Kc := Lib.hid (part_on kc bb)
  have HW7 := Lib.hid (Hw7.out.trans (bb.mono Hw7.out.size))
  have Kd : Hid (W7.heap[w7.heap.size]? = some (partO d1 d2)) := Lib.hid (by rw [hW7]; exact Go.Deep.blk_alloc_new _ _)
  have HEW7 := Lib.hid hW7
  clear bb hW7 ka kb kc
  go_wp2_with fail
  rw [← HEW7.out]
  clear ya0 ya1 ya2 yb0 yb1 yb2 yc0 yc1 yc2
  refine (Q3.out W7 HW7.out).mono ?_
  rintro e w8 ⟨rfl, hb8⟩
  have Hw8 := Lib.hid (HW7.out.trans (hb8.mono HW7.out.size))
  have ka := part_on Ka.out hb8
  have kb := part_on Kb.out hb8
  have kc := part_on Kc.out hb8
  have kd := part_on Kd.out hb8
  clear Ka Kb Kc Kd hb8
  obtain ⟨ya0, ya1, ya2⟩ := part_at ka
  obtain ⟨yb0, yb1, yb2⟩ := part_at kb
  obtain ⟨yc0, yc1, yc2⟩ := part_at kc
  obtain ⟨yd0, yd1, yd2⟩ := part_at kd
  obtain ⟨W8, hW8⟩ : ∃ W, W = w8.alloc (.cells #[.string x1, .string x2] 24) := ⟨_, rfl⟩
  have bb : Below w8.heap.size w8 W8 := by rw [hW8]; exact (Below.refl _ _).alloc (Nat.le_refl _) _
  have Ka := Lib.hid (part_on ka bb)
  have Kb := Lib.hid (part_on kb bb)
  have Kc := Lib.hid (part_on kc bb)
  have Kd := Lib.hid (part_on kd bb)
  have HW8 := Lib.hid (Hw8.out.trans (bb.mono Hw8.out.size))
  have Kx : Hid (W8.heap[w8.heap.size]? = some (partO x1 x2)) := Lib.hid (by rw [hW8]; exact Go.Deep.blk_alloc_new _ _)
  have HEW8 := Lib.hid hW8
  clear bb hW8 ka kb kc kd
  go_wp2_with fail
  rw [← HEW8.out]
  clear ya0 ya1 ya2 yb0 yb1 yb2 yc0 yc1 yc2 yd0 yd1 yd2
  refine (Q4.out W8 HW8.out).mono ?_
  rintro e w9 ⟨rfl, hb9⟩
  have Hw9 := Lib.hid (HW8.out.trans (hb9.mono HW8.out.size))
  have ka := part_on Ka.out hb9
  have kb := part_on Kb.out hb9
  have kc := part_on Kc.out hb9
  have kd := part_on Kd.out hb9
  have kx := part_on Kx.out hb9
  clear Ka Kb Kc Kd Kx hb9
  obtain ⟨ya0, ya1, ya2⟩ := part_at ka
  obtain ⟨yb0, yb1, yb2⟩ := part_at kb
  obtain ⟨yc0, yc1, yc2⟩ := part_at kc
  obtain ⟨yd0, yd1, yd2⟩ := part_at kd
  obtain ⟨yx0, yx1, yx2⟩ := part_at kx
  obtain ⟨W9, hW9⟩ : ∃ W, W = w9.alloc (.cells #[.string y1, .string y2] 24) := ⟨_, rfl⟩
  have bb : Below w9.heap.size w9 W9 := by rw [hW9]; exact (Below.refl _ _).alloc (Nat.le_refl _) _
  have Ka := Lib.hid (part_on ka bb)
  have Kb := Lib.hid (part_on kb bb)
  have Kc := Lib.hid (part_on kc bb)
  have Kd := Lib.hid (part_on kd bb)
  have Kx := Lib.hid (part_on kx bb)
  have HW9 := Lib.hid (Hw9.out.trans (bb.mono Hw9.out.size))
  have Ky : Hid (W9.heap[w9.heap.size]? = some (partO y1 y2)) := Lib.hid (by rw [hW9]; exact Go.Deep.blk_alloc_new _ _)
  have HEW9 := Lib.hid hW9
  clear bb hW9 ka kb kc kd kx
  go_wp2_with fail
  rw [← HEW9.out]
  clear ya0 ya1 ya2 yb0 yb1 yb2 yc0 yc1 yc2 yd0 yd1 yd2 yx0 yx1 yx2
  refine (Q5.out W9 HW9.out).mono ?_
  rintro e w10 ⟨rfl, hb10⟩
  have Hw10 := Lib.hid (HW9.out.trans (hb10.mono HW9.out.size))
  have ka := part_on Ka.out hb10
  have kb := part_on Kb.out hb10
  have kc := part_on Kc.out hb10
  have kd := part_on Kd.out hb10
  have kx := part_on Kx.out hb10
  have ky := part_on Ky.out hb10
  clear Ka Kb Kc Kd Kx Ky hb10
  obtain ⟨ya0, ya1, ya2⟩ := part_at ka
  obtain ⟨yb0, yb1, yb2⟩ := part_at kb
  obtain ⟨yc0, yc1, yc2⟩ := part_at kc
  obtain ⟨yd0, yd1, yd2⟩ := part_at kd
  obtain ⟨yx0, yx1, yx2⟩ := part_at kx
  obtain ⟨yy0, yy1, yy2⟩ := part_at ky
  obtain ⟨W10, hW10⟩ : ∃ W, W = w10.alloc (.cells #[.string p1, .string p2] 24) := ⟨_, rfl⟩
  have bb : Below w10.heap.size w10 W10 := by rw [hW10]; exact (Below.refl _ _).alloc (Nat.le_refl _) _
  have Ka := Lib.hid (part_on ka bb)
  have Kb := Lib.hid (part_on kb bb)
  have Kc := Lib.hid (part_on kc bb)
  have Kd := Lib.hid (part_on kd bb)
  have Kx := Lib.hid (part_on kx bb)
  have Ky := Lib.hid (part_on ky bb)
  have HW10 := Lib.hid (Hw10.out.trans (bb.mono Hw10.out.size))
  have Kp : Hid (W10.heap[w10.heap.size]? = some (partO p1 p2)) := Lib.hid (by rw [hW10]; exact Go.Deep.blk_alloc_new _ _)
  have HEW10 := Lib.hid hW10
  clear bb hW10 ka kb kc kd kx ky
  go_wp2_with fail
  rw [← HEW10.out]
  clear ya0 ya1 ya2 yb0 yb1 yb2 yc0 yc1 yc2 yd0 yd1 yd2 yx0 yx1 yx2 yy0 yy1 yy2
  refine (Q6.out W10 HW10.out).mono ?_
  rintro e w11 ⟨rfl, hb11⟩
  have Hw11 := Lib.hid (HW10.out.trans (hb11.mono HW10.out.size))
  have ka := part_on Ka.out hb11
  have kb := part_on Kb.out hb11
  have kc := part_on Kc.out hb11
  have kd := part_on Kd.out hb11
  have kx := part_on Kx.out hb11
  have ky := part_on Ky.out hb11
  have kp := part_on Kp.out hb11
  clear Ka Kb Kc Kd Kx Ky Kp hb11
  obtain ⟨ya0, ya1, ya2⟩ := part_at ka
  obtain ⟨yb0, yb1, yb2⟩ := part_at kb
  obtain ⟨yc0, yc1, yc2⟩ := part_at kc
  obtain ⟨yd0, yd1, yd2⟩ := part_at kd
  obtain ⟨yx0, yx1, yx2⟩ := part_at kx
  obtain ⟨yy0, yy1, yy2⟩ := part_at ky
  obtain ⟨yp0, yp1, yp2⟩ := part_at kp
  obtain ⟨W11, hW11⟩ : ∃ W, W = w11.alloc (.cells #[.string r1, .string r2] 24) := ⟨_, rfl⟩
  have bb : Below w11.heap.size w11 W11 := by rw [hW11]; exact (Below.refl _ _).alloc (Nat.le_refl _) _
  have Ka := Lib.hid (part_on ka bb)
  have Kb := Lib.hid (part_on kb bb)
  have Kc := Lib.hid (part_on kc bb)
  have Kd := Lib.hid (part_on kd bb)
  have Kx := Lib.hid (part_on kx bb)
  have Ky := Lib.hid (part_on ky bb)
  have Kp := Lib.hid (part_on kp bb)
  have HW11 := Lib.hid (Hw11.out.trans (bb.mono Hw11.out.size))
  have Kr : Hid (W11.heap[w11.heap.size]? = some (partO r1 r2)) := Lib.hid (by rw [hW11]; exact Go.Deep.blk_alloc_new _ _)
  have HEW11 := Lib.hid hW11
  clear bb hW11 ka kb kc kd kx ky kp
  go_wp2_with fail
  rw [← HEW11.out]
  clear ya0 ya1 ya2 yb0 yb1 yb2 yc0 yc1 yc2 yd0 yd1 yd2 yx0 yx1 yx2 yy0 yy1 yy2 yp0 yp1 yp2
  have hc0 : c1 = ⟨#[48]⟩ := HCZ.out
  subst hc0
  obtain ⟨rfl, rfl⟩ := Prod.mk.inj HEQ.out
  refine (C3.out W11 HW11.out).mono ?_
  rintro e w12 ⟨rfl, hb12⟩
  have Hw12 := Lib.hid (HW11.out.trans (hb12.mono HW11.out.size))
  have ka := part_on Ka.out hb12
  have kb := part_on Kb.out hb12
  have kc := part_on Kc.out hb12
  have kd := part_on Kd.out hb12
  have kx := part_on Kx.out hb12
  have ky := part_on Ky.out hb12
  have kp := part_on Kp.out hb12
  have kr := part_on Kr.out hb12
  clear Ka Kb Kc Kd Kx Ky Kp Kr hb12
  obtain ⟨ya0, ya1, ya2⟩ := part_at ka
  obtain ⟨yb0, yb1, yb2⟩ := part_at kb
  obtain ⟨yc0, yc1, yc2⟩ := part_at kc
  obtain ⟨yd0, yd1, yd2⟩ := part_at kd
  obtain ⟨yx0, yx1, yx2⟩ := part_at kx
  obtain ⟨yy0, yy1, yy2⟩ := part_at ky
  obtain ⟨yp0, yp1, yp2⟩ := part_at kp
  obtain ⟨yr0, yr1, yr2⟩ := part_at kr
  have Ka := Lib.hid ka
  have Kb := Lib.hid kb
  have Kc := Lib.hid kc
  have Kd := Lib.hid kd
  have Kx := Lib.hid kx
  have Ky := Lib.hid ky
  have Kp := Lib.hid kp
  have Kr := Lib.hid kr
  clear ka kb kc kd kx ky kp kr
  go_wp2_with fail
  clear ya0 ya1 ya2 yb0 yb1 yb2 yc0 yc1 yc2 yd0 yd1 yd2 yx0 yx1 yx2 yy0 yy1 yy2 yp0 yp1 yp2 yr0 yr1 yr2
  refine (C2.out w12 Hw12.out).mono ?_
  rintro e w13 ⟨rfl, hb13⟩
  have Hw13 := Lib.hid (Hw12.out.trans (hb13.mono Hw12.out.size))
  have ka := part_on Ka.out hb13
  have kb := part_on Kb.out hb13
  have kc := part_on Kc.out hb13
  have kd := part_on Kd.out hb13
  have kx := part_on Kx.out hb13
  have ky := part_on Ky.out hb13
  have kp := part_on Kp.out hb13
  have kr := part_on Kr.out hb13
  clear Ka Kb Kc Kd Kx Ky Kp Kr hb13
  obtain ⟨ya0, ya1, ya2⟩ := part_at ka
  obtain ⟨yb0, yb1, yb2⟩ := part_at kb
  obtain ⟨yc0, yc1, yc2⟩ := part_at kc
  obtain ⟨yd0, yd1, yd2⟩ := part_at kd
  obtain ⟨yx0, yx1, yx2⟩ := part_at kx
  obtain ⟨yy0, yy1, yy2⟩ := part_at ky
  obtain ⟨yp0, yp1, yp2⟩ := part_at kp
  obtain ⟨yr0, yr1, yr2⟩ := part_at kr
  have Ka := Lib.hid ka
  have Kb := Lib.hid kb
  have Kc := Lib.hid kc
  have Kd := Lib.hid kd
  have Kx := Lib.hid kx
  have Ky := Lib.hid ky
  have Kp := Lib.hid kp
  have Kr := Lib.hid kr
  clear ka kb kc kd kx ky kp kr
  go_wp2_with fail
  clear ya0 ya1 ya2 yb0 yb1 yb2 yc0 yc1 yc2 yd0 yd1 yd2 yx0 yx1 yx2 yy0 yy1 yy2 yp0 yp1 yp2 yr0 yr1 yr2
  refine (C4.out w13 Hw13.out).mono ?_
  rintro e w14 ⟨rfl, hb14⟩
  have Hw14 := Lib.hid (Hw13.out.trans (hb14.mono Hw13.out.size))
  have ka := part_on Ka.out hb14
  have kb := part_on Kb.out hb14
  have kc := part_on Kc.out hb14
  have kd := part_on Kd.out hb14
  have kx := part_on Kx.out hb14
  have ky := part_on Ky.out hb14
  have kp := part_on Kp.out hb14
  have kr := part_on Kr.out hb14
  clear Ka Kb Kc Kd Kx Ky Kp Kr hb14
  obtain ⟨ya0, ya1, ya2⟩ := part_at ka
  obtain ⟨yb0, yb1, yb2⟩ := part_at kb
  obtain ⟨yc0, yc1, yc2⟩ := part_at kc
  obtain ⟨yd0, yd1, yd2⟩ := part_at kd
  obtain ⟨yx0, yx1, yx2⟩ := part_at kx
  obtain ⟨yy0, yy1, yy2⟩ := part_at ky
  obtain ⟨yp0, yp1, yp2⟩ := part_at kp
  obtain ⟨yr0, yr1, yr2⟩ := part_at kr
  have Ka := Lib.hid ka
  have Kb := Lib.hid kb
  have Kc := Lib.hid kc
  have Kd := Lib.hid kd
  have Kx := Lib.hid kx
  have Ky := Lib.hid ky
  have Kp := Lib.hid kp
  have Kr := Lib.hid kr
  clear ka kb kc kd kx ky kp kr
  go_wp2_with fail
  clear ya0 ya1 ya2 yb0 yb1 yb2 yc0 yc1 yc2 yd0 yd1 yd2 yx0 yx1 yx2 yy0 yy1 yy2 yp0 yp1 yp2 yr0 yr1 yr2
  exact bodyPost_ret (v := .bool true) (by simp [results, Tryz.results5, go_sem]) rfl ⟨rfl, Hw14.out⟩

set_option maxRecDepth 100000 in
set_option maxHeartbeats 8000000 in
theorem orders_eq_p (a1 a2 b1 b2 c1 c2 : ByteArray) (ha : okP (a1, a2) = true) (hb : okP (b1, b2) = true) (hc : okP (c1, c2) = true) (sa : shortP 60 (a1, a2) = true) (sb : shortP 60 (b1, b2) = true) (sc : shortP 60 (c1, c2) = true) (hn : (pv (a1, a2)).1 * (pv (b1, b2)).2 = (pv (b1, b2)).1 * (pv (a1, a2)).2) (hcz : ¬ c1 = zeroB) (w : World) (ht : Tens w) (h0 : 0 < w.heap.size) :
    Calls Tryz.prog 5 #[.agg #[.string a1, .string a2], .agg #[.string b1, .string b2], .agg #[.string c1, .string c2]] w fun e w' => e = .returned (.bool true) ∧ Below w.heap.size w w' := by
  have HT : ∀ W, Below w.heap.size w W → Tens W := fun W hW j hj => cell_later hW (ht j hj)
  have HAL : Hid (∀ W, Below w.heap.size w W → Calls Tryz.prog 20 #[] W fun e w' => e = .returned (.bool true) ∧ Below W.heap.size W w') := Lib.hid fun W hW => alive_any W (HT W hW) (by have := hW.size; omega)
  have sha : a1.size ≤ 60 ∧ a2.size ≤ 60 := by unfold shortP at sa; simpa using sa
  have shb : b1.size ≤ 60 ∧ b2.size ≤ 60 := by unfold shortP at sb; simpa using sb
  have shc : c1.size ≤ 60 ∧ c2.size ≤ 60 := by unfold shortP at sc; simpa using sc
  have mA := sm_of (k := 60) ha sha.1 sha.2
  have mB := sm_of (k := 60) hb shb.1 shb.2
  have mC := sm_of (k := 60) hc shc.1 shc.2
  have eA := pt_pv ha; have eB := pt_pv hb; have eC := pt_pv hc
  have hzz := num_zero hc
  have hcmp : cmpF (pv (a1, a2)) (pv (b1, b2)) = 0 := cmpF_eq hn
  have C1 := useCmp HT ha hb hcmp
  have C2 := useCmp (z := 0) HT hb ha (by rw [cmpF_swap, hcmp] <;> rfl)
  have heq : (a1, a2) = (b1, b2) := by rw [← eA, ← eB, fr_uniq mA.fr mB.fr hn]
  obtain ⟨⟨d1, d2⟩, hsub⟩ : ∃ r, subS (a1, a2) (b1, b2) = (r, 0) := ⟨_, (subS_ok ha hb (by omega)).trans (res_sm (k := 120) (low_sm (Nat.mul_pos mA.fr.pos mB.fr.pos) (Nat.lt_of_le_of_lt (Nat.sub_le _ _) (by rw [show (120:Nat) = 60 + 60 from rfl, Nat.pow_add]; exact Nat.mul_lt_mul'' mA.n mB.d)) (by rw [show (120:Nat) = 60 + 60 from rfl, Nat.pow_add]; exact Nat.mul_lt_mul'' mA.d mB.d)) (by decide))⟩
  have Q2 := useSub HT hsub ha hb
  generalize hgA : pv (a1, a2) = A at *
  generalize hgB : pv (b1, b2) = B at *
  generalize hgC : pv (c1, c2) = C at *
  have m1 := mA.add mC (m := 121) rfl; have m2 := mB.add mC (m := 121) rfl; have m3 := mA.mul mC (m := 120) rfl; have m4 := mB.mul mC (m := 120) rfl
  have q3 := add_pt mA mC (by decide); have q4 := add_pt mB mC (by decide); have q5 := mul_pt mA mC (by decide); have q6 := mul_pt mB mC (by decide)
  have o1 := pt_ok m1 (by decide); have o2 := pt_ok m2 (by decide); have o3 := pt_ok m3 (by decide); have o4 := pt_ok m4 (by decide)
  have v1 := pv_pt (addF A C); have v2 := pv_pt (addF B C); have v3 := pv_pt (mulF A C); have v4 := pv_pt (mulF B C)
  rw [eA, eC] at q3 q5; rw [eB, eC] at q4 q6
  obtain ⟨⟨x1, x2⟩, hx⟩ : ∃ r, ptOf (addF A C) = r := ⟨_, rfl⟩
  obtain ⟨⟨y1, y2⟩, hy⟩ : ∃ r, ptOf (addF B C) = r := ⟨_, rfl⟩
  obtain ⟨⟨p1, p2⟩, hp⟩ : ∃ r, ptOf (mulF A C) = r := ⟨_, rfl⟩
  obtain ⟨⟨r1, r2⟩, hr⟩ : ∃ r, ptOf (mulF B C) = r := ⟨_, rfl⟩
  rw [hx] at q3 o1 v1; rw [hy] at q4 o2 v2; rw [hp] at q5 o3 v3; rw [hr] at q6 o4 v4
  have Q3 := useAdd HT q3 ha hc; have Q4 := useAdd HT q4 hb hc; have Q5 := useMul HT q5 ha hc; have Q6 := useMul HT q6 hb hc
  have C3 := useCmp (z := 0) HT o3 o4 (by rw [v3, v4]; exact (cmpF_prod mA.fr mB.fr mC.fr (Nat.pos_of_ne_zero (by rw [Ne, hzz]; exact hcz))).trans hcmp)
  have C4 := useCmp (z := 0) HT o1 o2 (by rw [v1, v2]; exact (cmpF_sum mA.fr mB.fr mC.fr).trans hcmp)
  have U1 := useChk HT ha; have U2 := useChk HT hb; have U3 := useChk HT hc
  have HSH := Lib.hid (And.intro sa (And.intro sb sc)); have HEQ := Lib.hid heq; have HCZ := Lib.hid hcz
  clear q3 q4 q5 q6 o1 o2 o3 o4 v1 v2 v3 v4 m1 m2 m3 m4 mA mB mC eA eB eC hx hy hp hr hsub hcmp hn heq hcz hzz sha shb shc sa sb sc HT ht ha hb hc hgA hgB hgC
  obtain ⟨V1, hV1⟩ : ∃ W, W = w.alloc (.cells #[.string a1, .string a2] 24) := ⟨_, rfl⟩
  obtain ⟨V2, hV2⟩ : ∃ W, W = V1.alloc (.cells #[.string b1, .string b2] 24) := ⟨_, rfl⟩
  obtain ⟨V3, hV3⟩ : ∃ W, W = V2.alloc (.cells #[.string c1, .string c2] 24) := ⟨_, rfl⟩
  have v01 : Below w.heap.size w V1 := by rw [hV1]; exact (Below.refl _ _).alloc (Nat.le_refl _) _
  have v12 : Below V1.heap.size V1 V2 := by rw [hV2]; exact (Below.refl _ _).alloc (Nat.le_refl _) _
  have v23 : Below V2.heap.size V2 V3 := by rw [hV3]; exact (Below.refl _ _).alloc (Nat.le_refl _) _
  have z1 : V1.heap.size = w.heap.size + 1 := by rw [hV1, World.size_alloc]
  have z2 : V2.heap.size = w.heap.size + 1 + 1 := by rw [hV2, World.size_alloc, z1]
  have ka : V3.heap[w.heap.size]? = some (partO a1 a2) := part_on (part_on (by rw [hV1]; exact Go.Deep.blk_alloc_new _ _) v12) v23
  have kb : V3.heap[w.heap.size + 1]? = some (partO b1 b2) := part_on (by rw [← z1, hV2]; exact Go.Deep.blk_alloc_new _ _) v23
  have kc : V3.heap[w.heap.size + 1 + 1]? = some (partO c1 c2) := by rw [← z2, hV3]; exact Go.Deep.blk_alloc_new _ _
  have HB := Lib.hid (v01.trans ((below_chain v12 v23).mono v01.size))
  have HV1 := Lib.hid hV1; have HV2 := Lib.hid hV2; have HV3 := Lib.hid hV3; have Ka := Lib.hid ka; have Kb := Lib.hid kb; have Kc := Lib.hid kc
  clear hV1 hV2 hV3 v01 v12 v23 z1 z2 ka kb kc
  go_enter Tryz.func5, Tryz.ntmps5
  go_wp2_with fail
  rw [← HV1.out, ← HV2.out, ← HV3.out]
  refine (HAL.out V3 HB.out).mono ?_
  rintro e w1 ⟨rfl, hb1⟩
  have Hw1 := Lib.hid (HB.out.trans (hb1.mono HB.out.size))
  have ka := part_on Ka.out hb1
  have kb := part_on Kb.out hb1
  have kc := part_on Kc.out hb1
  clear Ka Kb Kc hb1
  obtain ⟨ya0, ya1, ya2⟩ := part_at ka
  obtain ⟨yb0, yb1, yb2⟩ := part_at kb
  obtain ⟨yc0, yc1, yc2⟩ := part_at kc
  obtain ⟨W1, hW1⟩ : ∃ W, W = w1.alloc (.cells #[.string a1, .string a2, .string b1, .string b2, .string c1, .string c2] 24) := ⟨_, rfl⟩
  have bb : Below w1.heap.size w1 W1 := by rw [hW1]; exact (Below.refl _ _).alloc (Nat.le_refl _) _
  have Ka := Lib.hid (part_on ka bb)
  have Kb := Lib.hid (part_on kb bb)
  have Kc := Lib.hid (part_on kc bb)
  have HW1 := Lib.hid (Hw1.out.trans (bb.mono Hw1.out.size))
  have kk : W1.heap[w1.heap.size]? = some (.cells #[.string a1, .string a2, .string b1, .string b2, .string c1, .string c2] 24 (0, 0)) := by rw [hW1]; exact Go.Deep.blk_alloc_new _ _
  have KK := Lib.hid kk
  clear kk
  have HEW1 := Lib.hid hW1
  clear bb hW1 ka kb kc
  go_wp2_with fail
  rw [← HEW1.out]
  clear ya0 ya1 ya2 yb0 yb1 yb2 yc0 yc1 yc2
  have hsh := short_any 60 [(a1, a2), (b1, b2), (c1, c2)] (.slice (some ⟨w1.heap.size, 0, none⟩) 3 3) W1 (.inr ⟨w1.heap.size, 0, 3, rfl, by simp, by decide, (Array.getElem?_eq_some_iff.1 KK.out).1, fun i hi => by
    match i, hi with
    | 0, _ => exact ⟨by rw [set_cells KK.out]; rfl, by rw [set_cells KK.out]; rfl⟩
    | 1, _ => exact ⟨by rw [set_cells KK.out]; rfl, by rw [set_cells KK.out]; rfl⟩
    | 2, _ => exact ⟨by rw [set_cells KK.out]; rfl, by rw [set_cells KK.out]; rfl⟩⟩) (by simp) (by decide)
  have hall : [(a1, a2), (b1, b2), (c1, c2)].all (shortP 60) = true := by
    simp only [List.all_cons, List.all_nil, HSH.out.1, HSH.out.2.1, HSH.out.2.2, Bool.and_self]
  rw [hall] at hsh
  have HSHORT := Lib.hid hsh
  clear hsh hall KK
  refine (HSHORT.out).mono ?_
  rintro e w2 ⟨rfl, hb2⟩
  have Hw2 := Lib.hid (HW1.out.trans (hb2.mono HW1.out.size))
  have ka := part_on Ka.out hb2
  have kb := part_on Kb.out hb2
  have kc := part_on Kc.out hb2
  clear Ka Kb Kc hb2
  obtain ⟨ya0, ya1, ya2⟩ := part_at ka
  obtain ⟨yb0, yb1, yb2⟩ := part_at kb
  obtain ⟨yc0, yc1, yc2⟩ := part_at kc
  have Ka := Lib.hid ka
  have Kb := Lib.hid kb
  have Kc := Lib.hid kc
  clear ka kb kc
  go_wp2_with fail
  clear ya0 ya1 ya2 yb0 yb1 yb2 yc0 yc1 yc2
  refine (U1.out w2 Hw2.out).mono ?_
  rintro e w3 ⟨rfl, hb3⟩
  have Hw3 := Lib.hid (Hw2.out.trans (hb3.mono Hw2.out.size))
  have ka := part_on Ka.out hb3
  have kb := part_on Kb.out hb3
  have kc := part_on Kc.out hb3
  clear Ka Kb Kc hb3
  obtain ⟨ya0, ya1, ya2⟩ := part_at ka
  obtain ⟨yb0, yb1, yb2⟩ := part_at kb
  obtain ⟨yc0, yc1, yc2⟩ := part_at kc
  have Ka := Lib.hid ka
  have Kb := Lib.hid kb
  have Kc := Lib.hid kc
  clear ka kb kc
  go_wp2_with fail
  clear ya0 ya1 ya2 yb0 yb1 yb2 yc0 yc1 yc2
  refine (U2.out w3 Hw3.out).mono ?_
  rintro e w4 ⟨rfl, hb4⟩
  have Hw4 := Lib.hid (Hw3.out.trans (hb4.mono Hw3.out.size))
  have ka := part_on Ka.out hb4
  have kb := part_on Kb.out hb4
  have kc := part_on Kc.out hb4
  clear Ka Kb Kc hb4
  obtain ⟨ya0, ya1, ya2⟩ := part_at ka
  obtain ⟨yb0, yb1, yb2⟩ := part_at kb
  obtain ⟨yc0, yc1, yc2⟩ := part_at kc
  have Ka := Lib.hid ka
  have Kb := Lib.hid kb
  have Kc := Lib.hid kc
  clear ka kb kc
  go_wp2_with fail
  clear ya0 ya1 ya2 yb0 yb1 yb2 yc0 yc1 yc2
  refine (U3.out w4 Hw4.out).mono ?_
  rintro e w5 ⟨rfl, hb5⟩
  have Hw5 := Lib.hid (Hw4.out.trans (hb5.mono Hw4.out.size))
  have ka := part_on Ka.out hb5
  have kb := part_on Kb.out hb5
  have kc := part_on Kc.out hb5
  clear Ka Kb Kc hb5
  obtain ⟨ya0, ya1, ya2⟩ := part_at ka
  obtain ⟨yb0, yb1, yb2⟩ := part_at kb
  obtain ⟨yc0, yc1, yc2⟩ := part_at kc
  have Ka := Lib.hid ka
  have Kb := Lib.hid kb
  have Kc := Lib.hid kc
  clear ka kb kc
  go_wp2_with fail
  clear ya0 ya1 ya2 yb0 yb1 yb2 yc0 yc1 yc2
  refine (C1.out w5 Hw5.out).mono ?_
  rintro e w6 ⟨rfl, hb6⟩
  have Hw6 := Lib.hid (Hw5.out.trans (hb6.mono Hw5.out.size))
  have ka := part_on Ka.out hb6
  have kb := part_on Kb.out hb6
  have kc := part_on Kc.out hb6
  clear Ka Kb Kc hb6
  obtain ⟨ya0, ya1, ya2⟩ := part_at ka
  obtain ⟨yb0, yb1, yb2⟩ := part_at kb
  obtain ⟨yc0, yc1, yc2⟩ := part_at kc
  have Ka := Lib.hid ka
  have Kb := Lib.hid kb
  have Kc := Lib.hid kc
  clear ka kb kc
  go_wp2_with fail
  clear ya0 ya1 ya2 yb0 yb1 yb2 yc0 yc1 yc2
  refine (Q2.out w6 Hw6.out).mono ?_
  rintro e w7 ⟨rfl, hb7⟩
  have Hw7 := Lib.hid (Hw6.out.trans (hb7.mono Hw6.out.size))
  have ka := part_on Ka.out hb7
  have kb := part_on Kb.out hb7
  have kc := part_on Kc.out hb7
  clear Ka Kb Kc hb7
  obtain ⟨ya0, ya1, ya2⟩ := part_at ka
  obtain ⟨yb0, yb1, yb2⟩ := part_at kb
  obtain ⟨yc0, yc1, yc2⟩ := part_at kc
  obtain ⟨W7, hW7⟩ : ∃ W, W = w7.alloc (.cells #[.string d1, .string d2] 24) := ⟨_, rfl⟩
  have bb : Below w7.heap.size w7 W7 := by rw [hW7]; exact (Below.refl _ _).alloc (Nat.le_refl _) _
  have Ka := Lib.hid (part_on ka bb)
  have Kb := Lib.hid (part_on kb bb)
  have Kc := Lib.hid (part_on kc bb)
  have HW7 := Lib.hid (Hw7.out.trans (bb.mono Hw7.out.size))
  have Kd : Hid (W7.heap[w7.heap.size]? = some (partO d1 d2)) := Lib.hid (by rw [hW7]; exact Go.Deep.blk_alloc_new _ _)
  have HEW7 := Lib.hid hW7
  clear bb hW7 ka kb kc
  go_wp2_with fail
  rw [← HEW7.out]
  clear ya0 ya1 ya2 yb0 yb1 yb2 yc0 yc1 yc2
  refine (Q3.out W7 HW7.out).mono ?_
  rintro e w8 ⟨rfl, hb8⟩
  have Hw8 := Lib.hid (HW7.out.trans (hb8.mono HW7.out.size))
  have ka := part_on Ka.out hb8
  have kb := part_on Kb.out hb8
  have kc := part_on Kc.out hb8
  have kd := part_on Kd.out hb8
  clear Ka Kb Kc Kd hb8
  obtain ⟨ya0, ya1, ya2⟩ := part_at ka
  obtain ⟨yb0, yb1, yb2⟩ := part_at kb
  obtain ⟨yc0, yc1, yc2⟩ := part_at kc
  obtain ⟨yd0, yd1, yd2⟩ := part_at kd
  obtain ⟨W8, hW8⟩ : ∃ W, W = w8.alloc (.cells #[.string x1, .string x2] 24) := ⟨_, rfl⟩
  have bb : Below w8.heap.size w8 W8 := by rw [hW8]; exact (Below.refl _ _).alloc (Nat.le_refl _) _
  have Ka := Lib.hid (part_on ka bb)
  have Kb := Lib.hid (part_on kb bb)
  have Kc := Lib.hid (part_on kc bb)
  have Kd := Lib.hid (part_on kd bb)
  have HW8 := Lib.hid (Hw8.out.trans (bb.mono Hw8.out.size))
  have Kx : Hid (W8.heap[w8.heap.size]? = some (partO x1 x2)) := Lib.hid (by rw [hW8]; exact Go.Deep.blk_alloc_new _ _)
  have HEW8 := Lib.hid hW8
  clear bb hW8 ka kb kc kd
  go_wp2_with fail
  rw [← HEW8.out]
  clear ya0 ya1 ya2 yb0 yb1 yb2 yc0 yc1 yc2 yd0 yd1 yd2
  refine (Q4.out W8 HW8.out).mono ?_
  rintro e w9 ⟨rfl, hb9⟩
  have Hw9 := Lib.hid (HW8.out.trans (hb9.mono HW8.out.size))
  have ka := part_on Ka.out hb9
  have kb := part_on Kb.out hb9
  have kc := part_on Kc.out hb9
  have kd := part_on Kd.out hb9
  have kx := part_on Kx.out hb9
  clear Ka Kb Kc Kd Kx hb9
  obtain ⟨ya0, ya1, ya2⟩ := part_at ka
  obtain ⟨yb0, yb1, yb2⟩ := part_at kb
  obtain ⟨yc0, yc1, yc2⟩ := part_at kc
  obtain ⟨yd0, yd1, yd2⟩ := part_at kd
  obtain ⟨yx0, yx1, yx2⟩ := part_at kx
  obtain ⟨W9, hW9⟩ : ∃ W, W = w9.alloc (.cells #[.string y1, .string y2] 24) := ⟨_, rfl⟩
  have bb : Below w9.heap.size w9 W9 := by rw [hW9]; exact (Below.refl _ _).alloc (Nat.le_refl _) _
  have Ka := Lib.hid (part_on ka bb)
  have Kb := Lib.hid (part_on kb bb)
  have Kc := Lib.hid (part_on kc bb)
  have Kd := Lib.hid (part_on kd bb)
  have Kx := Lib.hid (part_on kx bb)
  have HW9 := Lib.hid (Hw9.out.trans (bb.mono Hw9.out.size))
  have Ky : Hid (W9.heap[w9.heap.size]? = some (partO y1 y2)) := Lib.hid (by rw [hW9]; exact Go.Deep.blk_alloc_new _ _)
  have HEW9 := Lib.hid hW9
  clear bb hW9 ka kb kc kd kx
  go_wp2_with fail
  rw [← HEW9.out]
  clear ya0 ya1 ya2 yb0 yb1 yb2 yc0 yc1 yc2 yd0 yd1 yd2 yx0 yx1 yx2
  refine (Q5.out W9 HW9.out).mono ?_
  rintro e w10 ⟨rfl, hb10⟩
  have Hw10 := Lib.hid (HW9.out.trans (hb10.mono HW9.out.size))
  have ka := part_on Ka.out hb10
  have kb := part_on Kb.out hb10
  have kc := part_on Kc.out hb10
  have kd := part_on Kd.out hb10
  have kx := part_on Kx.out hb10
  have ky := part_on Ky.out hb10
  clear Ka Kb Kc Kd Kx Ky hb10
  obtain ⟨ya0, ya1, ya2⟩ := part_at ka
  obtain ⟨yb0, yb1, yb2⟩ := part_at kb
  obtain ⟨yc0, yc1, yc2⟩ := part_at kc
  obtain ⟨yd0, yd1, yd2⟩ := part_at kd
  obtain ⟨yx0, yx1, yx2⟩ := part_at kx
  obtain ⟨yy0, yy1, yy2⟩ := part_at ky
  obtain ⟨W10, hW10⟩ : ∃ W, W = w10.alloc (.cells #[.string p1, .string p2] 24) := ⟨_, rfl⟩
  have bb : Below w10.heap.size w10 W10 := by rw [hW10]; exact (Below.refl _ _).alloc (Nat.le_refl _) _
  have Ka := Lib.hid (part_on ka bb)
  have Kb := Lib.hid (part_on kb bb)
  have Kc := Lib.hid (part_on kc bb)
  have Kd := Lib.hid (part_on kd bb)
  have Kx := Lib.hid (part_on kx bb)
  have Ky := Lib.hid (part_on ky bb)
  have HW10 := Lib.hid (Hw10.out.trans (bb.mono Hw10.out.size))
  have Kp : Hid (W10.heap[w10.heap.size]? = some (partO p1 p2)) := Lib.hid (by rw [hW10]; exact Go.Deep.blk_alloc_new _ _)
  have HEW10 := Lib.hid hW10
  clear bb hW10 ka kb kc kd kx ky
  go_wp2_with fail
  rw [← HEW10.out]
  clear ya0 ya1 ya2 yb0 yb1 yb2 yc0 yc1 yc2 yd0 yd1 yd2 yx0 yx1 yx2 yy0 yy1 yy2
  refine (Q6.out W10 HW10.out).mono ?_
  rintro e w11 ⟨rfl, hb11⟩
  have Hw11 := Lib.hid (HW10.out.trans (hb11.mono HW10.out.size))
  have ka := part_on Ka.out hb11
  have kb := part_on Kb.out hb11
  have kc := part_on Kc.out hb11
  have kd := part_on Kd.out hb11
  have kx := part_on Kx.out hb11
  have ky := part_on Ky.out hb11
  have kp := part_on Kp.out hb11
  clear Ka Kb Kc Kd Kx Ky Kp hb11
  obtain ⟨ya0, ya1, ya2⟩ := part_at ka
  obtain ⟨yb0, yb1, yb2⟩ := part_at kb
  obtain ⟨yc0, yc1, yc2⟩ := part_at kc
  obtain ⟨yd0, yd1, yd2⟩ := part_at kd
  obtain ⟨yx0, yx1, yx2⟩ := part_at kx
  obtain ⟨yy0, yy1, yy2⟩ := part_at ky
  obtain ⟨yp0, yp1, yp2⟩ := part_at kp
  obtain ⟨W11, hW11⟩ : ∃ W, W = w11.alloc (.cells #[.string r1, .string r2] 24) := ⟨_, rfl⟩
  have bb : Below w11.heap.size w11 W11 := by rw [hW11]; exact (Below.refl _ _).alloc (Nat.le_refl _) _
  have Ka := Lib.hid (part_on ka bb)
  have Kb := Lib.hid (part_on kb bb)
  have Kc := Lib.hid (part_on kc bb)
  have Kd := Lib.hid (part_on kd bb)
  have Kx := Lib.hid (part_on kx bb)
  have Ky := Lib.hid (part_on ky bb)
  have Kp := Lib.hid (part_on kp bb)
  have HW11 := Lib.hid (Hw11.out.trans (bb.mono Hw11.out.size))
  have Kr : Hid (W11.heap[w11.heap.size]? = some (partO r1 r2)) := Lib.hid (by rw [hW11]; exact Go.Deep.blk_alloc_new _ _)
  have HEW11 := Lib.hid hW11
  clear bb hW11 ka kb kc kd kx ky kp
  go_wp2_with fail
  rw [← HEW11.out]
  clear ya0 ya1 ya2 yb0 yb1 yb2 yc0 yc1 yc2 yd0 yd1 yd2 yx0 yx1 yx2 yy0 yy1 yy2 yp0 yp1 yp2
  have hc0 : ¬ c1 = ⟨#[48]⟩ := HCZ.out
  have hc0l : ¬ c1.toList = [48] := fun h => hc0 (list_inj (h.trans (by rw [ByteArray.toList_eq])))
  have hc0b : (c1.toList == [48]) = false := beq_eq_false_iff_ne.2 hc0l
  obtain ⟨rfl, rfl⟩ := Prod.mk.inj HEQ.out
  refine (C3.out W11 HW11.out).mono ?_
  rintro e w12 ⟨rfl, hb12⟩
  have Hw12 := Lib.hid (HW11.out.trans (hb12.mono HW11.out.size))
  have ka := part_on Ka.out hb12
  have kb := part_on Kb.out hb12
  have kc := part_on Kc.out hb12
  have kd := part_on Kd.out hb12
  have kx := part_on Kx.out hb12
  have ky := part_on Ky.out hb12
  have kp := part_on Kp.out hb12
  have kr := part_on Kr.out hb12
  clear Ka Kb Kc Kd Kx Ky Kp Kr hb12
  obtain ⟨ya0, ya1, ya2⟩ := part_at ka
  obtain ⟨yb0, yb1, yb2⟩ := part_at kb
  obtain ⟨yc0, yc1, yc2⟩ := part_at kc
  obtain ⟨yd0, yd1, yd2⟩ := part_at kd
  obtain ⟨yx0, yx1, yx2⟩ := part_at kx
  obtain ⟨yy0, yy1, yy2⟩ := part_at ky
  obtain ⟨yp0, yp1, yp2⟩ := part_at kp
  obtain ⟨yr0, yr1, yr2⟩ := part_at kr
  have Ka := Lib.hid ka
  have Kb := Lib.hid kb
  have Kc := Lib.hid kc
  have Kd := Lib.hid kd
  have Kx := Lib.hid kx
  have Ky := Lib.hid ky
  have Kp := Lib.hid kp
  have Kr := Lib.hid kr
  clear ka kb kc kd kx ky kp kr
  go_wp2_with fail
  clear ya0 ya1 ya2 yb0 yb1 yb2 yc0 yc1 yc2 yd0 yd1 yd2 yx0 yx1 yx2 yy0 yy1 yy2 yp0 yp1 yp2 yr0 yr1 yr2
  refine (C2.out w12 Hw12.out).mono ?_
  rintro e w13 ⟨rfl, hb13⟩
  have Hw13 := Lib.hid (Hw12.out.trans (hb13.mono Hw12.out.size))
  have ka := part_on Ka.out hb13
  have kb := part_on Kb.out hb13
  have kc := part_on Kc.out hb13
  have kd := part_on Kd.out hb13
  have kx := part_on Kx.out hb13
  have ky := part_on Ky.out hb13
  have kp := part_on Kp.out hb13
  have kr := part_on Kr.out hb13
  clear Ka Kb Kc Kd Kx Ky Kp Kr hb13
  obtain ⟨ya0, ya1, ya2⟩ := part_at ka
  obtain ⟨yb0, yb1, yb2⟩ := part_at kb
  obtain ⟨yc0, yc1, yc2⟩ := part_at kc
  obtain ⟨yd0, yd1, yd2⟩ := part_at kd
  obtain ⟨yx0, yx1, yx2⟩ := part_at kx
  obtain ⟨yy0, yy1, yy2⟩ := part_at ky
  obtain ⟨yp0, yp1, yp2⟩ := part_at kp
  obtain ⟨yr0, yr1, yr2⟩ := part_at kr
  have Ka := Lib.hid ka
  have Kb := Lib.hid kb
  have Kc := Lib.hid kc
  have Kd := Lib.hid kd
  have Kx := Lib.hid kx
  have Ky := Lib.hid ky
  have Kp := Lib.hid kp
  have Kr := Lib.hid kr
  clear ka kb kc kd kx ky kp kr
  go_wp2_with fail
  clear ya0 ya1 ya2 yb0 yb1 yb2 yc0 yc1 yc2 yd0 yd1 yd2 yx0 yx1 yx2 yy0 yy1 yy2 yp0 yp1 yp2 yr0 yr1 yr2
  refine (C4.out w13 Hw13.out).mono ?_
  rintro e w14 ⟨rfl, hb14⟩
  have Hw14 := Lib.hid (Hw13.out.trans (hb14.mono Hw13.out.size))
  have ka := part_on Ka.out hb14
  have kb := part_on Kb.out hb14
  have kc := part_on Kc.out hb14
  have kd := part_on Kd.out hb14
  have kx := part_on Kx.out hb14
  have ky := part_on Ky.out hb14
  have kp := part_on Kp.out hb14
  have kr := part_on Kr.out hb14
  clear Ka Kb Kc Kd Kx Ky Kp Kr hb14
  obtain ⟨ya0, ya1, ya2⟩ := part_at ka
  obtain ⟨yb0, yb1, yb2⟩ := part_at kb
  obtain ⟨yc0, yc1, yc2⟩ := part_at kc
  obtain ⟨yd0, yd1, yd2⟩ := part_at kd
  obtain ⟨yx0, yx1, yx2⟩ := part_at kx
  obtain ⟨yy0, yy1, yy2⟩ := part_at ky
  obtain ⟨yp0, yp1, yp2⟩ := part_at kp
  obtain ⟨yr0, yr1, yr2⟩ := part_at kr
  have Ka := Lib.hid ka
  have Kb := Lib.hid kb
  have Kc := Lib.hid kc
  have Kd := Lib.hid kd
  have Kx := Lib.hid kx
  have Ky := Lib.hid ky
  have Kp := Lib.hid kp
  have Kr := Lib.hid kr
  clear ka kb kc kd kx ky kp kr
  go_wp2_with fail
  clear ya0 ya1 ya2 yb0 yb1 yb2 yc0 yc1 yc2 yd0 yd1 yd2 yx0 yx1 yx2 yy0 yy1 yy2 yp0 yp1 yp2 yr0 yr1 yr2
  exact bodyPost_ret (v := .bool true) (by simp [results, hc0b, Tryz.results5, go_sem]) rfl ⟨rfl, Hw14.out⟩

set_option maxRecDepth 100000 in
set_option maxHeartbeats 8000000 in
theorem orders_gt_z (a1 a2 b1 b2 c1 c2 : ByteArray) (ha : okP (a1, a2) = true) (hb : okP (b1, b2) = true) (hc : okP (c1, c2) = true) (sa : shortP 60 (a1, a2) = true) (sb : shortP 60 (b1, b2) = true) (sc : shortP 60 (c1, c2) = true) (hn : (pv (b1, b2)).1 * (pv (a1, a2)).2 < (pv (a1, a2)).1 * (pv (b1, b2)).2) (hcz : c1 = zeroB) (w : World) (ht : Tens w) (h0 : 0 < w.heap.size) :
    Calls Tryz.prog 5 #[.agg #[.string a1, .string a2], .agg #[.string b1, .string b2], .agg #[.string c1, .string c2]] w fun e w' => e = .returned (.bool true) ∧ Below w.heap.size w w' := by
  have HT : ∀ W, Below w.heap.size w W → Tens W := fun W hW j hj => cell_later hW (ht j hj)
  have HAL : Hid (∀ W, Below w.heap.size w W → Calls Tryz.prog 20 #[] W fun e w' => e = .returned (.bool true) ∧ Below W.heap.size W w') := Lib.hid fun W hW => alive_any W (HT W hW) (by have := hW.size; omega)
  have sha : a1.size ≤ 60 ∧ a2.size ≤ 60 := by unfold shortP at sa; simpa using sa
  have shb : b1.size ≤ 60 ∧ b2.size ≤ 60 := by unfold shortP at sb; simpa using sb
  have shc : c1.size ≤ 60 ∧ c2.size ≤ 60 := by unfold shortP at sc; simpa using sc
  have mA := sm_of (k := 60) ha sha.1 sha.2
  have mB := sm_of (k := 60) hb shb.1 shb.2
  have mC := sm_of (k := 60) hc shc.1 shc.2
  have eA := pt_pv ha; have eB := pt_pv hb; have eC := pt_pv hc
  have hzz := num_zero hc
  have hcmp : cmpF (pv (a1, a2)) (pv (b1, b2)) = 1 := cmpF_gt hn
  have C1 := useCmp HT ha hb hcmp
  have C2 := useCmp (z := (-1)) HT hb ha (by rw [cmpF_swap, hcmp] <;> rfl)
  have heq : ¬ (a1, a2) = (b1, b2) := fun h => by rw [h] at hn; exact Nat.lt_irrefl _ hn
  obtain ⟨⟨d1, d2⟩, hsub⟩ : ∃ r, subS (a1, a2) (b1, b2) = (r, 0) := ⟨_, (subS_ok ha hb (by omega)).trans (res_sm (k := 120) (low_sm (Nat.mul_pos mA.fr.pos mB.fr.pos) (Nat.lt_of_le_of_lt (Nat.sub_le _ _) (by rw [show (120:Nat) = 60 + 60 from rfl, Nat.pow_add]; exact Nat.mul_lt_mul'' mA.n mB.d)) (by rw [show (120:Nat) = 60 + 60 from rfl, Nat.pow_add]; exact Nat.mul_lt_mul'' mA.d mB.d)) (by decide))⟩
  have Q2 := useSub HT hsub ha hb
  generalize hgA : pv (a1, a2) = A at *
  generalize hgB : pv (b1, b2) = B at *
  generalize hgC : pv (c1, c2) = C at *
  have m1 := mA.add mC (m := 121) rfl; have m2 := mB.add mC (m := 121) rfl; have m3 := mA.mul mC (m := 120) rfl; have m4 := mB.mul mC (m := 120) rfl
  have q3 := add_pt mA mC (by decide); have q4 := add_pt mB mC (by decide); have q5 := mul_pt mA mC (by decide); have q6 := mul_pt mB mC (by decide)
  have o1 := pt_ok m1 (by decide); have o2 := pt_ok m2 (by decide); have o3 := pt_ok m3 (by decide); have o4 := pt_ok m4 (by decide)
  have v1 := pv_pt (addF A C); have v2 := pv_pt (addF B C); have v3 := pv_pt (mulF A C); have v4 := pv_pt (mulF B C)
  rw [eA, eC] at q3 q5; rw [eB, eC] at q4 q6
  obtain ⟨⟨x1, x2⟩, hx⟩ : ∃ r, ptOf (addF A C) = r := ⟨_, rfl⟩
  obtain ⟨⟨y1, y2⟩, hy⟩ : ∃ r, ptOf (addF B C) = r := ⟨_, rfl⟩
  obtain ⟨⟨p1, p2⟩, hp⟩ : ∃ r, ptOf (mulF A C) = r := ⟨_, rfl⟩
  obtain ⟨⟨r1, r2⟩, hr⟩ : ∃ r, ptOf (mulF B C) = r := ⟨_, rfl⟩
  rw [hx] at q3 o1 v1; rw [hy] at q4 o2 v2; rw [hp] at q5 o3 v3; rw [hr] at q6 o4 v4
  have Q3 := useAdd HT q3 ha hc; have Q4 := useAdd HT q4 hb hc; have Q5 := useMul HT q5 ha hc; have Q6 := useMul HT q6 hb hc
  have C3 := useCmp (z := 0) HT o3 o4 (by rw [v3, v4]; exact cmpF_prod0 mA.fr mB.fr mC.fr (by rw [hzz]; exact hcz))
  have C4 := useCmp (z := 1) HT o1 o2 (by rw [v1, v2]; exact (cmpF_sum mA.fr mB.fr mC.fr).trans hcmp)
  have U1 := useChk HT ha; have U2 := useChk HT hb; have U3 := useChk HT hc
  have HSH := Lib.hid (And.intro sa (And.intro sb sc)); have HEQ := Lib.hid heq; have HCZ := Lib.hid hcz
  clear q3 q4 q5 q6 o1 o2 o3 o4 v1 v2 v3 v4 m1 m2 m3 m4 mA mB mC eA eB eC hx hy hp hr hsub hcmp hn heq hcz hzz sha shb shc sa sb sc HT ht ha hb hc hgA hgB hgC
  obtain ⟨V1, hV1⟩ : ∃ W, W = w.alloc (.cells #[.string a1, .string a2] 24) := ⟨_, rfl⟩
  obtain ⟨V2, hV2⟩ : ∃ W, W = V1.alloc (.cells #[.string b1, .string b2] 24) := ⟨_, rfl⟩
  obtain ⟨V3, hV3⟩ : ∃ W, W = V2.alloc (.cells #[.string c1, .string c2] 24) := ⟨_, rfl⟩
  have v01 : Below w.heap.size w V1 := by rw [hV1]; exact (Below.refl _ _).alloc (Nat.le_refl _) _
  have v12 : Below V1.heap.size V1 V2 := by rw [hV2]; exact (Below.refl _ _).alloc (Nat.le_refl _) _
  have v23 : Below V2.heap.size V2 V3 := by rw [hV3]; exact (Below.refl _ _).alloc (Nat.le_refl _) _
  have z1 : V1.heap.size = w.heap.size + 1 := by rw [hV1, World.size_alloc]
  have z2 : V2.heap.size = w.heap.size + 1 + 1 := by rw [hV2, World.size_alloc, z1]
  have ka : V3.heap[w.heap.size]? = some (partO a1 a2) := part_on (part_on (by rw [hV1]; exact Go.Deep.blk_alloc_new _ _) v12) v23
  have kb : V3.heap[w.heap.size + 1]? = some (partO b1 b2) := part_on (by rw [← z1, hV2]; exact Go.Deep.blk_alloc_new _ _) v23
  have kc : V3.heap[w.heap.size + 1 + 1]? = some (partO c1 c2) := by rw [← z2, hV3]; exact Go.Deep.blk_alloc_new _ _
  have HB := Lib.hid (v01.trans ((below_chain v12 v23).mono v01.size))
  have HV1 := Lib.hid hV1; have HV2 := Lib.hid hV2; have HV3 := Lib.hid hV3; have Ka := Lib.hid ka; have Kb := Lib.hid kb; have Kc := Lib.hid kc
  clear hV1 hV2 hV3 v01 v12 v23 z1 z2 ka kb kc
  go_enter Tryz.func5, Tryz.ntmps5
  go_wp2_with fail
  rw [← HV1.out, ← HV2.out, ← HV3.out]
  refine (HAL.out V3 HB.out).mono ?_
  rintro e w1 ⟨rfl, hb1⟩
  have Hw1 := Lib.hid (HB.out.trans (hb1.mono HB.out.size))
  have ka := part_on Ka.out hb1
  have kb := part_on Kb.out hb1
  have kc := part_on Kc.out hb1
  clear Ka Kb Kc hb1
  obtain ⟨ya0, ya1, ya2⟩ := part_at ka
  obtain ⟨yb0, yb1, yb2⟩ := part_at kb
  obtain ⟨yc0, yc1, yc2⟩ := part_at kc
  obtain ⟨W1, hW1⟩ : ∃ W, W = w1.alloc (.cells #[.string a1, .string a2, .string b1, .string b2, .string c1, .string c2] 24) := ⟨_, rfl⟩
  have bb : Below w1.heap.size w1 W1 := by rw [hW1]; exact (Below.refl _ _).alloc (Nat.le_refl _) _
  have Ka := Lib.hid (part_on ka bb)
  have Kb := Lib.hid (part_on kb bb)
  have Kc := Lib.hid (part_on kc bb)
  have HW1 := Lib.hid (Hw1.out.trans (bb.mono Hw1.out.size))
  have kk : W1.heap[w1.heap.size]? = some (.cells #[.string a1, .string a2, .string b1, .string b2, .string c1, .string c2] 24 (0, 0)) := by rw [hW1]; exact Go.Deep.blk_alloc_new _ _
  have KK := Lib.hid kk
  clear kk
  have HEW1 := Lib.hid hW1
  clear bb hW1 ka kb kc
  go_wp2_with fail
  rw [← HEW1.out]
  clear ya0 ya1 ya2 yb0 yb1 yb2 yc0 yc1 yc2
  have hsh := short_any 60 [(a1, a2), (b1, b2), (c1, c2)] (.slice (some ⟨w1.heap.size, 0, none⟩) 3 3) W1 (.inr ⟨w1.heap.size, 0, 3, rfl, by simp, by decide, (Array.getElem?_eq_some_iff.1 KK.out).1, fun i hi => by
    match i, hi with
    | 0, _ => exact ⟨by rw [set_cells KK.out]; rfl, by rw [set_cells KK.out]; rfl⟩
    | 1, _ => exact ⟨by rw [set_cells KK.out]; rfl, by rw [set_cells KK.out]; rfl⟩
    | 2, _ => exact ⟨by rw [set_cells KK.out]; rfl, by rw [set_cells KK.out]; rfl⟩⟩) (by simp) (by decide)
  have hall : [(a1, a2), (b1, b2), (c1, c2)].all (shortP 60) = true := by
    simp only [List.all_cons, List.all_nil, HSH.out.1, HSH.out.2.1, HSH.out.2.2, Bool.and_self]
  rw [hall] at hsh
  have HSHORT := Lib.hid hsh
  clear hsh hall KK
  refine (HSHORT.out).mono ?_
  rintro e w2 ⟨rfl, hb2⟩
  have Hw2 := Lib.hid (HW1.out.trans (hb2.mono HW1.out.size))
  have ka := part_on Ka.out hb2
  have kb := part_on Kb.out hb2
  have kc := part_on Kc.out hb2
  clear Ka Kb Kc hb2
  obtain ⟨ya0, ya1, ya2⟩ := part_at ka
  obtain ⟨yb0, yb1, yb2⟩ := part_at kb
  obtain ⟨yc0, yc1, yc2⟩ := part_at kc
  have Ka := Lib.hid ka
  have Kb := Lib.hid kb
  have Kc := Lib.hid kc
  clear ka kb kc
  go_wp2_with fail
  clear ya0 ya1 ya2 yb0 yb1 yb2 yc0 yc1 yc2
  refine (U1.out w2 Hw2.out).mono ?_
  rintro e w3 ⟨rfl, hb3⟩
  have Hw3 := Lib.hid (Hw2.out.trans (hb3.mono Hw2.out.size))
  have ka := part_on Ka.out hb3
  have kb := part_on Kb.out hb3
  have kc := part_on Kc.out hb3
  clear Ka Kb Kc hb3
  obtain ⟨ya0, ya1, ya2⟩ := part_at ka
  obtain ⟨yb0, yb1, yb2⟩ := part_at kb
  obtain ⟨yc0, yc1, yc2⟩ := part_at kc
  have Ka := Lib.hid ka
  have Kb := Lib.hid kb
  have Kc := Lib.hid kc
  clear ka kb kc
  go_wp2_with fail
  clear ya0 ya1 ya2 yb0 yb1 yb2 yc0 yc1 yc2
  refine (U2.out w3 Hw3.out).mono ?_
  rintro e w4 ⟨rfl, hb4⟩
  have Hw4 := Lib.hid (Hw3.out.trans (hb4.mono Hw3.out.size))
  have ka := part_on Ka.out hb4
  have kb := part_on Kb.out hb4
  have kc := part_on Kc.out hb4
  clear Ka Kb Kc hb4
  obtain ⟨ya0, ya1, ya2⟩ := part_at ka
  obtain ⟨yb0, yb1, yb2⟩ := part_at kb
  obtain ⟨yc0, yc1, yc2⟩ := part_at kc
  have Ka := Lib.hid ka
  have Kb := Lib.hid kb
  have Kc := Lib.hid kc
  clear ka kb kc
  go_wp2_with fail
  clear ya0 ya1 ya2 yb0 yb1 yb2 yc0 yc1 yc2
  refine (U3.out w4 Hw4.out).mono ?_
  rintro e w5 ⟨rfl, hb5⟩
  have Hw5 := Lib.hid (Hw4.out.trans (hb5.mono Hw4.out.size))
  have ka := part_on Ka.out hb5
  have kb := part_on Kb.out hb5
  have kc := part_on Kc.out hb5
  clear Ka Kb Kc hb5
  obtain ⟨ya0, ya1, ya2⟩ := part_at ka
  obtain ⟨yb0, yb1, yb2⟩ := part_at kb
  obtain ⟨yc0, yc1, yc2⟩ := part_at kc
  have Ka := Lib.hid ka
  have Kb := Lib.hid kb
  have Kc := Lib.hid kc
  clear ka kb kc
  go_wp2_with fail
  clear ya0 ya1 ya2 yb0 yb1 yb2 yc0 yc1 yc2
  refine (C1.out w5 Hw5.out).mono ?_
  rintro e w6 ⟨rfl, hb6⟩
  have Hw6 := Lib.hid (Hw5.out.trans (hb6.mono Hw5.out.size))
  have ka := part_on Ka.out hb6
  have kb := part_on Kb.out hb6
  have kc := part_on Kc.out hb6
  clear Ka Kb Kc hb6
  obtain ⟨ya0, ya1, ya2⟩ := part_at ka
  obtain ⟨yb0, yb1, yb2⟩ := part_at kb
  obtain ⟨yc0, yc1, yc2⟩ := part_at kc
  have Ka := Lib.hid ka
  have Kb := Lib.hid kb
  have Kc := Lib.hid kc
  clear ka kb kc
  go_wp2_with fail
  clear ya0 ya1 ya2 yb0 yb1 yb2 yc0 yc1 yc2
  refine (Q2.out w6 Hw6.out).mono ?_
  rintro e w7 ⟨rfl, hb7⟩
  have Hw7 := Lib.hid (Hw6.out.trans (hb7.mono Hw6.out.size))
  have ka := part_on Ka.out hb7
  have kb := part_on Kb.out hb7
  have kc := part_on Kc.out hb7
  clear Ka Kb Kc hb7
  obtain ⟨ya0, ya1, ya2⟩ := part_at ka
  obtain ⟨yb0, yb1, yb2⟩ := part_at kb
  obtain ⟨yc0, yc1, yc2⟩ := part_at kc
  obtain ⟨W7, hW7⟩ : ∃ W, W = w7.alloc (.cells #[.string d1, .string d2] 24) := ⟨_, rfl⟩
  have bb : Below w7.heap.size w7 W7 := by rw [hW7]; exact (Below.refl _ _).alloc (Nat.le_refl _) _
  have Ka := Lib.hid (part_on ka bb)
  have Kb := Lib.hid (part_on kb bb)
  have Kc := Lib.hid (part_on kc bb)
  have HW7 := Lib.hid (Hw7.out.trans (bb.mono Hw7.out.size))
  have Kd : Hid (W7.heap[w7.heap.size]? = some (partO d1 d2)) := Lib.hid (by rw [hW7]; exact Go.Deep.blk_alloc_new _ _)
  have HEW7 := Lib.hid hW7
  clear bb hW7 ka kb kc
  go_wp2_with fail
  rw [← HEW7.out]
  clear ya0 ya1 ya2 yb0 yb1 yb2 yc0 yc1 yc2
  refine (Q3.out W7 HW7.out).mono ?_
  rintro e w8 ⟨rfl, hb8⟩
  have Hw8 := Lib.hid (HW7.out.trans (hb8.mono HW7.out.size))
  have ka := part_on Ka.out hb8
  have kb := part_on Kb.out hb8
  have kc := part_on Kc.out hb8
  have kd := part_on Kd.out hb8
  clear Ka Kb Kc Kd hb8
  obtain ⟨ya0, ya1, ya2⟩ := part_at ka
  obtain ⟨yb0, yb1, yb2⟩ := part_at kb
  obtain ⟨yc0, yc1, yc2⟩ := part_at kc
  obtain ⟨yd0, yd1, yd2⟩ := part_at kd
  obtain ⟨W8, hW8⟩ : ∃ W, W = w8.alloc (.cells #[.string x1, .string x2] 24) := ⟨_, rfl⟩
  have bb : Below w8.heap.size w8 W8 := by rw [hW8]; exact (Below.refl _ _).alloc (Nat.le_refl _) _
  have Ka := Lib.hid (part_on ka bb)
  have Kb := Lib.hid (part_on kb bb)
  have Kc := Lib.hid (part_on kc bb)
  have Kd := Lib.hid (part_on kd bb)
  have HW8 := Lib.hid (Hw8.out.trans (bb.mono Hw8.out.size))
  have Kx : Hid (W8.heap[w8.heap.size]? = some (partO x1 x2)) := Lib.hid (by rw [hW8]; exact Go.Deep.blk_alloc_new _ _)
  have HEW8 := Lib.hid hW8
  clear bb hW8 ka kb kc kd
  go_wp2_with fail
  rw [← HEW8.out]
  clear ya0 ya1 ya2 yb0 yb1 yb2 yc0 yc1 yc2 yd0 yd1 yd2
  refine (Q4.out W8 HW8.out).mono ?_
  rintro e w9 ⟨rfl, hb9⟩
  have Hw9 := Lib.hid (HW8.out.trans (hb9.mono HW8.out.size))
  have ka := part_on Ka.out hb9
  have kb := part_on Kb.out hb9
  have kc := part_on Kc.out hb9
  have kd := part_on Kd.out hb9
  have kx := part_on Kx.out hb9
  clear Ka Kb Kc Kd Kx hb9
  obtain ⟨ya0, ya1, ya2⟩ := part_at ka
  obtain ⟨yb0, yb1, yb2⟩ := part_at kb
  obtain ⟨yc0, yc1, yc2⟩ := part_at kc
  obtain ⟨yd0, yd1, yd2⟩ := part_at kd
  obtain ⟨yx0, yx1, yx2⟩ := part_at kx
  obtain ⟨W9, hW9⟩ : ∃ W, W = w9.alloc (.cells #[.string y1, .string y2] 24) := ⟨_, rfl⟩
  have bb : Below w9.heap.size w9 W9 := by rw [hW9]; exact (Below.refl _ _).alloc (Nat.le_refl _) _
  have Ka := Lib.hid (part_on ka bb)
  have Kb := Lib.hid (part_on kb bb)
  have Kc := Lib.hid (part_on kc bb)
  have Kd := Lib.hid (part_on kd bb)
  have Kx := Lib.hid (part_on kx bb)
  have HW9 := Lib.hid (Hw9.out.trans (bb.mono Hw9.out.size))
  have Ky : Hid (W9.heap[w9.heap.size]? = some (partO y1 y2)) := Lib.hid (by rw [hW9]; exact Go.Deep.blk_alloc_new _ _)
  have HEW9 := Lib.hid hW9
  clear bb hW9 ka kb kc kd kx
  go_wp2_with fail
  rw [← HEW9.out]
  clear ya0 ya1 ya2 yb0 yb1 yb2 yc0 yc1 yc2 yd0 yd1 yd2 yx0 yx1 yx2
  refine (Q5.out W9 HW9.out).mono ?_
  rintro e w10 ⟨rfl, hb10⟩
  have Hw10 := Lib.hid (HW9.out.trans (hb10.mono HW9.out.size))
  have ka := part_on Ka.out hb10
  have kb := part_on Kb.out hb10
  have kc := part_on Kc.out hb10
  have kd := part_on Kd.out hb10
  have kx := part_on Kx.out hb10
  have ky := part_on Ky.out hb10
  clear Ka Kb Kc Kd Kx Ky hb10
  obtain ⟨ya0, ya1, ya2⟩ := part_at ka
  obtain ⟨yb0, yb1, yb2⟩ := part_at kb
  obtain ⟨yc0, yc1, yc2⟩ := part_at kc
  obtain ⟨yd0, yd1, yd2⟩ := part_at kd
  obtain ⟨yx0, yx1, yx2⟩ := part_at kx
  obtain ⟨yy0, yy1, yy2⟩ := part_at ky
  obtain ⟨W10, hW10⟩ : ∃ W, W = w10.alloc (.cells #[.string p1, .string p2] 24) := ⟨_, rfl⟩
  have bb : Below w10.heap.size w10 W10 := by rw [hW10]; exact (Below.refl _ _).alloc (Nat.le_refl _) _
  have Ka := Lib.hid (part_on ka bb)
  have Kb := Lib.hid (part_on kb bb)
  have Kc := Lib.hid (part_on kc bb)
  have Kd := Lib.hid (part_on kd bb)
  have Kx := Lib.hid (part_on kx bb)
  have Ky := Lib.hid (part_on ky bb)
  have HW10 := Lib.hid (Hw10.out.trans (bb.mono Hw10.out.size))
  have Kp : Hid (W10.heap[w10.heap.size]? = some (partO p1 p2)) := Lib.hid (by rw [hW10]; exact Go.Deep.blk_alloc_new _ _)
  have HEW10 := Lib.hid hW10
  clear bb hW10 ka kb kc kd kx ky
  go_wp2_with fail
  rw [← HEW10.out]
  clear ya0 ya1 ya2 yb0 yb1 yb2 yc0 yc1 yc2 yd0 yd1 yd2 yx0 yx1 yx2 yy0 yy1 yy2
  refine (Q6.out W10 HW10.out).mono ?_
  rintro e w11 ⟨rfl, hb11⟩
  have Hw11 := Lib.hid (HW10.out.trans (hb11.mono HW10.out.size))
  have ka := part_on Ka.out hb11
  have kb := part_on Kb.out hb11
  have kc := part_on Kc.out hb11
  have kd := part_on Kd.out hb11
  have kx := part_on Kx.out hb11
  have ky := part_on Ky.out hb11
  have kp := part_on Kp.out hb11
  clear Ka Kb Kc Kd Kx Ky Kp hb11
  obtain ⟨ya0, ya1, ya2⟩ := part_at ka
  obtain ⟨yb0, yb1, yb2⟩ := part_at kb
  obtain ⟨yc0, yc1, yc2⟩ := part_at kc
  obtain ⟨yd0, yd1, yd2⟩ := part_at kd
  obtain ⟨yx0, yx1, yx2⟩ := part_at kx
  obtain ⟨yy0, yy1, yy2⟩ := part_at ky
  obtain ⟨yp0, yp1, yp2⟩ := part_at kp
  obtain ⟨W11, hW11⟩ : ∃ W, W = w11.alloc (.cells #[.string r1, .string r2] 24) := ⟨_, rfl⟩
  have bb : Below w11.heap.size w11 W11 := by rw [hW11]; exact (Below.refl _ _).alloc (Nat.le_refl _) _
  have Ka := Lib.hid (part_on ka bb)
  have Kb := Lib.hid (part_on kb bb)
  have Kc := Lib.hid (part_on kc bb)
  have Kd := Lib.hid (part_on kd bb)
  have Kx := Lib.hid (part_on kx bb)
  have Ky := Lib.hid (part_on ky bb)
  have Kp := Lib.hid (part_on kp bb)
  have HW11 := Lib.hid (Hw11.out.trans (bb.mono Hw11.out.size))
  have Kr : Hid (W11.heap[w11.heap.size]? = some (partO r1 r2)) := Lib.hid (by rw [hW11]; exact Go.Deep.blk_alloc_new _ _)
  have HEW11 := Lib.hid hW11
  clear bb hW11 ka kb kc kd kx ky kp
  go_wp2_with fail
  rw [← HEW11.out]
  clear ya0 ya1 ya2 yb0 yb1 yb2 yc0 yc1 yc2 yd0 yd1 yd2 yx0 yx1 yx2 yy0 yy1 yy2 yp0 yp1 yp2
  have hc0 : c1 = ⟨#[48]⟩ := HCZ.out
  subst hc0
  refine (C3.out W11 HW11.out).mono ?_
  rintro e w12 ⟨rfl, hb12⟩
  have Hw12 := Lib.hid (HW11.out.trans (hb12.mono HW11.out.size))
  have ka := part_on Ka.out hb12
  have kb := part_on Kb.out hb12
  have kc := part_on Kc.out hb12
  have kd := part_on Kd.out hb12
  have kx := part_on Kx.out hb12
  have ky := part_on Ky.out hb12
  have kp := part_on Kp.out hb12
  have kr := part_on Kr.out hb12
  clear Ka Kb Kc Kd Kx Ky Kp Kr hb12
  obtain ⟨ya0, ya1, ya2⟩ := part_at ka
  obtain ⟨yb0, yb1, yb2⟩ := part_at kb
  obtain ⟨yc0, yc1, yc2⟩ := part_at kc
  obtain ⟨yd0, yd1, yd2⟩ := part_at kd
  obtain ⟨yx0, yx1, yx2⟩ := part_at kx
  obtain ⟨yy0, yy1, yy2⟩ := part_at ky
  obtain ⟨yp0, yp1, yp2⟩ := part_at kp
  obtain ⟨yr0, yr1, yr2⟩ := part_at kr
  have Ka := Lib.hid ka
  have Kb := Lib.hid kb
  have Kc := Lib.hid kc
  have Kd := Lib.hid kd
  have Kx := Lib.hid kx
  have Ky := Lib.hid ky
  have Kp := Lib.hid kp
  have Kr := Lib.hid kr
  clear ka kb kc kd kx ky kp kr
  go_wp2_with fail
  clear ya0 ya1 ya2 yb0 yb1 yb2 yc0 yc1 yc2 yd0 yd1 yd2 yx0 yx1 yx2 yy0 yy1 yy2 yp0 yp1 yp2 yr0 yr1 yr2
  by_cases e1 : a1 = b1
  · have e2 : ¬ a2 = b2 := fun h => HEQ.out (Prod.ext e1 h)
    subst e1
    have e2l : ¬ a2.toList = b2.toList := fun h => e2 (list_inj h)
    refine (C2.out w12 Hw12.out).mono ?_
    rintro e w13 ⟨rfl, hb13⟩
    have Hw13 := Lib.hid (Hw12.out.trans (hb13.mono Hw12.out.size))
    have ka := part_on Ka.out hb13
    have kb := part_on Kb.out hb13
    have kc := part_on Kc.out hb13
    have kd := part_on Kd.out hb13
    have kx := part_on Kx.out hb13
    have ky := part_on Ky.out hb13
    have kp := part_on Kp.out hb13
    have kr := part_on Kr.out hb13
    clear Ka Kb Kc Kd Kx Ky Kp Kr hb13
    obtain ⟨ya0, ya1, ya2⟩ := part_at ka
    obtain ⟨yb0, yb1, yb2⟩ := part_at kb
    obtain ⟨yc0, yc1, yc2⟩ := part_at kc
    obtain ⟨yd0, yd1, yd2⟩ := part_at kd
    obtain ⟨yx0, yx1, yx2⟩ := part_at kx
    obtain ⟨yy0, yy1, yy2⟩ := part_at ky
    obtain ⟨yp0, yp1, yp2⟩ := part_at kp
    obtain ⟨yr0, yr1, yr2⟩ := part_at kr
    have Ka := Lib.hid ka
    have Kb := Lib.hid kb
    have Kc := Lib.hid kc
    have Kd := Lib.hid kd
    have Kx := Lib.hid kx
    have Ky := Lib.hid ky
    have Kp := Lib.hid kp
    have Kr := Lib.hid kr
    clear ka kb kc kd kx ky kp kr
    go_wp2_with fail
    clear ya0 ya1 ya2 yb0 yb1 yb2 yc0 yc1 yc2 yd0 yd1 yd2 yx0 yx1 yx2 yy0 yy1 yy2 yp0 yp1 yp2 yr0 yr1 yr2
    refine (C4.out w13 Hw13.out).mono ?_
    rintro e w14 ⟨rfl, hb14⟩
    have Hw14 := Lib.hid (Hw13.out.trans (hb14.mono Hw13.out.size))
    have ka := part_on Ka.out hb14
    have kb := part_on Kb.out hb14
    have kc := part_on Kc.out hb14
    have kd := part_on Kd.out hb14
    have kx := part_on Kx.out hb14
    have ky := part_on Ky.out hb14
    have kp := part_on Kp.out hb14
    have kr := part_on Kr.out hb14
    clear Ka Kb Kc Kd Kx Ky Kp Kr hb14
    obtain ⟨ya0, ya1, ya2⟩ := part_at ka
    obtain ⟨yb0, yb1, yb2⟩ := part_at kb
    obtain ⟨yc0, yc1, yc2⟩ := part_at kc
    obtain ⟨yd0, yd1, yd2⟩ := part_at kd
    obtain ⟨yx0, yx1, yx2⟩ := part_at kx
    obtain ⟨yy0, yy1, yy2⟩ := part_at ky
    obtain ⟨yp0, yp1, yp2⟩ := part_at kp
    obtain ⟨yr0, yr1, yr2⟩ := part_at kr
    have Ka := Lib.hid ka
    have Kb := Lib.hid kb
    have Kc := Lib.hid kc
    have Kd := Lib.hid kd
    have Kx := Lib.hid kx
    have Ky := Lib.hid ky
    have Kp := Lib.hid kp
    have Kr := Lib.hid kr
    clear ka kb kc kd kx ky kp kr
    go_wp2_with fail
    clear ya0 ya1 ya2 yb0 yb1 yb2 yc0 yc1 yc2 yd0 yd1 yd2 yx0 yx1 yx2 yy0 yy1 yy2 yp0 yp1 yp2 yr0 yr1 yr2
    exact bodyPost_ret (v := .bool true) (by simp [results, Tryz.results5, go_sem]) rfl ⟨rfl, Hw14.out⟩
  · have e3 : ¬ b1 = a1 := fun h => e1 h.symm
    have e2l : ¬ a1.toList = b1.toList := fun h => e1 (list_inj h)
    refine (C2.out w12 Hw12.out).mono ?_
    rintro e w13 ⟨rfl, hb13⟩
    have Hw13 := Lib.hid (Hw12.out.trans (hb13.mono Hw12.out.size))
    have ka := part_on Ka.out hb13
    have kb := part_on Kb.out hb13
    have kc := part_on Kc.out hb13
    have kd := part_on Kd.out hb13
    have kx := part_on Kx.out hb13
    have ky := part_on Ky.out hb13
    have kp := part_on Kp.out hb13
    have kr := part_on Kr.out hb13
    clear Ka Kb Kc Kd Kx Ky Kp Kr hb13
    obtain ⟨ya0, ya1, ya2⟩ := part_at ka
    obtain ⟨yb0, yb1, yb2⟩ := part_at kb
    obtain ⟨yc0, yc1, yc2⟩ := part_at kc
    obtain ⟨yd0, yd1, yd2⟩ := part_at kd
    obtain ⟨yx0, yx1, yx2⟩ := part_at kx
    obtain ⟨yy0, yy1, yy2⟩ := part_at ky
    obtain ⟨yp0, yp1, yp2⟩ := part_at kp
    obtain ⟨yr0, yr1, yr2⟩ := part_at kr
    have Ka := Lib.hid ka
    have Kb := Lib.hid kb
    have Kc := Lib.hid kc
    have Kd := Lib.hid kd
    have Kx := Lib.hid kx
    have Ky := Lib.hid ky
    have Kp := Lib.hid kp
    have Kr := Lib.hid kr
    clear ka kb kc kd kx ky kp kr
    go_wp2_with fail
    clear ya0 ya1 ya2 yb0 yb1 yb2 yc0 yc1 yc2 yd0 yd1 yd2 yx0 yx1 yx2 yy0 yy1 yy2 yp0 yp1 yp2 yr0 yr1 yr2
    refine (C4.out w13 Hw13.out).mono ?_
    rintro e w14 ⟨rfl, hb14⟩
    have Hw14 := Lib.hid (Hw13.out.trans (hb14.mono Hw13.out.size))
    have ka := part_on Ka.out hb14
    have kb := part_on Kb.out hb14
    have kc := part_on Kc.out hb14
    have kd := part_on Kd.out hb14
    have kx := part_on Kx.out hb14
    have ky := part_on Ky.out hb14
    have kp := part_on Kp.out hb14
    have kr := part_on Kr.out hb14
    clear Ka Kb Kc Kd Kx Ky Kp Kr hb14
    obtain ⟨ya0, ya1, ya2⟩ := part_at ka
    obtain ⟨yb0, yb1, yb2⟩ := part_at kb
    obtain ⟨yc0, yc1, yc2⟩ := part_at kc
    obtain ⟨yd0, yd1, yd2⟩ := part_at kd
    obtain ⟨yx0, yx1, yx2⟩ := part_at kx
    obtain ⟨yy0, yy1, yy2⟩ := part_at ky
    obtain ⟨yp0, yp1, yp2⟩ := part_at kp
    obtain ⟨yr0, yr1, yr2⟩ := part_at kr
    have Ka := Lib.hid ka
    have Kb := Lib.hid kb
    have Kc := Lib.hid kc
    have Kd := Lib.hid kd
    have Kx := Lib.hid kx
    have Ky := Lib.hid ky
    have Kp := Lib.hid kp
    have Kr := Lib.hid kr
    clear ka kb kc kd kx ky kp kr
    go_wp2_with fail
    clear ya0 ya1 ya2 yb0 yb1 yb2 yc0 yc1 yc2 yd0 yd1 yd2 yx0 yx1 yx2 yy0 yy1 yy2 yp0 yp1 yp2 yr0 yr1 yr2
    exact bodyPost_ret (v := .bool true) (by simp [results, Tryz.results5, go_sem]) rfl ⟨rfl, Hw14.out⟩

set_option maxRecDepth 100000 in
set_option maxHeartbeats 8000000 in
theorem orders_gt_p (a1 a2 b1 b2 c1 c2 : ByteArray) (ha : okP (a1, a2) = true) (hb : okP (b1, b2) = true) (hc : okP (c1, c2) = true) (sa : shortP 60 (a1, a2) = true) (sb : shortP 60 (b1, b2) = true) (sc : shortP 60 (c1, c2) = true) (hn : (pv (b1, b2)).1 * (pv (a1, a2)).2 < (pv (a1, a2)).1 * (pv (b1, b2)).2) (hcz : ¬ c1 = zeroB) (w : World) (ht : Tens w) (h0 : 0 < w.heap.size) :
    Calls Tryz.prog 5 #[.agg #[.string a1, .string a2], .agg #[.string b1, .string b2], .agg #[.string c1, .string c2]] w fun e w' => e = .returned (.bool true) ∧ Below w.heap.size w w' := by
  have HT : ∀ W, Below w.heap.size w W → Tens W := fun W hW j hj => cell_later hW (ht j hj)
  have HAL : Hid (∀ W, Below w.heap.size w W → Calls Tryz.prog 20 #[] W fun e w' => e = .returned (.bool true) ∧ Below W.heap.size W w') := Lib.hid fun W hW => alive_any W (HT W hW) (by have := hW.size; omega)
  have sha : a1.size ≤ 60 ∧ a2.size ≤ 60 := by unfold shortP at sa; simpa using sa
  have shb : b1.size ≤ 60 ∧ b2.size ≤ 60 := by unfold shortP at sb; simpa using sb
  have shc : c1.size ≤ 60 ∧ c2.size ≤ 60 := by unfold shortP at sc; simpa using sc
  have mA := sm_of (k := 60) ha sha.1 sha.2
  have mB := sm_of (k := 60) hb shb.1 shb.2
  have mC := sm_of (k := 60) hc shc.1 shc.2
  have eA := pt_pv ha; have eB := pt_pv hb; have eC := pt_pv hc
  have hzz := num_zero hc
  have hcmp : cmpF (pv (a1, a2)) (pv (b1, b2)) = 1 := cmpF_gt hn
  have C1 := useCmp HT ha hb hcmp
  have C2 := useCmp (z := (-1)) HT hb ha (by rw [cmpF_swap, hcmp] <;> rfl)
  have heq : ¬ (a1, a2) = (b1, b2) := fun h => by rw [h] at hn; exact Nat.lt_irrefl _ hn
  obtain ⟨⟨d1, d2⟩, hsub⟩ : ∃ r, subS (a1, a2) (b1, b2) = (r, 0) := ⟨_, (subS_ok ha hb (by omega)).trans (res_sm (k := 120) (low_sm (Nat.mul_pos mA.fr.pos mB.fr.pos) (Nat.lt_of_le_of_lt (Nat.sub_le _ _) (by rw [show (120:Nat) = 60 + 60 from rfl, Nat.pow_add]; exact Nat.mul_lt_mul'' mA.n mB.d)) (by rw [show (120:Nat) = 60 + 60 from rfl, Nat.pow_add]; exact Nat.mul_lt_mul'' mA.d mB.d)) (by decide))⟩
  have Q2 := useSub HT hsub ha hb
  generalize hgA : pv (a1, a2) = A at *
  generalize hgB : pv (b1, b2) = B at *
  generalize hgC : pv (c1, c2) = C at *
  have m1 := mA.add mC (m := 121) rfl; have m2 := mB.add mC (m := 121) rfl; have m3 := mA.mul mC (m := 120) rfl; have m4 := mB.mul mC (m := 120) rfl
  have q3 := add_pt mA mC (by decide); have q4 := add_pt mB mC (by decide); have q5 := mul_pt mA mC (by decide); have q6 := mul_pt mB mC (by decide)
  have o1 := pt_ok m1 (by decide); have o2 := pt_ok m2 (by decide); have o3 := pt_ok m3 (by decide); have o4 := pt_ok m4 (by decide)
  have v1 := pv_pt (addF A C); have v2 := pv_pt (addF B C); have v3 := pv_pt (mulF A C); have v4 := pv_pt (mulF B C)
  rw [eA, eC] at q3 q5; rw [eB, eC] at q4 q6
  obtain ⟨⟨x1, x2⟩, hx⟩ : ∃ r, ptOf (addF A C) = r := ⟨_, rfl⟩
  obtain ⟨⟨y1, y2⟩, hy⟩ : ∃ r, ptOf (addF B C) = r := ⟨_, rfl⟩
  obtain ⟨⟨p1, p2⟩, hp⟩ : ∃ r, ptOf (mulF A C) = r := ⟨_, rfl⟩
  obtain ⟨⟨r1, r2⟩, hr⟩ : ∃ r, ptOf (mulF B C) = r := ⟨_, rfl⟩
  rw [hx] at q3 o1 v1; rw [hy] at q4 o2 v2; rw [hp] at q5 o3 v3; rw [hr] at q6 o4 v4
  have Q3 := useAdd HT q3 ha hc; have Q4 := useAdd HT q4 hb hc; have Q5 := useMul HT q5 ha hc; have Q6 := useMul HT q6 hb hc
  have C3 := useCmp (z := 1) HT o3 o4 (by rw [v3, v4]; exact (cmpF_prod mA.fr mB.fr mC.fr (Nat.pos_of_ne_zero (by rw [Ne, hzz]; exact hcz))).trans hcmp)
  have C4 := useCmp (z := 1) HT o1 o2 (by rw [v1, v2]; exact (cmpF_sum mA.fr mB.fr mC.fr).trans hcmp)
  have U1 := useChk HT ha; have U2 := useChk HT hb; have U3 := useChk HT hc
  have HSH := Lib.hid (And.intro sa (And.intro sb sc)); have HEQ := Lib.hid heq; have HCZ := Lib.hid hcz
  clear q3 q4 q5 q6 o1 o2 o3 o4 v1 v2 v3 v4 m1 m2 m3 m4 mA mB mC eA eB eC hx hy hp hr hsub hcmp hn heq hcz hzz sha shb shc sa sb sc HT ht ha hb hc hgA hgB hgC
  obtain ⟨V1, hV1⟩ : ∃ W, W = w.alloc (.cells #[.string a1, .string a2] 24) := ⟨_, rfl⟩
  obtain ⟨V2, hV2⟩ : ∃ W, W = V1.alloc (.cells #[.string b1, .string b2] 24) := ⟨_, rfl⟩
  obtain ⟨V3, hV3⟩ : ∃ W, W = V2.alloc (.cells #[.string c1, .string c2] 24) := ⟨_, rfl⟩
  have v01 : Below w.heap.size w V1 := by rw [hV1]; exact (Below.refl _ _).alloc (Nat.le_refl _) _
  have v12 : Below V1.heap.size V1 V2 := by rw [hV2]; exact (Below.refl _ _).alloc (Nat.le_refl _) _
  have v23 : Below V2.heap.size V2 V3 := by rw [hV3]; exact (Below.refl _ _).alloc (Nat.le_refl _) _
  have z1 : V1.heap.size = w.heap.size + 1 := by rw [hV1, World.size_alloc]
  have z2 : V2.heap.size = w.heap.size + 1 + 1 := by rw [hV2, World.size_alloc, z1]
  have ka : V3.heap[w.heap.size]? = some (partO a1 a2) := part_on (part_on (by rw [hV1]; exact Go.Deep.blk_alloc_new _ _) v12) v23
  have kb : V3.heap[w.heap.size + 1]? = some (partO b1 b2) := part_on (by rw [← z1, hV2]; exact Go.Deep.blk_alloc_new _ _) v23
  have kc : V3.heap[w.heap.size + 1 + 1]? = some (partO c1 c2) := by rw [← z2, hV3]; exact Go.Deep.blk_alloc_new _ _
  have HB := Lib.hid (v01.trans ((below_chain v12 v23).mono v01.size))
  have HV1 := Lib.hid hV1; have HV2 := Lib.hid hV2; have HV3 := Lib.hid hV3; have Ka := Lib.hid ka; have Kb := Lib.hid kb; have Kc := Lib.hid kc
  clear hV1 hV2 hV3 v01 v12 v23 z1 z2 ka kb kc
  go_enter Tryz.func5, Tryz.ntmps5
  go_wp2_with fail
  rw [← HV1.out, ← HV2.out, ← HV3.out]
  refine (HAL.out V3 HB.out).mono ?_
  rintro e w1 ⟨rfl, hb1⟩
  have Hw1 := Lib.hid (HB.out.trans (hb1.mono HB.out.size))
  have ka := part_on Ka.out hb1
  have kb := part_on Kb.out hb1
  have kc := part_on Kc.out hb1
  clear Ka Kb Kc hb1
  obtain ⟨ya0, ya1, ya2⟩ := part_at ka
  obtain ⟨yb0, yb1, yb2⟩ := part_at kb
  obtain ⟨yc0, yc1, yc2⟩ := part_at kc
  obtain ⟨W1, hW1⟩ : ∃ W, W = w1.alloc (.cells #[.string a1, .string a2, .string b1, .string b2, .string c1, .string c2] 24) := ⟨_, rfl⟩
  have bb : Below w1.heap.size w1 W1 := by rw [hW1]; exact (Below.refl _ _).alloc (Nat.le_refl _) _
  have Ka := Lib.hid (part_on ka bb)
  have Kb := Lib.hid (part_on kb bb)
  have Kc := Lib.hid (part_on kc bb)
  have HW1 := Lib.hid (Hw1.out.trans (bb.mono Hw1.out.size))
  have kk : W1.heap[w1.heap.size]? = some (.cells #[.string a1, .string a2, .string b1, .string b2, .string c1, .string c2] 24 (0, 0)) := by rw [hW1]; exact Go.Deep.blk_alloc_new _ _
  have KK := Lib.hid kk
  clear kk
  have HEW1 := Lib.hid hW1
  clear bb hW1 ka kb kc
  go_wp2_with fail
  rw [← HEW1.out]
  clear ya0 ya1 ya2 yb0 yb1 yb2 yc0 yc1 yc2
  have hsh := short_any 60 [(a1, a2), (b1, b2), (c1, c2)] (.slice (some ⟨w1.heap.size, 0, none⟩) 3 3) W1 (.inr ⟨w1.heap.size, 0, 3, rfl, by simp, by decide, (Array.getElem?_eq_some_iff.1 KK.out).1, fun i hi => by
    match i, hi with
    | 0, _ => exact ⟨by rw [set_cells KK.out]; rfl, by rw [set_cells KK.out]; rfl⟩
    | 1, _ => exact ⟨by rw [set_cells KK.out]; rfl, by rw [set_cells KK.out]; rfl⟩
    | 2, _ => exact ⟨by rw [set_cells KK.out]; rfl, by rw [set_cells KK.out]; rfl⟩⟩) (by simp) (by decide)
  have hall : [(a1, a2), (b1, b2), (c1, c2)].all (shortP 60) = true := by
    simp only [List.all_cons, List.all_nil, HSH.out.1, HSH.out.2.1, HSH.out.2.2, Bool.and_self]
  rw [hall] at hsh
  have HSHORT := Lib.hid hsh
  clear hsh hall KK
  refine (HSHORT.out).mono ?_
  rintro e w2 ⟨rfl, hb2⟩
  have Hw2 := Lib.hid (HW1.out.trans (hb2.mono HW1.out.size))
  have ka := part_on Ka.out hb2
  have kb := part_on Kb.out hb2
  have kc := part_on Kc.out hb2
  clear Ka Kb Kc hb2
  obtain ⟨ya0, ya1, ya2⟩ := part_at ka
  obtain ⟨yb0, yb1, yb2⟩ := part_at kb
  obtain ⟨yc0, yc1, yc2⟩ := part_at kc
  have Ka := Lib.hid ka
  have Kb := Lib.hid kb
  have Kc := Lib.hid kc
  clear ka kb kc
  go_wp2_with fail
  clear ya0 ya1 ya2 yb0 yb1 yb2 yc0 yc1 yc2
  refine (U1.out w2 Hw2.out).mono ?_
  rintro e w3 ⟨rfl, hb3⟩
  have Hw3 := Lib.hid (Hw2.out.trans (hb3.mono Hw2.out.size))
  have ka := part_on Ka.out hb3
  have kb := part_on Kb.out hb3
  have kc := part_on Kc.out hb3
  clear Ka Kb Kc hb3
  obtain ⟨ya0, ya1, ya2⟩ := part_at ka
  obtain ⟨yb0, yb1, yb2⟩ := part_at kb
  obtain ⟨yc0, yc1, yc2⟩ := part_at kc
  have Ka := Lib.hid ka
  have Kb := Lib.hid kb
  have Kc := Lib.hid kc
  clear ka kb kc
  go_wp2_with fail
  clear ya0 ya1 ya2 yb0 yb1 yb2 yc0 yc1 yc2
  refine (U2.out w3 Hw3.out).mono ?_
  rintro e w4 ⟨rfl, hb4⟩
  have Hw4 := Lib.hid (Hw3.out.trans (hb4.mono Hw3.out.size))
  have ka := part_on Ka.out hb4
  have kb := part_on Kb.out hb4
  have kc := part_on Kc.out hb4
  clear Ka Kb Kc hb4
  obtain ⟨ya0, ya1, ya2⟩ := part_at ka
  obtain ⟨yb0, yb1, yb2⟩ := part_at kb
  obtain ⟨yc0, yc1, yc2⟩ := part_at kc
  have Ka := Lib.hid ka
  have Kb := Lib.hid kb
  have Kc := Lib.hid kc
  clear ka kb kc
  go_wp2_with fail
  clear ya0 ya1 ya2 yb0 yb1 yb2 yc0 yc1 yc2
  refine (U3.out w4 Hw4.out).mono ?_
  rintro e w5 ⟨rfl, hb5⟩
  have Hw5 := Lib.hid (Hw4.out.trans (hb5.mono Hw4.out.size))
  have ka := part_on Ka.out hb5
  have kb := part_on Kb.out hb5
  have kc := part_on Kc.out hb5
  clear Ka Kb Kc hb5
  obtain ⟨ya0, ya1, ya2⟩ := part_at ka
  obtain ⟨yb0, yb1, yb2⟩ := part_at kb
  obtain ⟨yc0, yc1, yc2⟩ := part_at kc
  have Ka := Lib.hid ka
  have Kb := Lib.hid kb
  have Kc := Lib.hid kc
  clear ka kb kc
  go_wp2_with fail
  clear ya0 ya1 ya2 yb0 yb1 yb2 yc0 yc1 yc2
  refine (C1.out w5 Hw5.out).mono ?_
  rintro e w6 ⟨rfl, hb6⟩
  have Hw6 := Lib.hid (Hw5.out.trans (hb6.mono Hw5.out.size))
  have ka := part_on Ka.out hb6
  have kb := part_on Kb.out hb6
  have kc := part_on Kc.out hb6
  clear Ka Kb Kc hb6
  obtain ⟨ya0, ya1, ya2⟩ := part_at ka
  obtain ⟨yb0, yb1, yb2⟩ := part_at kb
  obtain ⟨yc0, yc1, yc2⟩ := part_at kc
  have Ka := Lib.hid ka
  have Kb := Lib.hid kb
  have Kc := Lib.hid kc
  clear ka kb kc
  go_wp2_with fail
  clear ya0 ya1 ya2 yb0 yb1 yb2 yc0 yc1 yc2
  refine (Q2.out w6 Hw6.out).mono ?_
  rintro e w7 ⟨rfl, hb7⟩
  have Hw7 := Lib.hid (Hw6.out.trans (hb7.mono Hw6.out.size))
  have ka := part_on Ka.out hb7
  have kb := part_on Kb.out hb7
  have kc := part_on Kc.out hb7
  clear Ka Kb Kc hb7
  obtain ⟨ya0, ya1, ya2⟩ := part_at ka
  obtain ⟨yb0, yb1, yb2⟩ := part_at kb
  obtain ⟨yc0, yc1, yc2⟩ := part_at kc
  obtain ⟨W7, hW7⟩ : ∃ W, W = w7.alloc (.cells #[.string d1, .string d2] 24) := ⟨_, rfl⟩
  have bb : Below w7.heap.size w7 W7 := by rw [hW7]; exact (Below.refl _ _).alloc (Nat.le_refl _) _
  have Ka := Lib.hid (part_on ka bb)
  have Kb := Lib.hid (part_on kb bb)
  have Kc := Lib.hid (part_on kc bb)
  have HW7 := Lib.hid (Hw7.out.trans (bb.mono Hw7.out.size))
  have Kd : Hid (W7.heap[w7.heap.size]? = some (partO d1 d2)) := Lib.hid (by rw [hW7]; exact Go.Deep.blk_alloc_new _ _)
  have HEW7 := Lib.hid hW7
  clear bb hW7 ka kb kc
  go_wp2_with fail
  rw [← HEW7.out]
  clear ya0 ya1 ya2 yb0 yb1 yb2 yc0 yc1 yc2
  refine (Q3.out W7 HW7.out).mono ?_
  rintro e w8 ⟨rfl, hb8⟩
  have Hw8 := Lib.hid (HW7.out.trans (hb8.mono HW7.out.size))
  have ka := part_on Ka.out hb8
  have kb := part_on Kb.out hb8
  have kc := part_on Kc.out hb8
  have kd := part_on Kd.out hb8
  clear Ka Kb Kc Kd hb8
  obtain ⟨ya0, ya1, ya2⟩ := part_at ka
  obtain ⟨yb0, yb1, yb2⟩ := part_at kb
  obtain ⟨yc0, yc1, yc2⟩ := part_at kc
  obtain ⟨yd0, yd1, yd2⟩ := part_at kd
  obtain ⟨W8, hW8⟩ : ∃ W, W = w8.alloc (.cells #[.string x1, .string x2] 24) := ⟨_, rfl⟩
  have bb : Below w8.heap.size w8 W8 := by rw [hW8]; exact (Below.refl _ _).alloc (Nat.le_refl _) _
  have Ka := Lib.hid (part_on ka bb)
  have Kb := Lib.hid (part_on kb bb)
  have Kc := Lib.hid (part_on kc bb)
  have Kd := Lib.hid (part_on kd bb)
  have HW8 := Lib.hid (Hw8.out.trans (bb.mono Hw8.out.size))
  have Kx : Hid (W8.heap[w8.heap.size]? = some (partO x1 x2)) := Lib.hid (by rw [hW8]; exact Go.Deep.blk_alloc_new _ _)
  have HEW8 := Lib.hid hW8
  clear bb hW8 ka kb kc kd
  go_wp2_with fail
  rw [← HEW8.out]
  clear ya0 ya1 ya2 yb0 yb1 yb2 yc0 yc1 yc2 yd0 yd1 yd2
  refine (Q4.out W8 HW8.out).mono ?_
  rintro e w9 ⟨rfl, hb9⟩
  have Hw9 := Lib.hid (HW8.out.trans (hb9.mono HW8.out.size))
  have ka := part_on Ka.out hb9
  have kb := part_on Kb.out hb9
  have kc := part_on Kc.out hb9
  have kd := part_on Kd.out hb9
  have kx := part_on Kx.out hb9
  clear Ka Kb Kc Kd Kx hb9
  obtain ⟨ya0, ya1, ya2⟩ := part_at ka
  obtain ⟨yb0, yb1, yb2⟩ := part_at kb
  obtain ⟨yc0, yc1, yc2⟩ := part_at kc
  obtain ⟨yd0, yd1, yd2⟩ := part_at kd
  obtain ⟨yx0, yx1, yx2⟩ := part_at kx
  obtain ⟨W9, hW9⟩ : ∃ W, W = w9.alloc (.cells #[.string y1, .string y2] 24) := ⟨_, rfl⟩
  have bb : Below w9.heap.size w9 W9 := by rw [hW9]; exact (Below.refl _ _).alloc (Nat.le_refl _) _
  have Ka := Lib.hid (part_on ka bb)
  have Kb := Lib.hid (part_on kb bb)
  have Kc := Lib.hid (part_on kc bb)
  have Kd := Lib.hid (part_on kd bb)
  have Kx := Lib.hid (part_on kx bb)
  have HW9 := Lib.hid (Hw9.out.trans (bb.mono Hw9.out.size))
  have Ky : Hid (W9.heap[w9.heap.size]? = some (partO y1 y2)) := Lib.hid (by rw [hW9]; exact Go.Deep.blk_alloc_new _ _)
  have HEW9 := Lib.hid hW9
  clear bb hW9 ka kb kc kd kx
  go_wp2_with fail
  rw [← HEW9.out]
  clear ya0 ya1 ya2 yb0 yb1 yb2 yc0 yc1 yc2 yd0 yd1 yd2 yx0 yx1 yx2
  refine (Q5.out W9 HW9.out).mono ?_
  rintro e w10 ⟨rfl, hb10⟩
  have Hw10 := Lib.hid (HW9.out.trans (hb10.mono HW9.out.size))
  have ka := part_on Ka.out hb10
  have kb := part_on Kb.out hb10
  have kc := part_on Kc.out hb10
  have kd := part_on Kd.out hb10
  have kx := part_on Kx.out hb10
  have ky := part_on Ky.out hb10
  clear Ka Kb Kc Kd Kx Ky hb10
  obtain ⟨ya0, ya1, ya2⟩ := part_at ka
  obtain ⟨yb0, yb1, yb2⟩ := part_at kb
  obtain ⟨yc0, yc1, yc2⟩ := part_at kc
  obtain ⟨yd0, yd1, yd2⟩ := part_at kd
  obtain ⟨yx0, yx1, yx2⟩ := part_at kx
  obtain ⟨yy0, yy1, yy2⟩ := part_at ky
  obtain ⟨W10, hW10⟩ : ∃ W, W = w10.alloc (.cells #[.string p1, .string p2] 24) := ⟨_, rfl⟩
  have bb : Below w10.heap.size w10 W10 := by rw [hW10]; exact (Below.refl _ _).alloc (Nat.le_refl _) _
  have Ka := Lib.hid (part_on ka bb)
  have Kb := Lib.hid (part_on kb bb)
  have Kc := Lib.hid (part_on kc bb)
  have Kd := Lib.hid (part_on kd bb)
  have Kx := Lib.hid (part_on kx bb)
  have Ky := Lib.hid (part_on ky bb)
  have HW10 := Lib.hid (Hw10.out.trans (bb.mono Hw10.out.size))
  have Kp : Hid (W10.heap[w10.heap.size]? = some (partO p1 p2)) := Lib.hid (by rw [hW10]; exact Go.Deep.blk_alloc_new _ _)
  have HEW10 := Lib.hid hW10
  clear bb hW10 ka kb kc kd kx ky
  go_wp2_with fail
  rw [← HEW10.out]
  clear ya0 ya1 ya2 yb0 yb1 yb2 yc0 yc1 yc2 yd0 yd1 yd2 yx0 yx1 yx2 yy0 yy1 yy2
  refine (Q6.out W10 HW10.out).mono ?_
  rintro e w11 ⟨rfl, hb11⟩
  have Hw11 := Lib.hid (HW10.out.trans (hb11.mono HW10.out.size))
  have ka := part_on Ka.out hb11
  have kb := part_on Kb.out hb11
  have kc := part_on Kc.out hb11
  have kd := part_on Kd.out hb11
  have kx := part_on Kx.out hb11
  have ky := part_on Ky.out hb11
  have kp := part_on Kp.out hb11
  clear Ka Kb Kc Kd Kx Ky Kp hb11
  obtain ⟨ya0, ya1, ya2⟩ := part_at ka
  obtain ⟨yb0, yb1, yb2⟩ := part_at kb
  obtain ⟨yc0, yc1, yc2⟩ := part_at kc
  obtain ⟨yd0, yd1, yd2⟩ := part_at kd
  obtain ⟨yx0, yx1, yx2⟩ := part_at kx
  obtain ⟨yy0, yy1, yy2⟩ := part_at ky
  obtain ⟨yp0, yp1, yp2⟩ := part_at kp
  obtain ⟨W11, hW11⟩ : ∃ W, W = w11.alloc (.cells #[.string r1, .string r2] 24) := ⟨_, rfl⟩
  have bb : Below w11.heap.size w11 W11 := by rw [hW11]; exact (Below.refl _ _).alloc (Nat.le_refl _) _
  have Ka := Lib.hid (part_on ka bb)
  have Kb := Lib.hid (part_on kb bb)
  have Kc := Lib.hid (part_on kc bb)
  have Kd := Lib.hid (part_on kd bb)
  have Kx := Lib.hid (part_on kx bb)
  have Ky := Lib.hid (part_on ky bb)
  have Kp := Lib.hid (part_on kp bb)
  have HW11 := Lib.hid (Hw11.out.trans (bb.mono Hw11.out.size))
  have Kr : Hid (W11.heap[w11.heap.size]? = some (partO r1 r2)) := Lib.hid (by rw [hW11]; exact Go.Deep.blk_alloc_new _ _)
  have HEW11 := Lib.hid hW11
  clear bb hW11 ka kb kc kd kx ky kp
  go_wp2_with fail
  rw [← HEW11.out]
  clear ya0 ya1 ya2 yb0 yb1 yb2 yc0 yc1 yc2 yd0 yd1 yd2 yx0 yx1 yx2 yy0 yy1 yy2 yp0 yp1 yp2
  have hc0 : ¬ c1 = ⟨#[48]⟩ := HCZ.out
  have hc0l : ¬ c1.toList = [48] := fun h => hc0 (list_inj (h.trans (by rw [ByteArray.toList_eq])))
  have hc0b : (c1.toList == [48]) = false := beq_eq_false_iff_ne.2 hc0l
  refine (C3.out W11 HW11.out).mono ?_
  rintro e w12 ⟨rfl, hb12⟩
  have Hw12 := Lib.hid (HW11.out.trans (hb12.mono HW11.out.size))
  have ka := part_on Ka.out hb12
  have kb := part_on Kb.out hb12
  have kc := part_on Kc.out hb12
  have kd := part_on Kd.out hb12
  have kx := part_on Kx.out hb12
  have ky := part_on Ky.out hb12
  have kp := part_on Kp.out hb12
  have kr := part_on Kr.out hb12
  clear Ka Kb Kc Kd Kx Ky Kp Kr hb12
  obtain ⟨ya0, ya1, ya2⟩ := part_at ka
  obtain ⟨yb0, yb1, yb2⟩ := part_at kb
  obtain ⟨yc0, yc1, yc2⟩ := part_at kc
  obtain ⟨yd0, yd1, yd2⟩ := part_at kd
  obtain ⟨yx0, yx1, yx2⟩ := part_at kx
  obtain ⟨yy0, yy1, yy2⟩ := part_at ky
  obtain ⟨yp0, yp1, yp2⟩ := part_at kp
  obtain ⟨yr0, yr1, yr2⟩ := part_at kr
  have Ka := Lib.hid ka
  have Kb := Lib.hid kb
  have Kc := Lib.hid kc
  have Kd := Lib.hid kd
  have Kx := Lib.hid kx
  have Ky := Lib.hid ky
  have Kp := Lib.hid kp
  have Kr := Lib.hid kr
  clear ka kb kc kd kx ky kp kr
  go_wp2_with fail
  clear ya0 ya1 ya2 yb0 yb1 yb2 yc0 yc1 yc2 yd0 yd1 yd2 yx0 yx1 yx2 yy0 yy1 yy2 yp0 yp1 yp2 yr0 yr1 yr2
  by_cases e1 : a1 = b1
  · have e2 : ¬ a2 = b2 := fun h => HEQ.out (Prod.ext e1 h)
    subst e1
    have e2l : ¬ a2.toList = b2.toList := fun h => e2 (list_inj h)
    refine (C2.out w12 Hw12.out).mono ?_
    rintro e w13 ⟨rfl, hb13⟩
    have Hw13 := Lib.hid (Hw12.out.trans (hb13.mono Hw12.out.size))
    have ka := part_on Ka.out hb13
    have kb := part_on Kb.out hb13
    have kc := part_on Kc.out hb13
    have kd := part_on Kd.out hb13
    have kx := part_on Kx.out hb13
    have ky := part_on Ky.out hb13
    have kp := part_on Kp.out hb13
    have kr := part_on Kr.out hb13
    clear Ka Kb Kc Kd Kx Ky Kp Kr hb13
    obtain ⟨ya0, ya1, ya2⟩ := part_at ka
    obtain ⟨yb0, yb1, yb2⟩ := part_at kb
    obtain ⟨yc0, yc1, yc2⟩ := part_at kc
    obtain ⟨yd0, yd1, yd2⟩ := part_at kd
    obtain ⟨yx0, yx1, yx2⟩ := part_at kx
    obtain ⟨yy0, yy1, yy2⟩ := part_at ky
    obtain ⟨yp0, yp1, yp2⟩ := part_at kp
    obtain ⟨yr0, yr1, yr2⟩ := part_at kr
    have Ka := Lib.hid ka
    have Kb := Lib.hid kb
    have Kc := Lib.hid kc
    have Kd := Lib.hid kd
    have Kx := Lib.hid kx
    have Ky := Lib.hid ky
    have Kp := Lib.hid kp
    have Kr := Lib.hid kr
    clear ka kb kc kd kx ky kp kr
    go_wp2_with fail
    clear ya0 ya1 ya2 yb0 yb1 yb2 yc0 yc1 yc2 yd0 yd1 yd2 yx0 yx1 yx2 yy0 yy1 yy2 yp0 yp1 yp2 yr0 yr1 yr2
    refine (C4.out w13 Hw13.out).mono ?_
    rintro e w14 ⟨rfl, hb14⟩
    have Hw14 := Lib.hid (Hw13.out.trans (hb14.mono Hw13.out.size))
    have ka := part_on Ka.out hb14
    have kb := part_on Kb.out hb14
    have kc := part_on Kc.out hb14
    have kd := part_on Kd.out hb14
    have kx := part_on Kx.out hb14
    have ky := part_on Ky.out hb14
    have kp := part_on Kp.out hb14
    have kr := part_on Kr.out hb14
    clear Ka Kb Kc Kd Kx Ky Kp Kr hb14
    obtain ⟨ya0, ya1, ya2⟩ := part_at ka
    obtain ⟨yb0, yb1, yb2⟩ := part_at kb
    obtain ⟨yc0, yc1, yc2⟩ := part_at kc
    obtain ⟨yd0, yd1, yd2⟩ := part_at kd
    obtain ⟨yx0, yx1, yx2⟩ := part_at kx
    obtain ⟨yy0, yy1, yy2⟩ := part_at ky
    obtain ⟨yp0, yp1, yp2⟩ := part_at kp
    obtain ⟨yr0, yr1, yr2⟩ := part_at kr
    have Ka := Lib.hid ka
    have Kb := Lib.hid kb
    have Kc := Lib.hid kc
    have Kd := Lib.hid kd
    have Kx := Lib.hid kx
    have Ky := Lib.hid ky
    have Kp := Lib.hid kp
    have Kr := Lib.hid kr
    clear ka kb kc kd kx ky kp kr
    go_wp2_with fail
    clear ya0 ya1 ya2 yb0 yb1 yb2 yc0 yc1 yc2 yd0 yd1 yd2 yx0 yx1 yx2 yy0 yy1 yy2 yp0 yp1 yp2 yr0 yr1 yr2
    exact bodyPost_ret (v := .bool true) (by simp [results, hc0b, Tryz.results5, go_sem]) rfl ⟨rfl, Hw14.out⟩
  · have e3 : ¬ b1 = a1 := fun h => e1 h.symm
    have e2l : ¬ a1.toList = b1.toList := fun h => e1 (list_inj h)
    refine (C2.out w12 Hw12.out).mono ?_
    rintro e w13 ⟨rfl, hb13⟩
    have Hw13 := Lib.hid (Hw12.out.trans (hb13.mono Hw12.out.size))
    have ka := part_on Ka.out hb13
    have kb := part_on Kb.out hb13
    have kc := part_on Kc.out hb13
    have kd := part_on Kd.out hb13
    have kx := part_on Kx.out hb13
    have ky := part_on Ky.out hb13
    have kp := part_on Kp.out hb13
    have kr := part_on Kr.out hb13
    clear Ka Kb Kc Kd Kx Ky Kp Kr hb13
    obtain ⟨ya0, ya1, ya2⟩ := part_at ka
    obtain ⟨yb0, yb1, yb2⟩ := part_at kb
    obtain ⟨yc0, yc1, yc2⟩ := part_at kc
    obtain ⟨yd0, yd1, yd2⟩ := part_at kd
    obtain ⟨yx0, yx1, yx2⟩ := part_at kx
    obtain ⟨yy0, yy1, yy2⟩ := part_at ky
    obtain ⟨yp0, yp1, yp2⟩ := part_at kp
    obtain ⟨yr0, yr1, yr2⟩ := part_at kr
    have Ka := Lib.hid ka
    have Kb := Lib.hid kb
    have Kc := Lib.hid kc
    have Kd := Lib.hid kd
    have Kx := Lib.hid kx
    have Ky := Lib.hid ky
    have Kp := Lib.hid kp
    have Kr := Lib.hid kr
    clear ka kb kc kd kx ky kp kr
    go_wp2_with fail
    clear ya0 ya1 ya2 yb0 yb1 yb2 yc0 yc1 yc2 yd0 yd1 yd2 yx0 yx1 yx2 yy0 yy1 yy2 yp0 yp1 yp2 yr0 yr1 yr2
    refine (C4.out w13 Hw13.out).mono ?_
    rintro e w14 ⟨rfl, hb14⟩
    have Hw14 := Lib.hid (Hw13.out.trans (hb14.mono Hw13.out.size))
    have ka := part_on Ka.out hb14
    have kb := part_on Kb.out hb14
    have kc := part_on Kc.out hb14
    have kd := part_on Kd.out hb14
    have kx := part_on Kx.out hb14
    have ky := part_on Ky.out hb14
    have kp := part_on Kp.out hb14
    have kr := part_on Kr.out hb14
    clear Ka Kb Kc Kd Kx Ky Kp Kr hb14
    obtain ⟨ya0, ya1, ya2⟩ := part_at ka
    obtain ⟨yb0, yb1, yb2⟩ := part_at kb
    obtain ⟨yc0, yc1, yc2⟩ := part_at kc
    obtain ⟨yd0, yd1, yd2⟩ := part_at kd
    obtain ⟨yx0, yx1, yx2⟩ := part_at kx
    obtain ⟨yy0, yy1, yy2⟩ := part_at ky
    obtain ⟨yp0, yp1, yp2⟩ := part_at kp
    obtain ⟨yr0, yr1, yr2⟩ := part_at kr
    have Ka := Lib.hid ka
    have Kb := Lib.hid kb
    have Kc := Lib.hid kc
    have Kd := Lib.hid kd
    have Kx := Lib.hid kx
    have Ky := Lib.hid ky
    have Kp := Lib.hid kp
    have Kr := Lib.hid kr
    clear ka kb kc kd kx ky kp kr
    go_wp2_with fail
    clear ya0 ya1 ya2 yb0 yb1 yb2 yc0 yc1 yc2 yd0 yd1 yd2 yx0 yx1 yx2 yy0 yy1 yy2 yp0 yp1 yp2 yr0 yr1 yr2
    exact bodyPost_ret (v := .bool true) (by simp [results, hc0b, Tryz.results5, go_sem]) rfl ⟨rfl, Hw14.out⟩
end Go.Proofs.YtkggfeemjabdeaaGreatDoor.Wc
end
section
namespace Go.Proofs.YtkggfeemjabdeaaGreatDoor.Wc
open Go Go.Proofs.YtkggfeemjabdeaaGreatDoor.Sx Go.RowKit

/-- What Text answers. -/
def textS (p : P2) : ByteArray := if okP p then (if p.2 = ⟨#[49]⟩ then p.1 else p.1 ++ ⟨#[47]⟩ ++ p.2) else ⟨#[]⟩

set_option maxRecDepth 100000 in
set_option maxHeartbeats 2000000 in
theorem Text_any (p1 p2 : ByteArray) (w : World) (hs : Short (p1, p2)) (ht : Tens w) :
    Calls Tryz.prog 27 #[.agg #[.string p1, .string p2]] w fun e w' => e = .returned (.string (textS (p1, p2))) ∧ Below w.heap.size w w' := by
  obtain ⟨W1, hW1⟩ : ∃ W, W = w.alloc (.cells #[.string p1, .string p2] 24) := ⟨_, rfl⟩
  have b01 : Below w.heap.size w W1 := by rw [hW1]; exact (Below.refl _ _).alloc (Nat.le_refl _) _
  have e1 : W1.heap[w.heap.size]? = some (partO p1 p2) := by rw [hW1]; exact Go.Deep.blk_alloc_new _ _
  have hchk := Check_any (p1, p2) W1 hs (fun j hj => cell_later b01 (ht j hj))
  have HC := Lib.hid hchk; have HW1 := Lib.hid hW1; have HB1 := Lib.hid b01; have HE1 := Lib.hid e1
  clear hchk hW1 b01 e1 hs ht
  go_enter Tryz.func27, Tryz.ntmps27
  go_wp2_with fail
  rw [← HW1.out]
  refine HC.out.mono ?_
  rintro e w2 ⟨rfl, hb⟩
  have HB2 := Lib.hid (HB1.out.trans (hb.mono HB1.out.size)); have E2 := Lib.hid (part_on HE1.out hb)
  clear hb HC
  cases hok : okP (p1, p2) with
  | false =>
    have e2 : chkS (p1, p2) = 2 := by unfold chkS; rw [hok]; rfl
    have e3 : textS (p1, p2) = ⟨#[]⟩ := by unfold textS; rw [hok]; rfl
    rw [e2]
    have E3 := Lib.hid e3
    clear e3
    go_wp2_with fail
    exact bodyPost_ret (v := .string ⟨#[]⟩) (by simp [results, Tryz.results27, go_sem]) rfl ⟨by rw [E3.out], HB2.out⟩
  | true =>
    have e2 : chkS (p1, p2) = 0 := by unfold chkS; rw [hok]; rfl
    rw [e2]
    obtain ⟨y0, y1, y2⟩ := part_at E2.out
    obtain ⟨h1, h2⟩ := okP_nt hok
    have s1 := (isNt_parts h1).1
    have s2 := (isNt_parts h2).1
    have s3 : ((⟨#[47]⟩ : ByteArray)).size = 1 := rfl
    have HOK := Lib.hid hok
    clear hok h1 h2
    by_cases hd : p2 = ⟨#[49]⟩
    · have e3 : textS (p1, p2) = p1 := by unfold textS; rw [HOK.out]; simp only [if_true]; rw [if_pos hd]
      have E3 := Lib.hid e3
      clear e3
      subst hd
      go_wp2_with fail
      exact bodyPost_ret (v := .string p1) (by simp [results, Tryz.results27, go_sem]) rfl ⟨by rw [E3.out], HB2.out⟩
    · have e3 : textS (p1, p2) = p1 ++ ⟨#[47]⟩ ++ p2 := by unfold textS; rw [HOK.out]; simp only [if_true]; rw [if_neg hd]
      have E3 := Lib.hid e3
      have hdl : ¬ p2.toList = [49] := fun h => hd (list_inj (h.trans (by rw [ByteArray.toList_eq])))
      have hdb : (p2.toList == [49]) = false := beq_eq_false_iff_ne.2 hdl
      clear e3
      go_wp2_with fail
      exact bodyPost_ret (v := .string (p1 ++ ⟨#[47]⟩ ++ p2)) (by simp [results, Tryz.results27, go_sem]) rfl ⟨by rw [E3.out], HB2.out⟩
end Go.Proofs.YtkggfeemjabdeaaGreatDoor.Wc
end
section
namespace Go.Proofs.YtkggfeemjabdeaaGreatDoor.Wc
open Go Go.Proofs.YtkggfeemjabdeaaGreatDoor.Sx Go.RowKit

/-- What readQuotient answers. -/
def quoS (a b : ByteArray) : P2 × Int := if isNum a && isNum b then (if 600 < a.size ∨ 600 < b.size then (emptyP, 4) else makeS (a, b)) else (emptyP, 5)

set_option maxRecDepth 100000 in
set_option maxHeartbeats 2000000 in
theorem readQuotient_any (a b : ByteArray) (w : World) (ha : a.size ≤ maxLen) (hb : b.size ≤ maxLen) (ht : Tens w) :
    Calls Tryz.prog 34 #[.string a, .string b] w fun e w' => e = .returned (retV (quoS a b)) ∧ Below w.heap.size w w' := by
  obtain ⟨W1, hW1⟩ : ∃ W, W = w.alloc (.cells #[.string ⟨#[]⟩, .string ⟨#[]⟩] 24) := ⟨_, rfl⟩
  have b01 : Below w.heap.size w W1 := by rw [hW1]; exact (Below.refl _ _).alloc (Nat.le_refl _) _
  have e1 : W1.heap[w.heap.size]? = some (.cells #[.string ⟨#[]⟩, .string ⟨#[]⟩] 24 (0, 0)) := by rw [hW1]; exact Go.Deep.blk_alloc_new _ _
  have q0 := set_cells e1 0; have q1 := set_cells e1 1
  simp only [List.getElem?_toArray, List.getElem?_cons_zero, List.getElem?_cons_succ] at q0 q1
  have f0 : W1.frozen? ⟨w.heap.size, 0, none⟩ = false := by simp [World.frozen?, e1]
  have f1 : W1.frozen? ⟨w.heap.size, 1, none⟩ = false := by simp [World.frozen?, e1]
  have hl1 : w.heap.size < W1.heap.size := (Array.getElem?_eq_some_iff.1 e1).1
  have HNA := Lib.hid (isNumber_any a W1 ha); have HNB := Lib.hid (isNumber_any b W1 hb)
  have HMK := Lib.hid (Make_any (a, b) W1 ⟨ha, hb⟩ (fun j hj => cell_later b01 (ht j hj)))
  have HW1 := Lib.hid hW1; have HB1 := Lib.hid b01; have HE1 := Lib.hid e1
  have hend : ∀ (x y : ByteArray) (z : Int), quoS a b = ((x, y), z) → ∀ W, W.heap[w.heap.size]? = some (.cells #[.string ⟨#[]⟩, .string ⟨#[]⟩] 24 (0, 0)) → Below w.heap.size w W →
      ((W.setCell ⟨w.heap.size, 0, none⟩ (.string x)).setCell ⟨w.heap.size, 1, none⟩ (.string y)).cell? ⟨w.heap.size, 0, none⟩ = some (.string x) ∧ ((W.setCell ⟨w.heap.size, 0, none⟩ (.string x)).setCell ⟨w.heap.size, 1, none⟩ (.string y)).cell? ⟨w.heap.size, 1, none⟩ = some (.string y) ∧ Below w.heap.size w ((W.setCell ⟨w.heap.size, 0, none⟩ (.string x)).setCell ⟨w.heap.size, 1, none⟩ (.string y)) := fun x y z _ W hW hb => by
    have g0 := heap_setCell_same W w.heap.size 0 _ _ (.string x) hW
    have g1 := heap_setCell_same _ w.heap.size 1 _ _ (.string y) g0
    simp only [List.setIfInBounds_toArray, List.set_cons_zero, List.set_cons_succ] at g1
    have t0 := set_cells g1 0; have t1 := set_cells g1 1
    simp only [List.getElem?_toArray, List.getElem?_cons_zero, List.getElem?_cons_succ] at t0 t1
    exact ⟨t0, t1, (hb.setCell (p := ⟨w.heap.size, 0, none⟩) (Nat.le_refl _) _).setCell (p := ⟨w.heap.size, 1, none⟩) (Nat.le_refl _) _⟩
  have HEND := Lib.hid hend
  clear hW1 b01 e1 hend ht
  go_enter Tryz.func34, Tryz.ntmps34
  go_wp2_with fail
  rw [← HW1.out]
  refine HNA.out.mono ?_
  rintro e w2 ⟨rfl, rfl⟩
  cases hna : isNum a with
  | false =>
    have e5 : quoS a b = ((⟨#[]⟩, ⟨#[]⟩), 5) := by unfold quoS; rw [hna]; rfl
    have E5 := Lib.hid e5
    clear e5
    go_wp2_with fail
    obtain ⟨t0, t1, hbz⟩ := HEND.out ⟨#[]⟩ ⟨#[]⟩ 5 E5.out W1 HE1.out HB1.out
    exact bodyPost_ret (v := .tuple #[.agg #[.string ⟨#[]⟩, .string ⟨#[]⟩], .int .i64 5]) (by simp [results, t0, t1, Tryz.results34, go_sem]) rfl ⟨by rw [E5.out]; rfl, hbz⟩
  | true =>
    go_wp2_with fail
    refine HNB.out.mono ?_
    rintro e w3 ⟨rfl, rfl⟩
    cases hnb : isNum b with
    | false =>
      have e5 : quoS a b = ((⟨#[]⟩, ⟨#[]⟩), 5) := by unfold quoS; rw [hna, hnb]; rfl
      have E5 := Lib.hid e5
      clear e5
      go_wp2_with fail
      obtain ⟨t0, t1, hbz⟩ := HEND.out ⟨#[]⟩ ⟨#[]⟩ 5 E5.out W1 HE1.out HB1.out
      exact bodyPost_ret (v := .tuple #[.agg #[.string ⟨#[]⟩, .string ⟨#[]⟩], .int .i64 5]) (by simp [results, t0, t1, Tryz.results34, go_sem]) rfl ⟨by rw [E5.out]; rfl, hbz⟩
    | true =>
      by_cases h6 : 600 < a.size ∨ 600 < b.size
      · have e5 : quoS a b = ((⟨#[]⟩, ⟨#[]⟩), 4) := by unfold quoS; rw [hna, hnb]; simp only [Bool.and_self, if_true]; rw [if_pos h6]; rfl
        have E5 := Lib.hid e5
        clear e5
        by_cases h7 : 600 < a.size
        · have h7i : (600 : Int) < (a.size : Int) := by omega
          go_wp2_with fail
          obtain ⟨t0, t1, hbz⟩ := HEND.out ⟨#[]⟩ ⟨#[]⟩ 4 E5.out W1 HE1.out HB1.out
          exact bodyPost_ret (v := .tuple #[.agg #[.string ⟨#[]⟩, .string ⟨#[]⟩], .int .i64 4]) (by simp [results, t0, t1, Tryz.results34, go_sem]) rfl ⟨by rw [E5.out]; rfl, hbz⟩
        · have h7i : ¬ (600 : Int) < (a.size : Int) := by omega
          have h8i : (600 : Int) < (b.size : Int) := by omega
          go_wp2_with fail
          obtain ⟨t0, t1, hbz⟩ := HEND.out ⟨#[]⟩ ⟨#[]⟩ 4 E5.out W1 HE1.out HB1.out
          exact bodyPost_ret (v := .tuple #[.agg #[.string ⟨#[]⟩, .string ⟨#[]⟩], .int .i64 4]) (by simp [results, t0, t1, Tryz.results34, go_sem]) rfl ⟨by rw [E5.out]; rfl, hbz⟩
      · have e5 : quoS a b = makeS (a, b) := by unfold quoS; rw [hna, hnb]; simp only [Bool.and_self, if_true]; rw [if_neg h6]
        obtain ⟨⟨⟨x, y⟩, z⟩, hm⟩ : ∃ r, makeS (a, b) = r := ⟨_, rfl⟩
        rw [hm] at e5
        have hmk := HMK.out
        rw [hm] at hmk
        have hmk2 : Calls Tryz.prog 10 #[.string a, .string b] W1 fun e w' => e = .returned (.tuple #[.agg #[.string x, .string y], .int .i64 z]) ∧ Below W1.heap.size W1 w' := hmk
        have HM2 := Lib.hid hmk2; have E5 := Lib.hid e5
        have h7i : ¬ (600 : Int) < (a.size : Int) := by omega
        have h8i : ¬ (600 : Int) < (b.size : Int) := by omega
        clear e5 hmk hmk2 hm HMK
        go_wp2_with fail
        refine HM2.out.mono ?_
        rintro e w4 ⟨rfl, hb4⟩
        have r4 := (hb4.block _ hl1).trans HE1.out
        have q0 := set_cells r4 0; have q1 := set_cells r4 1
        simp only [List.getElem?_toArray, List.getElem?_cons_zero, List.getElem?_cons_succ] at q0 q1
        have f0 : w4.frozen? ⟨w.heap.size, 0, none⟩ = false := by simp [World.frozen?, r4]
        have f1 : w4.frozen? ⟨w.heap.size, 1, none⟩ = false := by simp [World.frozen?, r4]
        have HB4 := Lib.hid (HB1.out.trans (hb4.mono HB1.out.size)); have R4 := Lib.hid r4
        clear hb4 r4
        go_wp2_with fail
        obtain ⟨t0, t1, hbz⟩ := HEND.out x y z E5.out w4 R4.out HB4.out
        exact bodyPost_ret (v := .tuple #[.agg #[.string x, .string y], .int .i64 z]) (by simp [results, t0, t1, Tryz.results34, go_sem]) rfl ⟨by rw [E5.out]; rfl, hbz⟩
end Go.Proofs.YtkggfeemjabdeaaGreatDoor.Wc
end
