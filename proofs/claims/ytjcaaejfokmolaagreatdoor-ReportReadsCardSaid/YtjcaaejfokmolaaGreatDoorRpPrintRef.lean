/- The document's Print. -/
import Derived.Test.YtjcaaejfokmolaaGreatDoorRpPrint0
import Derived.Test.YtjcaaejfokmolaaGreatDoorRpNumRef
import Derived.Test.YtjcaaejfokmolaaGreatDoorRpTokBase
import Derived.Test.YtjcaaejfokmolaaGreatDoorRpDbCheck
import Derived.Test.YtjcaaejfokmolaaGreatDoorRpAreaRef2
namespace Go.Proofs.YtjcaaejfokmolaaGreatDoor
open Go.RowKit

theorem kwO_cell {W : World} {m k : Nat} (h : W.heap[m]? = some kwO) (hk : k ≤ 4) : W.cell? ⟨m, k, none⟩ = some (.string (kwB k)) := by
  have : k = 0 ∨ k = 1 ∨ k = 2 ∨ k = 3 ∨ k = 4 := by omega
  rcases this with rfl | rfl | rfl | rfl | rfl <;> (simp [World.cell?, h]; rfl)
theorem joinW_snoc : ∀ (xs : List (List UInt8)) (y : List UInt8), xs ≠ [] → joinW (xs ++ [y]) = joinW xs ++ 32 :: y
  | [], _, h => absurd rfl h
  | [x], y, _ => rfl
  | x :: z :: r, y, _ => by
    rw [List.cons_append, joinW_cons (w := x) (r := (z :: r) ++ [y]) (by simp), joinW_snoc (z :: r) y (by simp), joinW_cons (w := x) (r := z :: r) (by simp)]
    simp
/-- the text so far. -/
structure QR (w wc : World) (r : Obj) (s : ByteArray) (xs : List (List UInt8)) : Prop where
  str : s = ⟨(joinW xs).toArray⟩
  ne : xs ≠ []
  small : s.size ≤ xs.length * 1001
  blk : wc.heap[w.heap.size]? = some r
  below : Below w.heap.size w wc
theorem QR.next {w wc w' : World} {r s xs} (h : QR w wc r s xs) (hb : Below wc.heap.size wc w') : QR w w' r s xs := ⟨h.str, h.ne, h.small, stay h.blk hb, below_chain h.below hb⟩
theorem QR.put {w wc : World} {r s xs} (h : QR w wc r s xs) (y : List UInt8) (hy : y.length ≤ 1000) : QR w wc r (s ++ ⟨(32 :: y).toArray⟩) (xs ++ [y]) := by
  refine ⟨?_, by simp, ?_, h.blk, h.below⟩
  · rw [joinW_snoc xs y h.ne, h.str]; apply ByteArray.ext; simp
  · have := h.small
    rw [List.length_append, ByteArray.size_append]
    have h2 : ByteArray.size ⟨(32 :: y).toArray⟩ = y.length + 1 := Lib.size_eq _
    rw [h2, List.length_singleton]; omega

theorem QR.put2 {w wc : World} {r s xs} (h : QR w wc r s xs) (y z : List UInt8) (hy : y.length ≤ 1000) (hz : z.length ≤ 1000) : QR w wc r (s ++ ⟨(32 :: (y ++ [32])).toArray⟩ ++ ⟨z.toArray⟩) (xs ++ [y, z]) := by
  have h2 := (h.put y hy).put z hz
  have e1 : xs ++ [y, z] = xs ++ [y] ++ [z] := by simp
  have e2 : s ++ ⟨(32 :: (y ++ [32])).toArray⟩ ++ ⟨z.toArray⟩ = s ++ ⟨(32 :: y).toArray⟩ ++ ⟨(32 :: z).toArray⟩ := by apply ByteArray.ext; simp
  rw [e1, e2]; exact h2
theorem QR.put3 {w wc : World} {r s xs} (h : QR w wc r s xs) (y z : List UInt8) (hy : y.length ≤ 1000) (hz : z.length ≤ 1000) : QR w wc r (s ++ ⟨#[32]⟩ ++ ⟨y.toArray⟩ ++ ⟨#[32]⟩ ++ ⟨z.toArray⟩) (xs ++ [y, z]) := by
  have h2 := (h.put y hy).put z hz
  have e1 : xs ++ [y, z] = xs ++ [y] ++ [z] := by simp
  have e2 : s ++ ⟨#[32]⟩ ++ ⟨y.toArray⟩ ++ ⟨#[32]⟩ ++ ⟨z.toArray⟩ = s ++ ⟨(32 :: y).toArray⟩ ++ ⟨(32 :: z).toArray⟩ := by apply ByteArray.ext; simp
  rw [e1, e2]; exact h2
theorem QR.start {w wc : World} {r : Obj} (a c e : List UInt8) (ha : a.length ≤ 1000) (hc : c.length ≤ 1000) (he : e.length ≤ 1000) (h1 : wc.heap[w.heap.size]? = some r) (h2 : Below w.heap.size w wc) :
    QR w wc r ((⟨a.toArray⟩ : ByteArray) ++ ⟨#[32, 97, 116, 32]⟩ ++ ⟨c.toArray⟩ ++ ⟨#[32, 98, 121, 32]⟩ ++ ⟨e.toArray⟩) [a, [97, 116], c, [98, 121], e] := by
  refine ⟨?_, by simp, ?_, h1, h2⟩
  · apply ByteArray.ext; simp [joinW]
  · simp only [ByteArray.size_append]
    have e1 : ByteArray.size ⟨a.toArray⟩ = a.length := Lib.size_eq _
    have e2 : ByteArray.size ⟨c.toArray⟩ = c.length := Lib.size_eq _
    have e3 : ByteArray.size ⟨e.toArray⟩ = e.length := Lib.size_eq _
    have e4 : ByteArray.size ⟨#[32, 97, 116, 32]⟩ = 4 := rfl
    have e5 : ByteArray.size ⟨#[32, 98, 121, 32]⟩ = 4 := rfl
    rw [e1, e2, e3, e4, e5]
    simp; omega

set_option maxRecDepth 100000 in
set_option maxHeartbeats 8000000 in
theorem refPrint_yes (kn : Nat) (time souls trust : Int) (S Ab : List UInt8) (A : Option Addr) (cap : Nat) (l : List (Int × Int)) (w : World) (hA : Area w (.slice A l.length cap) l) (hS : S.length ≤ 1000) (hAb : Ab.length ≤ 1000) (hl : l.length ≤ 30)
    (hc : checkB ⟨0, kn, time, ⟨S.toArray⟩, ⟨Ab.toArray⟩, souls, trust⟩ (areaB l) = true) :
    Calls Tryz.prog 18 #[repA kn time ⟨S.toArray⟩ ⟨Ab.toArray⟩ (.slice A l.length cap) souls trust] w fun e w' => e = .returned (.string ⟨(joinW (wordsR kn time S Ab l souls trust)).toArray⟩) ∧ Below w.heap.size w w' := by
  obtain ⟨d1, d2, d3, d4, d5, d6, d7⟩ := check_parts hc
  simp only at d1 d2 d3 d4 d5 d6 d7
  have hk4 : 1 ≤ kn ∧ kn ≤ 4 := by have := inB_true.1 d1; omega
  have HTI : Hid (-10000000000 < time ∧ time < 10000000000) := Lib.hid (by have := inB_true.1 d2; omega)
  have HSO : Hid ((-10000000000 < souls ∧ souls < 10000000000) ∧ -1 ≤ souls) := Lib.hid (by have := inB_true.1 d6; omega)
  have HTR : Hid (-10000000000 < trust ∧ trust < 10000000000) := Lib.hid (by have := inB_true.1 d7; omega)
  have HPL : Hid (∀ p ∈ l, (-10000000000 < p.1 ∧ p.1 < 10000000000) ∧ (-10000000000 < p.2 ∧ p.2 < 10000000000)) := Lib.hid fun p hp => by
    unfold areaB at d5
    rw [Bool.and_eq_true, Bool.and_eq_true] at d5
    have h1 := List.all_eq_true.1 d5.2.1 p hp
    unfold placeB at h1
    rw [Bool.and_eq_true] at h1
    have := inB_true.1 h1.1; have := inB_true.1 h1.2; omega
  have HNU : Hid (∀ W n, (-10000000000 < n ∧ n < 10000000000) → Calls Tryz.prog 47 #[.int .i64 n] W fun e w' => e = .returned (.string ⟨(Lib.itoa n).toArray⟩) ∧ Below W.heap.size W w') := Lib.hid fun W n hn => refNumberZ_any n (by omega) (by omega) W
  have HKI : Hid (∀ W, Calls Tryz.prog 46 #[] W fun e w' => e = .returned (.slice (some ⟨W.heap.size, 0, none⟩) 5 5) ∧ w' = W.alloc kwO) := Lib.hid fun W => refKinds_any W
  have HAR : Hid (∀ W, Below w.heap.size w W → Area W (.slice A l.length cap) l) := Lib.hid fun W hW => hA.below hW
  have HLB : Hid (S.length ≤ 1000 ∧ Ab.length ≤ 1000) := Lib.hid ⟨hS, hAb⟩
  have HC := Lib.hid (refCheckReport_any ⟨0, kn, time, ⟨S.toArray⟩, ⟨Ab.toArray⟩, souls, trust⟩ A l.length cap (w.alloc (repO kn time ⟨S.toArray⟩ ⟨Ab.toArray⟩ (.slice A l.length cap) souls trust)) (areaB l) (fun W hW => by
    rw [area_same]
    exact refCheckArea_any A cap l W (hA.below ((new_below w (repO kn time ⟨S.toArray⟩ ⟨Ab.toArray⟩ (.slice A l.length cap) souls trust)).trans (hW.mono (new_below w (repO kn time ⟨S.toArray⟩ ⟨Ab.toArray⟩ (.slice A l.length cap) souls trust)).size))) (by omega)) (by show ByteArray.size ⟨Ab.toArray⟩ ≤ _; rw [Lib.size_eq]; show Ab.length ≤ _; omega) (by show ByteArray.size ⟨S.toArray⟩ ≤ _; rw [Lib.size_eq]; show S.length ≤ _; omega))
  rw [hc] at HC
  obtain ⟨ln, hln⟩ : ∃ ln, ln = l.length := ⟨_, rfl⟩
  rw [← hln] at HC HAR hl ⊢
  have HLN := Lib.hid hln
  obtain ⟨k1, k4⟩ := hk4
  have k5 : (kn : Int) < 5 := by omega
  have k6 : (0 : Int) ≤ kn := by omega
  have k7 : IntKind.i64.wrap (kn : Int) = kn := IntWalk.i64_in _ (by omega)
  have hkl : (kwB kn).size ≤ 1000 := by rw [Lib.size_eq]; exact kw_len kn
  have htl : (Lib.itoa time).length ≤ 1000 := itoa_len HTI.out
  have i0 : ¬ 9223372036854775807 < (kwB kn).size + 4 := by omega
  have i1 : ¬ 9223372036854775807 < (kwB kn).size + 4 + (Lib.itoa time).length := by omega
  have i2 : ¬ 9223372036854775807 < (kwB kn).size + 4 + (Lib.itoa time).length + 4 := by omega
  have i3 : ¬ 9223372036854775807 < (kwB kn).size + 4 + (Lib.itoa time).length + 4 + S.length := by omega
  clear hc d1 d2 d3 d4 d5 d6 d7 hA hln hS hAb
  go_enter Tryz.func18, Tryz.ntmps18
  go_wp2_with fail
  refine HC.out.mono ?_
  rintro e w1 ⟨rfl, hb1⟩
  have HR1 : Hid (w1.heap[w.heap.size]? = some (repO kn time ⟨S.toArray⟩ ⟨Ab.toArray⟩ (.slice A ln cap) souls trust)) := Lib.hid (stay (heap_alloc_new _ _) hb1)
  have HB1 : Hid (Below w.heap.size w w1) := Lib.hid ((new_below _ _).trans (hb1.mono (new_below _ _).size))
  clear hb1 HC
  obtain ⟨x0, x1, x2, -⟩ := rep_cells HR1.out
  obtain ⟨kb, hkb⟩ : ∃ kb, kb = w1.heap.size := ⟨_, rfl⟩
  have HKI1 : Hid (Calls Tryz.prog 46 #[] w1.drew fun e w' => e = .returned (.slice (some ⟨kb, 0, none⟩) 5 5) ∧ w' = w1.drew.alloc kwO) := Lib.hid (by rw [hkb]; exact HKI.out w1.drew)
  have HKB := Lib.hid hkb
  clear hkb
  go_wp2_with fail
  refine wp_region_held_drew (S := fun w' => w'.cell? ⟨w.heap.size, 0, none⟩ = some (.int .i64 kn) ∧ w'.cell? ⟨w.heap.size, 1, none⟩ = some (.int .i64 time) ∧ w'.cell? ⟨w.heap.size, 2, none⟩ = some (.string ⟨S.toArray⟩)) (by kernel_rfl) ⟨x0, x1, x2⟩ (fun hHeld => ?_)
  refine takeH (i := 1) (n := 9) (v := .pointer (some ⟨w.heap.size, 0, none⟩)) rfl rfl (by kernel_rfl) (by kernel_rfl) (by kernel_rfl) (fun _ _ _ h => h) (Or.inl ⟨by kernel_rfl, ?_⟩) (by assumption) ?_
  · intro w hSw; (try dsimp only at hSw); go_simp
  try simp only [Act.put, List.setIfInBounds_toArray, List.set_cons_zero, List.set_cons_succ]
  refine takeH (i := 2) (n := 10) (v := .int .i64 kn) rfl rfl (by kernel_rfl) (by kernel_rfl) (by kernel_rfl) (fun _ _ _ h => h) (Or.inl ⟨by kernel_rfl, ?_⟩) (by assumption) ?_
  · intro w hSw; (try dsimp only at hSw); go_simp
  try simp only [Act.put, List.setIfInBounds_toArray, List.set_cons_zero, List.set_cons_succ]
  refine takeH (i := 6) (n := 14) (v := .pointer (some ⟨w.heap.size, 1, none⟩)) rfl rfl (by kernel_rfl) (by kernel_rfl) (by kernel_rfl) (fun _ _ _ h => h) (Or.inl ⟨by kernel_rfl, ?_⟩) (by assumption) ?_
  · intro w hSw; (try dsimp only at hSw); go_simp
  try simp only [Act.put, List.setIfInBounds_toArray, List.set_cons_zero, List.set_cons_succ]
  refine takeH (i := 7) (n := 15) (v := .int .i64 time) rfl rfl (by kernel_rfl) (by kernel_rfl) (by kernel_rfl) (fun _ _ _ h => h) (Or.inl ⟨by kernel_rfl, ?_⟩) (by assumption) ?_
  · intro w hSw; (try dsimp only at hSw); go_simp
  try simp only [Act.put, List.setIfInBounds_toArray, List.set_cons_zero, List.set_cons_succ]
  refine takeH (i := 11) (n := 19) (v := .pointer (some ⟨w.heap.size, 2, none⟩)) rfl rfl (by kernel_rfl) (by kernel_rfl) (by kernel_rfl) (fun _ _ _ h => h) (Or.inl ⟨by kernel_rfl, ?_⟩) (by assumption) ?_
  · intro w hSw; (try dsimp only at hSw); go_simp
  try simp only [Act.put, List.setIfInBounds_toArray, List.set_cons_zero, List.set_cons_succ]
  refine takeH (i := 12) (n := 20) (v := .string ⟨S.toArray⟩) rfl rfl (by kernel_rfl) (by kernel_rfl) (by kernel_rfl) (fun _ _ _ h => h) (Or.inl ⟨by kernel_rfl, ?_⟩) (by assumption) ?_
  · intro w hSw; (try dsimp only at hSw); go_simp
  try simp only [Act.put, List.setIfInBounds_toArray, List.set_cons_zero, List.set_cons_succ]
  refine wpAnyH_ready (rs := [0]) (by kernel_rfl) (by simp) ?_
  refine AllReadyH.cons rfl (fun K hK => ?_) AllReadyH.nil
  try rw [if_pos (by kernel_rfl)]
  try go_simp
  refine HKI1.out.mono ?_
  rintro e w2 ⟨rfl, hw2⟩
  have HBK := Lib.hid (stay HR1.out (show Below w1.heap.size w1 w2 by rw [hw2]; exact ((Below.refl _ _).drew).alloc (Nat.le_refl _) _))
  have HB2 : Hid (Below w.heap.size w w2) := Lib.hid (by rw [hw2]; exact HB1.out.drew.trans ((new_below _ kwO).mono HB1.out.drew.size))
  have hk1 : w2.heap[kb]? = some kwO := by rw [hw2, HKB.out]; exact heap_alloc_new w1.drew kwO
  clear x0 x1 x2 hHeld hw2
  obtain ⟨x0, x1, x2, -⟩ := rep_cells HBK.out
  have xk : w2.cell? ⟨kb, kn, none⟩ = some (.string (kwB kn)) := kwO_cell hk1 k4
  refine hK.out _ _ ⟨x0, x1, x2⟩ (fun _ => ?_)
  clear hK K
  try simp only [Act.put, List.getElem_toArray, List.getElem_cons_succ, List.getElem_cons_zero, List.setIfInBounds_toArray, List.set_cons_zero, List.set_cons_succ]
  refine wpAnyH_weaken (S' := fun w' => (w'.cell? ⟨w.heap.size, 0, none⟩ = some (.int .i64 kn) ∧ w'.cell? ⟨w.heap.size, 1, none⟩ = some (.int .i64 time) ∧ w'.cell? ⟨w.heap.size, 2, none⟩ = some (.string ⟨S.toArray⟩)) ∧ w'.cell? ⟨kb, kn, none⟩ = some (.string (kwB kn))) (fun w h => h.1) _ _ _ _ ?_
  have hHeld : (w2.cell? ⟨w.heap.size, 0, none⟩ = some (.int .i64 kn) ∧ w2.cell? ⟨w.heap.size, 1, none⟩ = some (.int .i64 time) ∧ w2.cell? ⟨w.heap.size, 2, none⟩ = some (.string ⟨S.toArray⟩)) ∧ w2.cell? ⟨kb, kn, none⟩ = some (.string (kwB kn)) := ⟨⟨x0, x1, x2⟩, xk⟩
  refine takeH (i := 3) (n := 11) (v := .pointer (some ⟨kb, kn, none⟩)) rfl rfl (by kernel_rfl) (by kernel_rfl) (by kernel_rfl) (fun _ _ _ h => h) (Or.inl ⟨by kernel_rfl, ?_⟩) (by assumption) ?_
  · intro w hSw; (try dsimp only at hSw); go_simp
  try simp only [Act.put, List.setIfInBounds_toArray, List.set_cons_zero, List.set_cons_succ]
  refine takeH (i := 4) (n := 12) (v := .string (kwB kn)) rfl rfl (by kernel_rfl) (by kernel_rfl) (by kernel_rfl) (fun _ _ _ h => h) (Or.inl ⟨by kernel_rfl, ?_⟩) (by assumption) ?_
  · intro w hSw; obtain ⟨-, hSw⟩ := hSw; go_simp
  try simp only [Act.put, List.setIfInBounds_toArray, List.set_cons_zero, List.set_cons_succ]
  refine takeH (i := 5) (n := 13) (v := .string (kwB kn ++ ⟨#[32, 97, 116, 32]⟩)) rfl rfl (by kernel_rfl) (by kernel_rfl) (by kernel_rfl) (fun _ _ _ h => h) (Or.inl ⟨by kernel_rfl, ?_⟩) (by assumption) ?_
  · intro w hSw; (try dsimp only at hSw); go_simp
  try simp only [Act.put, List.setIfInBounds_toArray, List.set_cons_zero, List.set_cons_succ]
  refine wpAnyH_ready (rs := [8]) (by kernel_rfl) (by simp) ?_
  refine AllReadyH.cons rfl (fun K hK => ?_) AllReadyH.nil
  try rw [if_pos (by kernel_rfl)]
  try go_simp
  refine (HNU.out _ _ HTI.out).mono ?_
  rintro e w3 ⟨rfl, hb3⟩
  have HBK3 := Lib.hid (stay HBK.out hb3)
  have HB3 := Lib.hid (HB2.out.trans (hb3.mono HB2.out.size))
  have hk3 := stay hk1 hb3
  clear x0 x1 x2 xk hk1 hHeld hb3
  obtain ⟨x0, x1, x2, -⟩ := rep_cells HBK3.out
  have hS : (w3.cell? ⟨w.heap.size, 0, none⟩ = some (.int .i64 kn) ∧ w3.cell? ⟨w.heap.size, 1, none⟩ = some (.int .i64 time) ∧ w3.cell? ⟨w.heap.size, 2, none⟩ = some (.string ⟨S.toArray⟩)) ∧ w3.cell? ⟨kb, kn, none⟩ = some (.string (kwB kn)) := ⟨⟨x0, x1, x2⟩, kwO_cell hk3 k4⟩
  refine hK.out _ _ hS (fun _ => ?_)
  clear hK K
  try simp only [Act.put, List.getElem_toArray, List.getElem_cons_succ, List.getElem_cons_zero, List.setIfInBounds_toArray, List.set_cons_zero, List.set_cons_succ]
  refine wpAnyH_ready (rs := [9]) (by kernel_rfl) (by simp) ?_
  refine AllReadyH.cons rfl (fun K hK => ?_) AllReadyH.nil
  try rw [if_pos (by kernel_rfl)]
  try go_simp
  refine hK.out _ _ hS (fun _ => ?_)
  clear hK K
  try simp only [Act.put, List.getElem_toArray, List.getElem_cons_succ, List.getElem_cons_zero, List.setIfInBounds_toArray, List.set_cons_zero, List.set_cons_succ]
  refine wpAnyH_ready (rs := [10]) (by kernel_rfl) (by simp) ?_
  refine AllReadyH.cons rfl (fun K hK => ?_) AllReadyH.nil
  try rw [if_pos (by kernel_rfl)]
  try go_simp
  refine hK.out _ _ hS (fun _ => ?_)
  clear hK K
  try simp only [Act.put, List.getElem_toArray, List.getElem_cons_succ, List.getElem_cons_zero, List.setIfInBounds_toArray, List.set_cons_zero, List.set_cons_succ]
  refine wpAnyH_ready (rs := [13]) (by kernel_rfl) (by simp) ?_
  refine AllReadyH.cons rfl (fun K hK => ?_) AllReadyH.nil
  try rw [if_pos (by kernel_rfl)]
  try go_simp
  refine hK.out _ _ hS (fun _ => ?_)
  clear hK K
  try simp only [Act.put, List.getElem_toArray, List.getElem_cons_succ, List.getElem_cons_zero, List.setIfInBounds_toArray, List.set_cons_zero, List.set_cons_succ]
  refine wpAnyH_ready (rs := [14]) (by kernel_rfl) (by simp) ?_
  refine AllReadyH.cons rfl (fun K hK => ?_) AllReadyH.nil
  try rw [if_pos (by kernel_rfl)]
  try go_simp
  refine hK.out _ _ hS (fun _ => ?_)
  clear hK K
  try simp only [Act.put, List.getElem_toArray, List.getElem_cons_succ, List.getElem_cons_zero, List.setIfInBounds_toArray, List.set_cons_zero, List.set_cons_succ]
  refine wpAnyH_done (by kernel_rfl) ?_ _
  obtain ⟨s0, hs0⟩ : ∃ s0, s0 = (kwB kn ++ ⟨#[32, 97, 116, 32]⟩ ++ ⟨(Lib.itoa time).toArray⟩ ++ ⟨#[32, 98, 121, 32]⟩ ++ ⟨S.toArray⟩) := ⟨_, rfl⟩
  have HX : Hid (QR w w3 (repO kn time ⟨S.toArray⟩ ⟨Ab.toArray⟩ (.slice A ln cap) souls trust) s0 [kwL kn, [97, 116], Lib.itoa time, [98, 121], S] ∧ 5 ≤ 60) := Lib.hid ⟨by rw [hs0]; exact QR.start _ _ _ (kw_len kn) (itoa_len HTI.out) HLB.out.1 HBK3.out HB3.out, by omega⟩
  rw [← hs0]
  clear hs0 HBK3 HB3 hS hk3 x0 x1 x2 HBK HB2 HKI1 HKB HR1 HB1 hkl htl i0 i1 i2 i3 k1 k4 k5 k6 k7
  obtain ⟨-, -, -, x3, -⟩ := rep_cells HX.out.1.blk
  go_upto_if 24 with fail
  clear x3
  go_cut [3] (fun s3 wz => ∃ (sv : ByteArray) (xs : List (List UInt8)), s3 = .string sv ∧ Hid (QR w wz (repO kn time ⟨S.toArray⟩ ⟨Ab.toArray⟩ (.slice A ln cap) souls trust) sv xs ∧ xs.length ≤ 60 ∧ xs = [kwL kn, [97, 116], Lib.itoa time, [98, 121], S] ++ (if Ab = [] then [] else [[97, 98, 111, 117, 116], Ab])))
  case first =>
    generalize hq : (!Ab.isEmpty) = q
    cases q with
    | false =>
      have HA0 : Hid (Ab = []) := Lib.hid (by cases Ab with | nil => rfl | cons a b => cases hq)
      clear hq
      go_wp2_with fail
      go_meet
      exact ⟨_, _, rfl, Lib.hid ⟨HX.out.1, by simp, by rw [HA0.out]; rfl⟩⟩
    | true =>
      have HA0 : Hid (Ab ≠ []) := Lib.hid (by rintro rfl; cases hq)
      clear hq
      obtain ⟨-, -, -, x3, -⟩ := rep_cells HX.out.1.blk
      have hsz := HX.out.1.small
      have hal := HLB.out.2
      simp only [List.length_cons, List.length_nil] at hsz
      have i0 : ¬ 9223372036854775807 < s0.size + 7 := by omega
      have i1 : ¬ 9223372036854775807 < s0.size + 7 + Ab.length := by omega
      clear hsz hal
      go_wp2_with fail
      go_meet
      exact ⟨_, _, rfl, Lib.hid ⟨HX.out.1.put2 [97, 98, 111, 117, 116] Ab (by decide) HLB.out.2, by simp, by rw [if_neg HA0.out]⟩⟩
  case rest =>
    clear HX
    obtain ⟨sv, xs, rfl, HX⟩ := hcut
    have HXS := Lib.hid HX.out.2.2
    have hsz := HX.out.1.small
    have hxl := HX.out.2.1
    have i0 : ¬ 9223372036854775807 < sv.size + 3 := by omega
    clear hsz hxl
    go_wp2_with fail
    have HX2 : Hid (QR w wc (repO kn time ⟨S.toArray⟩ ⟨Ab.toArray⟩ (.slice A ln cap) souls trust) (sv ++ ⟨#[32, 105, 110]⟩) (xs ++ [[105, 110]]) ∧ (xs ++ [[105, 110]]).length ≤ 61) := Lib.hid ⟨HX.out.1.put [105, 110] (by decide), by rw [List.length_append]; have := HX.out.2.1; simp; omega⟩
    generalize hys : xs ++ [[105, 110]] = ys at HX2
    have HYS := Lib.hid hys
    obtain ⟨rO, hrO⟩ : ∃ rO : Obj, rO = (repO kn time ⟨S.toArray⟩ ⟨Ab.toArray⟩ (.slice A ln cap) souls trust) := ⟨_, rfl⟩
    have HRO := Lib.hid hrO
    have HR4 : Hid (∀ W : World, W.heap[w.heap.size]? = some rO → W.cell? ⟨w.heap.size, 4, none⟩ = some (.slice A ln cap)) := Lib.hid fun W hW => by rw [hrO] at hW; exact (rep_cells hW).2.2.2.2.1
    rw [← hrO] at HX2
    clear hys hrO i0
    generalize sv ++ ⟨#[32, 105, 110]⟩ = sv2 at HX2 ⊢
    go_loopw [3, 4] (fun s3 iv wz => ∃ (j : Nat) (sv : ByteArray) (xs1 : List (List UInt8)), j ≤ ln ∧ iv = .int .i64 j ∧ s3 = .string sv ∧ Hid (QR w wz rO sv xs1 ∧ xs1.length ≤ 61 + 2 * j ∧ xs1 = ys ++ flatW (l.take j))) (fun _ iv _ => ln - (intOf iv).toNat)
    case atStart => exact ⟨0, _, _, Nat.zero_le _, rfl, rfl, Lib.hid ⟨HX2.out.1, HX2.out.2, by simp [flatW]⟩⟩
    case round =>
      clear HX2
      obtain ⟨j, sv, xs1, hj, rfl, rfl, HI⟩ := hrel
      have x4 := HR4.out _ HI.out.1.blk
      by_cases hlt : j < ln
      · have hltl : j < l.length := by rw [← HLN.out]; exact hlt
        have HSS0 : ∀ W, Below wr.heap.size wr W → W.cell? ⟨w.heap.size, 4, none⟩ = some (.slice A ln cap) ∧ Area W (.slice A ln cap) l := fun W hW => ⟨HR4.out _ (stay HI.out.1.blk hW), HAR.out _ (below_chain HI.out.1.below hW)⟩
        obtain ⟨hn1, hc1, gA, oA, rfl, hgA, p1, p2⟩ := ((show Area wr (.slice A ln cap) l from HAR.out _ HI.out.1.below).at_ hltl)
        have HXY : Hid ((-10000000000 < (atZ l j).1 ∧ (atZ l j).1 < 10000000000) ∧ (-10000000000 < (atZ l j).2 ∧ (atZ l j).2 < 10000000000)) := Lib.hid (HPL.out _ (by unfold atZ; rw [List.getD_eq_getElem?_getD, List.getElem?_eq_getElem hltl]; exact List.getElem_mem hltl))
        have HFL : Hid (flatW (l.take (j + 1)) = flatW (l.take j) ++ [Lib.itoa (atZ l j).1, Lib.itoa (atZ l j).2]) := Lib.hid (by
          rw [List.take_succ_eq_append_getElem hltl]
          unfold flatW atZ
          rw [List.flatMap_append, List.getD_eq_getElem?_getD, List.getElem?_eq_getElem hltl]; simp)
        have HSP : Hid (∀ W, Below wr.heap.size wr W → W.cell? ⟨gA, oA + j * 2, none⟩ = some (.int .i64 (atZ l j).1) ∧ W.cell? ⟨gA, oA + j * 2 + 1, none⟩ = some (.int .i64 (atZ l j).2)) := Lib.hid fun W hW => ⟨(hW.cell (p := ⟨gA, oA + j * 2, none⟩) hgA).trans p1, (hW.cell (p := ⟨gA, oA + j * 2 + 1, none⟩) hgA).trans p2⟩
        generalize atZ l j = pxy at p1 p2 HXY HFL HSP
        obtain ⟨x, y⟩ := pxy
        dsimp only at p1 p2 HXY HFL HSP
        have HSS : Hid (∀ w', Below wr.heap.size wr w' → w'.cell? ⟨w.heap.size, 4, none⟩ = some (.slice (some ⟨gA, oA, none⟩) ln cap) ∧ w'.cell? ⟨gA, oA + j * 2, none⟩ = some (.int .i64 x) ∧ w'.cell? ⟨gA, oA + j * 2 + 1, none⟩ = some (.int .i64 y)) := Lib.hid fun W hW => ⟨(HSS0 W hW).1, HSP.out W hW⟩
        have HZX : Hid (-10000000000 < x ∧ x < 10000000000) := Lib.hid HXY.out.1
        have HZY : Hid (-10000000000 < y ∧ y < 10000000000) := Lib.hid HXY.out.2
        have HLT := Lib.hid hlt
        have hsz := HI.out.1.small
        have hxl := HI.out.2.1
        have hxx := itoa_len HZX.out
        have hyy := itoa_len HZY.out
        have i0 : ¬ 9223372036854775807 < sv.size + 1 := by omega
        have i1 : ¬ 9223372036854775807 < sv.size + 1 + (Lib.itoa x).length := by omega
        have i2 : ¬ 9223372036854775807 < sv.size + 1 + (Lib.itoa x).length + 1 := by omega
        have i3 : ¬ 9223372036854775807 < sv.size + 1 + (Lib.itoa x).length + 1 + (Lib.itoa y).length := by omega
        have j0 : (0 : Int) ≤ j := by omega
        have j1 : (j : Int) < ln := by omega
        have j2 : IntKind.i64.wrap (j : Int) = j := IntWalk.i64_in _ (by omega)
        clear hsz hxl hxx hyy hn1 hltl HXY HSS0 HSP p1 p2 hgA
        go_wp2_with fail
        clear x4
        refine wp_region_held_drew (S := fun w' => w'.cell? ⟨w.heap.size, 4, none⟩ = some (.slice (some ⟨gA, oA, none⟩) ln cap) ∧ w'.cell? ⟨gA, oA + j * 2, none⟩ = some (.int .i64 x) ∧ w'.cell? ⟨gA, oA + j * 2 + 1, none⟩ = some (.int .i64 y)) (by kernel_rfl) (HSS.out _ (Below.refl _ _).drew) (fun hHeld => ?_)
        refine takeH (i := 0) (n := 39) (v := .string sv) rfl rfl (by kernel_rfl) (by kernel_rfl) (by kernel_rfl) (fun _ _ _ h => h) (Or.inl ⟨by kernel_rfl, ?_⟩) (by assumption) ?_
        · intro w hSw; (try dsimp only at hSw); go_simp
        try simp only [Act.put, List.setIfInBounds_toArray, List.set_cons_zero, List.set_cons_succ]
        refine takeH (i := 1) (n := 40) (v := .string (sv ++ ⟨#[32]⟩)) rfl rfl (by kernel_rfl) (by kernel_rfl) (by kernel_rfl) (fun _ _ _ h => h) (Or.inl ⟨by kernel_rfl, ?_⟩) (by assumption) ?_
        · intro w hSw; (try dsimp only at hSw); go_simp
        try simp only [Act.put, List.setIfInBounds_toArray, List.set_cons_zero, List.set_cons_succ]
        refine takeH (i := 2) (n := 41) (v := .pointer (some ⟨w.heap.size, 4, none⟩)) rfl rfl (by kernel_rfl) (by kernel_rfl) (by kernel_rfl) (fun _ _ _ h => h) (Or.inl ⟨by kernel_rfl, ?_⟩) (by assumption) ?_
        · intro w hSw; (try dsimp only at hSw); go_simp
        try simp only [Act.put, List.setIfInBounds_toArray, List.set_cons_zero, List.set_cons_succ]
        refine takeH (i := 3) (n := 42) (v := .slice (some ⟨gA, oA, none⟩) ln cap) rfl rfl (by kernel_rfl) (by kernel_rfl) (by kernel_rfl) (fun _ _ _ h => h) (Or.inl ⟨by kernel_rfl, ?_⟩) (by assumption) ?_
        · intro w hSw; (try dsimp only at hSw); go_simp
        try simp only [Act.put, List.setIfInBounds_toArray, List.set_cons_zero, List.set_cons_succ]
        refine takeH (i := 4) (n := 43) (v := .int .i64 j) rfl rfl (by kernel_rfl) (by kernel_rfl) (by kernel_rfl) (fun _ _ _ h => h) (Or.inl ⟨by kernel_rfl, ?_⟩) (by assumption) ?_
        · intro w hSw; (try dsimp only at hSw); go_simp
        try simp only [Act.put, List.setIfInBounds_toArray, List.set_cons_zero, List.set_cons_succ]
        refine takeH (i := 5) (n := 44) (v := .pointer (some ⟨gA, oA + j * 2, none⟩)) rfl rfl (by kernel_rfl) (by kernel_rfl) (by kernel_rfl) (fun _ _ _ h => h) (Or.inl ⟨by kernel_rfl, ?_⟩) (by assumption) ?_
        · intro w hSw; (try dsimp only at hSw); go_simp
        try simp only [Act.put, List.setIfInBounds_toArray, List.set_cons_zero, List.set_cons_succ]
        refine takeH (i := 6) (n := 45) (v := .pointer (some ⟨gA, oA + j * 2, none⟩)) rfl rfl (by kernel_rfl) (by kernel_rfl) (by kernel_rfl) (fun _ _ _ h => h) (Or.inl ⟨by kernel_rfl, ?_⟩) (by assumption) ?_
        · intro w hSw; (try dsimp only at hSw); go_simp
        try simp only [Act.put, List.setIfInBounds_toArray, List.set_cons_zero, List.set_cons_succ]
        refine takeH (i := 7) (n := 46) (v := .int .i64 x) rfl rfl (by kernel_rfl) (by kernel_rfl) (by kernel_rfl) (fun _ _ _ h => h) (Or.inl ⟨by kernel_rfl, ?_⟩) (by assumption) ?_
        · intro w hSw; (try dsimp only at hSw); go_simp
        try simp only [Act.put, List.setIfInBounds_toArray, List.set_cons_zero, List.set_cons_succ]
        refine takeH (i := 11) (n := 50) (v := .pointer (some ⟨w.heap.size, 4, none⟩)) rfl rfl (by kernel_rfl) (by kernel_rfl) (by kernel_rfl) (fun _ _ _ h => h) (Or.inl ⟨by kernel_rfl, ?_⟩) (by assumption) ?_
        · intro w hSw; (try dsimp only at hSw); go_simp
        try simp only [Act.put, List.setIfInBounds_toArray, List.set_cons_zero, List.set_cons_succ]
        refine takeH (i := 12) (n := 51) (v := .slice (some ⟨gA, oA, none⟩) ln cap) rfl rfl (by kernel_rfl) (by kernel_rfl) (by kernel_rfl) (fun _ _ _ h => h) (Or.inl ⟨by kernel_rfl, ?_⟩) (by assumption) ?_
        · intro w hSw; (try dsimp only at hSw); go_simp
        try simp only [Act.put, List.setIfInBounds_toArray, List.set_cons_zero, List.set_cons_succ]
        refine takeH (i := 13) (n := 52) (v := .int .i64 j) rfl rfl (by kernel_rfl) (by kernel_rfl) (by kernel_rfl) (fun _ _ _ h => h) (Or.inl ⟨by kernel_rfl, ?_⟩) (by assumption) ?_
        · intro w hSw; (try dsimp only at hSw); go_simp
        try simp only [Act.put, List.setIfInBounds_toArray, List.set_cons_zero, List.set_cons_succ]
        refine takeH (i := 14) (n := 53) (v := .pointer (some ⟨gA, oA + j * 2, none⟩)) rfl rfl (by kernel_rfl) (by kernel_rfl) (by kernel_rfl) (fun _ _ _ h => h) (Or.inl ⟨by kernel_rfl, ?_⟩) (by assumption) ?_
        · intro w hSw; (try dsimp only at hSw); go_simp
        try simp only [Act.put, List.setIfInBounds_toArray, List.set_cons_zero, List.set_cons_succ]
        refine takeH (i := 15) (n := 54) (v := .pointer (some ⟨gA, oA + j * 2 + 1, none⟩)) rfl rfl (by kernel_rfl) (by kernel_rfl) (by kernel_rfl) (fun _ _ _ h => h) (Or.inl ⟨by kernel_rfl, ?_⟩) (by assumption) ?_
        · intro w hSw; (try dsimp only at hSw); go_simp
        try simp only [Act.put, List.setIfInBounds_toArray, List.set_cons_zero, List.set_cons_succ]
        refine takeH (i := 16) (n := 55) (v := .int .i64 y) rfl rfl (by kernel_rfl) (by kernel_rfl) (by kernel_rfl) (fun _ _ _ h => h) (Or.inl ⟨by kernel_rfl, ?_⟩) (by assumption) ?_
        · intro w hSw; (try dsimp only at hSw); go_simp
        try simp only [Act.put, List.setIfInBounds_toArray, List.set_cons_zero, List.set_cons_succ]
        clear hHeld
        refine wpAnyH_ready (rs := [8]) (by kernel_rfl) (by simp) ?_
        refine AllReadyH.cons rfl (fun K hK => ?_) AllReadyH.nil
        try rw [if_pos (by kernel_rfl)]
        try go_simp
        refine (HNU.out _ _ HZX.out).mono ?_
        rintro e w4 ⟨rfl, hb4⟩
        have HB4 : Hid (Below wr.heap.size wr w4) := Lib.hid ((Below.refl _ _).drew.trans hb4)
        have hS := HSS.out _ HB4.out
        clear hb4
        refine hK.out _ _ hS (fun _ => ?_)
        clear hK K
        try simp only [Act.put, List.getElem_toArray, List.getElem_cons_succ, List.getElem_cons_zero, List.setIfInBounds_toArray, List.set_cons_zero, List.set_cons_succ]
        refine takeH (i := 9) (n := 48) (v := .string (sv ++ ⟨#[32]⟩ ++ ⟨(Lib.itoa x).toArray⟩)) rfl rfl (by kernel_rfl) (by kernel_rfl) (by kernel_rfl) (fun _ _ _ h => h) (Or.inl ⟨by kernel_rfl, ?_⟩) (by assumption) ?_
        · intro w hSw; (try dsimp only at hSw); go_simp
        try simp only [Act.put, List.setIfInBounds_toArray, List.set_cons_zero, List.set_cons_succ]
        refine takeH (i := 10) (n := 49) (v := .string (sv ++ ⟨#[32]⟩ ++ ⟨(Lib.itoa x).toArray⟩ ++ ⟨#[32]⟩)) rfl rfl (by kernel_rfl) (by kernel_rfl) (by kernel_rfl) (fun _ _ _ h => h) (Or.inl ⟨by kernel_rfl, ?_⟩) (by assumption) ?_
        · intro w hSw; (try dsimp only at hSw); go_simp
        try simp only [Act.put, List.setIfInBounds_toArray, List.set_cons_zero, List.set_cons_succ]
        refine wpAnyH_ready (rs := [17]) (by kernel_rfl) (by simp) ?_
        refine AllReadyH.cons rfl (fun K hK => ?_) AllReadyH.nil
        try rw [if_pos (by kernel_rfl)]
        try go_simp
        refine (HNU.out _ _ HZY.out).mono ?_
        rintro e w5 ⟨rfl, hb5⟩
        have HB5 := Lib.hid (below_chain HB4.out hb5)
        clear hS hb5
        have hS := HSS.out _ HB5.out
        refine hK.out _ _ hS (fun _ => ?_)
        clear hK K
        try simp only [Act.put, List.getElem_toArray, List.getElem_cons_succ, List.getElem_cons_zero, List.setIfInBounds_toArray, List.set_cons_zero, List.set_cons_succ]
        refine wpAnyH_ready (rs := [18]) (by kernel_rfl) (by simp) ?_
        refine AllReadyH.cons rfl (fun K hK => ?_) AllReadyH.nil
        try rw [if_pos (by kernel_rfl)]
        try go_simp
        refine hK.out _ _ hS (fun _ => ?_)
        clear hK K
        try simp only [Act.put, List.getElem_toArray, List.getElem_cons_succ, List.getElem_cons_zero, List.setIfInBounds_toArray, List.set_cons_zero, List.set_cons_succ]
        refine wpAnyH_ready (rs := [19]) (by kernel_rfl) (by simp) ?_
        refine AllReadyH.cons rfl (fun K hK => ?_) AllReadyH.nil
        try rw [if_pos (by kernel_rfl)]
        try go_simp
        refine hK.out _ _ hS (fun _ => ?_)
        clear hK K
        try simp only [Act.put, List.getElem_toArray, List.getElem_cons_succ, List.getElem_cons_zero, List.setIfInBounds_toArray, List.set_cons_zero, List.set_cons_succ]
        refine wpAnyH_done (by kernel_rfl) ?_ _
        clear hS
        have HN : Hid (QR w w5 rO (sv ++ ⟨#[32]⟩ ++ ⟨(Lib.itoa x).toArray⟩ ++ ⟨#[32]⟩ ++ ⟨(Lib.itoa y).toArray⟩) (xs1 ++ [Lib.itoa x, Lib.itoa y])) := Lib.hid ((HI.out.1.next HB5.out).put3 _ _ (itoa_len HZX.out) (itoa_len HZY.out))
        go_wp2
        go_roundw
        case rel => exact ⟨j + 1, _, _, by have := HLT.out; omega, by go_num, rfl, Lib.hid ⟨HN.out, by rw [List.length_append]; have := HI.out.2.1; simp; omega, by rw [HI.out.2.2, HFL.out, List.append_assoc]⟩⟩
        case measure => have := HLT.out; simp [intOf]; omega
      · have hjl : j = ln := by omega
        have HX : Hid (QR w wr rO sv xs1 ∧ xs1.length ≤ 130) := Lib.hid ⟨HI.out.1, by have := HI.out.2.1; omega⟩
        have HXS1 : Hid (xs1 = ys ++ flatW l) := Lib.hid (by rw [HI.out.2.2, hjl, HLN.out, List.take_length])
        clear HI hjl
        rw [HRO.out] at HX
        obtain ⟨-, -, -, -, -, x5, -⟩ := rep_cells HX.out.1.blk
        go_upto_if 60 with fail
        clear x5 x4
        go_cut [3] (fun s3 wz => ∃ (sv : ByteArray) (xs : List (List UInt8)), s3 = .string sv ∧ Hid (QR w wz (repO kn time ⟨S.toArray⟩ ⟨Ab.toArray⟩ (.slice A ln cap) souls trust) sv xs ∧ xs.length ≤ 140 ∧ xs = ys ++ flatW l ++ (if souls = -1 then [] else [soulsL, Lib.itoa souls])))
        case first =>
          generalize hq : decide ((0 : Int) ≤ souls) = q
          cases q with
          | false =>
            have HSZ : Hid (souls = -1) := Lib.hid (by have := of_decide_eq_false hq; have := HSO.out.2; omega)
            clear hq
            go_wp2_with fail
            go_meet
            exact ⟨_, _, rfl, Lib.hid ⟨HX.out.1, by have := HX.out.2; omega, by rw [HXS1.out, if_pos HSZ.out, List.append_nil]⟩⟩
          | true =>
            have HSZ : Hid (souls ≠ -1) := Lib.hid (by have := of_decide_eq_true hq; omega)
            clear hq
            obtain ⟨-, -, -, -, -, x5, -⟩ := rep_cells HX.out.1.blk
            have hsz := HX.out.1.small
            have hxl := HX.out.2
            have hss := itoa_len HSO.out.1
            have i0 : ¬ 9223372036854775807 < sv.size + 7 := by omega
            have i1 : ¬ 9223372036854775807 < sv.size + 7 + (Lib.itoa souls).length := by omega
            clear hsz hxl hss
            go_wp2_with fail
            refine (HNU.out _ _ HSO.out.1).mono ?_
            rintro e w4 ⟨rfl, hb4⟩
            have HX4 := Lib.hid (HX.out.1.next hb4)
            clear hb4 x5
            go_wp2_with fail
            go_meet
            exact ⟨_, _, rfl, Lib.hid ⟨HX4.out.put2 soulsL _ (by decide) (itoa_len HSO.out.1), by rw [List.length_append]; have := HX.out.2; simp; omega, by rw [HXS1.out, if_neg HSZ.out]⟩⟩
        case rest =>
          clear HX HXS1
          obtain ⟨sv, xs, rfl, HX⟩ := hcut
          obtain ⟨-, -, -, -, -, -, x6⟩ := rep_cells HX.out.1.blk
          have hsz := HX.out.1.small
          have hxl := HX.out.2.1
          have hss := itoa_len HTR.out
          have i0 : ¬ 9223372036854775807 < sv.size + 7 := by omega
          have i1 : ¬ 9223372036854775807 < sv.size + 7 + (Lib.itoa trust).length := by omega
          clear hsz hxl hss
          go_wp2_with fail
          refine (HNU.out _ _ HTR.out).mono ?_
          rintro e w4 ⟨rfl, hb4⟩
          have HX4 := Lib.hid (HX.out.1.next hb4)
          have HF : Hid ((⟨(joinW (wordsR kn time S Ab l souls trust)).toArray⟩ : ByteArray) = sv ++ ⟨#[32, 116, 114, 117, 115, 116, 32]⟩ ++ ⟨(Lib.itoa trust).toArray⟩) := Lib.hid (by
            have h2 := (HX.out.1.put2 trustL (Lib.itoa trust) (by decide) (itoa_len HTR.out)).str
            have hw : wordsR kn time S Ab l souls trust = xs ++ [trustL, Lib.itoa trust] := by
              rw [HX.out.2.2, ← HYS.out, HXS.out]
              unfold wordsR flatW
              simp
            rw [hw, ← h2]; rfl)
          clear hb4 x6
          go_wp2_with fail
          go_ret
          exact ⟨by rw [HF.out]; rfl, HX4.out.below⟩
end Go.Proofs.YtjcaaejfokmolaaGreatDoor
