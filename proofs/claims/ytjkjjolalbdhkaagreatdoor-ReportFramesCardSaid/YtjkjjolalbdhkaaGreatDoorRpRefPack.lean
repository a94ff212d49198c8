/- The document's Pack. -/
import Derived.Test.YtjkjjolalbdhkaaGreatDoorRpRefRight2
import Derived.Deep.DeepCutAuto
namespace Go.Proofs.YtjkjjolalbdhkaaGreatDoor
open Go.RowKit

abbrev frZ : Obj := .cells #[.int .u64 0, .int .u8 0] 26 (0, 0)
set_option maxRecDepth 100000 in
set_option maxHeartbeats 4000000 in
theorem refPack_no (o x y b f : Int) (hs : sigB o x y b f = false) (w : World) :
    Calls Tryz.prog 5 #[.agg #[.int .i64 o, .int .i64 x, .int .i64 y, .int .i64 b, .int .i64 f]] w fun e w' => e = .returned (.tuple #[.agg #[.int .u64 0, .int .u8 0], .int .i64 4]) ∧ Below w.heap.size w w' := by
  have hsg := fun W => refSignal_any o x y b f W
  rw [hs] at hsg
  have HS := Lib.hid hsg; clear hsg hs
  obtain ⟨W, hW⟩ : ∃ W, W = (w.alloc (.cells #[.int .i64 o, .int .i64 x, .int .i64 y, .int .i64 b, .int .i64 f] 23)).alloc (.cells #[.int .u64 0, .int .u8 0] 26) := ⟨_, rfl⟩
  have hWB : Below w.heap.size w W := by rw [hW]; exact ((Below.refl _ _).alloc (Nat.le_refl _) _).alloc (by simp) _
  have hsz : W.heap.size = w.heap.size + 2 := by rw [hW]; simp
  have r0 : W.cell? ⟨w.heap.size + 1, 0, none⟩ = some (.int .u64 0) := by
    rw [hW]; have := cellNew (w.alloc (.cells #[.int .i64 o, .int .i64 x, .int .i64 y, .int .i64 b, .int .i64 f] 23)) #[.int .u64 0, .int .u8 0] 26 0; rw [World.size_alloc] at this; exact this
  have r1 : W.cell? ⟨w.heap.size + 1, 1, none⟩ = some (.int .u8 0) := by
    rw [hW]; have := cellNew (w.alloc (.cells #[.int .i64 o, .int .i64 x, .int .i64 y, .int .i64 b, .int .i64 f] 23)) #[.int .u64 0, .int .u8 0] 26 1; rw [World.size_alloc] at this; exact this
  have fz : ∀ i, W.frozen? ⟨w.heap.size + 1, i, none⟩ = false := fun i => by
    have : W.heap[w.heap.size + 1]? = some (.cells #[.int .u64 0, .int .u8 0] 26 (0, 0)) := by
      rw [hW]; have := heap_alloc_new (w.alloc (.cells #[.int .i64 o, .int .i64 x, .int .i64 y, .int .i64 b, .int .i64 f] 23)) (.cells #[.int .u64 0, .int .u8 0] 26); rw [World.size_alloc] at this; exact this
    simp [World.frozen?, this]
  have HW := Lib.hid hW; have HWB := Lib.hid hWB; have HFZ := Lib.hid fz; have HR0 := Lib.hid r0; have HR1 := Lib.hid r1; have HSZ := Lib.hid hsz
  clear hW hWB fz r0 r1 hsz
  go_enter Tryz.func5, Tryz.ntmps5
  go_wp2_with fail
  rw [← HW.out]
  refine (HS.out W).mono ?_
  rintro e w1 ⟨rfl, hb⟩
  have g0 := (hb.cell (p := ⟨w.heap.size + 1, 0, none⟩) (by have := HSZ.out; simp only; omega)).trans HR0.out
  have g1 := (hb.cell (p := ⟨w.heap.size + 1, 1, none⟩) (by have := HSZ.out; simp only; omega)).trans HR1.out
  have z0 := (hb.frozen (p := ⟨w.heap.size + 1, 0, none⟩) (by have := HSZ.out; simp only; omega)).trans (HFZ.out 0)
  have z1 := (hb.frozen (p := ⟨w.heap.size + 1, 1, none⟩) (by have := HSZ.out; simp only; omega)).trans (HFZ.out 1)
  have HB := Lib.hid (HWB.out.trans (hb.mono HWB.out.size))
  clear hb
  obtain ⟨q0, q1⟩ := two_set (N := w.heap.size + 1) (u := .int .u64 0) (v := .int .u8 0) g0 g1
  have Q0 := Lib.hid q0; have Q1 := Lib.hid q1
  clear q0 q1
  go_wp2
  exact bodyPost_ret (v := .tuple #[.agg #[.int .u64 0, .int .u8 0], .int .i64 4]) (by simp [results, Tryz.results5, go_sem, Q0.out, Q1.out]) rfl ⟨rfl, (HB.out.setCell (p := ⟨w.heap.size + 1, 0, none⟩) (by simp only; omega) _).setCell (p := ⟨w.heap.size + 1, 1, none⟩) (by simp only; omega) _⟩

set_option maxRecDepth 100000 in
set_option maxHeartbeats 4000000 in
theorem refPack_yes (o x y b f : Int) (hs : sigB o x y b f = true) (w : World) :
    Calls Tryz.prog 5 #[.agg #[.int .i64 o, .int .i64 x, .int .i64 y, .int .i64 b, .int .i64 f]] w fun e w' => e = .returned (.tuple #[.agg #[.int .u64 (dataN o x y b f), .int .u8 (packC (dataN o x y b f))], .int .i64 0]) ∧ Below w.heap.size w w' := by
  have hsg := fun W => refSignal_any o x y b f W
  rw [hs] at hsg
  have HS := Lib.hid hsg; clear hsg
  unfold sigB at hs
  rw [Bool.and_eq_true, Bool.and_eq_true, Bool.and_eq_true, Bool.and_eq_true, inB_true, inB_true, inB_true, inB_true, inB_true] at hs
  obtain ⟨h1, h2, h3, h4, h5⟩ := hs
  have hdl := dataN_lt o x y b f h1 h4 h5
  obtain ⟨xm, e1⟩ : ∃ v, (x + 16384) % 16384 = v := ⟨_, rfl⟩
  obtain ⟨xs, e2⟩ : ∃ v, xm * 268435456 = v := ⟨_, rfl⟩
  obtain ⟨s1, e3⟩ : ∃ v, o + xs = v := ⟨_, rfl⟩
  obtain ⟨ym, e4⟩ : ∃ v, (y + 16384) % 16384 = v := ⟨_, rfl⟩
  obtain ⟨ys, e5⟩ : ∃ v, ym * 4398046511104 = v := ⟨_, rfl⟩
  obtain ⟨s2, e6⟩ : ∃ v, s1 + ys = v := ⟨_, rfl⟩
  obtain ⟨bs, e7⟩ : ∃ v, b * 72057594037927936 = v := ⟨_, rfl⟩
  obtain ⟨s3, e8⟩ : ∃ v, s2 + bs = v := ⟨_, rfl⟩
  obtain ⟨fs, e9⟩ : ∃ v, f * 1152921504606846976 = v := ⟨_, rfl⟩
  have b1 : 0 ≤ xm ∧ xm ≤ 16383 := by omega
  have b2 : 0 ≤ xs ∧ xs ≤ 4397778075648 := by omega
  have b3 : 0 ≤ s1 ∧ s1 ≤ 4398046511103 := by omega
  have b4 : 0 ≤ ym ∧ ym ≤ 16383 := by omega
  have b5 : 0 ≤ ys ∧ ys ≤ 72053195991416832 := by omega
  have b6 : 0 ≤ s2 ∧ s2 ≤ 72057594037927935 := by omega
  have b7 : 0 ≤ bs ∧ bs ≤ 1080863910568919040 := by omega
  have b8 : 0 ≤ s3 ∧ s3 ≤ 1152921504606846975 := by omega
  have b9 : 0 ≤ fs ∧ fs ≤ 17293822569102704640 := by omega
  have e10 : s3 + fs = ((dataN o x y b f : Nat) : Int) := by
    unfold dataN
    omega
  have e11 : IntKind.u64.wrap (s3 + fs) = ((dataN o x y b f : Nat) : Int) := by
    rw [IntKind.wrap_u64, e10]; omega
  obtain ⟨d, hd⟩ : ∃ d, d = dataN o x y b f := ⟨_, rfl⟩
  rw [← hd] at hdl e10 e11 ⊢
  obtain ⟨pc, hpc⟩ : ∃ pc, pc = packC d := ⟨_, rfl⟩
  have hpl : pc < 256 := by rw [hpc]; exact (pack_right d hdl).2
  have HRT : Hid (∀ c : Nat, c < 256 → ∀ W, Calls Tryz.prog 14 #[.agg #[.int .u64 d, .int .u8 c]] W fun e w' => e = .returned (.bool (rightL d c)) ∧ Below W.heap.size W w') := Lib.hid fun c hc W => refRight_any d c hdl hc W
  have HNO : Hid (∀ c : Nat, c < pc → rightL d c = false) := Lib.hid fun c hc => by
    cases e : rightL d c with
    | false => rfl
    | true => have := right_one d c hdl (by omega) ((right_is d c hdl (by omega)).1 e); rw [← hpc] at this; omega
  have HYES : Hid (rightL d pc = true) := Lib.hid (by rw [hpc]; exact (right_is d _ hdl (pack_right d hdl).2).2 (pack_right d hdl).1)
  rw [← hpc]
  have HDL := Lib.hid hdl; have HPL := Lib.hid hpl
  clear hd hpc hdl hpl
  obtain ⟨b1, b1'⟩ := b1; obtain ⟨b2, b2'⟩ := b2; obtain ⟨b3, b3'⟩ := b3; obtain ⟨b4, b4'⟩ := b4; obtain ⟨b5, b5'⟩ := b5; obtain ⟨b6, b6'⟩ := b6; obtain ⟨b7, b7'⟩ := b7; obtain ⟨b8, b8'⟩ := b8; obtain ⟨b9, b9'⟩ := b9
  obtain ⟨h1, h1'⟩ := h1; obtain ⟨h2, h2'⟩ := h2; obtain ⟨h3, h3'⟩ := h3; obtain ⟨h4, h4'⟩ := h4; obtain ⟨h5, h5'⟩ := h5
  obtain ⟨W, hW⟩ : ∃ W, W = (w.alloc (sigO o x y b f)).alloc frZ := ⟨_, rfl⟩
  have hWB : Below w.heap.size w W := by rw [hW]; exact ((Below.refl _ _).alloc (Nat.le_refl _) _).alloc (by simp) _
  have hr : W.heap[w.heap.size + 1]? = some frZ := by
    rw [hW]; have := heap_alloc_new (w.alloc (sigO o x y b f)) frZ; rw [World.size_alloc] at this; exact this
  have hbx : W.heap[w.heap.size]? = some (sigO o x y b f) := by
    rw [hW]; exact (Below.heap_alloc _ _ _ (by simp)).trans (heap_alloc_new w _)
  have HW := Lib.hid hW; have HWB := Lib.hid hWB; have HR := Lib.hid hr; have HBX := Lib.hid hbx
  clear hW hWB hr hbx
  go_enter Tryz.func5, Tryz.ntmps5
  go_wp2_with fail
  rw [← HW.out]
  refine (HS.out W).mono ?_
  rintro e w1 ⟨rfl, hb1⟩
  obtain ⟨x0, x1, x2, x3, x4⟩ := sig_cells (stay HBX.out hb1)
  have HI1 : Hid (Below w.heap.size w w1 ∧ w1.heap[w.heap.size + 1]? = some frZ) := Lib.hid ⟨below_chain HWB.out hb1, stay HR.out hb1⟩
  clear hb1 HW HWB HR HBX HS
  go_upto_region 4 with fail
  rw [e1, e4]
  clear e1 e2 e3 e4 e5 e6 e7 e8 e9 e10 e11 b1 b1' b2 b2' b3 b3' b4 b4' b5 b5' b6 b6' b7 b7' b8 b8' b9 b9' h1 h1' h2 h2' h3 h3' h4 h4' h5 h5' x0 x1 x2 x3 x4
  go_wp2_with fail
  go_loopw [5] (fun cv wr => ∃ c : Nat, c ≤ pc ∧ cv = .int .i64 c ∧ Hid (Below w.heap.size w wr ∧ wr.heap[w.heap.size + 1]? = some frZ)) (fun cv _ => 256 - (intOf cv).toNat)
  case atStart => exact ⟨0, Nat.zero_le _, rfl, HI1⟩
  case round =>
    obtain ⟨c, hc, rfl, HI⟩ := hrel
    have hc256 : c < 256 := Nat.lt_of_le_of_lt hc HPL.out
    have HR := Lib.hid (HRT.out c hc256)
    go_wp2_with fail
    obtain ⟨W3, hW3⟩ : ∃ W3, W3 = wr.alloc (frO d c) := ⟨_, rfl⟩
    rw [← hW3]
    have hb3 : Below wr.heap.size wr W3 := by rw [hW3]; exact new_below _ _
    have f3 : W3.heap[wr.heap.size]? = some (frO d c) := by rw [hW3]; exact heap_alloc_new _ _
    have r3 := stay HI.out.2 hb3
    have t3 := below_chain HI.out.1 hb3
    have F3 := Lib.hid f3; have R3 := Lib.hid r3; have T3 := Lib.hid t3
    clear hW3 hb3 f3 r3 t3
    have HC256 := Lib.hid hc256
    by_cases hlt : c < pc
    · rw [HNO.out c hlt] at HR
      have HLT := Lib.hid hlt
      clear hlt hc
      refine (HR.out W3).mono ?_
      rintro e w4 ⟨rfl, hb4⟩
      have HB4 : Hid (Below w.heap.size w w4 ∧ w4.heap[w.heap.size + 1]? = some frZ) := Lib.hid ⟨below_chain T3.out hb4, stay R3.out hb4⟩
      clear hb4 F3 R3 T3 HR
      go_wp2
      go_roundw
      case rel => exact ⟨c + 1, HLT.out, by go_num, HB4⟩
      case measure => have := HC256.out; simp [intOf]; omega
    · obtain rfl : c = pc := by omega
      rw [HYES.out] at HR
      refine (HR.out W3).mono ?_
      rintro e w4 ⟨rfl, hb4⟩
      obtain ⟨y0, y1⟩ := fr_cells (stay F3.out hb4)
      have hr4 := stay R3.out hb4
      have g0 : w4.cell? ⟨w.heap.size + 1, 0, none⟩ = some (.int .u64 0) := by simp [World.cell?, hr4]
      have g1 : w4.cell? ⟨w.heap.size + 1, 1, none⟩ = some (.int .u8 0) := by simp [World.cell?, hr4]
      have z0 : w4.frozen? ⟨w.heap.size + 1, 0, none⟩ = false := by simp [World.frozen?, hr4]
      have z1 : w4.frozen? ⟨w.heap.size + 1, 1, none⟩ = false := by simp [World.frozen?, hr4]
      have HB := Lib.hid (below_chain T3.out hb4)
      obtain ⟨q0, q1⟩ := two_set (N := w.heap.size + 1) (u := .int .u64 d) (v := .int .u8 c) g0 g1
      have Q0 := Lib.hid q0; have Q1 := Lib.hid q1
      clear q0 q1 hb4 hr4 F3 R3 T3 HR hlt hc
      go_wp2
      exact bodyPost_ret (v := .tuple #[.agg #[.int .u64 d, .int .u8 c], .int .i64 0]) (by simp [results, Tryz.results5, go_sem, Q0.out, Q1.out]) rfl ⟨rfl, (HB.out.setCell (p := ⟨w.heap.size + 1, 0, none⟩) (by simp only; omega) _).setCell (p := ⟨w.heap.size + 1, 1, none⟩) (by simp only; omega) _⟩
end Go.Proofs.YtjkjjolalbdhkaaGreatDoor
