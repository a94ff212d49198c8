/- isSignal, Pack. -/
import Derived.Test.YtjcaaejfokmolaaGreatDoorRpSig
import Derived.Test.YtjcaaejfokmolaaGreatDoorRpPosP
import Derived.Test.YtjcaaejfokmolaaGreatDoorRpArea
namespace Go.Proofs.YtjcaaejfokmolaaGreatDoor
open Go.RowKit

def sigB (o x y b f : Int) : Bool := inB o 0 268435455 && (inB x (-8192) 8191 && (inB y (-8192) 8191 && (inB b 0 15 && inB f 0 15)))

set_option maxRecDepth 100000 in
set_option maxHeartbeats 2000000 in
theorem isSignal_any (o x y b f : Int) (w : World) :
    Calls Tryz.prog 59 #[.agg #[.int .i64 o, .int .i64 x, .int .i64 y, .int .i64 b, .int .i64 f]] w fun e w' => e = .returned (.bool (sigB o x y b f)) ∧ Below w.heap.size w w' := by
  obtain ⟨b1, E1⟩ : ∃ q, q = inB o 0 268435455 := ⟨_, rfl⟩
  obtain ⟨b2, E2⟩ : ∃ q, q = inB x (-8192) 8191 := ⟨_, rfl⟩
  obtain ⟨b3, E3⟩ : ∃ q, q = inB y (-8192) 8191 := ⟨_, rfl⟩
  obtain ⟨b4, E4⟩ : ∃ q, q = inB b 0 15 := ⟨_, rfl⟩
  obtain ⟨b5, E5⟩ : ∃ q, q = inB f 0 15 := ⟨_, rfl⟩
  have HR : Hid (sigB o x y b f = (b1 && (b2 && (b3 && (b4 && b5))))) := Lib.hid (by rw [E1, E2, E3, E4, E5]; rfl)
  rw [HR.out]
  have F1 : Hid (∀ W, Calls Tryz.prog 30 #[.int .i64 o, .int .i64 0, .int .i64 268435455] W fun e w' => e = .returned (.bool b1) ∧ W = w') := Lib.hid fun W => by rw [E1]; exact isFrom_any _ _ _ W
  have F2 : Hid (∀ W, Calls Tryz.prog 30 #[.int .i64 x, .int .i64 (-8192), .int .i64 8191] W fun e w' => e = .returned (.bool b2) ∧ W = w') := Lib.hid fun W => by rw [E2]; exact isFrom_any _ _ _ W
  have F3 : Hid (∀ W, Calls Tryz.prog 30 #[.int .i64 y, .int .i64 (-8192), .int .i64 8191] W fun e w' => e = .returned (.bool b3) ∧ W = w') := Lib.hid fun W => by rw [E3]; exact isFrom_any _ _ _ W
  have F4 : Hid (∀ W, Calls Tryz.prog 30 #[.int .i64 b, .int .i64 0, .int .i64 15] W fun e w' => e = .returned (.bool b4) ∧ W = w') := Lib.hid fun W => by rw [E4]; exact isFrom_any _ _ _ W
  have F5 : Hid (∀ W, Calls Tryz.prog 30 #[.int .i64 f, .int .i64 0, .int .i64 15] W fun e w' => e = .returned (.bool b5) ∧ W = w') := Lib.hid fun W => by rw [E5]; exact isFrom_any _ _ _ W
  clear E1 E2 E3 E4 E5 HR
  cases b1 with
  | false =>
    go_enter Tryz.func59, Tryz.ntmps59
    go_wp2_with (go_at_call 30; first | ((with_reducible refine (F1.out _).mono ?_); rintro e w' ⟨rfl, rfl⟩) | ((with_reducible refine (F2.out _).mono ?_); rintro e w' ⟨rfl, rfl⟩) | ((with_reducible refine (F3.out _).mono ?_); rintro e w' ⟨rfl, rfl⟩) | ((with_reducible refine (F4.out _).mono ?_); rintro e w' ⟨rfl, rfl⟩) | ((with_reducible refine (F5.out _).mono ?_); rintro e w' ⟨rfl, rfl⟩))
    go_ret
    exact ⟨by simp, (Below.refl _ _).alloc (Nat.le_refl _) _⟩
  | true =>
    cases b2 with
    | false =>
      go_enter Tryz.func59, Tryz.ntmps59
      go_wp2_with (go_at_call 30; first | ((with_reducible refine (F1.out _).mono ?_); rintro e w' ⟨rfl, rfl⟩) | ((with_reducible refine (F2.out _).mono ?_); rintro e w' ⟨rfl, rfl⟩) | ((with_reducible refine (F3.out _).mono ?_); rintro e w' ⟨rfl, rfl⟩) | ((with_reducible refine (F4.out _).mono ?_); rintro e w' ⟨rfl, rfl⟩) | ((with_reducible refine (F5.out _).mono ?_); rintro e w' ⟨rfl, rfl⟩))
      go_ret
      exact ⟨by simp, (Below.refl _ _).alloc (Nat.le_refl _) _⟩
    | true =>
      cases b3 with
      | false =>
        go_enter Tryz.func59, Tryz.ntmps59
        go_wp2_with (go_at_call 30; first | ((with_reducible refine (F1.out _).mono ?_); rintro e w' ⟨rfl, rfl⟩) | ((with_reducible refine (F2.out _).mono ?_); rintro e w' ⟨rfl, rfl⟩) | ((with_reducible refine (F3.out _).mono ?_); rintro e w' ⟨rfl, rfl⟩) | ((with_reducible refine (F4.out _).mono ?_); rintro e w' ⟨rfl, rfl⟩) | ((with_reducible refine (F5.out _).mono ?_); rintro e w' ⟨rfl, rfl⟩))
        go_ret
        exact ⟨by simp, (Below.refl _ _).alloc (Nat.le_refl _) _⟩
      | true =>
        cases b4 with
        | false =>
          go_enter Tryz.func59, Tryz.ntmps59
          go_wp2_with (go_at_call 30; first | ((with_reducible refine (F1.out _).mono ?_); rintro e w' ⟨rfl, rfl⟩) | ((with_reducible refine (F2.out _).mono ?_); rintro e w' ⟨rfl, rfl⟩) | ((with_reducible refine (F3.out _).mono ?_); rintro e w' ⟨rfl, rfl⟩) | ((with_reducible refine (F4.out _).mono ?_); rintro e w' ⟨rfl, rfl⟩) | ((with_reducible refine (F5.out _).mono ?_); rintro e w' ⟨rfl, rfl⟩))
          go_ret
          exact ⟨by simp, (Below.refl _ _).alloc (Nat.le_refl _) _⟩
        | true =>
          go_enter Tryz.func59, Tryz.ntmps59
          go_wp2_with (go_at_call 30; first | ((with_reducible refine (F1.out _).mono ?_); rintro e w' ⟨rfl, rfl⟩) | ((with_reducible refine (F2.out _).mono ?_); rintro e w' ⟨rfl, rfl⟩) | ((with_reducible refine (F3.out _).mono ?_); rintro e w' ⟨rfl, rfl⟩) | ((with_reducible refine (F4.out _).mono ?_); rintro e w' ⟨rfl, rfl⟩) | ((with_reducible refine (F5.out _).mono ?_); rintro e w' ⟨rfl, rfl⟩))
          go_ret
          exact ⟨by simp, (Below.refl _ _).alloc (Nat.le_refl _) _⟩

theorem or128 : ∀ n : Fin 128, bits .or .u8 (n.val : Int) 128 = ((n.val ||| 128 : Nat) : Int) := by decide +kernel

/-- the check of some data. -/
def packC (d : Nat) : Nat := if oddB d (synd d 0) then synd d 0 ||| 128 else synd d 0
theorem synd_lt (d c : Nat) : synd d c < 128 := syndL_lt d c _

theorem two_set {N : Nat} {W : World} {u v u0 v0 : Value} (g0 : W.cell? ⟨N, 0, none⟩ = some u0) (g1 : W.cell? ⟨N, 1, none⟩ = some v0) :
    ((W.setCell ⟨N, 0, none⟩ u).setCell ⟨N, 1, none⟩ v).cell? ⟨N, 0, none⟩ = some u ∧ ((W.setCell ⟨N, 0, none⟩ u).setCell ⟨N, 1, none⟩ v).cell? ⟨N, 1, none⟩ = some v := by
  have e1 : (W.setCell ⟨N, 0, none⟩ u).cell? ⟨N, 1, none⟩ = some v0 := (World.cell?_setCell_other W ⟨N, 0, none⟩ ⟨N, 1, none⟩ u (by intro e; injection e with _ e; cases e)).trans g1
  exact ⟨(World.cell?_setCell_other _ ⟨N, 1, none⟩ ⟨N, 0, none⟩ v (by intro e; injection e with _ e; cases e)).trans (World.cell?_setCell_same _ _ _ g0), World.cell?_setCell_same _ _ _ e1⟩

set_option maxRecDepth 100000 in
set_option maxHeartbeats 4000000 in
theorem Pack_no (o x y b f : Int) (hs : sigB o x y b f = false) (w : World) :
    Calls Tryz.prog 27 #[.agg #[.int .i64 o, .int .i64 x, .int .i64 y, .int .i64 b, .int .i64 f]] w fun e w' => e = .returned (.tuple #[.agg #[.int .u64 0, .int .u8 0], .int .i64 4]) ∧ Below w.heap.size w w' := by
  have hsg := fun W => isSignal_any o x y b f W
  rw [hs] at hsg
  have HS := Lib.hid hsg; clear hsg hs
  obtain ⟨W, hW⟩ : ∃ W, W = (w.alloc (.cells #[.int .i64 o, .int .i64 x, .int .i64 y, .int .i64 b, .int .i64 f] 38)).alloc (.cells #[.int .u64 0, .int .u8 0] 54) := ⟨_, rfl⟩
  have hWB : Below w.heap.size w W := by rw [hW]; exact ((Below.refl _ _).alloc (Nat.le_refl _) _).alloc (by simp) _
  have hsz : W.heap.size = w.heap.size + 2 := by rw [hW]; simp
  have r0 : W.cell? ⟨w.heap.size + 1, 0, none⟩ = some (.int .u64 0) := by
    rw [hW]; have := cellNew (w.alloc (.cells #[.int .i64 o, .int .i64 x, .int .i64 y, .int .i64 b, .int .i64 f] 38)) #[.int .u64 0, .int .u8 0] 54 0; rw [World.size_alloc] at this; exact this
  have r1 : W.cell? ⟨w.heap.size + 1, 1, none⟩ = some (.int .u8 0) := by
    rw [hW]; have := cellNew (w.alloc (.cells #[.int .i64 o, .int .i64 x, .int .i64 y, .int .i64 b, .int .i64 f] 38)) #[.int .u64 0, .int .u8 0] 54 1; rw [World.size_alloc] at this; exact this
  have fz : ∀ i, W.frozen? ⟨w.heap.size + 1, i, none⟩ = false := fun i => by
    have : W.heap[w.heap.size + 1]? = some (.cells #[.int .u64 0, .int .u8 0] 54 (0, 0)) := by
      rw [hW]; have := heap_alloc_new (w.alloc (.cells #[.int .i64 o, .int .i64 x, .int .i64 y, .int .i64 b, .int .i64 f] 38)) (.cells #[.int .u64 0, .int .u8 0] 54); rw [World.size_alloc] at this; exact this
    simp [World.frozen?, this]
  have HW := Lib.hid hW; have HWB := Lib.hid hWB; have HFZ := Lib.hid fz; have HR0 := Lib.hid r0; have HR1 := Lib.hid r1; have HSZ := Lib.hid hsz
  clear hW hWB fz r0 r1 hsz
  go_enter Tryz.func27, Tryz.ntmps27
  go_wp2_with fail
  rw [← HW.out]
  refine (HS.out W).mono ?_
  rintro e w1 ⟨rfl, hb⟩
  have g0 := (hb.cell (p := ⟨w.heap.size + 1, 0, none⟩) (by have := HSZ.out; simp only; omega)).trans HR0.out
  have g1 := (hb.cell (p := ⟨w.heap.size + 1, 1, none⟩) (by have := HSZ.out; simp only; omega)).trans HR1.out
  have z0 := (hb.frozen (p := ⟨w.heap.size + 1, 0, none⟩) (by have := HSZ.out; simp only; omega)).trans (HFZ.out 0)
  have z1 := (hb.frozen (p := ⟨w.heap.size + 1, 1, none⟩) (by have := HSZ.out; simp only; omega)).trans (HFZ.out 1)
  have HB := Lib.hid (HWB.out.trans (hb.mono HWB.out.size))
  clear hb
  obtain ⟨q0, q1⟩ := two_set (N := w.heap.size + 1) (u := .int .u64 0) (v := .int .u8 0) g0 g1
  have Q0 := Lib.hid q0; have Q1 := Lib.hid q1
  clear q0 q1
  go_wp2
  exact bodyPost_ret (v := .tuple #[.agg #[.int .u64 0, .int .u8 0], .int .i64 4]) (by simp [results, Tryz.results27, go_sem, Q0.out, Q1.out]) rfl ⟨rfl, (HB.out.setCell (p := ⟨w.heap.size + 1, 0, none⟩) (by simp only; omega) _).setCell (p := ⟨w.heap.size + 1, 1, none⟩) (by simp only; omega) _⟩

set_option maxRecDepth 100000 in
set_option maxHeartbeats 8000000 in
theorem Pack_yes (o x y b f : Int) (hs : sigB o x y b f = true) (w : World) :
    Calls Tryz.prog 27 #[.agg #[.int .i64 o, .int .i64 x, .int .i64 y, .int .i64 b, .int .i64 f]] w fun e w' => e = .returned (.tuple #[.agg #[.int .u64 (dataN o x y b f), .int .u8 (packC (dataN o x y b f))], .int .i64 0]) ∧ Below w.heap.size w w' := by
  have hsg := fun W => isSignal_any o x y b f W
  rw [hs] at hsg
  have HS := Lib.hid hsg; clear hsg
  unfold sigB at hs
  rw [Bool.and_eq_true, Bool.and_eq_true, Bool.and_eq_true, Bool.and_eq_true, inB_true, inB_true, inB_true, inB_true, inB_true] at hs
  obtain ⟨h1, h2, h3, h4, h5⟩ := hs
  have hdl := dataN_lt o x y b f h1 h4 h5
  have hdt := fun W => dataOf_any o x y b f h1 h2 h3 h4 h5 W
  obtain ⟨d, hd⟩ : ∃ d, d = dataN o x y b f := ⟨_, rfl⟩
  rw [← hd] at hdl hdt ⊢
  obtain ⟨s, hss⟩ : ∃ s, s = synd d 0 := ⟨_, rfl⟩
  have hs128 : s < 128 := by rw [hss]; exact synd_lt d 0
  have HDT := Lib.hid hdt
  have HPT : Hid (∀ W, Calls Tryz.prog 69 #[.agg #[.int .u64 d, .int .u8 0]] W fun e w' => e = .returned (.int .i64 s) ∧ Below W.heap.size W w') := Lib.hid fun W => by rw [hss]; exact pointer_any d 0 hdl (by omega) W
  have hod : ∀ W, Calls Tryz.prog 70 #[.agg #[.int .u64 d, .int .u8 s]] W fun e w' => e = .returned (.bool (oddB d s)) ∧ Below W.heap.size W w' := fun W => isOdd_any d s (by omega) W
  have HPC : Hid (packC d = if oddB d s then s ||| 128 else s) := Lib.hid (by rw [hss]; rfl)
  have HOR : Hid (bits .or .u8 (s : Int) 128 = ((s ||| 128 : Nat) : Int)) := Lib.hid (or128 ⟨s, hs128⟩)
  have hsl : s ||| 128 < 256 := Nat.or_lt_two_pow (n := 8) (by omega) (by omega)
  clear h1 h2 h3 h4 h5 hdt hss hd
  obtain ⟨W, hW⟩ : ∃ W, W = (w.alloc (.cells #[.int .i64 o, .int .i64 x, .int .i64 y, .int .i64 b, .int .i64 f] 38)).alloc (.cells #[.int .u64 0, .int .u8 0] 54) := ⟨_, rfl⟩
  have hWB : Below w.heap.size w W := by rw [hW]; exact ((Below.refl _ _).alloc (Nat.le_refl _) _).alloc (by simp) _
  have hsz : W.heap.size = w.heap.size + 2 := by rw [hW]; simp
  have hr : W.heap[w.heap.size + 1]? = some (.cells #[.int .u64 0, .int .u8 0] 54 (0, 0)) := by
    rw [hW]; have := heap_alloc_new (w.alloc (.cells #[.int .i64 o, .int .i64 x, .int .i64 y, .int .i64 b, .int .i64 f] 38)) (.cells #[.int .u64 0, .int .u8 0] 54); rw [World.size_alloc] at this; exact this
  have hbx : W.heap[w.heap.size]? = some (.cells #[.int .i64 o, .int .i64 x, .int .i64 y, .int .i64 b, .int .i64 f] 38 (0, 0)) := by
    rw [hW]; exact (Below.heap_alloc _ _ _ (by simp)).trans (heap_alloc_new w _)
  have HW := Lib.hid hW; have HWB := Lib.hid hWB; have HR := Lib.hid hr; have HBX := Lib.hid hbx; have HSZ := Lib.hid hsz
  clear hW hWB hr hbx hsz
  go_enter Tryz.func27, Tryz.ntmps27
  go_wp2_with fail
  rw [← HW.out]
  refine (HS.out W).mono ?_
  rintro e w1 ⟨rfl, hb1⟩
  have hx1 := (hb1.block w.heap.size (by have := HSZ.out; omega)).trans HBX.out
  have x0 : w1.cell? ⟨w.heap.size, 0, none⟩ = some (.int .i64 o) := by simp [World.cell?, hx1]
  have x1 : w1.cell? ⟨w.heap.size, 1, none⟩ = some (.int .i64 x) := by simp [World.cell?, hx1]
  have x2 : w1.cell? ⟨w.heap.size, 2, none⟩ = some (.int .i64 y) := by simp [World.cell?, hx1]
  have x3 : w1.cell? ⟨w.heap.size, 3, none⟩ = some (.int .i64 b) := by simp [World.cell?, hx1]
  have x4 : w1.cell? ⟨w.heap.size, 4, none⟩ = some (.int .i64 f) := by simp [World.cell?, hx1]
  have HB1 := Lib.hid hb1; clear hb1 hx1
  go_wp2_with fail
  refine (HDT.out w1).mono ?_
  rintro e w2 ⟨rfl, hb2⟩
  have HB2 := Lib.hid (below_chain HB1.out hb2); clear hb2 x0 x1 x2 x3 x4
  go_wp2_with fail
  obtain ⟨W3, hW3⟩ : ∃ W3, W3 = w2.alloc (.cells #[.int .u64 d, .int .u8 0] 54) := ⟨_, rfl⟩
  rw [← hW3]
  have hf3 : W3.heap[w2.heap.size]? = some (.cells #[.int .u64 d, .int .u8 0] 54 (0, 0)) := by rw [hW3]; exact heap_alloc_new w2 _
  have hb3 : Below W.heap.size W W3 := by rw [hW3]; exact HB2.out.alloc HB2.out.size _
  have hsz3 : W3.heap.size = w2.heap.size + 1 := by rw [hW3]; simp
  have HB3 := Lib.hid hb3; have HF3 := Lib.hid hf3; have HSZ3 := Lib.hid hsz3
  have HL2 : Hid (W.heap.size ≤ w2.heap.size) := Lib.hid HB2.out.size
  clear hW3 hb3 hf3 hsz3
  refine (HPT.out W3).mono ?_
  rintro e w4 ⟨rfl, hb4⟩
  have hf4 := (hb4.block w2.heap.size (by have := HSZ3.out; omega)).trans HF3.out
  have y1 : w4.cell? ⟨w2.heap.size, 1, none⟩ = some (.int .u8 0) := by simp [World.cell?, hf4]
  have y0 : w4.cell? ⟨w2.heap.size, 0, none⟩ = some (.int .u64 d) := by simp [World.cell?, hf4]
  have yf : w4.frozen? ⟨w2.heap.size, 1, none⟩ = false := by simp [World.frozen?, hf4]
  have HB4 := Lib.hid (below_chain HB3.out hb4); have HF4 := Lib.hid hf4
  have HL4 : Hid (w2.heap.size < w4.heap.size) := Lib.hid (by have := hb4.size; have := HSZ3.out; omega)
  clear hb4 hf4
  go_wp2_with fail
  obtain ⟨W5, hW5⟩ : ∃ W5, W5 = w4.setCell ⟨w2.heap.size, 1, none⟩ (.int .u8 (s : Int)) := ⟨_, rfl⟩
  rw [← hW5]
  have hf5 : W5.heap[w2.heap.size]? = some (.cells #[.int .u64 d, .int .u8 s] 54 (0, 0)) := by rw [hW5]; exact heap_set HF4.out 1 _
  have HB5 : Hid (Below W.heap.size W W5) := Lib.hid (by rw [hW5]; exact HB4.out.setCell (p := ⟨w2.heap.size, 1, none⟩) HL2.out _)
  have HL5 : Hid (w2.heap.size < W5.heap.size) := Lib.hid (by rw [hW5]; simpa [World.setCell] using HL4.out)
  have HF5 := Lib.hid hf5
  clear hW5 hf5 y0 y1 yf
  obtain ⟨od, hod2⟩ : ∃ od, od = oddB d s := ⟨_, rfl⟩
  rw [← hod2] at hod HPC
  have HOD := Lib.hid hod
  clear hod hod2
  refine (HOD.out W5).mono ?_
  rintro e w6 ⟨rfl, hb6⟩
  have hf6 := (hb6.block w2.heap.size HL5.out).trans HF5.out
  have y0 : w6.cell? ⟨w2.heap.size, 0, none⟩ = some (.int .u64 d) := by simp [World.cell?, hf6]
  have y1 : w6.cell? ⟨w2.heap.size, 1, none⟩ = some (.int .u8 s) := by simp [World.cell?, hf6]
  have yf : w6.frozen? ⟨w2.heap.size, 1, none⟩ = false := by simp [World.frozen?, hf6]
  have hb6' := below_chain HB5.out hb6
  have hr6 := (hb6'.block (w.heap.size + 1) (by have := HSZ.out; omega)).trans HR.out
  have g0 : w6.cell? ⟨w.heap.size + 1, 0, none⟩ = some (.int .u64 0) := by simp [World.cell?, hr6]
  have g1 : w6.cell? ⟨w.heap.size + 1, 1, none⟩ = some (.int .u8 0) := by simp [World.cell?, hr6]
  have z0 : w6.frozen? ⟨w.heap.size + 1, 0, none⟩ = false := by simp [World.frozen?, hr6]
  have z1 : w6.frozen? ⟨w.heap.size + 1, 1, none⟩ = false := by simp [World.frozen?, hr6]
  have HB6 := Lib.hid (HWB.out.trans (hb6'.mono HWB.out.size))
  have HNE : Hid (w.heap.size + 1 ≠ w2.heap.size) := Lib.hid (by have := HSZ.out; have := HL2.out; omega)
  have HLE : Hid (w.heap.size ≤ w2.heap.size) := Lib.hid (by have := HSZ.out; have := HL2.out; omega)
  clear hb6 hf6 hb6' hr6
  cases od with
  | false =>
    obtain ⟨q0, q1⟩ := two_set (N := w.heap.size + 1) (u := .int .u64 d) (v := .int .u8 s) g0 g1
    have Q0 := Lib.hid q0; have Q1 := Lib.hid q1
    have HV : Hid (packC d = s) := Lib.hid HPC.out
    clear q0 q1
    go_wp2
    rw [HV.out]
    exact bodyPost_ret (v := .tuple #[.agg #[.int .u64 d, .int .u8 s], .int .i64 0]) (by simp [results, Tryz.results27, go_sem, Q0.out, Q1.out]) rfl ⟨rfl, (HB6.out.setCell (p := ⟨w.heap.size + 1, 0, none⟩) (by simp only; omega) _).setCell (p := ⟨w.heap.size + 1, 1, none⟩) (by simp only; omega) _⟩
  | true =>
    obtain ⟨v, hv⟩ : ∃ v, v = s ||| 128 := ⟨_, rfl⟩
    have hor := HOR.out
    have HV : Hid (packC d = v) := Lib.hid (by rw [hv]; exact HPC.out)
    rw [← hv] at hor
    obtain ⟨W7, hW7⟩ : ∃ W7, W7 = w6.setCell ⟨w2.heap.size, 1, none⟩ (.int .u8 (v : Int)) := ⟨_, rfl⟩
    have k1 : (w6.setCell ⟨w2.heap.size, 1, none⟩ (.int .u8 (v : Int))).cell? ⟨w2.heap.size, 1, none⟩ = some (.int .u8 (v : Int)) := World.cell?_setCell_same _ _ _ y1
    have k0 : (w6.setCell ⟨w2.heap.size, 1, none⟩ (.int .u8 (v : Int))).cell? ⟨w2.heap.size, 0, none⟩ = some (.int .u64 d) := (World.cell?_setCell_other w6 ⟨w2.heap.size, 1, none⟩ ⟨w2.heap.size, 0, none⟩ _ (by intro e; injection e with _ e; cases e)).trans y0
    have n0 : (w6.setCell ⟨w2.heap.size, 1, none⟩ (.int .u8 (v : Int))).cell? ⟨w.heap.size + 1, 0, none⟩ = some (.int .u64 0) := (World.cell?_setCell_other w6 ⟨w2.heap.size, 1, none⟩ ⟨w.heap.size + 1, 0, none⟩ _ (by intro e; injection e with e _; exact HNE.out e.symm)).trans g0
    have n1 : (w6.setCell ⟨w2.heap.size, 1, none⟩ (.int .u8 (v : Int))).cell? ⟨w.heap.size + 1, 1, none⟩ = some (.int .u8 0) := (World.cell?_setCell_other w6 ⟨w2.heap.size, 1, none⟩ ⟨w.heap.size + 1, 1, none⟩ _ (by intro e; injection e with e _; exact HNE.out e.symm)).trans g1
    obtain ⟨q0, q1⟩ := two_set (N := w.heap.size + 1) (u := .int .u64 d) (v := .int .u8 v) n0 n1
    have Q0 := Lib.hid q0; have Q1 := Lib.hid q1
    clear q0 q1 hW7 hv
    go_wp2
    rw [HV.out]
    exact bodyPost_ret (v := .tuple #[.agg #[.int .u64 d, .int .u8 v], .int .i64 0]) (by simp [results, Tryz.results27, go_sem, Q0.out, Q1.out]) rfl ⟨rfl, ((HB6.out.setCell (p := ⟨w2.heap.size, 1, none⟩) HLE.out _).setCell (p := ⟨w.heap.size + 1, 0, none⟩) (by simp only; omega) _).setCell (p := ⟨w.heap.size + 1, 1, none⟩) (by simp only; omega) _⟩
end Go.Proofs.YtjcaaejfokmolaaGreatDoor
