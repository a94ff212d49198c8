/- The law of frames: its walk. -/
import Derived.Test.YtjkjjolalbdhkaaGreatDoorRpRefMend
import Derived.Test.YtjkjjolalbdhkaaGreatDoorRpRefPack
import Derived.Test.YtjkjjolalbdhkaaGreatDoorRpAwake
namespace Go.Proofs.YtjkjjolalbdhkaaGreatDoor
open Go.RowKit

/-- what Pack answers, the code's and the document's. -/
def packA (o x y b f : Int) : Value := if sigB o x y b f then .agg #[.int .u64 (dataN o x y b f), .int .u8 (packC (dataN o x y b f))] else .agg #[.int .u64 0, .int .u8 0]
def packE (o x y b f : Int) : Int := if sigB o x y b f then 0 else 4
theorem pack_both (o x y b f : Int) : ∃ (d c : Nat) (e : Int), (∀ W, Calls Tryz.prog 4 #[sigA o x y b f] W fun r w' => r = .returned (.tuple #[.agg #[.int .u64 d, .int .u8 c], .int .i64 e]) ∧ Below W.heap.size W w') ∧
    (∀ W, Calls Tryz.prog 5 #[sigA o x y b f] W fun r w' => r = .returned (.tuple #[.agg #[.int .u64 d, .int .u8 c], .int .i64 e]) ∧ Below W.heap.size W w') := by
  cases hs : sigB o x y b f with
  | true => exact ⟨_, _, _, fun W => Pack_yes o x y b f hs W, fun W => refPack_yes o x y b f hs W⟩
  | false => exact ⟨0, 0, 4, fun W => Pack_no o x y b f hs W, fun W => refPack_no o x y b f hs W⟩
theorem mendV_shape (r : Option (Nat × Bool)) : ∃ (o x y b f : Int) (m : Bool) (e : Int), mendV r = .tuple #[.agg #[.int .i64 o, .int .i64 x, .int .i64 y, .int .i64 b, .int .i64 f], .bool m, .int .i64 e] := by
  cases r with
  | none => exact ⟨_, _, _, _, _, _, _, rfl⟩
  | some p => exact ⟨_, _, _, _, _, _, _, rfl⟩
theorem mend_both (d c : Nat) (hd : d < 18446744073709551616) (hc : c < 256) : ∃ (o x y b f : Int) (m : Bool) (e : Int), (∀ W, Calls Tryz.prog 6 #[.agg #[.int .u64 d, .int .u8 c]] W fun r w' => r = .returned (.tuple #[.agg #[.int .i64 o, .int .i64 x, .int .i64 y, .int .i64 b, .int .i64 f], .bool m, .int .i64 e]) ∧ Below W.heap.size W w') ∧
    (∀ W, Calls Tryz.prog 7 #[.agg #[.int .u64 d, .int .u8 c]] W fun r w' => r = .returned (.tuple #[.agg #[.int .i64 o, .int .i64 x, .int .i64 y, .int .i64 b, .int .i64 f], .bool m, .int .i64 e]) ∧ Below W.heap.size W w') := by
  obtain ⟨o, x, y, b, f, m, e, h⟩ := mendV_shape (mendR d c)
  refine ⟨o, x, y, b, f, m, e, fun W => ?_, fun W => ?_⟩
  · have := Mend_any d c hd hc W; rwa [h] at this
  · have := refMend_any d c hd hc W; rwa [h] at this

set_option maxRecDepth 100000 in
set_option maxHeartbeats 2000000 in
theorem frames_law (o x y b f : Int) (d c : Nat) (hd : d < 18446744073709551616) (hc : c < 256) (m : Int) (w : World) (hE : Env m w) :
    Calls Tryz.prog 3 #[sigA o x y b f, .agg #[.int .u64 d, .int .u8 c]] w fun e w' => e = .returned (.bool true) ∧ Below w.heap.size w w' := by
  obtain ⟨pd, pc, pe, P1, P2⟩ := pack_both o x y b f
  obtain ⟨mo, mx, my, mb, mf, mm, me, M1, M2⟩ := mend_both d c hd hc
  have HP1 := Lib.hid P1; have HP2 := Lib.hid P2; have HM1 := Lib.hid M1; have HM2 := Lib.hid M2
  clear P1 P2 M1 M2 hd hc
  obtain ⟨n, hn⟩ : ∃ n, n = w.heap.size := ⟨_, rfl⟩
  obtain ⟨W, hW⟩ : ∃ W, W = (w.alloc (sigO o x y b f)).alloc (frO d c) := ⟨_, rfl⟩
  have hWB : Below w.heap.size w W := by rw [hW]; exact ((Below.refl _ _).alloc (Nat.le_refl _) _).alloc (by simp) _
  have hr : W.heap[n + 1]? = some (frO d c) := by
    rw [hW, hn]; have := heap_alloc_new (w.alloc (sigO o x y b f)) (frO d c); rw [World.size_alloc] at this; exact this
  have hbx : W.heap[n]? = some (sigO o x y b f) := by
    rw [hW, hn]; exact (Below.heap_alloc _ _ _ (by simp)).trans (heap_alloc_new w _)
  have HE := Lib.hid (hE.below hWB)
  have HW := Lib.hid hW; have HT0 := Lib.hid hWB; have HF0 := Lib.hid hr; have HS0 := Lib.hid hbx; have HN := Lib.hid hn
  clear hW hWB hr hbx hE hn
  go_enter Tryz.func3, Tryz.ntmps3
  go_wp2_with fail
  rw [← HW.out, ← HN.out]
  refine (HP1.out W).mono ?_
  rintro e w1 ⟨rfl, hb1⟩
  have HF1 := Lib.hid (stay HF0.out hb1); have HS1 := Lib.hid (stay HS0.out hb1); have HT1 := Lib.hid (below_chain HT0.out hb1); have HE1 := Lib.hid (HE.out.below hb1)
  clear hb1 HF0 HS0 HT0 HE HW HN HP1
  obtain ⟨x0, x1, x2, x3, x4⟩ := sig_cells HS1.out
  have hlt1 : n < w1.heap.size := (Array.getElem?_eq_some_iff.1 HS1.out).1
  go_wp2_with fail
  obtain ⟨W2, hW2⟩ : ∃ W2, W2 = w1.alloc (frO pd pc) := ⟨_, rfl⟩
  rw [← hW2]
  obtain ⟨n1, hn1⟩ : ∃ n1, n1 = w1.heap.size := ⟨_, rfl⟩
  have hb2 : Below w1.heap.size w1 W2 := by rw [hW2]; exact new_below _ _
  have HA2 : Hid (W2.heap[n1]? = some (frO pd pc)) := Lib.hid (by rw [hW2, hn1]; exact heap_alloc_new _ _)
  have HF2 := Lib.hid (stay HF1.out hb2); have HT2 := Lib.hid (below_chain HT1.out hb2); have HE2 := Lib.hid (HE1.out.below hb2)
  rw [← hn1]
  clear hW2 hb2 hn1 HF1 HS1 HT1 HE1 x0 x1 x2 x3 x4 hlt1
  refine (HP2.out W2).mono ?_
  rintro e w3 ⟨rfl, hb3⟩
  have HA3 := Lib.hid (stay HA2.out hb3); have HF3 := Lib.hid (stay HF2.out hb3); have HT3 := Lib.hid (below_chain HT2.out hb3); have HE3 := Lib.hid (HE2.out.below hb3)
  clear hb3 HA2 HF2 HT2 HE2 HP2
  obtain ⟨y0, y1⟩ := fr_cells HF3.out
  have hlt3 : n + 1 < w3.heap.size := (Array.getElem?_eq_some_iff.1 HF3.out).1
  go_wp2_with fail
  obtain ⟨W4, hW4⟩ : ∃ W4, W4 = w3.alloc (frO pd pc) := ⟨_, rfl⟩
  rw [← hW4]
  obtain ⟨n3, hn3⟩ : ∃ n3, n3 = w3.heap.size := ⟨_, rfl⟩
  have hb4 : Below w3.heap.size w3 W4 := by rw [hW4]; exact new_below _ _
  have HB4 : Hid (W4.heap[n3]? = some (frO pd pc)) := Lib.hid (by rw [hW4, hn3]; exact heap_alloc_new _ _)
  have HA4 := Lib.hid (stay HA3.out hb4); have HF4 := Lib.hid (stay HF3.out hb4); have HT4 := Lib.hid (below_chain HT3.out hb4); have HE4 := Lib.hid (HE3.out.below hb4)
  rw [← hn3]
  clear hW4 hb4 hn3 HA3 HF3 HT3 HE3 y0 y1 hlt3
  refine (HM1.out W4).mono ?_
  rintro e w5 ⟨rfl, hb5⟩
  have HB5 := Lib.hid (stay HB4.out hb5); have HA5 := Lib.hid (stay HA4.out hb5); have HF5 := Lib.hid (stay HF4.out hb5); have HT5 := Lib.hid (below_chain HT4.out hb5); have HE5 := Lib.hid (HE4.out.below hb5)
  clear hb5 HB4 HA4 HF4 HT4 HE4 HM1
  obtain ⟨y0, y1⟩ := fr_cells HF5.out
  have hlt5 : n + 1 < w5.heap.size := (Array.getElem?_eq_some_iff.1 HF5.out).1
  go_wp2_with fail
  obtain ⟨W6, hW6⟩ : ∃ W6, W6 = w5.alloc (sigO mo mx my mb mf) := ⟨_, rfl⟩
  rw [← hW6]
  obtain ⟨n5, hn5⟩ : ∃ n5, n5 = w5.heap.size := ⟨_, rfl⟩
  have hb6 : Below w5.heap.size w5 W6 := by rw [hW6]; exact new_below _ _
  have HC6 : Hid (W6.heap[n5]? = some (sigO mo mx my mb mf)) := Lib.hid (by rw [hW6, hn5]; exact heap_alloc_new _ _)
  have HB6 := Lib.hid (stay HB5.out hb6); have HA6 := Lib.hid (stay HA5.out hb6); have HT6 := Lib.hid (below_chain HT5.out hb6); have HE6 := Lib.hid (HE5.out.below hb6)
  rw [← hn5]
  clear hW6 hb6 hn5 HB5 HA5 HF5 HT5 HE5 y0 y1 hlt5
  refine (HM2.out W6).mono ?_
  rintro e w7 ⟨rfl, hb7⟩
  have hc7 := stay HC6.out hb7; have hb7' := stay HB6.out hb7; have ha7 := stay HA6.out hb7
  have HT7 := Lib.hid (below_chain HT6.out hb7); have HE7 := Lib.hid (HE6.out.below hb7)
  have l1 : n1 < w7.heap.size := (Array.getElem?_eq_some_iff.1 ha7).1
  have l3 : n3 < w7.heap.size := (Array.getElem?_eq_some_iff.1 hb7').1
  have l5 : n5 < w7.heap.size := (Array.getElem?_eq_some_iff.1 hc7).1
  obtain ⟨a0, a1⟩ := fr_cells ha7
  obtain ⟨b0, b1⟩ := fr_cells hb7'
  obtain ⟨c0, c1, c2, c3, c4⟩ := sig_cells hc7
  have HT8 : Hid (∀ O, Below w.heap.size w (w7.alloc O)) := Lib.hid fun O => below_chain HT7.out (new_below _ O)
  have HE8 : Hid (∀ O, Env m (w7.alloc O)) := Lib.hid fun O => HE7.out.below (new_below _ O)
  clear hc7 hb7' ha7 hb7 HC6 HB6 HA6 HT6 HE6 HM2 HT7 HE7
  go_wp2_with (go_at_call 8; refine (awake_any m _ (HE8.out _)).mono ?_; rintro e w9 ⟨rfl, hb9⟩; have T9 := Lib.hid (below_chain (HT8.out _) hb9); clear hb9)
  go_ret
  exact ⟨rfl, T9.out⟩
end Go.Proofs.YtjkjjolalbdhkaaGreatDoor
