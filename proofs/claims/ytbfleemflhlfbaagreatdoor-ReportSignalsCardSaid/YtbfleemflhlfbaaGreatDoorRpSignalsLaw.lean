/- The law of signals: its walk. -/
import Derived.Test.YtbfleemflhlfbaaGreatDoorRpSgOk
import Derived.Test.YtbfleemflhlfbaaGreatDoorRpSgOkRef
import Derived.Test.YtbfleemflhlfbaaGreatDoorRpSgAlike
import Derived.Test.YtbfleemflhlfbaaGreatDoorRpSgSquare
import Derived.Test.YtbfleemflhlfbaaGreatDoorRpAwake
import Derived.Deep.DeepCutAuto
namespace Go.Proofs.YtbfleemflhlfbaaGreatDoor
open Go.RowKit

/-- what both Reads answer of a signal. -/
structure SigSays (o x y b f t : Int) (src : ByteArray) (k t' n u e : Int) (s a : ByteArray) (l : List (Int × Int)) : Prop where
  code : ∀ W, Tab W → Calls Tryz.prog 11 #[sigA o x y b f, .int .i64 t, .string src] W fun r w' => ∃ A c, r = .returned (.tuple #[repA k t' s a (.slice A l.length c) n u, .int .i64 e]) ∧ Area w' (.slice A l.length c) l ∧ Below W.heap.size W w'
  ref : ∀ W, Calls Tryz.prog 12 #[sigA o x y b f, .int .i64 t, .string src] W fun r w' => ∃ A c, r = .returned (.tuple #[repA k t' s a (.slice A l.length c) n u, .int .i64 e]) ∧ Area w' (.slice A l.length c) l ∧ Below W.heap.size W w'
  few : l.length ≤ 12
theorem area_nil (W : World) : Area W (.slice none 0 0) [] := ⟨none, 0, rfl, Nat.le_refl _, fun h => absurd rfl h⟩
theorem square_len (X Y : Int) : (squareL X Y).length = 4 := rfl

theorem reads_bad (o x y b f t : Int) (src : ByteArray) (hsz : src.size ≤ 9223372036854775807) (h : (sigB o x y b f && (inB t 0 1073741824 && nameL src.data.toList)) = false) : ∃ e, e ≠ 0 ∧ SigSays o x y b f t src 0 0 0 0 e noB noB [] := by
  cases hs : sigB o x y b f with
  | false => exact ⟨4, by decide, fun W _ => (Read_sig o x y b f t src W hs).mono fun r w' ⟨h1, h2⟩ => ⟨none, 0, h1, area_nil _, h2⟩, fun W => (refRead_sig o x y b f t src W hs).mono fun r w' ⟨h1, h2⟩ => ⟨none, 0, h1, area_nil _, h2⟩, by simp⟩
  | true =>
    rw [hs, Bool.true_and] at h
    exact ⟨2, by decide, fun W _ => (Read_arg o x y b f t src W hsz hs h).mono fun r w' ⟨h1, h2⟩ => ⟨none, 0, h1, area_nil _, h2⟩, fun W => (refRead_arg o x y b f t src W hsz hs h).mono fun r w' ⟨h1, h2⟩ => ⟨none, 0, h1, area_nil _, h2⟩, by simp⟩
theorem reads_ok (N : Nat) (x y b f t : Int) (src : ByteArray) (hsz : src.size ≤ 9223372036854775807) (hs : sigB N x y b f = true) (h : (inB t 0 1073741824 && nameL src.data.toList) = true) :
    SigSays N x y b f t src 1 t (-1) (trustZ b) 0 src ((⟨#[98]⟩ : ByteArray) ++ ⟨(Lib.decDigits N).toArray⟩) (squareL (1024 * x) (1024 * y)) :=
  ⟨fun W ht => (Read_ok N x y b f t src W hsz hs h ht).mono fun r w' ⟨g, h1, h2, h3⟩ => ⟨some ⟨g, 0, none⟩, 4, h1, square_area h2, h3⟩, fun W => (refRead_ok N x y b f t src W hsz hs h).mono fun r w' ⟨g, h1, h2, h3⟩ => ⟨some ⟨g, 0, none⟩, 4, h1, square_area h2, h3⟩, by simp [squareL]⟩

abbrev twoO (p0 p1 : Int) : Obj := .cells #[.int .u16 p0, .int .u16 p1] 31 (0, 0)
abbrev twoA (p0 p1 : Int) : Value := .agg #[.int .u16 p0, .int .u16 p1]

theorem two_cells {W : World} {n : Nat} {p0 p1 : Int} (h : W.heap[n]? = some (twoO p0 p1)) : W.cell? ⟨n, 0, none⟩ = some (.int .u16 p0) ∧ W.cell? ⟨n, 1, none⟩ = some (.int .u16 p1) := by
  refine ⟨?_, ?_⟩ <;> simp [World.cell?, h]

set_option maxRecDepth 100000 in
set_option maxHeartbeats 2000000 in
theorem signals_far (o x y b f t p0 p1 : Int) (src : ByteArray) (hsz : src.size ≤ 9223372036854775807) (h100 : 100 < src.size) (m : Int) (w : World) (hE : Env m w) :
    Calls Tryz.prog 4 #[sigA o x y b f, .int .i64 t, .string src, twoA p0 p1] w fun e w' => e = .returned (.bool true) ∧ Below w.heap.size w w' := by
  obtain ⟨W, hW⟩ : ∃ W, W = (w.alloc (sigO o x y b f)).alloc (twoO p0 p1) := ⟨_, rfl⟩
  have hb : Below w.heap.size w W := by rw [hW]; exact ((Below.refl _ _).alloc (Nat.le_refl _) _).alloc (by simp) _
  have HE := Lib.hid (hE.below hb); have HB := Lib.hid hb; have HW := Lib.hid hW
  clear hE hb hW
  go_enter Tryz.func4, Tryz.ntmps4
  go_wp2_with fail
  rw [← HW.out]
  refine (awake_any m W HE.out).mono ?_
  rintro e w1 ⟨rfl, hb1⟩
  have HZ := Lib.hid (below_chain HB.out hb1)
  clear hb1 HE HB HW
  go_wp2
  go_ret
  exact ⟨rfl, HZ.out⟩

set_option maxRecDepth 100000 in
set_option maxHeartbeats 4000000 in
theorem signals_bad (o x y b f t p0 p1 : Int) (src : ByteArray) (k t' n u e0 : Int) (s a : ByteArray) (l : List (Int × Int)) (hq : SigSays o x y b f t src k t' n u e0 s a l) (he : e0 ≠ 0) (h100 : ¬ 100 < src.size) (m : Int) (w : World) (hE : Env m w) (htab : Tab w) :
    Calls Tryz.prog 4 #[sigA o x y b f, .int .i64 t, .string src, twoA p0 p1] w fun e w' => e = .returned (.bool true) ∧ Below w.heap.size w w' := by
  obtain ⟨W, hW⟩ : ∃ W, W = (w.alloc (sigO o x y b f)).alloc (twoO p0 p1) := ⟨_, rfl⟩
  obtain ⟨q, hqq⟩ : ∃ q, q = w.heap.size := ⟨_, rfl⟩
  have hb : Below w.heap.size w W := by rw [hW]; exact ((Below.refl _ _).alloc (Nat.le_refl _) _).alloc (by simp) _
  have hsg : W.heap[q]? = some (sigO o x y b f) := by rw [hW, hqq]; exact stay (heap_alloc_new _ _) (new_below _ _)
  have htw : W.heap[q + 1]? = some (twoO p0 p1) := by rw [hW, hqq]; have := heap_alloc_new (w.alloc (sigO o x y b f)) (twoO p0 p1); rwa [World.size_alloc] at this
  have HE := Lib.hid (hE.below hb); have HTB := Lib.hid (htab.below hb); have HB := Lib.hid hb; have HW := Lib.hid hW; have HQ := Lib.hid hq; have HSG := Lib.hid hsg; have HTW := Lib.hid htw; have HQQ := Lib.hid hqq
  obtain ⟨z, hz⟩ : ∃ z, z = l.length := ⟨_, rfl⟩
  have hz12 : z ≤ 12 := by rw [hz]; exact hq.few
  have HR1 : Hid (∀ W, Tab W → Calls Tryz.prog 11 #[sigA o x y b f, .int .i64 t, .string src] W fun r w' => ∃ A c, r = .returned (.tuple #[repA k t' s a (.slice A z c) n u, .int .i64 e0]) ∧ Area w' (.slice A z c) l ∧ Below W.heap.size W w') := Lib.hid (by rw [hz]; exact hq.code)
  have HR2 : Hid (∀ W, Calls Tryz.prog 12 #[sigA o x y b f, .int .i64 t, .string src] W fun r w' => ∃ A c, r = .returned (.tuple #[repA k t' s a (.slice A z c) n u, .int .i64 e0]) ∧ Area w' (.slice A z c) l ∧ Below W.heap.size W w') := Lib.hid (by rw [hz]; exact hq.ref)
  have HAL : Hid (∀ A1 A2 c1 c2 W, Area W (.slice A1 z c1) l → Area W (.slice A2 z c2) l → Calls Tryz.prog 13 #[repA k t' s a (.slice A1 z c1) n u, repA k t' s a (.slice A2 z c2) n u] W fun e w' => e = .returned (.bool true) ∧ Below W.heap.size W w') := Lib.hid (by
    rw [hz]; exact fun A1 A2 c1 c2 W h1 h2 => refAlike_any k t' n u s a A1 A2 c1 c2 l W h1 h2 hq.few)
  have HZZ := Lib.hid hz
  clear hE htab hb hW hq hsg htw hqq hz
  go_enter Tryz.func4, Tryz.ntmps4
  go_wp2_with fail
  rw [← HW.out, ← HQQ.out]
  refine (HR1.out W HTB.out).mono ?_
  rintro e w1 ⟨A1, c1, rfl, ha1, hb1⟩
  have HSG1 := Lib.hid (stay HSG.out hb1); have HTW1 := Lib.hid (stay HTW.out hb1); have HE1 := Lib.hid (HE.out.below hb1); have HB1 := Lib.hid (below_chain HB.out hb1); have HTB1 := Lib.hid (HTB.out.below hb1)
  have HA1 := Lib.hid ha1
  clear hb1 ha1 HSG HTW HE HB HW HTB HR1
  obtain ⟨x0, x1, x2, x3, x4⟩ := sig_cells HSG1.out
  have hq1 : q < w1.heap.size := (Array.getElem?_eq_some_iff.1 HSG1.out).1
  go_wp2_with fail
  obtain ⟨W2, hW2⟩ : ∃ W2, W2 = w1.alloc (repO k t' s a (.slice A1 z c1) n u) := ⟨_, rfl⟩
  rw [← hW2]
  obtain ⟨r1, hr1⟩ : ∃ r, r = w1.heap.size := ⟨_, rfl⟩
  have hb2 : Below w1.heap.size w1 W2 := by rw [hW2]; exact new_below _ _
  have HRA2 : Hid (W2.heap[r1]? = some (repO k t' s a (.slice A1 z c1) n u)) := Lib.hid (by rw [hW2, hr1]; exact heap_alloc_new _ _)
  have HSG2 := Lib.hid (stay HSG1.out hb2); have HTW2 := Lib.hid (stay HTW1.out hb2); have HE2 := Lib.hid (HE1.out.below hb2); have HB2 := Lib.hid (below_chain HB1.out hb2); have HA2 := Lib.hid (HA1.out.below hb2)
  rw [← hr1]
  clear hW2 hb2 hr1 x0 x1 x2 x3 x4 hq1 HSG1 HTW1 HE1 HB1 HA1 HTB1
  refine (HR2.out W2).mono ?_
  rintro e w3 ⟨A2, c2, rfl, ha3, hb3⟩
  have HRA3 := Lib.hid (stay HRA2.out hb3); have HSG3 := Lib.hid (stay HSG2.out hb3); have HTW3 := Lib.hid (stay HTW2.out hb3); have HE3 := Lib.hid (HE2.out.below hb3); have HB3 := Lib.hid (below_chain HB2.out hb3); have HA3 := Lib.hid (HA2.out.below hb3)
  have HC3 := Lib.hid ha3
  clear hb3 ha3 HRA2 HSG2 HTW2 HE2 HB2 HA2 HR2
  go_upto_region 5 with fail
  obtain ⟨W4, hW4⟩ : ∃ W4, W4 = w3.alloc (repO k t' s a (.slice A2 z c2) n u) := ⟨_, rfl⟩
  rw [← hW4]
  obtain ⟨r3, hr3⟩ : ∃ r, r = w3.heap.size := ⟨_, rfl⟩
  have hb4 : Below w3.heap.size w3 W4 := by rw [hW4]; exact new_below _ _
  have hrb4 : W4.heap[r3]? = some (repO k t' s a (.slice A2 z c2) n u) := by rw [hW4, hr3]; exact heap_alloc_new _ _
  have hra4 := stay HRA3.out hb4
  have HRA4 := Lib.hid hra4; have HSG4 := Lib.hid (stay HSG3.out hb4); have HTW4 := Lib.hid (stay HTW3.out hb4); have HE4 := Lib.hid (HE3.out.below hb4); have HB4 := Lib.hid (below_chain HB3.out hb4); have HA4 := Lib.hid (HA3.out.below hb4); have HC4 := Lib.hid (HC3.out.below hb4)
  rw [← hr3]
  obtain ⟨y0, y1, y2, y3, y4, y5, y6⟩ := rep_cells hra4
  obtain ⟨v0, v1, v2, v3, v4, v5, v6⟩ := rep_cells hrb4
  clear hW4 hb4 hr3 hrb4 hra4 HRA3 HSG3 HTW3 HE3 HB3 HA3 HC3
  go_wp2_with fail
  refine (HAL.out A1 A2 c1 c2 W4 HA4.out HC4.out).mono ?_
  rintro e w6 ⟨rfl, hb6⟩
  have HRA6 := Lib.hid (stay HRA4.out hb6); have HSG6 := Lib.hid (stay HSG4.out hb6); have HTW6 := Lib.hid (stay HTW4.out hb6); have HE6 := Lib.hid (HE4.out.below hb6); have HB6 := Lib.hid (below_chain HB4.out hb6); have HA6 := Lib.hid (HA4.out.below hb6)
  clear hb6 HRA4 HSG4 HTW4 HE4 HB4 HA4 HC4 HAL y0 y1 y2 y3 y4 y5 y6 v0 v1 v2 v3 v4 v5 v6
  go_wp2_with (go_at_call 6; refine (awake_any m _ (HE6.out)).mono ?_; rintro e w7 ⟨rfl, hb7⟩; have T7 := Lib.hid (below_chain HB6.out hb7); clear hb7)
  go_ret
  exact ⟨rfl, T7.out⟩

set_option maxRecDepth 100000 in
set_option maxHeartbeats 4000000 in
theorem signals_ok (o x y b f t p0 p1 : Int) (src : ByteArray) (k t' n u e0 : Int) (s a : ByteArray) (l : List (Int × Int)) (hq : SigSays o x y b f t src k t' n u e0 s a l) (he : e0 = 0) (h100 : ¬ 100 < src.size) (hp0 : 0 ≤ p0 ∧ p0 ≤ 65535) (hp1 : 0 ≤ p1 ∧ p1 ≤ 65535)
    (hx : -8192 ≤ x ∧ x ≤ 8191) (hy : -8192 ≤ y ∧ y ≤ 8191) (hl : l = squareL (1024 * x) (1024 * y)) (hck : checkB ⟨0, k, t', s, a, n, u⟩ true = true) (hs1 : s.size ≤ 9223372036854775807) (hs2 : a.size ≤ 9223372036854775807) (m : Int) (w : World) (hE : Env m w) (htab : Tab w) :
    Calls Tryz.prog 4 #[sigA o x y b f, .int .i64 t, .string src, twoA p0 p1] w fun e w' => e = .returned (.bool true) ∧ Below w.heap.size w w' := by
  obtain ⟨W, hW⟩ : ∃ W, W = (w.alloc (sigO o x y b f)).alloc (twoO p0 p1) := ⟨_, rfl⟩
  obtain ⟨q, hqq⟩ : ∃ q, q = w.heap.size := ⟨_, rfl⟩
  have hb : Below w.heap.size w W := by rw [hW]; exact ((Below.refl _ _).alloc (Nat.le_refl _) _).alloc (by simp) _
  have hsg : W.heap[q]? = some (sigO o x y b f) := by rw [hW, hqq]; exact stay (heap_alloc_new _ _) (new_below _ _)
  have htw : W.heap[q + 1]? = some (twoO p0 p1) := by rw [hW, hqq]; have := heap_alloc_new (w.alloc (sigO o x y b f)) (twoO p0 p1); rwa [World.size_alloc] at this
  have HE := Lib.hid (hE.below hb); have HTB := Lib.hid (htab.below hb); have HB := Lib.hid hb; have HW := Lib.hid hW; have HQ := Lib.hid hq; have HSG := Lib.hid hsg; have HTW := Lib.hid htw; have HQQ := Lib.hid hqq
  obtain ⟨z, hz⟩ : ∃ z, z = l.length := ⟨_, rfl⟩
  have hz12 : z ≤ 12 := by rw [hz]; exact hq.few
  have HR1 : Hid (∀ W, Tab W → Calls Tryz.prog 11 #[sigA o x y b f, .int .i64 t, .string src] W fun r w' => ∃ A c, r = .returned (.tuple #[repA k t' s a (.slice A z c) n u, .int .i64 e0]) ∧ Area w' (.slice A z c) l ∧ Below W.heap.size W w') := Lib.hid (by rw [hz]; exact hq.code)
  have HR2 : Hid (∀ W, Calls Tryz.prog 12 #[sigA o x y b f, .int .i64 t, .string src] W fun r w' => ∃ A c, r = .returned (.tuple #[repA k t' s a (.slice A z c) n u, .int .i64 e0]) ∧ Area w' (.slice A z c) l ∧ Below W.heap.size W w') := Lib.hid (by rw [hz]; exact hq.ref)
  have HAL : Hid (∀ A1 A2 c1 c2 W, Area W (.slice A1 z c1) l → Area W (.slice A2 z c2) l → Calls Tryz.prog 13 #[repA k t' s a (.slice A1 z c1) n u, repA k t' s a (.slice A2 z c2) n u] W fun e w' => e = .returned (.bool true) ∧ Below W.heap.size W w') := Lib.hid (by
    rw [hz]; exact fun A1 A2 c1 c2 W h1 h2 => refAlike_any k t' n u s a A1 A2 c1 c2 l W h1 h2 hq.few)
  have HZZ := Lib.hid hz
  clear hE htab hb hW hq hsg htw hqq hz
  go_enter Tryz.func4, Tryz.ntmps4
  go_wp2_with fail
  rw [← HW.out, ← HQQ.out]
  refine (HR1.out W HTB.out).mono ?_
  rintro e w1 ⟨A1, c1, rfl, ha1, hb1⟩
  have HSG1 := Lib.hid (stay HSG.out hb1); have HTW1 := Lib.hid (stay HTW.out hb1); have HE1 := Lib.hid (HE.out.below hb1); have HB1 := Lib.hid (below_chain HB.out hb1); have HTB1 := Lib.hid (HTB.out.below hb1)
  have HA1 := Lib.hid ha1
  clear hb1 ha1 HSG HTW HE HB HW HTB HR1
  obtain ⟨x0, x1, x2, x3, x4⟩ := sig_cells HSG1.out
  have hq1 : q < w1.heap.size := (Array.getElem?_eq_some_iff.1 HSG1.out).1
  go_wp2_with fail
  obtain ⟨W2, hW2⟩ : ∃ W2, W2 = w1.alloc (repO k t' s a (.slice A1 z c1) n u) := ⟨_, rfl⟩
  rw [← hW2]
  obtain ⟨r1, hr1⟩ : ∃ r, r = w1.heap.size := ⟨_, rfl⟩
  have hb2 : Below w1.heap.size w1 W2 := by rw [hW2]; exact new_below _ _
  have HRA2 : Hid (W2.heap[r1]? = some (repO k t' s a (.slice A1 z c1) n u)) := Lib.hid (by rw [hW2, hr1]; exact heap_alloc_new _ _)
  have HSG2 := Lib.hid (stay HSG1.out hb2); have HTW2 := Lib.hid (stay HTW1.out hb2); have HE2 := Lib.hid (HE1.out.below hb2); have HB2 := Lib.hid (below_chain HB1.out hb2); have HA2 := Lib.hid (HA1.out.below hb2)
  rw [← hr1]
  clear hW2 hb2 hr1 x0 x1 x2 x3 x4 hq1 HSG1 HTW1 HE1 HB1 HA1 HTB1
  refine (HR2.out W2).mono ?_
  rintro e w3 ⟨A2, c2, rfl, ha3, hb3⟩
  have HRA3 := Lib.hid (stay HRA2.out hb3); have HSG3 := Lib.hid (stay HSG2.out hb3); have HTW3 := Lib.hid (stay HTW2.out hb3); have HE3 := Lib.hid (HE2.out.below hb3); have HB3 := Lib.hid (below_chain HB2.out hb3); have HA3 := Lib.hid (HA2.out.below hb3)
  have HC3 := Lib.hid ha3
  clear hb3 ha3 HRA2 HSG2 HTW2 HE2 HB2 HA2 HR2
  go_upto_region 5 with fail
  obtain ⟨W4, hW4⟩ : ∃ W4, W4 = w3.alloc (repO k t' s a (.slice A2 z c2) n u) := ⟨_, rfl⟩
  rw [← hW4]
  obtain ⟨r3, hr3⟩ : ∃ r, r = w3.heap.size := ⟨_, rfl⟩
  have hb4 : Below w3.heap.size w3 W4 := by rw [hW4]; exact new_below _ _
  have hrb4 : W4.heap[r3]? = some (repO k t' s a (.slice A2 z c2) n u) := by rw [hW4, hr3]; exact heap_alloc_new _ _
  have hra4 := stay HRA3.out hb4
  have HRA4 := Lib.hid hra4; have HSG4 := Lib.hid (stay HSG3.out hb4); have HTW4 := Lib.hid (stay HTW3.out hb4); have HE4 := Lib.hid (HE3.out.below hb4); have HB4 := Lib.hid (below_chain HB3.out hb4); have HA4 := Lib.hid (HA3.out.below hb4); have HC4 := Lib.hid (HC3.out.below hb4)
  rw [← hr3]
  obtain ⟨y0, y1, y2, y3, y4, y5, y6⟩ := rep_cells hra4
  obtain ⟨v0, v1, v2, v3, v4, v5, v6⟩ := rep_cells hrb4
  clear hW4 hb4 hr3 hrb4 hra4 HRA3 HSG3 HTW3 HE3 HB3 HA3 HC3
  go_wp2_with fail
  refine (HAL.out A1 A2 c1 c2 W4 HA4.out HC4.out).mono ?_
  rintro e w6 ⟨rfl, hb6⟩
  have HRA6 := Lib.hid (stay HRA4.out hb6); have HSG6 := Lib.hid (stay HSG4.out hb6); have HTW6 := Lib.hid (stay HTW4.out hb6); have HE6 := Lib.hid (HE4.out.below hb6); have HB6 := Lib.hid (below_chain HB4.out hb6); have HA6 := Lib.hid (HA4.out.below hb6)
  clear hb6 HRA4 HSG4 HTW4 HE4 HB4 HA4 HC4 HAL y0 y1 y2 y3 y4 y5 y6 v0 v1 v2 v3 v4 v5 v6
  subst he
  have hX : -8388608 ≤ 1024 * x ∧ 1024 * x ≤ 8387584 := by omega
  have hY : -8388608 ≤ 1024 * y ∧ 1024 * y ≤ 8387584 := by omega
  have HAB : Hid (areaB l = true) := Lib.hid (by rw [hl]; exact square_area_ok hX hY)
  have HHB : Hid (hasB l (1024 * x + p0 % 1025, 1024 * y + p1 % 1025) = true) := Lib.hid (by rw [hl]; exact square_has hX hY (by simp only; omega) (by simp only; omega))
  have HZ12 := Lib.hid hz12
  have HCK : Hid (∀ W, Area W (.slice A1 z c1) l → Calls Tryz.prog 14 #[repA k t' s a (.slice A1 z c1) n u] W fun e w' => e = .returned (.bool true) ∧ Below W.heap.size W w') := Lib.hid fun W hW => by
    have := CheckReport_any ⟨0, k, t', s, a, n, u⟩ (.slice A1 z c1) A1 z c1 rfl W true (fun w' hb => by
      have h := CheckArea_any A1 c1 l w' (by rw [← HZZ.out]; exact hW.below hb) (by rw [← HZZ.out]; have := HZ12.out; omega)
      rw [← HZZ.out, HAB.out] at h; exact h) hs2 hs1
    rw [hck] at this; exact this
  obtain ⟨xx, hxx⟩ : ∃ v, 1024 * x = v := ⟨_, rfl⟩
  obtain ⟨yy, hyy⟩ : ∃ v, 1024 * y = v := ⟨_, rfl⟩
  obtain ⟨i0, hi0⟩ : ∃ v, p0 % 1025 = v := ⟨_, rfl⟩
  obtain ⟨i1, hi1⟩ : ∃ v, p1 % 1025 = v := ⟨_, rfl⟩
  obtain ⟨px, hpx⟩ : ∃ v, xx + i0 = v := ⟨_, rfl⟩
  obtain ⟨py, hpy⟩ : ∃ v, yy + i1 = v := ⟨_, rfl⟩
  rw [hxx, hyy, hi0, hi1, hpx, hpy] at HHB
  have b0 : 0 ≤ i0 ∧ i0 ≤ 1024 := by omega
  have b1 : 0 ≤ i1 ∧ i1 ≤ 1024 := by omega
  rw [hxx] at hX; rw [hyy] at hY
  have wx : IntKind.i64.wrap (1024 * x) = xx := by rw [hxx]; exact IntWalk.i64_in _ (by omega)
  have wy : IntKind.i64.wrap (1024 * y) = yy := by rw [hyy]; exact IntWalk.i64_in _ (by omega)
  have wp0 : IntKind.i64.wrap p0 = p0 := IntWalk.i64_in _ (by omega)
  have wp1 : IntKind.i64.wrap p1 = p1 := IntWalk.i64_in _ (by omega)
  have m0 : p0.tmod 1025 = i0 := by rw [← hi0]; exact Int.tmod_eq_emod_of_nonneg (by omega)
  have m1 : p1.tmod 1025 = i1 := by rw [← hi1]; exact Int.tmod_eq_emod_of_nonneg (by omega)
  have HHS : Hid (∀ W, Area W (.slice A1 z c1) l → Calls Tryz.prog 9 #[.slice A1 z c1, .agg #[.int .i64 px, .int .i64 py]] W fun e w' => e = .returned (.bool true) ∧ Below W.heap.size W w') := Lib.hid fun W hW => by
    have h := Has_any A1 c1 l (px, py) W (by rw [← HZZ.out]; exact hW) (by rw [← HZZ.out]; have := HZ12.out; omega)
    rw [← HZZ.out, HHB.out] at h; exact h
  obtain ⟨hX1, hX2⟩ := hX; obtain ⟨hY1, hY2⟩ := hY; obtain ⟨b0, b0'⟩ := b0; obtain ⟨b1, b1'⟩ := b1
  obtain ⟨hp00, hp01⟩ := hp0; obtain ⟨hp10, hp11⟩ := hp1
  clear hck hl hx hy hs1 hs2 hz12
  obtain ⟨y0, y1, y2, y3, y4, y5, y6⟩ := rep_cells HRA6.out
  go_wp2_with fail
  refine (HCK.out w6 HA6.out).mono ?_
  rintro e w7 ⟨rfl, hb7⟩
  have HE7 := Lib.hid (HE6.out.below hb7); have HB7 := Lib.hid (below_chain HB6.out hb7); have HA7 := Lib.hid (HA6.out.below hb7)
  obtain ⟨-, -, -, -, y4, -, -⟩ := rep_cells (stay HRA6.out hb7)
  obtain ⟨-, x1, x2, -, -⟩ := sig_cells (stay HSG6.out hb7)
  obtain ⟨t0, t1⟩ := two_cells (stay HTW6.out hb7)
  clear hb7 HRA6 HSG6 HTW6 HE6 HB6 HA6 y0 y1 y2 y3 y5 y6 HCK
  go_wp2_with fail
  refine (HHS.out w7 HA7.out).mono ?_
  rintro e w8 ⟨rfl, hb8⟩
  have HE8 := Lib.hid (HE7.out.below hb8); have HB8 := Lib.hid (below_chain HB7.out hb8)
  clear hb8 HA7 HHS y4 x1 x2 t0 t1 wx wy wp0 wp1 m0 m1 hxx hyy hi0 hi1 hpx hpy HE7 HB7
  go_wp2_with (go_at_call 6; refine (awake_any m _ (HE8.out)).mono ?_; rintro e w9 ⟨rfl, hb9⟩; have T9 := Lib.hid (below_chain HB8.out hb9); clear hb9)
  go_ret
  exact ⟨rfl, T9.out⟩

theorem signals_law (o x y b f t p0 p1 : Int) (src : ByteArray) (hsz : src.size ≤ 9223372036854775807) (hp0 : 0 ≤ p0 ∧ p0 ≤ 65535) (hp1 : 0 ≤ p1 ∧ p1 ≤ 65535) (m : Int) (w : World) (hE : Env m w) (htab : Tab w) :
    Calls Tryz.prog 4 #[sigA o x y b f, .int .i64 t, .string src, twoA p0 p1] w fun e w' => e = .returned (.bool true) ∧ Below w.heap.size w w' := by
  by_cases h100 : 100 < src.size
  · exact signals_far o x y b f t p0 p1 src hsz h100 m w hE
  · cases hs : (sigB o x y b f && (inB t 0 1073741824 && nameL src.data.toList)) with
    | false =>
      obtain ⟨e0, he, hq⟩ := reads_bad o x y b f t src hsz hs
      exact signals_bad o x y b f t p0 p1 src _ _ _ _ _ _ _ _ hq he h100 m w hE htab
    | true =>
      rw [Bool.and_eq_true] at hs
      obtain ⟨hs1, hs2⟩ := hs
      have hs3 := hs1
      unfold sigB at hs3
      rw [Bool.and_eq_true, Bool.and_eq_true, Bool.and_eq_true, Bool.and_eq_true, inB_true, inB_true, inB_true, inB_true, inB_true] at hs3
      obtain ⟨g1, g2, g3, g4, g5⟩ := hs3
      obtain ⟨N, rfl⟩ : ∃ N : Nat, o = N := ⟨o.toNat, by omega⟩
      have hN : N < 18446744073709551616 := by omega
      have hq := reads_ok N x y b f t src hsz hs1 hs2
      rw [Bool.and_eq_true] at hs2
      have hnm := beacon_name N hN
      have hne : ((⟨#[98]⟩ : ByteArray) ++ ⟨(Lib.decDigits N).toArray⟩).data.toList ≠ [] := by
        intro e; rw [e] at hnm; exact absurd hnm (by decide)
      have htr : inB (trustZ b) 0 1000 = true := by
        unfold trustZ inB
        split
        · decide
        · split <;> decide
      have hsize : ((⟨#[98]⟩ : ByteArray) ++ ⟨(Lib.decDigits N).toArray⟩).size ≤ 9223372036854775807 := by
        have h1 : (Lib.decDigits N).length ≤ 20 := by rw [Lib.decDigits_length]; exact Lib.nDigits_le20 N hN
        have h2 : ((⟨#[98]⟩ : ByteArray) ++ ⟨(Lib.decDigits N).toArray⟩).data.toList.length ≤ 21 := by simp; omega
        have h3 : ((⟨#[98]⟩ : ByteArray) ++ ⟨(Lib.decDigits N).toArray⟩).data.toList.length = ((⟨#[98]⟩ : ByteArray) ++ ⟨(Lib.decDigits N).toArray⟩).size := rfl
        omega
      refine signals_ok N x y b f t p0 p1 src _ _ _ _ _ _ _ _ hq rfl h100 hp0 hp1 g2 g3 rfl ?_ hsz hsize m w hE htab
      unfold checkB aboutB
      rw [if_neg hne, hnm, hs2.1, hs2.2, htr]
      rfl
end Go.Proofs.YtbfleemflhlfbaaGreatDoor
