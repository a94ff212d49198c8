/- Several parts: The document's Place, Turn. isBetween. -/
import Derived.Test.YtjcaaejfokmolaaGreatDoorRpHull
import Derived.Test.YtjcaaejfokmolaaGreatDoorRpRefIn
/- The document's Place, Turn. -/
namespace Go.Proofs.YtjcaaejfokmolaaGreatDoor
open Go.RowKit

set_option maxHeartbeats 1000000 in
theorem refPlace_any (p : Int × Int) (w : World) :
    Calls Tryz.prog 34 #[spotV p] w fun e w' => e = .returned (.bool (placeB p)) ∧ Below w.heap.size w w' := by
  obtain ⟨x, y⟩ := p
  have h1 := fun W => refIn_any x (-16777216) 16777216 W
  have h2 := fun W => refIn_any y (-16777216) 16777216 W
  unfold spotV
  simp only
  cases hx : inB x (-16777216) 16777216 with
  | true =>
    rw [hx] at h1
    have HR : Hid (placeB (x, y) = inB y (-16777216) 16777216) := Lib.hid (by unfold placeB; rw [hx]; rfl)
    have H1 := Lib.hid h1; have H2 := Lib.hid h2; clear h1 h2 hx
    obtain ⟨q, hq⟩ : ∃ q, q = inB y (-16777216) 16777216 := ⟨_, rfl⟩
    rw [← hq] at H2 HR
    clear hq
    go_enter Tryz.func34, Tryz.ntmps34
    go_wp2_with (go_at_call 33; first | ((with_reducible refine (H1.out _).mono ?_); rintro e w' ⟨rfl, rfl⟩) | ((with_reducible refine (H2.out _).mono ?_); rintro e w' ⟨rfl, rfl⟩))
    go_ret
    exact ⟨by rw [HR.out]; rfl, (Below.refl _ _).alloc (Nat.le_refl _) _⟩
  | false =>
    rw [hx] at h1
    have HR : Hid (placeB (x, y) = false) := Lib.hid (by unfold placeB; rw [hx]; rfl)
    have H1 := Lib.hid h1; clear h1 h2 hx
    go_enter Tryz.func34, Tryz.ntmps34
    go_wp2_with (go_at_call 33; ((with_reducible refine (H1.out _).mono ?_); rintro e w' ⟨rfl, rfl⟩))
    go_ret
    exact ⟨by rw [HR.out]; rfl, (Below.refl _ _).alloc (Nat.le_refl _) _⟩

theorem alloc3 (w : World) (a b c : Obj) : Below w.heap.size w (((w.alloc a).alloc b).alloc c) := (((Below.refl _ _).alloc (Nat.le_refl _) _).alloc (by simp) _).alloc (by simp; omega) _

set_option maxRecDepth 100000 in
set_option maxHeartbeats 1000000 in
theorem refTurn_any (a b c : Int × Int) (w : World) (ha : near2 a) (hb : near2 b) (hc : near2 c) :
    Calls Tryz.prog 35 #[spotV a, spotV b, spotV c] w fun e w' => e = .returned (.int .i64 (turnZ a b c)) ∧ Below w.heap.size w w' := by
  obtain ⟨a1, a2⟩ := a; obtain ⟨b1, b2⟩ := b; obtain ⟨c1, c2⟩ := c
  have m1 := mul_near (fromZ_near ha hb).1 (fromZ_near hb hc).2
  have m2 := mul_near (fromZ_near ha hb).2 (fromZ_near hb hc).1
  unfold fromZ at m1 m2
  simp only at m1 m2
  obtain ⟨⟨h1, h2⟩, h3, h4⟩ := ha
  obtain ⟨⟨k1, k2⟩, k3, k4⟩ := hb
  obtain ⟨⟨j1, j2⟩, j3, j4⟩ := hc
  simp only at h1 h2 h3 h4 k1 k2 k3 k4 j1 j2 j3 j4
  have HR : Hid (turnZ (a1, a2) (b1, b2) (c1, c2) = (b1 - a1) * (c2 - b2) - (b2 - a2) * (c1 - b1)) := Lib.hid rfl
  have e1 : IntKind.i64.wrap ((b1 - a1) * (c2 - b2)) = (b1 - a1) * (c2 - b2) := IntWalk.i64_in _ (by omega)
  have e2 : IntKind.i64.wrap ((b2 - a2) * (c1 - b1)) = (b2 - a2) * (c1 - b1) := IntWalk.i64_in _ (by omega)
  have e3 : IntKind.i64.wrap ((b1 - a1) * (c2 - b2) - (b2 - a2) * (c1 - b1)) = (b1 - a1) * (c2 - b2) - (b2 - a2) * (c1 - b1) := IntWalk.i64_in _ (by omega)
  rw [HR.out]
  unfold spotV
  simp only
  clear m1 m2 HR
  go_enter Tryz.func35, Tryz.ntmps35
  go_wp2
  go_ret
  exact ⟨rfl, alloc3 _ _ _ _⟩
end Go.Proofs.YtjcaaejfokmolaaGreatDoor
/- isBetween. -/
namespace Go.Proofs.YtjcaaejfokmolaaGreatDoor
open Go.RowKit

abbrev spO (p : Int × Int) : Obj := .cells #[.int .i64 p.1, .int .i64 p.2] 24 (0, 0)
/-- three places in blocks of their own, and what is kept of them. -/
theorem three_boxes (w : World) (a b p : Int × Int) : Below w.heap.size w (((w.alloc (spO a)).alloc (spO b)).alloc (spO p)) ∧ ∀ w', Below (((w.alloc (spO a)).alloc (spO b)).alloc (spO p)).heap.size (((w.alloc (spO a)).alloc (spO b)).alloc (spO p)) w' →
    w'.cell? ⟨w.heap.size, 0, none⟩ = some (.int .i64 a.1) ∧ w'.cell? ⟨w.heap.size, 1, none⟩ = some (.int .i64 a.2) ∧ w'.cell? ⟨w.heap.size + 1, 0, none⟩ = some (.int .i64 b.1) ∧ w'.cell? ⟨w.heap.size + 1, 1, none⟩ = some (.int .i64 b.2) ∧ w'.cell? ⟨w.heap.size + 1 + 1, 0, none⟩ = some (.int .i64 p.1) ∧ w'.cell? ⟨w.heap.size + 1 + 1, 1, none⟩ = some (.int .i64 p.2) := by
  refine ⟨(((Below.refl _ _).alloc (Nat.le_refl _) _).alloc (by simp) _).alloc (by simp; omega) _, fun w' hb => ?_⟩
  have hs : (((w.alloc (spO a)).alloc (spO b)).alloc (spO p)).heap.size = w.heap.size + 3 := by simp
  exact ⟨(hb.cell (p := ⟨w.heap.size, 0, none⟩) (by simp only; omega)).trans (cell3a _ _ _ _ _ 0), (hb.cell (p := ⟨w.heap.size, 1, none⟩) (by simp only; omega)).trans (cell3a _ _ _ _ _ 1),
    (hb.cell (p := ⟨w.heap.size + 1, 0, none⟩) (by simp only; omega)).trans (cell3b _ _ _ _ _ 0), (hb.cell (p := ⟨w.heap.size + 1, 1, none⟩) (by simp only; omega)).trans (cell3b _ _ _ _ _ 1),
    (hb.cell (p := ⟨w.heap.size + 1 + 1, 0, none⟩) (by simp only; omega)).trans (cell3c _ _ _ _ _ 0), (hb.cell (p := ⟨w.heap.size + 1 + 1, 1, none⟩) (by simp only; omega)).trans (cell3c _ _ _ _ _ 1)⟩

set_option maxRecDepth 100000 in
set_option maxHeartbeats 2000000 in
theorem isBetween_any (a b p : Int × Int) (w : World) (ha : near2 a) (hb : near2 b) (hp : near2 p) :
    Calls Tryz.prog 36 #[spotV a, spotV b, spotV p] w fun e w' => e = .returned (.bool (betweenB a b p)) ∧ Below w.heap.size w w' := by
  obtain ⟨t, ht⟩ : ∃ t, t = turnZ a b p := ⟨_, rfl⟩
  obtain ⟨x0, hx0⟩ : ∃ t, t = min a.1 b.1 := ⟨_, rfl⟩
  obtain ⟨x1, hx1⟩ : ∃ t, t = max a.1 b.1 := ⟨_, rfl⟩
  obtain ⟨y0, hy0⟩ : ∃ t, t = min a.2 b.2 := ⟨_, rfl⟩
  obtain ⟨y1, hy1⟩ : ∃ t, t = max a.2 b.2 := ⟨_, rfl⟩
  have HT : Hid (∀ W, Calls Tryz.prog 74 #[.agg #[.int .i64 a.1, .int .i64 a.2], .agg #[.int .i64 b.1, .int .i64 b.2], .agg #[.int .i64 p.1, .int .i64 p.2]] W fun e w' => e = .returned (.int .i64 t) ∧ Below W.heap.size W w') := Lib.hid fun W => by rw [ht]; exact turn_any a b p W ha hb hp
  obtain ⟨bx, hbx⟩ : ∃ q, q = inB p.1 x0 x1 := ⟨_, rfl⟩
  obtain ⟨by_, hby⟩ : ∃ q, q = inB p.2 y0 y1 := ⟨_, rfl⟩
  have HX : Hid (∀ W, Calls Tryz.prog 30 #[.int .i64 p.1, .int .i64 x0, .int .i64 x1] W fun e w' => e = .returned (.bool bx) ∧ W = w') := Lib.hid fun W => by rw [hbx]; exact isFrom_any _ _ _ W
  have HY : Hid (∀ W, Calls Tryz.prog 30 #[.int .i64 p.2, .int .i64 y0, .int .i64 y1] W fun e w' => e = .returned (.bool by_) ∧ W = w') := Lib.hid fun W => by rw [hby]; exact isFrom_any _ _ _ W
  have HR : Hid (betweenB a b p = ((t == 0) && (bx && by_))) := Lib.hid (by rw [ht, hbx, hby, hx0, hx1, hy0, hy1]; rfl)
  rw [HR.out]
  clear HR ht hbx hby ha hb hp
  obtain ⟨a1, a2⟩ := a; obtain ⟨b1, b2⟩ := b; obtain ⟨p1, p2⟩ := p
  simp only at hx0 hx1 hy0 hy1 HT HX HY
  unfold spotV
  simp only
  have hx0' := hx0.symm; have hx1' := hx1.symm; have hy0' := hy0.symm; have hy1' := hy1.symm
  clear hx0 hx1 hy0 hy1
  obtain ⟨n, hn⟩ : ∃ n, n = w.heap.size := ⟨_, rfl⟩
  obtain ⟨W, hW⟩ : ∃ W, W = ((w.alloc (spO (a1, a2))).alloc (spO (b1, b2))).alloc (spO (p1, p2)) := ⟨_, rfl⟩
  have h3 := three_boxes w (a1, a2) (b1, b2) (p1, p2)
  rw [← hW, ← hn] at h3
  have H3 := Lib.hid h3; have HW := Lib.hid hW; have HN := Lib.hid hn
  clear h3 hW hn
  go_enter Tryz.func36, Tryz.ntmps36
  go_wp2_with fail
  rw [← HW.out, ← HN.out]
  refine (HT.out W).mono ?_
  rintro e w1 ⟨rfl, hb⟩
  obtain ⟨u0, u1, u2, u3, u4, u5⟩ := H3.out.2 w1 hb
  have HB : Hid (Below w.heap.size w w1) := Lib.hid (by have := H3.out.1.trans (hb.mono (by rw [HN.out]; exact H3.out.1.size)); rwa [HN.out] at this)
  clear hb HW HT H3
  by_cases h0 : t = 0
  · cases bx with
    | true =>
      go_wp2_with (go_at_call 30; first | ((with_reducible refine (HX.out _).mono ?_); rintro e w' ⟨rfl, rfl⟩) | ((with_reducible refine (HY.out _).mono ?_); rintro e w' ⟨rfl, rfl⟩))
      go_ret
      exact ⟨by simp [h0], HB.out⟩
    | false =>
      go_wp2_with (go_at_call 30; first | ((with_reducible refine (HX.out _).mono ?_); rintro e w' ⟨rfl, rfl⟩) | ((with_reducible refine (HY.out _).mono ?_); rintro e w' ⟨rfl, rfl⟩))
      go_ret
      exact ⟨by simp, HB.out⟩
  · go_wp2_with fail
    go_ret
    exact ⟨by simp [h0], HB.out⟩
end Go.Proofs.YtjcaaejfokmolaaGreatDoor
