/- The document's Place, Turn. -/
import Derived.Test.YtoehcabplbljcaaGreatDoorRpHull
import Derived.Test.YtoehcabplbljcaaGreatDoorRpRefIn
namespace Go.Proofs.YtoehcabplbljcaaGreatDoor
open Go.RowKit

set_option maxHeartbeats 1000000 in
theorem refPlace_any (p : Int × Int) (w : World) :
    Calls Tryz.prog 62 #[spotV p] w fun e w' => e = .returned (.bool (placeB p)) ∧ Below w.heap.size w w' := by
  obtain ⟨x, y⟩ := p
  have h1 := fun W => refIn_any x (-16777216) 16777216 W
  have h2 := fun W => refIn_any y (-16777216) 16777216 W
  unfold spotV
  simp only
  cases hx : inB x (-16777216) 16777216 with
  | true =>
    rw [hx] at h1
    have HR : Hid (placeB (x, y) = inB y (-16777216) 16777216) := Lib.hid (by unfold placeB; rw [hx]; rfl)
    have H1 := Lib.hid h1; have H2 := Lib.hid h2; clear h1 h2 hx
    obtain ⟨q, hq⟩ : ∃ q, q = inB y (-16777216) 16777216 := ⟨_, rfl⟩
    rw [← hq] at H2 HR
    clear hq
    go_enter Tryz.func62, Tryz.ntmps62
    go_wp2_with (go_at_call 44; first | ((with_reducible refine (H1.out _).mono ?_); rintro e w' ⟨rfl, rfl⟩) | ((with_reducible refine (H2.out _).mono ?_); rintro e w' ⟨rfl, rfl⟩))
    go_ret
    exact ⟨by rw [HR.out]; rfl, (Below.refl _ _).alloc (Nat.le_refl _) _⟩
  | false =>
    rw [hx] at h1
    have HR : Hid (placeB (x, y) = false) := Lib.hid (by unfold placeB; rw [hx]; rfl)
    have H1 := Lib.hid h1; clear h1 h2 hx
    go_enter Tryz.func62, Tryz.ntmps62
    go_wp2_with (go_at_call 44; ((with_reducible refine (H1.out _).mono ?_); rintro e w' ⟨rfl, rfl⟩))
    go_ret
    exact ⟨by rw [HR.out]; rfl, (Below.refl _ _).alloc (Nat.le_refl _) _⟩

theorem alloc3 (w : World) (a b c : Obj) : Below w.heap.size w (((w.alloc a).alloc b).alloc c) := (((Below.refl _ _).alloc (Nat.le_refl _) _).alloc (by simp) _).alloc (by simp; omega) _

set_option maxRecDepth 100000 in
set_option maxHeartbeats 1000000 in
theorem refTurn_any (a b c : Int × Int) (w : World) (ha : near2 a) (hb : near2 b) (hc : near2 c) :
    Calls Tryz.prog 65 #[spotV a, spotV b, spotV c] w fun e w' => e = .returned (.int .i64 (turnZ a b c)) ∧ Below w.heap.size w w' := by
  obtain ⟨a1, a2⟩ := a; obtain ⟨b1, b2⟩ := b; obtain ⟨c1, c2⟩ := c
  have m1 := mul_near (fromZ_near ha hb).1 (fromZ_near hb hc).2
  have m2 := mul_near (fromZ_near ha hb).2 (fromZ_near hb hc).1
  unfold fromZ at m1 m2
  simp only at m1 m2
  obtain ⟨⟨h1, h2⟩, h3, h4⟩ := ha
  obtain ⟨⟨k1, k2⟩, k3, k4⟩ := hb
  obtain ⟨⟨j1, j2⟩, j3, j4⟩ := hc
  simp only at h1 h2 h3 h4 k1 k2 k3 k4 j1 j2 j3 j4
  have HR : Hid (turnZ (a1, a2) (b1, b2) (c1, c2) = (b1 - a1) * (c2 - b2) - (b2 - a2) * (c1 - b1)) := Lib.hid rfl
  have e1 : IntKind.i64.wrap ((b1 - a1) * (c2 - b2)) = (b1 - a1) * (c2 - b2) := IntWalk.i64_in _ (by omega)
  have e2 : IntKind.i64.wrap ((b2 - a2) * (c1 - b1)) = (b2 - a2) * (c1 - b1) := IntWalk.i64_in _ (by omega)
  have e3 : IntKind.i64.wrap ((b1 - a1) * (c2 - b2) - (b2 - a2) * (c1 - b1)) = (b1 - a1) * (c2 - b2) - (b2 - a2) * (c1 - b1) := IntWalk.i64_in _ (by omega)
  rw [HR.out]
  unfold spotV
  simp only
  clear m1 m2 HR
  go_enter Tryz.func65, Tryz.ntmps65
  go_wp2
  go_ret
  exact ⟨rfl, alloc3 _ _ _ _⟩
end Go.Proofs.YtoehcabplbljcaaGreatDoor
