/- isPlace, isInside. -/
import Derived.Test.YtjcaaejfokmolaaGreatDoorRpArea
namespace Go.Proofs.YtjcaaejfokmolaaGreatDoor
open Go.RowKit

def placeB (p : Int × Int) : Bool := inB p.1 (-16777216) 16777216 && inB p.2 (-16777216) 16777216

set_option maxHeartbeats 1000000 in
theorem isPlace_any (p : Int × Int) (w : World) :
    Calls Tryz.prog 31 #[spotV p] w fun e w' => e = .returned (.bool (placeB p)) ∧ Below w.heap.size w w' := by
  obtain ⟨x, y⟩ := p
  have h1 := fun W => isFrom_any x (-16777216) 16777216 W
  have h2 := fun W => isFrom_any y (-16777216) 16777216 W
  unfold spotV
  simp only
  cases hx : inB x (-16777216) 16777216 with
  | true =>
    rw [hx] at h1
    have HR : Hid (placeB (x, y) = inB y (-16777216) 16777216) := Lib.hid (by unfold placeB; rw [hx]; rfl)
    have H1 := Lib.hid h1; have H2 := Lib.hid h2; clear h1 h2 hx
    obtain ⟨q, hq⟩ : ∃ q, q = inB y (-16777216) 16777216 := ⟨_, rfl⟩
    rw [← hq] at H2 HR
    clear hq
    go_enter Tryz.func31, Tryz.ntmps31
    go_wp2_with (go_at_call 30; first | ((with_reducible refine (H1.out _).mono ?_); rintro e w' ⟨rfl, rfl⟩) | ((with_reducible refine (H2.out _).mono ?_); rintro e w' ⟨rfl, rfl⟩))
    go_ret
    exact ⟨by rw [HR.out]; rfl, (Below.refl _ _).alloc (Nat.le_refl _) _⟩
  | false =>
    rw [hx] at h1
    have HR : Hid (placeB (x, y) = false) := Lib.hid (by unfold placeB; rw [hx]; rfl)
    have H1 := Lib.hid h1; clear h1 h2 hx
    go_enter Tryz.func31, Tryz.ntmps31
    go_wp2_with (go_at_call 30; ((with_reducible refine (H1.out _).mono ?_); rintro e w' ⟨rfl, rfl⟩))
    go_ret
    exact ⟨by rw [HR.out]; rfl, (Below.refl _ _).alloc (Nat.le_refl _) _⟩

def sideB (l : List (Int × Int)) (p : Int × Int) (k : Nat) : Bool := decide (0 ≤ turnZ (atZ l k) (atZ l ((k + 1) % l.length)) p)
def insideB (l : List (Int × Int)) (p : Int × Int) : Bool := (List.range l.length).all (sideB l p)

theorem range_all_true {n : Nat} {f : Nat → Bool} (h : ∀ j, j < n → f j = true) : (List.range n).all f = true := by
  rw [List.all_eq_true]; intro j hj; exact h j (List.mem_range.1 hj)
theorem range_all_false {n k : Nat} {f : Nat → Bool} (hk : k < n) (h : f k = false) : (List.range n).all f = false := by
  rw [List.all_eq_false]; exact ⟨k, List.mem_range.2 hk, by simp [h]⟩

set_option maxRecDepth 100000 in
set_option maxHeartbeats 4000000 in
theorem isInside_any (A : Option Addr) (cap : Nat) (l : List (Int × Int)) (p : Int × Int) (w : World) (h : Area w (.slice A l.length cap) l) (hm : l.length ≤ 1000000) (hl : ∀ k, k < l.length → near2 (atZ l k)) (hp : near2 p) :
    Calls Tryz.prog 37 #[.slice A l.length cap, spotV p] w fun e w' => e = .returned (.bool (insideB l p)) ∧ Below w.heap.size w w' := by
  have HA := Lib.hid h; have HL := Lib.hid hl; have HP := Lib.hid hp
  clear h hl hp
  obtain ⟨n, hn⟩ : ∃ n, n = l.length := ⟨_, rfl⟩
  rw [← hn] at hm ⊢
  have HN := Lib.hid hn; clear hn
  unfold spotV
  go_enter Tryz.func37, Tryz.ntmps37
  go_wp2
  go_loopw [9] (fun iv wr => ∃ k : Nat, k ≤ n ∧ iv = .int .i64 k ∧ Hid (Below (w.heap.size + 1) (w.alloc (.cells #[.int .i64 p.1, .int .i64 p.2] 24)) wr ∧ ∀ j, j < k → sideB l p j = true)) (fun iv _ => n - (intOf iv).toNat)
  case atStart => exact ⟨0, Nat.zero_le _, rfl, Lib.hid ⟨Below.refl _ _, fun j hj => absurd hj (Nat.not_lt_zero j)⟩⟩
  case round =>
    obtain ⟨k, hk, rfl, HI⟩ := hrel
    by_cases hlt : k < n
    · have hlt' : k < l.length := by rw [← HN.out]; exact hlt
      have hsz : w.heap.size + 1 ≤ wr.heap.size := by have := HI.out.1.size; rw [World.size_alloc] at this; exact this
      have hbw : Below w.heap.size w wr := ((Below.refl _ _).alloc (Nat.le_refl _) _).trans (HI.out.1.mono (by omega))
      have hAr : Area wr (.slice A n cap) l := by have := HA.out.below hbw; rw [← HN.out] at this; exact this
      obtain ⟨hnn, hcap, g, off, rfl, hg, c1, c2⟩ := hAr.at_ hlt'
      clear hnn
      have p1 : wr.cell? ⟨w.heap.size, 0, none⟩ = some (.int .i64 p.1) := (HI.out.1.cell (p := ⟨w.heap.size, 0, none⟩) (by simp only; omega)).trans (cellNew w _ _ 0)
      have p2 : wr.cell? ⟨w.heap.size, 1, none⟩ = some (.int .i64 p.2) := (HI.out.1.cell (p := ⟨w.heap.size, 1, none⟩) (by simp only; omega)).trans (cellNew w _ _ 1)
      obtain ⟨a, ha⟩ : ∃ a, a = atZ l k := ⟨_, rfl⟩
      obtain ⟨b, hb⟩ : ∃ b, b = atZ l ((k + 1) % l.length) := ⟨_, rfl⟩
      obtain ⟨r, hr⟩ : ∃ r, r = turnZ a b p := ⟨_, rfl⟩
      rw [← ha] at c1 c2
      obtain ⟨W, hW⟩ : ∃ W, W = wr.alloc (.cells #[.int .i64 a.1, .int .i64 a.2] 24) := ⟨_, rfl⟩
      have hWb : Below wr.heap.size wr W := by rw [hW]; exact (Below.refl _ _).alloc (Nat.le_refl _) _
      have hWs : W.heap.size = wr.heap.size + 1 := by rw [hW]; simp
      have a1 : W.cell? ⟨wr.heap.size, 0, none⟩ = some (.int .i64 a.1) := by rw [hW]; exact cellNew wr _ _ 0
      have a2 : W.cell? ⟨wr.heap.size, 1, none⟩ = some (.int .i64 a.2) := by rw [hW]; exact cellNew wr _ _ 1
      have HS : Hid (∀ w', Below W.heap.size W w' → (w'.cell? ⟨wr.heap.size, 0, none⟩ = some (.int .i64 a.1) ∧ w'.cell? ⟨wr.heap.size, 1, none⟩ = some (.int .i64 a.2) ∧ w'.cell? ⟨w.heap.size, 0, none⟩ = some (.int .i64 p.1) ∧ w'.cell? ⟨w.heap.size, 1, none⟩ = some (.int .i64 p.2) ∧ Below W.heap.size W w')) := Lib.hid fun w' h =>
        ⟨(h.cell (p := ⟨wr.heap.size, 0, none⟩) (by simp only; omega)).trans a1, (h.cell (p := ⟨wr.heap.size, 1, none⟩) (by simp only; omega)).trans a2,
          (h.cell (p := ⟨w.heap.size, 0, none⟩) (by simp only; omega)).trans ((hWb.cell (p := ⟨w.heap.size, 0, none⟩) (by simp only; omega)).trans p1),
          (h.cell (p := ⟨w.heap.size, 1, none⟩) (by simp only; omega)).trans ((hWb.cell (p := ⟨w.heap.size, 1, none⟩) (by simp only; omega)).trans p2), h⟩
      have hArW : Area W (.slice (some ⟨g, off, none⟩) n cap) l := hAr.below hWb
      have HAF : Hid (∀ w', Below W.heap.size W w' → Calls Tryz.prog 75 #[.slice (some ⟨g, off, none⟩) n cap, .int .i64 k] w' fun e w2 => e = .returned (.agg #[.int .i64 b.1, .int .i64 b.2]) ∧ Below w'.heap.size w' w2) := Lib.hid fun w' h => by
        rw [hb]; exact after_any _ n cap l k w' (hArW.below h) (by omega) (by omega) (by have := HN.out; omega)
      have HT : Hid (∀ w', Calls Tryz.prog 74 #[.agg #[.int .i64 a.1, .int .i64 a.2], .agg #[.int .i64 b.1, .int .i64 b.2], .agg #[.int .i64 p.1, .int .i64 p.2]] w' fun e w2 => e = .returned (.int .i64 r) ∧ Below w'.heap.size w' w2) := Lib.hid fun w' => by
        rw [hr]; exact turn_any a b p w' (by rw [ha]; exact HL.out k hlt') (by rw [hb]; exact HL.out _ (Nat.mod_lt _ (by omega))) HP.out
      have HBW : Hid (Below (w.heap.size + 1) (w.alloc (.cells #[.int .i64 p.1, .int .i64 p.2] 24)) W) := Lib.hid (HI.out.1.trans (hWb.mono hsz))
      have HWS : Hid (w.heap.size + 1 ≤ W.heap.size) := Lib.hid (by omega)
      have HSIDE : Hid (sideB l p k = decide (0 ≤ r)) := Lib.hid (by rw [hr, ha, hb]; rfl)
      have HWW := Lib.hid hW
      have HLT' := Lib.hid hlt'
      clear hAr hArW hWb hWs a1 a2 p1 p2 ha hb hr hbw hsz hW hlt'
      have HLT := Lib.hid hlt
      by_cases hr0 : r < 0
      · have HF : Hid (insideB l p = false) := Lib.hid (range_all_false HLT'.out (by rw [HSIDE.out]; exact decide_eq_false (by omega)))
        go_wp2_with fail
        rw [← HWW.out]
        go_region_held3 (fun w' => w'.cell? ⟨wr.heap.size, 0, none⟩ = some (.int .i64 a.1) ∧ w'.cell? ⟨wr.heap.size, 1, none⟩ = some (.int .i64 a.2) ∧ w'.cell? ⟨w.heap.size, 0, none⟩ = some (.int .i64 p.1) ∧ w'.cell? ⟨w.heap.size, 1, none⟩ = some (.int .i64 p.2) ∧ Below W.heap.size W w')
          (first | exact HS.out _ hBn | exact HS.out _ (Below.refl _ _).drew | exact HS.out _ (Below.refl _ _) | assumption)
          (first
            | (go_at_call 75; go_split_ands; ((with_reducible refine (HAF.out _ (by assumption)).mono ?_); rintro e w' ⟨rfl, hb⟩); have hBn := below_chain (W := W) (by assumption) hb)
            | (go_at_call 74; go_split_ands; ((with_reducible refine (HT.out _).mono ?_); rintro e w' ⟨rfl, hb⟩); have hBn := below_chain (W := W) (by assumption) hb))
        all_goals
          have HZ := Lib.hid (HBW.out.trans (hBn.mono HWS.out))
          clear HS HAF HT HBW HWS
          go_wp2
          go_ret
          exact ⟨by rw [HF.out]; rfl, ((Below.refl _ _).alloc (Nat.le_refl _) _).trans (HZ.out.mono (by omega))⟩
      · have HF : Hid (sideB l p k = true) := Lib.hid (by rw [HSIDE.out]; exact decide_eq_true (by omega))
        go_wp2_with fail
        rw [← HWW.out]
        go_region_held3 (fun w' => w'.cell? ⟨wr.heap.size, 0, none⟩ = some (.int .i64 a.1) ∧ w'.cell? ⟨wr.heap.size, 1, none⟩ = some (.int .i64 a.2) ∧ w'.cell? ⟨w.heap.size, 0, none⟩ = some (.int .i64 p.1) ∧ w'.cell? ⟨w.heap.size, 1, none⟩ = some (.int .i64 p.2) ∧ Below W.heap.size W w')
          (first | exact HS.out _ hBn | exact HS.out _ (Below.refl _ _).drew | exact HS.out _ (Below.refl _ _) | assumption)
          (first
            | (go_at_call 75; go_split_ands; ((with_reducible refine (HAF.out _ (by assumption)).mono ?_); rintro e w' ⟨rfl, hb⟩); have hBn := below_chain (W := W) (by assumption) hb)
            | (go_at_call 74; go_split_ands; ((with_reducible refine (HT.out _).mono ?_); rintro e w' ⟨rfl, hb⟩); have hBn := below_chain (W := W) (by assumption) hb))
        all_goals
          have HZ := Lib.hid (HBW.out.trans (hBn.mono HWS.out))
          clear HS HAF HT HBW HWS hBn
          go_wp2
          go_roundw
          case rel => exact ⟨k + 1, by omega, by go_num, Lib.hid ⟨HZ.out, fun j hj => by
            by_cases e : j = k
            · subst e; exact HF.out
            · exact HI.out.2 j (by omega)⟩⟩
          case measure => have := HLT.out; simp [intOf]; omega
    · have hall : insideB l p = true := range_all_true fun j hj => HI.out.2 j (by have := HN.out; omega)
      have HF := Lib.hid hall; clear hall
      go_wp2
      go_ret
      exact ⟨by rw [HF.out]; rfl, ((Below.refl _ _).alloc (Nat.le_refl _) _).trans (HI.out.1.mono (by omega))⟩
end Go.Proofs.YtjcaaejfokmolaaGreatDoor
