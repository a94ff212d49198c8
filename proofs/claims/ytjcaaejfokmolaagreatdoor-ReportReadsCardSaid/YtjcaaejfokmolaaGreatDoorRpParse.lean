/- Parse: what it answers for every line of at most 300 bytes. -/
import Derived.Test.YtjcaaejfokmolaaGreatDoorRpDoor
import Derived.Laws.EntriesVeiled
namespace Go.Proofs.YtjcaaejfokmolaaGreatDoor
open Go.RowKit

/-- what holds between two sections. -/
def Mid (m : Int) (t : ByteArray) (w W1 wr : World) (k : Nat) (s : Sl) (wv : Value) : Prop :=
  Held m wr (w.heap.size + 1 + 1 + 1) t s wv ∧ W1.grownBy wr (some (w.heap.size + 1 + 1 + 1)) ∧ goOn t 7 s0 = goOn t (7 - k) s ∧ (k ≤ 4 → s.2 = [])

theorem mid_next {m t w W1 wr k s wv} {w' : World} {s' : Sl} (h : Mid m t w W1 wr k s wv) (hk : k < 7) (hr : secL t k s = .ok s') (hp : Post m (w.heap.size + 1 + 1 + 1) t (secL t k s) wr .outgrown w' ∨ Post m (w.heap.size + 1 + 1 + 1) t (secL t k s) wr (.returned (.tuple #[])) w') :
    ∃ wv', Mid m t w W1 w' (k + 1) s' wv' := by
  rw [hr] at hp
  have hp' : (∃ wv', Held m w' (w.heap.size + 1 + 1 + 1) t s' wv') ∧ wr.grownBy w' (some (w.heap.size + 1 + 1 + 1)) := by
    rcases hp with hp | hp
    · exact ⟨hp.2.1, hp.2.2⟩
    · exact ⟨hp.2.1, hp.2.2⟩
  obtain ⟨⟨wv', hh⟩, hg⟩ := hp'
  refine ⟨wv', hh, grown_trans h.2.1 hg, ?_, fun hk4 => ?_⟩
  · rw [h.2.2.1]
    obtain ⟨n, hn⟩ : ∃ n, 7 - k = n + 1 := ⟨6 - k, by omega⟩
    rw [hn, show 7 - (k + 1) = n by omega]
    show (match secL t (6 - n) s with | .ok s' => goOn t n s' | .error x => .error x) = _
    rw [show 6 - n = k by omega, hr]
  · rw [secL_keeps (by omega) hr]; exact h.2.2.2 (by omega)

theorem mid_fault {m t w W1 wr k s wv} {x : Nat × Int} (q : List (Int × Int) → Bool) (h : Mid m t w W1 wr k s wv) (hk : k < 7) (ht : t.size ≤ 300) (hr : secL t k s = .error x) : parseR t q = .error x := by
  unfold parseR
  rw [if_neg (by omega), h.2.2.1]
  obtain ⟨n, hn⟩ : ∃ n, 7 - k = n + 1 := ⟨6 - k, by omega⟩
  rw [hn]
  have e1 : goOn t (n + 1) s = .error x := by
    show (match secL t (6 - n) s with | .ok s' => goOn t n s' | .error x => .error x) = _
    rw [show 6 - n = k by omega, hr]
  rw [e1]

theorem sec_cell {w W1 wr : World} (h1 : W1.heap[w.heap.size + 1 + 1 + 1 + 1]? = some (.cells secF 81 (0, 0))) (hg : W1.grownBy wr (some (w.heap.size + 1 + 1 + 1))) (i : Nat) : wr.cell? ⟨w.heap.size + 1 + 1 + 1 + 1, i, none⟩ = secF[i]? := by
  have : wr.heap[w.heap.size + 1 + 1 + 1 + 1]? = some (.cells secF 81 (0, 0)) := (hg.block _ (Array.getElem?_eq_some_iff.1 h1).1 (by intro e; injection e with e; omega)).trans h1
  simp [World.cell?, this]

theorem grown_alloc_back {w w' : World} {o : Obj} {r : Option Nat} (h : (w.alloc o).grownBy w' r) : w.grownBy w' r := grown_trans (World.grownBy_alloc w o r) h

theorem res_cells {N : Nat} {w : World} (h : Res3 w N) :
    (w.cell? ⟨N, 0, none⟩ = some (.int .i64 0) ∧ w.cell? ⟨N, 1, none⟩ = some (.int .i64 0) ∧ w.cell? ⟨N, 2, none⟩ = some (.string ⟨#[]⟩) ∧ w.cell? ⟨N, 3, none⟩ = some (.string ⟨#[]⟩) ∧ w.cell? ⟨N, 4, none⟩ = some (.slice none 0 0) ∧ w.cell? ⟨N, 5, none⟩ = some (.int .i64 0) ∧ w.cell? ⟨N, 6, none⟩ = some (.int .i64 0)) ∧
    w.cell? ⟨N + 1, 0, none⟩ = some (.int .i64 0) ∧ w.cell? ⟨N + 1 + 1, 0, none⟩ = some (.int .i64 0) ∧
    (w.frozen? ⟨N, 0, none⟩ = false ∧ w.frozen? ⟨N, 1, none⟩ = false ∧ w.frozen? ⟨N, 2, none⟩ = false ∧ w.frozen? ⟨N, 3, none⟩ = false ∧ w.frozen? ⟨N, 4, none⟩ = false ∧ w.frozen? ⟨N, 5, none⟩ = false ∧ w.frozen? ⟨N, 6, none⟩ = false) ∧
    w.frozen? ⟨N + 1, 0, none⟩ = false ∧ w.frozen? ⟨N + 1 + 1, 0, none⟩ = false := by
  have hr := h.r; have ha := h.a; have he := h.e
  refine ⟨⟨?_, ?_, ?_, ?_, ?_, ?_, ?_⟩, ?_, ?_, ⟨?_, ?_, ?_, ?_, ?_, ?_, ?_⟩, ?_, ?_⟩ <;> simp [World.cell?, World.frozen?, hr, ha, he]

/-- the world behind the results' stores. -/
abbrev stored (W : World) (N : Nat) (v0 v1 v2 v3 v4 v5 v6 : Value) : World :=
  ((((((((W.setCell ⟨N, 0, none⟩ v0).setCell ⟨N, 1, none⟩ v1).setCell ⟨N, 2, none⟩ v2).setCell ⟨N, 3, none⟩ v3).setCell ⟨N, 4, none⟩ v4).setCell ⟨N, 5, none⟩ v5).setCell ⟨N, 6, none⟩ v6).setCell ⟨N + 1, 0, none⟩ (.int .i64 0)).setCell ⟨N + 1 + 1, 0, none⟩ (.int .i64 0)

theorem resv_of {N : Nat} {W : World} (h : Res3 W N) (v0 v1 v2 v3 v4 v5 v6 : Value) : ResV (stored W N v0 v1 v2 v3 v4 v5 v6) N v0 v1 v2 v3 v4 v5 v6 0 0 := by
  refine ⟨?_, ?_, ?_⟩
  · have g0 := heap_set h.r 0 v0
    have g1 := heap_set g0 1 v1
    have g2 := heap_set g1 2 v2
    have g3 := heap_set g2 3 v3
    have g4 := heap_set g3 4 v4
    have g5 := heap_set g4 5 v5
    have g6 := heap_set g5 6 v6
    have g7 := heap_far (a := ⟨N + 1, 0, none⟩) (u := .int .i64 0) g6 (show N ≠ N + 1 by omega)
    have g8 := heap_far (a := ⟨N + 1 + 1, 0, none⟩) (u := .int .i64 0) g7 (show N ≠ N + 1 + 1 by omega)
    simp only [List.setIfInBounds_toArray, List.set_cons_zero, List.set_cons_succ] at g8
    exact g8
  · have g0 := heap_far (a := ⟨N, 0, none⟩) (u := v0) h.a (show N + 1 ≠ N by omega)
    have g1 := heap_far (a := ⟨N, 1, none⟩) (u := v1) g0 (show N + 1 ≠ N by omega)
    have g2 := heap_far (a := ⟨N, 2, none⟩) (u := v2) g1 (show N + 1 ≠ N by omega)
    have g3 := heap_far (a := ⟨N, 3, none⟩) (u := v3) g2 (show N + 1 ≠ N by omega)
    have g4 := heap_far (a := ⟨N, 4, none⟩) (u := v4) g3 (show N + 1 ≠ N by omega)
    have g5 := heap_far (a := ⟨N, 5, none⟩) (u := v5) g4 (show N + 1 ≠ N by omega)
    have g6 := heap_far (a := ⟨N, 6, none⟩) (u := v6) g5 (show N + 1 ≠ N by omega)
    have g8 := heap_far (a := ⟨N + 1 + 1, 0, none⟩) (u := .int .i64 0) (heap_set g6 0 (.int .i64 0)) (show N + 1 ≠ N + 1 + 1 by omega)
    simp only [List.setIfInBounds_toArray, List.set_cons_zero] at g8
    exact g8
  · have g0 := heap_far (a := ⟨N, 0, none⟩) (u := v0) h.e (show N + 1 + 1 ≠ N by omega)
    have g1 := heap_far (a := ⟨N, 1, none⟩) (u := v1) g0 (show N + 1 + 1 ≠ N by omega)
    have g2 := heap_far (a := ⟨N, 2, none⟩) (u := v2) g1 (show N + 1 + 1 ≠ N by omega)
    have g3 := heap_far (a := ⟨N, 3, none⟩) (u := v3) g2 (show N + 1 + 1 ≠ N by omega)
    have g4 := heap_far (a := ⟨N, 4, none⟩) (u := v4) g3 (show N + 1 + 1 ≠ N by omega)
    have g5 := heap_far (a := ⟨N, 5, none⟩) (u := v5) g4 (show N + 1 + 1 ≠ N by omega)
    have g6 := heap_far (a := ⟨N, 6, none⟩) (u := v6) g5 (show N + 1 + 1 ≠ N by omega)
    have g8 := heap_set (heap_far (a := ⟨N + 1, 0, none⟩) (u := .int .i64 0) g6 (show N + 1 + 1 ≠ N + 1 by omega)) 0 (.int .i64 0)
    simp only [List.setIfInBounds_toArray, List.set_cons_zero] at g8
    exact g8

theorem below_set {w W : World} {N : Nat} {v0 v1 v2 v3 v4 v5 v6 : Value} (hb : Below N w W) : Below N w (stored W N v0 v1 v2 v3 v4 v5 v6) :=
  (((((((((hb.setCell (p := ⟨N, 0, none⟩) (Nat.le_refl _) _).setCell (p := ⟨N, 1, none⟩) (Nat.le_refl _) _).setCell (p := ⟨N, 2, none⟩) (Nat.le_refl _) _).setCell (p := ⟨N, 3, none⟩) (Nat.le_refl _) _).setCell (p := ⟨N, 4, none⟩) (Nat.le_refl _) _).setCell (p := ⟨N, 5, none⟩) (Nat.le_refl _) _).setCell (p := ⟨N, 6, none⟩) (Nat.le_refl _) _).setCell (p := ⟨N + 1, 0, none⟩) (Nat.le_succ _) _).setCell (p := ⟨N + 1 + 1, 0, none⟩) (by simp only; omega) _)

theorem Area.set {W : World} {v : Value} {l : List (Int × Int)} {B : Nat} {p : Addr} {u : Value} (h : Area W v l) (ha : Apart B v) (hp : p.block < B) : Area (W.setCell p u) v l := by
  obtain ⟨A, cap, rfl, hc, hx⟩ := h
  refine ⟨A, cap, rfl, hc, fun hne => ?_⟩
  obtain ⟨g, off, rfl, hlt, hcell⟩ := hx hne
  have hg := ha g off _ _ rfl
  refine ⟨g, off, rfl, by simpa [World.setCell] using hlt, fun i x y hi => ?_⟩
  obtain ⟨h1, h2⟩ := hcell i x y hi
  exact ⟨(World.cell?_setCell_other W p ⟨g, off + i * 2, none⟩ u (by intro e; subst e; simp only at hp; omega)).trans h1, (World.cell?_setCell_other W p ⟨g, off + i * 2 + 1, none⟩ u (by intro e; subst e; simp only at hp; omega)).trans h2⟩

theorem area_set {W : World} {N : Nat} {v0 v1 v2 v3 v4 v5 v6 v : Value} {l : List (Int × Int)} {o : Obj} (h : Area W v l) (ha : Apart (N + 1 + 1 + 1) v) : Area ((stored W N v0 v1 v2 v3 v4 v5 v6).alloc o) v l :=
  Area.below ((((((((((h.set ha (by simp only; omega)).set ha (by simp only; omega)).set ha (by simp only; omega)).set ha (by simp only; omega)).set ha (by simp only; omega)).set ha (by simp only; omega)).set ha (by simp only; omega)).set ha (by simp only; omega)).set ha (by simp only; omega))) ((Below.refl _ _).alloc (Nat.le_refl _) _)

set_option maxRecDepth 100000 in
set_option maxHeartbeats 8000000 in
theorem Parse_any (m : Int) (t : ByteArray) (q : List (Int × Int) → Bool) (w : World) (hE : Env m w) (ht : t.size ≤ 300)
    (hQ : ∀ s wv w', goOn t 7 s0 = .ok s → Area w' wv s.2 → AreaSays w' wv (q s.2) ∧ s.1.abt.size ≤ 9223372036854775807 ∧ s.1.src.size ≤ 9223372036854775807) :
    Calls Tryz.prog 19 #[.string t] w (ParsePost t q w) := by
  have hmf : ∀ (fn : Fn) (first cap : Array Value) (w : World), (Instr.makeFunc fn first cap).run Tryz.prog w = .ok (.func fn first cap) w := fun _ _ _ _ => rfl
  have ht' : ¬ (300 : Int) < t.size := by omega
  have HT := Lib.hid ht
  have HQ := Lib.hid hQ
  obtain ⟨W1, hW1⟩ : ∃ W1, W1 = ((((w.alloc (.cells #[.int .i64 0, .int .i64 0, .string ⟨#[]⟩, .string ⟨#[]⟩, .slice none 0 0, .int .i64 0, .int .i64 0] 29)).alloc (.cells #[.int .i64 0] 3)).alloc (.cells #[.int .i64 0] 32)).alloc (.cells #[.string t, .int .i64 0, .int .i64 0, .int .i64 0, .string ⟨#[]⟩, .string ⟨#[]⟩, .slice none 0 0, .int .i64 (-1), .int .i64 0] 76)).alloc (.cells secF 81) := ⟨_, rfl⟩
  have hsz : W1.heap.size = w.heap.size + 5 := by rw [hW1]; simp
  have hB1 : Below w.heap.size w W1 := by
    rw [hW1]; exact (((((Below.refl _ _).alloc (Nat.le_refl _) _).alloc (by simp) _).alloc (by simp only [World.size_alloc]; omega) _).alloc (by simp only [World.size_alloc]; omega) _).alloc (by simp only [World.size_alloc]; omega) _
  have hres : Res3 W1 w.heap.size := by
    rw [hW1]; exact ⟨five0 _ _ _ _ _ _, five1 _ _ _ _ _ _, five2 _ _ _ _ _ _⟩
  have hline : LineIs W1 (w.heap.size + 1 + 1 + 1) t s0.1 (.slice none 0 0) := by
    rw [hW1]; exact ⟨five3 _ _ _ _ _ _, ht, Nat.zero_le _⟩
  have hsec : W1.heap[w.heap.size + 1 + 1 + 1 + 1]? = some (.cells secF 81 (0, 0)) := by rw [hW1]; exact five4 _ _ _ _ _ _
  have henv : Env m W1 := ⟨(hB1.cell (p := ⟨_, 0, none⟩) (World.block_lt_of_cell? w ⟨_, 0, none⟩ hE.mx)).trans hE.mx, fun i hi => (hB1.cell (p := ⟨_, i, none⟩) (World.block_lt_of_cell? w ⟨_, i, none⟩ (hE.kw i hi))).trans (hE.kw i hi)⟩
  have hheld : Held m W1 (w.heap.size + 1 + 1 + 1) t s0 (.slice none 0 0) := ⟨hline, ⟨none, 0, rfl, Nat.le_refl _, fun h => absurd rfl h⟩, (fun g off n cap e => by cases e), fun _ => rfl, henv⟩
  have HM0 : Hid (Mid m t w W1 W1 0 s0 (.slice none 0 0)) := Lib.hid ⟨hheld, grown_refl _ _, rfl, fun _ => rfl⟩
  have HRES := Lib.hid hres; have HSEC := Lib.hid hsec; have HB1 := Lib.hid hB1; have HW1 := Lib.hid hW1; have HSZ := Lib.hid hsz
  clear hE hQ hsz hB1 hres hline hsec henv hheld ht
  unfold secF at hW1
  go_enter_defers Tryz.func19, Tryz.ntmps19
  go_wp2_with (go_at_call 49; refine (sections_any _).mono ?_; rintro e w' ⟨rfl, rfl⟩)
  rw [← HW1.out]
  clear hW1
  go_loopw [18] (fun iv wr => ∃ (k : Int) (s : Sl) (wv : Value), 0 ≤ k ∧ k ≤ 7 ∧ iv = .int .i64 k ∧ Hid (Mid m t w W1 wr k.toNat s wv)) (fun iv _ => 7 - (intOf iv).toNat)
  case atStart => exact ⟨0, s0, .slice none 0 0, by omega, by omega, rfl, HM0⟩
  case round =>
    obtain ⟨k, s, wv, hk0, hk7, rfl, HM⟩ := hrel
    have hcases : k = 0 ∨ k = 1 ∨ k = 2 ∨ k = 3 ∨ k = 4 ∨ k = 5 ∨ k = 6 ∨ k = 7 := by omega
    rcases hcases with rfl | rfl | rfl | rfl | rfl | rfl | rfl | rfl
    · have d0 := (show wr.cell? ⟨w.heap.size + 1 + 1 + 1 + 1, 0, none⟩ = some (.string ⟨#[]⟩) from sec_cell HSEC.out HM.out.2.1 0)
      have d1 := (show wr.cell? ⟨w.heap.size + 1 + 1 + 1 + 1, 1, none⟩ = some (.bool false) from sec_cell HSEC.out HM.out.2.1 1)
      have d2 := (show wr.cell? ⟨w.heap.size + 1 + 1 + 1 + 1, 2, none⟩ = some (.func (.func 82) #[] #[]) from sec_cell HSEC.out HM.out.2.1 2)
      have HC : Hid (Calls Tryz.prog 50 #[.pointer (some ⟨w.heap.size + 1 + 1 + 1, 0, none⟩), .agg #[.string ⟨#[]⟩, .bool false, .func (.func 82) #[] #[]]] (wr.alloc (.cells #[.string ⟨#[]⟩, .bool false, .func (.func 82) #[] #[]] 81)) (Post m (w.heap.size + 1 + 1 + 1) t (secL t 0 s) wr)) := Lib.hid ((section_at m t 0 (by omega) _ s wv _ (fun e => by first | exact HM.out.2.2.2 (by decide) | cases e) (HM.out.1.alloc _)).mono fun e w' hp => hp.back)
      cases hr : secL t 0 s with
      | ok s' =>
        have HR := Lib.hid hr; clear hr
        go_wp2_with (go_at_call 50; ((with_reducible refine HC.out.mono ?_); rintro e w' hp; obtain rfl := hp.ok HR.out; have HN := Lib.hid (mid_next HM.out (by decide) HR.out (.inr hp)); clear hp))
        go_roundw
        case rel =>
          obtain ⟨wv', hn⟩ := HN.out
          exact ⟨1, s', wv', by omega, by omega, rfl, Lib.hid hn⟩
        case measure => simp [intOf]
      | error x =>
        have HR := Lib.hid hr; clear hr
        go_wp2_with (go_at_call 50; ((with_reducible refine HC.out.mono ?_); rintro e w' hp; obtain rfl := hp.error HR.out; rw [HR.out] at hp; have HG := Lib.hid hp.2; clear hp))
        have hgr := grown_trans HM.out.2.1 HG.out
        refine door_fault w.heap.size x.1 x.2 w' _ _ rfl rfl rfl (HRES.out.grown (by omega) hgr) (fun w2 hb => ?_)
        unfold ParsePost
        rw [mid_fault q HM.out (by decide) HT.out HR.out]
        refine ⟨rfl, HB1.out.trans (Below.trans ?_ hb)⟩
        exact ⟨hgr.os, hgr.tape, hgr.output, hgr.size, fun j hj => hgr.block j (by have := HSZ.out; omega) (by intro e; injection e with e; omega)⟩
    · have d0 := (show wr.cell? ⟨w.heap.size + 1 + 1 + 1 + 1, 3, none⟩ = some (.string ⟨#[97, 116]⟩) from sec_cell HSEC.out HM.out.2.1 3)
      have d1 := (show wr.cell? ⟨w.heap.size + 1 + 1 + 1 + 1, 4, none⟩ = some (.bool false) from sec_cell HSEC.out HM.out.2.1 4)
      have d2 := (show wr.cell? ⟨w.heap.size + 1 + 1 + 1 + 1, 5, none⟩ = some (.func (.func 83) #[] #[]) from sec_cell HSEC.out HM.out.2.1 5)
      have HC : Hid (Calls Tryz.prog 50 #[.pointer (some ⟨w.heap.size + 1 + 1 + 1, 0, none⟩), .agg #[.string ⟨#[97, 116]⟩, .bool false, .func (.func 83) #[] #[]]] (wr.alloc (.cells #[.string ⟨#[97, 116]⟩, .bool false, .func (.func 83) #[] #[]] 81)) (Post m (w.heap.size + 1 + 1 + 1) t (secL t 1 s) wr)) := Lib.hid ((section_at m t 1 (by omega) _ s wv _ (fun e => by first | exact HM.out.2.2.2 (by decide) | cases e) (HM.out.1.alloc _)).mono fun e w' hp => hp.back)
      cases hr : secL t 1 s with
      | ok s' =>
        have HR := Lib.hid hr; clear hr
        go_wp2_with (go_at_call 50; ((with_reducible refine HC.out.mono ?_); rintro e w' hp; obtain rfl := hp.ok HR.out; have HN := Lib.hid (mid_next HM.out (by decide) HR.out (.inr hp)); clear hp))
        go_roundw
        case rel =>
          obtain ⟨wv', hn⟩ := HN.out
          exact ⟨2, s', wv', by omega, by omega, rfl, Lib.hid hn⟩
        case measure => simp [intOf]
      | error x =>
        have HR := Lib.hid hr; clear hr
        go_wp2_with (go_at_call 50; ((with_reducible refine HC.out.mono ?_); rintro e w' hp; obtain rfl := hp.error HR.out; rw [HR.out] at hp; have HG := Lib.hid hp.2; clear hp))
        have hgr := grown_trans HM.out.2.1 HG.out
        refine door_fault w.heap.size x.1 x.2 w' _ _ rfl rfl rfl (HRES.out.grown (by omega) hgr) (fun w2 hb => ?_)
        unfold ParsePost
        rw [mid_fault q HM.out (by decide) HT.out HR.out]
        refine ⟨rfl, HB1.out.trans (Below.trans ?_ hb)⟩
        exact ⟨hgr.os, hgr.tape, hgr.output, hgr.size, fun j hj => hgr.block j (by have := HSZ.out; omega) (by intro e; injection e with e; omega)⟩
    · have d0 := (show wr.cell? ⟨w.heap.size + 1 + 1 + 1 + 1, 6, none⟩ = some (.string ⟨#[98, 121]⟩) from sec_cell HSEC.out HM.out.2.1 6)
      have d1 := (show wr.cell? ⟨w.heap.size + 1 + 1 + 1 + 1, 7, none⟩ = some (.bool false) from sec_cell HSEC.out HM.out.2.1 7)
      have d2 := (show wr.cell? ⟨w.heap.size + 1 + 1 + 1 + 1, 8, none⟩ = some (.func (.func 85) #[] #[]) from sec_cell HSEC.out HM.out.2.1 8)
      have HC : Hid (Calls Tryz.prog 50 #[.pointer (some ⟨w.heap.size + 1 + 1 + 1, 0, none⟩), .agg #[.string ⟨#[98, 121]⟩, .bool false, .func (.func 85) #[] #[]]] (wr.alloc (.cells #[.string ⟨#[98, 121]⟩, .bool false, .func (.func 85) #[] #[]] 81)) (Post m (w.heap.size + 1 + 1 + 1) t (secL t 2 s) wr)) := Lib.hid ((section_at m t 2 (by omega) _ s wv _ (fun e => by first | exact HM.out.2.2.2 (by decide) | cases e) (HM.out.1.alloc _)).mono fun e w' hp => hp.back)
      cases hr : secL t 2 s with
      | ok s' =>
        have HR := Lib.hid hr; clear hr
        go_wp2_with (go_at_call 50; ((with_reducible refine HC.out.mono ?_); rintro e w' hp; obtain rfl := hp.ok HR.out; have HN := Lib.hid (mid_next HM.out (by decide) HR.out (.inr hp)); clear hp))
        go_roundw
        case rel =>
          obtain ⟨wv', hn⟩ := HN.out
          exact ⟨3, s', wv', by omega, by omega, rfl, Lib.hid hn⟩
        case measure => simp [intOf]
      | error x =>
        have HR := Lib.hid hr; clear hr
        go_wp2_with (go_at_call 50; ((with_reducible refine HC.out.mono ?_); rintro e w' hp; obtain rfl := hp.error HR.out; rw [HR.out] at hp; have HG := Lib.hid hp.2; clear hp))
        have hgr := grown_trans HM.out.2.1 HG.out
        refine door_fault w.heap.size x.1 x.2 w' _ _ rfl rfl rfl (HRES.out.grown (by omega) hgr) (fun w2 hb => ?_)
        unfold ParsePost
        rw [mid_fault q HM.out (by decide) HT.out HR.out]
        refine ⟨rfl, HB1.out.trans (Below.trans ?_ hb)⟩
        exact ⟨hgr.os, hgr.tape, hgr.output, hgr.size, fun j hj => hgr.block j (by have := HSZ.out; omega) (by intro e; injection e with e; omega)⟩
    · have d0 := (show wr.cell? ⟨w.heap.size + 1 + 1 + 1 + 1, 9, none⟩ = some (.string ⟨#[97, 98, 111, 117, 116]⟩) from sec_cell HSEC.out HM.out.2.1 9)
      have d1 := (show wr.cell? ⟨w.heap.size + 1 + 1 + 1 + 1, 10, none⟩ = some (.bool true) from sec_cell HSEC.out HM.out.2.1 10)
      have d2 := (show wr.cell? ⟨w.heap.size + 1 + 1 + 1 + 1, 11, none⟩ = some (.func (.func 87) #[] #[]) from sec_cell HSEC.out HM.out.2.1 11)
      have HC : Hid (Calls Tryz.prog 50 #[.pointer (some ⟨w.heap.size + 1 + 1 + 1, 0, none⟩), .agg #[.string ⟨#[97, 98, 111, 117, 116]⟩, .bool true, .func (.func 87) #[] #[]]] (wr.alloc (.cells #[.string ⟨#[97, 98, 111, 117, 116]⟩, .bool true, .func (.func 87) #[] #[]] 81)) (Post m (w.heap.size + 1 + 1 + 1) t (secL t 3 s) wr)) := Lib.hid ((section_at m t 3 (by omega) _ s wv _ (fun e => by first | exact HM.out.2.2.2 (by decide) | cases e) (HM.out.1.alloc _)).mono fun e w' hp => hp.back)
      cases hr : secL t 3 s with
      | ok s' =>
        have HR := Lib.hid hr; clear hr
        go_wp2_with (go_at_call 50; ((with_reducible refine HC.out.mono ?_); rintro e w' hp; obtain rfl := hp.ok HR.out; have HN := Lib.hid (mid_next HM.out (by decide) HR.out (.inr hp)); clear hp))
        go_roundw
        case rel =>
          obtain ⟨wv', hn⟩ := HN.out
          exact ⟨4, s', wv', by omega, by omega, rfl, Lib.hid hn⟩
        case measure => simp [intOf]
      | error x =>
        have HR := Lib.hid hr; clear hr
        go_wp2_with (go_at_call 50; ((with_reducible refine HC.out.mono ?_); rintro e w' hp; obtain rfl := hp.error HR.out; rw [HR.out] at hp; have HG := Lib.hid hp.2; clear hp))
        have hgr := grown_trans HM.out.2.1 HG.out
        refine door_fault w.heap.size x.1 x.2 w' _ _ rfl rfl rfl (HRES.out.grown (by omega) hgr) (fun w2 hb => ?_)
        unfold ParsePost
        rw [mid_fault q HM.out (by decide) HT.out HR.out]
        refine ⟨rfl, HB1.out.trans (Below.trans ?_ hb)⟩
        exact ⟨hgr.os, hgr.tape, hgr.output, hgr.size, fun j hj => hgr.block j (by have := HSZ.out; omega) (by intro e; injection e with e; omega)⟩
    · have d0 := (show wr.cell? ⟨w.heap.size + 1 + 1 + 1 + 1, 12, none⟩ = some (.string ⟨#[105, 110]⟩) from sec_cell HSEC.out HM.out.2.1 12)
      have d1 := (show wr.cell? ⟨w.heap.size + 1 + 1 + 1 + 1, 13, none⟩ = some (.bool false) from sec_cell HSEC.out HM.out.2.1 13)
      have d2 := (show wr.cell? ⟨w.heap.size + 1 + 1 + 1 + 1, 14, none⟩ = some (.func (.func 88) #[] #[]) from sec_cell HSEC.out HM.out.2.1 14)
      have HC : Hid (Calls Tryz.prog 50 #[.pointer (some ⟨w.heap.size + 1 + 1 + 1, 0, none⟩), .agg #[.string ⟨#[105, 110]⟩, .bool false, .func (.func 88) #[] #[]]] (wr.alloc (.cells #[.string ⟨#[105, 110]⟩, .bool false, .func (.func 88) #[] #[]] 81)) (Post m (w.heap.size + 1 + 1 + 1) t (secL t 4 s) wr)) := Lib.hid ((section_at m t 4 (by omega) _ s wv _ (fun e => by first | exact HM.out.2.2.2 (by decide) | cases e) (HM.out.1.alloc _)).mono fun e w' hp => hp.back)
      cases hr : secL t 4 s with
      | ok s' =>
        have HR := Lib.hid hr; clear hr
        go_wp2_with (go_at_call 50; ((with_reducible refine HC.out.mono ?_); rintro e w' hp; obtain rfl := hp.ok HR.out; have HN := Lib.hid (mid_next HM.out (by decide) HR.out (.inr hp)); clear hp))
        go_roundw
        case rel =>
          obtain ⟨wv', hn⟩ := HN.out
          exact ⟨5, s', wv', by omega, by omega, rfl, Lib.hid hn⟩
        case measure => simp [intOf]
      | error x =>
        have HR := Lib.hid hr; clear hr
        go_wp2_with (go_at_call 50; ((with_reducible refine HC.out.mono ?_); rintro e w' hp; obtain rfl := hp.error HR.out; rw [HR.out] at hp; have HG := Lib.hid hp.2; clear hp))
        have hgr := grown_trans HM.out.2.1 HG.out
        refine door_fault w.heap.size x.1 x.2 w' _ _ rfl rfl rfl (HRES.out.grown (by omega) hgr) (fun w2 hb => ?_)
        unfold ParsePost
        rw [mid_fault q HM.out (by decide) HT.out HR.out]
        refine ⟨rfl, HB1.out.trans (Below.trans ?_ hb)⟩
        exact ⟨hgr.os, hgr.tape, hgr.output, hgr.size, fun j hj => hgr.block j (by have := HSZ.out; omega) (by intro e; injection e with e; omega)⟩
    · have d0 := (show wr.cell? ⟨w.heap.size + 1 + 1 + 1 + 1, 15, none⟩ = some (.string ⟨#[115, 111, 117, 108, 115]⟩) from sec_cell HSEC.out HM.out.2.1 15)
      have d1 := (show wr.cell? ⟨w.heap.size + 1 + 1 + 1 + 1, 16, none⟩ = some (.bool true) from sec_cell HSEC.out HM.out.2.1 16)
      have d2 := (show wr.cell? ⟨w.heap.size + 1 + 1 + 1 + 1, 17, none⟩ = some (.func (.func 89) #[] #[]) from sec_cell HSEC.out HM.out.2.1 17)
      have HC : Hid (Calls Tryz.prog 50 #[.pointer (some ⟨w.heap.size + 1 + 1 + 1, 0, none⟩), .agg #[.string ⟨#[115, 111, 117, 108, 115]⟩, .bool true, .func (.func 89) #[] #[]]] (wr.alloc (.cells #[.string ⟨#[115, 111, 117, 108, 115]⟩, .bool true, .func (.func 89) #[] #[]] 81)) (Post m (w.heap.size + 1 + 1 + 1) t (secL t 5 s) wr)) := Lib.hid ((section_at m t 5 (by omega) _ s wv _ (fun e => by first | exact HM.out.2.2.2 (by decide) | cases e) (HM.out.1.alloc _)).mono fun e w' hp => hp.back)
      cases hr : secL t 5 s with
      | ok s' =>
        have HR := Lib.hid hr; clear hr
        go_wp2_with (go_at_call 50; ((with_reducible refine HC.out.mono ?_); rintro e w' hp; obtain rfl := hp.ok HR.out; have HN := Lib.hid (mid_next HM.out (by decide) HR.out (.inr hp)); clear hp))
        go_roundw
        case rel =>
          obtain ⟨wv', hn⟩ := HN.out
          exact ⟨6, s', wv', by omega, by omega, rfl, Lib.hid hn⟩
        case measure => simp [intOf]
      | error x =>
        have HR := Lib.hid hr; clear hr
        go_wp2_with (go_at_call 50; ((with_reducible refine HC.out.mono ?_); rintro e w' hp; obtain rfl := hp.error HR.out; rw [HR.out] at hp; have HG := Lib.hid hp.2; clear hp))
        have hgr := grown_trans HM.out.2.1 HG.out
        refine door_fault w.heap.size x.1 x.2 w' _ _ rfl rfl rfl (HRES.out.grown (by omega) hgr) (fun w2 hb => ?_)
        unfold ParsePost
        rw [mid_fault q HM.out (by decide) HT.out HR.out]
        refine ⟨rfl, HB1.out.trans (Below.trans ?_ hb)⟩
        exact ⟨hgr.os, hgr.tape, hgr.output, hgr.size, fun j hj => hgr.block j (by have := HSZ.out; omega) (by intro e; injection e with e; omega)⟩
    · have d0 := (show wr.cell? ⟨w.heap.size + 1 + 1 + 1 + 1, 18, none⟩ = some (.string ⟨#[116, 114, 117, 115, 116]⟩) from sec_cell HSEC.out HM.out.2.1 18)
      have d1 := (show wr.cell? ⟨w.heap.size + 1 + 1 + 1 + 1, 19, none⟩ = some (.bool false) from sec_cell HSEC.out HM.out.2.1 19)
      have d2 := (show wr.cell? ⟨w.heap.size + 1 + 1 + 1 + 1, 20, none⟩ = some (.func (.func 90) #[] #[]) from sec_cell HSEC.out HM.out.2.1 20)
      have HC : Hid (Calls Tryz.prog 50 #[.pointer (some ⟨w.heap.size + 1 + 1 + 1, 0, none⟩), .agg #[.string ⟨#[116, 114, 117, 115, 116]⟩, .bool false, .func (.func 90) #[] #[]]] (wr.alloc (.cells #[.string ⟨#[116, 114, 117, 115, 116]⟩, .bool false, .func (.func 90) #[] #[]] 81)) (Post m (w.heap.size + 1 + 1 + 1) t (secL t 6 s) wr)) := Lib.hid ((section_at m t 6 (by omega) _ s wv _ (fun e => by first | exact HM.out.2.2.2 (by decide) | cases e) (HM.out.1.alloc _)).mono fun e w' hp => hp.back)
      cases hr : secL t 6 s with
      | ok s' =>
        have HR := Lib.hid hr; clear hr
        go_wp2_with (go_at_call 50; ((with_reducible refine HC.out.mono ?_); rintro e w' hp; obtain rfl := hp.ok HR.out; have HN := Lib.hid (mid_next HM.out (by decide) HR.out (.inr hp)); clear hp))
        go_roundw
        case rel =>
          obtain ⟨wv', hn⟩ := HN.out
          exact ⟨7, s', wv', by omega, by omega, rfl, Lib.hid hn⟩
        case measure => simp [intOf]
      | error x =>
        have HR := Lib.hid hr; clear hr
        go_wp2_with (go_at_call 50; ((with_reducible refine HC.out.mono ?_); rintro e w' hp; obtain rfl := hp.error HR.out; rw [HR.out] at hp; have HG := Lib.hid hp.2; clear hp))
        have hgr := grown_trans HM.out.2.1 HG.out
        refine door_fault w.heap.size x.1 x.2 w' _ _ rfl rfl rfl (HRES.out.grown (by omega) hgr) (fun w2 hb => ?_)
        unfold ParsePost
        rw [mid_fault q HM.out (by decide) HT.out HR.out]
        refine ⟨rfl, HB1.out.trans (Below.trans ?_ hb)⟩
        exact ⟨hgr.os, hgr.tape, hgr.output, hgr.size, fun j hj => hgr.block j (by have := HSZ.out; omega) (by intro e; injection e with e; omega)⟩
    · have HEND : Hid (Calls Tryz.prog 51 #[.pointer (some ⟨w.heap.size + 1 + 1 + 1, 0, none⟩)] wr fun e w' =>
          match endR t s.1 (q s.2) with
          | .ok _ => e = .returned (.tuple #[]) ∧ Below wr.heap.size wr w'
          | .error x => e = .panicked [{ v := faultV x.1 x.2, recovered := false }] ∧ Below wr.heap.size wr w') := Lib.hid (by
        obtain ⟨h1, h2, h3⟩ := HQ.out s wv wr HM.out.2.2.1 HM.out.1.area
        exact end_any m _ t s wv wr _ HM.out.1 h1 h2 h3)
      have hall : goOn t 7 s0 = .ok s := HM.out.2.2.1
      cases hr : endR t s.1 (q s.2) with
      | ok s' =>
        have HR := Lib.hid hr; rw [hr] at HEND; clear hr
        have HPR : Hid (parseR t q = .ok s) := Lib.hid (by unfold parseR; rw [if_neg (by have := HT.out; omega), hall]; simp only; rw [HR.out])
        clear hall
        go_wp2_with fail
        refine HEND.out.mono ?_
        rintro e w' ⟨rfl, hb⟩
        have hl : LineIs w' (w.heap.size + 1 + 1 + 1) t s.1 wv := HM.out.1.line.of_block (hb.block _ HM.out.1.line.lt)
        have k2 := (show w'.cell? ⟨w.heap.size + 1 + 1 + 1, 2, none⟩ = some (.int .i64 s.1.kind) from hl.cell 2)
        have k3 := (show w'.cell? ⟨w.heap.size + 1 + 1 + 1, 3, none⟩ = some (.int .i64 s.1.time) from hl.cell 3)
        have k4 := (show w'.cell? ⟨w.heap.size + 1 + 1 + 1, 4, none⟩ = some (.string s.1.src) from hl.cell 4)
        have k5 := (show w'.cell? ⟨w.heap.size + 1 + 1 + 1, 5, none⟩ = some (.string s.1.abt) from hl.cell 5)
        have k6 := (show w'.cell? ⟨w.heap.size + 1 + 1 + 1, 6, none⟩ = some wv from hl.cell 6)
        have k7 := (show w'.cell? ⟨w.heap.size + 1 + 1 + 1, 7, none⟩ = some (.int .i64 s.1.souls) from hl.cell 7)
        have k8 := (show w'.cell? ⟨w.heap.size + 1 + 1 + 1, 8, none⟩ = some (.int .i64 s.1.trust) from hl.cell 8)
        have hgr : W1.grownBy w' (some (w.heap.size + 1 + 1 + 1)) := grown_trans HM.out.2.1 (grown_below hb)
        have hres := HRES.out.grown (by omega) hgr
        obtain ⟨⟨z0, z1, z2, z3, z4, z5, z6⟩, za, ze, ⟨g0, g1, g2, g3, g4, g5, g6⟩, ga, ge⟩ := res_cells hres
        have HAREA := Lib.hid (HM.out.1.area.below hb)
        have HAP := Lib.hid HM.out.1.apart
        have HRS := Lib.hid hres
        have HGR := Lib.hid hgr
        obtain ⟨A, cap, hwv, _⟩ := HM.out.1.area
        clear hl hgr hres hb
        subst hwv
        go_wp2
        refine door_ok _ (by first | exact .inl rfl | exact .inr rfl) w.heap.size _ _ _ _ _ _ _ 0 0 _ _ _ rfl rfl rfl (resv_of HRS.out _ _ _ _ _ _ _) ?_
        unfold ParsePost
        rw [HPR.out]
        have hbl : Below w.heap.size w w' := HB1.out.trans ⟨HGR.out.os, HGR.out.tape, HGR.out.output, HGR.out.size, fun j hj => HGR.out.block j (by have := HSZ.out; omega) (by intro e; injection e with e; omega)⟩
        refine ⟨_, rfl, ?_, fun g off n cap e => ?_, ?_⟩
        · exact area_set HAREA.out HAP.out
        · have := HAP.out g off n cap e; omega
        · exact (below_set hbl).alloc (Nat.le_trans hbl.size (by simp [World.setCell])) _
      | error x =>
        have HR := Lib.hid hr; rw [hr] at HEND; clear hr
        have HPR : Hid (parseR t q = .error x) := Lib.hid (by unfold parseR; rw [if_neg (by have := HT.out; omega), hall]; simp only; rw [HR.out])
        clear hall
        go_wp2_with fail
        refine HEND.out.mono ?_
        rintro e w' ⟨rfl, hb⟩
        have hgr : W1.grownBy w' (some (w.heap.size + 1 + 1 + 1)) := grown_trans HM.out.2.1 (grown_below hb)
        clear hb
        go_wp2_with fail
        refine door_fault w.heap.size x.1 x.2 w' _ _ rfl rfl rfl (HRES.out.grown (by omega) hgr) (fun w2 hb => ?_)
        unfold ParsePost
        rw [HPR.out]
        refine ⟨rfl, HB1.out.trans (Below.trans ?_ hb)⟩
        exact ⟨hgr.os, hgr.tape, hgr.output, hgr.size, fun j hj => hgr.block j (by have := HSZ.out; omega) (by intro e; injection e with e; omega)⟩
end Go.Proofs.YtjcaaejfokmolaaGreatDoor
