/- A list of reports as a parameter of a law. -/
import Derived.Test.YtbfleemflhlfbaaGreatDoorRpSpotsOpen
import Derived.Test.YtbfleemflhlfbaaGreatDoorRpDoubtsLaw
import Derived.Test.YtbfleemflhlfbaaGreatDoorRpHasRef
namespace Go.Proofs.YtbfleemflhlfbaaGreatDoor
open Go.ChangeShapes Go.WideShapes Go.ChangeAt Go.RowKit Go.Deep

set_option maxRecDepth 100000 in
theorem spots_cell {H : Type} {enc : TypeId × Value → H} {W : World} {fuel : Nat} {cs : List Value} {x : DataW H × List MemPlace}
    (hf : DataW.trod enc Tryz.prog W 0 (fun _ => true) true fuel 22 cs = some x) :
    ∃ (A : Option Addr) (cap : Nat) (l : List (Int × Int)), cs = [.slice A l.length cap] ∧ l.length ≤ maxLen ∧ Area W (.slice A l.length cap) l := by
  rcases open_slice_pairs Tryz.underlying22 spotKinds cellsSpot rfl rfl intCells intCells hf with ⟨hcs, _⟩ | ⟨a, len, cap, m, n, V0, V1, D0, D1, P0, P1, hcs, _, hl, hm, hmm, _, hel⟩
  · exact ⟨none, 0, [], hcs, by simp, ⟨none, 0, rfl, Nat.le_refl _, fun hne => absurd rfl hne⟩⟩
  · have each : ∀ i, i < len → ∃ q : Int × Int, W.cell? (a.add (i * 2)) = some (.int .i64 q.1) ∧ W.cell? (a.add (i * 2 + 1)) = some (.int .i64 q.2) := by
      intro i hi
      obtain ⟨k0, k1, t0, t1⟩ := hel i (by rw [hmm]; simp; omega)
      obtain ⟨x, e0, _, _⟩ := DataW.trod_int Tryz.underlying3 t0
      obtain ⟨y, e1, _, _⟩ := DataW.trod_int Tryz.underlying3 t1
      simp only [List.cons.injEq, and_true] at e0 e1
      rw [e0] at k0; rw [e1] at k1
      exact ⟨(x, y), k0, k1⟩
    obtain ⟨q, hq⟩ := choose_lt each
    have hlen : ((List.range len).map q).length = len := by simp
    refine ⟨some a, cap, (List.range len).map q, by rw [hlen]; exact hcs, by rw [hlen]; omega, some a, cap, by rw [hlen], by rw [hlen]; exact hl, fun hne => ?_⟩
    have hpos : 0 < len := by
      rcases Nat.eq_zero_or_pos len with h0 | h0
      · subst h0; exact absurd rfl hne
      · exact h0
    obtain ⟨g, off, spot⟩ := a
    have hspot : spot = none := by simpa [Addr.add] using World.cell?_spot (hq 0 hpos).1
    subst hspot
    refine ⟨g, off, rfl, World.block_lt_of_cell? _ _ (hq 0 hpos).1, fun i x y hi => ?_⟩
    rw [List.getElem?_map] at hi
    by_cases hil : i < len
    · rw [List.getElem?_range hil] at hi
      simp only [Option.map_some, Option.some.injEq] at hi
      have := hq i hil
      rw [hi] at this
      rw [← add_plain, ← add_plain]
      exact this
    · rw [List.getElem?_eq_none (by simp; omega)] at hi
      cases hi

/-- a report whose area is read. -/
def RepGood (W : World) (r : Rpt) : Prop := ∃ A c al, r.2.1 = .slice A al.length c ∧ Area W (.slice A al.length c) al ∧ r.2.2 = areaB al ∧ r.1.abt.size ≤ maxLen ∧ r.1.src.size ≤ maxLen

theorem cellsRep : Tryz.prog.cellsOf 33 = 7 := by kernel_rfl
theorem strCells : Tryz.prog.cellsOf 9 = 1 := by kernel_rfl
theorem areaCells : Tryz.prog.cellsOf 22 = 1 := by kernel_rfl
instance : Inhabited (St × Value × Bool) := ⟨(⟨0, 0, 0, ⟨#[]⟩, ⟨#[]⟩, 0, 0⟩, .bool true, true)⟩

set_option maxRecDepth 100000 in
theorem rep_cells_open {H : Type} {enc : TypeId × Value → H} {W : World} {fuel : Nat} {cs : List Value} {x : DataW H × List MemPlace}
    (h : DataW.trod enc Tryz.prog W 0 (fun _ => true) true fuel 33 cs = some x) : ∃ r : Rpt, cs = cells7 r ∧ RepGood W r := by
  obtain ⟨xs, n, _, _, hcl, hlen, hg⟩ := DataW.trod_struct Tryz.underlying33 h
  rw [cellsRep] at hcl
  match cs, hcl, xs, hlen with
  | [v0, v1, v2, v3, v4, v5, v6], _, [z0, z1, z2, z3, z4, z5, z6], _ =>
    have k0 : DataW.trod enc Tryz.prog W 0 (fun _ => true) true n 3 (([v0, v1, v2, v3, v4, v5, v6].drop 0).take (Tryz.prog.cellsOf 3)) = some z0 := hg 0 _ rfl
    rw [intCells] at k0
    have k1 : DataW.trod enc Tryz.prog W 0 (fun _ => true) true n 3 (([v0, v1, v2, v3, v4, v5, v6].drop 1).take (Tryz.prog.cellsOf 3)) = some z1 := hg 1 _ rfl
    rw [intCells] at k1
    have k2 : DataW.trod enc Tryz.prog W 0 (fun _ => true) true n 9 (([v0, v1, v2, v3, v4, v5, v6].drop 2).take (Tryz.prog.cellsOf 9)) = some z2 := hg 2 _ rfl
    rw [strCells] at k2
    have k3 : DataW.trod enc Tryz.prog W 0 (fun _ => true) true n 9 (([v0, v1, v2, v3, v4, v5, v6].drop 3).take (Tryz.prog.cellsOf 9)) = some z3 := hg 3 _ rfl
    rw [strCells] at k3
    have k4 : DataW.trod enc Tryz.prog W 0 (fun _ => true) true n 22 (([v0, v1, v2, v3, v4, v5, v6].drop 4).take (Tryz.prog.cellsOf 22)) = some z4 := hg 4 _ rfl
    rw [areaCells] at k4
    have k5 : DataW.trod enc Tryz.prog W 0 (fun _ => true) true n 3 (([v0, v1, v2, v3, v4, v5, v6].drop 5).take (Tryz.prog.cellsOf 3)) = some z5 := hg 5 _ rfl
    rw [intCells] at k5
    have k6 : DataW.trod enc Tryz.prog W 0 (fun _ => true) true n 3 (([v0, v1, v2, v3, v4, v5, v6].drop 6).take (Tryz.prog.cellsOf 3)) = some z6 := hg 6 _ rfl
    rw [intCells] at k6
    simp only [List.drop, List.take] at k0 k1 k2 k3 k4 k5 k6
    obtain ⟨a0, e0, _, _⟩ := DataW.trod_int Tryz.underlying3 k0
    obtain ⟨a1, e1, _, _⟩ := DataW.trod_int Tryz.underlying3 k1
    obtain ⟨s2, e2, _, g2⟩ := DataW.trod_string Tryz.underlying9 k2
    obtain ⟨s3, e3, _, g3⟩ := DataW.trod_string Tryz.underlying9 k3
    obtain ⟨A, cap, al, e4, _, g4⟩ := spots_cell k4
    obtain ⟨a5, e5, _, _⟩ := DataW.trod_int Tryz.underlying3 k5
    obtain ⟨a6, e6, _, _⟩ := DataW.trod_int Tryz.underlying3 k6
    simp only [List.cons.injEq, and_true] at e0 e1 e2 e3 e4 e5 e6
    subst e0 e1 e2 e3 e4 e5 e6
    exact ⟨(⟨0, a0, a1, s2, s3, a5, a6⟩, .slice A al.length cap, areaB al), rfl, A, cap, al, rfl, g4, rfl, g3, g2⟩

set_option maxRecDepth 100000 in
theorem reps_open {H : Type} {enc : TypeId × Value → H} {W : World} {b0 : Nat} {v : Value} {d : DataW H} {p : List MemPlace}
    (hv : Value.okWide Tryz.prog W .any b0 40 v) (h : DataW.Trod enc Tryz.prog W 0 (fun _ => true) true 40 v d p) :
    ∃ (A : Option Addr) (len cap : Nat), v = .slice A len cap ∧ len ≤ cap ∧ cap ≤ maxLen ∧ (len ≠ 0 → ∃ (b off : Nat) (l : List Rpt), A = some ⟨b, off, none⟩ ∧ b < W.heap.size ∧ l.length = len ∧ RepsAt W b off l ∧ ∀ r ∈ l, RepGood W r) := by
  obtain ⟨a0, len, cap, rfl⟩ := okWide_slice Tryz.underlying40 hv
  obtain ⟨fuel, hf⟩ := h
  rcases open_slice Tryz.underlying40 hf with ⟨hcs, _⟩ | ⟨a, len', cap', m, n, D, Pl, hcs, _, hl, hm, hmm, _, hel⟩
  · simp only [Value.cells, List.cons.injEq, Value.slice.injEq, and_true] at hcs
    obtain ⟨rfl, rfl, rfl⟩ := hcs
    exact ⟨none, 0, 0, rfl, Nat.le_refl _, Nat.zero_le _, fun hne => absurd rfl hne⟩
  · simp only [Value.cells, List.cons.injEq, Value.slice.injEq, and_true] at hcs
    obtain ⟨rfl, rfl, rfl⟩ := hcs
    refine ⟨some a, len, cap, rfl, hl, hm, fun hne => ?_⟩
    have each : ∀ i, i < len → ∃ r : St × Value × Bool, (∀ j u, (cells7 r)[j]? = some u → W.cell? ((a.add (i * 7)).add j) = some u) ∧ RepGood W r := by
      intro i hi
      obtain ⟨cs', h1, h2⟩ := hel i (by rw [hmm]; simp; omega)
      rw [cellsRep] at h1
      obtain ⟨_, hlen, hcell⟩ := World.cells?_some h1
      obtain ⟨r, rfl, hgood⟩ := rep_cells_open h2
      exact ⟨r, fun j u hj => by rw [hcell j (List.getElem?_eq_some_iff.1 hj).1]; exact hj, hgood⟩
    obtain ⟨q, hq⟩ := choose_lt each
    have hpos : 0 < len := by omega
    have h00 := (hq 0 hpos).1 0 _ rfl
    obtain ⟨g, off, spot⟩ := a
    have hspot : spot = none := by simpa [Addr.add] using World.cell?_spot h00
    subst hspot
    refine ⟨g, off, (List.range len).map q, rfl, by rw [add_at, add_at] at h00; exact World.block_lt_of_cell? _ _ h00, by simp, ?_, ?_⟩
    · intro k s wv q' hk
      rw [List.getElem?_map] at hk
      by_cases hkl : k < len
      · rw [List.getElem?_range hkl] at hk
        simp only [Option.map_some, Option.some.injEq] at hk
        refine cells_at (r := (s, wv, q')) fun i u hi => ?_
        have := (hq k hkl).1 i u (by rw [hk]; exact hi)
        rwa [add_at, add_at] at this
      · rw [List.getElem?_eq_none (by simp; omega)] at hk
        cases hk
    · intro r hr
      obtain ⟨i, hi, rfl⟩ := List.mem_map.1 hr
      exact (hq i (List.mem_range.1 hi)).2
theorem good_shape {W : World} {r : Rpt} (h : RepGood W r) : ∃ A n c, r.2.1 = .slice A n c := by
  obtain ⟨A, c, al, h1, -⟩ := h
  exact ⟨A, _, c, h1⟩
theorem good_says {W : World} {r : Rpt} (h : RepGood W r) (hs : Small r) : Says W r ∧ RefCan W r := by
  obtain ⟨⟨z, k, t, s, a, n, u⟩, wv, q⟩ := r
  obtain ⟨A, c, al, h1, h2, h3, h4, h5⟩ := h
  simp only at h1 h3 h4 h5
  subst h1 h3
  have hg := hs A al.length c rfl
  have h30 : al.length ≤ 1000000 := by
    unfold greatB at hg
    simp only [Bool.or_eq_false_iff, decide_eq_false_iff_not] at hg
    omega
  unfold maxLen at h4 h5
  refine ⟨⟨⟨_, _, _, rfl⟩, fun X hX => CheckArea_any A c al X (h2.below hX) h30, by simp only; omega, by simp only; omega⟩, ⟨⟨_, _, _, rfl⟩, fun X hX => ?_, by simp only; omega, by simp only; omega⟩⟩
  have := refCheckArea_any A c al X (h2.below hX) h30
  rw [← area_same] at this
  exact this
end Go.Proofs.YtbfleemflhlfbaaGreatDoor
