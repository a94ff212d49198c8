/- Several parts: What the world holds when a law of the report begins: the words of the kinds, some number in bytealg.MaxLen. A list of places, a place as parameters of a law. A report as a parameter of a law. -/
import Derived.Test.YtjcaaejfokmolaaGreatDoorRows
import Derived.Test.YtjcaaejfokmolaaGreatDoorRpAwake2
import Derived.ProofKit
import Derived.OpenShut
import Derived.LaidMore
import Derived.LaidSub
import Derived.Lay
import Derived.Shelf.Vars
import Derived.ReadAgain
import Derived.Stop.Joined
import Derived.Deep.SlicePairs
import Derived.Carry
import Derived.Lib.SmallJoins
import Derived.Test.YtjcaaejfokmolaaGreatDoorRpSgIt
/- What the world holds when a law of the report begins: the words of the kinds, some number in bytealg.MaxLen. -/
namespace Go.Proofs.YtjcaaejfokmolaaGreatDoor
open Go.ChangeShapes Go.WideShapes Go.ChangeAt Go.RowKit

theorem own : ownKnob Tryz.prog.godebug = none := by kernel_rfl
theorem some_max {W : World} (h : W.ShapedOpen Tryz.prog) : ∃ m : Int, W.cell? ⟨2, 0, none⟩ = some (.int .i64 m) :=
  cell_of_shapedOpen_int (zero := #[.int .i64 0]) h (of_decide_eq_true (by kernel_rfl)) (by kernel_rfl) (by kernel_rfl) (by kernel_rfl) (by kernel_rfl) Tryz.underlying3

def kwData : DataW Unit := Rows.laid_cresset_report_kindWords
theorem kw_type : (Tryz.prog.globals[0]?).map (·.type) = some 66 ∧ Tryz.prog.underlying 66 = some (.array 5 9) := ⟨by kernel_rfl, by kernel_rfl⟩
theorem words_of {W : World} (h : laidMetH Tryz.prog [("cresset/report.kindWords", kwData)] W) : Words W := by
  rw [MakeChecks.laidMetH_plain _ _ _ (by kernel_rfl)] at h
  obtain ⟨ps, ⟨g, t, cs, fuel, p, q, hg, ht, hv, hd, _, _⟩, _, _⟩ := h
  obtain rfl := Option.some.inj ((show Tryz.prog.globalNamed "cresset/report.kindWords" = some 0 by kernel_rfl).symm.trans hg)
  obtain ⟨ht2, hu⟩ := kw_type
  obtain rfl := Option.some.inj (ht2.symm.trans ht)
  obtain ⟨xs, m, _, ex, _, hl, hel⟩ := DataW.trod_array hu hd
  have cS : Tryz.prog.cellsOf 9 = 1 := by kernel_rfl
  intro i hi
  have hE := hel i hi
  rw [cS, Nat.mul_one, List.getElem?_eq_getElem (by omega)] at hE
  obtain ⟨s, e1, e2, _⟩ := DataW.trod_string Tryz.underlying9 hE
  rw [World.var?_cell hg hv i]
  have h0 : cs[i]? = some (.string s) := by
    have h1 : ((cs.toList.drop i).take 1)[0]? = some (.string s) := by rw [e1]; rfl
    simpa using h1
  rw [h0]
  have e3 : xs.map (·.1) = [.lit (.string (kwL 0)), .lit (.string (kwL 1)), .lit (.string (kwL 2)), .lit (.string (kwL 3)), .lit (.string (kwL 4))] := (DataW.agg.inj (Prod.mk.inj ex).1).symm
  have e4 : (xs.map (·.1))[i]? = some (.lit (.string s.data.toList)) := by
    rw [List.getElem?_map, List.getElem?_eq_getElem (by omega), e2]; rfl
  have e5 : s.data.toList = kwL i := by
    rw [e3] at e4
    match i, hi with
    | 0, _ => simpa using e4.symm
    | 1, _ => simpa using e4.symm
    | 2, _ => simpa using e4.symm
    | 3, _ => simpa using e4.symm
    | 4, _ => simpa using e4.symm
  have e6 : s = kwB i := by
    unfold kwB
    rw [← e5]
  rw [e6]
end Go.Proofs.YtjcaaejfokmolaaGreatDoor
/- A list of places, a place as parameters of a law. -/
namespace Go.Proofs.YtjcaaejfokmolaaGreatDoor
open Go.ChangeShapes Go.WideShapes Go.ChangeAt Go.RowKit Go.Deep

theorem spotKinds : Tryz.prog.underlying 24 = some (.struct #[{ name := "X", type := 3, offset := 0, embedded := false, tag := "", pkgPath := "", byteOffset := 0 }, { name := "Y", type := 3, offset := 1, embedded := false, tag := "", pkgPath := "", byteOffset := 8 }]) := by kernel_rfl
theorem cellsSpot : Tryz.prog.cellsOf 24 = 2 := by kernel_rfl
theorem intCells : Tryz.prog.cellsOf 3 = 1 := by kernel_rfl

set_option maxRecDepth 100000 in
theorem spots_open {H : Type} {enc : TypeId × Value → H} {W : World} {b0 : Nat} {v : Value} {d : DataW H} {p : List MemPlace}
    (hv : Value.okWide Tryz.prog W .any b0 22 v) (h : DataW.Trod enc Tryz.prog W 0 (fun _ => true) true 22 v d p) :
    ∃ (A : Option Addr) (cap : Nat) (l : List (Int × Int)), v = .slice A l.length cap ∧ l.length ≤ maxLen ∧ Area W v l := by
  obtain ⟨a0, len, cap, rfl⟩ := okWide_slice Tryz.underlying22 hv
  obtain ⟨fuel, hf⟩ := h
  rcases open_slice_pairs Tryz.underlying22 spotKinds cellsSpot rfl rfl intCells intCells hf with ⟨hcs, _⟩ | ⟨a, len', cap', m, n, V0, V1, D0, D1, P0, P1, hcs, _, hl, hm, hmm, _, hel⟩
  · simp only [Value.cells, List.cons.injEq, Value.slice.injEq, and_true] at hcs
    obtain ⟨rfl, rfl, rfl⟩ := hcs
    exact ⟨none, 0, [], rfl, by simp, ⟨none, 0, rfl, Nat.le_refl _, fun hne => absurd rfl hne⟩⟩
  · simp only [Value.cells, List.cons.injEq, Value.slice.injEq, and_true] at hcs
    obtain ⟨rfl, rfl, rfl⟩ := hcs
    have each : ∀ i, i < len → ∃ q : Int × Int, W.cell? (a.add (i * 2)) = some (.int .i64 q.1) ∧ W.cell? (a.add (i * 2 + 1)) = some (.int .i64 q.2) := by
      intro i hi
      obtain ⟨k0, k1, t0, t1⟩ := hel i (by rw [hmm]; simp; omega)
      obtain ⟨x, e0, _, _⟩ := DataW.trod_int Tryz.underlying3 t0
      obtain ⟨y, e1, _, _⟩ := DataW.trod_int Tryz.underlying3 t1
      simp only [List.cons.injEq, and_true] at e0 e1
      rw [e0] at k0; rw [e1] at k1
      exact ⟨(x, y), k0, k1⟩
    obtain ⟨q, hq⟩ := choose_lt each
    have hlen : ((List.range len).map q).length = len := by simp
    refine ⟨some a, cap, (List.range len).map q, by rw [hlen], by rw [hlen]; omega, some a, cap, by rw [hlen], by rw [hlen]; exact hl, fun hne => ?_⟩
    have hpos : 0 < len := by
      rcases Nat.eq_zero_or_pos len with h0 | h0
      · subst h0; exact absurd rfl hne
      · exact h0
    obtain ⟨g, off, spot⟩ := a
    have hspot : spot = none := by simpa [Addr.add] using World.cell?_spot (hq 0 hpos).1
    subst hspot
    refine ⟨g, off, rfl, World.block_lt_of_cell? _ _ (hq 0 hpos).1, fun i x y hi => ?_⟩
    rw [List.getElem?_map] at hi
    by_cases hil : i < len
    · rw [List.getElem?_range hil] at hi
      simp only [Option.map_some, Option.some.injEq] at hi
      have := hq i hil
      rw [hi] at this
      rw [← add_plain, ← add_plain] 
      exact this
    · rw [List.getElem?_eq_none (by simp; omega)] at hi
      cases hi

set_option maxRecDepth 100000 in
theorem spot_open {H : Type} {enc : TypeId × Value → H} {W : World} {b0 : Nat} {v : Value} {d : DataW H} {p : List MemPlace}
    (hv : Value.okWide Tryz.prog W .any b0 24 v) (h : DataW.Trod enc Tryz.prog W 0 (fun _ => true) true 24 v d p) :
    ∃ q : Int × Int, v = spotV q := by
  obtain ⟨cs, rfl, hsz⟩ := okWide_struct spotKinds hv
  obtain ⟨fuel, hf⟩ := h
  obtain ⟨xs, n, _, hx, hcl, hlen, hg⟩ := DataW.trod_struct spotKinds hf
  obtain ⟨l⟩ := cs
  rw [cellsSpot] at hsz
  match l, hsz, xs, hlen with
  | [v0, v1], _, [z0, z1], _ =>
    have k0 := hg 0 { name := "X", type := 3, offset := 0, embedded := false, tag := "", pkgPath := "", byteOffset := 0 } rfl
    have k1 := hg 1 { name := "Y", type := 3, offset := 1, embedded := false, tag := "", pkgPath := "", byteOffset := 8 } rfl
    simp only [intCells, Value.cells, List.drop, List.take, List.getElem?_cons_zero, List.getElem?_cons_succ] at k0 k1
    obtain ⟨a0, e0, _, _⟩ := DataW.trod_int Tryz.underlying3 k0
    obtain ⟨a1, e1, _, _⟩ := DataW.trod_int Tryz.underlying3 k1
    simp only [List.cons.injEq, and_true] at e0 e1
    subst e0 e1
    exact ⟨(a0, a1), rfl⟩
end Go.Proofs.YtjcaaejfokmolaaGreatDoor
/- A report as a parameter of a law. -/
namespace Go.Proofs.YtjcaaejfokmolaaGreatDoor
open Go.ChangeShapes Go.WideShapes Go.ChangeAt Go.RowKit Go.Deep

set_option maxRecDepth 100000 in
theorem spots_cell {H : Type} {enc : TypeId × Value → H} {W : World} {fuel : Nat} {cs : List Value} {x : DataW H × List MemPlace}
    (hf : DataW.trod enc Tryz.prog W 0 (fun _ => true) true fuel 22 cs = some x) :
    ∃ (A : Option Addr) (cap : Nat) (l : List (Int × Int)), cs = [.slice A l.length cap] ∧ l.length ≤ maxLen ∧ Area W (.slice A l.length cap) l := by
  rcases open_slice_pairs Tryz.underlying22 spotKinds cellsSpot rfl rfl intCells intCells hf with ⟨hcs, _⟩ | ⟨a, len, cap, m, n, V0, V1, D0, D1, P0, P1, hcs, _, hl, hm, hmm, _, hel⟩
  · exact ⟨none, 0, [], hcs, by simp, ⟨none, 0, rfl, Nat.le_refl _, fun hne => absurd rfl hne⟩⟩
  · have each : ∀ i, i < len → ∃ q : Int × Int, W.cell? (a.add (i * 2)) = some (.int .i64 q.1) ∧ W.cell? (a.add (i * 2 + 1)) = some (.int .i64 q.2) := by
      intro i hi
      obtain ⟨k0, k1, t0, t1⟩ := hel i (by rw [hmm]; simp; omega)
      obtain ⟨x, e0, _, _⟩ := DataW.trod_int Tryz.underlying3 t0
      obtain ⟨y, e1, _, _⟩ := DataW.trod_int Tryz.underlying3 t1
      simp only [List.cons.injEq, and_true] at e0 e1
      rw [e0] at k0; rw [e1] at k1
      exact ⟨(x, y), k0, k1⟩
    obtain ⟨q, hq⟩ := choose_lt each
    have hlen : ((List.range len).map q).length = len := by simp
    refine ⟨some a, cap, (List.range len).map q, by rw [hlen]; exact hcs, by rw [hlen]; omega, some a, cap, by rw [hlen], by rw [hlen]; exact hl, fun hne => ?_⟩
    have hpos : 0 < len := by
      rcases Nat.eq_zero_or_pos len with h0 | h0
      · subst h0; exact absurd rfl hne
      · exact h0
    obtain ⟨g, off, spot⟩ := a
    have hspot : spot = none := by simpa [Addr.add] using World.cell?_spot (hq 0 hpos).1
    subst hspot
    refine ⟨g, off, rfl, World.block_lt_of_cell? _ _ (hq 0 hpos).1, fun i x y hi => ?_⟩
    rw [List.getElem?_map] at hi
    by_cases hil : i < len
    · rw [List.getElem?_range hil] at hi
      simp only [Option.map_some, Option.some.injEq] at hi
      have := hq i hil
      rw [hi] at this
      rw [← add_plain, ← add_plain]
      exact this
    · rw [List.getElem?_eq_none (by simp; omega)] at hi
      cases hi

theorem cellsRep : Tryz.prog.cellsOf 29 = 7 := by kernel_rfl
theorem strCells : Tryz.prog.cellsOf 9 = 1 := by kernel_rfl
theorem areaCells : Tryz.prog.cellsOf 22 = 1 := by kernel_rfl

set_option maxRecDepth 100000 in
theorem rep_cells_open {H : Type} {enc : TypeId × Value → H} {W : World} {fuel : Nat} {cs : List Value} {x : DataW H × List MemPlace}
    (h : DataW.trod enc Tryz.prog W 0 (fun _ => true) true fuel 29 cs = some x) : ∃ (k t : Int) (sr ab : ByteArray) (A : Option Addr) (cap : Nat) (l : List (Int × Int)) (so tr : Int), cs = [.int .i64 k, .int .i64 t, .string sr, .string ab, .slice A l.length cap, .int .i64 so, .int .i64 tr] ∧ Area W (.slice A l.length cap) l ∧ sr.size ≤ maxLen ∧ ab.size ≤ maxLen := by
  obtain ⟨xs, n, _, _, hcl, hlen, hg⟩ := DataW.trod_struct Tryz.underlying29 h
  rw [cellsRep] at hcl
  match cs, hcl, xs, hlen with
  | [v0, v1, v2, v3, v4, v5, v6], _, [z0, z1, z2, z3, z4, z5, z6], _ =>
    have k0 : DataW.trod enc Tryz.prog W 0 (fun _ => true) true n 3 (([v0, v1, v2, v3, v4, v5, v6].drop 0).take (Tryz.prog.cellsOf 3)) = some z0 := hg 0 _ rfl
    rw [intCells] at k0
    have k1 : DataW.trod enc Tryz.prog W 0 (fun _ => true) true n 3 (([v0, v1, v2, v3, v4, v5, v6].drop 1).take (Tryz.prog.cellsOf 3)) = some z1 := hg 1 _ rfl
    rw [intCells] at k1
    have k2 : DataW.trod enc Tryz.prog W 0 (fun _ => true) true n 9 (([v0, v1, v2, v3, v4, v5, v6].drop 2).take (Tryz.prog.cellsOf 9)) = some z2 := hg 2 _ rfl
    rw [strCells] at k2
    have k3 : DataW.trod enc Tryz.prog W 0 (fun _ => true) true n 9 (([v0, v1, v2, v3, v4, v5, v6].drop 3).take (Tryz.prog.cellsOf 9)) = some z3 := hg 3 _ rfl
    rw [strCells] at k3
    have k4 : DataW.trod enc Tryz.prog W 0 (fun _ => true) true n 22 (([v0, v1, v2, v3, v4, v5, v6].drop 4).take (Tryz.prog.cellsOf 22)) = some z4 := hg 4 _ rfl
    rw [areaCells] at k4
    have k5 : DataW.trod enc Tryz.prog W 0 (fun _ => true) true n 3 (([v0, v1, v2, v3, v4, v5, v6].drop 5).take (Tryz.prog.cellsOf 3)) = some z5 := hg 5 _ rfl
    rw [intCells] at k5
    have k6 : DataW.trod enc Tryz.prog W 0 (fun _ => true) true n 3 (([v0, v1, v2, v3, v4, v5, v6].drop 6).take (Tryz.prog.cellsOf 3)) = some z6 := hg 6 _ rfl
    rw [intCells] at k6
    simp only [List.drop, List.take] at k0 k1 k2 k3 k4 k5 k6
    obtain ⟨a0, e0, _, _⟩ := DataW.trod_int Tryz.underlying3 k0
    obtain ⟨a1, e1, _, _⟩ := DataW.trod_int Tryz.underlying3 k1
    obtain ⟨s2, e2, _, g2⟩ := DataW.trod_string Tryz.underlying9 k2
    obtain ⟨s3, e3, _, g3⟩ := DataW.trod_string Tryz.underlying9 k3
    obtain ⟨A, cap, al, e4, _, g4⟩ := spots_cell k4
    obtain ⟨a5, e5, _, _⟩ := DataW.trod_int Tryz.underlying3 k5
    obtain ⟨a6, e6, _, _⟩ := DataW.trod_int Tryz.underlying3 k6
    simp only [List.cons.injEq, and_true] at e0 e1 e2 e3 e4 e5 e6
    subst e0 e1 e2 e3 e4 e5 e6
    exact ⟨a0, a1, s2, s3, A, cap, al, a5, a6, rfl, g4, g2, g3⟩


set_option maxRecDepth 100000 in
theorem rep_open {H : Type} {enc : TypeId × Value → H} {W : World} {b0 : Nat} {v : Value} {d : DataW H} {p : List MemPlace}
    (hv : Value.okWide Tryz.prog W .any b0 29 v) (h : DataW.Trod enc Tryz.prog W 0 (fun _ => true) true 29 v d p) :
    ∃ (k t : Int) (sr ab : ByteArray) (A : Option Addr) (cap : Nat) (l : List (Int × Int)) (so tr : Int), v = repA k t sr ab (.slice A l.length cap) so tr ∧ Area W (.slice A l.length cap) l ∧ sr.size ≤ maxLen ∧ ab.size ≤ maxLen := by
  obtain ⟨cs, rfl, hsz⟩ := okWide_struct Tryz.underlying29 hv
  obtain ⟨fuel, hf⟩ := h
  obtain ⟨k, t, sr, ab, A, cap, l, so, tr, hcs, hA, h1, h2⟩ := rep_cells_open hf
  refine ⟨k, t, sr, ab, A, cap, l, so, tr, ?_, hA, h1, h2⟩
  have hc : cs = #[.int .i64 k, .int .i64 t, .string sr, .string ab, .slice A l.length cap, .int .i64 so, .int .i64 tr] := by
    apply Array.toList_inj.1
    exact hcs
  rw [hc]
end Go.Proofs.YtjcaaejfokmolaaGreatDoor
