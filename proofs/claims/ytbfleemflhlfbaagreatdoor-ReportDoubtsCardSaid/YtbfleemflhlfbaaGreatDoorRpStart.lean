/- What the world holds when a law of the report begins: the words of the kinds, some number in bytealg.MaxLen. -/
import Derived.Test.YtbfleemflhlfbaaGreatDoorRows
import Derived.Test.YtbfleemflhlfbaaGreatDoorRpAwake
import Derived.ProofKit
import Derived.OpenShut
import Derived.LaidMore
import Derived.LaidSub
import Derived.Lay
import Derived.Shelf.Vars
import Derived.ReadAgain
import Derived.Stop.Joined
namespace Go.Proofs.YtbfleemflhlfbaaGreatDoor
open Go.ChangeShapes Go.WideShapes Go.ChangeAt Go.RowKit

theorem own : ownKnob Tryz.prog.godebug = none := by kernel_rfl
theorem some_max {W : World} (h : W.ShapedOpen Tryz.prog) : ∃ m : Int, W.cell? ⟨4, 0, none⟩ = some (.int .i64 m) :=
  cell_of_shapedOpen_int (zero := #[.int .i64 0]) h (of_decide_eq_true (by kernel_rfl)) (by kernel_rfl) (by kernel_rfl) (by kernel_rfl) (by kernel_rfl) Tryz.underlying3

def kwData : DataW Unit := Rows.laid_cresset_report_kindWords
theorem kw_type : (Tryz.prog.globals[0]?).map (·.type) = some 97 ∧ Tryz.prog.underlying 97 = some (.array 5 9) := ⟨by kernel_rfl, by kernel_rfl⟩
theorem words_of {W : World} (h : laidMetH Tryz.prog [("cresset/report.kindWords", kwData)] W) : Words W := by
  rw [MakeChecks.laidMetH_plain _ _ _ (by kernel_rfl)] at h
  obtain ⟨ps, ⟨g, t, cs, fuel, p, q, hg, ht, hv, hd, _, _⟩, _, _⟩ := h
  obtain rfl := Option.some.inj ((show Tryz.prog.globalNamed "cresset/report.kindWords" = some 0 by kernel_rfl).symm.trans hg)
  obtain ⟨ht2, hu⟩ := kw_type
  obtain rfl := Option.some.inj (ht2.symm.trans ht)
  obtain ⟨xs, m, _, ex, _, hl, hel⟩ := DataW.trod_array hu hd
  have cS : Tryz.prog.cellsOf 9 = 1 := by kernel_rfl
  intro i hi
  have hE := hel i hi
  rw [cS, Nat.mul_one, List.getElem?_eq_getElem (by omega)] at hE
  obtain ⟨s, e1, e2, _⟩ := DataW.trod_string Tryz.underlying9 hE
  rw [World.var?_cell hg hv i]
  have h0 : cs[i]? = some (.string s) := by
    have h1 : ((cs.toList.drop i).take 1)[0]? = some (.string s) := by rw [e1]; rfl
    simpa using h1
  rw [h0]
  have e3 : xs.map (·.1) = [.lit (.string (kwL 0)), .lit (.string (kwL 1)), .lit (.string (kwL 2)), .lit (.string (kwL 3)), .lit (.string (kwL 4))] := (DataW.agg.inj (Prod.mk.inj ex).1).symm
  have e4 : (xs.map (·.1))[i]? = some (.lit (.string s.data.toList)) := by
    rw [List.getElem?_map, List.getElem?_eq_getElem (by omega), e2]; rfl
  have e5 : s.data.toList = kwL i := by
    rw [e3] at e4
    match i, hi with
    | 0, _ => simpa using e4.symm
    | 1, _ => simpa using e4.symm
    | 2, _ => simpa using e4.symm
    | 3, _ => simpa using e4.symm
    | 4, _ => simpa using e4.symm
  have e6 : s = kwB i := by
    unfold kwB
    rw [← e5]
  rw [e6]
end Go.Proofs.YtbfleemflhlfbaaGreatDoor
