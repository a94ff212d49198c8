/- The six calls of awake, with the values that they answer. -/
import Derived.Test.YtbfleemflhlfbaaGreatDoorRpLines
import Derived.Test.YtbfleemflhlfbaaGreatDoorRpMend
import Derived.Test.YtbfleemflhlfbaaGreatDoorRpDoubt
namespace Go.Proofs.YtbfleemflhlfbaaGreatDoor
open Go.RowKit Go.Maps

theorem six_A (m : Int) (w : World) (hE : Env m w) : Calls Tryz.prog 18 #[.string lineA] w fun e w' =>
    ∃ wv, e = .returned (.tuple #[.agg #[.int .i64 3, .int .i64 5, .string ⟨#[120]⟩, .string ⟨#[]⟩, wv, .int .i64 (-1), .int .i64 9], .int .i64 0, .int .i64 0]) ∧ Area w' wv [(1, 2)] ∧ (∀ g off n cap, wv = .slice (some ⟨g, off, none⟩) n cap → w.heap.size ≤ g) ∧ Below w.heap.size w w' := by
  refine (parseA m w hE).mono fun e w' h => ?_
  unfold ParsePost at h
  rw [readA] at h
  exact h
theorem six_B (m : Int) (w : World) (hE : Env m w) : Calls Tryz.prog 18 #[.string lineB] w fun e w' =>
    e = .returned (.tuple #[repZ, .int .i64 21, .int .i64 5]) ∧ Below w.heap.size w w' := by
  refine (parseB m w hE).mono fun e w' h => ?_
  unfold ParsePost at h
  rw [readB] at h
  exact h
theorem six_C (m : Int) (w : World) (hE : Env m w) : Calls Tryz.prog 18 #[.string lineC] w fun e w' =>
    e = .returned (.tuple #[repZ, .int .i64 32, .int .i64 2]) ∧ Below w.heap.size w w' := by
  refine (parseC m w hE).mono fun e w' h => ?_
  unfold ParsePost at h
  rw [readC] at h
  exact h

theorem pack_one : dataN 1 0 0 0 0 = 1 ∧ packC 1 = 131 := by
  constructor <;> kernel_rfl
theorem six_P (w : World) : Calls Tryz.prog 19 #[.agg #[.int .i64 1, .int .i64 0, .int .i64 0, .int .i64 0, .int .i64 0]] w fun e w' =>
    e = .returned (.tuple #[.agg #[.int .u64 1, .int .u8 131], .int .i64 0]) ∧ Below w.heap.size w w' := by
  have h := Pack_yes 1 0 0 0 0 (by decide) w
  rw [pack_one.1, pack_one.2] at h
  exact h
theorem mend_one : mendV (mendR 0 131) = .tuple #[.agg #[.int .i64 1, .int .i64 0, .int .i64 0, .int .i64 0, .int .i64 0], .bool true, .int .i64 0] := by kernel_rfl
theorem six_M (w : World) : Calls Tryz.prog 20 #[.agg #[.int .u64 0, .int .u8 131]] w fun e w' =>
    e = .returned (.tuple #[.agg #[.int .i64 1, .int .i64 0, .int .i64 0, .int .i64 0, .int .i64 0], .bool true, .int .i64 0]) ∧ Below w.heap.size w w' := by
  have h := Mend_any 0 131 (by omega) (by omega) w
  rw [mend_one] at h
  exact h

def stA (src : ByteArray) (trust : Int) : St := { a := 31, kind := 3, time := 5, src := src, abt := ⟨#[]⟩, souls := -1, trust := trust }
def threeL (wv : Value) : List Rpt := [(stA ⟨#[97]⟩ 500, wv, oneB [(1, 2)]), (stA ⟨#[97]⟩ 600, wv, oneB [(1, 2)]), (stA ⟨#[98]⟩ 900, wv, oneB [(1, 2)])]
theorem doubt_undef : doubtV (threeL undef) = .tuple #[.int .i64 40000, .int .i64 1000000, .int .i64 0] := by kernel_rfl
theorem doubt_three (wv : Value) : doubtV (threeL wv) = .tuple #[.int .i64 40000, .int .i64 1000000, .int .i64 0] := by
  have h : doubtV (threeL wv) = doubtV (threeL undef) := by
    unfold doubtV allOk sts threeL
    simp
  exact h.trans doubt_undef
end Go.Proofs.YtbfleemflhlfbaaGreatDoor
