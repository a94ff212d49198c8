/- Several parts: The three lines of the opening examples. The six calls of awake, with the values that they answer. -/
import Derived.Test.YtoehcabplbljcaaGreatDoorRpParse
import Derived.Test.YtoehcabplbljcaaGreatDoorRpMend
import Derived.Test.YtoehcabplbljcaaGreatDoorRpDoubt0
/- The three lines of the opening examples. -/
namespace Go.Proofs.YtoehcabplbljcaaGreatDoor

def lineA : ByteArray := ⟨#[102, 108, 97, 114, 101, 32, 97, 116, 32, 53, 32, 98, 121, 32, 120, 32, 105, 110, 32, 49, 32, 50, 32, 116, 114, 117, 115, 116, 32, 57]⟩
def lineB : ByteArray := ⟨#[102, 108, 97, 114, 101, 32, 97, 116, 32, 53, 32, 98, 121, 32, 120, 32, 105, 110, 32, 49, 32, 116, 114, 117, 115, 116, 32, 57]⟩
def lineC : ByteArray := ⟨#[109, 105, 115, 115, 105, 110, 103, 32, 97, 116, 32, 53, 32, 98, 121, 32, 120, 32, 105, 110, 32, 48, 32, 48, 32, 116, 114, 117, 115, 116, 32, 49]⟩
def oneB (l : List (Int × Int)) : Bool := l.all placeB

theorem readA : parseR lineA oneB = .ok ({ a := 31, kind := 3, time := 5, src := ⟨#[120]⟩, abt := ⟨#[]⟩, souls := -1, trust := 9 }, [(1, 2)]) := by kernel_rfl
theorem readB : parseR lineB oneB = .error (21, 5) := by kernel_rfl
theorem readC : parseR lineC oneB = .error (32, 2) := by kernel_rfl
theorem goA : goOn lineA 7 s0 = .ok ({ a := 31, kind := 3, time := 5, src := ⟨#[120]⟩, abt := ⟨#[]⟩, souls := -1, trust := 9 }, [(1, 2)]) := by kernel_rfl
theorem goB : goOn lineB 7 s0 = .error (21, 5) := by kernel_rfl
theorem goC : goOn lineC 7 s0 = .ok ({ a := 33, kind := 4, time := 5, src := ⟨#[120]⟩, abt := ⟨#[]⟩, souls := -1, trust := 1 }, [(0, 0)]) := by kernel_rfl

theorem says_one {w : World} {wv : Value} {p : Int × Int} (h : Area w wv [p]) : AreaSays w wv (oneB [p]) := by
  have h2 := h
  obtain ⟨A, cap, rfl, _⟩ := h2
  intro w' hb
  have := CheckArea_one A cap p w' (h.below hb)
  rw [show oneB [p] = placeB p by simp [oneB]]
  exact this

theorem parseA (m : Int) (w : World) (hE : Env m w) : Calls Tryz.prog 14 #[.string lineA] w (ParsePost lineA oneB w) :=
  Parse_any m lineA oneB w hE (by decide) fun s wv w' hs ha => by
    rw [goA] at hs; cases hs
    exact ⟨says_one ha, by decide, by decide⟩
theorem parseB (m : Int) (w : World) (hE : Env m w) : Calls Tryz.prog 14 #[.string lineB] w (ParsePost lineB oneB w) :=
  Parse_any m lineB oneB w hE (by decide) fun s wv w' hs ha => by
    rw [goB] at hs; cases hs
theorem parseC (m : Int) (w : World) (hE : Env m w) : Calls Tryz.prog 14 #[.string lineC] w (ParsePost lineC oneB w) :=
  Parse_any m lineC oneB w hE (by decide) fun s wv w' hs ha => by
    rw [goC] at hs; cases hs
    exact ⟨says_one ha, by decide, by decide⟩
end Go.Proofs.YtoehcabplbljcaaGreatDoor
/- The six calls of awake, with the values that they answer. -/
namespace Go.Proofs.YtoehcabplbljcaaGreatDoor
open Go.RowKit Go.Maps

theorem six_A (m : Int) (w : World) (hE : Env m w) : Calls Tryz.prog 14 #[.string lineA] w fun e w' =>
    ∃ wv, e = .returned (.tuple #[.agg #[.int .i64 3, .int .i64 5, .string ⟨#[120]⟩, .string ⟨#[]⟩, wv, .int .i64 (-1), .int .i64 9], .int .i64 0, .int .i64 0]) ∧ Area w' wv [(1, 2)] ∧ (∀ g off n cap, wv = .slice (some ⟨g, off, none⟩) n cap → w.heap.size ≤ g) ∧ Below w.heap.size w w' := by
  refine (parseA m w hE).mono fun e w' h => ?_
  unfold ParsePost at h
  rw [readA] at h
  exact h
theorem six_B (m : Int) (w : World) (hE : Env m w) : Calls Tryz.prog 14 #[.string lineB] w fun e w' =>
    e = .returned (.tuple #[repZ, .int .i64 21, .int .i64 5]) ∧ Below w.heap.size w w' := by
  refine (parseB m w hE).mono fun e w' h => ?_
  unfold ParsePost at h
  rw [readB] at h
  exact h
theorem six_C (m : Int) (w : World) (hE : Env m w) : Calls Tryz.prog 14 #[.string lineC] w fun e w' =>
    e = .returned (.tuple #[repZ, .int .i64 32, .int .i64 2]) ∧ Below w.heap.size w w' := by
  refine (parseC m w hE).mono fun e w' h => ?_
  unfold ParsePost at h
  rw [readC] at h
  exact h

theorem pack_one : dataN 1 0 0 0 0 = 1 ∧ packC 1 = 131 := by
  constructor <;> kernel_rfl
theorem six_P (w : World) : Calls Tryz.prog 24 #[.agg #[.int .i64 1, .int .i64 0, .int .i64 0, .int .i64 0, .int .i64 0]] w fun e w' =>
    e = .returned (.tuple #[.agg #[.int .u64 1, .int .u8 131], .int .i64 0]) ∧ Below w.heap.size w w' := by
  have h := Pack_yes 1 0 0 0 0 (by decide) w
  rw [pack_one.1, pack_one.2] at h
  exact h
theorem mend_one : mendV (mendR 0 131) = .tuple #[.agg #[.int .i64 1, .int .i64 0, .int .i64 0, .int .i64 0, .int .i64 0], .bool true, .int .i64 0] := by kernel_rfl
theorem six_M (w : World) : Calls Tryz.prog 26 #[.agg #[.int .u64 0, .int .u8 131]] w fun e w' =>
    e = .returned (.tuple #[.agg #[.int .i64 1, .int .i64 0, .int .i64 0, .int .i64 0, .int .i64 0], .bool true, .int .i64 0]) ∧ Below w.heap.size w w' := by
  have h := Mend_any 0 131 (by omega) (by omega) w
  rw [mend_one] at h
  exact h

def stA (src : ByteArray) (trust : Int) : St := { a := 31, kind := 3, time := 5, src := src, abt := ⟨#[]⟩, souls := -1, trust := trust }
def threeL (wv : Value) : List Rpt := [(stA ⟨#[97]⟩ 500, wv, oneB [(1, 2)]), (stA ⟨#[97]⟩ 600, wv, oneB [(1, 2)]), (stA ⟨#[98]⟩ 900, wv, oneB [(1, 2)])]
theorem doubt_undef : doubtV (threeL undef) = .tuple #[.int .i64 40000, .int .i64 1000000, .int .i64 0] := by kernel_rfl
theorem doubt_three (wv : Value) : doubtV (threeL wv) = .tuple #[.int .i64 40000, .int .i64 1000000, .int .i64 0] := by
  have h : doubtV (threeL wv) = doubtV (threeL undef) := by
    unfold doubtV allOk sts threeL
    simp
  exact h.trans doubt_undef
end Go.Proofs.YtoehcabplbljcaaGreatDoor
