/- The three lines of the opening examples. -/
import Derived.Test.YtbfleemflhlfbaaGreatDoorRpParse
namespace Go.Proofs.YtbfleemflhlfbaaGreatDoor

def lineA : ByteArray := ⟨#[102, 108, 97, 114, 101, 32, 97, 116, 32, 53, 32, 98, 121, 32, 120, 32, 105, 110, 32, 49, 32, 50, 32, 116, 114, 117, 115, 116, 32, 57]⟩
def lineB : ByteArray := ⟨#[102, 108, 97, 114, 101, 32, 97, 116, 32, 53, 32, 98, 121, 32, 120, 32, 105, 110, 32, 49, 32, 116, 114, 117, 115, 116, 32, 57]⟩
def lineC : ByteArray := ⟨#[109, 105, 115, 115, 105, 110, 103, 32, 97, 116, 32, 53, 32, 98, 121, 32, 120, 32, 105, 110, 32, 48, 32, 48, 32, 116, 114, 117, 115, 116, 32, 49]⟩
def oneB (l : List (Int × Int)) : Bool := l.all placeB

theorem readA : parseR lineA oneB = .ok ({ a := 31, kind := 3, time := 5, src := ⟨#[120]⟩, abt := ⟨#[]⟩, souls := -1, trust := 9 }, [(1, 2)]) := by kernel_rfl
theorem readB : parseR lineB oneB = .error (21, 5) := by kernel_rfl
theorem readC : parseR lineC oneB = .error (32, 2) := by kernel_rfl
theorem goA : goOn lineA 7 s0 = .ok ({ a := 31, kind := 3, time := 5, src := ⟨#[120]⟩, abt := ⟨#[]⟩, souls := -1, trust := 9 }, [(1, 2)]) := by kernel_rfl
theorem goB : goOn lineB 7 s0 = .error (21, 5) := by kernel_rfl
theorem goC : goOn lineC 7 s0 = .ok ({ a := 33, kind := 4, time := 5, src := ⟨#[120]⟩, abt := ⟨#[]⟩, souls := -1, trust := 1 }, [(0, 0)]) := by kernel_rfl

theorem says_one {w : World} {wv : Value} {p : Int × Int} (h : Area w wv [p]) : AreaSays w wv (oneB [p]) := by
  have h2 := h
  obtain ⟨A, cap, rfl, _⟩ := h2
  intro w' hb
  have := CheckArea_one A cap p w' (h.below hb)
  rw [show oneB [p] = placeB p by simp [oneB]]
  exact this

theorem parseA (m : Int) (w : World) (hE : Env m w) : Calls Tryz.prog 18 #[.string lineA] w (ParsePost lineA oneB w) :=
  Parse_any m lineA oneB w hE (by decide) fun s wv w' hs ha => by
    rw [goA] at hs; cases hs
    exact ⟨says_one ha, by decide, by decide⟩
theorem parseB (m : Int) (w : World) (hE : Env m w) : Calls Tryz.prog 18 #[.string lineB] w (ParsePost lineB oneB w) :=
  Parse_any m lineB oneB w hE (by decide) fun s wv w' hs ha => by
    rw [goB] at hs; cases hs
theorem parseC (m : Int) (w : World) (hE : Env m w) : Calls Tryz.prog 18 #[.string lineC] w (ParsePost lineC oneB w) :=
  Parse_any m lineC oneB w hE (by decide) fun s wv w' hs ha => by
    rw [goC] at hs; cases hs
    exact ⟨says_one ha, by decide, by decide⟩
end Go.Proofs.YtbfleemflhlfbaaGreatDoor
