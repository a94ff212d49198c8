/- part, next: what the next part of a line is, and how it is passed. -/
import Derived.Test.YtjcaaejfokmolaaGreatDoorRpMem
import Derived.Test.YtjcaaejfokmolaaGreatDoorShelf
import Derived.IntWalk
namespace Go.Proofs.YtjcaaejfokmolaaGreatDoor
open Go.RowKit

theorem LineAt.drew {w B t a} (h : LineAt w B t a) : LineAt w.drew B t a := ⟨h.text, h.at_, h.free, h.small, h.near⟩

/-- the next part, as bytes. -/
def partL (l : List UInt8) (a : Nat) : List UInt8 := if l.length < a then [] else (Lib.cut (l.drop a) [32]).1
def partB (t : ByteArray) (a : Nat) : ByteArray := ⟨(partL t.data.toList a).toArray⟩

theorem partL_le (l : List UInt8) (a : Nat) : (partL l a).length ≤ l.length - a := by
  unfold partL
  split
  · simp
  · unfold Lib.cut
    split
    · rw [List.length_take, List.length_drop]; omega
    · simp
theorem partB_le (t : ByteArray) (a : Nat) : (partB t a).size ≤ t.size - a := by
  have h := partL_le t.data.toList a
  rw [← Lib.size_eq t] at h
  exact h

set_option maxHeartbeats 1000000 in
theorem part_any (B : Nat) (t : ByteArray) (a : Nat) (m : Int) (w : World) (hl : LineAt w B t a) (hm : w.cell? ⟨2, 0, none⟩ = some (.int .i64 m)) :
    Calls Tryz.prog 91 #[.pointer (some ⟨B, 0, none⟩)] w fun e w' => e = .returned (.string (partB t a)) ∧ ∃ n, w' = w.drewN n := by
  have hd := isDone_any B t a w hl
  by_cases hta : t.size < a
  · have e1 : partB t a = ByteArray.empty := by
      have : t.data.toList.length < a := by rw [← Lib.size_eq]; exact hta
      unfold partB partL; rw [if_pos this]; rfl
    rw [e1]
    rw [show decide (t.size < a) = true by simpa using hta] at hd
    obtain ⟨h0, h1, hf, hs, ha⟩ := hl
    clear h0 h1 hf
    go_enter Tryz.func91, Tryz.ntmps91
    go_wp2_with (go_at_call 94; refine hd.mono ?_; rintro e w' ⟨rfl, n, rfl⟩)
    go_ret
    exact ⟨rfl, _, rfl⟩
  · have hle : a ≤ t.size := by omega
    have e1 : partB t a = ⟨(Lib.cut (t.extract a t.size).data.toList [32]).1.toArray⟩ := by
      have h2 : ¬ t.data.toList.length < a := by rw [← Lib.size_eq]; exact hta
      unfold partB partL; rw [if_neg h2]
      congr 3
      rw [Lib.extract_to_end]
    rw [e1]
    rw [show decide (t.size < a) = false by simpa using hta] at hd
    obtain ⟨h0, h1, hf, hs, ha⟩ := hl
    have hsz : (t.extract a t.size).size < 4294967281 := by simp; omega
    have c1 : (0 : Int) ≤ a := by omega
    have c2 : (a : Int) ≤ t.size := by omega
    clear e1 hle hta
    go_enter Tryz.func91, Tryz.ntmps91
    go_wp2_with (go_at_call 94; refine hd.mono ?_; rintro e w' ⟨rfl, n, rfl⟩)
    go_quiet ((go_at_call 111; exact rp_quiet_add (Tryz.strings_Cut _ _ m _ hsz hm)))
    go_wp2
    go_ret
    exact ⟨by rw [Lib.extract_data]; rfl, n + nq, by rw [World.drewN_drewN]⟩

set_option maxHeartbeats 1000000 in
theorem next_any (B : Nat) (t : ByteArray) (a : Nat) (m : Int) (w : World) (hl : LineAt w B t a) (hm : w.cell? ⟨2, 0, none⟩ = some (.int .i64 m)) :
    Calls Tryz.prog 92 #[.pointer (some ⟨B, 0, none⟩)] w fun e w' => e = .returned (.tuple #[]) ∧ ∃ n, w' = (w.setCell ⟨B, 1, none⟩ (.int .i64 (a + (partB t a).size + 1 : Nat))).drewN n := by
  have hp := partB_le t a
  obtain ⟨h0, h1, hf, hs, ha⟩ := hl
  have hL : Hid (LineAt w B t a) := Lib.hid ⟨h0, h1, hf, hs, ha⟩
  go_enter Tryz.func92, Tryz.ntmps92
  go_wp2
  go_region_with ((go_at_call 91; refine (part_any B t a m w.drew hL.out.drew hm).mono ?_; rintro e w' ⟨rfl, n, rfl⟩))
  all_goals
    go_end0
    have e1 : IntKind.i64.wrap ((partB t a).size + 1) = (partB t a).size + 1 := IntWalk.i64_in _ (by omega)
    have e2 : IntKind.i64.wrap ((a : Int) + ((partB t a).size + 1)) = (a + (partB t a).size + 1 : Nat) := by rw [IntWalk.i64_in _ (by omega)]; omega
    rw [e1, e2]
    exact ⟨rfl, _, rfl⟩
end Go.Proofs.YtjcaaejfokmolaaGreatDoor
