/- isAbout, CheckReport: over whatever CheckArea answers for the places. -/
import Derived.Test.YtjcaaejfokmolaaGreatDoorRpInside
namespace Go.Proofs.YtjcaaejfokmolaaGreatDoor
open Go.RowKit

/-- a report as a value. -/
def repV (s : St) (wv : Value) : Value := .agg #[.int .i64 s.kind, .int .i64 s.time, .string s.src, .string s.abt, wv, .int .i64 s.souls, .int .i64 s.trust]

def aboutB (kind : Int) (abt : List UInt8) : Bool := if abt = [] then decide (kind ≠ 1) && decide (kind ≠ 4) else nameL abt

theorem empty_facts {s : ByteArray} (h : s.data.toList = []) : s.toList = [] ∧ s.toList.isEmpty = true ∧ (s.toList == []) = true := by
  rw [ByteArray.toList_eq, h]; exact ⟨rfl, rfl, rfl⟩
theorem some_facts {s : ByteArray} (h : s.data.toList ≠ []) : ¬ s.toList = [] ∧ s.toList.isEmpty = false ∧ (s.toList == []) = false := by
  rw [ByteArray.toList_eq]
  cases e : s.data.toList with
  | nil => exact absurd e h
  | cons a l => exact ⟨List.cons_ne_nil _ _, rfl, rfl⟩

set_option maxHeartbeats 1000000 in
theorem isAbout_any (s : St) (wv : Value) (A : Option Addr) (n cap : Nat) (hwv : wv = .slice A n cap) (w : World) (hs : s.abt.size ≤ 9223372036854775807) :
    Calls Tryz.prog 43 #[repV s wv] w fun e w' => e = .returned (.bool (aboutB s.kind s.abt.data.toList)) ∧ Below w.heap.size w w' := by
  subst hwv
  unfold repV
  by_cases h0 : s.abt.data.toList = []
  · obtain ⟨e0, e1, e2⟩ := empty_facts h0
    by_cases k1 : s.kind = 1
    · have HR : Hid (aboutB s.kind s.abt.data.toList = false) := Lib.hid (by unfold aboutB; rw [if_pos h0, k1]; rfl)
      have K1 : ((s.kind : Int) != 1) = false := by rw [k1]; rfl
      have H0 := Lib.hid h0; have HK := Lib.hid k1; clear h0 k1
      go_enter Tryz.func43, Tryz.ntmps43
      go_wp2
      go_ret
      exact ⟨by rw [HR.out]; rfl, (Below.refl _ _).alloc (Nat.le_refl _) _⟩
    · have K1 : ((s.kind : Int) != 1) = true := by simpa using k1
      by_cases k4 : s.kind = 4
      · have HR : Hid (aboutB s.kind s.abt.data.toList = false) := Lib.hid (by unfold aboutB; rw [if_pos h0, k4]; rfl)
        have K4 : ((s.kind : Int) != 4) = false := by rw [k4]; rfl
        have H0 := Lib.hid h0; have HK := Lib.hid k4; clear h0 k1 k4
        go_enter Tryz.func43, Tryz.ntmps43
        go_wp2
        go_ret
        exact ⟨by rw [HR.out]; rfl, (Below.refl _ _).alloc (Nat.le_refl _) _⟩
      · have K4 : ((s.kind : Int) != 4) = true := by simpa using k4
        have HR : Hid (aboutB s.kind s.abt.data.toList = true) := Lib.hid (by unfold aboutB; rw [if_pos h0, decide_eq_true k1, decide_eq_true k4]; rfl)
        have H0 := Lib.hid h0; clear h0 k1 k4
        go_enter Tryz.func43, Tryz.ntmps43
        go_wp2
        go_ret
        exact ⟨by rw [HR.out]; rfl, (Below.refl _ _).alloc (Nat.le_refl _) _⟩
  · obtain ⟨e0, e1, e2⟩ := some_facts h0
    have HR : Hid (aboutB s.kind s.abt.data.toList = nameL s.abt.data.toList) := Lib.hid (by unfold aboutB; rw [if_neg h0])
    have HN : Hid (∀ W, Calls Tryz.prog 42 #[.string s.abt] W fun e w' => e = .returned (.bool (nameL s.abt.data.toList)) ∧ W = w') := Lib.hid fun W => isName_any s.abt W hs
    obtain ⟨q, hq⟩ : ∃ q, q = nameL s.abt.data.toList := ⟨_, rfl⟩
    rw [← hq] at HN HR
    clear h0 hq
    go_enter Tryz.func43, Tryz.ntmps43
    go_wp2_with (go_at_call 42; ((with_reducible refine (HN.out _).mono ?_); rintro e w' ⟨rfl, rfl⟩))
    go_ret
    exact ⟨by rw [HR.out]; rfl, (Below.refl _ _).alloc (Nat.le_refl _) _⟩

/-- CheckArea answers q for the places of wv. -/
def AreaSays (w : World) (wv : Value) (q : Bool) : Prop := ∀ w', Below w.heap.size w w' → Calls Tryz.prog 10 #[wv] w' fun e w2 => e = .returned (.bool q) ∧ Below w'.heap.size w' w2

def checkB (s : St) (q : Bool) : Bool := inB s.kind 1 4 && (inB s.time 0 1073741824 && (nameL s.src.data.toList && (aboutB s.kind s.abt.data.toList && (q && (inB s.souls (-1) 10000 && inB s.trust 0 1000)))))

set_option maxRecDepth 100000 in
set_option maxHeartbeats 2000000 in
theorem CheckReport_any (s : St) (wv : Value) (A : Option Addr) (n cap : Nat) (hwv : wv = .slice A n cap) (w : World) (q : Bool) (hq : AreaSays w wv q) (h1 : s.abt.size ≤ 9223372036854775807) (h2 : s.src.size ≤ 9223372036854775807) :
    Calls Tryz.prog 16 #[repV s wv] w fun e w' => e = .returned (.bool (checkB s q)) ∧ Below w.heap.size w w' := by
  have H1 : Hid (∀ b, b = inB s.kind 1 4 → ∀ W, Calls Tryz.prog 40 #[.int .i64 s.kind] W fun e w' => e = .returned (.bool b) ∧ W = w') := Lib.hid fun b e W => by rw [e]; exact isKind_any s.kind W
  have H2 : Hid (∀ b, b = inB s.time 0 1073741824 → ∀ W, Calls Tryz.prog 41 #[.int .i64 s.time] W fun e w' => e = .returned (.bool b) ∧ W = w') := Lib.hid fun b e W => by rw [e]; exact isTime_any s.time W
  have H3 : Hid (∀ b, b = nameL s.src.data.toList → ∀ W, Calls Tryz.prog 42 #[.string s.src] W fun e w' => e = .returned (.bool b) ∧ W = w') := Lib.hid fun b e W => by rw [e]; exact isName_any s.src W h2
  have H4 : Hid (∀ b, b = aboutB s.kind s.abt.data.toList → ∀ W, Calls Tryz.prog 43 #[.agg #[.int .i64 s.kind, .int .i64 s.time, .string s.src, .string s.abt, wv, .int .i64 s.souls, .int .i64 s.trust]] W fun e w' => e = .returned (.bool b) ∧ Below W.heap.size W w') := Lib.hid fun b e W => by rw [e]; exact isAbout_any s wv A n cap hwv W h1
  have H6 : Hid (∀ b, b = inB s.souls (-1) 10000 → ∀ W, Calls Tryz.prog 30 #[.int .i64 s.souls, .int .i64 (-1), .int .i64 10000] W fun e w' => e = .returned (.bool b) ∧ W = w') := Lib.hid fun b e W => by rw [e]; exact isFrom_any s.souls (-1) 10000 W
  have H7 : Hid (∀ b, b = inB s.trust 0 1000 → ∀ W, Calls Tryz.prog 30 #[.int .i64 s.trust, .int .i64 0, .int .i64 1000] W fun e w' => e = .returned (.bool b) ∧ W = w') := Lib.hid fun b e W => by rw [e]; exact isFrom_any s.trust 0 1000 W
  have HRES : Hid (∀ b1 b2 b3 b4 b6 b7, b1 = inB s.kind 1 4 → b2 = inB s.time 0 1073741824 → b3 = nameL s.src.data.toList → b4 = aboutB s.kind s.abt.data.toList → b6 = inB s.souls (-1) 10000 → b7 = inB s.trust 0 1000 → checkB s q = (b1 && (b2 && (b3 && (b4 && (q && (b6 && b7))))))) := Lib.hid fun b1 b2 b3 b4 b6 b7 e1 e2 e3 e4 e6 e7 => by rw [e1, e2, e3, e4, e6, e7]; rfl
  obtain ⟨b1, E1⟩ : ∃ b, b = inB s.kind 1 4 := ⟨_, rfl⟩
  obtain ⟨b2, E2⟩ : ∃ b, b = inB s.time 0 1073741824 := ⟨_, rfl⟩
  obtain ⟨b3, E3⟩ : ∃ b, b = nameL s.src.data.toList := ⟨_, rfl⟩
  obtain ⟨b4, E4⟩ : ∃ b, b = aboutB s.kind s.abt.data.toList := ⟨_, rfl⟩
  obtain ⟨b6, E6⟩ : ∃ b, b = inB s.souls (-1) 10000 := ⟨_, rfl⟩
  obtain ⟨b7, E7⟩ : ∃ b, b = inB s.trust 0 1000 := ⟨_, rfl⟩
  rw [HRES.out b1 b2 b3 b4 b6 b7 E1 E2 E3 E4 E6 E7]
  have F1 := Lib.hid (H1.out b1 E1); have F2 := Lib.hid (H2.out b2 E2); have F3 := Lib.hid (H3.out b3 E3); have F4 := Lib.hid (H4.out b4 E4); have F6 := Lib.hid (H6.out b6 E6); have F7 := Lib.hid (H7.out b7 E7)
  clear H1 H2 H3 H4 H6 H7 HRES E1 E2 E3 E4 E6 E7 h1 h2
  obtain ⟨W, hW⟩ : ∃ W, W = w.alloc (.cells #[.int .i64 s.kind, .int .i64 s.time, .string s.src, .string s.abt, wv, .int .i64 s.souls, .int .i64 s.trust] 29) := ⟨_, rfl⟩
  have hWb : Below w.heap.size w W := by rw [hW]; exact (Below.refl _ _).alloc (Nat.le_refl _) _
  have hWs : W.heap.size = w.heap.size + 1 := by rw [hW]; simp
  have HC : Hid (∀ w', Below W.heap.size W w' → w'.cell? ⟨w.heap.size, 4, none⟩ = some wv ∧ w'.cell? ⟨w.heap.size, 5, none⟩ = some (.int .i64 s.souls) ∧ w'.cell? ⟨w.heap.size, 6, none⟩ = some (.int .i64 s.trust)) := Lib.hid fun w' h => by
    refine ⟨(h.cell (p := ⟨w.heap.size, 4, none⟩) (by simp only; omega)).trans ?_, (h.cell (p := ⟨w.heap.size, 5, none⟩) (by simp only; omega)).trans ?_, (h.cell (p := ⟨w.heap.size, 6, none⟩) (by simp only; omega)).trans ?_⟩
    · rw [hW]; exact cellNew w _ _ 4
    · rw [hW]; exact cellNew w _ _ 5
    · rw [hW]; exact cellNew w _ _ 6
  have HQ : Hid (∀ w', Below W.heap.size W w' → Calls Tryz.prog 10 #[wv] w' fun e w2 => e = .returned (.bool q) ∧ Below w'.heap.size w' w2) := Lib.hid fun w' h => hq w' (hWb.trans (h.mono hWb.size))
  have HWB := Lib.hid hWb
  have HW := Lib.hid hW
  clear hq hWb hWs hW
  subst hwv
  unfold repV
  cases b1 with
  | false =>
    go_enter Tryz.func16, Tryz.ntmps16
    go_wp2_with (first | (go_at_call 40; ((with_reducible refine (F1.out _).mono ?_); rintro e w' ⟨rfl, rfl⟩)) | (go_at_call 41; ((with_reducible refine (F2.out _).mono ?_); rintro e w' ⟨rfl, rfl⟩)) | (go_at_call 42; ((with_reducible refine (F3.out _).mono ?_); rintro e w' ⟨rfl, rfl⟩)))
    go_ret
    exact ⟨by simp, (Below.refl _ _).alloc (Nat.le_refl _) _⟩
  | true =>
    cases b2 with
    | false =>
      go_enter Tryz.func16, Tryz.ntmps16
      go_wp2_with (first | (go_at_call 40; ((with_reducible refine (F1.out _).mono ?_); rintro e w' ⟨rfl, rfl⟩)) | (go_at_call 41; ((with_reducible refine (F2.out _).mono ?_); rintro e w' ⟨rfl, rfl⟩)) | (go_at_call 42; ((with_reducible refine (F3.out _).mono ?_); rintro e w' ⟨rfl, rfl⟩)))
      go_ret
      exact ⟨by simp, (Below.refl _ _).alloc (Nat.le_refl _) _⟩
    | true =>
      cases b3 with
      | false =>
        go_enter Tryz.func16, Tryz.ntmps16
        go_wp2_with (first | (go_at_call 40; ((with_reducible refine (F1.out _).mono ?_); rintro e w' ⟨rfl, rfl⟩)) | (go_at_call 41; ((with_reducible refine (F2.out _).mono ?_); rintro e w' ⟨rfl, rfl⟩)) | (go_at_call 42; ((with_reducible refine (F3.out _).mono ?_); rintro e w' ⟨rfl, rfl⟩)))
        go_ret
        exact ⟨by simp, (Below.refl _ _).alloc (Nat.le_refl _) _⟩
      | true =>
        cases b4 with
        | false =>
          go_enter Tryz.func16, Tryz.ntmps16
          go_wp2_with (first | (go_at_call 40; ((with_reducible refine (F1.out _).mono ?_); rintro e w' ⟨rfl, rfl⟩)) | (go_at_call 41; ((with_reducible refine (F2.out _).mono ?_); rintro e w' ⟨rfl, rfl⟩)) | (go_at_call 42; ((with_reducible refine (F3.out _).mono ?_); rintro e w' ⟨rfl, rfl⟩)))
          rw [← HW.out]
          refine (F4.out _).mono ?_
          rintro e w2 ⟨rfl, hb⟩
          have HB2 := Lib.hid hb
          obtain ⟨c4, c5, c6⟩ := HC.out w2 hb
          clear hb
          go_wp2_with fail
          go_ret
          exact ⟨by simp, HWB.out.trans (HB2.out.mono HWB.out.size)⟩
        | true =>
          cases q with
          | false =>
            go_enter Tryz.func16, Tryz.ntmps16
            go_wp2_with (first | (go_at_call 40; ((with_reducible refine (F1.out _).mono ?_); rintro e w' ⟨rfl, rfl⟩)) | (go_at_call 41; ((with_reducible refine (F2.out _).mono ?_); rintro e w' ⟨rfl, rfl⟩)) | (go_at_call 42; ((with_reducible refine (F3.out _).mono ?_); rintro e w' ⟨rfl, rfl⟩)))
            rw [← HW.out]
            refine (F4.out _).mono ?_
            rintro e w2 ⟨rfl, hb⟩
            have HB2 := Lib.hid hb
            obtain ⟨c4, c5, c6⟩ := HC.out w2 hb
            clear hb
            go_wp2_with fail
            refine (HQ.out _ HB2.out).mono ?_
            rintro e w3 ⟨rfl, hb⟩
            have HB3 := Lib.hid (below_chain HB2.out hb)
            obtain ⟨d4, d5, d6⟩ := HC.out w3 HB3.out
            clear hb c4 c5 c6
            go_wp2_with (go_at_call 30; first | ((with_reducible refine (F6.out _).mono ?_); rintro e w' ⟨rfl, rfl⟩) | ((with_reducible refine (F7.out _).mono ?_); rintro e w' ⟨rfl, rfl⟩))
            go_ret
            exact ⟨by simp, HWB.out.trans (HB3.out.mono HWB.out.size)⟩
          | true =>
            cases b6 with
            | false =>
              go_enter Tryz.func16, Tryz.ntmps16
              go_wp2_with (first | (go_at_call 40; ((with_reducible refine (F1.out _).mono ?_); rintro e w' ⟨rfl, rfl⟩)) | (go_at_call 41; ((with_reducible refine (F2.out _).mono ?_); rintro e w' ⟨rfl, rfl⟩)) | (go_at_call 42; ((with_reducible refine (F3.out _).mono ?_); rintro e w' ⟨rfl, rfl⟩)))
              rw [← HW.out]
              refine (F4.out _).mono ?_
              rintro e w2 ⟨rfl, hb⟩
              have HB2 := Lib.hid hb
              obtain ⟨c4, c5, c6⟩ := HC.out w2 hb
              clear hb
              go_wp2_with fail
              refine (HQ.out _ HB2.out).mono ?_
              rintro e w3 ⟨rfl, hb⟩
              have HB3 := Lib.hid (below_chain HB2.out hb)
              obtain ⟨d4, d5, d6⟩ := HC.out w3 HB3.out
              clear hb c4 c5 c6
              go_wp2_with (go_at_call 30; first | ((with_reducible refine (F6.out _).mono ?_); rintro e w' ⟨rfl, rfl⟩) | ((with_reducible refine (F7.out _).mono ?_); rintro e w' ⟨rfl, rfl⟩))
              go_ret
              exact ⟨by simp, HWB.out.trans (HB3.out.mono HWB.out.size)⟩
            | true =>
              go_enter Tryz.func16, Tryz.ntmps16
              go_wp2_with (first | (go_at_call 40; ((with_reducible refine (F1.out _).mono ?_); rintro e w' ⟨rfl, rfl⟩)) | (go_at_call 41; ((with_reducible refine (F2.out _).mono ?_); rintro e w' ⟨rfl, rfl⟩)) | (go_at_call 42; ((with_reducible refine (F3.out _).mono ?_); rintro e w' ⟨rfl, rfl⟩)))
              rw [← HW.out]
              refine (F4.out _).mono ?_
              rintro e w2 ⟨rfl, hb⟩
              have HB2 := Lib.hid hb
              obtain ⟨c4, c5, c6⟩ := HC.out w2 hb
              clear hb
              go_wp2_with fail
              refine (HQ.out _ HB2.out).mono ?_
              rintro e w3 ⟨rfl, hb⟩
              have HB3 := Lib.hid (below_chain HB2.out hb)
              obtain ⟨d4, d5, d6⟩ := HC.out w3 HB3.out
              clear hb c4 c5 c6
              go_wp2_with (go_at_call 30; first | ((with_reducible refine (F6.out _).mono ?_); rintro e w' ⟨rfl, rfl⟩) | ((with_reducible refine (F7.out _).mono ?_); rintro e w' ⟨rfl, rfl⟩))
              go_ret
              exact ⟨by simp, HWB.out.trans (HB3.out.mono HWB.out.size)⟩
end Go.Proofs.YtjcaaejfokmolaaGreatDoor
