/- Read, the code's and the document's, where there is no report. -/
import Derived.Test.YtbfleemflhlfbaaGreatDoorRpSgWords
import Derived.Test.YtbfleemflhlfbaaGreatDoorRpRefSignal
namespace Go.Proofs.YtbfleemflhlfbaaGreatDoor
open Go.RowKit

set_option maxRecDepth 100000 in
set_option maxHeartbeats 2000000 in
theorem Read_sig (o x y b f t : Int) (src : ByteArray) (w : World) (hs : sigB o x y b f = false) :
    Calls Tryz.prog 11 #[sigA o x y b f, .int .i64 t, .string src] w fun e w' => e = .returned (.tuple #[repA 0 0 noB noB (.slice none 0 0) 0 0, .int .i64 4]) ∧ Below w.heap.size w w' := by
  have HSG : Hid (∀ W, Calls Tryz.prog 29 #[sigA o x y b f] W fun e w' => e = .returned (.bool false) ∧ Below W.heap.size W w') := Lib.hid fun W => by have := isSignal_any o x y b f W; rwa [hs] at this
  obtain ⟨W, hW⟩ : ∃ W, W = (w.alloc (sigO o x y b f)).alloc repNo := ⟨_, rfl⟩
  have HR : Hid (Reads w W o x y b f) := Lib.hid (by rw [hW]; exact ⟨(laidR w o x y b f).1, (laidR w o x y b f).2.1, (laidR w o x y b f).2.2⟩)
  have HW := Lib.hid hW
  clear hW hs
  go_enter Tryz.func11, Tryz.ntmps11
  go_wp2_with fail
  rw [← HW.out]
  refine (HSG.out W).mono ?_
  rintro e w1 ⟨rfl, hb1⟩
  have HR1 := Lib.hid (HR.out.next hb1)
  obtain ⟨g0, g1, g2, g3, g4, g5, g6⟩ := rep_cells HR1.out.res
  obtain ⟨z0, z1, z2, z3, z4, z5, z6⟩ := rep_free HR1.out.res
  clear hb1 HR HSG HW
  go_wp2
  obtain ⟨s9, k9, b9⟩ := seven_set (HR1.out).res (.int .i64 0) (.int .i64 0) (.string noB) (.string noB) (.slice none 0 0) (.int .i64 0) (.int .i64 0)
  obtain ⟨v0, v1, v2, v3, v4, v5, v6⟩ := rep_cells s9
  exact bodyPost_ret (v := .tuple #[.agg #[.int .i64 0, .int .i64 0, .string noB, .string noB, .slice none 0 0, .int .i64 0, .int .i64 0], .int .i64 4]) (by simp [results, Tryz.results11, go_sem, v0, v1, v2, v3, v4, v5, v6]) rfl ⟨rfl, b9 _ _ (by omega) (HR1.out).below⟩

set_option maxRecDepth 100000 in
set_option maxHeartbeats 2000000 in
theorem Read_arg (o x y b f t : Int) (src : ByteArray) (w : World) (hsz : src.size ≤ 9223372036854775807) (hs : sigB o x y b f = true) (hb : (inB t 0 1073741824 && nameL src.data.toList) = false) :
    Calls Tryz.prog 11 #[sigA o x y b f, .int .i64 t, .string src] w fun e w' => e = .returned (.tuple #[repA 0 0 noB noB (.slice none 0 0) 0 0, .int .i64 2]) ∧ Below w.heap.size w w' := by
  have HSG : Hid (∀ W, Calls Tryz.prog 29 #[sigA o x y b f] W fun e w' => e = .returned (.bool true) ∧ Below W.heap.size W w') := Lib.hid fun W => by have := isSignal_any o x y b f W; rwa [hs] at this
  obtain ⟨bt, hbt⟩ : ∃ q, q = inB t 0 1073741824 := ⟨_, rfl⟩
  obtain ⟨bn, hbn⟩ : ∃ q, q = nameL src.data.toList := ⟨_, rfl⟩
  rw [← hbt, ← hbn] at hb
  have HT : Hid (∀ W, Calls Tryz.prog 30 #[.int .i64 t] W fun e w' => e = .returned (.bool bt) ∧ W = w') := Lib.hid fun W => by rw [hbt]; exact isTime_any t W
  have HN : Hid (∀ W, Calls Tryz.prog 31 #[.string src] W fun e w' => e = .returned (.bool bn) ∧ W = w') := Lib.hid fun W => by rw [hbn]; exact isName_any src W hsz
  obtain ⟨W, hW⟩ : ∃ W, W = (w.alloc (sigO o x y b f)).alloc repNo := ⟨_, rfl⟩
  have HR : Hid (Reads w W o x y b f) := Lib.hid (by rw [hW]; exact ⟨(laidR w o x y b f).1, (laidR w o x y b f).2.1, (laidR w o x y b f).2.2⟩)
  have HW := Lib.hid hW
  clear hW hs hbt hbn
  go_enter Tryz.func11, Tryz.ntmps11
  go_wp2_with fail
  rw [← HW.out]
  refine (HSG.out W).mono ?_
  rintro e w1 ⟨rfl, hb1⟩
  have HR1 := Lib.hid (HR.out.next hb1)
  obtain ⟨g0, g1, g2, g3, g4, g5, g6⟩ := rep_cells HR1.out.res
  obtain ⟨z0, z1, z2, z3, z4, z5, z6⟩ := rep_free HR1.out.res
  clear hb1 HR HSG HW
  cases bt with
  | false =>
    clear hb
    go_wp2_with (go_at_call 30; (with_reducible refine (HT.out _).mono ?_); rintro e w' ⟨rfl, rfl⟩)
    skip
    obtain ⟨s9, k9, b9⟩ := seven_set (HR1.out).res (.int .i64 0) (.int .i64 0) (.string noB) (.string noB) (.slice none 0 0) (.int .i64 0) (.int .i64 0)
    obtain ⟨v0, v1, v2, v3, v4, v5, v6⟩ := rep_cells s9
    exact bodyPost_ret (v := .tuple #[.agg #[.int .i64 0, .int .i64 0, .string noB, .string noB, .slice none 0 0, .int .i64 0, .int .i64 0], .int .i64 2]) (by simp [results, Tryz.results11, go_sem, v0, v1, v2, v3, v4, v5, v6]) rfl ⟨rfl, b9 _ _ (by omega) (HR1.out).below⟩
  | true =>
    have hbn : bn = false := by simpa using hb
    subst hbn
    clear hb
    go_wp2_with (first | (go_at_call 30; (with_reducible refine (HT.out _).mono ?_); rintro e w' ⟨rfl, rfl⟩) | (go_at_call 31; (with_reducible refine (HN.out _).mono ?_); rintro e w' ⟨rfl, rfl⟩))
    skip
    obtain ⟨s9, k9, b9⟩ := seven_set (HR1.out).res (.int .i64 0) (.int .i64 0) (.string noB) (.string noB) (.slice none 0 0) (.int .i64 0) (.int .i64 0)
    obtain ⟨v0, v1, v2, v3, v4, v5, v6⟩ := rep_cells s9
    exact bodyPost_ret (v := .tuple #[.agg #[.int .i64 0, .int .i64 0, .string noB, .string noB, .slice none 0 0, .int .i64 0, .int .i64 0], .int .i64 2]) (by simp [results, Tryz.results11, go_sem, v0, v1, v2, v3, v4, v5, v6]) rfl ⟨rfl, b9 _ _ (by omega) (HR1.out).below⟩

set_option maxRecDepth 100000 in
set_option maxHeartbeats 2000000 in
theorem refRead_sig (o x y b f t : Int) (src : ByteArray) (w : World) (hs : sigB o x y b f = false) :
    Calls Tryz.prog 12 #[sigA o x y b f, .int .i64 t, .string src] w fun e w' => e = .returned (.tuple #[repA 0 0 noB noB (.slice none 0 0) 0 0, .int .i64 4]) ∧ Below w.heap.size w w' := by
  have HSG : Hid (∀ W, Calls Tryz.prog 35 #[sigA o x y b f] W fun e w' => e = .returned (.bool false) ∧ Below W.heap.size W w') := Lib.hid fun W => by have := refSignal_any o x y b f W; rwa [hs] at this
  obtain ⟨W, hW⟩ : ∃ W, W = (w.alloc (sigO o x y b f)).alloc repNo := ⟨_, rfl⟩
  have HR : Hid (Reads w W o x y b f) := Lib.hid (by rw [hW]; exact ⟨(laidR w o x y b f).1, (laidR w o x y b f).2.1, (laidR w o x y b f).2.2⟩)
  have HW := Lib.hid hW
  clear hW hs
  go_enter Tryz.func12, Tryz.ntmps12
  go_wp2_with fail
  rw [← HW.out]
  refine (HSG.out W).mono ?_
  rintro e w1 ⟨rfl, hb1⟩
  have HR1 := Lib.hid (HR.out.next hb1)
  obtain ⟨g0, g1, g2, g3, g4, g5, g6⟩ := rep_cells HR1.out.res
  obtain ⟨z0, z1, z2, z3, z4, z5, z6⟩ := rep_free HR1.out.res
  clear hb1 HR HSG HW
  go_wp2
  obtain ⟨s9, k9, b9⟩ := seven_set (HR1.out).res (.int .i64 0) (.int .i64 0) (.string noB) (.string noB) (.slice none 0 0) (.int .i64 0) (.int .i64 0)
  obtain ⟨v0, v1, v2, v3, v4, v5, v6⟩ := rep_cells s9
  exact bodyPost_ret (v := .tuple #[.agg #[.int .i64 0, .int .i64 0, .string noB, .string noB, .slice none 0 0, .int .i64 0, .int .i64 0], .int .i64 4]) (by simp [results, Tryz.results12, go_sem, v0, v1, v2, v3, v4, v5, v6]) rfl ⟨rfl, b9 _ _ (by omega) (HR1.out).below⟩

set_option maxRecDepth 100000 in
set_option maxHeartbeats 2000000 in
theorem refRead_arg (o x y b f t : Int) (src : ByteArray) (w : World) (hsz : src.size ≤ 9223372036854775807) (hs : sigB o x y b f = true) (hb : (inB t 0 1073741824 && nameL src.data.toList) = false) :
    Calls Tryz.prog 12 #[sigA o x y b f, .int .i64 t, .string src] w fun e w' => e = .returned (.tuple #[repA 0 0 noB noB (.slice none 0 0) 0 0, .int .i64 2]) ∧ Below w.heap.size w w' := by
  have HSG : Hid (∀ W, Calls Tryz.prog 35 #[sigA o x y b f] W fun e w' => e = .returned (.bool true) ∧ Below W.heap.size W w') := Lib.hid fun W => by have := refSignal_any o x y b f W; rwa [hs] at this
  obtain ⟨bt, hbt⟩ : ∃ q, q = inB t 0 1073741824 := ⟨_, rfl⟩
  obtain ⟨bn, hbn⟩ : ∃ q, q = nameL src.data.toList := ⟨_, rfl⟩
  rw [← hbt, ← hbn] at hb
  have HT : Hid (∀ W, Calls Tryz.prog 36 #[.int .i64 t] W fun e w' => e = .returned (.bool bt) ∧ W = w') := Lib.hid fun W => by rw [hbt]; exact refTime_any t W
  have HN : Hid (∀ W, Calls Tryz.prog 37 #[.string src] W fun e w' => e = .returned (.bool bn) ∧ W = w') := Lib.hid fun W => by rw [hbn]; exact refName_any src W hsz
  obtain ⟨W, hW⟩ : ∃ W, W = (w.alloc (sigO o x y b f)).alloc repNo := ⟨_, rfl⟩
  have HR : Hid (Reads w W o x y b f) := Lib.hid (by rw [hW]; exact ⟨(laidR w o x y b f).1, (laidR w o x y b f).2.1, (laidR w o x y b f).2.2⟩)
  have HW := Lib.hid hW
  clear hW hs hbt hbn
  go_enter Tryz.func12, Tryz.ntmps12
  go_wp2_with fail
  rw [← HW.out]
  refine (HSG.out W).mono ?_
  rintro e w1 ⟨rfl, hb1⟩
  have HR1 := Lib.hid (HR.out.next hb1)
  obtain ⟨g0, g1, g2, g3, g4, g5, g6⟩ := rep_cells HR1.out.res
  obtain ⟨z0, z1, z2, z3, z4, z5, z6⟩ := rep_free HR1.out.res
  clear hb1 HR HSG HW
  cases bt with
  | false =>
    clear hb
    go_wp2_with (go_at_call 36; (with_reducible refine (HT.out _).mono ?_); rintro e w' ⟨rfl, rfl⟩)
    skip
    obtain ⟨s9, k9, b9⟩ := seven_set (HR1.out).res (.int .i64 0) (.int .i64 0) (.string noB) (.string noB) (.slice none 0 0) (.int .i64 0) (.int .i64 0)
    obtain ⟨v0, v1, v2, v3, v4, v5, v6⟩ := rep_cells s9
    exact bodyPost_ret (v := .tuple #[.agg #[.int .i64 0, .int .i64 0, .string noB, .string noB, .slice none 0 0, .int .i64 0, .int .i64 0], .int .i64 2]) (by simp [results, Tryz.results12, go_sem, v0, v1, v2, v3, v4, v5, v6]) rfl ⟨rfl, b9 _ _ (by omega) (HR1.out).below⟩
  | true =>
    have hbn : bn = false := by simpa using hb
    subst hbn
    clear hb
    go_wp2_with (first | (go_at_call 36; (with_reducible refine (HT.out _).mono ?_); rintro e w' ⟨rfl, rfl⟩) | (go_at_call 37; (with_reducible refine (HN.out _).mono ?_); rintro e w' ⟨rfl, rfl⟩))
    skip
    obtain ⟨s9, k9, b9⟩ := seven_set (HR1.out).res (.int .i64 0) (.int .i64 0) (.string noB) (.string noB) (.slice none 0 0) (.int .i64 0) (.int .i64 0)
    obtain ⟨v0, v1, v2, v3, v4, v5, v6⟩ := rep_cells s9
    exact bodyPost_ret (v := .tuple #[.agg #[.int .i64 0, .int .i64 0, .string noB, .string noB, .slice none 0 0, .int .i64 0, .int .i64 0], .int .i64 2]) (by simp [results, Tryz.results12, go_sem, v0, v1, v2, v3, v4, v5, v6]) rfl ⟨rfl, b9 _ _ (by omega) (HR1.out).below⟩
end Go.Proofs.YtbfleemflhlfbaaGreatDoor
