/- The document's Read, where there is a report. -/
import Derived.Test.YtbfleemflhlfbaaGreatDoorRpSgBad
import Derived.Test.YtbfleemflhlfbaaGreatDoorRpTake
import Derived.Deep.DeepCutAuto
import Derived.BigQuiet
namespace Go.Proofs.YtbfleemflhlfbaaGreatDoor
open Go.RowKit

set_option maxRecDepth 100000 in
set_option maxHeartbeats 4000000 in
theorem refRead_ok (N : Nat) (x y b f t : Int) (src : ByteArray) (w : World) (hsz : src.size ≤ 9223372036854775807) (hs : sigB N x y b f = true) (hb : (inB t 0 1073741824 && nameL src.data.toList) = true) :
    Calls Tryz.prog 12 #[sigA N x y b f, .int .i64 t, .string src] w fun e w' => ∃ g, e = .returned (.tuple #[repA 1 t src ((⟨#[98]⟩ : ByteArray) ++ ⟨(Lib.decDigits N).toArray⟩) (.slice (some ⟨g, 0, none⟩) 4 4) (-1) (trustZ b), .int .i64 0]) ∧ w'.heap[g]? = some (sqO (1024 * x) (1024 * y)) ∧ Below w.heap.size w w' := by
  have HSG : Hid (∀ W, Calls Tryz.prog 35 #[sigA N x y b f] W fun e w' => e = .returned (.bool true) ∧ Below W.heap.size W w') := Lib.hid fun W => by have := refSignal_any N x y b f W; rwa [hs] at this
  rw [Bool.and_eq_true] at hb
  have HT : Hid (∀ W, Calls Tryz.prog 36 #[.int .i64 t] W fun e w' => e = .returned (.bool true) ∧ W = w') := Lib.hid fun W => by have := refTime_any t W; rwa [hb.1] at this
  have HN : Hid (∀ W, Calls Tryz.prog 37 #[.string src] W fun e w' => e = .returned (.bool true) ∧ W = w') := Lib.hid fun W => by have := refName_any src W hsz; rwa [hb.2] at this
  unfold sigB at hs
  rw [Bool.and_eq_true, Bool.and_eq_true, Bool.and_eq_true, Bool.and_eq_true, inB_true, inB_true, inB_true, inB_true, inB_true] at hs
  obtain ⟨h1, h2, h3, h4, h5⟩ := hs
  have hN : N < 4611686018427387904 := by omega
  have hdl : (Lib.decDigits N).length ≤ 20 := by rw [Lib.decDigits_length]; exact Lib.nDigits_le20 N (by omega)
  obtain ⟨dg, hdg⟩ : ∃ dg : ByteArray, dg = ⟨(Lib.decDigits N).toArray⟩ := ⟨_, rfl⟩
  have hdgs : dg.size ≤ 20 := by rw [hdg]; exact hdl
  rw [← hdg]
  obtain ⟨abt, hcat⟩ : ∃ abt, (⟨#[98]⟩ : ByteArray) ++ dg = abt := ⟨_, rfl⟩
  rw [hcat]
  have HIT : Hid (∀ W, Calls Tryz.prog 38 #[.int .i64 N] W fun e w' => e = .returned (.string dg) ∧ Below W.heap.size W w') := Lib.hid fun W => by rw [hdg]; exact refNumber_any N hN W
  obtain ⟨W, hW⟩ : ∃ W, W = (w.alloc (sigO N x y b f)).alloc repNo := ⟨_, rfl⟩
  have HR : Hid (Reads w W N x y b f) := Lib.hid (by rw [hW]; exact ⟨(laidR w N x y b f).1, (laidR w N x y b f).2.1, (laidR w N x y b f).2.2⟩)
  have HW := Lib.hid hW
  clear hW hb hdl hN hdg h1 h4 h5
  obtain ⟨h2, h2'⟩ := h2; obtain ⟨h3, h3'⟩ := h3
  go_enter Tryz.func12, Tryz.ntmps12
  go_wp2_with fail
  rw [← HW.out]
  refine (HSG.out W).mono ?_
  rintro e w1 ⟨rfl, hb1⟩
  have HR1 := Lib.hid (HR.out.next hb1)
  obtain ⟨n, hn⟩ : ∃ n, n = w.heap.size := ⟨_, rfl⟩
  have HNN := Lib.hid hn
  have HSI : Hid (w1.heap[n]? = some (sigO N x y b f)) := Lib.hid (by rw [hn]; exact HR1.out.sig)
  have HRE : Hid (w1.heap[n + 1]? = some repNo) := Lib.hid (by rw [hn]; exact HR1.out.res)
  have HBE : Hid (Below n w w1) := Lib.hid (by rw [hn]; exact HR1.out.below)
  rw [← hn]
  clear hb1 HR HSG HW hn HR1
  go_upto_region 5 with (first | (go_at_call 36; (with_reducible refine (HT.out _).mono ?_); rintro e w' ⟨rfl, rfl⟩) | (go_at_call 37; (with_reducible refine (HN.out _).mono ?_); rintro e w' ⟨rfl, rfl⟩))
  clear HT HN
  obtain ⟨x0, x1, x2, x3, x4⟩ := sig_cells HSI.out
  obtain ⟨xx, hxx⟩ : ∃ v, 1024 * x = v := ⟨_, rfl⟩
  obtain ⟨yy, hyy⟩ : ∃ v, 1024 * y = v := ⟨_, rfl⟩
  have hx1 : -8388608 ≤ xx := by omega
  have hx2 : xx ≤ 8387584 := by omega
  have hy1 : -8388608 ≤ yy := by omega
  have hy2 : yy ≤ 8387584 := by omega
  go_quiet (fail)
  have hnl : n < w1.heap.size := (Array.getElem?_eq_some_iff.1 HSI.out).1
  have y0 : ∀ o, ((w1.drewN nq).alloc o).cell? ⟨n, 0, none⟩ = some (.int .i64 N) := fun o => (World.cell?_alloc_lt (w1.drewN nq) o ⟨n, 0, none⟩ hnl).trans x0
  by_cases hb0 : b = 0
  · subst hb0
    have HTR : Hid (trustZ 0 = 500) := Lib.hid rfl
    go_wp2_with fail
    obtain ⟨W2, hW2⟩ : ∃ W2, W2 = (w1.drewN nq).alloc (sqO xx yy) := ⟨_, rfl⟩
    rw [← hW2]
    have hb2 : Below w1.heap.size w1 W2 := by rw [hW2]; exact (below_draws' w1 nq).trans (new_below (w1.drewN nq) _)
    have hq2 : W2.heap[w1.heap.size]? = some (sqO xx yy) := by rw [hW2]; exact heap_alloc_new (w1.drewN nq) _
    refine (HIT.out W2).mono ?_
    rintro e w5 ⟨rfl, hb5⟩
    have hb6 := below_chain hb2 hb5
    have hre := stay HRE.out hb6
    have hsq := stay hq2 hb5
    obtain ⟨g0, g1, g2, g3, g4, g5, g6⟩ := rep_cells hre
    obtain ⟨z0, z1, z2, z3, z4, z5, z6⟩ := rep_free hre
    obtain ⟨s9, k9, b9⟩ := seven_set hre (.int .i64 1) (.int .i64 t) (.string src) (.string abt) (.slice (some ⟨w1.heap.size, 0, none⟩) 4 4) (.int .i64 (-1)) (.int .i64 500)
    obtain ⟨v0, v1, v2, v3, v4, v5, v6⟩ := rep_cells s9
    have HSQ : Hid _ := Lib.hid ((k9 w1.heap.size (by have := (Array.getElem?_eq_some_iff.1 HRE.out).1; omega)).trans hsq)
    have HBF : Hid _ := Lib.hid (b9 n w (by omega) (HBE.out.trans (hb6.mono (by have := (Array.getElem?_eq_some_iff.1 HSI.out).1; omega))))
    clear k9 b9 hsq hre hb6 hb5 hq2 hb2 hW2 s9 HIT y0 hnl x0 x1 x2 x3 x4
    go_wp2
    exact bodyPost_ret (v := .tuple #[repA 1 t src abt (.slice (some ⟨w1.heap.size, 0, none⟩) 4 4) (-1) 500, .int .i64 0]) (by simp [results, Tryz.results12, go_sem, v0, v1, v2, v3, v4, v5, v6]) rfl ⟨_, by rw [HTR.out], by rw [hxx, hyy]; exact HSQ.out, below_at HBF.out HNN.out⟩
  · by_cases hb1 : b = 1
    · subst hb1
      have HTR : Hid (trustZ 1 = 700) := Lib.hid rfl
      go_wp2_with fail
      obtain ⟨W2, hW2⟩ : ∃ W2, W2 = (w1.drewN nq).alloc (sqO xx yy) := ⟨_, rfl⟩
      rw [← hW2]
      have hb2 : Below w1.heap.size w1 W2 := by rw [hW2]; exact (below_draws' w1 nq).trans (new_below (w1.drewN nq) _)
      have hq2 : W2.heap[w1.heap.size]? = some (sqO xx yy) := by rw [hW2]; exact heap_alloc_new (w1.drewN nq) _
      refine (HIT.out W2).mono ?_
      rintro e w5 ⟨rfl, hb5⟩
      have hb6 := below_chain hb2 hb5
      have hre := stay HRE.out hb6
      have hsq := stay hq2 hb5
      obtain ⟨g0, g1, g2, g3, g4, g5, g6⟩ := rep_cells hre
      obtain ⟨z0, z1, z2, z3, z4, z5, z6⟩ := rep_free hre
      obtain ⟨s9, k9, b9⟩ := seven_set hre (.int .i64 1) (.int .i64 t) (.string src) (.string abt) (.slice (some ⟨w1.heap.size, 0, none⟩) 4 4) (.int .i64 (-1)) (.int .i64 700)
      obtain ⟨v0, v1, v2, v3, v4, v5, v6⟩ := rep_cells s9
      have HSQ : Hid _ := Lib.hid ((k9 w1.heap.size (by have := (Array.getElem?_eq_some_iff.1 HRE.out).1; omega)).trans hsq)
      have HBF : Hid _ := Lib.hid (b9 n w (by omega) (HBE.out.trans (hb6.mono (by have := (Array.getElem?_eq_some_iff.1 HSI.out).1; omega))))
      clear k9 b9 hsq hre hb6 hb5 hq2 hb2 hW2 s9 HIT y0 hnl x0 x1 x2 x3 x4
      go_wp2
      exact bodyPost_ret (v := .tuple #[repA 1 t src abt (.slice (some ⟨w1.heap.size, 0, none⟩) 4 4) (-1) 700, .int .i64 0]) (by simp [results, Tryz.results12, go_sem, v0, v1, v2, v3, v4, v5, v6]) rfl ⟨_, by rw [HTR.out], by rw [hxx, hyy]; exact HSQ.out, below_at HBF.out HNN.out⟩
    · have HTR : Hid (trustZ b = 300) := Lib.hid (by unfold trustZ; rw [if_neg hb0, if_neg hb1])
      go_wp2_with fail
      obtain ⟨W2, hW2⟩ : ∃ W2, W2 = (w1.drewN nq).alloc (sqO xx yy) := ⟨_, rfl⟩
      rw [← hW2]
      have hb2 : Below w1.heap.size w1 W2 := by rw [hW2]; exact (below_draws' w1 nq).trans (new_below (w1.drewN nq) _)
      have hq2 : W2.heap[w1.heap.size]? = some (sqO xx yy) := by rw [hW2]; exact heap_alloc_new (w1.drewN nq) _
      refine (HIT.out W2).mono ?_
      rintro e w5 ⟨rfl, hb5⟩
      have hb6 := below_chain hb2 hb5
      have hre := stay HRE.out hb6
      have hsq := stay hq2 hb5
      obtain ⟨g0, g1, g2, g3, g4, g5, g6⟩ := rep_cells hre
      obtain ⟨z0, z1, z2, z3, z4, z5, z6⟩ := rep_free hre
      obtain ⟨s9, k9, b9⟩ := seven_set hre (.int .i64 1) (.int .i64 t) (.string src) (.string abt) (.slice (some ⟨w1.heap.size, 0, none⟩) 4 4) (.int .i64 (-1)) (.int .i64 300)
      obtain ⟨v0, v1, v2, v3, v4, v5, v6⟩ := rep_cells s9
      have HSQ : Hid _ := Lib.hid ((k9 w1.heap.size (by have := (Array.getElem?_eq_some_iff.1 HRE.out).1; omega)).trans hsq)
      have HBF : Hid _ := Lib.hid (b9 n w (by omega) (HBE.out.trans (hb6.mono (by have := (Array.getElem?_eq_some_iff.1 HSI.out).1; omega))))
      clear k9 b9 hsq hre hb6 hb5 hq2 hb2 hW2 s9 HIT y0 hnl x0 x1 x2 x3 x4
      go_wp2
      exact bodyPost_ret (v := .tuple #[repA 1 t src abt (.slice (some ⟨w1.heap.size, 0, none⟩) 4 4) (-1) 300, .int .i64 0]) (by simp [results, Tryz.results12, go_sem, v0, v1, v2, v3, v4, v5, v6]) rfl ⟨_, by rw [HTR.out], by rw [hxx, hyy]; exact HSQ.out, below_at HBF.out HNN.out⟩
end Go.Proofs.YtbfleemflhlfbaaGreatDoor
