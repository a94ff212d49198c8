/- Read, where there is a report. -/
import Derived.Test.YtbfleemflhlfbaaGreatDoorRpSgBad
import Derived.Test.YtbfleemflhlfbaaGreatDoorRpTake
import Derived.Deep.DeepCutAuto
namespace Go.Proofs.YtbfleemflhlfbaaGreatDoor
open Go.RowKit

set_option maxRecDepth 100000 in
set_option maxHeartbeats 4000000 in
theorem Read_ok (N : Nat) (x y b f t : Int) (src : ByteArray) (w : World) (hsz : src.size ≤ 9223372036854775807) (hs : sigB N x y b f = true) (hb : (inB t 0 1073741824 && nameL src.data.toList) = true) (htab : Tab w) :
    Calls Tryz.prog 11 #[sigA N x y b f, .int .i64 t, .string src] w fun e w' => ∃ g, e = .returned (.tuple #[repA 1 t src ((⟨#[98]⟩ : ByteArray) ++ ⟨(Lib.decDigits N).toArray⟩) (.slice (some ⟨g, 0, none⟩) 4 4) (-1) (trustZ b), .int .i64 0]) ∧ w'.heap[g]? = some (sqO (1024 * x) (1024 * y)) ∧ Below w.heap.size w w' := by
  have HSG : Hid (∀ W, Calls Tryz.prog 29 #[sigA N x y b f] W fun e w' => e = .returned (.bool true) ∧ Below W.heap.size W w') := Lib.hid fun W => by have := isSignal_any N x y b f W; rwa [hs] at this
  rw [Bool.and_eq_true] at hb
  have HT : Hid (∀ W, Calls Tryz.prog 30 #[.int .i64 t] W fun e w' => e = .returned (.bool true) ∧ W = w') := Lib.hid fun W => by have := isTime_any t W; rwa [hb.1] at this
  have HN : Hid (∀ W, Calls Tryz.prog 31 #[.string src] W fun e w' => e = .returned (.bool true) ∧ W = w') := Lib.hid fun W => by have := isName_any src W hsz; rwa [hb.2] at this
  unfold sigB at hs
  rw [Bool.and_eq_true, Bool.and_eq_true, Bool.and_eq_true, Bool.and_eq_true, inB_true, inB_true, inB_true, inB_true, inB_true] at hs
  obtain ⟨h1, h2, h3, h4, h5⟩ := hs
  have hN : N < 4611686018427387904 := by omega
  have hdl : (Lib.decDigits N).length ≤ 20 := by rw [Lib.decDigits_length]; exact Lib.nDigits_le20 N (by omega)
  obtain ⟨dg, hdg⟩ : ∃ dg : ByteArray, dg = ⟨(Lib.decDigits N).toArray⟩ := ⟨_, rfl⟩
  have hdgs : dg.size ≤ 20 := by rw [hdg]; exact hdl
  rw [← hdg]
  obtain ⟨abt, hcat⟩ : ∃ abt, (⟨#[98]⟩ : ByteArray) ++ dg = abt := ⟨_, rfl⟩
  rw [hcat]
  have HIT : Hid (∀ W, Tab W → Calls Tryz.prog 32 #[.int .i64 N] W fun e w' => e = .returned (.string dg) ∧ Below W.heap.size W w') := Lib.hid fun W h => by rw [hdg]; exact itoa_any N hN W h
  have HTAB := Lib.hid htab
  obtain ⟨W, hW⟩ : ∃ W, W = (w.alloc (sigO N x y b f)).alloc repNo := ⟨_, rfl⟩
  have HR : Hid (Reads w W N x y b f) := Lib.hid (by rw [hW]; exact ⟨(laidR w N x y b f).1, (laidR w N x y b f).2.1, (laidR w N x y b f).2.2⟩)
  have HW := Lib.hid hW
  clear hW hb hdl hN hdg h1 h4 h5 htab
  obtain ⟨h2, h2'⟩ := h2; obtain ⟨h3, h3'⟩ := h3
  go_enter Tryz.func11, Tryz.ntmps11
  go_wp2_with fail
  rw [← HW.out]
  refine (HSG.out W).mono ?_
  rintro e w1 ⟨rfl, hb1⟩
  have HR1 := Lib.hid (HR.out.next hb1)
  obtain ⟨n, hn⟩ : ∃ n, n = w.heap.size := ⟨_, rfl⟩
  have HNN := Lib.hid hn
  have HSI : Hid (w1.heap[n]? = some (sigO N x y b f)) := Lib.hid (by rw [hn]; exact HR1.out.sig)
  have HRE : Hid (w1.heap[n + 1]? = some repNo) := Lib.hid (by rw [hn]; exact HR1.out.res)
  have HBE : Hid (Below n w w1) := Lib.hid (by rw [hn]; exact HR1.out.below)
  rw [← hn]
  clear hb1 HR HSG HW hn HR1
  go_upto_region 5 with (first | (go_at_call 30; (with_reducible refine (HT.out _).mono ?_); rintro e w' ⟨rfl, rfl⟩) | (go_at_call 31; (with_reducible refine (HN.out _).mono ?_); rintro e w' ⟨rfl, rfl⟩))
  clear HT HN
  have HTB : Hid (∀ w', Below w1.heap.size w1 w' → Tab w') := Lib.hid fun w' h => HTAB.out.below ((by rw [HNN.out] at HBE; exact HBE.out : Below w.heap.size w w1).trans (h.mono (by have := (Array.getElem?_eq_some_iff.1 HSI.out).1; have := HNN.out; omega)))
  have HS : Hid (∀ w', Below w1.heap.size w1 w' → (w'.cell? ⟨n, 0, none⟩ = some (.int .i64 N) ∧ w'.cell? ⟨n, 1, none⟩ = some (.int .i64 x) ∧ w'.cell? ⟨n, 2, none⟩ = some (.int .i64 y) ∧ w'.cell? ⟨n, 3, none⟩ = some (.int .i64 b))) := Lib.hid fun w' h =>
    ⟨(sig_cells (stay HSI.out h)).1, (sig_cells (stay HSI.out h)).2.1, (sig_cells (stay HSI.out h)).2.2.1, (sig_cells (stay HSI.out h)).2.2.2.1⟩
  have hd1 : 1 + dg.size ≤ 9223372036854775807 := by omega
  have wx : IntKind.i64.wrap (1024 * x) = 1024 * x := IntWalk.i64_in _ (by omega)
  have wy : IntKind.i64.wrap (1024 * y) = 1024 * y := IntWalk.i64_in _ (by omega)
  have hB4 := (Below.refl w1.heap.size w1).drew
  refine wp_region_held_drew (S := (fun w' => w'.cell? ⟨n, 0, none⟩ = some (.int .i64 N) ∧ w'.cell? ⟨n, 1, none⟩ = some (.int .i64 x) ∧ w'.cell? ⟨n, 2, none⟩ = some (.int .i64 y) ∧ w'.cell? ⟨n, 3, none⟩ = some (.int .i64 b))) (by kernel_rfl) (HS.out _ hB4) (fun hHeld => ?_)
  refine takeH (i := 0) (n := 23) (v := .int .i64 t) rfl rfl (by kernel_rfl) (by kernel_rfl) (by kernel_rfl) (fun _ _ _ h => h) (Or.inl ⟨by kernel_rfl, ?_⟩) (by assumption) ?_
  · intro w hSw; (try dsimp only at hSw); go_simp
  try simp only [Act.put, List.setIfInBounds_toArray, List.set_cons_zero, List.set_cons_succ]
  refine takeH (i := 1) (n := 24) (v := .string src) rfl rfl (by kernel_rfl) (by kernel_rfl) (by kernel_rfl) (fun _ _ _ h => h) (Or.inl ⟨by kernel_rfl, ?_⟩) (by assumption) ?_
  · intro w hSw; (try dsimp only at hSw); go_simp
  try simp only [Act.put, List.setIfInBounds_toArray, List.set_cons_zero, List.set_cons_succ]
  refine takeH (i := 2) (n := 25) (v := .pointer (some ⟨n, 0, none⟩)) rfl rfl (by kernel_rfl) (by kernel_rfl) (by kernel_rfl) (fun _ _ _ h => h) (Or.inl ⟨by kernel_rfl, ?_⟩) (by assumption) ?_
  · intro w hSw; (try dsimp only at hSw); go_simp
  try simp only [Act.put, List.setIfInBounds_toArray, List.set_cons_zero, List.set_cons_succ]
  refine takeH (i := 3) (n := 26) (v := .int .i64 N) rfl rfl (by kernel_rfl) (by kernel_rfl) (by kernel_rfl) (fun _ _ _ h => h) (Or.inl ⟨by kernel_rfl, ?_⟩) (by assumption) ?_
  · intro w hSw; (try dsimp only at hSw); go_simp
  try simp only [Act.put, List.setIfInBounds_toArray, List.set_cons_zero, List.set_cons_succ]
  refine takeH (i := 6) (n := 29) (v := .pointer (some ⟨n, 1, none⟩)) rfl rfl (by kernel_rfl) (by kernel_rfl) (by kernel_rfl) (fun _ _ _ h => h) (Or.inl ⟨by kernel_rfl, ?_⟩) (by assumption) ?_
  · intro w hSw; (try dsimp only at hSw); go_simp
  try simp only [Act.put, List.setIfInBounds_toArray, List.set_cons_zero, List.set_cons_succ]
  refine takeH (i := 7) (n := 30) (v := .int .i64 x) rfl rfl (by kernel_rfl) (by kernel_rfl) (by kernel_rfl) (fun _ _ _ h => h) (Or.inl ⟨by kernel_rfl, ?_⟩) (by assumption) ?_
  · intro w hSw; (try dsimp only at hSw); go_simp
  try simp only [Act.put, List.setIfInBounds_toArray, List.set_cons_zero, List.set_cons_succ]
  refine takeH (i := 8) (n := 31) (v := .int .i64 (1024 * x)) rfl rfl (by kernel_rfl) (by kernel_rfl) (by kernel_rfl) (fun _ _ _ h => h) (Or.inl ⟨by kernel_rfl, ?_⟩) (by assumption) ?_
  · intro w hSw; (try dsimp only at hSw); go_simp
  try simp only [Act.put, List.setIfInBounds_toArray, List.set_cons_zero, List.set_cons_succ]
  refine takeH (i := 9) (n := 32) (v := .pointer (some ⟨n, 2, none⟩)) rfl rfl (by kernel_rfl) (by kernel_rfl) (by kernel_rfl) (fun _ _ _ h => h) (Or.inl ⟨by kernel_rfl, ?_⟩) (by assumption) ?_
  · intro w hSw; (try dsimp only at hSw); go_simp
  try simp only [Act.put, List.setIfInBounds_toArray, List.set_cons_zero, List.set_cons_succ]
  refine takeH (i := 10) (n := 33) (v := .int .i64 y) rfl rfl (by kernel_rfl) (by kernel_rfl) (by kernel_rfl) (fun _ _ _ h => h) (Or.inl ⟨by kernel_rfl, ?_⟩) (by assumption) ?_
  · intro w hSw; (try dsimp only at hSw); go_simp
  try simp only [Act.put, List.setIfInBounds_toArray, List.set_cons_zero, List.set_cons_succ]
  refine takeH (i := 11) (n := 34) (v := .int .i64 (1024 * y)) rfl rfl (by kernel_rfl) (by kernel_rfl) (by kernel_rfl) (fun _ _ _ h => h) (Or.inl ⟨by kernel_rfl, ?_⟩) (by assumption) ?_
  · intro w hSw; (try dsimp only at hSw); go_simp
  try simp only [Act.put, List.setIfInBounds_toArray, List.set_cons_zero, List.set_cons_succ]
  refine takeH (i := 12) (n := 35) (v := .agg #[.int .i64 (1024 * x), .int .i64 (1024 * y)]) rfl rfl (by kernel_rfl) (by kernel_rfl) (by kernel_rfl) (fun _ _ _ h => h) (Or.inl ⟨by kernel_rfl, ?_⟩) (by assumption) ?_
  · intro w hSw; (try dsimp only at hSw); go_simp
  try simp only [Act.put, List.setIfInBounds_toArray, List.set_cons_zero, List.set_cons_succ]
  refine takeH (i := 14) (n := 37) (v := .pointer (some ⟨n, 3, none⟩)) rfl rfl (by kernel_rfl) (by kernel_rfl) (by kernel_rfl) (fun _ _ _ h => h) (Or.inl ⟨by kernel_rfl, ?_⟩) (by assumption) ?_
  · intro w hSw; (try dsimp only at hSw); go_simp
  try simp only [Act.put, List.setIfInBounds_toArray, List.set_cons_zero, List.set_cons_succ]
  refine takeH (i := 15) (n := 38) (v := .int .i64 b) rfl rfl (by kernel_rfl) (by kernel_rfl) (by kernel_rfl) (fun _ _ _ h => h) (Or.inl ⟨by kernel_rfl, ?_⟩) (by assumption) ?_
  · intro w hSw; (try dsimp only at hSw); go_simp
  try simp only [Act.put, List.setIfInBounds_toArray, List.set_cons_zero, List.set_cons_succ]
  refine wpAnyH_ready (rs := [4]) (by kernel_rfl) (by simp) ?_
  refine AllReadyH.cons rfl (fun K hK => ?_) AllReadyH.nil
  try rw [if_pos (by kernel_rfl)]
  try go_simp
  go_at_call 32
  refine (HIT.out _ (HTB.out _ hB4)).mono ?_
  rintro e w5 ⟨rfl, hb⟩
  have hB5 := below_chain (W := w1) hB4 hb
  refine hK.out _ _ (HS.out _ hB5) (fun hHeld => ?_)
  clear hK K
  try simp only [Act.put, List.getElem_toArray, List.getElem_cons_succ, List.getElem_cons_zero, List.setIfInBounds_toArray, List.set_cons_zero, List.set_cons_succ]
  refine takeH (i := 5) (n := 28) (v := .string abt) rfl rfl (by kernel_rfl) (by kernel_rfl) (by kernel_rfl) (fun _ _ _ h => h) (Or.inl ⟨by kernel_rfl, ?_⟩) (by assumption) ?_
  · intro w hSw; (try dsimp only at hSw); go_simp
  try simp only [Act.put, List.setIfInBounds_toArray, List.set_cons_zero, List.set_cons_succ]
  refine wpAnyH_ready (rs := [13]) (by kernel_rfl) (by simp) ?_
  refine AllReadyH.cons rfl (fun K hK => ?_) AllReadyH.nil
  try rw [if_pos (by kernel_rfl)]
  try go_simp
  go_at_call 33
  refine (square_any (1024 * x) (1024 * y) (by omega) (by omega) _).mono ?_
  rintro e w6 ⟨g, rfl, hg, hsq, hb⟩
  have hB6 := below_chain (W := w1) hB5 hb
  refine hK.out _ _ (HS.out _ hB6) (fun hHeld => ?_)
  clear hK K
  try simp only [Act.put, List.getElem_toArray, List.getElem_cons_succ, List.getElem_cons_zero, List.setIfInBounds_toArray, List.set_cons_zero, List.set_cons_succ]
  refine wpAnyH_ready (rs := [16]) (by kernel_rfl) (by simp) ?_
  refine AllReadyH.cons rfl (fun K hK => ?_) AllReadyH.nil
  try rw [if_pos (by kernel_rfl)]
  try go_simp
  go_at_call 34
  refine (trustBy_any b _).mono ?_
  rintro e w7 ⟨rfl, rfl⟩
  refine hK.out _ _ (HS.out _ hB6) (fun hHeld => ?_)
  clear hK K
  try simp only [Act.put, List.getElem_toArray, List.getElem_cons_succ, List.getElem_cons_zero, List.setIfInBounds_toArray, List.set_cons_zero, List.set_cons_succ]
  refine takeH (i := 17) (n := 40) (v := repA 1 t src abt (.slice (some ⟨g, 0, none⟩) 4 4) (-1) (trustZ b)) rfl rfl (by kernel_rfl) (by kernel_rfl) (by kernel_rfl) (fun _ _ _ h => h) (Or.inl ⟨by kernel_rfl, ?_⟩) (by assumption) ?_
  · intro w hSw; (try dsimp only at hSw); go_simp
  try simp only [Act.put, List.setIfInBounds_toArray, List.set_cons_zero, List.set_cons_succ]
  refine wpAnyH_ready (rs := [18]) (by kernel_rfl) (by simp) ?_
  refine AllReadyH.cons rfl (fun K hK => ?_) AllReadyH.nil
  try rw [if_pos (by kernel_rfl)]
  have hre := stay HRE.out hB6
  obtain ⟨g0, g1, g2, g3, g4, g5, g6⟩ := rep_cells hre
  obtain ⟨z0, z1, z2, z3, z4, z5, z6⟩ := rep_free hre
  try go_simp
  obtain ⟨s9, k9, b9⟩ := seven_set hre (.int .i64 1) (.int .i64 t) (.string src) (.string abt) (.slice (some ⟨g, 0, none⟩) 4 4) (.int .i64 (-1)) (.int .i64 (trustZ b))
  have hgn : g ≠ n + 1 := by have := (Array.getElem?_eq_some_iff.1 HRE.out).1; have := hB5.size; omega
  have hsg9 := (k9 n (by omega)).trans (stay HSI.out hB6)
  refine hK.out _ _ ⟨(sig_cells hsg9).1, (sig_cells hsg9).2.1, (sig_cells hsg9).2.2.1, (sig_cells hsg9).2.2.2.1⟩ (fun hHeld => ?_)
  clear hK K g0 g1 g2 g3 g4 g5 g6 z0 z1 z2 z3 z4 z5 z6
  try simp only [Act.put, List.getElem_toArray, List.getElem_cons_succ, List.getElem_cons_zero, List.setIfInBounds_toArray, List.set_cons_zero, List.set_cons_succ]
  refine takeH (i := 19) (n := 7) (v := .int .i64 0) rfl rfl (by kernel_rfl) (by kernel_rfl) (by kernel_rfl) (fun _ _ _ h => h) (Or.inl ⟨by kernel_rfl, ?_⟩) (by assumption) ?_
  · intro w hSw; (try dsimp only at hSw); go_simp
  try simp only [Act.put, List.setIfInBounds_toArray, List.set_cons_zero, List.set_cons_succ]
  refine wpAnyH_done (by kernel_rfl) ?_ _
  have hsq9 := (k9 g hgn).trans hsq
  have HBF := b9 n w (by omega) (HBE.out.trans (hB6.mono (by have := (Array.getElem?_eq_some_iff.1 HSI.out).1; omega)))
  obtain ⟨v0, v1, v2, v3, v4, v5, v6⟩ := rep_cells s9
  clear hHeld wx wy hd1 hcat
  have HSQ := Lib.hid hsq9; have HBF2 := Lib.hid HBF
  clear hsq9 HBF hsq hg hb hB4 hB5 hB6 k9 b9 hre hsg9 hgn
  go_wp2
  exact bodyPost_ret (v := .tuple #[repA 1 t src abt (.slice (some ⟨g, 0, none⟩) 4 4) (-1) (trustZ b), .int .i64 0]) (by simp [results, Tryz.results11, go_sem, v0, v1, v2, v3, v4, v5, v6]) rfl ⟨g, rfl, HSQ.out, below_at HBF2.out HNN.out⟩
end Go.Proofs.YtbfleemflhlfbaaGreatDoor
