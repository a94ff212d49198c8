/- What the tied rows of layer 8 share. TracksLays: whatever the arguments are, the law answers true. No condition of its own; the row lists package-level variables, tied by the card to the program's text. TracksRings: whatever the arguments are, the law answers true. No condition of its own; the row lists package-level variables, tied by the card to the program's text. -/
import Derived.SevenTiedAt
import Derived.OpenShut
import Derived.LaidMore
import Derived.LaidSub
import Derived.Lay
import Derived.Shelf.Vars
import Derived.ReadAgain
import Derived.Stop.Joined
import Derived.Lib.SmallJoins
import Derived.Test.YtkhffloahpdbdaaDoorTie
import Derived.Test.YtkhffloahpdbdaaDoorCards
import Derived.Test.YtkhffloahpdbdaaDoorPa10
import Derived.Test.YtkhffloahpdbdaaDoorPa11
import Derived.Test.YtkhffloahpdbdaaDoorPa13
import Derived.Test.YtkhffloahpdbdaaDoorPa14
section
namespace Go.Proofs.YtkhffloahpdbdaaDoor.Tk
open Go Go.Proofs.YtkhffloahpdbdaaDoor.Sx Go.RowKit
def U2 : Tb := { tab := fun g h k m => UTab g h k m ∧ m = mF, J := TabsAt tbD }
theorem tabs_stable (tb : List (Nat × List (IntKind × Int))) : Stable (TabsAt tb) := fun w w' h hb p hp => by
  obtain ⟨t, fr, e⟩ := h p hp
  have hl : p.1 < w.heap.size := (Array.getElem?_eq_some_iff.1 e).1
  exact ⟨t, fr, by rw [hb.block _ hl]; exact e⟩
theorem fit2_U2 : Fit2 U2 := ⟨fun h => h, fun _ h => h, tabs_stable _⟩
theorem tabs2 (sl : List Sl) : U2.tab (envSl gF hF noK mF sl).g (envSl gF hF noK mF sl).h (envSl gF hF noK mF sl).k (envSl gF hF noK mF sl).m := ⟨⟨rfl, rfl⟩, rfl⟩
end Go.Proofs.YtkhffloahpdbdaaDoor.Tk
end
section
namespace Go.Proofs.YtkhffloahpdbdaaDoor.Tk
open Go Go.Proofs.YtkhffloahpdbdaaDoor.Sx Go.RowKit Go.ChangeShapes Go.WideShapes Go.ChangeAt

set_option maxRecDepth 100000 in
theorem tracksLays_lifted (os : Os) (started : os.Started) (H : Type) (enc : TypeId × Value → H) :
    ReturnsInHanded {} Tryd.checked os 3 .any (fun w args => (Rows.tracksLaysSpec.pre enc Tryd.prog Tryd.f3 [] false w args ∧ laidMetH Tryd.prog Rows.tracksLaysRow.laid w) ∧ sizedMet enc Tryd.prog Tryd.f3 (OpenSpec.ofChange Rows.tracksLaysSpec) false w args)
      (Rows.tracksLaysSpec.post enc Tryd.prog Tryd.f3 false true false false) := by
  refine returnsInHanded_of_calls (C := Tryd.checked) own started (by kernel_rfl)
    (ChangeSpec.witness_shaped (enc := enc) (C := Tryd.checked) (os := os) (X := fun w _ => laidMetH Tryd.prog Rows.tracksLaysRow.laid w) false (World.laidAll Tryd.prog os Rows.tracksLaysRow.laid) #[.agg #[.int .i64 0, .int .i64 0], .agg #[.int .i64 0, .int .i64 0], .int .i64 0, .int .i64 0, .int .i64 0] 8 (World.laidAll_os _ _ _)
      (World.shaped_of_ZipB (by kernel_rfl) (by kernel_rfl)) (by kernel_rfl) (by kernel_rfl) (by kernel_rfl)
      (by rw [MakeChecks.laidMetH_plain _ _ _ (by kernel_rfl)]; exact laidMet_laidAll _ (by kernel_rfl) (by kernel_rfl))) ?_
  intro w tape i _ hsh _ hok hpre _
  obtain ⟨_, _, _, fn', hfn', _, _, _, _, hval0⟩ := hok
  obtain rfl : fn' = Tryd.f3 := Option.some.inj (hfn'.symm.trans Tryd.func3)
  obtain ⟨⟨⟨ds, gs, before, hw, _⟩, hL⟩, _⟩ := hpre
  have hW := DataW.Whole.of_heap (w' := w.forCall tape i) (by rfl) hw
  have hL' : laidMetH Tryd.prog Rows.tracksLaysRow.laid (w.forCall tape i) := hL.of_heap (by rfl)
  refine Calls.mono (R := fun e W' => ∃ v, e = .returned v ∧ Rows.tracksLaysSpec.post enc Tryd.prog Tryd.f3 false true false false (w.forCall tape i) i.args v W') ?_ (fun e W' ⟨v, he, hp⟩ => by subst he; exact ChangeSpec.post_blind hp)
  generalize w.forCall tape i = W at hsh hW hL' hval0 ⊢
  generalize i.args = args at hW hval0 ⊢
  have hval : ∀ (j : Nat) t v, Tryd.f3.params[j]? = some t → args[j]? = some v → Value.okWide Tryd.prog W .any w.heap.size t v := hval0
  have hW' := hW
  obtain ⟨p, q, hA0, hV, rfl, hfz, hnd⟩ := hW
  have hA : DataW.TrodAll enc Tryd.prog W 0 (fun _ => true) true Tryd.f3.params.toList args.toList ds p := hA0
  rw [Tryd.params3] at hA hval
  obtain ⟨v0, v1, v2, v3, v4, d0, d1, d2, d3, d4, p0, p1, p2, p3, p4, rfl, rfl, rfl, h0, h1, h2, h3, h4⟩ := trodAll_five hA
  obtain ⟨rfl, rfl⟩ := trodVars_none hV
  obtain ⟨s0, o0⟩ := opn_agg (n := 4) (ks := [.i .i64, .i .i64]) (by kernel_rfl) (by kernel_rfl) (hval 0 23 v0 rfl rfl) h0
  obtain ⟨s1, o1⟩ := opn_agg (n := 4) (ks := [.i .i64, .i .i64]) (by kernel_rfl) (by kernel_rfl) (hval 1 23 v1 rfl rfl) h1
  obtain ⟨a2, rfl, rfl, rfl, w2⟩ := open_int Tryd.underlying3 (hval 2 3 v2 rfl rfl) h2
  have o2 : Opn W (.one (.sc (.i .i64))) (.int .i64 a2) _ := Opn.one (k := .i .i64) (x := (a2, ⟨#[]⟩)) w2
  obtain ⟨a3, rfl, rfl, rfl, w3⟩ := open_int Tryd.underlying3 (hval 3 3 v3 rfl rfl) h3
  have o3 : Opn W (.one (.sc (.i .i64))) (.int .i64 a3) _ := Opn.one (k := .i .i64) (x := (a3, ⟨#[]⟩)) w3
  obtain ⟨a4, rfl, rfl, rfl, w4⟩ := open_int Tryd.underlying3 (hval 4 3 v4 rfl rfl) h4
  have o4 : Opn W (.one (.sc (.i .i64))) (.int .i64 a4) _ := Opn.one (k := .i .i64) (x := (a4, ⟨#[]⟩)) w4
  have hE := tabs_of (tb := tbD) (by kernel_rfl) (by kernel_rfl) hL'
  obtain ⟨ea, hR, hw⟩ := Opns.top (aks := layK) (.cons o0 (.cons o1 (.cons o2 (.cons o3 (.cons o4 .nil))))) gF Tk.hF noK mF
  have law := lays_at fit2_U2 _ W  (tabs2 _) hR hE
  rw [ea] at law
  refine law.mono fun e W' ⟨he, hb⟩ => ?_
  subst he
  have b0 := Below.trod laidOut (by kernel_rfl) (of_decide_eq_true (by kernel_rfl)) h0 hb (fun x hx => hW'.lt x (by simp [hx]))
  have b1 := Below.trod laidOut (by kernel_rfl) (of_decide_eq_true (by kernel_rfl)) h1 hb (fun x hx => hW'.lt x (by simp [hx]))
  exact ⟨_, rfl, _, _, _, [], _, [], hW', trodAll_mk1 (shut_bool Tryd.underlying4 _), trodAll_mk5 b0 b1 (shut_int Tryd.underlying3 w2) (shut_int Tryd.underlying3 w3) (shut_int Tryd.underlying3 w4), rfl, hb.frame _, fun h => by cases h⟩

theorem tracksLays_said : Rows.TracksLaysSaid :=
  OpenClaim.holds_of_wide 3 Tryd.f3 rfl rfl rfl rfl rfl rfl rfl ⟨rfl, rfl, rfl, rfl, rfl⟩ rfl rfl rfl rfl rfl (by kernel_rfl) Tryd.func3 (by kernel_rfl)
    (of_decide_eq_true (by kernel_rfl)) (by unfold Func.isWrapper; first | (rw [if_pos (by decide +kernel)]; kernel_rfl) | (rw [if_neg (by decide +kernel)]; exact ⟨rfl, rfl⟩))
    (fun os started H enc _ => tracksLays_lifted os started H enc)

set_option maxRecDepth 100000 in
theorem tracksLays_holds : Rows.TracksLaysCardSaid :=
  Claim7.holds_tied_plain_at .later [] [.data, .data] true Rows.tracksLaysCard.stood.harness false tracksLays_said (fun _ h => by cases h) (by kernel_rfl) (fun _ h => by cases h) tracksLays_row_tie rfl ⟨rfl, rfl⟩ (by kernel_rfl) rfl
    (fun f fn hf hfn => by
      obtain rfl : f = 3 := Option.some.inj ((show Tryd.prog.funcNamed "cresset/cressetlaw08.TracksLays" = some 3 by kernel_rfl).symm.trans hf) |>.symm
      obtain rfl : fn = Tryd.f3 := (Option.some.inj (Tryd.func3.symm.trans hfn)).symm
      exact ⟨by kernel_rfl, fun j t ht => by
        rw [Tryd.params3] at ht
        have hm : t ∈ [23, 23, 3, 3, 3] := by simpa using Array.mem_of_getElem? ht
        have hall : ([23, 23, 3, 3, 3].all fun u => !Tryd.prog.wantsStandIn u) = true := by kernel_rfl
        exact (show Tryd.prog.wantsStandIn t = false by simpa using List.all_eq_true.1 hall t hm)⟩)
    (by kernel_rfl)
#print axioms tracksLays_holds
end Go.Proofs.YtkhffloahpdbdaaDoor.Tk
end
section
namespace Go.Proofs.YtkhffloahpdbdaaDoor.Tk
open Go Go.Proofs.YtkhffloahpdbdaaDoor.Sx Go.RowKit Go.ChangeShapes Go.WideShapes Go.ChangeAt

set_option maxRecDepth 100000 in
theorem tracksRings_lifted (os : Os) (started : os.Started) (H : Type) (enc : TypeId × Value → H) :
    ReturnsInHanded {} Tryd.checked os 4 .any (fun w args => (Rows.tracksRingsSpec.pre enc Tryd.prog Tryd.f4 [] false w args ∧ laidMetH Tryd.prog Rows.tracksRingsRow.laid w) ∧ sizedMet enc Tryd.prog Tryd.f4 (OpenSpec.ofChange Rows.tracksRingsSpec) false w args)
      (Rows.tracksRingsSpec.post enc Tryd.prog Tryd.f4 false true false false) := by
  refine returnsInHanded_of_calls (C := Tryd.checked) own started (by kernel_rfl)
    (ChangeSpec.witness_shaped (enc := enc) (C := Tryd.checked) (os := os) (X := fun w _ => laidMetH Tryd.prog Rows.tracksRingsRow.laid w) false (World.laidAll Tryd.prog os Rows.tracksRingsRow.laid) #[.agg #[.int .i64 0, .int .i64 0], .int .i64 0, .int .u8 0, .int .u8 0, .agg #[.int .u32 0, .int .u32 0]] 8 (World.laidAll_os _ _ _)
      (World.shaped_of_ZipB (by kernel_rfl) (by kernel_rfl)) (by kernel_rfl) (by kernel_rfl) (by kernel_rfl)
      (by rw [MakeChecks.laidMetH_plain _ _ _ (by kernel_rfl)]; exact laidMet_laidAll _ (by kernel_rfl) (by kernel_rfl))) ?_
  intro w tape i _ hsh _ hok hpre _
  obtain ⟨_, _, _, fn', hfn', _, _, _, _, hval0⟩ := hok
  obtain rfl : fn' = Tryd.f4 := Option.some.inj (hfn'.symm.trans Tryd.func4)
  obtain ⟨⟨⟨ds, gs, before, hw, _⟩, hL⟩, _⟩ := hpre
  have hW := DataW.Whole.of_heap (w' := w.forCall tape i) (by rfl) hw
  have hL' : laidMetH Tryd.prog Rows.tracksRingsRow.laid (w.forCall tape i) := hL.of_heap (by rfl)
  refine Calls.mono (R := fun e W' => ∃ v, e = .returned v ∧ Rows.tracksRingsSpec.post enc Tryd.prog Tryd.f4 false true false false (w.forCall tape i) i.args v W') ?_ (fun e W' ⟨v, he, hp⟩ => by subst he; exact ChangeSpec.post_blind hp)
  generalize w.forCall tape i = W at hsh hW hL' hval0 ⊢
  generalize i.args = args at hW hval0 ⊢
  have hval : ∀ (j : Nat) t v, Tryd.f4.params[j]? = some t → args[j]? = some v → Value.okWide Tryd.prog W .any w.heap.size t v := hval0
  have hW' := hW
  obtain ⟨p, q, hA0, hV, rfl, hfz, hnd⟩ := hW
  have hA : DataW.TrodAll enc Tryd.prog W 0 (fun _ => true) true Tryd.f4.params.toList args.toList ds p := hA0
  rw [Tryd.params4] at hA hval
  obtain ⟨v0, v1, v2, v3, v4, d0, d1, d2, d3, d4, p0, p1, p2, p3, p4, rfl, rfl, rfl, h0, h1, h2, h3, h4⟩ := trodAll_five hA
  obtain ⟨rfl, rfl⟩ := trodVars_none hV
  obtain ⟨s0, o0⟩ := opn_agg (n := 4) (ks := [.i .i64, .i .i64]) (by kernel_rfl) (by kernel_rfl) (hval 0 23 v0 rfl rfl) h0
  obtain ⟨a1, rfl, rfl, rfl, w1⟩ := open_int Tryd.underlying3 (hval 1 3 v1 rfl rfl) h1
  have o1 : Opn W (.one (.sc (.i .i64))) (.int .i64 a1) _ := Opn.one (k := .i .i64) (x := (a1, ⟨#[]⟩)) w1
  obtain ⟨a2, rfl, rfl, rfl, w2⟩ := open_int Tryd.underlying5 (hval 2 5 v2 rfl rfl) h2
  have o2 : Opn W (.one (.sc (.i .u8))) (.int .u8 a2) _ := Opn.one (k := .i .u8) (x := (a2, ⟨#[]⟩)) w2
  obtain ⟨a3, rfl, rfl, rfl, w3⟩ := open_int Tryd.underlying5 (hval 3 5 v3 rfl rfl) h3
  have o3 : Opn W (.one (.sc (.i .u8))) (.int .u8 a3) _ := Opn.one (k := .i .u8) (x := (a3, ⟨#[]⟩)) w3
  obtain ⟨s4, o4⟩ := opn_agg (n := 4) (ks := [.i .u32, .i .u32]) (by kernel_rfl) (by kernel_rfl) (hval 4 36 v4 rfl rfl) h4
  have hE := tabs_of (tb := tbD) (by kernel_rfl) (by kernel_rfl) hL'
  obtain ⟨ea, hR, hw⟩ := Opns.top (aks := ringK) (.cons o0 (.cons o1 (.cons o2 (.cons o3 (.cons o4 .nil))))) gF Tk.hF noK mF
  have law := rings_at fit2_U2 _ W (ringF_of (wf_u8 hw (j := 3) rfl) (wf_u8 hw (j := 4) rfl) (wf_u32 hw (j := 5) rfl) (wf_u32 hw (j := 6) rfl)) (tabs2 _) hR hE
  rw [ea] at law
  refine law.mono fun e W' ⟨he, hb⟩ => ?_
  subst he
  have b0 := Below.trod laidOut (by kernel_rfl) (of_decide_eq_true (by kernel_rfl)) h0 hb (fun x hx => hW'.lt x (by simp [hx]))
  have b4 := Below.trod laidOut (by kernel_rfl) (of_decide_eq_true (by kernel_rfl)) h4 hb (fun x hx => hW'.lt x (by simp [hx]))
  exact ⟨_, rfl, _, _, _, [], _, [], hW', trodAll_mk1 (shut_bool Tryd.underlying4 _), trodAll_mk5 b0 (shut_int Tryd.underlying3 w1) (shut_int Tryd.underlying5 w2) (shut_int Tryd.underlying5 w3) b4, rfl, hb.frame _, fun h => by cases h⟩

theorem tracksRings_said : Rows.TracksRingsSaid :=
  OpenClaim.holds_of_wide 4 Tryd.f4 rfl rfl rfl rfl rfl rfl rfl ⟨rfl, rfl, rfl, rfl, rfl⟩ rfl rfl rfl rfl rfl (by kernel_rfl) Tryd.func4 (by kernel_rfl)
    (of_decide_eq_true (by kernel_rfl)) (by unfold Func.isWrapper; first | (rw [if_pos (by decide +kernel)]; kernel_rfl) | (rw [if_neg (by decide +kernel)]; exact ⟨rfl, rfl⟩))
    (fun os started H enc _ => tracksRings_lifted os started H enc)

set_option maxRecDepth 100000 in
theorem tracksRings_holds : Rows.TracksRingsCardSaid :=
  Claim7.holds_tied_plain_at .later [] [.data, .data] true Rows.tracksRingsCard.stood.harness false tracksRings_said (fun _ h => by cases h) (by kernel_rfl) (fun _ h => by cases h) tracksRings_row_tie rfl ⟨rfl, rfl⟩ (by kernel_rfl) rfl
    (fun f fn hf hfn => by
      obtain rfl : f = 4 := Option.some.inj ((show Tryd.prog.funcNamed "cresset/cressetlaw08.TracksRings" = some 4 by kernel_rfl).symm.trans hf) |>.symm
      obtain rfl : fn = Tryd.f4 := (Option.some.inj (Tryd.func4.symm.trans hfn)).symm
      exact ⟨by kernel_rfl, fun j t ht => by
        rw [Tryd.params4] at ht
        have hm : t ∈ [23, 3, 5, 5, 36] := by simpa using Array.mem_of_getElem? ht
        have hall : ([23, 3, 5, 5, 36].all fun u => !Tryd.prog.wantsStandIn u) = true := by kernel_rfl
        exact (show Tryd.prog.wantsStandIn t = false by simpa using List.all_eq_true.1 hall t hm)⟩)
    (by kernel_rfl)
#print axioms tracksRings_holds
end Go.Proofs.YtkhffloahpdbdaaDoor.Tk
end
