/- WeightFewest (P1.6, P1.8): whatever list of parts, sum and choice of elements the law is given, it answers true: no fewer elements of a list have the sum that Cover was asked for, whichever they are; the order has each index once, greater elements first. No condition of its own; the row lists package-level variables, tied by the card to the program's text. -/
import Derived.SevenTiedAt
import Derived.Test.YtkggfeemjabdeaaGreatDoorTie
import Derived.Test.YtkggfeemjabdeaaGreatDoorCards
import Derived.Test.YtkggfeemjabdeaaGreatDoorPa33
import Derived.Test.YtkggfeemjabdeaaGreatDoorPa34
namespace Go.Proofs.YtkggfeemjabdeaaGreatDoor
open Go.ChangeShapes Go.WideShapes Go.ChangeAt Go.RowKit

set_option maxRecDepth 100000 in
theorem weightFewest_lifted (os : Os) (started : os.Started) (H : Type) (enc : TypeId × Value → H) :
    ReturnsInHanded {} Tryz.checked os 9 .any (fun w args => (Rows.weightFewestSpec.pre enc Tryz.prog Tryz.f9 [] false w args ∧ laidMetH Tryz.prog Rows.weightFewestRow.laid w) ∧ sizedMet enc Tryz.prog Tryz.f9 (OpenSpec.ofChange Rows.weightFewestSpec) false w args)
      (Rows.weightFewestSpec.post enc Tryz.prog Tryz.f9 false true false false) := by
  refine returnsInHanded_of_calls (C := Tryz.checked) own started (by kernel_rfl)
    (ChangeSpec.witness_shaped (enc := enc) (C := Tryz.checked) (os := os) (X := fun w _ => laidMetH Tryz.prog Rows.weightFewestRow.laid w) false (World.laidAll Tryz.prog os Rows.weightFewestRow.laid) #[.slice none 0 0, .agg #[.string ⟨#[]⟩, .string ⟨#[]⟩], .int .u16 0] 8 (World.laidAll_os _ _ _)
      (World.shaped_of_ZipB (by kernel_rfl) (by kernel_rfl)) (by kernel_rfl) (by kernel_rfl) (by kernel_rfl)
      (by rw [MakeChecks.laidMetH_plain _ _ _ (by kernel_rfl)]; exact laidMet_laidAll _ (by kernel_rfl) (by kernel_rfl))) ?_
  intro w tape i _ hsh _ hok hpre _
  obtain ⟨_, _, _, fn', hfn', _, _, _, _, hval0⟩ := hok
  obtain rfl : fn' = Tryz.f9 := Option.some.inj (hfn'.symm.trans Tryz.func9)
  obtain ⟨⟨⟨ds, gs, before, hw, _⟩, hL⟩, _⟩ := hpre
  have hW := DataW.Whole.of_heap (w' := w.forCall tape i) (by rfl) hw
  have hL' : laidMetH Tryz.prog Rows.weightFewestRow.laid (w.forCall tape i) := hL.of_heap (by rfl)
  refine Calls.mono (R := fun e W' => ∃ v, e = .returned v ∧ Rows.weightFewestSpec.post enc Tryz.prog Tryz.f9 false true false false (w.forCall tape i) i.args v W') ?_ (fun e W' ⟨v, he, hp⟩ => by subst he; exact ChangeSpec.post_blind hp)
  generalize w.forCall tape i = W at hsh hW hL' hval0 ⊢
  generalize i.args = args at hW hval0 ⊢
  have hval : ∀ (j : Nat) t v, Tryz.f9.params[j]? = some t → args[j]? = some v → Value.okWide Tryz.prog W .any w.heap.size t v := hval0
  have hW' := hW
  obtain ⟨p, q, hA0, hV, rfl, hfz, hnd⟩ := hW
  have hA : DataW.TrodAll enc Tryz.prog W 0 (fun _ => true) true Tryz.f9.params.toList args.toList ds p := hA0
  rw [Tryz.params9] at hA hval
  obtain ⟨v0, v1, v2, d0, d1, d2, p0, p1, p2, rfl, rfl, rfl, h0, h1, h2⟩ := trodAll_three hA
  obtain ⟨rfl, rfl⟩ := trodVars_none hV
  obtain ⟨ps, hps⟩ := parts_open (hval 0 34 v0 rfl rfl) h0
  obtain ⟨b1, b2, rfl, rfl, hbb⟩ := part_open (hval 1 24 v1 rfl rfl) h1
  obtain ⟨u, rfl, rfl, rfl, wu⟩ := open_int Tryz.underlying54 (hval 2 54 v2 rfl rfl) h2
  have hu : 0 ≤ u ∧ u ≤ 65535 := by
    simpa [Lit.wf, IntKind.min, IntKind.max, IntKind.signed, IntKind.bits] using wu
  have hE : Tens W := tens_of (by
    have := laidMetH.filter (fun z => z.1 == "cresset/weight.tens") hL'
    exact this)
  have hpos : 0 < W.heap.size := by
    have h := hE 0 (by decide)
    cases e : W.heap[0]? with
    | none => simp [World.cell?, e] at h
    | some _ => exact (Array.getElem?_eq_some_iff.1 e).1
  have law := Wc.fewest_any ps b1 b2 v0 u hu W hps hE hpos
  refine law.mono fun e W' ⟨he, hb⟩ => ?_
  subst he
  have a0 := Below.trod laidOut (by kernel_rfl) (of_decide_eq_true (by kernel_rfl)) h0 hb (fun x hx => hW'.lt x (by simp [hx]))
  exact ⟨_, rfl, _, _, _, [], _, [], hW', trodAll_mk1 (shut_bool Tryz.underlying4 _), trodAll_mk3 a0 (hbb _ _ _ _) (shut_int Tryz.underlying54 wu), rfl, hb.frame _, fun h => by cases h⟩

theorem weightFewest_said : Rows.WeightFewestSaid :=
  OpenClaim.holds_of_wide 9 Tryz.f9 rfl rfl rfl rfl rfl rfl rfl ⟨rfl, rfl, rfl, rfl, rfl⟩ rfl rfl rfl rfl rfl (by kernel_rfl) Tryz.func9 (by kernel_rfl)
    (of_decide_eq_true (by kernel_rfl)) (by unfold Func.isWrapper; first | (rw [if_pos (by decide +kernel)]; kernel_rfl) | (rw [if_neg (by decide +kernel)]; exact ⟨rfl, rfl⟩))
    (fun os started H enc _ => weightFewest_lifted os started H enc)

theorem weightFewest_holds : Rows.WeightFewestCardSaid :=
  Claim7.holds_tied_plain_at .later [] [.data, .data, .pinned] true Rows.weightFewestCard.stood.harness false weightFewest_said (fun _ h => by cases h) (by kernel_rfl) (fun _ h => by cases h) weightFewest_row_tie rfl ⟨rfl, rfl⟩ (by kernel_rfl) rfl
    (fun f fn hf hfn => by
      obtain rfl : f = 9 := Option.some.inj ((show Tryz.prog.funcNamed "cresset/cressetlaw01.WeightFewest" = some 9 by kernel_rfl).symm.trans hf) |>.symm
      obtain rfl : fn = Tryz.f9 := (Option.some.inj (Tryz.func9.symm.trans hfn)).symm
      exact ⟨by kernel_rfl, fun j t ht => by
        rw [Tryz.params9] at ht
        have hm : t ∈ [34, 24, 54] := by simpa using Array.mem_of_getElem? ht
        have hall : ([34, 24, 54].all fun u => !Tryz.prog.wantsStandIn u) = true := by kernel_rfl
        exact (show Tryz.prog.wantsStandIn t = false by simpa using List.all_eq_true.1 hall t hm)⟩)
    (by kernel_rfl)
#print axioms weightFewest_holds
end Go.Proofs.YtkggfeemjabdeaaGreatDoor
