/- WeightField (P1.3, P1.8): for any three parts the law answers true: sums and products of fractions can be done in any order, products go over sums, what is added and subtracted, or multiplied and divided, is as it was. No condition of its own; the row lists package-level variables, tied by the card to the program's text. A list of parts as a parameter of a law. WeightBayes (P1.5, P1.8), the stage's theorem: whatever three lists of parts (a prior and two pieces of evidence) the law is given, it answers true: updating by two pieces of evidence, one after the other, in any order, is updating by their products, and the evidence of both is the product of the two. No condition of its own; the row lists package-level variables, tied by the card to the program's text. -/
import Derived.SevenTiedAt
import Derived.ProofKit
import Derived.OpenShut
import Derived.LaidMore
import Derived.LaidSub
import Derived.Lay
import Derived.Shelf.Vars
import Derived.ReadAgain
import Derived.Stop.Joined
import Derived.Deep.SlicePairs
import Derived.Carry
import Derived.Lib.SmallJoins
import Derived.Test.YtkggfeemjabdeaaGreatDoorRows
import Derived.Test.YtkggfeemjabdeaaGreatDoorTie
import Derived.Test.YtkggfeemjabdeaaGreatDoorCards
import Derived.Test.YtkggfeemjabdeaaGreatDoorPa31
import Derived.Test.YtkggfeemjabdeaaGreatDoorPa32
section
namespace Go.Proofs.YtkggfeemjabdeaaGreatDoor
open Go.ChangeShapes Go.WideShapes Go.ChangeAt Go.RowKit

theorem own : ownKnob Tryz.prog.godebug = none := by kernel_rfl
def tnData : DataW Unit := Rows.laid_cresset_weight_tens
def tnL : List (DataW Unit) := match tnData with | .agg l => l | _ => []
theorem tn_at : ∀ i, i < 19 → tnL[i]? = some (.lit (.int .u64 ((10 ^ i : Nat) : Int))) := fun i hi => match i, hi with
  | 0, _ => rfl
  | 1, _ => rfl
  | 2, _ => rfl
  | 3, _ => rfl
  | 4, _ => rfl
  | 5, _ => rfl
  | 6, _ => rfl
  | 7, _ => rfl
  | 8, _ => rfl
  | 9, _ => rfl
  | 10, _ => rfl
  | 11, _ => rfl
  | 12, _ => rfl
  | 13, _ => rfl
  | 14, _ => rfl
  | 15, _ => rfl
  | 16, _ => rfl
  | 17, _ => rfl
  | 18, _ => rfl
  | (_ + 19), h => absurd h (by omega)
theorem tn_type : (Tryz.prog.globals[0]?).map (·.type) = some 131 ∧ Tryz.prog.underlying 131 = some (.array 19 78) := ⟨by kernel_rfl, by kernel_rfl⟩
set_option maxRecDepth 100000 in
theorem tens_of {W : World} (h : laidMetH Tryz.prog [("cresset/weight.tens", tnData)] W) : Tens W := by
  rw [MakeChecks.laidMetH_plain _ _ _ (by kernel_rfl)] at h
  obtain ⟨ps, ⟨g, t, cs, fuel, p, q, hg, ht, hv, hd, _, _⟩, _, _⟩ := h
  obtain rfl := Option.some.inj ((show Tryz.prog.globalNamed "cresset/weight.tens" = some 0 by kernel_rfl).symm.trans hg)
  obtain ⟨ht2, hu⟩ := tn_type
  obtain rfl := Option.some.inj (ht2.symm.trans ht)
  obtain ⟨xs, m, _, ex, _, hl, hel⟩ := DataW.trod_array hu hd
  have cS : Tryz.prog.cellsOf 78 = 1 := by kernel_rfl
  intro i hi
  have hE := hel i (by omega)
  rw [cS, Nat.mul_one, List.getElem?_eq_getElem (by omega)] at hE
  obtain ⟨a, e1, e2, _⟩ := DataW.trod_int Tryz.underlying78 hE
  show W.cell? ⟨0, i, none⟩ = _
  rw [World.var?_cell hg hv i]
  have h0 : cs[i]? = some (.int .u64 a) := by
    have h1 : ((cs.toList.drop i).take 1)[0]? = some (.int .u64 a) := by rw [e1]; rfl
    simpa using h1
  rw [h0]
  have e3 : xs.map (·.1) = tnL := (DataW.agg.inj (Prod.mk.inj ex).1).symm
  have e4 : (xs.map (·.1))[i]? = some (.lit (.int .u64 a)) := by
    rw [List.getElem?_map, List.getElem?_eq_getElem (by omega), e2]; rfl
  rw [e3, tn_at i (by omega)] at e4
  injection e4 with e4; injection e4 with e4; injection e4 with _ e4
  rw [e4]
theorem trod_string_mk' {H : Type} {enc : TypeId × Value → H} {P : Program} {w : World} {base : Nat} {spare : Nat → Bool} {held : Bool} {t : TypeId} (n : Nat) (ht : P.underlying t = some .string) {z : ByteArray} (hz : z.size ≤ maxLen) :
    DataW.trod enc P w base spare held (n + 1) t [.string z] = some (.lit (.string z.data.toList), []) := by
  unfold DataW.trod
  rw [ht]
  simp [hz]
set_option maxRecDepth 100000 in
theorem part_open {H : Type} {enc : TypeId × Value → H} {W : World} {b0 : Nat} {v : Value} {d : DataW H} {p : List MemPlace}
    (hv : Value.okWide Tryz.prog W .any b0 24 v) (h : DataW.Trod enc Tryz.prog W 0 (fun _ => true) true 24 v d p) :
    ∃ a b : ByteArray, v = .agg #[.string a, .string b] ∧ p = [] ∧ ∀ (W' : World) (b1 : Nat) (sp : Nat → Bool) (held : Bool), DataW.Trod enc Tryz.prog W' b1 sp held 24 (.agg #[.string a, .string b]) d [] := by
  obtain ⟨cs, rfl, hsz⟩ := okWide_struct Tryz.underlying24 hv
  obtain ⟨fuel, hf⟩ := h
  obtain ⟨xs, n, _, hx, hcl, hlen, hg⟩ := DataW.trod_struct Tryz.underlying24 hf
  have c5 : Tryz.prog.cellsOf 24 = 2 := by kernel_rfl
  have c1 : Tryz.prog.cellsOf 22 = 1 := by kernel_rfl
  obtain ⟨l⟩ := cs
  rw [c5] at hsz
  match l, hsz, xs, hlen with
  | [v0, v1], _, [z0, z1], _ =>
    have k0 := hg 0 { name := "Num", type := 22, offset := 0, embedded := false, tag := "", pkgPath := "", byteOffset := 0 } rfl
    have k1 := hg 1 { name := "Den", type := 22, offset := 1, embedded := false, tag := "", pkgPath := "", byteOffset := 16 } rfl
    simp only [c1, Value.cells, List.drop, List.take, List.getElem?_cons_zero, List.getElem?_cons_succ] at k0 k1
    obtain ⟨a0, e0, r0, w0⟩ := DataW.trod_string Tryz.underlying22 k0
    obtain ⟨a1, e1, r1, w1⟩ := DataW.trod_string Tryz.underlying22 k1
    subst r0 r1
    simp only [List.cons.injEq, and_true] at e0 e1
    subst e0 e1
    simp only [Prod.mk.injEq] at hx
    obtain ⟨rfl, rfl⟩ := hx
    refine ⟨a0, a1, rfl, rfl, fun W' b1 sp held => ⟨n + 1 + 1, ?_⟩⟩
    have q := fun (z : ByteArray) (hz : z.size ≤ maxLen) => trod_string_mk' (enc := enc) (w := W') (base := b1) (spare := sp) (held := held) n Tryz.underlying22 hz
    have hl : (Value.cells (.agg #[.string a0, .string a1])).toList.length = Tryz.prog.cellsOf 24 := by rw [c5]; rfl
    exact trod_struct_mk (xs := [(.lit (.string a0.data.toList), []), (.lit (.string a1.data.toList), [])]) Tryz.underlying24 hl (by simp [c1, Value.cells, q _ w0, q _ w1])
end Go.Proofs.YtkggfeemjabdeaaGreatDoor
end
section
namespace Go.Proofs.YtkggfeemjabdeaaGreatDoor
open Go.ChangeShapes Go.WideShapes Go.ChangeAt Go.RowKit Go.Deep

theorem partKinds : Tryz.prog.underlying 24 = some (.struct #[{ name := "Num", type := 22, offset := 0, embedded := false, tag := "", pkgPath := "", byteOffset := 0 }, { name := "Den", type := 22, offset := 1, embedded := false, tag := "", pkgPath := "", byteOffset := 16 }]) := by kernel_rfl
theorem cellsPart : Tryz.prog.cellsOf 24 = 2 := by kernel_rfl
theorem natCells : Tryz.prog.cellsOf 22 = 1 := by kernel_rfl
theorem laidOut : laidOutB Tryz.prog = true := by kernel_rfl
theorem add_off (g off k : Nat) : (⟨g, off, none⟩ : Addr).add k = ⟨g, off + k, none⟩ := by
  unfold Addr.add
  split
  · rename_i h; rw [h]; rfl
  · rfl
set_option maxRecDepth 100000 in
theorem parts_open {H : Type} {enc : TypeId × Value → H} {W : World} {b0 : Nat} {v : Value} {d : DataW H} {p : List MemPlace}
    (hv : Value.okWide Tryz.prog W .any b0 34 v) (h : DataW.Trod enc Tryz.prog W 0 (fun _ => true) true 34 v d p) :
    ∃ ps : List Wc.P2, Wc.PartL W v ps := by
  obtain ⟨a0, len, cap, rfl⟩ := okWide_slice Tryz.underlying34 hv
  obtain ⟨fuel, hf⟩ := h
  rcases open_slice_pairs Tryz.underlying34 partKinds cellsPart rfl rfl natCells natCells hf with ⟨hcs, _⟩ | ⟨a, len', cap', m, n, V0, V1, D0, D1, P0, P1, hcs, _, hl, hm, hmm, _, hel⟩
  · simp only [Value.cells, List.cons.injEq, Value.slice.injEq, and_true] at hcs
    obtain ⟨rfl, rfl, rfl⟩ := hcs
    exact ⟨[], .inl ⟨⟨_, _, rfl⟩, rfl⟩⟩
  · simp only [Value.cells, List.cons.injEq, Value.slice.injEq, and_true] at hcs
    obtain ⟨rfl, rfl, rfl⟩ := hcs
    have each : ∀ i, i < len → ∃ q : Wc.P2, W.cell? (a.add (i * 2)) = some (.string q.1) ∧ W.cell? (a.add (i * 2 + 1)) = some (.string q.2) := by
      intro i hi
      obtain ⟨k0, k1, t0, t1⟩ := hel i (by rw [hmm]; simp; omega)
      obtain ⟨x, e0, _, _⟩ := DataW.trod_string Tryz.underlying22 t0
      obtain ⟨y, e1, _, _⟩ := DataW.trod_string Tryz.underlying22 t1
      simp only [List.cons.injEq, and_true] at e0 e1
      rw [e0] at k0; rw [e1] at k1
      exact ⟨(x, y), k0, k1⟩
    obtain ⟨q, hq⟩ := choose_lt each
    have hlen : ((List.range len).map q).length = len := by simp
    rcases Nat.eq_zero_or_pos len with h0 | hpos
    · subst h0
      exact ⟨[], .inl ⟨⟨_, _, rfl⟩, rfl⟩⟩
    · obtain ⟨g, off, spot⟩ := a
      have hspot : spot = none := by simpa [Addr.add] using World.cell?_spot (hq 0 hpos).1
      subst hspot
      refine ⟨(List.range len).map q, .inr ⟨g, off, cap, by rw [hlen], by rw [hlen]; exact hl, hm, World.block_lt_of_cell? _ _ (hq 0 hpos).1, fun i hi => ?_⟩⟩
      rw [hlen] at hi
      have e : ((List.range len).map q)[i]'(by rw [hlen]; exact hi) = q i := by simp
      rw [e]
      have h := hq i hi
      rw [add_off, add_off] at h
      exact h
end Go.Proofs.YtkggfeemjabdeaaGreatDoor
end
section
namespace Go.Proofs.YtkggfeemjabdeaaGreatDoor
open Go.ChangeShapes Go.WideShapes Go.ChangeAt Go.RowKit

set_option maxRecDepth 100000 in
theorem weightBayes_lifted (os : Os) (started : os.Started) (H : Type) (enc : TypeId × Value → H) :
    ReturnsInHanded {} Tryz.checked os 8 .any (fun w args => (Rows.weightBayesSpec.pre enc Tryz.prog Tryz.f8 [] false w args ∧ laidMetH Tryz.prog Rows.weightBayesRow.laid w) ∧ sizedMet enc Tryz.prog Tryz.f8 (OpenSpec.ofChange Rows.weightBayesSpec) false w args)
      (Rows.weightBayesSpec.post enc Tryz.prog Tryz.f8 false true false false) := by
  refine returnsInHanded_of_calls (C := Tryz.checked) own started (by kernel_rfl)
    (ChangeSpec.witness_shaped (enc := enc) (C := Tryz.checked) (os := os) (X := fun w _ => laidMetH Tryz.prog Rows.weightBayesRow.laid w) false (World.laidAll Tryz.prog os Rows.weightBayesRow.laid) #[.slice none 0 0, .slice none 0 0, .slice none 0 0] 8 (World.laidAll_os _ _ _)
      (World.shaped_of_ZipB (by kernel_rfl) (by kernel_rfl)) (by kernel_rfl) (by kernel_rfl) (by kernel_rfl)
      (by rw [MakeChecks.laidMetH_plain _ _ _ (by kernel_rfl)]; exact laidMet_laidAll _ (by kernel_rfl) (by kernel_rfl))) ?_
  intro w tape i _ hsh _ hok hpre _
  obtain ⟨_, _, _, fn', hfn', _, _, _, _, hval0⟩ := hok
  obtain rfl : fn' = Tryz.f8 := Option.some.inj (hfn'.symm.trans Tryz.func8)
  obtain ⟨⟨⟨ds, gs, before, hw, _⟩, hL⟩, _⟩ := hpre
  have hW := DataW.Whole.of_heap (w' := w.forCall tape i) (by rfl) hw
  have hL' : laidMetH Tryz.prog Rows.weightBayesRow.laid (w.forCall tape i) := hL.of_heap (by rfl)
  refine Calls.mono (R := fun e W' => ∃ v, e = .returned v ∧ Rows.weightBayesSpec.post enc Tryz.prog Tryz.f8 false true false false (w.forCall tape i) i.args v W') ?_ (fun e W' ⟨v, he, hp⟩ => by subst he; exact ChangeSpec.post_blind hp)
  generalize w.forCall tape i = W at hsh hW hL' hval0 ⊢
  generalize i.args = args at hW hval0 ⊢
  have hval : ∀ (j : Nat) t v, Tryz.f8.params[j]? = some t → args[j]? = some v → Value.okWide Tryz.prog W .any w.heap.size t v := hval0
  have hW' := hW
  obtain ⟨p, q, hA0, hV, rfl, hfz, hnd⟩ := hW
  have hA : DataW.TrodAll enc Tryz.prog W 0 (fun _ => true) true Tryz.f8.params.toList args.toList ds p := hA0
  rw [Tryz.params8] at hA hval
  obtain ⟨v0, v1, v2, d0, d1, d2, p0, p1, p2, rfl, rfl, rfl, h0, h1, h2⟩ := trodAll_three hA
  obtain ⟨rfl, rfl⟩ := trodVars_none hV
  obtain ⟨ps, hps⟩ := parts_open (hval 0 34 v0 rfl rfl) h0
  obtain ⟨os', hos⟩ := parts_open (hval 1 34 v1 rfl rfl) h1
  obtain ⟨ts, hts⟩ := parts_open (hval 2 34 v2 rfl rfl) h2
  have hE : Tens W := tens_of (by
    have := laidMetH.filter (fun z => z.1 == "cresset/weight.tens") hL'
    exact this)
  have hpos : 0 < W.heap.size := by
    have h := hE 0 (by decide)
    cases e : W.heap[0]? with
    | none => simp [World.cell?, e] at h
    | some _ => exact (Array.getElem?_eq_some_iff.1 e).1
  have law := Wc.bayes_any ps os' ts v0 v1 v2 W hps hos hts hE hpos
  refine law.mono fun e W' ⟨he, hb⟩ => ?_
  subst he
  have a0 := Below.trod laidOut (by kernel_rfl) (of_decide_eq_true (by kernel_rfl)) h0 hb (fun x hx => hW'.lt x (by simp [hx]))
  have a1 := Below.trod laidOut (by kernel_rfl) (of_decide_eq_true (by kernel_rfl)) h1 hb (fun x hx => hW'.lt x (by simp [hx]))
  have a2 := Below.trod laidOut (by kernel_rfl) (of_decide_eq_true (by kernel_rfl)) h2 hb (fun x hx => hW'.lt x (by simp [hx]))
  exact ⟨_, rfl, _, _, _, [], _, [], hW', trodAll_mk1 (shut_bool Tryz.underlying4 _), trodAll_mk3 a0 a1 a2, rfl, hb.frame _, fun h => by cases h⟩

theorem weightBayes_said : Rows.WeightBayesSaid :=
  OpenClaim.holds_of_wide 8 Tryz.f8 rfl rfl rfl rfl rfl rfl rfl ⟨rfl, rfl, rfl, rfl, rfl⟩ rfl rfl rfl rfl rfl (by kernel_rfl) Tryz.func8 (by kernel_rfl)
    (of_decide_eq_true (by kernel_rfl)) (by unfold Func.isWrapper; first | (rw [if_pos (by decide +kernel)]; kernel_rfl) | (rw [if_neg (by decide +kernel)]; exact ⟨rfl, rfl⟩))
    (fun os started H enc _ => weightBayes_lifted os started H enc)

theorem weightBayes_holds : Rows.WeightBayesCardSaid :=
  Claim7.holds_tied_plain_at .later [] [.data, .data, .pinned] true Rows.weightBayesCard.stood.harness false weightBayes_said (fun _ h => by cases h) (by kernel_rfl) (fun _ h => by cases h) weightBayes_row_tie rfl ⟨rfl, rfl⟩ (by kernel_rfl) rfl
    (fun f fn hf hfn => by
      obtain rfl : f = 8 := Option.some.inj ((show Tryz.prog.funcNamed "cresset/cressetlaw01.WeightBayes" = some 8 by kernel_rfl).symm.trans hf) |>.symm
      obtain rfl : fn = Tryz.f8 := (Option.some.inj (Tryz.func8.symm.trans hfn)).symm
      exact ⟨by kernel_rfl, fun j t ht => by
        rw [Tryz.params8] at ht
        have hm : t ∈ [34, 34, 34] := by simpa using Array.mem_of_getElem? ht
        have hall : ([34, 34, 34].all fun u => !Tryz.prog.wantsStandIn u) = true := by kernel_rfl
        exact (show Tryz.prog.wantsStandIn t = false by simpa using List.all_eq_true.1 hall t hm)⟩)
    (by kernel_rfl)
#print axioms weightBayes_holds
end Go.Proofs.YtkggfeemjabdeaaGreatDoor
end
