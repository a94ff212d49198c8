/- What the rows of layer 11 share. CareFloats: whatever the arguments are, the law answers true. No condition of its own; the row lists a package-level variable, tied by the card to the program's text. -/
import Derived.ProofKit
import Derived.SevenTiedAt
import Derived.OpenShut
import Derived.LaidMore
import Derived.LaidSub
import Derived.Lay
import Derived.Shelf.Vars
import Derived.ReadAgain
import Derived.Stop.Joined
import Derived.Carry
import Derived.Lib.SmallJoins
import Derived.Test.YtmkkmjpbeokibaaGreatDoorRows
import Derived.Test.YtmkkmjpbeokibaaGreatDoorTie
import Derived.Test.YtmkkmjpbeokibaaGreatDoorCards
import Derived.Test.YtmkkmjpbeokibaaGreatDoorPb18
import Derived.Test.YtmkkmjpbeokibaaGreatDoorPb12
import Derived.Test.YtmkkmjpbeokibaaGreatDoorPc4
section
namespace Go.Proofs.YtmkkmjpbeokibaaGreatDoor.Ca
open Go Go.Proofs.YtmkkmjpbeokibaaGreatDoor.Sx Go.RowKit Go.ChangeShapes Go.WideShapes Go.ChangeAt

theorem own : ownKnob Tryz.prog.godebug = none := by kernel_rfl
theorem laidOut : laidOutB Tryz.prog = true := by kernel_rfl
def ks (n : Nat) : List Kd := List.replicate n (.i .i64)
def tnData : DataW Unit := Rows.laid_math_bits_deBruijn32tab
def tnL : List (DataW Unit) := match tnData with | .agg l => l | _ => []
theorem tn_all : tnL = deB.map fun z => (.lit (.int .u8 z) : DataW Unit) := rfl
theorem tn_at (i : Nat) (hi : i < 32) : tnL[i]? = some (.lit (.int .u8 (deB.getD i 0))) := by
  have h2 : i < deB.length := hi
  rw [tn_all, List.getElem?_map, List.getElem?_eq_getElem h2, List.getD, List.getElem?_eq_getElem h2]
  rfl
theorem tn_type : (Tryz.prog.globals[0]?).map (·.type) = some 206 ∧ Tryz.prog.underlying 206 = some (.array 32 5) := ⟨by kernel_rfl, by kernel_rfl⟩
set_option maxRecDepth 100000 in
theorem tab_of {W : World} (h : laidMetH Tryz.prog [("math/bits.deBruijn32tab", tnData)] W) : Tab W := by
  rw [MakeChecks.laidMetH_plain _ _ _ (by kernel_rfl)] at h
  obtain ⟨ps, ⟨g, t, cs, fuel, p, q, hg, ht, hv, hd, _, _⟩, _, _⟩ := h
  obtain rfl := Option.some.inj ((show Tryz.prog.globalNamed "math/bits.deBruijn32tab" = some 0 by kernel_rfl).symm.trans hg)
  obtain ⟨ht2, hu⟩ := tn_type
  obtain rfl := Option.some.inj (ht2.symm.trans ht)
  obtain ⟨xs, m, _, ex, _, hl, hel⟩ := DataW.trod_array hu hd
  have cS : Tryz.prog.cellsOf 5 = 1 := by kernel_rfl
  intro i hi
  have hE := hel i (by omega)
  rw [cS, Nat.mul_one, List.getElem?_eq_getElem (by omega)] at hE
  obtain ⟨a, e1, e2, _⟩ := DataW.trod_int Tryz.underlying5 hE
  show W.cell? ⟨0, i, none⟩ = _
  rw [World.var?_cell hg hv i]
  have h0 : cs[i]? = some (.int .u8 a) := by
    have h1 : ((cs.toList.drop i).take 1)[0]? = some (.int .u8 a) := by rw [e1]; rfl
    simpa using h1
  rw [h0]
  have e3 : xs.map (·.1) = tnL := (DataW.agg.inj (Prod.mk.inj ex).1).symm
  have e4 : (xs.map (·.1))[i]? = some (.lit (.int .u8 a)) := by
    rw [List.getElem?_map, List.getElem?_eq_getElem (by omega), e2]; rfl
  rw [e3, tn_at i (by omega)] at e4
  injection e4 with e4; injection e4 with e4; injection e4 with _ e4
  rw [e4]
def noK : Nat → LL → ByteArray := fun _ _ => ⟨#[]⟩
def noM : Nat → LL → LL := fun _ _ => []
theorem tabs (sl : List Sl) : CT.tab (envSl gF Ca.hF noK noM sl).g (envSl gF Ca.hF noK noM sl).h (envSl gF Ca.hF noK noM sl).k (envSl gF Ca.hF noK noM sl).m := ⟨rfl, rfl⟩
section
variable {H : Type} {enc : TypeId × Value → H} {P : Program} {w : World} {base : Nat} {spare : Nat → Bool} {held : Bool}
theorem opn_agg {n : Nat} {t : TypeId} {ks : List Kd} {v : Value} {d : DataW H} {p : List MemPlace} {r : Reach} {b0 : Nat} (hu : isAggV P t = some true) (hk : flatK P n t = some ks) (ho : Value.okWide P w r b0 t v) (h : DataW.Trod enc P w base spare held t v d p) :
    ∃ sl, Opn w (.ag (ks.map .sc)) v sl := by
  obtain ⟨cs, rfl⟩ := okWide_agg hu ho
  obtain ⟨xs, hx⟩ := open_plain hk h
  exact ⟨_, .ag hx⟩
theorem opn_row {n : Nat} {t e : TypeId} {ks : List Kd} {v : Value} {d : DataW H} {p : List MemPlace} {r : Reach} {b0 : Nat} (ht : P.underlying t = some (.slice e)) (hk : flatK P n e = some ks) (hl : ks.length = P.cellsOf e) (h0 : 0 < ks.length)
    (ho : Value.okWide P w r b0 t v) (h : DataW.Trod enc P w base spare held t v d p) : ∃ sl, Opn w (.one (.row ks)) v sl := by
  obtain ⟨N, xs, hr⟩ := Go.Proofs.YtmkkmjpbeokibaaGreatDoor.Sx.open_row ht hk hl h0 ho h
  exact ⟨_, .row hr⟩
end
theorem wf_row {all : List Sl} {w : World} {aks : List AK} (h : Wfs (w := w) all 0 (ksOf aks)) {j : Nat} {kds : List Kd} (hj : (ksOf aks)[j]? = some (.row kds)) : 0 ≤ (all.getD j {}).x.1 ∧ (all.getD j {}).x.1 ≤ 9223372036854775807 := by
  obtain ⟨N, v, xs, h1, h2⟩ := (h j).2 _ hj
  rw [Nat.zero_add] at h1
  rw [h1]
  have h3 : maxLen = 9223372036854775807 := rfl
  have h4 := h2.2.2.1
  have h5 : (rowSl v N xs).x.1 = (N : Int) := rfl
  rw [h5]
  omega
theorem wf_u16 {all : List Sl} {w : World} {aks : List AK} (h : Wfs (w := w) all 0 (ksOf aks)) {j : Nat} (hj : (ksOf aks)[j]? = some U16) : 0 ≤ (all.getD j {}).x.1 ∧ (all.getD j {}).x.1 ≤ 65535 := by
  have := (h j).1 _ hj
  rw [Nat.zero_add] at this
  have h2 : (Lit.int .u16 (all.getD j {}).x.1).wf = true := this
  simpa [Lit.wf, IntKind.min, IntKind.max, IntKind.signed, IntKind.bits] using h2
theorem wf_i64 {all : List Sl} {w : World} {aks : List AK} (h : Wfs (w := w) all 0 (ksOf aks)) {j : Nat} (hj : (ksOf aks)[j]? = some K) : -9223372036854775808 ≤ (all.getD j {}).x.1 ∧ (all.getD j {}).x.1 ≤ 9223372036854775807 := by
  have := (h j).1 _ hj
  rw [Nat.zero_add] at this
  have h2 : (Lit.int .i64 (all.getD j {}).x.1).wf = true := this
  simpa [Lit.wf, IntKind.min, IntKind.max, IntKind.signed, IntKind.bits] using h2
end Go.Proofs.YtmkkmjpbeokibaaGreatDoor.Ca
end
section
namespace Go.Proofs.YtmkkmjpbeokibaaGreatDoor.Ca
open Go Go.Proofs.YtmkkmjpbeokibaaGreatDoor.Sx Go.RowKit Go.ChangeShapes Go.WideShapes Go.ChangeAt

theorem tabs2 (sl : List Sl) : CT2.tab (envSl g2F h2F noK noM sl).g (envSl g2F h2F noK noM sl).h (envSl g2F h2F noK noM sl).k (envSl g2F h2F noK noM sl).m := ⟨rfl, rfl⟩
set_option maxRecDepth 100000 in
theorem careFloats_lifted (os : Os) (started : os.Started) (H : Type) (enc : TypeId × Value → H) :
    ReturnsInHanded {} Tryz.checked os 10 .any (fun w args => (Rows.careFloatsSpec.pre enc Tryz.prog Tryz.f10 [] false w args ∧ laidMetH Tryz.prog Rows.careFloatsRow.laid w) ∧ sizedMet enc Tryz.prog Tryz.f10 (OpenSpec.ofChange Rows.careFloatsSpec) false w args)
      (Rows.careFloatsSpec.post enc Tryz.prog Tryz.f10 false true false false) := by
  refine returnsInHanded_of_calls (C := Tryz.checked) own started (by kernel_rfl)
    (ChangeSpec.witness_shaped (enc := enc) (C := Tryz.checked) (os := os) (X := fun w _ => laidMetH Tryz.prog Rows.careFloatsRow.laid w) false (World.laidAll Tryz.prog os Rows.careFloatsRow.laid) #[.agg #[.int .i64 0, .int .i64 0, .int .i64 0, .int .i64 0, .int .i64 0], .slice none 0 0, .int .i64 0] 8 (World.laidAll_os _ _ _)
      (World.shaped_of_ZipB (by kernel_rfl) (by kernel_rfl)) (by kernel_rfl) (by kernel_rfl) (by kernel_rfl)
      (by rw [MakeChecks.laidMetH_plain _ _ _ (by kernel_rfl)]; exact laidMet_laidAll _ (by kernel_rfl) (by kernel_rfl))) ?_
  intro w tape i _ hsh _ hok hpre _
  obtain ⟨_, _, _, fn', hfn', _, _, _, _, hval0⟩ := hok
  obtain rfl : fn' = Tryz.f10 := Option.some.inj (hfn'.symm.trans Tryz.func10)
  obtain ⟨⟨⟨ds, gs, before, hw, _⟩, hL⟩, _⟩ := hpre
  have hW := DataW.Whole.of_heap (w' := w.forCall tape i) (by rfl) hw
  have hL' : laidMetH Tryz.prog Rows.careFloatsRow.laid (w.forCall tape i) := hL.of_heap (by rfl)
  refine Calls.mono (R := fun e W' => ∃ v, e = .returned v ∧ Rows.careFloatsSpec.post enc Tryz.prog Tryz.f10 false true false false (w.forCall tape i) i.args v W') ?_ (fun e W' ⟨v, he, hp⟩ => by subst he; exact ChangeSpec.post_blind hp)
  generalize w.forCall tape i = W at hsh hW hL' hval0 ⊢
  generalize i.args = args at hW hval0 ⊢
  have hval : ∀ (j : Nat) t v, Tryz.f10.params[j]? = some t → args[j]? = some v → Value.okWide Tryz.prog W .any w.heap.size t v := hval0
  have hW' := hW
  obtain ⟨p, q, hA0, hV, rfl, hfz, hnd⟩ := hW
  have hA : DataW.TrodAll enc Tryz.prog W 0 (fun _ => true) true Tryz.f10.params.toList args.toList ds p := hA0
  rw [Tryz.params10] at hA hval
  obtain ⟨v0, v1, v2, d0, d1, d2, p0, p1, p2, rfl, rfl, rfl, h0, h1, h2⟩ := trodAll_three hA
  obtain ⟨rfl, rfl⟩ := trodVars_none hV
  obtain ⟨s0, o0⟩ := opn_agg (n := 4) (ks := List.replicate 5 (.i .i64)) (by kernel_rfl) (by kernel_rfl) (hval 0 70 v0 rfl rfl) h0
  obtain ⟨s1, o1⟩ := opn_row (n := 4) (ks := List.replicate 2 (.i .i64)) Tryz.underlying71 (by kernel_rfl) (by kernel_rfl) (by decide) (hval 1 71 v1 rfl rfl) h1
  obtain ⟨a2, rfl, rfl, rfl, w2⟩ := open_int Tryz.underlying3 (hval 2 3 v2 rfl rfl) h2
  have o2 : Opn W (.one (.sc (.i .i64))) (.int .i64 a2) _ := Opn.one (k := .i .i64) (x := (a2, ⟨#[]⟩)) w2
  have hE : Tab W := tab_of (laidMetH.filter (fun z => z.1 == "math/bits.deBruijn32tab") hL')
  obtain ⟨ea, hR, hw⟩ := Opns.top (aks := floatK) (.cons o0 (.cons o1 (.cons o2 .nil))) g2F h2F noK noM
  have law := floats_law _ W (by simp [holds]) (tabs2 _) hR hE
  rw [ea] at law
  refine law.mono fun e W' ⟨he, hb⟩ => ?_
  subst he
  have b0 := Below.trod laidOut (by kernel_rfl) (of_decide_eq_true (by kernel_rfl)) h0 hb (fun x hx => hW'.lt x (by simp [hx]))
  have b1 := Below.trod laidOut (by kernel_rfl) (of_decide_eq_true (by kernel_rfl)) h1 hb (fun x hx => hW'.lt x (by simp [hx]))
  exact ⟨_, rfl, _, _, _, [], _, [], hW', trodAll_mk1 (shut_bool Tryz.underlying4 _), trodAll_mk3 b0 b1 (shut_int Tryz.underlying3 w2), rfl, hb.frame _, fun h => by cases h⟩

theorem careFloats_said : Rows.CareFloatsSaid :=
  OpenClaim.holds_of_wide 10 Tryz.f10 rfl rfl rfl rfl rfl rfl rfl ⟨rfl, rfl, rfl, rfl, rfl⟩ rfl rfl rfl rfl rfl (by kernel_rfl) Tryz.func10 (by kernel_rfl)
    (of_decide_eq_true (by kernel_rfl)) (by unfold Func.isWrapper; first | (rw [if_pos (by decide +kernel)]; kernel_rfl) | (rw [if_neg (by decide +kernel)]; exact ⟨rfl, rfl⟩))
    (fun os started H enc _ => careFloats_lifted os started H enc)

set_option maxRecDepth 100000 in
theorem careFloats_holds : Rows.CareFloatsCardSaid :=
  Claim7.holds_tied_plain_at .later [] [.data] true Rows.careFloatsCard.stood.harness false careFloats_said (fun _ h => by cases h) (by kernel_rfl) (fun _ h => by cases h) careFloats_row_tie rfl ⟨rfl, rfl⟩ (by kernel_rfl) rfl
    (fun f fn hf hfn => by
      obtain rfl : f = 10 := Option.some.inj ((show Tryz.prog.funcNamed "cresset/cressetlaw11.CareFloats" = some 10 by kernel_rfl).symm.trans hf) |>.symm
      obtain rfl : fn = Tryz.f10 := (Option.some.inj (Tryz.func10.symm.trans hfn)).symm
      exact ⟨by kernel_rfl, fun j t ht => by
        rw [Tryz.params10] at ht
        have hm : t ∈ [70, 71, 3] := by simpa using Array.mem_of_getElem? ht
        have hall : ([70, 71, 3].all fun u => !Tryz.prog.wantsStandIn u) = true := by kernel_rfl
        exact (show Tryz.prog.wantsStandIn t = false by simpa using List.all_eq_true.1 hall t hm)⟩)
    (by kernel_rfl)
#print axioms careFloats_holds
end Go.Proofs.YtmkkmjpbeokibaaGreatDoor.Ca
end
