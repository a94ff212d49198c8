/-
  ReportBits (P2.9): whatever the signal and the two numbers are, the law answers true: what the program packs it mends as it was with no bit turned and with one, and refuses with two. No condition of its own; the row lists package-level variables, tied by the card to the program's text.
-/
import Derived.Test.YtabjnadfbiohmaaDoorRpBitsLaw
import Derived.Test.YtabjnadfbiohmaaDoorRpStart
import Derived.Test.YtabjnadfbiohmaaDoorTie
import Derived.Test.YtabjnadfbiohmaaDoorCards
import Derived.SevenTiedAt
namespace Go.Proofs.YtabjnadfbiohmaaDoor
open Go.ChangeShapes Go.WideShapes Go.ChangeAt Go.RowKit


set_option maxRecDepth 100000 in
theorem sig_open {H : Type} {enc : TypeId × Value → H} {W : World} {b0 : Nat} {v : Value} {d : DataW H} {p : List MemPlace}
    (hv : Value.okWide Tryd.prog W .any b0 23 v) (h : DataW.Trod enc Tryd.prog W 0 (fun _ => true) true 23 v d p) :
    ∃ o x y b f : Int, v = sigA o x y b f ∧ p = [] ∧ ∀ (W' : World) (b1 : Nat) (sp : Nat → Bool) (held : Bool), DataW.Trod enc Tryd.prog W' b1 sp held 23 (sigA o x y b f) d [] := by
  obtain ⟨cs, rfl, hsz⟩ := okWide_struct Tryd.underlying23 hv
  obtain ⟨fuel, hf⟩ := h
  obtain ⟨xs, n, _, hx, hcl, hlen, hg⟩ := DataW.trod_struct Tryd.underlying23 hf
  have c5 : Tryd.prog.cellsOf 23 = 5 := by kernel_rfl
  have c1 : Tryd.prog.cellsOf 3 = 1 := by kernel_rfl
  obtain ⟨l⟩ := cs
  rw [c5] at hsz
  match l, hsz, xs, hlen with
  | [v0, v1, v2, v3, v4], _, [z0, z1, z2, z3, z4], _ =>
    have k0 := hg 0 { name := "Owner", type := 3, offset := 0, embedded := false, tag := "", pkgPath := "", byteOffset := 0 } rfl
    have k1 := hg 1 { name := "X", type := 3, offset := 1, embedded := false, tag := "", pkgPath := "", byteOffset := 8 } rfl
    have k2 := hg 2 { name := "Y", type := 3, offset := 2, embedded := false, tag := "", pkgPath := "", byteOffset := 16 } rfl
    have k3 := hg 3 { name := "By", type := 3, offset := 3, embedded := false, tag := "", pkgPath := "", byteOffset := 24 } rfl
    have k4 := hg 4 { name := "Flags", type := 3, offset := 4, embedded := false, tag := "", pkgPath := "", byteOffset := 32 } rfl
    simp only [c1, Value.cells, List.drop, List.take, List.getElem?_cons_zero, List.getElem?_cons_succ] at k0 k1 k2 k3 k4
    obtain ⟨a0, e0, r0, w0⟩ := DataW.trod_int Tryd.underlying3 k0
    obtain ⟨a1, e1, r1, w1⟩ := DataW.trod_int Tryd.underlying3 k1
    obtain ⟨a2, e2, r2, w2⟩ := DataW.trod_int Tryd.underlying3 k2
    obtain ⟨a3, e3, r3, w3⟩ := DataW.trod_int Tryd.underlying3 k3
    obtain ⟨a4, e4, r4, w4⟩ := DataW.trod_int Tryd.underlying3 k4
    subst r0 r1 r2 r3 r4
    simp only [List.cons.injEq, and_true] at e0 e1 e2 e3 e4
    subst e0 e1 e2 e3 e4
    simp only [Prod.mk.injEq] at hx
    obtain ⟨rfl, rfl⟩ := hx
    refine ⟨a0, a1, a2, a3, a4, rfl, rfl, fun W' b1 sp held => ⟨n + 1 + 1, ?_⟩⟩
    have q := fun (z : Int) (hz : (Lit.int .i64 z).wf = true) => trod_int_mk (enc := enc) (w := W') (base := b1) (spare := sp) (held := held) n Tryd.underlying3 hz
    have hl : (Value.cells (sigA a0 a1 a2 a3 a4)).toList.length = Tryd.prog.cellsOf 23 := by rw [c5]; rfl
    exact trod_struct_mk (xs := [(.lit (.int .i64 a0), []), (.lit (.int .i64 a1), []), (.lit (.int .i64 a2), []), (.lit (.int .i64 a3), []), (.lit (.int .i64 a4), [])]) Tryd.underlying23 hl (by simp [c1, Value.cells, q _ w0, q _ w1, q _ w2, q _ w3, q _ w4])

set_option maxRecDepth 100000 in
theorem reportBits_lifted (os : Os) (started : os.Started) (H : Type) (enc : TypeId × Value → H) :
    ReturnsInHanded {} Tryd.checked os 3 .any (fun w args => (Rows.reportBitsSpec.pre enc Tryd.prog Tryd.f3 [] false w args ∧ laidMetH Tryd.prog Rows.reportBitsRow.laid w) ∧ sizedMet enc Tryd.prog Tryd.f3 (OpenSpec.ofChange Rows.reportBitsSpec) false w args)
      (Rows.reportBitsSpec.post enc Tryd.prog Tryd.f3 false true false false) := by
  refine returnsInHanded_of_calls (C := Tryd.checked) own started (by kernel_rfl)
    (ChangeSpec.witness_shaped (enc := enc) (C := Tryd.checked) (os := os) (X := fun w _ => laidMetH Tryd.prog Rows.reportBitsRow.laid w) false (World.laidAll Tryd.prog os Rows.reportBitsRow.laid) #[sigA 0 0 0 0 0, .int .u8 0, .int .u8 0] 8 (World.laidAll_os _ _ _)
      (World.shaped_of_ZipB (by kernel_rfl) (by kernel_rfl)) (by kernel_rfl) (by kernel_rfl) (by kernel_rfl)
      (by rw [MakeChecks.laidMetH_plain _ _ _ (by kernel_rfl)]; exact laidMet_laidAll _ (by kernel_rfl) (by kernel_rfl))) ?_
  intro w tape i _ hsh _ hok hpre _
  obtain ⟨_, _, _, fn', hfn', _, _, _, _, hval0⟩ := hok
  obtain rfl : fn' = Tryd.f3 := Option.some.inj (hfn'.symm.trans Tryd.func3)
  obtain ⟨⟨⟨ds, gs, before, hw, _⟩, hL⟩, _⟩ := hpre
  have hW := DataW.Whole.of_heap (w' := w.forCall tape i) (by rfl) hw
  have hL' : laidMetH Tryd.prog Rows.reportBitsRow.laid (w.forCall tape i) := hL.of_heap (by rfl)
  refine Calls.mono (R := fun e W' => ∃ v, e = .returned v ∧ Rows.reportBitsSpec.post enc Tryd.prog Tryd.f3 false true false false (w.forCall tape i) i.args v W') ?_ (fun e W' ⟨v, he, hp⟩ => by subst he; exact ChangeSpec.post_blind hp)
  generalize w.forCall tape i = W at hsh hW hL' hval0 ⊢
  generalize i.args = args at hW hval0 ⊢
  have hval : ∀ (j : Nat) t v, Tryd.f3.params[j]? = some t → args[j]? = some v → Value.okWide Tryd.prog W .any w.heap.size t v := hval0
  have hW' := hW
  obtain ⟨p, q, hA0, hV, rfl, hfz, hnd⟩ := hW
  have hA : DataW.TrodAll enc Tryd.prog W 0 (fun _ => true) true Tryd.f3.params.toList args.toList ds p := hA0
  rw [Tryd.params3] at hA hval
  obtain ⟨v0, v1, v2, d0, d1, d2, p0, p1, p2, rfl, rfl, rfl, h0, h1, h2⟩ := trodAll_three hA
  obtain ⟨rfl, rfl⟩ := trodVars_none hV
  obtain ⟨o, x, y, b, f, rfl, rfl, hback⟩ := sig_open (hval 0 23 v0 rfl rfl) h0
  obtain ⟨i0, rfl, rfl, rfl, wi⟩ := open_int Tryd.underlying5 (hval 1 5 v1 rfl rfl) h1
  obtain ⟨k0, rfl, rfl, rfl, wk⟩ := open_int Tryd.underlying5 (hval 2 5 v2 rfl rfl) h2
  have hi : 0 ≤ i0 ∧ i0 ≤ 255 := by simpa [Lit.wf, IntKind.min, IntKind.max, IntKind.signed, IntKind.bits] using wi
  have hk : 0 ≤ k0 ∧ k0 ≤ 255 := by simpa [Lit.wf, IntKind.min, IntKind.max, IntKind.signed, IntKind.bits] using wk
  obtain ⟨m, hm⟩ := some_max hsh
  have hE : Env m W := ⟨hm, words_of (by
    have := laidMetH.filter (fun z => z.1 == "cresset/report.kindWords") hL'
    exact this)⟩
  have law : Calls Tryd.prog 3 #[sigA o x y b f, .int .u8 i0, .int .u8 k0] W fun e w' => e = .returned (.bool true) ∧ Below W.heap.size W w' := by
    obtain ⟨i1, rfl⟩ : ∃ n : Nat, i0 = n := ⟨i0.toNat, by omega⟩
    obtain ⟨k1, rfl⟩ : ∃ n : Nat, k0 = n := ⟨k0.toNat, by omega⟩
    cases hs : sigB o x y b f with
    | false => exact bits_no o x y b f hs i1 k1 m W hE
    | true => exact bits_yes o x y b f hs i1 k1 (by omega) (by omega) m W hE
  refine law.mono fun e W' ⟨he, hb⟩ => ?_
  subst he
  exact ⟨_, rfl, _, _, _, [], [], [], hW', trodAll_mk1 (shut_bool Tryd.underlying4 _), trodAll_mk3 (hback _ _ _ _) (shut_int Tryd.underlying5 wi) (shut_int Tryd.underlying5 wk), rfl, hb.frame _, fun h => by cases h⟩

theorem reportBits_said : Rows.ReportBitsSaid :=
  OpenClaim.holds_of_wide 3 Tryd.f3 rfl rfl rfl rfl rfl rfl rfl ⟨rfl, rfl, rfl, rfl, rfl⟩ rfl rfl rfl rfl rfl (by kernel_rfl) Tryd.func3 (by kernel_rfl)
    (of_decide_eq_true (by kernel_rfl)) (by unfold Func.isWrapper; first | (rw [if_pos (by decide +kernel)]; kernel_rfl) | (rw [if_neg (by decide +kernel)]; exact ⟨rfl, rfl⟩))
    (fun os started H enc _ => reportBits_lifted os started H enc)

theorem reportBits_holds : Rows.ReportBitsCardSaid :=
  Claim7.holds_tied_plain_at .later [] [.data, .data, .data, .sentinel, .sentinel, .data] true Rows.reportBitsCard.stood.harness true reportBits_said (fun _ h => by cases h) (by kernel_rfl) (fun _ h => by cases h) reportBits_row_tie rfl ⟨rfl, rfl⟩ (by kernel_rfl) rfl
    (fun f fn hf hfn => by
      obtain rfl : f = 3 := Option.some.inj ((show Tryd.prog.funcNamed "cresset/cressetlaw02.ReportBits" = some 3 by kernel_rfl).symm.trans hf) |>.symm
      obtain rfl : fn = Tryd.f3 := (Option.some.inj (Tryd.func3.symm.trans hfn)).symm
      exact ⟨by kernel_rfl, fun j t ht => by
        rw [Tryd.params3] at ht
        have hm : t ∈ [23, 5, 5] := by simpa using Array.mem_of_getElem? ht
        have hall : ([23, 5, 5].all fun u => !Tryd.prog.wantsStandIn u) = true := by kernel_rfl
        exact (show Tryd.prog.wantsStandIn t = false by simpa using List.all_eq_true.1 hall t hm)⟩)
    (by kernel_rfl)
#print axioms reportBits_holds
end Go.Proofs.YtabjnadfbiohmaaDoor
