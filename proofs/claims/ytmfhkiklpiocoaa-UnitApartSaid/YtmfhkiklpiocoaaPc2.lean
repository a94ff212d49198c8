/- A unit and its legs as a parameter. UnitApart: the row. -/
import Derived.Carry
import Derived.ChangeSame
import Derived.Test.YtmfhkiklpiocoaaPb13
import Derived.Test.YtmfhkiklpiocoaaPc1
section
namespace Go.Proofs.Ytmfhkiklpiocoaa.Un
open Go Go.Proofs.Ytmfhkiklpiocoaa.Sx Go.RowKit Go.ChangeShapes Go.WideShapes Go.ChangeAt
theorem slice_cells {P : Program} {w : World} {r : Reach} {b0 : Nat} {t e : TypeId} {v : Value} (ht : P.underlying t = some (.slice e)) (h : Cell.okWide P w r b0 t v) : v.cells.toList = [v] ∧ Value.okWide P w r b0 t v := by
  have ho : Value.okWide P w r b0 t v := by
    unfold Value.okWide
    rw [ht]
    exact h
  refine ⟨?_, ho⟩
  unfold Cell.okWide at h
  rw [ht] at h
  have h' : Cell.ok P w r b0 t v := h
  unfold Cell.ok at h'
  rw [ht] at h'
  cases v <;> first | exact h'.elim | rfl
def fU : Field := { name := "U", type := 25, offset := 0, embedded := false, tag := "", pkgPath := "", byteOffset := 0 }
def fL : Field := { name := "L", type := 39, offset := 12, embedded := false, tag := "", pkgPath := "", byteOffset := 104 }
theorem flight_under : Try.prog.underlying 68 = some (.struct #[fU, fL]) := by kernel_rfl
theorem flight_cells : Try.prog.cellsOf 68 = 13 := by kernel_rfl
theorem unit_cells : Try.prog.cellsOf 25 = 12 := by kernel_rfl
theorem legs_cells : Try.prog.cellsOf 39 = 1 := by kernel_rfl
theorem flight_types : (Try.prog.cellTypes Try.prog.depth 68).map (fun ts => (ts.length, ts[12]?)) = some (13, some 39) := by kernel_rfl
section
variable {H : Type} {enc : TypeId × Value → H} {w : World} {base : Nat} {spare : Nat → Bool} {held : Bool}
set_option maxRecDepth 100000 in
theorem open_flight {v : Value} {d : DataW H} {p : List MemPlace} {r : Reach} {b0 : Nat} (ho : Value.okWide Try.prog w r b0 68 v) (h : DataW.Trod enc Try.prog w base spare held 68 v d p) :
    ∃ cs l s0 s1, v = .agg (cs ++ [l]).toArray ∧ Opn w (.ag ((Kd.s :: ks 11).map .sc)) (.agg cs.toArray) s0 ∧ Opn w (.one (.row (ks 8))) l s1 := by
  obtain ⟨fuel, hf⟩ := h
  unfold Value.okWide at ho
  rw [flight_under] at ho
  obtain ⟨cs, rfl, hsz, ts, hts, -, hcell⟩ := ho
  have hT := flight_types
  rw [hts] at hT
  simp only [Option.map_some, Option.some.injEq, Prod.mk.injEq] at hT
  rw [flight_cells] at hsz
  obtain ⟨y0, y1, n, -, -, h0, h1⟩ := trod_struct2 flight_under hf
  have e0 : (Value.agg cs).cells = cs := rfl
  rw [e0] at h0 h1
  have k0 : (cs.toList.drop fU.offset).take (Try.prog.cellsOf fU.type) = cs.toList.take 12 := by
    rw [show Try.prog.cellsOf fU.type = 12 from unit_cells]; rfl
  have hl : 12 < cs.size := by omega
  have k1 : (cs.toList.drop fL.offset).take (Try.prog.cellsOf fL.type) = [cs[12]] := by
    rw [show Try.prog.cellsOf fL.type = 1 from legs_cells]
    show (cs.toList.drop 12).take 1 = _
    rw [List.drop_eq_getElem_cons (by simpa using hl)]
    simp
  rw [k0] at h0
  rw [k1] at h1
  obtain ⟨xs, hx⟩ := trod_flat 3 _ _ _ _ _ flatUnit h0
  obtain ⟨u, hu, hc⟩ := hcell 12 cs[12] (by simp [hl])
  rw [hT.1] at hu
  have hu' : ts[12]? = some u := hu
  rw [hT.2] at hu'
  cases hu'
  obtain ⟨c1, c2⟩ := slice_cells (e := 51) (by kernel_rfl) hc
  obtain ⟨s1, o1⟩ := opn_row (enc := enc) (base := base) (spare := spare) (held := held) (P := Try.prog) (w := w) (n := 3) (t := 39) (e := 51) (ks := ks 8) (v := cs[12]) (d := y1.1) (p := y1.2) (by kernel_rfl) flatLeg (by kernel_rfl) (by decide) c2 ⟨n, by rw [c1]; exact h1⟩
  refine ⟨cs.toList.take 12, cs[12], _, s1, ?_, .ag (cs := (cs.toList.take 12).toArray) hx, o1⟩
  congr 1
  apply Array.ext'
  show cs.toList = cs.toList.take 12 ++ [cs[12]]
  have := List.take_append_drop 12 cs.toList
  rw [List.drop_eq_getElem_cons (by simpa using hl), List.drop_eq_nil_of_le (by simp; omega)] at this
  simpa using this.symm
end
/-- The arguments in a row, and as the law has them. -/
def K12 : List LK := (Kd.s :: ks 11).map .sc
def apK' : List AK := [.ag K12, .one (.row (ks 8)), .ag K12, .one (.row (ks 8)), .ag ([Kd.i .u8, Kd.i .u8].map .sc), .one (.row (ks 1))]
theorem apK_ks : ksOf apK' = ksOf apK := rfl
theorem ap_rows {ρ : Env} {w : World} (h : RowsAt ρ w apK') : RowsAt ρ w apK := h
theorem ap_arr {ρ : Env} {c1 c2 : List Value} {l1 l2 s t : Value} (h : arr ρ (patAs 0 apK') = [.agg c1.toArray, l1, .agg c2.toArray, l2, s, t].toArray) :
    arr ρ (patAs 0 apK) = #[.agg (c1 ++ [l1]).toArray, .agg (c2 ++ [l2]).toArray, s, t] := by
  have h' : (patAs 0 apK').map (V.den ρ) = [.agg c1.toArray, l1, .agg c2.toArray, l2, s, t] := by
    have := congrArg Array.toList h
    unfold arr at this
    simpa using this
  rw [show patAs 0 apK' = [.agg (V.ofL (freshes 0 K12)), .var 12, .agg (V.ofL (freshes 13 K12)), .var 25, patA 26 (.ag [.sc (.i .u8), .sc (.i .u8)]), .var 28] from rfl] at h'
  simp only [List.map_cons, List.map_nil, List.cons.injEq, and_true] at h'
  obtain ⟨a1, a2, a3, a4, a5, a6⟩ := h'
  rw [agg_ofL] at a1 a3
  have b1 : (freshes 0 K12).map (V.den ρ) = c1 := by
    have := congrArg Array.toList (Value.agg.inj a1); unfold arr at this; simpa using this
  have b3 : (freshes 13 K12).map (V.den ρ) = c2 := by
    have := congrArg Array.toList (Value.agg.inj a3); unfold arr at this; simpa using this
  rw [show patAs 0 apK = [.agg (V.ofL (freshes 0 K12 ++ [.var 12])), .agg (V.ofL (freshes 13 K12 ++ [.var 25])), patA 26 (.ag [.sc (.i .u8), .sc (.i .u8)]), .var 28] from rfl]
  unfold arr
  simp only [List.map_cons, List.map_nil, agg_ofL, arr, List.map_append, b1, b3, a2, a4, a5, a6]
end Go.Proofs.Ytmfhkiklpiocoaa.Un
end
section
namespace Go.Proofs.Ytmfhkiklpiocoaa.Un
open Go Go.Proofs.Ytmfhkiklpiocoaa.Sx Go.RowKit Go.ChangeShapes Go.WideShapes Go.ChangeAt

theorem aggBytes : isAggV Try.prog 69 = some true := by kernel_rfl
theorem flatBytes : flatK Try.prog 3 69 = some [.i .u8, .i .u8] := by kernel_rfl
theorem flatInt : flatK Try.prog 3 3 = some (ks 1) := by kernel_rfl
set_option maxRecDepth 100000 in
theorem unitApart_lifted (os : Os) (started : os.Started) (H : Type) (enc : TypeId × Value → H) :
    ReturnsInHanded {} Try.checked os 12 .any (Rows.unitApartSpec.pre6 enc Try.prog Try.f12 Rows.unitApartRow.domain false) (Rows.unitApartSpec.post enc Try.prog Try.f12 false true false false) := by
  refine returnsInHanded_of_change (C := Try.checked) own started (by kernel_rfl) Try.func12
    (ChangeSpec.witness6 (enc := enc) (C := Try.checked) false ⟨#[], #[.agg #[.string ⟨#[]⟩, .int .i64 0, .int .i64 0, .int .i64 0, .int .i64 0, .int .i64 0, .int .i64 0, .int .i64 0, .int .i64 0, .int .i64 0, .int .i64 0, .int .i64 0, .slice none 0 0], .agg #[.string ⟨#[]⟩, .int .i64 0, .int .i64 0, .int .i64 0, .int .i64 0, .int .i64 0, .int .i64 0, .int .i64 0, .int .i64 0, .int .i64 0, .int .i64 0, .int .i64 0, .slice none 0 0], .agg #[.int .u8 0, .int .u8 0], .slice none 0 0], []⟩ 8 (by kernel_rfl) (by kernel_rfl) (by kernel_rfl) (by kernel_rfl)) ?_
  intro W base args ds gs before hval0 hW hcnd _
  have hval : ∀ (j : Nat) t v, Try.f12.params[j]? = some t → args[j]? = some v → Value.okWide Try.prog W .any base t v := hval0
  have hW' := hW
  obtain ⟨p, q, hA0, hV, rfl, hfz, hnd⟩ := hW
  have hA : DataW.TrodAll enc Try.prog W 0 (fun _ => true) true Try.f12.params.toList args.toList ds p := hA0
  rw [Try.params12] at hA hval
  obtain ⟨v0, v1, v2, v3, d0, d1, d2, d3, p0, p1, p2, p3, rfl, rfl, rfl, h0, h1, h2, h3⟩ := trodAll_four hA
  obtain ⟨rfl, rfl⟩ := trodVars_none hV
  obtain ⟨c0, l0, s0, t0, rfl, o0, r0⟩ := open_flight (hval 0 68 v0 rfl rfl) h0
  obtain ⟨c1, l1, s1, t1, rfl, o1, r1⟩ := open_flight (hval 1 68 v1 rfl rfl) h1
  obtain ⟨s2, o2⟩ := opn_agg aggBytes flatBytes (hval 2 69 v2 rfl rfl) h2
  obtain ⟨s3, o3⟩ := opn_row Try.underlying70 flatInt (by kernel_rfl) (by decide) (hval 3 70 v3 rfl rfl) h3
  obtain ⟨ea, hR, hw⟩ := Opns.top (aks := apK') (.cons o0 (.cons r0 (.cons o1 (.cons r1 (.cons o2 (.cons o3 .nil)))))) gF hF noK mF
  have law := apart_law _ W (by simp only [apF, lenF, List.cons_append, List.nil_append, holds, List.mem_cons, List.not_mem_nil, or_false, forall_eq_or_imp, forall_eq, B_le, I_len, S_sv, I_c, I_v, decide_eq_true_eq]; exact ⟨wf_text hw (j := 0) rfl, wf_text hw (j := 13) rfl, (wf_row hw (j := 12) rfl).1, (wf_row hw (j := 12) rfl).2, (wf_row hw (j := 25) rfl).1, (wf_row hw (j := 25) rfl).2, (wf_row hw (j := 28) rfl).1, (wf_row hw (j := 28) rfl).2⟩) (tabs _) (ap_rows hR)
  rw [ap_arr ea] at law
  refine law.mono fun e W' ⟨he, hb⟩ => ?_
  subst he
  have b0 := Below.trod laidOut (by kernel_rfl) (of_decide_eq_true (by kernel_rfl)) h0 hb (fun x hx => hW'.lt x (by simp [hx]))
  have b1 := Below.trod laidOut (by kernel_rfl) (of_decide_eq_true (by kernel_rfl)) h1 hb (fun x hx => hW'.lt x (by simp [hx]))
  have b2 := Below.trod laidOut (by kernel_rfl) (of_decide_eq_true (by kernel_rfl)) h2 hb (fun x hx => hW'.lt x (by simp [hx]))
  have b3 := Below.trod laidOut (by kernel_rfl) (of_decide_eq_true (by kernel_rfl)) h3 hb (fun x hx => hW'.lt x (by simp [hx]))
  exact ⟨_, rfl, _, _, _, [], _, [], hW', trodAll_mk1 (shut_bool Try.underlying4 _), trodAll_mk4 b0 b1 b2 b3, rfl, hb.frame _, fun h => by cases h⟩

theorem unitApart_said : Rows.UnitApartSaid :=
  OpenClaim.holds_of_wide 12 Try.f12 rfl rfl rfl rfl rfl rfl rfl ⟨rfl, rfl, rfl, rfl, rfl⟩ rfl rfl rfl rfl rfl (by kernel_rfl) Try.func12 (by kernel_rfl)
    (of_decide_eq_true (by kernel_rfl)) (by unfold Func.isWrapper; first | (rw [if_pos (by decide +kernel)]; kernel_rfl) | (rw [if_neg (by decide +kernel)]; exact ⟨rfl, rfl⟩))
    (fun os started H enc _ => unitApart_lifted os started H enc)
#print axioms unitApart_said
end Go.Proofs.Ytmfhkiklpiocoaa.Un
end
