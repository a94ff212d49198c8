/- A task (a time, a route, weather) as a parameter. -/
import Derived.Carry
import Derived.ChangeSame
import Derived.Deep.Strs
import Derived.Test.YtmbhjfembfidnaaPb10
import Derived.Test.YtmbhjfembfidnaaPb13
namespace Go.Proofs.Ytmbhjfembfidnaa.Un
open Go Go.Proofs.Ytmbhjfembfidnaa.Sx Go.RowKit Go.ChangeShapes Go.WideShapes Go.ChangeAt
theorem slice_cells2 {P : Program} {w : World} {r : Reach} {b0 : Nat} {t e : TypeId} {v : Value} (ht : P.underlying t = some (.slice e)) (h : Cell.okWide P w r b0 t v) : v.cells.toList = [v] ∧ Value.okWide P w r b0 t v := by
  have ho : Value.okWide P w r b0 t v := by
    unfold Value.okWide
    rw [ht]
    exact h
  refine ⟨?_, ho⟩
  unfold Cell.okWide at h
  rw [ht] at h
  have h' : Cell.ok P w r b0 t v := h
  unfold Cell.ok at h'
  rw [ht] at h'
  cases v <;> first | exact h'.elim | rfl
def fStart : Field := { name := "Start", type := 3, offset := 0, embedded := false, tag := "", pkgPath := "", byteOffset := 0 }
def fRoute : Field := { name := "Route", type := 35, offset := 1, embedded := false, tag := "", pkgPath := "", byteOffset := 8 }
def fSky : Field := { name := "Sky", type := 26, offset := 2, embedded := false, tag := "", pkgPath := "", byteOffset := 32 }
theorem task_under : Try.prog.underlying 37 = some (.struct #[fStart, fRoute, fSky]) := by kernel_rfl
theorem task_cells : Try.prog.cellsOf 37 = 3 := by kernel_rfl
theorem start_cells : Try.prog.cellsOf 3 = 1 := by kernel_rfl
theorem route_cells : Try.prog.cellsOf 35 = 1 := by kernel_rfl
theorem sky_cells : Try.prog.cellsOf 26 = 1 := by kernel_rfl
theorem task_types : Try.prog.cellTypes Try.prog.depth 37 = some [3, 35, 26] := by kernel_rfl
theorem flatStart : flatK Try.prog 3 3 = some (ks 1) := by kernel_rfl
theorem flatWay : flatK Try.prog 3 53 = some (ks 3) := by kernel_rfl
section
variable {H : Type} {enc : TypeId × Value → H} {w : World} {base : Nat} {spare : Nat → Bool} {held : Bool}
set_option maxRecDepth 100000 in
theorem open_task {v : Value} {d : DataW H} {p : List MemPlace} {r : Reach} {b0 : Nat} (ho : Value.okWide Try.prog w r b0 37 v) (h : DataW.Trod enc Try.prog w base spare held 37 v d p) :
    ∃ c l m s0 s1 s2, v = .agg #[c, l, m] ∧ Opn w (.ag ((ks 1).map .sc)) (.agg #[c]) s0 ∧ Opn w (.one (.row (ks 3))) l s1 ∧ Opn w (.one (.row (ks 8))) m s2 := by
  obtain ⟨fuel, hf⟩ := h
  unfold Value.okWide at ho
  rw [task_under] at ho
  obtain ⟨cs, rfl, hsz, ts, hts, -, hcell⟩ := ho
  rw [task_types] at hts
  cases hts
  rw [task_cells] at hsz
  obtain ⟨y0, y1, y2, n, -, -, h0, h1, h2⟩ := Go.Deep.trod_struct3 task_under hf
  obtain ⟨c, l, m, rfl⟩ : ∃ c l m, cs = #[c, l, m] := by
    obtain ⟨xs⟩ := cs
    match xs, hsz with
    | [c, l, m], _ => exact ⟨c, l, m, rfl⟩
  have e0 : (Value.agg #[c, l, m]).cells = #[c, l, m] := rfl
  rw [e0] at h0 h1 h2
  have k0 : ((#[c, l, m] : Array Value).toList.drop fStart.offset).take (Try.prog.cellsOf fStart.type) = [c] := by
    rw [show Try.prog.cellsOf fStart.type = 1 from start_cells]; rfl
  have k1 : ((#[c, l, m] : Array Value).toList.drop fRoute.offset).take (Try.prog.cellsOf fRoute.type) = [l] := by
    rw [show Try.prog.cellsOf fRoute.type = 1 from route_cells]; rfl
  have k2 : ((#[c, l, m] : Array Value).toList.drop fSky.offset).take (Try.prog.cellsOf fSky.type) = [m] := by
    rw [show Try.prog.cellsOf fSky.type = 1 from sky_cells]; rfl
  rw [k0] at h0
  rw [k1] at h1
  rw [k2] at h2
  obtain ⟨xs, hx⟩ := trod_flat 3 _ _ _ _ _ flatStart h0
  obtain ⟨u1, hu1, hc1⟩ := hcell 1 l rfl
  obtain ⟨u2, hu2, hc2⟩ := hcell 2 m rfl
  cases hu1
  cases hu2
  obtain ⟨c1, c2⟩ := slice_cells2 (e := 53) (by kernel_rfl) hc1
  obtain ⟨d1, d2⟩ := slice_cells2 (e := 56) (by kernel_rfl) hc2
  obtain ⟨s1, o1⟩ := opn_row (enc := enc) (base := base) (spare := spare) (held := held) (P := Try.prog) (w := w) (n := 3) (t := 35) (e := 53) (ks := ks 3) (v := l) (d := y1.1) (p := y1.2) (by kernel_rfl) flatWay (by kernel_rfl) (by decide) c2 ⟨n, by rw [c1]; exact h1⟩
  obtain ⟨s2, o2⟩ := opn_row (enc := enc) (base := base) (spare := spare) (held := held) (P := Try.prog) (w := w) (n := 3) (t := 26) (e := 56) (ks := ks 8) (v := m) (d := y2.1) (p := y2.2) (by kernel_rfl) flatFront (by kernel_rfl) (by decide) d2 ⟨n, by rw [d1]; exact h2⟩
  exact ⟨c, l, m, _, s1, s2, rfl, .ag (cs := #[c]) hx, o1, o2⟩
end
def K12' : List LK := (Kd.s :: ks 11).map .sc
/-- the arguments of a unit and a task, in a row, and as the law has them. -/
def utK' : List AK := [.ag K12', .ag ((ks 1).map .sc), .one (.row (ks 3)), .one (.row (ks 8))]
def utK : List AK := [.ag K12', .ag [.sc (.i .i64), .row (ks 3), .row (ks 8)]]
theorem ut_rows {ρ : Env} {w : World} (h : RowsAt ρ w utK') : RowsAt ρ w utK := h
theorem agg_one {ρ : Env} {n : Nat} {c : Value} (h : (patA n (.ag ((ks 1).map .sc))).den ρ = .agg #[c]) : (V.i .i64 (.v n)).den ρ = c := by
  have h2 : Value.agg #[(V.i .i64 (.v n)).den ρ] = .agg #[c] := h
  injection h2 with h2
  simpa using h2
theorem ut_arr {ρ : Env} {u c l m : Value} (h : arr ρ (patAs 0 utK') = [u, .agg #[c], l, m].toArray) : arr ρ (patAs 0 utK) = #[u, .agg #[c, l, m]] := by
  have h' : (patAs 0 utK').map (V.den ρ) = [u, .agg #[c], l, m] := by
    have := congrArg Array.toList h
    unfold arr at this
    simpa using this
  rw [show patAs 0 utK' = [patA 0 (.ag K12'), patA 12 (.ag ((ks 1).map .sc)), .var 13, .var 14] from rfl] at h'
  simp only [List.map_cons, List.map_nil, List.cons.injEq, and_true] at h'
  obtain ⟨a1, a2, a3, a4⟩ := h'
  rw [show patAs 0 utK = [patA 0 (.ag K12'), .agg (V.ofL [.i .i64 (.v 12), .var 13, .var 14])] from rfl]
  have e : V.den ρ (.agg (V.ofL [.i .i64 (.v 12), .var 13, .var 14])) = .agg #[(V.i .i64 (.v 12)).den ρ, V.den ρ (.var 13), V.den ρ (.var 14)] := rfl
  unfold arr
  simp only [List.map_cons, List.map_nil]
  rw [a1, e, agg_one a2, a3, a4]
end Go.Proofs.Ytmbhjfembfidnaa.Un
