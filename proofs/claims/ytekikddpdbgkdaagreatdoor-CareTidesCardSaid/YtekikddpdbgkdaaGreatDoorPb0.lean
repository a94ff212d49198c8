/- Layer 11 (care): the law of tides, case by case: what is known, contracts whose ends cannot all be. -/
import Derived.Test.YtekikddpdbgkdaaGreatDoorPa20
namespace Go.Proofs.YtekikddpdbgkdaaGreatDoor.Ca
open Go Go.Proofs.YtekikddpdbgkdaaGreatDoor.Sx Go.RowKit
variable {TT : Tb}
/-- A contract without the ends that cannot be. -/
def cut (q : Ctr) : Ctr := ⟨q.f, fun args σ => (q.run args σ).map fun l => l.filter fun o => !contra o.st.F⟩
theorem cut_ok {P : Program} {q : Ctr} (h : CtrOk TT P q) : CtrOk TT P (cut q) := by
  intro args σ outs hr hok ha ρ w0 w R hs hg
  simp only [cut, Option.map_eq_some_iff] at hr
  obtain ⟨l, hl, rfl⟩ := hr
  refine h args σ l hl hok ha ρ w0 w R hs fun o ho ρ' w' hx hs' => ?_
  by_cases hc : contra o.st.F = true
  · exact absurd hs'.fact (contra_ok hc)
  · exact hg o (List.mem_filter.2 ⟨ho, by simp [hc]⟩) ρ' w' hx hs'
def lawTK : List AK := [groundK, tidesK, .one K, .one K, .ag [U16, U16]]
def lawTF : List E := btw 0 8 65535 ++ btw 0 9 65535 ++ [.le (.c 0) (.v 5), .le (.v 5) (.c 9223372036854775807), .le (.c (-9223372036854775808)) (.v 6), .le (.v 6) (.c 9223372036854775807), .le (.c (-9223372036854775808)) (.v 7), .le (.v 7) (.c 9223372036854775807)]
def tidesG : Ctx := { calls := [cAwake, cut cTideR, cut cGroundR, cFloat, cOffR] }
def fineT : List E := [tideE5, groundE, .le (.c 1) (.v 5), .le (.v 5) (.c 100), .le t0E (.v 6), .le (.v 6) endE5, .le (.c 0) t0E, .le (.c 0) (.v 6), .le (.v 6) (.c 10000000), .le (.c 0) endE5, .le endE5 (.c 10000000)] ++ groundFs
def errE : E := .app 12 flTl
def allT : E := .add (.sub endE5 (.v 6)) (.c 1)
def atE : E := .wrap .i64 (.add (.v 6) (.rem (.wrap .i64 (.add (.rem (.v 7) allT) allT)) allT))
def aE : E := .app 10 flTl
def bE : E := .app 11 flTl
def offAt (t : E) : List E := [.le (.nthI (.lv 5) (.mul (.c 0) (.c 2))) t, .le t endE5, .le (.c 0) t, .le t (.c 10000000)]
def noneT : List E := fineT ++ [.eq errE (.c 7), .not (.eq allT (.c 0)), .not (offE5 atE)] ++ offAt atE
def someT : List E := fineT ++ [.eq errE (.c 0), .le (.v 6) aE, .le aE bE, .le bE endE5, offE5 aE, offE5 bE, .not (.eq allT (.c 0))] ++ offAt aE ++ offAt bE ++ offAt atE
def deE : E := .ite (.lt (.add (.v 1) (.v 9)) (.c 100000)) (.add (.v 1) (.v 9)) (.c 100000)
def puE : E := .ite (.lt (.add (.v 3) (.v 8)) (.c 1000000)) (.add (.v 3) (.v 8)) (.c 1000000)
def tl2 : E := .cons (.v 6) (.cons (.v 0) (.cons deE (.cons (.v 2) (.cons puE (.cons (.v 4) (.cons (.v 5) (.lv 5)))))))
def moreT : List E := [.eq (.app 12 tl2) (.c 0), .le (.app 10 tl2) aE]
def atV : List (List E) := [[.lt atE aE, .not (offE5 atE)], [.le aE atE, .le atE bE, offE5 atE], [.le aE atE, .lt bE atE]]
def aV : List (List E) := [[.le aE (.v 6)], [.lt (.v 6) aE, .not (offE5 (.sub aE (.c 1)))] ++ offAt (.sub aE (.c 1))]
def bV : List (List E) := [[.le endE5 bE], [.lt bE endE5, .not (offE5 (.add bE (.c 1)))] ++ offAt (.add bE (.c 1))]
/-! ### More pull, deeper water -/
theorem off_more {dr de de' tp pu pu' fr t0 h0 t1 h1 t : Int} (htp : 0 ≤ tp) (hfr : 0 ≤ fr) (hde : de ≤ de') (hpu : pu ≤ pu') (h : offS dr de tp pu fr t0 h0 t1 h1 t = true) : offS dr de' tp pu' fr t0 h0 t1 h1 t = true := by
  unfold offS at h ⊢
  rw [decide_eq_true_eq] at h ⊢
  generalize hL : max 1 (t1 - t0) = L at h ⊢
  have hL0 : 0 ≤ L := by omega
  have a1 : (dr - de' - h0) * L ≤ (dr - de - h0) * L := Int.mul_le_mul_of_nonneg_right (by omega) hL0
  have a2 : tp * ((dr - de' - h0) * L - (h1 - h0) * (t - t0)) ≤ tp * ((dr - de - h0) * L - (h1 - h0) * (t - t0)) := Int.mul_le_mul_of_nonneg_left (by omega) htp
  have a3 := Int.mul_le_mul_of_nonneg_right a2 hfr
  have a4 : 10000 * pu * L ≤ 10000 * pu' * L := Int.mul_le_mul_of_nonneg_right (by omega) hL0
  omega
theorem offT_more {a b c d e b' d' n t : Int} {l : LL} (hc : 0 ≤ c) (he : 0 ≤ e) (hb : b ≤ b') (hd : d ≤ d') (h : offT (gl a b c d e) n l t = true) : offT (gl a b' c d' e) n l t = true := off_more hc he hb hd h
/-- The first time is no later. -/
theorem first_more {a b c d e b' d' n fr : Int} {l : LL} (ht : tideB n l = true) (hf : tT l 0 ≤ fr ∧ fr ≤ tT l (n - 1)) (hc : 0 ≤ c) (he : 0 ≤ e) (hb : b ≤ b') (hd : d ≤ d') (h : fstT true (gl a b c d e) n l fr ≤ tT l (n - 1)) : fstT true (gl a b' c d' e) n l fr ≤ fstT true (gl a b c d e) n l fr := by
  have s := fst_spec (x := true) (g := gl a b c d e) ht hf
  have o := offT_more (b' := b') (d' := d') hc he hb hd (first_on (x := true) (g := gl a b c d e) ht hf h)
  rcases Int.lt_or_le (fstT true (gl a b c d e) n l fr) (fstT true (gl a b' c d' e) n l fr) with hh | hh
  · have := on_at (x := true) (g := gl a b' c d' e) ht hf s.1 hh
    rw [o] at this; cases this
  · exact hh
/-! ### The runs -/
noncomputable def runT (F : List E) : Bool := chkVal Tryz.prog tidesG 2000 6 lawTK (lawTF ++ F) (.b .tt) DD
def badF : List (List E) := [[.not tideE5], [.not groundE], [tideE5, groundE, .le (.c 1) (.v 5), .le (.v 5) (.c 100), .eq errE (.c 4), .lt (.v 6) t0E], [tideE5, groundE, .le (.c 1) (.v 5), .le (.v 5) (.c 100), .eq errE (.c 4), .lt endE5 (.v 6)], noneT]
set_option maxHeartbeats 4000000 in
theorem run_bad : badF.all runT = true := by kernel_rfl
end Go.Proofs.YtekikddpdbgkdaaGreatDoor.Ca
