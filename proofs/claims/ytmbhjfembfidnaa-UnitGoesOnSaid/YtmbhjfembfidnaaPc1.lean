/- Layer 9 (unit): Again, by the code: its contract. -/
import Derived.Test.YtmbhjfembfidnaaPc0
namespace Go.Proofs.Ytmbhjfembfidnaa.Un
open Go Go.Proofs.Ytmbhjfembfidnaa.Sx Go.RowKit
variable {TT : Tb}
/-- what is known of the list of a plan that is made anew. -/
structure AgL (ρ : Env) (n : Int) (ways l : LL) : Prop where
  h0 : nI l 0 = ρ.i 1
  h1 : nI l 1 = ρ.i 3
  h6 : nI l 6 = ρ.i 8
  h7 : nI l 7 = ρ.i 9
  h14 : nI l 14 = n
  at0 : stAt l 0 = ⟨agX.I ρ, agY.I ρ, ρ.i 13, agU.I ρ⟩
  way : pWays l = ways
theorem agL_of {ρ : Env} (h15 : (ρ.l 15).length = (8 * ρ.i 15).toNat) (n ways : E) : AgL ρ (n.I ρ) (ways.L ρ) ((agLs n ways).L ρ) where
  h0 := rfl
  h1 := rfl
  h6 := rfl
  h7 := rfl
  h14 := rfl
  at0 := rfl
  way := by
    show ((ρ.l 15 ++ ways.L ρ).drop (8 * ρ.i 15).toNat) = _
    rw [← h15, List.drop_left']
    rfl
theorem way_ok1 {x y : Int} (h : spotB x y = true) : allTo 1 (atB 3 wayA [(x, ⟨#[]⟩), (y, ⟨#[]⟩), (0, ⟨#[]⟩)]) = true := by
  simp only [spotB, decide_eq_true_eq] at h
  refine allTo_of fun k h0 hk => ?_
  obtain rfl : k = 0 := by omega
  simp [atB, allE, wayA, spotA, timeA, btw, envAt, nI]
  omega
theorem row_end {_a _b _c : Int} {u : Value} : Ending.returned (.tuple #[u, .int .i64 (-1), .int .i64 0, .int .i64 0]) = .returned (.tuple #[u, .int .i64 (-1), .int .i64 0, .int .i64 0]) := rfl
def ahq0 : E := .app 7 (.cons (.v 12) (.cons (.v 13) (.lv 12)))
def ahq1 : E := .lt ahq0 (.v 12)
def ahq2 : E := .mul ahq0 (.c 8)
def ahq3 : E := .nthI (.lv 12) (.add ahq2 (.c 4))
def ahq4 : E := .le ahq3 (.v 13)
def ahq5 : E := .nthI (.lv 12) (.add ahq2 (.c 6))
def ahq6 : E := .le (.v 13) ahq5
def ahq7 : E := .le (.len (.sv 0)) (.c 4611686018427387904)
def ahq8 : E := .app 3 (.cons (.nthI (.lv 12) ahq2) (.cons (.nthI (.lv 12) (.add ahq2 (.c 2))) (.cons ahq3 (.cons (.nthI (.lv 12) (.add ahq2 (.c 5))) (.cons (.v 13) .nil)))))
def ahq9 : E := .le ahq8 (.c 16777216)
def ahq10 : E := .le (.c (-16777216)) ahq8
def ahq11 : E := .le ahq8 (.c 1073741824)
def ahq12 : E := .app 3 (.cons (.nthI (.lv 12) (.add ahq2 (.c 1))) (.cons (.nthI (.lv 12) (.add ahq2 (.c 3))) (.cons ahq3 (.cons (.nthI (.lv 12) (.add ahq2 (.c 5))) (.cons (.v 13) .nil)))))
def ahq13 : E := .le (.c (-16777216)) ahq12
def ahq14 : E := .le ahq12 (.c 1073741824)
def ahq15 : E := .app 4 (.cons (.nthI (.lv 12) ahq2) (.cons (.nthI (.lv 12) (.add ahq2 (.c 2))) (.cons ahq3 (.cons (.nthI (.lv 12) (.add ahq2 (.c 5))) (.cons (.v 13) .nil)))))
def ahq16 : E := .le (.c (-16777216)) ahq15
def ahq17 : E := .le ahq15 (.c 1073741824)
def ahq18 : E := .app 4 (.cons (.nthI (.lv 12) (.add ahq2 (.c 1))) (.cons (.nthI (.lv 12) (.add ahq2 (.c 3))) (.cons ahq3 (.cons (.nthI (.lv 12) (.add ahq2 (.c 5))) (.cons (.v 13) .nil)))))
def ahq19 : E := .le (.c (-16777216)) ahq18
def ahq20 : E := .le ahq18 (.c 1073741824)
def ahq21 : E := .le ahq12 (.c 16777216)
def ahq22 : E := .app 8 (.cons (.nthI (.lv 12) (.add ahq2 (.c 7))) (.cons (.v 3) (.cons ahq5 (.cons (.v 13) .nil))))
def ahq23 : E := .le (.c 0) ahq22
def ahq24 : E := .le ahq22 (.c 1099511627776)
def ahq25 : E := .app 11 (.cons (.v 1) (.cons (.v 3) (.cons (.v 4) (.cons (.v 5) (.cons (.v 6) (.cons (.v 7) (.cons (.v 8) (.cons (.v 9) (.cons (.nthI (.lv 12) (.c 4)) (.cons ahq8 (.cons ahq12 (.cons (.v 13) (.cons ahq22 (.cons (.v 15) (.cons (.v 14) (.lcat (.lv 15) (.lv 14)))))))))))))))))
def ahq26 : E := .happ 5 (.cons (.c 1) (.cons ahq8 (.cons ahq12 (.cons (.c 0) .nil))))
def ahq27 : E := .app 11 (.cons (.v 1) (.cons (.v 3) (.cons (.v 4) (.cons (.v 5) (.cons (.v 6) (.cons (.v 7) (.cons (.v 8) (.cons (.v 9) (.cons (.nthI (.lv 12) (.c 4)) (.cons ahq8 (.cons ahq12 (.cons (.v 13) (.cons ahq22 (.cons (.v 15) (.cons (.c 1) (.lcat (.lv 15) (.cons ahq8 (.cons ahq12 (.cons (.c 0) .nil)))))))))))))))))))
set_option maxHeartbeats 8000000 in
theorem again_ok (u : Fit TT) : CtrOk TT Try.prog cAgain := ctrRowC_ok rfl fun ρ w hF0 hT hR => by
  have hF1 := ag_rows hR hF0
  obtain ⟨hg, hh⟩ := u.tab hT
  have hm := u.m hT
  obtain ⟨hn15, hl15⟩ := row_facts hR (k := 15) (kds := ints 8) (by decide)
  obtain ⟨hn14, hl14⟩ := row_facts hR (k := 14) (kds := ints 3) (by decide)
  have h15 : (ρ.l 15).length = (8 * ρ.i 15).toNat := by rw [hl15]; simp [ints]; omega
  have k1 : AgL ρ 1 [(agX.I ρ, ⟨#[]⟩), (agY.I ρ, ⟨#[]⟩), (0, ⟨#[]⟩)] (ag1.L ρ) := agL_of h15 (.c 1) (lvE [agX, agY, .c 0] .nil)
  have k0 : AgL ρ (ρ.i 14) (ρ.l 14) (agP.L ρ) := agL_of h15 (.v 14) (.lv 14)
  have e11 : (E.app 11 ag1).I ρ = badIx (ag1.L ρ) := by show ρ.g 11 _ = _; rw [hg]; rfl
  have e12 : (E.app 12 ag1).I ρ = planWhy (ag1.L ρ) := by show ρ.g 12 _ = _; rw [hg]; rfl
  have e17 : (E.app 17 ag1).I ρ = whyB (ag1.L ρ) (stAt (ag1.L ρ) 0) 0 := by show ρ.g 17 _ = _; rw [hg]; rfl
  have e3 : (E.lapp 3 ag1).L ρ = planL (ag1.L ρ) := by show ρ.m 3 _ = _; rw [hm]; rfl
  have e3' : (E.lapp 3 agP).L ρ = planL (agP.L ρ) := by show ρ.m 3 _ = _; rw [hm]; rfl
  have b1 := bad_one (l := ag1.L ρ) k1.h14
  refine pat_callsD DD_ok (Γ := agG) (by simpa [agG] using ⟨CheckUnit_ok u.open (isName_ok u.open.open), areLegs_ok u.open, CheckWeather_ok u.open, allWays_ok u.open, legAt_ok u.open, placeAt_ok u.open, leftAt_ok u.open, ctrProm_ok (follow_ok u.open)⟩) 400 agK agF'
    [⟨(.val (.tup (.cons .nils (.cons (.i .i64 (.c (-1))) (.cons (.i .i64 (.c 0)) (.cons (.i .i64 (.c 3)) .nil)))))), [(.lt (.c 30) (.v 14)), (.le (.c 0) ahq0), ahq1, ahq4, ahq6, (.le (.c 0) (.v 13)), (.le (.v 13) (.c 1073741824)), (.happ 5 (.cons (.v 14) (.lv 14))), (.allr (-16777216) 1073741824 (.lv 14)), (.le (.v 15) (.c 100)), (.happ 4 (.cons (.v 15) (.lv 15))), (.allr (-16777216) 1073741824 (.lv 15)), (.lt (.c 0) (.v 12)), (.happ 2 (.cons (.v 12) (.lv 12))), (.happ 3 (.cons (.v 12) (.lv 12))), (.allr (-16777216) 1073741824 (.lv 12)), (.happ 0 (.cons (.sv 0) .nil)), (.le (.c 1) (.v 1)), (.le (.v 1) (.c 1000000)), (.le (.c 0) (.v 2)), (.le (.v 2) (.c 1073741824)), (.le (.c 0) (.v 3)), (.le (.v 3) (.c 1048576)), (.le (.c 0) (.v 4)), (.le (.v 4) (.v 2)), (.le (.c 0) (.v 5)), (.le (.v 5) (.c 1073741824)), (.le (.c 0) (.v 6)), (.le (.v 6) (.c 100)), (.le (.c 0) (.v 7)), (.le (.v 7) (.c 100)), (.le (.c (-16777216)) (.v 8)), (.le (.v 8) (.c 16777216)), (.le (.c (-16777216)) (.v 9)), (.le (.v 9) (.c 16777216)), (.le (.c 0) (.v 10)), (.le (.v 10) (.c 100000)), (.le (.c 0) (.v 11)), (.le (.v 11) (.c 100)), (.le (.c 0) (.v 12)), (.le (.c 0) (.v 14)), (.le (.c 0) (.v 15)), ahq7, (.le (.v 12) (.c 1000000)), (.le (.v 14) (.c 1000000)), (.le (.v 15) (.c 1000000))], []⟩,
⟨(.must ahq9), [(.lt (.c 0) (.v 14)), ahq10, ahq11, ahq13, ahq14, ahq16, ahq17, ahq19, ahq20, (.le (.v 14) (.c 30)), (.le (.c 0) ahq0), ahq1, ahq4, ahq6, (.le (.c 0) (.v 13)), (.le (.v 13) (.c 1073741824)), (.happ 5 (.cons (.v 14) (.lv 14))), (.allr (-16777216) 1073741824 (.lv 14)), (.le (.v 15) (.c 100)), (.happ 4 (.cons (.v 15) (.lv 15))), (.allr (-16777216) 1073741824 (.lv 15)), (.lt (.c 0) (.v 12)), (.happ 2 (.cons (.v 12) (.lv 12))), (.happ 3 (.cons (.v 12) (.lv 12))), (.allr (-16777216) 1073741824 (.lv 12)), (.happ 0 (.cons (.sv 0) .nil)), (.le (.c 1) (.v 1)), (.le (.v 1) (.c 1000000)), (.le (.c 0) (.v 2)), (.le (.v 2) (.c 1073741824)), (.le (.c 0) (.v 3)), (.le (.v 3) (.c 1048576)), (.le (.c 0) (.v 4)), (.le (.v 4) (.v 2)), (.le (.c 0) (.v 5)), (.le (.v 5) (.c 1073741824)), (.le (.c 0) (.v 6)), (.le (.v 6) (.c 100)), (.le (.c 0) (.v 7)), (.le (.v 7) (.c 100)), (.le (.c (-16777216)) (.v 8)), (.le (.v 8) (.c 16777216)), (.le (.c (-16777216)) (.v 9)), (.le (.v 9) (.c 16777216)), (.le (.c 0) (.v 10)), (.le (.v 10) (.c 100000)), (.le (.c 0) (.v 11)), (.le (.v 11) (.c 100)), (.le (.c 0) (.v 12)), (.le (.c 0) (.v 14)), (.le (.c 0) (.v 15)), ahq7, (.le (.v 12) (.c 1000000)), (.le (.v 14) (.c 1000000)), (.le (.v 15) (.c 1000000))], []⟩,
⟨(.must ahq21), [(.lt (.c 0) (.v 14)), ahq10, ahq11, ahq13, ahq14, ahq16, ahq17, ahq19, ahq20, (.le (.v 14) (.c 30)), (.le (.c 0) ahq0), ahq1, ahq4, ahq6, (.le (.c 0) (.v 13)), (.le (.v 13) (.c 1073741824)), (.happ 5 (.cons (.v 14) (.lv 14))), (.allr (-16777216) 1073741824 (.lv 14)), (.le (.v 15) (.c 100)), (.happ 4 (.cons (.v 15) (.lv 15))), (.allr (-16777216) 1073741824 (.lv 15)), (.lt (.c 0) (.v 12)), (.happ 2 (.cons (.v 12) (.lv 12))), (.happ 3 (.cons (.v 12) (.lv 12))), (.allr (-16777216) 1073741824 (.lv 12)), (.happ 0 (.cons (.sv 0) .nil)), (.le (.c 1) (.v 1)), (.le (.v 1) (.c 1000000)), (.le (.c 0) (.v 2)), (.le (.v 2) (.c 1073741824)), (.le (.c 0) (.v 3)), (.le (.v 3) (.c 1048576)), (.le (.c 0) (.v 4)), (.le (.v 4) (.v 2)), (.le (.c 0) (.v 5)), (.le (.v 5) (.c 1073741824)), (.le (.c 0) (.v 6)), (.le (.v 6) (.c 100)), (.le (.c 0) (.v 7)), (.le (.v 7) (.c 100)), (.le (.c (-16777216)) (.v 8)), (.le (.v 8) (.c 16777216)), (.le (.c (-16777216)) (.v 9)), (.le (.v 9) (.c 16777216)), (.le (.c 0) (.v 10)), (.le (.v 10) (.c 100000)), (.le (.c 0) (.v 11)), (.le (.v 11) (.c 100)), (.le (.c 0) (.v 12)), (.le (.c 0) (.v 14)), (.le (.c 0) (.v 15)), ahq7, (.le (.v 12) (.c 1000000)), (.le (.v 14) (.c 1000000)), (.le (.v 15) (.c 1000000))], []⟩,
⟨(.must (.le (.c 0) (.nthI (.lv 12) (.c 4)))), [(.lt (.c 0) (.v 14)), ahq10, ahq11, ahq13, ahq14, ahq16, ahq17, ahq19, ahq20, (.le (.v 14) (.c 30)), (.le (.c 0) ahq0), ahq1, ahq4, ahq6, (.le (.c 0) (.v 13)), (.le (.v 13) (.c 1073741824)), (.happ 5 (.cons (.v 14) (.lv 14))), (.allr (-16777216) 1073741824 (.lv 14)), (.le (.v 15) (.c 100)), (.happ 4 (.cons (.v 15) (.lv 15))), (.allr (-16777216) 1073741824 (.lv 15)), (.lt (.c 0) (.v 12)), (.happ 2 (.cons (.v 12) (.lv 12))), (.happ 3 (.cons (.v 12) (.lv 12))), (.allr (-16777216) 1073741824 (.lv 12)), (.happ 0 (.cons (.sv 0) .nil)), (.le (.c 1) (.v 1)), (.le (.v 1) (.c 1000000)), (.le (.c 0) (.v 2)), (.le (.v 2) (.c 1073741824)), (.le (.c 0) (.v 3)), (.le (.v 3) (.c 1048576)), (.le (.c 0) (.v 4)), (.le (.v 4) (.v 2)), (.le (.c 0) (.v 5)), (.le (.v 5) (.c 1073741824)), (.le (.c 0) (.v 6)), (.le (.v 6) (.c 100)), (.le (.c 0) (.v 7)), (.le (.v 7) (.c 100)), (.le (.c (-16777216)) (.v 8)), (.le (.v 8) (.c 16777216)), (.le (.c (-16777216)) (.v 9)), (.le (.v 9) (.c 16777216)), (.le (.c 0) (.v 10)), (.le (.v 10) (.c 100000)), (.le (.c 0) (.v 11)), (.le (.v 11) (.c 100)), (.le (.c 0) (.v 12)), (.le (.c 0) (.v 14)), (.le (.c 0) (.v 15)), ahq7, (.le (.v 12) (.c 1000000)), (.le (.v 14) (.c 1000000)), (.le (.v 15) (.c 1000000))], []⟩,
⟨(.must ahq23), [(.lt (.c 0) (.v 14)), ahq10, ahq11, ahq13, ahq14, ahq16, ahq17, ahq19, ahq20, (.le (.v 14) (.c 30)), (.le (.c 0) ahq0), ahq1, ahq4, ahq6, (.le (.c 0) (.v 13)), (.le (.v 13) (.c 1073741824)), (.happ 5 (.cons (.v 14) (.lv 14))), (.allr (-16777216) 1073741824 (.lv 14)), (.le (.v 15) (.c 100)), (.happ 4 (.cons (.v 15) (.lv 15))), (.allr (-16777216) 1073741824 (.lv 15)), (.lt (.c 0) (.v 12)), (.happ 2 (.cons (.v 12) (.lv 12))), (.happ 3 (.cons (.v 12) (.lv 12))), (.allr (-16777216) 1073741824 (.lv 12)), (.happ 0 (.cons (.sv 0) .nil)), (.le (.c 1) (.v 1)), (.le (.v 1) (.c 1000000)), (.le (.c 0) (.v 2)), (.le (.v 2) (.c 1073741824)), (.le (.c 0) (.v 3)), (.le (.v 3) (.c 1048576)), (.le (.c 0) (.v 4)), (.le (.v 4) (.v 2)), (.le (.c 0) (.v 5)), (.le (.v 5) (.c 1073741824)), (.le (.c 0) (.v 6)), (.le (.v 6) (.c 100)), (.le (.c 0) (.v 7)), (.le (.v 7) (.c 100)), (.le (.c (-16777216)) (.v 8)), (.le (.v 8) (.c 16777216)), (.le (.c (-16777216)) (.v 9)), (.le (.v 9) (.c 16777216)), (.le (.c 0) (.v 10)), (.le (.v 10) (.c 100000)), (.le (.c 0) (.v 11)), (.le (.v 11) (.c 100)), (.le (.c 0) (.v 12)), (.le (.c 0) (.v 14)), (.le (.c 0) (.v 15)), ahq7, (.le (.v 12) (.c 1000000)), (.le (.v 14) (.c 1000000)), (.le (.v 15) (.c 1000000))], []⟩,
⟨(.must ahq24), [(.lt (.c 0) (.v 14)), ahq10, ahq11, ahq13, ahq14, ahq16, ahq17, ahq19, ahq20, (.le (.v 14) (.c 30)), (.le (.c 0) ahq0), ahq1, ahq4, ahq6, (.le (.c 0) (.v 13)), (.le (.v 13) (.c 1073741824)), (.happ 5 (.cons (.v 14) (.lv 14))), (.allr (-16777216) 1073741824 (.lv 14)), (.le (.v 15) (.c 100)), (.happ 4 (.cons (.v 15) (.lv 15))), (.allr (-16777216) 1073741824 (.lv 15)), (.lt (.c 0) (.v 12)), (.happ 2 (.cons (.v 12) (.lv 12))), (.happ 3 (.cons (.v 12) (.lv 12))), (.allr (-16777216) 1073741824 (.lv 12)), (.happ 0 (.cons (.sv 0) .nil)), (.le (.c 1) (.v 1)), (.le (.v 1) (.c 1000000)), (.le (.c 0) (.v 2)), (.le (.v 2) (.c 1073741824)), (.le (.c 0) (.v 3)), (.le (.v 3) (.c 1048576)), (.le (.c 0) (.v 4)), (.le (.v 4) (.v 2)), (.le (.c 0) (.v 5)), (.le (.v 5) (.c 1073741824)), (.le (.c 0) (.v 6)), (.le (.v 6) (.c 100)), (.le (.c 0) (.v 7)), (.le (.v 7) (.c 100)), (.le (.c (-16777216)) (.v 8)), (.le (.v 8) (.c 16777216)), (.le (.c (-16777216)) (.v 9)), (.le (.v 9) (.c 16777216)), (.le (.c 0) (.v 10)), (.le (.v 10) (.c 100000)), (.le (.c 0) (.v 11)), (.le (.v 11) (.c 100)), (.le (.c 0) (.v 12)), (.le (.c 0) (.v 14)), (.le (.c 0) (.v 15)), ahq7, (.le (.v 12) (.c 1000000)), (.le (.v 14) (.c 1000000)), (.le (.v 15) (.c 1000000))], []⟩,
⟨(.val (.tup (.cons (.var 21) (.cons (.i .i64 (.c (-1))) (.cons (.i .i64 (.c 0)) (.cons (.i .i64 (.c 0)) .nil)))))), [(.lt ahq25 (.c 0)), ahq9, ahq21, (.le (.c 0) (.nthI (.lv 12) (.c 4))), ahq23, ahq24, (.lt (.c 0) (.v 14)), ahq10, ahq11, ahq13, ahq14, ahq16, ahq17, ahq19, ahq20, (.le (.v 14) (.c 30)), (.le (.c 0) ahq0), ahq1, ahq4, ahq6, (.le (.c 0) (.v 13)), (.le (.v 13) (.c 1073741824)), (.happ 5 (.cons (.v 14) (.lv 14))), (.allr (-16777216) 1073741824 (.lv 14)), (.le (.v 15) (.c 100)), (.happ 4 (.cons (.v 15) (.lv 15))), (.allr (-16777216) 1073741824 (.lv 15)), (.lt (.c 0) (.v 12)), (.happ 2 (.cons (.v 12) (.lv 12))), (.happ 3 (.cons (.v 12) (.lv 12))), (.allr (-16777216) 1073741824 (.lv 12)), (.happ 0 (.cons (.sv 0) .nil)), (.le (.c 1) (.v 1)), (.le (.v 1) (.c 1000000)), (.le (.c 0) (.v 2)), (.le (.v 2) (.c 1073741824)), (.le (.c 0) (.v 3)), (.le (.v 3) (.c 1048576)), (.le (.c 0) (.v 4)), (.le (.v 4) (.v 2)), (.le (.c 0) (.v 5)), (.le (.v 5) (.c 1073741824)), (.le (.c 0) (.v 6)), (.le (.v 6) (.c 100)), (.le (.c 0) (.v 7)), (.le (.v 7) (.c 100)), (.le (.c (-16777216)) (.v 8)), (.le (.v 8) (.c 16777216)), (.le (.c (-16777216)) (.v 9)), (.le (.v 9) (.c 16777216)), (.le (.c 0) (.v 10)), (.le (.v 10) (.c 100000)), (.le (.c 0) (.v 11)), (.le (.v 11) (.c 100)), (.le (.c 0) (.v 12)), (.le (.c 0) (.v 14)), (.le (.c 0) (.v 15)), ahq7, (.le (.v 12) (.c 1000000)), (.le (.v 14) (.c 1000000)), (.le (.v 15) (.c 1000000))], [(21, ⟨true, 51, [(.i .i64), (.i .i64), (.i .i64), (.i .i64), (.i .i64), (.i .i64), (.i .i64), (.i .i64)], (.add (.v 14) (.c 1)), (.lapp 3 (.cons (.v 1) (.cons (.v 3) (.cons (.v 4) (.cons (.v 5) (.cons (.v 6) (.cons (.v 7) (.cons (.v 8) (.cons (.v 9) (.cons (.nthI (.lv 12) (.c 4)) (.cons ahq8 (.cons ahq12 (.cons (.v 13) (.cons ahq22 (.cons (.v 15) (.cons (.v 14) (.lcat (.lv 15) (.lv 14))))))))))))))))))⟩)]⟩,
⟨(.val (.tup (.cons .nils (.cons (.i .i64 ahq25) (.cons (.i .i64 (.app 12 (.cons (.v 1) (.cons (.v 3) (.cons (.v 4) (.cons (.v 5) (.cons (.v 6) (.cons (.v 7) (.cons (.v 8) (.cons (.v 9) (.cons (.nthI (.lv 12) (.c 4)) (.cons ahq8 (.cons ahq12 (.cons (.v 13) (.cons ahq22 (.cons (.v 15) (.cons (.v 14) (.lcat (.lv 15) (.lv 14))))))))))))))))))) (.cons (.i .i64 (.c 9)) .nil)))))), [(.le (.c 0) ahq25), (.lt ahq25 (.v 14)), ahq9, ahq21, (.le (.c 0) (.nthI (.lv 12) (.c 4))), ahq23, ahq24, (.lt (.c 0) (.v 14)), ahq10, ahq11, ahq13, ahq14, ahq16, ahq17, ahq19, ahq20, (.le (.v 14) (.c 30)), (.le (.c 0) ahq0), ahq1, ahq4, ahq6, (.le (.c 0) (.v 13)), (.le (.v 13) (.c 1073741824)), (.happ 5 (.cons (.v 14) (.lv 14))), (.allr (-16777216) 1073741824 (.lv 14)), (.le (.v 15) (.c 100)), (.happ 4 (.cons (.v 15) (.lv 15))), (.allr (-16777216) 1073741824 (.lv 15)), (.lt (.c 0) (.v 12)), (.happ 2 (.cons (.v 12) (.lv 12))), (.happ 3 (.cons (.v 12) (.lv 12))), (.allr (-16777216) 1073741824 (.lv 12)), (.happ 0 (.cons (.sv 0) .nil)), (.le (.c 1) (.v 1)), (.le (.v 1) (.c 1000000)), (.le (.c 0) (.v 2)), (.le (.v 2) (.c 1073741824)), (.le (.c 0) (.v 3)), (.le (.v 3) (.c 1048576)), (.le (.c 0) (.v 4)), (.le (.v 4) (.v 2)), (.le (.c 0) (.v 5)), (.le (.v 5) (.c 1073741824)), (.le (.c 0) (.v 6)), (.le (.v 6) (.c 100)), (.le (.c 0) (.v 7)), (.le (.v 7) (.c 100)), (.le (.c (-16777216)) (.v 8)), (.le (.v 8) (.c 16777216)), (.le (.c (-16777216)) (.v 9)), (.le (.v 9) (.c 16777216)), (.le (.c 0) (.v 10)), (.le (.v 10) (.c 100000)), (.le (.c 0) (.v 11)), (.le (.v 11) (.c 100)), (.le (.c 0) (.v 12)), (.le (.c 0) (.v 14)), (.le (.c 0) (.v 15)), ahq7, (.le (.v 12) (.c 1000000)), (.le (.v 14) (.c 1000000)), (.le (.v 15) (.c 1000000))], []⟩,
⟨(.must ahq9), [(.le (.v 14) (.c 0)), ahq10, ahq11, ahq13, ahq14, ahq16, ahq17, ahq19, ahq20, (.le (.v 14) (.c 30)), (.le (.c 0) ahq0), ahq1, ahq4, ahq6, (.le (.c 0) (.v 13)), (.le (.v 13) (.c 1073741824)), (.happ 5 (.cons (.v 14) (.lv 14))), (.allr (-16777216) 1073741824 (.lv 14)), (.le (.v 15) (.c 100)), (.happ 4 (.cons (.v 15) (.lv 15))), (.allr (-16777216) 1073741824 (.lv 15)), (.lt (.c 0) (.v 12)), (.happ 2 (.cons (.v 12) (.lv 12))), (.happ 3 (.cons (.v 12) (.lv 12))), (.allr (-16777216) 1073741824 (.lv 12)), (.happ 0 (.cons (.sv 0) .nil)), (.le (.c 1) (.v 1)), (.le (.v 1) (.c 1000000)), (.le (.c 0) (.v 2)), (.le (.v 2) (.c 1073741824)), (.le (.c 0) (.v 3)), (.le (.v 3) (.c 1048576)), (.le (.c 0) (.v 4)), (.le (.v 4) (.v 2)), (.le (.c 0) (.v 5)), (.le (.v 5) (.c 1073741824)), (.le (.c 0) (.v 6)), (.le (.v 6) (.c 100)), (.le (.c 0) (.v 7)), (.le (.v 7) (.c 100)), (.le (.c (-16777216)) (.v 8)), (.le (.v 8) (.c 16777216)), (.le (.c (-16777216)) (.v 9)), (.le (.v 9) (.c 16777216)), (.le (.c 0) (.v 10)), (.le (.v 10) (.c 100000)), (.le (.c 0) (.v 11)), (.le (.v 11) (.c 100)), (.le (.c 0) (.v 12)), (.le (.c 0) (.v 14)), (.le (.c 0) (.v 15)), ahq7, (.le (.v 12) (.c 1000000)), (.le (.v 14) (.c 1000000)), (.le (.v 15) (.c 1000000))], []⟩,
⟨(.must ahq21), [(.le (.v 14) (.c 0)), ahq10, ahq11, ahq13, ahq14, ahq16, ahq17, ahq19, ahq20, (.le (.v 14) (.c 30)), (.le (.c 0) ahq0), ahq1, ahq4, ahq6, (.le (.c 0) (.v 13)), (.le (.v 13) (.c 1073741824)), (.happ 5 (.cons (.v 14) (.lv 14))), (.allr (-16777216) 1073741824 (.lv 14)), (.le (.v 15) (.c 100)), (.happ 4 (.cons (.v 15) (.lv 15))), (.allr (-16777216) 1073741824 (.lv 15)), (.lt (.c 0) (.v 12)), (.happ 2 (.cons (.v 12) (.lv 12))), (.happ 3 (.cons (.v 12) (.lv 12))), (.allr (-16777216) 1073741824 (.lv 12)), (.happ 0 (.cons (.sv 0) .nil)), (.le (.c 1) (.v 1)), (.le (.v 1) (.c 1000000)), (.le (.c 0) (.v 2)), (.le (.v 2) (.c 1073741824)), (.le (.c 0) (.v 3)), (.le (.v 3) (.c 1048576)), (.le (.c 0) (.v 4)), (.le (.v 4) (.v 2)), (.le (.c 0) (.v 5)), (.le (.v 5) (.c 1073741824)), (.le (.c 0) (.v 6)), (.le (.v 6) (.c 100)), (.le (.c 0) (.v 7)), (.le (.v 7) (.c 100)), (.le (.c (-16777216)) (.v 8)), (.le (.v 8) (.c 16777216)), (.le (.c (-16777216)) (.v 9)), (.le (.v 9) (.c 16777216)), (.le (.c 0) (.v 10)), (.le (.v 10) (.c 100000)), (.le (.c 0) (.v 11)), (.le (.v 11) (.c 100)), (.le (.c 0) (.v 12)), (.le (.c 0) (.v 14)), (.le (.c 0) (.v 15)), ahq7, (.le (.v 12) (.c 1000000)), (.le (.v 14) (.c 1000000)), (.le (.v 15) (.c 1000000))], []⟩,
⟨(.must (.le (.c 0) (.nthI (.lv 12) (.c 4)))), [(.le (.v 14) (.c 0)), ahq10, ahq11, ahq13, ahq14, ahq16, ahq17, ahq19, ahq20, (.le (.v 14) (.c 30)), (.le (.c 0) ahq0), ahq1, ahq4, ahq6, (.le (.c 0) (.v 13)), (.le (.v 13) (.c 1073741824)), (.happ 5 (.cons (.v 14) (.lv 14))), (.allr (-16777216) 1073741824 (.lv 14)), (.le (.v 15) (.c 100)), (.happ 4 (.cons (.v 15) (.lv 15))), (.allr (-16777216) 1073741824 (.lv 15)), (.lt (.c 0) (.v 12)), (.happ 2 (.cons (.v 12) (.lv 12))), (.happ 3 (.cons (.v 12) (.lv 12))), (.allr (-16777216) 1073741824 (.lv 12)), (.happ 0 (.cons (.sv 0) .nil)), (.le (.c 1) (.v 1)), (.le (.v 1) (.c 1000000)), (.le (.c 0) (.v 2)), (.le (.v 2) (.c 1073741824)), (.le (.c 0) (.v 3)), (.le (.v 3) (.c 1048576)), (.le (.c 0) (.v 4)), (.le (.v 4) (.v 2)), (.le (.c 0) (.v 5)), (.le (.v 5) (.c 1073741824)), (.le (.c 0) (.v 6)), (.le (.v 6) (.c 100)), (.le (.c 0) (.v 7)), (.le (.v 7) (.c 100)), (.le (.c (-16777216)) (.v 8)), (.le (.v 8) (.c 16777216)), (.le (.c (-16777216)) (.v 9)), (.le (.v 9) (.c 16777216)), (.le (.c 0) (.v 10)), (.le (.v 10) (.c 100000)), (.le (.c 0) (.v 11)), (.le (.v 11) (.c 100)), (.le (.c 0) (.v 12)), (.le (.c 0) (.v 14)), (.le (.c 0) (.v 15)), ahq7, (.le (.v 12) (.c 1000000)), (.le (.v 14) (.c 1000000)), (.le (.v 15) (.c 1000000))], []⟩,
⟨(.must ahq23), [(.le (.v 14) (.c 0)), ahq10, ahq11, ahq13, ahq14, ahq16, ahq17, ahq19, ahq20, (.le (.v 14) (.c 30)), (.le (.c 0) ahq0), ahq1, ahq4, ahq6, (.le (.c 0) (.v 13)), (.le (.v 13) (.c 1073741824)), (.happ 5 (.cons (.v 14) (.lv 14))), (.allr (-16777216) 1073741824 (.lv 14)), (.le (.v 15) (.c 100)), (.happ 4 (.cons (.v 15) (.lv 15))), (.allr (-16777216) 1073741824 (.lv 15)), (.lt (.c 0) (.v 12)), (.happ 2 (.cons (.v 12) (.lv 12))), (.happ 3 (.cons (.v 12) (.lv 12))), (.allr (-16777216) 1073741824 (.lv 12)), (.happ 0 (.cons (.sv 0) .nil)), (.le (.c 1) (.v 1)), (.le (.v 1) (.c 1000000)), (.le (.c 0) (.v 2)), (.le (.v 2) (.c 1073741824)), (.le (.c 0) (.v 3)), (.le (.v 3) (.c 1048576)), (.le (.c 0) (.v 4)), (.le (.v 4) (.v 2)), (.le (.c 0) (.v 5)), (.le (.v 5) (.c 1073741824)), (.le (.c 0) (.v 6)), (.le (.v 6) (.c 100)), (.le (.c 0) (.v 7)), (.le (.v 7) (.c 100)), (.le (.c (-16777216)) (.v 8)), (.le (.v 8) (.c 16777216)), (.le (.c (-16777216)) (.v 9)), (.le (.v 9) (.c 16777216)), (.le (.c 0) (.v 10)), (.le (.v 10) (.c 100000)), (.le (.c 0) (.v 11)), (.le (.v 11) (.c 100)), (.le (.c 0) (.v 12)), (.le (.c 0) (.v 14)), (.le (.c 0) (.v 15)), ahq7, (.le (.v 12) (.c 1000000)), (.le (.v 14) (.c 1000000)), (.le (.v 15) (.c 1000000))], []⟩,
⟨(.must ahq24), [(.le (.v 14) (.c 0)), ahq10, ahq11, ahq13, ahq14, ahq16, ahq17, ahq19, ahq20, (.le (.v 14) (.c 30)), (.le (.c 0) ahq0), ahq1, ahq4, ahq6, (.le (.c 0) (.v 13)), (.le (.v 13) (.c 1073741824)), (.happ 5 (.cons (.v 14) (.lv 14))), (.allr (-16777216) 1073741824 (.lv 14)), (.le (.v 15) (.c 100)), (.happ 4 (.cons (.v 15) (.lv 15))), (.allr (-16777216) 1073741824 (.lv 15)), (.lt (.c 0) (.v 12)), (.happ 2 (.cons (.v 12) (.lv 12))), (.happ 3 (.cons (.v 12) (.lv 12))), (.allr (-16777216) 1073741824 (.lv 12)), (.happ 0 (.cons (.sv 0) .nil)), (.le (.c 1) (.v 1)), (.le (.v 1) (.c 1000000)), (.le (.c 0) (.v 2)), (.le (.v 2) (.c 1073741824)), (.le (.c 0) (.v 3)), (.le (.v 3) (.c 1048576)), (.le (.c 0) (.v 4)), (.le (.v 4) (.v 2)), (.le (.c 0) (.v 5)), (.le (.v 5) (.c 1073741824)), (.le (.c 0) (.v 6)), (.le (.v 6) (.c 100)), (.le (.c 0) (.v 7)), (.le (.v 7) (.c 100)), (.le (.c (-16777216)) (.v 8)), (.le (.v 8) (.c 16777216)), (.le (.c (-16777216)) (.v 9)), (.le (.v 9) (.c 16777216)), (.le (.c 0) (.v 10)), (.le (.v 10) (.c 100000)), (.le (.c 0) (.v 11)), (.le (.v 11) (.c 100)), (.le (.c 0) (.v 12)), (.le (.c 0) (.v 14)), (.le (.c 0) (.v 15)), ahq7, (.le (.v 12) (.c 1000000)), (.le (.v 14) (.c 1000000)), (.le (.v 15) (.c 1000000))], []⟩,
⟨(.must ahq26), [(.le (.v 14) (.c 0)), ahq10, ahq11, ahq13, ahq14, ahq16, ahq17, ahq19, ahq20, (.le (.v 14) (.c 30)), (.le (.c 0) ahq0), ahq1, ahq4, ahq6, (.le (.c 0) (.v 13)), (.le (.v 13) (.c 1073741824)), (.happ 5 (.cons (.v 14) (.lv 14))), (.allr (-16777216) 1073741824 (.lv 14)), (.le (.v 15) (.c 100)), (.happ 4 (.cons (.v 15) (.lv 15))), (.allr (-16777216) 1073741824 (.lv 15)), (.lt (.c 0) (.v 12)), (.happ 2 (.cons (.v 12) (.lv 12))), (.happ 3 (.cons (.v 12) (.lv 12))), (.allr (-16777216) 1073741824 (.lv 12)), (.happ 0 (.cons (.sv 0) .nil)), (.le (.c 1) (.v 1)), (.le (.v 1) (.c 1000000)), (.le (.c 0) (.v 2)), (.le (.v 2) (.c 1073741824)), (.le (.c 0) (.v 3)), (.le (.v 3) (.c 1048576)), (.le (.c 0) (.v 4)), (.le (.v 4) (.v 2)), (.le (.c 0) (.v 5)), (.le (.v 5) (.c 1073741824)), (.le (.c 0) (.v 6)), (.le (.v 6) (.c 100)), (.le (.c 0) (.v 7)), (.le (.v 7) (.c 100)), (.le (.c (-16777216)) (.v 8)), (.le (.v 8) (.c 16777216)), (.le (.c (-16777216)) (.v 9)), (.le (.v 9) (.c 16777216)), (.le (.c 0) (.v 10)), (.le (.v 10) (.c 100000)), (.le (.c 0) (.v 11)), (.le (.v 11) (.c 100)), (.le (.c 0) (.v 12)), (.le (.c 0) (.v 14)), (.le (.c 0) (.v 15)), ahq7, (.le (.v 12) (.c 1000000)), (.le (.v 14) (.c 1000000)), (.le (.v 15) (.c 1000000))], []⟩,
⟨(.val (.tup (.cons (.var 24) (.cons (.i .i64 (.c (-1))) (.cons (.i .i64 (.c 0)) (.cons (.i .i64 (.c 0)) .nil)))))), [(.lt ahq27 (.c 0)), ahq9, ahq21, (.le (.c 0) (.nthI (.lv 12) (.c 4))), ahq23, ahq24, ahq26, (.le (.v 14) (.c 0)), ahq10, ahq11, ahq13, ahq14, ahq16, ahq17, ahq19, ahq20, (.le (.v 14) (.c 30)), (.le (.c 0) ahq0), ahq1, ahq4, ahq6, (.le (.c 0) (.v 13)), (.le (.v 13) (.c 1073741824)), (.happ 5 (.cons (.v 14) (.lv 14))), (.allr (-16777216) 1073741824 (.lv 14)), (.le (.v 15) (.c 100)), (.happ 4 (.cons (.v 15) (.lv 15))), (.allr (-16777216) 1073741824 (.lv 15)), (.lt (.c 0) (.v 12)), (.happ 2 (.cons (.v 12) (.lv 12))), (.happ 3 (.cons (.v 12) (.lv 12))), (.allr (-16777216) 1073741824 (.lv 12)), (.happ 0 (.cons (.sv 0) .nil)), (.le (.c 1) (.v 1)), (.le (.v 1) (.c 1000000)), (.le (.c 0) (.v 2)), (.le (.v 2) (.c 1073741824)), (.le (.c 0) (.v 3)), (.le (.v 3) (.c 1048576)), (.le (.c 0) (.v 4)), (.le (.v 4) (.v 2)), (.le (.c 0) (.v 5)), (.le (.v 5) (.c 1073741824)), (.le (.c 0) (.v 6)), (.le (.v 6) (.c 100)), (.le (.c 0) (.v 7)), (.le (.v 7) (.c 100)), (.le (.c (-16777216)) (.v 8)), (.le (.v 8) (.c 16777216)), (.le (.c (-16777216)) (.v 9)), (.le (.v 9) (.c 16777216)), (.le (.c 0) (.v 10)), (.le (.v 10) (.c 100000)), (.le (.c 0) (.v 11)), (.le (.v 11) (.c 100)), (.le (.c 0) (.v 12)), (.le (.c 0) (.v 14)), (.le (.c 0) (.v 15)), ahq7, (.le (.v 12) (.c 1000000)), (.le (.v 14) (.c 1000000)), (.le (.v 15) (.c 1000000))], [(24, ⟨true, 51, [(.i .i64), (.i .i64), (.i .i64), (.i .i64), (.i .i64), (.i .i64), (.i .i64), (.i .i64)], (.c 1), (.lsub (.lapp 3 (.cons (.v 1) (.cons (.v 3) (.cons (.v 4) (.cons (.v 5) (.cons (.v 6) (.cons (.v 7) (.cons (.v 8) (.cons (.v 9) (.cons (.nthI (.lv 12) (.c 4)) (.cons ahq8 (.cons ahq12 (.cons (.v 13) (.cons ahq22 (.cons (.v 15) (.cons (.c 1) (.lcat (.lv 15) (.cons ahq8 (.cons ahq12 (.cons (.c 0) .nil)))))))))))))))))))) (.c 8) (.mul (.add (.c 1) (.c 1)) (.c 8)))⟩)]⟩,
⟨(.val (.tup (.cons .nils (.cons (.i .i64 ahq27) (.cons (.i .i64 (.app 12 (.cons (.v 1) (.cons (.v 3) (.cons (.v 4) (.cons (.v 5) (.cons (.v 6) (.cons (.v 7) (.cons (.v 8) (.cons (.v 9) (.cons (.nthI (.lv 12) (.c 4)) (.cons ahq8 (.cons ahq12 (.cons (.v 13) (.cons ahq22 (.cons (.v 15) (.cons (.c 1) (.lcat (.lv 15) (.cons ahq8 (.cons ahq12 (.cons (.c 0) .nil))))))))))))))))))))) (.cons (.i .i64 (.c 9)) .nil)))))), [(.le (.c 0) ahq27), (.lt ahq27 (.c 1)), ahq9, ahq21, (.le (.c 0) (.nthI (.lv 12) (.c 4))), ahq23, ahq24, ahq26, (.le (.v 14) (.c 0)), ahq10, ahq11, ahq13, ahq14, ahq16, ahq17, ahq19, ahq20, (.le (.v 14) (.c 30)), (.le (.c 0) ahq0), ahq1, ahq4, ahq6, (.le (.c 0) (.v 13)), (.le (.v 13) (.c 1073741824)), (.happ 5 (.cons (.v 14) (.lv 14))), (.allr (-16777216) 1073741824 (.lv 14)), (.le (.v 15) (.c 100)), (.happ 4 (.cons (.v 15) (.lv 15))), (.allr (-16777216) 1073741824 (.lv 15)), (.lt (.c 0) (.v 12)), (.happ 2 (.cons (.v 12) (.lv 12))), (.happ 3 (.cons (.v 12) (.lv 12))), (.allr (-16777216) 1073741824 (.lv 12)), (.happ 0 (.cons (.sv 0) .nil)), (.le (.c 1) (.v 1)), (.le (.v 1) (.c 1000000)), (.le (.c 0) (.v 2)), (.le (.v 2) (.c 1073741824)), (.le (.c 0) (.v 3)), (.le (.v 3) (.c 1048576)), (.le (.c 0) (.v 4)), (.le (.v 4) (.v 2)), (.le (.c 0) (.v 5)), (.le (.v 5) (.c 1073741824)), (.le (.c 0) (.v 6)), (.le (.v 6) (.c 100)), (.le (.c 0) (.v 7)), (.le (.v 7) (.c 100)), (.le (.c (-16777216)) (.v 8)), (.le (.v 8) (.c 16777216)), (.le (.c (-16777216)) (.v 9)), (.le (.v 9) (.c 16777216)), (.le (.c 0) (.v 10)), (.le (.v 10) (.c 100000)), (.le (.c 0) (.v 11)), (.le (.v 11) (.c 100)), (.le (.c 0) (.v 12)), (.le (.c 0) (.v 14)), (.le (.c 0) (.v 15)), ahq7, (.le (.v 12) (.c 1000000)), (.le (.v 14) (.c 1000000)), (.le (.v 15) (.c 1000000))], []⟩,
⟨(.val (.tup (.cons .nils (.cons (.i .i64 (.c (-1))) (.cons (.i .i64 (.c 0)) (.cons (.i .i64 (.c 7)) .nil)))))), [(.lt ahq0 (.c 0)), (.happ 5 (.cons (.v 14) (.lv 14))), (.allr (-16777216) 1073741824 (.lv 14)), (.le (.v 15) (.c 100)), (.happ 4 (.cons (.v 15) (.lv 15))), (.allr (-16777216) 1073741824 (.lv 15)), (.lt (.c 0) (.v 12)), (.happ 2 (.cons (.v 12) (.lv 12))), (.happ 3 (.cons (.v 12) (.lv 12))), (.allr (-16777216) 1073741824 (.lv 12)), (.happ 0 (.cons (.sv 0) .nil)), (.le (.c 1) (.v 1)), (.le (.v 1) (.c 1000000)), (.le (.c 0) (.v 2)), (.le (.v 2) (.c 1073741824)), (.le (.c 0) (.v 3)), (.le (.v 3) (.c 1048576)), (.le (.c 0) (.v 4)), (.le (.v 4) (.v 2)), (.le (.c 0) (.v 5)), (.le (.v 5) (.c 1073741824)), (.le (.c 0) (.v 6)), (.le (.v 6) (.c 100)), (.le (.c 0) (.v 7)), (.le (.v 7) (.c 100)), (.le (.c (-16777216)) (.v 8)), (.le (.v 8) (.c 16777216)), (.le (.c (-16777216)) (.v 9)), (.le (.v 9) (.c 16777216)), (.le (.c 0) (.v 10)), (.le (.v 10) (.c 100000)), (.le (.c 0) (.v 11)), (.le (.v 11) (.c 100)), (.le (.c 0) (.v 12)), (.le (.c 0) (.v 14)), (.le (.c 0) (.v 15)), ahq7, (.le (.v 12) (.c 1000000)), (.le (.v 14) (.c 1000000)), (.le (.v 15) (.c 1000000))], []⟩,
⟨(.val (.tup (.cons .nils (.cons (.i .i64 (.c (-1))) (.cons (.i .i64 (.c 0)) (.cons (.i .i64 (.c 2)) .nil)))))), [(.not (.happ 5 (.cons (.v 14) (.lv 14)))), (.le (.v 15) (.c 100)), (.happ 4 (.cons (.v 15) (.lv 15))), (.allr (-16777216) 1073741824 (.lv 15)), (.lt (.c 0) (.v 12)), (.happ 2 (.cons (.v 12) (.lv 12))), (.happ 3 (.cons (.v 12) (.lv 12))), (.allr (-16777216) 1073741824 (.lv 12)), (.happ 0 (.cons (.sv 0) .nil)), (.le (.c 1) (.v 1)), (.le (.v 1) (.c 1000000)), (.le (.c 0) (.v 2)), (.le (.v 2) (.c 1073741824)), (.le (.c 0) (.v 3)), (.le (.v 3) (.c 1048576)), (.le (.c 0) (.v 4)), (.le (.v 4) (.v 2)), (.le (.c 0) (.v 5)), (.le (.v 5) (.c 1073741824)), (.le (.c 0) (.v 6)), (.le (.v 6) (.c 100)), (.le (.c 0) (.v 7)), (.le (.v 7) (.c 100)), (.le (.c (-16777216)) (.v 8)), (.le (.v 8) (.c 16777216)), (.le (.c (-16777216)) (.v 9)), (.le (.v 9) (.c 16777216)), (.le (.c 0) (.v 10)), (.le (.v 10) (.c 100000)), (.le (.c 0) (.v 11)), (.le (.v 11) (.c 100)), (.le (.c 0) (.v 12)), (.le (.c 0) (.v 14)), (.le (.c 0) (.v 15)), ahq7, (.le (.v 12) (.c 1000000)), (.le (.v 14) (.c 1000000)), (.le (.v 15) (.c 1000000))], []⟩,
⟨(.val (.tup (.cons .nils (.cons (.i .i64 (.c (-1))) (.cons (.i .i64 (.c 0)) (.cons (.i .i64 (.c 2)) .nil)))))), [(.not (.and (.le (.v 15) (.c 100)) (.happ 4 (.cons (.v 15) (.lv 15))))), (.lt (.c 0) (.v 12)), (.happ 2 (.cons (.v 12) (.lv 12))), (.happ 3 (.cons (.v 12) (.lv 12))), (.allr (-16777216) 1073741824 (.lv 12)), (.happ 0 (.cons (.sv 0) .nil)), (.le (.c 1) (.v 1)), (.le (.v 1) (.c 1000000)), (.le (.c 0) (.v 2)), (.le (.v 2) (.c 1073741824)), (.le (.c 0) (.v 3)), (.le (.v 3) (.c 1048576)), (.le (.c 0) (.v 4)), (.le (.v 4) (.v 2)), (.le (.c 0) (.v 5)), (.le (.v 5) (.c 1073741824)), (.le (.c 0) (.v 6)), (.le (.v 6) (.c 100)), (.le (.c 0) (.v 7)), (.le (.v 7) (.c 100)), (.le (.c (-16777216)) (.v 8)), (.le (.v 8) (.c 16777216)), (.le (.c (-16777216)) (.v 9)), (.le (.v 9) (.c 16777216)), (.le (.c 0) (.v 10)), (.le (.v 10) (.c 100000)), (.le (.c 0) (.v 11)), (.le (.v 11) (.c 100)), (.le (.c 0) (.v 12)), (.le (.c 0) (.v 14)), (.le (.c 0) (.v 15)), ahq7, (.le (.v 12) (.c 1000000)), (.le (.v 14) (.c 1000000)), (.le (.v 15) (.c 1000000))], []⟩,
⟨(.val (.tup (.cons .nils (.cons (.i .i64 (.c (-1))) (.cons (.i .i64 (.c 0)) (.cons (.i .i64 (.c 2)) .nil)))))), [(.not (.and (.lt (.c 0) (.v 12)) (.and (.happ 2 (.cons (.v 12) (.lv 12))) (.happ 3 (.cons (.v 12) (.lv 12)))))), (.happ 0 (.cons (.sv 0) .nil)), (.le (.c 1) (.v 1)), (.le (.v 1) (.c 1000000)), (.le (.c 0) (.v 2)), (.le (.v 2) (.c 1073741824)), (.le (.c 0) (.v 3)), (.le (.v 3) (.c 1048576)), (.le (.c 0) (.v 4)), (.le (.v 4) (.v 2)), (.le (.c 0) (.v 5)), (.le (.v 5) (.c 1073741824)), (.le (.c 0) (.v 6)), (.le (.v 6) (.c 100)), (.le (.c 0) (.v 7)), (.le (.v 7) (.c 100)), (.le (.c (-16777216)) (.v 8)), (.le (.v 8) (.c 16777216)), (.le (.c (-16777216)) (.v 9)), (.le (.v 9) (.c 16777216)), (.le (.c 0) (.v 10)), (.le (.v 10) (.c 100000)), (.le (.c 0) (.v 11)), (.le (.v 11) (.c 100)), (.le (.c 0) (.v 12)), (.le (.c 0) (.v 14)), (.le (.c 0) (.v 15)), ahq7, (.le (.v 12) (.c 1000000)), (.le (.v 14) (.c 1000000)), (.le (.v 15) (.c 1000000))], []⟩,
⟨(.val (.tup (.cons .nils (.cons (.i .i64 (.c (-1))) (.cons (.i .i64 (.c 0)) (.cons (.i .i64 (.c 2)) .nil)))))), [(.not (.and (.happ 0 (.cons (.sv 0) .nil)) (.and (.le (.c 1) (.v 1)) (.and (.le (.v 1) (.c 1000000)) (.and (.le (.c 0) (.v 2)) (.and (.le (.v 2) (.c 1073741824)) (.and (.le (.c 0) (.v 3)) (.and (.le (.v 3) (.c 1048576)) (.and (.le (.c 0) (.v 4)) (.and (.le (.v 4) (.v 2)) (.and (.le (.c 0) (.v 5)) (.and (.le (.v 5) (.c 1073741824)) (.and (.le (.c 0) (.v 6)) (.and (.le (.v 6) (.c 100)) (.and (.le (.c 0) (.v 7)) (.and (.le (.v 7) (.c 100)) (.and (.le (.c (-16777216)) (.v 8)) (.and (.le (.v 8) (.c 16777216)) (.and (.le (.c (-16777216)) (.v 9)) (.and (.le (.v 9) (.c 16777216)) (.and (.le (.c 0) (.v 10)) (.and (.le (.v 10) (.c 100000)) (.and (.le (.c 0) (.v 11)) (.le (.v 11) (.c 100))))))))))))))))))))))))), (.le (.c 0) (.v 12)), (.le (.c 0) (.v 14)), (.le (.c 0) (.v 15)), ahq7, (.le (.v 12) (.c 1000000)), (.le (.v 14) (.c 1000000)), (.le (.v 15) (.c 1000000))], []⟩] (by kernel_rfl) ρ w hF1 hT hR ⟨?_, ?_, ?_, ?_, ?_, ?_, ?_, ?_, ?_, ?_, ?_, ?_, ?_, ?_, ?_, ?_, ?_, ?_, ?_, ?_, ?_⟩ (u.J w)
  all_goals
    intro ρ' w' hx _ hF hb hrow
    have hEq : ∀ e : E, e.under 16 = true → e.B ρ' = e.B ρ := fun e h => B_ext hx h
    have hI : ∀ e : E, e.under 16 = true → e.I ρ' = e.I ρ := fun e h => I_ext hx h
    first
    | (refine ⟨⟨_, List.mem_cons_self, not_conj3 unitA hEq hF (by decide +kernel) (by decide +kernel) (by decide +kernel), ?_⟩, hb⟩
       rfl)
    | (refine ⟨⟨_, List.mem_cons_self, not_conj3 (legsAt 12) hEq hF (by decide +kernel) (by decide +kernel) (by decide +kernel), ?_⟩, hb⟩
       rfl)
    | (refine ⟨⟨_, List.mem_cons_self, not_conj3 (skyAt 15) hEq hF (by decide +kernel) (by decide +kernel) (by decide +kernel), ?_⟩, hb⟩
       rfl)
    | (refine ⟨⟨_, List.mem_cons_self, not_conj3 (waysAt 14) hEq hF (by decide +kernel) (by decide +kernel) (by decide +kernel), ?_⟩, hb⟩
       rfl)
    | (refine ⟨⟨_, List.mem_cons_of_mem _ List.mem_cons_self, ctf2 hEq hF (by decide +kernel), ?_⟩, hb⟩
       rfl)
    | (refine ⟨⟨_, List.mem_cons_of_mem _ (List.mem_cons_of_mem _ List.mem_cons_self), ctf2 hEq hF (by decide +kernel), ?_⟩, hb⟩
       rfl)
    | (refine ⟨⟨_, List.mem_cons_of_mem _ (List.mem_cons_of_mem _ (List.mem_cons_of_mem _ (List.mem_cons_of_mem _ List.mem_cons_self))), ctf2 hEq hF (by decide +kernel), ?_⟩, hb⟩
       refine (congrArg Ending.returned (den_extV hx (by decide +kernel))).trans ?_
       rfl)
    | (obtain ⟨hat, -⟩ := hrow _ List.mem_cons_self
       refine ⟨⟨_, List.mem_cons_of_mem _ (List.mem_cons_of_mem _ (List.mem_cons_of_mem _ List.mem_cons_self)), ctf2 hEq hF (by decide +kernel), rfl, _, rfl, ?_, fun b hbb => ?_⟩, hb⟩
       · have e1 : (E.add (.v 14) (.c 1)).I ρ' = (E.add (.v 14) (.c 1)).I ρ := I_ext hx (by decide)
         have e2 : (E.lapp 3 agP).L ρ' = (E.lapp 3 agP).L ρ := congrArg D.l (den_ext hx (by decide))
         unfold Row.at at hat ⊢
         simp only [agRow] at hat ⊢
         rw [← e1, ← e2]
         exact hat
       · simp only [Row.at, if_true] at hat
         exact (hat.2.2.lt b hbb).1)
    | (have hL : allTo (ρ.i 12) (legB (ρ.l 12)) = true := by
         have := hF (.happ 2 (.cons (.v 12) (.lv 12))) (List.contains_iff_mem.1 (by decide +kernel))
         rw [hEq _ (by decide), B_happ, hh] at this
         exact this
       have hix : agIx.I ρ = legIx (ρ.i 12) (ρ.i 13) (ρ.l 12) := by show ρ.g 7 _ = _; rw [hg]; rfl
       have i0 : 0 ≤ agIx.I ρ := by
         have := hF (.le (.c 0) agIx) (List.contains_iff_mem.1 (by decide +kernel))
         rw [hEq _ (by decide)] at this
         simpa using this
       have i1 : agIx.I ρ < ρ.i 12 := by
         have := hF (.lt agIx (.v 12)) (List.contains_iff_mem.1 (by decide +kernel))
         rw [hEq _ (by decide)] at this
         simpa using this
       have i4 : (agL 4).I ρ ≤ ρ.i 13 := by
         have := hF (.le (agL 4) (.v 13)) (List.contains_iff_mem.1 (by decide +kernel))
         rw [hEq _ (by decide)] at this
         simpa using this
       have i6 : ρ.i 13 ≤ (agL 6).I ρ := by
         have := hF (.le (.v 13) (agL 6)) (List.contains_iff_mem.1 (by decide +kernel))
         rw [hEq _ (by decide)] at this
         simpa using this
       have i13 : 0 ≤ ρ.i 13 := by
         have := hF (.le (.c 0) (.v 13)) (List.contains_iff_mem.1 (by decide +kernel))
         rw [hEq _ (by decide)] at this
         simpa using this
       have ib : 0 ≤ ρ.i 3 ∧ ρ.i 3 ≤ 1048576 := by
         have h1 := hF (.le (.c 0) (.v 3)) (List.contains_iff_mem.1 (by decide +kernel))
         have h2 := hF (.le (.v 3) (.c 1048576)) (List.contains_iff_mem.1 (by decide +kernel))
         rw [hEq _ (by decide)] at h1 h2
         exact ⟨by simpa using h1, by simpa using h2⟩
       have eL : ∀ k, k < 8 → (agL k).I ρ = nI (ρ.l 12) (8 * agIx.I ρ + k) := fun k hk => nthF_I i0 hk
       have hall := leg_all hL i0 i1
       simp only [spotB, decide_eq_true_eq] at hall
       have q0 := eL 0 (by omega); have q1 := eL 1 (by omega); have q2 := eL 2 (by omega); have q3 := eL 3 (by omega); have q4 := eL 4 (by omega); have q6 := eL 6 (by omega); have q7 := eL 7 (by omega)
       simp only [Int.add_zero, Int.cast_ofNat_Int] at q0 q1 q2 q3 q4 q6 q7
       have eX : agX.I ρ = plx true ((agL 0).I ρ) ((agL 2).I ρ) ((agL 4).I ρ) ((agL 5).I ρ) (ρ.i 13) := by show ρ.g 3 _ = _; rw [hg]; rfl
       have eY : agY.I ρ = plx true ((agL 1).I ρ) ((agL 3).I ρ) ((agL 4).I ρ) ((agL 5).I ρ) (ρ.i 13) := by show ρ.g 3 _ = _; rw [hg]; rfl
       have eU : agU.I ρ = leftF ((agL 7).I ρ) (ρ.i 3) ((agL 6).I ρ) (ρ.i 13) := by show ρ.g 8 _ = _; rw [hg]; rfl
       have hx1 : agX.I ρ ≤ 16777216 := by rw [eX]; exact plx_le i4 (by omega) (by omega)
       have hx2 : -16777216 ≤ agX.I ρ := by rw [eX]; exact le_plx i4 (by omega) (by omega)
       have hy1 : agY.I ρ ≤ 16777216 := by rw [eY]; exact plx_le i4 (by omega) (by omega)
       have hy2 : -16777216 ≤ agY.I ρ := by rw [eY]; exact le_plx i4 (by omega) (by omega)
       have hu := leftF_bounds (f := (agL 7).I ρ) (b := ρ.i 3) (lv := (agL 6).I ρ) (t := ρ.i 13) (by omega) (by omega) ib.1 ib.2 i13 i6 (by omega)
       rw [← eU] at hu
       first
       | (show (E.le agX (.c 16777216)).B ρ' = true
          rw [hEq _ (by decide), B_le, decide_eq_true_eq]; exact hx1)
       | (show (E.le agY (.c 16777216)).B ρ' = true
          rw [hEq _ (by decide), B_le, decide_eq_true_eq]; exact hy1)
       | (show (E.le (.c 0) (.nthI (.lv 12) (.c 4))).B ρ' = true
          rw [hEq _ (by decide), B_le, decide_eq_true_eq]
          have := (leg_all hL (k := 0) (by omega) (by omega)).2.2.1.1
          exact this)
       | (show (E.le (.c 0) agU).B ρ' = true
          rw [hEq _ (by decide), B_le, decide_eq_true_eq]; exact hu.1)
       | (show (E.le agU (.c 1099511627776)).B ρ' = true
          rw [hEq _ (by decide), B_le, decide_eq_true_eq]; exact hu.2)
       | (show (E.happ 5 (.cons (.c 1) (lvE [agX, agY, .c 0] .nil))).B ρ' = true
          rw [hEq _ (by decide), B_happ, hh]
          show allTo 1 (atB 3 wayA [(agX.I ρ, ⟨#[]⟩), (agY.I ρ, ⟨#[]⟩), (0, ⟨#[]⟩)]) = true
          exact way_ok1 (by simp only [spotB, decide_eq_true_eq]; omega))
       | (have hs : spotB (agX.I ρ) (agY.I ρ) = true := by simp only [spotB, decide_eq_true_eq]; omega
          have hle : ρ.i 14 ≤ 0 := by
            have := hF (.le (.v 14) (.c 0)) (List.contains_iff_mem.1 (by decide +kernel))
            rw [hEq _ (by decide)] at this
            simpa using this
          have hz : ρ.i 14 = 0 := by omega
          have hgo : goOn (ag1.L ρ) (stAt (ag1.L ρ) 0) 0 = stAt (ag1.L ρ) 0 := by
            rw [k1.at0]
            exact stay_goes hs (by rw [k1.way]; rfl) (by rw [k1.way]; rfl) (by rw [k1.way]; rfl)
          have hpl : planL (ag1.L ρ) = legL (ag1.L ρ) (stAt (ag1.L ρ) 0) 0 ++ planL (agP.L ρ) := by
            rw [plan_one k1.h14, plan_none (l := agP.L ρ) (by rw [show nI (agP.L ρ) 14 = ρ.i 14 from k0.h14, hz])]
            congr 1
            have : stAt (ag1.L ρ) 1 = stAt (agP.L ρ) 0 := by
              show goOn (ag1.L ρ) (stAt (ag1.L ρ) 0) 0 = _
              rw [hgo, k1.at0]
              exact k0.at0.symm
            rw [this]
            exact home_same (k1.h0.trans k0.h0.symm) (k1.h1.trans k0.h1.symm) (k1.h6.trans k0.h6.symm) (k1.h7.trans k0.h7.symm)
          first
          | (have hb2 : 0 ≤ (E.app 11 ag1).I ρ := by
               have := hF (.le (.c 0) (.app 11 ag1)) (List.contains_iff_mem.1 (by decide +kernel))
               rw [hEq _ (by decide)] at this
               simpa using this
             have hw : ¬ whyB (ag1.L ρ) (stAt (ag1.L ρ) 0) 0 = 0 := by
               intro h
               rw [e11, b1, if_pos h] at hb2
               omega
             have hb0 : badIx (ag1.L ρ) = 0 := by rw [b1, if_neg hw]
             refine ⟨⟨_, List.mem_cons_of_mem _ (List.mem_cons_of_mem _ (List.mem_cons_of_mem _ (List.mem_cons_of_mem _ (List.mem_cons_of_mem _ (List.mem_cons_of_mem _ List.mem_cons_self))))), fun a ha => ?_, none_end ?_ ?_⟩, hb⟩
             · rcases List.mem_append.1 ha with ha | ha
               · exact ctf2 (facts := agOk ++ [.le (.c 0) agIx, .le (.v 14) (.c 0)]) hEq hF (by decide +kernel) a (List.mem_append_left _ ha)
               · simp only [List.mem_cons, List.not_mem_nil, or_false] at ha
                 rcases ha with rfl | rfl | rfl
                 · rw [B_le, decide_eq_true_eq]; exact i0
                 · rw [B_le, decide_eq_true_eq]; exact hle
                 · rw [B_not, B_eq, e17]; simp [hw]
             · show (E.app 11 ag1).I ρ' = 0
               rw [hI _ (by decide), e11, hb0]
             · show (E.app 12 ag1).I ρ' = (E.app 17 ag1).I ρ
               rw [hI _ (by decide), e12, e17, planWhy, hb0]
               rfl)
          | (have hb2 : (E.app 11 ag1).I ρ < 0 := by
               have := hF (.lt (.app 11 ag1) (.c 0)) (List.contains_iff_mem.1 (by decide +kernel))
               rw [hEq _ (by decide)] at this
               simpa using this
             have hw : whyB (ag1.L ρ) (stAt (ag1.L ρ) 0) 0 = 0 := by
               rw [e11, b1] at hb2
               split at hb2
               · assumption
               · omega
             obtain ⟨hat, hbk⟩ := hrow _ List.mem_cons_self
             refine ⟨⟨_, List.mem_cons_of_mem _ (List.mem_cons_of_mem _ (List.mem_cons_of_mem _ (List.mem_cons_of_mem _ (List.mem_cons_of_mem _ List.mem_cons_self)))), fun a ha => ?_, rfl, _, rfl, ?_, fun b hbb => ?_⟩, hb⟩
             · rcases List.mem_append.1 ha with ha | ha
               · exact ctf2 (facts := agOk ++ [.le (.c 0) agIx, .le (.v 14) (.c 0)]) hEq hF (by decide +kernel) a (List.mem_append_left _ ha)
               · simp only [List.mem_cons, List.not_mem_nil, or_false] at ha
                 rcases ha with rfl | rfl | rfl
                 · rw [B_le, decide_eq_true_eq]; exact i0
                 · rw [B_le, decide_eq_true_eq]; exact hle
                 · rw [B_eq, e17, hw]; rfl
             · have hlen : (legL (ag1.L ρ) (stAt (ag1.L ρ) 0) 0).length = 8 := rfl
               have hlh : (homeL (agP.L ρ) (stAt (agP.L ρ) 0)).length = 8 := rfl
               have eN : (E.add (.v 14) (.c 1)).I ρ = (E.c 1).I ρ' := by simp only [I_add, I_v, I_c, hz]; rfl
               have eS : (E.lsub (.lapp 3 ag1) (.c 8) (.mul (.add (.c 1) (.c 1)) (.c 8))).L ρ' = (E.lapp 3 agP).L ρ := by
                 rw [show (E.lsub (.lapp 3 ag1) (.c 8) (.mul (.add (.c 1) (.c 1)) (.c 8))).L ρ' = (E.lsub (.lapp 3 ag1) (.c 8) (.mul (.add (.c 1) (.c 1)) (.c 8))).L ρ from congrArg D.l (den_ext hx (by decide)), e3', L_lsub, e3, hpl, plan_none (l := agP.L ρ) (by rw [show nI (agP.L ρ) 14 = ρ.i 14 from k0.h14, hz])]
                 simp only [I_c, I_mul, I_add]
                 show List.drop 8 (List.take 16 (legL (ag1.L ρ) (stAt (ag1.L ρ) 0) 0 ++ homeL (agP.L ρ) (stAt (agP.L ρ) 0))) = _
                 rw [List.take_of_length_le (by rw [List.length_append, hlen, hlh]; decide), List.drop_left' hlen]
               unfold Row.at at hat ⊢
               simp only [agRow] at hat ⊢
               rw [eN, ← eS]
               exact hat
             · simp only [Row.at, if_true] at hat
               exact (hat.2.2.lt b hbb).1)))
end Go.Proofs.Ytmbhjfembfidnaa.Un
