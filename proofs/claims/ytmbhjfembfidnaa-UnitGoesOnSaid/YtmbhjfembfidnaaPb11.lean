/- Layer 9 (unit): names. Layer 9 (unit): the laws, by what awake answers. Layer 9 (unit): awake answers true. -/
import Derived.Lib.ConvBytes
import Derived.Lib.Hide
import Derived.WalkKit
import Derived.WalkSpells
import Derived.WalkLawsBesides
import Derived.OwnWalk
import Derived.RegionTactic
import Derived.Outline
import Derived.Laws.AppendOwn
import Derived.Test.YtmbhjfembfidnaaPb10
section
namespace Go.Proofs.Ytmbhjfembfidnaa.Un
open Go Go.Proofs.Ytmbhjfembfidnaa.Sx Go.RowKit
variable {TT : Tb}

/-! the bytes of a name -/
def byteOr (b : E) : E := .or (.and (.le (.c 97) b) (.le b (.c 122))) (.or (.and (.le (.c 48) b) (.le b (.c 57))) (.eq b (.c 45)))
def spByte : AllSp := ⟨8, fun xs j => [byteOr (.nthI xs j)]⟩
/-- the byte j of the string that is a list's first. -/
def instS : E → E → List E
  | .cons (.sv n) .nil, j => [byteOr (.byte (.sv n) j)]
  | xs, j => [byteOr (.byte (.nthS xs (.c 0)) j)]
def spStr : AllSp := ⟨12, instS⟩
def strL (key t : Nat) : LoopSpec := { key := key, locs := [.t t (.i .i64)], facts := fun n => [.le (.c 0) (.v n), .le (.v n) (.len (.sv 0)), .le (.v n) (.c 32), .happ 12 (.cons (.v n) (.cons (.sv 0) .nil))], meas := fun n => .sub (.len (.sv 0)) (.v n) }
def byteL : LoopSpec := { key := 2, locs := [.t 9 (.i .i64)], facts := fun n => [.le (.c 0) (.v n), .le (.v n) (.v 0), .le (.v n) (.c 1000000), .happ 8 (.cons (.v n) (.lv 0))], meas := fun n => .sub (.v 0) (.v n) }
def bytesA : List E := [.happ 8 (.cons (.v 0) (.lv 0))]
def bytesK : AK := .one (.row [.i .u8])
def nameBA : List E := [.le (.c 1) (.len (.sv 0)), .le (.len (.sv 0)) (.c 32), .le (.c 97) (.byte (.sv 0) (.c 0)), .le (.byte (.sv 0) (.c 0)) (.c 122), .happ 12 (.cons (.len (.sv 0)) (.cons (.sv 0) .nil))]
def isNameFn : V := .fn (.func 91) .nil .nil
abbrev DN : Dec := decideL2 (decideH [spStr])
theorem byteOr_B (ρ : Env) (b : E) : (byteOr b).B ρ = nameByte (b.I ρ).toNat := by
  simp only [byteOr, B_or, B_and, B_le, B_eq, I_c, nameByte, letterB]
  rw [Bool.eq_iff_iff]
  simp only [Bool.or_eq_true, Bool.and_eq_true, decide_eq_true_eq]
  omega
theorem spByte_ok (u : Fit TT) : SpOk TT spByte := fun ρ hT =>
  ⟨fun k l => nameByte (nI l k).toNat, fun e xs => by rw [B_happ]; simp only [spByte]; rw [(u.tab hT).2]; rfl, fun xs j hj => by
    simp only [spByte, allE, List.all_cons, List.all_nil, Bool.and_true, byteOr_B, I_nthI]; rfl⟩
theorem byteAt (s : ByteArray) (k : Nat) : (s[k]?.map UInt8.toNat).getD 0 = (s.data.toList.getD k 0).toNat := by
  rw [List.getD]
  have : s[k]? = s.data.toList[k]? := by
    rw [Array.getElem?_toList]; rfl
  rw [this]
  cases s.data.toList[k]? <;> rfl
theorem spStr_ok (u : Fit TT) : SpOk TT spStr := fun ρ hT =>
  ⟨fun k l => nameByte ((s0 l).data.toList.getD k.toNat 0).toNat, fun e xs => by rw [B_happ]; simp only [spStr]; rw [(u.tab hT).2]; rfl, fun xs j hj => by
    have gen : allE ρ [byteOr (.byte (.nthS xs (.c 0)) j)] = nameByte ((s0 (xs.L ρ)).data.toList.getD (j.I ρ).toNat 0).toNat := by
      simp only [allE, List.all_cons, List.all_nil, Bool.and_true, byteOr_B, I_byte, byteAt, S_nthS, I_c]
      rfl
    show allE ρ (instS xs j) = _
    unfold instS
    split
    · simp only [allE, List.all_cons, List.all_nil, Bool.and_true, byteOr_B, I_byte, byteAt, S_sv, L_cons]
      rfl
    · exact gen⟩
/-- A name's bytes, one by one. -/
theorem name_all (s : ByteArray) : allTo (s.size : Int) (fun k => nameByte (s.data.toList.getD k.toNat 0).toNat) = s.data.toList.all fun b => nameByte b.toNat := by
  unfold allTo
  rw [Bool.eq_iff_iff, List.all_eq_true, List.all_eq_true]
  constructor
  · intro h b hb
    obtain ⟨i, hi, rfl⟩ := List.getElem_of_mem hb
    have := h i (List.mem_range.2 (by simpa using hi))
    simpa [List.getD, List.getElem?_eq_getElem hi] using this
  · intro h k hk
    have hk' : k < s.data.toList.length := by simpa using List.mem_range.1 hk
    simp only [Int.toNat_natCast, List.getD, List.getElem?_eq_getElem hk', Option.getD_some]
    exact h _ (List.getElem_mem _)
theorem nameB_eq (s : ByteArray) : nameB s = (decide (1 ≤ s.size) && decide (s.size ≤ 32) && letterB ((s.data.toList.getD 0 0).toNat) && allTo (s.size : Int) (fun k => nameByte (s.data.toList.getD k.toNat 0).toNat)) := by rw [name_all]; rfl
theorem nameBA_B {ρ : Env} (hh : ρ.h = Un.hF) : allE ρ nameBA = nameB (ρ.s 0) := by
  rw [nameB_eq]
  simp only [allE, nameBA, List.all_cons, List.all_nil, Bool.and_true, B_le, I_c, I_len, S_sv, I_byte, byteAt, B_happ, hh, L_cons, L_nil]
  have e : Un.hF 12 [(((ρ.s 0).size : Int), E.S ρ (.len (.sv 0))), (E.I ρ (.sv 0), ρ.s 0)] = allTo ((ρ.s 0).size : Int) (fun k => nameByte ((ρ.s 0).data.toList.getD k.toNat 0).toNat) := rfl
  rw [e]
  simp only [letterB, Int.toNat_zero]
  generalize allTo ((ρ.s 0).size : Int) (fun k => nameByte ((ρ.s 0).data.toList.getD k.toNat 0).toNat) = A
  rw [Bool.eq_iff_iff]
  cases A <;> simp <;> omega
theorem name_of {P : Program} {f : FuncId} {ρ : Env} {w : World} (hh : ρ.h = Un.hF) (h : Calls P f (arr ρ (patAs 0 [.one KS])) w fun e w' => e = .returned (.bool (nameB (ρ.s 0))) ∧ Below w.heap.size w w') : CasesAt P f [.one KS] (nameCs 0) ρ w := by
  refine both_of ?_ no_facts
  have e : allE ρ [nameE 0] = nameB (ρ.s 0) := by simp [allE, nameE, hh, hF_0, s0]
  rw [e]; exact h
theorem NameR_ok (u : Fit TT) : CtrOk TT Try.prog cNameR := ctrCases_ok rfl fun ρ w hF hT hR => by
  refine name_of (u.tab hT).2 ?_
  rw [← nameBA_B (u.tab hT).2]
  have hh := (u.tab hT).2
  refine conj_rest (decideL2_ok (decideH_ok (S := [spStr]) (by simpa using spStr_ok u))) (Γ := { loops := [strL 4 3] }) (by simp) 400 [.one KS] [.le (.len (.sv 0)) (.c 4611686018427387904)] nameBA (by decide)
    [⟨(.val (.b .tt)), [(.le (.len (.sv 0)) (.v 1)), (.le (.c 0) (.v 1)), (.le (.v 1) (.len (.sv 0))), (.le (.v 1) (.c 32)), (.happ 12 (.cons (.v 1) (.cons (.sv 0) .nil))), (.le (.byte (.sv 0) (.c 0)) (.c 122)), (.le (.c 97) (.byte (.sv 0) (.c 0))), (.le (.len (.sv 0)) (.c 32)), (.le (.c 1) (.len (.sv 0))), (.le (.len (.sv 0)) (.c 4611686018427387904))], []⟩] (by kernel_rfl) ρ w hF hT hR ?_ (u.J w)
  intro ρ' w' hx hT' hF hb _
  have s0' : ρ'.s 0 = ρ.s 0 := hx.s 0 (by decide)
  have hh' : ρ'.h = Un.hF := by rw [hx.h]; exact hh
  refine ⟨?_, hb⟩
  have hb1 : allE ρ nameBA = true := by
    have e : allE ρ nameBA = allE ρ' nameBA := by rw [nameBA_B hh, nameBA_B hh', s0']
    rw [e]
    have hlen : ρ'.i 1 = ((ρ'.s 0).size : Int) := by
      have a1 := hF (.le (.len (.sv 0)) (.v 1)) (by simp)
      have a2 := hF (.le (.v 1) (.len (.sv 0))) (by simp)
      simp at a1 a2; omega
    have hp := hF (.happ 12 (.cons (.v 1) (.cons (.sv 0) .nil))) (by simp)
    have hq : (E.happ 12 (.cons (.len (.sv 0)) (.cons (.sv 0) .nil))).B ρ' = true := by
      rw [B_happ, hh'] at hp ⊢
      have e1 : Un.hF 12 ((E.cons (.v 1) (.cons (.sv 0) .nil)).L ρ') = allTo (ρ'.i 1) (fun k => nameByte ((ρ'.s 0).data.toList.getD k.toNat 0).toNat) := rfl
      have e2 : Un.hF 12 ((E.cons (.len (.sv 0)) (.cons (.sv 0) .nil)).L ρ') = allTo ((ρ'.s 0).size : Int) (fun k => nameByte ((ρ'.s 0).data.toList.getD k.toNat 0).toNat) := rfl
      rw [e2, ← hlen, ← e1]; exact hp
    simp only [allE, nameBA, List.all_cons, List.all_nil, Bool.and_true, Bool.and_eq_true]
    exact ⟨hF _ (by simp), hF _ (by simp), hF _ (by simp), hF _ (by simp), hq⟩
  rw [hb1]; rfl

/-! the code's name: by hand -/
def envV (is : List Int) (ls : List LL) (vs : List Value) : Env := { i := fun n => is.getD n 0, b := fun _ => false, s := fun _ => ⟨#[]⟩, v := fun n => vs.getD n undef, n := fun _ => 0, g := gF, h := Un.hF, k := noK, l := fun n => ls.getD n [], m := mF }
theorem envV_tab (is ls vs) : UT.tab (envV is ls vs).g (envV is ls vs).h (envV is ls vs).k (envV is ls vs).m := ⟨⟨rfl, rfl⟩, rfl⟩
theorem letter_calls (b : Nat) (w : World) : Calls Try.prog 89 #[.int .u8 b] w fun e w' => e = .returned (.bool (letterB b)) ∧ Below w.heap.size w w' := by
  have := conj_calls (TT := UT) (P := Try.prog) (Γ := {}) (by simp) decB_ok (gas := 100) (f := 89) (aks := [.one (.sc (.i .u8))]) (F := []) (atoms := [.le (.c 97) (.v 0), .le (.v 0) (.c 122)]) (by kernel_rfl) (envV [b] [] []) w (by simp [holds]) (envV_tab _ _ _) (fun p hp => by simp [ksOf, AK.ks, rowsL] at hp)
  have e : allE (envV [b] [] []) [.le (.c 97) (.v 0), .le (.v 0) (.c 122)] = letterB b := by
    simp only [allE, envV, letterB, List.all_cons, List.all_nil, Bool.and_true, B_le, I_c, I_v, List.getD, List.getElem?_cons_zero, Option.getD_some]
    rw [Bool.eq_iff_iff]; simp only [Bool.and_eq_true, decide_eq_true_eq]; omega
  rw [e] at this
  exact this
theorem between_calls (a b c : Int) (w : World) : Calls Try.prog 54 #[.int .i64 a, .int .i64 b, .int .i64 c] w fun e w' => e = .returned (.bool (decide (a ≤ b) && decide (b ≤ c))) ∧ Below w.heap.size w w' := by
  have := conj_calls (TT := UT) (P := Try.prog) (Γ := {}) (by simp) decB_ok (gas := 100) (f := 54) (aks := [.one K, .one K, .one K]) (F := []) (atoms := [.le (.v 0) (.v 1), .le (.v 1) (.v 2)]) (by kernel_rfl) (envV [a, b, c] [] []) w (by simp [holds]) (envV_tab _ _ _) (fun p hp => by simp [ksOf, AK.ks, rowsL, K] at hp)
  have e : allE (envV [a, b, c] [] []) [.le (.v 0) (.v 1), .le (.v 1) (.v 2)] = (decide (a ≤ b) && decide (b ≤ c)) := by
    simp [allE, envV]
  rw [e] at this
  exact this
def bytesL (s : ByteArray) : LL := s.data.toList.map fun b => ((b.toNat : Int), ⟨#[]⟩)
theorem bytesL_nI (s : ByteArray) (k : Int) : (nI (bytesL s) k).toNat = (s.data.toList.getD k.toNat 0).toNat := by
  unfold nI bytesL
  rw [List.getElem?_map, List.getD]
  cases s.data.toList[k.toNat]? <;> simp
theorem allBytes_calls (s : ByteArray) (B cap : Nat) (w : World) (hB : B < w.heap.size) (hc : s.size ≤ cap) (hm : cap ≤ maxLen) (hs : s.size ≤ 32) (hcell : ∀ j, j < s.size → w.cell? ⟨B, j, none⟩ = some (.int .u8 (s.data.toList.getD j 0).toNat)) :
    Calls Try.prog 90 #[.slice (some ⟨B, 0, none⟩) s.size cap, .func (.func 91) #[] #[]] w fun e w' => e = .returned (.bool (allTo (s.size : Int) (fun k => nameByte (s.data.toList.getD k.toNat 0).toNat))) ∧ Below w.heap.size w w' := by
  have hrow : RowsAt (envV [(s.size : Int)] [bytesL s] [.slice (some ⟨B, 0, none⟩) s.size cap]) w [bytesK, .one (.lit isNameFn)] := fun p hp => by
    have : p = (0, rowL 0 [.i .u8]) := by simpa [ksOf, bytesK, AK.ks, rowsL] using hp
    subst this
    refine ⟨rfl, fun base => ⟨by simp [rowL, envV], by simp [rowL], ?_⟩⟩
    simp only [rowL, Bool.false_eq_true, if_false, I_v, L_lv]
    refine ⟨by simp [envV, bytesL], .inr ⟨⟨B, 0, none⟩, cap, by simp [envV], rfl, hB, ⟨by simpa [envV] using hc, hm⟩, fun j u hj => ?_⟩⟩
    have e : (cellsV [.i .u8] ((envV [(s.size : Int)] [bytesL s] [.slice (some ⟨B, 0, none⟩) s.size cap]).l 0))[j]? = (s.data.toList[j]?).map fun b => Value.int .u8 (b.toNat : Int) := by
      simp only [envV, cellsV, List.getElem?_map, bytesL, List.getD, List.getElem?_cons_zero, Option.getD_some, List.getElem?_zipIdx]
      cases s.data.toList[j]? with
      | none => rfl
      | some b => simp [Nat.mod_one, cellV]
    rw [e] at hj
    obtain ⟨b, hb, rfl⟩ := Option.map_eq_some_iff.1 hj
    have hjl : j < s.size := by have := (List.getElem?_eq_some_iff.1 hb).1; simpa using this
    have := hcell j hjl
    rw [List.getD, hb] at this
    rw [Addr.add_lit, Nat.zero_add]
    simpa using this
  have := conj_calls (TT := UT) (P := Try.prog) (Γ := { loops := [byteL] }) (by simp) (decideL_ok (decideH_ok (S := [spByte]) (by simpa using spByte_ok fit_UT))) (gas := 400) (f := 90) (aks := [bytesK, .one (.lit isNameFn)]) (F := nN 0) (atoms := bytesA) (by kernel_rfl) _ w (by simp [nN, nL, holds, envV]; omega) (envV_tab _ _ _) hrow
  have e : allE (envV [(s.size : Int)] [bytesL s] [.slice (some ⟨B, 0, none⟩) s.size cap]) bytesA = allTo (s.size : Int) (fun k => nameByte (s.data.toList.getD k.toNat 0).toNat) := by
    have h1 : allE (envV [(s.size : Int)] [bytesL s] [.slice (some ⟨B, 0, none⟩) s.size cap]) bytesA = allTo (s.size : Int) (fun k => nameByte (nI (bytesL s) k).toNat) := by
      simp only [allE, bytesA, List.all_cons, List.all_nil, Bool.and_true, B_happ, L_cons, L_lv, I_v]; rfl
    rw [h1]
    congr 1
    funext k
    rw [bytesL_nI]
  rw [e] at this
  exact this
theorem below_bytes (w : World) (e : TypeId) (s : ByteArray) : Below w.heap.size w (Lib.bytesWorld w e s) :=
  ⟨rfl, rfl, rfl, by rw [Lib.bytesWorld_size]; omega, fun k hk => Lib.bytesWorld_at_old w e s k hk⟩
theorem u8_under : Try.prog.underlying 5 = some (.int .u8) := by kernel_rfl
theorem bytes_under : Try.prog.underlying 82 = some (.slice 5) := by kernel_rfl
theorem str_under : Try.prog.underlying 9 = some .string := by kernel_rfl
set_option maxRecDepth 100000 in
theorem isName_calls (s : ByteArray) (hs : s.size ≤ 4611686018427387904) (w : World) : Calls Try.prog 53 #[.string s] w fun e w' => e = .returned (.bool (nameB s)) ∧ Below w.heap.size w w' := by
  by_cases hlen : 1 ≤ s.size ∧ s.size ≤ 32
  · have h0 : 0 < s.size := by omega
    have hb : (decide ((1 : Int) ≤ (s.size : Int)) && decide ((s.size : Int) ≤ 32)) = true := by simp; omega
    have HF : Hid (∀ W, Calls Try.prog 54 #[.int .i64 1, .int .i64 s.size, .int .i64 32] W fun e W' => e = .returned (.bool true) ∧ Below W.heap.size W W') := Lib.hid fun W => by have := between_calls 1 s.size 32 W; rwa [hb] at this
    have hg0 : s.data.toList.getD 0 0 = s[0] := by simp [List.getD, h0]; rfl
    have hN : nameB s = (letterB (s[0].toNat) && allTo (s.size : Int) (fun k => nameByte (s.data.toList.getD k.toNat 0).toNat)) := by
      rw [nameB_eq, decide_eq_true hlen.1, decide_eq_true hlen.2, hg0]; rfl
    cases hl : letterB (s[0].toNat) with
    | false =>
      have HN : Hid (nameB s = false) := Lib.hid (by rw [hN, hl]; rfl)
      have HL : Hid (∀ W, Calls Try.prog 89 #[.int .u8 (s[0].toNat : Int)] W fun e W' => e = .returned (.bool false) ∧ Below W.heap.size W W') := Lib.hid fun W => by have := letter_calls (s[0].toNat) W; rwa [hl] at this
      clear hN hl hg0 hb
      go_enter Try.func53, Try.ntmps53
      go_wp2_with (first | (go_at_call 54; ((with_reducible refine (HF.out _).mono ?_); rintro e w1 ⟨rfl, hb1⟩)) | (go_at_call 89; ((with_reducible refine (HL.out _).mono ?_); rintro e w2 ⟨rfl, hb2⟩)))
      go_ret
      exact ⟨by rw [HN.out]; rfl, hb1.trans (hb2.mono hb1.size)⟩
    | true =>
      obtain ⟨r, hr⟩ : ∃ r, r = allTo (s.size : Int) (fun k => nameByte (s.data.toList.getD k.toNat 0).toNat) := ⟨_, rfl⟩
      have HN : Hid (nameB s = r) := Lib.hid (by rw [hN, hl, hr]; rfl)
      have HL : Hid (∀ W, Calls Try.prog 89 #[.int .u8 (s[0].toNat : Int)] W fun e W' => e = .returned (.bool true) ∧ Below W.heap.size W W') := Lib.hid fun W => by have := letter_calls (s[0].toNat) W; rwa [hl] at this
      have HA : Hid (∀ W, Calls Try.prog 90 #[.slice (some ⟨W.heap.size, 0, none⟩) s.size (grownCap W s.size 0 5), .func (.func 91) #[] #[]] (Lib.bytesWorld W 5 s) fun e W' => e = .returned (.bool r) ∧ Below W.heap.size W W') := Lib.hid fun W =>
        (allBytes_calls s W.heap.size (grownCap W s.size 0 5) (Lib.bytesWorld W 5 s) (by rw [Lib.bytesWorld_size]; omega) (grownCap_ge _ _ _ _) (grownCap_le_maxLen _ _ _ _ (by unfold maxLen; omega)) hlen.2 (fun j hj => Lib.bytesWorld_cell W 5 s j hj)).mono fun e W' ⟨h1, h2⟩ => ⟨by rw [h1, hr], (below_bytes W 5 s).trans (h2.mono (by rw [Lib.bytesWorld_size]; omega))⟩
      clear hN hl hg0 hb hr
      have kc := fun (W : World) => Lib.run_convert_string_bytes (P := Try.prog) W 9 82 5 s str_under bytes_under u8_under
      go_enter Try.func53, Try.ntmps53
      go_wp2_with (first | (go_at_call 54; ((with_reducible refine (HF.out _).mono ?_); rintro e w1 ⟨rfl, hb1⟩)) | (go_at_call 89; ((with_reducible refine (HL.out _).mono ?_); rintro e w2 ⟨rfl, hb2⟩)) | (go_at_call 90; ((with_reducible refine (HA.out _).mono ?_); rintro e w3 ⟨rfl, hb3⟩)))
      go_ret
      exact ⟨by rw [HN.out]; rfl, hb1.trans ((hb2.trans (hb3.mono hb2.size)).mono hb1.size)⟩
  · have hb : (decide ((1 : Int) ≤ (s.size : Int)) && decide ((s.size : Int) ≤ 32)) = false := by
      rw [Bool.and_eq_false_iff]; simp; omega
    have HF : Hid (∀ W, Calls Try.prog 54 #[.int .i64 1, .int .i64 s.size, .int .i64 32] W fun e W' => e = .returned (.bool false) ∧ Below W.heap.size W W') := Lib.hid fun W => by have := between_calls 1 s.size 32 W; rwa [hb] at this
    have HN : Hid (nameB s = false) := Lib.hid (by
      rw [nameB_eq]
      have : (decide (1 ≤ s.size) && decide (s.size ≤ 32)) = false := by
        by_cases h1 : 1 ≤ s.size
        · rw [decide_eq_false (fun h2 => hlen ⟨h1, h2⟩), Bool.and_false]
        · rw [decide_eq_false h1, Bool.false_and]
      rw [this]; rfl)
    clear hb hlen
    go_enter Try.func53, Try.ntmps53
    go_wp2_with (go_at_call 54; ((with_reducible refine (HF.out _).mono ?_); rintro e w1 ⟨rfl, hb1⟩))
    go_ret
    exact ⟨by rw [HN.out]; rfl, hb1⟩
theorem isName_ok (u : Fit TT) : CtrOk TT Try.prog cIsName := ctrCases_ok rfl fun ρ w hF hT hR => by
  refine name_of (u.tab hT).2 ?_
  have h := hF (.le (.len (.sv 0)) (.c 4611686018427387904)) List.mem_cons_self
  simp only [B_le, I_len, S_sv, I_c, decide_eq_true_eq] at h
  exact isName_calls (ρ.s 0) (by omega) w
end Go.Proofs.Ytmbhjfembfidnaa.Un
end
section
namespace Go.Proofs.Ytmbhjfembfidnaa.Un
open Go Go.Proofs.Ytmbhjfembfidnaa.Sx Go.RowKit
variable {TT : Tb}

def cAwake := ctrVal 17 [] [] (.b .tt) []
def wheresF : List E := [.le (.len (.sv 0)) (.c 9223372036854775807), .le (.c 0) (.v 12), .le (.v 12) (.c 9223372036854775807)]
def wheresK : List AK := [unitK, rowK 8, .one K]
def spot3 : List AK := [spotK, spotK, spotK]
def checksK : List AK := [unitK, rowK 8, .ag [K, K, K, K]]
/-- what awake is asked to answer. -/
def Awake : Prop := CtrOk UT.open Try.prog cAwake
abbrev U0 : Fit UT.open := fit_UT.open
theorem checkUnit_any (u : Fit TT) : CtrOk TT Try.prog cCheckUnit := CheckUnit_ok u (isName_ok u.open)
theorem checkUnitR_any (u : Fit TT) : CtrOk TT Try.prog cCheckUnitR := CheckUnitR_ok u (NameR_ok u.open)
theorem left_any (u : Fit TT) : CtrOk TT Try.prog cLeft := Left_ok u (checkUnit_any u.open)
theorem leftR_any (u : Fit TT) : CtrOk TT Try.prog cLeftR := LeftR_ok u (checkUnitR_any u.open)
/-- What a law says of a call. -/
def Law (f : FuncId) (aks : List AK) (F : List E) : Prop := ∀ ρ w, holds ρ F → UT.tab ρ.g ρ.h ρ.k ρ.m → RowsAt ρ w aks → Calls Try.prog f (arr ρ (patAs 0 aks)) w fun e w' => e = .returned (.bool true) ∧ Below w.heap.size w w'
set_option maxHeartbeats 4000000 in
theorem wheres_law (h : Awake) : Law 5 wheresK wheresF := fun ρ w hF hT hR =>
  val_rest (TT := UT) DD_ok (Γ := { calls := [cAwake, cWhere, cWhereR, cLeft, cLeftR] }) (by simpa using ⟨h, Where_ok U0, WhereR_ok U0, left_any U0, leftR_any U0⟩) 400 wheresK wheresF (.b .tt) rfl [] (by kernel_rfl) ρ w hF hT hR trivial
set_option maxHeartbeats 4000000 in
theorem checks_law (h : Awake) : Law 3 checksK wheresF := fun ρ w hF hT hR =>
  val_rest (TT := UT) DD_ok (Γ := { calls := [cAwake, cCheckUnit, cCheckUnitR, cCheckWeather, cCheckWeatherR, cDist, cDistR] }) (by simpa using ⟨h, checkUnit_any U0, checkUnitR_any U0, CheckWeather_ok U0, CheckWeatherR_ok U0, Distance_ok U0, DistanceR_ok U0⟩) 400 checksK wheresF (.b .tt) rfl [] (by kernel_rfl) ρ w hF hT hR trivial
theorem gF0 (l : LL) : gF 0 l = way (nI l 0) (nI l 1) (nI l 2) (nI l 3) := rfl
theorem way_I {ρ : Env} (hg : ρ.g = gF) (a b c d : E) : (E.app 0 (.cons a (.cons b (.cons c (.cons d .nil))))).I ρ = way (a.I ρ) (b.I ρ) (c.I ρ) (d.I ρ) := by
  rw [I_app, hg, gF0]
  simp only [L_cons, L_nil]
  rfl
set_option maxHeartbeats 4000000 in
theorem triangle_law (h : Awake) : Law 8 spot3 [] := fun ρ w hF hT hR => by
  refine val_rest (TT := UT) DD_ok (Γ := { calls := [cAwake, cDist, cPlace] }) (by simpa using ⟨h, Distance_ok U0, place_ok U0.J⟩) 400 spot3 [] (.b .tt) rfl
    [⟨(.val (.b .ff)), [(.not (.eq (.app 0 (.cons (.v 0) (.cons (.v 1) (.cons (.v 2) (.cons (.v 3) .nil))))) (.app 0 (.cons (.v 2) (.cons (.v 3) (.cons (.v 0) (.cons (.v 1) .nil))))))), (.le (.c (-16777216)) (.v 2)), (.le (.v 2) (.c 16777216)), (.le (.c (-16777216)) (.v 3)), (.le (.v 3) (.c 16777216)), (.le (.c (-16777216)) (.v 0)), (.le (.v 0) (.c 16777216)), (.le (.c (-16777216)) (.v 1)), (.le (.v 1) (.c 16777216)), (.le (.c 0) (.app 0 (.cons (.v 2) (.cons (.v 3) (.cons (.v 0) (.cons (.v 1) .nil)))))), (.le (.app 0 (.cons (.v 2) (.cons (.v 3) (.cons (.v 0) (.cons (.v 1) .nil))))) (.c 67108864)), (.le (.c (-16777216)) (.v 0)), (.le (.v 0) (.c 16777216)), (.le (.c (-16777216)) (.v 1)), (.le (.v 1) (.c 16777216)), (.le (.c (-16777216)) (.v 4)), (.le (.v 4) (.c 16777216)), (.le (.c (-16777216)) (.v 5)), (.le (.v 5) (.c 16777216)), (.le (.c 0) (.app 0 (.cons (.v 0) (.cons (.v 1) (.cons (.v 4) (.cons (.v 5) .nil)))))), (.le (.app 0 (.cons (.v 0) (.cons (.v 1) (.cons (.v 4) (.cons (.v 5) .nil))))) (.c 67108864)), (.le (.c (-16777216)) (.v 2)), (.le (.v 2) (.c 16777216)), (.le (.c (-16777216)) (.v 3)), (.le (.v 3) (.c 16777216)), (.le (.c (-16777216)) (.v 4)), (.le (.v 4) (.c 16777216)), (.le (.c (-16777216)) (.v 5)), (.le (.v 5) (.c 16777216)), (.le (.c 0) (.app 0 (.cons (.v 2) (.cons (.v 3) (.cons (.v 4) (.cons (.v 5) .nil)))))), (.le (.app 0 (.cons (.v 2) (.cons (.v 3) (.cons (.v 4) (.cons (.v 5) .nil))))) (.c 67108864)), (.le (.c (-16777216)) (.v 0)), (.le (.v 0) (.c 16777216)), (.le (.c (-16777216)) (.v 1)), (.le (.v 1) (.c 16777216)), (.le (.c (-16777216)) (.v 2)), (.le (.v 2) (.c 16777216)), (.le (.c (-16777216)) (.v 3)), (.le (.v 3) (.c 16777216)), (.le (.c 0) (.app 0 (.cons (.v 0) (.cons (.v 1) (.cons (.v 2) (.cons (.v 3) .nil)))))), (.le (.app 0 (.cons (.v 0) (.cons (.v 1) (.cons (.v 2) (.cons (.v 3) .nil))))) (.c 67108864))], []⟩,
⟨(.val (.b .ff)), [(.lt (.mul (.app 0 (.cons (.v 0) (.cons (.v 1) (.cons (.v 2) (.cons (.v 3) .nil))))) (.app 0 (.cons (.v 0) (.cons (.v 1) (.cons (.v 2) (.cons (.v 3) .nil)))))) (.add (.mul (.sub (.v 0) (.v 2)) (.sub (.v 0) (.v 2))) (.mul (.sub (.v 1) (.v 3)) (.sub (.v 1) (.v 3))))), (.eq (.app 0 (.cons (.v 0) (.cons (.v 1) (.cons (.v 2) (.cons (.v 3) .nil))))) (.app 0 (.cons (.v 2) (.cons (.v 3) (.cons (.v 0) (.cons (.v 1) .nil)))))), (.le (.c (-16777216)) (.v 2)), (.le (.v 2) (.c 16777216)), (.le (.c (-16777216)) (.v 3)), (.le (.v 3) (.c 16777216)), (.le (.c (-16777216)) (.v 0)), (.le (.v 0) (.c 16777216)), (.le (.c (-16777216)) (.v 1)), (.le (.v 1) (.c 16777216)), (.le (.c 0) (.app 0 (.cons (.v 2) (.cons (.v 3) (.cons (.v 0) (.cons (.v 1) .nil)))))), (.le (.app 0 (.cons (.v 2) (.cons (.v 3) (.cons (.v 0) (.cons (.v 1) .nil))))) (.c 67108864)), (.le (.c (-16777216)) (.v 0)), (.le (.v 0) (.c 16777216)), (.le (.c (-16777216)) (.v 1)), (.le (.v 1) (.c 16777216)), (.le (.c (-16777216)) (.v 4)), (.le (.v 4) (.c 16777216)), (.le (.c (-16777216)) (.v 5)), (.le (.v 5) (.c 16777216)), (.le (.c 0) (.app 0 (.cons (.v 0) (.cons (.v 1) (.cons (.v 4) (.cons (.v 5) .nil)))))), (.le (.app 0 (.cons (.v 0) (.cons (.v 1) (.cons (.v 4) (.cons (.v 5) .nil))))) (.c 67108864)), (.le (.c (-16777216)) (.v 2)), (.le (.v 2) (.c 16777216)), (.le (.c (-16777216)) (.v 3)), (.le (.v 3) (.c 16777216)), (.le (.c (-16777216)) (.v 4)), (.le (.v 4) (.c 16777216)), (.le (.c (-16777216)) (.v 5)), (.le (.v 5) (.c 16777216)), (.le (.c 0) (.app 0 (.cons (.v 2) (.cons (.v 3) (.cons (.v 4) (.cons (.v 5) .nil)))))), (.le (.app 0 (.cons (.v 2) (.cons (.v 3) (.cons (.v 4) (.cons (.v 5) .nil))))) (.c 67108864)), (.le (.c (-16777216)) (.v 0)), (.le (.v 0) (.c 16777216)), (.le (.c (-16777216)) (.v 1)), (.le (.v 1) (.c 16777216)), (.le (.c (-16777216)) (.v 2)), (.le (.v 2) (.c 16777216)), (.le (.c (-16777216)) (.v 3)), (.le (.v 3) (.c 16777216)), (.le (.c 0) (.app 0 (.cons (.v 0) (.cons (.v 1) (.cons (.v 2) (.cons (.v 3) .nil)))))), (.le (.app 0 (.cons (.v 0) (.cons (.v 1) (.cons (.v 2) (.cons (.v 3) .nil))))) (.c 67108864))], []⟩,
⟨(.val (.b .ff)), [(.le (.add (.mul (.sub (.v 0) (.v 2)) (.sub (.v 0) (.v 2))) (.mul (.sub (.v 1) (.v 3)) (.sub (.v 1) (.v 3)))) (.mul (.sub (.app 0 (.cons (.v 0) (.cons (.v 1) (.cons (.v 2) (.cons (.v 3) .nil))))) (.c 1)) (.sub (.app 0 (.cons (.v 0) (.cons (.v 1) (.cons (.v 2) (.cons (.v 3) .nil))))) (.c 1)))), (.lt (.c 0) (.app 0 (.cons (.v 0) (.cons (.v 1) (.cons (.v 2) (.cons (.v 3) .nil)))))), (.le (.add (.mul (.sub (.v 0) (.v 2)) (.sub (.v 0) (.v 2))) (.mul (.sub (.v 1) (.v 3)) (.sub (.v 1) (.v 3)))) (.mul (.app 0 (.cons (.v 0) (.cons (.v 1) (.cons (.v 2) (.cons (.v 3) .nil))))) (.app 0 (.cons (.v 0) (.cons (.v 1) (.cons (.v 2) (.cons (.v 3) .nil))))))), (.eq (.app 0 (.cons (.v 0) (.cons (.v 1) (.cons (.v 2) (.cons (.v 3) .nil))))) (.app 0 (.cons (.v 2) (.cons (.v 3) (.cons (.v 0) (.cons (.v 1) .nil)))))), (.le (.c (-16777216)) (.v 2)), (.le (.v 2) (.c 16777216)), (.le (.c (-16777216)) (.v 3)), (.le (.v 3) (.c 16777216)), (.le (.c (-16777216)) (.v 0)), (.le (.v 0) (.c 16777216)), (.le (.c (-16777216)) (.v 1)), (.le (.v 1) (.c 16777216)), (.le (.c 0) (.app 0 (.cons (.v 2) (.cons (.v 3) (.cons (.v 0) (.cons (.v 1) .nil)))))), (.le (.app 0 (.cons (.v 2) (.cons (.v 3) (.cons (.v 0) (.cons (.v 1) .nil))))) (.c 67108864)), (.le (.c (-16777216)) (.v 0)), (.le (.v 0) (.c 16777216)), (.le (.c (-16777216)) (.v 1)), (.le (.v 1) (.c 16777216)), (.le (.c (-16777216)) (.v 4)), (.le (.v 4) (.c 16777216)), (.le (.c (-16777216)) (.v 5)), (.le (.v 5) (.c 16777216)), (.le (.c 0) (.app 0 (.cons (.v 0) (.cons (.v 1) (.cons (.v 4) (.cons (.v 5) .nil)))))), (.le (.app 0 (.cons (.v 0) (.cons (.v 1) (.cons (.v 4) (.cons (.v 5) .nil))))) (.c 67108864)), (.le (.c (-16777216)) (.v 2)), (.le (.v 2) (.c 16777216)), (.le (.c (-16777216)) (.v 3)), (.le (.v 3) (.c 16777216)), (.le (.c (-16777216)) (.v 4)), (.le (.v 4) (.c 16777216)), (.le (.c (-16777216)) (.v 5)), (.le (.v 5) (.c 16777216)), (.le (.c 0) (.app 0 (.cons (.v 2) (.cons (.v 3) (.cons (.v 4) (.cons (.v 5) .nil)))))), (.le (.app 0 (.cons (.v 2) (.cons (.v 3) (.cons (.v 4) (.cons (.v 5) .nil))))) (.c 67108864)), (.le (.c (-16777216)) (.v 0)), (.le (.v 0) (.c 16777216)), (.le (.c (-16777216)) (.v 1)), (.le (.v 1) (.c 16777216)), (.le (.c (-16777216)) (.v 2)), (.le (.v 2) (.c 16777216)), (.le (.c (-16777216)) (.v 3)), (.le (.v 3) (.c 16777216)), (.le (.c 0) (.app 0 (.cons (.v 0) (.cons (.v 1) (.cons (.v 2) (.cons (.v 3) .nil)))))), (.le (.app 0 (.cons (.v 0) (.cons (.v 1) (.cons (.v 2) (.cons (.v 3) .nil))))) (.c 67108864))], []⟩,
⟨(.val (.b .ff)), [(.lt (.add (.app 0 (.cons (.v 0) (.cons (.v 1) (.cons (.v 2) (.cons (.v 3) .nil))))) (.app 0 (.cons (.v 2) (.cons (.v 3) (.cons (.v 4) (.cons (.v 5) .nil)))))) (.app 0 (.cons (.v 0) (.cons (.v 1) (.cons (.v 4) (.cons (.v 5) .nil)))))), (.lt (.mul (.sub (.app 0 (.cons (.v 0) (.cons (.v 1) (.cons (.v 2) (.cons (.v 3) .nil))))) (.c 1)) (.sub (.app 0 (.cons (.v 0) (.cons (.v 1) (.cons (.v 2) (.cons (.v 3) .nil))))) (.c 1))) (.add (.mul (.sub (.v 0) (.v 2)) (.sub (.v 0) (.v 2))) (.mul (.sub (.v 1) (.v 3)) (.sub (.v 1) (.v 3))))), (.lt (.c 0) (.app 0 (.cons (.v 0) (.cons (.v 1) (.cons (.v 2) (.cons (.v 3) .nil)))))), (.le (.add (.mul (.sub (.v 0) (.v 2)) (.sub (.v 0) (.v 2))) (.mul (.sub (.v 1) (.v 3)) (.sub (.v 1) (.v 3)))) (.mul (.app 0 (.cons (.v 0) (.cons (.v 1) (.cons (.v 2) (.cons (.v 3) .nil))))) (.app 0 (.cons (.v 0) (.cons (.v 1) (.cons (.v 2) (.cons (.v 3) .nil))))))), (.eq (.app 0 (.cons (.v 0) (.cons (.v 1) (.cons (.v 2) (.cons (.v 3) .nil))))) (.app 0 (.cons (.v 2) (.cons (.v 3) (.cons (.v 0) (.cons (.v 1) .nil)))))), (.le (.c (-16777216)) (.v 2)), (.le (.v 2) (.c 16777216)), (.le (.c (-16777216)) (.v 3)), (.le (.v 3) (.c 16777216)), (.le (.c (-16777216)) (.v 0)), (.le (.v 0) (.c 16777216)), (.le (.c (-16777216)) (.v 1)), (.le (.v 1) (.c 16777216)), (.le (.c 0) (.app 0 (.cons (.v 2) (.cons (.v 3) (.cons (.v 0) (.cons (.v 1) .nil)))))), (.le (.app 0 (.cons (.v 2) (.cons (.v 3) (.cons (.v 0) (.cons (.v 1) .nil))))) (.c 67108864)), (.le (.c (-16777216)) (.v 0)), (.le (.v 0) (.c 16777216)), (.le (.c (-16777216)) (.v 1)), (.le (.v 1) (.c 16777216)), (.le (.c (-16777216)) (.v 4)), (.le (.v 4) (.c 16777216)), (.le (.c (-16777216)) (.v 5)), (.le (.v 5) (.c 16777216)), (.le (.c 0) (.app 0 (.cons (.v 0) (.cons (.v 1) (.cons (.v 4) (.cons (.v 5) .nil)))))), (.le (.app 0 (.cons (.v 0) (.cons (.v 1) (.cons (.v 4) (.cons (.v 5) .nil))))) (.c 67108864)), (.le (.c (-16777216)) (.v 2)), (.le (.v 2) (.c 16777216)), (.le (.c (-16777216)) (.v 3)), (.le (.v 3) (.c 16777216)), (.le (.c (-16777216)) (.v 4)), (.le (.v 4) (.c 16777216)), (.le (.c (-16777216)) (.v 5)), (.le (.v 5) (.c 16777216)), (.le (.c 0) (.app 0 (.cons (.v 2) (.cons (.v 3) (.cons (.v 4) (.cons (.v 5) .nil)))))), (.le (.app 0 (.cons (.v 2) (.cons (.v 3) (.cons (.v 4) (.cons (.v 5) .nil))))) (.c 67108864)), (.le (.c (-16777216)) (.v 0)), (.le (.v 0) (.c 16777216)), (.le (.c (-16777216)) (.v 1)), (.le (.v 1) (.c 16777216)), (.le (.c (-16777216)) (.v 2)), (.le (.v 2) (.c 16777216)), (.le (.c (-16777216)) (.v 3)), (.le (.v 3) (.c 16777216)), (.le (.c 0) (.app 0 (.cons (.v 0) (.cons (.v 1) (.cons (.v 2) (.cons (.v 3) .nil)))))), (.le (.app 0 (.cons (.v 0) (.cons (.v 1) (.cons (.v 2) (.cons (.v 3) .nil))))) (.c 67108864))], []⟩,
⟨(.val (.b .ff)), [(.lt (.add (.app 0 (.cons (.v 0) (.cons (.v 1) (.cons (.v 2) (.cons (.v 3) .nil))))) (.app 0 (.cons (.v 2) (.cons (.v 3) (.cons (.v 4) (.cons (.v 5) .nil)))))) (.app 0 (.cons (.v 0) (.cons (.v 1) (.cons (.v 4) (.cons (.v 5) .nil)))))), (.le (.app 0 (.cons (.v 0) (.cons (.v 1) (.cons (.v 2) (.cons (.v 3) .nil))))) (.c 0)), (.le (.add (.mul (.sub (.v 0) (.v 2)) (.sub (.v 0) (.v 2))) (.mul (.sub (.v 1) (.v 3)) (.sub (.v 1) (.v 3)))) (.mul (.app 0 (.cons (.v 0) (.cons (.v 1) (.cons (.v 2) (.cons (.v 3) .nil))))) (.app 0 (.cons (.v 0) (.cons (.v 1) (.cons (.v 2) (.cons (.v 3) .nil))))))), (.eq (.app 0 (.cons (.v 0) (.cons (.v 1) (.cons (.v 2) (.cons (.v 3) .nil))))) (.app 0 (.cons (.v 2) (.cons (.v 3) (.cons (.v 0) (.cons (.v 1) .nil)))))), (.le (.c (-16777216)) (.v 2)), (.le (.v 2) (.c 16777216)), (.le (.c (-16777216)) (.v 3)), (.le (.v 3) (.c 16777216)), (.le (.c (-16777216)) (.v 0)), (.le (.v 0) (.c 16777216)), (.le (.c (-16777216)) (.v 1)), (.le (.v 1) (.c 16777216)), (.le (.c 0) (.app 0 (.cons (.v 2) (.cons (.v 3) (.cons (.v 0) (.cons (.v 1) .nil)))))), (.le (.app 0 (.cons (.v 2) (.cons (.v 3) (.cons (.v 0) (.cons (.v 1) .nil))))) (.c 67108864)), (.le (.c (-16777216)) (.v 0)), (.le (.v 0) (.c 16777216)), (.le (.c (-16777216)) (.v 1)), (.le (.v 1) (.c 16777216)), (.le (.c (-16777216)) (.v 4)), (.le (.v 4) (.c 16777216)), (.le (.c (-16777216)) (.v 5)), (.le (.v 5) (.c 16777216)), (.le (.c 0) (.app 0 (.cons (.v 0) (.cons (.v 1) (.cons (.v 4) (.cons (.v 5) .nil)))))), (.le (.app 0 (.cons (.v 0) (.cons (.v 1) (.cons (.v 4) (.cons (.v 5) .nil))))) (.c 67108864)), (.le (.c (-16777216)) (.v 2)), (.le (.v 2) (.c 16777216)), (.le (.c (-16777216)) (.v 3)), (.le (.v 3) (.c 16777216)), (.le (.c (-16777216)) (.v 4)), (.le (.v 4) (.c 16777216)), (.le (.c (-16777216)) (.v 5)), (.le (.v 5) (.c 16777216)), (.le (.c 0) (.app 0 (.cons (.v 2) (.cons (.v 3) (.cons (.v 4) (.cons (.v 5) .nil)))))), (.le (.app 0 (.cons (.v 2) (.cons (.v 3) (.cons (.v 4) (.cons (.v 5) .nil))))) (.c 67108864)), (.le (.c (-16777216)) (.v 0)), (.le (.v 0) (.c 16777216)), (.le (.c (-16777216)) (.v 1)), (.le (.v 1) (.c 16777216)), (.le (.c (-16777216)) (.v 2)), (.le (.v 2) (.c 16777216)), (.le (.c (-16777216)) (.v 3)), (.le (.v 3) (.c 16777216)), (.le (.c 0) (.app 0 (.cons (.v 0) (.cons (.v 1) (.cons (.v 2) (.cons (.v 3) .nil)))))), (.le (.app 0 (.cons (.v 0) (.cons (.v 1) (.cons (.v 2) (.cons (.v 3) .nil))))) (.c 67108864))], []⟩,
⟨(.val (.b .ff)), [(.not (.eq (.app 0 (.cons (.v 0) (.cons (.v 1) (.cons (.v 2) (.cons (.v 3) .nil))))) (.app 0 (.cons (.v 2) (.cons (.v 3) (.cons (.v 0) (.cons (.v 1) .nil))))))), (.le (.c (-16777216)) (.v 2)), (.le (.v 2) (.c 16777216)), (.le (.c (-16777216)) (.v 3)), (.le (.v 3) (.c 16777216)), (.le (.c (-16777216)) (.v 0)), (.le (.v 0) (.c 16777216)), (.le (.c (-16777216)) (.v 1)), (.le (.v 1) (.c 16777216)), (.le (.c 0) (.app 0 (.cons (.v 2) (.cons (.v 3) (.cons (.v 0) (.cons (.v 1) .nil)))))), (.le (.app 0 (.cons (.v 2) (.cons (.v 3) (.cons (.v 0) (.cons (.v 1) .nil))))) (.c 67108864)), (.not (.and (.le (.c (-16777216)) (.v 0)) (.and (.le (.v 0) (.c 16777216)) (.and (.le (.c (-16777216)) (.v 1)) (.and (.le (.v 1) (.c 16777216)) (.and (.le (.c (-16777216)) (.v 4)) (.and (.le (.v 4) (.c 16777216)) (.and (.le (.c (-16777216)) (.v 5)) (.le (.v 5) (.c 16777216)))))))))), (.not (.and (.le (.c (-16777216)) (.v 2)) (.and (.le (.v 2) (.c 16777216)) (.and (.le (.c (-16777216)) (.v 3)) (.and (.le (.v 3) (.c 16777216)) (.and (.le (.c (-16777216)) (.v 4)) (.and (.le (.v 4) (.c 16777216)) (.and (.le (.c (-16777216)) (.v 5)) (.le (.v 5) (.c 16777216)))))))))), (.le (.c (-16777216)) (.v 0)), (.le (.v 0) (.c 16777216)), (.le (.c (-16777216)) (.v 1)), (.le (.v 1) (.c 16777216)), (.le (.c (-16777216)) (.v 2)), (.le (.v 2) (.c 16777216)), (.le (.c (-16777216)) (.v 3)), (.le (.v 3) (.c 16777216)), (.le (.c 0) (.app 0 (.cons (.v 0) (.cons (.v 1) (.cons (.v 2) (.cons (.v 3) .nil)))))), (.le (.app 0 (.cons (.v 0) (.cons (.v 1) (.cons (.v 2) (.cons (.v 3) .nil))))) (.c 67108864))], []⟩] (by kernel_rfl) ρ w hF hT hR ⟨?_, ?_, ?_, ?_, ?_, ?_⟩
  all_goals
    intro ρ' w' hx hT' hF hb _
    have hg := hT'.1.1
    exfalso
    simp only [holds, List.mem_cons, List.not_mem_nil, or_false, forall_eq_or_imp, forall_eq, B_not, B_le, B_lt, B_eq, way_I hg, I_add, I_mul, I_sub, I_c, I_v, decide_eq_true_eq, Bool.not_eq_true', decide_eq_false_iff_not] at hF
    have hA : spotB (ρ'.i 0) (ρ'.i 1) = true := by simp only [spotB, decide_eq_true_eq]; omega
    have hB : spotB (ρ'.i 2) (ρ'.i 3) = true := by simp only [spotB, decide_eq_true_eq]; omega
    have hr := (way_root hA hB).1
    unfold IsRoot sqd at hr
  · exact hF.1 (way_comm _ _ _ _)
  · omega
  · omega
  · have hC : spotB (ρ'.i 4) (ρ'.i 5) = true := by simp only [spotB, decide_eq_true_eq]; omega
    have := triangle hA hB hC
    omega
  · have hC : spotB (ρ'.i 4) (ρ'.i 5) = true := by simp only [spotB, decide_eq_true_eq]; omega
    have := triangle hA hB hC
    omega
  · exact hF.1 (way_comm _ _ _ _)
end Go.Proofs.Ytmbhjfembfidnaa.Un
end
section
namespace Go.Proofs.Ytmbhjfembfidnaa.Un
open Go Go.Proofs.Ytmbhjfembfidnaa.Sx Go.RowKit

/-- A name that is known. -/
def nameM : List V → Option (V × List E)
  | [.s (.lit l)] => if l.length ≤ 100 then some (.b (if nameB ⟨l.toArray⟩ then .tt else .ff), []) else none
  | _ => none
def cNameL : Ctr := Ctr.pure 53 nameM
theorem cNameL_ok : CtrOk UT.open Try.prog cNameL := Ctr.pure_ok fun args v need ρ w hm hT hn => by
  unfold nameM at hm
  split at hm
  · rename_i l
    split at hm
    · rename_i hl
      cases hm
      have h := isName_calls ⟨l.toArray⟩ (by show l.toArray.size ≤ _; simp; omega) w
      refine h.mono fun e w' ⟨h1, h2⟩ => ⟨?_, h2⟩
      rw [h1]
      cases nameB ⟨l.toArray⟩ <;> rfl
    · cases hm
  · cases hm
/-! ### Contracts at numbers that are known -/
inductive Lt where
  | i (z : Int) | b (t : Bool) | l (x : LL)
def ltI : Option Lt → Option Int | some (.i z) => some z | _ => none
def ltB' : Option Lt → Option Bool | some (.b t) => some t | _ => none
def ltL : Option Lt → Option LL | some (.l x) => some x | _ => none
def ltI2 (f : Int → Int → Lt) (a b : Option Lt) : Option Lt := match ltI a, ltI b with | some x, some y => some (f x y) | _, _ => none
def ltB2 (f : Bool → Bool → Lt) (a b : Option Lt) : Option Lt := match ltB' a, ltB' b with | some x, some y => some (f x y) | _, _ => none
def ev : E → Option Lt
  | .c z => some (.i z)
  | .add a b => ltI2 (fun x y => .i (x + y)) (ev a) (ev b)
  | .sub a b => ltI2 (fun x y => .i (x - y)) (ev a) (ev b)
  | .mul a b => ltI2 (fun x y => .i (x * y)) (ev a) (ev b)
  | .le a b => ltI2 (fun x y => .b (decide (x ≤ y))) (ev a) (ev b)
  | .lt a b => ltI2 (fun x y => .b (decide (x < y))) (ev a) (ev b)
  | .eq a b => ltI2 (fun x y => .b (decide (x = y))) (ev a) (ev b)
  | .and a b => ltB2 (fun x y => .b (x && y)) (ev a) (ev b)
  | .or a b => ltB2 (fun x y => .b (x || y)) (ev a) (ev b)
  | .not a => (ltB' (ev a)).map fun x => .b (!x)
  | .tt => some (.b true)
  | .ff => some (.b false)
  | .ite q a b => match ltB' (ev q) with | some true => ev a | some false => ev b | none => none
  | .nil => some (.l [])
  | .cons a l => match ltI (ev a), ltL (ev l) with | some z, some x => some (.l ((z, ⟨#[]⟩) :: x)) | _, _ => none
  | .app f l => (ltL (ev l)).map fun x => .i (gF f x)
  | _ => none
def Lt.d : Lt → D | .i z => { i := z } | .b t => { b := t } | .l x => { l := x }
theorem ev_ok {ρ : Env} (hg : ρ.g = gF) : ∀ {e : E} {x : Lt}, ev e = some x → e.den ρ = x.d := by
  have hi : ∀ {o : Option Lt} {z : Int}, ltI o = some z → o = some (.i z) := fun {o z} h => by
    cases o with
    | none => cases h
    | some y => cases y <;> cases h; rfl
  have hb : ∀ {o : Option Lt} {z : Bool}, ltB' o = some z → o = some (.b z) := fun {o z} h => by
    cases o with
    | none => cases h
    | some y => cases y <;> cases h; rfl
  have hl : ∀ {o : Option Lt} {z : LL}, ltL o = some z → o = some (.l z) := fun {o z} h => by
    cases o with
    | none => cases h
    | some y => cases y <;> cases h; rfl
  intro e
  induction e <;> intro x h <;> try (simp only [ev, reduceCtorEq] at h; done)
  case c z => simp only [ev, Option.some.injEq] at h; subst h; rfl
  case tt => simp only [ev, Option.some.injEq] at h; subst h; rfl
  case ff => simp only [ev, Option.some.injEq] at h; subst h; rfl
  case nil => simp only [ev, Option.some.injEq] at h; subst h; rfl
  case not a ih =>
    simp only [ev, Option.map_eq_some_iff] at h
    obtain ⟨t, ht, rfl⟩ := h
    simp only [E.den, ih (hb ht), Lt.d]
  case app f l ih =>
    simp only [ev, Option.map_eq_some_iff] at h
    obtain ⟨t, ht, rfl⟩ := h
    simp only [E.den, ih (hl ht), Lt.d, hg]
  case ite q a b ihq iha ihb =>
    simp only [ev] at h
    split at h
    · rename_i hq; simp only [E.den, ihq (hb hq), Lt.d, if_true]; exact iha h
    · rename_i hq; simp only [E.den, ihq (hb hq), Lt.d, Bool.false_eq_true, if_false]; exact ihb h
    · cases h
  case cons a l iha ihl =>
    simp only [ev] at h
    split at h
    · rename_i h1 h2; cases h; simp only [E.den, iha (hi h1), ihl (hl h2), Lt.d]
    · cases h
  all_goals
    rename_i iha ihb
    simp only [ev, ltI2, ltB2] at h
    split at h
    · rename_i h1 h2
      cases h
      first
        | simp only [E.den, iha (hi h1), ihb (hi h2), Lt.d]
        | simp only [E.den, iha (hb h1), ihb (hb h2), Lt.d]
    · cases h
def evV : V → V
  | .i k e => match ev e with | some (.i z) => .i k (.c z) | _ => .i k e
  | .b e => match ev e with | some (.b t) => .b (if t then .tt else .ff) | _ => .b e
  | .agg l => .agg (evV l)
  | .tup l => .tup (evV l)
  | .cons a l => .cons (evV a) (evV l)
  | v => v
theorem evV_dd {ρ : Env} (hg : ρ.g = gF) (v : V) : (evV v).dd ρ = v.dd ρ := by
  induction v <;> simp only [evV] <;> try rfl
  case i k e =>
    split
    · rename_i z h
      show ({ v := Value.int k (E.I ρ (.c z)) } : DV) = { v := Value.int k (e.I ρ) }
      have := ev_ok hg h
      simp only [E.I, this, Lt.d]; rfl
    · rfl
  case b e =>
    split
    · rename_i t h
      show ({ v := Value.bool (E.B ρ (if t then .tt else .ff)) } : DV) = { v := Value.bool (e.B ρ) }
      have := ev_ok hg h
      simp only [E.B, this, Lt.d]
      cases t <;> rfl
    · rfl
  case agg l ih => simp only [V.dd, ih]
  case tup l ih => simp only [V.dd, ih]
  case cons a l iha ihl => simp only [V.dd, iha, ihl]
/-- A contract's values reckoned; what it tells besides is forgotten. -/
def litCtr (q : Ctr) : Ctr := ⟨q.f, fun args σ => (q.run args σ).map fun l => l.map fun o => match o.x with
  | .val v => ⟨.val (evV v), { o.st with F := σ.F }⟩
  | x => ⟨x, o.st⟩⟩
theorem litCtr_ok {TT : Tb} {P : Program} {q : Ctr} (hgt : ∀ ρ : Env, TT.tab ρ.g ρ.h ρ.k ρ.m → ρ.g = gF) (h : CtrOk TT P q) : CtrOk TT P (litCtr q) := by
  intro args σ outs hr hok ha ρ w0 w R hs hg
  simp only [litCtr, Option.map_eq_some_iff] at hr
  obtain ⟨l, hl, rfl⟩ := hr
  refine h args σ l hl hok ha ρ w0 w R hs fun o ho ρ' w' hx hs' => ?_
  have h1 := hg _ (List.mem_map.2 ⟨o, ho, rfl⟩)
  have hF : holds ρ' σ.F := fun e he => by rw [B_ext hx ((ok_parts hok).2.2.1 e he)]; exact hs.fact e he
  cases hox : o.x <;> simp only [hox] at h1 ⊢
  case val v =>
    have := h1 ρ' w' hx (hs'.withF hF)
    simp only at this
    rw [show (evV v).den ρ' = v.den ρ' from congrArg DV.v (evV_dd (hgt ρ' hs'.tab.1) v)] at this
    exact this
  all_goals exact h1 ρ' w' hx hs'

theorem gT (ρ : Env) (h : UT.open.tab ρ.g ρ.h ρ.k ρ.m) : ρ.g = gF := h.1.1
def cAwakeT := ctrVal 17 [] [] (.b .tt) []
def awakeCs : List Ctr := [cIsSpot, cIsLeg, cIsWay, cClash, cNameL, litCtr cTimeOf, litCtr cBurnt, litCtr cLeftAt, litCtr cPlaceAt, litCtr cRdn, litCtr cRup, litCtr cDistance]
theorem awakeCs_ok : ∀ q ∈ awakeCs, CtrOk UT.open.open Try.prog q := by
  have U1 := fit_UT.open
  simpa [awakeCs] using ⟨isSpot_ok U1.J, isLeg_ok U1.J, isWay_ok U1.J, clash_ok U1.J, cNameL_ok, litCtr_ok gT (timeOf_ok U1), litCtr_ok gT (burnt_ok U1), litCtr_ok gT (leftAt_ok U1), litCtr_ok gT (placeAt_ok U1), litCtr_ok gT (rdn_ok U1), litCtr_ok gT (rup_ok U1), litCtr_ok gT (distance_ok U1)⟩
set_option maxRecDepth 100000 in
set_option maxHeartbeats 4000000 in
theorem awake_ok : CtrOk UT.open Try.prog cAwakeT :=
  auto_val (TT := UT.open) (Γ := { calls := awakeCs }) awakeCs_ok 200 rfl (by kernel_rfl)
end Go.Proofs.Ytmbhjfembfidnaa.Un
end
