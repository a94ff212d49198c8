/- Several parts: The document's reading of a line, its small functions: fail, is, word. The document's integer. The document's number. The document's words of the kinds; its kind. -/
import Derived.Test.YtjcaaejfokmolaaGreatDoorRpTok
import Derived.Test.YtjcaaejfokmolaaGreatDoorRpRefIn
import Derived.BigQuiet
import Derived.Deep.DeepCutAuto
import Derived.Test.YtjcaaejfokmolaaGreatDoorRpNames
import Derived.Test.YtjcaaejfokmolaaGreatDoorRpSgRef
import Derived.IntWalk
import Derived.Test.YtjcaaejfokmolaaGreatDoorRpTake
import Derived.Deep.RegionHeld3
/- The document's reading of a line, its small functions: fail, is, word. -/
namespace Go.Proofs.YtjcaaejfokmolaaGreatDoor
open Go.RowKit

/-- the words of a line, as they lie. -/
def PartsAt (w : World) (v : Value) (ws : List (List UInt8)) : Prop :=
  ∃ g cap, v = .slice (some ⟨g, 0, none⟩) ws.length cap ∧ ws.length ≤ cap ∧ g < w.heap.size ∧
    ∀ i, i < ws.length → w.cell? ⟨g, i * 2, none⟩ = some (.string ⟨(tok ws i).toArray⟩) ∧ w.cell? ⟨g, i * 2 + 1, none⟩ = some (.int .i64 (pos ws i))
theorem PartsAt.below {w w' : World} {v ws} (h : PartsAt w v ws) (hb : Below w.heap.size w w') : PartsAt w' v ws := by
  obtain ⟨g, cap, e, hc, hg, hx⟩ := h
  exact ⟨g, cap, e, hc, Nat.lt_of_lt_of_le hg hb.size, fun i hi => ⟨(hb.cell (p := ⟨g, i * 2, none⟩) hg).trans (hx i hi).1, (hb.cell (p := ⟨g, i * 2 + 1, none⟩) hg).trans (hx i hi).2⟩⟩
/-- a line as a value. -/
abbrev lnV (v : Value) (n : Nat) (I At : Nat) (E : Int) : Value := .agg #[v, .int .i64 I, .int .i64 n, .int .i64 At, .int .i64 E]
abbrev lnO (v : Value) (n : Nat) (I At : Nat) (E : Int) : Obj := .cells #[v, .int .i64 I, .int .i64 n, .int .i64 At, .int .i64 E] 86 (0, 0)
def lnP (v : Value) (n : Nat) (p : Ln) : Value := lnV v n p.I p.At p.E

set_option maxRecDepth 100000 in
set_option maxHeartbeats 2000000 in
theorem refFail_any (ws : List (List UInt8)) (n I At : Nat) (E er : Int) (v : Value) (w : World) (hv : PartsAt w v ws) (hl : ws.length ≤ 1000) :
    Calls Tryz.prog 58 #[lnV v n I At E, .int .i64 er] w fun e w' => e = .returned (lnP v n (failS ws n ⟨I, At, E⟩ er)) ∧ Below w.heap.size w w' := by
  obtain ⟨g, cap, rfl, hc, hg, hx⟩ := hv
  obtain ⟨len, hlen⟩ : ∃ len, len = ws.length := ⟨_, rfl⟩
  by_cases hE : E = 0
  · subst hE
    by_cases hI : I < ws.length
    · have hr : Hid (lnP (.slice (some ⟨g, 0, none⟩) len cap) n (failS ws n ⟨I, At, 0⟩ er) = lnV (.slice (some ⟨g, 0, none⟩) len cap) n I (pos ws I) er) := Lib.hid (by unfold failS; rw [if_pos rfl, if_pos hI]; rfl)
      have c1 := (hx I hI).2
      rw [← hlen] at hI hl hc ⊢
      clear hx
      rw [hr.out]
      generalize pos ws I = P at c1 ⊢
      clear hlen hr
      go_enter Tryz.func58, Tryz.ntmps58
      go_wp2
      exact bodyPost_ret (v := lnV (.slice (some ⟨g, 0, none⟩) len cap) n I P er) (by simp [results, Tryz.results58, go_sem]) rfl ⟨rfl, (by repeat (first | exact Below.refl _ _ | refine Below.setCell ?_ (by simp) _ | refine Below.alloc ?_ (by simp) _ | refine Below.drew ?_))⟩
    · have hr : Hid (lnP (.slice (some ⟨g, 0, none⟩) len cap) n (failS ws n ⟨I, At, 0⟩ er) = lnV (.slice (some ⟨g, 0, none⟩) len cap) n I n er) := Lib.hid (by unfold failS; rw [if_pos rfl, if_neg hI]; rfl)
      rw [← hlen] at hI hl hc ⊢
      clear hx
      rw [hr.out]
      clear hlen hr
      go_enter Tryz.func58, Tryz.ntmps58
      go_wp2
      exact bodyPost_ret (v := lnV (.slice (some ⟨g, 0, none⟩) len cap) n I n er) (by simp [results, Tryz.results58, go_sem]) rfl ⟨rfl, (by repeat (first | exact Below.refl _ _ | refine Below.setCell ?_ (by simp) _ | refine Below.alloc ?_ (by simp) _ | refine Below.drew ?_))⟩
  · have hr : Hid (lnP (.slice (some ⟨g, 0, none⟩) len cap) n (failS ws n ⟨I, At, E⟩ er) = lnV (.slice (some ⟨g, 0, none⟩) len cap) n I At E) := Lib.hid (by unfold failS; rw [if_neg hE]; rfl)
    have hE' : ((E : Int) != 0) = true := by simpa using hE
    rw [← hlen] at hl hc ⊢
    clear hx
    rw [hr.out]
    clear hlen hr
    go_enter Tryz.func58, Tryz.ntmps58
    go_wp2
    exact bodyPost_ret (v := lnV (.slice (some ⟨g, 0, none⟩) len cap) n I At E) (by simp [results, Tryz.results58, go_sem]) rfl ⟨rfl, (by repeat (first | exact Below.refl _ _ | refine Below.setCell ?_ (by simp) _ | refine Below.alloc ?_ (by simp) _ | refine Below.drew ?_))⟩

theorem bytes_toList (l : List UInt8) : (⟨l.toArray⟩ : ByteArray).toList = l := by rw [ByteArray.toList_eq]
set_option maxRecDepth 100000 in
set_option maxHeartbeats 2000000 in
theorem refIs_any (ws : List (List UInt8)) (n I At : Nat) (E : Int) (v : Value) (u : List UInt8) (w : World) (hv : PartsAt w v ws) (hl : ws.length ≤ 1000) :
    Calls Tryz.prog 57 #[lnV v n I At E, .string ⟨u.toArray⟩] w fun e w' => e = .returned (.bool (isS ws ⟨I, At, E⟩ u)) ∧ Below w.heap.size w w' := by
  obtain ⟨g, cap, rfl, hc, hg, hx⟩ := hv
  obtain ⟨len, hlen⟩ : ∃ len, len = ws.length := ⟨_, rfl⟩
  by_cases hI : I < ws.length
  · have c1 := (hx I hI).1
    have hr : Hid (isS ws ⟨I, At, E⟩ u = (tok ws I == u)) := Lib.hid (by unfold isS; rw [decide_eq_true hI]; rfl)
    rw [hr.out]
    rw [← hlen] at hI hl hc ⊢
    generalize hT : tok ws I = T at c1 ⊢
    clear hx hr hT hlen
    obtain ⟨bT, hbT⟩ : ∃ b : ByteArray, b = ⟨T.toArray⟩ := ⟨_, rfl⟩
    obtain ⟨bU, hbU⟩ : ∃ b : ByteArray, b = ⟨u.toArray⟩ := ⟨_, rfl⟩
    have hR : Hid ((T == u) = (bT.toList == bU.toList)) := Lib.hid (by rw [hbT, hbU, bytes_toList, bytes_toList])
    rw [hR.out]
    rw [← hbT] at c1
    rw [← hbU]
    clear hbT hbU hR
    go_enter Tryz.func57, Tryz.ntmps57
    go_wp2
    go_ret
    exact ⟨rfl, new_below _ _⟩
  · have hr : Hid (isS ws ⟨I, At, E⟩ u = false) := Lib.hid (by unfold isS; rw [decide_eq_false hI]; rfl)
    rw [hr.out]
    rw [← hlen] at hI hl hc ⊢
    have hI' : decide (I < len) = false := decide_eq_false hI
    clear hx hr hlen
    go_enter Tryz.func57, Tryz.ntmps57
    go_wp2
    go_ret
    exact ⟨rfl, new_below _ _⟩

theorem ln_cells {W : World} {m : Nat} {v : Value} {n I At : Nat} {E : Int} (h : W.heap[m]? = some (lnO v n I At E)) : W.cell? ⟨m, 0, none⟩ = some v ∧ W.cell? ⟨m, 1, none⟩ = some (.int .i64 I) ∧ W.cell? ⟨m, 2, none⟩ = some (.int .i64 n) ∧ W.cell? ⟨m, 3, none⟩ = some (.int .i64 At) ∧ W.cell? ⟨m, 4, none⟩ = some (.int .i64 E) := by
  refine ⟨?_, ?_, ?_, ?_, ?_⟩ <;> simp [World.cell?, h]
theorem ln_free {W : World} {m : Nat} {v : Value} {n I At : Nat} {E : Int} (h : W.heap[m]? = some (lnO v n I At E)) : W.frozen? ⟨m, 0, none⟩ = false ∧ W.frozen? ⟨m, 1, none⟩ = false ∧ W.frozen? ⟨m, 2, none⟩ = false ∧ W.frozen? ⟨m, 3, none⟩ = false ∧ W.frozen? ⟨m, 4, none⟩ = false := by
  refine ⟨?_, ?_, ?_, ?_, ?_⟩ <;> simp [World.frozen?, h]
abbrev lnZ : Obj := .cells #[.slice none 0 0, .int .i64 0, .int .i64 0, .int .i64 0, .int .i64 0] 86 (0, 0)
/-- a line in a block, the result's block behind it. -/
structure LnAt (w W : World) (v : Value) (n I At : Nat) (E : Int) : Prop where
  one : W.heap[w.heap.size]? = some (lnO v n I At E)
  two : W.heap[w.heap.size + 1]? = some lnZ
  below : Below w.heap.size w W
theorem LnAt.laid (w : World) (v : Value) (n I At : Nat) (E : Int) : LnAt w ((w.alloc (lnO v n I At E)).alloc lnZ) v n I At E := by
  refine ⟨stay (heap_alloc_new _ _) (new_below _ _), ?_, ((Below.refl _ _).alloc (Nat.le_refl _) _).alloc (by simp) _⟩
  have := heap_alloc_new (w.alloc (lnO v n I At E)) lnZ
  rwa [World.size_alloc] at this
theorem LnAt.next {w W W' : World} {v n I At E} (h : LnAt w W v n I At E) (hb : Below W.heap.size W W') : LnAt w W' v n I At E := ⟨stay h.one hb, stay h.two hb, below_chain h.below hb⟩
theorem LnAt.cells {w W : World} {v n I At E} (h : LnAt w W v n I At E) : (W.cell? ⟨w.heap.size, 0, none⟩ = some v ∧ W.cell? ⟨w.heap.size, 1, none⟩ = some (.int .i64 I) ∧ W.cell? ⟨w.heap.size, 2, none⟩ = some (.int .i64 n) ∧ W.cell? ⟨w.heap.size, 3, none⟩ = some (.int .i64 At) ∧ W.cell? ⟨w.heap.size, 4, none⟩ = some (.int .i64 E)) ∧
    (W.frozen? ⟨w.heap.size, 0, none⟩ = false ∧ W.frozen? ⟨w.heap.size, 1, none⟩ = false ∧ W.frozen? ⟨w.heap.size, 2, none⟩ = false ∧ W.frozen? ⟨w.heap.size, 3, none⟩ = false ∧ W.frozen? ⟨w.heap.size, 4, none⟩ = false) ∧
    (W.cell? ⟨w.heap.size + 1, 0, none⟩ = some (.slice none 0 0) ∧ W.cell? ⟨w.heap.size + 1, 1, none⟩ = some (.int .i64 0) ∧ W.cell? ⟨w.heap.size + 1, 2, none⟩ = some (.int .i64 0) ∧ W.cell? ⟨w.heap.size + 1, 3, none⟩ = some (.int .i64 0) ∧ W.cell? ⟨w.heap.size + 1, 4, none⟩ = some (.int .i64 0)) ∧
    (W.frozen? ⟨w.heap.size + 1, 0, none⟩ = false ∧ W.frozen? ⟨w.heap.size + 1, 1, none⟩ = false ∧ W.frozen? ⟨w.heap.size + 1, 2, none⟩ = false ∧ W.frozen? ⟨w.heap.size + 1, 3, none⟩ = false ∧ W.frozen? ⟨w.heap.size + 1, 4, none⟩ = false) ∧ w.heap.size + 1 < W.heap.size := by
  refine ⟨ln_cells h.one, ln_free h.one, ?_, ?_, (Array.getElem?_eq_some_iff.1 h.two).1⟩
  · refine ⟨?_, ?_, ?_, ?_, ?_⟩ <;> simp [World.cell?, h.two]
  · refine ⟨?_, ?_, ?_, ?_, ?_⟩ <;> simp [World.frozen?, h.two]
theorem LnAt.put {w W : World} {v n I At E} (h : LnAt w W v n I At E) (a0 a1 a2 a3 a4 : Value) : Below w.heap.size w (((((W.setCell ⟨w.heap.size + 1, 0, none⟩ a0).setCell ⟨w.heap.size + 1, 1, none⟩ a1).setCell ⟨w.heap.size + 1, 2, none⟩ a2).setCell ⟨w.heap.size + 1, 3, none⟩ a3).setCell ⟨w.heap.size + 1, 4, none⟩ a4) :=
  ((((h.below.setCell (p := ⟨w.heap.size + 1, 0, none⟩) (Nat.le_succ _) _).setCell (p := ⟨w.heap.size + 1, 1, none⟩) (Nat.le_succ _) _).setCell (p := ⟨w.heap.size + 1, 2, none⟩) (Nat.le_succ _) _).setCell (p := ⟨w.heap.size + 1, 3, none⟩) (Nat.le_succ _) _).setCell (p := ⟨w.heap.size + 1, 4, none⟩) (Nat.le_succ _) _
end Go.Proofs.YtjcaaejfokmolaaGreatDoor
/- The document's integer. -/
namespace Go.Proofs.YtjcaaejfokmolaaGreatDoor
open Go.RowKit

/-- the number that the first digits of a text say. -/
def numTo (l : List UInt8) (k : Nat) : Int := ((Lib.decFrom 0 (l.take k)).getD 0 : Nat)
theorem take_snoc' {l : List UInt8} {k : Nat} (h : k < l.length) : l.take (k + 1) = l.take k ++ [l[k]] := List.take_succ_eq_append_getElem h
theorem numTo_next {l : List UInt8} {k : Nat} (h : k < l.length) (ha : (l.take k).all digB = true) (hd : digB l[k] = true) : numTo l (k + 1) = 10 * numTo l k + ((l[k].toNat : Int) - 48) := by
  unfold numTo
  obtain ⟨m, hm⟩ := dec_some (l.take k) 0 ha
  rw [take_snoc' h, dec_app, hm, digitVal_of hd]
  have := of_decide_eq_true hd
  show (((m * 10 + (l[k].toNat - 48) : Nat)) : Int) = 10 * (m : Int) + _
  omega
theorem numTo_bd {l : List UInt8} {k : Nat} (hk : k ≤ 10) : 0 ≤ numTo l k ∧ numTo l k < 10000000000 := by
  unfold numTo
  cases h : Lib.decFrom 0 (l.take k) with
  | none => simp
  | some m =>
    have h1 := Lib.decFrom_lt _ 0 m h
    have h2 : (l.take k).length ≤ 10 := by rw [List.length_take]; omega
    have h10 : 10 ^ (l.take k).length ≤ 10 ^ 10 := Nat.pow_le_pow_right (by omega) h2
    have : (10 : Nat) ^ 10 = 10000000000 := by decide
    simp only [Option.getD_some]
    omega

/-- c is what stands behind the sign of b, which is one if m. -/
def Body (b c : ByteArray) (m : Bool) : Prop := (m = true ∧ b.data.toList = 45 :: c.data.toList) ∨ (m = false ∧ b = c ∧ b.data.toList.headD 0 ≠ 45)
def okB (c : ByteArray) (m : Bool) : Bool := decide (1 ≤ c.size ∧ c.size ≤ 10) && !(c.data.toList.headD 0 == 48 && (decide (1 < c.size) || m))
theorem form_body {b c : ByteArray} {m : Bool} (h : Body b c m) : formL b.data.toList = (okB c m && c.data.toList.all digB) := by
  have hs : c.size = c.data.toList.length := Lib.size_eq c
  unfold okB
  rw [hs]
  rcases h with ⟨rfl, hb⟩ | ⟨rfl, rfl, hb⟩
  · rw [hb]
    generalize c.data.toList = l
    unfold formL digitsL
    rw [trim_yes]
    cases l with
    | nil => rfl
    | cons d r =>
      have e1 : ((45 :: d :: r : List UInt8) == [45, 48]) = ((d :: r) == [48]) := by rw [Bool.eq_iff_iff, beq_iff_eq, beq_iff_eq]; simp
      rw [e1]
      by_cases hd : d = 48
      · subst hd
        cases r with
        | nil => simp
        | cons e r => simp
      · have e2 : ((d :: r) == [48]) = false := by rw [beq_eq_false_iff_ne]; intro e; exact hd (List.cons.inj e).1
        rw [e2]
        have e3 : (d == 48) = false := by simpa using hd
        have e4 : (d != 48) = true := by simpa using hd
        show ((d :: r).all digB && (false || (true && (d != 48))) && decide ((d :: r).length ≤ 10) && !false) = (decide (1 ≤ (d :: r).length ∧ (d :: r).length ≤ 10) && !((d == 48) && _) && (d :: r).all digB)
        rw [e3, e4]
        have e5 : decide (1 ≤ (d :: r).length ∧ (d :: r).length ≤ 10) = decide ((d :: r).length ≤ 10) := by simp
        rw [e5]
        cases (d :: r).all digB <;> cases decide ((d :: r).length ≤ 10) <;> rfl
  · generalize b.data.toList = l at hb
    unfold formL digitsL
    cases l with
    | nil => rfl
    | cons d r =>
      have hd45 : d ≠ 45 := hb
      rw [trim_no r hd45]
      have e1 : ((d :: r) == [45, 48]) = false := by rw [beq_eq_false_iff_ne]; intro e; exact hd45 (List.cons.inj e).1
      rw [e1]
      by_cases hd : d = 48
      · subst hd
        cases r with
        | nil => simp
        | cons e r => simp
      · have e2 : ((d :: r) == [48]) = false := by rw [beq_eq_false_iff_ne]; intro e; exact hd (List.cons.inj e).1
        rw [e2]
        have e3 : (d == 48) = false := by simpa using hd
        have e4 : (d != 48) = true := by simpa using hd
        show ((d :: r).all digB && (false || (true && (d != 48))) && decide ((d :: r).length ≤ 10) && !false) = (decide (1 ≤ (d :: r).length ∧ (d :: r).length ≤ 10) && !((d == 48) && _) && (d :: r).all digB)
        rw [e3, e4]
        have e5 : decide (1 ≤ (d :: r).length ∧ (d :: r).length ≤ 10) = decide ((d :: r).length ≤ 10) := by simp
        rw [e5]
        cases (d :: r).all digB <;> cases decide ((d :: r).length ≤ 10) <;> rfl
theorem val_body {b c : ByteArray} {m : Bool} (h : Body b c m) (h0 : 0 < c.size) (ha : c.data.toList.all digB = true) : valL b.data.toList = if m then -(numTo c.data.toList c.size) else numTo c.data.toList c.size := by
  have hs : c.size = c.data.toList.length := Lib.size_eq c
  rw [hs] at h0 ⊢
  unfold numTo
  rw [List.take_length]
  obtain ⟨k, hk⟩ := dec_some c.data.toList 0 ha
  rcases h with ⟨rfl, hb⟩ | ⟨rfl, rfl, hb⟩
  · rw [hb]
    generalize c.data.toList = l at *
    have hne : l.isEmpty = false := by rw [List.isEmpty_eq_false_iff]; rintro rfl; simp at h0
    unfold valL Lib.atoi
    simp [Lib.decNat, hne, hk]
  · generalize b.data.toList = l at *
    cases l with
    | nil => simp at h0
    | cons d r =>
      have hd45 : d ≠ 45 := hb
      rw [List.all_cons, Bool.and_eq_true] at ha
      have hd43 := (dig_not ha.1).2.1
      unfold valL Lib.atoi
      simp [hd45, hd43, Lib.decNat, hk]
def intV (b : ByteArray) : Value := .tuple #[.int .i64 (if formL b.data.toList then valL b.data.toList else 0), .bool (formL b.data.toList)]
theorem int_no {b c : ByteArray} {m : Bool} (h : Body b c m) (hn : (okB c m && c.data.toList.all digB) = false) : intV b = .tuple #[.int .i64 0, .bool false] := by
  unfold intV; rw [form_body h, hn]; rfl
theorem int_yes {b c : ByteArray} {m : Bool} (h : Body b c m) (ho : okB c m = true) (ha : c.data.toList.all digB = true) : intV b = .tuple #[.int .i64 (if m then -(numTo c.data.toList c.size) else numTo c.data.toList c.size), .bool true] := by
  have h0 : 0 < c.size := by
    unfold okB at ho
    rw [Bool.and_eq_true, decide_eq_true_eq] at ho
    omega
  unfold intV; rw [form_body h, val_body h h0 ha, ho, ha]; rfl
theorem ok_long {c : ByteArray} {m : Bool} (h : ¬ (1 ≤ c.size ∧ c.size ≤ 10)) : okB c m = false := by unfold okB; rw [decide_eq_false h]; rfl
theorem ok_zero {c : ByteArray} {m : Bool} (hz : c.data.toList.headD 0 = 48) (h : 1 < c.size ∨ m = true) : okB c m = false := by
  unfold okB
  rw [hz]
  rcases h with h | h
  · rw [decide_eq_true h]; simp
  · rw [h]; simp
theorem ok_yes {c : ByteArray} {m : Bool} (h : 1 ≤ c.size ∧ c.size ≤ 10) (hz : c.data.toList.headD 0 ≠ 48 ∨ (c.size = 1 ∧ m = false)) : okB c m = true := by
  unfold okB
  rw [decide_eq_true h]
  rcases hz with hz | ⟨h1, h2⟩
  · rw [beq_eq_false_iff_ne.2 hz]; rfl
  · rw [h1, h2]; simp

set_option maxRecDepth 100000 in
set_option maxHeartbeats 4000000 in
theorem integer_minus (b c : ByteArray) (w : World) (hs : b.size ≤ 1000) (hcs : c.size ≤ 1000) (hb0 : 0 < b.size) (hbm : b[0] = 45) (hc : c = b.extract 1 b.size) (hB : Body b c true) :
    Calls Tryz.prog 95 #[.string b] w fun e w' => e = .returned (intV b) ∧ w = w' := by
  have HB := Lib.hid hB
  clear hB
  have q1 : ((b[0].toNat : Int) == 45) = true := by rw [hbm]; rfl
  have q2 : (b[0].toNat : Int) = 45 := by rw [hbm]; rfl
  have q3 : (1 : Int) ≤ b.size := by omega
  have HCC := Lib.hid hc
  clear hbm hc
  by_cases hlen : 1 ≤ c.size ∧ c.size ≤ 10
  · have HIN : Hid (∀ W, Calls Tryz.prog 33 #[.int .i64 (c.size : Int), .int .i64 1, .int .i64 10] W fun e w' => e = .returned (.bool true) ∧ W = w') := Lib.hid fun W => by
      have := refIn_any (c.size : Int) 1 10 W
      rwa [inB_true.2 (by omega)] at this
    obtain ⟨l1, l2⟩ := hlen
    have hh := head_of c (by omega)
    by_cases hz : c[0]'(by omega) = 48
    · have r1 : (((c[0]'(by omega)).toNat : Int) == 48) = true := by rw [hz]; rfl
      have r2 : ((c[0]'(by omega)).toNat : Int) = 48 := by rw [hz]; rfl
      rw [hz] at hh
      have HR : Hid (intV b = .tuple #[.int .i64 0, .bool false]) := Lib.hid (int_no HB.out (by rw [ok_zero hh (Or.inr rfl)]; rfl))
      clear hz hh
      by_cases h1 : 1 < c.size
      · go_enter Tryz.func95, Tryz.ntmps95
        go_upto_region 4 with fail
        rw [← HCC.out]
        go_wp2_with (go_at_call 33; ((with_reducible refine (HIN.out _).mono ?_); rintro e w' ⟨rfl, rfl⟩))
        exact bodyPost_ret (v := .tuple #[.int .i64 0, .bool false]) (by simp [results, Tryz.results95, go_sem]) rfl ⟨by rw [HR.out], rfl⟩
      · go_enter Tryz.func95, Tryz.ntmps95
        go_upto_region 4 with fail
        rw [← HCC.out]
        go_wp2_with (go_at_call 33; ((with_reducible refine (HIN.out _).mono ?_); rintro e w' ⟨rfl, rfl⟩))
        exact bodyPost_ret (v := .tuple #[.int .i64 0, .bool false]) (by simp [results, Tryz.results95, go_sem]) rfl ⟨by rw [HR.out], rfl⟩
    · have r1 : (((c[0]'(by omega)).toNat : Int) == 48) = false := by
        rw [beq_eq_false_iff_ne]; intro e
        exact hz (UInt8.toNat_inj.1 (by have : (c[0]'(by omega)).toNat = 48 := by omega
                                        rw [this]; rfl))
      have r2 : ¬ ((c[0]'(by omega)).toNat : Int) = 48 := by simpa using r1
      have HO : Hid (okB c true = true) := Lib.hid (ok_yes ⟨l1, l2⟩ (Or.inl (by rw [hh]; exact hz)))
      clear hz hh
      go_enter Tryz.func95, Tryz.ntmps95
      go_upto_region 4 with fail
      rw [← HCC.out]
      go_wp2_with (first | (go_at_call 33; ((with_reducible refine (HIN.out _).mono ?_); rintro e w' ⟨rfl, rfl⟩)) | go_in)
      go_loop [5, 6] (fun nv iv => ∃ k : Nat, k ≤ c.size ∧ iv = .int .i64 k ∧ nv = .int .i64 (numTo c.data.toList k) ∧ (c.data.toList.take k).all digB = true) (fun _ iv => c.size - (intOf iv).toNat)
      case atStart => exact ⟨0, Nat.zero_le _, rfl, rfl, rfl⟩
      case round =>
        obtain ⟨k, hk, rfl, rfl, hall⟩ := hrel
        have HA := Lib.hid hall; clear hall
        by_cases hlt : k < c.size
        · cases hd : digB c[k] with
          | true =>
            have HN : Hid (numTo c.data.toList (k + 1) = 10 * numTo c.data.toList k + ((c[k].toNat : Int) - 48)) := Lib.hid (numTo_next (by rw [← Lib.size_eq]; exact hlt) HA.out hd)
            have HT : Hid ((c.data.toList.take (k + 1)).all digB = true) := Lib.hid (by rw [take_all c k hlt HA.out]; exact hd)
            obtain ⟨z1, z2⟩ := digB_yes hd
            obtain ⟨y1, y2⟩ := numTo_bd (l := c.data.toList) (k := k) (by omega)
            generalize numTo c.data.toList k = M at HN y1 y2 ⊢
            clear hd
            go_wp2
            go_round
            case rel => exact ⟨k + 1, by omega, by go_num, by rw [HN.out], HT.out⟩
            case measure => simp [intOf]; omega
          | false =>
            have HR : Hid (intV b = .tuple #[.int .i64 0, .bool false]) := Lib.hid (int_no HB.out (by rw [all_not c k hlt hd, Bool.and_false]))
            have z := digB_no hd
            clear hd
            by_cases x1 : (c[k].toNat : Int) < 48
            · clear z
              go_wp2
              exact bodyPost_ret (v := .tuple #[.int .i64 0, .bool false]) (by simp [results, Tryz.results95, go_sem]) rfl ⟨by rw [HR.out], rfl⟩
            · have x2 : 57 < (c[k].toNat : Int) := by omega
              clear z
              go_wp2
              exact bodyPost_ret (v := .tuple #[.int .i64 0, .bool false]) (by simp [results, Tryz.results95, go_sem]) rfl ⟨by rw [HR.out], rfl⟩
        · have hkc : k = c.size := by omega
          subst hkc
          have hall : c.data.toList.all digB = true := by
            have := HA.out
            rwa [show c.data.toList.take c.size = c.data.toList from List.take_of_length_le (by rw [Lib.size_eq]; exact Nat.le_refl _)] at this
          have HR : Hid (intV b = .tuple #[.int .i64 (-(numTo c.data.toList c.size)), .bool true]) := Lib.hid (int_yes HB.out HO.out hall)
          clear hall
          have y1 := numTo_bd (l := c.data.toList) (k := c.size) (by omega)
          generalize numTo c.data.toList c.size = M at HR y1 ⊢
          obtain ⟨y1, y2⟩ := y1
          go_wp2
          exact bodyPost_ret (v := .tuple #[.int .i64 (-M), .bool true]) (by simp [results, Tryz.results95, go_sem]) rfl ⟨by rw [HR.out], rfl⟩
  · have HIN : Hid (∀ W, Calls Tryz.prog 33 #[.int .i64 (c.size : Int), .int .i64 1, .int .i64 10] W fun e w' => e = .returned (.bool false) ∧ W = w') := Lib.hid fun W => by
      have := refIn_any (c.size : Int) 1 10 W
      rwa [inB_false.2 (by omega)] at this
    have HR : Hid (intV b = .tuple #[.int .i64 0, .bool false]) := Lib.hid (int_no HB.out (by rw [ok_long hlen]; rfl))
    clear hlen
    go_enter Tryz.func95, Tryz.ntmps95
    go_upto_region 4 with fail
    rw [← HCC.out]
    go_wp2_with (go_at_call 33; ((with_reducible refine (HIN.out _).mono ?_); rintro e w' ⟨rfl, rfl⟩))
    exact bodyPost_ret (v := .tuple #[.int .i64 0, .bool false]) (by simp [results, Tryz.results95, go_sem]) rfl ⟨by rw [HR.out], rfl⟩

set_option maxRecDepth 100000 in
set_option maxHeartbeats 4000000 in
theorem integer_plain (b c : ByteArray) (w : World) (hs : b.size ≤ 1000) (hcs : c.size ≤ 1000) (hb0 : 0 < b.size) (hbm : b[0] ≠ 45) (hc : c = b) (hB : Body b c false) :
    Calls Tryz.prog 95 #[.string b] w fun e w' => e = .returned (intV b) ∧ w = w' := by
  have HB := Lib.hid hB
  clear hB
  subst hc
  have q1 : ((c[0].toNat : Int) == 45) = false := by
    rw [beq_eq_false_iff_ne]; intro e
    exact hbm (UInt8.toNat_inj.1 (by have : c[0].toNat = 45 := by omega
                                     rw [this]; rfl))
  have q2 : ¬ (c[0].toNat : Int) = 45 := by simpa using q1
  have q3 : (1 : Int) ≤ c.size := by omega
  clear hbm
  by_cases hlen : 1 ≤ c.size ∧ c.size ≤ 10
  · have HIN : Hid (∀ W, Calls Tryz.prog 33 #[.int .i64 (c.size : Int), .int .i64 1, .int .i64 10] W fun e w' => e = .returned (.bool true) ∧ W = w') := Lib.hid fun W => by
      have := refIn_any (c.size : Int) 1 10 W
      rwa [inB_true.2 (by omega)] at this
    obtain ⟨l1, l2⟩ := hlen
    have hh := head_of c (by omega)
    by_cases hz : c[0]'(by omega) = 48
    · have r1 : (((c[0]'(by omega)).toNat : Int) == 48) = true := by rw [hz]; rfl
      have r2 : ((c[0]'(by omega)).toNat : Int) = 48 := by rw [hz]; rfl
      rw [hz] at hh
      by_cases h1 : 1 < c.size
      · have HR : Hid (intV c = .tuple #[.int .i64 0, .bool false]) := Lib.hid (int_no HB.out (by rw [ok_zero hh (Or.inl h1)]; rfl))
        clear hz hh
        go_enter Tryz.func95, Tryz.ntmps95
        go_upto_region 4 with fail
        go_wp2_with (go_at_call 33; ((with_reducible refine (HIN.out _).mono ?_); rintro e w' ⟨rfl, rfl⟩))
        exact bodyPost_ret (v := .tuple #[.int .i64 0, .bool false]) (by simp [results, Tryz.results95, go_sem]) rfl ⟨by rw [HR.out], rfl⟩
      · have HO : Hid (okB c false = true) := Lib.hid (ok_yes ⟨l1, l2⟩ (Or.inr ⟨by omega, rfl⟩))
        clear hz hh
        go_enter Tryz.func95, Tryz.ntmps95
        go_upto_region 4 with fail
        go_wp2_with (first | (go_at_call 33; ((with_reducible refine (HIN.out _).mono ?_); rintro e w' ⟨rfl, rfl⟩)) | go_in)
        go_loop [5, 6] (fun nv iv => ∃ k : Nat, k ≤ c.size ∧ iv = .int .i64 k ∧ nv = .int .i64 (numTo c.data.toList k) ∧ (c.data.toList.take k).all digB = true) (fun _ iv => c.size - (intOf iv).toNat)
        case atStart => exact ⟨0, Nat.zero_le _, rfl, rfl, rfl⟩
        case round =>
          obtain ⟨k, hk, rfl, rfl, hall⟩ := hrel
          have HA := Lib.hid hall; clear hall
          by_cases hlt : k < c.size
          · cases hd : digB c[k] with
            | true =>
              have HN : Hid (numTo c.data.toList (k + 1) = 10 * numTo c.data.toList k + ((c[k].toNat : Int) - 48)) := Lib.hid (numTo_next (by rw [← Lib.size_eq]; exact hlt) HA.out hd)
              have HT : Hid ((c.data.toList.take (k + 1)).all digB = true) := Lib.hid (by rw [take_all c k hlt HA.out]; exact hd)
              obtain ⟨z1, z2⟩ := digB_yes hd
              obtain ⟨y1, y2⟩ := numTo_bd (l := c.data.toList) (k := k) (by omega)
              generalize numTo c.data.toList k = M at HN y1 y2 ⊢
              clear hd
              go_wp2
              go_round
              case rel => exact ⟨k + 1, by omega, by go_num, by rw [HN.out], HT.out⟩
              case measure => simp [intOf]; omega
            | false =>
              have HR : Hid (intV c = .tuple #[.int .i64 0, .bool false]) := Lib.hid (int_no HB.out (by rw [all_not c k hlt hd, Bool.and_false]))
              have z := digB_no hd
              clear hd
              by_cases x1 : (c[k].toNat : Int) < 48
              · clear z
                go_wp2
                exact bodyPost_ret (v := .tuple #[.int .i64 0, .bool false]) (by simp [results, Tryz.results95, go_sem]) rfl ⟨by rw [HR.out], rfl⟩
              · have x2 : 57 < (c[k].toNat : Int) := by omega
                clear z
                go_wp2
                exact bodyPost_ret (v := .tuple #[.int .i64 0, .bool false]) (by simp [results, Tryz.results95, go_sem]) rfl ⟨by rw [HR.out], rfl⟩
          · have hkc : k = c.size := by omega
            subst hkc
            have hall : c.data.toList.all digB = true := by
              have := HA.out
              rwa [show c.data.toList.take c.size = c.data.toList from List.take_of_length_le (by rw [Lib.size_eq]; exact Nat.le_refl _)] at this
            have HR : Hid (intV c = .tuple #[.int .i64 (numTo c.data.toList c.size), .bool true]) := Lib.hid (int_yes HB.out HO.out hall)
            clear hall
            have y1 := numTo_bd (l := c.data.toList) (k := c.size) (by omega)
            generalize numTo c.data.toList c.size = M at HR y1 ⊢
            obtain ⟨y1, y2⟩ := y1
            go_wp2
            exact bodyPost_ret (v := .tuple #[.int .i64 (M), .bool true]) (by simp [results, Tryz.results95, go_sem]) rfl ⟨by rw [HR.out], rfl⟩
    · have r1 : (((c[0]'(by omega)).toNat : Int) == 48) = false := by
        rw [beq_eq_false_iff_ne]; intro e
        exact hz (UInt8.toNat_inj.1 (by have : (c[0]'(by omega)).toNat = 48 := by omega
                                        rw [this]; rfl))
      have r2 : ¬ ((c[0]'(by omega)).toNat : Int) = 48 := by simpa using r1
      have HO : Hid (okB c false = true) := Lib.hid (ok_yes ⟨l1, l2⟩ (Or.inl (by rw [hh]; exact hz)))
      clear hz hh
      go_enter Tryz.func95, Tryz.ntmps95
      go_upto_region 4 with fail
      go_wp2_with (first | (go_at_call 33; ((with_reducible refine (HIN.out _).mono ?_); rintro e w' ⟨rfl, rfl⟩)) | go_in)
      go_loop [5, 6] (fun nv iv => ∃ k : Nat, k ≤ c.size ∧ iv = .int .i64 k ∧ nv = .int .i64 (numTo c.data.toList k) ∧ (c.data.toList.take k).all digB = true) (fun _ iv => c.size - (intOf iv).toNat)
      case atStart => exact ⟨0, Nat.zero_le _, rfl, rfl, rfl⟩
      case round =>
        obtain ⟨k, hk, rfl, rfl, hall⟩ := hrel
        have HA := Lib.hid hall; clear hall
        by_cases hlt : k < c.size
        · cases hd : digB c[k] with
          | true =>
            have HN : Hid (numTo c.data.toList (k + 1) = 10 * numTo c.data.toList k + ((c[k].toNat : Int) - 48)) := Lib.hid (numTo_next (by rw [← Lib.size_eq]; exact hlt) HA.out hd)
            have HT : Hid ((c.data.toList.take (k + 1)).all digB = true) := Lib.hid (by rw [take_all c k hlt HA.out]; exact hd)
            obtain ⟨z1, z2⟩ := digB_yes hd
            obtain ⟨y1, y2⟩ := numTo_bd (l := c.data.toList) (k := k) (by omega)
            generalize numTo c.data.toList k = M at HN y1 y2 ⊢
            clear hd
            go_wp2
            go_round
            case rel => exact ⟨k + 1, by omega, by go_num, by rw [HN.out], HT.out⟩
            case measure => simp [intOf]; omega
          | false =>
            have HR : Hid (intV c = .tuple #[.int .i64 0, .bool false]) := Lib.hid (int_no HB.out (by rw [all_not c k hlt hd, Bool.and_false]))
            have z := digB_no hd
            clear hd
            by_cases x1 : (c[k].toNat : Int) < 48
            · clear z
              go_wp2
              exact bodyPost_ret (v := .tuple #[.int .i64 0, .bool false]) (by simp [results, Tryz.results95, go_sem]) rfl ⟨by rw [HR.out], rfl⟩
            · have x2 : 57 < (c[k].toNat : Int) := by omega
              clear z
              go_wp2
              exact bodyPost_ret (v := .tuple #[.int .i64 0, .bool false]) (by simp [results, Tryz.results95, go_sem]) rfl ⟨by rw [HR.out], rfl⟩
        · have hkc : k = c.size := by omega
          subst hkc
          have hall : c.data.toList.all digB = true := by
            have := HA.out
            rwa [show c.data.toList.take c.size = c.data.toList from List.take_of_length_le (by rw [Lib.size_eq]; exact Nat.le_refl _)] at this
          have HR : Hid (intV c = .tuple #[.int .i64 (numTo c.data.toList c.size), .bool true]) := Lib.hid (int_yes HB.out HO.out hall)
          clear hall
          have y1 := numTo_bd (l := c.data.toList) (k := c.size) (by omega)
          generalize numTo c.data.toList c.size = M at HR y1 ⊢
          obtain ⟨y1, y2⟩ := y1
          go_wp2
          exact bodyPost_ret (v := .tuple #[.int .i64 (M), .bool true]) (by simp [results, Tryz.results95, go_sem]) rfl ⟨by rw [HR.out], rfl⟩
  · have HIN : Hid (∀ W, Calls Tryz.prog 33 #[.int .i64 (c.size : Int), .int .i64 1, .int .i64 10] W fun e w' => e = .returned (.bool false) ∧ W = w') := Lib.hid fun W => by
      have := refIn_any (c.size : Int) 1 10 W
      rwa [inB_false.2 (by omega)] at this
    have HR : Hid (intV c = .tuple #[.int .i64 0, .bool false]) := Lib.hid (int_no HB.out (by rw [ok_long hlen]; rfl))
    clear hlen
    go_enter Tryz.func95, Tryz.ntmps95
    go_upto_region 4 with fail
    go_wp2_with (go_at_call 33; ((with_reducible refine (HIN.out _).mono ?_); rintro e w' ⟨rfl, rfl⟩))
    exact bodyPost_ret (v := .tuple #[.int .i64 0, .bool false]) (by simp [results, Tryz.results95, go_sem]) rfl ⟨by rw [HR.out], rfl⟩

set_option maxHeartbeats 2000000 in
theorem refInteger_any (b : ByteArray) (w : World) (hs : b.size ≤ 1000) :
    Calls Tryz.prog 95 #[.string b] w fun e w' => e = .returned (intV b) ∧ w = w' := by
  by_cases h0 : 0 < b.size
  · by_cases hm : b[0] = 45
    · have e1 : b.data.toList = 45 :: (b.extract 1 b.size).data.toList := by
        have h1 : b.data.toList.headD 0 = b[0] := head_of b h0
        rw [Lib.extract_to_end]
        cases hl : b.data.toList with
        | nil => have : b.size = 0 := by rw [Lib.size_eq, hl]; rfl
                 omega
        | cons c r => rw [hl] at h1; have : c = b[0] := h1; rw [this, hm]; rfl
      exact integer_minus b (b.extract 1 b.size) w hs (by simp; omega) h0 hm rfl (Or.inl ⟨rfl, e1⟩)
    · exact integer_plain b b w hs hs h0 hm rfl (Or.inr ⟨rfl, rfl, by rw [head_of b h0]; exact hm⟩)
  · have hb : b.data.toList = [] := List.length_eq_zero_iff.1 (by have := Lib.size_eq b; omega)
    have hz : b.size = 0 := by omega
    have HR : Hid (intV b = .tuple #[.int .i64 0, .bool false]) := Lib.hid (by unfold intV; rw [hb]; rfl)
    have HIN : Hid (∀ W, Calls Tryz.prog 33 #[.int .i64 0, .int .i64 1, .int .i64 10] W fun e w' => e = .returned (.bool false) ∧ W = w') := Lib.hid fun W => refIn_any 0 1 10 W
    have hz' : (b.size : Int) = 0 := by omega
    clear hb h0
    go_enter Tryz.func95, Tryz.ntmps95
    go_wp2_with (go_at_call 33; ((with_reducible refine (HIN.out _).mono ?_); rintro e w' ⟨rfl, rfl⟩))
    exact bodyPost_ret (v := .tuple #[.int .i64 0, .bool false]) (by simp [results, Tryz.results95, go_sem]) rfl ⟨by rw [HR.out], rfl⟩
end Go.Proofs.YtjcaaejfokmolaaGreatDoor
/- The document's number. -/
namespace Go.Proofs.YtjcaaejfokmolaaGreatDoor
open Go.RowKit

def lnT (v : Value) (n : Nat) (r : Ln × Int) : Value := .tuple #[lnP v n r.1, .int .i64 r.2]
theorem lnT_fail {v n ws I At E er J B} {r : Ln × Int} (h : failS ws n ⟨I, At, E⟩ er = ⟨I, J, B⟩) (hr : r = (failS ws n ⟨I, At, E⟩ er, 0)) : lnT v n r = .tuple #[lnV v n I J B, .int .i64 0] := by unfold lnT lnP; rw [hr, h]
set_option maxRecDepth 100000 in
set_option maxHeartbeats 4000000 in
theorem refNumberP_any (ws : List (List UInt8)) (n I At : Nat) (E lo hi : Int) (v : Value) (w : World) (hv : PartsAt w v ws) (hl : ws.length ≤ 1000) (hI : I ≤ 1000) (ht : (tok ws I).length ≤ 1000) :
    Calls Tryz.prog 54 #[lnV v n I At E, .int .i64 lo, .int .i64 hi] w fun e w' => e = .returned (lnT v n (numberS ws n ⟨I, At, E⟩ lo hi)) ∧ Below w.heap.size w w' := by
  have HV : Hid (∀ W, Below w.heap.size w W → PartsAt W v ws) := Lib.hid fun W hW => hv.below hW
  have HL := Lib.hid hl
  have HFA : Hid (∀ W, Below w.heap.size w W → ∀ er J B, failS ws n ⟨I, At, E⟩ er = ⟨I, J, B⟩ → Calls Tryz.prog 58 #[lnV v n I At E, .int .i64 er] W fun e w' => e = .returned (lnV v n I J B) ∧ Below W.heap.size W w') := Lib.hid fun W hW er J B hJ => by
    have := refFail_any ws n I At E er v W (HV.out W hW) HL.out
    rw [hJ] at this; exact this
  have HFE : Hid (∀ er, ∃ J B, failS ws n ⟨I, At, E⟩ er = ⟨I, J, B⟩) := Lib.hid fun er => by unfold failS; split <;> exact ⟨_, _, rfl⟩
  have HLA := Lib.hid (LnAt.laid w v n I At E)
  obtain ⟨len, hlen⟩ : ∃ len, len = ws.length := ⟨_, rfl⟩
  obtain ⟨g, cap, rfl, hcap, hg, hx⟩ := hv
  rw [← hlen] at HV HFA HLA hcap hx hl ⊢
  by_cases hE : E = 0
  · by_cases hIl : I < len
    · have HN : Hid (numberS ws n ⟨I, At, E⟩ lo hi = (match numRes (tok ws I) lo hi with
        | .ok v => (⟨I + 1, At, E⟩, v)
        | .error er => (failS ws n ⟨I, At, E⟩ er, 0))) := Lib.hid (by unfold numberS; rw [if_pos ⟨hE, by rw [← hlen]; exact hIl⟩]; cases numRes (tok ws I) lo hi <;> rfl)
      have HX : Hid (∀ W, Below w.heap.size w W → W.cell? ⟨g, I * 2, none⟩ = some (.string ⟨(tok ws I).toArray⟩)) := Lib.hid fun W hW => (hW.cell (p := ⟨g, I * 2, none⟩) hg).trans (hx I hIl).1
      generalize tok ws I = T at ht HX HN
      obtain ⟨b, hb⟩ : ∃ b : ByteArray, b = ⟨T.toArray⟩ := ⟨_, rfl⟩
      have hbl : b.data.toList = T := by rw [hb]
      have hbs : b.size ≤ 1000 := by rw [Lib.size_eq, hbl]; exact ht
      rw [← hb] at HX
      have HIT : Hid (∀ W, Calls Tryz.prog 95 #[.string b] W fun e w' => e = .returned (intV b) ∧ W = w') := Lib.hid fun W => refInteger_any b W hbs
      rw [← hbl] at HN
      clear hb hbl hbs ht hx hlen hg HL
      subst hE
      cases hf : formL b.data.toList with
      | false =>
        have HV2 : Hid (intV b = .tuple #[.int .i64 0, .bool false]) := Lib.hid (by unfold intV; rw [hf]; rfl)
        rw [HV2.out] at HIT
        clear HV2
        obtain ⟨J, B, hJ⟩ := HFE.out 5
        have HJ := Lib.hid hJ
        have HR : Hid (lnT (.slice (some ⟨g, 0, none⟩) len cap) n (numberS ws n ⟨I, At, 0⟩ lo hi) = .tuple #[lnV (.slice (some ⟨g, 0, none⟩) len cap) n I J B, .int .i64 0]) := Lib.hid (lnT_fail hJ (by rw [HN.out]; unfold numRes; rw [hf]; rfl))
        rw [HR.out]
        clear hJ HFE HR
        clear hf HN
        go_enter Tryz.func54, Tryz.ntmps54
        have x0 := HX.out _ HLA.out.below
        go_wp2_with (go_at_call 95; ((with_reducible refine (HIT.out _).mono ?_); rintro e w' ⟨rfl, rfl⟩))
        clear x0
        refine (HFA.out _ HLA.out.below 5 J B HJ.out).mono ?_
        rintro e w2 ⟨rfl, hb2⟩
        have HL2 := Lib.hid (HLA.out.next hb2)
        clear hb2 HLA HFA
        (try clear a0 a1 a2 a3 a4 b0 b1 b2 b3 b4 c0 c1 c2 c3 c4 d0 d1 d2 d3 d4 hz)
        obtain ⟨⟨a0, a1, a2, a3, a4⟩, ⟨b0, b1, b2, b3, b4⟩, ⟨c0, c1, c2, c3, c4⟩, ⟨d0, d1, d2, d3, d4⟩, hz⟩ := HL2.out.cells
        go_wp2
        exact bodyPost_ret (v := .tuple #[lnV (.slice (some ⟨g, 0, none⟩) len cap) n I J B, .int .i64 0]) (by simp [results, Tryz.results54, go_sem, HL2.out.cells]) rfl ⟨rfl, (by repeat (first | refine Below.setCell ?_ (by simp) _ | exact HL2.out.below))⟩

      | true =>
        have HV2 : Hid (intV b = .tuple #[.int .i64 (valL b.data.toList), .bool true]) := Lib.hid (by unfold intV; rw [hf]; rfl)
        rw [HV2.out] at HIT
        clear HV2
        cases hin : inB (valL b.data.toList) lo hi with
        | false =>
          have HIN : Hid (∀ W, Calls Tryz.prog 33 #[.int .i64 (valL b.data.toList), .int .i64 lo, .int .i64 hi] W fun e w' => e = .returned (.bool false) ∧ W = w') := Lib.hid fun W => by rw [← hin]; exact refIn_any _ _ _ W
          obtain ⟨J, B, hJ⟩ := HFE.out 4
          have HJ := Lib.hid hJ
          have HR : Hid (lnT (.slice (some ⟨g, 0, none⟩) len cap) n (numberS ws n ⟨I, At, 0⟩ lo hi) = .tuple #[lnV (.slice (some ⟨g, 0, none⟩) len cap) n I J B, .int .i64 0]) := Lib.hid (lnT_fail hJ (by rw [HN.out]; unfold numRes; rw [hf, hin]; rfl))
          rw [HR.out]
          clear hJ HFE HR
          clear hf HN hin
          generalize valL b.data.toList = z at HIT HIN
          go_enter Tryz.func54, Tryz.ntmps54
          have x0 := HX.out _ HLA.out.below
          go_wp2_with (first | (go_at_call 95; ((with_reducible refine (HIT.out _).mono ?_); rintro e w' ⟨rfl, rfl⟩)) | (go_at_call 33; ((with_reducible refine (HIN.out _).mono ?_); rintro e w' ⟨rfl, rfl⟩)))
          clear x0
          refine (HFA.out _ HLA.out.below 4 J B HJ.out).mono ?_
          rintro e w2 ⟨rfl, hb2⟩
          have HL2 := Lib.hid (HLA.out.next hb2)
          clear hb2 HLA HFA
          (try clear a0 a1 a2 a3 a4 b0 b1 b2 b3 b4 c0 c1 c2 c3 c4 d0 d1 d2 d3 d4 hz)
          obtain ⟨⟨a0, a1, a2, a3, a4⟩, ⟨b0, b1, b2, b3, b4⟩, ⟨c0, c1, c2, c3, c4⟩, ⟨d0, d1, d2, d3, d4⟩, hz⟩ := HL2.out.cells
          go_wp2
          exact bodyPost_ret (v := .tuple #[lnV (.slice (some ⟨g, 0, none⟩) len cap) n I J B, .int .i64 0]) (by simp [results, Tryz.results54, go_sem, HL2.out.cells]) rfl ⟨rfl, (by repeat (first | refine Below.setCell ?_ (by simp) _ | exact HL2.out.below))⟩

        | true =>
          have HIN : Hid (∀ W, Calls Tryz.prog 33 #[.int .i64 (valL b.data.toList), .int .i64 lo, .int .i64 hi] W fun e w' => e = .returned (.bool true) ∧ W = w') := Lib.hid fun W => by rw [← hin]; exact refIn_any _ _ _ W
          have HR : Hid (lnT (.slice (some ⟨g, 0, none⟩) len cap) n (numberS ws n ⟨I, At, 0⟩ lo hi) = .tuple #[lnV (.slice (some ⟨g, 0, none⟩) len cap) n (I + 1) At 0, .int .i64 (valL b.data.toList)]) := Lib.hid (by rw [HN.out]; unfold numRes; rw [hf, hin]; rfl)
          rw [HR.out]
          clear hf HN hin HFE HR
          generalize valL b.data.toList = z at HIT HIN ⊢
          go_enter Tryz.func54, Tryz.ntmps54
          have x0 := HX.out _ HLA.out.below
          go_wp2_with (first | (go_at_call 95; ((with_reducible refine (HIT.out _).mono ?_); rintro e w' ⟨rfl, rfl⟩)) | (go_at_call 33; ((with_reducible refine (HIN.out _).mono ?_); rintro e w' ⟨rfl, rfl⟩)))
          exact bodyPost_ret (v := .tuple #[lnV (.slice (some ⟨g, 0, none⟩) len cap) n (I + 1) At 0, .int .i64 z]) (by simp [results, Tryz.results54, go_sem]) rfl ⟨rfl, ((Below.refl _ _).alloc (Nat.le_refl _) _).alloc (by simp) _⟩
    · have hI' : decide (I < len) = false := decide_eq_false hIl
      have hI2 : ¬ (I : Int) < len := by omega
      obtain ⟨J, B, hJ⟩ := HFE.out 5
      have HJ := Lib.hid hJ
      have HR : Hid (lnT (.slice (some ⟨g, 0, none⟩) len cap) n (numberS ws n ⟨I, At, E⟩ lo hi) = .tuple #[lnV (.slice (some ⟨g, 0, none⟩) len cap) n I J B, .int .i64 0]) := Lib.hid (lnT_fail hJ (by unfold numberS; rw [if_neg (fun h => hIl (by rw [hlen]; exact h.2))]))
      rw [HR.out]
      clear hJ HFE HR
      clear hx hlen hg
      subst hE
      go_enter Tryz.func54, Tryz.ntmps54
      go_wp2_with fail
      refine (HFA.out _ HLA.out.below 5 J B HJ.out).mono ?_
      rintro e w2 ⟨rfl, hb2⟩
      have HL2 := Lib.hid (HLA.out.next hb2)
      clear hb2 HLA HFA
      (try clear a0 a1 a2 a3 a4 b0 b1 b2 b3 b4 c0 c1 c2 c3 c4 d0 d1 d2 d3 d4 hz)
      obtain ⟨⟨a0, a1, a2, a3, a4⟩, ⟨b0, b1, b2, b3, b4⟩, ⟨c0, c1, c2, c3, c4⟩, ⟨d0, d1, d2, d3, d4⟩, hz⟩ := HL2.out.cells
      go_wp2
      exact bodyPost_ret (v := .tuple #[lnV (.slice (some ⟨g, 0, none⟩) len cap) n I J B, .int .i64 0]) (by simp [results, Tryz.results54, go_sem, HL2.out.cells]) rfl ⟨rfl, (by repeat (first | refine Below.setCell ?_ (by simp) _ | exact HL2.out.below))⟩

  · have hE' : ((E : Int) != 0) = true := by simpa using hE
    obtain ⟨J, B, hJ⟩ := HFE.out 5
    have HJ := Lib.hid hJ
    have HR : Hid (lnT (.slice (some ⟨g, 0, none⟩) len cap) n (numberS ws n ⟨I, At, E⟩ lo hi) = .tuple #[lnV (.slice (some ⟨g, 0, none⟩) len cap) n I J B, .int .i64 0]) := Lib.hid (lnT_fail hJ (by unfold numberS; rw [if_neg (fun h => hE h.1)]))
    rw [HR.out]
    clear hJ HFE HR
    clear hx hlen hg hE
    go_enter Tryz.func54, Tryz.ntmps54
    go_wp2_with fail
    refine (HFA.out _ HLA.out.below 5 J B HJ.out).mono ?_
    rintro e w2 ⟨rfl, hb2⟩
    have HL2 := Lib.hid (HLA.out.next hb2)
    clear hb2 HLA HFA
    (try clear a0 a1 a2 a3 a4 b0 b1 b2 b3 b4 c0 c1 c2 c3 c4 d0 d1 d2 d3 d4 hz)
    obtain ⟨⟨a0, a1, a2, a3, a4⟩, ⟨b0, b1, b2, b3, b4⟩, ⟨c0, c1, c2, c3, c4⟩, ⟨d0, d1, d2, d3, d4⟩, hz⟩ := HL2.out.cells
    go_wp2
    exact bodyPost_ret (v := .tuple #[lnV (.slice (some ⟨g, 0, none⟩) len cap) n I J B, .int .i64 0]) (by simp [results, Tryz.results54, go_sem, HL2.out.cells]) rfl ⟨rfl, (by repeat (first | refine Below.setCell ?_ (by simp) _ | exact HL2.out.below))⟩

end Go.Proofs.YtjcaaejfokmolaaGreatDoor
/- The document's words of the kinds; its kind. -/
namespace Go.Proofs.YtjcaaejfokmolaaGreatDoor
open Go.RowKit

abbrev kwO : Obj := .cells #[.string ⟨#[]⟩, .string ⟨#[98, 101, 97, 99, 111, 110]⟩, .string ⟨#[99, 97, 108, 108]⟩, .string ⟨#[102, 108, 97, 114, 101]⟩, .string ⟨#[109, 105, 115, 115, 105, 110, 103]⟩] 9 (0, 0)
set_option maxHeartbeats 1000000 in
theorem refKinds_any (w : World) : Calls Tryz.prog 46 #[] w fun e w' => e = .returned (.slice (some ⟨w.heap.size, 0, none⟩) 5 5) ∧ w' = w.alloc kwO := by
  go_enter Tryz.func46, Tryz.ntmps46
  go_wp2
  go_ret
  exact ⟨rfl, rfl⟩
theorem kw_cells {W : World} {m : Nat} (h : W.heap[m]? = some kwO) : W.cell? ⟨m, 1, none⟩ = some (.string ⟨#[98, 101, 97, 99, 111, 110]⟩) ∧ W.cell? ⟨m, 2, none⟩ = some (.string ⟨#[99, 97, 108, 108]⟩) ∧ W.cell? ⟨m, 3, none⟩ = some (.string ⟨#[102, 108, 97, 114, 101]⟩) ∧ W.cell? ⟨m, 4, none⟩ = some (.string ⟨#[109, 105, 115, 115, 105, 110, 103]⟩) := by
  refine ⟨?_, ?_, ?_, ?_⟩ <;> simp [World.cell?, h]
theorem kindS_hit {ws n} {p : Ln} {k : Nat} (hk : k = 1 ∨ k = 2 ∨ k = 3 ∨ k = 4) (h : isS ws p (kwL k) = true) : kindS ws n p = ({ p with I := p.I + 1 }, (k : Int)) := by
  unfold isS at h
  rw [Bool.and_eq_true, decide_eq_true_eq, beq_iff_eq] at h
  unfold kindS
  rw [if_pos h.1, h.2]
  rcases hk with rfl | rfl | rfl | rfl <;> rfl
theorem kindS_none {ws n} {p : Ln} (h : ∀ k, k = 1 ∨ k = 2 ∨ k = 3 ∨ k = 4 → isS ws p (kwL k) = false) : kindS ws n p = (failS ws n p 5, 0) := by
  unfold kindS
  by_cases hl : p.I < ws.length
  · have g : ∀ k, k = 1 ∨ k = 2 ∨ k = 3 ∨ k = 4 → tok ws p.I ≠ kwL k := by
      intro k hk e
      have := h k hk
      unfold isS at this
      rw [decide_eq_true hl, e] at this
      simp at this
    rw [if_pos hl]
    unfold kindRes
    rw [if_neg (g 1 (by simp)), if_neg (g 2 (by simp)), if_neg (g 3 (by simp)), if_neg (g 4 (by simp))]
  · rw [if_neg hl]

set_option maxRecDepth 100000 in
set_option maxHeartbeats 4000000 in
theorem refKind_any (ws : List (List UInt8)) (n I At : Nat) (E : Int) (v : Value) (w : World) (hv : PartsAt w v ws) (hl : ws.length ≤ 1000) (hI : I ≤ 1000) :
    Calls Tryz.prog 53 #[lnV v n I At E] w fun e w' => e = .returned (lnT v n (kindS ws n ⟨I, At, E⟩)) ∧ Below w.heap.size w w' := by
  have HIS : Hid (∀ (u : ByteArray) (l : List UInt8), u = ⟨l.toArray⟩ → ∀ (b : Bool), isS ws ⟨I, At, E⟩ l = b → ∀ W, Below w.heap.size w W → Calls Tryz.prog 57 #[lnV v n I At E, .string u] W fun e w' => e = .returned (.bool b) ∧ Below W.heap.size W w') := Lib.hid fun u l hu b hb W hW => by
    rw [← hb, hu]; exact refIs_any ws n I At E v l W (hv.below hW) hl
  have HKI : Hid (∀ W, Calls Tryz.prog 46 #[] W fun e w' => e = .returned (.slice (some ⟨W.heap.size, 0, none⟩) 5 5) ∧ w' = W.alloc kwO) := Lib.hid fun W => refKinds_any W
  have HV : Hid (∀ W, Below w.heap.size w W → PartsAt W v ws) := Lib.hid fun W hW => hv.below hW
  have HL := Lib.hid hl
  have HFA : Hid (∀ W, Below w.heap.size w W → ∀ er J B, failS ws n ⟨I, At, E⟩ er = ⟨I, J, B⟩ → Calls Tryz.prog 58 #[lnV v n I At E, .int .i64 er] W fun e w' => e = .returned (lnV v n I J B) ∧ Below W.heap.size W w') := Lib.hid fun W hW er J B hJ => by
    have := refFail_any ws n I At E er v W (HV.out W hW) HL.out
    rw [hJ] at this; exact this
  have HFE : Hid (∀ er, ∃ J B, failS ws n ⟨I, At, E⟩ er = ⟨I, J, B⟩) := Lib.hid fun er => by unfold failS; split <;> exact ⟨_, _, rfl⟩
  have HLA := Lib.hid (LnAt.laid w v n I At E)
  obtain ⟨len, hlen⟩ : ∃ len, len = ws.length := ⟨_, rfl⟩
  obtain ⟨g, cap, rfl, hcap, hg, hx⟩ := hv
  rw [← hlen] at HV HFA HLA hcap hx hl ⊢
  rw [← hlen] at HIS
  clear hx hlen hg hcap HL hl
  go_enter Tryz.func53, Tryz.ntmps53
  go_wp2_with fail
  go_loopw [4] (fun iv wr => ∃ k : Nat, 1 ≤ k ∧ k ≤ 5 ∧ iv = .int .i64 k ∧ Hid (LnAt w wr (.slice (some ⟨g, 0, none⟩) len cap) n I At E ∧ ∀ j, 1 ≤ j → j < k → isS ws ⟨I, At, E⟩ (kwL j) = false)) (fun iv _ => 5 - (intOf iv).toNat)
  case atStart => exact ⟨1, by omega, by omega, rfl, Lib.hid ⟨HLA.out, fun j h1 h2 => by omega⟩⟩
  case round =>
    obtain ⟨k, hk1, hk5, rfl, HI⟩ := hrel
    have HL1 := Lib.hid HI.out.1
    obtain ⟨⟨a0, a1, a2, a3, a4⟩, ⟨b0, b1, b2, b3, b4⟩, ⟨c0, c1, c2, c3, c4⟩, ⟨d0, d1, d2, d3, d4⟩, hz⟩ := HL1.out.cells
    by_cases h1 : k = 1
    · subst h1
      obtain ⟨b, hb⟩ : ∃ b, isS ws ⟨I, At, E⟩ (kwL 1) = b := ⟨_, rfl⟩
      have hb0 := Lib.hid hb
      have HISk : Hid (∀ W, Below w.heap.size w W → Calls Tryz.prog 57 #[lnV (.slice (some ⟨g, 0, none⟩) len cap) n I At E, .string ⟨#[98, 101, 97, 99, 111, 110]⟩] W fun e w' => e = .returned (.bool b) ∧ Below W.heap.size W w') := Lib.hid (HIS.out ⟨#[98, 101, 97, 99, 111, 110]⟩ (kwL 1) (by kernel_rfl) b hb)
      clear hb
      clear b0 b1 b2 b3 b4 c0 c1 c2 c3 c4 d0 d1 d2 d3 d4
      go_wp2_with fail
      refine wp_region_held_drew (S := (fun w' => w'.cell? ⟨w.heap.size, 0, none⟩ = some ((.slice (some ⟨g, 0, none⟩) len cap)) ∧ w'.cell? ⟨w.heap.size, 1, none⟩ = some (.int .i64 I) ∧ w'.cell? ⟨w.heap.size, 2, none⟩ = some (.int .i64 n) ∧ w'.cell? ⟨w.heap.size, 3, none⟩ = some (.int .i64 At) ∧ w'.cell? ⟨w.heap.size, 4, none⟩ = some (.int .i64 E) ∧ Below w.heap.size w w')) (by kernel_rfl) ⟨a0, a1, a2, a3, a4, HL1.out.below.drew⟩ (fun hHeld => ?_)
      refine takeH (i := 0) (n := 9) (v := lnV (.slice (some ⟨g, 0, none⟩) len cap) n I At E) rfl rfl (by kernel_rfl) (by kernel_rfl) (by kernel_rfl) (fun _ _ _ h => h) (Or.inl ⟨by kernel_rfl, ?_⟩) (by assumption) ?_
      · intro w hSw; (try dsimp only at hSw); go_simp
      try simp only [Act.put, List.setIfInBounds_toArray, List.set_cons_zero, List.set_cons_succ]
      refine takeH (i := 2) (n := 11) (v := .int .i64 1) rfl rfl (by kernel_rfl) (by kernel_rfl) (by kernel_rfl) (fun _ _ _ h => h) (Or.inl ⟨by kernel_rfl, ?_⟩) (by assumption) ?_
      · intro w hSw; (try dsimp only at hSw); go_simp
      try simp only [Act.put, List.setIfInBounds_toArray, List.set_cons_zero, List.set_cons_succ]
      refine wpAnyH_ready (rs := [1]) (by kernel_rfl) (by simp) ?_
      refine AllReadyH.cons rfl (fun K hK => ?_) AllReadyH.nil
      try rw [if_pos (by kernel_rfl)]
      try go_simp
      refine (HKI.out _).mono ?_
      rintro e w1 ⟨rfl, hw1⟩
      have HL2 := Lib.hid (show LnAt w w1 _ n I At E by rw [hw1]; exact (HL1.out.next (Below.refl _ _).drew).next (new_below _ kwO))
      have hk1 : w1.heap[wr.heap.size]? = some kwO := by rw [hw1]; exact heap_alloc_new wr.drew kwO
      clear hw1 a0 a1 a2 a3 a4 hHeld HL1 hz
      obtain ⟨x1, x2, x3, x4⟩ := kw_cells hk1
      clear hk1
      obtain ⟨⟨a0, a1, a2, a3, a4⟩, -, -, -, -⟩ := HL2.out.cells
      have hS : w1.cell? ⟨w.heap.size, 0, none⟩ = some ((.slice (some ⟨g, 0, none⟩) len cap)) ∧ w1.cell? ⟨w.heap.size, 1, none⟩ = some (.int .i64 I) ∧ w1.cell? ⟨w.heap.size, 2, none⟩ = some (.int .i64 n) ∧ w1.cell? ⟨w.heap.size, 3, none⟩ = some (.int .i64 At) ∧ w1.cell? ⟨w.heap.size, 4, none⟩ = some (.int .i64 E) ∧ Below w.heap.size w w1 := ⟨a0, a1, a2, a3, a4, HL2.out.below⟩
      refine hK.out _ _ hS (fun _ => ?_)
      clear hK K
      try simp only [Act.put, List.getElem_toArray, List.getElem_cons_succ, List.getElem_cons_zero, List.setIfInBounds_toArray, List.set_cons_zero, List.set_cons_succ]
      refine wpAnyH_ready (rs := [3]) (by kernel_rfl) (by simp) ?_
      refine AllReadyH.cons rfl (fun K hK => ?_) AllReadyH.nil
      try rw [if_pos (by kernel_rfl)]
      try go_simp
      refine hK.out _ _ hS (fun _ => ?_)
      clear hK K
      try simp only [Act.put, List.getElem_toArray, List.getElem_cons_succ, List.getElem_cons_zero, List.setIfInBounds_toArray, List.set_cons_zero, List.set_cons_succ]
      refine wpAnyH_ready (rs := [4]) (by kernel_rfl) (by simp) ?_
      refine AllReadyH.cons rfl (fun K hK => ?_) AllReadyH.nil
      try rw [if_pos (by kernel_rfl)]
      try go_simp
      refine hK.out _ _ hS (fun _ => ?_)
      clear hK K
      try simp only [Act.put, List.getElem_toArray, List.getElem_cons_succ, List.getElem_cons_zero, List.setIfInBounds_toArray, List.set_cons_zero, List.set_cons_succ]
      refine wpAnyH_ready (rs := [5]) (by kernel_rfl) (by simp) ?_
      refine AllReadyH.cons rfl (fun K hK => ?_) AllReadyH.nil
      try rw [if_pos (by kernel_rfl)]
      try go_simp
      refine (HISk.out _ HL2.out.below).mono ?_
      rintro e w3 ⟨rfl, hb3⟩
      have HL3 := Lib.hid (HL2.out.next hb3)
      clear hb3 a0 a1 a2 a3 a4 x1 x2 x3 x4 hS HL2
      obtain ⟨⟨a0, a1, a2, a3, a4⟩, ⟨b0, b1, b2, b3, b4⟩, ⟨c0, c1, c2, c3, c4⟩, ⟨d0, d1, d2, d3, d4⟩, hz⟩ := HL3.out.cells
      have hS : w3.cell? ⟨w.heap.size, 0, none⟩ = some ((.slice (some ⟨g, 0, none⟩) len cap)) ∧ w3.cell? ⟨w.heap.size, 1, none⟩ = some (.int .i64 I) ∧ w3.cell? ⟨w.heap.size, 2, none⟩ = some (.int .i64 n) ∧ w3.cell? ⟨w.heap.size, 3, none⟩ = some (.int .i64 At) ∧ w3.cell? ⟨w.heap.size, 4, none⟩ = some (.int .i64 E) ∧ Below w.heap.size w w3 := ⟨a0, a1, a2, a3, a4, HL3.out.below⟩
      refine hK.out _ _ hS (fun _ => ?_)
      clear hK K
      try simp only [Act.put, List.getElem_toArray, List.getElem_cons_succ, List.getElem_cons_zero, List.setIfInBounds_toArray, List.set_cons_zero, List.set_cons_succ]
      clear hS
      refine wpAnyH_done (by kernel_rfl) ?_ _
      cases b with
      | true =>
        have HR : Hid (lnT (.slice (some ⟨g, 0, none⟩) len cap) n (kindS ws n ⟨I, At, E⟩) = .tuple #[lnV (.slice (some ⟨g, 0, none⟩) len cap) n (I + 1) At E, .int .i64 1]) := Lib.hid (by rw [kindS_hit (k := 1) (by simp) hb0.out]; rfl)
        clear HIS HKI HFA HFE HLA HV
        go_wp2
        exact bodyPost_ret (v := .tuple #[lnV (.slice (some ⟨g, 0, none⟩) len cap) n (I + 1) At E, .int .i64 1]) (by simp [results, Tryz.results53, go_sem, HL3.out.cells]) rfl ⟨by rw [HR.out], (by repeat (first | refine Below.setCell ?_ (by simp) _ | exact HL3.out.below))⟩
      | false =>
        go_wp2
        go_roundw
        case rel => exact ⟨2, by omega, by omega, by go_num, Lib.hid ⟨HL3.out, fun j h1 h2 => by
          by_cases e : j = 1
          · subst e; exact hb0.out
          · exact HI.out.2 j h1 (by omega)⟩⟩
        case measure => simp [intOf]
    · skip
      by_cases h2 : k = 2
      · subst h2
        obtain ⟨b, hb⟩ : ∃ b, isS ws ⟨I, At, E⟩ (kwL 2) = b := ⟨_, rfl⟩
        have hb0 := Lib.hid hb
        have HISk : Hid (∀ W, Below w.heap.size w W → Calls Tryz.prog 57 #[lnV (.slice (some ⟨g, 0, none⟩) len cap) n I At E, .string ⟨#[99, 97, 108, 108]⟩] W fun e w' => e = .returned (.bool b) ∧ Below W.heap.size W w') := Lib.hid (HIS.out ⟨#[99, 97, 108, 108]⟩ (kwL 2) (by kernel_rfl) b hb)
        clear hb
        clear b0 b1 b2 b3 b4 c0 c1 c2 c3 c4 d0 d1 d2 d3 d4
        go_wp2_with fail
        refine wp_region_held_drew (S := (fun w' => w'.cell? ⟨w.heap.size, 0, none⟩ = some ((.slice (some ⟨g, 0, none⟩) len cap)) ∧ w'.cell? ⟨w.heap.size, 1, none⟩ = some (.int .i64 I) ∧ w'.cell? ⟨w.heap.size, 2, none⟩ = some (.int .i64 n) ∧ w'.cell? ⟨w.heap.size, 3, none⟩ = some (.int .i64 At) ∧ w'.cell? ⟨w.heap.size, 4, none⟩ = some (.int .i64 E) ∧ Below w.heap.size w w')) (by kernel_rfl) ⟨a0, a1, a2, a3, a4, HL1.out.below.drew⟩ (fun hHeld => ?_)
        refine takeH (i := 0) (n := 9) (v := lnV (.slice (some ⟨g, 0, none⟩) len cap) n I At E) rfl rfl (by kernel_rfl) (by kernel_rfl) (by kernel_rfl) (fun _ _ _ h => h) (Or.inl ⟨by kernel_rfl, ?_⟩) (by assumption) ?_
        · intro w hSw; (try dsimp only at hSw); go_simp
        try simp only [Act.put, List.setIfInBounds_toArray, List.set_cons_zero, List.set_cons_succ]
        refine takeH (i := 2) (n := 11) (v := .int .i64 2) rfl rfl (by kernel_rfl) (by kernel_rfl) (by kernel_rfl) (fun _ _ _ h => h) (Or.inl ⟨by kernel_rfl, ?_⟩) (by assumption) ?_
        · intro w hSw; (try dsimp only at hSw); go_simp
        try simp only [Act.put, List.setIfInBounds_toArray, List.set_cons_zero, List.set_cons_succ]
        refine wpAnyH_ready (rs := [1]) (by kernel_rfl) (by simp) ?_
        refine AllReadyH.cons rfl (fun K hK => ?_) AllReadyH.nil
        try rw [if_pos (by kernel_rfl)]
        try go_simp
        refine (HKI.out _).mono ?_
        rintro e w1 ⟨rfl, hw1⟩
        have HL2 := Lib.hid (show LnAt w w1 _ n I At E by rw [hw1]; exact (HL1.out.next (Below.refl _ _).drew).next (new_below _ kwO))
        have hk1 : w1.heap[wr.heap.size]? = some kwO := by rw [hw1]; exact heap_alloc_new wr.drew kwO
        clear hw1 a0 a1 a2 a3 a4 hHeld HL1 hz
        obtain ⟨x1, x2, x3, x4⟩ := kw_cells hk1
        clear hk1
        obtain ⟨⟨a0, a1, a2, a3, a4⟩, -, -, -, -⟩ := HL2.out.cells
        have hS : w1.cell? ⟨w.heap.size, 0, none⟩ = some ((.slice (some ⟨g, 0, none⟩) len cap)) ∧ w1.cell? ⟨w.heap.size, 1, none⟩ = some (.int .i64 I) ∧ w1.cell? ⟨w.heap.size, 2, none⟩ = some (.int .i64 n) ∧ w1.cell? ⟨w.heap.size, 3, none⟩ = some (.int .i64 At) ∧ w1.cell? ⟨w.heap.size, 4, none⟩ = some (.int .i64 E) ∧ Below w.heap.size w w1 := ⟨a0, a1, a2, a3, a4, HL2.out.below⟩
        refine hK.out _ _ hS (fun _ => ?_)
        clear hK K
        try simp only [Act.put, List.getElem_toArray, List.getElem_cons_succ, List.getElem_cons_zero, List.setIfInBounds_toArray, List.set_cons_zero, List.set_cons_succ]
        refine wpAnyH_ready (rs := [3]) (by kernel_rfl) (by simp) ?_
        refine AllReadyH.cons rfl (fun K hK => ?_) AllReadyH.nil
        try rw [if_pos (by kernel_rfl)]
        try go_simp
        refine hK.out _ _ hS (fun _ => ?_)
        clear hK K
        try simp only [Act.put, List.getElem_toArray, List.getElem_cons_succ, List.getElem_cons_zero, List.setIfInBounds_toArray, List.set_cons_zero, List.set_cons_succ]
        refine wpAnyH_ready (rs := [4]) (by kernel_rfl) (by simp) ?_
        refine AllReadyH.cons rfl (fun K hK => ?_) AllReadyH.nil
        try rw [if_pos (by kernel_rfl)]
        try go_simp
        refine hK.out _ _ hS (fun _ => ?_)
        clear hK K
        try simp only [Act.put, List.getElem_toArray, List.getElem_cons_succ, List.getElem_cons_zero, List.setIfInBounds_toArray, List.set_cons_zero, List.set_cons_succ]
        refine wpAnyH_ready (rs := [5]) (by kernel_rfl) (by simp) ?_
        refine AllReadyH.cons rfl (fun K hK => ?_) AllReadyH.nil
        try rw [if_pos (by kernel_rfl)]
        try go_simp
        refine (HISk.out _ HL2.out.below).mono ?_
        rintro e w3 ⟨rfl, hb3⟩
        have HL3 := Lib.hid (HL2.out.next hb3)
        clear hb3 a0 a1 a2 a3 a4 x1 x2 x3 x4 hS HL2
        obtain ⟨⟨a0, a1, a2, a3, a4⟩, ⟨b0, b1, b2, b3, b4⟩, ⟨c0, c1, c2, c3, c4⟩, ⟨d0, d1, d2, d3, d4⟩, hz⟩ := HL3.out.cells
        have hS : w3.cell? ⟨w.heap.size, 0, none⟩ = some ((.slice (some ⟨g, 0, none⟩) len cap)) ∧ w3.cell? ⟨w.heap.size, 1, none⟩ = some (.int .i64 I) ∧ w3.cell? ⟨w.heap.size, 2, none⟩ = some (.int .i64 n) ∧ w3.cell? ⟨w.heap.size, 3, none⟩ = some (.int .i64 At) ∧ w3.cell? ⟨w.heap.size, 4, none⟩ = some (.int .i64 E) ∧ Below w.heap.size w w3 := ⟨a0, a1, a2, a3, a4, HL3.out.below⟩
        refine hK.out _ _ hS (fun _ => ?_)
        clear hK K
        try simp only [Act.put, List.getElem_toArray, List.getElem_cons_succ, List.getElem_cons_zero, List.setIfInBounds_toArray, List.set_cons_zero, List.set_cons_succ]
        clear hS
        refine wpAnyH_done (by kernel_rfl) ?_ _
        cases b with
        | true =>
          have HR : Hid (lnT (.slice (some ⟨g, 0, none⟩) len cap) n (kindS ws n ⟨I, At, E⟩) = .tuple #[lnV (.slice (some ⟨g, 0, none⟩) len cap) n (I + 1) At E, .int .i64 2]) := Lib.hid (by rw [kindS_hit (k := 2) (by simp) hb0.out]; rfl)
          clear HIS HKI HFA HFE HLA HV
          go_wp2
          exact bodyPost_ret (v := .tuple #[lnV (.slice (some ⟨g, 0, none⟩) len cap) n (I + 1) At E, .int .i64 2]) (by simp [results, Tryz.results53, go_sem, HL3.out.cells]) rfl ⟨by rw [HR.out], (by repeat (first | refine Below.setCell ?_ (by simp) _ | exact HL3.out.below))⟩
        | false =>
          go_wp2
          go_roundw
          case rel => exact ⟨3, by omega, by omega, by go_num, Lib.hid ⟨HL3.out, fun j h1 h2 => by
            by_cases e : j = 2
            · subst e; exact hb0.out
            · exact HI.out.2 j h1 (by omega)⟩⟩
          case measure => simp [intOf]
      · skip
        by_cases h3 : k = 3
        · subst h3
          obtain ⟨b, hb⟩ : ∃ b, isS ws ⟨I, At, E⟩ (kwL 3) = b := ⟨_, rfl⟩
          have hb0 := Lib.hid hb
          have HISk : Hid (∀ W, Below w.heap.size w W → Calls Tryz.prog 57 #[lnV (.slice (some ⟨g, 0, none⟩) len cap) n I At E, .string ⟨#[102, 108, 97, 114, 101]⟩] W fun e w' => e = .returned (.bool b) ∧ Below W.heap.size W w') := Lib.hid (HIS.out ⟨#[102, 108, 97, 114, 101]⟩ (kwL 3) (by kernel_rfl) b hb)
          clear hb
          clear b0 b1 b2 b3 b4 c0 c1 c2 c3 c4 d0 d1 d2 d3 d4
          go_wp2_with fail
          refine wp_region_held_drew (S := (fun w' => w'.cell? ⟨w.heap.size, 0, none⟩ = some ((.slice (some ⟨g, 0, none⟩) len cap)) ∧ w'.cell? ⟨w.heap.size, 1, none⟩ = some (.int .i64 I) ∧ w'.cell? ⟨w.heap.size, 2, none⟩ = some (.int .i64 n) ∧ w'.cell? ⟨w.heap.size, 3, none⟩ = some (.int .i64 At) ∧ w'.cell? ⟨w.heap.size, 4, none⟩ = some (.int .i64 E) ∧ Below w.heap.size w w')) (by kernel_rfl) ⟨a0, a1, a2, a3, a4, HL1.out.below.drew⟩ (fun hHeld => ?_)
          refine takeH (i := 0) (n := 9) (v := lnV (.slice (some ⟨g, 0, none⟩) len cap) n I At E) rfl rfl (by kernel_rfl) (by kernel_rfl) (by kernel_rfl) (fun _ _ _ h => h) (Or.inl ⟨by kernel_rfl, ?_⟩) (by assumption) ?_
          · intro w hSw; (try dsimp only at hSw); go_simp
          try simp only [Act.put, List.setIfInBounds_toArray, List.set_cons_zero, List.set_cons_succ]
          refine takeH (i := 2) (n := 11) (v := .int .i64 3) rfl rfl (by kernel_rfl) (by kernel_rfl) (by kernel_rfl) (fun _ _ _ h => h) (Or.inl ⟨by kernel_rfl, ?_⟩) (by assumption) ?_
          · intro w hSw; (try dsimp only at hSw); go_simp
          try simp only [Act.put, List.setIfInBounds_toArray, List.set_cons_zero, List.set_cons_succ]
          refine wpAnyH_ready (rs := [1]) (by kernel_rfl) (by simp) ?_
          refine AllReadyH.cons rfl (fun K hK => ?_) AllReadyH.nil
          try rw [if_pos (by kernel_rfl)]
          try go_simp
          refine (HKI.out _).mono ?_
          rintro e w1 ⟨rfl, hw1⟩
          have HL2 := Lib.hid (show LnAt w w1 _ n I At E by rw [hw1]; exact (HL1.out.next (Below.refl _ _).drew).next (new_below _ kwO))
          have hk1 : w1.heap[wr.heap.size]? = some kwO := by rw [hw1]; exact heap_alloc_new wr.drew kwO
          clear hw1 a0 a1 a2 a3 a4 hHeld HL1 hz
          obtain ⟨x1, x2, x3, x4⟩ := kw_cells hk1
          clear hk1
          obtain ⟨⟨a0, a1, a2, a3, a4⟩, -, -, -, -⟩ := HL2.out.cells
          have hS : w1.cell? ⟨w.heap.size, 0, none⟩ = some ((.slice (some ⟨g, 0, none⟩) len cap)) ∧ w1.cell? ⟨w.heap.size, 1, none⟩ = some (.int .i64 I) ∧ w1.cell? ⟨w.heap.size, 2, none⟩ = some (.int .i64 n) ∧ w1.cell? ⟨w.heap.size, 3, none⟩ = some (.int .i64 At) ∧ w1.cell? ⟨w.heap.size, 4, none⟩ = some (.int .i64 E) ∧ Below w.heap.size w w1 := ⟨a0, a1, a2, a3, a4, HL2.out.below⟩
          refine hK.out _ _ hS (fun _ => ?_)
          clear hK K
          try simp only [Act.put, List.getElem_toArray, List.getElem_cons_succ, List.getElem_cons_zero, List.setIfInBounds_toArray, List.set_cons_zero, List.set_cons_succ]
          refine wpAnyH_ready (rs := [3]) (by kernel_rfl) (by simp) ?_
          refine AllReadyH.cons rfl (fun K hK => ?_) AllReadyH.nil
          try rw [if_pos (by kernel_rfl)]
          try go_simp
          refine hK.out _ _ hS (fun _ => ?_)
          clear hK K
          try simp only [Act.put, List.getElem_toArray, List.getElem_cons_succ, List.getElem_cons_zero, List.setIfInBounds_toArray, List.set_cons_zero, List.set_cons_succ]
          refine wpAnyH_ready (rs := [4]) (by kernel_rfl) (by simp) ?_
          refine AllReadyH.cons rfl (fun K hK => ?_) AllReadyH.nil
          try rw [if_pos (by kernel_rfl)]
          try go_simp
          refine hK.out _ _ hS (fun _ => ?_)
          clear hK K
          try simp only [Act.put, List.getElem_toArray, List.getElem_cons_succ, List.getElem_cons_zero, List.setIfInBounds_toArray, List.set_cons_zero, List.set_cons_succ]
          refine wpAnyH_ready (rs := [5]) (by kernel_rfl) (by simp) ?_
          refine AllReadyH.cons rfl (fun K hK => ?_) AllReadyH.nil
          try rw [if_pos (by kernel_rfl)]
          try go_simp
          refine (HISk.out _ HL2.out.below).mono ?_
          rintro e w3 ⟨rfl, hb3⟩
          have HL3 := Lib.hid (HL2.out.next hb3)
          clear hb3 a0 a1 a2 a3 a4 x1 x2 x3 x4 hS HL2
          obtain ⟨⟨a0, a1, a2, a3, a4⟩, ⟨b0, b1, b2, b3, b4⟩, ⟨c0, c1, c2, c3, c4⟩, ⟨d0, d1, d2, d3, d4⟩, hz⟩ := HL3.out.cells
          have hS : w3.cell? ⟨w.heap.size, 0, none⟩ = some ((.slice (some ⟨g, 0, none⟩) len cap)) ∧ w3.cell? ⟨w.heap.size, 1, none⟩ = some (.int .i64 I) ∧ w3.cell? ⟨w.heap.size, 2, none⟩ = some (.int .i64 n) ∧ w3.cell? ⟨w.heap.size, 3, none⟩ = some (.int .i64 At) ∧ w3.cell? ⟨w.heap.size, 4, none⟩ = some (.int .i64 E) ∧ Below w.heap.size w w3 := ⟨a0, a1, a2, a3, a4, HL3.out.below⟩
          refine hK.out _ _ hS (fun _ => ?_)
          clear hK K
          try simp only [Act.put, List.getElem_toArray, List.getElem_cons_succ, List.getElem_cons_zero, List.setIfInBounds_toArray, List.set_cons_zero, List.set_cons_succ]
          clear hS
          refine wpAnyH_done (by kernel_rfl) ?_ _
          cases b with
          | true =>
            have HR : Hid (lnT (.slice (some ⟨g, 0, none⟩) len cap) n (kindS ws n ⟨I, At, E⟩) = .tuple #[lnV (.slice (some ⟨g, 0, none⟩) len cap) n (I + 1) At E, .int .i64 3]) := Lib.hid (by rw [kindS_hit (k := 3) (by simp) hb0.out]; rfl)
            clear HIS HKI HFA HFE HLA HV
            go_wp2
            exact bodyPost_ret (v := .tuple #[lnV (.slice (some ⟨g, 0, none⟩) len cap) n (I + 1) At E, .int .i64 3]) (by simp [results, Tryz.results53, go_sem, HL3.out.cells]) rfl ⟨by rw [HR.out], (by repeat (first | refine Below.setCell ?_ (by simp) _ | exact HL3.out.below))⟩
          | false =>
            go_wp2
            go_roundw
            case rel => exact ⟨4, by omega, by omega, by go_num, Lib.hid ⟨HL3.out, fun j h1 h2 => by
              by_cases e : j = 3
              · subst e; exact hb0.out
              · exact HI.out.2 j h1 (by omega)⟩⟩
            case measure => simp [intOf]
        · skip
          by_cases h4 : k = 4
          · subst h4
            obtain ⟨b, hb⟩ : ∃ b, isS ws ⟨I, At, E⟩ (kwL 4) = b := ⟨_, rfl⟩
            have hb0 := Lib.hid hb
            have HISk : Hid (∀ W, Below w.heap.size w W → Calls Tryz.prog 57 #[lnV (.slice (some ⟨g, 0, none⟩) len cap) n I At E, .string ⟨#[109, 105, 115, 115, 105, 110, 103]⟩] W fun e w' => e = .returned (.bool b) ∧ Below W.heap.size W w') := Lib.hid (HIS.out ⟨#[109, 105, 115, 115, 105, 110, 103]⟩ (kwL 4) (by kernel_rfl) b hb)
            clear hb
            clear b0 b1 b2 b3 b4 c0 c1 c2 c3 c4 d0 d1 d2 d3 d4
            go_wp2_with fail
            refine wp_region_held_drew (S := (fun w' => w'.cell? ⟨w.heap.size, 0, none⟩ = some ((.slice (some ⟨g, 0, none⟩) len cap)) ∧ w'.cell? ⟨w.heap.size, 1, none⟩ = some (.int .i64 I) ∧ w'.cell? ⟨w.heap.size, 2, none⟩ = some (.int .i64 n) ∧ w'.cell? ⟨w.heap.size, 3, none⟩ = some (.int .i64 At) ∧ w'.cell? ⟨w.heap.size, 4, none⟩ = some (.int .i64 E) ∧ Below w.heap.size w w')) (by kernel_rfl) ⟨a0, a1, a2, a3, a4, HL1.out.below.drew⟩ (fun hHeld => ?_)
            refine takeH (i := 0) (n := 9) (v := lnV (.slice (some ⟨g, 0, none⟩) len cap) n I At E) rfl rfl (by kernel_rfl) (by kernel_rfl) (by kernel_rfl) (fun _ _ _ h => h) (Or.inl ⟨by kernel_rfl, ?_⟩) (by assumption) ?_
            · intro w hSw; (try dsimp only at hSw); go_simp
            try simp only [Act.put, List.setIfInBounds_toArray, List.set_cons_zero, List.set_cons_succ]
            refine takeH (i := 2) (n := 11) (v := .int .i64 4) rfl rfl (by kernel_rfl) (by kernel_rfl) (by kernel_rfl) (fun _ _ _ h => h) (Or.inl ⟨by kernel_rfl, ?_⟩) (by assumption) ?_
            · intro w hSw; (try dsimp only at hSw); go_simp
            try simp only [Act.put, List.setIfInBounds_toArray, List.set_cons_zero, List.set_cons_succ]
            refine wpAnyH_ready (rs := [1]) (by kernel_rfl) (by simp) ?_
            refine AllReadyH.cons rfl (fun K hK => ?_) AllReadyH.nil
            try rw [if_pos (by kernel_rfl)]
            try go_simp
            refine (HKI.out _).mono ?_
            rintro e w1 ⟨rfl, hw1⟩
            have HL2 := Lib.hid (show LnAt w w1 _ n I At E by rw [hw1]; exact (HL1.out.next (Below.refl _ _).drew).next (new_below _ kwO))
            have hk1 : w1.heap[wr.heap.size]? = some kwO := by rw [hw1]; exact heap_alloc_new wr.drew kwO
            clear hw1 a0 a1 a2 a3 a4 hHeld HL1 hz
            obtain ⟨x1, x2, x3, x4⟩ := kw_cells hk1
            clear hk1
            obtain ⟨⟨a0, a1, a2, a3, a4⟩, -, -, -, -⟩ := HL2.out.cells
            have hS : w1.cell? ⟨w.heap.size, 0, none⟩ = some ((.slice (some ⟨g, 0, none⟩) len cap)) ∧ w1.cell? ⟨w.heap.size, 1, none⟩ = some (.int .i64 I) ∧ w1.cell? ⟨w.heap.size, 2, none⟩ = some (.int .i64 n) ∧ w1.cell? ⟨w.heap.size, 3, none⟩ = some (.int .i64 At) ∧ w1.cell? ⟨w.heap.size, 4, none⟩ = some (.int .i64 E) ∧ Below w.heap.size w w1 := ⟨a0, a1, a2, a3, a4, HL2.out.below⟩
            refine hK.out _ _ hS (fun _ => ?_)
            clear hK K
            try simp only [Act.put, List.getElem_toArray, List.getElem_cons_succ, List.getElem_cons_zero, List.setIfInBounds_toArray, List.set_cons_zero, List.set_cons_succ]
            refine wpAnyH_ready (rs := [3]) (by kernel_rfl) (by simp) ?_
            refine AllReadyH.cons rfl (fun K hK => ?_) AllReadyH.nil
            try rw [if_pos (by kernel_rfl)]
            try go_simp
            refine hK.out _ _ hS (fun _ => ?_)
            clear hK K
            try simp only [Act.put, List.getElem_toArray, List.getElem_cons_succ, List.getElem_cons_zero, List.setIfInBounds_toArray, List.set_cons_zero, List.set_cons_succ]
            refine wpAnyH_ready (rs := [4]) (by kernel_rfl) (by simp) ?_
            refine AllReadyH.cons rfl (fun K hK => ?_) AllReadyH.nil
            try rw [if_pos (by kernel_rfl)]
            try go_simp
            refine hK.out _ _ hS (fun _ => ?_)
            clear hK K
            try simp only [Act.put, List.getElem_toArray, List.getElem_cons_succ, List.getElem_cons_zero, List.setIfInBounds_toArray, List.set_cons_zero, List.set_cons_succ]
            refine wpAnyH_ready (rs := [5]) (by kernel_rfl) (by simp) ?_
            refine AllReadyH.cons rfl (fun K hK => ?_) AllReadyH.nil
            try rw [if_pos (by kernel_rfl)]
            try go_simp
            refine (HISk.out _ HL2.out.below).mono ?_
            rintro e w3 ⟨rfl, hb3⟩
            have HL3 := Lib.hid (HL2.out.next hb3)
            clear hb3 a0 a1 a2 a3 a4 x1 x2 x3 x4 hS HL2
            obtain ⟨⟨a0, a1, a2, a3, a4⟩, ⟨b0, b1, b2, b3, b4⟩, ⟨c0, c1, c2, c3, c4⟩, ⟨d0, d1, d2, d3, d4⟩, hz⟩ := HL3.out.cells
            have hS : w3.cell? ⟨w.heap.size, 0, none⟩ = some ((.slice (some ⟨g, 0, none⟩) len cap)) ∧ w3.cell? ⟨w.heap.size, 1, none⟩ = some (.int .i64 I) ∧ w3.cell? ⟨w.heap.size, 2, none⟩ = some (.int .i64 n) ∧ w3.cell? ⟨w.heap.size, 3, none⟩ = some (.int .i64 At) ∧ w3.cell? ⟨w.heap.size, 4, none⟩ = some (.int .i64 E) ∧ Below w.heap.size w w3 := ⟨a0, a1, a2, a3, a4, HL3.out.below⟩
            refine hK.out _ _ hS (fun _ => ?_)
            clear hK K
            try simp only [Act.put, List.getElem_toArray, List.getElem_cons_succ, List.getElem_cons_zero, List.setIfInBounds_toArray, List.set_cons_zero, List.set_cons_succ]
            clear hS
            refine wpAnyH_done (by kernel_rfl) ?_ _
            cases b with
            | true =>
              have HR : Hid (lnT (.slice (some ⟨g, 0, none⟩) len cap) n (kindS ws n ⟨I, At, E⟩) = .tuple #[lnV (.slice (some ⟨g, 0, none⟩) len cap) n (I + 1) At E, .int .i64 4]) := Lib.hid (by rw [kindS_hit (k := 4) (by simp) hb0.out]; rfl)
              clear HIS HKI HFA HFE HLA HV
              go_wp2
              exact bodyPost_ret (v := .tuple #[lnV (.slice (some ⟨g, 0, none⟩) len cap) n (I + 1) At E, .int .i64 4]) (by simp [results, Tryz.results53, go_sem, HL3.out.cells]) rfl ⟨by rw [HR.out], (by repeat (first | refine Below.setCell ?_ (by simp) _ | exact HL3.out.below))⟩
            | false =>
              go_wp2
              go_roundw
              case rel => exact ⟨5, by omega, by omega, by go_num, Lib.hid ⟨HL3.out, fun j h1 h2 => by
                by_cases e : j = 4
                · subst e; exact hb0.out
                · exact HI.out.2 j h1 (by omega)⟩⟩
              case measure => simp [intOf]
          · skip
            have hk : k = 5 := by omega
            subst hk
            obtain ⟨J, B, hJ⟩ := HFE.out 5
            have HJ := Lib.hid hJ
            have HR : Hid (lnT (.slice (some ⟨g, 0, none⟩) len cap) n (kindS ws n ⟨I, At, E⟩) = .tuple #[lnV (.slice (some ⟨g, 0, none⟩) len cap) n I J B, .int .i64 0]) := Lib.hid (lnT_fail hJ (kindS_none fun j hj => HI.out.2 j (by omega) (by omega)))
            clear hJ HFE
            go_wp2_with fail
            refine (HFA.out _ HL1.out.below 5 J B HJ.out).mono ?_
            rintro e w2 ⟨rfl, hb2⟩
            have HL2 := Lib.hid (HL1.out.next hb2)
            clear hb2 HL1 HFA
            (try clear a0 a1 a2 a3 a4 b0 b1 b2 b3 b4 c0 c1 c2 c3 c4 d0 d1 d2 d3 d4 hz)
            obtain ⟨⟨a0, a1, a2, a3, a4⟩, ⟨b0, b1, b2, b3, b4⟩, ⟨c0, c1, c2, c3, c4⟩, ⟨d0, d1, d2, d3, d4⟩, hz⟩ := HL2.out.cells
            go_wp2
            exact bodyPost_ret (v := .tuple #[lnV (.slice (some ⟨g, 0, none⟩) len cap) n I J B, .int .i64 0]) (by simp [results, Tryz.results53, go_sem, HL2.out.cells]) rfl ⟨by rw [HR.out], (by repeat (first | refine Below.setCell ?_ (by simp) _ | exact HL2.out.below))⟩
end Go.Proofs.YtjcaaejfokmolaaGreatDoor
