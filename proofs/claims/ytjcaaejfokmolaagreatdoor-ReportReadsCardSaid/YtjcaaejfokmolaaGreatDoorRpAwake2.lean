/- Several parts: Several parts: The three lines of the opening examples. The six calls of awake, with the values that they answer. awake. -/
import Derived.Test.YtjcaaejfokmolaaGreatDoorRpParse
import Derived.Test.YtjcaaejfokmolaaGreatDoorRpMend
import Derived.Test.YtjcaaejfokmolaaGreatDoorRpDoubt0
/- Several parts: The three lines of the opening examples. The six calls of awake, with the values that they answer. -/
/- The three lines of the opening examples. -/
namespace Go.Proofs.YtjcaaejfokmolaaGreatDoor

def lineA : ByteArray := ⟨#[102, 108, 97, 114, 101, 32, 97, 116, 32, 53, 32, 98, 121, 32, 120, 32, 105, 110, 32, 49, 32, 50, 32, 116, 114, 117, 115, 116, 32, 57]⟩
def lineB : ByteArray := ⟨#[102, 108, 97, 114, 101, 32, 97, 116, 32, 53, 32, 98, 121, 32, 120, 32, 105, 110, 32, 49, 32, 116, 114, 117, 115, 116, 32, 57]⟩
def lineC : ByteArray := ⟨#[109, 105, 115, 115, 105, 110, 103, 32, 97, 116, 32, 53, 32, 98, 121, 32, 120, 32, 105, 110, 32, 48, 32, 48, 32, 116, 114, 117, 115, 116, 32, 49]⟩
def oneB (l : List (Int × Int)) : Bool := l.all placeB

theorem readA : parseR lineA oneB = .ok ({ a := 31, kind := 3, time := 5, src := ⟨#[120]⟩, abt := ⟨#[]⟩, souls := -1, trust := 9 }, [(1, 2)]) := by kernel_rfl
theorem readB : parseR lineB oneB = .error (21, 5) := by kernel_rfl
theorem readC : parseR lineC oneB = .error (32, 2) := by kernel_rfl
theorem goA : goOn lineA 7 s0 = .ok ({ a := 31, kind := 3, time := 5, src := ⟨#[120]⟩, abt := ⟨#[]⟩, souls := -1, trust := 9 }, [(1, 2)]) := by kernel_rfl
theorem goB : goOn lineB 7 s0 = .error (21, 5) := by kernel_rfl
theorem goC : goOn lineC 7 s0 = .ok ({ a := 33, kind := 4, time := 5, src := ⟨#[120]⟩, abt := ⟨#[]⟩, souls := -1, trust := 1 }, [(0, 0)]) := by kernel_rfl

theorem says_one {w : World} {wv : Value} {p : Int × Int} (h : Area w wv [p]) : AreaSays w wv (oneB [p]) := by
  have h2 := h
  obtain ⟨A, cap, rfl, _⟩ := h2
  intro w' hb
  have := CheckArea_one A cap p w' (h.below hb)
  rw [show oneB [p] = placeB p by simp [oneB]]
  exact this

theorem parseA (m : Int) (w : World) (hE : Env m w) : Calls Tryz.prog 19 #[.string lineA] w (ParsePost lineA oneB w) :=
  Parse_any m lineA oneB w hE (by decide) fun s wv w' hs ha => by
    rw [goA] at hs; cases hs
    exact ⟨says_one ha, by decide, by decide⟩
theorem parseB (m : Int) (w : World) (hE : Env m w) : Calls Tryz.prog 19 #[.string lineB] w (ParsePost lineB oneB w) :=
  Parse_any m lineB oneB w hE (by decide) fun s wv w' hs ha => by
    rw [goB] at hs; cases hs
theorem parseC (m : Int) (w : World) (hE : Env m w) : Calls Tryz.prog 19 #[.string lineC] w (ParsePost lineC oneB w) :=
  Parse_any m lineC oneB w hE (by decide) fun s wv w' hs ha => by
    rw [goC] at hs; cases hs
    exact ⟨says_one ha, by decide, by decide⟩
end Go.Proofs.YtjcaaejfokmolaaGreatDoor
/- The six calls of awake, with the values that they answer. -/
namespace Go.Proofs.YtjcaaejfokmolaaGreatDoor
open Go.RowKit Go.Maps

theorem six_A (m : Int) (w : World) (hE : Env m w) : Calls Tryz.prog 19 #[.string lineA] w fun e w' =>
    ∃ wv, e = .returned (.tuple #[.agg #[.int .i64 3, .int .i64 5, .string ⟨#[120]⟩, .string ⟨#[]⟩, wv, .int .i64 (-1), .int .i64 9], .int .i64 0, .int .i64 0]) ∧ Area w' wv [(1, 2)] ∧ (∀ g off n cap, wv = .slice (some ⟨g, off, none⟩) n cap → w.heap.size ≤ g) ∧ Below w.heap.size w w' := by
  refine (parseA m w hE).mono fun e w' h => ?_
  unfold ParsePost at h
  rw [readA] at h
  exact h
theorem six_B (m : Int) (w : World) (hE : Env m w) : Calls Tryz.prog 19 #[.string lineB] w fun e w' =>
    e = .returned (.tuple #[repZ, .int .i64 21, .int .i64 5]) ∧ Below w.heap.size w w' := by
  refine (parseB m w hE).mono fun e w' h => ?_
  unfold ParsePost at h
  rw [readB] at h
  exact h
theorem six_C (m : Int) (w : World) (hE : Env m w) : Calls Tryz.prog 19 #[.string lineC] w fun e w' =>
    e = .returned (.tuple #[repZ, .int .i64 32, .int .i64 2]) ∧ Below w.heap.size w w' := by
  refine (parseC m w hE).mono fun e w' h => ?_
  unfold ParsePost at h
  rw [readC] at h
  exact h

theorem pack_one : dataN 1 0 0 0 0 = 1 ∧ packC 1 = 131 := by
  constructor <;> kernel_rfl
theorem six_P (w : World) : Calls Tryz.prog 27 #[.agg #[.int .i64 1, .int .i64 0, .int .i64 0, .int .i64 0, .int .i64 0]] w fun e w' =>
    e = .returned (.tuple #[.agg #[.int .u64 1, .int .u8 131], .int .i64 0]) ∧ Below w.heap.size w w' := by
  have h := Pack_yes 1 0 0 0 0 (by decide) w
  rw [pack_one.1, pack_one.2] at h
  exact h
theorem mend_one : mendV (mendR 0 131) = .tuple #[.agg #[.int .i64 1, .int .i64 0, .int .i64 0, .int .i64 0, .int .i64 0], .bool true, .int .i64 0] := by kernel_rfl
theorem six_M (w : World) : Calls Tryz.prog 28 #[.agg #[.int .u64 0, .int .u8 131]] w fun e w' =>
    e = .returned (.tuple #[.agg #[.int .i64 1, .int .i64 0, .int .i64 0, .int .i64 0, .int .i64 0], .bool true, .int .i64 0]) ∧ Below w.heap.size w w' := by
  have h := Mend_any 0 131 (by omega) (by omega) w
  rw [mend_one] at h
  exact h

def stA (src : ByteArray) (trust : Int) : St := { a := 31, kind := 3, time := 5, src := src, abt := ⟨#[]⟩, souls := -1, trust := trust }
def threeL (wv : Value) : List Rpt := [(stA ⟨#[97]⟩ 500, wv, oneB [(1, 2)]), (stA ⟨#[97]⟩ 600, wv, oneB [(1, 2)]), (stA ⟨#[98]⟩ 900, wv, oneB [(1, 2)])]
theorem doubt_undef : doubtV (threeL undef) = .tuple #[.int .i64 40000, .int .i64 1000000, .int .i64 0] := by kernel_rfl
theorem doubt_three (wv : Value) : doubtV (threeL wv) = .tuple #[.int .i64 40000, .int .i64 1000000, .int .i64 0] := by
  have h : doubtV (threeL wv) = doubtV (threeL undef) := by
    unfold doubtV allOk sts threeL
    simp
  exact h.trans doubt_undef
end Go.Proofs.YtjcaaejfokmolaaGreatDoor
/- awake. -/
namespace Go.Proofs.YtjcaaejfokmolaaGreatDoor
open Go.RowKit Go.Maps

theorem lt_of_cell {w : World} {p : Addr} {v : Value} (h : w.cell? p = some v) : p.block < w.heap.size := by
  obtain ⟨o, ho, _⟩ := cells_of_cell h
  exact (Array.getElem?_eq_some_iff.1 ho).1
theorem Env.below {m : Int} {w w' : World} (h : Env m w) (hb : Below w.heap.size w w') : Env m w' :=
  ⟨(hb.cell (lt_of_cell h.mx)).trans h.mx, fun i hi => (hb.cell (lt_of_cell (h.kw i hi))).trans (h.kw i hi)⟩

abbrev rowR (A : Option Addr) (cap : Nat) (src : ByteArray) (trust : Int) : Obj := .cells #[.int .i64 3, .int .i64 5, .string src, .string ⟨#[]⟩, .slice A 1 cap, .int .i64 (-1), .int .i64 trust] 29 (0, 0)

set_option maxRecDepth 100000 in
set_option maxHeartbeats 8000000 in
theorem awake_any (m : Int) (w : World) (hE : Env m w) :
    Calls Tryz.prog 9 #[] w fun e w' => e = .returned (.bool true) ∧ Below w.heap.size w w' := by
  have HE := Lib.hid hE; clear hE
  go_enter Tryz.func9, Tryz.ntmps9
  go_wp2_with fail
  refine (six_A m w HE.out).mono ?_
  rintro e w1 ⟨wv, rfl, hA, hfar, hb1⟩
  obtain ⟨A, cap, hwv⟩ : ∃ A cap, wv = .slice A 1 cap := by
    obtain ⟨A, cap, e, _⟩ := hA
    exact ⟨A, cap, e⟩
  subst hwv
  have HA := Lib.hid hA; have HF := Lib.hid hfar; have HB1 := Lib.hid hb1
  clear hA hfar hb1
  go_wp2_with fail
  obtain ⟨W1, hW1⟩ : ∃ W1, W1 = w1.alloc (rowR A cap ⟨#[120]⟩ 9) := ⟨_, rfl⟩
  rw [← hW1]
  have k1 : Below w1.heap.size w1 W1 := by rw [hW1]; exact new_below _ _
  have r1 : W1.heap[w1.heap.size]? = some (rowR A cap ⟨#[120]⟩ 9) := by rw [hW1]; exact heap_alloc_new _ _
  obtain ⟨n1, hn1⟩ : ∃ n1, n1 = w1.heap.size := ⟨_, rfl⟩
  have t1 : Below w.heap.size w W1 := below_chain HB1.out k1
  have a1 := HA.out.below k1
  rw [← hn1] at r1 ⊢
  clear HA HB1 k1 hW1 hn1
  refine (six_B m W1 (HE.out.below t1)).mono ?_
  rintro e w2 ⟨rfl, hb2⟩
  have R1 := Lib.hid (stay r1 hb2); have T1 := Lib.hid (below_chain t1 hb2); have A1 := Lib.hid (a1.below hb2)
  clear r1 t1 a1 hb2
  unfold repZ
  go_wp2_with fail
  obtain ⟨W2, hW2⟩ : ∃ W2, W2 = w2.alloc (.cells #[.int .i64 0, .int .i64 0, .string ⟨#[]⟩, .string ⟨#[]⟩, .slice none 0 0, .int .i64 0, .int .i64 0] 29) := ⟨_, rfl⟩
  rw [← hW2]
  have k2 : Below w2.heap.size w2 W2 := by rw [hW2]; exact new_below _ _
  obtain ⟨n2, hn2⟩ : ∃ n2, n2 = w2.heap.size := ⟨_, rfl⟩
  have r1 := stay R1.out k2; have t1 := below_chain T1.out k2; have a1 := A1.out.below k2
  rw [← hn2]
  clear R1 T1 A1 k2 hW2 hn2
  refine (six_C m W2 (HE.out.below t1)).mono ?_
  rintro e w3 ⟨rfl, hb3⟩
  have R1 := Lib.hid (stay r1 hb3); have T1 := Lib.hid (below_chain t1 hb3); have A1 := Lib.hid (a1.below hb3)
  clear r1 t1 a1 hb3
  unfold repZ
  go_wp2_with fail
  obtain ⟨W3, hW3⟩ : ∃ W3, W3 = w3.alloc (.cells #[.int .i64 0, .int .i64 0, .string ⟨#[]⟩, .string ⟨#[]⟩, .slice none 0 0, .int .i64 0, .int .i64 0] 29) := ⟨_, rfl⟩
  rw [← hW3]
  have k3 : Below w3.heap.size w3 W3 := by rw [hW3]; exact new_below _ _
  obtain ⟨n3, hn3⟩ : ∃ n3, n3 = w3.heap.size := ⟨_, rfl⟩
  have r1 := stay R1.out k3; have t1 := below_chain T1.out k3; have a1 := A1.out.below k3
  rw [← hn3]
  clear R1 T1 A1 k3 hW3 hn3
  refine (six_P W3).mono ?_
  rintro e w4 ⟨rfl, hb4⟩
  have R1 := Lib.hid (stay r1 hb4); have T1 := Lib.hid (below_chain t1 hb4); have A1 := Lib.hid (a1.below hb4)
  clear r1 t1 a1 hb4
  go_wp2_with fail
  obtain ⟨W4, hW4⟩ : ∃ W4, W4 = w4.alloc (.cells #[.int .u64 1, .int .u8 131] 54) := ⟨_, rfl⟩
  rw [← hW4]
  have k4 : Below w4.heap.size w4 W4 := by rw [hW4]; exact new_below _ _
  have f1 : W4.heap[w4.heap.size]? = some (.cells #[.int .u64 1, .int .u8 131] 54 (0, 0)) := by rw [hW4]; exact heap_alloc_new _ _
  obtain ⟨n4, hn4⟩ : ∃ n4, n4 = w4.heap.size := ⟨_, rfl⟩
  have r1 := stay R1.out k4; have t1 := below_chain T1.out k4; have a1 := A1.out.below k4
  rw [← hn4] at f1 ⊢
  clear R1 T1 A1 k4 hW4 hn4
  refine (six_M W4).mono ?_
  rintro e w5 ⟨rfl, hb5⟩
  have R1 := Lib.hid (stay r1 hb5); have T1 := Lib.hid (below_chain t1 hb5); have A1 := Lib.hid (a1.below hb5); have F1 := Lib.hid (stay f1 hb5)
  have z0 : w5.cell? ⟨n1, 0, none⟩ = some (.int .i64 3) := by simp [World.cell?, R1.out]
  have z1 : w5.cell? ⟨n1, 1, none⟩ = some (.int .i64 5) := by simp [World.cell?, R1.out]
  have z2 : w5.cell? ⟨n1, 2, none⟩ = some (.string ⟨#[120]⟩) := by simp [World.cell?, R1.out]
  have z3 : w5.cell? ⟨n1, 3, none⟩ = some (.string ⟨#[]⟩) := by simp [World.cell?, R1.out]
  have z4 : w5.cell? ⟨n1, 4, none⟩ = some (.slice A 1 cap) := by simp [World.cell?, R1.out]
  have z5 : w5.cell? ⟨n1, 5, none⟩ = some (.int .i64 (-1)) := by simp [World.cell?, R1.out]
  have z6 : w5.cell? ⟨n1, 6, none⟩ = some (.int .i64 9) := by simp [World.cell?, R1.out]
  have z7 : n1 < w5.heap.size := (Array.getElem?_eq_some_iff.1 R1.out).1
  clear r1 t1 a1 f1 hb5
  go_wp2_with fail
  clear z0 z1 z2 z3 z4 z5 z6 z7
  obtain ⟨l1, _, _, _, l5, l6⟩ := laid4 w5 (.cells #[.int .i64 1, .int .i64 0, .int .i64 0, .int .i64 0, .int .i64 0] 38) (rowR A cap ⟨#[97]⟩ 500) (rowR A cap ⟨#[97]⟩ 600) (rowR A cap ⟨#[98]⟩ 900)
  obtain ⟨V, hV⟩ : ∃ V, V = (((w5.alloc (.cells #[.int .i64 1, .int .i64 0, .int .i64 0, .int .i64 0, .int .i64 0] 38)).alloc (rowR A cap ⟨#[97]⟩ 500)).alloc (rowR A cap ⟨#[97]⟩ 600)).alloc (rowR A cap ⟨#[98]⟩ 900) := ⟨_, rfl⟩
  rw [← hV] at l1 l5 l6 ⊢
  clear hV
  obtain ⟨W5, hW5⟩ : ∃ W5, W5 = V.alloc (.cells #[.int .i64 3, .int .i64 5, .string ⟨#[97]⟩, .string ⟨#[]⟩, .slice A 1 cap, .int .i64 (-1), .int .i64 500, .int .i64 3, .int .i64 5, .string ⟨#[97]⟩, .string ⟨#[]⟩, .slice A 1 cap, .int .i64 (-1), .int .i64 600, .int .i64 3, .int .i64 5, .string ⟨#[98]⟩, .string ⟨#[]⟩, .slice A 1 cap, .int .i64 (-1), .int .i64 900] 29) := ⟨_, rfl⟩
  rw [← hW5]
  have k5 : Below V.heap.size V W5 := by rw [hW5]; exact new_below _ _
  have hrow : W5.heap[w5.heap.size + 4]? = some (.cells #[.int .i64 3, .int .i64 5, .string ⟨#[97]⟩, .string ⟨#[]⟩, .slice A 1 cap, .int .i64 (-1), .int .i64 500, .int .i64 3, .int .i64 5, .string ⟨#[97]⟩, .string ⟨#[]⟩, .slice A 1 cap, .int .i64 (-1), .int .i64 600, .int .i64 3, .int .i64 5, .string ⟨#[98]⟩, .string ⟨#[]⟩, .slice A 1 cap, .int .i64 (-1), .int .i64 900] 29 (0, 0)) := by
    rw [hW5, ← l5]; exact heap_alloc_new _ _
  have hlt5 : w5.heap.size + 4 < W5.heap.size := by rw [hW5]; simp; omega
  have q5 : Below w5.heap.size w5 W5 := l6.trans (k5.mono (by omega))
  have s5 := stay l1 k5
  have r1 := stay R1.out q5; have t1 := below_chain T1.out q5; have a1 := A1.out.below q5; have f1 := stay F1.out q5
  clear l1 l5 l6 k5 q5 hW5 R1 T1 A1 F1
  have hD : Calls Tryz.prog 29 #[.slice (some ⟨w5.heap.size + 4, 0, none⟩) 3 3] W5 fun e w' => e = .returned (doubtV (threeL (.slice A 1 cap))) ∧ Below W5.heap.size W5 w' := by
    refine Doubt_some (threeL (.slice A 1 cap)) (w5.heap.size + 4) 0 3 (by unfold threeL; simp) (by show 3 ≤ _; omega) W5 hlt5 ?_ ?_
    · intro k s wv q hk
      have hk3 : k = 0 ∨ k = 1 ∨ k = 2 := by
        have : k < 3 := (List.getElem?_eq_some_iff.1 hk).1
        omega
      rcases hk3 with rfl | rfl | rfl <;> (cases hk; constructor <;> simp [World.cell?, hrow, stA])
    · intro r hr
      have hsays := says_one a1
      have hr3 : r = (stA ⟨#[97]⟩ 500, Value.slice A 1 cap, oneB [(1, 2)]) ∨ r = (stA ⟨#[97]⟩ 600, Value.slice A 1 cap, oneB [(1, 2)]) ∨ r = (stA ⟨#[98]⟩ 900, Value.slice A 1 cap, oneB [(1, 2)]) := by
        unfold threeL at hr; simpa using hr
      rcases hr3 with rfl | rfl | rfl <;> exact ⟨⟨A, 1, cap, rfl⟩, hsays, by show (0 : Nat) ≤ _; omega, by show (1 : Nat) ≤ _; omega⟩
  rw [doubt_three] at hD
  refine hD.mono ?_
  rintro e w6 ⟨rfl, hb6⟩
  have R1 := stay r1 hb6; have T1 := Lib.hid (below_chain t1 hb6); have A1 := a1.below hb6; have F1 := stay f1 hb6; have S1 := stay s5 hb6
  clear hD r1 t1 a1 f1 s5 hrow hlt5 hb6
  have z0 : w6.cell? ⟨n1, 0, none⟩ = some (.int .i64 3) := by simp [World.cell?, R1]
  have z4 : w6.cell? ⟨n1, 4, none⟩ = some (.slice A 1 cap) := by simp [World.cell?, R1]
  have z5 : w6.cell? ⟨n1, 5, none⟩ = some (.int .i64 (-1)) := by simp [World.cell?, R1]
  have y0 : w6.cell? ⟨n4, 0, none⟩ = some (.int .u64 1) := by simp [World.cell?, F1]
  have y1 : w6.cell? ⟨n4, 1, none⟩ = some (.int .u8 131) := by simp [World.cell?, F1]
  have x0 : w6.cell? ⟨w5.heap.size, 0, none⟩ = some (.int .i64 1) := by simp [World.cell?, S1]
  have x1 : w6.cell? ⟨w5.heap.size, 1, none⟩ = some (.int .i64 0) := by simp [World.cell?, S1]
  have x2 : w6.cell? ⟨w5.heap.size, 2, none⟩ = some (.int .i64 0) := by simp [World.cell?, S1]
  have x3 : w6.cell? ⟨w5.heap.size, 3, none⟩ = some (.int .i64 0) := by simp [World.cell?, S1]
  have x4 : w6.cell? ⟨w5.heap.size, 4, none⟩ = some (.int .i64 0) := by simp [World.cell?, S1]
  obtain ⟨h1l, hcap, g, off, rfl, hg, u0, u1⟩ := A1.at_ (k := 0) (by simp)
  have v0 : w6.cell? ⟨g, off, none⟩ = some (.int .i64 1) := u0
  have v1 : w6.cell? ⟨g, off + 1, none⟩ = some (.int .i64 2) := u1
  clear A1 u0 u1 R1 F1 S1 HF hg h1l hcap
  go_wp2
  go_ret
  exact ⟨rfl, T1.out⟩
end Go.Proofs.YtjcaaejfokmolaaGreatDoor
