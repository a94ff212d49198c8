/- Several parts: The document's Parse at a line that is too long. What both Parse answer to a line: one reading. The document's reading of a line. The law of readings: both Parse answer alike, and what was read has the string as its line. -/
import Derived.Test.YtjcaaejfokmolaaGreatDoorRpTokState
import Derived.Test.YtjcaaejfokmolaaGreatDoorRpPrintsLaw0
import Derived.Deep.CutBlock
/- The document's Parse at a line that is too long. -/
namespace Go.Proofs.YtjcaaejfokmolaaGreatDoor
open Go.RowKit
set_option maxRecDepth 100000 in
set_option maxHeartbeats 4000000 in
theorem refParse_long (s : ByteArray) (w : World) (hs : 300 < s.size) :
    Calls Tryz.prog 21 #[.string s] w fun e w' => e = .returned (.tuple #[repZ, .int .i64 0, .int .i64 3]) ∧ Below w.heap.size w w' := by
  have h1 : (300 : Int) < (s.size : Int) := by omega
  go_enter Tryz.func21, Tryz.ntmps21
  go_wp2
  exact bodyPost_ret (v := .tuple #[repZ, .int .i64 0, .int .i64 3]) (by simp [results, Tryz.results21, go_sem, repZ]) rfl ⟨rfl, (by repeat (first | exact Below.refl _ _ | refine Below.setCell ?_ (by simp) _ | refine Below.alloc ?_ (by simp) _ | refine Below.drew ?_))⟩
set_option maxRecDepth 100000 in
set_option maxHeartbeats 4000000 in
theorem Parse_long (s : ByteArray) (w : World) (hs : 300 < s.size) :
    Calls Tryz.prog 19 #[.string s] w fun e w' => e = .returned (.tuple #[repZ, .int .i64 0, .int .i64 3]) ∧ Below w.heap.size w w' := by
  have h1 : (300 : Int) < (s.size : Int) := by omega
  go_enter Tryz.func19, Tryz.ntmps19
  go_wp2
  exact bodyPost_ret (v := .tuple #[repZ, .int .i64 0, .int .i64 3]) (by simp [results, Tryz.results19, go_sem, repZ]) rfl ⟨rfl, (by repeat (first | exact Below.refl _ _ | refine Below.setCell ?_ (by simp <;> omega) _ | refine Below.alloc ?_ (by simp <;> omega) _ | refine Below.drew ?_))⟩
end Go.Proofs.YtjcaaejfokmolaaGreatDoor
/- What both Parse answer to a line: one reading. -/
namespace Go.Proofs.YtjcaaejfokmolaaGreatDoor
open Go.RowKit

structure ReadAs (m : Int) (s : ByteArray) (k t so tr : Int) (src abt : ByteArray) (l : List (Int × Int)) (a er : Int) : Prop where
  len : l.length ≤ 12
  line : er = 0 → lineOf ⟨0, k, t, src, abt, so, tr⟩ l = s ∧ checkB ⟨0, k, t, src, abt, so, tr⟩ (areaB l) = true
  code : ∀ w, Env m w → Calls Tryz.prog 19 #[.string s] w fun e w' => ∃ A cap, e = .returned (.tuple #[repA k t src abt (.slice A l.length cap) so tr, .int .i64 a, .int .i64 er]) ∧ Area w' (.slice A l.length cap) l ∧ Below w.heap.size w w'
  ref : ∀ w, Calls Tryz.prog 21 #[.string s] w fun e w' => ∃ A cap, e = .returned (.tuple #[repA k t src abt (.slice A l.length cap) so tr, .int .i64 a, .int .i64 er]) ∧ Area w' (.slice A l.length cap) l ∧ Below w.heap.size w w'

theorem area_none (w : World) : Area w (.slice none ([] : List (Int × Int)).length 0) [] := ⟨none, 0, rfl, Nat.le_refl _, fun h => absurd rfl h⟩

theorem both_read (m : Int) (s : ByteArray) (R : Rd) (hR : R = readS (toks s.data.toList) s.size areaB)
    (hRef : s.size ≤ 300 → ∀ w, Calls Tryz.prog 21 #[.string s] w fun e w' =>
      (R.p.E = 0 ∧ ∃ B c, e = .returned (.tuple #[repA R.kind R.time ⟨R.src.toArray⟩ ⟨R.abt.toArray⟩ (.slice B R.wh.length c) R.souls R.trust, .int .i64 0, .int .i64 0]) ∧ Area w' (.slice B R.wh.length c) R.wh ∧ Below w.heap.size w w') ∨
      (R.p.E ≠ 0 ∧ e = .returned (.tuple #[repZ, .int .i64 R.p.At, .int .i64 R.p.E]) ∧ Below w.heap.size w w')) :
    ∃ k t so tr src abt l a er, ReadAs m s k t so tr src abt l a er := by
  by_cases hs : s.size ≤ 300
  · have hS := read_same (fit_toks s) hs areaB
    rw [← hR] at hS
    unfold RelR at hS
    cases hp : parseR s areaB with
    | ok sl =>
      obtain ⟨hE, hI, hsl⟩ := rel_in hS hp
      obtain ⟨hw, hc⟩ := reads_print (fit_toks s) s.size areaB (by rw [← hR]; exact hE)
      rw [← hR] at hw hc
      have hA := (check_parts hc).2.2.2.2.1
      refine ⟨R.kind, R.time, R.souls, R.trust, ⟨R.src.toArray⟩, ⟨R.abt.toArray⟩, R.wh, 0, 0, (area_bounds hA).2.1, fun _ => ⟨?_, hc⟩, fun w hw' => ?_, fun w => ?_⟩
      · unfold lineOf
        have hc2 : checkB ⟨0, R.kind, R.time, ⟨R.src.toArray⟩, ⟨R.abt.toArray⟩, R.souls, R.trust⟩ (areaB R.wh) = true := hc
        rw [if_pos hc2]
        show (⟨(joinW (wordsR R.kind R.time R.src R.abt R.wh R.souls R.trust)).toArray⟩ : ByteArray) = s
        rw [← hw, join_toks]
      · refine (ParseA_any m s w hw' hs).mono ?_
        intro e w' h
        unfold ParsePost at h
        rw [hp] at h
        obtain ⟨wv, he, ha, -, hb⟩ := h
        subst hsl
        obtain ⟨A, cap, rfl, hx⟩ := ha
        exact ⟨A, cap, he, ⟨A, cap, rfl, hx⟩, hb⟩
      · refine (hRef hs w).mono ?_
        rintro e w' (⟨-, B, c, he, ha, hb⟩ | ⟨h, -⟩)
        · exact ⟨B, c, he, ha, hb⟩
        · exact absurd hE h
    | error x =>
      obtain ⟨hE, hx⟩ := rel_err hS hp
      refine ⟨0, 0, 0, 0, ⟨#[]⟩, ⟨#[]⟩, [], R.p.At, R.p.E, by decide, fun h => absurd h hE, fun w hw' => ?_, fun w => ?_⟩
      · refine (ParseA_any m s w hw' hs).mono ?_
        intro e w' h
        unfold ParsePost at h
        rw [hp] at h
        subst hx
        exact ⟨none, 0, h.1, area_none _, h.2⟩
      · refine (hRef hs w).mono ?_
        rintro e w' (⟨h, -⟩ | ⟨-, he, hb⟩)
        · exact absurd h hE
        · exact ⟨none, 0, he, area_none _, hb⟩
  · refine ⟨0, 0, 0, 0, ⟨#[]⟩, ⟨#[]⟩, [], 0, 3, by decide, fun h => absurd h (by decide), fun w _ => ?_, fun w => ?_⟩
    · refine (Parse_long s w (by omega)).mono ?_
      rintro e w' ⟨he, hb⟩
      exact ⟨none, 0, he, area_none _, hb⟩
    · refine (refParse_long s w (by omega)).mono ?_
      rintro e w' ⟨he, hb⟩
      exact ⟨none, 0, he, area_none _, hb⟩
end Go.Proofs.YtjcaaejfokmolaaGreatDoor
/- The document's reading of a line. -/
namespace Go.Proofs.YtjcaaejfokmolaaGreatDoor
open Go.RowKit

theorem ps_start (W0 : World) (v : Value) (n : Nat) (o1 o2 : Obj) (h1 : o1 = lnO v n 0 0 0) (h2 : o2 = repO 0 0 ⟨#[]⟩ ⟨#[]⟩ (.slice none 0 0) (-1) 0) : PS W0 ((W0.alloc o1).alloc o2) v n r0 (.slice none 0 0) := by
  subst h1 h2
  refine ⟨stay (heap_alloc_new _ _) (new_below _ _), ?_, World.ownsRow_nil _ _ _ _, ((Below.refl _ _).alloc (Nat.le_refl _) _).alloc (by simp) _⟩
  have := heap_alloc_new (W0.alloc (lnO v n 0 0 0)) (repO 0 0 ⟨#[]⟩ ⟨#[]⟩ (.slice none 0 0) (-1) 0)
  rwa [World.size_alloc] at this

set_option maxRecDepth 100000 in
set_option maxHeartbeats 8000000 in
theorem read_chain {ws : List (List UInt8)} {n : Nat} {q : List (Int × Int) → Bool} {r1 r2 r3 r4 r5 r6 r7 r8 r9 : Rd} (h1 : kdR ws n r0 = r1) (h2 : tmR ws n r1 = r2) (h3 : srR ws n r2 = r3) (h4 : abR ws n r3 = r4) (h5 : whR ws n r4 = r5) (h6 : soR ws n r5 = r6) (h7 : trR ws n r6 = r7) (h8 : enR ws n r7 = r8) (h9 : ckR ws n q r8 = r9) : readS ws n q = r9 := by
  subst h1; subst h2; subst h3; subst h4; subst h5; subst h6; subst h7; subst h8; exact h9
theorem ck_chain {ws : List (List UInt8)} {n : Nat} {q : List (Int × Int) → Bool} {I A : Nat} {E z1 z2 : Int} {z3 z4 : List UInt8} {wh : List (Int × Int)} {z6 z7 : Int} {m ck : Bool} (hm : m = (decide (E = 0) && !ck))
    (hck : ck = checkB ⟨0, z1, z2, ⟨z3.toArray⟩, ⟨z4.toArray⟩, z6, z7⟩ (q wh)) :
    (m = true → ckR ws n q ⟨⟨I, A, E⟩, z1, z2, z3, z4, wh, z6, z7⟩ = ⟨failS ws n ⟨I, A, E⟩ 2, z1, z2, z3, z4, wh, z6, z7⟩) ∧
    (m = false → ckR ws n q ⟨⟨I, A, E⟩, z1, z2, z3, z4, wh, z6, z7⟩ = ⟨⟨I, A, E⟩, z1, z2, z3, z4, wh, z6, z7⟩) := by
  have e : ckR ws n q ⟨⟨I, A, E⟩, z1, z2, z3, z4, wh, z6, z7⟩ = ⟨if E = 0 ∧ ck = false then failS ws n ⟨I, A, E⟩ 2 else ⟨I, A, E⟩, z1, z2, z3, z4, wh, z6, z7⟩ := by subst hck; rfl
  rw [e]
  constructor
  · intro h
    rw [h] at hm
    have h1 : E = 0 ∧ ck = false := by
      cases ck
      · exact ⟨by simpa using hm.symm, rfl⟩
      · simp at hm
    rw [if_pos h1]
  · intro h
    rw [h] at hm
    have h1 : ¬ (E = 0 ∧ ck = false) := fun ⟨h2, h3⟩ => by rw [h2, h3] at hm; simp at hm
    rw [if_neg h1]
theorem wh_chain {ws : List (List UInt8)} {n : Nat} {r : Rd} {p p1 p2 : Ln} {wh : List (Int × Int)} (hp : r.p = p) (h1 : wordS ws n p [105, 110] = p1) (h2 : whereS ws n 14 p1 r.wh = (p2, wh)) : whR ws n r = { r with p := p2, wh := wh } := by
  subst hp; subst h1; unfold whR; rw [h2]
theorem fin7 {W w : World} {B b e k n : Nat} {v0 : Value} {xs : List Value} (h : W.heap[B]? = some repNo) (ho : W.ownsRow b e k v0 n xs) (hB : B < b) (hb : Below B w W) (d0 d1 d2 d3 d4 d5 d6 : Value) :
    ∃ WF, WF = (((((((W.setCell ⟨B, 0, none⟩ d0).setCell ⟨B, 1, none⟩ d1).setCell ⟨B, 2, none⟩ d2).setCell ⟨B, 3, none⟩ d3).setCell ⟨B, 4, none⟩ d4).setCell ⟨B, 5, none⟩ d5).setCell ⟨B, 6, none⟩ d6) ∧
      (WF.cell? ⟨B, 0, none⟩ = some d0 ∧ WF.cell? ⟨B, 1, none⟩ = some d1 ∧ WF.cell? ⟨B, 2, none⟩ = some d2 ∧ WF.cell? ⟨B, 3, none⟩ = some d3 ∧ WF.cell? ⟨B, 4, none⟩ = some d4 ∧ WF.cell? ⟨B, 5, none⟩ = some d5 ∧ WF.cell? ⟨B, 6, none⟩ = some d6) ∧ WF.ownsRow b e k v0 n xs ∧ Below B w WF :=
  ⟨_, rfl, rep_cells (seven_set h d0 d1 d2 d3 d4 d5 d6).1, own_set (own_set (own_set (own_set (own_set (own_set (own_set ho hB) hB) hB) hB) hB) hB) hB, (seven_set h d0 d1 d2 d3 d4 d5 d6).2.2 B w (Nat.le_refl _) hb⟩
def RefPost (s : ByteArray) (w : World) (e : Ending) (w' : World) : Prop :=
  ((readS (toks s.data.toList) s.size areaB).p.E = 0 ∧ ∃ B c, e = .returned (.tuple #[repA (readS (toks s.data.toList) s.size areaB).kind (readS (toks s.data.toList) s.size areaB).time ⟨(readS (toks s.data.toList) s.size areaB).src.toArray⟩ ⟨(readS (toks s.data.toList) s.size areaB).abt.toArray⟩ (.slice B (readS (toks s.data.toList) s.size areaB).wh.length c) (readS (toks s.data.toList) s.size areaB).souls (readS (toks s.data.toList) s.size areaB).trust, .int .i64 0, .int .i64 0]) ∧ Area w' (.slice B (readS (toks s.data.toList) s.size areaB).wh.length c) (readS (toks s.data.toList) s.size areaB).wh ∧ Below w.heap.size w w') ∨
  ((readS (toks s.data.toList) s.size areaB).p.E ≠ 0 ∧ e = .returned (.tuple #[repZ, .int .i64 (readS (toks s.data.toList) s.size areaB).p.At, .int .i64 (readS (toks s.data.toList) s.size areaB).p.E]) ∧ Below w.heap.size w w')
set_option maxRecDepth 100000 in
set_option maxHeartbeats 8000000 in
theorem refParse_walk (s : ByteArray) (w : World) (hs : s.size ≤ 300) :
    Calls Tryz.prog 21 #[.string s] w (RefPost s w) := by
  obtain ⟨n, hn⟩ : ∃ n, n = s.size := ⟨_, rfl⟩
  have HS := Lib.hid hn
  have HPT : Hid (∀ W, Calls Tryz.prog 52 #[.string s] W fun e w' => ∃ v, e = .returned v ∧ PartsAt w' v (toks s.data.toList) ∧ Below W.heap.size W w') := Lib.hid fun W => refParts_any s W (by omega)
  have HTL : Hid ((toks s.data.toList).length ≤ 1000) := Lib.hid (by have h1 := toks_len s.data.toList; have h2 := Lib.size_eq s; omega)
  have HSL : Hid (s.data.toList.length ≤ 400) := Lib.hid (by have h2 := Lib.size_eq s; omega)
  clear hn
  go_enter Tryz.func21, Tryz.ntmps21
  go_wp2_with fail
  refine (HPT.out _).mono ?_
  rintro e W0 ⟨v, rfl, hpt, hb0⟩
  have HK := Lib.hid (kit_of n hpt HSL.out HTL.out)
  rw [HS.out] at HK
  obtain ⟨gp, cap0, hv, -⟩ := hpt
  have HTK : Hid (∀ i, (tok (toks s.data.toList) i).length ≤ 300) := Lib.hid fun i => Nat.le_trans (tok_len _ i) (by have := Lib.size_eq s; omega)
  have HRP : Hid (∀ e w', ((readS (toks s.data.toList) s.size areaB).p.E = 0 ∧ ∃ B c, e = .returned (.tuple #[repA (readS (toks s.data.toList) s.size areaB).kind (readS (toks s.data.toList) s.size areaB).time ⟨(readS (toks s.data.toList) s.size areaB).src.toArray⟩ ⟨(readS (toks s.data.toList) s.size areaB).abt.toArray⟩ (.slice B (readS (toks s.data.toList) s.size areaB).wh.length c) (readS (toks s.data.toList) s.size areaB).souls (readS (toks s.data.toList) s.size areaB).trust, .int .i64 0, .int .i64 0]) ∧ Area w' (.slice B (readS (toks s.data.toList) s.size areaB).wh.length c) (readS (toks s.data.toList) s.size areaB).wh ∧ Below w.heap.size w w') ∨
    ((readS (toks s.data.toList) s.size areaB).p.E ≠ 0 ∧ e = .returned (.tuple #[repZ, .int .i64 (readS (toks s.data.toList) s.size areaB).p.At, .int .i64 (readS (toks s.data.toList) s.size areaB).p.E]) ∧ Below w.heap.size w w') → RefPost s w e w') := Lib.hid fun e w' h => h
  generalize toks s.data.toList = ws at HK hv HTK HRP
  obtain ⟨len, hlen⟩ : ∃ len, len = ws.length := ⟨_, rfl⟩
  rw [← hlen] at hv
  subst hv
  have HLEN := Lib.hid hlen
  have HB0 := Lib.hid hb0
  clear hb0 HPT HTL HSL hlen HS
  go_upto_region 5 with fail
  have HI : Hid (InL ws ⟨0, 0, 0⟩) := Lib.hid (Nat.zero_le _)
  obtain ⟨w1, hw1⟩ : ∃ w1, w1 = ((W0.alloc (.cells #[(.slice (some ⟨gp, 0, none⟩) len cap0), .int .i64 0, .int .i64 s.size, .int .i64 0, .int .i64 0] 86)).alloc (.cells #[.int .i64 0, .int .i64 0, .string ⟨#[]⟩, .string ⟨#[]⟩, .slice none 0 0, .int .i64 (-1), .int .i64 0] 29)) := ⟨_, rfl⟩
  have HP : Hid (PS W0 w1 (.slice (some ⟨gp, 0, none⟩) len cap0) s.size ⟨⟨0, 0, 0⟩, 0, 0, [], [], [], (-1), 0⟩ (.slice none 0 0)) := Lib.hid (by rw [hw1]; exact ps_start W0 (.slice (some ⟨gp, 0, none⟩) len cap0) s.size _ _ rfl rfl)
  rw [← hw1]
  clear hw1
  have hcells := HP.out.cells
  dsimp only at hcells
  obtain ⟨⟨l0, l1, l2, l3, l4⟩, ⟨f0, f1, f2, f3, f4⟩, sz⟩ := hcells
  go_wp2_with fail
  refine (HK.out.kind _ ⟨0, 0, 0⟩ HP.out.below HI.out).mono ?_
  rintro e w2 ⟨⟨I1, A1, E1⟩, z1, hq2, rfl, hb2⟩
  have HPb := Lib.hid (HP.out.next hb2)
  have HIb : Hid (InL ws ⟨I1, A1, E1⟩) := Lib.hid (by have := kind_in (n := s.size) HI.out; rwa [hq2] at this)
  have HQ2 : Hid (kindS ws s.size ⟨0, 0, 0⟩ = (⟨I1, A1, E1⟩, z1)) := Lib.hid hq2
  clear hq2 hb2 l0 l1 l2 l3 l4 f0 f1 f2 f3 f4 sz
  have hcells := HPb.out.cells
  dsimp only at hcells
  obtain ⟨⟨l0, l1, l2, l3, l4⟩, ⟨f0, f1, f2, f3, f4⟩, sz⟩ := hcells
  obtain ⟨r0, r1, r2, r3, r4, r5, r6⟩ := rep_cells HPb.out.rep
  obtain ⟨g0, g1, g2, g3, g4, g5, g6⟩ := rep_free HPb.out.rep
  dsimp only at r0 r1 r2 r3 r4 r5 r6
  have HQ1 : Hid (kdR ws s.size ⟨⟨0, 0, 0⟩, 0, 0, [], [], [], (-1), 0⟩ = ⟨⟨I1, A1, E1⟩, z1, 0, [], [], [], (-1), 0⟩) := Lib.hid (by unfold kdR; dsimp only; rw [HQ2.out])
  have CkdR := HQ1
  go_upto_region 6 with fail
  have HP' : Hid (PS W0 ((((((w2.setCell ⟨W0.heap.size, 0, none⟩ (.slice (some ⟨gp, 0, none⟩) len cap0)).setCell ⟨W0.heap.size, 1, none⟩ (.int .i64 I1)).setCell ⟨W0.heap.size, 2, none⟩ (.int .i64 s.size)).setCell ⟨W0.heap.size, 3, none⟩ (.int .i64 A1)).setCell ⟨W0.heap.size, 4, none⟩ (.int .i64 E1)).setCell ⟨W0.heap.size + 1, 0, none⟩ (.int .i64 z1)) (.slice (some ⟨gp, 0, none⟩) len cap0) s.size ⟨⟨I1, A1, E1⟩, z1, 0, [], [], [], (-1), 0⟩ (.slice none 0 0)) := Lib.hid ((HPb.out.setLine I1 A1 E1).set_kind z1)
  clear l0 l1 l2 l3 l4 f0 f1 f2 f3 f4 sz r0 r1 r2 r3 r4 r5 r6 g0 g1 g2 g3 g4 g5 g6
  obtain ⟨w3, hw3⟩ : ∃ w3, w3 = ((((((w2.setCell ⟨W0.heap.size, 0, none⟩ (.slice (some ⟨gp, 0, none⟩) len cap0)).setCell ⟨W0.heap.size, 1, none⟩ (.int .i64 I1)).setCell ⟨W0.heap.size, 2, none⟩ (.int .i64 s.size)).setCell ⟨W0.heap.size, 3, none⟩ (.int .i64 A1)).setCell ⟨W0.heap.size, 4, none⟩ (.int .i64 E1)).setCell ⟨W0.heap.size + 1, 0, none⟩ (.int .i64 z1)) := ⟨_, rfl⟩
  rw [← hw3] at HP' ⊢
  clear hw3 HPb HQ2 HP HI
  have HP := HP'
  have HI := HIb
  clear HP' HIb
  have hcells := HP.out.cells
  dsimp only at hcells
  obtain ⟨⟨l0, l1, l2, l3, l4⟩, ⟨f0, f1, f2, f3, f4⟩, sz⟩ := hcells
  go_wp2_with fail
  refine (HK.out.word _ ⟨I1, A1, E1⟩ ⟨#[97, 116]⟩ HP.out.below HI.out).mono ?_
  rintro e w1 ⟨⟨I2a, A2a, E2a⟩, hq1, rfl, hb1⟩
  have HQ1 : Hid (wordS ws s.size ⟨I1, A1, E1⟩ [97, 116] = ⟨I2a, A2a, E2a⟩) := Lib.hid hq1
  have HPa := Lib.hid (HP.out.next hb1)
  have HIa : Hid (InL ws ⟨I2a, A2a, E2a⟩) := Lib.hid (by have := word_in (n := s.size) (u := [97, 116]) HI.out; rwa [HQ1.out] at this)
  clear hq1 hb1 l0 l1 l2 l3 l4 f0 f1 f2 f3 f4 sz
  have hcells := HPa.out.cells
  dsimp only at hcells
  obtain ⟨⟨l0, l1, l2, l3, l4⟩, ⟨f0, f1, f2, f3, f4⟩, sz⟩ := hcells
  go_wp2_with fail
  refine (HK.out.number _ ⟨I2a, A2a, E2a⟩ 0 1073741824 HPa.out.below HIa.out).mono ?_
  rintro e w2 ⟨⟨I2, A2, E2⟩, z2, hq2, rfl, hb2⟩
  have HPb := Lib.hid (HPa.out.next hb2)
  have HIb : Hid (InL ws ⟨I2, A2, E2⟩) := Lib.hid (by have := number_in (n := s.size) (lo := 0) (hi := 1073741824) HIa.out; rwa [hq2] at this)
  have HQ2 : Hid (numberS ws s.size ⟨I2a, A2a, E2a⟩ 0 1073741824 = (⟨I2, A2, E2⟩, z2)) := Lib.hid hq2
  clear hq2 hb2 l0 l1 l2 l3 l4 f0 f1 f2 f3 f4 sz
  have hcells := HPb.out.cells
  dsimp only at hcells
  obtain ⟨⟨l0, l1, l2, l3, l4⟩, ⟨f0, f1, f2, f3, f4⟩, sz⟩ := hcells
  obtain ⟨r0, r1, r2, r3, r4, r5, r6⟩ := rep_cells HPb.out.rep
  obtain ⟨g0, g1, g2, g3, g4, g5, g6⟩ := rep_free HPb.out.rep
  dsimp only at r0 r1 r2 r3 r4 r5 r6
  have HQ2 : Hid (tmR ws s.size ⟨⟨I1, A1, E1⟩, z1, 0, [], [], [], (-1), 0⟩ = ⟨⟨I2, A2, E2⟩, z1, z2, [], [], [], (-1), 0⟩) := Lib.hid (by unfold tmR; dsimp only; rw [HQ1.out, HQ2.out])
  have CtmR := HQ2
  go_upto_region 7 with fail
  have HP' : Hid (PS W0 ((((((w2.setCell ⟨W0.heap.size, 0, none⟩ (.slice (some ⟨gp, 0, none⟩) len cap0)).setCell ⟨W0.heap.size, 1, none⟩ (.int .i64 I2)).setCell ⟨W0.heap.size, 2, none⟩ (.int .i64 s.size)).setCell ⟨W0.heap.size, 3, none⟩ (.int .i64 A2)).setCell ⟨W0.heap.size, 4, none⟩ (.int .i64 E2)).setCell ⟨W0.heap.size + 1, 1, none⟩ (.int .i64 z2)) (.slice (some ⟨gp, 0, none⟩) len cap0) s.size ⟨⟨I2, A2, E2⟩, z1, z2, [], [], [], (-1), 0⟩ (.slice none 0 0)) := Lib.hid ((HPb.out.setLine I2 A2 E2).set_time z2)
  clear l0 l1 l2 l3 l4 f0 f1 f2 f3 f4 sz r0 r1 r2 r3 r4 r5 r6 g0 g1 g2 g3 g4 g5 g6
  obtain ⟨w3, hw3⟩ : ∃ w3, w3 = ((((((w2.setCell ⟨W0.heap.size, 0, none⟩ (.slice (some ⟨gp, 0, none⟩) len cap0)).setCell ⟨W0.heap.size, 1, none⟩ (.int .i64 I2)).setCell ⟨W0.heap.size, 2, none⟩ (.int .i64 s.size)).setCell ⟨W0.heap.size, 3, none⟩ (.int .i64 A2)).setCell ⟨W0.heap.size, 4, none⟩ (.int .i64 E2)).setCell ⟨W0.heap.size + 1, 1, none⟩ (.int .i64 z2)) := ⟨_, rfl⟩
  rw [← hw3] at HP' ⊢
  clear hw3 HPb HPa HIa HQ1 HQ2 HP HI
  have HP := HP'
  have HI := HIb
  clear HP' HIb
  have hcells := HP.out.cells
  dsimp only at hcells
  obtain ⟨⟨l0, l1, l2, l3, l4⟩, ⟨f0, f1, f2, f3, f4⟩, sz⟩ := hcells
  go_wp2_with fail
  refine (HK.out.word _ ⟨I2, A2, E2⟩ ⟨#[98, 121]⟩ HP.out.below HI.out).mono ?_
  rintro e w1 ⟨⟨I3a, A3a, E3a⟩, hq1, rfl, hb1⟩
  have HQ1 : Hid (wordS ws s.size ⟨I2, A2, E2⟩ [98, 121] = ⟨I3a, A3a, E3a⟩) := Lib.hid hq1
  have HPa := Lib.hid (HP.out.next hb1)
  have HIa : Hid (InL ws ⟨I3a, A3a, E3a⟩) := Lib.hid (by have := word_in (n := s.size) (u := [98, 121]) HI.out; rwa [HQ1.out] at this)
  clear hq1 hb1 l0 l1 l2 l3 l4 f0 f1 f2 f3 f4 sz
  have hcells := HPa.out.cells
  dsimp only at hcells
  obtain ⟨⟨l0, l1, l2, l3, l4⟩, ⟨f0, f1, f2, f3, f4⟩, sz⟩ := hcells
  go_wp2_with fail
  refine (HK.out.name _ ⟨I3a, A3a, E3a⟩ HPa.out.below HIa.out).mono ?_
  rintro e w2 ⟨⟨I3, A3, E3⟩, z3, hq2, rfl, hb2⟩
  have HPb := Lib.hid (HPa.out.next hb2)
  have HIb : Hid (InL ws ⟨I3, A3, E3⟩) := Lib.hid (by have := name_in (n := s.size) HIa.out; rwa [hq2] at this)
  have HQ2 : Hid (nameS ws s.size ⟨I3a, A3a, E3a⟩ = (⟨I3, A3, E3⟩, z3)) := Lib.hid hq2
  clear hq2 hb2 l0 l1 l2 l3 l4 f0 f1 f2 f3 f4 sz
  have hcells := HPb.out.cells
  dsimp only at hcells
  obtain ⟨⟨l0, l1, l2, l3, l4⟩, ⟨f0, f1, f2, f3, f4⟩, sz⟩ := hcells
  obtain ⟨r0, r1, r2, r3, r4, r5, r6⟩ := rep_cells HPb.out.rep
  obtain ⟨g0, g1, g2, g3, g4, g5, g6⟩ := rep_free HPb.out.rep
  dsimp only at r0 r1 r2 r3 r4 r5 r6
  have HQ3 : Hid (srR ws s.size ⟨⟨I2, A2, E2⟩, z1, z2, [], [], [], (-1), 0⟩ = ⟨⟨I3, A3, E3⟩, z1, z2, z3, [], [], (-1), 0⟩) := Lib.hid (by unfold srR; dsimp only; rw [HQ1.out, HQ2.out])
  have CsrR := HQ3
  go_upto_region 8 with fail
  have HP' : Hid (PS W0 ((((((w2.setCell ⟨W0.heap.size, 0, none⟩ (.slice (some ⟨gp, 0, none⟩) len cap0)).setCell ⟨W0.heap.size, 1, none⟩ (.int .i64 I3)).setCell ⟨W0.heap.size, 2, none⟩ (.int .i64 s.size)).setCell ⟨W0.heap.size, 3, none⟩ (.int .i64 A3)).setCell ⟨W0.heap.size, 4, none⟩ (.int .i64 E3)).setCell ⟨W0.heap.size + 1, 2, none⟩ (.string ⟨z3.toArray⟩)) (.slice (some ⟨gp, 0, none⟩) len cap0) s.size ⟨⟨I3, A3, E3⟩, z1, z2, z3, [], [], (-1), 0⟩ (.slice none 0 0)) := Lib.hid ((HPb.out.setLine I3 A3 E3).set_src z3)
  clear l0 l1 l2 l3 l4 f0 f1 f2 f3 f4 sz r0 r1 r2 r3 r4 r5 r6 g0 g1 g2 g3 g4 g5 g6
  obtain ⟨w3, hw3⟩ : ∃ w3, w3 = ((((((w2.setCell ⟨W0.heap.size, 0, none⟩ (.slice (some ⟨gp, 0, none⟩) len cap0)).setCell ⟨W0.heap.size, 1, none⟩ (.int .i64 I3)).setCell ⟨W0.heap.size, 2, none⟩ (.int .i64 s.size)).setCell ⟨W0.heap.size, 3, none⟩ (.int .i64 A3)).setCell ⟨W0.heap.size, 4, none⟩ (.int .i64 E3)).setCell ⟨W0.heap.size + 1, 2, none⟩ (.string ⟨z3.toArray⟩)) := ⟨_, rfl⟩
  rw [← hw3] at HP' ⊢
  clear hw3 HPb HPa HIa HQ1 HQ2 HP HI
  have HP := HP'
  have HI := HIb
  clear HP' HIb
  go_cut [45] (fun sc wx => ∃ m : Bool, sc = .bool m ∧ Hid (m = maybeS ws ⟨I3, A3, E3⟩ [97, 98, 111, 117, 116] ∧ PS W0 wx (.slice (some ⟨gp, 0, none⟩) len cap0) s.size ⟨⟨I3, A3, E3⟩, z1, z2, z3, [], [], (-1), 0⟩ (.slice none 0 0)))
  case first =>
    have hcells := HP.out.cells
    dsimp only at hcells
    obtain ⟨⟨l0, l1, l2, l3, l4⟩, ⟨f0, f1, f2, f3, f4⟩, sz⟩ := hcells
    by_cases hE : E3 = 0
    · have HE := Lib.hid hE
      have hE1 : ((E3 : Int) == 0) = true := by rw [hE]; rfl
      clear hE
      go_wp2_with fail
      refine (HK.out.is _ ⟨I3, A3, E3⟩ ⟨#[97, 98, 111, 117, 116]⟩ HP.out.below).mono ?_
      rintro e w1 ⟨b, hb, rfl, hb1⟩
      have HPa := Lib.hid (HP.out.next hb1)
      have HBB : Hid (isS ws ⟨I3, A3, E3⟩ [97, 98, 111, 117, 116] = b) := Lib.hid hb
      clear hb hb1 l0 l1 l2 l3 l4 f0 f1 f2 f3 f4 sz
      go_wp2_with fail
      go_meet
      exact ⟨b, rfl, Lib.hid ⟨by unfold maybeS; rw [decide_eq_true HE.out, HBB.out]; rfl, HPa.out⟩⟩
    · have HE := Lib.hid hE
      have hE1 : ((E3 : Int) == 0) = false := by simpa using hE
      clear hE
      go_wp2_with fail
      go_meet
      exact ⟨false, rfl, Lib.hid ⟨by unfold maybeS; rw [decide_eq_false HE.out]; rfl, HP.out⟩⟩
  case rest =>
    clear HP
    obtain ⟨m, rfl, HM⟩ := hcut
    go_upto_if 45 with fail
    go_cut [] (fun wx => ∃ (Im Am : Nat) (Em : Int) (zm : List UInt8), Hid (abR ws s.size ⟨⟨I3, A3, E3⟩, z1, z2, z3, [], [], (-1), 0⟩ = ⟨⟨Im, Am, Em⟩, z1, z2, z3, zm, [], (-1), 0⟩ ∧ PS W0 wx (.slice (some ⟨gp, 0, none⟩) len cap0) s.size ⟨⟨Im, Am, Em⟩, z1, z2, z3, zm, [], (-1), 0⟩ (.slice none 0 0) ∧ InL ws ⟨Im, Am, Em⟩))
    case first =>
      have HP := Lib.hid HM.out.2
      cases m with
      | false =>
        go_wp2_with fail
        go_meet
        exact ⟨_, _, _, _, Lib.hid ⟨by unfold abR; dsimp only; rw [← HM.out.1, if_neg (by decide)], HP.out, HI.out⟩⟩
      | true =>
        have hcells := HP.out.cells
        dsimp only at hcells
        obtain ⟨⟨l0, l1, l2, l3, l4⟩, ⟨f0, f1, f2, f3, f4⟩, sz⟩ := hcells
        go_wp2_with fail
        refine (HK.out.word _ ⟨I3, A3, E3⟩ ⟨#[97, 98, 111, 117, 116]⟩ HP.out.below HI.out).mono ?_
        rintro e w1 ⟨⟨I4a, A4a, E4a⟩, hq1, rfl, hb1⟩
        have HQ1 : Hid (wordS ws s.size ⟨I3, A3, E3⟩ [97, 98, 111, 117, 116] = ⟨I4a, A4a, E4a⟩) := Lib.hid hq1
        have HPa := Lib.hid (HP.out.next hb1)
        have HIa : Hid (InL ws ⟨I4a, A4a, E4a⟩) := Lib.hid (by have := word_in (n := s.size) (u := [97, 98, 111, 117, 116]) HI.out; rwa [HQ1.out] at this)
        clear hq1 hb1 l0 l1 l2 l3 l4 f0 f1 f2 f3 f4 sz
        have hcells := HPa.out.cells
        dsimp only at hcells
        obtain ⟨⟨l0, l1, l2, l3, l4⟩, ⟨f0, f1, f2, f3, f4⟩, sz⟩ := hcells
        go_wp2_with fail
        refine (HK.out.name _ ⟨I4a, A4a, E4a⟩ HPa.out.below HIa.out).mono ?_
        rintro e w2 ⟨⟨I4, A4, E4⟩, z4, hq2, rfl, hb2⟩
        have HPb := Lib.hid (HPa.out.next hb2)
        have HIb : Hid (InL ws ⟨I4, A4, E4⟩) := Lib.hid (by have := name_in (n := s.size) HIa.out; rwa [hq2] at this)
        have HQ2 : Hid (nameS ws s.size ⟨I4a, A4a, E4a⟩ = (⟨I4, A4, E4⟩, z4)) := Lib.hid hq2
        clear hq2 hb2 l0 l1 l2 l3 l4 f0 f1 f2 f3 f4 sz
        have hcells := HPb.out.cells
        dsimp only at hcells
        obtain ⟨⟨l0, l1, l2, l3, l4⟩, ⟨f0, f1, f2, f3, f4⟩, sz⟩ := hcells
        obtain ⟨r0, r1, r2, r3, r4, r5, r6⟩ := rep_cells HPb.out.rep
        obtain ⟨g0, g1, g2, g3, g4, g5, g6⟩ := rep_free HPb.out.rep
        dsimp only at r0 r1 r2 r3 r4 r5 r6
        have HQ4 : Hid (abR ws s.size ⟨⟨I3, A3, E3⟩, z1, z2, z3, [], [], (-1), 0⟩ = ⟨⟨I4, A4, E4⟩, z1, z2, z3, z4, [], (-1), 0⟩) := Lib.hid (by unfold abR; dsimp only; rw [← HM.out.1, if_pos rfl, HQ1.out, HQ2.out])
        have HP' : Hid (PS W0 ((((((w2.setCell ⟨W0.heap.size, 0, none⟩ (.slice (some ⟨gp, 0, none⟩) len cap0)).setCell ⟨W0.heap.size, 1, none⟩ (.int .i64 I4)).setCell ⟨W0.heap.size, 2, none⟩ (.int .i64 s.size)).setCell ⟨W0.heap.size, 3, none⟩ (.int .i64 A4)).setCell ⟨W0.heap.size, 4, none⟩ (.int .i64 E4)).setCell ⟨W0.heap.size + 1, 3, none⟩ (.string ⟨z4.toArray⟩)) (.slice (some ⟨gp, 0, none⟩) len cap0) s.size ⟨⟨I4, A4, E4⟩, z1, z2, z3, z4, [], (-1), 0⟩ (.slice none 0 0)) := Lib.hid ((HPb.out.setLine I4 A4 E4).set_abt z4)
        go_wp2_with fail
        go_meet
        exact ⟨_, _, _, _, Lib.hid ⟨HQ4.out, HP'.out, HIb.out⟩⟩
    case rest =>
      clear HM HI
      obtain ⟨I4m, A4m, E4m, z4m, HR⟩ := hcut
      have HP := Lib.hid HR.out.2.1
      have HI := Lib.hid HR.out.2.2
      have HQ4m := Lib.hid HR.out.1
      clear HR
      have hcells := HP.out.cells
      dsimp only at hcells
      obtain ⟨⟨l0, l1, l2, l3, l4⟩, ⟨f0, f1, f2, f3, f4⟩, sz⟩ := hcells
      go_wp2_with fail
      refine (HK.out.word _ ⟨I4m, A4m, E4m⟩ ⟨#[105, 110]⟩ HP.out.below HI.out).mono ?_
      rintro e w1 ⟨⟨I5, A5, E5⟩, hq1, rfl, hb1⟩
      have HQI : Hid (wordS ws s.size ⟨I4m, A4m, E4m⟩ [105, 110] = ⟨I5, A5, E5⟩) := Lib.hid hq1
      have HPa := Lib.hid (HP.out.next hb1)
      have HIa : Hid (InL ws ⟨I5, A5, E5⟩) := Lib.hid (by have := word_in (n := s.size) (u := [105, 110]) HI.out; rwa [HQI.out] at this)
      clear hq1 hb1 l0 l1 l2 l3 l4 f0 f1 f2 f3 f4 sz
      have hcells := HPa.out.cells
      dsimp only at hcells
      obtain ⟨⟨l0, l1, l2, l3, l4⟩, ⟨f0, f1, f2, f3, f4⟩, sz⟩ := hcells
      go_upto_block 0 with fail
      have HP' : Hid (PS W0 (((((w1.setCell ⟨W0.heap.size, 0, none⟩ (.slice (some ⟨gp, 0, none⟩) len cap0)).setCell ⟨W0.heap.size, 1, none⟩ (.int .i64 I5)).setCell ⟨W0.heap.size, 2, none⟩ (.int .i64 s.size)).setCell ⟨W0.heap.size, 3, none⟩ (.int .i64 A5)).setCell ⟨W0.heap.size, 4, none⟩ (.int .i64 E5)) (.slice (some ⟨gp, 0, none⟩) len cap0) s.size ⟨⟨I5, A5, E5⟩, z1, z2, z3, z4m, [], (-1), 0⟩ (.slice none 0 0)) := Lib.hid (HPa.out.setLine I5 A5 E5)
      clear l0 l1 l2 l3 l4 f0 f1 f2 f3 f4 sz
      obtain ⟨w3, hw3⟩ : ∃ w3, w3 = (((((w1.setCell ⟨W0.heap.size, 0, none⟩ (.slice (some ⟨gp, 0, none⟩) len cap0)).setCell ⟨W0.heap.size, 1, none⟩ (.int .i64 I5)).setCell ⟨W0.heap.size, 2, none⟩ (.int .i64 s.size)).setCell ⟨W0.heap.size, 3, none⟩ (.int .i64 A5)).setCell ⟨W0.heap.size, 4, none⟩ (.int .i64 E5)) := ⟨_, rfl⟩
      rw [← hw3] at HP' ⊢
      clear hw3 HPa HP HI
      have HP := HP'
      have HI := HIa
      clear HP' HIa
      go_cut [] (fun wx => ∃ (Iq Aq : Nat) (Eq : Int) (wh : List (Int × Int)) (Bq : Option Addr) (cq : Nat), Hid (whereS ws s.size 14 ⟨I5, A5, E5⟩ [] = (⟨Iq, Aq, Eq⟩, wh) ∧ PS W0 wx (.slice (some ⟨gp, 0, none⟩) len cap0) s.size ⟨⟨Iq, Aq, Eq⟩, z1, z2, z3, z4m, wh, (-1), 0⟩ (.slice Bq wh.length cq) ∧ InL ws ⟨Iq, Aq, Eq⟩))
      case first =>
        obtain ⟨i0, hi, hz0, hz1, hz2⟩ := info_parts infoSpot
        go_wp2_with fail
        go_loopw [7, 8] (fun _ _ wr => ∃ (Iq Aq : Nat) (Eq : Int) (wh : List (Int × Int)) (Bq : Option Addr) (cq : Nat), wh.length ≤ 12 ∧ Hid (whereS ws s.size 14 ⟨I5, A5, E5⟩ [] = whereS ws s.size (14 - wh.length) ⟨Iq, Aq, Eq⟩ wh ∧ PS W0 wr (.slice (some ⟨gp, 0, none⟩) len cap0) s.size ⟨⟨Iq, Aq, Eq⟩, z1, z2, z3, z4m, wh, (-1), 0⟩ (.slice Bq wh.length cq) ∧ InL ws ⟨Iq, Aq, Eq⟩)) (fun _ _ wr => 13 - lenR wr (W0.heap.size + 1))
        case atStart => exact ⟨_, _, _, [], none, 0, by simp, Lib.hid ⟨rfl, HP.out, HI.out⟩⟩
        case round =>
          clear HP HI
          obtain ⟨Iq, Aq, Eq, wh, Bq, cq, hwh, HX⟩ := hrel
          have HFU : Hid (14 - wh.length = (13 - wh.length) + 1) := Lib.hid (by omega)
          have HX12 := Lib.hid hwh
          have HIX := Lib.hid HX.out.2.2
          obtain ⟨wl, hwl⟩ : ∃ wl, wl = wh.length := ⟨_, rfl⟩
          have HWL := Lib.hid hwl
          have HPc : Hid (PS W0 wr (.slice (some ⟨gp, 0, none⟩) len cap0) s.size ⟨⟨Iq, Aq, Eq⟩, z1, z2, z3, z4m, wh, (-1), 0⟩ (.slice Bq wl cq)) := Lib.hid (by rw [hwl]; exact HX.out.2.1)
          clear hwl hwh
          by_cases hE : Eq = 0
          · subst hE
            by_cases hw0 : wh = []
            · subst hw0
              have hwl0 : wl = 0 := HWL.out
              subst hwl0
              have HW12 : Hid (0 < 12) := Lib.hid (by omega)
              have HR0 : Hid (whereS ws s.size (14 - ([] : List (Int × Int)).length) ⟨Iq, Aq, 0⟩ [] = whereS ws s.size (14 - (([] : List (Int × Int)).length + 1)) (numberS ws s.size (numberS ws s.size ⟨Iq, Aq, 0⟩ (-16777216) 16777216).1 (-16777216) 16777216).1 ([] ++ [((numberS ws s.size ⟨Iq, Aq, 0⟩ (-16777216) 16777216).2, (numberS ws s.size (numberS ws s.size ⟨Iq, Aq, 0⟩ (-16777216) 16777216).1 (-16777216) 16777216).2)])) := Lib.hid (by
                rw [HFU.out, whereS, if_pos ⟨rfl, Or.inl rfl⟩, if_neg (by decide)]
                rfl)
              have hcells := HPc.out.cells
              dsimp only at hcells
              obtain ⟨⟨l0, l1, l2, l3, l4⟩, ⟨f0, f1, f2, f3, f4⟩, sz⟩ := hcells
              obtain ⟨r0, r1, r2, r3, r4, r5, r6⟩ := rep_cells HPc.out.rep
              obtain ⟨g0, g1, g2, g3, g4, g5, g6⟩ := rep_free HPc.out.rep
              dsimp only at r0 r1 r2 r3 r4 r5 r6
              go_wp2_with fail
              refine (HK.out.number _ ⟨Iq, Aq, 0⟩ (-16777216) 16777216 HPc.out.below HIX.out).mono ?_
              rintro e wn1 ⟨⟨In1, An1, En1⟩, x1, hq, rfl, hb⟩
              have HN1 : Hid (numberS ws s.size ⟨Iq, Aq, 0⟩ (-16777216) 16777216 = (⟨In1, An1, En1⟩, x1)) := Lib.hid hq
              have HIn1 : Hid (InL ws ⟨In1, An1, En1⟩) := Lib.hid (by have := number_in (n := s.size) (lo := -16777216) (hi := 16777216) HIX.out; rwa [hq] at this)
              have HPa := Lib.hid (HPc.out.next hb)
              clear hq hb l0 l1 l2 l3 l4 f0 f1 f2 f3 f4 sz 
              (try clear r0 r1 r2 r3 r4 r5 r6 g0 g1 g2 g3 g4 g5 g6)
              have hcells := HPa.out.cells
              dsimp only at hcells
              obtain ⟨⟨l0, l1, l2, l3, l4⟩, ⟨f0, f1, f2, f3, f4⟩, sz⟩ := hcells
              go_upto_region 16 with fail
              have HP1 : Hid (PS W0 (((((wn1.setCell ⟨W0.heap.size, 0, none⟩ (.slice (some ⟨gp, 0, none⟩) len cap0)).setCell ⟨W0.heap.size, 1, none⟩ (.int .i64 In1)).setCell ⟨W0.heap.size, 2, none⟩ (.int .i64 s.size)).setCell ⟨W0.heap.size, 3, none⟩ (.int .i64 An1)).setCell ⟨W0.heap.size, 4, none⟩ (.int .i64 En1)) (.slice (some ⟨gp, 0, none⟩) len cap0) s.size ⟨⟨In1, An1, En1⟩, z1, z2, z3, z4m, [], (-1), 0⟩ (.slice Bq 0 cq)) := Lib.hid (HPa.out.setLine In1 An1 En1)
              clear l0 l1 l2 l3 l4 f0 f1 f2 f3 f4 sz
              obtain ⟨wm1, hwm1⟩ : ∃ wm1, wm1 = (((((wn1.setCell ⟨W0.heap.size, 0, none⟩ (.slice (some ⟨gp, 0, none⟩) len cap0)).setCell ⟨W0.heap.size, 1, none⟩ (.int .i64 In1)).setCell ⟨W0.heap.size, 2, none⟩ (.int .i64 s.size)).setCell ⟨W0.heap.size, 3, none⟩ (.int .i64 An1)).setCell ⟨W0.heap.size, 4, none⟩ (.int .i64 En1)) := ⟨_, rfl⟩
              rw [← hwm1] at HP1 ⊢
              clear hwm1 HPa
              have hcells := HP1.out.cells
              dsimp only at hcells
              obtain ⟨⟨l0, l1, l2, l3, l4⟩, ⟨f0, f1, f2, f3, f4⟩, sz⟩ := hcells
              go_wp2_with fail
              refine (HK.out.number _ ⟨In1, An1, En1⟩ (-16777216) 16777216 HP1.out.below HIn1.out).mono ?_
              rintro e wn2 ⟨⟨In2, An2, En2⟩, x2, hq, rfl, hb⟩
              have HN2 : Hid (numberS ws s.size ⟨In1, An1, En1⟩ (-16777216) 16777216 = (⟨In2, An2, En2⟩, x2)) := Lib.hid hq
              have HIn2 : Hid (InL ws ⟨In2, An2, En2⟩) := Lib.hid (by have := number_in (n := s.size) (lo := -16777216) (hi := 16777216) HIn1.out; rwa [hq] at this)
              have HPa := Lib.hid (HP1.out.next hb)
              clear hq hb l0 l1 l2 l3 l4 f0 f1 f2 f3 f4 sz 
              (try clear r0 r1 r2 r3 r4 r5 r6 g0 g1 g2 g3 g4 g5 g6)
              have hcells := HPa.out.cells
              dsimp only at hcells
              obtain ⟨⟨l0, l1, l2, l3, l4⟩, ⟨f0, f1, f2, f3, f4⟩, sz⟩ := hcells
              go_upto_region 17 with fail
              have HP2 : Hid (PS W0 (((((wn2.setCell ⟨W0.heap.size, 0, none⟩ (.slice (some ⟨gp, 0, none⟩) len cap0)).setCell ⟨W0.heap.size, 1, none⟩ (.int .i64 In2)).setCell ⟨W0.heap.size, 2, none⟩ (.int .i64 s.size)).setCell ⟨W0.heap.size, 3, none⟩ (.int .i64 An2)).setCell ⟨W0.heap.size, 4, none⟩ (.int .i64 En2)) (.slice (some ⟨gp, 0, none⟩) len cap0) s.size ⟨⟨In2, An2, En2⟩, z1, z2, z3, z4m, [], (-1), 0⟩ (.slice Bq 0 cq)) := Lib.hid (HPa.out.setLine In2 An2 En2)
              clear l0 l1 l2 l3 l4 f0 f1 f2 f3 f4 sz
              obtain ⟨wm2, hwm2⟩ : ∃ wm2, wm2 = (((((wn2.setCell ⟨W0.heap.size, 0, none⟩ (.slice (some ⟨gp, 0, none⟩) len cap0)).setCell ⟨W0.heap.size, 1, none⟩ (.int .i64 In2)).setCell ⟨W0.heap.size, 2, none⟩ (.int .i64 s.size)).setCell ⟨W0.heap.size, 3, none⟩ (.int .i64 An2)).setCell ⟨W0.heap.size, 4, none⟩ (.int .i64 En2)) := ⟨_, rfl⟩
              rw [← hwm2] at HP2 ⊢
              clear hwm2 HPa HP1
              have HOWN : Hid (wm2.ownsRow (W0.heap.size + 2) 24 2 (.slice Bq 0 cq) 0 (spotCells [])) := Lib.hid (by have := HP2.out.own; dsimp only at this; exact this)
              have hcells := HP2.out.cells
              dsimp only at hcells
              obtain ⟨⟨l0, l1, l2, l3, l4⟩, ⟨f0, f1, f2, f3, f4⟩, sz⟩ := hcells
              obtain ⟨r0, r1, r2, r3, r4, r5, r6⟩ := rep_cells HP2.out.rep
              obtain ⟨g0, g1, g2, g3, g4, g5, g6⟩ := rep_free HP2.out.rep
              dsimp only at r0 r1 r2 r3 r4 r5 r6
              go_wp2_with (at_builtin; refine wpList_append_own _ rfl _ _ 22 rfl (W0.heap.size + 2) 24 i0 (.agg #[.int .i64 0, .int .i64 0]) 2 16 Tryz.underlying22 hi hz0 hz1 hz2 rfl (by decide) (.slice Bq 0 cq) 0 (spotCells []) rfl (HOWN.out.alloc _) ⟨wm2.heap.size, 0, none⟩ 1 1 [.int .i64 x1, .int .i64 x2] rfl rfl (two_new _ _ _ _) ?c2 ?c3 ?c4 ?c5 ?_)
              case c2 => intro u hu; simp at hu; rcases hu with rfl | rfl <;> rfl
              case c3 => have := HW12.out; unfold maxLen; omega
              case c4 => have := HW12.out; omega
              case c5 => have := HP2.out.size; simp; omega
              intro v' w6 hown' hgrow _
              obtain ⟨Bz, cz, rfl⟩ := own_shape hown'
              have hput := HP2.out.put (x := x1) (y := x2) (by dsimp only; exact hown') hgrow
              dsimp only at hput
              obtain ⟨p4, p5, hp6⟩ := hput
              have HP6 := Lib.hid hp6
              clear hown' hgrow hp6 l0 l1 l2 l3 l4 f0 f1 f2 f3 f4 sz r0 r1 r2 r3 r4 r5 r6 g0 g1 g2 g3 g4 g5 g6
              go_wp2
              go_roundw
              case rel => exact ⟨_, _, _, [] ++ [(x1, x2)], Bz, cz, by simp, Lib.hid ⟨by rw [HX.out.1, HR0.out, HN1.out, HN2.out, List.length_append]; rfl, by exact HP6.out, HIn2.out⟩⟩
              case measure =>
                rw [HX.out.2.1.lenR, HP6.out.lenR]
                simp only [List.length_nil]
                omega
            · have hcells := HPc.out.cells
              dsimp only at hcells
              obtain ⟨⟨l0, l1, l2, l3, l4⟩, ⟨f0, f1, f2, f3, f4⟩, sz⟩ := hcells
              obtain ⟨r0, r1, r2, r3, r4, r5, r6⟩ := rep_cells HPc.out.rep
              obtain ⟨g0, g1, g2, g3, g4, g5, g6⟩ := rep_free HPc.out.rep
              dsimp only at r0 r1 r2 r3 r4 r5 r6
              have HW0 := Lib.hid hw0
              have hl0 : ((wl : Int) == 0) = false := by
                rw [beq_eq_false_iff_ne, HWL.out]
                intro e
                exact hw0 (List.eq_nil_of_length_eq_zero (by omega))
              clear hw0
              by_cases hIl : Iq < len
              · have HIL := Lib.hid hIl
                go_wp2_with fail
                refine (HK.out.is _ ⟨Iq, Aq, 0⟩ ⟨#[115, 111, 117, 108, 115]⟩ HPc.out.below).mono ?_
                rintro e wa ⟨b1, hb, rfl, hbl⟩
                have HB1 : Hid (isS ws ⟨Iq, Aq, 0⟩ soulsL = b1) := Lib.hid hb
                have HPc1 := Lib.hid (HPc.out.next hbl)
                clear hb hbl l0 l1 l2 l3 l4 f0 f1 f2 f3 f4 sz r0 r1 r2 r3 r4 r5 r6 g0 g1 g2 g3 g4 g5 g6
                cases b1 with
                | true =>
                  have HPz : Hid (PS W0 wa (.slice (some ⟨gp, 0, none⟩) len cap0) s.size ⟨⟨Iq, Aq, 0⟩, z1, z2, z3, z4m, wh, (-1), 0⟩ (.slice Bq wh.length cq)) := Lib.hid (by have := HPc1.out; rw [HWL.out] at this; exact this)
                  go_wp2_with fail
                  go_meet
                  exact ⟨_, _, _, _, _, _, Lib.hid ⟨by rw [HX.out.1, HFU.out, whereS, if_neg (fun h => h.2.elim (fun e => HW0.out e) (fun e => by unfold moreB at e; rw [HB1.out] at e; simp at e))], HPz.out, HX.out.2.2⟩⟩
                | false =>
                  have hcells := HPc1.out.cells
                  dsimp only at hcells
                  obtain ⟨⟨l0, l1, l2, l3, l4⟩, ⟨f0, f1, f2, f3, f4⟩, sz⟩ := hcells
                  obtain ⟨r0, r1, r2, r3, r4, r5, r6⟩ := rep_cells HPc1.out.rep
                  obtain ⟨g0, g1, g2, g3, g4, g5, g6⟩ := rep_free HPc1.out.rep
                  dsimp only at r0 r1 r2 r3 r4 r5 r6
                  go_wp2_with fail
                  refine (HK.out.is _ ⟨Iq, Aq, 0⟩ ⟨#[116, 114, 117, 115, 116]⟩ HPc1.out.below).mono ?_
                  rintro e wb ⟨b2, hb, rfl, hbl⟩
                  have HB2 : Hid (isS ws ⟨Iq, Aq, 0⟩ trustL = b2) := Lib.hid hb
                  have HPc2 := Lib.hid (HPc1.out.next hbl)
                  clear hb hbl l0 l1 l2 l3 l4 f0 f1 f2 f3 f4 sz r0 r1 r2 r3 r4 r5 r6 g0 g1 g2 g3 g4 g5 g6
                  cases b2 with
                  | true =>
                    have HPz : Hid (PS W0 wb (.slice (some ⟨gp, 0, none⟩) len cap0) s.size ⟨⟨Iq, Aq, 0⟩, z1, z2, z3, z4m, wh, (-1), 0⟩ (.slice Bq wh.length cq)) := Lib.hid (by have := HPc2.out; rw [HWL.out] at this; exact this)
                    go_wp2_with fail
                    go_meet
                    exact ⟨_, _, _, _, _, _, Lib.hid ⟨by rw [HX.out.1, HFU.out, whereS, if_neg (fun h => h.2.elim (fun e => HW0.out e) (fun e => by unfold moreB at e; rw [HB2.out] at e; simp at e))], HPz.out, HX.out.2.2⟩⟩
                  | false =>
                    have HMO : Hid (moreB ws ⟨Iq, Aq, 0⟩ = true) := Lib.hid (by unfold moreB; rw [HB1.out, HB2.out, decide_eq_true (show (⟨Iq, Aq, 0⟩ : Ln).I < ws.length by rw [← HLEN.out]; exact HIL.out)]; rfl)
                    by_cases h12 : wh.length = 12
                    · have HR : Hid (whereS ws s.size 14 ⟨I5, A5, E5⟩ [] = (failS ws s.size ⟨Iq, Aq, 0⟩ 3, wh)) := Lib.hid (by rw [HX.out.1, HFU.out, whereS, if_pos ⟨rfl, Or.inr HMO.out⟩, if_pos h12])
                      have h12b : ((wl : Int) == 12) = true := by rw [HWL.out, h12]; rfl
                      have h12c : wl = 12 := by rw [HWL.out, h12]
                      clear h12
                      have hcells := HPc2.out.cells
                      dsimp only at hcells
                      obtain ⟨⟨l0, l1, l2, l3, l4⟩, ⟨f0, f1, f2, f3, f4⟩, sz⟩ := hcells
                      obtain ⟨r0, r1, r2, r3, r4, r5, r6⟩ := rep_cells HPc2.out.rep
                      obtain ⟨g0, g1, g2, g3, g4, g5, g6⟩ := rep_free HPc2.out.rep
                      dsimp only at r0 r1 r2 r3 r4 r5 r6
                      go_wp2_with fail
                      refine (HK.out.fail _ ⟨Iq, Aq, 0⟩ 3 HPc2.out.below).mono ?_
                      rintro e w5 ⟨⟨Jf, Af, Ef⟩, hq, rfl, hb⟩
                      have HPa := Lib.hid (HPc2.out.next hb)
                      have HQF : Hid (failS ws s.size ⟨Iq, Aq, 0⟩ 3 = ⟨Jf, Af, Ef⟩) := Lib.hid hq
                      have HIF : Hid (InL ws ⟨Jf, Af, Ef⟩) := Lib.hid (by have := fail_in (n := s.size) (e := 3) HX.out.2.2; rwa [hq] at this)
                      clear hq hb l0 l1 l2 l3 l4 f0 f1 f2 f3 f4 sz r0 r1 r2 r3 r4 r5 r6 g0 g1 g2 g3 g4 g5 g6
                      have hcells := HPa.out.cells
                      dsimp only at hcells
                      obtain ⟨⟨l0, l1, l2, l3, l4⟩, ⟨f0, f1, f2, f3, f4⟩, sz⟩ := hcells
                      have HP' := Lib.hid (HPa.out.setLine Jf Af Ef)
                      go_wp2_with fail
                      go_meet
                      exact ⟨_, _, _, _, _, _, Lib.hid ⟨by rw [HR.out, HQF.out], (by have := HP'.out; rw [HWL.out] at this; exact this), HIF.out⟩⟩
                    · have h12b : ((wl : Int) == 12) = false := by rw [beq_eq_false_iff_ne, HWL.out]; omega
                      have HW12 : Hid (wl < 12) := Lib.hid (by have := HX12.out; rw [HWL.out]; omega)
                      have HR0 : Hid (whereS ws s.size (14 - wh.length) ⟨Iq, Aq, 0⟩ wh = whereS ws s.size (14 - (wh.length + 1)) (numberS ws s.size (numberS ws s.size ⟨Iq, Aq, 0⟩ (-16777216) 16777216).1 (-16777216) 16777216).1 (wh ++ [((numberS ws s.size ⟨Iq, Aq, 0⟩ (-16777216) 16777216).2, (numberS ws s.size (numberS ws s.size ⟨Iq, Aq, 0⟩ (-16777216) 16777216).1 (-16777216) 16777216).2)])) := Lib.hid (by
                        rw [HFU.out, whereS, if_pos ⟨rfl, Or.inr HMO.out⟩, if_neg h12]
                        congr 1
                        have := HFU.out; omega)
                      clear h12
                      have hcells := HPc2.out.cells
                      dsimp only at hcells
                      obtain ⟨⟨l0, l1, l2, l3, l4⟩, ⟨f0, f1, f2, f3, f4⟩, sz⟩ := hcells
                      obtain ⟨r0, r1, r2, r3, r4, r5, r6⟩ := rep_cells HPc2.out.rep
                      obtain ⟨g0, g1, g2, g3, g4, g5, g6⟩ := rep_free HPc2.out.rep
                      dsimp only at r0 r1 r2 r3 r4 r5 r6
                      go_wp2_with fail
                      refine (HK.out.number _ ⟨Iq, Aq, 0⟩ (-16777216) 16777216 HPc2.out.below HIX.out).mono ?_
                      rintro e wn1 ⟨⟨In1, An1, En1⟩, x1, hq, rfl, hb⟩
                      have HN1 : Hid (numberS ws s.size ⟨Iq, Aq, 0⟩ (-16777216) 16777216 = (⟨In1, An1, En1⟩, x1)) := Lib.hid hq
                      have HIn1 : Hid (InL ws ⟨In1, An1, En1⟩) := Lib.hid (by have := number_in (n := s.size) (lo := -16777216) (hi := 16777216) HIX.out; rwa [hq] at this)
                      have HPa := Lib.hid (HPc2.out.next hb)
                      clear hq hb l0 l1 l2 l3 l4 f0 f1 f2 f3 f4 sz 
                      (try clear r0 r1 r2 r3 r4 r5 r6 g0 g1 g2 g3 g4 g5 g6)
                      have hcells := HPa.out.cells
                      dsimp only at hcells
                      obtain ⟨⟨l0, l1, l2, l3, l4⟩, ⟨f0, f1, f2, f3, f4⟩, sz⟩ := hcells
                      go_upto_region 16 with fail
                      have HP1 : Hid (PS W0 (((((wn1.setCell ⟨W0.heap.size, 0, none⟩ (.slice (some ⟨gp, 0, none⟩) len cap0)).setCell ⟨W0.heap.size, 1, none⟩ (.int .i64 In1)).setCell ⟨W0.heap.size, 2, none⟩ (.int .i64 s.size)).setCell ⟨W0.heap.size, 3, none⟩ (.int .i64 An1)).setCell ⟨W0.heap.size, 4, none⟩ (.int .i64 En1)) (.slice (some ⟨gp, 0, none⟩) len cap0) s.size ⟨⟨In1, An1, En1⟩, z1, z2, z3, z4m, wh, (-1), 0⟩ (.slice Bq wl cq)) := Lib.hid (HPa.out.setLine In1 An1 En1)
                      clear l0 l1 l2 l3 l4 f0 f1 f2 f3 f4 sz
                      obtain ⟨wm1, hwm1⟩ : ∃ wm1, wm1 = (((((wn1.setCell ⟨W0.heap.size, 0, none⟩ (.slice (some ⟨gp, 0, none⟩) len cap0)).setCell ⟨W0.heap.size, 1, none⟩ (.int .i64 In1)).setCell ⟨W0.heap.size, 2, none⟩ (.int .i64 s.size)).setCell ⟨W0.heap.size, 3, none⟩ (.int .i64 An1)).setCell ⟨W0.heap.size, 4, none⟩ (.int .i64 En1)) := ⟨_, rfl⟩
                      rw [← hwm1] at HP1 ⊢
                      clear hwm1 HPa
                      have hcells := HP1.out.cells
                      dsimp only at hcells
                      obtain ⟨⟨l0, l1, l2, l3, l4⟩, ⟨f0, f1, f2, f3, f4⟩, sz⟩ := hcells
                      go_wp2_with fail
                      refine (HK.out.number _ ⟨In1, An1, En1⟩ (-16777216) 16777216 HP1.out.below HIn1.out).mono ?_
                      rintro e wn2 ⟨⟨In2, An2, En2⟩, x2, hq, rfl, hb⟩
                      have HN2 : Hid (numberS ws s.size ⟨In1, An1, En1⟩ (-16777216) 16777216 = (⟨In2, An2, En2⟩, x2)) := Lib.hid hq
                      have HIn2 : Hid (InL ws ⟨In2, An2, En2⟩) := Lib.hid (by have := number_in (n := s.size) (lo := -16777216) (hi := 16777216) HIn1.out; rwa [hq] at this)
                      have HPa := Lib.hid (HP1.out.next hb)
                      clear hq hb l0 l1 l2 l3 l4 f0 f1 f2 f3 f4 sz 
                      (try clear r0 r1 r2 r3 r4 r5 r6 g0 g1 g2 g3 g4 g5 g6)
                      have hcells := HPa.out.cells
                      dsimp only at hcells
                      obtain ⟨⟨l0, l1, l2, l3, l4⟩, ⟨f0, f1, f2, f3, f4⟩, sz⟩ := hcells
                      go_upto_region 17 with fail
                      have HP2 : Hid (PS W0 (((((wn2.setCell ⟨W0.heap.size, 0, none⟩ (.slice (some ⟨gp, 0, none⟩) len cap0)).setCell ⟨W0.heap.size, 1, none⟩ (.int .i64 In2)).setCell ⟨W0.heap.size, 2, none⟩ (.int .i64 s.size)).setCell ⟨W0.heap.size, 3, none⟩ (.int .i64 An2)).setCell ⟨W0.heap.size, 4, none⟩ (.int .i64 En2)) (.slice (some ⟨gp, 0, none⟩) len cap0) s.size ⟨⟨In2, An2, En2⟩, z1, z2, z3, z4m, wh, (-1), 0⟩ (.slice Bq wl cq)) := Lib.hid (HPa.out.setLine In2 An2 En2)
                      clear l0 l1 l2 l3 l4 f0 f1 f2 f3 f4 sz
                      obtain ⟨wm2, hwm2⟩ : ∃ wm2, wm2 = (((((wn2.setCell ⟨W0.heap.size, 0, none⟩ (.slice (some ⟨gp, 0, none⟩) len cap0)).setCell ⟨W0.heap.size, 1, none⟩ (.int .i64 In2)).setCell ⟨W0.heap.size, 2, none⟩ (.int .i64 s.size)).setCell ⟨W0.heap.size, 3, none⟩ (.int .i64 An2)).setCell ⟨W0.heap.size, 4, none⟩ (.int .i64 En2)) := ⟨_, rfl⟩
                      rw [← hwm2] at HP2 ⊢
                      clear hwm2 HPa HP1
                      have HOWN : Hid (wm2.ownsRow (W0.heap.size + 2) 24 2 (.slice Bq wl cq) wl (spotCells wh)) := Lib.hid (by have := HP2.out.own; dsimp only at this; rwa [← HWL.out] at this)
                      have hcells := HP2.out.cells
                      dsimp only at hcells
                      obtain ⟨⟨l0, l1, l2, l3, l4⟩, ⟨f0, f1, f2, f3, f4⟩, sz⟩ := hcells
                      obtain ⟨r0, r1, r2, r3, r4, r5, r6⟩ := rep_cells HP2.out.rep
                      obtain ⟨g0, g1, g2, g3, g4, g5, g6⟩ := rep_free HP2.out.rep
                      dsimp only at r0 r1 r2 r3 r4 r5 r6
                      go_wp2_with (at_builtin; refine wpList_append_own _ rfl _ _ 22 rfl (W0.heap.size + 2) 24 i0 (.agg #[.int .i64 0, .int .i64 0]) 2 16 Tryz.underlying22 hi hz0 hz1 hz2 rfl (by decide) (.slice Bq wl cq) wl (spotCells wh) rfl (HOWN.out.alloc _) ⟨wm2.heap.size, 0, none⟩ 1 1 [.int .i64 x1, .int .i64 x2] rfl rfl (two_new _ _ _ _) ?c2 ?c3 ?c4 ?c5 ?_)
                      case c2 => intro u hu; simp at hu; rcases hu with rfl | rfl <;> rfl
                      case c3 => have := HW12.out; unfold maxLen; omega
                      case c4 => have := HW12.out; omega
                      case c5 => have := HP2.out.size; simp; omega
                      intro v' w6 hown' hgrow _
                      obtain ⟨Bz, cz, rfl⟩ := own_shape hown'
                      have hput := HP2.out.put (x := x1) (y := x2) (by dsimp only; rw [← HWL.out]; exact hown') hgrow
                      dsimp only at hput
                      obtain ⟨p4, p5, hp6⟩ := hput
                      have HP6 := Lib.hid hp6
                      clear hown' hgrow hp6 l0 l1 l2 l3 l4 f0 f1 f2 f3 f4 sz r0 r1 r2 r3 r4 r5 r6 g0 g1 g2 g3 g4 g5 g6
                      go_wp2
                      go_roundw
                      case rel => exact ⟨_, _, _, wh ++ [(x1, x2)], Bz, cz, by rw [List.length_append]; have := HW12.out; have := HWL.out; simp; omega, Lib.hid ⟨by rw [HX.out.1, HR0.out, HN1.out, HN2.out, List.length_append]; rfl, by rw [List.length_append, ← HWL.out]; exact HP6.out, HIn2.out⟩⟩
                      case measure =>
                        rw [HX.out.2.1.lenR, HP6.out.lenR]
                        have := HW12.out; have := HWL.out; omega
              · have hI2 : decide (Iq < len) = false := decide_eq_false hIl
                have HIL := Lib.hid hIl
                clear r0 r1 r2 r3 r4 r5 r6 g0 g1 g2 g3 g4 g5 g6
                obtain ⟨r0, r1, r2, r3, r4, r5, r6⟩ := rep_cells HPc.out.rep
                obtain ⟨g0, g1, g2, g3, g4, g5, g6⟩ := rep_free HPc.out.rep
                dsimp only at r0 r1 r2 r3 r4 r5 r6
                have HPz : Hid (PS W0 wr (.slice (some ⟨gp, 0, none⟩) len cap0) s.size ⟨⟨Iq, Aq, 0⟩, z1, z2, z3, z4m, wh, (-1), 0⟩ (.slice Bq wh.length cq)) := Lib.hid (by have := HPc.out; rw [HWL.out] at this; exact this)
                go_wp2_with fail
                go_meet
                exact ⟨_, _, _, _, _, _, Lib.hid ⟨by rw [HX.out.1, HFU.out, whereS, if_neg (fun h => h.2.elim (fun e => HW0.out e) (fun e => by unfold moreB at e; rw [decide_eq_false (show ¬ (⟨Iq, Aq, 0⟩ : Ln).I < ws.length by rw [← HLEN.out]; exact HIL.out)] at e; simp at e))], HPz.out, HX.out.2.2⟩⟩
          · have HE := Lib.hid hE
            have hE1 : ((Eq : Int) == 0) = false := by simpa using hE
            clear hE
            have hcells := HPc.out.cells
            dsimp only at hcells
            obtain ⟨⟨l0, l1, l2, l3, l4⟩, ⟨f0, f1, f2, f3, f4⟩, sz⟩ := hcells
            obtain ⟨r0, r1, r2, r3, r4, r5, r6⟩ := rep_cells HPc.out.rep
            obtain ⟨g0, g1, g2, g3, g4, g5, g6⟩ := rep_free HPc.out.rep
            dsimp only at r0 r1 r2 r3 r4 r5 r6
            go_wp2_with fail
            go_meet
            exact ⟨_, _, _, _, _, _, Lib.hid ⟨by rw [HX.out.1, HFU.out, whereS, if_neg (fun h => HE.out h.1)], HX.out.2.1, HX.out.2.2⟩⟩
      case rest =>
        clear HP HI
        obtain ⟨I6q, A6q, E6q, wh, B6, c6, HW⟩ := hcut
        obtain ⟨wl, hwl⟩ : ∃ wl, wl = wh.length := ⟨_, rfl⟩
        have HWL := Lib.hid hwl
        have HP : Hid (PS W0 wc (.slice (some ⟨gp, 0, none⟩) len cap0) s.size ⟨⟨I6q, A6q, E6q⟩, z1, z2, z3, z4m, wh, (-1), 0⟩ (.slice B6 wl c6)) := Lib.hid (by rw [hwl]; exact HW.out.2.1)
        have HI := Lib.hid HW.out.2.2
        have HWH := Lib.hid HW.out.1
        clear HW hwl
        have hcells := HP.out.cells
        dsimp only at hcells
        obtain ⟨⟨l0, l1, l2, l3, l4⟩, ⟨f0, f1, f2, f3, f4⟩, sz⟩ := hcells
        go_upto_region 18 with fail
        clear l0 l1 l2 l3 l4 f0 f1 f2 f3 f4 sz
        go_cut [112] (fun sc wx => ∃ m : Bool, sc = .bool m ∧ Hid (m = maybeS ws ⟨I6q, A6q, E6q⟩ soulsL ∧ PS W0 wx (.slice (some ⟨gp, 0, none⟩) len cap0) s.size ⟨⟨I6q, A6q, E6q⟩, z1, z2, z3, z4m, wh, (-1), 0⟩ (.slice B6 wl c6)))
        case first =>
          have hcells := HP.out.cells
          dsimp only at hcells
          obtain ⟨⟨l0, l1, l2, l3, l4⟩, ⟨f0, f1, f2, f3, f4⟩, sz⟩ := hcells
          by_cases hE : E6q = 0
          · have HE := Lib.hid hE
            have hE1 : ((E6q : Int) == 0) = true := by rw [hE]; rfl
            clear hE
            go_wp2_with fail
            refine (HK.out.is _ ⟨I6q, A6q, E6q⟩ ⟨#[115, 111, 117, 108, 115]⟩ HP.out.below).mono ?_
            rintro e w1 ⟨b, hb, rfl, hb1⟩
            have HPa := Lib.hid (HP.out.next hb1)
            have HBB : Hid (isS ws ⟨I6q, A6q, E6q⟩ soulsL = b) := Lib.hid hb
            clear hb hb1 l0 l1 l2 l3 l4 f0 f1 f2 f3 f4 sz
            go_wp2_with fail
            go_meet
            exact ⟨b, rfl, Lib.hid ⟨by unfold maybeS; rw [decide_eq_true HE.out, HBB.out]; rfl, HPa.out⟩⟩
          · have HE := Lib.hid hE
            have hE1 : ((E6q : Int) == 0) = false := by simpa using hE
            clear hE
            go_wp2_with fail
            go_meet
            exact ⟨false, rfl, Lib.hid ⟨by unfold maybeS; rw [decide_eq_false HE.out]; rfl, HP.out⟩⟩
        case rest =>
          clear HP
          obtain ⟨m, rfl, HM⟩ := hcut
          go_upto_if 112 with fail
          go_cut [] (fun wx => ∃ (Im Am : Nat) (Em : Int) (zm : Int), Hid (soR ws s.size ⟨⟨I6q, A6q, E6q⟩, z1, z2, z3, z4m, wh, (-1), 0⟩ = ⟨⟨Im, Am, Em⟩, z1, z2, z3, z4m, wh, zm, 0⟩ ∧ PS W0 wx (.slice (some ⟨gp, 0, none⟩) len cap0) s.size ⟨⟨Im, Am, Em⟩, z1, z2, z3, z4m, wh, zm, 0⟩ (.slice B6 wl c6) ∧ InL ws ⟨Im, Am, Em⟩))
          case first =>
            have HP := Lib.hid HM.out.2
            cases m with
            | false =>
              go_wp2_with fail
              go_meet
              exact ⟨_, _, _, _, Lib.hid ⟨by unfold soR; dsimp only; rw [← HM.out.1, if_neg (by decide)], HP.out, HI.out⟩⟩
            | true =>
              have hcells := HP.out.cells
              dsimp only at hcells
              obtain ⟨⟨l0, l1, l2, l3, l4⟩, ⟨f0, f1, f2, f3, f4⟩, sz⟩ := hcells
              go_wp2_with fail
              refine (HK.out.word _ ⟨I6q, A6q, E6q⟩ ⟨#[115, 111, 117, 108, 115]⟩ HP.out.below HI.out).mono ?_
              rintro e w1 ⟨⟨I6a, A6a, E6a⟩, hq1, rfl, hb1⟩
              have HQ1 : Hid (wordS ws s.size ⟨I6q, A6q, E6q⟩ soulsL = ⟨I6a, A6a, E6a⟩) := Lib.hid hq1
              have HPa := Lib.hid (HP.out.next hb1)
              have HIa : Hid (InL ws ⟨I6a, A6a, E6a⟩) := Lib.hid (by have := word_in (n := s.size) (u := soulsL) HI.out; rwa [HQ1.out] at this)
              clear hq1 hb1 l0 l1 l2 l3 l4 f0 f1 f2 f3 f4 sz
              have hcells := HPa.out.cells
              dsimp only at hcells
              obtain ⟨⟨l0, l1, l2, l3, l4⟩, ⟨f0, f1, f2, f3, f4⟩, sz⟩ := hcells
              go_wp2_with fail
              refine (HK.out.number _ ⟨I6a, A6a, E6a⟩ 0 10000 HPa.out.below HIa.out).mono ?_
              rintro e w2 ⟨⟨I6, A6, E6⟩, z6, hq2, rfl, hb2⟩
              have HPb := Lib.hid (HPa.out.next hb2)
              have HIb : Hid (InL ws ⟨I6, A6, E6⟩) := Lib.hid (by have := number_in (n := s.size) (lo := 0) (hi := 10000) HIa.out; rwa [hq2] at this)
              have HQ2 : Hid (numberS ws s.size ⟨I6a, A6a, E6a⟩ 0 10000 = (⟨I6, A6, E6⟩, z6)) := Lib.hid hq2
              clear hq2 hb2 l0 l1 l2 l3 l4 f0 f1 f2 f3 f4 sz
              have hcells := HPb.out.cells
              dsimp only at hcells
              obtain ⟨⟨l0, l1, l2, l3, l4⟩, ⟨f0, f1, f2, f3, f4⟩, sz⟩ := hcells
              obtain ⟨r0, r1, r2, r3, r4, r5, r6⟩ := rep_cells HPb.out.rep
              obtain ⟨g0, g1, g2, g3, g4, g5, g6⟩ := rep_free HPb.out.rep
              dsimp only at r0 r1 r2 r3 r4 r5 r6
              have HQ6 : Hid (soR ws s.size ⟨⟨I6q, A6q, E6q⟩, z1, z2, z3, z4m, wh, (-1), 0⟩ = ⟨⟨I6, A6, E6⟩, z1, z2, z3, z4m, wh, z6, 0⟩) := Lib.hid (by unfold soR; dsimp only; rw [← HM.out.1, if_pos rfl, HQ1.out, HQ2.out])
              have HP' : Hid (PS W0 ((((((w2.setCell ⟨W0.heap.size, 0, none⟩ (.slice (some ⟨gp, 0, none⟩) len cap0)).setCell ⟨W0.heap.size, 1, none⟩ (.int .i64 I6)).setCell ⟨W0.heap.size, 2, none⟩ (.int .i64 s.size)).setCell ⟨W0.heap.size, 3, none⟩ (.int .i64 A6)).setCell ⟨W0.heap.size, 4, none⟩ (.int .i64 E6)).setCell ⟨W0.heap.size + 1, 5, none⟩ (.int .i64 z6)) (.slice (some ⟨gp, 0, none⟩) len cap0) s.size ⟨⟨I6, A6, E6⟩, z1, z2, z3, z4m, wh, z6, 0⟩ (.slice B6 wl c6)) := Lib.hid ((HPb.out.setLine I6 A6 E6).set_souls z6)
              go_wp2_with fail
              go_meet
              exact ⟨_, _, _, _, Lib.hid ⟨HQ6.out, HP'.out, HIb.out⟩⟩
          case rest =>
            clear HM HI
            obtain ⟨I6m, A6m, E6m, z6m, HR⟩ := hcut
            have HP := Lib.hid HR.out.2.1
            have HI := Lib.hid HR.out.2.2
            have HQ6m := Lib.hid HR.out.1
            clear HR
            have hcells := HP.out.cells
            dsimp only at hcells
            obtain ⟨⟨l0, l1, l2, l3, l4⟩, ⟨f0, f1, f2, f3, f4⟩, sz⟩ := hcells
            go_wp2_with fail
            refine (HK.out.word _ ⟨I6m, A6m, E6m⟩ ⟨#[116, 114, 117, 115, 116]⟩ HP.out.below HI.out).mono ?_
            rintro e w1 ⟨⟨I7a, A7a, E7a⟩, hq1, rfl, hb1⟩
            have HQ1 : Hid (wordS ws s.size ⟨I6m, A6m, E6m⟩ trustL = ⟨I7a, A7a, E7a⟩) := Lib.hid hq1
            have HPa := Lib.hid (HP.out.next hb1)
            have HIa : Hid (InL ws ⟨I7a, A7a, E7a⟩) := Lib.hid (by have := word_in (n := s.size) (u := trustL) HI.out; rwa [HQ1.out] at this)
            clear hq1 hb1 l0 l1 l2 l3 l4 f0 f1 f2 f3 f4 sz
            have hcells := HPa.out.cells
            dsimp only at hcells
            obtain ⟨⟨l0, l1, l2, l3, l4⟩, ⟨f0, f1, f2, f3, f4⟩, sz⟩ := hcells
            go_wp2_with fail
            refine (HK.out.number _ ⟨I7a, A7a, E7a⟩ 0 1000 HPa.out.below HIa.out).mono ?_
            rintro e w2 ⟨⟨I7, A7, E7⟩, z7, hq2, rfl, hb2⟩
            have HPb := Lib.hid (HPa.out.next hb2)
            have HIb : Hid (InL ws ⟨I7, A7, E7⟩) := Lib.hid (by have := number_in (n := s.size) (lo := 0) (hi := 1000) HIa.out; rwa [hq2] at this)
            have HQ2 : Hid (numberS ws s.size ⟨I7a, A7a, E7a⟩ 0 1000 = (⟨I7, A7, E7⟩, z7)) := Lib.hid hq2
            clear hq2 hb2 l0 l1 l2 l3 l4 f0 f1 f2 f3 f4 sz
            have hcells := HPb.out.cells
            dsimp only at hcells
            obtain ⟨⟨l0, l1, l2, l3, l4⟩, ⟨f0, f1, f2, f3, f4⟩, sz⟩ := hcells
            obtain ⟨r0, r1, r2, r3, r4, r5, r6⟩ := rep_cells HPb.out.rep
            obtain ⟨g0, g1, g2, g3, g4, g5, g6⟩ := rep_free HPb.out.rep
            dsimp only at r0 r1 r2 r3 r4 r5 r6
            have HQ7 : Hid (trR ws s.size ⟨⟨I6m, A6m, E6m⟩, z1, z2, z3, z4m, wh, z6m, 0⟩ = ⟨⟨I7, A7, E7⟩, z1, z2, z3, z4m, wh, z6m, z7⟩) := Lib.hid (by unfold trR; dsimp only; rw [HQ1.out, HQ2.out])
            have CtrR := HQ7
            go_upto_region 21 with fail
            have HP' : Hid (PS W0 ((((((w2.setCell ⟨W0.heap.size, 0, none⟩ (.slice (some ⟨gp, 0, none⟩) len cap0)).setCell ⟨W0.heap.size, 1, none⟩ (.int .i64 I7)).setCell ⟨W0.heap.size, 2, none⟩ (.int .i64 s.size)).setCell ⟨W0.heap.size, 3, none⟩ (.int .i64 A7)).setCell ⟨W0.heap.size, 4, none⟩ (.int .i64 E7)).setCell ⟨W0.heap.size + 1, 6, none⟩ (.int .i64 z7)) (.slice (some ⟨gp, 0, none⟩) len cap0) s.size ⟨⟨I7, A7, E7⟩, z1, z2, z3, z4m, wh, z6m, z7⟩ (.slice B6 wl c6)) := Lib.hid ((HPb.out.setLine I7 A7 E7).set_trust z7)
            clear l0 l1 l2 l3 l4 f0 f1 f2 f3 f4 sz r0 r1 r2 r3 r4 r5 r6 g0 g1 g2 g3 g4 g5 g6
            obtain ⟨w3, hw3⟩ : ∃ w3, w3 = ((((((w2.setCell ⟨W0.heap.size, 0, none⟩ (.slice (some ⟨gp, 0, none⟩) len cap0)).setCell ⟨W0.heap.size, 1, none⟩ (.int .i64 I7)).setCell ⟨W0.heap.size, 2, none⟩ (.int .i64 s.size)).setCell ⟨W0.heap.size, 3, none⟩ (.int .i64 A7)).setCell ⟨W0.heap.size, 4, none⟩ (.int .i64 E7)).setCell ⟨W0.heap.size + 1, 6, none⟩ (.int .i64 z7)) := ⟨_, rfl⟩
            rw [← hw3] at HP' ⊢
            clear hw3 HPb HPa HIa HQ1 HQ2 HP HI
            have HP := HP'
            have HI := HIb
            clear HP' HIb
            have hcells := HP.out.cells
            dsimp only at hcells
            obtain ⟨⟨l0, l1, l2, l3, l4⟩, ⟨f0, f1, f2, f3, f4⟩, sz⟩ := hcells
            go_upto_if 132 with fail
            clear l0 l1 l2 l3 l4 f0 f1 f2 f3 f4 sz
            go_cut [] (fun wx => ∃ (Ie Ae : Nat) (Ee : Int), Hid (enR ws s.size ⟨⟨I7, A7, E7⟩, z1, z2, z3, z4m, wh, z6m, z7⟩ = ⟨⟨Ie, Ae, Ee⟩, z1, z2, z3, z4m, wh, z6m, z7⟩ ∧ PS W0 wx (.slice (some ⟨gp, 0, none⟩) len cap0) s.size ⟨⟨Ie, Ae, Ee⟩, z1, z2, z3, z4m, wh, z6m, z7⟩ (.slice B6 wl c6) ∧ InL ws ⟨Ie, Ae, Ee⟩))
            case first =>
              by_cases hIl : I7 < len
              · have HIL := Lib.hid hIl
                have hcells := HP.out.cells
                dsimp only at hcells
                obtain ⟨⟨l0, l1, l2, l3, l4⟩, ⟨f0, f1, f2, f3, f4⟩, sz⟩ := hcells
                go_wp2_with fail
                refine (HK.out.fail _ ⟨I7, A7, E7⟩ 5 HP.out.below).mono ?_
                rintro e w5 ⟨⟨Jf, Af, Ef⟩, hq, rfl, hb⟩
                have HPa := Lib.hid (HP.out.next hb)
                have HQF : Hid (failS ws s.size ⟨I7, A7, E7⟩ 5 = ⟨Jf, Af, Ef⟩) := Lib.hid hq
                have HIF : Hid (InL ws ⟨Jf, Af, Ef⟩) := Lib.hid (by have := fail_in (n := s.size) (e := 5) HI.out; rwa [hq] at this)
                clear hq hb l0 l1 l2 l3 l4 f0 f1 f2 f3 f4 sz
                have hcells := HPa.out.cells
                dsimp only at hcells
                obtain ⟨⟨l0, l1, l2, l3, l4⟩, ⟨f0, f1, f2, f3, f4⟩, sz⟩ := hcells
                have HP' := Lib.hid (HPa.out.setLine Jf Af Ef)
                go_wp2_with fail
                go_meet
                exact ⟨_, _, _, Lib.hid ⟨by unfold enR; dsimp only; rw [if_pos (by rw [← HLEN.out]; exact HIL.out), HQF.out], HP'.out, HIF.out⟩⟩
              · have HIL := Lib.hid hIl
                have hI2 : decide ((I7 : Int) < (len : Int)) = false := decide_eq_false (by omega)
                go_wp2_with fail
                go_meet
                exact ⟨_, _, _, Lib.hid ⟨by unfold enR; dsimp only; rw [if_neg (by rw [← HLEN.out]; exact HIL.out)], HP.out, HI.out⟩⟩
            case rest =>
              clear HP HI
              obtain ⟨I8, A8, E8, HR⟩ := hcut
              have HP := Lib.hid HR.out.2.1
              have HI := Lib.hid HR.out.2.2
              have HQ8 := Lib.hid HR.out.1
              clear HR
              have HSM : Hid (z3.length ≤ 300 ∧ z4m.length ≤ 300 ∧ wh.length ≤ 14) := Lib.hid (by
                refine ⟨?_, ?_, ?_⟩
                · have h1 : (srR ws s.size _).src = z3 := congrArg Rd.src HQ3.out
                  rw [← h1]; exact name_small HTK.out
                · have h1 : (abR ws s.size _).abt = z4m := congrArg Rd.abt HQ4m.out
                  rw [← h1]
                  unfold abR
                  split
                  · exact name_small HTK.out
                  · exact Nat.zero_le _
                · have h1 : (whereS ws s.size 14 _ []).2 = wh := congrArg Prod.snd HWH.out
                  rw [← h1]; exact where_small 14 _ [])
              have HCK : Hid (∀ W, PS W0 W (.slice (some ⟨gp, 0, none⟩) len cap0) s.size ⟨⟨I8, A8, E8⟩, z1, z2, z3, z4m, wh, z6m, z7⟩ (.slice B6 wl c6) → Calls Tryz.prog 17 #[repA z1 z2 ⟨z3.toArray⟩ ⟨z4m.toArray⟩ (.slice B6 wl c6) z6m z7] W fun e w' => e = .returned (.bool (checkB ⟨0, z1, z2, ⟨z3.toArray⟩, ⟨z4m.toArray⟩, z6m, z7⟩ (areaB wh))) ∧ Below W.heap.size W w') := Lib.hid fun W hW => by
                have hAr : Area W (.slice B6 wh.length c6) wh := by
                  have := Area.of_own (l := wh) (by have := hW.own; exact this)
                  rwa [HWL.out] at this
                rw [HWL.out]
                exact refCheckReport_any ⟨0, z1, z2, ⟨z3.toArray⟩, ⟨z4m.toArray⟩, z6m, z7⟩ B6 wh.length c6 W (areaB wh) (fun X hX => by
                  rw [area_same]; exact refCheckArea_any B6 c6 wh X (hAr.below hX) (by have := HSM.out.2.2; omega)) (by show ByteArray.size ⟨z4m.toArray⟩ ≤ _; rw [Lib.size_eq]; have := HSM.out.2.1; show z4m.length ≤ _; omega) (by show ByteArray.size ⟨z3.toArray⟩ ≤ _; rw [Lib.size_eq]; have := HSM.out.1; show z3.length ≤ _; omega)
              obtain ⟨ck, hck⟩ : ∃ ck, ck = checkB ⟨0, z1, z2, ⟨z3.toArray⟩, ⟨z4m.toArray⟩, z6m, z7⟩ (areaB wh) := ⟨_, rfl⟩
              rw [← hck] at HCK
              have HCB := Lib.hid hck
              clear hck
              have hcells := HP.out.cells
              dsimp only at hcells
              obtain ⟨⟨l0, l1, l2, l3, l4⟩, ⟨f0, f1, f2, f3, f4⟩, sz⟩ := hcells
              go_upto_region 23 with fail
              clear l0 l1 l2 l3 l4 f0 f1 f2 f3 f4 sz
              go_cut [142] (fun sc wx => ∃ m : Bool, sc = .bool m ∧ Hid (m = (decide (E8 = 0) && !ck) ∧ PS W0 wx (.slice (some ⟨gp, 0, none⟩) len cap0) s.size ⟨⟨I8, A8, E8⟩, z1, z2, z3, z4m, wh, z6m, z7⟩ (.slice B6 wl c6)))
              case first =>
                have hcells := HP.out.cells
                dsimp only at hcells
                obtain ⟨⟨l0, l1, l2, l3, l4⟩, ⟨f0, f1, f2, f3, f4⟩, sz⟩ := hcells
                obtain ⟨r0, r1, r2, r3, r4, r5, r6⟩ := rep_cells HP.out.rep
                obtain ⟨g0, g1, g2, g3, g4, g5, g6⟩ := rep_free HP.out.rep
                dsimp only at r0 r1 r2 r3 r4 r5 r6
                by_cases hE : E8 = 0
                · have HE := Lib.hid hE
                  have hE1 : ((E8 : Int) == 0) = true := by rw [hE]; rfl
                  clear hE
                  go_wp2_with fail
                  refine (HCK.out _ HP.out).mono ?_
                  rintro e w1 ⟨rfl, hb1⟩
                  have HPa := Lib.hid (HP.out.next hb1)
                  clear hb1 l0 l1 l2 l3 l4 f0 f1 f2 f3 f4 sz r0 r1 r2 r3 r4 r5 r6 g0 g1 g2 g3 g4 g5 g6
                  go_wp2_with fail
                  go_meet
                  exact ⟨_, rfl, Lib.hid ⟨by rw [decide_eq_true HE.out]; rfl, HPa.out⟩⟩
                · have HE := Lib.hid hE
                  have hE1 : ((E8 : Int) == 0) = false := by simpa using hE
                  clear hE
                  go_wp2_with fail
                  go_meet
                  exact ⟨false, rfl, Lib.hid ⟨by rw [decide_eq_false HE.out]; rfl, HP.out⟩⟩
              case rest =>
                clear HP
                obtain ⟨m, rfl, HM⟩ := hcut
                go_upto_if 142 with fail
                go_cut [] (fun wx => ∃ (Ie Ae : Nat) (Ee : Int), Hid (ckR ws s.size areaB ⟨⟨I8, A8, E8⟩, z1, z2, z3, z4m, wh, z6m, z7⟩ = ⟨⟨Ie, Ae, Ee⟩, z1, z2, z3, z4m, wh, z6m, z7⟩ ∧ PS W0 wx (.slice (some ⟨gp, 0, none⟩) len cap0) s.size ⟨⟨Ie, Ae, Ee⟩, z1, z2, z3, z4m, wh, z6m, z7⟩ (.slice B6 wl c6)))
                case first =>
                  have HP := Lib.hid HM.out.2
                  have HCR := Lib.hid (ck_chain (ws := ws) (n := s.size) (q := areaB) (I := I8) (A := A8) (E := E8) (z1 := z1) (z2 := z2) (z3 := z3) (z4 := z4m) (wh := wh) (z6 := z6m) (z7 := z7) HM.out.1 HCB.out)
                  cases m with
                  | false =>
                    go_wp2_with fail
                    go_meet
                    exact ⟨I8, A8, E8, Lib.hid ⟨HCR.out.2 (by trivial), HP.out⟩⟩
                  | true =>
                    have hcells := HP.out.cells
                    dsimp only at hcells
                    obtain ⟨⟨l0, l1, l2, l3, l4⟩, ⟨f0, f1, f2, f3, f4⟩, sz⟩ := hcells
                    go_wp2_with fail
                    refine (HK.out.fail _ ⟨I8, A8, E8⟩ 2 HP.out.below).mono ?_
                    rintro e w5 ⟨⟨Jf, Af, Ef⟩, hq, rfl, hb⟩
                    have HPa := Lib.hid (HP.out.next hb)
                    have HQF : Hid (failS ws s.size ⟨I8, A8, E8⟩ 2 = ⟨Jf, Af, Ef⟩) := Lib.hid hq
                    clear hq hb l0 l1 l2 l3 l4 f0 f1 f2 f3 f4 sz
                    have hcells := HPa.out.cells
                    dsimp only at hcells
                    obtain ⟨⟨l0, l1, l2, l3, l4⟩, ⟨f0, f1, f2, f3, f4⟩, sz⟩ := hcells
                    have HP' := Lib.hid (HPa.out.setLine Jf Af Ef)
                    go_wp2_with fail
                    go_meet
                    exact ⟨Jf, Af, Ef, Lib.hid ⟨(HCR.out.1 (by trivial)).trans (by rw [HQF.out]), HP'.out⟩⟩
                case rest =>
                  clear HM HI
                  obtain ⟨I9, A9, E9, HR⟩ := hcut
                  have HP := Lib.hid HR.out.2
                  have HQ9 := Lib.hid HR.out.1
                  clear HR
                  have HRD : Hid (readS ws s.size areaB = ⟨⟨I9, A9, E9⟩, z1, z2, z3, z4m, wh, z6m, z7⟩) := Lib.hid (by
                    have hw : whR ws s.size ⟨⟨I4m, A4m, E4m⟩, z1, z2, z3, z4m, [], (-1), 0⟩ = ⟨⟨I6q, A6q, E6q⟩, z1, z2, z3, z4m, wh, (-1), 0⟩ := wh_chain rfl HQI.out HWH.out
                    exact read_chain CkdR.out CtmR.out CsrR.out HQ4m.out hw HQ6m.out CtrR.out HQ8.out HQ9.out)
                  have HRES : Hid (∀ W, Below W0.heap.size W0 W → W.heap[w.heap.size]? = some repNo) := Lib.hid fun W hW => stay (stay (heap_alloc_new _ _) HB0.out) hW
                  have HLT : Hid (w.heap.size < W0.heap.size) := Lib.hid (by have := HB0.out.size; rw [World.size_alloc] at this; omega)
                  have HBW : Hid (Below w.heap.size w W0) := Lib.hid ((new_below _ _).trans (HB0.out.mono (new_below _ _).size))
                  have hcells := HP.out.cells
                  dsimp only at hcells
                  obtain ⟨⟨l0, l1, l2, l3, l4⟩, ⟨f0, f1, f2, f3, f4⟩, sz⟩ := hcells
                  obtain ⟨r0, r1, r2, r3, r4, r5, r6⟩ := rep_cells HP.out.rep
                  obtain ⟨g0, g1, g2, g3, g4, g5, g6⟩ := rep_free HP.out.rep
                  dsimp only at r0 r1 r2 r3 r4 r5 r6
                  obtain ⟨q0, q1, q2, q3, q4, q5, q6⟩ := rep_cells (HRES.out _ HP.out.below)
                  obtain ⟨h0, h1, h2, h3, h4, h5, h6⟩ := rep_free (HRES.out _ HP.out.below)
                  have hn0 : w.heap.size ≠ W0.heap.size := Nat.ne_of_lt HLT.out
                  have hn1 : w.heap.size ≠ W0.heap.size + 1 := by have := HLT.out; omega
                  have HRP2 := HRP.out
                  rw [HRD.out] at HRP2
                  dsimp only at HRP2
                  have HRQ := Lib.hid HRP2
                  clear HRP2 HRP
                  have HB6 : Hid (w.heap.size < W0.heap.size + 2) := Lib.hid (by have := HLT.out; omega)
                  have HBC : Hid (Below w.heap.size w wc) := Lib.hid (HBW.out.trans (HP.out.below.mono (Nat.le_of_lt HLT.out)))
                  by_cases hE : E9 = 0
                  · have HE := Lib.hid hE
                    have hE1 : ((E9 : Int) != 0) = false := by rw [hE]; rfl
                    clear hE
                    obtain ⟨WF, hWF, hF⟩ := fin7 (HRES.out _ HP.out.below) HP.out.own HB6.out HBC.out (.int .i64 z1) (.int .i64 z2) (.string ⟨z3.toArray⟩) (.string ⟨z4m.toArray⟩) (.slice B6 wl c6) (.int .i64 z6m) (.int .i64 z7)
                    have HF := Lib.hid hF
                    have HWF := Lib.hid hWF
                    clear hF hWF
                    go_wp2
                    rw [← HWF.out]
                    obtain ⟨⟨cc0, cc1, cc2, cc3, cc4, cc5, cc6⟩, ho, hb⟩ := HF.out
                    refine bodyPost_ret (v := .tuple #[repA z1 z2 ⟨z3.toArray⟩ ⟨z4m.toArray⟩ (.slice B6 wl c6) z6m z7, .int .i64 0, .int .i64 0]) (by simp [results, Tryz.results21, go_sem, cc0, cc1, cc2, cc3, cc4, cc5, cc6]) rfl (HRQ.out _ _ (Or.inl ⟨HE.out, B6, c6, by rw [HWL.out], ?_, hb⟩))
                    have hA := Area.of_own (l := wh) (by have := ho; exact this)
                    rw [HWL.out] at hA
                    exact hA
                  · have HE := Lib.hid hE
                    have hE1 : ((E9 : Int) != 0) = true := by simpa using hE
                    clear hE r0 r1 r2 r3 r4 r5 r6 g0 g1 g2 g3 g4 g5 g6
                    obtain ⟨WF, hWF, hF⟩ := fin7 (HRES.out _ HP.out.below) HP.out.own HB6.out HBC.out (.int .i64 0) (.int .i64 0) (.string ⟨#[]⟩) (.string ⟨#[]⟩) (.slice none 0 0) (.int .i64 0) (.int .i64 0)
                    have HF := Lib.hid hF
                    have HWF := Lib.hid hWF
                    clear hF hWF
                    go_upto_region 26 with fail
                    go_region
                    all_goals
                      go_wp2
                      rw [← HWF.out]
                      obtain ⟨⟨cc0, cc1, cc2, cc3, cc4, cc5, cc6⟩, ho, hb⟩ := HF.out
                      refine bodyPost_ret (v := .tuple #[repZ, .int .i64 A9, .int .i64 E9]) (by simp [results, Tryz.results21, go_sem, repZ, cc0, cc1, cc2, cc3, cc4, cc5, cc6]) rfl (HRQ.out _ _ (Or.inr ⟨HE.out, rfl, hb.drew⟩))
end Go.Proofs.YtjcaaejfokmolaaGreatDoor
/- The law of readings: both Parse answer alike, and what was read has the string as its line. -/
namespace Go.Proofs.YtjcaaejfokmolaaGreatDoor
open Go.RowKit

theorem put7 {w1 w : World} (hb : Below w.heap.size w w1) (d0 d1 d2 d3 d4 d5 d6 : Value) :
    ∃ WF, WF = w1.alloc (.cells #[d0, d1, d2, d3, d4, d5, d6] 29) ∧
      WF.heap[w1.heap.size]? = some (.cells #[d0, d1, d2, d3, d4, d5, d6] 29 (0, 0)) ∧ Below w1.heap.size w1 WF ∧ Below w.heap.size w WF :=
  ⟨_, rfl, heap_alloc_new _ _, new_below _ _, hb.alloc hb.size _⟩

theorem checked_small {k t so tr : Int} {src abt : ByteArray} {q : Bool} (hc : checkB ⟨0, k, t, src, abt, so, tr⟩ q = true) : src.size ≤ 1000 ∧ abt.size ≤ 1000 := by
  obtain ⟨-, -, h3, h4, -⟩ := check_parts hc
  have h3 : nameL src.data.toList = true := h3
  have h4 : aboutB k abt.data.toList = true := h4
  have hn : ∀ l : List UInt8, nameL l = true → l.length ≤ 32 := fun l h => by
    unfold nameL at h
    simp only [Bool.and_eq_true, decide_eq_true_eq] at h
    exact h.1.1.2
  refine ⟨by have := hn _ h3; rw [Lib.size_eq]; omega, ?_⟩
  simp only [aboutB] at h4
  split at h4
  · rename_i he; rw [Lib.size_eq, he]; simp
  · have := hn _ h4; rw [Lib.size_eq]; omega

set_option maxRecDepth 100000 in
set_option maxHeartbeats 8000000 in
theorem reads_law (m0 : Int) (s : ByteArray) (w : World) (hE : Env m0 w) (ht : Tab w) (hmax : s.size ≤ 9223372036854775807) :
    Calls Tryz.prog 5 #[.string s] w fun e w' => e = .returned (.bool true) ∧ Below w.heap.size w w' := by
  have HAW : Hid (∀ W, Below w.heap.size w W → Calls Tryz.prog 9 #[] W fun e w' => e = .returned (.bool true) ∧ Below W.heap.size W w') := Lib.hid fun W hW => awake_any m0 W (hE.below hW)
  by_cases hlong : (400 : Int) < (s.size : Int)
  · clear hmax
    go_enter Tryz.func5, Tryz.ntmps5
    go_wp2_with fail
    refine (HAW.out _ (Below.refl _ _)).mono ?_
    rintro e w1 ⟨rfl, hb1⟩
    have HZ := Lib.hid hb1
    clear hb1
    go_wp2
    go_ret
    exact ⟨rfl, HZ.out⟩
  · obtain ⟨k, t, so, tr, src, abt, l, a, er, hR⟩ := both_read m0 s _ rfl (fun hs W => (refParse_walk s W hs).mono fun e w' h => h)
    obtain ⟨n, hn⟩ : ∃ n, n = l.length := ⟨_, rfl⟩
    have HN := Lib.hid hn
    have HPC : Hid (∀ W, Below w.heap.size w W → Calls Tryz.prog 19 #[.string s] W fun e w' => ∃ A cap, e = .returned (.tuple #[repA k t src abt (.slice A n cap) so tr, .int .i64 a, .int .i64 er]) ∧ Area w' (.slice A l.length cap) l ∧ Below W.heap.size W w') := Lib.hid fun W hW => by rw [hn]; exact hR.code W (hE.below hW)
    have HRP : Hid (∀ W, Calls Tryz.prog 21 #[.string s] W fun e w' => ∃ A cap, e = .returned (.tuple #[repA k t src abt (.slice A n cap) so tr, .int .i64 a, .int .i64 er]) ∧ Area w' (.slice A l.length cap) l ∧ Below W.heap.size W w') := Lib.hid fun W => by rw [hn]; exact hR.ref W
    have HAL : Hid (∀ W A1 A2 c1 c2, Area W (.slice A1 l.length c1) l → Area W (.slice A2 l.length c2) l → Calls Tryz.prog 20 #[repA k t src abt (.slice A1 n c1) so tr, repA k t src abt (.slice A2 n c2) so tr] W fun e w' => e = .returned (.bool true) ∧ Below W.heap.size W w') := Lib.hid fun W A1 A2 c1 c2 h1 h2 => by rw [hn]; exact refAlike_any k t so tr src abt A1 A2 c1 c2 l W h1 h2 hR.len
    have HPR : Hid (er = 0 → ∀ W A c, Below w.heap.size w W → Area W (.slice A l.length c) l → Calls Tryz.prog 15 #[repA k t src abt (.slice A n c) so tr] W fun e w' => e = .returned (.string s) ∧ Below W.heap.size W w') := Lib.hid fun he W A c hW hA => by
      obtain ⟨h1, h2⟩ := hR.line he
      obtain ⟨h3, h4⟩ := checked_small h2
      have := Print_fine (s := ⟨0, k, t, src, abt, so, tr⟩) ⟨hA, h3, h4, by have := hR.len; omega⟩ (hE.below hW) (ht.below hW)
      rw [h1] at this
      rw [hn]
      exact this
    clear hR hE ht hn hmax
    by_cases hz : er = 0
    · have HP0 := Lib.hid (HPR.out hz)
      clear HPR
      subst hz
      go_enter Tryz.func5, Tryz.ntmps5
      go_wp2_with fail
      refine (HPC.out _ (Below.refl _ _)).mono ?_
      rintro e w1 ⟨A1, c1, rfl, hA1, hb1⟩
      obtain ⟨W1, hW1, h1r, h1b, h1w⟩ := put7 hb1 (.int .i64 k) (.int .i64 t) (.string src) (.string abt) (.slice A1 n c1) (.int .i64 so) (.int .i64 tr)
      have HA1 := Lib.hid hA1
      have HW1 := Lib.hid hW1
      have H1 := Lib.hid (And.intro h1r (And.intro h1b h1w))
      clear hA1 hW1 h1r h1b h1w hb1 HPC
      go_wp2_with fail
      rw [← HW1.out]
      refine (HRP.out _).mono ?_
      rintro e w2 ⟨A2, c2, rfl, hA2, hb2⟩
      obtain ⟨W2, hW2, h2r, h2b, h2w⟩ := put7 (below_chain H1.out.2.2 hb2) (.int .i64 k) (.int .i64 t) (.string src) (.string abt) (.slice A2 n c2) (.int .i64 so) (.int .i64 tr)
      have HA2 := Lib.hid hA2
      have HW2 := Lib.hid hW2
      have H2 := Lib.hid (And.intro h2r (And.intro h2b (And.intro h2w hb2)))
      have hlt1 : w1.heap.size < w2.heap.size := Nat.lt_of_lt_of_le (Array.getElem?_eq_some_iff.1 H1.out.1).1 hb2.size
      have HR1 : Hid (W2.heap[w1.heap.size]? = some (.cells #[.int .i64 k, .int .i64 t, .string src, .string abt, .slice A1 n c1, .int .i64 so, .int .i64 tr] 29 (0, 0))) := Lib.hid (stay (stay H1.out.1 hb2) h2b)
      have HAA : Hid (Area W2 (.slice A1 l.length c1) l ∧ Area W2 (.slice A2 l.length c2) l) := Lib.hid ⟨((HA1.out.below H1.out.2.1).below hb2).below h2b, HA2.out.below h2b⟩
      have HLT := Lib.hid hlt1
      clear hA2 hW2 h2r h2b h2w hb2 HRP hlt1 HA1 HA2 H1
      go_upto_region 5 with fail
      rw [← HW2.out]
      obtain ⟨y0, y1, y2, y3, y4, y5, y6⟩ := rep_cells HR1.out
      obtain ⟨z0, z1, z2, z3, z4, z5, z6⟩ := rep_cells H2.out.1
      go_wp2_with fail
      refine (HAL.out _ _ _ _ _ HAA.out.1 HAA.out.2).mono ?_
      rintro e w3 ⟨rfl, hb3⟩
      have HR3 : Hid (w3.heap[w1.heap.size]? = some (.cells #[.int .i64 k, .int .i64 t, .string src, .string abt, .slice A1 n c1, .int .i64 so, .int .i64 tr] 29 (0, 0)) ∧ Area w3 (.slice A1 l.length c1) l ∧ Below w.heap.size w w3) := Lib.hid ⟨stay HR1.out hb3, HAA.out.1.below hb3, below_chain H2.out.2.2.1 hb3⟩
      clear y0 y1 y2 y3 y4 y5 y6 z0 z1 z2 z3 z4 z5 z6 hb3 HR1 HAA H2
      obtain ⟨y0, y1, y2, y3, y4, y5, y6⟩ := rep_cells HR3.out.1
      go_wp2_with fail
      refine (HP0.out _ _ _ HR3.out.2.2 HR3.out.2.1).mono ?_
      rintro e w4 ⟨rfl, hb4⟩
      have HB4 := Lib.hid (below_chain HR3.out.2.2 hb4)
      clear y0 y1 y2 y3 y4 y5 y6 hb4
      go_wp2_with fail
      refine (HAW.out _ HB4.out).mono ?_
      rintro e w5 ⟨rfl, hb5⟩
      have HZ := Lib.hid (below_chain HB4.out hb5)
      clear hb5
      go_wp2
      go_ret
      exact ⟨rfl, HZ.out⟩
    · have hz1 : ((er : Int) == 0) = false := by simpa using hz
      have hz2 : ((er : Int) != 0) = true := by simpa using hz
      clear HPR hz
      go_enter Tryz.func5, Tryz.ntmps5
      go_wp2_with fail
      refine (HPC.out _ (Below.refl _ _)).mono ?_
      rintro e w1 ⟨A1, c1, rfl, hA1, hb1⟩
      obtain ⟨W1, hW1, h1r, h1b, h1w⟩ := put7 hb1 (.int .i64 k) (.int .i64 t) (.string src) (.string abt) (.slice A1 n c1) (.int .i64 so) (.int .i64 tr)
      have HA1 := Lib.hid hA1
      have HW1 := Lib.hid hW1
      have H1 := Lib.hid (And.intro h1r (And.intro h1b h1w))
      clear hA1 hW1 h1r h1b h1w hb1 HPC
      go_wp2_with fail
      rw [← HW1.out]
      refine (HRP.out _).mono ?_
      rintro e w2 ⟨A2, c2, rfl, hA2, hb2⟩
      obtain ⟨W2, hW2, h2r, h2b, h2w⟩ := put7 (below_chain H1.out.2.2 hb2) (.int .i64 k) (.int .i64 t) (.string src) (.string abt) (.slice A2 n c2) (.int .i64 so) (.int .i64 tr)
      have HA2 := Lib.hid hA2
      have HW2 := Lib.hid hW2
      have H2 := Lib.hid (And.intro h2r (And.intro h2b (And.intro h2w hb2)))
      have hlt1 : w1.heap.size < w2.heap.size := Nat.lt_of_lt_of_le (Array.getElem?_eq_some_iff.1 H1.out.1).1 hb2.size
      have HR1 : Hid (W2.heap[w1.heap.size]? = some (.cells #[.int .i64 k, .int .i64 t, .string src, .string abt, .slice A1 n c1, .int .i64 so, .int .i64 tr] 29 (0, 0))) := Lib.hid (stay (stay H1.out.1 hb2) h2b)
      have HAA : Hid (Area W2 (.slice A1 l.length c1) l ∧ Area W2 (.slice A2 l.length c2) l) := Lib.hid ⟨((HA1.out.below H1.out.2.1).below hb2).below h2b, HA2.out.below h2b⟩
      clear hA2 hW2 h2r h2b h2w hb2 HRP hlt1 HA1 HA2 H1
      go_upto_region 5 with fail
      rw [← HW2.out]
      obtain ⟨y0, y1, y2, y3, y4, y5, y6⟩ := rep_cells HR1.out
      obtain ⟨z0, z1, z2, z3, z4, z5, z6⟩ := rep_cells H2.out.1
      go_wp2_with fail
      refine (HAL.out _ _ _ _ _ HAA.out.1 HAA.out.2).mono ?_
      rintro e w3 ⟨rfl, hb3⟩
      have HB3 := Lib.hid (below_chain H2.out.2.2.1 hb3)
      clear y0 y1 y2 y3 y4 y5 y6 z0 z1 z2 z3 z4 z5 z6 hb3 HR1 HAA H2
      go_wp2_with fail
      refine (HAW.out _ HB3.out).mono ?_
      rintro e w4 ⟨rfl, hb4⟩
      have HZ := Lib.hid (below_chain HB3.out hb4)
      clear hb4
      go_wp2
      go_ret
      exact ⟨rfl, HZ.out⟩
end Go.Proofs.YtjcaaejfokmolaaGreatDoor
