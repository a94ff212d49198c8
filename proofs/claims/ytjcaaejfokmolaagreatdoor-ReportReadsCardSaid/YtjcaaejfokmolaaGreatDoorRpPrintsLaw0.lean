/- Several parts: Parse of any line, its area checked as it is. Print of a report that is not valid; what two reports are to each other. Print at every report; its line is read as it. The law of prints. -/
import Derived.Test.YtjcaaejfokmolaaGreatDoorRpTokMid
import Derived.Test.YtjcaaejfokmolaaGreatDoorRpParse
import Derived.Test.YtjcaaejfokmolaaGreatDoorRpConvA
import Derived.Test.YtjcaaejfokmolaaGreatDoorRpPrint0
import Derived.Test.YtjcaaejfokmolaaGreatDoorRpPrintRef
import Derived.Test.YtjcaaejfokmolaaGreatDoorRpSgAlike
import Derived.Test.YtjcaaejfokmolaaGreatDoorRpAwake2
/- Parse of any line, its area checked as it is. -/
namespace Go.Proofs.YtjcaaejfokmolaaGreatDoor
open Go.RowKit

def RdSmall (r : Rd) : Prop := r.src.length ≤ 300 ∧ r.abt.length ≤ 300 ∧ r.wh.length ≤ 14
theorem name_small {ws n} {p : Ln} (h : ∀ i, (tok ws i).length ≤ 300) : (nameS ws n p).2.length ≤ 300 := by
  unfold nameS
  split
  · exact h _
  · exact Nat.zero_le _
theorem where_small {ws n} : ∀ (f : Nat) (p : Ln) (l : List (Int × Int)), (whereS ws n f p l).2.length ≤ l.length + f
  | 0, p, l => Nat.le_refl _
  | f + 1, p, l => by
    unfold whereS
    split
    · split
      · dsimp only; omega
      · refine Nat.le_trans (where_small f _ _) ?_
        rw [List.length_append]; simp; omega
    · dsimp only; omega
theorem goOn_same {ws t} (h : Fit ws t) : RelR ws (goOn t 7 s0) (trR ws t.size (soR ws t.size (whR ws t.size (abR ws t.size (srR ws t.size (tmR ws t.size (kdR ws t.size r0))))))) := by
  have e0 : goOn t 7 s0 = thenE (thenE (thenE (thenE (thenE (thenE (secL t 0 s0) (secL t 1)) (secL t 2)) (secL t 3)) (secL t 4)) (secL t 5)) (secL t 6) := by
    have e1 : ∀ x, thenE x (goOn t 0) = x := by intro x; cases x <;> rfl
    show thenE (secL t 0 s0) (fun s => thenE (secL t 1 s) (fun s => thenE (secL t 2 s) (fun s => thenE (secL t 3 s) (fun s => thenE (secL t 4 s) (fun s => thenE (secL t 5 s) (fun s => thenE (secL t 6 s) (goOn t 0))))))) = _
    simp only [e1, then_assoc]
  rw [e0]
  have R0 : RelR ws (secL t 0 s0) (kdR ws t.size r0) := rel_kind h (p := ⟨0, 0, 0⟩) rfl (Nat.zero_le _) s0 rfl
  have W0 : (kdR ws t.size r0).wh = [] := rfl
  generalize kdR ws t.size r0 = a0 at R0 W0 ⊢
  have R1 := rel_step (r' := tmR ws t.size a0) (secL t 1) R0 (fun hE => by unfold tmR; rw [word_old hE, number_old hE]) (fun hE hI => rel_word h hE hI (by decide) _ _ rfl (fun p => (numberS ws t.size p 0 1073741824).1) (fun p => ({ a0.st 0 with time := (numberS ws t.size p 0 1073741824).2 }, a0.wh)) (fun p hp => by rw [number_old hp]) (fun p hp hpI => rel_num h hp hpI _ _ _ (fun _ _ _ => rfl) _ rfl))
  have W1 : (tmR ws t.size a0).wh = [] := W0
  generalize tmR ws t.size a0 = a1 at R1 W1 ⊢
  have R2 := rel_step (r' := srR ws t.size a1) (secL t 2) R1 (fun hE => by unfold srR; rw [word_old hE, name_old hE]) (fun hE hI => rel_word h hE hI (by decide) _ _ rfl (fun p => (nameS ws t.size p).1) (fun p => ({ a1.st 0 with src := ⟨(nameS ws t.size p).2.toArray⟩ }, a1.wh)) (fun p hp => by rw [name_old hp]) (fun p hp hpI => rel_name h hp hpI _ (fun _ _ _ => rfl) _ rfl))
  have W2 : (srR ws t.size a1).wh = [] := W1
  generalize srR ws t.size a1 = a2 at R2 W2 ⊢
  have R3 := rel_step (r' := abR ws t.size a2) (secL t 3) R2 (fun hE => by unfold abR; rw [maybe_old hE]; rfl) (fun hE hI => by
    have := rel_free h hE hI (w := [97, 98, 111, 117, 116]) (by decide) (lift (nameSec (fun s v => { s with abt := v })) t) (a2.st (pos ws a2.p.I), a2.wh) rfl (fun p => (nameS ws t.size p).1) (fun p => ({ a2.st 0 with abt := ⟨(nameS ws t.size p).2.toArray⟩ }, a2.wh)) (fun p hp hpI => rel_name h hp hpI _ (fun _ _ _ => rfl) _ rfl)
    unfold abR
    cases hm : maybeS ws a2.p [97, 98, 111, 117, 116] with
    | true => rw [hm] at this; exact this
    | false => rw [hm] at this; exact this)
  have W3 : (abR ws t.size a2).wh = [] := by unfold abR; split <;> exact W2
  generalize abR ws t.size a2 = a3 at R3 W3 ⊢
  have R4 := rel_step (r' := whR ws t.size a3) (secL t 4) R3 (fun hE => by unfold whR; rw [word_old hE, where_old hE]) (fun hE hI => rel_word h hE hI (by decide) _ _ rfl (fun p => (whereS ws t.size 14 p a3.wh).1) (fun p => (a3.st 0, (whereS ws t.size 14 p a3.wh).2)) (fun p hp => by rw [where_old hp]) (fun p hp hpI => rel_where h 12 p ({ a3.st (pos ws a3.p.I) with a := pos ws p.I }, a3.wh) hp hpI rfl (by rw [W3]; rfl) (Or.inl W3)))
  generalize whR ws t.size a3 = a4 at R4 ⊢
  have R5 := rel_step (r' := soR ws t.size a4) (secL t 5) R4 (fun hE => by unfold soR; rw [maybe_old hE]; rfl) (fun hE hI => by
    have := rel_free h hE hI (w := soulsL) (by decide) (lift (numSec 0 10000 (fun s v => { s with souls := v })) t) (a4.st (pos ws a4.p.I), a4.wh) rfl (fun p => (numberS ws t.size p 0 10000).1) (fun p => ({ a4.st 0 with souls := (numberS ws t.size p 0 10000).2 }, a4.wh)) (fun p hp hpI => rel_num h hp hpI _ _ _ (fun _ _ _ => rfl) _ rfl)
    unfold soR
    cases hm : maybeS ws a4.p soulsL with
    | true => rw [hm] at this; exact this
    | false => rw [hm] at this; exact this)
  generalize soR ws t.size a4 = a5 at R5 ⊢
  exact rel_step (r' := trR ws t.size a5) (secL t 6) R5 (fun hE => by unfold trR; rw [word_old hE, number_old hE]) (fun hE hI => rel_word h hE hI (w := trustL) (by decide) _ _ rfl (fun p => (numberS ws t.size p 0 1000).1) (fun p => ({ a5.st 0 with trust := (numberS ws t.size p 0 1000).2 }, a5.wh)) (fun p hp => by rw [number_old hp]) (fun p hp hpI => rel_num h hp hpI _ _ _ (fun _ _ _ => rfl) _ rfl))
theorem goOn_small {t : ByteArray} (ht : t.size ≤ 300) {s : Sl} (hs : goOn t 7 s0 = .ok s) : s.2.length ≤ 14 ∧ s.1.abt.size ≤ 300 ∧ s.1.src.size ≤ 300 := by
  have hR := goOn_same (fit_toks t)
  have hl : ∀ i, (tok (toks t.data.toList) i).length ≤ 300 := fun i => Nat.le_trans (tok_len _ i) (by have := Lib.size_eq t; omega)
  generalize toks t.data.toList = ws at hR hl
  obtain ⟨-, -, e⟩ := rel_in hR hs
  have k0 : RdSmall (kdR ws t.size r0) := ⟨Nat.zero_le _, Nat.zero_le _, Nat.zero_le _⟩
  have e0 : (kdR ws t.size r0).wh.length = 0 := rfl
  have k1 : RdSmall (tmR ws t.size (kdR ws t.size r0)) := k0
  have e1 : (tmR ws t.size (kdR ws t.size r0)).wh.length = 0 := rfl
  generalize tmR ws t.size (kdR ws t.size r0) = a1 at e k1 e1
  have k2 : RdSmall (srR ws t.size a1) := ⟨name_small hl, k1.2⟩
  have e2 : (srR ws t.size a1).wh.length = 0 := e1
  generalize srR ws t.size a1 = a2 at e k2 e2
  have k3 : RdSmall (abR ws t.size a2) := by
    unfold abR
    split
    · exact ⟨k2.1, name_small hl, k2.2.2⟩
    · exact k2
  have e3 : (abR ws t.size a2).wh.length = 0 := by unfold abR; split <;> exact e2
  generalize abR ws t.size a2 = a3 at e k3 e3
  have k4 : RdSmall (whR ws t.size a3) := ⟨k3.1, k3.2.1, by
    refine Nat.le_trans (where_small 14 _ _) ?_
    rw [e3]; omega⟩
  generalize whR ws t.size a3 = a4 at e k4
  have k5 : RdSmall (soR ws t.size a4) := by
    unfold soR
    split
    · exact k4
    · exact k4
  generalize soR ws t.size a4 = a5 at e k5
  have k6 : RdSmall (trR ws t.size a5) := k5
  generalize trR ws t.size a5 = a6 at e k6
  subst e
  refine ⟨k6.2.2, ?_, ?_⟩
  · show ByteArray.size ⟨a6.abt.toArray⟩ ≤ 300; rw [Lib.size_eq]; exact k6.2.1
  · show ByteArray.size ⟨a6.src.toArray⟩ ≤ 300; rw [Lib.size_eq]; exact k6.1
theorem ParseA_any (m : Int) (t : ByteArray) (w : World) (hE : Env m w) (ht : t.size ≤ 300) : Calls Tryz.prog 19 #[.string t] w (ParsePost t areaB w) :=
  Parse_any m t areaB w hE ht fun s wv w' hs hA => by
    obtain ⟨h1, h2, h3⟩ := goOn_small ht hs
    obtain ⟨A, cap, rfl, hx⟩ := hA
    exact ⟨fun W hW => CheckArea_any A cap s.2 W (Area.below ⟨A, cap, rfl, hx⟩ hW) (by omega), by omega, by omega⟩
end Go.Proofs.YtjcaaejfokmolaaGreatDoor
/- Print of a report that is not valid; what two reports are to each other. -/
namespace Go.Proofs.YtjcaaejfokmolaaGreatDoor
open Go.RowKit

set_option maxRecDepth 100000 in
set_option maxHeartbeats 2000000 in
theorem Print_no (s : St) (A : Option Addr) (n cap : Nat) (w : World) (hc : Calls Tryz.prog 16 #[repA s.kind s.time s.src s.abt (.slice A n cap) s.souls s.trust] (w.alloc (repO s.kind s.time s.src s.abt (.slice A n cap) s.souls s.trust)) fun e w' => e = .returned (.bool false) ∧ Below (w.alloc (repO s.kind s.time s.src s.abt (.slice A n cap) s.souls s.trust)).heap.size (w.alloc (repO s.kind s.time s.src s.abt (.slice A n cap) s.souls s.trust)) w') :
    Calls Tryz.prog 15 #[repA s.kind s.time s.src s.abt (.slice A n cap) s.souls s.trust] w fun e w' => e = .returned (.string ⟨#[]⟩) ∧ Below w.heap.size w w' := by
  have HC := Lib.hid hc
  clear hc
  go_enter Tryz.func15, Tryz.ntmps15
  go_wp2_with fail
  refine HC.out.mono ?_
  rintro e w1 ⟨rfl, hb1⟩
  have HZ : Hid (Below w.heap.size w w1) := Lib.hid ((new_below _ _).trans (hb1.mono (new_below _ _).size))
  clear hb1 HC
  go_wp2
  go_ret
  exact ⟨rfl, HZ.out⟩
set_option maxRecDepth 100000 in
set_option maxHeartbeats 2000000 in
theorem refPrint_no (s : St) (A : Option Addr) (n cap : Nat) (w : World) (hc : Calls Tryz.prog 17 #[repA s.kind s.time s.src s.abt (.slice A n cap) s.souls s.trust] (w.alloc (repO s.kind s.time s.src s.abt (.slice A n cap) s.souls s.trust)) fun e w' => e = .returned (.bool false) ∧ Below (w.alloc (repO s.kind s.time s.src s.abt (.slice A n cap) s.souls s.trust)).heap.size (w.alloc (repO s.kind s.time s.src s.abt (.slice A n cap) s.souls s.trust)) w') :
    Calls Tryz.prog 18 #[repA s.kind s.time s.src s.abt (.slice A n cap) s.souls s.trust] w fun e w' => e = .returned (.string ⟨#[]⟩) ∧ Below w.heap.size w w' := by
  have HC := Lib.hid hc
  clear hc
  go_enter Tryz.func18, Tryz.ntmps18
  go_wp2_with fail
  refine HC.out.mono ?_
  rintro e w1 ⟨rfl, hb1⟩
  have HZ : Hid (Below w.heap.size w w1) := Lib.hid ((new_below _ _).trans (hb1.mono (new_below _ _).size))
  clear hb1 HC
  go_wp2
  go_ret
  exact ⟨rfl, HZ.out⟩
end Go.Proofs.YtjcaaejfokmolaaGreatDoor
/- Print at every report; its line is read as it. -/
namespace Go.Proofs.YtjcaaejfokmolaaGreatDoor
open Go.RowKit

/-- the line of a report; no line, if it is not valid. -/
def lineOf (s : St) (l : List (Int × Int)) : ByteArray := if checkB s (areaB l) = true then ⟨(joinW (wordsR s.kind s.time s.src.data.toList s.abt.data.toList l s.souls s.trust)).toArray⟩ else ⟨#[]⟩
/-- a report that a statement looks at. -/
structure Fine (w : World) (s : St) (A : Option Addr) (cap : Nat) (l : List (Int × Int)) : Prop where
  area : Area w (.slice A l.length cap) l
  src : s.src.size ≤ 1000
  abt : s.abt.size ≤ 1000
  len : l.length ≤ 30
theorem Fine.below {w w' : World} {s A cap l} (h : Fine w s A cap l) (hb : Below w.heap.size w w') : Fine w' s A cap l := ⟨h.area.below hb, h.src, h.abt, h.len⟩
abbrev repS (s : St) (A : Option Addr) (cap : Nat) (l : List (Int × Int)) : Value := repA s.kind s.time s.src s.abt (.slice A l.length cap) s.souls s.trust
theorem check_fine {w : World} {s : St} {A cap l} (h : Fine w s A cap l) : Calls Tryz.prog 16 #[repS s A cap l] w fun e w' => e = .returned (.bool (checkB s (areaB l))) ∧ Below w.heap.size w w' :=
  CheckReport_any s (.slice A l.length cap) A l.length cap rfl w (areaB l) (fun W hW => CheckArea_any A cap l W (h.area.below hW) (by have := h.len; omega)) (by have := h.abt; omega) (by have := h.src; omega)
theorem refCheck_fine {w : World} {s : St} {A cap l} (h : Fine w s A cap l) : Calls Tryz.prog 17 #[repS s A cap l] w fun e w' => e = .returned (.bool (checkB s (areaB l))) ∧ Below w.heap.size w w' :=
  refCheckReport_any s A l.length cap w (areaB l) (fun W hW => by
    rw [area_same]; exact refCheckArea_any A cap l W (h.area.below hW) (by have := h.len; omega)) (by have := h.abt; omega) (by have := h.src; omega)
theorem bytes_eta (b : ByteArray) : (⟨b.data.toList.toArray⟩ : ByteArray) = b := by cases b; simp
theorem Print_fine {w : World} {s : St} {A cap l} {m : Int} (h : Fine w s A cap l) (hE : Env m w) (ht : Tab w) : Calls Tryz.prog 15 #[repS s A cap l] w fun e w' => e = .returned (.string (lineOf s l)) ∧ Below w.heap.size w w' := by
  unfold lineOf
  cases hc : checkB s (areaB l) with
  | false =>
    rw [if_neg (by decide)]
    have := check_fine (h.below (new_below w (repO s.kind s.time s.src s.abt (.slice A l.length cap) s.souls s.trust)))
    rw [hc] at this
    exact Print_no s A l.length cap w this
  | true =>
    rw [if_pos rfl]
    have hk : 1 ≤ s.kind := (inB_true.1 (check_parts hc).1).1
    obtain ⟨a, k, t, sr, ab, so, tr⟩ := s
    simp only at hk hc ⊢
    obtain ⟨kn, rfl⟩ : ∃ kn : Nat, k = kn := ⟨k.toNat, by omega⟩
    have := Print_yes kn t so tr m sr.data.toList ab.data.toList A cap l w h.area hE ht (by rw [← Lib.size_eq]; exact h.src) (by rw [← Lib.size_eq]; exact h.abt) h.len (by rw [bytes_eta, bytes_eta]; exact hc)
    rw [bytes_eta, bytes_eta] at this
    exact this
theorem refPrint_fine {w : World} {s : St} {A cap l} (h : Fine w s A cap l) : Calls Tryz.prog 18 #[repS s A cap l] w fun e w' => e = .returned (.string (lineOf s l)) ∧ Below w.heap.size w w' := by
  unfold lineOf
  cases hc : checkB s (areaB l) with
  | false =>
    rw [if_neg (by decide)]
    have := refCheck_fine (h.below (new_below w (repO s.kind s.time s.src s.abt (.slice A l.length cap) s.souls s.trust)))
    rw [hc] at this
    exact refPrint_no s A l.length cap w this
  | true =>
    rw [if_pos rfl]
    have hk : 1 ≤ s.kind := (inB_true.1 (check_parts hc).1).1
    obtain ⟨a, k, t, sr, ab, so, tr⟩ := s
    simp only at hk hc ⊢
    obtain ⟨kn, rfl⟩ : ∃ kn : Nat, k = kn := ⟨k.toNat, by omega⟩
    have := refPrint_yes kn t so tr sr.data.toList ab.data.toList A cap l w h.area (by rw [← Lib.size_eq]; exact h.src) (by rw [← Lib.size_eq]; exact h.abt) h.len (by rw [bytes_eta, bytes_eta]; exact hc)
    rw [bytes_eta, bytes_eta] at this
    exact this
theorem area_bounds {l : List (Int × Int)} (h : areaB l = true) : l ≠ [] ∧ l.length ≤ 12 ∧ ∀ p ∈ l, inB p.1 (-16777216) 16777216 = true ∧ inB p.2 (-16777216) 16777216 = true := by
  unfold areaB at h
  rw [Bool.and_eq_true, Bool.and_eq_true, decide_eq_true_eq] at h
  refine ⟨by rintro rfl; simp at h, h.1.2, fun p hp => ?_⟩
  have h1 := List.all_eq_true.1 h.2.1 p hp
  unfold placeB at h1
  rwa [Bool.and_eq_true] at h1
theorem kw_free : ∀ k, blankFree (kwL k)
  | 0 => by intro c hc; cases hc
  | 1 => by unfold blankFree; decide
  | 2 => by unfold blankFree; decide
  | 3 => by unfold blankFree; decide
  | 4 => by unfold blankFree; decide
  | k + 5 => by intro c hc; cases hc
theorem words_free {s : St} {l : List (Int × Int)} (hc : checkB s (areaB l) = true) : ∀ w ∈ wordsR s.kind s.time s.src.data.toList s.abt.data.toList l s.souls s.trust, blankFree w := by
  obtain ⟨c1, c2, c3, c4, c5, c6, c7⟩ := check_parts hc
  intro w hw
  unfold wordsR at hw
  simp only [List.mem_cons, List.mem_append, List.mem_flatMap, List.not_mem_nil, or_false] at hw
  rcases hw with rfl | rfl | rfl | rfl | rfl | hw | rfl | ⟨p, hp, rfl | rfl⟩ | hw | rfl | rfl
  · exact kw_free _
  · unfold blankFree; decide
  · exact itoa_free _
  · unfold blankFree; decide
  · exact name_free c3
  · split at hw
    · cases hw
    · rename_i ha
      simp at hw; rcases hw with rfl | rfl
      · unfold blankFree; decide
      · exact name_free (about_name c4 ha)
  · unfold blankFree; decide
  · exact itoa_free _
  · exact itoa_free _
  · split at hw
    · cases hw
    · simp at hw; rcases hw with rfl | rfl
      · unfold blankFree; decide
      · exact itoa_free _
  · unfold blankFree; decide
  · exact itoa_free _
/-- a line that is short enough is read as its report. -/
theorem line_reads {s : St} {l : List (Int × Int)} (hc : checkB s (areaB l) = true) (ht : (lineOf s l).size ≤ 300) : ∃ a, parseR (lineOf s l) areaB = .ok ({ s with a := a }, l) := by
  have hf : Fit (wordsR s.kind s.time s.src.data.toList s.abt.data.toList l s.souls s.trust) (lineOf s l) := by
    refine ⟨by unfold wordsR; simp, words_free hc, ?_⟩
    unfold lineOf; rw [if_pos hc]
  have hR := read_same hf ht areaB
  obtain ⟨e1, e2, e3⟩ := print_reads (lineOf s l).size areaB (fun l h => area_bounds h) s.kind s.time s.souls s.trust s.src.data.toList s.abt.data.toList l (by rw [bytes_eta, bytes_eta]; exact hc)
  unfold RelR at hR
  rw [e2, e3, bytes_eta, bytes_eta] at hR
  cases hp : parseR (lineOf s l) areaB with
  | ok s' =>
    obtain ⟨-, -, h3⟩ := rel_in hR hp
    subst h3
    exact ⟨_, rfl⟩
  | error x =>
    obtain ⟨h1, -⟩ := rel_err hR hp
    exact absurd e1 h1
theorem line_ne {s : St} {l : List (Int × Int)} (hc : checkB s (areaB l) = true) : 0 < (lineOf s l).size := by
  unfold lineOf
  rw [if_pos hc, Lib.size_eq]
  have hk := inB_true.1 (check_parts hc).1
  unfold wordsR
  show 0 < (joinW (kwL s.kind.toNat :: _)).length
  rw [joinW_cons (by simp), List.length_append, List.length_cons]; omega
end Go.Proofs.YtjcaaejfokmolaaGreatDoor
/- The law of prints. -/
namespace Go.Proofs.YtjcaaejfokmolaaGreatDoor
open Go.RowKit

set_option maxRecDepth 100000 in
set_option maxHeartbeats 8000000 in
theorem prints_law (a0 : Nat) (k t so tr m0 : Int) (sr ab : ByteArray) (A : Option Addr) (cap : Nat) (l : List (Int × Int)) (w : World) (hA : Area w (.slice A l.length cap) l) (hE : Env m0 w) (ht : Tab w) :
    Calls Tryz.prog 4 #[repA k t sr ab (.slice A l.length cap) so tr] w fun e w' => e = .returned (.bool true) ∧ Below w.heap.size w w' := by
  have HGR : Hid (∀ W, Calls Tryz.prog 14 #[repA k t sr ab (.slice A l.length cap) so tr] W fun e w' => e = .returned (.bool (greatB ⟨a0, k, t, sr, ab, so, tr⟩ l.length)) ∧ Below W.heap.size W w') := Lib.hid fun W => refGreat_any ⟨a0, k, t, sr, ab, so, tr⟩ A l.length cap W
  have HAW : Hid (∀ W, Below w.heap.size w W → Calls Tryz.prog 9 #[] W fun e w' => e = .returned (.bool true) ∧ Below W.heap.size W w') := Lib.hid fun W hW => awake_any m0 W (hE.below hW)
  have HFI : Hid (greatB ⟨a0, k, t, sr, ab, so, tr⟩ l.length = false → Fine w ⟨a0, k, t, sr, ab, so, tr⟩ A cap l) := Lib.hid fun hg => by
    unfold greatB at hg
    simp only [Bool.or_eq_false_iff, decide_eq_false_iff_not] at hg
    exact ⟨hA, by show sr.size ≤ _; omega, by show ab.size ≤ _; omega, by omega⟩
  have HET : Hid (Env m0 w ∧ Tab w) := Lib.hid ⟨hE, ht⟩
  obtain ⟨n, hn⟩ : ∃ n, n = l.length := ⟨_, rfl⟩
  have HN := Lib.hid hn
  clear hA hE ht
  obtain ⟨g, hg⟩ : ∃ g, g = greatB ⟨a0, k, t, sr, ab, so, tr⟩ l.length := ⟨_, rfl⟩
  rw [← hg, ← hn] at HGR
  have HG : Hid (g = greatB ⟨a0, k, t, sr, ab, so, tr⟩ l.length) := Lib.hid hg
  rw [← hn]
  clear hg hn
  cases g with
  | true =>
    go_enter Tryz.func4, Tryz.ntmps4
    go_wp2_with fail
    refine (HGR.out _).mono ?_
    rintro e w1 ⟨rfl, hb1⟩
    have HB1 : Hid (Below w.heap.size w w1) := Lib.hid ((new_below _ _).trans (hb1.mono (new_below _ _).size))
    clear hb1
    go_wp2_with fail
    refine (HAW.out _ HB1.out).mono ?_
    rintro e w2 ⟨rfl, hb2⟩
    have HZ := Lib.hid (below_chain HB1.out hb2)
    clear hb2
    go_wp2
    go_ret
    exact ⟨rfl, HZ.out⟩
  | false =>
    have HF := Lib.hid (HFI.out HG.out.symm)
    clear HFI
    obtain ⟨sv, hsv⟩ : ∃ sv, sv = lineOf ⟨a0, k, t, sr, ab, so, tr⟩ l := ⟨_, rfl⟩
    obtain ⟨b, hb⟩ : ∃ b, b = checkB ⟨a0, k, t, sr, ab, so, tr⟩ (areaB l) := ⟨_, rfl⟩
    have HPR : Hid (∀ W, Below w.heap.size w W → Calls Tryz.prog 15 #[repA k t sr ab (.slice A n cap) so tr] W fun e w' => e = .returned (.string sv) ∧ Below W.heap.size W w') := Lib.hid fun W hW => by rw [hsv, HN.out]; exact Print_fine (HF.out.below hW) (HET.out.1.below hW) (HET.out.2.below hW)
    have HRP : Hid (∀ W, Below w.heap.size w W → Calls Tryz.prog 18 #[repA k t sr ab (.slice A n cap) so tr] W fun e w' => e = .returned (.string sv) ∧ Below W.heap.size W w') := Lib.hid fun W hW => by rw [hsv, HN.out]; exact refPrint_fine (HF.out.below hW)
    have HCK : Hid (∀ W, Below w.heap.size w W → Calls Tryz.prog 16 #[repA k t sr ab (.slice A n cap) so tr] W fun e w' => e = .returned (.bool b) ∧ Below W.heap.size W w') := Lib.hid fun W hW => by rw [hb, HN.out]; exact check_fine (HF.out.below hW)
    have HRC : Hid (∀ W, Below w.heap.size w W → Calls Tryz.prog 17 #[repA k t sr ab (.slice A n cap) so tr] W fun e w' => e = .returned (.bool b) ∧ Below W.heap.size W w') := Lib.hid fun W hW => by rw [hb, HN.out]; exact refCheck_fine (HF.out.below hW)
    have HSV := Lib.hid hsv
    have HBB := Lib.hid hb
    clear hsv hb
    have hq1 : (b != b) = false := by cases b <;> rfl
    go_enter Tryz.func4, Tryz.ntmps4
    go_wp2_with fail
    refine (HGR.out _).mono ?_
    rintro e w1 ⟨rfl, hb1⟩
    have Hw1 : Hid (w1.heap[w.heap.size]? = some (repO k t sr ab (.slice A n cap) so tr) ∧ Below w.heap.size w w1) := Lib.hid ⟨stay (heap_alloc_new _ _) hb1, (new_below _ _).trans (hb1.mono (new_below _ _).size)⟩
    clear hb1 HGR
    obtain ⟨y0, y1, y2, y3, y4, y5, y6⟩ := rep_cells Hw1.out.1
    go_wp2_with fail
    refine (HPR.out _ Hw1.out.2).mono ?_
    rintro e w2 ⟨rfl, hb2⟩
    have Hw2 : Hid (w2.heap[w.heap.size]? = some (repO k t sr ab (.slice A n cap) so tr) ∧ Below w.heap.size w w2) := Lib.hid ⟨stay Hw1.out.1 hb2, below_chain Hw1.out.2 hb2⟩
    have Hw2d : Hid (w2.drew.heap[w.heap.size]? = some (repO k t sr ab (.slice A n cap) so tr) ∧ Below w.heap.size w w2.drew) := Lib.hid ⟨Hw2.out.1, Hw2.out.2.drew⟩
    clear hb2 y0 y1 y2 y3 y4 y5 y6 Hw1
    go_wp2_with fail
    refine wp_region_held_drew (S := fun w' => w'.cell? ⟨w.heap.size, 0, none⟩ = some (.int .i64 k) ∧ w'.cell? ⟨w.heap.size, 1, none⟩ = some (.int .i64 t) ∧ w'.cell? ⟨w.heap.size, 2, none⟩ = some (.string sr) ∧ w'.cell? ⟨w.heap.size, 3, none⟩ = some (.string ab) ∧ w'.cell? ⟨w.heap.size, 4, none⟩ = some (.slice A n cap) ∧ w'.cell? ⟨w.heap.size, 5, none⟩ = some (.int .i64 so) ∧ w'.cell? ⟨w.heap.size, 6, none⟩ = some (.int .i64 tr)) (by kernel_rfl) (rep_cells Hw2.out.1) (fun hHeld => ?_)
    refine takeH (i := 0) (n := 12) (v := repA k t sr ab (.slice A n cap) so tr) rfl rfl (by kernel_rfl) (by kernel_rfl) (by kernel_rfl) (fun _ _ _ h => h) (Or.inl ⟨by kernel_rfl, ?_⟩) (by assumption) ?_
    · intro w hSw; (try dsimp only at hSw); (obtain ⟨y0, y1, y2, y3, y4, y5, y6⟩ := hSw); go_simp
    try simp only [Act.put, List.setIfInBounds_toArray, List.set_cons_zero, List.set_cons_succ]
    refine takeH (i := 2) (n := 14) (v := repA k t sr ab (.slice A n cap) so tr) rfl rfl (by kernel_rfl) (by kernel_rfl) (by kernel_rfl) (fun _ _ _ h => h) (Or.inl ⟨by kernel_rfl, ?_⟩) (by assumption) ?_
    · intro w hSw; (try dsimp only at hSw); (obtain ⟨y0, y1, y2, y3, y4, y5, y6⟩ := hSw); go_simp
    try simp only [Act.put, List.setIfInBounds_toArray, List.set_cons_zero, List.set_cons_succ]
    clear hHeld
    refine wpAnyH_ready (rs := [1]) (by kernel_rfl) (by simp) ?_
    refine AllReadyH.cons rfl (fun K hK => ?_) AllReadyH.nil
    try rw [if_pos (by kernel_rfl)]
    try go_simp
    refine (HCK.out _ Hw2d.out.2).mono ?_
    rintro e w3 ⟨rfl, hbn⟩
    have Hw3 : Hid (w3.heap[w.heap.size]? = some (repO k t sr ab (.slice A n cap) so tr) ∧ Below w.heap.size w w3) := Lib.hid ⟨stay Hw2d.out.1 hbn, below_chain Hw2d.out.2 hbn⟩
    have hS := rep_cells Hw3.out.1
    clear hbn
    refine hK.out _ _ hS (fun _ => ?_)
    clear hK K
    try simp only [Act.put, List.getElem_toArray, List.getElem_cons_succ, List.getElem_cons_zero, List.setIfInBounds_toArray, List.set_cons_zero, List.set_cons_succ]
    clear hS
    refine wpAnyH_ready (rs := [3]) (by kernel_rfl) (by simp) ?_
    refine AllReadyH.cons rfl (fun K hK => ?_) AllReadyH.nil
    try rw [if_pos (by kernel_rfl)]
    try go_simp
    refine (HRC.out _ Hw3.out.2).mono ?_
    rintro e w4 ⟨rfl, hbn⟩
    have Hw4 : Hid (w4.heap[w.heap.size]? = some (repO k t sr ab (.slice A n cap) so tr) ∧ Below w.heap.size w w4) := Lib.hid ⟨stay Hw3.out.1 hbn, below_chain Hw3.out.2 hbn⟩
    have hS := rep_cells Hw4.out.1
    clear hbn
    refine hK.out _ _ hS (fun _ => ?_)
    clear hK K
    try simp only [Act.put, List.getElem_toArray, List.getElem_cons_succ, List.getElem_cons_zero, List.setIfInBounds_toArray, List.set_cons_zero, List.set_cons_succ]
    refine takeH (i := 4) (n := 16) (v := .bool false) rfl rfl (by kernel_rfl) (by kernel_rfl) (by kernel_rfl) (fun _ _ _ h => h) (Or.inl ⟨by kernel_rfl, ?_⟩) (by assumption) ?_
    · intro w hSw; (try dsimp only at hSw); go_simp
    try simp only [Act.put, List.setIfInBounds_toArray, List.set_cons_zero, List.set_cons_succ]
    refine takeH (i := 5) (n := 17) (v := .bool false) rfl rfl (by kernel_rfl) (by kernel_rfl) (by kernel_rfl) (fun _ _ _ h => h) (Or.inl ⟨by kernel_rfl, ?_⟩) (by assumption) ?_
    · intro w hSw; (try dsimp only at hSw); go_simp
    try simp only [Act.put, List.setIfInBounds_toArray, List.set_cons_zero, List.set_cons_succ]
    refine takeH (i := 6) (n := 18) (v := .string sv) rfl rfl (by kernel_rfl) (by kernel_rfl) (by kernel_rfl) (fun _ _ _ h => h) (Or.inl ⟨by kernel_rfl, ?_⟩) (by assumption) ?_
    · intro w hSw; (try dsimp only at hSw); go_simp
    try simp only [Act.put, List.setIfInBounds_toArray, List.set_cons_zero, List.set_cons_succ]
    refine takeH (i := 7) (n := 19) (v := repA k t sr ab (.slice A n cap) so tr) rfl rfl (by kernel_rfl) (by kernel_rfl) (by kernel_rfl) (fun _ _ _ h => h) (Or.inl ⟨by kernel_rfl, ?_⟩) (by assumption) ?_
    · intro w hSw; (try dsimp only at hSw); (obtain ⟨y0, y1, y2, y3, y4, y5, y6⟩ := hSw); go_simp
    try simp only [Act.put, List.setIfInBounds_toArray, List.set_cons_zero, List.set_cons_succ]
    clear hS
    refine wpAnyH_ready (rs := [8]) (by kernel_rfl) (by simp) ?_
    refine AllReadyH.cons rfl (fun K hK => ?_) AllReadyH.nil
    try rw [if_pos (by kernel_rfl)]
    try go_simp
    refine (HRP.out _ Hw4.out.2).mono ?_
    rintro e w5 ⟨rfl, hbn⟩
    have Hw5 : Hid (w5.heap[w.heap.size]? = some (repO k t sr ab (.slice A n cap) so tr) ∧ Below w.heap.size w w5) := Lib.hid ⟨stay Hw4.out.1 hbn, below_chain Hw4.out.2 hbn⟩
    have hS := rep_cells Hw5.out.1
    clear hbn
    refine hK.out _ _ hS (fun _ => ?_)
    clear hK K
    try simp only [Act.put, List.getElem_toArray, List.getElem_cons_succ, List.getElem_cons_zero, List.setIfInBounds_toArray, List.set_cons_zero, List.set_cons_succ]
    refine wpAnyH_ready (rs := [9]) (by kernel_rfl) (by simp) ?_
    refine AllReadyH.cons rfl (fun K hK => ?_) AllReadyH.nil
    try rw [if_pos (by kernel_rfl)]
    try go_simp
    refine hK.out _ _ hS (fun _ => ?_)
    clear hK K
    try simp only [Act.put, List.getElem_toArray, List.getElem_cons_succ, List.getElem_cons_zero, List.setIfInBounds_toArray, List.set_cons_zero, List.set_cons_succ]
    refine wpAnyH_ready (rs := [10]) (by kernel_rfl) (by simp) ?_
    refine AllReadyH.cons rfl (fun K hK => ?_) AllReadyH.nil
    try rw [if_pos (by kernel_rfl)]
    try go_simp
    refine hK.out _ _ hS (fun _ => ?_)
    clear hK K
    try simp only [Act.put, List.getElem_toArray, List.getElem_cons_succ, List.getElem_cons_zero, List.setIfInBounds_toArray, List.set_cons_zero, List.set_cons_succ]
    refine wpAnyH_done (by kernel_rfl) ?_ _
    clear hS
    clear HCK HRC HRP HPR Hw2 Hw2d Hw3 Hw4 hq1
    cases b with
    | false =>
      have hs0 : sv = ⟨#[]⟩ := by rw [HSV.out]; unfold lineOf; rw [← HBB.out, if_neg (by decide)]
      clear HSV
      subst hs0
      go_wp2_with fail
      refine (HAW.out _ Hw5.out.2).mono ?_
      rintro e w6 ⟨rfl, hb6⟩
      have HZ := Lib.hid (below_chain Hw5.out.2 hb6)
      clear hb6
      go_wp2
      go_ret
      exact ⟨rfl, HZ.out⟩
    | true =>
      have hpos : 0 < sv.size := by rw [HSV.out]; exact line_ne HBB.out.symm
      obtain ⟨e0, e1, e2⟩ := some_facts (s := sv) (by intro h; rw [Lib.size_eq, h] at hpos; simp at hpos)
      by_cases hlong : 300 < sv.size
      · go_wp2_with fail
        refine (HAW.out _ Hw5.out.2).mono ?_
        rintro e w6 ⟨rfl, hb6⟩
        have HZ := Lib.hid (below_chain Hw5.out.2 hb6)
        clear hb6
        go_wp2
        go_ret
        exact ⟨rfl, HZ.out⟩
      · have HPA : Hid (∀ W, Below w.heap.size w W → Calls Tryz.prog 19 #[.string sv] W fun e w' => ∃ B c, e = .returned (.tuple #[repA k t sr ab (.slice B n c) so tr, .int .i64 0, .int .i64 0]) ∧ Area w' (.slice B l.length c) l ∧ Below W.heap.size W w') := Lib.hid fun W hW => by
          refine (ParseA_any m0 sv W (HET.out.1.below hW) (by omega)).mono fun e w' hp => ?_
          obtain ⟨a, ha⟩ := line_reads (s := ⟨a0, k, t, sr, ab, so, tr⟩) (l := l) HBB.out.symm (by rw [← HSV.out]; omega)
          unfold ParsePost at hp
          rw [HSV.out, ha] at hp
          obtain ⟨wv, he, har, -, hb⟩ := hp
          obtain ⟨B, c, rfl, hx⟩ := har
          exact ⟨B, c, by rw [he, HN.out]; rfl, ⟨B, c, rfl, hx⟩, hb⟩
        have HAL : Hid (∀ W B c, Below w.heap.size w W → Area W (.slice B l.length c) l → Calls Tryz.prog 20 #[repA k t sr ab (.slice B n c) so tr, repA k t sr ab (.slice A n cap) so tr] W fun e w' => e = .returned (.bool true) ∧ Below W.heap.size W w') := Lib.hid fun W B c hW hB => by
          rw [HN.out]
          exact refAlike_any k t so tr sr ab B A c cap l W hB (HF.out.area.below hW) (area_bounds (check_parts HBB.out.symm).2.2.2.2.1).2.1
        clear HBB HSV HF HET hpos
        go_wp2_with fail
        refine (HPA.out _ Hw5.out.2).mono ?_
        rintro e w6 ⟨B, c, rfl, har, hb6⟩
        have Hw6 : Hid (w6.heap[w.heap.size]? = some (repO k t sr ab (.slice A n cap) so tr) ∧ Below w.heap.size w w6) := Lib.hid ⟨stay Hw5.out.1 hb6, below_chain Hw5.out.2 hb6⟩
        have HAR := Lib.hid har
        clear har hb6 Hw5 HPA
        obtain ⟨y0, y1, y2, y3, y4, y5, y6⟩ := rep_cells Hw6.out.1
        have hlt := (Array.getElem?_eq_some_iff.1 Hw6.out.1).1
        go_wp2_with fail
        clear y0 y1 y2 y3 y4 y5 y6
        refine (HAL.out _ B c (Hw6.out.2.alloc Hw6.out.2.size _) (HAR.out.below (new_below _ _))).mono ?_
        rintro e w7 ⟨rfl, hb7⟩
        have HB7 := Lib.hid (below_chain (Hw6.out.2.alloc Hw6.out.2.size _) hb7)
        clear hb7 HAL
        go_wp2_with fail
        refine (HAW.out _ HB7.out).mono ?_
        rintro e w8 ⟨rfl, hb8⟩
        have HZ := Lib.hid (below_chain HB7.out hb8)
        clear hb8
        go_wp2
        go_ret
        exact ⟨rfl, HZ.out⟩
end Go.Proofs.YtjcaaejfokmolaaGreatDoor
