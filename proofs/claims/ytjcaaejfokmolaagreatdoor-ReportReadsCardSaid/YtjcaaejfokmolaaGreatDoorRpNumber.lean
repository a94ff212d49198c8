/- (*line).number. -/
import Derived.Test.YtjcaaejfokmolaaGreatDoorRpNames
import Derived.Test.YtjcaaejfokmolaaGreatDoorRpPart
namespace Go.Proofs.YtjcaaejfokmolaaGreatDoor
open Go.RowKit

theorem part_at (B : Nat) (t : ByteArray) (a : Nat) (m : Int) (w : World) (k : Nat) (hl : LineAt w B t a) (hm : w.cell? ⟨2, 0, none⟩ = some (.int .i64 m)) :
    Calls Tryz.prog 91 #[.pointer (some ⟨B, 0, none⟩)] (w.drewN k) fun e w' => e = .returned (.string (partB t a)) ∧ ∃ n, w' = w.drewN n :=
  (part_any B t a m (w.drewN k) (hl.drewN k) hm).mono fun _ _ ⟨he, n, hw⟩ => ⟨he, k + n, by rw [hw, World.drewN_drewN]⟩
theorem fail_at (B : Nat) (t : ByteArray) (a : Nat) (er : Int) (w : World) (k : Nat) (h : LineAt w B t a) :
    Calls Tryz.prog 93 #[.pointer (some ⟨B, 0, none⟩), .int .i64 er] (w.drewN k) fun e w' => e = .panicked [{ v := faultV (min a t.size : Nat) er, recovered := false }] ∧ ∃ n, w' = w.drewN n :=
  (fail_any B t a er (w.drewN k) (h.drewN k)).mono fun _ _ ⟨he, n, hw⟩ => ⟨he, k + n, by rw [hw, World.drewN_drewN]⟩

/-- what was there is as it was, but for the block B, of which the cell 1 has been set. -/
structure Step (B : Nat) (v : Value) (w w' : World) : Prop where
  grown : w.grownBy w' (some B)
  blk : w'.heap[B]? = (w.setCell ⟨B, 1, none⟩ v).heap[B]?

theorem formL_false {p : List UInt8} (h : formL p = false) : digitsL (Lib.trimPrefix p [45]) = false ∨ (digitsL (Lib.trimPrefix p [45]) = true ∧ ¬ (Lib.trimPrefix p [45]).length ≤ 10) ∨ (digitsL (Lib.trimPrefix p [45]) = true ∧ (Lib.trimPrefix p [45]).length ≤ 10 ∧ p = [45, 48]) := by
  unfold formL at h
  cases h1 : digitsL (Lib.trimPrefix p [45]) with
  | false => exact .inl rfl
  | true =>
    by_cases h2 : (Lib.trimPrefix p [45]).length ≤ 10
    · rw [h1, decide_eq_true h2] at h
      exact .inr (.inr ⟨rfl, h2, by simpa using h⟩)
    · exact .inr (.inl ⟨rfl, h2⟩)

set_option maxHeartbeats 1000000 in
theorem number_form (B : Nat) (t : ByteArray) (a : Nat) (lo hi m : Int) (w : World) (hl : LineAt w B t a) (hm : w.cell? ⟨2, 0, none⟩ = some (.int .i64 m))
    (hf : formL (partL t.data.toList a) = false) :
    Calls Tryz.prog 84 #[.pointer (some ⟨B, 0, none⟩), .int .i64 lo, .int .i64 hi] w fun e w' => e = .panicked [{ v := faultV (min a t.size : Nat) 5, recovered := false }] ∧ ∃ n, w' = w.drewN n := by
  have hL := Lib.hid hl
  have hsp : (partB t a).size ≤ 300 := by have := partB_le t a; have := hl.small; omega
  obtain ⟨p, hp⟩ : ∃ p, p = partB t a := ⟨_, rfl⟩
  have hpl : partL t.data.toList a = p.data.toList := by rw [hp]; rfl
  rw [hpl] at hf
  have hpart := fun k => part_at B t a m w k hl hm
  have hpart0 := part_any B t a m w hl hm
  rw [← hp] at hpart0 hsp
  have hpart' : ∀ k, Calls Tryz.prog 91 #[.pointer (some ⟨B, 0, none⟩)] (w.drewN k) fun e w' => e = .returned (.string p) ∧ ∃ n, w' = w.drewN n := by rw [hp]; exact hpart
  have HP := Lib.hid hpart'; have HP0 := Lib.hid hpart0
  clear hpart hpart' hpart0 hpl hl
  have HX := Lib.hid hp; clear hp
  obtain ⟨d, hd⟩ : ∃ d : ByteArray, d = ⟨(Lib.trimPrefix p.data.toList [45]).toArray⟩ := ⟨_, rfl⟩
  have hdl : Lib.trimPrefix p.data.toList [45] = d.data.toList := by rw [hd]
  have htrim : ∀ W, Calls Tryz.prog 108 #[.string p, .string ⟨#[45]⟩] W fun e w' => e = .returned (.string d) ∧ w' = W := by rw [hd]; exact fun W => Tryz.strings_TrimPrefix p ⟨#[45]⟩ W
  have HT := Lib.hid htrim; clear htrim
  have hds : d.size ≤ 300 := by
    rw [Lib.size_eq, ← hdl]
    have : (Lib.trimPrefix p.data.toList [45]).length ≤ p.data.toList.length := by
      unfold Lib.trimPrefix; split
      · rw [List.length_drop]; omega
      · omega
    rw [← Lib.size_eq p] at this; omega
  have hf' := formL_false hf
  rw [hdl] at hf'
  clear hf
  have HD := Lib.hid hdl; clear hdl
  clear hd
  have hisd := fun W => isDigits_any d W (by omega)
  rcases hf' with h1 | ⟨h1, h2⟩ | ⟨h1, h2, h3⟩
  · rw [h1] at hisd
    have HI := Lib.hid hisd; clear hisd h1
    go_enter Tryz.func84, Tryz.ntmps84
    go_wp2_with (first | (go_at_call 91; refine HP0.out.mono ?_; rintro e w' ⟨rfl, n, rfl⟩) | (go_at_call 108; refine (HT.out _).mono ?_; rintro e w' ⟨rfl, rfl⟩) | (go_at_call 109; refine (HI.out _).mono ?_; rintro e w' ⟨rfl, rfl⟩) | (go_at_call 93; refine (fail_at B t a 5 w _ hL.out).mono ?_; rintro e w' ⟨rfl, n, rfl⟩))
    exact ⟨rfl, rfl, _, rfl⟩
  · rw [h1] at hisd
    rw [← Lib.size_eq] at h2
    have h3 : (10 : Int) < d.size := by omega
    have HI := Lib.hid hisd; clear hisd h1 h2
    go_enter Tryz.func84, Tryz.ntmps84
    go_wp2_with (first | (go_at_call 91; first | (refine HP0.out.mono ?_; rintro e w' ⟨rfl, n, rfl⟩) | (refine (HP.out _).mono ?_; rintro e w' ⟨rfl, n, rfl⟩)) | (go_at_call 108; refine (HT.out _).mono ?_; rintro e w' ⟨rfl, rfl⟩) | (go_at_call 109; refine (HI.out _).mono ?_; rintro e w' ⟨rfl, rfl⟩) | (go_at_call 93; refine (fail_at B t a 5 w _ hL.out).mono ?_; rintro e w' ⟨rfl, n, rfl⟩))
    exact ⟨rfl, rfl, _, rfl⟩
  · rw [h1] at hisd
    rw [← Lib.size_eq] at h2
    have h4 : ¬ (10 : Int) < d.size := by omega
    have h5 : p.toList = [45, 48] := by rw [ByteArray.toList_eq]; exact h3
    have h6 : (p.toList == [45, 48]) = true := by simpa using h5
    have HI := Lib.hid hisd; have H5 := Lib.hid h5; clear hisd h1 h2 h3 h5
    go_enter Tryz.func84, Tryz.ntmps84
    go_wp2_with (first | (go_at_call 91; first | (refine HP0.out.mono ?_; rintro e w' ⟨rfl, n, rfl⟩) | (refine (HP.out _).mono ?_; rintro e w' ⟨rfl, n, rfl⟩)) | (go_at_call 108; refine (HT.out _).mono ?_; rintro e w' ⟨rfl, rfl⟩) | (go_at_call 109; refine (HI.out _).mono ?_; rintro e w' ⟨rfl, rfl⟩) | (go_at_call 93; refine (fail_at B t a 5 w _ hL.out).mono ?_; rintro e w' ⟨rfl, n, rfl⟩))
    exact ⟨rfl, rfl, _, rfl⟩

theorem LineAt.below {w w' : World} {B t a} (h : LineAt w B t a) (hb : Below w.heap.size w w') : LineAt w' B t a := by
  have hlt : B < w.heap.size := World.block_lt_of_cell? w ⟨B, 0, none⟩ h.text
  exact ⟨(hb.cell (p := ⟨B, 0, none⟩) hlt).trans h.text, (hb.cell (p := ⟨B, 1, none⟩) hlt).trans h.at_, (hb.frozen (p := ⟨B, 1, none⟩) hlt).trans h.free, h.small, h.near⟩

theorem below_bytes (w : World) (e : TypeId) (s : ByteArray) (k : Nat) : Below w.heap.size w (Lib.bytesWorld (w.drewN k) e s) := by
  refine ⟨rfl, rfl, rfl, ?_, fun j hj => ?_⟩
  · simp [Lib.bytesWorld, World.freeze, World.alloc]
  · exact Lib.bytesWorld_at_old (w.drewN k) e s j hj

theorem atoi_at (p : ByteArray) (n : Int) (hl : p.size ≤ 18) (h : Lib.atoi p.data.toList = some n) (w : World) (k : Nat) :
    Calls Tryz.prog 110 #[.string p] (w.drewN k) fun e w' => e = .returned (.tuple #[.int .i64 n, .nilIface]) ∧ Below w.heap.size w w' :=
  (Tryz.strconv_Atoi p n hl h (w.drewN k)).mono fun _ _ ⟨he, s, hw⟩ => ⟨he, by rw [hw]; exact below_bytes w _ s k⟩

theorem Step.of_next {B : Nat} {v : Value} {w w1 : World} {k : Nat} (hb : Below w.heap.size w w1) (hB : B < w.heap.size) : Step B v w ((w1.setCell ⟨B, 1, none⟩ v).drewN k) := by
  refine ⟨⟨hb.os, hb.tape, hb.output, by simpa [World.setCell] using hb.size, fun j hj hne => ?_⟩, ?_⟩
  · exact (Below.heap_setCell w1 _ v j (by intro e; exact hne (by rw [e]))).trans (hb.block j hj)
  · show (w1.setCell ⟨B, 1, none⟩ v).heap[B]? = _
    simp only [World.setCell, Array.getElem?_modify, hb.block B hB]

theorem Step.of_nexts {B : Nat} {v : Value} {w : World} {k : Nat} (hB : B < w.heap.size) : Step B v w ((w.setCell ⟨B, 1, none⟩ v).drewN k) := Step.of_next (Below.refl _ _) hB

/-- how the reading of a number ends: 4: out of its range, 5: no number. -/
def numRes (p : List UInt8) (lo hi : Int) : Except Int Int := if formL p then (if inB (valL p) lo hi then .ok (valL p) else .error 4) else .error 5

/-- ends by a fault; nothing that was there has turned. -/
def Faulted (a er : Int) (w : World) (e : Ending) (w' : World) : Prop := e = .panicked [{ v := faultV a er, recovered := false }] ∧ Below w.heap.size w w'

def NumPost (B : Nat) (t : ByteArray) (a : Nat) (lo hi : Int) (w : World) (e : Ending) (w' : World) : Prop :=
  match numRes (partL t.data.toList a) lo hi with
  | .ok v => e = .returned (.int .i64 v) ∧ Step B (.int .i64 (a + (partB t a).size + 1 : Nat)) w w'
  | .error er => Faulted (min a t.size : Nat) er w e w'

theorem below_draws' (w : World) (n : Nat) : Below w.heap.size w (w.drewN n) := ⟨rfl, rfl, rfl, Nat.le_refl _, fun _ _ => rfl⟩

set_option maxHeartbeats 1000000 in
theorem number_any (B : Nat) (t : ByteArray) (a : Nat) (lo hi m : Int) (w : World) (hl : LineAt w B t a) (hm : w.cell? ⟨2, 0, none⟩ = some (.int .i64 m)) :
    Calls Tryz.prog 84 #[.pointer (some ⟨B, 0, none⟩), .int .i64 lo, .int .i64 hi] w (NumPost B t a lo hi w) := by
  cases hf : formL (partL t.data.toList a) with
  | false =>
    refine (number_form B t a lo hi m w hl hm hf).mono fun e w' ⟨he, n, hw⟩ => ?_
    unfold NumPost
    rw [show numRes (partL t.data.toList a) lo hi = .error 5 by unfold numRes; rw [hf]; rfl]
    exact ⟨he, by rw [hw]; exact below_draws' w n⟩
  | true =>
    have hlt : B < w.heap.size := World.block_lt_of_cell? w ⟨B, 0, none⟩ hl.text
    have hglt : 2 < w.heap.size := World.block_lt_of_cell? w ⟨2, 0, none⟩ hm
    have HM := Lib.hid hm
    have hL := Lib.hid hl
    obtain ⟨p, hp⟩ : ∃ p, p = partB t a := ⟨_, rfl⟩
    have hpl : partL t.data.toList a = p.data.toList := by rw [hp]; rfl
    rw [hpl] at hf
    have hpart := fun k => part_at B t a m w k hl hm
    have hpart0 := part_any B t a m w hl hm
    rw [← hp] at hpart0
    have hpart' : ∀ k, Calls Tryz.prog 91 #[.pointer (some ⟨B, 0, none⟩)] (w.drewN k) fun e w' => e = .returned (.string p) ∧ ∃ n, w' = w.drewN n := by rw [hp]; exact hpart
    have HP := Lib.hid hpart'; have HP0 := Lib.hid hpart0
    clear hpart hpart' hpart0 hl
    have HX := Lib.hid hp; clear hp
    have hsh := form_short _ hf
    rw [← Lib.size_eq] at hsh
    have hval := atoi_val _ hf
    obtain ⟨v, hv⟩ : ∃ v, v = valL p.data.toList := ⟨_, rfl⟩
    rw [← hv] at hval
    have HA : Hid (∀ k, Calls Tryz.prog 110 #[.string p] (w.drewN k) fun e w' => e = .returned (.tuple #[.int .i64 v, .nilIface]) ∧ Below w.heap.size w w') := Lib.hid fun k => atoi_at p v (by omega) hval w k
    clear hval
    obtain ⟨d, hd⟩ : ∃ d : ByteArray, d = ⟨(Lib.trimPrefix p.data.toList [45]).toArray⟩ := ⟨_, rfl⟩
    have hdl : Lib.trimPrefix p.data.toList [45] = d.data.toList := by rw [hd]
    have htrim : ∀ W, Calls Tryz.prog 108 #[.string p, .string ⟨#[45]⟩] W fun e w' => e = .returned (.string d) ∧ w' = W := by rw [hd]; exact fun W => Tryz.strings_TrimPrefix p ⟨#[45]⟩ W
    have HT := Lib.hid htrim; clear htrim
    have hf2 := hf
    unfold formL at hf2
    rw [Bool.and_eq_true, Bool.and_eq_true, hdl] at hf2
    obtain ⟨⟨h1, h2⟩, h3⟩ := hf2
    have h2' := of_decide_eq_true h2
    rw [← Lib.size_eq] at h2'
    have h4 : ¬ (10 : Int) < d.size := by omega
    have h5 : ¬ p.toList = [45, 48] := by rw [ByteArray.toList_eq]; simpa using h3
    have h6 : (p.toList == [45, 48]) = false := by simpa using h5
    have hisd := fun W => isDigits_any d W (by omega)
    rw [h1] at hisd
    have HI := Lib.hid hisd; have H5 := Lib.hid h5
    have HF := Lib.hid hf; have HV := Lib.hid hv
    have HPL := Lib.hid hpl
    clear hisd h1 h2 h2' h3 h5 hdl hd hf hv hm hpl
    cases hb : inB v lo hi with
    | true =>
      have hfrom := fun W => isFrom_any v lo hi W
      rw [hb] at hfrom
      have HR := Lib.hid hfrom; have HB := Lib.hid hb; clear hfrom hb
      go_enter Tryz.func84, Tryz.ntmps84
      go_wp2_with (first | (go_at_call 91; first | (refine HP0.out.mono ?_; rintro e w' ⟨rfl, n, rfl⟩) | (refine (HP.out _).mono ?_; rintro e w' ⟨rfl, n, rfl⟩)) | (go_at_call 108; refine (HT.out _).mono ?_; rintro e w' ⟨rfl, rfl⟩) | (go_at_call 109; refine (HI.out _).mono ?_; rintro e w' ⟨rfl, rfl⟩) | (go_at_call 110; refine (HA.out _).mono ?_; rintro e w1 ⟨rfl, hb1⟩; have HB1 := Lib.hid hb1; clear hb1) | (go_at_call 30; refine (HR.out _).mono ?_; rintro e w' ⟨rfl, rfl⟩))
      refine (next_any B t a m _ (hL.out.below HB1.out) ((HB1.out.cell (p := ⟨2, 0, none⟩) hglt).trans HM.out)).mono ?_
      rintro e w' ⟨rfl, n, rfl⟩
      go_wp2_with fail
      go_ret
      unfold NumPost
      rw [HPL.out, show numRes p.data.toList lo hi = .ok v by unfold numRes; rw [HF.out, ← HV.out, HB.out]; rfl]
      exact ⟨rfl, Step.of_next HB1.out hlt⟩
    | false =>
      have hfrom := fun W => isFrom_any v lo hi W
      rw [hb] at hfrom
      have HR := Lib.hid hfrom; have HB := Lib.hid hb; clear hfrom hb
      go_enter Tryz.func84, Tryz.ntmps84
      go_wp2_with (first | (go_at_call 91; first | (refine HP0.out.mono ?_; rintro e w' ⟨rfl, n, rfl⟩) | (refine (HP.out _).mono ?_; rintro e w' ⟨rfl, n, rfl⟩)) | (go_at_call 108; refine (HT.out _).mono ?_; rintro e w' ⟨rfl, rfl⟩) | (go_at_call 109; refine (HI.out _).mono ?_; rintro e w' ⟨rfl, rfl⟩) | (go_at_call 110; refine (HA.out _).mono ?_; rintro e w1 ⟨rfl, hb1⟩; have HB1 := Lib.hid hb1; clear hb1) | (go_at_call 30; refine (HR.out _).mono ?_; rintro e w' ⟨rfl, rfl⟩))
      refine (fail_any B t a 4 _ (hL.out.below HB1.out)).mono ?_
      rintro e w' ⟨rfl, n, rfl⟩
      go_wp2_with fail
      refine ⟨rfl, ?_⟩
      unfold NumPost
      rw [HPL.out, show numRes p.data.toList lo hi = .error 4 by unfold numRes; rw [HF.out, ← HV.out, HB.out]; rfl]
      exact ⟨rfl, HB1.out.trans ((below_draws' _ n).mono HB1.out.size)⟩
end Go.Proofs.YtjcaaejfokmolaaGreatDoor
