/- A line that is being read, as a whole; name; the closures that read a number or a name. -/
import Derived.Test.YtjcaaejfokmolaaGreatDoorRpNumber
namespace Go.Proofs.YtjcaaejfokmolaaGreatDoor
open Go.RowKit

/-- how far a line is, and the report so far (but for where). -/
structure St where
  a : Nat
  kind : Int
  time : Int
  src : ByteArray
  abt : ByteArray
  souls : Int
  trust : Int

def lineCells (t : ByteArray) (s : St) (wv : Value) : Array Value :=
  #[.string t, .int .i64 s.a, .int .i64 s.kind, .int .i64 s.time, .string s.src, .string s.abt, wv, .int .i64 s.souls, .int .i64 s.trust]

structure LineIs (w : World) (B : Nat) (t : ByteArray) (s : St) (wv : Value) : Prop where
  blk : w.heap[B]? = some (.cells (lineCells t s wv) 76 (0, 0))
  small : t.size ≤ 300
  near : s.a ≤ t.size + 1

theorem LineIs.cell {w B t s wv} (h : LineIs w B t s wv) (i : Nat) : w.cell? ⟨B, i, none⟩ = (lineCells t s wv)[i]? := by
  simp [World.cell?, h.blk]
theorem LineIs.frozen {w B t s wv} (h : LineIs w B t s wv) (i : Nat) : w.frozen? ⟨B, i, none⟩ = false := by
  simp [World.frozen?, h.blk]
theorem LineIs.lt {w B t s wv} (h : LineIs w B t s wv) : B < w.heap.size := World.block_lt_of_cell? w ⟨B, 0, none⟩ (h.cell 0)
theorem LineIs.line {w B t s wv} (h : LineIs w B t s wv) : LineAt w B t s.a :=
  ⟨h.cell 0, h.cell 1, h.frozen 1, h.small, by have := h.small; have := h.near; omega⟩
theorem LineIs.of_block {w w' B t s wv} (h : LineIs w B t s wv) (e : w'.heap[B]? = w.heap[B]?) : LineIs w' B t s wv := ⟨e.trans h.blk, h.small, h.near⟩
theorem LineIs.drewN {w B t s wv} (h : LineIs w B t s wv) (n : Nat) : LineIs (w.drewN n) B t s wv := ⟨h.blk, h.small, h.near⟩

theorem heap_set {w : World} {B : Nat} {cs : Array Value} {T : TypeId} (h : w.heap[B]? = some (.cells cs T (0, 0))) (i : Nat) (v : Value) : (w.setCell ⟨B, i, none⟩ v).heap[B]? = some (.cells (cs.setIfInBounds i v) T (0, 0)) := by
  simp [World.setCell, Array.getElem?_modify, h]

theorem LineIs.step {w w' B t s wv} {a' : Nat} (h : LineIs w B t s wv) (hs : Step B (.int .i64 a') w w') (ha : a' ≤ t.size + 1) : LineIs w' B t { s with a := a' } wv :=
  ⟨by rw [hs.blk, heap_set h.blk]; rfl, h.small, ha⟩

theorem grown_set {w w' : World} {B i : Nat} {v : Value} (h : w.grownBy w' (some B)) : w.grownBy (w'.setCell ⟨B, i, none⟩ v) (some B) :=
  ⟨h.os, h.tape, h.output, by simpa [World.setCell] using h.size, fun j hj hne => (Below.heap_setCell w' _ v j (by intro e; exact hne (by rw [e]))).trans (h.block j hj hne)⟩
theorem grown_trans {a b c : World} {r : Option Nat} (h : a.grownBy b r) (k : b.grownBy c r) : a.grownBy c r :=
  ⟨k.os.trans h.os, k.tape.trans h.tape, k.output.trans h.output, Nat.le_trans h.size k.size, fun i hi hne => (k.block i (Nat.lt_of_lt_of_le hi h.size) hne).trans (h.block i hi hne)⟩
theorem grown_draws {w w' : World} {r : Option Nat} (h : w.grownBy w' r) (n : Nat) : w.grownBy (w'.drewN n) r := ⟨h.os, h.tape, h.output, h.size, h.block⟩
theorem grown_below {w w' : World} {r : Option Nat} (h : Below w.heap.size w w') : w.grownBy w' r := ⟨h.os, h.tape, h.output, h.size, fun i hi _ => h.block i hi⟩
theorem grown_refl (w : World) (r : Option Nat) : w.grownBy w r := ⟨rfl, rfl, rfl, Nat.le_refl _, fun _ _ _ => rfl⟩

def NamePost (B : Nat) (t : ByteArray) (a : Nat) (w : World) (e : Ending) (w' : World) : Prop :=
  if nameL (partL t.data.toList a) then e = .returned (.string (partB t a)) ∧ Step B (.int .i64 (a + (partB t a).size + 1 : Nat)) w w'
  else Faulted (min a t.size : Nat) 5 w e w'

theorem next_at (B : Nat) (t : ByteArray) (a : Nat) (m : Int) (w : World) (k : Nat) (hl : LineAt w B t a) (hm : w.cell? ⟨2, 0, none⟩ = some (.int .i64 m)) :
    Calls Tryz.prog 92 #[.pointer (some ⟨B, 0, none⟩)] (w.drewN k) fun e w' => e = .returned (.tuple #[]) ∧ Step B (.int .i64 (a + (partB t a).size + 1 : Nat)) w w' :=
  (next_any B t a m (w.drewN k) (hl.drewN k) hm).mono fun _ _ ⟨he, n, hw⟩ => ⟨he, by
    have hlt : B < w.heap.size := World.block_lt_of_cell? w ⟨B, 0, none⟩ hl.text
    have := Step.of_next (v := .int .i64 (a + (partB t a).size + 1 : Nat)) (k := n) (below_draws' w k) hlt
    rw [hw]; exact this⟩

set_option maxHeartbeats 1000000 in
theorem name_any (B : Nat) (t : ByteArray) (a : Nat) (m : Int) (w : World) (hl : LineAt w B t a) (hm : w.cell? ⟨2, 0, none⟩ = some (.int .i64 m)) :
    Calls Tryz.prog 86 #[.pointer (some ⟨B, 0, none⟩)] w (NamePost B t a w) := by
  have hL := Lib.hid hl
  have hsp : (partB t a).size ≤ 300 := by have := partB_le t a; have := hl.small; omega
  have hisn := fun W => isName_any (partB t a) W (by omega)
  have HM := Lib.hid hm
  have HP0 := Lib.hid (part_any B t a m w hl hm)
  clear hl hm
  cases hn : nameL (partL t.data.toList a) with
  | true =>
    rw [show nameL (partB t a).data.toList = true from hn] at hisn
    have HI := Lib.hid hisn; have HN := Lib.hid hn; clear hisn hn
    go_enter Tryz.func86, Tryz.ntmps86
    go_wp2_with (first | (go_at_call 91; refine HP0.out.mono ?_; rintro e w' ⟨rfl, n, rfl⟩) | (go_at_call 42; refine (HI.out _).mono ?_; rintro e w' ⟨rfl, rfl⟩) | (go_at_call 92; refine (next_at B t a m w _ hL.out HM.out).mono ?_; rintro e w' ⟨rfl, hst⟩; have HS := Lib.hid hst; clear hst))
    go_ret
    unfold NamePost
    rw [HN.out]
    exact ⟨rfl, HS.out⟩
  | false =>
    rw [show nameL (partB t a).data.toList = false from hn] at hisn
    have HI := Lib.hid hisn; have HN := Lib.hid hn; clear hisn hn
    go_enter Tryz.func86, Tryz.ntmps86
    go_wp2_with (first | (go_at_call 91; refine HP0.out.mono ?_; rintro e w' ⟨rfl, n, rfl⟩) | (go_at_call 42; refine (HI.out _).mono ?_; rintro e w' ⟨rfl, rfl⟩) | (go_at_call 93; refine (fail_at B t a 5 w _ hL.out).mono ?_; rintro e w' ⟨rfl, n, rfl⟩))
    refine ⟨rfl, ?_⟩
    unfold NamePost
    rw [HN.out]
    exact ⟨rfl, below_draws' w _⟩

/-- A section has been read: the line as it then is; or it ends by a fault. -/
def SecPost (B : Nat) (t : ByteArray) (wv : Value) (r : Except (Nat × Int) St) (w : World) (e : Ending) (w' : World) : Prop :=
  match r with
  | .ok s' => e = .returned (.tuple #[]) ∧ LineIs w' B t s' wv ∧ w.grownBy w' (some B)
  | .error x => e = .panicked [{ v := faultV x.1 x.2, recovered := false }] ∧ w.grownBy w' (some B)

def afterL (t : ByteArray) (a : Nat) : Nat := a + (partB t a).size + 1

/-- reading a number into a place. -/
def numSec (lo hi : Int) (put : St → Int → St) (t : ByteArray) (s : St) : Except (Nat × Int) St :=
  match numRes (partL t.data.toList s.a) lo hi with
  | .ok v => .ok (put { s with a := afterL t s.a } v)
  | .error er => .error (min s.a t.size, er)
def nameSec (put : St → ByteArray → St) (t : ByteArray) (s : St) : Except (Nat × Int) St :=
  if nameL (partL t.data.toList s.a) then .ok (put { s with a := afterL t s.a } (partB t s.a)) else .error (min s.a t.size, 5)

theorem num_ok_le {t : ByteArray} {a : Nat} {lo hi v : Int} (h : numRes (partL t.data.toList a) lo hi = .ok v) : afterL t a ≤ t.size + 1 := by
  have h1 := partB_le t a
  have h2 : a ≤ t.size := by
    rcases Nat.lt_or_ge t.size a with h3 | h3
    · have : partL t.data.toList a = [] := by unfold partL; rw [if_pos (by rw [← Lib.size_eq]; exact h3)]
      rw [this] at h
      have hf : formL [] = false := by decide
      unfold numRes at h; rw [hf] at h; cases h
    · exact h3
  unfold afterL; omega
theorem name_ok_le {t : ByteArray} {a : Nat} (h : nameL (partL t.data.toList a) = true) : afterL t a ≤ t.size + 1 := by
  have h1 := partB_le t a
  have h2 : a ≤ t.size := by
    rcases Nat.lt_or_ge t.size a with h3 | h3
    · have : partL t.data.toList a = [] := by unfold partL; rw [if_pos (by rw [← Lib.size_eq]; exact h3)]
      rw [this] at h
      have hf : nameL [] = false := by decide
      rw [hf] at h; cases h
    · exact h3
  unfold afterL; omega

set_option maxHeartbeats 1000000 in
theorem sec1_any (B : Nat) (t : ByteArray) (s : St) (wv : Value) (m : Int) (w : World) (hl : LineIs w B t s wv) (hm : w.cell? ⟨2, 0, none⟩ = some (.int .i64 m)) :
    Calls Tryz.prog 83 #[.pointer (some ⟨B, 0, none⟩)] w (SecPost B t wv (numSec 0 1073741824 (fun s v => { s with time := v }) t s) w) := by
  have hL := Lib.hid hl
  have HN := Lib.hid (number_any B t s.a 0 1073741824 m w hl.line hm)
  clear hl hm
  cases hr : numRes (partL t.data.toList s.a) 0 1073741824 with
  | ok v =>
    have HR := Lib.hid hr
    have HLE := Lib.hid (num_ok_le hr); clear hr
    go_enter Tryz.func83, Tryz.ntmps83
    go_wp2_with (go_at_call 84; refine HN.out.mono ?_; rintro e w1 hnp; unfold NumPost at hnp; rw [HR.out] at hnp; obtain ⟨rfl, hst⟩ := hnp; have HS := Lib.hid (hL.out.step hst HLE.out); have HG := Lib.hid hst.grown; clear hst; have c0 := (show w1.cell? ⟨B, 3, none⟩ = some (.int .i64 s.time) from HS.out.cell 3); have c1 := HS.out.frozen 3)
    go_end0
    unfold SecPost numSec
    rw [HR.out]
    exact ⟨rfl, ⟨by rw [heap_set HS.out.blk]; rfl, HS.out.small, HS.out.near⟩, grown_set HG.out⟩
  | error er =>
    have HR := Lib.hid hr; clear hr
    go_enter Tryz.func83, Tryz.ntmps83
    go_wp2_with (go_at_call 84; refine HN.out.mono ?_; rintro e w1 hnp; unfold NumPost at hnp; rw [HR.out] at hnp; obtain ⟨rfl, hst⟩ := hnp; have HS := Lib.hid hst; clear hst)
    refine ⟨rfl, ?_⟩
    unfold SecPost numSec
    rw [HR.out]
    exact ⟨rfl, grown_below HS.out⟩

set_option maxHeartbeats 1000000 in
theorem sec2_any (B : Nat) (t : ByteArray) (s : St) (wv : Value) (m : Int) (w : World) (hl : LineIs w B t s wv) (hm : w.cell? ⟨2, 0, none⟩ = some (.int .i64 m)) :
    Calls Tryz.prog 85 #[.pointer (some ⟨B, 0, none⟩)] w (SecPost B t wv (nameSec (fun s v => { s with src := v }) t s) w) := by
  have hL := Lib.hid hl
  have HN := Lib.hid (name_any B t s.a m w hl.line hm)
  clear hl hm
  cases hr : nameL (partL t.data.toList s.a) with
  | true =>
    have HR := Lib.hid hr
    have HLE := Lib.hid (name_ok_le hr); clear hr
    go_enter Tryz.func85, Tryz.ntmps85
    go_wp2_with (go_at_call 86; refine HN.out.mono ?_; rintro e w1 hnp; unfold NamePost at hnp; rw [HR.out] at hnp; obtain ⟨rfl, hst⟩ := hnp; have HS := Lib.hid (hL.out.step hst HLE.out); have HG := Lib.hid hst.grown; clear hst; have c0 := (show w1.cell? ⟨B, 4, none⟩ = some (.string s.src) from HS.out.cell 4); have c1 := HS.out.frozen 4)
    go_end0
    unfold SecPost nameSec
    rw [HR.out]
    exact ⟨rfl, ⟨by rw [heap_set HS.out.blk]; rfl, HS.out.small, HS.out.near⟩, grown_set HG.out⟩
  | false =>
    have HR := Lib.hid hr; clear hr
    go_enter Tryz.func85, Tryz.ntmps85
    go_wp2_with (go_at_call 86; refine HN.out.mono ?_; rintro e w1 hnp; unfold NamePost at hnp; rw [HR.out] at hnp; obtain ⟨rfl, hst⟩ := hnp; have HS := Lib.hid hst; clear hst)
    refine ⟨rfl, ?_⟩
    unfold SecPost nameSec
    rw [HR.out]
    exact ⟨rfl, grown_below HS.out⟩

set_option maxHeartbeats 1000000 in
theorem sec3_any (B : Nat) (t : ByteArray) (s : St) (wv : Value) (m : Int) (w : World) (hl : LineIs w B t s wv) (hm : w.cell? ⟨2, 0, none⟩ = some (.int .i64 m)) :
    Calls Tryz.prog 87 #[.pointer (some ⟨B, 0, none⟩)] w (SecPost B t wv (nameSec (fun s v => { s with abt := v }) t s) w) := by
  have hL := Lib.hid hl
  have HN := Lib.hid (name_any B t s.a m w hl.line hm)
  clear hl hm
  cases hr : nameL (partL t.data.toList s.a) with
  | true =>
    have HR := Lib.hid hr
    have HLE := Lib.hid (name_ok_le hr); clear hr
    go_enter Tryz.func87, Tryz.ntmps87
    go_wp2_with (go_at_call 86; refine HN.out.mono ?_; rintro e w1 hnp; unfold NamePost at hnp; rw [HR.out] at hnp; obtain ⟨rfl, hst⟩ := hnp; have HS := Lib.hid (hL.out.step hst HLE.out); have HG := Lib.hid hst.grown; clear hst; have c0 := (show w1.cell? ⟨B, 5, none⟩ = some (.string s.abt) from HS.out.cell 5); have c1 := HS.out.frozen 5)
    go_end0
    unfold SecPost nameSec
    rw [HR.out]
    exact ⟨rfl, ⟨by rw [heap_set HS.out.blk]; rfl, HS.out.small, HS.out.near⟩, grown_set HG.out⟩
  | false =>
    have HR := Lib.hid hr; clear hr
    go_enter Tryz.func87, Tryz.ntmps87
    go_wp2_with (go_at_call 86; refine HN.out.mono ?_; rintro e w1 hnp; unfold NamePost at hnp; rw [HR.out] at hnp; obtain ⟨rfl, hst⟩ := hnp; have HS := Lib.hid hst; clear hst)
    refine ⟨rfl, ?_⟩
    unfold SecPost nameSec
    rw [HR.out]
    exact ⟨rfl, grown_below HS.out⟩

set_option maxHeartbeats 1000000 in
theorem sec4_any (B : Nat) (t : ByteArray) (s : St) (wv : Value) (m : Int) (w : World) (hl : LineIs w B t s wv) (hm : w.cell? ⟨2, 0, none⟩ = some (.int .i64 m)) :
    Calls Tryz.prog 89 #[.pointer (some ⟨B, 0, none⟩)] w (SecPost B t wv (numSec 0 10000 (fun s v => { s with souls := v }) t s) w) := by
  have hL := Lib.hid hl
  have HN := Lib.hid (number_any B t s.a 0 10000 m w hl.line hm)
  clear hl hm
  cases hr : numRes (partL t.data.toList s.a) 0 10000 with
  | ok v =>
    have HR := Lib.hid hr
    have HLE := Lib.hid (num_ok_le hr); clear hr
    go_enter Tryz.func89, Tryz.ntmps89
    go_wp2_with (go_at_call 84; refine HN.out.mono ?_; rintro e w1 hnp; unfold NumPost at hnp; rw [HR.out] at hnp; obtain ⟨rfl, hst⟩ := hnp; have HS := Lib.hid (hL.out.step hst HLE.out); have HG := Lib.hid hst.grown; clear hst; have c0 := (show w1.cell? ⟨B, 7, none⟩ = some (.int .i64 s.souls) from HS.out.cell 7); have c1 := HS.out.frozen 7)
    go_end0
    unfold SecPost numSec
    rw [HR.out]
    exact ⟨rfl, ⟨by rw [heap_set HS.out.blk]; rfl, HS.out.small, HS.out.near⟩, grown_set HG.out⟩
  | error er =>
    have HR := Lib.hid hr; clear hr
    go_enter Tryz.func89, Tryz.ntmps89
    go_wp2_with (go_at_call 84; refine HN.out.mono ?_; rintro e w1 hnp; unfold NumPost at hnp; rw [HR.out] at hnp; obtain ⟨rfl, hst⟩ := hnp; have HS := Lib.hid hst; clear hst)
    refine ⟨rfl, ?_⟩
    unfold SecPost numSec
    rw [HR.out]
    exact ⟨rfl, grown_below HS.out⟩

set_option maxHeartbeats 1000000 in
theorem sec5_any (B : Nat) (t : ByteArray) (s : St) (wv : Value) (m : Int) (w : World) (hl : LineIs w B t s wv) (hm : w.cell? ⟨2, 0, none⟩ = some (.int .i64 m)) :
    Calls Tryz.prog 90 #[.pointer (some ⟨B, 0, none⟩)] w (SecPost B t wv (numSec 0 1000 (fun s v => { s with trust := v }) t s) w) := by
  have hL := Lib.hid hl
  have HN := Lib.hid (number_any B t s.a 0 1000 m w hl.line hm)
  clear hl hm
  cases hr : numRes (partL t.data.toList s.a) 0 1000 with
  | ok v =>
    have HR := Lib.hid hr
    have HLE := Lib.hid (num_ok_le hr); clear hr
    go_enter Tryz.func90, Tryz.ntmps90
    go_wp2_with (go_at_call 84; refine HN.out.mono ?_; rintro e w1 hnp; unfold NumPost at hnp; rw [HR.out] at hnp; obtain ⟨rfl, hst⟩ := hnp; have HS := Lib.hid (hL.out.step hst HLE.out); have HG := Lib.hid hst.grown; clear hst; have c0 := (show w1.cell? ⟨B, 8, none⟩ = some (.int .i64 s.trust) from HS.out.cell 8); have c1 := HS.out.frozen 8)
    go_end0
    unfold SecPost numSec
    rw [HR.out]
    exact ⟨rfl, ⟨by rw [heap_set HS.out.blk]; rfl, HS.out.small, HS.out.near⟩, grown_set HG.out⟩
  | error er =>
    have HR := Lib.hid hr; clear hr
    go_enter Tryz.func90, Tryz.ntmps90
    go_wp2_with (go_at_call 84; refine HN.out.mono ?_; rintro e w1 hnp; unfold NumPost at hnp; rw [HR.out] at hnp; obtain ⟨rfl, hst⟩ := hnp; have HS := Lib.hid hst; clear hst)
    refine ⟨rfl, ?_⟩
    unfold SecPost numSec
    rw [HR.out]
    exact ⟨rfl, grown_below HS.out⟩

end Go.Proofs.YtjcaaejfokmolaaGreatDoor
