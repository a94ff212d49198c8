/- readKind. -/
import Derived.Test.YtjcaaejfokmolaaGreatDoorRpLine
import Derived.Laws.Rows
namespace Go.Proofs.YtjcaaejfokmolaaGreatDoor
open Go.RowKit

def kwL : Nat → List UInt8
  | 1 => [98, 101, 97, 99, 111, 110]
  | 2 => [99, 97, 108, 108]
  | 3 => [102, 108, 97, 114, 101]
  | 4 => [109, 105, 115, 115, 105, 110, 103]
  | _ => []
def kwB (i : Nat) : ByteArray := ⟨(kwL i).toArray⟩

/-- the table of the kinds' words. -/
def Words (w : World) : Prop := ∀ i, i < 5 → w.cell? ⟨0, i, none⟩ = some (.string (kwB i))

def kindRes (p : List UInt8) : Option Int :=
  if p = kwL 1 then some 1 else if p = kwL 2 then some 2 else if p = kwL 3 then some 3 else if p = kwL 4 then some 4 else none

def kindSec (t : ByteArray) (s : St) : Except (Nat × Int) St :=
  match kindRes (partL t.data.toList s.a) with
  | some k => .ok { s with a := afterL t s.a, kind := k }
  | none => .error (min s.a t.size, 5)

theorem kwIndex0 (w : World) : (Instr.index 66 (.agg #[.string ⟨#[]⟩, .string ⟨#[98, 101, 97, 99, 111, 110]⟩, .string ⟨#[99, 97, 108, 108]⟩, .string ⟨#[102, 108, 97, 114, 101]⟩, .string ⟨#[109, 105, 115, 115, 105, 110, 103]⟩]) (.int .i64 0)).run Tryz.prog w = .ok (.string ⟨#[]⟩) w := by kernel_rfl
theorem kwIndex1 (w : World) : (Instr.index 66 (.agg #[.string ⟨#[]⟩, .string ⟨#[98, 101, 97, 99, 111, 110]⟩, .string ⟨#[99, 97, 108, 108]⟩, .string ⟨#[102, 108, 97, 114, 101]⟩, .string ⟨#[109, 105, 115, 115, 105, 110, 103]⟩]) (.int .i64 1)).run Tryz.prog w = .ok (.string ⟨#[98, 101, 97, 99, 111, 110]⟩) w := by kernel_rfl
theorem kwIndex2 (w : World) : (Instr.index 66 (.agg #[.string ⟨#[]⟩, .string ⟨#[98, 101, 97, 99, 111, 110]⟩, .string ⟨#[99, 97, 108, 108]⟩, .string ⟨#[102, 108, 97, 114, 101]⟩, .string ⟨#[109, 105, 115, 115, 105, 110, 103]⟩]) (.int .i64 2)).run Tryz.prog w = .ok (.string ⟨#[99, 97, 108, 108]⟩) w := by kernel_rfl
theorem kwIndex3 (w : World) : (Instr.index 66 (.agg #[.string ⟨#[]⟩, .string ⟨#[98, 101, 97, 99, 111, 110]⟩, .string ⟨#[99, 97, 108, 108]⟩, .string ⟨#[102, 108, 97, 114, 101]⟩, .string ⟨#[109, 105, 115, 115, 105, 110, 103]⟩]) (.int .i64 3)).run Tryz.prog w = .ok (.string ⟨#[102, 108, 97, 114, 101]⟩) w := by kernel_rfl
theorem kwIndex4 (w : World) : (Instr.index 66 (.agg #[.string ⟨#[]⟩, .string ⟨#[98, 101, 97, 99, 111, 110]⟩, .string ⟨#[99, 97, 108, 108]⟩, .string ⟨#[102, 108, 97, 114, 101]⟩, .string ⟨#[109, 105, 115, 115, 105, 110, 103]⟩]) (.int .i64 4)).run Tryz.prog w = .ok (.string ⟨#[109, 105, 115, 115, 105, 110, 103]⟩) w := by kernel_rfl

theorem LineIs.not_max {w B t s wv} {m : Int} (h : LineIs w B t s wv) (hm : w.cell? ⟨2, 0, none⟩ = some (.int .i64 m)) : 2 ≠ B := by
  rintro rfl
  have := h.cell 0
  rw [hm] at this
  simp [lineCells] at this

/-- the kind has been found: the word is passed. -/
theorem kind_hit (B : Nat) (t : ByteArray) (s : St) (wv : Value) (m : Int) (w : World) (n : Nat) (k : Int) (hl : LineIs w B t s wv) (hm : w.cell? ⟨2, 0, none⟩ = some (.int .i64 m)) (hp : partL t.data.toList s.a ≠ []) :
    Calls Tryz.prog 92 #[.pointer (some ⟨B, 0, none⟩)] ((w.setCell ⟨B, 2, none⟩ (.int .i64 k)).drewN n) fun e w' => e = .returned (.tuple #[]) ∧ LineIs w' B t { s with a := afterL t s.a, kind := k } wv ∧ w.grownBy w' (some B) := by
  have hne := hl.not_max hm
  have h1 : LineIs (w.setCell ⟨B, 2, none⟩ (.int .i64 k)) B t { s with kind := k } wv := ⟨by rw [heap_set hl.blk]; rfl, hl.small, hl.near⟩
  have h2 : (w.setCell ⟨B, 2, none⟩ (.int .i64 k)).cell? ⟨2, 0, none⟩ = some (.int .i64 m) := by
    rw [World.cell?_setCell_other (h := by intro e; injection e with e _; exact hne e.symm)]; exact hm
  have hle : afterL t s.a ≤ t.size + 1 := by
    have h1 := partB_le t s.a
    have h2 : s.a ≤ t.size := by
      rcases Nat.lt_or_ge t.size s.a with h3 | h3
      · exact absurd (by unfold partL; rw [if_pos (by rw [← Lib.size_eq]; exact h3)]) hp
      · exact h3
    unfold afterL; omega
  refine (next_at B t s.a m _ n h1.line h2).mono fun e w' ⟨he, hs⟩ => ⟨he, h1.step hs hle, grown_trans (grown_set (grown_refl w _)) hs.grown⟩

theorem kindRes_step {p : List UInt8} {k : Nat} (h1 : 1 ≤ k) (h4 : k ≤ 4) (hno : ∀ j, 1 ≤ j → j < k → p ≠ kwL j) (hp : p = kwL k) : kindRes p = some (k : Int) := by
  have hk : k = 1 ∨ k = 2 ∨ k = 3 ∨ k = 4 := by omega
  rcases hk with rfl | rfl | rfl | rfl <;> subst hp <;> rfl
theorem kindRes_none {p : List UInt8} (hno : ∀ j, 1 ≤ j → j < 5 → p ≠ kwL j) : kindRes p = none := by
  unfold kindRes
  rw [if_neg (hno 1 (by omega) (by omega)), if_neg (hno 2 (by omega) (by omega)), if_neg (hno 3 (by omega) (by omega)), if_neg (hno 4 (by omega) (by omega))]
theorem no_more {p : List UInt8} {k : Nat} (hno : ∀ j, 1 ≤ j → j < k → p ≠ kwL j) (hp : p ≠ kwL k) : ∀ j, 1 ≤ j → j < k + 1 → p ≠ kwL j := fun j h1 h2 => by
  by_cases e : j = k
  · subst e; exact hp
  · exact hno j h1 (by omega)

set_option maxRecDepth 100000 in
set_option maxHeartbeats 2000000 in
theorem readKind_any (B : Nat) (t : ByteArray) (s : St) (wv : Value) (m : Int) (w : World) (hl : LineIs w B t s wv) (hm : w.cell? ⟨2, 0, none⟩ = some (.int .i64 m)) (hk : Words w) :
    Calls Tryz.prog 82 #[.pointer (some ⟨B, 0, none⟩)] w (SecPost B t wv (kindSec t s) w) := by
  have hL := Lib.hid hl
  have HM := Lib.hid hm
  have k0 := hk 0 (by omega); have k1 := hk 1 (by omega); have k2 := hk 2 (by omega); have k3 := hk 3 (by omega); have k4 := hk 4 (by omega)
  simp only [kwB, kwL] at k0 k1 k2 k3 k4
  have c2 := (show w.cell? ⟨B, 2, none⟩ = some (.int .i64 s.kind) from hl.cell 2)
  have f2 := hl.frozen 2
  clear hl hm hk
  have i0 := kwIndex0; have i1 := kwIndex1; have i2 := kwIndex2; have i3 := kwIndex3; have i4 := kwIndex4
  go_enter Tryz.func82, Tryz.ntmps82
  go_wp2
  obtain ⟨p, hp0⟩ : ∃ p, p = partB t s.a := ⟨_, rfl⟩
  have HX : Hid (partL t.data.toList s.a = p.data.toList) := Lib.hid (by rw [hp0]; rfl)
  have HP : Hid (∀ k, Calls Tryz.prog 91 #[.pointer (some ⟨B, 0, none⟩)] (w.drewN k) fun e w' => e = .returned (.string p) ∧ ∃ n, w' = w.drewN n) := Lib.hid (by rw [hp0]; exact fun k => part_at B t s.a m w k hL.out.line HM.out)
  clear hp0
  go_loopw [5] (fun iv wr => ∃ (k : Int) (n : Nat), 0 ≤ k ∧ k ≤ 5 ∧ iv = .int .i64 k ∧ wr = w.drewN n ∧ ∀ j : Nat, 1 ≤ j → (j : Int) < k → p.data.toList ≠ kwL j) (fun iv _ => 5 - (intOf iv).toNat)
  case atStart => exact ⟨0, 0, by omega, by omega, rfl, rfl, fun j h1 h2 => by omega⟩
  case round =>
    obtain ⟨k, n, hk0, hk, rfl, rfl, hno⟩ := hrel
    have HNOI := Lib.hid hno; clear hno
    have hcases : k = 0 ∨ k = 1 ∨ k = 2 ∨ k = 3 ∨ k = 4 ∨ k = 5 := by omega
    rcases hcases with rfl | rfl | rfl | rfl | rfl | rfl
    · have hkd := fun W => isKind_any 0 W
      rw [show inB 0 1 4 = false from rfl] at hkd
      have HK := Lib.hid hkd; clear hkd
      go_wp2_with (first | (go_at_call 40; refine (HK.out _).mono ?_; rintro e w' ⟨rfl, rfl⟩))
      go_roundw
      case rel => exact ⟨1, n, by omega, by omega, rfl, rfl, fun j h1 h2 => by omega⟩
      case measure => simp [intOf]
    · have HNO : Hid (∀ j : Nat, 1 ≤ j → j < 1 → p.data.toList ≠ kwL j) := Lib.hid fun j h1 h2 => HNOI.out j h1 (by omega)
      have hkd := fun W => isKind_any 1 W
      rw [show inB 1 1 4 = true from rfl] at hkd
      have HK := Lib.hid hkd; clear hkd
      by_cases hp : p.toList = [98, 101, 97, 99, 111, 110]
      · have hp2 : p.data.toList = kwL 1 := by rw [← ByteArray.toList_eq, hp]; rfl
        have hp3 : [98, 101, 97, 99, 111, 110] = p.toList := hp.symm
        have hp4 : ([98, 101, 97, 99, 111, 110] == p.toList) = true := by rw [hp]; rfl
        have HK2 := Lib.hid (kindRes_step (k := 1) (by omega) (by omega) HNO.out hp2)
        have HP2 := Lib.hid hp2; have HPP := Lib.hid hp; clear hp hp2 hp3
        go_wp2_with (first | (go_at_call 40; refine (HK.out _).mono ?_; rintro e w' ⟨rfl, rfl⟩) | (go_at_call 91; refine (HP.out _).mono ?_; rintro e w' ⟨rfl, n2, rfl⟩) | (go_at_call 92; refine (kind_hit B t s wv m w _ 1 hL.out HM.out (by rw [HX.out, HP2.out]; exact List.cons_ne_nil _ _)).mono ?_; rintro e w' ⟨rfl, hl', hg'⟩; have HL' := Lib.hid hl'; have HG' := Lib.hid hg'; clear hl' hg'))
        refine bodyPost_ret (results_none rfl _ _ _) rfl ?_
        unfold SecPost kindSec
        rw [HX.out, HK2.out]
        exact ⟨rfl, HL'.out, HG'.out⟩
      · have hp3 : ¬ [98, 101, 97, 99, 111, 110] = p.toList := fun e => hp e.symm
        have hp4 : ([98, 101, 97, 99, 111, 110] == p.toList) = false := by simpa using hp3
        have HNO' := Lib.hid (no_more (k := 1) HNO.out (by rw [← ByteArray.toList_eq]; exact hp))
        clear hp hp3
        go_wp2_with (first | (go_at_call 40; refine (HK.out _).mono ?_; rintro e w' ⟨rfl, rfl⟩) | (go_at_call 91; refine (HP.out _).mono ?_; rintro e w' ⟨rfl, n2, rfl⟩))
        go_roundw
        case rel => exact ⟨2, _, by omega, by omega, rfl, rfl, fun j h1 h2 => HNO'.out j h1 (by omega)⟩
        case measure => simp [intOf]
    · have HNO : Hid (∀ j : Nat, 1 ≤ j → j < 2 → p.data.toList ≠ kwL j) := Lib.hid fun j h1 h2 => HNOI.out j h1 (by omega)
      have hkd := fun W => isKind_any 2 W
      rw [show inB 2 1 4 = true from rfl] at hkd
      have HK := Lib.hid hkd; clear hkd
      by_cases hp : p.toList = [99, 97, 108, 108]
      · have hp2 : p.data.toList = kwL 2 := by rw [← ByteArray.toList_eq, hp]; rfl
        have hp3 : [99, 97, 108, 108] = p.toList := hp.symm
        have hp4 : ([99, 97, 108, 108] == p.toList) = true := by rw [hp]; rfl
        have HK2 := Lib.hid (kindRes_step (k := 2) (by omega) (by omega) HNO.out hp2)
        have HP2 := Lib.hid hp2; have HPP := Lib.hid hp; clear hp hp2 hp3
        go_wp2_with (first | (go_at_call 40; refine (HK.out _).mono ?_; rintro e w' ⟨rfl, rfl⟩) | (go_at_call 91; refine (HP.out _).mono ?_; rintro e w' ⟨rfl, n2, rfl⟩) | (go_at_call 92; refine (kind_hit B t s wv m w _ 2 hL.out HM.out (by rw [HX.out, HP2.out]; exact List.cons_ne_nil _ _)).mono ?_; rintro e w' ⟨rfl, hl', hg'⟩; have HL' := Lib.hid hl'; have HG' := Lib.hid hg'; clear hl' hg'))
        refine bodyPost_ret (results_none rfl _ _ _) rfl ?_
        unfold SecPost kindSec
        rw [HX.out, HK2.out]
        exact ⟨rfl, HL'.out, HG'.out⟩
      · have hp3 : ¬ [99, 97, 108, 108] = p.toList := fun e => hp e.symm
        have hp4 : ([99, 97, 108, 108] == p.toList) = false := by simpa using hp3
        have HNO' := Lib.hid (no_more (k := 2) HNO.out (by rw [← ByteArray.toList_eq]; exact hp))
        clear hp hp3
        go_wp2_with (first | (go_at_call 40; refine (HK.out _).mono ?_; rintro e w' ⟨rfl, rfl⟩) | (go_at_call 91; refine (HP.out _).mono ?_; rintro e w' ⟨rfl, n2, rfl⟩))
        go_roundw
        case rel => exact ⟨3, _, by omega, by omega, rfl, rfl, fun j h1 h2 => HNO'.out j h1 (by omega)⟩
        case measure => simp [intOf]
    · have HNO : Hid (∀ j : Nat, 1 ≤ j → j < 3 → p.data.toList ≠ kwL j) := Lib.hid fun j h1 h2 => HNOI.out j h1 (by omega)
      have hkd := fun W => isKind_any 3 W
      rw [show inB 3 1 4 = true from rfl] at hkd
      have HK := Lib.hid hkd; clear hkd
      by_cases hp : p.toList = [102, 108, 97, 114, 101]
      · have hp2 : p.data.toList = kwL 3 := by rw [← ByteArray.toList_eq, hp]; rfl
        have hp3 : [102, 108, 97, 114, 101] = p.toList := hp.symm
        have hp4 : ([102, 108, 97, 114, 101] == p.toList) = true := by rw [hp]; rfl
        have HK2 := Lib.hid (kindRes_step (k := 3) (by omega) (by omega) HNO.out hp2)
        have HP2 := Lib.hid hp2; have HPP := Lib.hid hp; clear hp hp2 hp3
        go_wp2_with (first | (go_at_call 40; refine (HK.out _).mono ?_; rintro e w' ⟨rfl, rfl⟩) | (go_at_call 91; refine (HP.out _).mono ?_; rintro e w' ⟨rfl, n2, rfl⟩) | (go_at_call 92; refine (kind_hit B t s wv m w _ 3 hL.out HM.out (by rw [HX.out, HP2.out]; exact List.cons_ne_nil _ _)).mono ?_; rintro e w' ⟨rfl, hl', hg'⟩; have HL' := Lib.hid hl'; have HG' := Lib.hid hg'; clear hl' hg'))
        refine bodyPost_ret (results_none rfl _ _ _) rfl ?_
        unfold SecPost kindSec
        rw [HX.out, HK2.out]
        exact ⟨rfl, HL'.out, HG'.out⟩
      · have hp3 : ¬ [102, 108, 97, 114, 101] = p.toList := fun e => hp e.symm
        have hp4 : ([102, 108, 97, 114, 101] == p.toList) = false := by simpa using hp3
        have HNO' := Lib.hid (no_more (k := 3) HNO.out (by rw [← ByteArray.toList_eq]; exact hp))
        clear hp hp3
        go_wp2_with (first | (go_at_call 40; refine (HK.out _).mono ?_; rintro e w' ⟨rfl, rfl⟩) | (go_at_call 91; refine (HP.out _).mono ?_; rintro e w' ⟨rfl, n2, rfl⟩))
        go_roundw
        case rel => exact ⟨4, _, by omega, by omega, rfl, rfl, fun j h1 h2 => HNO'.out j h1 (by omega)⟩
        case measure => simp [intOf]
    · have HNO : Hid (∀ j : Nat, 1 ≤ j → j < 4 → p.data.toList ≠ kwL j) := Lib.hid fun j h1 h2 => HNOI.out j h1 (by omega)
      have hkd := fun W => isKind_any 4 W
      rw [show inB 4 1 4 = true from rfl] at hkd
      have HK := Lib.hid hkd; clear hkd
      by_cases hp : p.toList = [109, 105, 115, 115, 105, 110, 103]
      · have hp2 : p.data.toList = kwL 4 := by rw [← ByteArray.toList_eq, hp]; rfl
        have hp3 : [109, 105, 115, 115, 105, 110, 103] = p.toList := hp.symm
        have hp4 : ([109, 105, 115, 115, 105, 110, 103] == p.toList) = true := by rw [hp]; rfl
        have HK2 := Lib.hid (kindRes_step (k := 4) (by omega) (by omega) HNO.out hp2)
        have HP2 := Lib.hid hp2; have HPP := Lib.hid hp; clear hp hp2 hp3
        go_wp2_with (first | (go_at_call 40; refine (HK.out _).mono ?_; rintro e w' ⟨rfl, rfl⟩) | (go_at_call 91; refine (HP.out _).mono ?_; rintro e w' ⟨rfl, n2, rfl⟩) | (go_at_call 92; refine (kind_hit B t s wv m w _ 4 hL.out HM.out (by rw [HX.out, HP2.out]; exact List.cons_ne_nil _ _)).mono ?_; rintro e w' ⟨rfl, hl', hg'⟩; have HL' := Lib.hid hl'; have HG' := Lib.hid hg'; clear hl' hg'))
        refine bodyPost_ret (results_none rfl _ _ _) rfl ?_
        unfold SecPost kindSec
        rw [HX.out, HK2.out]
        exact ⟨rfl, HL'.out, HG'.out⟩
      · have hp3 : ¬ [109, 105, 115, 115, 105, 110, 103] = p.toList := fun e => hp e.symm
        have hp4 : ([109, 105, 115, 115, 105, 110, 103] == p.toList) = false := by simpa using hp3
        have HNO' := Lib.hid (no_more (k := 4) HNO.out (by rw [← ByteArray.toList_eq]; exact hp))
        clear hp hp3
        go_wp2_with (first | (go_at_call 40; refine (HK.out _).mono ?_; rintro e w' ⟨rfl, rfl⟩) | (go_at_call 91; refine (HP.out _).mono ?_; rintro e w' ⟨rfl, n2, rfl⟩))
        go_roundw
        case rel => exact ⟨5, _, by omega, by omega, rfl, rfl, fun j h1 h2 => HNO'.out j h1 (by omega)⟩
        case measure => simp [intOf]
    · have HK2 := Lib.hid (kindRes_none fun j h1 h2 => HNOI.out j h1 (by omega))
      go_wp2_with (first | (go_at_call 93; refine (fail_at B t s.a 5 w _ hL.out.line).mono ?_; rintro e w' ⟨rfl, n2, rfl⟩))
      refine ⟨rfl, ?_⟩
      unfold SecPost kindSec
      rw [HX.out, HK2.out]
      exact ⟨rfl, grown_draws (grown_refl _ _) _⟩
end Go.Proofs.YtjcaaejfokmolaaGreatDoor
