/- Several parts: CheckArea at one place; what end asks. A region that begins with recover: behind it, it is walked as any other. Of no program. -/
import Derived.Test.YtjcaaejfokmolaaGreatDoorRpCheck
import Derived.Test.YtjcaaejfokmolaaGreatDoorRpMem
import Derived.Recover
import Derived.Orders
/- CheckArea at one place; what end asks. -/
namespace Go.Proofs.YtjcaaejfokmolaaGreatDoor
open Go.RowKit

set_option maxRecDepth 100000 in
set_option maxHeartbeats 2000000 in
theorem CheckArea_one (A : Option Addr) (cap : Nat) (p : Int × Int) (w : World) (h : Area w (.slice A 1 cap) [p]) :
    Calls Tryz.prog 10 #[.slice A 1 cap] w fun e w' => e = .returned (.bool (placeB p)) ∧ Below w.heap.size w w' := by
  obtain ⟨h1, hcap, g, off, rfl, hg, c1, c2⟩ := h.at_ (k := 0) (by simp)
  clear h1
  have a1 : w.cell? ⟨g, off, none⟩ = some (.int .i64 p.1) := c1
  have a2 : w.cell? ⟨g, off + 1, none⟩ = some (.int .i64 p.2) := c2
  have hfr : ∀ W, Calls Tryz.prog 30 #[.int .i64 1, .int .i64 1, .int .i64 12] W fun e w' => e = .returned (.bool true) ∧ W = w' := fun W => isFrom_any 1 1 12 W
  have HFR := Lib.hid hfr
  have hpl : ∀ W, Calls Tryz.prog 31 #[.agg #[.int .i64 p.1, .int .i64 p.2]] W fun e w' => e = .returned (.bool (placeB p)) ∧ Below W.heap.size W w' := fun W => isPlace_any p W
  obtain ⟨b, hb⟩ : ∃ b, b = placeB p := ⟨_, rfl⟩
  rw [← hb] at hpl ⊢
  have HPL := Lib.hid hpl
  clear h c1 c2 hfr hpl hb
  cases b with
  | true =>
    go_enter Tryz.func10, Tryz.ntmps10
    go_wp2_with (go_at_call 30; ((with_reducible refine (HFR.out _).mono ?_); rintro e w' ⟨rfl, rfl⟩))
    go_loopw [11] (fun iv wr => ∃ k : Int, 0 ≤ k ∧ k ≤ 1 ∧ iv = .int .i64 k ∧ Hid (Below w.heap.size w wr)) (fun iv _ => 1 - (intOf iv).toNat)
    case atStart => exact ⟨0, by omega, by omega, rfl, Lib.hid (Below.refl _ _)⟩
    case round =>
      obtain ⟨k, hk0, hk1, rfl, HB⟩ := hrel
      have hk : k = 0 ∨ k = 1 := by omega
      rcases hk with rfl | rfl
      · have d1 := (HB.out.cell (p := ⟨g, off, none⟩) hg).trans a1
        have d2 := (HB.out.cell (p := ⟨g, off + 1, none⟩) hg).trans a2
        go_wp2_with (go_at_call 31; ((with_reducible refine (HPL.out _).mono ?_); rintro e w' ⟨rfl, hb⟩); have HB2 := Lib.hid hb; clear hb)
        go_roundw
        case rel => exact ⟨1, by omega, by omega, rfl, Lib.hid (below_chain (HB.out.trans (((Below.refl _ _).alloc (Nat.le_refl _) _).mono HB.out.size)) HB2.out)⟩
        case measure => simp [intOf]
      · go_wp2
        go_ret
        exact ⟨rfl, HB.out⟩
  | false =>
    go_enter Tryz.func10, Tryz.ntmps10
    go_wp2_with (go_at_call 30; ((with_reducible refine (HFR.out _).mono ?_); rintro e w' ⟨rfl, rfl⟩))
    go_loopw [11] (fun iv wr => ∃ k : Int, k = 0 ∧ iv = .int .i64 k ∧ Hid (Below w.heap.size w wr)) (fun iv _ => 1 - (intOf iv).toNat)
    case atStart => exact ⟨0, rfl, rfl, Lib.hid (Below.refl _ _)⟩
    case round =>
      obtain ⟨k, rfl, rfl, HB⟩ := hrel
      have d1 := (HB.out.cell (p := ⟨g, off, none⟩) hg).trans a1
      have d2 := (HB.out.cell (p := ⟨g, off + 1, none⟩) hg).trans a2
      go_wp2_with (go_at_call 31; ((with_reducible refine (HPL.out _).mono ?_); rintro e w' ⟨rfl, hb⟩); have HB2 := Lib.hid hb; clear hb)
      go_ret
      exact ⟨rfl, below_chain (HB.out.trans (((Below.refl _ _).alloc (Nat.le_refl _) _).mono HB.out.size)) HB2.out⟩

/-- what end asks of a line. -/
def endR (t : ByteArray) (s : St) (q : Bool) : Except (Nat × Int) St :=
  if t.size < s.a then (if checkB s q then .ok s else .error (min s.a t.size, 2)) else .error (min s.a t.size, 5)

set_option maxRecDepth 100000 in
set_option maxHeartbeats 2000000 in
theorem end_any (m : Int) (B : Nat) (t : ByteArray) (s : Sl) (wv : Value) (w : World) (q : Bool) (hh : Held m w B t s wv) (hq : AreaSays w wv q) (h1 : s.1.abt.size ≤ 9223372036854775807) (h2 : s.1.src.size ≤ 9223372036854775807) :
    Calls Tryz.prog 51 #[.pointer (some ⟨B, 0, none⟩)] w fun e w' =>
      match endR t s.1 q with
      | .ok _ => e = .returned (.tuple #[]) ∧ Below w.heap.size w w'
      | .error x => e = .panicked [{ v := faultV x.1 x.2, recovered := false }] ∧ Below w.heap.size w w' := by
  have HH := Lib.hid hh
  have HD := Lib.hid (isDone_any B t s.1.a w hh.line.line)
  by_cases hd : t.size < s.1.a
  · rw [decide_eq_true hd] at HD
    obtain ⟨A, cap, hwv, _⟩ := hh.area
    have HC : Hid (∀ n, Calls Tryz.prog 16 #[.agg #[.int .i64 s.1.kind, .int .i64 s.1.time, .string s.1.src, .string s.1.abt, wv, .int .i64 s.1.souls, .int .i64 s.1.trust]] (w.drewN n) fun e w' => e = .returned (.bool (checkB s.1 q)) ∧ Below w.heap.size w w') := Lib.hid fun n =>
      (CheckReport_any s.1 wv A s.2.length cap hwv (w.drewN n) q (fun w' hb => hq w' ((below_draws' w n).trans hb)) h1 h2).mono fun e w' ⟨he, hb⟩ => ⟨he, (below_draws' w n).trans hb⟩
    have k2 := (show w.cell? ⟨B, 2, none⟩ = some (.int .i64 s.1.kind) from hh.line.cell 2)
    have k3 := (show w.cell? ⟨B, 3, none⟩ = some (.int .i64 s.1.time) from hh.line.cell 3)
    have k4 := (show w.cell? ⟨B, 4, none⟩ = some (.string s.1.src) from hh.line.cell 4)
    have k5 := (show w.cell? ⟨B, 5, none⟩ = some (.string s.1.abt) from hh.line.cell 5)
    have k6 := (show w.cell? ⟨B, 6, none⟩ = some wv from hh.line.cell 6)
    have k7 := (show w.cell? ⟨B, 7, none⟩ = some (.int .i64 s.1.souls) from hh.line.cell 7)
    have k8 := (show w.cell? ⟨B, 8, none⟩ = some (.int .i64 s.1.trust) from hh.line.cell 8)
    have hres : endR t s.1 q = if checkB s.1 q then .ok s.1 else .error (min s.1.a t.size, 2) := by unfold endR; rw [if_pos hd]
    rw [hres]
    obtain ⟨b, hb⟩ : ∃ b, b = checkB s.1 q := ⟨_, rfl⟩
    rw [← hb] at HC ⊢
    clear hd hh hq hb hres h1 h2
    subst hwv
    cases b with
    | true =>
      go_enter Tryz.func51, Tryz.ntmps51
      go_wp2_with (first | (go_at_call 94; ((with_reducible refine HD.out.mono ?_); rintro e w' ⟨rfl, n, rfl⟩)) | (go_at_call 16; ((with_reducible refine (HC.out _).mono ?_); rintro e w' ⟨rfl, hb⟩); have HB := Lib.hid hb; clear hb))
      go_end0
      exact ⟨rfl, HB.out⟩
    | false =>
      go_enter Tryz.func51, Tryz.ntmps51
      go_wp2_with (first | (go_at_call 94; ((with_reducible refine HD.out.mono ?_); rintro e w' ⟨rfl, n, rfl⟩)) | (go_at_call 16; ((with_reducible refine (HC.out _).mono ?_); rintro e w' ⟨rfl, hb⟩); have HB := Lib.hid hb; clear hb))
      refine (fail_any B t s.1.a 2 _ (HH.out.line.line.below HB.out)).mono ?_
      rintro e w' ⟨rfl, n, rfl⟩
      go_wp2_with fail
      exact ⟨rfl, rfl, HB.out.trans ((below_draws' _ n).mono HB.out.size)⟩
  · rw [decide_eq_false hd] at HD
    have hres : endR t s.1 q = .error (min s.1.a t.size, 5) := by unfold endR; rw [if_neg hd]
    rw [hres]
    clear hd hh hq hres
    go_enter Tryz.func51, Tryz.ntmps51
    go_wp2_with (first | (go_at_call 94; ((with_reducible refine HD.out.mono ?_); rintro e w' ⟨rfl, n, rfl⟩)) | (go_at_call 93; refine (fail_at B t s.1.a 5 w _ HH.out.line.line).mono ?_; rintro e w' ⟨rfl, n, rfl⟩))
    exact ⟨rfl, rfl, below_draws' _ _⟩
end Go.Proofs.YtjcaaejfokmolaaGreatDoor
/- A region that begins with recover: behind it, it is walked as any other. Of no program. -/
namespace Go.Proofs.YtjcaaejfokmolaaGreatDoor

theorem wpOpsS_of_list {P : Program} {ops : Array Oper} {Q : Exit → Act → List Frame → World → Prop} {cs : List Frame} (hQ : ¬ LetsOut (fun e a w => Q e a cs w)) :
    ∀ (l : List Oper) (k : Nat), (∀ j, l[j]? = ops[k + j]?) → ∀ a w, wpList P ops (fun e a w => Q e a cs w) l a w → wpOpsS P ops Q (List.range' k l.length) a cs w
  | [], _, _, _, _, h => h
  | o :: l, k, hk, a, w, h => by
    have h0 : ops[k]? = some o := by simpa using (hk 0).symm
    have ih := wpOpsS_of_list (P := P) (ops := ops) hQ l (k + 1) (fun j => by have := hk (j + 1); simpa [Nat.add_assoc, Nat.add_comm 1 j] using this)
    rw [List.length_cons, List.range'_succ]
    unfold wpOpsS
    rw [h0]
    simp only
    unfold wpList at h
    split
    · rename_i hw
      rw [if_pos hw] at h
      have h2 : o.wp P a w (wpList P ops (fun e a w => Q e a cs w) l) (fun e a w => Q e a cs w) := h.resolve_right fun x => hQ x.2
      have h3 := Oper.wp_mono (K' := fun a' w' => wpOpsS P ops Q (List.range' (k + 1) l.length) a' cs w') (fun a w h => ih a w h) h2
      unfold Oper.wp at h3
      generalize (execOp a.eval o).run P w = r at *
      split
      · exact (h3 : False).elim
      · exact h3
    · rename_i hw
      rw [if_neg hw] at h
      exact ih _ _ h

theorem wpS_region_recover {P : Program} {ops : Array Oper} {id : Nat} {Q : Exit → Act → List Frame → World → Prop} {a : Act} {cs cs' : List Frame} {w : World} {o : Oper} {l : List Oper} {v : Value} (hl : ops.toList = o :: l)
    (ho : o.guard = none) (hr : (execOp a.eval o).run P w = .ok .recover w) (hc : recoverD cs = some (v, cs')) (hQ : ¬ LetsOut (fun e a w => Q e a cs' w))
    (h : wpList P ops (fun e a w => Q e a cs' w) l (a.put o.dst v) w) : (Code.region id ops false).wpS P Q a cs w := by
  refine wpS_region ?_
  have hs : ops.size = l.length + 1 := by rw [← Array.length_toList, hl]; rfl
  have hat : ∀ j, ops[j]? = (o :: l)[j]? := fun j => by rw [← Array.getElem?_toList, hl]
  rw [hs, List.range_eq_range', List.range'_succ]
  unfold wpOpsS
  rw [hat 0]
  simp only [List.getElem?_cons_zero]
  rw [if_pos (by simp [Region.wanted, ho]), hr]
  simp only [hc]
  exact wpOpsS_of_list hQ l 1 (fun j => by rw [hat, Nat.add_comm]; rfl) _ _ h

theorem wpS_region_idle {P : Program} {ops : Array Oper} {id : Nat} {Q : Exit → Act → List Frame → World → Prop} {a : Act} {cs : List Frame} {w : World} {o : Oper} {l : List Oper} (hl : ops.toList = o :: l)
    (ho : o.guard = none) (hr : (execOp a.eval o).run P w = .ok .recover w) (hc : recoverD cs = none) (hQ : ¬ LetsOut (fun e a w => Q e a cs w))
    (h : wpList P ops (fun e a w => Q e a cs w) l (a.put o.dst .nilIface) w) : (Code.region id ops false).wpS P Q a cs w := by
  refine wpS_region ?_
  have hs : ops.size = l.length + 1 := by rw [← Array.length_toList, hl]; rfl
  have hat : ∀ j, ops[j]? = (o :: l)[j]? := fun j => by rw [← Array.getElem?_toList, hl]
  rw [hs, List.range_eq_range', List.range'_succ]
  unfold wpOpsS
  rw [hat 0]
  simp only [List.getElem?_cons_zero]
  rw [if_pos (by simp [Region.wanted, ho]), hr]
  simp only [hc]
  exact wpOpsS_of_list hQ l 1 (fun j => by rw [hat, Nat.add_comm]; rfl) _ _ h
end Go.Proofs.YtjcaaejfokmolaaGreatDoor
