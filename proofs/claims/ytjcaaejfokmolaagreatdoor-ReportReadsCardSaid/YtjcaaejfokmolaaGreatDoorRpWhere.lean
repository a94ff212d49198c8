/- readWhere: places, as many as there are. -/
import Derived.Test.YtjcaaejfokmolaaGreatDoorRpSection
import Derived.Laws.OwnMore
import Derived.Laws.NewBlocks
namespace Go.Proofs.YtjcaaejfokmolaaGreatDoor
open Go.RowKit

def soulsL : List UInt8 := [115, 111, 117, 108, 115]
def trustL : List UInt8 := [116, 114, 117, 115, 116]
def stopB (t : ByteArray) (a : Nat) : Bool := decide (t.size < a) || partL t.data.toList a == soulsL || partL t.data.toList a == trustL

def whereL (t : ByteArray) : Nat → Sl → Except (Nat × Int) Sl
  | 0, s => .error (min s.1.a t.size, 3)
  | fuel + 1, s => match numRes (partL t.data.toList s.1.a) (-16777216) 16777216 with
    | .error er => .error (min s.1.a t.size, er)
    | .ok x => match numRes (partL t.data.toList (afterL t s.1.a)) (-16777216) 16777216 with
      | .error er => .error (min (afterL t s.1.a) t.size, er)
      | .ok y => if stopB t (afterL t (afterL t s.1.a)) then .ok ({ s.1 with a := afterL t (afterL t s.1.a) }, s.2 ++ [(x, y)])
        else whereL t fuel ({ s.1 with a := afterL t (afterL t s.1.a) }, s.2 ++ [(x, y)])

def whereSec (t : ByteArray) (s : Sl) : Except (Nat × Int) Sl := whereL t 12 s

def spotCells (l : List (Int × Int)) : List Value := l.flatMap fun p => [.int .i64 p.1, .int .i64 p.2]
theorem spotCells_snoc (l : List (Int × Int)) (x y : Int) : spotCells (l ++ [(x, y)]) = spotCells l ++ [.int .i64 x, .int .i64 y] := by simp [spotCells]
theorem spotCells_at (l : List (Int × Int)) (i : Nat) (x y : Int) (h : l[i]? = some (x, y)) : (spotCells l)[i * 2]? = some (.int .i64 x) ∧ (spotCells l)[i * 2 + 1]? = some (.int .i64 y) := by
  induction l generalizing i with
  | nil => simp at h
  | cons a r ih =>
    cases i with
    | zero => simp at h; subst h; simp [spotCells]
    | succ i =>
      have := ih i (by simpa using h)
      have e : spotCells (a :: r) = .int .i64 a.1 :: .int .i64 a.2 :: spotCells r := by simp [spotCells]
      rw [e, show (i + 1) * 2 = i * 2 + 1 + 1 by omega]
      simpa using this

theorem addr_add (g j : Nat) : (⟨g, 0, none⟩ : Addr).add j = ⟨g, j, none⟩ := by
  unfold Addr.add
  by_cases h : j = 0 <;> simp [h]

/-- a row of one's own is a list of places. -/
theorem Area.of_own {w : World} {base : Nat} {v : Value} {l : List (Int × Int)} (h : w.ownsRow base 24 2 v l.length (spotCells l)) : Area w v l := by
  rcases h.2 with ⟨rfl, hn⟩ | ⟨g, cap, cur, rfl, _, hh, hc, _⟩
  · exact ⟨none, 0, by rw [hn], by omega, fun hne => absurd (List.eq_nil_of_length_eq_zero hn) hne⟩
  · refine ⟨_, cap, rfl, hc, fun _ => ⟨g, 0, rfl, (Array.getElem?_eq_some_iff.1 hh).1, fun i x y hi => ?_⟩⟩
    obtain ⟨h1, h2⟩ := spotCells_at l i x y hi
    have c1 := h.cells (g := g) rfl _ _ h1
    have c2 := h.cells (g := g) rfl _ _ h2
    rw [addr_add] at c1 c2
    rw [Nat.zero_add]
    exact ⟨c1, c2⟩

theorem own_shape {w : World} {base e size n : Nat} {v : Value} {xs : List Value} (h : w.ownsRow base e size v n xs) : ∃ A cap, v = .slice A n cap := by
  rcases h.2 with ⟨rfl, rfl⟩ | ⟨g, cap, cur, rfl, _⟩
  · exact ⟨_, _, rfl⟩
  · exact ⟨_, _, rfl⟩
theorem own_apart {w : World} {base e size n B : Nat} {v : Value} {xs : List Value} (h : w.ownsRow base e size v n xs) (hB : B < base) : v.ownBlock ≠ some B := by
  intro e
  have := (h.lt _ e).1
  omega
theorem grown_own {a b c : World} {B : Nat} {r : Option Nat} (h : a.grownBy b (some B)) (k : b.grownBy c r) (hr : ∀ j, r = some j → a.heap.size ≤ j) : a.grownBy c (some B) :=
  ⟨k.os.trans h.os, k.tape.trans h.tape, k.output.trans h.output, Nat.le_trans h.size k.size, fun i hi hne => (k.block i (Nat.lt_of_lt_of_le hi h.size) (by intro e; have := hr i e.symm; omega)).trans (h.block i hi hne)⟩

theorem infoSpot : (Tryz.prog.info? 24).map (fun i => (i.zero, i.size, i.bytes)) = some (some (.agg #[.int .i64 0, .int .i64 0]), 2, 16) := by kernel_rfl
theorem two_new (W : World) (x y : Value) (T : TypeId) : ∀ j u, [x, y][j]? = some u → (W.alloc (.cells #[x, y] T)).cell? ((⟨W.heap.size, 0, none⟩ : Addr).add j) = some u := by
  intro j u h
  rw [addr_add]
  match j, h with
  | 0, h => simp at h; subst h; simp
  | 1, h => simp at h; subst h; simp

def lenAt (w : World) (B : Nat) : Nat := match w.cell? ⟨B, 6, none⟩ with
  | some (.slice _ n _) => n
  | _ => 0
theorem lenAt_of {w : World} {B n cap : Nat} {A : Option Addr} (h : w.cell? ⟨B, 6, none⟩ = some (.slice A n cap)) : lenAt w B = n := by unfold lenAt; rw [h]

theorem Held.num {m w w' B t wv} {s : Sl} (h : Held m w B t s wv) (hs : Step B (.int .i64 (s.1.a + (partB t s.1.a).size + 1 : Nat)) w w') (hle : afterL t s.1.a ≤ t.size + 1) : Held m w' B t ({ s.1 with a := afterL t s.1.a }, s.2) wv :=
  h.grown (h.line.step hs hle) hs.grown

/-- behind the append and the store. -/
theorem Held.put {m : Int} {w2 w3 : World} {B N : Nat} {t : ByteArray} {s : Sl} {wv v' : Value} {x y : Int} {o : Obj} (h : Held m w2 B t s wv) (own2 : w2.ownsRow N 24 2 wv s.2.length (spotCells s.2)) (hB : B < N) (hgN : 2 < N) (hkN : 0 < N)
    (hown : w3.ownsRow N 24 2 v' (s.2.length + 1) (spotCells s.2 ++ [.int .i64 x, .int .i64 y])) (hgrow : (w2.alloc o).grownBy w3 wv.ownBlock) :
    w3.cell? ⟨B, 6, none⟩ = some wv ∧ w3.frozen? ⟨B, 6, none⟩ = false ∧
    Held m (w3.setCell ⟨B, 6, none⟩ v') B t (s.1, s.2 ++ [(x, y)]) v' ∧ (w3.setCell ⟨B, 6, none⟩ v').ownsRow N 24 2 v' (s.2 ++ [(x, y)]).length (spotCells (s.2 ++ [(x, y)])) ∧
    ∀ w0 : World, w0.grownBy w2 (some B) → w0.heap.size = N → w0.grownBy (w3.setCell ⟨B, 6, none⟩ v') (some B) := by
  have hne := own_apart own2 hB
  have hBs := h.line.lt
  have blk3 : w3.heap[B]? = w2.heap[B]? := (hgrow.block B (by simp; omega) (by intro e; exact hne e.symm)).trans (Below.heap_alloc w2 o B hBs)
  have hl3 : LineIs w3 B t s.1 wv := h.line.of_block blk3
  have hl4 : LineIs (w3.setCell ⟨B, 6, none⟩ v') B t s.1 v' := ⟨by rw [heap_set hl3.blk]; rfl, hl3.small, hl3.near⟩
  have g3 : ∀ w0 : World, w0.grownBy w2 (some B) → w0.heap.size = N → w0.grownBy w3 (some B) := fun w0 hg he =>
    grown_own (grown_trans hg (World.grownBy_alloc w2 o _)) hgrow fun j hj => by rw [he]; exact (own2.lt j hj).1
  have hnv := own_apart hown hB
  have own4 : (w3.setCell ⟨B, 6, none⟩ v').ownsRow N 24 2 v' (s.2.length + 1) (spotCells s.2 ++ [.int .i64 x, .int .i64 y]) := ownsRow_setCell_other hown hnv _
  have own5 : (w3.setCell ⟨B, 6, none⟩ v').ownsRow N 24 2 v' (s.2 ++ [(x, y)]).length (spotCells (s.2 ++ [(x, y)])) := by rw [spotCells_snoc, List.length_append]; exact own4
  have far : ∀ g, g < N → some g ≠ wv.ownBlock := fun g hg e => by have := (own2.lt _ e.symm).1; omega
  have env3 : Env m w3 := ⟨hgrow.cell ((World.grownBy_alloc w2 o (some B)).cell h.env.mx (by intro e; injection e with e; exact h.line.not_max h.env.mx e)) (far _ hgN),
    fun i hi => hgrow.cell ((World.grownBy_alloc w2 o (some B)).cell (h.env.kw i hi) (by intro e; injection e with e; exact h.line.not_words h.env.kw e)) (far _ hkN)⟩
  refine ⟨hl3.cell 6, hl3.frozen 6, ⟨hl4, Area.of_own own5, ?_, ?_, ?_⟩, own5, fun w0 hg he => grown_set (g3 w0 hg he)⟩
  · intro g off n cap e
    have := (hown.lt g (by rw [e]; rfl)).1
    omega
  · intro e; simp at e
  · exact env3.grown hl3 (grown_set (grown_refl _ _))

set_option maxHeartbeats 2000000 in
theorem readWhere_does (m : Int) (t : ByteArray) : Does m t 88 (· = []) (whereSec t) := by
  intro B s0 wv0 w hq hh
  have hlt := hh.line.lt
  have hnil := hh.none_ hq
  have HH := Lib.hid hh
  obtain ⟨i0, hi, hz0, hz1, hz2⟩ := info_parts infoSpot
  clear hh
  go_enter Tryz.func88, Tryz.ntmps88
  go_wp2
  go_loopw [2] (fun _ wr => ∃ (s : Sl) (wv : Value), s.2.length ≤ 12 ∧ Hid (Held m wr B t s wv ∧ wr.ownsRow w.heap.size 24 2 wv s.2.length (spotCells s.2) ∧ w.grownBy wr (some B) ∧ whereSec t s0 = whereL t (12 - s.2.length) s)) (fun _ wr => 13 - lenAt wr B)
  case atStart => exact ⟨s0, wv0, by rw [hq]; simp, Lib.hid ⟨HH.out, by rw [hnil, hq]; exact World.ownsRow_nil _ _ _ _, grown_refl _ _, by rw [hq]; rfl⟩⟩
  case round =>
    obtain ⟨s, wv, hlen, HI⟩ := hrel
    obtain ⟨A, cap, hwv⟩ := own_shape HI.out.2.1
    have c6 : wr.cell? ⟨B, 6, none⟩ = some (.slice A s.2.length cap) := by rw [← hwv]; exact HI.out.1.line.cell 6
    subst hwv
    have c60 := Lib.hid c6
    by_cases h12 : s.2.length = 12
    · have HR : Hid (whereSec t s0 = .error (min s.1.a t.size, 3)) := Lib.hid (by rw [HI.out.2.2.2, h12]; rfl)
      rw [h12] at c6
      have H12 := Lib.hid h12; clear h12
      go_wp2_with (go_at_call 93; refine (fail_any B t s.1.a 3 wr HI.out.1.line.line).mono ?_; rintro e w' ⟨rfl, n, rfl⟩)
      refine ⟨rfl, ?_⟩
      rw [HR.out]
      exact ⟨rfl, grown_draws HI.out.2.2.1 _⟩
    · have h12' : ((s.2.length : Int) == 12) = false := beq_eq_false_iff_ne.2 (by omega)
      obtain ⟨fuel, hfuel⟩ : ∃ fuel, 12 - s.2.length = fuel + 1 := ⟨11 - s.2.length, by omega⟩
      have HFU := Lib.hid hfuel
      have HN1 := Lib.hid (number_any B t s.1.a (-16777216) 16777216 m wr HI.out.1.line.line HI.out.1.env.mx)
      clear hfuel
      cases hr1 : numRes (partL t.data.toList s.1.a) (-16777216) 16777216 with
      | error er =>
        have HR1 := Lib.hid hr1
        have HR : Hid (whereSec t s0 = .error (min s.1.a t.size, er)) := Lib.hid (by rw [HI.out.2.2.2, HFU.out]; unfold whereL; rw [hr1])
        clear hr1
        go_wp2_with fail
        refine HN1.out.mono ?_
        rintro e w1 hnp
        unfold NumPost at hnp
        rw [HR1.out] at hnp
        obtain ⟨rfl, hb⟩ := hnp
        have HB := Lib.hid hb; clear hb
        go_wp2_with fail
        refine ⟨rfl, ?_⟩
        rw [HR.out]
        exact ⟨rfl, grown_trans HI.out.2.2.1 (grown_below HB.out)⟩
      | ok x =>
        have HR1 := Lib.hid hr1
        have HLE1 := Lib.hid (num_ok_le hr1); clear hr1
        go_wp2_with fail
        refine HN1.out.mono ?_
        rintro e w1 hnp
        unfold NumPost at hnp
        rw [HR1.out] at hnp
        obtain ⟨rfl, hst⟩ := hnp
        have HH1 := Lib.hid (HI.out.1.num hst HLE1.out)
        have HG1 := Lib.hid hst.grown
        clear hst c6
        have HN2 := Lib.hid (number_any B t (afterL t s.1.a) (-16777216) 16777216 m w1 HH1.out.line.line HH1.out.env.mx)
        cases hr2 : numRes (partL t.data.toList (afterL t s.1.a)) (-16777216) 16777216 with
        | error er =>
          have HR2 := Lib.hid hr2
          have HR : Hid (whereSec t s0 = .error (min (afterL t s.1.a) t.size, er)) := Lib.hid (by rw [HI.out.2.2.2, HFU.out]; unfold whereL; rw [HR1.out]; simp only; rw [hr2])
          clear hr2
          go_wp2_with fail
          refine HN2.out.mono ?_
          rintro e w2 hnp
          unfold NumPost at hnp
          rw [HR2.out] at hnp
          obtain ⟨rfl, hb⟩ := hnp
          have HB := Lib.hid hb; clear hb
          go_wp2_with fail
          refine ⟨rfl, ?_⟩
          rw [HR.out]
          exact ⟨rfl, grown_trans HI.out.2.2.1 (grown_trans HG1.out (grown_below HB.out))⟩
        | ok y =>
          have HR2 := Lib.hid hr2
          have HLE2 := Lib.hid (num_ok_le hr2); clear hr2
          go_wp2_with fail
          refine HN2.out.mono ?_
          rintro e w2 hnp
          unfold NumPost at hnp
          rw [HR2.out] at hnp
          obtain ⟨rfl, hst⟩ := hnp
          have HH2 := Lib.hid (HH1.out.num hst HLE2.out)
          have HG2 := Lib.hid hst.grown
          clear hst
          have hneB : (Value.slice A s.2.length cap).ownBlock = none ∨ (Value.slice A s.2.length cap).ownBlock ≠ some B := .inr (own_apart HI.out.2.1 hlt)
          have HOWN := Lib.hid ((HI.out.2.1.kept HG1.out hneB).kept HG2.out hneB)
          have HGW := Lib.hid (grown_trans HI.out.2.2.1 (grown_trans HG1.out HG2.out))
          have c6 : w2.cell? ⟨B, 6, none⟩ = some (.slice A s.2.length cap) := HH2.out.line.cell 6
          have HLEN : Hid (s.2.length < 12) := Lib.hid (by omega)
          clear hneB h12 h12'
          go_wp2_with (at_builtin; refine wpList_append_own _ rfl _ _ 22 rfl w.heap.size 24 i0 (.agg #[.int .i64 0, .int .i64 0]) 2 16 Tryz.underlying22 hi hz0 hz1 hz2 rfl (by decide) (.slice A s.2.length cap) s.2.length (spotCells s.2) rfl (HOWN.out.alloc _) ⟨w2.heap.size, 0, none⟩ 1 1 [.int .i64 x, .int .i64 y] rfl rfl (two_new _ _ _ _) ?c2 ?c3 ?c4 ?c5 ?_)
          case c2 => intro u hu; simp at hu; rcases hu with rfl | rfl <;> rfl
          case c3 => have := HLEN.out; unfold maxLen; omega
          case c4 => have := HLEN.out; omega
          case c5 => have := HGW.out.size; simp; omega
          intro v' w3 hown' hgrow _
          obtain ⟨A', cap', rfl⟩ := own_shape hown'
          obtain ⟨d6, e6, hh4, own4, hg4⟩ := HH2.out.put HOWN.out hlt (World.block_lt_of_cell? w ⟨_, 0, none⟩ HH.out.env.mx) (World.block_lt_of_cell? w ⟨_, 0, none⟩ (HH.out.env.kw 0 (by omega))) hown' hgrow
          have HH4 := Lib.hid hh4; have HOWN4 := Lib.hid own4; have HG4 := Lib.hid (hg4 w HGW.out rfl)
          clear hown' hgrow hh4 own4 hg4 c6
          have HD0 : Hid (Calls Tryz.prog 94 #[.pointer (some ⟨B, 0, none⟩)] (w3.setCell ⟨B, 6, none⟩ (.slice A' (s.2.length + 1) cap')) fun e w' => e = .returned (.bool (decide (t.size < afterL t (afterL t s.1.a)))) ∧ ∃ n, w' = (w3.setCell ⟨B, 6, none⟩ (.slice A' (s.2.length + 1) cap')).drewN n) := Lib.hid (isDone_any B t _ _ HH4.out.line.line)
          obtain ⟨p, hp0⟩ : ∃ p, p = partB t (afterL t (afterL t s.1.a)) := ⟨_, rfl⟩
          have HX : Hid (partL t.data.toList (afterL t (afterL t s.1.a)) = p.data.toList) := Lib.hid (by rw [hp0]; rfl)
          have HP : Hid (∀ k, Calls Tryz.prog 91 #[.pointer (some ⟨B, 0, none⟩)] ((w3.setCell ⟨B, 6, none⟩ (.slice A' (s.2.length + 1) cap')).drewN k) fun e w' => e = .returned (.string p) ∧ ∃ n, w' = (w3.setCell ⟨B, 6, none⟩ (.slice A' (s.2.length + 1) cap')).drewN n) := Lib.hid (by rw [hp0]; exact fun k => part_at B t _ m _ k HH4.out.line.line HH4.out.env.mx)
          clear hp0
          by_cases hdn : t.size < afterL t (afterL t s.1.a)
          · have HD := Lib.hid HD0.out
            rw [show decide (t.size < afterL t (afterL t s.1.a)) = true from decide_eq_true hdn] at HD
            have HST : Hid (stopB t (afterL t (afterL t s.1.a)) = true) := Lib.hid (by unfold stopB; rw [decide_eq_true hdn]; rfl)
            clear hdn
            go_wp2_with (first | (go_at_call 94; refine HD.out.mono ?_; rintro e w' ⟨rfl, n, rfl⟩) | (go_at_call 91; refine (HP.out _).mono ?_; rintro e w' ⟨rfl, n2, rfl⟩))
            refine bodyPost_ret (results_none rfl _ _ _) rfl ?_
            have hres : whereSec t s0 = .ok ({ s.1 with a := afterL t (afterL t s.1.a) }, s.2 ++ [(x, y)]) := by
              rw [HI.out.2.2.2, HFU.out]; unfold whereL; rw [HR1.out]; simp only; rw [HR2.out]; simp only; rw [HST.out]; rfl
            rw [hres]
            exact ⟨rfl, ⟨_, HH4.out.grown (HH4.out.line.drewN _) (grown_draws (grown_refl _ _) _)⟩, grown_draws HG4.out _⟩
          · have HD := Lib.hid HD0.out
            rw [show decide (t.size < afterL t (afterL t s.1.a)) = false from decide_eq_false hdn] at HD
            have HDN : Hid (decide (t.size < afterL t (afterL t s.1.a)) = false) := Lib.hid (decide_eq_false hdn)
            clear hdn
            by_cases g1 : p.toList = [115, 111, 117, 108, 115]
            · have g2 : (p.toList == [115, 111, 117, 108, 115]) = true := by rw [g1]; rfl
              have HST : Hid (stopB t (afterL t (afterL t s.1.a)) = true) := Lib.hid (by unfold stopB; rw [HX.out, ← ByteArray.toList_eq, g1]; simp [soulsL])
              have G1 := Lib.hid g1; clear g1
              go_wp2_with (first | (go_at_call 94; refine HD.out.mono ?_; rintro e w' ⟨rfl, n, rfl⟩) | (go_at_call 91; refine (HP.out _).mono ?_; rintro e w' ⟨rfl, n2, rfl⟩))
              refine bodyPost_ret (results_none rfl _ _ _) rfl ?_
              have hres : whereSec t s0 = .ok ({ s.1 with a := afterL t (afterL t s.1.a) }, s.2 ++ [(x, y)]) := by
                rw [HI.out.2.2.2, HFU.out]; unfold whereL; rw [HR1.out]; simp only; rw [HR2.out]; simp only; rw [HST.out]; rfl
              rw [hres]
              exact ⟨rfl, ⟨_, HH4.out.grown (HH4.out.line.drewN _) (grown_draws (grown_refl _ _) _)⟩, grown_draws HG4.out _⟩
            · have g2 : (p.toList == [115, 111, 117, 108, 115]) = false := by simpa using g1
              by_cases g3 : p.toList = [116, 114, 117, 115, 116]
              · have g4 : (p.toList == [116, 114, 117, 115, 116]) = true := by rw [g3]; rfl
                have HST : Hid (stopB t (afterL t (afterL t s.1.a)) = true) := Lib.hid (by unfold stopB; rw [HX.out, ← ByteArray.toList_eq, g3]; simp [trustL])
                have G3 := Lib.hid g3; clear g3 g1
                go_wp2_with (first | (go_at_call 94; refine HD.out.mono ?_; rintro e w' ⟨rfl, n, rfl⟩) | (go_at_call 91; refine (HP.out _).mono ?_; rintro e w' ⟨rfl, n2, rfl⟩))
                refine bodyPost_ret (results_none rfl _ _ _) rfl ?_
                have hres : whereSec t s0 = .ok ({ s.1 with a := afterL t (afterL t s.1.a) }, s.2 ++ [(x, y)]) := by
                  rw [HI.out.2.2.2, HFU.out]; unfold whereL; rw [HR1.out]; simp only; rw [HR2.out]; simp only; rw [HST.out]; rfl
                rw [hres]
                exact ⟨rfl, ⟨_, HH4.out.grown (HH4.out.line.drewN _) (grown_draws (grown_refl _ _) _)⟩, grown_draws HG4.out _⟩
              · have g4 : (p.toList == [116, 114, 117, 115, 116]) = false := by simpa using g3
                have HST : Hid (stopB t (afterL t (afterL t s.1.a)) = false) := Lib.hid (by unfold stopB; rw [HX.out, ← ByteArray.toList_eq, HDN.out]; simp [soulsL, trustL, g1, g3])
                go_wp2_with (first | (go_at_call 94; refine HD.out.mono ?_; rintro e w' ⟨rfl, n, rfl⟩) | (go_at_call 91; refine (HP.out _).mono ?_; rintro e w' ⟨rfl, n2, rfl⟩))
                go_roundw
                case rel => exact ⟨({ s.1 with a := afterL t (afterL t s.1.a) }, s.2 ++ [(x, y)]), _, by have := HLEN.out; simp only [List.length_append, List.length_cons, List.length_nil]; omega, Lib.hid ⟨HH4.out.grown (HH4.out.line.drewN _) (grown_draws (grown_refl _ _) _), HOWN4.out, grown_draws HG4.out _, by
                  rw [HI.out.2.2.2, HFU.out]
                  have e3 : 12 - (s.2 ++ [(x, y)]).length = fuel := by have := HFU.out; simp only [List.length_append, List.length_cons, List.length_nil]; omega
                  rw [e3]
                  conv => lhs; unfold whereL
                  rw [HR1.out]; simp only; rw [HR2.out]; simp only; rw [HST.out]; rfl⟩⟩
                case measure =>
                  rw [lenAt_of c60.out, show lenAt (World.drewN _ _) B = s.2.length + 1 from lenAt_of ((HH4.out.line.drewN _).cell 6)]
                  have := HLEN.out; omega
end Go.Proofs.YtjcaaejfokmolaaGreatDoor
