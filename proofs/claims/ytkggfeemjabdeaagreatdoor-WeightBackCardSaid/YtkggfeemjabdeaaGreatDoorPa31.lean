/- multiply's closure: a list of fractions is multiplied by another one, in place. attempt on a call that returns a list of fractions, which it may have changed in place. multiply: the products of the elements of two lists. The sum of a list of fractions: fold with plus; zero; total. attempt on a call that returns a fraction. divideUp: each element's share of the sum. divideUp: its second closure, attempt on it. divideUp. Update. of, alive: the law's first call returns true. short. WeightField: the law returns true. -/
import Derived.Deep.RegionHeld3
import Derived.Maps.AppendAt
import Derived.Test.YtkggfeemjabdeaaGreatDoorPa7
import Derived.Test.YtkggfeemjabdeaaGreatDoorPa29
import Derived.Test.YtkggfeemjabdeaaGreatDoorPa30
section
namespace Go.Proofs.YtkggfeemjabdeaaGreatDoor.Wc
open Go Go.Proofs.YtkggfeemjabdeaaGreatDoor.Sx Go.RowKit

/-- an operation of a drawn region, taken first; the temporary that it writes is told. -/
theorem takeH {P : Program} {ops : Array Oper} {Q : Exit → Act → World → Prop} {md : Region.Mode} {S : World → Prop} {i : Nat} {oi : Oper} {v : Value} {n : Nat} {fuel : Nat} {listed : Array Bool} {a : Act} {w : World} (hi : ops[i]? = some oi) (hd : oi.dst = some n)
    (hs : Region.noSelect ops = true) (hf : Region.free md ops listed i = true) (hr : (Region.ready md ops listed).contains i = true)
    (hQ : ∀ c a w, Q (.panic c) (a.put (some n) v) w → Q (.panic c) a w) (hy : YieldsIf P ops S oi v a) (hS : S w)
    (h : wpAnyH P md ops Q S fuel (listed.setIfInBounds i true) (a.put (some n) v) w) : wpAnyH P md ops Q S (fuel + 1) listed a w := by
  rw [← hd] at h hQ
  exact wpAnyH_take hi hs hf hr hQ hy hS h
theorem below_chain {W w1 w' : World} (h : Below W.heap.size W w1) (k : Below w1.heap.size w1 w') : Below W.heap.size W w' := h.trans (k.mono h.size)
theorem natV_grown {w w' : World} {u : Value} {x : Nat} (h : NatV w u x) {B : Nat} (hg : w.grownBy w' (some B)) (hb : Not_ B u) : NatV w' u x := by
  obtain ⟨n, f, h1, h2, h3⟩ := h
  refine ⟨n, f, ?_, h2, h3⟩
  rcases h1 with h1 | ⟨b, off, cap, rfl, k1, k2, k3, k4⟩
  · exact .inl h1
  · have hne : some b ≠ some B := by intro e; injection e with e; exact hb b rfl e
    exact .inr ⟨b, off, cap, rfl, k1, k2, Nat.lt_of_lt_of_le k3 hg.size, fun j hj => by rw [World.cell?_of_block (hg.block b k3 hne)]; exact k4 j hj⟩
theorem Rats.grown {A : Nat → Prop} {w w' : World} {B C n : Nat} {xs : List (Nat × Nat)} {cs : Array Value} (h : Rats A w B n xs cs) (hg : w.grownBy w' (some C)) (hC : ¬ A C) (hne : B ≠ C) : Rats A w' B n xs cs :=
  ⟨(hg.block B h.lt (by intro e; injection e with e; exact hne e)).trans h.blk, h.size, h.len, h.nb, fun i q hi => by obtain ⟨u, h1, h2, h3⟩ := h.num i q hi; exact ⟨u, h1, natV_grown h2 hg (h3.not hC), h3⟩, fun i q hi => by obtain ⟨u, h1, h2, h3⟩ := h.den i q hi; exact ⟨u, h1, natV_grown h2 hg (h3.not hC), h3⟩⟩
theorem cell_grown {w w' : World} {B : Nat} (hg : w.grownBy w' (some B)) {a : Addr} {v : Value} (h : w.cell? a = some v) (hl : a.block < w.heap.size) (hne : a.block ≠ B) : w'.cell? a = some v := by
  rw [World.cell?_of_block (hg.block a.block hl (by intro e; injection e with e; exact hne e))]; exact h
theorem grown_below {a w w' : World} {B : Nat} (h : a.grownBy w (some B)) (k : Below w.heap.size w w') : a.grownBy w' (some B) :=
  ⟨k.os.trans h.os, k.tape.trans h.tape, k.output.trans h.output, Nat.le_trans h.size k.size, fun i hi hne => (k.block i (Nat.lt_of_lt_of_le hi h.size)).trans (h.block i hi hne)⟩
theorem grown_setCell {a w : World} {B : Nat} (h : a.grownBy w (some B)) (i : Nat) (z : Value) : a.grownBy (w.setCell ⟨B, i, none⟩ z) (some B) :=
  ⟨h.os, h.tape, h.output, by simpa [World.setCell] using h.size, fun k hk hne => (Below.heap_setCell w _ z k (by intro e; exact hne (by rw [e]))).trans (h.block k hk hne)⟩
/-- The first i elements multiplied. -/
def mulL (xs ys : List (Nat × Nat)) (i : Nat) : List (Nat × Nat) := (List.range xs.length).map fun j => if j < i then mulF (xs.getD j (0, 0)) (ys.getD j (0, 0)) else xs.getD j (0, 0)
theorem mulL_len (xs ys : List (Nat × Nat)) (i : Nat) : (mulL xs ys i).length = xs.length := by simp [mulL]
theorem mulL_get {xs ys : List (Nat × Nat)} {i j : Nat} (hj : j < xs.length) : (mulL xs ys i)[j]? = some (if j < i then mulF (xs.getD j (0, 0)) (ys.getD j (0, 0)) else xs.getD j (0, 0)) := by
  simp [mulL, List.getElem?_map, List.getElem?_range hj]
theorem mulL_zero (xs ys : List (Nat × Nat)) : mulL xs ys 0 = xs := by
  apply List.ext_getElem? 
  intro j
  by_cases hj : j < xs.length
  · rw [mulL_get hj, if_neg (Nat.not_lt_zero _), List.getD_eq_getElem?_getD, List.getElem?_eq_getElem hj]; rfl
  · rw [List.getElem?_eq_none (by rw [mulL_len]; omega), List.getElem?_eq_none (by omega)]
/-- Whether all products fit. -/
def okM (xs ys : List (Nat × Nat)) : Bool := (mulL xs ys xs.length).all fitsF
theorem okM_at {xs ys : List (Nat × Nat)} {i : Nat} (hi : i < xs.length) (h : fitsF (mulF (xs.getD i (0, 0)) (ys.getD i (0, 0))) = false) : okM xs ys = false := by
  refine Bool.eq_false_iff.2 fun e => ?_
  unfold okM at e
  have := (List.all_eq_true.1 e) _ (List.mem_of_getElem? (mulL_get (ys := ys) (i := xs.length) hi))
  rw [if_pos hi] at this
  exact Bool.false_ne_true (h.symm.trans this)
theorem okM_all {xs ys : List (Nat × Nat)} (h : ∀ j, j < xs.length → fitsF (mulF (xs.getD j (0, 0)) (ys.getD j (0, 0))) = true) : okM xs ys = true := by
  unfold okM
  rw [List.all_eq_true]
  intro q hq
  obtain ⟨j, hj⟩ := List.mem_iff_getElem?.1 hq
  by_cases hl : j < xs.length
  · rw [mulL_get hl, if_pos hl] at hj; rw [← Option.some.inj hj]; exact h j hl
  · rw [List.getElem?_eq_none (by rw [mulL_len]; omega)] at hj; cases hj
/-- What multiply's closure comes to. -/
def MulPost (A : Nat → Prop) (B n : Nat) (xs ys : List (Nat × Nat)) (w : World) (e : Ending) (w' : World) : Prop :=
  w.grownBy w' (some B) ∧ (okM xs ys = true → e = .returned (.slice (some ⟨B, 0, none⟩) n n) ∧ ∃ cs, Rats A w' B n (mulL xs ys n) cs) ∧ (okM xs ys = false → e = .panicked [{ v := errV4, recovered := false }])

set_option maxRecDepth 100000 in
set_option maxHeartbeats 2000000 in
theorem mul_list (A : Nat → Prop) (B C n p q : Nat) (xs ys : List (Nat × Nat)) (cs ds : Array Value) (w : World) (hp : w.cell? ⟨p, 0, none⟩ = some (.slice (some ⟨B, 0, none⟩) n n)) (hq : w.cell? ⟨q, 0, none⟩ = some (.slice (some ⟨C, 0, none⟩) n n))
    (hpB : p ≠ B) (hqB : q ≠ B) (hBC : C ≠ B) (hA : ∀ c, w.heap.size ≤ c → A c) (hx : Rats A w B n xs cs) (hy : Rats A w C n ys ds) (hxn : xs.length = n) (hyn : ys.length = n) (hxf : ∀ r ∈ xs, FrT r) (hyf : ∀ r ∈ ys, FrT r) (hn : n ≤ 512) (ht : Tens w) (hB0 : B ≠ 0) :
    Calls Tryz.prog 105 #[.pointer (some ⟨p, 0, none⟩), .pointer (some ⟨q, 0, none⟩)] w (MulPost A B n xs ys w) := by
  have hpl : p < w.heap.size := by
    cases e : w.heap[p]? with
    | none => simp [World.cell?, e] at hp
    | some _ => exact (Array.getElem?_eq_some_iff.1 e).1
  have hql : q < w.heap.size := by
    cases e : w.heap[q]? with
    | none => simp [World.cell?, e] at hq
    | some _ => exact (Array.getElem?_eq_some_iff.1 e).1
  have HX := Lib.hid hx; have HY := Lib.hid hy; have HXF := Lib.hid hxf; have HYF := Lib.hid hyf; have HT := Lib.hid ht; have HAA := Lib.hid hA
  have HPL := Lib.hid hpl; have HQL := Lib.hid hql; have HP := Lib.hid hp; have HQ := Lib.hid hq
  clear hx hy hxf hyf ht hA hpl hql hq
  go_enter Tryz.func105, Tryz.ntmps105
  go_wp2_with fail
  clear hp
  go_loopw [6] (fun iv wr => ∃ i : Nat, i ≤ n ∧ iv = .int .i64 i ∧ Hid (w.grownBy wr (some B)) ∧ Hid (∃ cs, Rats A wr B n (mulL xs ys i) cs) ∧ Hid (∀ j, j < i → fitsF (mulF (xs.getD j (0, 0)) (ys.getD j (0, 0))) = true)) (fun iv _ => n - (intOf iv).toNat)
  case atStart => exact ⟨0, Nat.zero_le _, rfl, Lib.hid ⟨rfl, rfl, rfl, Nat.le_refl _, fun _ _ _ => rfl⟩, Lib.hid ⟨cs, by rw [mulL_zero]; exact HX.out⟩, Lib.hid fun j hj => absurd hj (Nat.not_lt_zero _)⟩
  case round =>
    obtain ⟨i, hi, rfl, HG, HR, HO⟩ := hrel
    have hp1 : wr.cell? ⟨p, 0, none⟩ = some (.slice (some ⟨B, 0, none⟩) n n) := cell_grown HG.out HP.out HPL.out hpB
    have hq1 : wr.cell? ⟨q, 0, none⟩ = some (.slice (some ⟨C, 0, none⟩) n n) := cell_grown HG.out HQ.out HQL.out hqB
    by_cases hlt : i < n
    · obtain ⟨x, hx0⟩ : ∃ x, xs[i]? = some x := ⟨_, List.getElem?_eq_getElem (by omega)⟩
      obtain ⟨y, hy0⟩ : ∃ y, ys[i]? = some y := ⟨_, List.getElem?_eq_getElem (by omega)⟩
      have gx : xs.getD i (0, 0) = x := by rw [List.getD_eq_getElem?_getD, hx0]; rfl
      have gy : ys.getD i (0, 0) = y := by rw [List.getD_eq_getElem?_getD, hy0]; rfl
      obtain ⟨cs1, hc1⟩ := HR.out
      have hy1 := HY.out.grown HG.out hc1.nb hBC
      have hxi : (mulL xs ys i)[i]? = some x := by rw [mulL_get (by omega), if_neg (Nat.lt_irrefl _), gx]
      obtain ⟨u1, a1, n1, o1⟩ := hc1.num i x hxi
      obtain ⟨u2, a2, n2, o2⟩ := hc1.den i x hxi
      obtain ⟨v1, b1, m1, r1⟩ := hy1.num i y hy0
      obtain ⟨v2, b2, m2, r2⟩ := hy1.den i y hy0
      rw [← set_cells hc1.blk] at a1 a2
      rw [← set_cells hy1.blk] at b1 b2
      have hbl := hc1.lt; have hcl := hy1.lt
      have hpw : p < wr.heap.size := Nat.lt_of_lt_of_le HPL.out HG.out.size
      have hqw : q < wr.heap.size := Nat.lt_of_lt_of_le HQL.out HG.out.size
      have HCALL : Hid (∀ W, Below wr.heap.size wr W → Calls Tryz.prog 63 #[.agg #[u1, u2], .agg #[v1, v2]] W (RetQ [u1, u2, v1, v2] (fitsF (mulF x y)) (mulF x y) W)) := Lib.hid fun W hW =>
        times_rat x y u1 u2 v1 v2 W (n1.below hW) (n2.below hW) (m1.below hW) (m2.below hW) (HXF.out x (List.mem_of_getElem? hx0)) (HYF.out y (List.mem_of_getElem? hy0)) (fun j hj => cell_later hW (cell_grown HG.out (HT.out j hj) (Nat.lt_of_le_of_lt (Nat.zero_le p) HPL.out) (Ne.symm hB0)))
      have HS : Hid (∀ W, wr.grownBy W (some B) → (W.cell? ⟨p, 0, none⟩ = some (.slice (some ⟨B, 0, none⟩) n n) ∧ W.cell? ⟨q, 0, none⟩ = some (.slice (some ⟨C, 0, none⟩) n n) ∧ W.cell? ⟨C, i * 2, none⟩ = some v1 ∧ W.cell? ⟨C, i * 2 + 1, none⟩ = some v2)) := Lib.hid fun W hW =>
        ⟨cell_grown hW hp1 hpw hpB, cell_grown hW hq1 hqw hqB, cell_grown hW b1 hcl hBC, cell_grown hW b2 hcl hBC⟩
      have HA1 := Lib.hid a1; have HA2 := Lib.hid a2; have HC1 := Lib.hid hc1
      have HX0 := Lib.hid hx0; have HY0 := Lib.hid hy0; have GX := Lib.hid gx; have GY := Lib.hid gy
      have O1 := Lib.hid o1; have O2 := Lib.hid o2; have R1 := Lib.hid r1; have R2 := Lib.hid r2
      clear n1 n2 m1 m2 hy1 hc1 hxi hx0 hy0 gx gy o1 o2 r1 r2 a1 a2 b1 b2 hbl hcl hpw hqw hp1 hq1 HR
      go_wp2_with fail
      have hB4 : Below wr.heap.size wr wr.drew := (Below.refl wr.heap.size wr).drew
      have hG4 : wr.grownBy wr.drew (some B) := grown_below ⟨rfl, rfl, rfl, Nat.le_refl _, fun _ _ _ => rfl⟩ hB4
      refine wp_region_held_drew (S := fun W => (W.cell? ⟨p, 0, none⟩ = some (.slice (some ⟨B, 0, none⟩) n n) ∧ W.cell? ⟨q, 0, none⟩ = some (.slice (some ⟨C, 0, none⟩) n n) ∧ W.cell? ⟨C, i * 2, none⟩ = some v1 ∧ W.cell? ⟨C, i * 2 + 1, none⟩ = some v2)) (by kernel_rfl) (HS.out _ hG4) (fun hHeld => ?_)
      refine takeH (i := 0) (n := 9) (v := .slice (some ⟨B, 0, none⟩) n n) rfl rfl (by kernel_rfl) (by kernel_rfl) (by kernel_rfl) (fun _ _ _ h => h) (Or.inl ⟨by kernel_rfl, ?_⟩) (by assumption) ?_
      · intro w hSw; (try dsimp only at hSw); go_simp
      try simp only [Act.put, List.setIfInBounds_toArray, List.set_cons_zero, List.set_cons_succ]
      refine takeH (i := 1) (n := 10) (v := .int .i64 (i : Int)) rfl rfl (by kernel_rfl) (by kernel_rfl) (by kernel_rfl) (fun _ _ _ h => h) (Or.inl ⟨by kernel_rfl, ?_⟩) (by assumption) ?_
      · intro w hSw; (try dsimp only at hSw); go_simp
      try simp only [Act.put, List.setIfInBounds_toArray, List.set_cons_zero, List.set_cons_succ]
      refine takeH (i := 2) (n := 11) (v := .slice (some ⟨B, 0, none⟩) n n) rfl rfl (by kernel_rfl) (by kernel_rfl) (by kernel_rfl) (fun _ _ _ h => h) (Or.inl ⟨by kernel_rfl, ?_⟩) (by assumption) ?_
      · intro w hSw; (try dsimp only at hSw); go_simp
      try simp only [Act.put, List.setIfInBounds_toArray, List.set_cons_zero, List.set_cons_succ]
      refine takeH (i := 3) (n := 12) (v := .int .i64 (i : Int)) rfl rfl (by kernel_rfl) (by kernel_rfl) (by kernel_rfl) (fun _ _ _ h => h) (Or.inl ⟨by kernel_rfl, ?_⟩) (by assumption) ?_
      · intro w hSw; (try dsimp only at hSw); go_simp
      try simp only [Act.put, List.setIfInBounds_toArray, List.set_cons_zero, List.set_cons_succ]
      refine takeH (i := 4) (n := 13) (v := .pointer (some ⟨B, i * 2, none⟩)) rfl rfl (by kernel_rfl) (by kernel_rfl) (by kernel_rfl) (fun _ _ _ h => h) (Or.inl ⟨by kernel_rfl, ?_⟩) (by assumption) ?_
      · intro w hSw; (try dsimp only at hSw); go_simp
      try simp only [Act.put, List.setIfInBounds_toArray, List.set_cons_zero, List.set_cons_succ]
      refine takeH (i := 6) (n := 15) (v := .slice (some ⟨C, 0, none⟩) n n) rfl rfl (by kernel_rfl) (by kernel_rfl) (by kernel_rfl) (fun _ _ _ h => h) (Or.inl ⟨by kernel_rfl, ?_⟩) (by assumption) ?_
      · intro w hSw; (try dsimp only at hSw); go_simp
      try simp only [Act.put, List.setIfInBounds_toArray, List.set_cons_zero, List.set_cons_succ]
      refine takeH (i := 7) (n := 16) (v := .int .i64 (i : Int)) rfl rfl (by kernel_rfl) (by kernel_rfl) (by kernel_rfl) (fun _ _ _ h => h) (Or.inl ⟨by kernel_rfl, ?_⟩) (by assumption) ?_
      · intro w hSw; (try dsimp only at hSw); go_simp
      try simp only [Act.put, List.setIfInBounds_toArray, List.set_cons_zero, List.set_cons_succ]
      refine takeH (i := 8) (n := 17) (v := .pointer (some ⟨C, i * 2, none⟩)) rfl rfl (by kernel_rfl) (by kernel_rfl) (by kernel_rfl) (fun _ _ _ h => h) (Or.inl ⟨by kernel_rfl, ?_⟩) (by assumption) ?_
      · intro w hSw; (try dsimp only at hSw); go_simp
      try simp only [Act.put, List.setIfInBounds_toArray, List.set_cons_zero, List.set_cons_succ]
      refine takeH (i := 9) (n := 18) (v := .agg #[v1, v2]) rfl rfl (by kernel_rfl) (by kernel_rfl) (by kernel_rfl) (fun _ _ _ h => h) (Or.inl ⟨by kernel_rfl, ?_⟩) (by assumption) ?_
      · intro w hSw; (try dsimp only at hSw); go_simp
      try simp only [Act.put, List.setIfInBounds_toArray, List.set_cons_zero, List.set_cons_succ]
      refine wpAnyH_ready (rs := [5]) (by kernel_rfl) (by simp) ?_
      refine AllReadyH.cons rfl (fun K hK => ?_) AllReadyH.nil
      have d1 := cell_later hB4 HA1.out
      have d2 := cell_later hB4 HA2.out
      rw [if_pos (by kernel_rfl)]
      go_simp
      refine hK.out _ _ hHeld (fun _ => ?_)
      clear hK K
      try simp only [Act.put, List.setIfInBounds_toArray, List.set_cons_zero, List.set_cons_succ]
      refine wpAnyH_ready (rs := [10]) (by kernel_rfl) (by simp) ?_
      refine AllReadyH.cons rfl (fun K hK => ?_) AllReadyH.nil
      rw [if_pos (by kernel_rfl)]
      go_simp
      go_at_call 63
      refine (HCALL.out _ hB4).mono ?_
      rintro e w5 ⟨hb, g1, g2⟩
      have HB5 := Lib.hid (hB4.trans (hb.mono hB4.size)); have HB6 := Lib.hid hb
      have G1 := Lib.hid g1; have G2 := Lib.hid g2
      clear g1 g2 hb d1 d2
      cases hf : fitsF (mulF x y) with
      | false =>
        obtain rfl := G2.out hf
        have HF := Lib.hid hf
        clear hf hK
        go_wp2_with fail
        exact ⟨rfl, grown_below HG.out HB5.out, (fun h => by rw [okM_at (i := i) (by omega) (by rw [GX.out, GY.out]; exact HF.out)] at h; cases h), fun _ => rfl⟩
      | true =>
        obtain ⟨e1, e2, rfl, k1, k2, s1, s2⟩ := G1.out hf
        clear G1 G2
        obtain ⟨a1, l1, c1, rfl⟩ := nat_slice k1
        obtain ⟨a2, l2, c2, rfl⟩ := nat_slice k2
        have K1 := Lib.hid k1; have K2 := Lib.hid k2; have S1 := Lib.hid s1; have S2 := Lib.hid s2; have HF := Lib.hid hf
        clear k1 k2 s1 s2 hf
        have hG5 : wr.grownBy w5 (some B) := grown_below ⟨rfl, rfl, rfl, Nat.le_refl _, fun _ _ _ => rfl⟩ HB5.out
        have hc5 := HC1.out.below HB5.out
        have HC5 := Lib.hid hc5
        have hH5 := HS.out _ hG5
        refine hK.out _ _ hH5 (fun _ => ?_)
        clear hK K
        try simp only [Act.put, List.setIfInBounds_toArray, List.set_cons_zero, List.set_cons_succ]
        refine takeH (i := 11) (n := 20) (v := .pointer (some ⟨B, i * 2, none⟩)) rfl rfl (by kernel_rfl) (by kernel_rfl) (by kernel_rfl) (fun _ _ _ h => h) (Or.inl ⟨by kernel_rfl, ?_⟩) (by assumption) ?_
        · intro w hSw; (try dsimp only at hSw); go_simp
        try simp only [Act.put, List.setIfInBounds_toArray, List.set_cons_zero, List.set_cons_succ]
        obtain ⟨z0, hz0⟩ : ∃ z, w5.cell? ⟨B, i * 2, none⟩ = some z := ⟨_, (set_cells hc5.blk (i * 2)).trans (Array.getElem?_eq_getElem (by rw [hc5.size]; omega))⟩
        obtain ⟨z1, hz1⟩ : ∃ z, w5.cell? ⟨B, i * 2 + 1, none⟩ = some z := ⟨_, (set_cells hc5.blk (i * 2 + 1)).trans (Array.getElem?_eq_getElem (by rw [hc5.size]; omega))⟩
        have f0 : w5.frozen? ⟨B, i * 2, none⟩ = false := by simp [World.frozen?, hc5.blk]
        have f1 : w5.frozen? ⟨B, i * 2 + 1, none⟩ = false := by simp [World.frozen?, hc5.blk]
        clear hc5
        refine wpAnyH_ready (rs := [12]) (by kernel_rfl) (by simp) ?_
        refine AllReadyH.cons rfl (fun K hK => ?_) AllReadyH.nil
        rw [if_pos (by kernel_rfl)]
        go_simp
        have hG6 : wr.grownBy ((w5.setCell ⟨B, i * 2, none⟩ (.slice a1 l1 c1)).setCell ⟨B, i * 2 + 1, none⟩ (.slice a2 l2 c2)) (some B) := grown_setCell (grown_setCell hG5 _ _) _ _
        refine hK.out _ _ (HS.out _ hG6) (fun _ => ?_)
        clear hK K
        try simp only [Act.put, List.setIfInBounds_toArray, List.set_cons_zero, List.set_cons_succ]
        refine wpAnyH_done (by kernel_rfl) ?_ _
        have HG5 := Lib.hid (grown_setCell (grown_setCell (grown_below HG.out HB5.out) (i * 2) (.slice a1 l1 c1)) (i * 2 + 1) (.slice a2 l2 c2))
        clear hG5 hG6 hB4 hG4 hHeld hH5 HS HCALL hz0 hz1 f0 f1
        go_wp2_with fail
        have o1 : Off A (.slice a1 l1 c1) := fun c hc => by
          rcases S1.out c hc with h | ⟨u, hu, h⟩
          · exact HAA.out c (Nat.le_trans (HG.out.size) (Nat.le_trans ((Below.refl wr.heap.size wr).drew.size) h))
          · simp only [List.mem_cons, List.not_mem_nil, or_false] at hu
            rcases hu with rfl | rfl | rfl | rfl
            · exact O1.out c h
            · exact O2.out c h
            · exact R1.out c h
            · exact R2.out c h
        have o2 : Off A (.slice a2 l2 c2) := fun c hc => by
          rcases S2.out c hc with h | ⟨u, hu, h⟩
          · exact HAA.out c (Nat.le_trans (HG.out.size) (Nat.le_trans ((Below.refl wr.heap.size wr).drew.size) h))
          · simp only [List.mem_cons, List.not_mem_nil, or_false] at hu
            rcases hu with rfl | rfl | rfl | rfl
            · exact O1.out c h
            · exact O2.out c h
            · exact R1.out c h
            · exact R2.out c h
        have gg : (if i < i + 1 then mulF (xs.getD i (0, 0)) (ys.getD i (0, 0)) else xs.getD i (0, 0)) = mulF x y := by rw [if_pos (Nat.lt_succ_self _), GX.out, GY.out]
        refine ⟨⟨i + 1, by omega, rfl, Lib.hid HG5.out, Lib.hid ⟨_, HC5.out.setAt i hlt (ys := mulL xs ys (i + 1)) (q := mulF x y) (by rw [mulL_len]; omega) (by rw [mulL_get (by omega), gg]) (fun j r hj hr => ?_) K1.out K2.out o1 o2⟩, Lib.hid fun j hj => ?_⟩, by simp [intOf]; omega⟩
        · by_cases hl : j < xs.length
          · rw [mulL_get hl] at hr ⊢
            rw [← hr]
            by_cases hji : j < i
            · rw [if_pos hji, if_pos (by omega)]
            · rw [if_neg hji, if_neg (by omega)]
          · rw [List.getElem?_eq_none (by rw [mulL_len]; omega)] at hr; cases hr
        · by_cases e : j = i
          · subst e; rw [GX.out, GY.out]; exact HF.out
          · exact HO.out j (by omega)
    · obtain rfl : i = n := by omega
      have HRR := HR
      clear HR
      go_wp2_with fail
      refine bodyPost_ret (v := .slice (some ⟨B, 0, none⟩) i i) (by simp [results, Tryz.results105, go_sem]) rfl ?_
      exact ⟨HG.out, fun _ => ⟨rfl, HRR.out⟩, fun h => by rw [okM_all (fun j hj => HO.out j (by omega))] at h; cases h⟩
end Go.Proofs.YtkggfeemjabdeaaGreatDoor.Wc
end
section
namespace Go.Proofs.YtkggfeemjabdeaaGreatDoor.Wc
open Go Go.RowKit

set_option maxRecDepth 100000 in
set_option maxHeartbeats 2000000 in
theorem catch_rats (N : Nat) (v : TypeId) (u : Value) (older : List PanicEntry) (w : World) (x : Int) (hE : w.heap[N]? = some (.cells #[.int .i64 x] 25 (0, 0))) :
    CallsD Tryz.prog 132 #[.pointer (some ⟨N, 0, none⟩)] (.panicking ({ v := .iface v u, recovered := false } :: older)) w fun e u' w' =>
      e = .returned (.tuple #[]) ∧ u' = .panicking ({ v := .iface v u, recovered := true } :: older) ∧ w' = w.setCell ⟨N, 0, none⟩ (.int .i64 4) := by
  have ce : w.cell? ⟨N, 0, none⟩ = some (.int .i64 x) := by simp [World.cell?, hE]
  have fe : w.frozen? ⟨N, 0, none⟩ = false := by simp [World.frozen?, hE]
  clear hE
  refine callsD_of_wpS Tryz.func132 rfl fun c₀ cs hu => ?_
  have hrec : recoverD (c₀ :: cs) = some (.iface v u, { c₀ with mode := .panicking ({ v := .iface v u, recovered := true } :: older) } :: cs) := by
    simp only [recoverD, hu]
  apply wpS_seq
  refine wpS_region_recover rfl rfl (by rfl) hrec ?_ ?_
  · rintro ⟨a, w, u, h, _⟩; cases h
  simp only [Tryz.ntmps132, Act.put, List.size_toArray, List.length_cons, List.length_nil, Nat.reduceAdd, Nat.reduceSub, Array.replicate_succ, Array.replicate_zero, List.push_toArray, List.append_toArray, List.nil_append, List.cons_append, List.setIfInBounds_toArray, List.set_cons_zero, List.set_cons_succ]
  go_wp2
  refine wpS_of_wp ?_
  go_wp2
  exact ⟨rfl, _, rfl, _, by simp [results, Tryz.results132, go_sem], rfl, rfl, rfl⟩
set_option maxRecDepth 100000 in
set_option maxHeartbeats 2000000 in
theorem idle_rats (N : Nat) (w : World) :
    CallsD Tryz.prog 132 #[.pointer (some ⟨N, 0, none⟩)] .returning w fun e u' w' => e = .returned (.tuple #[]) ∧ u' = .returning ∧ w' = w := by
  refine callsD_of_wpS Tryz.func132 rfl fun c₀ cs hu => ?_
  have hrec : recoverD (c₀ :: cs) = none := by simp only [recoverD, hu]
  apply wpS_seq
  refine wpS_region_idle rfl rfl (by rfl) hrec ?_ ?_
  · rintro ⟨a, w, u, h, _⟩; cases h
  simp only [Tryz.ntmps132, Act.put, List.size_toArray, List.length_cons, List.length_nil, Nat.reduceAdd, Nat.reduceSub, Array.replicate_succ, Array.replicate_zero, List.push_toArray, List.append_toArray, List.nil_append, List.cons_append, List.setIfInBounds_toArray, List.set_cons_zero, List.set_cons_succ]
  go_wp2
  refine wpS_of_wp ?_
  go_wp2
  exact ⟨rfl, .returning, by rw [← hu], _, by simp [results, Tryz.results132, go_sem], rfl, rfl, rfl⟩


set_option maxRecDepth 100000 in
set_option maxHeartbeats 4000000 in
theorem door_fault_rats (N : Nat) (v : TypeId) (u a : Value) (x : Int) (w : World) (tmps : Array Value) (R : Ending → World → Prop) (h2 : tmps[2]?.getD undef = a) (h3 : tmps[3]?.getD undef = .pointer (some ⟨N, 0, none⟩))
    (hE : w.heap[N]? = some (.cells #[.int .i64 x] 25 (0, 0))) (hR : R (.returned (.tuple #[a, .int .i64 4])) (w.setCell ⟨N, 0, none⟩ (.int .i64 4))) :
    bodyPostD Tryz.prog Tryz.f104 R (Exit.panic [{ v := .iface v u, recovered := false }]) { tmps := tmps, defers := [{ target := Target.fn (Fn.func 132) #[.pointer (some ⟨N, 0, none⟩)], args := #[] }] } w := by
  refine leaves_cons (f := 132) (args := #[.pointer (some ⟨N, 0, none⟩)]) (by simp) (by simp [go_sem]) ?_
  refine (catch_rats N v u [] w x hE).mono ?_
  rintro e u' w'' ⟨rfl, rfl, rfl⟩
  have hE' := heap_setCell_same w N 0 _ _ (.int .i64 4) hE
  generalize (w.setCell ⟨N, 0, none⟩ (.int .i64 4)) = W at *
  have ce : W.cell? ⟨N, 0, none⟩ = some (.int .i64 4) := set_cells hE' 0
  simp [Go.Leaves, settle, results, Tryz.results104, go_sem, h2, h3, ce]
  exact hR
set_option maxRecDepth 100000 in
set_option maxHeartbeats 4000000 in
theorem door_ok_rats (ex : Exit) (hex : ex = .ret ∨ ex = .normal) (N : Nat) (a : Value) (w : World) (tmps : Array Value) (R : Ending → World → Prop) (h2 : tmps[2]?.getD undef = a) (h3 : tmps[3]?.getD undef = .pointer (some ⟨N, 0, none⟩))
    (hE : w.heap[N]? = some (.cells #[.int .i64 0] 25 (0, 0))) (hR : R (.returned (.tuple #[a, .int .i64 0])) w) :
    bodyPostD Tryz.prog Tryz.f104 R ex { tmps := tmps, defers := [{ target := Target.fn (Fn.func 132) #[.pointer (some ⟨N, 0, none⟩)], args := #[] }] } w := by
  have ce : w.cell? ⟨N, 0, none⟩ = some (.int .i64 0) := set_cells hE 0
  rcases hex with rfl | rfl
  all_goals
    refine leaves_cons (f := 132) (args := #[.pointer (some ⟨N, 0, none⟩)]) (by simp) (by simp [go_sem]) ?_
    refine (idle_rats N w).mono ?_
    rintro e u' w'' ⟨rfl, rfl, rfl⟩
    simp [Go.Leaves, settle, results, Tryz.results104, go_sem, h2, h3, ce]
    exact hR
/-- What attempt comes to. -/
def AttR (B : Nat) (ok : Bool) (r : Value) (Q : World → Prop) (w : World) (e : Ending) (w' : World) : Prop :=
  w.grownBy w' (some B) ∧ (ok = true → e = .returned (.tuple #[r, .int .i64 0]) ∧ ∃ W', Q W' ∧ w' = W'.setCell ⟨w.heap.size, 0, none⟩ (.int .i64 0)) ∧ (ok = false → e = .returned (.tuple #[.slice none 0 0, .int .i64 4]))
set_option maxRecDepth 100000 in
set_option maxHeartbeats 2000000 in
theorem attempt_rats (c : FuncId) (caps : Array Value) (he : ∀ args w, (callFunc c args).run Tryz.prog w = .ok (.enter c args) w) (ok : Bool) (a : Option Addr) (n k : Nat) (B : Nat) (Q : World → Prop) (w : World) (hB : B ≠ w.heap.size)
    (hc : Calls Tryz.prog c caps (w.alloc (.cells #[.int .i64 0] 25)) fun e W' => (w.alloc (.cells #[.int .i64 0] 25)).grownBy W' (some B) ∧ (ok = true → e = .returned (.slice a n k) ∧ Q W') ∧ (ok = false → e = .panicked [{ v := errV4, recovered := false }])) :
    Calls Tryz.prog 104 #[.func (.func c) #[] caps] w (AttR B ok (.slice a n k) Q w) := by
  have HC := Lib.hid hc; clear hc
  obtain ⟨W1, hW1⟩ : ∃ W1, W1 = w.alloc (.cells #[.int .i64 0] 25) := ⟨_, rfl⟩
  have hE1 : W1.heap[w.heap.size]? = some (.cells #[.int .i64 0] 25 (0, 0)) := by rw [hW1]; exact Go.Deep.blk_alloc_new _ _
  have hB1 : Below w.heap.size w W1 := by rw [hW1]; exact (Below.refl _ _).alloc (Nat.le_refl _) _
  rw [← hW1] at HC
  have HW1 := Lib.hid hW1; have HB1 := Lib.hid hB1; have HE1 := Lib.hid hE1
  clear hW1 hB1 hE1
  go_enter_defers Tryz.func104, Tryz.ntmps104
  go_wp2_with fail
  rw [← HW1.out]
  refine HC.out.mono ?_
  rintro e w2 ⟨hg, h1, h2⟩
  have l2 : w.heap.size < W1.heap.size := (Array.getElem?_eq_some_iff.1 HE1.out).1
  have hE2 := (hg.block _ l2 (by intro e; injection e with e; exact hB e.symm)).trans HE1.out
  have HG : Hid (w.grownBy w2 (some B)) := Lib.hid ⟨hg.os.trans HB1.out.os, hg.tape.trans HB1.out.tape, hg.output.trans HB1.out.output, Nat.le_trans HB1.out.size hg.size, fun j hj hne => (hg.block j (Nat.lt_of_lt_of_le hj HB1.out.size) hne).trans (HB1.out.block j hj)⟩
  have HGS : Hid (∀ z, w.grownBy (w2.setCell ⟨w.heap.size, 0, none⟩ z) (some B)) := Lib.hid fun z => ⟨HG.out.os, HG.out.tape, HG.out.output, by simpa [World.setCell] using HG.out.size, fun j hj hne => (Below.heap_setCell w2 _ z j (by show j ≠ w.heap.size; omega)).trans (HG.out.block j hj hne)⟩
  cases ok with
  | true =>
    obtain ⟨rfl, hq⟩ := h1 rfl
    have ce := set_cells hE2 0
    have fe : w2.frozen? ⟨w.heap.size, 0, none⟩ = false := by simp [World.frozen?, hE2]
    simp only [List.getElem?_toArray, List.getElem?_cons_zero, List.getElem?_cons_succ] at ce
    have HE2 := Lib.hid hE2; have HQ := Lib.hid hq
    clear hE2 h1 h2 hg hq
    go_wp2
    have k2 := heap_setCell_same w2 w.heap.size 0 _ _ (.int .i64 0) HE2.out
    simp only [List.setIfInBounds_toArray, List.set_cons_zero, List.set_cons_succ] at k2
    exact door_ok_rats _ (by first | exact .inl rfl | exact .inr rfl) w.heap.size (.slice a n k) _ _ _ rfl rfl k2 ⟨HGS.out _, (fun _ => ⟨rfl, w2, HQ.out, rfl⟩), fun h => by cases h⟩
  | false =>
    obtain rfl := h2 rfl
    exact door_fault_rats w.heap.size _ _ _ _ w2 _ _ rfl rfl hE2 ⟨HGS.out _, (fun h => by cases h), fun _ => rfl⟩
end Go.Proofs.YtkggfeemjabdeaaGreatDoor.Wc
end
section
namespace Go.Proofs.YtkggfeemjabdeaaGreatDoor.Wc
open Go Go.Proofs.YtkggfeemjabdeaaGreatDoor.Sx Go.RowKit

/-- The error that multiply returns. -/
def mulE (ps qs : List P2) : Int :=
  if 512 < qs.length then 3 else if openLS ps ≠ 0 then openLS ps else if openLS qs ≠ 0 then openLS qs else if ps.length ≠ qs.length then 2 else if okM (ps.map pv) (qs.map pv) then 0 else 4
def MultPost (ps qs : List P2) (w : World) (e : Ending) (w' : World) : Prop :=
  Below w.heap.size w w' ∧ (mulE ps qs = 0 → ∃ B cs, w.heap.size ≤ B ∧ e = .returned (.tuple #[.slice (some ⟨B, 0, none⟩) ps.length ps.length, .int .i64 0]) ∧ Rats (· ≠ B) w' B ps.length (mulL (ps.map pv) (qs.map pv) ps.length) cs) ∧
    (mulE ps qs ≠ 0 → e = .returned (.tuple #[.slice none 0 0, .int .i64 (mulE ps qs)]))
theorem openLS_ok {ps : List P2} (h : openLS ps = 0) : ps.length ≤ 512 ∧ ∀ p ∈ ps, okP p = true := by
  unfold openLS at h
  split at h
  · cases h
  · split at h
    · rename_i h1 h2
      rw [List.all_eq_true] at h2
      exact ⟨by omega, h2⟩
    · cases h
theorem frt_all {ps : List P2} (h : openLS ps = 0) : ∀ r ∈ ps.map pv, FrT r := by
  intro r hr
  obtain ⟨p, hp, rfl⟩ := List.mem_map.1 hr
  exact valid_frt ((openLS_ok h).2 p hp)

set_option maxRecDepth 100000 in
set_option maxHeartbeats 2000000 in
theorem multiply_any (ps qs : List P2) (v v' : Value) (w : World) (h : PartL w v ps) (h' : PartL w v' qs) (hs : ∀ p ∈ ps, Short p) (hs' : ∀ p ∈ qs, Short p) (ht : Tens w) (h0 : 0 < w.heap.size) :
    Calls Tryz.prog 66 #[v, v'] w (MultPost ps qs w) := by
  obtain ⟨a, cap, rfl⟩ := h.shape
  obtain ⟨a', cap', rfl⟩ := h'.shape
  have H1 : Hid (∀ W, Below w.heap.size w W → Calls Tryz.prog 52 #[.slice a ps.length cap] W (OpenLPost ps W)) := Lib.hid fun W hW => openList_any ps _ W (h.below hW) hs (fun j hj => cell_later hW (ht j hj))
  have H2 : Hid (∀ W, Below w.heap.size w W → Calls Tryz.prog 52 #[.slice a' qs.length cap'] W (OpenLPost qs W)) := Lib.hid fun W hW => openList_any qs _ W (h'.below hW) hs' (fun j hj => cell_later hW (ht j hj))
  have HT := Lib.hid ht; have H0 := Lib.hid h0
  clear h h' hs hs' ht h0
  by_cases h5 : 512 < qs.length
  · have h6 : (512 : Int) < qs.length := by omega
    have e : mulE ps qs = 3 := if_pos h5
    go_enter Tryz.func66, Tryz.ntmps66
    go_wp2
    refine bodyPost_ret (v := .tuple #[.slice none 0 0, .int .i64 3]) (by simp [results, Tryz.results66, go_sem]) rfl ?_
    exact ⟨Below.refl _ _, (fun h => by rw [e] at h; cases h), fun _ => by rw [e]⟩
  · have h6 : ¬ (512 : Int) < qs.length := by omega
    go_enter Tryz.func66, Tryz.ntmps66
    go_wp2_with fail
    refine (H1.out w (Below.refl _ _)).mono ?_
    rintro e w1 ⟨hb1, g1, g2⟩
    have HB1 := Lib.hid hb1
    clear hb1
    by_cases e1 : openLS ps = 0
    · obtain ⟨u, rfl, hu⟩ := g1 e1
      clear g1 g2
      obtain ⟨rfl, cs, hcs⟩ := hu
      have HCS := Lib.hid hcs; have E1 := Lib.hid e1
      clear hcs e1
      rw [List.length_map] at *
      go_wp2_with fail
      have hb2 : Below w.heap.size w (w1.alloc (.cells #[.slice (some ⟨w.heap.size, 0, none⟩) ps.length ps.length] 85)) := HB1.out.alloc HB1.out.size _
      have hp2 := Go.Deep.blk_alloc_new w1 (.cells #[.slice (some ⟨w.heap.size, 0, none⟩) ps.length ps.length] 85)
      have hs2 : w1.heap.size < (w1.alloc (.cells #[.slice (some ⟨w.heap.size, 0, none⟩) ps.length ps.length] 85)).heap.size := (Array.getElem?_eq_some_iff.1 hp2).1
      have hcs2 := HCS.out.below ((Below.refl _ _).alloc (Nat.le_refl _) (.cells #[.slice (some ⟨w.heap.size, 0, none⟩) ps.length ps.length] 85))
      have hx2 := HCS.out.lt
      have HC2 := H2.out _ hb2
      generalize hW2 : w1.alloc (.cells #[.slice (some ⟨w.heap.size, 0, none⟩) ps.length ps.length] 85) = w2 at *
      have HB2 := Lib.hid hb2; have HP2 := Lib.hid hp2; have HS2 := Lib.hid hs2; have HCS2 := Lib.hid hcs2; have HX2 := Lib.hid hx2
      clear hb2 hp2 hs2 hcs2 hx2 HCS HB1 H1 H2
      refine HC2.mono ?_
      clear HC2
      rintro e w3 ⟨hb3, g1, g2⟩
      have HB3 := Lib.hid hb3
      clear hb3
      by_cases e2 : openLS qs = 0
      · obtain ⟨u, rfl, hu⟩ := g1 e2
        clear g1 g2
        obtain ⟨rfl, ds, hds⟩ := hu
        have HDS := Lib.hid hds; have E2 := Lib.hid e2
        clear hds e2
        rw [List.length_map] at *
        have hp3 : w3.cell? ⟨w1.heap.size, 0, none⟩ = some (.slice (some ⟨w.heap.size, 0, none⟩) ps.length ps.length) := by rw [set_cells ((HB3.out.block _ HS2.out).trans HP2.out)]; rfl
        have hs3 : w1.heap.size < w3.heap.size := Nat.lt_of_lt_of_le HS2.out HB3.out.size
        by_cases hlen : ps.length = qs.length
        · have hlb : ((ps.length : Int) != qs.length) = false := by rw [hlen]; simp
          obtain ⟨n, hn⟩ : ∃ n, n = qs.length := ⟨_, rfl⟩
          have HCS3 := HCS2.out
          rw [hlen] at HCS3 hp3
          have HDS3 := HDS.out
          rw [← hn] at HCS3 HDS3 hp3
          obtain ⟨W4, hW4⟩ : ∃ W, W = w3.alloc (.cells #[.slice (some ⟨w2.heap.size, 0, none⟩) n n] 85) := ⟨_, rfl⟩
          obtain ⟨W5, hW5⟩ : ∃ W, W = W4.alloc (.cells #[.int .i64 0] 25) := ⟨_, rfl⟩
          have b34 : Below w3.heap.size w3 W4 := by rw [hW4]; exact (Below.refl _ _).alloc (Nat.le_refl _) _
          have b45 : Below W4.heap.size W4 W5 := by rw [hW5]; exact (Below.refl _ _).alloc (Nat.le_refl _) _
          have b35 := below_chain b34 b45
          have b25 := below_chain HB3.out b35
          have q4 := Go.Deep.blk_alloc_new w3 (.cells #[.slice (some ⟨w2.heap.size, 0, none⟩) n n] 85)
          rw [← hW4] at q4
          have s34 : w3.heap.size < W4.heap.size := (Array.getElem?_eq_some_iff.1 q4).1
          have s45 : W4.heap.size < W5.heap.size := by rw [hW5]; exact (Array.getElem?_eq_some_iff.1 (Go.Deep.blk_alloc_new W4 _)).1
          have s23 : w2.heap.size < w3.heap.size := HDS.out.lt
          have s12 := HS2.out
          have s01 := HX2.out
          have s00 := H0.out
          have p5 : W5.cell? ⟨w1.heap.size, 0, none⟩ = some (.slice (some ⟨w.heap.size, 0, none⟩) n n) := cell_later b35 hp3
          have q5 : W5.cell? ⟨w3.heap.size, 0, none⟩ = some (.slice (some ⟨w2.heap.size, 0, none⟩) n n) := cell_later b45 (by rw [set_cells q4]; rfl)
          have x5 : Rats (fun c => c ≠ w.heap.size ∧ c ≠ w2.heap.size ∧ c ≠ W4.heap.size) W5 w.heap.size n (ps.map pv) cs := (HCS3.sub (fun c h1 h2 => ⟨by omega, by omega, by omega⟩) (fun h => h.1 rfl)).below b25
          have y5 : Rats (fun c => c ≠ w.heap.size ∧ c ≠ w2.heap.size ∧ c ≠ W4.heap.size) W5 w2.heap.size n (qs.map pv) ds := (HDS3.sub (fun c h1 h2 => ⟨by omega, by omega, by omega⟩) (fun h => h.2.1 rfl)).below b35
          have hcall := mul_list (fun c => c ≠ w.heap.size ∧ c ≠ w2.heap.size ∧ c ≠ W4.heap.size) w.heap.size w2.heap.size n w1.heap.size w3.heap.size (ps.map pv) (qs.map pv) cs ds W5 p5 q5 (by omega) (by omega) (by omega) (fun c hc => ⟨by omega, by omega, by omega⟩) x5 y5
            (by rw [List.length_map]; omega) (by rw [List.length_map]; omega) (frt_all E1.out) (frt_all E2.out) (by omega) (fun j hj => cell_later b25 (cell_later HB2.out (HT.out j hj))) (by omega)
          rw [hW5] at hcall
          have hat := attempt_rats 105 #[.pointer (some ⟨w1.heap.size, 0, none⟩), .pointer (some ⟨w3.heap.size, 0, none⟩)] (enters_of Tryz.func105 (by kernel_rfl) rfl) (okM (ps.map pv) (qs.map pv)) (some ⟨w.heap.size, 0, none⟩) n n w.heap.size
            (fun W' => ∃ cs, Rats (fun c => c ≠ w.heap.size ∧ c ≠ w2.heap.size ∧ c ≠ W4.heap.size) W' w.heap.size n (mulL (ps.map pv) (qs.map pv) n) cs) W4 (by omega) hcall
          have hem : mulE ps qs = if okM (ps.map pv) (qs.map pv) then 0 else 4 := by unfold mulE; rw [if_neg h5, if_neg (by rw [E1.out]; simp), if_neg (by rw [E2.out]; simp), if_neg (by simp [hlen])]
          have hz3 := HB2.out.trans (HB3.out.mono HB2.out.size)
          have hz4 := hz3.trans (b34.mono hz3.size)
          rw [hW4] at hat
          have HAT := Lib.hid hat; have HEM := Lib.hid hem; have HZ4 := Lib.hid hz4; have HW4 := Lib.hid hW4; have S01 := Lib.hid s01; have S12 := Lib.hid s12; have S23 := Lib.hid s23; have S34 := Lib.hid s34
          subst hn
          have HL := Lib.hid hlen
          rw [hlen]
          clear hat hcall x5 y5 p5 q5 q4 b35 b45 b25 b34 hW5 hz3 hz4 HCS3 HDS3 hem hW2 s01 s12 s23 s34 s45 s00
          go_wp2_with fail
          refine HAT.out.mono ?_
          rintro e w6 ⟨g0, g1, g2⟩
          have HG0 := Lib.hid (HZ4.out.grown (by rw [HW4.out]; exact g0) HZ4.out.size (fun k hk => by injection hk with hk; omega))
          clear g0
          cases hok : okM (ps.map pv) (qs.map pv) with
          | false =>
            obtain rfl := g2 hok
            have HOK := Lib.hid hok
            clear hok g1 g2 HAT
            go_wp2_with fail
            refine bodyPost_ret (v := .tuple #[.slice none 0 0, .int .i64 4]) (by simp [results, Tryz.results66, go_sem]) rfl ?_
            have e4 : mulE ps qs = 4 := by rw [HEM.out, HOK.out]; rfl
            exact ⟨HG0.out, (fun h => by rw [e4] at h; cases h), fun _ => by rw [e4]⟩
          | true =>
            obtain ⟨rfl, W', ⟨cs', hcs'⟩, rfl⟩ := g1 hok
            have HOK := Lib.hid hok; have HCS' := Lib.hid hcs'
            clear hok g1 g2 HAT hcs'
            go_wp2_with fail
            refine bodyPost_ret (v := .tuple #[.slice (some ⟨w.heap.size, 0, none⟩) qs.length qs.length, .int .i64 0]) (by simp [results, Tryz.results66, go_sem]) rfl ?_
            have e0 : mulE ps qs = 0 := by rw [HEM.out, HOK.out]; rfl
            have hg1 := HG0.out
            rw [World.size_alloc] at hg1
            refine ⟨hg1, fun _ => ⟨w.heap.size, cs', Nat.le_refl _, by rw [HL.out], ?_⟩, fun h => absurd e0 h⟩
            rw [HL.out]
            have hr := HCS'.out.setOther (C := w3.heap.size + 1) (fun h => h.2.2 (by rw [World.size_alloc])) (by have := S01.out; have := S12.out; have := S23.out; have := S34.out; omega) 0 (.int .i64 0)
            exact hr.sub (fun c h _ => h.1) (fun h => h rfl)
        · have hlb : ((ps.length : Int) != qs.length) = true := bne_iff_ne.2 (by omega)
          have em : Hid (mulE ps qs = 2) := Lib.hid (by unfold mulE; rw [if_neg h5, if_neg (by rw [E1.out]; simp), if_neg (by rw [E2.out]; simp), if_pos hlen])
          go_wp2_with fail
          refine bodyPost_ret (v := .tuple #[.slice none 0 0, .int .i64 2]) (by simp [results, Tryz.results66, go_sem]) rfl ?_
          have hz := HB2.out.trans (HB3.out.mono HB2.out.size)
          exact ⟨hz.alloc hz.size _, (fun h => by rw [em.out] at h; cases h), fun _ => by rw [em.out]⟩
      · have hr := g2 e2
        subst hr
        have E2 := Lib.hid e2
        clear e2 g1 g2
        have em : Hid (mulE ps qs = openLS qs) := Lib.hid (by unfold mulE; rw [if_neg h5, if_neg (by rw [E1.out]; simp), if_pos E2.out])
        have hne : ((openLS qs) != 0) = true := bne_iff_ne.2 E2.out
        generalize hz : openLS qs = z at *
        go_wp2_with fail
        refine bodyPost_ret (v := .tuple #[.slice none 0 0, .int .i64 z]) (by simp [results, Tryz.results66, go_sem]) rfl ?_
        have hz := HB2.out.trans (HB3.out.mono HB2.out.size)
        exact ⟨hz.alloc hz.size _, (fun h => by rw [em.out] at h; exact absurd h E2.out), fun _ => by rw [em.out]⟩
    · have hr := g2 e1
      subst hr
      have E1 := Lib.hid e1
      clear e1 g1 g2
      have em : Hid (mulE ps qs = openLS ps) := Lib.hid (by unfold mulE; rw [if_neg h5, if_pos E1.out])
      have hne : ((openLS ps) != 0) = true := bne_iff_ne.2 E1.out
      generalize hz : openLS ps = z at *
      go_wp2_with fail
      refine bodyPost_ret (v := .tuple #[.slice none 0 0, .int .i64 z]) (by simp [results, Tryz.results66, go_sem]) rfl ?_
      exact ⟨HB1.out.alloc HB1.out.size _, (fun h => by rw [em.out] at h; exact absurd h E1.out), fun _ => by rw [em.out]⟩
end Go.Proofs.YtkggfeemjabdeaaGreatDoor.Wc
end
section
namespace Go.Proofs.YtkggfeemjabdeaaGreatDoor.Wc
open Go Go.Proofs.YtkggfeemjabdeaaGreatDoor.Sx Go.RowKit

/-- The sum of all, on s, if all sums on the way fit. -/
def sumO : List (Nat × Nat) → Nat × Nat → Option (Nat × Nat)
  | [], s => some s
  | x :: xs, s => if fitsF (addF s x) = true then sumO xs (addF s x) else none
theorem sumO_no {x : Nat × Nat} {xs : List (Nat × Nat)} {s : Nat × Nat} (h : fitsF (addF s x) = false) : sumO (x :: xs) s = none := by
  unfold sumO; rw [if_neg (by rw [h]; exact Bool.false_ne_true)]
theorem sumO_yes {x : Nat × Nat} {xs : List (Nat × Nat)} {s : Nat × Nat} (h : fitsF (addF s x) = true) : sumO (x :: xs) s = sumO xs (addF s x) := by
  conv => lhs; unfold sumO
  rw [if_pos h]
/-- A fraction in memory of which A holds. -/
structure RatV (A : Nat → Prop) (w : World) (u1 u2 : Value) (x : Nat × Nat) : Prop where
  n : NatV w u1 x.1
  d : NatV w u2 x.2
  on : Off A u1
  od : Off A u2
theorem RatV.below {A : Nat → Prop} {w w' : World} {u1 u2 : Value} {x : Nat × Nat} (h : RatV A w u1 u2 x) (hb : Below w.heap.size w w') : RatV A w' u1 u2 x := ⟨h.n.below hb, h.d.below hb, h.on, h.od⟩
theorem RatV.setCell {A : Nat → Prop} {w : World} {u1 u2 : Value} {x : Nat × Nat} (h : RatV A w u1 u2 x) {B : Nat} (hB : ¬ A B) (i : Nat) (z : Value) : RatV A (w.setCell ⟨B, i, none⟩ z) u1 u2 x := ⟨natV_set h.n (h.on.not hB), natV_set h.d (h.od.not hB), h.on, h.od⟩
theorem RatV.sub {A A' : Nat → Prop} {w : World} {u1 u2 : Value} {x : Nat × Nat} (h : RatV A w u1 u2 x) (hs : ∀ c, A c → c < w.heap.size → A' c) : RatV A' w u1 u2 x := ⟨h.n, h.d, fun c hc => hs c (h.on c hc) (natV_lt h.n c hc), fun c hc => hs c (h.od c hc) (natV_lt h.d c hc)⟩
/-- A call returns a fraction, if there is one, or panics. -/
def RetO (A : Nat → Prop) (o : Option (Nat × Nat)) (w : World) (e : Ending) (w' : World) : Prop :=
  Below w.heap.size w w' ∧ (∀ r, o = some r → FrT r ∧ ∃ u1 u2, e = .returned (.agg #[u1, u2]) ∧ RatV A w' u1 u2 r) ∧ (o = none → e = .panicked [{ v := errV4, recovered := false }])

set_option maxRecDepth 100000 in
set_option maxHeartbeats 2000000 in
theorem fold_sum (A : Nat → Prop) (B n : Nat) (xs : List (Nat × Nat)) (cs : Array Value) (s0 : Nat × Nat) (z1 z2 : Value) (w : World) (hA : ∀ c, w.heap.size ≤ c → A c) (hx : Rats A w B n xs cs) (hxn : xs.length = n) (hxf : ∀ r ∈ xs, FrT r) (hs : RatV A w z1 z2 s0) (hsf : FrT s0) (hn : n ≤ 512) (ht : Tens w) (h0 : 0 < w.heap.size) :
    Calls Tryz.prog 103 #[.slice (some ⟨B, 0, none⟩) n n, .agg #[z1, z2], .func (.func 61) #[] #[]] w (RetO A (sumO xs s0) w) := by
  obtain ⟨a1, l1, k1, e1⟩ := nat_slice hs.n
  obtain ⟨a2, l2, k2, e2⟩ := nat_slice hs.d
  subst e1 e2
  obtain ⟨W1, hW1⟩ : ∃ W, W = (w.alloc (.cells #[.slice a1 l1 k1, .slice a2 l2 k2] 62)).alloc (.cells #[.slice none 0 0, .slice none 0 0] 62) := ⟨_, rfl⟩
  have hB1 : Below w.heap.size w W1 := by rw [hW1]; exact ((Below.refl _ _).alloc (Nat.le_refl _) _).alloc (by simp) _
  have hA1 : W1.heap[w.heap.size]? = some (.cells #[.slice a1 l1 k1, .slice a2 l2 k2] 62 (0, 0)) := by rw [hW1, Below.heap_alloc _ _ _ (by simp only [World.size_alloc]; omega)]; exact Go.Deep.blk_alloc_new _ _
  have hE1 : W1.heap[w.heap.size + 1]? = some (.cells #[.slice none 0 0, .slice none 0 0] 62 (0, 0)) := by
    rw [hW1]
    have := Go.Deep.blk_alloc_new (w.alloc (.cells #[.slice a1 l1 k1, .slice a2 l2 k2] 62)) (.cells #[.slice none 0 0, .slice none 0 0] 62)
    rw [World.size_alloc] at this; exact this
  have hS1 : RatV (fun c => A c ∧ c ≠ w.heap.size ∧ c ≠ w.heap.size + 1) W1 (.slice a1 l1 k1) (.slice a2 l2 k2) s0 := (hs.sub (fun c h h' => ⟨h, by omega, by omega⟩)).below hB1
  have HX := Lib.hid hx; have HAA := Lib.hid hA; have HXF := Lib.hid hxf; have HT := Lib.hid ht; have H0 := Lib.hid h0; have HSF := Lib.hid hsf
  have HB1 := Lib.hid hB1; have HA1 := Lib.hid hA1; have HE1 := Lib.hid hE1; have HS1 := Lib.hid hS1; have HW1 := Lib.hid hW1
  clear hx hxf ht hs hsf hA hB1 hA1 hE1 hS1 hW1 h0
  go_enter Tryz.func103, Tryz.ntmps103
  go_wp2_with fail
  rw [← HW1.out]
  go_loopw [11] (fun iv wr => ∃ i : Nat, i ≤ n ∧ iv = .int .i64 i ∧ Hid (Below w.heap.size w wr) ∧ Hid (wr.heap[w.heap.size + 1]? = some (.cells #[.slice none 0 0, .slice none 0 0] 62 (0, 0))) ∧
      Hid (∃ s u1 u2, wr.heap[w.heap.size]? = some (.cells #[u1, u2] 62 (0, 0)) ∧ RatV (fun c => A c ∧ c ≠ w.heap.size ∧ c ≠ w.heap.size + 1) wr u1 u2 s ∧ FrT s ∧ sumO xs s0 = sumO (xs.drop i) s)) (fun iv _ => n - (intOf iv).toNat)
  case atStart => exact ⟨0, Nat.zero_le _, rfl, HB1, HE1, Lib.hid ⟨s0, _, _, HA1.out, HS1.out, HSF.out, by rw [List.drop_zero]⟩⟩
  case round =>
    obtain ⟨i, hi, rfl, HB, HE, HR⟩ := hrel
    obtain ⟨s, u1, u2, r1, r2, r3, r4⟩ := HR.out
    clear HR
    obtain ⟨a1', l1', k1', e1⟩ := nat_slice r2.n
    obtain ⟨a2', l2', k2', e2⟩ := nat_slice r2.d
    subst e1 e2
    have u0 := set_cells r1 0; have u1 := set_cells r1 1
    simp only [List.getElem?_toArray, List.getElem?_cons_zero, List.getElem?_cons_succ] at u0 u1
    have hl0 : w.heap.size < wr.heap.size := (Array.getElem?_eq_some_iff.1 r1).1
    have R1 := Lib.hid r1; have R2 := Lib.hid r2; have R3 := Lib.hid r3; have R4 := Lib.hid r4
    clear r1 r2 r3 r4
    by_cases hlt : i < n
    · obtain ⟨x, hx0⟩ : ∃ x, xs[i]? = some x := ⟨_, List.getElem?_eq_getElem (by omega)⟩
      have hy1 := HX.out.below HB.out
      obtain ⟨v1, b1, m1, o1⟩ := hy1.num i x hx0
      obtain ⟨v2, b2, m2, o2⟩ := hy1.den i x hx0
      rw [← set_cells hy1.blk] at b1 b2
      obtain ⟨b1', c1', d1', e1⟩ := nat_slice m1
      obtain ⟨b2', c2', d2', e2⟩ := nat_slice m2
      subst e1 e2
      have HXM : Hid (x ∈ xs) := Lib.hid (List.mem_of_getElem? hx0)
      have hdrop : xs.drop i = x :: xs.drop (i + 1) := by
        have h := List.drop_eq_getElem_cons (l := xs) (i := i) (by omega)
        rw [h, (List.getElem?_eq_some_iff.1 hx0).2]
      obtain ⟨wk, hwk⟩ : ∃ wk, wk = wr.alloc (.cells #[.slice b1' c1' d1', .slice b2' c2' d2'] 62) := ⟨_, rfl⟩
      have hbk : Below wr.heap.size wr wk := by rw [hwk]; exact (Below.refl _ _).alloc (Nat.le_refl _) _
      have hr2 := R2.out.below hbk
      have hcall := plus_rat s x _ _ _ _ wk hr2.n hr2.d (m1.below hbk) (m2.below hbk) R3.out (HXF.out x (List.mem_of_getElem? hx0)) (fun j hj => cell_later hbk (cell_later HB.out (HT.out j hj)))
      have o3 := natV_lt (m1.below (Below.refl _ _)); have o4 := natV_lt m2
      have mw1 : ∃ u, NatV w u x.1 ∧ Off A u ∧ u = .slice b1' c1' d1' := by
        obtain ⟨u, k1, k2, k3⟩ := HX.out.num i x hx0
        obtain ⟨u', k1', k2', k3'⟩ := hy1.num i x hx0
        have : u = .slice b1' c1' d1' := by
          rw [set_cells hy1.blk] at b1
          rw [k1] at b1; exact Option.some.inj b1
        exact ⟨u, k2, k3, this⟩
      have mw2 : ∃ u, NatV w u x.2 ∧ Off A u ∧ u = .slice b2' c2' d2' := by
        obtain ⟨u, k1, k2, k3⟩ := HX.out.den i x hx0
        have : u = .slice b2' c2' d2' := by
          rw [set_cells hy1.blk] at b2
          rw [k1] at b2; exact Option.some.inj b2
        exact ⟨u, k2, k3, this⟩
      have HM1 : Hid (∀ c, (Value.slice b1' c1' d1').ownBlock = some c → A c ∧ c < w.heap.size) := Lib.hid fun c hc => by obtain ⟨u, h1, h2, rfl⟩ := mw1; exact ⟨h2 c hc, natV_lt h1 c hc⟩
      have HM2 : Hid (∀ c, (Value.slice b2' c2' d2').ownBlock = some c → A c ∧ c < w.heap.size) := Lib.hid fun c hc => by obtain ⟨u, h1, h2, rfl⟩ := mw2; exact ⟨h2 c hc, natV_lt h1 c hc⟩
      rw [hwk] at hcall
      have HCALL := Lib.hid hcall; have HD := Lib.hid hdrop; have HBK := Lib.hid hbk; have HWK := Lib.hid hwk
      clear hcall mw1 mw2 o3 o4 o1 o2 m1 m2 hy1 hx0 hr2 hdrop hbk hwk
      go_wp2_with fail
      refine HCALL.out.mono ?_
      rintro e w5 ⟨hb, g1, g2⟩
      have HB5 := Lib.hid (HB.out.trans ((HBK.out.mono HB.out.size).trans (by rw [HWK.out]; exact hb.mono (by rw [World.size_alloc]; have := HB.out.size; omega))))
      have HB6 := Lib.hid (HBK.out.trans (by rw [HWK.out]; exact hb.mono (by rw [World.size_alloc]; omega)))
      have G1 := Lib.hid g1; have G2 := Lib.hid g2
      clear g1 g2 hb HCALL
      cases hf : fitsF (addF s x) with
      | false =>
        obtain rfl := G2.out hf
        have HF := Lib.hid hf
        clear hf G1 G2
        go_wp2_with fail
        exact ⟨rfl, HB5.out, (fun r h => by rw [R4.out, HD.out, sumO_no HF.out] at h; cases h), fun _ => rfl⟩
      | true =>
        obtain ⟨e1, e2, rfl, k1, k2, s1, s2⟩ := G1.out hf
        clear G1 G2
        obtain ⟨p1, l1, c1, rfl⟩ := nat_slice k1
        obtain ⟨p2, l2, c2, rfl⟩ := nat_slice k2
        have K1 := Lib.hid k1; have K2 := Lib.hid k2; have S1 := Lib.hid s1; have S2 := Lib.hid s2; have HF := Lib.hid hf
        clear k1 k2 s1 s2 hf
        have r5 := (HB6.out.block _ hl0).trans R1.out
        have q0 := set_cells r5 0; have q1 := set_cells r5 1
        simp only [List.getElem?_toArray, List.getElem?_cons_zero, List.getElem?_cons_succ] at q0 q1
        have f0 : w5.frozen? ⟨w.heap.size, 0, none⟩ = false := by simp [World.frozen?, r5]
        have f1 : w5.frozen? ⟨w.heap.size, 1, none⟩ = false := by simp [World.frozen?, r5]
        have R5 := Lib.hid r5
        clear r5
        go_wp2_with fail
        have hl1 : w.heap.size + 1 < wr.heap.size := (Array.getElem?_eq_some_iff.1 HE.out).1
        have oo : ∀ (c : Nat), (wr.alloc (.cells #[.slice b1' c1' d1', .slice b2' c2' d2'] 62)).heap.size ≤ c → A c ∧ c ≠ w.heap.size ∧ c ≠ w.heap.size + 1 := fun c hc => by rw [World.size_alloc] at hc; exact ⟨HAA.out c (by have := HB.out.size; omega), by omega, by omega⟩
        have o1 : Off (fun c => A c ∧ c ≠ w.heap.size ∧ c ≠ w.heap.size + 1) (.slice p1 l1 c1) := fun c hc => by
          rcases S1.out c hc with h | ⟨u, hu, h⟩
          · exact oo c h
          · simp only [List.mem_cons, List.not_mem_nil, or_false] at hu
            rcases hu with rfl | rfl | rfl | rfl
            · exact R2.out.on c h
            · exact R2.out.od c h
            · have := HM1.out c h; exact ⟨this.1, by omega, by omega⟩
            · have := HM2.out c h; exact ⟨this.1, by omega, by omega⟩
        have o2 : Off (fun c => A c ∧ c ≠ w.heap.size ∧ c ≠ w.heap.size + 1) (.slice p2 l2 c2) := fun c hc => by
          rcases S2.out c hc with h | ⟨u, hu, h⟩
          · exact oo c h
          · simp only [List.mem_cons, List.not_mem_nil, or_false] at hu
            rcases hu with rfl | rfl | rfl | rfl
            · exact R2.out.on c h
            · exact R2.out.od c h
            · have := HM1.out c h; exact ⟨this.1, by omega, by omega⟩
            · have := HM2.out c h; exact ⟨this.1, by omega, by omega⟩
        have hv : RatV (fun c => A c ∧ c ≠ w.heap.size ∧ c ≠ w.heap.size + 1) w5 (.slice p1 l1 c1) (.slice p2 l2 c2) (addF s x) := ⟨K1.out, K2.out, o1, o2⟩
        have g0 := heap_setCell_same w5 w.heap.size 0 _ _ (.slice p1 l1 c1) R5.out
        have g1 := heap_setCell_same _ w.heap.size 1 _ _ (.slice p2 l2 c2) g0
        simp only [List.setIfInBounds_toArray, List.set_cons_zero, List.set_cons_succ] at g1
        refine ⟨⟨i + 1, by omega, rfl, Lib.hid ((HB5.out.setCell (p := ⟨w.heap.size, 0, none⟩) (Nat.le_refl _) _).setCell (p := ⟨w.heap.size, 1, none⟩) (Nat.le_refl _) _), Lib.hid ?_, Lib.hid ⟨addF s x, _, _, g1, (hv.setCell (fun h => h.2.1 rfl) _ _).setCell (fun h => h.2.1 rfl) _ _, fits_frt (addF_fr R3.out.fr (HXF.out x HXM.out).fr) HF.out, ?_⟩⟩, by simp [intOf]; omega⟩
        · exact (Below.heap_setCell _ ⟨w.heap.size, 1, none⟩ (.slice p2 l2 c2) (w.heap.size + 1) (by show w.heap.size + 1 ≠ w.heap.size; omega)).trans ((Below.heap_setCell w5 ⟨w.heap.size, 0, none⟩ (.slice p1 l1 c1) (w.heap.size + 1) (by show w.heap.size + 1 ≠ w.heap.size; omega)).trans ((HB6.out.block _ hl1).trans HE.out))
        · rw [R4.out, HD.out, sumO_yes HF.out]
    · obtain rfl : i = n := by omega
      have q0 := set_cells HE.out 0; have q1 := set_cells HE.out 1
      simp only [List.getElem?_toArray, List.getElem?_cons_zero, List.getElem?_cons_succ] at q0 q1
      have f0 : wr.frozen? ⟨w.heap.size + 1, 0, none⟩ = false := by simp [World.frozen?, HE.out]
      have f1 : wr.frozen? ⟨w.heap.size + 1, 1, none⟩ = false := by simp [World.frozen?, HE.out]
      have hl1 : w.heap.size + 1 < wr.heap.size := (Array.getElem?_eq_some_iff.1 HE.out).1
      go_wp2_with fail
      have g0 := heap_setCell_same wr (w.heap.size + 1) 0 _ _ (.slice a1' l1' k1') HE.out
      have g1 := heap_setCell_same _ (w.heap.size + 1) 1 _ _ (.slice a2' l2' k2') g0
      simp only [List.setIfInBounds_toArray, List.set_cons_zero, List.set_cons_succ] at g1
      have t0 := set_cells g1 0; have t1 := set_cells g1 1
      simp only [List.getElem?_toArray, List.getElem?_cons_zero, List.getElem?_cons_succ] at t0 t1
      have hv := (R2.out.setCell (B := w.heap.size + 1) (fun h => h.2.2 rfl) 0 (.slice a1' l1' k1')).setCell (B := w.heap.size + 1) (fun h => h.2.2 rfl) 1 (.slice a2' l2' k2')
      have hsum : sumO xs s0 = some s := by rw [R4.out, List.drop_of_length_le (by omega)]; rfl
      refine bodyPost_ret (v := .agg #[.slice a1' l1' k1', .slice a2' l2' k2']) (by simp [results, t0, t1, Tryz.results103, go_sem]) rfl ⟨?_, (fun r h => ?_), fun h => by rw [hsum] at h; cases h⟩
      · exact (HB.out.setCell (p := ⟨w.heap.size + 1, 0, none⟩) (by show w.heap.size ≤ w.heap.size + 1; omega) _).setCell (p := ⟨w.heap.size + 1, 1, none⟩) (by show w.heap.size ≤ w.heap.size + 1; omega) _
      · rw [hsum] at h
        injection h with h; subst h
        exact ⟨R3.out, _, _, rfl, hv.sub fun _ h _ => h.1⟩
theorem frt_zero : FrT (0, 1) := ⟨⟨by decide, by decide⟩, pow10_pos 600, one_lt_pow10 (by decide)⟩
/-- zero() -/
theorem zero_any (w : World) (A : Nat → Prop) (hA : ∀ c, w.heap.size ≤ c → A c) : Calls Tryz.prog 102 #[] w fun e w' => Below w.heap.size w w' ∧ ∃ u1 u2, e = .returned (.agg #[u1, u2]) ∧ RatV A w' u1 u2 (0, 1) := by
  obtain ⟨W1, hW1⟩ : ∃ W, W = w.alloc (.cells #[.slice none 0 0, .slice none 0 0] 62) := ⟨_, rfl⟩
  have hB1 : Below w.heap.size w W1 := by rw [hW1]; exact (Below.refl _ _).alloc (Nat.le_refl _) _
  have hE1 : W1.heap[w.heap.size]? = some (.cells #[.slice none 0 0, .slice none 0 0] 62 (0, 0)) := by rw [hW1]; exact Go.Deep.blk_alloc_new _ _
  have HB1 := Lib.hid hB1; have HE1 := Lib.hid hE1; have HW1 := Lib.hid hW1; have HAA := Lib.hid hA
  clear hB1 hE1 hW1 hA
  go_enter Tryz.func102, Tryz.ntmps102
  go_wp2_with fail
  rw [← HW1.out]
  refine (ofWord_own 1 (by decide) W1).mono ?_
  rintro e w2 ⟨u, rfl, hu, hb⟩
  obtain ⟨a2, l2, k2, rfl⟩ := nat_slice hu.natV
  have l1 : w.heap.size < W1.heap.size := (Array.getElem?_eq_some_iff.1 HE1.out).1
  have r2 := (hb.block _ l1).trans HE1.out
  have q0 := set_cells r2 0; have q1 := set_cells r2 1
  simp only [List.getElem?_toArray, List.getElem?_cons_zero, List.getElem?_cons_succ] at q0 q1
  have f0 : w2.frozen? ⟨w.heap.size, 0, none⟩ = false := by simp [World.frozen?, r2]
  have f1 : w2.frozen? ⟨w.heap.size, 1, none⟩ = false := by simp [World.frozen?, r2]
  have HB2 := Lib.hid hb; have R2 := Lib.hid r2; have HU := Lib.hid hu
  clear hb r2 hu
  go_wp2_with fail
  have g0 := heap_setCell_same w2 w.heap.size 0 _ _ (.slice none 0 0) R2.out
  have g1 := heap_setCell_same _ w.heap.size 1 _ _ (.slice a2 l2 k2) g0
  simp only [List.setIfInBounds_toArray, List.set_cons_zero, List.set_cons_succ] at g1
  have t0 := set_cells g1 0; have t1 := set_cells g1 1
  simp only [List.getElem?_toArray, List.getElem?_cons_zero, List.getElem?_cons_succ] at t0 t1
  have hz := HB1.out.trans (HB2.out.mono HB1.out.size)
  have hnew : ∀ c, (Value.slice a2 l2 k2).ownBlock = some c → W1.heap.size ≤ c := fun c hc => by
    obtain ⟨n, f, h, -⟩ := HU.out
    rcases h with ⟨h, -⟩ | ⟨b, off, cap, h, -, -, h4, -⟩
    · rw [h] at hc; cases hc
    · rw [h] at hc; injection hc with hc; subst hc; exact h4
  have hv : RatV (fun c => A c ∧ c ≠ w.heap.size) w2 (.slice none 0 0) (.slice a2 l2 k2) (0, 1) := ⟨⟨0, fun _ => 0, .inl ⟨rfl, rfl⟩, ⟨fun i hi => absurd hi (Nat.not_lt_zero _), .inl rfl⟩, rfl⟩, HU.out.natV, fun c hc => (by cases hc), fun c hc => by have := hnew c hc; exact ⟨HAA.out c (by omega), by omega⟩⟩
  refine bodyPost_ret (v := .agg #[.slice none 0 0, .slice a2 l2 k2]) (by simp [results, t0, t1, Tryz.results102, go_sem]) rfl ⟨(hz.setCell (p := ⟨w.heap.size, 0, none⟩) (Nat.le_refl _) _).setCell (p := ⟨w.heap.size, 1, none⟩) (Nat.le_refl _) _, _, _, rfl, ?_⟩
  exact ((hv.setCell (B := w.heap.size) (fun h => h.2 rfl) 0 (.slice none 0 0)).setCell (B := w.heap.size) (fun h => h.2 rfl) 1 (.slice a2 l2 k2)).sub fun _ h _ => h.1
set_option maxRecDepth 100000 in
set_option maxHeartbeats 2000000 in
theorem total_any (A : Nat → Prop) (B n : Nat) (xs : List (Nat × Nat)) (cs : Array Value) (w : World) (hA : ∀ c, w.heap.size ≤ c → A c) (hx : Rats A w B n xs cs) (hxn : xs.length = n) (hxf : ∀ r ∈ xs, FrT r) (hn : n ≤ 512) (ht : Tens w) :
    Calls Tryz.prog 59 #[.slice (some ⟨B, 0, none⟩) n n] w (RetO A (sumO xs (0, 1)) w) := by
  obtain ⟨W1, hW1⟩ : ∃ W, W = w.alloc (.cells #[.slice none 0 0, .slice none 0 0] 62) := ⟨_, rfl⟩
  have hB1 : Below w.heap.size w W1 := by rw [hW1]; exact (Below.refl _ _).alloc (Nat.le_refl _) _
  have hE1 : W1.heap[w.heap.size]? = some (.cells #[.slice none 0 0, .slice none 0 0] 62 (0, 0)) := by rw [hW1]; exact Go.Deep.blk_alloc_new _ _
  have l1 : w.heap.size < W1.heap.size := (Array.getElem?_eq_some_iff.1 hE1).1
  have hBl := hx.lt
  have hx1 : Rats (fun c => A c ∧ c ≠ w.heap.size) W1 B n xs cs := (hx.sub (fun c h h' => ⟨h, by omega⟩) (fun h => hx.nb h.1)).below hB1
  have HB1 := Lib.hid hB1; have HE1 := Lib.hid hE1; have HW1 := Lib.hid hW1; have HAA := Lib.hid hA; have HX := Lib.hid hx1; have HXF := Lib.hid hxf; have HT := Lib.hid ht
  clear hB1 hE1 hW1 hA hx hx1 hxf ht hBl
  go_enter Tryz.func59, Tryz.ntmps59
  go_wp2_with fail
  rw [← HW1.out]
  refine (zero_any W1 (fun c => A c ∧ c ≠ w.heap.size) (fun c hc => ⟨HAA.out c (by omega), by omega⟩)).mono ?_
  rintro e w2 ⟨hb2, u1, u2, rfl, hv⟩
  have HB2 := Lib.hid hb2; have HV := Lib.hid hv
  clear hb2 hv
  go_wp2_with fail
  refine (fold_sum (fun c => A c ∧ c ≠ w.heap.size) B n xs cs (0, 1) u1 u2 w2 (fun c hc => ⟨HAA.out c (by have := HB2.out.size; omega), by have := HB2.out.size; omega⟩) (HX.out.below HB2.out) hxn HXF.out HV.out frt_zero hn (fun j hj => cell_later HB2.out (cell_later HB1.out (HT.out j hj))) (by have := HB2.out.size; omega)).mono ?_
  rintro e w3 ⟨hb3, g1, g2⟩
  have HB3 := Lib.hid (HB2.out.trans (hb3.mono HB2.out.size)); have HZ := Lib.hid (HB1.out.trans ((HB2.out.trans (hb3.mono HB2.out.size)).mono HB1.out.size)); have G1 := Lib.hid g1; have G2 := Lib.hid g2
  clear hb3 g1 g2
  cases ho : sumO xs (0, 1) with
  | none =>
    obtain rfl := G2.out ho
    clear G1 G2
    go_wp2_with fail
    exact ⟨rfl, HZ.out, (fun r h => by cases h), fun _ => rfl⟩
  | some r =>
    obtain ⟨hr, e1, e2, rfl, hv⟩ := G1.out r ho
    clear G1 G2
    obtain ⟨p1, l1', c1, e1⟩ := nat_slice hv.n
    obtain ⟨p2, l2', c2, e2⟩ := nat_slice hv.d
    subst e1 e2
    have HR := Lib.hid hr; have HV3 := Lib.hid hv; have HO := Lib.hid ho
    clear hr hv ho
    have r3 := (HB3.out.block _ l1).trans HE1.out
    have q0 := set_cells r3 0; have q1 := set_cells r3 1
    simp only [List.getElem?_toArray, List.getElem?_cons_zero, List.getElem?_cons_succ] at q0 q1
    have f0 : w3.frozen? ⟨w.heap.size, 0, none⟩ = false := by simp [World.frozen?, r3]
    have f1 : w3.frozen? ⟨w.heap.size, 1, none⟩ = false := by simp [World.frozen?, r3]
    have R3 := Lib.hid r3
    clear r3
    go_wp2_with fail
    have g0 := heap_setCell_same w3 w.heap.size 0 _ _ (.slice p1 l1' c1) R3.out
    have g1 := heap_setCell_same _ w.heap.size 1 _ _ (.slice p2 l2' c2) g0
    simp only [List.setIfInBounds_toArray, List.set_cons_zero, List.set_cons_succ] at g1
    have t0 := set_cells g1 0; have t1 := set_cells g1 1
    simp only [List.getElem?_toArray, List.getElem?_cons_zero, List.getElem?_cons_succ] at t0 t1
    refine bodyPost_ret (v := .agg #[.slice p1 l1' c1, .slice p2 l2' c2]) (by simp [results, t0, t1, Tryz.results59, go_sem]) rfl ⟨(HZ.out.setCell (p := ⟨w.heap.size, 0, none⟩) (Nat.le_refl _) _).setCell (p := ⟨w.heap.size, 1, none⟩) (Nat.le_refl _) _, (fun r' h => ?_), fun h => by rw [HO.out] at h; cases h⟩
    rw [HO.out] at h
    obtain rfl := Option.some.inj h
    exact ⟨HR.out, _, _, rfl, ((HV3.out.setCell (B := w.heap.size) (fun h => h.2 rfl) 0 (.slice p1 l1' c1)).setCell (B := w.heap.size) (fun h => h.2 rfl) 1 (.slice p2 l2' c2)).sub fun _ h _ => h.1⟩
end Go.Proofs.YtkggfeemjabdeaaGreatDoor.Wc
end
section
namespace Go.Proofs.YtkggfeemjabdeaaGreatDoor.Wc
open Go Go.RowKit

set_option maxRecDepth 100000 in
set_option maxHeartbeats 2000000 in
theorem catch_rat (N : Nat) (v : TypeId) (u : Value) (older : List PanicEntry) (w : World) (x : Int) (hE : w.heap[N]? = some (.cells #[.int .i64 x] 25 (0, 0))) :
    CallsD Tryz.prog 129 #[.pointer (some ⟨N, 0, none⟩)] (.panicking ({ v := .iface v u, recovered := false } :: older)) w fun e u' w' =>
      e = .returned (.tuple #[]) ∧ u' = .panicking ({ v := .iface v u, recovered := true } :: older) ∧ w' = w.setCell ⟨N, 0, none⟩ (.int .i64 4) := by
  have ce : w.cell? ⟨N, 0, none⟩ = some (.int .i64 x) := by simp [World.cell?, hE]
  have fe : w.frozen? ⟨N, 0, none⟩ = false := by simp [World.frozen?, hE]
  clear hE
  refine callsD_of_wpS Tryz.func129 rfl fun c₀ cs hu => ?_
  have hrec : recoverD (c₀ :: cs) = some (.iface v u, { c₀ with mode := .panicking ({ v := .iface v u, recovered := true } :: older) } :: cs) := by
    simp only [recoverD, hu]
  apply wpS_seq
  refine wpS_region_recover rfl rfl (by rfl) hrec ?_ ?_
  · rintro ⟨a, w, u, h, _⟩; cases h
  simp only [Tryz.ntmps129, Act.put, List.size_toArray, List.length_cons, List.length_nil, Nat.reduceAdd, Nat.reduceSub, Array.replicate_succ, Array.replicate_zero, List.push_toArray, List.append_toArray, List.nil_append, List.cons_append, List.setIfInBounds_toArray, List.set_cons_zero, List.set_cons_succ]
  go_wp2
  refine wpS_of_wp ?_
  go_wp2
  exact ⟨rfl, _, rfl, _, by simp [results, Tryz.results129, go_sem], rfl, rfl, rfl⟩
set_option maxRecDepth 100000 in
set_option maxHeartbeats 2000000 in
theorem idle_rat (N : Nat) (w : World) :
    CallsD Tryz.prog 129 #[.pointer (some ⟨N, 0, none⟩)] .returning w fun e u' w' => e = .returned (.tuple #[]) ∧ u' = .returning ∧ w' = w := by
  refine callsD_of_wpS Tryz.func129 rfl fun c₀ cs hu => ?_
  have hrec : recoverD (c₀ :: cs) = none := by simp only [recoverD, hu]
  apply wpS_seq
  refine wpS_region_idle rfl rfl (by rfl) hrec ?_ ?_
  · rintro ⟨a, w, u, h, _⟩; cases h
  simp only [Tryz.ntmps129, Act.put, List.size_toArray, List.length_cons, List.length_nil, Nat.reduceAdd, Nat.reduceSub, Array.replicate_succ, Array.replicate_zero, List.push_toArray, List.append_toArray, List.nil_append, List.cons_append, List.setIfInBounds_toArray, List.set_cons_zero, List.set_cons_succ]
  go_wp2
  refine wpS_of_wp ?_
  go_wp2
  exact ⟨rfl, .returning, by rw [← hu], _, by simp [results, Tryz.results129, go_sem], rfl, rfl, rfl⟩

set_option maxRecDepth 100000 in
set_option maxHeartbeats 4000000 in
theorem door_fault_rat (N : Nat) (v : TypeId) (u a b : Value) (x : Int) (w : World) (tmps : Array Value) (R : Ending → World → Prop) (h2 : tmps[2]?.getD undef = .pointer (some ⟨N, 0, none⟩)) (h3 : tmps[3]?.getD undef = .pointer (some ⟨N + 1, 0, none⟩))
    (hA : w.heap[N]? = some (.cells #[a, b] 62 (0, 0))) (hE : w.heap[N + 1]? = some (.cells #[.int .i64 x] 25 (0, 0))) (hR : R (.returned (.tuple #[.agg #[a, b], .int .i64 4])) (w.setCell ⟨N + 1, 0, none⟩ (.int .i64 4))) :
    bodyPostD Tryz.prog Tryz.f93 R (Exit.panic [{ v := .iface v u, recovered := false }]) { tmps := tmps, defers := [{ target := Target.fn (Fn.func 129) #[.pointer (some ⟨N + 1, 0, none⟩)], args := #[] }] } w := by
  refine leaves_cons (f := 129) (args := #[.pointer (some ⟨N + 1, 0, none⟩)]) (by simp) (by simp [go_sem]) ?_
  refine (catch_rat (N + 1) v u [] w x hE).mono ?_
  rintro e u' w'' ⟨rfl, rfl, rfl⟩
  have hA' : (w.setCell ⟨N + 1, 0, none⟩ (.int .i64 4)).heap[N]? = some (.cells #[a, b] 62 (0, 0)) := (Below.heap_setCell w _ _ N (by show N ≠ N + 1; omega)).trans hA
  have hE' := heap_setCell_same w (N + 1) 0 _ _ (.int .i64 4) hE
  generalize (w.setCell ⟨N + 1, 0, none⟩ (.int .i64 4)) = W at *
  have c0 : W.cell? ⟨N, 0, none⟩ = some a := set_cells hA' 0
  have c1 : W.cell? ⟨N, 1, none⟩ = some b := set_cells hA' 1
  have ce : W.cell? ⟨N + 1, 0, none⟩ = some (.int .i64 4) := set_cells hE' 0
  simp [Go.Leaves, settle, results, Tryz.results93, go_sem, h2, h3, c0, c1, ce]
  exact hR
set_option maxRecDepth 100000 in
set_option maxHeartbeats 4000000 in
theorem door_ok_rat (ex : Exit) (hex : ex = .ret ∨ ex = .normal) (N : Nat) (a b : Value) (w : World) (tmps : Array Value) (R : Ending → World → Prop) (h2 : tmps[2]?.getD undef = .pointer (some ⟨N, 0, none⟩)) (h3 : tmps[3]?.getD undef = .pointer (some ⟨N + 1, 0, none⟩))
    (hA : w.heap[N]? = some (.cells #[a, b] 62 (0, 0))) (hE : w.heap[N + 1]? = some (.cells #[.int .i64 0] 25 (0, 0))) (hR : R (.returned (.tuple #[.agg #[a, b], .int .i64 0])) w) :
    bodyPostD Tryz.prog Tryz.f93 R ex { tmps := tmps, defers := [{ target := Target.fn (Fn.func 129) #[.pointer (some ⟨N + 1, 0, none⟩)], args := #[] }] } w := by
  have c0 : w.cell? ⟨N, 0, none⟩ = some a := set_cells hA 0
  have c1 : w.cell? ⟨N, 1, none⟩ = some b := set_cells hA 1
  have ce : w.cell? ⟨N + 1, 0, none⟩ = some (.int .i64 0) := set_cells hE 0
  rcases hex with rfl | rfl
  all_goals
    refine leaves_cons (f := 129) (args := #[.pointer (some ⟨N + 1, 0, none⟩)]) (by simp) (by simp [go_sem]) ?_
    refine (idle_rat (N + 1) w).mono ?_
    rintro e u' w'' ⟨rfl, rfl, rfl⟩
    simp [Go.Leaves, settle, results, Tryz.results93, go_sem, h2, h3, c0, c1, ce]
    exact hR
/-- What attempt comes to on a fraction. -/
def AttQ (A : Nat → Prop) (o : Option (Nat × Nat)) (w : World) (e : Ending) (w' : World) : Prop :=
  Below w.heap.size w w' ∧ (∀ r, o = some r → FrT r ∧ ∃ u1 u2, e = .returned (.tuple #[.agg #[u1, u2], .int .i64 0]) ∧ RatV A w' u1 u2 r) ∧ (o = none → e = .returned (.tuple #[.agg #[.slice none 0 0, .slice none 0 0], .int .i64 4]))
set_option maxRecDepth 100000 in
set_option maxHeartbeats 2000000 in
theorem attempt_rat (c : FuncId) (caps : Array Value) (he : ∀ args w, (callFunc c args).run Tryz.prog w = .ok (.enter c args) w) (A : Nat → Prop) (o : Option (Nat × Nat)) (w : World) (hA : ¬ A w.heap.size) (hA' : ¬ A (w.heap.size + 1)) (hc : ∀ W, Below w.heap.size w W → W.heap.size = w.heap.size + 2 → Calls Tryz.prog c caps W (RetO A o W)) :
    Calls Tryz.prog 93 #[.func (.func c) #[] caps] w (AttQ A o w) := by
  have HC := Lib.hid hc; clear hc
  obtain ⟨W1, hW1⟩ : ∃ W1, W1 = (w.alloc (.cells #[.slice none 0 0, .slice none 0 0] 62)).alloc (.cells #[.int .i64 0] 25) := ⟨_, rfl⟩
  have hB1 : Below w.heap.size w W1 := by rw [hW1]; exact ((Below.refl _ _).alloc (Nat.le_refl _) _).alloc (by simp) _
  have hA1 : W1.heap[w.heap.size]? = some (.cells #[.slice none 0 0, .slice none 0 0] 62 (0, 0)) := by rw [hW1, Below.heap_alloc _ _ _ (by simp only [World.size_alloc]; omega)]; exact Go.Deep.blk_alloc_new _ _
  have hE1 : W1.heap[w.heap.size + 1]? = some (.cells #[.int .i64 0] 25 (0, 0)) := by
    rw [hW1]
    have := Go.Deep.blk_alloc_new (w.alloc (.cells #[.slice none 0 0, .slice none 0 0] 62)) (.cells #[.int .i64 0] 25)
    rw [World.size_alloc] at this; exact this
  have HW1 := Lib.hid hW1; have HB1 := Lib.hid hB1; have HA1 := Lib.hid hA1; have HE1 := Lib.hid hE1
  clear hW1 hB1 hA1 hE1
  go_enter_defers Tryz.func93, Tryz.ntmps93
  go_wp2_with fail
  rw [← HW1.out]
  refine (HC.out W1 HB1.out (by rw [HW1.out]; simp only [World.size_alloc])).mono ?_
  rintro e w2 ⟨hb, h1, h2⟩
  have l1 : w.heap.size < W1.heap.size := (Array.getElem?_eq_some_iff.1 HA1.out).1
  have l2 : w.heap.size + 1 < W1.heap.size := (Array.getElem?_eq_some_iff.1 HE1.out).1
  have hA2 := (hb.block _ l1).trans HA1.out
  have hE2 := (hb.block _ l2).trans HE1.out
  have HB2 : Hid (Below w.heap.size w w2) := Lib.hid (HB1.out.trans (hb.mono HB1.out.size))
  cases ho : o with
  | some r =>
    obtain ⟨hr, x, y, rfl, hv⟩ := h1 r ho
    obtain ⟨p1, q1, m1, e1⟩ := nat_slice hv.n
    obtain ⟨p2, q2, m2, e2⟩ := nat_slice hv.d
    subst e1 e2
    have HR := Lib.hid hr; have HV := Lib.hid hv; have HO := Lib.hid ho
    clear hr hv ho
    have c0 := set_cells hA2 0; have c1 := set_cells hA2 1; have ce := set_cells hE2 0
    have f0 : w2.frozen? ⟨w.heap.size, 0, none⟩ = false := by simp [World.frozen?, hA2]
    have f1 : w2.frozen? ⟨w.heap.size, 1, none⟩ = false := by simp [World.frozen?, hA2]
    have fe : w2.frozen? ⟨w.heap.size + 1, 0, none⟩ = false := by simp [World.frozen?, hE2]
    simp only [List.getElem?_toArray, List.getElem?_cons_zero, List.getElem?_cons_succ] at c0 c1 ce
    have HA2 := Lib.hid hA2; have HE2 := Lib.hid hE2
    clear hA2 hE2 h1 h2 hb
    go_wp2
    have g0 := heap_setCell_same w2 w.heap.size 0 _ _ (.slice p1 q1 m1) HA2.out
    have g1 := heap_setCell_same _ w.heap.size 1 _ _ (.slice p2 q2 m2) g0
    have g2 := (Below.heap_setCell ((w2.setCell ⟨w.heap.size, 0, none⟩ (.slice p1 q1 m1)).setCell ⟨w.heap.size, 1, none⟩ (.slice p2 q2 m2)) ⟨w.heap.size + 1, 0, none⟩ (.int .i64 0) w.heap.size (by show w.heap.size ≠ w.heap.size + 1; omega)).trans g1
    have k0 := (Below.heap_setCell w2 ⟨w.heap.size, 0, none⟩ (.slice p1 q1 m1) (w.heap.size + 1) (by show w.heap.size + 1 ≠ w.heap.size; omega)).trans HE2.out
    have k1 := (Below.heap_setCell (w2.setCell ⟨w.heap.size, 0, none⟩ (.slice p1 q1 m1)) ⟨w.heap.size, 1, none⟩ (.slice p2 q2 m2) (w.heap.size + 1) (by show w.heap.size + 1 ≠ w.heap.size; omega)).trans k0
    have k2 := heap_setCell_same _ (w.heap.size + 1) 0 _ _ (.int .i64 0) k1
    simp only [List.setIfInBounds_toArray, List.set_cons_zero, List.set_cons_succ] at g2 k2
    refine door_ok_rat _ (by first | exact .inl rfl | exact .inr rfl) w.heap.size (.slice p1 q1 m1) (.slice p2 q2 m2) _ _ _ rfl rfl g2 k2 ⟨?_, (fun r' h => ?_), fun h => (by cases HO.out.symm.trans h)⟩
    · exact ((HB2.out.setCell (p := ⟨w.heap.size, 0, none⟩) (Nat.le_refl _) _).setCell (p := ⟨w.heap.size, 1, none⟩) (Nat.le_refl _) _).setCell (p := ⟨w.heap.size + 1, 0, none⟩) (by show w.heap.size ≤ w.heap.size + 1; omega) _
    · obtain rfl := Option.some.inj (HO.out.symm.trans h)
      exact ⟨HR.out, _, _, rfl, ((HV.out.setCell hA 0 (.slice p1 q1 m1)).setCell hA 1 (.slice p2 q2 m2)).setCell hA' 0 (.int .i64 0)⟩
  | none =>
    obtain rfl := h2 ho
    refine door_fault_rat w.heap.size _ _ _ _ _ w2 _ _ rfl rfl hA2 hE2 ⟨?_, (fun r h => (by cases h)), fun _ => rfl⟩
    exact HB2.out.setCell (p := ⟨w.heap.size + 1, 0, none⟩) (by show w.heap.size ≤ w.heap.size + 1; omega) _
set_option maxRecDepth 100000 in
set_option maxHeartbeats 2000000 in
/-- divideUp's first closure: the sum of the captured list. -/
theorem sum_clo (A : Nat → Prop) (B n p : Nat) (xs : List (Nat × Nat)) (cs : Array Value) (w : World) (hA : ∀ c, w.heap.size ≤ c → A c) (hx : Rats A w B n xs cs) (hxn : xs.length = n) (hxf : ∀ r ∈ xs, FrT r) (hn : n ≤ 512) (ht : Tens w) (hp : w.cell? ⟨p, 0, none⟩ = some (.slice (some ⟨B, 0, none⟩) n n)) :
    Calls Tryz.prog 94 #[.pointer (some ⟨p, 0, none⟩)] w (RetO A (sumO xs (0, 1)) w) := by
  obtain ⟨W1, hW1⟩ : ∃ W, W = w.alloc (.cells #[.slice none 0 0, .slice none 0 0] 62) := ⟨_, rfl⟩
  have hB1 : Below w.heap.size w W1 := by rw [hW1]; exact (Below.refl _ _).alloc (Nat.le_refl _) _
  have hE1 : W1.heap[w.heap.size]? = some (.cells #[.slice none 0 0, .slice none 0 0] 62 (0, 0)) := by rw [hW1]; exact Go.Deep.blk_alloc_new _ _
  have l1 : w.heap.size < W1.heap.size := (Array.getElem?_eq_some_iff.1 hE1).1
  have hBl := hx.lt
  have hx1 : Rats (fun c => A c ∧ c ≠ w.heap.size) W1 B n xs cs := (hx.sub (fun c h h' => ⟨h, by omega⟩) (fun h => hx.nb h.1)).below hB1
  have hcall := total_any (fun c => A c ∧ c ≠ w.heap.size) B n xs cs W1 (fun c hc => ⟨hA c (by omega), by omega⟩) hx1 hxn hxf hn (fun j hj => cell_later hB1 (ht j hj))
  have hp1 : w.cell? ⟨p, 0, none⟩ = some (.slice (some ⟨B, 0, none⟩) n n) := hp
  have hpl : p < w.heap.size := by
    cases e : w.heap[p]? with
    | none => simp [World.cell?, e] at hp
    | some _ => exact (Array.getElem?_eq_some_iff.1 e).1
  have HB1 := Lib.hid hB1; have HE1 := Lib.hid hE1; have HW1 := Lib.hid hW1; have HAA := Lib.hid hA; have HC := Lib.hid hcall
  clear hB1 hE1 hW1 hA hx hx1 hxf ht hBl hcall hp
  go_enter Tryz.func94, Tryz.ntmps94
  go_wp2_with fail
  rw [← HW1.out]
  refine HC.out.mono ?_
  rintro e w3 ⟨hb3, g1, g2⟩
  have HB3 := Lib.hid hb3; have HZ := Lib.hid (HB1.out.trans (hb3.mono HB1.out.size)); have G1 := Lib.hid g1; have G2 := Lib.hid g2
  clear hb3 g1 g2 HC hp1
  cases ho : sumO xs (0, 1) with
  | none =>
    obtain rfl := G2.out ho
    clear G1 G2
    go_wp2_with fail
    exact ⟨rfl, HZ.out, (fun r h => by cases h), fun _ => rfl⟩
  | some r =>
    obtain ⟨hr, e1, e2, rfl, hv⟩ := G1.out r ho
    clear G1 G2
    obtain ⟨p1, l1', c1, e1⟩ := nat_slice hv.n
    obtain ⟨p2, l2', c2, e2⟩ := nat_slice hv.d
    subst e1 e2
    have HR := Lib.hid hr; have HV3 := Lib.hid hv; have HO := Lib.hid ho
    clear hr hv ho
    have r3 := (HB3.out.block _ l1).trans HE1.out
    have q0 := set_cells r3 0; have q1 := set_cells r3 1
    simp only [List.getElem?_toArray, List.getElem?_cons_zero, List.getElem?_cons_succ] at q0 q1
    have f0 : w3.frozen? ⟨w.heap.size, 0, none⟩ = false := by simp [World.frozen?, r3]
    have f1 : w3.frozen? ⟨w.heap.size, 1, none⟩ = false := by simp [World.frozen?, r3]
    have R3 := Lib.hid r3
    clear r3
    go_wp2_with fail
    have g0 := heap_setCell_same w3 w.heap.size 0 _ _ (.slice p1 l1' c1) R3.out
    have g1 := heap_setCell_same _ w.heap.size 1 _ _ (.slice p2 l2' c2) g0
    simp only [List.setIfInBounds_toArray, List.set_cons_zero, List.set_cons_succ] at g1
    have t0 := set_cells g1 0; have t1 := set_cells g1 1
    simp only [List.getElem?_toArray, List.getElem?_cons_zero, List.getElem?_cons_succ] at t0 t1
    refine bodyPost_ret (v := .agg #[.slice p1 l1' c1, .slice p2 l2' c2]) (by simp [results, t0, t1, Tryz.results94, go_sem]) rfl ⟨(HZ.out.setCell (p := ⟨w.heap.size, 0, none⟩) (Nat.le_refl _) _).setCell (p := ⟨w.heap.size, 1, none⟩) (Nat.le_refl _) _, (fun r' h => ?_), fun h => by rw [HO.out] at h; cases h⟩
    rw [HO.out] at h
    obtain rfl := Option.some.inj h
    exact ⟨HR.out, _, _, rfl, ((HV3.out.setCell (B := w.heap.size) (fun h => h.2 rfl) 0 (.slice p1 l1' c1)).setCell (B := w.heap.size) (fun h => h.2 rfl) 1 (.slice p2 l2' c2)).sub fun _ h _ => h.1⟩
end Go.Proofs.YtkggfeemjabdeaaGreatDoor.Wc
end
section
namespace Go.Proofs.YtkggfeemjabdeaaGreatDoor.Wc
open Go Go.Proofs.YtkggfeemjabdeaaGreatDoor.Sx Go.RowKit

/-- One fraction divided by another one. -/
def divF (x y : Nat × Nat) : Nat × Nat := mulF x (y.2, y.1)
/-- The cells of a list of parts. -/
def partCells (l : List (Nat × Nat)) : List Value := l.flatMap fun q => [.string (dec q.1), .string (dec q.2)]
theorem partCells_snoc (l : List (Nat × Nat)) (q : Nat × Nat) : partCells (l ++ [q]) = partCells l ++ [.string (dec q.1), .string (dec q.2)] := by simp [partCells]
theorem partCells_len (l : List (Nat × Nat)) : (partCells l).length = l.length * 2 := by
  induction l with
  | nil => rfl
  | cons a l ih => simp [partCells] at ih ⊢; omega
theorem infoP : (Tryz.prog.info? 24).map (fun i => (i.zero, i.size, i.bytes)) = some (some (.agg #[.string ⟨#[]⟩, .string ⟨#[]⟩]), 2, 32) := by kernel_rfl
theorem owns_below {w w' : World} {base : Nat} {t : TypeId} {k : Nat} {v : Value} {n : Nat} {xs : List Value} (h : w.ownsRow base t k v n xs) (hb : Below w.heap.size w w') : w'.ownsRow base t k v n xs := by
  refine ⟨h.1, ?_⟩
  rcases h.2 with h | ⟨g, cap, cur, h1, h2, h3, h4⟩
  · exact .inl h
  · exact .inr ⟨g, cap, cur, h1, h2, (hb.block g (Array.getElem?_eq_some_iff.1 h3).1).trans h3, h4⟩
theorem owns_base {w : World} {base : Nat} {t : TypeId} {k : Nat} {v : Value} {n : Nat} {xs : List Value} (h : w.ownsRow base t k v n xs) : ∀ c, v.ownBlock = some c → base ≤ c := by
  intro c hc
  rcases h.2 with ⟨h, -⟩ | ⟨g, cap, cur, h1, h2, -⟩
  · rw [h] at hc; cases hc
  · rw [h1] at hc; injection hc with hc; subst hc; exact h2
theorem cells_two_new (w : World) (a b : Value) (t : TypeId) : ∀ (j : Nat) (u : Value), [a, b][j]? = some u → (w.alloc (.cells #[a, b] t)).cell? ((⟨w.heap.size, 0, none⟩ : Addr).add j) = some u := by
  intro j u hu
  have h := Go.Deep.blk_alloc_new w (.cells #[a, b] t)
  match j, hu with
  | 0, hu =>
    simp at hu
    subst hu
    simp [Addr.add]
  | 1, hu =>
    simp at hu
    subst hu
    simp [Addr.add]
/-- What the step of divideUp's fold comes to. -/
def ShareP (base : Nat) (v : Value) (l : List (Nat × Nat)) (q : Nat × Nat) (w : World) (e : Ending) (w' : World) : Prop :=
  w.grownBy w' v.ownBlock ∧ (fitsF q = true → ∃ v', e = .returned v' ∧ w'.ownsRow base 24 2 v' (l.length + 1) (partCells (l ++ [q])) ∧ (v'.ownBlock = v.ownBlock ∨ ∃ c, w.heap.size ≤ c ∧ v'.ownBlock = some c)) ∧ (fitsF q = false → e = .panicked [{ v := errV4, recovered := false }])

set_option maxRecDepth 100000 in
set_option maxHeartbeats 2000000 in
theorem share_clo (base pa : Nat) (x y : Nat × Nat) (v v1 v2 u1 u2 : Value) (l : List (Nat × Nat)) (w : World) (hx1 : NatV w v1 x.1) (hx2 : NatV w v2 x.2) (hy : At2 w pa y u1 u2) (fx : FrT x) (fy : FrT y) (hy0 : 0 < y.1) (ht : Tens w)
    (hown : w.ownsRow base 24 2 v l.length (partCells l)) (hb : base ≤ w.heap.size) (hl : l.length < 512) :
    Calls Tryz.prog 98 #[v, .agg #[v1, v2], .pointer (some ⟨pa, 0, none⟩)] w (ShareP base v l (divF x y) w) := by
  obtain ⟨i0, hi, hz0, hz1, hz2⟩ : ∃ i0, Tryz.prog.info? 24 = some i0 ∧ i0.zero = some (.agg #[.string ⟨#[]⟩, .string ⟨#[]⟩]) ∧ i0.size = 2 ∧ i0.bytes = 32 := by
    obtain ⟨i, hi, hzz⟩ := Option.map_eq_some_iff.1 infoP
    simp only [Prod.mk.injEq] at hzz
    exact ⟨i, hi, hzz.1, hzz.2.1, hzz.2.2⟩
  obtain ⟨a1, l1, k1, e1⟩ := nat_slice hx1
  obtain ⟨a2, l2, k2, e2⟩ := nat_slice hx2
  obtain ⟨a3, l3, k3, e3⟩ := nat_slice hy.n
  obtain ⟨a4, l4, k4, e4⟩ := nat_slice hy.d
  subst e1 e2 e3 e4
  obtain ⟨W1, hW1⟩ : ∃ W, W = w.alloc (.cells #[.slice a1 l1 k1, .slice a2 l2 k2] 62) := ⟨_, rfl⟩
  have hB1 : Below w.heap.size w W1 := by rw [hW1]; exact (Below.refl _ _).alloc (Nat.le_refl _) _
  have hcall := over_rat x y _ _ _ _ W1 (hx1.below hB1) (hx2.below hB1) (hy.n.below hB1) (hy.d.below hB1) fx fy hy0 (fun j hj => cell_later hB1 (ht j hj))
  have c0 := hy.c0; have c1 := hy.c1
  have hpl : pa < w.heap.size := by
    cases e : w.heap[pa]? with
    | none => simp [World.cell?, e] at c0
    | some _ => exact (Array.getElem?_eq_some_iff.1 e).1
  have HC := Lib.hid hcall; have HB1 := Lib.hid hB1; have HT := Lib.hid ht; have HW1 := Lib.hid hW1; have HO := Lib.hid hown; have FX := Lib.hid fx; have FY := Lib.hid fy
  clear hcall hB1 ht hW1 hown hx1 hx2 hy fx fy
  go_enter Tryz.func98, Tryz.ntmps98
  go_wp2_with fail
  rw [← HW1.out]
  refine HC.out.mono ?_
  rintro e w3 ⟨hb3, g1, g2⟩
  have HB3 := Lib.hid hb3; have HZ := Lib.hid (HB1.out.trans (hb3.mono HB1.out.size)); have G1 := Lib.hid g1; have G2 := Lib.hid g2
  clear hb3 g1 g2 HC c0 c1
  have HGR : Hid (w.grownBy w3 v.ownBlock) := Lib.hid ⟨HZ.out.os, HZ.out.tape, HZ.out.output, HZ.out.size, fun k hk _ => HZ.out.block k hk⟩
  cases hf : fitsF (divF x y) with
  | false =>
    obtain rfl := G2.out hf
    have HF := Lib.hid hf
    clear G1 G2 hf
    go_wp2_with fail
    exact ⟨rfl, HGR.out, (fun h => by rw [HF.out] at h; cases h), fun _ => rfl⟩
  | true =>
    obtain ⟨e1, e2, rfl, m1, m2, -, -⟩ := G1.out hf
    have M1 := Lib.hid m1; have M2 := Lib.hid m2; have HF := Lib.hid hf
    clear G1 G2 hf m1 m2
    go_wp2_with fail
    refine (part_rat (divF x y) e1 e2 w3 M1.out M2.out (fits_frt (mulF_fr FX.out.fr ⟨hy0, by rw [Nat.gcd_comm]; exact FY.out.fr.cop⟩) HF.out) (fun j hj => cell_later HZ.out (HT.out j hj))).mono ?_
    rintro e w4 ⟨rfl, hb4⟩
    have HB4 := Lib.hid hb4
    clear hb4
    generalize hd1 : dec (divF x y).1 = d1
    generalize hd2 : dec (divF x y).2 = d2
    have HD1 := Lib.hid hd1; have HD2 := Lib.hid hd2
    clear hd1 hd2
    have HO4 := owns_below (owns_below HO.out HZ.out) (HB4.out.mono (Nat.le_refl _))
    have hown5 := owns_below HO4 ((Below.refl _ _).alloc (Nat.le_refl _) (.cells #[.string d1, .string d2] 24))
    have hb5 : base ≤ (w4.alloc (.cells #[.string d1, .string d2] 24)).heap.size := by rw [World.size_alloc]; have := HZ.out.size; have := HB4.out.size; omega
    go_wp2_with (at_builtin; go_loud (refine wpList_append_own_at _ rfl _ _ 34 rfl base 24 i0 (.agg #[.string ⟨#[]⟩, .string ⟨#[]⟩]) 2 32 Tryz.underlying34 hi hz0 hz1 hz2 rfl (by decide) v l.length (partCells l) rfl hown5 ⟨w4.heap.size, 0, none⟩ 1 1 [.string d1, .string d2] rfl rfl (cells_two_new _ _ _ _) ?c2 ?c3 ?c4 hb5 ?_))
    case c2 =>
      intro u hu
      simp only [List.mem_cons, List.not_mem_nil, or_false] at hu
      rcases hu with rfl | rfl <;> rfl
    case c3 => unfold maxLen; omega
    case c4 => omega
    intro v' w' hrow hg hnil hob
    have HROW := Lib.hid hrow; have HGR5 := Lib.hid hg; have HOB := Lib.hid hob
    clear hrow hg hnil hob hown5 hb5 HO4
    go_wp2_with fail
    refine bodyPost_ret (v := v') (by simp [results, Tryz.results98, go_sem]) rfl ⟨?_, fun _ => ⟨v', rfl, ?_, ?_⟩, fun h => by rw [HF.out] at h; cases h⟩
    · have hz4 : Below w.heap.size w (w4.alloc (.cells #[.string d1, .string d2] 24)) := by
        have h := HZ.out.trans (HB4.out.mono HZ.out.size)
        exact h.alloc h.size _
      exact World.grownBy.trans ⟨hz4.os, hz4.tape, hz4.output, hz4.size, fun k hk _ => hz4.block k hk⟩ HGR5.out
    · rw [partCells_snoc, HD1.out, HD2.out]; exact HROW.out
    · rcases HOB.out with h | h
      · exact .inl h
      · exact .inr ⟨_, by have := HZ.out.size; have := HB4.out.size; omega, h⟩
/-- Whether all shares fit. -/
def okD (xs : List (Nat × Nat)) (y : Nat × Nat) : Bool := (xs.map (divF · y)).all fitsF
theorem okD_at {xs : List (Nat × Nat)} {y x : Nat × Nat} (hx : x ∈ xs) (h : fitsF (divF x y) = false) : okD xs y = false := by
  refine Bool.eq_false_iff.2 fun e => ?_
  unfold okD at e
  have := (List.all_eq_true.1 e) _ (List.mem_map_of_mem hx)
  exact Bool.false_ne_true (h.symm.trans this)
/-- What divideUp's second fold comes to. -/
def SharesP (base : Nat) (xs : List (Nat × Nat)) (y : Nat × Nat) (w0 : World) (e : Ending) (w' : World) : Prop :=
  Below w0.heap.size w0 w' ∧ (okD xs y = true → ∃ v', e = .returned v' ∧ w'.ownsRow base 24 2 v' xs.length (partCells (xs.map (divF · y)))) ∧ (okD xs y = false → e = .panicked [{ v := errV4, recovered := false }])

set_option maxRecDepth 100000 in
set_option maxHeartbeats 2000000 in
theorem fold_parts (A : Nat → Prop) (B n pa : Nat) (xs : List (Nat × Nat)) (cs : Array Value) (y : Nat × Nat) (z1 z2 v0 : Value) (w0 w : World) (hb : Below w0.heap.size w0 w) (hx : Rats A w0 B n xs cs) (hxn : xs.length = n) (hxf : ∀ r ∈ xs, FrT r) (hy : At2 w0 pa y z1 z2) (fy : FrT y) (hy0 : 0 < y.1) (hn : n ≤ 512) (ht : Tens w0)
    (hown : w.ownsRow w0.heap.size 24 2 v0 0 []) :
    Calls Tryz.prog 97 #[.slice (some ⟨B, 0, none⟩) n n, v0, .func (.func 98) #[] #[.pointer (some ⟨pa, 0, none⟩)]] w (SharesP w0.heap.size xs y w0) := by
  have HX := Lib.hid hx; have HXF := Lib.hid hxf; have HT := Lib.hid ht; have HY := Lib.hid hy; have FY := Lib.hid fy; have HO := Lib.hid hown; have HB0 := Lib.hid hb
  clear hx hxf ht hy fy hown hb
  go_enter Tryz.func97, Tryz.ntmps97
  go_wp2_with fail
  go_loopw [1, 11] (fun vv iv wr => ∃ i : Nat, i ≤ n ∧ iv = .int .i64 i ∧ Hid (Below w0.heap.size w0 wr) ∧ Hid (wr.ownsRow w0.heap.size 24 2 vv i (partCells ((xs.take i).map (divF · y)))) ∧ Hid (∀ r ∈ xs.take i, fitsF (divF r y) = true)) (fun _ iv _ => n - (intOf iv).toNat)
  case atStart => exact ⟨0, Nat.zero_le _, rfl, HB0, Lib.hid (by simpa [partCells] using HO.out), Lib.hid (by simp)⟩
  case round =>
    obtain ⟨i, hi, rfl, HB, HV, HF⟩ := hrel
    by_cases hlt : i < n
    · obtain ⟨x, hx0⟩ : ∃ x, xs[i]? = some x := ⟨_, List.getElem?_eq_getElem (by omega)⟩
      have hy1 := HX.out.below HB.out
      obtain ⟨v1, b1, m1, o1⟩ := hy1.num i x hx0
      obtain ⟨v2, b2, m2, o2⟩ := hy1.den i x hx0
      rw [← set_cells hy1.blk] at b1 b2
      obtain ⟨b1', c1', d1', e1⟩ := nat_slice m1
      obtain ⟨b2', c2', d2', e2⟩ := nat_slice m2
      subst e1 e2
      have HXM : Hid (x ∈ xs) := Lib.hid (List.mem_of_getElem? hx0)
      have htk : xs.take (i + 1) = xs.take i ++ [x] := by rw [List.take_add_one, hx0]; rfl
      have hlen : ((xs.take i).map (divF · y)).length = i := by simp; omega
      obtain ⟨wk, hwk⟩ : ∃ wk, wk = wr.alloc (.cells #[.slice b1' c1' d1', .slice b2' c2' d2'] 62) := ⟨_, rfl⟩
      have hbk : Below wr.heap.size wr wk := by rw [hwk]; exact (Below.refl _ _).alloc (Nat.le_refl _) _
      have hbz : Below w0.heap.size w0 wk := HB.out.trans (hbk.mono HB.out.size)
      have hcall := share_clo w0.heap.size pa x y _ _ _ z1 z2 ((xs.take i).map (divF · y)) wk (m1.below hbk) (m2.below hbk) (HY.out.below hbz) (HXF.out x HXM.out) FY.out hy0 (fun j hj => cell_later hbz (HT.out j hj)) (by rw [hlen]; exact owns_below HV.out hbk) hbz.size (by rw [hlen]; omega)
      rw [hwk] at hcall
      have HC := Lib.hid hcall; have HBZ := Lib.hid hbz; have HWK := Lib.hid hwk; have HTK := Lib.hid htk; have HLN := Lib.hid hlen
      clear hcall hbz hbk hwk htk hlen m1 m2 o1 o2 hx0 hy1
      go_wp2_with fail
      refine HC.out.mono ?_
      rintro e w5 ⟨g0, g1, g2⟩
      rw [HWK.out] at HBZ
      have HB5 := Lib.hid (HBZ.out.grown g0 HBZ.out.size (owns_base HV.out))
      have G1 := Lib.hid g1; have G2 := Lib.hid g2
      clear g0 g1 g2 HC
      cases hf : fitsF (divF x y) with
      | false =>
        obtain rfl := G2.out hf
        have HFF := Lib.hid hf
        clear hf G1 G2
        go_wp2_with fail
        exact ⟨rfl, HB5.out, (fun h => by rw [okD_at HXM.out HFF.out] at h; cases h), fun _ => rfl⟩
      | true =>
        obtain ⟨v', rfl, hrow, -⟩ := G1.out hf
        have HFF := Lib.hid hf; have HROW := Lib.hid hrow
        clear hf hrow G1 G2
        go_wp2_with fail
        refine ⟨⟨i + 1, by omega, rfl, HB5, Lib.hid ?_, Lib.hid fun r hr => ?_⟩, by simp [intOf]; omega⟩
        · have h := HROW.out
          rw [HLN.out] at h
          rw [HTK.out, List.map_append]
          exact h
        · rw [HTK.out] at hr
          rcases List.mem_append.1 hr with hr | hr
          · exact HF.out r hr
          · simp only [List.mem_cons, List.not_mem_nil, or_false] at hr
            subst hr; exact HFF.out
    · obtain rfl : i = n := by omega
      go_wp2_with fail
      have hall : okD xs y = true := by
        unfold okD
        rw [List.all_eq_true]
        intro q hq
        obtain ⟨r, hr, rfl⟩ := List.mem_map.1 hq
        exact HF.out r (by rw [List.take_of_length_le (by omega)]; exact hr)
      have hrow := HV.out
      rw [List.take_of_length_le (by omega)] at hrow
      refine bodyPost_ret (v := u1) (by simp [results, Tryz.results97, go_sem]) rfl ⟨HB.out, fun _ => ⟨_, rfl, by rw [hxn]; exact hrow⟩, fun h => by rw [hall] at h; cases h⟩
end Go.Proofs.YtkggfeemjabdeaaGreatDoor.Wc
end
section
namespace Go.Proofs.YtkggfeemjabdeaaGreatDoor.Wc
open Go Go.Proofs.YtkggfeemjabdeaaGreatDoor.Sx Go.RowKit

set_option maxRecDepth 100000 in
set_option maxHeartbeats 2000000 in
theorem parts_clo (A : Nat → Prop) (B n p q : Nat) (xs : List (Nat × Nat)) (cs : Array Value) (y : Nat × Nat) (z1 z2 : Value) (w : World) (hx : Rats A w B n xs cs) (hxn : xs.length = n) (hxf : ∀ r ∈ xs, FrT r) (hy : At2 w q y z1 z2) (fy : FrT y) (hy0 : 0 < y.1) (hn : n ≤ 512) (ht : Tens w) (hp : w.cell? ⟨p, 0, none⟩ = some (.slice (some ⟨B, 0, none⟩) n n)) :
    Calls Tryz.prog 96 #[.pointer (some ⟨p, 0, none⟩), .pointer (some ⟨q, 0, none⟩)] w (SharesP w.heap.size xs y w) := by
  have hcall := fold_parts A B n q xs cs y z1 z2 (.slice (some ⟨w.heap.size, 0, none⟩) 0 0) w (w.alloc (.cells #[] 24)) ((Below.refl _ _).alloc (Nat.le_refl _) _) hx hxn hxf hy fy hy0 hn ht (World.ownsRow_made w #[] 0 (Nat.le_refl _) (by decide) rfl)
  have HC := Lib.hid hcall
  clear hcall hx hxf hy fy ht
  go_enter Tryz.func96, Tryz.ntmps96
  go_wp2_with fail
  refine HC.out.mono ?_
  rintro e w3 ⟨g0, g1, g2⟩
  have G0 := Lib.hid g0; have G1 := Lib.hid g1; have G2 := Lib.hid g2
  clear g0 g1 g2 HC
  cases hok : okD xs y with
  | false =>
    obtain rfl := G2.out hok
    have HOK := Lib.hid hok
    clear hok G1 G2
    go_wp2_with fail
    exact ⟨rfl, G0.out, (fun h => by rw [HOK.out] at h; cases h), fun _ => rfl⟩
  | true =>
    obtain ⟨v', rfl, hrow⟩ := G1.out hok
    have HOK := Lib.hid hok; have HROW := Lib.hid hrow
    clear hok hrow G1 G2
    go_wp2_with fail
    refine bodyPost_ret (v := v') (by simp [results, Tryz.results96, go_sem]) rfl ⟨G0.out, fun _ => ⟨_, rfl, HROW.out⟩, fun h => by rw [HOK.out] at h; cases h⟩
open Go Go.RowKit
set_option maxRecDepth 100000 in
set_option maxHeartbeats 2000000 in
theorem catch_pl (N : Nat) (v : TypeId) (u : Value) (older : List PanicEntry) (w : World) (x : Int) (hE : w.heap[N]? = some (.cells #[.int .i64 x] 25 (0, 0))) :
    CallsD Tryz.prog 130 #[.pointer (some ⟨N, 0, none⟩)] (.panicking ({ v := .iface v u, recovered := false } :: older)) w fun e u' w' =>
      e = .returned (.tuple #[]) ∧ u' = .panicking ({ v := .iface v u, recovered := true } :: older) ∧ w' = w.setCell ⟨N, 0, none⟩ (.int .i64 4) := by
  have ce : w.cell? ⟨N, 0, none⟩ = some (.int .i64 x) := by simp [World.cell?, hE]
  have fe : w.frozen? ⟨N, 0, none⟩ = false := by simp [World.frozen?, hE]
  clear hE
  refine callsD_of_wpS Tryz.func130 rfl fun c₀ cs hu => ?_
  have hrec : recoverD (c₀ :: cs) = some (.iface v u, { c₀ with mode := .panicking ({ v := .iface v u, recovered := true } :: older) } :: cs) := by
    simp only [recoverD, hu]
  apply wpS_seq
  refine wpS_region_recover rfl rfl (by rfl) hrec ?_ ?_
  · rintro ⟨a, w, u, h, _⟩; cases h
  simp only [Tryz.ntmps130, Act.put, List.size_toArray, List.length_cons, List.length_nil, Nat.reduceAdd, Nat.reduceSub, Array.replicate_succ, Array.replicate_zero, List.push_toArray, List.append_toArray, List.nil_append, List.cons_append, List.setIfInBounds_toArray, List.set_cons_zero, List.set_cons_succ]
  go_wp2
  refine wpS_of_wp ?_
  go_wp2
  exact ⟨rfl, _, rfl, _, by simp [results, Tryz.results130, go_sem], rfl, rfl, rfl⟩
set_option maxRecDepth 100000 in
set_option maxHeartbeats 2000000 in
theorem idle_pl (N : Nat) (w : World) :
    CallsD Tryz.prog 130 #[.pointer (some ⟨N, 0, none⟩)] .returning w fun e u' w' => e = .returned (.tuple #[]) ∧ u' = .returning ∧ w' = w := by
  refine callsD_of_wpS Tryz.func130 rfl fun c₀ cs hu => ?_
  have hrec : recoverD (c₀ :: cs) = none := by simp only [recoverD, hu]
  apply wpS_seq
  refine wpS_region_idle rfl rfl (by rfl) hrec ?_ ?_
  · rintro ⟨a, w, u, h, _⟩; cases h
  simp only [Tryz.ntmps130, Act.put, List.size_toArray, List.length_cons, List.length_nil, Nat.reduceAdd, Nat.reduceSub, Array.replicate_succ, Array.replicate_zero, List.push_toArray, List.append_toArray, List.nil_append, List.cons_append, List.setIfInBounds_toArray, List.set_cons_zero, List.set_cons_succ]
  go_wp2
  refine wpS_of_wp ?_
  go_wp2
  exact ⟨rfl, .returning, by rw [← hu], _, by simp [results, Tryz.results130, go_sem], rfl, rfl, rfl⟩


set_option maxRecDepth 100000 in
set_option maxHeartbeats 4000000 in
theorem door_fault_pl (N : Nat) (v : TypeId) (u a : Value) (x : Int) (w : World) (tmps : Array Value) (R : Ending → World → Prop) (h2 : tmps[2]?.getD undef = a) (h3 : tmps[3]?.getD undef = .pointer (some ⟨N, 0, none⟩))
    (hE : w.heap[N]? = some (.cells #[.int .i64 x] 25 (0, 0))) (hR : R (.returned (.tuple #[a, .int .i64 4])) (w.setCell ⟨N, 0, none⟩ (.int .i64 4))) :
    bodyPostD Tryz.prog Tryz.f95 R (Exit.panic [{ v := .iface v u, recovered := false }]) { tmps := tmps, defers := [{ target := Target.fn (Fn.func 130) #[.pointer (some ⟨N, 0, none⟩)], args := #[] }] } w := by
  refine leaves_cons (f := 130) (args := #[.pointer (some ⟨N, 0, none⟩)]) (by simp) (by simp [go_sem]) ?_
  refine (catch_pl N v u [] w x hE).mono ?_
  rintro e u' w'' ⟨rfl, rfl, rfl⟩
  have hE' := heap_setCell_same w N 0 _ _ (.int .i64 4) hE
  generalize (w.setCell ⟨N, 0, none⟩ (.int .i64 4)) = W at *
  have ce : W.cell? ⟨N, 0, none⟩ = some (.int .i64 4) := set_cells hE' 0
  simp [Go.Leaves, settle, results, Tryz.results95, go_sem, h2, h3, ce]
  exact hR
set_option maxRecDepth 100000 in
set_option maxHeartbeats 4000000 in
theorem door_ok_pl (ex : Exit) (hex : ex = .ret ∨ ex = .normal) (N : Nat) (a : Value) (w : World) (tmps : Array Value) (R : Ending → World → Prop) (h2 : tmps[2]?.getD undef = a) (h3 : tmps[3]?.getD undef = .pointer (some ⟨N, 0, none⟩))
    (hE : w.heap[N]? = some (.cells #[.int .i64 0] 25 (0, 0))) (hR : R (.returned (.tuple #[a, .int .i64 0])) w) :
    bodyPostD Tryz.prog Tryz.f95 R ex { tmps := tmps, defers := [{ target := Target.fn (Fn.func 130) #[.pointer (some ⟨N, 0, none⟩)], args := #[] }] } w := by
  have ce : w.cell? ⟨N, 0, none⟩ = some (.int .i64 0) := set_cells hE 0
  rcases hex with rfl | rfl
  all_goals
    refine leaves_cons (f := 130) (args := #[.pointer (some ⟨N, 0, none⟩)]) (by simp) (by simp [go_sem]) ?_
    refine (idle_pl N w).mono ?_
    rintro e u' w'' ⟨rfl, rfl, rfl⟩
    simp [Go.Leaves, settle, results, Tryz.results95, go_sem, h2, h3, ce]
    exact hR
/-- What attempt comes to on shares. -/
def AttP (xs : List (Nat × Nat)) (y : Nat × Nat) (w : World) (e : Ending) (w' : World) : Prop :=
  Below w.heap.size w w' ∧ (okD xs y = true → ∃ v', e = .returned (.tuple #[v', .int .i64 0]) ∧ w'.ownsRow (w.heap.size + 1) 24 2 v' xs.length (partCells (xs.map (divF · y)))) ∧ (okD xs y = false → e = .returned (.tuple #[.slice none 0 0, .int .i64 4]))
theorem owns_setCell {w : World} {base : Nat} {t : TypeId} {k : Nat} {v : Value} {n : Nat} {xs : List Value} (h : w.ownsRow base t k v n xs) {C : Nat} (hC : C < base) (i : Nat) (z : Value) : (w.setCell ⟨C, i, none⟩ z).ownsRow base t k v n xs := by
  refine ⟨h.1, ?_⟩
  rcases h.2 with h | ⟨g, cap, cur, h1, h2, h3, h4⟩
  · exact .inl h
  · exact .inr ⟨g, cap, cur, h1, h2, (Below.heap_setCell w ⟨C, i, none⟩ z g (by show g ≠ C; omega)).trans h3, h4⟩
set_option maxRecDepth 100000 in
set_option maxHeartbeats 2000000 in
theorem attempt_pl (c : FuncId) (caps : Array Value) (he : ∀ args w, (callFunc c args).run Tryz.prog w = .ok (.enter c args) w) (xs : List (Nat × Nat)) (y : Nat × Nat) (w : World)
    (hc : ∀ W, Below w.heap.size w W → Calls Tryz.prog c caps W (SharesP W.heap.size xs y W)) :
    Calls Tryz.prog 95 #[.func (.func c) #[] caps] w (AttP xs y w) := by
  obtain ⟨W1, hW1⟩ : ∃ W1, W1 = w.alloc (.cells #[.int .i64 0] 25) := ⟨_, rfl⟩
  have hE1 : W1.heap[w.heap.size]? = some (.cells #[.int .i64 0] 25 (0, 0)) := by rw [hW1]; exact Go.Deep.blk_alloc_new _ _
  have hB1 : Below w.heap.size w W1 := by rw [hW1]; exact (Below.refl _ _).alloc (Nat.le_refl _) _
  have hs1 : W1.heap.size = w.heap.size + 1 := by rw [hW1, World.size_alloc]
  have HC := Lib.hid (hc W1 hB1)
  have HW1 := Lib.hid hW1; have HB1 := Lib.hid hB1; have HE1 := Lib.hid hE1; have HS1 := Lib.hid hs1
  clear hW1 hB1 hE1 hc hs1
  go_enter_defers Tryz.func95, Tryz.ntmps95
  go_wp2_with fail
  rw [← HW1.out]
  refine HC.out.mono ?_
  rintro e w2 ⟨hb, h1, h2⟩
  have l2 : w.heap.size < W1.heap.size := (Array.getElem?_eq_some_iff.1 HE1.out).1
  have hE2 := (hb.block _ l2).trans HE1.out
  have HB2 : Hid (Below w.heap.size w w2) := Lib.hid (HB1.out.trans (hb.mono HB1.out.size))
  cases hok : okD xs y with
  | true =>
    obtain ⟨v', rfl, hq⟩ := h1 hok
    have ce := set_cells hE2 0
    have fe : w2.frozen? ⟨w.heap.size, 0, none⟩ = false := by simp [World.frozen?, hE2]
    simp only [List.getElem?_toArray, List.getElem?_cons_zero, List.getElem?_cons_succ] at ce
    have HE2 := Lib.hid hE2; have HQ := Lib.hid hq; have HOK := Lib.hid hok
    clear hE2 h1 h2 hb hq hok
    go_wp2
    have k2 := heap_setCell_same w2 w.heap.size 0 _ _ (.int .i64 0) HE2.out
    simp only [List.setIfInBounds_toArray, List.set_cons_zero, List.set_cons_succ] at k2
    refine door_ok_pl _ (by first | exact .inl rfl | exact .inr rfl) w.heap.size v' _ _ _ rfl rfl k2 ⟨HB2.out.setCell (p := ⟨w.heap.size, 0, none⟩) (Nat.le_refl _) _, (fun _ => ⟨v', rfl, ?_⟩), fun h => (by rw [HOK.out] at h; cases h)⟩
    have h := HQ.out
    rw [HS1.out] at h
    exact owns_setCell h (Nat.lt_succ_self _) 0 _
  | false =>
    obtain rfl := h2 hok
    exact door_fault_pl w.heap.size _ _ _ _ w2 _ _ rfl rfl hE2 ⟨HB2.out.setCell (p := ⟨w.heap.size, 0, none⟩) (Nat.le_refl _) _, (fun h => (by rw [hok] at h; cases h)), fun _ => rfl⟩
end Go.Proofs.YtkggfeemjabdeaaGreatDoor.Wc
end
section
namespace Go.Proofs.YtkggfeemjabdeaaGreatDoor.Wc
open Go Go.Proofs.YtkggfeemjabdeaaGreatDoor.Sx Go.RowKit

theorem isZero_nat (x : Nat) (v : Value) (w : World) (h : NatV w v x) : Calls Tryz.prog 42 #[v] w fun e w' => e = .returned (.bool (decide (x = 0))) ∧ w = w' := by
  obtain ⟨n, f, k1, k2, rfl⟩ := h
  obtain ⟨a', cap, rfl⟩ := k1.shape
  rcases Nat.eq_zero_or_pos n with h0 | h0
  · subst h0
    exact isZero_yes a' cap w
  · have hp := val_ge h0 (k2.top.resolve_left (by omega))
    have hp2 := Nat.pow_pos (n := n - 1) R64_pos
    have hn2 : n ≤ maxLen := by
      rcases k1 with ⟨-, h⟩ | ⟨_, _, c, h, h2, h3, -⟩
      · omega
      · omega
    rw [decide_eq_false (by omega)]
    exact isZero_no a' n cap hn2 h0 w
/-- The error that divideUp returns. -/
def divE (xs : List (Nat × Nat)) : Int :=
  match sumO xs (0, 1) with
  | none => 4
  | some s => if s.1 = 0 then 7 else if okD xs s = true then 0 else 4
def noPart : Value := .agg #[.string ⟨#[]⟩, .string ⟨#[]⟩]
/-- What divideUp comes to. -/
def DivP (xs : List (Nat × Nat)) (w : World) (e : Ending) (w' : World) : Prop :=
  Below w.heap.size w w' ∧ (divE xs = 0 → ∃ s v' base, sumO xs (0, 1) = some s ∧ w.heap.size ≤ base ∧ e = .returned (.tuple #[v', .agg #[.string (dec s.1), .string (dec s.2)], .int .i64 0]) ∧ w'.ownsRow base 24 2 v' xs.length (partCells (xs.map (divF · s)))) ∧
    (divE xs ≠ 0 → e = .returned (.tuple #[.slice none 0 0, noPart, .int .i64 (divE xs)]))

set_option maxRecDepth 100000 in
set_option maxHeartbeats 4000000 in
theorem divideUp_any (B n : Nat) (xs : List (Nat × Nat)) (cs : Array Value) (w : World) (hx : Rats (· ≠ B) w B n xs cs) (hxn : xs.length = n) (hxf : ∀ r ∈ xs, FrT r) (hn : n ≤ 512) (ht : Tens w) :
    Calls Tryz.prog 53 #[.slice (some ⟨B, 0, none⟩) n n] w (DivP xs w) := by
  have hBl := hx.lt
  obtain ⟨W1, hW1⟩ : ∃ W, W = w.alloc (.cells #[.slice (some ⟨B, 0, none⟩) n n] 85) := ⟨_, rfl⟩
  obtain ⟨W2, hW2⟩ : ∃ W, W = W1.alloc (.cells #[.string ⟨#[]⟩, .string ⟨#[]⟩] 24) := ⟨_, rfl⟩
  have b01 : Below w.heap.size w W1 := by rw [hW1]; exact (Below.refl _ _).alloc (Nat.le_refl _) _
  have b12 : Below W1.heap.size W1 W2 := by rw [hW2]; exact (Below.refl _ _).alloc (Nat.le_refl _) _
  have s1 : W1.heap.size = w.heap.size + 1 := by rw [hW1, World.size_alloc]
  have s2 : W2.heap.size = w.heap.size + 2 := by rw [hW2, World.size_alloc, s1]
  have e1 : W1.heap[w.heap.size]? = some (.cells #[.slice (some ⟨B, 0, none⟩) n n] 85 (0, 0)) := by rw [hW1]; exact Go.Deep.blk_alloc_new _ _
  have e2 : W2.heap[w.heap.size + 1]? = some (.cells #[.string ⟨#[]⟩, .string ⟨#[]⟩] 24 (0, 0)) := by rw [← s1, hW2]; exact Go.Deep.blk_alloc_new _ _
  have b02 : Below w.heap.size w W2 := b01.trans (b12.mono (by omega))
  have e12 : W2.heap[w.heap.size]? = some (.cells #[.slice (some ⟨B, 0, none⟩) n n] 85 (0, 0)) := (b12.block _ (by omega)).trans e1
  have hxA : Rats (fun c => c ≠ B ∧ (c < w.heap.size ∨ w.heap.size + 4 ≤ c)) W2 B n xs cs := (hx.sub (fun c h h' => ⟨h, .inl h'⟩) (fun h => h.1 rfl)).below b02
  have hat := attempt_rat 94 #[.pointer (some ⟨w.heap.size, 0, none⟩)] (enters_of Tryz.func94 (by kernel_rfl) rfl) (fun c => c ≠ B ∧ (c < w.heap.size ∨ w.heap.size + 4 ≤ c)) (sumO xs (0, 1)) W2 (by rw [s2]; omega) (by rw [s2]; omega)
    (fun W hW hs => sum_clo _ B n w.heap.size xs cs W (fun c hc => ⟨by omega, by omega⟩) (hxA.below hW) hxn hxf hn (fun j hj => cell_later hW (cell_later b02 (ht j hj))) (cell_later hW (by rw [set_cells e12]; rfl)))
  have HX := Lib.hid hxA; have HXF := Lib.hid hxf; have HT := Lib.hid ht; have HAT := Lib.hid hat; have HW1 := Lib.hid hW1; have HW2 := Lib.hid hW2; have HB2 := Lib.hid b02; have HE2 := Lib.hid e2; have HE1 := Lib.hid e12; have HS2 := Lib.hid s2; have HBL := Lib.hid hBl
  clear hx hxA hxf ht hat hW1 hW2 b01 b12 b02 e1 e2 e12 s1 s2 hBl
  go_enter Tryz.func53, Tryz.ntmps53
  go_wp2_with fail
  rw [← HW1.out, ← HW2.out]
  refine HAT.out.mono ?_
  rintro e w3 ⟨g0, g1, g2⟩
  have HG0 := Lib.hid (HB2.out.trans (g0.mono HB2.out.size)); have H23 := Lib.hid g0; have G1 := Lib.hid g1; have G2 := Lib.hid g2
  clear g0 g1 g2 HAT
  cases ho : sumO xs (0, 1) with
  | none =>
    obtain rfl := G2.out ho
    have HO := Lib.hid ho
    clear ho G1 G2
    have r3 := (H23.out.block _ (by have := HS2.out; omega)).trans HE2.out
    have q0 := set_cells r3 0; have q1 := set_cells r3 1
    simp only [List.getElem?_toArray, List.getElem?_cons_zero, List.getElem?_cons_succ] at q0 q1
    have f0 : w3.frozen? ⟨w.heap.size + 1, 0, none⟩ = false := by simp [World.frozen?, r3]
    have f1 : w3.frozen? ⟨w.heap.size + 1, 1, none⟩ = false := by simp [World.frozen?, r3]
    have hl3 : w.heap.size + 1 < w3.heap.size := (Array.getElem?_eq_some_iff.1 r3).1
    have R3 := Lib.hid r3
    clear r3
    have hz : divE xs = 4 := by unfold divE; rw [HO.out]
    have HZ := Lib.hid hz
    clear hz
    go_wp2_with fail
    have g0 := heap_setCell_same w3 (w.heap.size + 1) 0 _ _ (.string ⟨#[]⟩) R3.out
    have g1 := heap_setCell_same _ (w.heap.size + 1) 1 _ _ (.string ⟨#[]⟩) g0
    simp only [List.setIfInBounds_toArray, List.set_cons_zero, List.set_cons_succ] at g1
    have t0 := cell_later ((Below.refl _ _).alloc (Nat.le_refl _) (.cells #[.slice none 0 0, .slice none 0 0] 62)) (set_cells g1 0)
    have t1 := cell_later ((Below.refl _ _).alloc (Nat.le_refl _) (.cells #[.slice none 0 0, .slice none 0 0] 62)) (set_cells g1 1)
    have hbz := (HG0.out.setCell (p := ⟨w.heap.size + 1, 0, none⟩) (by show w.heap.size ≤ w.heap.size + 1; omega) (.string ⟨#[]⟩)).setCell (p := ⟨w.heap.size + 1, 1, none⟩) (by show w.heap.size ≤ w.heap.size + 1; omega) (.string ⟨#[]⟩)
    refine bodyPost_ret (v := .tuple #[.slice none 0 0, noPart, .int .i64 4]) (by simp [results, noPart, t0, t1, Tryz.results53, go_sem]) rfl ⟨hbz.alloc hbz.size _, (fun h => by rw [HZ.out] at h; cases h), fun _ => by rw [HZ.out]⟩
  | some s =>
    obtain ⟨hfs, u1, u2, rfl, hv⟩ := G1.out s ho
    have HO := Lib.hid ho; have HFS := Lib.hid hfs; have HV := Lib.hid hv
    obtain ⟨a1, l1, k1, e1⟩ := nat_slice hv.n
    obtain ⟨a2, l2, k2, e2⟩ := nat_slice hv.d
    subst e1 e2
    obtain ⟨w4, hw4⟩ : ∃ W, W = w3.alloc (.cells #[.slice a1 l1 k1, .slice a2 l2 k2] 62) := ⟨_, rfl⟩
    have b34 : Below w3.heap.size w3 w4 := by rw [hw4]; exact (Below.refl _ _).alloc (Nat.le_refl _) _
    have hv4 := hv.below b34
    have b04 := HG0.out.trans (b34.mono HG0.out.size)
    have b24 : Below W2.heap.size W2 w4 := H23.out.trans (b34.mono H23.out.size)
    have e4 : w4.heap[w3.heap.size]? = some (.cells #[.slice a1 l1 k1, .slice a2 l2 k2] 62 (0, 0)) := by rw [hw4]; exact Go.Deep.blk_alloc_new _ _
    have hs4 : w3.heap.size < w4.heap.size := (Array.getElem?_eq_some_iff.1 e4).1
    have hiz := isZero_nat s.1 _ w4 hv4.n
    have p4 := (b24.block _ (by have := HS2.out; omega)).trans HE2.out
    have l4 := (b24.block _ (by have := HS2.out; omega)).trans HE1.out
    have u0 := set_cells e4 0; have u1 := set_cells e4 1
    have q0 := set_cells p4 0; have q1 := set_cells p4 1
    simp only [List.getElem?_toArray, List.getElem?_cons_zero, List.getElem?_cons_succ] at q0 q1 u0 u1
    have f0 : w4.frozen? ⟨w.heap.size + 1, 0, none⟩ = false := by simp [World.frozen?, p4]
    have f1 : w4.frozen? ⟨w.heap.size + 1, 1, none⟩ = false := by simp [World.frozen?, p4]
    have HV4 := Lib.hid hv4; have HB04 := Lib.hid b04; have HB24 := Lib.hid b24; have HE4 := Lib.hid e4; have HP4 := Lib.hid p4; have HL4 := Lib.hid l4; have HIZ := Lib.hid hiz; have HW4 := Lib.hid hw4; have HS4 := Lib.hid hs4
    have hp1 : w.heap.size + 1 < w3.heap.size := by have := H23.out.size; have := HS2.out; omega
    clear ho G1 G2 hfs hv b34 hv4 b04 b24 e4 hs4 p4 l4 hiz HV hw4
    go_wp2_with fail
    rw [← HW4.out]
    refine HIZ.out.mono ?_
    rintro e w5 ⟨rfl, rfl⟩
    by_cases hs0 : s.1 = 0
    · have hd0 : decide (s.1 = 0) = true := decide_eq_true hs0
      have hz : divE xs = 7 := by unfold divE; rw [HO.out]; simp only; rw [if_pos hs0]
      have HZ := Lib.hid hz
      clear hz hs0
      rw [hd0]
      go_wp2_with fail
      have g0 := heap_setCell_same w4 (w.heap.size + 1) 0 _ _ (.string ⟨#[]⟩) HP4.out
      have g1 := heap_setCell_same _ (w.heap.size + 1) 1 _ _ (.string ⟨#[]⟩) g0
      simp only [List.setIfInBounds_toArray, List.set_cons_zero, List.set_cons_succ] at g1
      have t0 := set_cells g1 0; have t1 := set_cells g1 1
      simp only [List.getElem?_toArray, List.getElem?_cons_zero, List.getElem?_cons_succ] at t0 t1
      have hbz := (HB04.out.setCell (p := ⟨w.heap.size + 1, 0, none⟩) (by show w.heap.size ≤ w.heap.size + 1; omega) (.string ⟨#[]⟩)).setCell (p := ⟨w.heap.size + 1, 1, none⟩) (by show w.heap.size ≤ w.heap.size + 1; omega) (.string ⟨#[]⟩)
      refine bodyPost_ret (v := .tuple #[.slice none 0 0, noPart, .int .i64 7]) (by simp [results, noPart, t0, t1, Tryz.results53, go_sem]) rfl ⟨hbz, (fun h => by rw [HZ.out] at h; cases h), fun _ => by rw [HZ.out]⟩
    · have hd0 : decide (s.1 = 0) = false := decide_eq_false hs0
      rw [hd0]
      have hap := attempt_pl 96 #[.pointer (some ⟨w.heap.size, 0, none⟩), .pointer (some ⟨w3.heap.size, 0, none⟩)] (enters_of Tryz.func96 (by kernel_rfl) rfl) xs s w4
        (fun W hW => parts_clo _ B n w.heap.size w3.heap.size xs cs s _ _ W (HX.out.below (HB24.out.trans (hW.mono HB24.out.size))) hxn HXF.out ⟨cell_later hW u0, cell_later hW u1, HV4.out.n.below hW, HV4.out.d.below hW⟩ HFS.out (Nat.pos_of_ne_zero hs0) hn (fun j hj => cell_later hW (cell_later HB04.out (HT.out j hj))) (cell_later hW (by rw [set_cells HL4.out]; rfl)))
      have HAP := Lib.hid hap; have HS0 := Lib.hid hs0
      clear hap hs0
      go_wp2_with fail
      refine HAP.out.mono ?_
      rintro e w6 ⟨g0, g1, g2⟩
      have HB6 := Lib.hid g0; have HB06 := Lib.hid (HB04.out.trans (g0.mono HB04.out.size)); have G1 := Lib.hid g1; have G2 := Lib.hid g2
      have p6 := (g0.block _ (by have := HS4.out; omega)).trans HP4.out
      have e6 := (g0.block _ HS4.out).trans HE4.out
      have v0 := set_cells e6 0; have v1 := set_cells e6 1
      have r0 := set_cells p6 0; have r1 := set_cells p6 1
      simp only [List.getElem?_toArray, List.getElem?_cons_zero, List.getElem?_cons_succ] at r0 r1 v0 v1
      have f60 : w6.frozen? ⟨w.heap.size + 1, 0, none⟩ = false := by simp [World.frozen?, p6]
      have f61 : w6.frozen? ⟨w.heap.size + 1, 1, none⟩ = false := by simp [World.frozen?, p6]
      have HP6 := Lib.hid p6
      clear g0 g1 g2 HAP p6 e6 u0 u1 q0 q1 f0 f1
      cases hok : okD xs s with
      | false =>
        obtain rfl := G2.out hok
        have hz : divE xs = 4 := by unfold divE; rw [HO.out]; simp only; rw [if_neg HS0.out, if_neg (by rw [hok]; exact Bool.false_ne_true)]
        have HZ := Lib.hid hz
        clear hz hok G1 G2
        go_wp2_with fail
        have g0 := heap_setCell_same w6 (w.heap.size + 1) 0 _ _ (.string ⟨#[]⟩) HP6.out
        have g1 := heap_setCell_same _ (w.heap.size + 1) 1 _ _ (.string ⟨#[]⟩) g0
        simp only [List.setIfInBounds_toArray, List.set_cons_zero, List.set_cons_succ] at g1
        have t0 := set_cells g1 0; have t1 := set_cells g1 1
        simp only [List.getElem?_toArray, List.getElem?_cons_zero, List.getElem?_cons_succ] at t0 t1
        have hbz := (HB06.out.setCell (p := ⟨w.heap.size + 1, 0, none⟩) (by show w.heap.size ≤ w.heap.size + 1; omega) (.string ⟨#[]⟩)).setCell (p := ⟨w.heap.size + 1, 1, none⟩) (by show w.heap.size ≤ w.heap.size + 1; omega) (.string ⟨#[]⟩)
        refine bodyPost_ret (v := .tuple #[.slice none 0 0, noPart, .int .i64 4]) (by simp [results, noPart, t0, t1, Tryz.results53, go_sem]) rfl ⟨hbz, (fun h => by rw [HZ.out] at h; cases h), fun _ => by rw [HZ.out]⟩
      | true =>
        obtain ⟨v', rfl, hrow⟩ := G1.out hok
        have hz : divE xs = 0 := by unfold divE; rw [HO.out]; simp only; rw [if_neg HS0.out, if_pos hok]
        have HZ := Lib.hid hz; have HROW := Lib.hid hrow
        clear hz hok G1 G2 hrow
        go_wp2_with fail
        refine (part_rat s _ _ w6 (HV4.out.n.below HB6.out) (HV4.out.d.below HB6.out) HFS.out (fun j hj => cell_later HB06.out (HT.out j hj))).mono ?_
        rintro e w7 ⟨rfl, hb7⟩
        have HB7 := Lib.hid hb7
        have p7 := (hb7.block _ (by have := HB6.out.size; have := HS4.out; omega)).trans HP6.out
        have x0 := set_cells p7 0; have x1 := set_cells p7 1
        simp only [List.getElem?_toArray, List.getElem?_cons_zero, List.getElem?_cons_succ] at x0 x1
        have f70 : w7.frozen? ⟨w.heap.size + 1, 0, none⟩ = false := by simp [World.frozen?, p7]
        have f71 : w7.frozen? ⟨w.heap.size + 1, 1, none⟩ = false := by simp [World.frozen?, p7]
        have HP7 := Lib.hid p7
        clear p7 hb7 r0 r1 v0 v1 f60 f61
        generalize hd1 : dec s.1 = d1
        generalize hd2 : dec s.2 = d2
        have HD1 := Lib.hid hd1; have HD2 := Lib.hid hd2
        clear hd1 hd2
        go_wp2_with fail
        have g0 := heap_setCell_same w7 (w.heap.size + 1) 0 _ _ (.string d1) HP7.out
        have g1 := heap_setCell_same _ (w.heap.size + 1) 1 _ _ (.string d2) g0
        simp only [List.setIfInBounds_toArray, List.set_cons_zero, List.set_cons_succ] at g1
        have t0 := set_cells g1 0; have t1 := set_cells g1 1
        simp only [List.getElem?_toArray, List.getElem?_cons_zero, List.getElem?_cons_succ] at t0 t1
        have hb07 := HB06.out.trans (HB7.out.mono HB06.out.size)
        have hbz := (hb07.setCell (p := ⟨w.heap.size + 1, 0, none⟩) (by show w.heap.size ≤ w.heap.size + 1; omega) (.string d1)).setCell (p := ⟨w.heap.size + 1, 1, none⟩) (by show w.heap.size ≤ w.heap.size + 1; omega) (.string d2)
        refine bodyPost_ret (v := .tuple #[v', .agg #[.string d1, .string d2], .int .i64 0]) (by simp [results, t0, t1, Tryz.results53, go_sem]) rfl ⟨hbz, (fun _ => ⟨s, v', w4.heap.size + 1, HO.out, by have := HB04.out.size; omega, by rw [HD1.out, HD2.out], ?_⟩), fun h => absurd HZ.out h⟩
        exact owns_setCell (owns_setCell (owns_below HROW.out HB7.out) (by have := HS4.out; omega) 0 _) (by have := HS4.out; omega) 1 _
end Go.Proofs.YtkggfeemjabdeaaGreatDoor.Wc
end
section
namespace Go.Proofs.YtkggfeemjabdeaaGreatDoor.Wc
open Go Go.Proofs.YtkggfeemjabdeaaGreatDoor.Sx Go.RowKit

/-- The products of the elements of two lists. -/
def prodL (ps qs : List P2) : List (Nat × Nat) := mulL (ps.map pv) (qs.map pv) ps.length
/-- The error that Update returns. -/
def updE (ps qs : List P2) : Int := if mulE ps qs ≠ 0 then mulE ps qs else divE (prodL ps qs)
/-- What Update comes to. -/
def UpdP (ps qs : List P2) (w : World) (e : Ending) (w' : World) : Prop :=
  Below w.heap.size w w' ∧ (updE ps qs = 0 → ∃ s v' base, sumO (prodL ps qs) (0, 1) = some s ∧ w.heap.size ≤ base ∧ e = .returned (.tuple #[v', .agg #[.string (dec s.1), .string (dec s.2)], .int .i64 0]) ∧ w'.ownsRow base 24 2 v' ps.length (partCells ((prodL ps qs).map (divF · s)))) ∧
    (updE ps qs ≠ 0 → e = .returned (.tuple #[.slice none 0 0, noPart, .int .i64 (updE ps qs)]))
theorem mulE_ok {ps qs : List P2} (h : mulE ps qs = 0) : openLS ps = 0 ∧ openLS qs = 0 ∧ ps.length = qs.length ∧ okM (ps.map pv) (qs.map pv) = true := by
  unfold mulE at h
  split at h
  · cases h
  · split at h
    · rename_i h1; exact absurd h h1
    · rename_i h1
      split at h
      · rename_i h2; exact absurd h h2
      · rename_i h2
        split at h
        · cases h
        · rename_i h3
          split at h
          · rename_i h4
            exact ⟨Decidable.not_not.1 h1, Decidable.not_not.1 h2, Decidable.not_not.1 h3, h4⟩
          · cases h
theorem prodL_frt {ps qs : List P2} (h : mulE ps qs = 0) : ∀ r ∈ prodL ps qs, FrT r := by
  obtain ⟨h1, h2, h3, h4⟩ := mulE_ok h
  intro r hr
  have hf : fitsF r = true := by
    unfold okM at h4
    rw [List.length_map] at h4
    exact (List.all_eq_true.1 h4) r hr
  refine fits_frt ?_ hf
  obtain ⟨j, hj⟩ := List.mem_iff_getElem?.1 hr
  have hjl : j < ps.length := by
    rcases Nat.lt_or_ge j ps.length with h | h
    · exact h
    · rw [List.getElem?_eq_none (by rw [prodL, mulL_len, List.length_map]; omega)] at hj; cases hj
  rw [prodL, mulL_get (by rw [List.length_map]; exact hjl), if_pos hjl] at hj
  rw [← Option.some.inj hj]
  have k1 : (ps.map pv)[j]? = some (pv ps[j]) := by simp [hjl]
  have k2 : (qs.map pv)[j]? = some (pv (qs[j]'(by omega))) := by simp [show j < qs.length by omega]
  rw [List.getD_eq_getElem?_getD, List.getD_eq_getElem?_getD, k1, k2]
  exact mulF_fr (frt_all h1 _ (List.mem_of_getElem? k1)).fr (frt_all h2 _ (List.mem_of_getElem? k2)).fr

set_option maxRecDepth 100000 in
set_option maxHeartbeats 2000000 in
theorem Update_any (ps qs : List P2) (v v' : Value) (w : World) (h : PartL w v ps) (h' : PartL w v' qs) (hs : ∀ p ∈ ps, Short p) (hs' : ∀ p ∈ qs, Short p) (ht : Tens w) (h0 : 0 < w.heap.size) :
    Calls Tryz.prog 28 #[v, v'] w (UpdP ps qs w) := by
  obtain ⟨a, cap, rfl⟩ := h.shape
  obtain ⟨a', cap', rfl⟩ := h'.shape
  obtain ⟨W1, hW1⟩ : ∃ W, W = w.alloc (.cells #[.string ⟨#[]⟩, .string ⟨#[]⟩] 24) := ⟨_, rfl⟩
  have b01 : Below w.heap.size w W1 := by rw [hW1]; exact (Below.refl _ _).alloc (Nat.le_refl _) _
  have e1 : W1.heap[w.heap.size]? = some (.cells #[.string ⟨#[]⟩, .string ⟨#[]⟩] 24 (0, 0)) := by rw [hW1]; exact Go.Deep.blk_alloc_new _ _
  have hcall := multiply_any ps qs _ _ W1 (h.below b01) (h'.below b01) hs hs' (fun j hj => cell_later b01 (ht j hj)) (by have := b01.size; omega)
  have HC := Lib.hid hcall; have HW1 := Lib.hid hW1; have HB1 := Lib.hid b01; have HE1 := Lib.hid e1; have HT := Lib.hid ht
  clear hcall hW1 b01 e1 h h' hs hs' ht
  go_enter Tryz.func28, Tryz.ntmps28
  go_wp2_with fail
  rw [← HW1.out]
  refine HC.out.mono ?_
  rintro e w2 ⟨g0, g1, g2⟩
  have HB2 := Lib.hid g0; have HB02 := Lib.hid (HB1.out.trans (g0.mono HB1.out.size)); have G1 := Lib.hid g1; have G2 := Lib.hid g2
  have p2 := (g0.block _ (Array.getElem?_eq_some_iff.1 HE1.out).1).trans HE1.out
  have q0 := set_cells p2 0; have q1 := set_cells p2 1
  simp only [List.getElem?_toArray, List.getElem?_cons_zero, List.getElem?_cons_succ] at q0 q1
  have f0 : w2.frozen? ⟨w.heap.size, 0, none⟩ = false := by simp [World.frozen?, p2]
  have f1 : w2.frozen? ⟨w.heap.size, 1, none⟩ = false := by simp [World.frozen?, p2]
  have HP2 := Lib.hid p2
  clear g0 g1 g2 p2 HC
  by_cases hm : mulE ps qs = 0
  · obtain ⟨B, cs, hB, rfl, hx⟩ := G1.out hm
    clear G1 G2
    have hd := divideUp_any B ps.length (prodL ps qs) cs w2 hx (by rw [prodL, mulL_len, List.length_map]) (prodL_frt hm) (openLS_ok (mulE_ok hm).1).1 (fun j hj => cell_later HB02.out (HT.out j hj))
    have HD := Lib.hid hd; have HM := Lib.hid hm
    clear hd hm hx
    go_wp2_with fail
    refine HD.out.mono ?_
    rintro e w3 ⟨g0, g1, g2⟩
    have HB23 := Lib.hid g0; have HB03 := Lib.hid (HB02.out.trans (g0.mono HB02.out.size)); have G1 := Lib.hid g1; have G2 := Lib.hid g2
    have hl2 : w.heap.size < w2.heap.size := (Array.getElem?_eq_some_iff.1 HP2.out).1
    have p3 := (g0.block _ hl2).trans HP2.out
    have r0 := set_cells p3 0; have r1 := set_cells p3 1
    simp only [List.getElem?_toArray, List.getElem?_cons_zero, List.getElem?_cons_succ] at r0 r1
    have f30 : w3.frozen? ⟨w.heap.size, 0, none⟩ = false := by simp [World.frozen?, p3]
    have f31 : w3.frozen? ⟨w.heap.size, 1, none⟩ = false := by simp [World.frozen?, p3]
    have HP3 := Lib.hid p3
    clear g0 g1 g2 p3 HD q0 q1 f0 f1
    have hz : updE ps qs = divE (prodL ps qs) := by unfold updE; rw [if_neg (fun h => h HM.out)]
    by_cases hd : divE (prodL ps qs) = 0
    · obtain ⟨s, v', base, hs, hbase, rfl, hrow⟩ := G1.out hd
      have HS := Lib.hid hs; have HROW := Lib.hid hrow; have HZ := Lib.hid (hz.trans hd)
      clear G1 G2 hz hd hs hrow
      generalize hd1 : dec s.1 = d1
      generalize hd2 : dec s.2 = d2
      have HD1 := Lib.hid hd1; have HD2 := Lib.hid hd2
      clear hd1 hd2
      go_wp2_with fail
      have g0 := heap_setCell_same w3 w.heap.size 0 _ _ (.string d1) HP3.out
      have g1 := heap_setCell_same _ w.heap.size 1 _ _ (.string d2) g0
      simp only [List.setIfInBounds_toArray, List.set_cons_zero, List.set_cons_succ] at g1
      have t0 := set_cells g1 0; have t1 := set_cells g1 1
      simp only [List.getElem?_toArray, List.getElem?_cons_zero, List.getElem?_cons_succ] at t0 t1
      have hbz := (HB03.out.setCell (p := ⟨w.heap.size, 0, none⟩) (Nat.le_refl _) (.string d1)).setCell (p := ⟨w.heap.size, 1, none⟩) (Nat.le_refl _) (.string d2)
      refine bodyPost_ret (v := .tuple #[v', .agg #[.string d1, .string d2], .int .i64 0]) (by simp [results, t0, t1, Tryz.results28, go_sem]) rfl ⟨hbz, (fun _ => ⟨s, v', base, HS.out, by omega, by rw [HD1.out, HD2.out], ?_⟩), fun h => absurd HZ.out h⟩
      have h := HROW.out
      rw [prodL, mulL_len, List.length_map] at h
      exact owns_setCell (owns_setCell h (by omega) 0 _) (by omega) 1 _
    · have hr := G2.out hd
      subst hr
      have HZ := Lib.hid hz; have HND := Lib.hid hd
      clear G1 G2 hz hd
      generalize hzz : divE (prodL ps qs) = z at *
      unfold noPart
      go_wp2_with fail
      have g0 := heap_setCell_same w3 w.heap.size 0 _ _ (.string ⟨#[]⟩) HP3.out
      have g1 := heap_setCell_same _ w.heap.size 1 _ _ (.string ⟨#[]⟩) g0
      simp only [List.setIfInBounds_toArray, List.set_cons_zero, List.set_cons_succ] at g1
      have t0 := set_cells g1 0; have t1 := set_cells g1 1
      simp only [List.getElem?_toArray, List.getElem?_cons_zero, List.getElem?_cons_succ] at t0 t1
      have hbz := (HB03.out.setCell (p := ⟨w.heap.size, 0, none⟩) (Nat.le_refl _) (.string ⟨#[]⟩)).setCell (p := ⟨w.heap.size, 1, none⟩) (Nat.le_refl _) (.string ⟨#[]⟩)
      refine bodyPost_ret (v := .tuple #[.slice none 0 0, noPart, .int .i64 z]) (by simp [results, noPart, t0, t1, Tryz.results28, go_sem]) rfl ⟨hbz, (fun h => absurd (HZ.out.symm.trans h) HND.out), fun _ => by rw [HZ.out]⟩
  · have hr := G2.out hm
    subst hr
    have hz : updE ps qs = mulE ps qs := if_pos hm
    have hne : ((mulE ps qs) != 0) = true := bne_iff_ne.2 hm
    have HZ := Lib.hid hz; have HM := Lib.hid hm
    clear G1 G2 hz hm
    generalize hzz : mulE ps qs = z at *
    go_wp2_with fail
    have g0 := heap_setCell_same w2 w.heap.size 0 _ _ (.string ⟨#[]⟩) HP2.out
    have g1 := heap_setCell_same _ w.heap.size 1 _ _ (.string ⟨#[]⟩) g0
    simp only [List.setIfInBounds_toArray, List.set_cons_zero, List.set_cons_succ] at g1
    have t0 := set_cells g1 0; have t1 := set_cells g1 1
    simp only [List.getElem?_toArray, List.getElem?_cons_zero, List.getElem?_cons_succ] at t0 t1
    have hbz := (HB02.out.setCell (p := ⟨w.heap.size, 0, none⟩) (Nat.le_refl _) (.string ⟨#[]⟩)).setCell (p := ⟨w.heap.size, 1, none⟩) (Nat.le_refl _) (.string ⟨#[]⟩)
    refine bodyPost_ret (v := .tuple #[.slice none 0 0, noPart, .int .i64 z]) (by simp [results, noPart, t0, t1, Tryz.results28, go_sem]) rfl ⟨hbz, (fun h => absurd (HZ.out.symm.trans h) HM.out), fun _ => by rw [HZ.out]⟩
end Go.Proofs.YtkggfeemjabdeaaGreatDoor.Wc
end
section
namespace Go.Proofs.YtkggfeemjabdeaaGreatDoor.Wc
open Go Go.Proofs.YtkggfeemjabdeaaGreatDoor.Sx Go.RowKit

set_option maxRecDepth 100000 in
set_option maxHeartbeats 1000000 in
theorem of_any (a b : Int) (p : P2) (w : World) (ha : 0 ≤ a ∧ a ≤ 100) (hb : 0 ≤ b ∧ b ≤ 100) (hp : (ratioS a b).1 = p) (ht : Tens w) :
    Calls Tryz.prog 12 #[.int .i64 a, .int .i64 b] w fun e w' => e = .returned (partV p) ∧ Below w.heap.size w w' := by
  obtain ⟨W1, hW1⟩ : ∃ W, W = w.alloc (.cells #[.string ⟨#[]⟩, .string ⟨#[]⟩] 24) := ⟨_, rfl⟩
  have b01 : Below w.heap.size w W1 := by rw [hW1]; exact (Below.refl _ _).alloc (Nat.le_refl _) _
  have e1 : W1.heap[w.heap.size]? = some (.cells #[.string ⟨#[]⟩, .string ⟨#[]⟩] 24 (0, 0)) := by rw [hW1]; exact Go.Deep.blk_alloc_new _ _
  have hcall := Ratio_any a b W1 (by omega) (by omega) (by omega) (by omega) (fun j hj => cell_later b01 (ht j hj))
  generalize hr : ratioS a b = r at *
  obtain ⟨⟨d1, d2⟩, er⟩ := r
  have HC := Lib.hid hcall; have HW1 := Lib.hid hW1; have HB1 := Lib.hid b01; have HE1 := Lib.hid e1
  clear hcall hW1 b01 e1 hr
  subst hp
  go_enter Tryz.func12, Tryz.ntmps12
  go_wp2_with fail
  rw [← HW1.out]
  refine HC.out.mono ?_
  rintro e w2 ⟨rfl, hb2⟩
  have hl1 : w.heap.size < W1.heap.size := (Array.getElem?_eq_some_iff.1 HE1.out).1
  have p2 := (hb2.block _ hl1).trans HE1.out
  have q0 := set_cells p2 0; have q1 := set_cells p2 1
  simp only [List.getElem?_toArray, List.getElem?_cons_zero, List.getElem?_cons_succ] at q0 q1
  have f0 : w2.frozen? ⟨w.heap.size, 0, none⟩ = false := by simp [World.frozen?, p2]
  have f1 : w2.frozen? ⟨w.heap.size, 1, none⟩ = false := by simp [World.frozen?, p2]
  have hl2 : w.heap.size < w2.heap.size := Nat.lt_of_lt_of_le hl1 hb2.size
  have HP2 := Lib.hid p2; have HB2 := Lib.hid (HB1.out.trans (hb2.mono HB1.out.size))
  clear p2 hb2 HC
  unfold retV partV
  go_wp2_with fail
  have g0 := heap_setCell_same w2 w.heap.size 0 _ _ (.string d1) HP2.out
  have g1 := heap_setCell_same _ w.heap.size 1 _ _ (.string d2) g0
  simp only [List.setIfInBounds_toArray, List.set_cons_zero, List.set_cons_succ] at g1
  have t0 := cell_later ((Below.refl _ _).alloc (Nat.le_refl _) (.cells #[.string d1, .string d2] 24)) (set_cells g1 0)
  have t1 := cell_later ((Below.refl _ _).alloc (Nat.le_refl _) (.cells #[.string d1, .string d2] 24)) (set_cells g1 1)
  have hbz := (HB2.out.setCell (p := ⟨w.heap.size, 0, none⟩) (Nat.le_refl _) (.string d1)).setCell (p := ⟨w.heap.size, 1, none⟩) (Nat.le_refl _) (.string d2)
  exact bodyPost_ret (v := .agg #[.string d1, .string d2]) (by simp [results, t0, t1, Tryz.results12, go_sem]) rfl ⟨rfl, hbz.alloc hbz.size _⟩

theorem r12 : ratioS 1 2 = ((⟨#[49]⟩, ⟨#[50]⟩), 0) := by kernel_rfl
theorem r13 : ratioS 1 3 = ((⟨#[49]⟩, ⟨#[51]⟩), 0) := by kernel_rfl
theorem r14 : ratioS 1 4 = ((⟨#[49]⟩, ⟨#[52]⟩), 0) := by kernel_rfl
theorem r34 : ratioS 3 4 = ((⟨#[51]⟩, ⟨#[52]⟩), 0) := by kernel_rfl
theorem m64 : makeS (⟨#[54]⟩, ⟨#[52]⟩) = ((⟨#[51]⟩, ⟨#[50]⟩), 0) := by kernel_rfl
theorem a56 : addS (⟨#[49]⟩, ⟨#[50]⟩) (⟨#[49]⟩, ⟨#[51]⟩) = ((⟨#[53]⟩, ⟨#[54]⟩), 0) := by kernel_rfl
def l12 : List P2 := [(⟨#[49]⟩, ⟨#[50]⟩), (⟨#[49]⟩, ⟨#[50]⟩)]
def l134 : List P2 := [(⟨#[49]⟩, ⟨#[52]⟩), (⟨#[51]⟩, ⟨#[52]⟩)]
theorem u0 : updE l12 l134 = 0 := by kernel_rfl
theorem u1 : sumO (prodL l12 l134) (0, 1) = some (1, 2) := by kernel_rfl
theorem u2 : partCells ((prodL l12 l134).map (divF · (1, 2))) = [.string ⟨#[49]⟩, .string ⟨#[52]⟩, .string ⟨#[51]⟩, .string ⟨#[52]⟩] := by kernel_rfl
theorem u3 : dec 1 = ⟨#[49]⟩ ∧ dec 2 = ⟨#[50]⟩ := ⟨by kernel_rfl, by kernel_rfl⟩

theorem upd_two (b1 b2 : Nat) (w : World) (h1 : w.heap[b1]? = some (.cells #[.string ⟨#[49]⟩, .string ⟨#[50]⟩, .string ⟨#[49]⟩, .string ⟨#[50]⟩] 24 (0, 0))) (h2 : w.heap[b2]? = some (.cells #[.string ⟨#[49]⟩, .string ⟨#[52]⟩, .string ⟨#[51]⟩, .string ⟨#[52]⟩] 24 (0, 0))) (ht : Tens w) (h0 : 0 < w.heap.size) :
    Calls Tryz.prog 28 #[.slice (some ⟨b1, 0, none⟩) 2 2, .slice (some ⟨b2, 0, none⟩) 2 2] w fun e w' => Below w.heap.size w w' ∧ ∃ g cap, e = .returned (.tuple #[.slice (some ⟨g, 0, none⟩) 2 cap, .agg #[.string ⟨#[49]⟩, .string ⟨#[50]⟩], .int .i64 0]) ∧ g < w'.heap.size ∧
      w'.cell? ⟨g, 0, none⟩ = some (.string ⟨#[49]⟩) ∧ w'.cell? ⟨g, 1, none⟩ = some (.string ⟨#[52]⟩) ∧ w'.cell? ⟨g, 2, none⟩ = some (.string ⟨#[51]⟩) ∧ w'.cell? ⟨g, 3, none⟩ = some (.string ⟨#[52]⟩) := by
  have k1 : PartL w (.slice (some ⟨b1, 0, none⟩) 2 2) l12 := .inr ⟨b1, 0, 2, rfl, by decide, by decide, (Array.getElem?_eq_some_iff.1 h1).1, fun i hi => by
    match i, hi with
    | 0, _ => exact ⟨by rw [set_cells h1]; rfl, by rw [set_cells h1]; rfl⟩
    | 1, _ => exact ⟨by rw [set_cells h1]; rfl, by rw [set_cells h1]; rfl⟩⟩
  have k2 : PartL w (.slice (some ⟨b2, 0, none⟩) 2 2) l134 := .inr ⟨b2, 0, 2, rfl, by decide, by decide, (Array.getElem?_eq_some_iff.1 h2).1, fun i hi => by
    match i, hi with
    | 0, _ => exact ⟨by rw [set_cells h2]; rfl, by rw [set_cells h2]; rfl⟩
    | 1, _ => exact ⟨by rw [set_cells h2]; rfl, by rw [set_cells h2]; rfl⟩⟩
  have s1 : ∀ p ∈ l12, Short p := by
    intro p hp
    simp only [l12, List.mem_cons, List.not_mem_nil, or_false] at hp
    rcases hp with rfl | rfl <;> exact ⟨by decide, by decide⟩
  have s2 : ∀ p ∈ l134, Short p := by
    intro p hp
    simp only [l134, List.mem_cons, List.not_mem_nil, or_false] at hp
    rcases hp with rfl | rfl <;> exact ⟨by decide, by decide⟩
  refine (Update_any l12 l134 _ _ w k1 k2 s1 s2 ht h0).mono ?_
  rintro e w' ⟨hb, g1, -⟩
  obtain ⟨s, v', base, hs, -, rfl, hrow⟩ := g1 u0
  rw [u1] at hs
  obtain rfl := Option.some.inj hs
  rw [u2] at hrow
  refine ⟨hb, ?_⟩
  rcases hrow.2 with ⟨-, h⟩ | ⟨g, cap, cur, rfl, -, hg, -, -, -, ht4⟩
  · cases h
  · refine ⟨g, cap, ?_, (Array.getElem?_eq_some_iff.1 hg).1, ?_, ?_, ?_, ?_⟩
    · show Ending.returned (.tuple #[.slice (some ⟨g, 0, none⟩) 2 cap, .agg #[.string (dec 1), .string (dec 2)], .int .i64 0]) = _
      rw [u3.1, u3.2]
    all_goals
      rw [set_cells hg, ← Array.getElem?_toList]
    · have h := List.getElem?_take_of_lt (l := cur.toList) (i := 0) (j := 4) (by decide)
      rw [← h]; exact (congrArg (·[0]?) ht4)
    · have h := List.getElem?_take_of_lt (l := cur.toList) (i := 1) (j := 4) (by decide)
      rw [← h]; exact (congrArg (·[1]?) ht4)
    · have h := List.getElem?_take_of_lt (l := cur.toList) (i := 2) (j := 4) (by decide)
      rw [← h]; exact (congrArg (·[2]?) ht4)
    · have h := List.getElem?_take_of_lt (l := cur.toList) (i := 3) (j := 4) (by decide)
      rw [← h]; exact (congrArg (·[3]?) ht4)

set_option maxRecDepth 100000 in
set_option maxHeartbeats 4000000 in
theorem alive_any (w : World) (ht : Tens w) (h0 : 0 < w.heap.size) : Calls Tryz.prog 20 #[] w fun e w' => e = .returned (.bool true) ∧ Below w.heap.size w w' := by
  have HT : Hid (∀ W, Below w.heap.size w W → Tens W) := Lib.hid fun W hW j hj => cell_later hW (ht j hj)
  have O12 : Hid (∀ W, Below w.heap.size w W → Calls Tryz.prog 12 #[.int .i64 1, .int .i64 2] W fun e w' => e = .returned (.agg #[.string ⟨#[49]⟩, .string ⟨#[50]⟩]) ∧ Below W.heap.size W w') := Lib.hid fun W hW => of_any 1 2 (⟨#[49]⟩, ⟨#[50]⟩) W (by decide) (by decide) (by rw [r12]) (HT.out W hW)
  have O13 : Hid (∀ W, Below w.heap.size w W → Calls Tryz.prog 12 #[.int .i64 1, .int .i64 3] W fun e w' => e = .returned (.agg #[.string ⟨#[49]⟩, .string ⟨#[51]⟩]) ∧ Below W.heap.size W w') := Lib.hid fun W hW => of_any 1 3 (⟨#[49]⟩, ⟨#[51]⟩) W (by decide) (by decide) (by rw [r13]) (HT.out W hW)
  have O14 : Hid (∀ W, Below w.heap.size w W → Calls Tryz.prog 12 #[.int .i64 1, .int .i64 4] W fun e w' => e = .returned (.agg #[.string ⟨#[49]⟩, .string ⟨#[52]⟩]) ∧ Below W.heap.size W w') := Lib.hid fun W hW => of_any 1 4 (⟨#[49]⟩, ⟨#[52]⟩) W (by decide) (by decide) (by rw [r14]) (HT.out W hW)
  have O34 : Hid (∀ W, Below w.heap.size w W → Calls Tryz.prog 12 #[.int .i64 3, .int .i64 4] W fun e w' => e = .returned (.agg #[.string ⟨#[51]⟩, .string ⟨#[52]⟩]) ∧ Below W.heap.size W w') := Lib.hid fun W hW => of_any 3 4 (⟨#[51]⟩, ⟨#[52]⟩) W (by decide) (by decide) (by rw [r34]) (HT.out W hW)
  have OM : Hid (Calls Tryz.prog 10 #[.string ⟨#[54]⟩, .string ⟨#[52]⟩] w fun e w' => e = .returned (.tuple #[.agg #[.string ⟨#[51]⟩, .string ⟨#[50]⟩], .int .i64 0]) ∧ Below w.heap.size w w') := Lib.hid (by
    have h := Make_any (⟨#[54]⟩, ⟨#[52]⟩) w ⟨by decide, by decide⟩ ht
    rw [m64] at h; exact h)
  have OA : Hid (∀ W, Below w.heap.size w W → Calls Tryz.prog 23 #[.agg #[.string ⟨#[49]⟩, .string ⟨#[50]⟩], .agg #[.string ⟨#[49]⟩, .string ⟨#[51]⟩]] W fun e w' => e = .returned (.tuple #[.agg #[.string ⟨#[53]⟩, .string ⟨#[54]⟩], .int .i64 0]) ∧ Below W.heap.size W w') := Lib.hid fun W hW => by
    have h := Add_any (⟨#[49]⟩, ⟨#[50]⟩) (⟨#[49]⟩, ⟨#[51]⟩) W ⟨by decide, by decide⟩ ⟨by decide, by decide⟩ (HT.out W hW)
    rw [a56] at h; exact h
  have H0 := Lib.hid h0
  clear ht h0
  go_enter Tryz.func20, Tryz.ntmps20
  go_wp2_with fail
  refine OM.out.mono ?_
  rintro e w1 ⟨rfl, hb1⟩
  obtain ⟨W2, hW2⟩ : ∃ W, W = w1.alloc (.cells #[.string ⟨#[51]⟩, .string ⟨#[50]⟩] 24) := ⟨_, rfl⟩
  have b2 : Below w.heap.size w W2 := by rw [hW2]; exact hb1.alloc hb1.size _
  have x2 : W2.heap[w1.heap.size]? = some (.cells #[.string ⟨#[51]⟩, .string ⟨#[50]⟩] 24 (0, 0)) := by rw [hW2]; exact Go.Deep.blk_alloc_new _ _
  have HB2 := Lib.hid b2; have HX2 := Lib.hid x2; have HW2 := Lib.hid hW2
  clear hb1 b2 x2 hW2 OM
  go_wp2_with fail
  rw [← HW2.out]
  refine (O12.out W2 HB2.out).mono ?_
  rintro e w3 ⟨rfl, hb3⟩
  have HB3 := Lib.hid (HB2.out.trans (hb3.mono HB2.out.size)); have HE3 := Lib.hid hb3
  clear hb3 HW2
  go_wp2_with fail
  refine (O13.out w3 HB3.out).mono ?_
  rintro e w4 ⟨rfl, hb4⟩
  have HB4 := Lib.hid (HB3.out.trans (hb4.mono HB3.out.size)); have HE4 := Lib.hid (below_chain HE3.out hb4)
  clear hb4
  go_wp2_with fail
  refine (OA.out w4 HB4.out).mono ?_
  rintro e w5 ⟨rfl, hb5⟩
  obtain ⟨W6, hW6⟩ : ∃ W, W = w5.alloc (.cells #[.string ⟨#[53]⟩, .string ⟨#[54]⟩] 24) := ⟨_, rfl⟩
  have b56 : Below w5.heap.size w5 W6 := by rw [hW6]; exact (Below.refl _ _).alloc (Nat.le_refl _) _
  have x6 : W6.heap[w5.heap.size]? = some (.cells #[.string ⟨#[53]⟩, .string ⟨#[54]⟩] 24 (0, 0)) := by rw [hW6]; exact Go.Deep.blk_alloc_new _ _
  have h46 := below_chain hb5 b56
  have HE6 := Lib.hid (below_chain HE4.out h46); have HB6 := Lib.hid (HB4.out.trans (h46.mono HB4.out.size)); have HX6 := Lib.hid x6; have HW6 := Lib.hid hW6
  clear hb5 b56 x6 h46 hW6 OA O13 HE3 HE4
  go_wp2_with fail
  rw [← HW6.out]
  refine (O12.out W6 HB6.out).mono ?_
  rintro e w7 ⟨rfl, hb7⟩
  have HB7 := Lib.hid (HB6.out.trans (hb7.mono HB6.out.size)); have HE7 := Lib.hid hb7
  clear hb7 HW6
  go_wp2_with fail
  refine (O12.out w7 HB7.out).mono ?_
  rintro e w8 ⟨rfl, hb8⟩
  obtain ⟨W9, hW9⟩ : ∃ W, W = w8.alloc (.cells #[.string ⟨#[49]⟩, .string ⟨#[50]⟩, .string ⟨#[49]⟩, .string ⟨#[50]⟩] 24) := ⟨_, rfl⟩
  have b89 : Below w8.heap.size w8 W9 := by rw [hW9]; exact (Below.refl _ _).alloc (Nat.le_refl _) _
  have x9 : W9.heap[w8.heap.size]? = some (.cells #[.string ⟨#[49]⟩, .string ⟨#[50]⟩, .string ⟨#[49]⟩, .string ⟨#[50]⟩] 24 (0, 0)) := by rw [hW9]; exact Go.Deep.blk_alloc_new _ _
  have h79 := below_chain hb8 b89
  have HE9 := Lib.hid (below_chain HE7.out h79); have HB9 := Lib.hid (HB7.out.trans (h79.mono HB7.out.size)); have HX9 := Lib.hid x9; have HW9 := Lib.hid hW9
  clear hb8 b89 x9 h79 hW9 HE7
  go_wp2_with fail
  rw [← HW9.out]
  refine (O14.out W9 HB9.out).mono ?_
  rintro e w10 ⟨rfl, hb10⟩
  have HB10 := Lib.hid (HB9.out.trans (hb10.mono HB9.out.size)); have HE10 := Lib.hid hb10
  clear hb10 HW9
  go_wp2_with fail
  refine (O34.out w10 HB10.out).mono ?_
  rintro e w11 ⟨rfl, hb11⟩
  obtain ⟨W12, hW12⟩ : ∃ W, W = w11.alloc (.cells #[.string ⟨#[49]⟩, .string ⟨#[52]⟩, .string ⟨#[51]⟩, .string ⟨#[52]⟩] 24) := ⟨_, rfl⟩
  have b1112 : Below w11.heap.size w11 W12 := by rw [hW12]; exact (Below.refl _ _).alloc (Nat.le_refl _) _
  have x12 : W12.heap[w11.heap.size]? = some (.cells #[.string ⟨#[49]⟩, .string ⟨#[52]⟩, .string ⟨#[51]⟩, .string ⟨#[52]⟩] 24 (0, 0)) := by rw [hW12]; exact Go.Deep.blk_alloc_new _ _
  have h1012 := below_chain hb11 b1112
  have h912 := below_chain HE10.out h1012
  have h612 := below_chain HE9.out h912
  have h212 := below_chain HE6.out h612
  have b12 := HB10.out.trans (h1012.mono HB10.out.size)
  have hu := upd_two w8.heap.size w11.heap.size W12 ((h912.block _ (Array.getElem?_eq_some_iff.1 HX9.out).1).trans HX9.out) x12 (HT.out W12 b12) (Nat.lt_of_lt_of_le H0.out b12.size)
  have HU := Lib.hid hu; have H612 := Lib.hid h612; have H212 := Lib.hid h212; have HB12 := Lib.hid b12; have HW12 := Lib.hid hW12
  clear hb11 b1112 x12 h1012 h912 h612 h212 b12 hu hW12 HE10 HE9 HX9 HB10 HB9 HB7 HB6 HB4 HB3
  go_wp2_with fail
  rw [← HW12.out]
  refine HU.out.mono ?_
  rintro e w13 ⟨hb13, g, cap, rfl, hg, c0, c1, c2, c3⟩
  obtain ⟨W14, hW14⟩ : ∃ W, W = w13.alloc (.cells #[.string ⟨#[49]⟩, .string ⟨#[50]⟩] 24) := ⟨_, rfl⟩
  have b1314 : Below w13.heap.size w13 W14 := by rw [hW14]; exact (Below.refl _ _).alloc (Nat.le_refl _) _
  have x14 : W14.heap[w13.heap.size]? = some (.cells #[.string ⟨#[49]⟩, .string ⟨#[50]⟩] 24 (0, 0)) := by rw [hW14]; exact Go.Deep.blk_alloc_new _ _
  have h1214 := below_chain hb13 b1314
  have b14 := HB12.out.trans (h1214.mono HB12.out.size)
  have y2 := ((below_chain H212.out h1214).block _ (Array.getElem?_eq_some_iff.1 HX2.out).1).trans HX2.out
  have y6 := ((below_chain H612.out h1214).block _ (Array.getElem?_eq_some_iff.1 HX6.out).1).trans HX6.out
  have d0 := cell_later b1314 c0; have d1 := cell_later b1314 c1; have d2 := cell_later b1314 c2; have d3 := cell_later b1314 c3
  have m0 := set_cells y2 0; have m1 := set_cells y2 1; have a0 := set_cells y6 0; have a1 := set_cells y6 1; have p0 := set_cells x14 0; have p1 := set_cells x14 1
  simp only [List.getElem?_toArray, List.getElem?_cons_zero, List.getElem?_cons_succ] at m0 m1 a0 a1 p0 p1
  have HB14 := Lib.hid b14; have HW14 := Lib.hid hW14
  have HSS : Hid (∀ W, Below W14.heap.size W14 W → (W.cell? ⟨g, 0, none⟩ = some (.string ⟨#[49]⟩) ∧ W.cell? ⟨g, 1, none⟩ = some (.string ⟨#[52]⟩) ∧ W.cell? ⟨g, 2, none⟩ = some (.string ⟨#[51]⟩) ∧ W.cell? ⟨g, 3, none⟩ = some (.string ⟨#[52]⟩) ∧ W.cell? ⟨w13.heap.size, 0, none⟩ = some (.string ⟨#[49]⟩) ∧ W.cell? ⟨w13.heap.size, 1, none⟩ = some (.string ⟨#[50]⟩) ∧ Below w.heap.size w W)) := Lib.hid fun W hW =>
    ⟨cell_later hW d0, cell_later hW d1, cell_later hW d2, cell_later hW d3, cell_later hW p0, cell_later hW p1, b14.trans (hW.mono b14.size)⟩
  have hl1 : w1.heap.size < w13.heap.size := by
    have := (Array.getElem?_eq_some_iff.1 HX2.out).1
    have := H212.out.size; have := hb13.size; omega
  have hl5 : w5.heap.size < w13.heap.size := by
    have := (Array.getElem?_eq_some_iff.1 HX6.out).1
    have := H612.out.size; have := hb13.size; omega
  clear b1314 x14 h1214 b14 y2 y6 d0 d1 d2 d3 p0 p1 c0 c1 c2 c3 hb13 hW14 HU HW12 H612 H212 HX2 HX6 HE6 HB12 HB2
  have mm0 := m0; have mm1 := m1; have aa0 := a0; have aa1 := a1
  rw [HW14.out] at mm0 mm1 aa0 aa1
  go_wp2_with fail
  rw [← HW14.out]
  clear mm0 mm1 aa0 aa1 m0 m1 a0 a1
  have k4 : Below W14.heap.size W14 W14.drew := (Below.refl _ W14).drew
  refine wp_region_held_drew (S := fun W => (W.cell? ⟨g, 0, none⟩ = some (.string ⟨#[49]⟩) ∧ W.cell? ⟨g, 1, none⟩ = some (.string ⟨#[52]⟩) ∧ W.cell? ⟨g, 2, none⟩ = some (.string ⟨#[51]⟩) ∧ W.cell? ⟨g, 3, none⟩ = some (.string ⟨#[52]⟩) ∧ W.cell? ⟨w13.heap.size, 0, none⟩ = some (.string ⟨#[49]⟩) ∧ W.cell? ⟨w13.heap.size, 1, none⟩ = some (.string ⟨#[50]⟩) ∧ Below w.heap.size w W)) (by kernel_rfl) (HSS.out _ k4) (fun hHeld => ?_)
  refine takeH (i := 0) (n := 46) (v := .bool true) rfl rfl (by kernel_rfl) (by kernel_rfl) (by kernel_rfl) (fun _ _ _ h => h) (Or.inl ⟨by kernel_rfl, ?_⟩) (by assumption) ?_
  · intro w hSw; (try dsimp only at hSw); go_simp
  try simp only [Act.put, List.setIfInBounds_toArray, List.set_cons_zero, List.set_cons_succ]
  refine takeH (i := 1) (n := 47) (v := .bool true) rfl rfl (by kernel_rfl) (by kernel_rfl) (by kernel_rfl) (fun _ _ _ h => h) (Or.inl ⟨by kernel_rfl, ?_⟩) (by assumption) ?_
  · intro w hSw; (try dsimp only at hSw); go_simp
  try simp only [Act.put, List.setIfInBounds_toArray, List.set_cons_zero, List.set_cons_succ]
  refine takeH (i := 2) (n := 48) (v := .int .i64 0) rfl rfl (by kernel_rfl) (by kernel_rfl) (by kernel_rfl) (fun _ _ _ h => h) (Or.inl ⟨by kernel_rfl, ?_⟩) (by assumption) ?_
  · intro w hSw; (try dsimp only at hSw); go_simp
  try simp only [Act.put, List.setIfInBounds_toArray, List.set_cons_zero, List.set_cons_succ]
  refine takeH (i := 3) (n := 49) (v := .bool true) rfl rfl (by kernel_rfl) (by kernel_rfl) (by kernel_rfl) (fun _ _ _ h => h) (Or.inl ⟨by kernel_rfl, ?_⟩) (by assumption) ?_
  · intro w hSw; (try dsimp only at hSw); go_simp
  try simp only [Act.put, List.setIfInBounds_toArray, List.set_cons_zero, List.set_cons_succ]
  refine takeH (i := 4) (n := 50) (v := .bool true) rfl rfl (by kernel_rfl) (by kernel_rfl) (by kernel_rfl) (fun _ _ _ h => h) (Or.inl ⟨by kernel_rfl, ?_⟩) (by assumption) ?_
  · intro w hSw; (try dsimp only at hSw); go_simp
  try simp only [Act.put, List.setIfInBounds_toArray, List.set_cons_zero, List.set_cons_succ]
  refine takeH (i := 5) (n := 51) (v := .bool true) rfl rfl (by kernel_rfl) (by kernel_rfl) (by kernel_rfl) (fun _ _ _ h => h) (Or.inl ⟨by kernel_rfl, ?_⟩) (by assumption) ?_
  · intro w hSw; (try dsimp only at hSw); go_simp
  try simp only [Act.put, List.setIfInBounds_toArray, List.set_cons_zero, List.set_cons_succ]
  refine takeH (i := 6) (n := 52) (v := .slice (some ⟨g, 0, none⟩) 2 cap) rfl rfl (by kernel_rfl) (by kernel_rfl) (by kernel_rfl) (fun _ _ _ h => h) (Or.inl ⟨by kernel_rfl, ?_⟩) (by assumption) ?_
  · intro w hSw; (try dsimp only at hSw); go_simp
  try simp only [Act.put, List.setIfInBounds_toArray, List.set_cons_zero, List.set_cons_succ]
  refine takeH (i := 7) (n := 53) (v := .int .i64 2) rfl rfl (by kernel_rfl) (by kernel_rfl) (by kernel_rfl) (fun _ _ _ h => h) (Or.inl ⟨by kernel_rfl, ?_⟩) (by assumption) ?_
  · intro w hSw; (try dsimp only at hSw); go_simp
  try simp only [Act.put, List.setIfInBounds_toArray, List.set_cons_zero, List.set_cons_succ]
  refine takeH (i := 8) (n := 54) (v := .bool true) rfl rfl (by kernel_rfl) (by kernel_rfl) (by kernel_rfl) (fun _ _ _ h => h) (Or.inl ⟨by kernel_rfl, ?_⟩) (by assumption) ?_
  · intro w hSw; (try dsimp only at hSw); go_simp
  try simp only [Act.put, List.setIfInBounds_toArray, List.set_cons_zero, List.set_cons_succ]
  refine takeH (i := 9) (n := 55) (v := .bool true) rfl rfl (by kernel_rfl) (by kernel_rfl) (by kernel_rfl) (fun _ _ _ h => h) (Or.inl ⟨by kernel_rfl, ?_⟩) (by assumption) ?_
  · intro w hSw; (try dsimp only at hSw); go_simp
  try simp only [Act.put, List.setIfInBounds_toArray, List.set_cons_zero, List.set_cons_succ]
  refine takeH (i := 10) (n := 56) (v := .bool true) rfl rfl (by kernel_rfl) (by kernel_rfl) (by kernel_rfl) (fun _ _ _ h => h) (Or.inl ⟨by kernel_rfl, ?_⟩) (by assumption) ?_
  · intro w hSw; (try dsimp only at hSw); go_simp
  try simp only [Act.put, List.setIfInBounds_toArray, List.set_cons_zero, List.set_cons_succ]
  refine takeH (i := 11) (n := 57) (v := .slice (some ⟨g, 0, none⟩) 2 cap) rfl rfl (by kernel_rfl) (by kernel_rfl) (by kernel_rfl) (fun _ _ _ h => h) (Or.inl ⟨by kernel_rfl, ?_⟩) (by assumption) ?_
  · intro w hSw; (try dsimp only at hSw); go_simp
  try simp only [Act.put, List.setIfInBounds_toArray, List.set_cons_zero, List.set_cons_succ]
  refine takeH (i := 12) (n := 58) (v := .pointer (some ⟨g, 0, none⟩)) rfl rfl (by kernel_rfl) (by kernel_rfl) (by kernel_rfl) (fun _ _ _ h => h) (Or.inl ⟨by kernel_rfl, ?_⟩) (by assumption) ?_
  · intro w hSw; (try dsimp only at hSw); go_simp
  try simp only [Act.put, List.setIfInBounds_toArray, List.set_cons_zero, List.set_cons_succ]
  refine takeH (i := 13) (n := 59) (v := .agg #[.string ⟨#[49]⟩, .string ⟨#[52]⟩]) rfl rfl (by kernel_rfl) (by kernel_rfl) (by kernel_rfl) (fun _ _ _ h => h) (Or.inl ⟨by kernel_rfl, ?_⟩) (by assumption) ?_
  · intro w hSw; (try dsimp only at hSw); go_simp
  try simp only [Act.put, List.setIfInBounds_toArray, List.set_cons_zero, List.set_cons_succ]
  refine wpAnyH_ready (rs := [14]) (by kernel_rfl) (by simp) ?_
  refine AllReadyH.cons rfl (fun K hK => ?_) AllReadyH.nil
  rw [if_pos (by kernel_rfl)]
  go_simp
  go_at_call 12
  refine (O14.out _ (HSS.out _ k4).2.2.2.2.2.2).mono ?_
  rintro e w15 ⟨rfl, hb⟩
  have k4' := below_chain (W := W14) k4 hb
  refine hK.out _ _ (HSS.out _ k4') (fun hHeld => ?_)
  clear hK K hb
  try simp only [Act.put, List.setIfInBounds_toArray, List.set_cons_zero, List.set_cons_succ]
  refine takeH (i := 15) (n := 61) (v := .bool true) rfl rfl (by kernel_rfl) (by kernel_rfl) (by kernel_rfl) (fun _ _ _ h => h) (Or.inl ⟨by kernel_rfl, ?_⟩) (by assumption) ?_
  · intro w hSw; (try dsimp only at hSw); go_simp
  try simp only [Act.put, List.setIfInBounds_toArray, List.set_cons_zero, List.set_cons_succ]
  refine takeH (i := 16) (n := 62) (v := .bool true) rfl rfl (by kernel_rfl) (by kernel_rfl) (by kernel_rfl) (fun _ _ _ h => h) (Or.inl ⟨by kernel_rfl, ?_⟩) (by assumption) ?_
  · intro w hSw; (try dsimp only at hSw); go_simp
  try simp only [Act.put, List.setIfInBounds_toArray, List.set_cons_zero, List.set_cons_succ]
  refine takeH (i := 17) (n := 63) (v := .bool true) rfl rfl (by kernel_rfl) (by kernel_rfl) (by kernel_rfl) (fun _ _ _ h => h) (Or.inl ⟨by kernel_rfl, ?_⟩) (by assumption) ?_
  · intro w hSw; (try dsimp only at hSw); go_simp
  try simp only [Act.put, List.setIfInBounds_toArray, List.set_cons_zero, List.set_cons_succ]
  refine takeH (i := 18) (n := 64) (v := .slice (some ⟨g, 0, none⟩) 2 cap) rfl rfl (by kernel_rfl) (by kernel_rfl) (by kernel_rfl) (fun _ _ _ h => h) (Or.inl ⟨by kernel_rfl, ?_⟩) (by assumption) ?_
  · intro w hSw; (try dsimp only at hSw); go_simp
  try simp only [Act.put, List.setIfInBounds_toArray, List.set_cons_zero, List.set_cons_succ]
  refine takeH (i := 19) (n := 65) (v := .pointer (some ⟨g, 2, none⟩)) rfl rfl (by kernel_rfl) (by kernel_rfl) (by kernel_rfl) (fun _ _ _ h => h) (Or.inl ⟨by kernel_rfl, ?_⟩) (by assumption) ?_
  · intro w hSw; (try dsimp only at hSw); go_simp
  try simp only [Act.put, List.setIfInBounds_toArray, List.set_cons_zero, List.set_cons_succ]
  refine takeH (i := 20) (n := 66) (v := .agg #[.string ⟨#[51]⟩, .string ⟨#[52]⟩]) rfl rfl (by kernel_rfl) (by kernel_rfl) (by kernel_rfl) (fun _ _ _ h => h) (Or.inl ⟨by kernel_rfl, ?_⟩) (by assumption) ?_
  · intro w hSw; (try dsimp only at hSw); go_simp
  try simp only [Act.put, List.setIfInBounds_toArray, List.set_cons_zero, List.set_cons_succ]
  refine wpAnyH_ready (rs := [21]) (by kernel_rfl) (by simp) ?_
  refine AllReadyH.cons rfl (fun K hK => ?_) AllReadyH.nil
  rw [if_pos (by kernel_rfl)]
  go_simp
  go_at_call 12
  refine (O34.out _ (HSS.out _ k4').2.2.2.2.2.2).mono ?_
  rintro e w16 ⟨rfl, hb⟩
  have k4'' := below_chain (W := W14) k4' hb
  refine hK.out _ _ (HSS.out _ k4'') (fun hHeld => ?_)
  clear hK K hb
  try simp only [Act.put, List.setIfInBounds_toArray, List.set_cons_zero, List.set_cons_succ]
  refine takeH (i := 22) (n := 68) (v := .bool true) rfl rfl (by kernel_rfl) (by kernel_rfl) (by kernel_rfl) (fun _ _ _ h => h) (Or.inl ⟨by kernel_rfl, ?_⟩) (by assumption) ?_
  · intro w hSw; (try dsimp only at hSw); go_simp
  try simp only [Act.put, List.setIfInBounds_toArray, List.set_cons_zero, List.set_cons_succ]
  refine takeH (i := 23) (n := 69) (v := .bool true) rfl rfl (by kernel_rfl) (by kernel_rfl) (by kernel_rfl) (fun _ _ _ h => h) (Or.inl ⟨by kernel_rfl, ?_⟩) (by assumption) ?_
  · intro w hSw; (try dsimp only at hSw); go_simp
  try simp only [Act.put, List.setIfInBounds_toArray, List.set_cons_zero, List.set_cons_succ]
  refine takeH (i := 24) (n := 70) (v := .bool true) rfl rfl (by kernel_rfl) (by kernel_rfl) (by kernel_rfl) (fun _ _ _ h => h) (Or.inl ⟨by kernel_rfl, ?_⟩) (by assumption) ?_
  · intro w hSw; (try dsimp only at hSw); go_simp
  try simp only [Act.put, List.setIfInBounds_toArray, List.set_cons_zero, List.set_cons_succ]
  refine takeH (i := 25) (n := 71) (v := .agg #[.string ⟨#[49]⟩, .string ⟨#[50]⟩]) rfl rfl (by kernel_rfl) (by kernel_rfl) (by kernel_rfl) (fun _ _ _ h => h) (Or.inl ⟨by kernel_rfl, ?_⟩) (by assumption) ?_
  · intro w hSw; (try dsimp only at hSw); go_simp
  try simp only [Act.put, List.setIfInBounds_toArray, List.set_cons_zero, List.set_cons_succ]
  refine wpAnyH_ready (rs := [26]) (by kernel_rfl) (by simp) ?_
  refine AllReadyH.cons rfl (fun K hK => ?_) AllReadyH.nil
  rw [if_pos (by kernel_rfl)]
  go_simp
  go_at_call 12
  refine (O12.out _ (HSS.out _ k4'').2.2.2.2.2.2).mono ?_
  rintro e w17 ⟨rfl, hb⟩
  have k4''' := below_chain (W := W14) k4'' hb
  refine hK.out _ _ (HSS.out _ k4''') (fun hHeld => ?_)
  clear hK K hb
  try simp only [Act.put, List.setIfInBounds_toArray, List.set_cons_zero, List.set_cons_succ]
  refine takeH (i := 27) (n := 73) (v := .bool true) rfl rfl (by kernel_rfl) (by kernel_rfl) (by kernel_rfl) (fun _ _ _ h => h) (Or.inl ⟨by kernel_rfl, ?_⟩) (by assumption) ?_
  · intro w hSw; (try dsimp only at hSw); go_simp
  try simp only [Act.put, List.setIfInBounds_toArray, List.set_cons_zero, List.set_cons_succ]
  refine takeH (i := 28) (n := 74) (v := .bool true) rfl rfl (by kernel_rfl) (by kernel_rfl) (by kernel_rfl) (fun _ _ _ h => h) (Or.inl ⟨by kernel_rfl, ?_⟩) (by assumption) ?_
  · intro w hSw; (try dsimp only at hSw); go_simp
  try simp only [Act.put, List.setIfInBounds_toArray, List.set_cons_zero, List.set_cons_succ]
  refine takeH (i := 29) (n := 75) (v := .bool true) rfl rfl (by kernel_rfl) (by kernel_rfl) (by kernel_rfl) (fun _ _ _ h => h) (Or.inl ⟨by kernel_rfl, ?_⟩) (by assumption) ?_
  · intro w hSw; (try dsimp only at hSw); go_simp
  try simp only [Act.put, List.setIfInBounds_toArray, List.set_cons_zero, List.set_cons_succ]
  refine takeH (i := 30) (n := 76) (v := .pointer (some ⟨w13.heap.size, 1, none⟩)) rfl rfl (by kernel_rfl) (by kernel_rfl) (by kernel_rfl) (fun _ _ _ h => h) (Or.inl ⟨by kernel_rfl, ?_⟩) (by assumption) ?_
  · intro w hSw; (try dsimp only at hSw); go_simp
  try simp only [Act.put, List.setIfInBounds_toArray, List.set_cons_zero, List.set_cons_succ]
  refine takeH (i := 31) (n := 77) (v := .string ⟨#[50]⟩) rfl rfl (by kernel_rfl) (by kernel_rfl) (by kernel_rfl) (fun _ _ _ h => h) (Or.inl ⟨by kernel_rfl, ?_⟩) (by assumption) ?_
  · intro w hSw; (try dsimp only at hSw); go_simp
  try simp only [Act.put, List.setIfInBounds_toArray, List.set_cons_zero, List.set_cons_succ]
  refine takeH (i := 32) (n := 78) (v := .bool true) rfl rfl (by kernel_rfl) (by kernel_rfl) (by kernel_rfl) (fun _ _ _ h => h) (Or.inl ⟨by kernel_rfl, ?_⟩) (by assumption) ?_
  · intro w hSw; (try dsimp only at hSw); go_simp
  try simp only [Act.put, List.setIfInBounds_toArray, List.set_cons_zero, List.set_cons_succ]
  refine takeH (i := 33) (n := 79) (v := .bool true) rfl rfl (by kernel_rfl) (by kernel_rfl) (by kernel_rfl) (fun _ _ _ h => h) (Or.inl ⟨by kernel_rfl, ?_⟩) (by assumption) ?_
  · intro w hSw; (try dsimp only at hSw); go_simp
  try simp only [Act.put, List.setIfInBounds_toArray, List.set_cons_zero, List.set_cons_succ]
  refine takeH (i := 34) (n := 0) (v := .bool true) rfl rfl (by kernel_rfl) (by kernel_rfl) (by kernel_rfl) (fun _ _ _ h => h) (Or.inl ⟨by kernel_rfl, ?_⟩) (by assumption) ?_
  · intro w hSw; (try dsimp only at hSw); go_simp
  try simp only [Act.put, List.setIfInBounds_toArray, List.set_cons_zero, List.set_cons_succ]
  refine wpAnyH_done (by kernel_rfl) ?_ _
  have HZ := Lib.hid (HSS.out _ k4''').2.2.2.2.2.2
  go_wp2_with fail
  exact bodyPost_ret (v := .bool true) (by simp [results, Tryz.results20, go_sem]) rfl ⟨rfl, HZ.out⟩
end Go.Proofs.YtkggfeemjabdeaaGreatDoor.Wc
end
section
namespace Go.Proofs.YtkggfeemjabdeaaGreatDoor.Wc
open Go Go.Proofs.YtkggfeemjabdeaaGreatDoor.Sx Go.RowKit

def shortP (most : Nat) (p : P2) : Bool := decide (p.1.size ≤ most) && decide (p.2.size ≤ most)
set_option maxRecDepth 100000 in
set_option maxHeartbeats 2000000 in
theorem short_any (most : Nat) (ps : List P2) (v : Value) (w : World) (h : PartL w v ps) (hn : ps.length ≤ 1000) (hm : most ≤ 1000000) : Calls Tryz.prog 21 #[.int .i64 most, v] w fun e w' => e = .returned (.bool (ps.all (shortP most))) ∧ Below w.heap.size w w' := by
  obtain ⟨a, cap, rfl⟩ := h.shape
  have H := Lib.hid h
  clear h
  generalize hN : ps.length = N at *
  go_enter Tryz.func21, Tryz.ntmps21
  go_wp2_with fail
  go_loopw [9] (fun iv wr => ∃ x : Nat, x ≤ N ∧ iv = .int .i64 x ∧ Hid (Below w.heap.size w wr) ∧ Hid (∀ p ∈ ps.take x, shortP most p = true)) (fun iv _ => N - (intOf iv).toNat)
  case atStart => exact ⟨0, Nat.zero_le _, rfl, Lib.hid (Below.refl _ _), Lib.hid (by simp)⟩
  case round =>
    obtain ⟨x, hx, rfl, HB, HO⟩ := hrel
    by_cases hlt : x < N
    · obtain ⟨p, hp⟩ : ∃ p, ps[x]? = some p := ⟨_, List.getElem?_eq_getElem (by omega)⟩
      obtain ⟨b, off, rfl, hbl, c0, c1⟩ : ∃ b off, a = some ⟨b, off, none⟩ ∧ b < w.heap.size ∧ wr.cell? ⟨b, off + x * 2, none⟩ = some (.string p.1) ∧ wr.cell? ⟨b, off + x * 2 + 1, none⟩ = some (.string p.2) := by
        rcases H.out with ⟨-, h0⟩ | ⟨b, off, cap', h1, h2, h3, h4, h5⟩
        · rw [h0] at hN; simp at hN; omega
        · have hx' : x < ps.length := by omega
          have e := (List.getElem?_eq_some_iff.1 hp).2
          injection h1 with h1 _ _
          refine ⟨b, off, h1, h4, ?_, ?_⟩
          · rw [← e]; exact cell_later HB.out (h5 x hx').1
          · rw [← e]; exact cell_later HB.out (h5 x hx').2
      have HP := Lib.hid hp
      clear hp hbl
      obtain ⟨d1, d2⟩ := p
      simp only at c0 c1
      by_cases h1 : d1.size ≤ most
      · have h1' : ¬ (most : Int) < d1.size := by omega
        by_cases h2 : d2.size ≤ most
        · have h2' : ¬ (most : Int) < d2.size := by omega
          have HS : Hid (shortP most (d1, d2) = true) := Lib.hid (by unfold shortP; rw [decide_eq_true h1, decide_eq_true h2]; rfl)
          go_wp2_with fail
          refine ⟨⟨x + 1, by omega, rfl, Lib.hid (HB.out.alloc HB.out.size _), Lib.hid fun r hr => ?_⟩, by simp [intOf]; omega⟩
          rw [List.take_add_one, HP.out] at hr
          rcases List.mem_append.1 hr with hr | hr
          · exact HO.out r hr
          · simp at hr; subst hr; exact HS.out
        · have h2' : (most : Int) < d2.size := by omega
          have HS : Hid (ps.all (shortP most) = false) := Lib.hid (Bool.eq_false_iff.2 fun e => by
            have := List.all_eq_true.1 e _ (List.mem_of_getElem? HP.out)
            unfold shortP at this
            rw [decide_eq_false h2, Bool.and_false] at this; cases this)
          go_wp2_with fail
          refine bodyPost_ret (v := .bool false) (by simp [results, Tryz.results21, go_sem]) rfl ⟨by rw [HS.out], HB.out.alloc HB.out.size _⟩
      · have h1' : (most : Int) < d1.size := by omega
        have HS : Hid (ps.all (shortP most) = false) := Lib.hid (Bool.eq_false_iff.2 fun e => by
          have := List.all_eq_true.1 e _ (List.mem_of_getElem? HP.out)
          unfold shortP at this
          rw [decide_eq_false h1, Bool.false_and] at this; cases this)
        go_wp2_with fail
        refine bodyPost_ret (v := .bool false) (by simp [results, Tryz.results21, go_sem]) rfl ⟨by rw [HS.out], HB.out.alloc HB.out.size _⟩
    · obtain rfl : x = N := by omega
      have HS : Hid (ps.all (shortP most) = true) := Lib.hid (List.all_eq_true.2 fun p hp => HO.out p (by rw [← hN, List.take_length]; exact hp))
      go_wp2_with fail
      exact bodyPost_ret (v := .bool true) (by simp [results, Tryz.results21, go_sem]) rfl ⟨by rw [HS.out], HB.out⟩
end Go.Proofs.YtkggfeemjabdeaaGreatDoor.Wc
end
section
namespace Go.Proofs.YtkggfeemjabdeaaGreatDoor.Wc
open Go Go.Proofs.YtkggfeemjabdeaaGreatDoor.Sx Go.RowKit

theorem short_ok {a : P2} (h : okP a = true) : Short a := by
  obtain ⟨h1, h2⟩ := okP_nt h
  have k1 := (isNt_parts h1).1; have k2 := (isNt_parts h2).1
  exact ⟨Nat.le_trans k1 (by decide), Nat.le_trans k2 (by decide)⟩
theorem useAdd {w : World} (HT : ∀ W, Below w.heap.size w W → Tens W) {a1 a2 b1 b2 r1 r2 : ByteArray} {z : Int} (h : addS (a1, a2) (b1, b2) = ((r1, r2), z)) (ha : okP (a1, a2) = true) (hb : okP (b1, b2) = true) : Hid (∀ W, Below w.heap.size w W → Calls Tryz.prog 23 #[.agg #[.string a1, .string a2], .agg #[.string b1, .string b2]] W fun e w' => e = .returned (.tuple #[.agg #[.string r1, .string r2], .int .i64 z]) ∧ Below W.heap.size W w') := Lib.hid fun W hW => by
  have k := Add_any (a1, a2) (b1, b2) W (short_ok ha) (short_ok hb) (HT W hW)
  rw [h] at k; exact k
theorem useSub {w : World} (HT : ∀ W, Below w.heap.size w W → Tens W) {a1 a2 b1 b2 r1 r2 : ByteArray} {z : Int} (h : subS (a1, a2) (b1, b2) = ((r1, r2), z)) (ha : okP (a1, a2) = true) (hb : okP (b1, b2) = true) : Hid (∀ W, Below w.heap.size w W → Calls Tryz.prog 14 #[.agg #[.string a1, .string a2], .agg #[.string b1, .string b2]] W fun e w' => e = .returned (.tuple #[.agg #[.string r1, .string r2], .int .i64 z]) ∧ Below W.heap.size W w') := Lib.hid fun W hW => by
  have k := Sub_any (a1, a2) (b1, b2) W (short_ok ha) (short_ok hb) (HT W hW)
  rw [h] at k; exact k
theorem useMul {w : World} (HT : ∀ W, Below w.heap.size w W → Tens W) {a1 a2 b1 b2 r1 r2 : ByteArray} {z : Int} (h : mulS (a1, a2) (b1, b2) = ((r1, r2), z)) (ha : okP (a1, a2) = true) (hb : okP (b1, b2) = true) : Hid (∀ W, Below w.heap.size w W → Calls Tryz.prog 24 #[.agg #[.string a1, .string a2], .agg #[.string b1, .string b2]] W fun e w' => e = .returned (.tuple #[.agg #[.string r1, .string r2], .int .i64 z]) ∧ Below W.heap.size W w') := Lib.hid fun W hW => by
  have k := Mul_any (a1, a2) (b1, b2) W (short_ok ha) (short_ok hb) (HT W hW)
  rw [h] at k; exact k
theorem useDiv {w : World} (HT : ∀ W, Below w.heap.size w W → Tens W) {a1 a2 b1 b2 r1 r2 : ByteArray} {z : Int} (h : divS (a1, a2) (b1, b2) = ((r1, r2), z)) (ha : okP (a1, a2) = true) (hb : okP (b1, b2) = true) : Hid (∀ W, Below w.heap.size w W → Calls Tryz.prog 25 #[.agg #[.string a1, .string a2], .agg #[.string b1, .string b2]] W fun e w' => e = .returned (.tuple #[.agg #[.string r1, .string r2], .int .i64 z]) ∧ Below W.heap.size W w') := Lib.hid fun W hW => by
  have k := Div_any (a1, a2) (b1, b2) W (short_ok ha) (short_ok hb) (HT W hW)
  rw [h] at k; exact k
theorem useChk {w : World} (HT : ∀ W, Below w.heap.size w W → Tens W) {a1 a2 : ByteArray} (ha : okP (a1, a2) = true) : Hid (∀ W, Below w.heap.size w W → Calls Tryz.prog 22 #[.agg #[.string a1, .string a2]] W fun e w' => e = .returned (.int .i64 0) ∧ Below W.heap.size W w') := Lib.hid fun W hW => by
  have k := Check_any (a1, a2) W (short_ok ha) (HT W hW)
  have e : chkS (a1, a2) = 0 := by unfold chkS; rw [ha]; rfl
  rw [e] at k; exact k
/-- The cells of a part at a block. -/
def partO (a1 a2 : ByteArray) : Obj := .cells #[.string a1, .string a2] 24 (0, 0)
theorem part_at {w : World} {n : Nat} {a1 a2 : ByteArray} (h : w.heap[n]? = some (partO a1 a2)) : w.cell? ⟨n, 0, none⟩ = some (.string a1) ∧ w.cell? ⟨n, 1, none⟩ = some (.string a2) ∧ n < w.heap.size := by
  refine ⟨?_, ?_, (Array.getElem?_eq_some_iff.1 h).1⟩ <;> simp [World.cell?, h, partO]
theorem part_on {w w' : World} {n : Nat} {a1 a2 : ByteArray} (h : w.heap[n]? = some (partO a1 a2)) (hb : Below w.heap.size w w') : w'.heap[n]? = some (partO a1 a2) := (hb.block _ (Array.getElem?_eq_some_iff.1 h).1).trans h

set_option maxRecDepth 100000 in
set_option maxHeartbeats 8000000 in
theorem field_ok (a1 a2 b1 b2 c1 c2 : ByteArray) (ha : okP (a1, a2) = true) (hb : okP (b1, b2) = true) (hc : okP (c1, c2) = true) (sa : shortP 60 (a1, a2) = true) (sb : shortP 60 (b1, b2) = true) (sc : shortP 60 (c1, c2) = true) (w : World) (ht : Tens w) (h0 : 0 < w.heap.size) :
    Calls Tryz.prog 4 #[.agg #[.string a1, .string a2], .agg #[.string b1, .string b2], .agg #[.string c1, .string c2]] w fun e w' => e = .returned (.bool true) ∧ Below w.heap.size w w' := by
  have HT : ∀ W, Below w.heap.size w W → Tens W := fun W hW j hj => cell_later hW (ht j hj)
  have HAL : Hid (∀ W, Below w.heap.size w W → Calls Tryz.prog 20 #[] W fun e w' => e = .returned (.bool true) ∧ Below W.heap.size W w') := Lib.hid fun W hW => alive_any W (HT W hW) (by have := hW.size; omega)
  have sha : a1.size ≤ 60 ∧ a2.size ≤ 60 := by unfold shortP at sa; simpa using sa
  have shb : b1.size ≤ 60 ∧ b2.size ≤ 60 := by unfold shortP at sb; simpa using sb
  have shc : c1.size ≤ 60 ∧ c2.size ≤ 60 := by unfold shortP at sc; simpa using sc
  have mA := sm_of (k := 60) ha sha.1 sha.2
  have mB := sm_of (k := 60) hb shb.1 shb.2
  have mC := sm_of (k := 60) hc shc.1 shc.2
  have eA := pt_pv ha; have eB := pt_pv hb; have eC := pt_pv hc
  generalize hgA : pv (a1, a2) = A at *
  generalize hgB : pv (b1, b2) = B at *
  generalize hgC : pv (c1, c2) = C at *
  have mAB := mA.add mB (m := 121) rfl
  have mX := mA.mul mB (m := 120) rfl
  have mBC := mB.add mC (m := 121) rfl
  have mAC := mA.mul mC (m := 120) rfl
  have mS := mAB.add mC (m := 182) rfl
  have mF := mA.mul mBC (m := 181) rfl
  have q1 := add_pt mA mB (by decide); have q2 := add_pt mB mA (by decide); have q3 := mul_pt mA mB (by decide); have q4 := mul_pt mB mA (by decide)
  have q5 := add_pt mAB mC (by decide); have q6 := add_pt mB mC (by decide); have q7 := add_pt mA mBC (by decide); have q8 := back_pt mA mB (by decide)
  have q9 := mul_pt mA mBC (by decide); have q10 := mul_pt mA mC (by decide); have q11 := add_pt mX mAC (by decide)
  rw [addF_comm B A] at q2
  rw [mulF_comm B A] at q4
  rw [← addF_assoc mA.fr mB.fr mC.fr] at q7
  rw [← mulF_addF mA.fr mB.fr mC.fr] at q11
  have o1 := pt_ok mAB (by decide); have o2 := pt_ok mX (by decide); have o3 := pt_ok mBC (by decide); have o4 := pt_ok mAC (by decide)
  have hdiv : ∃ z, divS (ptOf (mulF A B)) (ptOf B) = (if b1 = zeroB then (emptyP, 10) else (ptOf A, 0)) ∧ z = 0 := by
    refine ⟨0, ?_, rfl⟩
    have hz := num_zero hb
    rw [hgB] at hz
    by_cases h : b1 = zeroB
    · rw [if_pos h]; exact zero_pt mA mB (by decide) (by rw [hz]; exact h)
    · rw [if_neg h]; exact over_pt mA mB (by decide) (Nat.pos_of_ne_zero (by rw [Ne, hz]; exact h))
  obtain ⟨-, q12, -⟩ := hdiv
  rw [eA, eB] at q1 q3; rw [eB, eA] at q2 q4; rw [eC] at q5; rw [eB, eC] at q6; rw [eA] at q7 q9; rw [eB, eA] at q8; rw [eA, eC] at q10; rw [eB, eA] at q12
  obtain ⟨⟨p1, p2⟩, hp⟩ : ∃ r, ptOf (addF A B) = r := ⟨_, rfl⟩
  obtain ⟨⟨x1, x2⟩, hx⟩ : ∃ r, ptOf (mulF A B) = r := ⟨_, rfl⟩
  obtain ⟨⟨s1, s2⟩, hs⟩ : ∃ r, ptOf (addF (addF A B) C) = r := ⟨_, rfl⟩
  obtain ⟨⟨r1, r2⟩, hr⟩ : ∃ r, ptOf (addF B C) = r := ⟨_, rfl⟩
  obtain ⟨⟨f1, f2⟩, hf⟩ : ∃ r, ptOf (mulF A (addF B C)) = r := ⟨_, rfl⟩
  obtain ⟨⟨g1, g2⟩, hg⟩ : ∃ r, ptOf (mulF A C) = r := ⟨_, rfl⟩
  rw [hp] at q1 q2 q5 q8 o1; rw [hx] at q3 q4 q11 q12 o2; rw [hs] at q5 q7; rw [hr] at q6 q7 q9 o3; rw [hf] at q9 q11; rw [hg] at q10 q11 o4
  have Q1 := useAdd HT q1 ha hb; have Q2 := useAdd HT q2 hb ha; have Q3 := useMul HT q3 ha hb; have Q4 := useMul HT q4 hb ha
  have Q5 := useAdd HT q5 o1 hc; have Q6 := useAdd HT q6 hb hc; have Q7 := useAdd HT q7 ha o3; have Q8 := useSub HT q8 o1 hb
  have Q9 := useMul HT q9 ha o3; have Q10 := useMul HT q10 ha hc; have Q11 := useAdd HT q11 o2 o4
  have U1 := useChk HT ha; have U2 := useChk HT hb; have U3 := useChk HT hc
  obtain ⟨d, hd⟩ : ∃ d : P2 × Int, (if b1 = zeroB then (emptyP, 10) else ((a1, a2), 0)) = d := ⟨_, rfl⟩
  rw [hd] at q12
  obtain ⟨⟨d1, d2⟩, dz⟩ := d
  have Q12 := useDiv HT q12 o2 hb
  have HD := Lib.hid hd; have HSH := Lib.hid (And.intro sa (And.intro sb sc)); have HTT := Lib.hid HT
  clear q1 q2 q3 q4 q5 q6 q7 q8 q9 q10 q11 q12 o1 o2 o3 o4 mAB mX mBC mAC mS mF mA mB mC eA eB eC hp hx hs hr hf hg hd sha shb shc sa sb sc HT ht ha hb hc hgA hgB hgC
  obtain ⟨V1, hV1⟩ : ∃ W, W = w.alloc (.cells #[.string a1, .string a2] 24) := ⟨_, rfl⟩
  obtain ⟨V2, hV2⟩ : ∃ W, W = V1.alloc (.cells #[.string b1, .string b2] 24) := ⟨_, rfl⟩
  obtain ⟨V3, hV3⟩ : ∃ W, W = V2.alloc (.cells #[.string c1, .string c2] 24) := ⟨_, rfl⟩
  have v01 : Below w.heap.size w V1 := by rw [hV1]; exact (Below.refl _ _).alloc (Nat.le_refl _) _
  have v12 : Below V1.heap.size V1 V2 := by rw [hV2]; exact (Below.refl _ _).alloc (Nat.le_refl _) _
  have v23 : Below V2.heap.size V2 V3 := by rw [hV3]; exact (Below.refl _ _).alloc (Nat.le_refl _) _
  have z1 : V1.heap.size = w.heap.size + 1 := by rw [hV1, World.size_alloc]
  have z2 : V2.heap.size = w.heap.size + 1 + 1 := by rw [hV2, World.size_alloc, z1]
  have ka : V3.heap[w.heap.size]? = some (partO a1 a2) := part_on (part_on (by rw [hV1]; exact Go.Deep.blk_alloc_new _ _) v12) v23
  have kb : V3.heap[w.heap.size + 1]? = some (partO b1 b2) := part_on (by rw [← z1, hV2]; exact Go.Deep.blk_alloc_new _ _) v23
  have kc : V3.heap[w.heap.size + 1 + 1]? = some (partO c1 c2) := by rw [← z2, hV3]; exact Go.Deep.blk_alloc_new _ _
  have HB := Lib.hid (v01.trans ((below_chain v12 v23).mono v01.size))
  have HV1 := Lib.hid hV1; have HV2 := Lib.hid hV2; have HV3 := Lib.hid hV3; have Ka := Lib.hid ka; have Kb := Lib.hid kb; have Kc := Lib.hid kc
  clear hV1 hV2 hV3 v01 v12 v23 z1 z2 ka kb kc
  go_enter Tryz.func4, Tryz.ntmps4
  go_wp2_with fail
  rw [← HV1.out, ← HV2.out, ← HV3.out]

  refine (HAL.out V3 HB.out).mono ?_
  rintro e w1 ⟨rfl, hb1⟩
  have Hw1 := Lib.hid (HB.out.trans (hb1.mono HB.out.size))
  have ka := part_on Ka.out hb1
  have kb := part_on Kb.out hb1
  have kc := part_on Kc.out hb1
  clear Ka Kb Kc hb1
  obtain ⟨ya0, ya1, ya2⟩ := part_at ka
  obtain ⟨yb0, yb1, yb2⟩ := part_at kb
  obtain ⟨yc0, yc1, yc2⟩ := part_at kc
  obtain ⟨W1, hW1⟩ : ∃ W, W = w1.alloc (.cells #[.string a1, .string a2, .string b1, .string b2, .string c1, .string c2] 24) := ⟨_, rfl⟩
  have bb : Below w1.heap.size w1 W1 := by rw [hW1]; exact (Below.refl _ _).alloc (Nat.le_refl _) _
  have Ka := Lib.hid (part_on ka bb)
  have Kb := Lib.hid (part_on kb bb)
  have Kc := Lib.hid (part_on kc bb)
  have HW1 := Lib.hid (Hw1.out.trans (bb.mono Hw1.out.size))
  have kk : W1.heap[w1.heap.size]? = some (.cells #[.string a1, .string a2, .string b1, .string b2, .string c1, .string c2] 24 (0, 0)) := by rw [hW1]; exact Go.Deep.blk_alloc_new _ _
  have KK := Lib.hid kk
  clear kk
  have HEW1 := Lib.hid hW1
  clear bb hW1 ka kb kc
  go_wp2_with fail
  rw [← HEW1.out]
  clear ya0 ya1 ya2 yb0 yb1 yb2 yc0 yc1 yc2
  have hsh := short_any 60 [(a1, a2), (b1, b2), (c1, c2)] (.slice (some ⟨w1.heap.size, 0, none⟩) 3 3) W1 (.inr ⟨w1.heap.size, 0, 3, rfl, by simp, by decide, (Array.getElem?_eq_some_iff.1 KK.out).1, fun i hi => by
    match i, hi with
    | 0, _ => exact ⟨by rw [set_cells KK.out]; rfl, by rw [set_cells KK.out]; rfl⟩
    | 1, _ => exact ⟨by rw [set_cells KK.out]; rfl, by rw [set_cells KK.out]; rfl⟩
    | 2, _ => exact ⟨by rw [set_cells KK.out]; rfl, by rw [set_cells KK.out]; rfl⟩⟩) (by simp) (by decide)
  have hall : [(a1, a2), (b1, b2), (c1, c2)].all (shortP 60) = true := by
    simp only [List.all_cons, List.all_nil, HSH.out.1, HSH.out.2.1, HSH.out.2.2, Bool.and_self]
  rw [hall] at hsh
  have HSHORT := Lib.hid hsh
  clear hsh hall KK
  refine (HSHORT.out).mono ?_
  rintro e w2 ⟨rfl, hb2⟩
  have Hw2 := Lib.hid (HW1.out.trans (hb2.mono HW1.out.size))
  have ka := part_on Ka.out hb2
  have kb := part_on Kb.out hb2
  have kc := part_on Kc.out hb2
  clear Ka Kb Kc hb2
  obtain ⟨ya0, ya1, ya2⟩ := part_at ka
  obtain ⟨yb0, yb1, yb2⟩ := part_at kb
  obtain ⟨yc0, yc1, yc2⟩ := part_at kc
  have Ka := Lib.hid ka
  have Kb := Lib.hid kb
  have Kc := Lib.hid kc
  clear ka kb kc
  go_wp2_with fail
  clear ya0 ya1 ya2 yb0 yb1 yb2 yc0 yc1 yc2
  refine (U1.out w2 Hw2.out).mono ?_
  rintro e w3 ⟨rfl, hb3⟩
  have Hw3 := Lib.hid (Hw2.out.trans (hb3.mono Hw2.out.size))
  have ka := part_on Ka.out hb3
  have kb := part_on Kb.out hb3
  have kc := part_on Kc.out hb3
  clear Ka Kb Kc hb3
  obtain ⟨ya0, ya1, ya2⟩ := part_at ka
  obtain ⟨yb0, yb1, yb2⟩ := part_at kb
  obtain ⟨yc0, yc1, yc2⟩ := part_at kc
  have Ka := Lib.hid ka
  have Kb := Lib.hid kb
  have Kc := Lib.hid kc
  clear ka kb kc
  go_wp2_with fail
  clear ya0 ya1 ya2 yb0 yb1 yb2 yc0 yc1 yc2
  refine (U2.out w3 Hw3.out).mono ?_
  rintro e w4 ⟨rfl, hb4⟩
  have Hw4 := Lib.hid (Hw3.out.trans (hb4.mono Hw3.out.size))
  have ka := part_on Ka.out hb4
  have kb := part_on Kb.out hb4
  have kc := part_on Kc.out hb4
  clear Ka Kb Kc hb4
  obtain ⟨ya0, ya1, ya2⟩ := part_at ka
  obtain ⟨yb0, yb1, yb2⟩ := part_at kb
  obtain ⟨yc0, yc1, yc2⟩ := part_at kc
  have Ka := Lib.hid ka
  have Kb := Lib.hid kb
  have Kc := Lib.hid kc
  clear ka kb kc
  go_wp2_with fail
  clear ya0 ya1 ya2 yb0 yb1 yb2 yc0 yc1 yc2
  refine (U3.out w4 Hw4.out).mono ?_
  rintro e w5 ⟨rfl, hb5⟩
  have Hw5 := Lib.hid (Hw4.out.trans (hb5.mono Hw4.out.size))
  have ka := part_on Ka.out hb5
  have kb := part_on Kb.out hb5
  have kc := part_on Kc.out hb5
  clear Ka Kb Kc hb5
  obtain ⟨ya0, ya1, ya2⟩ := part_at ka
  obtain ⟨yb0, yb1, yb2⟩ := part_at kb
  obtain ⟨yc0, yc1, yc2⟩ := part_at kc
  have Ka := Lib.hid ka
  have Kb := Lib.hid kb
  have Kc := Lib.hid kc
  clear ka kb kc
  go_wp2_with fail
  clear ya0 ya1 ya2 yb0 yb1 yb2 yc0 yc1 yc2
  refine (Q1.out w5 Hw5.out).mono ?_
  rintro e w6 ⟨rfl, hb6⟩
  have Hw6 := Lib.hid (Hw5.out.trans (hb6.mono Hw5.out.size))
  have ka := part_on Ka.out hb6
  have kb := part_on Kb.out hb6
  have kc := part_on Kc.out hb6
  clear Ka Kb Kc hb6
  obtain ⟨ya0, ya1, ya2⟩ := part_at ka
  obtain ⟨yb0, yb1, yb2⟩ := part_at kb
  obtain ⟨yc0, yc1, yc2⟩ := part_at kc
  obtain ⟨W6, hW6⟩ : ∃ W, W = w6.alloc (.cells #[.string p1, .string p2] 24) := ⟨_, rfl⟩
  have bb : Below w6.heap.size w6 W6 := by rw [hW6]; exact (Below.refl _ _).alloc (Nat.le_refl _) _
  have Ka := Lib.hid (part_on ka bb)
  have Kb := Lib.hid (part_on kb bb)
  have Kc := Lib.hid (part_on kc bb)
  have HW6 := Lib.hid (Hw6.out.trans (bb.mono Hw6.out.size))
  have Kp : Hid (W6.heap[w6.heap.size]? = some (partO p1 p2)) := Lib.hid (by rw [hW6]; exact Go.Deep.blk_alloc_new _ _)
  have HEW6 := Lib.hid hW6
  clear bb hW6 ka kb kc
  go_wp2_with fail
  rw [← HEW6.out]
  clear ya0 ya1 ya2 yb0 yb1 yb2 yc0 yc1 yc2
  refine (Q2.out W6 HW6.out).mono ?_
  rintro e w7 ⟨rfl, hb7⟩
  have Hw7 := Lib.hid (HW6.out.trans (hb7.mono HW6.out.size))
  have ka := part_on Ka.out hb7
  have kb := part_on Kb.out hb7
  have kc := part_on Kc.out hb7
  have kp := part_on Kp.out hb7
  clear Ka Kb Kc Kp hb7
  obtain ⟨ya0, ya1, ya2⟩ := part_at ka
  obtain ⟨yb0, yb1, yb2⟩ := part_at kb
  obtain ⟨yc0, yc1, yc2⟩ := part_at kc
  obtain ⟨yp0, yp1, yp2⟩ := part_at kp
  obtain ⟨W7, hW7⟩ : ∃ W, W = w7.alloc (.cells #[.string p1, .string p2] 24) := ⟨_, rfl⟩
  have bb : Below w7.heap.size w7 W7 := by rw [hW7]; exact (Below.refl _ _).alloc (Nat.le_refl _) _
  have Ka := Lib.hid (part_on ka bb)
  have Kb := Lib.hid (part_on kb bb)
  have Kc := Lib.hid (part_on kc bb)
  have Kp := Lib.hid (part_on kp bb)
  have HW7 := Lib.hid (Hw7.out.trans (bb.mono Hw7.out.size))
  have Kq : Hid (W7.heap[w7.heap.size]? = some (partO p1 p2)) := Lib.hid (by rw [hW7]; exact Go.Deep.blk_alloc_new _ _)
  have HEW7 := Lib.hid hW7
  clear bb hW7 ka kb kc kp
  go_wp2_with fail
  rw [← HEW7.out]
  clear ya0 ya1 ya2 yb0 yb1 yb2 yc0 yc1 yc2 yp0 yp1 yp2
  refine (Q3.out W7 HW7.out).mono ?_
  rintro e w8 ⟨rfl, hb8⟩
  have Hw8 := Lib.hid (HW7.out.trans (hb8.mono HW7.out.size))
  have ka := part_on Ka.out hb8
  have kb := part_on Kb.out hb8
  have kc := part_on Kc.out hb8
  have kp := part_on Kp.out hb8
  have kq := part_on Kq.out hb8
  clear Ka Kb Kc Kp Kq hb8
  obtain ⟨ya0, ya1, ya2⟩ := part_at ka
  obtain ⟨yb0, yb1, yb2⟩ := part_at kb
  obtain ⟨yc0, yc1, yc2⟩ := part_at kc
  obtain ⟨yp0, yp1, yp2⟩ := part_at kp
  obtain ⟨yq0, yq1, yq2⟩ := part_at kq
  obtain ⟨W8, hW8⟩ : ∃ W, W = w8.alloc (.cells #[.string x1, .string x2] 24) := ⟨_, rfl⟩
  have bb : Below w8.heap.size w8 W8 := by rw [hW8]; exact (Below.refl _ _).alloc (Nat.le_refl _) _
  have Ka := Lib.hid (part_on ka bb)
  have Kb := Lib.hid (part_on kb bb)
  have Kc := Lib.hid (part_on kc bb)
  have Kp := Lib.hid (part_on kp bb)
  have Kq := Lib.hid (part_on kq bb)
  have HW8 := Lib.hid (Hw8.out.trans (bb.mono Hw8.out.size))
  have Kx : Hid (W8.heap[w8.heap.size]? = some (partO x1 x2)) := Lib.hid (by rw [hW8]; exact Go.Deep.blk_alloc_new _ _)
  have HEW8 := Lib.hid hW8
  clear bb hW8 ka kb kc kp kq
  go_wp2_with fail
  rw [← HEW8.out]
  clear ya0 ya1 ya2 yb0 yb1 yb2 yc0 yc1 yc2 yp0 yp1 yp2 yq0 yq1 yq2
  refine (Q4.out W8 HW8.out).mono ?_
  rintro e w9 ⟨rfl, hb9⟩
  have Hw9 := Lib.hid (HW8.out.trans (hb9.mono HW8.out.size))
  have ka := part_on Ka.out hb9
  have kb := part_on Kb.out hb9
  have kc := part_on Kc.out hb9
  have kp := part_on Kp.out hb9
  have kq := part_on Kq.out hb9
  have kx := part_on Kx.out hb9
  clear Ka Kb Kc Kp Kq Kx hb9
  obtain ⟨ya0, ya1, ya2⟩ := part_at ka
  obtain ⟨yb0, yb1, yb2⟩ := part_at kb
  obtain ⟨yc0, yc1, yc2⟩ := part_at kc
  obtain ⟨yp0, yp1, yp2⟩ := part_at kp
  obtain ⟨yq0, yq1, yq2⟩ := part_at kq
  obtain ⟨yx0, yx1, yx2⟩ := part_at kx
  obtain ⟨W9, hW9⟩ : ∃ W, W = w9.alloc (.cells #[.string x1, .string x2] 24) := ⟨_, rfl⟩
  have bb : Below w9.heap.size w9 W9 := by rw [hW9]; exact (Below.refl _ _).alloc (Nat.le_refl _) _
  have Ka := Lib.hid (part_on ka bb)
  have Kb := Lib.hid (part_on kb bb)
  have Kc := Lib.hid (part_on kc bb)
  have Kp := Lib.hid (part_on kp bb)
  have Kq := Lib.hid (part_on kq bb)
  have Kx := Lib.hid (part_on kx bb)
  have HW9 := Lib.hid (Hw9.out.trans (bb.mono Hw9.out.size))
  have Ky : Hid (W9.heap[w9.heap.size]? = some (partO x1 x2)) := Lib.hid (by rw [hW9]; exact Go.Deep.blk_alloc_new _ _)
  have HEW9 := Lib.hid hW9
  clear bb hW9 ka kb kc kp kq kx
  go_wp2_with fail
  rw [← HEW9.out]
  clear ya0 ya1 ya2 yb0 yb1 yb2 yc0 yc1 yc2 yp0 yp1 yp2 yq0 yq1 yq2 yx0 yx1 yx2
  refine (Q5.out W9 HW9.out).mono ?_
  rintro e w10 ⟨rfl, hb10⟩
  have Hw10 := Lib.hid (HW9.out.trans (hb10.mono HW9.out.size))
  have ka := part_on Ka.out hb10
  have kb := part_on Kb.out hb10
  have kc := part_on Kc.out hb10
  have kp := part_on Kp.out hb10
  have kq := part_on Kq.out hb10
  have kx := part_on Kx.out hb10
  have ky := part_on Ky.out hb10
  clear Ka Kb Kc Kp Kq Kx Ky hb10
  obtain ⟨ya0, ya1, ya2⟩ := part_at ka
  obtain ⟨yb0, yb1, yb2⟩ := part_at kb
  obtain ⟨yc0, yc1, yc2⟩ := part_at kc
  obtain ⟨yp0, yp1, yp2⟩ := part_at kp
  obtain ⟨yq0, yq1, yq2⟩ := part_at kq
  obtain ⟨yx0, yx1, yx2⟩ := part_at kx
  obtain ⟨yy0, yy1, yy2⟩ := part_at ky
  obtain ⟨W10, hW10⟩ : ∃ W, W = w10.alloc (.cells #[.string s1, .string s2] 24) := ⟨_, rfl⟩
  have bb : Below w10.heap.size w10 W10 := by rw [hW10]; exact (Below.refl _ _).alloc (Nat.le_refl _) _
  have Ka := Lib.hid (part_on ka bb)
  have Kb := Lib.hid (part_on kb bb)
  have Kc := Lib.hid (part_on kc bb)
  have Kp := Lib.hid (part_on kp bb)
  have Kq := Lib.hid (part_on kq bb)
  have Kx := Lib.hid (part_on kx bb)
  have Ky := Lib.hid (part_on ky bb)
  have HW10 := Lib.hid (Hw10.out.trans (bb.mono Hw10.out.size))
  have Ks : Hid (W10.heap[w10.heap.size]? = some (partO s1 s2)) := Lib.hid (by rw [hW10]; exact Go.Deep.blk_alloc_new _ _)
  have HEW10 := Lib.hid hW10
  clear bb hW10 ka kb kc kp kq kx ky
  go_wp2_with fail
  rw [← HEW10.out]
  clear ya0 ya1 ya2 yb0 yb1 yb2 yc0 yc1 yc2 yp0 yp1 yp2 yq0 yq1 yq2 yx0 yx1 yx2 yy0 yy1 yy2
  refine (Q6.out W10 HW10.out).mono ?_
  rintro e w11 ⟨rfl, hb11⟩
  have Hw11 := Lib.hid (HW10.out.trans (hb11.mono HW10.out.size))
  have ka := part_on Ka.out hb11
  have kb := part_on Kb.out hb11
  have kc := part_on Kc.out hb11
  have kp := part_on Kp.out hb11
  have kq := part_on Kq.out hb11
  have kx := part_on Kx.out hb11
  have ky := part_on Ky.out hb11
  have ks := part_on Ks.out hb11
  clear Ka Kb Kc Kp Kq Kx Ky Ks hb11
  obtain ⟨ya0, ya1, ya2⟩ := part_at ka
  obtain ⟨yb0, yb1, yb2⟩ := part_at kb
  obtain ⟨yc0, yc1, yc2⟩ := part_at kc
  obtain ⟨yp0, yp1, yp2⟩ := part_at kp
  obtain ⟨yq0, yq1, yq2⟩ := part_at kq
  obtain ⟨yx0, yx1, yx2⟩ := part_at kx
  obtain ⟨yy0, yy1, yy2⟩ := part_at ky
  obtain ⟨ys0, ys1, ys2⟩ := part_at ks
  obtain ⟨W11, hW11⟩ : ∃ W, W = w11.alloc (.cells #[.string r1, .string r2] 24) := ⟨_, rfl⟩
  have bb : Below w11.heap.size w11 W11 := by rw [hW11]; exact (Below.refl _ _).alloc (Nat.le_refl _) _
  have Ka := Lib.hid (part_on ka bb)
  have Kb := Lib.hid (part_on kb bb)
  have Kc := Lib.hid (part_on kc bb)
  have Kp := Lib.hid (part_on kp bb)
  have Kq := Lib.hid (part_on kq bb)
  have Kx := Lib.hid (part_on kx bb)
  have Ky := Lib.hid (part_on ky bb)
  have Ks := Lib.hid (part_on ks bb)
  have HW11 := Lib.hid (Hw11.out.trans (bb.mono Hw11.out.size))
  have Kr : Hid (W11.heap[w11.heap.size]? = some (partO r1 r2)) := Lib.hid (by rw [hW11]; exact Go.Deep.blk_alloc_new _ _)
  have HEW11 := Lib.hid hW11
  clear bb hW11 ka kb kc kp kq kx ky ks
  go_wp2_with fail
  rw [← HEW11.out]
  clear ya0 ya1 ya2 yb0 yb1 yb2 yc0 yc1 yc2 yp0 yp1 yp2 yq0 yq1 yq2 yx0 yx1 yx2 yy0 yy1 yy2 ys0 ys1 ys2
  refine (Q7.out W11 HW11.out).mono ?_
  rintro e w12 ⟨rfl, hb12⟩
  have Hw12 := Lib.hid (HW11.out.trans (hb12.mono HW11.out.size))
  have ka := part_on Ka.out hb12
  have kb := part_on Kb.out hb12
  have kc := part_on Kc.out hb12
  have kp := part_on Kp.out hb12
  have kq := part_on Kq.out hb12
  have kx := part_on Kx.out hb12
  have ky := part_on Ky.out hb12
  have ks := part_on Ks.out hb12
  have kr := part_on Kr.out hb12
  clear Ka Kb Kc Kp Kq Kx Ky Ks Kr hb12
  obtain ⟨ya0, ya1, ya2⟩ := part_at ka
  obtain ⟨yb0, yb1, yb2⟩ := part_at kb
  obtain ⟨yc0, yc1, yc2⟩ := part_at kc
  obtain ⟨yp0, yp1, yp2⟩ := part_at kp
  obtain ⟨yq0, yq1, yq2⟩ := part_at kq
  obtain ⟨yx0, yx1, yx2⟩ := part_at kx
  obtain ⟨yy0, yy1, yy2⟩ := part_at ky
  obtain ⟨ys0, ys1, ys2⟩ := part_at ks
  obtain ⟨yr0, yr1, yr2⟩ := part_at kr
  obtain ⟨W12, hW12⟩ : ∃ W, W = w12.alloc (.cells #[.string s1, .string s2] 24) := ⟨_, rfl⟩
  have bb : Below w12.heap.size w12 W12 := by rw [hW12]; exact (Below.refl _ _).alloc (Nat.le_refl _) _
  have Ka := Lib.hid (part_on ka bb)
  have Kb := Lib.hid (part_on kb bb)
  have Kc := Lib.hid (part_on kc bb)
  have Kp := Lib.hid (part_on kp bb)
  have Kq := Lib.hid (part_on kq bb)
  have Kx := Lib.hid (part_on kx bb)
  have Ky := Lib.hid (part_on ky bb)
  have Ks := Lib.hid (part_on ks bb)
  have Kr := Lib.hid (part_on kr bb)
  have HW12 := Lib.hid (Hw12.out.trans (bb.mono Hw12.out.size))
  have Kt : Hid (W12.heap[w12.heap.size]? = some (partO s1 s2)) := Lib.hid (by rw [hW12]; exact Go.Deep.blk_alloc_new _ _)
  have HEW12 := Lib.hid hW12
  clear bb hW12 ka kb kc kp kq kx ky ks kr
  go_wp2_with fail
  rw [← HEW12.out]
  clear ya0 ya1 ya2 yb0 yb1 yb2 yc0 yc1 yc2 yp0 yp1 yp2 yq0 yq1 yq2 yx0 yx1 yx2 yy0 yy1 yy2 ys0 ys1 ys2 yr0 yr1 yr2
  refine (Q8.out W12 HW12.out).mono ?_
  rintro e w13 ⟨rfl, hb13⟩
  have Hw13 := Lib.hid (HW12.out.trans (hb13.mono HW12.out.size))
  have ka := part_on Ka.out hb13
  have kb := part_on Kb.out hb13
  have kc := part_on Kc.out hb13
  have kp := part_on Kp.out hb13
  have kq := part_on Kq.out hb13
  have kx := part_on Kx.out hb13
  have ky := part_on Ky.out hb13
  have ks := part_on Ks.out hb13
  have kr := part_on Kr.out hb13
  have kt := part_on Kt.out hb13
  clear Ka Kb Kc Kp Kq Kx Ky Ks Kr Kt hb13
  obtain ⟨ya0, ya1, ya2⟩ := part_at ka
  obtain ⟨yb0, yb1, yb2⟩ := part_at kb
  obtain ⟨yc0, yc1, yc2⟩ := part_at kc
  obtain ⟨yp0, yp1, yp2⟩ := part_at kp
  obtain ⟨yq0, yq1, yq2⟩ := part_at kq
  obtain ⟨yx0, yx1, yx2⟩ := part_at kx
  obtain ⟨yy0, yy1, yy2⟩ := part_at ky
  obtain ⟨ys0, ys1, ys2⟩ := part_at ks
  obtain ⟨yr0, yr1, yr2⟩ := part_at kr
  obtain ⟨yt0, yt1, yt2⟩ := part_at kt
  obtain ⟨W13, hW13⟩ : ∃ W, W = w13.alloc (.cells #[.string a1, .string a2] 24) := ⟨_, rfl⟩
  have bb : Below w13.heap.size w13 W13 := by rw [hW13]; exact (Below.refl _ _).alloc (Nat.le_refl _) _
  have Ka := Lib.hid (part_on ka bb)
  have Kb := Lib.hid (part_on kb bb)
  have Kc := Lib.hid (part_on kc bb)
  have Kp := Lib.hid (part_on kp bb)
  have Kq := Lib.hid (part_on kq bb)
  have Kx := Lib.hid (part_on kx bb)
  have Ky := Lib.hid (part_on ky bb)
  have Ks := Lib.hid (part_on ks bb)
  have Kr := Lib.hid (part_on kr bb)
  have Kt := Lib.hid (part_on kt bb)
  have HW13 := Lib.hid (Hw13.out.trans (bb.mono Hw13.out.size))
  have Ke : Hid (W13.heap[w13.heap.size]? = some (partO a1 a2)) := Lib.hid (by rw [hW13]; exact Go.Deep.blk_alloc_new _ _)
  have HEW13 := Lib.hid hW13
  clear bb hW13 ka kb kc kp kq kx ky ks kr kt
  go_wp2_with fail
  rw [← HEW13.out]
  clear ya0 ya1 ya2 yb0 yb1 yb2 yc0 yc1 yc2 yp0 yp1 yp2 yq0 yq1 yq2 yx0 yx1 yx2 yy0 yy1 yy2 ys0 ys1 ys2 yr0 yr1 yr2 yt0 yt1 yt2
  refine (Q9.out W13 HW13.out).mono ?_
  rintro e w14 ⟨rfl, hb14⟩
  have Hw14 := Lib.hid (HW13.out.trans (hb14.mono HW13.out.size))
  have ka := part_on Ka.out hb14
  have kb := part_on Kb.out hb14
  have kc := part_on Kc.out hb14
  have kp := part_on Kp.out hb14
  have kq := part_on Kq.out hb14
  have kx := part_on Kx.out hb14
  have ky := part_on Ky.out hb14
  have ks := part_on Ks.out hb14
  have kr := part_on Kr.out hb14
  have kt := part_on Kt.out hb14
  have ke := part_on Ke.out hb14
  clear Ka Kb Kc Kp Kq Kx Ky Ks Kr Kt Ke hb14
  obtain ⟨ya0, ya1, ya2⟩ := part_at ka
  obtain ⟨yb0, yb1, yb2⟩ := part_at kb
  obtain ⟨yc0, yc1, yc2⟩ := part_at kc
  obtain ⟨yp0, yp1, yp2⟩ := part_at kp
  obtain ⟨yq0, yq1, yq2⟩ := part_at kq
  obtain ⟨yx0, yx1, yx2⟩ := part_at kx
  obtain ⟨yy0, yy1, yy2⟩ := part_at ky
  obtain ⟨ys0, ys1, ys2⟩ := part_at ks
  obtain ⟨yr0, yr1, yr2⟩ := part_at kr
  obtain ⟨yt0, yt1, yt2⟩ := part_at kt
  obtain ⟨ye0, ye1, ye2⟩ := part_at ke
  obtain ⟨W14, hW14⟩ : ∃ W, W = w14.alloc (.cells #[.string f1, .string f2] 24) := ⟨_, rfl⟩
  have bb : Below w14.heap.size w14 W14 := by rw [hW14]; exact (Below.refl _ _).alloc (Nat.le_refl _) _
  have Ka := Lib.hid (part_on ka bb)
  have Kb := Lib.hid (part_on kb bb)
  have Kc := Lib.hid (part_on kc bb)
  have Kp := Lib.hid (part_on kp bb)
  have Kq := Lib.hid (part_on kq bb)
  have Kx := Lib.hid (part_on kx bb)
  have Ky := Lib.hid (part_on ky bb)
  have Ks := Lib.hid (part_on ks bb)
  have Kr := Lib.hid (part_on kr bb)
  have Kt := Lib.hid (part_on kt bb)
  have Ke := Lib.hid (part_on ke bb)
  have HW14 := Lib.hid (Hw14.out.trans (bb.mono Hw14.out.size))
  have Kf : Hid (W14.heap[w14.heap.size]? = some (partO f1 f2)) := Lib.hid (by rw [hW14]; exact Go.Deep.blk_alloc_new _ _)
  have HEW14 := Lib.hid hW14
  clear bb hW14 ka kb kc kp kq kx ky ks kr kt ke
  go_wp2_with fail
  rw [← HEW14.out]
  clear ya0 ya1 ya2 yb0 yb1 yb2 yc0 yc1 yc2 yp0 yp1 yp2 yq0 yq1 yq2 yx0 yx1 yx2 yy0 yy1 yy2 ys0 ys1 ys2 yr0 yr1 yr2 yt0 yt1 yt2 ye0 ye1 ye2
  refine (Q10.out W14 HW14.out).mono ?_
  rintro e w15 ⟨rfl, hb15⟩
  have Hw15 := Lib.hid (HW14.out.trans (hb15.mono HW14.out.size))
  have ka := part_on Ka.out hb15
  have kb := part_on Kb.out hb15
  have kc := part_on Kc.out hb15
  have kp := part_on Kp.out hb15
  have kq := part_on Kq.out hb15
  have kx := part_on Kx.out hb15
  have ky := part_on Ky.out hb15
  have ks := part_on Ks.out hb15
  have kr := part_on Kr.out hb15
  have kt := part_on Kt.out hb15
  have ke := part_on Ke.out hb15
  have kf := part_on Kf.out hb15
  clear Ka Kb Kc Kp Kq Kx Ky Ks Kr Kt Ke Kf hb15
  obtain ⟨ya0, ya1, ya2⟩ := part_at ka
  obtain ⟨yb0, yb1, yb2⟩ := part_at kb
  obtain ⟨yc0, yc1, yc2⟩ := part_at kc
  obtain ⟨yp0, yp1, yp2⟩ := part_at kp
  obtain ⟨yq0, yq1, yq2⟩ := part_at kq
  obtain ⟨yx0, yx1, yx2⟩ := part_at kx
  obtain ⟨yy0, yy1, yy2⟩ := part_at ky
  obtain ⟨ys0, ys1, ys2⟩ := part_at ks
  obtain ⟨yr0, yr1, yr2⟩ := part_at kr
  obtain ⟨yt0, yt1, yt2⟩ := part_at kt
  obtain ⟨ye0, ye1, ye2⟩ := part_at ke
  obtain ⟨yf0, yf1, yf2⟩ := part_at kf
  obtain ⟨W15, hW15⟩ : ∃ W, W = w15.alloc (.cells #[.string g1, .string g2] 24) := ⟨_, rfl⟩
  have bb : Below w15.heap.size w15 W15 := by rw [hW15]; exact (Below.refl _ _).alloc (Nat.le_refl _) _
  have Ka := Lib.hid (part_on ka bb)
  have Kb := Lib.hid (part_on kb bb)
  have Kc := Lib.hid (part_on kc bb)
  have Kp := Lib.hid (part_on kp bb)
  have Kq := Lib.hid (part_on kq bb)
  have Kx := Lib.hid (part_on kx bb)
  have Ky := Lib.hid (part_on ky bb)
  have Ks := Lib.hid (part_on ks bb)
  have Kr := Lib.hid (part_on kr bb)
  have Kt := Lib.hid (part_on kt bb)
  have Ke := Lib.hid (part_on ke bb)
  have Kf := Lib.hid (part_on kf bb)
  have HW15 := Lib.hid (Hw15.out.trans (bb.mono Hw15.out.size))
  have Kg : Hid (W15.heap[w15.heap.size]? = some (partO g1 g2)) := Lib.hid (by rw [hW15]; exact Go.Deep.blk_alloc_new _ _)
  have HEW15 := Lib.hid hW15
  clear bb hW15 ka kb kc kp kq kx ky ks kr kt ke kf
  go_wp2_with fail
  rw [← HEW15.out]
  clear ya0 ya1 ya2 yb0 yb1 yb2 yc0 yc1 yc2 yp0 yp1 yp2 yq0 yq1 yq2 yx0 yx1 yx2 yy0 yy1 yy2 ys0 ys1 ys2 yr0 yr1 yr2 yt0 yt1 yt2 ye0 ye1 ye2 yf0 yf1 yf2
  refine (Q11.out W15 HW15.out).mono ?_
  rintro e w16 ⟨rfl, hb16⟩
  have Hw16 := Lib.hid (HW15.out.trans (hb16.mono HW15.out.size))
  have ka := part_on Ka.out hb16
  have kb := part_on Kb.out hb16
  have kc := part_on Kc.out hb16
  have kp := part_on Kp.out hb16
  have kq := part_on Kq.out hb16
  have kx := part_on Kx.out hb16
  have ky := part_on Ky.out hb16
  have ks := part_on Ks.out hb16
  have kr := part_on Kr.out hb16
  have kt := part_on Kt.out hb16
  have ke := part_on Ke.out hb16
  have kf := part_on Kf.out hb16
  have kg := part_on Kg.out hb16
  clear Ka Kb Kc Kp Kq Kx Ky Ks Kr Kt Ke Kf Kg hb16
  obtain ⟨ya0, ya1, ya2⟩ := part_at ka
  obtain ⟨yb0, yb1, yb2⟩ := part_at kb
  obtain ⟨yc0, yc1, yc2⟩ := part_at kc
  obtain ⟨yp0, yp1, yp2⟩ := part_at kp
  obtain ⟨yq0, yq1, yq2⟩ := part_at kq
  obtain ⟨yx0, yx1, yx2⟩ := part_at kx
  obtain ⟨yy0, yy1, yy2⟩ := part_at ky
  obtain ⟨ys0, ys1, ys2⟩ := part_at ks
  obtain ⟨yr0, yr1, yr2⟩ := part_at kr
  obtain ⟨yt0, yt1, yt2⟩ := part_at kt
  obtain ⟨ye0, ye1, ye2⟩ := part_at ke
  obtain ⟨yf0, yf1, yf2⟩ := part_at kf
  obtain ⟨yg0, yg1, yg2⟩ := part_at kg
  obtain ⟨W16, hW16⟩ : ∃ W, W = w16.alloc (.cells #[.string f1, .string f2] 24) := ⟨_, rfl⟩
  have bb : Below w16.heap.size w16 W16 := by rw [hW16]; exact (Below.refl _ _).alloc (Nat.le_refl _) _
  have Ka := Lib.hid (part_on ka bb)
  have Kb := Lib.hid (part_on kb bb)
  have Kc := Lib.hid (part_on kc bb)
  have Kp := Lib.hid (part_on kp bb)
  have Kq := Lib.hid (part_on kq bb)
  have Kx := Lib.hid (part_on kx bb)
  have Ky := Lib.hid (part_on ky bb)
  have Ks := Lib.hid (part_on ks bb)
  have Kr := Lib.hid (part_on kr bb)
  have Kt := Lib.hid (part_on kt bb)
  have Ke := Lib.hid (part_on ke bb)
  have Kf := Lib.hid (part_on kf bb)
  have Kg := Lib.hid (part_on kg bb)
  have HW16 := Lib.hid (Hw16.out.trans (bb.mono Hw16.out.size))
  have Kh : Hid (W16.heap[w16.heap.size]? = some (partO f1 f2)) := Lib.hid (by rw [hW16]; exact Go.Deep.blk_alloc_new _ _)
  have HEW16 := Lib.hid hW16
  clear bb hW16 ka kb kc kp kq kx ky ks kr kt ke kf kg
  go_wp2_with fail
  rw [← HEW16.out]
  clear ya0 ya1 ya2 yb0 yb1 yb2 yc0 yc1 yc2 yp0 yp1 yp2 yq0 yq1 yq2 yx0 yx1 yx2 yy0 yy1 yy2 ys0 ys1 ys2 yr0 yr1 yr2 yt0 yt1 yt2 ye0 ye1 ye2 yf0 yf1 yf2 yg0 yg1 yg2
  by_cases hz : b1 = zeroB
  · have hd := HD.out
    rw [if_pos hz] at hd
    injection hd with hd1 hd2; injection hd1 with hd3 hd4
    have hz2 : b1 = ⟨#[48]⟩ := hz
    subst hd2 hd3 hd4
    clear hz HD
    subst hz2
    refine (Q12.out W16 HW16.out).mono ?_
    rintro e w17 ⟨rfl, hb17⟩
    have Hw17 := Lib.hid (HW16.out.trans (hb17.mono HW16.out.size))
    have ka := part_on Ka.out hb17
    have kb := part_on Kb.out hb17
    have kc := part_on Kc.out hb17
    have kp := part_on Kp.out hb17
    have kq := part_on Kq.out hb17
    have kx := part_on Kx.out hb17
    have ky := part_on Ky.out hb17
    have ks := part_on Ks.out hb17
    have kr := part_on Kr.out hb17
    have kt := part_on Kt.out hb17
    have ke := part_on Ke.out hb17
    have kf := part_on Kf.out hb17
    have kg := part_on Kg.out hb17
    have kh := part_on Kh.out hb17
    clear Ka Kb Kc Kp Kq Kx Ky Ks Kr Kt Ke Kf Kg Kh hb17
    obtain ⟨ya0, ya1, ya2⟩ := part_at ka
    obtain ⟨yb0, yb1, yb2⟩ := part_at kb
    obtain ⟨yc0, yc1, yc2⟩ := part_at kc
    obtain ⟨yp0, yp1, yp2⟩ := part_at kp
    obtain ⟨yq0, yq1, yq2⟩ := part_at kq
    obtain ⟨yx0, yx1, yx2⟩ := part_at kx
    obtain ⟨yy0, yy1, yy2⟩ := part_at ky
    obtain ⟨ys0, ys1, ys2⟩ := part_at ks
    obtain ⟨yr0, yr1, yr2⟩ := part_at kr
    obtain ⟨yt0, yt1, yt2⟩ := part_at kt
    obtain ⟨ye0, ye1, ye2⟩ := part_at ke
    obtain ⟨yf0, yf1, yf2⟩ := part_at kf
    obtain ⟨yg0, yg1, yg2⟩ := part_at kg
    obtain ⟨yh0, yh1, yh2⟩ := part_at kh
    obtain ⟨W17, hW17⟩ : ∃ W, W = w17.alloc (.cells #[.string ⟨#[]⟩, .string ⟨#[]⟩] 24) := ⟨_, rfl⟩
    have bb : Below w17.heap.size w17 W17 := by rw [hW17]; exact (Below.refl _ _).alloc (Nat.le_refl _) _
    have Ka := Lib.hid (part_on ka bb)
    have Kb := Lib.hid (part_on kb bb)
    have Kc := Lib.hid (part_on kc bb)
    have Kp := Lib.hid (part_on kp bb)
    have Kq := Lib.hid (part_on kq bb)
    have Kx := Lib.hid (part_on kx bb)
    have Ky := Lib.hid (part_on ky bb)
    have Ks := Lib.hid (part_on ks bb)
    have Kr := Lib.hid (part_on kr bb)
    have Kt := Lib.hid (part_on kt bb)
    have Ke := Lib.hid (part_on ke bb)
    have Kf := Lib.hid (part_on kf bb)
    have Kg := Lib.hid (part_on kg bb)
    have Kh := Lib.hid (part_on kh bb)
    have HW17 := Lib.hid (Hw17.out.trans (bb.mono Hw17.out.size))
    have kk : W17.heap[w17.heap.size]? = some (.cells #[.string ⟨#[]⟩, .string ⟨#[]⟩] 24 (0, 0)) := by rw [hW17]; exact Go.Deep.blk_alloc_new _ _
    have KK := Lib.hid kk
    clear kk
    have HEW17 := Lib.hid hW17
    clear bb hW17 ka kb kc kp kq kx ky ks kr kt ke kf kg kh
    go_wp2_with fail
    rw [← HEW17.out]
    clear ya0 ya1 ya2 yb0 yb1 yb2 yc0 yc1 yc2 yp0 yp1 yp2 yq0 yq1 yq2 yx0 yx1 yx2 yy0 yy1 yy2 ys0 ys1 ys2 yr0 yr1 yr2 yt0 yt1 yt2 ye0 ye1 ye2 yf0 yf1 yf2 yg0 yg1 yg2 yh0 yh1 yh2
    exact bodyPost_ret (v := .bool true) (by simp [results, Tryz.results4, go_sem]) rfl ⟨rfl, HW17.out⟩
  · have hd := HD.out
    rw [if_neg hz] at hd
    injection hd with hd1 hd2; injection hd1 with hd3 hd4
    subst hd2 hd3 hd4
    have hz2 : ¬ b1 = ⟨#[48]⟩ := hz
    refine (Q12.out W16 HW16.out).mono ?_
    rintro e w17 ⟨rfl, hb17⟩
    have Hw17 := Lib.hid (HW16.out.trans (hb17.mono HW16.out.size))
    have ka := part_on Ka.out hb17
    have kb := part_on Kb.out hb17
    have kc := part_on Kc.out hb17
    have kp := part_on Kp.out hb17
    have kq := part_on Kq.out hb17
    have kx := part_on Kx.out hb17
    have ky := part_on Ky.out hb17
    have ks := part_on Ks.out hb17
    have kr := part_on Kr.out hb17
    have kt := part_on Kt.out hb17
    have ke := part_on Ke.out hb17
    have kf := part_on Kf.out hb17
    have kg := part_on Kg.out hb17
    have kh := part_on Kh.out hb17
    clear Ka Kb Kc Kp Kq Kx Ky Ks Kr Kt Ke Kf Kg Kh hb17
    obtain ⟨ya0, ya1, ya2⟩ := part_at ka
    obtain ⟨yb0, yb1, yb2⟩ := part_at kb
    obtain ⟨yc0, yc1, yc2⟩ := part_at kc
    obtain ⟨yp0, yp1, yp2⟩ := part_at kp
    obtain ⟨yq0, yq1, yq2⟩ := part_at kq
    obtain ⟨yx0, yx1, yx2⟩ := part_at kx
    obtain ⟨yy0, yy1, yy2⟩ := part_at ky
    obtain ⟨ys0, ys1, ys2⟩ := part_at ks
    obtain ⟨yr0, yr1, yr2⟩ := part_at kr
    obtain ⟨yt0, yt1, yt2⟩ := part_at kt
    obtain ⟨ye0, ye1, ye2⟩ := part_at ke
    obtain ⟨yf0, yf1, yf2⟩ := part_at kf
    obtain ⟨yg0, yg1, yg2⟩ := part_at kg
    obtain ⟨yh0, yh1, yh2⟩ := part_at kh
    obtain ⟨W17, hW17⟩ : ∃ W, W = w17.alloc (.cells #[.string a1, .string a2] 24) := ⟨_, rfl⟩
    have bb : Below w17.heap.size w17 W17 := by rw [hW17]; exact (Below.refl _ _).alloc (Nat.le_refl _) _
    have Ka := Lib.hid (part_on ka bb)
    have Kb := Lib.hid (part_on kb bb)
    have Kc := Lib.hid (part_on kc bb)
    have Kp := Lib.hid (part_on kp bb)
    have Kq := Lib.hid (part_on kq bb)
    have Kx := Lib.hid (part_on kx bb)
    have Ky := Lib.hid (part_on ky bb)
    have Ks := Lib.hid (part_on ks bb)
    have Kr := Lib.hid (part_on kr bb)
    have Kt := Lib.hid (part_on kt bb)
    have Ke := Lib.hid (part_on ke bb)
    have Kf := Lib.hid (part_on kf bb)
    have Kg := Lib.hid (part_on kg bb)
    have Kh := Lib.hid (part_on kh bb)
    have HW17 := Lib.hid (Hw17.out.trans (bb.mono Hw17.out.size))
    have Kd : Hid (W17.heap[w17.heap.size]? = some (partO a1 a2)) := Lib.hid (by rw [hW17]; exact Go.Deep.blk_alloc_new _ _)
    have HEW17 := Lib.hid hW17
    clear bb hW17 ka kb kc kp kq kx ky ks kr kt ke kf kg kh
    go_wp2_with fail
    rw [← HEW17.out]
    clear ya0 ya1 ya2 yb0 yb1 yb2 yc0 yc1 yc2 yp0 yp1 yp2 yq0 yq1 yq2 yx0 yx1 yx2 yy0 yy1 yy2 ys0 ys1 ys2 yr0 yr1 yr2 yt0 yt1 yt2 ye0 ye1 ye2 yf0 yf1 yf2 yg0 yg1 yg2 yh0 yh1 yh2
    exact bodyPost_ret (v := .bool true) (by simp [results, Tryz.results4, go_sem]) rfl ⟨rfl, HW17.out⟩
end Go.Proofs.YtkggfeemjabdeaaGreatDoor.Wc
end
