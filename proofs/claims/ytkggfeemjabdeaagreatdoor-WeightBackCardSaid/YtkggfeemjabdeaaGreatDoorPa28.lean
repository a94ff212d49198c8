/- Contract of parse. -/
import Derived.Maps.OwnIn
import Derived.Stop.RegionWithIn
import Derived.Test.YtkggfeemjabdeaaGreatDoorPa25
import Derived.Test.YtkggfeemjabdeaaGreatDoorPa27
namespace Go.Proofs.YtkggfeemjabdeaaGreatDoor
open Go.RowKit Go.Shelf
attribute [local go_sem] Oper.semAt_some

/-- the powers of ten that the code keeps lie in block 0. -/
def Tens (w : World) : Prop := ∀ j, j ≤ 18 → w.cell? ⟨0, j, none⟩ = some (.int .u64 ((10 ^ j : Nat) : Int))

set_option maxRecDepth 100000 in
set_option maxHeartbeats 1000000 in
theorem groups_any (F : Fence) (n : Nat) (hf : F.fn 70) (hro : F.round = none) (s : ByteArray) (w : World) :
    CallsIn F n Tryz.prog 70 #[.string s] w fun e w' => e = .returned (.func (.func 109) #[] #[.pointer (some ⟨w.heap.size, 0, none⟩)]) ∧ w' = w.alloc (.cells #[.string s] 9) := by
  refine callsIn_of_wp Tryz.func70 rfl hf ?_ hro
  simp only [Tryz.ntmps70, List.size_toArray, List.length_cons, List.length_nil, Nat.reduceAdd, Nat.reduceSub, Array.replicate_succ, Array.replicate_zero, List.push_toArray, List.append_toArray, List.nil_append, List.cons_append]
  gi_wp2
  go_ret
  exact ⟨rfl, rfl⟩

theorem dv_add (s : ByteArray) (i : Nat) : ∀ k, dv s 0 (i + k) = dv s 0 i * 10 ^ k + dv s i k
  | 0 => by simp [dv]
  | k + 1 => by
    rw [← Nat.add_assoc]
    show dv s 0 (i + k) * 10 + ((s.get! (0 + (i + k))).toNat - 48) = dv s 0 i * 10 ^ (k + 1) + (dv s i k * 10 + ((s.get! (i + k)).toNat - 48))
    rw [dv_add s i k, Nat.zero_add, Nat.add_mul, Nat.mul_assoc, show 10 ^ k * 10 = 10 ^ (k + 1) from rfl]; omega

theorem nrm_of {f h : Nat → Nat} {m : Nat} (hf : Nrm f m) (hl : ∀ p, p < m → h p < R64) (hle : val f m ≤ val h m) : Nrm h m := by
  refine ⟨hl, ?_⟩
  rcases Nat.eq_zero_or_pos m with h0 | h0
  · exact .inl h0
  · refine .inr fun e => ?_
    have h1 := val_ge h0 (hf.top.resolve_left (by omega))
    obtain ⟨k, rfl⟩ : ∃ k, m = k + 1 := ⟨m - 1, by omega⟩
    have h2 := val_lt (f := h) (n := k) fun p hp => hl p (by omega)
    simp only [Nat.add_sub_cancel] at e h1
    have h3 : val h (k + 1) = val h k + h k * R64 ^ k := rfl
    rw [e, Nat.zero_mul] at h3
    omega

theorem cellsOf_at (k : IntKind) (f : Nat → Nat) {n j : Nat} (h : j < n) : (cellsOf k f n)[j]? = some (.int k (f j)) := by
  unfold cellsOf
  rw [List.getElem?_map, List.getElem?_range h]; rfl

/-- an operation of a drawn region, taken first, in a fence; the temporary that it writes is told. -/
theorem takeIn {F : Fence} {m : Nat} {P : Program} {ops : Array Oper} {Q : Exit → Act → World → Prop} {md : Region.Mode} {i : Nat} {oi : Oper} {v : Value} {n : Nat} {fuel : Nat} {listed : Array Bool} {a : Act} {w : World} (hro : F.round = none) (hi : ops[i]? = some oi) (hd : oi.dst = some n)
    (hs : Region.noSelect ops = true) (hf : Region.free md ops listed i = true) (hr : (Region.ready md ops listed).contains i = true)
    (hQ : ∀ c a w, Q (.panic c) (a.put (some n) v) w → Q (.panic c) a w) (hy : YieldsFenced P ops oi v a)
    (h : wpAnyIn F m P md ops Q fuel (listed.setIfInBounds i true) (a.put (some n) v) w) : wpAnyIn F m P md ops Q (fuel + 1) listed a w := by
  rw [← hd] at h hQ
  exact wpAnyIn_take hro hi hs hf hr hQ hy h
theorem no_defer {ops : Array Oper} (h : (ops.toList.all fun o => match o.op with | .defer _ => false | _ => true) = true) : ∀ (i : Nat) (o : Oper), ops[i]? = some o → ∀ c, o.op ≠ .defer c := by
  intro i o ho c e
  rw [List.all_eq_true] at h
  have := h o (by rw [← Array.getElem?_toList] at ho; exact List.mem_of_getElem? ho)
  rw [e] at this
  cases this

theorem cellsOf_set (k : IntKind) (f : Nat → Nat) (n j x : Nat) : (cellsOf k f n).set j (.int k x) = cellsOf k (upd f j x) n := by
  apply List.ext_getElem?
  intro i
  rw [List.getElem?_set]
  by_cases hi : i < n
  · by_cases e : j = i
    · subst e
      rw [if_pos rfl, if_pos (by rw [length_cellsOf]; exact hi), get_cellsOf_lt hi, upd_at]
    · rw [if_neg e, get_cellsOf_lt hi, get_cellsOf_lt hi, upd_ne _ _ (by omega)]
  · have h1 : (cellsOf k f n)[i]? = none := List.getElem?_eq_none (by rw [length_cellsOf]; omega)
    have h2 : (cellsOf k (upd f j x) n)[i]? = none := List.getElem?_eq_none (by rw [length_cellsOf]; omega)
    rw [h1, h2]
    split
    · rw [if_neg (by rw [length_cellsOf]; omega)]
    · rfl
theorem grownBy_set (W : World) (g j : Nat) (u : Value) : W.grownBy ((W.setCell ⟨g, j, none⟩ u).drew) (some g) :=
  ⟨rfl, rfl, rfl, by simp [World.setCell, World.drew], fun k _ hk => Below.heap_setCell _ _ _ _ (by intro e; exact hk (by rw [e]))⟩
theorem ownsRow_set {W : World} {B g cap n : Nat} {t : TypeId} {f : Nat → Nat} (h : W.ownsRow B t 1 (.slice (some ⟨g, 0, none⟩) n cap) n (cellsOf .u64 f n)) (j x : Nat) :
    (W.setCell ⟨g, j, none⟩ (.int .u64 (x : Nat))).ownsRow B t 1 (.slice (some ⟨g, 0, none⟩) n cap) n (cellsOf .u64 (upd f j x) n) := by
  obtain ⟨-, h2⟩ := h
  rcases h2 with ⟨e, -⟩ | ⟨g', cap', cur, e, hb, hg, k1, k2, k3, k4⟩
  · cases e
  · injection e with e1 e2 e3
    injection e1 with e1; injection e1 with e1
    subst e1 e3
    refine ⟨by rw [length_cellsOf, Nat.mul_one], .inr ⟨g, cap, cur.setIfInBounds j (.int .u64 (x : Nat)), rfl, hb, heap_setCell_same _ _ _ _ _ _ hg, k1, k2, by simp [k3], ?_⟩⟩
    rw [Array.toList_setIfInBounds, List.take_set, k4, cellsOf_set]

set_option maxRecDepth 100000 in
set_option maxHeartbeats 1000000 in
theorem parse_in (s : ByteArray) (w : World) (hs : s.size ≤ 2000) (hd : ∀ j, j < s.size → Dig (s.get! j)) (ht : Tens w) :
    CallsIn Fence.wide 6 Tryz.prog 31 #[.string s] w fun e w' => ∃ v, e = .returned v ∧ NatOwn w' w.heap.size v (dv s 0 s.size) ∧ Below w.heap.size w w' := by
  have h1 : 1 ≤ 6 := by omega
  refine callsIn_of_wp_marks Tryz.func31 rfl trivial ?_ rfl
  simp only [Tryz.ntmps31, List.size_toArray, List.length_cons, List.length_nil, Nat.reduceAdd, Nat.reduceSub, Array.replicate_succ, Array.replicate_zero, List.push_toArray, List.append_toArray, List.nil_append, List.cons_append]
  obtain ⟨i0, hi, hz0, hz1, hz2⟩ := info_parts infoW
  obtain ⟨cc, hcc⟩ : ∃ cc : Nat, cc = s.size / 18 + 1 := ⟨_, rfl⟩
  have hmk := run_makeSlice (P := Tryz.prog) (w := w) 60 78 i0 (.int .u64 0) Tryz.underlying60 hi hz0 .i64 .i64 0 (cc : Int) (by omega) (by omega) (by rw [hz1]; simp; omega) (by rw [hz2]; omega) (by omega)
  have hcc2 : cc ≤ 200 := by omega
  rw [hz1, Nat.mul_one, show (cc : Int) = (s.size : Int) / 18 + 1 from by omega, show ((s.size : Int) / 18 + 1).toNat = cc from by omega] at hmk
  have hrow : (w.alloc (.cells (madeCells #[.int .u64 0] cc) 78)).rowIs w.heap.size 78 cc (fun _ => .int .u64 ((0 : Nat) : Int)) := World.rowIs_made w _ cc _
  generalize hcells : madeCells (Value.int .u64 0).cells cc = cs at hmk
  rw [show madeCells #[Value.int .u64 0] cc = cs from hcells] at hrow
  have HROW := Lib.hid hrow; clear hrow hcells
  have HCC := Lib.hid hcc; clear hcc
  gi_wp2_with (refine ⟨trivial, ?_⟩; gi_at_call 70; refine (groups_any Fence.wide _ trivial rfl s _).mono ?_; rintro e w' ⟨rfl, rfl⟩)
  obtain ⟨w2, hw2⟩ : ∃ w2, ((w.alloc (.cells cs 78)).alloc (.cells #[.slice (some ⟨w.heap.size, 0, none⟩) 0 cc] 60)).alloc (.cells #[.string s] 9) = w2 := ⟨_, rfl⟩
  have hsz : w2.heap.size = w.heap.size + 3 := by rw [← hw2]; simp
  have hB2 : Below w.heap.size w w2 := by
    rw [← hw2]; exact (((Below.refl _ w).alloc (Nat.le_refl _) _).alloc (by simp) _).alloc (by simp; omega) _
  have hC2 : Boxed w2 (w.heap.size + 2) 9 (.string s) := by
    have := Boxed.new ((w.alloc (.cells cs 78)).alloc (.cells #[.slice (some ⟨w.heap.size, 0, none⟩) 0 cc] 60)) 9 (.string s)
    rw [hw2] at this
    simpa using this
  have hN2 : Boxed w2 (w.heap.size + 1) 60 (.slice (some ⟨w.heap.size, 0, none⟩) 0 cc) := by
    have := (Boxed.new (w.alloc (.cells cs 78)) 60 (.slice (some ⟨w.heap.size, 0, none⟩) 0 cc)).alloc (.cells #[.string s] 9)
    rw [hw2] at this
    simpa using this
  have hR2 : w2.ownsRow w.heap.size 78 1 (.slice (some ⟨w.heap.size, 0, none⟩) 0 cc) 0 (cellsOf .u64 (fun _ => 0) 0) := by
    obtain ⟨c, hc1, hc2, _⟩ := HROW.out
    obtain ⟨w', he, ho, hg⟩ := run_makeSlice_owned (P := Tryz.prog) w w.heap.size 60 78 i0 (.int .u64 0) 1 Tryz.underlying60 hi hz0 hz1 .i64 .i64 cc (by omega) (by rw [hz2]; omega) (by unfold maxLen; omega) (Nat.le_refl _)
    rw [show (cc : Int) = (s.size : Int) / 18 + 1 from by have := HCC.out; omega, hmk] at he
    injection he with _ he
    subst he
    rw [← hw2]
    exact (ho.alloc _).alloc _
  rw [hw2]
  clear HROW hmk hw2
  have HB2 := Lib.hid hB2; have HC2 := Lib.hid hC2; have HN2 := Lib.hid hN2; have HR2 := Lib.hid hR2
  clear hB2 hC2 hN2 hR2
  have e2 : w.heap.size + 1 + 1 = w.heap.size + 2 := rfl
  rw [e2]
  refine range_groups rfl (by omega) (w.heap.size + 2) s HC2.out.cell HC2.out.frozen rfl trivial hs hd rfl
    (fun i W => ∃ (g cap m : Nat) (f : Nat → Nat), Boxed W (w.heap.size + 1) 60 (.slice (some ⟨g, 0, none⟩) m cap) ∧ W.ownsRow w.heap.size 78 1 (.slice (some ⟨g, 0, none⟩) m cap) m (cellsOf .u64 f m) ∧ Nrm f m ∧ val f m = dv s 0 i ∧
      (g = w.heap.size ∨ w.heap.size + 4 < g) ∧ m ≤ i ∧ Below w.heap.size w W)
    ?hI ?hten ⟨_, _, 0, fun _ => 0, HN2.out, HR2.out, ⟨fun i hi => by omega, .inl rfl⟩, rfl, .inl rfl, Nat.le_refl _, HB2.out⟩
    (fun x y => { tmps := #[.string s, undef, .slice none 0 0, .pointer (some ⟨w.heap.size + 1, 0, none⟩), .int .u64 (x : Int), .int .u64 (y : Int), undef, undef, .string s, .int .i64 (s.size : Int), .int .i64 ((s.size : Int) / 18), .int .i64 ((s.size : Int) / 18 + 1), .slice (some ⟨w.heap.size, 0, none⟩) 0 cc, .string s, .func (.func 109) #[] #[.pointer (some ⟨w.heap.size + 2, 0, none⟩)], .int .u64 (x : Int), .int .u64 (y : Int), undef, undef, undef, undef, undef, undef, undef, undef, undef, undef, undef, undef, undef, undef, undef, undef, undef, undef, undef, undef, undef, undef, undef, undef, undef], defers := [] }) ?assign ?body ?done
  case hI =>
    rintro i W W' r ⟨g, cap, m, f, h1, h2, h3, h4, h5, h6, h7⟩ hg hr
    rw [hsz] at hr
    refine ⟨g, cap, m, f, h1.kept hg (by intro e; injection e with e; omega), h2.kept hg ?_, h3, h4, h5, h6, h7.grown hg h7.size (fun k hk => by injection hk with hk; omega)⟩
    exact .inr (by intro e2; simp [Value.ownBlock] at e2; omega)
  case hten =>
    rintro i W ⟨g, cap, m, f, h1, h2, h3, h4, h5, h6, h7⟩ j hj
    exact cell_later h7 (ht j hj)
  case assign =>
    intro l x y W K hK
    gi_wp2
    exact hK
  case body =>
    rintro l i k W ⟨g, cap, m, f, h1, h2, h3, h4, h5, h6, h7⟩ hi2 hk hlt
    have c1 := h1.cell
    have H1 := Lib.hid h1; have H2 := Lib.hid h2; have H3 := Lib.hid h3; have H4 := Lib.hid h4; have H7 := Lib.hid h7; have HK := Lib.hid hk
    have hm : m ≤ 2000 := by omega
    clear h1 h2 h3 h4 h7 hk
    generalize hdv : dv s i k = x at *
    generalize hro : 10 ^ k = y at *
    have HX := Lib.hid hdv; have HY := Lib.hid hro; clear hdv hro
    gi_wp2
    gi_loopw [4, 19] (fun gv jv wr => ∃ (j q : Nat) (h : Nat → Nat), j ≤ m ∧ jv = .int .i64 (j : Int) ∧ gv = .int .u64 (q : Int) ∧ q < R64 ∧ val h j + q * R64 ^ j = val f j * y + x ∧ (∀ p, p < m → h p < R64) ∧ (∀ p, j ≤ p → p < m → h p = f p) ∧
      wr.ownsRow w.heap.size 78 1 (.slice (some ⟨g, 0, none⟩) m cap) m (cellsOf .u64 h m) ∧ W.grownBy wr (some g)) (fun _ jv _ => m - (intOf jv).toNat)
    case atStart => exact ⟨0, x, f, by omega, rfl, rfl, by rw [← HX.out]; exact Nat.lt_trans (dv_lt s i k fun j hj => by have := (hd (i + j) (by have := HK.out; omega)).2; omega) (Nat.lt_of_le_of_lt (Nat.pow_le_pow_right (by decide) (show k ≤ 18 by have := HK.out; omega)) (by decide)), by simp [val], H3.out.lim, fun _ _ _ => rfl, H2.out, World.grownBy.refl _ _⟩
    case round =>
      obtain ⟨j, q, h, hj, rfl, rfl, hq, hv, hl, ht, hr, hg⟩ := hrel
      have HV := Lib.hid hv; have HL := Lib.hid hl; have HT := Lib.hid ht; have HR := Lib.hid hr; have HG := Lib.hid hg
      clear hv hl ht hr hg
      have HBX : Hid (Boxed wr (w.heap.size + 1) 60 (.slice (some ⟨g, 0, none⟩) m cap)) := Lib.hid (H1.out.kept HG.out (by intro e; injection e with e; omega))
      have cb := HBX.out.cell
      by_cases hlt2 : j < m
      · have cj : wr.cell? ⟨g, j, none⟩ = some (.int .u64 (f j : Nat)) := by
          rw [HR.out.cellAt j (by omega), cellsOf_at _ _ hlt2, HT.out j (Nat.le_refl _) hlt2]
        have zj := HR.out.frozenAt j
        have lf := H3.out.lim j hlt2
        have ly : y < R64 := by
          rw [← HY.out]; exact Nat.lt_of_le_of_lt (Nat.pow_le_pow_right (by decide) (show k ≤ 18 by have := HK.out; omega)) (by decide)
        generalize hfj : f j = fj at *
        have HFJ := Lib.hid hfj; clear hfj
        gi_wp2_with fail
        refine wpIn_region_any (by kernel_rfl) (wpAnyIn_inRound (F := Fence.wide) rfl l (no_defer (by kernel_rfl)) _ _ _ _ ?_)
        change wpAnyIn _ _ _ _ _ _ _ _ _ (World.drew wr)
        refine takeIn (i := 1) (n := 26) (v := .int .i64 (j : Int)) rfl rfl rfl (by kernel_rfl) (by kernel_rfl) (by kernel_rfl) (fun _ _ _ h => h) ⟨Or.inl ⟨by rfl, ?_⟩, fun _ => rfl⟩ ?_
        · intro w; go_simp
        try simp only [Act.put, List.setIfInBounds_toArray, List.set_cons_zero, List.set_cons_succ]
        refine takeIn (i := 2) (n := 27) (v := .int .u64 (fj : Int)) rfl rfl rfl (by kernel_rfl) (by kernel_rfl) (by kernel_rfl) (fun _ _ _ h => h) ⟨Or.inl ⟨by rfl, ?_⟩, fun _ => rfl⟩ ?_
        · intro w; go_simp
        try simp only [Act.put, List.setIfInBounds_toArray, List.set_cons_zero, List.set_cons_succ]
        refine takeIn (i := 3) (n := 28) (v := .int .u64 (y : Int)) rfl rfl rfl (by kernel_rfl) (by kernel_rfl) (by kernel_rfl) (fun _ _ _ h => h) ⟨Or.inl ⟨by rfl, ?_⟩, fun _ => rfl⟩ ?_
        · intro w; go_simp
        try simp only [Act.put, List.setIfInBounds_toArray, List.set_cons_zero, List.set_cons_succ]
        refine takeIn (i := 4) (n := 29) (v := .int .u64 (q : Int)) rfl rfl rfl (by kernel_rfl) (by kernel_rfl) (by kernel_rfl) (fun _ _ _ h => h) ⟨Or.inl ⟨by rfl, ?_⟩, fun _ => rfl⟩ ?_
        · intro w; go_simp
        try simp only [Act.put, List.setIfInBounds_toArray, List.set_cons_zero, List.set_cons_succ]
        refine wpAnyIn_ready (rs := [0, 5]) (by kernel_rfl) (by simp) ?_
        refine AllReadyIn.cons rfl (fun K hK => ?_) (AllReadyIn.cons rfl (fun K hK => ?_) AllReadyIn.nil)
        · go_simp
          refine hK _ _ ?_
          clear hK K
          refine wpAnyIn_ready (rs := [5]) (by kernel_rfl) (by simp) ?_
          refine AllReadyIn.cons rfl (fun K hK => ?_) AllReadyIn.nil
          go_simp
          refine ⟨trivial, ?_⟩
          refine (callsIn_wide.2 (multiplyAdd_any _ _ _ lf ly hq _)).mono ?_
          rintro e w' ⟨rfl, rfl⟩
          refine hK _ _ ?_
          clear hK K
          try simp only [Act.put, List.setIfInBounds_toArray, List.set_cons_zero, List.set_cons_succ]
          refine takeIn (i := 6) (n := 24) (v := .tuple #[(.int .u64 (Go.Proofs.YtkggfeemjabdeaaGreatDoor.lo (fj * y + q) : Nat)), (.int .u64 (Go.Proofs.YtkggfeemjabdeaaGreatDoor.hi (fj * y + q) : Nat))]) rfl rfl rfl (by kernel_rfl) (by kernel_rfl) (by kernel_rfl) (fun _ _ _ h => h) ⟨Or.inl ⟨by rfl, ?_⟩, fun _ => rfl⟩ ?_
          · intro w; go_simp
          try simp only [Act.put, List.setIfInBounds_toArray, List.set_cons_zero, List.set_cons_succ]
          refine takeIn (i := 7) (n := 31) (v := (.int .u64 (Go.Proofs.YtkggfeemjabdeaaGreatDoor.lo (fj * y + q) : Nat))) rfl rfl rfl (by kernel_rfl) (by kernel_rfl) (by kernel_rfl) (fun _ _ _ h => h) ⟨Or.inl ⟨by rfl, ?_⟩, fun _ => rfl⟩ ?_
          · intro w; go_simp
          try simp only [Act.put, List.setIfInBounds_toArray, List.set_cons_zero, List.set_cons_succ]
          refine takeIn (i := 8) (n := 32) (v := (.int .u64 (Go.Proofs.YtkggfeemjabdeaaGreatDoor.hi (fj * y + q) : Nat))) rfl rfl rfl (by kernel_rfl) (by kernel_rfl) (by kernel_rfl) (fun _ _ _ h => h) ⟨Or.inl ⟨by rfl, ?_⟩, fun _ => rfl⟩ ?_
          · intro w; go_simp
          try simp only [Act.put, List.setIfInBounds_toArray, List.set_cons_zero, List.set_cons_succ]
          refine wpAnyIn_ready (rs := [9]) (by kernel_rfl) (by simp) ?_
          refine AllReadyIn.cons rfl (fun K hK => ?_) AllReadyIn.nil
          go_simp
          refine hK _ _ ?_
          clear hK K
          try simp only [Act.put, List.setIfInBounds_toArray, List.set_cons_zero, List.set_cons_succ]
          refine wpAnyIn_ready (rs := [10]) (by kernel_rfl) (by simp) ?_
          refine AllReadyIn.cons rfl (fun K hK => ?_) AllReadyIn.nil
          go_simp
          refine hK _ _ ?_
          clear hK K
          try simp only [Act.put, List.setIfInBounds_toArray, List.set_cons_zero, List.set_cons_succ]
          refine takeIn (i := 11) (n := 4) (v := (.int .u64 (Go.Proofs.YtkggfeemjabdeaaGreatDoor.hi (fj * y + q) : Nat))) rfl rfl rfl (by kernel_rfl) (by kernel_rfl) (by kernel_rfl) (fun _ _ _ h => h) ⟨Or.inl ⟨by rfl, ?_⟩, fun _ => rfl⟩ ?_
          · intro w; go_simp
          try simp only [Act.put, List.setIfInBounds_toArray, List.set_cons_zero, List.set_cons_succ]
          refine wpAnyIn_done (by kernel_rfl) ?_ _
          gi_wp2
          have hm2 := mad_lt lf ly hq
          refine ⟨⟨j + 1, Go.Proofs.YtkggfeemjabdeaaGreatDoor.hi (fj * y + q), upd h j (Go.Proofs.YtkggfeemjabdeaaGreatDoor.lo (fj * y + q)), by omega, rfl, rfl, hi_lt hm2, ?_, upd_lim HL.out (lo_lt _), fun p hp hpm => ?_, ownsRow_set HR.out _ _, ?_⟩, ?_⟩
          · rw [val_upd_succ, Nat.pow_succ]
            show _ = (val f j + f j * R64 ^ j) * y + x
            have h5 := lo_hi (fj * y + q)
            have h6 := HV.out
            rw [HFJ.out, Nat.add_mul]
            calc val h j + Go.Proofs.YtkggfeemjabdeaaGreatDoor.lo (fj * y + q) * R64 ^ j + Go.Proofs.YtkggfeemjabdeaaGreatDoor.hi (fj * y + q) * (R64 ^ j * R64)
                = val h j + (Go.Proofs.YtkggfeemjabdeaaGreatDoor.lo (fj * y + q) + R64 * Go.Proofs.YtkggfeemjabdeaaGreatDoor.hi (fj * y + q)) * R64 ^ j := by rw [Nat.add_mul, Nat.add_assoc]; congr 2; ac_rfl
              _ = val h j + (fj * y + q) * R64 ^ j := by rw [h5]
              _ = (val h j + q * R64 ^ j) + fj * y * R64 ^ j := by rw [Nat.add_mul]; omega
              _ = val f j * y + x + fj * y * R64 ^ j := by rw [h6]
              _ = val f j * y + fj * R64 ^ j * y + x := by rw [show fj * y * R64 ^ j = fj * R64 ^ j * y from by ac_rfl]; omega
          · rw [upd_ne _ _ (by omega)]; exact HT.out p (by omega) hpm
          · exact HG.out.trans (grownBy_set wr g j _)
          · simp [intOf]; omega
        · go_simp
          refine ⟨trivial, ?_⟩
          refine (callsIn_wide.2 (multiplyAdd_any _ _ _ lf ly hq _)).mono ?_
          rintro e w' ⟨rfl, rfl⟩
          refine hK _ _ ?_
          clear hK K
          try simp only [Act.put, List.setIfInBounds_toArray, List.set_cons_zero, List.set_cons_succ]
          refine takeIn (i := 6) (n := 24) (v := .tuple #[(.int .u64 (Go.Proofs.YtkggfeemjabdeaaGreatDoor.lo (fj * y + q) : Nat)), (.int .u64 (Go.Proofs.YtkggfeemjabdeaaGreatDoor.hi (fj * y + q) : Nat))]) rfl rfl rfl (by kernel_rfl) (by kernel_rfl) (by kernel_rfl) (fun _ _ _ h => h) ⟨Or.inl ⟨by rfl, ?_⟩, fun _ => rfl⟩ ?_
          · intro w; go_simp
          try simp only [Act.put, List.setIfInBounds_toArray, List.set_cons_zero, List.set_cons_succ]
          refine takeIn (i := 7) (n := 31) (v := (.int .u64 (Go.Proofs.YtkggfeemjabdeaaGreatDoor.lo (fj * y + q) : Nat))) rfl rfl rfl (by kernel_rfl) (by kernel_rfl) (by kernel_rfl) (fun _ _ _ h => h) ⟨Or.inl ⟨by rfl, ?_⟩, fun _ => rfl⟩ ?_
          · intro w; go_simp
          try simp only [Act.put, List.setIfInBounds_toArray, List.set_cons_zero, List.set_cons_succ]
          refine takeIn (i := 8) (n := 32) (v := (.int .u64 (Go.Proofs.YtkggfeemjabdeaaGreatDoor.hi (fj * y + q) : Nat))) rfl rfl rfl (by kernel_rfl) (by kernel_rfl) (by kernel_rfl) (fun _ _ _ h => h) ⟨Or.inl ⟨by rfl, ?_⟩, fun _ => rfl⟩ ?_
          · intro w; go_simp
          try simp only [Act.put, List.setIfInBounds_toArray, List.set_cons_zero, List.set_cons_succ]
          refine wpAnyIn_ready (rs := [0]) (by kernel_rfl) (by simp) ?_
          refine AllReadyIn.cons rfl (fun K hK => ?_) AllReadyIn.nil
          go_simp
          refine hK _ _ ?_
          clear hK K
          try simp only [Act.put, List.setIfInBounds_toArray, List.set_cons_zero, List.set_cons_succ]
          refine wpAnyIn_ready (rs := [9]) (by kernel_rfl) (by simp) ?_
          refine AllReadyIn.cons rfl (fun K hK => ?_) AllReadyIn.nil
          go_simp
          refine hK _ _ ?_
          clear hK K
          try simp only [Act.put, List.setIfInBounds_toArray, List.set_cons_zero, List.set_cons_succ]
          refine wpAnyIn_ready (rs := [10]) (by kernel_rfl) (by simp) ?_
          refine AllReadyIn.cons rfl (fun K hK => ?_) AllReadyIn.nil
          go_simp
          refine hK _ _ ?_
          clear hK K
          try simp only [Act.put, List.setIfInBounds_toArray, List.set_cons_zero, List.set_cons_succ]
          refine takeIn (i := 11) (n := 4) (v := (.int .u64 (Go.Proofs.YtkggfeemjabdeaaGreatDoor.hi (fj * y + q) : Nat))) rfl rfl rfl (by kernel_rfl) (by kernel_rfl) (by kernel_rfl) (fun _ _ _ h => h) ⟨Or.inl ⟨by rfl, ?_⟩, fun _ => rfl⟩ ?_
          · intro w; go_simp
          try simp only [Act.put, List.setIfInBounds_toArray, List.set_cons_zero, List.set_cons_succ]
          refine wpAnyIn_done (by kernel_rfl) ?_ _
          gi_wp2
          have hm2 := mad_lt lf ly hq
          refine ⟨⟨j + 1, Go.Proofs.YtkggfeemjabdeaaGreatDoor.hi (fj * y + q), upd h j (Go.Proofs.YtkggfeemjabdeaaGreatDoor.lo (fj * y + q)), by omega, rfl, rfl, hi_lt hm2, ?_, upd_lim HL.out (lo_lt _), fun p hp hpm => ?_, ownsRow_set HR.out _ _, ?_⟩, ?_⟩
          · rw [val_upd_succ, Nat.pow_succ]
            show _ = (val f j + f j * R64 ^ j) * y + x
            have h5 := lo_hi (fj * y + q)
            have h6 := HV.out
            rw [HFJ.out, Nat.add_mul]
            calc val h j + Go.Proofs.YtkggfeemjabdeaaGreatDoor.lo (fj * y + q) * R64 ^ j + Go.Proofs.YtkggfeemjabdeaaGreatDoor.hi (fj * y + q) * (R64 ^ j * R64)
                = val h j + (Go.Proofs.YtkggfeemjabdeaaGreatDoor.lo (fj * y + q) + R64 * Go.Proofs.YtkggfeemjabdeaaGreatDoor.hi (fj * y + q)) * R64 ^ j := by rw [Nat.add_mul, Nat.add_assoc]; congr 2; ac_rfl
              _ = val h j + (fj * y + q) * R64 ^ j := by rw [h5]
              _ = (val h j + q * R64 ^ j) + fj * y * R64 ^ j := by rw [Nat.add_mul]; omega
              _ = val f j * y + x + fj * y * R64 ^ j := by rw [h6]
              _ = val f j * y + fj * R64 ^ j * y + x := by rw [show fj * y * R64 ^ j = fj * R64 ^ j * y from by ac_rfl]; omega
          · rw [upd_ne _ _ (by omega)]; exact HT.out p (by omega) hpm
          · exact HG.out.trans (grownBy_set wr g j _)
          · simp [intOf]; omega
      · have hjm : j = m := by omega
        subst hjm
        by_cases hq0 : q = 0
        · subst hq0
          gi_wp2_with fail
          have hv2 : val h j = val f j * y + x := by have := HV.out; omega
          have hy1 : 0 < y := by rw [← HY.out]; exact Nat.pow_pos (by decide)
          refine ⟨⟨g, cap, j, HBX.out, h, HR.out, nrm_of H3.out HL.out (by rw [hv2]; exact Nat.le_trans (Nat.le_mul_of_pos_right _ hy1) (Nat.le_add_right _ _)), by rw [hv2, H4.out, dv_add, HX.out, HY.out], h5, by omega, H7.out.grown HG.out (H7.out.size) (fun k hk => by injection hk with hk; omega)⟩, fun b hb => HG.out.block b (by omega) (by intro e; injection e with e; omega)⟩
        · have hqz : ((q : Int) != 0) = true := by simpa using hq0
          gi_wp2_with (gi_at_builtin; go_loud (refine wpListIn_append_own_at _ rfl _ _ 60 rfl w.heap.size 78 i0 (.int .u64 0) 1 8 Tryz.underlying60 hi hz0 hz1 hz2 rfl (by decide) _ _ _ rfl (HR.out.alloc _) ⟨wr.heap.size, 0, none⟩ 1 1 [.int .u64 (q : Int)] rfl rfl (cell_one_new _ _ _) ?c2 ?c3 ?c4 ?c5 ?_))
          case c2 => intro u hu; simp at hu; subst hu; rfl
          case c3 => unfold maxLen; omega
          case c4 => omega
          case c5 => have := HG.out.size; simp; omega
          intro v' w' hrow hg hnil hob
          have HROW := Lib.hid hrow; have HGR := Lib.hid hg; have HOB := Lib.hid hob
          clear hrow hg hnil hob
          obtain ⟨g2, cap2, rfl⟩ := ownsRow_succ HROW.out
          have hgw : W.grownBy w' (some g) := (HG.out.trans (World.grownBy_alloc _ _ _)).trans HGR.out
          have hb2 : Boxed w' (w.heap.size + 1) 60 (.slice (some ⟨g, 0, none⟩) j cap) := H1.out.kept hgw (by intro e; injection e with e; omega)
          have HGW := Lib.hid hgw; have HB2 := Lib.hid hb2; clear hgw
          have cb2 := hb2.cell
          have zb2 := hb2.frozen
          clear hb2
          gi_wp2_with fail
          have hset := HB2.out.set (.slice (some ⟨g2, 0, none⟩) (j + 1) cap2)
          have hgs : w'.grownBy (w'.setCell ⟨w.heap.size + 1, 0, none⟩ (.slice (some ⟨g2, 0, none⟩) (j + 1) cap2)) (some (w.heap.size + 1)) := ⟨rfl, rfl, rfl, by simp [World.setCell], fun k _ hk => Below.heap_setCell _ _ _ _ (by intro e; exact hk (by rw [e]))⟩
          have hg2 : g2 = g ∨ w.heap.size + 4 < g2 := by
            rcases HOB.out with e | e
            · simp [Value.ownBlock] at e; exact .inl e
            · simp [Value.ownBlock] at e; have := HG.out.size; exact .inr (by omega)
          have hv2 : val (upd h j q) (j + 1) = val f j * y + x := by
            show val (upd h j q) j + (upd h j q) j * R64 ^ j = _
            rw [val_upd _ _ (Nat.le_refl _), upd_at]; exact HV.out
          have hrow2 : w'.ownsRow w.heap.size 78 1 (.slice (some ⟨g2, 0, none⟩) (j + 1) cap2) (j + 1) (cellsOf .u64 (upd h j q) (j + 1)) := by
            rw [cellsOf_succ, upd_at, show cellsOf .u64 (upd h j q) j = cellsOf .u64 h j from List.map_congr_left fun p hp => by rw [upd_ne _ _ (by have := List.mem_range.1 hp; omega)]]
            exact HROW.out
          have hnrm : Nrm (upd h j q) (j + 1) := ⟨fun p hp => by
            by_cases e : p = j
            · subst e; rw [upd_at]; exact hq
            · rw [upd_ne _ _ e]; exact HL.out p (by omega), .inr (by rw [Nat.add_sub_cancel, upd_at]; exact hq0)⟩
          refine ⟨⟨g2, cap2, j + 1, hset, upd h j q, hrow2.kept hgs (.inr (by intro e; simp [Value.ownBlock] at e; omega)), hnrm, by rw [hv2, H4.out, dv_add, HX.out, HY.out], by omega, by have := HK.out; omega, (H7.out.grown HGW.out H7.out.size (fun k hk => by injection hk with hk; omega)).setCell (by show w.heap.size ≤ w.heap.size + 1; omega) _⟩, fun b hb => ?_⟩
          rw [Below.heap_setCell _ _ _ _ (by show b ≠ w.heap.size + 1; omega)]
          exact HGW.out.block b (by omega) (by intro e; injection e with e; omega)
  case done =>
    rintro W ⟨g, cap, m, f, h1, h2, h3, h4, h5, h6, h7⟩ hK
    have c1 := h1.cell
    rw [hsz] at hK
    gi_wp2
    refine ⟨by simp, .inl ⟨_, _, rfl, run_takeDeferred hK, ?_⟩⟩
    have hg3 := grownBy_putObj' W (w.heap.size + 3) (.deferred none)
    refine ⟨_, results_tmp rfl _ _ _, _, rfl, ⟨m, f, Own.of_ownsRow (h2.kept hg3 (.inr (by intro e2; simp [Value.ownBlock] at e2; omega))), h3, h4⟩, h7.grown hg3 h7.size (fun k hk => by injection hk with hk; omega)⟩
/-- parse: the number of some digits. -/
theorem parse_any (s : ByteArray) (w : World) (hs : s.size ≤ 2000) (hd : ∀ j, j < s.size → Dig (s.get! j)) (ht : Tens w) :
    Calls Tryz.prog 31 #[.string s] w fun e w' => ∃ v, e = .returned v ∧ NatOwn w' w.heap.size v (dv s 0 s.size) ∧ Below w.heap.size w w' :=
  callsIn_wide.1 (parse_in s w hs hd ht)
end Go.Proofs.YtkggfeemjabdeaaGreatDoor
