/- Functions that return a fraction and an error; what is tried. The closures that are tried: sums, differences, products, quotients. attempt on closures of two fractions, for the executor. The exported functions of two fractions: contexts. The exported functions of two fractions: what they answer. Make and Ratio: what they answer. Lists of fractions: what they are in memory; openList. The fractions' laws as mathematics: sums and products in any order. The order of fractions, as mathematics. -/
import Derived.Deep.OwnRows
import Derived.Test.YtkggfeemjabdeaaGreatDoorPa7
import Derived.Test.YtkggfeemjabdeaaGreatDoorPa29
section
namespace Go.Proofs.YtkggfeemjabdeaaGreatDoor.Wc
open Go Go.Proofs.YtkggfeemjabdeaaGreatDoor.Sx Go.RowKit

def badO : V := .tup (.cons (.agg (.cons .nils (.cons .nils .nil))) (.cons (.i .i64 (.c 2)) .nil))
def okO (n : Nat) : V := .tup (.cons (ratV n) (.cons (.i .i64 (.c 0)) .nil))
def ctrO (f : FuncId) (m : List V → List (Nat × Sx.Row) → Option Q) : Ctr :=
  ⟨f, fun args σ => if σ.W.isEmpty && σ.R.all (fun p => !p.2.own) then match m args σ.R with
    | some q => if St.ok { σ with R := (σ.fr, numRow q.num) :: σ.R, fr := σ.fr + 1, F := σ.F } then some (musts σ q.need ++ (if q.ok = .tt then [] else [⟨.val badO, { σ with F := .not q.ok :: (news σ.F q.need ++ σ.F) }⟩]) ++
      [⟨.val (okO σ.fr), { σ with R := (σ.fr + 1, numRow q.den) :: (σ.fr, numRow q.num) :: σ.R, fr := σ.fr + 2, F := q.ok :: (q.facts ++ news σ.F q.need ++ σ.F) }⟩]) else none
    | none => none
    else none⟩
def OOk (TT : Tb) (P : Program) (f : FuncId) (m : List V → List (Nat × Sx.Row) → Option Q) : Prop :=
  ∀ args R q ρ base w w0, m args R = some q → TT.tab ρ.g ρ.h ρ.k ρ.m → TT.J w0 → Below w0.heap.size w0 w → (∀ e ∈ q.need, e.B ρ = true) → (∀ x r, findR R x = some r → r.at ρ base w (ρ.v x)) →
    Calls P f (arr ρ args) w fun e w' => Below w.heap.size w w' ∧
      (q.ok.B ρ = true → (∀ e ∈ q.facts, e.B ρ = true) ∧ ∃ u1 u2, e = .returned (.tuple #[.agg #[u1, u2], .int .i64 0]) ∧ NatV w' u1 (q.num.I ρ).toNat ∧ NatV w' u2 (q.den.I ρ).toNat ∧ SrcR ρ R w u1 ∧ SrcR ρ R w u2) ∧
      (q.ok.B ρ = false → e = .returned (badO.den ρ))
theorem ctrO_ok {TT : Tb} {P : Program} {f : FuncId} {m : List V → List (Nat × Sx.Row) → Option Q} (hTT : ∀ g h k m, TT.tab g h k m → WTab g h k m)
    (h : OOk TT P f m) : CtrOk TT P (ctrO f m) := by
  intro args σ outs hr hok ha ρ w0 w R hs hg
  simp only [ctrO] at hr
  split at hr
  case isFalse => cases hr
  rename_i hc
  simp only [Bool.and_eq_true, List.isEmpty_iff, List.all_eq_true, Bool.not_eq_true'] at hc
  obtain ⟨hW, hown⟩ := hc
  split at hr
  case h_2 => cases hr
  rename_i q hm
  split at hr
  case isFalse => cases hr
  rename_i hok1
  cases hr
  have hbel := hs.below hW
  have hn : ∀ e ∈ q.need, e.B ρ = true := fun e he =>
    musts_ok hs (fun u hu e hue => by
      have := hg u (List.mem_append.2 (.inl (List.mem_append.2 (.inl hu)))) ρ w (Ext.refl _ _) (by
        obtain ⟨e', -, rfl⟩ := List.mem_map.1 hu
        exact hs)
      rw [hue] at this
      exact this) e he
  have hR := (ok_parts hok).2.2.2.2
  have hw := hTT _ _ _ _ hs.tab.1
  refine (h args σ.R q ρ w0.heap.size w w0 hm hs.tab.1 hs.tab.2 hbel hn fun x r hf => hs.row _ (findR_mem hf)).mono fun e w' ⟨hb, h1, h2⟩ => ?_
  have hF0 : holds ρ (news σ.F q.need ++ σ.F) := fun e he => by
    rcases List.mem_append.1 he with he | he
    · exact hn e (List.mem_filter.1 he).1
    · exact hs.fact e he
  cases hqo : q.ok.B ρ with
  | false =>
    have he := h2 hqo
    have hne : q.ok ≠ .tt := fun e => by rw [e] at hqo; cases hqo
    subst he
    exact hg ⟨.val badO, _⟩ (List.mem_append.2 (.inl (List.mem_append.2 (.inr (by rw [if_neg hne]; exact List.mem_cons_self))))) ρ w' (Ext.refl _ _) ((hs.step hb).withF fun e he => by
      rcases List.mem_cons.1 he with rfl | he
      · simp [hqo]
      · exact hF0 e he)
  | true =>
    obtain ⟨hfa, u1, u2, rfl, v1, v2, s1, s2⟩ := h1 hqo
    have hF' : holds ρ (q.ok :: (q.facts ++ news σ.F q.need ++ σ.F)) := fun e he => by
      rcases List.mem_cons.1 he with rfl | he
      · exact hqo
      · rw [List.append_assoc] at he
        rcases List.mem_append.1 he with he | he
        · exact hfa e he
        · exact hF0 e he
    have hx1 := nameV_ext ρ σ.fr u1
    have hs1 := sees_res (R' := σ.R) (r := numRow q.num) (F' := σ.F) hs hok hb u1 (at_of_natV hw.m2 v1) (fun p hp => hp) (fun b hbb => by
      rcases s1 b hbb with h3 | ⟨x, r', hf, hxb⟩
      · exact .inl h3
      · exact .inr ⟨rfl, (x, r'), findR_mem hf, hxb, fun q hq _ => hown q hq⟩) hs.fact
    have e2 : (q.den.I (ρ.nameV σ.fr u1)) = q.den.I ρ := nameV_I _ _ _ _
    have hs2 := sees_more (σ := σ) (σ1 := { σ with R := (σ.fr, numRow q.num) :: σ.R, fr := σ.fr + 1, F := σ.F }) (r := numRow q.den) (F' := q.ok :: (q.facts ++ news σ.F q.need ++ σ.F)) hs hs1 hok1 rfl (fun p hp => blk_ext hx1 ((ok_parts hok).2.1 p hp).1) hs.size
      (fun p hp => by
        rcases List.mem_cons.1 hp with rfl | hp
        · rfl
        · exact hown p hp) u2 (at_of_natV (by exact hw.m2) (by rw [e2]; exact v2)) rfl (fun b hbb => by
        rcases s2 b hbb with h3 | ⟨x, r', hf, hxb⟩
        · exact .inl h3
        · refine .inr ⟨(x, r'), List.mem_cons_of_mem _ (findR_mem hf), ?_⟩
          rw [hx1.v _ (hR _ (findR_mem hf)).1]; exact hxb) (fun e he => by rw [nameV_B]; exact hF' e he)
    have := hg ⟨.val (okO σ.fr), _⟩ (List.mem_append.2 (.inr List.mem_cons_self)) _ w' (hx1.trans (nameV_ext _ (σ.fr + 1) u2) (by omega)) hs2
    simp only [okO, den_tup, den_i, I_c, ratV, den_agg, dens_cons, dens_nil, den_rsl] at this
    have a1 : ((ρ.nameV σ.fr u1).nameV (σ.fr + 1) u2).v σ.fr = u1 := by simp [Env.nameV]
    have a2 : ((ρ.nameV σ.fr u1).nameV (σ.fr + 1) u2).v (σ.fr + 1) = u2 := by simp [Env.nameV]
    rw [a1, a2, asSl_at (at_of_natV (a := q.num) (base := 0) hw.m2 v1), asSl_at (at_of_natV (a := q.den) (base := 0) hw.m2 v2)] at this
    exact this

/-- the contract of open. -/
def openM : List V → List (Nat × Sx.Row) → Option Q
  | [.agg (.cons (.s n) (.cons (.s d) .nil))], _ => some { need := [.le (.len n) (.c 9223372036854775807), .le (.len d) (.c 9223372036854775807)], num := .app 6 (e1 n), den := .app 6 (e1 d), ok := .happ 20 (e2 n d), facts := [goodE (.app 6 (e1 n)) (.app 6 (e1 d))] }
  | _, _ => none
theorem open_ctr {TT : Tb} (hTT : ∀ g h k m, TT.tab g h k m → WTab g h k m) (hJ : ∀ w, TT.J w → Tens w) : OOk TT Tryz.prog 37 openM := by
  intro args R q ρ base w w0 hm htab hj hbel hneed hrows
  unfold openM at hm
  split at hm
  case h_2 => cases hm
  rename_i n d
  cases hm
  have hw := hTT _ _ _ _ htab
  have h1 := hneed (.le (.len n) (.c 9223372036854775807)) (by simp); have h2 := hneed (.le (.len d) (.c 9223372036854775807)) (by simp)
  simp only [B_le, I_len, I_c, decide_eq_true_eq] at h1 h2
  have hv : (E.happ 20 (e2 n d)).B ρ = validP (n.S ρ) (d.S ρ) := by
    rw [B_happ, hw.h]
    rfl
  have en : (E.app 6 (e1 n)).I ρ = (num (n.S ρ) : Nat) := by rw [I_app, hw.g]; rfl
  have ed : (E.app 6 (e1 d)).I ρ = (num (d.S ρ) : Nat) := by rw [I_app, hw.g]; rfl
  refine (open_any (n.S ρ) (d.S ρ) w (by unfold maxLen; omega) (by unfold maxLen; omega) (fun j hj' => cell_later hbel (hJ w0 hj j hj'))).mono fun e w' h => ?_
  obtain ⟨k1, k2, k3⟩ := h
  refine ⟨k1, fun ht => ?_, fun hf => ?_⟩
  · simp only at ht
    rw [hv] at ht
    obtain ⟨u1, u2, l1, l2, l3, l4, l5⟩ := k2 ht
    have hF := valid_frt ht
    refine ⟨?_, u1, u2, l1, by simp only [en]; exact l2, by simp only [ed]; exact l3, fun b hb => ?_, fun b hb => ?_⟩
    · intro e he
      simp only [List.mem_cons, List.not_mem_nil, or_false] at he
      subst he
      exact goodE_of hw (by rw [en]; omega) (by rw [ed]; omega) (by rw [en, ed]; exact hF.fr) (by rw [en]; exact hF.n) (by rw [ed]; exact hF.d)
    · rcases l4 b hb with h | ⟨u, hu, -⟩
      · exact .inl h
      · cases hu
    · rcases l5 b hb with h | ⟨u, hu, -⟩
      · exact .inl h
      · cases hu
  · simp only at hf
    rw [hv] at hf
    rw [k3 hf]
    rfl
end Go.Proofs.YtkggfeemjabdeaaGreatDoor.Wc
end
section
namespace Go.Proofs.YtkggfeemjabdeaaGreatDoor.Wc
open Go Go.Proofs.YtkggfeemjabdeaaGreatDoor.Sx Go.RowKit

theorem addF_fr {x y : Nat × Nat} (hx : Fr x) (hy : Fr y) : Fr (addF x y) := low_fr (Nat.mul_pos hx.pos hy.pos)
theorem subF_fr {x y : Nat × Nat} (hx : Fr x) (hy : Fr y) : Fr (subF x y) := low_fr (Nat.mul_pos hx.pos hy.pos)
theorem mulF_fr {x y : Nat × Nat} (hx : Fr x) (hy : Fr y) : Fr (mulF x y) := low_fr (Nat.mul_pos hx.pos hy.pos)
theorem fits_frt {x : Nat × Nat} (h : Fr x) (hf : fitsF x = true) : FrT x := by
  unfold fitsF at hf
  simp only [Bool.and_eq_true, fit1_t] at hf
  exact ⟨h, hf.1, hf.2⟩
/-- What a closure of two fractions comes to. -/
def CloP (f : Nat × Nat) (w : World) (e : Ending) (w' : World) : Prop :=
  Below w.heap.size w w' ∧ (fitsF f = true → e = .returned (.agg #[.string (dec f.1), .string (dec f.2)])) ∧ (fitsF f = false → e = .panicked [{ v := errV4, recovered := false }])
structure At2 (w : World) (p : Nat) (x : Nat × Nat) (v v' : Value) : Prop where
  c0 : w.cell? ⟨p, 0, none⟩ = some v
  c1 : w.cell? ⟨p, 1, none⟩ = some v'
  n : NatV w v x.1
  d : NatV w v' x.2
theorem At2.below {w w' : World} {p : Nat} {x : Nat × Nat} {v v' : Value} (h : At2 w p x v v') (hb : Below w.heap.size w w') : At2 w' p x v v' :=
  ⟨cell_later hb h.c0, cell_later hb h.c1, h.n.below hb, h.d.below hb⟩

set_option maxRecDepth 100000 in
set_option maxHeartbeats 1000000 in
theorem add_clo (x y : Nat × Nat) (v v' u u' : Value) (p q : Nat) (w : World) (hp : At2 w p x v v') (hq : At2 w q y u u') (hx : FrT x) (hy : FrT y) (ht : Tens w) :
    Calls Tryz.prog 60 #[.pointer (some ⟨p, 0, none⟩), .pointer (some ⟨q, 0, none⟩)] w (CloP (addF x y) w) := by
  obtain ⟨W, hW⟩ : ∃ W, W = w.alloc (.cells #[.string ⟨#[]⟩, .string ⟨#[]⟩] 24) := ⟨_, rfl⟩
  have hB : Below w.heap.size w W := by rw [hW]; exact (Below.refl _ _).alloc (Nat.le_refl _) _
  have hA0 : W.heap[w.heap.size]? = some (.cells #[.string ⟨#[]⟩, .string ⟨#[]⟩] 24 (0, 0)) := by rw [hW]; exact Go.Deep.blk_alloc_new _ _
  have hA := hp.below hB; have hC := hq.below hB
  have HT : Hid (Tens W) := Lib.hid (fun j hj => cell_later hB (ht j hj))
  have k0 := hA.c0; have k1 := hA.c1; have k2 := hC.c0; have k3 := hC.c1
  have HA := Lib.hid hA; have HC := Lib.hid hC; have HB := Lib.hid hB; have HA0 := Lib.hid hA0
  rw [hW] at k0 k1 k2 k3
  clear hA hC hB ht hp hq hA0
  go_enter Tryz.func60, Tryz.ntmps60
  go_wp2_with fail
  rw [← hW]
  refine (plus_rat x y v v' u u' W HA.out.n HA.out.d HC.out.n HC.out.d hx hy HT.out).mono ?_
  rintro e w1 ⟨hb, g1, g2⟩
  have G1 := Lib.hid g1; have G2 := Lib.hid g2; have HB1 := Lib.hid hb
  clear k0 k1 k2 k3 hW g1 g2
  have l0 : w.heap.size < W.heap.size := (Array.getElem?_eq_some_iff.1 HA0.out).1
  have hA1 := (hb.block _ l0).trans HA0.out
  clear hb
  cases hf : fitsF (addF x y) with
  | false =>
    obtain rfl := G2.out hf
    go_wp2_with fail
    exact ⟨rfl, HB.out.trans (HB1.out.mono HB.out.size), (fun h => by rw [hf] at h; cases h), fun _ => rfl⟩
  | true =>
    obtain ⟨u1, u2, rfl, n1, n2, -, -⟩ := G1.out hf
    have N1 := Lib.hid n1; have N2 := Lib.hid n2; have HF := Lib.hid hf; have HA1 := Lib.hid hA1
    clear n1 n2 hf hA1
    go_wp2_with fail
    refine (part_rat (addF x y) u1 u2 w1 N1.out N2.out (fits_frt (addF_fr hx.fr hy.fr) HF.out) (fun j hj => cell_later HB1.out (HT.out j hj))).mono ?_
    rintro e w2 ⟨rfl, hb2⟩
    have hA2 := (hb2.block _ (Array.getElem?_eq_some_iff.1 HA1.out).1).trans HA1.out
    have HB2 := Lib.hid hb2
    have c0 : w2.cell? ⟨w.heap.size, 0, none⟩ = some (.string ⟨#[]⟩) := by simp [World.cell?, hA2]
    have c1 : w2.cell? ⟨w.heap.size, 1, none⟩ = some (.string ⟨#[]⟩) := by simp [World.cell?, hA2]
    have f0 : w2.frozen? ⟨w.heap.size, 0, none⟩ = false := by simp [World.frozen?, hA2]
    have f1 : w2.frozen? ⟨w.heap.size, 1, none⟩ = false := by simp [World.frozen?, hA2]
    clear hA2 hb2
    generalize hd1 : dec (addF x y).1 = d1
    generalize hd2 : dec (addF x y).2 = d2
    have HD1 := Lib.hid hd1; have HD2 := Lib.hid hd2
    clear hd1 hd2
    go_wp2_with fail
    have r0 := World.cell?_setCell_same w2 ⟨w.heap.size, 0, none⟩ (.string d1) c0
    have r1 := World.cell?_setCell_same (w2.setCell ⟨w.heap.size, 0, none⟩ (.string d1)) ⟨w.heap.size, 1, none⟩ (.string d2) (by rw [World.cell?_setCell_other (h := by intro e; injection e with _ e; cases e)]; exact c1)
    refine bodyPost_ret (v := .agg #[.string d1, .string d2]) (by simp [results, r0, r1, Tryz.results60, go_sem]) rfl ⟨?_, fun _ => by rw [HD1.out, HD2.out], (fun h => by rw [HF.out] at h; cases h)⟩
    have hz : Below w.heap.size w w2 := HB.out.trans ((HB1.out.mono HB.out.size).trans (HB2.out.mono (Nat.le_trans HB.out.size HB1.out.size)))
    exact (hz.setCell (p := ⟨w.heap.size, 0, none⟩) (Nat.le_refl _) _).setCell (p := ⟨w.heap.size, 1, none⟩) (Nat.le_refl _) _
set_option maxRecDepth 100000 in
set_option maxHeartbeats 1000000 in
theorem sub_clo (x y : Nat × Nat) (v v' u u' : Value) (p q : Nat) (w : World) (hp : At2 w p x v v') (hq : At2 w q y u u') (hx : FrT x) (hy : FrT y) (hle : y.1 * x.2 ≤ x.1 * y.2) (ht : Tens w) :
    Calls Tryz.prog 48 #[.pointer (some ⟨p, 0, none⟩), .pointer (some ⟨q, 0, none⟩)] w (CloP (subF x y) w) := by
  obtain ⟨W, hW⟩ : ∃ W, W = w.alloc (.cells #[.string ⟨#[]⟩, .string ⟨#[]⟩] 24) := ⟨_, rfl⟩
  have hB : Below w.heap.size w W := by rw [hW]; exact (Below.refl _ _).alloc (Nat.le_refl _) _
  have hA0 : W.heap[w.heap.size]? = some (.cells #[.string ⟨#[]⟩, .string ⟨#[]⟩] 24 (0, 0)) := by rw [hW]; exact Go.Deep.blk_alloc_new _ _
  have hA := hp.below hB; have hC := hq.below hB
  have HT : Hid (Tens W) := Lib.hid (fun j hj => cell_later hB (ht j hj))
  have k0 := hA.c0; have k1 := hA.c1; have k2 := hC.c0; have k3 := hC.c1
  have HA := Lib.hid hA; have HC := Lib.hid hC; have HB := Lib.hid hB; have HA0 := Lib.hid hA0
  rw [hW] at k0 k1 k2 k3
  clear hA hC hB ht hp hq hA0
  go_enter Tryz.func48, Tryz.ntmps48
  go_wp2_with fail
  rw [← hW]
  refine (minus_rat x y v v' u u' W HA.out.n HA.out.d HC.out.n HC.out.d hx hy hle HT.out).mono ?_
  rintro e w1 ⟨hb, g1, g2⟩
  have G1 := Lib.hid g1; have G2 := Lib.hid g2; have HB1 := Lib.hid hb
  clear k0 k1 k2 k3 hW g1 g2
  have l0 : w.heap.size < W.heap.size := (Array.getElem?_eq_some_iff.1 HA0.out).1
  have hA1 := (hb.block _ l0).trans HA0.out
  clear hb
  cases hf : fitsF (subF x y) with
  | false =>
    obtain rfl := G2.out hf
    go_wp2_with fail
    exact ⟨rfl, HB.out.trans (HB1.out.mono HB.out.size), (fun h => by rw [hf] at h; cases h), fun _ => rfl⟩
  | true =>
    obtain ⟨u1, u2, rfl, n1, n2, -, -⟩ := G1.out hf
    have N1 := Lib.hid n1; have N2 := Lib.hid n2; have HF := Lib.hid hf; have HA1 := Lib.hid hA1
    clear n1 n2 hf hA1
    go_wp2_with fail
    refine (part_rat (subF x y) u1 u2 w1 N1.out N2.out (fits_frt (subF_fr hx.fr hy.fr) HF.out) (fun j hj => cell_later HB1.out (HT.out j hj))).mono ?_
    rintro e w2 ⟨rfl, hb2⟩
    have hA2 := (hb2.block _ (Array.getElem?_eq_some_iff.1 HA1.out).1).trans HA1.out
    have HB2 := Lib.hid hb2
    have c0 : w2.cell? ⟨w.heap.size, 0, none⟩ = some (.string ⟨#[]⟩) := by simp [World.cell?, hA2]
    have c1 : w2.cell? ⟨w.heap.size, 1, none⟩ = some (.string ⟨#[]⟩) := by simp [World.cell?, hA2]
    have f0 : w2.frozen? ⟨w.heap.size, 0, none⟩ = false := by simp [World.frozen?, hA2]
    have f1 : w2.frozen? ⟨w.heap.size, 1, none⟩ = false := by simp [World.frozen?, hA2]
    clear hA2 hb2
    generalize hd1 : dec (subF x y).1 = d1
    generalize hd2 : dec (subF x y).2 = d2
    have HD1 := Lib.hid hd1; have HD2 := Lib.hid hd2
    clear hd1 hd2
    go_wp2_with fail
    have r0 := World.cell?_setCell_same w2 ⟨w.heap.size, 0, none⟩ (.string d1) c0
    have r1 := World.cell?_setCell_same (w2.setCell ⟨w.heap.size, 0, none⟩ (.string d1)) ⟨w.heap.size, 1, none⟩ (.string d2) (by rw [World.cell?_setCell_other (h := by intro e; injection e with _ e; cases e)]; exact c1)
    refine bodyPost_ret (v := .agg #[.string d1, .string d2]) (by simp [results, r0, r1, Tryz.results48, go_sem]) rfl ⟨?_, fun _ => by rw [HD1.out, HD2.out], (fun h => by rw [HF.out] at h; cases h)⟩
    have hz : Below w.heap.size w w2 := HB.out.trans ((HB1.out.mono HB.out.size).trans (HB2.out.mono (Nat.le_trans HB.out.size HB1.out.size)))
    exact (hz.setCell (p := ⟨w.heap.size, 0, none⟩) (Nat.le_refl _) _).setCell (p := ⟨w.heap.size, 1, none⟩) (Nat.le_refl _) _
set_option maxRecDepth 100000 in
set_option maxHeartbeats 1000000 in
theorem mul_clo (x y : Nat × Nat) (v v' u u' : Value) (p q : Nat) (w : World) (hp : At2 w p x v v') (hq : At2 w q y u u') (hx : FrT x) (hy : FrT y) (ht : Tens w) :
    Calls Tryz.prog 62 #[.pointer (some ⟨p, 0, none⟩), .pointer (some ⟨q, 0, none⟩)] w (CloP (mulF x y) w) := by
  obtain ⟨W, hW⟩ : ∃ W, W = w.alloc (.cells #[.string ⟨#[]⟩, .string ⟨#[]⟩] 24) := ⟨_, rfl⟩
  have hB : Below w.heap.size w W := by rw [hW]; exact (Below.refl _ _).alloc (Nat.le_refl _) _
  have hA0 : W.heap[w.heap.size]? = some (.cells #[.string ⟨#[]⟩, .string ⟨#[]⟩] 24 (0, 0)) := by rw [hW]; exact Go.Deep.blk_alloc_new _ _
  have hA := hp.below hB; have hC := hq.below hB
  have HT : Hid (Tens W) := Lib.hid (fun j hj => cell_later hB (ht j hj))
  have k0 := hA.c0; have k1 := hA.c1; have k2 := hC.c0; have k3 := hC.c1
  have HA := Lib.hid hA; have HC := Lib.hid hC; have HB := Lib.hid hB; have HA0 := Lib.hid hA0
  rw [hW] at k0 k1 k2 k3
  clear hA hC hB ht hp hq hA0
  go_enter Tryz.func62, Tryz.ntmps62
  go_wp2_with fail
  rw [← hW]
  refine (times_rat x y v v' u u' W HA.out.n HA.out.d HC.out.n HC.out.d hx hy HT.out).mono ?_
  rintro e w1 ⟨hb, g1, g2⟩
  have G1 := Lib.hid g1; have G2 := Lib.hid g2; have HB1 := Lib.hid hb
  clear k0 k1 k2 k3 hW g1 g2
  have l0 : w.heap.size < W.heap.size := (Array.getElem?_eq_some_iff.1 HA0.out).1
  have hA1 := (hb.block _ l0).trans HA0.out
  clear hb
  cases hf : fitsF (mulF x y) with
  | false =>
    obtain rfl := G2.out hf
    go_wp2_with fail
    exact ⟨rfl, HB.out.trans (HB1.out.mono HB.out.size), (fun h => by rw [hf] at h; cases h), fun _ => rfl⟩
  | true =>
    obtain ⟨u1, u2, rfl, n1, n2, -, -⟩ := G1.out hf
    have N1 := Lib.hid n1; have N2 := Lib.hid n2; have HF := Lib.hid hf; have HA1 := Lib.hid hA1
    clear n1 n2 hf hA1
    go_wp2_with fail
    refine (part_rat (mulF x y) u1 u2 w1 N1.out N2.out (fits_frt (mulF_fr hx.fr hy.fr) HF.out) (fun j hj => cell_later HB1.out (HT.out j hj))).mono ?_
    rintro e w2 ⟨rfl, hb2⟩
    have hA2 := (hb2.block _ (Array.getElem?_eq_some_iff.1 HA1.out).1).trans HA1.out
    have HB2 := Lib.hid hb2
    have c0 : w2.cell? ⟨w.heap.size, 0, none⟩ = some (.string ⟨#[]⟩) := by simp [World.cell?, hA2]
    have c1 : w2.cell? ⟨w.heap.size, 1, none⟩ = some (.string ⟨#[]⟩) := by simp [World.cell?, hA2]
    have f0 : w2.frozen? ⟨w.heap.size, 0, none⟩ = false := by simp [World.frozen?, hA2]
    have f1 : w2.frozen? ⟨w.heap.size, 1, none⟩ = false := by simp [World.frozen?, hA2]
    clear hA2 hb2
    generalize hd1 : dec (mulF x y).1 = d1
    generalize hd2 : dec (mulF x y).2 = d2
    have HD1 := Lib.hid hd1; have HD2 := Lib.hid hd2
    clear hd1 hd2
    go_wp2_with fail
    have r0 := World.cell?_setCell_same w2 ⟨w.heap.size, 0, none⟩ (.string d1) c0
    have r1 := World.cell?_setCell_same (w2.setCell ⟨w.heap.size, 0, none⟩ (.string d1)) ⟨w.heap.size, 1, none⟩ (.string d2) (by rw [World.cell?_setCell_other (h := by intro e; injection e with _ e; cases e)]; exact c1)
    refine bodyPost_ret (v := .agg #[.string d1, .string d2]) (by simp [results, r0, r1, Tryz.results62, go_sem]) rfl ⟨?_, fun _ => by rw [HD1.out, HD2.out], (fun h => by rw [HF.out] at h; cases h)⟩
    have hz : Below w.heap.size w w2 := HB.out.trans ((HB1.out.mono HB.out.size).trans (HB2.out.mono (Nat.le_trans HB.out.size HB1.out.size)))
    exact (hz.setCell (p := ⟨w.heap.size, 0, none⟩) (Nat.le_refl _) _).setCell (p := ⟨w.heap.size, 1, none⟩) (Nat.le_refl _) _
set_option maxRecDepth 100000 in
set_option maxHeartbeats 1000000 in
theorem div_clo (x y : Nat × Nat) (v v' u u' : Value) (p q : Nat) (w : World) (hp : At2 w p x v v') (hq : At2 w q y u u') (hx : FrT x) (hy : FrT y) (hp0 : 0 < y.1) (ht : Tens w) :
    Calls Tryz.prog 64 #[.pointer (some ⟨p, 0, none⟩), .pointer (some ⟨q, 0, none⟩)] w (CloP (mulF x (y.2, y.1)) w) := by
  obtain ⟨W, hW⟩ : ∃ W, W = w.alloc (.cells #[.string ⟨#[]⟩, .string ⟨#[]⟩] 24) := ⟨_, rfl⟩
  have hB : Below w.heap.size w W := by rw [hW]; exact (Below.refl _ _).alloc (Nat.le_refl _) _
  have hA0 : W.heap[w.heap.size]? = some (.cells #[.string ⟨#[]⟩, .string ⟨#[]⟩] 24 (0, 0)) := by rw [hW]; exact Go.Deep.blk_alloc_new _ _
  have hA := hp.below hB; have hC := hq.below hB
  have HT : Hid (Tens W) := Lib.hid (fun j hj => cell_later hB (ht j hj))
  have k0 := hA.c0; have k1 := hA.c1; have k2 := hC.c0; have k3 := hC.c1
  have HA := Lib.hid hA; have HC := Lib.hid hC; have HB := Lib.hid hB; have HA0 := Lib.hid hA0
  rw [hW] at k0 k1 k2 k3
  clear hA hC hB ht hp hq hA0
  go_enter Tryz.func64, Tryz.ntmps64
  go_wp2_with fail
  rw [← hW]
  refine (over_rat x y v v' u u' W HA.out.n HA.out.d HC.out.n HC.out.d hx hy hp0 HT.out).mono ?_
  rintro e w1 ⟨hb, g1, g2⟩
  have G1 := Lib.hid g1; have G2 := Lib.hid g2; have HB1 := Lib.hid hb
  clear k0 k1 k2 k3 hW g1 g2
  have l0 : w.heap.size < W.heap.size := (Array.getElem?_eq_some_iff.1 HA0.out).1
  have hA1 := (hb.block _ l0).trans HA0.out
  clear hb
  cases hf : fitsF (mulF x (y.2, y.1)) with
  | false =>
    obtain rfl := G2.out hf
    go_wp2_with fail
    exact ⟨rfl, HB.out.trans (HB1.out.mono HB.out.size), (fun h => by rw [hf] at h; cases h), fun _ => rfl⟩
  | true =>
    obtain ⟨u1, u2, rfl, n1, n2, -, -⟩ := G1.out hf
    have N1 := Lib.hid n1; have N2 := Lib.hid n2; have HF := Lib.hid hf; have HA1 := Lib.hid hA1
    clear n1 n2 hf hA1
    go_wp2_with fail
    refine (part_rat (mulF x (y.2, y.1)) u1 u2 w1 N1.out N2.out (fits_frt (mulF_fr hx.fr ⟨hp0, by rw [Nat.gcd_comm]; exact hy.fr.cop⟩) HF.out) (fun j hj => cell_later HB1.out (HT.out j hj))).mono ?_
    rintro e w2 ⟨rfl, hb2⟩
    have hA2 := (hb2.block _ (Array.getElem?_eq_some_iff.1 HA1.out).1).trans HA1.out
    have HB2 := Lib.hid hb2
    have c0 : w2.cell? ⟨w.heap.size, 0, none⟩ = some (.string ⟨#[]⟩) := by simp [World.cell?, hA2]
    have c1 : w2.cell? ⟨w.heap.size, 1, none⟩ = some (.string ⟨#[]⟩) := by simp [World.cell?, hA2]
    have f0 : w2.frozen? ⟨w.heap.size, 0, none⟩ = false := by simp [World.frozen?, hA2]
    have f1 : w2.frozen? ⟨w.heap.size, 1, none⟩ = false := by simp [World.frozen?, hA2]
    clear hA2 hb2
    generalize hd1 : dec (mulF x (y.2, y.1)).1 = d1
    generalize hd2 : dec (mulF x (y.2, y.1)).2 = d2
    have HD1 := Lib.hid hd1; have HD2 := Lib.hid hd2
    clear hd1 hd2
    go_wp2_with fail
    have r0 := World.cell?_setCell_same w2 ⟨w.heap.size, 0, none⟩ (.string d1) c0
    have r1 := World.cell?_setCell_same (w2.setCell ⟨w.heap.size, 0, none⟩ (.string d1)) ⟨w.heap.size, 1, none⟩ (.string d2) (by rw [World.cell?_setCell_other (h := by intro e; injection e with _ e; cases e)]; exact c1)
    refine bodyPost_ret (v := .agg #[.string d1, .string d2]) (by simp [results, r0, r1, Tryz.results64, go_sem]) rfl ⟨?_, fun _ => by rw [HD1.out, HD2.out], (fun h => by rw [HF.out] at h; cases h)⟩
    have hz : Below w.heap.size w w2 := HB.out.trans ((HB1.out.mono HB.out.size).trans (HB2.out.mono (Nat.le_trans HB.out.size HB1.out.size)))
    exact (hz.setCell (p := ⟨w.heap.size, 0, none⟩) (Nat.le_refl _) _).setCell (p := ⟨w.heap.size, 1, none⟩) (Nat.le_refl _) _
end Go.Proofs.YtkggfeemjabdeaaGreatDoor.Wc
end
section
namespace Go.Proofs.YtkggfeemjabdeaaGreatDoor.Wc
open Go Go.Proofs.YtkggfeemjabdeaaGreatDoor.Sx Go.RowKit

/-- A closure of two fractions: which; the names of what it comes to; the fractions' order in them; what is asked. -/
structure TryD where
  clo : FuncId
  op : Nat
  args : E → E → E → E → E
  need : E → E → E → E → List E
def tryV (n : Nat) (l : E) : V := .tup (.cons (.agg (.cons (.s (.sapp n l)) (.cons (.s (.sapp (n + 1) l)) .nil))) (.cons (.i .i64 (.app (n + 10) l)) .nil))
def tryC (t : TryD) : Ctr :=
  ⟨47, fun args σ => if σ.W.isEmpty then match args with
    | [.fn (.func c) .nil (.cons (.ptr p 0 []) (.cons (.ptr q 0 []) .nil))] => if c = t.clo then
      match cellAt σ (.ptr p 0 []), cellAt σ (.ptr p 1 []), cellAt σ (.ptr q 0 []), cellAt σ (.ptr q 1 []) with
      | some v, some v', some u, some u' => match natA v σ.R, natA v' σ.R, natA u σ.R, natA u' σ.R with
        | some a, some b, some c, some d => some (musts σ ([goodE a b, goodE c d] ++ t.need a b c d) ++ [⟨.val (tryV t.op (t.args a b c d)), { σ with F := news σ.F ([goodE a b, goodE c d] ++ t.need a b c d) ++ σ.F }⟩])
        | _, _, _, _ => none
      | _, _, _, _ => none
      else none
    | _ => none
    else none⟩
theorem tryC_ok {TT : Tb} (hTT : ∀ g h k m, TT.tab g h k m → WTab g h k m) (hJ : ∀ w, TT.J w → Tens w) (t : TryD) (he : ∀ args w, (callFunc t.clo args).run Tryz.prog w = .ok (.enter t.clo args) w) (f : Nat × Nat → Nat × Nat → Nat × Nat) (C : Nat × Nat → Nat × Nat → Prop)
    (hclo : ∀ (x y : Nat × Nat) (v v' u u' : Value) (p q : Nat) (w : World), At2 w p x v v' → At2 w q y u u' → FrT x → FrT y → C x y → Tens w → Calls Tryz.prog t.clo #[.pointer (some ⟨p, 0, none⟩), .pointer (some ⟨q, 0, none⟩)] w (CloP (f x y) w))
    (hC : ∀ (ρ : Env) a b c d, (∀ e ∈ t.need a b c d, e.B ρ = true) → 0 ≤ a.I ρ → 0 ≤ b.I ρ → 0 ≤ c.I ρ → 0 ≤ d.I ρ → C ((a.I ρ).toNat, (b.I ρ).toNat) ((c.I ρ).toNat, (d.I ρ).toNat))
    (hv : ∀ (ρ : Env) a b c d, WTab ρ.g ρ.h ρ.k ρ.m → (tryV t.op (t.args a b c d)).den ρ = (let r := f ((a.I ρ).toNat, (b.I ρ).toNat) ((c.I ρ).toNat, (d.I ρ).toNat)
      .tuple #[.agg #[.string (if fitsF r then dec r.1 else ⟨#[]⟩), .string (if fitsF r then dec r.2 else ⟨#[]⟩)], .int .i64 (if fitsF r then 0 else 4)])) : CtrOk TT Tryz.prog (tryC t) := by
  intro args σ outs hr hok ha ρ w0 w R hs hg
  simp only [tryC] at hr
  split at hr
  case isFalse => cases hr
  rename_i hW
  have hW : σ.W = [] := by simpa using hW
  split at hr
  case h_2 => cases hr
  rename_i c p q
  split at hr
  case isFalse => cases hr
  rename_i hc
  subst hc
  split at hr
  case h_2 => cases hr
  rename_i v v' u u' kv kv' ku ku'
  split at hr
  case h_2 => cases hr
  rename_i a b c d na nb nc nd
  cases hr
  have hn : ∀ e ∈ ([goodE a b, goodE c d] ++ t.need a b c d), e.B ρ = true := fun e he =>
    musts_ok hs (fun u hu e hue => by
      have := hg u (List.mem_append.2 (.inl hu)) ρ w (Ext.refl _ _) (by
        obtain ⟨e', -, rfl⟩ := List.mem_map.1 hu
        exact hs)
      rw [hue] at this
      exact this) e he
  have hw := hTT _ _ _ _ hs.tab.1
  have hrows : ∀ x r, findR σ.R x = some r → r.at ρ w0.heap.size w (ρ.v x) := fun x r hf => hs.row _ (findR_mem hf)
  have cell : ∀ (b : Bk) (k : Nat) (z : V), cellAt σ (.ptr b k []) = some z → w.cell? ⟨ρ.blk b, k, none⟩ = some (z.den ρ) := fun b k z h => by
    obtain ⟨a, h1, -, h2⟩ := cellAt_ok hs h
    rw [den_ptr] at h1
    injection h1 with h1; injection h1 with h1
    rw [← h1] at h2
    exact h2
  obtain ⟨g1, g2, g3, g4, g5⟩ := goodE_ok hw (hn (goodE a b) (by simp))
  obtain ⟨g1', g2', g3', g4', g5'⟩ := goodE_ok hw (hn (goodE c d) (by simp))
  have hA : At2 w (ρ.blk p) ((a.I ρ).toNat, (b.I ρ).toNat) (v.den ρ) (v'.den ρ) := ⟨cell p 0 v kv, cell p 1 v' kv', natA_ok hw.m2 na hrows, natA_ok hw.m2 nb hrows⟩
  have hB : At2 w (ρ.blk q) ((c.I ρ).toNat, (d.I ρ).toNat) (u.den ρ) (u'.den ρ) := ⟨cell q 0 u ku, cell q 1 u' ku', natA_ok hw.m2 nc hrows, natA_ok hw.m2 nd hrows⟩
  have hten : Tens w := fun j hj => cell_later (hs.below hW) (hJ w0 hs.tab.2 j hj)
  have hcc := hC ρ a b c d (fun e he => hn e (List.mem_append.2 (.inr he))) g1 g2 g1' g2'
  generalize hr : f ((a.I ρ).toNat, (b.I ρ).toNat) ((c.I ρ).toNat, (d.I ρ).toNat) = r at *
  have key := attempt_part t.clo #[.pointer (some ⟨ρ.blk p, 0, none⟩), .pointer (some ⟨ρ.blk q, 0, none⟩)] he (fitsF r) (dec r.1) (dec r.2) w (fun W hb => by
    have := hclo _ _ _ _ _ _ _ _ W (hA.below hb) (hB.below hb) ⟨g3, g4, g5⟩ ⟨g3', g4', g5'⟩ hcc (fun j hj => cell_later hb (hten j hj))
    rw [hr] at this
    exact this)
  refine Calls.mono (show Calls Tryz.prog _ (arr ρ _) w _ from key) ?_
  rintro e w' ⟨rfl, hb⟩
  have := hg _ (List.mem_append.2 (.inr List.mem_cons_self)) ρ w' (Ext.refl _ _) ((hs.step hb).withF fun e he => by
    rcases List.mem_append.1 he with he | he
    · exact hn e (List.mem_filter.1 he).1
    · exact hs.fact e he)
  simp only at this
  rw [hv ρ a b c d hw, hr] at this
  exact this
end Go.Proofs.YtkggfeemjabdeaaGreatDoor.Wc
end
section
namespace Go.Proofs.YtkggfeemjabdeaaGreatDoor.Wc
open Go Go.Proofs.YtkggfeemjabdeaaGreatDoor.Sx Go.RowKit

def addT : TryD := ⟨60, 12, e4, fun _ _ _ _ => []⟩
def subT : TryD := ⟨48, 14, e4, fun a b c d => [.le (.mul c b) (.mul a d)]⟩
def mulT : TryD := ⟨62, 16, e4, fun _ _ _ _ => []⟩
def divT : TryD := ⟨64, 16, fun a b c d => e4 a b d c, fun _ _ c _ => [.lt (.c 0) c]⟩
def cmpR : List V → List (Nat × Sx.Row) → Option (List E × Res × List E)
  | [q, q'], R => match ratA q R, ratA q' R with
    | some (a, b), some (c, d) => some ([goodE a b, goodE c d], .val (.i .i64 (.ite (.lt (.mul a d) (.mul c b)) (.c (-1)) (.ite (.lt (.mul c b) (.mul a d)) (.c 1) (.c 0)))), [])
    | _, _ => none
  | _, _ => none
section
variable {TT : Tb} (hTT : ∀ g h k m, TT.tab g h k m → WTab g h k m) (hJ : ∀ w, TT.J w → Tens w)
include hTT hJ
theorem cmpR_ok : CtrJ TT Tryz.prog 46 cmpR := by
  intro args R nd r facts ρ base w w0 hm htab hj hbel hneed hrows
  unfold cmpR at hm
  split at hm
  case h_2 => cases hm
  rename_i q q'
  split at hm
  case h_2 => cases hm
  rename_i a b c d ha hb
  cases hm
  have hw := hTT _ _ _ _ htab
  obtain ⟨u1, u2, k1, k2, k3, -, -⟩ := ratA_ok hw.m2 ha hrows
  obtain ⟨u3, u4, l1, l2, l3, -, -⟩ := ratA_ok hw.m2 hb hrows
  obtain ⟨g1, g2, g3, g4, g5⟩ := goodE_ok hw (hneed (goodE a b) (by simp))
  obtain ⟨g1', g2', g3', g4', g5'⟩ := goodE_ok hw (hneed (goodE c d) (by simp))
  have earg : arr ρ [q, q'] = #[.agg #[u1, u2], .agg #[u3, u4]] := by simp [arr, k1, l1]
  rw [earg]
  refine (cmp_rat ((a.I ρ).toNat, (b.I ρ).toNat) ((c.I ρ).toNat, (d.I ρ).toNat) u1 u2 u3 u4 w k2 k3 l2 l3 ⟨g3, g4, g5⟩ ⟨g3', g4', g5'⟩ (fun j hj' => cell_later hbel (hJ w0 hj j hj'))).mono ?_
  rintro e w' ⟨rfl, hb'⟩
  refine ⟨hb', by simp, ?_⟩
  show Ending.returned (.int .i64 (cmpF _ _)) = .returned (V.den ρ (.i .i64 _))
  rw [den_i]
  congr 2
  simp only [I_ite, B_lt, I_c, I_mul, decide_eq_true_eq]
  unfold cmpF
  obtain ⟨a', ea⟩ := Int.eq_ofNat_of_zero_le g1
  obtain ⟨b', eb⟩ := Int.eq_ofNat_of_zero_le g2
  obtain ⟨c', ec⟩ := Int.eq_ofNat_of_zero_le g1'
  obtain ⟨d', ed⟩ := Int.eq_ofNat_of_zero_le g2'
  rw [ea, eb, ec, ed]
  simp only [Int.toNat_natCast, cmul]
  by_cases k1 : a' * d' < c' * b'
  · rw [if_pos k1, if_pos (Int.ofNat_lt.2 k1)]
  · rw [if_neg k1, if_neg (fun h => k1 (Int.ofNat_lt.1 h))]
    by_cases k2 : c' * b' < a' * d'
    · rw [if_neg (by omega), if_pos (Int.ofNat_lt.2 k2)]
    · rw [if_pos (by omega), if_neg (fun h => k2 (Int.ofNat_lt.1 h))]
/-- the contracts under an exported function that tries a closure. -/
def expCalls (t : TryD) : List Ctr := ctrO 37 openM :: tryC t :: ctrJ 46 cmpR :: openCalls
theorem expCalls_ok (t : TryD) (ht : CtrOk TT Tryz.prog (tryC t)) : ∀ q ∈ expCalls t, CtrOk TT Tryz.prog q := by
  intro q hq
  simp only [expCalls, List.mem_cons] at hq
  rcases hq with rfl | rfl | rfl | hq
  · exact ctrO_ok hTT (open_ctr hTT hJ)
  · exact ht
  · exact ctrJ_ok (cmpR_ok hTT hJ)
  · exact openCalls_ok hTT hJ q hq
theorem addT_ok : CtrOk TT Tryz.prog (tryC addT) := tryC_ok hTT hJ addT (enters_of Tryz.func60 (by kernel_rfl) rfl) addF (fun _ _ => True) (fun x y v v' u u' p q w h1 h2 h3 h4 _ h5 => add_clo x y v v' u u' p q w h1 h2 h3 h4 h5) (fun _ _ _ _ _ _ _ _ _ _ => trivial)
  (fun ρ a b c d hw => by simp [tryV, addT, e4, den_tup, den_agg, dens_cons, dens_nil, den_s, den_i, hw.k, hw.g, wk, wg, frA, frB, at4])
theorem mulT_ok : CtrOk TT Tryz.prog (tryC mulT) := tryC_ok hTT hJ mulT (enters_of Tryz.func62 (by kernel_rfl) rfl) mulF (fun _ _ => True) (fun x y v v' u u' p q w h1 h2 h3 h4 _ h5 => mul_clo x y v v' u u' p q w h1 h2 h3 h4 h5) (fun _ _ _ _ _ _ _ _ _ _ => trivial)
  (fun ρ a b c d hw => by simp [tryV, mulT, e4, den_tup, den_agg, dens_cons, dens_nil, den_s, den_i, hw.k, hw.g, wk, wg, frA, frB, at4])
theorem subT_ok : CtrOk TT Tryz.prog (tryC subT) := tryC_ok hTT hJ subT (enters_of Tryz.func48 (by kernel_rfl) rfl) subF (fun x y => y.1 * x.2 ≤ x.1 * y.2) (fun x y v v' u u' p q w h1 h2 h3 h4 hc h5 => sub_clo x y v v' u u' p q w h1 h2 h3 h4 hc h5)
  (fun ρ a b c d hn h1 h2 h3 h4 => by
    have := hn (.le (.mul c b) (.mul a d)) (by simp [subT])
    simp only [B_le, I_mul, decide_eq_true_eq] at this
    rw [← Int.ofNat_le, Int.natCast_mul, Int.natCast_mul, Int.toNat_of_nonneg h1, Int.toNat_of_nonneg h2, Int.toNat_of_nonneg h3, Int.toNat_of_nonneg h4]
    exact this)
  (fun ρ a b c d hw => by simp [tryV, subT, e4, den_tup, den_agg, dens_cons, dens_nil, den_s, den_i, hw.k, hw.g, wk, wg, frA, frB, at4])
theorem divT_ok : CtrOk TT Tryz.prog (tryC divT) := tryC_ok hTT hJ divT (enters_of Tryz.func64 (by kernel_rfl) rfl) (fun x y => mulF x (y.2, y.1)) (fun _ y => 0 < y.1) (fun x y v v' u u' p q w h1 h2 h3 h4 hc h5 => div_clo x y v v' u u' p q w h1 h2 h3 h4 hc h5)
  (fun ρ a b c d hn h1 h2 h3 h4 => by
    have := hn (.lt (.c 0) c) (by simp [divT])
    simp only [B_lt, I_c, decide_eq_true_eq] at this
    show 0 < (c.I ρ).toNat
    omega)
  (fun ρ a b c d hw => by simp [tryV, divT, e4, den_tup, den_agg, dens_cons, dens_nil, den_s, den_i, hw.k, hw.g, wk, wg, frA, frB, at4])
end
end Go.Proofs.YtkggfeemjabdeaaGreatDoor.Wc
end
section
namespace Go.Proofs.YtkggfeemjabdeaaGreatDoor.Wc
open Go Go.Proofs.YtkggfeemjabdeaaGreatDoor.Sx Go.RowKit

abbrev P2 := ByteArray × ByteArray
def pv (p : P2) : Nat × Nat := (num p.1, num p.2)
def okP (p : P2) : Bool := validP p.1 p.2
def emptyP : P2 := (⟨#[]⟩, ⟨#[]⟩)
def partV (p : P2) : Value := .agg #[.string p.1, .string p.2]
def retV (r : P2 × Int) : Value := .tuple #[partV r.1, .int .i64 r.2]
def resF (x : Nat × Nat) : P2 × Int := if fitsF x then ((dec x.1, dec x.2), 0) else (emptyP, 4)
def addS (a b : P2) : P2 × Int := if okP a && okP b then resF (addF (pv a) (pv b)) else (emptyP, 2)
def subS (a b : P2) : P2 × Int := if okP a && okP b then (if (pv a).1 * (pv b).2 < (pv b).1 * (pv a).2 then (emptyP, 11) else resF (subF (pv a) (pv b))) else (emptyP, 2)
def mulS (a b : P2) : P2 × Int := if okP a && okP b then resF (mulF (pv a) (pv b)) else (emptyP, 2)
def divS (a b : P2) : P2 × Int := if okP a && okP b then (if (pv b).1 = 0 then (emptyP, 10) else resF (mulF (pv a) ((pv b).2, (pv b).1))) else (emptyP, 2)
def cmpS (a b : P2) : Int := if okP a && okP b then cmpF (pv a) (pv b) else 0
def chkS (a : P2) : Int := if okP a then 0 else 2
def Short (p : P2) : Prop := p.1.size ≤ maxLen ∧ p.2.size ≤ maxLen
def fLen (n : Nat) : List E := (List.range n).map fun i => .le (.len (.sv i)) (.c 9223372036854775807)
def argP (i : Nat) : V := .agg (.cons (.s (.sv i)) (.cons (.s (.sv (i + 1))) .nil))
theorem fLen4 {a b : P2} (ha : Short a) (hb : Short b) : holds (envS [] [a.1, a.2, b.1, b.2]) (fLen 4) := by
  obtain ⟨h1, h2⟩ := ha; obtain ⟨h3, h4⟩ := hb
  unfold maxLen at h1 h2 h3 h4
  simp [holds, envS, fLen, List.range_succ]
  omega
theorem fLen2 {a : P2} (ha : Short a) : holds (envS [] [a.1, a.2]) (fLen 2) := by
  obtain ⟨h1, h2⟩ := ha
  unfold maxLen at h1 h2
  simp [holds, envS, fLen, List.range_succ]
  omega
theorem wh20 (l : LL) : wh 20 l = validP (fstS l) (sndS l) := rfl
theorem fstS_c (a : Int) (s : ByteArray) (l : LL) : fstS ((a, s) :: l) = s := rfl
theorem sndS_c (p q : Int × ByteArray) (l : LL) : sndS (p :: q :: l) = q.2 := rfl
theorem wg6 (l : LL) : wg 6 l = ((num (fstS l) : Nat) : Int) := rfl
theorem tryV_den {ρ : Env} (hw : WTab ρ.g ρ.h ρ.k ρ.m) {n : Nat} {l : E} {x : Nat × Nat} (h1 : ρ.k n (l.L ρ) = if fitsF x then dec x.1 else ⟨#[]⟩) (h2 : ρ.k (n + 1) (l.L ρ) = if fitsF x then dec x.2 else ⟨#[]⟩) (h3 : ρ.g (n + 10) (l.L ρ) = if fitsF x then 0 else 4) :
    (tryV n l).den ρ = retV (resF x) := by
  simp only [tryV, den_tup, den_agg, dens_cons, dens_nil, den_s, den_i, S_sapp, I_app, h1, h2, h3, retV, resF, partV]
  cases fitsF x <;> rfl
theorem addS_ok {a b : P2} (ha : okP a = true) (hb : okP b = true) : addS a b = resF (addF (pv a) (pv b)) := by unfold addS; rw [ha, hb]; exact if_pos rfl
theorem mulS_ok {a b : P2} (ha : okP a = true) (hb : okP b = true) : mulS a b = resF (mulF (pv a) (pv b)) := by unfold mulS; rw [ha, hb]; exact if_pos rfl
theorem subS_less {a b : P2} (ha : okP a = true) (hb : okP b = true) (h : (pv a).1 * (pv b).2 < (pv b).1 * (pv a).2) : subS a b = (emptyP, 11) := by unfold subS; rw [ha, hb]; exact (if_pos rfl).trans (if_pos h)
theorem subS_ok {a b : P2} (ha : okP a = true) (hb : okP b = true) (h : ¬ (pv a).1 * (pv b).2 < (pv b).1 * (pv a).2) : subS a b = resF (subF (pv a) (pv b)) := by unfold subS; rw [ha, hb]; exact (if_pos rfl).trans (if_neg h)
theorem divS_zero {a b : P2} (ha : okP a = true) (hb : okP b = true) (h : (pv b).1 = 0) : divS a b = (emptyP, 10) := by unfold divS; rw [ha, hb]; exact (if_pos rfl).trans (if_pos h)
theorem divS_ok {a b : P2} (ha : okP a = true) (hb : okP b = true) (h : ¬ (pv b).1 = 0) : divS a b = resF (mulF (pv a) ((pv b).2, (pv b).1)) := by unfold divS; rw [ha, hb]; exact (if_pos rfl).trans (if_neg h)
theorem Add_any (a b : P2) (w : World) (ha : Short a) (hb : Short b) (ht : Tens w) :
    Calls Tryz.prog 23 #[partV a, partV b] w fun e w' => e = .returned (retV (addS a b)) ∧ Below w.heap.size w w' := by
  refine sx_rows (TT := ttN []) (Γ := { calls := expCalls addT }) (expCalls_ok (fun _ _ _ _ h => h) (fun _ h => h) addT (addT_ok (fun _ _ _ _ h => h) (fun _ h => h))) 600 [argP 0, argP 2] [] (fLen 4) 10
    [⟨(.val (.tup (.cons (.agg (.cons (.s (.lit [])) (.cons (.s (.lit [])) .nil))) (.cons (.i .i64 (.c 2)) .nil)))), [(.not (.happ 20 (.cons (.sv 0) (.cons (.sv 1) .nil)))), (.le (.len (.sv 0)) (.c 9223372036854775807)), (.le (.len (.sv 1)) (.c 9223372036854775807)), (.le (.len (.sv 2)) (.c 9223372036854775807)), (.le (.len (.sv 3)) (.c 9223372036854775807))], []⟩,
⟨(.val (.tup (.cons (.agg (.cons (.s (.lit [])) (.cons (.s (.lit [])) .nil))) (.cons (.i .i64 (.c 2)) .nil)))), [(.not (.happ 20 (.cons (.sv 2) (.cons (.sv 3) .nil)))), (.happ 20 (.cons (.sv 0) (.cons (.sv 1) .nil))), (.happ 11 (.cons (.app 6 (.cons (.sv 0) .nil)) (.cons (.app 6 (.cons (.sv 1) .nil)) .nil))), (.le (.len (.sv 0)) (.c 9223372036854775807)), (.le (.len (.sv 1)) (.c 9223372036854775807)), (.le (.len (.sv 2)) (.c 9223372036854775807)), (.le (.len (.sv 3)) (.c 9223372036854775807))], []⟩,
⟨(.val (.tup (.cons (.agg (.cons (.s (.sapp 12 (.cons (.app 6 (.cons (.sv 0) .nil)) (.cons (.app 6 (.cons (.sv 1) .nil)) (.cons (.app 6 (.cons (.sv 2) .nil)) (.cons (.app 6 (.cons (.sv 3) .nil)) .nil)))))) (.cons (.s (.sapp 13 (.cons (.app 6 (.cons (.sv 0) .nil)) (.cons (.app 6 (.cons (.sv 1) .nil)) (.cons (.app 6 (.cons (.sv 2) .nil)) (.cons (.app 6 (.cons (.sv 3) .nil)) .nil)))))) .nil))) (.cons (.i .i64 (.app 22 (.cons (.app 6 (.cons (.sv 0) .nil)) (.cons (.app 6 (.cons (.sv 1) .nil)) (.cons (.app 6 (.cons (.sv 2) .nil)) (.cons (.app 6 (.cons (.sv 3) .nil)) .nil)))))) .nil)))), [(.happ 20 (.cons (.sv 2) (.cons (.sv 3) .nil))), (.happ 11 (.cons (.app 6 (.cons (.sv 2) .nil)) (.cons (.app 6 (.cons (.sv 3) .nil)) .nil))), (.happ 20 (.cons (.sv 0) (.cons (.sv 1) .nil))), (.happ 11 (.cons (.app 6 (.cons (.sv 0) .nil)) (.cons (.app 6 (.cons (.sv 1) .nil)) .nil))), (.le (.len (.sv 0)) (.c 9223372036854775807)), (.le (.len (.sv 1)) (.c 9223372036854775807)), (.le (.len (.sv 2)) (.c 9223372036854775807)), (.le (.len (.sv 3)) (.c 9223372036854775807))], []⟩]
    (by kernel_rfl) (envS [] [a.1, a.2, b.1, b.2]) rfl (by simp) (fLen4 ha hb) wtab ⟨?_, ?_, ?_⟩ ht
  all_goals
    intro ρ' w' hx' htab' hF hbel hrow
    have s0 : ρ'.s 0 = a.1 := hx'.s 0 (by decide)
    have s1 : ρ'.s 1 = a.2 := hx'.s 1 (by decide)
    have s2 : ρ'.s 2 = b.1 := hx'.s 2 (by decide)
    have s3 : ρ'.s 3 = b.2 := hx'.s 3 (by decide)
    have hh := htab'.h; have hg := htab'.g; have hk := htab'.k
    simp only [holds, fLen, List.mem_cons, List.not_mem_nil, or_false, forall_eq_or_imp, forall_eq, B_not, B_happ, B_seq, B_eq, B_lt, B_le, I_len, I_ite, I_mul, I_c, I_app, S_sv, S_lit, L_cons, L_nil, hh, hg, s0, s1, s2, s3, wh20, wg6, fstS_c, sndS_c, ctoN, cmul, Bool.not_eq_true', decide_eq_true_eq, decide_eq_false_iff_not] at hF
  · refine ⟨?_, hbel⟩
    have hv : okP a = false := hF.1
    unfold addS; rw [hv]; rfl
  · refine ⟨?_, hbel⟩
    have hv : okP b = false := hF.1
    unfold addS; rw [hv, Bool.and_false]; rfl
  · have hv : okP a = true := hF.2.2.1
    have hv2 : okP b = true := hF.1
    rw [addS_ok hv hv2]
    refine ⟨congrArg Ending.returned (tryV_den (n := 12) (l := e4 (.app 6 (e1 (.sv 0))) (.app 6 (e1 (.sv 1))) (.app 6 (e1 (.sv 2))) (.app 6 (e1 (.sv 3)))) htab' (x := addF (pv a) (pv b)) ?_ ?_ ?_), hbel⟩
    all_goals
      simp [e4, e1, hk, hg, wk, wg, frA, frB, at4, fstS, s0, s1, s2, s3, pv]
      try rfl

theorem Mul_any (a b : P2) (w : World) (ha : Short a) (hb : Short b) (ht : Tens w) :
    Calls Tryz.prog 24 #[partV a, partV b] w fun e w' => e = .returned (retV (mulS a b)) ∧ Below w.heap.size w w' := by
  refine sx_rows (TT := ttN []) (Γ := { calls := expCalls mulT }) (expCalls_ok (fun _ _ _ _ h => h) (fun _ h => h) mulT (mulT_ok (fun _ _ _ _ h => h) (fun _ h => h))) 600 [argP 0, argP 2] [] (fLen 4) 10
    [⟨(.val (.tup (.cons (.agg (.cons (.s (.lit [])) (.cons (.s (.lit [])) .nil))) (.cons (.i .i64 (.c 2)) .nil)))), [(.not (.happ 20 (.cons (.sv 0) (.cons (.sv 1) .nil)))), (.le (.len (.sv 0)) (.c 9223372036854775807)), (.le (.len (.sv 1)) (.c 9223372036854775807)), (.le (.len (.sv 2)) (.c 9223372036854775807)), (.le (.len (.sv 3)) (.c 9223372036854775807))], []⟩,
⟨(.val (.tup (.cons (.agg (.cons (.s (.lit [])) (.cons (.s (.lit [])) .nil))) (.cons (.i .i64 (.c 2)) .nil)))), [(.not (.happ 20 (.cons (.sv 2) (.cons (.sv 3) .nil)))), (.happ 20 (.cons (.sv 0) (.cons (.sv 1) .nil))), (.happ 11 (.cons (.app 6 (.cons (.sv 0) .nil)) (.cons (.app 6 (.cons (.sv 1) .nil)) .nil))), (.le (.len (.sv 0)) (.c 9223372036854775807)), (.le (.len (.sv 1)) (.c 9223372036854775807)), (.le (.len (.sv 2)) (.c 9223372036854775807)), (.le (.len (.sv 3)) (.c 9223372036854775807))], []⟩,
⟨(.val (.tup (.cons (.agg (.cons (.s (.sapp 16 (.cons (.app 6 (.cons (.sv 0) .nil)) (.cons (.app 6 (.cons (.sv 1) .nil)) (.cons (.app 6 (.cons (.sv 2) .nil)) (.cons (.app 6 (.cons (.sv 3) .nil)) .nil)))))) (.cons (.s (.sapp 17 (.cons (.app 6 (.cons (.sv 0) .nil)) (.cons (.app 6 (.cons (.sv 1) .nil)) (.cons (.app 6 (.cons (.sv 2) .nil)) (.cons (.app 6 (.cons (.sv 3) .nil)) .nil)))))) .nil))) (.cons (.i .i64 (.app 26 (.cons (.app 6 (.cons (.sv 0) .nil)) (.cons (.app 6 (.cons (.sv 1) .nil)) (.cons (.app 6 (.cons (.sv 2) .nil)) (.cons (.app 6 (.cons (.sv 3) .nil)) .nil)))))) .nil)))), [(.happ 20 (.cons (.sv 2) (.cons (.sv 3) .nil))), (.happ 11 (.cons (.app 6 (.cons (.sv 2) .nil)) (.cons (.app 6 (.cons (.sv 3) .nil)) .nil))), (.happ 20 (.cons (.sv 0) (.cons (.sv 1) .nil))), (.happ 11 (.cons (.app 6 (.cons (.sv 0) .nil)) (.cons (.app 6 (.cons (.sv 1) .nil)) .nil))), (.le (.len (.sv 0)) (.c 9223372036854775807)), (.le (.len (.sv 1)) (.c 9223372036854775807)), (.le (.len (.sv 2)) (.c 9223372036854775807)), (.le (.len (.sv 3)) (.c 9223372036854775807))], []⟩]
    (by kernel_rfl) (envS [] [a.1, a.2, b.1, b.2]) rfl (by simp) (fLen4 ha hb) wtab ⟨?_, ?_, ?_⟩ ht
  all_goals
    intro ρ' w' hx' htab' hF hbel hrow
    have s0 : ρ'.s 0 = a.1 := hx'.s 0 (by decide)
    have s1 : ρ'.s 1 = a.2 := hx'.s 1 (by decide)
    have s2 : ρ'.s 2 = b.1 := hx'.s 2 (by decide)
    have s3 : ρ'.s 3 = b.2 := hx'.s 3 (by decide)
    have hh := htab'.h; have hg := htab'.g; have hk := htab'.k
    simp only [holds, fLen, List.mem_cons, List.not_mem_nil, or_false, forall_eq_or_imp, forall_eq, B_not, B_happ, B_seq, B_eq, B_lt, B_le, I_len, I_ite, I_mul, I_c, I_app, S_sv, S_lit, L_cons, L_nil, hh, hg, s0, s1, s2, s3, wh20, wg6, fstS_c, sndS_c, ctoN, cmul, Bool.not_eq_true', decide_eq_true_eq, decide_eq_false_iff_not] at hF
  · refine ⟨?_, hbel⟩
    have hv : okP a = false := hF.1
    unfold mulS; rw [hv]; rfl
  · refine ⟨?_, hbel⟩
    have hv : okP b = false := hF.1
    unfold mulS; rw [hv, Bool.and_false]; rfl
  · have hv : okP a = true := hF.2.2.1
    have hv2 : okP b = true := hF.1
    rw [mulS_ok hv hv2]
    refine ⟨congrArg Ending.returned (tryV_den (n := 16) (l := e4 (.app 6 (e1 (.sv 0))) (.app 6 (e1 (.sv 1))) (.app 6 (e1 (.sv 2))) (.app 6 (e1 (.sv 3)))) htab' (x := mulF (pv a) (pv b)) ?_ ?_ ?_), hbel⟩
    all_goals
      simp [e4, e1, hk, hg, wk, wg, frA, frB, at4, fstS, s0, s1, s2, s3, pv]
      try rfl

theorem cmp_ite (p q : Nat) : ((if (p : Int) < (q : Int) then (-1 : Int) else if (q : Int) < (p : Int) then 1 else 0) < 0) = (p < q) := by
  apply propext
  constructor
  · intro h
    apply Classical.byContradiction
    intro hn
    rw [if_neg (by omega)] at h
    split at h <;> omega
  · intro h
    rw [if_pos (by omega)]; decide
theorem cmp_ite' (p q : Nat) : (0 ≤ (if (p : Int) < (q : Int) then (-1 : Int) else if (q : Int) < (p : Int) then 1 else 0)) = (q ≤ p) := by
  apply propext
  constructor
  · intro h
    apply Classical.byContradiction
    intro hn
    rw [if_pos (by omega)] at h
    omega
  · intro h
    rw [if_neg (by omega)]
    split <;> decide
theorem Sub_any (a b : P2) (w : World) (ha : Short a) (hb : Short b) (ht : Tens w) :
    Calls Tryz.prog 14 #[partV a, partV b] w fun e w' => e = .returned (retV (subS a b)) ∧ Below w.heap.size w w' := by
  refine sx_rows (TT := ttN []) (Γ := { calls := expCalls subT }) (expCalls_ok (fun _ _ _ _ h => h) (fun _ h => h) subT (subT_ok (fun _ _ _ _ h => h) (fun _ h => h))) 600 [argP 0, argP 2] [] (fLen 4) 10
    [⟨(.val (.tup (.cons (.agg (.cons (.s (.lit [])) (.cons (.s (.lit [])) .nil))) (.cons (.i .i64 (.c 2)) .nil)))), [(.not (.happ 20 (.cons (.sv 0) (.cons (.sv 1) .nil)))), (.le (.len (.sv 0)) (.c 9223372036854775807)), (.le (.len (.sv 1)) (.c 9223372036854775807)), (.le (.len (.sv 2)) (.c 9223372036854775807)), (.le (.len (.sv 3)) (.c 9223372036854775807))], []⟩,
⟨(.val (.tup (.cons (.agg (.cons (.s (.lit [])) (.cons (.s (.lit [])) .nil))) (.cons (.i .i64 (.c 2)) .nil)))), [(.not (.happ 20 (.cons (.sv 2) (.cons (.sv 3) .nil)))), (.happ 20 (.cons (.sv 0) (.cons (.sv 1) .nil))), (.happ 11 (.cons (.app 6 (.cons (.sv 0) .nil)) (.cons (.app 6 (.cons (.sv 1) .nil)) .nil))), (.le (.len (.sv 0)) (.c 9223372036854775807)), (.le (.len (.sv 1)) (.c 9223372036854775807)), (.le (.len (.sv 2)) (.c 9223372036854775807)), (.le (.len (.sv 3)) (.c 9223372036854775807))], []⟩,
⟨(.val (.tup (.cons (.agg (.cons (.s (.lit [])) (.cons (.s (.lit [])) .nil))) (.cons (.i .i64 (.c 11)) .nil)))), [(.lt (.ite (.lt (.mul (.app 6 (.cons (.sv 0) .nil)) (.app 6 (.cons (.sv 3) .nil))) (.mul (.app 6 (.cons (.sv 2) .nil)) (.app 6 (.cons (.sv 1) .nil)))) (.c (-1)) (.ite (.lt (.mul (.app 6 (.cons (.sv 2) .nil)) (.app 6 (.cons (.sv 1) .nil))) (.mul (.app 6 (.cons (.sv 0) .nil)) (.app 6 (.cons (.sv 3) .nil)))) (.c 1) (.c 0))) (.c 0)), (.happ 20 (.cons (.sv 2) (.cons (.sv 3) .nil))), (.happ 11 (.cons (.app 6 (.cons (.sv 2) .nil)) (.cons (.app 6 (.cons (.sv 3) .nil)) .nil))), (.happ 20 (.cons (.sv 0) (.cons (.sv 1) .nil))), (.happ 11 (.cons (.app 6 (.cons (.sv 0) .nil)) (.cons (.app 6 (.cons (.sv 1) .nil)) .nil))), (.le (.len (.sv 0)) (.c 9223372036854775807)), (.le (.len (.sv 1)) (.c 9223372036854775807)), (.le (.len (.sv 2)) (.c 9223372036854775807)), (.le (.len (.sv 3)) (.c 9223372036854775807))], []⟩,
⟨(.must (.le (.mul (.app 6 (.cons (.sv 2) .nil)) (.app 6 (.cons (.sv 1) .nil))) (.mul (.app 6 (.cons (.sv 0) .nil)) (.app 6 (.cons (.sv 3) .nil))))), [(.le (.c 0) (.ite (.lt (.mul (.app 6 (.cons (.sv 0) .nil)) (.app 6 (.cons (.sv 3) .nil))) (.mul (.app 6 (.cons (.sv 2) .nil)) (.app 6 (.cons (.sv 1) .nil)))) (.c (-1)) (.ite (.lt (.mul (.app 6 (.cons (.sv 2) .nil)) (.app 6 (.cons (.sv 1) .nil))) (.mul (.app 6 (.cons (.sv 0) .nil)) (.app 6 (.cons (.sv 3) .nil)))) (.c 1) (.c 0)))), (.happ 20 (.cons (.sv 2) (.cons (.sv 3) .nil))), (.happ 11 (.cons (.app 6 (.cons (.sv 2) .nil)) (.cons (.app 6 (.cons (.sv 3) .nil)) .nil))), (.happ 20 (.cons (.sv 0) (.cons (.sv 1) .nil))), (.happ 11 (.cons (.app 6 (.cons (.sv 0) .nil)) (.cons (.app 6 (.cons (.sv 1) .nil)) .nil))), (.le (.len (.sv 0)) (.c 9223372036854775807)), (.le (.len (.sv 1)) (.c 9223372036854775807)), (.le (.len (.sv 2)) (.c 9223372036854775807)), (.le (.len (.sv 3)) (.c 9223372036854775807))], []⟩,
⟨(.val (.tup (.cons (.agg (.cons (.s (.sapp 14 (.cons (.app 6 (.cons (.sv 0) .nil)) (.cons (.app 6 (.cons (.sv 1) .nil)) (.cons (.app 6 (.cons (.sv 2) .nil)) (.cons (.app 6 (.cons (.sv 3) .nil)) .nil)))))) (.cons (.s (.sapp 15 (.cons (.app 6 (.cons (.sv 0) .nil)) (.cons (.app 6 (.cons (.sv 1) .nil)) (.cons (.app 6 (.cons (.sv 2) .nil)) (.cons (.app 6 (.cons (.sv 3) .nil)) .nil)))))) .nil))) (.cons (.i .i64 (.app 24 (.cons (.app 6 (.cons (.sv 0) .nil)) (.cons (.app 6 (.cons (.sv 1) .nil)) (.cons (.app 6 (.cons (.sv 2) .nil)) (.cons (.app 6 (.cons (.sv 3) .nil)) .nil)))))) .nil)))), [(.le (.mul (.app 6 (.cons (.sv 2) .nil)) (.app 6 (.cons (.sv 1) .nil))) (.mul (.app 6 (.cons (.sv 0) .nil)) (.app 6 (.cons (.sv 3) .nil)))), (.le (.c 0) (.ite (.lt (.mul (.app 6 (.cons (.sv 0) .nil)) (.app 6 (.cons (.sv 3) .nil))) (.mul (.app 6 (.cons (.sv 2) .nil)) (.app 6 (.cons (.sv 1) .nil)))) (.c (-1)) (.ite (.lt (.mul (.app 6 (.cons (.sv 2) .nil)) (.app 6 (.cons (.sv 1) .nil))) (.mul (.app 6 (.cons (.sv 0) .nil)) (.app 6 (.cons (.sv 3) .nil)))) (.c 1) (.c 0)))), (.happ 20 (.cons (.sv 2) (.cons (.sv 3) .nil))), (.happ 11 (.cons (.app 6 (.cons (.sv 2) .nil)) (.cons (.app 6 (.cons (.sv 3) .nil)) .nil))), (.happ 20 (.cons (.sv 0) (.cons (.sv 1) .nil))), (.happ 11 (.cons (.app 6 (.cons (.sv 0) .nil)) (.cons (.app 6 (.cons (.sv 1) .nil)) .nil))), (.le (.len (.sv 0)) (.c 9223372036854775807)), (.le (.len (.sv 1)) (.c 9223372036854775807)), (.le (.len (.sv 2)) (.c 9223372036854775807)), (.le (.len (.sv 3)) (.c 9223372036854775807))], []⟩]
    (by kernel_rfl) (envS [] [a.1, a.2, b.1, b.2]) rfl (by simp) (fLen4 ha hb) wtab ⟨?_, ?_, ?_, ?_, ?_⟩ ht
  all_goals
    intro ρ' w' hx' htab' hF hbel hrow
    have s0 : ρ'.s 0 = a.1 := hx'.s 0 (by decide)
    have s1 : ρ'.s 1 = a.2 := hx'.s 1 (by decide)
    have s2 : ρ'.s 2 = b.1 := hx'.s 2 (by decide)
    have s3 : ρ'.s 3 = b.2 := hx'.s 3 (by decide)
    have hh := htab'.h; have hg := htab'.g; have hk := htab'.k
    simp only [holds, fLen, List.mem_cons, List.not_mem_nil, or_false, forall_eq_or_imp, forall_eq, B_not, B_happ, B_seq, B_eq, B_lt, B_le, I_len, I_ite, I_mul, I_c, I_app, S_sv, S_lit, L_cons, L_nil, hh, hg, s0, s1, s2, s3, wh20, wg6, fstS_c, sndS_c, ctoN, cmul, Bool.not_eq_true', decide_eq_true_eq, decide_eq_false_iff_not] at hF
  · refine ⟨?_, hbel⟩
    have hv : okP a = false := hF.1
    unfold subS; rw [hv]; rfl
  · refine ⟨?_, hbel⟩
    have hv : okP b = false := hF.1
    unfold subS; rw [hv, Bool.and_false]; rfl
  · have hv : okP a = true := hF.2.2.2.1
    have hv2 : okP b = true := hF.2.1
    have hc : (pv a).1 * (pv b).2 < (pv b).1 * (pv a).2 := by
      have h := hF.1
      apply Classical.byContradiction; intro hn
      rw [if_neg (show ¬ ((num a.1 * num b.2 : Nat) : Int) < ((num b.1 * num a.2 : Nat) : Int) from fun e => hn (Int.ofNat_lt.1 e))] at h
      split at h <;> omega
    rw [subS_less hv hv2 hc]
    exact ⟨rfl, hbel⟩
  · have hc : (pv b).1 * (pv a).2 ≤ (pv a).1 * (pv b).2 := by
      have h := hF.1
      apply Classical.byContradiction; intro hn
      have hn : (pv a).1 * (pv b).2 < (pv b).1 * (pv a).2 := by omega
      rw [if_pos (show ((num a.1 * num b.2 : Nat) : Int) < ((num b.1 * num a.2 : Nat) : Int) from Int.ofNat_lt.2 hn)] at h
      omega
    simp only [B_le, I_mul, I_app, L_cons, L_nil, S_sv, hg, wg6, fstS_c, s0, s1, s2, s3, cmul]
    exact decide_eq_true (Int.ofNat_le.2 hc)
  · have hv : okP a = true := hF.2.2.2.2.1
    have hv2 : okP b = true := hF.2.2.1
    have hc : (pv b).1 * (pv a).2 ≤ (pv a).1 * (pv b).2 := Int.ofNat_le.1 hF.1
    rw [subS_ok hv hv2 (by omega)]
    refine ⟨congrArg Ending.returned (tryV_den (n := 14) (l := e4 (.app 6 (e1 (.sv 0))) (.app 6 (e1 (.sv 1))) (.app 6 (e1 (.sv 2))) (.app 6 (e1 (.sv 3)))) htab' (x := subF (pv a) (pv b)) ?_ ?_ ?_), hbel⟩
    all_goals
      simp [e4, e1, hk, hg, wk, wg, frA, frB, at4, fstS, s0, s1, s2, s3, pv]
      try rfl

theorem Div_any (a b : P2) (w : World) (ha : Short a) (hb : Short b) (ht : Tens w) :
    Calls Tryz.prog 25 #[partV a, partV b] w fun e w' => e = .returned (retV (divS a b)) ∧ Below w.heap.size w w' := by
  refine sx_rows (TT := ttN []) (Γ := { calls := expCalls divT }) (expCalls_ok (fun _ _ _ _ h => h) (fun _ h => h) divT (divT_ok (fun _ _ _ _ h => h) (fun _ h => h))) 600 [argP 0, argP 2] [] (fLen 4) 10
    [⟨(.val (.tup (.cons (.agg (.cons (.s (.lit [])) (.cons (.s (.lit [])) .nil))) (.cons (.i .i64 (.c 2)) .nil)))), [(.not (.happ 20 (.cons (.sv 0) (.cons (.sv 1) .nil)))), (.le (.len (.sv 0)) (.c 9223372036854775807)), (.le (.len (.sv 1)) (.c 9223372036854775807)), (.le (.len (.sv 2)) (.c 9223372036854775807)), (.le (.len (.sv 3)) (.c 9223372036854775807))], []⟩,
⟨(.val (.tup (.cons (.agg (.cons (.s (.lit [])) (.cons (.s (.lit [])) .nil))) (.cons (.i .i64 (.c 2)) .nil)))), [(.not (.happ 20 (.cons (.sv 2) (.cons (.sv 3) .nil)))), (.happ 20 (.cons (.sv 0) (.cons (.sv 1) .nil))), (.happ 11 (.cons (.app 6 (.cons (.sv 0) .nil)) (.cons (.app 6 (.cons (.sv 1) .nil)) .nil))), (.le (.len (.sv 0)) (.c 9223372036854775807)), (.le (.len (.sv 1)) (.c 9223372036854775807)), (.le (.len (.sv 2)) (.c 9223372036854775807)), (.le (.len (.sv 3)) (.c 9223372036854775807))], []⟩,
⟨(.must (.le (.c 0) (.app 6 (.cons (.sv 2) .nil)))), [(.happ 20 (.cons (.sv 2) (.cons (.sv 3) .nil))), (.happ 11 (.cons (.app 6 (.cons (.sv 2) .nil)) (.cons (.app 6 (.cons (.sv 3) .nil)) .nil))), (.happ 20 (.cons (.sv 0) (.cons (.sv 1) .nil))), (.happ 11 (.cons (.app 6 (.cons (.sv 0) .nil)) (.cons (.app 6 (.cons (.sv 1) .nil)) .nil))), (.le (.len (.sv 0)) (.c 9223372036854775807)), (.le (.len (.sv 1)) (.c 9223372036854775807)), (.le (.len (.sv 2)) (.c 9223372036854775807)), (.le (.len (.sv 3)) (.c 9223372036854775807))], []⟩,
⟨(.val (.tup (.cons (.agg (.cons (.s (.lit [])) (.cons (.s (.lit [])) .nil))) (.cons (.i .i64 (.c 10)) .nil)))), [(.eq (.app 6 (.cons (.sv 2) .nil)) (.c 0)), (.le (.c 0) (.app 6 (.cons (.sv 2) .nil))), (.happ 20 (.cons (.sv 2) (.cons (.sv 3) .nil))), (.happ 11 (.cons (.app 6 (.cons (.sv 2) .nil)) (.cons (.app 6 (.cons (.sv 3) .nil)) .nil))), (.happ 20 (.cons (.sv 0) (.cons (.sv 1) .nil))), (.happ 11 (.cons (.app 6 (.cons (.sv 0) .nil)) (.cons (.app 6 (.cons (.sv 1) .nil)) .nil))), (.le (.len (.sv 0)) (.c 9223372036854775807)), (.le (.len (.sv 1)) (.c 9223372036854775807)), (.le (.len (.sv 2)) (.c 9223372036854775807)), (.le (.len (.sv 3)) (.c 9223372036854775807))], []⟩,
⟨(.must (.lt (.c 0) (.app 6 (.cons (.sv 2) .nil)))), [(.not (.eq (.app 6 (.cons (.sv 2) .nil)) (.c 0))), (.le (.c 0) (.app 6 (.cons (.sv 2) .nil))), (.happ 20 (.cons (.sv 2) (.cons (.sv 3) .nil))), (.happ 11 (.cons (.app 6 (.cons (.sv 2) .nil)) (.cons (.app 6 (.cons (.sv 3) .nil)) .nil))), (.happ 20 (.cons (.sv 0) (.cons (.sv 1) .nil))), (.happ 11 (.cons (.app 6 (.cons (.sv 0) .nil)) (.cons (.app 6 (.cons (.sv 1) .nil)) .nil))), (.le (.len (.sv 0)) (.c 9223372036854775807)), (.le (.len (.sv 1)) (.c 9223372036854775807)), (.le (.len (.sv 2)) (.c 9223372036854775807)), (.le (.len (.sv 3)) (.c 9223372036854775807))], []⟩,
⟨(.val (.tup (.cons (.agg (.cons (.s (.sapp 16 (.cons (.app 6 (.cons (.sv 0) .nil)) (.cons (.app 6 (.cons (.sv 1) .nil)) (.cons (.app 6 (.cons (.sv 3) .nil)) (.cons (.app 6 (.cons (.sv 2) .nil)) .nil)))))) (.cons (.s (.sapp 17 (.cons (.app 6 (.cons (.sv 0) .nil)) (.cons (.app 6 (.cons (.sv 1) .nil)) (.cons (.app 6 (.cons (.sv 3) .nil)) (.cons (.app 6 (.cons (.sv 2) .nil)) .nil)))))) .nil))) (.cons (.i .i64 (.app 26 (.cons (.app 6 (.cons (.sv 0) .nil)) (.cons (.app 6 (.cons (.sv 1) .nil)) (.cons (.app 6 (.cons (.sv 3) .nil)) (.cons (.app 6 (.cons (.sv 2) .nil)) .nil)))))) .nil)))), [(.lt (.c 0) (.app 6 (.cons (.sv 2) .nil))), (.not (.eq (.app 6 (.cons (.sv 2) .nil)) (.c 0))), (.le (.c 0) (.app 6 (.cons (.sv 2) .nil))), (.happ 20 (.cons (.sv 2) (.cons (.sv 3) .nil))), (.happ 11 (.cons (.app 6 (.cons (.sv 2) .nil)) (.cons (.app 6 (.cons (.sv 3) .nil)) .nil))), (.happ 20 (.cons (.sv 0) (.cons (.sv 1) .nil))), (.happ 11 (.cons (.app 6 (.cons (.sv 0) .nil)) (.cons (.app 6 (.cons (.sv 1) .nil)) .nil))), (.le (.len (.sv 0)) (.c 9223372036854775807)), (.le (.len (.sv 1)) (.c 9223372036854775807)), (.le (.len (.sv 2)) (.c 9223372036854775807)), (.le (.len (.sv 3)) (.c 9223372036854775807))], []⟩]
    (by kernel_rfl) (envS [] [a.1, a.2, b.1, b.2]) rfl (by simp) (fLen4 ha hb) wtab ⟨?_, ?_, ?_, ?_, ?_, ?_⟩ ht
  all_goals
    intro ρ' w' hx' htab' hF hbel hrow
    have s0 : ρ'.s 0 = a.1 := hx'.s 0 (by decide)
    have s1 : ρ'.s 1 = a.2 := hx'.s 1 (by decide)
    have s2 : ρ'.s 2 = b.1 := hx'.s 2 (by decide)
    have s3 : ρ'.s 3 = b.2 := hx'.s 3 (by decide)
    have hh := htab'.h; have hg := htab'.g; have hk := htab'.k
    simp only [holds, fLen, List.mem_cons, List.not_mem_nil, or_false, forall_eq_or_imp, forall_eq, B_not, B_happ, B_seq, B_eq, B_lt, B_le, I_len, I_ite, I_mul, I_c, I_app, S_sv, S_lit, L_cons, L_nil, hh, hg, s0, s1, s2, s3, wh20, wg6, fstS_c, sndS_c, ctoN, cmul, Bool.not_eq_true', decide_eq_true_eq, decide_eq_false_iff_not] at hF
  · refine ⟨?_, hbel⟩
    have hv : okP a = false := hF.1
    unfold divS; rw [hv]; rfl
  · refine ⟨?_, hbel⟩
    have hv : okP b = false := hF.1
    unfold divS; rw [hv, Bool.and_false]; rfl
  · simp only [B_le, I_c, I_app, L_cons, L_nil, S_sv, hg, wg6, fstS_c, s2]
    exact decide_eq_true (Int.natCast_nonneg _)
  · have hv : okP a = true := hF.2.2.2.2.1
    have hv2 : okP b = true := hF.2.2.1
    have hc : (pv b).1 = 0 := Int.ofNat.inj hF.1
    rw [divS_zero hv hv2 hc]
    exact ⟨rfl, hbel⟩
  · have hc : ¬ (pv b).1 = 0 := fun e => hF.1 (congrArg Int.ofNat e)
    simp only [B_lt, I_c, I_app, L_cons, L_nil, S_sv, hg, wg6, fstS_c, s2]
    exact decide_eq_true (Int.ofNat_lt.2 (Nat.pos_of_ne_zero hc))
  · have hv : okP a = true := hF.2.2.2.2.2.1
    have hv2 : okP b = true := hF.2.2.2.1
    have hc : ¬ (pv b).1 = 0 := fun e => hF.2.1 (congrArg Int.ofNat e)
    rw [divS_ok hv hv2 hc]
    refine ⟨congrArg Ending.returned (tryV_den (n := 16) (l := e4 (.app 6 (e1 (.sv 0))) (.app 6 (e1 (.sv 1))) (.app 6 (e1 (.sv 3))) (.app 6 (e1 (.sv 2)))) htab' (x := mulF (pv a) ((pv b).2, (pv b).1)) ?_ ?_ ?_), hbel⟩
    all_goals
      simp [e4, e1, hk, hg, wk, wg, frA, frB, at4, fstS, s0, s1, s2, s3, pv]
      try rfl

theorem Compare_any (a b : P2) (w : World) (ha : Short a) (hb : Short b) (ht : Tens w) :
    Calls Tryz.prog 26 #[partV a, partV b] w fun e w' => e = .returned (.int .i64 (cmpS a b)) ∧ Below w.heap.size w w' := by
  refine sx_rows (TT := ttN []) (Γ := { calls := expCalls divT }) (expCalls_ok (fun _ _ _ _ h => h) (fun _ h => h) divT (divT_ok (fun _ _ _ _ h => h) (fun _ h => h))) 600 [argP 0, argP 2] [] (fLen 4) 10
    [⟨(.val (.i .i64 (.c 0))), [(.not (.happ 20 (.cons (.sv 0) (.cons (.sv 1) .nil)))), (.le (.len (.sv 0)) (.c 9223372036854775807)), (.le (.len (.sv 1)) (.c 9223372036854775807)), (.le (.len (.sv 2)) (.c 9223372036854775807)), (.le (.len (.sv 3)) (.c 9223372036854775807))], []⟩,
⟨(.val (.i .i64 (.c 0))), [(.not (.happ 20 (.cons (.sv 2) (.cons (.sv 3) .nil)))), (.happ 20 (.cons (.sv 0) (.cons (.sv 1) .nil))), (.happ 11 (.cons (.app 6 (.cons (.sv 0) .nil)) (.cons (.app 6 (.cons (.sv 1) .nil)) .nil))), (.le (.len (.sv 0)) (.c 9223372036854775807)), (.le (.len (.sv 1)) (.c 9223372036854775807)), (.le (.len (.sv 2)) (.c 9223372036854775807)), (.le (.len (.sv 3)) (.c 9223372036854775807))], []⟩,
⟨(.val (.i .i64 (.ite (.lt (.mul (.app 6 (.cons (.sv 0) .nil)) (.app 6 (.cons (.sv 3) .nil))) (.mul (.app 6 (.cons (.sv 2) .nil)) (.app 6 (.cons (.sv 1) .nil)))) (.c (-1)) (.ite (.lt (.mul (.app 6 (.cons (.sv 2) .nil)) (.app 6 (.cons (.sv 1) .nil))) (.mul (.app 6 (.cons (.sv 0) .nil)) (.app 6 (.cons (.sv 3) .nil)))) (.c 1) (.c 0))))), [(.happ 20 (.cons (.sv 2) (.cons (.sv 3) .nil))), (.happ 11 (.cons (.app 6 (.cons (.sv 2) .nil)) (.cons (.app 6 (.cons (.sv 3) .nil)) .nil))), (.happ 20 (.cons (.sv 0) (.cons (.sv 1) .nil))), (.happ 11 (.cons (.app 6 (.cons (.sv 0) .nil)) (.cons (.app 6 (.cons (.sv 1) .nil)) .nil))), (.le (.len (.sv 0)) (.c 9223372036854775807)), (.le (.len (.sv 1)) (.c 9223372036854775807)), (.le (.len (.sv 2)) (.c 9223372036854775807)), (.le (.len (.sv 3)) (.c 9223372036854775807))], []⟩]
    (by kernel_rfl) (envS [] [a.1, a.2, b.1, b.2]) rfl (by simp) (fLen4 ha hb) wtab ⟨?_, ?_, ?_⟩ ht
  all_goals
    intro ρ' w' hx' htab' hF hbel hrow
    have s0 : ρ'.s 0 = a.1 := hx'.s 0 (by decide)
    have s1 : ρ'.s 1 = a.2 := hx'.s 1 (by decide)
    have s2 : ρ'.s 2 = b.1 := hx'.s 2 (by decide)
    have s3 : ρ'.s 3 = b.2 := hx'.s 3 (by decide)
    have hh := htab'.h; have hg := htab'.g; have hk := htab'.k
    simp only [holds, fLen, List.mem_cons, List.not_mem_nil, or_false, forall_eq_or_imp, forall_eq, B_not, B_happ, B_seq, B_eq, B_lt, B_le, I_len, I_ite, I_mul, I_c, I_app, S_sv, S_lit, L_cons, L_nil, hh, hg, s0, s1, s2, s3, wh20, wg6, fstS_c, sndS_c, ctoN, cmul, Bool.not_eq_true', decide_eq_true_eq, decide_eq_false_iff_not] at hF
  · refine ⟨?_, hbel⟩
    have hv : okP a = false := hF.1
    unfold cmpS; rw [hv]; rfl
  · refine ⟨?_, hbel⟩
    have hv : okP b = false := hF.1
    unfold cmpS; rw [hv, Bool.and_false]; rfl
  · have hv : okP a = true := hF.2.2.1
    have hv2 : okP b = true := hF.1
    refine ⟨?_, hbel⟩
    have e : cmpS a b = cmpF (pv a) (pv b) := by unfold cmpS; rw [hv, hv2]; rfl
    rw [e]
    rw [den_i]
    congr 2
    simp only [I_ite, B_lt, I_c, I_mul, I_app, L_cons, L_nil, S_sv, hg, wg6, fstS_c, s0, s1, s2, s3, cmul, decide_eq_true_eq]
    unfold cmpF
    by_cases k1 : (pv a).1 * (pv b).2 < (pv b).1 * (pv a).2
    · rw [if_pos k1]; exact if_pos (Int.ofNat_lt.2 k1)
    · refine (if_neg (fun h => k1 (Int.ofNat_lt.1 h))).trans ?_
      refine Eq.trans ?_ (if_neg k1).symm
      by_cases k2 : (pv b).1 * (pv a).2 < (pv a).1 * (pv b).2
      · exact (if_pos (Int.ofNat_lt.2 k2)).trans (if_neg (by omega)).symm
      · exact (if_neg (fun h => k2 (Int.ofNat_lt.1 h))).trans (if_pos (by omega)).symm

theorem Check_any (a : P2) (w : World) (ha : Short a) (ht : Tens w) :
    Calls Tryz.prog 22 #[partV a] w fun e w' => e = .returned (.int .i64 (chkS a)) ∧ Below w.heap.size w w' := by
  refine sx_rows (TT := ttN []) (Γ := { calls := expCalls addT }) (expCalls_ok (fun _ _ _ _ h => h) (fun _ h => h) addT (addT_ok (fun _ _ _ _ h => h) (fun _ h => h))) 600 [argP 0] [] (fLen 2) 10
    [⟨(.val (.i .i64 (.c 2))), [(.not (.happ 20 (.cons (.sv 0) (.cons (.sv 1) .nil)))), (.le (.len (.sv 0)) (.c 9223372036854775807)), (.le (.len (.sv 1)) (.c 9223372036854775807))], []⟩,
⟨(.val (.i .i64 (.c 0))), [(.happ 20 (.cons (.sv 0) (.cons (.sv 1) .nil))), (.happ 11 (.cons (.app 6 (.cons (.sv 0) .nil)) (.cons (.app 6 (.cons (.sv 1) .nil)) .nil))), (.le (.len (.sv 0)) (.c 9223372036854775807)), (.le (.len (.sv 1)) (.c 9223372036854775807))], []⟩]
    (by kernel_rfl) (envS [] [a.1, a.2]) rfl (by simp) (fLen2 ha) wtab ⟨?_, ?_⟩ ht
  all_goals
    intro ρ' w' hx' htab' hF hbel hrow
    have s0 : ρ'.s 0 = a.1 := hx'.s 0 (by decide)
    have s1 : ρ'.s 1 = a.2 := hx'.s 1 (by decide)
    have hh := htab'.h
    simp only [holds, fLen, List.mem_cons, List.not_mem_nil, or_false, forall_eq_or_imp, forall_eq, B_not, B_happ, S_sv, L_cons, L_nil, hh, s0, s1, wh20, fstS_c, sndS_c, Bool.not_eq_true'] at hF
  · refine ⟨?_, hbel⟩
    have hv : okP a = false := hF.1
    unfold chkS; rw [hv]; rfl
  · refine ⟨?_, hbel⟩
    have hv : okP a = true := hF.1
    unfold chkS; rw [hv]; rfl
end Go.Proofs.YtkggfeemjabdeaaGreatDoor.Wc
end
section
namespace Go.Proofs.YtkggfeemjabdeaaGreatDoor.Wc
open Go Go.Proofs.YtkggfeemjabdeaaGreatDoor.Sx Go.RowKit

def lowP (n d : Nat) : P2 := (dec (low n d).1, dec (low n d).2)
def makeS (a : P2) : P2 × Int := if isNt a.1 && isNt a.2 then (if a.2 = zeroB then (emptyP, 10) else (lowP (num a.1) (num a.2), 0)) else (emptyP, 2)
theorem make_zero {a : P2} (h1 : isNt a.1 = true) (h2 : isNt a.2 = true) (h : a.2 = zeroB) : makeS a = (emptyP, 10) := by unfold makeS; rw [h1, h2]; exact (if_pos rfl).trans (if_pos h)
theorem make_ok {a : P2} (h1 : isNt a.1 = true) (h2 : isNt a.2 = true) (h : ¬ a.2 = zeroB) : makeS a = (lowP (num a.1) (num a.2), 0) := by unfold makeS; rw [h1, h2]; exact (if_pos rfl).trans (if_neg h)
theorem make_bad {a : P2} (h : isNt a.1 = false ∨ isNt a.2 = false) : makeS a = (emptyP, 2) := by
  unfold makeS
  rcases h with h | h
  · rw [h]; rfl
  · rw [h, Bool.and_false]; rfl
theorem Make_any (a : P2) (w : World) (ha : Short a) (ht : Tens w) :
    Calls Tryz.prog 10 #[.string a.1, .string a.2] w fun e w' => e = .returned (retV (makeS a)) ∧ Below w.heap.size w w' := by
  refine sx_rows (TT := ttN []) (Γ := { calls := openCalls }) (openCalls_ok (fun _ _ _ _ h => h) (fun _ h => h)) 600 [.s (.sv 0), .s (.sv 1)] [] (fLen 2) 10
    [⟨(.val (.tup (.cons (.agg (.cons (.s (.lit [])) (.cons (.s (.lit [])) .nil))) (.cons (.i .i64 (.c 2)) .nil)))), [(.not (.happ 6 (.cons (.sv 0) .nil))), (.le (.len (.sv 0)) (.c 9223372036854775807)), (.le (.len (.sv 1)) (.c 9223372036854775807))], []⟩,
⟨(.val (.tup (.cons (.agg (.cons (.s (.lit [])) (.cons (.s (.lit [])) .nil))) (.cons (.i .i64 (.c 2)) .nil)))), [(.not (.happ 6 (.cons (.sv 1) .nil))), (.happ 6 (.cons (.sv 0) .nil)), (.le (.len (.sv 0)) (.c 9223372036854775807)), (.le (.len (.sv 1)) (.c 9223372036854775807))], []⟩,
⟨(.val (.tup (.cons (.agg (.cons (.s (.lit [])) (.cons (.s (.lit [])) .nil))) (.cons (.i .i64 (.c 10)) .nil)))), [(.seq (.sv 1) (.lit [48])), (.happ 6 (.cons (.sv 1) .nil)), (.happ 6 (.cons (.sv 0) .nil)), (.le (.len (.sv 0)) (.c 9223372036854775807)), (.le (.len (.sv 1)) (.c 9223372036854775807))], []⟩,
⟨(.must (.happ 10 (.cons (.sv 0) .nil))), [(.not (.seq (.sv 1) (.lit [48]))), (.happ 6 (.cons (.sv 1) .nil)), (.happ 6 (.cons (.sv 0) .nil)), (.le (.len (.sv 0)) (.c 9223372036854775807)), (.le (.len (.sv 1)) (.c 9223372036854775807))], []⟩,
⟨(.must (.happ 10 (.cons (.sv 1) .nil))), [(.happ 10 (.cons (.sv 0) .nil)), (.not (.seq (.sv 1) (.lit [48]))), (.happ 6 (.cons (.sv 1) .nil)), (.happ 6 (.cons (.sv 0) .nil)), (.le (.len (.sv 0)) (.c 9223372036854775807)), (.le (.len (.sv 1)) (.c 9223372036854775807))], []⟩,
⟨(.must (.happ 7 (.cons (.app 6 (.cons (.sv 0) .nil)) .nil))), [(.happ 10 (.cons (.sv 1) .nil)), (.happ 10 (.cons (.sv 0) .nil)), (.not (.seq (.sv 1) (.lit [48]))), (.happ 6 (.cons (.sv 1) .nil)), (.happ 6 (.cons (.sv 0) .nil)), (.le (.len (.sv 0)) (.c 9223372036854775807)), (.le (.len (.sv 1)) (.c 9223372036854775807))], []⟩,
⟨(.must (.happ 7 (.cons (.app 6 (.cons (.sv 1) .nil)) .nil))), [(.happ 10 (.cons (.sv 1) .nil)), (.happ 10 (.cons (.sv 0) .nil)), (.not (.seq (.sv 1) (.lit [48]))), (.happ 6 (.cons (.sv 1) .nil)), (.happ 6 (.cons (.sv 0) .nil)), (.le (.len (.sv 0)) (.c 9223372036854775807)), (.le (.len (.sv 1)) (.c 9223372036854775807))], []⟩,
⟨(.must (.lt (.c 0) (.app 6 (.cons (.sv 1) .nil)))), [(.happ 10 (.cons (.sv 1) .nil)), (.happ 10 (.cons (.sv 0) .nil)), (.not (.seq (.sv 1) (.lit [48]))), (.happ 6 (.cons (.sv 1) .nil)), (.happ 6 (.cons (.sv 0) .nil)), (.le (.len (.sv 0)) (.c 9223372036854775807)), (.le (.len (.sv 1)) (.c 9223372036854775807))], []⟩,
⟨(.val (.tup (.cons (.agg (.cons (.s (.sapp 1 (.cons (.app 10 (.cons (.app 6 (.cons (.sv 0) .nil)) (.cons (.app 6 (.cons (.sv 1) .nil)) .nil))) .nil))) (.cons (.s (.sapp 1 (.cons (.app 11 (.cons (.app 6 (.cons (.sv 0) .nil)) (.cons (.app 6 (.cons (.sv 1) .nil)) .nil))) .nil))) .nil))) (.cons (.i .i64 (.c 0)) .nil)))), [.tt, (.happ 7 (.cons (.app 10 (.cons (.app 6 (.cons (.sv 0) .nil)) (.cons (.app 6 (.cons (.sv 1) .nil)) .nil))) .nil)), (.happ 7 (.cons (.app 11 (.cons (.app 6 (.cons (.sv 0) .nil)) (.cons (.app 6 (.cons (.sv 1) .nil)) .nil))) .nil)), (.lt (.c 0) (.app 11 (.cons (.app 6 (.cons (.sv 0) .nil)) (.cons (.app 6 (.cons (.sv 1) .nil)) .nil)))), (.happ 7 (.cons (.app 6 (.cons (.sv 0) .nil)) .nil)), (.happ 7 (.cons (.app 6 (.cons (.sv 1) .nil)) .nil)), (.lt (.c 0) (.app 6 (.cons (.sv 1) .nil))), (.happ 10 (.cons (.sv 1) .nil)), (.happ 10 (.cons (.sv 0) .nil)), (.not (.seq (.sv 1) (.lit [48]))), (.happ 6 (.cons (.sv 1) .nil)), (.happ 6 (.cons (.sv 0) .nil)), (.le (.len (.sv 0)) (.c 9223372036854775807)), (.le (.len (.sv 1)) (.c 9223372036854775807))], []⟩]
    (by kernel_rfl) (envS [] [a.1, a.2]) rfl (by simp) (fLen2 ha) wtab ⟨?_, ?_, ?_, ?_, ?_, ?_, ?_, ?_, ?_⟩ ht
  all_goals
    intro ρ' w' hx' htab' hF hbel hrow
    have s0 : ρ'.s 0 = a.1 := hx'.s 0 (by decide)
    have s1 : ρ'.s 1 = a.2 := hx'.s 1 (by decide)
    have hh := htab'.h; have hg := htab'.g; have hk := htab'.k
    simp only [holds, fLen, List.mem_cons, List.not_mem_nil, or_false, forall_eq_or_imp, forall_eq, B_not, B_happ, B_seq, S_sv, S_lit, L_cons, L_nil, hh, s0, s1, Bool.not_eq_true', decide_eq_true_eq, decide_eq_false_iff_not] at hF
    simp only [wh, fstS_c] at hF
  · exact ⟨by rw [make_bad (.inl hF.1)]; rfl, hbel⟩
  · exact ⟨by rw [make_bad (.inr hF.1)]; rfl, hbel⟩
  · exact ⟨by rw [make_zero hF.2.2.1 hF.2.1 hF.1]; rfl, hbel⟩
  · have := nt_digs hF.2.2.1
    simp [hh, wh, fstS, s0, this]
  · have := nt_digs hF.2.2.1
    simp [hh, wh, fstS, s1, this]
  · simp [hh, wh, hg, wg, fstI, fstS, s0, bigN _ (nt_big hF.2.2.2.2.1)]
  · simp [hh, wh, hg, wg, fstI, fstS, s1, bigN _ (nt_big hF.2.2.2.1)]
  · have := num_pos hF.2.2.2.1 hF.2.2.1
    simp only [B_lt, I_c, I_app, L_cons, L_nil, S_sv, hg, wg6, fstS_c, s1]
    exact decide_eq_true (Int.ofNat_lt.2 this)
  · have h1 : isNt a.1 = true := by have := hF; simp_all
    have h2 : isNt a.2 = true := by have := hF; simp_all
    have h3 : ¬ a.2 = zeroB := by have := hF; simp_all [zeroB]
    refine ⟨?_, hbel⟩
    rw [make_ok h1 h2 h3]
    simp only [den_tup, den_agg, dens_cons, dens_nil, den_s, den_i, S_sapp, I_app, I_c, L_cons, L_nil, S_sv, hg, hk, wg6, wg10, wg11, at4_0, at4_1, fstS_c, s0, s1, ctoN]
    rfl
def ratioS (a b : Int) : P2 × Int := if a < 0 ∨ b < 0 then (emptyP, 11) else if b = 0 then (emptyP, 10) else (lowP a.toNat b.toNat, 0)
theorem word_big {z : Int} (h0 : 0 ≤ z) (h : z ≤ 9223372036854775807) : bigB z = true := by
  rw [bigB_t]
  refine ⟨h0, ?_⟩
  have h1 : z.toNat < R64 := by rw [R64_eq]; omega
  refine Nat.lt_of_lt_of_le h1 ?_
  unfold Big
  exact Nat.le_self_pow (by decide) _
theorem Ratio_any (a b : Int) (w : World) (ha : -9223372036854775808 ≤ a) (ha' : a ≤ 9223372036854775807) (hb : -9223372036854775808 ≤ b) (hb' : b ≤ 9223372036854775807) (ht : Tens w) :
    Calls Tryz.prog 36 #[.int .i64 a, .int .i64 b] w fun e w' => e = .returned (retV (ratioS a b)) ∧ Below w.heap.size w w' := by
  refine sx_rows (TT := ttN []) (Γ := { calls := openCalls }) (openCalls_ok (fun _ _ _ _ h => h) (fun _ h => h)) 600 [.i .i64 (.v 0), .i .i64 (.v 1)] [] [.le (.c (-9223372036854775808)) (.v 0), .le (.c (-9223372036854775808)) (.v 1), .le (.v 0) (.c 9223372036854775807), .le (.v 1) (.c 9223372036854775807)] 10
    [⟨(.val (.tup (.cons (.agg (.cons (.s (.lit [])) (.cons (.s (.lit [])) .nil))) (.cons (.i .i64 (.c 11)) .nil)))), [(.lt (.v 0) (.c 0)), (.le (.c (-9223372036854775808)) (.v 0)), (.le (.c (-9223372036854775808)) (.v 1)), (.le (.v 0) (.c 9223372036854775807)), (.le (.v 1) (.c 9223372036854775807))], []⟩,
⟨(.val (.tup (.cons (.agg (.cons (.s (.lit [])) (.cons (.s (.lit [])) .nil))) (.cons (.i .i64 (.c 11)) .nil)))), [(.lt (.v 1) (.c 0)), (.le (.c 0) (.v 0)), (.le (.c (-9223372036854775808)) (.v 0)), (.le (.c (-9223372036854775808)) (.v 1)), (.le (.v 0) (.c 9223372036854775807)), (.le (.v 1) (.c 9223372036854775807))], []⟩,
⟨(.val (.tup (.cons (.agg (.cons (.s (.lit [])) (.cons (.s (.lit [])) .nil))) (.cons (.i .i64 (.c 10)) .nil)))), [(.eq (.v 1) (.c 0)), (.le (.c 0) (.v 1)), (.le (.c 0) (.v 0)), (.le (.c (-9223372036854775808)) (.v 0)), (.le (.c (-9223372036854775808)) (.v 1)), (.le (.v 0) (.c 9223372036854775807)), (.le (.v 1) (.c 9223372036854775807))], []⟩,
⟨(.must (.happ 7 (.cons (.v 0) .nil))), [(.not (.eq (.v 1) (.c 0))), (.le (.c 0) (.v 1)), (.le (.c 0) (.v 0)), (.le (.c (-9223372036854775808)) (.v 0)), (.le (.c (-9223372036854775808)) (.v 1)), (.le (.v 0) (.c 9223372036854775807)), (.le (.v 1) (.c 9223372036854775807))], []⟩,
⟨(.must (.happ 7 (.cons (.v 1) .nil))), [(.not (.eq (.v 1) (.c 0))), (.le (.c 0) (.v 1)), (.le (.c 0) (.v 0)), (.le (.c (-9223372036854775808)) (.v 0)), (.le (.c (-9223372036854775808)) (.v 1)), (.le (.v 0) (.c 9223372036854775807)), (.le (.v 1) (.c 9223372036854775807))], []⟩,
⟨(.must (.lt (.c 0) (.v 1))), [(.not (.eq (.v 1) (.c 0))), (.le (.c 0) (.v 1)), (.le (.c 0) (.v 0)), (.le (.c (-9223372036854775808)) (.v 0)), (.le (.c (-9223372036854775808)) (.v 1)), (.le (.v 0) (.c 9223372036854775807)), (.le (.v 1) (.c 9223372036854775807))], []⟩,
⟨(.val (.tup (.cons (.agg (.cons (.s (.sapp 1 (.cons (.app 10 (.cons (.v 0) (.cons (.v 1) .nil))) .nil))) (.cons (.s (.sapp 1 (.cons (.app 11 (.cons (.v 0) (.cons (.v 1) .nil))) .nil))) .nil))) (.cons (.i .i64 (.c 0)) .nil)))), [.tt, (.happ 7 (.cons (.app 10 (.cons (.v 0) (.cons (.v 1) .nil))) .nil)), (.happ 7 (.cons (.app 11 (.cons (.v 0) (.cons (.v 1) .nil))) .nil)), (.lt (.c 0) (.app 11 (.cons (.v 0) (.cons (.v 1) .nil)))), (.happ 7 (.cons (.v 0) .nil)), (.happ 7 (.cons (.v 1) .nil)), (.lt (.c 0) (.v 1)), (.not (.eq (.v 1) (.c 0))), (.le (.c 0) (.v 1)), (.le (.c 0) (.v 0)), (.le (.c (-9223372036854775808)) (.v 0)), (.le (.c (-9223372036854775808)) (.v 1)), (.le (.v 0) (.c 9223372036854775807)), (.le (.v 1) (.c 9223372036854775807))], []⟩]
    (by kernel_rfl) (envS [a, b] []) rfl (by simp) (by simp [holds, envS]; omega) wtab ⟨?_, ?_, ?_, ?_, ?_, ?_, ?_⟩ ht
  all_goals
    intro ρ' w' hx' htab' hF hbel hrow
    have e0 : ρ'.i 0 = a := hx'.i 0 (by decide)
    have e1 : ρ'.i 1 = b := hx'.i 1 (by decide)
    have hh := htab'.h; have hg := htab'.g; have hk := htab'.k
    simp only [holds, List.mem_cons, List.not_mem_nil, or_false, forall_eq_or_imp, forall_eq, B_not, B_lt, B_le, B_eq, I_c, I_v, e0, e1, Bool.not_eq_true', decide_eq_true_eq, decide_eq_false_iff_not] at hF
  · exact ⟨by rw [show ratioS a b = (emptyP, 11) from if_pos (.inl hF.1)]; rfl, hbel⟩
  · exact ⟨by rw [show ratioS a b = (emptyP, 11) from if_pos (.inr hF.1)]; rfl, hbel⟩
  · exact ⟨by rw [show ratioS a b = (emptyP, 10) from (if_neg (by omega)).trans (if_pos hF.1)]; rfl, hbel⟩
  · simp only [B_happ, hh, wh7, L_cons, L_nil, fstI_c, I_v, e0]
    exact word_big (by omega) (by omega)
  · simp only [B_happ, hh, wh7, L_cons, L_nil, fstI_c, I_v, e1]
    exact word_big (by omega) (by omega)
  · simp [e1]; omega
  · have h0 : ¬ (a < 0 ∨ b < 0) := by omega
    have h1 : ¬ b = 0 := by omega
    refine ⟨?_, hbel⟩
    rw [show ratioS a b = (lowP a.toNat b.toNat, 0) from (if_neg h0).trans (if_neg h1)]
    simp only [den_tup, den_agg, dens_cons, dens_nil, den_s, den_i, S_sapp, I_app, I_c, I_v, L_cons, L_nil, hg, hk, wg10, wg11, at4_0, at4_1, e0, e1, ctoN]
    rfl
end Go.Proofs.YtkggfeemjabdeaaGreatDoor.Wc
end
section
namespace Go.Proofs.YtkggfeemjabdeaaGreatDoor.Wc
open Go Go.Proofs.YtkggfeemjabdeaaGreatDoor.Sx Go.RowKit

/-- The value lies, if anywhere, in a block of which A holds. -/
def Off (A : Nat → Prop) (u : Value) : Prop := ∀ c, u.ownBlock = some c → A c
/-- The value does not lie in block B. -/
def Not_ (B : Nat) (u : Value) : Prop := ∀ c, u.ownBlock = some c → c ≠ B
theorem Off.not {A : Nat → Prop} {B : Nat} {u : Value} (h : Off A u) (hB : ¬ A B) : Not_ B u := fun c hc e => hB (e ▸ h c hc)
theorem natV_lt {w : World} {u : Value} {x : Nat} (h : NatV w u x) : ∀ c, u.ownBlock = some c → c < w.heap.size := by
  intro c hc
  obtain ⟨n, f, h1, -, -⟩ := h
  rcases h1 with ⟨rfl, -⟩ | ⟨b, off, cap, rfl, -, -, k3, -⟩
  · cases hc
  · injection hc with hc; subst hc; exact k3
theorem natV_set {w : World} {u : Value} {x : Nat} (h : NatV w u x) {B i : Nat} {z : Value} (hb : Not_ B u) : NatV (w.setCell ⟨B, i, none⟩ z) u x := by
  obtain ⟨n, f, h1, h2, h3⟩ := h
  refine ⟨n, f, ?_, h2, h3⟩
  rcases h1 with h1 | ⟨b, off, cap, rfl, k1, k2, k3, k4⟩
  · exact .inl h1
  · refine .inr ⟨b, off, cap, rfl, k1, k2, by simp [World.setCell]; exact k3, fun j hj => ?_⟩
    rw [World.cell?_of_block (Below.heap_setCell w ⟨B, i, none⟩ z b (hb b rfl))]
    exact k4 j hj
theorem nat_slice {w : World} {v : Value} {x : Nat} (h : NatV w v x) : ∃ a n k, v = .slice a n k := by
  obtain ⟨n, f, h, -⟩ := h
  rcases h with ⟨rfl, -⟩ | ⟨b, off, cap, rfl, -⟩
  · exact ⟨_, _, _, rfl⟩
  · exact ⟨_, _, _, rfl⟩
/-- The texts of a list of fractions, as a slice of parts. -/
def PartL (w : World) (v : Value) (ps : List P2) : Prop :=
  ((∃ a cap, v = .slice a 0 cap) ∧ ps = []) ∨ ∃ b off cap, v = .slice (some ⟨b, off, none⟩) ps.length cap ∧ ps.length ≤ cap ∧ cap ≤ maxLen ∧ b < w.heap.size ∧
    ∀ i (h : i < ps.length), w.cell? ⟨b, off + i * 2, none⟩ = some (.string ps[i].1) ∧ w.cell? ⟨b, off + i * 2 + 1, none⟩ = some (.string ps[i].2)
theorem PartL.below {w w' : World} {v : Value} {ps : List P2} (h : PartL w v ps) (hb : Below w.heap.size w w') : PartL w' v ps := by
  rcases h with h | ⟨b, off, cap, h1, h2, h3, h4, h5⟩
  · exact .inl h
  · exact .inr ⟨b, off, cap, h1, h2, h3, Nat.lt_of_lt_of_le h4 hb.size, fun i hi => ⟨cell_later hb (h5 i hi).1, cell_later hb (h5 i hi).2⟩⟩
theorem PartL.shape {w : World} {v : Value} {ps : List P2} (h : PartL w v ps) : ∃ a cap, v = .slice a ps.length cap := by
  rcases h with ⟨⟨a, cap, rfl⟩, rfl⟩ | ⟨b, off, cap, h1, _⟩
  · exact ⟨_, _, rfl⟩
  · exact ⟨_, _, h1⟩
/-- The first m fractions of a block of n. -/
structure Rats (A : Nat → Prop) (w : World) (B n : Nat) (xs : List (Nat × Nat)) (cs : Array Value) : Prop where
  blk : w.heap[B]? = some (.cells cs 62 (0, 0))
  size : cs.size = n * 2
  len : xs.length ≤ n
  nb : ¬ A B
  num : ∀ i q, xs[i]? = some q → ∃ u, cs[i * 2]? = some u ∧ NatV w u q.1 ∧ Off A u
  den : ∀ i q, xs[i]? = some q → ∃ u, cs[i * 2 + 1]? = some u ∧ NatV w u q.2 ∧ Off A u
/-- The slice is a list of fractions, in block B. -/
def RatL (w : World) (B : Nat) (v : Value) (xs : List (Nat × Nat)) : Prop := v = .slice (some ⟨B, 0, none⟩) xs.length xs.length ∧ ∃ cs, Rats (B < ·) w B xs.length xs cs
theorem Rats.lt {A : Nat → Prop} {w : World} {B n : Nat} {xs : List (Nat × Nat)} {cs : Array Value} (h : Rats A w B n xs cs) : B < w.heap.size := (Array.getElem?_eq_some_iff.1 h.blk).1
theorem Rats.sub {A A' : Nat → Prop} {w : World} {B n : Nat} {xs : List (Nat × Nat)} {cs : Array Value} (h : Rats A w B n xs cs) (hs : ∀ c, A c → c < w.heap.size → A' c) (hb : ¬ A' B) : Rats A' w B n xs cs :=
  ⟨h.blk, h.size, h.len, hb, fun i q hi => by obtain ⟨u, h1, h2, h3⟩ := h.num i q hi; exact ⟨u, h1, h2, fun c hc => hs c (h3 c hc) (natV_lt h2 c hc)⟩, fun i q hi => by obtain ⟨u, h1, h2, h3⟩ := h.den i q hi; exact ⟨u, h1, h2, fun c hc => hs c (h3 c hc) (natV_lt h2 c hc)⟩⟩
theorem Rats.below {A : Nat → Prop} {w w' : World} {B n : Nat} {xs : List (Nat × Nat)} {cs : Array Value} (h : Rats A w B n xs cs) (hb : Below w.heap.size w w') : Rats A w' B n xs cs :=
  ⟨(hb.block B h.lt).trans h.blk, h.size, h.len, h.nb, fun i q hi => by obtain ⟨u, h1, h2, h3⟩ := h.num i q hi; exact ⟨u, h1, h2.below hb, h3⟩, fun i q hi => by obtain ⟨u, h1, h2, h3⟩ := h.den i q hi; exact ⟨u, h1, h2.below hb, h3⟩⟩
/-- A fraction is stored at place i. -/
theorem Rats.setOther {A : Nat → Prop} {w : World} {B n : Nat} {xs : List (Nat × Nat)} {cs : Array Value} (h : Rats A w B n xs cs) {C : Nat} (hC : ¬ A C) (hne : C ≠ B) (i : Nat) (z : Value) : Rats A (w.setCell ⟨C, i, none⟩ z) B n xs cs :=
  ⟨(Below.heap_setCell w ⟨C, i, none⟩ z B (Ne.symm hne)).trans h.blk, h.size, h.len, h.nb, fun i q hi => by obtain ⟨u, h1, h2, h3⟩ := h.num i q hi; exact ⟨u, h1, natV_set h2 (h3.not hC), h3⟩, fun i q hi => by obtain ⟨u, h1, h2, h3⟩ := h.den i q hi; exact ⟨u, h1, natV_set h2 (h3.not hC), h3⟩⟩
theorem Rats.setAt {A : Nat → Prop} {w : World} {B n : Nat} {xs : List (Nat × Nat)} {cs : Array Value} (h : Rats A w B n xs cs) (i : Nat) (hi : i < n) {ys : List (Nat × Nat)} (hy : ys.length ≤ n) {q : Nat × Nat} (hq : ys[i]? = some q) (ho : ∀ j r, j ≠ i → ys[j]? = some r → xs[j]? = some r)
    {u1 u2 : Value} (h1 : NatV w u1 q.1) (h2 : NatV w u2 q.2) (o1 : Off A u1) (o2 : Off A u2) :
    Rats A ((w.setCell ⟨B, i * 2, none⟩ u1).setCell ⟨B, i * 2 + 1, none⟩ u2) B n ys ((cs.setIfInBounds (i * 2) u1).setIfInBounds (i * 2 + 1) u2) := by
  have hz := h.size
  refine ⟨heap_setCell_same _ B _ _ _ u2 (heap_setCell_same w B _ _ _ u1 h.blk), by simp [hz], hy, h.nb, fun j r hr => ?_, fun j r hr => ?_⟩
  · by_cases e : j = i
    · subst e
      rw [hq] at hr; injection hr with hr; subst hr
      exact ⟨u1, by rw [Array.getElem?_setIfInBounds_ne (by omega), Array.getElem?_setIfInBounds_self_of_lt (by omega)], natV_set (natV_set h1 (o1.not h.nb)) (o1.not h.nb), o1⟩
    · obtain ⟨u, k1, k2, k3⟩ := h.num j r (ho j r e hr)
      exact ⟨u, by rw [Array.getElem?_setIfInBounds_ne (by omega), Array.getElem?_setIfInBounds_ne (by omega)]; exact k1, natV_set (natV_set k2 (k3.not h.nb)) (k3.not h.nb), k3⟩
  · by_cases e : j = i
    · subst e
      rw [hq] at hr; injection hr with hr; subst hr
      exact ⟨u2, by rw [Array.getElem?_setIfInBounds_self_of_lt (by simp; omega)], natV_set (natV_set h2 (o2.not h.nb)) (o2.not h.nb), o2⟩
    · obtain ⟨u, k1, k2, k3⟩ := h.den j r (ho j r e hr)
      exact ⟨u, by rw [Array.getElem?_setIfInBounds_ne (by omega), Array.getElem?_setIfInBounds_ne (by omega)]; exact k1, natV_set (natV_set k2 (k3.not h.nb)) (k3.not h.nb), k3⟩
theorem get_snoc {xs : List (Nat × Nat)} {q : Nat × Nat} : (xs ++ [q])[xs.length]? = some q := by simp
theorem get_snoc_ne {xs : List (Nat × Nat)} {q r : Nat × Nat} {j : Nat} (h : j ≠ xs.length) (hr : (xs ++ [q])[j]? = some r) : xs[j]? = some r := by
  by_cases hj : j < xs.length
  · rwa [List.getElem?_append_left hj] at hr
  · rw [List.getElem?_append_right (by omega)] at hr
    have : ([q] : List (Nat × Nat))[j - xs.length]? = none := List.getElem?_eq_none_iff.2 (by simp; omega)
    rw [this] at hr; cases hr
theorem RatL.below {w w' : World} {B : Nat} {v : Value} {xs : List (Nat × Nat)} (h : RatL w B v xs) (hb : Below w.heap.size w w') : RatL w' B v xs := by
  obtain ⟨h1, cs, h2⟩ := h
  exact ⟨h1, cs, h2.below hb⟩
/-- What openList answers. -/
def openLS (ps : List P2) : Int := if 512 < ps.length then 3 else if ps.all okP then 0 else 2
def OpenLPost (ps : List P2) (w : World) (e : Ending) (w' : World) : Prop :=
  Below w.heap.size w w' ∧ (openLS ps = 0 → ∃ u, e = .returned (.tuple #[u, .int .i64 0]) ∧ RatL w' w.heap.size u (ps.map pv)) ∧ (openLS ps ≠ 0 → e = .returned (.tuple #[.slice none 0 0, .int .i64 (openLS ps)]))
theorem infoR : (Tryz.prog.info? 62).map (fun i => (i.zero, i.size, i.bytes)) = some (some (.agg #[.slice none 0 0, .slice none 0 0]), 2, 48) := by kernel_rfl

set_option maxRecDepth 100000 in
set_option maxHeartbeats 2000000 in
theorem openList_any (ps : List P2) (v : Value) (w : World) (h : PartL w v ps) (hs : ∀ p ∈ ps, Short p) (ht : Tens w) :
    Calls Tryz.prog 52 #[v] w (OpenLPost ps w) := by
  obtain ⟨a, cap, rfl⟩ := h.shape
  have H := Lib.hid h; have HS := Lib.hid hs; have HT := Lib.hid ht
  clear h hs ht
  have hpl : ps.length ≤ maxLen := by
    rcases H.out with ⟨-, h⟩ | ⟨_, _, _, -, h2, h3, -⟩
    · rw [h]; exact Nat.zero_le _
    · omega
  have hml : maxLen = 9223372036854775807 := rfl
  by_cases h5 : 512 < ps.length
  · have h6 : (512 : Int) < ps.length := by omega
    go_enter Tryz.func52, Tryz.ntmps52
    have e : openLS ps = 3 := if_pos h5
    go_wp2
    refine bodyPost_ret (v := .tuple #[.slice none 0 0, .int .i64 3]) (by simp [results, Tryz.results52, go_sem]) rfl ?_
    exact ⟨Below.refl _ _, (fun h => by rw [e] at h; cases h), fun _ => by rw [e]⟩
  · obtain ⟨i0, hi, hz0, hz1, hz2⟩ : ∃ i0, Tryz.prog.info? 62 = some i0 ∧ i0.zero = some (.agg #[.slice none 0 0, .slice none 0 0]) ∧ i0.size = 2 ∧ i0.bytes = 48 := by
      obtain ⟨i, hi, hzz⟩ := Option.map_eq_some_iff.1 infoR
      simp only [Prod.mk.injEq] at hzz
      exact ⟨i, hi, hzz.1, hzz.2.1, hzz.2.2⟩
    have h6 : ¬ (512 : Int) < ps.length := by omega
    have hmk := run_makeSlice (P := Tryz.prog) (w := w) 85 62 i0 _ Tryz.underlying85 hi hz0 .i64 .i64 (ps.length : Int) (ps.length : Int) (by omega) (by omega) (by rw [hz1]; simp; omega) (by rw [hz2]; omega) (by omega)
    rw [hz1, Int.toNat_natCast] at hmk
    obtain ⟨cs0, hcs0⟩ : ∃ cs, madeCells (Value.agg #[.slice none 0 0, .slice none 0 0]).cells (ps.length * 2) = cs := ⟨_, rfl⟩
    rw [hcs0] at hmk
    have hsz0 : cs0.size = ps.length * 2 := by rw [← hcs0, size_madeCells]
    go_enter Tryz.func52, Tryz.ntmps52
    have hrats0 : Rats (w.heap.size < ·) (w.alloc (.cells cs0 62)) w.heap.size ps.length [] cs0 := ⟨Go.Deep.blk_alloc_new _ _, hsz0, Nat.zero_le _, Nat.lt_irrefl _, fun i q hi => by simp at hi, fun i q hi => by simp at hi⟩
    have HR0 := Lib.hid hrats0
    clear hrats0 hcs0 hsz0
    generalize hN : ps.length = N at *
    go_wp2_with fail
    go_loopw [17] (fun iv wr => ∃ x : Nat, x ≤ N ∧ iv = .int .i64 x ∧ Hid (Below w.heap.size w wr) ∧ Hid (∃ cs, Rats (w.heap.size < ·) wr w.heap.size N ((ps.take x).map pv) cs) ∧ Hid (∀ p ∈ ps.take x, okP p = true)) (fun iv _ => N - (intOf iv).toNat)
    case atStart => exact ⟨0, Nat.zero_le _, rfl, Lib.hid ((Below.refl _ _).alloc (Nat.le_refl _) _), Lib.hid ⟨cs0, by simpa using HR0.out⟩, Lib.hid (by simp)⟩
    case round =>
      obtain ⟨x, hx, rfl, HB, HC, HO⟩ := hrel
      by_cases hlt : x < N
      · obtain ⟨p, hp⟩ : ∃ p, ps[x]? = some p := ⟨_, List.getElem?_eq_getElem (by omega)⟩
        obtain ⟨b, off, rfl, hbl, c0, c1⟩ : ∃ b off, a = some ⟨b, off, none⟩ ∧ b < w.heap.size ∧ wr.cell? ⟨b, off + x * 2, none⟩ = some (.string p.1) ∧ wr.cell? ⟨b, off + x * 2 + 1, none⟩ = some (.string p.2) := by
          rcases H.out with ⟨-, h0⟩ | ⟨b, off, cap', h1, h2, h3, h4, h5⟩
          · rw [h0] at hN; simp at hN; omega
          · have hx' : x < ps.length := by omega
            have e := (List.getElem?_eq_some_iff.1 hp).2
            injection h1 with h1 _ _
            refine ⟨b, off, h1, h4, ?_, ?_⟩
            · rw [← e]; exact cell_later HB.out (h5 x hx').1
            · rw [← e]; exact cell_later HB.out (h5 x hx').2
        have HP := Lib.hid hp; have HBL := Lib.hid hbl
        clear hp hbl
        have hsh : Short p := HS.out p (List.mem_of_getElem? HP.out)
        have HOP : ∀ W, Below w.heap.size w W → Calls Tryz.prog 37 #[.agg #[.string p.1, .string p.2]] W (OpenPost p.1 p.2 W) := fun W hW => open_any p.1 p.2 W hsh.1 hsh.2 (fun j hj => cell_later hW (HT.out j hj))
        have HOPH := Lib.hid HOP
        clear HOP hsh
        go_wp2_with fail
        have hb1 : Below w.heap.size w (wr.alloc (.cells #[.string p.1, .string p.2] 24)) := HB.out.alloc HB.out.size _
        have HB1 := Lib.hid hb1
        refine (HOPH.out _ hb1).mono ?_
        rintro e w1 ⟨g0, g1, g2⟩
        have HB2 := Lib.hid (hb1.trans (g0.mono hb1.size)); have G0 := Lib.hid g0; have G1 := Lib.hid g1; have G2 := Lib.hid g2
        clear g0 g1 g2 hb1 c0 c1 HOPH
        cases hv : validP p.1 p.2 with
        | false =>
          obtain rfl := G2.out hv
          have HV := Lib.hid hv
          clear hv
          have e : openLS ps = 2 := by
            unfold openLS
            rw [if_neg (by omega), if_neg]
            intro ha
            have := List.all_eq_true.1 ha p (List.mem_of_getElem? HP.out)
            unfold okP at this
            rw [HV.out] at this; cases this
          have HE := Lib.hid e
          clear e
          go_wp2_with fail
          refine bodyPost_ret (v := .tuple #[.slice none 0 0, .int .i64 2]) (by simp [results, Tryz.results52, go_sem]) rfl ?_
          exact ⟨HB2.out.alloc HB2.out.size _, (fun h => by rw [HE.out] at h; cases h), fun _ => by rw [HE.out]⟩
        | true =>
          obtain ⟨u1, u2, rfl, n1, n2, s1, s2⟩ := G1.out hv
          obtain ⟨a1, l1, k1, e1⟩ := nat_slice n1
          obtain ⟨a2, l2, k2, e2⟩ := nat_slice n2
          clear G1 G2
          subst e1 e2
          have HV := Lib.hid hv; have N1 := Lib.hid n1; have N2 := Lib.hid n2; have S1 := Lib.hid s1; have S2 := Lib.hid s2
          clear hv n1 n2 s1 s2
          obtain ⟨cs, hcs⟩ := HC.out
          have hcs1 := (hcs.below (Below.refl _ _ |>.alloc (Nat.le_refl _) _)).below G0.out
          have HCS := Lib.hid hcs1
          have hBw : w.heap.size < w1.heap.size := hcs1.lt
          obtain ⟨z0, hz0'⟩ : ∃ z, w1.cell? ⟨w.heap.size, x * 2, none⟩ = some z := ⟨_, (set_cells hcs1.blk (x * 2)).trans (Array.getElem?_eq_getElem (by rw [hcs1.size]; omega))⟩
          obtain ⟨z1, hz1'⟩ : ∃ z, w1.cell? ⟨w.heap.size, x * 2 + 1, none⟩ = some z := ⟨_, (set_cells hcs1.blk (x * 2 + 1)).trans (Array.getElem?_eq_getElem (by rw [hcs1.size]; omega))⟩
          have f0 : w1.frozen? ⟨w.heap.size, x * 2, none⟩ = false := by simp [World.frozen?, hcs1.blk]
          have f1 : w1.frozen? ⟨w.heap.size, x * 2 + 1, none⟩ = false := by simp [World.frozen?, hcs1.blk]
          clear hcs HC hmk hi hz0 hz1 hz2 HR0
          have hsz1 := hcs1.size
          clear hcs1
          go_wp2_with fail
          have hlen : ((ps.take x).map pv).length = x := by simp; omega
          have e1 : (ps.take (x + 1)).map pv = (ps.take x).map pv ++ [pv p] := by rw [List.take_add_one, HP.out]; simp
          have o1 : Off (w.heap.size < ·) (.slice a1 l1 k1) := fun c hc => by
            rcases S1.out c hc with h | ⟨_, h, _⟩
            · exact Nat.lt_of_lt_of_le (Nat.lt_of_le_of_lt HB.out.size (Array.getElem?_eq_some_iff.1 (Go.Deep.blk_alloc_new wr _)).1) h
            · cases h
          have o2 : Off (w.heap.size < ·) (.slice a2 l2 k2) := fun c hc => by
            rcases S2.out c hc with h | ⟨_, h, _⟩
            · exact Nat.lt_of_lt_of_le (Nat.lt_of_le_of_lt HB.out.size (Array.getElem?_eq_some_iff.1 (Go.Deep.blk_alloc_new wr _)).1) h
            · cases h
          refine ⟨⟨x + 1, by omega, rfl, Lib.hid ?_, Lib.hid ⟨_, (HCS.out.setAt x hlt (ys := (ps.take (x + 1)).map pv) (q := pv p) (by simp; omega) (by have := get_snoc (xs := (ps.take x).map pv) (q := pv p); rw [hlen] at this; rw [e1]; exact this) (fun j r hj hr => ?_) N1.out N2.out o1 o2).below ((Below.refl _ _).alloc (Nat.le_refl _) _)⟩, Lib.hid ?_⟩, by simp [intOf]; omega⟩
          · have h3 := (HB2.out.setCell (p := ⟨w.heap.size, x * 2, none⟩) (Nat.le_refl _) (.slice a1 l1 k1)).setCell (p := ⟨w.heap.size, x * 2 + 1, none⟩) (Nat.le_refl _) (.slice a2 l2 k2)
            exact h3.alloc h3.size _
          · rw [e1] at hr
            refine get_snoc_ne (xs := (ps.take x).map pv) (q := pv p) (by rw [hlen]; exact hj) hr
          · intro r hr
            rw [List.take_add_one, HP.out] at hr
            rcases List.mem_append.1 hr with hr | hr
            · exact HO.out r hr
            · simp at hr; subst hr; exact HV.out
      · obtain rfl : x = N := by omega
        have e : openLS ps = 0 := by
          unfold openLS
          have h1 : ps.all okP = true := List.all_eq_true.2 fun p hp => HO.out p (by rw [← hN, List.take_length]; exact hp)
          rw [if_neg (by omega), if_pos h1]
        have HE := Lib.hid e
        have hrl : RatL wr w.heap.size (.slice (some ⟨w.heap.size, 0, none⟩) x x) (ps.map pv) := by
          obtain ⟨cs, hcs⟩ := HC.out
          rw [← hN, List.take_length] at hcs
          have hl : (ps.map pv).length = x := by simp [hN]
          refine ⟨by rw [hl], cs, ?_⟩
          rw [List.length_map]; exact hcs
        have HRL := Lib.hid hrl
        clear e hrl hmk hi hz0 hz1 hz2 HR0 HC
        go_wp2_with fail
        refine bodyPost_ret (v := .tuple #[.slice (some ⟨w.heap.size, 0, none⟩) x x, .int .i64 0]) (by simp [results, Tryz.results52, go_sem]) rfl ?_
        exact ⟨HB.out, fun _ => ⟨_, rfl, HRL.out⟩, fun h => absurd HE.out h⟩
end Go.Proofs.YtkggfeemjabdeaaGreatDoor.Wc
end
section
namespace Go.Proofs.YtkggfeemjabdeaaGreatDoor.Wc
open Go

theorem addF_comm (x y : Nat × Nat) : addF x y = addF y x := by
  unfold addF; rw [Nat.add_comm, Nat.mul_comm x.2]
theorem mulF_comm (x y : Nat × Nat) : mulF x y = mulF y x := by
  unfold mulF; rw [Nat.mul_comm x.1, Nat.mul_comm x.2]
theorem addF_assoc {x y z : Nat × Nat} (hx : Fr x) (hy : Fr y) (hz : Fr z) : addF (addF x y) z = addF x (addF y z) := by
  have h1 : addF (addF x y) z = low ((x.1 * y.2 + y.1 * x.2) * z.2 + z.1 * (x.2 * y.2)) (x.2 * y.2 * z.2) := by
    conv => lhs; rw [← low_self hz]
    exact addF_low (Nat.mul_pos hx.pos hy.pos) hz.pos
  have h2 : addF x (addF y z) = low (x.1 * (y.2 * z.2) + (y.1 * z.2 + z.1 * y.2) * x.2) (x.2 * (y.2 * z.2)) := by
    conv => lhs; rw [← low_self hx]
    exact addF_low hx.pos (Nat.mul_pos hy.pos hz.pos)
  rw [h1, h2, Nat.mul_assoc x.2]
  congr 1
  simp only [Nat.add_mul]
  have e1 : x.1 * y.2 * z.2 = x.1 * (y.2 * z.2) := by ac_rfl
  have e2 : y.1 * x.2 * z.2 = y.1 * z.2 * x.2 := by ac_rfl
  have e3 : z.1 * (x.2 * y.2) = z.1 * y.2 * x.2 := by ac_rfl
  omega
theorem mulF_addF {x y z : Nat × Nat} (hx : Fr x) (hy : Fr y) (hz : Fr z) : mulF x (addF y z) = addF (mulF x y) (mulF x z) := by
  have h1 : mulF x (addF y z) = low (x.1 * (y.1 * z.2 + z.1 * y.2)) (x.2 * (y.2 * z.2)) := by
    conv => lhs; rw [← low_self hx]
    exact mulF_low hx.pos (Nat.mul_pos hy.pos hz.pos)
  have h2 : addF (mulF x y) (mulF x z) = low (x.1 * y.1 * (x.2 * z.2) + x.1 * z.1 * (x.2 * y.2)) (x.2 * y.2 * (x.2 * z.2)) := addF_low (Nat.mul_pos hx.pos hy.pos) (Nat.mul_pos hx.pos hz.pos)
  rw [h1, h2]
  refine low_congr (Nat.mul_pos hx.pos (Nat.mul_pos hy.pos hz.pos)) (Nat.mul_pos (Nat.mul_pos hx.pos hy.pos) (Nat.mul_pos hx.pos hz.pos)) ?_
  simp only [Nat.mul_add, Nat.add_mul]
  have e1 : x.1 * (y.1 * z.2) * (x.2 * y.2 * (x.2 * z.2)) = x.1 * y.1 * (x.2 * z.2) * (x.2 * (y.2 * z.2)) := by ac_rfl
  have e2 : x.1 * (z.1 * y.2) * (x.2 * y.2 * (x.2 * z.2)) = x.1 * z.1 * (x.2 * y.2) * (x.2 * (y.2 * z.2)) := by ac_rfl
  rw [e1, e2]
theorem subF_addF {x y : Nat × Nat} (hx : Fr x) (hy : Fr y) : subF (addF x y) y = x := by
  have h1 : subF (addF x y) y = low ((x.1 * y.2 + y.1 * x.2) * y.2 - y.1 * (x.2 * y.2)) (x.2 * y.2 * y.2) := by
    conv => lhs; arg 2; rw [← low_self hy]
    exact subF_low (Nat.mul_pos hx.pos hy.pos) hy.pos
  rw [h1]
  conv => rhs; rw [← low_self hx]
  refine low_congr (Nat.mul_pos (Nat.mul_pos hx.pos hy.pos) hy.pos) hx.pos ?_
  have e1 : (x.1 * y.2 + y.1 * x.2) * y.2 - y.1 * (x.2 * y.2) = x.1 * y.2 * y.2 := by
    have : y.1 * (x.2 * y.2) = y.1 * x.2 * y.2 := by ac_rfl
    rw [Nat.add_mul, this]; omega
  rw [e1]; ac_rfl
theorem le_addF {x y : Nat × Nat} (hx : Fr x) (hy : Fr y) : ¬ (addF x y).1 * y.2 < y.1 * (addF x y).2 := by
  have hv := low_val (x.1 * y.2 + y.1 * x.2) (x.2 * y.2)
  have hd : 0 < x.2 * y.2 := Nat.mul_pos hx.pos hy.pos
  intro h
  have h1 : (addF x y).1 * y.2 * (x.2 * y.2) < y.1 * (addF x y).2 * (x.2 * y.2) := Nat.mul_lt_mul_of_pos_right h hd
  have e1 : (addF x y).1 * y.2 * (x.2 * y.2) = (x.1 * y.2 + y.1 * x.2) * (addF x y).2 * y.2 := by
    rw [Nat.mul_right_comm, show (addF x y).1 * (x.2 * y.2) = (x.1 * y.2 + y.1 * x.2) * (addF x y).2 from hv]
  rw [e1] at h1
  have e2 : (x.1 * y.2 + y.1 * x.2) * (addF x y).2 * y.2 = x.1 * y.2 * (addF x y).2 * y.2 + y.1 * (addF x y).2 * (x.2 * y.2) := by
    rw [Nat.add_mul, Nat.add_mul]
    have : y.1 * x.2 * (addF x y).2 * y.2 = y.1 * (addF x y).2 * (x.2 * y.2) := by ac_rfl
    rw [this]
  omega
theorem div_mulF {x y : Nat × Nat} (hx : Fr x) (hy : Fr y) (h0 : 0 < y.1) : mulF (mulF x y) (y.2, y.1) = x := by
  have hr : Fr (y.2, y.1) := ⟨h0, by rw [Nat.gcd_comm]; exact hy.cop⟩
  have h1 : mulF (mulF x y) (y.2, y.1) = low (x.1 * y.1 * y.2) (x.2 * y.2 * y.1) := by
    conv => lhs; arg 2; rw [← low_self hr]
    exact mulF_low (Nat.mul_pos hx.pos hy.pos) h0
  rw [h1]
  conv => rhs; rw [← low_self hx]
  refine low_congr (Nat.mul_pos (Nat.mul_pos hx.pos hy.pos) h0) hx.pos ?_
  ac_rfl
/-- A fraction whose numbers have at most k digits. -/
structure Sm (k : Nat) (x : Nat × Nat) : Prop where
  fr : Fr x
  n : x.1 < 10 ^ k
  d : x.2 < 10 ^ k
theorem Sm.frt {k : Nat} {x : Nat × Nat} (h : Sm k x) (hk : k ≤ 600) : FrT x :=
  ⟨h.fr, Nat.lt_of_lt_of_le h.n (pow10_le (n := 600) hk), Nat.lt_of_lt_of_le h.d (pow10_le (n := 600) hk)⟩
theorem Sm.fits {k : Nat} {x : Nat × Nat} (h : Sm k x) (hk : k ≤ 600) : fitsF x = true := by
  unfold fitsF
  rw [Bool.and_eq_true, fit1_t, fit1_t]
  exact ⟨(h.frt hk).n, (h.frt hk).d⟩
theorem low_sm {n d k : Nat} (hd : 0 < d) (h1 : n < 10 ^ k) (h2 : d < 10 ^ k) : Sm k (low n d) :=
  ⟨low_fr hd, Nat.lt_of_le_of_lt (low_le n d).1 h1, Nat.lt_of_le_of_lt (low_le n d).2 h2⟩
theorem Sm.add {k l m : Nat} {x y : Nat × Nat} (hx : Sm k x) (hy : Sm l y) (hm : m = k + l + 1) : Sm m (addF x y) := by
  subst hm
  have e : 10 ^ (k + l + 1) = 10 * (10 ^ k * 10 ^ l) := by rw [Nat.pow_succ, Nat.pow_add, Nat.mul_comm]
  have h1 : x.1 * y.2 < 10 ^ k * 10 ^ l := Nat.mul_lt_mul'' hx.n hy.d
  have h2 : y.1 * x.2 < 10 ^ k * 10 ^ l := by rw [Nat.mul_comm (10 ^ k)]; exact Nat.mul_lt_mul'' hy.n hx.d
  have h3 : x.2 * y.2 < 10 ^ k * 10 ^ l := Nat.mul_lt_mul'' hx.d hy.d
  exact low_sm (Nat.mul_pos hx.fr.pos hy.fr.pos) (by rw [e]; omega) (by rw [e]; omega)
theorem Sm.mul {k l m : Nat} {x y : Nat × Nat} (hx : Sm k x) (hy : Sm l y) (hm : m = k + l) : Sm m (mulF x y) := by
  subst hm
  have e : 10 ^ (k + l) = 10 ^ k * 10 ^ l := Nat.pow_add _ _ _
  have h1 : x.1 * y.1 < 10 ^ k * 10 ^ l := Nat.mul_lt_mul'' hx.n hy.n
  have h3 : x.2 * y.2 < 10 ^ k * 10 ^ l := Nat.mul_lt_mul'' hx.d hy.d
  exact low_sm (Nat.mul_pos hx.fr.pos hy.fr.pos) (by rw [e]; exact h1) (by rw [e]; exact h3)
/-- The part of a fraction. -/
def ptOf (x : Nat × Nat) : P2 := (dec x.1, dec x.2)
theorem pt_ok {k : Nat} {x : Nat × Nat} (h : Sm k x) (hk : k ≤ 600) : okP (ptOf x) = true := valid_of (h.frt hk)
theorem pv_pt (x : Nat × Nat) : pv (ptOf x) = x := by unfold pv ptOf; rw [num_dec, num_dec]
theorem pt_pv {a : P2} (h : okP a = true) : ptOf (pv a) = a := by
  obtain ⟨h1, h2⟩ := valid_dec h
  exact Prod.ext h1 h2
theorem res_sm {k : Nat} {x : Nat × Nat} (h : Sm k x) (hk : k ≤ 600) : resF x = (ptOf x, 0) := by unfold resF; rw [if_pos (h.fits hk)]; rfl
theorem add_pt {k l : Nat} {x y : Nat × Nat} (hx : Sm k x) (hy : Sm l y) (hm : k + l + 1 ≤ 600) : addS (ptOf x) (ptOf y) = (ptOf (addF x y), 0) := by
  rw [addS_ok (pt_ok hx (by omega)) (pt_ok hy (by omega)), pv_pt, pv_pt]; exact res_sm (hx.add hy rfl) hm
theorem mul_pt {k l : Nat} {x y : Nat × Nat} (hx : Sm k x) (hy : Sm l y) (hm : k + l ≤ 600) : mulS (ptOf x) (ptOf y) = (ptOf (mulF x y), 0) := by
  rw [mulS_ok (pt_ok hx (by omega)) (pt_ok hy (by omega)), pv_pt, pv_pt]; exact res_sm (hx.mul hy rfl) hm
theorem back_pt {k l : Nat} {x y : Nat × Nat} (hx : Sm k x) (hy : Sm l y) (hm : k + l + 1 ≤ 600) : subS (ptOf (addF x y)) (ptOf y) = (ptOf x, 0) := by
  rw [subS_ok (pt_ok (hx.add hy rfl) hm) (pt_ok hy (by omega)) (by rw [pv_pt, pv_pt]; exact le_addF hx.fr hy.fr), pv_pt, pv_pt, subF_addF hx.fr hy.fr]
  exact res_sm hx (by omega)
theorem over_pt {k l : Nat} {x y : Nat × Nat} (hx : Sm k x) (hy : Sm l y) (hm : k + l ≤ 600) (h0 : 0 < y.1) : divS (ptOf (mulF x y)) (ptOf y) = (ptOf x, 0) := by
  rw [divS_ok (pt_ok (hx.mul hy rfl) hm) (pt_ok hy (by omega)) (by rw [pv_pt]; omega), pv_pt, pv_pt, div_mulF hx.fr hy.fr h0]
  exact res_sm hx (by omega)
theorem zero_pt {k l : Nat} {x y : Nat × Nat} (hx : Sm k x) (hy : Sm l y) (hm : k + l ≤ 600) (h0 : y.1 = 0) : divS (ptOf (mulF x y)) (ptOf y) = (emptyP, 10) :=
  divS_zero (pt_ok (hx.mul hy rfl) hm) (pt_ok hy (by omega)) (by rw [pv_pt]; exact h0)
theorem okP_nt {a : P2} (h : okP a = true) : isNt a.1 = true ∧ isNt a.2 = true := by
  unfold okP validP at h
  simp only [Bool.and_eq_true] at h
  exact ⟨h.1.1.1, h.1.1.2⟩
theorem num_size {s : ByteArray} {k : Nat} (h : isNt s = true) (hk : s.size ≤ k) : num s < 10 ^ k := by
  obtain ⟨h1, h2⟩ := isNt_parts h
  have h3 := numL_lt _ (isNum_parts h2).2.1
  exact Nat.lt_of_lt_of_le h3 (Nat.pow_le_pow_right (by decide) hk)
theorem sm_of {a : P2} {k : Nat} (h : okP a = true) (h1 : a.1.size ≤ k) (h2 : a.2.size ≤ k) : Sm k (pv a) :=
  ⟨(valid_frt h).fr, num_size (okP_nt h).1 h1, num_size (okP_nt h).2 h2⟩
theorem num_zero {a : P2} (h : okP a = true) : ((pv a).1 = 0) = (a.1 = zeroB) := by
  have h1 := (valid_dec h).1
  apply propext
  constructor
  · intro h0
    rw [← h1, show num a.1 = 0 from h0]; kernel_rfl
  · intro h0
    show num a.1 = 0
    rw [h0]; kernel_rfl
end Go.Proofs.YtkggfeemjabdeaaGreatDoor.Wc
end
section
namespace Go.Proofs.YtkggfeemjabdeaaGreatDoor.Wc
open Go

theorem cmpF_lt {x y : Nat × Nat} (h : x.1 * y.2 < y.1 * x.2) : cmpF x y = -1 := by unfold cmpF; rw [if_pos h]
theorem cmpF_eq {x y : Nat × Nat} (h : x.1 * y.2 = y.1 * x.2) : cmpF x y = 0 := by unfold cmpF; rw [if_neg (by omega), if_pos h]
theorem cmpF_gt {x y : Nat × Nat} (h : y.1 * x.2 < x.1 * y.2) : cmpF x y = 1 := by unfold cmpF; rw [if_neg (by omega), if_neg (by omega)]
/-- Comparing by numbers that are as the fractions are. -/
theorem cmpF_low {n d m e : Nat} (hd : 0 < d) (he : 0 < e) : cmpF (low n d) (low m e) = cmpF (n, d) (m, e) := by
  have h1 := low_val n d
  have h2 := low_val m e
  have p1 := (low_fr (n := n) hd).pos
  have p2 := (low_fr (n := m) he).pos
  generalize low n d = x at *
  generalize low m e = y at *
  have k1 : x.1 * y.2 * (d * e) = n * e * (x.2 * y.2) := by
    rw [show x.1 * y.2 * (d * e) = (x.1 * d) * (y.2 * e) by ac_rfl, h1]; ac_rfl
  have k2 : y.1 * x.2 * (d * e) = m * d * (x.2 * y.2) := by
    rw [show y.1 * x.2 * (d * e) = (y.1 * e) * (x.2 * d) by ac_rfl, h2]; ac_rfl
  have pd : 0 < d * e := Nat.mul_pos hd he
  have px : 0 < x.2 * y.2 := Nat.mul_pos p1 p2
  rcases Nat.lt_trichotomy (n * e) (m * d) with h | h | h
  · have : x.1 * y.2 < y.1 * x.2 := Nat.lt_of_mul_lt_mul_right (a := d * e) (by rw [k1, k2]; exact Nat.mul_lt_mul_of_pos_right h px)
    rw [cmpF_lt this, cmpF_lt h]
  · have : x.1 * y.2 = y.1 * x.2 := Nat.eq_of_mul_eq_mul_right pd (by rw [k1, k2, h])
    rw [cmpF_eq this, cmpF_eq h]
  · have : y.1 * x.2 < x.1 * y.2 := Nat.lt_of_mul_lt_mul_right (a := d * e) (by rw [k1, k2]; exact Nat.mul_lt_mul_of_pos_right h px)
    rw [cmpF_gt this, cmpF_gt h]
theorem cmpF_sum {x y z : Nat × Nat} (hx : Fr x) (hy : Fr y) (hz : Fr z) : cmpF (addF x z) (addF y z) = cmpF x y := by
  have h1 : cmpF (addF x z) (addF y z) = cmpF (x.1 * z.2 + z.1 * x.2, x.2 * z.2) (y.1 * z.2 + z.1 * y.2, y.2 * z.2) := cmpF_low (Nat.mul_pos hx.pos hz.pos) (Nat.mul_pos hy.pos hz.pos)
  rw [h1]
  have pz : 0 < z.2 * z.2 := Nat.mul_pos hz.pos hz.pos
  have k1 : (x.1 * z.2 + z.1 * x.2) * (y.2 * z.2) = x.1 * y.2 * (z.2 * z.2) + z.1 * x.2 * y.2 * z.2 := by
    rw [Nat.add_mul, show x.1 * z.2 * (y.2 * z.2) = x.1 * y.2 * (z.2 * z.2) by ac_rfl, show z.1 * x.2 * (y.2 * z.2) = z.1 * x.2 * y.2 * z.2 by ac_rfl]
  have k2 : (y.1 * z.2 + z.1 * y.2) * (x.2 * z.2) = y.1 * x.2 * (z.2 * z.2) + z.1 * x.2 * y.2 * z.2 := by
    rw [Nat.add_mul, show y.1 * z.2 * (x.2 * z.2) = y.1 * x.2 * (z.2 * z.2) by ac_rfl, show z.1 * y.2 * (x.2 * z.2) = z.1 * x.2 * y.2 * z.2 by ac_rfl]
  rcases Nat.lt_trichotomy (x.1 * y.2) (y.1 * x.2) with h | h | h
  · have := Nat.mul_lt_mul_of_pos_right h pz
    rw [cmpF_lt h, cmpF_lt (by show (_ : Nat) < _; rw [k1, k2]; omega)]
  · rw [cmpF_eq h, cmpF_eq (by show (_ : Nat) = _; rw [k1, k2, h])]
  · have := Nat.mul_lt_mul_of_pos_right h pz
    rw [cmpF_gt h, cmpF_gt (by show (_ : Nat) < _; rw [k1, k2]; omega)]
theorem cmpF_prod {x y z : Nat × Nat} (hx : Fr x) (hy : Fr y) (hz : Fr z) (h0 : 0 < z.1) : cmpF (mulF x z) (mulF y z) = cmpF x y := by
  have h1 : cmpF (mulF x z) (mulF y z) = cmpF (x.1 * z.1, x.2 * z.2) (y.1 * z.1, y.2 * z.2) := cmpF_low (Nat.mul_pos hx.pos hz.pos) (Nat.mul_pos hy.pos hz.pos)
  rw [h1]
  have pz : 0 < z.1 * z.2 := Nat.mul_pos h0 hz.pos
  have k1 : x.1 * z.1 * (y.2 * z.2) = x.1 * y.2 * (z.1 * z.2) := by ac_rfl
  have k2 : y.1 * z.1 * (x.2 * z.2) = y.1 * x.2 * (z.1 * z.2) := by ac_rfl
  rcases Nat.lt_trichotomy (x.1 * y.2) (y.1 * x.2) with h | h | h
  · rw [cmpF_lt h, cmpF_lt (by show (_ : Nat) < _; rw [k1, k2]; exact Nat.mul_lt_mul_of_pos_right h pz)]
  · rw [cmpF_eq h, cmpF_eq (by show (_ : Nat) = _; rw [k1, k2, h])]
  · rw [cmpF_gt h, cmpF_gt (by show (_ : Nat) < _; rw [k1, k2]; exact Nat.mul_lt_mul_of_pos_right h pz)]
theorem cmpF_prod0 {x y z : Nat × Nat} (hx : Fr x) (hy : Fr y) (hz : Fr z) (h0 : z.1 = 0) : cmpF (mulF x z) (mulF y z) = 0 := by
  have h1 : cmpF (mulF x z) (mulF y z) = cmpF (x.1 * z.1, x.2 * z.2) (y.1 * z.1, y.2 * z.2) := cmpF_low (Nat.mul_pos hx.pos hz.pos) (Nat.mul_pos hy.pos hz.pos)
  rw [h1]
  exact cmpF_eq (by show x.1 * z.1 * _ = y.1 * z.1 * _; rw [h0]; simp)
theorem cmpF_swap (x y : Nat × Nat) : cmpF y x = - cmpF x y := by
  rcases Nat.lt_trichotomy (x.1 * y.2) (y.1 * x.2) with h | h | h
  · rw [cmpF_lt h, cmpF_gt h]; rfl
  · rw [cmpF_eq h, cmpF_eq h.symm]; rfl
  · rw [cmpF_gt h, cmpF_lt h]
end Go.Proofs.YtkggfeemjabdeaaGreatDoor.Wc
end
