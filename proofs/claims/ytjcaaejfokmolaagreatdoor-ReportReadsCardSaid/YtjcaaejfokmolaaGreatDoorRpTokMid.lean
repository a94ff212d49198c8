/- Several parts: The document's words of a line. The document's word. The document's name. -/
import Derived.Test.YtjcaaejfokmolaaGreatDoorRpTokBase
import Derived.Test.YtjcaaejfokmolaaGreatDoorRpTake
import Derived.Laws.IdiomStrings
import Derived.Laws.OwnMore
import Derived.Laws.AppendOwn
import Derived.IntWalk
import Derived.RegionTactic
/- The document's words of a line. -/
namespace Go.Proofs.YtjcaaejfokmolaaGreatDoor
open Go.RowKit

theorem mem_len : ∀ (ws : List (List UInt8)) (w : List UInt8), w ∈ ws → w.length ≤ (joinW ws).length
  | [], _, h => by cases h
  | [a], w, h => by simp at h; subst h; exact Nat.le_refl _
  | a :: b :: r, w, h => by
    rw [joinW_cons (w := a) (r := b :: r) (by simp), List.length_append, List.length_cons]
    rcases List.mem_cons.1 h with rfl | h
    · omega
    · have := mem_len (b :: r) w h; omega
theorem tok_len (l : List UInt8) (i : Nat) : (tok (toks l) i).length ≤ l.length := by
  by_cases h : i < (toks l).length
  · have e : tok (toks l) i = (toks l)[i] := by unfold tok; rw [List.getD_eq_getElem?_getD, List.getElem?_eq_getElem h]; rfl
    have := mem_len (toks l) _ (List.getElem_mem h)
    rw [join_toks] at this
    rw [e]; exact this
  · rw [tok_end h]; exact Nat.zero_le _
theorem toks_blank : ∀ l : List UInt8, toks (l ++ [32]) = toks l ++ [[]]
  | [] => rfl
  | c :: r => by
    have ih := toks_blank r
    rw [List.cons_append, toks, toks, ih]
    by_cases h : c = 32
    · rw [if_pos h, if_pos h]; rfl
    · rw [if_neg h, if_neg h]
      cases e : toks r with
      | nil => exact absurd e (toks_ne r)
      | cons t ts => rfl
theorem toks_more : ∀ (l : List UInt8) (c : UInt8), c ≠ 32 → ∃ r w, toks l = r ++ [w] ∧ toks (l ++ [c]) = r ++ [w ++ [c]]
  | [], c, h => ⟨[], [], rfl, by rw [List.nil_append, toks, if_neg h]; rfl⟩
  | d :: l, c, h => by
    obtain ⟨r, w, e1, e2⟩ := toks_more l c h
    rw [List.cons_append, toks, toks]
    by_cases hd : d = 32
    · rw [if_pos hd, if_pos hd, e1, e2]; exact ⟨[] :: r, w, rfl, rfl⟩
    · rw [if_neg hd, if_neg hd, e1, e2]
      cases r with
      | nil => exact ⟨[], d :: w, rfl, rfl⟩
      | cons t ts => exact ⟨(d :: t) :: ts, w, rfl, rfl⟩
def cellsW (ws : List (List UInt8)) : List Value := (List.range ws.length).flatMap fun i => [.string ⟨(tok ws i).toArray⟩, .int .i64 (pos ws i)]
theorem tok_app {ws : List (List UInt8)} {w : List UInt8} {i : Nat} (h : i < ws.length) : tok (ws ++ [w]) i = tok ws i := by
  unfold tok; rw [List.getD_eq_getElem?_getD, List.getD_eq_getElem?_getD, List.getElem?_append_left h]
theorem tok_last (ws : List (List UInt8)) (w : List UInt8) : tok (ws ++ [w]) ws.length = w := by
  unfold tok; rw [List.getD_eq_getElem?_getD]; simp
theorem pos_app {ws : List (List UInt8)} {w : List UInt8} : ∀ {i : Nat}, i ≤ ws.length → pos (ws ++ [w]) i = pos ws i
  | 0, _ => rfl
  | i + 1, h => by
    have := pos_app (ws := ws) (w := w) (i := i) (by omega)
    show pos (ws ++ [w]) i + (tok (ws ++ [w]) i).length + 1 = pos ws i + (tok ws i).length + 1
    rw [this, tok_app (by omega)]
theorem cells_snoc (ws : List (List UInt8)) (w : List UInt8) : cellsW (ws ++ [w]) = cellsW ws ++ [.string ⟨w.toArray⟩, .int .i64 (pos ws ws.length)] := by
  unfold cellsW
  rw [List.length_append, List.length_singleton, List.range_succ, List.flatMap_append]
  congr 1
  · unfold List.flatMap
    congr 1
    apply List.map_congr_left
    intro i hi
    have hi := List.mem_range.1 hi
    rw [tok_app hi, pos_app (Nat.le_of_lt hi)]
  · rw [List.flatMap_singleton, tok_last, pos_app (Nat.le_refl _)]
theorem cells_len : ∀ (n : Nat) (f : Nat → List Value), (∀ i, (f i).length = 2) → ((List.range n).flatMap f).length = n * 2
  | 0, _, _ => rfl
  | n + 1, f, h => by
    rw [List.range_succ, List.flatMap_append, List.length_append, cells_len n f h, List.flatMap_singleton, h n]; omega
theorem cellsW_len (ws : List (List UInt8)) : (cellsW ws).length = ws.length * 2 := cells_len _ _ fun _ => rfl
theorem flat_at : ∀ (n : Nat) (f : Nat → Value × Value) (i : Nat), i < n → ((List.range n).flatMap fun i => [(f i).1, (f i).2])[i * 2]? = some (f i).1 ∧ ((List.range n).flatMap fun i => [(f i).1, (f i).2])[i * 2 + 1]? = some (f i).2
  | 0, _, _, h => absurd h (Nat.not_lt_zero _)
  | n + 1, f, i, h => by
    have hl := cells_len n (fun i => [(f i).1, (f i).2]) fun _ => rfl
    rw [List.range_succ, List.flatMap_append, List.flatMap_singleton]
    by_cases e : i < n
    · obtain ⟨h1, h2⟩ := flat_at n f i e
      rw [List.getElem?_append_left (by rw [hl]; omega), List.getElem?_append_left (by rw [hl]; omega)]
      exact ⟨h1, h2⟩
    · have e : i = n := by omega
      subst e
      rw [List.getElem?_append_right (by rw [hl]; omega), List.getElem?_append_right (by rw [hl]; omega), hl]
      rw [show i * 2 - i * 2 = 0 by omega, show i * 2 + 1 - i * 2 = 1 by omega]
      exact ⟨rfl, rfl⟩
theorem cellsW_at {ws : List (List UInt8)} {i : Nat} (h : i < ws.length) : (cellsW ws)[i * 2]? = some (.string ⟨(tok ws i).toArray⟩) ∧ (cellsW ws)[i * 2 + 1]? = some (.int .i64 (pos ws i)) :=
  flat_at ws.length (fun i => (.string ⟨(tok ws i).toArray⟩, .int .i64 (pos ws i))) i h
theorem parts_of_own {w : World} {base : Nat} {v : Value} {ws : List (List UInt8)} (hne : ws ≠ []) (h : w.ownsRow base 125 2 v ws.length (cellsW ws)) : PartsAt w v ws := by
  rcases h.2 with ⟨rfl, hn⟩ | ⟨g, cap, cur, rfl, _, hh, hc, _⟩
  · exact absurd (List.eq_nil_of_length_eq_zero hn) hne
  · refine ⟨g, cap, rfl, hc, (Array.getElem?_eq_some_iff.1 hh).1, fun i hi => ?_⟩
    obtain ⟨h1, h2⟩ := cellsW_at hi
    have c1 := h.cells (g := g) rfl _ _ h1
    have c2 := h.cells (g := g) rfl _ _ h2
    rw [addr_add] at c1 c2
    exact ⟨c1, c2⟩
theorem infoPart : (Tryz.prog.info? 125).map (fun i => (i.zero, i.size, i.bytes)) = some (some (.agg #[.string ⟨#[]⟩, .int .i64 0]), 2, 24) := by kernel_rfl
theorem own_slice {w : World} {base e size n : Nat} {v : Value} {xs : List Value} (h : w.ownsRow base e size v n xs) (hn : n ≠ 0) : ∃ g cap, v = .slice (some ⟨g, 0, none⟩) n cap ∧ base ≤ g ∧ g < w.heap.size ∧ n ≤ cap := by
  rcases h.2 with ⟨rfl, rfl⟩ | ⟨g, cap, cur, rfl, h1, h2, h3, _⟩
  · exact absurd rfl hn
  · exact ⟨g, cap, rfl, h1, (Array.getElem?_eq_some_iff.1 h2).1, h3⟩
theorem cells_set (r : List (List UInt8)) (w w' : List UInt8) : (cellsW (r ++ [w])).set (r.length * 2) (.string ⟨w'.toArray⟩) = cellsW (r ++ [w']) := by
  rw [cells_snoc, cells_snoc, List.set_append_right _ _ (by rw [cellsW_len]; exact Nat.le_refl _), cellsW_len, Nat.sub_self]; rfl

set_option maxRecDepth 100000 in
set_option maxHeartbeats 4000000 in
theorem refParts_any (s : ByteArray) (w : World) (hs : s.size ≤ 1000) :
    Calls Tryz.prog 52 #[.string s] w fun e w' => ∃ v, e = .returned v ∧ PartsAt w' v (toks s.data.toList) ∧ Below w.heap.size w w' := by
  obtain ⟨i0, hi, hz0, hz1, hz2⟩ := info_parts infoPart
  have OWN0 : Hid ((w.alloc (.cells #[.string ⟨#[]⟩, .int .i64 0] 125)).ownsRow w.heap.size 125 2 (.slice (some ⟨w.heap.size, 0, none⟩) 1 1) 1 (cellsW [[]])) := Lib.hid (World.ownsRow_lit w #[.string ⟨#[]⟩, .int .i64 0] 1 (Nat.le_refl _) (by unfold maxLen; omega) rfl)
  go_enter Tryz.func52, Tryz.ntmps52
  go_wp2
  go_loopw [3, 4] (fun ov iv wr => ∃ k : Nat, k ≤ s.size ∧ iv = .int .i64 k ∧ Hid (wr.ownsRow w.heap.size 125 2 ov (toks (s.data.toList.take k)).length (cellsW (toks (s.data.toList.take k))) ∧ (toks (s.data.toList.take k)).length ≤ k + 1 ∧ Below w.heap.size w wr)) (fun _ iv _ => s.size - (intOf iv).toNat)
  case atStart => exact ⟨0, Nat.zero_le _, rfl, Lib.hid ⟨OWN0.out, by show 1 ≤ 0 + 1; omega, new_below _ _⟩⟩
  case round =>
    obtain ⟨k, hk, rfl, HI⟩ := hrel
    obtain ⟨g, cap, hov, hbg, hgw, hcap⟩ := own_slice HI.out.1 (by have := toks_ne (s.data.toList.take k); intro e; exact this (List.eq_nil_of_length_eq_zero e))
    subst hov
    by_cases hlt : k < s.size
    · have htk : s.data.toList.take (k + 1) = s.data.toList.take k ++ [s[k]] := List.take_succ_eq_append_getElem (by rw [← Lib.size_eq]; exact hlt)
      by_cases hb : s[k] = 32
      · have r1 : ((s[k].toNat : Int) == 32) = true := by rw [hb]; rfl
        have r2 : (s[k].toNat : Int) = 32 := by rw [hb]; rfl
        have HT : Hid (toks (s.data.toList.take (k + 1)) = toks (s.data.toList.take k) ++ [[]]) := Lib.hid (by rw [htk, hb]; exact toks_blank _)
        have HP : Hid (pos (toks (s.data.toList.take k)) (toks (s.data.toList.take k)).length = k + 1) := Lib.hid (by have := Lib.size_eq s; rw [words_end _ (toks_ne _), join_toks, List.length_take]; omega)
        clear hb htk
        generalize toks (s.data.toList.take k) = ws at HI HT HP hcap ⊢
        obtain ⟨n, hn⟩ : ∃ n, n = ws.length := ⟨_, rfl⟩
        have HN := Lib.hid hn
        have HO : Hid (wr.ownsRow w.heap.size 125 2 (.slice (some ⟨g, 0, none⟩) n cap) n (cellsW ws) ∧ n ≤ k + 1 ∧ Below w.heap.size w wr) := Lib.hid (by rw [hn]; exact HI.out)
        rw [← hn] at hcap ⊢
        clear hn HI hcap
        go_wp2_with (at_builtin; refine wpList_append_own _ rfl _ _ 83 rfl w.heap.size 125 i0 (.agg #[.string ⟨#[]⟩, .int .i64 0]) 2 24 Tryz.underlying83 hi hz0 hz1 hz2 rfl (by decide) (.slice (some ⟨g, 0, none⟩) n cap) n (cellsW ws) rfl (HO.out.1.alloc _) ⟨wr.heap.size, 0, none⟩ 1 1 [.string ⟨#[]⟩, .int .i64 (k + 1)] rfl rfl (two_new _ _ _ _) ?c2 ?c3 ?c4 ?c5 ?_)
        case c2 => intro u hu; simp at hu; rcases hu with rfl | rfl <;> rfl
        case c3 => have := HO.out.2.1; unfold maxLen; omega
        case c4 => have := HO.out.2.1; omega
        case c5 => have := HO.out.2.2.size; simp; omega
        intro v' w3 hown' hgrow _
        have HR : Hid (w3.ownsRow w.heap.size 125 2 v' (toks (s.data.toList.take (k + 1))).length (cellsW (toks (s.data.toList.take (k + 1)))) ∧ (toks (s.data.toList.take (k + 1))).length ≤ k + 1 + 1 ∧ Below w.heap.size w w3) := Lib.hid (by
          rw [HT.out, cells_snoc, HP.out, List.length_append, ← HN.out]
          refine ⟨hown', ?_, ?_⟩
          · have := HO.out.2.1; simp; omega
          · exact (HO.out.2.2.alloc HO.out.2.2.size _).grown hgrow (HO.out.2.2.alloc HO.out.2.2.size _).size (fun j hj => (HO.out.1.lt j hj).1))
        clear hown' hgrow
        go_wp2
        go_roundw
        case rel => exact ⟨k + 1, by omega, by go_num, HR⟩
        case measure => simp [intOf]; omega
      · obtain ⟨r, wd, e1, e2⟩ := toks_more (s.data.toList.take k) s[k] hb
        have q1 : ((s[k].toNat : Int) == 32) = false := by
          rw [beq_eq_false_iff_ne]; intro e
          exact hb (UInt8.toNat_inj.1 (by have : s[k].toNat = 32 := by omega
                                          rw [this]; rfl))
        have q2 : ¬ (s[k].toNat : Int) = 32 := by simpa using q1
        rw [← htk] at e2
        obtain ⟨m, hm⟩ : ∃ m, m = r.length := ⟨_, rfl⟩
        rw [e1, List.length_append, List.length_singleton, ← hm] at HI hcap
        have HE2 := Lib.hid e2
        obtain ⟨bw, hbw⟩ : ∃ b : ByteArray, b = ⟨wd.toArray⟩ := ⟨_, rfl⟩
        have c1 : wr.cell? ⟨g, m * 2, none⟩ = some (.string bw) := by
          rw [HI.out.1.cellAt (m * 2) (by omega), hm, (cellsW_at (by simp)).1, tok_last, hbw]
        have c2 : wr.frozen? ⟨g, m * 2, none⟩ = false := HI.out.1.frozenAt _
        have HNEW : Hid ((⟨(wd ++ [s[k]]).toArray⟩ : ByteArray) = bw ++ ⟨#[s[k]]⟩) := Lib.hid (by rw [hbw]; apply ByteArray.ext; simp)
        have hbs : bw.size ≤ 1000 := by
          have h1 := mem_len (toks (s.data.toList.take k)) wd (by rw [e1]; simp)
          rw [join_toks, List.length_take] at h1
          have h2 : bw.size = wd.length := by rw [hbw]; exact Lib.size_eq _
          omega
        have HM := Lib.hid hm; have HBW := Lib.hid hbw
        have hmk : m ≤ k := by have := HI.out.2.1; omega
        have hL : (toks (s.data.toList.take k)).length = m + 1 := by rw [e1, hm]; simp
        rw [hL]
        clear hb htk e1 e2 hm hbw hL
        have i1 : IntKind.i64.wrap (m : Int) = m := IntWalk.i64_in _ (by omega)
        have i2 : (0 : Int) ≤ m := by omega
        have i3 : (m : Int) < m + 1 := by omega
        have i4 : ¬ 9223372036854775807 < bw.size + 1 := by omega
        go_wp2_with fail
        refine wp_region_held_drew (S := fun _ => True) (by kernel_rfl) trivial (fun hHeld => ?_)
        refine takeH (i := 0) (n := 23) (v := .slice (some ⟨g, 0, none⟩) (m + 1) cap) rfl rfl (by kernel_rfl) (by kernel_rfl) (by kernel_rfl) (fun _ _ _ h => h) (Or.inl ⟨by kernel_rfl, ?_⟩) trivial ?_
        · intro w hSw; (try dsimp only at hSw); go_simp
        try simp only [Act.put, List.setIfInBounds_toArray, List.set_cons_zero, List.set_cons_succ]
        refine takeH (i := 1) (n := 24) (v := .slice (some ⟨g, 0, none⟩) (m + 1) cap) rfl rfl (by kernel_rfl) (by kernel_rfl) (by kernel_rfl) (fun _ _ _ h => h) (Or.inl ⟨by kernel_rfl, ?_⟩) trivial ?_
        · intro w hSw; (try dsimp only at hSw); go_simp
        try simp only [Act.put, List.setIfInBounds_toArray, List.set_cons_zero, List.set_cons_succ]
        refine takeH (i := 2) (n := 25) (v := .int .i64 ((m : Int) + 1)) rfl rfl (by kernel_rfl) (by kernel_rfl) (by kernel_rfl) (fun _ _ _ h => h) (Or.inl ⟨by kernel_rfl, ?_⟩) trivial ?_
        · intro w hSw; (try dsimp only at hSw); go_simp
        try simp only [Act.put, List.setIfInBounds_toArray, List.set_cons_zero, List.set_cons_succ]
        refine takeH (i := 3) (n := 26) (v := .int .i64 m) rfl rfl (by kernel_rfl) (by kernel_rfl) (by kernel_rfl) (fun _ _ _ h => h) (Or.inl ⟨by kernel_rfl, ?_⟩) trivial ?_
        · intro w hSw; (try dsimp only at hSw); go_simp
        try simp only [Act.put, List.setIfInBounds_toArray, List.set_cons_zero, List.set_cons_succ]
        refine takeH (i := 4) (n := 27) (v := .slice (some ⟨g, 0, none⟩) (m + 1) cap) rfl rfl (by kernel_rfl) (by kernel_rfl) (by kernel_rfl) (fun _ _ _ h => h) (Or.inl ⟨by kernel_rfl, ?_⟩) trivial ?_
        · intro w hSw; (try dsimp only at hSw); go_simp
        try simp only [Act.put, List.setIfInBounds_toArray, List.set_cons_zero, List.set_cons_succ]
        refine takeH (i := 5) (n := 28) (v := .slice (some ⟨g, 0, none⟩) (m + 1) cap) rfl rfl (by kernel_rfl) (by kernel_rfl) (by kernel_rfl) (fun _ _ _ h => h) (Or.inl ⟨by kernel_rfl, ?_⟩) trivial ?_
        · intro w hSw; (try dsimp only at hSw); go_simp
        try simp only [Act.put, List.setIfInBounds_toArray, List.set_cons_zero, List.set_cons_succ]
        refine takeH (i := 6) (n := 29) (v := .int .i64 ((m : Int) + 1)) rfl rfl (by kernel_rfl) (by kernel_rfl) (by kernel_rfl) (fun _ _ _ h => h) (Or.inl ⟨by kernel_rfl, ?_⟩) trivial ?_
        · intro w hSw; (try dsimp only at hSw); go_simp
        try simp only [Act.put, List.setIfInBounds_toArray, List.set_cons_zero, List.set_cons_succ]
        refine takeH (i := 7) (n := 30) (v := .int .i64 m) rfl rfl (by kernel_rfl) (by kernel_rfl) (by kernel_rfl) (fun _ _ _ h => h) (Or.inl ⟨by kernel_rfl, ?_⟩) trivial ?_
        · intro w hSw; (try dsimp only at hSw); go_simp
        try simp only [Act.put, List.setIfInBounds_toArray, List.set_cons_zero, List.set_cons_succ]
        refine takeH (i := 8) (n := 31) (v := .pointer (some ⟨g, m * 2, none⟩)) rfl rfl (by kernel_rfl) (by kernel_rfl) (by kernel_rfl) (fun _ _ _ h => h) (Or.inl ⟨by kernel_rfl, ?_⟩) trivial ?_
        · intro w hSw; (try dsimp only at hSw); go_simp
        try simp only [Act.put, List.setIfInBounds_toArray, List.set_cons_zero, List.set_cons_succ]
        refine takeH (i := 9) (n := 32) (v := .pointer (some ⟨g, m * 2, none⟩)) rfl rfl (by kernel_rfl) (by kernel_rfl) (by kernel_rfl) (fun _ _ _ h => h) (Or.inl ⟨by kernel_rfl, ?_⟩) trivial ?_
        · intro w hSw; (try dsimp only at hSw); go_simp
        try simp only [Act.put, List.setIfInBounds_toArray, List.set_cons_zero, List.set_cons_succ]
        refine takeH (i := 11) (n := 34) (v := .string s) rfl rfl (by kernel_rfl) (by kernel_rfl) (by kernel_rfl) (fun _ _ _ h => h) (Or.inl ⟨by kernel_rfl, ?_⟩) trivial ?_
        · intro w hSw; (try dsimp only at hSw); go_simp
        try simp only [Act.put, List.setIfInBounds_toArray, List.set_cons_zero, List.set_cons_succ]
        refine takeH (i := 12) (n := 35) (v := .int .i64 k) rfl rfl (by kernel_rfl) (by kernel_rfl) (by kernel_rfl) (fun _ _ _ h => h) (Or.inl ⟨by kernel_rfl, ?_⟩) trivial ?_
        · intro w hSw; (try dsimp only at hSw); go_simp
        try simp only [Act.put, List.setIfInBounds_toArray, List.set_cons_zero, List.set_cons_succ]
        refine takeH (i := 13) (n := 36) (v := .int .u8 s[k].toNat) rfl rfl (by kernel_rfl) (by kernel_rfl) (by kernel_rfl) (fun _ _ _ h => h) (Or.inl ⟨by kernel_rfl, ?_⟩) trivial ?_
        · intro w hSw; (try dsimp only at hSw); go_simp
        try simp only [Act.put, List.setIfInBounds_toArray, List.set_cons_zero, List.set_cons_succ]
        refine wpAnyH_ready (rs := [10, 14]) (by kernel_rfl) (by simp) ?_
        refine AllReadyH.cons rfl (fun K hK => ?_) (AllReadyH.cons rfl (fun K hK => ?_) AllReadyH.nil)
        · try rw [if_pos (by kernel_rfl)]
          try go_simp
          refine hK.out _ _ trivial (fun _ => ?_)
          clear hK K
          try simp only [Act.put, List.getElem_toArray, List.getElem_cons_succ, List.getElem_cons_zero, List.setIfInBounds_toArray, List.set_cons_zero, List.set_cons_succ]
          refine wpAnyH_ready (rs := [14]) (by kernel_rfl) (by simp) ?_
          refine AllReadyH.cons rfl (fun K hK => ?_) AllReadyH.nil
          try rw [if_pos (by kernel_rfl)]
          try go_simp
          have k1 : (wr.alloc (.cells #[.int .u8 s[k].toNat] 5)).drew.cell? ⟨g, m * 2, none⟩ = some (.string bw) := (Below.cell (p := ⟨g, m * 2, none⟩) (new_below _ _) hgw).trans c1
          have k2 : (wr.alloc (.cells #[.int .u8 s[k].toNat] 5)).drew.frozen? ⟨g, m * 2, none⟩ = false := (Below.frozen (p := ⟨g, m * 2, none⟩) (new_below _ _) hgw).trans c2
          obtain ⟨W, hW⟩ : ∃ W, W = (wr.alloc (.cells #[.int .u8 s[k].toNat] 5)).drew := ⟨_, rfl⟩
          have hcv : (convert 111 9 (.slice (some ⟨wr.heap.size, 0, none⟩) 1 1)).run Tryz.prog W = .ok (.string ⟨#[s[k]]⟩) W := by
            have := run_convert_bytes_back (P := Tryz.prog) W 111 9 5 ⟨wr.heap.size, 0, none⟩ 1 [s[k]] Tryz.underlying111 Tryz.underlying5 Tryz.underlying9 (fun j hj => by
              have : j = 0 := by simpa using hj
              subst this
              rw [hW]; simp [Addr.add])
            simpa using this
          have HBW2 : Hid (Below wr.heap.size wr W) := Lib.hid (by rw [hW]; exact (new_below _ _).drew)
          rw [← hW] at k1 k2
          rw [← hW]
          clear hW
          refine hK.out _ _ trivial (fun _ => ?_)
          clear hK K
          try simp only [Act.put, List.getElem_toArray, List.getElem_cons_succ, List.getElem_cons_zero, List.setIfInBounds_toArray, List.set_cons_zero, List.set_cons_succ]
          refine wpAnyH_ready (rs := [15]) (by kernel_rfl) (by simp) ?_
          refine AllReadyH.cons rfl (fun K hK => ?_) AllReadyH.nil
          try rw [if_pos (by kernel_rfl)]
          try go_simp
          refine hK.out _ _ trivial (fun _ => ?_)
          clear hK K
          try simp only [Act.put, List.getElem_toArray, List.getElem_cons_succ, List.getElem_cons_zero, List.setIfInBounds_toArray, List.set_cons_zero, List.set_cons_succ]
          refine wpAnyH_ready (rs := [16]) (by kernel_rfl) (by simp) ?_
          refine AllReadyH.cons rfl (fun K hK => ?_) AllReadyH.nil
          try rw [if_pos (by kernel_rfl)]
          try go_simp
          refine hK.out _ _ trivial (fun _ => ?_)
          clear hK K
          try simp only [Act.put, List.getElem_toArray, List.getElem_cons_succ, List.getElem_cons_zero, List.setIfInBounds_toArray, List.set_cons_zero, List.set_cons_succ]
          refine wpAnyH_ready (rs := [17]) (by kernel_rfl) (by simp) ?_
          refine AllReadyH.cons rfl (fun K hK => ?_) AllReadyH.nil
          try rw [if_pos (by kernel_rfl)]
          try go_simp
          refine hK.out _ _ trivial (fun _ => ?_)
          clear hK K
          try simp only [Act.put, List.getElem_toArray, List.getElem_cons_succ, List.getElem_cons_zero, List.setIfInBounds_toArray, List.set_cons_zero, List.set_cons_succ]
          refine wpAnyH_ready (rs := [18]) (by kernel_rfl) (by simp) ?_
          refine AllReadyH.cons rfl (fun K hK => ?_) AllReadyH.nil
          try rw [if_pos (by kernel_rfl)]
          try go_simp
          refine hK.out _ _ trivial (fun _ => ?_)
          clear hK K
          try simp only [Act.put, List.getElem_toArray, List.getElem_cons_succ, List.getElem_cons_zero, List.setIfInBounds_toArray, List.set_cons_zero, List.set_cons_succ]
          refine wpAnyH_ready (rs := [19]) (by kernel_rfl) (by simp) ?_
          refine AllReadyH.cons rfl (fun K hK => ?_) AllReadyH.nil
          try rw [if_pos (by kernel_rfl)]
          try go_simp
          refine hK.out _ _ trivial (fun _ => ?_)
          clear hK K
          try simp only [Act.put, List.getElem_toArray, List.getElem_cons_succ, List.getElem_cons_zero, List.setIfInBounds_toArray, List.set_cons_zero, List.set_cons_succ]
          refine wpAnyH_done (by kernel_rfl) ?_ _
          have HR : Hid ((W.setCell ⟨g, m * 2, none⟩ (.string (bw ++ ⟨#[s[k]]⟩))).ownsRow w.heap.size 125 2 (.slice (some ⟨g, 0, none⟩) (m + 1) cap) (toks (s.data.toList.take (k + 1))).length (cellsW (toks (s.data.toList.take (k + 1)))) ∧ (toks (s.data.toList.take (k + 1))).length ≤ k + 1 + 1 ∧ Below w.heap.size w (W.setCell ⟨g, m * 2, none⟩ (.string (bw ++ ⟨#[s[k]]⟩)))) := Lib.hid (by
            have h1 := (HI.out.1.kept (grown_below (r := none) HBW2.out) (Or.inr (fun h => by cases h))).stored (m * 2) (.string (bw ++ ⟨#[s[k]]⟩))
            rw [HE2.out, List.length_append, List.length_singleton, ← HM.out, ← cells_set r wd, HNEW.out, ← HM.out]
            refine ⟨h1.1, by omega, ?_⟩
            exact (HI.out.2.2.trans (HBW2.out.mono HI.out.2.2.size)).setCell (p := ⟨g, m * 2, none⟩) hbg _)
          clear k1 k2 hcv HBW2 c1 c2
          go_wp2
          go_roundw
          case rel => exact ⟨k + 1, by omega, by go_num, HR⟩
          case measure => simp [intOf]; omega
        · try rw [if_pos (by kernel_rfl)]
          try go_simp
          have k1 : (wr.alloc (.cells #[.int .u8 s[k].toNat] 5)).drew.cell? ⟨g, m * 2, none⟩ = some (.string bw) := (Below.cell (p := ⟨g, m * 2, none⟩) (new_below _ _) hgw).trans c1
          have k2 : (wr.alloc (.cells #[.int .u8 s[k].toNat] 5)).drew.frozen? ⟨g, m * 2, none⟩ = false := (Below.frozen (p := ⟨g, m * 2, none⟩) (new_below _ _) hgw).trans c2
          obtain ⟨W, hW⟩ : ∃ W, W = (wr.alloc (.cells #[.int .u8 s[k].toNat] 5)).drew := ⟨_, rfl⟩
          have hcv : (convert 111 9 (.slice (some ⟨wr.heap.size, 0, none⟩) 1 1)).run Tryz.prog W = .ok (.string ⟨#[s[k]]⟩) W := by
            have := run_convert_bytes_back (P := Tryz.prog) W 111 9 5 ⟨wr.heap.size, 0, none⟩ 1 [s[k]] Tryz.underlying111 Tryz.underlying5 Tryz.underlying9 (fun j hj => by
              have : j = 0 := by simpa using hj
              subst this
              rw [hW]; simp [Addr.add])
            simpa using this
          have HBW2 : Hid (Below wr.heap.size wr W) := Lib.hid (by rw [hW]; exact (new_below _ _).drew)
          rw [← hW] at k1 k2
          rw [← hW]
          clear hW
          refine hK.out _ _ trivial (fun _ => ?_)
          clear hK K
          try simp only [Act.put, List.getElem_toArray, List.getElem_cons_succ, List.getElem_cons_zero, List.setIfInBounds_toArray, List.set_cons_zero, List.set_cons_succ]
          refine wpAnyH_ready (rs := [10, 15]) (by kernel_rfl) (by simp) ?_
          refine AllReadyH.cons rfl (fun K hK => ?_) (AllReadyH.cons rfl (fun K hK => ?_) AllReadyH.nil)
          · try rw [if_pos (by kernel_rfl)]
            try go_simp
            refine hK.out _ _ trivial (fun _ => ?_)
            clear hK K
            try simp only [Act.put, List.getElem_toArray, List.getElem_cons_succ, List.getElem_cons_zero, List.setIfInBounds_toArray, List.set_cons_zero, List.set_cons_succ]
            refine wpAnyH_ready (rs := [15]) (by kernel_rfl) (by simp) ?_
            refine AllReadyH.cons rfl (fun K hK => ?_) AllReadyH.nil
            try rw [if_pos (by kernel_rfl)]
            try go_simp
            refine hK.out _ _ trivial (fun _ => ?_)
            clear hK K
            try simp only [Act.put, List.getElem_toArray, List.getElem_cons_succ, List.getElem_cons_zero, List.setIfInBounds_toArray, List.set_cons_zero, List.set_cons_succ]
            refine wpAnyH_ready (rs := [16]) (by kernel_rfl) (by simp) ?_
            refine AllReadyH.cons rfl (fun K hK => ?_) AllReadyH.nil
            try rw [if_pos (by kernel_rfl)]
            try go_simp
            refine hK.out _ _ trivial (fun _ => ?_)
            clear hK K
            try simp only [Act.put, List.getElem_toArray, List.getElem_cons_succ, List.getElem_cons_zero, List.setIfInBounds_toArray, List.set_cons_zero, List.set_cons_succ]
            refine wpAnyH_ready (rs := [17]) (by kernel_rfl) (by simp) ?_
            refine AllReadyH.cons rfl (fun K hK => ?_) AllReadyH.nil
            try rw [if_pos (by kernel_rfl)]
            try go_simp
            refine hK.out _ _ trivial (fun _ => ?_)
            clear hK K
            try simp only [Act.put, List.getElem_toArray, List.getElem_cons_succ, List.getElem_cons_zero, List.setIfInBounds_toArray, List.set_cons_zero, List.set_cons_succ]
            refine wpAnyH_ready (rs := [18]) (by kernel_rfl) (by simp) ?_
            refine AllReadyH.cons rfl (fun K hK => ?_) AllReadyH.nil
            try rw [if_pos (by kernel_rfl)]
            try go_simp
            refine hK.out _ _ trivial (fun _ => ?_)
            clear hK K
            try simp only [Act.put, List.getElem_toArray, List.getElem_cons_succ, List.getElem_cons_zero, List.setIfInBounds_toArray, List.set_cons_zero, List.set_cons_succ]
            refine wpAnyH_ready (rs := [19]) (by kernel_rfl) (by simp) ?_
            refine AllReadyH.cons rfl (fun K hK => ?_) AllReadyH.nil
            try rw [if_pos (by kernel_rfl)]
            try go_simp
            refine hK.out _ _ trivial (fun _ => ?_)
            clear hK K
            try simp only [Act.put, List.getElem_toArray, List.getElem_cons_succ, List.getElem_cons_zero, List.setIfInBounds_toArray, List.set_cons_zero, List.set_cons_succ]
            refine wpAnyH_done (by kernel_rfl) ?_ _
            have HR : Hid ((W.setCell ⟨g, m * 2, none⟩ (.string (bw ++ ⟨#[s[k]]⟩))).ownsRow w.heap.size 125 2 (.slice (some ⟨g, 0, none⟩) (m + 1) cap) (toks (s.data.toList.take (k + 1))).length (cellsW (toks (s.data.toList.take (k + 1)))) ∧ (toks (s.data.toList.take (k + 1))).length ≤ k + 1 + 1 ∧ Below w.heap.size w (W.setCell ⟨g, m * 2, none⟩ (.string (bw ++ ⟨#[s[k]]⟩)))) := Lib.hid (by
              have h1 := (HI.out.1.kept (grown_below (r := none) HBW2.out) (Or.inr (fun h => by cases h))).stored (m * 2) (.string (bw ++ ⟨#[s[k]]⟩))
              rw [HE2.out, List.length_append, List.length_singleton, ← HM.out, ← cells_set r wd, HNEW.out, ← HM.out]
              refine ⟨h1.1, by omega, ?_⟩
              exact (HI.out.2.2.trans (HBW2.out.mono HI.out.2.2.size)).setCell (p := ⟨g, m * 2, none⟩) hbg _)
            clear k1 k2 hcv HBW2 c1 c2
            go_wp2
            go_roundw
            case rel => exact ⟨k + 1, by omega, by go_num, HR⟩
            case measure => simp [intOf]; omega
          · try rw [if_pos (by kernel_rfl)]
            try go_simp
            refine hK.out _ _ trivial (fun _ => ?_)
            clear hK K
            try simp only [Act.put, List.getElem_toArray, List.getElem_cons_succ, List.getElem_cons_zero, List.setIfInBounds_toArray, List.set_cons_zero, List.set_cons_succ]
            refine wpAnyH_ready (rs := [10]) (by kernel_rfl) (by simp) ?_
            refine AllReadyH.cons rfl (fun K hK => ?_) AllReadyH.nil
            try rw [if_pos (by kernel_rfl)]
            try go_simp
            refine hK.out _ _ trivial (fun _ => ?_)
            clear hK K
            try simp only [Act.put, List.getElem_toArray, List.getElem_cons_succ, List.getElem_cons_zero, List.setIfInBounds_toArray, List.set_cons_zero, List.set_cons_succ]
            refine wpAnyH_ready (rs := [16]) (by kernel_rfl) (by simp) ?_
            refine AllReadyH.cons rfl (fun K hK => ?_) AllReadyH.nil
            try rw [if_pos (by kernel_rfl)]
            try go_simp
            refine hK.out _ _ trivial (fun _ => ?_)
            clear hK K
            try simp only [Act.put, List.getElem_toArray, List.getElem_cons_succ, List.getElem_cons_zero, List.setIfInBounds_toArray, List.set_cons_zero, List.set_cons_succ]
            refine wpAnyH_ready (rs := [17]) (by kernel_rfl) (by simp) ?_
            refine AllReadyH.cons rfl (fun K hK => ?_) AllReadyH.nil
            try rw [if_pos (by kernel_rfl)]
            try go_simp
            refine hK.out _ _ trivial (fun _ => ?_)
            clear hK K
            try simp only [Act.put, List.getElem_toArray, List.getElem_cons_succ, List.getElem_cons_zero, List.setIfInBounds_toArray, List.set_cons_zero, List.set_cons_succ]
            refine wpAnyH_ready (rs := [18]) (by kernel_rfl) (by simp) ?_
            refine AllReadyH.cons rfl (fun K hK => ?_) AllReadyH.nil
            try rw [if_pos (by kernel_rfl)]
            try go_simp
            refine hK.out _ _ trivial (fun _ => ?_)
            clear hK K
            try simp only [Act.put, List.getElem_toArray, List.getElem_cons_succ, List.getElem_cons_zero, List.setIfInBounds_toArray, List.set_cons_zero, List.set_cons_succ]
            refine wpAnyH_ready (rs := [19]) (by kernel_rfl) (by simp) ?_
            refine AllReadyH.cons rfl (fun K hK => ?_) AllReadyH.nil
            try rw [if_pos (by kernel_rfl)]
            try go_simp
            refine hK.out _ _ trivial (fun _ => ?_)
            clear hK K
            try simp only [Act.put, List.getElem_toArray, List.getElem_cons_succ, List.getElem_cons_zero, List.setIfInBounds_toArray, List.set_cons_zero, List.set_cons_succ]
            refine wpAnyH_done (by kernel_rfl) ?_ _
            have HR : Hid ((W.setCell ⟨g, m * 2, none⟩ (.string (bw ++ ⟨#[s[k]]⟩))).ownsRow w.heap.size 125 2 (.slice (some ⟨g, 0, none⟩) (m + 1) cap) (toks (s.data.toList.take (k + 1))).length (cellsW (toks (s.data.toList.take (k + 1)))) ∧ (toks (s.data.toList.take (k + 1))).length ≤ k + 1 + 1 ∧ Below w.heap.size w (W.setCell ⟨g, m * 2, none⟩ (.string (bw ++ ⟨#[s[k]]⟩)))) := Lib.hid (by
              have h1 := (HI.out.1.kept (grown_below (r := none) HBW2.out) (Or.inr (fun h => by cases h))).stored (m * 2) (.string (bw ++ ⟨#[s[k]]⟩))
              rw [HE2.out, List.length_append, List.length_singleton, ← HM.out, ← cells_set r wd, HNEW.out, ← HM.out]
              refine ⟨h1.1, by omega, ?_⟩
              exact (HI.out.2.2.trans (HBW2.out.mono HI.out.2.2.size)).setCell (p := ⟨g, m * 2, none⟩) hbg _)
            clear k1 k2 hcv HBW2 c1 c2
            go_wp2
            go_roundw
            case rel => exact ⟨k + 1, by omega, by go_num, HR⟩
            case measure => simp [intOf]; omega
    · have hkc : k = s.size := by omega
      subst hkc
      have hall : s.data.toList.take s.size = s.data.toList := List.take_of_length_le (by rw [Lib.size_eq]; exact Nat.le_refl _)
      have HR : Hid (PartsAt wr (.slice (some ⟨g, 0, none⟩) (toks (s.data.toList.take s.size)).length cap) (toks s.data.toList)) := Lib.hid (by rw [hall]; rw [hall] at HI; exact parts_of_own (toks_ne _) HI.out.1)
      have HB := Lib.hid HI.out.2.2
      generalize (toks (s.data.toList.take s.size)).length = n at HR ⊢
      clear HI hall hcap
      go_wp2
      go_ret
      exact ⟨_, rfl, HR.out, HB.out⟩
end Go.Proofs.YtjcaaejfokmolaaGreatDoor
/- The document's word. -/
namespace Go.Proofs.YtjcaaejfokmolaaGreatDoor
open Go.RowKit

set_option maxRecDepth 100000 in
set_option maxHeartbeats 2000000 in
theorem refWord_any (ws : List (List UInt8)) (n I At : Nat) (E : Int) (v : Value) (u : List UInt8) (w : World) (hv : PartsAt w v ws) (hl : ws.length ≤ 1000) (hI : I ≤ 1000) :
    Calls Tryz.prog 55 #[lnV v n I At E, .string ⟨u.toArray⟩] w fun e w' => e = .returned (lnP v n (wordS ws n ⟨I, At, E⟩ u)) ∧ Below w.heap.size w w' := by
  have HV : Hid (∀ W, Below w.heap.size w W → PartsAt W v ws) := Lib.hid fun W hW => hv.below hW
  have HL := Lib.hid hl
  have hsh : ∃ g len cap, v = .slice (some ⟨g, 0, none⟩) len cap := by obtain ⟨g, cap, e, _⟩ := hv; exact ⟨g, _, cap, e⟩
  obtain ⟨bU, hbU⟩ : ∃ b : ByteArray, b = ⟨u.toArray⟩ := ⟨_, rfl⟩
  have HIS : Hid (∀ W, Below w.heap.size w W → ∀ b, isS ws ⟨I, At, E⟩ u = b → Calls Tryz.prog 57 #[lnV v n I At E, .string bU] W fun e w' => e = .returned (.bool b) ∧ Below W.heap.size W w') := Lib.hid fun W hW b hb => by rw [← hb, hbU]; exact refIs_any ws n I At E v u W (HV.out W hW) HL.out
  have HFA : Hid (∀ W, Below w.heap.size w W → ∀ J B, failS ws n ⟨I, At, E⟩ 5 = ⟨I, J, B⟩ → Calls Tryz.prog 58 #[lnV v n I At E, .int .i64 5] W fun e w' => e = .returned (lnV v n I J B) ∧ Below W.heap.size W w') := Lib.hid fun W hW J B hJ => by
    have := refFail_any ws n I At E 5 v W (HV.out W hW) HL.out
    rw [hJ] at this; exact this
  rw [← hbU]
  obtain ⟨J, B, hJ⟩ : ∃ J B, failS ws n ⟨I, At, E⟩ 5 = ⟨I, J, B⟩ := by unfold failS; split <;> exact ⟨_, _, rfl⟩
  have HJ := Lib.hid hJ
  have HLA := Lib.hid (LnAt.laid w v n I At E)
  clear hv hl hbU hJ
  obtain ⟨g, len, cap, rfl⟩ := hsh
  by_cases hE : E = 0
  · cases hi : isS ws ⟨I, At, E⟩ u with
    | true =>
      have HR : Hid (lnP (.slice (some ⟨g, 0, none⟩) len cap) n (wordS ws n ⟨I, At, E⟩ u) = lnV (.slice (some ⟨g, 0, none⟩) len cap) n (I + 1) At 0) := Lib.hid (by unfold wordS; rw [if_pos ⟨hE, hi⟩, hE]; rfl)
      rw [HR.out]
      have HI2 := Lib.hid hi
      clear hi HR
      subst hE
      go_enter Tryz.func55, Tryz.ntmps55
      go_wp2_with fail
      refine (HIS.out _ HLA.out.below true HI2.out).mono ?_
      rintro e w1 ⟨rfl, hb1⟩
      have HL1 := Lib.hid (HLA.out.next hb1)
      obtain ⟨⟨a0, a1, a2, a3, a4⟩, ⟨b0, b1, b2, b3, b4⟩, ⟨c0, c1, c2, c3, c4⟩, ⟨d0, d1, d2, d3, d4⟩, hz⟩ := HL1.out.cells
      clear hb1 HLA HIS HFA
      go_wp2
      exact bodyPost_ret (v := lnV (.slice (some ⟨g, 0, none⟩) len cap) n (I + 1) At 0) (by simp [results, Tryz.results55, go_sem, HL1.out.cells]) rfl ⟨rfl, (by repeat (first | refine Below.setCell ?_ (by simp) _ | exact HL1.out.below))⟩
    | false =>
      have HR : Hid (lnP (.slice (some ⟨g, 0, none⟩) len cap) n (wordS ws n ⟨I, At, E⟩ u) = lnV (.slice (some ⟨g, 0, none⟩) len cap) n I J B) := Lib.hid (by unfold wordS; rw [if_neg (fun h => by rw [hi] at h; cases h.2), HJ.out]; rfl)
      rw [HR.out]
      have HI2 := Lib.hid hi
      clear hi HR
      subst hE
      go_enter Tryz.func55, Tryz.ntmps55
      go_wp2_with fail
      refine (HIS.out _ HLA.out.below false HI2.out).mono ?_
      rintro e w1 ⟨rfl, hb1⟩
      have HL1 := Lib.hid (HLA.out.next hb1)
      obtain ⟨⟨a0, a1, a2, a3, a4⟩, ⟨b0, b1, b2, b3, b4⟩, ⟨c0, c1, c2, c3, c4⟩, ⟨d0, d1, d2, d3, d4⟩, hz⟩ := HL1.out.cells
      clear hb1 HLA HIS
      go_wp2_with fail
      refine (HFA.out _ HL1.out.below J B HJ.out).mono ?_
      rintro e w2 ⟨rfl, hb2⟩
      have HL2 := Lib.hid (HL1.out.next hb2)
      clear a0 a1 a2 a3 a4 b0 b1 b2 b3 b4 c0 c1 c2 c3 c4 d0 d1 d2 d3 d4 hz hb2 HL1 HFA
      obtain ⟨⟨a0, a1, a2, a3, a4⟩, ⟨b0, b1, b2, b3, b4⟩, ⟨c0, c1, c2, c3, c4⟩, ⟨d0, d1, d2, d3, d4⟩, hz⟩ := HL2.out.cells
      go_wp2
      exact bodyPost_ret (v := lnV (.slice (some ⟨g, 0, none⟩) len cap) n I J B) (by simp [results, Tryz.results55, go_sem, HL2.out.cells]) rfl ⟨rfl, (by repeat (first | refine Below.setCell ?_ (by simp) _ | exact HL2.out.below))⟩
  · have HR : Hid (lnP (.slice (some ⟨g, 0, none⟩) len cap) n (wordS ws n ⟨I, At, E⟩ u) = lnV (.slice (some ⟨g, 0, none⟩) len cap) n I J B) := Lib.hid (by unfold wordS; rw [if_neg (fun h => hE h.1), HJ.out]; rfl)
    rw [HR.out]
    have hE' : ((E : Int) != 0) = true := by simpa using hE
    clear HR HIS hE
    go_enter Tryz.func55, Tryz.ntmps55
    go_wp2_with fail
    refine (HFA.out _ HLA.out.below J B HJ.out).mono ?_
    rintro e w2 ⟨rfl, hb2⟩
    have HL2 := Lib.hid (HLA.out.next hb2)
    clear hb2 HLA HFA
    obtain ⟨⟨a0, a1, a2, a3, a4⟩, ⟨b0, b1, b2, b3, b4⟩, ⟨c0, c1, c2, c3, c4⟩, ⟨d0, d1, d2, d3, d4⟩, hz⟩ := HL2.out.cells
    go_wp2
    exact bodyPost_ret (v := lnV (.slice (some ⟨g, 0, none⟩) len cap) n I J B) (by simp [results, Tryz.results55, go_sem, HL2.out.cells]) rfl ⟨rfl, (by repeat (first | refine Below.setCell ?_ (by simp) _ | exact HL2.out.below))⟩
end Go.Proofs.YtjcaaejfokmolaaGreatDoor
/- The document's name. -/
namespace Go.Proofs.YtjcaaejfokmolaaGreatDoor
open Go.RowKit

def lnU (v : Value) (n : Nat) (r : Ln × List UInt8) : Value := .tuple #[lnP v n r.1, .string ⟨r.2.toArray⟩]
theorem lnU_fail {v n ws I At E er J B} {r : Ln × List UInt8} (h : failS ws n ⟨I, At, E⟩ er = ⟨I, J, B⟩) (hr : r = (failS ws n ⟨I, At, E⟩ er, [])) : lnU v n r = .tuple #[lnV v n I J B, .string ⟨#[]⟩] := by unfold lnU lnP; rw [hr, h]
set_option maxRecDepth 100000 in
set_option maxHeartbeats 4000000 in
theorem refNameP_any (ws : List (List UInt8)) (n I At : Nat) (E : Int) (v : Value) (w : World) (hv : PartsAt w v ws) (hl : ws.length ≤ 1000) (hI : I ≤ 1000) (ht : (tok ws I).length ≤ 1000) :
    Calls Tryz.prog 56 #[lnV v n I At E] w fun e w' => e = .returned (lnU v n (nameS ws n ⟨I, At, E⟩)) ∧ Below w.heap.size w w' := by
  have HV : Hid (∀ W, Below w.heap.size w W → PartsAt W v ws) := Lib.hid fun W hW => hv.below hW
  have HL := Lib.hid hl
  have HFA : Hid (∀ W, Below w.heap.size w W → ∀ er J B, failS ws n ⟨I, At, E⟩ er = ⟨I, J, B⟩ → Calls Tryz.prog 58 #[lnV v n I At E, .int .i64 er] W fun e w' => e = .returned (lnV v n I J B) ∧ Below W.heap.size W w') := Lib.hid fun W hW er J B hJ => by
    have := refFail_any ws n I At E er v W (HV.out W hW) HL.out
    rw [hJ] at this; exact this
  have HFE : Hid (∀ er, ∃ J B, failS ws n ⟨I, At, E⟩ er = ⟨I, J, B⟩) := Lib.hid fun er => by unfold failS; split <;> exact ⟨_, _, rfl⟩
  have HLA := Lib.hid (LnAt.laid w v n I At E)
  obtain ⟨len, hlen⟩ : ∃ len, len = ws.length := ⟨_, rfl⟩
  obtain ⟨g, cap, rfl, hcap, hg, hx⟩ := hv
  rw [← hlen] at HV HFA HLA hcap hx hl ⊢
  by_cases hE : E = 0
  · by_cases hIl : I < len
    · have HN : Hid (∀ b, nameL (tok ws I) = b → nameS ws n ⟨I, At, E⟩ = if b = true then (⟨I + 1, At, E⟩, tok ws I) else (failS ws n ⟨I, At, E⟩ 5, [])) := Lib.hid (by
        intro b hb
        unfold nameS
        cases b with
        | true => rw [if_pos ⟨hE, by rw [← hlen]; exact hIl, hb⟩]; rfl
        | false => rw [if_neg (fun h => by rw [hb] at h; cases h.2.2)]; rfl)
      have HX : Hid (∀ W, Below w.heap.size w W → W.cell? ⟨g, I * 2, none⟩ = some (.string ⟨(tok ws I).toArray⟩)) := Lib.hid fun W hW => (hW.cell (p := ⟨g, I * 2, none⟩) hg).trans (hx I hIl).1
      generalize tok ws I = T at ht HX HN
      obtain ⟨b, hb⟩ : ∃ b : ByteArray, b = ⟨T.toArray⟩ := ⟨_, rfl⟩
      have hbl : b.data.toList = T := by rw [hb]
      have hbs : b.size ≤ 1000 := by rw [Lib.size_eq, hbl]; exact ht
      rw [← hb] at HX
      have HIT : Hid (∀ W, Calls Tryz.prog 44 #[.string b] W fun e w' => e = .returned (.bool (nameL T)) ∧ W = w') := Lib.hid fun W => by rw [← hbl]; exact refName_any b W (by omega)
      have HBB := Lib.hid hb
      clear hb hbl hbs ht hx hlen HL
      have HG := Lib.hid hg
      clear hg
      subst hE
      cases hf : nameL T with
      | false =>
        rw [hf] at HIT
        obtain ⟨J, B, hJ⟩ := HFE.out 5
        have HJ := Lib.hid hJ
        have HR : Hid (lnU (.slice (some ⟨g, 0, none⟩) len cap) n (nameS ws n ⟨I, At, 0⟩) = .tuple #[lnV (.slice (some ⟨g, 0, none⟩) len cap) n I J B, .string ⟨#[]⟩]) := Lib.hid (lnU_fail hJ (by rw [HN.out false hf]; rfl))
        rw [HR.out]
        clear hJ HFE HR
        clear hf HN
        go_enter Tryz.func56, Tryz.ntmps56
        have x0 := HX.out _ HLA.out.below
        go_wp2_with (go_at_call 44; ((with_reducible refine (HIT.out _).mono ?_); rintro e w' ⟨rfl, rfl⟩))
        clear x0
        refine (HFA.out _ HLA.out.below 5 J B HJ.out).mono ?_
        rintro e w2 ⟨rfl, hb2⟩
        have HL2 := Lib.hid (HLA.out.next hb2)
        clear hb2 HLA HFA
        (try clear a0 a1 a2 a3 a4 b0 b1 b2 b3 b4 c0 c1 c2 c3 c4 d0 d1 d2 d3 d4 hz)
        obtain ⟨⟨a0, a1, a2, a3, a4⟩, ⟨b0, b1, b2, b3, b4⟩, ⟨c0, c1, c2, c3, c4⟩, ⟨d0, d1, d2, d3, d4⟩, hz⟩ := HL2.out.cells
        go_wp2
        exact bodyPost_ret (v := .tuple #[lnV (.slice (some ⟨g, 0, none⟩) len cap) n I J B, .string ⟨#[]⟩]) (by simp [results, Tryz.results56, go_sem, HL2.out.cells]) rfl ⟨rfl, (by repeat (first | refine Below.setCell ?_ (by simp) _ | exact HL2.out.below))⟩

      | true =>
        rw [hf] at HIT
        have HR : Hid (lnU (.slice (some ⟨g, 0, none⟩) len cap) n (nameS ws n ⟨I, At, 0⟩) = .tuple #[lnV (.slice (some ⟨g, 0, none⟩) len cap) n (I + 1) At 0, .string b]) := Lib.hid (by rw [HN.out true hf, HBB.out]; rfl)
        rw [HR.out]
        clear hf HN HFE HR HFA HBB
        obtain ⟨W0, hW0⟩ : ∃ W, W = (w.alloc (lnO (.slice (some ⟨g, 0, none⟩) len cap) n I At 0)).alloc lnZ := ⟨_, rfl⟩
        have x0 := HX.out _ HLA.out.below
        rw [← hW0] at HLA x0
        obtain ⟨⟨a0, a1, a2, a3, a4⟩, ⟨b0, b1, b2, b3, b4⟩, ⟨c0, c1, c2, c3, c4⟩, ⟨d0, d1, d2, d3, d4⟩, hz⟩ := HLA.out.cells
        have hgn : g ≠ w.heap.size := Nat.ne_of_lt HG.out
        have hgn2 : g ≠ w.heap.size + 1 := by have := HG.out; omega
        have HW := Lib.hid hW0
        clear hW0
        go_enter Tryz.func56, Tryz.ntmps56
        go_upto_region 1 with fail
        rw [← HW.out]
        go_wp2_with (go_at_call 44; ((with_reducible refine (HIT.out _).mono ?_); rintro e w' ⟨rfl, rfl⟩))
        go_region
        all_goals
          go_wp2
          exact bodyPost_ret (v := .tuple #[lnV (.slice (some ⟨g, 0, none⟩) len cap) n (I + 1) At 0, .string b]) (by simp [results, Tryz.results56, go_sem, HLA.out.cells]) rfl ⟨rfl, (by repeat (first | refine Below.setCell ?_ (by simp) _ | refine Below.drew ?_ | exact HLA.out.below))⟩
    · have hI' : decide (I < len) = false := decide_eq_false hIl
      have hI2 : ¬ (I : Int) < len := by omega
      obtain ⟨J, B, hJ⟩ := HFE.out 5
      have HJ := Lib.hid hJ
      have HR : Hid (lnU (.slice (some ⟨g, 0, none⟩) len cap) n (nameS ws n ⟨I, At, E⟩) = .tuple #[lnV (.slice (some ⟨g, 0, none⟩) len cap) n I J B, .string ⟨#[]⟩]) := Lib.hid (lnU_fail hJ (by unfold nameS; rw [if_neg (fun h => hIl (by rw [hlen]; exact h.2.1))]))
      rw [HR.out]
      clear hJ HFE HR
      clear hx hlen hg
      subst hE
      go_enter Tryz.func56, Tryz.ntmps56
      go_wp2_with fail
      refine (HFA.out _ HLA.out.below 5 J B HJ.out).mono ?_
      rintro e w2 ⟨rfl, hb2⟩
      have HL2 := Lib.hid (HLA.out.next hb2)
      clear hb2 HLA HFA
      (try clear a0 a1 a2 a3 a4 b0 b1 b2 b3 b4 c0 c1 c2 c3 c4 d0 d1 d2 d3 d4 hz)
      obtain ⟨⟨a0, a1, a2, a3, a4⟩, ⟨b0, b1, b2, b3, b4⟩, ⟨c0, c1, c2, c3, c4⟩, ⟨d0, d1, d2, d3, d4⟩, hz⟩ := HL2.out.cells
      go_wp2
      exact bodyPost_ret (v := .tuple #[lnV (.slice (some ⟨g, 0, none⟩) len cap) n I J B, .string ⟨#[]⟩]) (by simp [results, Tryz.results56, go_sem, HL2.out.cells]) rfl ⟨rfl, (by repeat (first | refine Below.setCell ?_ (by simp) _ | exact HL2.out.below))⟩

  · have hE' : ((E : Int) != 0) = true := by simpa using hE
    obtain ⟨J, B, hJ⟩ := HFE.out 5
    have HJ := Lib.hid hJ
    have HR : Hid (lnU (.slice (some ⟨g, 0, none⟩) len cap) n (nameS ws n ⟨I, At, E⟩) = .tuple #[lnV (.slice (some ⟨g, 0, none⟩) len cap) n I J B, .string ⟨#[]⟩]) := Lib.hid (lnU_fail hJ (by unfold nameS; rw [if_neg (fun h => hE h.1)]))
    rw [HR.out]
    clear hJ HFE HR
    clear hx hlen hg hE
    go_enter Tryz.func56, Tryz.ntmps56
    go_wp2_with fail
    refine (HFA.out _ HLA.out.below 5 J B HJ.out).mono ?_
    rintro e w2 ⟨rfl, hb2⟩
    have HL2 := Lib.hid (HLA.out.next hb2)
    clear hb2 HLA HFA
    (try clear a0 a1 a2 a3 a4 b0 b1 b2 b3 b4 c0 c1 c2 c3 c4 d0 d1 d2 d3 d4 hz)
    obtain ⟨⟨a0, a1, a2, a3, a4⟩, ⟨b0, b1, b2, b3, b4⟩, ⟨c0, c1, c2, c3, c4⟩, ⟨d0, d1, d2, d3, d4⟩, hz⟩ := HL2.out.cells
    go_wp2
    exact bodyPost_ret (v := .tuple #[lnV (.slice (some ⟨g, 0, none⟩) len cap) n I J B, .string ⟨#[]⟩]) (by simp [results, Tryz.results56, go_sem, HL2.out.cells]) rfl ⟨rfl, (by repeat (first | refine Below.setCell ?_ (by simp) _ | exact HL2.out.below))⟩

end Go.Proofs.YtjcaaejfokmolaaGreatDoor
