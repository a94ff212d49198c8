/- Several parts: Print: what it is made of. Print. -/
import Derived.Test.YtjcaaejfokmolaaGreatDoorRpTok
import Derived.Test.YtjcaaejfokmolaaGreatDoorShelfJ
import Derived.Test.YtjcaaejfokmolaaGreatDoorRpSgIt
import Derived.Test.YtjcaaejfokmolaaGreatDoorRpConvA
import Derived.Test.YtjcaaejfokmolaaGreatDoorRpAwake2
import Derived.Laws.IdiomStrings
import Derived.Laws.OwnMore
import Derived.Laws.AppendOwn
import Derived.Deep.DeepCutAuto
import Derived.IntWalk
import Derived.Lib.ItoaLen
import Derived.Test.YtjcaaejfokmolaaGreatDoorRpAreaRef2
import Derived.Test.YtjcaaejfokmolaaGreatDoorRpTokMid
/- Print: what it is made of. -/
namespace Go.Proofs.YtjcaaejfokmolaaGreatDoor
open Go.RowKit

theorem join_is : ∀ xs : List (List UInt8), Lib.join xs [32] = joinW xs
  | [] => rfl
  | [x] => Lib.join_one x [32]
  | x :: y :: r => by
    rw [Lib.join_cons, joinW_cons (w := x) (r := y :: r) (by simp), ← join_is (y :: r), Lib.join_cons]
    simp [Lib.joinTail]
theorem itoaZ (n : Int) (h1 : -10000000000 < n) (h2 : n < 10000000000) (w : World) (ht : Tab w) :
    Calls Tryz.prog 38 #[.int .i64 n] w fun e w' => e = .returned (.string ⟨(Lib.itoa n).toArray⟩) ∧ Below w.heap.size w w' := by
  refine (Tryz.strconv_Itoa n (by omega) (by omega) w ht).mono ?_
  rintro e w' ⟨he, k, os, rfl⟩
  exact ⟨he, grow_below _ _ _⟩
def strs (xs : List (List UInt8)) : List Value := xs.map fun x => .string ⟨x.toArray⟩
theorem strs_app (xs ys : List (List UInt8)) : strs (xs ++ ys) = strs xs ++ strs ys := List.map_append
theorem strs_len (xs : List (List UInt8)) : (strs xs).length = xs.length := List.length_map _
/-- the words so far, and the report that is printed. -/
structure PR (w wc : World) (r : Obj) (v : Value) (xs : List (List UInt8)) : Prop where
  own : wc.ownsRow (w.heap.size + 1) 9 1 v xs.length (strs xs)
  blk : wc.heap[w.heap.size]? = some r
  below : Below w.heap.size w wc
theorem PR.next {w wc w' : World} {r v xs} (h : PR w wc r v xs) (hb : Below wc.heap.size wc w') : PR w w' r v xs :=
  ⟨h.own.kept (grown_below (r := none) hb) (by cases hw : v.ownBlock with | none => exact Or.inl rfl | some g => exact Or.inr (fun e => by cases e)), stay h.blk hb, below_chain h.below hb⟩
theorem PR.drew {w wc : World} {r v xs} (h : PR w wc r v xs) : PR w wc.drew r v xs := h.next (Below.refl _ _).drew
/-- behind an append. -/
theorem PR.put {w wc w3 : World} {r v xs ys} {v' : Value} {o : Obj} (h : PR w wc r v xs) (hown : w3.ownsRow (w.heap.size + 1) 9 1 v' (xs.length + ys.length) (strs xs ++ strs ys)) (hg : (wc.alloc o).grownBy w3 v.ownBlock) : PR w w3 r v' (xs ++ ys) := by
  refine ⟨by rw [List.length_append, strs_app]; exact hown, ?_, ?_⟩
  · have hlt : w.heap.size < (wc.alloc o).heap.size := by rw [World.size_alloc]; have := (Array.getElem?_eq_some_iff.1 h.blk).1; omega
    refine (hg.block w.heap.size hlt (by intro e; have := (h.own.lt _ e.symm).1; omega)).trans ?_
    exact stay h.blk (new_below _ _)
  · have hb := h.below.alloc h.below.size o
    exact hb.grown hg hb.size (fun j hj => by have := (h.own.lt j hj).1; omega)
theorem infoStr : (Tryz.prog.info? 9).map (fun i => (i.zero, i.size, i.bytes)) = some (some (.string ⟨#[]⟩), 1, 16) := by kernel_rfl
theorem one_new (W : World) (x : Value) (T : TypeId) : ∀ j u, [x][j]? = some u → (W.alloc (.cells #[x] T)).cell? ((⟨W.heap.size, 0, none⟩ : Addr).add j) = some u := by
  intro j u h
  rw [addr_add]
  match j, h with
  | 0, h => simp at h; subst h; simp
theorem PR.start {w wc : World} {r : Obj} (a b c d e : List UInt8) (h1 : wc.heap[w.heap.size]? = some r) (h2 : Below w.heap.size w wc) :
    PR w (wc.alloc (.cells #[.string ⟨a.toArray⟩, .string ⟨b.toArray⟩, .string ⟨c.toArray⟩, .string ⟨d.toArray⟩, .string ⟨e.toArray⟩] 9)) r (.slice (some ⟨wc.heap.size, 0, none⟩) 5 5) [a, b, c, d, e] := by
  have hlt := (Array.getElem?_eq_some_iff.1 h1).1
  exact ⟨World.ownsRow_lit wc #[.string ⟨a.toArray⟩, .string ⟨b.toArray⟩, .string ⟨c.toArray⟩, .string ⟨d.toArray⟩, .string ⟨e.toArray⟩] 5 (by omega) (by unfold maxLen; omega) rfl, stay h1 (new_below _ _), h2.alloc h2.size _⟩
theorem joinW_len {M : Nat} : ∀ ws : List (List UInt8), (∀ w ∈ ws, w.length ≤ M) → (joinW ws).length ≤ ws.length * (M + 1)
  | [], _ => Nat.zero_le _
  | [a], h => by
    have := h a (List.mem_cons_self ..)
    show a.length ≤ 1 * (M + 1)
    omega
  | a :: b :: r, h => by
    have h1 := h a (List.mem_cons_self ..)
    have h2 := joinW_len (b :: r) fun w hw => h w (List.mem_cons_of_mem _ hw)
    rw [joinW_cons (w := a) (r := b :: r) (by simp), List.length_append, List.length_cons, List.length_cons (a := a), Nat.add_mul]
    omega
theorem kw_len : ∀ k, (kwL k).length ≤ 1000
  | 0 => by decide
  | 1 => by decide
  | 2 => by decide
  | 3 => by decide
  | 4 => by decide
  | k + 5 => Nat.zero_le _
theorem itoa_len {n : Int} (h : -10000000000 < n ∧ n < 10000000000) : (Lib.itoa n).length ≤ 1000 := Nat.le_trans (Lib.itoa_length_le n (by omega) (by omega)) (by omega)
theorem words_len {kn : Nat} {time souls trust : Int} {S Ab : List UInt8} {l : List (Int × Int)} (hS : S.length ≤ 1000) (hA : Ab.length ≤ 1000) (h1 : -10000000000 < time ∧ time < 10000000000) (h2 : -10000000000 < souls ∧ souls < 10000000000) (h3 : -10000000000 < trust ∧ trust < 10000000000)
    (hl : ∀ p ∈ l, (-10000000000 < p.1 ∧ p.1 < 10000000000) ∧ (-10000000000 < p.2 ∧ p.2 < 10000000000)) : ∀ w ∈ wordsR kn time S Ab l souls trust, w.length ≤ 1000 := by
  intro w hw
  unfold wordsR at hw
  simp only [List.mem_cons, List.mem_append, List.mem_flatMap, List.not_mem_nil, or_false] at hw
  rcases hw with rfl | rfl | rfl | rfl | rfl | hw | rfl | ⟨p, hp, rfl | rfl⟩ | hw | rfl | rfl
  · exact kw_len _
  · decide
  · exact itoa_len h1
  · decide
  · exact hS
  · split at hw
    · cases hw
    · simp at hw; rcases hw with rfl | rfl
      · decide
      · exact hA
  · decide
  · exact itoa_len (hl p hp).1
  · exact itoa_len (hl p hp).2
  · split at hw
    · cases hw
    · simp at hw; rcases hw with rfl | rfl
      · decide
      · exact itoa_len h2
  · decide
  · exact itoa_len h3
end Go.Proofs.YtjcaaejfokmolaaGreatDoor
/- Print. -/
namespace Go.Proofs.YtjcaaejfokmolaaGreatDoor
open Go.RowKit

set_option maxRecDepth 100000 in
set_option maxHeartbeats 8000000 in
theorem Print_yes (kn : Nat) (time souls trust m0 : Int) (S Ab : List UInt8) (A : Option Addr) (cap : Nat) (l : List (Int × Int)) (w : World) (hA : Area w (.slice A l.length cap) l) (hE : Env m0 w) (ht : Tab w) (hS : S.length ≤ 1000) (hAb : Ab.length ≤ 1000) (hl : l.length ≤ 30)
    (hc : checkB ⟨0, kn, time, ⟨S.toArray⟩, ⟨Ab.toArray⟩, souls, trust⟩ (areaB l) = true) :
    Calls Tryz.prog 15 #[repA kn time ⟨S.toArray⟩ ⟨Ab.toArray⟩ (.slice A l.length cap) souls trust] w fun e w' => e = .returned (.string ⟨(joinW (wordsR kn time S Ab l souls trust)).toArray⟩) ∧ Below w.heap.size w w' := by
  obtain ⟨i0, hi, hz0, hz1, hz2⟩ := info_parts infoStr
  obtain ⟨d1, d2, d3, d4, d5, d6, d7⟩ := check_parts hc
  simp only at d1 d2 d3 d4 d5 d6 d7
  have hk4 : 1 ≤ kn ∧ kn ≤ 4 := by have := inB_true.1 d1; omega
  have HTI : Hid (-10000000000 < time ∧ time < 10000000000) := Lib.hid (by have := inB_true.1 d2; omega)
  have HSO : Hid (-10000000000 < souls ∧ souls < 10000000000) := Lib.hid (by have := inB_true.1 d6; omega)
  have HTR : Hid (-10000000000 < trust ∧ trust < 10000000000) := Lib.hid (by have := inB_true.1 d7; omega)
  have HPL : Hid (∀ p ∈ l, (-10000000000 < p.1 ∧ p.1 < 10000000000) ∧ (-10000000000 < p.2 ∧ p.2 < 10000000000)) := Lib.hid fun p hp => by
    unfold areaB at d5
    rw [Bool.and_eq_true, Bool.and_eq_true] at d5
    have h1 := List.all_eq_true.1 d5.2.1 p hp
    unfold placeB at h1
    rw [Bool.and_eq_true] at h1
    have := inB_true.1 h1.1; have := inB_true.1 h1.2; omega
  have HIT : Hid (∀ W n, (-10000000000 < n ∧ n < 10000000000) → Tab W → Calls Tryz.prog 38 #[.int .i64 n] W fun e w' => e = .returned (.string ⟨(Lib.itoa n).toArray⟩) ∧ Below W.heap.size W w') := Lib.hid fun W n hn hT => itoaZ n hn.1 hn.2 W hT
  have HTAB : Hid (∀ W, Below w.heap.size w W → Tab W) := Lib.hid fun W hW => ht.below hW
  have HKW : Hid (∀ W, Below w.heap.size w W → W.cell? ⟨0, kn, none⟩ = some (.string (kwB kn))) := Lib.hid fun W hW => (hE.below hW).kw kn (by omega)
  have HAR : Hid (∀ W, Below w.heap.size w W → Area W (.slice A l.length cap) l) := Lib.hid fun W hW => hA.below hW
  have HC := Lib.hid (CheckReport_any ⟨0, kn, time, ⟨S.toArray⟩, ⟨Ab.toArray⟩, souls, trust⟩ (.slice A l.length cap) A l.length cap rfl (w.alloc (repO kn time ⟨S.toArray⟩ ⟨Ab.toArray⟩ (.slice A l.length cap) souls trust)) (areaB l) (fun W hW => CheckArea_any A cap l W (hA.below ((new_below w (repO kn time ⟨S.toArray⟩ ⟨Ab.toArray⟩ (.slice A l.length cap) souls trust)).trans (hW.mono (new_below w (repO kn time ⟨S.toArray⟩ ⟨Ab.toArray⟩ (.slice A l.length cap) souls trust)).size))) (by omega)) (by show ByteArray.size ⟨Ab.toArray⟩ ≤ _; rw [Lib.size_eq]; show Ab.length ≤ _; omega) (by show ByteArray.size ⟨S.toArray⟩ ≤ _; rw [Lib.size_eq]; show S.length ≤ _; omega))
  rw [hc] at HC
  obtain ⟨ln, hln⟩ : ∃ ln, ln = l.length := ⟨_, rfl⟩
  rw [← hln] at HC HAR hl ⊢
  have HLN := Lib.hid hln
  obtain ⟨k1, k4⟩ := hk4
  have k5 : (kn : Int) < 5 := by omega
  have k6 : (0 : Int) ≤ kn := by omega
  have k7 : IntKind.i64.wrap (kn : Int) = kn := IntWalk.i64_in _ (by omega)
  have hSz : ∀ o : Obj, o = o := fun _ => rfl
  have HABL : Hid (S.length ≤ 1000 ∧ Ab.length ≤ 1000) := Lib.hid ⟨hS, hAb⟩
  clear hSz hc d1 d2 d3 d4 d5 d6 d7 hA hE ht hln hS hAb
  unfold repV at HC
  go_enter Tryz.func15, Tryz.ntmps15
  go_wp2_with fail
  refine HC.out.mono ?_
  rintro e w1 ⟨rfl, hb1⟩
  have HR1 : Hid (w1.heap[w.heap.size]? = some (repO kn time ⟨S.toArray⟩ ⟨Ab.toArray⟩ (.slice A ln cap) souls trust)) := Lib.hid (stay (heap_alloc_new _ _) hb1)
  have HB1 : Hid (Below w.heap.size w w1) := Lib.hid ((new_below _ _).trans (hb1.mono (new_below _ _).size))
  clear hb1 HC
  obtain ⟨x0, x1, x2, -⟩ := rep_cells HR1.out
  have xk := HKW.out _ HB1.out
  go_wp2_with fail
  refine wp_region_held_drew (S := (fun w' => w'.cell? ⟨w.heap.size, 0, none⟩ = some (.int .i64 kn) ∧ w'.cell? ⟨w.heap.size, 1, none⟩ = some (.int .i64 time) ∧ w'.cell? ⟨w.heap.size, 2, none⟩ = some (.string ⟨S.toArray⟩) ∧ w'.cell? ⟨0, kn, none⟩ = some (.string (kwB kn)))) (by kernel_rfl) ⟨x0, x1, x2, xk⟩ (fun hHeld => ?_)
  refine takeH (i := 0) (n := 9) (v := .pointer (some ⟨w.heap.size, 0, none⟩)) rfl rfl (by kernel_rfl) (by kernel_rfl) (by kernel_rfl) (fun _ _ _ h => h) (Or.inl ⟨by kernel_rfl, ?_⟩) (by assumption) ?_
  · intro w hSw; (try dsimp only at hSw); go_simp
  try simp only [Act.put, List.setIfInBounds_toArray, List.set_cons_zero, List.set_cons_succ]
  refine takeH (i := 1) (n := 10) (v := .int .i64 kn) rfl rfl (by kernel_rfl) (by kernel_rfl) (by kernel_rfl) (fun _ _ _ h => h) (Or.inl ⟨by kernel_rfl, ?_⟩) (by assumption) ?_
  · intro w hSw; (try dsimp only at hSw); go_simp
  try simp only [Act.put, List.setIfInBounds_toArray, List.set_cons_zero, List.set_cons_succ]
  refine takeH (i := 2) (n := 11) (v := .pointer (some ⟨0, kn, none⟩)) rfl rfl (by kernel_rfl) (by kernel_rfl) (by kernel_rfl) (fun _ _ _ h => h) (Or.inl ⟨by kernel_rfl, ?_⟩) (by assumption) ?_
  · intro w hSw; (try dsimp only at hSw); go_simp
  try simp only [Act.put, List.setIfInBounds_toArray, List.set_cons_zero, List.set_cons_succ]
  refine takeH (i := 3) (n := 12) (v := .string (kwB kn)) rfl rfl (by kernel_rfl) (by kernel_rfl) (by kernel_rfl) (fun _ _ _ h => h) (Or.inl ⟨by kernel_rfl, ?_⟩) (by assumption) ?_
  · intro w hSw; (try dsimp only at hSw); go_simp
  try simp only [Act.put, List.setIfInBounds_toArray, List.set_cons_zero, List.set_cons_succ]
  refine takeH (i := 4) (n := 13) (v := .pointer (some ⟨w.heap.size, 1, none⟩)) rfl rfl (by kernel_rfl) (by kernel_rfl) (by kernel_rfl) (fun _ _ _ h => h) (Or.inl ⟨by kernel_rfl, ?_⟩) (by assumption) ?_
  · intro w hSw; (try dsimp only at hSw); go_simp
  try simp only [Act.put, List.setIfInBounds_toArray, List.set_cons_zero, List.set_cons_succ]
  refine takeH (i := 5) (n := 14) (v := .int .i64 time) rfl rfl (by kernel_rfl) (by kernel_rfl) (by kernel_rfl) (fun _ _ _ h => h) (Or.inl ⟨by kernel_rfl, ?_⟩) (by assumption) ?_
  · intro w hSw; (try dsimp only at hSw); go_simp
  try simp only [Act.put, List.setIfInBounds_toArray, List.set_cons_zero, List.set_cons_succ]
  refine takeH (i := 7) (n := 16) (v := .pointer (some ⟨w.heap.size, 2, none⟩)) rfl rfl (by kernel_rfl) (by kernel_rfl) (by kernel_rfl) (fun _ _ _ h => h) (Or.inl ⟨by kernel_rfl, ?_⟩) (by assumption) ?_
  · intro w hSw; (try dsimp only at hSw); go_simp
  try simp only [Act.put, List.setIfInBounds_toArray, List.set_cons_zero, List.set_cons_succ]
  refine takeH (i := 8) (n := 17) (v := .string ⟨S.toArray⟩) rfl rfl (by kernel_rfl) (by kernel_rfl) (by kernel_rfl) (fun _ _ _ h => h) (Or.inl ⟨by kernel_rfl, ?_⟩) (by assumption) ?_
  · intro w hSw; (try dsimp only at hSw); go_simp
  try simp only [Act.put, List.setIfInBounds_toArray, List.set_cons_zero, List.set_cons_succ]
  refine wpAnyH_ready (rs := [6]) (by kernel_rfl) (by simp) ?_
  refine AllReadyH.cons rfl (fun K hK => ?_) AllReadyH.nil
  try rw [if_pos (by kernel_rfl)]
  try go_simp
  refine (HIT.out _ _ HTI.out (HTAB.out _ HB1.out.drew)).mono ?_
  rintro e w2 ⟨rfl, hb2⟩
  have HBK := Lib.hid (stay HR1.out (show Below w1.heap.size w1 w2 from (Below.refl _ _).drew.trans hb2))
  have HB2 := Lib.hid (HB1.out.drew.trans (hb2.mono HB1.out.size))
  clear x0 x1 x2 xk hHeld hb2
  obtain ⟨x0, x1, x2, -⟩ := rep_cells HBK.out
  have xk := HKW.out _ HB2.out
  refine hK.out _ _ ⟨x0, x1, x2, xk⟩ (fun _ => ?_)
  clear hK K
  try simp only [Act.put, List.getElem_toArray, List.getElem_cons_succ, List.getElem_cons_zero, List.setIfInBounds_toArray, List.set_cons_zero, List.set_cons_succ]
  refine wpAnyH_ready (rs := [9]) (by kernel_rfl) (by simp) ?_
  refine AllReadyH.cons rfl (fun K hK => ?_) AllReadyH.nil
  try rw [if_pos (by kernel_rfl)]
  try go_simp
  have hS : ∀ o, (w2.alloc o).cell? ⟨w.heap.size, 0, none⟩ = some (.int .i64 kn) ∧ (w2.alloc o).cell? ⟨w.heap.size, 1, none⟩ = some (.int .i64 time) ∧ (w2.alloc o).cell? ⟨w.heap.size, 2, none⟩ = some (.string ⟨S.toArray⟩) ∧ (w2.alloc o).cell? ⟨0, kn, none⟩ = some (.string (kwB kn)) := fun o => by
    obtain ⟨y0, y1, y2, -⟩ := rep_cells (stay HBK.out (new_below w2 o))
    exact ⟨y0, y1, y2, HKW.out _ (HB2.out.alloc HB2.out.size o)⟩
  refine hK.out _ _ (hS _) (fun _ => ?_)
  clear hK K
  try simp only [Act.put, List.getElem_toArray, List.getElem_cons_succ, List.getElem_cons_zero, List.setIfInBounds_toArray, List.set_cons_zero, List.set_cons_succ]
  refine wpAnyH_ready (rs := [10]) (by kernel_rfl) (by simp) ?_
  refine AllReadyH.cons rfl (fun K hK => ?_) AllReadyH.nil
  try rw [if_pos (by kernel_rfl)]
  try go_simp
  refine hK.out _ _ (hS _) (fun _ => ?_)
  clear hK K
  try simp only [Act.put, List.getElem_toArray, List.getElem_cons_succ, List.getElem_cons_zero, List.setIfInBounds_toArray, List.set_cons_zero, List.set_cons_succ]
  refine wpAnyH_done (by kernel_rfl) ?_ _
  have HP : Hid (PR w (w2.alloc (.cells #[.string ⟨(kwL kn).toArray⟩, .string ⟨#[97, 116]⟩, .string ⟨(Lib.itoa time).toArray⟩, .string ⟨#[98, 121]⟩, .string ⟨S.toArray⟩] 9)) (repO kn time ⟨S.toArray⟩ ⟨Ab.toArray⟩ (.slice A ln cap) souls trust) (.slice (some ⟨w2.heap.size, 0, none⟩) 5 5) [kwL kn, [97, 116], Lib.itoa time, [98, 121], S]) := Lib.hid (PR.start _ [97, 116] _ [98, 121] _ HBK.out HB2.out)
  obtain ⟨wx, hwx⟩ : ∃ wx, wx = (w2.alloc (.cells #[.string (kwB kn), .string ⟨#[97, 116]⟩, .string ⟨(Lib.itoa time).toArray⟩, .string ⟨#[98, 121]⟩, .string ⟨S.toArray⟩] 9)) := ⟨_, rfl⟩
  have HX : Hid (PR w wx (repO kn time ⟨S.toArray⟩ ⟨Ab.toArray⟩ (.slice A ln cap) souls trust) (.slice (some ⟨w2.heap.size, 0, none⟩) 5 5) [kwL kn, [97, 116], Lib.itoa time, [98, 121], S] ∧ 5 ≤ 60) := Lib.hid ⟨by rw [hwx]; exact HP.out, by omega⟩
  rw [← hwx]
  generalize w2.heap.size = z2 at HX ⊢
  clear hwx HP HBK HB2 HR1 HB1 x0 x1 x2 xk hS k5 k6 k7 k1 k4
  obtain ⟨-, -, -, x3, -⟩ := rep_cells HX.out.1.blk
  go_upto_if 21 with fail
  clear x3
  go_cut [3] (fun s3 wz => ∃ B cp m xs, s3 = .slice B m cp ∧ Hid (PR w wz (repO kn time ⟨S.toArray⟩ ⟨Ab.toArray⟩ (.slice A ln cap) souls trust) (.slice B m cp) xs ∧ m = xs.length ∧ m ≤ 60 ∧ xs = [kwL kn, [97, 116], Lib.itoa time, [98, 121], S] ++ (if Ab = [] then [] else [[97, 98, 111, 117, 116], Ab])))
  case first =>
    generalize hq : (!Ab.isEmpty) = q
    cases q with
    | false =>
      have HA0 : Hid (Ab = []) := Lib.hid (by cases Ab with | nil => rfl | cons a b => cases hq)
      clear hq
      go_wp2_with fail
      go_meet
      exact ⟨_, _, 5, _, rfl, Lib.hid ⟨HX.out.1, rfl, by omega, by rw [HA0.out]; rfl⟩⟩
    | true =>
      have HA0 : Hid (Ab ≠ []) := Lib.hid (by rintro rfl; cases hq)
      clear hq
      obtain ⟨-, -, -, x3, -⟩ := rep_cells HX.out.1.blk
      have HO := Lib.hid HX.out.1.own
      go_wp2_with (at_builtin; refine wpList_append_own _ rfl _ _ 68 rfl (w.heap.size + 1) 9 i0 (.string ⟨#[]⟩) 1 16 Tryz.underlying68 hi hz0 hz1 hz2 rfl (by decide) (.slice (some ⟨z2, 0, none⟩) 5 5) 5 (strs [kwL kn, [97, 116], Lib.itoa time, [98, 121], S]) rfl (HO.out.alloc _) ⟨wx.heap.size, 0, none⟩ 2 2 [.string ⟨#[97, 98, 111, 117, 116]⟩, .string ⟨Ab.toArray⟩] rfl rfl (two_new _ _ _ _) ?c2 ?c3 ?c4 ?c5 ?_)
      case c2 => intro u hu; simp at hu; rcases hu with rfl | rfl <;> rfl
      case c3 => have := HX.out.2; unfold maxLen; omega
      case c4 => have := HX.out.2; omega
      case c5 => have := HX.out.1.below.size; have := (Array.getElem?_eq_some_iff.1 HX.out.1.blk).1; simp; omega
      intro v' w3 hown' hgrow _
      obtain ⟨B', cp', rfl⟩ := own_shape hown'
      have HY : Hid (PR w w3 (repO kn time ⟨S.toArray⟩ ⟨Ab.toArray⟩ (.slice A ln cap) souls trust) (.slice B' (5 + 2) cp') ([kwL kn, [97, 116], Lib.itoa time, [98, 121], S] ++ [[97, 98, 111, 117, 116], Ab])) := Lib.hid (HX.out.1.put (ys := [[97, 98, 111, 117, 116], Ab]) hown' hgrow)
      clear hown' hgrow x3
      go_wp2_with fail
      go_meet
      exact ⟨_, _, 7, _, rfl, Lib.hid ⟨HY.out, rfl, by omega, by rw [if_neg HA0.out]⟩⟩
  case rest =>
    obtain ⟨B, cp, m, xs, rfl, HX0⟩ := hcut
    have HX : Hid (PR w wc (repO kn time ⟨S.toArray⟩ ⟨Ab.toArray⟩ (.slice A ln cap) souls trust) (.slice B m cp) xs ∧ m = xs.length ∧ m ≤ 60) := Lib.hid ⟨HX0.out.1, HX0.out.2.1, HX0.out.2.2.1⟩
    have HXS := Lib.hid HX0.out.2.2.2
    clear HX0
    have HO : Hid (wc.ownsRow (w.heap.size + 1) 9 1 (.slice B m cp) m (strs xs)) := Lib.hid (by have := HX.out.1.own; rwa [← HX.out.2.1] at this)
    go_wp2_with (at_builtin; refine wpList_append_own _ rfl _ _ 68 rfl (w.heap.size + 1) 9 i0 (.string ⟨#[]⟩) 1 16 Tryz.underlying68 hi hz0 hz1 hz2 rfl (by decide) (.slice B m cp) m (strs xs) rfl (HO.out.alloc _) ⟨wc.heap.size, 0, none⟩ 1 1 [.string ⟨#[105, 110]⟩] rfl rfl (one_new _ _ _) ?d2 ?d3 ?d4 ?d5 ?_)
    case d2 => intro u hu; simp at hu; rcases hu with rfl <;> rfl
    case d3 => have := HX.out.2.2; unfold maxLen; omega
    case d4 => have := HX.out.2.2; omega
    case d5 => have := HX.out.1.below.size; have := (Array.getElem?_eq_some_iff.1 HX.out.1.blk).1; simp; omega
    intro v' w3 hown' hgrow _
    obtain ⟨B', cp', rfl⟩ := own_shape hown'
    have HY : Hid (PR w w3 (repO kn time ⟨S.toArray⟩ ⟨Ab.toArray⟩ (.slice A ln cap) souls trust) (.slice B' (m + 1) cp') (xs ++ [[105, 110]])) := Lib.hid (HX.out.1.put (ys := [[105, 110]]) (by rw [← HX.out.2.1]; exact hown') hgrow)
    clear hown' hgrow
    obtain ⟨-, -, -, -, x4, -⟩ := rep_cells HY.out.blk
    go_upto_region 8 with fail
    have HX2 : Hid (PR w w3 (repO kn time ⟨S.toArray⟩ ⟨Ab.toArray⟩ (.slice A ln cap) souls trust) (.slice B' (m + 1) cp') (xs ++ [[105, 110]]) ∧ m + 1 = (xs ++ [[105, 110]]).length ∧ m ≤ 60) := Lib.hid ⟨HY.out, by rw [List.length_append, HX.out.2.1]; rfl, HX.out.2.2⟩
    obtain ⟨rO, hrO⟩ : ∃ rO : Obj, rO = (repO kn time ⟨S.toArray⟩ ⟨Ab.toArray⟩ (.slice A ln cap) souls trust) := ⟨_, rfl⟩
    rw [← hrO] at HX2
    have HRO := Lib.hid hrO
    clear hrO
    generalize hys : xs ++ [[105, 110]] = ys at HX2
    have HYS := Lib.hid hys
    clear hys HY HX HO x4
    go_loopw [3, 33] (fun s3 iv wz => ∃ (j : Nat) (B : Option Addr) (cp m : Nat) (xs1 : List (List UInt8)), j ≤ ln ∧ iv = .int .i64 j ∧ s3 = .slice B m cp ∧ Hid (PR w wz rO (.slice B m cp) xs1 ∧ m = xs1.length ∧ m ≤ 61 + 2 * j ∧ xs1 = ys ++ flatW (l.take j))) (fun _ iv _ => ln - (intOf iv).toNat)
    case atStart => exact ⟨0, _, _, _, _, Nat.zero_le _, rfl, rfl, Lib.hid ⟨HX2.out.1, HX2.out.2.1, by have := HX2.out.2.2; omega, by simp [flatW]⟩⟩
    case round =>
      clear HX2
      obtain ⟨j, B, cp, m, xs1, hj, rfl, rfl, HI⟩ := hrel
      by_cases hlt : j < ln
      · have hltl : j < l.length := by rw [← HLN.out]; exact hlt
        obtain ⟨hn1, hc1, gA, oA, rfl, hgA, p1, p2⟩ := ((show Area wr (.slice A ln cap) l from HAR.out _ HI.out.1.below).at_ hltl)
        have HXY : Hid ((-10000000000 < (atZ l j).1 ∧ (atZ l j).1 < 10000000000) ∧ (-10000000000 < (atZ l j).2 ∧ (atZ l j).2 < 10000000000)) := Lib.hid (HPL.out _ (by unfold atZ; rw [List.getD_eq_getElem?_getD, List.getElem?_eq_getElem hltl]; exact List.getElem_mem hltl))
        have HFL : Hid (flatW (l.take (j + 1)) = flatW (l.take j) ++ [Lib.itoa (atZ l j).1, Lib.itoa (atZ l j).2]) := Lib.hid (by
          rw [List.take_succ_eq_append_getElem hltl]
          unfold flatW atZ
          rw [List.flatMap_append, List.getD_eq_getElem?_getD, List.getElem?_eq_getElem hltl]; simp)
        generalize atZ l j = pxy at p1 p2 HXY HFL
        obtain ⟨x, y⟩ := pxy
        dsimp only at p1 p2 HXY HFL
        have HZX : Hid (-10000000000 < x ∧ x < 10000000000) := Lib.hid HXY.out.1
        have HZY : Hid (-10000000000 < y ∧ y < 10000000000) := Lib.hid HXY.out.2
        have HLT := Lib.hid hlt
        have HN1 : Hid (m = xs1.length ∧ m ≤ 61 + 2 * j) := Lib.hid ⟨HI.out.2.1, HI.out.2.2.1⟩
        have HF : Hid (xs1 = ys ++ flatW (l.take j)) := Lib.hid HI.out.2.2.2
        clear hn1 hltl HXY
        go_wp2_with fail
        obtain ⟨q, hq⟩ : ∃ q, q = wr.heap.size := ⟨_, rfl⟩
        have H_w4 : Hid (PR w (wr.alloc (.cells #[.int .i64 x, .int .i64 y] 24)).drew rO (.slice B m cp) xs1 ∧ (wr.alloc (.cells #[.int .i64 x, .int .i64 y] 24)).drew.heap[q]? = some (.cells #[.int .i64 x, .int .i64 y] 24 (0, 0))) := Lib.hid ⟨(HI.out.1.next (new_below _ _)).drew, by rw [hq]; exact heap_alloc_new _ _⟩
        have HQ : Hid (some q ≠ (Value.slice B m cp).ownBlock) := Lib.hid (by intro e; have := (HI.out.1.own.lt _ e.symm).2; omega)
        rw [← hq]
        clear hq p1 p2 hc1 hgA HI
        refine wp_region_held_drew (S := (fun w' => w'.cell? ⟨q, 0, none⟩ = some (.int .i64 x) ∧ w'.cell? ⟨q, 1, none⟩ = some (.int .i64 y))) (by kernel_rfl) (spot_cells (p := (x, y)) H_w4.out.2) (fun hHeld => ?_)
        refine takeH (i := 0) (n := 37) (v := .slice B m cp) rfl rfl (by kernel_rfl) (by kernel_rfl) (by kernel_rfl) (fun _ _ _ h => h) (Or.inl ⟨by kernel_rfl, ?_⟩) (by assumption) ?_
        · intro w hSw; (try dsimp only at hSw); go_simp
        try simp only [Act.put, List.setIfInBounds_toArray, List.set_cons_zero, List.set_cons_succ]
        refine takeH (i := 1) (n := 38) (v := .pointer (some ⟨q, 0, none⟩)) rfl rfl (by kernel_rfl) (by kernel_rfl) (by kernel_rfl) (fun _ _ _ h => h) (Or.inl ⟨by kernel_rfl, ?_⟩) (by assumption) ?_
        · intro w hSw; (try dsimp only at hSw); go_simp
        try simp only [Act.put, List.setIfInBounds_toArray, List.set_cons_zero, List.set_cons_succ]
        refine takeH (i := 2) (n := 39) (v := .int .i64 x) rfl rfl (by kernel_rfl) (by kernel_rfl) (by kernel_rfl) (fun _ _ _ h => h) (Or.inl ⟨by kernel_rfl, ?_⟩) (by assumption) ?_
        · intro w hSw; (try dsimp only at hSw); go_simp
        try simp only [Act.put, List.setIfInBounds_toArray, List.set_cons_zero, List.set_cons_succ]
        refine takeH (i := 4) (n := 41) (v := .pointer (some ⟨q, 1, none⟩)) rfl rfl (by kernel_rfl) (by kernel_rfl) (by kernel_rfl) (fun _ _ _ h => h) (Or.inl ⟨by kernel_rfl, ?_⟩) (by assumption) ?_
        · intro w hSw; (try dsimp only at hSw); go_simp
        try simp only [Act.put, List.setIfInBounds_toArray, List.set_cons_zero, List.set_cons_succ]
        refine takeH (i := 5) (n := 42) (v := .int .i64 y) rfl rfl (by kernel_rfl) (by kernel_rfl) (by kernel_rfl) (fun _ _ _ h => h) (Or.inl ⟨by kernel_rfl, ?_⟩) (by assumption) ?_
        · intro w hSw; (try dsimp only at hSw); go_simp
        try simp only [Act.put, List.setIfInBounds_toArray, List.set_cons_zero, List.set_cons_succ]
        refine wpAnyH_ready (rs := [3]) (by kernel_rfl) (by simp) ?_
        clear hHeld
        refine AllReadyH.cons rfl (fun K hK => ?_) AllReadyH.nil
        try rw [if_pos (by kernel_rfl)]
        try go_simp
        refine (HIT.out _ _ HZX.out (HTAB.out _ H_w4.out.1.below)).mono ?_
        rintro e w5 ⟨rfl, hb_w5⟩
        have H_w5 : Hid (PR w w5 rO (.slice B m cp) xs1 ∧ w5.heap[q]? = some (.cells #[.int .i64 x, .int .i64 y] 24 (0, 0))) := Lib.hid ⟨H_w4.out.1.next hb_w5, stay H_w4.out.2 hb_w5⟩
        have hS : w5.cell? ⟨q, 0, none⟩ = some (.int .i64 x) ∧ w5.cell? ⟨q, 1, none⟩ = some (.int .i64 y) := spot_cells (p := (x, y)) H_w5.out.2
        clear hb_w5
        refine hK.out _ _ hS (fun _ => ?_)
        clear hK K
        try simp only [Act.put, List.getElem_toArray, List.getElem_cons_succ, List.getElem_cons_zero, List.setIfInBounds_toArray, List.set_cons_zero, List.set_cons_succ]
        clear hS
        refine wpAnyH_ready (rs := [6]) (by kernel_rfl) (by simp) ?_
        refine AllReadyH.cons rfl (fun K hK => ?_) AllReadyH.nil
        try rw [if_pos (by kernel_rfl)]
        try go_simp
        refine (HIT.out _ _ HZY.out (HTAB.out _ H_w5.out.1.below)).mono ?_
        rintro e w6 ⟨rfl, hb_w6⟩
        have H_w6 : Hid (PR w w6 rO (.slice B m cp) xs1 ∧ w6.heap[q]? = some (.cells #[.int .i64 x, .int .i64 y] 24 (0, 0))) := Lib.hid ⟨H_w5.out.1.next hb_w6, stay H_w5.out.2 hb_w6⟩
        have hS : w6.cell? ⟨q, 0, none⟩ = some (.int .i64 x) ∧ w6.cell? ⟨q, 1, none⟩ = some (.int .i64 y) := spot_cells (p := (x, y)) H_w6.out.2
        clear hb_w6
        refine hK.out _ _ hS (fun _ => ?_)
        clear hK K
        try simp only [Act.put, List.getElem_toArray, List.getElem_cons_succ, List.getElem_cons_zero, List.setIfInBounds_toArray, List.set_cons_zero, List.set_cons_succ]
        clear hS
        refine wpAnyH_ready (rs := [7]) (by kernel_rfl) (by simp) ?_
        refine AllReadyH.cons rfl (fun K hK => ?_) AllReadyH.nil
        try rw [if_pos (by kernel_rfl)]
        try go_simp
        have hS : ∀ o, (w6.alloc o).cell? ⟨q, 0, none⟩ = some (.int .i64 x) ∧ (w6.alloc o).cell? ⟨q, 1, none⟩ = some (.int .i64 y) := fun o => spot_cells (p := (x, y)) (stay H_w6.out.2 (new_below _ _))
        refine hK.out _ _ (hS _) (fun _ => ?_)
        clear hK K
        try simp only [Act.put, List.getElem_toArray, List.getElem_cons_succ, List.getElem_cons_zero, List.setIfInBounds_toArray, List.set_cons_zero, List.set_cons_succ]
        refine wpAnyH_ready (rs := [8]) (by kernel_rfl) (by simp) ?_
        refine AllReadyH.cons rfl (fun K hK => ?_) AllReadyH.nil
        try rw [if_pos (by kernel_rfl)]
        have hown : w6.ownsRow (w.heap.size + 1) 9 1 (.slice B m cp) m (strs xs1) := by have := H_w6.out.1.own; rwa [← HN1.out.1] at this
        have hsz := H_w6.out.1.below.size
        have hlt := (Array.getElem?_eq_some_iff.1 H_w6.out.1.blk).1
        have hm1 := HN1.out.2
        refine wp_append_own (w6.alloc (.cells #[.string ⟨(Lib.itoa x).toArray⟩, .string ⟨(Lib.itoa y).toArray⟩] 9)) (.tmp 37) (.tmp 44) 68 rfl (w.heap.size + 1) 9 i0 (.string ⟨#[]⟩) 1 16 Tryz.underlying68 hi hz0 hz1 hz2 rfl (by decide) (.slice B m cp) m (strs xs1) rfl (hown.alloc _) ⟨w6.heap.size, 0, none⟩ 2 2 [.string ⟨(Lib.itoa x).toArray⟩, .string ⟨(Lib.itoa y).toArray⟩] rfl rfl (two_new _ _ _ _) (fun u hu => by simp at hu; rcases hu with rfl | rfl <;> rfl) (by unfold maxLen; omega) (by omega) (by simp; omega) ?_
        rintro v' w3 hown' hgrow -
        clear hown hsz hlt hm1
        obtain ⟨B', cp', rfl⟩ := own_shape hown'
        have HY : Hid (PR w w3 rO (.slice B' (m + 2) cp') (xs1 ++ [Lib.itoa x, Lib.itoa y])) := Lib.hid (H_w6.out.1.put (ys := [Lib.itoa x, Lib.itoa y]) (by rw [← HN1.out.1]; exact hown') hgrow)
        have hS : w3.cell? ⟨q, 0, none⟩ = some (.int .i64 x) ∧ w3.cell? ⟨q, 1, none⟩ = some (.int .i64 y) := by
          have hb : (w6.alloc (.cells #[.string ⟨(Lib.itoa x).toArray⟩, .string ⟨(Lib.itoa y).toArray⟩] 9)).heap[q]? = some (.cells #[.int .i64 x, .int .i64 y] 24 (0, 0)) := stay H_w6.out.2 (new_below _ _)
          have hq : w3.heap[q]? = some (.cells #[.int .i64 x, .int .i64 y] 24 (0, 0)) := (hgrow.block q (Array.getElem?_eq_some_iff.1 hb).1 (by intro e; exact HQ.out e)).trans hb
          exact spot_cells (p := (x, y)) hq
        clear hown' hgrow
        refine hK.out _ _ hS (fun _ => ?_)
        clear hK K
        try simp only [Act.put, List.getElem_toArray, List.getElem_cons_succ, List.getElem_cons_zero, List.setIfInBounds_toArray, List.set_cons_zero, List.set_cons_succ]
        refine wpAnyH_ready (rs := [9]) (by kernel_rfl) (by simp) ?_
        refine AllReadyH.cons rfl (fun K hK => ?_) AllReadyH.nil
        try rw [if_pos (by kernel_rfl)]
        try go_simp
        refine hK.out _ _ hS (fun _ => ?_)
        clear hK K
        try simp only [Act.put, List.getElem_toArray, List.getElem_cons_succ, List.getElem_cons_zero, List.setIfInBounds_toArray, List.set_cons_zero, List.set_cons_succ]
        refine wpAnyH_done (by kernel_rfl) ?_ _
        clear hS
        go_wp2
        go_roundw
        case rel => exact ⟨j + 1, _, _, _, _, by have := HLT.out; omega, by go_num, rfl, Lib.hid ⟨HY.out, by rw [List.length_append, HN1.out.1]; rfl, by have := HN1.out.2; omega, by rw [HF.out, HFL.out, List.append_assoc]⟩⟩
        case measure => have := HLT.out; simp [intOf]; omega
      · have hjl : j = ln := by omega
        have HX : Hid (PR w wr rO (.slice B m cp) xs1 ∧ m = xs1.length ∧ m ≤ 130) := Lib.hid ⟨HI.out.1, HI.out.2.1, by have := HI.out.2.2.1; omega⟩
        have HXS1 : Hid (xs1 = ys ++ flatW l) := Lib.hid (by rw [HI.out.2.2.2, hjl, HLN.out, List.take_length])
        clear HI hjl
        rw [HRO.out] at HX
        obtain ⟨-, -, -, -, -, x5, -⟩ := rep_cells HX.out.1.blk
        go_upto_if 49 with fail
        clear x5
        go_cut [3] (fun s3 wz => ∃ (B : Option Addr) (cp m : Nat) (xs : List (List UInt8)), s3 = .slice B m cp ∧ Hid (PR w wz (repO kn time ⟨S.toArray⟩ ⟨Ab.toArray⟩ (.slice A ln cap) souls trust) (.slice B m cp) xs ∧ m = xs.length ∧ m ≤ 140 ∧ xs = ys ++ flatW l ++ (if souls = -1 then [] else [soulsL, Lib.itoa souls])))
        case first =>
          generalize hq : ((souls : Int) != -1) = q
          cases q with
          | false =>
            have HSZ : Hid (souls = -1) := Lib.hid (by simpa using hq)
            clear hq
            go_wp2_with fail
            go_meet
            exact ⟨_, _, _, _, rfl, Lib.hid ⟨HX.out.1, HX.out.2.1, by have := HX.out.2.2; omega, by rw [HXS1.out, if_pos HSZ.out, List.append_nil]⟩⟩
          | true =>
            have HSZ : Hid (souls ≠ -1) := Lib.hid (by simpa using hq)
            clear hq
            obtain ⟨-, -, -, -, -, x5, -⟩ := rep_cells HX.out.1.blk
            go_wp2_with fail
            refine (HIT.out _ _ HSO.out (HTAB.out _ HX.out.1.below)).mono ?_
            rintro e w4 ⟨rfl, hb4⟩
            have HX4 : Hid (PR w w4 (repO kn time ⟨S.toArray⟩ ⟨Ab.toArray⟩ (.slice A ln cap) souls trust) (.slice B m cp) xs1 ∧ m = xs1.length ∧ m ≤ 130) := Lib.hid ⟨HX.out.1.next hb4, HX.out.2⟩
            have HO : Hid (w4.ownsRow (w.heap.size + 1) 9 1 (.slice B m cp) m (strs xs1)) := Lib.hid (by have := HX4.out.1.own; rwa [← HX4.out.2.1] at this)
            clear hb4 x5
            go_wp2_with (at_builtin; refine wpList_append_own _ rfl _ _ 68 rfl (w.heap.size + 1) 9 i0 (.string ⟨#[]⟩) 1 16 Tryz.underlying68 hi hz0 hz1 hz2 rfl (by decide) (.slice B m cp) m (strs xs1) rfl (HO.out.alloc _) ⟨w4.heap.size, 0, none⟩ 2 2 [.string ⟨#[115, 111, 117, 108, 115]⟩, .string ⟨(Lib.itoa souls).toArray⟩] rfl rfl (two_new _ _ _ _) ?e2 ?e3 ?e4 ?e5 ?_)
            case e2 => intro u hu; simp at hu; rcases hu with rfl | rfl <;> rfl
            case e3 => have := HX4.out.2.2; unfold maxLen; omega
            case e4 => have := HX4.out.2.2; omega
            case e5 => have := HX4.out.1.below.size; have := (Array.getElem?_eq_some_iff.1 HX4.out.1.blk).1; simp; omega
            intro v' w3 hown' hgrow _
            obtain ⟨B', cp', rfl⟩ := own_shape hown'
            have HY : Hid (PR w w3 (repO kn time ⟨S.toArray⟩ ⟨Ab.toArray⟩ (.slice A ln cap) souls trust) (.slice B' (m + 2) cp') (xs1 ++ [soulsL, Lib.itoa souls])) := Lib.hid (HX4.out.1.put (ys := [soulsL, Lib.itoa souls]) (by rw [← HX4.out.2.1]; exact hown') hgrow)
            clear hown' hgrow
            go_wp2_with fail
            go_meet
            exact ⟨_, _, _, _, rfl, Lib.hid ⟨HY.out, by rw [List.length_append, HX4.out.2.1]; rfl, by have := HX4.out.2.2; omega, by rw [HXS1.out, if_neg HSZ.out]⟩⟩
        case rest =>
          clear HX HXS1
          obtain ⟨B, cp, m, xs, rfl, HX⟩ := hcut
          obtain ⟨-, -, -, -, -, -, x6⟩ := rep_cells HX.out.1.blk
          go_wp2_with fail
          refine (HIT.out _ _ HTR.out (HTAB.out _ HX.out.1.below)).mono ?_
          rintro e w4 ⟨rfl, hb4⟩
          have HX4 : Hid (PR w w4 (repO kn time ⟨S.toArray⟩ ⟨Ab.toArray⟩ (.slice A ln cap) souls trust) (.slice B m cp) xs ∧ m = xs.length ∧ m ≤ 140) := Lib.hid ⟨HX.out.1.next hb4, HX.out.2.1, HX.out.2.2.1⟩
          have HO : Hid (w4.ownsRow (w.heap.size + 1) 9 1 (.slice B m cp) m (strs xs)) := Lib.hid (by have := HX4.out.1.own; rwa [← HX4.out.2.1] at this)
          clear hb4 x6
          go_wp2_with (at_builtin; refine wpList_append_own _ rfl _ _ 68 rfl (w.heap.size + 1) 9 i0 (.string ⟨#[]⟩) 1 16 Tryz.underlying68 hi hz0 hz1 hz2 rfl (by decide) (.slice B m cp) m (strs xs) rfl (HO.out.alloc _) ⟨w4.heap.size, 0, none⟩ 2 2 [.string ⟨#[116, 114, 117, 115, 116]⟩, .string ⟨(Lib.itoa trust).toArray⟩] rfl rfl (two_new _ _ _ _) ?f2 ?f3 ?f4 ?f5 ?_)
          case f2 => intro u hu; simp at hu; rcases hu with rfl | rfl <;> rfl
          case f3 => have := HX4.out.2.2; unfold maxLen; omega
          case f4 => have := HX4.out.2.2; omega
          case f5 => have := HX4.out.1.below.size; have := (Array.getElem?_eq_some_iff.1 HX4.out.1.blk).1; simp; omega
          intro v' w3 hown' hgrow _
          obtain ⟨B', cp', rfl⟩ := own_shape hown'
          obtain ⟨ws, hws⟩ : ∃ ws, ws = xs ++ [trustL, Lib.itoa trust] := ⟨_, rfl⟩
          have hwl : ws.length = m + 2 := by rw [hws, List.length_append, HX4.out.2.1]; rfl
          have HY : Hid (PR w w3 (repO kn time ⟨S.toArray⟩ ⟨Ab.toArray⟩ (.slice A ln cap) souls trust) (.slice B' (m + 2) cp') ws) := Lib.hid (by rw [hws]; exact HX4.out.1.put (ys := [trustL, Lib.itoa trust]) (by rw [← HX4.out.2.1]; exact hown') hgrow)
          have HWS : Hid (ws = wordsR kn time S Ab l souls trust) := Lib.hid (by
            rw [hws, HX.out.2.2.2, ← HYS.out, HXS.out]
            unfold wordsR flatW
            simp)
          have HWL : Hid (ws.length = m + 2 ∧ m ≤ 140) := Lib.hid ⟨hwl, HX4.out.2.2⟩
          rw [← hwl] at hown'
          clear hws hgrow hwl
          obtain ⟨gB, cB, hB, hB1, hB2, hB3⟩ := own_slice (show w3.ownsRow (w.heap.size + 1) 9 1 (.slice B' (m + 2) cp') ws.length (strs ws) from HY.out.own) (by rw [HWL.out.1]; omega)
          rw [HWL.out.1] at hB hB3
          simp only [Value.slice.injEq, true_and] at hB
          obtain ⟨rfl, rfl⟩ := hB
          have HJ : Hid (Calls Tryz.prog 39 #[.slice (some ⟨gB, 0, none⟩) (m + 2) cp', .string ⟨#[32]⟩] w3 fun e w' => e = .returned (.string ⟨(joinW (wordsR kn time S Ab l souls trust)).toArray⟩) ∧ Below w3.heap.size w3 w') := Lib.hid (by
            have hml : (ws.map fun x => (⟨x.toArray⟩ : ByteArray)).map (·.data.toList) = ws := by rw [List.map_map]; exact List.map_id' _
            have hlw : (ws.map fun x => (⟨x.toArray⟩ : ByteArray)).length = m + 2 := by rw [List.length_map, HWL.out.1]
            have := Tryz.strings_Join gB 0 cp' (ws.map fun x => ⟨x.toArray⟩) ⟨#[32]⟩ w3 (fun j x hx => by
              have h1 := HY.out.own.cells (g := gB) rfl j (.string x) (by unfold strs; rw [List.getElem?_map] at hx ⊢; cases hw : ws[j]? with | none => rw [hw] at hx; cases hx | some u => rw [hw] at hx; cases hx; rfl)
              rwa [addr_add, ← Nat.zero_add j] at h1) hB2 (by rw [hlw]; have := HWL.out.2; omega) (by rw [hlw]; exact hB3) (by
              rw [hml]
              show (Lib.join ws [32]).length ≤ _
              rw [join_is]
              have h1 := joinW_len (M := 1000) ws (by rw [HWS.out]; exact words_len HABL.out.1 HABL.out.2 HTI.out HSO.out HTR.out HPL.out)
              have h2 := HWL.out.2; rw [HWL.out.1] at h1; omega)
            rw [hlw, hml] at this
            rw [← HWS.out, ← join_is]
            exact this)
          have HBZ := Lib.hid HY.out.below
          clear hown' hB1 hB2 hB3 HY HX4 HX HO
          go_wp2_with fail
          refine HJ.out.mono ?_
          rintro e w5 ⟨rfl, hb5⟩
          have HZ := Lib.hid (below_chain HBZ.out hb5)
          clear hb5 HJ
          go_wp2
          go_ret
          exact ⟨rfl, HZ.out⟩
end Go.Proofs.YtjcaaejfokmolaaGreatDoor
