/- readSection: a word, and what stands behind it. -/
import Derived.Test.YtjcaaejfokmolaaGreatDoorRpKind
namespace Go.Proofs.YtjcaaejfokmolaaGreatDoor
open Go.RowKit

/-- what the package's variables hold. -/
structure Env (m : Int) (w : World) : Prop where
  mx : w.cell? ⟨2, 0, none⟩ = some (.int .i64 m)
  kw : Words w

theorem LineIs.not_words {w B t s wv} (h : LineIs w B t s wv) (hk : Words w) : 0 ≠ B := by
  rintro rfl
  have h1 := h.cell 1
  rw [hk 1 (by omega)] at h1
  simp [lineCells] at h1

theorem Env.grown {m : Int} {w w' : World} {B t s wv} (h : Env m w) (hl : LineIs w B t s wv) (hg : w.grownBy w' (some B)) : Env m w' :=
  ⟨hg.cell h.mx (by intro e; injection e with e; exact hl.not_max h.mx e), fun i hi => hg.cell (h.kw i hi) (by intro e; injection e with e; exact hl.not_words h.kw e)⟩

/-- The slice v is the list of places l. -/
def Area (w : World) (v : Value) (l : List (Int × Int)) : Prop :=
  ∃ A cap, v = .slice A l.length cap ∧ l.length ≤ cap ∧ (l ≠ [] → ∃ g off, A = some ⟨g, off, none⟩ ∧ g < w.heap.size ∧
    ∀ i x y, l[i]? = some (x, y) → w.cell? ⟨g, off + i * 2, none⟩ = some (.int .i64 x) ∧ w.cell? ⟨g, off + i * 2 + 1, none⟩ = some (.int .i64 y))

/-- v is a slice of a block beyond B, if it is one at all. -/
def Apart (B : Nat) (v : Value) : Prop := ∀ g off n cap, v = .slice (some ⟨g, off, none⟩) n cap → B < g

theorem Area.grown {w w' : World} {B : Nat} {v : Value} {l : List (Int × Int)} (h : Area w v l) (ha : Apart B v) (hg : w.grownBy w' (some B)) : Area w' v l := by
  obtain ⟨A, cap, rfl, hc, hx⟩ := h
  refine ⟨A, cap, rfl, hc, fun hne => ?_⟩
  obtain ⟨g, off, rfl, hlt, hcell⟩ := hx hne
  have hgB : g ≠ B := Nat.ne_of_gt (ha g off _ _ rfl)
  refine ⟨g, off, rfl, Nat.lt_of_lt_of_le hlt hg.size, fun i x y hi => ?_⟩
  obtain ⟨h1, h2⟩ := hcell i x y hi
  exact ⟨hg.cell h1 (by intro e; injection e with e; exact hgB e), hg.cell h2 (by intro e; injection e with e; exact hgB e)⟩

abbrev Sl := St × List (Int × Int)

/-- A line in memory: what has been read of it, the places among it. -/
structure Held (m : Int) (w : World) (B : Nat) (t : ByteArray) (s : Sl) (wv : Value) : Prop where
  line : LineIs w B t s.1 wv
  area : Area w wv s.2
  apart : Apart B wv
  none_ : s.2 = [] → wv = .slice none 0 0
  env : Env m w

theorem Held.grown {m w w' B t s wv} {s' : St} (h : Held m w B t s wv) (hl : LineIs w' B t s' wv) (hg : w.grownBy w' (some B)) : Held m w' B t (s', s.2) wv :=
  ⟨hl, h.area.grown h.apart hg, h.apart, h.none_, h.env.grown h.line hg⟩

/-- How a reading ends. -/
def Post (m : Int) (B : Nat) (t : ByteArray) (r : Except (Nat × Int) Sl) (w : World) (e : Ending) (w' : World) : Prop :=
  match r with
  | .ok s' => e = .returned (.tuple #[]) ∧ (∃ wv', Held m w' B t s' wv') ∧ w.grownBy w' (some B)
  | .error x => e = .panicked [{ v := faultV x.1 x.2, recovered := false }] ∧ w.grownBy w' (some B)

/-- The function F reads as f does, where Q holds of the places so far. -/
def Does (m : Int) (t : ByteArray) (F : FuncId) (Q : List (Int × Int) → Prop) (f : Sl → Except (Nat × Int) Sl) : Prop :=
  ∀ (B : Nat) (s : Sl) (wv : Value) (w : World), Q s.2 → Held m w B t s wv → Calls Tryz.prog F #[.pointer (some ⟨B, 0, none⟩)] w (Post m B t (f s) w)

/-- what leaves the places alone. -/
def lift (f : ByteArray → St → Except (Nat × Int) St) (t : ByteArray) (s : Sl) : Except (Nat × Int) Sl :=
  match f t s.1 with
  | .ok s' => .ok (s', s.2)
  | .error x => .error x

theorem Does.of_sec {m : Int} {t : ByteArray} {F : FuncId} {Q : List (Int × Int) → Prop} {f : ByteArray → St → Except (Nat × Int) St}
    (h : ∀ (B : Nat) (s : St) (wv : Value) (w : World), LineIs w B t s wv → Env m w → Calls Tryz.prog F #[.pointer (some ⟨B, 0, none⟩)] w (SecPost B t wv (f t s) w)) : Does m t F Q (lift f t) := by
  intro B s wv w _ hh
  refine (h B s.1 wv w hh.line hh.env).mono fun e w' hp => ?_
  unfold SecPost at hp
  unfold Post lift
  cases hr : f t s.1 with
  | ok s' => rw [hr] at hp; exact ⟨hp.1, ⟨wv, hh.grown hp.2.1 hp.2.2⟩, hp.2.2⟩
  | error x => rw [hr] at hp; exact hp

theorem does_kind (m : Int) (t : ByteArray) (Q : List (Int × Int) → Prop) : Does m t 82 Q (lift kindSec t) :=
  Does.of_sec fun B s wv w hl he => readKind_any B t s wv m w hl he.mx he.kw
theorem does_1 (m : Int) (t : ByteArray) (Q : List (Int × Int) → Prop) : Does m t 83 Q (lift (numSec 0 1073741824 (fun s v => { s with time := v })) t) :=
  Does.of_sec fun B s wv w hl he => sec1_any B t s wv m w hl he.mx
theorem does_2 (m : Int) (t : ByteArray) (Q : List (Int × Int) → Prop) : Does m t 85 Q (lift (nameSec (fun s v => { s with src := v })) t) :=
  Does.of_sec fun B s wv w hl he => sec2_any B t s wv m w hl he.mx
theorem does_3 (m : Int) (t : ByteArray) (Q : List (Int × Int) → Prop) : Does m t 87 Q (lift (nameSec (fun s v => { s with abt := v })) t) :=
  Does.of_sec fun B s wv w hl he => sec3_any B t s wv m w hl he.mx
theorem does_4 (m : Int) (t : ByteArray) (Q : List (Int × Int) → Prop) : Does m t 89 Q (lift (numSec 0 10000 (fun s v => { s with souls := v })) t) :=
  Does.of_sec fun B s wv w hl he => sec4_any B t s wv m w hl he.mx
theorem does_5 (m : Int) (t : ByteArray) (Q : List (Int × Int) → Prop) : Does m t 90 Q (lift (numSec 0 1000 (fun s v => { s with trust := v })) t) :=
  Does.of_sec fun B s wv w hl he => sec5_any B t s wv m w hl he.mx

/-- a section: its word, whether it may be missing, how it is read on. -/
def section_ (t : ByteArray) (word : List UInt8) (free : Bool) (f : Sl → Except (Nat × Int) Sl) (s : Sl) : Except (Nat × Int) Sl :=
  if word = [] then f s
  else if partL t.data.toList s.1.a = word then f ({ s.1 with a := afterL t s.1.a }, s.2)
  else if free then .ok s
  else .error (min s.1.a t.size, 5)

/-- the world with the section in a block of its own. -/
theorem Held.alloc {m w B t s wv} (h : Held m w B t s wv) (o : Obj) : Held m (w.alloc o) B t s wv := by
  have hg : w.grownBy (w.alloc o) (some B) := World.grownBy_alloc w o _
  have : LineIs (w.alloc o) B t s.1 wv := h.line.of_block (Below.heap_alloc w o B h.line.lt)
  exact h.grown this hg

theorem Post.back {m B t r w e w'} {o : Obj} (h : Post m B t r (w.alloc o) e w') : Post m B t r w e w' := by
  unfold Post at h ⊢
  cases r with
  | ok s' => exact ⟨h.1, h.2.1, grown_trans (World.grownBy_alloc w o _) h.2.2⟩
  | error x => exact ⟨h.1, grown_trans (World.grownBy_alloc w o _) h.2⟩

theorem Post.trans {m B t r w w1 e w'} (hg : w.grownBy w1 (some B)) (h : Post m B t r w1 e w') : Post m B t r w e w' := by
  unfold Post at h ⊢
  cases r with
  | ok s' => exact ⟨h.1, h.2.1, grown_trans hg h.2.2⟩
  | error x => exact ⟨h.1, grown_trans hg h.2⟩

theorem Post.ok {m B t r w e w' s'} (h : Post m B t r w e w') (hr : r = .ok s') : e = .returned (.tuple #[]) := by
  rw [hr] at h; exact h.1
theorem Post.error {m B t r w e w'} {x : Nat × Int} (h : Post m B t r w e w') (hr : r = .error x) : e = .panicked [{ v := faultV x.1 x.2, recovered := false }] := by
  rw [hr] at h; exact h.1

set_option maxHeartbeats 1000000 in
theorem section_empty (m : Int) (t : ByteArray) (F : FuncId) (f : Sl → Except (Nat × Int) Sl) (free : Bool) (Q : List (Int × Int) → Prop) (hF : Does m t F Q f) (he : ∀ args w, (callFunc F args).run Tryz.prog w = .ok (.enter F args) w)
    (B : Nat) (s : Sl) (wv : Value) (w : World) (hq : Q s.2) (hh : Held m w B t s wv) :
    Calls Tryz.prog 50 #[.pointer (some ⟨B, 0, none⟩), .agg #[.string ⟨#[]⟩, .bool free, .func (.func F) #[] #[]]] w (Post m B t (f s) w) := by
  have hH := Lib.hid hh
  have hf := Lib.hid hF
  clear hh hF
  cases hr : f s with
  | ok s' =>
    have HR := Lib.hid hr; clear hr
    go_enter Tryz.func50, Tryz.ntmps50
    go_wp2_with (go_at_fn F; refine (hf.out B s wv _ hq (hH.out.alloc _)).mono ?_; rintro e w' hp; obtain rfl := hp.ok HR.out; have HP := Lib.hid hp; clear hp)
    go_end0
    rw [← HR.out]
    exact HP.out.back
  | error x =>
    have HR := Lib.hid hr; clear hr
    go_enter Tryz.func50, Tryz.ntmps50
    go_wp2_with (go_at_fn F; refine (hf.out B s wv _ hq (hH.out.alloc _)).mono ?_; rintro e w' hp; obtain rfl := hp.error HR.out; have HP := Lib.hid hp; clear hp)
    refine ⟨rfl, ?_⟩
    rw [← HR.out]
    exact HP.out.back

theorem Held.next {m w w' B t wv} {s : Sl} (h : Held m w B t s wv) (hs : Step B (.int .i64 (s.1.a + (partB t s.1.a).size + 1 : Nat)) w w') (hp : partL t.data.toList s.1.a ≠ []) : Held m w' B t ({ s.1 with a := afterL t s.1.a }, s.2) wv := by
  have hle : afterL t s.1.a ≤ t.size + 1 := by
    have h1 := partB_le t s.1.a
    have h2 : s.1.a ≤ t.size := by
      rcases Nat.lt_or_ge t.size s.1.a with h3 | h3
      · exact absurd (by unfold partL; rw [if_pos (by rw [← Lib.size_eq]; exact h3)]) hp
      · exact h3
    unfold afterL; omega
  exact h.grown (h.line.step hs hle) hs.grown

set_option maxHeartbeats 1000000 in
theorem section_word (m : Int) (t : ByteArray) (F : FuncId) (f : Sl → Except (Nat × Int) Sl) (word : ByteArray) (free : Bool) (hw : word.data.toList ≠ []) (Q : List (Int × Int) → Prop) (hF : Does m t F Q f) (he : ∀ args w, (callFunc F args).run Tryz.prog w = .ok (.enter F args) w)
    (B : Nat) (s : Sl) (wv : Value) (w : World) (hq : Q s.2) (hh : Held m w B t s wv) :
    Calls Tryz.prog 50 #[.pointer (some ⟨B, 0, none⟩), .agg #[.string word, .bool free, .func (.func F) #[] #[]]] w (Post m B t (section_ t word.data.toList free f s) w) := by
  have hH := Lib.hid hh
  have hf := Lib.hid hF
  have hlt := hh.line.lt
  obtain ⟨W, hW⟩ : ∃ W, W = w.alloc (.cells #[.string word, .bool free, .func (.func F) #[] #[]] 81) := ⟨_, rfl⟩
  have hHW : Held m W B t s wv := by rw [hW]; exact hh.alloc _
  have HW := Lib.hid hHW
  have b0 : W.cell? ⟨w.heap.size, 0, none⟩ = some (.string word) := by rw [hW]; simp
  have b1 : W.cell? ⟨w.heap.size, 1, none⟩ = some (.bool free) := by rw [hW]; simp
  have b2 : W.cell? ⟨w.heap.size, 2, none⟩ = some (.func (.func F) #[] #[]) := by rw [hW]; simp
  have HBack : Hid (W = w.alloc (.cells #[.string word, .bool free, .func (.func F) #[] #[]] 81)) := Lib.hid hW
  have HPart : Hid (∀ k, Calls Tryz.prog 91 #[.pointer (some ⟨B, 0, none⟩)] (W.drewN k) fun e w' => e = .returned (.string (partB t s.1.a)) ∧ ∃ n, w' = (W.drewN k).drewN n) := Lib.hid fun k => part_any B t s.1.a m (W.drewN k) (hHW.line.line.drewN k) hHW.env.mx
  have e0 : word.toList.isEmpty = false := by rw [ByteArray.toList_eq]; cases hc : word.data.toList with
    | nil => exact absurd hc hw
    | cons a l => rfl
  have e1 : (word.toList == []) = false := by rw [ByteArray.toList_eq]; simpa using hw
  have e2 : ¬ word.toList = [] := by rw [ByteArray.toList_eq]; exact hw
  have HWW := Lib.hid hw
  clear hh hF hHW hw
  obtain ⟨p, hp0⟩ : ∃ p, p = partB t s.1.a := ⟨_, rfl⟩
  have HX : Hid (partL t.data.toList s.1.a = p.data.toList) := Lib.hid (by rw [hp0]; rfl)
  rw [← hp0] at HPart
  by_cases hpw : p = word
  · subst hpw
    have HS : Hid (section_ t p.data.toList free f s = f ({ s.1 with a := afterL t s.1.a }, s.2)) := Lib.hid (by unfold section_; rw [if_neg HWW.out, if_pos HX.out])
    have HNE : Hid (partL t.data.toList s.1.a ≠ []) := Lib.hid (by rw [HX.out]; exact HWW.out)
    clear hp0
    cases hr : f ({ s.1 with a := afterL t s.1.a }, s.2) with
    | ok s' =>
      have HR := Lib.hid hr; clear hr
      go_enter Tryz.func50, Tryz.ntmps50
      go_wp2_with fail
      rw [← hW]
      clear hW
      go_quiet ((go_at_call 91; exact Calls.quiet_of (HPart.out _)))
      go_wp2_with (go_at_call 92; refine (next_at B t s.1.a m W _ HW.out.line.line HW.out.env.mx).mono ?_; rintro e w2 ⟨rfl, hst⟩; have HH2 := Lib.hid (HW.out.next hst HNE.out); have HG2 := Lib.hid hst.grown; have d2 := hst.grown.cell b2 (by intro e; injection e with e; simp only at e; omega); clear hst)
      refine (hf.out B ({ s.1 with a := afterL t s.1.a }, s.2) wv _ hq HH2.out).mono ?_
      rintro e w' hp
      obtain rfl := hp.ok HR.out
      have HP := Lib.hid hp; clear hp
      go_wp2_with fail
      go_end0
      rw [HS.out]
      have h3 := HP.out.trans HG2.out
      rw [HBack.out] at h3
      exact h3.back
    | error x =>
      have HR := Lib.hid hr; clear hr
      go_enter Tryz.func50, Tryz.ntmps50
      go_wp2_with fail
      rw [← hW]
      clear hW
      go_quiet ((go_at_call 91; exact Calls.quiet_of (HPart.out _)))
      go_wp2_with (go_at_call 92; refine (next_at B t s.1.a m W _ HW.out.line.line HW.out.env.mx).mono ?_; rintro e w2 ⟨rfl, hst⟩; have HH2 := Lib.hid (HW.out.next hst HNE.out); have HG2 := Lib.hid hst.grown; have d2 := hst.grown.cell b2 (by intro e; injection e with e; simp only at e; omega); clear hst)
      refine (hf.out B ({ s.1 with a := afterL t s.1.a }, s.2) wv _ hq HH2.out).mono ?_
      rintro e w' hp
      obtain rfl := hp.error HR.out
      have HP := Lib.hid hp; clear hp
      go_wp2_with fail
      refine ⟨rfl, ?_⟩
      rw [HS.out]
      have h3 := HP.out.trans HG2.out
      rw [HBack.out] at h3
      exact h3.back
  · have g1 : ¬ p.toList = word.toList := fun e => hpw (by rw [ByteArray.toList_eq, ByteArray.toList_eq] at e; exact WideShapes.bytes_inj e)
    have g2 : (p.toList == word.toList) = false := by simpa using g1
    have HNW : Hid (¬ partL t.data.toList s.1.a = word.data.toList) := Lib.hid (by rw [HX.out]; intro e; exact hpw (WideShapes.bytes_inj e))
    clear hp0 hpw
    cases free with
    | true =>
      have HS : Hid (section_ t word.data.toList true f s = .ok s) := Lib.hid (by unfold section_; rw [if_neg HWW.out, if_neg HNW.out]; rfl)
      go_enter Tryz.func50, Tryz.ntmps50
      go_wp2_with fail
      rw [← hW]
      clear hW
      go_quiet ((go_at_call 91; exact Calls.quiet_of (HPart.out _)))
      go_wp2
      refine bodyPost_ret (results_none rfl _ _ _) rfl ?_
      rw [HS.out]
      refine ⟨rfl, ⟨wv, HW.out.grown (HW.out.line.drewN _) (grown_draws (grown_refl _ _) _)⟩, ?_⟩
      rw [HBack.out]
      exact grown_draws (World.grownBy_alloc w _ _) _
    | false =>
      have HS : Hid (section_ t word.data.toList false f s = .error (min s.1.a t.size, 5)) := Lib.hid (by unfold section_; rw [if_neg HWW.out, if_neg HNW.out]; rfl)
      go_enter Tryz.func50, Tryz.ntmps50
      go_wp2_with fail
      rw [← hW]
      clear hW
      go_quiet ((go_at_call 91; exact Calls.quiet_of (HPart.out _)))
      go_wp2_with (go_at_call 93; refine (fail_at B t s.1.a 5 W _ HW.out.line.line).mono ?_; rintro e w' ⟨rfl, n, rfl⟩)
      refine ⟨rfl, ?_⟩
      rw [HS.out]
      refine ⟨rfl, ?_⟩
      rw [HBack.out]
      exact grown_draws (World.grownBy_alloc w _ _) _
end Go.Proofs.YtjcaaejfokmolaaGreatDoor
