/- Places: cross, from, turn. -/
import Derived.Test.YtjcaaejfokmolaaGreatDoorRpWhere
import Derived.Deep.RegionHeld3
import Derived.Laws.ResultCell
namespace Go.Proofs.YtjcaaejfokmolaaGreatDoor
open Go.RowKit

/-- a place as a value. -/
def spotV (p : Int × Int) : Value := .agg #[.int .i64 p.1, .int .i64 p.2]

/-- not too far for products to fit. -/
def near (p : Int × Int) : Prop := (-1073741824 ≤ p.1 ∧ p.1 ≤ 1073741824) ∧ (-1073741824 ≤ p.2 ∧ p.2 ≤ 1073741824)

theorem mul_near {a b : Int} (h1 : -1073741824 ≤ a ∧ a ≤ 1073741824) (h2 : -1073741824 ≤ b ∧ b ≤ 1073741824) : -1152921504606846976 ≤ a * b ∧ a * b ≤ 1152921504606846976 := by
  obtain ⟨a1, a2⟩ := h1; obtain ⟨b1, b2⟩ := h2
  have t1 : 0 ≤ (a + 1073741824) * (b + 1073741824) := Int.mul_nonneg (by omega) (by omega)
  have t2 : 0 ≤ (1073741824 - a) * (1073741824 - b) := Int.mul_nonneg (by omega) (by omega)
  have t3 : 0 ≤ (a + 1073741824) * (1073741824 - b) := Int.mul_nonneg (by omega) (by omega)
  have t4 : 0 ≤ (1073741824 - a) * (b + 1073741824) := Int.mul_nonneg (by omega) (by omega)
  rw [Int.add_mul, Int.mul_add, Int.mul_add] at t1
  rw [Int.sub_mul, Int.mul_sub, Int.mul_sub] at t2
  rw [Int.add_mul, Int.mul_sub, Int.mul_sub] at t3
  rw [Int.sub_mul, Int.mul_add, Int.mul_add] at t4
  omega

def crossZ (a b : Int × Int) : Int := a.1 * b.2 - a.2 * b.1
def fromZ (a b : Int × Int) : Int × Int := (b.1 - a.1, b.2 - a.2)
def turnZ (a b c : Int × Int) : Int := crossZ (fromZ a b) (fromZ b c)

theorem crossZ_near {a b : Int × Int} (ha : near a) (hb : near b) : -2305843009213693952 ≤ crossZ a b ∧ crossZ a b ≤ 2305843009213693952 := by
  have h1 := mul_near ha.1 hb.2; have h2 := mul_near ha.2 hb.1
  unfold crossZ; omega

set_option maxHeartbeats 1000000 in
theorem cross_any (a b : Int × Int) (w : World) (ha : near a) (hb : near b) :
    Calls Tryz.prog 96 #[spotV a, spotV b] w fun e w' => e = .returned (.int .i64 (crossZ a b)) ∧ Below w.heap.size w w' := by
  obtain ⟨a1, a2⟩ := a; obtain ⟨b1, b2⟩ := b
  have m1 := mul_near ha.1 hb.2; have m2 := mul_near ha.2 hb.1
  simp only at m1 m2
  have e1 : IntKind.i64.wrap (a1 * b2) = a1 * b2 := IntWalk.i64_in _ (by omega)
  have e2 : IntKind.i64.wrap (a2 * b1) = a2 * b1 := IntWalk.i64_in _ (by omega)
  have e3 : IntKind.i64.wrap (a1 * b2 - a2 * b1) = a1 * b2 - a2 * b1 := IntWalk.i64_in _ (by omega)
  unfold spotV
  simp only
  clear ha hb
  go_enter Tryz.func96, Tryz.ntmps96
  go_wp2
  go_ret
  exact ⟨rfl, ((Below.refl _ _).alloc (Nat.le_refl _) _).alloc (by simp) _⟩

def near2 (p : Int × Int) : Prop := (-536870912 ≤ p.1 ∧ p.1 ≤ 536870912) ∧ (-536870912 ≤ p.2 ∧ p.2 ≤ 536870912)

set_option maxHeartbeats 1000000 in
theorem from_any (a b : Int × Int) (w : World) (ha : near2 a) (hb : near2 b) :
    Calls Tryz.prog 104 #[spotV a, spotV b] w fun e w' => e = .returned (spotV (fromZ a b)) ∧ Below w.heap.size w w' := by
  obtain ⟨a1, a2⟩ := a; obtain ⟨b1, b2⟩ := b
  obtain ⟨⟨h1, h2⟩, h3, h4⟩ := ha
  obtain ⟨⟨k1, k2⟩, k3, k4⟩ := hb
  simp only at h1 h2 h3 h4 k1 k2 k3 k4
  unfold spotV fromZ
  simp only
  go_enter Tryz.func104, Tryz.ntmps104
  go_wp2
  exact bodyPost_ret (v := .agg #[.int .i64 (b1 - a1), .int .i64 (b2 - a2)]) (by simp [results, Tryz.results104, go_sem]) rfl ⟨rfl, (((Below.refl _ _).alloc (Nat.le_refl _) _).alloc (by simp) _).alloc (by simp; omega) _⟩

theorem below_chain {W w1 w' : World} (h : Below W.heap.size W w1) (k : Below w1.heap.size w1 w') : Below W.heap.size W w' := h.trans (k.mono h.size)

theorem fromZ_near {a b : Int × Int} (ha : near2 a) (hb : near2 b) : near (fromZ a b) := by
  obtain ⟨⟨h1, h2⟩, h3, h4⟩ := ha
  obtain ⟨⟨k1, k2⟩, k3, k4⟩ := hb
  unfold near fromZ
  simp only
  omega

theorem cellNew (w : World) (cs : Array Value) (T : TypeId) (i : Nat) : (w.alloc (.cells cs T)).cell? ⟨w.heap.size, i, none⟩ = cs[i]? := cell_of_row _ w.heap.size i cs T (0, 0) (heap_alloc_new w _)
theorem cell3a (w : World) (cs : Array Value) (T : TypeId) (o1 o2 : Obj) (i : Nat) : (((w.alloc (.cells cs T)).alloc o1).alloc o2).cell? ⟨w.heap.size, i, none⟩ = cs[i]? := by
  rw [World.cell?_alloc_lt _ _ _ (by simp; omega), World.cell?_alloc_lt _ _ _ (by simp)]; exact cellNew w cs T i
theorem cell3b (w : World) (cs : Array Value) (T : TypeId) (o1 o2 : Obj) (i : Nat) : (((w.alloc o1).alloc (.cells cs T)).alloc o2).cell? ⟨w.heap.size + 1, i, none⟩ = cs[i]? := by
  rw [World.cell?_alloc_lt _ _ _ (by simp)]
  have := cellNew (w.alloc o1) cs T i
  rw [World.size_alloc] at this; exact this
theorem cell3c (w : World) (cs : Array Value) (T : TypeId) (o1 o2 : Obj) (i : Nat) : (((w.alloc o1).alloc o2).alloc (.cells cs T)).cell? ⟨w.heap.size + 1 + 1, i, none⟩ = cs[i]? := by
  have := cellNew ((w.alloc o1).alloc o2) cs T i
  rw [World.size_alloc, World.size_alloc] at this; exact this

set_option maxRecDepth 100000 in
set_option maxHeartbeats 2000000 in
theorem turn_any (a b c : Int × Int) (w : World) (ha : near2 a) (hb : near2 b) (hc : near2 c) :
    Calls Tryz.prog 74 #[spotV a, spotV b, spotV c] w fun e w' => e = .returned (.int .i64 (turnZ a b c)) ∧ Below w.heap.size w w' := by
  obtain ⟨p, hp⟩ : ∃ p, p = fromZ a b := ⟨_, rfl⟩
  obtain ⟨q, hq⟩ : ∃ q, q = fromZ b c := ⟨_, rfl⟩
  obtain ⟨r, hr⟩ : ∃ r, r = turnZ a b c := ⟨_, rfl⟩
  have HF1 : Hid (∀ W, Calls Tryz.prog 104 #[.agg #[.int .i64 a.1, .int .i64 a.2], .agg #[.int .i64 b.1, .int .i64 b.2]] W fun e w' => e = .returned (.agg #[.int .i64 p.1, .int .i64 p.2]) ∧ Below W.heap.size W w') := Lib.hid (by rw [hp]; exact fun W => from_any a b W ha hb)
  have HF2 : Hid (∀ W, Calls Tryz.prog 104 #[.agg #[.int .i64 b.1, .int .i64 b.2], .agg #[.int .i64 c.1, .int .i64 c.2]] W fun e w' => e = .returned (.agg #[.int .i64 q.1, .int .i64 q.2]) ∧ Below W.heap.size W w') := Lib.hid (by rw [hq]; exact fun W => from_any b c W hb hc)
  have HCR : Hid (∀ W, Calls Tryz.prog 96 #[.agg #[.int .i64 p.1, .int .i64 p.2], .agg #[.int .i64 q.1, .int .i64 q.2]] W fun e w' => e = .returned (.int .i64 r) ∧ Below W.heap.size W w') := Lib.hid (by rw [hp, hq, hr]; exact fun W => cross_any (fromZ a b) (fromZ b c) W (fromZ_near ha hb) (fromZ_near hb hc))
  rw [← hr]
  clear ha hb hc hp hq hr
  obtain ⟨W, hW⟩ : ∃ W, W = ((w.alloc (.cells #[.int .i64 a.1, .int .i64 a.2] 24)).alloc (.cells #[.int .i64 b.1, .int .i64 b.2] 24)).alloc (.cells #[.int .i64 c.1, .int .i64 c.2] 24) := ⟨_, rfl⟩
  have hsz : W.heap.size = w.heap.size + 3 := by rw [hW]; simp
  have a0 : W.cell? ⟨w.heap.size, 0, none⟩ = some (.int .i64 a.1) := by rw [hW]; exact cell3a _ _ _ _ _ 0
  have a1 : W.cell? ⟨w.heap.size, 1, none⟩ = some (.int .i64 a.2) := by rw [hW]; exact cell3a _ _ _ _ _ 1
  have b0 : W.cell? ⟨w.heap.size + 1, 0, none⟩ = some (.int .i64 b.1) := by rw [hW]; exact cell3b _ _ _ _ _ 0
  have b1 : W.cell? ⟨w.heap.size + 1, 1, none⟩ = some (.int .i64 b.2) := by rw [hW]; exact cell3b _ _ _ _ _ 1
  have c0 : W.cell? ⟨w.heap.size + 1 + 1, 0, none⟩ = some (.int .i64 c.1) := by rw [hW]; exact cell3c _ _ _ _ _ 0
  have c1 : W.cell? ⟨w.heap.size + 1 + 1, 1, none⟩ = some (.int .i64 c.2) := by rw [hW]; exact cell3c _ _ _ _ _ 1
  have HB : Hid (Below w.heap.size w W) := Lib.hid (by rw [hW]; exact (((Below.refl _ _).alloc (Nat.le_refl _) _).alloc (by simp) _).alloc (by simp; omega) _)
  have HS : Hid (∀ w', Below W.heap.size W w' → (w'.cell? ⟨w.heap.size, 0, none⟩ = some (.int .i64 a.1) ∧ w'.cell? ⟨w.heap.size, 1, none⟩ = some (.int .i64 a.2) ∧ w'.cell? ⟨w.heap.size + 1, 0, none⟩ = some (.int .i64 b.1) ∧ w'.cell? ⟨w.heap.size + 1, 1, none⟩ = some (.int .i64 b.2) ∧ w'.cell? ⟨w.heap.size + 1 + 1, 0, none⟩ = some (.int .i64 c.1) ∧ w'.cell? ⟨w.heap.size + 1 + 1, 1, none⟩ = some (.int .i64 c.2) ∧ Below W.heap.size W w')) := Lib.hid fun w' h =>
    ⟨(h.cell (p := ⟨w.heap.size, 0, none⟩) (by simp only; omega)).trans a0, (h.cell (p := ⟨w.heap.size, 1, none⟩) (by simp only; omega)).trans a1, (h.cell (p := ⟨w.heap.size + 1, 0, none⟩) (by simp only; omega)).trans b0, (h.cell (p := ⟨w.heap.size + 1, 1, none⟩) (by simp only; omega)).trans b1, (h.cell (p := ⟨w.heap.size + 1 + 1, 0, none⟩) (by simp only; omega)).trans c0, (h.cell (p := ⟨w.heap.size + 1 + 1, 1, none⟩) (by simp only; omega)).trans c1, h⟩
  clear a0 a1 b0 b1 c0 c1
  have HSZ := Lib.hid hsz; clear hsz
  unfold spotV
  go_enter Tryz.func74, Tryz.ntmps74
  go_wp2_with fail
  rw [← hW]
  clear hW
  go_region_held3 (fun w' => w'.cell? ⟨w.heap.size, 0, none⟩ = some (.int .i64 a.1) ∧ w'.cell? ⟨w.heap.size, 1, none⟩ = some (.int .i64 a.2) ∧ w'.cell? ⟨w.heap.size + 1, 0, none⟩ = some (.int .i64 b.1) ∧ w'.cell? ⟨w.heap.size + 1, 1, none⟩ = some (.int .i64 b.2) ∧ w'.cell? ⟨w.heap.size + 1 + 1, 0, none⟩ = some (.int .i64 c.1) ∧ w'.cell? ⟨w.heap.size + 1 + 1, 1, none⟩ = some (.int .i64 c.2) ∧ Below W.heap.size W w')
    (first | exact HS.out _ hBn | exact HS.out _ (Below.refl _ _).drew | exact HS.out _ (Below.refl _ _) | assumption)
    (first
      | (go_at_call 104; ((with_reducible refine (HF1.out _).mono ?_); rintro e w' ⟨rfl, hb⟩); go_split_ands; have hBn := below_chain (W := W) (by assumption) hb)
      | (go_at_call 104; ((with_reducible refine (HF2.out _).mono ?_); rintro e w' ⟨rfl, hb⟩); go_split_ands; have hBn := below_chain (W := W) (by assumption) hb)
      | (go_at_call 96; ((with_reducible refine (HCR.out _).mono ?_); rintro e w' ⟨rfl, hb⟩); go_split_ands; have hBn := below_chain (W := W) (by assumption) hb))
  all_goals
    have HZ := Lib.hid (HB.out.trans (hBn.mono HB.out.size))
    clear HB HS HSZ HF1 HF2 HCR
    go_wp2
    go_ret
    exact ⟨rfl, HZ.out⟩

def atZ (l : List (Int × Int)) (k : Nat) : Int × Int := l.getD k (0, 0)
theorem atZ_get {l : List (Int × Int)} {k : Nat} (h : k < l.length) : l[k]? = some ((atZ l k).1, (atZ l k).2) := by
  rw [List.getElem?_eq_getElem h]; simp [atZ, h]

/-- the cells of a place of an area. -/
theorem Area.at_ {w : World} {A : Option Addr} {n cap : Nat} {l : List (Int × Int)} (h : Area w (.slice A n cap) l) {k : Nat} (hk : k < l.length) :
    n = l.length ∧ n ≤ cap ∧ ∃ g off, A = some ⟨g, off, none⟩ ∧ g < w.heap.size ∧ w.cell? ⟨g, off + k * 2, none⟩ = some (.int .i64 (atZ l k).1) ∧ w.cell? ⟨g, off + k * 2 + 1, none⟩ = some (.int .i64 (atZ l k).2) := by
  obtain ⟨A', cap', e, hc, hx⟩ := h
  cases e
  obtain ⟨g, off, rfl, hg, hcell⟩ := hx (by rintro rfl; simp at hk)
  obtain ⟨h1, h2⟩ := hcell k _ _ (atZ_get hk)
  exact ⟨rfl, hc, g, off, rfl, hg, h1, h2⟩

theorem Area.below {w w' : World} {v : Value} {l : List (Int × Int)} (h : Area w v l) (hb : Below w.heap.size w w') : Area w' v l := by
  obtain ⟨A, cap, rfl, hc, hx⟩ := h
  refine ⟨A, cap, rfl, hc, fun hne => ?_⟩
  obtain ⟨g, off, rfl, hlt, hcell⟩ := hx hne
  refine ⟨g, off, rfl, Nat.lt_of_lt_of_le hlt hb.size, fun i x y hi => ?_⟩
  obtain ⟨h1, h2⟩ := hcell i x y hi
  exact ⟨(hb.cell (p := ⟨g, off + i * 2, none⟩) hlt).trans h1, (hb.cell (p := ⟨g, off + i * 2 + 1, none⟩) hlt).trans h2⟩

set_option maxHeartbeats 1000000 in
theorem after_any (A : Option Addr) (n cap : Nat) (l : List (Int × Int)) (i : Nat) (w : World) (h : Area w (.slice A n cap) l) (hi : i ≤ 1000000) (hn : 0 < l.length) (hm : l.length ≤ 1000000) :
    Calls Tryz.prog 75 #[.slice A n cap, .int .i64 i] w fun e w' => e = .returned (spotV (atZ l ((i + 1) % l.length))) ∧ Below w.heap.size w w' := by
  have hk : (i + 1) % l.length < l.length := Nat.mod_lt _ hn
  obtain ⟨rfl, hcap, g, off, rfl, hg, c1, c2⟩ := h.at_ hk
  have hr : ((i : Int) + 1) % (l.length : Int) = ((i + 1) % l.length : Nat) := by
    have := Int.natCast_emod (i + 1) l.length
    rw [Int.natCast_add] at this; exact this.symm
  obtain ⟨k, hk0⟩ : ∃ k, k = (i + 1) % l.length := ⟨_, rfl⟩
  rw [← hk0] at hr c1 c2 hk ⊢
  obtain ⟨p, hp⟩ : ∃ p, p = atZ l k := ⟨_, rfl⟩
  rw [← hp] at c1 c2 ⊢
  obtain ⟨n, hn'⟩ : ∃ n, n = l.length := ⟨_, rfl⟩
  rw [← hn'] at hr hk hn hm hcap ⊢
  have c1' := (World.cell?_alloc_lt w (.cells #[.int .i64 0, .int .i64 0] 24) ⟨g, off + k * 2, none⟩ hg).trans c1
  have c2' := (World.cell?_alloc_lt w (.cells #[.int .i64 0, .int .i64 0] 24) ⟨g, off + k * 2 + 1, none⟩ hg).trans c2
  clear h hk0 hp hn'
  unfold spotV
  go_enter Tryz.func75, Tryz.ntmps75
  go_wp2
  exact bodyPost_ret (v := .agg #[.int .i64 p.1, .int .i64 p.2]) (by simp [results, Tryz.results75, go_sem]) rfl ⟨rfl, (Below.refl _ _).alloc (Nat.le_refl _) _⟩
end Go.Proofs.YtjcaaejfokmolaaGreatDoor
