/- Contract of apply. -/
import Derived.Deep.DeepCutAuto
import Derived.Deep.CutBlock
import Derived.Test.YtkggfeemjabdeaaGreatDoorPa5
import Derived.Test.YtkggfeemjabdeaaGreatDoorPa18
import Derived.Test.YtkggfeemjabdeaaGreatDoorPa20
namespace Go.Proofs.YtkggfeemjabdeaaGreatDoor
open Go.RowKit

theorem diff_step {f g h : Nat → Nat} {i a b c o c' o' r : Nat} (e : a * val f i + o * R64 ^ i = val h i + b * val g i + c * R64 ^ i) (s : a * f i + c + R64 * o' = r + b * g i + o + R64 * c') :
    a * val f (i + 1) + o' * R64 ^ (i + 1) = val (upd h i r) (i + 1) + b * val g (i + 1) + c' * R64 ^ (i + 1) := by
  rw [val_upd_succ, pow_succ_R]
  show a * (val f i + f i * R64 ^ i) + _ = _ + b * (val g i + g i * R64 ^ i) + _
  generalize R64 ^ i = M at *
  have s2 : (a * f i + c + R64 * o') * M = (r + b * g i + o + R64 * c') * M := by rw [s]
  have k1 : a * (f i * M) = a * f i * M := (Nat.mul_assoc _ _ _).symm
  have k2 : b * (g i * M) = b * g i * M := (Nat.mul_assoc _ _ _).symm
  have k3 : o' * (R64 * M) = R64 * o' * M := by rw [← Nat.mul_assoc, Nat.mul_comm o']
  have k4 : c' * (R64 * M) = R64 * c' * M := by rw [← Nat.mul_assoc, Nat.mul_comm c']
  rw [Nat.mul_add, Nat.mul_add, k1, k2, k3, k4]
  simp only [Nat.add_mul] at s2
  omega
theorem diff_end {P A B H c o M a b : Nat} (e : a * A + o * M = H + b * B + c * M) (hp : P + b * B = a * A) (hP : P < M) (hH : H < M) : P = H := by
  have e2 : P + o * M = H + c * M := by omega
  rcases Nat.lt_trichotomy o c with h | h | h
  · have : (o + 1) * M ≤ c * M := Nat.mul_le_mul_right _ h
    rw [Nat.add_mul, Nat.one_mul] at this
    omega
  · subst h; omega
  · have : (c + 1) * M ≤ o * M := Nat.mul_le_mul_right _ h
    rw [Nat.add_mul, Nat.one_mul] at this
    omega

/-- the two cells of a difference. -/
structure Diff (w : World) (D c o : Nat) : Prop where
  c0 : w.cell? ⟨D, 0, none⟩ = some (.int .u64 c)
  c1 : w.cell? ⟨D, 1, none⟩ = some (.int .u64 o)
  z : ∀ i, w.frozen? ⟨D, i, none⟩ = false

theorem Diff.keep {w w' : World} {D c o : Nat} (h : Diff w D c o) (e : w'.heap[D]? = w.heap[D]?) : Diff w' D c o :=
  ⟨(World.cell?_of_block (a := ⟨D, 0, none⟩) e).trans h.c0, (World.cell?_of_block (a := ⟨D, 1, none⟩) e).trans h.c1, fun i => (World.frozen?_of_block (a := ⟨D, i, none⟩) e).trans (h.z i)⟩
theorem Diff.lt {w : World} {D c o : Nat} (h : Diff w D c o) : D < w.heap.size := World.block_lt_of_cell? w _ h.c0
theorem Leap.keep {w w' : World} {L a1 b1 a2 b2 : Nat} {even : Bool} (h : Leap w L a1 b1 a2 b2 even) (e : w'.heap[L]? = w.heap[L]?) : Leap w' L a1 b1 a2 b2 even :=
  ⟨(World.cell?_of_block (a := ⟨L, 0, none⟩) e).trans h.c0, (World.cell?_of_block (a := ⟨L, 1, none⟩) e).trans h.c1, (World.cell?_of_block (a := ⟨L, 2, none⟩) e).trans h.c2, (World.cell?_of_block (a := ⟨L, 3, none⟩) e).trans h.c3, (World.cell?_of_block (a := ⟨L, 4, none⟩) e).trans h.c4, fun i => (World.frozen?_of_block (a := ⟨L, i, none⟩) e).trans (h.z i)⟩
theorem Leap.lt {w : World} {L a1 b1 a2 b2 : Nat} {even : Bool} (h : Leap w L a1 b1 a2 b2 even) : L < w.heap.size := World.block_lt_of_cell? w _ h.c0
theorem Own.cell {w : World} {B b off n cap i : Nat} {k : IntKind} {f : Nat → Nat} (h : Own w B k (.slice (some ⟨b, off, none⟩) n cap) n f) (hi : i < n) : w.cell? ⟨b, off + i, none⟩ = some (.int k (f i)) := by
  rcases h with ⟨h0, _⟩ | ⟨b1, off1, cap1, h0, h1, h2, h3, h4, h5, h6, h7⟩
  · cases h0
  · cases h0; exact h5 i hi
theorem Own.free {w : World} {B b off n cap i : Nat} {k : IntKind} {f : Nat → Nat} (h : Own w B k (.slice (some ⟨b, off, none⟩) n cap) n f) (hi : i < n) : w.frozen? ⟨b, off + i, none⟩ = false := by
  rcases h with ⟨h0, _⟩ | ⟨b1, off1, cap1, h0, h1, h2, h3, h4, h5, h6, h7⟩
  · cases h0
  · cases h0; exact h7 i (by omega)
theorem Own.base {w : World} {B b off n cap : Nat} {k : IntKind} {f : Nat → Nat} (h : Own w B k (.slice (some ⟨b, off, none⟩) n cap) n f) : B ≤ b ∧ b < w.heap.size := by
  rcases h with ⟨h0, _⟩ | ⟨b1, off1, cap1, h0, h1, h2, h3, h4, h5, h6, h7⟩
  · cases h0
  · cases h0; exact ⟨h3, h4⟩
theorem Wrote.blk {b off n k : Nat} {w w' : World} (h : Wrote b off n w w') (hk : k < w.heap.size) (hne : k ≠ b) : w'.heap[k]? = w.heap[k]? := h.grown.block k hk (by intro e; injection e with e; exact hne e)

/-- What apply has done. -/
def Applied (B P Q : Nat) (w : World) (e : Ending) (w' : World) : Prop :=
  ∃ va vb, e = .returned (.tuple #[va, vb]) ∧ NatOwn w' B va P ∧ NatOwn w' B vb Q ∧ (∀ k, va.ownBlock = some k → vb.ownBlock ≠ some k) ∧ Below B w w'

set_option maxRecDepth 100000 in
set_option maxHeartbeats 2000000 in
theorem apply_core (B n m ga oa ca gb ob cb a1 b1 a2 b2 P Q : Nat) (even : Bool) (f g : Nat → Nat) (w : World) (hB : B ≤ w.heap.size) (hn : n ≤ 201) (hnm : m = n ∨ m + 1 = n) (hm : 0 < m)
    (ha : Own w B .u64 (.slice (some ⟨ga, oa, none⟩) n ca) n f) (hb : Own w B .u64 (.slice (some ⟨gb, ob, none⟩) m cb) m g) (hne : ga ≠ gb)
    (lf : ∀ i, i < n → f i < R64) (lg : ∀ i, i < m → g i < R64) (lw : a1 < R64 ∧ b1 < R64 ∧ a2 < R64 ∧ b2 < R64)
    (hmk : Makes (val f n) (val g m) a1 b1 a2 b2 (!even) P Q) (hP : P < R64 ^ n) (hQ : Q < R64 ^ n) :
    Calls Tryz.prog 107 #[.agg #[.int .u64 a1, .int .u64 b1, .int .u64 a2, .int .u64 b2, .bool even], .slice (some ⟨ga, oa, none⟩) n ca, .slice (some ⟨gb, ob, none⟩) m cb] w (Applied B P Q w) := by
  have GAW : Hid (ga < w.heap.size) := Lib.hid (by
    rcases ha with ⟨h0, _⟩ | ⟨_, _, _, h0, _, _, _, h4, _⟩
    · cases h0
    · cases h0; exact h4)
  have HA := Lib.hid ha; have HB := Lib.hid hb; have HM := Lib.hid hmk; have HP := Lib.hid hP; have HQ := Lib.hid hQ
  clear ha hb hmk hP hQ
  go_enter Tryz.func107, Tryz.ntmps107
  go_upto_if 17 with fail
  go_cut [2] (fun s2 wx => ∃ gb ob cb, s2 = .slice (some ⟨gb, ob, none⟩) n cb ∧ Own wx B .u64 (.slice (some ⟨gb, ob, none⟩) n cb) n (cutf g m) ∧ Own wx B .u64 (.slice (some ⟨ga, oa, none⟩) n ca) n f ∧ gb ≠ ga ∧ gb ≠ w.heap.size ∧
    Leap wx w.heap.size a1 b1 a2 b2 even ∧ w.heap.size + 1 ≤ wx.heap.size ∧ Below B w wx)
  case first =>
    have hmk2 : Leap (w.alloc (.cells #[.int .u64 a1, .int .u64 b1, .int .u64 a2, .int .u64 b2, .bool even] 125)) w.heap.size a1 b1 a2 b2 even := by
      constructor <;> simp [go_sem]
    have bal := (Below.refl w.heap.size w).alloc (Nat.le_refl _) (.cells #[.int .u64 a1, .int .u64 b1, .int .u64 a2, .int .u64 b2, .bool even] 125)
    have gbw : gb < w.heap.size := by
      rcases HB.out with ⟨h0, _⟩ | ⟨_, _, _, h0, _, _, _, h4, _⟩
      · cases h0
      · cases h0; exact h4
    rcases hnm with rfl | hnm
    · have hlt : ¬ ((m : Int) < m) := by omega
      go_wp2_with fail
      go_meet
      case rel =>
        refine ⟨gb, ob, cb, rfl, ?_, HA.out.below bal, fun h => hne h.symm, by omega, hmk2, by simp, bal.mono hB⟩
        rcases HB.out.below bal with ⟨h0, _⟩ | ⟨b1', off1, cap1, h0, h1, h2, h3, h4, h5, h6, h7⟩
        · cases h0
        · cases h0; exact .inr ⟨gb, ob, cb, rfl, h1, h2, h3, h4, fun i hi => by rw [cutf_lt hi]; exact h5 i hi, h6, h7⟩
    · subst hnm
      have hlt : (m : Int) < (m : Int) + 1 := by omega
      have bal2 := bal.alloc (by simp) (.cells #[.int .u64 0] 78)
      obtain ⟨v', w', hr, hO, hg, hob⟩ := append_zero B gb ob m cb g ((w.alloc (.cells #[.int .u64 a1, .int .u64 b1, .int .u64 a2, .int .u64 b2, .bool even] 125)).alloc (.cells #[.int .u64 0] 78)) (by simp; omega) (HB.out.below bal2) (by omega) (w.heap.size + 1) (by simp [go_sem])
      have HO := Lib.hid hO; have HG := Lib.hid hg; have HOB := Lib.hid hob; have HR := Lib.hid hr
      clear hO hg hob hr
      go_wp2_with (at_builtin; refine wpList_append_run rfl (.tmp 18) (.tmp 19) 60 rfl _ _ rfl rfl v' w' HR.out ?_)
      go_meet
      case rel =>
        have gaw : ga < w.heap.size := by
          rcases HA.out with ⟨h0, _⟩ | ⟨_, _, _, h0, _, _, _, h4, _⟩
          · cases h0
          · cases h0; exact h4
        have bw : Below w.heap.size w w' → True := fun _ => trivial
        have hO := HO.out
        have hL' : Leap w' w.heap.size a1 b1 a2 b2 even := by
          have hl2 := (show Leap _ _ _ _ _ _ _ from ⟨hmk2.c0, hmk2.c1, hmk2.c2, hmk2.c3, hmk2.c4, hmk2.z⟩ : Leap (w.alloc (.cells #[.int .u64 a1, .int .u64 b1, .int .u64 a2, .int .u64 b2, .bool even] 125)) w.heap.size a1 b1 a2 b2 even)
          have e1 : w'.heap[w.heap.size]? = (w.alloc (.cells #[.int .u64 a1, .int .u64 b1, .int .u64 a2, .int .u64 b2, .bool even] 125)).heap[w.heap.size]? := by
            rw [HG.out.block _ (by simp; omega) (by intro e; injection e with e; omega)]
            exact Below.heap_alloc _ _ _ (by simp)
          have e2 : ∀ i, w'.cell? ⟨w.heap.size, i, none⟩ = (w.alloc (.cells #[.int .u64 a1, .int .u64 b1, .int .u64 a2, .int .u64 b2, .bool even] 125)).cell? ⟨w.heap.size, i, none⟩ := fun i => World.cell?_of_block e1
          exact ⟨(e2 0).trans hl2.c0, (e2 1).trans hl2.c1, (e2 2).trans hl2.c2, (e2 3).trans hl2.c3, (e2 4).trans hl2.c4, fun i => (World.frozen?_of_block (a := ⟨w.heap.size, i, none⟩) e1).trans (hl2.z i)⟩
        have hbel : Below B w w' := by
          have hgb : B ≤ gb := by
            rcases HB.out with ⟨h0, _⟩ | ⟨_, _, _, h0, _, _, h3, _⟩
            · cases h0
            · cases h0; exact h3
          exact (bal2.mono hB).trans ⟨HG.out.os, HG.out.tape, HG.out.output, HG.out.size, fun k hk => HG.out.block k (by simp; omega) (by intro e; injection e with e; omega)⟩
        have hsz : w.heap.size + 1 ≤ w'.heap.size := by have := HG.out.size; simp at this; omega
        have hA' : Own w' B .u64 (.slice (some ⟨ga, oa, none⟩) (m + 1) ca) (m + 1) f := (HA.out.below bal2).grown HG.out (by intro e; injection e with e; exact hne e)
        rcases hO with ⟨_, h0⟩ | ⟨g', o', c', rfl, h1, h2, h3, h4, h5, h6, h7⟩
        · omega
        · refine ⟨g', o', c', rfl, .inr ⟨g', o', c', rfl, h1, h2, h3, h4, h5, h6, h7⟩, hA', ?_, ?_, hL', hsz, hbel⟩
          · rcases HOB.out with e | e
            · injection e with e; have e' : g' = gb := e; omega
            · injection e with e; have e' : g' = w.heap.size + 1 + 1 := by simpa using e
              omega
          · rcases HOB.out with e | e
            · injection e with e; have e' : g' = gb := e; omega
            · injection e with e; have e' : g' = w.heap.size + 1 + 1 := by simpa using e
              omega
  case rest =>
    obtain ⟨gb, ob, cb, rfl, hb, ha, hne2, hneL, hl, hsz, hbw⟩ := hcut
    have HA := Lib.hid ha; have HB := Lib.hid hb; have HW := Lib.hid hbw; have HL := Lib.hid hl
    obtain ⟨c0, c1, c2, c3, c4, hz⟩ := hl
    have z0 := hz 0; have z1 := hz 1; have z2 := hz 2; have z3 := hz 3
    clear ha hb hbw hz
    go_upto_if 22 with fail
    go_cut [1, 2] (fun s1 s2 wx => ∃ g1 o1 k1 g2 o2 k2 x1 y1 x2 y2 F G, s1 = .slice (some ⟨g1, o1, none⟩) n k1 ∧ s2 = .slice (some ⟨g2, o2, none⟩) n k2 ∧ Own wx B .u64 (.slice (some ⟨g1, o1, none⟩) n k1) n F ∧ Own wx B .u64 (.slice (some ⟨g2, o2, none⟩) n k2) n G ∧ g1 ≠ g2 ∧ g1 ≠ w.heap.size ∧ g2 ≠ w.heap.size ∧
      Leap wx w.heap.size x1 y1 x2 y2 even ∧ (x1 < R64 ∧ y1 < R64 ∧ x2 < R64 ∧ y2 < R64) ∧ (∀ i, i < n → F i < R64) ∧ (∀ i, i < n → G i < R64) ∧ P + y1 * val G n = x1 * val F n ∧ Q + x2 * val F n = y2 * val G n ∧ w.heap.size + 1 ≤ wx.heap.size ∧ Below B w wx)
    case first =>
      have eG : val (cutf g m) n = val g m := val_cutf (by omega)
      have EG := Lib.hid eG; clear eG
      cases even with
      | false =>
        go_wp2_with fail
        go_meet
        case rel =>
          have hm := HM.out
          simp only [Bool.not_false, Makes, if_true] at hm
          exact ⟨ga, oa, ca, gb, ob, cb, a1, b1, a2, b2, f, cutf g m, rfl, rfl, HA.out, HB.out, fun e => hne2 e.symm, by have := GAW.out; omega, hneL, HL.out, lw, lf, fun i _ => cutf_lim lg i, by rw [EG.out]; exact hm.1, by rw [EG.out]; exact hm.2, hsz, HW.out⟩
      | true =>
        go_wp2_with fail
        go_meet
        case rel =>
          have hm := HM.out
          simp only [Bool.not_true, Makes] at hm
          have gaL : ga ≠ w.heap.size := by have := GAW.out; omega
          have na : ∀ i, (Value.slice (some ⟨ga, oa, none⟩) n ca).ownBlock ≠ some (⟨w.heap.size, i, none⟩ : Addr).block := fun i e => gaL (by injection e)
          have nb : ∀ i, (Value.slice (some ⟨gb, ob, none⟩) n cb).ownBlock ≠ some (⟨w.heap.size, i, none⟩ : Addr).block := fun i e => hneL (by injection e)
          refine ⟨gb, ob, cb, ga, oa, ca, b1, a1, b2, a2, cutf g m, f, rfl, rfl, (((HB.out.setOther (nb 0) _).setOther (nb 1) _).setOther (nb 2) _).setOther (nb 3) _, (((HA.out.setOther (na 0) _).setOther (na 1) _).setOther (na 2) _).setOther (na 3) _, hne2, hneL, gaL, (((HL.out.set0 b1).set1 a1).set2 b2).set3 a2, ⟨lw.2.1, lw.1, lw.2.2.2, lw.2.2.1⟩, fun i _ => cutf_lim lg i, lf, by rw [EG.out]; exact hm.1, by rw [EG.out]; exact hm.2, by simpa using hsz, (((HW.out.setCell (p := ⟨w.heap.size, 0, none⟩) hB _).setCell (p := ⟨w.heap.size, 1, none⟩) hB _).setCell (p := ⟨w.heap.size, 2, none⟩) hB _).setCell (p := ⟨w.heap.size, 3, none⟩) hB _⟩
    case rest =>
      obtain ⟨g1, o1, k1, g2, o2, k2, x1, y1, x2, y2, F, G, rfl, rfl, hO1, hO2, ne12, ne1, ne2, hl, lws, lF, lG, eP, eQ, hsz, hbw⟩ := hcut
      have O1 := Lib.hid hO1; have O2 := Lib.hid hO2; have HL3 := Lib.hid hl; have LF := Lib.hid lF; have LG := Lib.hid lG; have EP := Lib.hid eP; have EQ := Lib.hid eQ; have HBW := Lib.hid hbw
      clear hO1 hO2 hl lF lG eP eQ hbw
      have n1 : Hid (g1 < wc.heap.size) := Lib.hid (by
        rcases O1.out with ⟨h0, _⟩ | ⟨_, _, _, h0, _, _, _, h4, _⟩
        · cases h0
        · cases h0; exact h4)
      have n2 : Hid (g2 < wc.heap.size) := Lib.hid (by
        rcases O2.out with ⟨h0, _⟩ | ⟨_, _, _, h0, _, _, _, h4, _⟩
        · cases h0
        · cases h0; exact h4)
      have BB : Hid (B ≤ wc.heap.size) := Lib.hid (by omega)
      go_wp2_with fail
      go_loopw [39] (fun iv wr => ∃ (i c1 o1' c2 o2' : Nat) (U V : Nat → Nat), i ≤ n ∧ iv = .int .i64 i ∧ Own wr B .u64 (.slice (some ⟨g1, o1, none⟩) n k1) n U ∧ Own wr B .u64 (.slice (some ⟨g2, o2, none⟩) n k2) n V ∧ (∀ j, j < n → U j < R64) ∧ (∀ j, j < n → V j < R64) ∧ (∀ j, i ≤ j → j < n → U j = F j ∧ V j = G j) ∧
          Leap wr w.heap.size x1 y1 x2 y2 even ∧ Diff wr wc.heap.size c1 o1' ∧ Diff wr (wc.heap.size + 1) c2 o2' ∧ (c1 < R64 ∧ o1' < R64 ∧ c2 < R64 ∧ o2' < R64) ∧
          x1 * val F i + o1' * R64 ^ i = val U i + y1 * val G i + c1 * R64 ^ i ∧ y2 * val G i + o2' * R64 ^ i = val V i + x2 * val F i + c2 * R64 ^ i ∧ Below B w wr) (fun iv _ => n - (intOf iv).toNat)
      case atStart =>
        have al1 := (Below.refl wc.heap.size wc).alloc (Nat.le_refl _) (.cells #[.int .u64 0, .int .u64 0] 159)
        have al2 := al1.alloc (by simp) (.cells #[.int .u64 0, .int .u64 0] 159)
        have hl2 : Leap ((wc.alloc (.cells #[.int .u64 0, .int .u64 0] 159)).alloc (.cells #[.int .u64 0, .int .u64 0] 159)) w.heap.size x1 y1 x2 y2 even := by
          have h := HL3.out
          have hlt : w.heap.size < wc.heap.size := by omega
          exact ⟨(al2.cell (p := ⟨w.heap.size, 0, none⟩) hlt).trans h.c0, (al2.cell (p := ⟨w.heap.size, 1, none⟩) hlt).trans h.c1, (al2.cell (p := ⟨w.heap.size, 2, none⟩) hlt).trans h.c2, (al2.cell (p := ⟨w.heap.size, 3, none⟩) hlt).trans h.c3, (al2.cell (p := ⟨w.heap.size, 4, none⟩) hlt).trans h.c4, fun i => (al2.frozen (p := ⟨w.heap.size, i, none⟩) hlt).trans (h.z i)⟩
        refine ⟨0, 0, 0, 0, 0, F, G, Nat.zero_le _, rfl, O1.out.below al2, O2.out.below al2, LF.out, LG.out, fun _ _ _ => ⟨rfl, rfl⟩, hl2, ?_, ?_, ⟨R64_pos, R64_pos, R64_pos, R64_pos⟩, by simp [val], by simp [val], HBW.out.trans (al2.mono BB.out)⟩
        · constructor <;> simp [go_sem]
        · constructor <;> simp [go_sem]
      case round =>
        obtain ⟨i, c1, p1, c2, p2, U, V, hi, rfl, hU, hV, lU, lV, hUV, hl, hd1, hd2, hcs, e1, e2, hbl⟩ := hrel
        have HU := Lib.hid hU; have HV := Lib.hid hV; have LU := Lib.hid lU; have LV := Lib.hid lV; have HUV := Lib.hid hUV; have HLL := Lib.hid hl; have HD1 := Lib.hid hd1; have HD2 := Lib.hid hd2; have HCS := Lib.hid hcs; have E1 := Lib.hid e1; have E2 := Lib.hid e2; have HBL := Lib.hid hbl
        clear hU hV lU lV hUV hl hd1 hd2 hcs e1 e2 hbl
        by_cases hlt : i < n
        · have a0 := HLL.out.c0; have a1' := HLL.out.c1; have a2' := HLL.out.c2; have a3' := HLL.out.c3
          have eu := (HUV.out i (Nat.le_refl _) hlt).1
          have ev := (HUV.out i (Nat.le_refl _) hlt).2
          have cu := HU.out.cell hlt
          have cv := HV.out.cell hlt
          rw [eu] at cu
          rw [ev] at cv
          have EU := Lib.hid eu; have EV := Lib.hid ev; clear eu ev
          have hcs := HCS.out
          have lFi := LF.out i hlt
          have lGi := LG.out i hlt
          have BU := HU.out.base
          have BV := HV.out.base
          have g1D := n1.out
          have g2D := n2.out
          go_wp2_with fail
          go_quiet (fail)
          go_wp2_with fail
          refine (next_any wc.heap.size x1 (F i) c1 y1 (G i) p1 _ (by exact HD1.out.c0) (by exact HD1.out.c1) (by exact HD1.out.z 0) (by exact HD1.out.z 1) lws.1 lFi hcs.1 lws.2.1 lGi hcs.2.1).mono ?_
          rintro e w3 ⟨r, c1', p1', rfl, hr, hc1', hp1', heq, d0, d1, hw3⟩
          have HEQ := Lib.hid heq; have HW3 : Hid (Wrote wc.heap.size 0 2 wr w3) := Lib.hid (((Wrote.refl _ _ _ wr).drewN _).trans hw3); have D0 := Lib.hid d0; have D1 := Lib.hid d1
          clear heq hw3 d0 d1
          have OW1 := Lib.hid (HU.out.wrote HW3.out (by intro e; injection e with e; have e' : g1 = wc.heap.size := e; omega))
          have OW2 := Lib.hid (HV.out.wrote HW3.out (by intro e; injection e with e; have e' : g2 = wc.heap.size := e; omega))
          have LP3 := Lib.hid (HLL.out.keep (HW3.out.blk HLL.out.lt (by omega)))
          have DF3 := Lib.hid (HD2.out.keep (HW3.out.blk HD2.out.lt (by omega)))
          have m1 := OW1.out.cell hlt
          have m2 := OW1.out.free hlt
          have m3 := LP3.out.c3
          have m4 := LP3.out.c2
          go_wp2_with fail
          -- the world behind the store
          have st1 : Hid ((w3.setCell ⟨g1, o1 + i, none⟩ (.int .u64 r)).heap[wc.heap.size + 1]? = w3.heap[wc.heap.size + 1]?) := Lib.hid (Below.heap_setCell w3 _ _ _ (by show wc.heap.size + 1 ≠ g1; omega))
          have DF4 := Lib.hid (DF3.out.keep st1.out)
          have OW3 := Lib.hid (OW1.out.set hlt r)
          have OW4 := Lib.hid (OW2.out.setOther (p := ⟨g1, o1 + i, none⟩) (by intro e; injection e with e; exact ne12 e.symm) (.int .u64 r))
          have LP4 := Lib.hid (LP3.out.other (p := ⟨g1, o1 + i, none⟩) ne1 (.int .u64 r))
          have D14 := Lib.hid ((show Diff w3 wc.heap.size c1' p1' from ⟨D0.out, D1.out, fun j => (HW3.out.froz j).trans (HD1.out.z j)⟩).keep (w' := w3.setCell ⟨g1, o1 + i, none⟩ (.int .u64 r)) (Below.heap_setCell w3 _ _ _ (by show wc.heap.size ≠ g1; omega)))
          have BL4 := Lib.hid ((HBL.out.trans (HW3.out.below BB.out (Nat.le_trans hB HBL.out.size))).setCell (p := ⟨g1, o1 + i, none⟩) BU.1 (.int .u64 r))
          clear m1 m2 m3 m4
          generalize w3.setCell ⟨g1, o1 + i, none⟩ (.int .u64 r) = w4 at *
          refine (next_any (wc.heap.size + 1) y2 (G i) c2 x2 (F i) p2 _ DF4.out.c0 DF4.out.c1 (DF4.out.z 0) (DF4.out.z 1) lws.2.2.2 lGi hcs.2.2.1 lws.2.2.1 lFi hcs.2.2.2).mono ?_
          rintro e w5 ⟨r2, c2', p2', rfl, hr2, hc2', hp2', heq2, d2, d3, hw5⟩
          have HEQ2 := Lib.hid heq2; have HW5 := Lib.hid hw5; have D2 := Lib.hid d2; have D3 := Lib.hid d3
          clear heq2 hw5 d2 d3
          have g2D' := n2.out
          have OW5 := Lib.hid (OW3.out.wrote HW5.out (by intro e; injection e with e; have e' : g1 = wc.heap.size + 1 := e; omega))
          have OW6 := Lib.hid (OW4.out.wrote HW5.out (by intro e; injection e with e; have e' : g2 = wc.heap.size + 1 := e; omega))
          have LP5 := Lib.hid (LP4.out.keep (HW5.out.blk LP4.out.lt (by omega)))
          have D15 := Lib.hid (D14.out.keep (HW5.out.blk D14.out.lt (by omega)))
          have m1 := OW6.out.cell hlt
          have m2 := OW6.out.free hlt
          go_wp2_with fail
          go_roundw
          case rel =>
            have nx1 : ∀ D, D ≠ g2 → (w5.setCell ⟨g2, o2 + i, none⟩ (.int .u64 r2)).heap[D]? = w5.heap[D]? := fun D hD => Below.heap_setCell w5 _ _ _ hD
            refine ⟨i + 1, c1', p1', c2', p2', upd U i r, upd V i r2, by omega, rfl, OW5.out.setOther (p := ⟨g2, o2 + i, none⟩) (by intro e; injection e with e; exact ne12 e) _, OW6.out.set hlt r2, upd_lim LU.out hr, upd_lim LV.out hr2, fun j h1 h2 => ?_, LP5.out.other (p := ⟨g2, o2 + i, none⟩) ne2 _, D15.out.keep (nx1 _ (by omega)),
              (show Diff w5 (wc.heap.size + 1) c2' p2' from ⟨D2.out, D3.out, fun j => (HW5.out.froz j).trans (DF4.out.z j)⟩).keep (nx1 _ (by omega)), ⟨hc1', hp1', hc2', hp2'⟩, diff_step E1.out HEQ.out, diff_step E2.out HEQ2.out, (BL4.out.trans (HW5.out.below (by omega) (Nat.le_trans hB BL4.out.size))).setCell (p := ⟨g2, o2 + i, none⟩) BV.1 _⟩
            rw [upd_ne _ _ (by omega), upd_ne _ _ (by omega)]
            exact HUV.out j (by omega) h2
          case measure => simp [intOf]; omega
        · obtain rfl : i = n := by omega
          go_wp2_with fail
          refine (trim_own B _ i U wr HU.out LU.out).mono ?_
          rintro e w3 ⟨⟨u3, rfl, hu3, hob3⟩, rfl⟩
          have HU3 := Lib.hid hu3; have HOB3 := Lib.hid hob3; clear hu3 hob3
          go_wp2_with fail
          refine (trim_own B _ i V wr HV.out LV.out).mono ?_
          rintro e w3 ⟨⟨u4, rfl, hu4, hob4⟩, rfl⟩
          have HU4 := Lib.hid hu4; have HOB4 := Lib.hid hob4; clear hu4 hob4
          go_wp2_with fail
          go_ret2
          refine ⟨u3, u4, rfl, ?_, ?_, fun k h1 h2 => ?_, HBL.out⟩
          · rw [diff_end E1.out EP.out HP.out (val_lt LU.out)]; exact HU3.out
          · rw [diff_end E2.out EQ.out HQ.out (val_lt LV.out)]; exact HU4.out
          · rw [HOB3.out] at h1; rw [HOB4.out] at h2
            injection h1 with h1; injection h2 with h2
            exact ne12 (h1.trans h2.symm)
end Go.Proofs.YtkggfeemjabdeaaGreatDoor
