/- The document's Alike, of two reports that are alike. -/
import Derived.Test.YtjcaaejfokmolaaGreatDoorRpSgIt
import Derived.Test.YtjcaaejfokmolaaGreatDoorRpAreaRef2
import Derived.BigQuiet
import Derived.Deep.DeepCutAuto
namespace Go.Proofs.YtjcaaejfokmolaaGreatDoor
open Go.RowKit

structure Twins (w W : World) (m : Nat) (k t n u : Int) (src abt : ByteArray) (A1 A2 : Option Addr) (c1 c2 : Nat) (l : List (Int × Int)) : Prop where
  one : W.heap[m]? = some (repO k t src abt (.slice A1 l.length c1) n u)
  two : W.heap[m + 1]? = some (repO k t src abt (.slice A2 l.length c2) n u)
  a1 : Area W (.slice A1 l.length c1) l
  a2 : Area W (.slice A2 l.length c2) l
  below : Below w.heap.size w W
theorem Twins.next {w W W' : World} {m : Nat} {k t n u : Int} {src abt : ByteArray} {A1 A2 : Option Addr} {c1 c2 : Nat} {l : List (Int × Int)} (h : Twins w W m k t n u src abt A1 A2 c1 c2 l) (hb : Below W.heap.size W W') : Twins w W' m k t n u src abt A1 A2 c1 c2 l :=
  ⟨stay h.one hb, stay h.two hb, h.a1.below hb, h.a2.below hb, below_chain h.below hb⟩

set_option maxRecDepth 100000 in
set_option maxHeartbeats 4000000 in
theorem refAlike_any (k t n u : Int) (src abt : ByteArray) (A1 A2 : Option Addr) (c1 c2 : Nat) (l : List (Int × Int)) (w : World) (h1 : Area w (.slice A1 l.length c1) l) (h2 : Area w (.slice A2 l.length c2) l) (hl : l.length ≤ 12) :
    Calls Tryz.prog 20 #[repA k t src abt (.slice A1 l.length c1) n u, repA k t src abt (.slice A2 l.length c2) n u] w fun e w' => e = .returned (.bool true) ∧ Below w.heap.size w w' := by
  obtain ⟨W, hW⟩ : ∃ W, W = (w.alloc (repO k t src abt (.slice A1 l.length c1) n u)).alloc (repO k t src abt (.slice A2 l.length c2) n u) := ⟨_, rfl⟩
  obtain ⟨m, hm⟩ : ∃ m, m = w.heap.size := ⟨_, rfl⟩
  have HT : Hid (Twins w W m k t n u src abt A1 A2 c1 c2 l) := Lib.hid (by
    have hb : Below w.heap.size w W := by rw [hW]; exact ((Below.refl _ _).alloc (Nat.le_refl _) _).alloc (by simp) _
    refine ⟨?_, ?_, h1.below hb, h2.below hb, hb⟩
    · rw [hW, hm]; exact stay (heap_alloc_new _ _) (new_below _ _)
    · rw [hW, hm]; have := heap_alloc_new (w.alloc (repO k t src abt (.slice A1 l.length c1) n u)) (repO k t src abt (.slice A2 l.length c2) n u); rwa [World.size_alloc] at this)
  obtain ⟨z, hz⟩ : ∃ z, z = l.length := ⟨_, rfl⟩
  have HT2 : Hid (W.heap[m]? = some (repO k t src abt (.slice A1 z c1) n u) ∧ W.heap[m + 1]? = some (repO k t src abt (.slice A2 z c2) n u)) := Lib.hid (by rw [hz]; exact ⟨HT.out.one, HT.out.two⟩)
  rw [← hz] at hl ⊢
  have HZ := Lib.hid hz; have HW : Hid (W = (w.alloc (repO k t src abt (.slice A1 z c1) n u)).alloc (repO k t src abt (.slice A2 z c2) n u)) := Lib.hid (by rw [hz]; exact hW)
  have HM := Lib.hid hm
  obtain ⟨x0, x1, x2, x3, x4, x5, x6⟩ := rep_cells HT2.out.1
  obtain ⟨y0, y1, y2, y3, y4, y5, y6⟩ := rep_cells HT2.out.2
  clear h1 h2 hW hz hm HT2
  go_enter Tryz.func20, Tryz.ntmps20
  go_upto_region 1 with fail
  rw [← HW.out, ← HM.out]
  go_upto_region 3 with fail
  clear x0 x1 x2 x3 x4 x5 x6 y0 y1 y2 y3 y4 y5 y6
  go_wp2_with fail
  go_loopw [5] (fun iv wr => ∃ i : Nat, i ≤ z ∧ iv = .int .i64 i ∧ Hid (Twins w wr m k t n u src abt A1 A2 c1 c2 l)) (fun iv _ => z - (intOf iv).toNat)
  case atStart => exact ⟨0, Nat.zero_le _, rfl, HT⟩
  case round =>
    obtain ⟨i, hi, rfl, HI⟩ := hrel
    have HT2 : Hid (wr.heap[m]? = some (repO k t src abt (.slice A1 z c1) n u) ∧ wr.heap[m + 1]? = some (repO k t src abt (.slice A2 z c2) n u)) := Lib.hid (by rw [HZ.out]; exact ⟨HI.out.one, HI.out.two⟩)
    obtain ⟨-, -, -, -, x4, -, -⟩ := rep_cells HT2.out.1
    obtain ⟨-, -, -, -, y4, -, -⟩ := rep_cells HT2.out.2
    by_cases hlt : i < z
    · have hlt' : i < l.length := by rw [← HZ.out]; exact hlt
      obtain ⟨hn1, hc1, g1, o1, rfl, hg1, p1, p2⟩ := HI.out.a1.at_ hlt'
      obtain ⟨hn2, hc2, g2, o2, rfl, hg2, q1, q2⟩ := HI.out.a2.at_ hlt'
      obtain ⟨a, ha⟩ : ∃ a, a = atZ l i := ⟨_, rfl⟩
      rw [← ha] at p1 p2 q1 q2
      rw [← HZ.out] at hc1 hc2
      have HLT := Lib.hid hlt
      clear hn1 hn2 ha hg1 hg2 hlt'
      go_wp2_with fail
      go_quiet (fail)
      have HN : Hid (Twins w (wr.drewN nq) m k t n u src abt (some ⟨g1, o1, none⟩) (some ⟨g2, o2, none⟩) c1 c2 l) := Lib.hid (HI.out.next (below_draws' wr nq))
      clear x4 y4 p1 p2 q1 q2
      go_wp2
      go_roundw
      case rel => exact ⟨i + 1, by have := HLT.out; omega, by go_num, HN⟩
      case measure => have := HLT.out; simp [intOf]; omega
    · go_wp2
      go_ret
      exact ⟨rfl, HI.out.below⟩
end Go.Proofs.YtjcaaejfokmolaaGreatDoor
