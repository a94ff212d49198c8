/- The document's Right: as rightL reckons it. -/
import Derived.Test.YtjkjjolalbdhkaaGreatDoorRpRefOn
import Derived.Deep.RegionHeld3
namespace Go.Proofs.YtjkjjolalbdhkaaGreatDoor
open Go.RowKit

theorem and_i64n (a b : Nat) (ha : a < 4611686018427387904) (hb : b < 4611686018427387904) : bits .and .i64 (a : Int) (b : Int) = ((a &&& b : Nat) : Int) := by
  have hx : a &&& b < 2 ^ 62 := Nat.and_lt_two_pow _ (by omega)
  have h1 : (BitVec.ofInt 64 (a : Int)).toNat = a := by
    rw [BitVec.ofInt_natCast, BitVec.toNat_ofNat]; exact Nat.mod_eq_of_lt (by omega)
  have h2 : (BitVec.ofInt 64 (b : Int)).toNat = b := by
    rw [BitVec.ofInt_natCast, BitVec.toNat_ofNat]; exact Nat.mod_eq_of_lt (by omega)
  show IntKind.i64.wrap ((BitVec.ofInt 64 (a : Int) &&& BitVec.ofInt 64 (b : Int)).toNat : Int) = _
  rw [BitVec.toNat_and, h1, h2, IntKind.wrap_i64]
  omega
theorem bit_ofi (d x : Nat) (hd : d < 4611686018427387904) : (bits .and .i64 ((d : Int) / 2 ^ x) 1 == 1) = d.testBit x := by
  have e : ((d : Int) / 2 ^ x) = ((d / 2 ^ x : Nat) : Int) := by rw [Int.natCast_ediv]; norm_cast
  rw [e, show (1 : Int) = ((1 : Nat) : Int) from rfl, and_i64n _ _ (Nat.lt_of_le_of_lt (Nat.div_le_self _ _) hd) (by omega), Nat.testBit_eq_decide_div_mod_eq, Nat.and_one_is_mod]
  rw [Bool.eq_iff_iff, beq_iff_eq, decide_eq_true_eq]
  omega

/-- how many of the first i bits: of position bit k, and on; and on. -/
def cntKi (d c k i : Nat) : Nat := (bitT.take i).countP fun b => b.2.2.testBit k && onB d c b
def cntAi (d c i : Nat) : Nat := (bitT.take i).countP fun b => onB d c b
theorem cntKi_le (d c k i : Nat) : cntKi d c k i ≤ i := Nat.le_trans List.countP_le_length (by simp; omega)
theorem cntAi_le (d c i : Nat) : cntAi d c i ≤ i := Nat.le_trans List.countP_le_length (by simp; omega)
theorem cntKi_next {d c k i : Nat} {b} (h : bitT[i]? = some b) : cntKi d c k (i + 1) = cntKi d c k i + if (b.2.2.testBit k && onB d c b) = true then 1 else 0 := by
  unfold cntKi
  rw [List.take_add_one, h, Option.toList_some, List.countP_append, List.countP_singleton]
theorem cntAi_next {d c i : Nat} {b} (h : bitT[i]? = some b) : cntAi d c (i + 1) = cntAi d c i + if onB d c b = true then 1 else 0 := by
  unfold cntAi
  rw [List.take_add_one, h, Option.toList_some, List.countP_append, List.countP_singleton]
theorem cntKi_all (d c k : Nat) : cntKi d c k 72 = cntK d c k := by
  unfold cntKi cntK; rw [List.take_of_length_le (Nat.le_of_eq bitT_len)]
theorem cntAi_all (d c : Nat) : cntAi d c 72 = cntA d c := by
  unfold cntAi cntA; rw [List.take_of_length_le (Nat.le_of_eq bitT_len)]
theorem rightL_no {d c k : Nat} (hk : k < 7) (h : cntK d c k % 2 = 1) : rightL d c = false := by
  unfold rightL
  rw [Bool.and_eq_false_iff]
  left
  rw [List.all_eq_false]
  exact ⟨k, List.mem_range.2 hk, by simp [h]⟩
theorem rightL_all {d c : Nat} (h : ∀ k, k < 7 → cntK d c k % 2 = 0) : rightL d c = (cntA d c % 2 == 0) := by
  unfold rightL
  have : (List.range 7).all (fun k => cntK d c k % 2 != 1) = true := by
    rw [List.all_eq_true]
    intro k hk
    simp [h k (List.mem_range.1 hk)]
  rw [this, Bool.true_and]

theorem bitT_at_le : ∀ b ∈ bitT, b.2.2 < 128 := by decide +kernel
theorem bitT_get {i : Nat} (h : i < 72) : ∃ b, bitT[i]? = some b ∧ BitOk b ∧ b.2.2 < 128 := by
  have hl : i < bitT.length := by rw [bitT_len]; exact h
  exact ⟨bitT[i], List.getElem?_eq_getElem hl, bitT_ok _ (List.getElem_mem hl), bitT_at_le _ (List.getElem_mem hl)⟩

/-- the cells of all bits, in a block. -/
def Bits72 (W : World) (g : Nat) : Prop := g < W.heap.size ∧ ∀ j q, bitT[j]? = some q → W.cell? ⟨g, j * 3, none⟩ = some (.bool q.1) ∧ W.cell? ⟨g, j * 3 + 1, none⟩ = some (.int .i64 q.2.1) ∧ W.cell? ⟨g, j * 3 + 2, none⟩ = some (.int .i64 q.2.2)
theorem Bits72.below {W W' : World} {g : Nat} (h : Bits72 W g) (hb : Below W.heap.size W W') : Bits72 W' g :=
  ⟨Nat.lt_of_lt_of_le h.1 hb.size, fun j q hj => ⟨(hb.cell (p := ⟨g, j * 3, none⟩) h.1).trans (h.2 j q hj).1, (hb.cell (p := ⟨g, j * 3 + 1, none⟩) h.1).trans (h.2 j q hj).2.1, (hb.cell (p := ⟨g, j * 3 + 2, none⟩) h.1).trans (h.2 j q hj).2.2⟩⟩

/-- an operation of a drawn region, taken first; the temporary that it writes is told. -/
theorem takeH {P : Program} {ops : Array Oper} {Q : Exit → Act → World → Prop} {md : Region.Mode} {S : World → Prop} {i : Nat} {oi : Oper} {v : Value} {n : Nat} {fuel : Nat} {listed : Array Bool} {a : Act} {w : World} (hi : ops[i]? = some oi) (hd : oi.dst = some n)
    (hs : Region.noSelect ops = true) (hf : Region.free md ops listed i = true) (hr : (Region.ready md ops listed).contains i = true)
    (hQ : ∀ c a w, Q (.panic c) (a.put (some n) v) w → Q (.panic c) a w) (hy : YieldsIf P ops S oi v a) (hS : S w)
    (h : wpAnyH P md ops Q S fuel (listed.setIfInBounds i true) (a.put (some n) v) w) : wpAnyH P md ops Q S (fuel + 1) listed a w := by
  rw [← hd] at h hQ
  exact wpAnyH_take hi hs hf hr hQ hy hS h

/-- what holds while the document's Right looks at a frame. -/
structure Looks (w W : World) (n g d c : Nat) : Prop where
  frame : W.heap[n]? = some (frO d c)
  bits : Bits72 W g
  below : Below w.heap.size w W
theorem Looks.next {w W W' : World} {n g d c : Nat} (h : Looks w W n g d c) (hb : Below W.heap.size W W') : Looks w W' n g d c :=
  ⟨stay h.frame hb, h.bits.below hb, below_chain h.below hb⟩
end Go.Proofs.YtjkjjolalbdhkaaGreatDoor
