/- A region that begins with recover: behind it, it is walked as any other. Of no program. -/
import Derived.Defers
import Derived.Recover
import Derived.WalkKit
namespace Go.Proofs.YtkggfeemjabdeaaGreatDoor

theorem wpOpsS_of_list {P : Program} {ops : Array Oper} {Q : Exit → Act → List Frame → World → Prop} {cs : List Frame} (hQ : ¬ LetsOut (fun e a w => Q e a cs w)) :
    ∀ (l : List Oper) (k : Nat), (∀ j, l[j]? = ops[k + j]?) → ∀ a w, wpList P ops (fun e a w => Q e a cs w) l a w → wpOpsS P ops Q (List.range' k l.length) a cs w
  | [], _, _, _, _, h => h
  | o :: l, k, hk, a, w, h => by
    have h0 : ops[k]? = some o := by simpa using (hk 0).symm
    have ih := wpOpsS_of_list (P := P) (ops := ops) hQ l (k + 1) (fun j => by have := hk (j + 1); simpa [Nat.add_assoc, Nat.add_comm 1 j] using this)
    rw [List.length_cons, List.range'_succ]
    unfold wpOpsS
    rw [h0]
    simp only
    unfold wpList at h
    split
    · rename_i hw
      rw [if_pos hw] at h
      have h2 : o.wp P a w (wpList P ops (fun e a w => Q e a cs w) l) (fun e a w => Q e a cs w) := h.resolve_right fun x => hQ x.2
      have h3 := Oper.wp_mono (K' := fun a' w' => wpOpsS P ops Q (List.range' (k + 1) l.length) a' cs w') (fun a w h => ih a w h) h2
      unfold Oper.wp at h3
      generalize (execOp a.eval o).run P w = r at *
      split
      · exact (h3 : False).elim
      · exact h3
    · rename_i hw
      rw [if_neg hw] at h
      exact ih _ _ h

theorem wpS_region_recover {P : Program} {ops : Array Oper} {id : Nat} {Q : Exit → Act → List Frame → World → Prop} {a : Act} {cs cs' : List Frame} {w : World} {o : Oper} {l : List Oper} {v : Value} (hl : ops.toList = o :: l)
    (ho : o.guard = none) (hr : (execOp a.eval o).run P w = .ok .recover w) (hc : recoverD cs = some (v, cs')) (hQ : ¬ LetsOut (fun e a w => Q e a cs' w))
    (h : wpList P ops (fun e a w => Q e a cs' w) l (a.put o.dst v) w) : (Code.region id ops false).wpS P Q a cs w := by
  refine wpS_region ?_
  have hs : ops.size = l.length + 1 := by rw [← Array.length_toList, hl]; rfl
  have hat : ∀ j, ops[j]? = (o :: l)[j]? := fun j => by rw [← Array.getElem?_toList, hl]
  rw [hs, List.range_eq_range', List.range'_succ]
  unfold wpOpsS
  rw [hat 0]
  simp only [List.getElem?_cons_zero]
  rw [if_pos (by simp [Region.wanted, ho]), hr]
  simp only [hc]
  exact wpOpsS_of_list hQ l 1 (fun j => by rw [hat, Nat.add_comm]; rfl) _ _ h

theorem wpS_region_idle {P : Program} {ops : Array Oper} {id : Nat} {Q : Exit → Act → List Frame → World → Prop} {a : Act} {cs : List Frame} {w : World} {o : Oper} {l : List Oper} (hl : ops.toList = o :: l)
    (ho : o.guard = none) (hr : (execOp a.eval o).run P w = .ok .recover w) (hc : recoverD cs = none) (hQ : ¬ LetsOut (fun e a w => Q e a cs w))
    (h : wpList P ops (fun e a w => Q e a cs w) l (a.put o.dst .nilIface) w) : (Code.region id ops false).wpS P Q a cs w := by
  refine wpS_region ?_
  have hs : ops.size = l.length + 1 := by rw [← Array.length_toList, hl]; rfl
  have hat : ∀ j, ops[j]? = (o :: l)[j]? := fun j => by rw [← Array.getElem?_toList, hl]
  rw [hs, List.range_eq_range', List.range'_succ]
  unfold wpOpsS
  rw [hat 0]
  simp only [List.getElem?_cons_zero]
  rw [if_pos (by simp [Region.wanted, ho]), hr]
  simp only [hc]
  exact wpOpsS_of_list hQ l 1 (fun j => by rw [hat, Nat.add_comm]; rfl) _ _ h
end Go.Proofs.YtkggfeemjabdeaaGreatDoor
