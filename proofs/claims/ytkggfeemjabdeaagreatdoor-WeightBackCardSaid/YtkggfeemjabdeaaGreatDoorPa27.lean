/- A region without defer in a round is right where it is right outside of one. -/
import Derived.Stop.RegionWithIn
import Derived.Test.YtkggfeemjabdeaaGreatDoorPa25
namespace Go.Proofs.YtkggfeemjabdeaaGreatDoor
open Go.RowKit Go.Shelf

theorem uponIn_inRound {F : Fence} {n : Nat} {P : Program} {o : Oper} {a : Act} {next : Act → World → Prop} {Q : Exit → Act → World → Prop} (l : Nat) (r : Result Next) (h : o.uponIn F n P a next Q r) : o.uponIn (F.inRound l) n P a next Q r := by
  unfold Oper.uponIn at *
  split at h <;> exact h

theorem wpIn_inRound {F : Fence} (hro : F.round = none) {n : Nat} {P : Program} {o : Oper} {a : Act} {w : World} {next : Act → World → Prop} {Q : Exit → Act → World → Prop} (l : Nat) (hd : ∀ c, o.op ≠ .defer c)
    (h : o.wpIn F n P a w next Q) : o.wpIn (F.inRound l) n P a w next Q := by
  unfold Oper.wpIn at *
  refine ⟨h.1, ?_⟩
  have h2 := h.2
  rw [hro, Oper.semAt_none] at h2
  show o.uponIn (F.inRound l) n P a next Q ((o.semAt (some l) a.eval).run P w)
  rw [Oper.semAt_some l _ _ hd]
  exact uponIn_inRound l _ h2

theorem wpAnyIn_inRound {F : Fence} (hro : F.round = none) {n : Nat} {P : Program} {md : Region.Mode} {ops : Array Oper} {Q : Exit → Act → World → Prop} (l : Nat) (hd : ∀ (i : Nat) (o : Oper), ops[i]? = some o → ∀ c, o.op ≠ .defer c) :
    ∀ (fuel : Nat) (listed : Array Bool) (a : Act) (w : World), wpAnyIn F n P md ops Q fuel listed a w → wpAnyIn (F.inRound l) n P md ops Q fuel listed a w := by
  intro fuel
  induction fuel with
  | zero => intro listed a w h; exact h
  | succ fuel ih =>
    intro listed a w h
    refine ⟨h.1, fun i hi => ?_⟩
    have h2 := h.2 i hi
    refine wpOpIn_mono (fun a' w' h3 => ih _ a' w' h3) ?_
    unfold wpOpIn at *
    split at h2
    · exact h2
    · rename_i o ho
      split at h2
      · rw [if_pos (by assumption)]; exact wpIn_inRound hro l (hd _ _ ho) h2
      · rw [if_neg (by assumption)]; exact h2
end Go.Proofs.YtkggfeemjabdeaaGreatDoor
