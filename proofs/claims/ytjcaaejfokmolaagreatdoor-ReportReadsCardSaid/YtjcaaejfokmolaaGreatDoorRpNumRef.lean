/- The document's Number at every integer. What a region asks may grow on its way. -/
import Derived.Test.YtjcaaejfokmolaaGreatDoorRpSgNum
import Derived.Test.YtjcaaejfokmolaaGreatDoorRpTake
import Derived.IntWalk
namespace Go.Proofs.YtjcaaejfokmolaaGreatDoor
open Go.RowKit

theorem wpAnyH_weaken {P : Program} {md : Region.Mode} {ops : Array Oper} {Q : Exit → Act → World → Prop} {S S' : World → Prop} (h : ∀ w, S' w → S w) :
    ∀ (fuel : Nat) (listed : Array Bool) (a : Act) (w : World), wpAnyH P md ops Q S' fuel listed a w → wpAnyH P md ops Q S fuel listed a w := by
  intro fuel
  induction fuel with
  | zero => intro listed a w hw; exact hw
  | succ fuel ih =>
    intro listed a w hw
    exact ⟨hw.1, fun i hi => wpOp_mono (fun a w hk => ⟨h _ hk.1, ih _ _ _ hk.2⟩) (hw.2 i hi)⟩

set_option maxRecDepth 100000 in
set_option maxHeartbeats 2000000 in
theorem refNumber_neg (N : Nat) (h0 : 0 < N) (hN : N < 4611686018427387904) (w : World) :
    Calls Tryz.prog 47 #[.int .i64 (-(N : Int))] w fun e w' => e = .returned (.string ⟨(45 :: Lib.decDigits N).toArray⟩) ∧ Below w.heap.size w w' := by
  have hlen : (Lib.decDigits N).length ≤ 20 := by rw [Lib.decDigits_length]; exact Lib.nDigits_le20 N (by omega)
  have HLEN := Lib.hid hlen
  clear hlen
  have h00 : -(N : Int) < 0 := by omega
  go_enter Tryz.func47, Tryz.ntmps47
  go_wp2
  go_loopw [0, 3] (fun nv sv wr => ∃ (n : Nat) (s : ByteArray), n < 4611686018427387904 ∧ nv = .int .i64 (-(n : Int)) ∧ sv = .string s ∧ Hid (Lib.decDigits N = Lib.decDigits n ++ s.data.toList ∧ Below w.heap.size w wr)) (fun nv _ _ => (-(intOf nv)).toNat)
  case atStart => exact ⟨N, ByteArray.empty, hN, rfl, rfl, Lib.hid ⟨by simp, Below.refl _ _⟩⟩
  case round =>
    obtain ⟨n, s, hn, rfl, rfl, HI⟩ := hrel
    have hsz : s.size ≤ 20 := by have := HLEN.out; rw [HI.out.1, List.length_append] at this; have h2 : s.data.toList.length = s.size := rfl; omega
    obtain ⟨d, hd⟩ : ∃ d, d = n % 10 := ⟨_, rfl⟩
    have hd10 : d < 10 := by rw [hd]; exact Nat.mod_lt _ (by omega)
    have hmod : Int.tmod (-(n : Int)) 10 = -(d : Int) := by rw [Int.neg_tmod, Int.tmod_eq_emod_of_nonneg (by omega)]; omega
    have hdiv : Int.tdiv (-(n : Int)) 10 = -((n / 10 : Nat) : Int) := by rw [Int.neg_tdiv, Int.tdiv_eq_ediv_of_nonneg (by omega)]; omega
    have hmax : max (-(d : Int)) (d : Int) = (d : Int) := by omega
    have hmax2 : max (-(d : Int)) (-(-(d : Int))) = (d : Int) := by omega
    have HDD := Lib.hid hd; clear hd
    obtain ⟨c, hc⟩ : ∃ c, c = UInt8.ofNat (48 + d) := ⟨_, rfl⟩
    have hct : (c.toNat : Int) = 48 + (d : Int) := by rw [hc, UInt8.toNat_ofNat']; omega
    have hcv : (convert 111 9 (.slice (some ⟨wr.heap.size, 0, none⟩) 1 1)).run Tryz.prog (wr.alloc (.cells #[.int .u8 (48 + (d : Int))] 5)) = .ok (.string ⟨#[c]⟩) (wr.alloc (.cells #[.int .u8 (48 + (d : Int))] 5)) := by
      have := run_convert_bytes_back (P := Tryz.prog) (wr.alloc (.cells #[.int .u8 (48 + (d : Int))] 5)) 111 9 5 ⟨wr.heap.size, 0, none⟩ 1 [c] Tryz.underlying111 Tryz.underlying5 Tryz.underlying9 (fun j hj => by
        have : j = 0 := by simpa using hj
        subst this
        simp [Addr.add, hct])
      simpa using this
    have HCC := Lib.hid hc
    have HB : Hid (Below w.heap.size w (wr.alloc (.cells #[.int .u8 (48 + (d : Int))] 5))) := Lib.hid (HI.out.2.alloc HI.out.2.size _)
    clear hc hct
    obtain ⟨q, hq⟩ : ∃ q : Nat, q = n / 10 := ⟨_, rfl⟩
    rw [← hq] at hdiv
    have HQ := Lib.hid hq
    clear hq
    by_cases h10 : n < 10
    · have hq0 : q = 0 := by have := HQ.out; omega
      subst hq0
      have HR : Hid ((⟨(45 :: Lib.decDigits N).toArray⟩ : ByteArray) = (⟨#[45]⟩ : ByteArray) ++ ((⟨#[c]⟩ : ByteArray) ++ s)) := Lib.hid (by
        rw [HI.out.1, dig_step, if_pos h10, show n = d by rw [HDD.out]; omega, ← HCC.out]
        apply ByteArray.ext
        simp)
      go_wp2
      go_ret
      exact ⟨by rw [HR.out]; rfl, HB.out⟩
    · have HR : Hid (Lib.decDigits N = Lib.decDigits q ++ ((⟨#[c]⟩ : ByteArray) ++ s).data.toList) := Lib.hid (by
        rw [HI.out.1, dig_step, if_neg h10, ← HDD.out, ← HCC.out, ← HQ.out]; simp)
      have hq0 : 0 < q := by have := HQ.out; omega
      have H10 := Lib.hid h10
      have hqn : q < 4611686018427387904 := by have := HQ.out; omega
      have hwr : wrap64 (-(q : Int)) = -(q : Int) := by unfold wrap64; omega
      have hwz : (-(q : Int) == 0) = false := by rw [beq_eq_false_iff_ne]; omega
      go_wp2
      go_roundw
      case rel => exact ⟨q, _, hqn, rfl, rfl, Lib.hid ⟨HR.out, HB.out⟩⟩
      case measure => have := H10.out; have := HQ.out; simp [intOf]; omega
theorem refNumberZ_any (n : Int) (h1 : -4611686018427387904 < n) (h2 : n < 4611686018427387904) (w : World) :
    Calls Tryz.prog 47 #[.int .i64 n] w fun e w' => e = .returned (.string ⟨(Lib.itoa n).toArray⟩) ∧ Below w.heap.size w w' := by
  unfold Lib.itoa
  by_cases h : n < 0
  · rw [if_pos h]
    have := refNumber_neg n.natAbs (by omega) (by omega) w
    rwa [show (-(n.natAbs : Int)) = n by omega] at this
  · rw [if_neg h]
    have := refNumber_any n.toNat (by omega) w
    rwa [show ((n.toNat : Nat) : Int) = n by omega] at this
end Go.Proofs.YtjcaaejfokmolaaGreatDoor
