/- The document's Number is the decimal numeral. -/
import Derived.Test.YtjcaaejfokmolaaGreatDoorRpRefIn
import Derived.Lib.ItoaNum
import Derived.Lib.ItoaLen
import Derived.Laws.IdiomStrings
namespace Go.Proofs.YtjcaaejfokmolaaGreatDoor
open Go.RowKit

theorem dig_step (n : Nat) : Lib.decDigits n = if n < 10 then [UInt8.ofNat (48 + n)] else Lib.decDigits (n / 10) ++ [UInt8.ofNat (48 + n % 10)] := by
  by_cases h : n < 10
  · rw [if_pos h, Lib.decDigits_one h]
  · rw [if_neg h, Lib.decDigits, dif_neg h]

theorem bytes_cons (b : UInt8) (s : ByteArray) : (⟨([b] ++ s.data.toList).toArray⟩ : ByteArray) = (⟨#[]⟩ : ByteArray) ++ ((⟨#[b]⟩ : ByteArray) ++ s) := by
  apply ByteArray.ext
  simp

set_option maxRecDepth 100000 in
set_option maxHeartbeats 2000000 in
theorem refNumber_any (N : Nat) (hN : N < 4611686018427387904) (w : World) :
    Calls Tryz.prog 47 #[.int .i64 N] w fun e w' => e = .returned (.string ⟨(Lib.decDigits N).toArray⟩) ∧ Below w.heap.size w w' := by
  have hlen : (Lib.decDigits N).length ≤ 20 := by rw [Lib.decDigits_length]; exact Lib.nDigits_le20 N (by omega)
  have HLEN := Lib.hid hlen
  clear hlen
  go_enter Tryz.func47, Tryz.ntmps47
  go_wp2
  go_loopw [0, 3] (fun nv sv wr => ∃ (n : Nat) (s : ByteArray), n < 4611686018427387904 ∧ nv = .int .i64 n ∧ sv = .string s ∧ Hid (Lib.decDigits N = Lib.decDigits n ++ s.data.toList ∧ Below w.heap.size w wr)) (fun nv _ _ => (intOf nv).toNat)
  case atStart => exact ⟨N, ByteArray.empty, hN, rfl, rfl, Lib.hid ⟨by simp, Below.refl _ _⟩⟩
  case round =>
    obtain ⟨n, s, hn, rfl, rfl, HI⟩ := hrel
    have hsz : s.size ≤ 20 := by have := HLEN.out; rw [HI.out.1, List.length_append] at this; have h2 : s.data.toList.length = s.size := rfl; omega
    obtain ⟨d, hd⟩ : ∃ d, d = n % 10 := ⟨_, rfl⟩
    have hd10 : d < 10 := by rw [hd]; exact Nat.mod_lt _ (by omega)
    have hmod : (n : Int) % 10 = (d : Int) := by omega
    have hmax : max (d : Int) (-(d : Int)) = (d : Int) := by omega
    have HDD := Lib.hid hd; clear hd
    obtain ⟨c, hc⟩ : ∃ c, c = UInt8.ofNat (48 + d) := ⟨_, rfl⟩
    have hct : (c.toNat : Int) = 48 + (d : Int) := by rw [hc, UInt8.toNat_ofNat']; omega
    have hcv : (convert 111 9 (.slice (some ⟨wr.heap.size, 0, none⟩) 1 1)).run Tryz.prog (wr.alloc (.cells #[.int .u8 (48 + (d : Int))] 5)) = .ok (.string ⟨#[c]⟩) (wr.alloc (.cells #[.int .u8 (48 + (d : Int))] 5)) := by
      have := run_convert_bytes_back (P := Tryz.prog) (wr.alloc (.cells #[.int .u8 (48 + (d : Int))] 5)) 111 9 5 ⟨wr.heap.size, 0, none⟩ 1 [c] Tryz.underlying111 Tryz.underlying5 Tryz.underlying9 (fun j hj => by
        have : j = 0 := by simpa using hj
        subst this
        simp [Addr.add, hct])
      simpa using this
    have HCC := Lib.hid hc
    have HB : Hid (Below w.heap.size w (wr.alloc (.cells #[.int .u8 (48 + (d : Int))] 5))) := Lib.hid (HI.out.2.alloc HI.out.2.size _)
    clear hc hct
    by_cases h10 : n < 10
    · have hq : (n : Int) / 10 = 0 := by omega
      have HR : Hid ((⟨(Lib.decDigits N).toArray⟩ : ByteArray) = (⟨#[]⟩ : ByteArray) ++ ((⟨#[c]⟩ : ByteArray) ++ s)) := Lib.hid (by
        rw [HI.out.1, dig_step, if_pos h10, show n = d by rw [HDD.out]; omega, ← HCC.out]
        exact bytes_cons _ _)
      go_wp2
      go_ret
      exact ⟨by rw [HR.out]; rfl, HB.out⟩
    · have HR : Hid (Lib.decDigits N = Lib.decDigits (n / 10) ++ ((⟨#[c]⟩ : ByteArray) ++ s).data.toList) := Lib.hid (by
        rw [HI.out.1, dig_step, if_neg h10, ← HDD.out, ← HCC.out]; simp)
      have H10 := Lib.hid h10
      go_wp2
      go_roundw
      case rel => exact ⟨n / 10, _, by omega, by go_num, rfl, Lib.hid ⟨HR.out, HB.out⟩⟩
      case measure => have := H10.out; simp [intOf]; omega
end Go.Proofs.YtjcaaejfokmolaaGreatDoor
