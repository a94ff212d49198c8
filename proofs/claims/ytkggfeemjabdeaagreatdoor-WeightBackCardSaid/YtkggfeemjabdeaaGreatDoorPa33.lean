/- powerOfTen. pointed. Decimal. readDecimal's closure. readDecimal. Read. Read behind Text: the mathematics. Read behind Decimal: the mathematics. A fraction and the decimal numbers next to it: the mathematics. WeightBack: what its calls come to. WeightBack: the law returns true. -/
import Derived.Test.YtkggfeemjabdeaaGreatDoorShelfB
import Derived.Test.YtkggfeemjabdeaaGreatDoorPa30
import Derived.Test.YtkggfeemjabdeaaGreatDoorPa31
import Derived.Test.YtkggfeemjabdeaaGreatDoorPa32
section
namespace Go.Proofs.YtkggfeemjabdeaaGreatDoor.Wc
open Go Go.Proofs.YtkggfeemjabdeaaGreatDoor.Sx Go.RowKit

/-- zeros. -/
def zer (p : Nat) : ByteArray := ⟨(List.replicate p (48 : UInt8)).toArray⟩

theorem numL_zer (l : List UInt8) : ∀ p, numL (l ++ List.replicate p 48) = numL l * 10 ^ p
  | 0 => by simp
  | p + 1 => by
    rw [List.replicate_succ', ← List.append_assoc, numL_app, numL_zer l p, Nat.pow_succ, ← Nat.mul_assoc]
    rfl

theorem repeat_zer (p : Nat) : (⟨(Lib.repeatL (⟨#[48]⟩ : ByteArray).data.toList p).toArray⟩ : ByteArray) = zer p := by
  have : (⟨#[48]⟩ : ByteArray).data.toList = List.replicate 1 48 := rfl
  rw [this, Lib.repeatL_replicate, Nat.mul_one]; rfl

theorem zer_size (p : Nat) : (zer p).size = p := by simp [zer, ByteArray.size]

theorem one_zer (p : Nat) : ((⟨#[49]⟩ : ByteArray) ++ zer p).data.toList = 49 :: List.replicate p 48 := by
  simp [zer, ByteArray.data_append]

theorem one_zer_size (p : Nat) : ((⟨#[49]⟩ : ByteArray) ++ zer p).size = p + 1 := by
  rw [ByteArray.size_append, zer_size, Nat.add_comm]; rfl

theorem one_zer_num (p : Nat) : num ((⟨#[49]⟩ : ByteArray) ++ zer p) = 10 ^ p := by
  unfold num
  rw [one_zer]
  have := numL_zer [49] p
  rw [show numL [49] = 1 from rfl, Nat.one_mul] at this
  exact this

theorem one_zer_dig (p : Nat) : isDigs ((⟨#[49]⟩ : ByteArray) ++ zer p) = true := by
  unfold isDigs
  rw [one_zer]
  have := one_zer_size p
  rw [ByteArray.size_append] at this
  simp [digB]
  omega

set_option maxRecDepth 100000 in
set_option maxHeartbeats 2000000 in
theorem powerOfTen_any (p : Nat) (w : World) (hp : p ≤ 1900) (ht : Tens w) :
    Calls Tryz.prog 39 #[.int .i64 p] w (RetNatOwn (10 ^ p) w) := by
  have hr := Tryz.strings_Repeat ⟨#[48]⟩ p w (by omega) (by show 1 * p ≤ 140737488355328; omega)
  rw [repeat_zer] at hr
  have HR := Lib.hid hr
  have s1 := zer_size p
  have HT := Lib.hid ht
  clear hr ht
  go_enter Tryz.func39, Tryz.ntmps39
  go_wp2_with fail
  refine HR.out.mono ?_
  rintro e w2 ⟨rfl, hb⟩
  have HB := Lib.hid hb
  have HP := Lib.hid (parse_any ((⟨#[49]⟩ : ByteArray) ++ zer p) w2 (by rw [one_zer_size]; omega) (dig_get (one_zer_dig p)) (fun j hj => cell_later hb (HT.out j hj)))
  clear hb
  go_wp2_with fail
  refine HP.out.mono ?_
  rintro e w3 ⟨v, rfl, hv, hb3⟩
  rw [dv_num, one_zer_num] at hv
  have HV := Lib.hid hv; have HB3 := Lib.hid hb3
  clear hv hb3
  go_wp2_with fail
  exact bodyPost_ret (v := v) (by simp [results, Tryz.results39, go_sem]) rfl ⟨v, rfl, HV.out.mono HB.out.size, HB.out.trans (HB3.out.mono HB.out.size)⟩
end Go.Proofs.YtkggfeemjabdeaaGreatDoor.Wc
end
section
namespace Go.Proofs.YtkggfeemjabdeaaGreatDoor.Wc
open Go Go.Proofs.YtkggfeemjabdeaaGreatDoor.Sx Go.RowKit

/-- the digits of x, with zeros in front so that more than p lie there. -/
def padS (x p : Nat) : ByteArray := zer (p + 1 - (Lib.decDigits x).length) ++ ⟨(Lib.decDigits x).toArray⟩
/-- What pointed answers. -/
def pointS (x p : Nat) : ByteArray :=
  if p = 0 then ⟨(Lib.decDigits x).toArray⟩ else (padS x p).extract 0 ((padS x p).size - p) ++ ⟨#[46]⟩ ++ (padS x p).extract ((padS x p).size - p) (padS x p).size

theorem dec_size (x : Nat) : (⟨(Lib.decDigits x).toArray⟩ : ByteArray).size = (Lib.decDigits x).length := by simp [ByteArray.size]
theorem zer_zero : zer 0 = ⟨#[]⟩ := rfl
theorem padS_size (x p : Nat) : (padS x p).size = p + 1 - (Lib.decDigits x).length + (Lib.decDigits x).length := by
  unfold padS; rw [ByteArray.size_append, zer_size, dec_size]

set_option maxRecDepth 100000 in
set_option maxHeartbeats 400000 in
theorem pointed_any (x p : Nat) (v : Value) (w : World) (h : NatV w v x) (hx : x < Big) (hl : (Lib.decDigits x).length ≤ 10000) (hp : p ≤ 1200) (ht : Tens w) :
    Calls Tryz.prog 41 #[v, .int .i64 p] w fun e w' => e = .returned (.string (pointS x p)) ∧ Below w.heap.size w w' := by
  have HD := Lib.hid (digits_core x v w h hx (ht 18 (Nat.le_refl _)))
  have hds := dec_size x
  have hps := padS_size x p
  obtain ⟨D, hD⟩ : ∃ D, D = (⟨(Lib.decDigits x).toArray⟩ : ByteArray) := ⟨_, rfl⟩
  rw [← hD] at HD hds
  have hDl : D.size ≤ 10000 := by rw [hds]; exact hl
  have HX := Lib.hid hD; have HDS := Lib.hid hds; have HPS := Lib.hid hps
  clear h ht hD hds hps hl
  go_enter Tryz.func41, Tryz.ntmps41
  go_wp2_with fail
  refine HD.out.mono ?_
  rintro e w2 ⟨rfl, hb⟩
  have HB := Lib.hid hb; clear hb
  by_cases h0 : p = 0
  · have e3 : pointS x p = D := by unfold pointS; rw [if_pos h0, HX.out]
    have E3 := Lib.hid e3
    clear e3
    subst h0
    go_wp2_with fail
    exact bodyPost_ret (v := .string D) (by simp [results, Tryz.results41, go_sem]) rfl ⟨by rw [E3.out], HB.out⟩
  · have h0i : ¬ (p : Int) = 0 := by omega
    have e3 : ∀ t : ByteArray, t = padS x p → pointS x p = t.extract 0 (t.size - p) ++ ⟨#[46]⟩ ++ t.extract (t.size - p) t.size := by intro t ht; subst ht; unfold pointS; rw [if_neg h0]
    have E3 := Lib.hid e3
    clear e3
    by_cases hm : D.size < p + 1
    · have h1i : (0 : Int) < (p : Int) + 1 - (D.size : Int) := by omega
      have hz := zer_size (p + 1 - D.size)
      have hts : (zer (p + 1 - D.size) ++ D).size = p + 1 := by rw [ByteArray.size_append, hz]; omega
      have hpd : zer (p + 1 - D.size) ++ D = padS x p := by unfold padS; rw [← HX.out, HDS.out]
      have HP := Lib.hid hpd
      have hr := fun W => Tryz.strings_Repeat ⟨#[48]⟩ (p + 1 - D.size) W (by omega) (by show 1 * (p + 1 - D.size) ≤ 140737488355328; omega)
      rw [repeat_zer] at hr
      rw [show ((p + 1 - D.size : Nat) : Int) = (p : Int) + 1 - (D.size : Int) from by omega] at hr
      have HR := Lib.hid hr
      clear hpd hr
      go_wp2_with fail
      refine (HR.out w2).mono ?_
      rintro e w3 ⟨rfl, hb3⟩
      have HB3 := Lib.hid (HB.out.trans (hb3.mono HB.out.size)); clear hb3 HR
      obtain ⟨t, ht⟩ : ∃ t, zer (p + 1 - D.size) ++ D = t := ⟨_, rfl⟩
      rw [ht] at hts HP
      have HTT := Lib.hid ht
      obtain ⟨q, hq⟩ : ∃ q, t.size - p = q := ⟨_, rfl⟩
      have hqi : (p : Int) + 1 - (p : Int) = (q : Int) := by omega
      have hq1 : (q : Int) ≤ (t.size : Int) := by omega
      have hA : (t.extract 0 q).size = q := by rw [ByteArray.size_extract]; omega
      have hB : (t.extract q t.size).size = t.size - q := by rw [ByteArray.size_extract]; omega
      go_upto_region 8 with fail
      try rw [hqi]
      refine wp_region_held_drew (S := fun W' => True) (by kernel_rfl) trivial (fun hHeld => ?_)
      refine takeH (i := 0) (n := 28) (v := .string t) rfl rfl (by kernel_rfl) (by kernel_rfl) (by kernel_rfl) (fun _ _ _ h => h) (Or.inl ⟨by kernel_rfl, ?_⟩) (by assumption) ?_
      · intro w hSw; (try dsimp only at hSw); (go_simp) <;> first | omega | (intro h; exfalso; omega)
      try simp only [Act.put, List.setIfInBounds_toArray, List.set_cons_zero, List.set_cons_succ]
      refine takeH (i := 1) (n := 29) (v := .int .i64 (q : Int)) rfl rfl (by kernel_rfl) (by kernel_rfl) (by kernel_rfl) (fun _ _ _ h => h) (Or.inl ⟨by kernel_rfl, ?_⟩) (by assumption) ?_
      · intro w hSw; (try dsimp only at hSw); (go_simp) <;> first | omega | (intro h; exfalso; omega)
      try simp only [Act.put, List.setIfInBounds_toArray, List.set_cons_zero, List.set_cons_succ]
      refine takeH (i := 2) (n := 30) (v := .string (t.extract 0 q)) rfl rfl (by kernel_rfl) (by kernel_rfl) (by kernel_rfl) (fun _ _ _ h => h) (Or.inl ⟨by kernel_rfl, ?_⟩) (by assumption) ?_
      · intro w hSw; (try dsimp only at hSw); (go_simp) <;> first | omega | (intro h; exfalso; omega)
      try simp only [Act.put, List.setIfInBounds_toArray, List.set_cons_zero, List.set_cons_succ]
      refine takeH (i := 3) (n := 31) (v := .string ((t.extract 0 q) ++ ⟨#[46]⟩)) rfl rfl (by kernel_rfl) (by kernel_rfl) (by kernel_rfl) (fun _ _ _ h => h) (Or.inl ⟨by kernel_rfl, ?_⟩) (by assumption) ?_
      · intro w hSw; (try dsimp only at hSw); (go_simp) <;> first | omega | (intro h; exfalso; omega)
      try simp only [Act.put, List.setIfInBounds_toArray, List.set_cons_zero, List.set_cons_succ]
      refine takeH (i := 4) (n := 32) (v := .string t) rfl rfl (by kernel_rfl) (by kernel_rfl) (by kernel_rfl) (fun _ _ _ h => h) (Or.inl ⟨by kernel_rfl, ?_⟩) (by assumption) ?_
      · intro w hSw; (try dsimp only at hSw); (go_simp) <;> first | omega | (intro h; exfalso; omega)
      try simp only [Act.put, List.setIfInBounds_toArray, List.set_cons_zero, List.set_cons_succ]
      refine takeH (i := 5) (n := 33) (v := .int .i64 (q : Int)) rfl rfl (by kernel_rfl) (by kernel_rfl) (by kernel_rfl) (fun _ _ _ h => h) (Or.inl ⟨by kernel_rfl, ?_⟩) (by assumption) ?_
      · intro w hSw; (try dsimp only at hSw); (go_simp) <;> first | omega | (intro h; exfalso; omega)
      try simp only [Act.put, List.setIfInBounds_toArray, List.set_cons_zero, List.set_cons_succ]
      refine takeH (i := 6) (n := 34) (v := .string (t.extract q t.size)) rfl rfl (by kernel_rfl) (by kernel_rfl) (by kernel_rfl) (fun _ _ _ h => h) (Or.inl ⟨by kernel_rfl, ?_⟩) (by assumption) ?_
      · intro w hSw; (try dsimp only at hSw); (go_simp) <;> first | omega | (intro h; exfalso; omega)
      try simp only [Act.put, List.setIfInBounds_toArray, List.set_cons_zero, List.set_cons_succ]
      refine takeH (i := 7) (n := 35) (v := .string ((t.extract 0 q) ++ ⟨#[46]⟩ ++ (t.extract q t.size))) rfl rfl (by kernel_rfl) (by kernel_rfl) (by kernel_rfl) (fun _ _ _ h => h) (Or.inl ⟨by kernel_rfl, ?_⟩) (by assumption) ?_
      · intro w hSw; (try dsimp only at hSw); (go_simp) <;> first | omega | (intro h; exfalso; omega)
      try simp only [Act.put, List.setIfInBounds_toArray, List.set_cons_zero, List.set_cons_succ]
      refine takeH (i := 8) (n := 4) (v := .string ((t.extract 0 q) ++ ⟨#[46]⟩ ++ (t.extract q t.size))) rfl rfl (by kernel_rfl) (by kernel_rfl) (by kernel_rfl) (fun _ _ _ h => h) (Or.inl ⟨by kernel_rfl, ?_⟩) (by assumption) ?_
      · intro w hSw; (try dsimp only at hSw); (go_simp) <;> first | omega | (intro h; exfalso; omega)
      try simp only [Act.put, List.setIfInBounds_toArray, List.set_cons_zero, List.set_cons_succ]
      refine wpAnyH_done (by kernel_rfl) ?_ _
      go_wp2_with fail
      exact bodyPost_ret (v := .string ((t.extract 0 q) ++ ⟨#[46]⟩ ++ (t.extract q t.size))) (by simp [results, Tryz.results41, go_sem]) rfl ⟨by rw [E3.out t HP.out, show t.size - p = q from by omega], HB3.out.drew⟩
    · have h1i : ¬ (0 : Int) < (p : Int) + 1 - (D.size : Int) := by omega
      have hpd : D = padS x p := by
        unfold padS; rw [← HX.out, ← HDS.out, show p + 1 - D.size = 0 from by omega, zer_zero]; exact (ByteArray.empty_append).symm
      have HP := Lib.hid hpd
      clear hpd
      go_wp2_with fail
      obtain ⟨q, hq⟩ : ∃ q, D.size - p = q := ⟨_, rfl⟩
      have hqi : (D.size : Int) - (p : Int) = (q : Int) := by omega
      have hq1 : (q : Int) ≤ (D.size : Int) := by omega
      have hA : (D.extract 0 q).size = q := by rw [ByteArray.size_extract]; omega
      have hB : (D.extract q D.size).size = D.size - q := by rw [ByteArray.size_extract]; omega
      try rw [hqi]
      have E3 := E3.out D HP.out
      refine wp_region_held_drew (S := fun W' => True) (by kernel_rfl) trivial (fun hHeld => ?_)
      refine takeH (i := 0) (n := 28) (v := .string D) rfl rfl (by kernel_rfl) (by kernel_rfl) (by kernel_rfl) (fun _ _ _ h => h) (Or.inl ⟨by kernel_rfl, ?_⟩) (by assumption) ?_
      · intro w hSw; (try dsimp only at hSw); (go_simp) <;> first | omega | (intro h; exfalso; omega)
      try simp only [Act.put, List.setIfInBounds_toArray, List.set_cons_zero, List.set_cons_succ]
      refine takeH (i := 1) (n := 29) (v := .int .i64 (q : Int)) rfl rfl (by kernel_rfl) (by kernel_rfl) (by kernel_rfl) (fun _ _ _ h => h) (Or.inl ⟨by kernel_rfl, ?_⟩) (by assumption) ?_
      · intro w hSw; (try dsimp only at hSw); (go_simp) <;> first | omega | (intro h; exfalso; omega)
      try simp only [Act.put, List.setIfInBounds_toArray, List.set_cons_zero, List.set_cons_succ]
      refine takeH (i := 2) (n := 30) (v := .string (D.extract 0 q)) rfl rfl (by kernel_rfl) (by kernel_rfl) (by kernel_rfl) (fun _ _ _ h => h) (Or.inl ⟨by kernel_rfl, ?_⟩) (by assumption) ?_
      · intro w hSw; (try dsimp only at hSw); (go_simp) <;> first | omega | (intro h; exfalso; omega)
      try simp only [Act.put, List.setIfInBounds_toArray, List.set_cons_zero, List.set_cons_succ]
      refine takeH (i := 3) (n := 31) (v := .string ((D.extract 0 q) ++ ⟨#[46]⟩)) rfl rfl (by kernel_rfl) (by kernel_rfl) (by kernel_rfl) (fun _ _ _ h => h) (Or.inl ⟨by kernel_rfl, ?_⟩) (by assumption) ?_
      · intro w hSw; (try dsimp only at hSw); (go_simp) <;> first | omega | (intro h; exfalso; omega)
      try simp only [Act.put, List.setIfInBounds_toArray, List.set_cons_zero, List.set_cons_succ]
      refine takeH (i := 4) (n := 32) (v := .string D) rfl rfl (by kernel_rfl) (by kernel_rfl) (by kernel_rfl) (fun _ _ _ h => h) (Or.inl ⟨by kernel_rfl, ?_⟩) (by assumption) ?_
      · intro w hSw; (try dsimp only at hSw); (go_simp) <;> first | omega | (intro h; exfalso; omega)
      try simp only [Act.put, List.setIfInBounds_toArray, List.set_cons_zero, List.set_cons_succ]
      refine takeH (i := 5) (n := 33) (v := .int .i64 (q : Int)) rfl rfl (by kernel_rfl) (by kernel_rfl) (by kernel_rfl) (fun _ _ _ h => h) (Or.inl ⟨by kernel_rfl, ?_⟩) (by assumption) ?_
      · intro w hSw; (try dsimp only at hSw); (go_simp) <;> first | omega | (intro h; exfalso; omega)
      try simp only [Act.put, List.setIfInBounds_toArray, List.set_cons_zero, List.set_cons_succ]
      refine takeH (i := 6) (n := 34) (v := .string (D.extract q D.size)) rfl rfl (by kernel_rfl) (by kernel_rfl) (by kernel_rfl) (fun _ _ _ h => h) (Or.inl ⟨by kernel_rfl, ?_⟩) (by assumption) ?_
      · intro w hSw; (try dsimp only at hSw); (go_simp) <;> first | omega | (intro h; exfalso; omega)
      try simp only [Act.put, List.setIfInBounds_toArray, List.set_cons_zero, List.set_cons_succ]
      refine takeH (i := 7) (n := 35) (v := .string ((D.extract 0 q) ++ ⟨#[46]⟩ ++ (D.extract q D.size))) rfl rfl (by kernel_rfl) (by kernel_rfl) (by kernel_rfl) (fun _ _ _ h => h) (Or.inl ⟨by kernel_rfl, ?_⟩) (by assumption) ?_
      · intro w hSw; (try dsimp only at hSw); (go_simp) <;> first | omega | (intro h; exfalso; omega)
      try simp only [Act.put, List.setIfInBounds_toArray, List.set_cons_zero, List.set_cons_succ]
      refine takeH (i := 8) (n := 4) (v := .string ((D.extract 0 q) ++ ⟨#[46]⟩ ++ (D.extract q D.size))) rfl rfl (by kernel_rfl) (by kernel_rfl) (by kernel_rfl) (fun _ _ _ h => h) (Or.inl ⟨by kernel_rfl, ?_⟩) (by assumption) ?_
      · intro w hSw; (try dsimp only at hSw); (go_simp) <;> first | omega | (intro h; exfalso; omega)
      try simp only [Act.put, List.setIfInBounds_toArray, List.set_cons_zero, List.set_cons_succ]
      refine wpAnyH_done (by kernel_rfl) ?_ _
      go_wp2_with fail
      exact bodyPost_ret (v := .string ((D.extract 0 q) ++ ⟨#[46]⟩ ++ (D.extract q D.size))) (by simp [results, Tryz.results41, go_sem]) rfl ⟨by rw [E3, show D.size - p = q from by omega], HB.out.drew⟩
end Go.Proofs.YtkggfeemjabdeaaGreatDoor.Wc
end
section
namespace Go.Proofs.YtkggfeemjabdeaaGreatDoor.Wc
open Go Go.Proofs.YtkggfeemjabdeaaGreatDoor.Sx Go.RowKit

theorem dec_len : ∀ k u, u < 10 ^ (k + 1) → (Lib.decDigits u).length ≤ k + 1
  | 0, u, h => by rw [decDigits_small (by simpa using h)]; simp
  | k + 1, u, h => by
    by_cases h0 : u < 10
    · rw [decDigits_small h0]; simp
    · rw [decDigits_big h0, List.length_append, List.length_singleton]
      have := dec_len k (u / 10) (Nat.div_lt_of_lt_mul (by rw [Nat.mul_comm, ← Nat.pow_succ]; exact h))
      omega
theorem dec_len_of {k n u : Nat} (hk : k + 1 = n) (h : u < 10 ^ n) : (Lib.decDigits u).length ≤ n := by
  subst hk
  exact dec_len k u h
theorem ble_lt {a b : Nat} (h : Nat.ble (a + 1) b = true) : a < b := Nat.le_of_ble_eq_true h
theorem pow1300 : Nat.ble (pow10 1300 + 1) Big = true := by kernel_rfl
theorem pow1300_lt : pow10 1300 < Big := ble_lt pow1300
theorem isZ_any (v : Value) (r : Nat) (w : World) (h : NatV w v r) :
    Calls Tryz.prog 42 #[v] w fun e w' => e = .returned (.bool (decide (r = 0))) ∧ w = w' := by
  obtain ⟨n, f, k1, k2, k3⟩ := h
  obtain ⟨a', cap, rfl⟩ := k1.shape
  rcases Nat.eq_zero_or_pos n with h0 | h0
  · subst h0
    have h3 : (0 : Nat) = r := k3
    rw [← h3]
    exact isZero_yes a' cap w
  · have hp := val_ge h0 (k2.top.resolve_left (by omega))
    have hp2 := Nat.pow_pos (n := n - 1) R64_pos
    have hn2 : n ≤ maxLen := by
      rcases k1 with ⟨-, h⟩ | ⟨_, _, c, h, h2, h3, -⟩
      · omega
      · omega
    rw [decide_eq_false (by omega)]
    exact isZero_no a' n cap hn2 h0 w

/-- What Decimal answers. -/
def decimS (p : P2) (k : Int) : ByteArray × ByteArray × Int :=
  if validP p.1 p.2 = true ∧ 0 ≤ k ∧ k ≤ 100 then
    (pointS (num p.1 * 10 ^ k.toNat / num p.2) k.toNat, pointS (num p.1 * 10 ^ k.toNat / num p.2 + (if num p.1 * 10 ^ k.toNat % num p.2 = 0 then 0 else 1)) k.toNat, 0)
  else (⟨#[]⟩, ⟨#[]⟩, 2)

set_option maxRecDepth 100000 in
set_option maxHeartbeats 1000000 in
theorem Decimal_any (p1 p2 : ByteArray) (k : Int) (w : World) (h1 : p1.size ≤ maxLen) (h2 : p2.size ≤ maxLen) (ht : Tens w) :
    Calls Tryz.prog 13 #[.agg #[.string p1, .string p2], .int .i64 k] w fun e w' => e = .returned (.tuple #[.string (decimS (p1, p2) k).1, .string (decimS (p1, p2) k).2.1, .int .i64 (decimS (p1, p2) k).2.2]) ∧ Below w.heap.size w w' := by
  obtain ⟨W1, hW1⟩ : ∃ W, W = w.alloc (.cells #[.string p1, .string p2] 24) := ⟨_, rfl⟩
  have b01 : Below w.heap.size w W1 := by rw [hW1]; exact (Below.refl _ _).alloc (Nat.le_refl _) _
  have e1 : W1.heap[w.heap.size]? = some (partO p1 p2) := by rw [hW1]; exact Go.Deep.blk_alloc_new _ _
  obtain ⟨y0, y1, y2⟩ := part_at e1
  have ht1 : Tens W1 := fun j hj => cell_later b01 (ht j hj)
  have HO := Lib.hid (open_any p1 p2 W1 h1 h2 ht1)
  have HW1 := Lib.hid hW1; have HB1 := Lib.hid b01; have HE1 := Lib.hid e1; have HT := Lib.hid ht1
  clear hW1 b01 e1 ht ht1
  go_enter Tryz.func13, Tryz.ntmps13
  go_wp2_with fail
  rw [← HW1.out]
  go_wp2_with fail
  refine HO.out.mono ?_
  rintro e w2 ⟨hb2, hv, hn⟩
  have HB2 := Lib.hid (HB1.out.trans (hb2.mono HB1.out.size))
  have HT2 : Hid (Tens w2) := Lib.hid (fun j hj => cell_later hb2 (HT.out j hj))
  clear hb2
  cases hok : validP p1 p2 with
  | false =>
    have hn := hn hok
    subst hn
    clear hv
    have e5 : decimS (p1, p2) k = (⟨#[]⟩, ⟨#[]⟩, 2) := by unfold decimS; rw [hok]; simp
    have E5 := Lib.hid e5
    clear e5
    go_wp2_with fail
    exact bodyPost_ret (v := .tuple #[.string ⟨#[]⟩, .string ⟨#[]⟩, .int .i64 2]) (by simp [results, Tryz.results13, go_sem]) rfl ⟨by rw [E5.out], HB2.out.alloc HB2.out.size _⟩
  | true =>
    obtain ⟨u1, u2, rfl, hu1, hu2, -, -⟩ := hv hok
    clear hn
    obtain ⟨W3, hW3⟩ : ∃ W, W = w2.alloc (.cells #[u1, u2] 62) := ⟨_, rfl⟩
    have b23 : Below w2.heap.size w2 W3 := by rw [hW3]; exact (Below.refl _ _).alloc (Nat.le_refl _) _
    have e3 : W3.heap[w2.heap.size]? = some (.cells #[u1, u2] 62 (0, 0)) := by rw [hW3]; exact Go.Deep.blk_alloc_new _ _
    have hlt : w2.heap.size < W3.heap.size := (Array.getElem?_eq_some_iff.1 e3).1
    have q0 := set_cells e3 0; have q1 := set_cells e3 1
    simp only [List.getElem?_toArray, List.getElem?_cons_zero, List.getElem?_cons_succ] at q0 q1
    have hs : ∀ W, Below W3.heap.size W3 W → W.cell? ⟨w2.heap.size, 0, none⟩ = some u1 ∧ W.cell? ⟨w2.heap.size, 1, none⟩ = some u2 := fun W hb => ⟨cell_later hb q0, cell_later hb q1⟩
    have HS := Lib.hid hs
    have HU1 : Hid (∀ W, Below W3.heap.size W3 W → NatV W u1 (num p1)) := Lib.hid fun W hb => (hu1.below b23).below hb
    have HU2 : Hid (∀ W, Below W3.heap.size W3 W → NatV W u2 (num p2)) := Lib.hid fun W hb => (hu2.below b23).below hb
    have HT3 : Hid (∀ W, Below W3.heap.size W3 W → Tens W) := Lib.hid fun W hb j hj => cell_later hb (cell_later b23 (HT2.out j hj))
    have HB3 := Lib.hid (HB2.out.trans (b23.mono HB2.out.size)); have HW3 := Lib.hid hW3
    have hF := valid_frt hok
    have HFR := Lib.hid hF
    have HOK := Lib.hid hok
    obtain ⟨n1, g1, i1, -, -⟩ := hu1
    obtain ⟨n2, g2, i2, -, -⟩ := hu2
    obtain ⟨a1, c1, r1⟩ := i1.shape
    obtain ⟨a2, c2, r2⟩ := i2.shape
    subst r1 r2
    clear i1 i2 hv hok hW3 b23 e3 hlt q0 q1 hs hF HT2
    by_cases hk : 0 ≤ k ∧ k ≤ 100
    · obtain ⟨hk0, hk1⟩ := hk
      obtain ⟨m, rfl⟩ : ∃ m : Nat, k = (m : Int) := ⟨k.toNat, by omega⟩
      have hm : m ≤ 100 := by omega
      have HPW : Hid (∀ W, Below W3.heap.size W3 W → Calls Tryz.prog 39 #[.int .i64 m] W (RetNatOwn (10 ^ m) W)) := Lib.hid fun W hb => powerOfTen_any m W (by omega) (HT3.out W hb)
      haveI := tb_one HFR.out.n
      have HN : Hid (num p1 < Big) := Lib.hid tb_big
      have HP : Hid (10 ^ m < Big) := Lib.hid (Nat.lt_of_le_of_lt (Nat.pow_le_pow_right (by decide) hm) (Nat.le_of_ble_eq_true (n := 10 ^ 100 + 1) (by kernel_rfl)))
      have hX : num p1 * 10 ^ m < Big := Nat.lt_of_lt_of_le (Nat.mul_lt_mul_of_lt_of_le HFR.out.n (Nat.pow_le_pow_right (by decide) hm) (by exact Nat.pow_pos (by decide))) (Nat.le_of_ble_eq_true (by kernel_rfl))
      have HX := Lib.hid hX
      have hq7 : num p1 * 10 ^ m / num p2 < 10 ^ 700 := Nat.lt_of_le_of_lt (Nat.div_le_self _ _) (Nat.lt_of_lt_of_le (Nat.mul_lt_mul_of_lt_of_le HFR.out.n (Nat.pow_le_pow_right (by decide) hm) (by exact Nat.pow_pos (by decide))) (Nat.le_of_ble_eq_true (by kernel_rfl)))
      have hq8 : num p1 * 10 ^ m / num p2 + 1 < 10 ^ 701 := Nat.lt_of_lt_of_le (Nat.succ_lt_succ hq7) (Nat.le_of_ble_eq_true (by kernel_rfl))
      have HQB : Hid (num p1 * 10 ^ m / num p2 < Big) := Lib.hid (Nat.lt_of_lt_of_le hq7 (Nat.le_of_ble_eq_true (by kernel_rfl)))
      have HQB2 : Hid (num p1 * 10 ^ m / num p2 + 1 < Big) := Lib.hid (Nat.lt_of_lt_of_le hq8 (Nat.le_of_ble_eq_true (by kernel_rfl)))
      have HQL : Hid ((Lib.decDigits (num p1 * 10 ^ m / num p2)).length ≤ 10000) := Lib.hid (Nat.le_trans (dec_len_of (k := 699) (n := 700) rfl hq7) (by decide))
      have HQL2 : Hid ((Lib.decDigits (num p1 * 10 ^ m / num p2 + 1)).length ≤ 10000) := Lib.hid (Nat.le_trans (dec_len_of (k := 700) (n := 701) rfl hq8) (by decide))
      clear hq7 hq8
      have HD0 : Hid (0 < num p2) := Lib.hid HFR.out.fr.pos
      have hk2 : ¬ (m : Int) < 0 := by omega
      have hk3 : ¬ (100 : Int) < (m : Int) := by omega
      clear hX
      go_upto_region 4 with fail
      try rw [← HW3.out]
      refine wp_region_held_drew (S := fun W' => W'.cell? ⟨w2.heap.size, 0, none⟩ = some (.slice a1 n1 c1) ∧ W'.cell? ⟨w2.heap.size, 1, none⟩ = some (.slice a2 n2 c2)) (by kernel_rfl) (HS.out _ (Below.refl _ _).drew) (fun hHeld => ?_)
      refine takeH (i := 0) (n := 26) (v := .pointer (some ⟨w2.heap.size, 0, none⟩)) rfl rfl (by kernel_rfl) (by kernel_rfl) (by kernel_rfl) (fun _ _ _ h => h) (Or.inl ⟨by kernel_rfl, ?_⟩) (by assumption) ?_
      · intro w hSw; (try dsimp only at hSw); go_simp
      try simp only [Act.put, List.setIfInBounds_toArray, List.set_cons_zero, List.set_cons_succ]
      refine takeH (i := 1) (n := 27) (v := .slice a1 n1 c1) rfl rfl (by kernel_rfl) (by kernel_rfl) (by kernel_rfl) (fun _ _ _ h => h) (Or.inl ⟨by kernel_rfl, ?_⟩) (by assumption) ?_
      · intro w hSw; (try dsimp only at hSw); go_simp
      try simp only [Act.put, List.setIfInBounds_toArray, List.set_cons_zero, List.set_cons_succ]
      refine takeH (i := 2) (n := 28) (v := .int .i64 (m : Int)) rfl rfl (by kernel_rfl) (by kernel_rfl) (by kernel_rfl) (fun _ _ _ h => h) (Or.inl ⟨by kernel_rfl, ?_⟩) (by assumption) ?_
      · intro w hSw; (try dsimp only at hSw); go_simp
      try simp only [Act.put, List.setIfInBounds_toArray, List.set_cons_zero, List.set_cons_succ]
      refine takeH (i := 5) (n := 31) (v := .pointer (some ⟨w2.heap.size, 1, none⟩)) rfl rfl (by kernel_rfl) (by kernel_rfl) (by kernel_rfl) (fun _ _ _ h => h) (Or.inl ⟨by kernel_rfl, ?_⟩) (by assumption) ?_
      · intro w hSw; (try dsimp only at hSw); go_simp
      try simp only [Act.put, List.setIfInBounds_toArray, List.set_cons_zero, List.set_cons_succ]
      refine takeH (i := 6) (n := 32) (v := .slice a2 n2 c2) rfl rfl (by kernel_rfl) (by kernel_rfl) (by kernel_rfl) (fun _ _ _ h => h) (Or.inl ⟨by kernel_rfl, ?_⟩) (by assumption) ?_
      · intro w hSw; (try dsimp only at hSw); go_simp
      try simp only [Act.put, List.setIfInBounds_toArray, List.set_cons_zero, List.set_cons_succ]
      refine wpAnyH_ready (rs := [3]) (by kernel_rfl) (by simp) ?_
      refine AllReadyH.cons rfl (fun K hK => ?_) AllReadyH.nil
      try rw [if_pos (by kernel_rfl)]
      try go_simp
      go_at_call 39
      refine (HPW.out _ (Below.refl _ _).drew).mono ?_
      rintro e w4 ⟨v4, rfl, hv4, hb4⟩
      have hB4 := below_chain (W := W3) (Below.refl _ _).drew hb4
      have HV4 := Lib.hid hv4.natV
      refine hK.out _ _ (HS.out _ hB4) (fun hHeld => ?_)
      clear hK K
      try simp only [Act.put, List.setIfInBounds_toArray, List.set_cons_zero, List.set_cons_succ]
      refine wpAnyH_ready (rs := [4]) (by kernel_rfl) (by simp) ?_
      refine AllReadyH.cons rfl (fun K hK => ?_) AllReadyH.nil
      try rw [if_pos (by kernel_rfl)]
      try go_simp
      go_at_call 38
      refine (times_any _ _ _ _ _ (HU1.out _ hB4) HV4.out HN.out HP.out).mono ?_
      rintro e w5 ⟨v5, rfl, hv5, hb5⟩
      have hB5 := below_chain hB4 hb5
      have HV5 := Lib.hid hv5.natV
      refine hK.out _ _ (HS.out _ hB5) (fun hHeld => ?_)
      clear hK K
      try simp only [Act.put, List.setIfInBounds_toArray, List.set_cons_zero, List.set_cons_succ]
      refine wpAnyH_ready (rs := [7]) (by kernel_rfl) (by simp) ?_
      refine AllReadyH.cons rfl (fun K hK => ?_) AllReadyH.nil
      try rw [if_pos (by kernel_rfl)]
      try go_simp
      go_at_call 40
      refine (divide_any _ _ _ _ _ HV5.out (HU2.out _ hB5) HX.out HD0.out).mono ?_
      rintro e w6 ⟨v6, v7, rfl, hv6, hv7, hb6, -, -⟩
      have HB6 := Lib.hid (below_chain hB5 hb6)
      have HV6 := Lib.hid hv6; have HV7 := Lib.hid hv7
      clear hv6 hv7
      refine hK.out _ _ (HS.out _ HB6.out) (fun hHeld => ?_)
      clear hK K
      try simp only [Act.put, List.setIfInBounds_toArray, List.set_cons_zero, List.set_cons_succ]
      refine takeH (i := 8) (n := 25) (v := .tuple #[v6, v7]) rfl rfl (by kernel_rfl) (by kernel_rfl) (by kernel_rfl) (fun _ _ _ h => h) (Or.inl ⟨by kernel_rfl, ?_⟩) (by assumption) ?_
      · intro w hSw; (try dsimp only at hSw); go_simp
      try simp only [Act.put, List.setIfInBounds_toArray, List.set_cons_zero, List.set_cons_succ]
      refine takeH (i := 9) (n := 34) (v := v6) rfl rfl (by kernel_rfl) (by kernel_rfl) (by kernel_rfl) (fun _ _ _ h => h) (Or.inl ⟨by kernel_rfl, ?_⟩) (by assumption) ?_
      · intro w hSw; (try dsimp only at hSw); go_simp
      try simp only [Act.put, List.setIfInBounds_toArray, List.set_cons_zero, List.set_cons_succ]
      refine takeH (i := 10) (n := 35) (v := v7) rfl rfl (by kernel_rfl) (by kernel_rfl) (by kernel_rfl) (fun _ _ _ h => h) (Or.inl ⟨by kernel_rfl, ?_⟩) (by assumption) ?_
      · intro w hSw; (try dsimp only at hSw); go_simp
      try simp only [Act.put, List.setIfInBounds_toArray, List.set_cons_zero, List.set_cons_succ]
      refine takeH (i := 11) (n := 8) (v := v6) rfl rfl (by kernel_rfl) (by kernel_rfl) (by kernel_rfl) (fun _ _ _ h => h) (Or.inl ⟨by kernel_rfl, ?_⟩) (by assumption) ?_
      · intro w hSw; (try dsimp only at hSw); go_simp
      try simp only [Act.put, List.setIfInBounds_toArray, List.set_cons_zero, List.set_cons_succ]
      refine takeH (i := 12) (n := 9) (v := v7) rfl rfl (by kernel_rfl) (by kernel_rfl) (by kernel_rfl) (fun _ _ _ h => h) (Or.inl ⟨by kernel_rfl, ?_⟩) (by assumption) ?_
      · intro w hSw; (try dsimp only at hSw); go_simp
      try simp only [Act.put, List.setIfInBounds_toArray, List.set_cons_zero, List.set_cons_succ]
      refine wpAnyH_done (by kernel_rfl) ?_ _
      go_wp2_with fail
      refine (pointed_any _ m v6 w6 HV6.out HQB.out HQL.out (by omega) (HT3.out _ HB6.out)).mono ?_
      rintro e w7 ⟨rfl, hb7⟩
      have HB7 := Lib.hid (below_chain HB6.out hb7)
      have HV67 := Lib.hid (HV6.out.below hb7); have HV77 := Lib.hid (HV7.out.below hb7)
      clear hb7
      have HZ := Lib.hid (isZ_any v7 _ w7 HV77.out)
      by_cases hz : num p1 * 10 ^ m % num p2 = 0
      · rw [hz] at HZ
        have e5 : decimS (p1, p2) (m : Int) = (pointS (num p1 * 10 ^ m / num p2) m, pointS (num p1 * 10 ^ m / num p2) m, 0) := by unfold decimS; rw [if_pos ⟨HOK.out, hk0, hk1⟩]; simp only [Int.toNat_natCast, hz, if_true, Nat.add_zero]
        have E5 := Lib.hid e5
        clear e5
        obtain ⟨S1, hS1⟩ : ∃ S1, pointS (num p1 * 10 ^ m / num p2) m = S1 := ⟨_, rfl⟩
        rw [hS1] at E5; rw [hS1]; clear hS1
        go_wp2_with fail
        refine HZ.out.mono ?_
        rintro e w8 ⟨rfl, rfl⟩
        go_wp2_with fail
        exact bodyPost_ret (v := .tuple #[.string S1, .string S1, .int .i64 0]) (by simp [results, Tryz.results13, go_sem]) rfl ⟨by rw [E5.out], HB3.out.trans (HB7.out.mono HB3.out.size)⟩
      · have hzd : decide (num p1 * 10 ^ m % num p2 = 0) = false := decide_eq_false hz
        rw [hzd] at HZ
        have e5 : decimS (p1, p2) (m : Int) = (pointS (num p1 * 10 ^ m / num p2) m, pointS (num p1 * 10 ^ m / num p2 + 1) m, 0) := by unfold decimS; rw [if_pos ⟨HOK.out, hk0, hk1⟩]; simp only [Int.toNat_natCast]; rw [if_neg hz]
        have E5 := Lib.hid e5
        clear e5
        obtain ⟨S1, hS1⟩ : ∃ S1, pointS (num p1 * 10 ^ m / num p2) m = S1 := ⟨_, rfl⟩
        rw [hS1] at E5; rw [hS1]; clear hS1
        obtain ⟨S2, hS2⟩ : ∃ S2, pointS (num p1 * 10 ^ m / num p2 + 1) m = S2 := ⟨_, rfl⟩
        have HS2 := Lib.hid hS2
        rw [hS2] at E5; clear hS2
        clear hz hzd
        go_wp2_with fail
        refine HZ.out.mono ?_
        rintro e w8 ⟨rfl, rfl⟩
        go_wp2_with fail
        refine (ofWord_any 1 (by decide) w7).mono ?_
        rintro e w9 ⟨v9, rfl, hv9, hb9⟩
        have HB9 := Lib.hid (below_chain HB7.out hb9); have HV69 := Lib.hid (HV67.out.below hb9); have HV9 := Lib.hid hv9
        clear hb9 hv9
        go_wp2_with fail
        refine (plus_any _ _ _ _ w9 HV69.out HV9.out HQB.out (by exact Nat.le_of_ble_eq_true (n := 2) (by kernel_rfl))).mono ?_
        rintro e wa ⟨va, rfl, hva, hba⟩
        have HBa := Lib.hid (below_chain HB9.out hba); have HVa := Lib.hid hva.natV
        clear hba hva
        go_wp2_with fail
        refine (pointed_any _ m va wa HVa.out HQB2.out HQL2.out (by omega) (HT3.out _ HBa.out)).mono ?_
        rintro e wb ⟨rfl, hbb⟩
        rw [HS2.out]
        have HBb := Lib.hid (below_chain HBa.out hbb)
        clear hbb
        go_wp2_with fail
        exact bodyPost_ret (v := .tuple #[.string S1, .string S2, .int .i64 0]) (by simp [results, Tryz.results13, go_sem]) rfl ⟨by rw [E5.out], HB3.out.trans (HBb.out.mono HB3.out.size)⟩
    · have e5 : decimS (p1, p2) k = (⟨#[]⟩, ⟨#[]⟩, 2) := by unfold decimS; rw [if_neg (fun h => hk h.2)]
      have E5 := Lib.hid e5
      clear e5
      by_cases hk0 : k < 0
      · go_wp2_with fail
        rw [← HW3.out]
        exact bodyPost_ret (v := .tuple #[.string ⟨#[]⟩, .string ⟨#[]⟩, .int .i64 2]) (by simp [results, Tryz.results13, go_sem]) rfl ⟨by rw [E5.out], HB3.out⟩
      · have hk1 : 100 < k := by omega
        go_wp2_with fail
        rw [← HW3.out]
        exact bodyPost_ret (v := .tuple #[.string ⟨#[]⟩, .string ⟨#[]⟩, .int .i64 2]) (by simp [results, Tryz.results13, go_sem]) rfl ⟨by rw [E5.out], HB3.out⟩
end Go.Proofs.YtkggfeemjabdeaaGreatDoor.Wc
end
section
namespace Go.Proofs.YtkggfeemjabdeaaGreatDoor.Wc
open Go Go.Proofs.YtkggfeemjabdeaaGreatDoor.Sx Go.RowKit

set_option maxRecDepth 100000 in
set_option maxHeartbeats 1000000 in
theorem readDec_clo (digits places : ByteArray) (p q : Nat) (w : World) (hp : w.cell? ⟨p, 0, none⟩ = some (.string digits)) (hq : w.cell? ⟨q, 0, none⟩ = some (.string places)) (hd : ∀ j, j < digits.size → Dig (digits.get! j)) (hn : num digits < T600) (hs : digits.size ≤ 600) (hl : places.size ≤ 1300) (ht : Tens w) :
    Calls Tryz.prog 76 #[.pointer (some ⟨p, 0, none⟩), .pointer (some ⟨q, 0, none⟩)] w (CloP (low (num digits) (10 ^ places.size)) w) := by
  obtain ⟨W, hW⟩ : ∃ W, W = w.alloc (.cells #[.string ⟨#[]⟩, .string ⟨#[]⟩] 24) := ⟨_, rfl⟩
  have hB : Below w.heap.size w W := by rw [hW]; exact (Below.refl _ _).alloc (Nat.le_refl _) _
  have hA0 : W.heap[w.heap.size]? = some (.cells #[.string ⟨#[]⟩, .string ⟨#[]⟩] 24 (0, 0)) := by rw [hW]; exact Go.Deep.blk_alloc_new _ _
  have HT : Hid (∀ W', Below W.heap.size W W' → Tens W') := Lib.hid fun W' hb j hj => cell_later hb (cell_later hB (ht j hj))
  have HSw : Hid (∀ W', Below w.heap.size w W' → W'.cell? ⟨p, 0, none⟩ = some (.string digits) ∧ W'.cell? ⟨q, 0, none⟩ = some (.string places)) := Lib.hid fun W' hb => ⟨cell_later hb hp, cell_later hb hq⟩
  have HS : Hid (∀ W', Below W.heap.size W W' → W'.cell? ⟨p, 0, none⟩ = some (.string digits) ∧ W'.cell? ⟨q, 0, none⟩ = some (.string places)) := Lib.hid fun W' hb => HSw.out W' (hB.trans (hb.mono hB.size))
  have HB := Lib.hid hB; have HA0 := Lib.hid hA0; have HD := Lib.hid hd
  haveI := tb_one hn
  have HX : Hid (num digits < Big) := Lib.hid tb_big
  have HY : Hid (10 ^ places.size < Big) := Lib.hid (Nat.lt_of_le_of_lt (pow10_le hl) pow1300_lt)
  have HY0 : Hid (0 < 10 ^ places.size) := Lib.hid (Nat.pow_pos (by decide))
  have HFr : Hid (Fr (low (num digits) (10 ^ places.size))) := Lib.hid (low_fr HY0.out)
  have HLX : Hid ((low (num digits) (10 ^ places.size)).1 < Big) := Lib.hid (Nat.lt_of_le_of_lt (Nat.div_le_self _ _) HX.out)
  have HLY : Hid ((low (num digits) (10 ^ places.size)).2 < Big) := Lib.hid (Nat.lt_of_le_of_lt (Nat.div_le_self _ _) HY.out)
  have HW := Lib.hid hW
  clear hW hB hA0 hd hp hq ht
  go_enter Tryz.func76, Tryz.ntmps76
  go_upto_region 1 with fail
  rw [← HW.out]
  refine wp_region_held_drew (S := fun W' => W'.cell? ⟨p, 0, none⟩ = some (.string digits) ∧ W'.cell? ⟨q, 0, none⟩ = some (.string places)) (by kernel_rfl) (HS.out _ (Below.refl _ _).drew) (fun hHeld => ?_)
  refine takeH (i := 0) (n := 3) (v := .string digits) rfl rfl (by kernel_rfl) (by kernel_rfl) (by kernel_rfl) (fun _ _ _ h => h) (Or.inl ⟨by kernel_rfl, ?_⟩) (by assumption) ?_
  · intro w hSw; (try dsimp only at hSw); go_simp
  try simp only [Act.put, List.setIfInBounds_toArray, List.set_cons_zero, List.set_cons_succ]
  refine takeH (i := 2) (n := 5) (v := .string places) rfl rfl (by kernel_rfl) (by kernel_rfl) (by kernel_rfl) (fun _ _ _ h => h) (Or.inl ⟨by kernel_rfl, ?_⟩) (by assumption) ?_
  · intro w hSw; (try dsimp only at hSw); go_simp
  try simp only [Act.put, List.setIfInBounds_toArray, List.set_cons_zero, List.set_cons_succ]
  refine takeH (i := 3) (n := 6) (v := .int .i64 (places.size : Int)) rfl rfl (by kernel_rfl) (by kernel_rfl) (by kernel_rfl) (fun _ _ _ h => h) (Or.inl ⟨by kernel_rfl, ?_⟩) (by assumption) ?_
  · intro w hSw; (try dsimp only at hSw); go_simp
  try simp only [Act.put, List.setIfInBounds_toArray, List.set_cons_zero, List.set_cons_succ]
  refine wpAnyH_ready (rs := [1]) (by kernel_rfl) (by simp) ?_
  refine AllReadyH.cons rfl (fun K hK => ?_) AllReadyH.nil
  try rw [if_pos (by kernel_rfl)]
  try go_simp
  go_at_call 31
  refine (parse_any digits _ (by omega) HD.out (HT.out _ (Below.refl _ _).drew)).mono ?_
  rintro e w1 ⟨v1, rfl, hv1, hb1⟩
  have HB1 := Lib.hid (below_chain (W := W) (Below.refl _ _).drew hb1)
  rw [dv_num] at hv1
  have HV1 := Lib.hid hv1.natV
  clear hv1 hb1
  refine hK.out _ _ (HS.out _ HB1.out) (fun hHeld => ?_)
  clear hK K
  try simp only [Act.put, List.setIfInBounds_toArray, List.set_cons_zero, List.set_cons_succ]
  refine wpAnyH_ready (rs := [4]) (by kernel_rfl) (by simp) ?_
  refine AllReadyH.cons rfl (fun K hK => ?_) AllReadyH.nil
  try rw [if_pos (by kernel_rfl)]
  try go_simp
  go_at_call 39
  refine (powerOfTen_any places.size _ (by omega) (HT.out _ HB1.out)).mono ?_
  rintro e w2 ⟨v2, rfl, hv2, hb2⟩
  have HB2 := Lib.hid (below_chain HB1.out hb2)
  have HV2 := Lib.hid hv2.natV; have HV12 := Lib.hid (HV1.out.below hb2)
  clear hv2 hb2
  refine hK.out _ _ (HS.out _ HB2.out) (fun hHeld => ?_)
  clear hK K
  try simp only [Act.put, List.setIfInBounds_toArray, List.set_cons_zero, List.set_cons_succ]
  refine wpAnyH_ready (rs := [5]) (by kernel_rfl) (by simp) ?_
  refine AllReadyH.cons rfl (fun K hK => ?_) AllReadyH.nil
  try rw [if_pos (by kernel_rfl)]
  try go_simp
  go_at_call 30
  refine (lowest_any _ _ v1 v2 w2 HV12.out HV2.out HX.out HY.out HY0.out (HT.out _ HB2.out)).mono ?_
  rintro e w3 ⟨hb3, g1, -⟩
  obtain ⟨u1, u2, rfl, n1, n2, -, -⟩ := g1 rfl
  have HB3 := Lib.hid (below_chain HB2.out hb3)
  have N1 := Lib.hid n1; have N2 := Lib.hid n2
  clear g1 hb3 n1 n2
  refine hK.out _ _ (HS.out _ HB3.out) (fun hHeld => ?_)
  clear hK K
  try simp only [Act.put, List.setIfInBounds_toArray, List.set_cons_zero, List.set_cons_succ]
  refine wpAnyH_ready (rs := [6]) (by kernel_rfl) (by simp) ?_
  refine AllReadyH.cons rfl (fun K hK => ?_) AllReadyH.nil
  try rw [if_pos (by kernel_rfl)]
  try go_simp
  go_at_call 77
  refine (fitting_any _ _ u1 u2 w3 N1.out N2.out HLX.out HLY.out (HT.out _ HB3.out)).mono ?_
  rintro e w4 ⟨hb4, g1, g2⟩
  have G1 := Lib.hid g1; have G2 := Lib.hid g2; have HB4 := Lib.hid (below_chain HB3.out hb4)
  clear g1 g2
  cases hf : fitsF ((low (num digits) (10 ^ places.size)).1, (low (num digits) (10 ^ places.size)).2) with
  | false =>
    obtain rfl := G2.out hf
    exact ⟨rfl, HB.out.trans (HB4.out.mono HB.out.size), (fun h => Bool.noConfusion (hf.symm.trans h)), fun _ => rfl⟩
  | true =>
    obtain ⟨u3, u4, rfl, n1, n2, -, -⟩ := G1.out hf
    have N3 := Lib.hid n1; have N4 := Lib.hid n2; have HF := Lib.hid hf
    clear n1 n2 hf hb4 G1 G2
    refine hK.out _ _ (HS.out _ HB4.out) (fun hHeld => ?_)
    clear hK K
    try simp only [Act.put, List.setIfInBounds_toArray, List.set_cons_zero, List.set_cons_succ]
    refine wpAnyH_ready (rs := [7]) (by kernel_rfl) (by simp) ?_
    refine AllReadyH.cons rfl (fun K hK => ?_) AllReadyH.nil
    try rw [if_pos (by kernel_rfl)]
    try go_simp
    go_at_call 32
    refine (part_rat (low (num digits) (10 ^ places.size)) u3 u4 w4 N3.out N4.out (fits_frt HFr.out HF.out) (HT.out _ HB4.out)).mono ?_
    rintro e w5 ⟨rfl, hb5⟩
    have HB5 := Lib.hid (below_chain HB4.out hb5)
    have hA2 := (HB5.out.block _ (Array.getElem?_eq_some_iff.1 HA0.out).1).trans HA0.out
    clear hb5
    refine hK.out _ _ (HS.out _ HB5.out) (fun hHeld => ?_)
    clear hK K
    try simp only [Act.put, List.setIfInBounds_toArray, List.set_cons_zero, List.set_cons_succ]
    refine wpAnyH_ready (rs := [8]) (by kernel_rfl) (by simp) ?_
    refine AllReadyH.cons rfl (fun K hK => ?_) AllReadyH.nil
    try rw [if_pos (by kernel_rfl)]
    have c0 : w5.cell? ⟨w.heap.size, 0, none⟩ = some (.string ⟨#[]⟩) := by simp [World.cell?, hA2]
    have c1 : w5.cell? ⟨w.heap.size, 1, none⟩ = some (.string ⟨#[]⟩) := by simp [World.cell?, hA2]
    have f0 : w5.frozen? ⟨w.heap.size, 0, none⟩ = false := by simp [World.frozen?, hA2]
    have f1 : w5.frozen? ⟨w.heap.size, 1, none⟩ = false := by simp [World.frozen?, hA2]
    clear hA2
    generalize hd1 : dec (low (num digits) (10 ^ places.size)).1 = d1
    generalize hd2 : dec (low (num digits) (10 ^ places.size)).2 = d2
    have HD1 := Lib.hid hd1; have HD2 := Lib.hid hd2
    clear hd1 hd2
    go_simp
    have hz : Below w.heap.size w ((w5.setCell ⟨w.heap.size, 0, none⟩ (.string d1)).setCell ⟨w.heap.size, 1, none⟩ (.string d2)) := ((HB.out.trans (HB5.out.mono HB.out.size)).setCell (p := ⟨w.heap.size, 0, none⟩) (Nat.le_refl _) _).setCell (p := ⟨w.heap.size, 1, none⟩) (Nat.le_refl _) _
    have r0 := World.cell?_setCell_same w5 ⟨w.heap.size, 0, none⟩ (.string d1) c0
    have r1 := World.cell?_setCell_same (w5.setCell ⟨w.heap.size, 0, none⟩ (.string d1)) ⟨w.heap.size, 1, none⟩ (.string d2) (by rw [World.cell?_setCell_other (h := by intro e; injection e with _ e; cases e)]; exact c1)
    have HZ := Lib.hid hz; have HR0 := Lib.hid r0; have HR1 := Lib.hid r1
    clear hz r0 r1
    refine hK.out _ _ (HSw.out _ HZ.out) (fun hHeld => ?_)
    clear hK K
    try simp only [Act.put, List.setIfInBounds_toArray, List.set_cons_zero, List.set_cons_succ]
    refine wpAnyH_done (by kernel_rfl) ?_ _
    go_wp2_with fail
    have r0 := HR0.out; have r1 := HR1.out
    exact bodyPost_ret (v := .agg #[.string d1, .string d2]) (by simp [results, r0, r1, Tryz.results76, go_sem]) rfl ⟨HZ.out, fun _ => by rw [HD1.out, HD2.out], (fun h => Bool.noConfusion (HF.out.symm.trans h))⟩
end Go.Proofs.YtkggfeemjabdeaaGreatDoor.Wc
end
section
namespace Go.Proofs.YtkggfeemjabdeaaGreatDoor.Wc
open Go Go.Proofs.YtkggfeemjabdeaaGreatDoor.Sx Go.RowKit

/-- a text without the zeros in front. -/
def strip (s : ByteArray) : ByteArray := ⟨(Lib.trimLeftB s.data.toList 48).toArray⟩
/-- What readDecimal answers. -/
def rdecS (a b : ByteArray) : P2 × Int :=
  if isNum a && isDigs b then
    (if 600 < (strip (a ++ b)).size then (emptyP, 4) else
      if fitsF (low (num (strip (a ++ b))) (10 ^ b.size)) then ((dec (low (num (strip (a ++ b))) (10 ^ b.size)).1, dec (low (num (strip (a ++ b))) (10 ^ b.size)).2), 0) else (emptyP, 4))
  else (emptyP, 5)

theorem dig_all {s : ByteArray} (h : s.data.toList.all digB = true) : ∀ j, j < s.size → Dig (s.get! j) := fun j hj => by
  have h1 := List.all_eq_true.1 h (s.data[j]) (by simp)
  show Dig (s.data[j]!)
  rw [getElem!_pos s.data j hj]
  simp only [digB, Bool.and_eq_true, decide_eq_true_eq] at h1
  unfold Dig
  omega
theorem strip_all {s : ByteArray} (h : s.data.toList.all digB = true) : (strip s).data.toList.all digB = true := by
  rw [List.all_eq_true] at h ⊢
  intro x hx
  exact h x ((List.dropWhile_suffix _).subset (by simpa [strip, Lib.trimLeftB] using hx))
theorem strip_size (s : ByteArray) : (strip s).size ≤ s.size := by
  show (Lib.trimLeftB s.data.toList 48).toArray.size ≤ s.data.size
  rw [List.size_toArray, ← Array.length_toList]
  exact (List.dropWhile_suffix _).length_le
theorem all_digs {s : ByteArray} (h : isDigs s = true) : s.data.toList.all digB = true := by
  unfold isDigs at h
  simp only [Bool.and_eq_true] at h
  first | exact h.1 | exact h.2
theorem all_app {a b : ByteArray} (ha : a.data.toList.all digB = true) (hb : b.data.toList.all digB = true) : (a ++ b).data.toList.all digB = true := by
  simp [ByteArray.data_append, ha, hb]
theorem num_600 {s : ByteArray} (h : s.data.toList.all digB = true) (hs : s.size ≤ 600) : num s < T600 := by
  refine Nat.lt_of_lt_of_le (numL_lt _ h) (Nat.le_trans (Nat.pow_le_pow_right (by decide) (?_ : _ ≤ 600)) (Nat.le_of_ble_eq_true (by kernel_rfl)))
  rw [Array.length_toList]; exact hs

set_option maxRecDepth 100000 in
set_option maxHeartbeats 1000000 in
theorem readDecimal_any (a b : ByteArray) (w : World) (ha : a.size ≤ 1300) (hb : b.size ≤ 1300) (ht : Tens w) :
    Calls Tryz.prog 35 #[.string a, .string b] w fun e w' => e = .returned (retV (rdecS a b)) ∧ Below w.heap.size w w' := by
  obtain ⟨W0, hW0⟩ : ∃ W, W = w.alloc (.cells #[.string b] 9) := ⟨_, rfl⟩
  obtain ⟨W1, hW1⟩ : ∃ W, W = W0.alloc (.cells #[.string ⟨#[]⟩, .string ⟨#[]⟩] 24) := ⟨_, rfl⟩
  have b00 : Below w.heap.size w W0 := by rw [hW0]; exact (Below.refl _ _).alloc (Nat.le_refl _) _
  have b01 : Below W0.heap.size W0 W1 := by rw [hW1]; exact (Below.refl _ _).alloc (Nat.le_refl _) _
  have e0 : W0.heap[w.heap.size]? = some (.cells #[.string b] 9 (0, 0)) := by rw [hW0]; exact Go.Deep.blk_alloc_new _ _
  have e1 : W1.heap[W0.heap.size]? = some (.cells #[.string ⟨#[]⟩, .string ⟨#[]⟩] 24 (0, 0)) := by rw [hW1]; exact Go.Deep.blk_alloc_new _ _
  have hl0 : w.heap.size < W0.heap.size := (Array.getElem?_eq_some_iff.1 e0).1
  have k0 : W1.cell? ⟨w.heap.size, 0, none⟩ = some (.string b) := cell_later b01 (by simp [World.cell?, e0])
  have HNA := Lib.hid (isNumber_any a W1 (by show a.size ≤ 9223372036854775807; omega))
  have HDB := Lib.hid (isDigits_any b W1 (by show b.size ≤ 9223372036854775807; omega))
  have HB1 := Lib.hid (b00.trans (b01.mono (Nat.le_of_lt hl0)))
  have HE1 := Lib.hid e1; have HW0 := Lib.hid hW0; have HW1 := Lib.hid hW1
  have HT : Hid (Tens W1) := Lib.hid fun j hj => cell_later b01 (cell_later b00 (ht j hj))
  clear hW0 hW1 b00 b01 e0 e1 ht
  go_enter Tryz.func35, Tryz.ntmps35
  have e1w : W0.heap.size = w.heap.size + 1 := by rw [HW0.out]; simp
  have HEND : Hid (∀ (x y : ByteArray) (W : World), W.heap[w.heap.size + 1]? = some (.cells #[.string ⟨#[]⟩, .string ⟨#[]⟩] 24 (0, 0)) → Below w.heap.size w W →
      ((W.setCell ⟨w.heap.size + 1, 0, none⟩ (.string x)).setCell ⟨w.heap.size + 1, 1, none⟩ (.string y)).cell? ⟨w.heap.size + 1, 0, none⟩ = some (.string x) ∧ ((W.setCell ⟨w.heap.size + 1, 0, none⟩ (.string x)).setCell ⟨w.heap.size + 1, 1, none⟩ (.string y)).cell? ⟨w.heap.size + 1, 1, none⟩ = some (.string y) ∧ Below w.heap.size w ((W.setCell ⟨w.heap.size + 1, 0, none⟩ (.string x)).setCell ⟨w.heap.size + 1, 1, none⟩ (.string y))) := Lib.hid fun x y W hW hb => by
    have g0 := heap_setCell_same W (w.heap.size + 1) 0 _ _ (.string x) hW
    have g1 := heap_setCell_same _ (w.heap.size + 1) 1 _ _ (.string y) g0
    simp only [List.setIfInBounds_toArray, List.set_cons_zero, List.set_cons_succ] at g1
    have t0 := set_cells g1 0; have t1 := set_cells g1 1
    simp only [List.getElem?_toArray, List.getElem?_cons_zero, List.getElem?_cons_succ] at t0 t1
    exact ⟨t0, t1, (hb.setCell (p := ⟨w.heap.size + 1, 0, none⟩) (Nat.le_succ _) _).setCell (p := ⟨w.heap.size + 1, 1, none⟩) (Nat.le_succ _) _⟩
  have he1 := HE1.out
  rw [e1w] at he1
  have HE1 := Lib.hid he1
  have q0 := set_cells he1 0; have q1 := set_cells he1 1
  simp only [List.getElem?_toArray, List.getElem?_cons_zero, List.getElem?_cons_succ] at q0 q1
  have f0 : W1.frozen? ⟨w.heap.size + 1, 0, none⟩ = false := by simp [World.frozen?, he1]
  have f1 : W1.frozen? ⟨w.heap.size + 1, 1, none⟩ = false := by simp [World.frozen?, he1]
  clear he1 e1w
  go_upto_region 1 with fail
  rw [← HW0.out, ← HW1.out]
  go_wp2_with fail
  refine HNA.out.mono ?_
  rintro e w2 ⟨rfl, rfl⟩
  cases hna : isNum a with
  | false =>
    have e5 : rdecS a b = ((⟨#[]⟩, ⟨#[]⟩), 5) := by unfold rdecS; rw [hna]; rfl
    have E5 := Lib.hid e5
    clear e5
    go_wp2_with fail
    obtain ⟨t0, t1, hbz⟩ := HEND.out ⟨#[]⟩ ⟨#[]⟩ W1 HE1.out HB1.out
    exact bodyPost_ret (v := .tuple #[.agg #[.string ⟨#[]⟩, .string ⟨#[]⟩], .int .i64 5]) (by simp [results, t0, t1, Tryz.results35, go_sem]) rfl ⟨by rw [E5.out]; rfl, hbz⟩
  | true =>
    go_wp2_with fail
    refine HDB.out.mono ?_
    rintro e w3 ⟨rfl, rfl⟩
    cases hdb : isDigs b with
    | false =>
      have e5 : rdecS a b = ((⟨#[]⟩, ⟨#[]⟩), 5) := by unfold rdecS; rw [hna, hdb]; rfl
      have E5 := Lib.hid e5
      clear e5
      go_wp2_with fail
      obtain ⟨t0, t1, hbz⟩ := HEND.out ⟨#[]⟩ ⟨#[]⟩ W1 HE1.out HB1.out
      exact bodyPost_ret (v := .tuple #[.agg #[.string ⟨#[]⟩, .string ⟨#[]⟩], .int .i64 5]) (by simp [results, t0, t1, Tryz.results35, go_sem]) rfl ⟨by rw [E5.out]; rfl, hbz⟩
    | true =>
      have haa : a.data.toList.all digB = true := by
        unfold isNum at hna
        simp only [Bool.and_eq_true] at hna
        exact all_digs hna.1
      have hsa := strip_all (all_app haa (all_digs hdb))
      have hss := strip_size (a ++ b)
      have hab : (a ++ b).size = a.size + b.size := ByteArray.size_append
      obtain ⟨D, hD⟩ : ∃ D, strip (a ++ b) = D := ⟨_, rfl⟩
      rw [hD] at hsa hss
      have HTR : Hid (∀ W, Calls Tryz.prog 75 #[.string (a ++ b), .string ⟨#[48]⟩] W fun e w' => e = .returned (.string D) ∧ w' = W) := Lib.hid fun W => by
        rw [← hD]; exact Tryz.strings_TrimLeft_one (a ++ b) 48 (by decide) W
      have hrd : rdecS a b = if 600 < D.size then (emptyP, 4) else if fitsF (low (num D) (10 ^ b.size)) then ((dec (low (num D) (10 ^ b.size)).1, dec (low (num D) (10 ^ b.size)).2), 0) else (emptyP, 4) := by
        unfold rdecS; rw [hna, hdb, hD]; rfl
      have HRD := Lib.hid hrd; have HSA := Lib.hid hsa
      have hdd := dig_all hsa
      have hn6 : D.size ≤ 600 → num D < T600 := num_600 hsa
      have HN6 := Lib.hid hn6; have HDD := Lib.hid hdd
      have hDl : D.size ≤ 2600 := by omega
      obtain ⟨W2, hW2⟩ : ∃ W, W = W1.alloc (.cells #[.string D] 9) := ⟨_, rfl⟩
      have b12 : Below W1.heap.size W1 W2 := by rw [hW2]; exact (Below.refl _ _).alloc (Nat.le_refl _) _
      have e2 : W2.heap[W1.heap.size]? = some (.cells #[.string D] 9 (0, 0)) := by rw [hW2]; exact Go.Deep.blk_alloc_new _ _
      have kd : W2.cell? ⟨W1.heap.size, 0, none⟩ = some (.string D) := by simp [World.cell?, e2]
      have kb : W2.cell? ⟨w.heap.size, 0, none⟩ = some (.string b) := cell_later b12 k0
      have hl1 : w.heap.size + 1 < W1.heap.size := (Array.getElem?_eq_some_iff.1 HE1.out).1
      have he2 : W2.heap[w.heap.size + 1]? = some (.cells #[.string ⟨#[]⟩, .string ⟨#[]⟩] 24 (0, 0)) := (b12.block _ hl1).trans HE1.out
      have HE2 := Lib.hid he2
      have HB2 := Lib.hid (HB1.out.trans (b12.mono HB1.out.size)); have HW2 := Lib.hid hW2
      have HT2 : Hid (Tens W2) := Lib.hid fun j hj => cell_later b12 (HT.out j hj)
      have HKD := Lib.hid kd; have HKB := Lib.hid kb
      clear hrd hsa hD hna hdb haa HNA HDB hdd hn6 hss hab hW2 b12 e2 he2
      by_cases h6 : 600 < D.size
      · have e5 : rdecS a b = ((⟨#[]⟩, ⟨#[]⟩), 4) := by rw [HRD.out, if_pos h6]; rfl
        have E5 := Lib.hid e5
        have h6i : (600 : Int) < (D.size : Int) := by omega
        have q0 := set_cells HE2.out 0; have q1 := set_cells HE2.out 1
        simp only [List.getElem?_toArray, List.getElem?_cons_zero, List.getElem?_cons_succ] at q0 q1
        have f0 : W2.frozen? ⟨w.heap.size + 1, 0, none⟩ = false := by simp [World.frozen?, HE2.out]
        have f1 : W2.frozen? ⟨w.heap.size + 1, 1, none⟩ = false := by simp [World.frozen?, HE2.out]
        clear e5
        go_wp2_with fail
        refine (HTR.out _).mono ?_
        rintro e w4 ⟨rfl, h4⟩
        rw [h4]
        clear h4 w4
        go_upto_region 4 with fail
        rw [← HW2.out]
        go_wp2_with fail
        obtain ⟨t0, t1, hbz⟩ := HEND.out ⟨#[]⟩ ⟨#[]⟩ W2 HE2.out HB2.out
        exact bodyPost_ret (v := .tuple #[.agg #[.string ⟨#[]⟩, .string ⟨#[]⟩], .int .i64 4]) (by simp [results, t0, t1, Tryz.results35, go_sem]) rfl ⟨by rw [E5.out]; rfl, hbz⟩
      · have h6i : ¬ (600 : Int) < (D.size : Int) := by omega
        obtain ⟨F, hF⟩ : ∃ F, low (num D) (10 ^ b.size) = F := ⟨_, rfl⟩
        obtain ⟨ok, hok⟩ : ∃ o, fitsF F = o := ⟨_, rfl⟩
        have hat := attempt_part 76 #[.pointer (some ⟨W1.heap.size, 0, none⟩), .pointer (some ⟨w.heap.size, 0, none⟩)] (enters_of Tryz.func76 (by kernel_rfl) rfl) ok (dec F.1) (dec F.2) W2
          (fun W hW => by
            refine (readDec_clo D b W1.heap.size w.heap.size W (cell_later hW HKD.out) (cell_later hW HKB.out) HDD.out (HN6.out (by omega)) (by omega) hb (fun j hj => cell_later hW (HT2.out j hj))).mono ?_
            rintro e W' ⟨k1, k2, k3⟩
            rw [hF, hok] at k2 k3
            exact ⟨k1, k2, k3⟩)
        obtain ⟨d1, hd1⟩ : ∃ d, (if ok then dec F.1 else (⟨#[]⟩ : ByteArray)) = d := ⟨_, rfl⟩
        obtain ⟨d2, hd2⟩ : ∃ d, (if ok then dec F.2 else (⟨#[]⟩ : ByteArray)) = d := ⟨_, rfl⟩
        obtain ⟨z, hz⟩ : ∃ z : Int, (if ok then (0 : Int) else 4) = z := ⟨_, rfl⟩
        have e5 : rdecS a b = ((d1, d2), z) := by
          rw [HRD.out, if_neg h6, hF, hok, ← hd1, ← hd2, ← hz]
          cases ok <;> rfl
        rw [hd1, hd2, hz] at hat
        have HAT := Lib.hid hat; have E5 := Lib.hid e5
        clear hat e5 hd1 hd2 hz hok hF
        go_wp2_with fail
        refine (HTR.out _).mono ?_
        rintro e w4 ⟨rfl, h4⟩
        rw [h4]
        clear h4 w4
        go_upto_region 4 with fail
        rw [← HW2.out]
        go_wp2_with fail
        refine HAT.out.mono ?_
        rintro e w5 ⟨rfl, hb5⟩
        have he5 := (hb5.block _ (Array.getElem?_eq_some_iff.1 HE2.out).1).trans HE2.out
        have HB5 := Lib.hid (HB2.out.trans (hb5.mono HB2.out.size)); have HE5 := Lib.hid he5
        have q0 := set_cells he5 0; have q1 := set_cells he5 1
        simp only [List.getElem?_toArray, List.getElem?_cons_zero, List.getElem?_cons_succ] at q0 q1
        have f0 : w5.frozen? ⟨w.heap.size + 1, 0, none⟩ = false := by simp [World.frozen?, he5]
        have f1 : w5.frozen? ⟨w.heap.size + 1, 1, none⟩ = false := by simp [World.frozen?, he5]
        clear hb5 he5
        go_wp2_with fail
        obtain ⟨t0, t1, hbz⟩ := HEND.out d1 d2 w5 HE5.out HB5.out
        exact bodyPost_ret (v := .tuple #[.agg #[.string d1, .string d2], .int .i64 z]) (by simp [results, t0, t1, Tryz.results35, go_sem]) rfl ⟨by rw [E5.out]; rfl, hbz⟩
end Go.Proofs.YtkggfeemjabdeaaGreatDoor.Wc
end
section
namespace Go.Proofs.YtkggfeemjabdeaaGreatDoor.Wc
open Go Go.Proofs.YtkggfeemjabdeaaGreatDoor.Sx Go.RowKit

/-- the text ahead of a byte, behind it, and whether it is there. -/
def cutS (s : ByteArray) (c : UInt8) : ByteArray × ByteArray × Bool :=
  (⟨(Lib.cut s.data.toList [c]).1.toArray⟩, ⟨(Lib.cut s.data.toList [c]).2.1.toArray⟩, (Lib.cut s.data.toList [c]).2.2)
/-- What Read answers. -/
def readS (s : ByteArray) : P2 × Int :=
  if 1300 < s.size then (emptyP, 3) else
    if (cutS s 47).2.2 then quoS (cutS s 47).1 (cutS s 47).2.1 else
      if (cutS s 46).2.2 then rdecS (cutS s 46).1 (cutS s 46).2.1 else quoS s ⟨#[49]⟩

theorem cutS_size (s : ByteArray) (c : UInt8) : (cutS s c).1.size ≤ s.size ∧ (cutS s c).2.1.size ≤ s.size := by
  have hl : s.data.toList.length = s.size := Array.length_toList
  unfold cutS Lib.cut
  split
  · simp only [ByteArray.size, List.size_toArray, List.length_take, List.length_drop]
    have : s.data.toList.length = s.data.size := Array.length_toList
    omega
  · refine ⟨?_, Nat.zero_le _⟩
    show s.data.toList.toArray.size ≤ s.data.size
    rw [List.size_toArray, Array.length_toList]; exact Nat.le_refl _

set_option maxRecDepth 100000 in
set_option maxHeartbeats 1000000 in
theorem Read_any (s : ByteArray) (mx : Int) (w : World) (hs : s.size ≤ maxLen) (hm : w.cell? ⟨1, 0, none⟩ = some (.int .i64 mx)) (ht : Tens w) :
    Calls Tryz.prog 11 #[.string s] w fun e w' => e = .returned (retV (readS s)) ∧ Below w.heap.size w w' := by
  obtain ⟨W1, hW1⟩ : ∃ W, W = w.alloc (.cells #[.string ⟨#[]⟩, .string ⟨#[]⟩] 24) := ⟨_, rfl⟩
  have b01 : Below w.heap.size w W1 := by rw [hW1]; exact (Below.refl _ _).alloc (Nat.le_refl _) _
  have e1 : W1.heap[w.heap.size]? = some (.cells #[.string ⟨#[]⟩, .string ⟨#[]⟩] 24 (0, 0)) := by rw [hW1]; exact Go.Deep.blk_alloc_new _ _
  have hl1 : w.heap.size < W1.heap.size := (Array.getElem?_eq_some_iff.1 e1).1
  have HL1 := Lib.hid hl1
  have HSE : Hid (∀ W, Below W1.heap.size W1 W → Below w.heap.size w W ∧ W.heap[w.heap.size]? = some (.cells #[.string ⟨#[]⟩, .string ⟨#[]⟩] 24 (0, 0)) ∧ Tens W ∧ W.cell? ⟨1, 0, none⟩ = some (.int .i64 mx)) := Lib.hid fun W hb =>
    ⟨b01.trans (hb.mono b01.size), (hb.block _ hl1).trans e1, fun j hj => cell_later hb (cell_later b01 (ht j hj)), cell_later hb (cell_later b01 hm)⟩
  have HEND : Hid (∀ (x y : ByteArray) (W : World), Below W1.heap.size W1 W →
      ((W.setCell ⟨w.heap.size, 0, none⟩ (.string x)).setCell ⟨w.heap.size, 1, none⟩ (.string y)).cell? ⟨w.heap.size, 0, none⟩ = some (.string x) ∧ ((W.setCell ⟨w.heap.size, 0, none⟩ (.string x)).setCell ⟨w.heap.size, 1, none⟩ (.string y)).cell? ⟨w.heap.size, 1, none⟩ = some (.string y) ∧ Below w.heap.size w ((W.setCell ⟨w.heap.size, 0, none⟩ (.string x)).setCell ⟨w.heap.size, 1, none⟩ (.string y))) := Lib.hid fun x y W hb => by
    obtain ⟨hb, hW, -⟩ := HSE.out W hb
    have g0 := heap_setCell_same W (w.heap.size) 0 _ _ (.string x) hW
    have g1 := heap_setCell_same _ (w.heap.size) 1 _ _ (.string y) g0
    simp only [List.setIfInBounds_toArray, List.set_cons_zero, List.set_cons_succ] at g1
    have t0 := set_cells g1 0; have t1 := set_cells g1 1
    simp only [List.getElem?_toArray, List.getElem?_cons_zero, List.getElem?_cons_succ] at t0 t1
    exact ⟨t0, t1, (hb.setCell (p := ⟨w.heap.size, 0, none⟩) (Nat.le_refl _) _).setCell (p := ⟨w.heap.size, 1, none⟩) (Nat.le_refl _) _⟩
  have HCELL : Hid (∀ W, Below W1.heap.size W1 W → W.cell? ⟨w.heap.size, 0, none⟩ = some (.string ⟨#[]⟩) ∧ W.cell? ⟨w.heap.size, 1, none⟩ = some (.string ⟨#[]⟩) ∧ W.frozen? ⟨w.heap.size, 0, none⟩ = false ∧ W.frozen? ⟨w.heap.size, 1, none⟩ = false) := Lib.hid fun W hb => by
    have hW := (HSE.out W hb).2.1
    have q0 := set_cells hW 0; have q1 := set_cells hW 1
    simp only [List.getElem?_toArray, List.getElem?_cons_zero, List.getElem?_cons_succ] at q0 q1
    exact ⟨q0, q1, by simp [World.frozen?, hW], by simp [World.frozen?, hW]⟩
  have HW1 := Lib.hid hW1
  unfold maxLen at hs
  clear hW1 b01 e1 ht hm hl1
  by_cases h13 : 1300 < s.size
  · have h13i : (1300 : Int) < (s.size : Int) := by omega
    have e5 : readS s = ((⟨#[]⟩, ⟨#[]⟩), 3) := by unfold readS; rw [if_pos h13]; rfl
    have E5 := Lib.hid e5
    obtain ⟨q0, q1, f0, f1⟩ := HCELL.out W1 (Below.refl _ _)
    clear e5
    go_enter Tryz.func11, Tryz.ntmps11
    go_upto_region 1 with fail
    rw [← HW1.out]
    go_wp2_with fail
    obtain ⟨t0, t1, hbz⟩ := HEND.out ⟨#[]⟩ ⟨#[]⟩ W1 (Below.refl _ _)
    exact bodyPost_ret (v := .tuple #[.agg #[.string ⟨#[]⟩, .string ⟨#[]⟩], .int .i64 3]) (by simp [results, t0, t1, Tryz.results11, go_sem]) rfl ⟨by rw [E5.out]; rfl, hbz⟩
  · have h13i : ¬ (1300 : Int) < (s.size : Int) := by omega
    have hcut : ∀ c W, Below W1.heap.size W1 W → Calls Tryz.prog 33 #[.string s, .string ⟨#[c]⟩] W fun e w' => e = .returned (.tuple #[.string (cutS s c).1, .string (cutS s c).2.1, .bool (cutS s c).2.2]) ∧ Below W.heap.size W w' := fun c W hb =>
      (Tryz.strings_Cut s ⟨#[c]⟩ mx W (by omega) (HSE.out W hb).2.2.2).mono fun e w' h => ⟨h.1, by obtain ⟨n, rfl⟩ := h.2; exact below_drewN (Below.refl _ _) n⟩
    have HCUT := Lib.hid hcut
    have hz1 := cutS_size s 47; have hz2 := cutS_size s 46
    obtain ⟨c1, hc1⟩ : ∃ c, (cutS s 47).1 = c := ⟨_, rfl⟩
    obtain ⟨c2, hc2⟩ : ∃ c, (cutS s 47).2.1 = c := ⟨_, rfl⟩
    obtain ⟨c3, hc3⟩ : ∃ c, (cutS s 47).2.2 = c := ⟨_, rfl⟩
    obtain ⟨d1, hd1⟩ : ∃ c, (cutS s 46).1 = c := ⟨_, rfl⟩
    obtain ⟨d2, hd2⟩ : ∃ c, (cutS s 46).2.1 = c := ⟨_, rfl⟩
    obtain ⟨d3, hd3⟩ : ∃ c, (cutS s 46).2.2 = c := ⟨_, rfl⟩
    have hrd : readS s = if c3 then quoS c1 c2 else if d3 then rdecS d1 d2 else quoS s ⟨#[49]⟩ := by unfold readS; rw [if_neg h13, hc1, hc2, hc3, hd1, hd2, hd3]
    have HRD := Lib.hid hrd
    have k1 := HCUT.out 47; have k2 := HCUT.out 46
    rw [hc1, hc2, hc3] at k1
    rw [hd1, hd2, hd3] at k2
    rw [hc1, hc2] at hz1
    rw [hd1, hd2] at hz2
    have K1 := Lib.hid k1; have K2 := Lib.hid k2
    have HZ1 := Lib.hid hz1; have HZ2 := Lib.hid hz2
    clear hrd k1 k2 hc1 hc2 hc3 hd1 hd2 hd3 hcut HCUT hz1 hz2
    go_enter Tryz.func11, Tryz.ntmps11
    go_upto_region 1 with fail
    rw [← HW1.out]
    go_wp2_with fail
    refine (K1.out W1 (Below.refl _ _)).mono ?_
    rintro e w2 ⟨rfl, hb2⟩
    have HB2 := Lib.hid hb2
    clear hb2
    cases c3 with
    | true =>
      have hrd : readS s = quoS c1 c2 := HRD.out
      have HR2 := Lib.hid hrd
      clear hrd
      go_wp2_with fail
      obtain ⟨⟨⟨x, y⟩, z⟩, hq⟩ : ∃ r, quoS c1 c2 = r := ⟨_, rfl⟩
      have hc := readQuotient_any c1 c2 w2 (Nat.le_trans HZ1.out.1 (by show s.size ≤ 9223372036854775807; omega)) (Nat.le_trans HZ1.out.2 (by show s.size ≤ 9223372036854775807; omega)) (HSE.out _ HB2.out).2.2.1
      rw [hq] at hc
      have HQ := Lib.hid hq
      clear hq
      refine Calls.mono hc ?_
      rintro e w4 ⟨h4, hb4⟩
      have h4 : e = .returned (.tuple #[.agg #[.string x, .string y], .int .i64 z]) := h4
      subst h4
      have HB4 := Lib.hid (below_chain HB2.out hb4)
      obtain ⟨q0, q1, f0, f1⟩ := HCELL.out w4 HB4.out
      clear hb4 hc
      go_wp2_with fail
      obtain ⟨t0, t1, hbz⟩ := HEND.out x y w4 HB4.out
      exact bodyPost_ret (v := .tuple #[.agg #[.string x, .string y], .int .i64 z]) (by simp [results, t0, t1, Tryz.results11, go_sem]) rfl ⟨by rw [HR2.out, HQ.out]; rfl, hbz⟩
    | false =>
      go_wp2_with fail
      refine (K2.out w2 HB2.out).mono ?_
      rintro e w3 ⟨rfl, hb3⟩
      have HB3 := Lib.hid (below_chain HB2.out hb3)
      clear hb3
      cases d3 with
      | true =>
        have hrd : readS s = rdecS d1 d2 := HRD.out
        have HR2 := Lib.hid hrd
        clear hrd
        go_wp2_with fail
        obtain ⟨⟨⟨x, y⟩, z⟩, hq⟩ : ∃ r, rdecS d1 d2 = r := ⟨_, rfl⟩
        have hc := readDecimal_any d1 d2 w3 (Nat.le_trans HZ2.out.1 (by omega)) (Nat.le_trans HZ2.out.2 (by omega)) (HSE.out _ HB3.out).2.2.1
        rw [hq] at hc
        have HQ := Lib.hid hq
        clear hq
        refine Calls.mono hc ?_
        rintro e w4 ⟨h4, hb4⟩
        have h4 : e = .returned (.tuple #[.agg #[.string x, .string y], .int .i64 z]) := h4
        subst h4
        have HB4 := Lib.hid (below_chain HB3.out hb4)
        obtain ⟨q0, q1, f0, f1⟩ := HCELL.out w4 HB4.out
        clear hb4 hc
        go_wp2_with fail
        obtain ⟨t0, t1, hbz⟩ := HEND.out x y w4 HB4.out
        exact bodyPost_ret (v := .tuple #[.agg #[.string x, .string y], .int .i64 z]) (by simp [results, t0, t1, Tryz.results11, go_sem]) rfl ⟨by rw [HR2.out, HQ.out]; rfl, hbz⟩
      | false =>
        have hrd : readS s = quoS s ⟨#[49]⟩ := HRD.out
        have HR2 := Lib.hid hrd
        clear hrd
        go_wp2_with fail
        obtain ⟨⟨⟨x, y⟩, z⟩, hq⟩ : ∃ r, quoS s ⟨#[49]⟩ = r := ⟨_, rfl⟩
        have hc := readQuotient_any s ⟨#[49]⟩ w3 (by show s.size ≤ 9223372036854775807; omega) (by show (1 : Nat) ≤ 9223372036854775807; omega) (HSE.out _ HB3.out).2.2.1
        rw [hq] at hc
        have HQ := Lib.hid hq
        clear hq
        refine Calls.mono hc ?_
        rintro e w4 ⟨h4, hb4⟩
        have h4 : e = .returned (.tuple #[.agg #[.string x, .string y], .int .i64 z]) := h4
        subst h4
        have HB4 := Lib.hid (below_chain HB3.out hb4)
        obtain ⟨q0, q1, f0, f1⟩ := HCELL.out w4 HB4.out
        clear hb4 hc
        go_wp2_with fail
        obtain ⟨t0, t1, hbz⟩ := HEND.out x y w4 HB4.out
        exact bodyPost_ret (v := .tuple #[.agg #[.string x, .string y], .int .i64 z]) (by simp [results, t0, t1, Tryz.results11, go_sem]) rfl ⟨by rw [HR2.out, HQ.out]; rfl, hbz⟩
end Go.Proofs.YtkggfeemjabdeaaGreatDoor.Wc
end
section
namespace Go.Proofs.YtkggfeemjabdeaaGreatDoor.Wc
open Go Go.Proofs.YtkggfeemjabdeaaGreatDoor.Sx Go.RowKit

theorem index_one_none (c : UInt8) : ∀ l : List UInt8, (∀ x ∈ l, x ≠ c) → Lib.index l [c] = -1
  | [], _ => by simp [Lib.index]
  | b :: l, h => by
    have hb : (c == b) = false := beq_eq_false_iff_ne.2 (fun e => h b List.mem_cons_self e.symm)
    have ih := index_one_none c l (fun x hx => h x (List.mem_cons_of_mem _ hx))
    simp [Lib.index, List.isPrefixOf, hb, ih]
theorem index_one_at (c : UInt8) (r : List UInt8) : ∀ l : List UInt8, (∀ x ∈ l, x ≠ c) → Lib.index (l ++ c :: r) [c] = (l.length : Int)
  | [], _ => by simp [Lib.index, List.isPrefixOf]
  | b :: l, h => by
    have hb : (c == b) = false := beq_eq_false_iff_ne.2 (fun e => h b List.mem_cons_self e.symm)
    have ih := index_one_at c r l (fun x hx => h x (List.mem_cons_of_mem _ hx))
    have hne : ((l.length : Int) == -1) = false := beq_eq_false_iff_ne.2 (by omega)
    simp [Lib.index, List.isPrefixOf, hb, ih, hne]
theorem cutS_none (s : ByteArray) (c : UInt8) (h : ∀ x ∈ s.data.toList, x ≠ c) : cutS s c = (s, ⟨#[]⟩, false) := by
  have hi := index_one_none c _ h
  unfold cutS Lib.cut
  rw [hi, if_neg (by omega)]
theorem cutS_at (a b : ByteArray) (c : UInt8) (h : ∀ x ∈ a.data.toList, x ≠ c) : cutS (a ++ ⟨#[c]⟩ ++ b) c = (a, b, true) := by
  have hd : (a ++ ⟨#[c]⟩ ++ b).data.toList = a.data.toList ++ c :: b.data.toList := by simp [ByteArray.data_append]
  have hi := index_one_at c b.data.toList _ h
  unfold cutS Lib.cut
  rw [hd, hi, if_pos (by omega)]
  have e1 : ((a.data.toList.length : Int)).toNat = a.data.toList.length := by omega
  have e2 : List.drop (a.data.toList.length + [c].length) (a.data.toList ++ c :: b.data.toList) = b.data.toList := by
    rw [show a.data.toList ++ c :: b.data.toList = (a.data.toList ++ [c]) ++ b.data.toList by simp, ← List.length_append]
    exact List.drop_left
  rw [e1, List.take_left, e2]
theorem dig_ne {s : ByteArray} (h : s.data.toList.all digB = true) (c : UInt8) (hc : digB c = false) : ∀ x ∈ s.data.toList, x ≠ c := fun x hx e => by
  have := List.all_eq_true.1 h x hx
  rw [e, hc] at this
  cases this
theorem nt_all {s : ByteArray} (h : isNt s = true) : s.data.toList.all digB = true := all_digs (nt_digs h).1
theorem lowP_ok {p : P2} (h : okP p = true) : lowP (num p.1) (num p.2) = p := by
  have h1 := valid_frt (n := p.1) (d := p.2) h
  have h2 := valid_dec (n := p.1) (d := p.2) h
  unfold lowP
  rw [low_self (x := (num p.1, num p.2)) h1.fr, h2.1, h2.2]
theorem quoS_ok {p : P2} (h : okP p = true) : quoS p.1 p.2 = (p, 0) := by
  obtain ⟨h1, h2⟩ := okP_nt h
  have s1 := isNt_parts h1
  have s2 := isNt_parts h2
  have hz : ¬ p.2 = zeroB := by
    unfold okP validP at h
    simp only [Bool.and_eq_true, Bool.not_eq_true', decide_eq_false_iff_not] at h
    exact h.1.2
  unfold quoS
  rw [s1.2, s2.2]
  simp only [Bool.and_self, if_true]
  rw [if_neg (by omega), make_ok h1 h2 hz, lowP_ok h]
/-- What Text writes is read back. -/
theorem readS_textS {p : P2} (h : okP p = true) : readS (textS p) = (p, 0) := by
  obtain ⟨h1, h2⟩ := okP_nt h
  have s1 := isNt_parts h1
  have s2 := isNt_parts h2
  have n1 := dig_ne (nt_all h1) 47 (by decide)
  have n2 := dig_ne (nt_all h1) 46 (by decide)
  unfold textS
  rw [if_pos h]
  by_cases hd : p.2 = ⟨#[49]⟩
  · rw [if_pos hd]
    unfold readS
    rw [if_neg (by omega), cutS_none _ _ n1, cutS_none _ _ n2]
    simp only [Bool.false_eq_true, if_false]
    rw [← hd]
    exact quoS_ok h
  · rw [if_neg hd]
    unfold readS
    rw [if_neg (by rw [ByteArray.size_append, ByteArray.size_append, show (⟨#[47]⟩ : ByteArray).size = 1 from rfl]; omega), cutS_at _ _ _ n1]
    exact quoS_ok h
end Go.Proofs.YtkggfeemjabdeaaGreatDoor.Wc
end
section
namespace Go.Proofs.YtkggfeemjabdeaaGreatDoor.Wc
open Go Go.Proofs.YtkggfeemjabdeaaGreatDoor.Sx Go.RowKit

theorem numL_zero (l : List UInt8) : numL (48 :: l) = numL l := rfl
theorem numL_trim : ∀ l : List UInt8, numL (Lib.trimLeftB l 48) = numL l
  | [] => rfl
  | b :: l => by
    unfold Lib.trimLeftB
    by_cases h : b = 48
    · subst h
      rw [List.dropWhile_cons_of_pos (by rfl), numL_zero]
      exact numL_trim l
    · rw [List.dropWhile_cons_of_neg (by simpa using h)]
theorem num_strip (s : ByteArray) : num (strip s) = num s := by
  unfold num strip
  exact numL_trim _
theorem numL_zeros (l : List UInt8) : ∀ k, numL (List.replicate k 48 ++ l) = numL l
  | 0 => rfl
  | k + 1 => by rw [List.replicate_succ, List.cons_append, numL_zero, numL_zeros l k]
theorem pad_list (x p : Nat) : (padS x p).data.toList = List.replicate (p + 1 - (Lib.decDigits x).length) 48 ++ Lib.decDigits x := by
  simp [padS, zer, ByteArray.data_append]
theorem pad_num (x p : Nat) : num (padS x p) = x := by
  unfold num
  rw [pad_list, numL_zeros, numL_dec]
theorem ext_join (s : ByteArray) (k : Nat) (h : k ≤ s.size) : s.extract 0 k ++ s.extract k s.size = s := by
  rw [ByteArray.extract_append_extract]
  simp [h]
theorem ext_all {s : ByteArray} (h : s.data.toList.all digB = true) (i j : Nat) : (s.extract i j).data.toList.all digB = true := by
  rw [List.all_eq_true] at h ⊢
  intro x hx
  apply h
  have : (s.extract i j).data.toList = (s.data.toList.drop i).take (j - i) := by
    simp [ByteArray.data_extract]
  rw [this] at hx
  exact List.mem_of_mem_drop (List.mem_of_mem_take hx)
theorem pad_all (x p : Nat) : (padS x p).data.toList.all digB = true := by
  rw [pad_list, List.all_append, Bool.and_eq_true]
  refine ⟨?_, (isNum_parts (isNum_dec x)).2.1⟩
  rw [List.all_eq_true]
  intro y hy
  rw [(List.mem_replicate.1 hy).2]; rfl
theorem whole_num (x p : Nat) (hp : 0 < p) : isNum ((padS x p).extract 0 ((padS x p).size - p)) = true := by
  have hz := padS_size x p
  have hsz : ((padS x p).extract 0 ((padS x p).size - p)).size = (padS x p).size - p := by rw [ByteArray.size_extract]; omega
  have hd : isDigs ((padS x p).extract 0 ((padS x p).size - p)) = true := by
    unfold isDigs
    rw [ext_all (pad_all x p), Bool.and_true, decide_eq_true_eq, hsz]
    omega
  unfold isNum
  rw [hd, Bool.true_and, Bool.or_eq_true, decide_eq_true_eq, Bool.not_eq_true', beq_eq_false_iff_ne]
  by_cases hl : (Lib.decDigits x).length ≤ p
  · right
    rw [hsz]; omega
  · left
    have hpar := isNum_parts (isNum_dec x)
    have hL : (dec x).data.toList = Lib.decDigits x := rfl
    rw [hL] at hpar
    have hh : (Lib.decDigits x).head? ≠ some 48 := hpar.2.2.resolve_right (by omega)
    have hlist : ((padS x p).extract 0 ((padS x p).size - p)).data.toList = (Lib.decDigits x).take ((padS x p).size - p) := by
      have h1 : ((padS x p).extract 0 ((padS x p).size - p)).data.toList = (padS x p).data.toList.take ((padS x p).size - p) := by simp [ByteArray.data_extract]
      rw [h1, pad_list, show p + 1 - (Lib.decDigits x).length = 0 from by omega]
      rfl
    rw [hlist, List.head?_take, if_neg (by omega)]
    exact hh
theorem point_back (x p : Nat) (hx : x < 10 ^ 500) (hp : p ≤ 30) : readS (pointS x p) = ((dec (low x (10 ^ p)).1, dec (low x (10 ^ p)).2), 0) := by
  have hlen : (Lib.decDigits x).length ≤ 500 := dec_len_of (k := 499) (n := 500) rfl hx
  unfold pointS
  by_cases h0 : p = 0
  · subst h0
    rw [if_pos rfl]
    have hD : (⟨(Lib.decDigits x).toArray⟩ : ByteArray) = dec x := rfl
    have hs := dec_size x
    rw [hD] at hs ⊢
    have hall : (dec x).data.toList.all digB = true := (isNum_parts (isNum_dec x)).2.1
    have hnt : isNt (dec x) = true := by unfold isNt; rw [isNum_dec, Bool.and_true, decide_eq_true_eq]; omega
    unfold readS
    rw [if_neg (by omega), cutS_none _ _ (dig_ne hall 47 (by decide)), cutS_none _ _ (dig_ne hall 46 (by decide))]
    simp only [Bool.false_eq_true, if_false]
    unfold quoS
    rw [isNum_dec, show isNum (⟨#[49]⟩ : ByteArray) = true from by decide]
    simp only [Bool.and_self, if_true]
    rw [if_neg (by rw [show (⟨#[49]⟩ : ByteArray).size = 1 from rfl]; omega), make_ok (a := (dec x, ⟨#[49]⟩)) hnt (show isNt (⟨#[49]⟩ : ByteArray) = true by decide) (show ¬ (⟨#[49]⟩ : ByteArray) = zeroB by decide)]
    show (lowP (num (dec x)) 1, (0 : Int)) = _
    rw [num_dec]; rfl
  · rw [if_neg h0]
    have hz := padS_size x p
    have hw := whole_num x p (by omega)
    have hjoin := ext_join (padS x p) ((padS x p).size - p) (by omega)
    have hA := ext_all (pad_all x p) 0 ((padS x p).size - p)
    have hB := ext_all (pad_all x p) ((padS x p).size - p) (padS x p).size
    have sA : ((padS x p).extract 0 ((padS x p).size - p)).size = (padS x p).size - p := by rw [ByteArray.size_extract]; omega
    have sB : ((padS x p).extract ((padS x p).size - p) (padS x p).size).size = p := by rw [ByteArray.size_extract]; omega
    obtain ⟨A, eA⟩ : ∃ A, (padS x p).extract 0 ((padS x p).size - p) = A := ⟨_, rfl⟩
    obtain ⟨B, eB⟩ : ∃ B, (padS x p).extract ((padS x p).size - p) (padS x p).size = B := ⟨_, rfl⟩
    rw [eA] at hw hjoin hA sA ⊢
    rw [eB] at hjoin hB sB ⊢
    have hslash : ∀ y ∈ (A ++ ⟨#[46]⟩ ++ B).data.toList, y ≠ 47 := by
      intro y hy
      simp only [ByteArray.data_append, Array.toList_append, List.mem_append] at hy
      rcases hy with (hy | hy) | hy
      · exact dig_ne hA 47 (by decide) y hy
      · rw [List.mem_singleton.1 hy]; decide
      · exact dig_ne hB 47 (by decide) y hy
    have hdB : isDigs B = true := by unfold isDigs; rw [hB, Bool.and_true, decide_eq_true_eq]; omega
    unfold readS
    rw [if_neg (by rw [ByteArray.size_append, ByteArray.size_append, show (⟨#[46]⟩ : ByteArray).size = 1 from rfl]; omega), cutS_none _ _ hslash, cutS_at _ _ _ (dig_ne hA 46 (by decide))]
    simp only [Bool.false_eq_true, if_false, if_true]
    unfold rdecS
    have hst := strip_size (A ++ B)
    rw [hjoin] at hst
    rw [hw, hdB, hjoin, num_strip, pad_num, sB]
    simp only [Bool.and_self, if_true]
    have hfit : fitsF (low x (10 ^ p)) = true := by
      unfold fitsF
      rw [Bool.and_eq_true, fit1_t, fit1_t]
      constructor
      · exact Nat.lt_of_le_of_lt (Nat.div_le_self _ _) (Nat.lt_of_lt_of_le hx (Nat.le_of_ble_eq_true (by kernel_rfl)))
      · exact Nat.lt_of_le_of_lt (Nat.div_le_self _ _) (Nat.lt_of_le_of_lt (Nat.pow_le_pow_right (by decide) hp) (Nat.le_of_ble_eq_true (n := 10 ^ 30 + 1) (by kernel_rfl)))
    rw [if_neg (by omega), if_pos hfit]
end Go.Proofs.YtkggfeemjabdeaaGreatDoor.Wc
end
section
namespace Go.Proofs.YtkggfeemjabdeaaGreatDoor.Wc
open Go Go.Proofs.YtkggfeemjabdeaaGreatDoor.Sx Go.RowKit

theorem low_one (T : Nat) : low 1 T = (1, T) := by simp [low]
theorem cmpF_lowl {n d : Nat} {x : Nat × Nat} (hd : 0 < d) (hx : Fr x) : cmpF (low n d) x = cmpF (n, d) x := by
  have := cmpF_low (n := n) (d := d) (m := x.1) (e := x.2) hd hx.pos
  rwa [low_self hx] at this
theorem cmpF_lowr {n d : Nat} {x : Nat × Nat} (hd : 0 < d) (hx : Fr x) : cmpF x (low n d) = cmpF x (n, d) := by
  have := cmpF_low (n := x.1) (d := x.2) (m := n) (e := d) hx.pos hd
  rwa [low_self hx] at this
/-- the floor is the fraction, if nothing is left. -/
theorem down_exact {x : Nat × Nat} (hx : Fr x) {T : Nat} (hT : 0 < T) (h : x.1 * T % x.2 = 0) : cmpF (low (x.1 * T / x.2) T) x = 0 ∧ cmpF x (low (x.1 * T / x.2) T) = 0 := by
  have h1 : x.1 * T / x.2 * x.2 = x.1 * T := Nat.div_mul_cancel (Nat.dvd_of_mod_eq_zero h)
  rw [cmpF_lowl hT hx, cmpF_lowr hT hx]
  exact ⟨cmpF_eq h1, cmpF_eq h1.symm⟩
/-- else it is below, and one more is above. -/
theorem down_below {x : Nat × Nat} (hx : Fr x) {T : Nat} (hT : 0 < T) (h : x.1 * T % x.2 ≠ 0) : cmpF (low (x.1 * T / x.2) T) x = -1 ∧ cmpF x (low (x.1 * T / x.2 + 1) T) = -1 := by
  have h1 := Nat.div_add_mod (x.1 * T) x.2
  have h2 := Nat.mod_lt (x.1 * T) hx.pos
  rw [Nat.mul_comm] at h1
  rw [cmpF_lowl hT hx, cmpF_lowr hT hx]
  refine ⟨cmpF_lt (show x.1 * T / x.2 * x.2 < x.1 * T by omega), cmpF_lt (show x.1 * T < (x.1 * T / x.2 + 1) * x.2 by rw [Nat.add_mul]; omega)⟩
/-- their difference is a unit of the last place. -/
theorem gap_one {q T : Nat} (hT : 0 < T) : subF (low (q + 1) T) (low q T) = (1, T) := by
  rw [subF_low hT hT, ← low_one]
  refine low_congr (Nat.mul_pos hT hT) hT ?_
  rw [Nat.add_mul, Nat.one_mul, Nat.add_sub_cancel_left, Nat.one_mul]
theorem gap_none {q T : Nat} (hT : 0 < T) : subF (low q T) (low q T) = (0, 1) := by
  rw [subF_low hT hT, Nat.sub_self]
  have := Nat.mul_pos hT hT
  simp [low, Nat.div_self this]
/-- the units. -/
theorem unit_next (k : Nat) : mulF (1, 10 ^ k) (1, 10) = (1, 10 ^ (k + 1)) := by
  show low 1 (10 ^ k * 10) = _
  rw [low_one, Nat.pow_succ]
theorem fit_unit {k : Nat} (hk : k ≤ 31) : fitsF (1, 10 ^ k) = true := by
  unfold fitsF
  rw [Bool.and_eq_true, fit1_t, fit1_t]
  exact ⟨Nat.le_of_ble_eq_true (n := 2) (by kernel_rfl), Nat.lt_of_le_of_lt (Nat.pow_le_pow_right (by decide) hk) (Nat.le_of_ble_eq_true (n := 10 ^ 31 + 1) (by kernel_rfl))⟩
end Go.Proofs.YtkggfeemjabdeaaGreatDoor.Wc
end
section
namespace Go.Proofs.YtkggfeemjabdeaaGreatDoor.Wc
open Go Go.Proofs.YtkggfeemjabdeaaGreatDoor.Sx Go.RowKit

theorem point_size {x p : Nat} (hx : x < 10 ^ 500) (hp : p ≤ 30) : (pointS x p).size ≤ 1000 := by
  have hlen : (Lib.decDigits x).length ≤ 500 := dec_len_of (k := 499) (n := 500) rfl hx
  have hz := padS_size x p
  have hd := dec_size x
  unfold pointS
  split
  · omega
  · rw [ByteArray.size_append, ByteArray.size_append, show (⟨#[46]⟩ : ByteArray).size = 1 from rfl, ByteArray.size_extract, ByteArray.size_extract]
    omega
/-- a fraction as texts. -/
def frP (x : Nat × Nat) : P2 := (dec x.1, dec x.2)
theorem frP_ok {x : Nat × Nat} (h : FrT x) : okP (frP x) = true := valid_of h
theorem frP_pv (x : Nat × Nat) : pv (frP x) = x := by
  show (num (dec x.1), num (dec x.2)) = x
  rw [num_dec, num_dec]
theorem frP_short {x : Nat × Nat} (h : FrT x) : Short (frP x) := by
  have h1 := (isNt_parts (isNt_dec h.n)).1
  have h2 := (isNt_parts (isNt_dec h.d)).1
  exact ⟨Nat.le_trans h1 (by decide), Nat.le_trans h2 (by decide)⟩
theorem low_frt {x T : Nat} (hx : x < 10 ^ 500) (hT : 0 < T) (hT2 : T ≤ 10 ^ 30) : FrT (low x T) :=
  ⟨low_fr hT, Nat.lt_of_le_of_lt (Nat.div_le_self _ _) (Nat.lt_of_lt_of_le hx (Nat.le_of_ble_eq_true (by kernel_rfl))), Nat.lt_of_le_of_lt (Nat.div_le_self _ _) (Nat.lt_of_le_of_lt hT2 (Nat.le_of_ble_eq_true (n := 10 ^ 30 + 1) (by kernel_rfl)))⟩
theorem unit_frt {k : Nat} (hk : k ≤ 31) : FrT (1, 10 ^ k) := by
  refine fits_frt ?_ (fit_unit hk)
  have := low_fr (n := 1) (d := 10 ^ k) (Nat.pow_pos (by decide))
  rwa [low_one] at this
/-- the loop's product. -/
theorem unit_mul {k : Nat} (hk : k ≤ 30) : mulS (frP (1, 10 ^ k)) (frP (1, 10)) = (frP (1, 10 ^ (k + 1)), 0) := by
  unfold mulS
  rw [frP_ok (unit_frt (by omega)), show okP (frP (1, 10)) = true from frP_ok (unit_frt (k := 1) (by decide))]
  simp only [Bool.and_self, if_true]
  rw [frP_pv, frP_pv, unit_next]
  unfold resF
  rw [if_pos (fit_unit (by omega))]; rfl
/-- What the calls come to. -/
structure BackT (p : P2) (n : Nat) (D U : ByteArray) (a b c : P2) : Prop where
  dec : decimS p n = (D, U, 0)
  sd : D.size ≤ 1000
  su : U.size ≤ 1000
  rd : readS D = (a, 0)
  ru : readS U = (b, 0)
  sa : Short a
  sb : Short b
  sub : subS b a = (c, 0)
  alt : (cmpS a p = 0 ∧ cmpS p b = 0 ∧ a = b) ∨ (cmpS a p = -1 ∧ cmpS p b = -1 ∧ c = frP (1, 10 ^ n))
theorem back_facts {p : P2} (hok : okP p = true) (hs : p.1.size ≤ 200) {n : Nat} (hn : n ≤ 30) : ∃ D U a b c, BackT p n D U a b c := by
  have hF := valid_frt (n := p.1) (d := p.2) hok
  have hT : 0 < 10 ^ n := Nat.pow_pos (by decide)
  have hT2 : 10 ^ n ≤ 10 ^ 30 := Nat.pow_le_pow_right (by decide) hn
  have hX : num p.1 * 10 ^ n / num p.2 + 1 < 10 ^ 500 := by
    have h1 : num p.1 < 10 ^ 200 := by
      have := numL_lt p.1.data.toList (nt_all (okP_nt hok).1)
      refine Nat.lt_of_lt_of_le this (Nat.pow_le_pow_right (by decide) ?_)
      rw [Array.length_toList]; exact hs
    have h2 : num p.1 * 10 ^ n ≤ 10 ^ 200 * 10 ^ 30 := Nat.mul_le_mul (Nat.le_of_lt h1) hT2
    have h3 := Nat.div_le_self (num p.1 * 10 ^ n) (num p.2)
    exact Nat.lt_of_le_of_lt (Nat.succ_le_succ (Nat.le_trans h3 h2)) (Nat.le_of_ble_eq_true (n := 10 ^ 200 * 10 ^ 30 + 2) (by kernel_rfl))
  have hX0 : num p.1 * 10 ^ n / num p.2 < 10 ^ 500 := Nat.lt_of_succ_lt hX
  have hpv : pv p = (num p.1, num p.2) := rfl
  have hD := point_back _ n hX0 hn
  have fa := low_frt hX0 hT hT2
  by_cases hr : num p.1 * 10 ^ n % num p.2 = 0
  · obtain ⟨c1, c2⟩ := down_exact hF.fr hT hr
    refine ⟨pointS (num p.1 * 10 ^ n / num p.2) n, pointS (num p.1 * 10 ^ n / num p.2) n, frP (low (num p.1 * 10 ^ n / num p.2) (10 ^ n)), frP (low (num p.1 * 10 ^ n / num p.2) (10 ^ n)), frP (0, 1), ?_, point_size hX0 hn, point_size hX0 hn, hD, hD, frP_short fa, frP_short fa, ?_, .inl ⟨?_, ?_, rfl⟩⟩
    · unfold decimS
      rw [if_pos ⟨hok, by omega, by omega⟩]
      simp only [Int.toNat_natCast, hr, if_true, Nat.add_zero]
    · unfold subS
      rw [frP_ok fa, frP_pv]
      simp only [Bool.and_self, if_true]
      rw [if_neg (by omega), gap_none hT]
      have hf : fitsF (0, 1) = true := by
        unfold fitsF
        rw [Bool.and_eq_true, fit1_t, fit1_t]
        exact ⟨Nat.le_of_ble_eq_true (n := 1) (by kernel_rfl), Nat.le_of_ble_eq_true (n := 2) (by kernel_rfl)⟩
      unfold resF
      rw [if_pos hf]; rfl
    · unfold cmpS; rw [frP_ok fa, hok, frP_pv, hpv]; exact c1
    · unfold cmpS; rw [frP_ok fa, hok, frP_pv, hpv]; exact c2
  · obtain ⟨c1, c2⟩ := down_below hF.fr hT hr
    have hU := point_back _ n hX hn
    have fb := low_frt hX hT hT2
    refine ⟨pointS (num p.1 * 10 ^ n / num p.2) n, pointS (num p.1 * 10 ^ n / num p.2 + 1) n, frP (low (num p.1 * 10 ^ n / num p.2) (10 ^ n)), frP (low (num p.1 * 10 ^ n / num p.2 + 1) (10 ^ n)), frP (1, 10 ^ n), ?_, point_size hX0 hn, point_size hX hn, hD, hU, frP_short fa, frP_short fb, ?_, .inr ⟨?_, ?_, rfl⟩⟩
    · unfold decimS
      rw [if_pos ⟨hok, by omega, by omega⟩]
      simp only [Int.toNat_natCast]
      rw [if_neg hr]
    · have hlt : ¬ (low (num p.1 * 10 ^ n / num p.2 + 1) (10 ^ n)).1 * (low (num p.1 * 10 ^ n / num p.2) (10 ^ n)).2 < (low (num p.1 * 10 ^ n / num p.2) (10 ^ n)).1 * (low (num p.1 * 10 ^ n / num p.2 + 1) (10 ^ n)).2 := by
        intro h
        have h1 := cmpF_lt (x := low (num p.1 * 10 ^ n / num p.2 + 1) (10 ^ n)) (y := low (num p.1 * 10 ^ n / num p.2) (10 ^ n)) h
        rw [cmpF_low hT hT, cmpF_gt (by show num p.1 * 10 ^ n / num p.2 * 10 ^ n < (num p.1 * 10 ^ n / num p.2 + 1) * 10 ^ n; rw [Nat.add_mul]; omega)] at h1
        exact absurd h1 (by decide)
      unfold subS
      rw [frP_ok fa, frP_ok fb, frP_pv, frP_pv]
      simp only [Bool.and_self, if_true]
      rw [if_neg hlt, gap_one hT]
      unfold resF
      rw [if_pos (fit_unit (by omega))]; rfl
    · unfold cmpS; rw [frP_ok fa, hok, frP_pv, hpv]; exact c1
    · unfold cmpS; rw [frP_ok fb, hok, frP_pv, hpv]; exact c2
end Go.Proofs.YtkggfeemjabdeaaGreatDoor.Wc
end
section
namespace Go.Proofs.YtkggfeemjabdeaaGreatDoor.Wc
open Go Go.Proofs.YtkggfeemjabdeaaGreatDoor.Sx Go.RowKit

set_option maxRecDepth 100000 in
set_option maxHeartbeats 4000000 in
theorem back_any (p1 p2 : ByteArray) (k : Int) (hk : 0 ≤ k ∧ k ≤ 255) (mx : Int) (w : World) (hm : w.cell? ⟨1, 0, none⟩ = some (.int .i64 mx)) (ht : Tens w) (hpos : 0 < w.heap.size) :
    Calls Tryz.prog 6 #[.agg #[.string p1, .string p2], .int .u8 k] w fun e w' => e = .returned (.bool true) ∧ Below w.heap.size w w' := by
  have HT : Hid (∀ W, Below w.heap.size w W → Tens W) := Lib.hid fun W hW j hj => cell_later hW (ht j hj)
  have HM : Hid (∀ W, Below w.heap.size w W → W.cell? ⟨1, 0, none⟩ = some (.int .i64 mx)) := Lib.hid fun W hW => cell_later hW hm
  obtain ⟨W0, hW0⟩ : ∃ W, W = w.alloc (.cells #[.string p1, .string p2] 24) := ⟨_, rfl⟩
  have b00 : Below w.heap.size w W0 := by rw [hW0]; exact (Below.refl _ _).alloc (Nat.le_refl _) _
  have ep : W0.heap[w.heap.size]? = some (partO p1 p2) := by rw [hW0]; exact Go.Deep.blk_alloc_new _ _
  have HAL := Lib.hid (alive_any W0 (HT.out W0 b00) (by have := b00.size; omega))
  have HW0 := Lib.hid hW0; have HB0 := Lib.hid b00; have HEP := Lib.hid ep
  clear ht hpos hW0 b00 ep hm
  go_enter Tryz.func6, Tryz.ntmps6
  go_wp2_with fail
  rw [← HW0.out]
  refine HAL.out.mono ?_
  rintro e w1 ⟨rfl, hb1⟩
  have HB1 := Lib.hid (HB0.out.trans (hb1.mono HB0.out.size)); have E1 := Lib.hid (part_on HEP.out hb1)
  clear hb1 HAL
  obtain ⟨W2, hW2⟩ : ∃ W, W = w1.alloc (.cells #[.string p1, .string p2] 24) := ⟨_, rfl⟩
  have b2 : Below w1.heap.size w1 W2 := by rw [hW2]; exact (Below.refl _ _).alloc (Nat.le_refl _) _
  have kk : W2.heap[w1.heap.size]? = some (.cells #[.string p1, .string p2] 24 (0, 0)) := by rw [hW2]; exact Go.Deep.blk_alloc_new _ _
  have hsh1 := short_any 200 [(p1, p2)] (.slice (some ⟨w1.heap.size, 0, none⟩) 1 1) W2 (.inr ⟨w1.heap.size, 0, 1, rfl, by simp, by decide, (Array.getElem?_eq_some_iff.1 kk).1, fun i hi => by
    match i, hi with
    | 0, _ => exact ⟨by rw [set_cells kk]; rfl, by rw [set_cells kk]; rfl⟩⟩) (by simp) (by decide)
  have HSH := Lib.hid hsh1; have HW2 := Lib.hid hW2; have HB22 := Lib.hid (HB1.out.trans (b2.mono HB1.out.size)); have E22 := Lib.hid (part_on E1.out b2)
  obtain ⟨y0, y1, y2⟩ := part_at E1.out
  clear hsh1 hW2 b2 kk
  go_wp2_with fail
  rw [← HW2.out]
  refine HSH.out.mono ?_
  rintro e w3 ⟨rfl, hb⟩
  have HB3 := Lib.hid (HB22.out.trans (hb.mono HB22.out.size)); have E3 := Lib.hid (part_on E22.out hb)
  clear hb HSH E1 E22 y0 y1 y2
  cases hshp : [(p1, p2)].all (shortP 200)
  · go_wp2_with fail
    exact bodyPost_ret (v := .bool true) (by simp [results, Tryz.results6, go_sem]) rfl ⟨rfl, HB3.out⟩
  have hsp : p1.size ≤ 200 ∧ p2.size ≤ 200 := by
    simp only [List.all_cons, List.all_nil, Bool.and_true] at hshp
    unfold shortP at hshp; simpa using hshp
  have SP := Lib.hid hsp; have SOP : Hid (Short (p1, p2)) := Lib.hid ⟨Nat.le_trans hsp.1 (by decide), Nat.le_trans hsp.2 (by decide)⟩
  clear hsp hshp
  have HCK := Lib.hid (Check_any (p1, p2) w3 SOP.out (HT.out _ HB3.out))
  obtain ⟨y0, y1, y2⟩ := part_at E3.out
  go_wp2_with fail
  refine HCK.out.mono ?_
  rintro e w4 ⟨rfl, hb⟩
  have HB4 := Lib.hid (HB3.out.trans (hb.mono HB3.out.size)); have E4 := Lib.hid (part_on E3.out hb)
  clear hb HCK E3 y0 y1 y2
  cases hok : okP (p1, p2) with
  | false =>
    have e2 : chkS (p1, p2) = 2 := by unfold chkS; rw [hok]; rfl
    rw [e2]
    go_wp2_with fail
    exact bodyPost_ret (v := .bool true) (by simp [results, Tryz.results6, go_sem]) rfl ⟨rfl, HB4.out⟩
  | true =>
  have e2 : chkS (p1, p2) = 0 := by unfold chkS; rw [hok]; rfl
  rw [e2]
  have OK := Lib.hid hok
  clear e2 hok
  have HTX := Lib.hid (Text_any p1 p2 w4 SOP.out (HT.out _ HB4.out))
  obtain ⟨y0, y1, y2⟩ := part_at E4.out
  go_wp2_with fail
  refine HTX.out.mono ?_
  rintro e w5 ⟨rfl, hb⟩
  have HB5 := Lib.hid (HB4.out.trans (hb.mono HB4.out.size)); have E5 := Lib.hid (part_on E4.out hb)
  clear hb HTX E4 y0 y1 y2
  obtain ⟨S0, hS0⟩ : ∃ s, textS (p1, p2) = s := ⟨_, rfl⟩
  have hrd := readS_textS OK.out
  have hz : S0.size ≤ maxLen := by
    rw [← hS0]; unfold textS
    rw [OK.out]; simp only [if_true]
    have := SP.out
    unfold maxLen
    split
    · omega
    · rw [ByteArray.size_append, ByteArray.size_append, show (⟨#[47]⟩ : ByteArray).size = 1 from rfl]; omega
  rw [hS0] at hrd ⊢
  have hra := Read_any S0 mx w5 hz (HM.out _ HB5.out) (HT.out _ HB5.out)
  rw [hrd] at hra
  have hra2 : Calls Tryz.prog 11 #[.string S0] w5 fun e w' => e = .returned (.tuple #[.agg #[.string p1, .string p2], .int .i64 0]) ∧ Below w5.heap.size w5 w' := hra
  have HRA := Lib.hid hra2
  clear hra hra2 hrd hz hS0
  go_wp2_with fail
  refine HRA.out.mono ?_
  rintro e w6 ⟨rfl, hb⟩
  have HB6 := Lib.hid (HB5.out.trans (hb.mono HB5.out.size)); have E6 := Lib.hid (part_on E5.out hb)
  clear hb HRA E5
  obtain ⟨n, hn⟩ : ∃ n : Nat, k % 31 = (n : Int) := ⟨(k % 31).toNat, by omega⟩
  have hn30 : n ≤ 30 := by omega
  obtain ⟨W6, hW6⟩ : ∃ W, W = w6.alloc (.cells #[.string p1, .string p2] 24) := ⟨_, rfl⟩
  have b6 : Below w6.heap.size w6 W6 := by rw [hW6]; exact (Below.refl _ _).alloc (Nat.le_refl _) _
  have Q6 : Hid (W6.heap[w6.heap.size]? = some (partO p1 p2)) := Lib.hid (by rw [hW6]; exact Go.Deep.blk_alloc_new _ _)
  have HW6 := Lib.hid hW6; have HBW6 := Lib.hid (HB6.out.trans (b6.mono HB6.out.size)); have EW6 := Lib.hid (part_on E6.out b6)
  clear hW6 b6
  obtain ⟨y0, y1, y2⟩ := part_at E6.out
  obtain ⟨D, U, ⟨a1, a2⟩, ⟨b1, b2⟩, ⟨c1, c2⟩, hbt⟩ := back_facts OK.out SP.out.1 hn30
  have BT := Lib.hid hbt
  have hdc := Decimal_any p1 p2 (n : Int) W6 (Nat.le_trans SP.out.1 (by decide)) (Nat.le_trans SP.out.2 (by decide)) (HT.out _ HBW6.out)
  rw [hbt.dec] at hdc
  have HDC := Lib.hid hdc
  clear hbt hdc
  go_upto_region 6 with fail
  rw [← HW6.out]
  simp only [hn]
  obtain ⟨y0, y1, y2⟩ := part_at EW6.out
  go_wp2_with fail
  refine HDC.out.mono ?_
  rintro e w7 ⟨rfl, hb⟩
  have HB7 := Lib.hid (HBW6.out.trans (hb.mono HBW6.out.size)); have E7 := Lib.hid (part_on EW6.out hb); have Q7 := Lib.hid (part_on Q6.out hb)
  clear hb HDC E6 EW6 Q6 HW6 y0 y1 y2
  have hra := Read_any D mx w7 (Nat.le_trans BT.out.sd (by decide)) (HM.out _ HB7.out) (HT.out _ HB7.out)
  rw [BT.out.rd] at hra
  have hra2 : Calls Tryz.prog 11 #[.string D] w7 fun e w' => e = .returned (.tuple #[.agg #[.string a1, .string a2], .int .i64 0]) ∧ Below w7.heap.size w7 w' := hra
  have HRA := Lib.hid hra2
  clear hra hra2
  go_wp2_with fail
  refine HRA.out.mono ?_
  rintro e w8 ⟨rfl, hb⟩
  have HB8 := Lib.hid (HB7.out.trans (hb.mono HB7.out.size)); have E8 := Lib.hid (part_on E7.out hb); have Q8 := Lib.hid (part_on Q7.out hb)
  clear hb HRA E7 Q7
  obtain ⟨W8, hW8⟩ : ∃ W, W = w8.alloc (.cells #[.string a1, .string a2] 24) := ⟨_, rfl⟩
  have b8 : Below w8.heap.size w8 W8 := by rw [hW8]; exact (Below.refl _ _).alloc (Nat.le_refl _) _
  have A8 : Hid (W8.heap[w8.heap.size]? = some (partO a1 a2)) := Lib.hid (by rw [hW8]; exact Go.Deep.blk_alloc_new _ _)
  have HW8 := Lib.hid hW8; have HBW8 := Lib.hid (HB8.out.trans (b8.mono HB8.out.size)); have EW8 := Lib.hid (part_on E8.out b8); have QW8 := Lib.hid (part_on Q8.out b8)
  clear hW8 b8 E8 Q8
  have hra := Read_any U mx W8 (Nat.le_trans BT.out.su (by decide)) (HM.out _ HBW8.out) (HT.out _ HBW8.out)
  rw [BT.out.ru] at hra
  have hra2 : Calls Tryz.prog 11 #[.string U] W8 fun e w' => e = .returned (.tuple #[.agg #[.string b1, .string b2], .int .i64 0]) ∧ Below W8.heap.size W8 w' := hra
  have HRA := Lib.hid hra2
  clear hra hra2
  go_upto_region 8 with fail
  rw [← HW8.out]
  go_wp2_with fail
  refine HRA.out.mono ?_
  rintro e w9 ⟨rfl, hb⟩
  have HB9 := Lib.hid (HBW8.out.trans (hb.mono HBW8.out.size)); have E9 := Lib.hid (part_on EW8.out hb); have Q9 := Lib.hid (part_on QW8.out hb); have A9 := Lib.hid (part_on A8.out hb)
  clear hb HRA EW8 QW8 A8 HW8
  obtain ⟨W9, hW9⟩ : ∃ W, W = w9.alloc (.cells #[.string b1, .string b2] 24) := ⟨_, rfl⟩
  have b9 : Below w9.heap.size w9 W9 := by rw [hW9]; exact (Below.refl _ _).alloc (Nat.le_refl _) _
  have B9 : Hid (W9.heap[w9.heap.size]? = some (partO b1 b2)) := Lib.hid (by rw [hW9]; exact Go.Deep.blk_alloc_new _ _)
  have HW9 := Lib.hid hW9; have HBW9 := Lib.hid (HB9.out.trans (b9.mono HB9.out.size)); have EW9 := Lib.hid (part_on E9.out b9); have QW9 := Lib.hid (part_on Q9.out b9); have AW9 := Lib.hid (part_on A9.out b9)
  clear hW9 b9 E9 Q9 A9
  have hsu := Sub_any (b1, b2) (a1, a2) W9 BT.out.sb BT.out.sa (HT.out _ HBW9.out)
  rw [BT.out.sub] at hsu
  have hsu2 : Calls Tryz.prog 14 #[.agg #[.string b1, .string b2], .agg #[.string a1, .string a2]] W9 fun e w' => e = .returned (.tuple #[.agg #[.string c1, .string c2], .int .i64 0]) ∧ Below W9.heap.size W9 w' := hsu
  have HSU := Lib.hid hsu2
  clear hsu hsu2
  obtain ⟨y0, y1, y2⟩ := part_at EW9.out
  obtain ⟨z0, z1, z2⟩ := part_at QW9.out
  obtain ⟨a0, a3, a4⟩ := part_at AW9.out
  obtain ⟨b0, b3, b4⟩ := part_at B9.out
  go_upto_region 9 with fail
  rw [← HW9.out]
  go_wp2_with fail
  refine HSU.out.mono ?_
  rintro e wa ⟨rfl, hb⟩
  have HBa := Lib.hid (HBW9.out.trans (hb.mono HBW9.out.size)); have Ea := Lib.hid (part_on EW9.out hb); have Aa := Lib.hid (part_on AW9.out hb); have Ba := Lib.hid (part_on B9.out hb)
  clear hb HSU EW9 QW9 AW9 B9 HW9 y0 y1 y2 z0 z1 z2 a0 a3 a4 b0 b3 b4
  obtain ⟨V1, hV1⟩ : ∃ W, W = wa.alloc (.cells #[.string c1, .string c2] 24) := ⟨_, rfl⟩
  obtain ⟨V2, hV2⟩ : ∃ W, W = V1.alloc (.cells #[.string ⟨#[49]⟩, .string ⟨#[49]⟩] 24) := ⟨_, rfl⟩
  obtain ⟨V3, hV3⟩ : ∃ W, W = V2.alloc (.cells #[.string ⟨#[49]⟩, .string ⟨#[49, 48]⟩] 24) := ⟨_, rfl⟩
  have v01 : Below wa.heap.size wa V1 := by rw [hV1]; exact (Below.refl _ _).alloc (Nat.le_refl _) _
  have v12 : Below V1.heap.size V1 V2 := by rw [hV2]; exact (Below.refl _ _).alloc (Nat.le_refl _) _
  have v23 : Below V2.heap.size V2 V3 := by rw [hV3]; exact (Below.refl _ _).alloc (Nat.le_refl _) _
  have z1 : V1.heap.size = wa.heap.size + 1 := by rw [hV1, World.size_alloc]
  have z2 : V2.heap.size = wa.heap.size + 1 + 1 := by rw [hV2, World.size_alloc, z1]
  have v13 := below_chain v12 v23
  have v03 := below_chain v01 v13
  have d1 : dec 1 = (⟨#[49]⟩ : ByteArray) := dec_num (s := ⟨#[49]⟩) (by decide)
  have d10 : dec 10 = (⟨#[49, 48]⟩ : ByteArray) := dec_num (s := ⟨#[49, 48]⟩) (by decide)
  have KC : Hid (V3.heap[wa.heap.size]? = some (partO c1 c2)) := Lib.hid (part_on (by rw [hV1]; exact Go.Deep.blk_alloc_new _ _) v13)
  have KU : Hid (V3.heap[wa.heap.size + 1]? = some (partO (dec 1) (dec (10 ^ 0)))) := Lib.hid (part_on (by rw [← z1, hV2, Nat.pow_zero, d1]; exact Go.Deep.blk_alloc_new _ _) v23)
  have KT : Hid (V3.heap[wa.heap.size + 1 + 1]? = some (partO (dec 1) (dec 10))) := Lib.hid (by rw [← z2, hV3, d1, d10]; exact Go.Deep.blk_alloc_new _ _)
  have KE := Lib.hid (part_on Ea.out v03); have KA := Lib.hid (part_on Aa.out v03); have KB := Lib.hid (part_on Ba.out v03)
  have ltE := (Array.getElem?_eq_some_iff.1 Ea.out).1
  have ltA := (Array.getElem?_eq_some_iff.1 Aa.out).1
  have ltB := (Array.getElem?_eq_some_iff.1 Ba.out).1
  have LT := Lib.hid (And.intro ltE (And.intro ltA ltB))
  have HBV := Lib.hid (HBa.out.trans (v03.mono HBa.out.size)); have HZ := Lib.hid HBa.out.size
  have HV1 := Lib.hid hV1; have HV2 := Lib.hid hV2; have HV3 := Lib.hid hV3
  clear hV1 hV2 hV3 v01 v12 v23 v13 v03 z1 z2 d1 d10 Ea Aa Ba ltE ltA ltB
  go_upto_region 14 with fail
  rw [← HV1.out, ← HV2.out, ← HV3.out]
  go_wp2_with fail
  go_loopw [90] (fun iv wr => ∃ i : Nat, i ≤ n ∧ iv = .int .i64 (i : Int) ∧ Hid (Below w.heap.size w wr) ∧ Hid (wr.heap[w.heap.size]? = some (partO p1 p2)) ∧ Hid (wr.heap[w8.heap.size]? = some (partO a1 a2)) ∧ Hid (wr.heap[w9.heap.size]? = some (partO b1 b2)) ∧ Hid (wr.heap[wa.heap.size]? = some (partO c1 c2)) ∧ Hid (wr.heap[wa.heap.size + 1]? = some (partO (dec 1) (dec (10 ^ i)))) ∧ Hid (wr.heap[wa.heap.size + 1 + 1]? = some (partO (dec 1) (dec 10)))) (fun iv _ => n - (intOf iv).toNat)
  case atStart => exact ⟨0, Nat.zero_le _, rfl, HBV, KE, KA, KB, KC, KU, KT⟩
  case round =>
    obtain ⟨i, hin, rfl, HB, JE, JA, JB, JC, JU, JT⟩ := hrel
    by_cases hlt : i < n
    case pos =>
      have hlti : (i : Int) < (n : Int) := by omega
      obtain ⟨u0, u1, u2⟩ := part_at JU.out
      obtain ⟨t0, t1, t2⟩ := part_at JT.out
      have hmu := Mul_any (frP (1, 10 ^ i)) (frP (1, 10)) wr (frP_short (unit_frt (by omega))) (frP_short (unit_frt (k := 1) (by decide))) (HT.out _ HB.out)
      rw [unit_mul (by omega)] at hmu
      have hmu2 : Calls Tryz.prog 24 #[.agg #[.string (dec 1), .string (dec (10 ^ i))], .agg #[.string (dec 1), .string (dec 10)]] wr fun e w' => e = .returned (.tuple #[.agg #[.string (dec 1), .string (dec (10 ^ (i + 1)))], .int .i64 0]) ∧ Below wr.heap.size wr w' := hmu
      have HMU := Lib.hid hmu2
      clear hmu hmu2
      generalize hx1 : dec 1 = x1 at *
      generalize hx2 : dec (10 ^ i) = x2 at *
      generalize hx3 : dec 10 = x3 at *
      generalize hx4 : dec (10 ^ (i + 1)) = x4 at *
      go_wp2_with fail
      refine HMU.out.mono ?_
      rintro e wm ⟨rfl, hb⟩
      have je := part_on JE.out hb; have ja := part_on JA.out hb; have jb := part_on JB.out hb; have jc := part_on JC.out hb; have ju := part_on JU.out hb; have jt := part_on JT.out hb
      have HBm := Lib.hid (below_chain HB.out hb)
      clear hb HMU u0 u1 u2 t0 t1 t2
      have q0 := set_cells ju 0; have q1 := set_cells ju 1
      simp only [List.getElem?_toArray, List.getElem?_cons_zero, List.getElem?_cons_succ] at q0 q1
      have f0 : wm.frozen? ⟨wa.heap.size + 1, 0, none⟩ = false := by simp [World.frozen?, ju, partO]
      have f1 : wm.frozen? ⟨wa.heap.size + 1, 1, none⟩ = false := by simp [World.frozen?, ju, partO]
      have hoth : ∀ m, m ≠ wa.heap.size + 1 → ((wm.setCell ⟨wa.heap.size + 1, 0, none⟩ (.string x1)).setCell ⟨wa.heap.size + 1, 1, none⟩ (.string x4)).heap[m]? = wm.heap[m]? := fun m hm => by
        rw [heap_setCell_other _ _ _ _ hm, heap_setCell_other _ _ _ _ hm]
      have g0 := heap_setCell_same wm (wa.heap.size + 1) 0 _ _ (.string x1) ju
      have g1 := heap_setCell_same _ (wa.heap.size + 1) 1 _ _ (.string x4) g0
      simp only [List.setIfInBounds_toArray, List.set_cons_zero, List.set_cons_succ] at g1
      have hz := HZ.out; have hlt3 := LT.out
      have hbz := (HBm.out.setCell (p := ⟨wa.heap.size + 1, 0, none⟩) (Nat.le_succ_of_le hz) (.string x1)).setCell (p := ⟨wa.heap.size + 1, 1, none⟩) (Nat.le_succ_of_le hz) (.string x4)
      have RE := Lib.hid ((hoth w.heap.size (by omega)).trans je); have RA := Lib.hid ((hoth w8.heap.size (by omega)).trans ja); have RB := Lib.hid ((hoth w9.heap.size (by omega)).trans jb); have RC := Lib.hid ((hoth wa.heap.size (by omega)).trans jc); have RT := Lib.hid ((hoth (wa.heap.size + 1 + 1) (by omega)).trans jt); have RU := Lib.hid g1; have RZ := Lib.hid hbz
      clear je ja jb jc ju jt hoth g0 g1 hz hlt3 hbz
      go_wp2_with fail
      subst hx1 hx3 hx4
      exact ⟨⟨i + 1, by omega, rfl, RZ, RE, RA, RB, RC, RU, RT⟩, by simp [intOf]; omega⟩
    case neg =>
      have hin2 : i = n := by omega
      subst hin2
      rcases BT.out.alt with ⟨v1, v2, v3⟩ | ⟨v1, v2, v3⟩
      · injection v3 with v4 v5
        subst v4 v5
        have V1 := Lib.hid v1; have V2 := Lib.hid v2
        clear v1 v2
        have HCA : Hid (∀ W, Below w.heap.size w W → Calls Tryz.prog 26 #[.agg #[.string a1, .string a2], .agg #[.string p1, .string p2]] W fun e w' => e = .returned (.int .i64 0) ∧ Below W.heap.size W w') := Lib.hid fun W hW => by
          have h := Compare_any (a1, a2) (p1, p2) W BT.out.sa SOP.out (HT.out _ hW)
          rw [V1.out] at h; exact h
        have HCB : Hid (∀ W, Below w.heap.size w W → Calls Tryz.prog 26 #[.agg #[.string p1, .string p2], .agg #[.string a1, .string a2]] W fun e w' => e = .returned (.int .i64 0) ∧ Below W.heap.size W w') := Lib.hid fun W hW => by
          have h := Compare_any (p1, p2) (a1, a2) W SOP.out BT.out.sb (HT.out _ hW)
          rw [V2.out] at h; exact h
        obtain ⟨e0, e1, e2⟩ := part_at JE.out
        obtain ⟨a0, a1, a2⟩ := part_at JA.out
        obtain ⟨b0, b1, b2⟩ := part_at JB.out
        obtain ⟨c0, c1, c2⟩ := part_at JC.out
        obtain ⟨u0, u1, u2⟩ := part_at JU.out
        go_wp2_with fail
        refine (HCA.out wr HB.out).mono ?_
        rintro e x1 ⟨rfl, hb⟩
        have XB := Lib.hid (below_chain HB.out hb)
        have XE := Lib.hid (part_on JE.out hb); have XA := Lib.hid (part_on JA.out hb); have XB2 := Lib.hid (part_on JB.out hb); have XC := Lib.hid (part_on JC.out hb); have XU := Lib.hid (part_on JU.out hb)
        clear hb
        obtain ⟨e0, e1, e2⟩ := part_at XE.out
        obtain ⟨f0, f1, f2⟩ := part_at XA.out
        obtain ⟨g0, g1, g2⟩ := part_at XB2.out
        obtain ⟨c0, c1, c2⟩ := part_at XC.out
        obtain ⟨u0, u1, u2⟩ := part_at XU.out
        go_wp2_with fail
        refine (HCA.out x1 XB.out).mono ?_
        rintro e x2 ⟨rfl, hb⟩
        have YB := Lib.hid (below_chain XB.out hb)
        have YE := Lib.hid (part_on XE.out hb); have YA := Lib.hid (part_on XA.out hb); have YB2 := Lib.hid (part_on XB2.out hb); have YC := Lib.hid (part_on XC.out hb); have YU := Lib.hid (part_on XU.out hb)
        clear hb
        obtain ⟨e0, e1, e2⟩ := part_at YE.out
        obtain ⟨f0, f1, f2⟩ := part_at YA.out
        obtain ⟨g0, g1, g2⟩ := part_at YB2.out
        obtain ⟨c0, c1, c2⟩ := part_at YC.out
        obtain ⟨u0, u1, u2⟩ := part_at YU.out
        go_wp2_with fail
        refine (HCB.out x2 YB.out).mono ?_
        rintro e x3 ⟨rfl, hb⟩
        have ZB := Lib.hid (below_chain YB.out hb)
        have ZE := Lib.hid (part_on YE.out hb); have ZA := Lib.hid (part_on YA.out hb); have ZB2 := Lib.hid (part_on YB2.out hb); have ZC := Lib.hid (part_on YC.out hb); have ZU := Lib.hid (part_on YU.out hb)
        clear hb
        obtain ⟨e0, e1, e2⟩ := part_at ZE.out
        obtain ⟨f0, f1, f2⟩ := part_at ZA.out
        obtain ⟨g0, g1, g2⟩ := part_at ZB2.out
        obtain ⟨c0, c1, c2⟩ := part_at ZC.out
        obtain ⟨u0, u1, u2⟩ := part_at ZU.out
        go_wp2_with fail
        exact bodyPost_ret (v := .bool true) (by simp [results, Tryz.results6, go_sem]) rfl ⟨rfl, ZB.out⟩
      · injection v3 with v4 v5
        subst v4 v5
        have V1 := Lib.hid v1; have V2 := Lib.hid v2
        clear v1 v2
        have HCA : Hid (∀ W, Below w.heap.size w W → Calls Tryz.prog 26 #[.agg #[.string a1, .string a2], .agg #[.string p1, .string p2]] W fun e w' => e = .returned (.int .i64 (-1)) ∧ Below W.heap.size W w') := Lib.hid fun W hW => by
          have h := Compare_any (a1, a2) (p1, p2) W BT.out.sa SOP.out (HT.out _ hW)
          rw [V1.out] at h; exact h
        have HCB : Hid (∀ W, Below w.heap.size w W → Calls Tryz.prog 26 #[.agg #[.string p1, .string p2], .agg #[.string b1, .string b2]] W fun e w' => e = .returned (.int .i64 (-1)) ∧ Below W.heap.size W w') := Lib.hid fun W hW => by
          have h := Compare_any (p1, p2) (b1, b2) W SOP.out BT.out.sb (HT.out _ hW)
          rw [V2.out] at h; exact h
        obtain ⟨e0, e1, e2⟩ := part_at JE.out
        obtain ⟨a0, a1, a2⟩ := part_at JA.out
        obtain ⟨b0, b1, b2⟩ := part_at JB.out
        obtain ⟨c0, c1, c2⟩ := part_at JC.out
        obtain ⟨u0, u1, u2⟩ := part_at JU.out
        go_wp2_with fail
        refine (HCA.out wr HB.out).mono ?_
        rintro e x1 ⟨rfl, hb⟩
        have XB := Lib.hid (below_chain HB.out hb)
        have XE := Lib.hid (part_on JE.out hb); have XA := Lib.hid (part_on JA.out hb); have XB2 := Lib.hid (part_on JB.out hb); have XC := Lib.hid (part_on JC.out hb); have XU := Lib.hid (part_on JU.out hb)
        clear hb
        obtain ⟨e0, e1, e2⟩ := part_at XE.out
        obtain ⟨f0, f1, f2⟩ := part_at XA.out
        obtain ⟨g0, g1, g2⟩ := part_at XB2.out
        obtain ⟨c0, c1, c2⟩ := part_at XC.out
        obtain ⟨u0, u1, u2⟩ := part_at XU.out
        go_wp2_with fail
        refine (HCA.out x1 XB.out).mono ?_
        rintro e x2 ⟨rfl, hb⟩
        have YB := Lib.hid (below_chain XB.out hb)
        have YE := Lib.hid (part_on XE.out hb); have YA := Lib.hid (part_on XA.out hb); have YB2 := Lib.hid (part_on XB2.out hb); have YC := Lib.hid (part_on XC.out hb); have YU := Lib.hid (part_on XU.out hb)
        clear hb
        obtain ⟨e0, e1, e2⟩ := part_at YE.out
        obtain ⟨f0, f1, f2⟩ := part_at YA.out
        obtain ⟨g0, g1, g2⟩ := part_at YB2.out
        obtain ⟨c0, c1, c2⟩ := part_at YC.out
        obtain ⟨u0, u1, u2⟩ := part_at YU.out
        go_wp2_with fail
        refine (HCB.out x2 YB.out).mono ?_
        rintro e x3 ⟨rfl, hb⟩
        have ZB := Lib.hid (below_chain YB.out hb)
        have ZE := Lib.hid (part_on YE.out hb); have ZA := Lib.hid (part_on YA.out hb); have ZB2 := Lib.hid (part_on YB2.out hb); have ZC := Lib.hid (part_on YC.out hb); have ZU := Lib.hid (part_on YU.out hb)
        clear hb
        obtain ⟨e0, e1, e2⟩ := part_at ZE.out
        obtain ⟨f0, f1, f2⟩ := part_at ZA.out
        obtain ⟨g0, g1, g2⟩ := part_at ZB2.out
        obtain ⟨c0, c1, c2⟩ := part_at ZC.out
        obtain ⟨u0, u1, u2⟩ := part_at ZU.out
        go_wp2_with fail
        exact bodyPost_ret (v := .bool true) (by simp [results, Tryz.results6, go_sem]) rfl ⟨rfl, ZB.out⟩

end Go.Proofs.YtkggfeemjabdeaaGreatDoor.Wc
end
