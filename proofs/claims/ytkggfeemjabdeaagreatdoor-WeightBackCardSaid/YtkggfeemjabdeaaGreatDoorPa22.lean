/- Contract of gcd. -/
import Derived.Deep.LoopGhost
import Derived.Test.YtkggfeemjabdeaaGreatDoorPa19
import Derived.Test.YtkggfeemjabdeaaGreatDoorPa21
namespace Go.Proofs.YtkggfeemjabdeaaGreatDoor
open Go.RowKit

/-- what is known of the leading words of two numbers. -/
structure Ready (f g : Nat → Nat) (k m X Y H α β : Nat) : Prop where
  xR : X < R64
  le : Y ≤ X
  eA : val f (k + 2) = X * H + α
  eB : val g m = Y * H + β
  hα : α < H
  hβ : β < H
  zero : m ≤ k → Y = 0

theorem lead_ready (k m ga oa ca gb ob cb : Nat) (f g : Nat → Nat) (w : World) (hn : k + 2 ≤ 201) (hm : 2 ≤ m) (hmk : m ≤ k + 2)
    (cf : ∀ i, i < k + 2 → w.cell? ⟨ga, oa + i, none⟩ = some (.int .u64 (f i))) (cg : ∀ i, i < m → w.cell? ⟨gb, ob + i, none⟩ = some (.int .u64 (g i)))
    (hf : Nrm f (k + 2)) (hg : Nrm g m) (hle : val g m ≤ val f (k + 2)) :
    ∃ X Y H α β, Ready f g k m X Y H α β ∧ ∀ W : World, Below w.heap.size w W → Calls Tryz.prog 133 #[.slice (some ⟨ga, oa, none⟩) (k + 2) ca, .slice (some ⟨gb, ob, none⟩) m cb] W fun e w' => e = .returned (.tuple #[.int .u64 X, .int .u64 Y]) ∧ ∃ q, w' = W.drewN q := by
  have ptop : 0 < f (k + 1) := by
    rcases hf.top with h | h
    · omega
    · exact Nat.pos_of_ne_zero h
  obtain ⟨s, hs, s64, hw, _⟩ := lead_spec (hf.lim (k + 1) (by omega)) ptop
  have lG : ∀ i, cutf g m i < R64 := cutf_lim hg.lim
  have eG : val (cutf g m) (k + 2) = val g m := val_cutf hmk
  have htop : cutf g m (k + 1) ≤ f (k + 1) := by
    rcases Nat.lt_or_ge (f (k + 1)) (cutf g m (k + 1)) with h | h
    · have := val_cmp (f := f) (g := cutf g m) (i := k + 1) (fun j hj => hf.lim j (by omega)) (fun j _ => lG j) h (n := k + 2) (by omega) (fun j h1 h2 => by omega)
      omega
    · exact h
  have hgw : cutf g m (k + 1) * 2 ^ s < R64 := Nat.lt_of_le_of_lt (Nat.mul_le_mul_right _ htop) hw
  obtain ⟨a1, a2⟩ := ldw_split f k (Nat.le_of_lt s64) (fun i hi => hf.lim i (by omega))
  obtain ⟨b1, b2⟩ := ldw_split (cutf g m) k (Nat.le_of_lt s64) (fun i _ => lG i)
  refine ⟨ldw f k s, ldw (cutf g m) k s, _, _, _, ⟨ldw_lt (Nat.le_of_lt s64) hw (hf.lim k (by omega)), ldw_le (Nat.le_of_lt s64) (fun i hi => hf.lim i (by omega)) (fun i _ => lG i) (by rw [eG]; exact hle), a1, by rw [← eG]; exact b1, a2, b2, fun h => ?_⟩, fun W hW => ?_⟩
  · unfold ldw; rw [cutf_ge (by omega), cutf_ge (by omega)]; simp
  · refine (leading_core k m s ga oa ca gb ob cb f g hn hm hmk W (fun i hi => cell_later hW (cf i hi)) (fun i hi => cell_later hW (cg i hi)) hf.lim hg.lim ptop hs s64 hw hgw).mono ?_
    rintro e w' ⟨h1, h2⟩
    exact ⟨h1, h2⟩

/-- the pair at the head of a round. -/
def Pair (w : World) (B : Nat) (va vb : Value) (X Y : Nat) : Prop :=
  Y ≤ X ∧ X < Big ∧ ((Y < R64 ∧ NatV w va X ∧ NatV w vb Y) ∨ (NatOwn w B va X ∧ NatOwn w B vb Y ∧ ∀ k, va.ownBlock = some k → vb.ownBlock ≠ some k))

theorem Pair.natV {w : World} {B : Nat} {va vb : Value} {X Y : Nat} (h : Pair w B va vb X Y) : NatV w va X ∧ NatV w vb Y := by
  rcases h.2.2 with ⟨_, h1, h2⟩ | ⟨h1, h2, _⟩
  · exact ⟨h1, h2⟩
  · exact ⟨h1.natV, h2.natV⟩

theorem NatOwn.base {w : World} {B : Nat} {v : Value} {x k : Nat} (h : NatOwn w B v x) (hk : v.ownBlock = some k) : B ≤ k ∧ k < w.heap.size := by
  obtain ⟨n, f, h1, _, _⟩ := h
  rcases h1 with ⟨rfl, _⟩ | ⟨b, off, cap, rfl, _, _, h3, h4, _⟩
  · cases hk
  · cases hk; exact ⟨h3, h4⟩

set_option maxRecDepth 100000 in
set_option maxHeartbeats 2000000 in
theorem gcd_core (x y : Nat) (va vb : Value) (w : World) (ha : NatV w va x) (hb : NatV w vb y) (hx : x < Big) (hy : y < Big) :
    Calls Tryz.prog 68 #[va, vb] w (RetNatS [va, vb] (Nat.gcd x y) w) := by
  have HA := Lib.hid ha; have HB := Lib.hid hb
  clear ha hb
  go_enter Tryz.func68, Tryz.ntmps68
  go_wp2_with fail
  refine (compare_any va vb x y w HA.out HB.out).mono ?_
  rintro e w' ⟨rfl, q, rfl⟩
  go_upto_if 14 with fail
  go_cut [0, 1] (fun s0 s1 wx => ∃ X Y, NatV wx s0 X ∧ NatV wx s1 Y ∧ Y ≤ X ∧ X < Big ∧ Nat.gcd X Y = Nat.gcd x y ∧ Below w.heap.size w wx ∧ Src w [va, vb] s0 ∧ Src w [va, vb] s1)
  case first =>
    by_cases hlt : x < y
    · rw [cmpN_lt hlt]
      go_wp2_with fail
      go_meet
      case rel => exact ⟨y, x, HB.out.below (below_draws w q), HA.out.below (below_draws w q), Nat.le_of_lt hlt, hy, Nat.gcd_comm _ _, below_draws w q, fun b hb => .inr ⟨vb, by simp, hb⟩, fun b hb => .inr ⟨va, by simp, hb⟩⟩
    · have hc : ¬ (cmpN x y < 0) := by unfold cmpN; rw [if_neg hlt]; split <;> omega
      go_wp2_with fail
      go_meet
      case rel => exact ⟨x, y, HA.out.below (below_draws w q), HB.out.below (below_draws w q), by omega, hx, rfl, below_draws w q, fun b hb => .inr ⟨va, by simp, hb⟩, fun b hb => .inr ⟨vb, by simp, hb⟩⟩
  case rest =>
    obtain ⟨X, Y, h0, h1, hYX, hXB, hg, hbw, hs0, hs1⟩ := hcut
    have HS0 := Lib.hid hs0; have HS1 := Lib.hid hs1; clear hs0 hs1
    obtain ⟨n, f, r0, hf, e0, hn⟩ := h0.small hXB
    obtain ⟨m, g, r1, hg', e1, hm⟩ := h1.small (by omega)
    obtain ⟨a', c', rfl⟩ := r1.shape
    have H0 := Lib.hid h0; have H1 := Lib.hid h1; have HG := Lib.hid hg; have HBW := Lib.hid hbw; have R0 := Lib.hid r0; have R1 := Lib.hid r1; have E0 := Lib.hid e0; have E1 := Lib.hid e1
    clear h0 h1 hg hbw r0 r1 e0 e1
    go_upto_if 19 with fail
    go_cut [0, 1] (fun s0 s1 wx => ∃ X Y, Pair wx w.heap.size s0 s1 X Y ∧ Nat.gcd X Y = Nat.gcd x y ∧ Below w.heap.size w wx ∧ Src w [va, vb] s0 ∧ Src w [va, vb] s1)
    case first =>
      by_cases hm1 : 1 < m
      · go_wp2_with fail
        refine (clone_any _ n f _ (by omega) R0.out).mono ?_
        rintro e w1 ⟨u0, rfl, hu0, hb1⟩
        have HU0 := Lib.hid hu0; have HB1 := Lib.hid hb1; clear hu0 hb1
        go_wp2_with fail
        refine (clone_any _ m g _ (by omega) (R1.out.below HB1.out)).mono ?_
        rintro e w2 ⟨u1, rfl, hu1, hb2⟩
        have HU1 := Lib.hid hu1; have HB2 := Lib.hid hb2; clear hu1 hb2
        go_wp2_with fail
        go_meet
        case rel =>
          have o1 : NatOwn w2 w1.heap.size u1 Y := ⟨m, g, HU1.out, hg', E1.out⟩
          have o0' : NatOwn w1 wc.heap.size u0 X := ⟨n, f, HU0.out, hf, E0.out⟩
          have o0 := o0'.below HB2.out
          have s1 := HBW.out.size
          have s2 := HB1.out.size
          refine ⟨X, Y, ⟨hYX, hXB, .inr ⟨o0.mono s1, o1.mono (by omega), fun k h1 h2 => ?_⟩⟩, HG.out, HBW.out.trans ((HB1.out.mono s1).trans (HB2.out.mono (by omega))), fun b hb => .inl (by have := (o0'.base hb).1; omega), fun b hb => .inl (by have := (o1.base hb).1; omega)⟩
          have k1 := o0'.base h1
          have k2 := o1.base h2
          omega
      · go_wp2_with fail
        go_meet
        case rel =>
          have hYR : Y < R64 := by
            have := val_lt hg'.lim
            have h2 := pow_le_pow (show m ≤ 1 by omega)
            rw [Nat.pow_one] at h2
            rw [← E1.out]; omega
          exact ⟨X, Y, ⟨hYX, hXB, .inl ⟨hYR, H0.out, H1.out⟩⟩, HG.out, HBW.out, HS0.out, HS1.out⟩
    case rest =>
      obtain ⟨X', Y', hpr, hg2, hbw2, hs0, hs1⟩ := hcut
      have HS2 := Lib.hid hs0; have HS3 := Lib.hid hs1; clear hs0 hs1
      have HP := Lib.hid hpr; have HG2 := Lib.hid hg2; have HBW2 := Lib.hid hbw2
      clear hpr hg2 hbw2
      go_wp2_with fail
      go_loopg [0, 1] Y' (fun k s0 s1 wr => ∃ X, Pair wr w.heap.size s0 s1 X k ∧ Nat.gcd X k = Nat.gcd x y ∧ Below w.heap.size w wr ∧ Src w [va, vb] s0)
      case atStart => exact ⟨X', HP.out, HG2.out, HBW2.out, HS2.out⟩
      case round =>
        obtain ⟨X, hp, hg, hb, hs⟩ := hrel
        have HS := Lib.hid hs; clear hs
        have hpn := hp.natV
        obtain ⟨m, g, r1, hgn, e1, hm⟩ := hpn.2.small (by have := hp.1; have := hp.2.1; omega)
        obtain ⟨a1, cap1, rfl⟩ := r1.shape
        have HP2 := Lib.hid hp; have HG3 := Lib.hid hg; have HB3 := Lib.hid hb; have R1 := Lib.hid r1; have E1 := Lib.hid e1
        clear hp hg hb hpn r1 e1
        by_cases hm1 : 1 < m
        · have hYbig : R64 ≤ gk := by
            have h1 := val_ge (f := g) (n := m) (by omega) (by rcases hgn.top with h | h; omega; exact h)
            have h2 := pow_le_pow (show 1 ≤ m - 1 by omega)
            rw [Nat.pow_one, E1.out] at *
            omega
          obtain ⟨hle, hXB', hdis⟩ := HP2.out
          rcases hdis with ⟨h, _, _⟩ | ⟨o0, o1, hd⟩
          · omega
          have NO1 := Lib.hid o1
          have NV0 := Lib.hid o0.natV; have NV1 := Lib.hid o1.natV
          obtain ⟨n, f, p0, hf', eX⟩ := o0
          obtain ⟨m2, g2, p1, hg2', eY⟩ := o1
          have P0 := Lib.hid p0; have P1 := Lib.hid p1
          rcases p1 with ⟨h0, h0'⟩ | ⟨gb, ob, cb, h0, _⟩
          · exfalso; injection h0 with _ h0; omega
          injection h0 with q1 q2 q3
          subst q1 q2 q3
          rcases p0 with ⟨h0, h0'⟩ | ⟨ga, oa, ca, h0, _⟩
          · exfalso; subst h0'; have eX0 : X = 0 := eX.symm; have := R64_pos; omega
          subst h0
          have hnm : m ≤ n := by
            rcases Nat.lt_or_ge n m with h5 | h5
            · have := hf'.len_lt hg2' h5; omega
            · exact h5
          have hn200 := hf'.len_le (k := 200) (by rw [eX]; exact hXB')
          have hne : ga ≠ gb := fun e => hd ga rfl (by rw [e]; rfl)
          obtain ⟨k, rfl⟩ : ∃ k, n = k + 2 := ⟨n - 2, by omega⟩
          have EX := Lib.hid eX; have EY := Lib.hid eY; have HD := Lib.hid hd
          clear eX eY hd
          obtain ⟨X0, Y0, H, α, β, hr, hlead⟩ := lead_ready k m ga oa ca gb ob _ f g2 wr (by omega) (by omega) hnm (fun i hi => P0.out.cell hi) (fun i hi => P1.out.cell hi) hf' hg2' (by rw [EX.out, EY.out]; exact hle)
          have HR := Lib.hid hr; have HLE := Lib.hid hlead
          clear hr hlead
          go_wp2_with fail
          refine (foresee_core X0 Y0 _ _ wr HR.out.le HR.out.xR HLE.out).mono ?_
          rintro e w1 ⟨a1, b1, a2, b2, even, ok, rfl, hw, hsure, hb1⟩
          have HW := Lib.hid hw; have HB1 := Lib.hid hb1; have HS := Lib.hid hsure
          clear hw hb1 hsure
          cases ok with
          | true =>
            obtain ⟨hs, hb0⟩ := HS.out rfl
            have hY0 : Y0 ≠ 0 := by
              intro e
              obtain ⟨P, Q, _, h1, h2, _, h4⟩ := hs 1 0 0 (X0 * 1 + 0) (Y0 * 1 + 0) rfl rfl (by omega) (by omega)
              have := h4 hb0
              omega
            obtain ⟨P, Q, hmk, hQ0, hQP, hgcd, hPB⟩ := hs H α β _ _ HR.out.eA HR.out.eB HR.out.hα HR.out.hβ
            have hPB := hPB hb0
            have hPn : P < R64 ^ (k + 2) := by
              have := val_lt hf'.lim
              rw [EX.out] at this; rw [EY.out] at hPB; omega
            have MK := Lib.hid hmk; have GC := Lib.hid hgcd; have PB := Lib.hid hPB
            clear hs hmk hgcd hPB
            have hmm : m = k + 2 ∨ m + 1 = k + 2 := by
              rcases Nat.lt_or_ge k m with h | h
              · omega
              · exact absurd (HR.out.zero h) hY0
            go_wp2_with fail
            refine (apply_core w.heap.size (k + 2) m ga oa ca gb ob _ a1 b1 a2 b2 P Q even f g2 _ (by simp; exact Nat.le_succ_of_le (Nat.le_trans HB3.out.size HB1.out.size)) (by omega) hmm (by omega) (by exact P0.out.below (HB1.out.alloc HB1.out.size _)) (by exact P1.out.below (HB1.out.alloc HB1.out.size _)) hne hf'.lim hg2'.lim HW.out MK.out hPn (Nat.lt_trans hQP hPn)).mono ?_
            rintro e w2 ⟨u, u', rfl, hu, hu', hd2, hb2⟩
            have HU := Lib.hid hu; have HU' := Lib.hid hu'; have HD2 := Lib.hid hd2; have HB2 := Lib.hid hb2; clear hu hu' hd2 hb2
            go_wp2_with fail
            go_roundg Q
            case measure => have := PB.out; rw [EY.out] at this; omega
            case rel =>
              have pb := PB.out
              rw [EY.out] at pb
              refine ⟨P, ⟨Nat.le_of_lt hQP, by omega, .inr ⟨HU.out, HU'.out, HD2.out⟩⟩, ?_, ?_, fun b hb => .inl (HU.out.base hb).1⟩
              · rw [GC.out, EX.out, EY.out]; exact HG3.out
              · exact HB3.out.trans (((HB1.out.alloc HB1.out.size _).mono HB3.out.size).trans HB2.out)
          | false =>
            go_wp2_with fail
            refine (divide_ge _ _ X gk _ (by exact NV0.out.below (HB1.out.alloc HB1.out.size _)) (by exact NV1.out.below (HB1.out.alloc HB1.out.size _)) hXB' (by have := R64_pos; omega) hle).mono ?_
            rintro e w2 ⟨u, u', rfl, hu, hu', hb2, hsq⟩
            have HU := Lib.hid hu'; have HB2 := Lib.hid hb2; clear hu hu' hb2 hsq
            go_wp2_with fail
            go_roundg (X % gk)
            case measure => exact Nat.mod_lt _ (by have := R64_pos; omega)
            case rel =>
              have sz : w.heap.size ≤ w1.heap.size := Nat.le_trans HB3.out.size HB1.out.size
              have n1' := NO1.out.below (HB1.out.alloc HB1.out.size (.cells #[.int .u64 a1, .int .u64 b1, .int .u64 a2, .int .u64 b2, .bool even] 125))
              have n2 := NatOwn.below n1' HB2.out
              refine ⟨gk, ⟨Nat.le_of_lt (Nat.mod_lt _ (by have := R64_pos; omega)), by omega, .inr ⟨n2, HU.out.mono (by simp; omega), fun j h1 h2 => ?_⟩⟩, ?_, ?_, fun b hb => .inl (n2.base hb).1⟩
              · have k1 := n1'.base h1
                have k2 := HU.out.base h2
                omega
              · rw [← HG3.out, Nat.gcd_comm X gk, Nat.gcd_rec gk X, Nat.gcd_comm]
              · exact HB3.out.trans (((HB1.out.alloc HB1.out.size _).mono HB3.out.size).trans (HB2.out.mono (by simp; omega)))
        · have hpn := HP2.out.natV
          have hle := HP2.out.1
          obtain ⟨n, f, r0, hf', eX, hn⟩ := hpn.1.small HP2.out.2.1
          have N0 := Lib.hid hpn.1; have R0 := Lib.hid r0; have EX := Lib.hid eX
          clear hpn r0 eX
          rcases Nat.eq_zero_or_pos m with h0 | h0
          · subst h0
            have hk0 : gk = 0 := E1.out.symm
            go_wp2_with fail
            refine (isZero_yes a1 cap1 wr).mono ?_
            rintro e w1 ⟨rfl, rfl⟩
            go_wp2_with fail
            go_ret
            refine ⟨_, rfl, ?_, HB3.out, HS.out⟩
            have hg := HG3.out
            rw [hk0, Nat.gcd_zero_right] at hg
            rw [← hg]
            exact N0.out
          · obtain rfl : m = 1 := by omega
            have e1 : g 0 = gk := by rw [← E1.out]; simp [val]
            have lk : gk < R64 := by rw [← e1]; exact hgn.lim 0 (by omega)
            have hk0 : 0 < gk := by
              rcases hgn.top with h | h
              · omega
              · rw [← e1]; exact Nat.pos_of_ne_zero h
            have r1 := R1.out
            rcases r1 with ⟨h1, h2⟩ | ⟨gb, ob, cb, h1, _, _, hbw', hcb⟩
            · omega
            injection h1 with q1 q2 q3
            subst q1 q3
            have cb0 := hcb 0 (by omega)
            rw [e1, Nat.add_zero] at cb0
            have hn0 : 0 < n := by
              rcases Nat.eq_zero_or_pos n with h | h
              · exfalso
                have := EX.out
                rw [h] at this
                have : X = 0 := this.symm
                omega
              · exact h
            have LF := Lib.hid hf'.lim
            clear e1 hcb q2
            go_wp2_with fail
            refine (isZero_no _ 1 _ (by unfold maxLen; omega) (by omega) wr).mono ?_
            rintro e w1 ⟨rfl, rfl⟩
            go_wp2_with fail
            go_region_with (first | (go_at_call 83; refine (clone_row _ n f _ hn0 (by omega) (by exact R0.out.drewN 1)).mono ?_; rintro e w1 ⟨b1, off1, cap1, rfl, k1, k2, k3, k4, k5, k6, hb1⟩; have hg1 := cell_later hb1 cb0; have K5 := Lib.hid k5; have K6 := Lib.hid k6; have HB1 := Lib.hid hb1; clear k5 k6 hb1) | (go_at_call 84; refine (shrink_core n gk f _ _ _ k1 k2 _ (by exact K5.out) (by exact K6.out) LF.out lk hk0).mono ?_; rintro e w2 ⟨k, r, h, rfl, hr, hk, hh, hc, hv, hw⟩; have HR := Lib.hid hr; have HW2 := Lib.hid hw; have HG1 : Hid (w2.cell? ⟨gb, ob, none⟩ = some (.int .u64 gk)) := Lib.hid ((hw.other (Nat.lt_of_lt_of_le hbw' HB1.out.size) (by intro e; have := k3; have : gb < wr.heap.size := hbw'; simp at k3; omega)).trans hg1); clear hr hh hc hv hw))
            all_goals
              have cell0 := HG1.out
              go_wp2_with fail
              refine (gcdOfWords_any gk r _).mono ?_
              rintro e w3 ⟨rfl, q3, rfl⟩
              generalize hG : Nat.gcd gk r = G
              have HGG := Lib.hid hG; clear hG
              go_wp2_with fail
              refine (ofWord_own G ?_ _).mono ?_
              · rw [← HGG.out]; exact Nat.lt_of_le_of_lt (Nat.gcd_le_left _ hk0) lk
              rintro e w4 ⟨u3, rfl, hu3, hb3⟩
              have HU3 := Lib.hid hu3; have HB4 := Lib.hid hb3; clear hu3 hb3
              go_wp2_with fail
              go_ret
              refine ⟨u3, rfl, ?_, ?_, fun b hb => .inl ?_⟩
              · have e1 : G = Nat.gcd x y := by rw [← HGG.out, HR.out, EX.out, ← HG3.out, Nat.gcd_comm X gk, Nat.gcd_rec gk X, Nat.gcd_comm]
                rw [← e1]; exact HU3.out.natV
              · have s1 : w.heap.size ≤ w1.heap.size := Nat.le_trans HB3.out.size HB1.out.size
                have s2 := HW2.out.grown.size
                exact HB3.out.trans (((show Below wr.heap.size wr w1 from (below_draws wr _).trans HB1.out).mono HB3.out.size).trans ((HW2.out.below (Nat.le_trans HB3.out.size k3) s1).trans ((below_drewN (Below.refl _ _) q3).trans (HB4.out.mono (by show _ ≤ w2.heap.size; omega)))))
              · have s1 : w.heap.size ≤ w1.heap.size := Nat.le_trans HB3.out.size HB1.out.size
                have s2 := HW2.out.grown.size
                have s3 : w2.heap.size ≤ b := (HU3.out.base hb).1
                omega
end Go.Proofs.YtkggfeemjabdeaaGreatDoor
