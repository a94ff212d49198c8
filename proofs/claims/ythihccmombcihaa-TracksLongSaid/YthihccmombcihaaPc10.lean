/- Layer 8 (tracks): what all share. Layer 8 (tracks): what the document says, as plain functions; the table of names. Layer 8 (tracks): which tracks are valid. Layer 8 (tracks): lengths: the code's root. Layer 8 (tracks): the length of a track, by the code. Layer 8 (tracks): lengths of a track turned round, and of its parts: the mathematics. Layer 8 (tracks): a list turned round in place, and parts of a list: the mathematics. -/
import Derived.Test.YthihccmombcihaaProg
import Derived.Test.YthihccmombcihaaPc9
section
namespace Go.Proofs.Ythihccmombcihaa.Tk
open Go Go.Proofs.Ythihccmombcihaa.Sx Go.RowKit
variable {TT : Tb}
abbrev DD : Dec := decideN (decideL2 decideB)
theorem dd_ok : DecOk TT DD := decideN_ok (decideL2_ok decB_ok)
def K : LK := .sc (.i .i64)
def btw (lo : Int) (k : Nat) (hi : Int) : List E := [.le (.c lo) (.v k), .le (.v k) (.c hi)]
def els (l : List Nat) : E := (l.map E.v).foldr .cons .nil
end Go.Proofs.Ythihccmombcihaa.Tk
end
section
namespace Go.Proofs.Ythihccmombcihaa.Tk
open Go Go.Proofs.Ythihccmombcihaa.Sx Go.RowKit

def sX (l : LL) (k : Int) : Int := nI l (k * 2)
def sY (l : LL) (k : Int) : Int := nI l (k * 2 + 1)
theorem sX_f (l : LL) (k : Int) : nI l (k * 2) = sX l k := rfl
theorem sY_f (l : LL) (k : Int) : nI l (k * 2 + 1) = sY l k := rfl
def spotB (x y : Int) : Bool := decide (-16777216 ≤ x ∧ x ≤ 16777216) && decide (-16777216 ≤ y ∧ y ≤ 16777216)
def spB (l : LL) (k : Int) : Bool := spotB (sX l k) (sY l k)
/-- a leg that ends at a spot: straight or diagonal. -/
def wayB (u v : Int) : Bool := decide ((u = 0 ∧ v ≠ 0) ∨ (u ≠ 0 ∧ v = 0) ∨ (u ≠ 0 ∧ (u = v ∨ u = -v)))
def legB (l : LL) (k : Int) : Bool := decide (k = 0) || wayB (sX l k - sX l (k - 1)) (sY l k - sY l (k - 1))
def trackB (n : Int) (l : LL) : Bool := decide (2 ≤ n ∧ n ≤ 1024) && allTo n (spB l) && allTo n (legB l)
def sg (x : Int) : Int := if x < 0 then -1 else if 0 < x then 1 else 0
/-- is a spot not farther from a leg than a width? -/
def reachB (ax ay bx by' x y w : Int) : Bool :=
  let p := sg (bx - ax); let q := sg (by' - ay)
  if (x - ax) * p + (y - ay) * q < 0 then decide ((x - ax) * (x - ax) + (y - ay) * (y - ay) ≤ w * w)
  else if (bx - x) * p + (by' - y) * q < 0 then decide ((bx - x) * (bx - x) + (by' - y) * (by' - y) ≤ w * w)
  else decide (((x - ax) * q - (y - ay) * p) * ((x - ax) * q - (y - ay) * p) ≤ w * w * (p * p + q * q))
def farB (x y w : Int) (l : LL) (k : Int) : Bool := decide (k = 0) || !reachB (sX l (k - 1)) (sY l (k - 1)) (sX l k) (sY l k) x y w
def nearB (x y w n : Int) (l : LL) : Bool := !allTo n (farB x y w l)
/-! lengths -/
def ab (x : Int) : Int := if x < 0 then -x else x
def strW (l : LL) (k : Int) : Int := if k = 0 then 0 else if ab (sX l k - sX l (k - 1)) = ab (sY l k - sY l (k - 1)) then 0 else ab (sX l k - sX l (k - 1)) + ab (sY l k - sY l (k - 1))
def diaW (l : LL) (k : Int) : Int := if k = 0 then 0 else if ab (sX l k - sX l (k - 1)) = ab (sY l k - sY l (k - 1)) then ab (sX l k - sX l (k - 1)) else 0
def sumTo (f : Int → Int) : Nat → Int
  | 0 => 0
  | k + 1 => sumTo f k + f k
def strF (n : Int) (l : LL) : Int := sumTo (strW l) n.toNat
def diaF (n : Int) (l : LL) : Int := sumTo (diaW l) n.toNat
/-- the greatest number below so many whose square is at most twice the square of another one. -/
def rootN (d : Int) : Nat → Int
  | 0 => 0
  | k + 1 => if ((k + 1 : Nat) : Int) * ((k + 1 : Nat) : Int) ≤ 2 * (d * d) then ((k + 1 : Nat) : Int) else rootN d k
def root2 (d : Int) : Int := rootN d (2 * d).toNat
theorem sq_nn (d : Int) : 0 ≤ d * d := by
  rcases Int.le_total 0 d with h | h
  · exact Int.mul_nonneg h h
  · exact Int.mul_nonneg_of_nonpos_of_nonpos h h
theorem rootN_spec {d : Int} : ∀ k : Nat, 0 ≤ rootN d k ∧ rootN d k ≤ k ∧ rootN d k * rootN d k ≤ 2 * (d * d) ∧ ∀ m : Int, rootN d k < m → m ≤ k → 2 * (d * d) < m * m
  | 0 => ⟨Int.le_refl _, Int.le_refl _, by simp only [rootN]; have := sq_nn d; omega, fun m h1 h2 => by simp only [rootN] at h1; simp at h2; omega⟩
  | k + 1 => by
    unfold rootN
    split
    · rename_i h
      exact ⟨by omega, Int.le_refl _, h, fun m h1 h2 => by omega⟩
    · rename_i h
      obtain ⟨h0, h1, h2, h3⟩ := rootN_spec (d := d) k
      refine ⟨h0, by omega, h2, fun m k1 k2 => ?_⟩
      rcases Int.lt_or_le m ((k + 1 : Nat) : Int) with hh | hh
      · exact h3 m k1 (by omega)
      · obtain rfl : m = ((k + 1 : Nat) : Int) := by omega
        omega
theorem sq_lt {a b : Int} (ha : 0 ≤ a) (h : a < b) : a * a < b * b := by
  have h1 : a * a ≤ a * b := Int.mul_le_mul_of_nonneg_left (by omega) ha
  have h2 : a * b < b * b := Int.mul_lt_mul_of_pos_right h (by omega)
  omega
theorem sq_le {a b : Int} (ha : 0 ≤ a) (h : a ≤ b) : a * a ≤ b * b := Int.mul_le_mul h h ha (by omega)
theorem root2_spec {d : Int} (hd : 0 ≤ d) : 0 ≤ root2 d ∧ root2 d ≤ 2 * d ∧ root2 d * root2 d ≤ 2 * (d * d) ∧ 2 * (d * d) < (root2 d + 1) * (root2 d + 1) := by
  obtain ⟨h0, h1, h2, h3⟩ := rootN_spec (d := d) (2 * d).toNat
  unfold root2
  refine ⟨h0, by omega, h2, ?_⟩
  rcases Int.lt_or_le (rootN d (2 * d).toNat) (2 * d) with hh | hh
  · exact h3 _ (by omega) (by omega)
  · have e : rootN d (2 * d).toNat = 2 * d := by omega
    rw [e]
    have h4 := sq_lt (a := 2 * d) (b := 2 * d + 1) (by omega) (by omega)
    have h5 : (2 * d) * (2 * d) = 4 * (d * d) := by grind
    have h6 := sq_nn d
    omega
theorem root2_is {d r : Int} (hd : 0 ≤ d) (h0 : 0 ≤ r) (h1 : r * r ≤ 2 * (d * d)) (h2 : 2 * (d * d) < (r + 1) * (r + 1)) : r = root2 d := by
  obtain ⟨k0, -, k1, k2⟩ := root2_spec hd
  rcases Int.lt_trichotomy r (root2 d) with h | h | h
  · have := sq_le (a := r + 1) (b := root2 d) (by omega) (by omega); omega
  · exact h
  · have := sq_le (a := root2 d + 1) (b := r) (by omega) (by omega); omega
def lowF (n : Int) (l : LL) : Int := if trackB n l = true then strF n l + root2 (diaF n l) else 0
def highF (n : Int) (l : LL) : Int := if trackB n l = true then (if 0 < diaF n l then strF n l + root2 (diaF n l) + 1 else strF n l + root2 (diaF n l)) else 0
def errT (n : Int) (l : LL) : Int := if trackB n l = true then 0 else 2
def parY (ly hy sp : Int) (k : Nat) : Int := min (ly + sp.tdiv 2 + k * sp) hy
def parX (lx hx : Int) (k : Nat) : Int := if k % 2 = 0 then lx else hx
def pt (al : Bool) (x y : Int) : LL := if al then [(y, ⟨#[]⟩), (x, ⟨#[]⟩)] else [(x, ⟨#[]⟩), (y, ⟨#[]⟩)]
/-- the spots of the first lines. -/
def parL (al : Bool) (lx ly hx hy sp : Int) : Nat → LL
  | 0 => []
  | k + 1 => parL al lx ly hx hy sp k ++ (pt al (parX lx hx k) (parY ly hy sp k) ++ pt al (parX lx hx (k + 1)) (parY ly hy sp k))
/-- how far lines are laid: how many, where the next one begins and ends, the spots (a box as it is given). -/
def parI (al k fr to' x0 y0 x1 y1 sp : Int) (l : LL) : Bool :=
  if al = 1 then decide (l = parL true y0 x0 y1 x1 sp k.toNat ∧ fr = parX y0 y1 k.toNat ∧ to' = parX y0 y1 (k.toNat + 1))
  else decide (l = parL false x0 y0 x1 y1 sp k.toNat ∧ fr = parX x0 x1 k.toNat ∧ to' = parX x0 x1 (k.toNat + 1))
def pow2B (s : Int) : Bool := decide (s = 0) || (List.range 38).any fun k => decide (s = 2 ^ k)
def stepB (s low d : Int) : Bool := pow2B s && decide (low * low ≤ 2 * (d * d)) && decide (2 * (d * d) < (low + max (2 * s) 1) * (low + max (2 * s) 1))
/-- how far a list of spots has been turned round: up to one spot, and down to another one (two lists, one behind the other). -/
def revB (i j n : Int) (l : LL) : Bool := allTo n fun k => decide (if k < i ∨ j < k then sX (l.drop (2 * n.toNat)) k = sX l (n - 1 - k) ∧ sY (l.drop (2 * n.toNat)) k = sY l (n - 1 - k) else sX (l.drop (2 * n.toNat)) k = sX l k ∧ sY (l.drop (2 * n.toNat)) k = sY l k)
def gF : Nat → LL → Int
  | 1, l => lowF (nI l 0) (l.drop 1)
  | 2, l => highF (nI l 0) (l.drop 1)
  | 3, l => errT (nI l 0) (l.drop 1)
  | 4, l => root2 (nI l 0)
  | 5, l => strF (nI l 0) (l.drop 1)
  | 6, l => diaF (nI l 0) (l.drop 1)
  | _, _ => 0
def hF : Nat → LL → Bool
  | 1, l => allTo (nI l 0) (spB (l.drop 1))
  | 2, l => allTo (nI l 0) (legB (l.drop 1))
  | 3, l => trackB (nI l 0) (l.drop 1)
  | 4, l => allTo (nI l 0) (farB (nI l 1) (nI l 2) (nI l 3) (l.drop 4))
  | 5, l => reachB (nI l 0) (nI l 1) (nI l 2) (nI l 3) (nI l 4) (nI l 5) (nI l 6)
  | 6, l => parI (nI l 0) (nI l 1) (nI l 2) (nI l 3) (nI l 4) (nI l 5) (nI l 6) (nI l 7) (nI l 8) (l.drop 9)
  | 7, l => stepB (nI l 0) (nI l 1) (nI l 2)
  | 8, l => revB (nI l 0) (nI l 1) (nI l 2) (l.drop 3)
  | _, _ => false
def UTab (g : Nat → LL → Int) (h : Nat → LL → Bool) (_k : Nat → LL → ByteArray) (_m : Nat → LL → LL) : Prop := g = gF ∧ h = hF
structure Fit (TT : Tb) : Prop where
  tab : ∀ {g h k m}, TT.tab g h k m → UTab g h k m
  J : ∀ w, TT.J w
def UT : Tb := { tab := UTab }
theorem Fit.open {TT : Tb} (u : Fit TT) : Fit TT.open := ⟨u.tab, u.J⟩
theorem fit_UT : Fit UT := ⟨fun h => h, fun _ => trivial⟩
theorem fit_open : Fit UT.open := fit_UT.open
/-! terms -/
def rowK : AK := .one (.row [.i .i64, .i .i64])
def spotK : AK := .ag [K, K]
def nF (k : Nat) : List E := [.le (.c 0) (.v k), .le (.v k) (.c 9223372036854775807)]
def hE (h : Nat) (e : E) (k : Nat) : E := .happ h (.cons e (.lv k))
def gE (g : Nat) (k : Nat) : E := .app g (.cons (.v k) (.lv k))
def xE (k : Nat) (i : E) : E := .nthI (.lv k) (.mul i (.c 2))
def yE (k : Nat) (i : E) : E := .nthI (.lv k) (.add (.mul i (.c 2)) (.c 1))
def trackE (k : Nat) : E := hE 3 (.v k) k
def rngE (k : Nat) : E := .allr (-16777216) 16777216 (.lv k)
def trackFs (k : Nat) : List E := [trackE k, .le (.c 2) (.v k), .le (.v k) (.c 1024), rngE k]
def trackCs : List (V × List E) := [(.b .tt, trackFs 0), (.b .ff, [.not (trackE 0)])]
def spotFs (k : Nat) : List E := btw (-16777216) k 16777216 ++ btw (-16777216) (k + 1) 16777216
def spotL : LoopSpec := { key := 2, locs := [.t 8 (.i .i64)], facts := fun n => [.le (.c 0) (.v n), .le (.v n) (.v 0), .le (.v n) (.c 1024), hE 1 (.v n) 0], meas := fun n => .sub (.v 0) (.v n) }
def legL : LoopSpec := { key := 1, locs := [.t 3 (.i .i64)], facts := fun n => [.le (.c 1) (.v n), .le (.v n) (.v 0), .le (.v n) (.c 1024), hE 2 (.v n) 0], meas := fun n => .sub (.v 0) (.v n) }
def trackRL : LoopSpec := { key := 4, locs := [.t 3 (.i .i64)], facts := fun n => [.le (.c 0) (.v n), .le (.v n) (.v 0), .le (.v n) (.c 1024), hE 1 (.v n) 0, hE 2 (.v n) 0], meas := fun n => .sub (.v 0) (.v n) }
section
variable {ρ : Env}
theorem h_1 (hh : ρ.h = hF) (n l : E) : (E.happ 1 (.cons n l)).B ρ = allTo (n.I ρ) (spB (l.L ρ)) := by rw [B_happ, hh]; rfl
theorem h_2 (hh : ρ.h = hF) (n l : E) : (E.happ 2 (.cons n l)).B ρ = allTo (n.I ρ) (legB (l.L ρ)) := by rw [B_happ, hh]; rfl
theorem h_3 (hh : ρ.h = hF) (n l : E) : (E.happ 3 (.cons n l)).B ρ = trackB (n.I ρ) (l.L ρ) := by rw [B_happ, hh]; rfl
theorem h_4 (hh : ρ.h = hF) (n x y w l : E) : (E.happ 4 (.cons n (.cons x (.cons y (.cons w l))))).B ρ = allTo (n.I ρ) (farB (x.I ρ) (y.I ρ) (w.I ρ) (l.L ρ)) := by rw [B_happ, hh]; rfl
theorem h_5 (hh : ρ.h = hF) (a b c d x y w : E) : (E.happ 5 (.cons a (.cons b (.cons c (.cons d (.cons x (.cons y (.cons w .nil)))))))).B ρ = reachB (a.I ρ) (b.I ρ) (c.I ρ) (d.I ρ) (x.I ρ) (y.I ρ) (w.I ρ) := by rw [B_happ, hh]; rfl
theorem h_6 (hh : ρ.h = hF) (al k fr to' x0 y0 x1 y1 sp l : E) : (E.happ 6 (.cons al (.cons k (.cons fr (.cons to' (.cons x0 (.cons y0 (.cons x1 (.cons y1 (.cons sp l)))))))))).B ρ = parI (al.I ρ) (k.I ρ) (fr.I ρ) (to'.I ρ) (x0.I ρ) (y0.I ρ) (x1.I ρ) (y1.I ρ) (sp.I ρ) (l.L ρ) := by rw [B_happ, hh]; rfl
theorem h_7 (hh : ρ.h = hF) (s low d : E) : (E.happ 7 (.cons s (.cons low (.cons d .nil)))).B ρ = stepB (s.I ρ) (low.I ρ) (d.I ρ) := by rw [B_happ, hh]; rfl
theorem h_8 (hh : ρ.h = hF) (i j n l : E) : (E.happ 8 (.cons i (.cons j (.cons n l)))).B ρ = revB (i.I ρ) (j.I ρ) (n.I ρ) (l.L ρ) := by rw [B_happ, hh]; rfl
theorem g_1 (hg : ρ.g = gF) (n l : E) : (E.app 1 (.cons n l)).I ρ = lowF (n.I ρ) (l.L ρ) := by rw [I_app, hg]; rfl
theorem g_2 (hg : ρ.g = gF) (n l : E) : (E.app 2 (.cons n l)).I ρ = highF (n.I ρ) (l.L ρ) := by rw [I_app, hg]; rfl
theorem g_3 (hg : ρ.g = gF) (n l : E) : (E.app 3 (.cons n l)).I ρ = errT (n.I ρ) (l.L ρ) := by rw [I_app, hg]; rfl
theorem g_4 (hg : ρ.g = gF) (n l : E) : (E.app 4 (.cons n l)).I ρ = root2 (n.I ρ) := by rw [I_app, hg]; rfl
theorem g_5 (hg : ρ.g = gF) (n l : E) : (E.app 5 (.cons n l)).I ρ = strF (n.I ρ) (l.L ρ) := by rw [I_app, hg]; rfl
theorem g_6 (hg : ρ.g = gF) (n l : E) : (E.app 6 (.cons n l)).I ρ = diaF (n.I ρ) (l.L ρ) := by rw [I_app, hg]; rfl
end
/-! what a track's elements are -/
theorem track_iff {n : Int} {l : LL} : trackB n l = true ↔ (2 ≤ n ∧ n ≤ 1024) ∧ allTo n (spB l) = true ∧ allTo n (legB l) = true := by simp [trackB, and_assoc]
theorem spB_iff {l : LL} {k : Int} : spB l k = true ↔ (-16777216 ≤ sX l k ∧ sX l k ≤ 16777216) ∧ (-16777216 ≤ sY l k ∧ sY l k ≤ 16777216) := by simp [spB, spotB]
theorem wayB_iff {u v : Int} : wayB u v = true ↔ ((u = 0 ∧ v ≠ 0) ∨ (u ≠ 0 ∧ v = 0) ∨ (u ≠ 0 ∧ (u = v ∨ u = -v))) := by simp [wayB]
theorem legB_iff {l : LL} {k : Int} (hk : k ≠ 0) : legB l k = wayB (sX l k - sX l (k - 1)) (sY l k - sY l (k - 1)) := by simp [legB, hk]
theorem rng_of {l : LL} {n : Int} (_hn : 0 ≤ n) (hl : l.length = n.toNat * 2) (h : allTo n (spB l) = true) : (l.all fun p => decide (-16777216 ≤ p.1 ∧ p.1 ≤ 16777216)) = true := by
  rw [List.all_eq_true]
  intro p hp
  obtain ⟨i, hi, rfl⟩ := List.getElem_of_mem hp
  have h1 := spB_iff.1 (allTo_at h (k := ((i / 2 : Nat) : Int)) (Int.natCast_nonneg _) (by omega))
  have e : nI l (i : Int) = l[i].1 := by unfold nI; rw [show (i : Int).toNat = i by omega, List.getElem?_eq_getElem hi]; rfl
  simp only [decide_eq_true_eq]
  rcases Nat.mod_two_eq_zero_or_one i with h2 | h2
  · have e2 : sX l ((i / 2 : Nat) : Int) = l[i].1 := by rw [← e]; unfold sX; congr 1; omega
    omega
  · have e2 : sY l ((i / 2 : Nat) : Int) = l[i].1 := by rw [← e]; unfold sY; congr 1; omega
    omega
end Go.Proofs.Ythihccmombcihaa.Tk
end
section
namespace Go.Proofs.Ythihccmombcihaa.Tk
open Go Go.Proofs.Ythihccmombcihaa.Sx Go.RowKit
variable {TT : Tb}
theorem row_n {ρ : Env} {w : World} {aks : List AK} (hR : RowsAt ρ w aks) {k : Nat} {kds : List Kd} (hk : (k, rowL k kds) ∈ rowsL 0 (ksOf aks)) : 0 ≤ ρ.i k ∧ ρ.i k ≤ 9223372036854775807 := by
  have := (hR _ hk).2 0
  unfold Row.at at this
  obtain ⟨h0, h1, h2⟩ := this
  have h3 : maxLen = 9223372036854775807 := rfl
  refine ⟨h0, ?_⟩
  rw [if_neg (by simp [rowL])] at h2
  rcases h2.2 with ⟨-, e⟩ | ⟨a, cap, -, -, -, hc, -⟩
  · have : ρ.i k = 0 := e
    omega
  · have : (ρ.i k).toNat ≤ cap := hc.1
    omega

theorem nF_of {ρ : Env} {w : World} {aks : List AK} (hR : RowsAt ρ w aks) {k : Nat} {kds : List Kd} (hk : (k, rowL k kds) ∈ rowsL 0 (ksOf aks)) : holds ρ (nF k) := by
  simp only [holds, nF, List.mem_cons, List.not_mem_nil, or_false, forall_eq_or_imp, forall_eq, B_le, I_c, I_v, decide_eq_true_eq]; exact row_n hR hk
def P2 : List Kd := [.i .i64, .i .i64]
theorem row_in (l : List AK) : (0, rowL 0 P2) ∈ rowsL 0 (ksOf (rowK :: l)) := by simp [ksOf, rowK, AK.ks, rowsL, P2]
theorem hE_1 {ρ : Env} (hh : ρ.h = Tk.hF) (e : E) (k : Nat) : (hE 1 e k).B ρ = allTo (e.I ρ) (spB (ρ.l k)) := h_1 hh _ _
theorem hE_3 {ρ : Env} (hh : ρ.h = Tk.hF) (e : E) (k : Nat) : (hE 3 e k).B ρ = trackB (e.I ρ) (ρ.l k) := h_3 hh _ _
theorem rng_E {ρ : Env} {w : World} {l : List AK} (hR : RowsAt ρ w (rowK :: l)) (h : allTo (ρ.i 0) (spB (ρ.l 0)) = true) : (rngE 0).B ρ = true := by
  obtain ⟨h0, h1⟩ := row_facts hR (row_in l)
  simp only [rngE, B_allr, L_lv]
  exact rng_of h0 (by simpa [P2] using h1) h
def cAlive := ctrVal 6 [] [] (.b .tt) []
theorem alive_ok (u : Fit TT) : CtrOk TT Try.prog cAlive := auto_val (Γ := {}) (by simp) 2000 rfl (by kernel_rfl) u.J
/-! ### Spots -/
def spotsFs : List E := [hE 1 (.v 0) 0, rngE 0]
def spotsCs : List (V × List E) := [(.b .tt, spotsFs), (.b .ff, [.not (hE 1 (.v 0) 0)])]
def nF1 : List E := [.le (.c 0) (.v 0), .le (.v 0) (.c 1024)]
def cSpots := ctrCases 36 [rowK] nF1 spotsCs
theorem spots_yes {ρ : Env} (hh : ρ.h = Tk.hF) {w w' : World} {l : List AK} (hR : RowsAt ρ w (rowK :: l)) (h : allTo (ρ.i 0) (spB (ρ.l 0)) = true) (hb : Below w.heap.size w w') : (∃ c ∈ spotsCs, Ending.returned (.bool true) = .returned (c.1.den ρ) ∧ ∀ a ∈ c.2, a.B ρ = true) ∧ Below w.heap.size w w' := by
  refine ⟨⟨_, List.mem_cons_self, rfl, ?_⟩, hb⟩
  simp only [spotsFs, List.mem_cons, List.not_mem_nil, or_false, forall_eq_or_imp, forall_eq]
  exact ⟨by rw [hE_1 hh]; exact h, rng_E hR h⟩
theorem spots_no {ρ : Env} (hh : ρ.h = Tk.hF) {w w' : World} {k : Int} (h0 : 0 ≤ k) (hk : k < ρ.i 0) (h : ¬ spB (ρ.l 0) k = true) (hb : Below w.heap.size w w') : (∃ c ∈ spotsCs, Ending.returned (.bool false) = .returned (c.1.den ρ) ∧ ∀ a ∈ c.2, a.B ρ = true) ∧ Below w.heap.size w w' := by
  refine ⟨⟨_, List.mem_cons_of_mem _ List.mem_cons_self, rfl, ?_⟩, hb⟩
  simp only [List.mem_cons, List.not_mem_nil, or_false, forall_eq, B_not, hE_1 hh, I_v, Bool.not_eq_true']
  exact allTo_not h0 hk (by simpa using h)
theorem areSpots_ok (u : Fit TT) : CtrOk TT Try.prog cSpots := ctrCases_ok rfl fun ρ w hF hT hR => by
  have hh := (u.tab hT).2
  have hR0 := hR
  refine cases_rest dd_ok (Γ := { loops := [spotL] }) (by simp) 400 [rowK] nF1 spotsCs (by decide)
    [⟨(.must (.happ 1 (.cons (.c 0) (.lv 0)))), [(.le (.c 0) (.v 0)), (.le (.v 0) (.c 1024))], []⟩,
⟨(.val (.b .ff)), [(.lt (.c 16777216) (.nthI (.lv 0) (.add (.mul (.v 1) (.c 2)) (.c 1)))), (.le (.c (-16777216)) (.nthI (.lv 0) (.add (.mul (.v 1) (.c 2)) (.c 1)))), (.le (.nthI (.lv 0) (.mul (.v 1) (.c 2))) (.c 16777216)), (.le (.c (-16777216)) (.nthI (.lv 0) (.mul (.v 1) (.c 2)))), (.lt (.v 1) (.v 0)), (.le (.c 0) (.v 1)), (.le (.v 1) (.v 0)), (.le (.v 1) (.c 1024)), (.happ 1 (.cons (.v 1) (.lv 0))), (.le (.c 0) (.v 0)), (.le (.v 0) (.c 1024))], []⟩,
⟨(.must (.happ 1 (.cons (.add (.v 1) (.c 1)) (.lv 0)))), [(.le (.nthI (.lv 0) (.add (.mul (.v 1) (.c 2)) (.c 1))) (.c 16777216)), (.le (.c (-16777216)) (.nthI (.lv 0) (.add (.mul (.v 1) (.c 2)) (.c 1)))), (.le (.nthI (.lv 0) (.mul (.v 1) (.c 2))) (.c 16777216)), (.le (.c (-16777216)) (.nthI (.lv 0) (.mul (.v 1) (.c 2)))), (.lt (.v 1) (.v 0)), (.le (.c 0) (.v 1)), (.le (.v 1) (.v 0)), (.le (.v 1) (.c 1024)), (.happ 1 (.cons (.v 1) (.lv 0))), (.le (.c 0) (.v 0)), (.le (.v 0) (.c 1024))], []⟩,
⟨(.val (.b .ff)), [(.lt (.nthI (.lv 0) (.add (.mul (.v 1) (.c 2)) (.c 1))) (.c (-16777216))), (.le (.nthI (.lv 0) (.mul (.v 1) (.c 2))) (.c 16777216)), (.le (.c (-16777216)) (.nthI (.lv 0) (.mul (.v 1) (.c 2)))), (.lt (.v 1) (.v 0)), (.le (.c 0) (.v 1)), (.le (.v 1) (.v 0)), (.le (.v 1) (.c 1024)), (.happ 1 (.cons (.v 1) (.lv 0))), (.le (.c 0) (.v 0)), (.le (.v 0) (.c 1024))], []⟩,
⟨(.val (.b .ff)), [(.lt (.c 16777216) (.nthI (.lv 0) (.mul (.v 1) (.c 2)))), (.le (.c (-16777216)) (.nthI (.lv 0) (.mul (.v 1) (.c 2)))), (.lt (.v 1) (.v 0)), (.le (.c 0) (.v 1)), (.le (.v 1) (.v 0)), (.le (.v 1) (.c 1024)), (.happ 1 (.cons (.v 1) (.lv 0))), (.le (.c 0) (.v 0)), (.le (.v 0) (.c 1024))], []⟩,
⟨(.val (.b .ff)), [(.lt (.nthI (.lv 0) (.mul (.v 1) (.c 2))) (.c (-16777216))), (.lt (.v 1) (.v 0)), (.le (.c 0) (.v 1)), (.le (.v 1) (.v 0)), (.le (.v 1) (.c 1024)), (.happ 1 (.cons (.v 1) (.lv 0))), (.le (.c 0) (.v 0)), (.le (.v 0) (.c 1024))], []⟩,
⟨(.val (.b .tt)), [(.le (.v 0) (.v 1)), (.le (.c 0) (.v 1)), (.le (.v 1) (.v 0)), (.le (.v 1) (.c 1024)), (.happ 1 (.cons (.v 1) (.lv 0))), (.le (.c 0) (.v 0)), (.le (.v 0) (.c 1024))], []⟩] (by kernel_rfl) ρ w hF hT hR ⟨?_, ?_, ?_, ?_, ?_, ?_, ?_⟩ (u.J w)
  all_goals
    intro ρ' w' hx _ hF hb _
    have e0 : ρ'.i 0 = ρ.i 0 := hx.i 0 (by decide)
    have l0 : ρ'.l 0 = ρ.l 0 := hx.l 0 (by decide)
    have hh' : ρ'.h = Tk.hF := by rw [hx.h]; exact hh
    clear hx hR
    simp only [holds, List.mem_cons, List.not_mem_nil, or_false, forall_eq_or_imp, forall_eq, B_le, B_lt, I_add, I_mul, I_c, I_v, I_nthI, L_lv, h_1 hh', e0, l0, nI_eq, sX_f, sY_f, decide_eq_true_eq, den_b, B_t, B_f] at hF ⊢
    first
      | exact allTo_zero _
      | (rw [allTo_succ (by omega), spB_iff.2 (by omega), Bool.and_true]; simp only [hF])
      | (refine spots_no hh (k := ρ'.i 1) (by omega) (by omega) (fun h => ?_) hb
         have := spB_iff.1 h
         omega)
      | (refine spots_yes hh hR0 ?_ hb
         have hP : allTo (ρ'.i 1) (spB (ρ.l 0)) = true := by simp only [hF]
         rwa [show ρ'.i 1 = ρ.i 0 by omega] at hP)
/-! ### Tracks -/
def cTrack := ctrCases 20 [rowK] [] trackCs
def cTrackR := ctrCases 24 [rowK] [] trackCs
theorem track_yes {ρ : Env} (hh : ρ.h = Tk.hF) {w w' : World} {l : List AK} (hR : RowsAt ρ w (rowK :: l)) (hn : 2 ≤ ρ.i 0 ∧ ρ.i 0 ≤ 1024) (h : allTo (ρ.i 0) (spB (ρ.l 0)) = true) (h2 : allTo (ρ.i 0) (legB (ρ.l 0)) = true) (hb : Below w.heap.size w w') : (∃ c ∈ trackCs, Ending.returned (.bool true) = .returned (c.1.den ρ) ∧ ∀ a ∈ c.2, a.B ρ = true) ∧ Below w.heap.size w w' := by
  refine ⟨⟨_, List.mem_cons_self, rfl, ?_⟩, hb⟩
  simp only [trackFs, List.mem_cons, List.not_mem_nil, or_false, forall_eq_or_imp, forall_eq, trackE, hE_3 hh, I_v, B_le, I_c, decide_eq_true_eq]
  exact ⟨track_iff.2 ⟨hn, h, h2⟩, hn.1, hn.2, rng_E hR h⟩
theorem track_no {ρ : Env} (hh : ρ.h = Tk.hF) {w w' : World} (h : ¬ trackB (ρ.i 0) (ρ.l 0) = true) (hb : Below w.heap.size w w') : (∃ c ∈ trackCs, Ending.returned (.bool false) = .returned (c.1.den ρ) ∧ ∀ a ∈ c.2, a.B ρ = true) ∧ Below w.heap.size w w' := by
  refine ⟨⟨_, List.mem_cons_of_mem _ List.mem_cons_self, rfl, ?_⟩, hb⟩
  simp only [List.mem_cons, List.not_mem_nil, or_false, forall_eq, B_not, trackE, hE_3 hh, I_v, Bool.not_eq_true']
  simpa using h
theorem not_spots {n k : Int} {l : LL} (h0 : 0 ≤ k) (hk : k < n) (h : ¬ spB l k = true) : ¬ trackB n l = true := fun ht => h (allTo_at (track_iff.1 ht).2.1 h0 hk)
theorem not_legs {n k : Int} {l : LL} (h0 : 0 ≤ k) (hk : k < n) (h : ¬ legB l k = true) : ¬ trackB n l = true := fun ht => h (allTo_at (track_iff.1 ht).2.2 h0 hk)
theorem mx_ab (x : Int) : (if x < 0 - x then 0 - x else x) = ab x := by unfold ab; split <;> split <;> omega
theorem mx_ab2 (x : Int) : (if -x < x then x else -x) = ab x := by unfold ab; split <;> split <;> omega
theorem ab_or (x : Int) : (x < 0 ∧ ab x = -x) ∨ (0 ≤ x ∧ ab x = x) := by unfold ab; split <;> omega
theorem leg_one (l : LL) : allTo 1 (legB l) = true := rfl
theorem isTrack_ok (u : Fit TT) : CtrOk TT Try.prog cTrack := ctrCases_ok rfl fun ρ w hF0 hT hR => by
  have hh := (u.tab hT).2
  have hF := nF_of hR (row_in [])
  have hR0 := hR
  refine cases_rest dd_ok (Γ := { calls := [cSpots], loops := [legL] }) (by simpa using areSpots_ok u.open) 400 [rowK] (nF 0) trackCs (by decide)
    [⟨(.val (.b .ff)), [(.lt (.c 1024) (.v 0)), (.le (.c 2) (.v 0)), (.le (.c 0) (.v 0)), (.le (.v 0) (.c 9223372036854775807))], []⟩,
⟨(.must (.happ 2 (.cons (.c 1) (.lv 0)))), [(.happ 1 (.cons (.v 0) (.lv 0))), (.allr (-16777216) 16777216 (.lv 0)), (.le (.v 0) (.c 1024)), (.le (.c 2) (.v 0)), (.le (.c 0) (.v 0)), (.le (.v 0) (.c 9223372036854775807))], []⟩,
⟨(.val (.b .ff)), [(.eq (.nthI (.lv 0) (.mul (.sub (.v 5) (.c 1)) (.c 2))) (.nthI (.lv 0) (.mul (.v 5) (.c 2)))), (.eq (.nthI (.lv 0) (.add (.mul (.sub (.v 5) (.c 1)) (.c 2)) (.c 1))) (.nthI (.lv 0) (.add (.mul (.v 5) (.c 2)) (.c 1)))), (.lt (.sub (.v 5) (.c 1)) (.v 0)), (.lt (.v 5) (.v 0)), (.le (.c 1) (.v 5)), (.le (.v 5) (.v 0)), (.le (.v 5) (.c 1024)), (.happ 2 (.cons (.v 5) (.lv 0))), (.happ 1 (.cons (.v 0) (.lv 0))), (.allr (-16777216) 16777216 (.lv 0)), (.le (.v 0) (.c 1024)), (.le (.c 2) (.v 0)), (.le (.c 0) (.v 0)), (.le (.v 0) (.c 9223372036854775807))], []⟩,
⟨(.val (.b .ff)), [(.not (.eq (.ite (.lt (.sub (.nthI (.lv 0) (.mul (.v 5) (.c 2))) (.nthI (.lv 0) (.mul (.sub (.v 5) (.c 1)) (.c 2)))) (.sub (.c 0) (.sub (.nthI (.lv 0) (.mul (.v 5) (.c 2))) (.nthI (.lv 0) (.mul (.sub (.v 5) (.c 1)) (.c 2)))))) (.sub (.c 0) (.sub (.nthI (.lv 0) (.mul (.v 5) (.c 2))) (.nthI (.lv 0) (.mul (.sub (.v 5) (.c 1)) (.c 2))))) (.sub (.nthI (.lv 0) (.mul (.v 5) (.c 2))) (.nthI (.lv 0) (.mul (.sub (.v 5) (.c 1)) (.c 2))))) (.ite (.lt (.sub (.nthI (.lv 0) (.add (.mul (.v 5) (.c 2)) (.c 1))) (.nthI (.lv 0) (.add (.mul (.sub (.v 5) (.c 1)) (.c 2)) (.c 1)))) (.sub (.c 0) (.sub (.nthI (.lv 0) (.add (.mul (.v 5) (.c 2)) (.c 1))) (.nthI (.lv 0) (.add (.mul (.sub (.v 5) (.c 1)) (.c 2)) (.c 1)))))) (.sub (.c 0) (.sub (.nthI (.lv 0) (.add (.mul (.v 5) (.c 2)) (.c 1))) (.nthI (.lv 0) (.add (.mul (.sub (.v 5) (.c 1)) (.c 2)) (.c 1))))) (.sub (.nthI (.lv 0) (.add (.mul (.v 5) (.c 2)) (.c 1))) (.nthI (.lv 0) (.add (.mul (.sub (.v 5) (.c 1)) (.c 2)) (.c 1))))))), (.not (.eq (.ite (.lt (.sub (.nthI (.lv 0) (.add (.mul (.v 5) (.c 2)) (.c 1))) (.nthI (.lv 0) (.add (.mul (.sub (.v 5) (.c 1)) (.c 2)) (.c 1)))) (.sub (.c 0) (.sub (.nthI (.lv 0) (.add (.mul (.v 5) (.c 2)) (.c 1))) (.nthI (.lv 0) (.add (.mul (.sub (.v 5) (.c 1)) (.c 2)) (.c 1)))))) (.sub (.c 0) (.sub (.nthI (.lv 0) (.add (.mul (.v 5) (.c 2)) (.c 1))) (.nthI (.lv 0) (.add (.mul (.sub (.v 5) (.c 1)) (.c 2)) (.c 1))))) (.sub (.nthI (.lv 0) (.add (.mul (.v 5) (.c 2)) (.c 1))) (.nthI (.lv 0) (.add (.mul (.sub (.v 5) (.c 1)) (.c 2)) (.c 1))))) (.c 0))), (.not (.eq (.ite (.lt (.sub (.nthI (.lv 0) (.mul (.v 5) (.c 2))) (.nthI (.lv 0) (.mul (.sub (.v 5) (.c 1)) (.c 2)))) (.sub (.c 0) (.sub (.nthI (.lv 0) (.mul (.v 5) (.c 2))) (.nthI (.lv 0) (.mul (.sub (.v 5) (.c 1)) (.c 2)))))) (.sub (.c 0) (.sub (.nthI (.lv 0) (.mul (.v 5) (.c 2))) (.nthI (.lv 0) (.mul (.sub (.v 5) (.c 1)) (.c 2))))) (.sub (.nthI (.lv 0) (.mul (.v 5) (.c 2))) (.nthI (.lv 0) (.mul (.sub (.v 5) (.c 1)) (.c 2))))) (.c 0))), (.not (.and (.eq (.nthI (.lv 0) (.mul (.sub (.v 5) (.c 1)) (.c 2))) (.nthI (.lv 0) (.mul (.v 5) (.c 2)))) (.eq (.nthI (.lv 0) (.add (.mul (.sub (.v 5) (.c 1)) (.c 2)) (.c 1))) (.nthI (.lv 0) (.add (.mul (.v 5) (.c 2)) (.c 1)))))), (.lt (.sub (.v 5) (.c 1)) (.v 0)), (.lt (.v 5) (.v 0)), (.le (.c 1) (.v 5)), (.le (.v 5) (.v 0)), (.le (.v 5) (.c 1024)), (.happ 2 (.cons (.v 5) (.lv 0))), (.happ 1 (.cons (.v 0) (.lv 0))), (.allr (-16777216) 16777216 (.lv 0)), (.le (.v 0) (.c 1024)), (.le (.c 2) (.v 0)), (.le (.c 0) (.v 0)), (.le (.v 0) (.c 9223372036854775807))], []⟩,
⟨(.must (.happ 2 (.cons (.add (.v 5) (.c 1)) (.lv 0)))), [(.eq (.ite (.lt (.sub (.nthI (.lv 0) (.mul (.v 5) (.c 2))) (.nthI (.lv 0) (.mul (.sub (.v 5) (.c 1)) (.c 2)))) (.sub (.c 0) (.sub (.nthI (.lv 0) (.mul (.v 5) (.c 2))) (.nthI (.lv 0) (.mul (.sub (.v 5) (.c 1)) (.c 2)))))) (.sub (.c 0) (.sub (.nthI (.lv 0) (.mul (.v 5) (.c 2))) (.nthI (.lv 0) (.mul (.sub (.v 5) (.c 1)) (.c 2))))) (.sub (.nthI (.lv 0) (.mul (.v 5) (.c 2))) (.nthI (.lv 0) (.mul (.sub (.v 5) (.c 1)) (.c 2))))) (.ite (.lt (.sub (.nthI (.lv 0) (.add (.mul (.v 5) (.c 2)) (.c 1))) (.nthI (.lv 0) (.add (.mul (.sub (.v 5) (.c 1)) (.c 2)) (.c 1)))) (.sub (.c 0) (.sub (.nthI (.lv 0) (.add (.mul (.v 5) (.c 2)) (.c 1))) (.nthI (.lv 0) (.add (.mul (.sub (.v 5) (.c 1)) (.c 2)) (.c 1)))))) (.sub (.c 0) (.sub (.nthI (.lv 0) (.add (.mul (.v 5) (.c 2)) (.c 1))) (.nthI (.lv 0) (.add (.mul (.sub (.v 5) (.c 1)) (.c 2)) (.c 1))))) (.sub (.nthI (.lv 0) (.add (.mul (.v 5) (.c 2)) (.c 1))) (.nthI (.lv 0) (.add (.mul (.sub (.v 5) (.c 1)) (.c 2)) (.c 1)))))), (.not (.eq (.ite (.lt (.sub (.nthI (.lv 0) (.add (.mul (.v 5) (.c 2)) (.c 1))) (.nthI (.lv 0) (.add (.mul (.sub (.v 5) (.c 1)) (.c 2)) (.c 1)))) (.sub (.c 0) (.sub (.nthI (.lv 0) (.add (.mul (.v 5) (.c 2)) (.c 1))) (.nthI (.lv 0) (.add (.mul (.sub (.v 5) (.c 1)) (.c 2)) (.c 1)))))) (.sub (.c 0) (.sub (.nthI (.lv 0) (.add (.mul (.v 5) (.c 2)) (.c 1))) (.nthI (.lv 0) (.add (.mul (.sub (.v 5) (.c 1)) (.c 2)) (.c 1))))) (.sub (.nthI (.lv 0) (.add (.mul (.v 5) (.c 2)) (.c 1))) (.nthI (.lv 0) (.add (.mul (.sub (.v 5) (.c 1)) (.c 2)) (.c 1))))) (.c 0))), (.not (.eq (.ite (.lt (.sub (.nthI (.lv 0) (.mul (.v 5) (.c 2))) (.nthI (.lv 0) (.mul (.sub (.v 5) (.c 1)) (.c 2)))) (.sub (.c 0) (.sub (.nthI (.lv 0) (.mul (.v 5) (.c 2))) (.nthI (.lv 0) (.mul (.sub (.v 5) (.c 1)) (.c 2)))))) (.sub (.c 0) (.sub (.nthI (.lv 0) (.mul (.v 5) (.c 2))) (.nthI (.lv 0) (.mul (.sub (.v 5) (.c 1)) (.c 2))))) (.sub (.nthI (.lv 0) (.mul (.v 5) (.c 2))) (.nthI (.lv 0) (.mul (.sub (.v 5) (.c 1)) (.c 2))))) (.c 0))), (.not (.and (.eq (.nthI (.lv 0) (.mul (.sub (.v 5) (.c 1)) (.c 2))) (.nthI (.lv 0) (.mul (.v 5) (.c 2)))) (.eq (.nthI (.lv 0) (.add (.mul (.sub (.v 5) (.c 1)) (.c 2)) (.c 1))) (.nthI (.lv 0) (.add (.mul (.v 5) (.c 2)) (.c 1)))))), (.lt (.sub (.v 5) (.c 1)) (.v 0)), (.lt (.v 5) (.v 0)), (.le (.c 1) (.v 5)), (.le (.v 5) (.v 0)), (.le (.v 5) (.c 1024)), (.happ 2 (.cons (.v 5) (.lv 0))), (.happ 1 (.cons (.v 0) (.lv 0))), (.allr (-16777216) 16777216 (.lv 0)), (.le (.v 0) (.c 1024)), (.le (.c 2) (.v 0)), (.le (.c 0) (.v 0)), (.le (.v 0) (.c 9223372036854775807))], []⟩,
⟨(.must (.happ 2 (.cons (.add (.v 5) (.c 1)) (.lv 0)))), [(.eq (.ite (.lt (.sub (.nthI (.lv 0) (.add (.mul (.v 5) (.c 2)) (.c 1))) (.nthI (.lv 0) (.add (.mul (.sub (.v 5) (.c 1)) (.c 2)) (.c 1)))) (.sub (.c 0) (.sub (.nthI (.lv 0) (.add (.mul (.v 5) (.c 2)) (.c 1))) (.nthI (.lv 0) (.add (.mul (.sub (.v 5) (.c 1)) (.c 2)) (.c 1)))))) (.sub (.c 0) (.sub (.nthI (.lv 0) (.add (.mul (.v 5) (.c 2)) (.c 1))) (.nthI (.lv 0) (.add (.mul (.sub (.v 5) (.c 1)) (.c 2)) (.c 1))))) (.sub (.nthI (.lv 0) (.add (.mul (.v 5) (.c 2)) (.c 1))) (.nthI (.lv 0) (.add (.mul (.sub (.v 5) (.c 1)) (.c 2)) (.c 1))))) (.c 0)), (.not (.eq (.ite (.lt (.sub (.nthI (.lv 0) (.mul (.v 5) (.c 2))) (.nthI (.lv 0) (.mul (.sub (.v 5) (.c 1)) (.c 2)))) (.sub (.c 0) (.sub (.nthI (.lv 0) (.mul (.v 5) (.c 2))) (.nthI (.lv 0) (.mul (.sub (.v 5) (.c 1)) (.c 2)))))) (.sub (.c 0) (.sub (.nthI (.lv 0) (.mul (.v 5) (.c 2))) (.nthI (.lv 0) (.mul (.sub (.v 5) (.c 1)) (.c 2))))) (.sub (.nthI (.lv 0) (.mul (.v 5) (.c 2))) (.nthI (.lv 0) (.mul (.sub (.v 5) (.c 1)) (.c 2))))) (.c 0))), (.not (.and (.eq (.nthI (.lv 0) (.mul (.sub (.v 5) (.c 1)) (.c 2))) (.nthI (.lv 0) (.mul (.v 5) (.c 2)))) (.eq (.nthI (.lv 0) (.add (.mul (.sub (.v 5) (.c 1)) (.c 2)) (.c 1))) (.nthI (.lv 0) (.add (.mul (.v 5) (.c 2)) (.c 1)))))), (.lt (.sub (.v 5) (.c 1)) (.v 0)), (.lt (.v 5) (.v 0)), (.le (.c 1) (.v 5)), (.le (.v 5) (.v 0)), (.le (.v 5) (.c 1024)), (.happ 2 (.cons (.v 5) (.lv 0))), (.happ 1 (.cons (.v 0) (.lv 0))), (.allr (-16777216) 16777216 (.lv 0)), (.le (.v 0) (.c 1024)), (.le (.c 2) (.v 0)), (.le (.c 0) (.v 0)), (.le (.v 0) (.c 9223372036854775807))], []⟩,
⟨(.must (.happ 2 (.cons (.add (.v 5) (.c 1)) (.lv 0)))), [(.eq (.ite (.lt (.sub (.nthI (.lv 0) (.mul (.v 5) (.c 2))) (.nthI (.lv 0) (.mul (.sub (.v 5) (.c 1)) (.c 2)))) (.sub (.c 0) (.sub (.nthI (.lv 0) (.mul (.v 5) (.c 2))) (.nthI (.lv 0) (.mul (.sub (.v 5) (.c 1)) (.c 2)))))) (.sub (.c 0) (.sub (.nthI (.lv 0) (.mul (.v 5) (.c 2))) (.nthI (.lv 0) (.mul (.sub (.v 5) (.c 1)) (.c 2))))) (.sub (.nthI (.lv 0) (.mul (.v 5) (.c 2))) (.nthI (.lv 0) (.mul (.sub (.v 5) (.c 1)) (.c 2))))) (.c 0)), (.not (.and (.eq (.nthI (.lv 0) (.mul (.sub (.v 5) (.c 1)) (.c 2))) (.nthI (.lv 0) (.mul (.v 5) (.c 2)))) (.eq (.nthI (.lv 0) (.add (.mul (.sub (.v 5) (.c 1)) (.c 2)) (.c 1))) (.nthI (.lv 0) (.add (.mul (.v 5) (.c 2)) (.c 1)))))), (.lt (.sub (.v 5) (.c 1)) (.v 0)), (.lt (.v 5) (.v 0)), (.le (.c 1) (.v 5)), (.le (.v 5) (.v 0)), (.le (.v 5) (.c 1024)), (.happ 2 (.cons (.v 5) (.lv 0))), (.happ 1 (.cons (.v 0) (.lv 0))), (.allr (-16777216) 16777216 (.lv 0)), (.le (.v 0) (.c 1024)), (.le (.c 2) (.v 0)), (.le (.c 0) (.v 0)), (.le (.v 0) (.c 9223372036854775807))], []⟩,
⟨(.val (.b .tt)), [(.le (.v 0) (.v 5)), (.le (.c 1) (.v 5)), (.le (.v 5) (.v 0)), (.le (.v 5) (.c 1024)), (.happ 2 (.cons (.v 5) (.lv 0))), (.happ 1 (.cons (.v 0) (.lv 0))), (.allr (-16777216) 16777216 (.lv 0)), (.le (.v 0) (.c 1024)), (.le (.c 2) (.v 0)), (.le (.c 0) (.v 0)), (.le (.v 0) (.c 9223372036854775807))], []⟩,
⟨(.val (.b .ff)), [(.not (.happ 1 (.cons (.v 0) (.lv 0)))), (.le (.v 0) (.c 1024)), (.le (.c 2) (.v 0)), (.le (.c 0) (.v 0)), (.le (.v 0) (.c 9223372036854775807))], []⟩,
⟨(.val (.b .ff)), [(.lt (.v 0) (.c 2)), (.le (.c 0) (.v 0)), (.le (.v 0) (.c 9223372036854775807))], []⟩] (by kernel_rfl) ρ w hF hT hR ⟨?_, ?_, ?_, ?_, ?_, ?_, ?_, ?_, ?_, ?_⟩ (u.J w)
  all_goals
    intro ρ' w' hx _ hF hb _
    have e0 : ρ'.i 0 = ρ.i 0 := hx.i 0 (by decide)
    have l0 : ρ'.l 0 = ρ.l 0 := hx.l 0 (by decide)
    have hh' : ρ'.h = Tk.hF := by rw [hx.h]; exact hh
    clear hx hR
    simp only [holds, List.mem_cons, List.not_mem_nil, or_false, forall_eq_or_imp, forall_eq, B_le, B_lt, B_eq, B_not, B_and, I_add, I_sub, I_mul, I_ite, I_c, I_v, I_nthI, L_lv, h_1 hh', h_2 hh', e0, l0, nI_eq, sX_f, sY_f, decide_eq_true_eq, Bool.not_eq_true', decide_eq_false_iff_not, Bool.and_eq_false_iff, den_b, B_t, B_f] at hF ⊢
    try simp only [mx_ab] at hF
    have a1 := ab_or (sX (ρ.l 0) (ρ'.i 5) - sX (ρ.l 0) (ρ'.i 5 - 1))
    have a2 := ab_or (sY (ρ.l 0) (ρ'.i 5) - sY (ρ.l 0) (ρ'.i 5 - 1))
    first
      | exact track_no hh (fun h => by have := (track_iff.1 h).1; omega) hb
      | exact leg_one _
      | (have hn : allTo (ρ.i 0) (spB (ρ.l 0)) = false := by simp only [hF]
         exact track_no hh (fun h => by have h2 := (track_iff.1 h).2.1; rw [hn] at h2; cases h2) hb)
      | (refine track_no hh (not_legs (k := ρ'.i 5) (by omega) (by omega) (fun h => ?_)) hb
         rw [legB_iff (by omega)] at h
         have := wayB_iff.1 h
         omega)
      | (rw [allTo_succ (by omega), legB_iff (by omega), wayB_iff.2 (by omega), Bool.and_true]; simp only [hF])
      | (have hP : allTo (ρ'.i 5) (legB (ρ.l 0)) = true := by simp only [hF]
         rw [show ρ'.i 5 = ρ.i 0 by omega] at hP
         exact track_yes hh hR0 (by omega) (by simp only [hF]) hP hb)
theorem track_ok (u : Fit TT) : CtrOk TT Try.prog cTrackR := ctrCases_ok rfl fun ρ w hF0 hT hR => by
  have hh := (u.tab hT).2
  have hF := nF_of hR (row_in [])
  have hR0 := hR
  refine cases_rest dd_ok (Γ := { loops := [trackRL] }) (by simp) 400 [rowK] (nF 0) trackCs (by decide)
    [⟨(.val (.b .ff)), [(.lt (.c 1024) (.v 0)), (.le (.c 2) (.v 0)), (.le (.c 0) (.v 0)), (.le (.v 0) (.c 9223372036854775807))], []⟩,
⟨(.must (.happ 1 (.cons (.c 0) (.lv 0)))), [(.le (.v 0) (.c 1024)), (.le (.c 2) (.v 0)), (.le (.c 0) (.v 0)), (.le (.v 0) (.c 9223372036854775807))], []⟩,
⟨(.must (.happ 2 (.cons (.c 0) (.lv 0)))), [(.le (.v 0) (.c 1024)), (.le (.c 2) (.v 0)), (.le (.c 0) (.v 0)), (.le (.v 0) (.c 9223372036854775807))], []⟩,
⟨(.val (.b .ff)), [(.lt (.c 16777216) (.nthI (.lv 0) (.add (.mul (.v 1) (.c 2)) (.c 1)))), (.le (.c (-16777216)) (.nthI (.lv 0) (.add (.mul (.v 1) (.c 2)) (.c 1)))), (.le (.nthI (.lv 0) (.mul (.v 1) (.c 2))) (.c 16777216)), (.le (.c (-16777216)) (.nthI (.lv 0) (.mul (.v 1) (.c 2)))), (.lt (.v 1) (.v 0)), (.le (.c 0) (.v 1)), (.le (.v 1) (.v 0)), (.le (.v 1) (.c 1024)), (.happ 1 (.cons (.v 1) (.lv 0))), (.happ 2 (.cons (.v 1) (.lv 0))), (.le (.v 0) (.c 1024)), (.le (.c 2) (.v 0)), (.le (.c 0) (.v 0)), (.le (.v 0) (.c 9223372036854775807))], []⟩,
⟨(.must (.happ 1 (.cons (.add (.v 1) (.c 1)) (.lv 0)))), [(.eq (.v 1) (.c 0)), (.le (.nthI (.lv 0) (.add (.mul (.v 1) (.c 2)) (.c 1))) (.c 16777216)), (.le (.c (-16777216)) (.nthI (.lv 0) (.add (.mul (.v 1) (.c 2)) (.c 1)))), (.le (.nthI (.lv 0) (.mul (.v 1) (.c 2))) (.c 16777216)), (.le (.c (-16777216)) (.nthI (.lv 0) (.mul (.v 1) (.c 2)))), (.lt (.v 1) (.v 0)), (.le (.c 0) (.v 1)), (.le (.v 1) (.v 0)), (.le (.v 1) (.c 1024)), (.happ 1 (.cons (.v 1) (.lv 0))), (.happ 2 (.cons (.v 1) (.lv 0))), (.le (.v 0) (.c 1024)), (.le (.c 2) (.v 0)), (.le (.c 0) (.v 0)), (.le (.v 0) (.c 9223372036854775807))], []⟩,
⟨(.must (.happ 2 (.cons (.add (.v 1) (.c 1)) (.lv 0)))), [(.eq (.v 1) (.c 0)), (.le (.nthI (.lv 0) (.add (.mul (.v 1) (.c 2)) (.c 1))) (.c 16777216)), (.le (.c (-16777216)) (.nthI (.lv 0) (.add (.mul (.v 1) (.c 2)) (.c 1)))), (.le (.nthI (.lv 0) (.mul (.v 1) (.c 2))) (.c 16777216)), (.le (.c (-16777216)) (.nthI (.lv 0) (.mul (.v 1) (.c 2)))), (.lt (.v 1) (.v 0)), (.le (.c 0) (.v 1)), (.le (.v 1) (.v 0)), (.le (.v 1) (.c 1024)), (.happ 1 (.cons (.v 1) (.lv 0))), (.happ 2 (.cons (.v 1) (.lv 0))), (.le (.v 0) (.c 1024)), (.le (.c 2) (.v 0)), (.le (.c 0) (.v 0)), (.le (.v 0) (.c 9223372036854775807))], []⟩,
⟨(.val (.b .ff)), [(.not (.eq (.ite (.lt (.wrap .i64 (.sub (.nthI (.lv 0) (.mul (.v 1) (.c 2))) (.nthI (.lv 0) (.mul (.sub (.v 1) (.c 1)) (.c 2))))) (.wrap .i64 (.sub (.c 0) (.wrap .i64 (.sub (.nthI (.lv 0) (.mul (.v 1) (.c 2))) (.nthI (.lv 0) (.mul (.sub (.v 1) (.c 1)) (.c 2)))))))) (.wrap .i64 (.sub (.c 0) (.wrap .i64 (.sub (.nthI (.lv 0) (.mul (.v 1) (.c 2))) (.nthI (.lv 0) (.mul (.sub (.v 1) (.c 1)) (.c 2))))))) (.wrap .i64 (.sub (.nthI (.lv 0) (.mul (.v 1) (.c 2))) (.nthI (.lv 0) (.mul (.sub (.v 1) (.c 1)) (.c 2)))))) (.ite (.lt (.wrap .i64 (.sub (.nthI (.lv 0) (.add (.mul (.v 1) (.c 2)) (.c 1))) (.nthI (.lv 0) (.add (.mul (.sub (.v 1) (.c 1)) (.c 2)) (.c 1))))) (.wrap .i64 (.sub (.c 0) (.wrap .i64 (.sub (.nthI (.lv 0) (.add (.mul (.v 1) (.c 2)) (.c 1))) (.nthI (.lv 0) (.add (.mul (.sub (.v 1) (.c 1)) (.c 2)) (.c 1)))))))) (.wrap .i64 (.sub (.c 0) (.wrap .i64 (.sub (.nthI (.lv 0) (.add (.mul (.v 1) (.c 2)) (.c 1))) (.nthI (.lv 0) (.add (.mul (.sub (.v 1) (.c 1)) (.c 2)) (.c 1))))))) (.wrap .i64 (.sub (.nthI (.lv 0) (.add (.mul (.v 1) (.c 2)) (.c 1))) (.nthI (.lv 0) (.add (.mul (.sub (.v 1) (.c 1)) (.c 2)) (.c 1)))))))), (.not (.eq (.wrap .i64 (.sub (.nthI (.lv 0) (.add (.mul (.v 1) (.c 2)) (.c 1))) (.nthI (.lv 0) (.add (.mul (.sub (.v 1) (.c 1)) (.c 2)) (.c 1))))) (.c 0))), (.not (.eq (.wrap .i64 (.sub (.nthI (.lv 0) (.mul (.v 1) (.c 2))) (.nthI (.lv 0) (.mul (.sub (.v 1) (.c 1)) (.c 2))))) (.c 0))), (.lt (.sub (.v 1) (.c 1)) (.v 0)), (.le (.c 0) (.sub (.v 1) (.c 1))), (.not (.eq (.v 1) (.c 0))), (.le (.nthI (.lv 0) (.add (.mul (.v 1) (.c 2)) (.c 1))) (.c 16777216)), (.le (.c (-16777216)) (.nthI (.lv 0) (.add (.mul (.v 1) (.c 2)) (.c 1)))), (.le (.nthI (.lv 0) (.mul (.v 1) (.c 2))) (.c 16777216)), (.le (.c (-16777216)) (.nthI (.lv 0) (.mul (.v 1) (.c 2)))), (.lt (.v 1) (.v 0)), (.le (.c 0) (.v 1)), (.le (.v 1) (.v 0)), (.le (.v 1) (.c 1024)), (.happ 1 (.cons (.v 1) (.lv 0))), (.happ 2 (.cons (.v 1) (.lv 0))), (.le (.v 0) (.c 1024)), (.le (.c 2) (.v 0)), (.le (.c 0) (.v 0)), (.le (.v 0) (.c 9223372036854775807))], []⟩,
⟨(.must (.happ 1 (.cons (.add (.v 1) (.c 1)) (.lv 0)))), [(.eq (.ite (.lt (.wrap .i64 (.sub (.nthI (.lv 0) (.mul (.v 1) (.c 2))) (.nthI (.lv 0) (.mul (.sub (.v 1) (.c 1)) (.c 2))))) (.wrap .i64 (.sub (.c 0) (.wrap .i64 (.sub (.nthI (.lv 0) (.mul (.v 1) (.c 2))) (.nthI (.lv 0) (.mul (.sub (.v 1) (.c 1)) (.c 2)))))))) (.wrap .i64 (.sub (.c 0) (.wrap .i64 (.sub (.nthI (.lv 0) (.mul (.v 1) (.c 2))) (.nthI (.lv 0) (.mul (.sub (.v 1) (.c 1)) (.c 2))))))) (.wrap .i64 (.sub (.nthI (.lv 0) (.mul (.v 1) (.c 2))) (.nthI (.lv 0) (.mul (.sub (.v 1) (.c 1)) (.c 2)))))) (.ite (.lt (.wrap .i64 (.sub (.nthI (.lv 0) (.add (.mul (.v 1) (.c 2)) (.c 1))) (.nthI (.lv 0) (.add (.mul (.sub (.v 1) (.c 1)) (.c 2)) (.c 1))))) (.wrap .i64 (.sub (.c 0) (.wrap .i64 (.sub (.nthI (.lv 0) (.add (.mul (.v 1) (.c 2)) (.c 1))) (.nthI (.lv 0) (.add (.mul (.sub (.v 1) (.c 1)) (.c 2)) (.c 1)))))))) (.wrap .i64 (.sub (.c 0) (.wrap .i64 (.sub (.nthI (.lv 0) (.add (.mul (.v 1) (.c 2)) (.c 1))) (.nthI (.lv 0) (.add (.mul (.sub (.v 1) (.c 1)) (.c 2)) (.c 1))))))) (.wrap .i64 (.sub (.nthI (.lv 0) (.add (.mul (.v 1) (.c 2)) (.c 1))) (.nthI (.lv 0) (.add (.mul (.sub (.v 1) (.c 1)) (.c 2)) (.c 1))))))), (.not (.eq (.wrap .i64 (.sub (.nthI (.lv 0) (.add (.mul (.v 1) (.c 2)) (.c 1))) (.nthI (.lv 0) (.add (.mul (.sub (.v 1) (.c 1)) (.c 2)) (.c 1))))) (.c 0))), (.not (.eq (.wrap .i64 (.sub (.nthI (.lv 0) (.mul (.v 1) (.c 2))) (.nthI (.lv 0) (.mul (.sub (.v 1) (.c 1)) (.c 2))))) (.c 0))), (.lt (.sub (.v 1) (.c 1)) (.v 0)), (.le (.c 0) (.sub (.v 1) (.c 1))), (.not (.eq (.v 1) (.c 0))), (.le (.nthI (.lv 0) (.add (.mul (.v 1) (.c 2)) (.c 1))) (.c 16777216)), (.le (.c (-16777216)) (.nthI (.lv 0) (.add (.mul (.v 1) (.c 2)) (.c 1)))), (.le (.nthI (.lv 0) (.mul (.v 1) (.c 2))) (.c 16777216)), (.le (.c (-16777216)) (.nthI (.lv 0) (.mul (.v 1) (.c 2)))), (.lt (.v 1) (.v 0)), (.le (.c 0) (.v 1)), (.le (.v 1) (.v 0)), (.le (.v 1) (.c 1024)), (.happ 1 (.cons (.v 1) (.lv 0))), (.happ 2 (.cons (.v 1) (.lv 0))), (.le (.v 0) (.c 1024)), (.le (.c 2) (.v 0)), (.le (.c 0) (.v 0)), (.le (.v 0) (.c 9223372036854775807))], []⟩,
⟨(.must (.happ 2 (.cons (.add (.v 1) (.c 1)) (.lv 0)))), [(.eq (.ite (.lt (.wrap .i64 (.sub (.nthI (.lv 0) (.mul (.v 1) (.c 2))) (.nthI (.lv 0) (.mul (.sub (.v 1) (.c 1)) (.c 2))))) (.wrap .i64 (.sub (.c 0) (.wrap .i64 (.sub (.nthI (.lv 0) (.mul (.v 1) (.c 2))) (.nthI (.lv 0) (.mul (.sub (.v 1) (.c 1)) (.c 2)))))))) (.wrap .i64 (.sub (.c 0) (.wrap .i64 (.sub (.nthI (.lv 0) (.mul (.v 1) (.c 2))) (.nthI (.lv 0) (.mul (.sub (.v 1) (.c 1)) (.c 2))))))) (.wrap .i64 (.sub (.nthI (.lv 0) (.mul (.v 1) (.c 2))) (.nthI (.lv 0) (.mul (.sub (.v 1) (.c 1)) (.c 2)))))) (.ite (.lt (.wrap .i64 (.sub (.nthI (.lv 0) (.add (.mul (.v 1) (.c 2)) (.c 1))) (.nthI (.lv 0) (.add (.mul (.sub (.v 1) (.c 1)) (.c 2)) (.c 1))))) (.wrap .i64 (.sub (.c 0) (.wrap .i64 (.sub (.nthI (.lv 0) (.add (.mul (.v 1) (.c 2)) (.c 1))) (.nthI (.lv 0) (.add (.mul (.sub (.v 1) (.c 1)) (.c 2)) (.c 1)))))))) (.wrap .i64 (.sub (.c 0) (.wrap .i64 (.sub (.nthI (.lv 0) (.add (.mul (.v 1) (.c 2)) (.c 1))) (.nthI (.lv 0) (.add (.mul (.sub (.v 1) (.c 1)) (.c 2)) (.c 1))))))) (.wrap .i64 (.sub (.nthI (.lv 0) (.add (.mul (.v 1) (.c 2)) (.c 1))) (.nthI (.lv 0) (.add (.mul (.sub (.v 1) (.c 1)) (.c 2)) (.c 1))))))), (.not (.eq (.wrap .i64 (.sub (.nthI (.lv 0) (.add (.mul (.v 1) (.c 2)) (.c 1))) (.nthI (.lv 0) (.add (.mul (.sub (.v 1) (.c 1)) (.c 2)) (.c 1))))) (.c 0))), (.not (.eq (.wrap .i64 (.sub (.nthI (.lv 0) (.mul (.v 1) (.c 2))) (.nthI (.lv 0) (.mul (.sub (.v 1) (.c 1)) (.c 2))))) (.c 0))), (.lt (.sub (.v 1) (.c 1)) (.v 0)), (.le (.c 0) (.sub (.v 1) (.c 1))), (.not (.eq (.v 1) (.c 0))), (.le (.nthI (.lv 0) (.add (.mul (.v 1) (.c 2)) (.c 1))) (.c 16777216)), (.le (.c (-16777216)) (.nthI (.lv 0) (.add (.mul (.v 1) (.c 2)) (.c 1)))), (.le (.nthI (.lv 0) (.mul (.v 1) (.c 2))) (.c 16777216)), (.le (.c (-16777216)) (.nthI (.lv 0) (.mul (.v 1) (.c 2)))), (.lt (.v 1) (.v 0)), (.le (.c 0) (.v 1)), (.le (.v 1) (.v 0)), (.le (.v 1) (.c 1024)), (.happ 1 (.cons (.v 1) (.lv 0))), (.happ 2 (.cons (.v 1) (.lv 0))), (.le (.v 0) (.c 1024)), (.le (.c 2) (.v 0)), (.le (.c 0) (.v 0)), (.le (.v 0) (.c 9223372036854775807))], []⟩,
⟨(.must (.happ 1 (.cons (.add (.v 1) (.c 1)) (.lv 0)))), [(.eq (.wrap .i64 (.sub (.nthI (.lv 0) (.add (.mul (.v 1) (.c 2)) (.c 1))) (.nthI (.lv 0) (.add (.mul (.sub (.v 1) (.c 1)) (.c 2)) (.c 1))))) (.c 0)), (.not (.eq (.wrap .i64 (.sub (.nthI (.lv 0) (.mul (.v 1) (.c 2))) (.nthI (.lv 0) (.mul (.sub (.v 1) (.c 1)) (.c 2))))) (.c 0))), (.lt (.sub (.v 1) (.c 1)) (.v 0)), (.le (.c 0) (.sub (.v 1) (.c 1))), (.not (.eq (.v 1) (.c 0))), (.le (.nthI (.lv 0) (.add (.mul (.v 1) (.c 2)) (.c 1))) (.c 16777216)), (.le (.c (-16777216)) (.nthI (.lv 0) (.add (.mul (.v 1) (.c 2)) (.c 1)))), (.le (.nthI (.lv 0) (.mul (.v 1) (.c 2))) (.c 16777216)), (.le (.c (-16777216)) (.nthI (.lv 0) (.mul (.v 1) (.c 2)))), (.lt (.v 1) (.v 0)), (.le (.c 0) (.v 1)), (.le (.v 1) (.v 0)), (.le (.v 1) (.c 1024)), (.happ 1 (.cons (.v 1) (.lv 0))), (.happ 2 (.cons (.v 1) (.lv 0))), (.le (.v 0) (.c 1024)), (.le (.c 2) (.v 0)), (.le (.c 0) (.v 0)), (.le (.v 0) (.c 9223372036854775807))], []⟩,
⟨(.must (.happ 2 (.cons (.add (.v 1) (.c 1)) (.lv 0)))), [(.eq (.wrap .i64 (.sub (.nthI (.lv 0) (.add (.mul (.v 1) (.c 2)) (.c 1))) (.nthI (.lv 0) (.add (.mul (.sub (.v 1) (.c 1)) (.c 2)) (.c 1))))) (.c 0)), (.not (.eq (.wrap .i64 (.sub (.nthI (.lv 0) (.mul (.v 1) (.c 2))) (.nthI (.lv 0) (.mul (.sub (.v 1) (.c 1)) (.c 2))))) (.c 0))), (.lt (.sub (.v 1) (.c 1)) (.v 0)), (.le (.c 0) (.sub (.v 1) (.c 1))), (.not (.eq (.v 1) (.c 0))), (.le (.nthI (.lv 0) (.add (.mul (.v 1) (.c 2)) (.c 1))) (.c 16777216)), (.le (.c (-16777216)) (.nthI (.lv 0) (.add (.mul (.v 1) (.c 2)) (.c 1)))), (.le (.nthI (.lv 0) (.mul (.v 1) (.c 2))) (.c 16777216)), (.le (.c (-16777216)) (.nthI (.lv 0) (.mul (.v 1) (.c 2)))), (.lt (.v 1) (.v 0)), (.le (.c 0) (.v 1)), (.le (.v 1) (.v 0)), (.le (.v 1) (.c 1024)), (.happ 1 (.cons (.v 1) (.lv 0))), (.happ 2 (.cons (.v 1) (.lv 0))), (.le (.v 0) (.c 1024)), (.le (.c 2) (.v 0)), (.le (.c 0) (.v 0)), (.le (.v 0) (.c 9223372036854775807))], []⟩,
⟨(.val (.b .ff)), [(.eq (.wrap .i64 (.sub (.nthI (.lv 0) (.add (.mul (.v 1) (.c 2)) (.c 1))) (.nthI (.lv 0) (.add (.mul (.sub (.v 1) (.c 1)) (.c 2)) (.c 1))))) (.c 0)), (.eq (.wrap .i64 (.sub (.nthI (.lv 0) (.mul (.v 1) (.c 2))) (.nthI (.lv 0) (.mul (.sub (.v 1) (.c 1)) (.c 2))))) (.c 0)), (.lt (.sub (.v 1) (.c 1)) (.v 0)), (.le (.c 0) (.sub (.v 1) (.c 1))), (.not (.eq (.v 1) (.c 0))), (.le (.nthI (.lv 0) (.add (.mul (.v 1) (.c 2)) (.c 1))) (.c 16777216)), (.le (.c (-16777216)) (.nthI (.lv 0) (.add (.mul (.v 1) (.c 2)) (.c 1)))), (.le (.nthI (.lv 0) (.mul (.v 1) (.c 2))) (.c 16777216)), (.le (.c (-16777216)) (.nthI (.lv 0) (.mul (.v 1) (.c 2)))), (.lt (.v 1) (.v 0)), (.le (.c 0) (.v 1)), (.le (.v 1) (.v 0)), (.le (.v 1) (.c 1024)), (.happ 1 (.cons (.v 1) (.lv 0))), (.happ 2 (.cons (.v 1) (.lv 0))), (.le (.v 0) (.c 1024)), (.le (.c 2) (.v 0)), (.le (.c 0) (.v 0)), (.le (.v 0) (.c 9223372036854775807))], []⟩,
⟨(.must (.happ 1 (.cons (.add (.v 1) (.c 1)) (.lv 0)))), [(.not (.eq (.wrap .i64 (.sub (.nthI (.lv 0) (.add (.mul (.v 1) (.c 2)) (.c 1))) (.nthI (.lv 0) (.add (.mul (.sub (.v 1) (.c 1)) (.c 2)) (.c 1))))) (.c 0))), (.eq (.wrap .i64 (.sub (.nthI (.lv 0) (.mul (.v 1) (.c 2))) (.nthI (.lv 0) (.mul (.sub (.v 1) (.c 1)) (.c 2))))) (.c 0)), (.lt (.sub (.v 1) (.c 1)) (.v 0)), (.le (.c 0) (.sub (.v 1) (.c 1))), (.not (.eq (.v 1) (.c 0))), (.le (.nthI (.lv 0) (.add (.mul (.v 1) (.c 2)) (.c 1))) (.c 16777216)), (.le (.c (-16777216)) (.nthI (.lv 0) (.add (.mul (.v 1) (.c 2)) (.c 1)))), (.le (.nthI (.lv 0) (.mul (.v 1) (.c 2))) (.c 16777216)), (.le (.c (-16777216)) (.nthI (.lv 0) (.mul (.v 1) (.c 2)))), (.lt (.v 1) (.v 0)), (.le (.c 0) (.v 1)), (.le (.v 1) (.v 0)), (.le (.v 1) (.c 1024)), (.happ 1 (.cons (.v 1) (.lv 0))), (.happ 2 (.cons (.v 1) (.lv 0))), (.le (.v 0) (.c 1024)), (.le (.c 2) (.v 0)), (.le (.c 0) (.v 0)), (.le (.v 0) (.c 9223372036854775807))], []⟩,
⟨(.must (.happ 2 (.cons (.add (.v 1) (.c 1)) (.lv 0)))), [(.not (.eq (.wrap .i64 (.sub (.nthI (.lv 0) (.add (.mul (.v 1) (.c 2)) (.c 1))) (.nthI (.lv 0) (.add (.mul (.sub (.v 1) (.c 1)) (.c 2)) (.c 1))))) (.c 0))), (.eq (.wrap .i64 (.sub (.nthI (.lv 0) (.mul (.v 1) (.c 2))) (.nthI (.lv 0) (.mul (.sub (.v 1) (.c 1)) (.c 2))))) (.c 0)), (.lt (.sub (.v 1) (.c 1)) (.v 0)), (.le (.c 0) (.sub (.v 1) (.c 1))), (.not (.eq (.v 1) (.c 0))), (.le (.nthI (.lv 0) (.add (.mul (.v 1) (.c 2)) (.c 1))) (.c 16777216)), (.le (.c (-16777216)) (.nthI (.lv 0) (.add (.mul (.v 1) (.c 2)) (.c 1)))), (.le (.nthI (.lv 0) (.mul (.v 1) (.c 2))) (.c 16777216)), (.le (.c (-16777216)) (.nthI (.lv 0) (.mul (.v 1) (.c 2)))), (.lt (.v 1) (.v 0)), (.le (.c 0) (.v 1)), (.le (.v 1) (.v 0)), (.le (.v 1) (.c 1024)), (.happ 1 (.cons (.v 1) (.lv 0))), (.happ 2 (.cons (.v 1) (.lv 0))), (.le (.v 0) (.c 1024)), (.le (.c 2) (.v 0)), (.le (.c 0) (.v 0)), (.le (.v 0) (.c 9223372036854775807))], []⟩,
⟨(.val (.b .ff)), [(.lt (.nthI (.lv 0) (.add (.mul (.v 1) (.c 2)) (.c 1))) (.c (-16777216))), (.le (.nthI (.lv 0) (.mul (.v 1) (.c 2))) (.c 16777216)), (.le (.c (-16777216)) (.nthI (.lv 0) (.mul (.v 1) (.c 2)))), (.lt (.v 1) (.v 0)), (.le (.c 0) (.v 1)), (.le (.v 1) (.v 0)), (.le (.v 1) (.c 1024)), (.happ 1 (.cons (.v 1) (.lv 0))), (.happ 2 (.cons (.v 1) (.lv 0))), (.le (.v 0) (.c 1024)), (.le (.c 2) (.v 0)), (.le (.c 0) (.v 0)), (.le (.v 0) (.c 9223372036854775807))], []⟩,
⟨(.val (.b .ff)), [(.lt (.c 16777216) (.nthI (.lv 0) (.mul (.v 1) (.c 2)))), (.le (.c (-16777216)) (.nthI (.lv 0) (.mul (.v 1) (.c 2)))), (.lt (.v 1) (.v 0)), (.le (.c 0) (.v 1)), (.le (.v 1) (.v 0)), (.le (.v 1) (.c 1024)), (.happ 1 (.cons (.v 1) (.lv 0))), (.happ 2 (.cons (.v 1) (.lv 0))), (.le (.v 0) (.c 1024)), (.le (.c 2) (.v 0)), (.le (.c 0) (.v 0)), (.le (.v 0) (.c 9223372036854775807))], []⟩,
⟨(.val (.b .ff)), [(.lt (.nthI (.lv 0) (.mul (.v 1) (.c 2))) (.c (-16777216))), (.lt (.v 1) (.v 0)), (.le (.c 0) (.v 1)), (.le (.v 1) (.v 0)), (.le (.v 1) (.c 1024)), (.happ 1 (.cons (.v 1) (.lv 0))), (.happ 2 (.cons (.v 1) (.lv 0))), (.le (.v 0) (.c 1024)), (.le (.c 2) (.v 0)), (.le (.c 0) (.v 0)), (.le (.v 0) (.c 9223372036854775807))], []⟩,
⟨(.val (.b .tt)), [(.le (.v 0) (.v 1)), (.le (.c 0) (.v 1)), (.le (.v 1) (.v 0)), (.le (.v 1) (.c 1024)), (.happ 1 (.cons (.v 1) (.lv 0))), (.happ 2 (.cons (.v 1) (.lv 0))), (.le (.v 0) (.c 1024)), (.le (.c 2) (.v 0)), (.le (.c 0) (.v 0)), (.le (.v 0) (.c 9223372036854775807))], []⟩,
⟨(.val (.b .ff)), [(.lt (.v 0) (.c 2)), (.le (.c 0) (.v 0)), (.le (.v 0) (.c 9223372036854775807))], []⟩] (by kernel_rfl) ρ w hF hT hR ⟨?_, ?_, ?_, ?_, ?_, ?_, ?_, ?_, ?_, ?_, ?_, ?_, ?_, ?_, ?_, ?_, ?_, ?_, ?_⟩ (u.J w)
  all_goals
    intro ρ' w' hx _ hF hb _
    have e0 : ρ'.i 0 = ρ.i 0 := hx.i 0 (by decide)
    have l0 : ρ'.l 0 = ρ.l 0 := hx.l 0 (by decide)
    have hh' : ρ'.h = Tk.hF := by rw [hx.h]; exact hh
    clear hx hR
    simp only [holds, List.mem_cons, List.not_mem_nil, or_false, forall_eq_or_imp, forall_eq, B_le, B_lt, B_eq, B_not, I_add, I_sub, I_mul, I_ite, I_wrap, I_c, I_v, I_nthI, L_lv, h_1 hh', h_2 hh', e0, l0, nI_eq, sX_f, sY_f, decide_eq_true_eq, Bool.not_eq_true', decide_eq_false_iff_not, den_b, B_t, B_f] at hF ⊢
    first
      | exact allTo_zero _
      | exact track_no hh (fun h => by have := (track_iff.1 h).1; omega) hb
      | (refine track_no hh (not_spots (k := ρ'.i 1) (by omega) (by omega) (fun h => ?_)) hb
         have := spB_iff.1 h
         omega)
      | (have hP : allTo (ρ'.i 1) (spB (ρ.l 0)) = true := by (revert hF; simp only [and_imp]; intros; assumption)
         rw [allTo_succ (by omega), spB_iff.2 (by omega), Bool.and_true]; exact hP)
      | (have z : ρ'.i 1 = 0 := by omega
         rw [z]; exact leg_one _)
      | (have hP : allTo (ρ'.i 1) (spB (ρ.l 0)) = true := by (revert hF; simp only [and_imp]; intros; assumption)
         have hQ : allTo (ρ'.i 1) (legB (ρ.l 0)) = true := by (revert hF; simp only [and_imp]; intros; assumption)
         rw [show ρ'.i 1 = ρ.i 0 by omega] at hP hQ
         exact track_yes hh hR0 (by omega) hP hQ hb)
      | (have hP : allTo (ρ'.i 1) (spB (ρ.l 0)) = true := by (revert hF; simp only [and_imp]; intros; assumption)
         have p := spB_iff.1 (allTo_at hP (k := ρ'.i 1 - 1) (by omega) (by omega))
         have w1 : IntKind.i64.wrap (sX (ρ.l 0) (ρ'.i 1) - sX (ρ.l 0) (ρ'.i 1 - 1)) = sX (ρ.l 0) (ρ'.i 1) - sX (ρ.l 0) (ρ'.i 1 - 1) := by rw [IntKind.wrap_i64]; omega
         have w2 : IntKind.i64.wrap (sY (ρ.l 0) (ρ'.i 1) - sY (ρ.l 0) (ρ'.i 1 - 1)) = sY (ρ.l 0) (ρ'.i 1) - sY (ρ.l 0) (ρ'.i 1 - 1) := by rw [IntKind.wrap_i64]; omega
         have w3 : IntKind.i64.wrap (0 - (sX (ρ.l 0) (ρ'.i 1) - sX (ρ.l 0) (ρ'.i 1 - 1))) = 0 - (sX (ρ.l 0) (ρ'.i 1) - sX (ρ.l 0) (ρ'.i 1 - 1)) := by rw [IntKind.wrap_i64]; omega
         have w4 : IntKind.i64.wrap (0 - (sY (ρ.l 0) (ρ'.i 1) - sY (ρ.l 0) (ρ'.i 1 - 1))) = 0 - (sY (ρ.l 0) (ρ'.i 1) - sY (ρ.l 0) (ρ'.i 1 - 1)) := by rw [IntKind.wrap_i64]; omega
         simp only [w1, w2, w3, w4, mx_ab] at hF
         have a1 := ab_or (sX (ρ.l 0) (ρ'.i 1) - sX (ρ.l 0) (ρ'.i 1 - 1))
         have a2 := ab_or (sY (ρ.l 0) (ρ'.i 1) - sY (ρ.l 0) (ρ'.i 1 - 1))
         first
         | (refine track_no hh (not_legs (k := ρ'.i 1) (by omega) (by omega) (fun h => ?_)) hb
            rw [legB_iff (by omega)] at h
            have := wayB_iff.1 h
            omega)
         | (have hQ : allTo (ρ'.i 1) (legB (ρ.l 0)) = true := by (revert hF; simp only [and_imp]; intros; assumption)
            rw [allTo_succ (by omega), legB_iff (by omega), wayB_iff.2 (by omega), Bool.and_true]; exact hQ))
end Go.Proofs.Ythihccmombcihaa.Tk
end
section
namespace Go.Proofs.Ythihccmombcihaa.Tk
open Go Go.Proofs.Ythihccmombcihaa.Sx Go.RowKit
variable {TT : Tb}
theorem and32 {x : Int} (h0 : 0 ≤ x) (h1 : x < 18446744073709551616) : bitsI .and .u64 x 4294967295 = x % 4294967296 := by
  obtain ⟨n, rfl⟩ := Int.eq_ofNat_of_zero_le h0
  have hn : n < 18446744073709551616 := by omega
  show IntKind.u64.wrap ((BitVec.ofInt 64 (n : Int) &&& BitVec.ofInt 64 4294967295).toNat : Int) = _
  have e1 : (BitVec.ofInt 64 (n : Int) &&& BitVec.ofInt 64 4294967295).toNat = n % 4294967296 := by
    rw [BitVec.toNat_and]
    have a : (BitVec.ofInt 64 (n : Int)).toNat = n := by
      rw [BitVec.toNat_ofInt]; omega
    have b : (BitVec.ofInt 64 4294967295).toNat = 2 ^ 32 - 1 := by decide
    rw [a, b, Nat.and_two_pow_sub_one_eq_mod]
  rw [e1, IntKind.wrap_u64]
  omega
theorem shr32 {x : Int} (_h0 : 0 ≤ x) : x.fdiv (2 ^ (min (32 : Int).toNat IntKind.u64.bits)) = x / 4294967296 := by
  rw [show (2 : Int) ^ (min (32 : Int).toNat IntKind.u64.bits) = 4294967296 by decide, Int.fdiv_eq_ediv_of_nonneg _ (by omega)]
def U64 : LK := .sc (.i .u64)
def mulFs : List E := btw 0 0 137438953472 ++ btw 0 1 137438953472
def hiE (x y : E) : E := .quo (.mul x y) (.c 18446744073709551616)
def loE (x y : E) : E := .rem (.mul x y) (.c 18446744073709551616)
def cMul := ctrVal 41 [.one U64, .one U64] mulFs (.tup (V.ofL [.i .u64 (hiE (.v 0) (.v 1)), .i .u64 (loE (.v 0) (.v 1))])) []
theorem mul_hi {x y a b c d P Q R S : Int} (hx0 : 0 ≤ x) (hx1 : x ≤ 137438953472) (hy0 : 0 ≤ y) (hy1 : y ≤ 137438953472) (ha : a = x / 4294967296) (hb : b = x % 4294967296) (hc : c = y / 4294967296) (hd : d = y % 4294967296) (hP : P = b * d) (hQ : Q = a * d) (hR : R = b * c) (hS : S = a * c) :
    (0 ≤ P ∧ P < 18446744073709551616) ∧ (0 ≤ Q ∧ Q ≤ 137438953472) ∧ (0 ≤ R ∧ R ≤ 137438953472) ∧ (0 ≤ S ∧ S ≤ 1024) ∧ x * y = S * 18446744073709551616 + (Q + R) * 4294967296 + P := by
  have ha0 : 0 ≤ a ∧ a ≤ 32 := by omega
  have hb0 : 0 ≤ b ∧ b ≤ 4294967295 := by omega
  have hc0 : 0 ≤ c ∧ c ≤ 32 := by omega
  have hd0 : 0 ≤ d ∧ d ≤ 4294967295 := by omega
  have p1 := Int.mul_nonneg hb0.1 hd0.1
  have p2 : b * d ≤ 4294967295 * 4294967295 := Int.mul_le_mul hb0.2 hd0.2 hd0.1 (by omega)
  have q1 := Int.mul_nonneg ha0.1 hd0.1
  have q2 : a * d ≤ 32 * 4294967295 := Int.mul_le_mul ha0.2 hd0.2 hd0.1 (by omega)
  have r1 := Int.mul_nonneg hb0.1 hc0.1
  have r2 : b * c ≤ 4294967295 * 32 := Int.mul_le_mul hb0.2 hc0.2 hc0.1 (by omega)
  have s1 := Int.mul_nonneg ha0.1 hc0.1
  have s2 : a * c ≤ 32 * 32 := Int.mul_le_mul ha0.2 hc0.2 hc0.1 (by omega)
  have hxe : x = a * 4294967296 + b := by omega
  have hye : y = c * 4294967296 + d := by omega
  subst hP hQ hR hS
  refine ⟨by omega, by omega, by omega, by omega, ?_⟩
  rw [hxe, hye]
  grind
theorem mul_ok (u : Fit TT) : CtrOk TT Try.prog cMul := ctrVal_ok rfl fun ρ w hF hT hR => by
  refine pat_calls (Γ := {}) (by simp) 400 [.one U64, .one U64] mulFs
    [⟨(.val (.tup (.cons (.i .u64 (.add (.add (.mul (.shr .u64 (.v 0) (.c 32)) (.shr .u64 (.v 1) (.c 32))) (.shr .u64 (.wrap .u64 (.add (.wrap .u64 (.mul (.shr .u64 (.v 0) (.c 32)) (.bits .and .u64 (.v 1) (.c 4294967295)))) (.shr .u64 (.wrap .u64 (.mul (.bits .and .u64 (.v 0) (.c 4294967295)) (.bits .and .u64 (.v 1) (.c 4294967295)))) (.c 32)))) (.c 32))) (.shr .u64 (.wrap .u64 (.add (.bits .and .u64 (.wrap .u64 (.add (.wrap .u64 (.mul (.shr .u64 (.v 0) (.c 32)) (.bits .and .u64 (.v 1) (.c 4294967295)))) (.shr .u64 (.wrap .u64 (.mul (.bits .and .u64 (.v 0) (.c 4294967295)) (.bits .and .u64 (.v 1) (.c 4294967295)))) (.c 32)))) (.c 4294967295)) (.wrap .u64 (.mul (.bits .and .u64 (.v 0) (.c 4294967295)) (.shr .u64 (.v 1) (.c 32)))))) (.c 32)))) (.cons (.i .u64 (.wrap .u64 (.mul (.v 0) (.v 1)))) .nil)))), [(.le (.c 0) (.v 0)), (.le (.v 0) (.c 137438953472)), (.le (.c 0) (.v 1)), (.le (.v 1) (.c 137438953472))], []⟩] (by kernel_rfl) ρ w hF hT hR ?_ (u.J w)
  intro ρ' w' hx _ hF hb _
  have e0 : ρ'.i 0 = ρ.i 0 := hx.i 0 (by decide)
  have e1 : ρ'.i 1 = ρ.i 1 := hx.i 1 (by decide)
  simp only [holds, List.mem_cons, List.not_mem_nil, or_false, forall_eq_or_imp, forall_eq, B_le, I_c, I_v, e0, e1, decide_eq_true_eq] at hF
  obtain ⟨hP, hQ, hR', hS, M⟩ := mul_hi (x := ρ.i 0) (y := ρ.i 1) hF.1 hF.2.1 hF.2.2.1 hF.2.2.2 rfl rfl rfl rfl rfl rfl rfl rfl
  refine ⟨⟨?_, fun _ h => by cases h⟩, hb⟩
  simp only [den_tup, dens_cons, dens_nil, den_i, V.ofL, hiE, loE, I_quo, I_rem, I_shr, I_bits, I_wrap, I_add, I_mul, I_c, I_v, e0, e1]
  have k0 : IntKind.u64.wrap (ρ.i 0 % 4294967296 * (ρ.i 1 % 4294967296)) = ρ.i 0 % 4294967296 * (ρ.i 1 % 4294967296) := by rw [IntKind.wrap_u64]; omega
  have k1 : IntKind.u64.wrap (ρ.i 0 / 4294967296 * (ρ.i 1 % 4294967296)) = ρ.i 0 / 4294967296 * (ρ.i 1 % 4294967296) := by rw [IntKind.wrap_u64]; omega
  have k2 : IntKind.u64.wrap (ρ.i 0 % 4294967296 * (ρ.i 1 / 4294967296)) = ρ.i 0 % 4294967296 * (ρ.i 1 / 4294967296) := by rw [IntKind.wrap_u64]; omega
  rw [and32 (x := ρ.i 0) (by omega) (by omega), and32 (x := ρ.i 1) (by omega) (by omega), shr32 (x := ρ.i 0) (by omega), shr32 (x := ρ.i 1) (by omega), k0, k1, k2]
  generalize ρ.i 0 % 4294967296 * (ρ.i 1 % 4294967296) = P at hP M ⊢
  generalize ρ.i 0 / 4294967296 * (ρ.i 1 % 4294967296) = Q at hQ M ⊢
  generalize ρ.i 0 % 4294967296 * (ρ.i 1 / 4294967296) = R at hR' M ⊢
  generalize ρ.i 0 / 4294967296 * (ρ.i 1 / 4294967296) = S at hS M ⊢
  generalize ρ.i 0 * ρ.i 1 = X at M ⊢
  rw [shr32 (x := P) (by omega)]
  have k3 : IntKind.u64.wrap (Q + P / 4294967296) = Q + P / 4294967296 := by rw [IntKind.wrap_u64]; omega
  rw [k3, and32 (by omega) (by omega), shr32 (x := Q + P / 4294967296) (by omega)]
  have k4 : IntKind.u64.wrap ((Q + P / 4294967296) % 4294967296 + R) = (Q + P / 4294967296) % 4294967296 + R := by rw [IntKind.wrap_u64]; omega
  rw [k4, shr32 (by omega), IntKind.wrap_u64, Int.tdiv_eq_ediv_of_nonneg (by omega), Int.tmod_eq_emod_of_nonneg (by omega)]
  have h1 : S + (Q + P / 4294967296) / 4294967296 + ((Q + P / 4294967296) % 4294967296 + R) / 4294967296 = X / 18446744073709551616 := by omega
  rw [h1]
theorem shr1 {x : Int} (_h0 : 0 ≤ x) : x.fdiv (2 ^ min (Int.toNat 1) IntKind.u64.bits) = x / 2 := by
  rw [show (2 : Int) ^ min (Int.toNat 1) IntKind.u64.bits = 2 by decide, Int.fdiv_eq_ediv_of_nonneg _ (by omega)]
/-! ### The code's root -/
def rootFs : List E := btw 0 0 34359738368
def sqE (a : E) : E := .mul a a
def dblE : E := .mul (.c 2) (.mul (.v 0) (.v 0))
def searchL : LoopSpec := { key := 2, locs := [.t 5 (.i .i64), .t 6 (.i .i64)], facts := fun n => [.le (.c 0) (.v n), .le (.v n) (.v (n+1)), .le (.v n) (.c 68719476736), .le (.c 0) (.v (n+1)), .le (.v (n+1)) (.c 68719476736), .le (.v (n+1)) (.mul (.v 0) (.c 2)), .le (sqE (.v n)) dblE, .or (.eq (.v (n+1)) (.mul (.v 0) (.c 2))) (.lt dblE (sqE (.add (.v (n+1)) (.c 1))))], meas := fun n => .sub (.v (n+1)) (.v n) }
def rootG : Ctx := { calls := [cMul], loops := [searchL] }
def cRoot := ctrVal 23 [.one K] rootFs (.i .i64 (.app 4 (.cons (.v 0) .nil))) [.le (.c 0) (.app 4 (.cons (.v 0) .nil)), .le (.app 4 (.cons (.v 0) .nil)) (.mul (.c 2) (.v 0)), .le (.app 4 (.cons (.v 0) .nil)) (.c 68719476736)]
theorem root_ok (u : Fit TT) : CtrOk TT Try.prog cRoot := ctrVal_ok rfl fun ρ w hF hT hR => by
  have hg := (u.tab hT).1
  refine pat_callsD dd_ok (Γ := rootG) (by simpa [rootG] using mul_ok u.open) 400 [.one K] rootFs
    [⟨(.must (.le (.mul (.c 2) (.v 0)) (.mul (.v 0) (.c 2)))), [(.le (.c 0) (.v 0)), (.le (.v 0) (.c 34359738368))], []⟩,
⟨(.must (.or (.eq (.mul (.c 2) (.v 0)) (.mul (.v 0) (.c 2))) (.lt (.mul (.c 2) (.mul (.v 0) (.v 0))) (.mul (.add (.mul (.c 2) (.v 0)) (.c 1)) (.add (.mul (.c 2) (.v 0)) (.c 1)))))), [(.le (.c 0) (.v 0)), (.le (.v 0) (.c 34359738368))], []⟩,
⟨(.must (.le (.v 2) (.shr .u64 (.add (.v 2) (.v 3)) (.c 1)))), [(.lt (.quo (.mul (.v 0) (.mul (.c 2) (.v 0))) (.c 18446744073709551616)) (.quo (.mul (.add (.shr .u64 (.add (.v 2) (.v 3)) (.c 1)) (.c 1)) (.add (.shr .u64 (.add (.v 2) (.v 3)) (.c 1)) (.c 1))) (.c 18446744073709551616))), (.lt (.v 2) (.v 3)), (.le (.c 0) (.v 2)), (.le (.v 2) (.v 3)), (.le (.v 2) (.c 68719476736)), (.le (.c 0) (.v 3)), (.le (.v 3) (.c 68719476736)), (.le (.v 3) (.mul (.v 0) (.c 2))), (.le (.mul (.v 2) (.v 2)) (.mul (.c 2) (.mul (.v 0) (.v 0)))), (.or (.eq (.v 3) (.mul (.v 0) (.c 2))) (.lt (.mul (.c 2) (.mul (.v 0) (.v 0))) (.mul (.add (.v 3) (.c 1)) (.add (.v 3) (.c 1))))), (.le (.c 0) (.v 0)), (.le (.v 0) (.c 34359738368))], []⟩,
⟨(.must (.le (.shr .u64 (.add (.v 2) (.v 3)) (.c 1)) (.mul (.v 0) (.c 2)))), [(.lt (.quo (.mul (.v 0) (.mul (.c 2) (.v 0))) (.c 18446744073709551616)) (.quo (.mul (.add (.shr .u64 (.add (.v 2) (.v 3)) (.c 1)) (.c 1)) (.add (.shr .u64 (.add (.v 2) (.v 3)) (.c 1)) (.c 1))) (.c 18446744073709551616))), (.lt (.v 2) (.v 3)), (.le (.c 0) (.v 2)), (.le (.v 2) (.v 3)), (.le (.v 2) (.c 68719476736)), (.le (.c 0) (.v 3)), (.le (.v 3) (.c 68719476736)), (.le (.v 3) (.mul (.v 0) (.c 2))), (.le (.mul (.v 2) (.v 2)) (.mul (.c 2) (.mul (.v 0) (.v 0)))), (.or (.eq (.v 3) (.mul (.v 0) (.c 2))) (.lt (.mul (.c 2) (.mul (.v 0) (.v 0))) (.mul (.add (.v 3) (.c 1)) (.add (.v 3) (.c 1))))), (.le (.c 0) (.v 0)), (.le (.v 0) (.c 34359738368))], []⟩,
⟨(.must (.or (.eq (.shr .u64 (.add (.v 2) (.v 3)) (.c 1)) (.mul (.v 0) (.c 2))) (.lt (.mul (.c 2) (.mul (.v 0) (.v 0))) (.mul (.add (.shr .u64 (.add (.v 2) (.v 3)) (.c 1)) (.c 1)) (.add (.shr .u64 (.add (.v 2) (.v 3)) (.c 1)) (.c 1)))))), [(.lt (.quo (.mul (.v 0) (.mul (.c 2) (.v 0))) (.c 18446744073709551616)) (.quo (.mul (.add (.shr .u64 (.add (.v 2) (.v 3)) (.c 1)) (.c 1)) (.add (.shr .u64 (.add (.v 2) (.v 3)) (.c 1)) (.c 1))) (.c 18446744073709551616))), (.lt (.v 2) (.v 3)), (.le (.c 0) (.v 2)), (.le (.v 2) (.v 3)), (.le (.v 2) (.c 68719476736)), (.le (.c 0) (.v 3)), (.le (.v 3) (.c 68719476736)), (.le (.v 3) (.mul (.v 0) (.c 2))), (.le (.mul (.v 2) (.v 2)) (.mul (.c 2) (.mul (.v 0) (.v 0)))), (.or (.eq (.v 3) (.mul (.v 0) (.c 2))) (.lt (.mul (.c 2) (.mul (.v 0) (.v 0))) (.mul (.add (.v 3) (.c 1)) (.add (.v 3) (.c 1))))), (.le (.c 0) (.v 0)), (.le (.v 0) (.c 34359738368))], []⟩,
⟨(.must (.lt (.sub (.shr .u64 (.add (.v 2) (.v 3)) (.c 1)) (.v 2)) (.sub (.v 3) (.v 2)))), [(.lt (.quo (.mul (.v 0) (.mul (.c 2) (.v 0))) (.c 18446744073709551616)) (.quo (.mul (.add (.shr .u64 (.add (.v 2) (.v 3)) (.c 1)) (.c 1)) (.add (.shr .u64 (.add (.v 2) (.v 3)) (.c 1)) (.c 1))) (.c 18446744073709551616))), (.lt (.v 2) (.v 3)), (.le (.c 0) (.v 2)), (.le (.v 2) (.v 3)), (.le (.v 2) (.c 68719476736)), (.le (.c 0) (.v 3)), (.le (.v 3) (.c 68719476736)), (.le (.v 3) (.mul (.v 0) (.c 2))), (.le (.mul (.v 2) (.v 2)) (.mul (.c 2) (.mul (.v 0) (.v 0)))), (.or (.eq (.v 3) (.mul (.v 0) (.c 2))) (.lt (.mul (.c 2) (.mul (.v 0) (.v 0))) (.mul (.add (.v 3) (.c 1)) (.add (.v 3) (.c 1))))), (.le (.c 0) (.v 0)), (.le (.v 0) (.c 34359738368))], []⟩,
⟨(.must (.le (.c 0) (.sub (.shr .u64 (.add (.v 2) (.v 3)) (.c 1)) (.v 2)))), [(.lt (.quo (.mul (.v 0) (.mul (.c 2) (.v 0))) (.c 18446744073709551616)) (.quo (.mul (.add (.shr .u64 (.add (.v 2) (.v 3)) (.c 1)) (.c 1)) (.add (.shr .u64 (.add (.v 2) (.v 3)) (.c 1)) (.c 1))) (.c 18446744073709551616))), (.lt (.v 2) (.v 3)), (.le (.c 0) (.v 2)), (.le (.v 2) (.v 3)), (.le (.v 2) (.c 68719476736)), (.le (.c 0) (.v 3)), (.le (.v 3) (.c 68719476736)), (.le (.v 3) (.mul (.v 0) (.c 2))), (.le (.mul (.v 2) (.v 2)) (.mul (.c 2) (.mul (.v 0) (.v 0)))), (.or (.eq (.v 3) (.mul (.v 0) (.c 2))) (.lt (.mul (.c 2) (.mul (.v 0) (.v 0))) (.mul (.add (.v 3) (.c 1)) (.add (.v 3) (.c 1))))), (.le (.c 0) (.v 0)), (.le (.v 0) (.c 34359738368))], []⟩,
⟨(.must (.le (.add (.shr .u64 (.add (.v 2) (.v 3)) (.c 1)) (.c 1)) (.v 3))), [(.le (.rem (.mul (.add (.shr .u64 (.add (.v 2) (.v 3)) (.c 1)) (.c 1)) (.add (.shr .u64 (.add (.v 2) (.v 3)) (.c 1)) (.c 1))) (.c 18446744073709551616)) (.rem (.mul (.v 0) (.mul (.c 2) (.v 0))) (.c 18446744073709551616))), (.eq (.quo (.mul (.add (.shr .u64 (.add (.v 2) (.v 3)) (.c 1)) (.c 1)) (.add (.shr .u64 (.add (.v 2) (.v 3)) (.c 1)) (.c 1))) (.c 18446744073709551616)) (.quo (.mul (.v 0) (.mul (.c 2) (.v 0))) (.c 18446744073709551616))), (.le (.quo (.mul (.add (.shr .u64 (.add (.v 2) (.v 3)) (.c 1)) (.c 1)) (.add (.shr .u64 (.add (.v 2) (.v 3)) (.c 1)) (.c 1))) (.c 18446744073709551616)) (.quo (.mul (.v 0) (.mul (.c 2) (.v 0))) (.c 18446744073709551616))), (.lt (.v 2) (.v 3)), (.le (.c 0) (.v 2)), (.le (.v 2) (.v 3)), (.le (.v 2) (.c 68719476736)), (.le (.c 0) (.v 3)), (.le (.v 3) (.c 68719476736)), (.le (.v 3) (.mul (.v 0) (.c 2))), (.le (.mul (.v 2) (.v 2)) (.mul (.c 2) (.mul (.v 0) (.v 0)))), (.or (.eq (.v 3) (.mul (.v 0) (.c 2))) (.lt (.mul (.c 2) (.mul (.v 0) (.v 0))) (.mul (.add (.v 3) (.c 1)) (.add (.v 3) (.c 1))))), (.le (.c 0) (.v 0)), (.le (.v 0) (.c 34359738368))], []⟩,
⟨(.must (.le (.add (.shr .u64 (.add (.v 2) (.v 3)) (.c 1)) (.c 1)) (.c 68719476736))), [(.le (.rem (.mul (.add (.shr .u64 (.add (.v 2) (.v 3)) (.c 1)) (.c 1)) (.add (.shr .u64 (.add (.v 2) (.v 3)) (.c 1)) (.c 1))) (.c 18446744073709551616)) (.rem (.mul (.v 0) (.mul (.c 2) (.v 0))) (.c 18446744073709551616))), (.eq (.quo (.mul (.add (.shr .u64 (.add (.v 2) (.v 3)) (.c 1)) (.c 1)) (.add (.shr .u64 (.add (.v 2) (.v 3)) (.c 1)) (.c 1))) (.c 18446744073709551616)) (.quo (.mul (.v 0) (.mul (.c 2) (.v 0))) (.c 18446744073709551616))), (.le (.quo (.mul (.add (.shr .u64 (.add (.v 2) (.v 3)) (.c 1)) (.c 1)) (.add (.shr .u64 (.add (.v 2) (.v 3)) (.c 1)) (.c 1))) (.c 18446744073709551616)) (.quo (.mul (.v 0) (.mul (.c 2) (.v 0))) (.c 18446744073709551616))), (.lt (.v 2) (.v 3)), (.le (.c 0) (.v 2)), (.le (.v 2) (.v 3)), (.le (.v 2) (.c 68719476736)), (.le (.c 0) (.v 3)), (.le (.v 3) (.c 68719476736)), (.le (.v 3) (.mul (.v 0) (.c 2))), (.le (.mul (.v 2) (.v 2)) (.mul (.c 2) (.mul (.v 0) (.v 0)))), (.or (.eq (.v 3) (.mul (.v 0) (.c 2))) (.lt (.mul (.c 2) (.mul (.v 0) (.v 0))) (.mul (.add (.v 3) (.c 1)) (.add (.v 3) (.c 1))))), (.le (.c 0) (.v 0)), (.le (.v 0) (.c 34359738368))], []⟩,
⟨(.must (.le (.mul (.add (.shr .u64 (.add (.v 2) (.v 3)) (.c 1)) (.c 1)) (.add (.shr .u64 (.add (.v 2) (.v 3)) (.c 1)) (.c 1))) (.mul (.c 2) (.mul (.v 0) (.v 0))))), [(.le (.rem (.mul (.add (.shr .u64 (.add (.v 2) (.v 3)) (.c 1)) (.c 1)) (.add (.shr .u64 (.add (.v 2) (.v 3)) (.c 1)) (.c 1))) (.c 18446744073709551616)) (.rem (.mul (.v 0) (.mul (.c 2) (.v 0))) (.c 18446744073709551616))), (.eq (.quo (.mul (.add (.shr .u64 (.add (.v 2) (.v 3)) (.c 1)) (.c 1)) (.add (.shr .u64 (.add (.v 2) (.v 3)) (.c 1)) (.c 1))) (.c 18446744073709551616)) (.quo (.mul (.v 0) (.mul (.c 2) (.v 0))) (.c 18446744073709551616))), (.le (.quo (.mul (.add (.shr .u64 (.add (.v 2) (.v 3)) (.c 1)) (.c 1)) (.add (.shr .u64 (.add (.v 2) (.v 3)) (.c 1)) (.c 1))) (.c 18446744073709551616)) (.quo (.mul (.v 0) (.mul (.c 2) (.v 0))) (.c 18446744073709551616))), (.lt (.v 2) (.v 3)), (.le (.c 0) (.v 2)), (.le (.v 2) (.v 3)), (.le (.v 2) (.c 68719476736)), (.le (.c 0) (.v 3)), (.le (.v 3) (.c 68719476736)), (.le (.v 3) (.mul (.v 0) (.c 2))), (.le (.mul (.v 2) (.v 2)) (.mul (.c 2) (.mul (.v 0) (.v 0)))), (.or (.eq (.v 3) (.mul (.v 0) (.c 2))) (.lt (.mul (.c 2) (.mul (.v 0) (.v 0))) (.mul (.add (.v 3) (.c 1)) (.add (.v 3) (.c 1))))), (.le (.c 0) (.v 0)), (.le (.v 0) (.c 34359738368))], []⟩,
⟨(.must (.lt (.sub (.v 3) (.add (.shr .u64 (.add (.v 2) (.v 3)) (.c 1)) (.c 1))) (.sub (.v 3) (.v 2)))), [(.le (.rem (.mul (.add (.shr .u64 (.add (.v 2) (.v 3)) (.c 1)) (.c 1)) (.add (.shr .u64 (.add (.v 2) (.v 3)) (.c 1)) (.c 1))) (.c 18446744073709551616)) (.rem (.mul (.v 0) (.mul (.c 2) (.v 0))) (.c 18446744073709551616))), (.eq (.quo (.mul (.add (.shr .u64 (.add (.v 2) (.v 3)) (.c 1)) (.c 1)) (.add (.shr .u64 (.add (.v 2) (.v 3)) (.c 1)) (.c 1))) (.c 18446744073709551616)) (.quo (.mul (.v 0) (.mul (.c 2) (.v 0))) (.c 18446744073709551616))), (.le (.quo (.mul (.add (.shr .u64 (.add (.v 2) (.v 3)) (.c 1)) (.c 1)) (.add (.shr .u64 (.add (.v 2) (.v 3)) (.c 1)) (.c 1))) (.c 18446744073709551616)) (.quo (.mul (.v 0) (.mul (.c 2) (.v 0))) (.c 18446744073709551616))), (.lt (.v 2) (.v 3)), (.le (.c 0) (.v 2)), (.le (.v 2) (.v 3)), (.le (.v 2) (.c 68719476736)), (.le (.c 0) (.v 3)), (.le (.v 3) (.c 68719476736)), (.le (.v 3) (.mul (.v 0) (.c 2))), (.le (.mul (.v 2) (.v 2)) (.mul (.c 2) (.mul (.v 0) (.v 0)))), (.or (.eq (.v 3) (.mul (.v 0) (.c 2))) (.lt (.mul (.c 2) (.mul (.v 0) (.v 0))) (.mul (.add (.v 3) (.c 1)) (.add (.v 3) (.c 1))))), (.le (.c 0) (.v 0)), (.le (.v 0) (.c 34359738368))], []⟩,
⟨(.must (.le (.c 0) (.sub (.v 3) (.add (.shr .u64 (.add (.v 2) (.v 3)) (.c 1)) (.c 1))))), [(.le (.rem (.mul (.add (.shr .u64 (.add (.v 2) (.v 3)) (.c 1)) (.c 1)) (.add (.shr .u64 (.add (.v 2) (.v 3)) (.c 1)) (.c 1))) (.c 18446744073709551616)) (.rem (.mul (.v 0) (.mul (.c 2) (.v 0))) (.c 18446744073709551616))), (.eq (.quo (.mul (.add (.shr .u64 (.add (.v 2) (.v 3)) (.c 1)) (.c 1)) (.add (.shr .u64 (.add (.v 2) (.v 3)) (.c 1)) (.c 1))) (.c 18446744073709551616)) (.quo (.mul (.v 0) (.mul (.c 2) (.v 0))) (.c 18446744073709551616))), (.le (.quo (.mul (.add (.shr .u64 (.add (.v 2) (.v 3)) (.c 1)) (.c 1)) (.add (.shr .u64 (.add (.v 2) (.v 3)) (.c 1)) (.c 1))) (.c 18446744073709551616)) (.quo (.mul (.v 0) (.mul (.c 2) (.v 0))) (.c 18446744073709551616))), (.lt (.v 2) (.v 3)), (.le (.c 0) (.v 2)), (.le (.v 2) (.v 3)), (.le (.v 2) (.c 68719476736)), (.le (.c 0) (.v 3)), (.le (.v 3) (.c 68719476736)), (.le (.v 3) (.mul (.v 0) (.c 2))), (.le (.mul (.v 2) (.v 2)) (.mul (.c 2) (.mul (.v 0) (.v 0)))), (.or (.eq (.v 3) (.mul (.v 0) (.c 2))) (.lt (.mul (.c 2) (.mul (.v 0) (.v 0))) (.mul (.add (.v 3) (.c 1)) (.add (.v 3) (.c 1))))), (.le (.c 0) (.v 0)), (.le (.v 0) (.c 34359738368))], []⟩,
⟨(.must (.le (.v 2) (.shr .u64 (.add (.v 2) (.v 3)) (.c 1)))), [(.lt (.rem (.mul (.v 0) (.mul (.c 2) (.v 0))) (.c 18446744073709551616)) (.rem (.mul (.add (.shr .u64 (.add (.v 2) (.v 3)) (.c 1)) (.c 1)) (.add (.shr .u64 (.add (.v 2) (.v 3)) (.c 1)) (.c 1))) (.c 18446744073709551616))), (.eq (.quo (.mul (.add (.shr .u64 (.add (.v 2) (.v 3)) (.c 1)) (.c 1)) (.add (.shr .u64 (.add (.v 2) (.v 3)) (.c 1)) (.c 1))) (.c 18446744073709551616)) (.quo (.mul (.v 0) (.mul (.c 2) (.v 0))) (.c 18446744073709551616))), (.le (.quo (.mul (.add (.shr .u64 (.add (.v 2) (.v 3)) (.c 1)) (.c 1)) (.add (.shr .u64 (.add (.v 2) (.v 3)) (.c 1)) (.c 1))) (.c 18446744073709551616)) (.quo (.mul (.v 0) (.mul (.c 2) (.v 0))) (.c 18446744073709551616))), (.lt (.v 2) (.v 3)), (.le (.c 0) (.v 2)), (.le (.v 2) (.v 3)), (.le (.v 2) (.c 68719476736)), (.le (.c 0) (.v 3)), (.le (.v 3) (.c 68719476736)), (.le (.v 3) (.mul (.v 0) (.c 2))), (.le (.mul (.v 2) (.v 2)) (.mul (.c 2) (.mul (.v 0) (.v 0)))), (.or (.eq (.v 3) (.mul (.v 0) (.c 2))) (.lt (.mul (.c 2) (.mul (.v 0) (.v 0))) (.mul (.add (.v 3) (.c 1)) (.add (.v 3) (.c 1))))), (.le (.c 0) (.v 0)), (.le (.v 0) (.c 34359738368))], []⟩,
⟨(.must (.le (.shr .u64 (.add (.v 2) (.v 3)) (.c 1)) (.mul (.v 0) (.c 2)))), [(.lt (.rem (.mul (.v 0) (.mul (.c 2) (.v 0))) (.c 18446744073709551616)) (.rem (.mul (.add (.shr .u64 (.add (.v 2) (.v 3)) (.c 1)) (.c 1)) (.add (.shr .u64 (.add (.v 2) (.v 3)) (.c 1)) (.c 1))) (.c 18446744073709551616))), (.eq (.quo (.mul (.add (.shr .u64 (.add (.v 2) (.v 3)) (.c 1)) (.c 1)) (.add (.shr .u64 (.add (.v 2) (.v 3)) (.c 1)) (.c 1))) (.c 18446744073709551616)) (.quo (.mul (.v 0) (.mul (.c 2) (.v 0))) (.c 18446744073709551616))), (.le (.quo (.mul (.add (.shr .u64 (.add (.v 2) (.v 3)) (.c 1)) (.c 1)) (.add (.shr .u64 (.add (.v 2) (.v 3)) (.c 1)) (.c 1))) (.c 18446744073709551616)) (.quo (.mul (.v 0) (.mul (.c 2) (.v 0))) (.c 18446744073709551616))), (.lt (.v 2) (.v 3)), (.le (.c 0) (.v 2)), (.le (.v 2) (.v 3)), (.le (.v 2) (.c 68719476736)), (.le (.c 0) (.v 3)), (.le (.v 3) (.c 68719476736)), (.le (.v 3) (.mul (.v 0) (.c 2))), (.le (.mul (.v 2) (.v 2)) (.mul (.c 2) (.mul (.v 0) (.v 0)))), (.or (.eq (.v 3) (.mul (.v 0) (.c 2))) (.lt (.mul (.c 2) (.mul (.v 0) (.v 0))) (.mul (.add (.v 3) (.c 1)) (.add (.v 3) (.c 1))))), (.le (.c 0) (.v 0)), (.le (.v 0) (.c 34359738368))], []⟩,
⟨(.must (.or (.eq (.shr .u64 (.add (.v 2) (.v 3)) (.c 1)) (.mul (.v 0) (.c 2))) (.lt (.mul (.c 2) (.mul (.v 0) (.v 0))) (.mul (.add (.shr .u64 (.add (.v 2) (.v 3)) (.c 1)) (.c 1)) (.add (.shr .u64 (.add (.v 2) (.v 3)) (.c 1)) (.c 1)))))), [(.lt (.rem (.mul (.v 0) (.mul (.c 2) (.v 0))) (.c 18446744073709551616)) (.rem (.mul (.add (.shr .u64 (.add (.v 2) (.v 3)) (.c 1)) (.c 1)) (.add (.shr .u64 (.add (.v 2) (.v 3)) (.c 1)) (.c 1))) (.c 18446744073709551616))), (.eq (.quo (.mul (.add (.shr .u64 (.add (.v 2) (.v 3)) (.c 1)) (.c 1)) (.add (.shr .u64 (.add (.v 2) (.v 3)) (.c 1)) (.c 1))) (.c 18446744073709551616)) (.quo (.mul (.v 0) (.mul (.c 2) (.v 0))) (.c 18446744073709551616))), (.le (.quo (.mul (.add (.shr .u64 (.add (.v 2) (.v 3)) (.c 1)) (.c 1)) (.add (.shr .u64 (.add (.v 2) (.v 3)) (.c 1)) (.c 1))) (.c 18446744073709551616)) (.quo (.mul (.v 0) (.mul (.c 2) (.v 0))) (.c 18446744073709551616))), (.lt (.v 2) (.v 3)), (.le (.c 0) (.v 2)), (.le (.v 2) (.v 3)), (.le (.v 2) (.c 68719476736)), (.le (.c 0) (.v 3)), (.le (.v 3) (.c 68719476736)), (.le (.v 3) (.mul (.v 0) (.c 2))), (.le (.mul (.v 2) (.v 2)) (.mul (.c 2) (.mul (.v 0) (.v 0)))), (.or (.eq (.v 3) (.mul (.v 0) (.c 2))) (.lt (.mul (.c 2) (.mul (.v 0) (.v 0))) (.mul (.add (.v 3) (.c 1)) (.add (.v 3) (.c 1))))), (.le (.c 0) (.v 0)), (.le (.v 0) (.c 34359738368))], []⟩,
⟨(.must (.lt (.sub (.shr .u64 (.add (.v 2) (.v 3)) (.c 1)) (.v 2)) (.sub (.v 3) (.v 2)))), [(.lt (.rem (.mul (.v 0) (.mul (.c 2) (.v 0))) (.c 18446744073709551616)) (.rem (.mul (.add (.shr .u64 (.add (.v 2) (.v 3)) (.c 1)) (.c 1)) (.add (.shr .u64 (.add (.v 2) (.v 3)) (.c 1)) (.c 1))) (.c 18446744073709551616))), (.eq (.quo (.mul (.add (.shr .u64 (.add (.v 2) (.v 3)) (.c 1)) (.c 1)) (.add (.shr .u64 (.add (.v 2) (.v 3)) (.c 1)) (.c 1))) (.c 18446744073709551616)) (.quo (.mul (.v 0) (.mul (.c 2) (.v 0))) (.c 18446744073709551616))), (.le (.quo (.mul (.add (.shr .u64 (.add (.v 2) (.v 3)) (.c 1)) (.c 1)) (.add (.shr .u64 (.add (.v 2) (.v 3)) (.c 1)) (.c 1))) (.c 18446744073709551616)) (.quo (.mul (.v 0) (.mul (.c 2) (.v 0))) (.c 18446744073709551616))), (.lt (.v 2) (.v 3)), (.le (.c 0) (.v 2)), (.le (.v 2) (.v 3)), (.le (.v 2) (.c 68719476736)), (.le (.c 0) (.v 3)), (.le (.v 3) (.c 68719476736)), (.le (.v 3) (.mul (.v 0) (.c 2))), (.le (.mul (.v 2) (.v 2)) (.mul (.c 2) (.mul (.v 0) (.v 0)))), (.or (.eq (.v 3) (.mul (.v 0) (.c 2))) (.lt (.mul (.c 2) (.mul (.v 0) (.v 0))) (.mul (.add (.v 3) (.c 1)) (.add (.v 3) (.c 1))))), (.le (.c 0) (.v 0)), (.le (.v 0) (.c 34359738368))], []⟩,
⟨(.must (.le (.c 0) (.sub (.shr .u64 (.add (.v 2) (.v 3)) (.c 1)) (.v 2)))), [(.lt (.rem (.mul (.v 0) (.mul (.c 2) (.v 0))) (.c 18446744073709551616)) (.rem (.mul (.add (.shr .u64 (.add (.v 2) (.v 3)) (.c 1)) (.c 1)) (.add (.shr .u64 (.add (.v 2) (.v 3)) (.c 1)) (.c 1))) (.c 18446744073709551616))), (.eq (.quo (.mul (.add (.shr .u64 (.add (.v 2) (.v 3)) (.c 1)) (.c 1)) (.add (.shr .u64 (.add (.v 2) (.v 3)) (.c 1)) (.c 1))) (.c 18446744073709551616)) (.quo (.mul (.v 0) (.mul (.c 2) (.v 0))) (.c 18446744073709551616))), (.le (.quo (.mul (.add (.shr .u64 (.add (.v 2) (.v 3)) (.c 1)) (.c 1)) (.add (.shr .u64 (.add (.v 2) (.v 3)) (.c 1)) (.c 1))) (.c 18446744073709551616)) (.quo (.mul (.v 0) (.mul (.c 2) (.v 0))) (.c 18446744073709551616))), (.lt (.v 2) (.v 3)), (.le (.c 0) (.v 2)), (.le (.v 2) (.v 3)), (.le (.v 2) (.c 68719476736)), (.le (.c 0) (.v 3)), (.le (.v 3) (.c 68719476736)), (.le (.v 3) (.mul (.v 0) (.c 2))), (.le (.mul (.v 2) (.v 2)) (.mul (.c 2) (.mul (.v 0) (.v 0)))), (.or (.eq (.v 3) (.mul (.v 0) (.c 2))) (.lt (.mul (.c 2) (.mul (.v 0) (.v 0))) (.mul (.add (.v 3) (.c 1)) (.add (.v 3) (.c 1))))), (.le (.c 0) (.v 0)), (.le (.v 0) (.c 34359738368))], []⟩,
⟨(.must (.le (.add (.shr .u64 (.add (.v 2) (.v 3)) (.c 1)) (.c 1)) (.v 3))), [(.not (.eq (.quo (.mul (.add (.shr .u64 (.add (.v 2) (.v 3)) (.c 1)) (.c 1)) (.add (.shr .u64 (.add (.v 2) (.v 3)) (.c 1)) (.c 1))) (.c 18446744073709551616)) (.quo (.mul (.v 0) (.mul (.c 2) (.v 0))) (.c 18446744073709551616)))), (.le (.quo (.mul (.add (.shr .u64 (.add (.v 2) (.v 3)) (.c 1)) (.c 1)) (.add (.shr .u64 (.add (.v 2) (.v 3)) (.c 1)) (.c 1))) (.c 18446744073709551616)) (.quo (.mul (.v 0) (.mul (.c 2) (.v 0))) (.c 18446744073709551616))), (.lt (.v 2) (.v 3)), (.le (.c 0) (.v 2)), (.le (.v 2) (.v 3)), (.le (.v 2) (.c 68719476736)), (.le (.c 0) (.v 3)), (.le (.v 3) (.c 68719476736)), (.le (.v 3) (.mul (.v 0) (.c 2))), (.le (.mul (.v 2) (.v 2)) (.mul (.c 2) (.mul (.v 0) (.v 0)))), (.or (.eq (.v 3) (.mul (.v 0) (.c 2))) (.lt (.mul (.c 2) (.mul (.v 0) (.v 0))) (.mul (.add (.v 3) (.c 1)) (.add (.v 3) (.c 1))))), (.le (.c 0) (.v 0)), (.le (.v 0) (.c 34359738368))], []⟩,
⟨(.must (.le (.add (.shr .u64 (.add (.v 2) (.v 3)) (.c 1)) (.c 1)) (.c 68719476736))), [(.not (.eq (.quo (.mul (.add (.shr .u64 (.add (.v 2) (.v 3)) (.c 1)) (.c 1)) (.add (.shr .u64 (.add (.v 2) (.v 3)) (.c 1)) (.c 1))) (.c 18446744073709551616)) (.quo (.mul (.v 0) (.mul (.c 2) (.v 0))) (.c 18446744073709551616)))), (.le (.quo (.mul (.add (.shr .u64 (.add (.v 2) (.v 3)) (.c 1)) (.c 1)) (.add (.shr .u64 (.add (.v 2) (.v 3)) (.c 1)) (.c 1))) (.c 18446744073709551616)) (.quo (.mul (.v 0) (.mul (.c 2) (.v 0))) (.c 18446744073709551616))), (.lt (.v 2) (.v 3)), (.le (.c 0) (.v 2)), (.le (.v 2) (.v 3)), (.le (.v 2) (.c 68719476736)), (.le (.c 0) (.v 3)), (.le (.v 3) (.c 68719476736)), (.le (.v 3) (.mul (.v 0) (.c 2))), (.le (.mul (.v 2) (.v 2)) (.mul (.c 2) (.mul (.v 0) (.v 0)))), (.or (.eq (.v 3) (.mul (.v 0) (.c 2))) (.lt (.mul (.c 2) (.mul (.v 0) (.v 0))) (.mul (.add (.v 3) (.c 1)) (.add (.v 3) (.c 1))))), (.le (.c 0) (.v 0)), (.le (.v 0) (.c 34359738368))], []⟩,
⟨(.must (.le (.mul (.add (.shr .u64 (.add (.v 2) (.v 3)) (.c 1)) (.c 1)) (.add (.shr .u64 (.add (.v 2) (.v 3)) (.c 1)) (.c 1))) (.mul (.c 2) (.mul (.v 0) (.v 0))))), [(.not (.eq (.quo (.mul (.add (.shr .u64 (.add (.v 2) (.v 3)) (.c 1)) (.c 1)) (.add (.shr .u64 (.add (.v 2) (.v 3)) (.c 1)) (.c 1))) (.c 18446744073709551616)) (.quo (.mul (.v 0) (.mul (.c 2) (.v 0))) (.c 18446744073709551616)))), (.le (.quo (.mul (.add (.shr .u64 (.add (.v 2) (.v 3)) (.c 1)) (.c 1)) (.add (.shr .u64 (.add (.v 2) (.v 3)) (.c 1)) (.c 1))) (.c 18446744073709551616)) (.quo (.mul (.v 0) (.mul (.c 2) (.v 0))) (.c 18446744073709551616))), (.lt (.v 2) (.v 3)), (.le (.c 0) (.v 2)), (.le (.v 2) (.v 3)), (.le (.v 2) (.c 68719476736)), (.le (.c 0) (.v 3)), (.le (.v 3) (.c 68719476736)), (.le (.v 3) (.mul (.v 0) (.c 2))), (.le (.mul (.v 2) (.v 2)) (.mul (.c 2) (.mul (.v 0) (.v 0)))), (.or (.eq (.v 3) (.mul (.v 0) (.c 2))) (.lt (.mul (.c 2) (.mul (.v 0) (.v 0))) (.mul (.add (.v 3) (.c 1)) (.add (.v 3) (.c 1))))), (.le (.c 0) (.v 0)), (.le (.v 0) (.c 34359738368))], []⟩,
⟨(.must (.lt (.sub (.v 3) (.add (.shr .u64 (.add (.v 2) (.v 3)) (.c 1)) (.c 1))) (.sub (.v 3) (.v 2)))), [(.not (.eq (.quo (.mul (.add (.shr .u64 (.add (.v 2) (.v 3)) (.c 1)) (.c 1)) (.add (.shr .u64 (.add (.v 2) (.v 3)) (.c 1)) (.c 1))) (.c 18446744073709551616)) (.quo (.mul (.v 0) (.mul (.c 2) (.v 0))) (.c 18446744073709551616)))), (.le (.quo (.mul (.add (.shr .u64 (.add (.v 2) (.v 3)) (.c 1)) (.c 1)) (.add (.shr .u64 (.add (.v 2) (.v 3)) (.c 1)) (.c 1))) (.c 18446744073709551616)) (.quo (.mul (.v 0) (.mul (.c 2) (.v 0))) (.c 18446744073709551616))), (.lt (.v 2) (.v 3)), (.le (.c 0) (.v 2)), (.le (.v 2) (.v 3)), (.le (.v 2) (.c 68719476736)), (.le (.c 0) (.v 3)), (.le (.v 3) (.c 68719476736)), (.le (.v 3) (.mul (.v 0) (.c 2))), (.le (.mul (.v 2) (.v 2)) (.mul (.c 2) (.mul (.v 0) (.v 0)))), (.or (.eq (.v 3) (.mul (.v 0) (.c 2))) (.lt (.mul (.c 2) (.mul (.v 0) (.v 0))) (.mul (.add (.v 3) (.c 1)) (.add (.v 3) (.c 1))))), (.le (.c 0) (.v 0)), (.le (.v 0) (.c 34359738368))], []⟩,
⟨(.must (.le (.c 0) (.sub (.v 3) (.add (.shr .u64 (.add (.v 2) (.v 3)) (.c 1)) (.c 1))))), [(.not (.eq (.quo (.mul (.add (.shr .u64 (.add (.v 2) (.v 3)) (.c 1)) (.c 1)) (.add (.shr .u64 (.add (.v 2) (.v 3)) (.c 1)) (.c 1))) (.c 18446744073709551616)) (.quo (.mul (.v 0) (.mul (.c 2) (.v 0))) (.c 18446744073709551616)))), (.le (.quo (.mul (.add (.shr .u64 (.add (.v 2) (.v 3)) (.c 1)) (.c 1)) (.add (.shr .u64 (.add (.v 2) (.v 3)) (.c 1)) (.c 1))) (.c 18446744073709551616)) (.quo (.mul (.v 0) (.mul (.c 2) (.v 0))) (.c 18446744073709551616))), (.lt (.v 2) (.v 3)), (.le (.c 0) (.v 2)), (.le (.v 2) (.v 3)), (.le (.v 2) (.c 68719476736)), (.le (.c 0) (.v 3)), (.le (.v 3) (.c 68719476736)), (.le (.v 3) (.mul (.v 0) (.c 2))), (.le (.mul (.v 2) (.v 2)) (.mul (.c 2) (.mul (.v 0) (.v 0)))), (.or (.eq (.v 3) (.mul (.v 0) (.c 2))) (.lt (.mul (.c 2) (.mul (.v 0) (.v 0))) (.mul (.add (.v 3) (.c 1)) (.add (.v 3) (.c 1))))), (.le (.c 0) (.v 0)), (.le (.v 0) (.c 34359738368))], []⟩,
⟨(.val (.i .i64 (.v 2))), [(.le (.v 3) (.v 2)), (.le (.c 0) (.v 2)), (.le (.v 2) (.v 3)), (.le (.v 2) (.c 68719476736)), (.le (.c 0) (.v 3)), (.le (.v 3) (.c 68719476736)), (.le (.v 3) (.mul (.v 0) (.c 2))), (.le (.mul (.v 2) (.v 2)) (.mul (.c 2) (.mul (.v 0) (.v 0)))), (.or (.eq (.v 3) (.mul (.v 0) (.c 2))) (.lt (.mul (.c 2) (.mul (.v 0) (.v 0))) (.mul (.add (.v 3) (.c 1)) (.add (.v 3) (.c 1))))), (.le (.c 0) (.v 0)), (.le (.v 0) (.c 34359738368))], []⟩] (by kernel_rfl) ρ w hF hT hR ⟨?_, ?_, ?_, ?_, ?_, ?_, ?_, ?_, ?_, ?_, ?_, ?_, ?_, ?_, ?_, ?_, ?_, ?_, ?_, ?_, ?_, ?_, ?_⟩ (u.J w)
  all_goals
    intro ρ' w' hx _ hF hb _
    have e0 : ρ'.i 0 = ρ.i 0 := hx.i 0 (by decide)
    clear hx hR
    simp only [holds, List.mem_cons, List.not_mem_nil, or_false, forall_eq_or_imp, forall_eq, B_le, B_lt, B_eq, B_not, B_or, I_add, I_sub, I_mul, I_quo, I_rem, I_shr, I_c, I_v, e0, g_4 hg, decide_eq_true_eq, Bool.not_eq_true', Bool.or_eq_true, decide_eq_false_iff_not, den_i] at hF ⊢
    have hs := root2_spec (d := ρ.i 0) (by omega)
    have e2 : ρ.i 0 * (2 * ρ.i 0) = 2 * (ρ.i 0 * ρ.i 0) := by grind
    have n1 := sq_nn (ρ.i 0)
    try simp only [e2] at hF ⊢
    first
      | omega
      | (have n2 := sq_nn ((ρ'.i 2 + ρ'.i 3).fdiv (2 ^ min (Int.toNat 1) IntKind.u64.bits) + 1)
         rw [shr1 (x := ρ'.i 2 + ρ'.i 3) (by omega)] at *
         rw [Int.tdiv_eq_ediv_of_nonneg (by omega), Int.tdiv_eq_ediv_of_nonneg (by omega)] at hF
         try rw [Int.tmod_eq_emod_of_nonneg (by omega), Int.tmod_eq_emod_of_nonneg (by omega)] at hF
         generalize hm : (ρ'.i 2 + ρ'.i 3) / 2 = m at hF n2 ⊢
         generalize (m + 1) * (m + 1) = A at hF n2 ⊢
         omega)
      | (have hm : (ρ'.i 2 + ρ'.i 3).fdiv (2 ^ min (Int.toNat 1) IntKind.u64.bits) = (ρ'.i 2 + ρ'.i 3) / 2 := shr1 (by omega)
         rw [hm]
         omega)
      | (have hq : ρ'.i 2 = ρ'.i 3 := by omega
         have hr : ρ'.i 2 = root2 (ρ.i 0) := by
           refine root2_is (by omega) (by omega) (by omega) ?_
           rcases hF with ⟨z1, z2, z3, z4, z5, z6, z7, z8, z9, z10⟩
           rcases z9 with z | z
           · have h5 := sq_lt (a := ρ.i 0) (b := ρ.i 0 + 1) (by omega) (by omega)
             rw [hq, z]
             have h4 : (ρ.i 0 * 2 + 1) * (ρ.i 0 * 2 + 1) = 4 * (ρ.i 0 * ρ.i 0) + 4 * ρ.i 0 + 1 := by grind
             omega
           · rw [hq]; exact z
         exact ⟨⟨by rw [hr], by omega⟩, hb⟩)
end Go.Proofs.Ythihccmombcihaa.Tk
end
section
namespace Go.Proofs.Ythihccmombcihaa.Tk
open Go Go.Proofs.Ythihccmombcihaa.Sx Go.RowKit
variable {TT : Tb}
theorem sumTo_succ (f : Int → Int) {k : Int} (h : 0 ≤ k) : sumTo f (k + 1).toNat = sumTo f k.toNat + f k := by
  rw [show (k + 1).toNat = k.toNat + 1 by omega]
  simp only [sumTo]
  rw [Int.toNat_of_nonneg h]
theorem strW_rng {l : LL} {n k : Int} (h : allTo n (spB l) = true) (h0 : 0 ≤ k) (hk : k < n) : 0 ≤ strW l k ∧ strW l k + diaW l k ≤ 67108864 ∧ 0 ≤ diaW l k ∧ diaW l k ≤ 33554432 := by
  unfold strW diaW
  by_cases hz : k = 0
  · simp [hz]
  · have p := spB_iff.1 (allTo_at h h0 hk)
    have q := spB_iff.1 (allTo_at h (k := k - 1) (by omega) (by omega))
    rw [if_neg hz, if_neg hz]
    have a1 := ab_or (sX l k - sX l (k - 1))
    have a2 := ab_or (sY l k - sY l (k - 1))
    split <;> omega
theorem strF_rng {l : LL} {n : Int} (h : allTo n (spB l) = true) : ∀ k : Nat, (k : Int) ≤ n → 0 ≤ sumTo (strW l) k ∧ sumTo (strW l) k ≤ 67108864 * k ∧ 0 ≤ sumTo (diaW l) k ∧ sumTo (diaW l) k ≤ 33554432 * k
  | 0, _ => by simp [sumTo]
  | k + 1, hk => by
    have ih := strF_rng h k (by omega)
    have w := strW_rng h (k := k) (by omega) (by omega)
    simp only [sumTo]
    omega
/-! ### Length -/
def lenK : List AK := [rowK]
def lenV : V := .tup (V.ofL [.i .i64 (gE 1 0), .i .i64 (gE 2 0), .i .i64 (gE 3 0)])
def lenFs : List E := [.le (.c 0) (gE 1 0), .le (gE 1 0) (.c 206158430208), .le (.c 0) (gE 2 0), .le (gE 2 0) (.c 206158430208)]
def cLen := ctrVal 7 lenK [] lenV lenFs
def cLenR := ctrVal 8 lenK [] lenV lenFs
def lenL : LoopSpec := { key := 1, locs := [.t 3 (.i .i64), .h (.n 1) 0 (.i .i64), .h (.n 2) 0 (.i .i64)], facts := fun n => [.le (.c 1) (.v n), .le (.v n) (.v 0), .le (.v n) (.c 1024), .le (.c 0) (.v (n+1)), .le (.v (n+1)) (.c 68719476736), .le (.c 0) (.v (n+2)), .le (.v (n+2)) (.c 34359738368), .eq (.v (n+1)) (.app 5 (.cons (.v n) (.lv 0))), .eq (.v (n+2)) (.app 6 (.cons (.v n) (.lv 0)))], meas := fun n => .sub (.v 0) (.v n) }
def lenG : Ctx := { calls := [cTrack, cRoot], loops := [lenL] }
theorem ab_max (x y : Int) : (if ab x < ab y then ab y else ab x) = max (ab x) (ab y) := by omega
theorem len_vals {ρ : Env} (hg : ρ.g = gF) : lenV.den ρ = .tuple #[.int .i64 (lowF (ρ.i 0) (ρ.l 0)), .int .i64 (highF (ρ.i 0) (ρ.l 0)), .int .i64 (errT (ρ.i 0) (ρ.l 0))] := by
  simp only [lenV, V.ofL, gE, den_tup, dens_cons, dens_nil, den_i, g_1 hg, g_2 hg, g_3 hg, I_v, L_lv]
theorem low_rng (n : Int) (l : LL) : 0 ≤ lowF n l ∧ lowF n l ≤ 206158430208 ∧ 0 ≤ highF n l ∧ highF n l ≤ 206158430208 := by
  unfold lowF highF
  by_cases h : trackB n l = true
  · have t := track_iff.1 h
    have r := strF_rng t.2.1 n.toNat (by omega)
    have hs := root2_spec (d := diaF n l) (by unfold diaF; omega)
    unfold strF diaF at *
    rw [if_pos h, if_pos h]
    split <;> omega
  · rw [if_neg h, if_neg h]; omega
theorem len_facts {ρ : Env} (hg : ρ.g = gF) : ∀ e ∈ lenFs, e.B ρ = true := by
  have h := low_rng (ρ.i 0) (ρ.l 0)
  simp only [lenFs, gE, List.mem_cons, List.not_mem_nil, or_false, forall_eq_or_imp, forall_eq, B_le, I_c, g_1 hg, g_2 hg, I_v, L_lv, decide_eq_true_eq]
  omega
theorem len_end {ρ : Env} (hg : ρ.g = gF) {w w' : World} {a b c : Int} (h : a = lowF (ρ.i 0) (ρ.l 0) ∧ b = highF (ρ.i 0) (ρ.l 0) ∧ c = errT (ρ.i 0) (ρ.l 0)) (hb : Below w.heap.size w w') : (Ending.returned (.tuple #[.int .i64 a, .int .i64 b, .int .i64 c]) = .returned (lenV.den ρ) ∧ ∀ e ∈ lenFs, e.B ρ = true) ∧ Below w.heap.size w w' := by
  obtain ⟨rfl, rfl, rfl⟩ := h
  exact ⟨⟨by rw [len_vals hg], len_facts hg⟩, hb⟩
theorem len_ok (u : Fit TT) : CtrOk TT Try.prog cLen := ctrVal_ok rfl fun ρ w hF0 hT hR => by
  have hg := (u.tab hT).1
  have hh := (u.tab hT).2
  have hF := nF_of hR (row_in [])
  refine pat_callsD dd_ok (Γ := lenG) (by simpa [lenG] using ⟨isTrack_ok u.open, root_ok u.open⟩) 400 lenK (nF 0)
    [⟨(.must (.eq (.c 0) (.app 5 (.cons (.c 1) (.lv 0))))), [(.happ 3 (.cons (.v 0) (.lv 0))), (.le (.c 2) (.v 0)), (.le (.v 0) (.c 1024)), (.allr (-16777216) 16777216 (.lv 0)), (.le (.c 0) (.v 0)), (.le (.v 0) (.c 9223372036854775807))], []⟩,
⟨(.must (.eq (.c 0) (.app 6 (.cons (.c 1) (.lv 0))))), [(.happ 3 (.cons (.v 0) (.lv 0))), (.le (.c 2) (.v 0)), (.le (.v 0) (.c 1024)), (.allr (-16777216) 16777216 (.lv 0)), (.le (.c 0) (.v 0)), (.le (.v 0) (.c 9223372036854775807))], []⟩,
⟨(.must (.le (.c 0) (.add (.v 8) (.ite (.lt (.sub (.nthI (.lv 0) (.mul (.v 6) (.c 2))) (.nthI (.lv 0) (.mul (.sub (.v 6) (.c 1)) (.c 2)))) (.sub (.c 0) (.sub (.nthI (.lv 0) (.mul (.v 6) (.c 2))) (.nthI (.lv 0) (.mul (.sub (.v 6) (.c 1)) (.c 2)))))) (.sub (.c 0) (.sub (.nthI (.lv 0) (.mul (.v 6) (.c 2))) (.nthI (.lv 0) (.mul (.sub (.v 6) (.c 1)) (.c 2))))) (.sub (.nthI (.lv 0) (.mul (.v 6) (.c 2))) (.nthI (.lv 0) (.mul (.sub (.v 6) (.c 1)) (.c 2)))))))), [(.eq (.ite (.lt (.sub (.nthI (.lv 0) (.mul (.v 6) (.c 2))) (.nthI (.lv 0) (.mul (.sub (.v 6) (.c 1)) (.c 2)))) (.sub (.c 0) (.sub (.nthI (.lv 0) (.mul (.v 6) (.c 2))) (.nthI (.lv 0) (.mul (.sub (.v 6) (.c 1)) (.c 2)))))) (.sub (.c 0) (.sub (.nthI (.lv 0) (.mul (.v 6) (.c 2))) (.nthI (.lv 0) (.mul (.sub (.v 6) (.c 1)) (.c 2))))) (.sub (.nthI (.lv 0) (.mul (.v 6) (.c 2))) (.nthI (.lv 0) (.mul (.sub (.v 6) (.c 1)) (.c 2))))) (.ite (.lt (.sub (.nthI (.lv 0) (.add (.mul (.v 6) (.c 2)) (.c 1))) (.nthI (.lv 0) (.add (.mul (.sub (.v 6) (.c 1)) (.c 2)) (.c 1)))) (.sub (.c 0) (.sub (.nthI (.lv 0) (.add (.mul (.v 6) (.c 2)) (.c 1))) (.nthI (.lv 0) (.add (.mul (.sub (.v 6) (.c 1)) (.c 2)) (.c 1)))))) (.sub (.c 0) (.sub (.nthI (.lv 0) (.add (.mul (.v 6) (.c 2)) (.c 1))) (.nthI (.lv 0) (.add (.mul (.sub (.v 6) (.c 1)) (.c 2)) (.c 1))))) (.sub (.nthI (.lv 0) (.add (.mul (.v 6) (.c 2)) (.c 1))) (.nthI (.lv 0) (.add (.mul (.sub (.v 6) (.c 1)) (.c 2)) (.c 1)))))), (.lt (.sub (.v 6) (.c 1)) (.v 0)), (.lt (.v 6) (.v 0)), (.le (.c 1) (.v 6)), (.le (.v 6) (.v 0)), (.le (.v 6) (.c 1024)), (.le (.c 0) (.v 7)), (.le (.v 7) (.c 68719476736)), (.le (.c 0) (.v 8)), (.le (.v 8) (.c 34359738368)), (.eq (.v 7) (.app 5 (.cons (.v 6) (.lv 0)))), (.eq (.v 8) (.app 6 (.cons (.v 6) (.lv 0)))), (.happ 3 (.cons (.v 0) (.lv 0))), (.le (.c 2) (.v 0)), (.le (.v 0) (.c 1024)), (.allr (-16777216) 16777216 (.lv 0)), (.le (.c 0) (.v 0)), (.le (.v 0) (.c 9223372036854775807))], []⟩,
⟨(.must (.le (.add (.v 8) (.ite (.lt (.sub (.nthI (.lv 0) (.mul (.v 6) (.c 2))) (.nthI (.lv 0) (.mul (.sub (.v 6) (.c 1)) (.c 2)))) (.sub (.c 0) (.sub (.nthI (.lv 0) (.mul (.v 6) (.c 2))) (.nthI (.lv 0) (.mul (.sub (.v 6) (.c 1)) (.c 2)))))) (.sub (.c 0) (.sub (.nthI (.lv 0) (.mul (.v 6) (.c 2))) (.nthI (.lv 0) (.mul (.sub (.v 6) (.c 1)) (.c 2))))) (.sub (.nthI (.lv 0) (.mul (.v 6) (.c 2))) (.nthI (.lv 0) (.mul (.sub (.v 6) (.c 1)) (.c 2)))))) (.c 34359738368))), [(.eq (.ite (.lt (.sub (.nthI (.lv 0) (.mul (.v 6) (.c 2))) (.nthI (.lv 0) (.mul (.sub (.v 6) (.c 1)) (.c 2)))) (.sub (.c 0) (.sub (.nthI (.lv 0) (.mul (.v 6) (.c 2))) (.nthI (.lv 0) (.mul (.sub (.v 6) (.c 1)) (.c 2)))))) (.sub (.c 0) (.sub (.nthI (.lv 0) (.mul (.v 6) (.c 2))) (.nthI (.lv 0) (.mul (.sub (.v 6) (.c 1)) (.c 2))))) (.sub (.nthI (.lv 0) (.mul (.v 6) (.c 2))) (.nthI (.lv 0) (.mul (.sub (.v 6) (.c 1)) (.c 2))))) (.ite (.lt (.sub (.nthI (.lv 0) (.add (.mul (.v 6) (.c 2)) (.c 1))) (.nthI (.lv 0) (.add (.mul (.sub (.v 6) (.c 1)) (.c 2)) (.c 1)))) (.sub (.c 0) (.sub (.nthI (.lv 0) (.add (.mul (.v 6) (.c 2)) (.c 1))) (.nthI (.lv 0) (.add (.mul (.sub (.v 6) (.c 1)) (.c 2)) (.c 1)))))) (.sub (.c 0) (.sub (.nthI (.lv 0) (.add (.mul (.v 6) (.c 2)) (.c 1))) (.nthI (.lv 0) (.add (.mul (.sub (.v 6) (.c 1)) (.c 2)) (.c 1))))) (.sub (.nthI (.lv 0) (.add (.mul (.v 6) (.c 2)) (.c 1))) (.nthI (.lv 0) (.add (.mul (.sub (.v 6) (.c 1)) (.c 2)) (.c 1)))))), (.lt (.sub (.v 6) (.c 1)) (.v 0)), (.lt (.v 6) (.v 0)), (.le (.c 1) (.v 6)), (.le (.v 6) (.v 0)), (.le (.v 6) (.c 1024)), (.le (.c 0) (.v 7)), (.le (.v 7) (.c 68719476736)), (.le (.c 0) (.v 8)), (.le (.v 8) (.c 34359738368)), (.eq (.v 7) (.app 5 (.cons (.v 6) (.lv 0)))), (.eq (.v 8) (.app 6 (.cons (.v 6) (.lv 0)))), (.happ 3 (.cons (.v 0) (.lv 0))), (.le (.c 2) (.v 0)), (.le (.v 0) (.c 1024)), (.allr (-16777216) 16777216 (.lv 0)), (.le (.c 0) (.v 0)), (.le (.v 0) (.c 9223372036854775807))], []⟩,
⟨(.must (.eq (.v 7) (.app 5 (.cons (.add (.v 6) (.c 1)) (.lv 0))))), [(.eq (.ite (.lt (.sub (.nthI (.lv 0) (.mul (.v 6) (.c 2))) (.nthI (.lv 0) (.mul (.sub (.v 6) (.c 1)) (.c 2)))) (.sub (.c 0) (.sub (.nthI (.lv 0) (.mul (.v 6) (.c 2))) (.nthI (.lv 0) (.mul (.sub (.v 6) (.c 1)) (.c 2)))))) (.sub (.c 0) (.sub (.nthI (.lv 0) (.mul (.v 6) (.c 2))) (.nthI (.lv 0) (.mul (.sub (.v 6) (.c 1)) (.c 2))))) (.sub (.nthI (.lv 0) (.mul (.v 6) (.c 2))) (.nthI (.lv 0) (.mul (.sub (.v 6) (.c 1)) (.c 2))))) (.ite (.lt (.sub (.nthI (.lv 0) (.add (.mul (.v 6) (.c 2)) (.c 1))) (.nthI (.lv 0) (.add (.mul (.sub (.v 6) (.c 1)) (.c 2)) (.c 1)))) (.sub (.c 0) (.sub (.nthI (.lv 0) (.add (.mul (.v 6) (.c 2)) (.c 1))) (.nthI (.lv 0) (.add (.mul (.sub (.v 6) (.c 1)) (.c 2)) (.c 1)))))) (.sub (.c 0) (.sub (.nthI (.lv 0) (.add (.mul (.v 6) (.c 2)) (.c 1))) (.nthI (.lv 0) (.add (.mul (.sub (.v 6) (.c 1)) (.c 2)) (.c 1))))) (.sub (.nthI (.lv 0) (.add (.mul (.v 6) (.c 2)) (.c 1))) (.nthI (.lv 0) (.add (.mul (.sub (.v 6) (.c 1)) (.c 2)) (.c 1)))))), (.lt (.sub (.v 6) (.c 1)) (.v 0)), (.lt (.v 6) (.v 0)), (.le (.c 1) (.v 6)), (.le (.v 6) (.v 0)), (.le (.v 6) (.c 1024)), (.le (.c 0) (.v 7)), (.le (.v 7) (.c 68719476736)), (.le (.c 0) (.v 8)), (.le (.v 8) (.c 34359738368)), (.eq (.v 7) (.app 5 (.cons (.v 6) (.lv 0)))), (.eq (.v 8) (.app 6 (.cons (.v 6) (.lv 0)))), (.happ 3 (.cons (.v 0) (.lv 0))), (.le (.c 2) (.v 0)), (.le (.v 0) (.c 1024)), (.allr (-16777216) 16777216 (.lv 0)), (.le (.c 0) (.v 0)), (.le (.v 0) (.c 9223372036854775807))], []⟩,
⟨(.must (.eq (.add (.v 8) (.ite (.lt (.sub (.nthI (.lv 0) (.mul (.v 6) (.c 2))) (.nthI (.lv 0) (.mul (.sub (.v 6) (.c 1)) (.c 2)))) (.sub (.c 0) (.sub (.nthI (.lv 0) (.mul (.v 6) (.c 2))) (.nthI (.lv 0) (.mul (.sub (.v 6) (.c 1)) (.c 2)))))) (.sub (.c 0) (.sub (.nthI (.lv 0) (.mul (.v 6) (.c 2))) (.nthI (.lv 0) (.mul (.sub (.v 6) (.c 1)) (.c 2))))) (.sub (.nthI (.lv 0) (.mul (.v 6) (.c 2))) (.nthI (.lv 0) (.mul (.sub (.v 6) (.c 1)) (.c 2)))))) (.app 6 (.cons (.add (.v 6) (.c 1)) (.lv 0))))), [(.eq (.ite (.lt (.sub (.nthI (.lv 0) (.mul (.v 6) (.c 2))) (.nthI (.lv 0) (.mul (.sub (.v 6) (.c 1)) (.c 2)))) (.sub (.c 0) (.sub (.nthI (.lv 0) (.mul (.v 6) (.c 2))) (.nthI (.lv 0) (.mul (.sub (.v 6) (.c 1)) (.c 2)))))) (.sub (.c 0) (.sub (.nthI (.lv 0) (.mul (.v 6) (.c 2))) (.nthI (.lv 0) (.mul (.sub (.v 6) (.c 1)) (.c 2))))) (.sub (.nthI (.lv 0) (.mul (.v 6) (.c 2))) (.nthI (.lv 0) (.mul (.sub (.v 6) (.c 1)) (.c 2))))) (.ite (.lt (.sub (.nthI (.lv 0) (.add (.mul (.v 6) (.c 2)) (.c 1))) (.nthI (.lv 0) (.add (.mul (.sub (.v 6) (.c 1)) (.c 2)) (.c 1)))) (.sub (.c 0) (.sub (.nthI (.lv 0) (.add (.mul (.v 6) (.c 2)) (.c 1))) (.nthI (.lv 0) (.add (.mul (.sub (.v 6) (.c 1)) (.c 2)) (.c 1)))))) (.sub (.c 0) (.sub (.nthI (.lv 0) (.add (.mul (.v 6) (.c 2)) (.c 1))) (.nthI (.lv 0) (.add (.mul (.sub (.v 6) (.c 1)) (.c 2)) (.c 1))))) (.sub (.nthI (.lv 0) (.add (.mul (.v 6) (.c 2)) (.c 1))) (.nthI (.lv 0) (.add (.mul (.sub (.v 6) (.c 1)) (.c 2)) (.c 1)))))), (.lt (.sub (.v 6) (.c 1)) (.v 0)), (.lt (.v 6) (.v 0)), (.le (.c 1) (.v 6)), (.le (.v 6) (.v 0)), (.le (.v 6) (.c 1024)), (.le (.c 0) (.v 7)), (.le (.v 7) (.c 68719476736)), (.le (.c 0) (.v 8)), (.le (.v 8) (.c 34359738368)), (.eq (.v 7) (.app 5 (.cons (.v 6) (.lv 0)))), (.eq (.v 8) (.app 6 (.cons (.v 6) (.lv 0)))), (.happ 3 (.cons (.v 0) (.lv 0))), (.le (.c 2) (.v 0)), (.le (.v 0) (.c 1024)), (.allr (-16777216) 16777216 (.lv 0)), (.le (.c 0) (.v 0)), (.le (.v 0) (.c 9223372036854775807))], []⟩,
⟨(.must (.le (.c 0) (.add (.v 7) (.ite (.lt (.ite (.lt (.sub (.nthI (.lv 0) (.mul (.v 6) (.c 2))) (.nthI (.lv 0) (.mul (.sub (.v 6) (.c 1)) (.c 2)))) (.sub (.c 0) (.sub (.nthI (.lv 0) (.mul (.v 6) (.c 2))) (.nthI (.lv 0) (.mul (.sub (.v 6) (.c 1)) (.c 2)))))) (.sub (.c 0) (.sub (.nthI (.lv 0) (.mul (.v 6) (.c 2))) (.nthI (.lv 0) (.mul (.sub (.v 6) (.c 1)) (.c 2))))) (.sub (.nthI (.lv 0) (.mul (.v 6) (.c 2))) (.nthI (.lv 0) (.mul (.sub (.v 6) (.c 1)) (.c 2))))) (.ite (.lt (.sub (.nthI (.lv 0) (.add (.mul (.v 6) (.c 2)) (.c 1))) (.nthI (.lv 0) (.add (.mul (.sub (.v 6) (.c 1)) (.c 2)) (.c 1)))) (.sub (.c 0) (.sub (.nthI (.lv 0) (.add (.mul (.v 6) (.c 2)) (.c 1))) (.nthI (.lv 0) (.add (.mul (.sub (.v 6) (.c 1)) (.c 2)) (.c 1)))))) (.sub (.c 0) (.sub (.nthI (.lv 0) (.add (.mul (.v 6) (.c 2)) (.c 1))) (.nthI (.lv 0) (.add (.mul (.sub (.v 6) (.c 1)) (.c 2)) (.c 1))))) (.sub (.nthI (.lv 0) (.add (.mul (.v 6) (.c 2)) (.c 1))) (.nthI (.lv 0) (.add (.mul (.sub (.v 6) (.c 1)) (.c 2)) (.c 1)))))) (.ite (.lt (.sub (.nthI (.lv 0) (.add (.mul (.v 6) (.c 2)) (.c 1))) (.nthI (.lv 0) (.add (.mul (.sub (.v 6) (.c 1)) (.c 2)) (.c 1)))) (.sub (.c 0) (.sub (.nthI (.lv 0) (.add (.mul (.v 6) (.c 2)) (.c 1))) (.nthI (.lv 0) (.add (.mul (.sub (.v 6) (.c 1)) (.c 2)) (.c 1)))))) (.sub (.c 0) (.sub (.nthI (.lv 0) (.add (.mul (.v 6) (.c 2)) (.c 1))) (.nthI (.lv 0) (.add (.mul (.sub (.v 6) (.c 1)) (.c 2)) (.c 1))))) (.sub (.nthI (.lv 0) (.add (.mul (.v 6) (.c 2)) (.c 1))) (.nthI (.lv 0) (.add (.mul (.sub (.v 6) (.c 1)) (.c 2)) (.c 1))))) (.ite (.lt (.sub (.nthI (.lv 0) (.mul (.v 6) (.c 2))) (.nthI (.lv 0) (.mul (.sub (.v 6) (.c 1)) (.c 2)))) (.sub (.c 0) (.sub (.nthI (.lv 0) (.mul (.v 6) (.c 2))) (.nthI (.lv 0) (.mul (.sub (.v 6) (.c 1)) (.c 2)))))) (.sub (.c 0) (.sub (.nthI (.lv 0) (.mul (.v 6) (.c 2))) (.nthI (.lv 0) (.mul (.sub (.v 6) (.c 1)) (.c 2))))) (.sub (.nthI (.lv 0) (.mul (.v 6) (.c 2))) (.nthI (.lv 0) (.mul (.sub (.v 6) (.c 1)) (.c 2))))))))), [(.not (.eq (.ite (.lt (.sub (.nthI (.lv 0) (.mul (.v 6) (.c 2))) (.nthI (.lv 0) (.mul (.sub (.v 6) (.c 1)) (.c 2)))) (.sub (.c 0) (.sub (.nthI (.lv 0) (.mul (.v 6) (.c 2))) (.nthI (.lv 0) (.mul (.sub (.v 6) (.c 1)) (.c 2)))))) (.sub (.c 0) (.sub (.nthI (.lv 0) (.mul (.v 6) (.c 2))) (.nthI (.lv 0) (.mul (.sub (.v 6) (.c 1)) (.c 2))))) (.sub (.nthI (.lv 0) (.mul (.v 6) (.c 2))) (.nthI (.lv 0) (.mul (.sub (.v 6) (.c 1)) (.c 2))))) (.ite (.lt (.sub (.nthI (.lv 0) (.add (.mul (.v 6) (.c 2)) (.c 1))) (.nthI (.lv 0) (.add (.mul (.sub (.v 6) (.c 1)) (.c 2)) (.c 1)))) (.sub (.c 0) (.sub (.nthI (.lv 0) (.add (.mul (.v 6) (.c 2)) (.c 1))) (.nthI (.lv 0) (.add (.mul (.sub (.v 6) (.c 1)) (.c 2)) (.c 1)))))) (.sub (.c 0) (.sub (.nthI (.lv 0) (.add (.mul (.v 6) (.c 2)) (.c 1))) (.nthI (.lv 0) (.add (.mul (.sub (.v 6) (.c 1)) (.c 2)) (.c 1))))) (.sub (.nthI (.lv 0) (.add (.mul (.v 6) (.c 2)) (.c 1))) (.nthI (.lv 0) (.add (.mul (.sub (.v 6) (.c 1)) (.c 2)) (.c 1))))))), (.lt (.sub (.v 6) (.c 1)) (.v 0)), (.lt (.v 6) (.v 0)), (.le (.c 1) (.v 6)), (.le (.v 6) (.v 0)), (.le (.v 6) (.c 1024)), (.le (.c 0) (.v 7)), (.le (.v 7) (.c 68719476736)), (.le (.c 0) (.v 8)), (.le (.v 8) (.c 34359738368)), (.eq (.v 7) (.app 5 (.cons (.v 6) (.lv 0)))), (.eq (.v 8) (.app 6 (.cons (.v 6) (.lv 0)))), (.happ 3 (.cons (.v 0) (.lv 0))), (.le (.c 2) (.v 0)), (.le (.v 0) (.c 1024)), (.allr (-16777216) 16777216 (.lv 0)), (.le (.c 0) (.v 0)), (.le (.v 0) (.c 9223372036854775807))], []⟩,
⟨(.must (.le (.add (.v 7) (.ite (.lt (.ite (.lt (.sub (.nthI (.lv 0) (.mul (.v 6) (.c 2))) (.nthI (.lv 0) (.mul (.sub (.v 6) (.c 1)) (.c 2)))) (.sub (.c 0) (.sub (.nthI (.lv 0) (.mul (.v 6) (.c 2))) (.nthI (.lv 0) (.mul (.sub (.v 6) (.c 1)) (.c 2)))))) (.sub (.c 0) (.sub (.nthI (.lv 0) (.mul (.v 6) (.c 2))) (.nthI (.lv 0) (.mul (.sub (.v 6) (.c 1)) (.c 2))))) (.sub (.nthI (.lv 0) (.mul (.v 6) (.c 2))) (.nthI (.lv 0) (.mul (.sub (.v 6) (.c 1)) (.c 2))))) (.ite (.lt (.sub (.nthI (.lv 0) (.add (.mul (.v 6) (.c 2)) (.c 1))) (.nthI (.lv 0) (.add (.mul (.sub (.v 6) (.c 1)) (.c 2)) (.c 1)))) (.sub (.c 0) (.sub (.nthI (.lv 0) (.add (.mul (.v 6) (.c 2)) (.c 1))) (.nthI (.lv 0) (.add (.mul (.sub (.v 6) (.c 1)) (.c 2)) (.c 1)))))) (.sub (.c 0) (.sub (.nthI (.lv 0) (.add (.mul (.v 6) (.c 2)) (.c 1))) (.nthI (.lv 0) (.add (.mul (.sub (.v 6) (.c 1)) (.c 2)) (.c 1))))) (.sub (.nthI (.lv 0) (.add (.mul (.v 6) (.c 2)) (.c 1))) (.nthI (.lv 0) (.add (.mul (.sub (.v 6) (.c 1)) (.c 2)) (.c 1)))))) (.ite (.lt (.sub (.nthI (.lv 0) (.add (.mul (.v 6) (.c 2)) (.c 1))) (.nthI (.lv 0) (.add (.mul (.sub (.v 6) (.c 1)) (.c 2)) (.c 1)))) (.sub (.c 0) (.sub (.nthI (.lv 0) (.add (.mul (.v 6) (.c 2)) (.c 1))) (.nthI (.lv 0) (.add (.mul (.sub (.v 6) (.c 1)) (.c 2)) (.c 1)))))) (.sub (.c 0) (.sub (.nthI (.lv 0) (.add (.mul (.v 6) (.c 2)) (.c 1))) (.nthI (.lv 0) (.add (.mul (.sub (.v 6) (.c 1)) (.c 2)) (.c 1))))) (.sub (.nthI (.lv 0) (.add (.mul (.v 6) (.c 2)) (.c 1))) (.nthI (.lv 0) (.add (.mul (.sub (.v 6) (.c 1)) (.c 2)) (.c 1))))) (.ite (.lt (.sub (.nthI (.lv 0) (.mul (.v 6) (.c 2))) (.nthI (.lv 0) (.mul (.sub (.v 6) (.c 1)) (.c 2)))) (.sub (.c 0) (.sub (.nthI (.lv 0) (.mul (.v 6) (.c 2))) (.nthI (.lv 0) (.mul (.sub (.v 6) (.c 1)) (.c 2)))))) (.sub (.c 0) (.sub (.nthI (.lv 0) (.mul (.v 6) (.c 2))) (.nthI (.lv 0) (.mul (.sub (.v 6) (.c 1)) (.c 2))))) (.sub (.nthI (.lv 0) (.mul (.v 6) (.c 2))) (.nthI (.lv 0) (.mul (.sub (.v 6) (.c 1)) (.c 2))))))) (.c 68719476736))), [(.not (.eq (.ite (.lt (.sub (.nthI (.lv 0) (.mul (.v 6) (.c 2))) (.nthI (.lv 0) (.mul (.sub (.v 6) (.c 1)) (.c 2)))) (.sub (.c 0) (.sub (.nthI (.lv 0) (.mul (.v 6) (.c 2))) (.nthI (.lv 0) (.mul (.sub (.v 6) (.c 1)) (.c 2)))))) (.sub (.c 0) (.sub (.nthI (.lv 0) (.mul (.v 6) (.c 2))) (.nthI (.lv 0) (.mul (.sub (.v 6) (.c 1)) (.c 2))))) (.sub (.nthI (.lv 0) (.mul (.v 6) (.c 2))) (.nthI (.lv 0) (.mul (.sub (.v 6) (.c 1)) (.c 2))))) (.ite (.lt (.sub (.nthI (.lv 0) (.add (.mul (.v 6) (.c 2)) (.c 1))) (.nthI (.lv 0) (.add (.mul (.sub (.v 6) (.c 1)) (.c 2)) (.c 1)))) (.sub (.c 0) (.sub (.nthI (.lv 0) (.add (.mul (.v 6) (.c 2)) (.c 1))) (.nthI (.lv 0) (.add (.mul (.sub (.v 6) (.c 1)) (.c 2)) (.c 1)))))) (.sub (.c 0) (.sub (.nthI (.lv 0) (.add (.mul (.v 6) (.c 2)) (.c 1))) (.nthI (.lv 0) (.add (.mul (.sub (.v 6) (.c 1)) (.c 2)) (.c 1))))) (.sub (.nthI (.lv 0) (.add (.mul (.v 6) (.c 2)) (.c 1))) (.nthI (.lv 0) (.add (.mul (.sub (.v 6) (.c 1)) (.c 2)) (.c 1))))))), (.lt (.sub (.v 6) (.c 1)) (.v 0)), (.lt (.v 6) (.v 0)), (.le (.c 1) (.v 6)), (.le (.v 6) (.v 0)), (.le (.v 6) (.c 1024)), (.le (.c 0) (.v 7)), (.le (.v 7) (.c 68719476736)), (.le (.c 0) (.v 8)), (.le (.v 8) (.c 34359738368)), (.eq (.v 7) (.app 5 (.cons (.v 6) (.lv 0)))), (.eq (.v 8) (.app 6 (.cons (.v 6) (.lv 0)))), (.happ 3 (.cons (.v 0) (.lv 0))), (.le (.c 2) (.v 0)), (.le (.v 0) (.c 1024)), (.allr (-16777216) 16777216 (.lv 0)), (.le (.c 0) (.v 0)), (.le (.v 0) (.c 9223372036854775807))], []⟩,
⟨(.must (.eq (.add (.v 7) (.ite (.lt (.ite (.lt (.sub (.nthI (.lv 0) (.mul (.v 6) (.c 2))) (.nthI (.lv 0) (.mul (.sub (.v 6) (.c 1)) (.c 2)))) (.sub (.c 0) (.sub (.nthI (.lv 0) (.mul (.v 6) (.c 2))) (.nthI (.lv 0) (.mul (.sub (.v 6) (.c 1)) (.c 2)))))) (.sub (.c 0) (.sub (.nthI (.lv 0) (.mul (.v 6) (.c 2))) (.nthI (.lv 0) (.mul (.sub (.v 6) (.c 1)) (.c 2))))) (.sub (.nthI (.lv 0) (.mul (.v 6) (.c 2))) (.nthI (.lv 0) (.mul (.sub (.v 6) (.c 1)) (.c 2))))) (.ite (.lt (.sub (.nthI (.lv 0) (.add (.mul (.v 6) (.c 2)) (.c 1))) (.nthI (.lv 0) (.add (.mul (.sub (.v 6) (.c 1)) (.c 2)) (.c 1)))) (.sub (.c 0) (.sub (.nthI (.lv 0) (.add (.mul (.v 6) (.c 2)) (.c 1))) (.nthI (.lv 0) (.add (.mul (.sub (.v 6) (.c 1)) (.c 2)) (.c 1)))))) (.sub (.c 0) (.sub (.nthI (.lv 0) (.add (.mul (.v 6) (.c 2)) (.c 1))) (.nthI (.lv 0) (.add (.mul (.sub (.v 6) (.c 1)) (.c 2)) (.c 1))))) (.sub (.nthI (.lv 0) (.add (.mul (.v 6) (.c 2)) (.c 1))) (.nthI (.lv 0) (.add (.mul (.sub (.v 6) (.c 1)) (.c 2)) (.c 1)))))) (.ite (.lt (.sub (.nthI (.lv 0) (.add (.mul (.v 6) (.c 2)) (.c 1))) (.nthI (.lv 0) (.add (.mul (.sub (.v 6) (.c 1)) (.c 2)) (.c 1)))) (.sub (.c 0) (.sub (.nthI (.lv 0) (.add (.mul (.v 6) (.c 2)) (.c 1))) (.nthI (.lv 0) (.add (.mul (.sub (.v 6) (.c 1)) (.c 2)) (.c 1)))))) (.sub (.c 0) (.sub (.nthI (.lv 0) (.add (.mul (.v 6) (.c 2)) (.c 1))) (.nthI (.lv 0) (.add (.mul (.sub (.v 6) (.c 1)) (.c 2)) (.c 1))))) (.sub (.nthI (.lv 0) (.add (.mul (.v 6) (.c 2)) (.c 1))) (.nthI (.lv 0) (.add (.mul (.sub (.v 6) (.c 1)) (.c 2)) (.c 1))))) (.ite (.lt (.sub (.nthI (.lv 0) (.mul (.v 6) (.c 2))) (.nthI (.lv 0) (.mul (.sub (.v 6) (.c 1)) (.c 2)))) (.sub (.c 0) (.sub (.nthI (.lv 0) (.mul (.v 6) (.c 2))) (.nthI (.lv 0) (.mul (.sub (.v 6) (.c 1)) (.c 2)))))) (.sub (.c 0) (.sub (.nthI (.lv 0) (.mul (.v 6) (.c 2))) (.nthI (.lv 0) (.mul (.sub (.v 6) (.c 1)) (.c 2))))) (.sub (.nthI (.lv 0) (.mul (.v 6) (.c 2))) (.nthI (.lv 0) (.mul (.sub (.v 6) (.c 1)) (.c 2))))))) (.app 5 (.cons (.add (.v 6) (.c 1)) (.lv 0))))), [(.not (.eq (.ite (.lt (.sub (.nthI (.lv 0) (.mul (.v 6) (.c 2))) (.nthI (.lv 0) (.mul (.sub (.v 6) (.c 1)) (.c 2)))) (.sub (.c 0) (.sub (.nthI (.lv 0) (.mul (.v 6) (.c 2))) (.nthI (.lv 0) (.mul (.sub (.v 6) (.c 1)) (.c 2)))))) (.sub (.c 0) (.sub (.nthI (.lv 0) (.mul (.v 6) (.c 2))) (.nthI (.lv 0) (.mul (.sub (.v 6) (.c 1)) (.c 2))))) (.sub (.nthI (.lv 0) (.mul (.v 6) (.c 2))) (.nthI (.lv 0) (.mul (.sub (.v 6) (.c 1)) (.c 2))))) (.ite (.lt (.sub (.nthI (.lv 0) (.add (.mul (.v 6) (.c 2)) (.c 1))) (.nthI (.lv 0) (.add (.mul (.sub (.v 6) (.c 1)) (.c 2)) (.c 1)))) (.sub (.c 0) (.sub (.nthI (.lv 0) (.add (.mul (.v 6) (.c 2)) (.c 1))) (.nthI (.lv 0) (.add (.mul (.sub (.v 6) (.c 1)) (.c 2)) (.c 1)))))) (.sub (.c 0) (.sub (.nthI (.lv 0) (.add (.mul (.v 6) (.c 2)) (.c 1))) (.nthI (.lv 0) (.add (.mul (.sub (.v 6) (.c 1)) (.c 2)) (.c 1))))) (.sub (.nthI (.lv 0) (.add (.mul (.v 6) (.c 2)) (.c 1))) (.nthI (.lv 0) (.add (.mul (.sub (.v 6) (.c 1)) (.c 2)) (.c 1))))))), (.lt (.sub (.v 6) (.c 1)) (.v 0)), (.lt (.v 6) (.v 0)), (.le (.c 1) (.v 6)), (.le (.v 6) (.v 0)), (.le (.v 6) (.c 1024)), (.le (.c 0) (.v 7)), (.le (.v 7) (.c 68719476736)), (.le (.c 0) (.v 8)), (.le (.v 8) (.c 34359738368)), (.eq (.v 7) (.app 5 (.cons (.v 6) (.lv 0)))), (.eq (.v 8) (.app 6 (.cons (.v 6) (.lv 0)))), (.happ 3 (.cons (.v 0) (.lv 0))), (.le (.c 2) (.v 0)), (.le (.v 0) (.c 1024)), (.allr (-16777216) 16777216 (.lv 0)), (.le (.c 0) (.v 0)), (.le (.v 0) (.c 9223372036854775807))], []⟩,
⟨(.must (.eq (.v 8) (.app 6 (.cons (.add (.v 6) (.c 1)) (.lv 0))))), [(.not (.eq (.ite (.lt (.sub (.nthI (.lv 0) (.mul (.v 6) (.c 2))) (.nthI (.lv 0) (.mul (.sub (.v 6) (.c 1)) (.c 2)))) (.sub (.c 0) (.sub (.nthI (.lv 0) (.mul (.v 6) (.c 2))) (.nthI (.lv 0) (.mul (.sub (.v 6) (.c 1)) (.c 2)))))) (.sub (.c 0) (.sub (.nthI (.lv 0) (.mul (.v 6) (.c 2))) (.nthI (.lv 0) (.mul (.sub (.v 6) (.c 1)) (.c 2))))) (.sub (.nthI (.lv 0) (.mul (.v 6) (.c 2))) (.nthI (.lv 0) (.mul (.sub (.v 6) (.c 1)) (.c 2))))) (.ite (.lt (.sub (.nthI (.lv 0) (.add (.mul (.v 6) (.c 2)) (.c 1))) (.nthI (.lv 0) (.add (.mul (.sub (.v 6) (.c 1)) (.c 2)) (.c 1)))) (.sub (.c 0) (.sub (.nthI (.lv 0) (.add (.mul (.v 6) (.c 2)) (.c 1))) (.nthI (.lv 0) (.add (.mul (.sub (.v 6) (.c 1)) (.c 2)) (.c 1)))))) (.sub (.c 0) (.sub (.nthI (.lv 0) (.add (.mul (.v 6) (.c 2)) (.c 1))) (.nthI (.lv 0) (.add (.mul (.sub (.v 6) (.c 1)) (.c 2)) (.c 1))))) (.sub (.nthI (.lv 0) (.add (.mul (.v 6) (.c 2)) (.c 1))) (.nthI (.lv 0) (.add (.mul (.sub (.v 6) (.c 1)) (.c 2)) (.c 1))))))), (.lt (.sub (.v 6) (.c 1)) (.v 0)), (.lt (.v 6) (.v 0)), (.le (.c 1) (.v 6)), (.le (.v 6) (.v 0)), (.le (.v 6) (.c 1024)), (.le (.c 0) (.v 7)), (.le (.v 7) (.c 68719476736)), (.le (.c 0) (.v 8)), (.le (.v 8) (.c 34359738368)), (.eq (.v 7) (.app 5 (.cons (.v 6) (.lv 0)))), (.eq (.v 8) (.app 6 (.cons (.v 6) (.lv 0)))), (.happ 3 (.cons (.v 0) (.lv 0))), (.le (.c 2) (.v 0)), (.le (.v 0) (.c 1024)), (.allr (-16777216) 16777216 (.lv 0)), (.le (.c 0) (.v 0)), (.le (.v 0) (.c 9223372036854775807))], []⟩,
⟨(.val (.tup (.cons (.i .i64 (.add (.v 7) (.app 4 (.cons (.v 8) .nil)))) (.cons (.i .i64 (.add (.add (.v 7) (.app 4 (.cons (.v 8) .nil))) (.c 1))) (.cons (.i .i64 (.c 0)) .nil))))), [(.lt (.c 0) (.v 8)), (.le (.c 0) (.app 4 (.cons (.v 8) .nil))), (.le (.app 4 (.cons (.v 8) .nil)) (.mul (.c 2) (.v 8))), (.le (.app 4 (.cons (.v 8) .nil)) (.c 68719476736)), (.le (.v 0) (.v 6)), (.le (.c 1) (.v 6)), (.le (.v 6) (.v 0)), (.le (.v 6) (.c 1024)), (.le (.c 0) (.v 7)), (.le (.v 7) (.c 68719476736)), (.le (.c 0) (.v 8)), (.le (.v 8) (.c 34359738368)), (.eq (.v 7) (.app 5 (.cons (.v 6) (.lv 0)))), (.eq (.v 8) (.app 6 (.cons (.v 6) (.lv 0)))), (.happ 3 (.cons (.v 0) (.lv 0))), (.le (.c 2) (.v 0)), (.le (.v 0) (.c 1024)), (.allr (-16777216) 16777216 (.lv 0)), (.le (.c 0) (.v 0)), (.le (.v 0) (.c 9223372036854775807))], []⟩,
⟨(.val (.tup (.cons (.i .i64 (.add (.v 7) (.app 4 (.cons (.v 8) .nil)))) (.cons (.i .i64 (.add (.v 7) (.app 4 (.cons (.v 8) .nil)))) (.cons (.i .i64 (.c 0)) .nil))))), [(.le (.v 8) (.c 0)), (.le (.c 0) (.app 4 (.cons (.v 8) .nil))), (.le (.app 4 (.cons (.v 8) .nil)) (.mul (.c 2) (.v 8))), (.le (.app 4 (.cons (.v 8) .nil)) (.c 68719476736)), (.le (.v 0) (.v 6)), (.le (.c 1) (.v 6)), (.le (.v 6) (.v 0)), (.le (.v 6) (.c 1024)), (.le (.c 0) (.v 7)), (.le (.v 7) (.c 68719476736)), (.le (.c 0) (.v 8)), (.le (.v 8) (.c 34359738368)), (.eq (.v 7) (.app 5 (.cons (.v 6) (.lv 0)))), (.eq (.v 8) (.app 6 (.cons (.v 6) (.lv 0)))), (.happ 3 (.cons (.v 0) (.lv 0))), (.le (.c 2) (.v 0)), (.le (.v 0) (.c 1024)), (.allr (-16777216) 16777216 (.lv 0)), (.le (.c 0) (.v 0)), (.le (.v 0) (.c 9223372036854775807))], []⟩,
⟨(.val (.tup (.cons (.i .i64 (.c 0)) (.cons (.i .i64 (.c 0)) (.cons (.i .i64 (.c 2)) .nil))))), [(.not (.happ 3 (.cons (.v 0) (.lv 0)))), (.le (.c 0) (.v 0)), (.le (.v 0) (.c 9223372036854775807))], []⟩] (by kernel_rfl) ρ w hF hT hR ⟨?_, ?_, ?_, ?_, ?_, ?_, ?_, ?_, ?_, ?_, ?_, ?_, ?_⟩ (u.J w)
  all_goals
    intro ρ' w' hx _ hF hb _
    have e0 : ρ'.i 0 = ρ.i 0 := hx.i 0 (by decide)
    have l0 : ρ'.l 0 = ρ.l 0 := hx.l 0 (by decide)
    have hg' : ρ'.g = gF := by rw [hx.g]; exact hg
    have hh' : ρ'.h = Tk.hF := by rw [hx.h]; exact hh
    clear hx hR
    simp only [holds, List.mem_cons, List.not_mem_nil, or_false, forall_eq_or_imp, forall_eq, B_le, B_lt, B_eq, B_not, I_add, I_sub, I_mul, I_ite, I_c, I_v, I_nthI, L_lv, h_3 hh', g_4 hg', g_5 hg', g_6 hg', e0, l0, nI_eq, sX_f, sY_f, decide_eq_true_eq, Bool.not_eq_true', decide_eq_false_iff_not, mx_ab, ab_max, den_tup, dens_cons, dens_nil, den_i] at hF ⊢
    first
      | rfl
      | (have ht : trackB (ρ.i 0) (ρ.l 0) = false := by (revert hF; simp only [and_imp]; intros; assumption)
         refine len_end hg ?_ hb
         unfold lowF highF errT
         rw [ht]
         exact ⟨rfl, rfl, rfl⟩)
      | (have ht : trackB (ρ.i 0) (ρ.l 0) = true := by (revert hF; simp only [and_imp]; intros; assumption)
         have t := track_iff.1 ht
         first
         | (have hk : ρ'.i 6 = ρ.i 0 := by omega
            refine len_end hg ?_ hb
            rw [hk] at hF
            have e1 : ρ'.i 7 = strF (ρ.i 0) (ρ.l 0) := by omega
            have e2 : ρ'.i 8 = diaF (ρ.i 0) (ρ.l 0) := by omega
            unfold lowF highF errT
            rw [if_pos ht, if_pos ht, if_pos ht]
            simp only [e1, e2] at hF ⊢
            refine ⟨?_, ?_, ?_⟩ <;> first | trivial | rfl | (rw [if_pos (by omega)]) | (rw [if_neg (by omega)]))
         | (have hl := legB_iff (l := ρ.l 0) (k := ρ'.i 6) (by omega)
            rw [allTo_at t.2.2 (k := ρ'.i 6) (by omega) (by omega)] at hl
            have hl := wayB_iff.1 hl.symm
            have a1 := ab_or (sX (ρ.l 0) (ρ'.i 6) - sX (ρ.l 0) (ρ'.i 6 - 1))
            have a2 := ab_or (sY (ρ.l 0) (ρ'.i 6) - sY (ρ.l 0) (ρ'.i 6 - 1))
            have r := strF_rng t.2.1 (ρ'.i 6 + 1).toNat (by omega)
            have s1 := sumTo_succ (strW (ρ.l 0)) (k := ρ'.i 6) (by omega)
            have s2 := sumTo_succ (diaW (ρ.l 0)) (k := ρ'.i 6) (by omega)
            have q1 : strW (ρ.l 0) (ρ'.i 6) = if ab (sX (ρ.l 0) (ρ'.i 6) - sX (ρ.l 0) (ρ'.i 6 - 1)) = ab (sY (ρ.l 0) (ρ'.i 6) - sY (ρ.l 0) (ρ'.i 6 - 1)) then 0 else ab (sX (ρ.l 0) (ρ'.i 6) - sX (ρ.l 0) (ρ'.i 6 - 1)) + ab (sY (ρ.l 0) (ρ'.i 6) - sY (ρ.l 0) (ρ'.i 6 - 1)) := by unfold strW; rw [if_neg (by omega)]
            have q2 : diaW (ρ.l 0) (ρ'.i 6) = if ab (sX (ρ.l 0) (ρ'.i 6) - sX (ρ.l 0) (ρ'.i 6 - 1)) = ab (sY (ρ.l 0) (ρ'.i 6) - sY (ρ.l 0) (ρ'.i 6 - 1)) then ab (sX (ρ.l 0) (ρ'.i 6) - sX (ρ.l 0) (ρ'.i 6 - 1)) else 0 := by unfold diaW; rw [if_neg (by omega)]
            first
            | (rw [if_pos hF.1] at q1 q2
               unfold strF diaF at *
               omega)
            | (rw [if_neg hF.1] at q1 q2
               unfold strF diaF at *
               omega)))
end Go.Proofs.Ythihccmombcihaa.Tk
end
section
namespace Go.Proofs.Ythihccmombcihaa.Tk
open Go Go.Proofs.Ythihccmombcihaa.Sx Go.RowKit

/-! ### Sums -/
theorem sumTo_congr {f g : Int → Int} : ∀ n : Nat, (∀ k : Nat, k < n → f k = g k) → sumTo f n = sumTo g n
  | 0, _ => rfl
  | n + 1, h => by simp only [sumTo]; rw [sumTo_congr n fun k hk => h k (by omega), h n (by omega)]
theorem sumTo_add (f : Int → Int) (a : Nat) : ∀ b : Nat, sumTo f (a + b) = sumTo f a + sumTo (fun q => f ((a : Int) + q)) b
  | 0 => by simp [sumTo]
  | b + 1 => by
    rw [← Nat.add_assoc]
    simp only [sumTo]
    rw [sumTo_add f a b]
    have : ((a + b : Nat) : Int) = (a : Int) + (b : Int) := by omega
    rw [this]
    omega
theorem sumTo_head (f : Int → Int) (n : Nat) : sumTo f (n + 1) = f 0 + sumTo (fun q => f (q + 1)) n := by
  have h := sumTo_add f 1 n
  rw [Nat.add_comm 1 n] at h
  rw [h]
  have e : sumTo f 1 = f 0 := by simp [sumTo]
  rw [e]
  congr 1
  exact sumTo_congr n fun k _ => by congr 1; omega
theorem sumTo_flip (g : Int → Int) : ∀ n : Nat, sumTo (fun k => g ((n : Int) - 1 - k)) n = sumTo g n
  | 0 => rfl
  | n + 1 => by
    rw [sumTo_head (fun k => g (((n + 1 : Nat) : Int) - 1 - k)) n]
    have h := sumTo_flip g n
    simp only [sumTo]
    rw [← h, Int.add_comm]
    congr 1
    · exact sumTo_congr n fun k _ => by congr 1; omega
    · congr 1; omega
/-! ### A list turned round -/
def Rev (n : Int) (l r : LL) : Prop := ∀ k, 0 ≤ k → k < n → sX r k = sX l (n - 1 - k) ∧ sY r k = sY l (n - 1 - k)
theorem ab_neg (x : Int) : ab (-x) = ab x := by unfold ab; split <;> split <;> omega
theorem wayB_neg (u v : Int) : wayB (-u) (-v) = wayB u v := by
  rw [Bool.eq_iff_iff, wayB_iff, wayB_iff]; omega
section
variable {n : Int} {l r : LL} (h : Rev n l r)
include h
theorem rev_leg {k : Int} (h1 : 1 ≤ k) (hk : k < n) : sX r k - sX r (k - 1) = -(sX l (n - k) - sX l (n - k - 1)) ∧ sY r k - sY r (k - 1) = -(sY l (n - k) - sY l (n - k - 1)) := by
  have a := h k (by omega) hk
  have b := h (k - 1) (by omega) (by omega)
  rw [show n - 1 - k = n - k - 1 by omega] at a
  rw [show n - 1 - (k - 1) = n - k by omega] at b
  omega
theorem rev_str {k : Int} (h1 : 1 ≤ k) (hk : k < n) : strW r k = strW l (n - k) ∧ diaW r k = diaW l (n - k) := by
  obtain ⟨e1, e2⟩ := rev_leg h h1 hk
  unfold strW diaW
  simp only [if_neg (show ¬ k = 0 by omega), if_neg (show ¬ n - k = 0 by omega), e1, e2, ab_neg]
  exact ⟨trivial, trivial⟩
theorem rev_track (ht : trackB n l = true) : trackB n r = true := by
  obtain ⟨hn, hs, hl⟩ := track_iff.1 ht
  refine track_iff.2 ⟨hn, allTo_of fun k h0 hk => ?_, allTo_of fun k h0 hk => ?_⟩
  · have a := h k h0 hk
    have b := spB_iff.1 (allTo_at hs (k := n - 1 - k) (by omega) (by omega))
    refine spB_iff.2 ?_
    rw [a.1, a.2]; exact b
  · by_cases hz : k = 0
    · subst hz; rfl
    · obtain ⟨e1, e2⟩ := rev_leg h (k := k) (by omega) hk
      have b := allTo_at hl (k := n - k) (by omega) (by omega)
      rw [legB_iff (by omega)] at b
      rw [legB_iff hz, e1, e2, wayB_neg]; exact b
theorem rev_sum {f g : Int → Int} (hn : 1 ≤ n) (f0 : f 0 = 0) (g0 : g 0 = 0) (hfg : ∀ k, 1 ≤ k → k < n → f k = g (n - k)) : sumTo f n.toNat = sumTo g n.toNat := by
  have _ := h
  obtain ⟨m, hm⟩ : ∃ m, n.toNat = m + 1 := ⟨n.toNat - 1, by omega⟩
  rw [hm, sumTo_head, sumTo_head, f0, g0, ← sumTo_flip (fun q => g (q + 1)) m]
  congr 1
  refine sumTo_congr m fun k hk => ?_
  rw [hfg _ (by omega) (by omega)]
  congr 1
  omega
theorem rev_len (ht : trackB n l = true) : strF n r = strF n l ∧ diaF n r = diaF n l := by
  have hn := (track_iff.1 ht).1
  exact ⟨rev_sum h (by omega) rfl rfl fun k h1 hk => (rev_str h h1 hk).1, rev_sum h (by omega) rfl rfl fun k h1 hk => (rev_str h h1 hk).2⟩
end
/-! ### A part of a list -/
def Part (a m : Int) (l p : LL) : Prop := ∀ k, 0 ≤ k → k < m → sX p k = sX l (a + k) ∧ sY p k = sY l (a + k)
theorem part_track {a m n : Int} {l p : LL} (h : Part a m l p) (ha : 0 ≤ a) (hm : 2 ≤ m) (hn : a + m ≤ n) (ht : trackB n l = true) : trackB m p = true := by
  obtain ⟨h0, hs, hl⟩ := track_iff.1 ht
  refine track_iff.2 ⟨by omega, allTo_of fun k k0 hk => ?_, allTo_of fun k k0 hk => ?_⟩
  · have b := h k k0 hk
    refine spB_iff.2 ?_
    rw [b.1, b.2]
    exact spB_iff.1 (allTo_at hs (by omega) (by omega))
  · by_cases hz : k = 0
    · subst hz; rfl
    · have b := h k k0 hk
      have c := h (k - 1) (by omega) (by omega)
      have d := allTo_at hl (k := a + k) (by omega) (by omega)
      rw [legB_iff (by omega)] at d
      rw [legB_iff hz, b.1, b.2, c.1, c.2, show a + (k - 1) = a + k - 1 by omega]
      exact d
theorem part_W {a m : Int} {l p : LL} (h : Part a m l p) {k : Int} (ha : 0 ≤ a) (h1 : 1 ≤ k) (hk : k < m) : strW p k = strW l (a + k) ∧ diaW p k = diaW l (a + k) := by
  have b := h k (by omega) hk
  have c := h (k - 1) (by omega) (by omega)
  unfold strW diaW
  simp only [if_neg (show ¬ k = 0 by omega), if_neg (show ¬ a + k = 0 by omega), b.1, b.2, c.1, c.2, show a + (k - 1) = a + k - 1 by omega]
  exact ⟨trivial, trivial⟩
theorem part_sum {a m : Int} {f g : Int → Int} (ha : 0 ≤ a) (hm : 1 ≤ m) (f0 : f 0 = 0) (hfg : ∀ k, 1 ≤ k → k < m → f k = g (a + k)) : sumTo f m.toNat + sumTo g (a + 1).toNat = sumTo g (a + m).toNat := by
  obtain ⟨q, hq⟩ : ∃ q, m.toNat = q + 1 := ⟨m.toNat - 1, by omega⟩
  rw [hq, sumTo_head, f0, show (a + m).toNat = (a + 1).toNat + q by omega, sumTo_add]
  have : sumTo (fun q => f (q + 1)) q = sumTo (fun q => g (((a + 1).toNat : Int) + q)) q := sumTo_congr q fun k hk => by
    rw [hfg _ (by omega) (by omega)]
    congr 1
    omega
  omega
/-! ### Roots -/
theorem mul_sq_le {a b c d : Int} (_ha : 0 ≤ a) (_hb : 0 ≤ b) (hc : 0 ≤ c) (hd : 0 ≤ d) (h1 : a * a ≤ 2 * (c * c)) (h2 : b * b ≤ 2 * (d * d)) : a * b ≤ 2 * (c * d) := by
  rcases Int.lt_or_le (2 * (c * d)) (a * b) with h | h
  · exfalso
    have k1 : 0 ≤ 2 * (c * d) := by have := Int.mul_nonneg hc hd; omega
    have k2 := sq_lt k1 h
    have k3 : (a * b) * (a * b) = (a * a) * (b * b) := by grind
    have k4 : (2 * (c * d)) * (2 * (c * d)) = (2 * (c * c)) * (2 * (d * d)) := by grind
    have k5 : (a * a) * (b * b) ≤ (2 * (c * c)) * (2 * (d * d)) := Int.mul_le_mul h1 h2 (sq_nn b) (by have := sq_nn c; omega)
    omega
  · exact h
theorem mul_sq_lt {a b c d : Int} (ha : 0 ≤ a) (hb : 0 ≤ b) (_hc : 0 ≤ c) (_hd : 0 ≤ d) (h1 : 2 * (c * c) < a * a) (h2 : 2 * (d * d) < b * b) : 2 * (c * d) < a * b := by
  rcases Int.lt_or_le (2 * (c * d)) (a * b) with h | h
  · exact h
  · exfalso
    have k2 := sq_le (Int.mul_nonneg ha hb) h
    have k3 : (a * b) * (a * b) = (a * a) * (b * b) := by grind
    have k4 : (2 * (c * d)) * (2 * (c * d)) = (2 * (c * c)) * (2 * (d * d)) := by grind
    have k5 : (2 * (c * c)) * (2 * (d * d)) ≤ (2 * (c * c)) * (b * b) := Int.mul_le_mul_of_nonneg_left (by omega) (by have := sq_nn c; omega)
    have k6 : (2 * (c * c)) * (b * b) < (a * a) * (b * b) := Int.mul_lt_mul_of_pos_right h1 (by have := sq_nn d; omega)
    omega
theorem root_add {c d : Int} (hc : 0 ≤ c) (hd : 0 ≤ d) : root2 c + root2 d ≤ root2 (c + d) := by
  obtain ⟨a0, -, a2, -⟩ := root2_spec hc
  obtain ⟨b0, -, b2, -⟩ := root2_spec hd
  obtain ⟨e0, -, -, e3⟩ := root2_spec (d := c + d) (by omega)
  rcases Int.lt_or_le (root2 (c + d)) (root2 c + root2 d) with h | h
  · exfalso
    have k := mul_sq_le a0 b0 hc hd a2 b2
    have s := sq_le (a := root2 (c + d) + 1) (b := root2 c + root2 d) (by omega) (by omega)
    have x : (root2 c + root2 d) * (root2 c + root2 d) = root2 c * root2 c + root2 d * root2 d + 2 * (root2 c * root2 d) := by grind
    have y : 2 * ((c + d) * (c + d)) = 2 * (c * c) + 2 * (d * d) + 4 * (c * d) := by grind
    omega
  · exact h
theorem root_up {c d : Int} (hc : 0 < c) (hd : 0 < d) : root2 (c + d) < root2 c + 1 + (root2 d + 1) := by
  obtain ⟨a0, -, -, a3⟩ := root2_spec (d := c) (by omega)
  obtain ⟨b0, -, -, b3⟩ := root2_spec (d := d) (by omega)
  obtain ⟨e0, -, e2, -⟩ := root2_spec (d := c + d) (by omega)
  rcases Int.lt_or_le (root2 (c + d)) (root2 c + 1 + (root2 d + 1)) with h | h
  · exact h
  · exfalso
    have k := mul_sq_lt (a := root2 c + 1) (b := root2 d + 1) (by omega) (by omega) (by omega) (by omega) a3 b3
    have s := sq_le (a := root2 c + 1 + (root2 d + 1)) (b := root2 (c + d)) (by omega) h
    have x : (root2 c + 1 + (root2 d + 1)) * (root2 c + 1 + (root2 d + 1)) = (root2 c + 1) * (root2 c + 1) + (root2 d + 1) * (root2 d + 1) + 2 * ((root2 c + 1) * (root2 d + 1)) := by grind
    have y : 2 * ((c + d) * (c + d)) = 2 * (c * c) + 2 * (d * d) + 4 * (c * d) := by grind
    omega
theorem root_ge {d : Int} (hd : 0 ≤ d) : d ≤ root2 d := by
  obtain ⟨a0, -, -, a3⟩ := root2_spec hd
  rcases Int.lt_or_le (root2 d) d with h | h
  · have := sq_le (a := root2 d + 1) (b := d) (by omega) (by omega)
    have := sq_nn d
    omega
  · exact h
theorem root_zero : root2 0 = 0 := rfl
/-! ### What is said of lengths -/
theorem far_le {n : Int} {l : LL} (hs : allTo n (spB l) = true) (hl : allTo n (legB l) = true) : ∀ k : Nat, (k : Int) < n → ab (sX l k - sX l 0) ≤ sumTo (strW l) (k + 1) + sumTo (diaW l) (k + 1) ∧ ab (sY l k - sY l 0) ≤ sumTo (strW l) (k + 1) + sumTo (diaW l) (k + 1)
  | 0, _ => by
    have a : ab 0 = 0 := rfl
    simp [sumTo, strW, diaW, a]
  | k + 1, hk => by
    have ih := far_le hs hl k (by omega)
    have p1 := ab_or (sX l k - sX l 0)
    have p2 := ab_or (sY l k - sY l 0)
    have p3 := ab_or (sX l ((k + 1 : Nat) : Int) - sX l 0)
    have p4 := ab_or (sY l ((k + 1 : Nat) : Int) - sY l 0)
    have p5 := ab_or (sX l ((k + 1 : Nat) : Int) - sX l k)
    have p6 := ab_or (sY l ((k + 1 : Nat) : Int) - sY l k)
    have e1 : sumTo (strW l) (k + 1 + 1) = sumTo (strW l) (k + 1) + strW l ((k + 1 : Nat) : Int) := rfl
    have e2 : sumTo (diaW l) (k + 1 + 1) = sumTo (diaW l) (k + 1) + diaW l ((k + 1 : Nat) : Int) := rfl
    have q1 : strW l ((k + 1 : Nat) : Int) = if ab (sX l ((k + 1 : Nat) : Int) - sX l k) = ab (sY l ((k + 1 : Nat) : Int) - sY l k) then 0 else ab (sX l ((k + 1 : Nat) : Int) - sX l k) + ab (sY l ((k + 1 : Nat) : Int) - sY l k) := by
      unfold strW; rw [if_neg (by omega), show ((k + 1 : Nat) : Int) - 1 = k by omega]
    have q2 : diaW l ((k + 1 : Nat) : Int) = if ab (sX l ((k + 1 : Nat) : Int) - sX l k) = ab (sY l ((k + 1 : Nat) : Int) - sY l k) then ab (sX l ((k + 1 : Nat) : Int) - sX l k) else 0 := by
      unfold diaW; rw [if_neg (by omega), show ((k + 1 : Nat) : Int) - 1 = k by omega]
    rw [e1, e2]
    by_cases hq : ab (sX l ((k + 1 : Nat) : Int) - sX l k) = ab (sY l ((k + 1 : Nat) : Int) - sY l k)
    · rw [if_pos hq] at q1 q2
      omega
    · rw [if_neg hq] at q1 q2
      omega
theorem err_0 {n : Int} {l : LL} (h : trackB n l = true) : errT n l = 0 := by unfold errT; rw [if_pos h]
theorem low_is {n : Int} {l : LL} (h : trackB n l = true) : lowF n l = strF n l + root2 (diaF n l) := by unfold lowF; rw [if_pos h]
theorem high_is {n : Int} {l : LL} (h : trackB n l = true) : highF n l = (if 0 < diaF n l then strF n l + root2 (diaF n l) + 1 else strF n l + root2 (diaF n l)) := by unfold highF; rw [if_pos h]
theorem dia_nn {n : Int} {l : LL} (h : trackB n l = true) : 0 ≤ diaF n l ∧ 0 ≤ strF n l := by
  have t := track_iff.1 h
  have := strF_rng t.2.1 n.toNat (by omega)
  unfold diaF strF
  omega
theorem long_one {n : Int} {l : LL} (h : trackB n l = true) : lowF n l ≤ highF n l ∧ highF n l ≤ lowF n l + 1 ∧ lowF n l ≤ strF n l + 2 * diaF n l ∧ ab (sX l (n - 1) - sX l 0) ≤ highF n l ∧ ab (sY l (n - 1) - sY l 0) ≤ highF n l := by
  have t := track_iff.1 h
  have d := dia_nn h
  have r := root2_spec d.1
  have g := root_ge d.1
  have f := far_le t.2.1 t.2.2 (n.toNat - 1) (by omega)
  rw [show n.toNat - 1 + 1 = n.toNat by omega, show ((n.toNat - 1 : Nat) : Int) = n - 1 by omega] at f
  rw [low_is h, high_is h]
  unfold strF diaF at *
  split <;> omega
theorem long_rev {n : Int} {l r : LL} (h : trackB n l = true) (hr : Rev n l r) : errT n r = 0 ∧ lowF n r = lowF n l ∧ highF n r = highF n l := by
  have t := rev_track hr h
  obtain ⟨e1, e2⟩ := rev_len hr h
  refine ⟨err_0 t, ?_, ?_⟩
  · rw [low_is t, low_is h, e1, e2]
  · rw [high_is t, high_is h, e1, e2]
theorem long_two {n k : Int} {l p q : LL} (h : trackB n l = true) (h0 : 1 ≤ k) (hk : k < n - 1) (hp : Part 0 (k + 1) l p) (hq : Part k (n - k) l q) :
    errT (k + 1) p = 0 ∧ errT (n - k) q = 0 ∧ lowF (k + 1) p + lowF (n - k) q ≤ lowF n l ∧ highF n l ≤ highF (k + 1) p + highF (n - k) q ∧ highF (k + 1) p + highF (n - k) q - lowF (k + 1) p - lowF (n - k) q ≤ 2 := by
  have t1 := part_track hp (by omega) (by omega) (by omega) h
  have t2 := part_track hq (by omega) (by omega) (by omega) h
  have d := dia_nn h
  have d1 := dia_nn t1
  have d2 := dia_nn t2
  have s1 := part_sum (a := 0) (m := k + 1) (f := strW p) (g := strW l) (by omega) (by omega) rfl fun j j1 j2 => (part_W hp (by omega) j1 j2).1
  have s2 := part_sum (a := k) (m := n - k) (f := strW q) (g := strW l) (by omega) (by omega) rfl fun j j1 j2 => (part_W hq (by omega) j1 j2).1
  have u1 := part_sum (a := 0) (m := k + 1) (f := diaW p) (g := diaW l) (by omega) (by omega) rfl fun j j1 j2 => (part_W hp (by omega) j1 j2).2
  have u2 := part_sum (a := k) (m := n - k) (f := diaW q) (g := diaW l) (by omega) (by omega) rfl fun j j1 j2 => (part_W hq (by omega) j1 j2).2
  have z1 : sumTo (strW l) ((0 : Int) + 1).toNat = 0 := rfl
  have z2 : sumTo (diaW l) ((0 : Int) + 1).toNat = 0 := rfl
  rw [z1, show (0 : Int) + (k + 1) = k + 1 by omega] at s1
  rw [z2, show (0 : Int) + (k + 1) = k + 1 by omega] at u1
  rw [show k + (n - k) = n by omega] at s2 u2
  have es : strF n l = strF (k + 1) p + strF (n - k) q := by unfold strF; omega
  have ed : diaF n l = diaF (k + 1) p + diaF (n - k) q := by unfold diaF; omega
  refine ⟨err_0 t1, err_0 t2, ?_⟩
  rw [low_is h, low_is t1, low_is t2, high_is h, high_is t1, high_is t2, es, ed]
  have ra := root_add d1.1 d2.1
  generalize diaF (k + 1) p = c at *
  generalize diaF (n - k) q = e at *
  rcases Int.lt_or_le 0 c with hc | hc
  · rcases Int.lt_or_le 0 e with he | he
    · have ru := root_up hc he
      rw [if_pos (by omega), if_pos hc, if_pos he]
      omega
    · obtain rfl : e = 0 := by omega
      simp only [Int.add_zero, root_zero, if_pos hc, if_neg (Int.lt_irrefl 0)]
      omega
  · obtain rfl : c = 0 := by omega
    simp only [Int.zero_add, root_zero, if_neg (Int.lt_irrefl 0)]
    split <;> omega
end Go.Proofs.Ythihccmombcihaa.Tk
end
section
namespace Go.Proofs.Ythihccmombcihaa.Tk
open Go Go.Proofs.Ythihccmombcihaa.Sx Go.RowKit

theorem sX_0 (l : LL) : nI l 0 = sX l 0 := rfl
theorem sY_0 (l : LL) : nI l 1 = sY l 0 := rfl
theorem nI_set (l : LL) (a b : Int) (v : Int × ByteArray) (ha : 0 ≤ a) (hb : 0 ≤ b) (hl : a < (l.length : Int)) : nI (l.set a.toNat v) b = if a = b then v.1 else nI l b := by
  unfold nI
  rw [List.getElem?_set]
  by_cases h : a = b
  · subst h
    rw [if_pos rfl, if_pos rfl, if_pos (by omega)]
    rfl
  · rw [if_neg (by omega), if_neg h]
theorem nI_left {l r : LL} {i : Int} (h0 : 0 ≤ i) (h : i < (l.length : Int)) : nI (l ++ r) i = nI l i := by
  unfold nI
  rw [List.getElem?_append_left (by omega)]
theorem nI_cut {l : LL} {x y i : Int} (hx : 0 ≤ x) (hi : 0 ≤ i) (h : x + i < y) : nI ((l.take y.toNat).drop x.toNat) i = nI l (x + i) := by
  unfold nI
  rw [List.getElem?_drop, List.getElem?_take, if_pos (by omega), show x.toNat + i.toNat = (x + i).toNat by omega]
theorem part_of {l : LL} {x y a m : Int} (ha : 0 ≤ a) (hx : x = a * 2) (hy : y = (a + m) * 2) : Part a m l ((l.take y.toNat).drop x.toNat) := by
  intro k h0 hk
  unfold sX sY
  rw [nI_cut (by omega) (by omega) (by omega), nI_cut (by omega) (by omega) (by omega), hx]
  exact ⟨by congr 1; omega, by congr 1; omega⟩
section
variable {i j n : Int} {L R : LL}
def RevP (i j n : Int) (L R : LL) : Prop := ∀ k, 0 ≤ k → k < n → if k < i ∨ j < k then sX R k = sX L (n - 1 - k) ∧ sY R k = sY L (n - 1 - k) else sX R k = sX L k ∧ sY R k = sY L k
theorem rev_iff (hn : 0 ≤ n) (hl : (L.length : Int) = n * 2) : revB i j n (L ++ R) = true ↔ RevP i j n L R := by
  have hd : (L ++ R).drop (2 * n.toNat) = R := by
    rw [show 2 * n.toNat = L.length by omega]
    exact List.drop_left
  have hx : ∀ k, 0 ≤ k → k < n → sX (L ++ R) k = sX L k ∧ sY (L ++ R) k = sY L k := fun k h0 hk => by
    unfold sX sY
    exact ⟨nI_left (by omega) (by omega), nI_left (by omega) (by omega)⟩
  unfold revB
  rw [hd]
  refine ⟨fun h k h0 hk => ?_, fun h => allTo_of fun k h0 hk => ?_⟩
  · have a := of_decide_eq_true (allTo_at h h0 hk)
    rw [(hx k h0 hk).1, (hx k h0 hk).2, (hx (n - 1 - k) (by omega) (by omega)).1, (hx (n - 1 - k) (by omega) (by omega)).2] at a
    exact a
  · rw [(hx k h0 hk).1, (hx k h0 hk).2, (hx (n - 1 - k) (by omega) (by omega)).1, (hx (n - 1 - k) (by omega) (by omega)).2]
    exact decide_eq_true (h k h0 hk)
theorem rev_start : RevP 0 (n - 1) n L L := fun k h0 hk => by
  rw [if_neg (by omega)]
  exact ⟨rfl, rfl⟩
theorem rev_done (h : RevP i j n L R) (hij : j ≤ i) (hs : i + j = n - 1) : Rev n L R := fun k h0 hk => by
  have a := h k h0 hk
  by_cases c : k < i ∨ j < k
  · rw [if_pos c] at a; exact a
  · rw [if_neg c] at a
    have : n - 1 - k = k := by omega
    rw [this]; exact a
theorem swap_at {s1 s2 s3 s4 : ByteArray} (h0 : 0 ≤ i) (hij : i < j) (hj : j < n) (hl : (R.length : Int) = n * 2) {k : Int} (hk : 0 ≤ k) :
    sX ((((R.set (i * 2).toNat (sX R j, s1)).set (i * 2 + 1).toNat (sY R j, s2)).set (j * 2).toNat (sX R i, s3)).set (j * 2 + 1).toNat (sY R i, s4)) k = (if k = j then sX R i else if k = i then sX R j else sX R k) ∧
    sY ((((R.set (i * 2).toNat (sX R j, s1)).set (i * 2 + 1).toNat (sY R j, s2)).set (j * 2).toNat (sX R i, s3)).set (j * 2 + 1).toNat (sY R i, s4)) k = (if k = j then sY R i else if k = i then sY R j else sY R k) := by
  have key : ∀ b : Int, 0 ≤ b → nI ((((R.set (i * 2).toNat (sX R j, s1)).set (i * 2 + 1).toNat (sY R j, s2)).set (j * 2).toNat (sX R i, s3)).set (j * 2 + 1).toNat (sY R i, s4)) b = if j * 2 + 1 = b then sY R i else if j * 2 = b then sX R i else if i * 2 + 1 = b then sY R j else if i * 2 = b then sX R j else nI R b := by
    intro b hb
    rw [nI_set _ _ _ _ (by omega) hb (by simp only [List.length_set]; omega), nI_set _ _ _ _ (by omega) hb (by simp only [List.length_set]; omega), nI_set _ _ _ _ (by omega) hb (by simp only [List.length_set]; omega), nI_set _ _ _ _ (by omega) hb (by omega)]
  constructor
  · show nI _ (k * 2) = _
    rw [key _ (by omega), if_neg (by omega)]
    by_cases a : k = j
    · rw [if_pos (by omega), if_pos a]
    · rw [if_neg (by omega), if_neg (by omega), if_neg a]
      by_cases b : k = i
      · rw [if_pos (by omega), if_pos b]
      · rw [if_neg (by omega), if_neg b]; rfl
  · show nI _ (k * 2 + 1) = _
    rw [key _ (by omega)]
    by_cases a : k = j
    · rw [if_pos (by omega), if_pos a]
    · rw [if_neg (by omega), if_neg (by omega), if_neg a]
      by_cases b : k = i
      · rw [if_pos (by omega), if_pos b]
      · rw [if_neg (by omega), if_neg (by omega), if_neg b]; rfl
theorem rev_swap {s1 s2 s3 s4 : ByteArray} (h : RevP i j n L R) (h0 : 0 ≤ i) (hij : i < j) (hs : i + j = n - 1) (hl : (R.length : Int) = n * 2) :
    RevP (i + 1) (j - 1) n L ((((R.set (i * 2).toNat (sX R j, s1)).set (i * 2 + 1).toNat (sY R j, s2)).set (j * 2).toNat (sX R i, s3)).set (j * 2 + 1).toNat (sY R i, s4)) := by
  intro k k0 hk
  obtain ⟨e1, e2⟩ := swap_at (n := n) (s1 := s1) (s2 := s2) (s3 := s3) (s4 := s4) h0 hij (by omega) hl k0
  rw [e1, e2]
  have a := h k k0 hk
  by_cases c : k = j
  · have b := h i h0 (by omega)
    rw [if_neg (by omega)] at b
    rw [if_pos (by omega), if_pos c, if_pos c, show n - 1 - k = i by omega]
    exact b
  · by_cases d : k = i
    · have b := h j (by omega) (by omega)
      rw [if_neg (by omega)] at b
      rw [if_pos (by omega), if_neg c, if_neg c, if_pos d, if_pos d, show n - 1 - k = j by omega]
      exact b
    · rw [if_neg c, if_neg c, if_neg d, if_neg d]
      by_cases f : k < i ∨ j < k
      · rw [if_pos f] at a; rw [if_pos (by omega)]; exact a
      · rw [if_neg f] at a; rw [if_neg (by omega)]; exact a
end
theorem ab_sub (x y : Int) : ab (x - y) = ab (y - x) := by rw [← ab_neg, Int.neg_sub]
theorem sum_step {l : LL} {i s : Int} (hi : 1 ≤ i) (h : s = strF i l + 2 * diaF i l) : s + (ab (sX l i - sX l (i - 1)) + ab (sY l i - sY l (i - 1))) = strF (i + 1) l + 2 * diaF (i + 1) l := by
  have q1 : strW l i = if ab (sX l i - sX l (i - 1)) = ab (sY l i - sY l (i - 1)) then 0 else ab (sX l i - sX l (i - 1)) + ab (sY l i - sY l (i - 1)) := by
    unfold strW; rw [if_neg (by omega)]
  have q2 : diaW l i = if ab (sX l i - sX l (i - 1)) = ab (sY l i - sY l (i - 1)) then ab (sX l i - sX l (i - 1)) else 0 := by
    unfold diaW; rw [if_neg (by omega)]
  unfold strF diaF at *
  rw [show (i + 1).toNat = i.toNat + 1 by omega]
  simp only [sumTo]
  rw [show ((i.toNat : Nat) : Int) = i by omega, q1, q2]
  split <;> omega
theorem sum_rng {l : LL} {n i : Int} (hs : allTo n (spB l) = true) (hi : 1 ≤ i) (hk : i < n) : 0 ≤ ab (sX l i - sX l (i - 1)) ∧ ab (sX l i - sX l (i - 1)) ≤ 33554432 ∧ 0 ≤ ab (sY l i - sY l (i - 1)) ∧ ab (sY l i - sY l (i - 1)) ≤ 33554432 := by
  have a := spB_iff.1 (allTo_at hs (k := i) (by omega) hk)
  have b := spB_iff.1 (allTo_at hs (k := i - 1) (by omega) (by omega))
  have := ab_or (sX l i - sX l (i - 1))
  have := ab_or (sY l i - sY l (i - 1))
  omega
end Go.Proofs.Ythihccmombcihaa.Tk
end
