/- Layer 8 (tracks): what all share. Layer 8 (tracks): what the document says, as plain functions; the table of names. Layer 8 (tracks): which tracks are valid. -/
import Derived.Test.YthihccmombcihaaProg
import Derived.Test.YthihccmombcihaaPa9
section
namespace Go.Proofs.Ythihccmombcihaa.Tk
open Go Go.Proofs.Ythihccmombcihaa.Sx Go.RowKit
variable {TT : Tb}
abbrev DD : Dec := decideN (decideL2 decideB)
theorem dd_ok : DecOk TT DD := decideN_ok (decideL2_ok decB_ok)
def K : LK := .sc (.i .i64)
def btw (lo : Int) (k : Nat) (hi : Int) : List E := [.le (.c lo) (.v k), .le (.v k) (.c hi)]
def els (l : List Nat) : E := (l.map E.v).foldr .cons .nil
end Go.Proofs.Ythihccmombcihaa.Tk
end
section
namespace Go.Proofs.Ythihccmombcihaa.Tk
open Go Go.Proofs.Ythihccmombcihaa.Sx Go.RowKit

def sX (l : LL) (k : Int) : Int := nI l (k * 2)
def sY (l : LL) (k : Int) : Int := nI l (k * 2 + 1)
theorem sX_f (l : LL) (k : Int) : nI l (k * 2) = sX l k := rfl
theorem sY_f (l : LL) (k : Int) : nI l (k * 2 + 1) = sY l k := rfl
def spotB (x y : Int) : Bool := decide (-16777216 ≤ x ∧ x ≤ 16777216) && decide (-16777216 ≤ y ∧ y ≤ 16777216)
def spB (l : LL) (k : Int) : Bool := spotB (sX l k) (sY l k)
/-- a leg that ends at a spot: straight or diagonal. -/
def wayB (u v : Int) : Bool := decide ((u = 0 ∧ v ≠ 0) ∨ (u ≠ 0 ∧ v = 0) ∨ (u ≠ 0 ∧ (u = v ∨ u = -v)))
def legB (l : LL) (k : Int) : Bool := decide (k = 0) || wayB (sX l k - sX l (k - 1)) (sY l k - sY l (k - 1))
def trackB (n : Int) (l : LL) : Bool := decide (2 ≤ n ∧ n ≤ 1024) && allTo n (spB l) && allTo n (legB l)
def sg (x : Int) : Int := if x < 0 then -1 else if 0 < x then 1 else 0
/-- is a spot not farther from a leg than a width? -/
def reachB (ax ay bx by' x y w : Int) : Bool :=
  let p := sg (bx - ax); let q := sg (by' - ay)
  if (x - ax) * p + (y - ay) * q < 0 then decide ((x - ax) * (x - ax) + (y - ay) * (y - ay) ≤ w * w)
  else if (bx - x) * p + (by' - y) * q < 0 then decide ((bx - x) * (bx - x) + (by' - y) * (by' - y) ≤ w * w)
  else decide (((x - ax) * q - (y - ay) * p) * ((x - ax) * q - (y - ay) * p) ≤ w * w * (p * p + q * q))
def farB (x y w : Int) (l : LL) (k : Int) : Bool := decide (k = 0) || !reachB (sX l (k - 1)) (sY l (k - 1)) (sX l k) (sY l k) x y w
def nearB (x y w n : Int) (l : LL) : Bool := !allTo n (farB x y w l)
/-! lengths -/
def ab (x : Int) : Int := if x < 0 then -x else x
def strW (l : LL) (k : Int) : Int := if k = 0 then 0 else if ab (sX l k - sX l (k - 1)) = ab (sY l k - sY l (k - 1)) then 0 else ab (sX l k - sX l (k - 1)) + ab (sY l k - sY l (k - 1))
def diaW (l : LL) (k : Int) : Int := if k = 0 then 0 else if ab (sX l k - sX l (k - 1)) = ab (sY l k - sY l (k - 1)) then ab (sX l k - sX l (k - 1)) else 0
def sumTo (f : Int → Int) : Nat → Int
  | 0 => 0
  | k + 1 => sumTo f k + f k
def strF (n : Int) (l : LL) : Int := sumTo (strW l) n.toNat
def diaF (n : Int) (l : LL) : Int := sumTo (diaW l) n.toNat
/-- the greatest number below so many whose square is at most twice the square of another one. -/
def rootN (d : Int) : Nat → Int
  | 0 => 0
  | k + 1 => if ((k + 1 : Nat) : Int) * ((k + 1 : Nat) : Int) ≤ 2 * (d * d) then ((k + 1 : Nat) : Int) else rootN d k
def root2 (d : Int) : Int := rootN d (2 * d).toNat
theorem sq_nn (d : Int) : 0 ≤ d * d := by
  rcases Int.le_total 0 d with h | h
  · exact Int.mul_nonneg h h
  · exact Int.mul_nonneg_of_nonpos_of_nonpos h h
theorem rootN_spec {d : Int} : ∀ k : Nat, 0 ≤ rootN d k ∧ rootN d k ≤ k ∧ rootN d k * rootN d k ≤ 2 * (d * d) ∧ ∀ m : Int, rootN d k < m → m ≤ k → 2 * (d * d) < m * m
  | 0 => ⟨Int.le_refl _, Int.le_refl _, by simp only [rootN]; have := sq_nn d; omega, fun m h1 h2 => by simp only [rootN] at h1; simp at h2; omega⟩
  | k + 1 => by
    unfold rootN
    split
    · rename_i h
      exact ⟨by omega, Int.le_refl _, h, fun m h1 h2 => by omega⟩
    · rename_i h
      obtain ⟨h0, h1, h2, h3⟩ := rootN_spec (d := d) k
      refine ⟨h0, by omega, h2, fun m k1 k2 => ?_⟩
      rcases Int.lt_or_le m ((k + 1 : Nat) : Int) with hh | hh
      · exact h3 m k1 (by omega)
      · obtain rfl : m = ((k + 1 : Nat) : Int) := by omega
        omega
theorem sq_lt {a b : Int} (ha : 0 ≤ a) (h : a < b) : a * a < b * b := by
  have h1 : a * a ≤ a * b := Int.mul_le_mul_of_nonneg_left (by omega) ha
  have h2 : a * b < b * b := Int.mul_lt_mul_of_pos_right h (by omega)
  omega
theorem sq_le {a b : Int} (ha : 0 ≤ a) (h : a ≤ b) : a * a ≤ b * b := Int.mul_le_mul h h ha (by omega)
theorem root2_spec {d : Int} (hd : 0 ≤ d) : 0 ≤ root2 d ∧ root2 d ≤ 2 * d ∧ root2 d * root2 d ≤ 2 * (d * d) ∧ 2 * (d * d) < (root2 d + 1) * (root2 d + 1) := by
  obtain ⟨h0, h1, h2, h3⟩ := rootN_spec (d := d) (2 * d).toNat
  unfold root2
  refine ⟨h0, by omega, h2, ?_⟩
  rcases Int.lt_or_le (rootN d (2 * d).toNat) (2 * d) with hh | hh
  · exact h3 _ (by omega) (by omega)
  · have e : rootN d (2 * d).toNat = 2 * d := by omega
    rw [e]
    have h4 := sq_lt (a := 2 * d) (b := 2 * d + 1) (by omega) (by omega)
    have h5 : (2 * d) * (2 * d) = 4 * (d * d) := by grind
    have h6 := sq_nn d
    omega
theorem root2_is {d r : Int} (hd : 0 ≤ d) (h0 : 0 ≤ r) (h1 : r * r ≤ 2 * (d * d)) (h2 : 2 * (d * d) < (r + 1) * (r + 1)) : r = root2 d := by
  obtain ⟨k0, -, k1, k2⟩ := root2_spec hd
  rcases Int.lt_trichotomy r (root2 d) with h | h | h
  · have := sq_le (a := r + 1) (b := root2 d) (by omega) (by omega); omega
  · exact h
  · have := sq_le (a := root2 d + 1) (b := r) (by omega) (by omega); omega
def lowF (n : Int) (l : LL) : Int := if trackB n l = true then strF n l + root2 (diaF n l) else 0
def highF (n : Int) (l : LL) : Int := if trackB n l = true then (if 0 < diaF n l then strF n l + root2 (diaF n l) + 1 else strF n l + root2 (diaF n l)) else 0
def errT (n : Int) (l : LL) : Int := if trackB n l = true then 0 else 2
def parY (ly hy sp : Int) (k : Nat) : Int := min (ly + sp.tdiv 2 + k * sp) hy
def parX (lx hx : Int) (k : Nat) : Int := if k % 2 = 0 then lx else hx
def pt (al : Bool) (x y : Int) : LL := if al then [(y, ⟨#[]⟩), (x, ⟨#[]⟩)] else [(x, ⟨#[]⟩), (y, ⟨#[]⟩)]
/-- the spots of the first lines. -/
def parL (al : Bool) (lx ly hx hy sp : Int) : Nat → LL
  | 0 => []
  | k + 1 => parL al lx ly hx hy sp k ++ (pt al (parX lx hx k) (parY ly hy sp k) ++ pt al (parX lx hx (k + 1)) (parY ly hy sp k))
/-- how far lines are laid: how many, where the next one begins and ends, the spots (a box as it is given). -/
def parI (al k fr to' x0 y0 x1 y1 sp : Int) (l : LL) : Bool :=
  if al = 1 then decide (l = parL true y0 x0 y1 x1 sp k.toNat ∧ fr = parX y0 y1 k.toNat ∧ to' = parX y0 y1 (k.toNat + 1))
  else decide (l = parL false x0 y0 x1 y1 sp k.toNat ∧ fr = parX x0 x1 k.toNat ∧ to' = parX x0 x1 (k.toNat + 1))
def pow2B (s : Int) : Bool := decide (s = 0) || (List.range 38).any fun k => decide (s = 2 ^ k)
def stepB (s low d : Int) : Bool := pow2B s && decide (low * low ≤ 2 * (d * d)) && decide (2 * (d * d) < (low + max (2 * s) 1) * (low + max (2 * s) 1))
/-- how far a list of spots has been turned round: up to one spot, and down to another one (two lists, one behind the other). -/
def revB (i j n : Int) (l : LL) : Bool := allTo n fun k => decide (if k < i ∨ j < k then sX (l.drop (2 * n.toNat)) k = sX l (n - 1 - k) ∧ sY (l.drop (2 * n.toNat)) k = sY l (n - 1 - k) else sX (l.drop (2 * n.toNat)) k = sX l k ∧ sY (l.drop (2 * n.toNat)) k = sY l k)
def gF : Nat → LL → Int
  | 1, l => lowF (nI l 0) (l.drop 1)
  | 2, l => highF (nI l 0) (l.drop 1)
  | 3, l => errT (nI l 0) (l.drop 1)
  | 4, l => root2 (nI l 0)
  | 5, l => strF (nI l 0) (l.drop 1)
  | 6, l => diaF (nI l 0) (l.drop 1)
  | _, _ => 0
def hF : Nat → LL → Bool
  | 1, l => allTo (nI l 0) (spB (l.drop 1))
  | 2, l => allTo (nI l 0) (legB (l.drop 1))
  | 3, l => trackB (nI l 0) (l.drop 1)
  | 4, l => allTo (nI l 0) (farB (nI l 1) (nI l 2) (nI l 3) (l.drop 4))
  | 5, l => reachB (nI l 0) (nI l 1) (nI l 2) (nI l 3) (nI l 4) (nI l 5) (nI l 6)
  | 6, l => parI (nI l 0) (nI l 1) (nI l 2) (nI l 3) (nI l 4) (nI l 5) (nI l 6) (nI l 7) (nI l 8) (l.drop 9)
  | 7, l => stepB (nI l 0) (nI l 1) (nI l 2)
  | 8, l => revB (nI l 0) (nI l 1) (nI l 2) (l.drop 3)
  | _, _ => false
def UTab (g : Nat → LL → Int) (h : Nat → LL → Bool) (_k : Nat → LL → ByteArray) (_m : Nat → LL → LL) : Prop := g = gF ∧ h = hF
structure Fit (TT : Tb) : Prop where
  tab : ∀ {g h k m}, TT.tab g h k m → UTab g h k m
  J : ∀ w, TT.J w
def UT : Tb := { tab := UTab }
theorem Fit.open {TT : Tb} (u : Fit TT) : Fit TT.open := ⟨u.tab, u.J⟩
theorem fit_UT : Fit UT := ⟨fun h => h, fun _ => trivial⟩
theorem fit_open : Fit UT.open := fit_UT.open
/-! terms -/
def rowK : AK := .one (.row [.i .i64, .i .i64])
def spotK : AK := .ag [K, K]
def nF (k : Nat) : List E := [.le (.c 0) (.v k), .le (.v k) (.c 9223372036854775807)]
def hE (h : Nat) (e : E) (k : Nat) : E := .happ h (.cons e (.lv k))
def gE (g : Nat) (k : Nat) : E := .app g (.cons (.v k) (.lv k))
def xE (k : Nat) (i : E) : E := .nthI (.lv k) (.mul i (.c 2))
def yE (k : Nat) (i : E) : E := .nthI (.lv k) (.add (.mul i (.c 2)) (.c 1))
def trackE (k : Nat) : E := hE 3 (.v k) k
def rngE (k : Nat) : E := .allr (-16777216) 16777216 (.lv k)
def trackFs (k : Nat) : List E := [trackE k, .le (.c 2) (.v k), .le (.v k) (.c 1024), rngE k]
def trackCs : List (V × List E) := [(.b .tt, trackFs 0), (.b .ff, [.not (trackE 0)])]
def spotFs (k : Nat) : List E := btw (-16777216) k 16777216 ++ btw (-16777216) (k + 1) 16777216
def spotL : LoopSpec := { key := 2, locs := [.t 8 (.i .i64)], facts := fun n => [.le (.c 0) (.v n), .le (.v n) (.v 0), .le (.v n) (.c 1024), hE 1 (.v n) 0], meas := fun n => .sub (.v 0) (.v n) }
def legL : LoopSpec := { key := 1, locs := [.t 3 (.i .i64)], facts := fun n => [.le (.c 1) (.v n), .le (.v n) (.v 0), .le (.v n) (.c 1024), hE 2 (.v n) 0], meas := fun n => .sub (.v 0) (.v n) }
def trackRL : LoopSpec := { key := 4, locs := [.t 3 (.i .i64)], facts := fun n => [.le (.c 0) (.v n), .le (.v n) (.v 0), .le (.v n) (.c 1024), hE 1 (.v n) 0, hE 2 (.v n) 0], meas := fun n => .sub (.v 0) (.v n) }
section
variable {ρ : Env}
theorem h_1 (hh : ρ.h = hF) (n l : E) : (E.happ 1 (.cons n l)).B ρ = allTo (n.I ρ) (spB (l.L ρ)) := by rw [B_happ, hh]; rfl
theorem h_2 (hh : ρ.h = hF) (n l : E) : (E.happ 2 (.cons n l)).B ρ = allTo (n.I ρ) (legB (l.L ρ)) := by rw [B_happ, hh]; rfl
theorem h_3 (hh : ρ.h = hF) (n l : E) : (E.happ 3 (.cons n l)).B ρ = trackB (n.I ρ) (l.L ρ) := by rw [B_happ, hh]; rfl
theorem h_4 (hh : ρ.h = hF) (n x y w l : E) : (E.happ 4 (.cons n (.cons x (.cons y (.cons w l))))).B ρ = allTo (n.I ρ) (farB (x.I ρ) (y.I ρ) (w.I ρ) (l.L ρ)) := by rw [B_happ, hh]; rfl
theorem h_5 (hh : ρ.h = hF) (a b c d x y w : E) : (E.happ 5 (.cons a (.cons b (.cons c (.cons d (.cons x (.cons y (.cons w .nil)))))))).B ρ = reachB (a.I ρ) (b.I ρ) (c.I ρ) (d.I ρ) (x.I ρ) (y.I ρ) (w.I ρ) := by rw [B_happ, hh]; rfl
theorem h_6 (hh : ρ.h = hF) (al k fr to' x0 y0 x1 y1 sp l : E) : (E.happ 6 (.cons al (.cons k (.cons fr (.cons to' (.cons x0 (.cons y0 (.cons x1 (.cons y1 (.cons sp l)))))))))).B ρ = parI (al.I ρ) (k.I ρ) (fr.I ρ) (to'.I ρ) (x0.I ρ) (y0.I ρ) (x1.I ρ) (y1.I ρ) (sp.I ρ) (l.L ρ) := by rw [B_happ, hh]; rfl
theorem h_7 (hh : ρ.h = hF) (s low d : E) : (E.happ 7 (.cons s (.cons low (.cons d .nil)))).B ρ = stepB (s.I ρ) (low.I ρ) (d.I ρ) := by rw [B_happ, hh]; rfl
theorem h_8 (hh : ρ.h = hF) (i j n l : E) : (E.happ 8 (.cons i (.cons j (.cons n l)))).B ρ = revB (i.I ρ) (j.I ρ) (n.I ρ) (l.L ρ) := by rw [B_happ, hh]; rfl
theorem g_1 (hg : ρ.g = gF) (n l : E) : (E.app 1 (.cons n l)).I ρ = lowF (n.I ρ) (l.L ρ) := by rw [I_app, hg]; rfl
theorem g_2 (hg : ρ.g = gF) (n l : E) : (E.app 2 (.cons n l)).I ρ = highF (n.I ρ) (l.L ρ) := by rw [I_app, hg]; rfl
theorem g_3 (hg : ρ.g = gF) (n l : E) : (E.app 3 (.cons n l)).I ρ = errT (n.I ρ) (l.L ρ) := by rw [I_app, hg]; rfl
theorem g_4 (hg : ρ.g = gF) (n l : E) : (E.app 4 (.cons n l)).I ρ = root2 (n.I ρ) := by rw [I_app, hg]; rfl
theorem g_5 (hg : ρ.g = gF) (n l : E) : (E.app 5 (.cons n l)).I ρ = strF (n.I ρ) (l.L ρ) := by rw [I_app, hg]; rfl
theorem g_6 (hg : ρ.g = gF) (n l : E) : (E.app 6 (.cons n l)).I ρ = diaF (n.I ρ) (l.L ρ) := by rw [I_app, hg]; rfl
end
/-! what a track's elements are -/
theorem track_iff {n : Int} {l : LL} : trackB n l = true ↔ (2 ≤ n ∧ n ≤ 1024) ∧ allTo n (spB l) = true ∧ allTo n (legB l) = true := by simp [trackB, and_assoc]
theorem spB_iff {l : LL} {k : Int} : spB l k = true ↔ (-16777216 ≤ sX l k ∧ sX l k ≤ 16777216) ∧ (-16777216 ≤ sY l k ∧ sY l k ≤ 16777216) := by simp [spB, spotB]
theorem wayB_iff {u v : Int} : wayB u v = true ↔ ((u = 0 ∧ v ≠ 0) ∨ (u ≠ 0 ∧ v = 0) ∨ (u ≠ 0 ∧ (u = v ∨ u = -v))) := by simp [wayB]
theorem legB_iff {l : LL} {k : Int} (hk : k ≠ 0) : legB l k = wayB (sX l k - sX l (k - 1)) (sY l k - sY l (k - 1)) := by simp [legB, hk]
theorem rng_of {l : LL} {n : Int} (_hn : 0 ≤ n) (hl : l.length = n.toNat * 2) (h : allTo n (spB l) = true) : (l.all fun p => decide (-16777216 ≤ p.1 ∧ p.1 ≤ 16777216)) = true := by
  rw [List.all_eq_true]
  intro p hp
  obtain ⟨i, hi, rfl⟩ := List.getElem_of_mem hp
  have h1 := spB_iff.1 (allTo_at h (k := ((i / 2 : Nat) : Int)) (Int.natCast_nonneg _) (by omega))
  have e : nI l (i : Int) = l[i].1 := by unfold nI; rw [show (i : Int).toNat = i by omega, List.getElem?_eq_getElem hi]; rfl
  simp only [decide_eq_true_eq]
  rcases Nat.mod_two_eq_zero_or_one i with h2 | h2
  · have e2 : sX l ((i / 2 : Nat) : Int) = l[i].1 := by rw [← e]; unfold sX; congr 1; omega
    omega
  · have e2 : sY l ((i / 2 : Nat) : Int) = l[i].1 := by rw [← e]; unfold sY; congr 1; omega
    omega
end Go.Proofs.Ythihccmombcihaa.Tk
end
section
namespace Go.Proofs.Ythihccmombcihaa.Tk
open Go Go.Proofs.Ythihccmombcihaa.Sx Go.RowKit
variable {TT : Tb}
theorem row_n {ρ : Env} {w : World} {aks : List AK} (hR : RowsAt ρ w aks) {k : Nat} {kds : List Kd} (hk : (k, rowL k kds) ∈ rowsL 0 (ksOf aks)) : 0 ≤ ρ.i k ∧ ρ.i k ≤ 9223372036854775807 := by
  have := (hR _ hk).2 0
  unfold Row.at at this
  obtain ⟨h0, h1, h2⟩ := this
  have h3 : maxLen = 9223372036854775807 := rfl
  refine ⟨h0, ?_⟩
  rw [if_neg (by simp [rowL])] at h2
  rcases h2.2 with ⟨-, e⟩ | ⟨a, cap, -, -, -, hc, -⟩
  · have : ρ.i k = 0 := e
    omega
  · have : (ρ.i k).toNat ≤ cap := hc.1
    omega

theorem nF_of {ρ : Env} {w : World} {aks : List AK} (hR : RowsAt ρ w aks) {k : Nat} {kds : List Kd} (hk : (k, rowL k kds) ∈ rowsL 0 (ksOf aks)) : holds ρ (nF k) := by
  simp only [holds, nF, List.mem_cons, List.not_mem_nil, or_false, forall_eq_or_imp, forall_eq, B_le, I_c, I_v, decide_eq_true_eq]; exact row_n hR hk
def P2 : List Kd := [.i .i64, .i .i64]
theorem row_in (l : List AK) : (0, rowL 0 P2) ∈ rowsL 0 (ksOf (rowK :: l)) := by simp [ksOf, rowK, AK.ks, rowsL, P2]
theorem hE_1 {ρ : Env} (hh : ρ.h = Tk.hF) (e : E) (k : Nat) : (hE 1 e k).B ρ = allTo (e.I ρ) (spB (ρ.l k)) := h_1 hh _ _
theorem hE_3 {ρ : Env} (hh : ρ.h = Tk.hF) (e : E) (k : Nat) : (hE 3 e k).B ρ = trackB (e.I ρ) (ρ.l k) := h_3 hh _ _
theorem rng_E {ρ : Env} {w : World} {l : List AK} (hR : RowsAt ρ w (rowK :: l)) (h : allTo (ρ.i 0) (spB (ρ.l 0)) = true) : (rngE 0).B ρ = true := by
  obtain ⟨h0, h1⟩ := row_facts hR (row_in l)
  simp only [rngE, B_allr, L_lv]
  exact rng_of h0 (by simpa [P2] using h1) h
def cAlive := ctrVal 6 [] [] (.b .tt) []
theorem alive_ok (u : Fit TT) : CtrOk TT Try.prog cAlive := auto_val (Γ := {}) (by simp) 2000 rfl (by kernel_rfl) u.J
/-! ### Spots -/
def spotsFs : List E := [hE 1 (.v 0) 0, rngE 0]
def spotsCs : List (V × List E) := [(.b .tt, spotsFs), (.b .ff, [.not (hE 1 (.v 0) 0)])]
def nF1 : List E := [.le (.c 0) (.v 0), .le (.v 0) (.c 1024)]
def cSpots := ctrCases 36 [rowK] nF1 spotsCs
theorem spots_yes {ρ : Env} (hh : ρ.h = Tk.hF) {w w' : World} {l : List AK} (hR : RowsAt ρ w (rowK :: l)) (h : allTo (ρ.i 0) (spB (ρ.l 0)) = true) (hb : Below w.heap.size w w') : (∃ c ∈ spotsCs, Ending.returned (.bool true) = .returned (c.1.den ρ) ∧ ∀ a ∈ c.2, a.B ρ = true) ∧ Below w.heap.size w w' := by
  refine ⟨⟨_, List.mem_cons_self, rfl, ?_⟩, hb⟩
  simp only [spotsFs, List.mem_cons, List.not_mem_nil, or_false, forall_eq_or_imp, forall_eq]
  exact ⟨by rw [hE_1 hh]; exact h, rng_E hR h⟩
theorem spots_no {ρ : Env} (hh : ρ.h = Tk.hF) {w w' : World} {k : Int} (h0 : 0 ≤ k) (hk : k < ρ.i 0) (h : ¬ spB (ρ.l 0) k = true) (hb : Below w.heap.size w w') : (∃ c ∈ spotsCs, Ending.returned (.bool false) = .returned (c.1.den ρ) ∧ ∀ a ∈ c.2, a.B ρ = true) ∧ Below w.heap.size w w' := by
  refine ⟨⟨_, List.mem_cons_of_mem _ List.mem_cons_self, rfl, ?_⟩, hb⟩
  simp only [List.mem_cons, List.not_mem_nil, or_false, forall_eq, B_not, hE_1 hh, I_v, Bool.not_eq_true']
  exact allTo_not h0 hk (by simpa using h)
theorem areSpots_ok (u : Fit TT) : CtrOk TT Try.prog cSpots := ctrCases_ok rfl fun ρ w hF hT hR => by
  have hh := (u.tab hT).2
  have hR0 := hR
  refine cases_rest dd_ok (Γ := { loops := [spotL] }) (by simp) 400 [rowK] nF1 spotsCs (by decide)
    [⟨(.must (.happ 1 (.cons (.c 0) (.lv 0)))), [(.le (.c 0) (.v 0)), (.le (.v 0) (.c 1024))], []⟩,
⟨(.val (.b .ff)), [(.lt (.c 16777216) (.nthI (.lv 0) (.add (.mul (.v 1) (.c 2)) (.c 1)))), (.le (.c (-16777216)) (.nthI (.lv 0) (.add (.mul (.v 1) (.c 2)) (.c 1)))), (.le (.nthI (.lv 0) (.mul (.v 1) (.c 2))) (.c 16777216)), (.le (.c (-16777216)) (.nthI (.lv 0) (.mul (.v 1) (.c 2)))), (.lt (.v 1) (.v 0)), (.le (.c 0) (.v 1)), (.le (.v 1) (.v 0)), (.le (.v 1) (.c 1024)), (.happ 1 (.cons (.v 1) (.lv 0))), (.le (.c 0) (.v 0)), (.le (.v 0) (.c 1024))], []⟩,
⟨(.must (.happ 1 (.cons (.add (.v 1) (.c 1)) (.lv 0)))), [(.le (.nthI (.lv 0) (.add (.mul (.v 1) (.c 2)) (.c 1))) (.c 16777216)), (.le (.c (-16777216)) (.nthI (.lv 0) (.add (.mul (.v 1) (.c 2)) (.c 1)))), (.le (.nthI (.lv 0) (.mul (.v 1) (.c 2))) (.c 16777216)), (.le (.c (-16777216)) (.nthI (.lv 0) (.mul (.v 1) (.c 2)))), (.lt (.v 1) (.v 0)), (.le (.c 0) (.v 1)), (.le (.v 1) (.v 0)), (.le (.v 1) (.c 1024)), (.happ 1 (.cons (.v 1) (.lv 0))), (.le (.c 0) (.v 0)), (.le (.v 0) (.c 1024))], []⟩,
⟨(.val (.b .ff)), [(.lt (.nthI (.lv 0) (.add (.mul (.v 1) (.c 2)) (.c 1))) (.c (-16777216))), (.le (.nthI (.lv 0) (.mul (.v 1) (.c 2))) (.c 16777216)), (.le (.c (-16777216)) (.nthI (.lv 0) (.mul (.v 1) (.c 2)))), (.lt (.v 1) (.v 0)), (.le (.c 0) (.v 1)), (.le (.v 1) (.v 0)), (.le (.v 1) (.c 1024)), (.happ 1 (.cons (.v 1) (.lv 0))), (.le (.c 0) (.v 0)), (.le (.v 0) (.c 1024))], []⟩,
⟨(.val (.b .ff)), [(.lt (.c 16777216) (.nthI (.lv 0) (.mul (.v 1) (.c 2)))), (.le (.c (-16777216)) (.nthI (.lv 0) (.mul (.v 1) (.c 2)))), (.lt (.v 1) (.v 0)), (.le (.c 0) (.v 1)), (.le (.v 1) (.v 0)), (.le (.v 1) (.c 1024)), (.happ 1 (.cons (.v 1) (.lv 0))), (.le (.c 0) (.v 0)), (.le (.v 0) (.c 1024))], []⟩,
⟨(.val (.b .ff)), [(.lt (.nthI (.lv 0) (.mul (.v 1) (.c 2))) (.c (-16777216))), (.lt (.v 1) (.v 0)), (.le (.c 0) (.v 1)), (.le (.v 1) (.v 0)), (.le (.v 1) (.c 1024)), (.happ 1 (.cons (.v 1) (.lv 0))), (.le (.c 0) (.v 0)), (.le (.v 0) (.c 1024))], []⟩,
⟨(.val (.b .tt)), [(.le (.v 0) (.v 1)), (.le (.c 0) (.v 1)), (.le (.v 1) (.v 0)), (.le (.v 1) (.c 1024)), (.happ 1 (.cons (.v 1) (.lv 0))), (.le (.c 0) (.v 0)), (.le (.v 0) (.c 1024))], []⟩] (by kernel_rfl) ρ w hF hT hR ⟨?_, ?_, ?_, ?_, ?_, ?_, ?_⟩ (u.J w)
  all_goals
    intro ρ' w' hx _ hF hb _
    have e0 : ρ'.i 0 = ρ.i 0 := hx.i 0 (by decide)
    have l0 : ρ'.l 0 = ρ.l 0 := hx.l 0 (by decide)
    have hh' : ρ'.h = Tk.hF := by rw [hx.h]; exact hh
    clear hx hR
    simp only [holds, List.mem_cons, List.not_mem_nil, or_false, forall_eq_or_imp, forall_eq, B_le, B_lt, I_add, I_mul, I_c, I_v, I_nthI, L_lv, h_1 hh', e0, l0, nI_eq, sX_f, sY_f, decide_eq_true_eq, den_b, B_t, B_f] at hF ⊢
    first
      | exact allTo_zero _
      | (rw [allTo_succ (by omega), spB_iff.2 (by omega), Bool.and_true]; simp only [hF])
      | (refine spots_no hh (k := ρ'.i 1) (by omega) (by omega) (fun h => ?_) hb
         have := spB_iff.1 h
         omega)
      | (refine spots_yes hh hR0 ?_ hb
         have hP : allTo (ρ'.i 1) (spB (ρ.l 0)) = true := by simp only [hF]
         rwa [show ρ'.i 1 = ρ.i 0 by omega] at hP)
/-! ### Tracks -/
def cTrack := ctrCases 20 [rowK] [] trackCs
def cTrackR := ctrCases 24 [rowK] [] trackCs
theorem track_yes {ρ : Env} (hh : ρ.h = Tk.hF) {w w' : World} {l : List AK} (hR : RowsAt ρ w (rowK :: l)) (hn : 2 ≤ ρ.i 0 ∧ ρ.i 0 ≤ 1024) (h : allTo (ρ.i 0) (spB (ρ.l 0)) = true) (h2 : allTo (ρ.i 0) (legB (ρ.l 0)) = true) (hb : Below w.heap.size w w') : (∃ c ∈ trackCs, Ending.returned (.bool true) = .returned (c.1.den ρ) ∧ ∀ a ∈ c.2, a.B ρ = true) ∧ Below w.heap.size w w' := by
  refine ⟨⟨_, List.mem_cons_self, rfl, ?_⟩, hb⟩
  simp only [trackFs, List.mem_cons, List.not_mem_nil, or_false, forall_eq_or_imp, forall_eq, trackE, hE_3 hh, I_v, B_le, I_c, decide_eq_true_eq]
  exact ⟨track_iff.2 ⟨hn, h, h2⟩, hn.1, hn.2, rng_E hR h⟩
theorem track_no {ρ : Env} (hh : ρ.h = Tk.hF) {w w' : World} (h : ¬ trackB (ρ.i 0) (ρ.l 0) = true) (hb : Below w.heap.size w w') : (∃ c ∈ trackCs, Ending.returned (.bool false) = .returned (c.1.den ρ) ∧ ∀ a ∈ c.2, a.B ρ = true) ∧ Below w.heap.size w w' := by
  refine ⟨⟨_, List.mem_cons_of_mem _ List.mem_cons_self, rfl, ?_⟩, hb⟩
  simp only [List.mem_cons, List.not_mem_nil, or_false, forall_eq, B_not, trackE, hE_3 hh, I_v, Bool.not_eq_true']
  simpa using h
theorem not_spots {n k : Int} {l : LL} (h0 : 0 ≤ k) (hk : k < n) (h : ¬ spB l k = true) : ¬ trackB n l = true := fun ht => h (allTo_at (track_iff.1 ht).2.1 h0 hk)
theorem not_legs {n k : Int} {l : LL} (h0 : 0 ≤ k) (hk : k < n) (h : ¬ legB l k = true) : ¬ trackB n l = true := fun ht => h (allTo_at (track_iff.1 ht).2.2 h0 hk)
theorem mx_ab (x : Int) : (if x < 0 - x then 0 - x else x) = ab x := by unfold ab; split <;> split <;> omega
theorem mx_ab2 (x : Int) : (if -x < x then x else -x) = ab x := by unfold ab; split <;> split <;> omega
theorem ab_or (x : Int) : (x < 0 ∧ ab x = -x) ∨ (0 ≤ x ∧ ab x = x) := by unfold ab; split <;> omega
theorem leg_one (l : LL) : allTo 1 (legB l) = true := rfl
theorem isTrack_ok (u : Fit TT) : CtrOk TT Try.prog cTrack := ctrCases_ok rfl fun ρ w hF0 hT hR => by
  have hh := (u.tab hT).2
  have hF := nF_of hR (row_in [])
  have hR0 := hR
  refine cases_rest dd_ok (Γ := { calls := [cSpots], loops := [legL] }) (by simpa using areSpots_ok u.open) 400 [rowK] (nF 0) trackCs (by decide)
    [⟨(.val (.b .ff)), [(.lt (.c 1024) (.v 0)), (.le (.c 2) (.v 0)), (.le (.c 0) (.v 0)), (.le (.v 0) (.c 9223372036854775807))], []⟩,
⟨(.must (.happ 2 (.cons (.c 1) (.lv 0)))), [(.happ 1 (.cons (.v 0) (.lv 0))), (.allr (-16777216) 16777216 (.lv 0)), (.le (.v 0) (.c 1024)), (.le (.c 2) (.v 0)), (.le (.c 0) (.v 0)), (.le (.v 0) (.c 9223372036854775807))], []⟩,
⟨(.val (.b .ff)), [(.eq (.nthI (.lv 0) (.mul (.sub (.v 5) (.c 1)) (.c 2))) (.nthI (.lv 0) (.mul (.v 5) (.c 2)))), (.eq (.nthI (.lv 0) (.add (.mul (.sub (.v 5) (.c 1)) (.c 2)) (.c 1))) (.nthI (.lv 0) (.add (.mul (.v 5) (.c 2)) (.c 1)))), (.lt (.sub (.v 5) (.c 1)) (.v 0)), (.lt (.v 5) (.v 0)), (.le (.c 1) (.v 5)), (.le (.v 5) (.v 0)), (.le (.v 5) (.c 1024)), (.happ 2 (.cons (.v 5) (.lv 0))), (.happ 1 (.cons (.v 0) (.lv 0))), (.allr (-16777216) 16777216 (.lv 0)), (.le (.v 0) (.c 1024)), (.le (.c 2) (.v 0)), (.le (.c 0) (.v 0)), (.le (.v 0) (.c 9223372036854775807))], []⟩,
⟨(.val (.b .ff)), [(.not (.eq (.ite (.lt (.sub (.nthI (.lv 0) (.mul (.v 5) (.c 2))) (.nthI (.lv 0) (.mul (.sub (.v 5) (.c 1)) (.c 2)))) (.sub (.c 0) (.sub (.nthI (.lv 0) (.mul (.v 5) (.c 2))) (.nthI (.lv 0) (.mul (.sub (.v 5) (.c 1)) (.c 2)))))) (.sub (.c 0) (.sub (.nthI (.lv 0) (.mul (.v 5) (.c 2))) (.nthI (.lv 0) (.mul (.sub (.v 5) (.c 1)) (.c 2))))) (.sub (.nthI (.lv 0) (.mul (.v 5) (.c 2))) (.nthI (.lv 0) (.mul (.sub (.v 5) (.c 1)) (.c 2))))) (.ite (.lt (.sub (.nthI (.lv 0) (.add (.mul (.v 5) (.c 2)) (.c 1))) (.nthI (.lv 0) (.add (.mul (.sub (.v 5) (.c 1)) (.c 2)) (.c 1)))) (.sub (.c 0) (.sub (.nthI (.lv 0) (.add (.mul (.v 5) (.c 2)) (.c 1))) (.nthI (.lv 0) (.add (.mul (.sub (.v 5) (.c 1)) (.c 2)) (.c 1)))))) (.sub (.c 0) (.sub (.nthI (.lv 0) (.add (.mul (.v 5) (.c 2)) (.c 1))) (.nthI (.lv 0) (.add (.mul (.sub (.v 5) (.c 1)) (.c 2)) (.c 1))))) (.sub (.nthI (.lv 0) (.add (.mul (.v 5) (.c 2)) (.c 1))) (.nthI (.lv 0) (.add (.mul (.sub (.v 5) (.c 1)) (.c 2)) (.c 1))))))), (.not (.eq (.ite (.lt (.sub (.nthI (.lv 0) (.add (.mul (.v 5) (.c 2)) (.c 1))) (.nthI (.lv 0) (.add (.mul (.sub (.v 5) (.c 1)) (.c 2)) (.c 1)))) (.sub (.c 0) (.sub (.nthI (.lv 0) (.add (.mul (.v 5) (.c 2)) (.c 1))) (.nthI (.lv 0) (.add (.mul (.sub (.v 5) (.c 1)) (.c 2)) (.c 1)))))) (.sub (.c 0) (.sub (.nthI (.lv 0) (.add (.mul (.v 5) (.c 2)) (.c 1))) (.nthI (.lv 0) (.add (.mul (.sub (.v 5) (.c 1)) (.c 2)) (.c 1))))) (.sub (.nthI (.lv 0) (.add (.mul (.v 5) (.c 2)) (.c 1))) (.nthI (.lv 0) (.add (.mul (.sub (.v 5) (.c 1)) (.c 2)) (.c 1))))) (.c 0))), (.not (.eq (.ite (.lt (.sub (.nthI (.lv 0) (.mul (.v 5) (.c 2))) (.nthI (.lv 0) (.mul (.sub (.v 5) (.c 1)) (.c 2)))) (.sub (.c 0) (.sub (.nthI (.lv 0) (.mul (.v 5) (.c 2))) (.nthI (.lv 0) (.mul (.sub (.v 5) (.c 1)) (.c 2)))))) (.sub (.c 0) (.sub (.nthI (.lv 0) (.mul (.v 5) (.c 2))) (.nthI (.lv 0) (.mul (.sub (.v 5) (.c 1)) (.c 2))))) (.sub (.nthI (.lv 0) (.mul (.v 5) (.c 2))) (.nthI (.lv 0) (.mul (.sub (.v 5) (.c 1)) (.c 2))))) (.c 0))), (.not (.and (.eq (.nthI (.lv 0) (.mul (.sub (.v 5) (.c 1)) (.c 2))) (.nthI (.lv 0) (.mul (.v 5) (.c 2)))) (.eq (.nthI (.lv 0) (.add (.mul (.sub (.v 5) (.c 1)) (.c 2)) (.c 1))) (.nthI (.lv 0) (.add (.mul (.v 5) (.c 2)) (.c 1)))))), (.lt (.sub (.v 5) (.c 1)) (.v 0)), (.lt (.v 5) (.v 0)), (.le (.c 1) (.v 5)), (.le (.v 5) (.v 0)), (.le (.v 5) (.c 1024)), (.happ 2 (.cons (.v 5) (.lv 0))), (.happ 1 (.cons (.v 0) (.lv 0))), (.allr (-16777216) 16777216 (.lv 0)), (.le (.v 0) (.c 1024)), (.le (.c 2) (.v 0)), (.le (.c 0) (.v 0)), (.le (.v 0) (.c 9223372036854775807))], []⟩,
⟨(.must (.happ 2 (.cons (.add (.v 5) (.c 1)) (.lv 0)))), [(.eq (.ite (.lt (.sub (.nthI (.lv 0) (.mul (.v 5) (.c 2))) (.nthI (.lv 0) (.mul (.sub (.v 5) (.c 1)) (.c 2)))) (.sub (.c 0) (.sub (.nthI (.lv 0) (.mul (.v 5) (.c 2))) (.nthI (.lv 0) (.mul (.sub (.v 5) (.c 1)) (.c 2)))))) (.sub (.c 0) (.sub (.nthI (.lv 0) (.mul (.v 5) (.c 2))) (.nthI (.lv 0) (.mul (.sub (.v 5) (.c 1)) (.c 2))))) (.sub (.nthI (.lv 0) (.mul (.v 5) (.c 2))) (.nthI (.lv 0) (.mul (.sub (.v 5) (.c 1)) (.c 2))))) (.ite (.lt (.sub (.nthI (.lv 0) (.add (.mul (.v 5) (.c 2)) (.c 1))) (.nthI (.lv 0) (.add (.mul (.sub (.v 5) (.c 1)) (.c 2)) (.c 1)))) (.sub (.c 0) (.sub (.nthI (.lv 0) (.add (.mul (.v 5) (.c 2)) (.c 1))) (.nthI (.lv 0) (.add (.mul (.sub (.v 5) (.c 1)) (.c 2)) (.c 1)))))) (.sub (.c 0) (.sub (.nthI (.lv 0) (.add (.mul (.v 5) (.c 2)) (.c 1))) (.nthI (.lv 0) (.add (.mul (.sub (.v 5) (.c 1)) (.c 2)) (.c 1))))) (.sub (.nthI (.lv 0) (.add (.mul (.v 5) (.c 2)) (.c 1))) (.nthI (.lv 0) (.add (.mul (.sub (.v 5) (.c 1)) (.c 2)) (.c 1)))))), (.not (.eq (.ite (.lt (.sub (.nthI (.lv 0) (.add (.mul (.v 5) (.c 2)) (.c 1))) (.nthI (.lv 0) (.add (.mul (.sub (.v 5) (.c 1)) (.c 2)) (.c 1)))) (.sub (.c 0) (.sub (.nthI (.lv 0) (.add (.mul (.v 5) (.c 2)) (.c 1))) (.nthI (.lv 0) (.add (.mul (.sub (.v 5) (.c 1)) (.c 2)) (.c 1)))))) (.sub (.c 0) (.sub (.nthI (.lv 0) (.add (.mul (.v 5) (.c 2)) (.c 1))) (.nthI (.lv 0) (.add (.mul (.sub (.v 5) (.c 1)) (.c 2)) (.c 1))))) (.sub (.nthI (.lv 0) (.add (.mul (.v 5) (.c 2)) (.c 1))) (.nthI (.lv 0) (.add (.mul (.sub (.v 5) (.c 1)) (.c 2)) (.c 1))))) (.c 0))), (.not (.eq (.ite (.lt (.sub (.nthI (.lv 0) (.mul (.v 5) (.c 2))) (.nthI (.lv 0) (.mul (.sub (.v 5) (.c 1)) (.c 2)))) (.sub (.c 0) (.sub (.nthI (.lv 0) (.mul (.v 5) (.c 2))) (.nthI (.lv 0) (.mul (.sub (.v 5) (.c 1)) (.c 2)))))) (.sub (.c 0) (.sub (.nthI (.lv 0) (.mul (.v 5) (.c 2))) (.nthI (.lv 0) (.mul (.sub (.v 5) (.c 1)) (.c 2))))) (.sub (.nthI (.lv 0) (.mul (.v 5) (.c 2))) (.nthI (.lv 0) (.mul (.sub (.v 5) (.c 1)) (.c 2))))) (.c 0))), (.not (.and (.eq (.nthI (.lv 0) (.mul (.sub (.v 5) (.c 1)) (.c 2))) (.nthI (.lv 0) (.mul (.v 5) (.c 2)))) (.eq (.nthI (.lv 0) (.add (.mul (.sub (.v 5) (.c 1)) (.c 2)) (.c 1))) (.nthI (.lv 0) (.add (.mul (.v 5) (.c 2)) (.c 1)))))), (.lt (.sub (.v 5) (.c 1)) (.v 0)), (.lt (.v 5) (.v 0)), (.le (.c 1) (.v 5)), (.le (.v 5) (.v 0)), (.le (.v 5) (.c 1024)), (.happ 2 (.cons (.v 5) (.lv 0))), (.happ 1 (.cons (.v 0) (.lv 0))), (.allr (-16777216) 16777216 (.lv 0)), (.le (.v 0) (.c 1024)), (.le (.c 2) (.v 0)), (.le (.c 0) (.v 0)), (.le (.v 0) (.c 9223372036854775807))], []⟩,
⟨(.must (.happ 2 (.cons (.add (.v 5) (.c 1)) (.lv 0)))), [(.eq (.ite (.lt (.sub (.nthI (.lv 0) (.add (.mul (.v 5) (.c 2)) (.c 1))) (.nthI (.lv 0) (.add (.mul (.sub (.v 5) (.c 1)) (.c 2)) (.c 1)))) (.sub (.c 0) (.sub (.nthI (.lv 0) (.add (.mul (.v 5) (.c 2)) (.c 1))) (.nthI (.lv 0) (.add (.mul (.sub (.v 5) (.c 1)) (.c 2)) (.c 1)))))) (.sub (.c 0) (.sub (.nthI (.lv 0) (.add (.mul (.v 5) (.c 2)) (.c 1))) (.nthI (.lv 0) (.add (.mul (.sub (.v 5) (.c 1)) (.c 2)) (.c 1))))) (.sub (.nthI (.lv 0) (.add (.mul (.v 5) (.c 2)) (.c 1))) (.nthI (.lv 0) (.add (.mul (.sub (.v 5) (.c 1)) (.c 2)) (.c 1))))) (.c 0)), (.not (.eq (.ite (.lt (.sub (.nthI (.lv 0) (.mul (.v 5) (.c 2))) (.nthI (.lv 0) (.mul (.sub (.v 5) (.c 1)) (.c 2)))) (.sub (.c 0) (.sub (.nthI (.lv 0) (.mul (.v 5) (.c 2))) (.nthI (.lv 0) (.mul (.sub (.v 5) (.c 1)) (.c 2)))))) (.sub (.c 0) (.sub (.nthI (.lv 0) (.mul (.v 5) (.c 2))) (.nthI (.lv 0) (.mul (.sub (.v 5) (.c 1)) (.c 2))))) (.sub (.nthI (.lv 0) (.mul (.v 5) (.c 2))) (.nthI (.lv 0) (.mul (.sub (.v 5) (.c 1)) (.c 2))))) (.c 0))), (.not (.and (.eq (.nthI (.lv 0) (.mul (.sub (.v 5) (.c 1)) (.c 2))) (.nthI (.lv 0) (.mul (.v 5) (.c 2)))) (.eq (.nthI (.lv 0) (.add (.mul (.sub (.v 5) (.c 1)) (.c 2)) (.c 1))) (.nthI (.lv 0) (.add (.mul (.v 5) (.c 2)) (.c 1)))))), (.lt (.sub (.v 5) (.c 1)) (.v 0)), (.lt (.v 5) (.v 0)), (.le (.c 1) (.v 5)), (.le (.v 5) (.v 0)), (.le (.v 5) (.c 1024)), (.happ 2 (.cons (.v 5) (.lv 0))), (.happ 1 (.cons (.v 0) (.lv 0))), (.allr (-16777216) 16777216 (.lv 0)), (.le (.v 0) (.c 1024)), (.le (.c 2) (.v 0)), (.le (.c 0) (.v 0)), (.le (.v 0) (.c 9223372036854775807))], []⟩,
⟨(.must (.happ 2 (.cons (.add (.v 5) (.c 1)) (.lv 0)))), [(.eq (.ite (.lt (.sub (.nthI (.lv 0) (.mul (.v 5) (.c 2))) (.nthI (.lv 0) (.mul (.sub (.v 5) (.c 1)) (.c 2)))) (.sub (.c 0) (.sub (.nthI (.lv 0) (.mul (.v 5) (.c 2))) (.nthI (.lv 0) (.mul (.sub (.v 5) (.c 1)) (.c 2)))))) (.sub (.c 0) (.sub (.nthI (.lv 0) (.mul (.v 5) (.c 2))) (.nthI (.lv 0) (.mul (.sub (.v 5) (.c 1)) (.c 2))))) (.sub (.nthI (.lv 0) (.mul (.v 5) (.c 2))) (.nthI (.lv 0) (.mul (.sub (.v 5) (.c 1)) (.c 2))))) (.c 0)), (.not (.and (.eq (.nthI (.lv 0) (.mul (.sub (.v 5) (.c 1)) (.c 2))) (.nthI (.lv 0) (.mul (.v 5) (.c 2)))) (.eq (.nthI (.lv 0) (.add (.mul (.sub (.v 5) (.c 1)) (.c 2)) (.c 1))) (.nthI (.lv 0) (.add (.mul (.v 5) (.c 2)) (.c 1)))))), (.lt (.sub (.v 5) (.c 1)) (.v 0)), (.lt (.v 5) (.v 0)), (.le (.c 1) (.v 5)), (.le (.v 5) (.v 0)), (.le (.v 5) (.c 1024)), (.happ 2 (.cons (.v 5) (.lv 0))), (.happ 1 (.cons (.v 0) (.lv 0))), (.allr (-16777216) 16777216 (.lv 0)), (.le (.v 0) (.c 1024)), (.le (.c 2) (.v 0)), (.le (.c 0) (.v 0)), (.le (.v 0) (.c 9223372036854775807))], []⟩,
⟨(.val (.b .tt)), [(.le (.v 0) (.v 5)), (.le (.c 1) (.v 5)), (.le (.v 5) (.v 0)), (.le (.v 5) (.c 1024)), (.happ 2 (.cons (.v 5) (.lv 0))), (.happ 1 (.cons (.v 0) (.lv 0))), (.allr (-16777216) 16777216 (.lv 0)), (.le (.v 0) (.c 1024)), (.le (.c 2) (.v 0)), (.le (.c 0) (.v 0)), (.le (.v 0) (.c 9223372036854775807))], []⟩,
⟨(.val (.b .ff)), [(.not (.happ 1 (.cons (.v 0) (.lv 0)))), (.le (.v 0) (.c 1024)), (.le (.c 2) (.v 0)), (.le (.c 0) (.v 0)), (.le (.v 0) (.c 9223372036854775807))], []⟩,
⟨(.val (.b .ff)), [(.lt (.v 0) (.c 2)), (.le (.c 0) (.v 0)), (.le (.v 0) (.c 9223372036854775807))], []⟩] (by kernel_rfl) ρ w hF hT hR ⟨?_, ?_, ?_, ?_, ?_, ?_, ?_, ?_, ?_, ?_⟩ (u.J w)
  all_goals
    intro ρ' w' hx _ hF hb _
    have e0 : ρ'.i 0 = ρ.i 0 := hx.i 0 (by decide)
    have l0 : ρ'.l 0 = ρ.l 0 := hx.l 0 (by decide)
    have hh' : ρ'.h = Tk.hF := by rw [hx.h]; exact hh
    clear hx hR
    simp only [holds, List.mem_cons, List.not_mem_nil, or_false, forall_eq_or_imp, forall_eq, B_le, B_lt, B_eq, B_not, B_and, I_add, I_sub, I_mul, I_ite, I_c, I_v, I_nthI, L_lv, h_1 hh', h_2 hh', e0, l0, nI_eq, sX_f, sY_f, decide_eq_true_eq, Bool.not_eq_true', decide_eq_false_iff_not, Bool.and_eq_false_iff, den_b, B_t, B_f] at hF ⊢
    try simp only [mx_ab] at hF
    have a1 := ab_or (sX (ρ.l 0) (ρ'.i 5) - sX (ρ.l 0) (ρ'.i 5 - 1))
    have a2 := ab_or (sY (ρ.l 0) (ρ'.i 5) - sY (ρ.l 0) (ρ'.i 5 - 1))
    first
      | exact track_no hh (fun h => by have := (track_iff.1 h).1; omega) hb
      | exact leg_one _
      | (have hn : allTo (ρ.i 0) (spB (ρ.l 0)) = false := by simp only [hF]
         exact track_no hh (fun h => by have h2 := (track_iff.1 h).2.1; rw [hn] at h2; cases h2) hb)
      | (refine track_no hh (not_legs (k := ρ'.i 5) (by omega) (by omega) (fun h => ?_)) hb
         rw [legB_iff (by omega)] at h
         have := wayB_iff.1 h
         omega)
      | (rw [allTo_succ (by omega), legB_iff (by omega), wayB_iff.2 (by omega), Bool.and_true]; simp only [hF])
      | (have hP : allTo (ρ'.i 5) (legB (ρ.l 0)) = true := by simp only [hF]
         rw [show ρ'.i 5 = ρ.i 0 by omega] at hP
         exact track_yes hh hR0 (by omega) (by simp only [hF]) hP hb)
theorem track_ok (u : Fit TT) : CtrOk TT Try.prog cTrackR := ctrCases_ok rfl fun ρ w hF0 hT hR => by
  have hh := (u.tab hT).2
  have hF := nF_of hR (row_in [])
  have hR0 := hR
  refine cases_rest dd_ok (Γ := { loops := [trackRL] }) (by simp) 400 [rowK] (nF 0) trackCs (by decide)
    [⟨(.val (.b .ff)), [(.lt (.c 1024) (.v 0)), (.le (.c 2) (.v 0)), (.le (.c 0) (.v 0)), (.le (.v 0) (.c 9223372036854775807))], []⟩,
⟨(.must (.happ 1 (.cons (.c 0) (.lv 0)))), [(.le (.v 0) (.c 1024)), (.le (.c 2) (.v 0)), (.le (.c 0) (.v 0)), (.le (.v 0) (.c 9223372036854775807))], []⟩,
⟨(.must (.happ 2 (.cons (.c 0) (.lv 0)))), [(.le (.v 0) (.c 1024)), (.le (.c 2) (.v 0)), (.le (.c 0) (.v 0)), (.le (.v 0) (.c 9223372036854775807))], []⟩,
⟨(.val (.b .ff)), [(.lt (.c 16777216) (.nthI (.lv 0) (.add (.mul (.v 1) (.c 2)) (.c 1)))), (.le (.c (-16777216)) (.nthI (.lv 0) (.add (.mul (.v 1) (.c 2)) (.c 1)))), (.le (.nthI (.lv 0) (.mul (.v 1) (.c 2))) (.c 16777216)), (.le (.c (-16777216)) (.nthI (.lv 0) (.mul (.v 1) (.c 2)))), (.lt (.v 1) (.v 0)), (.le (.c 0) (.v 1)), (.le (.v 1) (.v 0)), (.le (.v 1) (.c 1024)), (.happ 1 (.cons (.v 1) (.lv 0))), (.happ 2 (.cons (.v 1) (.lv 0))), (.le (.v 0) (.c 1024)), (.le (.c 2) (.v 0)), (.le (.c 0) (.v 0)), (.le (.v 0) (.c 9223372036854775807))], []⟩,
⟨(.must (.happ 1 (.cons (.add (.v 1) (.c 1)) (.lv 0)))), [(.eq (.v 1) (.c 0)), (.le (.nthI (.lv 0) (.add (.mul (.v 1) (.c 2)) (.c 1))) (.c 16777216)), (.le (.c (-16777216)) (.nthI (.lv 0) (.add (.mul (.v 1) (.c 2)) (.c 1)))), (.le (.nthI (.lv 0) (.mul (.v 1) (.c 2))) (.c 16777216)), (.le (.c (-16777216)) (.nthI (.lv 0) (.mul (.v 1) (.c 2)))), (.lt (.v 1) (.v 0)), (.le (.c 0) (.v 1)), (.le (.v 1) (.v 0)), (.le (.v 1) (.c 1024)), (.happ 1 (.cons (.v 1) (.lv 0))), (.happ 2 (.cons (.v 1) (.lv 0))), (.le (.v 0) (.c 1024)), (.le (.c 2) (.v 0)), (.le (.c 0) (.v 0)), (.le (.v 0) (.c 9223372036854775807))], []⟩,
⟨(.must (.happ 2 (.cons (.add (.v 1) (.c 1)) (.lv 0)))), [(.eq (.v 1) (.c 0)), (.le (.nthI (.lv 0) (.add (.mul (.v 1) (.c 2)) (.c 1))) (.c 16777216)), (.le (.c (-16777216)) (.nthI (.lv 0) (.add (.mul (.v 1) (.c 2)) (.c 1)))), (.le (.nthI (.lv 0) (.mul (.v 1) (.c 2))) (.c 16777216)), (.le (.c (-16777216)) (.nthI (.lv 0) (.mul (.v 1) (.c 2)))), (.lt (.v 1) (.v 0)), (.le (.c 0) (.v 1)), (.le (.v 1) (.v 0)), (.le (.v 1) (.c 1024)), (.happ 1 (.cons (.v 1) (.lv 0))), (.happ 2 (.cons (.v 1) (.lv 0))), (.le (.v 0) (.c 1024)), (.le (.c 2) (.v 0)), (.le (.c 0) (.v 0)), (.le (.v 0) (.c 9223372036854775807))], []⟩,
⟨(.val (.b .ff)), [(.not (.eq (.ite (.lt (.wrap .i64 (.sub (.nthI (.lv 0) (.mul (.v 1) (.c 2))) (.nthI (.lv 0) (.mul (.sub (.v 1) (.c 1)) (.c 2))))) (.wrap .i64 (.sub (.c 0) (.wrap .i64 (.sub (.nthI (.lv 0) (.mul (.v 1) (.c 2))) (.nthI (.lv 0) (.mul (.sub (.v 1) (.c 1)) (.c 2)))))))) (.wrap .i64 (.sub (.c 0) (.wrap .i64 (.sub (.nthI (.lv 0) (.mul (.v 1) (.c 2))) (.nthI (.lv 0) (.mul (.sub (.v 1) (.c 1)) (.c 2))))))) (.wrap .i64 (.sub (.nthI (.lv 0) (.mul (.v 1) (.c 2))) (.nthI (.lv 0) (.mul (.sub (.v 1) (.c 1)) (.c 2)))))) (.ite (.lt (.wrap .i64 (.sub (.nthI (.lv 0) (.add (.mul (.v 1) (.c 2)) (.c 1))) (.nthI (.lv 0) (.add (.mul (.sub (.v 1) (.c 1)) (.c 2)) (.c 1))))) (.wrap .i64 (.sub (.c 0) (.wrap .i64 (.sub (.nthI (.lv 0) (.add (.mul (.v 1) (.c 2)) (.c 1))) (.nthI (.lv 0) (.add (.mul (.sub (.v 1) (.c 1)) (.c 2)) (.c 1)))))))) (.wrap .i64 (.sub (.c 0) (.wrap .i64 (.sub (.nthI (.lv 0) (.add (.mul (.v 1) (.c 2)) (.c 1))) (.nthI (.lv 0) (.add (.mul (.sub (.v 1) (.c 1)) (.c 2)) (.c 1))))))) (.wrap .i64 (.sub (.nthI (.lv 0) (.add (.mul (.v 1) (.c 2)) (.c 1))) (.nthI (.lv 0) (.add (.mul (.sub (.v 1) (.c 1)) (.c 2)) (.c 1)))))))), (.not (.eq (.wrap .i64 (.sub (.nthI (.lv 0) (.add (.mul (.v 1) (.c 2)) (.c 1))) (.nthI (.lv 0) (.add (.mul (.sub (.v 1) (.c 1)) (.c 2)) (.c 1))))) (.c 0))), (.not (.eq (.wrap .i64 (.sub (.nthI (.lv 0) (.mul (.v 1) (.c 2))) (.nthI (.lv 0) (.mul (.sub (.v 1) (.c 1)) (.c 2))))) (.c 0))), (.lt (.sub (.v 1) (.c 1)) (.v 0)), (.le (.c 0) (.sub (.v 1) (.c 1))), (.not (.eq (.v 1) (.c 0))), (.le (.nthI (.lv 0) (.add (.mul (.v 1) (.c 2)) (.c 1))) (.c 16777216)), (.le (.c (-16777216)) (.nthI (.lv 0) (.add (.mul (.v 1) (.c 2)) (.c 1)))), (.le (.nthI (.lv 0) (.mul (.v 1) (.c 2))) (.c 16777216)), (.le (.c (-16777216)) (.nthI (.lv 0) (.mul (.v 1) (.c 2)))), (.lt (.v 1) (.v 0)), (.le (.c 0) (.v 1)), (.le (.v 1) (.v 0)), (.le (.v 1) (.c 1024)), (.happ 1 (.cons (.v 1) (.lv 0))), (.happ 2 (.cons (.v 1) (.lv 0))), (.le (.v 0) (.c 1024)), (.le (.c 2) (.v 0)), (.le (.c 0) (.v 0)), (.le (.v 0) (.c 9223372036854775807))], []⟩,
⟨(.must (.happ 1 (.cons (.add (.v 1) (.c 1)) (.lv 0)))), [(.eq (.ite (.lt (.wrap .i64 (.sub (.nthI (.lv 0) (.mul (.v 1) (.c 2))) (.nthI (.lv 0) (.mul (.sub (.v 1) (.c 1)) (.c 2))))) (.wrap .i64 (.sub (.c 0) (.wrap .i64 (.sub (.nthI (.lv 0) (.mul (.v 1) (.c 2))) (.nthI (.lv 0) (.mul (.sub (.v 1) (.c 1)) (.c 2)))))))) (.wrap .i64 (.sub (.c 0) (.wrap .i64 (.sub (.nthI (.lv 0) (.mul (.v 1) (.c 2))) (.nthI (.lv 0) (.mul (.sub (.v 1) (.c 1)) (.c 2))))))) (.wrap .i64 (.sub (.nthI (.lv 0) (.mul (.v 1) (.c 2))) (.nthI (.lv 0) (.mul (.sub (.v 1) (.c 1)) (.c 2)))))) (.ite (.lt (.wrap .i64 (.sub (.nthI (.lv 0) (.add (.mul (.v 1) (.c 2)) (.c 1))) (.nthI (.lv 0) (.add (.mul (.sub (.v 1) (.c 1)) (.c 2)) (.c 1))))) (.wrap .i64 (.sub (.c 0) (.wrap .i64 (.sub (.nthI (.lv 0) (.add (.mul (.v 1) (.c 2)) (.c 1))) (.nthI (.lv 0) (.add (.mul (.sub (.v 1) (.c 1)) (.c 2)) (.c 1)))))))) (.wrap .i64 (.sub (.c 0) (.wrap .i64 (.sub (.nthI (.lv 0) (.add (.mul (.v 1) (.c 2)) (.c 1))) (.nthI (.lv 0) (.add (.mul (.sub (.v 1) (.c 1)) (.c 2)) (.c 1))))))) (.wrap .i64 (.sub (.nthI (.lv 0) (.add (.mul (.v 1) (.c 2)) (.c 1))) (.nthI (.lv 0) (.add (.mul (.sub (.v 1) (.c 1)) (.c 2)) (.c 1))))))), (.not (.eq (.wrap .i64 (.sub (.nthI (.lv 0) (.add (.mul (.v 1) (.c 2)) (.c 1))) (.nthI (.lv 0) (.add (.mul (.sub (.v 1) (.c 1)) (.c 2)) (.c 1))))) (.c 0))), (.not (.eq (.wrap .i64 (.sub (.nthI (.lv 0) (.mul (.v 1) (.c 2))) (.nthI (.lv 0) (.mul (.sub (.v 1) (.c 1)) (.c 2))))) (.c 0))), (.lt (.sub (.v 1) (.c 1)) (.v 0)), (.le (.c 0) (.sub (.v 1) (.c 1))), (.not (.eq (.v 1) (.c 0))), (.le (.nthI (.lv 0) (.add (.mul (.v 1) (.c 2)) (.c 1))) (.c 16777216)), (.le (.c (-16777216)) (.nthI (.lv 0) (.add (.mul (.v 1) (.c 2)) (.c 1)))), (.le (.nthI (.lv 0) (.mul (.v 1) (.c 2))) (.c 16777216)), (.le (.c (-16777216)) (.nthI (.lv 0) (.mul (.v 1) (.c 2)))), (.lt (.v 1) (.v 0)), (.le (.c 0) (.v 1)), (.le (.v 1) (.v 0)), (.le (.v 1) (.c 1024)), (.happ 1 (.cons (.v 1) (.lv 0))), (.happ 2 (.cons (.v 1) (.lv 0))), (.le (.v 0) (.c 1024)), (.le (.c 2) (.v 0)), (.le (.c 0) (.v 0)), (.le (.v 0) (.c 9223372036854775807))], []⟩,
⟨(.must (.happ 2 (.cons (.add (.v 1) (.c 1)) (.lv 0)))), [(.eq (.ite (.lt (.wrap .i64 (.sub (.nthI (.lv 0) (.mul (.v 1) (.c 2))) (.nthI (.lv 0) (.mul (.sub (.v 1) (.c 1)) (.c 2))))) (.wrap .i64 (.sub (.c 0) (.wrap .i64 (.sub (.nthI (.lv 0) (.mul (.v 1) (.c 2))) (.nthI (.lv 0) (.mul (.sub (.v 1) (.c 1)) (.c 2)))))))) (.wrap .i64 (.sub (.c 0) (.wrap .i64 (.sub (.nthI (.lv 0) (.mul (.v 1) (.c 2))) (.nthI (.lv 0) (.mul (.sub (.v 1) (.c 1)) (.c 2))))))) (.wrap .i64 (.sub (.nthI (.lv 0) (.mul (.v 1) (.c 2))) (.nthI (.lv 0) (.mul (.sub (.v 1) (.c 1)) (.c 2)))))) (.ite (.lt (.wrap .i64 (.sub (.nthI (.lv 0) (.add (.mul (.v 1) (.c 2)) (.c 1))) (.nthI (.lv 0) (.add (.mul (.sub (.v 1) (.c 1)) (.c 2)) (.c 1))))) (.wrap .i64 (.sub (.c 0) (.wrap .i64 (.sub (.nthI (.lv 0) (.add (.mul (.v 1) (.c 2)) (.c 1))) (.nthI (.lv 0) (.add (.mul (.sub (.v 1) (.c 1)) (.c 2)) (.c 1)))))))) (.wrap .i64 (.sub (.c 0) (.wrap .i64 (.sub (.nthI (.lv 0) (.add (.mul (.v 1) (.c 2)) (.c 1))) (.nthI (.lv 0) (.add (.mul (.sub (.v 1) (.c 1)) (.c 2)) (.c 1))))))) (.wrap .i64 (.sub (.nthI (.lv 0) (.add (.mul (.v 1) (.c 2)) (.c 1))) (.nthI (.lv 0) (.add (.mul (.sub (.v 1) (.c 1)) (.c 2)) (.c 1))))))), (.not (.eq (.wrap .i64 (.sub (.nthI (.lv 0) (.add (.mul (.v 1) (.c 2)) (.c 1))) (.nthI (.lv 0) (.add (.mul (.sub (.v 1) (.c 1)) (.c 2)) (.c 1))))) (.c 0))), (.not (.eq (.wrap .i64 (.sub (.nthI (.lv 0) (.mul (.v 1) (.c 2))) (.nthI (.lv 0) (.mul (.sub (.v 1) (.c 1)) (.c 2))))) (.c 0))), (.lt (.sub (.v 1) (.c 1)) (.v 0)), (.le (.c 0) (.sub (.v 1) (.c 1))), (.not (.eq (.v 1) (.c 0))), (.le (.nthI (.lv 0) (.add (.mul (.v 1) (.c 2)) (.c 1))) (.c 16777216)), (.le (.c (-16777216)) (.nthI (.lv 0) (.add (.mul (.v 1) (.c 2)) (.c 1)))), (.le (.nthI (.lv 0) (.mul (.v 1) (.c 2))) (.c 16777216)), (.le (.c (-16777216)) (.nthI (.lv 0) (.mul (.v 1) (.c 2)))), (.lt (.v 1) (.v 0)), (.le (.c 0) (.v 1)), (.le (.v 1) (.v 0)), (.le (.v 1) (.c 1024)), (.happ 1 (.cons (.v 1) (.lv 0))), (.happ 2 (.cons (.v 1) (.lv 0))), (.le (.v 0) (.c 1024)), (.le (.c 2) (.v 0)), (.le (.c 0) (.v 0)), (.le (.v 0) (.c 9223372036854775807))], []⟩,
⟨(.must (.happ 1 (.cons (.add (.v 1) (.c 1)) (.lv 0)))), [(.eq (.wrap .i64 (.sub (.nthI (.lv 0) (.add (.mul (.v 1) (.c 2)) (.c 1))) (.nthI (.lv 0) (.add (.mul (.sub (.v 1) (.c 1)) (.c 2)) (.c 1))))) (.c 0)), (.not (.eq (.wrap .i64 (.sub (.nthI (.lv 0) (.mul (.v 1) (.c 2))) (.nthI (.lv 0) (.mul (.sub (.v 1) (.c 1)) (.c 2))))) (.c 0))), (.lt (.sub (.v 1) (.c 1)) (.v 0)), (.le (.c 0) (.sub (.v 1) (.c 1))), (.not (.eq (.v 1) (.c 0))), (.le (.nthI (.lv 0) (.add (.mul (.v 1) (.c 2)) (.c 1))) (.c 16777216)), (.le (.c (-16777216)) (.nthI (.lv 0) (.add (.mul (.v 1) (.c 2)) (.c 1)))), (.le (.nthI (.lv 0) (.mul (.v 1) (.c 2))) (.c 16777216)), (.le (.c (-16777216)) (.nthI (.lv 0) (.mul (.v 1) (.c 2)))), (.lt (.v 1) (.v 0)), (.le (.c 0) (.v 1)), (.le (.v 1) (.v 0)), (.le (.v 1) (.c 1024)), (.happ 1 (.cons (.v 1) (.lv 0))), (.happ 2 (.cons (.v 1) (.lv 0))), (.le (.v 0) (.c 1024)), (.le (.c 2) (.v 0)), (.le (.c 0) (.v 0)), (.le (.v 0) (.c 9223372036854775807))], []⟩,
⟨(.must (.happ 2 (.cons (.add (.v 1) (.c 1)) (.lv 0)))), [(.eq (.wrap .i64 (.sub (.nthI (.lv 0) (.add (.mul (.v 1) (.c 2)) (.c 1))) (.nthI (.lv 0) (.add (.mul (.sub (.v 1) (.c 1)) (.c 2)) (.c 1))))) (.c 0)), (.not (.eq (.wrap .i64 (.sub (.nthI (.lv 0) (.mul (.v 1) (.c 2))) (.nthI (.lv 0) (.mul (.sub (.v 1) (.c 1)) (.c 2))))) (.c 0))), (.lt (.sub (.v 1) (.c 1)) (.v 0)), (.le (.c 0) (.sub (.v 1) (.c 1))), (.not (.eq (.v 1) (.c 0))), (.le (.nthI (.lv 0) (.add (.mul (.v 1) (.c 2)) (.c 1))) (.c 16777216)), (.le (.c (-16777216)) (.nthI (.lv 0) (.add (.mul (.v 1) (.c 2)) (.c 1)))), (.le (.nthI (.lv 0) (.mul (.v 1) (.c 2))) (.c 16777216)), (.le (.c (-16777216)) (.nthI (.lv 0) (.mul (.v 1) (.c 2)))), (.lt (.v 1) (.v 0)), (.le (.c 0) (.v 1)), (.le (.v 1) (.v 0)), (.le (.v 1) (.c 1024)), (.happ 1 (.cons (.v 1) (.lv 0))), (.happ 2 (.cons (.v 1) (.lv 0))), (.le (.v 0) (.c 1024)), (.le (.c 2) (.v 0)), (.le (.c 0) (.v 0)), (.le (.v 0) (.c 9223372036854775807))], []⟩,
⟨(.val (.b .ff)), [(.eq (.wrap .i64 (.sub (.nthI (.lv 0) (.add (.mul (.v 1) (.c 2)) (.c 1))) (.nthI (.lv 0) (.add (.mul (.sub (.v 1) (.c 1)) (.c 2)) (.c 1))))) (.c 0)), (.eq (.wrap .i64 (.sub (.nthI (.lv 0) (.mul (.v 1) (.c 2))) (.nthI (.lv 0) (.mul (.sub (.v 1) (.c 1)) (.c 2))))) (.c 0)), (.lt (.sub (.v 1) (.c 1)) (.v 0)), (.le (.c 0) (.sub (.v 1) (.c 1))), (.not (.eq (.v 1) (.c 0))), (.le (.nthI (.lv 0) (.add (.mul (.v 1) (.c 2)) (.c 1))) (.c 16777216)), (.le (.c (-16777216)) (.nthI (.lv 0) (.add (.mul (.v 1) (.c 2)) (.c 1)))), (.le (.nthI (.lv 0) (.mul (.v 1) (.c 2))) (.c 16777216)), (.le (.c (-16777216)) (.nthI (.lv 0) (.mul (.v 1) (.c 2)))), (.lt (.v 1) (.v 0)), (.le (.c 0) (.v 1)), (.le (.v 1) (.v 0)), (.le (.v 1) (.c 1024)), (.happ 1 (.cons (.v 1) (.lv 0))), (.happ 2 (.cons (.v 1) (.lv 0))), (.le (.v 0) (.c 1024)), (.le (.c 2) (.v 0)), (.le (.c 0) (.v 0)), (.le (.v 0) (.c 9223372036854775807))], []⟩,
⟨(.must (.happ 1 (.cons (.add (.v 1) (.c 1)) (.lv 0)))), [(.not (.eq (.wrap .i64 (.sub (.nthI (.lv 0) (.add (.mul (.v 1) (.c 2)) (.c 1))) (.nthI (.lv 0) (.add (.mul (.sub (.v 1) (.c 1)) (.c 2)) (.c 1))))) (.c 0))), (.eq (.wrap .i64 (.sub (.nthI (.lv 0) (.mul (.v 1) (.c 2))) (.nthI (.lv 0) (.mul (.sub (.v 1) (.c 1)) (.c 2))))) (.c 0)), (.lt (.sub (.v 1) (.c 1)) (.v 0)), (.le (.c 0) (.sub (.v 1) (.c 1))), (.not (.eq (.v 1) (.c 0))), (.le (.nthI (.lv 0) (.add (.mul (.v 1) (.c 2)) (.c 1))) (.c 16777216)), (.le (.c (-16777216)) (.nthI (.lv 0) (.add (.mul (.v 1) (.c 2)) (.c 1)))), (.le (.nthI (.lv 0) (.mul (.v 1) (.c 2))) (.c 16777216)), (.le (.c (-16777216)) (.nthI (.lv 0) (.mul (.v 1) (.c 2)))), (.lt (.v 1) (.v 0)), (.le (.c 0) (.v 1)), (.le (.v 1) (.v 0)), (.le (.v 1) (.c 1024)), (.happ 1 (.cons (.v 1) (.lv 0))), (.happ 2 (.cons (.v 1) (.lv 0))), (.le (.v 0) (.c 1024)), (.le (.c 2) (.v 0)), (.le (.c 0) (.v 0)), (.le (.v 0) (.c 9223372036854775807))], []⟩,
⟨(.must (.happ 2 (.cons (.add (.v 1) (.c 1)) (.lv 0)))), [(.not (.eq (.wrap .i64 (.sub (.nthI (.lv 0) (.add (.mul (.v 1) (.c 2)) (.c 1))) (.nthI (.lv 0) (.add (.mul (.sub (.v 1) (.c 1)) (.c 2)) (.c 1))))) (.c 0))), (.eq (.wrap .i64 (.sub (.nthI (.lv 0) (.mul (.v 1) (.c 2))) (.nthI (.lv 0) (.mul (.sub (.v 1) (.c 1)) (.c 2))))) (.c 0)), (.lt (.sub (.v 1) (.c 1)) (.v 0)), (.le (.c 0) (.sub (.v 1) (.c 1))), (.not (.eq (.v 1) (.c 0))), (.le (.nthI (.lv 0) (.add (.mul (.v 1) (.c 2)) (.c 1))) (.c 16777216)), (.le (.c (-16777216)) (.nthI (.lv 0) (.add (.mul (.v 1) (.c 2)) (.c 1)))), (.le (.nthI (.lv 0) (.mul (.v 1) (.c 2))) (.c 16777216)), (.le (.c (-16777216)) (.nthI (.lv 0) (.mul (.v 1) (.c 2)))), (.lt (.v 1) (.v 0)), (.le (.c 0) (.v 1)), (.le (.v 1) (.v 0)), (.le (.v 1) (.c 1024)), (.happ 1 (.cons (.v 1) (.lv 0))), (.happ 2 (.cons (.v 1) (.lv 0))), (.le (.v 0) (.c 1024)), (.le (.c 2) (.v 0)), (.le (.c 0) (.v 0)), (.le (.v 0) (.c 9223372036854775807))], []⟩,
⟨(.val (.b .ff)), [(.lt (.nthI (.lv 0) (.add (.mul (.v 1) (.c 2)) (.c 1))) (.c (-16777216))), (.le (.nthI (.lv 0) (.mul (.v 1) (.c 2))) (.c 16777216)), (.le (.c (-16777216)) (.nthI (.lv 0) (.mul (.v 1) (.c 2)))), (.lt (.v 1) (.v 0)), (.le (.c 0) (.v 1)), (.le (.v 1) (.v 0)), (.le (.v 1) (.c 1024)), (.happ 1 (.cons (.v 1) (.lv 0))), (.happ 2 (.cons (.v 1) (.lv 0))), (.le (.v 0) (.c 1024)), (.le (.c 2) (.v 0)), (.le (.c 0) (.v 0)), (.le (.v 0) (.c 9223372036854775807))], []⟩,
⟨(.val (.b .ff)), [(.lt (.c 16777216) (.nthI (.lv 0) (.mul (.v 1) (.c 2)))), (.le (.c (-16777216)) (.nthI (.lv 0) (.mul (.v 1) (.c 2)))), (.lt (.v 1) (.v 0)), (.le (.c 0) (.v 1)), (.le (.v 1) (.v 0)), (.le (.v 1) (.c 1024)), (.happ 1 (.cons (.v 1) (.lv 0))), (.happ 2 (.cons (.v 1) (.lv 0))), (.le (.v 0) (.c 1024)), (.le (.c 2) (.v 0)), (.le (.c 0) (.v 0)), (.le (.v 0) (.c 9223372036854775807))], []⟩,
⟨(.val (.b .ff)), [(.lt (.nthI (.lv 0) (.mul (.v 1) (.c 2))) (.c (-16777216))), (.lt (.v 1) (.v 0)), (.le (.c 0) (.v 1)), (.le (.v 1) (.v 0)), (.le (.v 1) (.c 1024)), (.happ 1 (.cons (.v 1) (.lv 0))), (.happ 2 (.cons (.v 1) (.lv 0))), (.le (.v 0) (.c 1024)), (.le (.c 2) (.v 0)), (.le (.c 0) (.v 0)), (.le (.v 0) (.c 9223372036854775807))], []⟩,
⟨(.val (.b .tt)), [(.le (.v 0) (.v 1)), (.le (.c 0) (.v 1)), (.le (.v 1) (.v 0)), (.le (.v 1) (.c 1024)), (.happ 1 (.cons (.v 1) (.lv 0))), (.happ 2 (.cons (.v 1) (.lv 0))), (.le (.v 0) (.c 1024)), (.le (.c 2) (.v 0)), (.le (.c 0) (.v 0)), (.le (.v 0) (.c 9223372036854775807))], []⟩,
⟨(.val (.b .ff)), [(.lt (.v 0) (.c 2)), (.le (.c 0) (.v 0)), (.le (.v 0) (.c 9223372036854775807))], []⟩] (by kernel_rfl) ρ w hF hT hR ⟨?_, ?_, ?_, ?_, ?_, ?_, ?_, ?_, ?_, ?_, ?_, ?_, ?_, ?_, ?_, ?_, ?_, ?_, ?_⟩ (u.J w)
  all_goals
    intro ρ' w' hx _ hF hb _
    have e0 : ρ'.i 0 = ρ.i 0 := hx.i 0 (by decide)
    have l0 : ρ'.l 0 = ρ.l 0 := hx.l 0 (by decide)
    have hh' : ρ'.h = Tk.hF := by rw [hx.h]; exact hh
    clear hx hR
    simp only [holds, List.mem_cons, List.not_mem_nil, or_false, forall_eq_or_imp, forall_eq, B_le, B_lt, B_eq, B_not, I_add, I_sub, I_mul, I_ite, I_wrap, I_c, I_v, I_nthI, L_lv, h_1 hh', h_2 hh', e0, l0, nI_eq, sX_f, sY_f, decide_eq_true_eq, Bool.not_eq_true', decide_eq_false_iff_not, den_b, B_t, B_f] at hF ⊢
    first
      | exact allTo_zero _
      | exact track_no hh (fun h => by have := (track_iff.1 h).1; omega) hb
      | (refine track_no hh (not_spots (k := ρ'.i 1) (by omega) (by omega) (fun h => ?_)) hb
         have := spB_iff.1 h
         omega)
      | (have hP : allTo (ρ'.i 1) (spB (ρ.l 0)) = true := by (revert hF; simp only [and_imp]; intros; assumption)
         rw [allTo_succ (by omega), spB_iff.2 (by omega), Bool.and_true]; exact hP)
      | (have z : ρ'.i 1 = 0 := by omega
         rw [z]; exact leg_one _)
      | (have hP : allTo (ρ'.i 1) (spB (ρ.l 0)) = true := by (revert hF; simp only [and_imp]; intros; assumption)
         have hQ : allTo (ρ'.i 1) (legB (ρ.l 0)) = true := by (revert hF; simp only [and_imp]; intros; assumption)
         rw [show ρ'.i 1 = ρ.i 0 by omega] at hP hQ
         exact track_yes hh hR0 (by omega) hP hQ hb)
      | (have hP : allTo (ρ'.i 1) (spB (ρ.l 0)) = true := by (revert hF; simp only [and_imp]; intros; assumption)
         have p := spB_iff.1 (allTo_at hP (k := ρ'.i 1 - 1) (by omega) (by omega))
         have w1 : IntKind.i64.wrap (sX (ρ.l 0) (ρ'.i 1) - sX (ρ.l 0) (ρ'.i 1 - 1)) = sX (ρ.l 0) (ρ'.i 1) - sX (ρ.l 0) (ρ'.i 1 - 1) := by rw [IntKind.wrap_i64]; omega
         have w2 : IntKind.i64.wrap (sY (ρ.l 0) (ρ'.i 1) - sY (ρ.l 0) (ρ'.i 1 - 1)) = sY (ρ.l 0) (ρ'.i 1) - sY (ρ.l 0) (ρ'.i 1 - 1) := by rw [IntKind.wrap_i64]; omega
         have w3 : IntKind.i64.wrap (0 - (sX (ρ.l 0) (ρ'.i 1) - sX (ρ.l 0) (ρ'.i 1 - 1))) = 0 - (sX (ρ.l 0) (ρ'.i 1) - sX (ρ.l 0) (ρ'.i 1 - 1)) := by rw [IntKind.wrap_i64]; omega
         have w4 : IntKind.i64.wrap (0 - (sY (ρ.l 0) (ρ'.i 1) - sY (ρ.l 0) (ρ'.i 1 - 1))) = 0 - (sY (ρ.l 0) (ρ'.i 1) - sY (ρ.l 0) (ρ'.i 1 - 1)) := by rw [IntKind.wrap_i64]; omega
         simp only [w1, w2, w3, w4, mx_ab] at hF
         have a1 := ab_or (sX (ρ.l 0) (ρ'.i 1) - sX (ρ.l 0) (ρ'.i 1 - 1))
         have a2 := ab_or (sY (ρ.l 0) (ρ'.i 1) - sY (ρ.l 0) (ρ'.i 1 - 1))
         first
         | (refine track_no hh (not_legs (k := ρ'.i 1) (by omega) (by omega) (fun h => ?_)) hb
            rw [legB_iff (by omega)] at h
            have := wayB_iff.1 h
            omega)
         | (have hQ : allTo (ρ'.i 1) (legB (ρ.l 0)) = true := by (revert hF; simp only [and_imp]; intros; assumption)
            rw [allTo_succ (by omega), legB_iff (by omega), wayB_iff.2 (by omega), Bool.and_true]; exact hQ))
end Go.Proofs.Ythihccmombcihaa.Tk
end
