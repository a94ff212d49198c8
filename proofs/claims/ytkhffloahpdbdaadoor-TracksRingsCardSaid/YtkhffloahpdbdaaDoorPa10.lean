/- Layer 8 (tracks): what all share. Layer 8 (tracks): what the document says, as plain functions; the table of names. Layer 8 (tracks): which tracks are valid. Layer 8 (tracks): what an expanding square and a sector lay: the mathematics. Layer 8 (tracks): what parallel tracks lay: the mathematics. Layer 8 (tracks): Square, by the code. Layer 8 (tracks): Square, by the document. Layer 8 (tracks): Sector, by the code. Layer 8 (tracks): Sector, by the document. Layer 8 (tracks): Parallel, by the code. Layer 8 (tracks): squares and sectors are tracks, and what squares are near to: the mathematics. -/
import Derived.Test.YtkhffloahpdbdaaDoorProg
import Derived.Test.YtkhffloahpdbdaaDoorPa9
section
namespace Go.Proofs.YtkhffloahpdbdaaDoor.Tk
open Go Go.Proofs.YtkhffloahpdbdaaDoor.Sx Go.RowKit
variable {TT : Tb}
abbrev DD : Dec := decideN (decideL2 decideB)
theorem dd_ok : DecOk TT DD := decideN_ok (decideL2_ok decB_ok)
def K : LK := .sc (.i .i64)
def btw (lo : Int) (k : Nat) (hi : Int) : List E := [.le (.c lo) (.v k), .le (.v k) (.c hi)]
def els (l : List Nat) : E := (l.map E.v).foldr .cons .nil
end Go.Proofs.YtkhffloahpdbdaaDoor.Tk
end
section
namespace Go.Proofs.YtkhffloahpdbdaaDoor.Tk
open Go Go.Proofs.YtkhffloahpdbdaaDoor.Sx Go.RowKit

def sX (l : LL) (k : Int) : Int := nI l (k * 2)
def sY (l : LL) (k : Int) : Int := nI l (k * 2 + 1)
theorem sX_f (l : LL) (k : Int) : nI l (k * 2) = sX l k := rfl
theorem sY_f (l : LL) (k : Int) : nI l (k * 2 + 1) = sY l k := rfl
def spotB (x y : Int) : Bool := decide (-16777216 ≤ x ∧ x ≤ 16777216) && decide (-16777216 ≤ y ∧ y ≤ 16777216)
def spB (l : LL) (k : Int) : Bool := spotB (sX l k) (sY l k)
/-- a leg that ends at a spot: straight or diagonal. -/
def wayB (u v : Int) : Bool := decide ((u = 0 ∧ v ≠ 0) ∨ (u ≠ 0 ∧ v = 0) ∨ (u ≠ 0 ∧ (u = v ∨ u = -v)))
def legB (l : LL) (k : Int) : Bool := decide (k = 0) || wayB (sX l k - sX l (k - 1)) (sY l k - sY l (k - 1))
def trackB (n : Int) (l : LL) : Bool := decide (2 ≤ n ∧ n ≤ 1024) && allTo n (spB l) && allTo n (legB l)
def sg (x : Int) : Int := if x < 0 then -1 else if 0 < x then 1 else 0
/-- is a spot not farther from a leg than a width? -/
def reachB (ax ay bx by' x y w : Int) : Bool :=
  let p := sg (bx - ax); let q := sg (by' - ay)
  if (x - ax) * p + (y - ay) * q < 0 then decide ((x - ax) * (x - ax) + (y - ay) * (y - ay) ≤ w * w)
  else if (bx - x) * p + (by' - y) * q < 0 then decide ((bx - x) * (bx - x) + (by' - y) * (by' - y) ≤ w * w)
  else decide (((x - ax) * q - (y - ay) * p) * ((x - ax) * q - (y - ay) * p) ≤ w * w * (p * p + q * q))
def farB (x y w : Int) (l : LL) (k : Int) : Bool := decide (k = 0) || !reachB (sX l (k - 1)) (sY l (k - 1)) (sX l k) (sY l k) x y w
def nearB (x y w n : Int) (l : LL) : Bool := !allTo n (farB x y w l)
/-! lengths -/
def ab (x : Int) : Int := if x < 0 then -x else x
def strW (l : LL) (k : Int) : Int := if k = 0 then 0 else if ab (sX l k - sX l (k - 1)) = ab (sY l k - sY l (k - 1)) then 0 else ab (sX l k - sX l (k - 1)) + ab (sY l k - sY l (k - 1))
def diaW (l : LL) (k : Int) : Int := if k = 0 then 0 else if ab (sX l k - sX l (k - 1)) = ab (sY l k - sY l (k - 1)) then ab (sX l k - sX l (k - 1)) else 0
def sumTo (f : Int → Int) : Nat → Int
  | 0 => 0
  | k + 1 => sumTo f k + f k
def strF (n : Int) (l : LL) : Int := sumTo (strW l) n.toNat
def diaF (n : Int) (l : LL) : Int := sumTo (diaW l) n.toNat
/-- the greatest number below so many whose square is at most twice the square of another one. -/
def rootN (d : Int) : Nat → Int
  | 0 => 0
  | k + 1 => if ((k + 1 : Nat) : Int) * ((k + 1 : Nat) : Int) ≤ 2 * (d * d) then ((k + 1 : Nat) : Int) else rootN d k
def root2 (d : Int) : Int := rootN d (2 * d).toNat
theorem sq_nn (d : Int) : 0 ≤ d * d := by
  rcases Int.le_total 0 d with h | h
  · exact Int.mul_nonneg h h
  · exact Int.mul_nonneg_of_nonpos_of_nonpos h h
theorem rootN_spec {d : Int} : ∀ k : Nat, 0 ≤ rootN d k ∧ rootN d k ≤ k ∧ rootN d k * rootN d k ≤ 2 * (d * d) ∧ ∀ m : Int, rootN d k < m → m ≤ k → 2 * (d * d) < m * m
  | 0 => ⟨Int.le_refl _, Int.le_refl _, by simp only [rootN]; have := sq_nn d; omega, fun m h1 h2 => by simp only [rootN] at h1; simp at h2; omega⟩
  | k + 1 => by
    unfold rootN
    split
    · rename_i h
      exact ⟨by omega, Int.le_refl _, h, fun m h1 h2 => by omega⟩
    · rename_i h
      obtain ⟨h0, h1, h2, h3⟩ := rootN_spec (d := d) k
      refine ⟨h0, by omega, h2, fun m k1 k2 => ?_⟩
      rcases Int.lt_or_le m ((k + 1 : Nat) : Int) with hh | hh
      · exact h3 m k1 (by omega)
      · obtain rfl : m = ((k + 1 : Nat) : Int) := by omega
        omega
theorem sq_lt {a b : Int} (ha : 0 ≤ a) (h : a < b) : a * a < b * b := by
  have h1 : a * a ≤ a * b := Int.mul_le_mul_of_nonneg_left (by omega) ha
  have h2 : a * b < b * b := Int.mul_lt_mul_of_pos_right h (by omega)
  omega
theorem sq_le {a b : Int} (ha : 0 ≤ a) (h : a ≤ b) : a * a ≤ b * b := Int.mul_le_mul h h ha (by omega)
theorem root2_spec {d : Int} (hd : 0 ≤ d) : 0 ≤ root2 d ∧ root2 d ≤ 2 * d ∧ root2 d * root2 d ≤ 2 * (d * d) ∧ 2 * (d * d) < (root2 d + 1) * (root2 d + 1) := by
  obtain ⟨h0, h1, h2, h3⟩ := rootN_spec (d := d) (2 * d).toNat
  unfold root2
  refine ⟨h0, by omega, h2, ?_⟩
  rcases Int.lt_or_le (rootN d (2 * d).toNat) (2 * d) with hh | hh
  · exact h3 _ (by omega) (by omega)
  · have e : rootN d (2 * d).toNat = 2 * d := by omega
    rw [e]
    have h4 := sq_lt (a := 2 * d) (b := 2 * d + 1) (by omega) (by omega)
    have h5 : (2 * d) * (2 * d) = 4 * (d * d) := by grind
    have h6 := sq_nn d
    omega
theorem root2_is {d r : Int} (hd : 0 ≤ d) (h0 : 0 ≤ r) (h1 : r * r ≤ 2 * (d * d)) (h2 : 2 * (d * d) < (r + 1) * (r + 1)) : r = root2 d := by
  obtain ⟨k0, -, k1, k2⟩ := root2_spec hd
  rcases Int.lt_trichotomy r (root2 d) with h | h | h
  · have := sq_le (a := r + 1) (b := root2 d) (by omega) (by omega); omega
  · exact h
  · have := sq_le (a := root2 d + 1) (b := r) (by omega) (by omega); omega
def lowF (n : Int) (l : LL) : Int := if trackB n l = true then strF n l + root2 (diaF n l) else 0
def highF (n : Int) (l : LL) : Int := if trackB n l = true then (if 0 < diaF n l then strF n l + root2 (diaF n l) + 1 else strF n l + root2 (diaF n l)) else 0
def errT (n : Int) (l : LL) : Int := if trackB n l = true then 0 else 2
def parY (ly hy sp : Int) (k : Nat) : Int := min (ly + sp.tdiv 2 + k * sp) hy
def parX (lx hx : Int) (k : Nat) : Int := if k % 2 = 0 then lx else hx
def pt (al : Bool) (x y : Int) : LL := if al then [(y, ⟨#[]⟩), (x, ⟨#[]⟩)] else [(x, ⟨#[]⟩), (y, ⟨#[]⟩)]
/-- the spots of the first lines. -/
def parL (al : Bool) (lx ly hx hy sp : Int) : Nat → LL
  | 0 => []
  | k + 1 => parL al lx ly hx hy sp k ++ (pt al (parX lx hx k) (parY ly hy sp k) ++ pt al (parX lx hx (k + 1)) (parY ly hy sp k))
/-- how far lines are laid: how many, where the next one begins and ends, the spots (a box as it is given). -/
def parI (al k fr to' x0 y0 x1 y1 sp : Int) (l : LL) : Bool :=
  if al = 1 then decide (l = parL true y0 x0 y1 x1 sp k.toNat ∧ fr = parX y0 y1 k.toNat ∧ to' = parX y0 y1 (k.toNat + 1))
  else decide (l = parL false x0 y0 x1 y1 sp k.toNat ∧ fr = parX x0 x1 k.toNat ∧ to' = parX x0 x1 (k.toNat + 1))
def pow2B (s : Int) : Bool := decide (s = 0) || (List.range 38).any fun k => decide (s = 2 ^ k)
def stepB (s low d : Int) : Bool := pow2B s && decide (low * low ≤ 2 * (d * d)) && decide (2 * (d * d) < (low + max (2 * s) 1) * (low + max (2 * s) 1))
/-- how far a list of spots has been turned round: up to one spot, and down to another one (two lists, one behind the other). -/
def revB (i j n : Int) (l : LL) : Bool := allTo n fun k => decide (if k < i ∨ j < k then sX (l.drop (2 * n.toNat)) k = sX l (n - 1 - k) ∧ sY (l.drop (2 * n.toNat)) k = sY l (n - 1 - k) else sX (l.drop (2 * n.toNat)) k = sX l k ∧ sY (l.drop (2 * n.toNat)) k = sY l k)
def gF : Nat → LL → Int
  | 1, l => lowF (nI l 0) (l.drop 1)
  | 2, l => highF (nI l 0) (l.drop 1)
  | 3, l => errT (nI l 0) (l.drop 1)
  | 4, l => root2 (nI l 0)
  | 5, l => strF (nI l 0) (l.drop 1)
  | 6, l => diaF (nI l 0) (l.drop 1)
  | _, _ => 0
def hF : Nat → LL → Bool
  | 1, l => allTo (nI l 0) (spB (l.drop 1))
  | 2, l => allTo (nI l 0) (legB (l.drop 1))
  | 3, l => trackB (nI l 0) (l.drop 1)
  | 4, l => allTo (nI l 0) (farB (nI l 1) (nI l 2) (nI l 3) (l.drop 4))
  | 5, l => reachB (nI l 0) (nI l 1) (nI l 2) (nI l 3) (nI l 4) (nI l 5) (nI l 6)
  | 6, l => parI (nI l 0) (nI l 1) (nI l 2) (nI l 3) (nI l 4) (nI l 5) (nI l 6) (nI l 7) (nI l 8) (l.drop 9)
  | 7, l => stepB (nI l 0) (nI l 1) (nI l 2)
  | 8, l => revB (nI l 0) (nI l 1) (nI l 2) (l.drop 3)
  | _, _ => false
def UTab (g : Nat → LL → Int) (h : Nat → LL → Bool) (_k : Nat → LL → ByteArray) (_m : Nat → LL → LL) : Prop := g = gF ∧ h = hF
structure Fit (TT : Tb) : Prop where
  tab : ∀ {g h k m}, TT.tab g h k m → UTab g h k m
  J : ∀ w, TT.J w
def UT : Tb := { tab := UTab }
theorem Fit.open {TT : Tb} (u : Fit TT) : Fit TT.open := ⟨u.tab, u.J⟩
theorem fit_UT : Fit UT := ⟨fun h => h, fun _ => trivial⟩
theorem fit_open : Fit UT.open := fit_UT.open
/-! terms -/
def rowK : AK := .one (.row [.i .i64, .i .i64])
def spotK : AK := .ag [K, K]
def nF (k : Nat) : List E := [.le (.c 0) (.v k), .le (.v k) (.c 9223372036854775807)]
def hE (h : Nat) (e : E) (k : Nat) : E := .happ h (.cons e (.lv k))
def gE (g : Nat) (k : Nat) : E := .app g (.cons (.v k) (.lv k))
def xE (k : Nat) (i : E) : E := .nthI (.lv k) (.mul i (.c 2))
def yE (k : Nat) (i : E) : E := .nthI (.lv k) (.add (.mul i (.c 2)) (.c 1))
def trackE (k : Nat) : E := hE 3 (.v k) k
def rngE (k : Nat) : E := .allr (-16777216) 16777216 (.lv k)
def trackFs (k : Nat) : List E := [trackE k, .le (.c 2) (.v k), .le (.v k) (.c 1024), rngE k]
def trackCs : List (V × List E) := [(.b .tt, trackFs 0), (.b .ff, [.not (trackE 0)])]
def spotFs (k : Nat) : List E := btw (-16777216) k 16777216 ++ btw (-16777216) (k + 1) 16777216
def spotL : LoopSpec := { key := 2, locs := [.t 8 (.i .i64)], facts := fun n => [.le (.c 0) (.v n), .le (.v n) (.v 0), .le (.v n) (.c 1024), hE 1 (.v n) 0], meas := fun n => .sub (.v 0) (.v n) }
def legL : LoopSpec := { key := 1, locs := [.t 3 (.i .i64)], facts := fun n => [.le (.c 1) (.v n), .le (.v n) (.v 0), .le (.v n) (.c 1024), hE 2 (.v n) 0], meas := fun n => .sub (.v 0) (.v n) }
def trackRL : LoopSpec := { key := 4, locs := [.t 3 (.i .i64)], facts := fun n => [.le (.c 0) (.v n), .le (.v n) (.v 0), .le (.v n) (.c 1024), hE 1 (.v n) 0, hE 2 (.v n) 0], meas := fun n => .sub (.v 0) (.v n) }
section
variable {ρ : Env}
theorem h_1 (hh : ρ.h = hF) (n l : E) : (E.happ 1 (.cons n l)).B ρ = allTo (n.I ρ) (spB (l.L ρ)) := by rw [B_happ, hh]; rfl
theorem h_2 (hh : ρ.h = hF) (n l : E) : (E.happ 2 (.cons n l)).B ρ = allTo (n.I ρ) (legB (l.L ρ)) := by rw [B_happ, hh]; rfl
theorem h_3 (hh : ρ.h = hF) (n l : E) : (E.happ 3 (.cons n l)).B ρ = trackB (n.I ρ) (l.L ρ) := by rw [B_happ, hh]; rfl
theorem h_4 (hh : ρ.h = hF) (n x y w l : E) : (E.happ 4 (.cons n (.cons x (.cons y (.cons w l))))).B ρ = allTo (n.I ρ) (farB (x.I ρ) (y.I ρ) (w.I ρ) (l.L ρ)) := by rw [B_happ, hh]; rfl
theorem h_5 (hh : ρ.h = hF) (a b c d x y w : E) : (E.happ 5 (.cons a (.cons b (.cons c (.cons d (.cons x (.cons y (.cons w .nil)))))))).B ρ = reachB (a.I ρ) (b.I ρ) (c.I ρ) (d.I ρ) (x.I ρ) (y.I ρ) (w.I ρ) := by rw [B_happ, hh]; rfl
theorem h_6 (hh : ρ.h = hF) (al k fr to' x0 y0 x1 y1 sp l : E) : (E.happ 6 (.cons al (.cons k (.cons fr (.cons to' (.cons x0 (.cons y0 (.cons x1 (.cons y1 (.cons sp l)))))))))).B ρ = parI (al.I ρ) (k.I ρ) (fr.I ρ) (to'.I ρ) (x0.I ρ) (y0.I ρ) (x1.I ρ) (y1.I ρ) (sp.I ρ) (l.L ρ) := by rw [B_happ, hh]; rfl
theorem h_7 (hh : ρ.h = hF) (s low d : E) : (E.happ 7 (.cons s (.cons low (.cons d .nil)))).B ρ = stepB (s.I ρ) (low.I ρ) (d.I ρ) := by rw [B_happ, hh]; rfl
theorem h_8 (hh : ρ.h = hF) (i j n l : E) : (E.happ 8 (.cons i (.cons j (.cons n l)))).B ρ = revB (i.I ρ) (j.I ρ) (n.I ρ) (l.L ρ) := by rw [B_happ, hh]; rfl
theorem g_1 (hg : ρ.g = gF) (n l : E) : (E.app 1 (.cons n l)).I ρ = lowF (n.I ρ) (l.L ρ) := by rw [I_app, hg]; rfl
theorem g_2 (hg : ρ.g = gF) (n l : E) : (E.app 2 (.cons n l)).I ρ = highF (n.I ρ) (l.L ρ) := by rw [I_app, hg]; rfl
theorem g_3 (hg : ρ.g = gF) (n l : E) : (E.app 3 (.cons n l)).I ρ = errT (n.I ρ) (l.L ρ) := by rw [I_app, hg]; rfl
theorem g_4 (hg : ρ.g = gF) (n l : E) : (E.app 4 (.cons n l)).I ρ = root2 (n.I ρ) := by rw [I_app, hg]; rfl
theorem g_5 (hg : ρ.g = gF) (n l : E) : (E.app 5 (.cons n l)).I ρ = strF (n.I ρ) (l.L ρ) := by rw [I_app, hg]; rfl
theorem g_6 (hg : ρ.g = gF) (n l : E) : (E.app 6 (.cons n l)).I ρ = diaF (n.I ρ) (l.L ρ) := by rw [I_app, hg]; rfl
end
/-! what a track's elements are -/
theorem track_iff {n : Int} {l : LL} : trackB n l = true ↔ (2 ≤ n ∧ n ≤ 1024) ∧ allTo n (spB l) = true ∧ allTo n (legB l) = true := by simp [trackB, and_assoc]
theorem spB_iff {l : LL} {k : Int} : spB l k = true ↔ (-16777216 ≤ sX l k ∧ sX l k ≤ 16777216) ∧ (-16777216 ≤ sY l k ∧ sY l k ≤ 16777216) := by simp [spB, spotB]
theorem wayB_iff {u v : Int} : wayB u v = true ↔ ((u = 0 ∧ v ≠ 0) ∨ (u ≠ 0 ∧ v = 0) ∨ (u ≠ 0 ∧ (u = v ∨ u = -v))) := by simp [wayB]
theorem legB_iff {l : LL} {k : Int} (hk : k ≠ 0) : legB l k = wayB (sX l k - sX l (k - 1)) (sY l k - sY l (k - 1)) := by simp [legB, hk]
theorem rng_of {l : LL} {n : Int} (_hn : 0 ≤ n) (hl : l.length = n.toNat * 2) (h : allTo n (spB l) = true) : (l.all fun p => decide (-16777216 ≤ p.1 ∧ p.1 ≤ 16777216)) = true := by
  rw [List.all_eq_true]
  intro p hp
  obtain ⟨i, hi, rfl⟩ := List.getElem_of_mem hp
  have h1 := spB_iff.1 (allTo_at h (k := ((i / 2 : Nat) : Int)) (Int.natCast_nonneg _) (by omega))
  have e : nI l (i : Int) = l[i].1 := by unfold nI; rw [show (i : Int).toNat = i by omega, List.getElem?_eq_getElem hi]; rfl
  simp only [decide_eq_true_eq]
  rcases Nat.mod_two_eq_zero_or_one i with h2 | h2
  · have e2 : sX l ((i / 2 : Nat) : Int) = l[i].1 := by rw [← e]; unfold sX; congr 1; omega
    omega
  · have e2 : sY l ((i / 2 : Nat) : Int) = l[i].1 := by rw [← e]; unfold sY; congr 1; omega
    omega
end Go.Proofs.YtkhffloahpdbdaaDoor.Tk
end
section
namespace Go.Proofs.YtkhffloahpdbdaaDoor.Tk
open Go Go.Proofs.YtkhffloahpdbdaaDoor.Sx Go.RowKit
variable {TT : Tb}
theorem row_n {ρ : Env} {w : World} {aks : List AK} (hR : RowsAt ρ w aks) {k : Nat} {kds : List Kd} (hk : (k, rowL k kds) ∈ rowsL 0 (ksOf aks)) : 0 ≤ ρ.i k ∧ ρ.i k ≤ 9223372036854775807 := by
  have := (hR _ hk).2 0
  unfold Row.at at this
  obtain ⟨h0, h1, h2⟩ := this
  have h3 : maxLen = 9223372036854775807 := rfl
  refine ⟨h0, ?_⟩
  rw [if_neg (by simp [rowL])] at h2
  rcases h2.2 with ⟨-, e⟩ | ⟨a, cap, -, -, -, hc, -⟩
  · have : ρ.i k = 0 := e
    omega
  · have : (ρ.i k).toNat ≤ cap := hc.1
    omega

theorem nF_of {ρ : Env} {w : World} {aks : List AK} (hR : RowsAt ρ w aks) {k : Nat} {kds : List Kd} (hk : (k, rowL k kds) ∈ rowsL 0 (ksOf aks)) : holds ρ (nF k) := by
  simp only [holds, nF, List.mem_cons, List.not_mem_nil, or_false, forall_eq_or_imp, forall_eq, B_le, I_c, I_v, decide_eq_true_eq]; exact row_n hR hk
def P2 : List Kd := [.i .i64, .i .i64]
theorem row_in (l : List AK) : (0, rowL 0 P2) ∈ rowsL 0 (ksOf (rowK :: l)) := by simp [ksOf, rowK, AK.ks, rowsL, P2]
theorem hE_1 {ρ : Env} (hh : ρ.h = Tk.hF) (e : E) (k : Nat) : (hE 1 e k).B ρ = allTo (e.I ρ) (spB (ρ.l k)) := h_1 hh _ _
theorem hE_3 {ρ : Env} (hh : ρ.h = Tk.hF) (e : E) (k : Nat) : (hE 3 e k).B ρ = trackB (e.I ρ) (ρ.l k) := h_3 hh _ _
theorem rng_E {ρ : Env} {w : World} {l : List AK} (hR : RowsAt ρ w (rowK :: l)) (h : allTo (ρ.i 0) (spB (ρ.l 0)) = true) : (rngE 0).B ρ = true := by
  obtain ⟨h0, h1⟩ := row_facts hR (row_in l)
  simp only [rngE, B_allr, L_lv]
  exact rng_of h0 (by simpa [P2] using h1) h
def cAlive := ctrVal 12 [] [] (.b .tt) []
theorem alive_ok (u : Fit TT) : CtrOk TT Tryd.prog cAlive := auto_val (Γ := {}) (by simp) 2000 rfl (by kernel_rfl) u.J
/-! ### Spots -/
def spotsFs : List E := [hE 1 (.v 0) 0, rngE 0]
def spotsCs : List (V × List E) := [(.b .tt, spotsFs), (.b .ff, [.not (hE 1 (.v 0) 0)])]
def nF1 : List E := [.le (.c 0) (.v 0), .le (.v 0) (.c 1024)]
def cSpots := ctrCases 35 [rowK] nF1 spotsCs
theorem spots_yes {ρ : Env} (hh : ρ.h = Tk.hF) {w w' : World} {l : List AK} (hR : RowsAt ρ w (rowK :: l)) (h : allTo (ρ.i 0) (spB (ρ.l 0)) = true) (hb : Below w.heap.size w w') : (∃ c ∈ spotsCs, Ending.returned (.bool true) = .returned (c.1.den ρ) ∧ ∀ a ∈ c.2, a.B ρ = true) ∧ Below w.heap.size w w' := by
  refine ⟨⟨_, List.mem_cons_self, rfl, ?_⟩, hb⟩
  simp only [spotsFs, List.mem_cons, List.not_mem_nil, or_false, forall_eq_or_imp, forall_eq]
  exact ⟨by rw [hE_1 hh]; exact h, rng_E hR h⟩
theorem spots_no {ρ : Env} (hh : ρ.h = Tk.hF) {w w' : World} {k : Int} (h0 : 0 ≤ k) (hk : k < ρ.i 0) (h : ¬ spB (ρ.l 0) k = true) (hb : Below w.heap.size w w') : (∃ c ∈ spotsCs, Ending.returned (.bool false) = .returned (c.1.den ρ) ∧ ∀ a ∈ c.2, a.B ρ = true) ∧ Below w.heap.size w w' := by
  refine ⟨⟨_, List.mem_cons_of_mem _ List.mem_cons_self, rfl, ?_⟩, hb⟩
  simp only [List.mem_cons, List.not_mem_nil, or_false, forall_eq, B_not, hE_1 hh, I_v, Bool.not_eq_true']
  exact allTo_not h0 hk (by simpa using h)
theorem areSpots_ok (u : Fit TT) : CtrOk TT Tryd.prog cSpots := ctrCases_ok rfl fun ρ w hF hT hR => by
  have hh := (u.tab hT).2
  have hR0 := hR
  refine cases_rest dd_ok (Γ := { loops := [spotL] }) (by simp) 400 [rowK] nF1 spotsCs (by decide)
    [⟨(.must (.happ 1 (.cons (.c 0) (.lv 0)))), [(.le (.c 0) (.v 0)), (.le (.v 0) (.c 1024))], []⟩,
⟨(.val (.b .ff)), [(.lt (.c 16777216) (.nthI (.lv 0) (.add (.mul (.v 1) (.c 2)) (.c 1)))), (.le (.c (-16777216)) (.nthI (.lv 0) (.add (.mul (.v 1) (.c 2)) (.c 1)))), (.le (.nthI (.lv 0) (.mul (.v 1) (.c 2))) (.c 16777216)), (.le (.c (-16777216)) (.nthI (.lv 0) (.mul (.v 1) (.c 2)))), (.lt (.v 1) (.v 0)), (.le (.c 0) (.v 1)), (.le (.v 1) (.v 0)), (.le (.v 1) (.c 1024)), (.happ 1 (.cons (.v 1) (.lv 0))), (.le (.c 0) (.v 0)), (.le (.v 0) (.c 1024))], []⟩,
⟨(.must (.happ 1 (.cons (.add (.v 1) (.c 1)) (.lv 0)))), [(.le (.nthI (.lv 0) (.add (.mul (.v 1) (.c 2)) (.c 1))) (.c 16777216)), (.le (.c (-16777216)) (.nthI (.lv 0) (.add (.mul (.v 1) (.c 2)) (.c 1)))), (.le (.nthI (.lv 0) (.mul (.v 1) (.c 2))) (.c 16777216)), (.le (.c (-16777216)) (.nthI (.lv 0) (.mul (.v 1) (.c 2)))), (.lt (.v 1) (.v 0)), (.le (.c 0) (.v 1)), (.le (.v 1) (.v 0)), (.le (.v 1) (.c 1024)), (.happ 1 (.cons (.v 1) (.lv 0))), (.le (.c 0) (.v 0)), (.le (.v 0) (.c 1024))], []⟩,
⟨(.val (.b .ff)), [(.lt (.nthI (.lv 0) (.add (.mul (.v 1) (.c 2)) (.c 1))) (.c (-16777216))), (.le (.nthI (.lv 0) (.mul (.v 1) (.c 2))) (.c 16777216)), (.le (.c (-16777216)) (.nthI (.lv 0) (.mul (.v 1) (.c 2)))), (.lt (.v 1) (.v 0)), (.le (.c 0) (.v 1)), (.le (.v 1) (.v 0)), (.le (.v 1) (.c 1024)), (.happ 1 (.cons (.v 1) (.lv 0))), (.le (.c 0) (.v 0)), (.le (.v 0) (.c 1024))], []⟩,
⟨(.val (.b .ff)), [(.lt (.c 16777216) (.nthI (.lv 0) (.mul (.v 1) (.c 2)))), (.le (.c (-16777216)) (.nthI (.lv 0) (.mul (.v 1) (.c 2)))), (.lt (.v 1) (.v 0)), (.le (.c 0) (.v 1)), (.le (.v 1) (.v 0)), (.le (.v 1) (.c 1024)), (.happ 1 (.cons (.v 1) (.lv 0))), (.le (.c 0) (.v 0)), (.le (.v 0) (.c 1024))], []⟩,
⟨(.val (.b .ff)), [(.lt (.nthI (.lv 0) (.mul (.v 1) (.c 2))) (.c (-16777216))), (.lt (.v 1) (.v 0)), (.le (.c 0) (.v 1)), (.le (.v 1) (.v 0)), (.le (.v 1) (.c 1024)), (.happ 1 (.cons (.v 1) (.lv 0))), (.le (.c 0) (.v 0)), (.le (.v 0) (.c 1024))], []⟩,
⟨(.val (.b .tt)), [(.le (.v 0) (.v 1)), (.le (.c 0) (.v 1)), (.le (.v 1) (.v 0)), (.le (.v 1) (.c 1024)), (.happ 1 (.cons (.v 1) (.lv 0))), (.le (.c 0) (.v 0)), (.le (.v 0) (.c 1024))], []⟩] (by kernel_rfl) ρ w hF hT hR ⟨?_, ?_, ?_, ?_, ?_, ?_, ?_⟩ (u.J w)
  all_goals
    intro ρ' w' hx _ hF hb _
    have e0 : ρ'.i 0 = ρ.i 0 := hx.i 0 (by decide)
    have l0 : ρ'.l 0 = ρ.l 0 := hx.l 0 (by decide)
    have hh' : ρ'.h = Tk.hF := by rw [hx.h]; exact hh
    clear hx hR
    simp only [holds, List.mem_cons, List.not_mem_nil, or_false, forall_eq_or_imp, forall_eq, B_le, B_lt, I_add, I_mul, I_c, I_v, I_nthI, L_lv, h_1 hh', e0, l0, nI_eq, sX_f, sY_f, decide_eq_true_eq, den_b, B_t, B_f] at hF ⊢
    first
      | exact allTo_zero _
      | (rw [allTo_succ (by omega), spB_iff.2 (by omega), Bool.and_true]; simp only [hF])
      | (refine spots_no hh (k := ρ'.i 1) (by omega) (by omega) (fun h => ?_) hb
         have := spB_iff.1 h
         omega)
      | (refine spots_yes hh hR0 ?_ hb
         have hP : allTo (ρ'.i 1) (spB (ρ.l 0)) = true := by simp only [hF]
         rwa [show ρ'.i 1 = ρ.i 0 by omega] at hP)
/-! ### Tracks -/
def cTrack := ctrCases 29 [rowK] [] trackCs
theorem track_yes {ρ : Env} (hh : ρ.h = Tk.hF) {w w' : World} {l : List AK} (hR : RowsAt ρ w (rowK :: l)) (hn : 2 ≤ ρ.i 0 ∧ ρ.i 0 ≤ 1024) (h : allTo (ρ.i 0) (spB (ρ.l 0)) = true) (h2 : allTo (ρ.i 0) (legB (ρ.l 0)) = true) (hb : Below w.heap.size w w') : (∃ c ∈ trackCs, Ending.returned (.bool true) = .returned (c.1.den ρ) ∧ ∀ a ∈ c.2, a.B ρ = true) ∧ Below w.heap.size w w' := by
  refine ⟨⟨_, List.mem_cons_self, rfl, ?_⟩, hb⟩
  simp only [trackFs, List.mem_cons, List.not_mem_nil, or_false, forall_eq_or_imp, forall_eq, trackE, hE_3 hh, I_v, B_le, I_c, decide_eq_true_eq]
  exact ⟨track_iff.2 ⟨hn, h, h2⟩, hn.1, hn.2, rng_E hR h⟩
theorem track_no {ρ : Env} (hh : ρ.h = Tk.hF) {w w' : World} (h : ¬ trackB (ρ.i 0) (ρ.l 0) = true) (hb : Below w.heap.size w w') : (∃ c ∈ trackCs, Ending.returned (.bool false) = .returned (c.1.den ρ) ∧ ∀ a ∈ c.2, a.B ρ = true) ∧ Below w.heap.size w w' := by
  refine ⟨⟨_, List.mem_cons_of_mem _ List.mem_cons_self, rfl, ?_⟩, hb⟩
  simp only [List.mem_cons, List.not_mem_nil, or_false, forall_eq, B_not, trackE, hE_3 hh, I_v, Bool.not_eq_true']
  simpa using h
theorem not_spots {n k : Int} {l : LL} (h0 : 0 ≤ k) (hk : k < n) (h : ¬ spB l k = true) : ¬ trackB n l = true := fun ht => h (allTo_at (track_iff.1 ht).2.1 h0 hk)
theorem not_legs {n k : Int} {l : LL} (h0 : 0 ≤ k) (hk : k < n) (h : ¬ legB l k = true) : ¬ trackB n l = true := fun ht => h (allTo_at (track_iff.1 ht).2.2 h0 hk)
theorem mx_ab (x : Int) : (if x < 0 - x then 0 - x else x) = ab x := by unfold ab; split <;> split <;> omega
theorem mx_ab2 (x : Int) : (if -x < x then x else -x) = ab x := by unfold ab; split <;> split <;> omega
theorem ab_or (x : Int) : (x < 0 ∧ ab x = -x) ∨ (0 ≤ x ∧ ab x = x) := by unfold ab; split <;> omega
theorem leg_one (l : LL) : allTo 1 (legB l) = true := rfl
theorem isTrack_ok (u : Fit TT) : CtrOk TT Tryd.prog cTrack := ctrCases_ok rfl fun ρ w hF0 hT hR => by
  have hh := (u.tab hT).2
  have hF := nF_of hR (row_in [])
  have hR0 := hR
  refine cases_rest dd_ok (Γ := { calls := [cSpots], loops := [legL] }) (by simpa using areSpots_ok u.open) 400 [rowK] (nF 0) trackCs (by decide)
    [⟨(.val (.b .ff)), [(.lt (.c 1024) (.v 0)), (.le (.c 2) (.v 0)), (.le (.c 0) (.v 0)), (.le (.v 0) (.c 9223372036854775807))], []⟩,
⟨(.must (.happ 2 (.cons (.c 1) (.lv 0)))), [(.happ 1 (.cons (.v 0) (.lv 0))), (.allr (-16777216) 16777216 (.lv 0)), (.le (.v 0) (.c 1024)), (.le (.c 2) (.v 0)), (.le (.c 0) (.v 0)), (.le (.v 0) (.c 9223372036854775807))], []⟩,
⟨(.val (.b .ff)), [(.eq (.nthI (.lv 0) (.mul (.sub (.v 5) (.c 1)) (.c 2))) (.nthI (.lv 0) (.mul (.v 5) (.c 2)))), (.eq (.nthI (.lv 0) (.add (.mul (.sub (.v 5) (.c 1)) (.c 2)) (.c 1))) (.nthI (.lv 0) (.add (.mul (.v 5) (.c 2)) (.c 1)))), (.lt (.sub (.v 5) (.c 1)) (.v 0)), (.lt (.v 5) (.v 0)), (.le (.c 1) (.v 5)), (.le (.v 5) (.v 0)), (.le (.v 5) (.c 1024)), (.happ 2 (.cons (.v 5) (.lv 0))), (.happ 1 (.cons (.v 0) (.lv 0))), (.allr (-16777216) 16777216 (.lv 0)), (.le (.v 0) (.c 1024)), (.le (.c 2) (.v 0)), (.le (.c 0) (.v 0)), (.le (.v 0) (.c 9223372036854775807))], []⟩,
⟨(.val (.b .ff)), [(.not (.eq (.ite (.lt (.sub (.nthI (.lv 0) (.mul (.v 5) (.c 2))) (.nthI (.lv 0) (.mul (.sub (.v 5) (.c 1)) (.c 2)))) (.sub (.c 0) (.sub (.nthI (.lv 0) (.mul (.v 5) (.c 2))) (.nthI (.lv 0) (.mul (.sub (.v 5) (.c 1)) (.c 2)))))) (.sub (.c 0) (.sub (.nthI (.lv 0) (.mul (.v 5) (.c 2))) (.nthI (.lv 0) (.mul (.sub (.v 5) (.c 1)) (.c 2))))) (.sub (.nthI (.lv 0) (.mul (.v 5) (.c 2))) (.nthI (.lv 0) (.mul (.sub (.v 5) (.c 1)) (.c 2))))) (.ite (.lt (.sub (.nthI (.lv 0) (.add (.mul (.v 5) (.c 2)) (.c 1))) (.nthI (.lv 0) (.add (.mul (.sub (.v 5) (.c 1)) (.c 2)) (.c 1)))) (.sub (.c 0) (.sub (.nthI (.lv 0) (.add (.mul (.v 5) (.c 2)) (.c 1))) (.nthI (.lv 0) (.add (.mul (.sub (.v 5) (.c 1)) (.c 2)) (.c 1)))))) (.sub (.c 0) (.sub (.nthI (.lv 0) (.add (.mul (.v 5) (.c 2)) (.c 1))) (.nthI (.lv 0) (.add (.mul (.sub (.v 5) (.c 1)) (.c 2)) (.c 1))))) (.sub (.nthI (.lv 0) (.add (.mul (.v 5) (.c 2)) (.c 1))) (.nthI (.lv 0) (.add (.mul (.sub (.v 5) (.c 1)) (.c 2)) (.c 1))))))), (.not (.eq (.ite (.lt (.sub (.nthI (.lv 0) (.add (.mul (.v 5) (.c 2)) (.c 1))) (.nthI (.lv 0) (.add (.mul (.sub (.v 5) (.c 1)) (.c 2)) (.c 1)))) (.sub (.c 0) (.sub (.nthI (.lv 0) (.add (.mul (.v 5) (.c 2)) (.c 1))) (.nthI (.lv 0) (.add (.mul (.sub (.v 5) (.c 1)) (.c 2)) (.c 1)))))) (.sub (.c 0) (.sub (.nthI (.lv 0) (.add (.mul (.v 5) (.c 2)) (.c 1))) (.nthI (.lv 0) (.add (.mul (.sub (.v 5) (.c 1)) (.c 2)) (.c 1))))) (.sub (.nthI (.lv 0) (.add (.mul (.v 5) (.c 2)) (.c 1))) (.nthI (.lv 0) (.add (.mul (.sub (.v 5) (.c 1)) (.c 2)) (.c 1))))) (.c 0))), (.not (.eq (.ite (.lt (.sub (.nthI (.lv 0) (.mul (.v 5) (.c 2))) (.nthI (.lv 0) (.mul (.sub (.v 5) (.c 1)) (.c 2)))) (.sub (.c 0) (.sub (.nthI (.lv 0) (.mul (.v 5) (.c 2))) (.nthI (.lv 0) (.mul (.sub (.v 5) (.c 1)) (.c 2)))))) (.sub (.c 0) (.sub (.nthI (.lv 0) (.mul (.v 5) (.c 2))) (.nthI (.lv 0) (.mul (.sub (.v 5) (.c 1)) (.c 2))))) (.sub (.nthI (.lv 0) (.mul (.v 5) (.c 2))) (.nthI (.lv 0) (.mul (.sub (.v 5) (.c 1)) (.c 2))))) (.c 0))), (.not (.and (.eq (.nthI (.lv 0) (.mul (.sub (.v 5) (.c 1)) (.c 2))) (.nthI (.lv 0) (.mul (.v 5) (.c 2)))) (.eq (.nthI (.lv 0) (.add (.mul (.sub (.v 5) (.c 1)) (.c 2)) (.c 1))) (.nthI (.lv 0) (.add (.mul (.v 5) (.c 2)) (.c 1)))))), (.lt (.sub (.v 5) (.c 1)) (.v 0)), (.lt (.v 5) (.v 0)), (.le (.c 1) (.v 5)), (.le (.v 5) (.v 0)), (.le (.v 5) (.c 1024)), (.happ 2 (.cons (.v 5) (.lv 0))), (.happ 1 (.cons (.v 0) (.lv 0))), (.allr (-16777216) 16777216 (.lv 0)), (.le (.v 0) (.c 1024)), (.le (.c 2) (.v 0)), (.le (.c 0) (.v 0)), (.le (.v 0) (.c 9223372036854775807))], []⟩,
⟨(.must (.happ 2 (.cons (.add (.v 5) (.c 1)) (.lv 0)))), [(.eq (.ite (.lt (.sub (.nthI (.lv 0) (.mul (.v 5) (.c 2))) (.nthI (.lv 0) (.mul (.sub (.v 5) (.c 1)) (.c 2)))) (.sub (.c 0) (.sub (.nthI (.lv 0) (.mul (.v 5) (.c 2))) (.nthI (.lv 0) (.mul (.sub (.v 5) (.c 1)) (.c 2)))))) (.sub (.c 0) (.sub (.nthI (.lv 0) (.mul (.v 5) (.c 2))) (.nthI (.lv 0) (.mul (.sub (.v 5) (.c 1)) (.c 2))))) (.sub (.nthI (.lv 0) (.mul (.v 5) (.c 2))) (.nthI (.lv 0) (.mul (.sub (.v 5) (.c 1)) (.c 2))))) (.ite (.lt (.sub (.nthI (.lv 0) (.add (.mul (.v 5) (.c 2)) (.c 1))) (.nthI (.lv 0) (.add (.mul (.sub (.v 5) (.c 1)) (.c 2)) (.c 1)))) (.sub (.c 0) (.sub (.nthI (.lv 0) (.add (.mul (.v 5) (.c 2)) (.c 1))) (.nthI (.lv 0) (.add (.mul (.sub (.v 5) (.c 1)) (.c 2)) (.c 1)))))) (.sub (.c 0) (.sub (.nthI (.lv 0) (.add (.mul (.v 5) (.c 2)) (.c 1))) (.nthI (.lv 0) (.add (.mul (.sub (.v 5) (.c 1)) (.c 2)) (.c 1))))) (.sub (.nthI (.lv 0) (.add (.mul (.v 5) (.c 2)) (.c 1))) (.nthI (.lv 0) (.add (.mul (.sub (.v 5) (.c 1)) (.c 2)) (.c 1)))))), (.not (.eq (.ite (.lt (.sub (.nthI (.lv 0) (.add (.mul (.v 5) (.c 2)) (.c 1))) (.nthI (.lv 0) (.add (.mul (.sub (.v 5) (.c 1)) (.c 2)) (.c 1)))) (.sub (.c 0) (.sub (.nthI (.lv 0) (.add (.mul (.v 5) (.c 2)) (.c 1))) (.nthI (.lv 0) (.add (.mul (.sub (.v 5) (.c 1)) (.c 2)) (.c 1)))))) (.sub (.c 0) (.sub (.nthI (.lv 0) (.add (.mul (.v 5) (.c 2)) (.c 1))) (.nthI (.lv 0) (.add (.mul (.sub (.v 5) (.c 1)) (.c 2)) (.c 1))))) (.sub (.nthI (.lv 0) (.add (.mul (.v 5) (.c 2)) (.c 1))) (.nthI (.lv 0) (.add (.mul (.sub (.v 5) (.c 1)) (.c 2)) (.c 1))))) (.c 0))), (.not (.eq (.ite (.lt (.sub (.nthI (.lv 0) (.mul (.v 5) (.c 2))) (.nthI (.lv 0) (.mul (.sub (.v 5) (.c 1)) (.c 2)))) (.sub (.c 0) (.sub (.nthI (.lv 0) (.mul (.v 5) (.c 2))) (.nthI (.lv 0) (.mul (.sub (.v 5) (.c 1)) (.c 2)))))) (.sub (.c 0) (.sub (.nthI (.lv 0) (.mul (.v 5) (.c 2))) (.nthI (.lv 0) (.mul (.sub (.v 5) (.c 1)) (.c 2))))) (.sub (.nthI (.lv 0) (.mul (.v 5) (.c 2))) (.nthI (.lv 0) (.mul (.sub (.v 5) (.c 1)) (.c 2))))) (.c 0))), (.not (.and (.eq (.nthI (.lv 0) (.mul (.sub (.v 5) (.c 1)) (.c 2))) (.nthI (.lv 0) (.mul (.v 5) (.c 2)))) (.eq (.nthI (.lv 0) (.add (.mul (.sub (.v 5) (.c 1)) (.c 2)) (.c 1))) (.nthI (.lv 0) (.add (.mul (.v 5) (.c 2)) (.c 1)))))), (.lt (.sub (.v 5) (.c 1)) (.v 0)), (.lt (.v 5) (.v 0)), (.le (.c 1) (.v 5)), (.le (.v 5) (.v 0)), (.le (.v 5) (.c 1024)), (.happ 2 (.cons (.v 5) (.lv 0))), (.happ 1 (.cons (.v 0) (.lv 0))), (.allr (-16777216) 16777216 (.lv 0)), (.le (.v 0) (.c 1024)), (.le (.c 2) (.v 0)), (.le (.c 0) (.v 0)), (.le (.v 0) (.c 9223372036854775807))], []⟩,
⟨(.must (.happ 2 (.cons (.add (.v 5) (.c 1)) (.lv 0)))), [(.eq (.ite (.lt (.sub (.nthI (.lv 0) (.add (.mul (.v 5) (.c 2)) (.c 1))) (.nthI (.lv 0) (.add (.mul (.sub (.v 5) (.c 1)) (.c 2)) (.c 1)))) (.sub (.c 0) (.sub (.nthI (.lv 0) (.add (.mul (.v 5) (.c 2)) (.c 1))) (.nthI (.lv 0) (.add (.mul (.sub (.v 5) (.c 1)) (.c 2)) (.c 1)))))) (.sub (.c 0) (.sub (.nthI (.lv 0) (.add (.mul (.v 5) (.c 2)) (.c 1))) (.nthI (.lv 0) (.add (.mul (.sub (.v 5) (.c 1)) (.c 2)) (.c 1))))) (.sub (.nthI (.lv 0) (.add (.mul (.v 5) (.c 2)) (.c 1))) (.nthI (.lv 0) (.add (.mul (.sub (.v 5) (.c 1)) (.c 2)) (.c 1))))) (.c 0)), (.not (.eq (.ite (.lt (.sub (.nthI (.lv 0) (.mul (.v 5) (.c 2))) (.nthI (.lv 0) (.mul (.sub (.v 5) (.c 1)) (.c 2)))) (.sub (.c 0) (.sub (.nthI (.lv 0) (.mul (.v 5) (.c 2))) (.nthI (.lv 0) (.mul (.sub (.v 5) (.c 1)) (.c 2)))))) (.sub (.c 0) (.sub (.nthI (.lv 0) (.mul (.v 5) (.c 2))) (.nthI (.lv 0) (.mul (.sub (.v 5) (.c 1)) (.c 2))))) (.sub (.nthI (.lv 0) (.mul (.v 5) (.c 2))) (.nthI (.lv 0) (.mul (.sub (.v 5) (.c 1)) (.c 2))))) (.c 0))), (.not (.and (.eq (.nthI (.lv 0) (.mul (.sub (.v 5) (.c 1)) (.c 2))) (.nthI (.lv 0) (.mul (.v 5) (.c 2)))) (.eq (.nthI (.lv 0) (.add (.mul (.sub (.v 5) (.c 1)) (.c 2)) (.c 1))) (.nthI (.lv 0) (.add (.mul (.v 5) (.c 2)) (.c 1)))))), (.lt (.sub (.v 5) (.c 1)) (.v 0)), (.lt (.v 5) (.v 0)), (.le (.c 1) (.v 5)), (.le (.v 5) (.v 0)), (.le (.v 5) (.c 1024)), (.happ 2 (.cons (.v 5) (.lv 0))), (.happ 1 (.cons (.v 0) (.lv 0))), (.allr (-16777216) 16777216 (.lv 0)), (.le (.v 0) (.c 1024)), (.le (.c 2) (.v 0)), (.le (.c 0) (.v 0)), (.le (.v 0) (.c 9223372036854775807))], []⟩,
⟨(.must (.happ 2 (.cons (.add (.v 5) (.c 1)) (.lv 0)))), [(.eq (.ite (.lt (.sub (.nthI (.lv 0) (.mul (.v 5) (.c 2))) (.nthI (.lv 0) (.mul (.sub (.v 5) (.c 1)) (.c 2)))) (.sub (.c 0) (.sub (.nthI (.lv 0) (.mul (.v 5) (.c 2))) (.nthI (.lv 0) (.mul (.sub (.v 5) (.c 1)) (.c 2)))))) (.sub (.c 0) (.sub (.nthI (.lv 0) (.mul (.v 5) (.c 2))) (.nthI (.lv 0) (.mul (.sub (.v 5) (.c 1)) (.c 2))))) (.sub (.nthI (.lv 0) (.mul (.v 5) (.c 2))) (.nthI (.lv 0) (.mul (.sub (.v 5) (.c 1)) (.c 2))))) (.c 0)), (.not (.and (.eq (.nthI (.lv 0) (.mul (.sub (.v 5) (.c 1)) (.c 2))) (.nthI (.lv 0) (.mul (.v 5) (.c 2)))) (.eq (.nthI (.lv 0) (.add (.mul (.sub (.v 5) (.c 1)) (.c 2)) (.c 1))) (.nthI (.lv 0) (.add (.mul (.v 5) (.c 2)) (.c 1)))))), (.lt (.sub (.v 5) (.c 1)) (.v 0)), (.lt (.v 5) (.v 0)), (.le (.c 1) (.v 5)), (.le (.v 5) (.v 0)), (.le (.v 5) (.c 1024)), (.happ 2 (.cons (.v 5) (.lv 0))), (.happ 1 (.cons (.v 0) (.lv 0))), (.allr (-16777216) 16777216 (.lv 0)), (.le (.v 0) (.c 1024)), (.le (.c 2) (.v 0)), (.le (.c 0) (.v 0)), (.le (.v 0) (.c 9223372036854775807))], []⟩,
⟨(.val (.b .tt)), [(.le (.v 0) (.v 5)), (.le (.c 1) (.v 5)), (.le (.v 5) (.v 0)), (.le (.v 5) (.c 1024)), (.happ 2 (.cons (.v 5) (.lv 0))), (.happ 1 (.cons (.v 0) (.lv 0))), (.allr (-16777216) 16777216 (.lv 0)), (.le (.v 0) (.c 1024)), (.le (.c 2) (.v 0)), (.le (.c 0) (.v 0)), (.le (.v 0) (.c 9223372036854775807))], []⟩,
⟨(.val (.b .ff)), [(.not (.happ 1 (.cons (.v 0) (.lv 0)))), (.le (.v 0) (.c 1024)), (.le (.c 2) (.v 0)), (.le (.c 0) (.v 0)), (.le (.v 0) (.c 9223372036854775807))], []⟩,
⟨(.val (.b .ff)), [(.lt (.v 0) (.c 2)), (.le (.c 0) (.v 0)), (.le (.v 0) (.c 9223372036854775807))], []⟩] (by kernel_rfl) ρ w hF hT hR ⟨?_, ?_, ?_, ?_, ?_, ?_, ?_, ?_, ?_, ?_⟩ (u.J w)
  all_goals
    intro ρ' w' hx _ hF hb _
    have e0 : ρ'.i 0 = ρ.i 0 := hx.i 0 (by decide)
    have l0 : ρ'.l 0 = ρ.l 0 := hx.l 0 (by decide)
    have hh' : ρ'.h = Tk.hF := by rw [hx.h]; exact hh
    clear hx hR
    simp only [holds, List.mem_cons, List.not_mem_nil, or_false, forall_eq_or_imp, forall_eq, B_le, B_lt, B_eq, B_not, B_and, I_add, I_sub, I_mul, I_ite, I_c, I_v, I_nthI, L_lv, h_1 hh', h_2 hh', e0, l0, nI_eq, sX_f, sY_f, decide_eq_true_eq, Bool.not_eq_true', decide_eq_false_iff_not, Bool.and_eq_false_iff, den_b, B_t, B_f] at hF ⊢
    try simp only [mx_ab] at hF
    have a1 := ab_or (sX (ρ.l 0) (ρ'.i 5) - sX (ρ.l 0) (ρ'.i 5 - 1))
    have a2 := ab_or (sY (ρ.l 0) (ρ'.i 5) - sY (ρ.l 0) (ρ'.i 5 - 1))
    first
      | exact track_no hh (fun h => by have := (track_iff.1 h).1; omega) hb
      | exact leg_one _
      | (have hn : allTo (ρ.i 0) (spB (ρ.l 0)) = false := by simp only [hF]
         exact track_no hh (fun h => by have h2 := (track_iff.1 h).2.1; rw [hn] at h2; cases h2) hb)
      | (refine track_no hh (not_legs (k := ρ'.i 5) (by omega) (by omega) (fun h => ?_)) hb
         rw [legB_iff (by omega)] at h
         have := wayB_iff.1 h
         omega)
      | (rw [allTo_succ (by omega), legB_iff (by omega), wayB_iff.2 (by omega), Bool.and_true]; simp only [hF])
      | (have hP : allTo (ρ'.i 5) (legB (ρ.l 0)) = true := by simp only [hF]
         rw [show ρ'.i 5 = ρ.i 0 by omega] at hP
         exact track_yes hh hR0 (by omega) (by simp only [hF]) hP hb)
end Go.Proofs.YtkhffloahpdbdaaDoor.Tk
end
section
namespace Go.Proofs.YtkhffloahpdbdaaDoor.Tk
open Go Go.Proofs.YtkhffloahpdbdaaDoor.Sx Go.RowKit

def dX (k : Int) : Int := if k = 0 then 1 else if k = 1 then 0 else if k = 2 then -1 else 0
def dY (k : Int) : Int := if k = 0 then 0 else if k = 1 then 1 else if k = 2 then 0 else -1
/-- A coordinate behind so many legs. -/
def sqC (d : Int → Int) (x s : Int) : Nat → Int
  | 0 => x
  | k + 1 => sqC d x s k + ((k : Int).tdiv 2 + 1) * s * d ((k : Int).tmod 4)
def sqL (x y s : Int) : Nat → LL
  | 0 => [(x, ⟨#[]⟩), (y, ⟨#[]⟩)]
  | k + 1 => sqL x y s k ++ [(sqC dX x s (k + 1), ⟨#[]⟩), (sqC dY y s (k + 1), ⟨#[]⟩)]
theorem sqL_len (x y s : Int) : ∀ k : Nat, (sqL x y s k).length = 2 * (k + 1)
  | 0 => rfl
  | k + 1 => by simp only [sqL, List.length_append, sqL_len x y s k, List.length_cons, List.length_nil]; omega
theorem dX_rng (k : Int) : -1 ≤ dX k ∧ dX k ≤ 1 := by unfold dX; split <;> (try split) <;> (try split) <;> omega
theorem dY_rng (k : Int) : -1 ≤ dY k ∧ dY k ≤ 1 := by unfold dY; split <;> (try split) <;> (try split) <;> omega
theorem far_rng {k s : Int} (h0 : 0 ≤ k) (hk : k < 1023) (s0 : 0 ≤ s) (s1 : s ≤ 1048576) : 0 ≤ (k.tdiv 2 + 1) * s ∧ (k.tdiv 2 + 1) * s ≤ 536870912 := by
  rw [Int.tdiv_eq_ediv_of_nonneg h0]
  have h1 : 0 ≤ k / 2 + 1 := by omega
  have h2 : k / 2 + 1 ≤ 512 := by omega
  refine ⟨Int.mul_nonneg h1 s0, ?_⟩
  have := Int.mul_le_mul h2 s1 s0 (by omega : (0 : Int) ≤ 512)
  omega
theorem unit_mul {a d : Int} (h : -1 ≤ d ∧ d ≤ 1) (ha : 0 ≤ a) : -a ≤ a * d ∧ a * d ≤ a := by
  have : d = -1 ∨ d = 0 ∨ d = 1 := by omega
  rcases this with rfl | rfl | rfl <;> omega
theorem sqC_rng {d : Int → Int} (hd : ∀ k, -1 ≤ d k ∧ d k ≤ 1) {x s : Int} (s0 : 0 ≤ s) (s1 : s ≤ 1048576) : ∀ k : Nat, k ≤ 1023 → x - 536870912 * k ≤ sqC d x s k ∧ sqC d x s k ≤ x + 536870912 * k
  | 0, _ => by simp [sqC]
  | k + 1, hk => by
    have ih := sqC_rng hd s0 s1 (x := x) k (by omega)
    have f := far_rng (k := (k : Int)) (by omega) (by omega) s0 s1
    have u := unit_mul (hd ((k : Int).tmod 4)) f.1
    simp only [sqC]
    omega
/-- One more leg, as it is reckoned. -/
theorem sq_step {d : Int → Int} (hd : ∀ k, -1 ≤ d k ∧ d k ≤ 1) {x s i c : Int} (h0 : 0 ≤ i) (hi : i < 1023) (hx : -16777216 ≤ x ∧ x ≤ 16777216) (s0 : 0 ≤ s) (s1 : s ≤ 1048576) (hc : c = sqC d x s i.toNat) :
    IntKind.i64.wrap (c + IntKind.i64.wrap (IntKind.i64.wrap (IntKind.i64.wrap (IntKind.i64.wrap (i.tdiv 2) + 1) * s) * d (i.tmod 4))) = sqC d x s (i.toNat + 1) ∧ -1099511627776 ≤ sqC d x s (i.toNat + 1) ∧ sqC d x s (i.toNat + 1) ≤ 1099511627776 := by
  obtain ⟨k, rfl⟩ := Int.eq_ofNat_of_zero_le h0
  rw [Int.toNat_natCast] at hc ⊢
  have r := sqC_rng hd s0 s1 (x := x) k (by omega)
  have r1 := sqC_rng hd s0 s1 (x := x) (k + 1) (by omega)
  have f := far_rng (k := (k : Int)) (by omega) (by omega) s0 s1
  have u := unit_mul (hd ((k : Int).tmod 4)) f.1
  have t : 0 ≤ (k : Int).tdiv 2 ∧ (k : Int).tdiv 2 ≤ 1023 := by rw [Int.tdiv_eq_ediv_of_nonneg h0]; omega
  have w1 : IntKind.i64.wrap ((k : Int).tdiv 2) = (k : Int).tdiv 2 := by rw [IntKind.wrap_i64]; omega
  rw [w1]
  have w2 : IntKind.i64.wrap ((k : Int).tdiv 2 + 1) = (k : Int).tdiv 2 + 1 := by rw [IntKind.wrap_i64]; omega
  rw [w2]
  have w3 : IntKind.i64.wrap (((k : Int).tdiv 2 + 1) * s) = ((k : Int).tdiv 2 + 1) * s := by rw [IntKind.wrap_i64]; omega
  rw [w3]
  have w4 : IntKind.i64.wrap (((k : Int).tdiv 2 + 1) * s * d ((k : Int).tmod 4)) = ((k : Int).tdiv 2 + 1) * s * d ((k : Int).tmod 4) := by rw [IntKind.wrap_i64]; omega
  rw [w4]
  have w5 : IntKind.i64.wrap (c + ((k : Int).tdiv 2 + 1) * s * d ((k : Int).tmod 4)) = c + ((k : Int).tdiv 2 + 1) * s * d ((k : Int).tmod 4) := by rw [IntKind.wrap_i64]; omega
  rw [w5, hc]
  exact ⟨rfl, by omega, by omega⟩
/-! ### Sectors -/
def scX (k : Int) : Int := if k = 0 then 1 else if k = 1 then 1 else if k = 2 then 0 else if k = 3 then 0 else if k = 4 then -1 else if k = 5 then 0 else if k = 6 then -1 else if k = 7 then -1 else if k = 8 then 0 else if k = 9 then 0 else if k = 10 then 1 else 0
def scY (k : Int) : Int := if k = 0 then 0 else if k = 1 then 1 else if k = 2 then 0 else if k = 3 then 1 else if k = 4 then 1 else if k = 5 then 0 else if k = 6 then 0 else if k = 7 then -1 else if k = 8 then 0 else if k = 9 then -1 else if k = 10 then -1 else 0
theorem scX_f (k : Int) : (if k = 0 then 1 else if k = 1 then 1 else if k = 2 then 0 else if k = 3 then 0 else if k = 4 then -1 else if k = 5 then 0 else if k = 6 then -1 else if k = 7 then -1 else if k = 8 then 0 else if k = 9 then 0 else if k = 10 then 1 else 0) = scX k := rfl
theorem scY_f (k : Int) : (if k = 0 then 0 else if k = 1 then 1 else if k = 2 then 0 else if k = 3 then 1 else if k = 4 then 1 else if k = 5 then 0 else if k = 6 then 0 else if k = 7 then -1 else if k = 8 then 0 else if k = 9 then -1 else if k = 10 then -1 else 0) = scY k := rfl
theorem scX_rng (k : Int) : -1 ≤ scX k ∧ scX k ≤ 1 := by unfold scX; repeat' split <;> omega
theorem scY_rng (k : Int) : -1 ≤ scY k ∧ scY k ≤ 1 := by unfold scY; repeat' split <;> omega
def scL (x y r : Int) : Nat → LL
  | 0 => [(x, ⟨#[]⟩), (y, ⟨#[]⟩)]
  | k + 1 => scL x y r k ++ [(x + r * scX k, ⟨#[]⟩), (y + r * scY k, ⟨#[]⟩)]
theorem sc_step {f : Int → Int} (hf : ∀ k, -1 ≤ f k ∧ f k ≤ 1) {x r i : Int} (hx : -16777216 ≤ x ∧ x ≤ 16777216) (r0 : 0 ≤ r) (r1 : r ≤ 1048576) : IntKind.i64.wrap (x + IntKind.i64.wrap (r * f i)) = x + r * f i := by
  have u := unit_mul (hf i) r0
  have w1 : IntKind.i64.wrap (r * f i) = r * f i := by rw [IntKind.wrap_i64]; omega
  rw [w1, IntKind.wrap_i64]; omega
theorem scL_next (x y r : Int) {i : Int} (h0 : 0 ≤ i) {a b : Int} (ha : a = x + r * scX i) (hb : b = y + r * scY i) : scL x y r i.toNat ++ [(a, ⟨#[]⟩), (b, ⟨#[]⟩)] = scL x y r (i + 1).toNat := by
  obtain ⟨k, rfl⟩ := Int.eq_ofNat_of_zero_le h0
  rw [ha, hb, show ((k : Int) + 1).toNat = k + 1 by omega]; rfl
theorem scL_len (x y r : Int) : ∀ k : Nat, (scL x y r k).length = 2 * (k + 1)
  | 0 => rfl
  | k + 1 => by simp only [scL, List.length_append, scL_len x y r k, List.length_cons, List.length_nil]; omega
/-! the document's -/
def rcX (k : Int) : Int := if k = 0 then 0 else if k = 1 then 1 else if k = 2 then 1 else if k = 3 then 0 else if k = 4 then 0 else if k = 5 then -1 else if k = 6 then 0 else if k = 7 then -1 else if k = 8 then -1 else if k = 9 then 0 else if k = 10 then 0 else if k = 11 then 1 else 0
def rcY (k : Int) : Int := if k = 0 then 0 else if k = 1 then 0 else if k = 2 then 1 else if k = 3 then 0 else if k = 4 then 1 else if k = 5 then 1 else if k = 6 then 0 else if k = 7 then 0 else if k = 8 then -1 else if k = 9 then 0 else if k = 10 then -1 else if k = 11 then -1 else 0
theorem rcX_f (k : Int) : (if k = 0 then 0 else if k = 1 then 1 else if k = 2 then 1 else if k = 3 then 0 else if k = 4 then 0 else if k = 5 then -1 else if k = 6 then 0 else if k = 7 then -1 else if k = 8 then -1 else if k = 9 then 0 else if k = 10 then 0 else if k = 11 then 1 else 0) = rcX k := rfl
theorem rcY_f (k : Int) : (if k = 0 then 0 else if k = 1 then 0 else if k = 2 then 1 else if k = 3 then 0 else if k = 4 then 1 else if k = 5 then 1 else if k = 6 then 0 else if k = 7 then 0 else if k = 8 then -1 else if k = 9 then 0 else if k = 10 then -1 else if k = 11 then -1 else 0) = rcY k := rfl
theorem rc_sc {k : Nat} (h : k < 12) : rcX ((k + 1 : Nat) : Int) = scX k ∧ rcY ((k + 1 : Nat) : Int) = scY k := by
  have : k = 0 ∨ k = 1 ∨ k = 2 ∨ k = 3 ∨ k = 4 ∨ k = 5 ∨ k = 6 ∨ k = 7 ∨ k = 8 ∨ k = 9 ∨ k = 10 ∨ k = 11 := by omega
  rcases this with rfl | rfl | rfl | rfl | rfl | rfl | rfl | rfl | rfl | rfl | rfl | rfl <;> exact ⟨rfl, rfl⟩
def scM (x y r : Int) : Nat → LL
  | 0 => []
  | k + 1 => scM x y r k ++ [(x + r * rcX k, ⟨#[]⟩), (y + r * rcY k, ⟨#[]⟩)]
theorem scM_next (x y r : Int) {i : Int} (h0 : 0 ≤ i) {a b : Int} (ha : a = x + r * rcX i) (hb : b = y + r * rcY i) : scM x y r i.toNat ++ [(a, ⟨#[]⟩), (b, ⟨#[]⟩)] = scM x y r (i + 1).toNat := by
  obtain ⟨k, rfl⟩ := Int.eq_ofNat_of_zero_le h0
  rw [ha, hb, show ((k : Int) + 1).toNat = k + 1 by omega]; rfl
theorem scM_is (x y r : Int) : ∀ k : Nat, k ≤ 12 → scM x y r (k + 1) = scL x y r k
  | 0, _ => by
    have a : rcX ((0 : Nat) : Int) = 0 := rfl
    have b : rcY ((0 : Nat) : Int) = 0 := rfl
    simp only [scM, scL, a, b, Int.mul_zero, Int.add_zero, List.nil_append]
  | k + 1, h => by
    obtain ⟨e1, e2⟩ := rc_sc (k := k) (by omega)
    rw [scM, scM_is x y r k (by omega), scL, e1, e2]
end Go.Proofs.YtkhffloahpdbdaaDoor.Tk
end
section
namespace Go.Proofs.YtkhffloahpdbdaaDoor.Tk
open Go Go.Proofs.YtkhffloahpdbdaaDoor.Sx Go.RowKit

theorem par_next {al : Bool} {lx ly hx hy sp k fr to' : Int} {l : LL} (h0 : 0 ≤ k) (h : l = parL al lx ly hx hy sp k.toNat ∧ fr = parX lx hx k.toNat ∧ to' = parX lx hx (k.toNat + 1)) {y : Int} (hy' : y = min (ly + sp.tdiv 2 + k * sp) hy) : l ++ (pt al fr y ++ pt al to' y) = parL al lx ly hx hy sp (k + 1).toNat ∧ to' = parX lx hx (k + 1).toNat ∧ fr = parX lx hx ((k + 1).toNat + 1) := by
  obtain ⟨h1, h2, h3⟩ := h
  have e : (k + 1).toNat = k.toNat + 1 := by omega
  have e2 : y = parY ly hy sp k.toNat := by rw [hy']; unfold parY; rw [Int.toNat_of_nonneg h0]
  refine ⟨?_, by rw [e]; exact h3, ?_⟩
  · rw [e, h1, h2, h3, e2]; rfl
  · rw [e, h2]; unfold parX; split <;> split <;> first | rfl | omega
theorem parI_t {k fr to' x0 y0 x1 y1 sp : Int} {l : LL} : parI 1 k fr to' x0 y0 x1 y1 sp l = true ↔ l = parL true y0 x0 y1 x1 sp k.toNat ∧ fr = parX y0 y1 k.toNat ∧ to' = parX y0 y1 (k.toNat + 1) := by simp [parI]
theorem parI_f {k fr to' x0 y0 x1 y1 sp : Int} {l : LL} : parI 0 k fr to' x0 y0 x1 y1 sp l = true ↔ l = parL false x0 y0 x1 y1 sp k.toNat ∧ fr = parX x0 x1 k.toNat ∧ to' = parX x0 x1 (k.toNat + 1) := by simp [parI]
theorem min_ite (a b : Int) : (if b < a then b else a) = min a b := by omega
/-- How many lines there are. -/
def parN (ly hy sp : Int) : Int := (hy - ly + sp - 1).tdiv sp
theorem parN_rng {ly hy sp : Int} (hy0 : -16777216 ≤ ly) (hy1 : ly < hy) (hy2 : hy ≤ 16777216) (hs0 : 1 ≤ sp) (hs1 : sp ≤ 1048576) : 1 ≤ parN ly hy sp ∧ parN ly hy sp ≤ 33554432 := by
  unfold parN
  rw [Int.tdiv_eq_ediv_of_nonneg (by omega)]
  constructor
  · exact (Int.le_ediv_iff_mul_le (by omega)).2 (by omega)
  · refine Int.le_of_lt_add_one ((Int.ediv_lt_iff_lt_mul (by omega)).2 ?_)
    have : (33554432 + 1) * 1 ≤ (33554432 + 1) * sp := Int.mul_le_mul_of_nonneg_left hs0 (by omega)
    by_cases h : sp = 1
    · omega
    · have : (33554432 + 1) * 2 ≤ (33554432 + 1) * sp := Int.mul_le_mul_of_nonneg_left (by omega) (by omega)
      omega
theorem parL_len (al : Bool) (lx ly hx hy sp : Int) : ∀ k : Nat, (parL al lx ly hx hy sp k).length = 4 * k
  | 0 => rfl
  | k + 1 => by
    have hp : ∀ x y : Int, (pt al x y).length = 2 := fun x y => by unfold pt; split <;> rfl
    simp only [parL, List.length_append, parL_len al lx ly hx hy sp k, hp]; omega
/-- What Parallel lays. -/
def parA (x0 y0 x1 y1 sp al : Int) : LL := if al = 1 then parL true y0 x0 y1 x1 sp (parN x0 x1 sp).toNat else parL false x0 y0 x1 y1 sp (parN y0 y1 sp).toNat
/-- The list with the first spots turned (x and y exchanged). -/
def turnL (l : LL) : Nat → LL
  | 0 => l
  | i + 1 => ((turnL l i).set (2 * i) (nI (turnL l i) (2 * i + 1 : Nat), ⟨#[]⟩)).set (2 * i + 1) (nI (turnL l i) (2 * i : Nat), ⟨#[]⟩)
theorem turnL_len (l : LL) : ∀ i : Nat, (turnL l i).length = l.length
  | 0 => rfl
  | i + 1 => by simp only [turnL, List.length_set, turnL_len l i]
/-- All numbers with no texts. -/
def plainL (l : LL) : Prop := ∀ p ∈ l, p.2 = ⟨#[]⟩
theorem turnL_app (l : LL) : ∀ i : Nat, 2 * i ≤ l.length → ∀ m : LL, turnL (l ++ m) i = turnL l i ++ m
  | 0, _, _ => rfl
  | i + 1, h, m => by
    have ih := turnL_app l i (by omega) m
    have hl := turnL_len l i
    simp only [turnL, ih]
    have key : ∀ j : Nat, j < l.length → nI (turnL l i ++ m) (j : Nat) = nI (turnL l i) (j : Nat) := fun j hj => by
      unfold nI; rw [Int.toNat_natCast, List.getElem?_append_left (by omega)]
    rw [key _ (by omega), key _ (by omega), List.set_append_left _ _ (by omega), List.set_append_left _ _ (by rw [List.length_set]; omega)]
/-- One more spot is turned. -/
theorem turnL_two (l : LL) {n : Nat} (hl : l.length = 2 * n) (a b : Int) : turnL (l ++ [(a, ⟨#[]⟩), (b, ⟨#[]⟩)]) (n + 1) = turnL l n ++ [(b, ⟨#[]⟩), (a, ⟨#[]⟩)] := by
  have h1 := turnL_app l n (by omega) [(a, ⟨#[]⟩), (b, ⟨#[]⟩)]
  have hn := turnL_len l n
  simp only [turnL, h1]
  have k0 : nI (turnL l n ++ [(a, ⟨#[]⟩), (b, ⟨#[]⟩)]) (2 * n : Nat) = a := by
    unfold nI; rw [Int.toNat_natCast, List.getElem?_append_right (by omega), hn, hl, Nat.sub_self]; rfl
  have k1 : nI (turnL l n ++ [(a, ⟨#[]⟩), (b, ⟨#[]⟩)]) (2 * n + 1 : Nat) = b := by
    unfold nI; rw [Int.toNat_natCast, List.getElem?_append_right (by omega), hn, hl, show 2 * n + 1 - 2 * n = 1 by omega]; rfl
  rw [k0, k1, List.set_append_right _ _ (by omega), List.set_append_right _ _ (by omega), hn, hl, Nat.sub_self, show 2 * n + 1 - 2 * n = 1 by omega]
  rfl
theorem turn_par (lx ly hx hy sp : Int) : ∀ k : Nat, turnL (parL false lx ly hx hy sp k) (2 * k) = parL true lx ly hx hy sp k
  | 0 => rfl
  | k + 1 => by
    have hl := parL_len false lx ly hx hy sp k
    have e : parL false lx ly hx hy sp (k + 1) = (parL false lx ly hx hy sp k ++ [(parX lx hx k, ⟨#[]⟩), (parY ly hy sp k, ⟨#[]⟩)]) ++ [(parX lx hx (k + 1), ⟨#[]⟩), (parY ly hy sp k, ⟨#[]⟩)] := by
      simp only [parL, pt, Bool.false_eq_true, if_false, List.append_assoc]
    rw [e, show 2 * (k + 1) = 2 * k + 1 + 1 by omega, turnL_two _ (by rw [List.length_append, hl]; show 4 * k + 2 = _; omega), turnL_two _ (by omega), turn_par lx ly hx hy sp k, List.append_assoc]
    simp only [parL, pt, if_true]
/-- The spots that the document lays first: not turned. -/
theorem parL_step {lx ly hx hy sp k y a b : Int} (h0 : 0 ≤ k) (hy' : y = min (ly + sp.tdiv 2 + k * sp) hy) (h : k.tmod 2 = 0 ∧ a = lx ∧ b = hx ∨ ¬ k.tmod 2 = 0 ∧ a = hx ∧ b = lx) : parL false lx ly hx hy sp k.toNat ++ [(a, ⟨#[]⟩), (y, ⟨#[]⟩), (b, ⟨#[]⟩), (y, ⟨#[]⟩)] = parL false lx ly hx hy sp (k + 1).toNat := by
  obtain ⟨j, rfl⟩ := Int.eq_ofNat_of_zero_le h0
  have e : ((j : Int) + 1).toNat = j + 1 := by omega
  have e2 : y = parY ly hy sp j := by rw [hy']; rfl
  rw [e, Int.toNat_natCast]
  have m : ((j : Int).tmod 2 = 0) = (j % 2 = 0) := by
    rw [Int.tmod_eq_emod_of_nonneg h0, eq_iff_iff]; omega
  rw [m] at h
  have hx' : a = parX lx hx j ∧ b = parX lx hx (j + 1) := by
    unfold parX
    rcases h with ⟨h1, h2, h3⟩ | ⟨h1, h2, h3⟩
    · rw [if_pos h1, if_neg (by omega)]; exact ⟨h2, h3⟩
    · rw [if_neg h1, if_pos (by omega)]; exact ⟨h2, h3⟩
  simp only [parL, pt, Bool.false_eq_true, if_false, hx'.1, hx'.2, e2, List.cons_append, List.nil_append]
end Go.Proofs.YtkhffloahpdbdaaDoor.Tk
end
section
namespace Go.Proofs.YtkhffloahpdbdaaDoor.Tk
open Go Go.Proofs.YtkhffloahpdbdaaDoor.Sx Go.RowKit
variable {TT : Tb}
def mF : Nat → LL → LL
  | 1, l => sqL (nI l 0) (nI l 1) (nI l 2) (nI l 3).toNat
  | 2, l => scL (nI l 0) (nI l 1) (nI l 2) (nI l 3).toNat
  | 3, l => scM (nI l 0) (nI l 1) (nI l 2) (nI l 3).toNat
  | 4, l => parA (nI l 0) (nI l 1) (nI l 2) (nI l 3) (nI l 4) (nI l 5)
  | 5, l => parL false (nI l 0) (nI l 1) (nI l 2) (nI l 3) (nI l 4) (nI l 5).toNat
  | 6, l => turnL (parL false (nI l 0) (nI l 1) (nI l 2) (nI l 3) (nI l 4) (nI l 5).toNat) (nI l 6).toNat
  | _, _ => []
def tbD : List (Nat × List (IntKind × Int)) := [(0, [1, 0, 0, 1, -1, 0, 0, -1].map fun x => (IntKind.i64, x)), (1, [1, 0, 1, 1, 0, 0, 0, 1, -1, 1, 0, 0, -1, 0, -1, -1, 0, 0, 0, -1, 1, -1, 0, 0].map fun x => (IntKind.i64, x))]
def sqK : List AK := [spotK, .one K, .one K]
def sqA (m : Nat) (k : E) : E := .lapp m (.cons (.v 0) (.cons (.v 1) (.cons (.v 2) (.cons k .nil))))
def andL : List E → E | [] => .tt | [a] => a | a :: l => .and a (andL l)
def sqOk (n : Int) : E := andL [.le (.c (-16777216)) (.v 0), .le (.v 0) (.c 16777216), .le (.c (-16777216)) (.v 1), .le (.v 1) (.c 16777216), .le (.c 1) (.v 2), .le (.v 2) (.c 1048576), .le (.c 1) (.v 3), .le (.v 3) (.c n)]
def sqIn (m : Nat) : E := .happ 1 (.cons (.add (.v 3) (.c 1)) (sqA m (.v 3)))
def layC (n : Int) (m : Nat) : List RC := [⟨none, .i .i64 (.c 2), [.not (sqOk n)]⟩, ⟨none, .i .i64 (.c 2), [sqOk n, .not (sqIn m)]⟩, ⟨some ⟨true, 23, [.i .i64, .i .i64], .add (.v 3) (.c 1), sqA m (.v 3)⟩, .i .i64 (.c 0), [sqOk n, sqIn m]⟩]
def sqSpec : LoopSpec := { key := 5, nt := some 49, locs := [.t 26 (.i .i64), .h (.n 4) 0 (.i .i64), .h (.n 4) 1 (.i .i64), .t 8 .any], prom := [(8, 24)], rows := fun n => [(3, ⟨true, 23, [.i .i64, .i .i64], .add (.v n) (.c 1), .lv (n+3)⟩)], facts := fun n => [.le (.c 0) (.v n), .le (.v n) (.v 3), .le (.c (-1099511627776)) (.v (n+1)), .le (.v (n+1)) (.c 1099511627776), .le (.c (-1099511627776)) (.v (n+2)), .le (.v (n+2)) (.c 1099511627776), .leq (.lv (n+3)) (sqA 1 (.v n)), .eq (.v (n+1)) (.nthI (.lv (n+3)) (.mul (.v n) (.c 2))), .eq (.v (n+2)) (.nthI (.lv (n+3)) (.add (.mul (.v n) (.c 2)) (.c 1)))], meas := fun n => .sub (.v 3) (.v n) }
def sqG : Ctx := { calls := [cSpots], loops := [sqSpec] }
def cSq := ctrW (ctrRowC 7 sqK [] (layC 1023 1))
structure Fit2 (TT : Tb) : Prop where
  tab : ∀ {g h k m}, TT.tab g h k m → UTab g h k m ∧ m = mF
  tabs : ∀ w, TT.J w → TabsAt tbD w
  st : Stable TT.J
theorem Fit2.fit (u : Fit2 TT) : Fit TT.open.noJ := ⟨fun h => (u.tab h).1, fun _ => trivial⟩
theorem sqL_last (x y s : Int) : ∀ k : Nat, sX (sqL x y s k) k = sqC dX x s k ∧ sY (sqL x y s k) k = sqC dY y s k
  | 0 => ⟨rfl, rfl⟩
  | k + 1 => by
    have hl := sqL_len x y s k
    have key : ∀ j : Nat, nI (sqL x y s (k + 1)) ((2 * (k + 1) + j : Nat) : Int) = nI [(sqC dX x s (k + 1), ⟨#[]⟩), (sqC dY y s (k + 1), ⟨#[]⟩)] j := fun j => by
      unfold nI
      rw [Int.toNat_natCast, Int.toNat_natCast, sqL, List.getElem?_append_right (by omega), hl, show 2 * (k + 1) + j - 2 * (k + 1) = j by omega]
    unfold sX sY
    rw [show ((k + 1 : Nat) : Int) * 2 = ((2 * (k + 1) + 0 : Nat) : Int) by omega, key, show ((2 * (k + 1) + 0 : Nat) : Int) + 1 = ((2 * (k + 1) + 1 : Nat) : Int) by omega, key]
    exact ⟨rfl, rfl⟩
theorem sqL_at (x y s : Int) {i : Int} (h0 : 0 ≤ i) : sX (sqL x y s i.toNat) i = sqC dX x s i.toNat ∧ sY (sqL x y s i.toNat) i = sqC dY y s i.toNat := by
  obtain ⟨k, rfl⟩ := Int.eq_ofNat_of_zero_le h0
  exact sqL_last x y s k
theorem dX_f (k : Int) : (if k = 0 then 1 else if k = 1 then 0 else if k = 2 then -1 else 0) = dX k := rfl
theorem dY_f (k : Int) : (if k = 0 then 0 else if k = 1 then 1 else if k = 2 then 0 else -1) = dY k := rfl
theorem mF_1 (a b c d : Int) (s1 s2 s3 s4 : ByteArray) : mF 1 [(a, s1), (b, s2), (c, s3), (d, s4)] = sqL a b c d.toNat := rfl
theorem sqL_next (x y s : Int) {i : Int} (h0 : 0 ≤ i) {a b : Int} (ha : a = sqC dX x s (i.toNat + 1)) (hb : b = sqC dY y s (i.toNat + 1)) : sqL x y s i.toNat ++ [(a, ⟨#[]⟩), (b, ⟨#[]⟩)] = sqL x y s (i + 1).toNat := by
  rw [ha, hb, show (i + 1).toNat = i.toNat + 1 by omega]; rfl
set_option maxHeartbeats 2000000 in
theorem square_ok (u : Fit2 TT) : CtrOk TT Tryd.prog cSq := ctrRowCJ_ok u.st rfl fun ρ w _ hT hR hJ => by
  have hh := (u.tab hT).1.2
  have hm := (u.tab hT).2
  refine pat_callsT dd_ok (Γ := sqG) (by simpa [sqG] using ctr_noJ (areSpots_ok u.fit)) 400 tbD sqK []
    [⟨(.val (.tup (.cons .nils (.cons (.i .i64 (.c 2)) .nil)))), [(.lt (.c 16777216) (.v 1)), (.le (.c (-16777216)) (.v 1)), (.le (.v 0) (.c 16777216)), (.le (.c (-16777216)) (.v 0))], []⟩,
⟨(.val (.tup (.cons .nils (.cons (.i .i64 (.c 2)) .nil)))), [(.lt (.c 1048576) (.v 2)), (.le (.c 1) (.v 2)), (.le (.v 1) (.c 16777216)), (.le (.c (-16777216)) (.v 1)), (.le (.v 0) (.c 16777216)), (.le (.c (-16777216)) (.v 0))], []⟩,
⟨(.val (.tup (.cons .nils (.cons (.i .i64 (.c 2)) .nil)))), [(.lt (.c 1023) (.v 3)), (.le (.c 1) (.v 3)), (.le (.v 2) (.c 1048576)), (.le (.c 1) (.v 2)), (.le (.v 1) (.c 16777216)), (.le (.c (-16777216)) (.v 1)), (.le (.v 0) (.c 16777216)), (.le (.c (-16777216)) (.v 0))], []⟩,
⟨(.must (.leq (.cons (.v 0) (.cons (.v 1) .nil)) (.lapp 1 (.cons (.v 0) (.cons (.v 1) (.cons (.v 2) (.cons (.c 0) .nil))))))), [(.le (.v 3) (.c 1023)), (.le (.c 1) (.v 3)), (.le (.v 2) (.c 1048576)), (.le (.c 1) (.v 2)), (.le (.v 1) (.c 16777216)), (.le (.c (-16777216)) (.v 1)), (.le (.v 0) (.c 16777216)), (.le (.c (-16777216)) (.v 0))], []⟩,
⟨(.must (.eq (.v 0) (.nthI (.cons (.v 0) (.cons (.v 1) .nil)) (.mul (.c 0) (.c 2))))), [(.le (.v 3) (.c 1023)), (.le (.c 1) (.v 3)), (.le (.v 2) (.c 1048576)), (.le (.c 1) (.v 2)), (.le (.v 1) (.c 16777216)), (.le (.c (-16777216)) (.v 1)), (.le (.v 0) (.c 16777216)), (.le (.c (-16777216)) (.v 0))], []⟩,
⟨(.must (.eq (.v 1) (.nthI (.cons (.v 0) (.cons (.v 1) .nil)) (.add (.mul (.c 0) (.c 2)) (.c 1))))), [(.le (.v 3) (.c 1023)), (.le (.c 1) (.v 3)), (.le (.v 2) (.c 1048576)), (.le (.c 1) (.v 2)), (.le (.v 1) (.c 16777216)), (.le (.c (-16777216)) (.v 1)), (.le (.v 0) (.c 16777216)), (.le (.c (-16777216)) (.v 0))], []⟩,
⟨(.must (.le (.mul (.add (.v 8) (.c 2)) (.c 16)) (.c 140737488355328))), [(.lt (.v 8) (.v 3)), (.le (.c 0) (.v 8)), (.le (.v 8) (.v 3)), (.le (.c (-1099511627776)) (.v 9)), (.le (.v 9) (.c 1099511627776)), (.le (.c (-1099511627776)) (.v 10)), (.le (.v 10) (.c 1099511627776)), (.leq (.lv 11) (.lapp 1 (.cons (.v 0) (.cons (.v 1) (.cons (.v 2) (.cons (.v 8) .nil)))))), (.eq (.v 9) (.nthI (.lv 11) (.mul (.v 8) (.c 2)))), (.eq (.v 10) (.nthI (.lv 11) (.add (.mul (.v 8) (.c 2)) (.c 1)))), (.le (.v 3) (.c 1023)), (.le (.c 1) (.v 3)), (.le (.v 2) (.c 1048576)), (.le (.c 1) (.v 2)), (.le (.v 1) (.c 16777216)), (.le (.c (-16777216)) (.v 1)), (.le (.v 0) (.c 16777216)), (.le (.c (-16777216)) (.v 0))], []⟩,
⟨(.must (.le (.c 0) (.wrap .i64 (.add (.v 8) (.c 1))))), [(.lt (.v 8) (.v 3)), (.le (.c 0) (.v 8)), (.le (.v 8) (.v 3)), (.le (.c (-1099511627776)) (.v 9)), (.le (.v 9) (.c 1099511627776)), (.le (.c (-1099511627776)) (.v 10)), (.le (.v 10) (.c 1099511627776)), (.leq (.lv 11) (.lapp 1 (.cons (.v 0) (.cons (.v 1) (.cons (.v 2) (.cons (.v 8) .nil)))))), (.eq (.v 9) (.nthI (.lv 11) (.mul (.v 8) (.c 2)))), (.eq (.v 10) (.nthI (.lv 11) (.add (.mul (.v 8) (.c 2)) (.c 1)))), (.le (.v 3) (.c 1023)), (.le (.c 1) (.v 3)), (.le (.v 2) (.c 1048576)), (.le (.c 1) (.v 2)), (.le (.v 1) (.c 16777216)), (.le (.c (-16777216)) (.v 1)), (.le (.v 0) (.c 16777216)), (.le (.c (-16777216)) (.v 0))], []⟩,
⟨(.must (.le (.wrap .i64 (.add (.v 8) (.c 1))) (.v 3))), [(.lt (.v 8) (.v 3)), (.le (.c 0) (.v 8)), (.le (.v 8) (.v 3)), (.le (.c (-1099511627776)) (.v 9)), (.le (.v 9) (.c 1099511627776)), (.le (.c (-1099511627776)) (.v 10)), (.le (.v 10) (.c 1099511627776)), (.leq (.lv 11) (.lapp 1 (.cons (.v 0) (.cons (.v 1) (.cons (.v 2) (.cons (.v 8) .nil)))))), (.eq (.v 9) (.nthI (.lv 11) (.mul (.v 8) (.c 2)))), (.eq (.v 10) (.nthI (.lv 11) (.add (.mul (.v 8) (.c 2)) (.c 1)))), (.le (.v 3) (.c 1023)), (.le (.c 1) (.v 3)), (.le (.v 2) (.c 1048576)), (.le (.c 1) (.v 2)), (.le (.v 1) (.c 16777216)), (.le (.c (-16777216)) (.v 1)), (.le (.v 0) (.c 16777216)), (.le (.c (-16777216)) (.v 0))], []⟩,
⟨(.must (.le (.c (-1099511627776)) (.wrap .i64 (.add (.v 9) (.wrap .i64 (.mul (.wrap .i64 (.mul (.wrap .i64 (.add (.wrap .i64 (.quo (.v 8) (.c 2))) (.c 1))) (.v 2))) (.ite (.eq (.rem (.v 8) (.c 4)) (.c 0)) (.c 1) (.ite (.eq (.rem (.v 8) (.c 4)) (.c 1)) (.c 0) (.ite (.eq (.rem (.v 8) (.c 4)) (.c 2)) (.c (-1)) (.c 0)))))))))), [(.lt (.v 8) (.v 3)), (.le (.c 0) (.v 8)), (.le (.v 8) (.v 3)), (.le (.c (-1099511627776)) (.v 9)), (.le (.v 9) (.c 1099511627776)), (.le (.c (-1099511627776)) (.v 10)), (.le (.v 10) (.c 1099511627776)), (.leq (.lv 11) (.lapp 1 (.cons (.v 0) (.cons (.v 1) (.cons (.v 2) (.cons (.v 8) .nil)))))), (.eq (.v 9) (.nthI (.lv 11) (.mul (.v 8) (.c 2)))), (.eq (.v 10) (.nthI (.lv 11) (.add (.mul (.v 8) (.c 2)) (.c 1)))), (.le (.v 3) (.c 1023)), (.le (.c 1) (.v 3)), (.le (.v 2) (.c 1048576)), (.le (.c 1) (.v 2)), (.le (.v 1) (.c 16777216)), (.le (.c (-16777216)) (.v 1)), (.le (.v 0) (.c 16777216)), (.le (.c (-16777216)) (.v 0))], []⟩,
⟨(.must (.le (.wrap .i64 (.add (.v 9) (.wrap .i64 (.mul (.wrap .i64 (.mul (.wrap .i64 (.add (.wrap .i64 (.quo (.v 8) (.c 2))) (.c 1))) (.v 2))) (.ite (.eq (.rem (.v 8) (.c 4)) (.c 0)) (.c 1) (.ite (.eq (.rem (.v 8) (.c 4)) (.c 1)) (.c 0) (.ite (.eq (.rem (.v 8) (.c 4)) (.c 2)) (.c (-1)) (.c 0)))))))) (.c 1099511627776))), [(.lt (.v 8) (.v 3)), (.le (.c 0) (.v 8)), (.le (.v 8) (.v 3)), (.le (.c (-1099511627776)) (.v 9)), (.le (.v 9) (.c 1099511627776)), (.le (.c (-1099511627776)) (.v 10)), (.le (.v 10) (.c 1099511627776)), (.leq (.lv 11) (.lapp 1 (.cons (.v 0) (.cons (.v 1) (.cons (.v 2) (.cons (.v 8) .nil)))))), (.eq (.v 9) (.nthI (.lv 11) (.mul (.v 8) (.c 2)))), (.eq (.v 10) (.nthI (.lv 11) (.add (.mul (.v 8) (.c 2)) (.c 1)))), (.le (.v 3) (.c 1023)), (.le (.c 1) (.v 3)), (.le (.v 2) (.c 1048576)), (.le (.c 1) (.v 2)), (.le (.v 1) (.c 16777216)), (.le (.c (-16777216)) (.v 1)), (.le (.v 0) (.c 16777216)), (.le (.c (-16777216)) (.v 0))], []⟩,
⟨(.must (.le (.c (-1099511627776)) (.wrap .i64 (.add (.v 10) (.wrap .i64 (.mul (.wrap .i64 (.mul (.wrap .i64 (.add (.wrap .i64 (.quo (.v 8) (.c 2))) (.c 1))) (.v 2))) (.ite (.eq (.rem (.v 8) (.c 4)) (.c 0)) (.c 0) (.ite (.eq (.rem (.v 8) (.c 4)) (.c 1)) (.c 1) (.ite (.eq (.rem (.v 8) (.c 4)) (.c 2)) (.c 0) (.c (-1))))))))))), [(.lt (.v 8) (.v 3)), (.le (.c 0) (.v 8)), (.le (.v 8) (.v 3)), (.le (.c (-1099511627776)) (.v 9)), (.le (.v 9) (.c 1099511627776)), (.le (.c (-1099511627776)) (.v 10)), (.le (.v 10) (.c 1099511627776)), (.leq (.lv 11) (.lapp 1 (.cons (.v 0) (.cons (.v 1) (.cons (.v 2) (.cons (.v 8) .nil)))))), (.eq (.v 9) (.nthI (.lv 11) (.mul (.v 8) (.c 2)))), (.eq (.v 10) (.nthI (.lv 11) (.add (.mul (.v 8) (.c 2)) (.c 1)))), (.le (.v 3) (.c 1023)), (.le (.c 1) (.v 3)), (.le (.v 2) (.c 1048576)), (.le (.c 1) (.v 2)), (.le (.v 1) (.c 16777216)), (.le (.c (-16777216)) (.v 1)), (.le (.v 0) (.c 16777216)), (.le (.c (-16777216)) (.v 0))], []⟩,
⟨(.must (.le (.wrap .i64 (.add (.v 10) (.wrap .i64 (.mul (.wrap .i64 (.mul (.wrap .i64 (.add (.wrap .i64 (.quo (.v 8) (.c 2))) (.c 1))) (.v 2))) (.ite (.eq (.rem (.v 8) (.c 4)) (.c 0)) (.c 0) (.ite (.eq (.rem (.v 8) (.c 4)) (.c 1)) (.c 1) (.ite (.eq (.rem (.v 8) (.c 4)) (.c 2)) (.c 0) (.c (-1))))))))) (.c 1099511627776))), [(.lt (.v 8) (.v 3)), (.le (.c 0) (.v 8)), (.le (.v 8) (.v 3)), (.le (.c (-1099511627776)) (.v 9)), (.le (.v 9) (.c 1099511627776)), (.le (.c (-1099511627776)) (.v 10)), (.le (.v 10) (.c 1099511627776)), (.leq (.lv 11) (.lapp 1 (.cons (.v 0) (.cons (.v 1) (.cons (.v 2) (.cons (.v 8) .nil)))))), (.eq (.v 9) (.nthI (.lv 11) (.mul (.v 8) (.c 2)))), (.eq (.v 10) (.nthI (.lv 11) (.add (.mul (.v 8) (.c 2)) (.c 1)))), (.le (.v 3) (.c 1023)), (.le (.c 1) (.v 3)), (.le (.v 2) (.c 1048576)), (.le (.c 1) (.v 2)), (.le (.v 1) (.c 16777216)), (.le (.c (-16777216)) (.v 1)), (.le (.v 0) (.c 16777216)), (.le (.c (-16777216)) (.v 0))], []⟩,
⟨(.must (.leq (.lcat (.lv 11) (.cons (.wrap .i64 (.add (.v 9) (.wrap .i64 (.mul (.wrap .i64 (.mul (.wrap .i64 (.add (.wrap .i64 (.quo (.v 8) (.c 2))) (.c 1))) (.v 2))) (.ite (.eq (.rem (.v 8) (.c 4)) (.c 0)) (.c 1) (.ite (.eq (.rem (.v 8) (.c 4)) (.c 1)) (.c 0) (.ite (.eq (.rem (.v 8) (.c 4)) (.c 2)) (.c (-1)) (.c 0)))))))) (.cons (.wrap .i64 (.add (.v 10) (.wrap .i64 (.mul (.wrap .i64 (.mul (.wrap .i64 (.add (.wrap .i64 (.quo (.v 8) (.c 2))) (.c 1))) (.v 2))) (.ite (.eq (.rem (.v 8) (.c 4)) (.c 0)) (.c 0) (.ite (.eq (.rem (.v 8) (.c 4)) (.c 1)) (.c 1) (.ite (.eq (.rem (.v 8) (.c 4)) (.c 2)) (.c 0) (.c (-1))))))))) .nil))) (.lapp 1 (.cons (.v 0) (.cons (.v 1) (.cons (.v 2) (.cons (.wrap .i64 (.add (.v 8) (.c 1))) .nil))))))), [(.lt (.v 8) (.v 3)), (.le (.c 0) (.v 8)), (.le (.v 8) (.v 3)), (.le (.c (-1099511627776)) (.v 9)), (.le (.v 9) (.c 1099511627776)), (.le (.c (-1099511627776)) (.v 10)), (.le (.v 10) (.c 1099511627776)), (.leq (.lv 11) (.lapp 1 (.cons (.v 0) (.cons (.v 1) (.cons (.v 2) (.cons (.v 8) .nil)))))), (.eq (.v 9) (.nthI (.lv 11) (.mul (.v 8) (.c 2)))), (.eq (.v 10) (.nthI (.lv 11) (.add (.mul (.v 8) (.c 2)) (.c 1)))), (.le (.v 3) (.c 1023)), (.le (.c 1) (.v 3)), (.le (.v 2) (.c 1048576)), (.le (.c 1) (.v 2)), (.le (.v 1) (.c 16777216)), (.le (.c (-16777216)) (.v 1)), (.le (.v 0) (.c 16777216)), (.le (.c (-16777216)) (.v 0))], []⟩,
⟨(.must (.eq (.wrap .i64 (.add (.v 9) (.wrap .i64 (.mul (.wrap .i64 (.mul (.wrap .i64 (.add (.wrap .i64 (.quo (.v 8) (.c 2))) (.c 1))) (.v 2))) (.ite (.eq (.rem (.v 8) (.c 4)) (.c 0)) (.c 1) (.ite (.eq (.rem (.v 8) (.c 4)) (.c 1)) (.c 0) (.ite (.eq (.rem (.v 8) (.c 4)) (.c 2)) (.c (-1)) (.c 0)))))))) (.nthI (.lcat (.lv 11) (.cons (.wrap .i64 (.add (.v 9) (.wrap .i64 (.mul (.wrap .i64 (.mul (.wrap .i64 (.add (.wrap .i64 (.quo (.v 8) (.c 2))) (.c 1))) (.v 2))) (.ite (.eq (.rem (.v 8) (.c 4)) (.c 0)) (.c 1) (.ite (.eq (.rem (.v 8) (.c 4)) (.c 1)) (.c 0) (.ite (.eq (.rem (.v 8) (.c 4)) (.c 2)) (.c (-1)) (.c 0)))))))) (.cons (.wrap .i64 (.add (.v 10) (.wrap .i64 (.mul (.wrap .i64 (.mul (.wrap .i64 (.add (.wrap .i64 (.quo (.v 8) (.c 2))) (.c 1))) (.v 2))) (.ite (.eq (.rem (.v 8) (.c 4)) (.c 0)) (.c 0) (.ite (.eq (.rem (.v 8) (.c 4)) (.c 1)) (.c 1) (.ite (.eq (.rem (.v 8) (.c 4)) (.c 2)) (.c 0) (.c (-1))))))))) .nil))) (.mul (.wrap .i64 (.add (.v 8) (.c 1))) (.c 2))))), [(.lt (.v 8) (.v 3)), (.le (.c 0) (.v 8)), (.le (.v 8) (.v 3)), (.le (.c (-1099511627776)) (.v 9)), (.le (.v 9) (.c 1099511627776)), (.le (.c (-1099511627776)) (.v 10)), (.le (.v 10) (.c 1099511627776)), (.leq (.lv 11) (.lapp 1 (.cons (.v 0) (.cons (.v 1) (.cons (.v 2) (.cons (.v 8) .nil)))))), (.eq (.v 9) (.nthI (.lv 11) (.mul (.v 8) (.c 2)))), (.eq (.v 10) (.nthI (.lv 11) (.add (.mul (.v 8) (.c 2)) (.c 1)))), (.le (.v 3) (.c 1023)), (.le (.c 1) (.v 3)), (.le (.v 2) (.c 1048576)), (.le (.c 1) (.v 2)), (.le (.v 1) (.c 16777216)), (.le (.c (-16777216)) (.v 1)), (.le (.v 0) (.c 16777216)), (.le (.c (-16777216)) (.v 0))], []⟩,
⟨(.must (.eq (.wrap .i64 (.add (.v 10) (.wrap .i64 (.mul (.wrap .i64 (.mul (.wrap .i64 (.add (.wrap .i64 (.quo (.v 8) (.c 2))) (.c 1))) (.v 2))) (.ite (.eq (.rem (.v 8) (.c 4)) (.c 0)) (.c 0) (.ite (.eq (.rem (.v 8) (.c 4)) (.c 1)) (.c 1) (.ite (.eq (.rem (.v 8) (.c 4)) (.c 2)) (.c 0) (.c (-1))))))))) (.nthI (.lcat (.lv 11) (.cons (.wrap .i64 (.add (.v 9) (.wrap .i64 (.mul (.wrap .i64 (.mul (.wrap .i64 (.add (.wrap .i64 (.quo (.v 8) (.c 2))) (.c 1))) (.v 2))) (.ite (.eq (.rem (.v 8) (.c 4)) (.c 0)) (.c 1) (.ite (.eq (.rem (.v 8) (.c 4)) (.c 1)) (.c 0) (.ite (.eq (.rem (.v 8) (.c 4)) (.c 2)) (.c (-1)) (.c 0)))))))) (.cons (.wrap .i64 (.add (.v 10) (.wrap .i64 (.mul (.wrap .i64 (.mul (.wrap .i64 (.add (.wrap .i64 (.quo (.v 8) (.c 2))) (.c 1))) (.v 2))) (.ite (.eq (.rem (.v 8) (.c 4)) (.c 0)) (.c 0) (.ite (.eq (.rem (.v 8) (.c 4)) (.c 1)) (.c 1) (.ite (.eq (.rem (.v 8) (.c 4)) (.c 2)) (.c 0) (.c (-1))))))))) .nil))) (.add (.mul (.wrap .i64 (.add (.v 8) (.c 1))) (.c 2)) (.c 1))))), [(.lt (.v 8) (.v 3)), (.le (.c 0) (.v 8)), (.le (.v 8) (.v 3)), (.le (.c (-1099511627776)) (.v 9)), (.le (.v 9) (.c 1099511627776)), (.le (.c (-1099511627776)) (.v 10)), (.le (.v 10) (.c 1099511627776)), (.leq (.lv 11) (.lapp 1 (.cons (.v 0) (.cons (.v 1) (.cons (.v 2) (.cons (.v 8) .nil)))))), (.eq (.v 9) (.nthI (.lv 11) (.mul (.v 8) (.c 2)))), (.eq (.v 10) (.nthI (.lv 11) (.add (.mul (.v 8) (.c 2)) (.c 1)))), (.le (.v 3) (.c 1023)), (.le (.c 1) (.v 3)), (.le (.v 2) (.c 1048576)), (.le (.c 1) (.v 2)), (.le (.v 1) (.c 16777216)), (.le (.c (-16777216)) (.v 1)), (.le (.v 0) (.c 16777216)), (.le (.c (-16777216)) (.v 0))], []⟩,
⟨(.must (.eq (.add (.v 8) (.c 2)) (.add (.wrap .i64 (.add (.v 8) (.c 1))) (.c 1)))), [(.lt (.v 8) (.v 3)), (.le (.c 0) (.v 8)), (.le (.v 8) (.v 3)), (.le (.c (-1099511627776)) (.v 9)), (.le (.v 9) (.c 1099511627776)), (.le (.c (-1099511627776)) (.v 10)), (.le (.v 10) (.c 1099511627776)), (.leq (.lv 11) (.lapp 1 (.cons (.v 0) (.cons (.v 1) (.cons (.v 2) (.cons (.v 8) .nil)))))), (.eq (.v 9) (.nthI (.lv 11) (.mul (.v 8) (.c 2)))), (.eq (.v 10) (.nthI (.lv 11) (.add (.mul (.v 8) (.c 2)) (.c 1)))), (.le (.v 3) (.c 1023)), (.le (.c 1) (.v 3)), (.le (.v 2) (.c 1048576)), (.le (.c 1) (.v 2)), (.le (.v 1) (.c 16777216)), (.le (.c (-16777216)) (.v 1)), (.le (.v 0) (.c 16777216)), (.le (.c (-16777216)) (.v 0))], []⟩,
⟨(.must (.lt (.sub (.v 3) (.wrap .i64 (.add (.v 8) (.c 1)))) (.sub (.v 3) (.v 8)))), [(.lt (.v 8) (.v 3)), (.le (.c 0) (.v 8)), (.le (.v 8) (.v 3)), (.le (.c (-1099511627776)) (.v 9)), (.le (.v 9) (.c 1099511627776)), (.le (.c (-1099511627776)) (.v 10)), (.le (.v 10) (.c 1099511627776)), (.leq (.lv 11) (.lapp 1 (.cons (.v 0) (.cons (.v 1) (.cons (.v 2) (.cons (.v 8) .nil)))))), (.eq (.v 9) (.nthI (.lv 11) (.mul (.v 8) (.c 2)))), (.eq (.v 10) (.nthI (.lv 11) (.add (.mul (.v 8) (.c 2)) (.c 1)))), (.le (.v 3) (.c 1023)), (.le (.c 1) (.v 3)), (.le (.v 2) (.c 1048576)), (.le (.c 1) (.v 2)), (.le (.v 1) (.c 16777216)), (.le (.c (-16777216)) (.v 1)), (.le (.v 0) (.c 16777216)), (.le (.c (-16777216)) (.v 0))], []⟩,
⟨(.must (.le (.c 0) (.sub (.v 3) (.wrap .i64 (.add (.v 8) (.c 1)))))), [(.lt (.v 8) (.v 3)), (.le (.c 0) (.v 8)), (.le (.v 8) (.v 3)), (.le (.c (-1099511627776)) (.v 9)), (.le (.v 9) (.c 1099511627776)), (.le (.c (-1099511627776)) (.v 10)), (.le (.v 10) (.c 1099511627776)), (.leq (.lv 11) (.lapp 1 (.cons (.v 0) (.cons (.v 1) (.cons (.v 2) (.cons (.v 8) .nil)))))), (.eq (.v 9) (.nthI (.lv 11) (.mul (.v 8) (.c 2)))), (.eq (.v 10) (.nthI (.lv 11) (.add (.mul (.v 8) (.c 2)) (.c 1)))), (.le (.v 3) (.c 1023)), (.le (.c 1) (.v 3)), (.le (.v 2) (.c 1048576)), (.le (.c 1) (.v 2)), (.le (.v 1) (.c 16777216)), (.le (.c (-16777216)) (.v 1)), (.le (.v 0) (.c 16777216)), (.le (.c (-16777216)) (.v 0))], []⟩,
⟨(.val (.tup (.cons (.var 11) (.cons (.i .i64 (.c 0)) .nil)))), [(.happ 1 (.cons (.add (.v 8) (.c 1)) (.lv 11))), (.allr (-16777216) 16777216 (.lv 11)), (.le (.add (.v 8) (.c 1)) (.c 1024)), (.le (.v 3) (.v 8)), (.le (.c 0) (.v 8)), (.le (.v 8) (.v 3)), (.le (.c (-1099511627776)) (.v 9)), (.le (.v 9) (.c 1099511627776)), (.le (.c (-1099511627776)) (.v 10)), (.le (.v 10) (.c 1099511627776)), (.leq (.lv 11) (.lapp 1 (.cons (.v 0) (.cons (.v 1) (.cons (.v 2) (.cons (.v 8) .nil)))))), (.eq (.v 9) (.nthI (.lv 11) (.mul (.v 8) (.c 2)))), (.eq (.v 10) (.nthI (.lv 11) (.add (.mul (.v 8) (.c 2)) (.c 1)))), (.le (.v 3) (.c 1023)), (.le (.c 1) (.v 3)), (.le (.v 2) (.c 1048576)), (.le (.c 1) (.v 2)), (.le (.v 1) (.c 16777216)), (.le (.c (-16777216)) (.v 1)), (.le (.v 0) (.c 16777216)), (.le (.c (-16777216)) (.v 0))], [(11, ⟨true, 23, [(.i .i64), (.i .i64)], (.add (.v 8) (.c 1)), (.lv 11)⟩)]⟩,
⟨(.val (.tup (.cons .nils (.cons (.i .i64 (.c 2)) .nil)))), [(.not (.happ 1 (.cons (.add (.v 8) (.c 1)) (.lv 11)))), (.le (.add (.v 8) (.c 1)) (.c 1024)), (.le (.v 3) (.v 8)), (.le (.c 0) (.v 8)), (.le (.v 8) (.v 3)), (.le (.c (-1099511627776)) (.v 9)), (.le (.v 9) (.c 1099511627776)), (.le (.c (-1099511627776)) (.v 10)), (.le (.v 10) (.c 1099511627776)), (.leq (.lv 11) (.lapp 1 (.cons (.v 0) (.cons (.v 1) (.cons (.v 2) (.cons (.v 8) .nil)))))), (.eq (.v 9) (.nthI (.lv 11) (.mul (.v 8) (.c 2)))), (.eq (.v 10) (.nthI (.lv 11) (.add (.mul (.v 8) (.c 2)) (.c 1)))), (.le (.v 3) (.c 1023)), (.le (.c 1) (.v 3)), (.le (.v 2) (.c 1048576)), (.le (.c 1) (.v 2)), (.le (.v 1) (.c 16777216)), (.le (.c (-16777216)) (.v 1)), (.le (.v 0) (.c 16777216)), (.le (.c (-16777216)) (.v 0))], []⟩,
⟨(.val (.tup (.cons .nils (.cons (.i .i64 (.c 2)) .nil)))), [(.lt (.v 3) (.c 1)), (.le (.v 2) (.c 1048576)), (.le (.c 1) (.v 2)), (.le (.v 1) (.c 16777216)), (.le (.c (-16777216)) (.v 1)), (.le (.v 0) (.c 16777216)), (.le (.c (-16777216)) (.v 0))], []⟩,
⟨(.val (.tup (.cons .nils (.cons (.i .i64 (.c 2)) .nil)))), [(.lt (.v 2) (.c 1)), (.le (.v 1) (.c 16777216)), (.le (.c (-16777216)) (.v 1)), (.le (.v 0) (.c 16777216)), (.le (.c (-16777216)) (.v 0))], []⟩,
⟨(.val (.tup (.cons .nils (.cons (.i .i64 (.c 2)) .nil)))), [(.lt (.v 1) (.c (-16777216))), (.le (.v 0) (.c 16777216)), (.le (.c (-16777216)) (.v 0))], []⟩,
⟨(.val (.tup (.cons .nils (.cons (.i .i64 (.c 2)) .nil)))), [(.lt (.c 16777216) (.v 0)), (.le (.c (-16777216)) (.v 0))], []⟩,
⟨(.val (.tup (.cons .nils (.cons (.i .i64 (.c 2)) .nil)))), [(.lt (.v 0) (.c (-16777216)))], []⟩] (by kernel_rfl) ρ w (fun _ h => by cases h) hT rfl (u.tabs w hJ) ⟨?_, ?_, ?_, ?_, ?_, ?_, ?_, ?_, ?_, ?_, ?_, ?_, ?_, ?_, ?_, ?_, ?_, ?_, ?_, ?_, ?_, ?_, ?_, ?_, ?_, ?_⟩ hJ
  all_goals
    intro ρ' w' hx _ hF hb hrow
    have e0 : ρ'.i 0 = ρ.i 0 := hx.i 0 (by decide)
    have e1 : ρ'.i 1 = ρ.i 1 := hx.i 1 (by decide)
    have e2 : ρ'.i 2 = ρ.i 2 := hx.i 2 (by decide)
    have e3 : ρ'.i 3 = ρ.i 3 := hx.i 3 (by decide)
    have hh' : ρ'.h = Tk.hF := by rw [hx.h]; exact hh
    have hm' : ρ'.m = mF := by rw [hx.m]; exact hm
    clear hx
    simp only [holds, List.mem_cons, List.not_mem_nil, or_false, forall_eq_or_imp, forall_eq, B_le, B_lt, B_eq, B_not, B_leq, I_add, I_sub, I_mul, I_quo, I_rem, I_ite, I_wrap, I_c, I_v, I_nthI, L_lv, L_lcat, L_cons, L_nil, L_lapp, mF_1, dX_f, dY_f, h_1 hh', e0, e1, e2, e3, hm', mF_1, dX_f, dY_f, nI_eq, sX_f, sY_f, decide_eq_true_eq, Bool.not_eq_true'] at hF ⊢
    first
    | omega
    | rfl
    | (refine ⟨⟨_, List.mem_cons_self, fun a ha => ?_, rfl⟩, hb⟩
       simp only [List.mem_cons, List.not_mem_nil, or_false] at ha
       subst ha
       simp only [sqOk, andL, B_not, B_and, B_le, I_c, I_v, Bool.not_eq_true', Bool.and_eq_false_iff, decide_eq_false_iff_not]
       omega)
    | (have w1 : IntKind.i64.wrap (ρ'.i 8 + 1) = ρ'.i 8 + 1 := (by rw [IntKind.wrap_i64]; omega)
       rw [w1]
       omega)
    | (have hP : ρ'.l 11 = sqL (ρ.i 0) (ρ.i 1) (ρ.i 2) (ρ'.i 8).toNat := (by (revert hF; simp only [and_imp]; intros; assumption))
       have w1 : IntKind.i64.wrap (ρ'.i 8 + 1) = ρ'.i 8 + 1 := (by rw [IntKind.wrap_i64]; omega)
       have L := sqL_at (ρ.i 0) (ρ.i 1) (ρ.i 2) (i := ρ'.i 8) (by omega)
       rw [← hP] at L
       have X := sq_step dX_rng (x := ρ.i 0) (s := ρ.i 2) (i := ρ'.i 8) (c := ρ'.i 9) (by omega) (by omega) (by omega) (by omega) (by omega) (by omega)
       have Y := sq_step dY_rng (x := ρ.i 1) (s := ρ.i 2) (i := ρ'.i 8) (c := ρ'.i 10) (by omega) (by omega) (by omega) (by omega) (by omega) (by omega)
       have N := sqL_next (ρ.i 0) (ρ.i 1) (ρ.i 2) (i := ρ'.i 8) (by omega) rfl rfl
       have M := sqL_at (ρ.i 0) (ρ.i 1) (ρ.i 2) (i := ρ'.i 8 + 1) (by omega)
       rw [show (ρ'.i 8 + 1).toNat = (ρ'.i 8).toNat + 1 by omega] at M
       rw [show (ρ'.i 8 + 1).toNat = (ρ'.i 8).toNat + 1 by omega] at N
       simp only [X.1, Y.1, w1, hP, show (ρ'.i 8 + 1).toNat = (ρ'.i 8).toNat + 1 by omega]
       first
       | omega
       | exact N
       | (refine Eq.trans M.1.symm ?_; rw [← N]; rfl)
       | (refine Eq.trans M.2.symm ?_; rw [← N]; rfl))
    | (have hP : ρ'.l 11 = sqL (ρ.i 0) (ρ.i 1) (ρ.i 2) (ρ'.i 8).toNat := (by (revert hF; simp only [and_imp]; intros; assumption))
       have e8 : ρ'.i 8 = ρ.i 3 := (by omega)
       rw [hP, e8] at hF
       refine ⟨⟨_, List.mem_cons_of_mem _ List.mem_cons_self, fun a ha => ?_, rfl⟩, hb⟩
       simp only [List.mem_cons, List.not_mem_nil, or_false] at ha
       rcases ha with rfl | rfl
       · simp only [sqOk, andL, B_and, B_le, I_c, I_v, Bool.and_eq_true, decide_eq_true_eq]
         omega
       · simp only [sqIn, sqA, B_not, h_1 hh, I_add, I_c, I_v, L_lapp, L_cons, L_nil, hm, mF_1, Bool.not_eq_true']
         exact hF.1)
    | (have hP : ρ'.l 11 = sqL (ρ.i 0) (ρ.i 1) (ρ.i 2) (ρ'.i 8).toNat := (by (revert hF; simp only [and_imp]; intros; assumption))
       have e8 : ρ'.i 8 = ρ.i 3 := (by omega)
       obtain ⟨hat, -⟩ := hrow _ List.mem_cons_self
       refine ⟨⟨_, List.mem_cons_of_mem _ (List.mem_cons_of_mem _ List.mem_cons_self), fun a ha => ?_, rfl, _, rfl, ?_, fun b hbb => ?_⟩, hb⟩
       · simp only [List.mem_cons, List.not_mem_nil, or_false] at ha
         rcases ha with rfl | rfl
         · simp only [sqOk, andL, B_and, B_le, I_c, I_v, Bool.and_eq_true, decide_eq_true_eq]
           omega
         · simp only [sqIn, sqA, h_1 hh, I_add, I_c, I_v, L_lapp, L_cons, L_nil, hm, mF_1]
           rw [hP, e8] at hF
           exact hF.1
       · simp only [Row.at, I_add, I_c, I_v, L_lv, hP, e8] at hat
         simp only [Row.at, sqA, I_add, I_c, I_v, L_lapp, L_cons, L_nil, hm, mF_1]
         exact hat
       · simp only [Row.at, if_true] at hat
         have hbb : (ρ'.v 11).ownBlock = some b := hbb
         rcases hat.2.2.2 with h | ⟨g, cap, cur, hv, hg, -⟩
         · rw [h.1] at hbb; cases hbb
         · rw [hv] at hbb; cases hbb; exact hg)
end Go.Proofs.YtkhffloahpdbdaaDoor.Tk
end
section
namespace Go.Proofs.YtkhffloahpdbdaaDoor.Tk
open Go Go.Proofs.YtkhffloahpdbdaaDoor.Sx Go.RowKit
variable {TT : Tb}
def srSpec : LoopSpec := { key := 8, nt := some 71, locs := [.t 12 (.i .i64), .h (.n 4) 0 (.i .i64), .h (.n 4) 1 (.i .i64), .t 9 .any], prom := [(9, 24)], rows := fun n => [(3, ⟨true, 23, [.i .i64, .i .i64], .add (.v n) (.c 1), .lv (n+3)⟩)], facts := fun n => [.le (.c 0) (.v n), .le (.v n) (.v 3), .le (.c (-1099511627776)) (.v (n+1)), .le (.v (n+1)) (.c 1099511627776), .le (.c (-1099511627776)) (.v (n+2)), .le (.v (n+2)) (.c 1099511627776), .leq (.lv (n+3)) (sqA 1 (.v n)), .eq (.v (n+1)) (.nthI (.lv (n+3)) (.mul (.v n) (.c 2))), .eq (.v (n+2)) (.nthI (.lv (n+3)) (.add (.mul (.v n) (.c 2)) (.c 1)))], meas := fun n => .sub (.v 3) (.v n) }
def chSpec (k : Nat) : LoopSpec := { key := 2, nt := some 20, locs := [.t 4 (.i .i64)], facts := fun n => [.le (.c 0) (.v n), .le (.v n) (.add (.v 3) (.c 1)), .le (.v n) (.c 1024), .happ 1 (.cons (.v n) (.lv k))], meas := fun n => .sub (.add (.v 3) (.c 1)) (.v n) }
def srG : Ctx := { loops := [srSpec, chSpec 13] }
def cSr := ctrW (ctrRowC 8 sqK [] (layC 1023 1))
theorem spots_0 (l : LL) : allTo 0 (spB l) = true := rfl
theorem spots_up {l : LL} {i : Int} (h : allTo i (spB l) = true) (_h0 : 0 ≤ i) (hs : (-16777216 ≤ sX l i ∧ sX l i ≤ 16777216) ∧ (-16777216 ≤ sY l i ∧ sY l i ≤ 16777216)) : allTo (i + 1) (spB l) = true := allTo_of fun k k0 hk => by
  by_cases e : k = i
  · rw [e]; exact spB_iff.2 hs
  · exact allTo_at h k0 (by omega)
theorem spots_out {l : LL} {n k : Int} (h0 : 0 ≤ k) (hk : k < n) (hs : ¬ ((-16777216 ≤ sX l k ∧ sX l k ≤ 16777216) ∧ (-16777216 ≤ sY l k ∧ sY l k ≤ 16777216))) : allTo n (spB l) = false := by
  rw [Bool.eq_false_iff]
  exact fun h => hs (spB_iff.1 (allTo_at h h0 hk))
set_option maxHeartbeats 2000000 in
theorem squareR_ok (u : Fit2 TT) : CtrOk TT Tryd.prog cSr := ctrRowCJ_ok u.st rfl fun ρ w _ hT hR hJ => by
  have hh := (u.tab hT).1.2
  have hm := (u.tab hT).2
  refine pat_callsD dd_ok (Γ := srG) (by simp [srG]) 400 sqK []
    [⟨(.val (.tup (.cons .nils (.cons (.i .i64 (.c 2)) .nil)))), [(.lt (.c 16777216) (.v 1)), (.le (.c (-16777216)) (.v 1)), (.le (.v 0) (.c 16777216)), (.le (.c (-16777216)) (.v 0))], []⟩,
⟨(.val (.tup (.cons .nils (.cons (.i .i64 (.c 2)) .nil)))), [(.lt (.c 1048576) (.v 2)), (.le (.c 1) (.v 2)), (.le (.v 1) (.c 16777216)), (.le (.c (-16777216)) (.v 1)), (.le (.v 0) (.c 16777216)), (.le (.c (-16777216)) (.v 0))], []⟩,
⟨(.val (.tup (.cons .nils (.cons (.i .i64 (.c 2)) .nil)))), [(.lt (.c 1023) (.v 3)), (.le (.c 1) (.v 3)), (.le (.v 2) (.c 1048576)), (.le (.c 1) (.v 2)), (.le (.v 1) (.c 16777216)), (.le (.c (-16777216)) (.v 1)), (.le (.v 0) (.c 16777216)), (.le (.c (-16777216)) (.v 0))], []⟩,
⟨(.must (.leq (.cons (.v 0) (.cons (.v 1) .nil)) (.lapp 1 (.cons (.v 0) (.cons (.v 1) (.cons (.v 2) (.cons (.c 0) .nil))))))), [(.le (.v 3) (.c 1023)), (.le (.c 1) (.v 3)), (.le (.v 2) (.c 1048576)), (.le (.c 1) (.v 2)), (.le (.v 1) (.c 16777216)), (.le (.c (-16777216)) (.v 1)), (.le (.v 0) (.c 16777216)), (.le (.c (-16777216)) (.v 0))], []⟩,
⟨(.must (.eq (.v 0) (.nthI (.cons (.v 0) (.cons (.v 1) .nil)) (.mul (.c 0) (.c 2))))), [(.le (.v 3) (.c 1023)), (.le (.c 1) (.v 3)), (.le (.v 2) (.c 1048576)), (.le (.c 1) (.v 2)), (.le (.v 1) (.c 16777216)), (.le (.c (-16777216)) (.v 1)), (.le (.v 0) (.c 16777216)), (.le (.c (-16777216)) (.v 0))], []⟩,
⟨(.must (.eq (.v 1) (.nthI (.cons (.v 0) (.cons (.v 1) .nil)) (.add (.mul (.c 0) (.c 2)) (.c 1))))), [(.le (.v 3) (.c 1023)), (.le (.c 1) (.v 3)), (.le (.v 2) (.c 1048576)), (.le (.c 1) (.v 2)), (.le (.v 1) (.c 16777216)), (.le (.c (-16777216)) (.v 1)), (.le (.v 0) (.c 16777216)), (.le (.c (-16777216)) (.v 0))], []⟩,
⟨(.must (.le (.mul (.add (.v 10) (.c 2)) (.c 16)) (.c 140737488355328))), [(.lt (.v 10) (.v 3)), (.le (.c 0) (.v 10)), (.le (.v 10) (.v 3)), (.le (.c (-1099511627776)) (.v 11)), (.le (.v 11) (.c 1099511627776)), (.le (.c (-1099511627776)) (.v 12)), (.le (.v 12) (.c 1099511627776)), (.leq (.lv 13) (.lapp 1 (.cons (.v 0) (.cons (.v 1) (.cons (.v 2) (.cons (.v 10) .nil)))))), (.eq (.v 11) (.nthI (.lv 13) (.mul (.v 10) (.c 2)))), (.eq (.v 12) (.nthI (.lv 13) (.add (.mul (.v 10) (.c 2)) (.c 1)))), (.le (.v 3) (.c 1023)), (.le (.c 1) (.v 3)), (.le (.v 2) (.c 1048576)), (.le (.c 1) (.v 2)), (.le (.v 1) (.c 16777216)), (.le (.c (-16777216)) (.v 1)), (.le (.v 0) (.c 16777216)), (.le (.c (-16777216)) (.v 0))], []⟩,
⟨(.must (.le (.c 0) (.wrap .i64 (.add (.v 10) (.c 1))))), [(.lt (.v 10) (.v 3)), (.le (.c 0) (.v 10)), (.le (.v 10) (.v 3)), (.le (.c (-1099511627776)) (.v 11)), (.le (.v 11) (.c 1099511627776)), (.le (.c (-1099511627776)) (.v 12)), (.le (.v 12) (.c 1099511627776)), (.leq (.lv 13) (.lapp 1 (.cons (.v 0) (.cons (.v 1) (.cons (.v 2) (.cons (.v 10) .nil)))))), (.eq (.v 11) (.nthI (.lv 13) (.mul (.v 10) (.c 2)))), (.eq (.v 12) (.nthI (.lv 13) (.add (.mul (.v 10) (.c 2)) (.c 1)))), (.le (.v 3) (.c 1023)), (.le (.c 1) (.v 3)), (.le (.v 2) (.c 1048576)), (.le (.c 1) (.v 2)), (.le (.v 1) (.c 16777216)), (.le (.c (-16777216)) (.v 1)), (.le (.v 0) (.c 16777216)), (.le (.c (-16777216)) (.v 0))], []⟩,
⟨(.must (.le (.wrap .i64 (.add (.v 10) (.c 1))) (.v 3))), [(.lt (.v 10) (.v 3)), (.le (.c 0) (.v 10)), (.le (.v 10) (.v 3)), (.le (.c (-1099511627776)) (.v 11)), (.le (.v 11) (.c 1099511627776)), (.le (.c (-1099511627776)) (.v 12)), (.le (.v 12) (.c 1099511627776)), (.leq (.lv 13) (.lapp 1 (.cons (.v 0) (.cons (.v 1) (.cons (.v 2) (.cons (.v 10) .nil)))))), (.eq (.v 11) (.nthI (.lv 13) (.mul (.v 10) (.c 2)))), (.eq (.v 12) (.nthI (.lv 13) (.add (.mul (.v 10) (.c 2)) (.c 1)))), (.le (.v 3) (.c 1023)), (.le (.c 1) (.v 3)), (.le (.v 2) (.c 1048576)), (.le (.c 1) (.v 2)), (.le (.v 1) (.c 16777216)), (.le (.c (-16777216)) (.v 1)), (.le (.v 0) (.c 16777216)), (.le (.c (-16777216)) (.v 0))], []⟩,
⟨(.must (.le (.c (-1099511627776)) (.wrap .i64 (.add (.v 11) (.wrap .i64 (.mul (.wrap .i64 (.mul (.wrap .i64 (.add (.wrap .i64 (.quo (.v 10) (.c 2))) (.c 1))) (.v 2))) (.ite (.eq (.rem (.v 10) (.c 4)) (.c 0)) (.c 1) (.ite (.eq (.rem (.v 10) (.c 4)) (.c 1)) (.c 0) (.ite (.eq (.rem (.v 10) (.c 4)) (.c 2)) (.c (-1)) (.c 0)))))))))), [(.lt (.v 10) (.v 3)), (.le (.c 0) (.v 10)), (.le (.v 10) (.v 3)), (.le (.c (-1099511627776)) (.v 11)), (.le (.v 11) (.c 1099511627776)), (.le (.c (-1099511627776)) (.v 12)), (.le (.v 12) (.c 1099511627776)), (.leq (.lv 13) (.lapp 1 (.cons (.v 0) (.cons (.v 1) (.cons (.v 2) (.cons (.v 10) .nil)))))), (.eq (.v 11) (.nthI (.lv 13) (.mul (.v 10) (.c 2)))), (.eq (.v 12) (.nthI (.lv 13) (.add (.mul (.v 10) (.c 2)) (.c 1)))), (.le (.v 3) (.c 1023)), (.le (.c 1) (.v 3)), (.le (.v 2) (.c 1048576)), (.le (.c 1) (.v 2)), (.le (.v 1) (.c 16777216)), (.le (.c (-16777216)) (.v 1)), (.le (.v 0) (.c 16777216)), (.le (.c (-16777216)) (.v 0))], []⟩,
⟨(.must (.le (.wrap .i64 (.add (.v 11) (.wrap .i64 (.mul (.wrap .i64 (.mul (.wrap .i64 (.add (.wrap .i64 (.quo (.v 10) (.c 2))) (.c 1))) (.v 2))) (.ite (.eq (.rem (.v 10) (.c 4)) (.c 0)) (.c 1) (.ite (.eq (.rem (.v 10) (.c 4)) (.c 1)) (.c 0) (.ite (.eq (.rem (.v 10) (.c 4)) (.c 2)) (.c (-1)) (.c 0)))))))) (.c 1099511627776))), [(.lt (.v 10) (.v 3)), (.le (.c 0) (.v 10)), (.le (.v 10) (.v 3)), (.le (.c (-1099511627776)) (.v 11)), (.le (.v 11) (.c 1099511627776)), (.le (.c (-1099511627776)) (.v 12)), (.le (.v 12) (.c 1099511627776)), (.leq (.lv 13) (.lapp 1 (.cons (.v 0) (.cons (.v 1) (.cons (.v 2) (.cons (.v 10) .nil)))))), (.eq (.v 11) (.nthI (.lv 13) (.mul (.v 10) (.c 2)))), (.eq (.v 12) (.nthI (.lv 13) (.add (.mul (.v 10) (.c 2)) (.c 1)))), (.le (.v 3) (.c 1023)), (.le (.c 1) (.v 3)), (.le (.v 2) (.c 1048576)), (.le (.c 1) (.v 2)), (.le (.v 1) (.c 16777216)), (.le (.c (-16777216)) (.v 1)), (.le (.v 0) (.c 16777216)), (.le (.c (-16777216)) (.v 0))], []⟩,
⟨(.must (.le (.c (-1099511627776)) (.wrap .i64 (.add (.v 12) (.wrap .i64 (.mul (.wrap .i64 (.mul (.wrap .i64 (.add (.wrap .i64 (.quo (.v 10) (.c 2))) (.c 1))) (.v 2))) (.ite (.eq (.rem (.v 10) (.c 4)) (.c 0)) (.c 0) (.ite (.eq (.rem (.v 10) (.c 4)) (.c 1)) (.c 1) (.ite (.eq (.rem (.v 10) (.c 4)) (.c 2)) (.c 0) (.c (-1))))))))))), [(.lt (.v 10) (.v 3)), (.le (.c 0) (.v 10)), (.le (.v 10) (.v 3)), (.le (.c (-1099511627776)) (.v 11)), (.le (.v 11) (.c 1099511627776)), (.le (.c (-1099511627776)) (.v 12)), (.le (.v 12) (.c 1099511627776)), (.leq (.lv 13) (.lapp 1 (.cons (.v 0) (.cons (.v 1) (.cons (.v 2) (.cons (.v 10) .nil)))))), (.eq (.v 11) (.nthI (.lv 13) (.mul (.v 10) (.c 2)))), (.eq (.v 12) (.nthI (.lv 13) (.add (.mul (.v 10) (.c 2)) (.c 1)))), (.le (.v 3) (.c 1023)), (.le (.c 1) (.v 3)), (.le (.v 2) (.c 1048576)), (.le (.c 1) (.v 2)), (.le (.v 1) (.c 16777216)), (.le (.c (-16777216)) (.v 1)), (.le (.v 0) (.c 16777216)), (.le (.c (-16777216)) (.v 0))], []⟩,
⟨(.must (.le (.wrap .i64 (.add (.v 12) (.wrap .i64 (.mul (.wrap .i64 (.mul (.wrap .i64 (.add (.wrap .i64 (.quo (.v 10) (.c 2))) (.c 1))) (.v 2))) (.ite (.eq (.rem (.v 10) (.c 4)) (.c 0)) (.c 0) (.ite (.eq (.rem (.v 10) (.c 4)) (.c 1)) (.c 1) (.ite (.eq (.rem (.v 10) (.c 4)) (.c 2)) (.c 0) (.c (-1))))))))) (.c 1099511627776))), [(.lt (.v 10) (.v 3)), (.le (.c 0) (.v 10)), (.le (.v 10) (.v 3)), (.le (.c (-1099511627776)) (.v 11)), (.le (.v 11) (.c 1099511627776)), (.le (.c (-1099511627776)) (.v 12)), (.le (.v 12) (.c 1099511627776)), (.leq (.lv 13) (.lapp 1 (.cons (.v 0) (.cons (.v 1) (.cons (.v 2) (.cons (.v 10) .nil)))))), (.eq (.v 11) (.nthI (.lv 13) (.mul (.v 10) (.c 2)))), (.eq (.v 12) (.nthI (.lv 13) (.add (.mul (.v 10) (.c 2)) (.c 1)))), (.le (.v 3) (.c 1023)), (.le (.c 1) (.v 3)), (.le (.v 2) (.c 1048576)), (.le (.c 1) (.v 2)), (.le (.v 1) (.c 16777216)), (.le (.c (-16777216)) (.v 1)), (.le (.v 0) (.c 16777216)), (.le (.c (-16777216)) (.v 0))], []⟩,
⟨(.must (.leq (.lcat (.lv 13) (.cons (.wrap .i64 (.add (.v 11) (.wrap .i64 (.mul (.wrap .i64 (.mul (.wrap .i64 (.add (.wrap .i64 (.quo (.v 10) (.c 2))) (.c 1))) (.v 2))) (.ite (.eq (.rem (.v 10) (.c 4)) (.c 0)) (.c 1) (.ite (.eq (.rem (.v 10) (.c 4)) (.c 1)) (.c 0) (.ite (.eq (.rem (.v 10) (.c 4)) (.c 2)) (.c (-1)) (.c 0)))))))) (.cons (.wrap .i64 (.add (.v 12) (.wrap .i64 (.mul (.wrap .i64 (.mul (.wrap .i64 (.add (.wrap .i64 (.quo (.v 10) (.c 2))) (.c 1))) (.v 2))) (.ite (.eq (.rem (.v 10) (.c 4)) (.c 0)) (.c 0) (.ite (.eq (.rem (.v 10) (.c 4)) (.c 1)) (.c 1) (.ite (.eq (.rem (.v 10) (.c 4)) (.c 2)) (.c 0) (.c (-1))))))))) .nil))) (.lapp 1 (.cons (.v 0) (.cons (.v 1) (.cons (.v 2) (.cons (.wrap .i64 (.add (.v 10) (.c 1))) .nil))))))), [(.lt (.v 10) (.v 3)), (.le (.c 0) (.v 10)), (.le (.v 10) (.v 3)), (.le (.c (-1099511627776)) (.v 11)), (.le (.v 11) (.c 1099511627776)), (.le (.c (-1099511627776)) (.v 12)), (.le (.v 12) (.c 1099511627776)), (.leq (.lv 13) (.lapp 1 (.cons (.v 0) (.cons (.v 1) (.cons (.v 2) (.cons (.v 10) .nil)))))), (.eq (.v 11) (.nthI (.lv 13) (.mul (.v 10) (.c 2)))), (.eq (.v 12) (.nthI (.lv 13) (.add (.mul (.v 10) (.c 2)) (.c 1)))), (.le (.v 3) (.c 1023)), (.le (.c 1) (.v 3)), (.le (.v 2) (.c 1048576)), (.le (.c 1) (.v 2)), (.le (.v 1) (.c 16777216)), (.le (.c (-16777216)) (.v 1)), (.le (.v 0) (.c 16777216)), (.le (.c (-16777216)) (.v 0))], []⟩,
⟨(.must (.eq (.wrap .i64 (.add (.v 11) (.wrap .i64 (.mul (.wrap .i64 (.mul (.wrap .i64 (.add (.wrap .i64 (.quo (.v 10) (.c 2))) (.c 1))) (.v 2))) (.ite (.eq (.rem (.v 10) (.c 4)) (.c 0)) (.c 1) (.ite (.eq (.rem (.v 10) (.c 4)) (.c 1)) (.c 0) (.ite (.eq (.rem (.v 10) (.c 4)) (.c 2)) (.c (-1)) (.c 0)))))))) (.nthI (.lcat (.lv 13) (.cons (.wrap .i64 (.add (.v 11) (.wrap .i64 (.mul (.wrap .i64 (.mul (.wrap .i64 (.add (.wrap .i64 (.quo (.v 10) (.c 2))) (.c 1))) (.v 2))) (.ite (.eq (.rem (.v 10) (.c 4)) (.c 0)) (.c 1) (.ite (.eq (.rem (.v 10) (.c 4)) (.c 1)) (.c 0) (.ite (.eq (.rem (.v 10) (.c 4)) (.c 2)) (.c (-1)) (.c 0)))))))) (.cons (.wrap .i64 (.add (.v 12) (.wrap .i64 (.mul (.wrap .i64 (.mul (.wrap .i64 (.add (.wrap .i64 (.quo (.v 10) (.c 2))) (.c 1))) (.v 2))) (.ite (.eq (.rem (.v 10) (.c 4)) (.c 0)) (.c 0) (.ite (.eq (.rem (.v 10) (.c 4)) (.c 1)) (.c 1) (.ite (.eq (.rem (.v 10) (.c 4)) (.c 2)) (.c 0) (.c (-1))))))))) .nil))) (.mul (.wrap .i64 (.add (.v 10) (.c 1))) (.c 2))))), [(.lt (.v 10) (.v 3)), (.le (.c 0) (.v 10)), (.le (.v 10) (.v 3)), (.le (.c (-1099511627776)) (.v 11)), (.le (.v 11) (.c 1099511627776)), (.le (.c (-1099511627776)) (.v 12)), (.le (.v 12) (.c 1099511627776)), (.leq (.lv 13) (.lapp 1 (.cons (.v 0) (.cons (.v 1) (.cons (.v 2) (.cons (.v 10) .nil)))))), (.eq (.v 11) (.nthI (.lv 13) (.mul (.v 10) (.c 2)))), (.eq (.v 12) (.nthI (.lv 13) (.add (.mul (.v 10) (.c 2)) (.c 1)))), (.le (.v 3) (.c 1023)), (.le (.c 1) (.v 3)), (.le (.v 2) (.c 1048576)), (.le (.c 1) (.v 2)), (.le (.v 1) (.c 16777216)), (.le (.c (-16777216)) (.v 1)), (.le (.v 0) (.c 16777216)), (.le (.c (-16777216)) (.v 0))], []⟩,
⟨(.must (.eq (.wrap .i64 (.add (.v 12) (.wrap .i64 (.mul (.wrap .i64 (.mul (.wrap .i64 (.add (.wrap .i64 (.quo (.v 10) (.c 2))) (.c 1))) (.v 2))) (.ite (.eq (.rem (.v 10) (.c 4)) (.c 0)) (.c 0) (.ite (.eq (.rem (.v 10) (.c 4)) (.c 1)) (.c 1) (.ite (.eq (.rem (.v 10) (.c 4)) (.c 2)) (.c 0) (.c (-1))))))))) (.nthI (.lcat (.lv 13) (.cons (.wrap .i64 (.add (.v 11) (.wrap .i64 (.mul (.wrap .i64 (.mul (.wrap .i64 (.add (.wrap .i64 (.quo (.v 10) (.c 2))) (.c 1))) (.v 2))) (.ite (.eq (.rem (.v 10) (.c 4)) (.c 0)) (.c 1) (.ite (.eq (.rem (.v 10) (.c 4)) (.c 1)) (.c 0) (.ite (.eq (.rem (.v 10) (.c 4)) (.c 2)) (.c (-1)) (.c 0)))))))) (.cons (.wrap .i64 (.add (.v 12) (.wrap .i64 (.mul (.wrap .i64 (.mul (.wrap .i64 (.add (.wrap .i64 (.quo (.v 10) (.c 2))) (.c 1))) (.v 2))) (.ite (.eq (.rem (.v 10) (.c 4)) (.c 0)) (.c 0) (.ite (.eq (.rem (.v 10) (.c 4)) (.c 1)) (.c 1) (.ite (.eq (.rem (.v 10) (.c 4)) (.c 2)) (.c 0) (.c (-1))))))))) .nil))) (.add (.mul (.wrap .i64 (.add (.v 10) (.c 1))) (.c 2)) (.c 1))))), [(.lt (.v 10) (.v 3)), (.le (.c 0) (.v 10)), (.le (.v 10) (.v 3)), (.le (.c (-1099511627776)) (.v 11)), (.le (.v 11) (.c 1099511627776)), (.le (.c (-1099511627776)) (.v 12)), (.le (.v 12) (.c 1099511627776)), (.leq (.lv 13) (.lapp 1 (.cons (.v 0) (.cons (.v 1) (.cons (.v 2) (.cons (.v 10) .nil)))))), (.eq (.v 11) (.nthI (.lv 13) (.mul (.v 10) (.c 2)))), (.eq (.v 12) (.nthI (.lv 13) (.add (.mul (.v 10) (.c 2)) (.c 1)))), (.le (.v 3) (.c 1023)), (.le (.c 1) (.v 3)), (.le (.v 2) (.c 1048576)), (.le (.c 1) (.v 2)), (.le (.v 1) (.c 16777216)), (.le (.c (-16777216)) (.v 1)), (.le (.v 0) (.c 16777216)), (.le (.c (-16777216)) (.v 0))], []⟩,
⟨(.must (.eq (.add (.v 10) (.c 2)) (.add (.wrap .i64 (.add (.v 10) (.c 1))) (.c 1)))), [(.lt (.v 10) (.v 3)), (.le (.c 0) (.v 10)), (.le (.v 10) (.v 3)), (.le (.c (-1099511627776)) (.v 11)), (.le (.v 11) (.c 1099511627776)), (.le (.c (-1099511627776)) (.v 12)), (.le (.v 12) (.c 1099511627776)), (.leq (.lv 13) (.lapp 1 (.cons (.v 0) (.cons (.v 1) (.cons (.v 2) (.cons (.v 10) .nil)))))), (.eq (.v 11) (.nthI (.lv 13) (.mul (.v 10) (.c 2)))), (.eq (.v 12) (.nthI (.lv 13) (.add (.mul (.v 10) (.c 2)) (.c 1)))), (.le (.v 3) (.c 1023)), (.le (.c 1) (.v 3)), (.le (.v 2) (.c 1048576)), (.le (.c 1) (.v 2)), (.le (.v 1) (.c 16777216)), (.le (.c (-16777216)) (.v 1)), (.le (.v 0) (.c 16777216)), (.le (.c (-16777216)) (.v 0))], []⟩,
⟨(.must (.lt (.sub (.v 3) (.wrap .i64 (.add (.v 10) (.c 1)))) (.sub (.v 3) (.v 10)))), [(.lt (.v 10) (.v 3)), (.le (.c 0) (.v 10)), (.le (.v 10) (.v 3)), (.le (.c (-1099511627776)) (.v 11)), (.le (.v 11) (.c 1099511627776)), (.le (.c (-1099511627776)) (.v 12)), (.le (.v 12) (.c 1099511627776)), (.leq (.lv 13) (.lapp 1 (.cons (.v 0) (.cons (.v 1) (.cons (.v 2) (.cons (.v 10) .nil)))))), (.eq (.v 11) (.nthI (.lv 13) (.mul (.v 10) (.c 2)))), (.eq (.v 12) (.nthI (.lv 13) (.add (.mul (.v 10) (.c 2)) (.c 1)))), (.le (.v 3) (.c 1023)), (.le (.c 1) (.v 3)), (.le (.v 2) (.c 1048576)), (.le (.c 1) (.v 2)), (.le (.v 1) (.c 16777216)), (.le (.c (-16777216)) (.v 1)), (.le (.v 0) (.c 16777216)), (.le (.c (-16777216)) (.v 0))], []⟩,
⟨(.must (.le (.c 0) (.sub (.v 3) (.wrap .i64 (.add (.v 10) (.c 1)))))), [(.lt (.v 10) (.v 3)), (.le (.c 0) (.v 10)), (.le (.v 10) (.v 3)), (.le (.c (-1099511627776)) (.v 11)), (.le (.v 11) (.c 1099511627776)), (.le (.c (-1099511627776)) (.v 12)), (.le (.v 12) (.c 1099511627776)), (.leq (.lv 13) (.lapp 1 (.cons (.v 0) (.cons (.v 1) (.cons (.v 2) (.cons (.v 10) .nil)))))), (.eq (.v 11) (.nthI (.lv 13) (.mul (.v 10) (.c 2)))), (.eq (.v 12) (.nthI (.lv 13) (.add (.mul (.v 10) (.c 2)) (.c 1)))), (.le (.v 3) (.c 1023)), (.le (.c 1) (.v 3)), (.le (.v 2) (.c 1048576)), (.le (.c 1) (.v 2)), (.le (.v 1) (.c 16777216)), (.le (.c (-16777216)) (.v 1)), (.le (.v 0) (.c 16777216)), (.le (.c (-16777216)) (.v 0))], []⟩,
⟨(.must (.happ 1 (.cons (.c 0) (.lv 13)))), [(.le (.v 3) (.v 10)), (.le (.c 0) (.v 10)), (.le (.v 10) (.v 3)), (.le (.c (-1099511627776)) (.v 11)), (.le (.v 11) (.c 1099511627776)), (.le (.c (-1099511627776)) (.v 12)), (.le (.v 12) (.c 1099511627776)), (.leq (.lv 13) (.lapp 1 (.cons (.v 0) (.cons (.v 1) (.cons (.v 2) (.cons (.v 10) .nil)))))), (.eq (.v 11) (.nthI (.lv 13) (.mul (.v 10) (.c 2)))), (.eq (.v 12) (.nthI (.lv 13) (.add (.mul (.v 10) (.c 2)) (.c 1)))), (.le (.v 3) (.c 1023)), (.le (.c 1) (.v 3)), (.le (.v 2) (.c 1048576)), (.le (.c 1) (.v 2)), (.le (.v 1) (.c 16777216)), (.le (.c (-16777216)) (.v 1)), (.le (.v 0) (.c 16777216)), (.le (.c (-16777216)) (.v 0))], []⟩,
⟨(.val (.tup (.cons .nils (.cons (.i .i64 (.c 2)) .nil)))), [(.lt (.c 16777216) (.nthI (.lv 13) (.add (.mul (.v 50) (.c 2)) (.c 1)))), (.le (.c (-16777216)) (.nthI (.lv 13) (.add (.mul (.v 50) (.c 2)) (.c 1)))), (.le (.nthI (.lv 13) (.mul (.v 50) (.c 2))) (.c 16777216)), (.le (.c (-16777216)) (.nthI (.lv 13) (.mul (.v 50) (.c 2)))), (.lt (.v 50) (.add (.v 10) (.c 1))), (.le (.c 0) (.v 50)), (.le (.v 50) (.add (.v 3) (.c 1))), (.le (.v 50) (.c 1024)), (.happ 1 (.cons (.v 50) (.lv 13))), (.le (.v 3) (.v 10)), (.le (.c 0) (.v 10)), (.le (.v 10) (.v 3)), (.le (.c (-1099511627776)) (.v 11)), (.le (.v 11) (.c 1099511627776)), (.le (.c (-1099511627776)) (.v 12)), (.le (.v 12) (.c 1099511627776)), (.leq (.lv 13) (.lapp 1 (.cons (.v 0) (.cons (.v 1) (.cons (.v 2) (.cons (.v 10) .nil)))))), (.eq (.v 11) (.nthI (.lv 13) (.mul (.v 10) (.c 2)))), (.eq (.v 12) (.nthI (.lv 13) (.add (.mul (.v 10) (.c 2)) (.c 1)))), (.le (.v 3) (.c 1023)), (.le (.c 1) (.v 3)), (.le (.v 2) (.c 1048576)), (.le (.c 1) (.v 2)), (.le (.v 1) (.c 16777216)), (.le (.c (-16777216)) (.v 1)), (.le (.v 0) (.c 16777216)), (.le (.c (-16777216)) (.v 0))], []⟩,
⟨(.must (.le (.add (.v 50) (.c 1)) (.c 1024))), [(.le (.nthI (.lv 13) (.add (.mul (.v 50) (.c 2)) (.c 1))) (.c 16777216)), (.le (.c (-16777216)) (.nthI (.lv 13) (.add (.mul (.v 50) (.c 2)) (.c 1)))), (.le (.nthI (.lv 13) (.mul (.v 50) (.c 2))) (.c 16777216)), (.le (.c (-16777216)) (.nthI (.lv 13) (.mul (.v 50) (.c 2)))), (.lt (.v 50) (.add (.v 10) (.c 1))), (.le (.c 0) (.v 50)), (.le (.v 50) (.add (.v 3) (.c 1))), (.le (.v 50) (.c 1024)), (.happ 1 (.cons (.v 50) (.lv 13))), (.le (.v 3) (.v 10)), (.le (.c 0) (.v 10)), (.le (.v 10) (.v 3)), (.le (.c (-1099511627776)) (.v 11)), (.le (.v 11) (.c 1099511627776)), (.le (.c (-1099511627776)) (.v 12)), (.le (.v 12) (.c 1099511627776)), (.leq (.lv 13) (.lapp 1 (.cons (.v 0) (.cons (.v 1) (.cons (.v 2) (.cons (.v 10) .nil)))))), (.eq (.v 11) (.nthI (.lv 13) (.mul (.v 10) (.c 2)))), (.eq (.v 12) (.nthI (.lv 13) (.add (.mul (.v 10) (.c 2)) (.c 1)))), (.le (.v 3) (.c 1023)), (.le (.c 1) (.v 3)), (.le (.v 2) (.c 1048576)), (.le (.c 1) (.v 2)), (.le (.v 1) (.c 16777216)), (.le (.c (-16777216)) (.v 1)), (.le (.v 0) (.c 16777216)), (.le (.c (-16777216)) (.v 0))], []⟩,
⟨(.must (.happ 1 (.cons (.add (.v 50) (.c 1)) (.lv 13)))), [(.le (.nthI (.lv 13) (.add (.mul (.v 50) (.c 2)) (.c 1))) (.c 16777216)), (.le (.c (-16777216)) (.nthI (.lv 13) (.add (.mul (.v 50) (.c 2)) (.c 1)))), (.le (.nthI (.lv 13) (.mul (.v 50) (.c 2))) (.c 16777216)), (.le (.c (-16777216)) (.nthI (.lv 13) (.mul (.v 50) (.c 2)))), (.lt (.v 50) (.add (.v 10) (.c 1))), (.le (.c 0) (.v 50)), (.le (.v 50) (.add (.v 3) (.c 1))), (.le (.v 50) (.c 1024)), (.happ 1 (.cons (.v 50) (.lv 13))), (.le (.v 3) (.v 10)), (.le (.c 0) (.v 10)), (.le (.v 10) (.v 3)), (.le (.c (-1099511627776)) (.v 11)), (.le (.v 11) (.c 1099511627776)), (.le (.c (-1099511627776)) (.v 12)), (.le (.v 12) (.c 1099511627776)), (.leq (.lv 13) (.lapp 1 (.cons (.v 0) (.cons (.v 1) (.cons (.v 2) (.cons (.v 10) .nil)))))), (.eq (.v 11) (.nthI (.lv 13) (.mul (.v 10) (.c 2)))), (.eq (.v 12) (.nthI (.lv 13) (.add (.mul (.v 10) (.c 2)) (.c 1)))), (.le (.v 3) (.c 1023)), (.le (.c 1) (.v 3)), (.le (.v 2) (.c 1048576)), (.le (.c 1) (.v 2)), (.le (.v 1) (.c 16777216)), (.le (.c (-16777216)) (.v 1)), (.le (.v 0) (.c 16777216)), (.le (.c (-16777216)) (.v 0))], []⟩,
⟨(.val (.tup (.cons .nils (.cons (.i .i64 (.c 2)) .nil)))), [(.lt (.nthI (.lv 13) (.add (.mul (.v 50) (.c 2)) (.c 1))) (.c (-16777216))), (.le (.nthI (.lv 13) (.mul (.v 50) (.c 2))) (.c 16777216)), (.le (.c (-16777216)) (.nthI (.lv 13) (.mul (.v 50) (.c 2)))), (.lt (.v 50) (.add (.v 10) (.c 1))), (.le (.c 0) (.v 50)), (.le (.v 50) (.add (.v 3) (.c 1))), (.le (.v 50) (.c 1024)), (.happ 1 (.cons (.v 50) (.lv 13))), (.le (.v 3) (.v 10)), (.le (.c 0) (.v 10)), (.le (.v 10) (.v 3)), (.le (.c (-1099511627776)) (.v 11)), (.le (.v 11) (.c 1099511627776)), (.le (.c (-1099511627776)) (.v 12)), (.le (.v 12) (.c 1099511627776)), (.leq (.lv 13) (.lapp 1 (.cons (.v 0) (.cons (.v 1) (.cons (.v 2) (.cons (.v 10) .nil)))))), (.eq (.v 11) (.nthI (.lv 13) (.mul (.v 10) (.c 2)))), (.eq (.v 12) (.nthI (.lv 13) (.add (.mul (.v 10) (.c 2)) (.c 1)))), (.le (.v 3) (.c 1023)), (.le (.c 1) (.v 3)), (.le (.v 2) (.c 1048576)), (.le (.c 1) (.v 2)), (.le (.v 1) (.c 16777216)), (.le (.c (-16777216)) (.v 1)), (.le (.v 0) (.c 16777216)), (.le (.c (-16777216)) (.v 0))], []⟩,
⟨(.val (.tup (.cons .nils (.cons (.i .i64 (.c 2)) .nil)))), [(.lt (.c 16777216) (.nthI (.lv 13) (.mul (.v 50) (.c 2)))), (.le (.c (-16777216)) (.nthI (.lv 13) (.mul (.v 50) (.c 2)))), (.lt (.v 50) (.add (.v 10) (.c 1))), (.le (.c 0) (.v 50)), (.le (.v 50) (.add (.v 3) (.c 1))), (.le (.v 50) (.c 1024)), (.happ 1 (.cons (.v 50) (.lv 13))), (.le (.v 3) (.v 10)), (.le (.c 0) (.v 10)), (.le (.v 10) (.v 3)), (.le (.c (-1099511627776)) (.v 11)), (.le (.v 11) (.c 1099511627776)), (.le (.c (-1099511627776)) (.v 12)), (.le (.v 12) (.c 1099511627776)), (.leq (.lv 13) (.lapp 1 (.cons (.v 0) (.cons (.v 1) (.cons (.v 2) (.cons (.v 10) .nil)))))), (.eq (.v 11) (.nthI (.lv 13) (.mul (.v 10) (.c 2)))), (.eq (.v 12) (.nthI (.lv 13) (.add (.mul (.v 10) (.c 2)) (.c 1)))), (.le (.v 3) (.c 1023)), (.le (.c 1) (.v 3)), (.le (.v 2) (.c 1048576)), (.le (.c 1) (.v 2)), (.le (.v 1) (.c 16777216)), (.le (.c (-16777216)) (.v 1)), (.le (.v 0) (.c 16777216)), (.le (.c (-16777216)) (.v 0))], []⟩,
⟨(.val (.tup (.cons .nils (.cons (.i .i64 (.c 2)) .nil)))), [(.lt (.nthI (.lv 13) (.mul (.v 50) (.c 2))) (.c (-16777216))), (.lt (.v 50) (.add (.v 10) (.c 1))), (.le (.c 0) (.v 50)), (.le (.v 50) (.add (.v 3) (.c 1))), (.le (.v 50) (.c 1024)), (.happ 1 (.cons (.v 50) (.lv 13))), (.le (.v 3) (.v 10)), (.le (.c 0) (.v 10)), (.le (.v 10) (.v 3)), (.le (.c (-1099511627776)) (.v 11)), (.le (.v 11) (.c 1099511627776)), (.le (.c (-1099511627776)) (.v 12)), (.le (.v 12) (.c 1099511627776)), (.leq (.lv 13) (.lapp 1 (.cons (.v 0) (.cons (.v 1) (.cons (.v 2) (.cons (.v 10) .nil)))))), (.eq (.v 11) (.nthI (.lv 13) (.mul (.v 10) (.c 2)))), (.eq (.v 12) (.nthI (.lv 13) (.add (.mul (.v 10) (.c 2)) (.c 1)))), (.le (.v 3) (.c 1023)), (.le (.c 1) (.v 3)), (.le (.v 2) (.c 1048576)), (.le (.c 1) (.v 2)), (.le (.v 1) (.c 16777216)), (.le (.c (-16777216)) (.v 1)), (.le (.v 0) (.c 16777216)), (.le (.c (-16777216)) (.v 0))], []⟩,
⟨(.val (.tup (.cons (.var 13) (.cons (.i .i64 (.c 0)) .nil)))), [(.le (.add (.v 10) (.c 1)) (.v 50)), (.le (.c 0) (.v 50)), (.le (.v 50) (.add (.v 3) (.c 1))), (.le (.v 50) (.c 1024)), (.happ 1 (.cons (.v 50) (.lv 13))), (.le (.v 3) (.v 10)), (.le (.c 0) (.v 10)), (.le (.v 10) (.v 3)), (.le (.c (-1099511627776)) (.v 11)), (.le (.v 11) (.c 1099511627776)), (.le (.c (-1099511627776)) (.v 12)), (.le (.v 12) (.c 1099511627776)), (.leq (.lv 13) (.lapp 1 (.cons (.v 0) (.cons (.v 1) (.cons (.v 2) (.cons (.v 10) .nil)))))), (.eq (.v 11) (.nthI (.lv 13) (.mul (.v 10) (.c 2)))), (.eq (.v 12) (.nthI (.lv 13) (.add (.mul (.v 10) (.c 2)) (.c 1)))), (.le (.v 3) (.c 1023)), (.le (.c 1) (.v 3)), (.le (.v 2) (.c 1048576)), (.le (.c 1) (.v 2)), (.le (.v 1) (.c 16777216)), (.le (.c (-16777216)) (.v 1)), (.le (.v 0) (.c 16777216)), (.le (.c (-16777216)) (.v 0))], [(13, ⟨true, 23, [(.i .i64), (.i .i64)], (.add (.v 10) (.c 1)), (.lv 13)⟩)]⟩,
⟨(.val (.tup (.cons .nils (.cons (.i .i64 (.c 2)) .nil)))), [(.lt (.v 3) (.c 1)), (.le (.v 2) (.c 1048576)), (.le (.c 1) (.v 2)), (.le (.v 1) (.c 16777216)), (.le (.c (-16777216)) (.v 1)), (.le (.v 0) (.c 16777216)), (.le (.c (-16777216)) (.v 0))], []⟩,
⟨(.val (.tup (.cons .nils (.cons (.i .i64 (.c 2)) .nil)))), [(.lt (.v 2) (.c 1)), (.le (.v 1) (.c 16777216)), (.le (.c (-16777216)) (.v 1)), (.le (.v 0) (.c 16777216)), (.le (.c (-16777216)) (.v 0))], []⟩,
⟨(.val (.tup (.cons .nils (.cons (.i .i64 (.c 2)) .nil)))), [(.lt (.v 1) (.c (-16777216))), (.le (.v 0) (.c 16777216)), (.le (.c (-16777216)) (.v 0))], []⟩,
⟨(.val (.tup (.cons .nils (.cons (.i .i64 (.c 2)) .nil)))), [(.lt (.c 16777216) (.v 0)), (.le (.c (-16777216)) (.v 0))], []⟩,
⟨(.val (.tup (.cons .nils (.cons (.i .i64 (.c 2)) .nil)))), [(.lt (.v 0) (.c (-16777216)))], []⟩] (by kernel_rfl) ρ w (fun _ h => by cases h) hT hR ⟨?_, ?_, ?_, ?_, ?_, ?_, ?_, ?_, ?_, ?_, ?_, ?_, ?_, ?_, ?_, ?_, ?_, ?_, ?_, ?_, ?_, ?_, ?_, ?_, ?_, ?_, ?_, ?_, ?_, ?_, ?_, ?_⟩ hJ
  all_goals
    intro ρ' w' hx _ hF hb hrow
    have e0 : ρ'.i 0 = ρ.i 0 := hx.i 0 (by decide)
    have e1 : ρ'.i 1 = ρ.i 1 := hx.i 1 (by decide)
    have e2 : ρ'.i 2 = ρ.i 2 := hx.i 2 (by decide)
    have e3 : ρ'.i 3 = ρ.i 3 := hx.i 3 (by decide)
    have hh' : ρ'.h = Tk.hF := by rw [hx.h]; exact hh
    have hm' : ρ'.m = mF := by rw [hx.m]; exact hm
    clear hx
    simp only [holds, List.mem_cons, List.not_mem_nil, or_false, forall_eq_or_imp, forall_eq, B_le, B_lt, B_eq, B_leq, I_add, I_sub, I_mul, I_quo, I_rem, I_ite, I_wrap, I_c, I_v, I_nthI, L_lv, L_lcat, L_cons, L_nil, L_lapp, mF_1, dX_f, dY_f, h_1 hh', e0, e1, e2, e3, hm', mF_1, dX_f, dY_f, nI_eq, sX_f, sY_f, decide_eq_true_eq] at hF ⊢
    first
    | omega
    | rfl
    | exact spots_0 _
    | (refine ⟨⟨_, List.mem_cons_self, fun a ha => ?_, rfl⟩, hb⟩
       simp only [List.mem_cons, List.not_mem_nil, or_false] at ha
       subst ha
       simp only [sqOk, andL, B_not, B_and, B_le, I_c, I_v, Bool.not_eq_true', Bool.and_eq_false_iff, decide_eq_false_iff_not]
       omega)
    | (have w1 : IntKind.i64.wrap (ρ'.i 10 + 1) = ρ'.i 10 + 1 := (by rw [IntKind.wrap_i64]; omega)
       rw [w1]
       omega)
    | (have hP : ρ'.l 13 = sqL (ρ.i 0) (ρ.i 1) (ρ.i 2) (ρ'.i 10).toNat := (by (revert hF; simp only [and_imp]; intros; assumption))
       have w1 : IntKind.i64.wrap (ρ'.i 10 + 1) = ρ'.i 10 + 1 := (by rw [IntKind.wrap_i64]; omega)
       have L := sqL_at (ρ.i 0) (ρ.i 1) (ρ.i 2) (i := ρ'.i 10) (by omega)
       rw [← hP] at L
       have X := sq_step dX_rng (x := ρ.i 0) (s := ρ.i 2) (i := ρ'.i 10) (c := ρ'.i 11) (by omega) (by omega) (by omega) (by omega) (by omega) (by omega)
       have Y := sq_step dY_rng (x := ρ.i 1) (s := ρ.i 2) (i := ρ'.i 10) (c := ρ'.i 12) (by omega) (by omega) (by omega) (by omega) (by omega) (by omega)
       have N := sqL_next (ρ.i 0) (ρ.i 1) (ρ.i 2) (i := ρ'.i 10) (by omega) rfl rfl
       have M := sqL_at (ρ.i 0) (ρ.i 1) (ρ.i 2) (i := ρ'.i 10 + 1) (by omega)
       rw [show (ρ'.i 10 + 1).toNat = (ρ'.i 10).toNat + 1 by omega] at M
       rw [show (ρ'.i 10 + 1).toNat = (ρ'.i 10).toNat + 1 by omega] at N
       simp only [X.1, Y.1, w1, hP, show (ρ'.i 10 + 1).toNat = (ρ'.i 10).toNat + 1 by omega]
       first
       | omega
       | exact N
       | (refine Eq.trans M.1.symm ?_; rw [← N]; rfl)
       | (refine Eq.trans M.2.symm ?_; rw [← N]; rfl))
    | (have hA : allTo (ρ'.i 50) (spB (ρ'.l 13)) = true := (by (revert hF; simp only [and_imp]; intros; assumption))
       exact spots_up hA (by omega) (by omega))
    | (have hP : ρ'.l 13 = sqL (ρ.i 0) (ρ.i 1) (ρ.i 2) (ρ'.i 10).toNat := (by (revert hF; simp only [and_imp]; intros; assumption))
       have e8 : ρ'.i 10 = ρ.i 3 := (by omega)
       have hX : allTo (ρ.i 3 + 1) (spB (ρ'.l 13)) = false := spots_out (k := ρ'.i 50) (by omega) (by omega) (by omega)
       rw [hP, e8] at hX
       refine ⟨⟨_, List.mem_cons_of_mem _ List.mem_cons_self, fun a ha => ?_, rfl⟩, hb⟩
       simp only [List.mem_cons, List.not_mem_nil, or_false] at ha
       rcases ha with rfl | rfl
       · simp only [sqOk, andL, B_and, B_le, I_c, I_v, Bool.and_eq_true, decide_eq_true_eq]
         omega
       · simp only [sqIn, sqA, B_not, h_1 hh, I_add, I_c, I_v, L_lapp, L_cons, L_nil, hm, mF_1, Bool.not_eq_true']
         exact hX)
    | (have hP : ρ'.l 13 = sqL (ρ.i 0) (ρ.i 1) (ρ.i 2) (ρ'.i 10).toNat := (by (revert hF; simp only [and_imp]; intros; assumption))
       have e8 : ρ'.i 10 = ρ.i 3 := (by omega)
       obtain ⟨hat, -⟩ := hrow _ List.mem_cons_self
       refine ⟨⟨_, List.mem_cons_of_mem _ (List.mem_cons_of_mem _ List.mem_cons_self), fun a ha => ?_, rfl, _, rfl, ?_, fun b hbb => ?_⟩, hb⟩
       · simp only [List.mem_cons, List.not_mem_nil, or_false] at ha
         rcases ha with rfl | rfl
         · simp only [sqOk, andL, B_and, B_le, I_c, I_v, Bool.and_eq_true, decide_eq_true_eq]
           omega
         · simp only [sqIn, sqA, h_1 hh, I_add, I_c, I_v, L_lapp, L_cons, L_nil, hm, mF_1]
           have hA : allTo (ρ'.i 50) (spB (ρ'.l 13)) = true := (by (revert hF; simp only [and_imp]; intros; assumption))
           rw [show ρ'.i 50 = ρ.i 3 + 1 by omega, hP, e8] at hA
           exact hA
       · simp only [Row.at, I_add, I_c, I_v, L_lv, hP, e8] at hat
         simp only [Row.at, sqA, I_add, I_c, I_v, L_lapp, L_cons, L_nil, hm, mF_1]
         exact hat
       · simp only [Row.at, if_true] at hat
         have hbb : (ρ'.v 13).ownBlock = some b := hbb
         rcases hat.2.2.2 with h | ⟨g, cap, cur, hv, hg, -⟩
         · rw [h.1] at hbb; cases hbb
         · rw [hv] at hbb; cases hbb; exact hg)
end Go.Proofs.YtkhffloahpdbdaaDoor.Tk
end
section
namespace Go.Proofs.YtkhffloahpdbdaaDoor.Tk
open Go Go.Proofs.YtkhffloahpdbdaaDoor.Sx Go.RowKit
variable {TT : Tb}
def scSpec : LoopSpec := { key := 5, nt := some 43, locs := [.t 26 (.i .i64), .t 8 .any], prom := [(8, 24)], rows := fun n => [(1, ⟨true, 23, [.i .i64, .i .i64], .add (.v n) (.c 1), .lv (n+1)⟩)], facts := fun n => [.le (.c 0) (.v n), .le (.v n) (.v 3), .leq (.lv (n+1)) (sqA 2 (.v n))], meas := fun n => .sub (.v 3) (.v n) }
def scG : Ctx := { calls := [cSpots], loops := [scSpec] }
def cSc := ctrW (ctrRowC 9 sqK [] (layC 12 2))
theorem mF_2 (a b c d : Int) (s1 s2 s3 s4 : ByteArray) : mF 2 [(a, s1), (b, s2), (c, s3), (d, s4)] = scL a b c d.toNat := rfl
set_option maxHeartbeats 2000000 in
theorem sector_ok (u : Fit2 TT) : CtrOk TT Tryd.prog cSc := ctrRowCJ_ok u.st rfl fun ρ w _ hT hR hJ => by
  have hh := (u.tab hT).1.2
  have hm := (u.tab hT).2
  refine pat_callsT dd_ok (Γ := scG) (by simpa [scG] using ctr_noJ (areSpots_ok u.fit)) 400 tbD sqK []
    [⟨(.val (.tup (.cons .nils (.cons (.i .i64 (.c 2)) .nil)))), [(.lt (.c 16777216) (.v 1)), (.le (.c (-16777216)) (.v 1)), (.le (.v 0) (.c 16777216)), (.le (.c (-16777216)) (.v 0))], []⟩,
⟨(.val (.tup (.cons .nils (.cons (.i .i64 (.c 2)) .nil)))), [(.lt (.c 1048576) (.v 2)), (.le (.c 1) (.v 2)), (.le (.v 1) (.c 16777216)), (.le (.c (-16777216)) (.v 1)), (.le (.v 0) (.c 16777216)), (.le (.c (-16777216)) (.v 0))], []⟩,
⟨(.val (.tup (.cons .nils (.cons (.i .i64 (.c 2)) .nil)))), [(.lt (.c 12) (.v 3)), (.le (.c 1) (.v 3)), (.le (.v 2) (.c 1048576)), (.le (.c 1) (.v 2)), (.le (.v 1) (.c 16777216)), (.le (.c (-16777216)) (.v 1)), (.le (.v 0) (.c 16777216)), (.le (.c (-16777216)) (.v 0))], []⟩,
⟨(.must (.leq (.cons (.v 0) (.cons (.v 1) .nil)) (.lapp 2 (.cons (.v 0) (.cons (.v 1) (.cons (.v 2) (.cons (.c 0) .nil))))))), [(.le (.v 3) (.c 12)), (.le (.c 1) (.v 3)), (.le (.v 2) (.c 1048576)), (.le (.c 1) (.v 2)), (.le (.v 1) (.c 16777216)), (.le (.c (-16777216)) (.v 1)), (.le (.v 0) (.c 16777216)), (.le (.c (-16777216)) (.v 0))], []⟩,
⟨(.must (.leq (.lcat (.lv 9) (.cons (.add (.v 0) (.mul (.v 2) (.ite (.eq (.v 8) (.c 0)) (.c 1) (.ite (.eq (.v 8) (.c 1)) (.c 1) (.ite (.eq (.v 8) (.c 2)) (.c 0) (.ite (.eq (.v 8) (.c 3)) (.c 0) (.ite (.eq (.v 8) (.c 4)) (.c (-1)) (.ite (.eq (.v 8) (.c 5)) (.c 0) (.ite (.eq (.v 8) (.c 6)) (.c (-1)) (.ite (.eq (.v 8) (.c 7)) (.c (-1)) (.ite (.eq (.v 8) (.c 8)) (.c 0) (.ite (.eq (.v 8) (.c 9)) (.c 0) (.ite (.eq (.v 8) (.c 10)) (.c 1) (.c 0)))))))))))))) (.cons (.add (.v 1) (.mul (.v 2) (.ite (.eq (.v 8) (.c 0)) (.c 0) (.ite (.eq (.v 8) (.c 1)) (.c 1) (.ite (.eq (.v 8) (.c 2)) (.c 0) (.ite (.eq (.v 8) (.c 3)) (.c 1) (.ite (.eq (.v 8) (.c 4)) (.c 1) (.ite (.eq (.v 8) (.c 5)) (.c 0) (.ite (.eq (.v 8) (.c 6)) (.c 0) (.ite (.eq (.v 8) (.c 7)) (.c (-1)) (.ite (.eq (.v 8) (.c 8)) (.c 0) (.ite (.eq (.v 8) (.c 9)) (.c (-1)) (.ite (.eq (.v 8) (.c 10)) (.c (-1)) (.c 0)))))))))))))) .nil))) (.lapp 2 (.cons (.v 0) (.cons (.v 1) (.cons (.v 2) (.cons (.add (.v 8) (.c 1)) .nil))))))), [(.lt (.v 8) (.c 12)), (.lt (.v 8) (.v 3)), (.le (.c 0) (.v 8)), (.le (.v 8) (.v 3)), (.leq (.lv 9) (.lapp 2 (.cons (.v 0) (.cons (.v 1) (.cons (.v 2) (.cons (.v 8) .nil)))))), (.le (.v 3) (.c 12)), (.le (.c 1) (.v 3)), (.le (.v 2) (.c 1048576)), (.le (.c 1) (.v 2)), (.le (.v 1) (.c 16777216)), (.le (.c (-16777216)) (.v 1)), (.le (.v 0) (.c 16777216)), (.le (.c (-16777216)) (.v 0))], []⟩,
⟨(.val (.tup (.cons (.var 9) (.cons (.i .i64 (.c 0)) .nil)))), [(.happ 1 (.cons (.add (.v 8) (.c 1)) (.lv 9))), (.allr (-16777216) 16777216 (.lv 9)), (.le (.add (.v 8) (.c 1)) (.c 1024)), (.le (.v 3) (.v 8)), (.le (.c 0) (.v 8)), (.le (.v 8) (.v 3)), (.leq (.lv 9) (.lapp 2 (.cons (.v 0) (.cons (.v 1) (.cons (.v 2) (.cons (.v 8) .nil)))))), (.le (.v 3) (.c 12)), (.le (.c 1) (.v 3)), (.le (.v 2) (.c 1048576)), (.le (.c 1) (.v 2)), (.le (.v 1) (.c 16777216)), (.le (.c (-16777216)) (.v 1)), (.le (.v 0) (.c 16777216)), (.le (.c (-16777216)) (.v 0))], [(9, ⟨true, 23, [(.i .i64), (.i .i64)], (.add (.v 8) (.c 1)), (.lv 9)⟩)]⟩,
⟨(.val (.tup (.cons .nils (.cons (.i .i64 (.c 2)) .nil)))), [(.not (.happ 1 (.cons (.add (.v 8) (.c 1)) (.lv 9)))), (.le (.add (.v 8) (.c 1)) (.c 1024)), (.le (.v 3) (.v 8)), (.le (.c 0) (.v 8)), (.le (.v 8) (.v 3)), (.leq (.lv 9) (.lapp 2 (.cons (.v 0) (.cons (.v 1) (.cons (.v 2) (.cons (.v 8) .nil)))))), (.le (.v 3) (.c 12)), (.le (.c 1) (.v 3)), (.le (.v 2) (.c 1048576)), (.le (.c 1) (.v 2)), (.le (.v 1) (.c 16777216)), (.le (.c (-16777216)) (.v 1)), (.le (.v 0) (.c 16777216)), (.le (.c (-16777216)) (.v 0))], []⟩,
⟨(.val (.tup (.cons .nils (.cons (.i .i64 (.c 2)) .nil)))), [(.lt (.v 3) (.c 1)), (.le (.v 2) (.c 1048576)), (.le (.c 1) (.v 2)), (.le (.v 1) (.c 16777216)), (.le (.c (-16777216)) (.v 1)), (.le (.v 0) (.c 16777216)), (.le (.c (-16777216)) (.v 0))], []⟩,
⟨(.val (.tup (.cons .nils (.cons (.i .i64 (.c 2)) .nil)))), [(.lt (.v 2) (.c 1)), (.le (.v 1) (.c 16777216)), (.le (.c (-16777216)) (.v 1)), (.le (.v 0) (.c 16777216)), (.le (.c (-16777216)) (.v 0))], []⟩,
⟨(.val (.tup (.cons .nils (.cons (.i .i64 (.c 2)) .nil)))), [(.lt (.v 1) (.c (-16777216))), (.le (.v 0) (.c 16777216)), (.le (.c (-16777216)) (.v 0))], []⟩,
⟨(.val (.tup (.cons .nils (.cons (.i .i64 (.c 2)) .nil)))), [(.lt (.c 16777216) (.v 0)), (.le (.c (-16777216)) (.v 0))], []⟩,
⟨(.val (.tup (.cons .nils (.cons (.i .i64 (.c 2)) .nil)))), [(.lt (.v 0) (.c (-16777216)))], []⟩] (by kernel_rfl) ρ w (fun _ h => by cases h) hT rfl (u.tabs w hJ) ⟨?_, ?_, ?_, ?_, ?_, ?_, ?_, ?_, ?_, ?_, ?_, ?_⟩ hJ
  all_goals
    intro ρ' w' hx _ hF hb hrow
    have e0 : ρ'.i 0 = ρ.i 0 := hx.i 0 (by decide)
    have e1 : ρ'.i 1 = ρ.i 1 := hx.i 1 (by decide)
    have e2 : ρ'.i 2 = ρ.i 2 := hx.i 2 (by decide)
    have e3 : ρ'.i 3 = ρ.i 3 := hx.i 3 (by decide)
    have hh' : ρ'.h = Tk.hF := by rw [hx.h]; exact hh
    have hm' : ρ'.m = mF := by rw [hx.m]; exact hm
    clear hx
    simp only [holds, List.mem_cons, List.not_mem_nil, or_false, forall_eq_or_imp, forall_eq, B_le, B_lt, B_eq, B_not, B_leq, I_add, I_mul, I_ite, I_c, I_v, L_lv, L_lcat, L_cons, L_nil, L_lapp, mF_2, scX_f, scY_f, h_1 hh', e0, e1, e2, e3, hm', mF_2, scX_f, scY_f, decide_eq_true_eq, Bool.not_eq_true'] at hF ⊢
    first
    | omega
    | rfl
    | (refine ⟨⟨_, List.mem_cons_self, fun a ha => ?_, rfl⟩, hb⟩
       simp only [List.mem_cons, List.not_mem_nil, or_false] at ha
       subst ha
       simp only [sqOk, andL, B_not, B_and, B_le, I_c, I_v, Bool.not_eq_true', Bool.and_eq_false_iff, decide_eq_false_iff_not]
       omega)
    | (have hP : ρ'.l 9 = scL (ρ.i 0) (ρ.i 1) (ρ.i 2) (ρ'.i 8).toNat := (by (revert hF; simp only [and_imp]; intros; assumption))
       have N := scL_next (ρ.i 0) (ρ.i 1) (ρ.i 2) (i := ρ'.i 8) (by omega) rfl rfl
       rw [← hP] at N
       exact N)
    | (have hP : ρ'.l 9 = scL (ρ.i 0) (ρ.i 1) (ρ.i 2) (ρ'.i 8).toNat := (by (revert hF; simp only [and_imp]; intros; assumption))
       have e8 : ρ'.i 8 = ρ.i 3 := (by omega)
       rw [hP, e8] at hF
       refine ⟨⟨_, List.mem_cons_of_mem _ List.mem_cons_self, fun a ha => ?_, rfl⟩, hb⟩
       simp only [List.mem_cons, List.not_mem_nil, or_false] at ha
       rcases ha with rfl | rfl
       · simp only [sqOk, andL, B_and, B_le, I_c, I_v, Bool.and_eq_true, decide_eq_true_eq]
         omega
       · simp only [sqIn, sqA, B_not, h_1 hh, I_add, I_c, I_v, L_lapp, L_cons, L_nil, hm, mF_2, Bool.not_eq_true']
         exact hF.1)
    | (have hP : ρ'.l 9 = scL (ρ.i 0) (ρ.i 1) (ρ.i 2) (ρ'.i 8).toNat := (by (revert hF; simp only [and_imp]; intros; assumption))
       have e8 : ρ'.i 8 = ρ.i 3 := (by omega)
       obtain ⟨hat, -⟩ := hrow _ List.mem_cons_self
       refine ⟨⟨_, List.mem_cons_of_mem _ (List.mem_cons_of_mem _ List.mem_cons_self), fun a ha => ?_, rfl, _, rfl, ?_, fun b hbb => ?_⟩, hb⟩
       · simp only [List.mem_cons, List.not_mem_nil, or_false] at ha
         rcases ha with rfl | rfl
         · simp only [sqOk, andL, B_and, B_le, I_c, I_v, Bool.and_eq_true, decide_eq_true_eq]
           omega
         · simp only [sqIn, sqA, h_1 hh, I_add, I_c, I_v, L_lapp, L_cons, L_nil, hm, mF_2]
           rw [hP, e8] at hF
           exact hF.1
       · simp only [Row.at, I_add, I_c, I_v, L_lv, hP, e8] at hat
         simp only [Row.at, sqA, I_add, I_c, I_v, L_lapp, L_cons, L_nil, hm, mF_2]
         exact hat
       · simp only [Row.at, if_true] at hat
         have hbb : (ρ'.v 9).ownBlock = some b := hbb
         rcases hat.2.2.2 with h | ⟨g, cap, cur, hv, hg, -⟩
         · rw [h.1] at hbb; cases hbb
         · rw [hv] at hbb; cases hbb; exact hg)
end Go.Proofs.YtkhffloahpdbdaaDoor.Tk
end
section
namespace Go.Proofs.YtkhffloahpdbdaaDoor.Tk
open Go Go.Proofs.YtkhffloahpdbdaaDoor.Sx Go.RowKit
variable {TT : Tb}
def ssSpec : LoopSpec := { key := 8, nt := some 60, locs := [.t 12 (.i .i64), .t 11 .any], rows := fun n => [(1, ⟨true, 23, [.i .i64, .i .i64], .v n, .lv (n+1)⟩)], facts := fun n => [.le (.c 0) (.v n), .le (.v n) (.add (.v 3) (.c 1)), .leq (.lv (n+1)) (sqA 3 (.v n))], meas := fun n => .sub (.add (.v 3) (.c 1)) (.v n) }
def ssG (k : Nat) : Ctx := { loops := [ssSpec, chSpec k] }
def cSs := ctrW (ctrRowC 10 sqK [] (layC 12 2))
theorem mF_3 (a b c d : Int) (s1 s2 s3 s4 : ByteArray) : mF 3 [(a, s1), (b, s2), (c, s3), (d, s4)] = scM a b c d.toNat := rfl
set_option maxHeartbeats 2000000 in
theorem sectorR_ok (u : Fit2 TT) : CtrOk TT Tryd.prog cSs := ctrRowCJ_ok u.st rfl fun ρ w _ hT hR hJ => by
  have hh := (u.tab hT).1.2
  have hm := (u.tab hT).2
  refine pat_callsD dd_ok (Γ := ssG 9) (by simp [ssG]) 400 sqK []
    [⟨(.val (.tup (.cons .nils (.cons (.i .i64 (.c 2)) .nil)))), [(.lt (.c 16777216) (.v 1)), (.le (.c (-16777216)) (.v 1)), (.le (.v 0) (.c 16777216)), (.le (.c (-16777216)) (.v 0))], []⟩,
⟨(.val (.tup (.cons .nils (.cons (.i .i64 (.c 2)) .nil)))), [(.lt (.c 1048576) (.v 2)), (.le (.c 1) (.v 2)), (.le (.v 1) (.c 16777216)), (.le (.c (-16777216)) (.v 1)), (.le (.v 0) (.c 16777216)), (.le (.c (-16777216)) (.v 0))], []⟩,
⟨(.val (.tup (.cons .nils (.cons (.i .i64 (.c 2)) .nil)))), [(.lt (.c 12) (.v 3)), (.le (.c 1) (.v 3)), (.le (.v 2) (.c 1048576)), (.le (.c 1) (.v 2)), (.le (.v 1) (.c 16777216)), (.le (.c (-16777216)) (.v 1)), (.le (.v 0) (.c 16777216)), (.le (.c (-16777216)) (.v 0))], []⟩,
⟨(.must (.leq .nil (.lapp 3 (.cons (.v 0) (.cons (.v 1) (.cons (.v 2) (.cons (.c 0) .nil))))))), [(.le (.v 3) (.c 12)), (.le (.c 1) (.v 3)), (.le (.v 2) (.c 1048576)), (.le (.c 1) (.v 2)), (.le (.v 1) (.c 16777216)), (.le (.c (-16777216)) (.v 1)), (.le (.v 0) (.c 16777216)), (.le (.c (-16777216)) (.v 0))], []⟩,
⟨(.must (.leq (.lcat (.lv 9) (.cons (.add (.v 0) (.mul (.v 2) (.ite (.eq (.v 8) (.c 0)) (.c 0) (.ite (.eq (.v 8) (.c 1)) (.c 1) (.ite (.eq (.v 8) (.c 2)) (.c 1) (.ite (.eq (.v 8) (.c 3)) (.c 0) (.ite (.eq (.v 8) (.c 4)) (.c 0) (.ite (.eq (.v 8) (.c 5)) (.c (-1)) (.ite (.eq (.v 8) (.c 6)) (.c 0) (.ite (.eq (.v 8) (.c 7)) (.c (-1)) (.ite (.eq (.v 8) (.c 8)) (.c (-1)) (.ite (.eq (.v 8) (.c 9)) (.c 0) (.ite (.eq (.v 8) (.c 10)) (.c 0) (.ite (.eq (.v 8) (.c 11)) (.c 1) (.c 0))))))))))))))) (.cons (.add (.v 1) (.mul (.v 2) (.ite (.eq (.v 8) (.c 0)) (.c 0) (.ite (.eq (.v 8) (.c 1)) (.c 0) (.ite (.eq (.v 8) (.c 2)) (.c 1) (.ite (.eq (.v 8) (.c 3)) (.c 0) (.ite (.eq (.v 8) (.c 4)) (.c 1) (.ite (.eq (.v 8) (.c 5)) (.c 1) (.ite (.eq (.v 8) (.c 6)) (.c 0) (.ite (.eq (.v 8) (.c 7)) (.c 0) (.ite (.eq (.v 8) (.c 8)) (.c (-1)) (.ite (.eq (.v 8) (.c 9)) (.c 0) (.ite (.eq (.v 8) (.c 10)) (.c (-1)) (.ite (.eq (.v 8) (.c 11)) (.c (-1)) (.c 0))))))))))))))) .nil))) (.lapp 3 (.cons (.v 0) (.cons (.v 1) (.cons (.v 2) (.cons (.add (.v 8) (.c 1)) .nil))))))), [(.lt (.v 8) (.c 13)), (.le (.v 8) (.v 3)), (.le (.c 0) (.v 8)), (.le (.v 8) (.add (.v 3) (.c 1))), (.leq (.lv 9) (.lapp 3 (.cons (.v 0) (.cons (.v 1) (.cons (.v 2) (.cons (.v 8) .nil)))))), (.le (.v 3) (.c 12)), (.le (.c 1) (.v 3)), (.le (.v 2) (.c 1048576)), (.le (.c 1) (.v 2)), (.le (.v 1) (.c 16777216)), (.le (.c (-16777216)) (.v 1)), (.le (.v 0) (.c 16777216)), (.le (.c (-16777216)) (.v 0))], []⟩,
⟨(.must (.happ 1 (.cons (.c 0) (.lv 9)))), [(.lt (.v 3) (.v 8)), (.le (.c 0) (.v 8)), (.le (.v 8) (.add (.v 3) (.c 1))), (.leq (.lv 9) (.lapp 3 (.cons (.v 0) (.cons (.v 1) (.cons (.v 2) (.cons (.v 8) .nil)))))), (.le (.v 3) (.c 12)), (.le (.c 1) (.v 3)), (.le (.v 2) (.c 1048576)), (.le (.c 1) (.v 2)), (.le (.v 1) (.c 16777216)), (.le (.c (-16777216)) (.v 1)), (.le (.v 0) (.c 16777216)), (.le (.c (-16777216)) (.v 0))], []⟩,
⟨(.val (.tup (.cons .nils (.cons (.i .i64 (.c 2)) .nil)))), [(.lt (.c 16777216) (.nthI (.lv 9) (.add (.mul (.v 37) (.c 2)) (.c 1)))), (.le (.c (-16777216)) (.nthI (.lv 9) (.add (.mul (.v 37) (.c 2)) (.c 1)))), (.le (.nthI (.lv 9) (.mul (.v 37) (.c 2))) (.c 16777216)), (.le (.c (-16777216)) (.nthI (.lv 9) (.mul (.v 37) (.c 2)))), (.lt (.v 37) (.v 8)), (.le (.c 0) (.v 37)), (.le (.v 37) (.add (.v 3) (.c 1))), (.le (.v 37) (.c 1024)), (.happ 1 (.cons (.v 37) (.lv 9))), (.lt (.v 3) (.v 8)), (.le (.c 0) (.v 8)), (.le (.v 8) (.add (.v 3) (.c 1))), (.leq (.lv 9) (.lapp 3 (.cons (.v 0) (.cons (.v 1) (.cons (.v 2) (.cons (.v 8) .nil)))))), (.le (.v 3) (.c 12)), (.le (.c 1) (.v 3)), (.le (.v 2) (.c 1048576)), (.le (.c 1) (.v 2)), (.le (.v 1) (.c 16777216)), (.le (.c (-16777216)) (.v 1)), (.le (.v 0) (.c 16777216)), (.le (.c (-16777216)) (.v 0))], []⟩,
⟨(.must (.happ 1 (.cons (.add (.v 37) (.c 1)) (.lv 9)))), [(.le (.nthI (.lv 9) (.add (.mul (.v 37) (.c 2)) (.c 1))) (.c 16777216)), (.le (.c (-16777216)) (.nthI (.lv 9) (.add (.mul (.v 37) (.c 2)) (.c 1)))), (.le (.nthI (.lv 9) (.mul (.v 37) (.c 2))) (.c 16777216)), (.le (.c (-16777216)) (.nthI (.lv 9) (.mul (.v 37) (.c 2)))), (.lt (.v 37) (.v 8)), (.le (.c 0) (.v 37)), (.le (.v 37) (.add (.v 3) (.c 1))), (.le (.v 37) (.c 1024)), (.happ 1 (.cons (.v 37) (.lv 9))), (.lt (.v 3) (.v 8)), (.le (.c 0) (.v 8)), (.le (.v 8) (.add (.v 3) (.c 1))), (.leq (.lv 9) (.lapp 3 (.cons (.v 0) (.cons (.v 1) (.cons (.v 2) (.cons (.v 8) .nil)))))), (.le (.v 3) (.c 12)), (.le (.c 1) (.v 3)), (.le (.v 2) (.c 1048576)), (.le (.c 1) (.v 2)), (.le (.v 1) (.c 16777216)), (.le (.c (-16777216)) (.v 1)), (.le (.v 0) (.c 16777216)), (.le (.c (-16777216)) (.v 0))], []⟩,
⟨(.val (.tup (.cons .nils (.cons (.i .i64 (.c 2)) .nil)))), [(.lt (.nthI (.lv 9) (.add (.mul (.v 37) (.c 2)) (.c 1))) (.c (-16777216))), (.le (.nthI (.lv 9) (.mul (.v 37) (.c 2))) (.c 16777216)), (.le (.c (-16777216)) (.nthI (.lv 9) (.mul (.v 37) (.c 2)))), (.lt (.v 37) (.v 8)), (.le (.c 0) (.v 37)), (.le (.v 37) (.add (.v 3) (.c 1))), (.le (.v 37) (.c 1024)), (.happ 1 (.cons (.v 37) (.lv 9))), (.lt (.v 3) (.v 8)), (.le (.c 0) (.v 8)), (.le (.v 8) (.add (.v 3) (.c 1))), (.leq (.lv 9) (.lapp 3 (.cons (.v 0) (.cons (.v 1) (.cons (.v 2) (.cons (.v 8) .nil)))))), (.le (.v 3) (.c 12)), (.le (.c 1) (.v 3)), (.le (.v 2) (.c 1048576)), (.le (.c 1) (.v 2)), (.le (.v 1) (.c 16777216)), (.le (.c (-16777216)) (.v 1)), (.le (.v 0) (.c 16777216)), (.le (.c (-16777216)) (.v 0))], []⟩,
⟨(.val (.tup (.cons .nils (.cons (.i .i64 (.c 2)) .nil)))), [(.lt (.c 16777216) (.nthI (.lv 9) (.mul (.v 37) (.c 2)))), (.le (.c (-16777216)) (.nthI (.lv 9) (.mul (.v 37) (.c 2)))), (.lt (.v 37) (.v 8)), (.le (.c 0) (.v 37)), (.le (.v 37) (.add (.v 3) (.c 1))), (.le (.v 37) (.c 1024)), (.happ 1 (.cons (.v 37) (.lv 9))), (.lt (.v 3) (.v 8)), (.le (.c 0) (.v 8)), (.le (.v 8) (.add (.v 3) (.c 1))), (.leq (.lv 9) (.lapp 3 (.cons (.v 0) (.cons (.v 1) (.cons (.v 2) (.cons (.v 8) .nil)))))), (.le (.v 3) (.c 12)), (.le (.c 1) (.v 3)), (.le (.v 2) (.c 1048576)), (.le (.c 1) (.v 2)), (.le (.v 1) (.c 16777216)), (.le (.c (-16777216)) (.v 1)), (.le (.v 0) (.c 16777216)), (.le (.c (-16777216)) (.v 0))], []⟩,
⟨(.val (.tup (.cons .nils (.cons (.i .i64 (.c 2)) .nil)))), [(.lt (.nthI (.lv 9) (.mul (.v 37) (.c 2))) (.c (-16777216))), (.lt (.v 37) (.v 8)), (.le (.c 0) (.v 37)), (.le (.v 37) (.add (.v 3) (.c 1))), (.le (.v 37) (.c 1024)), (.happ 1 (.cons (.v 37) (.lv 9))), (.lt (.v 3) (.v 8)), (.le (.c 0) (.v 8)), (.le (.v 8) (.add (.v 3) (.c 1))), (.leq (.lv 9) (.lapp 3 (.cons (.v 0) (.cons (.v 1) (.cons (.v 2) (.cons (.v 8) .nil)))))), (.le (.v 3) (.c 12)), (.le (.c 1) (.v 3)), (.le (.v 2) (.c 1048576)), (.le (.c 1) (.v 2)), (.le (.v 1) (.c 16777216)), (.le (.c (-16777216)) (.v 1)), (.le (.v 0) (.c 16777216)), (.le (.c (-16777216)) (.v 0))], []⟩,
⟨(.val (.tup (.cons (.var 9) (.cons (.i .i64 (.c 0)) .nil)))), [(.le (.v 8) (.v 37)), (.le (.c 0) (.v 37)), (.le (.v 37) (.add (.v 3) (.c 1))), (.le (.v 37) (.c 1024)), (.happ 1 (.cons (.v 37) (.lv 9))), (.lt (.v 3) (.v 8)), (.le (.c 0) (.v 8)), (.le (.v 8) (.add (.v 3) (.c 1))), (.leq (.lv 9) (.lapp 3 (.cons (.v 0) (.cons (.v 1) (.cons (.v 2) (.cons (.v 8) .nil)))))), (.le (.v 3) (.c 12)), (.le (.c 1) (.v 3)), (.le (.v 2) (.c 1048576)), (.le (.c 1) (.v 2)), (.le (.v 1) (.c 16777216)), (.le (.c (-16777216)) (.v 1)), (.le (.v 0) (.c 16777216)), (.le (.c (-16777216)) (.v 0))], [(9, ⟨true, 23, [(.i .i64), (.i .i64)], (.v 8), (.lv 9)⟩)]⟩,
⟨(.val (.tup (.cons .nils (.cons (.i .i64 (.c 2)) .nil)))), [(.lt (.v 3) (.c 1)), (.le (.v 2) (.c 1048576)), (.le (.c 1) (.v 2)), (.le (.v 1) (.c 16777216)), (.le (.c (-16777216)) (.v 1)), (.le (.v 0) (.c 16777216)), (.le (.c (-16777216)) (.v 0))], []⟩,
⟨(.val (.tup (.cons .nils (.cons (.i .i64 (.c 2)) .nil)))), [(.lt (.v 2) (.c 1)), (.le (.v 1) (.c 16777216)), (.le (.c (-16777216)) (.v 1)), (.le (.v 0) (.c 16777216)), (.le (.c (-16777216)) (.v 0))], []⟩,
⟨(.val (.tup (.cons .nils (.cons (.i .i64 (.c 2)) .nil)))), [(.lt (.v 1) (.c (-16777216))), (.le (.v 0) (.c 16777216)), (.le (.c (-16777216)) (.v 0))], []⟩,
⟨(.val (.tup (.cons .nils (.cons (.i .i64 (.c 2)) .nil)))), [(.lt (.c 16777216) (.v 0)), (.le (.c (-16777216)) (.v 0))], []⟩,
⟨(.val (.tup (.cons .nils (.cons (.i .i64 (.c 2)) .nil)))), [(.lt (.v 0) (.c (-16777216)))], []⟩] (by kernel_rfl) ρ w (fun _ h => by cases h) hT hR ⟨?_, ?_, ?_, ?_, ?_, ?_, ?_, ?_, ?_, ?_, ?_, ?_, ?_, ?_, ?_, ?_, ?_⟩ hJ
  all_goals
    intro ρ' w' hx _ hF hb hrow
    have e0 : ρ'.i 0 = ρ.i 0 := hx.i 0 (by decide)
    have e1 : ρ'.i 1 = ρ.i 1 := hx.i 1 (by decide)
    have e2 : ρ'.i 2 = ρ.i 2 := hx.i 2 (by decide)
    have e3 : ρ'.i 3 = ρ.i 3 := hx.i 3 (by decide)
    have hh' : ρ'.h = Tk.hF := by rw [hx.h]; exact hh
    have hm' : ρ'.m = mF := by rw [hx.m]; exact hm
    clear hx
    simp only [holds, List.mem_cons, List.not_mem_nil, or_false, forall_eq_or_imp, forall_eq, B_le, B_lt, B_eq, B_leq, I_add, I_mul, I_ite, I_c, I_v, I_nthI, L_lv, L_lcat, L_cons, L_nil, L_lapp, mF_3, rcX_f, rcY_f, h_1 hh', e0, e1, e2, e3, hm', mF_3, rcX_f, rcY_f, nI_eq, sX_f, sY_f, decide_eq_true_eq] at hF ⊢
    first
    | omega
    | rfl
    | exact spots_0 _
    | (refine ⟨⟨_, List.mem_cons_self, fun a ha => ?_, rfl⟩, hb⟩
       simp only [List.mem_cons, List.not_mem_nil, or_false] at ha
       subst ha
       simp only [sqOk, andL, B_not, B_and, B_le, I_c, I_v, Bool.not_eq_true', Bool.and_eq_false_iff, decide_eq_false_iff_not]
       omega)
    | (have hP : ρ'.l 9 = scM (ρ.i 0) (ρ.i 1) (ρ.i 2) (ρ'.i 8).toNat := (by (revert hF; simp only [and_imp]; intros; assumption))
       have N := scM_next (ρ.i 0) (ρ.i 1) (ρ.i 2) (i := ρ'.i 8) (by omega) rfl rfl
       rw [← hP] at N
       exact N)
    | (have hA : allTo (ρ'.i 37) (spB (ρ'.l 9)) = true := (by (revert hF; simp only [and_imp]; intros; assumption))
       exact spots_up hA (by omega) (by omega))
    | (have hP : ρ'.l 9 = scM (ρ.i 0) (ρ.i 1) (ρ.i 2) (ρ'.i 8).toNat := (by (revert hF; simp only [and_imp]; intros; assumption))
       have e8 : ρ'.i 8 = ρ.i 3 + 1 := (by omega)
       rw [e8, show (ρ.i 3 + 1).toNat = (ρ.i 3).toNat + 1 by omega, scM_is _ _ _ _ (by omega)] at hP
       first
       | (have hX : allTo (ρ.i 3 + 1) (spB (ρ'.l 9)) = false := spots_out (k := ρ'.i 37) (by omega) (by omega) (by omega)
          rw [hP] at hX
          refine ⟨⟨_, List.mem_cons_of_mem _ List.mem_cons_self, fun a ha => ?_, rfl⟩, hb⟩
          simp only [List.mem_cons, List.not_mem_nil, or_false] at ha
          rcases ha with rfl | rfl
          · simp only [sqOk, andL, B_and, B_le, I_c, I_v, Bool.and_eq_true, decide_eq_true_eq]
            omega
          · simp only [sqIn, sqA, B_not, h_1 hh, I_add, I_c, I_v, L_lapp, L_cons, L_nil, hm, mF_2, Bool.not_eq_true']
            exact hX)
       | (obtain ⟨hat, -⟩ := hrow _ List.mem_cons_self
          refine ⟨⟨_, List.mem_cons_of_mem _ (List.mem_cons_of_mem _ List.mem_cons_self), fun a ha => ?_, rfl, _, rfl, ?_, fun b hbb => ?_⟩, hb⟩
          · simp only [List.mem_cons, List.not_mem_nil, or_false] at ha
            rcases ha with rfl | rfl
            · simp only [sqOk, andL, B_and, B_le, I_c, I_v, Bool.and_eq_true, decide_eq_true_eq]
              omega
            · simp only [sqIn, sqA, h_1 hh, I_add, I_c, I_v, L_lapp, L_cons, L_nil, hm, mF_2]
              have hA : allTo (ρ'.i 37) (spB (ρ'.l 9)) = true := (by (revert hF; simp only [and_imp]; intros; assumption))
              rw [show ρ'.i 37 = ρ.i 3 + 1 by omega, hP] at hA
              exact hA
          · simp only [Row.at, I_v, L_lv, hP, e8] at hat
            simp only [Row.at, sqA, I_add, I_c, I_v, L_lapp, L_cons, L_nil, hm, mF_2]
            exact hat
          · simp only [Row.at, if_true] at hat
            have hbb : (ρ'.v 9).ownBlock = some b := hbb
            rcases hat.2.2.2 with h | ⟨g, cap, cur, hv, hg, -⟩
            · rw [h.1] at hbb; cases hbb
            · rw [hv] at hbb; cases hbb; exact hg))
end Go.Proofs.YtkhffloahpdbdaaDoor.Tk
end
section
namespace Go.Proofs.YtkhffloahpdbdaaDoor.Tk
open Go Go.Proofs.YtkhffloahpdbdaaDoor.Sx Go.RowKit
variable {TT : Tb}
def paK : List AK := [spotK, spotK, .one K, .one K]
def paQ : E := .eq (.v 5) (.c 1)
def paN : E := .quo (.sub (.add (.sub (.ite paQ (.v 2) (.v 3)) (.ite paQ (.v 0) (.v 1))) (.v 4)) (.c 1)) (.v 4)
def paI (k fr to' l : E) : E := .happ 6 (.cons (.v 5) (.cons k (.cons fr (.cons to' (.cons (.v 0) (.cons (.v 1) (.cons (.v 2) (.cons (.v 3) (.cons (.v 4) l)))))))))
def paA : E := .lapp 4 (.cons (.v 0) (.cons (.v 1) (.cons (.v 2) (.cons (.v 3) (.cons (.v 4) (.cons (.v 5) .nil))))))
def paOk : E := andL [.le (.c (-16777216)) (.v 0), .le (.v 0) (.c 16777216), .le (.c (-16777216)) (.v 1), .le (.v 1) (.c 16777216), .le (.c (-16777216)) (.v 2), .le (.v 2) (.c 16777216), .le (.c (-16777216)) (.v 3), .le (.v 3) (.c 16777216), .lt (.v 0) (.v 2), .lt (.v 1) (.v 3), .le (.c 1) (.v 4), .le (.v 4) (.c 1048576), .le (.c 0) (.v 5), .le (.v 5) (.c 1)]
def paC : List RC := [⟨none, .i .i64 (.c 2), [.not paOk]⟩, ⟨none, .i .i64 (.c 3), [paOk, .lt (.c 512) paN]⟩, ⟨some ⟨true, 23, [.i .i64, .i .i64], .mul paN (.c 2), paA⟩, .i .i64 (.c 0), [paOk, .le paN (.c 512)]⟩]
def paSpec : LoopSpec := { key := 13, locs := [.t 72 (.i .i64), .t 13 (.i .i64), .t 14 (.i .i64), .t 12 .any], rows := fun n => [(3, ⟨true, 23, [.i .i64, .i .i64], .v (n+3), .lv (n+3)⟩)], facts := fun n => [.le (.c 0) (.v n), .le (.v n) paN, .le (.v n) (.c 512), .le paN (.c 512), .le (.c (-16777216)) (.v (n+1)), .le (.v (n+1)) (.c 16777216), .le (.c (-16777216)) (.v (n+2)), .le (.v (n+2)) (.c 16777216), .eq (.v (n+3)) (.mul (.v n) (.c 2)), .le (.v (n+3)) (.c 1024), paI (.v n) (.v (n+1)) (.v (n+2)) (.lv (n+3))], meas := fun n => .sub (.c 512) (.v n) }
def paG : Ctx := { loops := [paSpec] }
def cPa := ctrW (ctrRowC 5 paK [] paC)
theorem mF_4 (a b c d e f : Int) (s1 s2 s3 s4 s5 s6 : ByteArray) : mF 4 [(a, s1), (b, s2), (c, s3), (d, s4), (e, s5), (f, s6)] = parA a b c d e f := rfl
theorem S_num {ρ : Env} (c x y : E) (n : Nat) : E.S ρ (.ite c (.v n) (.add x y)) = ⟨#[]⟩ := by
  simp only [E.S, E.den]
  split <;> rfl
theorem S_v {ρ : Env} (n : Nat) : E.S ρ (.v n) = ⟨#[]⟩ := rfl
set_option maxHeartbeats 4000000 in
theorem parallel_ok (u : Fit2 TT) : CtrOk TT Tryd.prog cPa := ctrRowCJ_ok u.st rfl fun ρ w _ hT hR hJ => by
  have hh := (u.tab hT).1.2
  have hm := (u.tab hT).2
  refine pat_callsD dd_ok (Γ := paG) (by simp [paG]) 400 paK []
    [⟨(.val (.tup (.cons .nils (.cons (.i .i64 (.c 2)) .nil)))), [(.lt (.c 16777216) (.v 1)), (.le (.c (-16777216)) (.v 1)), (.le (.v 0) (.c 16777216)), (.le (.c (-16777216)) (.v 0))], []⟩,
⟨(.val (.tup (.cons .nils (.cons (.i .i64 (.c 2)) .nil)))), [(.lt (.c 16777216) (.v 3)), (.le (.c (-16777216)) (.v 3)), (.le (.v 2) (.c 16777216)), (.le (.c (-16777216)) (.v 2)), (.le (.v 1) (.c 16777216)), (.le (.c (-16777216)) (.v 1)), (.le (.v 0) (.c 16777216)), (.le (.c (-16777216)) (.v 0))], []⟩,
⟨(.val (.tup (.cons .nils (.cons (.i .i64 (.c 2)) .nil)))), [(.le (.v 2) (.v 0)), (.le (.v 3) (.c 16777216)), (.le (.c (-16777216)) (.v 3)), (.le (.v 2) (.c 16777216)), (.le (.c (-16777216)) (.v 2)), (.le (.v 1) (.c 16777216)), (.le (.c (-16777216)) (.v 1)), (.le (.v 0) (.c 16777216)), (.le (.c (-16777216)) (.v 0))], []⟩,
⟨(.val (.tup (.cons .nils (.cons (.i .i64 (.c 2)) .nil)))), [(.le (.v 3) (.v 1)), (.lt (.v 0) (.v 2)), (.le (.v 3) (.c 16777216)), (.le (.c (-16777216)) (.v 3)), (.le (.v 2) (.c 16777216)), (.le (.c (-16777216)) (.v 2)), (.le (.v 1) (.c 16777216)), (.le (.c (-16777216)) (.v 1)), (.le (.v 0) (.c 16777216)), (.le (.c (-16777216)) (.v 0))], []⟩,
⟨(.val (.tup (.cons .nils (.cons (.i .i64 (.c 2)) .nil)))), [(.lt (.c 1048576) (.v 4)), (.le (.c 1) (.v 4)), (.lt (.v 1) (.v 3)), (.lt (.v 0) (.v 2)), (.le (.v 3) (.c 16777216)), (.le (.c (-16777216)) (.v 3)), (.le (.v 2) (.c 16777216)), (.le (.c (-16777216)) (.v 2)), (.le (.v 1) (.c 16777216)), (.le (.c (-16777216)) (.v 1)), (.le (.v 0) (.c 16777216)), (.le (.c (-16777216)) (.v 0))], []⟩,
⟨(.val (.tup (.cons .nils (.cons (.i .i64 (.c 2)) .nil)))), [(.lt (.c 1) (.v 5)), (.le (.c 0) (.v 5)), (.le (.v 4) (.c 1048576)), (.le (.c 1) (.v 4)), (.lt (.v 1) (.v 3)), (.lt (.v 0) (.v 2)), (.le (.v 3) (.c 16777216)), (.le (.c (-16777216)) (.v 3)), (.le (.v 2) (.c 16777216)), (.le (.c (-16777216)) (.v 2)), (.le (.v 1) (.c 16777216)), (.le (.c (-16777216)) (.v 1)), (.le (.v 0) (.c 16777216)), (.le (.c (-16777216)) (.v 0))], []⟩,
⟨(.val (.tup (.cons .nils (.cons (.i .i64 (.c 3)) .nil)))), [(.lt (.c 1024) (.mul (.c 2) (.quo (.sub (.add (.sub (.v 2) (.v 0)) (.v 4)) (.c 1)) (.v 4)))), (.eq (.v 5) (.c 1)), (.le (.v 5) (.c 1)), (.le (.c 0) (.v 5)), (.le (.v 4) (.c 1048576)), (.le (.c 1) (.v 4)), (.lt (.v 1) (.v 3)), (.lt (.v 0) (.v 2)), (.le (.v 3) (.c 16777216)), (.le (.c (-16777216)) (.v 3)), (.le (.v 2) (.c 16777216)), (.le (.c (-16777216)) (.v 2)), (.le (.v 1) (.c 16777216)), (.le (.c (-16777216)) (.v 1)), (.le (.v 0) (.c 16777216)), (.le (.c (-16777216)) (.v 0))], []⟩,
⟨(.must (.le (.c 0) (.quo (.sub (.add (.sub (.ite (.eq (.v 5) (.c 1)) (.v 2) (.v 3)) (.ite (.eq (.v 5) (.c 1)) (.v 0) (.v 1))) (.v 4)) (.c 1)) (.v 4)))), [(.le (.mul (.c 2) (.quo (.sub (.add (.sub (.v 2) (.v 0)) (.v 4)) (.c 1)) (.v 4))) (.c 1024)), (.eq (.v 5) (.c 1)), (.le (.v 5) (.c 1)), (.le (.c 0) (.v 5)), (.le (.v 4) (.c 1048576)), (.le (.c 1) (.v 4)), (.lt (.v 1) (.v 3)), (.lt (.v 0) (.v 2)), (.le (.v 3) (.c 16777216)), (.le (.c (-16777216)) (.v 3)), (.le (.v 2) (.c 16777216)), (.le (.c (-16777216)) (.v 2)), (.le (.v 1) (.c 16777216)), (.le (.c (-16777216)) (.v 1)), (.le (.v 0) (.c 16777216)), (.le (.c (-16777216)) (.v 0))], []⟩,
⟨(.must (.le (.quo (.sub (.add (.sub (.ite (.eq (.v 5) (.c 1)) (.v 2) (.v 3)) (.ite (.eq (.v 5) (.c 1)) (.v 0) (.v 1))) (.v 4)) (.c 1)) (.v 4)) (.c 512))), [(.le (.mul (.c 2) (.quo (.sub (.add (.sub (.v 2) (.v 0)) (.v 4)) (.c 1)) (.v 4))) (.c 1024)), (.eq (.v 5) (.c 1)), (.le (.v 5) (.c 1)), (.le (.c 0) (.v 5)), (.le (.v 4) (.c 1048576)), (.le (.c 1) (.v 4)), (.lt (.v 1) (.v 3)), (.lt (.v 0) (.v 2)), (.le (.v 3) (.c 16777216)), (.le (.c (-16777216)) (.v 3)), (.le (.v 2) (.c 16777216)), (.le (.c (-16777216)) (.v 2)), (.le (.v 1) (.c 16777216)), (.le (.c (-16777216)) (.v 1)), (.le (.v 0) (.c 16777216)), (.le (.c (-16777216)) (.v 0))], []⟩,
⟨(.must (.happ 6 (.cons (.v 5) (.cons (.c 0) (.cons (.v 1) (.cons (.v 3) (.cons (.v 0) (.cons (.v 1) (.cons (.v 2) (.cons (.v 3) (.cons (.v 4) .nil))))))))))), [(.le (.mul (.c 2) (.quo (.sub (.add (.sub (.v 2) (.v 0)) (.v 4)) (.c 1)) (.v 4))) (.c 1024)), (.eq (.v 5) (.c 1)), (.le (.v 5) (.c 1)), (.le (.c 0) (.v 5)), (.le (.v 4) (.c 1048576)), (.le (.c 1) (.v 4)), (.lt (.v 1) (.v 3)), (.lt (.v 0) (.v 2)), (.le (.v 3) (.c 16777216)), (.le (.c (-16777216)) (.v 3)), (.le (.v 2) (.c 16777216)), (.le (.c (-16777216)) (.v 2)), (.le (.v 1) (.c 16777216)), (.le (.c (-16777216)) (.v 1)), (.le (.v 0) (.c 16777216)), (.le (.c (-16777216)) (.v 0))], []⟩,
⟨(.must (.le (.mul (.add (.v 17) (.c 2)) (.c 16)) (.c 140737488355328))), [(.lt (.v 14) (.quo (.sub (.add (.sub (.v 2) (.v 0)) (.v 4)) (.c 1)) (.v 4))), (.le (.c 0) (.v 14)), (.le (.v 14) (.quo (.sub (.add (.sub (.ite (.eq (.v 5) (.c 1)) (.v 2) (.v 3)) (.ite (.eq (.v 5) (.c 1)) (.v 0) (.v 1))) (.v 4)) (.c 1)) (.v 4))), (.le (.v 14) (.c 512)), (.le (.quo (.sub (.add (.sub (.ite (.eq (.v 5) (.c 1)) (.v 2) (.v 3)) (.ite (.eq (.v 5) (.c 1)) (.v 0) (.v 1))) (.v 4)) (.c 1)) (.v 4)) (.c 512)), (.le (.c (-16777216)) (.v 15)), (.le (.v 15) (.c 16777216)), (.le (.c (-16777216)) (.v 16)), (.le (.v 16) (.c 16777216)), (.eq (.v 17) (.mul (.v 14) (.c 2))), (.le (.v 17) (.c 1024)), (.happ 6 (.cons (.v 5) (.cons (.v 14) (.cons (.v 15) (.cons (.v 16) (.cons (.v 0) (.cons (.v 1) (.cons (.v 2) (.cons (.v 3) (.cons (.v 4) (.lv 17))))))))))), (.le (.mul (.c 2) (.quo (.sub (.add (.sub (.v 2) (.v 0)) (.v 4)) (.c 1)) (.v 4))) (.c 1024)), (.eq (.v 5) (.c 1)), (.le (.v 5) (.c 1)), (.le (.c 0) (.v 5)), (.le (.v 4) (.c 1048576)), (.le (.c 1) (.v 4)), (.lt (.v 1) (.v 3)), (.lt (.v 0) (.v 2)), (.le (.v 3) (.c 16777216)), (.le (.c (-16777216)) (.v 3)), (.le (.v 2) (.c 16777216)), (.le (.c (-16777216)) (.v 2)), (.le (.v 1) (.c 16777216)), (.le (.c (-16777216)) (.v 1)), (.le (.v 0) (.c 16777216)), (.le (.c (-16777216)) (.v 0))], []⟩,
⟨(.must (.le (.add (.v 14) (.c 1)) (.quo (.sub (.add (.sub (.ite (.eq (.v 5) (.c 1)) (.v 2) (.v 3)) (.ite (.eq (.v 5) (.c 1)) (.v 0) (.v 1))) (.v 4)) (.c 1)) (.v 4)))), [(.lt (.v 14) (.quo (.sub (.add (.sub (.v 2) (.v 0)) (.v 4)) (.c 1)) (.v 4))), (.le (.c 0) (.v 14)), (.le (.v 14) (.quo (.sub (.add (.sub (.ite (.eq (.v 5) (.c 1)) (.v 2) (.v 3)) (.ite (.eq (.v 5) (.c 1)) (.v 0) (.v 1))) (.v 4)) (.c 1)) (.v 4))), (.le (.v 14) (.c 512)), (.le (.quo (.sub (.add (.sub (.ite (.eq (.v 5) (.c 1)) (.v 2) (.v 3)) (.ite (.eq (.v 5) (.c 1)) (.v 0) (.v 1))) (.v 4)) (.c 1)) (.v 4)) (.c 512)), (.le (.c (-16777216)) (.v 15)), (.le (.v 15) (.c 16777216)), (.le (.c (-16777216)) (.v 16)), (.le (.v 16) (.c 16777216)), (.eq (.v 17) (.mul (.v 14) (.c 2))), (.le (.v 17) (.c 1024)), (.happ 6 (.cons (.v 5) (.cons (.v 14) (.cons (.v 15) (.cons (.v 16) (.cons (.v 0) (.cons (.v 1) (.cons (.v 2) (.cons (.v 3) (.cons (.v 4) (.lv 17))))))))))), (.le (.mul (.c 2) (.quo (.sub (.add (.sub (.v 2) (.v 0)) (.v 4)) (.c 1)) (.v 4))) (.c 1024)), (.eq (.v 5) (.c 1)), (.le (.v 5) (.c 1)), (.le (.c 0) (.v 5)), (.le (.v 4) (.c 1048576)), (.le (.c 1) (.v 4)), (.lt (.v 1) (.v 3)), (.lt (.v 0) (.v 2)), (.le (.v 3) (.c 16777216)), (.le (.c (-16777216)) (.v 3)), (.le (.v 2) (.c 16777216)), (.le (.c (-16777216)) (.v 2)), (.le (.v 1) (.c 16777216)), (.le (.c (-16777216)) (.v 1)), (.le (.v 0) (.c 16777216)), (.le (.c (-16777216)) (.v 0))], []⟩,
⟨(.must (.le (.add (.v 14) (.c 1)) (.c 512))), [(.lt (.v 14) (.quo (.sub (.add (.sub (.v 2) (.v 0)) (.v 4)) (.c 1)) (.v 4))), (.le (.c 0) (.v 14)), (.le (.v 14) (.quo (.sub (.add (.sub (.ite (.eq (.v 5) (.c 1)) (.v 2) (.v 3)) (.ite (.eq (.v 5) (.c 1)) (.v 0) (.v 1))) (.v 4)) (.c 1)) (.v 4))), (.le (.v 14) (.c 512)), (.le (.quo (.sub (.add (.sub (.ite (.eq (.v 5) (.c 1)) (.v 2) (.v 3)) (.ite (.eq (.v 5) (.c 1)) (.v 0) (.v 1))) (.v 4)) (.c 1)) (.v 4)) (.c 512)), (.le (.c (-16777216)) (.v 15)), (.le (.v 15) (.c 16777216)), (.le (.c (-16777216)) (.v 16)), (.le (.v 16) (.c 16777216)), (.eq (.v 17) (.mul (.v 14) (.c 2))), (.le (.v 17) (.c 1024)), (.happ 6 (.cons (.v 5) (.cons (.v 14) (.cons (.v 15) (.cons (.v 16) (.cons (.v 0) (.cons (.v 1) (.cons (.v 2) (.cons (.v 3) (.cons (.v 4) (.lv 17))))))))))), (.le (.mul (.c 2) (.quo (.sub (.add (.sub (.v 2) (.v 0)) (.v 4)) (.c 1)) (.v 4))) (.c 1024)), (.eq (.v 5) (.c 1)), (.le (.v 5) (.c 1)), (.le (.c 0) (.v 5)), (.le (.v 4) (.c 1048576)), (.le (.c 1) (.v 4)), (.lt (.v 1) (.v 3)), (.lt (.v 0) (.v 2)), (.le (.v 3) (.c 16777216)), (.le (.c (-16777216)) (.v 3)), (.le (.v 2) (.c 16777216)), (.le (.c (-16777216)) (.v 2)), (.le (.v 1) (.c 16777216)), (.le (.c (-16777216)) (.v 1)), (.le (.v 0) (.c 16777216)), (.le (.c (-16777216)) (.v 0))], []⟩,
⟨(.must (.le (.add (.v 17) (.c 2)) (.c 1024))), [(.lt (.v 14) (.quo (.sub (.add (.sub (.v 2) (.v 0)) (.v 4)) (.c 1)) (.v 4))), (.le (.c 0) (.v 14)), (.le (.v 14) (.quo (.sub (.add (.sub (.ite (.eq (.v 5) (.c 1)) (.v 2) (.v 3)) (.ite (.eq (.v 5) (.c 1)) (.v 0) (.v 1))) (.v 4)) (.c 1)) (.v 4))), (.le (.v 14) (.c 512)), (.le (.quo (.sub (.add (.sub (.ite (.eq (.v 5) (.c 1)) (.v 2) (.v 3)) (.ite (.eq (.v 5) (.c 1)) (.v 0) (.v 1))) (.v 4)) (.c 1)) (.v 4)) (.c 512)), (.le (.c (-16777216)) (.v 15)), (.le (.v 15) (.c 16777216)), (.le (.c (-16777216)) (.v 16)), (.le (.v 16) (.c 16777216)), (.eq (.v 17) (.mul (.v 14) (.c 2))), (.le (.v 17) (.c 1024)), (.happ 6 (.cons (.v 5) (.cons (.v 14) (.cons (.v 15) (.cons (.v 16) (.cons (.v 0) (.cons (.v 1) (.cons (.v 2) (.cons (.v 3) (.cons (.v 4) (.lv 17))))))))))), (.le (.mul (.c 2) (.quo (.sub (.add (.sub (.v 2) (.v 0)) (.v 4)) (.c 1)) (.v 4))) (.c 1024)), (.eq (.v 5) (.c 1)), (.le (.v 5) (.c 1)), (.le (.c 0) (.v 5)), (.le (.v 4) (.c 1048576)), (.le (.c 1) (.v 4)), (.lt (.v 1) (.v 3)), (.lt (.v 0) (.v 2)), (.le (.v 3) (.c 16777216)), (.le (.c (-16777216)) (.v 3)), (.le (.v 2) (.c 16777216)), (.le (.c (-16777216)) (.v 2)), (.le (.v 1) (.c 16777216)), (.le (.c (-16777216)) (.v 1)), (.le (.v 0) (.c 16777216)), (.le (.c (-16777216)) (.v 0))], []⟩,
⟨(.must (.happ 6 (.cons (.v 5) (.cons (.add (.v 14) (.c 1)) (.cons (.v 16) (.cons (.v 15) (.cons (.v 0) (.cons (.v 1) (.cons (.v 2) (.cons (.v 3) (.cons (.v 4) (.lcat (.lv 17) (.cons (.ite (.lt (.v 2) (.add (.add (.v 0) (.quo (.v 4) (.c 2))) (.mul (.v 14) (.v 4)))) (.v 2) (.add (.add (.v 0) (.quo (.v 4) (.c 2))) (.mul (.v 14) (.v 4)))) (.cons (.v 15) (.cons (.ite (.lt (.v 2) (.add (.add (.v 0) (.quo (.v 4) (.c 2))) (.mul (.v 14) (.v 4)))) (.v 2) (.add (.add (.v 0) (.quo (.v 4) (.c 2))) (.mul (.v 14) (.v 4)))) (.cons (.v 16) .nil)))))))))))))))), [(.lt (.v 14) (.quo (.sub (.add (.sub (.v 2) (.v 0)) (.v 4)) (.c 1)) (.v 4))), (.le (.c 0) (.v 14)), (.le (.v 14) (.quo (.sub (.add (.sub (.ite (.eq (.v 5) (.c 1)) (.v 2) (.v 3)) (.ite (.eq (.v 5) (.c 1)) (.v 0) (.v 1))) (.v 4)) (.c 1)) (.v 4))), (.le (.v 14) (.c 512)), (.le (.quo (.sub (.add (.sub (.ite (.eq (.v 5) (.c 1)) (.v 2) (.v 3)) (.ite (.eq (.v 5) (.c 1)) (.v 0) (.v 1))) (.v 4)) (.c 1)) (.v 4)) (.c 512)), (.le (.c (-16777216)) (.v 15)), (.le (.v 15) (.c 16777216)), (.le (.c (-16777216)) (.v 16)), (.le (.v 16) (.c 16777216)), (.eq (.v 17) (.mul (.v 14) (.c 2))), (.le (.v 17) (.c 1024)), (.happ 6 (.cons (.v 5) (.cons (.v 14) (.cons (.v 15) (.cons (.v 16) (.cons (.v 0) (.cons (.v 1) (.cons (.v 2) (.cons (.v 3) (.cons (.v 4) (.lv 17))))))))))), (.le (.mul (.c 2) (.quo (.sub (.add (.sub (.v 2) (.v 0)) (.v 4)) (.c 1)) (.v 4))) (.c 1024)), (.eq (.v 5) (.c 1)), (.le (.v 5) (.c 1)), (.le (.c 0) (.v 5)), (.le (.v 4) (.c 1048576)), (.le (.c 1) (.v 4)), (.lt (.v 1) (.v 3)), (.lt (.v 0) (.v 2)), (.le (.v 3) (.c 16777216)), (.le (.c (-16777216)) (.v 3)), (.le (.v 2) (.c 16777216)), (.le (.c (-16777216)) (.v 2)), (.le (.v 1) (.c 16777216)), (.le (.c (-16777216)) (.v 1)), (.le (.v 0) (.c 16777216)), (.le (.c (-16777216)) (.v 0))], []⟩,
⟨(.must (.le (.c 0) (.sub (.c 512) (.add (.v 14) (.c 1))))), [(.lt (.v 14) (.quo (.sub (.add (.sub (.v 2) (.v 0)) (.v 4)) (.c 1)) (.v 4))), (.le (.c 0) (.v 14)), (.le (.v 14) (.quo (.sub (.add (.sub (.ite (.eq (.v 5) (.c 1)) (.v 2) (.v 3)) (.ite (.eq (.v 5) (.c 1)) (.v 0) (.v 1))) (.v 4)) (.c 1)) (.v 4))), (.le (.v 14) (.c 512)), (.le (.quo (.sub (.add (.sub (.ite (.eq (.v 5) (.c 1)) (.v 2) (.v 3)) (.ite (.eq (.v 5) (.c 1)) (.v 0) (.v 1))) (.v 4)) (.c 1)) (.v 4)) (.c 512)), (.le (.c (-16777216)) (.v 15)), (.le (.v 15) (.c 16777216)), (.le (.c (-16777216)) (.v 16)), (.le (.v 16) (.c 16777216)), (.eq (.v 17) (.mul (.v 14) (.c 2))), (.le (.v 17) (.c 1024)), (.happ 6 (.cons (.v 5) (.cons (.v 14) (.cons (.v 15) (.cons (.v 16) (.cons (.v 0) (.cons (.v 1) (.cons (.v 2) (.cons (.v 3) (.cons (.v 4) (.lv 17))))))))))), (.le (.mul (.c 2) (.quo (.sub (.add (.sub (.v 2) (.v 0)) (.v 4)) (.c 1)) (.v 4))) (.c 1024)), (.eq (.v 5) (.c 1)), (.le (.v 5) (.c 1)), (.le (.c 0) (.v 5)), (.le (.v 4) (.c 1048576)), (.le (.c 1) (.v 4)), (.lt (.v 1) (.v 3)), (.lt (.v 0) (.v 2)), (.le (.v 3) (.c 16777216)), (.le (.c (-16777216)) (.v 3)), (.le (.v 2) (.c 16777216)), (.le (.c (-16777216)) (.v 2)), (.le (.v 1) (.c 16777216)), (.le (.c (-16777216)) (.v 1)), (.le (.v 0) (.c 16777216)), (.le (.c (-16777216)) (.v 0))], []⟩,
⟨(.val (.tup (.cons (.var 17) (.cons (.i .i64 (.c 0)) .nil)))), [(.le (.quo (.sub (.add (.sub (.v 2) (.v 0)) (.v 4)) (.c 1)) (.v 4)) (.v 14)), (.le (.c 0) (.v 14)), (.le (.v 14) (.quo (.sub (.add (.sub (.ite (.eq (.v 5) (.c 1)) (.v 2) (.v 3)) (.ite (.eq (.v 5) (.c 1)) (.v 0) (.v 1))) (.v 4)) (.c 1)) (.v 4))), (.le (.v 14) (.c 512)), (.le (.quo (.sub (.add (.sub (.ite (.eq (.v 5) (.c 1)) (.v 2) (.v 3)) (.ite (.eq (.v 5) (.c 1)) (.v 0) (.v 1))) (.v 4)) (.c 1)) (.v 4)) (.c 512)), (.le (.c (-16777216)) (.v 15)), (.le (.v 15) (.c 16777216)), (.le (.c (-16777216)) (.v 16)), (.le (.v 16) (.c 16777216)), (.eq (.v 17) (.mul (.v 14) (.c 2))), (.le (.v 17) (.c 1024)), (.happ 6 (.cons (.v 5) (.cons (.v 14) (.cons (.v 15) (.cons (.v 16) (.cons (.v 0) (.cons (.v 1) (.cons (.v 2) (.cons (.v 3) (.cons (.v 4) (.lv 17))))))))))), (.le (.mul (.c 2) (.quo (.sub (.add (.sub (.v 2) (.v 0)) (.v 4)) (.c 1)) (.v 4))) (.c 1024)), (.eq (.v 5) (.c 1)), (.le (.v 5) (.c 1)), (.le (.c 0) (.v 5)), (.le (.v 4) (.c 1048576)), (.le (.c 1) (.v 4)), (.lt (.v 1) (.v 3)), (.lt (.v 0) (.v 2)), (.le (.v 3) (.c 16777216)), (.le (.c (-16777216)) (.v 3)), (.le (.v 2) (.c 16777216)), (.le (.c (-16777216)) (.v 2)), (.le (.v 1) (.c 16777216)), (.le (.c (-16777216)) (.v 1)), (.le (.v 0) (.c 16777216)), (.le (.c (-16777216)) (.v 0))], [(17, ⟨true, 23, [(.i .i64), (.i .i64)], (.v 17), (.lv 17)⟩)]⟩,
⟨(.val (.tup (.cons .nils (.cons (.i .i64 (.c 3)) .nil)))), [(.lt (.c 1024) (.mul (.c 2) (.quo (.sub (.add (.sub (.v 3) (.v 1)) (.v 4)) (.c 1)) (.v 4)))), (.not (.eq (.v 5) (.c 1))), (.le (.v 5) (.c 1)), (.le (.c 0) (.v 5)), (.le (.v 4) (.c 1048576)), (.le (.c 1) (.v 4)), (.lt (.v 1) (.v 3)), (.lt (.v 0) (.v 2)), (.le (.v 3) (.c 16777216)), (.le (.c (-16777216)) (.v 3)), (.le (.v 2) (.c 16777216)), (.le (.c (-16777216)) (.v 2)), (.le (.v 1) (.c 16777216)), (.le (.c (-16777216)) (.v 1)), (.le (.v 0) (.c 16777216)), (.le (.c (-16777216)) (.v 0))], []⟩,
⟨(.must (.le (.c 0) (.quo (.sub (.add (.sub (.ite (.eq (.v 5) (.c 1)) (.v 2) (.v 3)) (.ite (.eq (.v 5) (.c 1)) (.v 0) (.v 1))) (.v 4)) (.c 1)) (.v 4)))), [(.le (.mul (.c 2) (.quo (.sub (.add (.sub (.v 3) (.v 1)) (.v 4)) (.c 1)) (.v 4))) (.c 1024)), (.not (.eq (.v 5) (.c 1))), (.le (.v 5) (.c 1)), (.le (.c 0) (.v 5)), (.le (.v 4) (.c 1048576)), (.le (.c 1) (.v 4)), (.lt (.v 1) (.v 3)), (.lt (.v 0) (.v 2)), (.le (.v 3) (.c 16777216)), (.le (.c (-16777216)) (.v 3)), (.le (.v 2) (.c 16777216)), (.le (.c (-16777216)) (.v 2)), (.le (.v 1) (.c 16777216)), (.le (.c (-16777216)) (.v 1)), (.le (.v 0) (.c 16777216)), (.le (.c (-16777216)) (.v 0))], []⟩,
⟨(.must (.le (.quo (.sub (.add (.sub (.ite (.eq (.v 5) (.c 1)) (.v 2) (.v 3)) (.ite (.eq (.v 5) (.c 1)) (.v 0) (.v 1))) (.v 4)) (.c 1)) (.v 4)) (.c 512))), [(.le (.mul (.c 2) (.quo (.sub (.add (.sub (.v 3) (.v 1)) (.v 4)) (.c 1)) (.v 4))) (.c 1024)), (.not (.eq (.v 5) (.c 1))), (.le (.v 5) (.c 1)), (.le (.c 0) (.v 5)), (.le (.v 4) (.c 1048576)), (.le (.c 1) (.v 4)), (.lt (.v 1) (.v 3)), (.lt (.v 0) (.v 2)), (.le (.v 3) (.c 16777216)), (.le (.c (-16777216)) (.v 3)), (.le (.v 2) (.c 16777216)), (.le (.c (-16777216)) (.v 2)), (.le (.v 1) (.c 16777216)), (.le (.c (-16777216)) (.v 1)), (.le (.v 0) (.c 16777216)), (.le (.c (-16777216)) (.v 0))], []⟩,
⟨(.must (.happ 6 (.cons (.v 5) (.cons (.c 0) (.cons (.v 0) (.cons (.v 2) (.cons (.v 0) (.cons (.v 1) (.cons (.v 2) (.cons (.v 3) (.cons (.v 4) .nil))))))))))), [(.le (.mul (.c 2) (.quo (.sub (.add (.sub (.v 3) (.v 1)) (.v 4)) (.c 1)) (.v 4))) (.c 1024)), (.not (.eq (.v 5) (.c 1))), (.le (.v 5) (.c 1)), (.le (.c 0) (.v 5)), (.le (.v 4) (.c 1048576)), (.le (.c 1) (.v 4)), (.lt (.v 1) (.v 3)), (.lt (.v 0) (.v 2)), (.le (.v 3) (.c 16777216)), (.le (.c (-16777216)) (.v 3)), (.le (.v 2) (.c 16777216)), (.le (.c (-16777216)) (.v 2)), (.le (.v 1) (.c 16777216)), (.le (.c (-16777216)) (.v 1)), (.le (.v 0) (.c 16777216)), (.le (.c (-16777216)) (.v 0))], []⟩,
⟨(.must (.le (.mul (.add (.v 17) (.c 2)) (.c 16)) (.c 140737488355328))), [(.lt (.v 14) (.quo (.sub (.add (.sub (.v 3) (.v 1)) (.v 4)) (.c 1)) (.v 4))), (.le (.c 0) (.v 14)), (.le (.v 14) (.quo (.sub (.add (.sub (.ite (.eq (.v 5) (.c 1)) (.v 2) (.v 3)) (.ite (.eq (.v 5) (.c 1)) (.v 0) (.v 1))) (.v 4)) (.c 1)) (.v 4))), (.le (.v 14) (.c 512)), (.le (.quo (.sub (.add (.sub (.ite (.eq (.v 5) (.c 1)) (.v 2) (.v 3)) (.ite (.eq (.v 5) (.c 1)) (.v 0) (.v 1))) (.v 4)) (.c 1)) (.v 4)) (.c 512)), (.le (.c (-16777216)) (.v 15)), (.le (.v 15) (.c 16777216)), (.le (.c (-16777216)) (.v 16)), (.le (.v 16) (.c 16777216)), (.eq (.v 17) (.mul (.v 14) (.c 2))), (.le (.v 17) (.c 1024)), (.happ 6 (.cons (.v 5) (.cons (.v 14) (.cons (.v 15) (.cons (.v 16) (.cons (.v 0) (.cons (.v 1) (.cons (.v 2) (.cons (.v 3) (.cons (.v 4) (.lv 17))))))))))), (.le (.mul (.c 2) (.quo (.sub (.add (.sub (.v 3) (.v 1)) (.v 4)) (.c 1)) (.v 4))) (.c 1024)), (.not (.eq (.v 5) (.c 1))), (.le (.v 5) (.c 1)), (.le (.c 0) (.v 5)), (.le (.v 4) (.c 1048576)), (.le (.c 1) (.v 4)), (.lt (.v 1) (.v 3)), (.lt (.v 0) (.v 2)), (.le (.v 3) (.c 16777216)), (.le (.c (-16777216)) (.v 3)), (.le (.v 2) (.c 16777216)), (.le (.c (-16777216)) (.v 2)), (.le (.v 1) (.c 16777216)), (.le (.c (-16777216)) (.v 1)), (.le (.v 0) (.c 16777216)), (.le (.c (-16777216)) (.v 0))], []⟩,
⟨(.must (.le (.add (.v 14) (.c 1)) (.quo (.sub (.add (.sub (.ite (.eq (.v 5) (.c 1)) (.v 2) (.v 3)) (.ite (.eq (.v 5) (.c 1)) (.v 0) (.v 1))) (.v 4)) (.c 1)) (.v 4)))), [(.lt (.v 14) (.quo (.sub (.add (.sub (.v 3) (.v 1)) (.v 4)) (.c 1)) (.v 4))), (.le (.c 0) (.v 14)), (.le (.v 14) (.quo (.sub (.add (.sub (.ite (.eq (.v 5) (.c 1)) (.v 2) (.v 3)) (.ite (.eq (.v 5) (.c 1)) (.v 0) (.v 1))) (.v 4)) (.c 1)) (.v 4))), (.le (.v 14) (.c 512)), (.le (.quo (.sub (.add (.sub (.ite (.eq (.v 5) (.c 1)) (.v 2) (.v 3)) (.ite (.eq (.v 5) (.c 1)) (.v 0) (.v 1))) (.v 4)) (.c 1)) (.v 4)) (.c 512)), (.le (.c (-16777216)) (.v 15)), (.le (.v 15) (.c 16777216)), (.le (.c (-16777216)) (.v 16)), (.le (.v 16) (.c 16777216)), (.eq (.v 17) (.mul (.v 14) (.c 2))), (.le (.v 17) (.c 1024)), (.happ 6 (.cons (.v 5) (.cons (.v 14) (.cons (.v 15) (.cons (.v 16) (.cons (.v 0) (.cons (.v 1) (.cons (.v 2) (.cons (.v 3) (.cons (.v 4) (.lv 17))))))))))), (.le (.mul (.c 2) (.quo (.sub (.add (.sub (.v 3) (.v 1)) (.v 4)) (.c 1)) (.v 4))) (.c 1024)), (.not (.eq (.v 5) (.c 1))), (.le (.v 5) (.c 1)), (.le (.c 0) (.v 5)), (.le (.v 4) (.c 1048576)), (.le (.c 1) (.v 4)), (.lt (.v 1) (.v 3)), (.lt (.v 0) (.v 2)), (.le (.v 3) (.c 16777216)), (.le (.c (-16777216)) (.v 3)), (.le (.v 2) (.c 16777216)), (.le (.c (-16777216)) (.v 2)), (.le (.v 1) (.c 16777216)), (.le (.c (-16777216)) (.v 1)), (.le (.v 0) (.c 16777216)), (.le (.c (-16777216)) (.v 0))], []⟩,
⟨(.must (.le (.add (.v 14) (.c 1)) (.c 512))), [(.lt (.v 14) (.quo (.sub (.add (.sub (.v 3) (.v 1)) (.v 4)) (.c 1)) (.v 4))), (.le (.c 0) (.v 14)), (.le (.v 14) (.quo (.sub (.add (.sub (.ite (.eq (.v 5) (.c 1)) (.v 2) (.v 3)) (.ite (.eq (.v 5) (.c 1)) (.v 0) (.v 1))) (.v 4)) (.c 1)) (.v 4))), (.le (.v 14) (.c 512)), (.le (.quo (.sub (.add (.sub (.ite (.eq (.v 5) (.c 1)) (.v 2) (.v 3)) (.ite (.eq (.v 5) (.c 1)) (.v 0) (.v 1))) (.v 4)) (.c 1)) (.v 4)) (.c 512)), (.le (.c (-16777216)) (.v 15)), (.le (.v 15) (.c 16777216)), (.le (.c (-16777216)) (.v 16)), (.le (.v 16) (.c 16777216)), (.eq (.v 17) (.mul (.v 14) (.c 2))), (.le (.v 17) (.c 1024)), (.happ 6 (.cons (.v 5) (.cons (.v 14) (.cons (.v 15) (.cons (.v 16) (.cons (.v 0) (.cons (.v 1) (.cons (.v 2) (.cons (.v 3) (.cons (.v 4) (.lv 17))))))))))), (.le (.mul (.c 2) (.quo (.sub (.add (.sub (.v 3) (.v 1)) (.v 4)) (.c 1)) (.v 4))) (.c 1024)), (.not (.eq (.v 5) (.c 1))), (.le (.v 5) (.c 1)), (.le (.c 0) (.v 5)), (.le (.v 4) (.c 1048576)), (.le (.c 1) (.v 4)), (.lt (.v 1) (.v 3)), (.lt (.v 0) (.v 2)), (.le (.v 3) (.c 16777216)), (.le (.c (-16777216)) (.v 3)), (.le (.v 2) (.c 16777216)), (.le (.c (-16777216)) (.v 2)), (.le (.v 1) (.c 16777216)), (.le (.c (-16777216)) (.v 1)), (.le (.v 0) (.c 16777216)), (.le (.c (-16777216)) (.v 0))], []⟩,
⟨(.must (.le (.add (.v 17) (.c 2)) (.c 1024))), [(.lt (.v 14) (.quo (.sub (.add (.sub (.v 3) (.v 1)) (.v 4)) (.c 1)) (.v 4))), (.le (.c 0) (.v 14)), (.le (.v 14) (.quo (.sub (.add (.sub (.ite (.eq (.v 5) (.c 1)) (.v 2) (.v 3)) (.ite (.eq (.v 5) (.c 1)) (.v 0) (.v 1))) (.v 4)) (.c 1)) (.v 4))), (.le (.v 14) (.c 512)), (.le (.quo (.sub (.add (.sub (.ite (.eq (.v 5) (.c 1)) (.v 2) (.v 3)) (.ite (.eq (.v 5) (.c 1)) (.v 0) (.v 1))) (.v 4)) (.c 1)) (.v 4)) (.c 512)), (.le (.c (-16777216)) (.v 15)), (.le (.v 15) (.c 16777216)), (.le (.c (-16777216)) (.v 16)), (.le (.v 16) (.c 16777216)), (.eq (.v 17) (.mul (.v 14) (.c 2))), (.le (.v 17) (.c 1024)), (.happ 6 (.cons (.v 5) (.cons (.v 14) (.cons (.v 15) (.cons (.v 16) (.cons (.v 0) (.cons (.v 1) (.cons (.v 2) (.cons (.v 3) (.cons (.v 4) (.lv 17))))))))))), (.le (.mul (.c 2) (.quo (.sub (.add (.sub (.v 3) (.v 1)) (.v 4)) (.c 1)) (.v 4))) (.c 1024)), (.not (.eq (.v 5) (.c 1))), (.le (.v 5) (.c 1)), (.le (.c 0) (.v 5)), (.le (.v 4) (.c 1048576)), (.le (.c 1) (.v 4)), (.lt (.v 1) (.v 3)), (.lt (.v 0) (.v 2)), (.le (.v 3) (.c 16777216)), (.le (.c (-16777216)) (.v 3)), (.le (.v 2) (.c 16777216)), (.le (.c (-16777216)) (.v 2)), (.le (.v 1) (.c 16777216)), (.le (.c (-16777216)) (.v 1)), (.le (.v 0) (.c 16777216)), (.le (.c (-16777216)) (.v 0))], []⟩,
⟨(.must (.happ 6 (.cons (.v 5) (.cons (.add (.v 14) (.c 1)) (.cons (.v 16) (.cons (.v 15) (.cons (.v 0) (.cons (.v 1) (.cons (.v 2) (.cons (.v 3) (.cons (.v 4) (.lcat (.lv 17) (.cons (.v 15) (.cons (.ite (.lt (.v 3) (.add (.add (.v 1) (.quo (.v 4) (.c 2))) (.mul (.v 14) (.v 4)))) (.v 3) (.add (.add (.v 1) (.quo (.v 4) (.c 2))) (.mul (.v 14) (.v 4)))) (.cons (.v 16) (.cons (.ite (.lt (.v 3) (.add (.add (.v 1) (.quo (.v 4) (.c 2))) (.mul (.v 14) (.v 4)))) (.v 3) (.add (.add (.v 1) (.quo (.v 4) (.c 2))) (.mul (.v 14) (.v 4)))) .nil)))))))))))))))), [(.lt (.v 14) (.quo (.sub (.add (.sub (.v 3) (.v 1)) (.v 4)) (.c 1)) (.v 4))), (.le (.c 0) (.v 14)), (.le (.v 14) (.quo (.sub (.add (.sub (.ite (.eq (.v 5) (.c 1)) (.v 2) (.v 3)) (.ite (.eq (.v 5) (.c 1)) (.v 0) (.v 1))) (.v 4)) (.c 1)) (.v 4))), (.le (.v 14) (.c 512)), (.le (.quo (.sub (.add (.sub (.ite (.eq (.v 5) (.c 1)) (.v 2) (.v 3)) (.ite (.eq (.v 5) (.c 1)) (.v 0) (.v 1))) (.v 4)) (.c 1)) (.v 4)) (.c 512)), (.le (.c (-16777216)) (.v 15)), (.le (.v 15) (.c 16777216)), (.le (.c (-16777216)) (.v 16)), (.le (.v 16) (.c 16777216)), (.eq (.v 17) (.mul (.v 14) (.c 2))), (.le (.v 17) (.c 1024)), (.happ 6 (.cons (.v 5) (.cons (.v 14) (.cons (.v 15) (.cons (.v 16) (.cons (.v 0) (.cons (.v 1) (.cons (.v 2) (.cons (.v 3) (.cons (.v 4) (.lv 17))))))))))), (.le (.mul (.c 2) (.quo (.sub (.add (.sub (.v 3) (.v 1)) (.v 4)) (.c 1)) (.v 4))) (.c 1024)), (.not (.eq (.v 5) (.c 1))), (.le (.v 5) (.c 1)), (.le (.c 0) (.v 5)), (.le (.v 4) (.c 1048576)), (.le (.c 1) (.v 4)), (.lt (.v 1) (.v 3)), (.lt (.v 0) (.v 2)), (.le (.v 3) (.c 16777216)), (.le (.c (-16777216)) (.v 3)), (.le (.v 2) (.c 16777216)), (.le (.c (-16777216)) (.v 2)), (.le (.v 1) (.c 16777216)), (.le (.c (-16777216)) (.v 1)), (.le (.v 0) (.c 16777216)), (.le (.c (-16777216)) (.v 0))], []⟩,
⟨(.must (.le (.c 0) (.sub (.c 512) (.add (.v 14) (.c 1))))), [(.lt (.v 14) (.quo (.sub (.add (.sub (.v 3) (.v 1)) (.v 4)) (.c 1)) (.v 4))), (.le (.c 0) (.v 14)), (.le (.v 14) (.quo (.sub (.add (.sub (.ite (.eq (.v 5) (.c 1)) (.v 2) (.v 3)) (.ite (.eq (.v 5) (.c 1)) (.v 0) (.v 1))) (.v 4)) (.c 1)) (.v 4))), (.le (.v 14) (.c 512)), (.le (.quo (.sub (.add (.sub (.ite (.eq (.v 5) (.c 1)) (.v 2) (.v 3)) (.ite (.eq (.v 5) (.c 1)) (.v 0) (.v 1))) (.v 4)) (.c 1)) (.v 4)) (.c 512)), (.le (.c (-16777216)) (.v 15)), (.le (.v 15) (.c 16777216)), (.le (.c (-16777216)) (.v 16)), (.le (.v 16) (.c 16777216)), (.eq (.v 17) (.mul (.v 14) (.c 2))), (.le (.v 17) (.c 1024)), (.happ 6 (.cons (.v 5) (.cons (.v 14) (.cons (.v 15) (.cons (.v 16) (.cons (.v 0) (.cons (.v 1) (.cons (.v 2) (.cons (.v 3) (.cons (.v 4) (.lv 17))))))))))), (.le (.mul (.c 2) (.quo (.sub (.add (.sub (.v 3) (.v 1)) (.v 4)) (.c 1)) (.v 4))) (.c 1024)), (.not (.eq (.v 5) (.c 1))), (.le (.v 5) (.c 1)), (.le (.c 0) (.v 5)), (.le (.v 4) (.c 1048576)), (.le (.c 1) (.v 4)), (.lt (.v 1) (.v 3)), (.lt (.v 0) (.v 2)), (.le (.v 3) (.c 16777216)), (.le (.c (-16777216)) (.v 3)), (.le (.v 2) (.c 16777216)), (.le (.c (-16777216)) (.v 2)), (.le (.v 1) (.c 16777216)), (.le (.c (-16777216)) (.v 1)), (.le (.v 0) (.c 16777216)), (.le (.c (-16777216)) (.v 0))], []⟩,
⟨(.val (.tup (.cons (.var 17) (.cons (.i .i64 (.c 0)) .nil)))), [(.le (.quo (.sub (.add (.sub (.v 3) (.v 1)) (.v 4)) (.c 1)) (.v 4)) (.v 14)), (.le (.c 0) (.v 14)), (.le (.v 14) (.quo (.sub (.add (.sub (.ite (.eq (.v 5) (.c 1)) (.v 2) (.v 3)) (.ite (.eq (.v 5) (.c 1)) (.v 0) (.v 1))) (.v 4)) (.c 1)) (.v 4))), (.le (.v 14) (.c 512)), (.le (.quo (.sub (.add (.sub (.ite (.eq (.v 5) (.c 1)) (.v 2) (.v 3)) (.ite (.eq (.v 5) (.c 1)) (.v 0) (.v 1))) (.v 4)) (.c 1)) (.v 4)) (.c 512)), (.le (.c (-16777216)) (.v 15)), (.le (.v 15) (.c 16777216)), (.le (.c (-16777216)) (.v 16)), (.le (.v 16) (.c 16777216)), (.eq (.v 17) (.mul (.v 14) (.c 2))), (.le (.v 17) (.c 1024)), (.happ 6 (.cons (.v 5) (.cons (.v 14) (.cons (.v 15) (.cons (.v 16) (.cons (.v 0) (.cons (.v 1) (.cons (.v 2) (.cons (.v 3) (.cons (.v 4) (.lv 17))))))))))), (.le (.mul (.c 2) (.quo (.sub (.add (.sub (.v 3) (.v 1)) (.v 4)) (.c 1)) (.v 4))) (.c 1024)), (.not (.eq (.v 5) (.c 1))), (.le (.v 5) (.c 1)), (.le (.c 0) (.v 5)), (.le (.v 4) (.c 1048576)), (.le (.c 1) (.v 4)), (.lt (.v 1) (.v 3)), (.lt (.v 0) (.v 2)), (.le (.v 3) (.c 16777216)), (.le (.c (-16777216)) (.v 3)), (.le (.v 2) (.c 16777216)), (.le (.c (-16777216)) (.v 2)), (.le (.v 1) (.c 16777216)), (.le (.c (-16777216)) (.v 1)), (.le (.v 0) (.c 16777216)), (.le (.c (-16777216)) (.v 0))], [(17, ⟨true, 23, [(.i .i64), (.i .i64)], (.v 17), (.lv 17)⟩)]⟩,
⟨(.val (.tup (.cons .nils (.cons (.i .i64 (.c 2)) .nil)))), [(.lt (.v 5) (.c 0)), (.le (.v 4) (.c 1048576)), (.le (.c 1) (.v 4)), (.lt (.v 1) (.v 3)), (.lt (.v 0) (.v 2)), (.le (.v 3) (.c 16777216)), (.le (.c (-16777216)) (.v 3)), (.le (.v 2) (.c 16777216)), (.le (.c (-16777216)) (.v 2)), (.le (.v 1) (.c 16777216)), (.le (.c (-16777216)) (.v 1)), (.le (.v 0) (.c 16777216)), (.le (.c (-16777216)) (.v 0))], []⟩,
⟨(.val (.tup (.cons .nils (.cons (.i .i64 (.c 2)) .nil)))), [(.lt (.v 4) (.c 1)), (.lt (.v 1) (.v 3)), (.lt (.v 0) (.v 2)), (.le (.v 3) (.c 16777216)), (.le (.c (-16777216)) (.v 3)), (.le (.v 2) (.c 16777216)), (.le (.c (-16777216)) (.v 2)), (.le (.v 1) (.c 16777216)), (.le (.c (-16777216)) (.v 1)), (.le (.v 0) (.c 16777216)), (.le (.c (-16777216)) (.v 0))], []⟩,
⟨(.val (.tup (.cons .nils (.cons (.i .i64 (.c 2)) .nil)))), [(.lt (.v 3) (.c (-16777216))), (.le (.v 2) (.c 16777216)), (.le (.c (-16777216)) (.v 2)), (.le (.v 1) (.c 16777216)), (.le (.c (-16777216)) (.v 1)), (.le (.v 0) (.c 16777216)), (.le (.c (-16777216)) (.v 0))], []⟩,
⟨(.val (.tup (.cons .nils (.cons (.i .i64 (.c 2)) .nil)))), [(.lt (.c 16777216) (.v 2)), (.le (.c (-16777216)) (.v 2)), (.le (.v 1) (.c 16777216)), (.le (.c (-16777216)) (.v 1)), (.le (.v 0) (.c 16777216)), (.le (.c (-16777216)) (.v 0))], []⟩,
⟨(.val (.tup (.cons .nils (.cons (.i .i64 (.c 2)) .nil)))), [(.lt (.v 2) (.c (-16777216))), (.le (.v 1) (.c 16777216)), (.le (.c (-16777216)) (.v 1)), (.le (.v 0) (.c 16777216)), (.le (.c (-16777216)) (.v 0))], []⟩,
⟨(.val (.tup (.cons .nils (.cons (.i .i64 (.c 2)) .nil)))), [(.lt (.v 1) (.c (-16777216))), (.le (.v 0) (.c 16777216)), (.le (.c (-16777216)) (.v 0))], []⟩,
⟨(.val (.tup (.cons .nils (.cons (.i .i64 (.c 2)) .nil)))), [(.lt (.c 16777216) (.v 0)), (.le (.c (-16777216)) (.v 0))], []⟩,
⟨(.val (.tup (.cons .nils (.cons (.i .i64 (.c 2)) .nil)))), [(.lt (.v 0) (.c (-16777216)))], []⟩] (by kernel_rfl) ρ w (fun _ h => by cases h) hT hR ⟨?_, ?_, ?_, ?_, ?_, ?_, ?_, ?_, ?_, ?_, ?_, ?_, ?_, ?_, ?_, ?_, ?_, ?_, ?_, ?_, ?_, ?_, ?_, ?_, ?_, ?_, ?_, ?_, ?_, ?_, ?_, ?_, ?_, ?_, ?_, ?_⟩ hJ
  all_goals
    intro ρ' w' hx _ hF hb hrow
    have e0 : ρ'.i 0 = ρ.i 0 := hx.i 0 (by decide)
    have e1 : ρ'.i 1 = ρ.i 1 := hx.i 1 (by decide)
    have e2 : ρ'.i 2 = ρ.i 2 := hx.i 2 (by decide)
    have e3 : ρ'.i 3 = ρ.i 3 := hx.i 3 (by decide)
    have e4 : ρ'.i 4 = ρ.i 4 := hx.i 4 (by decide)
    have e5 : ρ'.i 5 = ρ.i 5 := hx.i 5 (by decide)
    have hh' : ρ'.h = Tk.hF := by rw [hx.h]; exact hh
    clear hx
    simp only [holds, List.mem_cons, List.not_mem_nil, or_false, forall_eq_or_imp, forall_eq, B_le, B_lt, B_eq, B_not, I_add, I_sub, I_mul, I_quo, I_ite, I_c, I_v, L_lv, L_lcat, L_cons, L_nil, h_6 hh', e0, e1, e2, e3, e4, e5, min_ite, decide_eq_true_eq, Bool.not_eq_true', decide_eq_false_iff_not] at hF ⊢
    try simp only [S_num, S_v] at hF ⊢
    first
    | omega
    | (refine ⟨⟨_, List.mem_cons_self, fun a ha => ?_, rfl⟩, hb⟩
       simp only [List.mem_cons, List.not_mem_nil, or_false] at ha
       subst ha
       simp only [paOk, andL, B_not, B_and, B_le, B_lt, I_c, I_v, Bool.not_eq_true', Bool.and_eq_false_iff, decide_eq_false_iff_not]
       omega)
    | (have hal : ρ.i 5 = 1 := (by omega)
       have hN := parN_rng (ly := ρ.i 0) (hy := ρ.i 2) (sp := ρ.i 4) (by omega) (by omega) (by omega) (by omega) (by omega)
       have hNe : parN (ρ.i 0) (ρ.i 2) (ρ.i 4) = (ρ.i 2 - ρ.i 0 + ρ.i 4 - 1).tdiv (ρ.i 4) := rfl
       simp only [hal, ↓reduceIte, parI_t] at hF ⊢
       first
       | exact ⟨rfl, rfl, rfl⟩
       | omega
       | (refine ⟨⟨_, List.mem_cons_of_mem _ List.mem_cons_self, fun a ha => ?_, rfl⟩, hb⟩
          simp only [List.mem_cons, List.not_mem_nil, or_false] at ha
          rcases ha with rfl | rfl
          · simp only [paOk, andL, B_and, B_le, B_lt, I_c, I_v, Bool.and_eq_true, decide_eq_true_eq]
            omega
          · simp only [paN, paQ, B_lt, B_eq, I_add, I_sub, I_quo, I_ite, I_c, I_v, hal, decide_true, if_true, decide_eq_true_eq]
            omega)
       | (have hP : ρ'.l 17 = parL true (ρ.i 1) (ρ.i 0) (ρ.i 3) (ρ.i 2) (ρ.i 4) (ρ'.i 14).toNat ∧ ρ'.i 15 = parX (ρ.i 1) (ρ.i 3) (ρ'.i 14).toNat ∧ ρ'.i 16 = parX (ρ.i 1) (ρ.i 3) ((ρ'.i 14).toNat + 1) := (by (revert hF; simp only [and_imp]; intros; refine ⟨?_, ?_, ?_⟩ <;> assumption))
          first
          | exact par_next (by omega) hP rfl
          | (obtain ⟨hat, -⟩ := hrow _ List.mem_cons_self
             have ek : ρ'.i 14 = parN (ρ.i 0) (ρ.i 2) (ρ.i 4) := (by omega)
             refine ⟨⟨_, List.mem_cons_of_mem _ (List.mem_cons_of_mem _ List.mem_cons_self), fun a ha => ?_, rfl, _, rfl, ?_, fun b hbb => ?_⟩, hb⟩
             · simp only [List.mem_cons, List.not_mem_nil, or_false] at ha
               rcases ha with rfl | rfl
               · simp only [paOk, andL, B_and, B_le, B_lt, I_c, I_v, Bool.and_eq_true, decide_eq_true_eq]
                 omega
               · simp only [paN, paQ, B_le, B_eq, I_add, I_sub, I_quo, I_ite, I_c, I_v, hal, decide_true, if_true, decide_eq_true_eq]
                 omega
             · rw [ek] at hP
               have en : ρ'.i 17 = parN (ρ.i 0) (ρ.i 2) (ρ.i 4) * 2 := (by omega)
               simp only [Row.at, I_v, L_lv, hP.1, en] at hat
               simp only [Row.at, paA, paN, paQ, B_eq, I_add, I_sub, I_quo, I_mul, I_ite, I_c, I_v, hal, decide_true, L_lapp, L_cons, L_nil, hm, mF_4, parA, ↓reduceIte]
               exact hat
             · simp only [Row.at, if_true] at hat
               have hbb : (ρ'.v 17).ownBlock = some b := hbb
               rcases hat.2.2.2 with h | ⟨g, cap, cur, hv, hg, -⟩
               · rw [h.1] at hbb; cases hbb
               · rw [hv] at hbb; cases hbb; exact hg)))
    | (have hal : ρ.i 5 = 0 := (by omega)
       have h01 : ¬ (0 : Int) = 1 := (by omega)
       have hN := parN_rng (ly := ρ.i 1) (hy := ρ.i 3) (sp := ρ.i 4) (by omega) (by omega) (by omega) (by omega) (by omega)
       have hNe : parN (ρ.i 1) (ρ.i 3) (ρ.i 4) = (ρ.i 3 - ρ.i 1 + ρ.i 4 - 1).tdiv (ρ.i 4) := rfl
       simp only [hal, h01, ↓reduceIte, parI_f] at hF ⊢
       first
       | exact ⟨rfl, rfl, rfl⟩
       | omega
       | (refine ⟨⟨_, List.mem_cons_of_mem _ List.mem_cons_self, fun a ha => ?_, rfl⟩, hb⟩
          simp only [List.mem_cons, List.not_mem_nil, or_false] at ha
          rcases ha with rfl | rfl
          · simp only [paOk, andL, B_and, B_le, B_lt, I_c, I_v, Bool.and_eq_true, decide_eq_true_eq]
            omega
          · simp only [paN, paQ, B_lt, B_eq, I_add, I_sub, I_quo, I_ite, I_c, I_v, hal, h01, decide_false, if_false, Bool.false_eq_true, decide_eq_true_eq]
            omega)
       | (have hP : ρ'.l 17 = parL false (ρ.i 0) (ρ.i 1) (ρ.i 2) (ρ.i 3) (ρ.i 4) (ρ'.i 14).toNat ∧ ρ'.i 15 = parX (ρ.i 0) (ρ.i 2) (ρ'.i 14).toNat ∧ ρ'.i 16 = parX (ρ.i 0) (ρ.i 2) ((ρ'.i 14).toNat + 1) := (by (revert hF; simp only [and_imp]; intros; refine ⟨?_, ?_, ?_⟩ <;> assumption))
          first
          | exact par_next (by omega) hP rfl
          | (obtain ⟨hat, -⟩ := hrow _ List.mem_cons_self
             have ek : ρ'.i 14 = parN (ρ.i 1) (ρ.i 3) (ρ.i 4) := (by omega)
             refine ⟨⟨_, List.mem_cons_of_mem _ (List.mem_cons_of_mem _ List.mem_cons_self), fun a ha => ?_, rfl, _, rfl, ?_, fun b hbb => ?_⟩, hb⟩
             · simp only [List.mem_cons, List.not_mem_nil, or_false] at ha
               rcases ha with rfl | rfl
               · simp only [paOk, andL, B_and, B_le, B_lt, I_c, I_v, Bool.and_eq_true, decide_eq_true_eq]
                 omega
               · simp only [paN, paQ, B_le, B_eq, I_add, I_sub, I_quo, I_ite, I_c, I_v, hal, h01, decide_false, if_false, Bool.false_eq_true, decide_eq_true_eq]
                 omega
             · rw [ek] at hP
               have en : ρ'.i 17 = parN (ρ.i 1) (ρ.i 3) (ρ.i 4) * 2 := (by omega)
               simp only [Row.at, I_v, L_lv, hP.1, en] at hat
               simp only [Row.at, paA, paN, paQ, B_eq, I_add, I_sub, I_quo, I_mul, I_ite, I_c, I_v, hal, h01, decide_false, Bool.false_eq_true, L_lapp, L_cons, L_nil, hm, mF_4, parA, ↓reduceIte]
               exact hat
             · simp only [Row.at, if_true] at hat
               have hbb : (ρ'.v 17).ownBlock = some b := hbb
               rcases hat.2.2.2 with h | ⟨g, cap, cur, hv, hg, -⟩
               · rw [h.1] at hbb; cases hbb
               · rw [hv] at hbb; cases hbb; exact hg)))
end Go.Proofs.YtkhffloahpdbdaaDoor.Tk
end
section
namespace Go.Proofs.YtkhffloahpdbdaaDoor.Tk
open Go Go.Proofs.YtkhffloahpdbdaaDoor.Sx Go.RowKit

/-! spots of a square -/
theorem sqL_pre (x y s : Int) {k : Nat} (j : Nat) (hj : j < 2 * (k + 1)) : ∀ n : Nat, k ≤ n → (sqL x y s n)[j]? = (sqL x y s k)[j]?
  | 0, h => by obtain rfl : k = 0 := by omega
               rfl
  | n + 1, h => by
    rcases Nat.lt_or_ge n k with hk | hk
    · obtain rfl : k = n + 1 := by omega
      rfl
    · have hl := sqL_len x y s n
      rw [sqL, List.getElem?_append_left (by omega)]
      exact sqL_pre x y s j hj n hk
theorem sqL_spot (x y s : Int) {n k : Nat} (h : k ≤ n) : sX (sqL x y s n) k = sqC dX x s k ∧ sY (sqL x y s n) k = sqC dY y s k := by
  obtain ⟨e1, e2⟩ := sqL_last x y s k
  simp only [sX, sY, nI] at e1 e2 ⊢
  rw [← e1, ← e2, sqL_pre x y s (k := k) (((k : Int) * 2).toNat) (by omega) n h, sqL_pre x y s (k := k) (((k : Int) * 2 + 1).toNat) (by omega) n h]
  exact ⟨rfl, rfl⟩
/-! spots of a sector -/
theorem scL_pre (x y r : Int) {k : Nat} (j : Nat) (hj : j < 2 * (k + 1)) : ∀ n : Nat, k ≤ n → (scL x y r n)[j]? = (scL x y r k)[j]?
  | 0, h => by obtain rfl : k = 0 := by omega
               rfl
  | n + 1, h => by
    rcases Nat.lt_or_ge n k with hk | hk
    · obtain rfl : k = n + 1 := by omega
      rfl
    · have hl := scL_len x y r n
      rw [scL, List.getElem?_append_left (by omega)]
      exact scL_pre x y r j hj n hk
def spF (f : Int → Int) (k : Nat) : Int := match k with | 0 => 0 | j + 1 => f j
theorem scL_last (x y r : Int) : ∀ k : Nat, sX (scL x y r k) k = x + r * spF scX k ∧ sY (scL x y r k) k = y + r * spF scY k
  | 0 => by
    simp only [spF, Int.mul_zero, Int.add_zero]
    exact ⟨rfl, rfl⟩
  | k + 1 => by
    have hl := scL_len x y r k
    have key : ∀ j : Nat, nI (scL x y r (k + 1)) ((2 * (k + 1) + j : Nat) : Int) = nI [(x + r * scX k, ⟨#[]⟩), (y + r * scY k, ⟨#[]⟩)] j := fun j => by
      unfold nI
      rw [Int.toNat_natCast, Int.toNat_natCast, scL, List.getElem?_append_right (by omega), hl, show 2 * (k + 1) + j - 2 * (k + 1) = j by omega]
    unfold sX sY
    rw [show ((k + 1 : Nat) : Int) * 2 = ((2 * (k + 1) + 0 : Nat) : Int) by omega, key, show ((2 * (k + 1) + 0 : Nat) : Int) + 1 = ((2 * (k + 1) + 1 : Nat) : Int) by omega, key]
    exact ⟨rfl, rfl⟩
theorem scL_spot (x y r : Int) {n k : Nat} (h : k ≤ n) : sX (scL x y r n) k = x + r * spF scX k ∧ sY (scL x y r n) k = y + r * spF scY k := by
  obtain ⟨e1, e2⟩ := scL_last x y r k
  simp only [sX, sY, nI] at e1 e2 ⊢
  rw [← e1, ← e2, scL_pre x y r (k := k) (((k : Int) * 2).toNat) (by omega) n h, scL_pre x y r (k := k) (((k : Int) * 2 + 1).toNat) (by omega) n h]
  exact ⟨rfl, rfl⟩
theorem sc_way {r : Int} (hr : 1 ≤ r) {k : Nat} (hk : k < 12) : wayB (r * spF scX (k + 1) - r * spF scX k) (r * spF scY (k + 1) - r * spF scY k) = true := by
  have : k = 0 ∨ k = 1 ∨ k = 2 ∨ k = 3 ∨ k = 4 ∨ k = 5 ∨ k = 6 ∨ k = 7 ∨ k = 8 ∨ k = 9 ∨ k = 10 ∨ k = 11 := by omega
  rw [← Int.mul_sub, ← Int.mul_sub, wayB_iff]
  have t (a b : Int) (h : wayB a b = true) : (r * a = 0 ∧ r * b ≠ 0) ∨ (r * a ≠ 0 ∧ r * b = 0) ∨ (r * a ≠ 0 ∧ (r * a = r * b ∨ r * a = -(r * b))) := by
    rw [wayB_iff] at h
    have n0 : ∀ z : Int, z ≠ 0 → r * z ≠ 0 := fun z hz h0 => by
      rcases Int.mul_eq_zero.1 h0 with h1 | h1 <;> omega
    rcases h with ⟨h1, h2⟩ | ⟨h1, h2⟩ | ⟨h1, h2⟩
    · exact .inl ⟨by rw [h1, Int.mul_zero], n0 _ h2⟩
    · exact .inr (.inl ⟨n0 _ h1, by rw [h2, Int.mul_zero]⟩)
    · refine .inr (.inr ⟨n0 _ h1, ?_⟩)
      rcases h2 with h2 | h2
      · exact .inl (by rw [h2])
      · exact .inr (by rw [h2, Int.mul_neg])
  rcases this with rfl | rfl | rfl | rfl | rfl | rfl | rfl | rfl | rfl | rfl | rfl | rfl <;> exact t _ _ (by decide)
theorem sc_track {x y r : Int} {n : Nat} (hn : 1 ≤ n) (hm : n ≤ 12) (hr : 1 ≤ r) (hs : allTo ((n : Int) + 1) (spB (scL x y r n)) = true) : trackB ((n : Int) + 1) (scL x y r n) = true := by
  refine track_iff.2 ⟨by omega, hs, allTo_of fun k h0 hk => ?_⟩
  obtain ⟨j, rfl⟩ := Int.eq_ofNat_of_zero_le h0
  rcases Nat.eq_zero_or_pos j with h | h
  · subst h; rfl
  · rw [legB_iff (by omega)]
    obtain ⟨i, rfl⟩ : ∃ i, j = i + 1 := ⟨j - 1, by omega⟩
    obtain ⟨e1, e2⟩ := scL_spot x y r (n := n) (k := i + 1) (by omega)
    obtain ⟨f1, f2⟩ := scL_spot x y r (n := n) (k := i) (by omega)
    rw [show ((i + 1 : Nat) : Int) - 1 = (i : Nat) by omega, e1, e2, f1, f2]
    have := sc_way hr (k := i) (by omega)
    rw [show x + r * spF scX (i + 1) - (x + r * spF scX i) = r * spF scX (i + 1) - r * spF scX i by omega, show y + r * spF scY (i + 1) - (y + r * spF scY i) = r * spF scY (i + 1) - r * spF scY i by omega]
    exact this
/-! legs of a square -/
theorem sq_leg {d : Int → Int} (x s : Int) (k : Nat) : sqC d x s (k + 1) = sqC d x s k + ((k : Int).tdiv 2 + 1) * s * d ((k : Int).tmod 4) := rfl
theorem d_unit (k : Int) : (dX k = 0 ∧ (dY k = 1 ∨ dY k = -1)) ∨ ((dX k = 1 ∨ dX k = -1) ∧ dY k = 0) ∨ k < 0 ∨ 3 < k := by
  by_cases h : 0 ≤ k ∧ k ≤ 3
  · have : k = 0 ∨ k = 1 ∨ k = 2 ∨ k = 3 := by omega
    rcases this with rfl | rfl | rfl | rfl <;> decide
  · omega
theorem sq_way {x y s : Int} (hs : 1 ≤ s) (k : Nat) : wayB (sqC dX x s (k + 1) - sqC dX x s k) (sqC dY y s (k + 1) - sqC dY y s k) = true := by
  rw [sq_leg, sq_leg]
  have hl : 1 ≤ ((k : Int).tdiv 2 + 1) * s := by
    rw [Int.tdiv_eq_ediv_of_nonneg (by omega)]
    have : 1 * 1 ≤ ((k : Int) / 2 + 1) * s := Int.mul_le_mul (by omega) hs (by omega) (by omega)
    omega
  generalize ((k : Int).tdiv 2 + 1) * s = f at hl ⊢
  have hm := Int.tmod_nonneg 4 (show 0 ≤ (k : Int) by omega)
  have ht := Int.tmod_lt_of_pos (k : Int) (show 0 < (4 : Int) by omega)
  generalize (k : Int).tmod 4 = m at hm ht ⊢
  rw [wayB_iff]
  rcases d_unit m with ⟨h1, h2⟩ | ⟨h1, h2⟩ | h | h
  · rw [h1]; rcases h2 with h2 | h2 <;> rw [h2] <;> omega
  · rw [h2]; rcases h1 with h1 | h1 <;> rw [h1] <;> omega
  · omega
  · omega
theorem sq_track {x y s : Int} {n : Nat} (hn : 1 ≤ n) (hm : n ≤ 1023) (hs0 : 1 ≤ s) (hs : allTo ((n : Int) + 1) (spB (sqL x y s n)) = true) : trackB ((n : Int) + 1) (sqL x y s n) = true := by
  refine track_iff.2 ⟨by omega, hs, allTo_of fun k h0 hk => ?_⟩
  obtain ⟨j, rfl⟩ := Int.eq_ofNat_of_zero_le h0
  rcases Nat.eq_zero_or_pos j with h | h
  · subst h; rfl
  · rw [legB_iff (by omega)]
    obtain ⟨i, rfl⟩ : ∃ i, j = i + 1 := ⟨j - 1, by omega⟩
    obtain ⟨e1, e2⟩ := sqL_spot x y s (n := n) (k := i + 1) (by omega)
    obtain ⟨f1, f2⟩ := sqL_spot x y s (n := n) (k := i) (by omega)
    rw [show ((i + 1 : Nat) : Int) - 1 = (i : Nat) by omega, e1, e2, f1, f2]
    exact sq_way hs0 i
/-! rings -/
theorem mod4 (j r : Nat) (hr : r < 4) : (((4 * j + r : Nat) : Int)).tmod 4 = r := by rw [Int.tmod_eq_emod_of_nonneg (by omega)]; omega
theorem div2 (j r : Nat) : (((4 * j + r : Nat) : Int)).tdiv 2 = 2 * j + (r / 2 : Nat) := by rw [Int.tdiv_eq_ediv_of_nonneg (by omega)]; omega
theorem ring_next {x y s : Int} {j : Nat} (hx : sqC dX x s (4 * j) = x - j * s) (hy : sqC dY y s (4 * j) = y - j * s) :
    (sqC dX x s (4 * j + 1) = x + (j + 1) * s ∧ sqC dY y s (4 * j + 1) = y - j * s) ∧
    (sqC dX x s (4 * j + 2) = x + (j + 1) * s ∧ sqC dY y s (4 * j + 2) = y + (j + 1) * s) ∧
    (sqC dX x s (4 * j + 3) = x - (j + 1) * s ∧ sqC dY y s (4 * j + 3) = y + (j + 1) * s) ∧
    (sqC dX x s (4 * j + 4) = x - (j + 1) * s ∧ sqC dY y s (4 * j + 4) = y - (j + 1) * s) := by
  have m0 := mod4 j 0 (by omega); have m1 := mod4 j 1 (by omega); have m2 := mod4 j 2 (by omega); have m3 := mod4 j 3 (by omega)
  have q0 := div2 j 0; have q1 := div2 j 1; have q2 := div2 j 2; have q3 := div2 j 3
  have x0 : sqC dX x s (4 * j + 1) = sqC dX x s (4 * j) + (2 * (j : Int) + 1) * s := by
    have := sq_leg (d := dX) x s (4 * j)
    rw [show (4 * j : Nat) = 4 * j + 0 by omega, m0, q0] at this
    simp only [dX] at this
    simpa using this
  have y0 : sqC dY y s (4 * j + 1) = sqC dY y s (4 * j) := by
    have := sq_leg (d := dY) y s (4 * j)
    rw [show (4 * j : Nat) = 4 * j + 0 by omega, m0, q0] at this
    simp only [dY] at this
    simpa using this
  have x1 : sqC dX x s (4 * j + 2) = sqC dX x s (4 * j + 1) := by
    have := sq_leg (d := dX) x s (4 * j + 1)
    rw [m1, q1] at this
    simp only [dX] at this
    simpa using this
  have y1 : sqC dY y s (4 * j + 2) = sqC dY y s (4 * j + 1) + (2 * (j : Int) + 1) * s := by
    have := sq_leg (d := dY) y s (4 * j + 1)
    rw [m1, q1] at this
    simp only [dY] at this
    simpa using this
  have x2 : sqC dX x s (4 * j + 3) = sqC dX x s (4 * j + 2) - (2 * (j : Int) + 2) * s := by
    have := sq_leg (d := dX) x s (4 * j + 2)
    rw [m2, q2] at this
    simp only [dX] at this
    have e : (2 * (j : Int) + ((2 / 2 : Nat) : Int) + 1) = 2 * j + 2 := by omega
    rw [e] at this
    simpa [Int.sub_eq_add_neg] using this
  have y2 : sqC dY y s (4 * j + 3) = sqC dY y s (4 * j + 2) := by
    have := sq_leg (d := dY) y s (4 * j + 2)
    rw [m2, q2] at this
    simp only [dY] at this
    simpa using this
  have x3 : sqC dX x s (4 * j + 4) = sqC dX x s (4 * j + 3) := by
    have := sq_leg (d := dX) x s (4 * j + 3)
    rw [m3, q3] at this
    simp only [dX] at this
    simpa using this
  have y3 : sqC dY y s (4 * j + 4) = sqC dY y s (4 * j + 3) - (2 * (j : Int) + 2) * s := by
    have := sq_leg (d := dY) y s (4 * j + 3)
    rw [m3, q3] at this
    simp only [dY] at this
    have e : (2 * (j : Int) + ((3 / 2 : Nat) : Int) + 1) = 2 * j + 2 := by omega
    rw [e] at this
    simpa [Int.sub_eq_add_neg] using this
  have a1 : (2 * (j : Int) + 1) * s = 2 * (j * s) + s := by grind
  have a2 : (2 * (j : Int) + 2) * s = 2 * (j * s) + 2 * s := by grind
  have a3 : ((j : Int) + 1) * s = j * s + s := by grind
  rw [a1] at x0 y1
  rw [a2] at x2 y3
  rw [a3]
  omega
theorem ring_base (x y s : Int) : ∀ j : Nat, sqC dX x s (4 * j) = x - j * s ∧ sqC dY y s (4 * j) = y - j * s
  | 0 => by simp [sqC]
  | j + 1 => by
    obtain ⟨h1, h2⟩ := ring_base x y s j
    obtain ⟨-, -, -, h3⟩ := ring_next h1 h2
    rw [show 4 * (j + 1) = 4 * j + 4 by omega, Int.natCast_add]
    exact h3
theorem ring (x y s : Int) (j : Nat) :
    (sqC dX x s (4 * j) = x - j * s ∧ sqC dY y s (4 * j) = y - j * s) ∧
    (sqC dX x s (4 * j + 1) = x + (j + 1) * s ∧ sqC dY y s (4 * j + 1) = y - j * s) ∧
    (sqC dX x s (4 * j + 2) = x + (j + 1) * s ∧ sqC dY y s (4 * j + 2) = y + (j + 1) * s) ∧
    (sqC dX x s (4 * j + 3) = x - (j + 1) * s ∧ sqC dY y s (4 * j + 3) = y + (j + 1) * s) := by
  obtain ⟨h1, h2⟩ := ring_base x y s j
  obtain ⟨k1, k2, k3, -⟩ := ring_next h1 h2
  exact ⟨⟨h1, h2⟩, k1, k2, k3⟩
theorem sg_pos {x : Int} (h : 0 < x) : sg x = 1 := by unfold sg; rw [if_neg (by omega), if_pos h]
theorem sg_neg {x : Int} (h : x < 0) : sg x = -1 := by unfold sg; rw [if_pos h]
theorem sg_zero : sg 0 = 0 := rfl
theorem ab_sq {x w : Int} (h : ab x ≤ w) : x * x ≤ w * w := by
  have h0 : 0 ≤ ab x := by unfold ab; split <;> omega
  have h1 : ab x * ab x = x * x := by
    unfold ab
    split
    · exact Int.neg_mul_neg x x
    · rfl
  rw [← h1]
  exact sq_le h0 h
/-- between the ends of a line, and near it. -/
theorem reach_line {fx tx Y x y w : Int} (hne : fx ≠ tx) (hx1 : min fx tx ≤ x) (hx2 : x ≤ max fx tx) (hw : ab (y - Y) ≤ w) : reachB fx Y tx Y x y w = true ∧ reachB Y fx Y tx y x w = true := by
  have hq := ab_sq hw
  have e0 : Y - Y = 0 := by omega
  have e1 : (Y - y) * (Y - y) = (y - Y) * (y - Y) := by grind
  unfold reachB
  rcases Int.lt_or_gt_of_ne hne with h | h
  · rw [e0, sg_zero, sg_pos (by omega)]
    simp only [Int.mul_one, Int.mul_zero, Int.add_zero, Int.zero_add, Int.zero_sub, Int.sub_zero, Int.neg_mul_neg]
    rw [if_neg (by omega), if_neg (by omega), if_neg (by omega), if_neg (by omega)]
    simp only [decide_eq_true_eq]
    exact ⟨hq, hq⟩
  · rw [e0, sg_zero, sg_neg (by omega)]
    simp only [Int.mul_neg, Int.mul_one, Int.mul_zero, Int.add_zero, Int.zero_add, Int.zero_sub, Int.sub_zero, Int.neg_neg, Int.neg_mul]
    rw [if_neg (by omega), if_neg (by omega), if_neg (by omega), if_neg (by omega)]
    simp only [decide_eq_true_eq]
    exact ⟨hq, hq⟩
theorem leg_hit {x y s px py : Int} {n k : Nat} (hk : k + 1 ≤ n) (h : reachB (sqC dX x s k) (sqC dY y s k) (sqC dX x s (k + 1)) (sqC dY y s (k + 1)) px py s = true) : allTo ((n : Int) + 1) (farB px py s (sqL x y s n)) = false := by
  refine allTo_not (k := ((k + 1 : Nat) : Int)) (by omega) (by omega) ?_
  obtain ⟨e1, e2⟩ := sqL_spot x y s (n := n) (k := k + 1) (by omega)
  obtain ⟨f1, f2⟩ := sqL_spot x y s (n := n) (k := k) (by omega)
  unfold farB
  rw [show ((k + 1 : Nat) : Int) - 1 = (k : Nat) by omega, e1, e2, f1, f2, h]
  simp
  omega
theorem ring_of {r s : Int} (hr : 0 ≤ r) (hs : 1 ≤ s) : ∃ j : Nat, r ≤ j * s ∧ j * s < r + s := by
  have h0 : 0 ≤ (r + s - 1) / s := Int.ediv_nonneg (by omega) (by omega)
  refine ⟨((r + s - 1) / s).toNat, ?_⟩
  have h5 := Int.emod_add_mul_ediv (r + s - 1) s
  have h6 := Int.emod_nonneg (r + s - 1) (b := s) (by omega)
  have h7 := Int.emod_lt_of_pos (r + s - 1) (b := s) (by omega)
  have h8 : ((((r + s - 1) / s).toNat : Nat) : Int) * s = s * ((r + s - 1) / s) := by rw [Int.toNat_of_nonneg h0, Int.mul_comm]
  omega
theorem ab_le {x w : Int} (h0 : -w ≤ x) (h1 : x ≤ w) : ab x ≤ w := by unfold ab; split <;> omega
theorem sq_near {x y s px py : Int} {m : Nat} (hs : 1 ≤ s) (hx0 : x - m * s ≤ px) (hx1 : px ≤ x + m * s) (hy0 : y - m * s ≤ py) (hy1 : py ≤ y + m * s) : allTo (((4 * m + 1 : Nat) : Int) + 1) (farB px py s (sqL x y s (4 * m + 1))) = false := by
  obtain ⟨r, r0, r1, r2, r3, r4⟩ : ∃ r : Int, px - x ≤ r ∧ x - px ≤ r ∧ py - y ≤ r ∧ y - py ≤ r ∧ (py - y = r ∨ x - px = r ∨ px - x = r ∨ y - py = r) := ⟨max (max (px - x) (x - px)) (max (py - y) (y - py)), by omega, by omega, by omega, by omega, by omega⟩
  obtain ⟨j, j0, j1⟩ := ring_of (r := r) (s := s) (by omega) hs
  have jm : j ≤ m := by
    rcases Nat.lt_or_ge m j with h | h
    · have h1 : ((m : Int) + 1) * s ≤ j * s := Int.mul_le_mul_of_nonneg_right (by omega) (by omega)
      rw [Int.add_mul, Int.one_mul] at h1
      omega
    · exact h
  rcases Nat.eq_zero_or_pos j with h | h
  · subst h
    simp only [Int.natCast_zero, Int.zero_mul] at j0 j1
    obtain rfl : px = x := by omega
    obtain rfl : py = y := by omega
    refine leg_hit (k := 0) (by omega) ?_
    obtain ⟨⟨a1, a2⟩, ⟨b1, b2⟩, -⟩ := ring px py s 0
    simp only [Nat.mul_zero, Int.natCast_zero, Int.zero_mul, Int.sub_zero, Int.zero_add, Int.one_mul] at a1 a2 b1 b2
    rw [a1, a2, b1, b2]
    exact (reach_line (by omega) (by omega) (by omega) (ab_le (by omega) (by omega))).1
  · obtain ⟨i, rfl⟩ : ∃ i, j = i + 1 := ⟨j - 1, by omega⟩
    obtain ⟨-, ⟨b1, b2⟩, ⟨c1, c2⟩, d1, d2⟩ := ring x y s i
    obtain ⟨⟨e1, e2⟩, ⟨f1, f2⟩, -⟩ := ring x y s (i + 1)
    have p1 : (((i + 1 : Nat) : Int)) * s = i * s + s := by rw [Int.natCast_add, Int.add_mul, Int.natCast_one, Int.one_mul]
    have p2 : ((i : Int) + 1) * s = i * s + s := by rw [Int.add_mul, Int.one_mul]
    have p3 : (((i + 1 : Nat) : Int) + 1) * s = i * s + s + s := by rw [Int.add_mul, p1, Int.one_mul]
    rw [p1] at j0 j1 e1 e2 f2
    rw [p2] at b1 c1 c2 d1 d2
    rw [p3] at f1
    rw [show 4 * (i + 1) = 4 * i + 4 by omega] at e1 e2
    rw [show 4 * (i + 1) + 1 = 4 * i + 5 by omega] at f1 f2
    have q0 : 0 ≤ (i : Int) * s := Int.mul_nonneg (by omega) (by omega)
    generalize (i : Int) * s = a at j0 j1 b1 b2 c1 c2 d1 d2 e1 e2 f1 f2 q0
    have jm' : 4 * i + 5 ≤ 4 * m + 1 := by omega
    clear p1 p2 p3 hx0 hx1 hy0 hy1 jm
    have top : py - y = r → _ := fun h1 => leg_hit (px := px) (py := py) (x := x) (y := y) (s := s) (n := 4 * m + 1) (k := 4 * i + 2) (by omega) (by
      rw [c1, c2, d1, d2]
      exact (reach_line (by omega) (by omega) (by omega) (ab_le (by omega) (by omega))).1)
    have left : x - px = r → _ := fun h1 => leg_hit (px := px) (py := py) (x := x) (y := y) (s := s) (n := 4 * m + 1) (k := 4 * i + 3) (by omega) (by
      rw [d1, d2, e1, e2]
      exact (reach_line (by omega) (by omega) (by omega) (ab_le (by omega) (by omega))).2)
    have bot : py - y < -a → _ := fun h1 => leg_hit (px := px) (py := py) (x := x) (y := y) (s := s) (n := 4 * m + 1) (k := 4 * i + 4) (by omega) (by
      rw [e1, e2, f1, f2]
      exact (reach_line (by omega) (by omega) (by omega) (ab_le (by omega) (by omega))).1)
    have right : -a ≤ py - y → px - x = r → _ := fun h0 h1 => leg_hit (px := px) (py := py) (x := x) (y := y) (s := s) (n := 4 * m + 1) (k := 4 * i + 1) (by omega) (by
      rw [b1, b2, c1, c2]
      exact (reach_line (by omega) (by omega) (by omega) (ab_le (by omega) (by omega))).2)
    rcases r4 with h1 | h1 | h1 | h1
    · exact top h1
    · exact left h1
    · rcases Int.lt_or_le (py - y) (-a) with h2 | h2
      · exact bot h2
      · exact right h2 h1
    · exact bot (by omega)
end Go.Proofs.YtkhffloahpdbdaaDoor.Tk
end
