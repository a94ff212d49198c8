/- Layer 8 (tracks): what all share. Layer 8 (tracks): what the document says, as plain functions; the table of names. Layer 8 (tracks): which tracks are valid. Layer 8 (tracks): whether a spot is near a track. Layer 8 (tracks): parallel tracks: the mathematics. Layer 8 (tracks): lengths: the code's root. Layer 8 (tracks): the length of a track, by the code. -/
import Derived.Test.YthihccmombcihaaProg
import Derived.Test.YthihccmombcihaaPa9
section
namespace Go.Proofs.Ythihccmombcihaa.Tk
open Go Go.Proofs.Ythihccmombcihaa.Sx Go.RowKit
variable {TT : Tb}
abbrev DD : Dec := decideN (decideL2 decideB)
theorem dd_ok : DecOk TT DD := decideN_ok (decideL2_ok decB_ok)
def K : LK := .sc (.i .i64)
def btw (lo : Int) (k : Nat) (hi : Int) : List E := [.le (.c lo) (.v k), .le (.v k) (.c hi)]
def els (l : List Nat) : E := (l.map E.v).foldr .cons .nil
end Go.Proofs.Ythihccmombcihaa.Tk
end
section
namespace Go.Proofs.Ythihccmombcihaa.Tk
open Go Go.Proofs.Ythihccmombcihaa.Sx Go.RowKit

def sX (l : LL) (k : Int) : Int := nI l (k * 2)
def sY (l : LL) (k : Int) : Int := nI l (k * 2 + 1)
theorem sX_f (l : LL) (k : Int) : nI l (k * 2) = sX l k := rfl
theorem sY_f (l : LL) (k : Int) : nI l (k * 2 + 1) = sY l k := rfl
def spotB (x y : Int) : Bool := decide (-16777216 ≤ x ∧ x ≤ 16777216) && decide (-16777216 ≤ y ∧ y ≤ 16777216)
def spB (l : LL) (k : Int) : Bool := spotB (sX l k) (sY l k)
/-- a leg that ends at a spot: straight or diagonal. -/
def wayB (u v : Int) : Bool := decide ((u = 0 ∧ v ≠ 0) ∨ (u ≠ 0 ∧ v = 0) ∨ (u ≠ 0 ∧ (u = v ∨ u = -v)))
def legB (l : LL) (k : Int) : Bool := decide (k = 0) || wayB (sX l k - sX l (k - 1)) (sY l k - sY l (k - 1))
def trackB (n : Int) (l : LL) : Bool := decide (2 ≤ n ∧ n ≤ 1024) && allTo n (spB l) && allTo n (legB l)
def sg (x : Int) : Int := if x < 0 then -1 else if 0 < x then 1 else 0
/-- is a spot not farther from a leg than a width? -/
def reachB (ax ay bx by' x y w : Int) : Bool :=
  let p := sg (bx - ax); let q := sg (by' - ay)
  if (x - ax) * p + (y - ay) * q < 0 then decide ((x - ax) * (x - ax) + (y - ay) * (y - ay) ≤ w * w)
  else if (bx - x) * p + (by' - y) * q < 0 then decide ((bx - x) * (bx - x) + (by' - y) * (by' - y) ≤ w * w)
  else decide (((x - ax) * q - (y - ay) * p) * ((x - ax) * q - (y - ay) * p) ≤ w * w * (p * p + q * q))
def farB (x y w : Int) (l : LL) (k : Int) : Bool := decide (k = 0) || !reachB (sX l (k - 1)) (sY l (k - 1)) (sX l k) (sY l k) x y w
def nearB (x y w n : Int) (l : LL) : Bool := !allTo n (farB x y w l)
/-! lengths -/
def ab (x : Int) : Int := if x < 0 then -x else x
def strW (l : LL) (k : Int) : Int := if k = 0 then 0 else if ab (sX l k - sX l (k - 1)) = ab (sY l k - sY l (k - 1)) then 0 else ab (sX l k - sX l (k - 1)) + ab (sY l k - sY l (k - 1))
def diaW (l : LL) (k : Int) : Int := if k = 0 then 0 else if ab (sX l k - sX l (k - 1)) = ab (sY l k - sY l (k - 1)) then ab (sX l k - sX l (k - 1)) else 0
def sumTo (f : Int → Int) : Nat → Int
  | 0 => 0
  | k + 1 => sumTo f k + f k
def strF (n : Int) (l : LL) : Int := sumTo (strW l) n.toNat
def diaF (n : Int) (l : LL) : Int := sumTo (diaW l) n.toNat
/-- the greatest number below so many whose square is at most twice the square of another one. -/
def rootN (d : Int) : Nat → Int
  | 0 => 0
  | k + 1 => if ((k + 1 : Nat) : Int) * ((k + 1 : Nat) : Int) ≤ 2 * (d * d) then ((k + 1 : Nat) : Int) else rootN d k
def root2 (d : Int) : Int := rootN d (2 * d).toNat
theorem sq_nn (d : Int) : 0 ≤ d * d := by
  rcases Int.le_total 0 d with h | h
  · exact Int.mul_nonneg h h
  · exact Int.mul_nonneg_of_nonpos_of_nonpos h h
theorem rootN_spec {d : Int} : ∀ k : Nat, 0 ≤ rootN d k ∧ rootN d k ≤ k ∧ rootN d k * rootN d k ≤ 2 * (d * d) ∧ ∀ m : Int, rootN d k < m → m ≤ k → 2 * (d * d) < m * m
  | 0 => ⟨Int.le_refl _, Int.le_refl _, by simp only [rootN]; have := sq_nn d; omega, fun m h1 h2 => by simp only [rootN] at h1; simp at h2; omega⟩
  | k + 1 => by
    unfold rootN
    split
    · rename_i h
      exact ⟨by omega, Int.le_refl _, h, fun m h1 h2 => by omega⟩
    · rename_i h
      obtain ⟨h0, h1, h2, h3⟩ := rootN_spec (d := d) k
      refine ⟨h0, by omega, h2, fun m k1 k2 => ?_⟩
      rcases Int.lt_or_le m ((k + 1 : Nat) : Int) with hh | hh
      · exact h3 m k1 (by omega)
      · obtain rfl : m = ((k + 1 : Nat) : Int) := by omega
        omega
theorem sq_lt {a b : Int} (ha : 0 ≤ a) (h : a < b) : a * a < b * b := by
  have h1 : a * a ≤ a * b := Int.mul_le_mul_of_nonneg_left (by omega) ha
  have h2 : a * b < b * b := Int.mul_lt_mul_of_pos_right h (by omega)
  omega
theorem sq_le {a b : Int} (ha : 0 ≤ a) (h : a ≤ b) : a * a ≤ b * b := Int.mul_le_mul h h ha (by omega)
theorem root2_spec {d : Int} (hd : 0 ≤ d) : 0 ≤ root2 d ∧ root2 d ≤ 2 * d ∧ root2 d * root2 d ≤ 2 * (d * d) ∧ 2 * (d * d) < (root2 d + 1) * (root2 d + 1) := by
  obtain ⟨h0, h1, h2, h3⟩ := rootN_spec (d := d) (2 * d).toNat
  unfold root2
  refine ⟨h0, by omega, h2, ?_⟩
  rcases Int.lt_or_le (rootN d (2 * d).toNat) (2 * d) with hh | hh
  · exact h3 _ (by omega) (by omega)
  · have e : rootN d (2 * d).toNat = 2 * d := by omega
    rw [e]
    have h4 := sq_lt (a := 2 * d) (b := 2 * d + 1) (by omega) (by omega)
    have h5 : (2 * d) * (2 * d) = 4 * (d * d) := by grind
    have h6 := sq_nn d
    omega
theorem root2_is {d r : Int} (hd : 0 ≤ d) (h0 : 0 ≤ r) (h1 : r * r ≤ 2 * (d * d)) (h2 : 2 * (d * d) < (r + 1) * (r + 1)) : r = root2 d := by
  obtain ⟨k0, -, k1, k2⟩ := root2_spec hd
  rcases Int.lt_trichotomy r (root2 d) with h | h | h
  · have := sq_le (a := r + 1) (b := root2 d) (by omega) (by omega); omega
  · exact h
  · have := sq_le (a := root2 d + 1) (b := r) (by omega) (by omega); omega
def lowF (n : Int) (l : LL) : Int := if trackB n l = true then strF n l + root2 (diaF n l) else 0
def highF (n : Int) (l : LL) : Int := if trackB n l = true then (if 0 < diaF n l then strF n l + root2 (diaF n l) + 1 else strF n l + root2 (diaF n l)) else 0
def errT (n : Int) (l : LL) : Int := if trackB n l = true then 0 else 2
def parY (ly hy sp : Int) (k : Nat) : Int := min (ly + sp.tdiv 2 + k * sp) hy
def parX (lx hx : Int) (k : Nat) : Int := if k % 2 = 0 then lx else hx
def pt (al : Bool) (x y : Int) : LL := if al then [(y, ⟨#[]⟩), (x, ⟨#[]⟩)] else [(x, ⟨#[]⟩), (y, ⟨#[]⟩)]
/-- the spots of the first lines. -/
def parL (al : Bool) (lx ly hx hy sp : Int) : Nat → LL
  | 0 => []
  | k + 1 => parL al lx ly hx hy sp k ++ (pt al (parX lx hx k) (parY ly hy sp k) ++ pt al (parX lx hx (k + 1)) (parY ly hy sp k))
/-- how far lines are laid: how many, where the next one begins and ends, the spots (a box as it is given). -/
def parI (al k fr to' x0 y0 x1 y1 sp : Int) (l : LL) : Bool :=
  if al = 1 then decide (l = parL true y0 x0 y1 x1 sp k.toNat ∧ fr = parX y0 y1 k.toNat ∧ to' = parX y0 y1 (k.toNat + 1))
  else decide (l = parL false x0 y0 x1 y1 sp k.toNat ∧ fr = parX x0 x1 k.toNat ∧ to' = parX x0 x1 (k.toNat + 1))
def pow2B (s : Int) : Bool := decide (s = 0) || (List.range 38).any fun k => decide (s = 2 ^ k)
def stepB (s low d : Int) : Bool := pow2B s && decide (low * low ≤ 2 * (d * d)) && decide (2 * (d * d) < (low + max (2 * s) 1) * (low + max (2 * s) 1))
def gF : Nat → LL → Int
  | 1, l => lowF (nI l 0) (l.drop 1)
  | 2, l => highF (nI l 0) (l.drop 1)
  | 3, l => errT (nI l 0) (l.drop 1)
  | 4, l => root2 (nI l 0)
  | 5, l => strF (nI l 0) (l.drop 1)
  | 6, l => diaF (nI l 0) (l.drop 1)
  | _, _ => 0
def hF : Nat → LL → Bool
  | 1, l => allTo (nI l 0) (spB (l.drop 1))
  | 2, l => allTo (nI l 0) (legB (l.drop 1))
  | 3, l => trackB (nI l 0) (l.drop 1)
  | 4, l => allTo (nI l 0) (farB (nI l 1) (nI l 2) (nI l 3) (l.drop 4))
  | 5, l => reachB (nI l 0) (nI l 1) (nI l 2) (nI l 3) (nI l 4) (nI l 5) (nI l 6)
  | 6, l => parI (nI l 0) (nI l 1) (nI l 2) (nI l 3) (nI l 4) (nI l 5) (nI l 6) (nI l 7) (nI l 8) (l.drop 9)
  | 7, l => stepB (nI l 0) (nI l 1) (nI l 2)
  | _, _ => false
def UTab (g : Nat → LL → Int) (h : Nat → LL → Bool) (_k : Nat → LL → ByteArray) (_m : Nat → LL → LL) : Prop := g = gF ∧ h = hF
structure Fit (TT : Tb) : Prop where
  tab : ∀ {g h k m}, TT.tab g h k m → UTab g h k m
  J : ∀ w, TT.J w
def UT : Tb := { tab := UTab }
theorem Fit.open {TT : Tb} (u : Fit TT) : Fit TT.open := ⟨u.tab, u.J⟩
theorem fit_UT : Fit UT := ⟨fun h => h, fun _ => trivial⟩
theorem fit_open : Fit UT.open := fit_UT.open
/-! terms -/
def rowK : AK := .one (.row [.i .i64, .i .i64])
def spotK : AK := .ag [K, K]
def nF (k : Nat) : List E := [.le (.c 0) (.v k), .le (.v k) (.c 9223372036854775807)]
def hE (h : Nat) (e : E) (k : Nat) : E := .happ h (.cons e (.lv k))
def gE (g : Nat) (k : Nat) : E := .app g (.cons (.v k) (.lv k))
def xE (k : Nat) (i : E) : E := .nthI (.lv k) (.mul i (.c 2))
def yE (k : Nat) (i : E) : E := .nthI (.lv k) (.add (.mul i (.c 2)) (.c 1))
def trackE (k : Nat) : E := hE 3 (.v k) k
def rngE (k : Nat) : E := .allr (-16777216) 16777216 (.lv k)
def trackFs (k : Nat) : List E := [trackE k, .le (.c 2) (.v k), .le (.v k) (.c 1024), rngE k]
def trackCs : List (V × List E) := [(.b .tt, trackFs 0), (.b .ff, [.not (trackE 0)])]
def spotFs (k : Nat) : List E := btw (-16777216) k 16777216 ++ btw (-16777216) (k + 1) 16777216
def spotL : LoopSpec := { key := 2, locs := [.t 8 (.i .i64)], facts := fun n => [.le (.c 0) (.v n), .le (.v n) (.v 0), .le (.v n) (.c 1024), hE 1 (.v n) 0], meas := fun n => .sub (.v 0) (.v n) }
def legL : LoopSpec := { key := 1, locs := [.t 3 (.i .i64)], facts := fun n => [.le (.c 1) (.v n), .le (.v n) (.v 0), .le (.v n) (.c 1024), hE 2 (.v n) 0], meas := fun n => .sub (.v 0) (.v n) }
def trackRL : LoopSpec := { key := 4, locs := [.t 3 (.i .i64)], facts := fun n => [.le (.c 0) (.v n), .le (.v n) (.v 0), .le (.v n) (.c 1024), hE 1 (.v n) 0, hE 2 (.v n) 0], meas := fun n => .sub (.v 0) (.v n) }
section
variable {ρ : Env}
theorem h_1 (hh : ρ.h = hF) (n l : E) : (E.happ 1 (.cons n l)).B ρ = allTo (n.I ρ) (spB (l.L ρ)) := by rw [B_happ, hh]; rfl
theorem h_2 (hh : ρ.h = hF) (n l : E) : (E.happ 2 (.cons n l)).B ρ = allTo (n.I ρ) (legB (l.L ρ)) := by rw [B_happ, hh]; rfl
theorem h_3 (hh : ρ.h = hF) (n l : E) : (E.happ 3 (.cons n l)).B ρ = trackB (n.I ρ) (l.L ρ) := by rw [B_happ, hh]; rfl
theorem h_4 (hh : ρ.h = hF) (n x y w l : E) : (E.happ 4 (.cons n (.cons x (.cons y (.cons w l))))).B ρ = allTo (n.I ρ) (farB (x.I ρ) (y.I ρ) (w.I ρ) (l.L ρ)) := by rw [B_happ, hh]; rfl
theorem h_5 (hh : ρ.h = hF) (a b c d x y w : E) : (E.happ 5 (.cons a (.cons b (.cons c (.cons d (.cons x (.cons y (.cons w .nil)))))))).B ρ = reachB (a.I ρ) (b.I ρ) (c.I ρ) (d.I ρ) (x.I ρ) (y.I ρ) (w.I ρ) := by rw [B_happ, hh]; rfl
theorem h_6 (hh : ρ.h = hF) (al k fr to' x0 y0 x1 y1 sp l : E) : (E.happ 6 (.cons al (.cons k (.cons fr (.cons to' (.cons x0 (.cons y0 (.cons x1 (.cons y1 (.cons sp l)))))))))).B ρ = parI (al.I ρ) (k.I ρ) (fr.I ρ) (to'.I ρ) (x0.I ρ) (y0.I ρ) (x1.I ρ) (y1.I ρ) (sp.I ρ) (l.L ρ) := by rw [B_happ, hh]; rfl
theorem h_7 (hh : ρ.h = hF) (s low d : E) : (E.happ 7 (.cons s (.cons low (.cons d .nil)))).B ρ = stepB (s.I ρ) (low.I ρ) (d.I ρ) := by rw [B_happ, hh]; rfl
theorem g_1 (hg : ρ.g = gF) (n l : E) : (E.app 1 (.cons n l)).I ρ = lowF (n.I ρ) (l.L ρ) := by rw [I_app, hg]; rfl
theorem g_2 (hg : ρ.g = gF) (n l : E) : (E.app 2 (.cons n l)).I ρ = highF (n.I ρ) (l.L ρ) := by rw [I_app, hg]; rfl
theorem g_3 (hg : ρ.g = gF) (n l : E) : (E.app 3 (.cons n l)).I ρ = errT (n.I ρ) (l.L ρ) := by rw [I_app, hg]; rfl
theorem g_4 (hg : ρ.g = gF) (n l : E) : (E.app 4 (.cons n l)).I ρ = root2 (n.I ρ) := by rw [I_app, hg]; rfl
theorem g_5 (hg : ρ.g = gF) (n l : E) : (E.app 5 (.cons n l)).I ρ = strF (n.I ρ) (l.L ρ) := by rw [I_app, hg]; rfl
theorem g_6 (hg : ρ.g = gF) (n l : E) : (E.app 6 (.cons n l)).I ρ = diaF (n.I ρ) (l.L ρ) := by rw [I_app, hg]; rfl
end
/-! what a track's elements are -/
theorem track_iff {n : Int} {l : LL} : trackB n l = true ↔ (2 ≤ n ∧ n ≤ 1024) ∧ allTo n (spB l) = true ∧ allTo n (legB l) = true := by simp [trackB, and_assoc]
theorem spB_iff {l : LL} {k : Int} : spB l k = true ↔ (-16777216 ≤ sX l k ∧ sX l k ≤ 16777216) ∧ (-16777216 ≤ sY l k ∧ sY l k ≤ 16777216) := by simp [spB, spotB]
theorem wayB_iff {u v : Int} : wayB u v = true ↔ ((u = 0 ∧ v ≠ 0) ∨ (u ≠ 0 ∧ v = 0) ∨ (u ≠ 0 ∧ (u = v ∨ u = -v))) := by simp [wayB]
theorem legB_iff {l : LL} {k : Int} (hk : k ≠ 0) : legB l k = wayB (sX l k - sX l (k - 1)) (sY l k - sY l (k - 1)) := by simp [legB, hk]
theorem rng_of {l : LL} {n : Int} (_hn : 0 ≤ n) (hl : l.length = n.toNat * 2) (h : allTo n (spB l) = true) : (l.all fun p => decide (-16777216 ≤ p.1 ∧ p.1 ≤ 16777216)) = true := by
  rw [List.all_eq_true]
  intro p hp
  obtain ⟨i, hi, rfl⟩ := List.getElem_of_mem hp
  have h1 := spB_iff.1 (allTo_at h (k := ((i / 2 : Nat) : Int)) (Int.natCast_nonneg _) (by omega))
  have e : nI l (i : Int) = l[i].1 := by unfold nI; rw [show (i : Int).toNat = i by omega, List.getElem?_eq_getElem hi]; rfl
  simp only [decide_eq_true_eq]
  rcases Nat.mod_two_eq_zero_or_one i with h2 | h2
  · have e2 : sX l ((i / 2 : Nat) : Int) = l[i].1 := by rw [← e]; unfold sX; congr 1; omega
    omega
  · have e2 : sY l ((i / 2 : Nat) : Int) = l[i].1 := by rw [← e]; unfold sY; congr 1; omega
    omega
end Go.Proofs.Ythihccmombcihaa.Tk
end
section
namespace Go.Proofs.Ythihccmombcihaa.Tk
open Go Go.Proofs.Ythihccmombcihaa.Sx Go.RowKit
variable {TT : Tb}
theorem row_n {ρ : Env} {w : World} {aks : List AK} (hR : RowsAt ρ w aks) {k : Nat} {kds : List Kd} (hk : (k, rowL k kds) ∈ rowsL 0 (ksOf aks)) : 0 ≤ ρ.i k ∧ ρ.i k ≤ 9223372036854775807 := by
  have := (hR _ hk).2 0
  unfold Row.at at this
  obtain ⟨h0, h1, h2⟩ := this
  have h3 : maxLen = 9223372036854775807 := rfl
  refine ⟨h0, ?_⟩
  rw [if_neg (by simp [rowL])] at h2
  rcases h2.2 with ⟨-, e⟩ | ⟨a, cap, -, -, -, hc, -⟩
  · have : ρ.i k = 0 := e
    omega
  · have : (ρ.i k).toNat ≤ cap := hc.1
    omega

theorem nF_of {ρ : Env} {w : World} {aks : List AK} (hR : RowsAt ρ w aks) {k : Nat} {kds : List Kd} (hk : (k, rowL k kds) ∈ rowsL 0 (ksOf aks)) : holds ρ (nF k) := by
  simp only [holds, nF, List.mem_cons, List.not_mem_nil, or_false, forall_eq_or_imp, forall_eq, B_le, I_c, I_v, decide_eq_true_eq]; exact row_n hR hk
def P2 : List Kd := [.i .i64, .i .i64]
theorem row_in (l : List AK) : (0, rowL 0 P2) ∈ rowsL 0 (ksOf (rowK :: l)) := by simp [ksOf, rowK, AK.ks, rowsL, P2]
theorem hE_1 {ρ : Env} (hh : ρ.h = Tk.hF) (e : E) (k : Nat) : (hE 1 e k).B ρ = allTo (e.I ρ) (spB (ρ.l k)) := h_1 hh _ _
theorem hE_3 {ρ : Env} (hh : ρ.h = Tk.hF) (e : E) (k : Nat) : (hE 3 e k).B ρ = trackB (e.I ρ) (ρ.l k) := h_3 hh _ _
theorem rng_E {ρ : Env} {w : World} {l : List AK} (hR : RowsAt ρ w (rowK :: l)) (h : allTo (ρ.i 0) (spB (ρ.l 0)) = true) : (rngE 0).B ρ = true := by
  obtain ⟨h0, h1⟩ := row_facts hR (row_in l)
  simp only [rngE, B_allr, L_lv]
  exact rng_of h0 (by simpa [P2] using h1) h
def cAlive := ctrVal 6 [] [] (.b .tt) []
theorem alive_ok (u : Fit TT) : CtrOk TT Try.prog cAlive := auto_val (Γ := {}) (by simp) 2000 rfl (by kernel_rfl) u.J
/-! ### Spots -/
def spotsFs : List E := [hE 1 (.v 0) 0, rngE 0]
def spotsCs : List (V × List E) := [(.b .tt, spotsFs), (.b .ff, [.not (hE 1 (.v 0) 0)])]
def nF1 : List E := [.le (.c 0) (.v 0), .le (.v 0) (.c 1024)]
def cSpots := ctrCases 36 [rowK] nF1 spotsCs
theorem spots_yes {ρ : Env} (hh : ρ.h = Tk.hF) {w w' : World} {l : List AK} (hR : RowsAt ρ w (rowK :: l)) (h : allTo (ρ.i 0) (spB (ρ.l 0)) = true) (hb : Below w.heap.size w w') : (∃ c ∈ spotsCs, Ending.returned (.bool true) = .returned (c.1.den ρ) ∧ ∀ a ∈ c.2, a.B ρ = true) ∧ Below w.heap.size w w' := by
  refine ⟨⟨_, List.mem_cons_self, rfl, ?_⟩, hb⟩
  simp only [spotsFs, List.mem_cons, List.not_mem_nil, or_false, forall_eq_or_imp, forall_eq]
  exact ⟨by rw [hE_1 hh]; exact h, rng_E hR h⟩
theorem spots_no {ρ : Env} (hh : ρ.h = Tk.hF) {w w' : World} {k : Int} (h0 : 0 ≤ k) (hk : k < ρ.i 0) (h : ¬ spB (ρ.l 0) k = true) (hb : Below w.heap.size w w') : (∃ c ∈ spotsCs, Ending.returned (.bool false) = .returned (c.1.den ρ) ∧ ∀ a ∈ c.2, a.B ρ = true) ∧ Below w.heap.size w w' := by
  refine ⟨⟨_, List.mem_cons_of_mem _ List.mem_cons_self, rfl, ?_⟩, hb⟩
  simp only [List.mem_cons, List.not_mem_nil, or_false, forall_eq, B_not, hE_1 hh, I_v, Bool.not_eq_true']
  exact allTo_not h0 hk (by simpa using h)
theorem areSpots_ok (u : Fit TT) : CtrOk TT Try.prog cSpots := ctrCases_ok rfl fun ρ w hF hT hR => by
  have hh := (u.tab hT).2
  have hR0 := hR
  refine cases_rest dd_ok (Γ := { loops := [spotL] }) (by simp) 400 [rowK] nF1 spotsCs (by decide)
    [⟨(.must (.happ 1 (.cons (.c 0) (.lv 0)))), [(.le (.c 0) (.v 0)), (.le (.v 0) (.c 1024))], []⟩,
⟨(.val (.b .ff)), [(.lt (.c 16777216) (.nthI (.lv 0) (.add (.mul (.v 1) (.c 2)) (.c 1)))), (.le (.c (-16777216)) (.nthI (.lv 0) (.add (.mul (.v 1) (.c 2)) (.c 1)))), (.le (.nthI (.lv 0) (.mul (.v 1) (.c 2))) (.c 16777216)), (.le (.c (-16777216)) (.nthI (.lv 0) (.mul (.v 1) (.c 2)))), (.lt (.v 1) (.v 0)), (.le (.c 0) (.v 1)), (.le (.v 1) (.v 0)), (.le (.v 1) (.c 1024)), (.happ 1 (.cons (.v 1) (.lv 0))), (.le (.c 0) (.v 0)), (.le (.v 0) (.c 1024))], []⟩,
⟨(.must (.happ 1 (.cons (.add (.v 1) (.c 1)) (.lv 0)))), [(.le (.nthI (.lv 0) (.add (.mul (.v 1) (.c 2)) (.c 1))) (.c 16777216)), (.le (.c (-16777216)) (.nthI (.lv 0) (.add (.mul (.v 1) (.c 2)) (.c 1)))), (.le (.nthI (.lv 0) (.mul (.v 1) (.c 2))) (.c 16777216)), (.le (.c (-16777216)) (.nthI (.lv 0) (.mul (.v 1) (.c 2)))), (.lt (.v 1) (.v 0)), (.le (.c 0) (.v 1)), (.le (.v 1) (.v 0)), (.le (.v 1) (.c 1024)), (.happ 1 (.cons (.v 1) (.lv 0))), (.le (.c 0) (.v 0)), (.le (.v 0) (.c 1024))], []⟩,
⟨(.val (.b .ff)), [(.lt (.nthI (.lv 0) (.add (.mul (.v 1) (.c 2)) (.c 1))) (.c (-16777216))), (.le (.nthI (.lv 0) (.mul (.v 1) (.c 2))) (.c 16777216)), (.le (.c (-16777216)) (.nthI (.lv 0) (.mul (.v 1) (.c 2)))), (.lt (.v 1) (.v 0)), (.le (.c 0) (.v 1)), (.le (.v 1) (.v 0)), (.le (.v 1) (.c 1024)), (.happ 1 (.cons (.v 1) (.lv 0))), (.le (.c 0) (.v 0)), (.le (.v 0) (.c 1024))], []⟩,
⟨(.val (.b .ff)), [(.lt (.c 16777216) (.nthI (.lv 0) (.mul (.v 1) (.c 2)))), (.le (.c (-16777216)) (.nthI (.lv 0) (.mul (.v 1) (.c 2)))), (.lt (.v 1) (.v 0)), (.le (.c 0) (.v 1)), (.le (.v 1) (.v 0)), (.le (.v 1) (.c 1024)), (.happ 1 (.cons (.v 1) (.lv 0))), (.le (.c 0) (.v 0)), (.le (.v 0) (.c 1024))], []⟩,
⟨(.val (.b .ff)), [(.lt (.nthI (.lv 0) (.mul (.v 1) (.c 2))) (.c (-16777216))), (.lt (.v 1) (.v 0)), (.le (.c 0) (.v 1)), (.le (.v 1) (.v 0)), (.le (.v 1) (.c 1024)), (.happ 1 (.cons (.v 1) (.lv 0))), (.le (.c 0) (.v 0)), (.le (.v 0) (.c 1024))], []⟩,
⟨(.val (.b .tt)), [(.le (.v 0) (.v 1)), (.le (.c 0) (.v 1)), (.le (.v 1) (.v 0)), (.le (.v 1) (.c 1024)), (.happ 1 (.cons (.v 1) (.lv 0))), (.le (.c 0) (.v 0)), (.le (.v 0) (.c 1024))], []⟩] (by kernel_rfl) ρ w hF hT hR ⟨?_, ?_, ?_, ?_, ?_, ?_, ?_⟩ (u.J w)
  all_goals
    intro ρ' w' hx _ hF hb _
    have e0 : ρ'.i 0 = ρ.i 0 := hx.i 0 (by decide)
    have l0 : ρ'.l 0 = ρ.l 0 := hx.l 0 (by decide)
    have hh' : ρ'.h = Tk.hF := by rw [hx.h]; exact hh
    clear hx hR
    simp only [holds, List.mem_cons, List.not_mem_nil, or_false, forall_eq_or_imp, forall_eq, B_le, B_lt, I_add, I_mul, I_c, I_v, I_nthI, L_lv, h_1 hh', e0, l0, nI_eq, sX_f, sY_f, decide_eq_true_eq, den_b, B_t, B_f] at hF ⊢
    first
      | exact allTo_zero _
      | (rw [allTo_succ (by omega), spB_iff.2 (by omega), Bool.and_true]; simp only [hF])
      | (refine spots_no hh (k := ρ'.i 1) (by omega) (by omega) (fun h => ?_) hb
         have := spB_iff.1 h
         omega)
      | (refine spots_yes hh hR0 ?_ hb
         have hP : allTo (ρ'.i 1) (spB (ρ.l 0)) = true := by simp only [hF]
         rwa [show ρ'.i 1 = ρ.i 0 by omega] at hP)
/-! ### Tracks -/
def cTrack := ctrCases 20 [rowK] [] trackCs
def cTrackR := ctrCases 24 [rowK] [] trackCs
theorem track_yes {ρ : Env} (hh : ρ.h = Tk.hF) {w w' : World} {l : List AK} (hR : RowsAt ρ w (rowK :: l)) (hn : 2 ≤ ρ.i 0 ∧ ρ.i 0 ≤ 1024) (h : allTo (ρ.i 0) (spB (ρ.l 0)) = true) (h2 : allTo (ρ.i 0) (legB (ρ.l 0)) = true) (hb : Below w.heap.size w w') : (∃ c ∈ trackCs, Ending.returned (.bool true) = .returned (c.1.den ρ) ∧ ∀ a ∈ c.2, a.B ρ = true) ∧ Below w.heap.size w w' := by
  refine ⟨⟨_, List.mem_cons_self, rfl, ?_⟩, hb⟩
  simp only [trackFs, List.mem_cons, List.not_mem_nil, or_false, forall_eq_or_imp, forall_eq, trackE, hE_3 hh, I_v, B_le, I_c, decide_eq_true_eq]
  exact ⟨track_iff.2 ⟨hn, h, h2⟩, hn.1, hn.2, rng_E hR h⟩
theorem track_no {ρ : Env} (hh : ρ.h = Tk.hF) {w w' : World} (h : ¬ trackB (ρ.i 0) (ρ.l 0) = true) (hb : Below w.heap.size w w') : (∃ c ∈ trackCs, Ending.returned (.bool false) = .returned (c.1.den ρ) ∧ ∀ a ∈ c.2, a.B ρ = true) ∧ Below w.heap.size w w' := by
  refine ⟨⟨_, List.mem_cons_of_mem _ List.mem_cons_self, rfl, ?_⟩, hb⟩
  simp only [List.mem_cons, List.not_mem_nil, or_false, forall_eq, B_not, trackE, hE_3 hh, I_v, Bool.not_eq_true']
  simpa using h
theorem not_spots {n k : Int} {l : LL} (h0 : 0 ≤ k) (hk : k < n) (h : ¬ spB l k = true) : ¬ trackB n l = true := fun ht => h (allTo_at (track_iff.1 ht).2.1 h0 hk)
theorem not_legs {n k : Int} {l : LL} (h0 : 0 ≤ k) (hk : k < n) (h : ¬ legB l k = true) : ¬ trackB n l = true := fun ht => h (allTo_at (track_iff.1 ht).2.2 h0 hk)
theorem mx_ab (x : Int) : (if x < 0 - x then 0 - x else x) = ab x := by unfold ab; split <;> split <;> omega
theorem mx_ab2 (x : Int) : (if -x < x then x else -x) = ab x := by unfold ab; split <;> split <;> omega
theorem ab_or (x : Int) : (x < 0 ∧ ab x = -x) ∨ (0 ≤ x ∧ ab x = x) := by unfold ab; split <;> omega
theorem leg_one (l : LL) : allTo 1 (legB l) = true := rfl
theorem isTrack_ok (u : Fit TT) : CtrOk TT Try.prog cTrack := ctrCases_ok rfl fun ρ w hF0 hT hR => by
  have hh := (u.tab hT).2
  have hF := nF_of hR (row_in [])
  have hR0 := hR
  refine cases_rest dd_ok (Γ := { calls := [cSpots], loops := [legL] }) (by simpa using areSpots_ok u.open) 400 [rowK] (nF 0) trackCs (by decide)
    [⟨(.val (.b .ff)), [(.lt (.c 1024) (.v 0)), (.le (.c 2) (.v 0)), (.le (.c 0) (.v 0)), (.le (.v 0) (.c 9223372036854775807))], []⟩,
⟨(.must (.happ 2 (.cons (.c 1) (.lv 0)))), [(.happ 1 (.cons (.v 0) (.lv 0))), (.allr (-16777216) 16777216 (.lv 0)), (.le (.v 0) (.c 1024)), (.le (.c 2) (.v 0)), (.le (.c 0) (.v 0)), (.le (.v 0) (.c 9223372036854775807))], []⟩,
⟨(.val (.b .ff)), [(.eq (.nthI (.lv 0) (.mul (.sub (.v 5) (.c 1)) (.c 2))) (.nthI (.lv 0) (.mul (.v 5) (.c 2)))), (.eq (.nthI (.lv 0) (.add (.mul (.sub (.v 5) (.c 1)) (.c 2)) (.c 1))) (.nthI (.lv 0) (.add (.mul (.v 5) (.c 2)) (.c 1)))), (.lt (.sub (.v 5) (.c 1)) (.v 0)), (.lt (.v 5) (.v 0)), (.le (.c 1) (.v 5)), (.le (.v 5) (.v 0)), (.le (.v 5) (.c 1024)), (.happ 2 (.cons (.v 5) (.lv 0))), (.happ 1 (.cons (.v 0) (.lv 0))), (.allr (-16777216) 16777216 (.lv 0)), (.le (.v 0) (.c 1024)), (.le (.c 2) (.v 0)), (.le (.c 0) (.v 0)), (.le (.v 0) (.c 9223372036854775807))], []⟩,
⟨(.val (.b .ff)), [(.not (.eq (.ite (.lt (.sub (.nthI (.lv 0) (.mul (.v 5) (.c 2))) (.nthI (.lv 0) (.mul (.sub (.v 5) (.c 1)) (.c 2)))) (.sub (.c 0) (.sub (.nthI (.lv 0) (.mul (.v 5) (.c 2))) (.nthI (.lv 0) (.mul (.sub (.v 5) (.c 1)) (.c 2)))))) (.sub (.c 0) (.sub (.nthI (.lv 0) (.mul (.v 5) (.c 2))) (.nthI (.lv 0) (.mul (.sub (.v 5) (.c 1)) (.c 2))))) (.sub (.nthI (.lv 0) (.mul (.v 5) (.c 2))) (.nthI (.lv 0) (.mul (.sub (.v 5) (.c 1)) (.c 2))))) (.ite (.lt (.sub (.nthI (.lv 0) (.add (.mul (.v 5) (.c 2)) (.c 1))) (.nthI (.lv 0) (.add (.mul (.sub (.v 5) (.c 1)) (.c 2)) (.c 1)))) (.sub (.c 0) (.sub (.nthI (.lv 0) (.add (.mul (.v 5) (.c 2)) (.c 1))) (.nthI (.lv 0) (.add (.mul (.sub (.v 5) (.c 1)) (.c 2)) (.c 1)))))) (.sub (.c 0) (.sub (.nthI (.lv 0) (.add (.mul (.v 5) (.c 2)) (.c 1))) (.nthI (.lv 0) (.add (.mul (.sub (.v 5) (.c 1)) (.c 2)) (.c 1))))) (.sub (.nthI (.lv 0) (.add (.mul (.v 5) (.c 2)) (.c 1))) (.nthI (.lv 0) (.add (.mul (.sub (.v 5) (.c 1)) (.c 2)) (.c 1))))))), (.not (.eq (.ite (.lt (.sub (.nthI (.lv 0) (.add (.mul (.v 5) (.c 2)) (.c 1))) (.nthI (.lv 0) (.add (.mul (.sub (.v 5) (.c 1)) (.c 2)) (.c 1)))) (.sub (.c 0) (.sub (.nthI (.lv 0) (.add (.mul (.v 5) (.c 2)) (.c 1))) (.nthI (.lv 0) (.add (.mul (.sub (.v 5) (.c 1)) (.c 2)) (.c 1)))))) (.sub (.c 0) (.sub (.nthI (.lv 0) (.add (.mul (.v 5) (.c 2)) (.c 1))) (.nthI (.lv 0) (.add (.mul (.sub (.v 5) (.c 1)) (.c 2)) (.c 1))))) (.sub (.nthI (.lv 0) (.add (.mul (.v 5) (.c 2)) (.c 1))) (.nthI (.lv 0) (.add (.mul (.sub (.v 5) (.c 1)) (.c 2)) (.c 1))))) (.c 0))), (.not (.eq (.ite (.lt (.sub (.nthI (.lv 0) (.mul (.v 5) (.c 2))) (.nthI (.lv 0) (.mul (.sub (.v 5) (.c 1)) (.c 2)))) (.sub (.c 0) (.sub (.nthI (.lv 0) (.mul (.v 5) (.c 2))) (.nthI (.lv 0) (.mul (.sub (.v 5) (.c 1)) (.c 2)))))) (.sub (.c 0) (.sub (.nthI (.lv 0) (.mul (.v 5) (.c 2))) (.nthI (.lv 0) (.mul (.sub (.v 5) (.c 1)) (.c 2))))) (.sub (.nthI (.lv 0) (.mul (.v 5) (.c 2))) (.nthI (.lv 0) (.mul (.sub (.v 5) (.c 1)) (.c 2))))) (.c 0))), (.not (.and (.eq (.nthI (.lv 0) (.mul (.sub (.v 5) (.c 1)) (.c 2))) (.nthI (.lv 0) (.mul (.v 5) (.c 2)))) (.eq (.nthI (.lv 0) (.add (.mul (.sub (.v 5) (.c 1)) (.c 2)) (.c 1))) (.nthI (.lv 0) (.add (.mul (.v 5) (.c 2)) (.c 1)))))), (.lt (.sub (.v 5) (.c 1)) (.v 0)), (.lt (.v 5) (.v 0)), (.le (.c 1) (.v 5)), (.le (.v 5) (.v 0)), (.le (.v 5) (.c 1024)), (.happ 2 (.cons (.v 5) (.lv 0))), (.happ 1 (.cons (.v 0) (.lv 0))), (.allr (-16777216) 16777216 (.lv 0)), (.le (.v 0) (.c 1024)), (.le (.c 2) (.v 0)), (.le (.c 0) (.v 0)), (.le (.v 0) (.c 9223372036854775807))], []⟩,
⟨(.must (.happ 2 (.cons (.add (.v 5) (.c 1)) (.lv 0)))), [(.eq (.ite (.lt (.sub (.nthI (.lv 0) (.mul (.v 5) (.c 2))) (.nthI (.lv 0) (.mul (.sub (.v 5) (.c 1)) (.c 2)))) (.sub (.c 0) (.sub (.nthI (.lv 0) (.mul (.v 5) (.c 2))) (.nthI (.lv 0) (.mul (.sub (.v 5) (.c 1)) (.c 2)))))) (.sub (.c 0) (.sub (.nthI (.lv 0) (.mul (.v 5) (.c 2))) (.nthI (.lv 0) (.mul (.sub (.v 5) (.c 1)) (.c 2))))) (.sub (.nthI (.lv 0) (.mul (.v 5) (.c 2))) (.nthI (.lv 0) (.mul (.sub (.v 5) (.c 1)) (.c 2))))) (.ite (.lt (.sub (.nthI (.lv 0) (.add (.mul (.v 5) (.c 2)) (.c 1))) (.nthI (.lv 0) (.add (.mul (.sub (.v 5) (.c 1)) (.c 2)) (.c 1)))) (.sub (.c 0) (.sub (.nthI (.lv 0) (.add (.mul (.v 5) (.c 2)) (.c 1))) (.nthI (.lv 0) (.add (.mul (.sub (.v 5) (.c 1)) (.c 2)) (.c 1)))))) (.sub (.c 0) (.sub (.nthI (.lv 0) (.add (.mul (.v 5) (.c 2)) (.c 1))) (.nthI (.lv 0) (.add (.mul (.sub (.v 5) (.c 1)) (.c 2)) (.c 1))))) (.sub (.nthI (.lv 0) (.add (.mul (.v 5) (.c 2)) (.c 1))) (.nthI (.lv 0) (.add (.mul (.sub (.v 5) (.c 1)) (.c 2)) (.c 1)))))), (.not (.eq (.ite (.lt (.sub (.nthI (.lv 0) (.add (.mul (.v 5) (.c 2)) (.c 1))) (.nthI (.lv 0) (.add (.mul (.sub (.v 5) (.c 1)) (.c 2)) (.c 1)))) (.sub (.c 0) (.sub (.nthI (.lv 0) (.add (.mul (.v 5) (.c 2)) (.c 1))) (.nthI (.lv 0) (.add (.mul (.sub (.v 5) (.c 1)) (.c 2)) (.c 1)))))) (.sub (.c 0) (.sub (.nthI (.lv 0) (.add (.mul (.v 5) (.c 2)) (.c 1))) (.nthI (.lv 0) (.add (.mul (.sub (.v 5) (.c 1)) (.c 2)) (.c 1))))) (.sub (.nthI (.lv 0) (.add (.mul (.v 5) (.c 2)) (.c 1))) (.nthI (.lv 0) (.add (.mul (.sub (.v 5) (.c 1)) (.c 2)) (.c 1))))) (.c 0))), (.not (.eq (.ite (.lt (.sub (.nthI (.lv 0) (.mul (.v 5) (.c 2))) (.nthI (.lv 0) (.mul (.sub (.v 5) (.c 1)) (.c 2)))) (.sub (.c 0) (.sub (.nthI (.lv 0) (.mul (.v 5) (.c 2))) (.nthI (.lv 0) (.mul (.sub (.v 5) (.c 1)) (.c 2)))))) (.sub (.c 0) (.sub (.nthI (.lv 0) (.mul (.v 5) (.c 2))) (.nthI (.lv 0) (.mul (.sub (.v 5) (.c 1)) (.c 2))))) (.sub (.nthI (.lv 0) (.mul (.v 5) (.c 2))) (.nthI (.lv 0) (.mul (.sub (.v 5) (.c 1)) (.c 2))))) (.c 0))), (.not (.and (.eq (.nthI (.lv 0) (.mul (.sub (.v 5) (.c 1)) (.c 2))) (.nthI (.lv 0) (.mul (.v 5) (.c 2)))) (.eq (.nthI (.lv 0) (.add (.mul (.sub (.v 5) (.c 1)) (.c 2)) (.c 1))) (.nthI (.lv 0) (.add (.mul (.v 5) (.c 2)) (.c 1)))))), (.lt (.sub (.v 5) (.c 1)) (.v 0)), (.lt (.v 5) (.v 0)), (.le (.c 1) (.v 5)), (.le (.v 5) (.v 0)), (.le (.v 5) (.c 1024)), (.happ 2 (.cons (.v 5) (.lv 0))), (.happ 1 (.cons (.v 0) (.lv 0))), (.allr (-16777216) 16777216 (.lv 0)), (.le (.v 0) (.c 1024)), (.le (.c 2) (.v 0)), (.le (.c 0) (.v 0)), (.le (.v 0) (.c 9223372036854775807))], []⟩,
⟨(.must (.happ 2 (.cons (.add (.v 5) (.c 1)) (.lv 0)))), [(.eq (.ite (.lt (.sub (.nthI (.lv 0) (.add (.mul (.v 5) (.c 2)) (.c 1))) (.nthI (.lv 0) (.add (.mul (.sub (.v 5) (.c 1)) (.c 2)) (.c 1)))) (.sub (.c 0) (.sub (.nthI (.lv 0) (.add (.mul (.v 5) (.c 2)) (.c 1))) (.nthI (.lv 0) (.add (.mul (.sub (.v 5) (.c 1)) (.c 2)) (.c 1)))))) (.sub (.c 0) (.sub (.nthI (.lv 0) (.add (.mul (.v 5) (.c 2)) (.c 1))) (.nthI (.lv 0) (.add (.mul (.sub (.v 5) (.c 1)) (.c 2)) (.c 1))))) (.sub (.nthI (.lv 0) (.add (.mul (.v 5) (.c 2)) (.c 1))) (.nthI (.lv 0) (.add (.mul (.sub (.v 5) (.c 1)) (.c 2)) (.c 1))))) (.c 0)), (.not (.eq (.ite (.lt (.sub (.nthI (.lv 0) (.mul (.v 5) (.c 2))) (.nthI (.lv 0) (.mul (.sub (.v 5) (.c 1)) (.c 2)))) (.sub (.c 0) (.sub (.nthI (.lv 0) (.mul (.v 5) (.c 2))) (.nthI (.lv 0) (.mul (.sub (.v 5) (.c 1)) (.c 2)))))) (.sub (.c 0) (.sub (.nthI (.lv 0) (.mul (.v 5) (.c 2))) (.nthI (.lv 0) (.mul (.sub (.v 5) (.c 1)) (.c 2))))) (.sub (.nthI (.lv 0) (.mul (.v 5) (.c 2))) (.nthI (.lv 0) (.mul (.sub (.v 5) (.c 1)) (.c 2))))) (.c 0))), (.not (.and (.eq (.nthI (.lv 0) (.mul (.sub (.v 5) (.c 1)) (.c 2))) (.nthI (.lv 0) (.mul (.v 5) (.c 2)))) (.eq (.nthI (.lv 0) (.add (.mul (.sub (.v 5) (.c 1)) (.c 2)) (.c 1))) (.nthI (.lv 0) (.add (.mul (.v 5) (.c 2)) (.c 1)))))), (.lt (.sub (.v 5) (.c 1)) (.v 0)), (.lt (.v 5) (.v 0)), (.le (.c 1) (.v 5)), (.le (.v 5) (.v 0)), (.le (.v 5) (.c 1024)), (.happ 2 (.cons (.v 5) (.lv 0))), (.happ 1 (.cons (.v 0) (.lv 0))), (.allr (-16777216) 16777216 (.lv 0)), (.le (.v 0) (.c 1024)), (.le (.c 2) (.v 0)), (.le (.c 0) (.v 0)), (.le (.v 0) (.c 9223372036854775807))], []⟩,
⟨(.must (.happ 2 (.cons (.add (.v 5) (.c 1)) (.lv 0)))), [(.eq (.ite (.lt (.sub (.nthI (.lv 0) (.mul (.v 5) (.c 2))) (.nthI (.lv 0) (.mul (.sub (.v 5) (.c 1)) (.c 2)))) (.sub (.c 0) (.sub (.nthI (.lv 0) (.mul (.v 5) (.c 2))) (.nthI (.lv 0) (.mul (.sub (.v 5) (.c 1)) (.c 2)))))) (.sub (.c 0) (.sub (.nthI (.lv 0) (.mul (.v 5) (.c 2))) (.nthI (.lv 0) (.mul (.sub (.v 5) (.c 1)) (.c 2))))) (.sub (.nthI (.lv 0) (.mul (.v 5) (.c 2))) (.nthI (.lv 0) (.mul (.sub (.v 5) (.c 1)) (.c 2))))) (.c 0)), (.not (.and (.eq (.nthI (.lv 0) (.mul (.sub (.v 5) (.c 1)) (.c 2))) (.nthI (.lv 0) (.mul (.v 5) (.c 2)))) (.eq (.nthI (.lv 0) (.add (.mul (.sub (.v 5) (.c 1)) (.c 2)) (.c 1))) (.nthI (.lv 0) (.add (.mul (.v 5) (.c 2)) (.c 1)))))), (.lt (.sub (.v 5) (.c 1)) (.v 0)), (.lt (.v 5) (.v 0)), (.le (.c 1) (.v 5)), (.le (.v 5) (.v 0)), (.le (.v 5) (.c 1024)), (.happ 2 (.cons (.v 5) (.lv 0))), (.happ 1 (.cons (.v 0) (.lv 0))), (.allr (-16777216) 16777216 (.lv 0)), (.le (.v 0) (.c 1024)), (.le (.c 2) (.v 0)), (.le (.c 0) (.v 0)), (.le (.v 0) (.c 9223372036854775807))], []⟩,
⟨(.val (.b .tt)), [(.le (.v 0) (.v 5)), (.le (.c 1) (.v 5)), (.le (.v 5) (.v 0)), (.le (.v 5) (.c 1024)), (.happ 2 (.cons (.v 5) (.lv 0))), (.happ 1 (.cons (.v 0) (.lv 0))), (.allr (-16777216) 16777216 (.lv 0)), (.le (.v 0) (.c 1024)), (.le (.c 2) (.v 0)), (.le (.c 0) (.v 0)), (.le (.v 0) (.c 9223372036854775807))], []⟩,
⟨(.val (.b .ff)), [(.not (.happ 1 (.cons (.v 0) (.lv 0)))), (.le (.v 0) (.c 1024)), (.le (.c 2) (.v 0)), (.le (.c 0) (.v 0)), (.le (.v 0) (.c 9223372036854775807))], []⟩,
⟨(.val (.b .ff)), [(.lt (.v 0) (.c 2)), (.le (.c 0) (.v 0)), (.le (.v 0) (.c 9223372036854775807))], []⟩] (by kernel_rfl) ρ w hF hT hR ⟨?_, ?_, ?_, ?_, ?_, ?_, ?_, ?_, ?_, ?_⟩ (u.J w)
  all_goals
    intro ρ' w' hx _ hF hb _
    have e0 : ρ'.i 0 = ρ.i 0 := hx.i 0 (by decide)
    have l0 : ρ'.l 0 = ρ.l 0 := hx.l 0 (by decide)
    have hh' : ρ'.h = Tk.hF := by rw [hx.h]; exact hh
    clear hx hR
    simp only [holds, List.mem_cons, List.not_mem_nil, or_false, forall_eq_or_imp, forall_eq, B_le, B_lt, B_eq, B_not, B_and, I_add, I_sub, I_mul, I_ite, I_c, I_v, I_nthI, L_lv, h_1 hh', h_2 hh', e0, l0, nI_eq, sX_f, sY_f, decide_eq_true_eq, Bool.not_eq_true', decide_eq_false_iff_not, Bool.and_eq_false_iff, den_b, B_t, B_f] at hF ⊢
    try simp only [mx_ab] at hF
    have a1 := ab_or (sX (ρ.l 0) (ρ'.i 5) - sX (ρ.l 0) (ρ'.i 5 - 1))
    have a2 := ab_or (sY (ρ.l 0) (ρ'.i 5) - sY (ρ.l 0) (ρ'.i 5 - 1))
    first
      | exact track_no hh (fun h => by have := (track_iff.1 h).1; omega) hb
      | exact leg_one _
      | (have hn : allTo (ρ.i 0) (spB (ρ.l 0)) = false := by simp only [hF]
         exact track_no hh (fun h => by have h2 := (track_iff.1 h).2.1; rw [hn] at h2; cases h2) hb)
      | (refine track_no hh (not_legs (k := ρ'.i 5) (by omega) (by omega) (fun h => ?_)) hb
         rw [legB_iff (by omega)] at h
         have := wayB_iff.1 h
         omega)
      | (rw [allTo_succ (by omega), legB_iff (by omega), wayB_iff.2 (by omega), Bool.and_true]; simp only [hF])
      | (have hP : allTo (ρ'.i 5) (legB (ρ.l 0)) = true := by simp only [hF]
         rw [show ρ'.i 5 = ρ.i 0 by omega] at hP
         exact track_yes hh hR0 (by omega) (by simp only [hF]) hP hb)
theorem track_ok (u : Fit TT) : CtrOk TT Try.prog cTrackR := ctrCases_ok rfl fun ρ w hF0 hT hR => by
  have hh := (u.tab hT).2
  have hF := nF_of hR (row_in [])
  have hR0 := hR
  refine cases_rest dd_ok (Γ := { loops := [trackRL] }) (by simp) 400 [rowK] (nF 0) trackCs (by decide)
    [⟨(.val (.b .ff)), [(.lt (.c 1024) (.v 0)), (.le (.c 2) (.v 0)), (.le (.c 0) (.v 0)), (.le (.v 0) (.c 9223372036854775807))], []⟩,
⟨(.must (.happ 1 (.cons (.c 0) (.lv 0)))), [(.le (.v 0) (.c 1024)), (.le (.c 2) (.v 0)), (.le (.c 0) (.v 0)), (.le (.v 0) (.c 9223372036854775807))], []⟩,
⟨(.must (.happ 2 (.cons (.c 0) (.lv 0)))), [(.le (.v 0) (.c 1024)), (.le (.c 2) (.v 0)), (.le (.c 0) (.v 0)), (.le (.v 0) (.c 9223372036854775807))], []⟩,
⟨(.val (.b .ff)), [(.lt (.c 16777216) (.nthI (.lv 0) (.add (.mul (.v 1) (.c 2)) (.c 1)))), (.le (.c (-16777216)) (.nthI (.lv 0) (.add (.mul (.v 1) (.c 2)) (.c 1)))), (.le (.nthI (.lv 0) (.mul (.v 1) (.c 2))) (.c 16777216)), (.le (.c (-16777216)) (.nthI (.lv 0) (.mul (.v 1) (.c 2)))), (.lt (.v 1) (.v 0)), (.le (.c 0) (.v 1)), (.le (.v 1) (.v 0)), (.le (.v 1) (.c 1024)), (.happ 1 (.cons (.v 1) (.lv 0))), (.happ 2 (.cons (.v 1) (.lv 0))), (.le (.v 0) (.c 1024)), (.le (.c 2) (.v 0)), (.le (.c 0) (.v 0)), (.le (.v 0) (.c 9223372036854775807))], []⟩,
⟨(.must (.happ 1 (.cons (.add (.v 1) (.c 1)) (.lv 0)))), [(.eq (.v 1) (.c 0)), (.le (.nthI (.lv 0) (.add (.mul (.v 1) (.c 2)) (.c 1))) (.c 16777216)), (.le (.c (-16777216)) (.nthI (.lv 0) (.add (.mul (.v 1) (.c 2)) (.c 1)))), (.le (.nthI (.lv 0) (.mul (.v 1) (.c 2))) (.c 16777216)), (.le (.c (-16777216)) (.nthI (.lv 0) (.mul (.v 1) (.c 2)))), (.lt (.v 1) (.v 0)), (.le (.c 0) (.v 1)), (.le (.v 1) (.v 0)), (.le (.v 1) (.c 1024)), (.happ 1 (.cons (.v 1) (.lv 0))), (.happ 2 (.cons (.v 1) (.lv 0))), (.le (.v 0) (.c 1024)), (.le (.c 2) (.v 0)), (.le (.c 0) (.v 0)), (.le (.v 0) (.c 9223372036854775807))], []⟩,
⟨(.must (.happ 2 (.cons (.add (.v 1) (.c 1)) (.lv 0)))), [(.eq (.v 1) (.c 0)), (.le (.nthI (.lv 0) (.add (.mul (.v 1) (.c 2)) (.c 1))) (.c 16777216)), (.le (.c (-16777216)) (.nthI (.lv 0) (.add (.mul (.v 1) (.c 2)) (.c 1)))), (.le (.nthI (.lv 0) (.mul (.v 1) (.c 2))) (.c 16777216)), (.le (.c (-16777216)) (.nthI (.lv 0) (.mul (.v 1) (.c 2)))), (.lt (.v 1) (.v 0)), (.le (.c 0) (.v 1)), (.le (.v 1) (.v 0)), (.le (.v 1) (.c 1024)), (.happ 1 (.cons (.v 1) (.lv 0))), (.happ 2 (.cons (.v 1) (.lv 0))), (.le (.v 0) (.c 1024)), (.le (.c 2) (.v 0)), (.le (.c 0) (.v 0)), (.le (.v 0) (.c 9223372036854775807))], []⟩,
⟨(.val (.b .ff)), [(.not (.eq (.ite (.lt (.wrap .i64 (.sub (.nthI (.lv 0) (.mul (.v 1) (.c 2))) (.nthI (.lv 0) (.mul (.sub (.v 1) (.c 1)) (.c 2))))) (.wrap .i64 (.sub (.c 0) (.wrap .i64 (.sub (.nthI (.lv 0) (.mul (.v 1) (.c 2))) (.nthI (.lv 0) (.mul (.sub (.v 1) (.c 1)) (.c 2)))))))) (.wrap .i64 (.sub (.c 0) (.wrap .i64 (.sub (.nthI (.lv 0) (.mul (.v 1) (.c 2))) (.nthI (.lv 0) (.mul (.sub (.v 1) (.c 1)) (.c 2))))))) (.wrap .i64 (.sub (.nthI (.lv 0) (.mul (.v 1) (.c 2))) (.nthI (.lv 0) (.mul (.sub (.v 1) (.c 1)) (.c 2)))))) (.ite (.lt (.wrap .i64 (.sub (.nthI (.lv 0) (.add (.mul (.v 1) (.c 2)) (.c 1))) (.nthI (.lv 0) (.add (.mul (.sub (.v 1) (.c 1)) (.c 2)) (.c 1))))) (.wrap .i64 (.sub (.c 0) (.wrap .i64 (.sub (.nthI (.lv 0) (.add (.mul (.v 1) (.c 2)) (.c 1))) (.nthI (.lv 0) (.add (.mul (.sub (.v 1) (.c 1)) (.c 2)) (.c 1)))))))) (.wrap .i64 (.sub (.c 0) (.wrap .i64 (.sub (.nthI (.lv 0) (.add (.mul (.v 1) (.c 2)) (.c 1))) (.nthI (.lv 0) (.add (.mul (.sub (.v 1) (.c 1)) (.c 2)) (.c 1))))))) (.wrap .i64 (.sub (.nthI (.lv 0) (.add (.mul (.v 1) (.c 2)) (.c 1))) (.nthI (.lv 0) (.add (.mul (.sub (.v 1) (.c 1)) (.c 2)) (.c 1)))))))), (.not (.eq (.wrap .i64 (.sub (.nthI (.lv 0) (.add (.mul (.v 1) (.c 2)) (.c 1))) (.nthI (.lv 0) (.add (.mul (.sub (.v 1) (.c 1)) (.c 2)) (.c 1))))) (.c 0))), (.not (.eq (.wrap .i64 (.sub (.nthI (.lv 0) (.mul (.v 1) (.c 2))) (.nthI (.lv 0) (.mul (.sub (.v 1) (.c 1)) (.c 2))))) (.c 0))), (.lt (.sub (.v 1) (.c 1)) (.v 0)), (.le (.c 0) (.sub (.v 1) (.c 1))), (.not (.eq (.v 1) (.c 0))), (.le (.nthI (.lv 0) (.add (.mul (.v 1) (.c 2)) (.c 1))) (.c 16777216)), (.le (.c (-16777216)) (.nthI (.lv 0) (.add (.mul (.v 1) (.c 2)) (.c 1)))), (.le (.nthI (.lv 0) (.mul (.v 1) (.c 2))) (.c 16777216)), (.le (.c (-16777216)) (.nthI (.lv 0) (.mul (.v 1) (.c 2)))), (.lt (.v 1) (.v 0)), (.le (.c 0) (.v 1)), (.le (.v 1) (.v 0)), (.le (.v 1) (.c 1024)), (.happ 1 (.cons (.v 1) (.lv 0))), (.happ 2 (.cons (.v 1) (.lv 0))), (.le (.v 0) (.c 1024)), (.le (.c 2) (.v 0)), (.le (.c 0) (.v 0)), (.le (.v 0) (.c 9223372036854775807))], []⟩,
⟨(.must (.happ 1 (.cons (.add (.v 1) (.c 1)) (.lv 0)))), [(.eq (.ite (.lt (.wrap .i64 (.sub (.nthI (.lv 0) (.mul (.v 1) (.c 2))) (.nthI (.lv 0) (.mul (.sub (.v 1) (.c 1)) (.c 2))))) (.wrap .i64 (.sub (.c 0) (.wrap .i64 (.sub (.nthI (.lv 0) (.mul (.v 1) (.c 2))) (.nthI (.lv 0) (.mul (.sub (.v 1) (.c 1)) (.c 2)))))))) (.wrap .i64 (.sub (.c 0) (.wrap .i64 (.sub (.nthI (.lv 0) (.mul (.v 1) (.c 2))) (.nthI (.lv 0) (.mul (.sub (.v 1) (.c 1)) (.c 2))))))) (.wrap .i64 (.sub (.nthI (.lv 0) (.mul (.v 1) (.c 2))) (.nthI (.lv 0) (.mul (.sub (.v 1) (.c 1)) (.c 2)))))) (.ite (.lt (.wrap .i64 (.sub (.nthI (.lv 0) (.add (.mul (.v 1) (.c 2)) (.c 1))) (.nthI (.lv 0) (.add (.mul (.sub (.v 1) (.c 1)) (.c 2)) (.c 1))))) (.wrap .i64 (.sub (.c 0) (.wrap .i64 (.sub (.nthI (.lv 0) (.add (.mul (.v 1) (.c 2)) (.c 1))) (.nthI (.lv 0) (.add (.mul (.sub (.v 1) (.c 1)) (.c 2)) (.c 1)))))))) (.wrap .i64 (.sub (.c 0) (.wrap .i64 (.sub (.nthI (.lv 0) (.add (.mul (.v 1) (.c 2)) (.c 1))) (.nthI (.lv 0) (.add (.mul (.sub (.v 1) (.c 1)) (.c 2)) (.c 1))))))) (.wrap .i64 (.sub (.nthI (.lv 0) (.add (.mul (.v 1) (.c 2)) (.c 1))) (.nthI (.lv 0) (.add (.mul (.sub (.v 1) (.c 1)) (.c 2)) (.c 1))))))), (.not (.eq (.wrap .i64 (.sub (.nthI (.lv 0) (.add (.mul (.v 1) (.c 2)) (.c 1))) (.nthI (.lv 0) (.add (.mul (.sub (.v 1) (.c 1)) (.c 2)) (.c 1))))) (.c 0))), (.not (.eq (.wrap .i64 (.sub (.nthI (.lv 0) (.mul (.v 1) (.c 2))) (.nthI (.lv 0) (.mul (.sub (.v 1) (.c 1)) (.c 2))))) (.c 0))), (.lt (.sub (.v 1) (.c 1)) (.v 0)), (.le (.c 0) (.sub (.v 1) (.c 1))), (.not (.eq (.v 1) (.c 0))), (.le (.nthI (.lv 0) (.add (.mul (.v 1) (.c 2)) (.c 1))) (.c 16777216)), (.le (.c (-16777216)) (.nthI (.lv 0) (.add (.mul (.v 1) (.c 2)) (.c 1)))), (.le (.nthI (.lv 0) (.mul (.v 1) (.c 2))) (.c 16777216)), (.le (.c (-16777216)) (.nthI (.lv 0) (.mul (.v 1) (.c 2)))), (.lt (.v 1) (.v 0)), (.le (.c 0) (.v 1)), (.le (.v 1) (.v 0)), (.le (.v 1) (.c 1024)), (.happ 1 (.cons (.v 1) (.lv 0))), (.happ 2 (.cons (.v 1) (.lv 0))), (.le (.v 0) (.c 1024)), (.le (.c 2) (.v 0)), (.le (.c 0) (.v 0)), (.le (.v 0) (.c 9223372036854775807))], []⟩,
⟨(.must (.happ 2 (.cons (.add (.v 1) (.c 1)) (.lv 0)))), [(.eq (.ite (.lt (.wrap .i64 (.sub (.nthI (.lv 0) (.mul (.v 1) (.c 2))) (.nthI (.lv 0) (.mul (.sub (.v 1) (.c 1)) (.c 2))))) (.wrap .i64 (.sub (.c 0) (.wrap .i64 (.sub (.nthI (.lv 0) (.mul (.v 1) (.c 2))) (.nthI (.lv 0) (.mul (.sub (.v 1) (.c 1)) (.c 2)))))))) (.wrap .i64 (.sub (.c 0) (.wrap .i64 (.sub (.nthI (.lv 0) (.mul (.v 1) (.c 2))) (.nthI (.lv 0) (.mul (.sub (.v 1) (.c 1)) (.c 2))))))) (.wrap .i64 (.sub (.nthI (.lv 0) (.mul (.v 1) (.c 2))) (.nthI (.lv 0) (.mul (.sub (.v 1) (.c 1)) (.c 2)))))) (.ite (.lt (.wrap .i64 (.sub (.nthI (.lv 0) (.add (.mul (.v 1) (.c 2)) (.c 1))) (.nthI (.lv 0) (.add (.mul (.sub (.v 1) (.c 1)) (.c 2)) (.c 1))))) (.wrap .i64 (.sub (.c 0) (.wrap .i64 (.sub (.nthI (.lv 0) (.add (.mul (.v 1) (.c 2)) (.c 1))) (.nthI (.lv 0) (.add (.mul (.sub (.v 1) (.c 1)) (.c 2)) (.c 1)))))))) (.wrap .i64 (.sub (.c 0) (.wrap .i64 (.sub (.nthI (.lv 0) (.add (.mul (.v 1) (.c 2)) (.c 1))) (.nthI (.lv 0) (.add (.mul (.sub (.v 1) (.c 1)) (.c 2)) (.c 1))))))) (.wrap .i64 (.sub (.nthI (.lv 0) (.add (.mul (.v 1) (.c 2)) (.c 1))) (.nthI (.lv 0) (.add (.mul (.sub (.v 1) (.c 1)) (.c 2)) (.c 1))))))), (.not (.eq (.wrap .i64 (.sub (.nthI (.lv 0) (.add (.mul (.v 1) (.c 2)) (.c 1))) (.nthI (.lv 0) (.add (.mul (.sub (.v 1) (.c 1)) (.c 2)) (.c 1))))) (.c 0))), (.not (.eq (.wrap .i64 (.sub (.nthI (.lv 0) (.mul (.v 1) (.c 2))) (.nthI (.lv 0) (.mul (.sub (.v 1) (.c 1)) (.c 2))))) (.c 0))), (.lt (.sub (.v 1) (.c 1)) (.v 0)), (.le (.c 0) (.sub (.v 1) (.c 1))), (.not (.eq (.v 1) (.c 0))), (.le (.nthI (.lv 0) (.add (.mul (.v 1) (.c 2)) (.c 1))) (.c 16777216)), (.le (.c (-16777216)) (.nthI (.lv 0) (.add (.mul (.v 1) (.c 2)) (.c 1)))), (.le (.nthI (.lv 0) (.mul (.v 1) (.c 2))) (.c 16777216)), (.le (.c (-16777216)) (.nthI (.lv 0) (.mul (.v 1) (.c 2)))), (.lt (.v 1) (.v 0)), (.le (.c 0) (.v 1)), (.le (.v 1) (.v 0)), (.le (.v 1) (.c 1024)), (.happ 1 (.cons (.v 1) (.lv 0))), (.happ 2 (.cons (.v 1) (.lv 0))), (.le (.v 0) (.c 1024)), (.le (.c 2) (.v 0)), (.le (.c 0) (.v 0)), (.le (.v 0) (.c 9223372036854775807))], []⟩,
⟨(.must (.happ 1 (.cons (.add (.v 1) (.c 1)) (.lv 0)))), [(.eq (.wrap .i64 (.sub (.nthI (.lv 0) (.add (.mul (.v 1) (.c 2)) (.c 1))) (.nthI (.lv 0) (.add (.mul (.sub (.v 1) (.c 1)) (.c 2)) (.c 1))))) (.c 0)), (.not (.eq (.wrap .i64 (.sub (.nthI (.lv 0) (.mul (.v 1) (.c 2))) (.nthI (.lv 0) (.mul (.sub (.v 1) (.c 1)) (.c 2))))) (.c 0))), (.lt (.sub (.v 1) (.c 1)) (.v 0)), (.le (.c 0) (.sub (.v 1) (.c 1))), (.not (.eq (.v 1) (.c 0))), (.le (.nthI (.lv 0) (.add (.mul (.v 1) (.c 2)) (.c 1))) (.c 16777216)), (.le (.c (-16777216)) (.nthI (.lv 0) (.add (.mul (.v 1) (.c 2)) (.c 1)))), (.le (.nthI (.lv 0) (.mul (.v 1) (.c 2))) (.c 16777216)), (.le (.c (-16777216)) (.nthI (.lv 0) (.mul (.v 1) (.c 2)))), (.lt (.v 1) (.v 0)), (.le (.c 0) (.v 1)), (.le (.v 1) (.v 0)), (.le (.v 1) (.c 1024)), (.happ 1 (.cons (.v 1) (.lv 0))), (.happ 2 (.cons (.v 1) (.lv 0))), (.le (.v 0) (.c 1024)), (.le (.c 2) (.v 0)), (.le (.c 0) (.v 0)), (.le (.v 0) (.c 9223372036854775807))], []⟩,
⟨(.must (.happ 2 (.cons (.add (.v 1) (.c 1)) (.lv 0)))), [(.eq (.wrap .i64 (.sub (.nthI (.lv 0) (.add (.mul (.v 1) (.c 2)) (.c 1))) (.nthI (.lv 0) (.add (.mul (.sub (.v 1) (.c 1)) (.c 2)) (.c 1))))) (.c 0)), (.not (.eq (.wrap .i64 (.sub (.nthI (.lv 0) (.mul (.v 1) (.c 2))) (.nthI (.lv 0) (.mul (.sub (.v 1) (.c 1)) (.c 2))))) (.c 0))), (.lt (.sub (.v 1) (.c 1)) (.v 0)), (.le (.c 0) (.sub (.v 1) (.c 1))), (.not (.eq (.v 1) (.c 0))), (.le (.nthI (.lv 0) (.add (.mul (.v 1) (.c 2)) (.c 1))) (.c 16777216)), (.le (.c (-16777216)) (.nthI (.lv 0) (.add (.mul (.v 1) (.c 2)) (.c 1)))), (.le (.nthI (.lv 0) (.mul (.v 1) (.c 2))) (.c 16777216)), (.le (.c (-16777216)) (.nthI (.lv 0) (.mul (.v 1) (.c 2)))), (.lt (.v 1) (.v 0)), (.le (.c 0) (.v 1)), (.le (.v 1) (.v 0)), (.le (.v 1) (.c 1024)), (.happ 1 (.cons (.v 1) (.lv 0))), (.happ 2 (.cons (.v 1) (.lv 0))), (.le (.v 0) (.c 1024)), (.le (.c 2) (.v 0)), (.le (.c 0) (.v 0)), (.le (.v 0) (.c 9223372036854775807))], []⟩,
⟨(.val (.b .ff)), [(.eq (.wrap .i64 (.sub (.nthI (.lv 0) (.add (.mul (.v 1) (.c 2)) (.c 1))) (.nthI (.lv 0) (.add (.mul (.sub (.v 1) (.c 1)) (.c 2)) (.c 1))))) (.c 0)), (.eq (.wrap .i64 (.sub (.nthI (.lv 0) (.mul (.v 1) (.c 2))) (.nthI (.lv 0) (.mul (.sub (.v 1) (.c 1)) (.c 2))))) (.c 0)), (.lt (.sub (.v 1) (.c 1)) (.v 0)), (.le (.c 0) (.sub (.v 1) (.c 1))), (.not (.eq (.v 1) (.c 0))), (.le (.nthI (.lv 0) (.add (.mul (.v 1) (.c 2)) (.c 1))) (.c 16777216)), (.le (.c (-16777216)) (.nthI (.lv 0) (.add (.mul (.v 1) (.c 2)) (.c 1)))), (.le (.nthI (.lv 0) (.mul (.v 1) (.c 2))) (.c 16777216)), (.le (.c (-16777216)) (.nthI (.lv 0) (.mul (.v 1) (.c 2)))), (.lt (.v 1) (.v 0)), (.le (.c 0) (.v 1)), (.le (.v 1) (.v 0)), (.le (.v 1) (.c 1024)), (.happ 1 (.cons (.v 1) (.lv 0))), (.happ 2 (.cons (.v 1) (.lv 0))), (.le (.v 0) (.c 1024)), (.le (.c 2) (.v 0)), (.le (.c 0) (.v 0)), (.le (.v 0) (.c 9223372036854775807))], []⟩,
⟨(.must (.happ 1 (.cons (.add (.v 1) (.c 1)) (.lv 0)))), [(.not (.eq (.wrap .i64 (.sub (.nthI (.lv 0) (.add (.mul (.v 1) (.c 2)) (.c 1))) (.nthI (.lv 0) (.add (.mul (.sub (.v 1) (.c 1)) (.c 2)) (.c 1))))) (.c 0))), (.eq (.wrap .i64 (.sub (.nthI (.lv 0) (.mul (.v 1) (.c 2))) (.nthI (.lv 0) (.mul (.sub (.v 1) (.c 1)) (.c 2))))) (.c 0)), (.lt (.sub (.v 1) (.c 1)) (.v 0)), (.le (.c 0) (.sub (.v 1) (.c 1))), (.not (.eq (.v 1) (.c 0))), (.le (.nthI (.lv 0) (.add (.mul (.v 1) (.c 2)) (.c 1))) (.c 16777216)), (.le (.c (-16777216)) (.nthI (.lv 0) (.add (.mul (.v 1) (.c 2)) (.c 1)))), (.le (.nthI (.lv 0) (.mul (.v 1) (.c 2))) (.c 16777216)), (.le (.c (-16777216)) (.nthI (.lv 0) (.mul (.v 1) (.c 2)))), (.lt (.v 1) (.v 0)), (.le (.c 0) (.v 1)), (.le (.v 1) (.v 0)), (.le (.v 1) (.c 1024)), (.happ 1 (.cons (.v 1) (.lv 0))), (.happ 2 (.cons (.v 1) (.lv 0))), (.le (.v 0) (.c 1024)), (.le (.c 2) (.v 0)), (.le (.c 0) (.v 0)), (.le (.v 0) (.c 9223372036854775807))], []⟩,
⟨(.must (.happ 2 (.cons (.add (.v 1) (.c 1)) (.lv 0)))), [(.not (.eq (.wrap .i64 (.sub (.nthI (.lv 0) (.add (.mul (.v 1) (.c 2)) (.c 1))) (.nthI (.lv 0) (.add (.mul (.sub (.v 1) (.c 1)) (.c 2)) (.c 1))))) (.c 0))), (.eq (.wrap .i64 (.sub (.nthI (.lv 0) (.mul (.v 1) (.c 2))) (.nthI (.lv 0) (.mul (.sub (.v 1) (.c 1)) (.c 2))))) (.c 0)), (.lt (.sub (.v 1) (.c 1)) (.v 0)), (.le (.c 0) (.sub (.v 1) (.c 1))), (.not (.eq (.v 1) (.c 0))), (.le (.nthI (.lv 0) (.add (.mul (.v 1) (.c 2)) (.c 1))) (.c 16777216)), (.le (.c (-16777216)) (.nthI (.lv 0) (.add (.mul (.v 1) (.c 2)) (.c 1)))), (.le (.nthI (.lv 0) (.mul (.v 1) (.c 2))) (.c 16777216)), (.le (.c (-16777216)) (.nthI (.lv 0) (.mul (.v 1) (.c 2)))), (.lt (.v 1) (.v 0)), (.le (.c 0) (.v 1)), (.le (.v 1) (.v 0)), (.le (.v 1) (.c 1024)), (.happ 1 (.cons (.v 1) (.lv 0))), (.happ 2 (.cons (.v 1) (.lv 0))), (.le (.v 0) (.c 1024)), (.le (.c 2) (.v 0)), (.le (.c 0) (.v 0)), (.le (.v 0) (.c 9223372036854775807))], []⟩,
⟨(.val (.b .ff)), [(.lt (.nthI (.lv 0) (.add (.mul (.v 1) (.c 2)) (.c 1))) (.c (-16777216))), (.le (.nthI (.lv 0) (.mul (.v 1) (.c 2))) (.c 16777216)), (.le (.c (-16777216)) (.nthI (.lv 0) (.mul (.v 1) (.c 2)))), (.lt (.v 1) (.v 0)), (.le (.c 0) (.v 1)), (.le (.v 1) (.v 0)), (.le (.v 1) (.c 1024)), (.happ 1 (.cons (.v 1) (.lv 0))), (.happ 2 (.cons (.v 1) (.lv 0))), (.le (.v 0) (.c 1024)), (.le (.c 2) (.v 0)), (.le (.c 0) (.v 0)), (.le (.v 0) (.c 9223372036854775807))], []⟩,
⟨(.val (.b .ff)), [(.lt (.c 16777216) (.nthI (.lv 0) (.mul (.v 1) (.c 2)))), (.le (.c (-16777216)) (.nthI (.lv 0) (.mul (.v 1) (.c 2)))), (.lt (.v 1) (.v 0)), (.le (.c 0) (.v 1)), (.le (.v 1) (.v 0)), (.le (.v 1) (.c 1024)), (.happ 1 (.cons (.v 1) (.lv 0))), (.happ 2 (.cons (.v 1) (.lv 0))), (.le (.v 0) (.c 1024)), (.le (.c 2) (.v 0)), (.le (.c 0) (.v 0)), (.le (.v 0) (.c 9223372036854775807))], []⟩,
⟨(.val (.b .ff)), [(.lt (.nthI (.lv 0) (.mul (.v 1) (.c 2))) (.c (-16777216))), (.lt (.v 1) (.v 0)), (.le (.c 0) (.v 1)), (.le (.v 1) (.v 0)), (.le (.v 1) (.c 1024)), (.happ 1 (.cons (.v 1) (.lv 0))), (.happ 2 (.cons (.v 1) (.lv 0))), (.le (.v 0) (.c 1024)), (.le (.c 2) (.v 0)), (.le (.c 0) (.v 0)), (.le (.v 0) (.c 9223372036854775807))], []⟩,
⟨(.val (.b .tt)), [(.le (.v 0) (.v 1)), (.le (.c 0) (.v 1)), (.le (.v 1) (.v 0)), (.le (.v 1) (.c 1024)), (.happ 1 (.cons (.v 1) (.lv 0))), (.happ 2 (.cons (.v 1) (.lv 0))), (.le (.v 0) (.c 1024)), (.le (.c 2) (.v 0)), (.le (.c 0) (.v 0)), (.le (.v 0) (.c 9223372036854775807))], []⟩,
⟨(.val (.b .ff)), [(.lt (.v 0) (.c 2)), (.le (.c 0) (.v 0)), (.le (.v 0) (.c 9223372036854775807))], []⟩] (by kernel_rfl) ρ w hF hT hR ⟨?_, ?_, ?_, ?_, ?_, ?_, ?_, ?_, ?_, ?_, ?_, ?_, ?_, ?_, ?_, ?_, ?_, ?_, ?_⟩ (u.J w)
  all_goals
    intro ρ' w' hx _ hF hb _
    have e0 : ρ'.i 0 = ρ.i 0 := hx.i 0 (by decide)
    have l0 : ρ'.l 0 = ρ.l 0 := hx.l 0 (by decide)
    have hh' : ρ'.h = Tk.hF := by rw [hx.h]; exact hh
    clear hx hR
    simp only [holds, List.mem_cons, List.not_mem_nil, or_false, forall_eq_or_imp, forall_eq, B_le, B_lt, B_eq, B_not, I_add, I_sub, I_mul, I_ite, I_wrap, I_c, I_v, I_nthI, L_lv, h_1 hh', h_2 hh', e0, l0, nI_eq, sX_f, sY_f, decide_eq_true_eq, Bool.not_eq_true', decide_eq_false_iff_not, den_b, B_t, B_f] at hF ⊢
    first
      | exact allTo_zero _
      | exact track_no hh (fun h => by have := (track_iff.1 h).1; omega) hb
      | (refine track_no hh (not_spots (k := ρ'.i 1) (by omega) (by omega) (fun h => ?_)) hb
         have := spB_iff.1 h
         omega)
      | (have hP : allTo (ρ'.i 1) (spB (ρ.l 0)) = true := by (revert hF; simp only [and_imp]; intros; assumption)
         rw [allTo_succ (by omega), spB_iff.2 (by omega), Bool.and_true]; exact hP)
      | (have z : ρ'.i 1 = 0 := by omega
         rw [z]; exact leg_one _)
      | (have hP : allTo (ρ'.i 1) (spB (ρ.l 0)) = true := by (revert hF; simp only [and_imp]; intros; assumption)
         have hQ : allTo (ρ'.i 1) (legB (ρ.l 0)) = true := by (revert hF; simp only [and_imp]; intros; assumption)
         rw [show ρ'.i 1 = ρ.i 0 by omega] at hP hQ
         exact track_yes hh hR0 (by omega) hP hQ hb)
      | (have hP : allTo (ρ'.i 1) (spB (ρ.l 0)) = true := by (revert hF; simp only [and_imp]; intros; assumption)
         have p := spB_iff.1 (allTo_at hP (k := ρ'.i 1 - 1) (by omega) (by omega))
         have w1 : IntKind.i64.wrap (sX (ρ.l 0) (ρ'.i 1) - sX (ρ.l 0) (ρ'.i 1 - 1)) = sX (ρ.l 0) (ρ'.i 1) - sX (ρ.l 0) (ρ'.i 1 - 1) := by rw [IntKind.wrap_i64]; omega
         have w2 : IntKind.i64.wrap (sY (ρ.l 0) (ρ'.i 1) - sY (ρ.l 0) (ρ'.i 1 - 1)) = sY (ρ.l 0) (ρ'.i 1) - sY (ρ.l 0) (ρ'.i 1 - 1) := by rw [IntKind.wrap_i64]; omega
         have w3 : IntKind.i64.wrap (0 - (sX (ρ.l 0) (ρ'.i 1) - sX (ρ.l 0) (ρ'.i 1 - 1))) = 0 - (sX (ρ.l 0) (ρ'.i 1) - sX (ρ.l 0) (ρ'.i 1 - 1)) := by rw [IntKind.wrap_i64]; omega
         have w4 : IntKind.i64.wrap (0 - (sY (ρ.l 0) (ρ'.i 1) - sY (ρ.l 0) (ρ'.i 1 - 1))) = 0 - (sY (ρ.l 0) (ρ'.i 1) - sY (ρ.l 0) (ρ'.i 1 - 1)) := by rw [IntKind.wrap_i64]; omega
         simp only [w1, w2, w3, w4, mx_ab] at hF
         have a1 := ab_or (sX (ρ.l 0) (ρ'.i 1) - sX (ρ.l 0) (ρ'.i 1 - 1))
         have a2 := ab_or (sY (ρ.l 0) (ρ'.i 1) - sY (ρ.l 0) (ρ'.i 1 - 1))
         first
         | (refine track_no hh (not_legs (k := ρ'.i 1) (by omega) (by omega) (fun h => ?_)) hb
            rw [legB_iff (by omega)] at h
            have := wayB_iff.1 h
            omega)
         | (have hQ : allTo (ρ'.i 1) (legB (ρ.l 0)) = true := by (revert hF; simp only [and_imp]; intros; assumption)
            rw [allTo_succ (by omega), legB_iff (by omega), wayB_iff.2 (by omega), Bool.and_true]; exact hQ))
end Go.Proofs.Ythihccmombcihaa.Tk
end
section
namespace Go.Proofs.Ythihccmombcihaa.Tk
open Go Go.Proofs.Ythihccmombcihaa.Sx Go.RowKit
variable {TT : Tb}
/-- the direction from a number to another one. -/
def sgE (a b : E) : E := .ite (.lt b a) (.c (-1)) (.ite (.lt a b) (.c 1) (.c 0))
def cCmp := ctrVal 43 [.one K, .one K] [] (.i .i64 (sgE (.v 1) (.v 0))) []
theorem sgE_I (ρ : Env) (a b : E) : (sgE a b).I ρ = sg (b.I ρ - a.I ρ) := by
  simp only [sgE, I_ite, B_lt, I_c, decide_eq_true_eq]
  unfold sg
  split <;> split <;> (try split) <;> (try split) <;> omega
theorem cmp_ok (u : Fit TT) : CtrOk TT Try.prog cCmp := ctrVal_ok rfl fun ρ w hF hT hR => by
  refine pat_calls (Γ := {}) (by simp) 400 [.one K, .one K] []
    [⟨(.val (.i .i64 (.c (-1)))), [(.lt (.v 0) (.v 1))], []⟩,
⟨(.val (.i .i64 (.c 1))), [(.lt (.v 1) (.v 0)), (.le (.v 1) (.v 0))], []⟩,
⟨(.val (.i .i64 (.c 0))), [(.le (.v 0) (.v 1)), (.le (.v 1) (.v 0))], []⟩] (by kernel_rfl) ρ w hF hT hR ⟨?_, ?_, ?_⟩ (u.J w)
  all_goals
    intro ρ' w' hx _ hF hb _
    have e0 : ρ'.i 0 = ρ.i 0 := hx.i 0 (by decide)
    have e1 : ρ'.i 1 = ρ.i 1 := hx.i 1 (by decide)
    simp only [holds, List.mem_cons, List.not_mem_nil, or_false, forall_eq_or_imp, forall_eq, B_le, B_lt, I_v, decide_eq_true_eq, e0, e1] at hF
    refine ⟨⟨?_, fun _ h => by cases h⟩, hb⟩
    simp only [den_i, sgE_I, I_v, I_c]
    refine congrArg (fun z => Ending.returned (Value.int .i64 z)) ?_
    unfold sg
    split <;> (try split) <;> omega
def legK : AK := .ag [K, K, K, K, K, K]
def nearFs0 : List E := spotFs 0 ++ spotFs 2 ++ btw (-1) 4 1 ++ btw (-1) 5 1 ++ spotFs 6 ++ btw 0 8 1048576 ++ [.eq (.v 4) (sgE (.v 0) (.v 2)), .eq (.v 5) (sgE (.v 1) (.v 3))]
def isNearK : List AK := [legK, spotK, .one K]
def reachE (a b c d x y w : E) : E := .happ 5 (.cons a (.cons b (.cons c (.cons d (.cons x (.cons y (.cons w .nil)))))))
def cIsNear := ctrVal 35 isNearK nearFs0 (.b (reachE (.v 0) (.v 1) (.v 2) (.v 3) (.v 6) (.v 7) (.v 8))) []
theorem isNear_ok (u : Fit TT) : CtrOk TT Try.prog cIsNear := ctrVal_ok rfl fun ρ w hF hT hR => by
  have hh := (u.tab hT).2
  have hs1 : ρ.i 4 = sg (ρ.i 2 - ρ.i 0) := by have := hF (.eq (.v 4) (sgE (.v 0) (.v 2))) (by simp [nearFs0]); simpa [sgE_I] using this
  have hs2 : ρ.i 5 = sg (ρ.i 3 - ρ.i 1) := by have := hF (.eq (.v 5) (sgE (.v 1) (.v 3))) (by simp [nearFs0]); simpa [sgE_I] using this
  refine pat_calls (Γ := {}) (by simp) 400 isNearK nearFs0
    [⟨(.val (.b (.le (.add (.mul (.sub (.v 6) (.v 0)) (.sub (.v 6) (.v 0))) (.mul (.sub (.v 7) (.v 1)) (.sub (.v 7) (.v 1)))) (.mul (.v 8) (.v 8))))), [(.lt (.add (.mul (.sub (.v 6) (.v 0)) (.v 4)) (.mul (.sub (.v 7) (.v 1)) (.v 5))) (.c 0)), (.le (.c (-16777216)) (.v 0)), (.le (.v 0) (.c 16777216)), (.le (.c (-16777216)) (.v 1)), (.le (.v 1) (.c 16777216)), (.le (.c (-16777216)) (.v 2)), (.le (.v 2) (.c 16777216)), (.le (.c (-16777216)) (.v 3)), (.le (.v 3) (.c 16777216)), (.le (.c (-1)) (.v 4)), (.le (.v 4) (.c 1)), (.le (.c (-1)) (.v 5)), (.le (.v 5) (.c 1)), (.le (.c (-16777216)) (.v 6)), (.le (.v 6) (.c 16777216)), (.le (.c (-16777216)) (.v 7)), (.le (.v 7) (.c 16777216)), (.le (.c 0) (.v 8)), (.le (.v 8) (.c 1048576)), (.eq (.v 4) (.ite (.lt (.v 2) (.v 0)) (.c (-1)) (.ite (.lt (.v 0) (.v 2)) (.c 1) (.c 0)))), (.eq (.v 5) (.ite (.lt (.v 3) (.v 1)) (.c (-1)) (.ite (.lt (.v 1) (.v 3)) (.c 1) (.c 0))))], []⟩,
⟨(.val (.b (.le (.add (.mul (.sub (.v 2) (.v 6)) (.sub (.v 2) (.v 6))) (.mul (.sub (.v 3) (.v 7)) (.sub (.v 3) (.v 7)))) (.mul (.v 8) (.v 8))))), [(.lt (.add (.mul (.sub (.v 2) (.v 6)) (.v 4)) (.mul (.sub (.v 3) (.v 7)) (.v 5))) (.c 0)), (.le (.c 0) (.add (.mul (.sub (.v 6) (.v 0)) (.v 4)) (.mul (.sub (.v 7) (.v 1)) (.v 5)))), (.le (.c (-16777216)) (.v 0)), (.le (.v 0) (.c 16777216)), (.le (.c (-16777216)) (.v 1)), (.le (.v 1) (.c 16777216)), (.le (.c (-16777216)) (.v 2)), (.le (.v 2) (.c 16777216)), (.le (.c (-16777216)) (.v 3)), (.le (.v 3) (.c 16777216)), (.le (.c (-1)) (.v 4)), (.le (.v 4) (.c 1)), (.le (.c (-1)) (.v 5)), (.le (.v 5) (.c 1)), (.le (.c (-16777216)) (.v 6)), (.le (.v 6) (.c 16777216)), (.le (.c (-16777216)) (.v 7)), (.le (.v 7) (.c 16777216)), (.le (.c 0) (.v 8)), (.le (.v 8) (.c 1048576)), (.eq (.v 4) (.ite (.lt (.v 2) (.v 0)) (.c (-1)) (.ite (.lt (.v 0) (.v 2)) (.c 1) (.c 0)))), (.eq (.v 5) (.ite (.lt (.v 3) (.v 1)) (.c (-1)) (.ite (.lt (.v 1) (.v 3)) (.c 1) (.c 0))))], []⟩,
⟨(.val (.b (.le (.mul (.sub (.mul (.sub (.v 6) (.v 0)) (.v 5)) (.mul (.sub (.v 7) (.v 1)) (.v 4))) (.sub (.mul (.sub (.v 6) (.v 0)) (.v 5)) (.mul (.sub (.v 7) (.v 1)) (.v 4)))) (.mul (.mul (.v 8) (.v 8)) (.add (.mul (.v 4) (.v 4)) (.mul (.v 5) (.v 5))))))), [(.le (.c 0) (.add (.mul (.sub (.v 2) (.v 6)) (.v 4)) (.mul (.sub (.v 3) (.v 7)) (.v 5)))), (.le (.c 0) (.add (.mul (.sub (.v 6) (.v 0)) (.v 4)) (.mul (.sub (.v 7) (.v 1)) (.v 5)))), (.le (.c (-16777216)) (.v 0)), (.le (.v 0) (.c 16777216)), (.le (.c (-16777216)) (.v 1)), (.le (.v 1) (.c 16777216)), (.le (.c (-16777216)) (.v 2)), (.le (.v 2) (.c 16777216)), (.le (.c (-16777216)) (.v 3)), (.le (.v 3) (.c 16777216)), (.le (.c (-1)) (.v 4)), (.le (.v 4) (.c 1)), (.le (.c (-1)) (.v 5)), (.le (.v 5) (.c 1)), (.le (.c (-16777216)) (.v 6)), (.le (.v 6) (.c 16777216)), (.le (.c (-16777216)) (.v 7)), (.le (.v 7) (.c 16777216)), (.le (.c 0) (.v 8)), (.le (.v 8) (.c 1048576)), (.eq (.v 4) (.ite (.lt (.v 2) (.v 0)) (.c (-1)) (.ite (.lt (.v 0) (.v 2)) (.c 1) (.c 0)))), (.eq (.v 5) (.ite (.lt (.v 3) (.v 1)) (.c (-1)) (.ite (.lt (.v 1) (.v 3)) (.c 1) (.c 0))))], []⟩] (by kernel_rfl) ρ w hF hT hR ⟨?_, ?_, ?_⟩ (u.J w)
  all_goals
    intro ρ' w' hx _ hF hb _
    have e0 : ρ'.i 0 = ρ.i 0 := hx.i 0 (by decide)
    have e1 : ρ'.i 1 = ρ.i 1 := hx.i 1 (by decide)
    have e2 : ρ'.i 2 = ρ.i 2 := hx.i 2 (by decide)
    have e3 : ρ'.i 3 = ρ.i 3 := hx.i 3 (by decide)
    have e4 : ρ'.i 4 = ρ.i 4 := hx.i 4 (by decide)
    have e5 : ρ'.i 5 = ρ.i 5 := hx.i 5 (by decide)
    have e6 : ρ'.i 6 = ρ.i 6 := hx.i 6 (by decide)
    have e7 : ρ'.i 7 = ρ.i 7 := hx.i 7 (by decide)
    have e8 : ρ'.i 8 = ρ.i 8 := hx.i 8 (by decide)
    refine ⟨⟨?_, fun _ h => by cases h⟩, hb⟩
    simp only [holds, List.mem_cons, List.not_mem_nil, or_false, forall_eq_or_imp, forall_eq, B_le, B_lt, B_eq, I_add, I_sub, I_mul, I_ite, I_c, I_v, e0, e1, e2, e3, e4, e5, e6, e7, e8, decide_eq_true_eq] at hF
    simp only [den_b, reachE, h_5 hh, I_v, reachB, ← hs1, ← hs2, B_le, I_add, I_mul, I_sub, I_v, e0, e1, e2, e3, e4, e5, e6, e7, e8]
    refine congrArg (fun b => Ending.returned (Value.bool b)) ?_
    obtain ⟨q1, q2⟩ := hF
    first
      | (rw [if_neg (by omega), if_neg (by omega)])
      | (rw [if_neg (by omega), if_pos q1])
      | (rw [if_pos q1])
/-! ### Near -/
def nearK : List AK := [rowK, spotK, .one K]
def farE (n : E) : E := .happ 4 (.cons n (.cons (.v 1) (.cons (.v 2) (.cons (.v 3) (.lv 0)))))
def nearV (b : E) (e : Int) : V := .tup (V.ofL [.b b, .i .i64 (.c e)])
def fineFs : List E := trackFs 0 ++ spotFs 1 ++ btw 0 3 1048576
def nearCs : List (V × List E) := [(nearV .tt 0, fineFs ++ [.not (farE (.v 0))]), (nearV .ff 0, fineFs ++ [farE (.v 0)]), (nearV .ff 2, [.not (trackE 0)]), (nearV .ff 2, [.lt (.v 1) (.c (-16777216))]), (nearV .ff 2, [.lt (.c 16777216) (.v 1)]), (nearV .ff 2, [.lt (.v 2) (.c (-16777216))]), (nearV .ff 2, [.lt (.c 16777216) (.v 2)]), (nearV .ff 2, [.lt (.v 3) (.c 0)]), (nearV .ff 2, [.lt (.c 1048576) (.v 3)])]
def nearL : LoopSpec := { key := 1, locs := [.t 3 (.i .i64)], facts := fun n => [.le (.c 1) (.v n), .le (.v n) (.v 0), .le (.v n) (.c 1024), farE (.v n)], meas := fun n => .sub (.v 0) (.v n) }
def nearG : Ctx := { calls := [cTrack, cCmp, cIsNear], loops := [nearL] }
def cNear := ctrCases 15 nearK [] nearCs
theorem far_E {ρ : Env} (hh : ρ.h = Tk.hF) (n : E) : (farE n).B ρ = allTo (n.I ρ) (farB (ρ.i 1) (ρ.i 2) (ρ.i 3) (ρ.l 0)) := h_4 hh _ _ _ _ _
theorem fine_of {ρ : Env} (hh : ρ.h = Tk.hF) {w : World} {l : List AK} (hR : RowsAt ρ w (rowK :: l)) (ht : trackB (ρ.i 0) (ρ.l 0) = true) (h1 : -16777216 ≤ ρ.i 1 ∧ ρ.i 1 ≤ 16777216) (h2 : -16777216 ≤ ρ.i 2 ∧ ρ.i 2 ≤ 16777216) (h3 : 0 ≤ ρ.i 3 ∧ ρ.i 3 ≤ 1048576) : ∀ a ∈ fineFs, a.B ρ = true := by
  have t := track_iff.1 ht
  simp only [fineFs, trackFs, spotFs, btw, List.cons_append, List.nil_append, List.mem_cons, List.not_mem_nil, or_false, forall_eq_or_imp, forall_eq, trackE, hE_3 hh, I_v, I_c, B_le, decide_eq_true_eq]
  exact ⟨ht, t.1.1, t.1.2, rng_E hR t.2.1, h1.1, h1.2, h2.1, h2.2, h3.1, h3.2⟩
theorem near_yes {ρ : Env} (hh : ρ.h = Tk.hF) {w w' : World} {l : List AK} (hR : RowsAt ρ w (rowK :: l)) (ht : trackB (ρ.i 0) (ρ.l 0) = true) (h1 : -16777216 ≤ ρ.i 1 ∧ ρ.i 1 ≤ 16777216) (h2 : -16777216 ≤ ρ.i 2 ∧ ρ.i 2 ≤ 16777216) (h3 : 0 ≤ ρ.i 3 ∧ ρ.i 3 ≤ 1048576) (b : Bool) (hb : allTo (ρ.i 0) (farB (ρ.i 1) (ρ.i 2) (ρ.i 3) (ρ.l 0)) = !b) {v : Value} (hv : v = .tuple #[.bool b, .int .i64 0]) (hw : Below w.heap.size w w') : (∃ c ∈ nearCs, Ending.returned v = .returned (c.1.den ρ) ∧ ∀ a ∈ c.2, a.B ρ = true) ∧ Below w.heap.size w w' := by
  subst hv
  have hf := fine_of hh hR ht h1 h2 h3
  cases b
  · refine ⟨⟨_, List.mem_cons_of_mem _ List.mem_cons_self, rfl, fun a ha => ?_⟩, hw⟩
    rcases List.mem_append.1 ha with ha | ha
    · exact hf a ha
    · cases List.mem_singleton.1 ha; rw [far_E hh]; exact hb
  · refine ⟨⟨_, List.mem_cons_self, rfl, fun a ha => ?_⟩, hw⟩
    rcases List.mem_append.1 ha with ha | ha
    · exact hf a ha
    · cases List.mem_singleton.1 ha; rw [B_not, far_E hh]; simpa using hb
theorem near_ok (u : Fit TT) : CtrOk TT Try.prog cNear := ctrCases_ok rfl fun ρ w hF0 hT hR => by
  have hh := (u.tab hT).2
  have hF := nF_of hR (row_in [spotK, .one K])
  have hR0 := hR
  refine cases_rest dd_ok (Γ := nearG) (by simpa [nearG] using ⟨isTrack_ok u.open, cmp_ok u.open, isNear_ok u.open⟩) 400 nearK (nF 0) nearCs (by decide)
    [⟨(.must (.happ 4 (.cons (.c 1) (.cons (.v 1) (.cons (.v 2) (.cons (.v 3) (.lv 0))))))), [(.le (.v 3) (.c 1048576)), (.le (.c 0) (.v 3)), (.le (.v 2) (.c 16777216)), (.le (.c (-16777216)) (.v 2)), (.le (.v 1) (.c 16777216)), (.le (.c (-16777216)) (.v 1)), (.happ 3 (.cons (.v 0) (.lv 0))), (.le (.c 2) (.v 0)), (.le (.v 0) (.c 1024)), (.allr (-16777216) 16777216 (.lv 0)), (.le (.c 0) (.v 0)), (.le (.v 0) (.c 9223372036854775807))], []⟩,
⟨(.val (.tup (.cons (.b .tt) (.cons (.i .i64 (.c 0)) .nil)))), [(.happ 5 (.cons (.nthI (.lv 0) (.mul (.sub (.v 12) (.c 1)) (.c 2))) (.cons (.nthI (.lv 0) (.add (.mul (.sub (.v 12) (.c 1)) (.c 2)) (.c 1))) (.cons (.nthI (.lv 0) (.mul (.v 12) (.c 2))) (.cons (.nthI (.lv 0) (.add (.mul (.v 12) (.c 2)) (.c 1))) (.cons (.v 1) (.cons (.v 2) (.cons (.v 3) .nil)))))))), (.lt (.sub (.v 12) (.c 1)) (.v 0)), (.lt (.v 12) (.v 0)), (.le (.c 1) (.v 12)), (.le (.v 12) (.v 0)), (.le (.v 12) (.c 1024)), (.happ 4 (.cons (.v 12) (.cons (.v 1) (.cons (.v 2) (.cons (.v 3) (.lv 0)))))), (.le (.v 3) (.c 1048576)), (.le (.c 0) (.v 3)), (.le (.v 2) (.c 16777216)), (.le (.c (-16777216)) (.v 2)), (.le (.v 1) (.c 16777216)), (.le (.c (-16777216)) (.v 1)), (.happ 3 (.cons (.v 0) (.lv 0))), (.le (.c 2) (.v 0)), (.le (.v 0) (.c 1024)), (.allr (-16777216) 16777216 (.lv 0)), (.le (.c 0) (.v 0)), (.le (.v 0) (.c 9223372036854775807))], []⟩,
⟨(.must (.happ 4 (.cons (.add (.v 12) (.c 1)) (.cons (.v 1) (.cons (.v 2) (.cons (.v 3) (.lv 0))))))), [(.not (.happ 5 (.cons (.nthI (.lv 0) (.mul (.sub (.v 12) (.c 1)) (.c 2))) (.cons (.nthI (.lv 0) (.add (.mul (.sub (.v 12) (.c 1)) (.c 2)) (.c 1))) (.cons (.nthI (.lv 0) (.mul (.v 12) (.c 2))) (.cons (.nthI (.lv 0) (.add (.mul (.v 12) (.c 2)) (.c 1))) (.cons (.v 1) (.cons (.v 2) (.cons (.v 3) .nil))))))))), (.lt (.sub (.v 12) (.c 1)) (.v 0)), (.lt (.v 12) (.v 0)), (.le (.c 1) (.v 12)), (.le (.v 12) (.v 0)), (.le (.v 12) (.c 1024)), (.happ 4 (.cons (.v 12) (.cons (.v 1) (.cons (.v 2) (.cons (.v 3) (.lv 0)))))), (.le (.v 3) (.c 1048576)), (.le (.c 0) (.v 3)), (.le (.v 2) (.c 16777216)), (.le (.c (-16777216)) (.v 2)), (.le (.v 1) (.c 16777216)), (.le (.c (-16777216)) (.v 1)), (.happ 3 (.cons (.v 0) (.lv 0))), (.le (.c 2) (.v 0)), (.le (.v 0) (.c 1024)), (.allr (-16777216) 16777216 (.lv 0)), (.le (.c 0) (.v 0)), (.le (.v 0) (.c 9223372036854775807))], []⟩,
⟨(.val (.tup (.cons (.b .ff) (.cons (.i .i64 (.c 0)) .nil)))), [(.le (.v 0) (.v 12)), (.le (.c 1) (.v 12)), (.le (.v 12) (.v 0)), (.le (.v 12) (.c 1024)), (.happ 4 (.cons (.v 12) (.cons (.v 1) (.cons (.v 2) (.cons (.v 3) (.lv 0)))))), (.le (.v 3) (.c 1048576)), (.le (.c 0) (.v 3)), (.le (.v 2) (.c 16777216)), (.le (.c (-16777216)) (.v 2)), (.le (.v 1) (.c 16777216)), (.le (.c (-16777216)) (.v 1)), (.happ 3 (.cons (.v 0) (.lv 0))), (.le (.c 2) (.v 0)), (.le (.v 0) (.c 1024)), (.allr (-16777216) 16777216 (.lv 0)), (.le (.c 0) (.v 0)), (.le (.v 0) (.c 9223372036854775807))], []⟩] (by kernel_rfl) ρ w hF hT hR ⟨?_, ?_, ?_, ?_⟩ (u.J w)
  all_goals
    intro ρ' w' hx _ hF hb _
    have e0 : ρ'.i 0 = ρ.i 0 := hx.i 0 (by decide)
    have e1 : ρ'.i 1 = ρ.i 1 := hx.i 1 (by decide)
    have e2 : ρ'.i 2 = ρ.i 2 := hx.i 2 (by decide)
    have e3 : ρ'.i 3 = ρ.i 3 := hx.i 3 (by decide)
    have l0 : ρ'.l 0 = ρ.l 0 := hx.l 0 (by decide)
    have hh' : ρ'.h = Tk.hF := by rw [hx.h]; exact hh
    clear hx hR
    simp only [holds, List.mem_cons, List.not_mem_nil, or_false, forall_eq_or_imp, forall_eq, B_le, B_lt, B_not, I_add, I_sub, I_mul, I_c, I_v, I_nthI, L_lv, h_3 hh', h_4 hh', h_5 hh', e0, e1, e2, e3, l0, nI_eq, sX_f, sY_f, decide_eq_true_eq, Bool.not_eq_true'] at hF ⊢
    first
      | rfl
      | (have hP : allTo (ρ'.i 12) (farB (ρ.i 1) (ρ.i 2) (ρ.i 3) (ρ.l 0)) = true := by (revert hF; simp only [and_imp]; intros; assumption)
         have ht : trackB (ρ.i 0) (ρ.l 0) = true := by (revert hF; simp only [and_imp]; intros; assumption)
         first
         | (have hf : farB (ρ.i 1) (ρ.i 2) (ρ.i 3) (ρ.l 0) (ρ'.i 12) = true := by unfold farB; rw [hF.1]; simp
            rw [allTo_succ (by omega), hf, Bool.and_true]; exact hP)
         | (rw [show ρ'.i 12 = ρ.i 0 by omega] at hP
            exact near_yes hh hR0 ht (by omega) (by omega) (by omega) false hP rfl hb)
         | (have hf : farB (ρ.i 1) (ρ.i 2) (ρ.i 3) (ρ.l 0) (ρ'.i 12) = false := by unfold farB; rw [hF.1]; simp; omega
            exact near_yes hh hR0 ht (by omega) (by omega) (by omega) true (allTo_not (by omega) (by omega) hf) rfl hb))
end Go.Proofs.Ythihccmombcihaa.Tk
end
section
namespace Go.Proofs.Ythihccmombcihaa.Tk
open Go Go.Proofs.Ythihccmombcihaa.Sx Go.RowKit

section
variable (al : Bool) (lx ly hx hy sp : Int)
theorem pt_len (x y : Int) : (pt al x y).length = 2 := by unfold pt; split <;> rfl
theorem parL_len : ∀ n : Nat, (parL al lx ly hx hy sp n).length = 4 * n
  | 0 => rfl
  | n + 1 => by simp only [parL, List.length_append, parL_len n, pt_len]; omega
theorem parL_at {n k : Nat} (h : k < n) (i : Nat) (hi : i < 4) : (parL al lx ly hx hy sp n)[4 * k + i]? = (pt al (parX lx hx k) (parY ly hy sp k) ++ pt al (parX lx hx (k + 1)) (parY ly hy sp k))[i]? := by
  induction n with
  | zero => omega
  | succ n ih =>
    simp only [parL]
    rcases Nat.lt_or_ge k n with hk | hk
    · rw [List.getElem?_append_left (by rw [parL_len]; omega)]
      exact ih hk
    · obtain rfl : k = n := by omega
      rw [List.getElem?_append_right (by rw [parL_len]; omega), parL_len]
      congr 1
      omega
/-- spot j of the track: in line j / 2, at its beginning or its end. -/
def spX (j : Nat) : Int := parX lx hx ((j + 1) / 2)
theorem half_par (j : Nat) : parX lx hx (j / 2 + j % 2) = spX lx hx j := by unfold spX; congr 1; omega
theorem parL_spot {n j : Nat} (h : j < 2 * n) : sX (parL al lx ly hx hy sp n) j = (if al then parY ly hy sp (j / 2) else spX lx hx j) ∧ sY (parL al lx ly hx hy sp n) j = (if al then spX lx hx j else parY ly hy sp (j / 2)) := by
  have hk : j / 2 < n := by omega
  have h0 : ∀ i, i < 4 → nI (parL al lx ly hx hy sp n) ((4 * (j / 2) + i : Nat) : Int) = (((pt al (parX lx hx (j / 2)) (parY ly hy sp (j / 2)) ++ pt al (parX lx hx (j / 2 + 1)) (parY ly hy sp (j / 2)))[i]?).map Prod.fst).getD 0 := fun i hi => by
    unfold nI
    rw [Int.toNat_natCast, parL_at al lx ly hx hy sp hk i hi]
  unfold sX sY
  rw [← half_par]
  rcases Nat.mod_two_eq_zero_or_one j with h2 | h2
  · have a := h0 0 (by omega)
    have b := h0 1 (by omega)
    rw [show ((4 * (j / 2) + 0 : Nat) : Int) = (j : Int) * 2 by omega] at a
    rw [show ((4 * (j / 2) + 1 : Nat) : Int) = (j : Int) * 2 + 1 by omega] at b
    rw [a, b, h2]
    cases al <;> exact ⟨rfl, rfl⟩
  · have a := h0 2 (by omega)
    have b := h0 3 (by omega)
    rw [show ((4 * (j / 2) + 2 : Nat) : Int) = (j : Int) * 2 by omega] at a
    rw [show ((4 * (j / 2) + 3 : Nat) : Int) = (j : Int) * 2 + 1 by omega] at b
    rw [a, b, h2]
    cases al <;> exact ⟨rfl, rfl⟩
end
theorem spX_even {lx hx : Int} {j : Nat} (h : j % 2 = 1) : spX lx hx (j + 1) = spX lx hx j := by
  unfold spX
  rw [show (j + 1 + 1) / 2 = (j + 1) / 2 by omega]
theorem sg_pos {x : Int} (h : 0 < x) : sg x = 1 := by unfold sg; rw [if_neg (by omega), if_pos h]
theorem sg_neg {x : Int} (h : x < 0) : sg x = -1 := by unfold sg; rw [if_pos h]
theorem sg_zero : sg 0 = 0 := rfl
theorem ab_sq {x w : Int} (h : ab x ≤ w) : x * x ≤ w * w := by
  have h0 : 0 ≤ ab x := by unfold ab; split <;> omega
  have h1 : ab x * ab x = x * x := by
    unfold ab
    split
    · exact Int.neg_mul_neg x x
    · rfl
  rw [← h1]
  exact sq_le h0 h
/-- between the ends of a line, and near it. -/
theorem reach_line {fx tx Y x y w : Int} (hne : fx ≠ tx) (hx1 : min fx tx ≤ x) (hx2 : x ≤ max fx tx) (hw : ab (y - Y) ≤ w) : reachB fx Y tx Y x y w = true ∧ reachB Y fx Y tx y x w = true := by
  have hq := ab_sq hw
  have e0 : Y - Y = 0 := by omega
  have e1 : (Y - y) * (Y - y) = (y - Y) * (y - Y) := by grind
  unfold reachB
  rcases Int.lt_or_gt_of_ne hne with h | h
  · rw [e0, sg_zero, sg_pos (by omega)]
    simp only [Int.mul_one, Int.mul_zero, Int.add_zero, Int.zero_add, Int.zero_sub, Int.sub_zero, Int.neg_mul_neg]
    rw [if_neg (by omega), if_neg (by omega), if_neg (by omega), if_neg (by omega)]
    simp only [decide_eq_true_eq]
    exact ⟨hq, hq⟩
  · rw [e0, sg_zero, sg_neg (by omega)]
    simp only [Int.mul_neg, Int.mul_one, Int.mul_zero, Int.add_zero, Int.zero_add, Int.zero_sub, Int.sub_zero, Int.neg_neg, Int.neg_mul]
    rw [if_neg (by omega), if_neg (by omega), if_neg (by omega), if_neg (by omega)]
    simp only [decide_eq_true_eq]
    exact ⟨hq, hq⟩
/-- What is asked of a box; n: how many lines. -/
structure Box (lx ly hx hy sp : Int) (n : Nat) : Prop where
  x0 : -16777216 ≤ lx
  x1 : lx < hx
  x2 : hx ≤ 16777216
  y0 : -16777216 ≤ ly
  y1 : ly < hy
  y2 : hy ≤ 16777216
  s0 : 1 ≤ sp
  s1 : sp ≤ 1048576
  many : (n : Int) * 2 ≤ 1024
  up0 : ((n : Int) - 1) * sp < hy - ly
  up1 : hy - ly ≤ n * sp
section
variable {al : Bool} {lx ly hx hy sp : Int} {n : Nat} (b : Box lx ly hx hy sp n)
include b
theorem box_n : 1 ≤ n := by
  rcases Nat.eq_zero_or_pos n with h | h
  · subst h; have := b.up1; have := b.y1; simp at *; omega
  · exact h
theorem parX_rng (k : Nat) : lx ≤ parX lx hx k ∧ parX lx hx k ≤ hx := by have := b.x1; unfold parX; split <;> omega
theorem tdiv_half : 0 ≤ sp.tdiv 2 ∧ sp.tdiv 2 * 2 ≤ sp ∧ sp ≤ sp.tdiv 2 * 2 + 1 := by
  have := b.s0
  rw [Int.tdiv_eq_ediv_of_nonneg (by omega)]
  omega
theorem parY_rng (k : Nat) : ly ≤ parY ly hy sp k ∧ parY ly hy sp k ≤ hy := by
  have h1 := b.y1
  have h2 := tdiv_half b
  have h3 : 0 ≤ (k : Int) * sp := Int.mul_nonneg (by omega) (by have := b.s0; omega)
  unfold parY
  omega
theorem parY_step {k : Nat} (hk : k + 1 < n) : parY ly hy sp k < parY ly hy sp (k + 1) := by
  have h2 := tdiv_half b
  have h0 := b.s0
  have h3 : ((k : Int) + 1) * sp ≤ ((n : Int) - 1) * sp := Int.mul_le_mul_of_nonneg_right (by omega) (by omega)
  have h4 := b.up0
  have h5 : ((k : Int) + 1) * sp = k * sp + sp := by rw [Int.add_mul, Int.one_mul]
  unfold parY
  rw [show ((k + 1 : Nat) : Int) * sp = k * sp + sp by rw [← h5]; rfl]
  omega
theorem spX_odd {j : Nat} (h : j % 2 = 0) : spX lx hx (j + 1) ≠ spX lx hx j := by
  have := b.x1
  unfold spX parX
  rw [show (j + 1 + 1) / 2 = j / 2 + 1 by omega, show (j + 1) / 2 = j / 2 by omega]
  split <;> split <;> omega
theorem par_track : trackB ((2 * n : Nat) : Int) (parL al lx ly hx hy sp n) = true := by
  have hn := box_n b
  have hm := b.many
  refine track_iff.2 ⟨by omega, allTo_of fun k h0 hk => ?_, allTo_of fun k h0 hk => ?_⟩
  · obtain ⟨j, rfl⟩ := Int.eq_ofNat_of_zero_le h0
    obtain ⟨e1, e2⟩ := parL_spot al lx ly hx hy sp (n := n) (j := j) (by omega)
    have p1 := parX_rng b ((j + 1) / 2)
    have p2 := parY_rng b (j / 2)
    have := b.x0; have := b.x2; have := b.y0; have := b.y2
    refine spB_iff.2 ?_
    rw [e1, e2]
    unfold spX
    split <;> omega
  · obtain ⟨j, rfl⟩ := Int.eq_ofNat_of_zero_le h0
    rcases Nat.eq_zero_or_pos j with h | h
    · subst h; rfl
    · rw [legB_iff (by omega)]
      obtain ⟨i, rfl⟩ : ∃ i, j = i + 1 := ⟨j - 1, by omega⟩
      obtain ⟨e1, e2⟩ := parL_spot al lx ly hx hy sp (n := n) (j := i + 1) (by omega)
      obtain ⟨f1, f2⟩ := parL_spot al lx ly hx hy sp (n := n) (j := i) (by omega)
      rw [show ((i + 1 : Nat) : Int) - 1 = (i : Nat) by omega, e1, e2, f1, f2]
      refine wayB_iff.2 ?_
      rcases Nat.mod_two_eq_zero_or_one i with h2 | h2
      · have q := spX_odd b h2
        rw [show (i + 1) / 2 = i / 2 by omega]
        cases al <;> simp <;> omega
      · have q := spX_even (lx := lx) (hx := hx) h2
        have r := parY_step b (k := i / 2) (by omega)
        rw [show (i + 1) / 2 = i / 2 + 1 by omega, q]
        cases al <;> simp <;> omega
/-- a place in the box is near a line. -/
theorem line_near {y : Int} (h0 : ly ≤ y) (h1 : y ≤ hy) : ∃ k : Nat, k < n ∧ ab (y - parY ly hy sp k) ≤ (sp + 1).tdiv 2 := by
  have hn := box_n b
  have hs := b.s0
  have ht := tdiv_half b
  have hd : ∀ k : Nat, ly + k * sp ≤ y → (y < ly + k * sp + sp ∨ y = ly + k * sp + sp) → ab (y - parY ly hy sp k) ≤ (sp + 1).tdiv 2 := fun k a c => by
    rw [Int.tdiv_eq_ediv_of_nonneg (by omega)]
    unfold ab parY
    split <;> omega
  rcases Int.lt_or_le y (ly + n * sp) with h | h
  · refine ⟨((y - ly) / sp).toNat, ?_, ?_⟩
    · have h3 : (y - ly) / sp < n := Int.ediv_lt_of_lt_mul (by omega) (by omega)
      omega
    · have h4 : 0 ≤ (y - ly) / sp := Int.ediv_nonneg (by omega) (by omega)
      have h5 := Int.emod_add_mul_ediv (y - ly) sp
      have h6 := Int.emod_nonneg (y - ly) (b := sp) (by omega)
      have h7 := Int.emod_lt_of_pos (y - ly) (b := sp) (by omega)
      have h8 : ((((y - ly) / sp).toNat : Nat) : Int) * sp = sp * ((y - ly) / sp) := by rw [Int.toNat_of_nonneg h4, Int.mul_comm]
      exact hd _ (by omega) (Or.inl (by omega))
  · refine ⟨n - 1, by omega, ?_⟩
    have h2 := b.up1
    have h5 : (((n - 1 : Nat) : Nat) : Int) * sp = n * sp - sp := by
      rw [show (((n - 1 : Nat) : Nat) : Int) = (n : Int) - 1 by omega, Int.sub_mul, Int.one_mul]
    exact hd _ (by omega) (Or.inr (by omega))
theorem par_near {x y : Int} (hx0 : lx ≤ x) (hx1 : x ≤ hx) (hy0 : ly ≤ y) (hy1 : y ≤ hy) :
    allTo ((2 * n : Nat) : Int) (farB (if al then y else x) (if al then x else y) ((sp + 1).tdiv 2) (parL al lx ly hx hy sp n)) = false := by
  obtain ⟨k, hk, hd⟩ := line_near b hy0 hy1
  refine allTo_not (k := ((2 * k + 1 : Nat) : Int)) (by omega) (by omega) ?_
  obtain ⟨e1, e2⟩ := parL_spot al lx ly hx hy sp (n := n) (j := 2 * k + 1) (by omega)
  obtain ⟨f1, f2⟩ := parL_spot al lx ly hx hy sp (n := n) (j := 2 * k) (by omega)
  unfold farB
  rw [show ((2 * k + 1 : Nat) : Int) - 1 = (2 * k : Nat) by omega, e1, e2, f1, f2]
  rw [show (2 * k + 1) / 2 = k by omega, show (2 * k) / 2 = k by omega]
  have q := spX_odd b (j := 2 * k) (by omega)
  have hr : min (spX lx hx (2 * k)) (spX lx hx (2 * k + 1)) ≤ x ∧ x ≤ max (spX lx hx (2 * k)) (spX lx hx (2 * k + 1)) := by
    unfold spX at q ⊢
    unfold parX at q ⊢
    split at q <;> split at q <;> simp_all <;> omega
  have := reach_line (fx := spX lx hx (2 * k)) (tx := spX lx hx (2 * k + 1)) (Ne.symm q) hr.1 hr.2 hd
  cases al
  · simp [this.1]; omega
  · simp [this.2]; omega
end
end Go.Proofs.Ythihccmombcihaa.Tk
end
section
namespace Go.Proofs.Ythihccmombcihaa.Tk
open Go Go.Proofs.Ythihccmombcihaa.Sx Go.RowKit
variable {TT : Tb}
theorem and32 {x : Int} (h0 : 0 ≤ x) (h1 : x < 18446744073709551616) : bitsI .and .u64 x 4294967295 = x % 4294967296 := by
  obtain ⟨n, rfl⟩ := Int.eq_ofNat_of_zero_le h0
  have hn : n < 18446744073709551616 := by omega
  show IntKind.u64.wrap ((BitVec.ofInt 64 (n : Int) &&& BitVec.ofInt 64 4294967295).toNat : Int) = _
  have e1 : (BitVec.ofInt 64 (n : Int) &&& BitVec.ofInt 64 4294967295).toNat = n % 4294967296 := by
    rw [BitVec.toNat_and]
    have a : (BitVec.ofInt 64 (n : Int)).toNat = n := by
      rw [BitVec.toNat_ofInt]; omega
    have b : (BitVec.ofInt 64 4294967295).toNat = 2 ^ 32 - 1 := by decide
    rw [a, b, Nat.and_two_pow_sub_one_eq_mod]
  rw [e1, IntKind.wrap_u64]
  omega
theorem shr32 {x : Int} (_h0 : 0 ≤ x) : x.fdiv (2 ^ (min (32 : Int).toNat IntKind.u64.bits)) = x / 4294967296 := by
  rw [show (2 : Int) ^ (min (32 : Int).toNat IntKind.u64.bits) = 4294967296 by decide, Int.fdiv_eq_ediv_of_nonneg _ (by omega)]
def U64 : LK := .sc (.i .u64)
def mulFs : List E := btw 0 0 137438953472 ++ btw 0 1 137438953472
def hiE (x y : E) : E := .quo (.mul x y) (.c 18446744073709551616)
def loE (x y : E) : E := .rem (.mul x y) (.c 18446744073709551616)
def cMul := ctrVal 41 [.one U64, .one U64] mulFs (.tup (V.ofL [.i .u64 (hiE (.v 0) (.v 1)), .i .u64 (loE (.v 0) (.v 1))])) []
theorem mul_hi {x y a b c d P Q R S : Int} (hx0 : 0 ≤ x) (hx1 : x ≤ 137438953472) (hy0 : 0 ≤ y) (hy1 : y ≤ 137438953472) (ha : a = x / 4294967296) (hb : b = x % 4294967296) (hc : c = y / 4294967296) (hd : d = y % 4294967296) (hP : P = b * d) (hQ : Q = a * d) (hR : R = b * c) (hS : S = a * c) :
    (0 ≤ P ∧ P < 18446744073709551616) ∧ (0 ≤ Q ∧ Q ≤ 137438953472) ∧ (0 ≤ R ∧ R ≤ 137438953472) ∧ (0 ≤ S ∧ S ≤ 1024) ∧ x * y = S * 18446744073709551616 + (Q + R) * 4294967296 + P := by
  have ha0 : 0 ≤ a ∧ a ≤ 32 := by omega
  have hb0 : 0 ≤ b ∧ b ≤ 4294967295 := by omega
  have hc0 : 0 ≤ c ∧ c ≤ 32 := by omega
  have hd0 : 0 ≤ d ∧ d ≤ 4294967295 := by omega
  have p1 := Int.mul_nonneg hb0.1 hd0.1
  have p2 : b * d ≤ 4294967295 * 4294967295 := Int.mul_le_mul hb0.2 hd0.2 hd0.1 (by omega)
  have q1 := Int.mul_nonneg ha0.1 hd0.1
  have q2 : a * d ≤ 32 * 4294967295 := Int.mul_le_mul ha0.2 hd0.2 hd0.1 (by omega)
  have r1 := Int.mul_nonneg hb0.1 hc0.1
  have r2 : b * c ≤ 4294967295 * 32 := Int.mul_le_mul hb0.2 hc0.2 hc0.1 (by omega)
  have s1 := Int.mul_nonneg ha0.1 hc0.1
  have s2 : a * c ≤ 32 * 32 := Int.mul_le_mul ha0.2 hc0.2 hc0.1 (by omega)
  have hxe : x = a * 4294967296 + b := by omega
  have hye : y = c * 4294967296 + d := by omega
  subst hP hQ hR hS
  refine ⟨by omega, by omega, by omega, by omega, ?_⟩
  rw [hxe, hye]
  grind
theorem mul_ok (u : Fit TT) : CtrOk TT Try.prog cMul := ctrVal_ok rfl fun ρ w hF hT hR => by
  refine pat_calls (Γ := {}) (by simp) 400 [.one U64, .one U64] mulFs
    [⟨(.val (.tup (.cons (.i .u64 (.add (.add (.mul (.shr .u64 (.v 0) (.c 32)) (.shr .u64 (.v 1) (.c 32))) (.shr .u64 (.wrap .u64 (.add (.wrap .u64 (.mul (.shr .u64 (.v 0) (.c 32)) (.bits .and .u64 (.v 1) (.c 4294967295)))) (.shr .u64 (.wrap .u64 (.mul (.bits .and .u64 (.v 0) (.c 4294967295)) (.bits .and .u64 (.v 1) (.c 4294967295)))) (.c 32)))) (.c 32))) (.shr .u64 (.wrap .u64 (.add (.bits .and .u64 (.wrap .u64 (.add (.wrap .u64 (.mul (.shr .u64 (.v 0) (.c 32)) (.bits .and .u64 (.v 1) (.c 4294967295)))) (.shr .u64 (.wrap .u64 (.mul (.bits .and .u64 (.v 0) (.c 4294967295)) (.bits .and .u64 (.v 1) (.c 4294967295)))) (.c 32)))) (.c 4294967295)) (.wrap .u64 (.mul (.bits .and .u64 (.v 0) (.c 4294967295)) (.shr .u64 (.v 1) (.c 32)))))) (.c 32)))) (.cons (.i .u64 (.wrap .u64 (.mul (.v 0) (.v 1)))) .nil)))), [(.le (.c 0) (.v 0)), (.le (.v 0) (.c 137438953472)), (.le (.c 0) (.v 1)), (.le (.v 1) (.c 137438953472))], []⟩] (by kernel_rfl) ρ w hF hT hR ?_ (u.J w)
  intro ρ' w' hx _ hF hb _
  have e0 : ρ'.i 0 = ρ.i 0 := hx.i 0 (by decide)
  have e1 : ρ'.i 1 = ρ.i 1 := hx.i 1 (by decide)
  simp only [holds, List.mem_cons, List.not_mem_nil, or_false, forall_eq_or_imp, forall_eq, B_le, I_c, I_v, e0, e1, decide_eq_true_eq] at hF
  obtain ⟨hP, hQ, hR', hS, M⟩ := mul_hi (x := ρ.i 0) (y := ρ.i 1) hF.1 hF.2.1 hF.2.2.1 hF.2.2.2 rfl rfl rfl rfl rfl rfl rfl rfl
  refine ⟨⟨?_, fun _ h => by cases h⟩, hb⟩
  simp only [den_tup, dens_cons, dens_nil, den_i, V.ofL, hiE, loE, I_quo, I_rem, I_shr, I_bits, I_wrap, I_add, I_mul, I_c, I_v, e0, e1]
  have k0 : IntKind.u64.wrap (ρ.i 0 % 4294967296 * (ρ.i 1 % 4294967296)) = ρ.i 0 % 4294967296 * (ρ.i 1 % 4294967296) := by rw [IntKind.wrap_u64]; omega
  have k1 : IntKind.u64.wrap (ρ.i 0 / 4294967296 * (ρ.i 1 % 4294967296)) = ρ.i 0 / 4294967296 * (ρ.i 1 % 4294967296) := by rw [IntKind.wrap_u64]; omega
  have k2 : IntKind.u64.wrap (ρ.i 0 % 4294967296 * (ρ.i 1 / 4294967296)) = ρ.i 0 % 4294967296 * (ρ.i 1 / 4294967296) := by rw [IntKind.wrap_u64]; omega
  rw [and32 (x := ρ.i 0) (by omega) (by omega), and32 (x := ρ.i 1) (by omega) (by omega), shr32 (x := ρ.i 0) (by omega), shr32 (x := ρ.i 1) (by omega), k0, k1, k2]
  generalize ρ.i 0 % 4294967296 * (ρ.i 1 % 4294967296) = P at hP M ⊢
  generalize ρ.i 0 / 4294967296 * (ρ.i 1 % 4294967296) = Q at hQ M ⊢
  generalize ρ.i 0 % 4294967296 * (ρ.i 1 / 4294967296) = R at hR' M ⊢
  generalize ρ.i 0 / 4294967296 * (ρ.i 1 / 4294967296) = S at hS M ⊢
  generalize ρ.i 0 * ρ.i 1 = X at M ⊢
  rw [shr32 (x := P) (by omega)]
  have k3 : IntKind.u64.wrap (Q + P / 4294967296) = Q + P / 4294967296 := by rw [IntKind.wrap_u64]; omega
  rw [k3, and32 (by omega) (by omega), shr32 (x := Q + P / 4294967296) (by omega)]
  have k4 : IntKind.u64.wrap ((Q + P / 4294967296) % 4294967296 + R) = (Q + P / 4294967296) % 4294967296 + R := by rw [IntKind.wrap_u64]; omega
  rw [k4, shr32 (by omega), IntKind.wrap_u64, Int.tdiv_eq_ediv_of_nonneg (by omega), Int.tmod_eq_emod_of_nonneg (by omega)]
  have h1 : S + (Q + P / 4294967296) / 4294967296 + ((Q + P / 4294967296) % 4294967296 + R) / 4294967296 = X / 18446744073709551616 := by omega
  rw [h1]
theorem shr1 {x : Int} (_h0 : 0 ≤ x) : x.fdiv (2 ^ min (Int.toNat 1) IntKind.u64.bits) = x / 2 := by
  rw [show (2 : Int) ^ min (Int.toNat 1) IntKind.u64.bits = 2 by decide, Int.fdiv_eq_ediv_of_nonneg _ (by omega)]
/-! ### The code's root -/
def rootFs : List E := btw 0 0 34359738368
def sqE (a : E) : E := .mul a a
def dblE : E := .mul (.c 2) (.mul (.v 0) (.v 0))
def searchL : LoopSpec := { key := 2, locs := [.t 5 (.i .i64), .t 6 (.i .i64)], facts := fun n => [.le (.c 0) (.v n), .le (.v n) (.v (n+1)), .le (.v n) (.c 68719476736), .le (.c 0) (.v (n+1)), .le (.v (n+1)) (.c 68719476736), .le (.v (n+1)) (.mul (.v 0) (.c 2)), .le (sqE (.v n)) dblE, .or (.eq (.v (n+1)) (.mul (.v 0) (.c 2))) (.lt dblE (sqE (.add (.v (n+1)) (.c 1))))], meas := fun n => .sub (.v (n+1)) (.v n) }
def rootG : Ctx := { calls := [cMul], loops := [searchL] }
def cRoot := ctrVal 23 [.one K] rootFs (.i .i64 (.app 4 (.cons (.v 0) .nil))) [.le (.c 0) (.app 4 (.cons (.v 0) .nil)), .le (.app 4 (.cons (.v 0) .nil)) (.mul (.c 2) (.v 0)), .le (.app 4 (.cons (.v 0) .nil)) (.c 68719476736)]
theorem root_ok (u : Fit TT) : CtrOk TT Try.prog cRoot := ctrVal_ok rfl fun ρ w hF hT hR => by
  have hg := (u.tab hT).1
  refine pat_callsD dd_ok (Γ := rootG) (by simpa [rootG] using mul_ok u.open) 400 [.one K] rootFs
    [⟨(.must (.le (.mul (.c 2) (.v 0)) (.mul (.v 0) (.c 2)))), [(.le (.c 0) (.v 0)), (.le (.v 0) (.c 34359738368))], []⟩,
⟨(.must (.or (.eq (.mul (.c 2) (.v 0)) (.mul (.v 0) (.c 2))) (.lt (.mul (.c 2) (.mul (.v 0) (.v 0))) (.mul (.add (.mul (.c 2) (.v 0)) (.c 1)) (.add (.mul (.c 2) (.v 0)) (.c 1)))))), [(.le (.c 0) (.v 0)), (.le (.v 0) (.c 34359738368))], []⟩,
⟨(.must (.le (.v 2) (.shr .u64 (.add (.v 2) (.v 3)) (.c 1)))), [(.lt (.quo (.mul (.v 0) (.mul (.c 2) (.v 0))) (.c 18446744073709551616)) (.quo (.mul (.add (.shr .u64 (.add (.v 2) (.v 3)) (.c 1)) (.c 1)) (.add (.shr .u64 (.add (.v 2) (.v 3)) (.c 1)) (.c 1))) (.c 18446744073709551616))), (.lt (.v 2) (.v 3)), (.le (.c 0) (.v 2)), (.le (.v 2) (.v 3)), (.le (.v 2) (.c 68719476736)), (.le (.c 0) (.v 3)), (.le (.v 3) (.c 68719476736)), (.le (.v 3) (.mul (.v 0) (.c 2))), (.le (.mul (.v 2) (.v 2)) (.mul (.c 2) (.mul (.v 0) (.v 0)))), (.or (.eq (.v 3) (.mul (.v 0) (.c 2))) (.lt (.mul (.c 2) (.mul (.v 0) (.v 0))) (.mul (.add (.v 3) (.c 1)) (.add (.v 3) (.c 1))))), (.le (.c 0) (.v 0)), (.le (.v 0) (.c 34359738368))], []⟩,
⟨(.must (.le (.shr .u64 (.add (.v 2) (.v 3)) (.c 1)) (.mul (.v 0) (.c 2)))), [(.lt (.quo (.mul (.v 0) (.mul (.c 2) (.v 0))) (.c 18446744073709551616)) (.quo (.mul (.add (.shr .u64 (.add (.v 2) (.v 3)) (.c 1)) (.c 1)) (.add (.shr .u64 (.add (.v 2) (.v 3)) (.c 1)) (.c 1))) (.c 18446744073709551616))), (.lt (.v 2) (.v 3)), (.le (.c 0) (.v 2)), (.le (.v 2) (.v 3)), (.le (.v 2) (.c 68719476736)), (.le (.c 0) (.v 3)), (.le (.v 3) (.c 68719476736)), (.le (.v 3) (.mul (.v 0) (.c 2))), (.le (.mul (.v 2) (.v 2)) (.mul (.c 2) (.mul (.v 0) (.v 0)))), (.or (.eq (.v 3) (.mul (.v 0) (.c 2))) (.lt (.mul (.c 2) (.mul (.v 0) (.v 0))) (.mul (.add (.v 3) (.c 1)) (.add (.v 3) (.c 1))))), (.le (.c 0) (.v 0)), (.le (.v 0) (.c 34359738368))], []⟩,
⟨(.must (.or (.eq (.shr .u64 (.add (.v 2) (.v 3)) (.c 1)) (.mul (.v 0) (.c 2))) (.lt (.mul (.c 2) (.mul (.v 0) (.v 0))) (.mul (.add (.shr .u64 (.add (.v 2) (.v 3)) (.c 1)) (.c 1)) (.add (.shr .u64 (.add (.v 2) (.v 3)) (.c 1)) (.c 1)))))), [(.lt (.quo (.mul (.v 0) (.mul (.c 2) (.v 0))) (.c 18446744073709551616)) (.quo (.mul (.add (.shr .u64 (.add (.v 2) (.v 3)) (.c 1)) (.c 1)) (.add (.shr .u64 (.add (.v 2) (.v 3)) (.c 1)) (.c 1))) (.c 18446744073709551616))), (.lt (.v 2) (.v 3)), (.le (.c 0) (.v 2)), (.le (.v 2) (.v 3)), (.le (.v 2) (.c 68719476736)), (.le (.c 0) (.v 3)), (.le (.v 3) (.c 68719476736)), (.le (.v 3) (.mul (.v 0) (.c 2))), (.le (.mul (.v 2) (.v 2)) (.mul (.c 2) (.mul (.v 0) (.v 0)))), (.or (.eq (.v 3) (.mul (.v 0) (.c 2))) (.lt (.mul (.c 2) (.mul (.v 0) (.v 0))) (.mul (.add (.v 3) (.c 1)) (.add (.v 3) (.c 1))))), (.le (.c 0) (.v 0)), (.le (.v 0) (.c 34359738368))], []⟩,
⟨(.must (.lt (.sub (.shr .u64 (.add (.v 2) (.v 3)) (.c 1)) (.v 2)) (.sub (.v 3) (.v 2)))), [(.lt (.quo (.mul (.v 0) (.mul (.c 2) (.v 0))) (.c 18446744073709551616)) (.quo (.mul (.add (.shr .u64 (.add (.v 2) (.v 3)) (.c 1)) (.c 1)) (.add (.shr .u64 (.add (.v 2) (.v 3)) (.c 1)) (.c 1))) (.c 18446744073709551616))), (.lt (.v 2) (.v 3)), (.le (.c 0) (.v 2)), (.le (.v 2) (.v 3)), (.le (.v 2) (.c 68719476736)), (.le (.c 0) (.v 3)), (.le (.v 3) (.c 68719476736)), (.le (.v 3) (.mul (.v 0) (.c 2))), (.le (.mul (.v 2) (.v 2)) (.mul (.c 2) (.mul (.v 0) (.v 0)))), (.or (.eq (.v 3) (.mul (.v 0) (.c 2))) (.lt (.mul (.c 2) (.mul (.v 0) (.v 0))) (.mul (.add (.v 3) (.c 1)) (.add (.v 3) (.c 1))))), (.le (.c 0) (.v 0)), (.le (.v 0) (.c 34359738368))], []⟩,
⟨(.must (.le (.c 0) (.sub (.shr .u64 (.add (.v 2) (.v 3)) (.c 1)) (.v 2)))), [(.lt (.quo (.mul (.v 0) (.mul (.c 2) (.v 0))) (.c 18446744073709551616)) (.quo (.mul (.add (.shr .u64 (.add (.v 2) (.v 3)) (.c 1)) (.c 1)) (.add (.shr .u64 (.add (.v 2) (.v 3)) (.c 1)) (.c 1))) (.c 18446744073709551616))), (.lt (.v 2) (.v 3)), (.le (.c 0) (.v 2)), (.le (.v 2) (.v 3)), (.le (.v 2) (.c 68719476736)), (.le (.c 0) (.v 3)), (.le (.v 3) (.c 68719476736)), (.le (.v 3) (.mul (.v 0) (.c 2))), (.le (.mul (.v 2) (.v 2)) (.mul (.c 2) (.mul (.v 0) (.v 0)))), (.or (.eq (.v 3) (.mul (.v 0) (.c 2))) (.lt (.mul (.c 2) (.mul (.v 0) (.v 0))) (.mul (.add (.v 3) (.c 1)) (.add (.v 3) (.c 1))))), (.le (.c 0) (.v 0)), (.le (.v 0) (.c 34359738368))], []⟩,
⟨(.must (.le (.add (.shr .u64 (.add (.v 2) (.v 3)) (.c 1)) (.c 1)) (.v 3))), [(.le (.rem (.mul (.add (.shr .u64 (.add (.v 2) (.v 3)) (.c 1)) (.c 1)) (.add (.shr .u64 (.add (.v 2) (.v 3)) (.c 1)) (.c 1))) (.c 18446744073709551616)) (.rem (.mul (.v 0) (.mul (.c 2) (.v 0))) (.c 18446744073709551616))), (.eq (.quo (.mul (.add (.shr .u64 (.add (.v 2) (.v 3)) (.c 1)) (.c 1)) (.add (.shr .u64 (.add (.v 2) (.v 3)) (.c 1)) (.c 1))) (.c 18446744073709551616)) (.quo (.mul (.v 0) (.mul (.c 2) (.v 0))) (.c 18446744073709551616))), (.le (.quo (.mul (.add (.shr .u64 (.add (.v 2) (.v 3)) (.c 1)) (.c 1)) (.add (.shr .u64 (.add (.v 2) (.v 3)) (.c 1)) (.c 1))) (.c 18446744073709551616)) (.quo (.mul (.v 0) (.mul (.c 2) (.v 0))) (.c 18446744073709551616))), (.lt (.v 2) (.v 3)), (.le (.c 0) (.v 2)), (.le (.v 2) (.v 3)), (.le (.v 2) (.c 68719476736)), (.le (.c 0) (.v 3)), (.le (.v 3) (.c 68719476736)), (.le (.v 3) (.mul (.v 0) (.c 2))), (.le (.mul (.v 2) (.v 2)) (.mul (.c 2) (.mul (.v 0) (.v 0)))), (.or (.eq (.v 3) (.mul (.v 0) (.c 2))) (.lt (.mul (.c 2) (.mul (.v 0) (.v 0))) (.mul (.add (.v 3) (.c 1)) (.add (.v 3) (.c 1))))), (.le (.c 0) (.v 0)), (.le (.v 0) (.c 34359738368))], []⟩,
⟨(.must (.le (.add (.shr .u64 (.add (.v 2) (.v 3)) (.c 1)) (.c 1)) (.c 68719476736))), [(.le (.rem (.mul (.add (.shr .u64 (.add (.v 2) (.v 3)) (.c 1)) (.c 1)) (.add (.shr .u64 (.add (.v 2) (.v 3)) (.c 1)) (.c 1))) (.c 18446744073709551616)) (.rem (.mul (.v 0) (.mul (.c 2) (.v 0))) (.c 18446744073709551616))), (.eq (.quo (.mul (.add (.shr .u64 (.add (.v 2) (.v 3)) (.c 1)) (.c 1)) (.add (.shr .u64 (.add (.v 2) (.v 3)) (.c 1)) (.c 1))) (.c 18446744073709551616)) (.quo (.mul (.v 0) (.mul (.c 2) (.v 0))) (.c 18446744073709551616))), (.le (.quo (.mul (.add (.shr .u64 (.add (.v 2) (.v 3)) (.c 1)) (.c 1)) (.add (.shr .u64 (.add (.v 2) (.v 3)) (.c 1)) (.c 1))) (.c 18446744073709551616)) (.quo (.mul (.v 0) (.mul (.c 2) (.v 0))) (.c 18446744073709551616))), (.lt (.v 2) (.v 3)), (.le (.c 0) (.v 2)), (.le (.v 2) (.v 3)), (.le (.v 2) (.c 68719476736)), (.le (.c 0) (.v 3)), (.le (.v 3) (.c 68719476736)), (.le (.v 3) (.mul (.v 0) (.c 2))), (.le (.mul (.v 2) (.v 2)) (.mul (.c 2) (.mul (.v 0) (.v 0)))), (.or (.eq (.v 3) (.mul (.v 0) (.c 2))) (.lt (.mul (.c 2) (.mul (.v 0) (.v 0))) (.mul (.add (.v 3) (.c 1)) (.add (.v 3) (.c 1))))), (.le (.c 0) (.v 0)), (.le (.v 0) (.c 34359738368))], []⟩,
⟨(.must (.le (.mul (.add (.shr .u64 (.add (.v 2) (.v 3)) (.c 1)) (.c 1)) (.add (.shr .u64 (.add (.v 2) (.v 3)) (.c 1)) (.c 1))) (.mul (.c 2) (.mul (.v 0) (.v 0))))), [(.le (.rem (.mul (.add (.shr .u64 (.add (.v 2) (.v 3)) (.c 1)) (.c 1)) (.add (.shr .u64 (.add (.v 2) (.v 3)) (.c 1)) (.c 1))) (.c 18446744073709551616)) (.rem (.mul (.v 0) (.mul (.c 2) (.v 0))) (.c 18446744073709551616))), (.eq (.quo (.mul (.add (.shr .u64 (.add (.v 2) (.v 3)) (.c 1)) (.c 1)) (.add (.shr .u64 (.add (.v 2) (.v 3)) (.c 1)) (.c 1))) (.c 18446744073709551616)) (.quo (.mul (.v 0) (.mul (.c 2) (.v 0))) (.c 18446744073709551616))), (.le (.quo (.mul (.add (.shr .u64 (.add (.v 2) (.v 3)) (.c 1)) (.c 1)) (.add (.shr .u64 (.add (.v 2) (.v 3)) (.c 1)) (.c 1))) (.c 18446744073709551616)) (.quo (.mul (.v 0) (.mul (.c 2) (.v 0))) (.c 18446744073709551616))), (.lt (.v 2) (.v 3)), (.le (.c 0) (.v 2)), (.le (.v 2) (.v 3)), (.le (.v 2) (.c 68719476736)), (.le (.c 0) (.v 3)), (.le (.v 3) (.c 68719476736)), (.le (.v 3) (.mul (.v 0) (.c 2))), (.le (.mul (.v 2) (.v 2)) (.mul (.c 2) (.mul (.v 0) (.v 0)))), (.or (.eq (.v 3) (.mul (.v 0) (.c 2))) (.lt (.mul (.c 2) (.mul (.v 0) (.v 0))) (.mul (.add (.v 3) (.c 1)) (.add (.v 3) (.c 1))))), (.le (.c 0) (.v 0)), (.le (.v 0) (.c 34359738368))], []⟩,
⟨(.must (.lt (.sub (.v 3) (.add (.shr .u64 (.add (.v 2) (.v 3)) (.c 1)) (.c 1))) (.sub (.v 3) (.v 2)))), [(.le (.rem (.mul (.add (.shr .u64 (.add (.v 2) (.v 3)) (.c 1)) (.c 1)) (.add (.shr .u64 (.add (.v 2) (.v 3)) (.c 1)) (.c 1))) (.c 18446744073709551616)) (.rem (.mul (.v 0) (.mul (.c 2) (.v 0))) (.c 18446744073709551616))), (.eq (.quo (.mul (.add (.shr .u64 (.add (.v 2) (.v 3)) (.c 1)) (.c 1)) (.add (.shr .u64 (.add (.v 2) (.v 3)) (.c 1)) (.c 1))) (.c 18446744073709551616)) (.quo (.mul (.v 0) (.mul (.c 2) (.v 0))) (.c 18446744073709551616))), (.le (.quo (.mul (.add (.shr .u64 (.add (.v 2) (.v 3)) (.c 1)) (.c 1)) (.add (.shr .u64 (.add (.v 2) (.v 3)) (.c 1)) (.c 1))) (.c 18446744073709551616)) (.quo (.mul (.v 0) (.mul (.c 2) (.v 0))) (.c 18446744073709551616))), (.lt (.v 2) (.v 3)), (.le (.c 0) (.v 2)), (.le (.v 2) (.v 3)), (.le (.v 2) (.c 68719476736)), (.le (.c 0) (.v 3)), (.le (.v 3) (.c 68719476736)), (.le (.v 3) (.mul (.v 0) (.c 2))), (.le (.mul (.v 2) (.v 2)) (.mul (.c 2) (.mul (.v 0) (.v 0)))), (.or (.eq (.v 3) (.mul (.v 0) (.c 2))) (.lt (.mul (.c 2) (.mul (.v 0) (.v 0))) (.mul (.add (.v 3) (.c 1)) (.add (.v 3) (.c 1))))), (.le (.c 0) (.v 0)), (.le (.v 0) (.c 34359738368))], []⟩,
⟨(.must (.le (.c 0) (.sub (.v 3) (.add (.shr .u64 (.add (.v 2) (.v 3)) (.c 1)) (.c 1))))), [(.le (.rem (.mul (.add (.shr .u64 (.add (.v 2) (.v 3)) (.c 1)) (.c 1)) (.add (.shr .u64 (.add (.v 2) (.v 3)) (.c 1)) (.c 1))) (.c 18446744073709551616)) (.rem (.mul (.v 0) (.mul (.c 2) (.v 0))) (.c 18446744073709551616))), (.eq (.quo (.mul (.add (.shr .u64 (.add (.v 2) (.v 3)) (.c 1)) (.c 1)) (.add (.shr .u64 (.add (.v 2) (.v 3)) (.c 1)) (.c 1))) (.c 18446744073709551616)) (.quo (.mul (.v 0) (.mul (.c 2) (.v 0))) (.c 18446744073709551616))), (.le (.quo (.mul (.add (.shr .u64 (.add (.v 2) (.v 3)) (.c 1)) (.c 1)) (.add (.shr .u64 (.add (.v 2) (.v 3)) (.c 1)) (.c 1))) (.c 18446744073709551616)) (.quo (.mul (.v 0) (.mul (.c 2) (.v 0))) (.c 18446744073709551616))), (.lt (.v 2) (.v 3)), (.le (.c 0) (.v 2)), (.le (.v 2) (.v 3)), (.le (.v 2) (.c 68719476736)), (.le (.c 0) (.v 3)), (.le (.v 3) (.c 68719476736)), (.le (.v 3) (.mul (.v 0) (.c 2))), (.le (.mul (.v 2) (.v 2)) (.mul (.c 2) (.mul (.v 0) (.v 0)))), (.or (.eq (.v 3) (.mul (.v 0) (.c 2))) (.lt (.mul (.c 2) (.mul (.v 0) (.v 0))) (.mul (.add (.v 3) (.c 1)) (.add (.v 3) (.c 1))))), (.le (.c 0) (.v 0)), (.le (.v 0) (.c 34359738368))], []⟩,
⟨(.must (.le (.v 2) (.shr .u64 (.add (.v 2) (.v 3)) (.c 1)))), [(.lt (.rem (.mul (.v 0) (.mul (.c 2) (.v 0))) (.c 18446744073709551616)) (.rem (.mul (.add (.shr .u64 (.add (.v 2) (.v 3)) (.c 1)) (.c 1)) (.add (.shr .u64 (.add (.v 2) (.v 3)) (.c 1)) (.c 1))) (.c 18446744073709551616))), (.eq (.quo (.mul (.add (.shr .u64 (.add (.v 2) (.v 3)) (.c 1)) (.c 1)) (.add (.shr .u64 (.add (.v 2) (.v 3)) (.c 1)) (.c 1))) (.c 18446744073709551616)) (.quo (.mul (.v 0) (.mul (.c 2) (.v 0))) (.c 18446744073709551616))), (.le (.quo (.mul (.add (.shr .u64 (.add (.v 2) (.v 3)) (.c 1)) (.c 1)) (.add (.shr .u64 (.add (.v 2) (.v 3)) (.c 1)) (.c 1))) (.c 18446744073709551616)) (.quo (.mul (.v 0) (.mul (.c 2) (.v 0))) (.c 18446744073709551616))), (.lt (.v 2) (.v 3)), (.le (.c 0) (.v 2)), (.le (.v 2) (.v 3)), (.le (.v 2) (.c 68719476736)), (.le (.c 0) (.v 3)), (.le (.v 3) (.c 68719476736)), (.le (.v 3) (.mul (.v 0) (.c 2))), (.le (.mul (.v 2) (.v 2)) (.mul (.c 2) (.mul (.v 0) (.v 0)))), (.or (.eq (.v 3) (.mul (.v 0) (.c 2))) (.lt (.mul (.c 2) (.mul (.v 0) (.v 0))) (.mul (.add (.v 3) (.c 1)) (.add (.v 3) (.c 1))))), (.le (.c 0) (.v 0)), (.le (.v 0) (.c 34359738368))], []⟩,
⟨(.must (.le (.shr .u64 (.add (.v 2) (.v 3)) (.c 1)) (.mul (.v 0) (.c 2)))), [(.lt (.rem (.mul (.v 0) (.mul (.c 2) (.v 0))) (.c 18446744073709551616)) (.rem (.mul (.add (.shr .u64 (.add (.v 2) (.v 3)) (.c 1)) (.c 1)) (.add (.shr .u64 (.add (.v 2) (.v 3)) (.c 1)) (.c 1))) (.c 18446744073709551616))), (.eq (.quo (.mul (.add (.shr .u64 (.add (.v 2) (.v 3)) (.c 1)) (.c 1)) (.add (.shr .u64 (.add (.v 2) (.v 3)) (.c 1)) (.c 1))) (.c 18446744073709551616)) (.quo (.mul (.v 0) (.mul (.c 2) (.v 0))) (.c 18446744073709551616))), (.le (.quo (.mul (.add (.shr .u64 (.add (.v 2) (.v 3)) (.c 1)) (.c 1)) (.add (.shr .u64 (.add (.v 2) (.v 3)) (.c 1)) (.c 1))) (.c 18446744073709551616)) (.quo (.mul (.v 0) (.mul (.c 2) (.v 0))) (.c 18446744073709551616))), (.lt (.v 2) (.v 3)), (.le (.c 0) (.v 2)), (.le (.v 2) (.v 3)), (.le (.v 2) (.c 68719476736)), (.le (.c 0) (.v 3)), (.le (.v 3) (.c 68719476736)), (.le (.v 3) (.mul (.v 0) (.c 2))), (.le (.mul (.v 2) (.v 2)) (.mul (.c 2) (.mul (.v 0) (.v 0)))), (.or (.eq (.v 3) (.mul (.v 0) (.c 2))) (.lt (.mul (.c 2) (.mul (.v 0) (.v 0))) (.mul (.add (.v 3) (.c 1)) (.add (.v 3) (.c 1))))), (.le (.c 0) (.v 0)), (.le (.v 0) (.c 34359738368))], []⟩,
⟨(.must (.or (.eq (.shr .u64 (.add (.v 2) (.v 3)) (.c 1)) (.mul (.v 0) (.c 2))) (.lt (.mul (.c 2) (.mul (.v 0) (.v 0))) (.mul (.add (.shr .u64 (.add (.v 2) (.v 3)) (.c 1)) (.c 1)) (.add (.shr .u64 (.add (.v 2) (.v 3)) (.c 1)) (.c 1)))))), [(.lt (.rem (.mul (.v 0) (.mul (.c 2) (.v 0))) (.c 18446744073709551616)) (.rem (.mul (.add (.shr .u64 (.add (.v 2) (.v 3)) (.c 1)) (.c 1)) (.add (.shr .u64 (.add (.v 2) (.v 3)) (.c 1)) (.c 1))) (.c 18446744073709551616))), (.eq (.quo (.mul (.add (.shr .u64 (.add (.v 2) (.v 3)) (.c 1)) (.c 1)) (.add (.shr .u64 (.add (.v 2) (.v 3)) (.c 1)) (.c 1))) (.c 18446744073709551616)) (.quo (.mul (.v 0) (.mul (.c 2) (.v 0))) (.c 18446744073709551616))), (.le (.quo (.mul (.add (.shr .u64 (.add (.v 2) (.v 3)) (.c 1)) (.c 1)) (.add (.shr .u64 (.add (.v 2) (.v 3)) (.c 1)) (.c 1))) (.c 18446744073709551616)) (.quo (.mul (.v 0) (.mul (.c 2) (.v 0))) (.c 18446744073709551616))), (.lt (.v 2) (.v 3)), (.le (.c 0) (.v 2)), (.le (.v 2) (.v 3)), (.le (.v 2) (.c 68719476736)), (.le (.c 0) (.v 3)), (.le (.v 3) (.c 68719476736)), (.le (.v 3) (.mul (.v 0) (.c 2))), (.le (.mul (.v 2) (.v 2)) (.mul (.c 2) (.mul (.v 0) (.v 0)))), (.or (.eq (.v 3) (.mul (.v 0) (.c 2))) (.lt (.mul (.c 2) (.mul (.v 0) (.v 0))) (.mul (.add (.v 3) (.c 1)) (.add (.v 3) (.c 1))))), (.le (.c 0) (.v 0)), (.le (.v 0) (.c 34359738368))], []⟩,
⟨(.must (.lt (.sub (.shr .u64 (.add (.v 2) (.v 3)) (.c 1)) (.v 2)) (.sub (.v 3) (.v 2)))), [(.lt (.rem (.mul (.v 0) (.mul (.c 2) (.v 0))) (.c 18446744073709551616)) (.rem (.mul (.add (.shr .u64 (.add (.v 2) (.v 3)) (.c 1)) (.c 1)) (.add (.shr .u64 (.add (.v 2) (.v 3)) (.c 1)) (.c 1))) (.c 18446744073709551616))), (.eq (.quo (.mul (.add (.shr .u64 (.add (.v 2) (.v 3)) (.c 1)) (.c 1)) (.add (.shr .u64 (.add (.v 2) (.v 3)) (.c 1)) (.c 1))) (.c 18446744073709551616)) (.quo (.mul (.v 0) (.mul (.c 2) (.v 0))) (.c 18446744073709551616))), (.le (.quo (.mul (.add (.shr .u64 (.add (.v 2) (.v 3)) (.c 1)) (.c 1)) (.add (.shr .u64 (.add (.v 2) (.v 3)) (.c 1)) (.c 1))) (.c 18446744073709551616)) (.quo (.mul (.v 0) (.mul (.c 2) (.v 0))) (.c 18446744073709551616))), (.lt (.v 2) (.v 3)), (.le (.c 0) (.v 2)), (.le (.v 2) (.v 3)), (.le (.v 2) (.c 68719476736)), (.le (.c 0) (.v 3)), (.le (.v 3) (.c 68719476736)), (.le (.v 3) (.mul (.v 0) (.c 2))), (.le (.mul (.v 2) (.v 2)) (.mul (.c 2) (.mul (.v 0) (.v 0)))), (.or (.eq (.v 3) (.mul (.v 0) (.c 2))) (.lt (.mul (.c 2) (.mul (.v 0) (.v 0))) (.mul (.add (.v 3) (.c 1)) (.add (.v 3) (.c 1))))), (.le (.c 0) (.v 0)), (.le (.v 0) (.c 34359738368))], []⟩,
⟨(.must (.le (.c 0) (.sub (.shr .u64 (.add (.v 2) (.v 3)) (.c 1)) (.v 2)))), [(.lt (.rem (.mul (.v 0) (.mul (.c 2) (.v 0))) (.c 18446744073709551616)) (.rem (.mul (.add (.shr .u64 (.add (.v 2) (.v 3)) (.c 1)) (.c 1)) (.add (.shr .u64 (.add (.v 2) (.v 3)) (.c 1)) (.c 1))) (.c 18446744073709551616))), (.eq (.quo (.mul (.add (.shr .u64 (.add (.v 2) (.v 3)) (.c 1)) (.c 1)) (.add (.shr .u64 (.add (.v 2) (.v 3)) (.c 1)) (.c 1))) (.c 18446744073709551616)) (.quo (.mul (.v 0) (.mul (.c 2) (.v 0))) (.c 18446744073709551616))), (.le (.quo (.mul (.add (.shr .u64 (.add (.v 2) (.v 3)) (.c 1)) (.c 1)) (.add (.shr .u64 (.add (.v 2) (.v 3)) (.c 1)) (.c 1))) (.c 18446744073709551616)) (.quo (.mul (.v 0) (.mul (.c 2) (.v 0))) (.c 18446744073709551616))), (.lt (.v 2) (.v 3)), (.le (.c 0) (.v 2)), (.le (.v 2) (.v 3)), (.le (.v 2) (.c 68719476736)), (.le (.c 0) (.v 3)), (.le (.v 3) (.c 68719476736)), (.le (.v 3) (.mul (.v 0) (.c 2))), (.le (.mul (.v 2) (.v 2)) (.mul (.c 2) (.mul (.v 0) (.v 0)))), (.or (.eq (.v 3) (.mul (.v 0) (.c 2))) (.lt (.mul (.c 2) (.mul (.v 0) (.v 0))) (.mul (.add (.v 3) (.c 1)) (.add (.v 3) (.c 1))))), (.le (.c 0) (.v 0)), (.le (.v 0) (.c 34359738368))], []⟩,
⟨(.must (.le (.add (.shr .u64 (.add (.v 2) (.v 3)) (.c 1)) (.c 1)) (.v 3))), [(.not (.eq (.quo (.mul (.add (.shr .u64 (.add (.v 2) (.v 3)) (.c 1)) (.c 1)) (.add (.shr .u64 (.add (.v 2) (.v 3)) (.c 1)) (.c 1))) (.c 18446744073709551616)) (.quo (.mul (.v 0) (.mul (.c 2) (.v 0))) (.c 18446744073709551616)))), (.le (.quo (.mul (.add (.shr .u64 (.add (.v 2) (.v 3)) (.c 1)) (.c 1)) (.add (.shr .u64 (.add (.v 2) (.v 3)) (.c 1)) (.c 1))) (.c 18446744073709551616)) (.quo (.mul (.v 0) (.mul (.c 2) (.v 0))) (.c 18446744073709551616))), (.lt (.v 2) (.v 3)), (.le (.c 0) (.v 2)), (.le (.v 2) (.v 3)), (.le (.v 2) (.c 68719476736)), (.le (.c 0) (.v 3)), (.le (.v 3) (.c 68719476736)), (.le (.v 3) (.mul (.v 0) (.c 2))), (.le (.mul (.v 2) (.v 2)) (.mul (.c 2) (.mul (.v 0) (.v 0)))), (.or (.eq (.v 3) (.mul (.v 0) (.c 2))) (.lt (.mul (.c 2) (.mul (.v 0) (.v 0))) (.mul (.add (.v 3) (.c 1)) (.add (.v 3) (.c 1))))), (.le (.c 0) (.v 0)), (.le (.v 0) (.c 34359738368))], []⟩,
⟨(.must (.le (.add (.shr .u64 (.add (.v 2) (.v 3)) (.c 1)) (.c 1)) (.c 68719476736))), [(.not (.eq (.quo (.mul (.add (.shr .u64 (.add (.v 2) (.v 3)) (.c 1)) (.c 1)) (.add (.shr .u64 (.add (.v 2) (.v 3)) (.c 1)) (.c 1))) (.c 18446744073709551616)) (.quo (.mul (.v 0) (.mul (.c 2) (.v 0))) (.c 18446744073709551616)))), (.le (.quo (.mul (.add (.shr .u64 (.add (.v 2) (.v 3)) (.c 1)) (.c 1)) (.add (.shr .u64 (.add (.v 2) (.v 3)) (.c 1)) (.c 1))) (.c 18446744073709551616)) (.quo (.mul (.v 0) (.mul (.c 2) (.v 0))) (.c 18446744073709551616))), (.lt (.v 2) (.v 3)), (.le (.c 0) (.v 2)), (.le (.v 2) (.v 3)), (.le (.v 2) (.c 68719476736)), (.le (.c 0) (.v 3)), (.le (.v 3) (.c 68719476736)), (.le (.v 3) (.mul (.v 0) (.c 2))), (.le (.mul (.v 2) (.v 2)) (.mul (.c 2) (.mul (.v 0) (.v 0)))), (.or (.eq (.v 3) (.mul (.v 0) (.c 2))) (.lt (.mul (.c 2) (.mul (.v 0) (.v 0))) (.mul (.add (.v 3) (.c 1)) (.add (.v 3) (.c 1))))), (.le (.c 0) (.v 0)), (.le (.v 0) (.c 34359738368))], []⟩,
⟨(.must (.le (.mul (.add (.shr .u64 (.add (.v 2) (.v 3)) (.c 1)) (.c 1)) (.add (.shr .u64 (.add (.v 2) (.v 3)) (.c 1)) (.c 1))) (.mul (.c 2) (.mul (.v 0) (.v 0))))), [(.not (.eq (.quo (.mul (.add (.shr .u64 (.add (.v 2) (.v 3)) (.c 1)) (.c 1)) (.add (.shr .u64 (.add (.v 2) (.v 3)) (.c 1)) (.c 1))) (.c 18446744073709551616)) (.quo (.mul (.v 0) (.mul (.c 2) (.v 0))) (.c 18446744073709551616)))), (.le (.quo (.mul (.add (.shr .u64 (.add (.v 2) (.v 3)) (.c 1)) (.c 1)) (.add (.shr .u64 (.add (.v 2) (.v 3)) (.c 1)) (.c 1))) (.c 18446744073709551616)) (.quo (.mul (.v 0) (.mul (.c 2) (.v 0))) (.c 18446744073709551616))), (.lt (.v 2) (.v 3)), (.le (.c 0) (.v 2)), (.le (.v 2) (.v 3)), (.le (.v 2) (.c 68719476736)), (.le (.c 0) (.v 3)), (.le (.v 3) (.c 68719476736)), (.le (.v 3) (.mul (.v 0) (.c 2))), (.le (.mul (.v 2) (.v 2)) (.mul (.c 2) (.mul (.v 0) (.v 0)))), (.or (.eq (.v 3) (.mul (.v 0) (.c 2))) (.lt (.mul (.c 2) (.mul (.v 0) (.v 0))) (.mul (.add (.v 3) (.c 1)) (.add (.v 3) (.c 1))))), (.le (.c 0) (.v 0)), (.le (.v 0) (.c 34359738368))], []⟩,
⟨(.must (.lt (.sub (.v 3) (.add (.shr .u64 (.add (.v 2) (.v 3)) (.c 1)) (.c 1))) (.sub (.v 3) (.v 2)))), [(.not (.eq (.quo (.mul (.add (.shr .u64 (.add (.v 2) (.v 3)) (.c 1)) (.c 1)) (.add (.shr .u64 (.add (.v 2) (.v 3)) (.c 1)) (.c 1))) (.c 18446744073709551616)) (.quo (.mul (.v 0) (.mul (.c 2) (.v 0))) (.c 18446744073709551616)))), (.le (.quo (.mul (.add (.shr .u64 (.add (.v 2) (.v 3)) (.c 1)) (.c 1)) (.add (.shr .u64 (.add (.v 2) (.v 3)) (.c 1)) (.c 1))) (.c 18446744073709551616)) (.quo (.mul (.v 0) (.mul (.c 2) (.v 0))) (.c 18446744073709551616))), (.lt (.v 2) (.v 3)), (.le (.c 0) (.v 2)), (.le (.v 2) (.v 3)), (.le (.v 2) (.c 68719476736)), (.le (.c 0) (.v 3)), (.le (.v 3) (.c 68719476736)), (.le (.v 3) (.mul (.v 0) (.c 2))), (.le (.mul (.v 2) (.v 2)) (.mul (.c 2) (.mul (.v 0) (.v 0)))), (.or (.eq (.v 3) (.mul (.v 0) (.c 2))) (.lt (.mul (.c 2) (.mul (.v 0) (.v 0))) (.mul (.add (.v 3) (.c 1)) (.add (.v 3) (.c 1))))), (.le (.c 0) (.v 0)), (.le (.v 0) (.c 34359738368))], []⟩,
⟨(.must (.le (.c 0) (.sub (.v 3) (.add (.shr .u64 (.add (.v 2) (.v 3)) (.c 1)) (.c 1))))), [(.not (.eq (.quo (.mul (.add (.shr .u64 (.add (.v 2) (.v 3)) (.c 1)) (.c 1)) (.add (.shr .u64 (.add (.v 2) (.v 3)) (.c 1)) (.c 1))) (.c 18446744073709551616)) (.quo (.mul (.v 0) (.mul (.c 2) (.v 0))) (.c 18446744073709551616)))), (.le (.quo (.mul (.add (.shr .u64 (.add (.v 2) (.v 3)) (.c 1)) (.c 1)) (.add (.shr .u64 (.add (.v 2) (.v 3)) (.c 1)) (.c 1))) (.c 18446744073709551616)) (.quo (.mul (.v 0) (.mul (.c 2) (.v 0))) (.c 18446744073709551616))), (.lt (.v 2) (.v 3)), (.le (.c 0) (.v 2)), (.le (.v 2) (.v 3)), (.le (.v 2) (.c 68719476736)), (.le (.c 0) (.v 3)), (.le (.v 3) (.c 68719476736)), (.le (.v 3) (.mul (.v 0) (.c 2))), (.le (.mul (.v 2) (.v 2)) (.mul (.c 2) (.mul (.v 0) (.v 0)))), (.or (.eq (.v 3) (.mul (.v 0) (.c 2))) (.lt (.mul (.c 2) (.mul (.v 0) (.v 0))) (.mul (.add (.v 3) (.c 1)) (.add (.v 3) (.c 1))))), (.le (.c 0) (.v 0)), (.le (.v 0) (.c 34359738368))], []⟩,
⟨(.val (.i .i64 (.v 2))), [(.le (.v 3) (.v 2)), (.le (.c 0) (.v 2)), (.le (.v 2) (.v 3)), (.le (.v 2) (.c 68719476736)), (.le (.c 0) (.v 3)), (.le (.v 3) (.c 68719476736)), (.le (.v 3) (.mul (.v 0) (.c 2))), (.le (.mul (.v 2) (.v 2)) (.mul (.c 2) (.mul (.v 0) (.v 0)))), (.or (.eq (.v 3) (.mul (.v 0) (.c 2))) (.lt (.mul (.c 2) (.mul (.v 0) (.v 0))) (.mul (.add (.v 3) (.c 1)) (.add (.v 3) (.c 1))))), (.le (.c 0) (.v 0)), (.le (.v 0) (.c 34359738368))], []⟩] (by kernel_rfl) ρ w hF hT hR ⟨?_, ?_, ?_, ?_, ?_, ?_, ?_, ?_, ?_, ?_, ?_, ?_, ?_, ?_, ?_, ?_, ?_, ?_, ?_, ?_, ?_, ?_, ?_⟩ (u.J w)
  all_goals
    intro ρ' w' hx _ hF hb _
    have e0 : ρ'.i 0 = ρ.i 0 := hx.i 0 (by decide)
    clear hx hR
    simp only [holds, List.mem_cons, List.not_mem_nil, or_false, forall_eq_or_imp, forall_eq, B_le, B_lt, B_eq, B_not, B_or, I_add, I_sub, I_mul, I_quo, I_rem, I_shr, I_c, I_v, e0, g_4 hg, decide_eq_true_eq, Bool.not_eq_true', Bool.or_eq_true, decide_eq_false_iff_not, den_i] at hF ⊢
    have hs := root2_spec (d := ρ.i 0) (by omega)
    have e2 : ρ.i 0 * (2 * ρ.i 0) = 2 * (ρ.i 0 * ρ.i 0) := by grind
    have n1 := sq_nn (ρ.i 0)
    try simp only [e2] at hF ⊢
    first
      | omega
      | (have n2 := sq_nn ((ρ'.i 2 + ρ'.i 3).fdiv (2 ^ min (Int.toNat 1) IntKind.u64.bits) + 1)
         rw [shr1 (x := ρ'.i 2 + ρ'.i 3) (by omega)] at *
         rw [Int.tdiv_eq_ediv_of_nonneg (by omega), Int.tdiv_eq_ediv_of_nonneg (by omega)] at hF
         try rw [Int.tmod_eq_emod_of_nonneg (by omega), Int.tmod_eq_emod_of_nonneg (by omega)] at hF
         generalize hm : (ρ'.i 2 + ρ'.i 3) / 2 = m at hF n2 ⊢
         generalize (m + 1) * (m + 1) = A at hF n2 ⊢
         omega)
      | (have hm : (ρ'.i 2 + ρ'.i 3).fdiv (2 ^ min (Int.toNat 1) IntKind.u64.bits) = (ρ'.i 2 + ρ'.i 3) / 2 := shr1 (by omega)
         rw [hm]
         omega)
      | (have hq : ρ'.i 2 = ρ'.i 3 := by omega
         have hr : ρ'.i 2 = root2 (ρ.i 0) := by
           refine root2_is (by omega) (by omega) (by omega) ?_
           rcases hF with ⟨z1, z2, z3, z4, z5, z6, z7, z8, z9, z10⟩
           rcases z9 with z | z
           · have h5 := sq_lt (a := ρ.i 0) (b := ρ.i 0 + 1) (by omega) (by omega)
             rw [hq, z]
             have h4 : (ρ.i 0 * 2 + 1) * (ρ.i 0 * 2 + 1) = 4 * (ρ.i 0 * ρ.i 0) + 4 * ρ.i 0 + 1 := by grind
             omega
           · rw [hq]; exact z
         exact ⟨⟨by rw [hr], by omega⟩, hb⟩)
end Go.Proofs.Ythihccmombcihaa.Tk
end
section
namespace Go.Proofs.Ythihccmombcihaa.Tk
open Go Go.Proofs.Ythihccmombcihaa.Sx Go.RowKit
variable {TT : Tb}
theorem sumTo_succ (f : Int → Int) {k : Int} (h : 0 ≤ k) : sumTo f (k + 1).toNat = sumTo f k.toNat + f k := by
  rw [show (k + 1).toNat = k.toNat + 1 by omega]
  simp only [sumTo]
  rw [Int.toNat_of_nonneg h]
theorem strW_rng {l : LL} {n k : Int} (h : allTo n (spB l) = true) (h0 : 0 ≤ k) (hk : k < n) : 0 ≤ strW l k ∧ strW l k + diaW l k ≤ 67108864 ∧ 0 ≤ diaW l k ∧ diaW l k ≤ 33554432 := by
  unfold strW diaW
  by_cases hz : k = 0
  · simp [hz]
  · have p := spB_iff.1 (allTo_at h h0 hk)
    have q := spB_iff.1 (allTo_at h (k := k - 1) (by omega) (by omega))
    rw [if_neg hz, if_neg hz]
    have a1 := ab_or (sX l k - sX l (k - 1))
    have a2 := ab_or (sY l k - sY l (k - 1))
    split <;> omega
theorem strF_rng {l : LL} {n : Int} (h : allTo n (spB l) = true) : ∀ k : Nat, (k : Int) ≤ n → 0 ≤ sumTo (strW l) k ∧ sumTo (strW l) k ≤ 67108864 * k ∧ 0 ≤ sumTo (diaW l) k ∧ sumTo (diaW l) k ≤ 33554432 * k
  | 0, _ => by simp [sumTo]
  | k + 1, hk => by
    have ih := strF_rng h k (by omega)
    have w := strW_rng h (k := k) (by omega) (by omega)
    simp only [sumTo]
    omega
/-! ### Length -/
def lenK : List AK := [rowK]
def lenV : V := .tup (V.ofL [.i .i64 (gE 1 0), .i .i64 (gE 2 0), .i .i64 (gE 3 0)])
def lenFs : List E := [.le (.c 0) (gE 1 0), .le (gE 1 0) (.c 206158430208), .le (.c 0) (gE 2 0), .le (gE 2 0) (.c 206158430208)]
def cLen := ctrVal 7 lenK [] lenV lenFs
def cLenR := ctrVal 8 lenK [] lenV lenFs
def lenL : LoopSpec := { key := 1, locs := [.t 3 (.i .i64), .h (.n 1) 0 (.i .i64), .h (.n 2) 0 (.i .i64)], facts := fun n => [.le (.c 1) (.v n), .le (.v n) (.v 0), .le (.v n) (.c 1024), .le (.c 0) (.v (n+1)), .le (.v (n+1)) (.c 68719476736), .le (.c 0) (.v (n+2)), .le (.v (n+2)) (.c 34359738368), .eq (.v (n+1)) (.app 5 (.cons (.v n) (.lv 0))), .eq (.v (n+2)) (.app 6 (.cons (.v n) (.lv 0)))], meas := fun n => .sub (.v 0) (.v n) }
def lenG : Ctx := { calls := [cTrack, cRoot], loops := [lenL] }
theorem ab_max (x y : Int) : (if ab x < ab y then ab y else ab x) = max (ab x) (ab y) := by omega
theorem len_vals {ρ : Env} (hg : ρ.g = gF) : lenV.den ρ = .tuple #[.int .i64 (lowF (ρ.i 0) (ρ.l 0)), .int .i64 (highF (ρ.i 0) (ρ.l 0)), .int .i64 (errT (ρ.i 0) (ρ.l 0))] := by
  simp only [lenV, V.ofL, gE, den_tup, dens_cons, dens_nil, den_i, g_1 hg, g_2 hg, g_3 hg, I_v, L_lv]
theorem low_rng (n : Int) (l : LL) : 0 ≤ lowF n l ∧ lowF n l ≤ 206158430208 ∧ 0 ≤ highF n l ∧ highF n l ≤ 206158430208 := by
  unfold lowF highF
  by_cases h : trackB n l = true
  · have t := track_iff.1 h
    have r := strF_rng t.2.1 n.toNat (by omega)
    have hs := root2_spec (d := diaF n l) (by unfold diaF; omega)
    unfold strF diaF at *
    rw [if_pos h, if_pos h]
    split <;> omega
  · rw [if_neg h, if_neg h]; omega
theorem len_facts {ρ : Env} (hg : ρ.g = gF) : ∀ e ∈ lenFs, e.B ρ = true := by
  have h := low_rng (ρ.i 0) (ρ.l 0)
  simp only [lenFs, gE, List.mem_cons, List.not_mem_nil, or_false, forall_eq_or_imp, forall_eq, B_le, I_c, g_1 hg, g_2 hg, I_v, L_lv, decide_eq_true_eq]
  omega
theorem len_end {ρ : Env} (hg : ρ.g = gF) {w w' : World} {a b c : Int} (h : a = lowF (ρ.i 0) (ρ.l 0) ∧ b = highF (ρ.i 0) (ρ.l 0) ∧ c = errT (ρ.i 0) (ρ.l 0)) (hb : Below w.heap.size w w') : (Ending.returned (.tuple #[.int .i64 a, .int .i64 b, .int .i64 c]) = .returned (lenV.den ρ) ∧ ∀ e ∈ lenFs, e.B ρ = true) ∧ Below w.heap.size w w' := by
  obtain ⟨rfl, rfl, rfl⟩ := h
  exact ⟨⟨by rw [len_vals hg], len_facts hg⟩, hb⟩
theorem len_ok (u : Fit TT) : CtrOk TT Try.prog cLen := ctrVal_ok rfl fun ρ w hF0 hT hR => by
  have hg := (u.tab hT).1
  have hh := (u.tab hT).2
  have hF := nF_of hR (row_in [])
  refine pat_callsD dd_ok (Γ := lenG) (by simpa [lenG] using ⟨isTrack_ok u.open, root_ok u.open⟩) 400 lenK (nF 0)
    [⟨(.must (.eq (.c 0) (.app 5 (.cons (.c 1) (.lv 0))))), [(.happ 3 (.cons (.v 0) (.lv 0))), (.le (.c 2) (.v 0)), (.le (.v 0) (.c 1024)), (.allr (-16777216) 16777216 (.lv 0)), (.le (.c 0) (.v 0)), (.le (.v 0) (.c 9223372036854775807))], []⟩,
⟨(.must (.eq (.c 0) (.app 6 (.cons (.c 1) (.lv 0))))), [(.happ 3 (.cons (.v 0) (.lv 0))), (.le (.c 2) (.v 0)), (.le (.v 0) (.c 1024)), (.allr (-16777216) 16777216 (.lv 0)), (.le (.c 0) (.v 0)), (.le (.v 0) (.c 9223372036854775807))], []⟩,
⟨(.must (.le (.c 0) (.add (.v 8) (.ite (.lt (.sub (.nthI (.lv 0) (.mul (.v 6) (.c 2))) (.nthI (.lv 0) (.mul (.sub (.v 6) (.c 1)) (.c 2)))) (.sub (.c 0) (.sub (.nthI (.lv 0) (.mul (.v 6) (.c 2))) (.nthI (.lv 0) (.mul (.sub (.v 6) (.c 1)) (.c 2)))))) (.sub (.c 0) (.sub (.nthI (.lv 0) (.mul (.v 6) (.c 2))) (.nthI (.lv 0) (.mul (.sub (.v 6) (.c 1)) (.c 2))))) (.sub (.nthI (.lv 0) (.mul (.v 6) (.c 2))) (.nthI (.lv 0) (.mul (.sub (.v 6) (.c 1)) (.c 2)))))))), [(.eq (.ite (.lt (.sub (.nthI (.lv 0) (.mul (.v 6) (.c 2))) (.nthI (.lv 0) (.mul (.sub (.v 6) (.c 1)) (.c 2)))) (.sub (.c 0) (.sub (.nthI (.lv 0) (.mul (.v 6) (.c 2))) (.nthI (.lv 0) (.mul (.sub (.v 6) (.c 1)) (.c 2)))))) (.sub (.c 0) (.sub (.nthI (.lv 0) (.mul (.v 6) (.c 2))) (.nthI (.lv 0) (.mul (.sub (.v 6) (.c 1)) (.c 2))))) (.sub (.nthI (.lv 0) (.mul (.v 6) (.c 2))) (.nthI (.lv 0) (.mul (.sub (.v 6) (.c 1)) (.c 2))))) (.ite (.lt (.sub (.nthI (.lv 0) (.add (.mul (.v 6) (.c 2)) (.c 1))) (.nthI (.lv 0) (.add (.mul (.sub (.v 6) (.c 1)) (.c 2)) (.c 1)))) (.sub (.c 0) (.sub (.nthI (.lv 0) (.add (.mul (.v 6) (.c 2)) (.c 1))) (.nthI (.lv 0) (.add (.mul (.sub (.v 6) (.c 1)) (.c 2)) (.c 1)))))) (.sub (.c 0) (.sub (.nthI (.lv 0) (.add (.mul (.v 6) (.c 2)) (.c 1))) (.nthI (.lv 0) (.add (.mul (.sub (.v 6) (.c 1)) (.c 2)) (.c 1))))) (.sub (.nthI (.lv 0) (.add (.mul (.v 6) (.c 2)) (.c 1))) (.nthI (.lv 0) (.add (.mul (.sub (.v 6) (.c 1)) (.c 2)) (.c 1)))))), (.lt (.sub (.v 6) (.c 1)) (.v 0)), (.lt (.v 6) (.v 0)), (.le (.c 1) (.v 6)), (.le (.v 6) (.v 0)), (.le (.v 6) (.c 1024)), (.le (.c 0) (.v 7)), (.le (.v 7) (.c 68719476736)), (.le (.c 0) (.v 8)), (.le (.v 8) (.c 34359738368)), (.eq (.v 7) (.app 5 (.cons (.v 6) (.lv 0)))), (.eq (.v 8) (.app 6 (.cons (.v 6) (.lv 0)))), (.happ 3 (.cons (.v 0) (.lv 0))), (.le (.c 2) (.v 0)), (.le (.v 0) (.c 1024)), (.allr (-16777216) 16777216 (.lv 0)), (.le (.c 0) (.v 0)), (.le (.v 0) (.c 9223372036854775807))], []⟩,
⟨(.must (.le (.add (.v 8) (.ite (.lt (.sub (.nthI (.lv 0) (.mul (.v 6) (.c 2))) (.nthI (.lv 0) (.mul (.sub (.v 6) (.c 1)) (.c 2)))) (.sub (.c 0) (.sub (.nthI (.lv 0) (.mul (.v 6) (.c 2))) (.nthI (.lv 0) (.mul (.sub (.v 6) (.c 1)) (.c 2)))))) (.sub (.c 0) (.sub (.nthI (.lv 0) (.mul (.v 6) (.c 2))) (.nthI (.lv 0) (.mul (.sub (.v 6) (.c 1)) (.c 2))))) (.sub (.nthI (.lv 0) (.mul (.v 6) (.c 2))) (.nthI (.lv 0) (.mul (.sub (.v 6) (.c 1)) (.c 2)))))) (.c 34359738368))), [(.eq (.ite (.lt (.sub (.nthI (.lv 0) (.mul (.v 6) (.c 2))) (.nthI (.lv 0) (.mul (.sub (.v 6) (.c 1)) (.c 2)))) (.sub (.c 0) (.sub (.nthI (.lv 0) (.mul (.v 6) (.c 2))) (.nthI (.lv 0) (.mul (.sub (.v 6) (.c 1)) (.c 2)))))) (.sub (.c 0) (.sub (.nthI (.lv 0) (.mul (.v 6) (.c 2))) (.nthI (.lv 0) (.mul (.sub (.v 6) (.c 1)) (.c 2))))) (.sub (.nthI (.lv 0) (.mul (.v 6) (.c 2))) (.nthI (.lv 0) (.mul (.sub (.v 6) (.c 1)) (.c 2))))) (.ite (.lt (.sub (.nthI (.lv 0) (.add (.mul (.v 6) (.c 2)) (.c 1))) (.nthI (.lv 0) (.add (.mul (.sub (.v 6) (.c 1)) (.c 2)) (.c 1)))) (.sub (.c 0) (.sub (.nthI (.lv 0) (.add (.mul (.v 6) (.c 2)) (.c 1))) (.nthI (.lv 0) (.add (.mul (.sub (.v 6) (.c 1)) (.c 2)) (.c 1)))))) (.sub (.c 0) (.sub (.nthI (.lv 0) (.add (.mul (.v 6) (.c 2)) (.c 1))) (.nthI (.lv 0) (.add (.mul (.sub (.v 6) (.c 1)) (.c 2)) (.c 1))))) (.sub (.nthI (.lv 0) (.add (.mul (.v 6) (.c 2)) (.c 1))) (.nthI (.lv 0) (.add (.mul (.sub (.v 6) (.c 1)) (.c 2)) (.c 1)))))), (.lt (.sub (.v 6) (.c 1)) (.v 0)), (.lt (.v 6) (.v 0)), (.le (.c 1) (.v 6)), (.le (.v 6) (.v 0)), (.le (.v 6) (.c 1024)), (.le (.c 0) (.v 7)), (.le (.v 7) (.c 68719476736)), (.le (.c 0) (.v 8)), (.le (.v 8) (.c 34359738368)), (.eq (.v 7) (.app 5 (.cons (.v 6) (.lv 0)))), (.eq (.v 8) (.app 6 (.cons (.v 6) (.lv 0)))), (.happ 3 (.cons (.v 0) (.lv 0))), (.le (.c 2) (.v 0)), (.le (.v 0) (.c 1024)), (.allr (-16777216) 16777216 (.lv 0)), (.le (.c 0) (.v 0)), (.le (.v 0) (.c 9223372036854775807))], []⟩,
⟨(.must (.eq (.v 7) (.app 5 (.cons (.add (.v 6) (.c 1)) (.lv 0))))), [(.eq (.ite (.lt (.sub (.nthI (.lv 0) (.mul (.v 6) (.c 2))) (.nthI (.lv 0) (.mul (.sub (.v 6) (.c 1)) (.c 2)))) (.sub (.c 0) (.sub (.nthI (.lv 0) (.mul (.v 6) (.c 2))) (.nthI (.lv 0) (.mul (.sub (.v 6) (.c 1)) (.c 2)))))) (.sub (.c 0) (.sub (.nthI (.lv 0) (.mul (.v 6) (.c 2))) (.nthI (.lv 0) (.mul (.sub (.v 6) (.c 1)) (.c 2))))) (.sub (.nthI (.lv 0) (.mul (.v 6) (.c 2))) (.nthI (.lv 0) (.mul (.sub (.v 6) (.c 1)) (.c 2))))) (.ite (.lt (.sub (.nthI (.lv 0) (.add (.mul (.v 6) (.c 2)) (.c 1))) (.nthI (.lv 0) (.add (.mul (.sub (.v 6) (.c 1)) (.c 2)) (.c 1)))) (.sub (.c 0) (.sub (.nthI (.lv 0) (.add (.mul (.v 6) (.c 2)) (.c 1))) (.nthI (.lv 0) (.add (.mul (.sub (.v 6) (.c 1)) (.c 2)) (.c 1)))))) (.sub (.c 0) (.sub (.nthI (.lv 0) (.add (.mul (.v 6) (.c 2)) (.c 1))) (.nthI (.lv 0) (.add (.mul (.sub (.v 6) (.c 1)) (.c 2)) (.c 1))))) (.sub (.nthI (.lv 0) (.add (.mul (.v 6) (.c 2)) (.c 1))) (.nthI (.lv 0) (.add (.mul (.sub (.v 6) (.c 1)) (.c 2)) (.c 1)))))), (.lt (.sub (.v 6) (.c 1)) (.v 0)), (.lt (.v 6) (.v 0)), (.le (.c 1) (.v 6)), (.le (.v 6) (.v 0)), (.le (.v 6) (.c 1024)), (.le (.c 0) (.v 7)), (.le (.v 7) (.c 68719476736)), (.le (.c 0) (.v 8)), (.le (.v 8) (.c 34359738368)), (.eq (.v 7) (.app 5 (.cons (.v 6) (.lv 0)))), (.eq (.v 8) (.app 6 (.cons (.v 6) (.lv 0)))), (.happ 3 (.cons (.v 0) (.lv 0))), (.le (.c 2) (.v 0)), (.le (.v 0) (.c 1024)), (.allr (-16777216) 16777216 (.lv 0)), (.le (.c 0) (.v 0)), (.le (.v 0) (.c 9223372036854775807))], []⟩,
⟨(.must (.eq (.add (.v 8) (.ite (.lt (.sub (.nthI (.lv 0) (.mul (.v 6) (.c 2))) (.nthI (.lv 0) (.mul (.sub (.v 6) (.c 1)) (.c 2)))) (.sub (.c 0) (.sub (.nthI (.lv 0) (.mul (.v 6) (.c 2))) (.nthI (.lv 0) (.mul (.sub (.v 6) (.c 1)) (.c 2)))))) (.sub (.c 0) (.sub (.nthI (.lv 0) (.mul (.v 6) (.c 2))) (.nthI (.lv 0) (.mul (.sub (.v 6) (.c 1)) (.c 2))))) (.sub (.nthI (.lv 0) (.mul (.v 6) (.c 2))) (.nthI (.lv 0) (.mul (.sub (.v 6) (.c 1)) (.c 2)))))) (.app 6 (.cons (.add (.v 6) (.c 1)) (.lv 0))))), [(.eq (.ite (.lt (.sub (.nthI (.lv 0) (.mul (.v 6) (.c 2))) (.nthI (.lv 0) (.mul (.sub (.v 6) (.c 1)) (.c 2)))) (.sub (.c 0) (.sub (.nthI (.lv 0) (.mul (.v 6) (.c 2))) (.nthI (.lv 0) (.mul (.sub (.v 6) (.c 1)) (.c 2)))))) (.sub (.c 0) (.sub (.nthI (.lv 0) (.mul (.v 6) (.c 2))) (.nthI (.lv 0) (.mul (.sub (.v 6) (.c 1)) (.c 2))))) (.sub (.nthI (.lv 0) (.mul (.v 6) (.c 2))) (.nthI (.lv 0) (.mul (.sub (.v 6) (.c 1)) (.c 2))))) (.ite (.lt (.sub (.nthI (.lv 0) (.add (.mul (.v 6) (.c 2)) (.c 1))) (.nthI (.lv 0) (.add (.mul (.sub (.v 6) (.c 1)) (.c 2)) (.c 1)))) (.sub (.c 0) (.sub (.nthI (.lv 0) (.add (.mul (.v 6) (.c 2)) (.c 1))) (.nthI (.lv 0) (.add (.mul (.sub (.v 6) (.c 1)) (.c 2)) (.c 1)))))) (.sub (.c 0) (.sub (.nthI (.lv 0) (.add (.mul (.v 6) (.c 2)) (.c 1))) (.nthI (.lv 0) (.add (.mul (.sub (.v 6) (.c 1)) (.c 2)) (.c 1))))) (.sub (.nthI (.lv 0) (.add (.mul (.v 6) (.c 2)) (.c 1))) (.nthI (.lv 0) (.add (.mul (.sub (.v 6) (.c 1)) (.c 2)) (.c 1)))))), (.lt (.sub (.v 6) (.c 1)) (.v 0)), (.lt (.v 6) (.v 0)), (.le (.c 1) (.v 6)), (.le (.v 6) (.v 0)), (.le (.v 6) (.c 1024)), (.le (.c 0) (.v 7)), (.le (.v 7) (.c 68719476736)), (.le (.c 0) (.v 8)), (.le (.v 8) (.c 34359738368)), (.eq (.v 7) (.app 5 (.cons (.v 6) (.lv 0)))), (.eq (.v 8) (.app 6 (.cons (.v 6) (.lv 0)))), (.happ 3 (.cons (.v 0) (.lv 0))), (.le (.c 2) (.v 0)), (.le (.v 0) (.c 1024)), (.allr (-16777216) 16777216 (.lv 0)), (.le (.c 0) (.v 0)), (.le (.v 0) (.c 9223372036854775807))], []⟩,
⟨(.must (.le (.c 0) (.add (.v 7) (.ite (.lt (.ite (.lt (.sub (.nthI (.lv 0) (.mul (.v 6) (.c 2))) (.nthI (.lv 0) (.mul (.sub (.v 6) (.c 1)) (.c 2)))) (.sub (.c 0) (.sub (.nthI (.lv 0) (.mul (.v 6) (.c 2))) (.nthI (.lv 0) (.mul (.sub (.v 6) (.c 1)) (.c 2)))))) (.sub (.c 0) (.sub (.nthI (.lv 0) (.mul (.v 6) (.c 2))) (.nthI (.lv 0) (.mul (.sub (.v 6) (.c 1)) (.c 2))))) (.sub (.nthI (.lv 0) (.mul (.v 6) (.c 2))) (.nthI (.lv 0) (.mul (.sub (.v 6) (.c 1)) (.c 2))))) (.ite (.lt (.sub (.nthI (.lv 0) (.add (.mul (.v 6) (.c 2)) (.c 1))) (.nthI (.lv 0) (.add (.mul (.sub (.v 6) (.c 1)) (.c 2)) (.c 1)))) (.sub (.c 0) (.sub (.nthI (.lv 0) (.add (.mul (.v 6) (.c 2)) (.c 1))) (.nthI (.lv 0) (.add (.mul (.sub (.v 6) (.c 1)) (.c 2)) (.c 1)))))) (.sub (.c 0) (.sub (.nthI (.lv 0) (.add (.mul (.v 6) (.c 2)) (.c 1))) (.nthI (.lv 0) (.add (.mul (.sub (.v 6) (.c 1)) (.c 2)) (.c 1))))) (.sub (.nthI (.lv 0) (.add (.mul (.v 6) (.c 2)) (.c 1))) (.nthI (.lv 0) (.add (.mul (.sub (.v 6) (.c 1)) (.c 2)) (.c 1)))))) (.ite (.lt (.sub (.nthI (.lv 0) (.add (.mul (.v 6) (.c 2)) (.c 1))) (.nthI (.lv 0) (.add (.mul (.sub (.v 6) (.c 1)) (.c 2)) (.c 1)))) (.sub (.c 0) (.sub (.nthI (.lv 0) (.add (.mul (.v 6) (.c 2)) (.c 1))) (.nthI (.lv 0) (.add (.mul (.sub (.v 6) (.c 1)) (.c 2)) (.c 1)))))) (.sub (.c 0) (.sub (.nthI (.lv 0) (.add (.mul (.v 6) (.c 2)) (.c 1))) (.nthI (.lv 0) (.add (.mul (.sub (.v 6) (.c 1)) (.c 2)) (.c 1))))) (.sub (.nthI (.lv 0) (.add (.mul (.v 6) (.c 2)) (.c 1))) (.nthI (.lv 0) (.add (.mul (.sub (.v 6) (.c 1)) (.c 2)) (.c 1))))) (.ite (.lt (.sub (.nthI (.lv 0) (.mul (.v 6) (.c 2))) (.nthI (.lv 0) (.mul (.sub (.v 6) (.c 1)) (.c 2)))) (.sub (.c 0) (.sub (.nthI (.lv 0) (.mul (.v 6) (.c 2))) (.nthI (.lv 0) (.mul (.sub (.v 6) (.c 1)) (.c 2)))))) (.sub (.c 0) (.sub (.nthI (.lv 0) (.mul (.v 6) (.c 2))) (.nthI (.lv 0) (.mul (.sub (.v 6) (.c 1)) (.c 2))))) (.sub (.nthI (.lv 0) (.mul (.v 6) (.c 2))) (.nthI (.lv 0) (.mul (.sub (.v 6) (.c 1)) (.c 2))))))))), [(.not (.eq (.ite (.lt (.sub (.nthI (.lv 0) (.mul (.v 6) (.c 2))) (.nthI (.lv 0) (.mul (.sub (.v 6) (.c 1)) (.c 2)))) (.sub (.c 0) (.sub (.nthI (.lv 0) (.mul (.v 6) (.c 2))) (.nthI (.lv 0) (.mul (.sub (.v 6) (.c 1)) (.c 2)))))) (.sub (.c 0) (.sub (.nthI (.lv 0) (.mul (.v 6) (.c 2))) (.nthI (.lv 0) (.mul (.sub (.v 6) (.c 1)) (.c 2))))) (.sub (.nthI (.lv 0) (.mul (.v 6) (.c 2))) (.nthI (.lv 0) (.mul (.sub (.v 6) (.c 1)) (.c 2))))) (.ite (.lt (.sub (.nthI (.lv 0) (.add (.mul (.v 6) (.c 2)) (.c 1))) (.nthI (.lv 0) (.add (.mul (.sub (.v 6) (.c 1)) (.c 2)) (.c 1)))) (.sub (.c 0) (.sub (.nthI (.lv 0) (.add (.mul (.v 6) (.c 2)) (.c 1))) (.nthI (.lv 0) (.add (.mul (.sub (.v 6) (.c 1)) (.c 2)) (.c 1)))))) (.sub (.c 0) (.sub (.nthI (.lv 0) (.add (.mul (.v 6) (.c 2)) (.c 1))) (.nthI (.lv 0) (.add (.mul (.sub (.v 6) (.c 1)) (.c 2)) (.c 1))))) (.sub (.nthI (.lv 0) (.add (.mul (.v 6) (.c 2)) (.c 1))) (.nthI (.lv 0) (.add (.mul (.sub (.v 6) (.c 1)) (.c 2)) (.c 1))))))), (.lt (.sub (.v 6) (.c 1)) (.v 0)), (.lt (.v 6) (.v 0)), (.le (.c 1) (.v 6)), (.le (.v 6) (.v 0)), (.le (.v 6) (.c 1024)), (.le (.c 0) (.v 7)), (.le (.v 7) (.c 68719476736)), (.le (.c 0) (.v 8)), (.le (.v 8) (.c 34359738368)), (.eq (.v 7) (.app 5 (.cons (.v 6) (.lv 0)))), (.eq (.v 8) (.app 6 (.cons (.v 6) (.lv 0)))), (.happ 3 (.cons (.v 0) (.lv 0))), (.le (.c 2) (.v 0)), (.le (.v 0) (.c 1024)), (.allr (-16777216) 16777216 (.lv 0)), (.le (.c 0) (.v 0)), (.le (.v 0) (.c 9223372036854775807))], []⟩,
⟨(.must (.le (.add (.v 7) (.ite (.lt (.ite (.lt (.sub (.nthI (.lv 0) (.mul (.v 6) (.c 2))) (.nthI (.lv 0) (.mul (.sub (.v 6) (.c 1)) (.c 2)))) (.sub (.c 0) (.sub (.nthI (.lv 0) (.mul (.v 6) (.c 2))) (.nthI (.lv 0) (.mul (.sub (.v 6) (.c 1)) (.c 2)))))) (.sub (.c 0) (.sub (.nthI (.lv 0) (.mul (.v 6) (.c 2))) (.nthI (.lv 0) (.mul (.sub (.v 6) (.c 1)) (.c 2))))) (.sub (.nthI (.lv 0) (.mul (.v 6) (.c 2))) (.nthI (.lv 0) (.mul (.sub (.v 6) (.c 1)) (.c 2))))) (.ite (.lt (.sub (.nthI (.lv 0) (.add (.mul (.v 6) (.c 2)) (.c 1))) (.nthI (.lv 0) (.add (.mul (.sub (.v 6) (.c 1)) (.c 2)) (.c 1)))) (.sub (.c 0) (.sub (.nthI (.lv 0) (.add (.mul (.v 6) (.c 2)) (.c 1))) (.nthI (.lv 0) (.add (.mul (.sub (.v 6) (.c 1)) (.c 2)) (.c 1)))))) (.sub (.c 0) (.sub (.nthI (.lv 0) (.add (.mul (.v 6) (.c 2)) (.c 1))) (.nthI (.lv 0) (.add (.mul (.sub (.v 6) (.c 1)) (.c 2)) (.c 1))))) (.sub (.nthI (.lv 0) (.add (.mul (.v 6) (.c 2)) (.c 1))) (.nthI (.lv 0) (.add (.mul (.sub (.v 6) (.c 1)) (.c 2)) (.c 1)))))) (.ite (.lt (.sub (.nthI (.lv 0) (.add (.mul (.v 6) (.c 2)) (.c 1))) (.nthI (.lv 0) (.add (.mul (.sub (.v 6) (.c 1)) (.c 2)) (.c 1)))) (.sub (.c 0) (.sub (.nthI (.lv 0) (.add (.mul (.v 6) (.c 2)) (.c 1))) (.nthI (.lv 0) (.add (.mul (.sub (.v 6) (.c 1)) (.c 2)) (.c 1)))))) (.sub (.c 0) (.sub (.nthI (.lv 0) (.add (.mul (.v 6) (.c 2)) (.c 1))) (.nthI (.lv 0) (.add (.mul (.sub (.v 6) (.c 1)) (.c 2)) (.c 1))))) (.sub (.nthI (.lv 0) (.add (.mul (.v 6) (.c 2)) (.c 1))) (.nthI (.lv 0) (.add (.mul (.sub (.v 6) (.c 1)) (.c 2)) (.c 1))))) (.ite (.lt (.sub (.nthI (.lv 0) (.mul (.v 6) (.c 2))) (.nthI (.lv 0) (.mul (.sub (.v 6) (.c 1)) (.c 2)))) (.sub (.c 0) (.sub (.nthI (.lv 0) (.mul (.v 6) (.c 2))) (.nthI (.lv 0) (.mul (.sub (.v 6) (.c 1)) (.c 2)))))) (.sub (.c 0) (.sub (.nthI (.lv 0) (.mul (.v 6) (.c 2))) (.nthI (.lv 0) (.mul (.sub (.v 6) (.c 1)) (.c 2))))) (.sub (.nthI (.lv 0) (.mul (.v 6) (.c 2))) (.nthI (.lv 0) (.mul (.sub (.v 6) (.c 1)) (.c 2))))))) (.c 68719476736))), [(.not (.eq (.ite (.lt (.sub (.nthI (.lv 0) (.mul (.v 6) (.c 2))) (.nthI (.lv 0) (.mul (.sub (.v 6) (.c 1)) (.c 2)))) (.sub (.c 0) (.sub (.nthI (.lv 0) (.mul (.v 6) (.c 2))) (.nthI (.lv 0) (.mul (.sub (.v 6) (.c 1)) (.c 2)))))) (.sub (.c 0) (.sub (.nthI (.lv 0) (.mul (.v 6) (.c 2))) (.nthI (.lv 0) (.mul (.sub (.v 6) (.c 1)) (.c 2))))) (.sub (.nthI (.lv 0) (.mul (.v 6) (.c 2))) (.nthI (.lv 0) (.mul (.sub (.v 6) (.c 1)) (.c 2))))) (.ite (.lt (.sub (.nthI (.lv 0) (.add (.mul (.v 6) (.c 2)) (.c 1))) (.nthI (.lv 0) (.add (.mul (.sub (.v 6) (.c 1)) (.c 2)) (.c 1)))) (.sub (.c 0) (.sub (.nthI (.lv 0) (.add (.mul (.v 6) (.c 2)) (.c 1))) (.nthI (.lv 0) (.add (.mul (.sub (.v 6) (.c 1)) (.c 2)) (.c 1)))))) (.sub (.c 0) (.sub (.nthI (.lv 0) (.add (.mul (.v 6) (.c 2)) (.c 1))) (.nthI (.lv 0) (.add (.mul (.sub (.v 6) (.c 1)) (.c 2)) (.c 1))))) (.sub (.nthI (.lv 0) (.add (.mul (.v 6) (.c 2)) (.c 1))) (.nthI (.lv 0) (.add (.mul (.sub (.v 6) (.c 1)) (.c 2)) (.c 1))))))), (.lt (.sub (.v 6) (.c 1)) (.v 0)), (.lt (.v 6) (.v 0)), (.le (.c 1) (.v 6)), (.le (.v 6) (.v 0)), (.le (.v 6) (.c 1024)), (.le (.c 0) (.v 7)), (.le (.v 7) (.c 68719476736)), (.le (.c 0) (.v 8)), (.le (.v 8) (.c 34359738368)), (.eq (.v 7) (.app 5 (.cons (.v 6) (.lv 0)))), (.eq (.v 8) (.app 6 (.cons (.v 6) (.lv 0)))), (.happ 3 (.cons (.v 0) (.lv 0))), (.le (.c 2) (.v 0)), (.le (.v 0) (.c 1024)), (.allr (-16777216) 16777216 (.lv 0)), (.le (.c 0) (.v 0)), (.le (.v 0) (.c 9223372036854775807))], []⟩,
⟨(.must (.eq (.add (.v 7) (.ite (.lt (.ite (.lt (.sub (.nthI (.lv 0) (.mul (.v 6) (.c 2))) (.nthI (.lv 0) (.mul (.sub (.v 6) (.c 1)) (.c 2)))) (.sub (.c 0) (.sub (.nthI (.lv 0) (.mul (.v 6) (.c 2))) (.nthI (.lv 0) (.mul (.sub (.v 6) (.c 1)) (.c 2)))))) (.sub (.c 0) (.sub (.nthI (.lv 0) (.mul (.v 6) (.c 2))) (.nthI (.lv 0) (.mul (.sub (.v 6) (.c 1)) (.c 2))))) (.sub (.nthI (.lv 0) (.mul (.v 6) (.c 2))) (.nthI (.lv 0) (.mul (.sub (.v 6) (.c 1)) (.c 2))))) (.ite (.lt (.sub (.nthI (.lv 0) (.add (.mul (.v 6) (.c 2)) (.c 1))) (.nthI (.lv 0) (.add (.mul (.sub (.v 6) (.c 1)) (.c 2)) (.c 1)))) (.sub (.c 0) (.sub (.nthI (.lv 0) (.add (.mul (.v 6) (.c 2)) (.c 1))) (.nthI (.lv 0) (.add (.mul (.sub (.v 6) (.c 1)) (.c 2)) (.c 1)))))) (.sub (.c 0) (.sub (.nthI (.lv 0) (.add (.mul (.v 6) (.c 2)) (.c 1))) (.nthI (.lv 0) (.add (.mul (.sub (.v 6) (.c 1)) (.c 2)) (.c 1))))) (.sub (.nthI (.lv 0) (.add (.mul (.v 6) (.c 2)) (.c 1))) (.nthI (.lv 0) (.add (.mul (.sub (.v 6) (.c 1)) (.c 2)) (.c 1)))))) (.ite (.lt (.sub (.nthI (.lv 0) (.add (.mul (.v 6) (.c 2)) (.c 1))) (.nthI (.lv 0) (.add (.mul (.sub (.v 6) (.c 1)) (.c 2)) (.c 1)))) (.sub (.c 0) (.sub (.nthI (.lv 0) (.add (.mul (.v 6) (.c 2)) (.c 1))) (.nthI (.lv 0) (.add (.mul (.sub (.v 6) (.c 1)) (.c 2)) (.c 1)))))) (.sub (.c 0) (.sub (.nthI (.lv 0) (.add (.mul (.v 6) (.c 2)) (.c 1))) (.nthI (.lv 0) (.add (.mul (.sub (.v 6) (.c 1)) (.c 2)) (.c 1))))) (.sub (.nthI (.lv 0) (.add (.mul (.v 6) (.c 2)) (.c 1))) (.nthI (.lv 0) (.add (.mul (.sub (.v 6) (.c 1)) (.c 2)) (.c 1))))) (.ite (.lt (.sub (.nthI (.lv 0) (.mul (.v 6) (.c 2))) (.nthI (.lv 0) (.mul (.sub (.v 6) (.c 1)) (.c 2)))) (.sub (.c 0) (.sub (.nthI (.lv 0) (.mul (.v 6) (.c 2))) (.nthI (.lv 0) (.mul (.sub (.v 6) (.c 1)) (.c 2)))))) (.sub (.c 0) (.sub (.nthI (.lv 0) (.mul (.v 6) (.c 2))) (.nthI (.lv 0) (.mul (.sub (.v 6) (.c 1)) (.c 2))))) (.sub (.nthI (.lv 0) (.mul (.v 6) (.c 2))) (.nthI (.lv 0) (.mul (.sub (.v 6) (.c 1)) (.c 2))))))) (.app 5 (.cons (.add (.v 6) (.c 1)) (.lv 0))))), [(.not (.eq (.ite (.lt (.sub (.nthI (.lv 0) (.mul (.v 6) (.c 2))) (.nthI (.lv 0) (.mul (.sub (.v 6) (.c 1)) (.c 2)))) (.sub (.c 0) (.sub (.nthI (.lv 0) (.mul (.v 6) (.c 2))) (.nthI (.lv 0) (.mul (.sub (.v 6) (.c 1)) (.c 2)))))) (.sub (.c 0) (.sub (.nthI (.lv 0) (.mul (.v 6) (.c 2))) (.nthI (.lv 0) (.mul (.sub (.v 6) (.c 1)) (.c 2))))) (.sub (.nthI (.lv 0) (.mul (.v 6) (.c 2))) (.nthI (.lv 0) (.mul (.sub (.v 6) (.c 1)) (.c 2))))) (.ite (.lt (.sub (.nthI (.lv 0) (.add (.mul (.v 6) (.c 2)) (.c 1))) (.nthI (.lv 0) (.add (.mul (.sub (.v 6) (.c 1)) (.c 2)) (.c 1)))) (.sub (.c 0) (.sub (.nthI (.lv 0) (.add (.mul (.v 6) (.c 2)) (.c 1))) (.nthI (.lv 0) (.add (.mul (.sub (.v 6) (.c 1)) (.c 2)) (.c 1)))))) (.sub (.c 0) (.sub (.nthI (.lv 0) (.add (.mul (.v 6) (.c 2)) (.c 1))) (.nthI (.lv 0) (.add (.mul (.sub (.v 6) (.c 1)) (.c 2)) (.c 1))))) (.sub (.nthI (.lv 0) (.add (.mul (.v 6) (.c 2)) (.c 1))) (.nthI (.lv 0) (.add (.mul (.sub (.v 6) (.c 1)) (.c 2)) (.c 1))))))), (.lt (.sub (.v 6) (.c 1)) (.v 0)), (.lt (.v 6) (.v 0)), (.le (.c 1) (.v 6)), (.le (.v 6) (.v 0)), (.le (.v 6) (.c 1024)), (.le (.c 0) (.v 7)), (.le (.v 7) (.c 68719476736)), (.le (.c 0) (.v 8)), (.le (.v 8) (.c 34359738368)), (.eq (.v 7) (.app 5 (.cons (.v 6) (.lv 0)))), (.eq (.v 8) (.app 6 (.cons (.v 6) (.lv 0)))), (.happ 3 (.cons (.v 0) (.lv 0))), (.le (.c 2) (.v 0)), (.le (.v 0) (.c 1024)), (.allr (-16777216) 16777216 (.lv 0)), (.le (.c 0) (.v 0)), (.le (.v 0) (.c 9223372036854775807))], []⟩,
⟨(.must (.eq (.v 8) (.app 6 (.cons (.add (.v 6) (.c 1)) (.lv 0))))), [(.not (.eq (.ite (.lt (.sub (.nthI (.lv 0) (.mul (.v 6) (.c 2))) (.nthI (.lv 0) (.mul (.sub (.v 6) (.c 1)) (.c 2)))) (.sub (.c 0) (.sub (.nthI (.lv 0) (.mul (.v 6) (.c 2))) (.nthI (.lv 0) (.mul (.sub (.v 6) (.c 1)) (.c 2)))))) (.sub (.c 0) (.sub (.nthI (.lv 0) (.mul (.v 6) (.c 2))) (.nthI (.lv 0) (.mul (.sub (.v 6) (.c 1)) (.c 2))))) (.sub (.nthI (.lv 0) (.mul (.v 6) (.c 2))) (.nthI (.lv 0) (.mul (.sub (.v 6) (.c 1)) (.c 2))))) (.ite (.lt (.sub (.nthI (.lv 0) (.add (.mul (.v 6) (.c 2)) (.c 1))) (.nthI (.lv 0) (.add (.mul (.sub (.v 6) (.c 1)) (.c 2)) (.c 1)))) (.sub (.c 0) (.sub (.nthI (.lv 0) (.add (.mul (.v 6) (.c 2)) (.c 1))) (.nthI (.lv 0) (.add (.mul (.sub (.v 6) (.c 1)) (.c 2)) (.c 1)))))) (.sub (.c 0) (.sub (.nthI (.lv 0) (.add (.mul (.v 6) (.c 2)) (.c 1))) (.nthI (.lv 0) (.add (.mul (.sub (.v 6) (.c 1)) (.c 2)) (.c 1))))) (.sub (.nthI (.lv 0) (.add (.mul (.v 6) (.c 2)) (.c 1))) (.nthI (.lv 0) (.add (.mul (.sub (.v 6) (.c 1)) (.c 2)) (.c 1))))))), (.lt (.sub (.v 6) (.c 1)) (.v 0)), (.lt (.v 6) (.v 0)), (.le (.c 1) (.v 6)), (.le (.v 6) (.v 0)), (.le (.v 6) (.c 1024)), (.le (.c 0) (.v 7)), (.le (.v 7) (.c 68719476736)), (.le (.c 0) (.v 8)), (.le (.v 8) (.c 34359738368)), (.eq (.v 7) (.app 5 (.cons (.v 6) (.lv 0)))), (.eq (.v 8) (.app 6 (.cons (.v 6) (.lv 0)))), (.happ 3 (.cons (.v 0) (.lv 0))), (.le (.c 2) (.v 0)), (.le (.v 0) (.c 1024)), (.allr (-16777216) 16777216 (.lv 0)), (.le (.c 0) (.v 0)), (.le (.v 0) (.c 9223372036854775807))], []⟩,
⟨(.val (.tup (.cons (.i .i64 (.add (.v 7) (.app 4 (.cons (.v 8) .nil)))) (.cons (.i .i64 (.add (.add (.v 7) (.app 4 (.cons (.v 8) .nil))) (.c 1))) (.cons (.i .i64 (.c 0)) .nil))))), [(.lt (.c 0) (.v 8)), (.le (.c 0) (.app 4 (.cons (.v 8) .nil))), (.le (.app 4 (.cons (.v 8) .nil)) (.mul (.c 2) (.v 8))), (.le (.app 4 (.cons (.v 8) .nil)) (.c 68719476736)), (.le (.v 0) (.v 6)), (.le (.c 1) (.v 6)), (.le (.v 6) (.v 0)), (.le (.v 6) (.c 1024)), (.le (.c 0) (.v 7)), (.le (.v 7) (.c 68719476736)), (.le (.c 0) (.v 8)), (.le (.v 8) (.c 34359738368)), (.eq (.v 7) (.app 5 (.cons (.v 6) (.lv 0)))), (.eq (.v 8) (.app 6 (.cons (.v 6) (.lv 0)))), (.happ 3 (.cons (.v 0) (.lv 0))), (.le (.c 2) (.v 0)), (.le (.v 0) (.c 1024)), (.allr (-16777216) 16777216 (.lv 0)), (.le (.c 0) (.v 0)), (.le (.v 0) (.c 9223372036854775807))], []⟩,
⟨(.val (.tup (.cons (.i .i64 (.add (.v 7) (.app 4 (.cons (.v 8) .nil)))) (.cons (.i .i64 (.add (.v 7) (.app 4 (.cons (.v 8) .nil)))) (.cons (.i .i64 (.c 0)) .nil))))), [(.le (.v 8) (.c 0)), (.le (.c 0) (.app 4 (.cons (.v 8) .nil))), (.le (.app 4 (.cons (.v 8) .nil)) (.mul (.c 2) (.v 8))), (.le (.app 4 (.cons (.v 8) .nil)) (.c 68719476736)), (.le (.v 0) (.v 6)), (.le (.c 1) (.v 6)), (.le (.v 6) (.v 0)), (.le (.v 6) (.c 1024)), (.le (.c 0) (.v 7)), (.le (.v 7) (.c 68719476736)), (.le (.c 0) (.v 8)), (.le (.v 8) (.c 34359738368)), (.eq (.v 7) (.app 5 (.cons (.v 6) (.lv 0)))), (.eq (.v 8) (.app 6 (.cons (.v 6) (.lv 0)))), (.happ 3 (.cons (.v 0) (.lv 0))), (.le (.c 2) (.v 0)), (.le (.v 0) (.c 1024)), (.allr (-16777216) 16777216 (.lv 0)), (.le (.c 0) (.v 0)), (.le (.v 0) (.c 9223372036854775807))], []⟩,
⟨(.val (.tup (.cons (.i .i64 (.c 0)) (.cons (.i .i64 (.c 0)) (.cons (.i .i64 (.c 2)) .nil))))), [(.not (.happ 3 (.cons (.v 0) (.lv 0)))), (.le (.c 0) (.v 0)), (.le (.v 0) (.c 9223372036854775807))], []⟩] (by kernel_rfl) ρ w hF hT hR ⟨?_, ?_, ?_, ?_, ?_, ?_, ?_, ?_, ?_, ?_, ?_, ?_, ?_⟩ (u.J w)
  all_goals
    intro ρ' w' hx _ hF hb _
    have e0 : ρ'.i 0 = ρ.i 0 := hx.i 0 (by decide)
    have l0 : ρ'.l 0 = ρ.l 0 := hx.l 0 (by decide)
    have hg' : ρ'.g = gF := by rw [hx.g]; exact hg
    have hh' : ρ'.h = Tk.hF := by rw [hx.h]; exact hh
    clear hx hR
    simp only [holds, List.mem_cons, List.not_mem_nil, or_false, forall_eq_or_imp, forall_eq, B_le, B_lt, B_eq, B_not, I_add, I_sub, I_mul, I_ite, I_c, I_v, I_nthI, L_lv, h_3 hh', g_4 hg', g_5 hg', g_6 hg', e0, l0, nI_eq, sX_f, sY_f, decide_eq_true_eq, Bool.not_eq_true', decide_eq_false_iff_not, mx_ab, ab_max, den_tup, dens_cons, dens_nil, den_i] at hF ⊢
    first
      | rfl
      | (have ht : trackB (ρ.i 0) (ρ.l 0) = false := by (revert hF; simp only [and_imp]; intros; assumption)
         refine len_end hg ?_ hb
         unfold lowF highF errT
         rw [ht]
         exact ⟨rfl, rfl, rfl⟩)
      | (have ht : trackB (ρ.i 0) (ρ.l 0) = true := by (revert hF; simp only [and_imp]; intros; assumption)
         have t := track_iff.1 ht
         first
         | (have hk : ρ'.i 6 = ρ.i 0 := by omega
            refine len_end hg ?_ hb
            rw [hk] at hF
            have e1 : ρ'.i 7 = strF (ρ.i 0) (ρ.l 0) := by omega
            have e2 : ρ'.i 8 = diaF (ρ.i 0) (ρ.l 0) := by omega
            unfold lowF highF errT
            rw [if_pos ht, if_pos ht, if_pos ht]
            simp only [e1, e2] at hF ⊢
            refine ⟨?_, ?_, ?_⟩ <;> first | trivial | rfl | (rw [if_pos (by omega)]) | (rw [if_neg (by omega)]))
         | (have hl := legB_iff (l := ρ.l 0) (k := ρ'.i 6) (by omega)
            rw [allTo_at t.2.2 (k := ρ'.i 6) (by omega) (by omega)] at hl
            have hl := wayB_iff.1 hl.symm
            have a1 := ab_or (sX (ρ.l 0) (ρ'.i 6) - sX (ρ.l 0) (ρ'.i 6 - 1))
            have a2 := ab_or (sY (ρ.l 0) (ρ'.i 6) - sY (ρ.l 0) (ρ'.i 6 - 1))
            have r := strF_rng t.2.1 (ρ'.i 6 + 1).toNat (by omega)
            have s1 := sumTo_succ (strW (ρ.l 0)) (k := ρ'.i 6) (by omega)
            have s2 := sumTo_succ (diaW (ρ.l 0)) (k := ρ'.i 6) (by omega)
            have q1 : strW (ρ.l 0) (ρ'.i 6) = if ab (sX (ρ.l 0) (ρ'.i 6) - sX (ρ.l 0) (ρ'.i 6 - 1)) = ab (sY (ρ.l 0) (ρ'.i 6) - sY (ρ.l 0) (ρ'.i 6 - 1)) then 0 else ab (sX (ρ.l 0) (ρ'.i 6) - sX (ρ.l 0) (ρ'.i 6 - 1)) + ab (sY (ρ.l 0) (ρ'.i 6) - sY (ρ.l 0) (ρ'.i 6 - 1)) := by unfold strW; rw [if_neg (by omega)]
            have q2 : diaW (ρ.l 0) (ρ'.i 6) = if ab (sX (ρ.l 0) (ρ'.i 6) - sX (ρ.l 0) (ρ'.i 6 - 1)) = ab (sY (ρ.l 0) (ρ'.i 6) - sY (ρ.l 0) (ρ'.i 6 - 1)) then ab (sX (ρ.l 0) (ρ'.i 6) - sX (ρ.l 0) (ρ'.i 6 - 1)) else 0 := by unfold diaW; rw [if_neg (by omega)]
            first
            | (rw [if_pos hF.1] at q1 q2
               unfold strF diaF at *
               omega)
            | (rw [if_neg hF.1] at q1 q2
               unfold strF diaF at *
               omega)))
end Go.Proofs.Ythihccmombcihaa.Tk
end
