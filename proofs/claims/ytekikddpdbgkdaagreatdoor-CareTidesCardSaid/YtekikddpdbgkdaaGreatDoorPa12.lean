/- Layer 11 (care): the table of the lowest bits, and the function that looks it up. Layer 11 (care): the contracts by which the document's examples (awake) are reckoned. Layer 11 (care): what a law says; the contracts of the laws of lifts and tows. Layer 11 (care): tides, as plain functions; a table of names of their own. Layer 11 (care): tides: what is so on a stretch changes at most once; the first time, stretch by stretch. Layer 11 (care): tides: whether a ship comes off, what is valid. -/
import Derived.Lib.Hide
import Derived.WalkKit
import Derived.WalkSpells
import Derived.WalkLawsBesides
import Derived.OwnWalk
import Derived.Test.YtekikddpdbgkdaaGreatDoorProg
import Derived.Test.YtekikddpdbgkdaaGreatDoorPa10
import Derived.Test.YtekikddpdbgkdaaGreatDoorPa11
section
namespace Go.Proofs.YtekikddpdbgkdaaGreatDoor.Ca
open Go Go.Proofs.YtekikddpdbgkdaaGreatDoor.Sx Go.RowKit
def Tab (w : World) : Prop := ∀ j, j < 32 → w.cell? ⟨0, j, none⟩ = some (.int .u8 (deB.getD j 0))
theorem tab_stable : Stable Tab := fun w w' h hb j hj => by
  have h1 := h j hj
  have hlt : 0 < w.heap.size := by
    cases e : w.heap[0]? with
    | none => simp [World.cell?, e] at h1
    | some _ => exact (Array.getElem?_eq_some_iff.1 e).1
  rw [← h1]
  exact World.cell?_of_block (hb.block _ hlt)
def idxN (x : Nat) : Nat := (Nat.land x (4294967296 - x)) * 125613361 % 4294967296 / 134217728
def okAt (x : Nat) : Bool := decide (deB.getD (idxN x) 99 = tzN 32 x)
def okTo : Nat → Bool
  | 0 => true
  | n + 1 => okAt (n + 1) && okTo n
set_option maxRecDepth 100000 in
theorem ok_all : okTo 4095 = true := by kernel_rfl
theorem ok_at : ∀ n, okTo n = true → ∀ x, 0 < x → x ≤ n → okAt x = true
  | 0, _, x, h0, h1 => by omega
  | n + 1, h, x, h0, h1 => by
    simp only [okTo, Bool.and_eq_true] at h
    rcases Nat.lt_or_ge x (n + 1) with hh | hh
    · exact ok_at n h.2 x h0 (by omega)
    · obtain rfl : x = n + 1 := by omega
      exact h.1
theorem tz_range : ∀ k x, 0 ≤ tzN k x ∧ tzN k x ≤ (k : Int)
  | 0, x => by simp [tzN]
  | k + 1, x => by
    have := tz_range k (x / 2)
    unfold tzN
    split <;> omega
theorem idx_eq (x : Nat) (h0 : 0 < x) (h1 : x ≤ 4095) : (bits BinOp.and IntKind.u32 (x : Int) (-(x : Int) % 4294967296) * 125613361 % 4294967296 / 134217728).toNat = idxN x := by
  have e1 : -(x : Int) % 4294967296 = ((4294967296 - x : Nat) : Int) := by omega
  have e2 : bits BinOp.and IntKind.u32 (x : Int) (-(x : Int) % 4294967296) = ((Nat.land x (4294967296 - x) : Nat) : Int) := by
    rw [e1]
    exact u32_and_nat _ _ (by omega) (by omega)
  rw [e2]
  show _ = (Nat.land x (4294967296 - x)) * 125613361 % 4294967296 / 134217728
  generalize Nat.land x (4294967296 - x) = y
  have e3 : (y : Int) * 125613361 % 4294967296 / 134217728 = ((y * 125613361 % 4294967296 / 134217728 : Nat) : Int) := by simp only [Int.natCast_ediv, Int.natCast_emod, Int.natCast_mul]; rfl
  rw [e3, Int.toNat_natCast]
theorem idx_lt (y : Nat) : y * 125613361 % 4294967296 / 134217728 < 32 := by omega
theorem idxN_lt (n : Nat) : idxN n < 32 := by unfold idxN; exact idx_lt _
theorem tzI_cast (n : Nat) : tzI (n : Int) = tzN 32 n := by unfold tzI; rw [Int.toNat_natCast]
theorem deB_at (n : Nat) (h0 : 0 < n) (h1 : n ≤ 4095) : deB.getD (idxN n) 99 = tzN 32 n := by
  have h := ok_at 4095 ok_all n h0 h1
  unfold okAt at h
  exact of_decide_eq_true h
theorem deB_get (m : Nat) (h : m < 32) : deB.getD m 0 = deB.getD m 99 := by
  have h2 : m < deB.length := h
  simp only [List.getD, List.getElem?_eq_getElem h2, Option.getD_some]
theorem tab_cell (n : Nat) (h0 : 0 < n) (h1 : n ≤ 4095) (w : World) (ht : Tab w) : w.cell? ⟨0, (bits BinOp.and IntKind.u32 (n : Int) (-(n : Int) % 4294967296) * 125613361 % 4294967296 / 134217728).toNat, none⟩ = some (.int .u8 (tzI n)) := by
  rw [idx_eq n h0 h1, ht _ (idxN_lt n), deB_get _ (idxN_lt n), deB_at n h0 h1, tzI_cast]
set_option maxRecDepth 100000 in
theorem tz_walk (x k : Int) (h0 : 0 < x) (h1 : x ≤ 4095) (hk : 0 ≤ k ∧ k ≤ 32) (w : World) (hc : w.cell? ⟨0, (bits BinOp.and IntKind.u32 x (-x % 4294967296) * 125613361 % 4294967296 / 134217728).toNat, none⟩ = some (.int .u8 k)) : Calls Tryz.prog 78 #[.int .u32 x] w fun e w' => e = .returned (.int .i64 k) ∧ Below w.heap.size w w' := by
  have HT := Lib.hid hc
  clear hc
  go_enter Tryz.func78, Tryz.ntmps78
  have := HT.out
  go_wp2_with fail
  exact bodyPost_ret (v := .int .i64 k) (by simp [results, Tryz.results78, go_sem]) rfl ⟨rfl, Below.refl _ _⟩
theorem tz_calls (x : Int) (h0 : 0 < x) (h1 : x ≤ 4095) (w : World) (ht : Tab w) : Calls Tryz.prog 78 #[.int .u32 x] w fun e w' => e = .returned (.int .i64 (tzI x)) ∧ Below w.heap.size w w' := by
  obtain ⟨n, rfl⟩ := Int.eq_ofNat_of_zero_le (show 0 ≤ x by omega)
  exact tz_walk n (tzI n) h0 h1 (tz_range 32 n) w (tab_cell n (by omega) (by omega) w ht)
/-- The contract: of a set that is known to be small. -/
def tzFs : List E := [.le (.c 1) (.v 0), .le (.v 0) (.c 4095)]
def cTz := ctrW (ctrVal 78 [.one (.sc (.i .u32))] tzFs (.i .i64 (.app 9 (els [0]))) [])
theorem tz_ok {TT : Tb} (hst : Stable TT.J) (hJ : ∀ w, TT.J w → Tab w) (hT : ∀ {g h k m}, TT.tab g h k m → UTab g h k m) : CtrOk TT Tryz.prog cTz := ctrValJ_ok hst rfl fun ρ w hF ht hR hj => by
  have hg := (hT ht).1
  simp only [holds, tzFs, List.mem_cons, List.not_mem_nil, or_false, forall_eq_or_imp, forall_eq, B_le, I_c, I_v, decide_eq_true_eq] at hF
  refine (tz_calls (ρ.i 0) (by omega) hF.2 w (hJ w hj)).mono fun e w' ⟨h1, h2⟩ => ⟨⟨?_, fun _ h => by cases h⟩, h2⟩
  rw [h1]
  simp only [den_i, I_app, hg, els, List.map, List.foldr, L_cons, L_nil, I_v]
  rfl
end Go.Proofs.YtekikddpdbgkdaaGreatDoor.Ca
end
section
namespace Go.Proofs.YtekikddpdbgkdaaGreatDoor.Ca
open Go Go.Proofs.YtekikddpdbgkdaaGreatDoor.Sx Go.RowKit
/-- The table of names; the bits' table in memory. -/
def CT : Tb := { tab := UTab, J := Tab }
theorem fit_no : Fit CT.open.noJ := ⟨fun h => h, fun _ => trivial⟩
def cAwake := ctrW (ctrVal 12 [] [] (.b .tt) [])
def awakeG : Ctx := { calls := [litCtr gF hF cSpeed, litCtr gF hF cTz] }
theorem gT (ρ : Env) (h : CT.open.tab ρ.g ρ.h ρ.k ρ.m) : ρ.g = gF ∧ ρ.h = Ca.hF := h
theorem awakeG_ok : ∀ q ∈ awakeG.calls, CtrOk CT.open Tryz.prog q := by
  simpa [awakeG] using ⟨litCtr_ok gT (ctr_noJ (speed_ok fit_no)), litCtr_ok gT (tz_ok (TT := CT.open) tab_stable (fun _ h => h) (fun h => h))⟩
end Go.Proofs.YtekikddpdbgkdaaGreatDoor.Ca
end
section
namespace Go.Proofs.YtekikddpdbgkdaaGreatDoor.Ca
open Go Go.Proofs.YtekikddpdbgkdaaGreatDoor.Sx Go.RowKit
/-- What a law says of a call. -/
def Law (f : FuncId) (aks : List AK) (F : List E) : Prop := ∀ ρ w, holds ρ F → CT.tab ρ.g ρ.h ρ.k ρ.m → RowsAt ρ w aks → Tab w → Calls Tryz.prog f (arr ρ (patAs 0 aks)) w fun e w' => e = .returned (.bool true) ∧ Below w.heap.size w w'
def liftsK : List AK := [.ag [K, K, K, K, K, K, K, K], towK]
def U16 : LK := .sc (.i .u16)
def towsK : List AK := [towK, .ag [U16, U16, U16], .one U16]
def towsF : List E := btw 0 6 65535 ++ btw 0 7 65535 ++ btw 0 8 65535 ++ btw 0 9 65535
def liftsG : Ctx := { calls := [cAwake, cSpeedV, cSpeedRV] }
def towsG : Ctx := { calls := [cAwake, cSpeed, cTow, cPossR] }
end Go.Proofs.YtekikddpdbgkdaaGreatDoor.Ca
end
section
namespace Go.Proofs.YtekikddpdbgkdaaGreatDoor.Ca
open Go Go.Proofs.YtekikddpdbgkdaaGreatDoor.Sx Go.RowKit

def tT (l : LL) (k : Int) : Int := nI l (k * 2)
def tH (l : LL) (k : Int) : Int := nI l (k * 2 + 1)
theorem tT_f (l : LL) (k : Int) : nI l (k * 2) = tT l k := rfl
theorem tH_f (l : LL) (k : Int) : nI l (k * 2 + 1) = tH l k := rfl
/-- does a ship (five numbers) come off at a time of a stretch? -/
def offS (dr de tp pu fr t0 h0 t1 h1 t : Int) : Bool :=
  decide (tp * ((dr - de - h0) * max 1 (t1 - t0) - (h1 - h0) * (t - t0)) * fr ≤ 10000 * pu * max 1 (t1 - t0))
def nextK (n k : Int) : Int := min (k + 1) (n - 1)
def offK (g : LL) (n : Int) (l : LL) (k t : Int) : Bool := offS (nI g 0) (nI g 1) (nI g 2) (nI g 3) (nI g 4) (tT l k) (tH l k) (tT l (nextK n k)) (tH l (nextK n k)) t
/-- the last of the first n points that is not behind a time; 0: none. -/
def ixT (l : LL) (t : Int) : Nat → Int
  | 0 => 0
  | k + 1 => if tT l k ≤ t then k else ixT l t k
def offT (g : LL) (n : Int) (l : LL) (t : Int) : Bool := offK g n l (ixT l t n.toNat) t
/-- the first number from one on that is so, of so many; the one behind them: none. -/
def upB (p : Int → Bool) : Nat → Int → Int
  | 0, a => a
  | m + 1, a => if p a then a else upB p m (a + 1)
theorem upB_spec (p : Int → Bool) : ∀ (m : Nat) (a : Int), a ≤ upB p m a ∧ upB p m a ≤ a + m ∧ (∀ t, a ≤ t → t < upB p m a → p t = false) ∧ (upB p m a < a + m → p (upB p m a) = true)
  | 0, a => ⟨Int.le_refl _, by simp [upB], fun t h1 h2 => by simp [upB] at h2; omega, fun h => by simp [upB] at h⟩
  | m + 1, a => by
    unfold upB
    split
    · rename_i h
      exact ⟨Int.le_refl _, by omega, fun t h1 h2 => by omega, fun _ => h⟩
    · rename_i h
      obtain ⟨h1, h2, h3, h4⟩ := upB_spec p m (a + 1)
      refine ⟨by omega, by omega, fun t k1 k2 => ?_, fun k => h4 (by omega)⟩
      rcases Int.lt_or_le a t with hh | hh
      · exact h3 t (by omega) k2
      · obtain rfl : t = a := by omega
        simpa using h
theorem upB_is {p : Int → Bool} {m : Nat} {a r : Int} (h0 : a ≤ r) (h1 : r ≤ a + m) (h2 : ∀ t, a ≤ t → t < r → p t = false) (h3 : r < a + m → p r = true) : upB p m a = r := by
  obtain ⟨k1, k2, k3, k4⟩ := upB_spec p m a
  rcases Int.lt_trichotomy (upB p m a) r with h | h | h
  · have := h2 _ k1 h
    rw [k4 (by omega)] at this; cases this
  · exact h
  · have := k3 r h0 h
    rw [h3 (by omega)] at this; cases this
theorem upB_ge {p : Int → Bool} {m : Nat} {a r : Int} (h1 : r ≤ a + m) (h2 : ∀ t, a ≤ t → t < r → p t = false) : r ≤ upB p m a := by
  obtain ⟨k1, k2, k3, k4⟩ := upB_spec p m a
  rcases Int.lt_or_le (upB p m a) r with h | h
  · have := h2 _ k1 h
    rw [k4 (by omega)] at this; cases this
  · exact h
/-- a list of: a time, five numbers, how many points, the points. -/
def gl (a b c d e : Int) : LL := [(a, ⟨#[]⟩), (b, ⟨#[]⟩), (c, ⟨#[]⟩), (d, ⟨#[]⟩), (e, ⟨#[]⟩)]
def fG (l : LL) : LL := gl (nI l 1) (nI l 2) (nI l 3) (nI l 4) (nI l 5)
def fN (l : LL) : Int := nI l 6
def fL (l : LL) : LL := l.drop 7
def fEnd (l : LL) : Int := tT (fL l) (fN l - 1)
/-- is it so at a time (x: that a ship comes off, or that it does not)? the first time. -/
def isT (x : Bool) (g : LL) (n : Int) (l : LL) (t : Int) : Bool := offT g n l t == x
def fstT (x : Bool) (g : LL) (n : Int) (l : LL) (fr : Int) : Int := upB (isT x g n l) (tT l (n - 1) + 1 - fr).toNat fr
def firstF (l : LL) : Int := fstT true (fG l) (fN l) (fL l) (nI l 0)
def stopF (l : LL) : Int := fstT false (fG l) (fN l) (fL l) (nI l 0)
/-- where a stretch begins; behind all of them. -/
def lowT (n : Int) (l : LL) (i : Int) : Int := if i < n then tT l i else tT l (n - 1) + 1
/-! what is valid -/
def pointB (l : LL) (k : Int) : Bool := decide (0 ≤ tT l k ∧ tT l k ≤ 10000000) && decide (-100000 ≤ tH l k ∧ tH l k ≤ 100000) && (decide (k = 0) || decide (tT l (k - 1) < tT l k))
def tideB (n : Int) (l : LL) : Bool := decide (1 ≤ n ∧ n ≤ 100) && allTo n (pointB l)
def groundB (g : LL) : Bool := decide (0 ≤ nI g 0 ∧ nI g 0 ≤ 100000) && decide (-100000 ≤ nI g 1 ∧ nI g 1 ≤ 100000) && decide (1 ≤ nI g 2 ∧ nI g 2 ≤ 1000) && decide (0 ≤ nI g 3 ∧ nI g 3 ≤ 1000000) && decide (0 ≤ nI g 4 ∧ nI g 4 ≤ 1000)
def errF (l : LL) : Int :=
  if tideB (fN l) (fL l) = true ∧ groundB (fG l) = true then
    (if nI l 0 < tT (fL l) 0 ∨ fEnd l < nI l 0 then 4 else if fEnd l < firstF l then 7 else 0)
  else 2
/-- do two times lie in one stretch? -/
def pieceB (l : LL) (n a b : Int) : Bool := (List.range n.toNat).any fun k => decide (tT l k ≤ a ∧ b ≤ tT l (nextK n k))
def withT (l : LL) (t : Int) : LL := (t, ⟨#[]⟩) :: l.drop 1
def g2F : Nat → LL → Int
  | 13, l => firstF l
  | 14, l => stopF l
  | 10, l => if errF l = 0 then firstF l else 0
  | 11, l => if errF l = 0 then stopF (withT l (firstF l)) - 1 else 0
  | 12, l => errF l
  | _, _ => 0
def h2F : Nat → LL → Bool
  | 3, l => offS (nI l 0) (nI l 1) (nI l 2) (nI l 3) (nI l 4) (nI l 5) (nI l 6) (nI l 7) (nI l 8) (nI l 9)
  | 4, l => tideB (nI l 0) (l.drop 1)
  | 5, l => groundB l
  | 6, l => allTo (nI l 0) (pointB (l.drop 1))
  | 7, l => offT (fG l) (fN l) (fL l) (nI l 0)
  | 22, l => pieceB (l.drop 3) (nI l 2) (nI l 0) (nI l 1)
  | 20, l => decide (lowT (fN (l.drop 1)) (fL (l.drop 1)) (nI l 0) ≤ firstF (l.drop 1))
  | 21, l => decide (lowT (fN (l.drop 1)) (fL (l.drop 1)) (nI l 0) ≤ stopF (l.drop 1))
  | _, _ => false
def U2 (g : Nat → LL → Int) (h : Nat → LL → Bool) (_k : Nat → LL → ByteArray) (_m : Nat → LL → LL) : Prop := g = g2F ∧ h = h2F
structure Fit2 (TT : Tb) : Prop where
  tab : ∀ {g h k m}, TT.tab g h k m → U2 g h k m
  J : ∀ w, TT.J w
theorem Fit2.open {TT : Tb} (u : Fit2 TT) : Fit2 TT.open := ⟨u.tab, u.J⟩
def CT2 : Tb := { tab := U2, J := Tab }
theorem fit2_no : Fit2 CT2.open.noJ := ⟨fun h => h, fun _ => trivial⟩
/-! terms -/
def groundK : AK := .ag [K, K, K, K, K]
def tidesK : AK := .one (.row [.i .i64, .i .i64])
/-- the list of a time, the ship at a, the points at n. -/
def tl (t : E) (a n : Nat) : E := .cons t (.cons (.v a) (.cons (.v (a + 1)) (.cons (.v (a + 2)) (.cons (.v (a + 3)) (.cons (.v (a + 4)) (.cons (.v n) (.lv n)))))))
def offE (a : Nat) (t0 h0 t1 h1 t : E) : E := .happ 3 (.cons (.v a) (.cons (.v (a + 1)) (.cons (.v (a + 2)) (.cons (.v (a + 3)) (.cons (.v (a + 4)) (.cons t0 (.cons h0 (.cons t1 (.cons h1 (.cons t .nil))))))))))
def groundFs : List E := btw 0 0 100000 ++ btw (-100000) 1 100000 ++ btw 1 2 1000 ++ btw 0 3 1000000 ++ btw 0 4 1000
def groundE : E := .happ 5 (els [0, 1, 2, 3, 4])
def groundCs : List (V × List E) := [(.b .tt, groundFs ++ [groundE]), (.b .ff, [.not groundE])]
def offFs : List E := groundFs ++ btw 0 5 10000000 ++ btw (-100000) 6 100000 ++ btw 0 7 10000000 ++ btw (-100000) 8 100000 ++ btw 0 10 10000000
def offV : E := offE 0 (.v 5) (.v 6) (.v 7) (.v 8) (.v 10)
def stretchK : AK := .ag [K, K, K, K, K]
def floatV : V := .tup (V.ofL [.i .i64 (.app 10 (tl (.v 6) 0 5)), .i .i64 (.app 11 (tl (.v 6) 0 5)), .i .i64 (.app 12 (tl (.v 6) 0 5))])
/-! the first time of a tide: the points at 0, the time at 1, the ship at 2 to 6 -/
def ftK : List AK := [tidesK, .one K]
def gKs : List Kd := List.replicate 5 (.i .i64)
def timeE (k : E) : E := .nthI (.lv 0) (.mul k (.c 2))
def endE : E := timeE (.sub (.v 0) (.c 1))
def tideE0 : E := .happ 4 (.cons (.v 0) (.lv 0))
def ftFs : List E := [.le (.c 1) (.v 0), .le (.v 0) (.c 100), tideE0, .le (timeE (.c 0)) (.v 1), .le (.v 1) endE, .le (.c 0) (.v 1), .le (.v 1) (.c 10000000)] ++ btw 0 2 100000 ++ btw (-100000) 3 100000 ++ btw 1 4 1000 ++ btw 0 5 1000000 ++ btw 0 6 1000
def ftTl : E := tl (.v 1) 2 0
def ftL (hq : Nat) : LoopSpec := { key := 1, locs := [.t 9 (.i .i64)], facts := fun n => [.le (.c 0) (.v n), .le (.v n) (.v 0), .le (.v n) (.c 100), E.happ hq (.cons (.v n) ftTl)], meas := fun n => .sub (.v 0) (.v n) }
/-- the stretch at a loop's number. -/
def nxE (n : Nat) : E := .ite (.lt (.sub (.v 0) (.c 1)) (.add (.v n) (.c 1))) (.sub (.v 0) (.c 1)) (.add (.v n) (.c 1))
def heightE (k : E) : E := .nthI (.lv 0) (.add (.mul k (.c 2)) (.c 1))
def lowE (n : Nat) : E := .ite (.lt (.v 1) (timeE (.v n))) (timeE (.v n)) (.v 1)
def holdE (neg : Bool) (n : Nat) (t : E) : E := if neg then .not (offE 2 (timeE (.v n)) (heightE (.v n)) (timeE (nxE n)) (heightE (nxE n)) t) else offE 2 (timeE (.v n)) (heightE (.v n)) (timeE (nxE n)) (heightE (nxE n)) t
def noE (neg : Bool) (n : Nat) (t : E) : E := if neg then offE 2 (timeE (.v n)) (heightE (.v n)) (timeE (nxE n)) (heightE (nxE n)) t else .not (offE 2 (timeE (.v n)) (heightE (.v n)) (timeE (nxE n)) (heightE (nxE n)) t)
def manyE (n : Nat) : E := .add (.sub (timeE (nxE n)) (lowE n)) (.c 1)
/-- the search in the stretch at n. -/
def seL (neg : Bool) (n : Nat) : LoopSpec := { key := 2, locs := [.t 5 (.i .i64), .t 6 (.i .i64)], facts := fun m => [E.le (.c 0) (.v m), .le (.v m) (.v (m + 1)), .le (.v m) (.c 10000001), .le (.v (m + 1)) (.c 10000001), .le (.v (m + 1)) (manyE n), .le (manyE n) (.c 10000001), .or (.eq (.v m) (.c 0)) (noE neg n (.add (lowE n) (.sub (.v m) (.c 1)))), .or (.eq (.v (m + 1)) (manyE n)) (holdE neg n (.add (lowE n) (.v (m + 1))))], meas := fun m => .sub (.v (m + 1)) (.v m) }
end Go.Proofs.YtekikddpdbgkdaaGreatDoor.Ca
end
section
namespace Go.Proofs.YtekikddpdbgkdaaGreatDoor.Ca
open Go Go.Proofs.YtekikddpdbgkdaaGreatDoor.Sx Go.RowKit

theorem tide_at {n : Int} {l : LL} (h : tideB n l = true) {k : Int} (h0 : 0 ≤ k) (h1 : k < n) : (0 ≤ tT l k ∧ tT l k ≤ 10000000) ∧ (-100000 ≤ tH l k ∧ tH l k ≤ 100000) ∧ (k = 0 ∨ tT l (k - 1) < tT l k) := by
  simp only [tideB, Bool.and_eq_true, decide_eq_true_eq] at h
  have := allTo_at h.2 h0 h1
  simp only [pointB, Bool.and_eq_true, Bool.or_eq_true, decide_eq_true_eq] at this
  exact ⟨this.1.1, this.1.2, this.2⟩
theorem tide_n {n : Int} {l : LL} (h : tideB n l = true) : 1 ≤ n ∧ n ≤ 100 := by
  simp only [tideB, Bool.and_eq_true, decide_eq_true_eq] at h
  exact h.1
theorem tide_lt {n : Int} {l : LL} (h : tideB n l = true) {a : Int} (h0 : 0 ≤ a) : ∀ d : Nat, a + d + 1 < n → tT l a < tT l (a + d + 1)
  | 0, h1 => by
    have := (tide_at h (k := a + 1) (by omega) (by omega)).2.2
    rcases this with h2 | h2
    · omega
    · rw [show a + 1 - 1 = a from by omega] at h2
      simpa using h2
  | d + 1, h1 => by
    have ih := tide_lt h h0 d (by omega)
    have := (tide_at h (k := a + (d + 1 : Nat) + 1) (by omega) (by omega)).2.2
    rcases this with h2 | h2
    · omega
    · rw [show a + ((d + 1 : Nat) : Int) + 1 - 1 = a + d + 1 from by omega] at h2
      omega
theorem tide_mono {n : Int} {l : LL} (h : tideB n l = true) {a b : Int} (h0 : 0 ≤ a) (hab : a < b) (hb : b < n) : tT l a < tT l b := by
  have := tide_lt h h0 (b - a - 1).toNat (by omega)
  rwa [show a + ((b - a - 1).toNat : Int) + 1 = b from by omega] at this
theorem tide_le {n : Int} {l : LL} (h : tideB n l = true) {a b : Int} (h0 : 0 ≤ a) (hab : a ≤ b) (hb : b < n) : tT l a ≤ tT l b := by
  rcases Int.lt_or_le a b with hh | hh
  · exact Int.le_of_lt (tide_mono h h0 hh hb)
  · obtain rfl : a = b := by omega
    exact Int.le_refl _
/-- What a stretch says of a time is a comparison of a line. -/
theorem off_line (dr de tp pu fr t0 h0 t1 h1 t : Int) : offS dr de tp pu fr t0 h0 t1 h1 t = decide (tp * ((dr - de - h0) * max 1 (t1 - t0)) * fr + tp * (h1 - h0) * t0 * fr - 10000 * pu * max 1 (t1 - t0) ≤ tp * (h1 - h0) * fr * t) := by
  unfold offS
  generalize max 1 (t1 - t0) = L
  rw [Bool.eq_iff_iff, decide_eq_true_eq, decide_eq_true_eq]
  have e : tp * ((dr - de - h0) * L - (h1 - h0) * (t - t0)) * fr = tp * ((dr - de - h0) * L) * fr + tp * (h1 - h0) * t0 * fr - tp * (h1 - h0) * fr * t := by
    grind
  rw [e]
  omega
theorem line_between {a b u v w : Int} (h1 : u ≤ v) (h2 : v ≤ w) : (b ≤ a * u → b ≤ a * w → b ≤ a * v) ∧ (¬ b ≤ a * u → ¬ b ≤ a * w → ¬ b ≤ a * v) := by
  rcases Int.le_total 0 a with ha | ha
  · have k1 := Int.mul_le_mul_of_nonneg_left h1 ha
    have k2 := Int.mul_le_mul_of_nonneg_left h2 ha
    omega
  · have k1 := Int.mul_le_mul_of_nonpos_left ha h1
    have k2 := Int.mul_le_mul_of_nonpos_left ha h2
    omega
theorem off_between {dr de tp pu fr t0 h0 t1 h1 u v w : Int} {x : Bool} (huv : u ≤ v) (hvw : v ≤ w) (hu : offS dr de tp pu fr t0 h0 t1 h1 u = x) (hw : offS dr de tp pu fr t0 h0 t1 h1 w = x) : offS dr de tp pu fr t0 h0 t1 h1 v = x := by
  rw [off_line] at hu hw ⊢
  have := line_between (a := tp * (h1 - h0) * fr) (b := tp * ((dr - de - h0) * max 1 (t1 - t0)) * fr + tp * (h1 - h0) * t0 * fr - 10000 * pu * max 1 (t1 - t0)) huv hvw
  cases x
  · simp only [decide_eq_false_iff_not] at hu hw ⊢
    exact this.2 hu hw
  · simp only [decide_eq_true_eq] at hu hw ⊢
    exact this.1 hu hw
/-- At a point, whichever stretch it belongs to. -/
theorem off_point (dr de tp pu fr t0 h0 t1 h1 : Int) (h : t0 < t1) : offS dr de tp pu fr t0 h0 t1 h1 t1 = decide (tp * (dr - de - h1) * fr ≤ 10000 * pu) := by
  unfold offS
  have e : max 1 (t1 - t0) = t1 - t0 := by omega
  rw [e, Bool.eq_iff_iff, decide_eq_true_eq, decide_eq_true_eq]
  have e2 : tp * ((dr - de - h0) * (t1 - t0) - (h1 - h0) * (t1 - t0)) * fr = (tp * (dr - de - h1) * fr) * (t1 - t0) := by grind
  rw [e2]
  exact ⟨fun hh => Int.le_of_mul_le_mul_right hh (by omega), fun hh => Int.mul_le_mul_of_nonneg_right hh (by omega)⟩
theorem off_start (dr de tp pu fr t0 h0 t1 h1 : Int) : offS dr de tp pu fr t0 h0 t1 h1 t0 = decide (tp * (dr - de - h0) * fr ≤ 10000 * pu) := by
  unfold offS
  generalize hL : max 1 (t1 - t0) = L
  have hL1 : 0 < L := by omega
  rw [Bool.eq_iff_iff, decide_eq_true_eq, decide_eq_true_eq]
  have e2 : tp * ((dr - de - h0) * L - (h1 - h0) * (t0 - t0)) * fr = (tp * (dr - de - h0) * fr) * L := by grind
  rw [e2]
  exact ⟨fun hh => Int.le_of_mul_le_mul_right hh hL1, fun hh => Int.mul_le_mul_of_nonneg_right hh (by omega)⟩
theorem ixT_is {l : LL} {t : Int} : ∀ (m : Nat) (k : Int), 0 ≤ k → k < m → tT l k ≤ t → (∀ j, k < j → j < m → t < tT l j) → ixT l t m = k
  | 0, k, h0, h1, _, _ => by simp at h1; omega
  | m + 1, k, h0, h1, h2, h3 => by
    unfold ixT
    rcases Int.lt_or_le k m with hh | hh
    · rw [if_neg (by have := h3 m hh (by omega); omega)]
      exact ixT_is m k h0 hh h2 fun j a b => h3 j a (by omega)
    · obtain rfl : k = m := by omega
      rw [if_pos h2]
theorem next_lt {n k : Int} (_h0 : 0 ≤ k) (h1 : k < n) : k ≤ nextK n k ∧ nextK n k < n ∧ nextK n k ≤ k + 1 ∧ (k + 1 < n → nextK n k = k + 1) ∧ (¬ k + 1 < n → nextK n k = k) := by unfold nextK; omega
/-- At a time of a stretch, its line says it. -/
theorem offT_is {g l : LL} {n : Int} (h : tideB n l = true) {k t : Int} (h0 : 0 ≤ k) (h1 : k < n) (h2 : tT l k ≤ t) (h3 : t ≤ tT l (nextK n k)) : offT g n l t = offK g n l k t := by
  obtain ⟨n1, n2, n3, n4, n5⟩ := next_lt h0 h1
  unfold offT
  rcases Int.lt_or_le (k + 1) n with hn | hn
  · have e := n4 hn
    rw [e] at h3
    rcases Int.lt_or_le t (tT l (k + 1)) with ht | ht
    · rw [ixT_is n.toNat k h0 (by omega) h2 fun j a b => ?_]
      rcases Int.lt_or_le (k + 1) j with hj | hj
      · have := tide_mono h (a := k + 1) (b := j) (by omega) hj (by omega)
        omega
      · obtain rfl : j = k + 1 := by omega
        exact ht
    · obtain rfl : t = tT l (k + 1) := by omega
      rw [ixT_is n.toNat (k + 1) (by omega) (by omega) (Int.le_refl _) fun j a b => tide_mono h (by omega) a (by omega)]
      unfold offK
      rw [e, off_start, off_point _ _ _ _ _ _ _ _ _ (tide_mono h h0 (by omega) hn)]
  · rw [ixT_is n.toNat k h0 (by omega) h2 fun j a b => by omega]
theorem offK_between {g l : LL} {n k u v w : Int} {x : Bool} (huv : u ≤ v) (hvw : v ≤ w) (hu : offK g n l k u = x) (hw : offK g n l k w = x) : offK g n l k v = x := off_between huv hvw hu hw

/-! ### The first time, stretch by stretch: what is asked (x: whether a ship comes off, or not) -/
section
variable {x : Bool} {g l : LL} {n fr : Int} (h : tideB n l = true) (hf : tT l 0 ≤ fr ∧ fr ≤ tT l (n - 1))
include h hf
theorem fst_spec : fr ≤ fstT x g n l fr ∧ fstT x g n l fr ≤ tT l (n - 1) + 1 ∧ (∀ t, fr ≤ t → t < fstT x g n l fr → isT x g n l t = false) ∧ (fstT x g n l fr ≤ tT l (n - 1) → isT x g n l (fstT x g n l fr) = true) := by
  have _ := h
  obtain ⟨h1, h2, h3, h4⟩ := upB_spec (isT x g n l) (tT l (n - 1) + 1 - fr).toNat fr
  exact ⟨h1, by unfold fstT; omega, h3, fun hh => h4 (by unfold fstT at hh; omega)⟩
theorem fst_zero : lowT n l 0 ≤ fstT x g n l fr := by
  have := (fst_spec (x := x) (g := g) h hf).1
  have hn := tide_n h
  unfold lowT
  rw [if_pos (by omega)]
  omega
theorem fst_end (hl : lowT n l n ≤ fstT x g n l fr) : fstT x g n l fr = tT l (n - 1) + 1 := by
  have := (fst_spec (x := x) (g := g) h hf).2.1
  unfold lowT at hl
  rw [if_neg (by omega)] at hl
  omega
/-- a stretch that ends ahead of the time. -/
theorem fst_skip {i : Int} (h0 : 0 ≤ i) (h1 : i < n) (hs : tT l (nextK n i) < fr) : lowT n l (i + 1) ≤ fstT x g n l fr := by
  obtain ⟨n1, n2, n3, n4, n5⟩ := next_lt h0 h1
  have := (fst_spec (x := x) (g := g) h hf).1
  unfold lowT
  split
  · rename_i hh; rw [n4 hh] at hs; omega
  · rename_i hh; rw [n5 hh, show i = n - 1 from by omega] at hs; omega
/-- the time is found in a stretch. -/
theorem fst_here {i low t : Int} (h0 : 0 ≤ i) (h1 : i < n) (hl : lowT n l i ≤ fstT x g n l fr) (hlow : low = if fr < tT l i then tT l i else fr) (ht0 : low ≤ t) (ht : t ≤ tT l (nextK n i)) (hp : offK g n l i t = x) (hb : ∀ u, low ≤ u → u < t → offK g n l i u = !x) : t = fstT x g n l fr := by
  obtain ⟨n1, n2, n3, n4, n5⟩ := next_lt h0 h1
  obtain ⟨s1, s2, s3, s4⟩ := fst_spec (x := x) (g := g) h hf
  have hli : tT l i ≤ fstT x g n l fr := by unfold lowT at hl; rwa [if_pos h1] at hl
  have hend := tide_le h (a := nextK n i) (b := n - 1) (by omega) (by omega) (by omega)
  have hlow1 : tT l i ≤ low ∧ fr ≤ low ∧ (low = fr ∨ low = tT l i) := by rw [hlow]; split <;> omega
  symm
  refine upB_is (by omega) (by omega) (fun u hu hu2 => ?_) fun _ => ?_
  · rcases Int.lt_or_le u low with hh | hh
    · exact s3 u hu (by omega)
    · have := hb u hh hu2
      unfold isT
      rw [offT_is h h0 h1 (by omega) (by omega), this]
      cases x <;> rfl
  · unfold isT
    rw [offT_is h h0 h1 (by omega) ht, hp]
    cases x <;> rfl
/-- there is none in a stretch. -/
theorem fst_not {i low : Int} (h0 : 0 ≤ i) (h1 : i < n) (hl : lowT n l i ≤ fstT x g n l fr) (hlow : low = if fr < tT l i then tT l i else fr) (_hle : fr ≤ tT l (nextK n i)) (hb : ∀ u, low ≤ u → u ≤ tT l (nextK n i) → offK g n l i u = !x) : lowT n l (i + 1) ≤ fstT x g n l fr := by
  obtain ⟨n1, n2, n3, n4, n5⟩ := next_lt h0 h1
  obtain ⟨s1, s2, s3, s4⟩ := fst_spec (x := x) (g := g) h hf
  have hli : tT l i ≤ fstT x g n l fr := by unfold lowT at hl; rwa [if_pos h1] at hl
  have hlow1 : tT l i ≤ low ∧ fr ≤ low ∧ (low = fr ∨ low = tT l i) := by rw [hlow]; split <;> omega
  have key : tT l (nextK n i) < fstT x g n l fr := by
    rcases Int.lt_or_le (tT l (nextK n i)) (fstT x g n l fr) with hh | hh
    · exact hh
    · have hend := tide_le h (a := nextK n i) (b := n - 1) (by omega) (by omega) (by omega)
      have h5 := s4 (by omega)
      have h6 : low ≤ fstT x g n l fr := by omega
      have h7 := hb _ h6 hh
      unfold isT at h5
      rw [offT_is h h0 h1 (by omega) hh, h7] at h5
      cases x <;> cases h5
  unfold lowT
  split
  · rename_i hh; rw [n4 hh] at key; omega
  · rename_i hh; rw [n5 hh, show i = n - 1 from by omega] at key; omega
end
/-- two times at which it is not so: none between. -/
theorem not_between {x : Bool} {g l : LL} {n i low top : Int} (ha : offK g n l i low = !x) (hb : offK g n l i top = !x) : ∀ u, low ≤ u → u ≤ top → offK g n l i u = !x := fun _ h1 h2 => offK_between h1 h2 ha hb
end Go.Proofs.YtekikddpdbgkdaaGreatDoor.Ca
end
section
namespace Go.Proofs.YtekikddpdbgkdaaGreatDoor.Ca
open Go Go.Proofs.YtekikddpdbgkdaaGreatDoor.Sx Go.RowKit
variable {TT : Tb}
def tideCs : List (V × List E) := [(.b .tt, [tideE0, .le (.c 1) (.v 0), .le (.v 0) (.c 100)]), (.b .ff, [.not tideE0])]
def cTide := ctrCases 31 [tidesK] [] tideCs
def cTideR := ctrCases 17 [tidesK] [] tideCs
def cGround := ctrCases 32 [groundK] [] groundCs
def cGroundR := ctrCases 18 [groundK] [] groundCs
def cOff := ctrVal 36 [groundK, stretchK, .one K] offFs (.b offV) []
theorem ground_E {ρ : Env} (hh : ρ.h = h2F) : groundE.B ρ = true ↔ (0 ≤ ρ.i 0 ∧ ρ.i 0 ≤ 100000) ∧ (-100000 ≤ ρ.i 1 ∧ ρ.i 1 ≤ 100000) ∧ (1 ≤ ρ.i 2 ∧ ρ.i 2 ≤ 1000) ∧ (0 ≤ ρ.i 3 ∧ ρ.i 3 ≤ 1000000) ∧ (0 ≤ ρ.i 4 ∧ ρ.i 4 ≤ 1000) := by
  simp only [groundE, els, List.map, List.foldr, B_happ, hh, L_cons, L_nil, I_v]
  show groundB _ = true ↔ _
  simp [groundB, nI, and_assoc]
theorem isGround_ok (u : Fit2 TT) : CtrOk TT Tryz.prog cGround := ctrCases_ok rfl fun ρ w hF hT hR => by
  have ht := ground_E (u.tab hT).2
  refine cases_rest dd_ok (Γ := {}) (by simp) 400 [groundK] [] groundCs (by decide)
    [⟨(.val (.b (.le (.v 4) (.c 1000)))), [(.le (.c 0) (.v 4)), (.le (.v 3) (.c 1000000)), (.le (.c 0) (.v 3)), (.le (.v 2) (.c 1000)), (.le (.c 1) (.v 2)), (.le (.v 1) (.c 100000)), (.le (.c (-100000)) (.v 1)), (.le (.v 0) (.c 100000)), (.le (.c 0) (.v 0))], []⟩,
⟨(.val (.b .ff)), [(.lt (.v 4) (.c 0)), (.le (.v 3) (.c 1000000)), (.le (.c 0) (.v 3)), (.le (.v 2) (.c 1000)), (.le (.c 1) (.v 2)), (.le (.v 1) (.c 100000)), (.le (.c (-100000)) (.v 1)), (.le (.v 0) (.c 100000)), (.le (.c 0) (.v 0))], []⟩,
⟨(.val (.b .ff)), [(.lt (.c 1000000) (.v 3)), (.le (.c 0) (.v 3)), (.le (.v 2) (.c 1000)), (.le (.c 1) (.v 2)), (.le (.v 1) (.c 100000)), (.le (.c (-100000)) (.v 1)), (.le (.v 0) (.c 100000)), (.le (.c 0) (.v 0))], []⟩,
⟨(.val (.b .ff)), [(.lt (.v 3) (.c 0)), (.le (.v 2) (.c 1000)), (.le (.c 1) (.v 2)), (.le (.v 1) (.c 100000)), (.le (.c (-100000)) (.v 1)), (.le (.v 0) (.c 100000)), (.le (.c 0) (.v 0))], []⟩,
⟨(.val (.b .ff)), [(.lt (.c 1000) (.v 2)), (.le (.c 1) (.v 2)), (.le (.v 1) (.c 100000)), (.le (.c (-100000)) (.v 1)), (.le (.v 0) (.c 100000)), (.le (.c 0) (.v 0))], []⟩,
⟨(.val (.b .ff)), [(.lt (.v 2) (.c 1)), (.le (.v 1) (.c 100000)), (.le (.c (-100000)) (.v 1)), (.le (.v 0) (.c 100000)), (.le (.c 0) (.v 0))], []⟩,
⟨(.val (.b .ff)), [(.lt (.c 100000) (.v 1)), (.le (.c (-100000)) (.v 1)), (.le (.v 0) (.c 100000)), (.le (.c 0) (.v 0))], []⟩,
⟨(.val (.b .ff)), [(.lt (.v 1) (.c (-100000))), (.le (.v 0) (.c 100000)), (.le (.c 0) (.v 0))], []⟩,
⟨(.val (.b .ff)), [(.lt (.c 100000) (.v 0)), (.le (.c 0) (.v 0))], []⟩,
⟨(.val (.b .ff)), [(.lt (.v 0) (.c 0))], []⟩] (by kernel_rfl) ρ w hF hT hR ⟨?_, ?_, ?_, ?_, ?_, ?_, ?_, ?_, ?_, ?_⟩ (u.J w)
  all_goals
    intro ρ' w' hx _ hF hb _
    have e0 : ρ'.i 0 = ρ.i 0 := hx.i 0 (by decide)
    have e1 : ρ'.i 1 = ρ.i 1 := hx.i 1 (by decide)
    have e2 : ρ'.i 2 = ρ.i 2 := hx.i 2 (by decide)
    have e3 : ρ'.i 3 = ρ.i 3 := hx.i 3 (by decide)
    have e4 : ρ'.i 4 = ρ.i 4 := hx.i 4 (by decide)
    simp only [holds, List.mem_cons, List.not_mem_nil, or_false, forall_eq_or_imp, forall_eq, B_le, B_lt, I_c, I_v, decide_eq_true_eq, e0, e1, e2, e3, e4] at hF
    refine ⟨?_, hb⟩
    by_cases h : groundE.B ρ = true
    · have hr := ht.1 h
      refine ⟨_, List.mem_cons_self, ret_b ?_, ?_⟩
      · (try simp only [B_le, B_t, B_f, I_c, I_v, decide_eq_true_eq, e4]) <;> first | rfl | omega | (exact absurd hF (by omega))
      · intro a ha
        simp only [groundFs, btw, List.cons_append, List.nil_append, List.mem_cons, List.not_mem_nil, or_false] at ha
        rcases ha with rfl | rfl | rfl | rfl | rfl | rfl | rfl | rfl | rfl | rfl | rfl <;> first | exact h | (simp only [B_le, I_c, I_v, decide_eq_true_eq]; omega)
    · refine ⟨_, List.mem_cons_of_mem _ List.mem_cons_self, ret_b ?_, ?_⟩
      · (try simp only [B_le, B_f, I_c, I_v, decide_eq_false_iff_not, Int.not_le, e4]) <;> first | rfl | (exact absurd (ht.2 (by omega)) h) | (exact Int.lt_of_not_ge fun hk => h (ht.2 (by omega)))
      · simp only [List.mem_cons, List.not_mem_nil, or_false, forall_eq, B_not, Bool.not_eq_true', Bool.not_eq_true] at h ⊢
        exact h
theorem aground_ok (u : Fit2 TT) : CtrOk TT Tryz.prog cGroundR := ctrCases_ok rfl fun ρ w hF hT hR => by
  have ht := ground_E (u.tab hT).2
  refine cases_rest dd_ok (Γ := {}) (by simp) 400 [groundK] [] groundCs (by decide)
    [⟨(.val (.b (.le (.v 4) (.c 1000)))), [(.le (.c 0) (.v 4)), (.le (.v 3) (.c 1000000)), (.le (.c 0) (.v 3)), (.le (.v 2) (.c 1000)), (.le (.c 1) (.v 2)), (.le (.v 1) (.c 100000)), (.le (.c (-100000)) (.v 1)), (.le (.v 0) (.c 100000)), (.le (.c 0) (.v 0))], []⟩,
⟨(.val (.b .ff)), [(.lt (.v 4) (.c 0)), (.le (.v 3) (.c 1000000)), (.le (.c 0) (.v 3)), (.le (.v 2) (.c 1000)), (.le (.c 1) (.v 2)), (.le (.v 1) (.c 100000)), (.le (.c (-100000)) (.v 1)), (.le (.v 0) (.c 100000)), (.le (.c 0) (.v 0))], []⟩,
⟨(.val (.b .ff)), [(.lt (.c 1000000) (.v 3)), (.le (.c 0) (.v 3)), (.le (.v 2) (.c 1000)), (.le (.c 1) (.v 2)), (.le (.v 1) (.c 100000)), (.le (.c (-100000)) (.v 1)), (.le (.v 0) (.c 100000)), (.le (.c 0) (.v 0))], []⟩,
⟨(.val (.b .ff)), [(.lt (.v 3) (.c 0)), (.le (.v 2) (.c 1000)), (.le (.c 1) (.v 2)), (.le (.v 1) (.c 100000)), (.le (.c (-100000)) (.v 1)), (.le (.v 0) (.c 100000)), (.le (.c 0) (.v 0))], []⟩,
⟨(.val (.b .ff)), [(.lt (.c 1000) (.v 2)), (.le (.c 1) (.v 2)), (.le (.v 1) (.c 100000)), (.le (.c (-100000)) (.v 1)), (.le (.v 0) (.c 100000)), (.le (.c 0) (.v 0))], []⟩,
⟨(.val (.b .ff)), [(.lt (.v 2) (.c 1)), (.le (.v 1) (.c 100000)), (.le (.c (-100000)) (.v 1)), (.le (.v 0) (.c 100000)), (.le (.c 0) (.v 0))], []⟩,
⟨(.val (.b .ff)), [(.lt (.c 100000) (.v 1)), (.le (.c (-100000)) (.v 1)), (.le (.v 0) (.c 100000)), (.le (.c 0) (.v 0))], []⟩,
⟨(.val (.b .ff)), [(.lt (.v 1) (.c (-100000))), (.le (.v 0) (.c 100000)), (.le (.c 0) (.v 0))], []⟩,
⟨(.val (.b .ff)), [(.lt (.c 100000) (.v 0)), (.le (.c 0) (.v 0))], []⟩,
⟨(.val (.b .ff)), [(.lt (.v 0) (.c 0))], []⟩] (by kernel_rfl) ρ w hF hT hR ⟨?_, ?_, ?_, ?_, ?_, ?_, ?_, ?_, ?_, ?_⟩ (u.J w)
  all_goals
    intro ρ' w' hx _ hF hb _
    have e0 : ρ'.i 0 = ρ.i 0 := hx.i 0 (by decide)
    have e1 : ρ'.i 1 = ρ.i 1 := hx.i 1 (by decide)
    have e2 : ρ'.i 2 = ρ.i 2 := hx.i 2 (by decide)
    have e3 : ρ'.i 3 = ρ.i 3 := hx.i 3 (by decide)
    have e4 : ρ'.i 4 = ρ.i 4 := hx.i 4 (by decide)
    simp only [holds, List.mem_cons, List.not_mem_nil, or_false, forall_eq_or_imp, forall_eq, B_le, B_lt, I_c, I_v, decide_eq_true_eq, e0, e1, e2, e3, e4] at hF
    refine ⟨?_, hb⟩
    by_cases h : groundE.B ρ = true
    · have hr := ht.1 h
      refine ⟨_, List.mem_cons_self, ret_b ?_, ?_⟩
      · (try simp only [B_le, B_t, B_f, I_c, I_v, decide_eq_true_eq, e4]) <;> first | rfl | omega | (exact absurd hF (by omega))
      · intro a ha
        simp only [groundFs, btw, List.cons_append, List.nil_append, List.mem_cons, List.not_mem_nil, or_false] at ha
        rcases ha with rfl | rfl | rfl | rfl | rfl | rfl | rfl | rfl | rfl | rfl | rfl <;> first | exact h | (simp only [B_le, I_c, I_v, decide_eq_true_eq]; omega)
    · refine ⟨_, List.mem_cons_of_mem _ List.mem_cons_self, ret_b ?_, ?_⟩
      · (try simp only [B_le, B_f, I_c, I_v, decide_eq_false_iff_not, Int.not_le, e4]) <;> first | rfl | (exact absurd (ht.2 (by omega)) h) | (exact Int.lt_of_not_ge fun hk => h (ht.2 (by omega)))
      · simp only [List.mem_cons, List.not_mem_nil, or_false, forall_eq, B_not, Bool.not_eq_true', Bool.not_eq_true] at h ⊢
        exact h
theorem offV_B {ρ : Env} (hh : ρ.h = h2F) : offV.B ρ = offS (ρ.i 0) (ρ.i 1) (ρ.i 2) (ρ.i 3) (ρ.i 4) (ρ.i 5) (ρ.i 6) (ρ.i 7) (ρ.i 8) (ρ.i 10) := by
  simp only [offV, offE, B_happ, hh, L_cons, L_nil, I_v]
  rfl
theorem off_ok (u : Fit2 TT) : CtrOk TT Tryz.prog cOff := ctrVal_ok rfl fun ρ w hF hT hR => by
  have ht := offV_B (u.tab hT).2
  refine pat_calls (Γ := {}) (by simp) 400 [groundK, stretchK, .one K] offFs
    [⟨(.val (.b (.le (.mul (.mul (.v 2) (.sub (.mul (.sub (.sub (.v 0) (.v 1)) (.v 6)) (.ite (.lt (.c 1) (.sub (.v 7) (.v 5))) (.sub (.v 7) (.v 5)) (.c 1))) (.mul (.sub (.v 8) (.v 6)) (.sub (.v 10) (.v 5))))) (.v 4)) (.mul (.mul (.c 10000) (.v 3)) (.ite (.lt (.c 1) (.sub (.v 7) (.v 5))) (.sub (.v 7) (.v 5)) (.c 1)))))), [(.le (.c 0) (.v 0)), (.le (.v 0) (.c 100000)), (.le (.c (-100000)) (.v 1)), (.le (.v 1) (.c 100000)), (.le (.c 1) (.v 2)), (.le (.v 2) (.c 1000)), (.le (.c 0) (.v 3)), (.le (.v 3) (.c 1000000)), (.le (.c 0) (.v 4)), (.le (.v 4) (.c 1000)), (.le (.c 0) (.v 5)), (.le (.v 5) (.c 10000000)), (.le (.c (-100000)) (.v 6)), (.le (.v 6) (.c 100000)), (.le (.c 0) (.v 7)), (.le (.v 7) (.c 10000000)), (.le (.c (-100000)) (.v 8)), (.le (.v 8) (.c 100000)), (.le (.c 0) (.v 10)), (.le (.v 10) (.c 10000000))], []⟩] (by kernel_rfl) ρ w hF hT hR ?_ (u.J w)
  intro ρ' w' hx _ hF hb _
  have e0 : ρ'.i 0 = ρ.i 0 := hx.i 0 (by decide)
  have e1 : ρ'.i 1 = ρ.i 1 := hx.i 1 (by decide)
  have e2 : ρ'.i 2 = ρ.i 2 := hx.i 2 (by decide)
  have e3 : ρ'.i 3 = ρ.i 3 := hx.i 3 (by decide)
  have e4 : ρ'.i 4 = ρ.i 4 := hx.i 4 (by decide)
  have e5 : ρ'.i 5 = ρ.i 5 := hx.i 5 (by decide)
  have e6 : ρ'.i 6 = ρ.i 6 := hx.i 6 (by decide)
  have e7 : ρ'.i 7 = ρ.i 7 := hx.i 7 (by decide)
  have e8 : ρ'.i 8 = ρ.i 8 := hx.i 8 (by decide)
  have e10 : ρ'.i 10 = ρ.i 10 := hx.i 10 (by decide)
  refine ⟨⟨?_, fun _ h => by cases h⟩, hb⟩
  rw [den_b (e := offV), ht]
  refine ret_b ?_
  simp only [B_le, B_lt, I_mul, I_sub, I_c, I_v, I_ite, decide_eq_true_eq, e0, e1, e2, e3, e4, e5, e6, e7, e8, e10]
  have hm : (if 1 < ρ.i 7 - ρ.i 5 then ρ.i 7 - ρ.i 5 else 1) = max 1 (ρ.i 7 - ρ.i 5) := by split <;> omega
  rw [hm]
  rfl
/-! ### What is valid: a tide -/
def tideL : LoopSpec := { key := 5, locs := [.t 12 (.i .i64), .t 3 (.i .i64)], facts := fun n => [.le (.c 0) (.v n), .le (.v n) (.v 0), .le (.v n) (.c 100), .happ 6 (.cons (.v n) (.lv 0)), .le (.c 0) (.v (n+1)), .le (.v (n+1)) (.c 10000001), .or (.and (.eq (.v n) (.c 0)) (.eq (.v (n+1)) (.c 0))) (.and (.lt (.c 0) (.v n)) (.eq (.v (n+1)) (.add (.nthI (.lv 0) (.mul (.sub (.v n) (.c 1)) (.c 2))) (.c 1))))], meas := fun n => .sub (.v 0) (.v n) }
def tideRL : LoopSpec := { key := 2, locs := [.t 3 (.i .i64)], facts := fun n => [.le (.c 0) (.v n), .le (.v n) (.v 0), .le (.v n) (.c 9223372036854775807), .happ 6 (.cons (.v n) (.lv 0))], meas := fun n => .sub (.v 0) (.v n) }
def nF : List E := [.le (.c 0) (.v 0), .le (.v 0) (.c 9223372036854775807)]
theorem h2_6 (a : Int × ByteArray) (l : LL) : h2F 6 (a :: l) = allTo a.1 (pointB l) := rfl
theorem h2_4 (a : Int × ByteArray) (l : LL) : h2F 4 (a :: l) = tideB a.1 l := rfl
theorem tide_not {n : Int} {l : LL} {k : Int} (h0 : 0 ≤ k) (h1 : k < n) (h : ¬ ((0 ≤ tT l k ∧ tT l k ≤ 10000000) ∧ (-100000 ≤ tH l k ∧ tH l k ≤ 100000) ∧ (k = 0 ∨ tT l (k - 1) < tT l k))) : tideB n l = false := by
  cases e : tideB n l with
  | false => rfl
  | true => exact absurd (tide_at e h0 h1) h
theorem point_of {l : LL} {k : Int} (h1 : 0 ≤ tT l k ∧ tT l k ≤ 10000000) (h2 : -100000 ≤ tH l k ∧ tH l k ≤ 100000) (h3 : k = 0 ∨ tT l (k - 1) < tT l k) : pointB l k = true := by
  simp only [pointB, Bool.and_eq_true, Bool.or_eq_true, decide_eq_true_eq]
  exact ⟨⟨h1, h2⟩, h3⟩
theorem tide_len {n : Int} {l : LL} (h : n < 1 ∨ 100 < n) : tideB n l = false := by
  cases e : tideB n l with
  | false => rfl
  | true => have := tide_n e; omega
/-- what an end says of a tide. -/
theorem tide_end {ρ : Env} {w w' : World} (hh : ρ.h = h2F) (b : Bool) (hb : tideB (ρ.i 0) (ρ.l 0) = b) (hB : Below w.heap.size w w') : (∃ c ∈ tideCs, Ending.returned (.bool b) = .returned (c.1.den ρ) ∧ ∀ a ∈ c.2, a.B ρ = true) ∧ Below w.heap.size w w' := by
  have e : tideE0.B ρ = b := by
    simp only [tideE0, B_happ, hh, L_cons, L_lv, I_v, h2_4]; exact hb
  refine ⟨?_, hB⟩
  cases b
  · refine ⟨_, List.mem_cons_of_mem _ List.mem_cons_self, rfl, ?_⟩
    simp only [List.mem_cons, List.not_mem_nil, or_false, forall_eq, B_not, e]; rfl
  · have := tide_n hb
    refine ⟨_, List.mem_cons_self, rfl, ?_⟩
    simp only [List.mem_cons, List.not_mem_nil, or_false, forall_eq_or_imp, forall_eq, B_le, I_c, I_v, e, decide_eq_true_eq]
    exact ⟨trivial, this.1, this.2⟩
theorem row_n {ρ : Env} {w : World} {aks : List AK} (hR : RowsAt ρ w aks) {k : Nat} {kds : List Kd} (hk : (k, rowL k kds) ∈ rowsL 0 (ksOf aks)) : 0 ≤ ρ.i k ∧ ρ.i k ≤ 9223372036854775807 := by
  have := (hR _ hk).2 0
  unfold Row.at at this
  obtain ⟨h0, h1, h2⟩ := this
  have h3 : maxLen = 9223372036854775807 := rfl
  refine ⟨h0, ?_⟩
  rw [if_neg (by simp [rowL])] at h2
  rcases h2.2 with ⟨-, e⟩ | ⟨a, cap, -, -, -, hc, -⟩
  · have : ρ.i k = 0 := e
    omega
  · have : (ρ.i k).toNat ≤ cap := hc.1
    omega
theorem isTide_ok (u : Fit2 TT) : CtrOk TT Tryz.prog cTide := ctrCases_ok rfl fun ρ w hF0 hT hR => by
  have hh := (u.tab hT).2
  have hn := row_n hR (k := 0) (kds := [.i .i64, .i .i64]) (by simp [tidesK, ksOf, AK.ks, rowsL])
  have hF : holds ρ nF := by simp only [holds, nF, List.mem_cons, List.not_mem_nil, or_false, forall_eq_or_imp, forall_eq, B_le, I_c, I_v, decide_eq_true_eq]; exact hn
  refine cases_rest dd_ok (Γ := { loops := [tideL] }) (by simp) 400 [tidesK] nF tideCs (by decide)
    [⟨(.val (.b .ff)), [(.lt (.c 100) (.v 0)), (.le (.c 1) (.v 0)), (.le (.c 0) (.v 0)), (.le (.v 0) (.c 9223372036854775807))], []⟩,
⟨(.must (.happ 6 (.cons (.c 0) (.lv 0)))), [(.le (.v 0) (.c 100)), (.le (.c 1) (.v 0)), (.le (.c 0) (.v 0)), (.le (.v 0) (.c 9223372036854775807))], []⟩,
⟨(.val (.b .ff)), [(.lt (.c 10000000) (.nthI (.lv 0) (.mul (.v 1) (.c 2)))), (.le (.v 2) (.nthI (.lv 0) (.mul (.v 1) (.c 2)))), (.lt (.v 1) (.v 0)), (.le (.c 0) (.v 1)), (.le (.v 1) (.v 0)), (.le (.v 1) (.c 100)), (.happ 6 (.cons (.v 1) (.lv 0))), (.le (.c 0) (.v 2)), (.le (.v 2) (.c 10000001)), (.or (.and (.eq (.v 1) (.c 0)) (.eq (.v 2) (.c 0))) (.and (.lt (.c 0) (.v 1)) (.eq (.v 2) (.add (.nthI (.lv 0) (.mul (.sub (.v 1) (.c 1)) (.c 2))) (.c 1))))), (.le (.v 0) (.c 100)), (.le (.c 1) (.v 0)), (.le (.c 0) (.v 0)), (.le (.v 0) (.c 9223372036854775807))], []⟩,
⟨(.val (.b .ff)), [(.lt (.c 100000) (.nthI (.lv 0) (.add (.mul (.v 1) (.c 2)) (.c 1)))), (.le (.c (-100000)) (.nthI (.lv 0) (.add (.mul (.v 1) (.c 2)) (.c 1)))), (.le (.nthI (.lv 0) (.mul (.v 1) (.c 2))) (.c 10000000)), (.le (.v 2) (.nthI (.lv 0) (.mul (.v 1) (.c 2)))), (.lt (.v 1) (.v 0)), (.le (.c 0) (.v 1)), (.le (.v 1) (.v 0)), (.le (.v 1) (.c 100)), (.happ 6 (.cons (.v 1) (.lv 0))), (.le (.c 0) (.v 2)), (.le (.v 2) (.c 10000001)), (.or (.and (.eq (.v 1) (.c 0)) (.eq (.v 2) (.c 0))) (.and (.lt (.c 0) (.v 1)) (.eq (.v 2) (.add (.nthI (.lv 0) (.mul (.sub (.v 1) (.c 1)) (.c 2))) (.c 1))))), (.le (.v 0) (.c 100)), (.le (.c 1) (.v 0)), (.le (.c 0) (.v 0)), (.le (.v 0) (.c 9223372036854775807))], []⟩,
⟨(.must (.happ 6 (.cons (.add (.v 1) (.c 1)) (.lv 0)))), [(.le (.nthI (.lv 0) (.add (.mul (.v 1) (.c 2)) (.c 1))) (.c 100000)), (.le (.c (-100000)) (.nthI (.lv 0) (.add (.mul (.v 1) (.c 2)) (.c 1)))), (.le (.nthI (.lv 0) (.mul (.v 1) (.c 2))) (.c 10000000)), (.le (.v 2) (.nthI (.lv 0) (.mul (.v 1) (.c 2)))), (.lt (.v 1) (.v 0)), (.le (.c 0) (.v 1)), (.le (.v 1) (.v 0)), (.le (.v 1) (.c 100)), (.happ 6 (.cons (.v 1) (.lv 0))), (.le (.c 0) (.v 2)), (.le (.v 2) (.c 10000001)), (.or (.and (.eq (.v 1) (.c 0)) (.eq (.v 2) (.c 0))) (.and (.lt (.c 0) (.v 1)) (.eq (.v 2) (.add (.nthI (.lv 0) (.mul (.sub (.v 1) (.c 1)) (.c 2))) (.c 1))))), (.le (.v 0) (.c 100)), (.le (.c 1) (.v 0)), (.le (.c 0) (.v 0)), (.le (.v 0) (.c 9223372036854775807))], []⟩,
⟨(.must (.le (.c 0) (.wrap .i64 (.add (.nthI (.lv 0) (.mul (.v 1) (.c 2))) (.c 1))))), [(.le (.nthI (.lv 0) (.add (.mul (.v 1) (.c 2)) (.c 1))) (.c 100000)), (.le (.c (-100000)) (.nthI (.lv 0) (.add (.mul (.v 1) (.c 2)) (.c 1)))), (.le (.nthI (.lv 0) (.mul (.v 1) (.c 2))) (.c 10000000)), (.le (.v 2) (.nthI (.lv 0) (.mul (.v 1) (.c 2)))), (.lt (.v 1) (.v 0)), (.le (.c 0) (.v 1)), (.le (.v 1) (.v 0)), (.le (.v 1) (.c 100)), (.happ 6 (.cons (.v 1) (.lv 0))), (.le (.c 0) (.v 2)), (.le (.v 2) (.c 10000001)), (.or (.and (.eq (.v 1) (.c 0)) (.eq (.v 2) (.c 0))) (.and (.lt (.c 0) (.v 1)) (.eq (.v 2) (.add (.nthI (.lv 0) (.mul (.sub (.v 1) (.c 1)) (.c 2))) (.c 1))))), (.le (.v 0) (.c 100)), (.le (.c 1) (.v 0)), (.le (.c 0) (.v 0)), (.le (.v 0) (.c 9223372036854775807))], []⟩,
⟨(.must (.le (.wrap .i64 (.add (.nthI (.lv 0) (.mul (.v 1) (.c 2))) (.c 1))) (.c 10000001))), [(.le (.nthI (.lv 0) (.add (.mul (.v 1) (.c 2)) (.c 1))) (.c 100000)), (.le (.c (-100000)) (.nthI (.lv 0) (.add (.mul (.v 1) (.c 2)) (.c 1)))), (.le (.nthI (.lv 0) (.mul (.v 1) (.c 2))) (.c 10000000)), (.le (.v 2) (.nthI (.lv 0) (.mul (.v 1) (.c 2)))), (.lt (.v 1) (.v 0)), (.le (.c 0) (.v 1)), (.le (.v 1) (.v 0)), (.le (.v 1) (.c 100)), (.happ 6 (.cons (.v 1) (.lv 0))), (.le (.c 0) (.v 2)), (.le (.v 2) (.c 10000001)), (.or (.and (.eq (.v 1) (.c 0)) (.eq (.v 2) (.c 0))) (.and (.lt (.c 0) (.v 1)) (.eq (.v 2) (.add (.nthI (.lv 0) (.mul (.sub (.v 1) (.c 1)) (.c 2))) (.c 1))))), (.le (.v 0) (.c 100)), (.le (.c 1) (.v 0)), (.le (.c 0) (.v 0)), (.le (.v 0) (.c 9223372036854775807))], []⟩,
⟨(.must (.or (.and (.eq (.add (.v 1) (.c 1)) (.c 0)) (.eq (.wrap .i64 (.add (.nthI (.lv 0) (.mul (.v 1) (.c 2))) (.c 1))) (.c 0))) (.and (.lt (.c 0) (.add (.v 1) (.c 1))) (.eq (.wrap .i64 (.add (.nthI (.lv 0) (.mul (.v 1) (.c 2))) (.c 1))) (.add (.nthI (.lv 0) (.mul (.sub (.add (.v 1) (.c 1)) (.c 1)) (.c 2))) (.c 1)))))), [(.le (.nthI (.lv 0) (.add (.mul (.v 1) (.c 2)) (.c 1))) (.c 100000)), (.le (.c (-100000)) (.nthI (.lv 0) (.add (.mul (.v 1) (.c 2)) (.c 1)))), (.le (.nthI (.lv 0) (.mul (.v 1) (.c 2))) (.c 10000000)), (.le (.v 2) (.nthI (.lv 0) (.mul (.v 1) (.c 2)))), (.lt (.v 1) (.v 0)), (.le (.c 0) (.v 1)), (.le (.v 1) (.v 0)), (.le (.v 1) (.c 100)), (.happ 6 (.cons (.v 1) (.lv 0))), (.le (.c 0) (.v 2)), (.le (.v 2) (.c 10000001)), (.or (.and (.eq (.v 1) (.c 0)) (.eq (.v 2) (.c 0))) (.and (.lt (.c 0) (.v 1)) (.eq (.v 2) (.add (.nthI (.lv 0) (.mul (.sub (.v 1) (.c 1)) (.c 2))) (.c 1))))), (.le (.v 0) (.c 100)), (.le (.c 1) (.v 0)), (.le (.c 0) (.v 0)), (.le (.v 0) (.c 9223372036854775807))], []⟩,
⟨(.val (.b .ff)), [(.lt (.nthI (.lv 0) (.add (.mul (.v 1) (.c 2)) (.c 1))) (.c (-100000))), (.le (.nthI (.lv 0) (.mul (.v 1) (.c 2))) (.c 10000000)), (.le (.v 2) (.nthI (.lv 0) (.mul (.v 1) (.c 2)))), (.lt (.v 1) (.v 0)), (.le (.c 0) (.v 1)), (.le (.v 1) (.v 0)), (.le (.v 1) (.c 100)), (.happ 6 (.cons (.v 1) (.lv 0))), (.le (.c 0) (.v 2)), (.le (.v 2) (.c 10000001)), (.or (.and (.eq (.v 1) (.c 0)) (.eq (.v 2) (.c 0))) (.and (.lt (.c 0) (.v 1)) (.eq (.v 2) (.add (.nthI (.lv 0) (.mul (.sub (.v 1) (.c 1)) (.c 2))) (.c 1))))), (.le (.v 0) (.c 100)), (.le (.c 1) (.v 0)), (.le (.c 0) (.v 0)), (.le (.v 0) (.c 9223372036854775807))], []⟩,
⟨(.val (.b .ff)), [(.lt (.nthI (.lv 0) (.mul (.v 1) (.c 2))) (.v 2)), (.lt (.v 1) (.v 0)), (.le (.c 0) (.v 1)), (.le (.v 1) (.v 0)), (.le (.v 1) (.c 100)), (.happ 6 (.cons (.v 1) (.lv 0))), (.le (.c 0) (.v 2)), (.le (.v 2) (.c 10000001)), (.or (.and (.eq (.v 1) (.c 0)) (.eq (.v 2) (.c 0))) (.and (.lt (.c 0) (.v 1)) (.eq (.v 2) (.add (.nthI (.lv 0) (.mul (.sub (.v 1) (.c 1)) (.c 2))) (.c 1))))), (.le (.v 0) (.c 100)), (.le (.c 1) (.v 0)), (.le (.c 0) (.v 0)), (.le (.v 0) (.c 9223372036854775807))], []⟩,
⟨(.val (.b .tt)), [(.le (.v 0) (.v 1)), (.le (.c 0) (.v 1)), (.le (.v 1) (.v 0)), (.le (.v 1) (.c 100)), (.happ 6 (.cons (.v 1) (.lv 0))), (.le (.c 0) (.v 2)), (.le (.v 2) (.c 10000001)), (.or (.and (.eq (.v 1) (.c 0)) (.eq (.v 2) (.c 0))) (.and (.lt (.c 0) (.v 1)) (.eq (.v 2) (.add (.nthI (.lv 0) (.mul (.sub (.v 1) (.c 1)) (.c 2))) (.c 1))))), (.le (.v 0) (.c 100)), (.le (.c 1) (.v 0)), (.le (.c 0) (.v 0)), (.le (.v 0) (.c 9223372036854775807))], []⟩,
⟨(.val (.b .ff)), [(.lt (.v 0) (.c 1)), (.le (.c 0) (.v 0)), (.le (.v 0) (.c 9223372036854775807))], []⟩] (by kernel_rfl) ρ w hF hT hR ⟨?_, ?_, ?_, ?_, ?_, ?_, ?_, ?_, ?_, ?_, ?_, ?_⟩ (u.J w)
  all_goals
    intro ρ' w' hx _ hF hb _
    have e0 : ρ'.i 0 = ρ.i 0 := hx.i 0 (by decide)
    have l0 : ρ'.l 0 = ρ.l 0 := hx.l 0 (by decide)
    have hh' : ρ'.h = h2F := by rw [hx.h]; exact hh
    clear hx hR
    simp only [holds, List.mem_cons, List.not_mem_nil, or_false, forall_eq_or_imp, forall_eq, B_le, B_lt, B_eq, B_or, B_and, B_happ, B_t, B_f, I_add, I_mul, I_sub, I_c, I_v, I_nthI, L_cons, L_lv, decide_eq_true_eq, Bool.or_eq_true, Bool.and_eq_true, I_wrap, e0, l0, hh', nI_eq, tT_f, tH_f, h2_6, IntKind.wrap_i64, den_b] at hF ⊢
    first
      | exact allTo_zero _
      | exact tide_end hh false (tide_len (by omega)) hb
      | exact tide_end hh false (tide_not (k := ρ'.i 1) (by omega) (by omega) (by omega)) hb
      | (rw [allTo_succ (by omega), point_of (by omega) (by omega) (by omega), show allTo (ρ'.i 1) (pointB (ρ.l 0)) = true by simp only [hF]]; rfl)
      | (refine tide_end hh true ?_ hb
         have hP : allTo (ρ'.i 1) (pointB (ρ.l 0)) = true := by simp only [hF]
         rw [show ρ'.i 1 = ρ.i 0 by omega] at hP
         simp only [tideB, hP, Bool.and_true, decide_eq_true_eq]
         omega)
      | omega
      | (rw [show ρ'.i 1 + 1 - 1 = ρ'.i 1 by omega]; omega)
      | (rw [show (ρ'.i 1 + 1 + 9223372036854775808) % 18446744073709551616 - 9223372036854775808 = ρ'.i 1 + 1 by omega, allTo_succ (by omega), point_of (by omega) (by omega) (by omega), show allTo (ρ'.i 1) (pointB (ρ.l 0)) = true by simp only [hF]]; rfl)
      | (have hP : allTo (ρ'.i 1) (pointB (ρ.l 0)) = true := by simp only [hF]
         rw [show ρ'.i 1 = ρ.i 0 by omega] at hP
         refine tide_end hh _ ?_ hb
         simp only [tideB, hP, Bool.and_true]
         rw [Bool.eq_iff_iff, decide_eq_true_eq, decide_eq_true_eq]
         omega)
theorem tides_ok (u : Fit2 TT) : CtrOk TT Tryz.prog cTideR := ctrCases_ok rfl fun ρ w hF0 hT hR => by
  have hh := (u.tab hT).2
  have hn := row_n hR (k := 0) (kds := [.i .i64, .i .i64]) (by simp [tidesK, ksOf, AK.ks, rowsL])
  have hF : holds ρ nF := by simp only [holds, nF, List.mem_cons, List.not_mem_nil, or_false, forall_eq_or_imp, forall_eq, B_le, I_c, I_v, decide_eq_true_eq]; exact hn
  refine cases_rest dd_ok (Γ := { loops := [tideRL] }) (by simp) 400 [tidesK] nF tideCs (by decide)
    [⟨(.must (.happ 6 (.cons (.c 0) (.lv 0)))), [(.le (.c 0) (.v 0)), (.le (.v 0) (.c 9223372036854775807))], []⟩,
⟨(.val (.b .ff)), [(.lt (.c 10000000) (.nthI (.lv 0) (.mul (.v 1) (.c 2)))), (.le (.c 0) (.nthI (.lv 0) (.mul (.v 1) (.c 2)))), (.lt (.v 1) (.v 0)), (.le (.c 0) (.v 1)), (.le (.v 1) (.v 0)), (.le (.v 1) (.c 9223372036854775807)), (.happ 6 (.cons (.v 1) (.lv 0))), (.le (.c 0) (.v 0)), (.le (.v 0) (.c 9223372036854775807))], []⟩,
⟨(.val (.b .ff)), [(.lt (.c 100000) (.nthI (.lv 0) (.add (.mul (.v 1) (.c 2)) (.c 1)))), (.le (.c (-100000)) (.nthI (.lv 0) (.add (.mul (.v 1) (.c 2)) (.c 1)))), (.le (.nthI (.lv 0) (.mul (.v 1) (.c 2))) (.c 10000000)), (.le (.c 0) (.nthI (.lv 0) (.mul (.v 1) (.c 2)))), (.lt (.v 1) (.v 0)), (.le (.c 0) (.v 1)), (.le (.v 1) (.v 0)), (.le (.v 1) (.c 9223372036854775807)), (.happ 6 (.cons (.v 1) (.lv 0))), (.le (.c 0) (.v 0)), (.le (.v 0) (.c 9223372036854775807))], []⟩,
⟨(.val (.b .ff)), [(.le (.nthI (.lv 0) (.mul (.v 1) (.c 2))) (.nthI (.lv 0) (.mul (.sub (.v 1) (.c 1)) (.c 2)))), (.lt (.sub (.v 1) (.c 1)) (.v 0)), (.lt (.c 0) (.v 1)), (.le (.nthI (.lv 0) (.add (.mul (.v 1) (.c 2)) (.c 1))) (.c 100000)), (.le (.c (-100000)) (.nthI (.lv 0) (.add (.mul (.v 1) (.c 2)) (.c 1)))), (.le (.nthI (.lv 0) (.mul (.v 1) (.c 2))) (.c 10000000)), (.le (.c 0) (.nthI (.lv 0) (.mul (.v 1) (.c 2)))), (.lt (.v 1) (.v 0)), (.le (.c 0) (.v 1)), (.le (.v 1) (.v 0)), (.le (.v 1) (.c 9223372036854775807)), (.happ 6 (.cons (.v 1) (.lv 0))), (.le (.c 0) (.v 0)), (.le (.v 0) (.c 9223372036854775807))], []⟩,
⟨(.must (.le (.c 0) (.wrap .i64 (.add (.v 1) (.c 1))))), [(.lt (.nthI (.lv 0) (.mul (.sub (.v 1) (.c 1)) (.c 2))) (.nthI (.lv 0) (.mul (.v 1) (.c 2)))), (.lt (.sub (.v 1) (.c 1)) (.v 0)), (.lt (.c 0) (.v 1)), (.le (.nthI (.lv 0) (.add (.mul (.v 1) (.c 2)) (.c 1))) (.c 100000)), (.le (.c (-100000)) (.nthI (.lv 0) (.add (.mul (.v 1) (.c 2)) (.c 1)))), (.le (.nthI (.lv 0) (.mul (.v 1) (.c 2))) (.c 10000000)), (.le (.c 0) (.nthI (.lv 0) (.mul (.v 1) (.c 2)))), (.lt (.v 1) (.v 0)), (.le (.c 0) (.v 1)), (.le (.v 1) (.v 0)), (.le (.v 1) (.c 9223372036854775807)), (.happ 6 (.cons (.v 1) (.lv 0))), (.le (.c 0) (.v 0)), (.le (.v 0) (.c 9223372036854775807))], []⟩,
⟨(.must (.le (.wrap .i64 (.add (.v 1) (.c 1))) (.v 0))), [(.lt (.nthI (.lv 0) (.mul (.sub (.v 1) (.c 1)) (.c 2))) (.nthI (.lv 0) (.mul (.v 1) (.c 2)))), (.lt (.sub (.v 1) (.c 1)) (.v 0)), (.lt (.c 0) (.v 1)), (.le (.nthI (.lv 0) (.add (.mul (.v 1) (.c 2)) (.c 1))) (.c 100000)), (.le (.c (-100000)) (.nthI (.lv 0) (.add (.mul (.v 1) (.c 2)) (.c 1)))), (.le (.nthI (.lv 0) (.mul (.v 1) (.c 2))) (.c 10000000)), (.le (.c 0) (.nthI (.lv 0) (.mul (.v 1) (.c 2)))), (.lt (.v 1) (.v 0)), (.le (.c 0) (.v 1)), (.le (.v 1) (.v 0)), (.le (.v 1) (.c 9223372036854775807)), (.happ 6 (.cons (.v 1) (.lv 0))), (.le (.c 0) (.v 0)), (.le (.v 0) (.c 9223372036854775807))], []⟩,
⟨(.must (.happ 6 (.cons (.wrap .i64 (.add (.v 1) (.c 1))) (.lv 0)))), [(.lt (.nthI (.lv 0) (.mul (.sub (.v 1) (.c 1)) (.c 2))) (.nthI (.lv 0) (.mul (.v 1) (.c 2)))), (.lt (.sub (.v 1) (.c 1)) (.v 0)), (.lt (.c 0) (.v 1)), (.le (.nthI (.lv 0) (.add (.mul (.v 1) (.c 2)) (.c 1))) (.c 100000)), (.le (.c (-100000)) (.nthI (.lv 0) (.add (.mul (.v 1) (.c 2)) (.c 1)))), (.le (.nthI (.lv 0) (.mul (.v 1) (.c 2))) (.c 10000000)), (.le (.c 0) (.nthI (.lv 0) (.mul (.v 1) (.c 2)))), (.lt (.v 1) (.v 0)), (.le (.c 0) (.v 1)), (.le (.v 1) (.v 0)), (.le (.v 1) (.c 9223372036854775807)), (.happ 6 (.cons (.v 1) (.lv 0))), (.le (.c 0) (.v 0)), (.le (.v 0) (.c 9223372036854775807))], []⟩,
⟨(.must (.lt (.sub (.v 0) (.wrap .i64 (.add (.v 1) (.c 1)))) (.sub (.v 0) (.v 1)))), [(.lt (.nthI (.lv 0) (.mul (.sub (.v 1) (.c 1)) (.c 2))) (.nthI (.lv 0) (.mul (.v 1) (.c 2)))), (.lt (.sub (.v 1) (.c 1)) (.v 0)), (.lt (.c 0) (.v 1)), (.le (.nthI (.lv 0) (.add (.mul (.v 1) (.c 2)) (.c 1))) (.c 100000)), (.le (.c (-100000)) (.nthI (.lv 0) (.add (.mul (.v 1) (.c 2)) (.c 1)))), (.le (.nthI (.lv 0) (.mul (.v 1) (.c 2))) (.c 10000000)), (.le (.c 0) (.nthI (.lv 0) (.mul (.v 1) (.c 2)))), (.lt (.v 1) (.v 0)), (.le (.c 0) (.v 1)), (.le (.v 1) (.v 0)), (.le (.v 1) (.c 9223372036854775807)), (.happ 6 (.cons (.v 1) (.lv 0))), (.le (.c 0) (.v 0)), (.le (.v 0) (.c 9223372036854775807))], []⟩,
⟨(.must (.le (.c 0) (.sub (.v 0) (.wrap .i64 (.add (.v 1) (.c 1)))))), [(.lt (.nthI (.lv 0) (.mul (.sub (.v 1) (.c 1)) (.c 2))) (.nthI (.lv 0) (.mul (.v 1) (.c 2)))), (.lt (.sub (.v 1) (.c 1)) (.v 0)), (.lt (.c 0) (.v 1)), (.le (.nthI (.lv 0) (.add (.mul (.v 1) (.c 2)) (.c 1))) (.c 100000)), (.le (.c (-100000)) (.nthI (.lv 0) (.add (.mul (.v 1) (.c 2)) (.c 1)))), (.le (.nthI (.lv 0) (.mul (.v 1) (.c 2))) (.c 10000000)), (.le (.c 0) (.nthI (.lv 0) (.mul (.v 1) (.c 2)))), (.lt (.v 1) (.v 0)), (.le (.c 0) (.v 1)), (.le (.v 1) (.v 0)), (.le (.v 1) (.c 9223372036854775807)), (.happ 6 (.cons (.v 1) (.lv 0))), (.le (.c 0) (.v 0)), (.le (.v 0) (.c 9223372036854775807))], []⟩,
⟨(.must (.happ 6 (.cons (.add (.v 1) (.c 1)) (.lv 0)))), [(.le (.v 1) (.c 0)), (.le (.nthI (.lv 0) (.add (.mul (.v 1) (.c 2)) (.c 1))) (.c 100000)), (.le (.c (-100000)) (.nthI (.lv 0) (.add (.mul (.v 1) (.c 2)) (.c 1)))), (.le (.nthI (.lv 0) (.mul (.v 1) (.c 2))) (.c 10000000)), (.le (.c 0) (.nthI (.lv 0) (.mul (.v 1) (.c 2)))), (.lt (.v 1) (.v 0)), (.le (.c 0) (.v 1)), (.le (.v 1) (.v 0)), (.le (.v 1) (.c 9223372036854775807)), (.happ 6 (.cons (.v 1) (.lv 0))), (.le (.c 0) (.v 0)), (.le (.v 0) (.c 9223372036854775807))], []⟩,
⟨(.val (.b .ff)), [(.lt (.nthI (.lv 0) (.add (.mul (.v 1) (.c 2)) (.c 1))) (.c (-100000))), (.le (.nthI (.lv 0) (.mul (.v 1) (.c 2))) (.c 10000000)), (.le (.c 0) (.nthI (.lv 0) (.mul (.v 1) (.c 2)))), (.lt (.v 1) (.v 0)), (.le (.c 0) (.v 1)), (.le (.v 1) (.v 0)), (.le (.v 1) (.c 9223372036854775807)), (.happ 6 (.cons (.v 1) (.lv 0))), (.le (.c 0) (.v 0)), (.le (.v 0) (.c 9223372036854775807))], []⟩,
⟨(.val (.b .ff)), [(.lt (.nthI (.lv 0) (.mul (.v 1) (.c 2))) (.c 0)), (.lt (.v 1) (.v 0)), (.le (.c 0) (.v 1)), (.le (.v 1) (.v 0)), (.le (.v 1) (.c 9223372036854775807)), (.happ 6 (.cons (.v 1) (.lv 0))), (.le (.c 0) (.v 0)), (.le (.v 0) (.c 9223372036854775807))], []⟩,
⟨(.val (.b (.le (.v 0) (.c 100)))), [(.le (.c 1) (.v 0)), (.le (.v 0) (.v 1)), (.le (.c 0) (.v 1)), (.le (.v 1) (.v 0)), (.le (.v 1) (.c 9223372036854775807)), (.happ 6 (.cons (.v 1) (.lv 0))), (.le (.c 0) (.v 0)), (.le (.v 0) (.c 9223372036854775807))], []⟩,
⟨(.val (.b .ff)), [(.lt (.v 0) (.c 1)), (.le (.v 0) (.v 1)), (.le (.c 0) (.v 1)), (.le (.v 1) (.v 0)), (.le (.v 1) (.c 9223372036854775807)), (.happ 6 (.cons (.v 1) (.lv 0))), (.le (.c 0) (.v 0)), (.le (.v 0) (.c 9223372036854775807))], []⟩] (by kernel_rfl) ρ w hF hT hR ⟨?_, ?_, ?_, ?_, ?_, ?_, ?_, ?_, ?_, ?_, ?_, ?_, ?_, ?_⟩ (u.J w)
  all_goals
    intro ρ' w' hx _ hF hb _
    have e0 : ρ'.i 0 = ρ.i 0 := hx.i 0 (by decide)
    have l0 : ρ'.l 0 = ρ.l 0 := hx.l 0 (by decide)
    have hh' : ρ'.h = h2F := by rw [hx.h]; exact hh
    clear hx hR
    simp only [holds, List.mem_cons, List.not_mem_nil, or_false, forall_eq_or_imp, forall_eq, B_le, B_lt, B_happ, B_f, I_add, I_mul, I_sub, I_c, I_v, I_nthI, L_cons, L_lv, decide_eq_true_eq, I_wrap, e0, l0, hh', nI_eq, tT_f, tH_f, h2_6, IntKind.wrap_i64, den_b] at hF ⊢
    first
      | exact allTo_zero _
      | exact tide_end hh false (tide_len (by omega)) hb
      | exact tide_end hh false (tide_not (k := ρ'.i 1) (by omega) (by omega) (by omega)) hb
      | (rw [allTo_succ (by omega), point_of (by omega) (by omega) (by omega), show allTo (ρ'.i 1) (pointB (ρ.l 0)) = true by simp only [hF]]; rfl)
      | (refine tide_end hh true ?_ hb
         have hP : allTo (ρ'.i 1) (pointB (ρ.l 0)) = true := by simp only [hF]
         rw [show ρ'.i 1 = ρ.i 0 by omega] at hP
         simp only [tideB, hP, Bool.and_true, decide_eq_true_eq]
         omega)
      | omega
      | (rw [show ρ'.i 1 + 1 - 1 = ρ'.i 1 by omega]; omega)
      | (rw [show (ρ'.i 1 + 1 + 9223372036854775808) % 18446744073709551616 - 9223372036854775808 = ρ'.i 1 + 1 by omega, allTo_succ (by omega), point_of (by omega) (by omega) (by omega), show allTo (ρ'.i 1) (pointB (ρ.l 0)) = true by simp only [hF]]; rfl)
      | (have hP : allTo (ρ'.i 1) (pointB (ρ.l 0)) = true := by simp only [hF]
         rw [show ρ'.i 1 = ρ.i 0 by omega] at hP
         refine tide_end hh _ ?_ hb
         simp only [tideB, hP, Bool.and_true]
         rw [Bool.eq_iff_iff, decide_eq_true_eq, decide_eq_true_eq]
         omega)
end Go.Proofs.YtekikddpdbgkdaaGreatDoor.Ca
end
