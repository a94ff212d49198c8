/- A law's parameters, opened: numbers, texts, truths, structs and arrays of these, slices of any of these. -/
import Derived.OpenShut
import Derived.Deep.Slices
import Derived.WideShapes
import Derived.Test.YtmbhjfembfidnaaPb9
namespace Go.Proofs.Ytmbhjfembfidnaa.Sx
open Go Go.RowKit Go.ChangeShapes Go.WideShapes

/-- The kinds of a type's cells, where all of them are plain. -/
def flatFs (P : Program) (rec : TypeId → Option (List Kd)) : List Field → Nat → Option (List Kd)
  | [], _ => some []
  | f :: l, o => match rec f.type with
    | some ks => if f.offset = o ∧ ks.length = P.cellsOf f.type then (flatFs P rec l (o + ks.length)).map fun x => ks ++ x else none
    | none => none
def flatAs' (ks : List Kd) : Nat → List Kd
  | 0 => []
  | n + 1 => ks ++ flatAs' ks n
def flatK (P : Program) : Nat → TypeId → Option (List Kd)
  | 0, _ => none
  | n + 1, t => match P.underlying t with
    | some (.int k) => some [.i k]
    | some .bool => some [.b]
    | some .string => some [.s]
    | some (.struct fs) => match flatFs P (flatK P n) fs.toList 0 with | some ks => if ks.length = P.cellsOf t then some ks else none | none => none
    | some (.array m e) => match flatK P n e with | some ks => if ks.length = P.cellsOf e ∧ m * ks.length = P.cellsOf t then some (flatAs' ks m) else none | none => none
    | _ => none
def WfK : Kd → Int × ByteArray → Prop
  | .i k, x => (Lit.int k x.1).wf = true
  | .s, x => x.2.size ≤ maxLen
  | .b, _ => True
  | .any, _ => False
  | .sl, _ => False
/-- Cells of these kinds. -/
inductive Fl : List Kd → List Value → List (Int × ByteArray) → Prop where
  | nil : Fl [] [] []
  | cons {k : Kd} {ks : List Kd} {cs : List Value} {x : Int × ByteArray} {xs : List (Int × ByteArray)} (h : WfK k x) (hr : Fl ks cs xs) : Fl (k :: ks) (cellV x k :: cs) (x :: xs)
theorem Fl.app {k1 k2 : List Kd} {c1 c2 : List Value} {x1 x2 : List (Int × ByteArray)} (h : Fl k1 c1 x1) (h2 : Fl k2 c2 x2) : Fl (k1 ++ k2) (c1 ++ c2) (x1 ++ x2) := by
  induction h with
  | nil => exact h2
  | cons h _ ih => exact .cons h ih
theorem Fl.lens {ks : List Kd} {cs : List Value} {xs : List (Int × ByteArray)} (h : Fl ks cs xs) : cs.length = ks.length ∧ xs.length = ks.length := by
  induction h with
  | nil => exact ⟨rfl, rfl⟩
  | cons _ _ ih => simp [ih]
theorem Fl.get {ks : List Kd} {cs : List Value} {xs : List (Int × ByteArray)} (h : Fl ks cs xs) : ∀ (j : Nat) (k : Kd) (x : Int × ByteArray), ks[j]? = some k → xs[j]? = some x → cs[j]? = some (cellV x k) ∧ WfK k x := by
  induction h with
  | nil => intro j k x hk; cases j <;> cases hk
  | cons h _ ih =>
    intro j k x hk hx
    cases j with
    | zero => cases hk; cases hx; exact ⟨rfl, h⟩
    | succ j => simpa using ih j k x (by simpa using hk) (by simpa using hx)
section
variable {H : Type} {enc : TypeId × Value → H} {P : Program} {w : World} {base : Nat} {spare : Nat → Bool} {held : Bool}
theorem flat_fields {rec : TypeId → Option (List Kd)} (hrec : ∀ t ks cs y m, rec t = some ks → DataW.trod enc P w base spare held m t cs = some y → ∃ xs, Fl ks cs xs) {cs : List Value} {m : Nat} :
    ∀ (l : List Field) (o : Nat) (ks : List Kd), flatFs P rec l o = some ks → (∀ f ∈ l, ∃ y, DataW.trod enc P w base spare held m f.type ((cs.drop f.offset).take (P.cellsOf f.type)) = some y) → ∃ xs, Fl ks ((cs.drop o).take ks.length) xs
  | [], o, ks, h, _ => by cases h; exact ⟨[], by simpa using Fl.nil⟩
  | f :: l, o, ks, h, hf => by
    simp only [flatFs] at h
    split at h
    · rename_i k1 hk
      split at h
      · rename_i hc
        rw [Option.map_eq_some_iff] at h
        obtain ⟨k2, h2, rfl⟩ := h
        obtain ⟨y, hy⟩ := hf f List.mem_cons_self
        obtain ⟨x1, hx1⟩ := hrec _ _ _ _ _ hk hy
        obtain ⟨x2, hx2⟩ := flat_fields hrec l (o + k1.length) k2 h2 fun g hg => hf g (List.mem_cons_of_mem _ hg)
        rw [hc.1, ← hc.2] at hx1
        refine ⟨x1 ++ x2, ?_⟩
        rw [List.length_append, List.take_add, List.drop_drop]
        exact hx1.app hx2
      · cases h
    · cases h
theorem flat_reps {ks : List Kd} {cs : List Value} : ∀ (m o : Nat), (∀ i, i < m → ∃ xs, Fl ks ((cs.drop ((o + i) * ks.length)).take ks.length) xs) → ∃ xs, Fl (flatAs' ks m) ((cs.drop (o * ks.length)).take (m * ks.length)) xs
  | 0, o, _ => ⟨[], by simpa [flatAs'] using Fl.nil⟩
  | m + 1, o, h => by
    obtain ⟨x1, h1⟩ := h 0 (by omega)
    obtain ⟨x2, h2⟩ := flat_reps m (o + 1) fun i hi => by have := h (i + 1) (by omega); rwa [show o + (i + 1) = o + 1 + i by omega] at this
    refine ⟨x1 ++ x2, ?_⟩
    have e : ((cs.drop (o * ks.length)).take ((m + 1) * ks.length)) = (cs.drop (o * ks.length)).take ks.length ++ (cs.drop ((o + 1) * ks.length)).take (m * ks.length) := by
      rw [Nat.add_mul, Nat.one_mul, Nat.add_comm (m * ks.length), List.take_add, List.drop_drop, Nat.add_mul, Nat.one_mul]
    rw [e]
    exact h1.app h2
theorem flatAs_length (ks : List Kd) : ∀ m, (flatAs' ks m).length = m * ks.length
  | 0 => by simp [flatAs']
  | m + 1 => by simp [flatAs', flatAs_length ks m, Nat.add_mul, Nat.add_comm]
theorem trod_flat : ∀ (n : Nat) (t : TypeId) (ks : List Kd) (cs : List Value) (y : DataW H × List MemPlace) (m : Nat), flatK P n t = some ks → DataW.trod enc P w base spare held m t cs = some y → ∃ xs, Fl ks cs xs
  | 0, _, _, _, _, _, h, _ => by cases h
  | n + 1, t, ks, cs, y, m, h, ht => by
    simp only [flatK] at h
    split at h
    · rename_i k hu
      cases h
      obtain ⟨z, rfl, -, hw⟩ := DataW.trod_int hu ht
      exact ⟨[(z, ⟨#[]⟩)], .cons (k := .i k) (x := (z, ⟨#[]⟩)) hw .nil⟩
    · rename_i hu
      cases h
      obtain ⟨b, rfl, -⟩ := DataW.trod_bool hu ht
      refine ⟨[(if b then 1 else 0, ⟨#[]⟩)], ?_⟩
      have := Fl.cons (k := .b) (x := (if b then 1 else 0, ⟨#[]⟩)) trivial .nil
      cases b <;> exact this
    · rename_i hu
      cases h
      obtain ⟨s, rfl, -, hs⟩ := DataW.trod_string hu ht
      exact ⟨[(0, s)], .cons (k := .s) (x := (0, s)) hs .nil⟩
    · rename_i fs hu
      split at h
      · rename_i ks' hk
        split at h
        · rename_i hl
          cases h
          obtain ⟨zs, k, -, -, hcl, hzl, hg⟩ := DataW.trod_struct hu ht
          obtain ⟨xs, hx⟩ := flat_fields (rec := flatK P n) (fun t ks cs y m => trod_flat n t ks cs y m) (cs := cs) (m := k) fs.toList 0 ks hk fun f hf => by
            obtain ⟨i, hi⟩ := List.mem_iff_getElem?.1 hf
            have hi' : fs[i]? = some f := by simpa using hi
            have hlt : i < zs.length := by rw [hzl]; exact (Array.getElem?_eq_some_iff.1 hi').1
            exact ⟨zs[i], by rw [hg i f hi']; simp [hlt]⟩
          refine ⟨xs, ?_⟩
          rwa [List.drop_zero, List.take_of_length_le (by omega)] at hx
        · cases h
      · cases h
    · rename_i a e hu
      split at h
      · rename_i ks' hk
        split at h
        · rename_i hl
          cases h
          obtain ⟨zs, k, -, -, hcl, hzl, hg⟩ := DataW.trod_array hu ht
          obtain ⟨xs, hx⟩ := flat_reps (ks := ks') (cs := cs) a 0 fun i hi => by
            have := hg i hi
            rw [Nat.zero_add, ← hl.1] at *
            have hlt : i < zs.length := by omega
            exact trod_flat n e ks' _ zs[i] k hk (by rw [this]; simp [hlt])
          refine ⟨xs, ?_⟩
          rw [Nat.zero_mul, List.drop_zero, List.take_of_length_le (by omega)] at hx
          exact hx
        · cases h
      · cases h
    · cases h

theorem rowcat {q : Nat → List (Int × ByteArray)} {K : Nat} : ∀ n, (∀ i, i < n → (q i).length = K) → ((List.range n).flatMap q).length = n * K ∧ ∀ i r, i < n → r < K → ((List.range n).flatMap q)[i * K + r]? = (q i)[r]?
  | 0, _ => ⟨by simp, fun i r h => by omega⟩
  | n + 1, h => by
    obtain ⟨h1, h2⟩ := rowcat n fun i hi => h i (by omega)
    rw [List.range_succ, List.flatMap_append, List.flatMap_singleton]
    refine ⟨by rw [List.length_append, h1, h n (by omega), Nat.add_mul, Nat.one_mul], fun i r hi hr => ?_⟩
    rcases Nat.lt_or_ge i n with hc | hc
    · have : i * K + r < n * K := by
        have := Nat.mul_le_mul_right K (show i + 1 ≤ n by omega)
        rw [Nat.add_mul] at this
        omega
      rw [List.getElem?_append_left (by omega), h2 i r hc hr]
    · obtain rfl : i = n := by omega
      rw [List.getElem?_append_right (by omega), h1]
      congr 1
      omega
/-- A value of a plain type. -/
theorem open_plain {n : Nat} {t : TypeId} {ks : List Kd} {v : Value} {d : DataW H} {p : List MemPlace} (hk : flatK P n t = some ks) (h : DataW.Trod enc P w base spare held t v d p) : ∃ xs, Fl ks v.cells.toList xs := by
  obtain ⟨fuel, hf⟩ := h
  exact trod_flat n t ks _ _ fuel hk hf
theorem okWide_agg {t : TypeId} {v : Value} {r : Reach} {b0 : Nat} (hu : isAggV P t = some true) (h : Value.okWide P w r b0 t v) : ∃ cs, v = .agg cs := by
  unfold isAggV at hu
  unfold Value.okWide at h
  split at h
  · obtain ⟨cs, h1, -⟩ := h; exact ⟨cs, h1⟩
  · obtain ⟨cs, h1, -⟩ := h; exact ⟨cs, h1⟩
  · rename_i h1 h2
    split at hu <;> simp_all

/-- A slice of a plain type, as a row that is only read. -/
theorem open_row {n : Nat} {t e : TypeId} {ks : List Kd} {v : Value} {d : DataW H} {p : List MemPlace} {r : Reach} {b0 : Nat} (ht : P.underlying t = some (.slice e)) (hk : flatK P n e = some ks) (hl : ks.length = P.cellsOf e) (h0 : 0 < ks.length)
    (ho : Value.okWide P w r b0 t v) (h : DataW.Trod enc P w base spare held t v d p) :
    ∃ (N : Nat) (xs : List (Int × ByteArray)), 0 < ks.length ∧ xs.length = N * ks.length ∧ N ≤ maxLen ∧ (∀ i, i < N → ∃ cs, Fl ks cs ((xs.drop (i * ks.length)).take ks.length)) ∧
      (v = .slice none 0 0 ∧ N = 0 ∨ ∃ a cap, v = .slice (some a) N cap ∧ a.spot = none ∧ a.block < w.heap.size ∧ (N ≤ cap ∧ cap ≤ maxLen) ∧ ∀ j u, (cellsV ks xs)[j]? = some u → w.cell? (a.add j) = some u) := by
  have hc : Cell.ok P w r b0 t v := by
    unfold Value.okWide at ho
    rw [ht] at ho
    unfold Cell.okWide at ho
    rw [ht] at ho
    exact ho
  obtain ⟨fuel, hf⟩ := h
  unfold Cell.ok at hc
  rw [ht] at hc
  have hv : ∃ a len cap, v = .slice a len cap := by
    cases v <;> first | exact hc.elim | exact ⟨_, _, _, rfl⟩
  obtain ⟨a', len', cap', rfl⟩ := hv
  rcases DataW.trod_slice ht hf with ⟨hcs, -⟩ | ⟨a, len, cap, elems, rest, m, -, hcs, -, -, hlc, hcm, hel, hcell, -, -⟩
  · simp only [Value.cells, List.cons.injEq, Value.slice.injEq, and_true] at hcs
    obtain ⟨rfl, rfl, rfl⟩ := hcs
    exact ⟨0, [], h0, by simp, Nat.zero_le _, fun i hi => by omega, .inl ⟨rfl, rfl⟩⟩
  · simp only [Value.cells, List.cons.injEq, Value.slice.injEq, and_true] at hcs
    obtain ⟨rfl, rfl, rfl⟩ := hcs
    obtain ⟨-, -, -, hsp, row, cells, hsh, -⟩ := hc
    have hblk : a.block < w.heap.size := by
      unfold World.shape? at hsh
      cases hh : w.heap[a.block]? with
      | none => simp [hh] at hsh
      | some o => exact (Array.getElem?_eq_some_iff.1 hh).1
    have each : ∀ i, ∃ xs, i < len' → ∃ cs, Fl ks cs xs ∧ ∀ j, j < ks.length → w.cell? ((a.add (i * ks.length)).add j) = cs[j]? := fun i => by
      by_cases hi : i < len'
      · have hlt : i < elems.length := by omega
        have := hcell i hi
        rw [List.getElem?_eq_getElem hlt] at this
        obtain ⟨cs', h1, h2⟩ := Option.bind_eq_some_iff.1 this
        obtain ⟨xs, hx⟩ := trod_flat n e ks cs' _ m hk h2
        obtain ⟨-, -, h3⟩ := World.cells?_some h1
        exact ⟨xs, fun _ => ⟨cs', hx, fun j hj => by rw [hl]; exact h3 j (by omega)⟩⟩
      · exact ⟨[], fun h => absurd h hi⟩
    have each' : ∀ i, i < len' → ∃ cs, Fl ks cs (Classical.choose (each i)) ∧ ∀ j, j < ks.length → w.cell? ((a.add (i * ks.length)).add j) = cs[j]? := fun i hi => Classical.choose_spec (each i) hi
    obtain ⟨q, hq⟩ : ∃ q : Nat → List (Int × ByteArray), ∀ i, i < len' → ∃ cs, Fl ks cs (q i) ∧ ∀ j, j < ks.length → w.cell? ((a.add (i * ks.length)).add j) = cs[j]? := ⟨_, each'⟩
    obtain ⟨g1, g2⟩ := rowcat (q := q) (K := ks.length) len' fun i hi => by obtain ⟨cs, hc, -⟩ := hq i hi; exact hc.lens.2
    refine ⟨len', (List.range len').flatMap q, h0, g1, by omega, fun i hi => ?_, .inr ⟨a, cap', rfl, hsp, hblk, ⟨hlc, hcm⟩, fun j u hu => ?_⟩⟩
    · obtain ⟨cs, hc, -⟩ := hq i hi
      refine ⟨cs, ?_⟩
      have : (((List.range len').flatMap q).drop (i * ks.length)).take ks.length = q i := by
        refine List.ext_getElem? fun r => ?_
        by_cases hr : r < ks.length
        · rw [List.getElem?_take_of_lt hr, List.getElem?_drop, g2 i r hi hr]
        · rw [List.getElem?_eq_none (by simp; omega), List.getElem?_eq_none (by rw [hc.lens.2]; omega)]
      rw [this]
      exact hc
    · rw [cellsV_get, Option.map_eq_some_iff] at hu
      obtain ⟨x, hx, rfl⟩ := hu
      have hj : j < len' * ks.length := by rw [← g1]; exact (List.getElem?_eq_some_iff.1 hx).1
      have hi : j / ks.length < len' := (Nat.div_lt_iff_lt_mul h0).2 hj
      have hr : j % ks.length < ks.length := Nat.mod_lt _ h0
      have hj' : j / ks.length * ks.length + j % ks.length = j := by rw [Nat.mul_comm]; exact Nat.div_add_mod j ks.length
      obtain ⟨cs, hc, hcl⟩ := hq _ hi
      rw [← hj', g2 _ _ hi hr] at hx
      obtain ⟨e1, -⟩ := hc.get _ _ _ (List.getElem?_eq_getElem hr) hx
      have := hcl _ hr
      rw [Deep.add_add, hj', e1] at this
      rw [this]
      congr 1
      simp [List.getD, List.getElem?_eq_getElem hr]
end

/-- What stands at a name: a number and a text, a value, a row. -/
structure Sl where
  x : Int × ByteArray := (0, ⟨#[]⟩)
  v : Value := .bool false
  l : List (Int × ByteArray) := []
  deriving Inhabited
def envSl (g : Nat → List (Int × ByteArray) → Int) (h : Nat → List (Int × ByteArray) → Bool) (k : Nat → List (Int × ByteArray) → ByteArray) (m : Nat → List (Int × ByteArray) → List (Int × ByteArray)) (sl : List Sl) : Env :=
  { i := fun n => (sl.getD n {}).x.1, b := fun n => decide ((sl.getD n {}).x.1 ≠ 0), s := fun n => (sl.getD n {}).x.2, v := fun n => (sl.getD n {}).v, n := fun _ => 0, g := g, h := h, k := k, l := fun n => (sl.getD n {}).l, m := m }
def scs (xs : List (Int × ByteArray)) : List Sl := xs.map fun x => { x := x }
/-- A row that is only read. -/
def RowIs (w : World) (ks : List Kd) (v : Value) (N : Nat) (xs : List (Int × ByteArray)) : Prop :=
  0 < ks.length ∧ xs.length = N * ks.length ∧ N ≤ maxLen ∧ (∀ i, i < N → ∃ cs, Fl ks cs ((xs.drop (i * ks.length)).take ks.length)) ∧
    (v = .slice none 0 0 ∧ N = 0 ∨ ∃ a cap, v = .slice (some a) N cap ∧ a.spot = none ∧ a.block < w.heap.size ∧ (N ≤ cap ∧ cap ≤ maxLen) ∧ ∀ j u, (cellsV ks xs)[j]? = some u → w.cell? (a.add j) = some u)
def rowSl (v : Value) (N : Nat) (xs : List (Int × ByteArray)) : Sl := { x := ((N : Int), ⟨#[]⟩), v := v, l := xs }
/-- An argument, opened. -/
inductive Opn (w : World) : AK → Value → List Sl → Prop where
  | ag {ks : List Kd} {cs : Array Value} {xs : List (Int × ByteArray)} (h : Fl ks cs.toList xs) : Opn w (.ag (ks.map .sc)) (.agg cs) (scs xs)
  | one {k : Kd} {x : Int × ByteArray} (h : WfK k x) : Opn w (.one (.sc k)) (cellV x k) (scs [x])
  | row {ks : List Kd} {v : Value} {N : Nat} {xs : List (Int × ByteArray)} (h : RowIs w ks v N xs) : Opn w (.one (.row ks)) v [rowSl v N xs]
inductive Opns (w : World) : List AK → List Value → List Sl → Prop where
  | nil : Opns w [] [] []
  | cons {a : AK} {aks : List AK} {v : Value} {vs : List Value} {s sl : List Sl} (h : Opn w a v s) (hr : Opns w aks vs sl) : Opns w (a :: aks) (v :: vs) (s ++ sl)
section
variable {g : Nat → List (Int × ByteArray) → Int} {h : Nat → List (Int × ByteArray) → Bool} {k : Nat → List (Int × ByteArray) → ByteArray} {m : Nat → List (Int × ByteArray) → List (Int × ByteArray)} {w : World} {all : List Sl}
theorem slot_at {n : Nat} {s : List Sl} (ha : ∀ j u, s[j]? = some u → all[n + j]? = some u) {j : Nat} {u : Sl} (hj : s[j]? = some u) : all.getD (n + j) {} = u := by
  rw [List.getD_eq_getElem?_getD, ha j u hj]; rfl
theorem sl_den {n : Nat} {x : Int × ByteArray} {kd : Kd} (hk : WfK kd x) (hx : all.getD n {} = { x := x }) : V.den (envSl g h k m all) (kd.fresh n) = cellV x kd := by
  cases kd with
  | i q => show Value.int q (all.getD n {}).x.1 = _; rw [hx]; rfl
  | b => show Value.bool (decide ((all.getD n {}).x.1 ≠ 0)) = _; rw [hx]; rfl
  | s => show Value.string (all.getD n {}).x.2 = _; rw [hx]; rfl
  | any => exact hk.elim
  | sl => exact hk.elim
theorem fl_den {ks : List Kd} {cs : List Value} {xs : List (Int × ByteArray)} (hf : Fl ks cs xs) : ∀ n, (∀ j u, (scs xs)[j]? = some u → all[n + j]? = some u) → (freshes n (ks.map .sc)).map (V.den (envSl g h k m all)) = cs := by
  induction hf with
  | nil => intro n _; rfl
  | cons hk _ ih =>
    intro n ha
    simp only [List.map_cons, freshes, LK.fresh]
    have h0 : all.getD n {} = { x := _ } := slot_at (n := n) (j := 0) ha rfl
    rw [ih (n + 1) fun j u hj => by have := ha (j + 1) u (by simpa [scs] using hj); rwa [show n + (j + 1) = n + 1 + j by omega] at this, sl_den hk h0]
theorem fl_wf {ks : List Kd} {cs : List Value} {xs : List (Int × ByteArray)} (hf : Fl ks cs xs) (n : Nat) (ha : ∀ j u, (scs xs)[j]? = some u → all[n + j]? = some u) (j : Nat) (kd : Kd) (hj : ks[j]? = some kd) : WfK kd (all.getD (n + j) {}).x := by
  have hl := hf.lens.2
  have hlt : j < xs.length := by rw [hl]; exact (List.getElem?_eq_some_iff.1 hj).1
  rw [slot_at (u := { x := xs[j] }) ha (by simp [scs, hlt])]
  exact (hf.get j kd xs[j] hj (List.getElem?_eq_getElem hlt)).2
theorem rowsL_sc (n : Nat) : ∀ ks : List Kd, rowsL n (ks.map .sc) = []
  | [] => rfl
  | _ :: ks => by simp only [List.map_cons, rowsL]; exact rowsL_sc (n + 1) ks
theorem rowsL_app : ∀ (l1 l2 : List LK) (n : Nat), rowsL n (l1 ++ l2) = rowsL n l1 ++ rowsL (n + l1.length) l2
  | [], l2, n => by simp [rowsL]
  | .sc _ :: l, l2, n => by simp only [List.cons_append, rowsL, List.length_cons, rowsL_app l l2 (n + 1)]; rw [show n + 1 + l.length = n + (l.length + 1) by omega]
  | .row _ :: l, l2, n => by simp only [List.cons_append, rowsL, List.length_cons, rowsL_app l l2 (n + 1)]; rw [show n + 1 + l.length = n + (l.length + 1) by omega]
  | .lit _ :: l, l2, n => by simp only [List.cons_append, rowsL, List.length_cons, rowsL_app l l2 (n + 1)]; rw [show n + 1 + l.length = n + (l.length + 1) by omega]
def Wfs (all : List Sl) (n : Nat) (ks : List LK) : Prop := ∀ (j : Nat), (∀ kd, ks[j]? = some (.sc kd) → WfK kd (all.getD (n + j) {}).x) ∧ ∀ kds, ks[j]? = some (.row kds) → ∃ N v xs, all.getD (n + j) {} = rowSl v N xs ∧ RowIs w kds v N xs
theorem Opn.sound {a : AK} {v : Value} {s : List Sl} (ho : Opn w a v s) (n : Nat) (ha : ∀ j u, s[j]? = some u → all[n + j]? = some u) :
    s.length = a.ks.length ∧ V.den (envSl g h k m all) (patA n a) = v ∧ (∀ p ∈ rowsL n a.ks, p.2.own = false ∧ ∀ base, p.2.at (envSl g h k m all) base w ((envSl g h k m all).v p.1)) ∧ Wfs (w := w) all n a.ks := by
  cases ho with
  | @ag ks cs xs hf =>
    refine ⟨by simp [scs, AK.ks, hf.lens.2], ?_, by simp [AK.ks, rowsL_sc], fun j => ⟨fun kd hj => ?_, fun kds hj => ?_⟩⟩
    · show Value.agg ((V.ofL (freshes n (ks.map .sc))).dens _).toArray = _
      rw [dens_ofL, fl_den hf n ha]
    · refine fl_wf hf n ha j kd ?_
      simp only [AK.ks, List.getElem?_map, Option.map_eq_some_iff] at hj
      obtain ⟨_, h1, h2⟩ := hj
      cases h2
      exact h1
    · simp only [AK.ks, List.getElem?_map, Option.map_eq_some_iff] at hj
      obtain ⟨_, h1, h2⟩ := hj
      cases h2
  | @one kd x hk =>
    refine ⟨rfl, sl_den hk (slot_at (n := n) (j := 0) ha rfl), by simp [AK.ks, rowsL], fun j => ⟨fun kd' hj => ?_, fun kds hj => ?_⟩⟩
    · cases j with
      | zero => cases hj; rw [slot_at (n := n) (j := 0) ha rfl]; exact hk
      | succ j => simp [AK.ks] at hj
    · cases j with
      | zero => cases hj
      | succ j => simp [AK.ks] at hj
  | @row ks _ N xs hr =>
    have hs : all.getD n {} = rowSl v N xs := slot_at (n := n) (j := 0) ha rfl
    refine ⟨rfl, ?_, fun p hp => ?_, fun j => ⟨fun kd hj => ?_, fun kds hj => ?_⟩⟩
    · show (all.getD n {}).v = v
      rw [hs]; rfl
    · simp only [AK.ks, rowsL, List.mem_singleton] at hp
      subst hp
      refine ⟨rfl, fun base => ?_⟩
      obtain ⟨h0, h1, h2, h3, h4⟩ := hr
      have e1 : (envSl g h k m all).i n = (N : Int) := by show (all.getD n {}).x.1 = _; rw [hs]; rfl
      have e2 : (envSl g h k m all).l n = xs := by show (all.getD n {}).l = _; rw [hs]; rfl
      have e3 : (envSl g h k m all).v n = v := by show (all.getD n {}).v = _; rw [hs]; rfl
      have e1' : (rowL n ks).n.I (envSl g h k m all) = (N : Int) := e1
      have e2' : (rowL n ks).xs.L (envSl g h k m all) = xs := e2
      unfold Row.at
      rw [e1', e2']
      refine ⟨by omega, h0, ?_⟩
      rw [if_neg (by simp [rowL])]
      show xs.length = _ ∧ _
      rw [show (envSl g h k m all).v ((n, rowL n ks).1) = v from e3, Int.toNat_natCast]
      refine ⟨h1, ?_⟩
      rcases h4 with ⟨h4, h5⟩ | h4
      · exact .inl ⟨h4, by omega⟩
      · exact .inr h4
    · cases j with
      | zero => cases hj
      | succ j => simp [AK.ks] at hj
    · cases j with
      | zero => cases hj; exact ⟨N, v, xs, hs, hr⟩
      | succ j => simp [AK.ks] at hj
theorem Opns.sound {aks : List AK} {vs : List Value} {sl : List Sl} (ho : Opns w aks vs sl) : ∀ n, (∀ j u, sl[j]? = some u → all[n + j]? = some u) →
    (patAs n aks).map (V.den (envSl g h k m all)) = vs ∧ (∀ p ∈ rowsL n (ksOf aks), p.2.own = false ∧ ∀ base, p.2.at (envSl g h k m all) base w ((envSl g h k m all).v p.1)) ∧ Wfs (w := w) all n (ksOf aks) := by
  induction ho with
  | nil => intro n _; exact ⟨rfl, by simp [ksOf, rowsL], fun j => ⟨fun kd hj => by simp [ksOf] at hj, fun kds hj => by simp [ksOf] at hj⟩⟩
  | @cons a aks v vs s sl h1 hr ih =>
    intro n ha
    obtain ⟨l1, d1, r1, w1⟩ := h1.sound (g := g) (h := h) (k := k) (m := m) (all := all) n fun j u hj => ha j u (by rw [List.getElem?_append_left (List.getElem?_eq_some_iff.1 hj).1]; exact hj)
    obtain ⟨d2, r2, w2⟩ := ih (n + a.ks.length) fun j u hj => by
      have := ha (s.length + j) u (by rw [List.getElem?_append_right (by omega), Nat.add_sub_cancel_left]; exact hj)
      rwa [l1, ← Nat.add_assoc] at this
    have e : ksOf (a :: aks) = a.ks ++ ksOf aks := by simp [ksOf]
    refine ⟨by simp only [patAs, List.map_cons, d1, d2], fun p hp => ?_, fun j => ?_⟩
    · rw [e, rowsL_app, List.mem_append] at hp
      exact hp.elim (r1 p) (r2 p)
    · rw [e]
      rcases Nat.lt_or_ge j a.ks.length with hj | hj
      · rw [List.getElem?_append_left hj]
        exact w1 j
      · rw [List.getElem?_append_right hj]
        have := w2 (j - a.ks.length)
        rwa [show n + a.ks.length + (j - a.ks.length) = n + j by omega] at this
end
theorem Opns.top {w : World} {aks : List AK} {vs : List Value} {sl : List Sl} (ho : Opns w aks vs sl) (g : Nat → List (Int × ByteArray) → Int) (h : Nat → List (Int × ByteArray) → Bool) (k : Nat → List (Int × ByteArray) → ByteArray) (m : Nat → List (Int × ByteArray) → List (Int × ByteArray)) :
    arr (envSl g h k m sl) (patAs 0 aks) = vs.toArray ∧ RowsAt (envSl g h k m sl) w aks ∧ Wfs (w := w) sl 0 (ksOf aks) := by
  obtain ⟨h1, h2, h3⟩ := ho.sound (g := g) (h := h) (k := k) (m := m) (all := sl) 0 fun j u hj => by rwa [Nat.zero_add]
  exact ⟨by unfold arr; rw [← h1], h2, h3⟩
end Go.Proofs.Ytmbhjfembfidnaa.Sx
