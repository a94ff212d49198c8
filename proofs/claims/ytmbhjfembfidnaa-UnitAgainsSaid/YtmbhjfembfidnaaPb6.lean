/- Maps whose entries are known. -/
import Derived.Carry
import Derived.RangeFuncRecord
import Derived.Test.YtmbhjfembfidnaaPb5
namespace Go.Proofs.Ytmbhjfembfidnaa.Sx
open Go
variable {TT : Tb}

theorem beq_dec (a b : ByteArray) : (a == b) = decide (a = b) := by
  obtain ⟨a⟩ := a
  obtain ⟨b⟩ := b
  show (a == b) = _
  by_cases h : a = b
  · subst h; simp
  · rw [decide_eq_false (by simpa using h)]; simpa using h
def eqK : V → V → Option E
  | .i k a, .i k' b => if k = k' then some (.eq a b) else none
  | .s a, .s b => some (.seq a b)
  | _, _ => none
/-- A key that is a number or a text, of a type of such keys. -/
def plainK (P : Program) (t : TypeId) : V → Bool
  | .i _ _ => match P.underlying t with | some (.int _) => true | _ => false
  | .s _ => match P.underlying t with | some .string => true | _ => false
  | _ => false
def findS (σ : St) (key : V) : List (V × V) → Nat → Option (List (St × Option (Nat × V)))
  | [], _ => some [(σ, none)]
  | (k, v) :: l, i => match eqK key k with
    | none => none
    | some e => match decideB σ.F e with
      | some true => some [(σ, some (i, v))]
      | some false => findS σ key l (i + 1)
      | none => match findS { σ with F := fact e false ++ σ.F } key l (i + 1) with
        | some r => some (({ σ with F := fact e true ++ σ.F }, some (i, v)) :: r)
        | none => none
def entriesV (ρ : Env) (l : List (V × V)) (i : Nat) : List MapEntry := (l.zipIdx i).map fun p => { key := p.1.1.den ρ, val := p.1.2.den ρ, born := p.2 }
theorem same_ok {ρ : Env} {P : Program} {t : TypeId} {d : TypeDesc} (hd : P.underlying t = some d) {key k : V} (hp : plainK P t key = true) {e : E} (he : eqK key k = some e) : Instr.sameNow d (key.den ρ) (k.den ρ) = some (e.B ρ) := by
  unfold eqK at he
  split at he
  · rename_i j a j' b
    split at he
    · rename_i hj
      subst hj
      cases he
      simp only [plainK, hd] at hp
      split at hp
      · rename_i h; cases h
        simp only [den_i, Instr.sameNow, if_true, B_eq]
        rfl
      · cases hp
    · cases he
  · rename_i a b
    cases he
    simp only [plainK, hd] at hp
    split at hp
    · rename_i h; cases h
      simp only [den_s, Instr.sameNow, B_seq, beq_dec]
    · cases hp
  · cases he
/-- What differs in what is known alone. -/
def SameBut (σ τ : St) : Prop := ∃ F, τ = { σ with F := F }
theorem findS_ok {P : Program} {ρ : Env} {t : TypeId} {d : TypeDesc} (hd : P.underlying t = some d) {key : V} (hp : plainK P t key = true) : ∀ (l : List (V × V)) (i : Nat) (σ : St) (r : List (St × Option (Nat × V))), findS σ key l i = some r → ∀ {w0 w : World}, Sees TT ρ σ w0 w →
    ∃ p ∈ r, SameBut σ p.1 ∧ Sees TT ρ p.1 w0 w ∧ Instr.findNow d (key.den ρ) (entriesV ρ l i) i = some (p.2.map fun q => (q.1, q.2.den ρ)) ∧ (∀ j v, p.2 = some (j, v) → ∃ k, l[j - i]? = some (k, v) ∧ i ≤ j ∧ Instr.sameNow d (key.den ρ) (k.den ρ) = some true)
  | [], i, σ, r, h, w0, w, hs => by
    cases h
    exact ⟨_, List.mem_cons_self, ⟨σ.F, rfl⟩, hs, rfl, fun j v hv => by cases hv⟩
  | (k, v) :: l, i, σ, r, h, w0, w, hs => by
    simp only [findS] at h
    split at h
    · cases h
    rename_i e he
    have hsame := same_ok (ρ := ρ) hd hp he
    have hcons : entriesV ρ ((k, v) :: l) i = { key := k.den ρ, val := v.den ρ, born := i } :: entriesV ρ l (i + 1) := by simp [entriesV, List.zipIdx_cons]
    have later : ∀ {σ' : St} {r' : List (St × Option (Nat × V))}, findS σ' key l (i + 1) = some r' → SameBut σ σ' → Sees TT ρ σ' w0 w → e.B ρ = false → ∃ p ∈ r', SameBut σ p.1 ∧ Sees TT ρ p.1 w0 w ∧ Instr.findNow d (key.den ρ) (entriesV ρ ((k, v) :: l) i) i = some (p.2.map fun q => (q.1, q.2.den ρ)) ∧ (∀ j v', p.2 = some (j, v') → ∃ k', ((k, v) :: l)[j - i]? = some (k', v') ∧ i ≤ j ∧ Instr.sameNow d (key.den ρ) (k'.den ρ) = some true) := fun {σ' r'} hf hb hs' hfalse => by
      obtain ⟨p, hpm, ⟨F1, h1⟩, h2, h3, h4⟩ := findS_ok hd hp l (i + 1) σ' r' hf hs'
      obtain ⟨F0, h0⟩ := hb
      refine ⟨p, hpm, ⟨F1, by rw [h1, h0]⟩, h2, ?_, fun j v' hv => ?_⟩
      · rw [hcons]
        simp only [Instr.findNow, hsame, hfalse]
        exact h3
      · obtain ⟨k', e1, e2, e3⟩ := h4 j v' hv
        refine ⟨k', ?_, by omega, e3⟩
        rw [show j - i = (j - (i + 1)) + 1 by omega]
        simpa using e1
    split at h
    · rename_i hdec
      cases h
      have ht := decideB_ok hs.fact hdec
      refine ⟨_, List.mem_cons_self, ⟨σ.F, rfl⟩, hs, ?_, fun j v' hv => ?_⟩
      · rw [hcons]
        simp only [Instr.findNow, hsame, ht]
        rfl
      · cases hv
        exact ⟨k, by simp, Nat.le_refl _, by rw [hsame, ht]⟩
    · rename_i hdec
      exact later h ⟨σ.F, rfl⟩ hs (decideB_ok hs.fact hdec)
    · split at h
      · rename_i r' hr'
        cases h
        cases hb : e.B ρ with
        | true =>
          refine ⟨_, List.mem_cons_self, ⟨_, rfl⟩, hs.withF (holds_append (fact_ok hb) hs.fact), ?_, fun j v' hv => ?_⟩
          · rw [hcons]
            simp only [Instr.findNow, hsame, hb]
            rfl
          · cases hv
            exact ⟨k, by simp, Nat.le_refl _, by rw [hsame, hb]⟩
        | false =>
          obtain ⟨p, hpm, hrest⟩ := later hr' ⟨_, rfl⟩ (hs.withF (holds_append (fact_ok hb) hs.fact)) hb
          exact ⟨p, List.mem_cons_of_mem _ hpm, hrest⟩
      · cases h
theorem map_obj {ρ : Env} {l : List (V × V)} {x : Option Obj} (h : (HO.map l).at ρ x) : x = some (.map (entriesV ρ l 0).toArray l.length) := h
theorem checkKey_plain {P : Program} {ρ : Env} {t : TypeId} {key : V} (hp : plainK P t key = true) (b : Bool) (n : Nat) (w : World) : (Instr.checkKey b (n + 1) t (key.den ρ)).run P w = .ok () w := by
  unfold plainK at hp
  split at hp
  · split at hp
    · rename_i h; simp [Instr.checkKey, run_underlying h, den_i]
    · cases hp
  · split at hp
    · rename_i h; simp [Instr.checkKey, run_underlying h, den_s]
    · cases hp
  · cases hp
theorem plainK_desc {P : Program} {t : TypeId} {key : V} (hp : plainK P t key = true) : ∃ d, P.underlying t = some d := by
  unfold plainK at hp
  split at hp
  · split at hp
    · rename_i h; exact ⟨_, h⟩
    · cases hp
  · split at hp
    · rename_i h; exact ⟨_, h⟩
    · cases hp
  · cases hp
def lookRes (z : V) (ok : Bool) : Option (Nat × V) → V
  | some (_, v) => if ok then .tup (V.ofL [v, .b .tt]) else v
  | none => if ok then .tup (V.ofL [z, .b .ff]) else z
def lookupS (P : Program) (σ : St) (t : TypeId) (m key : V) (ok : Bool) : Option (List (St × V)) :=
  match m with
  | .mp b => match σ.look b, P.underlying t with
    | some (.map l), some (.map kt et) => if plainK P kt key then match findS σ key l 0, zeroV P et with
      | some r, some z => some (r.map fun p => (p.1, lookRes z ok p.2))
      | _, _ => none
      else none
    | _, _ => none
  | _ => none
theorem lookupS_ok {P : Program} {ρ : Env} {σ : St} {w0 w : World} (hs : Sees TT ρ σ w0 w) {t : TypeId} {m key : V} {ok : Bool} {r : List (St × V)} (h : lookupS P σ t m key ok = some r) :
    ∃ p ∈ r, SameBut σ p.1 ∧ Sees TT ρ p.1 w0 w ∧ (Instr.lookup t (m.den ρ) (key.den ρ) ok).run P w = .ok (p.2.den ρ) w := by
  unfold lookupS at h
  split at h
  case h_2 => cases h
  rename_i b
  split at h
  case h_2 => cases h
  rename_i l kt et hlook hu
  split at h
  case isFalse => cases h
  rename_i hpk
  split at h
  case h_2 => cases h
  rename_i r' z hr' hz
  cases h
  obtain ⟨d, hd⟩ := plainK_desc hpk
  obtain ⟨p, hpm, hsame, hs', hfind, -⟩ := findS_ok hd hpk l 0 σ r' hr' hs
  refine ⟨_, List.mem_map.2 ⟨p, hpm, rfl⟩, hsame, hs', ?_⟩
  have hobj := map_obj (hs.blk _ (look_mem hlook))
  have hget : (getObj (ρ.blk b)).run P w = .ok (.map (entriesV ρ l 0).toArray l.length) w := by simp [getObj, Sem.run]; simp [hobj]
  obtain ⟨i, hi, hzv⟩ := zeroV_ok (ρ := ρ) hz
  have hzero : (zeroValue et).run P w = .ok (z.den ρ) w := by simp [zeroValue, typeInfo, hi, hzv]
  simp only [Instr.lookup, Sem.run_bind, run_underlying hu, Result.andThen_ok, den_mp, hget, Sem.run_pure, checkKey_plain hpk, Instr.findKey, run_underlying hd, hfind]
  cases hp2 : p.2 with
  | none => cases ok <;> simp [lookRes, hzero, den_tup, V.ofL, dens_cons, dens_nil, den_b]
  | some q => obtain ⟨j, v⟩ := q; cases ok <;> simp [lookRes, den_tup, V.ofL, dens_cons, dens_nil, den_b]
def insertS (P : Program) (σ : St) (t : TypeId) (m key val : V) : Option (List St) :=
  match m with
  | .mp b => match σ.look b, P.underlying t with
    | some (.map l), some (.map kt _et) => if plainK P kt key then (findS σ key l 0).map fun r => r.map fun p => p.1.upd b (.map (match p.2 with | some (i, _) => l.set i (key, val) | none => l ++ [(key, val)]))
      else none
    | _, _ => none
  | _ => none
theorem sameBits_of {ρ : Env} {d : TypeDesc} {key k : V} (h : Instr.sameNow d (key.den ρ) (k.den ρ) = some true) (n : Nat) : Instr.sameBits (n + 1) (k.den ρ) (key.den ρ) = true := by
  unfold Instr.sameNow at h
  split at h
  · rename_i h1 h2
    split at h
    · rename_i hk
      rw [h1, h2]
      simp only [Option.some.injEq, beq_iff_eq] at h
      simp [Instr.sameBits, hk, h]
    · cases h
  · rename_i h1 h2
    rw [h1, h2]
    simp only [Option.some.injEq, beq_dec, decide_eq_true_eq] at h
    simp [Instr.sameBits, h, beq_dec]
  · rename_i h1 h2
    rw [h1, h2]
    simp only [Option.some.injEq, beq_iff_eq] at h
    simp [Instr.sameBits, h]
  · cases h
theorem insertS_ok {P : Program} {ρ : Env} {σ : St} {w0 w : World} (hs : Sees TT ρ σ w0 w) {t : TypeId} {m key val : V} {r : List St} (h : insertS P σ t m key val = some r) :
    ∃ τ ∈ r, ∃ w', τ.T = σ.T ∧ τ.M = σ.M ∧ τ.fr = σ.fr ∧ Sees TT ρ τ w0 w' ∧ (Instr.mapUpdate t (m.den ρ) (key.den ρ) (val.den ρ)).run P w = .ok () w' := by
  unfold insertS at h
  split at h
  case h_2 => cases h
  rename_i b
  split at h
  case h_2 => cases h
  rename_i l kt et hlook hu
  split at h
  case isFalse => cases h
  rename_i hpk
  rw [Option.map_eq_some_iff] at h
  obtain ⟨r', hr', rfl⟩ := h
  obtain ⟨d, hd⟩ := plainK_desc hpk
  obtain ⟨p, hpm, ⟨F', hF'⟩, hs', hfind, hat⟩ := findS_ok hd hpk l 0 σ r' hr' hs
  have hobj := map_obj (hs.blk _ (look_mem hlook))
  have hlt := (Array.getElem?_eq_some_iff.1 hobj).1
  have hget : (getObj (ρ.blk b)).run P w = .ok (.map (entriesV ρ l 0).toArray l.length) w := by simp [getObj, Sem.run]; simp [hobj]
  have hset : ∀ o : Obj, (setObj (ρ.blk b) o).run P w = .ok () (w.putObj (ρ.blk b) o) := fun o => by simp [setObj, Sem.run, World.putObj, hobj]
  have hmem : b ∈ p.1.H.map (·.1) := by rw [hF']; exact List.mem_map.2 ⟨_, look_mem hlook, rfl⟩
  refine ⟨_, List.mem_map.2 ⟨p, hpm, rfl⟩, ?_⟩
  cases hp2 : p.2 with
  | none =>
    refine ⟨w.putObj (ρ.blk b) (.map ((entriesV ρ l 0).toArray.push { key := key.den ρ, val := val.den ρ, born := l.length }) (l.length + 1)), by rw [hF']; rfl, by rw [hF']; rfl, by rw [hF']; rfl, ?_, ?_⟩
    · refine sees_upd hs' hmem ?_ (fun j hj => by simp [World.putObj, Ne.symm hj]) rfl rfl rfl (by simp [World.putObj])
      show (w.putObj _ _).heap[ρ.blk b]? = some _
      simp only [World.putObj]
      rw [Array.getElem?_setIfInBounds_self_of_lt hlt]
      simp [List.zipIdx_append, entriesV]
    · rw [hp2] at hfind
      simp only [Instr.mapUpdate, Sem.run_bind, run_underlying hu, Result.andThen_ok, den_mp, hget, checkKey_plain hpk, Instr.findKey, run_underlying hd, hfind, Sem.run_pure, Option.map_none, hset]
  | some q =>
    obtain ⟨j, v⟩ := q
    obtain ⟨k, hk, -, hsame⟩ := hat j v hp2
    rw [Nat.sub_zero] at hk
    have hj : j < l.length := (List.getElem?_eq_some_iff.1 hk).1
    refine ⟨w.putObj (ρ.blk b) (.map ((entriesV ρ l 0).toArray.modify j fun e => { e with key := key.den ρ, val := val.den ρ }) l.length), by rw [hF']; rfl, by rw [hF']; rfl, by rw [hF']; rfl, ?_, ?_⟩
    · refine sees_upd hs' hmem ?_ (fun j hj => by simp [World.putObj, Ne.symm hj]) rfl rfl rfl (by simp [World.putObj])
      show (w.putObj _ _).heap[ρ.blk b]? = some _
      simp only [World.putObj]
      rw [Array.getElem?_setIfInBounds_self_of_lt hlt]
      simp only [List.length_set]
      congr 2
      apply Array.ext'
      simp only [Array.toList_modify]
      apply List.ext_getElem?
      intro n
      simp only [entriesV, List.getElem?_modify, List.getElem?_map, List.getElem?_zipIdx, List.getElem?_set, Nat.zero_add]
      by_cases hn : j = n
      · subst hn; simp [hj]
      · simp [hn]
    · rw [hp2] at hfind
      have hel : (entriesV ρ l 0).toArray[j]? = some { key := k.den ρ, val := v.den ρ, born := j } := by simp [entriesV, hk]
      have hstay : (Instr.keyThatStays (k.den ρ) (key.den ρ)).run P w = .ok (key.den ρ) w := by
        simp [Instr.keyThatStays, sameBits_of hsame 9999]
      simp only [Instr.mapUpdate, Sem.run_bind, run_underlying hu, Result.andThen_ok, den_mp, hget, checkKey_plain hpk, Instr.findKey, run_underlying hd, hfind, Sem.run_pure, Option.map_some, hel, Option.getD_some, hstay, hset]
end Go.Proofs.Ytmbhjfembfidnaa.Sx
