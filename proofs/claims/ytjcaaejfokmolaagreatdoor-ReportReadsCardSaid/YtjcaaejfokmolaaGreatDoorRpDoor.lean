/- Parse. -/
import Derived.Test.YtjcaaejfokmolaaGreatDoorRpCatch
namespace Go.Proofs.YtjcaaejfokmolaaGreatDoor
open Go.RowKit

def secL (t : ByteArray) : Nat → Sl → Except (Nat × Int) Sl
  | 0 => lift kindSec t
  | 1 => section_ t [97, 116] false (lift (numSec 0 1073741824 (fun s v => { s with time := v })) t)
  | 2 => section_ t [98, 121] false (lift (nameSec (fun s v => { s with src := v })) t)
  | 3 => section_ t [97, 98, 111, 117, 116] true (lift (nameSec (fun s v => { s with abt := v })) t)
  | 4 => section_ t [105, 110] false (whereSec t)
  | 5 => section_ t [115, 111, 117, 108, 115] true (lift (numSec 0 10000 (fun s v => { s with souls := v })) t)
  | _ => section_ t [116, 114, 117, 115, 116] false (lift (numSec 0 1000 (fun s v => { s with trust := v })) t)

def goOn (t : ByteArray) : Nat → Sl → Except (Nat × Int) Sl
  | 0, s => .ok s
  | n + 1, s => match secL t (6 - n) s with
    | .ok s' => goOn t n s'
    | .error x => .error x

def s0 : Sl := ({ a := 0, kind := 0, time := 0, src := ⟨#[]⟩, abt := ⟨#[]⟩, souls := -1, trust := 0 }, [])

/-- how a line is read, where q says whether its places are an area. -/
def parseR (t : ByteArray) (q : List (Int × Int) → Bool) : Except (Nat × Int) Sl :=
  if 300 < t.size then .error (0, 3)
  else match goOn t 7 s0 with
    | .error x => .error x
    | .ok s => match endR t s.1 (q s.2) with
      | .ok _ => .ok s
      | .error x => .error x

theorem lift_keeps {f : ByteArray → St → Except (Nat × Int) St} {t : ByteArray} {s s' : Sl} (h : lift f t s = .ok s') : s'.2 = s.2 := by
  unfold lift at h
  split at h
  · cases h; rfl
  · cases h
theorem section_keeps {t : ByteArray} {word : List UInt8} {free : Bool} {f : Sl → Except (Nat × Int) Sl} {s s' : Sl} (hf : ∀ s s', f s = .ok s' → s'.2 = s.2) (h : section_ t word free f s = .ok s') : s'.2 = s.2 := by
  unfold section_ at h
  split at h
  · exact hf _ _ h
  · split at h
    · exact hf ({ s.1 with a := afterL t s.1.a }, s.2) _ h
    · split at h
      · cases h; rfl
      · cases h
theorem secL_keeps {t : ByteArray} {k : Nat} {s s' : Sl} (hk : k < 4) (h : secL t k s = .ok s') : s'.2 = s.2 := by
  have hk' : k = 0 ∨ k = 1 ∨ k = 2 ∨ k = 3 := by omega
  rcases hk' with rfl | rfl | rfl | rfl
  · exact lift_keeps h
  · exact section_keeps (fun _ _ h => lift_keeps h) h
  · exact section_keeps (fun _ _ h => lift_keeps h) h
  · exact section_keeps (fun _ _ h => lift_keeps h) h

def secArg : Nat → Value
  | 0 => .agg #[.string ⟨#[]⟩, .bool false, .func (.func 82) #[] #[]]
  | 1 => .agg #[.string ⟨#[97, 116]⟩, .bool false, .func (.func 83) #[] #[]]
  | 2 => .agg #[.string ⟨#[98, 121]⟩, .bool false, .func (.func 85) #[] #[]]
  | 3 => .agg #[.string ⟨#[97, 98, 111, 117, 116]⟩, .bool true, .func (.func 87) #[] #[]]
  | 4 => .agg #[.string ⟨#[105, 110]⟩, .bool false, .func (.func 88) #[] #[]]
  | 5 => .agg #[.string ⟨#[115, 111, 117, 108, 115]⟩, .bool true, .func (.func 89) #[] #[]]
  | _ => .agg #[.string ⟨#[116, 114, 117, 115, 116]⟩, .bool false, .func (.func 90) #[] #[]]

theorem section_at (m : Int) (t : ByteArray) (k : Nat) (hk : k < 7) (B : Nat) (s : Sl) (wv : Value) (w : World) (hq : k = 4 → s.2 = []) (hh : Held m w B t s wv) :
    Calls Tryz.prog 50 #[.pointer (some ⟨B, 0, none⟩), secArg k] w (Post m B t (secL t k s) w) := by
  have hk' : k = 0 ∨ k = 1 ∨ k = 2 ∨ k = 3 ∨ k = 4 ∨ k = 5 ∨ k = 6 := by omega
  rcases hk' with rfl | rfl | rfl | rfl | rfl | rfl | rfl
  · exact section_empty m t _ _ false (fun _ => True) (does_kind m t _) (enters_of Tryz.func82 (by kernel_rfl) rfl) B s wv w trivial hh
  · exact section_word m t _ _ ⟨#[97, 116]⟩ false (by decide) (fun _ => True) (does_1 m t _) (enters_of Tryz.func83 (by kernel_rfl) rfl) B s wv w trivial hh
  · exact section_word m t _ _ ⟨#[98, 121]⟩ false (by decide) (fun _ => True) (does_2 m t _) (enters_of Tryz.func85 (by kernel_rfl) rfl) B s wv w trivial hh
  · exact section_word m t _ _ ⟨#[97, 98, 111, 117, 116]⟩ true (by decide) (fun _ => True) (does_3 m t _) (enters_of Tryz.func87 (by kernel_rfl) rfl) B s wv w trivial hh
  · exact section_word m t _ _ ⟨#[105, 110]⟩ false (by decide) (· = []) (readWhere_does m t) (enters_of Tryz.func88 (by kernel_rfl) rfl) B s wv w (hq rfl) hh
  · exact section_word m t _ _ ⟨#[115, 111, 117, 108, 115]⟩ true (by decide) (fun _ => True) (does_4 m t _) (enters_of Tryz.func89 (by kernel_rfl) rfl) B s wv w trivial hh
  · exact section_word m t _ _ ⟨#[116, 114, 117, 115, 116]⟩ false (by decide) (fun _ => True) (does_5 m t _) (enters_of Tryz.func90 (by kernel_rfl) rfl) B s wv w trivial hh

theorem five0 (w : World) (a b c d e : Obj) : (((((w.alloc a).alloc b).alloc c).alloc d).alloc e).heap[w.heap.size]? = some a := by
  rw [Below.heap_alloc _ _ _ (by simp only [World.size_alloc]; omega), Below.heap_alloc _ _ _ (by simp only [World.size_alloc]; omega), Below.heap_alloc _ _ _ (by simp only [World.size_alloc]; omega), Below.heap_alloc _ _ _ (by simp only [World.size_alloc]; omega)]; exact heap_alloc_new w a
theorem five1 (w : World) (a b c d e : Obj) : (((((w.alloc a).alloc b).alloc c).alloc d).alloc e).heap[w.heap.size + 1]? = some b := by
  rw [Below.heap_alloc _ _ _ (by simp only [World.size_alloc]; omega), Below.heap_alloc _ _ _ (by simp only [World.size_alloc]; omega), Below.heap_alloc _ _ _ (by simp only [World.size_alloc]; omega)]
  have := heap_alloc_new (w.alloc a) b; rw [World.size_alloc] at this; exact this
theorem five2 (w : World) (a b c d e : Obj) : (((((w.alloc a).alloc b).alloc c).alloc d).alloc e).heap[w.heap.size + 1 + 1]? = some c := by
  rw [Below.heap_alloc _ _ _ (by simp only [World.size_alloc]; omega), Below.heap_alloc _ _ _ (by simp only [World.size_alloc]; omega)]
  have := heap_alloc_new ((w.alloc a).alloc b) c; rw [World.size_alloc, World.size_alloc] at this; exact this
theorem five3 (w : World) (a b c d e : Obj) : (((((w.alloc a).alloc b).alloc c).alloc d).alloc e).heap[w.heap.size + 1 + 1 + 1]? = some d := by
  rw [Below.heap_alloc _ _ _ (by simp only [World.size_alloc]; omega)]
  have := heap_alloc_new (((w.alloc a).alloc b).alloc c) d; rw [World.size_alloc, World.size_alloc, World.size_alloc] at this; exact this
theorem five4 (w : World) (a b c d e : Obj) : (((((w.alloc a).alloc b).alloc c).alloc d).alloc e).heap[w.heap.size + 1 + 1 + 1 + 1]? = some e := by
  have := heap_alloc_new ((((w.alloc a).alloc b).alloc c).alloc d) e; rw [World.size_alloc, World.size_alloc, World.size_alloc, World.size_alloc] at this; exact this

def ParsePost (t : ByteArray) (q : List (Int × Int) → Bool) (w : World) (e : Ending) (w' : World) : Prop :=
  match parseR t q with
  | .ok s => ∃ wv, e = .returned (.tuple #[repV s.1 wv, .int .i64 0, .int .i64 0]) ∧ Area w' wv s.2 ∧ (∀ g off n cap, wv = .slice (some ⟨g, off, none⟩) n cap → w.heap.size ≤ g) ∧ Below w.heap.size w w'
  | .error x => e = .returned (.tuple #[repZ, .int .i64 x.1, .int .i64 x.2]) ∧ Below w.heap.size w w'

/-- the three results, as they lie. -/
structure Res3 (w : World) (N : Nat) : Prop where
  r : w.heap[N]? = some (.cells #[.int .i64 0, .int .i64 0, .string ⟨#[]⟩, .string ⟨#[]⟩, .slice none 0 0, .int .i64 0, .int .i64 0] 29 (0, 0))
  a : w.heap[N + 1]? = some (.cells #[.int .i64 0] 3 (0, 0))
  e : w.heap[N + 1 + 1]? = some (.cells #[.int .i64 0] 32 (0, 0))

theorem Res3.grown {w w' : World} {N B : Nat} (h : Res3 w N) (hB : N + 1 + 1 < B) (hg : w.grownBy w' (some B)) : Res3 w' N :=
  ⟨(hg.block N (Array.getElem?_eq_some_iff.1 h.r).1 (by intro e; injection e with e; omega)).trans h.r,
   (hg.block (N + 1) (Array.getElem?_eq_some_iff.1 h.a).1 (by intro e; injection e with e; omega)).trans h.a,
   (hg.block (N + 1 + 1) (Array.getElem?_eq_some_iff.1 h.e).1 (by intro e; injection e with e; omega)).trans h.e⟩

theorem fault_cells {N : Nat} {a er : Int} {w w' : World} (h : Caught N a er w w') :
    (w'.cell? ⟨N, 0, none⟩ = some (.int .i64 0) ∧ w'.cell? ⟨N, 1, none⟩ = some (.int .i64 0) ∧ w'.cell? ⟨N, 2, none⟩ = some (.string ⟨#[]⟩) ∧ w'.cell? ⟨N, 3, none⟩ = some (.string ⟨#[]⟩) ∧ w'.cell? ⟨N, 4, none⟩ = some (.slice none 0 0) ∧ w'.cell? ⟨N, 5, none⟩ = some (.int .i64 0) ∧ w'.cell? ⟨N, 6, none⟩ = some (.int .i64 0)) ∧
    w'.cell? ⟨N + 1, 0, none⟩ = some (.int .i64 a) ∧ w'.cell? ⟨N + 1 + 1, 0, none⟩ = some (.int .i64 er) := by
  have hr := h.rep; have ha := h.at_; have he := h.e
  refine ⟨⟨?_, ?_, ?_, ?_, ?_, ?_, ?_⟩, ?_, ?_⟩ <;> simp [World.cell?, hr, ha, he]

set_option maxRecDepth 100000 in
set_option maxHeartbeats 4000000 in
/-- the door, a fault coming through it. -/
theorem door_fault (N : Nat) (a er : Int) (w : World) (tmps : Array Value) (R : Ending → World → Prop) (h2 : tmps[2]?.getD undef = .pointer (some ⟨N, 0, none⟩)) (h3 : tmps[3]?.getD undef = .pointer (some ⟨N + 1, 0, none⟩)) (h4 : tmps[4]?.getD undef = .pointer (some ⟨N + 1 + 1, 0, none⟩))
    (h12 : Res3 w N) (hR : ∀ w', Below N w w' → R (.returned (.tuple #[repZ, .int .i64 a, .int .i64 er])) w') :
    bodyPostD Tryz.prog Tryz.f19 R (Exit.panic [{ v := faultV a er, recovered := false }]) { tmps := tmps, defers := [{ target := Target.fn (Fn.func 48) #[.pointer (some ⟨N, 0, none⟩), .pointer (some ⟨N + 1, 0, none⟩), .pointer (some ⟨N + 1 + 1, 0, none⟩)], args := #[] }] } w := by
  refine leaves_cons (f := 48) (args := #[.pointer (some ⟨N, 0, none⟩), .pointer (some ⟨N + 1, 0, none⟩), .pointer (some ⟨N + 1 + 1, 0, none⟩)]) (by simp) (by simp [go_sem]) ?_
  refine (catch_fault N a er [] w _ _ _ _ _ _ _ _ _ h12.r h12.a h12.e).mono ?_
  rintro e u' w'' ⟨rfl, rfl, hc⟩
  obtain ⟨⟨c0, c1, c2, c3, c4, c5, c6⟩, ca, ce⟩ := fault_cells hc
  have hf := hR w'' hc.below
  unfold repZ at hf
  simp [Leaves, settle, results, Tryz.results19, go_sem, h2, h3, h4, c0, c1, c2, c3, c4, c5, c6, ca, ce]
  exact hf

/-- the results, as they lie in the end. -/
structure ResV (w : World) (N : Nat) (v0 v1 v2 v3 v4 v5 v6 : Value) (a er : Int) : Prop where
  r : w.heap[N]? = some (.cells #[v0, v1, v2, v3, v4, v5, v6] 29 (0, 0))
  a : w.heap[N + 1]? = some (.cells #[.int .i64 a] 3 (0, 0))
  e : w.heap[N + 1 + 1]? = some (.cells #[.int .i64 er] 32 (0, 0))

set_option maxRecDepth 100000 in
set_option maxHeartbeats 4000000 in
/-- the door, nothing coming through it. -/
theorem door_ok (ex : Exit) (hex : ex = .ret ∨ ex = .normal) (N : Nat) (v0 v1 v2 v3 v4 v5 v6 : Value) (a er : Int) (w : World) (tmps : Array Value) (R : Ending → World → Prop) (h2 : tmps[2]?.getD undef = .pointer (some ⟨N, 0, none⟩)) (h3 : tmps[3]?.getD undef = .pointer (some ⟨N + 1, 0, none⟩)) (h4 : tmps[4]?.getD undef = .pointer (some ⟨N + 1 + 1, 0, none⟩))
    (h12 : ResV w N v0 v1 v2 v3 v4 v5 v6 a er) (hR : R (.returned (.tuple #[.agg #[v0, v1, v2, v3, v4, v5, v6], .int .i64 a, .int .i64 er])) (w.alloc (.cells #[.int .i64 0, .int .i64 0] 73))) :
    bodyPostD Tryz.prog Tryz.f19 R ex { tmps := tmps, defers := [{ target := Target.fn (Fn.func 48) #[.pointer (some ⟨N, 0, none⟩), .pointer (some ⟨N + 1, 0, none⟩), .pointer (some ⟨N + 1 + 1, 0, none⟩)], args := #[] }] } w := by
  have lr : N < w.heap.size := (Array.getElem?_eq_some_iff.1 h12.r).1
  have la : N + 1 < w.heap.size := (Array.getElem?_eq_some_iff.1 h12.a).1
  have le : N + 1 + 1 < w.heap.size := (Array.getElem?_eq_some_iff.1 h12.e).1
  obtain ⟨W, hW⟩ : ∃ W, W = w.alloc (.cells #[.int .i64 0, .int .i64 0] 73) := ⟨_, rfl⟩
  rw [← hW] at hR
  have hr : W.heap[N]? = some (.cells #[v0, v1, v2, v3, v4, v5, v6] 29 (0, 0)) := by rw [hW]; exact (Below.heap_alloc w _ _ lr).trans h12.r
  have ha : W.heap[N + 1]? = some (.cells #[.int .i64 a] 3 (0, 0)) := by rw [hW]; exact (Below.heap_alloc w _ _ la).trans h12.a
  have he : W.heap[N + 1 + 1]? = some (.cells #[.int .i64 er] 32 (0, 0)) := by rw [hW]; exact (Below.heap_alloc w _ _ le).trans h12.e
  have c0 : W.cell? ⟨N, 0, none⟩ = some v0 := by simp [World.cell?, hr]
  have c1 : W.cell? ⟨N, 1, none⟩ = some v1 := by simp [World.cell?, hr]
  have c2 : W.cell? ⟨N, 2, none⟩ = some v2 := by simp [World.cell?, hr]
  have c3 : W.cell? ⟨N, 3, none⟩ = some v3 := by simp [World.cell?, hr]
  have c4 : W.cell? ⟨N, 4, none⟩ = some v4 := by simp [World.cell?, hr]
  have c5 : W.cell? ⟨N, 5, none⟩ = some v5 := by simp [World.cell?, hr]
  have c6 : W.cell? ⟨N, 6, none⟩ = some v6 := by simp [World.cell?, hr]
  have ca : W.cell? ⟨N + 1, 0, none⟩ = some (.int .i64 a) := by simp [World.cell?, ha]
  have ce : W.cell? ⟨N + 1 + 1, 0, none⟩ = some (.int .i64 er) := by simp [World.cell?, he]
  have hcl := catch_none (.pointer (some ⟨N, 0, none⟩)) (.pointer (some ⟨N + 1, 0, none⟩)) (.pointer (some ⟨N + 1 + 1, 0, none⟩)) w
  rw [← hW] at hcl
  rcases hex with rfl | rfl
  · refine leaves_cons (f := 48) (args := #[.pointer (some ⟨N, 0, none⟩), .pointer (some ⟨N + 1, 0, none⟩), .pointer (some ⟨N + 1 + 1, 0, none⟩)]) (by simp) (by simp [go_sem]) ?_
    refine hcl.mono ?_
    rintro e u' w'' ⟨rfl, rfl, rfl⟩
    simp [Leaves, settle, results, Tryz.results19, go_sem, h2, h3, h4, c0, c1, c2, c3, c4, c5, c6, ca, ce]
    exact hR
  · refine leaves_cons (f := 48) (args := #[.pointer (some ⟨N, 0, none⟩), .pointer (some ⟨N + 1, 0, none⟩), .pointer (some ⟨N + 1 + 1, 0, none⟩)]) (by simp) (by simp [go_sem]) ?_
    refine hcl.mono ?_
    rintro e u' w'' ⟨rfl, rfl, rfl⟩
    simp [Leaves, settle, results, Tryz.results19, go_sem, h2, h3, h4, c0, c1, c2, c3, c4, c5, c6, ca, ce]
    exact hR
end Go.Proofs.YtjcaaejfokmolaaGreatDoor
