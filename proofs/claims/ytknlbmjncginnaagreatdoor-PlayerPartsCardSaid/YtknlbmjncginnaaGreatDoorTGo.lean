/-
  How an instruction goes: its first access, how many there are, of which form.
-/
import Derived.Test.YtknlbmjncginnaaGreatDoorTH
namespace Go.Proofs.YtknlbmjncginnaaGreatDoor
open Go.RowKit Go.Shelf
set_option maxRecDepth 100000
set_option maxHeartbeats 1000000
set_option linter.unusedVariables false

theorem go_read_none {α : Type} (a : Nat) (p : Nat → Pg α) (l : List Ac) (q : Sc) (h : q.take (a % 65536) = none) : go (.read a p) l q = (l ++ [(1, a % 65536, 0)], q, none) := by simp only [go, h]
theorem go_read_some {α : Type} (a v : Nat) (p : Nat → Pg α) (l : List Ac) (q q' : Sc) (h : q.take (a % 65536) = some (v, q')) : go (.read a p) l q = go (p v) (l ++ [(1, a % 65536, 0)]) q' := by simp only [go, h]
theorem run_halted (r : Rp) (q : Sc) (h : r.H = true) : go (runM actA r) [] q = ([(0, 0, 0)], q, some ((), r)) := by
  obtain ⟨A, X, Y, S, P, Pc, H⟩ := r
  subst h
  rfl
theorem run_read (r : Rp) (q : Sc) (h : r.H = false) : go (runM actA r) [] q = go (.read r.Pc fun c => restM c { r with Pc := (r.Pc + 1) % 65536 }) [] q := by
  obtain ⟨A, X, Y, S, P, Pc, H⟩ := r
  subst h
  rfl
theorem run_lacks (r : Rp) (q : Sc) (h : r.H = false) (hq : q.take (r.Pc % 65536) = none) : go (runM actA r) [] q = ([(1, r.Pc % 65536, 0)], q, none) := by
  rw [run_read r q h, go_read_none _ _ _ _ hq]
  rfl
theorem run_goes (r : Rp) (q q' : Sc) (c : Nat) (h : r.H = false) (hq : q.take (r.Pc % 65536) = some (c, q')) : go (runM actA r) [] q = go (restM c { r with Pc := (r.Pc + 1) % 65536 }) [(1, r.Pc % 65536, 0)] q' := by
  rw [run_read r q h, go_read_some _ _ _ _ _ _ hq]
  rfl
theorem rest_has (c : Nat) (hc : c < 256) : ∃ lo hi, HasM (restM c) lo hi ∧ 2 ≤ 1 + lo ∧ 1 + hi ≤ 14 := by
  obtain ⟨lo, hi, h, h1, h2⟩ := has_act c hc
  have hz : szF c = 1 + byL (fmL c) := rfl
  refine ⟨_, _, (HasM.just (Just.ops (fmL c) (fmL_le c hc))).bind fun p => (HasM.idles (idleN c)).bind fun _ => h p.1 p.2, ?_, ?_⟩
  · rw [idleN_eq]; omega
  · rw [idleN_eq]; omega
theorem taken_ok {q q' : Sc} {a v : Nat} (h : q.Ok) (e : q.take (a % 65536) = some (v, q')) : v < 256 ∧ q'.Ok := h.take (Nat.mod_lt _ (by decide)) e
theorem run_most (r : Rp) (q : Sc) (hq : q.Ok) : 1 ≤ (go (runM actA r) [] q).1.length ∧ (go (runM actA r) [] q).1.length ≤ 14 := by
  cases h : r.H with
  | true => rw [run_halted r q h]; exact ⟨Nat.le_refl _, by show (1 : Nat) ≤ 14; omega⟩
  | false =>
    cases ht : q.take (r.Pc % 65536) with
    | none => rw [run_lacks r q h ht]; exact ⟨Nat.le_refl _, by show (1 : Nat) ≤ 14; omega⟩
    | some x =>
      obtain ⟨c, q'⟩ := x
      obtain ⟨lo, hi, h1, h2, h3⟩ := rest_has c (taken_ok hq ht).1
      rw [run_goes r q q' c h ht]
      have h4 := (h1 { r with Pc := (r.Pc + 1) % 65536 }).most [(1, r.Pc % 65536, 0)] q'
      have h5 := (go_front (restM c { r with Pc := (r.Pc + 1) % 65536 }) [(1, r.Pc % 65536, 0)] q').length_le
      simp only [List.length_cons, List.length_nil] at h4 h5
      omega
theorem run_least (r : Rp) (q q' : Sc) (l : List Ac) (a : Unit × Rp) (hq : q.Ok) (h : r.H = false) (hg : go (runM actA r) [] q = (l, q', some a)) : 2 ≤ l.length := by
  cases ht : q.take (r.Pc % 65536) with
  | none => rw [run_lacks r q h ht] at hg; cases hg
  | some x =>
    obtain ⟨c, q1⟩ := x
    obtain ⟨lo, hi, h1, h2, h3⟩ := rest_has c (taken_ok hq ht).1
    rw [run_goes r q q1 c h ht] at hg
    have h4 := (h1 { r with Pc := (r.Pc + 1) % 65536 }).least _ _ _ _ _ hg
    simp only [List.length_cons, List.length_nil] at h4
    omega
theorem run_head (r : Rp) (q : Sc) (h : r.H = false) (hp : r.Pc < 65536) : ∃ t, (go (runM actA r) [] q).1 = (1, r.Pc, 0) :: t := by
  rw [run_read r q h]
  have h1 : [(1, r.Pc % 65536, 0)] <+: (go (.read r.Pc fun c => restM c { r with Pc := (r.Pc + 1) % 65536 }) [] q).1 := by
    cases ht : q.take (r.Pc % 65536) with
    | none => rw [go_read_none _ _ _ _ ht]; exact List.prefix_refl _
    | some x =>
      obtain ⟨c, q'⟩ := x
      rw [go_read_some _ _ _ _ _ _ ht]
      exact go_front (restM c { r with Pc := (r.Pc + 1) % 65536 }) [(1, r.Pc % 65536, 0)] q'
  obtain ⟨t, ht⟩ := h1
  rw [Nat.mod_eq_of_lt hp] at ht
  exact ⟨t, ht.symm⟩
theorem run_forms (r : Rp) (q : Sc) : ∀ x ∈ (go (runM actA r) [] q).1, AcOk x := go_ok _ _ _ fun x hx => absurd hx List.not_mem_nil
theorem fetched_lt {r : Rp} {q : Sc} {s1 : Ts} {c : Nat} (hq : q.Ok) (h : Ran fetchM (s0 r q) c s1) : c < 256 := by
  have e : go (fetchM r) [] q = go (.read r.Pc fun v => .ret (v, { r with Pc := (r.Pc + 1) % 65536 })) [] q := rfl
  unfold Ran s0 at h
  dsimp only at h
  rw [e] at h
  cases ht : q.take (r.Pc % 65536) with
  | none =>
    rw [go_read_none _ _ _ _ ht] at h
    injection h with _ h
    injection h with _ h
    cases h
  | some x =>
    obtain ⟨v, q'⟩ := x
    rw [go_read_some _ _ _ _ _ _ ht] at h
    unfold go at h
    injection h with _ h
    injection h with _ h
    injection h with h
    injection h with h _
    rw [← h]
    exact (taken_ok hq ht).1
/-- Course by the code, of registers and bytes of any kind. -/
theorem course_all (r : Rp) (a : Option Addr) (n c : Nat) (f : Nat → Nat) (w : World) (hr : r.Ok) (hR : Row w a n f) (hnc : n ≤ c) :
    Calls Tryz.prog 16 #[pegV r, .slice a n c] w (courseP w actA r ⟨none, (List.range n).map f⟩) :=
  course_any actA r a n c f w hr hR hnc fun K s1 x h => act_ok K x (fetched_lt ⟨fun y hy => by
    obtain ⟨i, hi, rfl⟩ := List.mem_map.1 hy
    exact hR.1 i (List.mem_range.1 hi), fun g hg => by cases hg⟩ h)
/-- Run by the code, of registers and a memory of any kind. -/
theorem runlaw_all (r : Rp) (a : Option Addr) (c : Nat) (f : Nat → Nat) (w : World) (hr : r.Ok) (hR : Row w a 65536 f) (hnc : 65536 ≤ c) :
    Calls Tryz.prog 21 #[pegV r, .slice a 65536 c] w (runP w actA r f) :=
  runlaw_any actA r a c f w hr hR hnc fun K s1 x h => act_ok K x (fetched_lt ⟨fun y hy => absurd hy List.not_mem_nil, fun g hg i hi => by
    injection hg with hg
    subst hg
    exact hR.1 i hi⟩ h)
end Go.Proofs.YtknlbmjncginnaaGreatDoor
