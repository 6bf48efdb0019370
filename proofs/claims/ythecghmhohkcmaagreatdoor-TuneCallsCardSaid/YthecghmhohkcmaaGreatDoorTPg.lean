/-
  An instruction of the sound processor as a plan: registers, accesses, the bytes that are answered; what is said of every plan at once.
-/
import Derived.Test.YthecghmhohkcmaaGreatDoorMem
namespace Go.Proofs.YthecghmhohkcmaaGreatDoor
open Go.RowKit
set_option linter.unusedVariables false

/-- Registers. -/
structure Rp where
  A : Nat
  X : Nat
  Y : Nat
  S : Nat
  P : Nat
  Pc : Nat
  H : Bool
structure Rp.Ok (r : Rp) : Prop where
  A : r.A < 256
  X : r.X < 256
  Y : r.Y < 256
  S : r.S < 256
  P : r.P < 256
  Pc : r.Pc < 65536
/-- What answers reads: a memory, or bytes one behind the other. -/
structure Sc where
  mem : Option (Nat → Nat)
  seen : List Nat
def Sc.take (q : Sc) (a : Nat) : Option (Nat × Sc) :=
  match q.mem with
  | some f => some (f a, q)
  | none => match q.seen with
    | [] => none
    | v :: t => some (v, { q with seen := t })
def Sc.Ok (q : Sc) : Prop := (∀ x ∈ q.seen, x < 256) ∧ ∀ f, q.mem = some f → ∀ a, a < 65536 → f a < 256
theorem Sc.Ok.take {q q' : Sc} {a v : Nat} (h : q.Ok) (ha : a < 65536) (e : q.take a = some (v, q')) : v < 256 ∧ q'.Ok := by
  obtain ⟨m, s⟩ := q
  unfold Sc.take at e
  cases m with
  | some f =>
    injection e with e
    injection e with e1 e2
    subst e1; subst e2
    exact ⟨h.2 f rfl a ha, h⟩
  | none =>
    cases s with
    | nil => exact absurd e (by simp)
    | cons x t =>
      injection e with e
      injection e with e1 e2
      subst e1; subst e2
      exact ⟨h.1 x List.mem_cons_self, fun y hy => h.1 y (List.mem_cons_of_mem _ hy), h.2⟩
/-- An access: kind, place, value. -/
abbrev Ac := Nat × Nat × Nat
inductive Pg (α : Type) where
  | ret (a : α) : Pg α
  | idle (p : Pg α) : Pg α
  | write (a v : Nat) (p : Pg α) : Pg α
  | read (a : Nat) (p : Nat → Pg α) : Pg α
def Pg.bind {α β : Type} : Pg α → (α → Pg β) → Pg β
  | .ret a, g => g a
  | .idle p, g => .idle (p.bind g)
  | .write a v p, g => .write a v (p.bind g)
  | .read a p, g => .read a fun v => (p v).bind g
/-- A plan, carried out. -/
def go {α : Type} : Pg α → List Ac → Sc → List Ac × Sc × Option α
  | .ret a, l, q => (l, q, some a)
  | .idle p, l, q => go p (l ++ [(0, 0, 0)]) q
  | .write a v p, l, q => go p (l ++ [(2, a % 65536, v % 256)]) q
  | .read a p, l, q => match q.take (a % 65536) with
    | none => (l ++ [(1, a % 65536, 0)], q, none)
    | some (v, q') => go (p v) (l ++ [(1, a % 65536, 0)]) q'
theorem go_bind {α β : Type} (p : Pg α) (g : α → Pg β) : ∀ l q, go (p.bind g) l q = match go p l q with
    | (l', q', none) => (l', q', none)
    | (l', q', some a) => go (g a) l' q' := by
  induction p with
  | ret a => intro l q; rfl
  | idle p ih => intro l q; exact ih _ _
  | write a v p ih => intro l q; exact ih _ _
  | read a p ih =>
    intro l q
    simp only [Pg.bind, go]
    cases h : q.take (a % 65536) with
    | none => rfl
    | some x => obtain ⟨v, q'⟩ := x; exact ih v _ _
/-- What a method does: of the registers, a plan. -/
abbrev M (α : Type) : Type := Rp → Pg (α × Rp)
def M.pure {α : Type} (a : α) : M α := fun r => .ret (a, r)
def M.bind {α β : Type} (m : M α) (k : α → M β) : M β := fun r => (m r).bind fun x => k x.1 x.2
/-- By the registers. -/
def M.get {α : Type} (k : Rp → M α) : M α := fun r => k r r
def M.set (g : Rp → Rp) : M Unit := fun r => .ret ((), g r)
def M.idle : M Unit := fun r => .idle (.ret ((), r))
def M.idles : Nat → M Unit
  | 0 => M.pure ()
  | n + 1 => M.bind M.idle fun _ => M.idles n
def M.write (a v : Nat) : M Unit := fun r => .write a v (.ret ((), r))
def M.read (a : Nat) : M Nat := fun r => .read a fun v => .ret (v, r)
/-- A runner as numbers: registers, accesses, what answers. -/
structure Ts where
  r : Rp
  l : List Ac
  q : Sc
/-- A method that goes through; one that gives up. -/
def Ran {α : Type} (m : M α) (s : Ts) (a : α) (s' : Ts) : Prop := go (m s.r) s.l s.q = (s'.l, s'.q, some (a, s'.r))
def Gave {α : Type} (m : M α) (s s' : Ts) : Prop := go (m s.r) s.l s.q = (s'.l, s'.q, none)
section
variable {α β : Type} {m : M α} {k : α → M β} {s s' s'' : Ts} {a : α} {b : β}
theorem Ran.pure (a : α) (s : Ts) : Ran (M.pure a) s a s := rfl
theorem Ran.bind (h : Ran m s a s') (h2 : Ran (k a) s' b s'') : Ran (M.bind m k) s b s'' := by
  unfold Ran M.bind at *
  rw [go_bind, h]
  exact h2
theorem Gave.bind (h : Gave m s s') : Gave (M.bind m k) s s' := by
  unfold Gave M.bind at *
  rw [go_bind, h]
theorem Gave.then (h : Ran m s a s') (h2 : Gave (k a) s' s'') : Gave (M.bind m k) s s'' := by
  unfold Ran Gave M.bind at *
  rw [go_bind, h]
  exact h2
theorem Ran.get {k : Rp → M α} (h : Ran (k s.r) s a s') : Ran (M.get k) s a s' := h
theorem Gave.get {k : Rp → M α} (h : Gave (k s.r) s s') : Gave (M.get k) s s' := h
theorem Ran.set (g : Rp → Rp) (s : Ts) : Ran (M.set g) s () { s with r := g s.r } := rfl
theorem Ran.idle (s : Ts) : Ran M.idle s () { s with l := s.l ++ [(0, 0, 0)] } := rfl
theorem Ran.write (x v : Nat) (s : Ts) (hx : x < 65536) (hv : v < 256) : Ran (M.write x v) s () { s with l := s.l ++ [(2, x, v)] } := by
  show go (.write x v (.ret ((), s.r))) s.l s.q = _
  unfold go
  rw [Nat.mod_eq_of_lt hx, Nat.mod_eq_of_lt hv]
  rfl
theorem Ran.read (x : Nat) (s : Ts) {v : Nat} {q' : Sc} (hx : x < 65536) (h : s.q.take x = some (v, q')) : Ran (M.read x) s v { s with l := s.l ++ [(1, x, 0)], q := q' } := by
  show go (.read x fun v => .ret (v, s.r)) s.l s.q = _
  unfold go
  rw [Nat.mod_eq_of_lt hx, h]
  rfl
theorem Gave.read (x : Nat) (s : Ts) (hx : x < 65536) (h : s.q.take x = none) : Gave (M.read x) s { s with l := s.l ++ [(1, x, 0)] } := by
  show go (.read x fun v => .ret (v, s.r)) s.l s.q = _
  unfold go
  rw [Nat.mod_eq_of_lt hx, h]
theorem Ran.inv (h : Ran (M.bind m k) s b s'') : ∃ a s', Ran m s a s' ∧ Ran (k a) s' b s'' := by
  unfold Ran M.bind at *
  rw [go_bind] at h
  generalize hx : go (m s.r) s.l s.q = x at h
  obtain ⟨l', q', o⟩ := x
  cases o with
  | none => injection h with _ h; injection h with _ h; exact absurd h (by simp)
  | some v => obtain ⟨a, r'⟩ := v; exact ⟨a, ⟨r', l', q'⟩, rfl, h⟩
/-- A method that leaves the registers as they are. -/
def Still (m : M α) : Prop := ∀ s a s', Ran m s a s' → s'.r = s.r
theorem Still.pure (a : α) : Still (M.pure a) := fun s b s' h => by
  unfold Ran M.pure go at h
  injection h with _ h; injection h with _ h; injection h with h; injection h with _ h
  exact h.symm
theorem Still.read (x : Nat) : Still (M.read x) := fun s b s' h => by
  unfold Ran M.read go at h
  cases hq : s.q.take (x % 65536) with
  | none => rw [hq] at h; injection h with _ h; injection h with _ h; exact absurd h (by simp)
  | some v =>
    obtain ⟨v, q'⟩ := v
    rw [hq] at h
    injection h with _ h; injection h with _ h; injection h with h; injection h with _ h
    exact h.symm
theorem Still.bind (h : Still m) (h2 : ∀ a, Still (k a)) : Still (M.bind m k) := fun s b s'' hr => by
  obtain ⟨a, s', h3, h4⟩ := hr.inv
  rw [h2 a s' b s'' h4, h s a s' h3]
theorem Still.get {k : Rp → M α} (h : ∀ r, Still (k r)) : Still (M.get k) := fun s b s' hr => h s.r s b s' hr
end

/-! What holds of every plan. -/
/-- An access that is told as it should be. -/
def AcOk (x : Ac) : Prop := x.2.1 < 65536 ∧ x.1 ≤ 2 ∧ x.2.2 < 256 ∧ (x.1 ≠ 2 → x.2.2 = 0) ∧ (x.1 = 0 → x.2.1 = 0)
theorem go_ok {α : Type} (p : Pg α) : ∀ l q, (∀ x ∈ l, AcOk x) → ∀ x ∈ (go p l q).1, AcOk x := by
  have app : ∀ (l : List Ac) y, (∀ x ∈ l, AcOk x) → AcOk y → ∀ x ∈ l ++ [y], AcOk x := fun l y h hy x hx => by
    rcases List.mem_append.1 hx with hx | hx
    · exact h x hx
    · rw [List.mem_singleton.1 hx]; exact hy
  have hlt : ∀ a : Nat, a % 65536 < 65536 := fun a => Nat.mod_lt _ (by decide)
  induction p with
  | ret a => intro l q h; exact h
  | idle p ih => intro l q h; exact ih _ _ (app l _ h ⟨by decide, by decide, by decide, fun _ => rfl, fun _ => rfl⟩)
  | write a v p ih => intro l q h; exact ih _ _ (app l _ h ⟨hlt a, by show (2 : Nat) ≤ 2; omega, Nat.mod_lt _ (by decide), fun e => absurd rfl e, fun e => absurd e (by show ¬ ((2 : Nat) = 0); omega)⟩)
  | read a p ih =>
    intro l q h
    have h1 := app l (1, a % 65536, 0) h ⟨hlt a, by show (1 : Nat) ≤ 2; omega, by show 0 < 256; omega, fun _ => rfl, fun e => absurd e (by show ¬ ((1 : Nat) = 0); omega)⟩
    unfold go
    cases hq : q.take (a % 65536) with
    | none => exact h1
    | some x => obtain ⟨v, q'⟩ := x; exact ih v _ _ h1
/-- How many accesses a plan has, at least and at most. -/
inductive Has {α : Type} : Pg α → Nat → Nat → Prop where
  | ret (a : α) : Has (.ret a) 0 0
  | idle {p : Pg α} {m n : Nat} : Has p m n → Has (.idle p) (m + 1) (n + 1)
  | write {a v : Nat} {p : Pg α} {m n : Nat} : Has p m n → Has (.write a v p) (m + 1) (n + 1)
  | read {a : Nat} {p : Nat → Pg α} {m n : Nat} : (∀ v, Has (p v) m n) → Has (.read a p) (m + 1) (n + 1)
  | wide {p : Pg α} {m n m' n' : Nat} : Has p m n → m' ≤ m → n ≤ n' → Has p m' n'
theorem Has.bind {α β : Type} {p : Pg α} {g : α → Pg β} {m n m' n' : Nat} (h : Has p m n) (k : ∀ a, Has (g a) m' n') : Has (p.bind g) (m + m') (n + n') := by
  induction h with
  | ret a => rw [Nat.zero_add, Nat.zero_add]; exact k a
  | idle _ ih => rw [Nat.succ_add, Nat.succ_add]; exact .idle ih
  | write _ ih => rw [Nat.succ_add, Nat.succ_add]; exact .write ih
  | read _ ih => rw [Nat.succ_add, Nat.succ_add]; exact .read ih
  | wide _ h1 h2 ih => exact .wide ih (by omega) (by omega)
theorem Has.most {α : Type} {p : Pg α} {m n : Nat} (h : Has p m n) : ∀ l q, (go p l q).1.length ≤ l.length + n := by
  induction h with
  | ret a => intro l q; exact Nat.le_refl _
  | idle _ ih => intro l q; have := ih (l ++ [(0, 0, 0)]) q; simp at this; unfold go; omega
  | @write a v p m n _ ih => intro l q; have := ih (l ++ [(2, a % 65536, v % 256)]) q; simp at this; unfold go; omega
  | @read a p m n _ ih =>
    intro l q
    unfold go
    cases hq : q.take (a % 65536) with
    | none => simp
    | some x => obtain ⟨v, q'⟩ := x; have := ih v (l ++ [(1, a % 65536, 0)]) q'; simp at this; show (go (p v) _ q').1.length ≤ _; omega
  | wide _ h1 h2 ih => intro l q; have := ih l q; omega
theorem Has.least {α : Type} {p : Pg α} {m n : Nat} (h : Has p m n) : ∀ l q l' q' a, go p l q = (l', q', some a) → l.length + m ≤ l'.length := by
  induction h with
  | ret a =>
    intro l q l' q' b e
    injection e with e
    subst e
    exact Nat.le_refl _
  | idle _ ih => intro l q l' q' b e; have := ih _ _ _ _ _ e; simp at this; omega
  | write _ ih => intro l q l' q' b e; have := ih _ _ _ _ _ e; simp at this; omega
  | @read a p m n _ ih =>
    intro l q l' q' b e
    unfold go at e
    cases hq : q.take (a % 65536) with
    | none => rw [hq] at e; injection e with _ e; injection e with _ e; exact absurd e (by simp)
    | some x =>
      obtain ⟨v, q1⟩ := x
      rw [hq] at e
      have := ih v _ _ _ _ _ e
      simp at this; omega
  | wide _ h1 h2 ih => intro l q l' q' b e; have := ih _ _ _ _ _ e; omega
/-- The accesses so far stay in front. -/
theorem go_front {α : Type} (p : Pg α) : ∀ l q, l <+: (go p l q).1 := by
  induction p with
  | ret a => intro l q; exact List.prefix_refl _
  | idle p ih => intro l q; exact (List.prefix_append _ _).trans (ih (l ++ [(0, 0, 0)]) q)
  | write a v p ih => intro l q; exact (List.prefix_append _ _).trans (ih (l ++ [(2, a % 65536, v % 256)]) q)
  | read a p ih =>
    intro l q
    unfold go
    cases hq : q.take (a % 65536) with
    | none => exact List.prefix_append _ _
    | some x => obtain ⟨v, q'⟩ := x; exact (List.prefix_append _ _).trans (ih v (l ++ [(1, a % 65536, 0)]) q')
/-- Who gives up has asked for something. -/
theorem go_last {α : Type} (p : Pg α) : ∀ l q, (go p l q).2.2 ≠ none ∨ l.length < (go p l q).1.length := by
  induction p with
  | ret a => intro l q; exact .inl (by simp [go])
  | idle p ih => intro l q; exact (ih (l ++ [(0, 0, 0)]) q).imp id fun h => by simp at h; unfold go; omega
  | write a v p ih => intro l q; exact (ih (l ++ [(2, a % 65536, v % 256)]) q).imp id fun h => by simp at h; unfold go; omega
  | read a p ih =>
    intro l q
    unfold go
    cases hq : q.take (a % 65536) with
    | none => right; simp
    | some x => obtain ⟨v, q'⟩ := x; exact (ih v (l ++ [(1, a % 65536, 0)]) q').imp id fun h => by simp at h; show _ < (go (p v) _ q').1.length; omega
def reads (l : List Ac) : Nat := l.countP fun x => x.1 == 1
theorem reads_app (l m : List Ac) : reads (l ++ m) = reads l + reads m := List.countP_append
/-- Of bytes: one that goes through says the same with more of them; one that gives up asks for the next one. -/
theorem go_more {α : Type} (p : Pg α) : ∀ (l : List Ac) (sn more : List Nat),
    (∃ l' t a, go p l ⟨none, sn⟩ = (l', ⟨none, t⟩, some a) ∧ go p l ⟨none, sn ++ more⟩ = (l', ⟨none, t ++ more⟩, some a)) ∨
    ∃ l' x, go p l ⟨none, sn⟩ = (l' ++ [(1, x, 0)], ⟨none, []⟩, none) ∧ reads l' = reads l + sn.length ∧ l' ++ [(1, x, 0)] <+: (go p l ⟨none, sn ++ more⟩).1 ∧
      (more ≠ [] → (go p l ⟨none, sn ++ more⟩).2.2 ≠ none ∨ (l'.length + 1 < (go p l ⟨none, sn ++ more⟩).1.length)) := by
  induction p with
  | ret a => intro l sn more; exact .inl ⟨l, sn, a, rfl, rfl⟩
  | idle p ih =>
    intro l sn more
    have := ih (l ++ [(0, 0, 0)]) sn more
    rw [reads_app, show reads [(0, 0, 0)] = 0 from rfl, Nat.add_zero] at this
    exact this
  | write a v p ih =>
    intro l sn more
    have := ih (l ++ [(2, a % 65536, v % 256)]) sn more
    rw [reads_app, show reads [(2, a % 65536, v % 256)] = 0 from rfl, Nat.add_zero] at this
    exact this
  | read a p ih =>
    intro l sn more
    cases sn with
    | cons v t =>
      have := ih v (l ++ [(1, a % 65536, 0)]) t more
      rw [reads_app, show reads [(1, a % 65536, 0)] = 1 from rfl] at this
      simp only [List.length_cons]
      rw [show reads l + (t.length + 1) = reads l + 1 + t.length by omega]
      exact this
    | nil =>
      right
      refine ⟨l, a % 65536, rfl, rfl, ?_, ?_⟩
      · have h1 := go_front (.read a p) l ⟨none, [] ++ more⟩
        cases more with
        | nil => exact List.prefix_refl _
        | cons v t => exact go_front (p v) (l ++ [(1, a % 65536, 0)]) ⟨none, t⟩
      · intro hm
        cases more with
        | nil => exact absurd rfl hm
        | cons v t =>
          have h1 := go_front (p v) (l ++ [(1, a % 65536, 0)]) ⟨none, t⟩
          show (go (p v) (l ++ [(1, a % 65536, 0)]) ⟨none, t⟩).2.2 ≠ none ∨ l.length + 1 < (go (p v) (l ++ [(1, a % 65536, 0)]) ⟨none, t⟩).1.length
          rcases go_last (p v) (l ++ [(1, a % 65536, 0)]) ⟨none, t⟩ with h | h
          · exact .inl h
          · right; simp at h; omega
end Go.Proofs.YthecghmhohkcmaaGreatDoor
