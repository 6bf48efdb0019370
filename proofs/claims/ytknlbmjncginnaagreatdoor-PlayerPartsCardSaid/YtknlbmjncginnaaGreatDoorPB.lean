/-
  An instruction of the sound processor as a plan: registers, accesses, the bytes that are answered; what is said of every plan at once.
-/
import Derived.Test.YtknlbmjncginnaaGreatDoorMem
import Derived.Deep.RegionLaw
import Derived.Deep.AppendLies
import Derived.Deep.DeepCutAuto
import Derived.OwnWalk
import Derived.Laws.EntriesVeiled
namespace Go.Proofs.YtknlbmjncginnaaGreatDoor
open Go.RowKit
set_option linter.unusedVariables false

/-- Registers. -/
structure Rp where
  A : Nat
  X : Nat
  Y : Nat
  S : Nat
  P : Nat
  Pc : Nat
  H : Bool
structure Rp.Ok (r : Rp) : Prop where
  A : r.A < 256
  X : r.X < 256
  Y : r.Y < 256
  S : r.S < 256
  P : r.P < 256
  Pc : r.Pc < 65536
/-- What answers reads: a memory, or bytes one behind the other. -/
structure Sc where
  mem : Option (Nat → Nat)
  seen : List Nat
def Sc.take (q : Sc) (a : Nat) : Option (Nat × Sc) :=
  match q.mem with
  | some f => some (f a, q)
  | none => match q.seen with
    | [] => none
    | v :: t => some (v, { q with seen := t })
def Sc.Ok (q : Sc) : Prop := (∀ x ∈ q.seen, x < 256) ∧ ∀ f, q.mem = some f → ∀ a, a < 65536 → f a < 256
theorem Sc.Ok.take {q q' : Sc} {a v : Nat} (h : q.Ok) (ha : a < 65536) (e : q.take a = some (v, q')) : v < 256 ∧ q'.Ok := by
  obtain ⟨m, s⟩ := q
  unfold Sc.take at e
  cases m with
  | some f =>
    injection e with e
    injection e with e1 e2
    subst e1; subst e2
    exact ⟨h.2 f rfl a ha, h⟩
  | none =>
    cases s with
    | nil => exact absurd e (by simp)
    | cons x t =>
      injection e with e
      injection e with e1 e2
      subst e1; subst e2
      exact ⟨h.1 x List.mem_cons_self, fun y hy => h.1 y (List.mem_cons_of_mem _ hy), h.2⟩
/-- An access: kind, place, value. -/
abbrev Ac := Nat × Nat × Nat
inductive Pg (α : Type) where
  | ret (a : α) : Pg α
  | idle (p : Pg α) : Pg α
  | write (a v : Nat) (p : Pg α) : Pg α
  | read (a : Nat) (p : Nat → Pg α) : Pg α
def Pg.bind {α β : Type} : Pg α → (α → Pg β) → Pg β
  | .ret a, g => g a
  | .idle p, g => .idle (p.bind g)
  | .write a v p, g => .write a v (p.bind g)
  | .read a p, g => .read a fun v => (p v).bind g
/-- A plan, carried out. -/
def go {α : Type} : Pg α → List Ac → Sc → List Ac × Sc × Option α
  | .ret a, l, q => (l, q, some a)
  | .idle p, l, q => go p (l ++ [(0, 0, 0)]) q
  | .write a v p, l, q => go p (l ++ [(2, a % 65536, v % 256)]) q
  | .read a p, l, q => match q.take (a % 65536) with
    | none => (l ++ [(1, a % 65536, 0)], q, none)
    | some (v, q') => go (p v) (l ++ [(1, a % 65536, 0)]) q'
theorem go_bind {α β : Type} (p : Pg α) (g : α → Pg β) : ∀ l q, go (p.bind g) l q = match go p l q with
    | (l', q', none) => (l', q', none)
    | (l', q', some a) => go (g a) l' q' := by
  induction p with
  | ret a => intro l q; rfl
  | idle p ih => intro l q; exact ih _ _
  | write a v p ih => intro l q; exact ih _ _
  | read a p ih =>
    intro l q
    simp only [Pg.bind, go]
    cases h : q.take (a % 65536) with
    | none => rfl
    | some x => obtain ⟨v, q'⟩ := x; exact ih v _ _
/-- What a method does: of the registers, a plan. -/
abbrev M (α : Type) : Type := Rp → Pg (α × Rp)
def M.pure {α : Type} (a : α) : M α := fun r => .ret (a, r)
def M.bind {α β : Type} (m : M α) (k : α → M β) : M β := fun r => (m r).bind fun x => k x.1 x.2
/-- By the registers. -/
def M.get {α : Type} (k : Rp → M α) : M α := fun r => k r r
def M.set (g : Rp → Rp) : M Unit := fun r => .ret ((), g r)
def M.idle : M Unit := fun r => .idle (.ret ((), r))
def M.idles : Nat → M Unit
  | 0 => M.pure ()
  | n + 1 => M.bind M.idle fun _ => M.idles n
def M.write (a v : Nat) : M Unit := fun r => .write a v (.ret ((), r))
def M.read (a : Nat) : M Nat := fun r => .read a fun v => .ret (v, r)
/-- A runner as numbers: registers, accesses, what answers. -/
structure Ts where
  r : Rp
  l : List Ac
  q : Sc
/-- A method that goes through; one that gives up. -/
def Ran {α : Type} (m : M α) (s : Ts) (a : α) (s' : Ts) : Prop := go (m s.r) s.l s.q = (s'.l, s'.q, some (a, s'.r))
def Gave {α : Type} (m : M α) (s s' : Ts) : Prop := go (m s.r) s.l s.q = (s'.l, s'.q, none)
section
variable {α β : Type} {m : M α} {k : α → M β} {s s' s'' : Ts} {a : α} {b : β}
theorem Ran.pure (a : α) (s : Ts) : Ran (M.pure a) s a s := rfl
theorem Ran.bind (h : Ran m s a s') (h2 : Ran (k a) s' b s'') : Ran (M.bind m k) s b s'' := by
  unfold Ran M.bind at *
  rw [go_bind, h]
  exact h2
theorem Gave.bind (h : Gave m s s') : Gave (M.bind m k) s s' := by
  unfold Gave M.bind at *
  rw [go_bind, h]
theorem Gave.then (h : Ran m s a s') (h2 : Gave (k a) s' s'') : Gave (M.bind m k) s s'' := by
  unfold Ran Gave M.bind at *
  rw [go_bind, h]
  exact h2
theorem Ran.get {k : Rp → M α} (h : Ran (k s.r) s a s') : Ran (M.get k) s a s' := h
theorem Gave.get {k : Rp → M α} (h : Gave (k s.r) s s') : Gave (M.get k) s s' := h
theorem Ran.set (g : Rp → Rp) (s : Ts) : Ran (M.set g) s () { s with r := g s.r } := rfl
theorem Ran.idle (s : Ts) : Ran M.idle s () { s with l := s.l ++ [(0, 0, 0)] } := rfl
theorem Ran.write (x v : Nat) (s : Ts) (hx : x < 65536) (hv : v < 256) : Ran (M.write x v) s () { s with l := s.l ++ [(2, x, v)] } := by
  show go (.write x v (.ret ((), s.r))) s.l s.q = _
  unfold go
  rw [Nat.mod_eq_of_lt hx, Nat.mod_eq_of_lt hv]
  rfl
theorem Ran.read (x : Nat) (s : Ts) {v : Nat} {q' : Sc} (hx : x < 65536) (h : s.q.take x = some (v, q')) : Ran (M.read x) s v { s with l := s.l ++ [(1, x, 0)], q := q' } := by
  show go (.read x fun v => .ret (v, s.r)) s.l s.q = _
  unfold go
  rw [Nat.mod_eq_of_lt hx, h]
  rfl
theorem Gave.read (x : Nat) (s : Ts) (hx : x < 65536) (h : s.q.take x = none) : Gave (M.read x) s { s with l := s.l ++ [(1, x, 0)] } := by
  show go (.read x fun v => .ret (v, s.r)) s.l s.q = _
  unfold go
  rw [Nat.mod_eq_of_lt hx, h]
theorem Ran.inv (h : Ran (M.bind m k) s b s'') : ∃ a s', Ran m s a s' ∧ Ran (k a) s' b s'' := by
  unfold Ran M.bind at *
  rw [go_bind] at h
  generalize hx : go (m s.r) s.l s.q = x at h
  obtain ⟨l', q', o⟩ := x
  cases o with
  | none => injection h with _ h; injection h with _ h; exact absurd h (by simp)
  | some v => obtain ⟨a, r'⟩ := v; exact ⟨a, ⟨r', l', q'⟩, rfl, h⟩
/-- A method that leaves the registers as they are. -/
def Still (m : M α) : Prop := ∀ s a s', Ran m s a s' → s'.r = s.r
theorem Still.pure (a : α) : Still (M.pure a) := fun s b s' h => by
  unfold Ran M.pure go at h
  injection h with _ h; injection h with _ h; injection h with h; injection h with _ h
  exact h.symm
theorem Still.read (x : Nat) : Still (M.read x) := fun s b s' h => by
  unfold Ran M.read go at h
  cases hq : s.q.take (x % 65536) with
  | none => rw [hq] at h; injection h with _ h; injection h with _ h; exact absurd h (by simp)
  | some v =>
    obtain ⟨v, q'⟩ := v
    rw [hq] at h
    injection h with _ h; injection h with _ h; injection h with h; injection h with _ h
    exact h.symm
theorem Still.bind (h : Still m) (h2 : ∀ a, Still (k a)) : Still (M.bind m k) := fun s b s'' hr => by
  obtain ⟨a, s', h3, h4⟩ := hr.inv
  rw [h2 a s' b s'' h4, h s a s' h3]
theorem Still.get {k : Rp → M α} (h : ∀ r, Still (k r)) : Still (M.get k) := fun s b s' hr => h s.r s b s' hr
end

/-! What holds of every plan. -/
/-- An access that is told as it should be. -/
def AcOk (x : Ac) : Prop := x.2.1 < 65536 ∧ x.1 ≤ 2 ∧ x.2.2 < 256 ∧ (x.1 ≠ 2 → x.2.2 = 0) ∧ (x.1 = 0 → x.2.1 = 0)
theorem go_ok {α : Type} (p : Pg α) : ∀ l q, (∀ x ∈ l, AcOk x) → ∀ x ∈ (go p l q).1, AcOk x := by
  have app : ∀ (l : List Ac) y, (∀ x ∈ l, AcOk x) → AcOk y → ∀ x ∈ l ++ [y], AcOk x := fun l y h hy x hx => by
    rcases List.mem_append.1 hx with hx | hx
    · exact h x hx
    · rw [List.mem_singleton.1 hx]; exact hy
  have hlt : ∀ a : Nat, a % 65536 < 65536 := fun a => Nat.mod_lt _ (by decide)
  induction p with
  | ret a => intro l q h; exact h
  | idle p ih => intro l q h; exact ih _ _ (app l _ h ⟨by decide, by decide, by decide, fun _ => rfl, fun _ => rfl⟩)
  | write a v p ih => intro l q h; exact ih _ _ (app l _ h ⟨hlt a, by show (2 : Nat) ≤ 2; omega, Nat.mod_lt _ (by decide), fun e => absurd rfl e, fun e => absurd e (by show ¬ ((2 : Nat) = 0); omega)⟩)
  | read a p ih =>
    intro l q h
    have h1 := app l (1, a % 65536, 0) h ⟨hlt a, by show (1 : Nat) ≤ 2; omega, by show 0 < 256; omega, fun _ => rfl, fun e => absurd e (by show ¬ ((1 : Nat) = 0); omega)⟩
    unfold go
    cases hq : q.take (a % 65536) with
    | none => exact h1
    | some x => obtain ⟨v, q'⟩ := x; exact ih v _ _ h1
/-- How many accesses a plan has, at least and at most. -/
inductive Has {α : Type} : Pg α → Nat → Nat → Prop where
  | ret (a : α) : Has (.ret a) 0 0
  | idle {p : Pg α} {m n : Nat} : Has p m n → Has (.idle p) (m + 1) (n + 1)
  | write {a v : Nat} {p : Pg α} {m n : Nat} : Has p m n → Has (.write a v p) (m + 1) (n + 1)
  | read {a : Nat} {p : Nat → Pg α} {m n : Nat} : (∀ v, Has (p v) m n) → Has (.read a p) (m + 1) (n + 1)
  | wide {p : Pg α} {m n m' n' : Nat} : Has p m n → m' ≤ m → n ≤ n' → Has p m' n'
theorem Has.bind {α β : Type} {p : Pg α} {g : α → Pg β} {m n m' n' : Nat} (h : Has p m n) (k : ∀ a, Has (g a) m' n') : Has (p.bind g) (m + m') (n + n') := by
  induction h with
  | ret a => rw [Nat.zero_add, Nat.zero_add]; exact k a
  | idle _ ih => rw [Nat.succ_add, Nat.succ_add]; exact .idle ih
  | write _ ih => rw [Nat.succ_add, Nat.succ_add]; exact .write ih
  | read _ ih => rw [Nat.succ_add, Nat.succ_add]; exact .read ih
  | wide _ h1 h2 ih => exact .wide ih (by omega) (by omega)
theorem Has.most {α : Type} {p : Pg α} {m n : Nat} (h : Has p m n) : ∀ l q, (go p l q).1.length ≤ l.length + n := by
  induction h with
  | ret a => intro l q; exact Nat.le_refl _
  | idle _ ih => intro l q; have := ih (l ++ [(0, 0, 0)]) q; simp at this; unfold go; omega
  | @write a v p m n _ ih => intro l q; have := ih (l ++ [(2, a % 65536, v % 256)]) q; simp at this; unfold go; omega
  | @read a p m n _ ih =>
    intro l q
    unfold go
    cases hq : q.take (a % 65536) with
    | none => simp
    | some x => obtain ⟨v, q'⟩ := x; have := ih v (l ++ [(1, a % 65536, 0)]) q'; simp at this; show (go (p v) _ q').1.length ≤ _; omega
  | wide _ h1 h2 ih => intro l q; have := ih l q; omega
theorem Has.least {α : Type} {p : Pg α} {m n : Nat} (h : Has p m n) : ∀ l q l' q' a, go p l q = (l', q', some a) → l.length + m ≤ l'.length := by
  induction h with
  | ret a =>
    intro l q l' q' b e
    injection e with e
    subst e
    exact Nat.le_refl _
  | idle _ ih => intro l q l' q' b e; have := ih _ _ _ _ _ e; simp at this; omega
  | write _ ih => intro l q l' q' b e; have := ih _ _ _ _ _ e; simp at this; omega
  | @read a p m n _ ih =>
    intro l q l' q' b e
    unfold go at e
    cases hq : q.take (a % 65536) with
    | none => rw [hq] at e; injection e with _ e; injection e with _ e; exact absurd e (by simp)
    | some x =>
      obtain ⟨v, q1⟩ := x
      rw [hq] at e
      have := ih v _ _ _ _ _ e
      simp at this; omega
  | wide _ h1 h2 ih => intro l q l' q' b e; have := ih _ _ _ _ _ e; omega
/-- The accesses so far stay in front. -/
theorem go_front {α : Type} (p : Pg α) : ∀ l q, l <+: (go p l q).1 := by
  induction p with
  | ret a => intro l q; exact List.prefix_refl _
  | idle p ih => intro l q; exact (List.prefix_append _ _).trans (ih (l ++ [(0, 0, 0)]) q)
  | write a v p ih => intro l q; exact (List.prefix_append _ _).trans (ih (l ++ [(2, a % 65536, v % 256)]) q)
  | read a p ih =>
    intro l q
    unfold go
    cases hq : q.take (a % 65536) with
    | none => exact List.prefix_append _ _
    | some x => obtain ⟨v, q'⟩ := x; exact (List.prefix_append _ _).trans (ih v (l ++ [(1, a % 65536, 0)]) q')
/-- Who gives up has asked for something. -/
theorem go_last {α : Type} (p : Pg α) : ∀ l q, (go p l q).2.2 ≠ none ∨ l.length < (go p l q).1.length := by
  induction p with
  | ret a => intro l q; exact .inl (by simp [go])
  | idle p ih => intro l q; exact (ih (l ++ [(0, 0, 0)]) q).imp id fun h => by simp at h; unfold go; omega
  | write a v p ih => intro l q; exact (ih (l ++ [(2, a % 65536, v % 256)]) q).imp id fun h => by simp at h; unfold go; omega
  | read a p ih =>
    intro l q
    unfold go
    cases hq : q.take (a % 65536) with
    | none => right; simp
    | some x => obtain ⟨v, q'⟩ := x; exact (ih v (l ++ [(1, a % 65536, 0)]) q').imp id fun h => by simp at h; show _ < (go (p v) _ q').1.length; omega
def reads (l : List Ac) : Nat := l.countP fun x => x.1 == 1
theorem reads_app (l m : List Ac) : reads (l ++ m) = reads l + reads m := List.countP_append
/-- Of bytes: one that goes through says the same with more of them; one that gives up asks for the next one. -/
theorem go_more {α : Type} (p : Pg α) : ∀ (l : List Ac) (sn more : List Nat),
    (∃ l' t a, go p l ⟨none, sn⟩ = (l', ⟨none, t⟩, some a) ∧ go p l ⟨none, sn ++ more⟩ = (l', ⟨none, t ++ more⟩, some a)) ∨
    ∃ l' x, go p l ⟨none, sn⟩ = (l' ++ [(1, x, 0)], ⟨none, []⟩, none) ∧ reads l' = reads l + sn.length ∧ l' ++ [(1, x, 0)] <+: (go p l ⟨none, sn ++ more⟩).1 ∧
      (more ≠ [] → (go p l ⟨none, sn ++ more⟩).2.2 ≠ none ∨ (l'.length + 1 < (go p l ⟨none, sn ++ more⟩).1.length)) := by
  induction p with
  | ret a => intro l sn more; exact .inl ⟨l, sn, a, rfl, rfl⟩
  | idle p ih =>
    intro l sn more
    have := ih (l ++ [(0, 0, 0)]) sn more
    rw [reads_app, show reads [(0, 0, 0)] = 0 from rfl, Nat.add_zero] at this
    exact this
  | write a v p ih =>
    intro l sn more
    have := ih (l ++ [(2, a % 65536, v % 256)]) sn more
    rw [reads_app, show reads [(2, a % 65536, v % 256)] = 0 from rfl, Nat.add_zero] at this
    exact this
  | read a p ih =>
    intro l sn more
    cases sn with
    | cons v t =>
      have := ih v (l ++ [(1, a % 65536, 0)]) t more
      rw [reads_app, show reads [(1, a % 65536, 0)] = 1 from rfl] at this
      simp only [List.length_cons]
      rw [show reads l + (t.length + 1) = reads l + 1 + t.length by omega]
      exact this
    | nil =>
      right
      refine ⟨l, a % 65536, rfl, rfl, ?_, ?_⟩
      · have h1 := go_front (.read a p) l ⟨none, [] ++ more⟩
        cases more with
        | nil => exact List.prefix_refl _
        | cons v t => exact go_front (p v) (l ++ [(1, a % 65536, 0)]) ⟨none, t⟩
      · intro hm
        cases more with
        | nil => exact absurd rfl hm
        | cons v t =>
          have h1 := go_front (p v) (l ++ [(1, a % 65536, 0)]) ⟨none, t⟩
          show (go (p v) (l ++ [(1, a % 65536, 0)]) ⟨none, t⟩).2.2 ≠ none ∨ l.length + 1 < (go (p v) (l ++ [(1, a % 65536, 0)]) ⟨none, t⟩).1.length
          rcases go_last (p v) (l ++ [(1, a % 65536, 0)]) ⟨none, t⟩ with h | h
          · exact .inl h
          · right; simp at h; omega
end Go.Proofs.YtknlbmjncginnaaGreatDoor
namespace Go.Proofs.YtknlbmjncginnaaGreatDoor
open Go.RowKit Go.Shelf
set_option maxRecDepth 100000
set_option maxHeartbeats 1000000
set_option linter.unusedVariables false

theorem own_apart {w : World} {B : Nat} {e t : TypeId} {s n g : Nat} {v : Value} {xs : List Value} {cs : Array Value} (h : w.ownsRow B e s v n xs) (hg : Whole w g t cs) (hne : e ≠ t) : v.ownBlock ≠ some g := by
  intro he
  rcases h.2 with ⟨rfl, _⟩ | ⟨g', cap, cur, rfl, _, hh, _⟩
  · simp [Value.ownBlock] at he
  · have : g' = g := by simpa [Value.ownBlock] using he
    subst this
    rw [show w.heap[g']? = some (.cells cs t (0, 0)) from hg] at hh
    injection hh with hh
    injection hh with _ h2
    exact hne h2.symm
theorem Whole.grown {w w' : World} {g : Nat} {t : TypeId} {cs : Array Value} {row : Option Nat} (h : Whole w g t cs) (hg : w.grownBy w' row) (hne : row ≠ some g) : Whole w' g t cs :=
  (hg.block g h.lt (fun e => hne e.symm)).trans h
theorem row_put {w : World} {B : Nat} {e : TypeId} {s n : Nat} {v : Value} {xs : List Value} (h : w.ownsRow B e s v n xs) {p : Addr} (hp : v.ownBlock ≠ some p.block) (u : Value) : (w.setCell p u).ownsRow B e s v n xs :=
  h.kept (row := some p.block) ⟨rfl, rfl, rfl, by simp [World.setCell], fun k _ hk => Below.heap_setCell w p u k (fun e => hk (by rw [e]))⟩ (.inr hp)
theorem row_slice {w : World} {B : Nat} {e : TypeId} {s n : Nat} {v : Value} {xs : List Value} (h : w.ownsRow B e s v n xs) : ∃ a c, v = .slice a n c := by
  obtain ⟨hl, ⟨rfl, h0⟩ | ⟨g, cap, cur, rfl, _⟩⟩ := h
  · obtain rfl : n = 0 := by omega
    exact ⟨none, 0, rfl⟩
  · exact ⟨_, _, rfl⟩
theorem whole_apart {w : World} {b g : Nat} {t u : TypeId} {xs ys : Array Value} (h : Whole w b t xs) (k : Whole w g u ys) (hne : t ≠ u) : b ≠ g := by
  intro e
  subst e
  have := Option.some.inj (h.symm.trans k)
  injection this with _ h2
  exact hne h2
theorem acc_info : (Tryz.prog.info? 42).map (fun i => (i.zero, i.size, i.bytes)) = some (some (.agg #[.int .u8 0, .int .u32 0, .int .u8 0]), 3, 12) := by kernel_rfl
/-- Accesses as cells. -/
def accX (l : List Ac) : List Value := l.flatMap fun x => [.int .u8 x.1, .int .u32 x.2.1, .int .u8 x.2.2]
theorem accX_snoc (l : List Ac) (k a v : Nat) : accX l ++ [.int .u8 (k : Nat), .int .u32 (a : Nat), .int .u8 (v : Nat)] = accX (l ++ [(k, a, v)]) := by simp [accX]
theorem xrun_acc (W : World) (ty : TypeId) (lv : Value) (l : List Ac) (k a v X B : Nat) (ho : W.ownsRow B 42 3 lv l.length (accX l)) (hx : Whole W X 42 #[.int .u8 k, .int .u32 a, .int .u8 v]) (hl : l.length ≤ 100) (hB : B ≤ W.heap.size) :
    ∃ g cap W', (Builtin.append_ #[26, 26] ty #[lv, .slice (some ⟨X, 0, none⟩) 1 1]).run Tryz.prog W = .ok (.slice (some ⟨g, 0, none⟩) (l.length + 1) cap) W' ∧ W'.ownsRow B 42 3 (.slice (some ⟨g, 0, none⟩) (l.length + 1) cap) (l.length + 1) (accX (l ++ [(k, a, v)])) ∧ W.grownBy W' lv.ownBlock ∧ g < W'.heap.size := by
  obtain ⟨i0, hi, hz0, hz1, hz2⟩ := info_parts acc_info
  obtain ⟨g, cap, W', h1, h2, h3, _, h5⟩ := run_append_lies (P := Tryz.prog) W 26 ty B 42 i0 _ 3 12 Tryz.underlying26 hi hz0 hz1 hz2 rfl (by omega) lv l.length (accX l) ho ⟨X, 0, none⟩ 1 1 [.int .u8 k, .int .u32 a, .int .u8 v] rfl (World.news_of_block (cs := #[.int .u8 k, .int .u32 a, .int .u8 v]) (t := 42) (fr := (0, 0)) hx) (by simp [Value.oneCell'])
    (by omega) (by unfold maxLen; omega) (by omega) hB _ rfl
  rw [accX_snoc] at h2
  exact ⟨g, cap, W', h1, h2, h3, h5⟩
theorem wpList_append_ran {ops : Array Oper} {rest : List Oper} {o : Oper} {a : Act} {Q : Exit → Act → World → Prop} {P : Program} {w : World} (hgd : o.guard = none) (s x : Operand) (t : TypeId)
    (ho : o.op = .call { callee := .builtin .append, args := #[s, x], argTypes := #[t, t] }) (v u r : Value) (w' : World) (hs : a.eval s = v) (hx : a.eval x = u) (hr : (Builtin.append_ #[t, t] o.type #[v, u]).run P w = .ok r w')
    (h : wpList P ops Q rest (a.put o.dst r) w') : wpList P ops Q (o :: rest) a w :=
  wpList_plain hgd fun _ hK => by
    unfold Oper.wp
    simp [execOp, ho, resolve, invoke, builtin, hs, hx, hr, Result.andThen]
    exact hK _ _ h
/-- What an instruction gives up with that lacks a byte. -/
def lackV : Value := .iface 90 (.agg #[])
def lackE : Ending := .panicked [{ v := lackV, recovered := false }]
/-- What stays while an instruction is carried out: its code, its operands. -/
structure Zs where
  n0 : Value
  n1 : Value
  n2 : Value
  n3 : Value
  n4 : Value
  d0 : Value
  d1 : Value
  d2 : Value
  d3 : Value
  o0 : Value
  o1 : Value
  o2 : Value
  o3 : Value
/-- Where a runner is: the world ahead of it, from where on all is its own, its block, the variable of what answers; a memory, if that answers. -/
structure Cx where
  W0 : World
  B : Nat
  b : Nat
  x : Nat
  mem : Option (Nat → Nat)
def ansV (K : Cx) : Value := if K.mem.isSome then .func (.func 51) #[] #[.pointer (some ⟨K.x, 0, none⟩)] else .func (.func 48) #[] #[.pointer (some ⟨K.x, 0, none⟩)]
/-- The runner's cells. -/
def rnT (r : Rp) (av lv : Value) (z : Zs) : Array Value :=
  #[.int .u8 r.A, .int .u8 r.X, .int .u8 r.Y, .int .u8 r.S, .int .u8 r.P, .int .u16 r.Pc, .bool r.H, av, lv, z.n0, z.n1, z.n2, z.n3, z.n4, z.d0, z.d1, z.d2, z.d3, z.o0, z.o1, z.o2, z.o3]
/-- What the answering variable holds. -/
def Fits (mem : Option (Nat → Nat)) (seen : List Nat) (n : Nat) (f : Nat → Nat) : Prop :=
  match mem with
  | none => n = seen.length ∧ ∀ i, i < n → f i = seen.getD i 0
  | some g => n = 65536 ∧ f = g
structure Tk (K : Cx) (z : Zs) (s : Ts) (w : World) : Prop where
  ok : s.r.Ok
  qok : s.q.Ok
  mem : s.q.mem = K.mem
  cells : ∃ lv, Whole w K.b 98 (rnT s.r (ansV K) lv z) ∧ w.ownsRow K.B 42 3 lv s.l.length (accX s.l)
  box : ∃ a n c f, Whole w K.x 25 #[.slice a n c] ∧ n ≤ c ∧ Row K.W0 a n f ∧ Fits K.mem s.q.seen n f
  here : K.B ≤ K.b
  hex : K.B ≤ K.x
  bel : Below K.B K.W0 w
  base : K.W0.heap.size = K.B
/-- Boxes of other kinds stay. -/
structure Kp (K : Cx) (w w' : World) : Prop where
  size : w.heap.size ≤ w'.heap.size
  keep : ∀ x t cs, x ≠ K.b → x ≠ K.x → t ≠ 42 → Whole w x t cs → Whole w' x t cs
section
variable {K : Cx} {z : Zs} {s : Ts} {w w' w'' : World}
theorem Kp.refl (K : Cx) (w : World) : Kp K w w := ⟨Nat.le_refl _, fun _ _ _ _ _ _ h => h⟩
theorem Kp.trans (h : Kp K w w') (k : Kp K w' w'') : Kp K w w'' := ⟨Nat.le_trans h.size k.size, fun x t cs h1 h2 h3 h4 => k.keep x t cs h1 h2 h3 (h.keep x t cs h1 h2 h3 h4)⟩
theorem Kp.below (h : Below w.heap.size w w') : Kp K w w' := ⟨h.size, fun x t cs _ _ _ h4 => h4.below h h4.lt⟩
theorem Kp.alloc (h : Kp K w w') (o : Obj) : Kp K w (w'.alloc o) := h.trans (Kp.below ((Below.refl _ _).alloc (Nat.le_refl _) o))
theorem Kp.drew (h : Kp K w w') : Kp K w w'.drew := h.trans (Kp.below (Below.drew (Below.refl _ _)))
theorem Kp.set (h : Kp K w w') (i : Nat) (u : Value) : Kp K w (w'.setCell ⟨K.b, i, none⟩ u) := h.trans ⟨by simp [World.setCell], fun x t cs h1 _ _ h3 => h3.away (p := ⟨K.b, i, none⟩) h1 u⟩
theorem Kp.setx (h : Kp K w w') (i : Nat) (u : Value) : Kp K w (w'.setCell ⟨K.x, i, none⟩ u) := h.trans ⟨by simp [World.setCell], fun x t cs _ h1 _ h3 => h3.away (p := ⟨K.x, i, none⟩) h1 u⟩
theorem Kp.grown {W : World} {v : Value} {n B : Nat} {xs : List Value} (h : Kp K w w') (ho : w'.ownsRow B 42 3 v n xs) (hg : w'.grownBy W v.ownBlock) : Kp K w W := h.trans ⟨hg.size, fun x t cs h1 _ h2 h3 => h3.grown hg (own_apart ho h3 (fun e => h2 e.symm))⟩
theorem Tk.lt (h : Tk K z s w) : K.b < w.heap.size := let ⟨_, h, _⟩ := h.cells; h.lt
theorem Tk.ltx (h : Tk K z s w) : K.x < w.heap.size := let ⟨_, _, _, _, h, _⟩ := h.box; h.lt
theorem Tk.apart (h : Tk K z s w) : K.b ≠ K.x := let ⟨_, h1, _⟩ := h.cells; let ⟨_, _, _, _, h2, _⟩ := h.box; whole_apart h1 h2 (by decide)
theorem Tk.below (h : Tk K z s w) (hb : Below w.heap.size w w') : Tk K z s w' := by
  obtain ⟨lv, h1, h4⟩ := h.cells
  obtain ⟨a, n, c, f, h5, h6⟩ := h.box
  refine ⟨h.ok, h.qok, h.mem, ⟨lv, h1.below hb h1.lt, ?_⟩, ⟨a, n, c, f, h5.below hb h5.lt, h6⟩, h.here, h.hex, h.bel.trans (hb.mono (by have := h.bel.size; have := h.base; omega)), h.base⟩
  exact h4.kept (row := none) ⟨hb.os, hb.tape, hb.output, hb.size, fun k hk _ => hb.block k hk⟩ (by cases lv.ownBlock <;> simp)
theorem Tk.alloc (h : Tk K z s w) (o : Obj) : Tk K z s (w.alloc o) := h.below ((Below.refl _ _).alloc (Nat.le_refl _) o)
theorem Tk.drew (h : Tk K z s w) : Tk K z s w.drew := h.below (Below.drew (Below.refl _ _))
/-- The runner's cells are others. -/
theorem Tk.turn (h : Tk K z s w) (i : Nat) (v : Value) (r' : Rp) (z' : Zs) (hok : r'.Ok) (he : ∀ lv, (rnT s.r (ansV K) lv z).setIfInBounds i v = rnT r' (ansV K) lv z') : Tk K z' { s with r := r' } (w.setCell ⟨K.b, i, none⟩ v) := by
  obtain ⟨lv, h1, h4⟩ := h.cells
  obtain ⟨a, n, c, f, h5, h6⟩ := h.box
  exact ⟨hok, h.qok, h.mem, ⟨lv, by have := h1.put i v; rw [he] at this; exact this, row_put h4 (p := ⟨K.b, i, none⟩) (own_apart h4 h1 (by decide)) _⟩, ⟨a, n, c, f, h5.away (p := ⟨K.b, i, none⟩) (Ne.symm h.apart) v, h6⟩, h.here, h.hex, h.bel.setCell (p := ⟨K.b, i, none⟩) h.here _, h.base⟩
theorem Tk.toA (h : Tk K z s w) (v : Nat) (hv : v < 256) : Tk K z { s with r := { s.r with A := v } } (w.setCell ⟨K.b, 0, none⟩ (.int .u8 v)) := h.turn 0 _ _ _ ⟨hv, h.ok.X, h.ok.Y, h.ok.S, h.ok.P, h.ok.Pc⟩ fun _ => rfl
theorem Tk.toX (h : Tk K z s w) (v : Nat) (hv : v < 256) : Tk K z { s with r := { s.r with X := v } } (w.setCell ⟨K.b, 1, none⟩ (.int .u8 v)) := h.turn 1 _ _ _ ⟨h.ok.A, hv, h.ok.Y, h.ok.S, h.ok.P, h.ok.Pc⟩ fun _ => rfl
theorem Tk.toY (h : Tk K z s w) (v : Nat) (hv : v < 256) : Tk K z { s with r := { s.r with Y := v } } (w.setCell ⟨K.b, 2, none⟩ (.int .u8 v)) := h.turn 2 _ _ _ ⟨h.ok.A, h.ok.X, hv, h.ok.S, h.ok.P, h.ok.Pc⟩ fun _ => rfl
theorem Tk.toS (h : Tk K z s w) (v : Nat) (hv : v < 256) : Tk K z { s with r := { s.r with S := v } } (w.setCell ⟨K.b, 3, none⟩ (.int .u8 v)) := h.turn 3 _ _ _ ⟨h.ok.A, h.ok.X, h.ok.Y, hv, h.ok.P, h.ok.Pc⟩ fun _ => rfl
theorem Tk.toP (h : Tk K z s w) (v : Nat) (hv : v < 256) : Tk K z { s with r := { s.r with P := v } } (w.setCell ⟨K.b, 4, none⟩ (.int .u8 v)) := h.turn 4 _ _ _ ⟨h.ok.A, h.ok.X, h.ok.Y, h.ok.S, hv, h.ok.Pc⟩ fun _ => rfl
theorem Tk.toPc (h : Tk K z s w) (v : Nat) (hv : v < 65536) : Tk K z { s with r := { s.r with Pc := v } } (w.setCell ⟨K.b, 5, none⟩ (.int .u16 v)) := h.turn 5 _ _ _ ⟨h.ok.A, h.ok.X, h.ok.Y, h.ok.S, h.ok.P, hv⟩ fun _ => rfl
theorem Tk.toH (h : Tk K z s w) (v : Bool) : Tk K z { s with r := { s.r with H := v } } (w.setCell ⟨K.b, 6, none⟩ (.bool v)) := h.turn 6 _ _ _ ⟨h.ok.A, h.ok.X, h.ok.Y, h.ok.S, h.ok.P, h.ok.Pc⟩ fun _ => rfl
/-- Which cells a runner has. -/
theorem Tk.look (h : Tk K z s w) : (w.cell? ⟨K.b, 0, none⟩ = some (.int .u8 s.r.A) ∧ w.cell? ⟨K.b, 1, none⟩ = some (.int .u8 s.r.X) ∧ w.cell? ⟨K.b, 2, none⟩ = some (.int .u8 s.r.Y) ∧ w.cell? ⟨K.b, 3, none⟩ = some (.int .u8 s.r.S) ∧ w.cell? ⟨K.b, 4, none⟩ = some (.int .u8 s.r.P)) ∧ (w.cell? ⟨K.b, 5, none⟩ = some (.int .u16 s.r.Pc) ∧ w.cell? ⟨K.b, 6, none⟩ = some (.bool s.r.H) ∧ w.cell? ⟨K.b, 7, none⟩ = some (ansV K)) ∧ ∀ i, w.frozen? ⟨K.b, i, none⟩ = false := by
  obtain ⟨lv, h1, h4⟩ := h.cells
  rw [h1.cell, h1.cell, h1.cell, h1.cell, h1.cell, h1.cell, h1.cell, h1.cell]
  exact ⟨⟨rfl, rfl, rfl, rfl, rfl⟩, ⟨rfl, rfl, rfl⟩, fun i => h1.free i⟩
theorem Tk.lookN (h : Tk K z s w) : w.cell? ⟨K.b, 9, none⟩ = some z.n0 ∧ w.cell? ⟨K.b, 10, none⟩ = some z.n1 ∧ w.cell? ⟨K.b, 11, none⟩ = some z.n2 ∧ w.cell? ⟨K.b, 12, none⟩ = some z.n3 ∧ w.cell? ⟨K.b, 13, none⟩ = some z.n4 := by
  obtain ⟨lv, h1, h4⟩ := h.cells
  rw [h1.cell, h1.cell, h1.cell, h1.cell, h1.cell]
  exact ⟨rfl, rfl, rfl, rfl, rfl⟩
theorem Tk.lookD (h : Tk K z s w) : w.cell? ⟨K.b, 14, none⟩ = some z.d0 ∧ w.cell? ⟨K.b, 15, none⟩ = some z.d1 ∧ w.cell? ⟨K.b, 16, none⟩ = some z.d2 ∧ w.cell? ⟨K.b, 17, none⟩ = some z.d3 := by
  obtain ⟨lv, h1, h4⟩ := h.cells
  rw [h1.cell, h1.cell, h1.cell, h1.cell]
  exact ⟨rfl, rfl, rfl, rfl⟩
theorem Tk.lookO (h : Tk K z s w) : w.cell? ⟨K.b, 18, none⟩ = some z.o0 ∧ w.cell? ⟨K.b, 19, none⟩ = some z.o1 ∧ w.cell? ⟨K.b, 20, none⟩ = some z.o2 ∧ w.cell? ⟨K.b, 21, none⟩ = some z.o3 := by
  obtain ⟨lv, h1, h4⟩ := h.cells
  rw [h1.cell, h1.cell, h1.cell, h1.cell]
  exact ⟨rfl, rfl, rfl, rfl⟩
theorem Tk.list (h : Tk K z s w) : ∃ a c, w.cell? ⟨K.b, 8, none⟩ = some (.slice a s.l.length c) := by
  obtain ⟨lv, h1, h4⟩ := h.cells
  obtain ⟨a, c, rfl⟩ := row_slice h4
  exact ⟨a, c, by rw [h1.cell]; rfl⟩
/-- One access more is laid behind the others. -/
theorem Tk.push (h : Tk K z s w) (k a v : Nat) (hl : s.l.length ≤ 100) : ∃ la lc gg cap w1, w.cell? ⟨K.b, 8, none⟩ = some (.slice la s.l.length lc) ∧
    (Builtin.append_ #[26, 26] 26 #[.slice la s.l.length lc, .slice (some ⟨w.heap.size, 0, none⟩) 1 1]).run Tryz.prog (w.alloc (.cells #[.int .u8 k, .int .u32 a, .int .u8 v] 42)) = .ok (.slice (some ⟨gg, 0, none⟩) (s.l.length + 1) cap) w1 ∧
    (∃ u, w1.cell? ⟨K.b, 8, none⟩ = some u) ∧ w1.frozen? ⟨K.b, 8, none⟩ = false ∧ Hid (Tk K z { s with l := s.l ++ [(k, a, v)] } (w1.setCell ⟨K.b, 8, none⟩ (.slice (some ⟨gg, 0, none⟩) (s.l.length + 1) cap)) ∧ Kp K w (w1.setCell ⟨K.b, 8, none⟩ (.slice (some ⟨gg, 0, none⟩) (s.l.length + 1) cap))) := by
  obtain ⟨lv, hc, ho⟩ := h.cells
  obtain ⟨ba, bn, bc, bf, hb1, hb2⟩ := h.box
  obtain ⟨la, lc, rfl⟩ := row_slice ho
  have hwB : K.B ≤ w.heap.size := by have := h.bel.size; have := h.base; omega
  obtain ⟨gg, cap1, w1, hr, hown1, hgrow, hlt1⟩ := xrun_acc (w.alloc (.cells #[.int .u8 k, .int .u32 a, .int .u8 v] 42)) 26 (.slice la s.l.length lc) s.l k a v w.heap.size K.B (ho.alloc _) (Whole.fresh w _ _) hl (by simp; omega)
  have hoA := ho.alloc (.cells #[.int .u8 k, .int .u32 a, .int .u8 v] 42)
  have hap := own_apart hoA (hc.alloc (.cells #[.int .u8 k, .int .u32 a, .int .u8 v] 42)) (by decide)
  have hapb := own_apart hoA (hb1.alloc (.cells #[.int .u8 k, .int .u32 a, .int .u8 v] 42)) (by decide)
  have hc1 := (hc.alloc (.cells #[.int .u8 k, .int .u32 a, .int .u8 v] 42)).grown hgrow hap
  have hb3 := ((hb1.alloc (.cells #[.int .u8 k, .int .u32 a, .int .u8 v] 42)).grown hgrow hapb).away (p := ⟨K.b, 8, none⟩) (Ne.symm h.apart) (.slice (some ⟨gg, 0, none⟩) (s.l.length + 1) cap1)
  have hc2 := hc1.put 8 (.slice (some ⟨gg, 0, none⟩) (s.l.length + 1) cap1)
  have hB2 : Below K.B K.W0 (w1.setCell ⟨K.b, 8, none⟩ (.slice (some ⟨gg, 0, none⟩) (s.l.length + 1) cap1)) :=
    ((h.bel.alloc hwB _).grown hgrow (Nat.le_trans hwB (by simp)) (fun r hr => (hoA.lt r hr).1)).setCell (p := ⟨K.b, 8, none⟩) h.here _
  have ho2 := row_put hown1 (p := ⟨K.b, 8, none⟩) (own_apart hown1 hc1 (by decide)) (.slice (some ⟨gg, 0, none⟩) (s.l.length + 1) cap1)
  have hK2 := (((Kp.refl K w).alloc (.cells #[.int .u8 k, .int .u32 a, .int .u8 v] 42)).grown hoA hgrow).set 8 (.slice (some ⟨gg, 0, none⟩) (s.l.length + 1) cap1)
  refine ⟨la, lc, gg, cap1, w1, ?_, hr, ⟨_, by rw [hc1.cell]; rfl⟩, hc1.free 8, Lib.hid ⟨⟨h.ok, h.qok, h.mem, ⟨.slice (some ⟨gg, 0, none⟩) (s.l.length + 1) cap1, hc2, ?_⟩, ⟨ba, bn, bc, bf, hb3, hb2⟩, h.here, h.hex, hB2, h.base⟩, hK2⟩⟩
  · rw [hc.cell]; rfl
  · have e : (s.l ++ [(k, a, v)]).length = s.l.length + 1 := by simp
    rw [e]
    exact ho2
end
/-- What a call of a method comes to. -/
def Post {α : Type} (K : Cx) (z : Zs) (s : Ts) (w : World) (m : M α) (V : α → Value) (R : α → Prop) (c : Nat) (e : Ending) (w' : World) : Prop :=
  ∃ s', Tk K z s' w' ∧ Kp K w w' ∧ s'.l.length ≤ s.l.length + c ∧ ((∃ a, Ran m s a s' ∧ R a ∧ e = .returned (V a)) ∨ (Gave m s s' ∧ e = lackE))
section
variable {α β : Type} {K : Cx} {z : Zs} {s s1 s' : Ts} {w w1 w' : World} {m : M α} {k : α → M β} {V : β → Value} {R : β → Prop} {c d n : Nat} {a : α} {e : Ending}
/-- Behind a part that went through. -/
theorem Post.after (h : Ran m s a s1) (hK : Kp K w w1) (hc : s1.l.length ≤ s.l.length + c) (h2 : Post K z s1 w1 (k a) V R d e w') (hd : c + d ≤ n) : Post K z s w (M.bind m k) V R n e w' := by
  obtain ⟨s', t, kp, l, h3⟩ := h2
  refine ⟨s', t, hK.trans kp, by omega, ?_⟩
  rcases h3 with ⟨b, hr, hR, he⟩ | ⟨hg, he⟩
  · exact .inl ⟨b, h.bind hr, hR, he⟩
  · exact .inr ⟨Gave.then h hg, he⟩
theorem Post.gave (h : Gave m s s1) (t : Tk K z s1 w1) (hK : Kp K w w1) (hc : s1.l.length ≤ s.l.length + n) : Post K z s w (M.bind m k) V R n lackE w1 := ⟨s1, t, hK, hc, .inr ⟨h.bind, rfl⟩⟩
theorem Post.done {b : β} {m : M β} (h : Ran m s b s1) (t : Tk K z s1 w1) (hK : Kp K w w1) (hR : R b) (hc : s1.l.length ≤ s.l.length + n) : Post K z s w m V R n (.returned (V b)) w1 := ⟨s1, t, hK, hc, .inl ⟨b, h, hR, rfl⟩⟩
theorem Post.get {k : Rp → M β} (h : Post K z s w (k s.r) V R n e w') : Post K z s w (M.get k) V R n e w' := h
/-- The post under another name. -/
theorem post_name (Q : Ending → World → Prop) : ∃ P : Ending → World → Prop, Q = P ∧ ∀ e w', Q e w' → P e w' := ⟨Q, rfl, fun _ _ h => h⟩
end
end Go.Proofs.YtknlbmjncginnaaGreatDoor
namespace Go.Proofs.YtknlbmjncginnaaGreatDoor
open Go.RowKit Go.Shelf
set_option maxRecDepth 100000
set_option maxHeartbeats 1000000
set_option linter.unusedVariables false

/-- What answers, by the bytes that are left: no byte. -/
theorem course1_no {K : Cx} {w : World} (a : Nat) {p : Option Addr} {c : Nat} (hx : Whole w K.x 25 #[.slice p 0 c]) :
    Calls Tryz.prog 48 #[.int .u16 a, .pointer (some ⟨K.x, 0, none⟩)] w fun e w' => e = lackE ∧ w' = w := by
  have c0 := hx.cell 0
  simp only [List.getElem?_toArray, List.getElem?_cons_zero] at c0
  clear hx
  go_enter Tryz.func48, Tryz.ntmps48
  go_wp2_with fail
  exact ⟨rfl, by rfl, rfl⟩
theorem course1_ok {K : Cx} {w : World} (a : Nat) {g o m c : Nat} {v : Nat} (hx : Whole w K.x 25 #[.slice (some ⟨g, o, none⟩) (m + 1) (c + 1)]) (hv : w.cell? ⟨g, o, none⟩ = some (.int .u8 (v : Nat))) (hmc : m ≤ c) :
    Calls Tryz.prog 48 #[.int .u16 a, .pointer (some ⟨K.x, 0, none⟩)] w fun e w' => e = .returned (.int .u8 (v : Nat)) ∧ ∃ p, (m = 0 ∨ p = some ⟨g, o + 1, none⟩) ∧ w' = w.setCell ⟨K.x, 0, none⟩ (.slice p m c) := by
  have c0 := hx.cell 0
  have f0 := hx.free 0
  simp only [List.getElem?_toArray, List.getElem?_cons_zero] at c0
  have i1 : (((m + 1 : Nat) : Int) == 0) = false := by rw [beq_eq_false_iff_ne]; omega
  have hmcH := Lib.hid hmc
  clear hx
  by_cases hc0 : c = 0
  · subst hc0
    obtain rfl : m = 0 := by omega
    go_enter Tryz.func48, Tryz.ntmps48
    go_wp2_with fail
    go_ret
    exact ⟨rfl, some ⟨g, o, none⟩, .inl (by trivial), rfl⟩
  · go_enter Tryz.func48, Tryz.ntmps48
    go_wp2_with fail
    go_ret
    exact ⟨rfl, some ⟨g, o + 1, none⟩, .inr rfl, rfl⟩
theorem run1_any {K : Cx} {w : World} (a : Nat) {g o c : Nat} {v : Nat} (ha : a < 65536) (hx : Whole w K.x 25 #[.slice (some ⟨g, o, none⟩) 65536 c]) (hv : w.cell? ⟨g, o + a, none⟩ = some (.int .u8 (v : Nat))) :
    Calls Tryz.prog 51 #[.int .u16 a, .pointer (some ⟨K.x, 0, none⟩)] w fun e w' => e = .returned (.int .u8 (v : Nat)) ∧ w' = w := by
  have c0 := hx.cell 0
  simp only [List.getElem?_toArray, List.getElem?_cons_zero] at c0
  have ha' : (a : Int) < 65536 := by omega
  clear hx
  go_enter Tryz.func51, Tryz.ntmps51
  go_wp2_with fail
  go_ret
  exact ⟨rfl, rfl⟩
/-- One byte is taken. -/
theorem Tk.took {K : Cx} {z : Zs} {s : Ts} {w : World} {q' : Sc} {p : Option Addr} {m c : Nat} {f : Nat → Nat} (h : Tk K z s w) (hq : q'.Ok) (hm : q'.mem = K.mem) (hmc : m ≤ c) (hR : Row K.W0 p m f) (hF : Fits K.mem q'.seen m f) : Tk K z { s with q := q' } (w.setCell ⟨K.x, 0, none⟩ (.slice p m c)) := by
  obtain ⟨lv, h1, h4⟩ := h.cells
  obtain ⟨a, n, c', f', h5, h6⟩ := h.box
  exact ⟨h.ok, hq, hm, ⟨lv, h1.away (p := ⟨K.x, 0, none⟩) h.apart _, row_put h4 (p := ⟨K.x, 0, none⟩) (own_apart h4 h5 (by decide)) _⟩, ⟨p, m, c, f, h5.put 0 _, hmc, hR, hF⟩, h.here, h.hex, h.bel.setCell (p := ⟨K.x, 0, none⟩) h.hex _, h.base⟩
def ansF (K : Cx) : Nat := if K.mem.isSome then 51 else 48
theorem ans_any {K : Cx} {z : Zs} {s : Ts} {w : World} (a : Nat) (h : Tk K z s w) (ha : a < 65536) :
    Calls Tryz.prog (ansF K) #[.int .u16 a, .pointer (some ⟨K.x, 0, none⟩)] w fun e w' => Kp K w w' ∧ ((∃ v q', s.q.take a = some (v, q') ∧ v < 256 ∧ Tk K z { s with q := q' } w' ∧ e = .returned (.int .u8 (v : Nat))) ∨ (s.q.take a = none ∧ Tk K z s w' ∧ e = lackE)) := by
  obtain ⟨p, n, c, f, hx, hnc, hR, hF⟩ := h.box
  have hok := h.qok
  have hm := h.mem
  unfold ansF
  cases hK : K.mem with
  | some g =>
    rw [hK] at hm hF
    obtain ⟨rfl, rfl⟩ := hF
    rcases hR with ⟨hb, h0 | ⟨G, o, rfl, hg, hcell⟩⟩
    · omega
    have hv := (h.bel.cell (p := ⟨G, o + a, none⟩) (by have := h.base; show G < K.B; omega)).trans (hcell a ha)
    have ht : s.q.take a = some (f a, s.q) := by unfold Sc.take; rw [hm]
    refine (run1_any a ha hx hv).mono ?_
    rintro e w' ⟨rfl, rfl⟩
    exact ⟨Kp.refl _ _, .inl ⟨f a, s.q, ht, (hok.take ha ht).1, h, rfl⟩⟩
  | none =>
    rw [hK] at hm hF
    obtain ⟨hn, hf⟩ := hF
    cases hs : s.q.seen with
    | nil =>
      rw [hs] at hn
      obtain rfl : n = 0 := hn
      have ht : s.q.take a = none := by unfold Sc.take; rw [hm, hs]
      refine (course1_no a hx).mono ?_
      rintro e w' ⟨rfl, rfl⟩
      exact ⟨Kp.refl _ _, .inr ⟨ht, h, rfl⟩⟩
    | cons v t =>
      rw [hs] at hn hf
      obtain ⟨m, rfl⟩ : ∃ m, n = m + 1 := ⟨n - 1, by simp at hn; omega⟩
      obtain ⟨c', rfl⟩ : ∃ c', c = c' + 1 := ⟨c - 1, by omega⟩
      have hml : m = t.length := by simpa using hn
      have ht : s.q.take a = some (v, ⟨s.q.mem, t⟩) := by unfold Sc.take; rw [hm, hs]
      rcases hR with ⟨hb, h0 | ⟨G, o, rfl, hg, hcell⟩⟩
      · omega
      have hv := (h.bel.cell (p := ⟨G, o + 0, none⟩) (by have := h.base; show G < K.B; omega)).trans (hcell 0 (by omega))
      rw [hf 0 (by omega), Nat.add_zero] at hv
      have h2 := hok.take ha ht
      refine (course1_ok a hx hv (by omega)).mono ?_
      rintro e w' ⟨rfl, p', hp', rfl⟩
      refine ⟨(Kp.refl _ _).setx 0 _, .inl ⟨v, _, ht, h2.1, ?_, rfl⟩⟩
      refine h.took (f := fun i => f (i + 1)) h2.2 (hm.trans hK.symm) (by omega) ?_ ?_
      · refine ⟨fun i hi => hb (i + 1) (by omega), ?_⟩
        rcases hp' with h0 | h0
        · exact .inl h0
        · exact .inr ⟨G, o + 1, h0, hg, fun i hi => by rw [Nat.add_assoc, Nat.add_comm 1 i]; exact hcell (i + 1) (by omega)⟩
      · rw [hK]
        exact ⟨hml, fun i hi => hf (i + 1) (by omega)⟩
theorem ansV_eq (K : Cx) : ansV K = .func (.func (ansF K)) #[] #[.pointer (some ⟨K.x, 0, none⟩)] := by
  unfold ansV ansF
  split <;> rfl
def byteV (v : Nat) : Value := .int .u8 (v : Nat)
def wordV (v : Nat) : Value := .int .u16 (v : Nat)
def unitV (_ : Unit) : Value := .tuple #[]
theorem read_any {K : Cx} {z : Zs} {s : Ts} {w : World} (a : Nat) (h : Tk K z s w) (ha : a < 65536) (hl : s.l.length ≤ 99) :
    Calls Tryz.prog 135 #[.pointer (some ⟨K.b, 0, none⟩), .int .u16 a] w (Post K z s w (M.read a) byteV (fun v => v < 256) 1) := by
  obtain ⟨la, lc, gg, cap, w1, c8, hr, ⟨u, d8⟩, f8, hh⟩ := h.push 1 a 0 (by omega)
  have hd := Lib.hid fun (W : World) (hW : Tk K z { s with l := s.l ++ [(1, a, 0)] } W) => And.intro (hW.look.2.1.2.2.trans (by rw [ansV_eq])) (ans_any a hW ha)
  have hen : ∀ (args : Array Value) (W : World), (callFunc (ansF K) args).run Tryz.prog W = .ok (.enter (ansF K) args) W := fun args W => by unfold ansF; split <;> rfl
  have hfin := Lib.hid fun (w' : World) (e : Ending) (hk : Kp K w w') (hq : (∃ v q', s.q.take a = some (v, q') ∧ v < 256 ∧ Tk K z { ({ s with l := s.l ++ [(1, a, 0)] } : Ts) with q := q' } w' ∧ e = .returned (.int .u8 (v : Nat))) ∨ (s.q.take a = none ∧ Tk K z { s with l := s.l ++ [(1, a, 0)] } w' ∧ e = lackE)) => (show Post K z s w (M.read a) byteV (fun v => v < 256) 1 e w' from by
    rcases hq with ⟨v, q', h1, h2, h3, rfl⟩ | ⟨h1, h3, rfl⟩
    · exact ⟨_, h3, hk, by simp, .inl ⟨v, Ran.read a s ha h1, h2, rfl⟩⟩
    · exact ⟨_, h3, hk, by simp, .inr ⟨Gave.read a s ha h1, rfl⟩⟩)
  have e2 : IntKind.u32.wrap (a : Int) = (a : Int) := by simp only [IntKind.wrap_u32]; omega
  generalize s.l.length = L at *
  generalize ansF K = kf at *
  clear h hl
  simp only [show ((1 : Nat) : Int) = 1 from rfl, show ((0 : Nat) : Int) = 0 from rfl] at hr
  go_enter Tryz.func135, Tryz.ntmps135
  go_upto_region 2 with (at_builtin; refine wpList_append_ran rfl _ _ 26 rfl _ _ _ w1 rfl rfl hr ?_)
  obtain ⟨hT, hK⟩ := hh.out
  obtain ⟨c7, HA⟩ := hd.out _ hT
  generalize w1.setCell ⟨K.b, 8, none⟩ (.slice (some ⟨gg, 0, none⟩) (L + 1) cap) = W at *
  clear hh hd hr d8 f8 c8 hT
  replace hK := Lib.hid hK
  replace HA := Lib.hid HA
  go_wp2_with fail
  refine HA.out.mono ?_
  rintro e w' ⟨k2, hq⟩
  have hf := hfin.out w' e (hK.out.trans k2) hq
  replace hf := Lib.hid hf
  clear HA hfin
  rcases hq with ⟨v, q', h1, h2, h3, rfl⟩ | ⟨h1, h3, rfl⟩
  · clear h1 h2 h3 k2
    go_wp2_with fail
    go_ret
    exact hf.out
  · clear h1 h3 k2
    unfold lackE at hf ⊢
    go_wp2_with fail
    exact ⟨rfl, hf.out⟩
end Go.Proofs.YtknlbmjncginnaaGreatDoor
namespace Go.Proofs.YtknlbmjncginnaaGreatDoor
open Go.RowKit Go.Shelf
set_option maxRecDepth 100000
set_option maxHeartbeats 1000000
set_option linter.unusedVariables false

def flagP (P f : Nat) (on : Bool) : Nat := if on then (P &&& (255 - f)) ||| f else P &&& (255 - f)
theorem and_lt256 (P q : Nat) (h : P < 256) : P &&& q < 256 := Nat.lt_of_le_of_lt Nat.and_le_left h
theorem or_lt256 (a b : Nat) (ha : a < 256) (hb : b < 256) : a ||| b < 256 := Nat.or_lt_two_pow (n := 8) ha hb
theorem flagP_lt (P f : Nat) (on : Bool) (h : P < 256) (hf : f < 256) : flagP P f on < 256 := by
  unfold flagP
  cases on
  · exact and_lt256 P _ h
  · exact or_lt256 _ _ (and_lt256 P _ h) hf
def hasP (P f : Nat) : Bool := !decide (P &&& f = 0)
/-- A method that only turns registers. -/
def Turns (K : Cx) (z : Zs) (s : Ts) (w : World) (r' : Rp) (v : Value) (e : Ending) (w' : World) : Prop := e = .returned v ∧ Tk K z { s with r := r' } w' ∧ Kp K w w'
section
variable {K : Cx} {z : Zs} {s : Ts} {w : World}
theorem flag_any (f : Nat) (F : Int) (hF : F = (f : Int)) (h : Tk K z s w) (hf : f < 256) :
    Calls Tryz.prog 198 #[.pointer (some ⟨K.b, 0, none⟩), .int .u8 F] w fun e w' => e = .returned (.bool (hasP s.r.P f)) ∧ w' = w := by
  subst hF
  have c4 := h.look.1.2.2.2.2
  have ha := u8_and_nat s.r.P f h.ok.P hf
  unfold hasP
  generalize s.r.P &&& f = q at *
  clear h hf
  by_cases hq : q = 0
  · subst hq
    go_enter Tryz.func198, Tryz.ntmps198
    go_wp2_with fail
    go_ret
    exact ⟨rfl, rfl⟩
  · have t1 : ((q : Int) != 0) = true := by rw [bne_iff_ne]; omega
    rw [decide_eq_false hq]
    replace hq := Lib.hid hq
    go_enter Tryz.func198, Tryz.ntmps198
    go_wp2_with fail
    go_ret
    exact ⟨rfl, rfl⟩
def putR (f : Nat) (on : Bool) (r : Rp) : Rp := { r with P := flagP r.P f on }
theorem put_any (f : Nat) (F : Int) (hF : F = (f : Int)) (on : Bool) (h : Tk K z s w) (hf : f < 256) :
    Calls Tryz.prog 196 #[.pointer (some ⟨K.b, 0, none⟩), .int .u8 F, .bool on] w (Turns K z s w (putR f on s.r) (.tuple #[])) := by
  subst hF
  obtain ⟨⟨_, _, _, _, c4⟩, _, hfz⟩ := h.look
  have f4 := hfz 4
  have hP := h.ok.P
  have e1 := u8_andNot_nat s.r.P f hP hf
  have hq := and_lt256 s.r.P (255 - f) hP
  have e2 := u8_or_nat (s.r.P &&& (255 - f)) f hq hf
  have hq2 := or_lt256 (s.r.P &&& (255 - f)) f hq hf
  unfold Turns putR flagP
  generalize s.r.P &&& (255 - f) = q at *
  have h1 := h.toP q hq
  have k1 := (Kp.refl K w).set 4 (.int .u8 (q : Nat))
  obtain ⟨⟨_, _, _, _, d4⟩, _, df⟩ := h1.look
  have g4 := df 4
  dsimp only at d4
  cases on with
  | false =>
    rw [if_neg (by decide)]
    have hfin := Lib.hid (And.intro h1 k1)
    clear hfz df h h1 k1 hP hq hf e2 hq2
    generalize s.r.P = P at *
    go_enter Tryz.func196, Tryz.ntmps196
    go_wp2_with fail
    go_end0
    exact ⟨rfl, hfin.out⟩
  | true =>
    rw [if_pos rfl]
    generalize q ||| f = y at *
    have h2 := h1.toP y hq2
    have hfin := Lib.hid (And.intro h2 (k1.set 4 (.int .u8 (y : Nat))))
    clear hfz df h h1 h2 k1 hP hq hf hq2
    generalize s.r.P = P at *
    go_enter Tryz.func196, Tryz.ntmps196
    go_wp2_with fail
    go_end0
    exact ⟨rfl, hfin.out⟩
/-- N and Z by a byte. -/
def tellR (v : Nat) (r : Rp) : Rp := putR 2 (decide (v = 0)) (putR 128 (hasP v 128) r)
theorem tell_any (v : Nat) (h : Tk K z s w) (hv : v < 256) :
    Calls Tryz.prog 194 #[.pointer (some ⟨K.b, 0, none⟩), .int .u8 (v : Nat)] w (Turns K z s w (tellR v s.r) (.tuple #[])) := by
  have H1 := Lib.hid (put_any 128 128 rfl (hasP v 128) h (by decide))
  have H2 := Lib.hid fun (W : World) (hW : Tk K z { s with r := putR 128 (hasP v 128) s.r } W) => put_any 2 2 rfl (decide (v = 0)) hW (by decide)
  have ha : bits .and .u8 (v : Int) 128 = ((v &&& 128 : Nat) : Int) := u8_and_nat v 128 hv (by decide)
  have t0 : ((v : Int) == 0) = decide (v = 0) := by by_cases e : v = 0 <;> simp [e]
  have t1 : (((v &&& 128 : Nat) : Int) != 0) = hasP v 128 := by unfold hasP; by_cases e : v &&& 128 = 0 <;> simp [e]
  unfold Turns tellR
  generalize decide (v = 0) = o2 at *
  generalize hasP v 128 = o1 at *
  generalize v &&& 128 = q at *
  clear h
  go_enter Tryz.func194, Tryz.ntmps194
  go_wp2_with fail
  with_reducible refine H1.out.mono ?_
  rintro e w1 ⟨rfl, h1, k1⟩
  clear H1
  replace k1 := Lib.hid k1
  replace H2 := Lib.hid (H2.out _ h1)
  clear h1
  go_wp2_with fail
  with_reducible refine H2.out.mono ?_
  rintro e w2 ⟨rfl, h2, k2⟩
  have hfin := Lib.hid (And.intro h2 (k1.out.trans k2))
  clear H2 h2 k2 k1
  go_wp2_with fail
  go_end0
  exact ⟨rfl, hfin.out⟩
/-- N and Z by a word. -/
def tellWR (v : Nat) (r : Rp) : Rp := putR 2 (decide (v = 0)) (putR 128 (hasP v 32768) r)
theorem tellWord_any (v : Nat) (h : Tk K z s w) (hv : v < 65536) :
    Calls Tryz.prog 205 #[.pointer (some ⟨K.b, 0, none⟩), .int .u16 (v : Nat)] w (Turns K z s w (tellWR v s.r) (.tuple #[])) := by
  have H1 := Lib.hid (put_any 128 128 rfl (hasP v 32768) h (by decide))
  have H2 := Lib.hid fun (W : World) (hW : Tk K z { s with r := putR 128 (hasP v 32768) s.r } W) => put_any 2 2 rfl (decide (v = 0)) hW (by decide)
  have ha : bits .and .u16 (v : Int) 32768 = ((v &&& 32768 : Nat) : Int) := u16_and_nat v 32768 hv (by decide)
  have t0 : ((v : Int) == 0) = decide (v = 0) := by by_cases e : v = 0 <;> simp [e]
  have t1 : (((v &&& 32768 : Nat) : Int) != 0) = hasP v 32768 := by unfold hasP; by_cases e : v &&& 32768 = 0 <;> simp [e]
  unfold Turns tellWR
  generalize decide (v = 0) = o2 at *
  generalize hasP v 32768 = o1 at *
  generalize v &&& 32768 = q at *
  clear h
  go_enter Tryz.func205, Tryz.ntmps205
  go_wp2_with fail
  with_reducible refine H1.out.mono ?_
  rintro e w1 ⟨rfl, h1, k1⟩
  clear H1
  replace k1 := Lib.hid k1
  replace H2 := Lib.hid (H2.out _ h1)
  clear h1
  go_wp2_with fail
  with_reducible refine H2.out.mono ?_
  rintro e w2 ⟨rfl, h2, k2⟩
  have hfin := Lib.hid (And.intro h2 (k1.out.trans k2))
  clear H2 h2 k2 k1
  go_wp2_with fail
  go_end0
  exact ⟨rfl, hfin.out⟩
/-- Where a place of the direct page stands. -/
def placeR (r : Rp) (v : Nat) : Nat := if hasP r.P 32 then 256 + v else v
theorem placeR_lt (r : Rp) (v : Nat) (hv : v < 256) : placeR r v < 65536 := by unfold placeR; split <;> omega
theorem place_any (v : Nat) (h : Tk K z s w) (hv : v < 256) :
    Calls Tryz.prog 234 #[.pointer (some ⟨K.b, 0, none⟩), .int .u8 (v : Nat)] w fun e w' => e = .returned (.int .u16 (placeR s.r v : Nat)) ∧ w' = w := by
  have H1 := Lib.hid (flag_any 32 32 rfl h (by decide))
  have e3 : 256 ||| v = 256 + v := by rw [show (256 : Nat) = 1 <<< 8 from rfl, Nat.shiftLeft_add_eq_or_of_lt (show v < 2 ^ 8 from hv)]
  have e1 : bits .or .u16 256 (v : Int) = ((256 + v : Nat) : Int) := (u16_or_nat 256 v (by decide) (by omega)).trans (by rw [e3])
  have e2 : IntKind.u16.wrap (v : Int) = (v : Int) := by simp only [IntKind.wrap_u16]; omega
  unfold placeR
  clear h e3
  cases hp : hasP s.r.P 32
  · rw [hp] at H1
    rw [if_neg (by decide)]
    clear hp e1
    go_enter Tryz.func234, Tryz.ntmps234
    go_wp2_with fail
    with_reducible refine H1.out.mono ?_
    rintro e w1 ⟨rfl, rfl⟩
    clear H1
    go_wp2_with fail
    go_ret
    exact ⟨rfl, rfl⟩
  · rw [hp] at H1
    rw [if_pos rfl]
    clear hp
    generalize 256 + v = x at *
    go_enter Tryz.func234, Tryz.ntmps234
    go_wp2_with fail
    with_reducible refine H1.out.mono ?_
    rintro e w1 ⟨rfl, rfl⟩
    clear H1
    go_wp2_with fail
    go_ret
    exact ⟨rfl, rfl⟩
end
end Go.Proofs.YtknlbmjncginnaaGreatDoor
namespace Go.Proofs.YtknlbmjncginnaaGreatDoor
open Go.RowKit Go.Shelf
set_option maxRecDepth 100000
set_option maxHeartbeats 1000000
set_option linter.unusedVariables false

section
variable {K : Cx} {z : Zs} {s : Ts} {w : World}
theorem write_any (a v : Nat) (h : Tk K z s w) (ha : a < 65536) (hv : v < 256) (hl : s.l.length ≤ 99) :
    Calls Tryz.prog 193 #[.pointer (some ⟨K.b, 0, none⟩), .int .u16 a, .int .u8 v] w fun e w' => e = .returned (.tuple #[]) ∧ Tk K z { s with l := s.l ++ [(2, a, v)] } w' ∧ Kp K w w' := by
  obtain ⟨la, lc, gg, cap, w1, c8, hr, ⟨u, d8⟩, f8, hh⟩ := h.push 2 a v (by omega)
  have e2 : IntKind.u32.wrap (a : Int) = (a : Int) := by simp only [IntKind.wrap_u32]; omega
  generalize s.l.length = L at *
  clear h hl
  simp only [show ((2 : Nat) : Int) = 2 from rfl] at hr
  go_enter Tryz.func193, Tryz.ntmps193
  go_wp2_with (at_builtin; refine wpList_append_ran rfl _ _ 26 rfl _ _ _ w1 rfl rfl hr ?_)
  go_end0
  exact ⟨rfl, hh.out⟩
def fetchM : M Nat := M.get fun r => M.bind (M.read r.Pc) fun v => M.bind (M.set fun r => { r with Pc := (r.Pc + 1) % 65536 }) fun _ => M.pure v
theorem fetch_any (h : Tk K z s w) (hl : s.l.length ≤ 99) :
    Calls Tryz.prog 93 #[.pointer (some ⟨K.b, 0, none⟩)] w (Post K z s w fetchM byteV (fun v => v < 256) 1) := by
  have c5 := h.look.2.1.1
  have H1 := Lib.hid (read_any s.r.Pc h h.ok.Pc hl)
  clear hl
  obtain ⟨Q, hQ, F⟩ := post_name (Post K z s w fetchM byteV (fun v => v < 256) 1)
  rw [hQ]
  clear h hQ
  replace F : ∀ e w', Post K z s w (M.bind (M.read s.r.Pc) fun v => M.bind (M.set fun r => { r with Pc := (r.Pc + 1) % 65536 }) fun _ => M.pure v) byteV (fun v => v < 256) 1 e w' → Q e w' := F
  replace F := Lib.hid F
  generalize s.r.Pc = a at *
  go_enter Tryz.func93, Tryz.ntmps93
  go_wp2_with fail
  with_reducible refine H1.out.mono ?_
  rintro e w1 ⟨s1, t1, k1, l1, (⟨v, r1, hv, rfl⟩ | ⟨g1, rfl⟩)⟩
  · have d5 := t1.look.2.1.1
    have f5 := t1.look.2.2 5
    have e5 : IntKind.u16.wrap ((s1.r.Pc : Int) + 1) = (((s1.r.Pc + 1) % 65536 : Nat) : Int) := by simp only [IntKind.wrap_u16]; omega
    have t2 := t1.toPc ((s1.r.Pc + 1) % 65536) (Nat.mod_lt _ (by decide))
    have hfin := Lib.hid (F.out (.returned (byteV v)) _ (Post.done (r1.bind (Ran.bind (Ran.set (fun r => { r with Pc := (r.Pc + 1) % 65536 }) s1) (Ran.pure v _))) t2 (k1.set 5 _) hv l1))
    unfold byteV at hfin ⊢
    generalize s1.r.Pc = P at *
    generalize (P + 1) % 65536 = P' at *
    clear H1 F t1 t2 k1 l1 r1 hv
    go_wp2_with fail
    exact hfin.out
  · have hfin := Lib.hid (F.out lackE _ (Post.gave g1 t1 k1 l1))
    clear H1 F t1 k1 l1 g1
    unfold lackE at hfin ⊢
    go_wp2_with fail
    first | exact hfin.out | exact ⟨rfl, hfin.out⟩
def pushM (v : Nat) : M Unit := M.get fun r => M.bind (M.write (256 + r.S) v) fun _ => M.set fun r => { r with S := (r.S + 255) % 256 }
theorem stack_or (v : Nat) (hv : v < 256) : bits .or .u16 256 (v : Int) = ((256 + v : Nat) : Int) :=
  (u16_or_nat 256 v (by decide) (by omega)).trans (by rw [show (256 : Nat) = 1 <<< 8 from rfl, Nat.shiftLeft_add_eq_or_of_lt (show v < 2 ^ 8 from hv)])
theorem Ran.push (v : Nat) (s : Ts) (hS : s.r.S < 256) (hv : v < 256) : Ran (pushM v) s () { s with l := s.l ++ [(2, 256 + s.r.S, v)], r := { s.r with S := (s.r.S + 255) % 256 } } :=
  Ran.get (k := fun r => M.bind (M.write (256 + r.S) v) fun _ => M.set fun r => { r with S := (r.S + 255) % 256 }) ((Ran.write (256 + s.r.S) v s (by omega) hv).bind (Ran.set (fun r => { r with S := (r.S + 255) % 256 }) _))
theorem push_any (v : Nat) (h : Tk K z s w) (hv : v < 256) (hl : s.l.length ≤ 99) :
    Calls Tryz.prog 236 #[.pointer (some ⟨K.b, 0, none⟩), .int .u8 v] w fun e w' => e = .returned (.tuple #[]) ∧ Tk K z { s with l := s.l ++ [(2, 256 + s.r.S, v)], r := { s.r with S := (s.r.S + 255) % 256 } } w' ∧ Kp K w w' := by
  have c3 := h.look.1.2.2.2.1
  have hS := h.ok.S
  have e1 := stack_or s.r.S hS
  have e2 : IntKind.u16.wrap (s.r.S : Int) = (s.r.S : Int) := by simp only [IntKind.wrap_u16]; omega
  have e3 : IntKind.u8.wrap ((s.r.S : Int) - 1) = (((s.r.S + 255) % 256 : Nat) : Int) := by simp only [IntKind.wrap_u8]; omega
  have H1 := Lib.hid (write_any (256 + s.r.S) v h (by omega) hv hl)
  have hx : (s.r.S + 255) % 256 < 256 := Nat.mod_lt _ (by decide)
  have HL := Lib.hid fun (W : World) (hW : Tk K z { s with l := s.l ++ [(2, 256 + s.r.S, v)] } W) => And.intro hW.look.1.2.2.2.1 (And.intro (hW.look.2.2 3) (hW.toS _ hx))
  dsimp only at HL
  generalize (s.r.S + 255) % 256 = S' at *
  generalize 256 + s.r.S = A at *
  clear h hl hv hS hx
  generalize s.r.S = S at *
  go_enter Tryz.func236, Tryz.ntmps236
  go_wp2_with fail
  with_reducible refine H1.out.mono ?_
  rintro e w1 ⟨rfl, t1, k1⟩
  obtain ⟨d3, f3, t2⟩ := HL.out _ t1
  have hfin := Lib.hid (And.intro t2 (k1.set 3 (.int .u8 (S' : Nat))))
  clear H1 HL t1 k1 t2 c3
  go_wp2_with fail
  go_end0
  exact ⟨rfl, hfin.out⟩
def popM : M Nat := M.bind (M.set fun r => { r with S := (r.S + 1) % 256 }) fun _ => M.get fun r => M.read (256 + r.S)
theorem pop_any (h : Tk K z s w) (hl : s.l.length ≤ 99) :
    Calls Tryz.prog 237 #[.pointer (some ⟨K.b, 0, none⟩)] w (Post K z s w popM byteV (fun v => v < 256) 1) := by
  have c3 := h.look.1.2.2.2.1
  have f3 := h.look.2.2 3
  have hS := h.ok.S
  have hx : (s.r.S + 1) % 256 < 256 := Nat.mod_lt _ (by decide)
  have e1 := stack_or _ hx
  have e2 : IntKind.u16.wrap (((s.r.S + 1) % 256 : Nat) : Int) = (((s.r.S + 1) % 256 : Nat) : Int) := by simp only [IntKind.wrap_u16]; omega
  have e3 : IntKind.u8.wrap ((s.r.S : Int) + 1) = (((s.r.S + 1) % 256 : Nat) : Int) := by simp only [IntKind.wrap_u8]; omega
  have t1 := h.toS _ hx
  have d3 := t1.look.1.2.2.2.1
  have H1 := read_any (256 + (s.r.S + 1) % 256) t1 (by omega) hl
  have hfin : ∀ e w', Post K z { s with r := { s.r with S := (s.r.S + 1) % 256 } } (w.setCell ⟨K.b, 3, none⟩ (.int .u8 (((s.r.S + 1) % 256 : Nat) : Int))) (M.read (256 + (s.r.S + 1) % 256)) byteV (fun v => v < 256) 1 e w' → Post K z s w popM byteV (fun v => v < 256) 1 e w' := fun e w' hp =>
    Post.after (c := 0) (d := 1) (k := fun _ => M.get fun r => M.read (256 + r.S)) (Ran.set (fun r => { r with S := (r.S + 1) % 256 }) s) ((Kp.refl K w).set 3 _) (Nat.le_refl _) hp (Nat.le_refl _)
  replace hfin := Lib.hid hfin
  dsimp only at d3
  replace H1 := Lib.hid H1
  clear t1 h hl
  generalize 256 + (s.r.S + 1) % 256 = A at *
  generalize (s.r.S + 1) % 256 = S' at *
  generalize s.r.S = S at *
  go_enter Tryz.func237, Tryz.ntmps237
  go_wp2_with fail
  with_reducible refine H1.out.mono ?_
  intro e w1 hp
  have hf := Lib.hid (hfin.out _ _ hp)
  obtain ⟨s1, _, _, _, (⟨v, _, _, rfl⟩ | ⟨_, rfl⟩)⟩ := hp
  · clear H1 hfin
    unfold byteV at hf ⊢
    go_wp2_with fail
    go_ret
    exact hf.out
  · clear H1 hfin
    unfold lackE at hf ⊢
    go_wp2_with fail
    exact ⟨rfl, hf.out⟩
def readWordM (a b : Nat) : M Nat := M.bind (M.read a) fun x => M.bind (M.read b) fun y => M.pure (y * 256 + x)
theorem word_or (x y : Nat) (hx : x < 256) (hy : y < 256) : bits .or .u16 (x : Int) ((y : Int) * 256) = ((y * 256 + x : Nat) : Int) := by
  rw [show (y : Int) * 256 = ((y * 256 : Nat) : Int) from by omega, u16_or_nat x (y * 256) (by omega) (by omega), Nat.or_comm, show y * 256 ||| x = y * 256 + x from by rw [show y * 256 = y <<< 8 from (Nat.shiftLeft_eq y 8).symm, ← Nat.shiftLeft_add_eq_or_of_lt (show x < 2 ^ 8 from hx)]]
theorem readWord_any (a b : Nat) (h : Tk K z s w) (ha : a < 65536) (hb : b < 65536) (hl : s.l.length ≤ 98) :
    Calls Tryz.prog 247 #[.pointer (some ⟨K.b, 0, none⟩), .int .u16 a, .int .u16 b] w (Post K z s w (readWordM a b) wordV (fun v => v < 65536) 2) := by
  have H1 := Lib.hid (read_any a h ha (by omega))
  obtain ⟨Q, hQ, F⟩ := post_name (Post K z s w (readWordM a b) wordV (fun v => v < 65536) 2)
  rw [hQ]
  clear h hQ
  replace F := Lib.hid F
  replace hl := Lib.hid hl
  go_enter Tryz.func247, Tryz.ntmps247
  go_wp2_with fail
  with_reducible refine H1.out.mono ?_
  rintro e w1 ⟨s1, t1, k1, l1, (⟨x, r1, hx, rfl⟩ | ⟨g1, rfl⟩)⟩
  · have H2 := Lib.hid (read_any b t1 hb (by have := hl.out; omega))
    have hx2 := Lib.hid hx
    replace r1 := Lib.hid r1
    replace k1 := Lib.hid k1
    replace l1 := Lib.hid l1
    have ex : IntKind.u16.wrap (x : Int) = (x : Int) := by simp only [IntKind.wrap_u16]; omega
    clear H1 t1 ha hb
    unfold byteV
    go_wp2_with fail
    with_reducible refine H2.out.mono ?_
    rintro e w2 ⟨s2, t2, k2, l2, (⟨y, r2, hy, rfl⟩ | ⟨g2, rfl⟩)⟩
    · have ey : IntKind.u16.wrap (y : Int) = (y : Int) := by simp only [IntKind.wrap_u16]; omega
      have eo := word_or x y hx2.out hy
      have hfin := Lib.hid (F.out (.returned (wordV (y * 256 + x))) _ (Post.done (r1.out.bind (r2.bind (Ran.pure (y * 256 + x) _))) t2 (k1.out.trans k2) (by have := hx2.out; omega) (by have := l1.out; omega)))
      unfold wordV at hfin
      unfold byteV
      clear H2 F t2 k2 l2 r2 hx k1 l1 r1
      go_wp2_with fail
      exact hfin.out
    · have hfin := Lib.hid (F.out lackE _ (Post.after r1.out k1.out l1.out (Post.gave g2 t2 k2 l2) (Nat.le_refl 2)))
      clear H2 F t2 k2 l2 g2 k1 l1 r1
      unfold lackE at hfin ⊢
      go_wp2_with fail
      first | exact hfin.out | exact ⟨rfl, hfin.out⟩
  · have hfin := Lib.hid (F.out lackE _ (Post.gave g1 t1 k1 (Nat.le_trans l1 (Nat.le_succ _))))
    clear H1 t1 k1 l1 g1
    unfold lackE at hfin ⊢
    go_wp2_with fail
    first | exact hfin.out | exact ⟨rfl, hfin.out⟩
end
end Go.Proofs.YtknlbmjncginnaaGreatDoor
namespace Go.Proofs.YtknlbmjncginnaaGreatDoor
open Go.RowKit Go.Shelf
set_option maxRecDepth 100000
set_option maxHeartbeats 1000000
set_option linter.unusedVariables false

section
variable {K : Cx} {z : Zs} {s : Ts} {w : World}
def wordAtM (a : Nat) : M Nat := readWordM a ((a + 1) % 65536)
theorem wordAt_any (a : Nat) (h : Tk K z s w) (ha : a < 65536) (hl : s.l.length ≤ 98) :
    Calls Tryz.prog 239 #[.pointer (some ⟨K.b, 0, none⟩), .int .u16 a] w (Post K z s w (wordAtM a) wordV (fun v => v < 65536) 2) := by
  have H1 := Lib.hid (readWord_any a ((a + 1) % 65536) h ha (Nat.mod_lt _ (by decide)) hl)
  have e1 : IntKind.u16.wrap ((a : Int) + 1) = (((a + 1) % 65536 : Nat) : Int) := by simp only [IntKind.wrap_u16]; omega
  obtain ⟨Q, hQ, F⟩ := post_name (Post K z s w (wordAtM a) wordV (fun v => v < 65536) 2)
  rw [hQ]
  clear h hQ
  replace F : ∀ e w', Post K z s w (readWordM a ((a + 1) % 65536)) wordV (fun v => v < 65536) 2 e w' → Q e w' := F
  replace F := Lib.hid F
  generalize (a + 1) % 65536 = a' at *
  clear hl ha
  go_enter Tryz.func239, Tryz.ntmps239
  go_wp2_with fail
  with_reducible refine H1.out.mono ?_
  intro e w1 hp
  have hfin := Lib.hid (F.out _ _ hp)
  obtain ⟨s1, _, _, _, (⟨v, _, _, rfl⟩ | ⟨_, rfl⟩)⟩ := hp
  · clear H1 F
    unfold wordV at hfin ⊢
    go_wp2_with fail
    exact hfin.out
  · clear H1 F
    unfold lackE at hfin ⊢
    go_wp2_with fail
    first | exact hfin.out | exact ⟨rfl, hfin.out⟩
def wordInPageM (v : Nat) : M Nat := M.get fun r => readWordM (placeR r v) (placeR r ((v + 1) % 256))
theorem wordInPage_any (v : Nat) (h : Tk K z s w) (hv : v < 256) (hl : s.l.length ≤ 98) :
    Calls Tryz.prog 235 #[.pointer (some ⟨K.b, 0, none⟩), .int .u8 v] w (Post K z s w (wordInPageM v) wordV (fun v => v < 65536) 2) := by
  have hv1 : (v + 1) % 256 < 256 := Nat.mod_lt _ (by decide)
  have P1 := Lib.hid (place_any v h hv)
  have P2 := Lib.hid (place_any ((v + 1) % 256) h hv1)
  have H1 := Lib.hid (readWord_any (placeR s.r v) (placeR s.r ((v + 1) % 256)) h (placeR_lt _ _ hv) (placeR_lt _ _ hv1) hl)
  have e1 : IntKind.u8.wrap ((v : Int) + 1) = (((v + 1) % 256 : Nat) : Int) := by simp only [IntKind.wrap_u8]; omega
  obtain ⟨Q, hQ, F⟩ := post_name (Post K z s w (wordInPageM v) wordV (fun v => v < 65536) 2)
  rw [hQ]
  clear h hQ
  replace F : ∀ e w', Post K z s w (readWordM (placeR s.r v) (placeR s.r ((v + 1) % 256))) wordV (fun v => v < 65536) 2 e w' → Q e w' := fun e w' hp => F e w' (Post.get (k := fun r => readWordM (placeR r v) (placeR r ((v + 1) % 256))) hp)
  replace F := Lib.hid F
  generalize placeR s.r ((v + 1) % 256) = x2 at *
  generalize placeR s.r v = x1 at *
  generalize (v + 1) % 256 = v' at *
  clear hl hv hv1
  go_enter Tryz.func235, Tryz.ntmps235
  go_wp2_with fail
  with_reducible refine P1.out.mono ?_
  rintro e w0 ⟨rfl, hw0⟩
  rw [hw0]
  clear P1 hw0
  go_wp2_with fail
  with_reducible refine P2.out.mono ?_
  rintro e w0 ⟨rfl, hw0⟩
  rw [hw0]
  clear P2 hw0
  go_wp2_with fail
  with_reducible refine H1.out.mono ?_
  intro e w1 hp
  have hfin := Lib.hid (F.out _ _ hp)
  obtain ⟨s1, _, _, _, (⟨v, _, _, rfl⟩ | ⟨_, rfl⟩)⟩ := hp
  · clear H1 F
    unfold wordV at hfin ⊢
    go_wp2_with fail
    exact hfin.out
  · clear H1 F
    unfold lackE at hfin ⊢
    go_wp2_with fail
    first | exact hfin.out | exact ⟨rfl, hfin.out⟩
theorem Still.readWord (a b : Nat) : Still (readWordM a b) := (Still.read a).bind fun x => (Still.read b).bind fun y => Still.pure _
theorem Still.wordInPage (v : Nat) : Still (wordInPageM v) := Still.get (k := fun r => readWordM (placeR r v) (placeR r ((v + 1) % 256))) fun r => Still.readWord _ _
/-- Where the next instruction stands is pushed. -/
def pushPcM : M Unit := M.get fun r => M.bind (pushM (r.Pc / 256)) fun _ => pushM (r.Pc % 256)
def pushPcS (s : Ts) : Ts := { s with l := s.l ++ [(2, 256 + s.r.S, s.r.Pc / 256), (2, 256 + (s.r.S + 255) % 256, s.r.Pc % 256)], r := { s.r with S := (s.r.S + 254) % 256 } }
theorem Ran.pushPc (s : Ts) (h : s.r.Ok) : Ran pushPcM s () (pushPcS s) := by
  have h1 := Ran.push (s.r.Pc / 256) s h.S (by have := h.Pc; omega)
  have h2 := Ran.push (s.r.Pc % 256) { s with l := s.l ++ [(2, 256 + s.r.S, s.r.Pc / 256)], r := { s.r with S := (s.r.S + 255) % 256 } } (Nat.mod_lt _ (by decide)) (by omega)
  have h3 := Ran.get (k := fun r => M.bind (pushM (r.Pc / 256)) fun _ => pushM (r.Pc % 256)) (h1.bind h2)
  dsimp only at h3
  rw [List.append_assoc] at h3
  rw [show (s.r.S + 255) % 256 + 255 = (s.r.S + 255) % 256 + 255 from rfl] at h3
  unfold pushPcS
  rw [show (s.r.S + 254) % 256 = ((s.r.S + 255) % 256 + 255) % 256 by omega]
  exact h3
theorem pushPc_any (h : Tk K z s w) (hl : s.l.length ≤ 98) :
    Calls Tryz.prog 240 #[.pointer (some ⟨K.b, 0, none⟩)] w fun e w' => e = .returned (.tuple #[]) ∧ Tk K z (pushPcS s) w' ∧ Kp K w w' := by
  obtain ⟨⟨rA, rX, rY, rS, rP, rPc, rH⟩, l, q⟩ := s
  have c5 := h.look.2.1.1
  have hP := h.ok.Pc
  dsimp only at c5 hP hl
  have H1 := Lib.hid (push_any (rPc / 256) h (by omega) (show l.length ≤ 99 by omega))
  have H2 := Lib.hid fun (W : World) (hW : Tk K z ⟨⟨rA, rX, rY, (rS + 255) % 256, rP, rPc, rH⟩, l ++ [(2, 256 + rS, rPc / 256)], q⟩ W) => And.intro hW.look.2.1.1 (push_any (rPc % 256) hW (by omega) (by simp; omega))
  dsimp only at H1 H2
  rw [List.append_assoc, show ((rS + 255) % 256 + 255) % 256 = (rS + 254) % 256 by omega] at H2
  have e1 : IntKind.u8.wrap ((rPc : Int) / 256) = ((rPc / 256 : Nat) : Int) := by simp only [IntKind.wrap_u8]; omega
  have e2 : IntKind.u8.wrap (rPc : Int) = ((rPc % 256 : Nat) : Int) := by simp only [IntKind.wrap_u8]; omega
  unfold pushPcS
  dsimp only
  generalize rPc / 256 = hi at *
  generalize rPc % 256 = lo at *
  clear h hl hP
  
  go_enter Tryz.func240, Tryz.ntmps240
  go_wp2_with fail
  with_reducible refine H1.out.mono ?_
  rintro e w1 ⟨rfl, t1, k1⟩
  obtain ⟨d5, H3⟩ := H2.out _ t1
  replace H3 := Lib.hid H3
  replace k1 := Lib.hid k1
  clear H1 H2 t1 c5
  go_wp2_with fail
  with_reducible refine H3.out.mono ?_
  rintro e w2 ⟨rfl, t2, k2⟩
  have hfin := Lib.hid (And.intro t2 (k1.out.trans k2))
  clear H3 t2 k2 k1
  go_wp2_with fail
  go_end0
  exact ⟨rfl, hfin.out⟩
def popPcM : M Unit := M.bind popM fun lo => M.bind popM fun hi => M.set fun r => { r with Pc := hi * 256 + lo }
theorem popPc_any (h : Tk K z s w) (hl : s.l.length ≤ 98) :
    Calls Tryz.prog 241 #[.pointer (some ⟨K.b, 0, none⟩)] w (Post K z s w popPcM unitV (fun _ => True) 2) := by
  have H1 := Lib.hid (pop_any h (by omega))
  obtain ⟨Q, hQ, F⟩ := post_name (Post K z s w popPcM unitV (fun _ => True) 2)
  rw [hQ]
  clear h hQ
  replace F := Lib.hid F
  replace hl := Lib.hid hl
  go_enter Tryz.func241, Tryz.ntmps241
  go_wp2_with fail
  with_reducible refine H1.out.mono ?_
  rintro e w1 ⟨s1, t1, k1, l1, (⟨x, r1, hx, rfl⟩ | ⟨g1, rfl⟩)⟩
  · have H2 := Lib.hid (pop_any t1 (by have := hl.out; omega))
    have hx2 := Lib.hid hx
    replace r1 := Lib.hid r1
    replace k1 := Lib.hid k1
    replace l1 := Lib.hid l1
    have ex : IntKind.u16.wrap (x : Int) = (x : Int) := by simp only [IntKind.wrap_u16]; omega
    clear H1 t1
    unfold byteV
    go_wp2_with fail
    with_reducible refine H2.out.mono ?_
    rintro e w2 ⟨s2, t2, k2, l2, (⟨y, r2, hy, rfl⟩ | ⟨g2, rfl⟩)⟩
    · have ey : IntKind.u16.wrap (y : Int) = (y : Int) := by simp only [IntKind.wrap_u16]; omega
      have eo : bits .or .u16 ((y : Int) * 256) (x : Int) = ((y * 256 + x : Nat) : Int) := by
        have hx := hx2.out
        rw [show (y : Int) * 256 = ((y * 256 : Nat) : Int) from by omega, u16_or_nat (y * 256) x (by omega) (by omega), show y * 256 ||| x = y * 256 + x from by rw [show y * 256 = y <<< 8 from (Nat.shiftLeft_eq y 8).symm, ← Nat.shiftLeft_add_eq_or_of_lt (show x < 2 ^ 8 from hx)]]
      have c5 := t2.look.2.1.1
      have f5 := t2.look.2.2 5
      have hlt : y * 256 + x < 65536 := by have := hx2.out; omega
      have t3 := t2.toPc _ hlt
      have hfin := Lib.hid (F.out (.returned (unitV ())) _ (Post.done (r1.out.bind (r2.bind (Ran.set (fun r => { r with Pc := y * 256 + x }) _))) t3 ((k1.out.trans k2).set 5 _) trivial (by have := l1.out; dsimp only; omega)))
      unfold unitV at hfin
      unfold byteV
      generalize y * 256 + x = v at *
      generalize s2.r.Pc = P at *
      clear H2 F t2 k2 l2 r2 hx k1 l1 r1 t3 hlt hx2
      go_wp2_with fail
      first | exact hfin.out | (go_end0; exact hfin.out)
    · have hfin := Lib.hid (F.out lackE _ (Post.after r1.out k1.out l1.out (Post.gave g2 t2 k2 l2) (Nat.le_refl 2)))
      clear H2 F t2 k2 l2 g2 k1 l1 r1
      unfold lackE at hfin ⊢
      go_wp2_with fail
      first | exact hfin.out | exact ⟨rfl, hfin.out⟩
  · have hfin := Lib.hid (F.out lackE _ (Post.gave g1 t1 k1 (Nat.le_trans l1 (Nat.le_succ _))))
    clear H1 F t1 k1 l1 g1
    unfold lackE at hfin ⊢
    go_wp2_with fail
    first | exact hfin.out | exact ⟨rfl, hfin.out⟩
end
end Go.Proofs.YtknlbmjncginnaaGreatDoor
namespace Go.Proofs.YtknlbmjncginnaaGreatDoor
open Go.RowKit Go.Shelf
set_option maxRecDepth 100000
set_option maxHeartbeats 1000000
set_option linter.unusedVariables false

section
variable {K : Cx} {z : Zs} {s : Ts} {w : World}
def idleS (s : Ts) (k : Nat) : Ts := { s with l := s.l ++ List.replicate k (0, 0, 0) }
theorem Ran.idles (s : Ts) : ∀ k, Ran (M.idles k) s () (idleS s k)
  | 0 => by unfold idleS; rw [List.replicate_zero, List.append_nil]; exact Ran.pure () s
  | k + 1 => by
    have h := Ran.bind (k := fun _ => M.idles k) (Ran.idle s) (Ran.idles { s with l := s.l ++ [(0, 0, 0)] } k)
    unfold idleS at h ⊢
    dsimp only at h
    rw [List.append_assoc, List.singleton_append, ← List.replicate_succ] at h
    exact h
theorem idleS_step (s : Ts) (k : Nat) : { idleS s k with l := (idleS s k).l ++ [(0, 0, 0)] } = idleS s (k + 1) := by
  unfold idleS
  dsimp only
  rw [List.append_assoc, ← List.replicate_succ']
theorem idles_any (n : Int) (k : Nat) (hk : n.toNat = k) (h : Tk K z s w) (hl : s.l.length + k ≤ 100) :
    Calls Tryz.prog 91 #[.pointer (some ⟨K.b, 0, none⟩), .int .i64 n] w fun e w' => e = .returned (.tuple #[]) ∧ Tk K z (idleS s k) w' ∧ Kp K w w' := by
  have h0 : Tk K z (idleS s 0) w := by unfold idleS; rw [List.replicate_zero, List.append_nil]; exact h
  have HS : ∀ i, i < k → ∀ W, Tk K z (idleS s i) W → ∃ la L lc gg cap w1, W.cell? ⟨K.b, 8, none⟩ = some (.slice la L lc) ∧
    (Builtin.append_ #[26, 26] 26 #[.slice la L lc, .slice (some ⟨W.heap.size, 0, none⟩) 1 1]).run Tryz.prog (W.alloc (.cells #[.int .u8 0, .int .u32 0, .int .u8 0] 42)) = .ok (.slice (some ⟨gg, 0, none⟩) (L + 1) cap) w1 ∧
    (∃ u, w1.cell? ⟨K.b, 8, none⟩ = some u) ∧ w1.frozen? ⟨K.b, 8, none⟩ = false ∧ Hid (Tk K z (idleS s (i + 1)) (w1.setCell ⟨K.b, 8, none⟩ (.slice (some ⟨gg, 0, none⟩) (L + 1) cap)) ∧ Kp K W (w1.setCell ⟨K.b, 8, none⟩ (.slice (some ⟨gg, 0, none⟩) (L + 1) cap))) := by
    intro i hi W hW
    obtain ⟨la, lc, gg, cap, w1, h1, h2, h3, h4, h5⟩ := hW.push 0 0 0 (by unfold idleS; simp; omega)
    rw [idleS_step] at h5
    exact ⟨la, _, lc, gg, cap, w1, h1, h2, h3, h4, h5⟩
  have hlt : ∀ i : Nat, i < k → decide ((i : Int) < n) = true := fun i hi => decide_eq_true (by omega)
  have hge : decide ((k : Int) < n) = false := decide_eq_false (by omega)
  have hk100 : k ≤ 100 := by omega
  clear h hl
  replace HS := Lib.hid HS
  replace hlt := Lib.hid hlt
  replace hge := Lib.hid hge
  replace hk := Lib.hid hk
  go_enter Tryz.func91, Tryz.ntmps91
  go_wp2_with fail
  go_loopw [5] (fun s5 wr => ∃ i : Nat, i ≤ k ∧ s5 = .int .i64 i ∧ Tk K z (idleS s i) wr ∧ Kp K w wr) (fun s5 _ => k - (intOf s5).toNat)
  case atStart => exact ⟨0, Nat.zero_le _, rfl, h0, Kp.refl _ _⟩
  case round =>
    obtain ⟨i, hi, rfl, hx, hkp⟩ := hrel
    by_cases hc : i < k
    · have t1 := hlt.out i hc
      obtain ⟨la, L, lc, gg, cap, w1, c8, hr, ⟨u, d8⟩, f8, hh⟩ := HS.out i hc wr hx
      have hb : i ≤ 100000000 ∨ True := .inr trivial
      have hkk := hk.out
      have hwr : IntKind.i64.wrap ((i : Int) + 1) = (i : Int) + 1 ∨ True := .inr trivial
      replace hkp := Lib.hid hkp
      clear HS hlt hge h0 hx hkk hb hwr
      go_wp2_with (at_builtin; refine wpList_append_ran rfl _ _ 26 rfl _ _ _ w1 rfl rfl hr ?_)
      go_roundw
      case rel => exact ⟨i + 1, hc, by go_num, hh.out.1, hkp.out.trans hh.out.2⟩
      case measure => simp [intOf]; omega
    · obtain rfl : i = k := by omega
      have t1 := hge.out
      clear HS hlt hge h0
      go_wp2_with fail
      go_end0
      exact ⟨rfl, hx, hkp⟩
/-- Y above A. -/
def yaR (r : Rp) : Nat := r.Y * 256 + r.A
theorem yaR_lt {r : Rp} (h : r.Ok) : yaR r < 65536 := by have := h.A; have := h.Y; unfold yaR; omega
theorem ya_any (h : Tk K z s w) :
    Calls Tryz.prog 202 #[.pointer (some ⟨K.b, 0, none⟩)] w fun e w' => e = .returned (.int .u16 (yaR s.r : Nat)) ∧ ∃ q, w' = w.drewN q := by
  obtain ⟨⟨rA, rX, rY, rS, rP, rPc, rH⟩, l, q⟩ := s
  have c0 := h.look.1.1
  have c2 := h.look.1.2.2.1
  have hA := h.ok.A
  have hY := h.ok.Y
  dsimp only at c0 c2 hA hY
  have e1 : IntKind.u16.wrap (rA : Int) = (rA : Int) := by simp only [IntKind.wrap_u16]; omega
  have e2 : IntKind.u16.wrap (rY : Int) = (rY : Int) := by simp only [IntKind.wrap_u16]; omega
  have eo : bits .or .u16 ((rY : Int) * 256) (rA : Int) = ((rY * 256 + rA : Nat) : Int) := by
    rw [show (rY : Int) * 256 = ((rY * 256 : Nat) : Int) from by omega, u16_or_nat (rY * 256) rA (by omega) (by omega), show rY * 256 ||| rA = rY * 256 + rA from by rw [show rY * 256 = rY <<< 8 from (Nat.shiftLeft_eq rY 8).symm, ← Nat.shiftLeft_add_eq_or_of_lt (show rA < 2 ^ 8 from hA)]]
  have e3 : IntKind.u16.wrap ((rY : Int) * 256) = (rY : Int) * 256 := by simp only [IntKind.wrap_u16]; omega
  unfold yaR
  dsimp only
  generalize rY * 256 + rA = v at *
  clear h
  go_enter Tryz.func202, Tryz.ntmps202
  go_upto_region 1 with (fail)
  go_quiet (fail)
  go_wp2_with fail
  go_ret
  exact ⟨rfl, _, rfl⟩
/-- A word laid into Y and A. -/
def layR (v : Nat) (r : Rp) : Rp := { r with A := v % 256, Y := v / 256 }
theorem layYA_any (v : Nat) (h : Tk K z s w) (hv : v < 65536) :
    Calls Tryz.prog 203 #[.pointer (some ⟨K.b, 0, none⟩), .int .u16 v] w (Turns K z s w (layR v s.r) (.tuple #[])) := by
  obtain ⟨⟨rA, rX, rY, rS, rP, rPc, rH⟩, l, q⟩ := s
  have c0 := h.look.1.1
  have c2 := h.look.1.2.2.1
  have f0 := h.look.2.2 0
  have f2 := h.look.2.2 2
  have e1 : IntKind.u8.wrap (v : Int) = ((v % 256 : Nat) : Int) := by simp only [IntKind.wrap_u8]; omega
  have e2 : IntKind.u8.wrap ((v : Int) / 256) = ((v / 256 : Nat) : Int) := by simp only [IntKind.wrap_u8]; omega
  have t1 := h.toA (v % 256) (Nat.mod_lt _ (by decide))
  have t2 := t1.toY (v / 256) (by omega)
  have hfin := Lib.hid (And.intro t2 (((Kp.refl K w).set 0 (.int .u8 (v % 256 : Nat))).set 2 (.int .u8 (v / 256 : Nat))))
  unfold Turns layR
  dsimp only at *
  generalize v % 256 = lo at *
  generalize v / 256 = hi at *
  clear h t1 t2 hv
  go_enter Tryz.func203, Tryz.ntmps203
  go_wp2_with fail
  go_end0
  exact ⟨rfl, hfin.out⟩
/-- Two bytes and the carry together. -/
def sumV (r : Rp) (a b : Nat) : Nat := (a + b + r.P % 2) % 256
def sumR (a b : Nat) (r : Rp) : Rp :=
  putR 64 ((decide (a &&& 128 = b &&& 128)) && !(decide (a &&& 128 = sumV r a b &&& 128))) (putR 8 (decide (16 ≤ a % 16 + b % 16 + r.P % 2)) (putR 1 (decide (256 ≤ a + b + r.P % 2)) r))
theorem sum_any (a b : Nat) (h : Tk K z s w) (ha : a < 256) (hb : b < 256) :
    Calls Tryz.prog 206 #[.pointer (some ⟨K.b, 0, none⟩), .int .u8 a, .int .u8 b] w (Turns K z s w (sumR a b s.r) (.int .u8 (sumV s.r a b : Nat))) := by
  obtain ⟨⟨rA, rX, rY, rS, rP, rPc, rH⟩, l, q⟩ := s
  have c4 := h.look.1.2.2.2.2
  have hP := h.ok.P
  dsimp only at c4 hP
  have e1 : bits .and .u8 (rP : Int) 1 = ((rP % 2 : Nat) : Int) := (u8_and_nat rP 1 hP (by decide)).trans (by rw [Nat.and_one_is_mod])
  have ev : ((a : Int) + b + ((rP % 2 : Nat) : Int)) % 256 = (((a + b + rP % 2) % 256 : Nat) : Int) := by omega
  have hc : rP % 2 < 2 := Nat.mod_lt _ (by decide)
  have hv : (a + b + rP % 2) % 256 < 256 := Nat.mod_lt _ (by decide)
  have a1 : bits .and .u8 (a : Int) 15 = ((a % 16 : Nat) : Int) := (u8_and_nat a 15 ha (by decide)).trans (by rw [show (15 : Nat) = 2 ^ 4 - 1 from rfl, Nat.and_two_pow_sub_one_eq_mod])
  have b1 : bits .and .u8 (b : Int) 15 = ((b % 16 : Nat) : Int) := (u8_and_nat b 15 hb (by decide)).trans (by rw [show (15 : Nat) = 2 ^ 4 - 1 from rfl, Nat.and_two_pow_sub_one_eq_mod])
  have a2 : bits .and .u8 (a : Int) 128 = ((a &&& 128 : Nat) : Int) := u8_and_nat a 128 ha (by decide)
  have b2 : bits .and .u8 (b : Int) 128 = ((b &&& 128 : Nat) : Int) := u8_and_nat b 128 hb (by decide)
  have v2 : bits .and .u8 (((a + b + rP % 2) % 256 : Nat) : Int) 128 = (((a + b + rP % 2) % 256 &&& 128 : Nat) : Int) := u8_and_nat _ 128 hv (by decide)
  have H1 := put_any 1 1 rfl (decide (256 ≤ a + b + rP % 2)) h (by decide)
  have H2 := fun (r : Rp) (W : World) (hW : Tk K z ⟨r, l, q⟩ W) => put_any 8 8 rfl (decide (16 ≤ a % 16 + b % 16 + rP % 2)) hW (by decide)
  have H3 := fun (r : Rp) (W : World) (hW : Tk K z ⟨r, l, q⟩ W) => put_any 64 64 rfl ((decide (a &&& 128 = b &&& 128)) && !(decide (a &&& 128 = (a + b + rP % 2) % 256 &&& 128))) hW (by decide)
  unfold Turns at H1 H2 H3 ⊢
  unfold sumR sumV
  dsimp only at *
  have d1 : decide (256 ≤ (a : Int) + b + ((rP % 2 : Nat) : Int)) = decide (256 ≤ a + b + rP % 2) := by rw [Bool.eq_iff_iff]; simp only [decide_eq_true_eq]; omega
  have d2 : decide (16 ≤ ((a % 16 : Nat) : Int) + ((b % 16 : Nat) : Int) + ((rP % 2 : Nat) : Int)) = decide (16 ≤ a % 16 + b % 16 + rP % 2) := by rw [Bool.eq_iff_iff]; simp only [decide_eq_true_eq]; omega
  have d3 : (((a &&& 128 : Nat) : Int) == ((b &&& 128 : Nat) : Int)) = decide (a &&& 128 = b &&& 128) := by rw [Bool.eq_iff_iff]; simp only [beq_iff_eq, decide_eq_true_eq]; omega
  have d4 : (((a &&& 128 : Nat) : Int) != (((a + b + rP % 2) % 256 &&& 128 : Nat) : Int)) = !(decide (a &&& 128 = (a + b + rP % 2) % 256 &&& 128)) := by rw [Bool.eq_iff_iff]; simp only [bne_iff_ne, Bool.not_eq_true', decide_eq_false_iff_not]; omega
  have ha16 : a % 16 < 16 := Nat.mod_lt _ (by decide)
  have hb16 : b % 16 < 16 := Nat.mod_lt _ (by decide)
  generalize decide (256 ≤ a + b + rP % 2) = o1 at *
  generalize decide (16 ≤ a % 16 + b % 16 + rP % 2) = o2 at *
  generalize decide (a &&& 128 = (a + b + rP % 2) % 256 &&& 128) = o4 at *
  generalize decide (a &&& 128 = b &&& 128) = o3 at *
  generalize (a + b + rP % 2) % 256 &&& 128 = v7 at *
  generalize (a + b + rP % 2) % 256 = v at *
  generalize a &&& 128 = a7 at *
  generalize b &&& 128 = b7 at *
  generalize a % 16 = a4 at *
  generalize b % 16 = b4 at *
  generalize rP % 2 = c at *
  replace H1 := Lib.hid H1
  replace H2 := Lib.hid H2
  replace H3 := Lib.hid H3
  clear h
  go_enter Tryz.func206, Tryz.ntmps206
  go_wp2_with fail
  with_reducible refine H1.out.mono ?_
  rintro e w1 ⟨rfl, t1, k1⟩
  have H4 := Lib.hid (H2.out _ _ t1)
  replace k1 := Lib.hid k1
  clear H1 H2 t1
  go_wp2_with fail
  with_reducible refine H4.out.mono ?_
  rintro e w2 ⟨rfl, t2, k2⟩
  have H5 := Lib.hid (H3.out _ _ t2)
  replace k2 := Lib.hid (k1.out.trans k2)
  clear H4 H3 t2 k1
  cases o3
  · replace H5 := H5.out
    rw [Bool.false_and] at H5
    replace H5 := Lib.hid H5
    go_wp2_with fail
    with_reducible refine H5.out.mono ?_
    rintro e w3 ⟨rfl, t3, k3⟩
    have hfin := Lib.hid (And.intro t3 (k2.out.trans k3))
    clear H5 k2 k3 t3
    go_wp2_with fail
    go_ret
    exact ⟨rfl, hfin.out⟩
  · replace H5 := H5.out
    rw [Bool.true_and] at H5
    replace H5 := Lib.hid H5
    go_wp2_with fail
    with_reducible refine H5.out.mono ?_
    rintro e w3 ⟨rfl, t3, k3⟩
    have hfin := Lib.hid (And.intro t3 (k2.out.trans k3))
    clear H5 k2 k3 t3
    go_wp2_with fail
    go_ret
    exact ⟨rfl, hfin.out⟩
end
end Go.Proofs.YtknlbmjncginnaaGreatDoor
