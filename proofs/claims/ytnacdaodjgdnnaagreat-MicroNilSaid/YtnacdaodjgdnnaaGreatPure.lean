/-
  A course as it is walked: plain functions, and what a longer row of bytes changes.
-/
import Derived.Test.YtnacdaodjgdnnaaGreatDir
namespace Go.Proofs.YtnacdaodjgdnnaaGreat
open Go.RowKit Go.Shelf
set_option linter.unusedVariables false

/-- A course as it is walked: the registers, how many bytes are still to be seen and which, the accesses (kind, place), whether it has stopped. -/
structure Ws where
  r : Rg
  n : Nat
  f : Nat → Nat
  l : List (Nat × Nat)
  st : Bool
abbrev M (α : Type) : Type := Ws → α × Ws
def pureM {α : Type} (a : α) : M α := fun s => (a, s)
def bindM {α β : Type} (F : M α) (G : α → M β) : M β := fun s => G (F s).1 (F s).2
def Ws.put (s : Ws) (k a : Nat) : Ws := if s.st then s else { s with l := s.l ++ [(k, a)] }
def idleM : M Unit := fun s => ((), s.put 0 0)
def takeM : M Nat := fun s => if s.n = 0 then (0, { s with st := true }) else (s.f 0, { s with n := s.n - 1, f := fun i => s.f (i + 1) })
def readM (a : Nat) : M Nat := fun s => takeM (s.put 1 (a % 16777216))
def getM : M Rg := fun s => (s.r, s)
def incM : M Unit := fun s => ((), { s with r := { s.r with PC := (s.r.PC + 1) % 65536 } })
def numM (F : Nat → M Nat) : Nat → M Nat
  | 0 => pureM 0
  | k + 1 => bindM (numM F k) fun n => bindM (F k) fun v => pureM (n + v * 256 ^ k)
def fetch1M : M Nat := bindM getM fun r => bindM (readM (r.K * 65536 + r.PC)) fun v => bindM incM fun _ => pureM v
def fetchM (m : Nat) : M Nat := numM (fun _ => fetch1M) m
def direct1M (n i : Nat) : M Nat := bindM getM fun r => readM (directF r.D (n + i) r.E)
def directM (n m : Nat) : M Nat := numM (direct1M n) m
def offsetM : M Nat := bindM (fetchM 1) fun o => bindM getM fun r => bindM (if r.D % 256 ≠ 0 then idleM else pureM ()) fun _ => pureM o
def offsetByM (x : Nat) : M Nat := bindM offsetM fun o => bindM idleM fun _ => pureM (o + x)
def stackM : M Nat := bindM (fetchM 1) fun o => bindM idleM fun _ => bindM getM fun r => pureM (r.S + o)
def pageM (n : Nat) : M (Nat × Bool) := bindM getM fun r => pureM (directF r.D n r.E, true)
def dataM (n : Nat) : M Nat := bindM getM fun r => pureM (r.B * 65536 + n % 65536)
def indexedM (addr x use : Nat) : M Nat := bindM getM fun r => bindM (if use = 2 ∨ use = 3 ∨ r.P / 16 % 2 = 0 ∨ addr / 256 ≠ (addr + x) / 256 then idleM else pureM ()) fun _ => pureM (addr + x)
def acrossM (a : Nat) : M (Nat × Bool) := pureM (a % 16777216, false)
def stack1M (s i : Nat) : M Nat := readM ((s + i) % 65536)
def operandM (mode use : Nat) : M (Nat × Bool) :=
  if mode = 5 then bindM offsetM pageM else
  if mode = 6 then bindM getM fun r => bindM (offsetByM r.X) pageM else
  if mode = 7 then bindM getM fun r => bindM (offsetByM r.Y) pageM else
  if mode = 8 then bindM offsetM fun o => bindM (directM o 2) fun n => bindM (dataM n) acrossM else
  if mode = 9 then bindM offsetM fun o => bindM (directM o 3) acrossM else
  if mode = 10 then bindM getM fun r => bindM (offsetByM r.X) fun o => bindM (directM o 2) fun n => bindM (dataM n) acrossM else
  if mode = 11 then bindM offsetM fun o => bindM (directM o 2) fun n => bindM (dataM n) fun a => bindM getM fun r => bindM (indexedM a r.Y use) acrossM else
  if mode = 12 then bindM offsetM fun o => bindM (directM o 3) fun n => bindM getM fun r => acrossM (n + r.Y) else
  if mode = 13 then bindM (fetchM 2) fun n => bindM (dataM n) acrossM else
  if mode = 14 then bindM (fetchM 2) fun n => bindM (dataM n) fun a => bindM getM fun r => bindM (indexedM a r.X use) acrossM else
  if mode = 15 then bindM (fetchM 2) fun n => bindM (dataM n) fun a => bindM getM fun r => bindM (indexedM a r.Y use) acrossM else
  if mode = 16 then bindM (fetchM 3) acrossM else
  if mode = 17 then bindM (fetchM 3) fun n => bindM getM fun r => acrossM (n + r.X) else
  if mode = 21 then bindM stackM fun a => pureM (a % 65536, true) else
  if mode = 22 then bindM stackM fun a => bindM (numM (stack1M a) 2) fun n => bindM idleM fun _ => bindM (dataM n) fun d => bindM getM fun r => acrossM (d + r.Y) else
  pureM (0, false)
/-! What a longer row of bytes changes. -/
def Rel (s t : Ws) : Prop := (s.st = false ∧ t = { s with n := s.n + 1 }) ∨ (s.st = true ∧ s.n = 0 ∧ s.l <+: t.l)
def reads (l : List (Nat × Nat)) : Nat := l.countP fun x => x.1 == 1
structure Cinv (N : Nat) (s : Ws) : Prop where
  kind : ∀ x ∈ s.l, x.1 = 0 ∨ (x.1 = 1 ∧ x.2 < 16777216)
  count : reads s.l + s.n = N + (if s.st then 1 else 0)
  stop : s.st = true → s.n = 0 ∧ ∃ i a, s.l = i ++ [(1, a)]
structure Good {α : Type} (F : M α) (c : Nat) : Prop where
  mono : ∀ s t, Rel s t → Rel (F s).2 (F t).2 ∧ ((F s).2.st = false → (F s).1 = (F t).1)
  still : ∀ s, s.st = true → s.n = 0 → (F s).2.st = true ∧ (F s).2.n = 0 ∧ (F s).2.l = s.l
  grow : ∀ s, s.l <+: (F s).2.l
  inv : ∀ N s, Cinv N s → Cinv N (F s).2
  cost : ∀ s, (F s).2.l.length ≤ s.l.length + c
theorem Good.pure {α : Type} (a : α) : Good (pureM a) 0 := ⟨fun s t h => ⟨h, fun _ => rfl⟩, fun s h1 h2 => ⟨h1, h2, rfl⟩, fun s => List.prefix_refl _, fun N s h => h, fun s => Nat.le_refl _⟩
theorem Good.bind {α β : Type} {F : M α} {G : α → M β} {c d : Nat} (hF : Good F c) (hG : ∀ v, Good (G v) d) : Good (bindM F G) (c + d) := by
  refine ⟨fun s t h => ?_, fun s h1 h2 => ?_, fun s => ?_, fun N s h => ?_, fun s => ?_⟩
  · obtain ⟨h1, h2⟩ := hF.mono s t h
    show Rel (G (F s).1 (F s).2).2 (G (F t).1 (F t).2).2 ∧ ((G (F s).1 (F s).2).2.st = false → (G (F s).1 (F s).2).1 = (G (F t).1 (F t).2).1)
    cases hs : (F s).2.st with
    | false =>
      rw [← h2 hs]
      exact (hG (F s).1).mono _ _ h1
    | true =>
      rcases h1 with ⟨h1, _⟩ | ⟨_, h1, h3⟩
      · rw [hs] at h1; cases h1
      · obtain ⟨a, b, c⟩ := (hG (F s).1).still _ hs h1
        refine ⟨.inr ⟨a, b, ?_⟩, fun e => by rw [a] at e; cases e⟩
        rw [c]
        exact h3.trans ((hG (F t).1).grow _)
  · obtain ⟨a, b, c⟩ := hF.still s h1 h2
    obtain ⟨a', b', c'⟩ := (hG (F s).1).still _ a b
    exact ⟨a', b', c'.trans c⟩
  · exact (hF.grow s).trans ((hG (F s).1).grow _)
  · exact (hG (F s).1).inv N _ (hF.inv N s h)
  · have := hF.cost s
    have := (hG (F s).1).cost (F s).2
    show (G (F s).1 (F s).2).2.l.length ≤ _
    omega
theorem Good.le {α : Type} {F : M α} {c d : Nat} (h : Good F c) (hd : c ≤ d) : Good F d := ⟨h.mono, h.still, h.grow, h.inv, fun s => by have := h.cost s; omega⟩
theorem Good.ite {α : Type} {p : Prop} [Decidable p] {F G : M α} {c : Nat} (hF : Good F c) (hG : Good G c) : Good (if p then F else G) c := by
  split
  · exact hF
  · exact hG
theorem Good.get : Good getM 0 := by
  refine ⟨fun s t h => ⟨h, fun hs => ?_⟩, fun s h1 h2 => ⟨h1, h2, rfl⟩, fun s => List.prefix_refl _, fun N s h => h, fun s => Nat.le_refl _⟩
  rcases h with ⟨_, rfl⟩ | ⟨h, _⟩
  · rfl
  · have hs : s.st = false := hs
    rw [h] at hs; cases hs
theorem Good.inc : Good incM 0 := by
  refine ⟨fun s t h => ⟨?_, fun hs => rfl⟩, fun s h1 h2 => ⟨h1, h2, rfl⟩, fun s => List.prefix_refl _, fun N s h => ⟨h.kind, h.count, h.stop⟩, fun s => Nat.le_refl _⟩
  rcases h with ⟨h, rfl⟩ | ⟨h, h2, h3⟩
  · exact .inl ⟨h, rfl⟩
  · exact .inr ⟨h, h2, h3⟩
theorem Good.idle : Good idleM 1 := by
  refine ⟨fun s t h => ⟨?_, fun hs => rfl⟩, fun s h1 h2 => ?_, fun s => ?_, fun N s h => ?_, fun s => ?_⟩
  · rcases h with ⟨h, rfl⟩ | ⟨h, h2, h3⟩
    · left
      simp [idleM, Ws.put, h]
    · right
      refine ⟨by simp [idleM, Ws.put, h], by simp [idleM, Ws.put, h, h2], ?_⟩
      simp only [idleM, Ws.put, h, if_true]
      split
      · exact h3
      · exact h3.trans (List.prefix_append _ _)
  · simp [idleM, Ws.put, h1, h2]
  · simp only [idleM, Ws.put]
    split
    · exact List.prefix_refl _
    · exact List.prefix_append _ _
  · simp only [idleM, Ws.put]
    by_cases hs : s.st = true
    · rw [if_pos hs]; exact h
    · rw [if_neg hs]
      refine ⟨fun x hx => ?_, ?_, fun e => absurd e hs⟩
      · rcases List.mem_append.1 hx with hx | hx
        · exact h.kind x hx
        · rw [List.mem_singleton.1 hx]; exact .inl rfl
      · have := h.count
        simp only [reads, List.countP_append] at this ⊢
        simpa using this
  · simp only [idleM, Ws.put]
    split
    · exact Nat.le_succ _
    · simp
theorem Good.read (a : Nat) : Good (readM a) 1 := by
  have hlt : a % 16777216 < 16777216 := Nat.mod_lt _ (by decide)
  unfold readM
  generalize a % 16777216 = b at *
  refine ⟨fun s t h => ?_, fun s h1 h2 => ?_, fun s => ?_, fun N s h => ?_, fun s => ?_⟩
  · rcases h with ⟨h, rfl⟩ | ⟨h, h2, h3⟩
    · by_cases hn : s.n = 0
      · refine ⟨.inr ⟨by simp [takeM, Ws.put, h, hn], by simp [takeM, Ws.put, h, hn], ?_⟩, fun e => by simp [takeM, Ws.put, h, hn] at e⟩
        simp [takeM, Ws.put, h, hn]
      · refine ⟨.inl ⟨by simp [takeM, Ws.put, h, hn], ?_⟩, fun _ => by simp [takeM, Ws.put, h, hn]⟩
        simp [takeM, Ws.put, h, hn]
        omega
    · refine ⟨.inr ⟨by simp [takeM, Ws.put, h, h2], by simp [takeM, Ws.put, h, h2], ?_⟩, fun e => by simp [takeM, Ws.put, h, h2] at e⟩
      have e1 : (takeM (s.put 1 b)).2.l = s.l := by simp [takeM, Ws.put, h, h2]
      rw [e1]
      refine h3.trans ?_
      simp only [takeM, Ws.put]
      split <;> split <;> simp
  · simp [takeM, Ws.put, h1, h2]
  · simp only [takeM, Ws.put]
    split <;> split <;> simp
  · by_cases hs : s.st = true
    · obtain ⟨h1, h2⟩ := h.stop hs
      have e : (takeM (s.put 1 b)).2 = s := by
        cases s
        simp_all [takeM, Ws.put]
      rw [e]; exact h
    · have hc := h.count
      rw [if_neg hs] at hc
      have hk : ∀ x ∈ s.l ++ [(1, b)], x.1 = 0 ∨ (x.1 = 1 ∧ x.2 < 16777216) := fun x hx => by
        rcases List.mem_append.1 hx with hx | hx
        · exact h.kind x hx
        · rw [List.mem_singleton.1 hx]; exact .inr ⟨rfl, hlt⟩
      have hr : reads (s.l ++ [(1, b)]) = reads s.l + 1 := by simp [reads, List.countP_append]
      by_cases hn : s.n = 0
      · have e : (takeM (s.put 1 b)).2 = { s with l := s.l ++ [(1, b)], st := true } := by simp [takeM, Ws.put, hs, hn]
        rw [e]
        refine ⟨hk, ?_, fun _ => ⟨hn, _, _, rfl⟩⟩
        show reads (s.l ++ [(1, b)]) + s.n = N + 1
        rw [hr]; omega
      · have e : (takeM (s.put 1 b)).2 = { s with l := s.l ++ [(1, b)], n := s.n - 1, f := fun i => s.f (i + 1) } := by simp [takeM, Ws.put, hs, hn]
        rw [e]
        refine ⟨hk, ?_, fun e => absurd e hs⟩
        show reads (s.l ++ [(1, b)]) + (s.n - 1) = N + if s.st = true then 1 else 0
        rw [hr, if_neg hs]; omega
  · simp only [takeM, Ws.put]
    split <;> split <;> simp
theorem Good.num {F : Nat → M Nat} {c : Nat} (h : ∀ k, Good (F k) c) : ∀ m, Good (numM F m) (m * c)
  | 0 => (Good.pure 0).le (Nat.zero_le _)
  | k + 1 => (Good.bind (Good.num h k) (fun n => Good.bind (d := 0) (h k) (fun v => Good.pure _))).le (by rw [Nat.succ_mul]; omega)
theorem Good.fetch (m : Nat) : Good (fetchM m) m := by
  have h1 : Good fetch1M 1 := Good.bind (c := 0) Good.get fun r => Good.bind (c := 1) (d := 0) (Good.read _) fun v => Good.bind (c := 0) (d := 0) Good.inc fun _ => Good.pure _
  exact (Good.num (c := 1) (fun _ => h1) m).le (by omega)
theorem Good.direct (n m : Nat) : Good (directM n m) m :=
  (Good.num (c := 1) (fun i => (Good.bind (c := 0) (d := 1) Good.get fun r => Good.read _ : Good (direct1M n i) 1)) m).le (by omega)
theorem Good.offset : Good offsetM 2 :=
  Good.bind (c := 1) (d := 1) (Good.fetch 1) fun o => Good.bind (c := 0) (d := 1) Good.get fun r => Good.bind (c := 1) (d := 0) (Good.ite Good.idle ((Good.pure ()).le (by decide))) fun _ => Good.pure _
theorem Good.offsetBy (x : Nat) : Good (offsetByM x) 3 := Good.bind (c := 2) (d := 1) Good.offset fun o => Good.bind (c := 1) (d := 0) Good.idle fun _ => Good.pure _
theorem Good.stack : Good stackM 2 := Good.bind (c := 1) (d := 1) (Good.fetch 1) fun o => Good.bind (c := 1) (d := 0) Good.idle fun _ => Good.bind (c := 0) (d := 0) Good.get fun r => Good.pure _
theorem Good.page (n : Nat) : Good (pageM n) 0 := Good.bind (c := 0) (d := 0) Good.get fun r => Good.pure _
theorem Good.data (n : Nat) : Good (dataM n) 0 := Good.bind (c := 0) (d := 0) Good.get fun r => Good.pure _
theorem Good.indexed (a x u : Nat) : Good (indexedM a x u) 1 := Good.bind (c := 0) (d := 1) Good.get fun r => Good.bind (c := 1) (d := 0) (Good.ite Good.idle ((Good.pure ()).le (by decide))) fun _ => Good.pure _
theorem Good.across (a : Nat) : Good (acrossM a) 0 := Good.pure _
theorem Good.operand (mode use : Nat) : Good (operandM mode use) 8 := by
  unfold operandM
  refine Good.ite ((Good.bind Good.offset Good.page).le (by decide)) ?_
  refine Good.ite ((Good.bind Good.get fun r => Good.bind (Good.offsetBy _) Good.page).le (by decide)) ?_
  refine Good.ite ((Good.bind Good.get fun r => Good.bind (Good.offsetBy _) Good.page).le (by decide)) ?_
  refine Good.ite ((Good.bind Good.offset fun o => Good.bind (Good.direct _ 2) fun n => Good.bind (Good.data n) Good.across).le (by decide)) ?_
  refine Good.ite ((Good.bind Good.offset fun o => Good.bind (Good.direct _ 3) Good.across).le (by decide)) ?_
  refine Good.ite ((Good.bind Good.get fun r => Good.bind (Good.offsetBy _) fun o => Good.bind (Good.direct _ 2) fun n => Good.bind (Good.data n) Good.across).le (by decide)) ?_
  refine Good.ite ((Good.bind Good.offset fun o => Good.bind (Good.direct _ 2) fun n => Good.bind (Good.data n) fun a => Good.bind Good.get fun r => Good.bind (Good.indexed _ _ _) Good.across).le (by decide)) ?_
  refine Good.ite ((Good.bind Good.offset fun o => Good.bind (Good.direct _ 3) fun n => Good.bind Good.get fun r => Good.across _).le (by decide)) ?_
  refine Good.ite ((Good.bind (Good.fetch 2) fun n => Good.bind (Good.data n) Good.across).le (by decide)) ?_
  refine Good.ite ((Good.bind (Good.fetch 2) fun n => Good.bind (Good.data n) fun a => Good.bind Good.get fun r => Good.bind (Good.indexed _ _ _) Good.across).le (by decide)) ?_
  refine Good.ite ((Good.bind (Good.fetch 2) fun n => Good.bind (Good.data n) fun a => Good.bind Good.get fun r => Good.bind (Good.indexed _ _ _) Good.across).le (by decide)) ?_
  refine Good.ite ((Good.bind (Good.fetch 3) Good.across).le (by decide)) ?_
  refine Good.ite ((Good.bind (Good.fetch 3) fun n => Good.bind Good.get fun r => Good.across _).le (by decide)) ?_
  refine Good.ite ((Good.bind Good.stack fun a => Good.pure _).le (by decide)) ?_
  refine Good.ite ((Good.bind Good.stack fun a => Good.bind ((Good.num (c := 1) (fun i => (Good.read _ : Good (stack1M a i) 1)) 2)) fun n => Good.bind Good.idle fun _ => Good.bind (Good.data n) fun d => Good.bind Good.get fun r => Good.across _).le (by decide)) ?_
  exact (Good.pure _).le (by decide)
end Go.Proofs.YtnacdaodjgdnnaaGreat
