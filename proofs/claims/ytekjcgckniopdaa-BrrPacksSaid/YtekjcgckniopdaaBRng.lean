/-
  A range over a function whose iterator tells the caller's body of what it is handed: the iterator's contract pays, at each yield, what the body may lean on.
-/
import Derived.Test.YtekjcgckniopdaaBDecs
import Derived.RangeFuncNested
import Derived.RangeFuncBound
import Derived.RangeFuncCalls
import Derived.RangeFuncLeaves
import Derived.Shelf.RegionOpen
import Derived.OwnWalkIn
import Derived.TacticsInMore
import Derived.LoopNIn
import Derived.LoopIn
namespace Go.Proofs.Ytekjcgckniopdaa
open Go.RowKit Go.Shelf
set_option linter.unusedVariables false

/-- The contract. -/
def SeqV {α : Type} (F : Fence) (d : Nat) (gf : Nat) (lb : Array Value) (encs : α → Array Value) (Vd : List α → α → World → Prop) (Kp : World → World → Prop) (S Sp : List α → Prop) (w : World) : Prop :=
  ∀ (l : Nat) (J Jx : List α → World → Prop) (W : World), Below w.heap.size w W → OwnFrom W.heap.size J → OwnFrom W.heap.size Jx →
    (∀ pre x V, J pre V → Vd pre x V → YieldAt F (d - 1) Try.prog l (encs x) V fun e V' => (e = .returned (.bool true) ∧ J (pre ++ [x]) V' ∧ Kp V V') ∨ (e = .returned (.bool false) ∧ Jx (pre ++ [x]) V')) →
    J [] W → CallsIn F d Try.prog gf (#[.func (.yield l) #[] #[]] ++ lb) W fun e V => (∃ v, e = .returned v) ∧ ((∃ xs, S xs ∧ J xs V) ∨ ∃ pre, Sp pre ∧ Jx pre V)

section law
variable {F : Fence} {d : Nat}
/-- The loop's record and the block of its rounds' deferred calls, as they stand at blocks D + 1 and D. -/
def Rec (f : FuncId) (ts : Array Value) (ps : Array Tmp) (assign body : Code) (D : Nat) (st : LoopState) (pe : Option Code) (W : World) : Prop :=
  W.heap[D + 1]? = some (.loop { state := st, pending := pe, fn := f, tmps := ts, params := ps, assign := assign, body := body, defers := D }) ∧ W.heap[D]? = some (.deferred (some []))
theorem Rec.lt {f : FuncId} {ts : Array Value} {ps : Array Tmp} {assign body : Code} {D : Nat} {st : LoopState} {pe : Option Code} {W : World} (h : Rec f ts ps assign body D st pe W) : D + 1 < W.heap.size := (Array.getElem?_eq_some_iff.1 h.1).1
theorem Rec.grown {f : FuncId} {ts : Array Value} {ps : Array Tmp} {assign body : Code} {D : Nat} {st : LoopState} {pe : Option Code} {W W' : World} {row : Option Nat} (h : Rec f ts ps assign body D st pe W) (g : W.grownBy W' row) (hr : ∀ r, row = some r → D + 2 ≤ r) : Rec f ts ps assign body D st pe W' := by
  have hl := h.lt
  exact ⟨(g.block _ hl (fun e => by have := hr _ e.symm; omega)).trans h.1, (g.block _ (by omega) (fun e => by have := hr _ e.symm; omega)).trans h.2⟩
theorem Rec.kept {f : FuncId} {ts : Array Value} {ps : Array Tmp} {assign body : Code} {D : Nat} {st : LoopState} {pe : Option Code} {W W' : World} (h : Rec f ts ps assign body D st pe W) (k : KeepsOthers W W') : Rec f ts ps assign body D st pe W' :=
  ⟨k.same _ _ h.1 rfl, k.same _ _ h.2 rfl⟩
theorem Rec.turn {f : FuncId} {ts : Array Value} {ps : Array Tmp} {assign body : Code} {D : Nat} {st : LoopState} {pe : Option Code} {W : World} (h : Rec f ts ps assign body D st pe W) (st' : LoopState) (pe' : Option Code) :
    Rec f ts ps assign body D st' pe' (W.putObj (D + 1) (.loop { state := st', pending := pe', fn := f, tmps := ts, params := ps, assign := assign, body := body, defers := D })) :=
  ⟨World.putObj_heap_same h.lt, (World.putObj_heap_other (by omega)).trans h.2⟩

theorem range_told {α : Type} {g : Operand} {ps : Array Tmp} {assign body : Code} {Q : Exit → Act → World → Prop} {a : Act} {w : World}
    (hro : F.round = none) (hd : 1 ≤ d) {gf : Nat} {lb : Array Value} (hg : a.eval g = .func (.func gf) #[] lb) (hF : F.fn gf) (eg : ∀ args w, (callFunc gf args).run Try.prog w = .ok (.enter gf args) w)
    {encs : α → Array Value} {Vd : List α → α → World → Prop} {Kp : World → World → Prop} {S Sp : List α → Prop} (hseq : SeqV F (d - 1) gf lb encs Vd Kp S Sp w)
    (hKt : ∀ {A B C : World}, Kp A B → Kp B C → Kp A C) (hKb : ∀ (W : World) (l : Nat) (o o' : Obj), W.heap[l]? = some o → o.isCells = false → Kp W (W.putObj l o')) (hVb : ∀ pre x (W : World) (l : Nat) (o o' : Obj), W.heap[l]? = some o → o.isCells = false → Vd pre x W → Vd pre x (W.putObj l o')) (hps : ∀ x, (encs x).size = ps.size)
    (I : List α → World → Prop) (Ix : Code → List α → World → Prop) (hI : OwnFrom w.heap.size I) (hIx : ∀ c, OwnFrom w.heap.size (Ix c)) (h0 : I [] w) (a₁ : α → Act)
    (hassign : ∀ (l : Nat) (pre : List α) (x : α) (W : World) (K : Act → World → Prop), Vd pre x W → K (a₁ x) W → assign.wpIn (F.inRound l) (d - 1 - 1) Try.prog (Exit.then K (fun _ _ _ => False)) { tmps := (ps.zip (encs x)).foldl (fun t (p, v) => t.setIfInBounds p v) a.tmps, defers := [] } W)
    (hbody : ∀ (l : Nat) (pre : List α) (x : α) (W : World), I pre W → Vd pre x W → body.wpIn (F.inRound l) (d - 1 - 1) Try.prog (ownPostK Kp I Ix (pre ++ [x]) W) (a₁ x) W)
    (hdone : ∀ (D : Nat) (xs : List α) (W : World), w.heap.size ≤ D → S xs → I xs W → W.heap[D]? = some (.deferred (some [])) → Q .normal { a with defers := { target := .collected D, args := #[] } :: a.defers } W)
    (hstop : ∀ (D : Nat) (c : Code) (pre : List α) (W : World), w.heap.size ≤ D → Sp pre → Ix c pre W → W.heap[D]? = some (.deferred (some [])) → c.wpIn F d Try.prog Q { a with defers := { target := .collected D, args := #[] } :: a.defers } W) :
    (Code.rangeFunc g ps assign body).wpIn F d Try.prog Q a w := by
  refine wpIn_rangeFunc fun f hf => ?_
  rw [hro]
  have hR1 : Rec f a.tmps ps assign body w.heap.size .ready none ((w.alloc (.deferred (some []))).alloc (.loop { state := .ready, pending := none, fn := f, tmps := a.tmps, params := ps, assign := assign, body := body, defers := w.heap.size })) := by
    refine ⟨?_, (Below.heap_alloc _ _ _ (by simp)).trans (World.alloc_heap_new w _)⟩
    have := World.alloc_heap_new (w.alloc (.deferred (some []))) (.loop { state := .ready, pending := none, fn := f, tmps := a.tmps, params := ps, assign := assign, body := body, defers := w.heap.size })
    rwa [World.size_alloc] at this
  have hI1 := hI.alloc (.loop { state := .ready, pending := none, fn := f, tmps := a.tmps, params := ps, assign := assign, body := body, defers := w.heap.size }) (hI.alloc (.deferred (some [])) h0)
  have hB1 : Below w.heap.size w ((w.alloc (.deferred (some []))).alloc (.loop { state := .ready, pending := none, fn := f, tmps := a.tmps, params := ps, assign := assign, body := body, defers := w.heap.size })) := ((Below.refl _ w).alloc (Nat.le_refl _) _).alloc (by simp) _
  have hen := run_enterLoop_outer (P := Try.prog) (w := w) f a.tmps ps assign body
  have hsz : ((w.alloc (.deferred (some []))).alloc (.loop { state := .ready, pending := none, fn := f, tmps := a.tmps, params := ps, assign := assign, body := body, defers := w.heap.size })).heap.size = w.heap.size + 2 := by simp
  generalize (w.alloc (.deferred (some []))).alloc (.loop { state := .ready, pending := none, fn := f, tmps := a.tmps, params := ps, assign := assign, body := body, defers := w.heap.size }) = W1 at *
  refine ⟨w.heap.size + 1, [{ target := .collected w.heap.size, args := #[] }], W1, { target := .fn (.func gf) lb, args := #[.func (.yield (w.heap.size + 1)) #[] #[]] }, W1, gf,
    #[.func (.yield (w.heap.size + 1)) #[] #[]] ++ lb, W1, hen, ?_, ?_, ?_, fun _ => hd, ?_⟩
  · simp only [resolve, hg]
    simp [go_sem]
  · intro f' hf'
    simp [Target.leads] at hf'
    exact hf' ▸ hF
  · simp [invoke, go_sem, eg]
  have up : ∀ {row : Option Nat} {A : World}, (∀ r, row = some r → W1.heap.size ≤ r ∧ ∃ o : Obj, A.heap[r]? = some o ∧ o.isCells = false) → (∀ r, row = some r → w.heap.size ≤ r ∧ ∃ o : Obj, A.heap[r]? = some o ∧ o.isCells = false) := fun h r e => ⟨by have := (h r e).1; omega, (h r e).2⟩
  refine (hseq (w.heap.size + 1) (fun pre W => I pre W ∧ Rec f a.tmps ps assign body w.heap.size .ready none W) (fun pre W => ∃ c, Ix c pre W ∧ Rec f a.tmps ps assign body w.heap.size .done (some c) W) W1 hB1
    (fun s A B row hs hg' hr => ⟨hI s A B row hs.1 hg' (up hr), hs.2.grown hg' (fun r e => by have := (hr r e).1; omega)⟩)
    (fun s A B row hs hg' hr => by
      obtain ⟨c, hc, hk⟩ := hs
      exact ⟨c, hIx c s A B row hc hg' (up hr), hk.grown hg' (fun r e => by have := (hr r e).1; omega)⟩) ?_ ⟨hI1, hR1⟩).mono ?_
  · rintro pre x W ⟨hi, hk⟩ hvd
    refine ⟨f, _, assign, body, run_yield (P := Try.prog) (args := encs x) hk.1 (hps x), roundIn_of_wpIn hf (hassign _ pre x W _ hvd ⟨_, run_beginRound hk.1 rfl, ?_⟩)⟩
    have hk2 := hk.turn .busy none
    have hi2 := hI.putObj (.loop { state := .busy, pending := none, fn := f, tmps := a.tmps, params := ps, assign := assign, body := body, defers := w.heap.size }) hi (Nat.le_succ _) hk.1 rfl
    have hp2 := hKb W _ _ (.loop { state := .busy, pending := none, fn := f, tmps := a.tmps, params := ps, assign := assign, body := body, defers := w.heap.size }) hk.1 rfl
    refine wpIn_mono (hbody _ pre x _ hi2 (hVb _ _ _ _ _ _ hk.1 rfl hvd)) ?_
    rintro e a3 W3 hp
    cases e with
    | normal =>
      have k3 := hk2.kept hp.1
      exact ⟨_, _, run_endRound none k3.1, .inl ⟨rfl, ⟨hI.putObj _ hp.2.2 (Nat.le_succ _) k3.1 rfl, k3.turn .ready none⟩, hKt (hKt hp2 hp.2.1) (hKb _ _ _ _ k3.1 rfl)⟩⟩
    | ret =>
      have k3 := hk2.kept hp.1
      exact ⟨_, _, run_endRound (some .ret) k3.1, .inr ⟨rfl, _, (hIx _).putObj _ hp.2 (Nat.le_succ _) k3.1 rfl, k3.turn .done (some .ret)⟩⟩
    | exit id =>
      have k3 := hk2.kept hp.1
      exact ⟨_, _, run_endRound (some (.exit id)) k3.1, .inr ⟨rfl, _, (hIx _).putObj _ hp.2 (Nat.le_succ _) k3.1 rfl, k3.turn .done (some (.exit id))⟩⟩
    | goto t =>
      have k3 := hk2.kept hp.1
      exact ⟨_, _, run_endRound (some (.goto t)) k3.1, .inr ⟨rfl, _, (hIx _).putObj _ hp.2 (Nat.le_succ _) k3.1 rfl, k3.turn .done (some (.goto t))⟩⟩
    | panic c => exact hp.elim
    | outgrown => exact hp.elim
  · rintro e W2 ⟨⟨v, rfl⟩, (⟨xs, hS, hi, hk⟩ | ⟨pre, hSp, c, hi, hk⟩)⟩
    · exact ⟨none, _, run_endLoop hk.1 (by simp), hdone _ xs _ (Nat.le_refl _) hS (hI.putObj _ hi (Nat.le_succ _) hk.1 rfl) ((World.putObj_heap_other (by omega)).trans hk.2)⟩
    · exact ⟨some c, _, run_endLoop hk.1 (by simp), hstop _ c pre _ (Nat.le_refl _) hSp ((hIx c).putObj _ hi (Nat.le_succ _) hk.1 rfl) ((World.putObj_heap_other (by omega)).trans hk.2)⟩
end law
end Go.Proofs.Ytekjcgckniopdaa
