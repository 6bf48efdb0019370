/-
  Worlds in which only some blocks are others.
-/
import Derived.Test.YtbdhdedlemndeaaDoorKSav
namespace Go.Proofs.YtbdhdedlemndeaaDoor
open Go.RowKit Go.Shelf
set_option linter.unusedVariables false

/-- Only blocks of S, and new ones, are others. -/
structure Fr (S : Nat → Prop) (w w' : World) : Prop where
  os : w'.os = w.os
  tape : w'.tape = w.tape
  output : w'.output = w.output
  size : w.heap.size ≤ w'.heap.size
  block : ∀ k, k < w.heap.size → ¬ S k → w'.heap[k]? = w.heap[k]?
section
variable {S T : Nat → Prop} {w w' w'' : World}
theorem Fr.refl (S : Nat → Prop) (w : World) : Fr S w w := ⟨rfl, rfl, rfl, Nat.le_refl _, fun _ _ _ => rfl⟩
theorem Fr.trans (h : Fr S w w') (k : Fr S w' w'') : Fr S w w'' := ⟨k.os.trans h.os, k.tape.trans h.tape, k.output.trans h.output, Nat.le_trans h.size k.size, fun x hx hS => (k.block x (Nat.lt_of_lt_of_le hx h.size) hS).trans (h.block x hx hS)⟩
theorem Fr.trans2 (h : Fr S w w') (k : Fr T w' w'') (hT : ∀ x, x < w.heap.size → T x → S x) : Fr S w w'' := ⟨k.os.trans h.os, k.tape.trans h.tape, k.output.trans h.output, Nat.le_trans h.size k.size, fun x hx hS => (k.block x (Nat.lt_of_lt_of_le hx h.size) fun ht => hS (hT x hx ht)).trans (h.block x hx hS)⟩
theorem Fr.mono (h : Fr S w w') (hST : ∀ k, k < w.heap.size → S k → T k) : Fr T w w' := ⟨h.os, h.tape, h.output, h.size, fun x hx hS => h.block x hx fun hs => hS (hST x hx hs)⟩
theorem Fr.of (h : Below w.heap.size w w') : Fr S w w' := ⟨h.os, h.tape, h.output, h.size, fun k hk _ => h.block k hk⟩
theorem Fr.grown {R : Nat} (h : w.grownBy w' (some R)) : Fr (fun k => k = R) w w' := ⟨h.os, h.tape, h.output, h.size, fun k hk hS => h.block k hk fun e => hS (by injection e)⟩
theorem Fr.below {B : Nat} (h : Fr S w w') (hB : B ≤ w.heap.size) (hS : ∀ k, S k → B ≤ k) : Below B w w' := ⟨h.os, h.tape, h.output, h.size, fun k hk => h.block k (Nat.lt_of_lt_of_le hk hB) fun hs => absurd (hS k hs) (Nat.not_le_of_lt hk)⟩
theorem Fr.setCell (h : Fr S w w') {p : Addr} (hp : S p.block) (u : Value) : Fr S w (w'.setCell p u) :=
  ⟨by simpa [World.setCell] using h.os, by simpa [World.setCell] using h.tape, by simpa [World.setCell] using h.output, by simpa [World.setCell] using h.size, fun k hk hS => by
    have hne : k ≠ p.block := fun e => hS (e ▸ hp)
    rw [← h.block k hk hS]
    exact Below.heap_setCell w' p u k hne⟩
theorem Fr.whole {x : Nat} {t : TypeId} {cs : Array Value} (h : Fr S w w') (hw : Whole w x t cs) (hx : ¬ S x) : Whole w' x t cs := (h.block x hw.lt hx).trans hw
theorem Fr.tq {x : Nat} {f : Nat → Nat} (h : Fr S w w') (hw : Tq w x f) (hx : ¬ S x) : Tq w' x f := hw.kept (h.block x hw.lt hx)
theorem Fr.pd (h : Fr S w w') (hw : Pd w) (hx : ¬ S 0) : Pd w' := hw.kept (h.block 0 hw.lt hx) h.size
theorem Fr.row {a : Option Addr} {n : Nat} {f : Nat → Nat} (h : Fr S w w') (hR : Row w a n f) (hS : ∀ p, a = some p → n ≠ 0 → ¬ S p.block) : Row w' a n f := by
  rcases hR with ⟨h0, h1 | ⟨b, o, rfl, hlt, hc⟩⟩
  · exact ⟨h0, .inl h1⟩
  · refine ⟨h0, ?_⟩
    by_cases hn : n = 0
    · exact .inl hn
    · exact .inr ⟨b, o, rfl, Nat.lt_of_lt_of_le hlt h.size, fun i hi => (World.cell?_of_block (a := ⟨b, o + i, none⟩) (h.block b hlt (hS ⟨b, o, none⟩ rfl hn))).trans (hc i hi)⟩
theorem Fr.rd {b : Nat} {v : Value} {s : RS} (h : Fr S w w') (hr : Rd w b v s) (hb : ¬ S b) (ho : ∀ x, v.ownBlock = some x → ¬ S x) : Rd w' b v s :=
  hr.kept (h.block b hr.head.lt hb) (fun x hx => h.block x (hr.body.lt x hx) (ho x hx))
end
theorem Rd.whole {w : World} {b x : Nat} {v : Value} {s : RS} {t : TypeId} {cs : Array Value} (h : Rd w b v s) (hx : Whole w x t cs) (h1 : 86 ≠ t) (h2 : 5 ≠ t) : x ≠ b ∧ v.ownBlock ≠ some x := by
  obtain ⟨ds, hd, _⟩ := h.head.all
  exact ⟨fun e => kwhole_apart hd hx h1 e.symm, owns_apart h.body hx h2⟩
end Go.Proofs.YtbdhdedlemndeaaDoor
