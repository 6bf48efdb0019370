/-
  Timers and ports in memory: a block of 23 bytes, as they are saved; the table of periods.
-/
import Derived.Test.YtbdhdedlemndeaaDoorKPure
namespace Go.Proofs.YtbdhdedlemndeaaDoor
open Go.RowKit Go.Shelf
set_option linter.unusedVariables false
set_option maxRecDepth 100000

/-- Block b is a Tick: its 23 bytes are f. -/
def Tq (w : World) (b : Nat) (f : Nat → Nat) : Prop := ∃ cs : Array Value, Whole w b 66 cs ∧ cs.size = 23 ∧ ∀ i, i < 23 → f i < 256 ∧ cs[i]? = some (.int .u8 (f i : Nat))
section
variable {w w' : World} {b : Nat} {f g : Nat → Nat}
theorem Tq.lt (h : Tq w b f) : b < w.heap.size := let ⟨_, h, _⟩ := h; h.lt
theorem Tq.byte (h : Tq w b f) (i : Nat) (hi : i < 23) : f i < 256 := let ⟨_, _, _, hc⟩ := h; (hc i hi).1
theorem Tq.cell (h : Tq w b f) (i : Nat) (hi : i < 23) : w.cell? ⟨b, i, none⟩ = some (.int .u8 (f i : Nat)) := by
  obtain ⟨cs, h, _, hc⟩ := h
  rw [h.cell, (hc i hi).2]
theorem Tq.free (h : Tq w b f) (i : Nat) : w.frozen? ⟨b, i, none⟩ = false := let ⟨_, h, _⟩ := h; h.free i
theorem Tq.kept (h : Tq w b f) (hk : w'.heap[b]? = w.heap[b]?) : Tq w' b f := let ⟨cs, h, r⟩ := h; ⟨cs, hk.trans h, r⟩
theorem Tq.below {B : Nat} (h : Tq w b f) (hb : Below B w w') (hg : b < B) : Tq w' b f := h.kept (hb.block b hg)
theorem Tq.only {x : Nat} (h : Tq w b f) (o : w.grownBy w' (some x)) (hne : b ≠ x) : Tq w' b f := h.kept (o.block b h.lt (fun e => hne (by injection e)))
theorem Tq.alloc (h : Tq w b f) (o : Obj) : Tq (w.alloc o) b f := let ⟨cs, h, r⟩ := h; ⟨cs, h.alloc o, r⟩
theorem Tq.away (h : Tq w b f) {p : Addr} (hp : b ≠ p.block) (u : Value) : Tq (w.setCell p u) b f := let ⟨cs, h, r⟩ := h; ⟨cs, h.away hp u, r⟩
theorem Tq.drewN (h : Tq w b f) (k : Nat) : Tq (w.drewN k) b f := h
theorem Tq.drew (h : Tq w b f) : Tq w.drew b f := h
theorem Tq.congr (h : Tq w b f) (e : ∀ i, i < 23 → f i = g i) : Tq w b g := let ⟨cs, h, hs, hc⟩ := h; ⟨cs, h, hs, fun i hi => e i hi ▸ hc i hi⟩
theorem Tq.put (h : Tq w b f) (i x : Nat) (hx : x < 256) : Tq (w.setCell ⟨b, i, none⟩ (.int .u8 (x : Nat))) b (upd f i x) := by
  obtain ⟨cs, h, hs, hc⟩ := h
  refine ⟨_, h.put i _, by simpa using hs, fun j hj => ?_⟩
  unfold upd
  by_cases e : j = i
  · subst e
    rw [if_pos rfl]
    exact ⟨hx, by rw [Array.getElem?_setIfInBounds_self, if_pos (by omega)]⟩
  · rw [if_neg e]
    exact ⟨(hc j hj).1, by rw [Array.getElem?_setIfInBounds_ne (by omega)]; exact (hc j hj).2⟩
end
/-- The table of periods holds what its initialiser laid. -/
structure Pd (w : World) : Prop where
  lt : 0 < w.heap.size
  p0 : w.cell? ⟨0, 0, none⟩ = some (.int .u8 128)
  p1 : w.cell? ⟨0, 1, none⟩ = some (.int .u8 128)
  p2 : w.cell? ⟨0, 2, none⟩ = some (.int .u8 16)
section
variable {w w' : World} {b : Nat}
theorem Pd.kept (h : Pd w) (hk : w'.heap[0]? = w.heap[0]?) (hs : w.heap.size ≤ w'.heap.size) : Pd w' :=
  ⟨Nat.lt_of_lt_of_le h.lt hs, (World.cell?_of_block (a := ⟨0, 0, none⟩) hk).trans h.p0, (World.cell?_of_block (a := ⟨0, 1, none⟩) hk).trans h.p1, (World.cell?_of_block (a := ⟨0, 2, none⟩) hk).trans h.p2⟩
theorem Pd.below {B : Nat} (h : Pd w) (hb : Below B w w') (hB : 0 < B) : Pd w' := h.kept (hb.block 0 hB) hb.size
theorem Pd.only (h : Pd w) (o : w.grownBy w' (some b)) (hb : b ≠ 0) : Pd w' := h.kept (o.block 0 h.lt (fun e => hb (by injection e with e; exact e.symm))) o.size
end
theorem grown_refl (w : World) (b : Nat) : w.grownBy w (some b) := Below.only (Below.refl w.heap.size w) b
theorem grown_trans {w w' w'' : World} {b : Nat} (h : w.grownBy w' (some b)) (k : w'.grownBy w'' (some b)) : w.grownBy w'' (some b) :=
  ⟨k.os.trans h.os, k.tape.trans h.tape, k.output.trans h.output, Nat.le_trans h.size k.size, fun x hx hne => (k.block x (Nat.lt_of_lt_of_le hx h.size) hne).trans (h.block x hx hne)⟩
theorem grown_below {w w' w'' : World} {b : Nat} (h : w.grownBy w' (some b)) (k : Below w'.heap.size w' w'') : w.grownBy w'' (some b) := grown_trans h (Below.only k b)
theorem below_of_grown {B b : Nat} {v w w' : World} (h : Below B v w) (k : w.grownBy w' (some b)) (hb : B ≤ b) (hB : B ≤ w.heap.size) : Below B v w' :=
  h.trans ⟨k.os, k.tape, k.output, k.size, fun x hx => k.block x (Nat.lt_of_lt_of_le hx hB) (fun e => by injection e with e; omega)⟩
end Go.Proofs.YtbdhdedlemndeaaDoor
