/-
  TickRuns: what stands between the steps (genkruns.py writes this text).
-/
import Derived.Test.YtbdhdedlemndeaaDoorKLoads
import Derived.Test.YtbdhdedlemndeaaDoorKInv
import Derived.StillTailTactics
namespace Go.Proofs.YtbdhdedlemndeaaDoor
open Go.RowKit Go.Shelf
set_option maxRecDepth 1000000
set_option maxHeartbeats 4000000
set_option linter.unusedVariables false
set_option linter.unusedSimpArgs false

theorem grown_setRow (W : World) (T : Nat) (cs : Array Value) : W.grownBy (W.setRow T cs) (some T) :=
  ⟨rfl, rfl, rfl, by simp [World.setRow], fun k hk hne => by
    simp only [World.setRow, Array.getElem?_modify]
    rw [if_neg (fun e => hne (by rw [e]))]⟩
/-- The code's state f and the document's g, and what is done. -/
structure Rq (w W : World) (b T X : Nat) (cs : Array Value) (f g : Nat → Nat) : Prop where
  tl : Tl w W b f
  d : Whole W T 30 (docC g)
  ge : w.heap.size ≤ T
  ne : T ≠ b
  o : Whole W X 33 cs
  xge : w.heap.size ≤ X
  xb : X ≠ b
  xT : X ≠ T
  t0 : T ≠ 0
section
variable {w W W' : World} {b T X : Nat} {cs : Array Value} {f g f' g' : Nat → Nat}
theorem Rq.grow (h : Rq w W b T X cs f g) (hB : Below W.heap.size W W') : Rq w W' b T X cs f g := ⟨h.tl.grow hB, h.d.below hB h.d.lt, h.ge, h.ne, h.o.below hB h.o.lt, h.xge, h.xb, h.xT, h.t0⟩
theorem Rq.drewN (h : Rq w W b T X cs f g) (q : Nat) : Rq w (W.drewN q) b T X cs f g := ⟨⟨⟨h.tl.ts.tq.drewN q, ⟨h.tl.ts.pd.lt, h.tl.ts.pd.p0, h.tl.ts.pd.p1, h.tl.ts.pd.p2⟩, h.tl.ts.ne, h.tl.ts.good⟩, h.tl.lb, below_drewN h.tl.bel q⟩, h.d.drewN q, h.ge, h.ne, h.o.drewN q, h.xge, h.xb, h.xT, h.t0⟩
theorem Rq.drew (h : Rq w W b T X cs f g) : Rq w W.drew b T X cs f g := h.drewN 1
theorem Rq.tick (h : Rq w W b T X cs f g) (k : Ts W' b f') (o : W.grownBy W' (some b)) : Rq w W' b T X cs f' g := ⟨h.tl.step k o, h.d.only o h.ne, h.ge, h.ne, h.o.only o h.xb, h.xge, h.xb, h.xT, h.t0⟩
theorem Rq.store (h : Rq w W b T X cs f g) (g' : Nat → Nat) : (Instr.storeAt 30 (.pointer (some ⟨T, 0, none⟩)) (.agg (docC g'))).run Tryd.prog W = .ok () (W.setRow T (docC g')) ∧ Rq w (W.setRow T (docC g')) b T X cs f g' := by
  obtain ⟨a, hw⟩ := store_doc g' h.d rfl
  have hg := grown_setRow W T (docC g')
  have hb : Below w.heap.size w (W.setRow T (docC g')) := below_setRow h.tl.bel h.ge
  exact ⟨a, ⟨⟨h.tl.ts.tq.only hg (fun e => h.ne e.symm), h.tl.ts.pd.only hg h.t0, h.tl.ts.ne, h.tl.ts.good⟩, h.tl.lb, hb⟩, hw, h.ge, h.ne, setRow_other h.o h.xT, h.xge, h.xb, h.xT, h.t0⟩
theorem Rq.put (h : Rq w W b T X cs f g) (i : Nat) (v : Value) (e : (docC g).setIfInBounds i v = docC g') : Rq w (W.setCell ⟨T, i, none⟩ v) b T X cs f g' := by
  have hg : W.grownBy (W.setCell ⟨T, i, none⟩ v) (some T) := only_set (grown_refl W T) i v
  exact ⟨⟨⟨h.tl.ts.tq.away (p := ⟨T, i, none⟩) (fun e => h.ne e.symm) v, h.tl.ts.pd.only hg h.t0, h.tl.ts.ne, h.tl.ts.good⟩, h.tl.lb, h.tl.bel.setCell (p := ⟨T, i, none⟩) h.ge v⟩, (h.d.put i v).as e, h.ge, h.ne, h.o.away (p := ⟨T, i, none⟩) h.xT v, h.xge, h.xb, h.xT, h.t0⟩
end
/-- What stands at a round's start. -/
structure Rn (w W : World) (b T : Nat) (f : Nat → Nat) : Prop where
  tl : Tl w W b f
  d : Whole W T 30 (docC f)
  ge : w.heap.size ≤ T
  ne : T ≠ b
  t0 : T ≠ 0
theorem Rq.done {w W : World} {b T X : Nat} {cs : Array Value} {f : Nat → Nat} (h : Rq w W b T X cs f f) : Rn w W b T f := ⟨h.tl, h.d, h.ge, h.ne, h.t0⟩
theorem Rn.op {w W : World} {b T : Nat} {f : Nat → Nat} (h : Rn w W b T f) (cs : Array Value) : Rq w (W.alloc (.cells cs 33)) b T W.heap.size cs f f := by
  have hB : Below W.heap.size W (W.alloc (.cells cs 33)) := (Below.refl _ W).alloc (Nat.le_refl _) _
  exact ⟨h.tl.grow hB, h.d.alloc _, h.ge, h.ne, Whole.fresh W 33 cs, h.tl.bel.size, fun e => by have := h.tl.ts.tq.lt; omega, fun e => by have := h.d.lt; omega, h.t0⟩
end Go.Proofs.YtbdhdedlemndeaaDoor
