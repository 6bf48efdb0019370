/-
  Plain words for memory, used by this seat's walks: a block that is known whole; the arithmetic unit's block; flags.
-/
import Derived.Test.YtnjbgnkbncjnlaaRows
import Derived.WalkKit
import Derived.WalkSpells
import Derived.WalkLawsBesides
import Derived.Laws.NewBlocks
import Derived.Laws.MakeOwn
import Derived.Lib.Hide
namespace Go.Proofs.Ytnjbgnkbncjnlaa
open Go.RowKit

/-- Block g is just the cells cs, of element type t; none is frozen. -/
def Whole (w : World) (g : Nat) (t : TypeId) (cs : Array Value) : Prop := w.heap[g]? = some (.cells cs t (0, 0))
theorem Whole.lt {w : World} {g : Nat} {t : TypeId} {cs : Array Value} (h : Whole w g t cs) : g < w.heap.size := by
  rcases Nat.lt_or_ge g w.heap.size with hl | hl
  · exact hl
  · exact absurd h (by simp [Whole, Array.getElem?_eq_none hl])
theorem Whole.cell {w : World} {g : Nat} {t : TypeId} {cs : Array Value} (h : Whole w g t cs) (i : Nat) : w.cell? ⟨g, i, none⟩ = cs[i]? := cell_of_row w g i cs t (0, 0) h
theorem Whole.free {w : World} {g : Nat} {t : TypeId} {cs : Array Value} (h : Whole w g t cs) (i : Nat) : w.frozen? ⟨g, i, none⟩ = false := by
  simp [World.frozen?, show w.heap[g]? = some (.cells cs t (0, 0)) from h]
theorem Whole.fresh (w : World) (t : TypeId) (cs : Array Value) : Whole (w.alloc (.cells cs t)) w.heap.size t cs := heap_alloc_new w _
theorem Whole.alloc {w : World} {g : Nat} {t : TypeId} {cs : Array Value} (h : Whole w g t cs) (o : Obj) : Whole (w.alloc o) g t cs := (Below.heap_alloc w o g h.lt).trans h
theorem Whole.below {w w' : World} {B g : Nat} {t : TypeId} {cs : Array Value} (h : Whole w g t cs) (hb : Below B w w') (hg : g < B) : Whole w' g t cs := (hb.block g hg).trans h
theorem Whole.put {w : World} {g : Nat} {t : TypeId} {cs : Array Value} (h : Whole w g t cs) (i : Nat) (u : Value) : Whole (w.setCell ⟨g, i, none⟩ u) g t (cs.setIfInBounds i u) := by
  have h' : w.heap[g]? = some (.cells cs t (0, 0)) := h
  simp [Whole, World.setCell, Array.getElem?_modify, h']
theorem Whole.away {w : World} {g : Nat} {t : TypeId} {cs : Array Value} (h : Whole w g t cs) {p : Addr} (hp : g ≠ p.block) (u : Value) : Whole (w.setCell p u) g t cs := (Below.heap_setCell w p u g hp).trans h

/-- A flag of a byte, made 1 or 0. -/
def setF (p flag : Nat) (on : Bool) : Nat := (p &&& (255 - flag)) ||| (if on then flag else 0)
theorem setF_lt (p flag : Nat) (on : Bool) (hf : flag < 256) : setF p flag on < 256 := by
  unfold setF
  refine Nat.or_lt_two_pow (n := 8) (Nat.and_lt_two_pow _ (by omega)) ?_
  split <;> omega

/-- The arithmetic unit at block u: its flags, how many digits, its mask, its top bit. -/
def Uni (w : World) (u p cnt mask top : Nat) : Prop := Whole w u 48 #[.int .u8 p, .int .i64 cnt, .int .u16 mask, .int .u16 top]
theorem Uni.set {w : World} {u p cnt mask top : Nat} (h : Uni w u p cnt mask top) (q : Nat) : Uni (w.setCell ⟨u, 0, none⟩ (.int .u8 q)) u q cnt mask top := by
  have := Whole.put h 0 (.int .u8 q)
  simpa [Uni] using this
theorem Uni.c0 {w : World} {u p cnt mask top : Nat} (h : Uni w u p cnt mask top) : w.cell? ⟨u, 0, none⟩ = some (.int .u8 p) := Whole.cell h 0
theorem Uni.c1 {w : World} {u p cnt mask top : Nat} (h : Uni w u p cnt mask top) : w.cell? ⟨u, 1, none⟩ = some (.int .i64 cnt) := Whole.cell h 1
theorem Uni.c2 {w : World} {u p cnt mask top : Nat} (h : Uni w u p cnt mask top) : w.cell? ⟨u, 2, none⟩ = some (.int .u16 mask) := Whole.cell h 2
theorem Uni.c3 {w : World} {u p cnt mask top : Nat} (h : Uni w u p cnt mask top) : w.cell? ⟨u, 3, none⟩ = some (.int .u16 top) := Whole.cell h 3
theorem Uni.f0 {w : World} {u p cnt mask top : Nat} (h : Uni w u p cnt mask top) : w.frozen? ⟨u, 0, none⟩ = false := Whole.free h 0
theorem modify_twice (xs : Array Obj) (i : Nat) (f g h : Obj → Obj) (e : ∀ o, g (f o) = h o) : (xs.modify i f).modify i g = xs.modify i h := by
  apply Array.ext
  · simp
  · intro k h1 h2
    simp only [Array.getElem_modify]
    split
    · simp [e]
    · simp
theorem Whole.drewN {w : World} {g : Nat} {t : TypeId} {cs : Array Value} (h : Whole w g t cs) (n : Nat) : Whole (w.drewN n) g t cs := h
theorem calls_gen {f : Nat} {args : Array Value} {Q : Ending → World → Prop} {w : World} (P : World → Prop) (h : P w) (k : ∀ W, P W → Calls Try.prog f args W Q) : Calls Try.prog f args w Q := k w h
theorem Whole.as {w : World} {g : Nat} {t : TypeId} {cs ds : Array Value} (h : Whole w g t cs) (e : cs = ds) : Whole w g t ds := e ▸ h
theorem Uni.lt {w : World} {u p cnt mask top : Nat} (h : Uni w u p cnt mask top) : u < w.heap.size := Whole.lt h
theorem Uni.alloc {w : World} {u p cnt mask top : Nat} (h : Uni w u p cnt mask top) (o : Obj) : Uni (w.alloc o) u p cnt mask top := Whole.alloc h o
theorem Uni.below {w w2 : World} {B u p cnt mask top : Nat} (h : Uni w u p cnt mask top) (hb : Below B w w2) (hu : u < B) : Uni w2 u p cnt mask top := Whole.below h hb hu
theorem setCell_twice (w : World) (a : Addr) (x y : Value) : (w.setCell a x).setCell a y = w.setCell a y := by
  show World.mk _ _ _ _ _ = World.mk _ _ _ _ _
  rw [World.mk.injEq]
  refine ⟨?_, rfl, rfl, rfl, rfl⟩
  simp only [World.setCell]
  refine modify_twice w.heap a.block _ _ _ ?_
  intro o
  cases o with
  | cells c elem frozen =>
    cases hs : a.spot.isSome <;> simp
  | _ => rfl
end Go.Proofs.Ytnjbgnkbncjnlaa
