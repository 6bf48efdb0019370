/-
  Plain words for memory, used by this seat's walks: a block that is known whole; bytes that lie in a row; bytes that a block of its own holds.
-/
import Derived.Test.YtekjcgckniopdaaRows
import Derived.WalkKit
import Derived.WalkSpells
import Derived.WalkLawsBesides
import Derived.Laws.NewBlocks
import Derived.Laws.MakeOwn
import Derived.Lib.Hide
import Derived.Below
import Derived.Outline
import Derived.Shelf.Abstract
import Derived.Deep.OwnRows
import Derived.Deep.QuietTactic
namespace Go.Proofs.Ytekjcgckniopdaa
open Go.RowKit

/-- Block g is just the cells cs, of element type t; none is frozen. -/
def Whole (w : World) (g : Nat) (t : TypeId) (cs : Array Value) : Prop := w.heap[g]? = some (.cells cs t (0, 0))
theorem Whole.lt {w : World} {g : Nat} {t : TypeId} {cs : Array Value} (h : Whole w g t cs) : g < w.heap.size := by
  rcases Nat.lt_or_ge g w.heap.size with hl | hl
  · exact hl
  · exact absurd h (by simp [Whole, Array.getElem?_eq_none hl])
theorem Whole.cell {w : World} {g : Nat} {t : TypeId} {cs : Array Value} (h : Whole w g t cs) (i : Nat) : w.cell? ⟨g, i, none⟩ = cs[i]? := cell_of_row w g i cs t (0, 0) h
theorem Whole.free {w : World} {g : Nat} {t : TypeId} {cs : Array Value} (h : Whole w g t cs) (i : Nat) : w.frozen? ⟨g, i, none⟩ = false := by
  simp [World.frozen?, show w.heap[g]? = some (.cells cs t (0, 0)) from h]
theorem Whole.fresh (w : World) (t : TypeId) (cs : Array Value) : Whole (w.alloc (.cells cs t)) w.heap.size t cs := heap_alloc_new w _
theorem Whole.alloc {w : World} {g : Nat} {t : TypeId} {cs : Array Value} (h : Whole w g t cs) (o : Obj) : Whole (w.alloc o) g t cs := (Below.heap_alloc w o g h.lt).trans h
theorem Whole.below {w w' : World} {B g : Nat} {t : TypeId} {cs : Array Value} (h : Whole w g t cs) (hb : Below B w w') (hg : g < B) : Whole w' g t cs := (hb.block g hg).trans h
theorem Whole.put {w : World} {g : Nat} {t : TypeId} {cs : Array Value} (h : Whole w g t cs) (i : Nat) (u : Value) : Whole (w.setCell ⟨g, i, none⟩ u) g t (cs.setIfInBounds i u) := by
  have h' : w.heap[g]? = some (.cells cs t (0, 0)) := h
  simp [Whole, World.setCell, Array.getElem?_modify, h']
theorem Whole.away {w : World} {g : Nat} {t : TypeId} {cs : Array Value} (h : Whole w g t cs) {p : Addr} (hp : g ≠ p.block) (u : Value) : Whole (w.setCell p u) g t cs := (Below.heap_setCell w p u g hp).trans h
theorem Whole.drewN {w : World} {g : Nat} {t : TypeId} {cs : Array Value} (h : Whole w g t cs) (n : Nat) : Whole (w.drewN n) g t cs := h
theorem Whole.drew {w : World} {g : Nat} {t : TypeId} {cs : Array Value} (h : Whole w g t cs) : Whole w.drew g t cs := h
theorem Whole.as {w : World} {g : Nat} {t : TypeId} {cs ds : Array Value} (h : Whole w g t cs) (e : cs = ds) : Whole w g t ds := e ▸ h

/-- Bytes that are read: n of them, from where a leads on, the i-th is f i. -/
def Row (w : World) (a : Option Addr) (n : Nat) (f : Nat → Nat) : Prop :=
  (∀ i, i < n → f i < 256) ∧ (n = 0 ∨ ∃ b o, a = some ⟨b, o, none⟩ ∧ b < w.heap.size ∧ ∀ i, i < n → w.cell? ⟨b, o + i, none⟩ = some (.int .u8 (f i : Nat)))
theorem Row.below {w w' : World} {a : Option Addr} {n : Nat} {f : Nat → Nat} (h : Row w a n f) (hb : Below w.heap.size w w') : Row w' a n f := by
  rcases h with ⟨h0, h | ⟨b, o, rfl, hlt, hc⟩⟩
  · exact ⟨h0, .inl h⟩
  · exact ⟨h0, .inr ⟨b, o, rfl, Nat.lt_of_lt_of_le hlt hb.size, fun i hi => (hb.cell (p := ⟨b, o + i, none⟩) hlt).trans (hc i hi)⟩⟩
theorem Row.nil (w : World) (a : Option Addr) (f : Nat → Nat) : Row w a 0 f := ⟨fun i h => absurd h (by omega), .inl rfl⟩
theorem Row.congr {w : World} {a : Option Addr} {n : Nat} {f g : Nat → Nat} (h : Row w a n f) (e : ∀ i, i < n → f i = g i) : Row w a n g :=
  ⟨fun i hi => e i hi ▸ h.1 i hi, h.2.imp id fun ⟨b, o, ha, hb, hc⟩ => ⟨b, o, ha, hb, fun i hi => by rw [hc i hi, e i hi]⟩⟩

/-- Block g holds n bytes (and perhaps room behind them), the i-th is f i. -/
def Holds (w : World) (g n : Nat) (f : Nat → Nat) : Prop :=
  ∃ cs : Array Value, Whole w g 5 cs ∧ n ≤ cs.size ∧ ∀ i, i < n → f i < 256 ∧ cs[i]? = some (.int .u8 (f i : Nat))
theorem Holds.lt {w : World} {g n : Nat} {f : Nat → Nat} (h : Holds w g n f) : g < w.heap.size := let ⟨_, h, _⟩ := h; h.lt
theorem Holds.cell {w : World} {g n : Nat} {f : Nat → Nat} (h : Holds w g n f) (i : Nat) (hi : i < n) : w.cell? ⟨g, i, none⟩ = some (.int .u8 (f i : Nat)) := by
  obtain ⟨cs, h, _, hc⟩ := h
  rw [h.cell, (hc i hi).2]
theorem Holds.byte {w : World} {g n : Nat} {f : Nat → Nat} (h : Holds w g n f) (i : Nat) (hi : i < n) : f i < 256 := let ⟨_, _, _, hc⟩ := h; (hc i hi).1
theorem Holds.free {w : World} {g n : Nat} {f : Nat → Nat} (h : Holds w g n f) (i : Nat) : w.frozen? ⟨g, i, none⟩ = false := let ⟨_, h, _⟩ := h; h.free i
theorem Holds.alloc {w : World} {g n : Nat} {f : Nat → Nat} (h : Holds w g n f) (o : Obj) : Holds (w.alloc o) g n f := let ⟨cs, h, r⟩ := h; ⟨cs, h.alloc o, r⟩
theorem Holds.below {w w' : World} {B g n : Nat} {f : Nat → Nat} (h : Holds w g n f) (hb : Below B w w') (hg : g < B) : Holds w' g n f := let ⟨cs, h, r⟩ := h; ⟨cs, h.below hb hg, r⟩
theorem Holds.away {w : World} {g n : Nat} {f : Nat → Nat} (h : Holds w g n f) {p : Addr} (hp : g ≠ p.block) (u : Value) : Holds (w.setCell p u) g n f := let ⟨cs, h, r⟩ := h; ⟨cs, h.away hp u, r⟩
theorem Holds.drewN {w : World} {g n : Nat} {f : Nat → Nat} (h : Holds w g n f) (k : Nat) : Holds (w.drewN k) g n f := h
theorem Holds.drew {w : World} {g n : Nat} {f : Nat → Nat} (h : Holds w g n f) : Holds w.drew g n f := h
theorem Holds.congr {w : World} {g n : Nat} {f f' : Nat → Nat} (h : Holds w g n f) (e : ∀ i, i < n → f i = f' i) : Holds w g n f' :=
  let ⟨cs, h, hs, hc⟩ := h; ⟨cs, h, hs, fun i hi => e i hi ▸ hc i hi⟩
theorem Holds.row {w : World} {g n : Nat} {f : Nat → Nat} (h : Holds w g n f) : Row w (some ⟨g, 0, none⟩) n f :=
  ⟨fun i hi => h.byte i hi, .inr ⟨g, 0, rfl, h.lt, fun i hi => by rw [Nat.zero_add]; exact h.cell i hi⟩⟩
/-- One byte is another. -/
def upd (f : Nat → Nat) (i x : Nat) : Nat → Nat := fun j => if j = i then x else f j
theorem Holds.put {w : World} {g n : Nat} {f : Nat → Nat} (h : Holds w g n f) (i x : Nat) (hx : x < 256) : Holds (w.setCell ⟨g, i, none⟩ (.int .u8 (x : Nat))) g n (upd f i x) := by
  obtain ⟨cs, h, hs, hc⟩ := h
  refine ⟨_, h.put i _, by simpa using hs, fun j hj => ?_⟩
  unfold upd
  by_cases e : j = i
  · subst e
    rw [if_pos rfl]
    exact ⟨hx, by rw [Array.getElem?_setIfInBounds_self, if_pos (by omega)]⟩
  · rw [if_neg e]
    exact ⟨(hc j hj).1, by rw [Array.getElem?_setIfInBounds_ne (by omega)]; exact (hc j hj).2⟩
theorem holds_of_made {w : World} {g n : Nat} (h : Whole w g 5 (madeCells #[Value.int .u8 0] n)) : Holds w g n (fun _ => 0) :=
  ⟨_, h, by simp [madeCells], fun i hi => ⟨Nat.zero_lt_succ _, by simp [madeCells, hi, Nat.mod_one]⟩⟩
theorem below_drewN {B : Nat} {a w : World} (h : Below B a w) (n : Nat) : Below B a (w.drewN n) := h.trans ⟨rfl, rfl, rfl, Nat.le_refl _, fun _ _ => rfl⟩
theorem below_drawn {B : Nat} {a w w' : World} (h : Below B a w) (e : ∃ q, w' = w.drewN q) : Below B a w' := by
  obtain ⟨q, rfl⟩ := e
  exact below_drewN h q
theorem Below.only {w w' : World} (h : Below w.heap.size w w') (q : Nat) : w.grownBy w' (some q) := ⟨h.os, h.tape, h.output, h.size, fun k hk _ => h.block k hk⟩
theorem only_set {a w : World} {g : Nat} (h : a.grownBy w (some g)) (i : Nat) (u : Value) : a.grownBy (w.setCell ⟨g, i, none⟩ u) (some g) :=
  ⟨h.os, h.tape, h.output, by simpa [World.setCell] using h.size, fun k hk hne => (Below.heap_setCell w ⟨g, i, none⟩ u k (fun e => hne (by rw [e]))).trans (h.block k hk hne)⟩
theorem Whole.only {w w' : World} {h g : Nat} {t : TypeId} {cs : Array Value} (x : Whole w h t cs) (o : w.grownBy w' (some g)) (hne : h ≠ g) : Whole w' h t cs := (o.block h x.lt (fun e => hne (by injection e))).trans x
theorem Holds.only {w w' : World} {h g n : Nat} {f : Nat → Nat} (x : Holds w h n f) (o : w.grownBy w' (some g)) (hne : h ≠ g) : Holds w' h n f := let ⟨cs, x, r⟩ := x; ⟨cs, x.only o hne, r⟩
theorem calls_gen {f : Nat} {args : Array Value} {Q : Ending → World → Prop} {w : World} (P : World → Prop) (h : P w) (k : ∀ W, P W → Calls Try.prog f args W Q) : Calls Try.prog f args w Q := k w h
/-- How much of the sum of bytes is kept. -/
def sumTo (f : Nat → Nat) : Nat → Nat
  | 0 => 0
  | k + 1 => (sumTo f k + f k) % 65536
theorem sumTo_lt (f : Nat → Nat) (k : Nat) : sumTo f k < 65536 := by
  cases k with
  | zero => simp [sumTo]
  | succ k => exact Nat.mod_lt _ (by decide)
theorem sumTo_congr {f g : Nat → Nat} {n : Nat} (e : ∀ i, i < n → f i = g i) : sumTo f n = sumTo g n := by
  induction n with
  | zero => rfl
  | succ k ih => rw [sumTo, sumTo, ih (fun i hi => e i (by omega)), e k (by omega)]
end Go.Proofs.Ytekjcgckniopdaa
