/-
  A board in memory.
-/
import Derived.Test.YthhahhmdpjchkaaTable
import Derived.Test.YthhahhmdpjchkaaKit
import Derived.Test.YthhahhmdpjchkaaPlace
namespace Go.Proofs.Ythhahhmdpjchkaa
open Go.RowKit Go.Shelf

/-- The table's four rows, by layout; block X holds where the rom of the lower banks begins. -/
def rowsOf (l X : Nat) : Array Value :=
  if l = 1 then #[.func (.func 39) #[] #[], .func (.func 40) #[] #[], .func (.func 41) #[] #[], .func (.func 42) #[] #[]]
  else #[.func (.func 43) #[] #[], .func (.func 44) #[] #[], .func (.func 45) #[] #[], .func (.func 46) #[] #[.pointer (some ⟨X, 0, none⟩)]]
def boardCells (l X R n cap M m : Nat) : Array Value := rowsOf l X ++ #[.slice (some ⟨R, 0, none⟩) n cap, .slice (some ⟨M, 0, none⟩) m m]

/-- What a board's memory holds: the table at b, the rom's n bytes f in block R, the memory's m bytes g in block M. -/
structure Brd (w : World) (b R M X l n cap m : Nat) (f g : Nat → Nat) : Prop where
  lay : 1 ≤ l ∧ l ≤ 3
  head : Whole w b 74 (boardCells l X R n cap M m)
  rom : Holds w R n f
  ram : Holds w M m g
  more : l ≠ 1 → Whole w X 3 #[.int .i64 (moreOf l : Nat)]
  n1 : 1 ≤ n
  n2 : n ≤ 8388608
  m2 : m ≤ 524288
  hb : b ≠ M
  hR : R ≠ M
  hX : l ≠ 1 → X ≠ M
theorem Brd.alloc {w : World} {b R M X l n cap m : Nat} {f g : Nat → Nat} (h : Brd w b R M X l n cap m f g) (o : Obj) : Brd (w.alloc o) b R M X l n cap m f g :=
  ⟨h.lay, h.head.alloc o, h.rom.alloc o, h.ram.alloc o, fun e => (h.more e).alloc o, h.n1, h.n2, h.m2, h.hb, h.hR, h.hX⟩
theorem Brd.below {w w' : World} {b R M X l n cap m : Nat} {f g : Nat → Nat} (h : Brd w b R M X l n cap m f g) (hB : Below w.heap.size w w') : Brd w' b R M X l n cap m f g :=
  ⟨h.lay, h.head.below hB h.head.lt, h.rom.below hB h.rom.lt, h.ram.below hB h.ram.lt, fun e => (h.more e).below hB (h.more e).lt, h.n1, h.n2, h.m2, h.hb, h.hR, h.hX⟩
theorem Brd.drewN {w : World} {b R M X l n cap m : Nat} {f g : Nat → Nat} (h : Brd w b R M X l n cap m f g) (k : Nat) : Brd (w.drewN k) b R M X l n cap m f g :=
  ⟨h.lay, h.head, h.rom, h.ram, h.more, h.n1, h.n2, h.m2, h.hb, h.hR, h.hX⟩
theorem Brd.drew {w : World} {b R M X l n cap m : Nat} {f g : Nat → Nat} (h : Brd w b R M X l n cap m f g) : Brd w.drew b R M X l n cap m f g :=
  ⟨h.lay, h.head, h.rom, h.ram, h.more, h.n1, h.n2, h.m2, h.hb, h.hR, h.hX⟩
theorem Brd.away {w : World} {b R M X l n cap m : Nat} {f g : Nat → Nat} (h : Brd w b R M X l n cap m f g) {B : Nat} (hB : w.heap.size ≤ B ∨ B < w.heap.size ∧ b ≠ B ∧ R ≠ B ∧ M ≠ B ∧ (l ≠ 1 → X ≠ B)) (o : Nat) (v : Value) : Brd (w.setCell ⟨B, o, none⟩ v) b R M X l n cap m f g := by
  have k : b ≠ B ∧ R ≠ B ∧ M ≠ B ∧ (l ≠ 1 → X ≠ B) := by
    have h1 := h.head.lt
    have h2 := h.rom.lt
    have h3 := h.ram.lt
    rcases hB with hB | hB
    · exact ⟨by omega, by omega, by omega, fun e => by have := (h.more e).lt; omega⟩
    · exact hB.2
  exact ⟨h.lay, h.head.away k.1 v, h.rom.away k.2.1 v, h.ram.away k.2.2.1 v, fun e => (h.more e).away (k.2.2.2 e) v, h.n1, h.n2, h.m2, h.hb, h.hR, h.hX⟩
/-- A byte of the memory is written. -/
theorem Brd.put {w : World} {b R M X l n cap m : Nat} {f g : Nat → Nat} (h : Brd w b R M X l n cap m f g) (i x : Nat) (hx : x < 256) : Brd (w.setCell ⟨M, i, none⟩ (.int .u8 (x : Nat))) b R M X l n cap m f (upd g i x) :=
  ⟨h.lay, h.head.away h.hb _, h.rom.away h.hR _, h.ram.put i x hx, fun e => (h.more e).away (h.hX e) _, h.n1, h.n2, h.m2, h.hb, h.hR, h.hX⟩
theorem Brd.only {w w' : World} {b R M X l n cap m : Nat} {f g : Nat → Nat} (h : Brd w b R M X l n cap m f g) {G : Nat} (o : w.grownBy w' (some G)) (h1 : b ≠ G) (h2 : R ≠ G) (h3 : M ≠ G) (h4 : l ≠ 1 → X ≠ G) : Brd w' b R M X l n cap m f g :=
  ⟨h.lay, h.head.only o h1, h.rom.only o h2, h.ram.only o h3, fun e => (h.more e).only o (h4 e), h.n1, h.n2, h.m2, h.hb, h.hR, h.hX⟩
theorem Brd.slots {w : World} {b R M X l n cap m : Nat} {f g : Nat → Nat} (h : Brd w b R M X l n cap m f g) : w.cell? ⟨b, 4, none⟩ = some (.slice (some ⟨R, 0, none⟩) n cap) ∧ w.cell? ⟨b, 5, none⟩ = some (.slice (some ⟨M, 0, none⟩) m m) := by
  have e4 := h.head.cell 4
  have e5 := h.head.cell 5
  rw [e4, e5]
  unfold boardCells rowsOf
  split <;> exact ⟨rfl, rfl⟩
end Go.Proofs.Ythhahhmdpjchkaa
