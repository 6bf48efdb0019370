/-
  The statements' boards: the rom's bytes.
-/
import Derived.Test.YthhahhmdpjchkaaNewC
import Derived.Deep.DeepCutAuto
namespace Go.Proofs.Ythhahhmdpjchkaa
open Go.RowKit Go.Shelf
set_option maxRecDepth 100000
set_option maxHeartbeats 1000000

/-- The rom's byte i. -/
def romF (y i : Nat) : Nat := (i / 256 + i) % 256 * y % 256
theorem romF_lt (y i : Nat) : romF y i < 256 := Nat.mod_lt _ (by decide)
/-- How many bytes a plan's rom has. -/
def romN (r : Int) : Nat := if r < 0 ∨ 8388609 < r then 32768 else r.toNat
theorem romN_le (r : Int) : romN r ≤ 8388609 := by
  unfold romN
  split <;> omega
def planV (l : Nat) (r m : Int) (y : Nat) : Value := .agg #[.int .u8 l, .int .i64 r, .int .i64 m, .int .u8 y]
theorem rom_val (k y : Nat) : (((k : Int) / 256 + (k : Int)) % 256 * (y : Int) % 256) = ((romF y k : Nat) : Int) := by
  unfold romF
  rw [Int.natCast_emod, Int.natCast_mul, Int.natCast_emod, Int.natCast_add, Int.natCast_ediv]
  rfl
theorem pcells {W : World} {P l N y : Nat} {m : Int} (h : Whole W P 23 #[.int .u8 l, .int .i64 N, .int .i64 m, .int .u8 y]) : W.cell? ⟨P, 0, none⟩ = some (.int .u8 l) ∧ W.cell? ⟨P, 2, none⟩ = some (.int .i64 m) := ⟨h.cell 0, h.cell 2⟩
theorem whole_away {w : World} {g D : Nat} {t : TypeId} {cs : Array Value} (h : Whole w g t cs) (hne : g ≠ D) {i : Nat} {u : Value} : Whole (w.setCell ⟨D, i, none⟩ u) g t cs := h.away hne u
theorem holds_away {w : World} {g n D : Nat} {f : Nat → Nat} (h : Holds w g n f) (hne : g ≠ D) {i : Nat} {u : Value} : Holds (w.setCell ⟨D, i, none⟩ u) g n f := h.away hne u
theorem hold8 {w : World} {g n D : Nat} {f : Nat → Nat} (h : Holds w g n f) (hne : g ≠ D) (a b c d e x y z : Value) :
    Holds ((((((((w.setCell ⟨D, 0, none⟩ a).setCell ⟨D, 1, none⟩ b).setCell ⟨D, 2, none⟩ c).setCell ⟨D, 3, none⟩ d).setCell ⟨D, 4, none⟩ e).setCell ⟨D, 5, none⟩ x).setCell ⟨D, 6, none⟩ y).setCell ⟨D, 7, none⟩ z) g n f :=
  holds_away (holds_away (holds_away (holds_away (holds_away (holds_away (holds_away (holds_away h hne) hne) hne) hne) hne) hne) hne) hne
theorem below8 {B D : Nat} {v w : World} (h : Below B v w) (hD : B ≤ D) (a b c d e x y z : Value) :
    Below B v ((((((((w.setCell ⟨D, 0, none⟩ a).setCell ⟨D, 1, none⟩ b).setCell ⟨D, 2, none⟩ c).setCell ⟨D, 3, none⟩ d).setCell ⟨D, 4, none⟩ e).setCell ⟨D, 5, none⟩ x).setCell ⟨D, 6, none⟩ y).setCell ⟨D, 7, none⟩ z) :=
  (((((((h.setCell (p := ⟨D, 0, none⟩) hD a).setCell (p := ⟨D, 1, none⟩) hD b).setCell (p := ⟨D, 2, none⟩) hD c).setCell (p := ⟨D, 3, none⟩) hD d).setCell (p := ⟨D, 4, none⟩) hD e).setCell (p := ⟨D, 5, none⟩) hD x).setCell (p := ⟨D, 6, none⟩) hD y).setCell (p := ⟨D, 7, none⟩) hD z
/-- What the statements' made hands back. -/
def MadeP (w : World) (l y N : Nat) (m : Int) (e : Ending) (w' : World) : Prop :=
  ∃ v R0, e = .returned (.tuple #[v, .slice (some ⟨R0, 0, none⟩) N N, .bool true]) ∧ Holds w' R0 N (romF y) ∧ w.heap.size ≤ R0 ∧ Below w.heap.size w w' ∧
    ((¬ good l N m ∧ v = .pointer none) ∨ (good l N m ∧ ∃ b R M X cap, v = .pointer (some ⟨b, 0, none⟩) ∧ Brd w' b R M X l N cap m.toNat (romF y) (fun _ => 0) ∧ (w.heap.size ≤ b ∧ w.heap.size ≤ X) ∧ w.heap.size ≤ M ∧ R0 ≠ M))
end Go.Proofs.Ythhahhmdpjchkaa
