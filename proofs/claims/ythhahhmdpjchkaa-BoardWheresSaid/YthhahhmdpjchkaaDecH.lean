/-
  What stands at an address, by the code.
-/
import Derived.Test.YthhahhmdpjchkaaBrd
import Derived.Shelf.RegionOpen
import Derived.Deep.RegionWith
import Derived.Deep.RegionHeld3
import Derived.StillTailTactics
namespace Go.Proofs.Ythhahhmdpjchkaa
open Go.RowKit Go.Shelf
set_option maxRecDepth 100000
set_option maxHeartbeats 1000000

/-- A spot. -/
def spotV (s : Nat × Nat) : Value := .agg #[.int .u8 (s.1 : Nat), .int .i64 (s.2 : Nat)]
theorem codeN (t s : Nat) (w : World) (ht : t < 2 ^ 63) (h0 : 1 ≤ s) (h1 : s < 2 ^ 63) :
    Calls Try.prog 27 #[.int .i64 t, .int .i64 s] w fun e w' => e = .returned (.int .i64 (lead t s : Nat)) ∧ w' = w := by
  have h := code_any t s w (by omega) (by omega) (by omega) (by omega)
  rw [if_neg (by omega)] at h
  simp only [Int.toNat_natCast] at h
  exact h
theorem cell_away {w : World} {b G : Nat} (hne : b ≠ G) (o i : Nat) (u : Value) : (w.setCell ⟨G, i, none⟩ u).cell? ⟨b, o, none⟩ = w.cell? ⟨b, o, none⟩ := World.cell?_of_block (Below.heap_setCell w ⟨G, i, none⟩ u b hne)
theorem keep_two {w : World} {b G o1 o2 : Nat} {v1 v2 : Value} (hne : b ≠ G) (h1 : w.cell? ⟨b, o1, none⟩ = some v1) (h2 : w.cell? ⟨b, o2, none⟩ = some v2) (i j : Nat) (u v : Value) :
    ((w.setCell ⟨G, i, none⟩ u).setCell ⟨G, j, none⟩ v).drew.cell? ⟨b, o1, none⟩ = some v1 ∧ ((w.setCell ⟨G, i, none⟩ u).setCell ⟨G, j, none⟩ v).drew.cell? ⟨b, o2, none⟩ = some v2 :=
  ⟨(cell_away hne o1 j v).trans ((cell_away hne o1 i u).trans h1), (cell_away hne o2 j v).trans ((cell_away hne o2 i u).trans h2)⟩
end Go.Proofs.Ythhahhmdpjchkaa
