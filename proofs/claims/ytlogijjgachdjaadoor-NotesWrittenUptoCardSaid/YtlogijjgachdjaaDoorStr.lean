/-
  What a builder holds, as a text.
-/
import Derived.Test.YtlogijjgachdjaaDoorBld
import Derived.Test.YtlogijjgachdjaaDoorLibB
namespace Go.Proofs.YtlogijjgachdjaaDoor
open Go.RowKit
set_option maxRecDepth 100000
set_option maxHeartbeats 1000000
set_option linter.unusedVariables false

theorem string_any (b : Nat) (l : List Nat) (w : World) (hl : ∀ x ∈ l, x < 256) (h : Bld b l w) (hB : b ≤ w.heap.size) :
    Calls Tryd.prog 39 #[.pointer (some ⟨b, 0, none⟩)] w fun e w' => e = .returned (.string (bsOf l)) ∧ Below b w w' := by
  have e : (l.map fun x => Value.int .u8 (x : Nat)) = Lib.byteCells (l.map UInt8.ofNat) := by
    simp only [Lib.byteCells, List.map_map]
    apply List.map_congr_left
    intro x hx
    have := hl x hx
    simp
    omega
  unfold Bld at h
  rw [e] at h
  refine (Tryd.Builder_String_any_f b b (l.map UInt8.ofNat) w h hB).mono ?_
  rintro e w' ⟨rfl, _, hb⟩
  exact ⟨rfl, hb⟩
end Go.Proofs.YtlogijjgachdjaaDoor
