/-
  What stands at an address: by the code, at any layout.
-/
import Derived.Test.YthhahhmdpjchkaaDecLo
import Derived.Test.YthhahhmdpjchkaaDecHi
namespace Go.Proofs.Ythhahhmdpjchkaa
open Go.RowKit Go.Shelf

theorem decode_any {b R M X l n cap m : Nat} {f g : Nat → Nat} (a : Nat) (w : World) (h : Brd w b R M X l n cap m f g) (ha : a < 4294967296) :
    Calls Try.prog 13 #[.pointer (some ⟨b, 0, none⟩), .int .u32 a] w fun e w' => e = .returned (spotV (spot l n m a)) ∧ Below w.heap.size w w' := by
  by_cases hl : l = 1
  · subst hl
    exact decode_lo a w h ha
  · exact decode_hi a w h hl ha
end Go.Proofs.Ythhahhmdpjchkaa
