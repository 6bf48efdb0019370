/-
  The statements' boards: whatever the plan is.
-/
import Derived.Test.YthhahhmdpjchkaaFillA
import Derived.Test.YthhahhmdpjchkaaFillB
import Derived.Test.YthhahhmdpjchkaaFillC
namespace Go.Proofs.Ythhahhmdpjchkaa
open Go.RowKit Go.Shelf

theorem made_any (l y : Nat) (r m : Int) (w : World) :
    Calls Try.prog 11 #[planV l r m y] w fun e w' => MadeP w l y (romN r) m e w' := by
  by_cases h0 : r < 0
  · exact made_a l y _ r m w rfl h0
  by_cases h1 : 8388609 < r
  · exact made_b l y _ r m w rfl h1
  · exact made_c l y _ r m w rfl (by omega) (by omega)
end Go.Proofs.Ythhahhmdpjchkaa
