/-
  A slice that is nil has no room.
-/
import Derived.Test.YtlogijjgachdjaaDoorOpn
namespace Go.Proofs.YtlogijjgachdjaaDoor
open Go.RowKit Go.ChangeShapes Go.WideShapes Go.ChangeAt Go.Joins Go.Deep
set_option linter.unusedVariables false
theorem nil_cap {H : Type} {enc : TypeId × Value → H} {w : World} {base : Nat} {held : Bool} {fuel : Nat} {a : Option Addr} {len cap : Nat} {y : DataW H × List MemPlace} (h : DataW.trod enc Tryd.prog w base (fun _ => true) held fuel 33 [.slice a len cap] = some y) : a = none → cap = 0 := by
  intro e0
  subst e0
  rcases DataW.trod_slice Tryd.underlying33 h with ⟨e, _⟩ | ⟨x, l, c, _, _, _, _, e, _⟩
  · injection e with e
    injection e with e1 e2 e3
  · injection e with e
    injection e with e1 e2 e3
    cases e1
end Go.Proofs.YtlogijjgachdjaaDoor
