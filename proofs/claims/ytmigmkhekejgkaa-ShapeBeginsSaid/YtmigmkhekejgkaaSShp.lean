/-
  A shape that comes in.
-/
import Derived.Test.YtmigmkhekejgkaaSOpn
import Derived.SizedLaws
import Derived.Deep.Slices
import Derived.Deep.Fields
import Derived.ChangeSame
import Derived.Lib.SmallJoins
namespace Go.Proofs.Ytmigmkhekejgkaa
open Go.RowKit Go.ChangeShapes Go.WideShapes Go.ChangeAt Go.Joins Go.Deep
set_option linter.unusedVariables false
set_option maxRecDepth 100000

section
variable {H : Type} {enc : TypeId × Value → H} {w : World} {base : Nat} {spare : Nat → Bool} {held : Bool} {r : Reach} {b0 : Nat} {v : Value} {d : DataW H} {p : List MemPlace}
theorem open_shape (hv : Value.okWide Try.prog w r b0 23 v) (h : DataW.Trod enc Try.prog w base spare held 23 v d p) : ∃ (a : Nat) (b : Int), v = .agg #[.int .u8 (a : Nat), .int .i64 b] ∧ a < 256 ∧ -9223372036854775808 ≤ b ∧ b ≤ 9223372036854775807 := by
  obtain ⟨v0, v1, y0, y1, n, rfl, rfl, -, h0, h1⟩ := open_agg2 Try.underlying23 (by kernel_rfl) (by kernel_rfl) hv h
  obtain ⟨x0, e0, -, w0⟩ := DataW.trod_int Try.underlying5 h0
  obtain ⟨x1, e1, -, w1⟩ := DataW.trod_int Try.underlying3 h1
  obtain ⟨x0, rfl, l0⟩ := nat8 w0
  injection e0 with e0
  injection e1 with e1
  subst e0 e1
  exact ⟨x0, x1, rfl, l0, wf64 w1⟩
end
end Go.Proofs.Ytmigmkhekejgkaa
