/-
  The laws' own call: a sum is told.
-/
import Derived.Test.YtnjbgnkbncjnlaaMath
namespace Go.Proofs.Ytnjbgnkbncjnlaa
open Go.RowKit Go.Shelf
set_option maxRecDepth 100000
set_option maxHeartbeats 1000000
theorem awake_do (w : World) : Calls Try.prog 10 #[.int .u8 3, .int .u16 127, .int .u16 1, .int .u8 0, .bool false] w fun e w' => e = .returned (.tuple #[.int .u16 128, .int .u8 192, .bool true]) ∧ Below w.heap.size w w' := by
  have h := do_of 3 127 1 127 1 0 192 128 false true w (by decide) (by decide) (by decide) (by decide) (fun u w h => by
    have := ans_add u 0 2 255 128 127 1 0 w h (by decide) (by decide) (by decide) (by decide) (by decide) (by decide) (by decide)
    exact this)
  exact h
theorem awake_any (w : World) : Calls Try.prog 11 #[] w fun e w' => e = .returned (.bool true) ∧ Below w.heap.size w w' := by
  go_enter Try.func11, Try.ntmps11
  go_wp2_with fail
  refine (awake_do _).mono ?_
  rintro e w1 ⟨rfl, hb⟩
  go_wp2_with fail
  go_ret
  exact ⟨rfl, hb⟩
end Go.Proofs.Ytnjbgnkbncjnlaa
