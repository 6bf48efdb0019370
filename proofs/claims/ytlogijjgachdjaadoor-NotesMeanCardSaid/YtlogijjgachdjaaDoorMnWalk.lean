/-
  NotesMean: the walk.
-/
import Derived.Test.YtlogijjgachdjaaDoorRFind
import Derived.Test.YtlogijjgachdjaaDoorROf
namespace Go.Proofs.YtlogijjgachdjaaDoor.notesMean
open Go.RowKit
set_option maxRecDepth 1000000
set_option maxHeartbeats 1000000
set_option linter.unusedVariables false

theorem walk (c l : Nat) (nm fm : ByteArray) (w : World) (hc : c < 256) (hl : l < 256) :
    Calls Tryd.prog 3 #[.int .u8 c, .int .u8 l, .string nm, .string fm] w fun e w' => e = .returned (.bool true) ∧ Below w.heap.size w w' := by
  have H1 := fun W => rfind_any nm fm W
  have H2 := fun W => find_any nm fm W
  have H3 := fun W => of_any c W hc
  have H4 := fun W => rof_any c W hc
  have H5 := fun W => width_any l W hl
  have H6 := fun W => rwidth_any l W hl
  unfold ntV fdV at *
  generalize fdF nm fm = r at *
  generalize nmF c = nc at *
  generalize fmF c = fc at *
  generalize szF c = sz at *
  generalize cyF c = cy at *
  generalize wdF l = wd at *
  generalize decide (r < 256) = b at *
  generalize (if r < 256 then r else 0) = q at *
  replace H1 := Lib.hid H1
  replace H2 := Lib.hid H2
  replace H3 := Lib.hid H3
  replace H4 := Lib.hid H4
  replace H5 := Lib.hid H5
  replace H6 := Lib.hid H6
  go_enter Tryd.func3, Tryd.ntmps3
  go_wp2_with fail
  with_reducible refine (H1.out _).mono ?_
  rintro e W1 ⟨rfl, hb1⟩
  go_wp2_with fail
  with_reducible refine (H2.out _).mono ?_
  rintro e W2 ⟨rfl, hb2⟩
  have hb := hb1.trans (hb2.mono hb1.size)
  clear hb1 hb2
  go_wp2_with fail
  with_reducible refine (H3.out _).mono ?_
  rintro e W3 ⟨rfl, hb3⟩
  replace hb := hb.trans (hb3.mono hb.size)
  clear hb3
  go_wp2_with fail
  with_reducible refine (H4.out _).mono ?_
  rintro e W4 ⟨rfl, hb4⟩
  replace hb := hb.trans (hb4.mono hb.size)
  clear hb4
  go_wp2_with fail
  with_reducible refine (H5.out _).mono ?_
  rintro e W5 ⟨rfl, rfl⟩
  go_wp2_with fail
  with_reducible refine (H6.out _).mono ?_
  rintro e W6 ⟨rfl, rfl⟩
  go_wp2_with fail
  go_ret
  exact ⟨rfl, hb⟩
end Go.Proofs.YtlogijjgachdjaaDoor.notesMean
