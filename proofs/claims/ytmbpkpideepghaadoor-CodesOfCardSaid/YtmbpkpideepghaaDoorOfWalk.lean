/-
  CodesOf: the walk.
-/
import Derived.Test.YtmbpkpideepghaaDoorAwk
import Derived.Test.YtmbpkpideepghaaDoorRSz
namespace Go.Proofs.YtmbpkpideepghaaDoor.codesOf
open Go.RowKit
set_option maxRecDepth 1000000
set_option maxHeartbeats 1000000
set_option linter.unusedVariables false

attribute [local irreducible] partF inF bytesN modeF nameF widthF useF docWidthF docUseF signF modeAcc signB opF wideF
theorem walk (c p wd : Nat) (w : World) (hc : c < 256) (hp : p < 256) (hw : wd < 256) :
    Calls Tryd.prog 3 #[.int .u8 c, .int .u8 p, .int .u8 wd] w fun e w' => e = .returned (.bool true) ∧ Below w.heap.size w w' := by
  have H1 := fun W => of_any c W hc
  have H2 := fun W => rof_same c W hc
  have H3 := fun W => size_any c p W hc hp
  have H4 := fun W => rsize_any c p W hc hp
  have H5 := fun W => wide_any wd p W hp
  have H6 := fun W => rwide_any wd p W hp
  have H7 := fun W => awake_any W
  generalize useF (nameF c).toList (modeF c) = u at *
  generalize opF (modeF c) (widthF (nameF c).toList) p = k at *
  generalize widthF (nameF c).toList = wdt at *
  generalize modeF c = m at *
  generalize nameF c = nm at *
  generalize wideF wd p = b at *
  unfold codeV at *
  replace H1 := Lib.hid H1
  replace H2 := Lib.hid H2
  replace H3 := Lib.hid H3
  replace H4 := Lib.hid H4
  replace H5 := Lib.hid H5
  replace H6 := Lib.hid H6
  replace H7 := Lib.hid H7
  go_enter Tryd.func3, Tryd.ntmps3
  go_wp2_with fail
  with_reducible refine (H1.out _).mono ?_
  rintro e W1 ⟨rfl, hb1⟩
  go_wp2_with fail
  with_reducible refine (H2.out _).mono ?_
  rintro e W2 ⟨rfl, hb2⟩
  have hb := hb1.trans (hb2.mono hb1.size)
  clear hb1 hb2
  go_wp2_with fail
  with_reducible refine (H3.out _).mono ?_
  rintro e W3 ⟨rfl, rfl⟩
  go_wp2_with fail
  with_reducible refine (H4.out _).mono ?_
  rintro e W4 ⟨rfl, hb4⟩
  replace hb := hb.trans (hb4.mono hb.size)
  clear hb4
  go_wp2_with fail
  with_reducible refine (H5.out _).mono ?_
  rintro e W3 ⟨rfl, rfl⟩
  go_wp2_with fail
  with_reducible refine (H6.out _).mono ?_
  rintro e W3 ⟨rfl, rfl⟩
  go_wp2_with fail
  with_reducible refine (H7.out _).mono ?_
  rintro e W5 ⟨rfl, hb5⟩
  replace hb := hb.trans (hb5.mono hb.size)
  clear hb5
  go_wp2_with fail
  go_ret
  exact ⟨rfl, hb⟩
end Go.Proofs.YtmbpkpideepghaaDoor.codesOf
