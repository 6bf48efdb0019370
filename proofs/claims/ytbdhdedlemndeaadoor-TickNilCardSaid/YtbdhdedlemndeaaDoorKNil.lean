/-
  TickNil: the walk.
-/
import Derived.Test.YtbdhdedlemndeaaDoorSvGE
import Derived.Test.YtbdhdedlemndeaaDoorKMem
namespace Go.Proofs.YtbdhdedlemndeaaDoor
open Go.RowKit Go.Shelf
set_option maxRecDepth 100000
set_option maxHeartbeats 1000000
set_option linter.unusedVariables false

theorem kstep_nil (w : World) : Calls Tryd.prog 10 #[.pointer none] w fun e w' => e = .returned (.tuple #[]) ∧ w' = w := by
  go_enter Tryd.func10, Tryd.ntmps10
  go_wp2_with fail
  exact bodyPost_ret (results_none rfl _ _ _) rfl ⟨rfl, rfl⟩
theorem kwrite_nil (x y : Value) (w : World) : Calls Tryd.prog 14 #[.pointer none, x, y] w fun e w' => e = .returned (.tuple #[]) ∧ w' = w := by
  go_enter Tryd.func14, Tryd.ntmps14
  go_wp2_with fail
  exact bodyPost_ret (results_none rfl _ _ _) rfl ⟨rfl, rfl⟩
theorem kout_nil (x : Value) (w : World) : Calls Tryd.prog 17 #[.pointer none, x] w fun e w' => e = .returned (.tuple #[.int .u8 0, .int .i64 1]) ∧ w' = w := by
  go_enter Tryd.func17, Tryd.ntmps17
  go_wp2_with fail
  go_ret2
  exact ⟨rfl, rfl⟩
theorem kread_nil (x : Value) (w : World) : Calls Tryd.prog 13 #[.pointer none, x] w fun e w' => e = .returned (.int .u8 0) ∧ w' = w := by
  go_enter Tryd.func13, Tryd.ntmps13
  go_wp2_with fail
  go_ret
  exact ⟨rfl, rfl⟩
theorem kin_nil (x y : Value) (w : World) : Calls Tryd.prog 16 #[.pointer none, x, y] w fun e w' => e = .returned (.int .i64 1) ∧ w' = w := by
  go_enter Tryd.func16, Tryd.ntmps16
  go_wp2_with fail
  go_ret
  exact ⟨rfl, rfl⟩
theorem kshown_nil (w : World) : Calls Tryd.prog 18 #[.pointer none] w fun e w' => e = .returned (.bool false) ∧ w' = w := by
  go_enter Tryd.func18, Tryd.ntmps18
  go_wp2_with fail
  go_ret
  exact ⟨rfl, rfl⟩
theorem kload_nil (w : World) : Calls Tryd.prog 24 #[.pointer none, .pointer none] w fun e w' => e = .returned (.int .i64 1) ∧ w' = w := by
  go_enter Tryd.func24, Tryd.ntmps24
  go_wp2_with fail
  go_ret
  exact ⟨rfl, rfl⟩
theorem ksave_nil (x : Value) (w : World) : Calls Tryd.prog 36 #[.pointer none, x] w fun e w' => e = .returned (.tuple #[]) ∧ w' = w := by
  go_enter Tryd.func36, Tryd.ntmps36
  go_wp2_with fail
  first | (go_end0; exact ⟨rfl, rfl⟩) | (exact bodyPost_ret (results_none rfl _ _ _) rfl ⟨rfl, rfl⟩) | exact ⟨rfl, rfl⟩
theorem ksaved_nil (w : World) : Calls Tryd.prog 20 #[.pointer none] w fun e w' => ∃ G, e = .returned (.slice (some ⟨G, 0, none⟩) 13 13) ∧ Below w.heap.size w w' := by
  have HN := Lib.hid (newWriter w.heap.size w w (Below.refl _ _) (Nat.le_refl _))
  have HS := Lib.hid fun p W => ksave_nil p W
  go_enter Tryd.func20, Tryd.ntmps20
  go_wp2_with fail
  refine HN.out.mono ?_
  rintro e W5 ⟨b, rfl, hL⟩
  have hb5 := hL.bel
  have HD := wdone_ok W5 hL.wr (show St.new.doneE = 0 from rfl)
  rw [show St.new.n = 0 from rfl, Nat.add_zero] at HD
  replace HD := Lib.hid HD
  clear HN hL
  go_wp2_with fail
  refine (HS.out _ _).mono ?_
  rintro e W ⟨rfl, rfl⟩
  go_wp2_with fail
  refine HD.out.mono ?_
  rintro e W6 ⟨G, rfl, hG, hGl, hb6⟩
  have hb := Lib.hid (hb5.trans (hb6.mono hb5.size))
  clear HD hG hGl hb6 hb5
  go_wp2_with fail
  go_ret
  exact ⟨_, rfl, hb.out⟩
namespace tickNil
theorem walk (r v : Nat) (k : Int) (w : World) (hp : Pd w) (hr : r < 256) (hv : v < 256) (hk : -9223372036854775808 ≤ k ∧ k ≤ 9223372036854775807) :
    Calls Tryd.prog 7 #[.int .u8 (r : Nat), .int .u8 (v : Nat), .int .i64 k] w fun e w' => e = .returned (.bool true) ∧ Below w.heap.size w w' := by
  have H1 := Lib.hid fun W => kstep_nil W
  have H2 := Lib.hid fun x y W => kwrite_nil x y W
  have H3 := Lib.hid fun x W => kout_nil x W
  have H4 := Lib.hid fun x W => kread_nil x W
  have H5 := Lib.hid fun x y W => kin_nil x y W
  have H6 := Lib.hid fun W => kshown_nil W
  have H7 := Lib.hid fun W => kload_nil W
  have H8 := Lib.hid fun W => ksaved_nil W
  clear hp hr hv hk
  go_enter Tryd.func7, Tryd.ntmps7
  go_wp2_with fail
  refine (H1.out _).mono ?_
  rintro e w' ⟨rfl, rfl⟩
  go_wp2_with fail
  refine (H2.out _ _ _).mono ?_
  rintro e w' ⟨rfl, rfl⟩
  go_wp2_with fail
  refine (H3.out _ _).mono ?_
  rintro e w' ⟨rfl, rfl⟩
  go_wp2_with fail
  refine (H4.out _ _).mono ?_
  rintro e w' ⟨rfl, rfl⟩
  go_wp2_with fail
  refine (H5.out _ _ _).mono ?_
  rintro e w' ⟨rfl, rfl⟩
  go_wp2_with fail
  refine (H6.out _).mono ?_
  rintro e w' ⟨rfl, rfl⟩
  go_wp2_with fail
  refine (H8.out _).mono ?_
  rintro e W8 ⟨G, rfl, hb⟩
  replace hb := Lib.hid hb
  go_wp2_with fail
  refine (H7.out _).mono ?_
  rintro e w' ⟨rfl, rfl⟩
  go_wp2_with fail
  go_ret
  exact ⟨rfl, hb.out⟩
end tickNil
end Go.Proofs.YtbdhdedlemndeaaDoor
