/-
  PlayerNil: a player that is none; the law's walk.
-/
import Derived.Test.YtknlbmjncginnaaGreatDoorSvGE
namespace Go.Proofs.YtknlbmjncginnaaGreatDoor
open Go.RowKit Go.Shelf
set_option maxRecDepth 100000
set_option maxHeartbeats 1000000
set_option linter.unusedVariables false

theorem pnext_nil (w : World) : Calls Tryz.prog 34 #[.pointer none] w fun e w' => e = .returned (.agg #[.int .u8 0, .int .u32 0, .int .u8 0]) ∧ Below w.heap.size w w' := by
  have hT := Whole.fresh w 42 #[.int .u8 0, .int .u32 0, .int .u8 0]
  have hB := Lib.hid (((((Below.refl w.heap.size w).alloc (Nat.le_refl _) (.cells #[.int .u8 0, .int .u32 0, .int .u8 0] 42)).setCell (p := ⟨w.heap.size, 0, none⟩) (Nat.le_refl _) (.int .u8 0)).setCell (p := ⟨w.heap.size, 1, none⟩) (Nat.le_refl _) (.int .u32 0)).setCell (p := ⟨w.heap.size, 2, none⟩) (Nat.le_refl _) (.int .u8 0))
  have hW := (((hT.put 0 (.int .u8 0)).put 1 (.int .u32 0)).put 2 (.int .u8 0))
  simp only [List.setIfInBounds_toArray, List.set_cons_zero, List.set_cons_succ] at hW
  replace hW := Lib.hid hW
  have t0 := hT.cell 0
  have f0 := hT.free 0
  have t1 := hT.cell 1
  have f1 := hT.free 1
  have t2 := hT.cell 2
  have f2 := hT.free 2
  simp only [List.getElem?_toArray, List.getElem?_cons_zero, List.getElem?_cons_succ] at t0 t1 t2
  clear hT
  obtain ⟨V, hV⟩ : ∃ V, w.alloc (.cells #[.int .u8 0, .int .u32 0, .int .u8 0] 42) = V := ⟨_, rfl⟩
  rw [hV] at t0 f0 t1 f1 t2 f2 hB hW
  obtain ⟨T, hT⟩ : ∃ T, w.heap.size = T := ⟨_, rfl⟩
  rw [hT] at t0 f0 t1 f1 t2 f2 hB hW
  go_enter Tryz.func34, Tryz.ntmps34
  go_upto_region 1 with (fail)
  clear hV
  go_wp2_with fail
  exact bodyPost_ret (results_cell_row (fn := Tryz.f34) (p := 2) (ty := 42) rfl _ _ _ _ _ (0, 0) _ rfl hW.out Tryz.underlying42 rfl (by kernel_rfl)) rfl ⟨rfl, by rw [hT]; exact hB.out⟩
theorem pstep_nil (v : Nat) (w : World) : Calls Tryz.prog 26 #[.pointer none, .int .u8 (v : Nat)] w fun e w' => e = .returned (.agg #[.int .u8 0, .int .u32 0, .int .u8 0]) ∧ Below w.heap.size w w' := by
  have hT := Whole.fresh w 42 #[.int .u8 0, .int .u32 0, .int .u8 0]
  have hB := Lib.hid (((((Below.refl w.heap.size w).alloc (Nat.le_refl _) (.cells #[.int .u8 0, .int .u32 0, .int .u8 0] 42)).setCell (p := ⟨w.heap.size, 0, none⟩) (Nat.le_refl _) (.int .u8 0)).setCell (p := ⟨w.heap.size, 1, none⟩) (Nat.le_refl _) (.int .u32 0)).setCell (p := ⟨w.heap.size, 2, none⟩) (Nat.le_refl _) (.int .u8 0))
  have hW := (((hT.put 0 (.int .u8 0)).put 1 (.int .u32 0)).put 2 (.int .u8 0))
  simp only [List.setIfInBounds_toArray, List.set_cons_zero, List.set_cons_succ] at hW
  replace hW := Lib.hid hW
  have t0 := hT.cell 0
  have f0 := hT.free 0
  have t1 := hT.cell 1
  have f1 := hT.free 1
  have t2 := hT.cell 2
  have f2 := hT.free 2
  simp only [List.getElem?_toArray, List.getElem?_cons_zero, List.getElem?_cons_succ] at t0 t1 t2
  clear hT
  obtain ⟨V, hV⟩ : ∃ V, w.alloc (.cells #[.int .u8 0, .int .u32 0, .int .u8 0] 42) = V := ⟨_, rfl⟩
  rw [hV] at t0 f0 t1 f1 t2 f2 hB hW
  obtain ⟨T, hT⟩ : ∃ T, w.heap.size = T := ⟨_, rfl⟩
  rw [hT] at t0 f0 t1 f1 t2 f2 hB hW
  go_enter Tryz.func26, Tryz.ntmps26
  go_upto_region 1 with (fail)
  clear hV
  go_wp2_with fail
  exact bodyPost_ret (results_cell_row (fn := Tryz.f26) (p := 4) (ty := 42) rfl _ _ _ _ _ (0, 0) _ rfl hW.out Tryz.underlying42 rfl (by kernel_rfl)) rfl ⟨rfl, by rw [hT]; exact hB.out⟩
theorem ppegs_nil (w : World) : Calls Tryz.prog 32 #[.pointer none] w fun e w' => e = .returned (.agg #[.int .u8 0, .int .u8 0, .int .u8 0, .int .u8 0, .int .u8 0, .int .u16 0, .bool false]) ∧ Below w.heap.size w w' := by
  have hT := Whole.fresh w 24 #[.int .u8 0, .int .u8 0, .int .u8 0, .int .u8 0, .int .u8 0, .int .u16 0, .bool false]
  have hB := Lib.hid (((((((((Below.refl w.heap.size w).alloc (Nat.le_refl _) (.cells #[.int .u8 0, .int .u8 0, .int .u8 0, .int .u8 0, .int .u8 0, .int .u16 0, .bool false] 24)).setCell (p := ⟨w.heap.size, 0, none⟩) (Nat.le_refl _) (.int .u8 0)).setCell (p := ⟨w.heap.size, 1, none⟩) (Nat.le_refl _) (.int .u8 0)).setCell (p := ⟨w.heap.size, 2, none⟩) (Nat.le_refl _) (.int .u8 0)).setCell (p := ⟨w.heap.size, 3, none⟩) (Nat.le_refl _) (.int .u8 0)).setCell (p := ⟨w.heap.size, 4, none⟩) (Nat.le_refl _) (.int .u8 0)).setCell (p := ⟨w.heap.size, 5, none⟩) (Nat.le_refl _) (.int .u16 0)).setCell (p := ⟨w.heap.size, 6, none⟩) (Nat.le_refl _) (.bool false))
  have hW := (((((((hT.put 0 (.int .u8 0)).put 1 (.int .u8 0)).put 2 (.int .u8 0)).put 3 (.int .u8 0)).put 4 (.int .u8 0)).put 5 (.int .u16 0)).put 6 (.bool false))
  simp only [List.setIfInBounds_toArray, List.set_cons_zero, List.set_cons_succ] at hW
  replace hW := Lib.hid hW
  have t0 := hT.cell 0
  have f0 := hT.free 0
  have t1 := hT.cell 1
  have f1 := hT.free 1
  have t2 := hT.cell 2
  have f2 := hT.free 2
  have t3 := hT.cell 3
  have f3 := hT.free 3
  have t4 := hT.cell 4
  have f4 := hT.free 4
  have t5 := hT.cell 5
  have f5 := hT.free 5
  have t6 := hT.cell 6
  have f6 := hT.free 6
  simp only [List.getElem?_toArray, List.getElem?_cons_zero, List.getElem?_cons_succ] at t0 t1 t2 t3 t4 t5 t6
  clear hT
  obtain ⟨V, hV⟩ : ∃ V, w.alloc (.cells #[.int .u8 0, .int .u8 0, .int .u8 0, .int .u8 0, .int .u8 0, .int .u16 0, .bool false] 24) = V := ⟨_, rfl⟩
  rw [hV] at t0 f0 t1 f1 t2 f2 t3 f3 t4 f4 t5 f5 t6 f6 hB hW
  obtain ⟨T, hT⟩ : ∃ T, w.heap.size = T := ⟨_, rfl⟩
  rw [hT] at t0 f0 t1 f1 t2 f2 t3 f3 t4 f4 t5 f5 t6 f6 hB hW
  go_enter Tryz.func32, Tryz.ntmps32
  go_upto_region 1 with (fail)
  clear hV
  go_wp2_with fail
  exact bodyPost_ret (results_cell_row (fn := Tryz.f32) (p := 2) (ty := 24) rfl _ _ _ _ _ (0, 0) _ rfl hW.out Tryz.underlying24 rfl (by kernel_rfl)) rfl ⟨rfl, by rw [hT]; exact hB.out⟩
theorem pdone_nil (w : World) : Calls Tryz.prog 33 #[.pointer none] w fun e w' => e = .returned (.int .i64 0) ∧ w' = w := by
  go_enter Tryz.func33, Tryz.ntmps33
  go_wp2_with fail
  go_ret
  exact ⟨rfl, rfl⟩
theorem prun_nil (n : Int) (w : World) : Calls Tryz.prog 29 #[.pointer none, .slice none 0 0, .int .i64 n] w fun e w' => e = .returned (.tuple #[.slice none 0 0, .int .i64 1]) ∧ w' = w := by
  go_enter Tryz.func29, Tryz.ntmps29
  go_wp2_with fail
  go_ret2
  exact ⟨rfl, rfl⟩
theorem psave_nil (x : Value) (w : World) : Calls Tryz.prog 36 #[.pointer none, x] w fun e w' => e = .returned (.tuple #[]) ∧ w' = w := by
  go_enter Tryz.func36, Tryz.ntmps36
  go_wp2_with fail
  first | (go_end0; exact ⟨rfl, rfl⟩) | (exact bodyPost_ret (results_none rfl _ _ _) rfl ⟨rfl, rfl⟩) | exact ⟨rfl, rfl⟩
theorem pload_nil (w : World) : Calls Tryz.prog 39 #[.pointer none, .pointer none] w fun e w' => e = .returned (.int .i64 1) ∧ Below w.heap.size w w' := by
  go_enter Tryz.func39, Tryz.ntmps39
  go_wp2_with fail
  go_ret
  exact ⟨rfl, Below.refl _ _⟩
namespace playerNil
theorem walk (v : Nat) (n : Int) (w : World) (hv : v < 256) (hn : -9223372036854775808 ≤ n ∧ n ≤ 9223372036854775807) : Calls Tryz.prog 13 #[.int .u8 (v : Nat), .int .i64 n] w fun e w' => e = .returned (.bool true) ∧ Below w.heap.size w w' := by
  have H6 := Lib.hid fun (W : World) => newWriter W.heap.size W W (Below.refl _ _) (Nat.le_refl _)
  have H7 := Lib.hid fun p W => psave_nil p W
  have H1 := Lib.hid fun W => pnext_nil W
  have H2 := Lib.hid fun W => pstep_nil v W
  have H3 := Lib.hid fun W => ppegs_nil W
  have H4 := Lib.hid fun W => pdone_nil W
  have H5 := Lib.hid fun W => prun_nil n W
  have H8 := Lib.hid fun W => pload_nil W
  replace hn := Lib.hid hn
  go_enter Tryz.func13, Tryz.ntmps13
  go_wp2_with fail
  refine (H6.out w).mono ?_
  rintro e W5 ⟨b, rfl, hL⟩
  have hb5 := hL.bel
  have HD := wdone_ok W5 hL.wr (show St.new.doneE = 0 from rfl)
  rw [show St.new.n = 0 from rfl, Nat.add_zero] at HD
  replace HD := Lib.hid HD
  clear H6 hL
  go_wp2_with fail
  refine (H7.out _ _).mono ?_
  rintro e W ⟨rfl, rfl⟩
  clear H7
  go_wp2_with fail
  refine HD.out.mono ?_
  rintro e W6 ⟨G, rfl, hG, hGl, hb6⟩
  have hb46 := Lib.hid (hb5.trans (hb6.mono hb5.size))
  clear HD hG hGl hb6 hb5
  go_wp2_with fail
  refine (H5.out _).mono ?_
  rintro e W7 ⟨rfl, rfl⟩
  go_wp2_with fail
  refine (H1.out _).mono ?_
  rintro e W8 ⟨rfl, hb8⟩
  replace hb46 := Lib.hid (hb46.out.trans (hb8.mono hb46.out.size))
  clear hb8
  go_wp2_with fail
  refine (H2.out _).mono ?_
  rintro e W9 ⟨rfl, hb9⟩
  replace hb46 := Lib.hid (hb46.out.trans (hb9.mono hb46.out.size))
  clear hb9
  go_wp2_with fail
  refine (H3.out _).mono ?_
  rintro e W10 ⟨rfl, hb10⟩
  replace hb46 := Lib.hid (hb46.out.trans (hb10.mono hb46.out.size))
  clear hb10
  go_wp2_with fail
  refine (H4.out _).mono ?_
  rintro e W11 ⟨rfl, rfl⟩
  go_wp2_with fail
  refine (H8.out _).mono ?_
  rintro e W12 ⟨rfl, hb12⟩
  have hb := Lib.hid (hb46.out.trans (hb12.mono hb46.out.size))
  clear hb46 hb12
  go_wp2_with fail
  go_ret
  exact ⟨rfl, hb.out⟩
end playerNil
end Go.Proofs.YtknlbmjncginnaaGreatDoor
