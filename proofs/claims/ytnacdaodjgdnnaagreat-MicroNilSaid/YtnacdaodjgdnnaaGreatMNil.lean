/-
  A processor that is none.
-/
import Derived.Test.YtnacdaodjgdnnaaGreatMAwk
import Derived.Test.YtnacdaodjgdnnaaGreatSvRd
import Derived.Test.YtnacdaodjgdnnaaGreatSvHeads
namespace Go.Proofs.YtnacdaodjgdnnaaGreat
open Go.RowKit Go.Shelf
set_option maxRecDepth 100000
set_option maxHeartbeats 1000000
set_option linter.unusedVariables false

theorem mreset_nil (w : World) : Calls Tryz.prog 37 #[.pointer none] w fun e w' => e = .returned (.tuple #[]) ∧ w = w' := by
  go_enter Tryz.func37, Tryz.ntmps37
  go_wp2_with fail
  first
    | exact bodyPost_ret (results_none rfl _ _ _) rfl ⟨rfl, rfl⟩
    | (go_end0; exact ⟨rfl, rfl⟩)
theorem mnmi_nil (w : World) : Calls Tryz.prog 35 #[.pointer none] w fun e w' => e = .returned (.tuple #[]) ∧ w = w' := by
  go_enter Tryz.func35, Tryz.ntmps35
  go_wp2_with fail
  go_end0
  exact ⟨rfl, rfl⟩
theorem mirq_nil (t : Bool) (w : World) : Calls Tryz.prog 36 #[.pointer none, .bool t] w fun e w' => e = .returned (.tuple #[]) ∧ w = w' := by
  go_enter Tryz.func36, Tryz.ntmps36
  go_wp2_with fail
  go_end0
  exact ⟨rfl, rfl⟩
theorem mstep_nil (v : Nat) (w : World) : Calls Tryz.prog 44 #[.pointer none, .int .u8 (v : Nat)] w fun e w' => e = .returned (.tuple #[]) ∧ w = w' := by
  go_enter Tryz.func44, Tryz.ntmps44
  go_wp2_with fail
  first
    | exact bodyPost_ret (results_none rfl _ _ _) rfl ⟨rfl, rfl⟩
    | (go_end0; exact ⟨rfl, rfl⟩)
theorem msave_nil (p : Value) (w : World) : Calls Tryz.prog 56 #[.pointer none, p] w fun e w' => e = .returned (.tuple #[]) ∧ w = w' := by
  go_enter Tryz.func56, Tryz.ntmps56
  go_wp2_with fail
  go_end0
  exact ⟨rfl, rfl⟩
theorem mload_nil (p : Value) (w : World) : Calls Tryz.prog 51 #[.pointer none, p] w fun e w' => e = .returned (.int .i64 1) ∧ w = w' := by
  go_enter Tryz.func51, Tryz.ntmps51
  go_wp2_with fail
  go_ret
  exact ⟨rfl, rfl⟩
theorem mstage_nil (w : World) : Calls Tryz.prog 55 #[.pointer none] w fun e w' => e = .returned (.agg #[.int .u8 0, .int .u8 0, .int .i64 0, .slice none 0 0]) ∧ Below w.heap.size w w' := by
  have hT := Whole.fresh w 91 #[.int .u8 0, .int .u8 0, .int .i64 0, .slice none 0 0]
  have hB := Lib.hid ((((((Below.refl w.heap.size w).alloc (Nat.le_refl _) (.cells #[.int .u8 0, .int .u8 0, .int .i64 0, .slice none 0 0] 91)).setCell (p := ⟨w.heap.size, 0, none⟩) (Nat.le_refl _) (.int .u8 0)).setCell (p := ⟨w.heap.size, 1, none⟩) (Nat.le_refl _) (.int .u8 0)).setCell (p := ⟨w.heap.size, 2, none⟩) (Nat.le_refl _) (.int .i64 0)).setCell (p := ⟨w.heap.size, 3, none⟩) (Nat.le_refl _) (.slice none 0 0))
  have hW := (((hT.put 0 (.int .u8 0)).put 1 (.int .u8 0)).put 2 (.int .i64 0)).put 3 (.slice none 0 0)
  simp only [List.setIfInBounds_toArray, List.set_cons_zero, List.set_cons_succ] at hW
  replace hW := Lib.hid hW
  have t0 := hT.cell 0
  have f0 := hT.free 0
  have t1 := hT.cell 1
  have f1 := hT.free 1
  have t2 := hT.cell 2
  have f2 := hT.free 2
  have t3 := hT.cell 3
  have f3 := hT.free 3
  simp only [List.getElem?_toArray, List.getElem?_cons_zero, List.getElem?_cons_succ] at t0 t1 t2 t3
  clear hT
  obtain ⟨V, hV⟩ : ∃ V, w.alloc (.cells #[.int .u8 0, .int .u8 0, .int .i64 0, .slice none 0 0] 91) = V := ⟨_, rfl⟩
  rw [hV] at t0 f0 t1 f1 t2 f2 t3 f3 hB hW
  obtain ⟨T, hT⟩ : ∃ T, w.heap.size = T := ⟨_, rfl⟩
  rw [hT] at t0 f0 t1 f1 t2 f2 t3 f3 hB hW
  go_enter Tryz.func55, Tryz.ntmps55
  go_upto_region 1 with (fail)
  clear hV
  go_wp2_with fail
  exact bodyPost_ret (results_cell_row (fn := Tryz.f55) (p := 2) (ty := 91) rfl _ _ _ _ _ (0, 0) _ rfl hW.out Tryz.underlying91 rfl (by kernel_rfl)) rfl ⟨rfl, by rw [hT]; exact hB.out⟩
theorem mregs_nil (w : World) : Calls Tryz.prog 54 #[.pointer none] w fun e w' => e = .returned (.agg #[.int .u16 0, .int .u16 0, .int .u16 0, .int .u16 0, .int .u16 0, .int .u16 0, .int .u8 0, .int .u8 0, .int .u8 0, .bool false]) ∧ Below w.heap.size w w' := by
  have hT := Whole.fresh w 24 #[.int .u16 0, .int .u16 0, .int .u16 0, .int .u16 0, .int .u16 0, .int .u16 0, .int .u8 0, .int .u8 0, .int .u8 0, .bool false]
  have hB := Lib.hid ((((((((((((Below.refl w.heap.size w).alloc (Nat.le_refl _) (.cells #[.int .u16 0, .int .u16 0, .int .u16 0, .int .u16 0, .int .u16 0, .int .u16 0, .int .u8 0, .int .u8 0, .int .u8 0, .bool false] 24)).setCell (p := ⟨w.heap.size, 0, none⟩) (Nat.le_refl _) (.int .u16 0)).setCell (p := ⟨w.heap.size, 1, none⟩) (Nat.le_refl _) (.int .u16 0)).setCell (p := ⟨w.heap.size, 2, none⟩) (Nat.le_refl _) (.int .u16 0)).setCell (p := ⟨w.heap.size, 3, none⟩) (Nat.le_refl _) (.int .u16 0)).setCell (p := ⟨w.heap.size, 4, none⟩) (Nat.le_refl _) (.int .u16 0)).setCell (p := ⟨w.heap.size, 5, none⟩) (Nat.le_refl _) (.int .u16 0)).setCell (p := ⟨w.heap.size, 6, none⟩) (Nat.le_refl _) (.int .u8 0)).setCell (p := ⟨w.heap.size, 7, none⟩) (Nat.le_refl _) (.int .u8 0)).setCell (p := ⟨w.heap.size, 8, none⟩) (Nat.le_refl _) (.int .u8 0)).setCell (p := ⟨w.heap.size, 9, none⟩) (Nat.le_refl _) (.bool false))
  have hW := (((((((((hT.put 0 (.int .u16 0)).put 1 (.int .u16 0)).put 2 (.int .u16 0)).put 3 (.int .u16 0)).put 4 (.int .u16 0)).put 5 (.int .u16 0)).put 6 (.int .u8 0)).put 7 (.int .u8 0)).put 8 (.int .u8 0)).put 9 (.bool false)
  simp only [List.setIfInBounds_toArray, List.set_cons_zero, List.set_cons_succ] at hW
  replace hW := Lib.hid hW
  have t0 := hT.cell 0
  have f0 := hT.free 0
  have t1 := hT.cell 1
  have f1 := hT.free 1
  have t2 := hT.cell 2
  have f2 := hT.free 2
  have t3 := hT.cell 3
  have f3 := hT.free 3
  have t4 := hT.cell 4
  have f4 := hT.free 4
  have t5 := hT.cell 5
  have f5 := hT.free 5
  have t6 := hT.cell 6
  have f6 := hT.free 6
  have t7 := hT.cell 7
  have f7 := hT.free 7
  have t8 := hT.cell 8
  have f8 := hT.free 8
  have t9 := hT.cell 9
  have f9 := hT.free 9
  simp only [List.getElem?_toArray, List.getElem?_cons_zero, List.getElem?_cons_succ] at t0 t1 t2 t3 t4 t5 t6 t7 t8 t9
  clear hT
  obtain ⟨V, hV⟩ : ∃ V, w.alloc (.cells #[.int .u16 0, .int .u16 0, .int .u16 0, .int .u16 0, .int .u16 0, .int .u16 0, .int .u8 0, .int .u8 0, .int .u8 0, .bool false] 24) = V := ⟨_, rfl⟩
  rw [hV] at t0 f0 t1 f1 t2 f2 t3 f3 t4 f4 t5 f5 t6 f6 t7 f7 t8 f8 t9 f9 hB hW
  obtain ⟨T, hT⟩ : ∃ T, w.heap.size = T := ⟨_, rfl⟩
  rw [hT] at t0 f0 t1 f1 t2 f2 t3 f3 t4 f4 t5 f5 t6 f6 t7 f7 t8 f8 t9 f9 hB hW
  go_enter Tryz.func54, Tryz.ntmps54
  go_upto_region 1 with (fail)
  clear hV
  go_wp2_with fail
  exact bodyPost_ret (results_cell_row (fn := Tryz.f54) (p := 2) (ty := 24) rfl _ _ _ _ _ (0, 0) _ rfl hW.out Tryz.underlying24 rfl (by kernel_rfl)) rfl ⟨rfl, by rw [hT]; exact hB.out⟩
theorem mnext_nil (w : World) : Calls Tryz.prog 43 #[.pointer none] w fun e w' => e = .returned (.agg #[.int .u8 0, .int .u32 0, .int .u8 0]) ∧ Below w.heap.size w w' := by
  have hT := Whole.fresh w 35 #[.int .u8 0, .int .u32 0, .int .u8 0]
  have hB := Lib.hid (((((Below.refl w.heap.size w).alloc (Nat.le_refl _) (.cells #[.int .u8 0, .int .u32 0, .int .u8 0] 35)).setCell (p := ⟨w.heap.size, 0, none⟩) (Nat.le_refl _) (.int .u8 0)).setCell (p := ⟨w.heap.size, 1, none⟩) (Nat.le_refl _) (.int .u32 0)).setCell (p := ⟨w.heap.size, 2, none⟩) (Nat.le_refl _) (.int .u8 0))
  have hW := ((hT.put 0 (.int .u8 0)).put 1 (.int .u32 0)).put 2 (.int .u8 0)
  simp only [List.setIfInBounds_toArray, List.set_cons_zero, List.set_cons_succ] at hW
  replace hW := Lib.hid hW
  have t0 := hT.cell 0
  have f0 := hT.free 0
  have t1 := hT.cell 1
  have f1 := hT.free 1
  have t2 := hT.cell 2
  have f2 := hT.free 2
  simp only [List.getElem?_toArray, List.getElem?_cons_zero, List.getElem?_cons_succ] at t0 t1 t2
  clear hT
  obtain ⟨V, hV⟩ : ∃ V, w.alloc (.cells #[.int .u8 0, .int .u32 0, .int .u8 0] 35) = V := ⟨_, rfl⟩
  rw [hV] at t0 f0 t1 f1 t2 f2 hB hW
  obtain ⟨T, hT⟩ : ∃ T, w.heap.size = T := ⟨_, rfl⟩
  rw [hT] at t0 f0 t1 f1 t2 f2 hB hW
  go_enter Tryz.func43, Tryz.ntmps43
  go_upto_region 1 with (fail)
  clear hV
  go_wp2_with fail
  exact bodyPost_ret (results_cell_row (fn := Tryz.f43) (p := 2) (ty := 35) rfl _ _ _ _ _ (0, 0) _ rfl hW.out Tryz.underlying35 rfl (by kernel_rfl)) rfl ⟨rfl, by rw [hT]; exact hB.out⟩
theorem rleft_new (w : World) (R : Nat) (v : Value) (n : Nat) (f : Nat → Nat) (h : Rd w R v ⟨n, f, 0, 0, fun _ => 0⟩) (hn : n ≤ 16777216) :
    Calls Tryz.prog 57 #[.pointer (some ⟨R, 0, none⟩)] w fun e w' => e = .returned (.int .i64 (n : Nat)) ∧ Below w.heap.size w w' := by
  have HL := left_any w h ⟨Nat.zero_le _, hn, Nat.zero_le _, fun i j _ hj => absurd hj (Nat.not_lt_zero _), fun i hi => absurd hi (Nat.not_lt_zero _)⟩
  rw [show RS.left ⟨n, f, 0, 0, fun _ => 0⟩ = n from rfl] at HL
  replace HL := Lib.hid HL
  clear h hn
  go_enter Tryz.func57, Tryz.ntmps57
  go_wp2_with fail
  refine HL.out.mono ?_
  rintro e W ⟨rfl, q, rfl⟩
  have hb := Lib.hid (below_drewN (Below.refl w.heap.size w) q)
  generalize w.drewN q = W1 at *
  clear HL
  go_wp2_with fail
  go_ret
  exact ⟨rfl, hb.out⟩
end Go.Proofs.YtnacdaodjgdnnaaGreat
