/-
  BoardNil: the walk.
-/
import Derived.Test.YthhahhmdpjchkaaDecH
namespace Go.Proofs.Ythhahhmdpjchkaa.boardNil
open Go.RowKit Go.Shelf
set_option maxHeartbeats 1000000
set_option maxRecDepth 100000
theorem decode_nil (a : Int) (w : World) :
    Calls Try.prog 13 #[.pointer none, .int .u32 a] w fun e w' => e = .returned (.agg #[.int .u8 0, .int .i64 0]) ∧ Below w.heap.size w w' := by
  go_enter Try.func13, Try.ntmps13
  go_wp2
  exact bodyPost_ret (results_cell_row (fn := Try.f13) (p := 4) (ty := 33) rfl _ _ _ _ _ (0, 0) _ rfl (Whole.fresh w 33 _) Try.underlying33 rfl (by kernel_rfl)) rfl ⟨rfl, (Below.refl _ w).alloc (Nat.le_refl _) _⟩
theorem bytes_nil (k : Int) (w : World) :
    Calls Try.prog 28 #[.pointer none, .int .u8 k] w fun e w' => e = .returned (.slice none 0 0) ∧ w' = w := by
  go_enter Try.func28, Try.ntmps28
  go_wp2
  go_ret
  exact ⟨rfl, rfl⟩
theorem read_nil (a : Int) (w : World) :
    Calls Try.prog 14 #[.pointer none, .int .u32 a] w fun e w' => e = .returned (.tuple #[.int .u8 0, .bool false]) ∧ Below w.heap.size w w' := by
  go_enter Try.func14, Try.ntmps14
  go_wp2_with (go_at_call 13; refine (decode_nil _ _).mono ?_; rintro e w1 ⟨rfl, hB1⟩)
  go_ret2
  exact ⟨rfl, hB1.alloc hB1.size _⟩
theorem write_nil (a v : Int) (w : World) :
    Calls Try.prog 15 #[.pointer none, .int .u32 a, .int .u8 v] w fun e w' => e = .returned (.bool false) ∧ Below w.heap.size w w' := by
  go_enter Try.func15, Try.ntmps15
  go_wp2_with (go_at_call 13; refine (decode_nil _ _).mono ?_; rintro e w1 ⟨rfl, hB1⟩)
  go_ret
  exact ⟨rfl, hB1.alloc hB1.size _⟩
theorem ram_nil (w : World) :
    Calls Try.prog 16 #[.pointer none] w fun e w' => e = .returned (.slice none 0 0) ∧ w' = w := by
  go_enter Try.func16, Try.ntmps16
  go_wp2_with (first | (go_at_call 28; refine (bytes_nil _ _).mono ?_; rintro e w1 ⟨rfl, rfl⟩) | (go_at_call 29; refine (Try.slices_Clone_nil _ _ _).mono ?_; rintro e w1 ⟨rfl, rfl⟩))
  go_ret
  exact ⟨rfl, rfl⟩
theorem setRam_nil (w : World) :
    Calls Try.prog 21 #[.pointer none, .slice none 0 0] w fun e w' => e = .returned (.int .i64 1) ∧ w' = w := by
  go_enter Try.func21, Try.ntmps21
  go_wp2
  go_ret
  exact ⟨rfl, rfl⟩
theorem walk (a0 : Int) (a1 : Int) (_ : (Lit.int .u32 a0).wf = true) (_ : (Lit.int .u8 a1).wf = true) (w : World) :
    Calls Try.prog 10 #[.int .u32 a0, .int .u8 a1] w fun e w' => e = .returned (.bool true) ∧ Below w.heap.size w w' := by
  go_enter Try.func10, Try.ntmps10
  go_wp2_with (first
    | (go_at_call 14; refine (read_nil _ _).mono ?_; rintro e w1 ⟨rfl, hB1⟩)
    | (go_at_call 15; refine (write_nil _ _ _).mono ?_; rintro e w2 ⟨rfl, hB2⟩)
    | (go_at_call 13; refine (decode_nil _ _).mono ?_; rintro e w3 ⟨rfl, hB3⟩)
    | (go_at_call 16; refine (ram_nil _).mono ?_; rintro e w4 ⟨rfl, rfl⟩)
    | (go_at_call 21; refine (setRam_nil _).mono ?_; rintro e w4 ⟨rfl, rfl⟩))
  go_ret
  exact ⟨rfl, (hB1.trans (hB2.mono hB1.size)).trans (hB3.mono (Nat.le_trans hB1.size hB2.size))⟩
end Go.Proofs.Ythhahhmdpjchkaa.boardNil
