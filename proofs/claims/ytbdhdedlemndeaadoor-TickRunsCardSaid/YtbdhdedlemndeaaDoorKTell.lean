/-
  Which register is what, by the code (genktell.py writes this text).
-/
import Derived.Test.YtbdhdedlemndeaaDoorKStep
namespace Go.Proofs.YtbdhdedlemndeaaDoor
open Go.RowKit Go.Shelf
set_option maxRecDepth 100000
set_option maxHeartbeats 1000000
set_option linter.unusedVariables false

theorem then_exit {K : Act → World → Prop} {Q : Exit → Act → World → Prop} {i : Nat} {a : Act} {w : World} (h : Q (.exit i) a w) : Exit.then K Q (.exit i) a w := h
theorem block_hit {Q : Exit → Act → World → Prop} {i : Nat} {a : Act} {w : World} (h : Q .normal a w) : Exit.inBlock i Q (.exit i) a w := by
  simp only [Exit.inBlock, if_true]
  exact h
theorem block_miss {Q : Exit → Act → World → Prop} {i j : Nat} {a : Act} {w : World} (hj : (j == i) = false) (h : Q (.exit j) a w) : Exit.inBlock i Q (.exit j) a w := by
  have : ¬ j = i := by simpa using hj
  simp only [Exit.inBlock, this, if_false]
  exact h
def kindF (r : Nat) : Nat := if r = 1 then 1 else if r < 4 then 0 else if r < 8 then 2 else if r < 10 then 3 else if r < 13 then 4 else if r < 16 then 5 else 0
def idxF (r : Nat) : Nat := if r < 4 then 0 else if r < 8 then r - 4 else if r < 10 then r - 8 else if r < 13 then r - 10 else if r < 16 then r - 13 else 0
theorem tell_1 (w : World) : Calls Tryd.prog 32 #[.int .u8 1] w fun e w' => e = .returned (.tuple #[.int .u8 1, .int .i64 0]) ∧ w' = w := by
  go_enter Tryd.func32, Tryd.ntmps32
  go_upto_if 5 with fail
  refine wp_cond_true rfl ?_
  apply wp_exit
  repeat (first | refine then_exit ?_ | refine block_miss rfl ?_)
  refine block_hit ?_
  go_wp2_with fail
  go_ret2
  exact ⟨rfl, rfl⟩
theorem tell_4 (w : World) : Calls Tryd.prog 32 #[.int .u8 4] w fun e w' => e = .returned (.tuple #[.int .u8 2, .int .i64 0]) ∧ w' = w := by
  go_enter Tryd.func32, Tryd.ntmps32
  go_upto_if 13 with fail
  refine wp_cond_true rfl ?_
  apply wp_exit
  repeat (first | refine then_exit ?_ | refine block_miss rfl ?_)
  refine block_hit ?_
  go_wp2_with fail
  go_ret2
  exact ⟨rfl, rfl⟩
theorem tell_5 (w : World) : Calls Tryd.prog 32 #[.int .u8 5] w fun e w' => e = .returned (.tuple #[.int .u8 2, .int .i64 1]) ∧ w' = w := by
  go_enter Tryd.func32, Tryd.ntmps32
  go_upto_if 11 with fail
  refine wp_cond_true rfl ?_
  apply wp_exit
  repeat (first | refine then_exit ?_ | refine block_miss rfl ?_)
  refine block_hit ?_
  go_wp2_with fail
  go_ret2
  exact ⟨rfl, rfl⟩
theorem tell_6 (w : World) : Calls Tryd.prog 32 #[.int .u8 6] w fun e w' => e = .returned (.tuple #[.int .u8 2, .int .i64 2]) ∧ w' = w := by
  go_enter Tryd.func32, Tryd.ntmps32
  go_upto_if 9 with fail
  refine wp_cond_true rfl ?_
  apply wp_exit
  repeat (first | refine then_exit ?_ | refine block_miss rfl ?_)
  refine block_hit ?_
  go_wp2_with fail
  go_ret2
  exact ⟨rfl, rfl⟩
theorem tell_7 (w : World) : Calls Tryd.prog 32 #[.int .u8 7] w fun e w' => e = .returned (.tuple #[.int .u8 2, .int .i64 3]) ∧ w' = w := by
  go_enter Tryd.func32, Tryd.ntmps32
  go_upto_if 7 with fail
  refine wp_cond_true rfl ?_
  apply wp_exit
  repeat (first | refine then_exit ?_ | refine block_miss rfl ?_)
  refine block_hit ?_
  go_wp2_with fail
  go_ret2
  exact ⟨rfl, rfl⟩
theorem tell_8 (w : World) : Calls Tryd.prog 32 #[.int .u8 8] w fun e w' => e = .returned (.tuple #[.int .u8 3, .int .i64 0]) ∧ w' = w := by
  go_enter Tryd.func32, Tryd.ntmps32
  go_upto_if 17 with fail
  refine wp_cond_true rfl ?_
  apply wp_exit
  repeat (first | refine then_exit ?_ | refine block_miss rfl ?_)
  refine block_hit ?_
  go_wp2_with fail
  go_ret2
  exact ⟨rfl, rfl⟩
theorem tell_9 (w : World) : Calls Tryd.prog 32 #[.int .u8 9] w fun e w' => e = .returned (.tuple #[.int .u8 3, .int .i64 1]) ∧ w' = w := by
  go_enter Tryd.func32, Tryd.ntmps32
  go_upto_if 15 with fail
  refine wp_cond_true rfl ?_
  apply wp_exit
  repeat (first | refine then_exit ?_ | refine block_miss rfl ?_)
  refine block_hit ?_
  go_wp2_with fail
  go_ret2
  exact ⟨rfl, rfl⟩
theorem tell_10 (w : World) : Calls Tryd.prog 32 #[.int .u8 10] w fun e w' => e = .returned (.tuple #[.int .u8 4, .int .i64 0]) ∧ w' = w := by
  go_enter Tryd.func32, Tryd.ntmps32
  go_upto_if 23 with fail
  refine wp_cond_true rfl ?_
  apply wp_exit
  repeat (first | refine then_exit ?_ | refine block_miss rfl ?_)
  refine block_hit ?_
  go_wp2_with fail
  go_ret2
  exact ⟨rfl, rfl⟩
theorem tell_11 (w : World) : Calls Tryd.prog 32 #[.int .u8 11] w fun e w' => e = .returned (.tuple #[.int .u8 4, .int .i64 1]) ∧ w' = w := by
  go_enter Tryd.func32, Tryd.ntmps32
  go_upto_if 21 with fail
  refine wp_cond_true rfl ?_
  apply wp_exit
  repeat (first | refine then_exit ?_ | refine block_miss rfl ?_)
  refine block_hit ?_
  go_wp2_with fail
  go_ret2
  exact ⟨rfl, rfl⟩
theorem tell_12 (w : World) : Calls Tryd.prog 32 #[.int .u8 12] w fun e w' => e = .returned (.tuple #[.int .u8 4, .int .i64 2]) ∧ w' = w := by
  go_enter Tryd.func32, Tryd.ntmps32
  go_upto_if 19 with fail
  refine wp_cond_true rfl ?_
  apply wp_exit
  repeat (first | refine then_exit ?_ | refine block_miss rfl ?_)
  refine block_hit ?_
  go_wp2_with fail
  go_ret2
  exact ⟨rfl, rfl⟩
theorem tell_13 (w : World) : Calls Tryd.prog 32 #[.int .u8 13] w fun e w' => e = .returned (.tuple #[.int .u8 5, .int .i64 0]) ∧ w' = w := by
  go_enter Tryd.func32, Tryd.ntmps32
  go_upto_if 29 with fail
  refine wp_cond_true rfl ?_
  apply wp_exit
  repeat (first | refine then_exit ?_ | refine block_miss rfl ?_)
  refine block_hit ?_
  go_wp2_with fail
  go_ret2
  exact ⟨rfl, rfl⟩
theorem tell_14 (w : World) : Calls Tryd.prog 32 #[.int .u8 14] w fun e w' => e = .returned (.tuple #[.int .u8 5, .int .i64 1]) ∧ w' = w := by
  go_enter Tryd.func32, Tryd.ntmps32
  go_upto_if 27 with fail
  refine wp_cond_true rfl ?_
  apply wp_exit
  repeat (first | refine then_exit ?_ | refine block_miss rfl ?_)
  refine block_hit ?_
  go_wp2_with fail
  go_ret2
  exact ⟨rfl, rfl⟩
theorem tell_15 (w : World) : Calls Tryd.prog 32 #[.int .u8 15] w fun e w' => e = .returned (.tuple #[.int .u8 5, .int .i64 2]) ∧ w' = w := by
  go_enter Tryd.func32, Tryd.ntmps32
  go_upto_if 25 with fail
  refine wp_cond_true rfl ?_
  apply wp_exit
  repeat (first | refine then_exit ?_ | refine block_miss rfl ?_)
  refine block_hit ?_
  go_wp2_with fail
  go_ret2
  exact ⟨rfl, rfl⟩
theorem tell_none (r : Nat) (w : World) (hr : r = 0 ∨ r = 2 ∨ r = 3 ∨ 16 ≤ r) : Calls Tryd.prog 32 #[.int .u8 (r : Nat)] w fun e w' => e = .returned (.tuple #[.int .u8 0, .int .i64 0]) ∧ w' = w := by
  have t1 : ((r : Int) == 1) = false := beq_eq_false_iff_ne.2 (by omega)
  have t4 : ((r : Int) == 4) = false := beq_eq_false_iff_ne.2 (by omega)
  have t5 : ((r : Int) == 5) = false := beq_eq_false_iff_ne.2 (by omega)
  have t6 : ((r : Int) == 6) = false := beq_eq_false_iff_ne.2 (by omega)
  have t7 : ((r : Int) == 7) = false := beq_eq_false_iff_ne.2 (by omega)
  have t8 : ((r : Int) == 8) = false := beq_eq_false_iff_ne.2 (by omega)
  have t9 : ((r : Int) == 9) = false := beq_eq_false_iff_ne.2 (by omega)
  have t10 : ((r : Int) == 10) = false := beq_eq_false_iff_ne.2 (by omega)
  have t11 : ((r : Int) == 11) = false := beq_eq_false_iff_ne.2 (by omega)
  have t12 : ((r : Int) == 12) = false := beq_eq_false_iff_ne.2 (by omega)
  have t13 : ((r : Int) == 13) = false := beq_eq_false_iff_ne.2 (by omega)
  have t14 : ((r : Int) == 14) = false := beq_eq_false_iff_ne.2 (by omega)
  have t15 : ((r : Int) == 15) = false := beq_eq_false_iff_ne.2 (by omega)
  clear hr
  go_enter Tryd.func32, Tryd.ntmps32
  go_upto_if 29 with fail
  refine wp_cond_false rfl ?_
  go_wp2_with fail
  go_ret2
  exact ⟨rfl, rfl⟩
theorem tell_any (r : Nat) (w : World) : Calls Tryd.prog 32 #[.int .u8 (r : Nat)] w fun e w' => e = .returned (.tuple #[.int .u8 (kindF r : Nat), .int .i64 (idxF r : Nat)]) ∧ w' = w := by
  by_cases h : r = 0 ∨ r = 2 ∨ r = 3 ∨ 16 ≤ r
  · have e1 : kindF r = 0 := by unfold kindF; (repeat' split) <;> omega
    have e2 : idxF r = 0 := by unfold idxF; (repeat' split) <;> omega
    rw [e1, e2]
    exact tell_none r w h
  · rcases (show r = 1 ∨ r = 4 ∨ r = 5 ∨ r = 6 ∨ r = 7 ∨ r = 8 ∨ r = 9 ∨ r = 10 ∨ r = 11 ∨ r = 12 ∨ r = 13 ∨ r = 14 ∨ r = 15 by omega) with rfl | rfl | rfl | rfl | rfl | rfl | rfl | rfl | rfl | rfl | rfl | rfl | rfl
    · exact tell_1 w
    · exact tell_4 w
    · exact tell_5 w
    · exact tell_6 w
    · exact tell_7 w
    · exact tell_8 w
    · exact tell_9 w
    · exact tell_10 w
    · exact tell_11 w
    · exact tell_12 w
    · exact tell_13 w
    · exact tell_14 w
    · exact tell_15 w
end Go.Proofs.YtbdhdedlemndeaaDoor
