/-
  All codes, one behind the other: what All gives.
-/
import Derived.Test.YtlogijjgachdjaaDoorOf
import Derived.RangeFuncNested
import Derived.RangeFuncBound
import Derived.RangeFuncCalls
import Derived.RangeFuncLeaves
import Derived.Shelf.RegionOpen
import Derived.OwnWalkIn
import Derived.TacticsInMore
import Derived.LoopNIn
import Derived.LoopIn
import Derived.Deep.RegionWith
import Derived.Deep.RegionHeld3
namespace Go.Proofs.YtlogijjgachdjaaDoor
open Go.RowKit Go.Shelf
attribute [local go_sem] Oper.semAt_some
set_option maxRecDepth 100000
set_option maxHeartbeats 1000000
set_option linter.unusedVariables false

abbrev Cd := Fin 256
def cdOf (q : Nat) : Cd := ⟨q % 256, Nat.mod_lt _ (by decide)⟩
theorem cdOf_val {q : Nat} (h : q < 256) : (cdOf q).1 = q := Nat.mod_eq_of_lt h
/-- The first i notes. -/
def upC (i : Nat) : List Cd := (List.range i).map cdOf
theorem upC_zero : upC 0 = [] := rfl
theorem upC_step (i : Nat) : upC (i + 1) = upC i ++ [cdOf i] := by simp [upC, List.range_succ]
theorem upC_len (i : Nat) : (upC i).length = i := by simp [upC]
theorem upC_prefix {i j : Nat} (h : i ≤ j) : upC i <+: upC j := by
  induction j with
  | zero => rw [show i = 0 by omega]; exact List.prefix_refl _
  | succ j ih =>
    by_cases e : i = j + 1
    · rw [e]; exact List.prefix_refl _
    · rw [upC_step]; exact (ih (by omega)).trans (List.prefix_append _ _)
def encC (x : Cd) : Array Value := #[ntV x.1]
attribute [local irreducible] ntV upC
theorem all_stops (w : World) (d : Nat) (hd : 1 ≤ d) :
    SeqStopsK Fence.wide d Tryd.prog 26 #[] encC (fun _ _ => True) (fun xs => xs = upC 256) (fun pre => pre <+: upC 256) 257 w := by
  intro lo J Jx W hW hJ hJx hY h0
  have HO : ∀ c : Nat, c < 256 → ∀ W' : World, Calls Tryd.prog 9 #[.int .u8 c] W' fun e w' => e = .returned (ntV c) ∧ Below W'.heap.size W' w' := fun c hc W' => by exact of_any c W' hc
  replace HO := Lib.hid HO
  replace hY := Lib.hid hY
  refine callsIn_of_wp Tryd.func26 rfl trivial ?_ rfl
  simp only [Tryd.ntmps26, List.size_toArray, List.length_cons, List.length_nil, Nat.reduceAdd, Nat.reduceSub, Array.replicate_succ, Array.replicate_zero, List.push_toArray, List.append_toArray, List.nil_append, List.cons_append]
  gi_wp2_with fail
  gi_loopw [3] (fun s3 wr => ∃ i : Nat, i ≤ 256 ∧ s3 = .int .i64 i ∧ J (upC i) wr) (fun s3 _ => 256 - (intOf s3).toNat)
  case atStart => exact ⟨0, by omega, rfl, by rw [upC_zero]; exact h0⟩
  case round =>
    obtain ⟨i, hi, rfl, hJi⟩ := hrel
    clear h0
    by_cases hlt : i < 256
    · have HOi := Lib.hid (HO.out i hlt)
      have t1 : decide ((i : Int) < 256) = true := decide_eq_true (by omega)
      have hlt2 := hlt
      gi_wp2_with fail
      refine ⟨trivial, ?_⟩
      refine (callsIn_wide.2 (HOi.out _)).mono ?_
      rintro e W2 ⟨rfl, hB2⟩
      have hJ2 := hJ _ _ W2 none hJi ⟨hB2.os, hB2.tape, hB2.output, hB2.size, fun k hk _ => hB2.block k hk⟩ (fun r e => by cases e)
      obtain ⟨fn, tmps, assign, body, hy, hR⟩ := hY.out _ (cdOf i) W2 hJ2 (by rw [upC_len]; omega)
      simp only [encC] at hy
      rw [cdOf_val hlt] at hy
      have hp2 := Lib.hid (upC_prefix (show i + 1 ≤ 256 by omega))
      clear hJi hB2 HOi
      replace hR := Lib.hid hR
      rw [← upC_step] at hR
      gi_wp2
      refine hR.out.mono ?_
      rintro e W3 (⟨rfl, hJ3, hk3⟩ | ⟨rfl, hJx3⟩)
      · clear hR hy
        gi_wp2
        go_roundw
        case rel => exact ⟨i + 1, by omega, by go_num, hJ3⟩
        case measure => simp [intOf]; omega
      · clear hR hy
        gi_wp2
        refine bodyPost_ret (results_none rfl _ _ _) rfl ?_
        exact ⟨⟨_, rfl⟩, .inr ⟨_, hp2.out, hJx3⟩⟩
    · obtain rfl : i = 256 := by omega
      have t1 : decide (((256 : Nat) : Int) < 256) = false := by decide
      gi_wp2_with fail
      go_end0
      exact ⟨⟨_, rfl⟩, .inl ⟨_, rfl, hJi⟩⟩
end Go.Proofs.YtlogijjgachdjaaDoor
