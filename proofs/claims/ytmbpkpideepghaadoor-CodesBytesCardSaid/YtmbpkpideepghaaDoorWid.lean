/-
  Widths and uses, by names.
-/
import Derived.Test.YtmbpkpideepghaaDoorTab
namespace Go.Proofs.YtmbpkpideepghaaDoor
open Go.RowKit
set_option maxRecDepth 1000000
set_option maxHeartbeats 4000000
set_option linter.unusedVariables false

def namesM : List (List UInt8) := [[79, 82, 65], [65, 78, 68], [69, 79, 82], [65, 68, 67], [83, 84, 65], [76, 68, 65], [67, 77, 80], [83, 66, 67], [66, 73, 84], [65, 83, 76], [82, 79, 76], [76, 83, 82], [82, 79, 82], [73, 78, 67], [68, 69, 67], [84, 83, 66], [84, 82, 66], [83, 84, 90]]
def namesX : List (List UInt8) := [[76, 68, 88], [76, 68, 89], [83, 84, 88], [83, 84, 89], [67, 80, 88], [67, 80, 89]]
def namesW : List (List UInt8) := [[82, 69, 80], [83, 69, 80]]
def namesR : List (List UInt8) := [[79, 82, 65], [65, 78, 68], [69, 79, 82], [65, 68, 67], [76, 68, 65], [67, 77, 80], [83, 66, 67], [66, 73, 84], [76, 68, 88], [76, 68, 89], [67, 80, 88], [67, 80, 89]]
def namesS : List (List UInt8) := [[83, 84, 65], [83, 84, 88], [83, 84, 89], [83, 84, 90]]
def namesC : List (List UInt8) := [[65, 83, 76], [82, 79, 76], [76, 83, 82], [82, 79, 82], [73, 78, 67], [68, 69, 67], [84, 83, 66], [84, 82, 66]]
def widthF (l : List UInt8) : Nat := if l ∈ namesM then 1 else if l ∈ namesX then 2 else if l ∈ namesW then 3 else 0
def useF (l : List UInt8) (m : Nat) : Nat := if m = 0 ∨ m = 1 ∨ m = 2 then 0 else if l ∈ namesR then 1 else if l ∈ namesS then 2 else if l ∈ namesC then 3 else 0
theorem eqb_false {l : List UInt8} {x : List UInt8} {ls : List (List UInt8)} (h : l ∉ ls) (hx : x ∈ ls) : (l == x) = false := by
  rw [beq_eq_false_iff_ne]
  exact fun e => h (e ▸ hx)
def namesMXW : List (List UInt8) := [[79, 82, 65], [65, 78, 68], [69, 79, 82], [65, 68, 67], [83, 84, 65], [76, 68, 65], [67, 77, 80], [83, 66, 67], [66, 73, 84], [65, 83, 76], [82, 79, 76], [76, 83, 82], [82, 79, 82], [73, 78, 67], [68, 69, 67], [84, 83, 66], [84, 82, 66], [83, 84, 90], [76, 68, 88], [76, 68, 89], [83, 84, 88], [83, 84, 89], [67, 80, 88], [67, 80, 89], [82, 69, 80], [83, 69, 80]]
theorem widthOf_any (s : ByteArray) (w : World) : Calls Tryd.prog 29 #[.string s] w fun e w' => e = .returned (.int .u8 (widthF s.toList : Nat)) ∧ w = w' := by
  generalize hl : s.toList = l
  by_cases h : l ∈ namesMXW
  · unfold namesMXW at h
    simp only [List.mem_cons, List.not_mem_nil, or_false] at h
    rcases h with rfl | rfl | rfl | rfl | rfl | rfl | rfl | rfl | rfl | rfl | rfl | rfl | rfl | rfl | rfl | rfl | rfl | rfl | rfl | rfl | rfl | rfl | rfl | rfl | rfl | rfl
    all_goals
      go_enter Tryd.func29, Tryd.ntmps29
      go_wp2_with fail
      go_ret
      exact ⟨rfl, rfl⟩
  have h0 : (l == [79, 82, 65]) = false := eqb_false h (by decide)
  have h1 : (l == [65, 78, 68]) = false := eqb_false h (by decide)
  have h2 : (l == [69, 79, 82]) = false := eqb_false h (by decide)
  have h3 : (l == [65, 68, 67]) = false := eqb_false h (by decide)
  have h4 : (l == [83, 84, 65]) = false := eqb_false h (by decide)
  have h5 : (l == [76, 68, 65]) = false := eqb_false h (by decide)
  have h6 : (l == [67, 77, 80]) = false := eqb_false h (by decide)
  have h7 : (l == [83, 66, 67]) = false := eqb_false h (by decide)
  have h8 : (l == [66, 73, 84]) = false := eqb_false h (by decide)
  have h9 : (l == [65, 83, 76]) = false := eqb_false h (by decide)
  have h10 : (l == [82, 79, 76]) = false := eqb_false h (by decide)
  have h11 : (l == [76, 83, 82]) = false := eqb_false h (by decide)
  have h12 : (l == [82, 79, 82]) = false := eqb_false h (by decide)
  have h13 : (l == [73, 78, 67]) = false := eqb_false h (by decide)
  have h14 : (l == [68, 69, 67]) = false := eqb_false h (by decide)
  have h15 : (l == [84, 83, 66]) = false := eqb_false h (by decide)
  have h16 : (l == [84, 82, 66]) = false := eqb_false h (by decide)
  have h17 : (l == [83, 84, 90]) = false := eqb_false h (by decide)
  have h18 : (l == [76, 68, 88]) = false := eqb_false h (by decide)
  have h19 : (l == [76, 68, 89]) = false := eqb_false h (by decide)
  have h20 : (l == [83, 84, 88]) = false := eqb_false h (by decide)
  have h21 : (l == [83, 84, 89]) = false := eqb_false h (by decide)
  have h22 : (l == [67, 80, 88]) = false := eqb_false h (by decide)
  have h23 : (l == [67, 80, 89]) = false := eqb_false h (by decide)
  have h24 : (l == [82, 69, 80]) = false := eqb_false h (by decide)
  have h25 : (l == [83, 69, 80]) = false := eqb_false h (by decide)
  have hr : widthF l = 0 := by
    have h1 : l ∉ namesM := fun e => h (by revert e; unfold namesM namesMXW; simp only [List.mem_cons, List.not_mem_nil, or_false]; intro e; (rcases e with e | e | e | e | e | e | e | e | e | e | e | e | e | e | e | e | e | e <;> simp [e]))
    have h2 : l ∉ namesX := fun e => h (by revert e; unfold namesX namesMXW; simp only [List.mem_cons, List.not_mem_nil, or_false]; intro e; (rcases e with e | e | e | e | e | e <;> simp [e]))
    have h3 : l ∉ namesW := fun e => h (by revert e; unfold namesW namesMXW; simp only [List.mem_cons, List.not_mem_nil, or_false]; intro e; (rcases e with e | e <;> simp [e]))
    unfold widthF
    rw [if_neg h1, if_neg h2, if_neg h3]
  rw [hr]
  clear hr h
  go_enter Tryd.func29, Tryd.ntmps29
  go_wp2_with fail
  go_ret
  exact ⟨rfl, rfl⟩
def namesRSC : List (List UInt8) := [[79, 82, 65], [65, 78, 68], [69, 79, 82], [65, 68, 67], [76, 68, 65], [67, 77, 80], [83, 66, 67], [66, 73, 84], [76, 68, 88], [76, 68, 89], [67, 80, 88], [67, 80, 89], [83, 84, 65], [83, 84, 88], [83, 84, 89], [83, 84, 90], [65, 83, 76], [82, 79, 76], [76, 83, 82], [82, 79, 82], [73, 78, 67], [68, 69, 67], [84, 83, 66], [84, 82, 66]]
theorem useF_no (l : List UInt8) (m : Nat) (h0 : m ≠ 0) (h1 : m ≠ 1) (h2 : m ≠ 2) : useF l m = if l ∈ namesR then 1 else if l ∈ namesS then 2 else if l ∈ namesC then 3 else 0 := by
  unfold useF
  rw [if_neg (by omega)]
theorem useOf_any (s : ByteArray) (m : Nat) (w : World) : Calls Tryd.prog 28 #[.string s, .int .u8 m] w fun e w' => e = .returned (.int .u8 (useF s.toList m : Nat)) ∧ w = w' := by
  generalize hl : s.toList = l
  by_cases m0 : m = 0 ∨ m = 1 ∨ m = 2
  · rcases m0 with rfl | rfl | rfl
    all_goals
      go_enter Tryd.func28, Tryd.ntmps28
      go_wp2_with fail
      go_ret
      exact ⟨rfl, rfl⟩
  have n0 : m ≠ 0 := fun e => m0 (.inl e)
  have n1 : m ≠ 1 := fun e => m0 (.inr (.inl e))
  have n2 : m ≠ 2 := fun e => m0 (.inr (.inr e))
  rw [useF_no l m n0 n1 n2]
  have b0 : ((m : Int) == 0) = false := by rw [beq_eq_false_iff_ne]; omega
  have b1 : ((m : Int) == 1) = false := by rw [beq_eq_false_iff_ne]; omega
  have b2 : ((m : Int) == 2) = false := by rw [beq_eq_false_iff_ne]; omega
  clear m0
  generalize hF : (if l ∈ namesR then 1 else if l ∈ namesS then 2 else if l ∈ namesC then 3 else 0) = F
  by_cases h : l ∈ namesRSC
  · unfold namesRSC at h
    simp only [List.mem_cons, List.not_mem_nil, or_false] at h
    rcases h with rfl | rfl | rfl | rfl | rfl | rfl | rfl | rfl | rfl | rfl | rfl | rfl | rfl | rfl | rfl | rfl | rfl | rfl | rfl | rfl | rfl | rfl | rfl | rfl
    all_goals
      have hF2 := hF
      clear hF
      replace hF2 : _ = F := hF2
      first | (obtain rfl : 1 = F := hF2) | (obtain rfl : 2 = F := hF2) | (obtain rfl : 3 = F := hF2)
      go_enter Tryd.func28, Tryd.ntmps28
      go_wp2_with fail
      go_ret
      exact ⟨rfl, rfl⟩
  have h0 : (l == [79, 82, 65]) = false := eqb_false h (by decide)
  have h1 : (l == [65, 78, 68]) = false := eqb_false h (by decide)
  have h2 : (l == [69, 79, 82]) = false := eqb_false h (by decide)
  have h3 : (l == [65, 68, 67]) = false := eqb_false h (by decide)
  have h4 : (l == [76, 68, 65]) = false := eqb_false h (by decide)
  have h5 : (l == [67, 77, 80]) = false := eqb_false h (by decide)
  have h6 : (l == [83, 66, 67]) = false := eqb_false h (by decide)
  have h7 : (l == [66, 73, 84]) = false := eqb_false h (by decide)
  have h8 : (l == [76, 68, 88]) = false := eqb_false h (by decide)
  have h9 : (l == [76, 68, 89]) = false := eqb_false h (by decide)
  have h10 : (l == [67, 80, 88]) = false := eqb_false h (by decide)
  have h11 : (l == [67, 80, 89]) = false := eqb_false h (by decide)
  have h12 : (l == [83, 84, 65]) = false := eqb_false h (by decide)
  have h13 : (l == [83, 84, 88]) = false := eqb_false h (by decide)
  have h14 : (l == [83, 84, 89]) = false := eqb_false h (by decide)
  have h15 : (l == [83, 84, 90]) = false := eqb_false h (by decide)
  have h16 : (l == [65, 83, 76]) = false := eqb_false h (by decide)
  have h17 : (l == [82, 79, 76]) = false := eqb_false h (by decide)
  have h18 : (l == [76, 83, 82]) = false := eqb_false h (by decide)
  have h19 : (l == [82, 79, 82]) = false := eqb_false h (by decide)
  have h20 : (l == [73, 78, 67]) = false := eqb_false h (by decide)
  have h21 : (l == [68, 69, 67]) = false := eqb_false h (by decide)
  have h22 : (l == [84, 83, 66]) = false := eqb_false h (by decide)
  have h23 : (l == [84, 82, 66]) = false := eqb_false h (by decide)
  have hr : F = 0 := by
    have h1 : l ∉ namesR := fun e => h (by revert e; unfold namesR namesRSC; simp only [List.mem_cons, List.not_mem_nil, or_false]; intro e; (rcases e with e | e | e | e | e | e | e | e | e | e | e | e <;> simp [e]))
    have h2 : l ∉ namesS := fun e => h (by revert e; unfold namesS namesRSC; simp only [List.mem_cons, List.not_mem_nil, or_false]; intro e; (rcases e with e | e | e | e <;> simp [e]))
    have h3 : l ∉ namesC := fun e => h (by revert e; unfold namesC namesRSC; simp only [List.mem_cons, List.not_mem_nil, or_false]; intro e; (rcases e with e | e | e | e | e | e | e | e <;> simp [e]))
    rw [← hF, if_neg h1, if_neg h2, if_neg h3]
  subst hr
  clear hF h
  go_enter Tryd.func28, Tryd.ntmps28
  go_wp2_with fail
  go_ret
  exact ⟨rfl, rfl⟩
end Go.Proofs.YtmbpkpideepghaaDoor
