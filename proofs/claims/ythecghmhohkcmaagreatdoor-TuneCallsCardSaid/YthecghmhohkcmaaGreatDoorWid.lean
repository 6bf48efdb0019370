/-
  How many bytes an operand of a letter has.
-/
import Derived.Test.YthecghmhohkcmaaGreatDoorRow
import Derived.Lib.OthersKept
namespace Go.Proofs.YthecghmhohkcmaaGreatDoor
open Go.RowKit
set_option maxRecDepth 100000
set_option maxHeartbeats 4000000
set_option linter.unusedVariables false

def wdF (l : Nat) : Nat := if [35, 100, 120, 121, 68, 108, 109, 114, 98, 117].contains l then 1 else if [97, 112, 113, 42, 110, 47].contains l then 2 else 0
theorem wdF_le (l : Nat) : wdF l ≤ 2 := by
  unfold wdF
  by_cases h1 : [35, 100, 120, 121, 68, 108, 109, 114, 98, 117].contains l = true
  · rw [if_pos h1]; omega
  · rw [if_neg h1]
    by_cases h2 : [97, 112, 113, 42, 110, 47].contains l = true
    · rw [if_pos h2]; omega
    · rw [if_neg h2]; omega
theorem width_any (l : Nat) (w : World) (hl : l < 256) : Calls Tryz.prog 103 #[.int .u8 l] w fun e w' => e = .returned (.int .i64 (wdF l : Nat)) ∧ w' = w := by
  by_cases hin : l ∈ [35, 100, 120, 121, 68, 108, 109, 114, 98, 117, 97, 112, 113, 42, 110, 47]
  · simp only [List.mem_cons, List.not_mem_nil, or_false] at hin
    rcases hin with rfl | rfl | rfl | rfl | rfl | rfl | rfl | rfl | rfl | rfl | rfl | rfl | rfl | rfl | rfl | rfl
    all_goals
      go_enter Tryz.func103, Tryz.ntmps103
      go_wp2_with fail
      go_ret
      exact ⟨rfl, rfl⟩
  · simp only [List.mem_cons, List.not_mem_nil, or_false, not_or] at hin
    obtain ⟨h0, h1, h2, h3, h4, h5, h6, h7, h8, h9, h10, h11, h12, h13, h14, h15⟩ := hin
    have hw : wdF l = 0 := by simp [wdF, *]
    rw [hw]
    replace h0 : ((l : Int) == 35) = false := by rw [beq_eq_false_iff_ne]; omega
    replace h1 : ((l : Int) == 100) = false := by rw [beq_eq_false_iff_ne]; omega
    replace h2 : ((l : Int) == 120) = false := by rw [beq_eq_false_iff_ne]; omega
    replace h3 : ((l : Int) == 121) = false := by rw [beq_eq_false_iff_ne]; omega
    replace h4 : ((l : Int) == 68) = false := by rw [beq_eq_false_iff_ne]; omega
    replace h5 : ((l : Int) == 108) = false := by rw [beq_eq_false_iff_ne]; omega
    replace h6 : ((l : Int) == 109) = false := by rw [beq_eq_false_iff_ne]; omega
    replace h7 : ((l : Int) == 114) = false := by rw [beq_eq_false_iff_ne]; omega
    replace h8 : ((l : Int) == 98) = false := by rw [beq_eq_false_iff_ne]; omega
    replace h9 : ((l : Int) == 117) = false := by rw [beq_eq_false_iff_ne]; omega
    replace h10 : ((l : Int) == 97) = false := by rw [beq_eq_false_iff_ne]; omega
    replace h11 : ((l : Int) == 112) = false := by rw [beq_eq_false_iff_ne]; omega
    replace h12 : ((l : Int) == 113) = false := by rw [beq_eq_false_iff_ne]; omega
    replace h13 : ((l : Int) == 42) = false := by rw [beq_eq_false_iff_ne]; omega
    replace h14 : ((l : Int) == 110) = false := by rw [beq_eq_false_iff_ne]; omega
    replace h15 : ((l : Int) == 47) = false := by rw [beq_eq_false_iff_ne]; omega
    go_enter Tryz.func103, Tryz.ntmps103
    go_wp2_with fail
    go_ret
    exact ⟨rfl, rfl⟩
/-- Does a letter stand in a text, from place k on? -/
def inF (l : List Nat) (c : Nat) : Bool := l.contains c
theorem in_any (l : List Nat) (c : Nat) (w : World) (hl : ∀ x ∈ l, x < 256) (hz : l.length ≤ 100) (hc : c < 256) : Calls Tryz.prog 53 #[.string (bsOf l), .int .u8 c] w fun e w' => e = .returned (.bool (inF l c)) ∧ w' = w := by
  have hsz : (bsOf l).size = l.length := bsOf_size l
  have hby : ∀ k (h : k < (bsOf l).size), (bsOf l)[k].toNat = l.getD k 0 := fun k h => bsOf_byte l k h (by rw [List.getD_eq_getElem?_getD, List.getElem?_eq_getElem (by omega)]; exact hl _ (List.getElem_mem _))
  generalize bsOf l = S at *
  generalize hp : inF l c = p
  go_enter Tryz.func53, Tryz.ntmps53
  go_wp2_with fail
  go_loopw [5] (fun s5 wr => ∃ k : Nat, k ≤ S.size ∧ s5 = .int .i64 k ∧ Hid (inF (l.drop k) c = p) ∧ wr = w) (fun s5 _ => S.size - (intOf s5).toNat)
  case atStart => exact ⟨0, by omega, rfl, Lib.hid hp, rfl⟩
  case round =>
    obtain ⟨k, hk, rfl, hP, rfl⟩ := hrel
    clear hp
    have hP1 := hP.out
    by_cases hlt : k < S.size
    · have hb := hby k hlt
      have hd : l.drop k = l[k]'(by omega) :: l.drop (k + 1) := by rw [List.drop_eq_getElem_cons (by omega)]
      have hg : l.getD k 0 = l[k]'(by omega) := by rw [List.getD_eq_getElem?_getD, List.getElem?_eq_getElem (by omega)]; rfl
      rw [hd, ← hg, inF, List.contains_cons] at hP1
      by_cases hx : S[k].toNat = c
      · have t1 : ((S[k].toNat : Int) == (c : Int)) = true := by rw [hx]; simp
        rw [show (c == l.getD k 0) = true by rw [← hb, hx]; simp, Bool.true_or] at hP1
        subst hP1
        clear hP hby hd hg hb hx
        go_wp2_with fail
        go_ret
        exact ⟨rfl, rfl⟩
      · have t1 : ((S[k].toNat : Int) == (c : Int)) = false := by rw [beq_eq_false_iff_ne]; omega
        rw [show (c == l.getD k 0) = false by rw [← hb, beq_eq_false_iff_ne]; omega, Bool.false_or] at hP1
        have hP2 : Hid (inF (l.drop (k + 1)) c = p) := Lib.hid hP1
        clear hP hP1 hby hd hg hb hx
        go_wp2_with fail
        go_roundw
        case rel => exact ⟨k + 1, by omega, by go_num, hP2, trivial⟩
        case measure => simp [intOf]; omega
    · obtain rfl : k = S.size := by omega
      rw [hsz, List.drop_length, inF, List.contains_nil] at hP1
      subst hP1
      clear hP hby
      go_wp2_with fail
      go_ret
      exact ⟨rfl, rfl⟩
theorem rwidth_any (l : Nat) (w : World) (hl : l < 256) : Calls Tryz.prog 31 #[.int .u8 l] w fun e w' => e = .returned (.int .i64 (wdF l : Nat)) ∧ w' = w := by
  have H1 := fun W => in_any [35, 100, 120, 121, 68, 108, 109, 114, 98, 117] l W (by decide) (by decide) hl
  have H2 := fun W => in_any [97, 112, 113, 42, 110, 47] l W (by decide) (by decide) hl
  have hw : wdF l = if inF [35, 100, 120, 121, 68, 108, 109, 114, 98, 117] l then 1 else if inF [97, 112, 113, 42, 110, 47] l then 2 else 0 := rfl
  generalize inF [35, 100, 120, 121, 68, 108, 109, 114, 98, 117] l = b1 at *
  generalize inF [97, 112, 113, 42, 110, 47] l = b2 at *
  rw [hw]
  clear hw
  replace H1 := Lib.hid H1
  replace H2 := Lib.hid H2
  cases b1 <;> cases b2
  all_goals
    go_enter Tryz.func31, Tryz.ntmps31
    go_wp2_with fail
    refine (H1.out _).mono ?_
    rintro e w' ⟨rfl, rfl⟩
    go_wp2_with (refine (H2.out _).mono ?_; rintro e w' ⟨rfl, rfl⟩)
    go_ret
    exact ⟨rfl, rfl⟩
end Go.Proofs.YthecghmhohkcmaaGreatDoor
