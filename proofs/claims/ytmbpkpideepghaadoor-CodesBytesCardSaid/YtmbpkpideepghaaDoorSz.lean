/-
  Sizes; a code by the code.
-/
import Derived.Test.YtmbpkpideepghaaDoorDoc2
namespace Go.Proofs.YtmbpkpideepghaaDoor
open Go.RowKit
set_option maxRecDepth 1000000
set_option maxHeartbeats 400000
set_option linter.unusedVariables false

attribute [local irreducible] partF inF bytesN modeF nameF widthF useF wideF
def opF (m wd p : Nat) : Nat := if m = 0 ∨ m = 1 then 0 else if m = 2 then (if wideF wd p = true then 2 else 1) else if m = 16 ∨ m = 17 then 3 else
  if m = 4 ∨ m = 13 ∨ m = 14 ∨ m = 15 ∨ m = 18 ∨ m = 19 ∨ m = 20 ∨ m = 23 ∨ m = 25 then 2 else 1
theorem ways26 {m : Nat} (h : m < 26) : m = 0 ∨ m = 1 ∨ m = 2 ∨ m = 3 ∨ m = 4 ∨ m = 5 ∨ m = 6 ∨ m = 7 ∨ m = 8 ∨ m = 9 ∨ m = 10 ∨ m = 11 ∨ m = 12 ∨ m = 13 ∨ m = 14 ∨ m = 15 ∨ m = 16 ∨ m = 17 ∨ m = 18 ∨ m = 19 ∨ m = 20 ∨ m = 21 ∨ m = 22 ∨ m = 23 ∨ m = 24 ∨ m = 25 := by omega
theorem operandSize_any (c p : Nat) (w : World) (hc : c < 256) (hp : p < 256) : Calls Tryd.prog 35 #[.int .u8 c, .int .u8 p] w fun e w' => e = .returned (.int .i64 (opF (modeF c) (widthF (nameF c).toList) p : Nat)) ∧ w = w' := by
  have HM := modeOf_any c w hc
  have HN := nameOf_any c w hc
  have HW := widthOf_any (nameF c) w
  have HD := wide_any (widthF (nameF c).toList) p w hp
  have hm := modeF_lt c hc
  generalize modeF c = m at *
  generalize widthF (nameF c).toList = wd at *
  generalize nameF c = nm at *
  generalize hq : opF m wd p = q
  unfold opF at hq
  generalize wideF wd p = b at *
  replace HM := Lib.hid HM
  replace HN := Lib.hid HN
  replace HW := Lib.hid HW
  replace HD := Lib.hid HD
  rcases ways26 hm with rfl | rfl | rfl | rfl | rfl | rfl | rfl | rfl | rfl | rfl | rfl | rfl | rfl | rfl | rfl | rfl | rfl | rfl | rfl | rfl | rfl | rfl | rfl | rfl | rfl | rfl
  case' inr.inr.inl =>
    rw [if_neg (by omega), if_pos rfl] at hq
    go_enter Tryd.func35, Tryd.ntmps35
    go_wp2_with fail
    with_reducible refine HM.out.mono ?_
    rintro e w' ⟨rfl, rfl⟩
    go_wp2_with fail
    with_reducible refine HN.out.mono ?_
    rintro e w' ⟨rfl, rfl⟩
    go_wp2_with fail
    with_reducible refine HW.out.mono ?_
    rintro e w' ⟨rfl, rfl⟩
    go_wp2_with fail
    with_reducible refine HD.out.mono ?_
    rintro e w' ⟨rfl, rfl⟩
    cases b
    all_goals
      go_wp2_with fail
      go_ret
      subst hq
      exact ⟨rfl, rfl⟩
  all_goals
    simp at hq
    subst hq
    go_enter Tryd.func35, Tryd.ntmps35
    go_wp2_with fail
    with_reducible refine HM.out.mono ?_
    rintro e w' ⟨rfl, rfl⟩
    go_wp2_with fail
    go_ret
    exact ⟨rfl, rfl⟩
theorem opF_le (m wd p : Nat) : opF m wd p ≤ 3 := by
  unfold opF
  split
  · omega
  · split
    · split <;> omega
    · split
      · omega
      · split <;> omega
theorem size_any (c p : Nat) (w : World) (hc : c < 256) (hp : p < 256) : Calls Tryd.prog 12 #[.int .u8 c, .int .u8 p] w fun e w' => e = .returned (.int .i64 (1 + opF (modeF c) (widthF (nameF c).toList) p : Nat)) ∧ w = w' := by
  have HO := operandSize_any c p w hc hp
  have hle := opF_le (modeF c) (widthF (nameF c).toList) p
  generalize opF (modeF c) (widthF (nameF c).toList) p = q at *
  replace HO := Lib.hid HO
  go_enter Tryd.func12, Tryd.ntmps12
  go_wp2_with fail
  with_reducible refine HO.out.mono ?_
  rintro e w' ⟨rfl, rfl⟩
  clear HO
  go_wp2_with fail
  go_ret
  exact ⟨by go_num, rfl⟩
end Go.Proofs.YtmbpkpideepghaaDoor
