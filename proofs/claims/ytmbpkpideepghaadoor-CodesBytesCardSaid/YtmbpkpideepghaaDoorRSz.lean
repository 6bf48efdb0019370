/-
  Sizes by the document.
-/
import Derived.Test.YtmbpkpideepghaaDoorSame
namespace Go.Proofs.YtmbpkpideepghaaDoor
open Go.RowKit
set_option maxRecDepth 1000000
set_option maxHeartbeats 400000
set_option linter.unusedVariables false

attribute [local irreducible] partF inF bytesN modeF nameF widthF useF wideF docWidthF docUseF signF modeAcc signB
theorem roperand_any (cd : Nat) (nm : ByteArray) (m u wd p : Nat) (w : World) (hm : m < 26) (hp : p < 256) : Calls Tryd.prog 36 #[codeV cd nm m u wd, .int .u8 p] w fun e w' => e = .returned (.int .i64 (opF m wd p : Nat)) ∧ Below w.heap.size w w' := by
  have hB := (Below.refl w.heap.size w).alloc (Nat.le_refl _) (.cells #[.int .u8 cd, .string nm, .int .u8 m, .int .u8 u, .int .u8 wd] 23)
  have hX := Whole.fresh w 23 #[.int .u8 cd, .string nm, .int .u8 m, .int .u8 u, .int .u8 wd]
  have x2 := hX.cell 2
  have x4 := hX.cell 4
  simp only [List.getElem?_toArray, List.getElem?_cons_zero, List.getElem?_cons_succ] at x2 x4
  have HD := fun W => rwide_any wd p W hp
  generalize hq : opF m wd p = q
  unfold opF at hq
  generalize wideF wd p = b at *
  unfold codeV
  replace HD := Lib.hid HD
  replace hB := Lib.hid hB
  clear hX
  go_enter Tryd.func36, Tryd.ntmps36
  go_upto_region 1 with (fail)
  generalize (w.alloc (.cells #[.int .u8 cd, .string nm, .int .u8 m, .int .u8 u, .int .u8 wd] 23)) = W1 at *
  generalize hXe : w.heap.size = X at x2 x4 ⊢
  replace hXe := Lib.hid hXe
  rcases ways26 hm with rfl | rfl | rfl | rfl | rfl | rfl | rfl | rfl | rfl | rfl | rfl | rfl | rfl | rfl | rfl | rfl | rfl | rfl | rfl | rfl | rfl | rfl | rfl | rfl | rfl | rfl
  case' inr.inr.inl =>
    rw [if_neg (by omega), if_pos rfl] at hq
    replace hq := Lib.hid hq
    go_wp2_with fail
    with_reducible refine (HD.out _).mono ?_
    rintro e w' ⟨rfl, rfl⟩
    have hq := hq.out
    cases b
    all_goals
      go_wp2_with fail
      go_ret
      subst hq
      exact ⟨rfl, hB.out⟩
  all_goals
    simp at hq
    subst hq
    go_wp2_with fail
    go_ret
    exact ⟨rfl, hB.out⟩
theorem rsize_any (c p : Nat) (w : World) (hc : c < 256) (hp : p < 256) : Calls Tryd.prog 13 #[.int .u8 c, .int .u8 p] w fun e w' => e = .returned (.int .i64 (1 + opF (modeF c) (widthF (nameF c).toList) p : Nat)) ∧ Below w.heap.size w w' := by
  have H1 := rof_same c w hc
  have H2 := fun W => roperand_any c (nameF c) (modeF c) (useF (nameF c).toList (modeF c)) (widthF (nameF c).toList) p W (modeF_lt c hc) hp
  have hle := opF_le (modeF c) (widthF (nameF c).toList) p
  generalize opF (modeF c) (widthF (nameF c).toList) p = q at *
  generalize codeV c (nameF c) (modeF c) (useF (nameF c).toList (modeF c)) (widthF (nameF c).toList) = cv at *
  replace H1 := Lib.hid H1
  replace H2 := Lib.hid H2
  go_enter Tryd.func13, Tryd.ntmps13
  go_wp2_with fail
  with_reducible refine H1.out.mono ?_
  rintro e W1 ⟨rfl, h1⟩
  go_wp2_with fail
  with_reducible refine (H2.out _).mono ?_
  rintro e W2 ⟨rfl, h2⟩
  clear H1 H2
  go_wp2_with fail
  go_ret
  exact ⟨by go_num, h1.trans (h2.mono h1.size)⟩
end Go.Proofs.YtmbpkpideepghaaDoor
