/-
  CodesUnlike: the walk.
-/
import Derived.Test.YtmbpkpideepghaaDoorAwk
import Derived.Test.YtmbpkpideepghaaDoorKey
namespace Go.Proofs.YtmbpkpideepghaaDoor.codesUnlike
open Go.RowKit
set_option maxRecDepth 1000000
set_option maxHeartbeats 1000000
set_option linter.unusedVariables false

theorem flags_and : ∀ p : Nat, p < 256 → bits BinOp.and IntKind.u8 (p : Int) 48 = ((p / 16 % 4 * 16 : Nat) : Int) := by decide +kernel
theorem flags_not : ∀ q : Nat, q < 256 → bits BinOp.andNot IntKind.u8 (q : Int) 48 = ((q % 16 + q / 64 * 64 : Nat) : Int) := by decide +kernel
theorem flags_or : ∀ x : Nat, x < 4 → ∀ q : Nat, q < 256 → bits BinOp.or IntKind.u8 ((x * 16 : Nat) : Int) ((q % 16 + q / 64 * 64 : Nat) : Int) = ((x * 16 + q % 16 + q / 64 * 64 : Nat) : Int) := by decide +kernel
theorem flags_eq (p q : Nat) (hp : p < 256) (hq : q < 256) : ∃ r, bits BinOp.or IntKind.u8 (bits BinOp.and IntKind.u8 (p : Int) 48) (bits BinOp.andNot IntKind.u8 (q : Int) 48) = ((r : Nat) : Int) ∧ r < 256 ∧ r / 32 % 2 = p / 32 % 2 ∧ r / 16 % 2 = p / 16 % 2 := by
  have h := flags_or (p / 16 % 4) (by omega) q hq
  rw [← flags_and p hp, ← flags_not q hq] at h
  exact ⟨_, h, by omega, by omega, by omega⟩
theorem wide_eq (wd p r : Nat) (h1 : r / 32 % 2 = p / 32 % 2) (h2 : r / 16 % 2 = p / 16 % 2) : wideF wd r = wideF wd p := by unfold wideF; rw [h1, h2]
theorem opF_eq (m wd p r : Nat) (h1 : r / 32 % 2 = p / 32 % 2) (h2 : r / 16 % 2 = p / 16 % 2) : opF m wd r = opF m wd p := by unfold opF; rw [wide_eq wd p r h1 h2]
theorem name_size (c : Nat) (hc : c < 256) : (nameF c).size = 3 := by rw [nameF_list, bytesN_size]; exact nameL_len c hc
attribute [local irreducible] partF inF bytesN modeF nameF widthF useF docWidthF docUseF signF modeAcc signB opF wideF
theorem walk (a b p q : Nat) (w : World) (ha : a < 256) (hb : b < 256) (hp : p < 256) (hq : q < 256) :
    Calls Tryd.prog 9 #[.int .u8 a, .int .u8 b, .int .u8 p, .int .u8 q] w fun e w' => e = .returned (.bool true) ∧ Below w.heap.size w w' := by
  obtain ⟨r, hbits, hr, e1, e2⟩ := flags_eq p q hp hq
  have H1 := fun W => of_any a W ha
  have H2 := fun W => of_any b W hb
  have H3 := fun W => size_any a p W ha hp
  have H4 := fun W => size_any a r W ha hr
  rw [opF_eq _ _ p r e1 e2] at H4
  have H7 := fun W => awake_any W
  have hk := opF_le (modeF a) (widthF (nameF a).toList) p
  have hu : a ≠ b → ¬ (nameF a = nameF b ∧ modeF a = modeF b) := fun h hh => h (unlike a b ha hb hh.1 hh.2)
  have hs := name_size a ha
  clear e1 e2
  generalize useF (nameF a).toList (modeF a) = u at *
  generalize useF (nameF b).toList (modeF b) = u' at *
  generalize opF (modeF a) (widthF (nameF a).toList) p = k at *
  generalize widthF (nameF a).toList = wdt at *
  generalize widthF (nameF b).toList = wdt' at *
  generalize modeF a = m at *
  generalize modeF b = m' at *
  generalize nameF a = nm at *
  generalize nameF b = nm' at *
  unfold codeV at *
  replace H1 := Lib.hid H1
  replace H2 := Lib.hid H2
  replace H3 := Lib.hid H3
  replace H4 := Lib.hid H4
  replace H7 := Lib.hid H7
  replace hu := Lib.hid hu
  go_enter Tryd.func9, Tryd.ntmps9
  go_wp2_with fail
  with_reducible refine (H1.out _).mono ?_
  rintro e W1 ⟨rfl, hb1⟩
  have hX1 := Whole.fresh W1 23 #[.int .u8 a, .string nm, .int .u8 m, .int .u8 u, .int .u8 wdt]
  replace hb1 := hb1.alloc hb1.size (.cells #[.int .u8 a, .string nm, .int .u8 m, .int .u8 u, .int .u8 wdt] 23)
  go_upto_region 2 with (fail)
  generalize W1.alloc (.cells #[.int .u8 a, .string nm, .int .u8 m, .int .u8 u, .int .u8 wdt] 23) = W2 at *
  generalize W1.heap.size = X at *
  go_wp2_with fail
  with_reducible refine (H2.out _).mono ?_
  rintro e W3 ⟨rfl, hb2⟩
  have hlt := hX1.lt
  replace hX1 := (hX1.below hb2 hlt).alloc (.cells #[.int .u8 b, .string nm', .int .u8 m', .int .u8 u', .int .u8 wdt'] 23)
  have hY1 := Whole.fresh W3 23 #[.int .u8 b, .string nm', .int .u8 m', .int .u8 u', .int .u8 wdt']
  have hb3 := hb1.trans (hb2.mono hb1.size)
  replace hb3 := hb3.alloc hb3.size (.cells #[.int .u8 b, .string nm', .int .u8 m', .int .u8 u', .int .u8 wdt'] 23)
  clear hb1 hb2 hlt H1 H2
  go_upto_region 3 with (fail)
  generalize W3.alloc (.cells #[.int .u8 b, .string nm', .int .u8 m', .int .u8 u', .int .u8 wdt'] 23) = W4 at *
  generalize W3.heap.size = Y at *
  have x0 := hX1.cell 0
  have x1 := hX1.cell 1
  have x2 := hX1.cell 2
  have y1 := hY1.cell 1
  have y2 := hY1.cell 2
  simp only [List.getElem?_toArray, List.getElem?_cons_zero, List.getElem?_cons_succ] at x0 x1 x2 y1 y2
  clear hX1 hY1
  have hcase : ((a : Int) != (b : Int)) = false ∨ (((a : Int) != (b : Int)) = true ∧ (((m : Int) == (m' : Int)) = false ∨ nm ≠ nm')) := by
    by_cases h : a = b
    · left; subst h; simp
    · right
      refine ⟨by rw [bne_iff_ne]; omega, ?_⟩
      by_cases hn : nm = nm'
      · left; rw [beq_eq_false_iff_ne]; have := hu.out h; intro e; exact this ⟨hn, by omega⟩
      · exact .inr hn
  clear hu
  have key : ∀ c3 : Bool, c3 = false → c3 = false := fun _ h => h
  have hs3 : (nm.size : Int) = 3 := by rw [hs]; rfl
  rcases hcase with hi | ⟨hi, hi2 | hn⟩
  case' inr.inr =>
    have hn1 : (nm.toList == nm'.toList) = false := by
      rw [beq_eq_false_iff_ne]
      intro e
      exact hn (toList_inj e)
    clear hn
  all_goals
    go_wp2_with fail
    all_goals
      with_reducible refine (H3.out _).mono ?_
      rintro e W3 ⟨rfl, rfl⟩
      go_wp2_with fail
      with_reducible refine (H4.out _).mono ?_
      rintro e W3 ⟨rfl, rfl⟩
      go_wp2_with fail
      with_reducible refine (H7.out _).mono ?_
      rintro e W5 ⟨rfl, hb5⟩
      replace hb3 := hb3.trans (hb5.mono hb3.size)
      clear hb5 x0 x1 x2 y1 y2
      go_wp2_with fail
      go_ret
      exact ⟨rfl, hb3⟩
end Go.Proofs.YtmbpkpideepghaaDoor.codesUnlike
