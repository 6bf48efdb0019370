/-
  The document's saved bytes; whether bytes are a state, by the document.
-/
import Derived.Test.YtbdhdedlemndeaaDoorKLd
import Derived.Test.YtbdhdedlemndeaaDoorSvGH
namespace Go.Proofs.YtbdhdedlemndeaaDoor
open Go.RowKit Go.Shelf
set_option maxRecDepth 100000
set_option maxHeartbeats 1000000
set_option linter.unusedVariables false
set_option linter.unusedSimpArgs false

theorem rsaved_any (a : Option Addr) (m c : Nat) (F : Nat → Nat) (w : World) (h : Row w a m F) (hm : m ≤ 140737488351232) :
    Calls Tryd.prog 21 #[.slice a m c] w fun e w' => ∃ v, e = .returned v ∧ Owns w' v (13 + (5 + m)) (headF (5 + m) (partF 13 m F)) ∧ From w.heap.size v ∧ Below w.heap.size w w' := by
  have hmi : (m : Int) ≤ 140737488351232 := by omega
  have hm2 := Lib.hid hm
  have hB0 : Below w.heap.size w (w.alloc (.cells #[.int .u8 13] 5)) := (Below.refl _ w).alloc (Nat.le_refl _) _
  have hW0 := Whole.fresh w 5 #[.int .u8 13]
  obtain ⟨B, hBe⟩ : ∃ B, w.heap.size = B := ⟨_, rfl⟩
  have hR := Lib.hid h
  rw [hBe] at hB0 hW0 ⊢
  clear hm h
  have e1 : IntKind.u64.wrap (m : Int) = (m : Int) := by simp only [IntKind.wrap_u64]; omega
  go_enter Tryd.func21, Tryd.ntmps21
  go_upto_region 2 with (fail)
  generalize w.alloc (.cells #[.int .u8 13] 5) = W0 at *
  have hBl : B ≤ w.heap.size := by omega
  have hO0 : Owns W0 (.slice (some ⟨B, 0, none⟩) 1 1) 1 (fun _ => 13) := ⟨fun _ _ => (by decide : (13 : Nat) < 256), .inr ⟨B, 1, _, rfl, hW0, Nat.le_refl _, by unfold maxLen; omega, rfl, fun i hi => by
    obtain rfl : i = 0 := by omega
    rfl⟩⟩
  have hF0 : From B (.slice (some ⟨B, 0, none⟩) 1 1) := fun x hx => by (have hx : some B = some x := hx); cases hx; exact Nat.le_refl _
  have HL1 := Lib.hid (rlaid_any m 4 W0 (by have := hm2.out; omega) (by decide))
  clear hW0
  go_wp2_with fail
  refine HL1.out.mono ?_
  rintro e W1 ⟨G1, rfl, hH1, _, hB1⟩
  have hO1 := hO0.below hB1
  have hB2 := hB0.trans (hB1.mono (Nat.le_trans hBl hB0.size))
  obtain ⟨v2, W2, hr, hO2, hF2, hg⟩ := run_append_more W1 46 B _ 1 4 4 _ _ _ hO1 hF0 hH1.row (by decide) (Nat.le_trans hBl hB2.size)
  have hB3 := hB2.trans (hF0.below hg (Nat.le_trans hBl hB2.size))
  have hR2 := hR.out.below (hBe.symm ▸ hB3)
  clear HL1 hH1 hB1 hO1 hO0 hB0 hB2 hg
  go_upto_region 3 with (at_builtin; refine wpList_append_ran2 rfl _ _ 46 46 rfl _ _ _ W2 rfl rfl hr ?_)
  clear hr hF0
  obtain ⟨v4, W4, hr, hO4, hF4, hg⟩ := run_append_more W2 46 B _ 5 m c _ _ _ hO2 hF2 hR2 (by have := hm2.out; omega) (Nat.le_trans hBl hB3.size)
  have hB6 := hB3.trans (hF2.below hg (Nat.le_trans hBl hB3.size))
  obtain ⟨a4, c4, hv4, hR4⟩ := hO4.row
  have hR5 := hR4.congr (g := partF 13 m F) (fun i hi => by
    unfold partF bothSv
    by_cases h0 : i = 0
    · subst h0; rfl
    · by_cases h5 : i < 5
      · rw [if_pos h5, if_neg (by omega), if_neg h0, if_pos h5]
      · rw [if_neg h5, if_neg h0, if_neg h5])
  subst hv4
  have HH := Lib.hid (rheaded_any a4 (5 + m) c4 (partF 13 m F) W4 hR5 (by have := hm2.out; omega))
  replace hB6 := Lib.hid hB6
  clear hO4 hB3 hR2 hg hO2 hF2 hR4 hR5
  go_wp2_with (at_builtin; refine wpList_append_ran2 rfl _ _ 46 46 rfl _ _ _ W4 rfl rfl hr ?_)
  refine HH.out.mono ?_
  rintro e W7 ⟨v7, rfl, hO7, hF7, hB7⟩
  have hB8 := Lib.hid (hB6.out.trans (hB7.mono (Nat.le_trans hBl hB6.out.size)))
  have hF8 : From B v7 := fun x hx => Nat.le_trans (Nat.le_trans hBl hB6.out.size) (hF7 x hx)
  replace hO7 := Lib.hid hO7
  replace hF8 := Lib.hid hF8
  clear hr HH hF7 hB7 hF4
  go_wp2_with fail
  go_ret
  exact ⟨_, rfl, hO7.out, hF8.out, hB8.out⟩
theorem kmask : ∀ q : Nat, q < 256 → (bits .and .u8 (q : Int) 120 != 0) = !decide (q / 8 % 16 = 0) := by decide +kernel
theorem period_any (k : Nat) (hk : k < 3) (w : World) : Calls Tryd.prog 31 #[.int .i64 (k : Nat)] w fun e w' => e = .returned (.int .i64 (perT k : Nat)) ∧ w' = w := by
  rcases (show k = 0 ∨ k = 1 ∨ k = 2 by omega) with rfl | rfl | rfl
  all_goals
    go_enter Tryd.func31, Tryd.ntmps31
    go_wp2_with fail
    go_ret
    exact ⟨rfl, rfl⟩
end Go.Proofs.YtbdhdedlemndeaaDoor
