/-
  Step, by the code.
-/
import Derived.Test.YtbdhdedlemndeaaDoorKStep
namespace Go.Proofs.YtbdhdedlemndeaaDoor
open Go.RowKit Go.Shelf
set_option maxRecDepth 100000
set_option maxHeartbeats 1000000
set_option linter.unusedVariables false

/-- The timers below k have passed. -/
def stK (f : Nat → Nat) : Nat → Nat → Nat
  | 0 => f
  | 1 => passF 1 128 (onF f 0) f
  | 2 => passF 5 128 (onF f 1) (passF 1 128 (onF f 0) f)
  | _ => stepF f
theorem stK_bits (f : Nat → Nat) (k : Nat) : stK f k 0 = f 0 := by
  match k with
  | 0 => rfl
  | 1 => exact pass_away _ _ _ _ (by omega)
  | 2 => rw [stK, pass_away _ _ _ _ (by omega), pass_away _ _ _ _ (by omega)]
  | k + 3 => exact step_away (by omega)
theorem kstep_any {b : Nat} {f : Nat → Nat} (w : World) (h : Ts w b f) :
    Calls Tryd.prog 10 #[.pointer (some ⟨b, 0, none⟩)] w fun e w' => e = .returned (.tuple #[]) ∧ Ts w' b (stepF f) ∧ w.grownBy w' (some b) := by
  have hg := h.good
  have hfin := Lib.hid hg.step
  have hb := Lib.hid h.ne
  have hT0 := Lib.hid h.tq
  have hP0 := Lib.hid h.pd
  have x0 := hg.byte 0
  have bb : (bits .and .u8 (f 0 : Int) 1 != 0) = onF f 0 ∧ (bits .and .u8 (f 0 : Int) 2 != 0) = onF f 1 ∧ (bits .and .u8 (f 0 : Int) 4 != 0) = onF f 2 := kbit (f 0) x0
  obtain ⟨b0, b1, b2⟩ := bb
  have q0 : f 2 < 128 := hg.div0
  have q1 : passF 1 128 (onF f 0) f 6 < 128 := by rw [pass_away _ _ _ _ (by omega)]; exact hg.div1
  have q2 : stK f 2 10 < 16 := by rw [stK, pass_away _ _ _ _ (by omega), pass_away _ _ _ _ (by omega)]; exact hg.div2
  have O0 := Lib.hid fun W => (show Calls Tryd.prog 30 #[.int .i64 0] W fun e w' => e = .returned (.int .u8 1) ∧ w' = W from on_any 0 (by decide) W)
  have O1 := Lib.hid fun W => (show Calls Tryd.prog 30 #[.int .i64 1] W fun e w' => e = .returned (.int .u8 2) ∧ w' = W from on_any 1 (by decide) W)
  have O2 := Lib.hid fun W => (show Calls Tryd.prog 30 #[.int .i64 2] W fun e w' => e = .returned (.int .u8 4) ∧ w' = W from on_any 2 (by decide) W)
  have H0 := Lib.hid fun W (hW : Tq W b (stK f 0)) => (show Calls Tryd.prog 29 #[.pointer (some ⟨b, 1, none⟩), .int .u8 128, .bool (onF f 0)] W fun e w' => e = .returned (.tuple #[]) ∧ Tq w' b (stK f 1) ∧ W.grownBy w' (some b) from pass_any (p := 1) (q := 128) (on := onF f 0) W hW (by decide) (by decide) q0)
  have H1 := Lib.hid fun W (hW : Tq W b (stK f 1)) => (show Calls Tryd.prog 29 #[.pointer (some ⟨b, 5, none⟩), .int .u8 128, .bool (onF f 1)] W fun e w' => e = .returned (.tuple #[]) ∧ Tq w' b (stK f 2) ∧ W.grownBy w' (some b) from pass_any (p := 5) (q := 128) (on := onF f 1) W hW (by decide) (by decide) q1)
  have H2 := Lib.hid fun W (hW : Tq W b (stK f 2)) => (show Calls Tryd.prog 29 #[.pointer (some ⟨b, 9, none⟩), .int .u8 16, .bool (onF f 2)] W fun e w' => e = .returned (.tuple #[]) ∧ Tq w' b (stK f 3) ∧ W.grownBy w' (some b) from pass_any (p := 9) (q := 16) (on := onF f 2) W hW (by decide) (by decide) q2)
  have hbits := Lib.hid fun k => stK_bits f k
  generalize onF f 0 = o0 at *
  generalize onF f 1 = o1 at *
  generalize onF f 2 = o2 at *
  replace b0 := Lib.hid b0
  replace b1 := Lib.hid b1
  replace b2 := Lib.hid b2
  clear h hg q0 q1 q2
  go_enter Tryd.func10, Tryd.ntmps10
  go_wp2_with fail
  go_loopw [5] (fun i wr => ∃ k : Nat, k ≤ 3 ∧ i = .int .i64 k ∧ Hid (Tq wr b (stK f k) ∧ Pd wr ∧ w.grownBy wr (some b))) (fun i _ => 3 - (intOf i).toNat)
  case atStart => exact ⟨0, Nat.zero_le _, rfl, Lib.hid ⟨hT0.out, hP0.out, grown_refl w b⟩⟩
  case round =>
    obtain ⟨k, hk, rfl, hH⟩ := hrel
    obtain ⟨wo, rfl⟩ : ∃ wo, wo = wr := ⟨_, rfl⟩
    have hT := hH.out.1
    have hP := hH.out.2.1
    have c0 := hT.cell 0 (by decide)
    rw [hbits.out k] at c0
    rcases (show k = 0 ∨ k = 1 ∨ k = 2 ∨ k = 3 by omega) with rfl | rfl | rfl | rfl
    · have p := hP.p0
      have bk := b0.out
      have hTd := Lib.hid hT.drew
      have hgd : w.grownBy wo.drew (some b) := ⟨hH.out.2.2.os, hH.out.2.2.tape, hH.out.2.2.output, hH.out.2.2.size, hH.out.2.2.block⟩
      have hPd : Pd wo.drew := ⟨hP.lt, hP.p0, hP.p1, hP.p2⟩
      replace hgd := Lib.hid hgd
      replace hPd := Lib.hid hPd
      clear hk hT hP
      go_upto_region 4 with (fail)
      refine wp_region_still_tail 16 (by kernel_rfl) (by kernel_rfl) ?_
      simp only [List.take_succ_cons, List.take_zero, List.drop_succ_cons, List.drop_zero]
      repeat still_step
      still_call ((O0.out _).mono (by rintro e w' ⟨rfl, rfl⟩; exact ⟨rfl, rfl⟩))
      repeat still_step
      refine wpStill_nil ?_
      show wpList _ _ _ _ _ wo.drew
      generalize wo.drew = W1 at *
      clear p c0 hH
      go_wp2_with fail
      refine (H0.out _ hTd.out).mono ?_
      rintro e W2 ⟨rfl, hT2, hg2⟩
      have hP2 := hPd.out.only hg2 hb.out
      replace hT2 := Lib.hid hT2
      have hgf := Lib.hid (grown_trans hgd.out hg2)
      replace hP2 := Lib.hid hP2
      clear hg2 hTd bk
      go_wp2_with fail
      refine ⟨⟨1, by decide, rfl, Lib.hid ⟨hT2.out, hP2.out, hgf.out⟩⟩, by simp only [intOf]; omega⟩
    · have p := hP.p1
      have bk := b1.out
      have hTd := Lib.hid hT.drew
      have hgd : w.grownBy wo.drew (some b) := ⟨hH.out.2.2.os, hH.out.2.2.tape, hH.out.2.2.output, hH.out.2.2.size, hH.out.2.2.block⟩
      have hPd : Pd wo.drew := ⟨hP.lt, hP.p0, hP.p1, hP.p2⟩
      replace hgd := Lib.hid hgd
      replace hPd := Lib.hid hPd
      clear hk hT hP
      go_upto_region 4 with (fail)
      refine wp_region_still_tail 16 (by kernel_rfl) (by kernel_rfl) ?_
      simp only [List.take_succ_cons, List.take_zero, List.drop_succ_cons, List.drop_zero]
      repeat still_step
      still_call ((O1.out _).mono (by rintro e w' ⟨rfl, rfl⟩; exact ⟨rfl, rfl⟩))
      repeat still_step
      refine wpStill_nil ?_
      show wpList _ _ _ _ _ wo.drew
      generalize wo.drew = W1 at *
      clear p c0 hH
      go_wp2_with fail
      refine (H1.out _ hTd.out).mono ?_
      rintro e W2 ⟨rfl, hT2, hg2⟩
      have hP2 := hPd.out.only hg2 hb.out
      replace hT2 := Lib.hid hT2
      have hgf := Lib.hid (grown_trans hgd.out hg2)
      replace hP2 := Lib.hid hP2
      clear hg2 hTd bk
      go_wp2_with fail
      refine ⟨⟨2, by decide, rfl, Lib.hid ⟨hT2.out, hP2.out, hgf.out⟩⟩, by simp only [intOf]; omega⟩
    · have p := hP.p2
      have bk := b2.out
      have hTd := Lib.hid hT.drew
      have hgd : w.grownBy wo.drew (some b) := ⟨hH.out.2.2.os, hH.out.2.2.tape, hH.out.2.2.output, hH.out.2.2.size, hH.out.2.2.block⟩
      have hPd : Pd wo.drew := ⟨hP.lt, hP.p0, hP.p1, hP.p2⟩
      replace hgd := Lib.hid hgd
      replace hPd := Lib.hid hPd
      clear hk hT hP
      go_upto_region 4 with (fail)
      refine wp_region_still_tail 16 (by kernel_rfl) (by kernel_rfl) ?_
      simp only [List.take_succ_cons, List.take_zero, List.drop_succ_cons, List.drop_zero]
      repeat still_step
      still_call ((O2.out _).mono (by rintro e w' ⟨rfl, rfl⟩; exact ⟨rfl, rfl⟩))
      repeat still_step
      refine wpStill_nil ?_
      show wpList _ _ _ _ _ wo.drew
      generalize wo.drew = W1 at *
      clear p c0 hH
      go_wp2_with fail
      refine (H2.out _ hTd.out).mono ?_
      rintro e W2 ⟨rfl, hT2, hg2⟩
      have hP2 := hPd.out.only hg2 hb.out
      replace hT2 := Lib.hid hT2
      have hgf := Lib.hid (grown_trans hgd.out hg2)
      replace hP2 := Lib.hid hP2
      clear hg2 hTd bk
      go_wp2_with fail
      refine ⟨⟨3, by decide, rfl, Lib.hid ⟨hT2.out, hP2.out, hgf.out⟩⟩, by simp only [intOf]; omega⟩
    · have hg3 := Lib.hid hH.out.2.2
      replace hT := Lib.hid hT
      replace hP := Lib.hid hP
      clear c0 hH
      go_wp2_with fail
      go_end0
      exact ⟨rfl, ⟨hT.out, hP.out, hb.out, hfin.out⟩, hg3.out⟩
end Go.Proofs.YtbdhdedlemndeaaDoor
