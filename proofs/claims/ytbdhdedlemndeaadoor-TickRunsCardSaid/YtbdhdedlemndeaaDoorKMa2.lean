/-
  Whether bytes are a state, by the document, whole (genkmay2.py writes this text).
-/
import Derived.Test.YtbdhdedlemndeaaDoorKMay
namespace Go.Proofs.YtbdhdedlemndeaaDoor
open Go.RowKit Go.Shelf
set_option maxRecDepth 100000
set_option maxHeartbeats 1000000
set_option linter.unusedVariables false
set_option linter.unusedSimpArgs false

theorem rmay_any {g o c : Nat} {F : Nat → Nat} (w : World) (h : Row w (some ⟨g, o, none⟩) 23 F) :
    Calls Tryd.prog 25 #[.slice (some ⟨g, o, none⟩) 23 c] w fun e w' => e = .returned (.bool (canB (gF F 23))) ∧ ∃ q, w' = w.drewN q := by
  have hc : ∀ i, i < 23 → w.cell? ⟨g, o + i, none⟩ = some (.int .u8 (F i : Nat)) := by
    rcases h.2 with h0 | ⟨g', o', e, hlt, hc⟩
    · exact absurd h0 (by decide)
    · injection e with e
      injection e with e1 e2
      subst e1 e2
      exact hc
  have hb := h.1
  have c0 : w.cell? ⟨g, o, none⟩ = some (.int .u8 (F 0 : Nat)) := hc 0 (by decide)
  have c2 := hc 2 (by decide)
  have c4 := hc 4 (by decide)
  have c6 := hc 6 (by decide)
  have c8 := hc 8 (by decide)
  have c10 := hc 10 (by decide)
  have c12 := hc 12 (by decide)
  have hcb : canB (gF F 23) = (okK F 0 && okK F 1 && okK F 2 && decide (F 0 / 8 % 16 = 0)) := rfl
  have hm := kmask (F 0) (hb 0 (by decide))
  have ho0 : okK F 0 = (decide (F 2 < 128) && decide (F 4 < 16)) := rfl
  have P0 := Lib.hid fun W => (show Calls Tryd.prog 31 #[.int .i64 0] W fun e w' => e = .returned (.int .i64 128) ∧ w' = W from period_any 0 (by decide) W)
  have ho1 : okK F 1 = (decide (F 6 < 128) && decide (F 8 < 16)) := rfl
  have P1 := Lib.hid fun W => (show Calls Tryd.prog 31 #[.int .i64 1] W fun e w' => e = .returned (.int .i64 128) ∧ w' = W from period_any 1 (by decide) W)
  have ho2 : okK F 2 = (decide (F 10 < 16) && decide (F 12 < 16)) := rfl
  have P2 := Lib.hid fun W => (show Calls Tryd.prog 31 #[.int .i64 2] W fun e w' => e = .returned (.int .i64 16) ∧ w' = W from period_any 2 (by decide) W)
  have wx0 : IntKind.i64.wrap (F 2 : Int) = (F 2 : Int) := by have := hb 2 (by decide); simp only [IntKind.wrap_i64]; omega
  have wx1 : IntKind.i64.wrap (F 6 : Int) = (F 6 : Int) := by have := hb 6 (by decide); simp only [IntKind.wrap_i64]; omega
  have wx2 : IntKind.i64.wrap (F 10 : Int) = (F 10 : Int) := by have := hb 10 (by decide); simp only [IntKind.wrap_i64]; omega
  clear h hc hb
  generalize canB (gF F 23) = C at *
  generalize okK F 0 = o0 at *
  generalize okK F 1 = o1 at *
  generalize okK F 2 = o2 at *
  generalize decide (F 0 / 8 % 16 = 0) = o3 at *
  generalize F 0 = A0 at *
  generalize F 2 = X0 at *
  generalize F 4 = Y0 at *
  generalize F 6 = X1 at *
  generalize F 8 = Y1 at *
  generalize F 10 = X2 at *
  generalize F 12 = Y2 at *
  have w0 : IntKind.i64.wrap 0 = 0 := by decide
  have w2 : IntKind.i64.wrap 2 = 2 := by decide
  have w4 : IntKind.i64.wrap 4 = 4 := by decide
  have w6 : IntKind.i64.wrap 6 = 6 := by decide
  have w8 : IntKind.i64.wrap 8 = 8 := by decide
  have w10 : IntKind.i64.wrap 10 = 10 := by decide
  have w12 : IntKind.i64.wrap 12 = 12 := by decide
  replace hcb := Lib.hid hcb
  replace ho0 := Lib.hid ho0
  replace ho1 := Lib.hid ho1
  replace ho2 := Lib.hid ho2
  replace c2 := Lib.hid c2
  replace c4 := Lib.hid c4
  replace c6 := Lib.hid c6
  replace c8 := Lib.hid c8
  replace c10 := Lib.hid c10
  replace c12 := Lib.hid c12
  go_enter Tryd.func25, Tryd.ntmps25
  cases o3 with
  | false =>
    have hC : C = false := by rw [hcb.out]; simp
    replace hC := Lib.hid hC
    replace hm : (bits .and .u8 (A0 : Int) 120 != 0) = true := hm
    go_wp2_with fail
    go_ret
    exact ⟨by rw [hC.out]; rfl, 0, rfl⟩
  | true =>
    replace hm : (bits .and .u8 (A0 : Int) 120 != 0) = false := hm
    have hcb2 : C = (o0 && o1 && o2) := by rw [hcb.out]; simp
    replace hcb2 := Lib.hid hcb2
    clear hcb
    go_wp2_with fail
    clear hm c0
    go_loopw [3] (fun i wr => ∃ k : Nat, k ≤ 3 ∧ i = .int .i64 k ∧ Hid ((∃ q, wr = w.drewN q) ∧ (0 < k → o0 = true) ∧ (1 < k → o1 = true) ∧ (2 < k → o2 = true))) (fun i _ => 3 - (intOf i).toNat)
    case atStart => exact ⟨0, Nat.zero_le _, rfl, Lib.hid ⟨⟨0, rfl⟩, fun h => absurd h (by decide), fun h => absurd h (by decide), fun h => absurd h (by decide)⟩⟩
    case round =>
      obtain ⟨k, hk, rfl, hH⟩ := hrel
      obtain ⟨wo, rfl⟩ : ∃ wo, wo = wr := ⟨_, rfl⟩
      have hcell : ∀ a : Addr, wo.cell? a = w.cell? a := by obtain ⟨q, rfl⟩ := hH.out.1; intro a; rfl
      replace hcell := Lib.hid hcell
      rcases (show k = 0 ∨ k = 1 ∨ k = 2 ∨ k = 3 by omega) with rfl | rfl | rfl | rfl
      · have d1 := (hcell.out ⟨g, o + 2, none⟩).trans c2.out
        have d2 := (hcell.out ⟨g, o + 4, none⟩).trans c4.out
        clear hk
        by_cases hx : X0 < 128
        · by_cases hy : Y0 < 16
          · have hk1 : o0 = true := by rw [ho0.out, decide_eq_true hx, decide_eq_true hy]; rfl
            have q1 : ¬ (128 : Int) ≤ (X0 : Int) := by omega
            have q2 : ¬ (15 : Int) < (Y0 : Int) := by omega
            replace hk1 := Lib.hid hk1
            go_upto_region 6 with (fail)
            go_quiet ((go_at_call 31; exact Calls.quiet_of_same (P0.out _)))
            have hq : ∃ q, wo.drewN nq = w.drewN q := by obtain ⟨q, rfl⟩ := hH.out.1; exact ⟨q + nq, World.drewN_drewN _ _ _⟩
            replace hq := Lib.hid hq
            clear d1 d2
            generalize wo.drewN nq = W1 at *
            go_wp2_with fail
            exact ⟨⟨1, by decide, rfl, Lib.hid ⟨hq.out, fun _ => hk1.out, fun h => absurd h (by decide), fun h => absurd h (by decide)⟩⟩, by simp only [intOf]; omega⟩
          · have hk1 : o0 = false := by rw [ho0.out, decide_eq_false hy]; simp
            have q1 : ¬ (128 : Int) ≤ (X0 : Int) := by omega
            have q2 : (15 : Int) < (Y0 : Int) := by omega
            replace hk1 := Lib.hid hk1
            go_upto_region 6 with (fail)
            go_quiet ((go_at_call 31; exact Calls.quiet_of_same (P0.out _)))
            have hq : ∃ q, wo.drewN nq = w.drewN q := by obtain ⟨q, rfl⟩ := hH.out.1; exact ⟨q + nq, World.drewN_drewN _ _ _⟩
            replace hq := Lib.hid hq
            clear d1 d2
            generalize wo.drewN nq = W1 at *
            have hC : C = false := by rw [hcb2.out, hk1.out]; simp
            replace hC := Lib.hid hC
            go_wp2_with fail
            go_ret
            exact ⟨by rw [hC.out]; rfl, hq.out⟩
        · have hk1 : o0 = false := by rw [ho0.out, decide_eq_false hx]; simp
          have q1 : (128 : Int) ≤ (X0 : Int) := by omega
          replace hk1 := Lib.hid hk1
          go_upto_region 6 with (fail)
          go_quiet ((go_at_call 31; exact Calls.quiet_of_same (P0.out _)))
          have hq : ∃ q, wo.drewN nq = w.drewN q := by obtain ⟨q, rfl⟩ := hH.out.1; exact ⟨q + nq, World.drewN_drewN _ _ _⟩
          replace hq := Lib.hid hq
          clear d1 d2
          generalize wo.drewN nq = W1 at *
          have hC : C = false := by rw [hcb2.out, hk1.out]; simp
          replace hC := Lib.hid hC
          go_wp2_with fail
          go_ret
          exact ⟨by rw [hC.out]; rfl, hq.out⟩
      · have d1 := (hcell.out ⟨g, o + 6, none⟩).trans c6.out
        have d2 := (hcell.out ⟨g, o + 8, none⟩).trans c8.out
        clear hk
        by_cases hx : X1 < 128
        · by_cases hy : Y1 < 16
          · have hk1 : o1 = true := by rw [ho1.out, decide_eq_true hx, decide_eq_true hy]; rfl
            have q1 : ¬ (128 : Int) ≤ (X1 : Int) := by omega
            have q2 : ¬ (15 : Int) < (Y1 : Int) := by omega
            replace hk1 := Lib.hid hk1
            go_upto_region 6 with (fail)
            go_quiet ((go_at_call 31; exact Calls.quiet_of_same (P1.out _)))
            have hq : ∃ q, wo.drewN nq = w.drewN q := by obtain ⟨q, rfl⟩ := hH.out.1; exact ⟨q + nq, World.drewN_drewN _ _ _⟩
            replace hq := Lib.hid hq
            clear d1 d2
            generalize wo.drewN nq = W1 at *
            go_wp2_with fail
            exact ⟨⟨2, by decide, rfl, Lib.hid ⟨hq.out, fun _ => hH.out.2.1 (by decide), fun _ => hk1.out, fun h => absurd h (by decide)⟩⟩, by simp only [intOf]; omega⟩
          · have hk1 : o1 = false := by rw [ho1.out, decide_eq_false hy]; simp
            have q1 : ¬ (128 : Int) ≤ (X1 : Int) := by omega
            have q2 : (15 : Int) < (Y1 : Int) := by omega
            replace hk1 := Lib.hid hk1
            go_upto_region 6 with (fail)
            go_quiet ((go_at_call 31; exact Calls.quiet_of_same (P1.out _)))
            have hq : ∃ q, wo.drewN nq = w.drewN q := by obtain ⟨q, rfl⟩ := hH.out.1; exact ⟨q + nq, World.drewN_drewN _ _ _⟩
            replace hq := Lib.hid hq
            clear d1 d2
            generalize wo.drewN nq = W1 at *
            have hC : C = false := by rw [hcb2.out, hk1.out]; simp
            replace hC := Lib.hid hC
            go_wp2_with fail
            go_ret
            exact ⟨by rw [hC.out]; rfl, hq.out⟩
        · have hk1 : o1 = false := by rw [ho1.out, decide_eq_false hx]; simp
          have q1 : (128 : Int) ≤ (X1 : Int) := by omega
          replace hk1 := Lib.hid hk1
          go_upto_region 6 with (fail)
          go_quiet ((go_at_call 31; exact Calls.quiet_of_same (P1.out _)))
          have hq : ∃ q, wo.drewN nq = w.drewN q := by obtain ⟨q, rfl⟩ := hH.out.1; exact ⟨q + nq, World.drewN_drewN _ _ _⟩
          replace hq := Lib.hid hq
          clear d1 d2
          generalize wo.drewN nq = W1 at *
          have hC : C = false := by rw [hcb2.out, hk1.out]; simp
          replace hC := Lib.hid hC
          go_wp2_with fail
          go_ret
          exact ⟨by rw [hC.out]; rfl, hq.out⟩
      · have d1 := (hcell.out ⟨g, o + 10, none⟩).trans c10.out
        have d2 := (hcell.out ⟨g, o + 12, none⟩).trans c12.out
        clear hk
        by_cases hx : X2 < 16
        · by_cases hy : Y2 < 16
          · have hk1 : o2 = true := by rw [ho2.out, decide_eq_true hx, decide_eq_true hy]; rfl
            have q1 : ¬ (16 : Int) ≤ (X2 : Int) := by omega
            have q2 : ¬ (15 : Int) < (Y2 : Int) := by omega
            replace hk1 := Lib.hid hk1
            go_upto_region 6 with (fail)
            go_quiet ((go_at_call 31; exact Calls.quiet_of_same (P2.out _)))
            have hq : ∃ q, wo.drewN nq = w.drewN q := by obtain ⟨q, rfl⟩ := hH.out.1; exact ⟨q + nq, World.drewN_drewN _ _ _⟩
            replace hq := Lib.hid hq
            clear d1 d2
            generalize wo.drewN nq = W1 at *
            go_wp2_with fail
            exact ⟨⟨3, by decide, rfl, Lib.hid ⟨hq.out, fun _ => hH.out.2.1 (by decide), fun _ => hH.out.2.2.1 (by decide), fun _ => hk1.out⟩⟩, by simp only [intOf]; omega⟩
          · have hk1 : o2 = false := by rw [ho2.out, decide_eq_false hy]; simp
            have q1 : ¬ (16 : Int) ≤ (X2 : Int) := by omega
            have q2 : (15 : Int) < (Y2 : Int) := by omega
            replace hk1 := Lib.hid hk1
            go_upto_region 6 with (fail)
            go_quiet ((go_at_call 31; exact Calls.quiet_of_same (P2.out _)))
            have hq : ∃ q, wo.drewN nq = w.drewN q := by obtain ⟨q, rfl⟩ := hH.out.1; exact ⟨q + nq, World.drewN_drewN _ _ _⟩
            replace hq := Lib.hid hq
            clear d1 d2
            generalize wo.drewN nq = W1 at *
            have hC : C = false := by rw [hcb2.out, hk1.out]; simp
            replace hC := Lib.hid hC
            go_wp2_with fail
            go_ret
            exact ⟨by rw [hC.out]; rfl, hq.out⟩
        · have hk1 : o2 = false := by rw [ho2.out, decide_eq_false hx]; simp
          have q1 : (16 : Int) ≤ (X2 : Int) := by omega
          replace hk1 := Lib.hid hk1
          go_upto_region 6 with (fail)
          go_quiet ((go_at_call 31; exact Calls.quiet_of_same (P2.out _)))
          have hq : ∃ q, wo.drewN nq = w.drewN q := by obtain ⟨q, rfl⟩ := hH.out.1; exact ⟨q + nq, World.drewN_drewN _ _ _⟩
          replace hq := Lib.hid hq
          clear d1 d2
          generalize wo.drewN nq = W1 at *
          have hC : C = false := by rw [hcb2.out, hk1.out]; simp
          replace hC := Lib.hid hC
          go_wp2_with fail
          go_ret
          exact ⟨by rw [hC.out]; rfl, hq.out⟩
      · have e0 := hH.out.2.1 (by decide)
        have e1 := hH.out.2.2.1 (by decide)
        have e2 := hH.out.2.2.2 (by decide)
        have hC : C = true := by rw [hcb2.out, e0, e1, e2]; simp
        replace hC := Lib.hid hC
        have hq := Lib.hid hH.out.1
        clear e0 e1 e2 hH
        go_wp2_with fail
        go_ret
        exact ⟨by rw [hC.out]; rfl, hq.out⟩
end Go.Proofs.YtbdhdedlemndeaaDoor
