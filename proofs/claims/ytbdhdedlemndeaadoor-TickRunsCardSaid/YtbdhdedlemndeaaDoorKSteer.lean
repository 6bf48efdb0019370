/-
  A write to the register 1; Write, by the code (genksteer.py writes this text).
-/
import Derived.Test.YtbdhdedlemndeaaDoorKWr
namespace Go.Proofs.YtbdhdedlemndeaaDoor
open Go.RowKit Go.Shelf
set_option maxRecDepth 100000
set_option maxHeartbeats 1000000
set_option linter.unusedVariables false

/-- A timer is on that was off. -/
def turnB (f : Nat → Nat) (v k : Nat) : Bool := (v / 2 ^ k % 2 == 1) && !(onF f k)
def stB1 (f : Nat → Nat) (v : Nat) : Nat → Nat := if turnB f v 0 then upd (upd f 3 0) 4 0 else f
def stB2 (f : Nat → Nat) (v : Nat) : Nat → Nat := if turnB f v 1 then upd (upd (stB1 f v) 7 0) 8 0 else stB1 f v
def stB3 (f : Nat → Nat) (v : Nat) : Nat → Nat := if turnB f v 2 then upd (upd (stB2 f v) 11 0) 12 0 else stB2 f v
def stB (f : Nat → Nat) (v : Nat) : Nat → Nat → Nat
  | 0 => f
  | 1 => stB1 f v
  | 2 => stB2 f v
  | _ => stB3 f v
def lowF (g : Nat → Nat) (v : Nat) : Nat → Nat := if v / 16 % 2 = 1 then upd (upd g 13 0) 14 0 else g
def highF (g : Nat → Nat) (v : Nat) : Nat → Nat := if v / 32 % 2 = 1 then upd (upd g 15 0) 16 0 else g
def steerF (f : Nat → Nat) (v : Nat) : Nat → Nat := upd (highF (lowF (stB f v 3) v) v) 0 (v % 8 + v / 128 * 128)
theorem kturn : ∀ v : Nat, v < 256 → ∀ l, l < 8 → ∀ h, h < 2 →
    (bits .and .u8 (bits .andNot .u8 (v : Int) ((l + 128 * h : Nat) : Int)) 1 != 0) = ((v / 2 ^ 0 % 2 == 1) && !((l + 128 * h) / 2 ^ 0 % 2 == 1)) ∧
    (bits .and .u8 (bits .andNot .u8 (v : Int) ((l + 128 * h : Nat) : Int)) 2 != 0) = ((v / 2 ^ 1 % 2 == 1) && !((l + 128 * h) / 2 ^ 1 % 2 == 1)) ∧
    (bits .and .u8 (bits .andNot .u8 (v : Int) ((l + 128 * h : Nat) : Int)) 4 != 0) = ((v / 2 ^ 2 % 2 == 1) && !((l + 128 * h) / 2 ^ 2 % 2 == 1)) := by decide +kernel
theorem kctl : ∀ v : Nat, v < 256 → (bits .and .u8 (v : Int) 16 != 0) = decide (v / 16 % 2 = 1) ∧ (bits .and .u8 (v : Int) 32 != 0) = decide (v / 32 % 2 = 1) ∧ bits .and .u8 (v : Int) 135 = ((v % 8 + v / 128 * 128 : Nat) : Int) := by decide +kernel
theorem kbits {q : Nat} (h : q / 8 % 16 = 0) (hq : q < 256) : q = q % 8 + 128 * (q / 128) ∧ q % 8 < 8 ∧ q / 128 < 2 := by omega
theorem GoodT.upd {f : Nat → Nat} (h : GoodT f) {i x : Nat} (hx : x < 256) (h2 : i ≠ 2 ∧ i ≠ 6 ∧ i ≠ 10) (h4 : (i = 4 ∨ i = 8 ∨ i = 12) → x < 16) (h0 : i = 0 → x / 8 % 16 = 0) : GoodT (Go.Proofs.YtbdhdedlemndeaaDoor.upd f i x) := by
  have key : ∀ j, Go.Proofs.YtbdhdedlemndeaaDoor.upd f i x j = if j = i then x else f j := fun _ => rfl
  refine ⟨fun j => ?_, ?_, ?_, ?_, ?_, ?_, ?_, ?_⟩ <;> rw [key]
  · split
    · exact hx
    · exact h.byte j
  · rw [if_neg (by omega)]; exact h.div0
  · rw [if_neg (by omega)]; exact h.div1
  · rw [if_neg (by omega)]; exact h.div2
  · split
    · exact h4 (by omega)
    · exact h.tal0
  · split
    · exact h4 (by omega)
    · exact h.tal1
  · split
    · exact h4 (by omega)
    · exact h.tal2
  · split
    · exact h0 (by omega)
    · exact h.bits
theorem GoodT.stB {f : Nat → Nat} (h : GoodT f) (v k : Nat) : GoodT (stB f v k) := by
  have h1 : GoodT (stB1 f v) := by
    unfold stB1; split
    · exact (h.upd (by decide) (by decide) (by decide) (by decide)).upd (by decide) (by decide) (by decide) (by decide)
    · exact h
  have h2 : GoodT (stB2 f v) := by
    unfold stB2; split
    · exact (h1.upd (by decide) (by decide) (by decide) (by decide)).upd (by decide) (by decide) (by decide) (by decide)
    · exact h1
  have h3 : GoodT (stB3 f v) := by
    unfold stB3; split
    · exact (h2.upd (by decide) (by decide) (by decide) (by decide)).upd (by decide) (by decide) (by decide) (by decide)
    · exact h2
  match k with
  | 0 => exact h
  | 1 => exact h1
  | 2 => exact h2
  | k + 3 => exact h3
theorem GoodT.steer {f : Nat → Nat} (h : GoodT f) {v : Nat} (hv : v < 256) : GoodT (steerF f v) := by
  have h3 := h.stB v 3
  have h4 : GoodT (lowF (Go.Proofs.YtbdhdedlemndeaaDoor.stB f v 3) v) := by
    unfold lowF; split
    · exact (h3.upd (by decide) (by decide) (by decide) (by decide)).upd (by decide) (by decide) (by decide) (by decide)
    · exact h3
  have h5 : GoodT (highF (lowF (Go.Proofs.YtbdhdedlemndeaaDoor.stB f v 3) v) v) := by
    unfold highF; split
    · exact (h4.upd (by decide) (by decide) (by decide) (by decide)).upd (by decide) (by decide) (by decide) (by decide)
    · exact h4
  exact h5.upd (by omega) (by decide) (fun h => by omega) (fun _ => by omega)
theorem steer_any {b : Nat} {f : Nat → Nat} (v : Nat) (w : World) (h : Ts w b f) (hv : v < 256) :
    Calls Tryd.prog 34 #[.pointer (some ⟨b, 0, none⟩), .int .u8 (v : Nat)] w fun e w' => e = .returned (.tuple #[]) ∧ Ts w' b (steerF f v) ∧ w.grownBy w' (some b) := by
  have hg := Lib.hid (h.good.steer hv)
  have c0 := h.tq.cell 0 (by decide)
  have hbt : (bits .and .u8 (bits .andNot .u8 (v : Int) (f 0 : Int)) 1 != 0) = turnB f v 0 ∧ (bits .and .u8 (bits .andNot .u8 (v : Int) (f 0 : Int)) 2 != 0) = turnB f v 1 ∧ (bits .and .u8 (bits .andNot .u8 (v : Int) (f 0 : Int)) 4 != 0) = turnB f v 2 := by
    obtain ⟨k1, k2, k3⟩ := kbits h.good.bits (h.good.byte 0)
    unfold turnB onF
    rw [k1]
    have := kturn v hv _ k2 _ k3
    rw [← k1] at this ⊢
    exact this
  obtain ⟨b0, b1, b2⟩ := hbt
  obtain ⟨m0, m1, m2⟩ := kctl v hv
  have O0 := Lib.hid fun W => (show Calls Tryd.prog 30 #[.int .i64 0] W fun e w' => e = .returned (.int .u8 1) ∧ w' = W from on_any 0 (by decide) W)
  have O1 := Lib.hid fun W => (show Calls Tryd.prog 30 #[.int .i64 1] W fun e w' => e = .returned (.int .u8 2) ∧ w' = W from on_any 1 (by decide) W)
  have O2 := Lib.hid fun W => (show Calls Tryd.prog 30 #[.int .i64 2] W fun e w' => e = .returned (.int .u8 4) ∧ w' = W from on_any 2 (by decide) W)
  have B0 := Lib.hid fun W (hW : Tq W b (stB f v 0)) => begin_any (p := 1) W hW (by decide)
  have B1 := Lib.hid fun W (hW : Tq W b (stB f v 1)) => begin_any (p := 5) W hW (by decide)
  have B2 := Lib.hid fun W (hW : Tq W b (stB f v 2)) => begin_any (p := 9) W hW (by decide)
  have s1 : stB f v 1 = if turnB f v 0 then upd (upd (stB f v 0) 3 0) 4 0 else stB f v 0 := rfl
  have s2 : stB f v 2 = if turnB f v 1 then upd (upd (stB f v 1) 7 0) 8 0 else stB f v 1 := rfl
  have s3 : stB f v 3 = if turnB f v 2 then upd (upd (stB f v 2) 11 0) 12 0 else stB f v 2 := rfl
  have hst : steerF f v = upd (highF (lowF (stB f v 3) v) v) 0 (v % 8 + v / 128 * 128) := rfl
  have hX : v % 8 + v / 128 * 128 < 256 := by omega
  have hTq : Tq w b (stB f v 0) := h.tq
  have hpd := Lib.hid h.pd
  have hne := Lib.hid h.ne
  generalize steerF f v = S at *
  generalize v % 8 + v / 128 * 128 = X at *
  generalize turnB f v 0 = t0 at *
  generalize turnB f v 1 = t1 at *
  generalize turnB f v 2 = t2 at *
  generalize f 0 = A at *
  generalize hD : bits .andNot .u8 (v : Int) (A : Int) = D at *
  replace s1 := Lib.hid s1
  replace s2 := Lib.hid s2
  replace s3 := Lib.hid s3
  replace hst := Lib.hid hst
  replace b0 := Lib.hid b0
  replace b1 := Lib.hid b1
  replace b2 := Lib.hid b2
  replace m0 := Lib.hid m0
  replace m1 := Lib.hid m1
  replace m2 := Lib.hid m2
  replace hTq := Lib.hid hTq
  replace hX := Lib.hid hX
  replace hv := Lib.hid hv
  clear h
  go_enter Tryd.func34, Tryd.ntmps34
  go_wp2_with fail
  clear c0 hD
  go_loopw [12] (fun i wr => ∃ k : Nat, k ≤ 3 ∧ i = .int .i64 k ∧ Hid (Tq wr b (stB f v k) ∧ Pd wr ∧ w.grownBy wr (some b))) (fun i _ => 3 - (intOf i).toNat)
  case atStart => exact ⟨0, Nat.zero_le _, rfl, Lib.hid ⟨hTq.out, hpd.out, grown_refl w b⟩⟩
  case round =>
    obtain ⟨k, hk, rfl, hH⟩ := hrel
    obtain ⟨wo, rfl⟩ : ∃ wo, wo = wr := ⟨_, rfl⟩
    have hT := Lib.hid hH.out.1
    have hP := Lib.hid hH.out.2.1
    rcases (show k = 0 ∨ k = 1 ∨ k = 2 ∨ k = 3 by omega) with rfl | rfl | rfl | rfl
    · have bk := b0.out
      clear hk
      cases t0 with
      | true =>
        go_wp2_with fail
        refine (O0.out _).mono ?_
        rintro e w' ⟨rfl, rfl⟩
        go_wp2_with fail
        refine (B0.out _ hT.out).mono ?_
        rintro e W2 ⟨rfl, hT2, hg2⟩
        have hP2 := hP.out.only hg2 hne.out
        have hT3 : Tq W2 b (stB f v 1) := by rw [s1.out]; exact hT2
        replace hT3 := Lib.hid hT3
        have hgf := Lib.hid (grown_trans hH.out.2.2 hg2)
        replace hP2 := Lib.hid hP2
        clear hg2 hT hT2 bk hH hP
        go_wp2_with fail
        refine ⟨⟨1, by decide, rfl, Lib.hid ⟨hT3.out, hP2.out, hgf.out⟩⟩, by simp only [intOf]; omega⟩
      | false =>
        go_wp2_with fail
        refine (O0.out _).mono ?_
        rintro e w' ⟨rfl, rfl⟩
        have hT3 : Tq w' b (stB f v 1) := by rw [s1.out]; exact hT.out
        replace hT3 := Lib.hid hT3
        go_wp2_with fail
        refine ⟨⟨1, by decide, rfl, Lib.hid ⟨hT3.out, hP.out, hH.out.2.2⟩⟩, by simp only [intOf]; omega⟩
    · have bk := b1.out
      clear hk
      cases t1 with
      | true =>
        go_wp2_with fail
        refine (O1.out _).mono ?_
        rintro e w' ⟨rfl, rfl⟩
        go_wp2_with fail
        refine (B1.out _ hT.out).mono ?_
        rintro e W2 ⟨rfl, hT2, hg2⟩
        have hP2 := hP.out.only hg2 hne.out
        have hT3 : Tq W2 b (stB f v 2) := by rw [s2.out]; exact hT2
        replace hT3 := Lib.hid hT3
        have hgf := Lib.hid (grown_trans hH.out.2.2 hg2)
        replace hP2 := Lib.hid hP2
        clear hg2 hT hT2 bk hH hP
        go_wp2_with fail
        refine ⟨⟨2, by decide, rfl, Lib.hid ⟨hT3.out, hP2.out, hgf.out⟩⟩, by simp only [intOf]; omega⟩
      | false =>
        go_wp2_with fail
        refine (O1.out _).mono ?_
        rintro e w' ⟨rfl, rfl⟩
        have hT3 : Tq w' b (stB f v 2) := by rw [s2.out]; exact hT.out
        replace hT3 := Lib.hid hT3
        go_wp2_with fail
        refine ⟨⟨2, by decide, rfl, Lib.hid ⟨hT3.out, hP.out, hH.out.2.2⟩⟩, by simp only [intOf]; omega⟩
    · have bk := b2.out
      clear hk
      cases t2 with
      | true =>
        go_wp2_with fail
        refine (O2.out _).mono ?_
        rintro e w' ⟨rfl, rfl⟩
        go_wp2_with fail
        refine (B2.out _ hT.out).mono ?_
        rintro e W2 ⟨rfl, hT2, hg2⟩
        have hP2 := hP.out.only hg2 hne.out
        have hT3 : Tq W2 b (stB f v 3) := by rw [s3.out]; exact hT2
        replace hT3 := Lib.hid hT3
        have hgf := Lib.hid (grown_trans hH.out.2.2 hg2)
        replace hP2 := Lib.hid hP2
        clear hg2 hT hT2 bk hH hP
        go_wp2_with fail
        refine ⟨⟨3, by decide, rfl, Lib.hid ⟨hT3.out, hP2.out, hgf.out⟩⟩, by simp only [intOf]; omega⟩
      | false =>
        go_wp2_with fail
        refine (O2.out _).mono ?_
        rintro e w' ⟨rfl, rfl⟩
        have hT3 : Tq w' b (stB f v 3) := by rw [s3.out]; exact hT.out
        replace hT3 := Lib.hid hT3
        go_wp2_with fail
        refine ⟨⟨3, by decide, rfl, Lib.hid ⟨hT3.out, hP.out, hH.out.2.2⟩⟩, by simp only [intOf]; omega⟩
    · have hG := Lib.hid hH.out.2.2
      obtain ⟨WW, rfl⟩ : ∃ WW, WW = wo := ⟨_, rfl⟩
      clear hH hk
      go_upto_if 29 with (fail)
      go_cut [] (fun V => Hid (Tq V b (lowF (stB f v 3) v) ∧ Pd V ∧ w.grownBy V (some b)))
      case first =>
        by_cases hl : v / 16 % 2 = 1
        · have tt : (bits .and .u8 (v : Int) 16 != 0) = true := by rw [m0.out]; exact decide_eq_true hl
          have hT3 := (hT.out.put 13 0 (by decide)).put 14 0 (by decide)
          have hg3 := only_set (only_set hG.out 13 (.int .u8 ((0 : Nat) : Int))) 14 (.int .u8 ((0 : Nat) : Int))
          have hP3 := hP.out.only (only_set (only_set (grown_refl _ b) 13 (.int .u8 ((0 : Nat) : Int))) 14 (.int .u8 ((0 : Nat) : Int))) hne.out
          rw [show upd (upd (stB f v 3) 13 0) 14 0 = lowF (stB f v 3) v from (if_pos hl).symm] at hT3
          have hsl : ∀ W : World, (Instr.sliceAt 27 (.pointer (some ⟨b, 13, none⟩)) none (some (.int .i64 2)) none).run Tryd.prog W = .ok (.slice (some ⟨b, 13, none⟩) 2 4) W := fun W => by kernel_rfl
          have hcl : ∀ ty, (Builtin.clear_ #[46] ty #[.slice (some ⟨b, 13, none⟩) 2 4]).run Tryd.prog WW = .ok (.tuple #[]) ((WW.setCell ⟨b, 13, none⟩ (.int .u8 0)).setCell ⟨b, 14, none⟩ (.int .u8 0)) := fun ty =>
            Lib.run_clear_slice WW 46 5 ty (.int .u8 0) Tryd.underlying46 (fun w => by kernel_rfl) rfl rfl b 13 2 4 (by decide) (fun j hj => by rw [hT.out.cell (13 + j) (by omega)]; rfl) (fun j hj => hT.out.free _)
          replace hT3 := Lib.hid hT3
          replace hg3 := Lib.hid hg3
          replace hP3 := Lib.hid hP3
          clear hl
          go_wp2_with fail
          go_meet
          exact Lib.hid ⟨hT3.out, hP3.out, hg3.out⟩
        · have tt : (bits .and .u8 (v : Int) 16 != 0) = false := by rw [m0.out]; exact decide_eq_false hl
          have hT3 := hT.out
          rw [show stB f v 3 = lowF (stB f v 3) v from (if_neg hl).symm] at hT3
          replace hT3 := Lib.hid hT3
          clear hl
          go_wp2_with fail
          go_meet
          exact Lib.hid ⟨hT3.out, hP.out, hG.out⟩
      case rest =>
        have yT := Lib.hid hcut.out.1
        have yP := Lib.hid hcut.out.2.1
        have yG := Lib.hid hcut.out.2.2
        obtain ⟨WW, rfl⟩ : ∃ WW, WW = wc := ⟨_, rfl⟩
        clear hcut hT hP hG
        go_upto_if 36 with (fail)
        go_cut [] (fun V => Hid (Tq V b (highF (lowF (stB f v 3) v) v) ∧ Pd V ∧ w.grownBy V (some b)))
        case first =>
          by_cases hl : v / 32 % 2 = 1
          · have tt : (bits .and .u8 (v : Int) 32 != 0) = true := by rw [m1.out]; exact decide_eq_true hl
            have hT3 := (yT.out.put 15 0 (by decide)).put 16 0 (by decide)
            have hg3 := only_set (only_set yG.out 15 (.int .u8 ((0 : Nat) : Int))) 16 (.int .u8 ((0 : Nat) : Int))
            have hP3 := yP.out.only (only_set (only_set (grown_refl _ b) 15 (.int .u8 ((0 : Nat) : Int))) 16 (.int .u8 ((0 : Nat) : Int))) hne.out
            rw [show upd (upd (lowF (stB f v 3) v) 15 0) 16 0 = highF (lowF (stB f v 3) v) v from (if_pos hl).symm] at hT3
            have hsl : ∀ W : World, (Instr.sliceAt 27 (.pointer (some ⟨b, 13, none⟩)) (some (.int .i64 2)) none none).run Tryd.prog W = .ok (.slice (some ⟨b, 15, none⟩) 2 2) W := fun W => by kernel_rfl
            have hcl : ∀ ty, (Builtin.clear_ #[46] ty #[.slice (some ⟨b, 15, none⟩) 2 2]).run Tryd.prog WW = .ok (.tuple #[]) ((WW.setCell ⟨b, 15, none⟩ (.int .u8 0)).setCell ⟨b, 16, none⟩ (.int .u8 0)) := fun ty =>
              Lib.run_clear_slice WW 46 5 ty (.int .u8 0) Tryd.underlying46 (fun w => by kernel_rfl) rfl rfl b 15 2 2 (by decide) (fun j hj => by rw [yT.out.cell (15 + j) (by omega)]; rfl) (fun j hj => yT.out.free _)
            replace hT3 := Lib.hid hT3
            replace hg3 := Lib.hid hg3
            replace hP3 := Lib.hid hP3
            clear hl
            go_wp2_with fail
            go_meet
            exact Lib.hid ⟨hT3.out, hP3.out, hg3.out⟩
          · have tt : (bits .and .u8 (v : Int) 32 != 0) = false := by rw [m1.out]; exact decide_eq_false hl
            have hT3 := yT.out
            rw [show lowF (stB f v 3) v = highF (lowF (stB f v 3) v) v from (if_neg hl).symm] at hT3
            replace hT3 := Lib.hid hT3
            clear hl
            go_wp2_with fail
            go_meet
            exact Lib.hid ⟨hT3.out, yP.out, yG.out⟩
        case rest =>
          have zT := hcut.out.1
          have hT4 := zT.put 0 X hX.out
          rw [← hst.out] at hT4
          have f0 := zT.free 0
          have k0 := zT.cell 0 (by decide)
          have hg4 := only_set hcut.out.2.2 0 (.int .u8 (X : Nat))
          have hP4 := hcut.out.2.1.only (only_set (grown_refl _ b) 0 (.int .u8 (X : Nat))) hne.out
          have m2' := m2.out
          replace hT4 := Lib.hid hT4
          replace hg4 := Lib.hid hg4
          replace hP4 := Lib.hid hP4
          clear zT hcut yT yP yG
          go_wp2_with fail
          go_end0
          exact ⟨rfl, ⟨hT4.out, hP4.out, hne.out, hg.out⟩, hg4.out⟩
end Go.Proofs.YtbdhdedlemndeaaDoor
