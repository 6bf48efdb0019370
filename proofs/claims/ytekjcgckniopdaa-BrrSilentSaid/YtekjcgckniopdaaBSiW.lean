/-
  The walk of BrrSilent.
-/
import Derived.Test.YtekjcgckniopdaaBSiP
import Derived.Test.YtekjcgckniopdaaBBaW
namespace Go.Proofs.Ytekjcgckniopdaa.brrSilent
open Go.RowKit Go.Shelf
set_option maxRecDepth 100000
set_option maxHeartbeats 1000000
set_option linter.unusedVariables false
set_option linter.unusedSimpArgs false

theorem irow_made (w : World) (n : Nat) : IRow (w.alloc (.cells (madeCells #[.int .i16 0] n) 23)) (some ⟨w.heap.size, 0, none⟩) n zF := by
  have hW := Whole.fresh w 23 (madeCells #[.int .i16 0] n)
  refine .inr ⟨w.heap.size, 0, rfl, hW.lt, fun i hi => ?_⟩
  rw [Nat.zero_add]
  refine (hW.cell i).trans ?_
  simp [madeCells, zF, hi, Nat.mod_one]
theorem walk (z : Int) (w : World) (hz : -9223372036854775808 ≤ z ∧ z ≤ 9223372036854775807) :
    Calls Try.prog 9 #[.int .i64 z] w fun e w' => e = .returned (.bool true) ∧ Below w.heap.size w w' := by
  have HK := Lib.hid known_any
  by_cases h4 : z < 0 ∨ 400 < z
  · have hcut : (decide (z < 0) = true) ∨ (decide (z < 0) = false ∧ decide (400 < z) = true) := by
      by_cases h : z < 0
      · exact .inl (decide_eq_true h)
      · exact .inr ⟨decide_eq_false h, decide_eq_true (by omega)⟩
    rcases hcut with t1 | ⟨t1, t2⟩
    all_goals
      go_enter Try.func9, Try.ntmps9
      go_upto_region 3 with (fail)
      obtain ⟨N, hN⟩ : ∃ N : Nat, (16 : Int) = (N : Int) := ⟨16, rfl⟩
      rw [hN]
      have hN4 : N ≤ 400 := by omega
      clear hN t1 h4 hz
      have hNn : N ≤ 1048576 := by omega
      have hmk : ∀ W : World, (Instr.makeSlice 27 (.int .i64 (N : Nat)) (.int .i64 (N : Nat))).run Try.prog W = .ok (.slice (some ⟨W.heap.size, 0, none⟩) N N) (W.alloc (.cells (madeCells #[.int .i16 0] N) 23)) := fun W => run_make_row' (P := Try.prog) 27 23 (.int .i16 0) 2 Try.underlying27 (by kernel_rfl) rfl .i64 .i64 N (by omega) (by omega) W
      have hI0 := irow_made w N
      have hB0 := (Below.refl w.heap.size w).alloc (Nat.le_refl _) (.cells (madeCells #[.int .i16 0] N) 23)
      generalize hW0 : w.alloc (.cells (madeCells #[.int .i16 0] N) 23) = W0 at *
      have hmk1 := hmk w
      rw [hW0] at hmk1
      have hm := pieN_pos N
      have hmb : pieN N ≤ 25 := by unfold pieN; split <;> omega
      have hmn : N ≤ 16 * pieN N := by unfold pieN; split <;> omega
      have HP := Lib.hid (cpack_any W0 (some ⟨w.heap.size, 0, none⟩) N N zF hI0 zF_smp (Nat.le_refl _) hNn)
      clear hmk hI0
      go_wp2_with fail
      refine HP.out.mono ?_
      rintro e W1 ⟨gs, c1, rfl, hR1, hc1, hB1⟩
      have hend := brrBack.end_pack zF N
      have HA := Lib.hid (call_all_any W1 (some ⟨gs, 0, none⟩) (9 * pieN N) c1 (pkG zF N) hR1 hc1 (by omega))
      have hB01 := Lib.hid (hB0.trans (hB1.mono hB0.size))
      clear HP hR1 hB0 hB1
      go_wp2_with fail
      refine HA.out.mono ?_
      rintro e W2 ⟨hB2, hP2⟩
      have hB12 := Lib.hid (hB01.out.trans (hB2.mono hB01.out.size))
      clear HA hB2
      rcases hP2 with ⟨hno, _⟩ | ⟨k, a2, c2, hk, rfl, hI2, hc2⟩
      · exact absurd hend.1.2.2 (hno _ hend.1.1)
      · obtain rfl : k = pieN N - 1 := brrAlls.end_one hk hend.1
        rw [hend.2]
        have e1 : 16 * (pieN N - 1 + 1) = 16 * pieN N := by omega
        rw [e1] at hI2 ⊢
        have hIz := Lib.hid (brrNearest.irow_congr (g := zF) hI2 (fun i _ => allF_zero N i))
        have hmm : 16 * pieN N ≤ 33554432 := by omega
        have hq : decide ((N : Int) ≤ ((16 * pieN N : Nat) : Int)) = true := decide_eq_true (by omega)
        clear hk hend hI2 hc2 e1
        generalize ((9 * (pieN N - 1) + 9 : Nat) : Int) = zz at *
        generalize 16 * pieN N = M at *
        clear hm hmb
        go_wp2_with fail
        go_loopw [7] (fun s7 wr => ∃ i : Nat, i ≤ M ∧ s7 = .int .i64 (i : Nat) ∧ Below W2.heap.size W2 wr) (fun s7 _ => M - (intOf s7).toNat)
        case atStart => exact ⟨0, Nat.zero_le _, rfl, Below.refl _ _⟩
        case round =>
          obtain ⟨i, hi, rfl, hB⟩ := hrel
          by_cases hlt : i < M
          · obtain ⟨zb, zo, rfl, hzb, hzc⟩ : ∃ zb zo, a2 = some ⟨zb, zo, none⟩ ∧ zb < W2.heap.size ∧ ∀ j, j < M → W2.cell? ⟨zb, zo + j, none⟩ = some (.int .i16 0) := by
              rcases hIz.out with h | h
              · omega
              · exact h
            have x0 := (hB.cell (p := ⟨zb, zo + i, none⟩) hzb).trans (hzc i hlt)
            replace hB := Lib.hid hB
            clear hzc hq
            go_wp2_with fail
            go_roundw
            case rel => exact ⟨i + 1, by omega, by go_num, hB.out⟩
            case measure => simp [intOf]; omega
          · obtain rfl : i = M := by omega
            have hBf := Lib.hid (hB12.out.trans (hB.mono hB12.out.size))
            go_wp2_with fail
            refine (HK.out _).mono ?_
            rintro e W3 ⟨rfl, hB3⟩
            have hBg := Lib.hid (hBf.out.trans (hB3.mono hBf.out.size))
            go_wp2_with fail
            go_ret
            exact ⟨rfl, hBg.out⟩
  · obtain ⟨N, rfl⟩ : ∃ N : Nat, z = (N : Int) := ⟨z.toNat, by omega⟩
    have hN4 : N ≤ 400 := by omega
    have t1 : decide ((N : Int) < 0) = false := decide_eq_false (by omega)
    have t2 : decide ((400 : Int) < (N : Int)) = false := decide_eq_false (by omega)
    have t3 : ¬ (400 < N) := by omega
    go_enter Try.func9, Try.ntmps9
    go_upto_region 3 with (fail)
    clear t1 t2 t3 h4 hz
    have hNn : N ≤ 1048576 := by omega
    have hmk : ∀ W : World, (Instr.makeSlice 27 (.int .i64 (N : Nat)) (.int .i64 (N : Nat))).run Try.prog W = .ok (.slice (some ⟨W.heap.size, 0, none⟩) N N) (W.alloc (.cells (madeCells #[.int .i16 0] N) 23)) := fun W => run_make_row' (P := Try.prog) 27 23 (.int .i16 0) 2 Try.underlying27 (by kernel_rfl) rfl .i64 .i64 N (by omega) (by omega) W
    have hI0 := irow_made w N
    have hB0 := (Below.refl w.heap.size w).alloc (Nat.le_refl _) (.cells (madeCells #[.int .i16 0] N) 23)
    generalize hW0 : w.alloc (.cells (madeCells #[.int .i16 0] N) 23) = W0 at *
    have hmk1 := hmk w
    rw [hW0] at hmk1
    have hm := pieN_pos N
    have hmb : pieN N ≤ 25 := by unfold pieN; split <;> omega
    have hmn : N ≤ 16 * pieN N := by unfold pieN; split <;> omega
    have HP := Lib.hid (cpack_any W0 (some ⟨w.heap.size, 0, none⟩) N N zF hI0 zF_smp (Nat.le_refl _) hNn)
    clear hmk hI0
    go_wp2_with fail
    refine HP.out.mono ?_
    rintro e W1 ⟨gs, c1, rfl, hR1, hc1, hB1⟩
    have hend := brrBack.end_pack zF N
    have HA := Lib.hid (call_all_any W1 (some ⟨gs, 0, none⟩) (9 * pieN N) c1 (pkG zF N) hR1 hc1 (by omega))
    have hB01 := Lib.hid (hB0.trans (hB1.mono hB0.size))
    clear HP hR1 hB0 hB1
    go_wp2_with fail
    refine HA.out.mono ?_
    rintro e W2 ⟨hB2, hP2⟩
    have hB12 := Lib.hid (hB01.out.trans (hB2.mono hB01.out.size))
    clear HA hB2
    rcases hP2 with ⟨hno, _⟩ | ⟨k, a2, c2, hk, rfl, hI2, hc2⟩
    · exact absurd hend.1.2.2 (hno _ hend.1.1)
    · obtain rfl : k = pieN N - 1 := brrAlls.end_one hk hend.1
      rw [hend.2]
      have e1 : 16 * (pieN N - 1 + 1) = 16 * pieN N := by omega
      rw [e1] at hI2 ⊢
      have hIz := Lib.hid (brrNearest.irow_congr (g := zF) hI2 (fun i _ => allF_zero N i))
      have hmm : 16 * pieN N ≤ 33554432 := by omega
      have hq : decide ((N : Int) ≤ ((16 * pieN N : Nat) : Int)) = true := decide_eq_true (by omega)
      clear hk hend hI2 hc2 e1
      generalize ((9 * (pieN N - 1) + 9 : Nat) : Int) = zz at *
      generalize 16 * pieN N = M at *
      clear hm hmb
      go_wp2_with fail
      go_loopw [7] (fun s7 wr => ∃ i : Nat, i ≤ M ∧ s7 = .int .i64 (i : Nat) ∧ Below W2.heap.size W2 wr) (fun s7 _ => M - (intOf s7).toNat)
      case atStart => exact ⟨0, Nat.zero_le _, rfl, Below.refl _ _⟩
      case round =>
        obtain ⟨i, hi, rfl, hB⟩ := hrel
        by_cases hlt : i < M
        · obtain ⟨zb, zo, rfl, hzb, hzc⟩ : ∃ zb zo, a2 = some ⟨zb, zo, none⟩ ∧ zb < W2.heap.size ∧ ∀ j, j < M → W2.cell? ⟨zb, zo + j, none⟩ = some (.int .i16 0) := by
            rcases hIz.out with h | h
            · omega
            · exact h
          have x0 := (hB.cell (p := ⟨zb, zo + i, none⟩) hzb).trans (hzc i hlt)
          replace hB := Lib.hid hB
          clear hzc hq
          go_wp2_with fail
          go_roundw
          case rel => exact ⟨i + 1, by omega, by go_num, hB.out⟩
          case measure => simp [intOf]; omega
        · obtain rfl : i = M := by omega
          have hBf := Lib.hid (hB12.out.trans (hB.mono hB12.out.size))
          go_wp2_with fail
          refine (HK.out _).mono ?_
          rintro e W3 ⟨rfl, hB3⟩
          have hBg := Lib.hid (hBf.out.trans (hB3.mono hBf.out.size))
          go_wp2_with fail
          go_ret
          exact ⟨rfl, hBg.out⟩
end Go.Proofs.Ytekjcgckniopdaa.brrSilent
