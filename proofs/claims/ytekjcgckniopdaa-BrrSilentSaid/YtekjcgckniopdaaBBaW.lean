/-
  The walk of BrrBack.
-/
import Derived.Test.YtekjcgckniopdaaBPkC
import Derived.Test.YtekjcgckniopdaaBAlW
namespace Go.Proofs.Ytekjcgckniopdaa.brrBack
open Go.RowKit Go.Shelf
set_option maxRecDepth 100000
set_option maxHeartbeats 2000000
set_option linter.unusedVariables false
set_option linter.unusedSimpArgs false

theorem end_pack (s : Nat → Int) (n : Nat) : EndAt (pkG s n) (9 * pieN n) (pieN n - 1) ∧ decide (pkG s n (9 * (pieN n - 1)) / 2 % 2 = 1) = false := by
  have hm := pieN_pos n
  obtain ⟨h1, h2⟩ := pkB_head s n (pieN n - 1)
  have hl : pkG s n (9 * (pieN n - 1)) = pkB s n (pieN n - 1) 0 + 1 := by
    unfold pkG
    rw [if_pos (by omega), show 9 * (pieN n - 1) / 9 = pieN n - 1 by omega, show 9 * (pieN n - 1) % 9 = 0 by omega]
  refine ⟨⟨by omega, fun i hi => ?_, by rw [hl]; omega⟩, decide_eq_false (by rw [hl]; omega)⟩
  have h3 := (pkB_head s n i).1
  have hi2 : pkG s n (9 * i) = pkB s n i 0 := by
    unfold pkG
    rw [if_neg (by omega), show 9 * i / 9 = i by omega, show 9 * i % 9 = 0 by omega]
    exact Nat.add_zero _
  rw [hi2]
  omega
theorem walk (a : Option Addr) (n c : Nat) (s : Nat → Int) (w : World) (hI : IRow w a n s) (hs : ∀ i, Smp (s i)) (hn : n ≤ 140737488351232) (hnc : n ≤ c) :
    Calls Try.prog 7 #[.slice a n c] w fun e w' => e = .returned (.bool true) ∧ Below w.heap.size w w' := by
  have HK := Lib.hid known_any
  by_cases h4 : 400 < n
  · obtain ⟨b, o, rfl, hbl, hbc⟩ : ∃ b o, a = some ⟨b, o, none⟩ ∧ b < w.heap.size ∧ ∀ i, i < n → w.cell? ⟨b, o + i, none⟩ = some (.int .i16 (s i)) := by
      rcases hI with h | h
      · omega
      · exact h
    have hIN : IRow w (some ⟨b, o, none⟩) 400 s := .inr ⟨b, o, rfl, hbl, fun i hi => hbc i (by omega)⟩
    have hc4 : (400 : Int) ≤ (c : Int) := by omega
    have hd4 : decide ((400 : Int) < (n : Int)) = true := decide_eq_true (by omega)
    clear hbc
    go_enter Try.func7, Try.ntmps7
    go_upto_region 3 with (fail)
    obtain ⟨N, hN⟩ : ∃ N : Nat, 400 = N := ⟨_, rfl⟩
    rw [hN] at hIN ⊢
    have hN4 : N ≤ 400 := by omega
    have hNc : N ≤ c := by omega
    clear hN hc4 hd4 hn
    have hm := pieN_pos N
    have hmb : pieN N ≤ 25 := by unfold pieN; split <;> omega
    have HP := Lib.hid (cpack_any w (some ⟨b, o, none⟩) N c s hIN hs (by omega) (by omega))
    have hwant : (N = 0 ∧ pieN N = 1) ∨ (N ≠ 0 ∧ pieN N = (N + 15) / 16) := by unfold pieN; split <;> omega
    go_wp2_with fail
    refine HP.out.mono ?_
    rintro e W1 ⟨gs, c1, rfl, hR1, hc1, hB1⟩
    have hend := end_pack s N
    have HA := Lib.hid (call_all_any W1 (some ⟨gs, 0, none⟩) (9 * pieN N) c1 (pkG s N) hR1 hc1 (by omega))
    replace hB1 := Lib.hid hB1
    clear HP hR1
    go_wp2_with fail
    refine HA.out.mono ?_
    rintro e W2 ⟨hB2, hP2⟩
    have hB12 := Lib.hid (hB1.out.trans (hB2.mono hB1.out.size))
    clear HA hB2
    rcases hP2 with ⟨hno, _⟩ | ⟨k, a2, c2, hk, rfl, hI2, hc2⟩
    · exact absurd hend.1.2.2 (hno _ hend.1.1)
    · obtain rfl : k = pieN N - 1 := brrAlls.end_one hk hend.1
      rw [hend.2]
      have e1 : 16 * (pieN N - 1 + 1) = 16 * pieN N := by omega
      have e2 : ((9 * (pieN N - 1) + 9 : Nat) : Int) = ((9 * pieN N : Nat) : Int) := by omega
      rw [e1, e2]
      have q0 : ((N : Int) + 15) / 16 = (((N + 15) / 16 : Nat) : Int) := by omega
      have q1 : (((N + 15) / 16 : Nat) : Int) * 16 = ((16 * ((N + 15) / 16) : Nat) : Int) := by omega
      have q2 : ((16 * pieN N : Nat) : Int) / 16 = ((pieN N : Nat) : Int) := by omega
      have q3 : ((pieN N : Nat) : Int) * 9 = ((9 * pieN N : Nat) : Int) := by omega
      clear hk hend hI2 hc2 e1 e2 hI hIN
      rcases hwant with ⟨h0, h1⟩ | ⟨h0, h1⟩
      · rw [h1] at *
        subst h0
        go_wp2_with fail
        refine (HK.out _).mono ?_
        rintro e W3 ⟨rfl, hB3⟩
        have hBf := Lib.hid (hB12.out.trans (hB3.mono hB12.out.size))
        go_wp2_with fail
        go_ret
        exact ⟨rfl, hBf.out⟩
      · rw [← h1] at q0 q1
        have h16 : ((16 * pieN N : Nat) : Int) ≠ 0 := by omega
        have h16b : (((16 * pieN N : Nat) : Int) == 0) = false := beq_eq_false_iff_ne.2 h16
        have hm0 : ¬ (pieN N = 0) := by omega
        have hmN : 16 * pieN N ≤ 400 := by omega
        have hmN9 : 9 * pieN N ≤ 400 := by omega
        generalize hM9 : 9 * pieN N = M9 at *
        generalize hM16 : 16 * pieN N = M16 at *
        have hM160 : ¬ (M16 = 0) := by omega
        replace hM9 := Lib.hid hM9
        replace hM16 := Lib.hid hM16
        replace h1 := Lib.hid h1
        generalize pieN N = m at *
        go_wp2_with fail
        refine (HK.out _).mono ?_
        rintro e W3 ⟨rfl, hB3⟩
        have hBf := Lib.hid (hB12.out.trans (hB3.mono hB12.out.size))
        go_wp2_with fail
        go_ret
        exact ⟨rfl, hBf.out⟩
  · have hIN := hI
    have hd4 : decide ((400 : Int) < (n : Int)) = false := decide_eq_false (by omega)
    have hn4 : n ≤ 400 := by omega
    go_enter Try.func7, Try.ntmps7
    go_upto_region 3 with (fail)
    clear hd4 hn h4
    have hm := pieN_pos n
    have hmb : pieN n ≤ 25 := by unfold pieN; split <;> omega
    have HP := Lib.hid (cpack_any w a n c s hIN hs (by omega) (by omega))
    have hwant : (n = 0 ∧ pieN n = 1) ∨ (n ≠ 0 ∧ pieN n = (n + 15) / 16) := by unfold pieN; split <;> omega
    go_wp2_with fail
    refine HP.out.mono ?_
    rintro e W1 ⟨gs, c1, rfl, hR1, hc1, hB1⟩
    have hend := end_pack s n
    have HA := Lib.hid (call_all_any W1 (some ⟨gs, 0, none⟩) (9 * pieN n) c1 (pkG s n) hR1 hc1 (by omega))
    replace hB1 := Lib.hid hB1
    clear HP hR1
    go_wp2_with fail
    refine HA.out.mono ?_
    rintro e W2 ⟨hB2, hP2⟩
    have hB12 := Lib.hid (hB1.out.trans (hB2.mono hB1.out.size))
    clear HA hB2
    rcases hP2 with ⟨hno, _⟩ | ⟨k, a2, c2, hk, rfl, hI2, hc2⟩
    · exact absurd hend.1.2.2 (hno _ hend.1.1)
    · obtain rfl : k = pieN n - 1 := brrAlls.end_one hk hend.1
      rw [hend.2]
      have e1 : 16 * (pieN n - 1 + 1) = 16 * pieN n := by omega
      have e2 : ((9 * (pieN n - 1) + 9 : Nat) : Int) = ((9 * pieN n : Nat) : Int) := by omega
      rw [e1, e2]
      have q0 : ((n : Int) + 15) / 16 = (((n + 15) / 16 : Nat) : Int) := by omega
      have q1 : (((n + 15) / 16 : Nat) : Int) * 16 = ((16 * ((n + 15) / 16) : Nat) : Int) := by omega
      have q2 : ((16 * pieN n : Nat) : Int) / 16 = ((pieN n : Nat) : Int) := by omega
      have q3 : ((pieN n : Nat) : Int) * 9 = ((9 * pieN n : Nat) : Int) := by omega
      clear hk hend hI2 hc2 e1 e2 hI hIN
      rcases hwant with ⟨h0, h1⟩ | ⟨h0, h1⟩
      · rw [h1] at *
        subst h0
        go_wp2_with fail
        refine (HK.out _).mono ?_
        rintro e W3 ⟨rfl, hB3⟩
        have hBf := Lib.hid (hB12.out.trans (hB3.mono hB12.out.size))
        go_wp2_with fail
        go_ret
        exact ⟨rfl, hBf.out⟩
      · rw [← h1] at q0 q1
        have h16 : ((16 * pieN n : Nat) : Int) ≠ 0 := by omega
        have h16b : (((16 * pieN n : Nat) : Int) == 0) = false := beq_eq_false_iff_ne.2 h16
        have hm0 : ¬ (pieN n = 0) := by omega
        have hmN : 16 * pieN n ≤ 400 := by omega
        have hmN9 : 9 * pieN n ≤ 400 := by omega
        generalize hM9 : 9 * pieN n = M9 at *
        generalize hM16 : 16 * pieN n = M16 at *
        have hM160 : ¬ (M16 = 0) := by omega
        replace hM9 := Lib.hid hM9
        replace hM16 := Lib.hid hM16
        replace h1 := Lib.hid h1
        generalize pieN n = m at *
        go_wp2_with fail
        refine (HK.out _).mono ?_
        rintro e W3 ⟨rfl, hB3⟩
        have hBf := Lib.hid (hB12.out.trans (hB3.mono hB12.out.size))
        go_wp2_with fail
        go_ret
        exact ⟨rfl, hBf.out⟩
end Go.Proofs.Ytekjcgckniopdaa.brrBack
