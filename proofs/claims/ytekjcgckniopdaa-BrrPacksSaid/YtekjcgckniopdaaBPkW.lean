/-
  The walk of BrrPacks.
-/
import Derived.Test.YtekjcgckniopdaaBPkD
namespace Go.Proofs.Ytekjcgckniopdaa.brrPacks
open Go.RowKit Go.Shelf
set_option maxRecDepth 100000
set_option maxHeartbeats 2000000
set_option linter.unusedVariables false
set_option linter.unusedSimpArgs false

theorem walk (a : Option Addr) (n c : Nat) (s : Nat → Int) (w : World) (hI : IRow w a n s) (hs : ∀ i, Smp (s i)) (hn : n ≤ 140737488351232) (hnc : n ≤ c) :
    Calls Try.prog 6 #[.slice a n c] w fun e w' => e = .returned (.bool true) ∧ Below w.heap.size w w' := by
  by_cases h4 : 400 < n
  · obtain ⟨b, o, rfl, hbl, hbc⟩ : ∃ b o, a = some ⟨b, o, none⟩ ∧ b < w.heap.size ∧ ∀ i, i < n → w.cell? ⟨b, o + i, none⟩ = some (.int .i16 (s i)) := by
      rcases hI with h | h
      · omega
      · exact h
    have hIN : IRow w (some ⟨b, o, none⟩) 400 s := .inr ⟨b, o, rfl, hbl, fun i hi => hbc i (by omega)⟩
    have hc4 : (400 : Int) ≤ (c : Int) := by omega
    have hd4 : decide ((400 : Int) < (n : Int)) = true := decide_eq_true (by omega)
    clear hbc
    go_enter Try.func6, Try.ntmps6
    go_upto_region 3 with (fail)
    obtain ⟨N, hN⟩ : ∃ N : Nat, 400 = N := ⟨_, rfl⟩
    rw [hN] at hIN ⊢
    have hN4 : N ≤ 400 := by omega
    have hNc : N ≤ c := by omega
    clear hN hc4 hd4 hn
    have hmb : 9 * pieN N ≤ 1000 := by unfold pieN; split <;> omega
    have HP := Lib.hid (cpack_any w (some ⟨b, o, none⟩) N c s hIN hs (by omega) (by omega))
    go_wp2_with fail
    refine HP.out.mono ?_
    rintro e W1 ⟨gs, c1, rfl, hR1, hc1, hB1⟩
    have HR := Lib.hid (rpack_any W1 (some ⟨b, o, none⟩) N c s (hIN.below hB1) hs (by omega))
    replace hB1 := Lib.hid hB1
    replace hR1 := Lib.hid hR1
    clear HP
    go_wp2_with fail
    refine HR.out.mono ?_
    rintro e W2 ⟨gs2, c2, rfl, hR2, hB2⟩
    have HS := Lib.hid (same_any _ _ (9 * pieN N) c1 c2 (pkG s N) W2 (hR1.out.below hB2) hR2 (by omega))
    have hB12 := Lib.hid (hB1.out.trans (hB2.mono hB1.out.size))
    clear HR hB2 hR2 hR1 hB1
    generalize 9 * pieN N = M at *
    go_wp2_with fail
    refine HS.out.mono ?_
    rintro e W3 ⟨rfl, q, rfl⟩
    have hBf := Lib.hid (below_drewN hB12.out q)
    clear HS
    go_wp2_with fail
    go_ret
    exact ⟨rfl, hBf.out⟩
  · have hd4 : decide ((400 : Int) < (n : Int)) = false := decide_eq_false (by omega)
    have hN4 : n ≤ 400 := by omega
    go_enter Try.func6, Try.ntmps6
    go_upto_region 3 with (fail)
    clear hd4 hn h4
    have hmb : 9 * pieN n ≤ 1000 := by unfold pieN; split <;> omega
    have HP := Lib.hid (cpack_any w (a) n c s hI hs (by omega) (by omega))
    go_wp2_with fail
    refine HP.out.mono ?_
    rintro e W1 ⟨gs, c1, rfl, hR1, hc1, hB1⟩
    have HR := Lib.hid (rpack_any W1 (a) n c s (hI.below hB1) hs (by omega))
    replace hB1 := Lib.hid hB1
    replace hR1 := Lib.hid hR1
    clear HP
    go_wp2_with fail
    refine HR.out.mono ?_
    rintro e W2 ⟨gs2, c2, rfl, hR2, hB2⟩
    have HS := Lib.hid (same_any _ _ (9 * pieN n) c1 c2 (pkG s n) W2 (hR1.out.below hB2) hR2 (by omega))
    have hB12 := Lib.hid (hB1.out.trans (hB2.mono hB1.out.size))
    clear HR hB2 hR2 hR1 hB1
    generalize 9 * pieN n = M at *
    go_wp2_with fail
    refine HS.out.mono ?_
    rintro e W3 ⟨rfl, q, rfl⟩
    have hBf := Lib.hid (below_drewN hB12.out q)
    clear HS
    go_wp2_with fail
    go_ret
    exact ⟨rfl, hBf.out⟩
end Go.Proofs.Ytekjcgckniopdaa.brrPacks
