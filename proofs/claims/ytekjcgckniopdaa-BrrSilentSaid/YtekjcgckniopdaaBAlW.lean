/-
  The walk of BrrAlls.
-/
import Derived.Test.YtekjcgckniopdaaBRAm
namespace Go.Proofs.Ytekjcgckniopdaa.brrAlls
open Go.RowKit Go.Shelf
set_option maxRecDepth 100000
set_option maxHeartbeats 2000000
set_option linter.unusedVariables false
set_option linter.unusedSimpArgs false

theorem end_one {g : Nat → Nat} {n j k : Nat} (h1 : EndAt g n j) (h2 : EndAt g n k) : j = k := by
  rcases Nat.lt_trichotomy j k with h | h | h
  · exact absurd h1.2.2 (h2.2.1 j h)
  · exact h
  · exact absurd h2.2.2 (h1.2.1 k h)
theorem walk (a : Option Addr) (n c : Nat) (f : Nat → Nat) (w : World) (hR : Row w a n f) (hnc : n ≤ c) (hn : n ≤ 1048576) :
    Calls Try.prog 4 #[.slice a n c] w fun e w' => e = .returned (.bool true) ∧ Below w.heap.size w w' := by
  have HR := Lib.hid (rall_any w a n c f hR hnc hn)
  have HC := Lib.hid fun W h => copy_any a n c f W h (by omega)
  have hRh := Lib.hid hR
  clear hR
  go_enter Try.func4, Try.ntmps4
  go_wp2_with fail
  refine HR.out.mono ?_
  rintro e W1 ⟨hB1, hP1⟩
  have hR1 := hRh.out.below hB1
  have HC1 := Lib.hid (HC.out W1 hR1)
  have hP1h := Lib.hid hP1
  replace hB1 := Lib.hid hB1
  have HCc := Lib.hid fun (W : World) (G : Nat) (h : Row W (some ⟨G, 0, none⟩) n f) => call_all_any W (some ⟨G, 0, none⟩) n n f h (Nat.le_refl _) hn
  rcases hP1 with ⟨hno, rfl⟩ | ⟨k, a1, c1, hk, rfl, hI1, hc1⟩
  · clear hR1 HR HC hRh
    go_wp2_with fail
    refine HC1.out.mono ?_
    rintro e W2 ⟨G, rfl, hG, hGl, hB2⟩
    have hBB2 := Lib.hid (hB1.out.trans (hB2.mono hB1.out.size))
    have HA := Lib.hid (HCc.out W2 G hG.row)
    clear hG hB2 HC1 HCc
    go_wp2_with fail
    refine HA.out.mono ?_
    rintro e W3 ⟨hB3, hP3⟩
    have hBB3 := Lib.hid (hBB2.out.trans (hB3.mono hBB2.out.size))
    rcases hP3 with ⟨_, rfl⟩ | ⟨j, a2, c2, hj, rfl, hI2, hc2⟩
    · have HSh := Lib.hid (shorts_any W3 none none 0 0 0 (fun _ => 0) (.inl rfl) (.inl rfl) (by decide))
      clear hB3 HA hBB2 hP1h hno
      go_wp2_with fail
      refine HSh.out.mono ?_
      rintro e W5 ⟨rfl, q5, rfl⟩
      have hBB5 := Lib.hid (below_drewN hBB3.out q5)
      go_wp2_with fail
      go_ret
      exact ⟨rfl, hBB5.out⟩
    · exact absurd hj.2.2 (hno j hj.1)
  · have hI1h := Lib.hid (And.intro hI1 hB1.out)
    have hkh := Lib.hid hk
    have hk16 : 16 * (k + 1) ≤ 140737488355328 := by have := hk.1; omega
    generalize hl : decide (f (9 * k) / 2 % 2 = 1) = l2
    generalize hz : ((9 * k + 9 : Nat) : Int) = z
    replace hl := Lib.hid hl
    replace hz := Lib.hid hz
    clear hR1 HR HC hRh hI1 hk hP1h
    go_wp2_with fail
    refine HC1.out.mono ?_
    rintro e W2 ⟨G, rfl, hG, hGl, hB2⟩
    have hBB2 := Lib.hid (And.intro (hI1h.out.1.below hB2) (hI1h.out.2.trans (hB2.mono hI1h.out.2.size)))
    have HA := Lib.hid (HCc.out W2 G hG.row)
    clear hG hB2 HC1 HCc
    go_wp2_with fail
    refine HA.out.mono ?_
    rintro e W3 ⟨hB3, hP3⟩
    have hBB3 := Lib.hid (And.intro (hBB2.out.1.below hB3) (hBB2.out.2.trans (hB3.mono hBB2.out.2.size)))
    rcases hP3 with ⟨hno, _⟩ | ⟨j, a2, c2, hj, rfl, hI2, hc2⟩
    · exact absurd hkh.out.2.2 (hno k hkh.out.1)
    · obtain rfl : j = k := end_one hj hkh.out
      have HSh := Lib.hid (shorts_any W3 a2 a1 (16 * (j + 1)) c2 c1 (allF f) hI2 hBB3.out.1 hk16)
      rw [hl.out, hz.out]
      clear hB3 HA hBB2 hI2 hj
      go_wp2_with fail
      refine HSh.out.mono ?_
      rintro e W5 ⟨rfl, q5, rfl⟩
      have hBB5 := Lib.hid (below_drewN hBB3.out.2 q5)
      go_wp2_with fail
      go_ret
      exact ⟨rfl, hBB5.out⟩
end Go.Proofs.Ytekjcgckniopdaa.brrAlls
