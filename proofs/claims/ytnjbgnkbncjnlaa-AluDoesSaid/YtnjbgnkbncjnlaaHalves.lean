/-
  Sums and differences, digits or not, under one name; a wide one is that of the halves.
-/
import Derived.Test.YtnjbgnkbncjnlaaDecimal
namespace Go.Proofs.Ytnjbgnkbncjnlaa
open Go.RowKit Go.Shelf
set_option maxRecDepth 100000
set_option maxHeartbeats 1000000
set_option linter.unusedVariables false
def cr (less : Bool) : Nat → Nat × Nat := if less then corD else corS
theorem cr_ok (less : Bool) : Cor (cr less) := by cases less; exact corS_ok; exact corD_ok
def yy (less wide : Bool) (b : Nat) : Nat := if less then sz wide - 1 - b % sz wide else b % sz wide
def sX (D less wide : Bool) (x y c : Nat) : Nat := if D then dX (cr less) wide x y c else (x + y + c) % sz wide
def sN (D less wide : Bool) (x y c : Nat) : Bool := if D then dS (cr less) wide x y c &&& 8 != 0 else topb wide ((x + y + c) % sz wide)
def sC (D less wide : Bool) (x y c : Nat) : Bool := if D then dC (cr less) wide x y c != 0 else decide (sz wide ≤ x + y + c)
def sF (D less wide : Bool) (p x y c : Nat) : Nat := flg p (topb wide (sX D less wide x y c)) (topb wide x == topb wide y && topb wide x != sN D less wide x y c) (sX D less wide x y c == 0) (sC D less wide x y c)
theorem yy_lt (less wide : Bool) (b : Nat) : yy less wide b < sz wide := by
  have := cut_lt wide b
  cases less
  · exact this
  · show sz wide - 1 - b % sz wide < sz wide
    omega
theorem sX_lt (D less wide : Bool) (x y c : Nat) (hx : x < sz wide) (hc : c < 2) : sX D less wide x y c < sz wide := by
  cases D
  · exact cut_lt wide _
  · exact dX_lt (cr less) (cr_ok less) wide x y c hx hc
theorem do_sum (less : Bool) (a b p x y c : Nat) (wide : Bool) (ha : a < 65536) (hb : b < 65536) (hp : p < 256) (D : Bool) (hd : (p &&& 8 != 0) = D) (hx : a % sz wide = x) (hy : yy less wide b = y) (hc : p % 2 = c) :
    DoIs (if less then 4 else 3) a b p wide (sX D less wide x y c) (sF D less wide p x y c) := by
  cases D
  · cases less
    · exact do_add a b p x y c _ _ wide ha hb hp hd hx hy hc rfl rfl
    · exact do_sub a b p x y c _ _ wide ha hb hp hd hx hy hc rfl rfl
  · cases less
    · exact do_addD a b p x y c _ _ wide ha hb hp hd hx hy hc rfl rfl
    · exact do_subD a b p x y c _ _ wide ha hb hp hd hx hy hc rfl rfl
theorem digits_halves (cor : Nat → Nat × Nat) (hk : Cor cor) (a b c k : Nat) (ha : a < 65536) (hb : b < 65536) (hc : c < 2) (hq : (q1 cor a b c).2 = k) :
    dX4 cor a b c = dX2 cor (a / 256) (b / 256) k * 256 + dX2 cor (a % 256) (b % 256) c ∧ dS2 cor (a / 256) (b / 256) k = dS4 cor a b c ∧ (q1 cor (a / 256) (b / 256) k).2 = (q3 cor a b c).2 ∧ (q1 cor (a % 256) (b % 256) c).2 = k := by
  have l0 : q0 cor (a % 256) (b % 256) c = q0 cor a b c := by unfold q0; rw [show a % 256 % 16 = a % 16 by omega, show b % 256 % 16 = b % 16 by omega]
  have l1 : q1 cor (a % 256) (b % 256) c = q1 cor a b c := by unfold q1; rw [l0, show a % 256 / 16 % 16 = a / 16 % 16 by omega, show b % 256 / 16 % 16 = b / 16 % 16 by omega]
  have h0 : q0 cor (a / 256) (b / 256) k = q2 cor a b c := by unfold q2; rw [hq]; rfl
  have h1 : q1 cor (a / 256) (b / 256) k = q3 cor a b c := by
    unfold q3
    unfold q1
    rw [h0, show a / 256 / 16 % 16 = a / 4096 % 16 by omega, show b / 256 / 16 % 16 = b / 4096 % 16 by omega]
  refine ⟨?_, ?_, by rw [h1], by rw [l1, hq]⟩
  · unfold dX4 dX2
    rw [l0, l1, h0, h1, show a % 256 / 256 % 16 = 0 by omega, show a % 256 / 4096 % 16 = 0 by omega, show a / 256 / 256 % 16 = 0 by omega, show a / 256 / 4096 % 16 = 0 by omega]
    omega
  · unfold dS2 dS4
    rw [h0, show a / 256 / 16 % 16 = a / 4096 % 16 by omega, show b / 256 / 16 % 16 = b / 4096 % 16 by omega]
def nat (b : Bool) : Nat := if b then 1 else 0
theorem topb_half (x : Nat) : topb true x = topb false (x / 256) := by
  show (x / 32768 % 2 == 1) = (x / 256 / 128 % 2 == 1)
  rw [show x / 256 / 128 = x / 32768 by omega]
theorem halves (D less : Bool) (x y c : Nat) (hx : x < 65536) (hy : y < 65536) (hc : c < 2) :
    sX D less true x y c = sX D less false (x / 256) (y / 256) (nat (sC D less false (x % 256) (y % 256) c)) * 256 + sX D less false (x % 256) (y % 256) c ∧
    sN D less true x y c = sN D less false (x / 256) (y / 256) (nat (sC D less false (x % 256) (y % 256) c)) ∧
    sC D less true x y c = sC D less false (x / 256) (y / 256) (nat (sC D less false (x % 256) (y % 256) c)) := by
  cases D
  · have hk : nat (sC false less false (x % 256) (y % 256) c) = (x % 256 + y % 256 + c) / 256 := by
      show nat (decide (256 ≤ x % 256 + y % 256 + c)) = _
      unfold nat
      by_cases h : 256 ≤ x % 256 + y % 256 + c
      · rw [decide_eq_true h]
        show 1 = _
        omega
      · rw [decide_eq_false h]
        show 0 = _
        omega
    rw [hk]
    have e1 : (x + y + c) % 65536 = (x / 256 + y / 256 + (x % 256 + y % 256 + c) / 256) % 256 * 256 + (x % 256 + y % 256 + c) % 256 := by omega
    refine ⟨e1, ?_, ?_⟩
    · show topb true ((x + y + c) % 65536) = topb false ((x / 256 + y / 256 + (x % 256 + y % 256 + c) / 256) % 256)
      rw [topb_half, show (x + y + c) % 65536 / 256 = (x / 256 + y / 256 + (x % 256 + y % 256 + c) / 256) % 256 by omega]
    · show decide (65536 ≤ x + y + c) = decide (256 ≤ x / 256 + y / 256 + (x % 256 + y % 256 + c) / 256)
      exact decide_eq_decide.2 (by omega)
  · obtain ⟨h1, h2, h3, h4⟩ := digits_halves (cr less) (cr_ok less) x y c _ hx hy hc rfl
    have hk : nat (sC true less false (x % 256) (y % 256) c) = (q1 (cr less) x y c).2 := by
      have : (q1 (cr less) x y c).2 < 2 := dC_lt (cr less) (cr_ok less) false x y c hc
      show nat ((q1 (cr less) (x % 256) (y % 256) c).2 != 0) = _
      rw [h4]
      generalize (q1 (cr less) x y c).2 = k at this
      have : k = 0 ∨ k = 1 := by omega
      rcases this with rfl | rfl <;> rfl
    rw [hk]
    refine ⟨h1, ?_, ?_⟩
    · show (dS4 (cr less) x y c &&& 8 != 0) = (dS2 (cr less) (x / 256) (y / 256) (q1 (cr less) x y c).2 &&& 8 != 0)
      rw [h2]
    · show ((q3 (cr less) x y c).2 != 0) = ((q1 (cr less) (x / 256) (y / 256) (q1 (cr less) x y c).2).2 != 0)
      rw [h3]
theorem yy_halves (less : Bool) (b : Nat) (hb : b < 65536) : yy less false (b % 256) = yy less true b % 256 ∧ yy less false (b / 256) = yy less true b / 256 := by
  cases less
  · show b % 256 % 256 = b % 65536 % 256 ∧ b / 256 % 256 = b % 65536 / 256
    omega
  · show 256 - 1 - b % 256 % 256 = (65536 - 1 - b % 65536) % 256 ∧ 256 - 1 - b / 256 % 256 = (65536 - 1 - b % 65536) / 256
    omega
theorem carry_in : ∀ p, p < 256 → ∀ k, k < 2 → ((p &&& 254) ||| k) < 256 ∧ (((p &&& 254) ||| k) &&& 8 != 0) = (p &&& 8 != 0) ∧ ((p &&& 254) ||| k) % 2 = k := by decide +kernel
end Go.Proofs.Ytnjbgnkbncjnlaa
