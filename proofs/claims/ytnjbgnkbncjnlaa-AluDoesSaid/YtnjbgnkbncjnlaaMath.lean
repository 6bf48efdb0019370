/-
  Plain facts on flags and numbers of eight and sixteen bits.
-/
import Derived.Test.YtnjbgnkbncjnlaaDo
namespace Go.Proofs.Ytnjbgnkbncjnlaa
open Go.RowKit Go.Shelf
theorem flags3 : ∀ p, p < 256 → ∀ c n z : Bool, (setF (setF (setF p 1 c) 128 n) 2 z &&& 2 != 0) = z ∧ (setF (setF (setF p 1 c) 128 n) 2 z &&& 1 != 0) = c ∧ (setF (setF (setF p 1 c) 128 n) 2 z &&& 128 != 0) = n ∧
    ((setF (setF (setF p 1 c) 128 n) 2 z ^^^ p) &&& 124 == 0) = true := by decide +kernel
theorem and_msk (wide : Bool) (x : Nat) : x &&& msk wide = x % (msk wide + 1) := by
  cases wide
  · exact nat_mask8 x
  · exact nat_mask16 x
theorem and_tp (wide : Bool) (x : Nat) : (x &&& tp wide != 0) = (x / tp wide % 2 == 1) := by
  cases wide
  · have := nat_bit 7 x
    simp only [Nat.reducePow] at this
    show (x &&& 128 != 0) = (x / 128 % 2 == 1)
    rw [this]
    rcases Nat.mod_two_eq_zero_or_one (x / 128) with h | h <;> rw [h] <;> rfl
  · have := nat_bit 15 x
    simp only [Nat.reducePow] at this
    show (x &&& 32768 != 0) = (x / 32768 % 2 == 1)
    rw [this]
    rcases Nat.mod_two_eq_zero_or_one (x / 32768) with h | h <;> rw [h] <;> rfl
end Go.Proofs.Ytnjbgnkbncjnlaa
