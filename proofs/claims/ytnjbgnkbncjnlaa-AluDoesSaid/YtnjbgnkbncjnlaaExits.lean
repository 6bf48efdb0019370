/-
  How the walk leaves nested blocks, rule by rule.
-/
import Derived.Test.YtnjbgnkbncjnlaaAdds
import Derived.Deep.DeepCutAuto
namespace Go.Proofs.Ytnjbgnkbncjnlaa
open Go.RowKit Go.Shelf
theorem then_exit {K : Act → World → Prop} {Q : Exit → Act → World → Prop} {i : Nat} {a : Act} {w : World} (h : Q (.exit i) a w) : Exit.then K Q (.exit i) a w := h
theorem block_hit {Q : Exit → Act → World → Prop} {i : Nat} {a : Act} {w : World} (h : Q .normal a w) : Exit.inBlock i Q (.exit i) a w := by
  simp only [Exit.inBlock, if_true]
  exact h
theorem block_miss {Q : Exit → Act → World → Prop} {i j : Nat} {a : Act} {w : World} (hj : (j == i) = false) (h : Q (.exit j) a w) : Exit.inBlock i Q (.exit j) a w := by
  have : ¬ j = i := by simpa using hj
  simp only [Exit.inBlock, this, if_false]
  exact h
theorem Uni.drewN {w : World} {u p cnt mask top : Nat} (h : Uni w u p cnt mask top) (n : Nat) : Uni (w.drewN n) u p cnt mask top := h
theorem low_bit (a : Nat) (ha : a < 65536) : (bits .and .u16 (a : Int) 1 != 0) = (a % 2 == 1) := by
  rw [show (1 : Int) = ((1 : Nat) : Int) from rfl, u16_and_nat a 1 ha (by omega), nat_mask1, bne0]
  rcases Nat.mod_two_eq_zero_or_one a with h | h <;> rw [h] <;> rfl
end Go.Proofs.Ytnjbgnkbncjnlaa
