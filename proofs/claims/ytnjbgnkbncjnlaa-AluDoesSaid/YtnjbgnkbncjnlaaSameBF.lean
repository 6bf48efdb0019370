/-
  The code and the document do the same, operation by operation.
-/
import Derived.Test.YtnjbgnkbncjnlaaDoOps2
import Derived.Test.YtnjbgnkbncjnlaaHalves
import Derived.Test.YtnjbgnkbncjnlaaRSteps
import Derived.Test.YtnjbgnkbncjnlaaRShift
import Derived.Test.YtnjbgnkbncjnlaaROthF
import Derived.Test.YtnjbgnkbncjnlaaRDoBF
namespace Go.Proofs.Ytnjbgnkbncjnlaa
open Go.RowKit Go.Shelf
set_option maxRecDepth 100000
set_option maxHeartbeats 1000000
set_option linter.unusedVariables false
theorem same_false_5 (x y p : Nat) (hx : x < 65536) (hy : y < 65536) (hp : p < 256) : Same 5 x y p false := by
  obtain ⟨a, ha⟩ : ∃ a, x % 256 = a := ⟨_, rfl⟩
  obtain ⟨b, hb⟩ : ∃ b, y % 256 = b := ⟨_, rfl⟩
  obtain ⟨c, hc⟩ : ∃ c, p % 2 = c := ⟨_, rfl⟩
  have al : a < 256 := ha ▸ Nat.mod_lt _ (by decide)
  have bl : b < 256 := hb ▸ Nat.mod_lt _ (by decide)
  have cl : c < 2 := hc ▸ Nat.mod_lt _ (by decide)
  have hc1 : p / 1 % 2 = c := by rw [Nat.div_one]; exact hc
  obtain ⟨d, hd⟩ : ∃ d, (a + 256 - b) % 256 = d := ⟨_, rfl⟩
  refine ⟨a, _, do_cmp x y p a b d _ false hx hy hp ha hb hd (fl3 p hp _ _ _), fun w => ?_⟩
  exact rdo_false_5 x y p a b c a (setF p 128 (topb false d)) (setF p 128 (topb false d)) (setF (setF p 128 (topb false d)) 2 (d == 0)) (setF (setF (setF p 128 (topb false d)) 2 (d == 0)) 1 (decide (b ≤ a))) ((nat (topb false d) : Nat) : Int) (-1) ((nat (d == 0) : Nat) : Int) ((nat (decide (b ≤ a)) : Nat) : Int) w hx hy hp ha hb hc1 (by omega)
    (fun w => roth_false_5 a b d _ _ _ w al bl hd rfl rfl rfl)
    (fun w => rset_128 p (setF p 128 (topb false d)) (nat (topb false d)) (topb false d) w hp rfl rfl)
    (fun w => rset_no (setF p 128 (topb false d)) 64 w)
    (fun w => rset_2 (setF p 128 (topb false d)) (setF (setF p 128 (topb false d)) 2 (d == 0)) (nat (d == 0)) (d == 0) w (setF_lt _ _ _ (by decide)) rfl rfl)
    (fun w => rset_1 (setF (setF p 128 (topb false d)) 2 (d == 0)) (setF (setF (setF p 128 (topb false d)) 2 (d == 0)) 1 (decide (b ≤ a))) (nat (decide (b ≤ a))) (decide (b ≤ a)) w (setF_lt _ _ _ (by decide)) rfl rfl)
theorem same_false_6 (x y p : Nat) (hx : x < 65536) (hy : y < 65536) (hp : p < 256) : Same 6 x y p false := by
  obtain ⟨a, ha⟩ : ∃ a, x % 256 = a := ⟨_, rfl⟩
  obtain ⟨b, hb⟩ : ∃ b, y % 256 = b := ⟨_, rfl⟩
  obtain ⟨c, hc⟩ : ∃ c, p % 2 = c := ⟨_, rfl⟩
  have al : a < 256 := ha ▸ Nat.mod_lt _ (by decide)
  have bl : b < 256 := hb ▸ Nat.mod_lt _ (by decide)
  have cl : c < 2 := hc ▸ Nat.mod_lt _ (by decide)
  have hc1 : p / 1 % 2 = c := by rw [Nat.div_one]; exact hc
  refine ⟨a, _, do_bit x y p a b _ false hx hy hp ha hb rfl, fun w => ?_⟩
  exact rdo_false_6 x y p a b c a (setF p 128 (topb false b)) (setF (setF p 128 (topb false b)) 64 (topb false (b * 2 % 256))) (setF (setF (setF p 128 (topb false b)) 64 (topb false (b * 2 % 256))) 2 (a &&& b == 0)) (setF (setF (setF p 128 (topb false b)) 64 (topb false (b * 2 % 256))) 2 (a &&& b == 0)) ((nat (topb false b) : Nat) : Int) ((nat (topb false (b * 2 % 256)) : Nat) : Int) ((nat (a &&& b == 0) : Nat) : Int) (-1) w hx hy hp ha hb hc1 (by omega)
    (fun w => roth_false_6 a b _ _ _ w al bl _ rfl rfl rfl rfl)
    (fun w => rset_128 p (setF p 128 (topb false b)) (nat (topb false b)) (topb false b) w hp rfl rfl)
    (fun w => rset_64 (setF p 128 (topb false b)) (setF (setF p 128 (topb false b)) 64 (topb false (b * 2 % 256))) (nat (topb false (b * 2 % 256))) (topb false (b * 2 % 256)) w (setF_lt _ _ _ (by decide)) rfl rfl)
    (fun w => rset_2 (setF (setF p 128 (topb false b)) 64 (topb false (b * 2 % 256))) (setF (setF (setF p 128 (topb false b)) 64 (topb false (b * 2 % 256))) 2 (a &&& b == 0)) (nat (a &&& b == 0)) (a &&& b == 0) w (setF_lt _ _ _ (by decide)) rfl rfl)
    (fun w => rset_no (setF (setF (setF p 128 (topb false b)) 64 (topb false (b * 2 % 256))) 2 (a &&& b == 0)) 1 w)
theorem same_false_7 (x y p : Nat) (hx : x < 65536) (hy : y < 65536) (hp : p < 256) : Same 7 x y p false := by
  obtain ⟨a, ha⟩ : ∃ a, x % 256 = a := ⟨_, rfl⟩
  obtain ⟨b, hb⟩ : ∃ b, y % 256 = b := ⟨_, rfl⟩
  obtain ⟨c, hc⟩ : ∃ c, p % 2 = c := ⟨_, rfl⟩
  have al : a < 256 := ha ▸ Nat.mod_lt _ (by decide)
  have bl : b < 256 := hb ▸ Nat.mod_lt _ (by decide)
  have cl : c < 2 := hc ▸ Nat.mod_lt _ (by decide)
  have hc1 : p / 1 % 2 = c := by rw [Nat.div_one]; exact hc
  refine ⟨b, _, do_load x y p b _ false hx hy hp hb rfl, fun w => ?_⟩
  exact rdo_false_7 x y p a b c b (setF p 128 (topb false b)) (setF p 128 (topb false b)) (setF (setF p 128 (topb false b)) 2 (b == 0)) (setF (setF p 128 (topb false b)) 2 (b == 0)) ((nat (topb false b) : Nat) : Int) (-1) ((nat (b == 0) : Nat) : Int) (-1) w hx hy hp ha hb hc1 (by omega)
    (fun w => roth_false_7 a b _ _ w al bl rfl rfl)
    (fun w => rset_128 p (setF p 128 (topb false b)) (nat (topb false b)) (topb false b) w hp rfl rfl)
    (fun w => rset_no (setF p 128 (topb false b)) 64 w)
    (fun w => rset_2 (setF p 128 (topb false b)) (setF (setF p 128 (topb false b)) 2 (b == 0)) (nat (b == 0)) (b == 0) w (setF_lt _ _ _ (by decide)) rfl rfl)
    (fun w => rset_no (setF (setF p 128 (topb false b)) 2 (b == 0)) 1 w)
theorem same_false_8 (x y p : Nat) (hx : x < 65536) (hy : y < 65536) (hp : p < 256) : Same 8 x y p false := by
  obtain ⟨a, ha⟩ : ∃ a, x % 256 = a := ⟨_, rfl⟩
  obtain ⟨b, hb⟩ : ∃ b, y % 256 = b := ⟨_, rfl⟩
  obtain ⟨c, hc⟩ : ∃ c, p % 2 = c := ⟨_, rfl⟩
  have al : a < 256 := ha ▸ Nat.mod_lt _ (by decide)
  have bl : b < 256 := hb ▸ Nat.mod_lt _ (by decide)
  have cl : c < 2 := hc ▸ Nat.mod_lt _ (by decide)
  have hc1 : p / 1 % 2 = c := by rw [Nat.div_one]; exact hc
  obtain ⟨X, hX⟩ : ∃ X, 2 * a % 256 = X := ⟨_, rfl⟩
  have Xl : X < 256 := by omega
  refine ⟨X, _, do_asl x y p a X _ false hx hy hp ha hX (fl3 p hp _ _ _), fun w => ?_⟩
  exact rdo_false_8 x y p a b c X (setF p 128 (topb false X)) (setF p 128 (topb false X)) (setF (setF p 128 (topb false X)) 2 (X == 0)) (setF (setF (setF p 128 (topb false X)) 2 (X == 0)) 1 (topb false a)) ((nat (topb false X) : Nat) : Int) (-1) ((nat (X == 0) : Nat) : Int) ((nat (topb false a) : Nat) : Int) w hx hy hp ha hb hc1 (by omega)
    (fun w => rshift_false_8 a c X _ _ _ w al cl (by rw [Nat.mul_comm]; exact hX) rfl rfl rfl)
    (fun w => rset_128 p (setF p 128 (topb false X)) (nat (topb false X)) (topb false X) w hp rfl rfl)
    (fun w => rset_no (setF p 128 (topb false X)) 64 w)
    (fun w => rset_2 (setF p 128 (topb false X)) (setF (setF p 128 (topb false X)) 2 (X == 0)) (nat (X == 0)) (X == 0) w (setF_lt _ _ _ (by decide)) rfl rfl)
    (fun w => rset_1 (setF (setF p 128 (topb false X)) 2 (X == 0)) (setF (setF (setF p 128 (topb false X)) 2 (X == 0)) 1 (topb false a)) (nat (topb false a)) (topb false a) w (setF_lt _ _ _ (by decide)) rfl rfl)
theorem same_false_9 (x y p : Nat) (hx : x < 65536) (hy : y < 65536) (hp : p < 256) : Same 9 x y p false := by
  obtain ⟨a, ha⟩ : ∃ a, x % 256 = a := ⟨_, rfl⟩
  obtain ⟨b, hb⟩ : ∃ b, y % 256 = b := ⟨_, rfl⟩
  obtain ⟨c, hc⟩ : ∃ c, p % 2 = c := ⟨_, rfl⟩
  have al : a < 256 := ha ▸ Nat.mod_lt _ (by decide)
  have bl : b < 256 := hb ▸ Nat.mod_lt _ (by decide)
  have cl : c < 2 := hc ▸ Nat.mod_lt _ (by decide)
  have hc1 : p / 1 % 2 = c := by rw [Nat.div_one]; exact hc
  obtain ⟨X, hX⟩ : ∃ X, (2 * a + c) % 256 = X := ⟨_, rfl⟩
  have Xl : X < 256 := by omega
  refine ⟨X, _, do_rol x y p a c X _ false hx hy hp ha hc hX (fl3 p hp _ _ _), fun w => ?_⟩
  exact rdo_false_9 x y p a b c X (setF p 128 (topb false X)) (setF p 128 (topb false X)) (setF (setF p 128 (topb false X)) 2 (X == 0)) (setF (setF (setF p 128 (topb false X)) 2 (X == 0)) 1 (topb false a)) ((nat (topb false X) : Nat) : Int) (-1) ((nat (X == 0) : Nat) : Int) ((nat (topb false a) : Nat) : Int) w hx hy hp ha hb hc1 (by omega)
    (fun w => rshift_false_9 a c X _ _ _ w al cl (by omega) rfl rfl rfl)
    (fun w => rset_128 p (setF p 128 (topb false X)) (nat (topb false X)) (topb false X) w hp rfl rfl)
    (fun w => rset_no (setF p 128 (topb false X)) 64 w)
    (fun w => rset_2 (setF p 128 (topb false X)) (setF (setF p 128 (topb false X)) 2 (X == 0)) (nat (X == 0)) (X == 0) w (setF_lt _ _ _ (by decide)) rfl rfl)
    (fun w => rset_1 (setF (setF p 128 (topb false X)) 2 (X == 0)) (setF (setF (setF p 128 (topb false X)) 2 (X == 0)) 1 (topb false a)) (nat (topb false a)) (topb false a) w (setF_lt _ _ _ (by decide)) rfl rfl)
theorem same_false_10 (x y p : Nat) (hx : x < 65536) (hy : y < 65536) (hp : p < 256) : Same 10 x y p false := by
  obtain ⟨a, ha⟩ : ∃ a, x % 256 = a := ⟨_, rfl⟩
  obtain ⟨b, hb⟩ : ∃ b, y % 256 = b := ⟨_, rfl⟩
  obtain ⟨c, hc⟩ : ∃ c, p % 2 = c := ⟨_, rfl⟩
  have al : a < 256 := ha ▸ Nat.mod_lt _ (by decide)
  have bl : b < 256 := hb ▸ Nat.mod_lt _ (by decide)
  have cl : c < 2 := hc ▸ Nat.mod_lt _ (by decide)
  have hc1 : p / 1 % 2 = c := by rw [Nat.div_one]; exact hc
  obtain ⟨X, hX⟩ : ∃ X, a / 2 = X := ⟨_, rfl⟩
  have Xl : X < 256 := by omega
  refine ⟨X, _, do_lsr x y p a X _ false hx hy hp ha hX (fl3 p hp _ _ _), fun w => ?_⟩
  exact rdo_false_10 x y p a b c X (setF p 128 (topb false X)) (setF p 128 (topb false X)) (setF (setF p 128 (topb false X)) 2 (X == 0)) (setF (setF (setF p 128 (topb false X)) 2 (X == 0)) 1 (a % 2 == 1)) ((nat (topb false X) : Nat) : Int) (-1) ((nat (X == 0) : Nat) : Int) ((nat (a % 2 == 1) : Nat) : Int) w hx hy hp ha hb hc1 (by omega)
    (fun w => rshift_false_10 a c X _ _ _ w al cl hX rfl rfl (odd_nat a))
    (fun w => rset_128 p (setF p 128 (topb false X)) (nat (topb false X)) (topb false X) w hp rfl rfl)
    (fun w => rset_no (setF p 128 (topb false X)) 64 w)
    (fun w => rset_2 (setF p 128 (topb false X)) (setF (setF p 128 (topb false X)) 2 (X == 0)) (nat (X == 0)) (X == 0) w (setF_lt _ _ _ (by decide)) rfl rfl)
    (fun w => rset_1 (setF (setF p 128 (topb false X)) 2 (X == 0)) (setF (setF (setF p 128 (topb false X)) 2 (X == 0)) 1 (a % 2 == 1)) (nat (a % 2 == 1)) (a % 2 == 1) w (setF_lt _ _ _ (by decide)) rfl rfl)
theorem same_false_11 (x y p : Nat) (hx : x < 65536) (hy : y < 65536) (hp : p < 256) : Same 11 x y p false := by
  obtain ⟨a, ha⟩ : ∃ a, x % 256 = a := ⟨_, rfl⟩
  obtain ⟨b, hb⟩ : ∃ b, y % 256 = b := ⟨_, rfl⟩
  obtain ⟨c, hc⟩ : ∃ c, p % 2 = c := ⟨_, rfl⟩
  have al : a < 256 := ha ▸ Nat.mod_lt _ (by decide)
  have bl : b < 256 := hb ▸ Nat.mod_lt _ (by decide)
  have cl : c < 2 := hc ▸ Nat.mod_lt _ (by decide)
  have hc1 : p / 1 % 2 = c := by rw [Nat.div_one]; exact hc
  obtain ⟨X, hX⟩ : ∃ X, a / 2 + 128 * c = X := ⟨_, rfl⟩
  have Xl : X < 256 := by omega
  refine ⟨X, _, do_ror x y p a c X _ false hx hy hp ha hc hX (fl3 p hp _ _ _), fun w => ?_⟩
  exact rdo_false_11 x y p a b c X (setF p 128 (topb false X)) (setF p 128 (topb false X)) (setF (setF p 128 (topb false X)) 2 (X == 0)) (setF (setF (setF p 128 (topb false X)) 2 (X == 0)) 1 (a % 2 == 1)) ((nat (topb false X) : Nat) : Int) (-1) ((nat (X == 0) : Nat) : Int) ((nat (a % 2 == 1) : Nat) : Int) w hx hy hp ha hb hc1 (by omega)
    (fun w => rshift_false_11 a c X _ _ _ w al cl (by omega) rfl rfl (odd_nat a))
    (fun w => rset_128 p (setF p 128 (topb false X)) (nat (topb false X)) (topb false X) w hp rfl rfl)
    (fun w => rset_no (setF p 128 (topb false X)) 64 w)
    (fun w => rset_2 (setF p 128 (topb false X)) (setF (setF p 128 (topb false X)) 2 (X == 0)) (nat (X == 0)) (X == 0) w (setF_lt _ _ _ (by decide)) rfl rfl)
    (fun w => rset_1 (setF (setF p 128 (topb false X)) 2 (X == 0)) (setF (setF (setF p 128 (topb false X)) 2 (X == 0)) 1 (a % 2 == 1)) (nat (a % 2 == 1)) (a % 2 == 1) w (setF_lt _ _ _ (by decide)) rfl rfl)
theorem same_false_12 (x y p : Nat) (hx : x < 65536) (hy : y < 65536) (hp : p < 256) : Same 12 x y p false := by
  obtain ⟨a, ha⟩ : ∃ a, x % 256 = a := ⟨_, rfl⟩
  obtain ⟨b, hb⟩ : ∃ b, y % 256 = b := ⟨_, rfl⟩
  obtain ⟨c, hc⟩ : ∃ c, p % 2 = c := ⟨_, rfl⟩
  have al : a < 256 := ha ▸ Nat.mod_lt _ (by decide)
  have bl : b < 256 := hb ▸ Nat.mod_lt _ (by decide)
  have cl : c < 2 := hc ▸ Nat.mod_lt _ (by decide)
  have hc1 : p / 1 % 2 = c := by rw [Nat.div_one]; exact hc
  obtain ⟨X, hX⟩ : ∃ X, (a + 1) % 256 = X := ⟨_, rfl⟩
  refine ⟨X, _, do_inc x y p a X _ false hx hy hp ha hX rfl, fun w => ?_⟩
  exact rdo_false_12 x y p a b c X (setF p 128 (topb false X)) (setF p 128 (topb false X)) (setF (setF p 128 (topb false X)) 2 (X == 0)) (setF (setF p 128 (topb false X)) 2 (X == 0)) ((nat (topb false X) : Nat) : Int) (-1) ((nat (X == 0) : Nat) : Int) (-1) w hx hy hp ha hb hc1 (by omega)
    (fun w => roth_false_12 a b X _ _ w al bl hX rfl rfl)
    (fun w => rset_128 p (setF p 128 (topb false X)) (nat (topb false X)) (topb false X) w hp rfl rfl)
    (fun w => rset_no (setF p 128 (topb false X)) 64 w)
    (fun w => rset_2 (setF p 128 (topb false X)) (setF (setF p 128 (topb false X)) 2 (X == 0)) (nat (X == 0)) (X == 0) w (setF_lt _ _ _ (by decide)) rfl rfl)
    (fun w => rset_no (setF (setF p 128 (topb false X)) 2 (X == 0)) 1 w)
theorem same_false_13 (x y p : Nat) (hx : x < 65536) (hy : y < 65536) (hp : p < 256) : Same 13 x y p false := by
  obtain ⟨a, ha⟩ : ∃ a, x % 256 = a := ⟨_, rfl⟩
  obtain ⟨b, hb⟩ : ∃ b, y % 256 = b := ⟨_, rfl⟩
  obtain ⟨c, hc⟩ : ∃ c, p % 2 = c := ⟨_, rfl⟩
  have al : a < 256 := ha ▸ Nat.mod_lt _ (by decide)
  have bl : b < 256 := hb ▸ Nat.mod_lt _ (by decide)
  have cl : c < 2 := hc ▸ Nat.mod_lt _ (by decide)
  have hc1 : p / 1 % 2 = c := by rw [Nat.div_one]; exact hc
  obtain ⟨X, hX⟩ : ∃ X, (a + 256 - 1) % 256 = X := ⟨_, rfl⟩
  refine ⟨X, _, do_dec x y p a X _ false hx hy hp ha hX rfl, fun w => ?_⟩
  exact rdo_false_13 x y p a b c X (setF p 128 (topb false X)) (setF p 128 (topb false X)) (setF (setF p 128 (topb false X)) 2 (X == 0)) (setF (setF p 128 (topb false X)) 2 (X == 0)) ((nat (topb false X) : Nat) : Int) (-1) ((nat (X == 0) : Nat) : Int) (-1) w hx hy hp ha hb hc1 (by omega)
    (fun w => roth_false_13 a b X _ _ w al bl hX rfl rfl)
    (fun w => rset_128 p (setF p 128 (topb false X)) (nat (topb false X)) (topb false X) w hp rfl rfl)
    (fun w => rset_no (setF p 128 (topb false X)) 64 w)
    (fun w => rset_2 (setF p 128 (topb false X)) (setF (setF p 128 (topb false X)) 2 (X == 0)) (nat (X == 0)) (X == 0) w (setF_lt _ _ _ (by decide)) rfl rfl)
    (fun w => rset_no (setF (setF p 128 (topb false X)) 2 (X == 0)) 1 w)
theorem same_false_14 (x y p : Nat) (hx : x < 65536) (hy : y < 65536) (hp : p < 256) : Same 14 x y p false := by
  obtain ⟨a, ha⟩ : ∃ a, x % 256 = a := ⟨_, rfl⟩
  obtain ⟨b, hb⟩ : ∃ b, y % 256 = b := ⟨_, rfl⟩
  obtain ⟨c, hc⟩ : ∃ c, p % 2 = c := ⟨_, rfl⟩
  have al : a < 256 := ha ▸ Nat.mod_lt _ (by decide)
  have bl : b < 256 := hb ▸ Nat.mod_lt _ (by decide)
  have cl : c < 2 := hc ▸ Nat.mod_lt _ (by decide)
  have hc1 : p / 1 % 2 = c := by rw [Nat.div_one]; exact hc
  obtain ⟨X, hX⟩ : ∃ X, a ||| b = X := ⟨_, rfl⟩
  have Xl : X < 256 := hX ▸ or_cut false a b al bl
  refine ⟨X, _, do_tsb x y p a b X _ false hx hy hp ha hb hX rfl, fun w => ?_⟩
  exact rdo_false_14 x y p a b c X p p (setF p 2 (a &&& b == 0)) (setF p 2 (a &&& b == 0)) (-1) (-1) ((nat (a &&& b == 0) : Nat) : Int) (-1) w hx hy hp ha hb hc1 (by omega)
    (fun w => roth_false_14 a b X _ w al bl _ rfl hX rfl)
    (fun w => rset_no p 128 w)
    (fun w => rset_no p 64 w)
    (fun w => rset_2 p (setF p 2 (a &&& b == 0)) (nat (a &&& b == 0)) (a &&& b == 0) w hp rfl rfl)
    (fun w => rset_no (setF p 2 (a &&& b == 0)) 1 w)
theorem same_false_15 (x y p : Nat) (hx : x < 65536) (hy : y < 65536) (hp : p < 256) : Same 15 x y p false := by
  obtain ⟨a, ha⟩ : ∃ a, x % 256 = a := ⟨_, rfl⟩
  obtain ⟨b, hb⟩ : ∃ b, y % 256 = b := ⟨_, rfl⟩
  obtain ⟨c, hc⟩ : ∃ c, p % 2 = c := ⟨_, rfl⟩
  have al : a < 256 := ha ▸ Nat.mod_lt _ (by decide)
  have bl : b < 256 := hb ▸ Nat.mod_lt _ (by decide)
  have cl : c < 2 := hc ▸ Nat.mod_lt _ (by decide)
  have hc1 : p / 1 % 2 = c := by rw [Nat.div_one]; exact hc
  obtain ⟨X, hX⟩ : ∃ X, b &&& (65535 - a) = X := ⟨_, rfl⟩
  have Xl : X < 256 := hX ▸ Nat.lt_of_le_of_lt Nat.and_le_left bl
  refine ⟨X, _, do_trb x y p a b X _ false hx hy hp ha hb hX rfl, fun w => ?_⟩
  exact rdo_false_15 x y p a b c X p p (setF p 2 (a &&& b == 0)) (setF p 2 (a &&& b == 0)) (-1) (-1) ((nat (a &&& b == 0) : Nat) : Int) (-1) w hx hy hp ha hb hc1 (by omega)
    (fun w => roth_false_15 a b X _ w al bl _ rfl hX rfl)
    (fun w => rset_no p 128 w)
    (fun w => rset_no p 64 w)
    (fun w => rset_2 p (setF p 2 (a &&& b == 0)) (nat (a &&& b == 0)) (a &&& b == 0) w hp rfl rfl)
    (fun w => rset_no (setF p 2 (a &&& b == 0)) 1 w)
theorem same_false_16 (x y p : Nat) (hx : x < 65536) (hy : y < 65536) (hp : p < 256) : Same 16 x y p false := by
  obtain ⟨a, ha⟩ : ∃ a, x % 256 = a := ⟨_, rfl⟩
  obtain ⟨b, hb⟩ : ∃ b, y % 256 = b := ⟨_, rfl⟩
  obtain ⟨c, hc⟩ : ∃ c, p % 2 = c := ⟨_, rfl⟩
  have al : a < 256 := ha ▸ Nat.mod_lt _ (by decide)
  have bl : b < 256 := hb ▸ Nat.mod_lt _ (by decide)
  have cl : c < 2 := hc ▸ Nat.mod_lt _ (by decide)
  have hc1 : p / 1 % 2 = c := by rw [Nat.div_one]; exact hc
  refine ⟨a, _, do_biti x y p a b _ false hx hy hp ha hb rfl, fun w => ?_⟩
  exact rdo_false_16 x y p a b c a p p (setF p 2 (a &&& b == 0)) (setF p 2 (a &&& b == 0)) (-1) (-1) ((nat (a &&& b == 0) : Nat) : Int) (-1) w hx hy hp ha hb hc1 (by omega)
    (fun w => roth_false_16 a b _ w al bl _ rfl rfl)
    (fun w => rset_no p 128 w)
    (fun w => rset_no p 64 w)
    (fun w => rset_2 p (setF p 2 (a &&& b == 0)) (nat (a &&& b == 0)) (a &&& b == 0) w hp rfl rfl)
    (fun w => rset_no (setF p 2 (a &&& b == 0)) 1 w)
end Go.Proofs.Ytnjbgnkbncjnlaa
