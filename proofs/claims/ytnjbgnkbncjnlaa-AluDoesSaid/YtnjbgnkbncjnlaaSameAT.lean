/-
  The code and the document do the same, operation by operation.
-/
import Derived.Test.YtnjbgnkbncjnlaaDoOps2
import Derived.Test.YtnjbgnkbncjnlaaHalves
import Derived.Test.YtnjbgnkbncjnlaaRSteps
import Derived.Test.YtnjbgnkbncjnlaaRCommon
import Derived.Test.YtnjbgnkbncjnlaaRDoAT
import Derived.Test.YtnjbgnkbncjnlaaRAddW
import Derived.Test.YtnjbgnkbncjnlaaRDigsW
namespace Go.Proofs.Ytnjbgnkbncjnlaa
open Go.RowKit Go.Shelf
set_option maxRecDepth 100000
set_option maxHeartbeats 1000000
set_option linter.unusedVariables false
theorem radd_any_true (a b c x : Nat) (w : World) (ha : a < 65536) (hb : b < 65536) (hc : c < 2) (hx : (a + b + c) % 65536 = x) :
    Calls Try.prog 23 #[.int .i64 a, .int .i64 b, .int .i64 c, .bool true] w fun e w' => e = .returned (.agg #[.int .i64 x, .int .i64 (nat (topb true x) : Nat), .int .i64 (nat (topb true a == topb true b && topb true a != topb true x) : Nat), .int .i64 (nat (x == 0) : Nat), .int .i64 (nat (decide (65536 ≤ a + b + c)) : Nat)]) ∧ Below w.heap.size w w' := by
  cases h1 : topb true a <;> cases h2 : topb true b
  · exact radd_true_00 a b c x _ _ _ _ w ha hb hc hx (by rw [h1]; rfl) (by rw [h2]; rfl) rfl rfl rfl (by cases topb true x <;> rfl)
  · exact radd_true_01 a b c x _ _ _ _ w ha hb hc hx (by rw [h1]; rfl) (by rw [h2]; rfl) rfl rfl rfl (by cases topb true x <;> rfl)
  · exact radd_true_10 a b c x _ _ _ _ w ha hb hc hx (by rw [h1]; rfl) (by rw [h2]; rfl) rfl rfl rfl (by cases topb true x <;> rfl)
  · exact radd_true_11 a b c x _ _ _ _ w ha hb hc hx (by rw [h1]; rfl) (by rw [h2]; rfl) rfl rfl rfl (by cases topb true x <;> rfl)
theorem same_true_0 (x y p : Nat) (hx : x < 65536) (hy : y < 65536) (hp : p < 256) : Same 0 x y p true := by
  obtain ⟨a, ha⟩ : ∃ a, x % 65536 = a := ⟨_, rfl⟩
  obtain ⟨b, hb⟩ : ∃ b, y % 65536 = b := ⟨_, rfl⟩
  obtain ⟨c, hc⟩ : ∃ c, p % 2 = c := ⟨_, rfl⟩
  have al : a < 65536 := ha ▸ Nat.mod_lt _ (by decide)
  have bl : b < 65536 := hb ▸ Nat.mod_lt _ (by decide)
  have cl : c < 2 := hc ▸ Nat.mod_lt _ (by decide)
  have hc1 : p / 1 % 2 = c := by rw [Nat.div_one]; exact hc
  obtain ⟨X, hX⟩ : ∃ X, a ||| b = X := ⟨_, rfl⟩
  have Xl : X < 65536 := hX ▸ or_cut true a b al bl
  refine ⟨X, _, do_or x y p a b X _ true hx hy hp ha hb hX rfl, fun w => ?_⟩
  exact rdo_true_0 x y p a b c X (setF p 128 (topb true X)) (setF p 128 (topb true X)) (setF (setF p 128 (topb true X)) 2 (X == 0)) (setF (setF p 128 (topb true X)) 2 (X == 0)) X ((nat (topb true X) : Nat) : Int) (-1) ((nat (X == 0) : Nat) : Int) (-1) w hx hy hp ha hb hc1 (by omega)
    (fun w => bits_or a b X w (by omega) (by omega) hX)
    (fun w => named_at X _ _ true w (by omega) rfl rfl)
    (fun w => rset_128 p (setF p 128 (topb true X)) (nat (topb true X)) (topb true X) w hp rfl rfl)
    (fun w => rset_no (setF p 128 (topb true X)) 64 w)
    (fun w => rset_2 (setF p 128 (topb true X)) (setF (setF p 128 (topb true X)) 2 (X == 0)) (nat (X == 0)) (X == 0) w (setF_lt _ _ _ (by decide)) rfl rfl)
    (fun w => rset_no (setF (setF p 128 (topb true X)) 2 (X == 0)) 1 w)
theorem same_true_1 (x y p : Nat) (hx : x < 65536) (hy : y < 65536) (hp : p < 256) : Same 1 x y p true := by
  obtain ⟨a, ha⟩ : ∃ a, x % 65536 = a := ⟨_, rfl⟩
  obtain ⟨b, hb⟩ : ∃ b, y % 65536 = b := ⟨_, rfl⟩
  obtain ⟨c, hc⟩ : ∃ c, p % 2 = c := ⟨_, rfl⟩
  have al : a < 65536 := ha ▸ Nat.mod_lt _ (by decide)
  have bl : b < 65536 := hb ▸ Nat.mod_lt _ (by decide)
  have cl : c < 2 := hc ▸ Nat.mod_lt _ (by decide)
  have hc1 : p / 1 % 2 = c := by rw [Nat.div_one]; exact hc
  obtain ⟨X, hX⟩ : ∃ X, a &&& b = X := ⟨_, rfl⟩
  have Xl : X < 65536 := hX ▸ and_cut2 true a b al
  refine ⟨X, _, do_and x y p a b X _ true hx hy hp ha hb hX rfl, fun w => ?_⟩
  exact rdo_true_1 x y p a b c X (setF p 128 (topb true X)) (setF p 128 (topb true X)) (setF (setF p 128 (topb true X)) 2 (X == 0)) (setF (setF p 128 (topb true X)) 2 (X == 0)) X ((nat (topb true X) : Nat) : Int) (-1) ((nat (X == 0) : Nat) : Int) (-1) w hx hy hp ha hb hc1 (by omega)
    (fun w => bits_and a b X w (by omega) (by omega) hX)
    (fun w => named_at X _ _ true w (by omega) rfl rfl)
    (fun w => rset_128 p (setF p 128 (topb true X)) (nat (topb true X)) (topb true X) w hp rfl rfl)
    (fun w => rset_no (setF p 128 (topb true X)) 64 w)
    (fun w => rset_2 (setF p 128 (topb true X)) (setF (setF p 128 (topb true X)) 2 (X == 0)) (nat (X == 0)) (X == 0) w (setF_lt _ _ _ (by decide)) rfl rfl)
    (fun w => rset_no (setF (setF p 128 (topb true X)) 2 (X == 0)) 1 w)
theorem same_true_2 (x y p : Nat) (hx : x < 65536) (hy : y < 65536) (hp : p < 256) : Same 2 x y p true := by
  obtain ⟨a, ha⟩ : ∃ a, x % 65536 = a := ⟨_, rfl⟩
  obtain ⟨b, hb⟩ : ∃ b, y % 65536 = b := ⟨_, rfl⟩
  obtain ⟨c, hc⟩ : ∃ c, p % 2 = c := ⟨_, rfl⟩
  have al : a < 65536 := ha ▸ Nat.mod_lt _ (by decide)
  have bl : b < 65536 := hb ▸ Nat.mod_lt _ (by decide)
  have cl : c < 2 := hc ▸ Nat.mod_lt _ (by decide)
  have hc1 : p / 1 % 2 = c := by rw [Nat.div_one]; exact hc
  obtain ⟨X, hX⟩ : ∃ X, a ^^^ b = X := ⟨_, rfl⟩
  have Xl : X < 65536 := hX ▸ xor_cut true a b al bl
  refine ⟨X, _, do_xor x y p a b X _ true hx hy hp ha hb hX rfl, fun w => ?_⟩
  exact rdo_true_2 x y p a b c X (setF p 128 (topb true X)) (setF p 128 (topb true X)) (setF (setF p 128 (topb true X)) 2 (X == 0)) (setF (setF p 128 (topb true X)) 2 (X == 0)) X ((nat (topb true X) : Nat) : Int) (-1) ((nat (X == 0) : Nat) : Int) (-1) w hx hy hp ha hb hc1 (by omega)
    (fun w => bits_xor a b X w (by omega) (by omega) hX)
    (fun w => named_at X _ _ true w (by omega) rfl rfl)
    (fun w => rset_128 p (setF p 128 (topb true X)) (nat (topb true X)) (topb true X) w hp rfl rfl)
    (fun w => rset_no (setF p 128 (topb true X)) 64 w)
    (fun w => rset_2 (setF p 128 (topb true X)) (setF (setF p 128 (topb true X)) 2 (X == 0)) (nat (X == 0)) (X == 0) w (setF_lt _ _ _ (by decide)) rfl rfl)
    (fun w => rset_no (setF (setF p 128 (topb true X)) 2 (X == 0)) 1 w)
theorem same_true_3B (x y p : Nat) (hx : x < 65536) (hy : y < 65536) (hp : p < 256) (hd : (p &&& 8 != 0) = false) : Same 3 x y p true := by
  obtain ⟨a, ha⟩ : ∃ a, x % 65536 = a := ⟨_, rfl⟩
  obtain ⟨b, hb⟩ : ∃ b, y % 65536 = b := ⟨_, rfl⟩
  obtain ⟨c, hc⟩ : ∃ c, p % 2 = c := ⟨_, rfl⟩
  have al : a < 65536 := ha ▸ Nat.mod_lt _ (by decide)
  have bl : b < 65536 := hb ▸ Nat.mod_lt _ (by decide)
  have cl : c < 2 := hc ▸ Nat.mod_lt _ (by decide)
  have hc1 : p / 1 % 2 = c := by rw [Nat.div_one]; exact hc
  have h8 : p / 8 % 2 = 0 := by
    have := dec8 p hp
    rw [hd] at this
    rcases Nat.mod_two_eq_zero_or_one (p / 8) with h | h
    · exact h
    · rw [h] at this
      cases this
  obtain ⟨X, hX⟩ : ∃ X, (a + b + c) % 65536 = X := ⟨_, rfl⟩
  have Xl : X < 65536 := hX ▸ Nat.mod_lt _ (by decide)
  refine ⟨X, _, do_add x y p a b c X _ true hx hy hp hd ha hb hc hX (fl4 p hp _ _ _ _), fun w => ?_⟩
  exact rdo_true_3B x y p a b c X (setF p 128 (topb true X)) (setF (setF p 128 (topb true X)) 64 (topb true a == topb true b && topb true a != topb true X)) (setF (setF (setF p 128 (topb true X)) 64 (topb true a == topb true b && topb true a != topb true X)) 2 (X == 0)) (setF (setF (setF (setF p 128 (topb true X)) 64 (topb true a == topb true b && topb true a != topb true X)) 2 (X == 0)) 1 (decide (65536 ≤ a + b + c))) ((nat (topb true X) : Nat) : Int) ((nat (topb true a == topb true b && topb true a != topb true X) : Nat) : Int) ((nat (X == 0) : Nat) : Int) ((nat (decide (65536 ≤ a + b + c)) : Nat) : Int) w hx hy hp ha hb hc1 (by omega)
    h8
    (fun w => radd_any_true a b c X w al bl cl hX)
    (fun w => rset_128 p (setF p 128 (topb true X)) (nat (topb true X)) (topb true X) w hp rfl rfl)
    (fun w => rset_64 (setF p 128 (topb true X)) (setF (setF p 128 (topb true X)) 64 (topb true a == topb true b && topb true a != topb true X)) (nat (topb true a == topb true b && topb true a != topb true X)) (topb true a == topb true b && topb true a != topb true X) w (setF_lt _ _ _ (by decide)) rfl rfl)
    (fun w => rset_2 (setF (setF p 128 (topb true X)) 64 (topb true a == topb true b && topb true a != topb true X)) (setF (setF (setF p 128 (topb true X)) 64 (topb true a == topb true b && topb true a != topb true X)) 2 (X == 0)) (nat (X == 0)) (X == 0) w (setF_lt _ _ _ (by decide)) rfl rfl)
    (fun w => rset_1 (setF (setF (setF p 128 (topb true X)) 64 (topb true a == topb true b && topb true a != topb true X)) 2 (X == 0)) (setF (setF (setF (setF p 128 (topb true X)) 64 (topb true a == topb true b && topb true a != topb true X)) 2 (X == 0)) 1 (decide (65536 ≤ a + b + c))) (nat (decide (65536 ≤ a + b + c))) (decide (65536 ≤ a + b + c)) w (setF_lt _ _ _ (by decide)) rfl rfl)
theorem same_true_4B (x y p : Nat) (hx : x < 65536) (hy : y < 65536) (hp : p < 256) (hd : (p &&& 8 != 0) = false) : Same 4 x y p true := by
  obtain ⟨a, ha⟩ : ∃ a, x % 65536 = a := ⟨_, rfl⟩
  obtain ⟨b, hb⟩ : ∃ b, y % 65536 = b := ⟨_, rfl⟩
  obtain ⟨c, hc⟩ : ∃ c, p % 2 = c := ⟨_, rfl⟩
  have al : a < 65536 := ha ▸ Nat.mod_lt _ (by decide)
  have bl : b < 65536 := hb ▸ Nat.mod_lt _ (by decide)
  have cl : c < 2 := hc ▸ Nat.mod_lt _ (by decide)
  have hc1 : p / 1 % 2 = c := by rw [Nat.div_one]; exact hc
  obtain ⟨y2, hy2⟩ : ∃ y2, 65536 - 1 - b = y2 := ⟨_, rfl⟩
  have yl : y2 < 65536 := by omega
  have h8 : p / 8 % 2 = 0 := by
    have := dec8 p hp
    rw [hd] at this
    rcases Nat.mod_two_eq_zero_or_one (p / 8) with h | h
    · exact h
    · rw [h] at this
      cases this
  obtain ⟨X, hX⟩ : ∃ X, (a + y2 + c) % 65536 = X := ⟨_, rfl⟩
  have Xl : X < 65536 := hX ▸ Nat.mod_lt _ (by decide)
  refine ⟨X, _, do_sub x y p a y2 c X _ true hx hy hp hd ha (by rw [← hy2, ← hb]; rfl) hc hX (fl4 p hp _ _ _ _), fun w => ?_⟩
  exact rdo_true_4B x y p a b c X (setF p 128 (topb true X)) (setF (setF p 128 (topb true X)) 64 (topb true a == topb true y2 && topb true a != topb true X)) (setF (setF (setF p 128 (topb true X)) 64 (topb true a == topb true y2 && topb true a != topb true X)) 2 (X == 0)) (setF (setF (setF (setF p 128 (topb true X)) 64 (topb true a == topb true y2 && topb true a != topb true X)) 2 (X == 0)) 1 (decide (65536 ≤ a + y2 + c))) y2 ((nat (topb true X) : Nat) : Int) ((nat (topb true a == topb true y2 && topb true a != topb true X) : Nat) : Int) ((nat (X == 0) : Nat) : Int) ((nat (decide (65536 ≤ a + y2 + c)) : Nat) : Int) w hx hy hp ha hb hc1 (by omega)
    hy2
    h8
    (fun w => radd_any_true a y2 c X w al yl cl hX)
    (fun w => rset_128 p (setF p 128 (topb true X)) (nat (topb true X)) (topb true X) w hp rfl rfl)
    (fun w => rset_64 (setF p 128 (topb true X)) (setF (setF p 128 (topb true X)) 64 (topb true a == topb true y2 && topb true a != topb true X)) (nat (topb true a == topb true y2 && topb true a != topb true X)) (topb true a == topb true y2 && topb true a != topb true X) w (setF_lt _ _ _ (by decide)) rfl rfl)
    (fun w => rset_2 (setF (setF p 128 (topb true X)) 64 (topb true a == topb true y2 && topb true a != topb true X)) (setF (setF (setF p 128 (topb true X)) 64 (topb true a == topb true y2 && topb true a != topb true X)) 2 (X == 0)) (nat (X == 0)) (X == 0) w (setF_lt _ _ _ (by decide)) rfl rfl)
    (fun w => rset_1 (setF (setF (setF p 128 (topb true X)) 64 (topb true a == topb true y2 && topb true a != topb true X)) 2 (X == 0)) (setF (setF (setF (setF p 128 (topb true X)) 64 (topb true a == topb true y2 && topb true a != topb true X)) 2 (X == 0)) 1 (decide (65536 ≤ a + y2 + c))) (nat (decide (65536 ≤ a + y2 + c))) (decide (65536 ≤ a + y2 + c)) w (setF_lt _ _ _ (by decide)) rfl rfl)
theorem same_true_3D (x y p : Nat) (hx : x < 65536) (hy : y < 65536) (hp : p < 256) (hd : (p &&& 8 != 0) = true) : Same 3 x y p true := by
  obtain ⟨a, ha⟩ : ∃ a, x % 65536 = a := ⟨_, rfl⟩
  obtain ⟨b, hb⟩ : ∃ b, y % 65536 = b := ⟨_, rfl⟩
  obtain ⟨c, hc⟩ : ∃ c, p % 2 = c := ⟨_, rfl⟩
  have al : a < 65536 := ha ▸ Nat.mod_lt _ (by decide)
  have bl : b < 65536 := hb ▸ Nat.mod_lt _ (by decide)
  have cl : c < 2 := hc ▸ Nat.mod_lt _ (by decide)
  have hc1 : p / 1 % 2 = c := by rw [Nat.div_one]; exact hc
  have h8 : p / 8 % 2 = 1 := by
    have := dec8 p hp
    rw [hd] at this
    rcases Nat.mod_two_eq_zero_or_one (p / 8) with h | h
    · rw [h] at this
      cases this
    · exact h
  obtain ⟨X, hX⟩ : ∃ X, dX corS true a b c = X := ⟨_, rfl⟩
  have Xl : X < 65536 := hX ▸ dX_lt corS corS_ok true a b c al cl
  have Cl := dC_lt corS corS_ok true a b c cl
  refine ⟨X, _, do_addD x y p a b c X _ true hx hy hp hd ha hb hc hX (fl4 p hp _ _ _ _), fun w => ?_⟩
  exact rdo_true_3D x y p a b c X (setF p 128 (topb true X)) (setF (setF p 128 (topb true X)) 64 (topb true a == topb true b && topb true a != (dS corS true a b c &&& 8 != 0))) (setF (setF (setF p 128 (topb true X)) 64 (topb true a == topb true b && topb true a != (dS corS true a b c &&& 8 != 0))) 2 (X == 0)) (setF (setF (setF (setF p 128 (topb true X)) 64 (topb true a == topb true b && topb true a != (dS corS true a b c &&& 8 != 0))) 2 (X == 0)) 1 (dC corS true a b c != 0)) ((nat (topb true X) : Nat) : Int) ((nat (topb true a == topb true b && topb true a != (dS corS true a b c &&& 8 != 0)) : Nat) : Int) ((nat (X == 0) : Nat) : Int) ((nat (dC corS true a b c != 0) : Nat) : Int) w hx hy hp ha hb hc1 (by omega)
    h8
    (fun w => rdig_false_true a b c _ _ _ _ w al bl cl (steps_ok corS corS_ok 4 a b c (by decide) cl) X _ _ _ _ (nat (dS corS true a b c &&& 8 != 0)) _ _ ((stX_4 corS a b c).trans hX) (one_nat _ Cl) (bit8 _) rfl rfl rfl rfl (nat_v _ _ _))
    (fun w => rset_128 p (setF p 128 (topb true X)) (nat (topb true X)) (topb true X) w hp rfl rfl)
    (fun w => rset_64 (setF p 128 (topb true X)) (setF (setF p 128 (topb true X)) 64 (topb true a == topb true b && topb true a != (dS corS true a b c &&& 8 != 0))) (nat (topb true a == topb true b && topb true a != (dS corS true a b c &&& 8 != 0))) (topb true a == topb true b && topb true a != (dS corS true a b c &&& 8 != 0)) w (setF_lt _ _ _ (by decide)) rfl rfl)
    (fun w => rset_2 (setF (setF p 128 (topb true X)) 64 (topb true a == topb true b && topb true a != (dS corS true a b c &&& 8 != 0))) (setF (setF (setF p 128 (topb true X)) 64 (topb true a == topb true b && topb true a != (dS corS true a b c &&& 8 != 0))) 2 (X == 0)) (nat (X == 0)) (X == 0) w (setF_lt _ _ _ (by decide)) rfl rfl)
    (fun w => rset_1 (setF (setF (setF p 128 (topb true X)) 64 (topb true a == topb true b && topb true a != (dS corS true a b c &&& 8 != 0))) 2 (X == 0)) (setF (setF (setF (setF p 128 (topb true X)) 64 (topb true a == topb true b && topb true a != (dS corS true a b c &&& 8 != 0))) 2 (X == 0)) 1 (dC corS true a b c != 0)) (nat (dC corS true a b c != 0)) (dC corS true a b c != 0) w (setF_lt _ _ _ (by decide)) rfl rfl)
theorem same_true_4D (x y p : Nat) (hx : x < 65536) (hy : y < 65536) (hp : p < 256) (hd : (p &&& 8 != 0) = true) : Same 4 x y p true := by
  obtain ⟨a, ha⟩ : ∃ a, x % 65536 = a := ⟨_, rfl⟩
  obtain ⟨b, hb⟩ : ∃ b, y % 65536 = b := ⟨_, rfl⟩
  obtain ⟨c, hc⟩ : ∃ c, p % 2 = c := ⟨_, rfl⟩
  have al : a < 65536 := ha ▸ Nat.mod_lt _ (by decide)
  have bl : b < 65536 := hb ▸ Nat.mod_lt _ (by decide)
  have cl : c < 2 := hc ▸ Nat.mod_lt _ (by decide)
  have hc1 : p / 1 % 2 = c := by rw [Nat.div_one]; exact hc
  obtain ⟨y2, hy2⟩ : ∃ y2, 65536 - 1 - b = y2 := ⟨_, rfl⟩
  have yl : y2 < 65536 := by omega
  have h8 : p / 8 % 2 = 1 := by
    have := dec8 p hp
    rw [hd] at this
    rcases Nat.mod_two_eq_zero_or_one (p / 8) with h | h
    · rw [h] at this
      cases this
    · exact h
  obtain ⟨X, hX⟩ : ∃ X, dX corD true a y2 c = X := ⟨_, rfl⟩
  have Xl : X < 65536 := hX ▸ dX_lt corD corD_ok true a y2 c al cl
  have Cl := dC_lt corD corD_ok true a y2 c cl
  refine ⟨X, _, do_subD x y p a y2 c X _ true hx hy hp hd ha (by rw [← hy2, ← hb]; rfl) hc hX (fl4 p hp _ _ _ _), fun w => ?_⟩
  exact rdo_true_4D x y p a b c X (setF p 128 (topb true X)) (setF (setF p 128 (topb true X)) 64 (topb true a == topb true y2 && topb true a != (dS corD true a y2 c &&& 8 != 0))) (setF (setF (setF p 128 (topb true X)) 64 (topb true a == topb true y2 && topb true a != (dS corD true a y2 c &&& 8 != 0))) 2 (X == 0)) (setF (setF (setF (setF p 128 (topb true X)) 64 (topb true a == topb true y2 && topb true a != (dS corD true a y2 c &&& 8 != 0))) 2 (X == 0)) 1 (dC corD true a y2 c != 0)) ((nat (topb true X) : Nat) : Int) ((nat (topb true a == topb true y2 && topb true a != (dS corD true a y2 c &&& 8 != 0)) : Nat) : Int) ((nat (X == 0) : Nat) : Int) ((nat (dC corD true a y2 c != 0) : Nat) : Int) w hx hy hp ha hb hc1 (by omega)
    h8
    (fun w => rdig_true_true a b y2 c _ _ _ _ w al bl cl hy2 (steps_ok corD corD_ok 4 a y2 c (by decide) cl) X _ _ _ _ (nat (dS corD true a y2 c &&& 8 != 0)) _ _ ((stX_4 corD a y2 c).trans hX) (one_nat _ Cl) (bit8 _) rfl rfl rfl rfl (nat_v _ _ _))
    (fun w => rset_128 p (setF p 128 (topb true X)) (nat (topb true X)) (topb true X) w hp rfl rfl)
    (fun w => rset_64 (setF p 128 (topb true X)) (setF (setF p 128 (topb true X)) 64 (topb true a == topb true y2 && topb true a != (dS corD true a y2 c &&& 8 != 0))) (nat (topb true a == topb true y2 && topb true a != (dS corD true a y2 c &&& 8 != 0))) (topb true a == topb true y2 && topb true a != (dS corD true a y2 c &&& 8 != 0)) w (setF_lt _ _ _ (by decide)) rfl rfl)
    (fun w => rset_2 (setF (setF p 128 (topb true X)) 64 (topb true a == topb true y2 && topb true a != (dS corD true a y2 c &&& 8 != 0))) (setF (setF (setF p 128 (topb true X)) 64 (topb true a == topb true y2 && topb true a != (dS corD true a y2 c &&& 8 != 0))) 2 (X == 0)) (nat (X == 0)) (X == 0) w (setF_lt _ _ _ (by decide)) rfl rfl)
    (fun w => rset_1 (setF (setF (setF p 128 (topb true X)) 64 (topb true a == topb true y2 && topb true a != (dS corD true a y2 c &&& 8 != 0))) 2 (X == 0)) (setF (setF (setF (setF p 128 (topb true X)) 64 (topb true a == topb true y2 && topb true a != (dS corD true a y2 c &&& 8 != 0))) 2 (X == 0)) 1 (dC corD true a y2 c != 0)) (nat (dC corD true a y2 c != 0)) (dC corD true a y2 c != 0) w (setF_lt _ _ _ (by decide)) rfl rfl)
end Go.Proofs.Ytnjbgnkbncjnlaa
