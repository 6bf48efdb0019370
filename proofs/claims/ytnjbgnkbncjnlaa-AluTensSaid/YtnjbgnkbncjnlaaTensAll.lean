/-
  AluTens: all cases together.
-/
import Derived.Test.YtnjbgnkbncjnlaaTensWalk
namespace Go.Proofs.Ytnjbgnkbncjnlaa.aluTens
open Go.RowKit Go.Shelf
set_option maxRecDepth 100000
set_option maxHeartbeats 1000000
set_option linter.unusedVariables false
theorem low8 (q : Nat) (h : q < 256) (b : Bool) (e : q % 2 = (if b then 1 else 0)) : (bits .and .u8 (q : Int) 1 != 0) = b := by
  rw [show (1 : Int) = ((1 : Nat) : Int) from rfl, u8_and_nat q 1 h (by omega), nat_mask1, bne0, e]
  cases b <;> rfl
theorem pflags : ∀ b : Bool, (8 + nat b) < 256 ∧ ((8 + nat b) &&& 8 != 0) = true ∧ (8 + nat b) % 2 = nat b := by decide +kernel
/-- What the calls answer of numbers below the limit. -/
theorem pack (less carry wide : Bool) (m n : Nat) (hm : m < lim wide) (hn : n < lim wide) : ∃ x q : Nat, DoIs (if less then 4 else 3) (ofD wide m) (ofD wide n) (8 + nat carry) wide x q ∧
    (∀ w : World, Calls Try.prog 13 #[.int .u16 x, .bool wide] w fun e w' => e = .returned (.tuple #[.int .i64 ((m + other less wide n + nat carry) % lim wide : Nat), .bool true]) ∧ Below w.heap.size w w') ∧
    (bits .and .u8 (q : Int) 1 != 0) = decide (lim wide ≤ m + other less wide n + nat carry) := by
  obtain ⟨p1, p2, p3⟩ := pflags carry
  have hc : nat carry ≤ 1 := by unfold nat; split <;> omega
  obtain ⟨l1, _, _⟩ := ofD_back wide m
  obtain ⟨l2, _, _⟩ := ofD_back wide n
  have l3 := sz_le wide
  have D := do_sum less (ofD wide m) (ofD wide n) (8 + nat carry) (ofD wide m) _ (nat carry) wide (Nat.lt_of_lt_of_le l1 l3) (Nat.lt_of_lt_of_le l2 l3) p1 true p2 (Nat.mod_eq_of_lt l1) rfl p3
  obtain ⟨s1, s2⟩ := dec_sum less wide m n (nat carry) hc hm hn
  obtain ⟨b1, b2, b3⟩ := ofD_back wide (m + other less wide n + nat carry)
  obtain ⟨f1, _, _, _, f5⟩ := flg_all (8 + nat carry) p1 (topb wide (sX true less wide (ofD wide m) (yy less wide (ofD wide n)) (nat carry)))
    (topb wide (ofD wide m) == topb wide (yy less wide (ofD wide n)) && topb wide (ofD wide m) != sN true less wide (ofD wide m) (yy less wide (ofD wide n)) (nat carry)) (sX true less wide (ofD wide m) (yy less wide (ofD wide n)) (nat carry) == 0) (sC true less wide (ofD wide m) (yy less wide (ofD wide n)) (nat carry))
  refine ⟨_, _, D, ?_, ?_⟩
  · intro w
    have hd := digits_any (sX true less wide (ofD wide m) (yy less wide (ofD wide n)) (nat carry)) wide w (by rw [s1]; exact Nat.lt_of_lt_of_le b1 l3)
    rw [s1] at hd ⊢
    rw [b2, show digV wide (ofD wide (m + other less wide n + nat carry)) = (m + other less wide n + nat carry) % lim wide by unfold digV; rw [b2, b3]; rfl] at hd
    exact hd
  · rw [← s2]
    exact low8 _ f1 _ f5
theorem ne_false {a b : Int} (h : a = b) : (a != b) = false := by rw [h]; simp
theorem walkIn (m n : Nat) (carry wide : Bool) (w : World) (hm : m < lim wide) (hn : n < lim wide) :
    Calls Try.prog 5 #[.int .i64 m, .int .i64 n, .bool carry, .bool wide] w fun e w' => e = .returned (.bool true) ∧ Below w.heap.size w w' := by
  obtain ⟨x, q, D1, G1, F1⟩ := pack false carry wide m n hm hn
  obtain ⟨y, r, D2, G2, F2⟩ := pack true carry wide m n hm hn
  have hX := fun w => ofdig_yes m wide w hm
  have hY := fun w => ofdig_yes n wide w hn
  cases wide <;> cases carry
  · have hm' : m < 100 := hm
    have hn' : n < 100 := hn
    change (bits .and .u8 (q : Int) 1 != 0) = decide (100 ≤ m + n + 0) at F1
    change (bits .and .u8 (r : Int) 1 != 0) = decide (100 ≤ m + (100 - 1 - n) + 0) at F2
    exact in_false_false m n w _ _ x q y r ((m + n + 0) % 100) ((m + (100 - 1 - n) + 0) % 100) (by omega) (by omega) (by omega) (by omega) hX hY D1 D2 G1 G2 (ne_false (by omega)) (ne_false (by omega)) (F1.trans (decide_eq_decide.2 (by omega))) (F2.trans (decide_eq_decide.2 (by omega)))
  · have hm' : m < 100 := hm
    have hn' : n < 100 := hn
    change (bits .and .u8 (q : Int) 1 != 0) = decide (100 ≤ m + n + 1) at F1
    change (bits .and .u8 (r : Int) 1 != 0) = decide (100 ≤ m + (100 - 1 - n) + 1) at F2
    exact in_false_true m n w _ _ x q y r ((m + n + 1) % 100) ((m + (100 - 1 - n) + 1) % 100) (by omega) (by omega) (by omega) (by omega) hX hY D1 D2 G1 G2 (ne_false (by omega)) (ne_false (by omega)) (F1.trans (decide_eq_decide.2 (by omega))) (F2.trans (decide_eq_decide.2 (by omega)))
  · have hm' : m < 10000 := hm
    have hn' : n < 10000 := hn
    change (bits .and .u8 (q : Int) 1 != 0) = decide (10000 ≤ m + n + 0) at F1
    change (bits .and .u8 (r : Int) 1 != 0) = decide (10000 ≤ m + (10000 - 1 - n) + 0) at F2
    exact in_true_false m n w _ _ x q y r ((m + n + 0) % 10000) ((m + (10000 - 1 - n) + 0) % 10000) (by omega) (by omega) (by omega) (by omega) hX hY D1 D2 G1 G2 (ne_false (by omega)) (ne_false (by omega)) (F1.trans (decide_eq_decide.2 (by omega))) (F2.trans (decide_eq_decide.2 (by omega)))
  · have hm' : m < 10000 := hm
    have hn' : n < 10000 := hn
    change (bits .and .u8 (q : Int) 1 != 0) = decide (10000 ≤ m + n + 1) at F1
    change (bits .and .u8 (r : Int) 1 != 0) = decide (10000 ≤ m + (10000 - 1 - n) + 1) at F2
    exact in_true_true m n w _ _ x q y r ((m + n + 1) % 10000) ((m + (10000 - 1 - n) + 1) % 10000) (by omega) (by omega) (by omega) (by omega) hX hY D1 D2 G1 G2 (ne_false (by omega)) (ne_false (by omega)) (F1.trans (decide_eq_decide.2 (by omega))) (F2.trans (decide_eq_decide.2 (by omega)))
theorem walk (a0 : Int) (a1 : Int) (a2 : Bool) (a3 : Bool) (w0 : (Lit.int .i64 a0).wf = true) (w1 : (Lit.int .i64 a1).wf = true) (w : World) :
    Calls Try.prog 5 #[.int .i64 a0, .int .i64 a1, .bool a2, .bool a3] w fun e w' => e = .returned (.bool true) ∧ Below w.heap.size w w' := by
  have h0 := Go.bounds_i64 w0
  have h1 := Go.bounds_i64 w1
  by_cases h : 0 ≤ a0 ∧ a0 < lim a3 ∧ 0 ≤ a1 ∧ a1 < lim a3
  · obtain ⟨m, rfl⟩ : ∃ m : Nat, a0 = m := ⟨a0.toNat, by omega⟩
    obtain ⟨n, rfl⟩ : ∃ n : Nat, a1 = n := ⟨a1.toNat, by omega⟩
    exact walkIn m n a2 a3 w (by omega) (by omega)
  · exact walkOut a0 a1 a2 a3 w h0.2 h1.2 h
end Go.Proofs.Ytnjbgnkbncjnlaa.aluTens
