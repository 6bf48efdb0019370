/-
  AluTens: the walk.
-/
import Derived.Test.YtnjbgnkbncjnlaaTens
namespace Go.Proofs.Ytnjbgnkbncjnlaa.aluTens
open Go.RowKit Go.Shelf
set_option maxRecDepth 100000
set_option maxHeartbeats 1000000
set_option linter.unusedVariables false
theorem limit_any (wide : Bool) (w : World) : Calls Try.prog 18 #[.bool wide] w fun e w' => e = .returned (.int .i64 (if wide then 10000 else 100)) ∧ w = w' := by
  cases wide
  · go_enter Try.func18, Try.ntmps18
    go_wp2
    go_ret
    exact ⟨rfl, rfl⟩
  · go_enter Try.func18, Try.ntmps18
    go_wp2
    go_ret
    exact ⟨rfl, rfl⟩
theorem lim_false (w : World) : Calls Try.prog 18 #[.bool false] w fun e w' => e = .returned (.int .i64 100) ∧ w = w' := limit_any false w
theorem lim_true (w : World) : Calls Try.prog 18 #[.bool true] w fun e w' => e = .returned (.int .i64 10000) ∧ w = w' := limit_any true w
theorem out_false_neg_neg (m n : Int) (carry : Bool) (w : World) (X Y : Nat) (h1 : m < 0) (h2 : n < 0)
    (hX : ∀ w : World, Calls Try.prog 15 #[.int .i64 m, .bool false] w fun e w' => e = .returned (.tuple #[.int .u16 X, .bool false]) ∧ Below w.heap.size w w')
    (hY : ∀ w : World, Calls Try.prog 15 #[.int .i64 n, .bool false] w fun e w' => e = .returned (.tuple #[.int .u16 Y, .bool false]) ∧ Below w.heap.size w w') :
    Calls Try.prog 5 #[.int .i64 m, .int .i64 n, .bool carry, .bool false] w fun e w' => e = .returned (.bool true) ∧ Below w.heap.size w w' := by
  have Tm0 : decide (m < 0) = true := decide_eq_true (by omega)
  have Tm1 : decide (0 ≤ m) = false := decide_eq_false (by omega)
  have Tm2 : decide (100 ≤ m) = false := decide_eq_false (by omega)
  have Tm3 : decide (m < 100) = true := decide_eq_true (by omega)
  have Tn0 : decide (n < 0) = true := decide_eq_true (by omega)
  have Tn1 : decide (0 ≤ n) = false := decide_eq_false (by omega)
  have Tn2 : decide (100 ≤ n) = false := decide_eq_false (by omega)
  have Tn3 : decide (n < 100) = true := decide_eq_true (by omega)
  have HX := Lib.hid hX
  have HY := Lib.hid hY
  clear hX hY h1 h2
  go_enter Try.func5, Try.ntmps5
  go_wp2_with fail
  refine (HX.out _).mono ?_
  rintro e w1 ⟨rfl, b1⟩
  go_wp2_with fail
  refine (HY.out _).mono ?_
  rintro e w2 ⟨rfl, b2⟩
  have hall := b1.trans (b2.mono b1.size)
  clear b1 b2
  go_wp2_with (go_at_call 18; refine (lim_false _).mono ?_; rintro e w' ⟨rfl, rfl⟩)
  refine (awake_any _).mono ?_
  rintro e w7 ⟨rfl, b7⟩
  go_wp2_with fail
  go_ret
  exact ⟨rfl, hall.trans (b7.mono hall.size)⟩
theorem out_false_neg_in (m n : Int) (carry : Bool) (w : World) (X Y : Nat) (h1 : m < 0) (h2 : 0 ≤ n ∧ n < 100)
    (hX : ∀ w : World, Calls Try.prog 15 #[.int .i64 m, .bool false] w fun e w' => e = .returned (.tuple #[.int .u16 X, .bool false]) ∧ Below w.heap.size w w')
    (hY : ∀ w : World, Calls Try.prog 15 #[.int .i64 n, .bool false] w fun e w' => e = .returned (.tuple #[.int .u16 Y, .bool true]) ∧ Below w.heap.size w w') :
    Calls Try.prog 5 #[.int .i64 m, .int .i64 n, .bool carry, .bool false] w fun e w' => e = .returned (.bool true) ∧ Below w.heap.size w w' := by
  have Tm0 : decide (m < 0) = true := decide_eq_true (by omega)
  have Tm1 : decide (0 ≤ m) = false := decide_eq_false (by omega)
  have Tm2 : decide (100 ≤ m) = false := decide_eq_false (by omega)
  have Tm3 : decide (m < 100) = true := decide_eq_true (by omega)
  have Tn0 : decide (n < 0) = false := decide_eq_false (by omega)
  have Tn1 : decide (0 ≤ n) = true := decide_eq_true (by omega)
  have Tn2 : decide (100 ≤ n) = false := decide_eq_false (by omega)
  have Tn3 : decide (n < 100) = true := decide_eq_true (by omega)
  have HX := Lib.hid hX
  have HY := Lib.hid hY
  clear hX hY h1 h2
  go_enter Try.func5, Try.ntmps5
  go_wp2_with fail
  refine (HX.out _).mono ?_
  rintro e w1 ⟨rfl, b1⟩
  go_wp2_with fail
  refine (HY.out _).mono ?_
  rintro e w2 ⟨rfl, b2⟩
  have hall := b1.trans (b2.mono b1.size)
  clear b1 b2
  go_wp2_with (go_at_call 18; refine (lim_false _).mono ?_; rintro e w' ⟨rfl, rfl⟩)
  refine (awake_any _).mono ?_
  rintro e w7 ⟨rfl, b7⟩
  go_wp2_with fail
  go_ret
  exact ⟨rfl, hall.trans (b7.mono hall.size)⟩
theorem out_false_neg_big (m n : Int) (carry : Bool) (w : World) (X Y : Nat) (h1 : m < 0) (h2 : 100 ≤ n)
    (hX : ∀ w : World, Calls Try.prog 15 #[.int .i64 m, .bool false] w fun e w' => e = .returned (.tuple #[.int .u16 X, .bool false]) ∧ Below w.heap.size w w')
    (hY : ∀ w : World, Calls Try.prog 15 #[.int .i64 n, .bool false] w fun e w' => e = .returned (.tuple #[.int .u16 Y, .bool false]) ∧ Below w.heap.size w w') :
    Calls Try.prog 5 #[.int .i64 m, .int .i64 n, .bool carry, .bool false] w fun e w' => e = .returned (.bool true) ∧ Below w.heap.size w w' := by
  have Tm0 : decide (m < 0) = true := decide_eq_true (by omega)
  have Tm1 : decide (0 ≤ m) = false := decide_eq_false (by omega)
  have Tm2 : decide (100 ≤ m) = false := decide_eq_false (by omega)
  have Tm3 : decide (m < 100) = true := decide_eq_true (by omega)
  have Tn0 : decide (n < 0) = false := decide_eq_false (by omega)
  have Tn1 : decide (0 ≤ n) = true := decide_eq_true (by omega)
  have Tn2 : decide (100 ≤ n) = true := decide_eq_true (by omega)
  have Tn3 : decide (n < 100) = false := decide_eq_false (by omega)
  have HX := Lib.hid hX
  have HY := Lib.hid hY
  clear hX hY h1 h2
  go_enter Try.func5, Try.ntmps5
  go_wp2_with fail
  refine (HX.out _).mono ?_
  rintro e w1 ⟨rfl, b1⟩
  go_wp2_with fail
  refine (HY.out _).mono ?_
  rintro e w2 ⟨rfl, b2⟩
  have hall := b1.trans (b2.mono b1.size)
  clear b1 b2
  go_wp2_with (go_at_call 18; refine (lim_false _).mono ?_; rintro e w' ⟨rfl, rfl⟩)
  refine (awake_any _).mono ?_
  rintro e w7 ⟨rfl, b7⟩
  go_wp2_with fail
  go_ret
  exact ⟨rfl, hall.trans (b7.mono hall.size)⟩
theorem out_false_in_neg (m n : Int) (carry : Bool) (w : World) (X Y : Nat) (h1 : 0 ≤ m ∧ m < 100) (h2 : n < 0)
    (hX : ∀ w : World, Calls Try.prog 15 #[.int .i64 m, .bool false] w fun e w' => e = .returned (.tuple #[.int .u16 X, .bool true]) ∧ Below w.heap.size w w')
    (hY : ∀ w : World, Calls Try.prog 15 #[.int .i64 n, .bool false] w fun e w' => e = .returned (.tuple #[.int .u16 Y, .bool false]) ∧ Below w.heap.size w w') :
    Calls Try.prog 5 #[.int .i64 m, .int .i64 n, .bool carry, .bool false] w fun e w' => e = .returned (.bool true) ∧ Below w.heap.size w w' := by
  have Tm0 : decide (m < 0) = false := decide_eq_false (by omega)
  have Tm1 : decide (0 ≤ m) = true := decide_eq_true (by omega)
  have Tm2 : decide (100 ≤ m) = false := decide_eq_false (by omega)
  have Tm3 : decide (m < 100) = true := decide_eq_true (by omega)
  have Tn0 : decide (n < 0) = true := decide_eq_true (by omega)
  have Tn1 : decide (0 ≤ n) = false := decide_eq_false (by omega)
  have Tn2 : decide (100 ≤ n) = false := decide_eq_false (by omega)
  have Tn3 : decide (n < 100) = true := decide_eq_true (by omega)
  have HX := Lib.hid hX
  have HY := Lib.hid hY
  clear hX hY h1 h2
  go_enter Try.func5, Try.ntmps5
  go_wp2_with fail
  refine (HX.out _).mono ?_
  rintro e w1 ⟨rfl, b1⟩
  go_wp2_with fail
  refine (HY.out _).mono ?_
  rintro e w2 ⟨rfl, b2⟩
  have hall := b1.trans (b2.mono b1.size)
  clear b1 b2
  go_wp2_with (go_at_call 18; refine (lim_false _).mono ?_; rintro e w' ⟨rfl, rfl⟩)
  refine (awake_any _).mono ?_
  rintro e w7 ⟨rfl, b7⟩
  go_wp2_with fail
  go_ret
  exact ⟨rfl, hall.trans (b7.mono hall.size)⟩
theorem out_false_in_big (m n : Int) (carry : Bool) (w : World) (X Y : Nat) (h1 : 0 ≤ m ∧ m < 100) (h2 : 100 ≤ n)
    (hX : ∀ w : World, Calls Try.prog 15 #[.int .i64 m, .bool false] w fun e w' => e = .returned (.tuple #[.int .u16 X, .bool true]) ∧ Below w.heap.size w w')
    (hY : ∀ w : World, Calls Try.prog 15 #[.int .i64 n, .bool false] w fun e w' => e = .returned (.tuple #[.int .u16 Y, .bool false]) ∧ Below w.heap.size w w') :
    Calls Try.prog 5 #[.int .i64 m, .int .i64 n, .bool carry, .bool false] w fun e w' => e = .returned (.bool true) ∧ Below w.heap.size w w' := by
  have Tm0 : decide (m < 0) = false := decide_eq_false (by omega)
  have Tm1 : decide (0 ≤ m) = true := decide_eq_true (by omega)
  have Tm2 : decide (100 ≤ m) = false := decide_eq_false (by omega)
  have Tm3 : decide (m < 100) = true := decide_eq_true (by omega)
  have Tn0 : decide (n < 0) = false := decide_eq_false (by omega)
  have Tn1 : decide (0 ≤ n) = true := decide_eq_true (by omega)
  have Tn2 : decide (100 ≤ n) = true := decide_eq_true (by omega)
  have Tn3 : decide (n < 100) = false := decide_eq_false (by omega)
  have HX := Lib.hid hX
  have HY := Lib.hid hY
  clear hX hY h1 h2
  go_enter Try.func5, Try.ntmps5
  go_wp2_with fail
  refine (HX.out _).mono ?_
  rintro e w1 ⟨rfl, b1⟩
  go_wp2_with fail
  refine (HY.out _).mono ?_
  rintro e w2 ⟨rfl, b2⟩
  have hall := b1.trans (b2.mono b1.size)
  clear b1 b2
  go_wp2_with (go_at_call 18; refine (lim_false _).mono ?_; rintro e w' ⟨rfl, rfl⟩)
  refine (awake_any _).mono ?_
  rintro e w7 ⟨rfl, b7⟩
  go_wp2_with fail
  go_ret
  exact ⟨rfl, hall.trans (b7.mono hall.size)⟩
theorem out_false_big_neg (m n : Int) (carry : Bool) (w : World) (X Y : Nat) (h1 : 100 ≤ m) (h2 : n < 0)
    (hX : ∀ w : World, Calls Try.prog 15 #[.int .i64 m, .bool false] w fun e w' => e = .returned (.tuple #[.int .u16 X, .bool false]) ∧ Below w.heap.size w w')
    (hY : ∀ w : World, Calls Try.prog 15 #[.int .i64 n, .bool false] w fun e w' => e = .returned (.tuple #[.int .u16 Y, .bool false]) ∧ Below w.heap.size w w') :
    Calls Try.prog 5 #[.int .i64 m, .int .i64 n, .bool carry, .bool false] w fun e w' => e = .returned (.bool true) ∧ Below w.heap.size w w' := by
  have Tm0 : decide (m < 0) = false := decide_eq_false (by omega)
  have Tm1 : decide (0 ≤ m) = true := decide_eq_true (by omega)
  have Tm2 : decide (100 ≤ m) = true := decide_eq_true (by omega)
  have Tm3 : decide (m < 100) = false := decide_eq_false (by omega)
  have Tn0 : decide (n < 0) = true := decide_eq_true (by omega)
  have Tn1 : decide (0 ≤ n) = false := decide_eq_false (by omega)
  have Tn2 : decide (100 ≤ n) = false := decide_eq_false (by omega)
  have Tn3 : decide (n < 100) = true := decide_eq_true (by omega)
  have HX := Lib.hid hX
  have HY := Lib.hid hY
  clear hX hY h1 h2
  go_enter Try.func5, Try.ntmps5
  go_wp2_with fail
  refine (HX.out _).mono ?_
  rintro e w1 ⟨rfl, b1⟩
  go_wp2_with fail
  refine (HY.out _).mono ?_
  rintro e w2 ⟨rfl, b2⟩
  have hall := b1.trans (b2.mono b1.size)
  clear b1 b2
  go_wp2_with (go_at_call 18; refine (lim_false _).mono ?_; rintro e w' ⟨rfl, rfl⟩)
  refine (awake_any _).mono ?_
  rintro e w7 ⟨rfl, b7⟩
  go_wp2_with fail
  go_ret
  exact ⟨rfl, hall.trans (b7.mono hall.size)⟩
theorem out_false_big_in (m n : Int) (carry : Bool) (w : World) (X Y : Nat) (h1 : 100 ≤ m) (h2 : 0 ≤ n ∧ n < 100)
    (hX : ∀ w : World, Calls Try.prog 15 #[.int .i64 m, .bool false] w fun e w' => e = .returned (.tuple #[.int .u16 X, .bool false]) ∧ Below w.heap.size w w')
    (hY : ∀ w : World, Calls Try.prog 15 #[.int .i64 n, .bool false] w fun e w' => e = .returned (.tuple #[.int .u16 Y, .bool true]) ∧ Below w.heap.size w w') :
    Calls Try.prog 5 #[.int .i64 m, .int .i64 n, .bool carry, .bool false] w fun e w' => e = .returned (.bool true) ∧ Below w.heap.size w w' := by
  have Tm0 : decide (m < 0) = false := decide_eq_false (by omega)
  have Tm1 : decide (0 ≤ m) = true := decide_eq_true (by omega)
  have Tm2 : decide (100 ≤ m) = true := decide_eq_true (by omega)
  have Tm3 : decide (m < 100) = false := decide_eq_false (by omega)
  have Tn0 : decide (n < 0) = false := decide_eq_false (by omega)
  have Tn1 : decide (0 ≤ n) = true := decide_eq_true (by omega)
  have Tn2 : decide (100 ≤ n) = false := decide_eq_false (by omega)
  have Tn3 : decide (n < 100) = true := decide_eq_true (by omega)
  have HX := Lib.hid hX
  have HY := Lib.hid hY
  clear hX hY h1 h2
  go_enter Try.func5, Try.ntmps5
  go_wp2_with fail
  refine (HX.out _).mono ?_
  rintro e w1 ⟨rfl, b1⟩
  go_wp2_with fail
  refine (HY.out _).mono ?_
  rintro e w2 ⟨rfl, b2⟩
  have hall := b1.trans (b2.mono b1.size)
  clear b1 b2
  go_wp2_with (go_at_call 18; refine (lim_false _).mono ?_; rintro e w' ⟨rfl, rfl⟩)
  refine (awake_any _).mono ?_
  rintro e w7 ⟨rfl, b7⟩
  go_wp2_with fail
  go_ret
  exact ⟨rfl, hall.trans (b7.mono hall.size)⟩
theorem out_false_big_big (m n : Int) (carry : Bool) (w : World) (X Y : Nat) (h1 : 100 ≤ m) (h2 : 100 ≤ n)
    (hX : ∀ w : World, Calls Try.prog 15 #[.int .i64 m, .bool false] w fun e w' => e = .returned (.tuple #[.int .u16 X, .bool false]) ∧ Below w.heap.size w w')
    (hY : ∀ w : World, Calls Try.prog 15 #[.int .i64 n, .bool false] w fun e w' => e = .returned (.tuple #[.int .u16 Y, .bool false]) ∧ Below w.heap.size w w') :
    Calls Try.prog 5 #[.int .i64 m, .int .i64 n, .bool carry, .bool false] w fun e w' => e = .returned (.bool true) ∧ Below w.heap.size w w' := by
  have Tm0 : decide (m < 0) = false := decide_eq_false (by omega)
  have Tm1 : decide (0 ≤ m) = true := decide_eq_true (by omega)
  have Tm2 : decide (100 ≤ m) = true := decide_eq_true (by omega)
  have Tm3 : decide (m < 100) = false := decide_eq_false (by omega)
  have Tn0 : decide (n < 0) = false := decide_eq_false (by omega)
  have Tn1 : decide (0 ≤ n) = true := decide_eq_true (by omega)
  have Tn2 : decide (100 ≤ n) = true := decide_eq_true (by omega)
  have Tn3 : decide (n < 100) = false := decide_eq_false (by omega)
  have HX := Lib.hid hX
  have HY := Lib.hid hY
  clear hX hY h1 h2
  go_enter Try.func5, Try.ntmps5
  go_wp2_with fail
  refine (HX.out _).mono ?_
  rintro e w1 ⟨rfl, b1⟩
  go_wp2_with fail
  refine (HY.out _).mono ?_
  rintro e w2 ⟨rfl, b2⟩
  have hall := b1.trans (b2.mono b1.size)
  clear b1 b2
  go_wp2_with (go_at_call 18; refine (lim_false _).mono ?_; rintro e w' ⟨rfl, rfl⟩)
  refine (awake_any _).mono ?_
  rintro e w7 ⟨rfl, b7⟩
  go_wp2_with fail
  go_ret
  exact ⟨rfl, hall.trans (b7.mono hall.size)⟩
theorem out_true_neg_neg (m n : Int) (carry : Bool) (w : World) (X Y : Nat) (h1 : m < 0) (h2 : n < 0)
    (hX : ∀ w : World, Calls Try.prog 15 #[.int .i64 m, .bool true] w fun e w' => e = .returned (.tuple #[.int .u16 X, .bool false]) ∧ Below w.heap.size w w')
    (hY : ∀ w : World, Calls Try.prog 15 #[.int .i64 n, .bool true] w fun e w' => e = .returned (.tuple #[.int .u16 Y, .bool false]) ∧ Below w.heap.size w w') :
    Calls Try.prog 5 #[.int .i64 m, .int .i64 n, .bool carry, .bool true] w fun e w' => e = .returned (.bool true) ∧ Below w.heap.size w w' := by
  have Tm0 : decide (m < 0) = true := decide_eq_true (by omega)
  have Tm1 : decide (0 ≤ m) = false := decide_eq_false (by omega)
  have Tm2 : decide (10000 ≤ m) = false := decide_eq_false (by omega)
  have Tm3 : decide (m < 10000) = true := decide_eq_true (by omega)
  have Tn0 : decide (n < 0) = true := decide_eq_true (by omega)
  have Tn1 : decide (0 ≤ n) = false := decide_eq_false (by omega)
  have Tn2 : decide (10000 ≤ n) = false := decide_eq_false (by omega)
  have Tn3 : decide (n < 10000) = true := decide_eq_true (by omega)
  have HX := Lib.hid hX
  have HY := Lib.hid hY
  clear hX hY h1 h2
  go_enter Try.func5, Try.ntmps5
  go_wp2_with fail
  refine (HX.out _).mono ?_
  rintro e w1 ⟨rfl, b1⟩
  go_wp2_with fail
  refine (HY.out _).mono ?_
  rintro e w2 ⟨rfl, b2⟩
  have hall := b1.trans (b2.mono b1.size)
  clear b1 b2
  go_wp2_with (go_at_call 18; refine (lim_true _).mono ?_; rintro e w' ⟨rfl, rfl⟩)
  refine (awake_any _).mono ?_
  rintro e w7 ⟨rfl, b7⟩
  go_wp2_with fail
  go_ret
  exact ⟨rfl, hall.trans (b7.mono hall.size)⟩
theorem out_true_neg_in (m n : Int) (carry : Bool) (w : World) (X Y : Nat) (h1 : m < 0) (h2 : 0 ≤ n ∧ n < 10000)
    (hX : ∀ w : World, Calls Try.prog 15 #[.int .i64 m, .bool true] w fun e w' => e = .returned (.tuple #[.int .u16 X, .bool false]) ∧ Below w.heap.size w w')
    (hY : ∀ w : World, Calls Try.prog 15 #[.int .i64 n, .bool true] w fun e w' => e = .returned (.tuple #[.int .u16 Y, .bool true]) ∧ Below w.heap.size w w') :
    Calls Try.prog 5 #[.int .i64 m, .int .i64 n, .bool carry, .bool true] w fun e w' => e = .returned (.bool true) ∧ Below w.heap.size w w' := by
  have Tm0 : decide (m < 0) = true := decide_eq_true (by omega)
  have Tm1 : decide (0 ≤ m) = false := decide_eq_false (by omega)
  have Tm2 : decide (10000 ≤ m) = false := decide_eq_false (by omega)
  have Tm3 : decide (m < 10000) = true := decide_eq_true (by omega)
  have Tn0 : decide (n < 0) = false := decide_eq_false (by omega)
  have Tn1 : decide (0 ≤ n) = true := decide_eq_true (by omega)
  have Tn2 : decide (10000 ≤ n) = false := decide_eq_false (by omega)
  have Tn3 : decide (n < 10000) = true := decide_eq_true (by omega)
  have HX := Lib.hid hX
  have HY := Lib.hid hY
  clear hX hY h1 h2
  go_enter Try.func5, Try.ntmps5
  go_wp2_with fail
  refine (HX.out _).mono ?_
  rintro e w1 ⟨rfl, b1⟩
  go_wp2_with fail
  refine (HY.out _).mono ?_
  rintro e w2 ⟨rfl, b2⟩
  have hall := b1.trans (b2.mono b1.size)
  clear b1 b2
  go_wp2_with (go_at_call 18; refine (lim_true _).mono ?_; rintro e w' ⟨rfl, rfl⟩)
  refine (awake_any _).mono ?_
  rintro e w7 ⟨rfl, b7⟩
  go_wp2_with fail
  go_ret
  exact ⟨rfl, hall.trans (b7.mono hall.size)⟩
theorem out_true_neg_big (m n : Int) (carry : Bool) (w : World) (X Y : Nat) (h1 : m < 0) (h2 : 10000 ≤ n)
    (hX : ∀ w : World, Calls Try.prog 15 #[.int .i64 m, .bool true] w fun e w' => e = .returned (.tuple #[.int .u16 X, .bool false]) ∧ Below w.heap.size w w')
    (hY : ∀ w : World, Calls Try.prog 15 #[.int .i64 n, .bool true] w fun e w' => e = .returned (.tuple #[.int .u16 Y, .bool false]) ∧ Below w.heap.size w w') :
    Calls Try.prog 5 #[.int .i64 m, .int .i64 n, .bool carry, .bool true] w fun e w' => e = .returned (.bool true) ∧ Below w.heap.size w w' := by
  have Tm0 : decide (m < 0) = true := decide_eq_true (by omega)
  have Tm1 : decide (0 ≤ m) = false := decide_eq_false (by omega)
  have Tm2 : decide (10000 ≤ m) = false := decide_eq_false (by omega)
  have Tm3 : decide (m < 10000) = true := decide_eq_true (by omega)
  have Tn0 : decide (n < 0) = false := decide_eq_false (by omega)
  have Tn1 : decide (0 ≤ n) = true := decide_eq_true (by omega)
  have Tn2 : decide (10000 ≤ n) = true := decide_eq_true (by omega)
  have Tn3 : decide (n < 10000) = false := decide_eq_false (by omega)
  have HX := Lib.hid hX
  have HY := Lib.hid hY
  clear hX hY h1 h2
  go_enter Try.func5, Try.ntmps5
  go_wp2_with fail
  refine (HX.out _).mono ?_
  rintro e w1 ⟨rfl, b1⟩
  go_wp2_with fail
  refine (HY.out _).mono ?_
  rintro e w2 ⟨rfl, b2⟩
  have hall := b1.trans (b2.mono b1.size)
  clear b1 b2
  go_wp2_with (go_at_call 18; refine (lim_true _).mono ?_; rintro e w' ⟨rfl, rfl⟩)
  refine (awake_any _).mono ?_
  rintro e w7 ⟨rfl, b7⟩
  go_wp2_with fail
  go_ret
  exact ⟨rfl, hall.trans (b7.mono hall.size)⟩
theorem out_true_in_neg (m n : Int) (carry : Bool) (w : World) (X Y : Nat) (h1 : 0 ≤ m ∧ m < 10000) (h2 : n < 0)
    (hX : ∀ w : World, Calls Try.prog 15 #[.int .i64 m, .bool true] w fun e w' => e = .returned (.tuple #[.int .u16 X, .bool true]) ∧ Below w.heap.size w w')
    (hY : ∀ w : World, Calls Try.prog 15 #[.int .i64 n, .bool true] w fun e w' => e = .returned (.tuple #[.int .u16 Y, .bool false]) ∧ Below w.heap.size w w') :
    Calls Try.prog 5 #[.int .i64 m, .int .i64 n, .bool carry, .bool true] w fun e w' => e = .returned (.bool true) ∧ Below w.heap.size w w' := by
  have Tm0 : decide (m < 0) = false := decide_eq_false (by omega)
  have Tm1 : decide (0 ≤ m) = true := decide_eq_true (by omega)
  have Tm2 : decide (10000 ≤ m) = false := decide_eq_false (by omega)
  have Tm3 : decide (m < 10000) = true := decide_eq_true (by omega)
  have Tn0 : decide (n < 0) = true := decide_eq_true (by omega)
  have Tn1 : decide (0 ≤ n) = false := decide_eq_false (by omega)
  have Tn2 : decide (10000 ≤ n) = false := decide_eq_false (by omega)
  have Tn3 : decide (n < 10000) = true := decide_eq_true (by omega)
  have HX := Lib.hid hX
  have HY := Lib.hid hY
  clear hX hY h1 h2
  go_enter Try.func5, Try.ntmps5
  go_wp2_with fail
  refine (HX.out _).mono ?_
  rintro e w1 ⟨rfl, b1⟩
  go_wp2_with fail
  refine (HY.out _).mono ?_
  rintro e w2 ⟨rfl, b2⟩
  have hall := b1.trans (b2.mono b1.size)
  clear b1 b2
  go_wp2_with (go_at_call 18; refine (lim_true _).mono ?_; rintro e w' ⟨rfl, rfl⟩)
  refine (awake_any _).mono ?_
  rintro e w7 ⟨rfl, b7⟩
  go_wp2_with fail
  go_ret
  exact ⟨rfl, hall.trans (b7.mono hall.size)⟩
theorem out_true_in_big (m n : Int) (carry : Bool) (w : World) (X Y : Nat) (h1 : 0 ≤ m ∧ m < 10000) (h2 : 10000 ≤ n)
    (hX : ∀ w : World, Calls Try.prog 15 #[.int .i64 m, .bool true] w fun e w' => e = .returned (.tuple #[.int .u16 X, .bool true]) ∧ Below w.heap.size w w')
    (hY : ∀ w : World, Calls Try.prog 15 #[.int .i64 n, .bool true] w fun e w' => e = .returned (.tuple #[.int .u16 Y, .bool false]) ∧ Below w.heap.size w w') :
    Calls Try.prog 5 #[.int .i64 m, .int .i64 n, .bool carry, .bool true] w fun e w' => e = .returned (.bool true) ∧ Below w.heap.size w w' := by
  have Tm0 : decide (m < 0) = false := decide_eq_false (by omega)
  have Tm1 : decide (0 ≤ m) = true := decide_eq_true (by omega)
  have Tm2 : decide (10000 ≤ m) = false := decide_eq_false (by omega)
  have Tm3 : decide (m < 10000) = true := decide_eq_true (by omega)
  have Tn0 : decide (n < 0) = false := decide_eq_false (by omega)
  have Tn1 : decide (0 ≤ n) = true := decide_eq_true (by omega)
  have Tn2 : decide (10000 ≤ n) = true := decide_eq_true (by omega)
  have Tn3 : decide (n < 10000) = false := decide_eq_false (by omega)
  have HX := Lib.hid hX
  have HY := Lib.hid hY
  clear hX hY h1 h2
  go_enter Try.func5, Try.ntmps5
  go_wp2_with fail
  refine (HX.out _).mono ?_
  rintro e w1 ⟨rfl, b1⟩
  go_wp2_with fail
  refine (HY.out _).mono ?_
  rintro e w2 ⟨rfl, b2⟩
  have hall := b1.trans (b2.mono b1.size)
  clear b1 b2
  go_wp2_with (go_at_call 18; refine (lim_true _).mono ?_; rintro e w' ⟨rfl, rfl⟩)
  refine (awake_any _).mono ?_
  rintro e w7 ⟨rfl, b7⟩
  go_wp2_with fail
  go_ret
  exact ⟨rfl, hall.trans (b7.mono hall.size)⟩
theorem out_true_big_neg (m n : Int) (carry : Bool) (w : World) (X Y : Nat) (h1 : 10000 ≤ m) (h2 : n < 0)
    (hX : ∀ w : World, Calls Try.prog 15 #[.int .i64 m, .bool true] w fun e w' => e = .returned (.tuple #[.int .u16 X, .bool false]) ∧ Below w.heap.size w w')
    (hY : ∀ w : World, Calls Try.prog 15 #[.int .i64 n, .bool true] w fun e w' => e = .returned (.tuple #[.int .u16 Y, .bool false]) ∧ Below w.heap.size w w') :
    Calls Try.prog 5 #[.int .i64 m, .int .i64 n, .bool carry, .bool true] w fun e w' => e = .returned (.bool true) ∧ Below w.heap.size w w' := by
  have Tm0 : decide (m < 0) = false := decide_eq_false (by omega)
  have Tm1 : decide (0 ≤ m) = true := decide_eq_true (by omega)
  have Tm2 : decide (10000 ≤ m) = true := decide_eq_true (by omega)
  have Tm3 : decide (m < 10000) = false := decide_eq_false (by omega)
  have Tn0 : decide (n < 0) = true := decide_eq_true (by omega)
  have Tn1 : decide (0 ≤ n) = false := decide_eq_false (by omega)
  have Tn2 : decide (10000 ≤ n) = false := decide_eq_false (by omega)
  have Tn3 : decide (n < 10000) = true := decide_eq_true (by omega)
  have HX := Lib.hid hX
  have HY := Lib.hid hY
  clear hX hY h1 h2
  go_enter Try.func5, Try.ntmps5
  go_wp2_with fail
  refine (HX.out _).mono ?_
  rintro e w1 ⟨rfl, b1⟩
  go_wp2_with fail
  refine (HY.out _).mono ?_
  rintro e w2 ⟨rfl, b2⟩
  have hall := b1.trans (b2.mono b1.size)
  clear b1 b2
  go_wp2_with (go_at_call 18; refine (lim_true _).mono ?_; rintro e w' ⟨rfl, rfl⟩)
  refine (awake_any _).mono ?_
  rintro e w7 ⟨rfl, b7⟩
  go_wp2_with fail
  go_ret
  exact ⟨rfl, hall.trans (b7.mono hall.size)⟩
theorem out_true_big_in (m n : Int) (carry : Bool) (w : World) (X Y : Nat) (h1 : 10000 ≤ m) (h2 : 0 ≤ n ∧ n < 10000)
    (hX : ∀ w : World, Calls Try.prog 15 #[.int .i64 m, .bool true] w fun e w' => e = .returned (.tuple #[.int .u16 X, .bool false]) ∧ Below w.heap.size w w')
    (hY : ∀ w : World, Calls Try.prog 15 #[.int .i64 n, .bool true] w fun e w' => e = .returned (.tuple #[.int .u16 Y, .bool true]) ∧ Below w.heap.size w w') :
    Calls Try.prog 5 #[.int .i64 m, .int .i64 n, .bool carry, .bool true] w fun e w' => e = .returned (.bool true) ∧ Below w.heap.size w w' := by
  have Tm0 : decide (m < 0) = false := decide_eq_false (by omega)
  have Tm1 : decide (0 ≤ m) = true := decide_eq_true (by omega)
  have Tm2 : decide (10000 ≤ m) = true := decide_eq_true (by omega)
  have Tm3 : decide (m < 10000) = false := decide_eq_false (by omega)
  have Tn0 : decide (n < 0) = false := decide_eq_false (by omega)
  have Tn1 : decide (0 ≤ n) = true := decide_eq_true (by omega)
  have Tn2 : decide (10000 ≤ n) = false := decide_eq_false (by omega)
  have Tn3 : decide (n < 10000) = true := decide_eq_true (by omega)
  have HX := Lib.hid hX
  have HY := Lib.hid hY
  clear hX hY h1 h2
  go_enter Try.func5, Try.ntmps5
  go_wp2_with fail
  refine (HX.out _).mono ?_
  rintro e w1 ⟨rfl, b1⟩
  go_wp2_with fail
  refine (HY.out _).mono ?_
  rintro e w2 ⟨rfl, b2⟩
  have hall := b1.trans (b2.mono b1.size)
  clear b1 b2
  go_wp2_with (go_at_call 18; refine (lim_true _).mono ?_; rintro e w' ⟨rfl, rfl⟩)
  refine (awake_any _).mono ?_
  rintro e w7 ⟨rfl, b7⟩
  go_wp2_with fail
  go_ret
  exact ⟨rfl, hall.trans (b7.mono hall.size)⟩
theorem out_true_big_big (m n : Int) (carry : Bool) (w : World) (X Y : Nat) (h1 : 10000 ≤ m) (h2 : 10000 ≤ n)
    (hX : ∀ w : World, Calls Try.prog 15 #[.int .i64 m, .bool true] w fun e w' => e = .returned (.tuple #[.int .u16 X, .bool false]) ∧ Below w.heap.size w w')
    (hY : ∀ w : World, Calls Try.prog 15 #[.int .i64 n, .bool true] w fun e w' => e = .returned (.tuple #[.int .u16 Y, .bool false]) ∧ Below w.heap.size w w') :
    Calls Try.prog 5 #[.int .i64 m, .int .i64 n, .bool carry, .bool true] w fun e w' => e = .returned (.bool true) ∧ Below w.heap.size w w' := by
  have Tm0 : decide (m < 0) = false := decide_eq_false (by omega)
  have Tm1 : decide (0 ≤ m) = true := decide_eq_true (by omega)
  have Tm2 : decide (10000 ≤ m) = true := decide_eq_true (by omega)
  have Tm3 : decide (m < 10000) = false := decide_eq_false (by omega)
  have Tn0 : decide (n < 0) = false := decide_eq_false (by omega)
  have Tn1 : decide (0 ≤ n) = true := decide_eq_true (by omega)
  have Tn2 : decide (10000 ≤ n) = true := decide_eq_true (by omega)
  have Tn3 : decide (n < 10000) = false := decide_eq_false (by omega)
  have HX := Lib.hid hX
  have HY := Lib.hid hY
  clear hX hY h1 h2
  go_enter Try.func5, Try.ntmps5
  go_wp2_with fail
  refine (HX.out _).mono ?_
  rintro e w1 ⟨rfl, b1⟩
  go_wp2_with fail
  refine (HY.out _).mono ?_
  rintro e w2 ⟨rfl, b2⟩
  have hall := b1.trans (b2.mono b1.size)
  clear b1 b2
  go_wp2_with (go_at_call 18; refine (lim_true _).mono ?_; rintro e w' ⟨rfl, rfl⟩)
  refine (awake_any _).mono ?_
  rintro e w7 ⟨rfl, b7⟩
  go_wp2_with fail
  go_ret
  exact ⟨rfl, hall.trans (b7.mono hall.size)⟩
theorem of_any (m : Int) (wide : Bool) (hm : m ≤ 9223372036854775807) (h : m < 0 ∨ (lim wide : Int) ≤ m) : ∃ X : Nat, (∀ w : World, Calls Try.prog 15 #[.int .i64 m, .bool wide] w fun e w' => e = .returned (.tuple #[.int .u16 X, .bool false]) ∧ Below w.heap.size w w') := by
  by_cases h0 : m < 0
  · exact ⟨0, fun w => ofdig_neg m wide w h0⟩
  · obtain ⟨k, rfl⟩ : ∃ k : Nat, m = k := ⟨m.toNat, by omega⟩
    exact ⟨0, fun w => ofdig_no k wide w (by omega) (by omega)⟩
theorem in_any (m : Int) (wide : Bool) (h0 : 0 ≤ m) (h : m < lim wide) : ∃ X : Nat, (∀ w : World, Calls Try.prog 15 #[.int .i64 m, .bool wide] w fun e w' => e = .returned (.tuple #[.int .u16 X, .bool true]) ∧ Below w.heap.size w w') := by
  obtain ⟨k, rfl⟩ : ∃ k : Nat, m = k := ⟨m.toNat, by omega⟩
  exact ⟨_, fun w => ofdig_yes k wide w (by omega)⟩
theorem walkOut (m n : Int) (carry wide : Bool) (w : World) (hm : m ≤ 9223372036854775807) (hn : n ≤ 9223372036854775807) (h : ¬ (0 ≤ m ∧ m < lim wide ∧ 0 ≤ n ∧ n < lim wide)) :
    Calls Try.prog 5 #[.int .i64 m, .int .i64 n, .bool carry, .bool wide] w fun e w' => e = .returned (.bool true) ∧ Below w.heap.size w w' := by
  have p : ∀ k : Int, k < 0 ∨ (0 ≤ k ∧ k < lim wide) ∨ (lim wide : Int) ≤ k := fun k => by omega
  rcases p m with h1 | h1 | h1 <;> rcases p n with h2 | h2 | h2
  · obtain ⟨X, hX⟩ := of_any m wide hm (.inl h1)
    obtain ⟨Y, hY⟩ := of_any n wide hn (.inl h2)
    cases wide
    · exact out_false_neg_neg m n carry w X Y h1 h2 hX hY
    · exact out_true_neg_neg m n carry w X Y h1 h2 hX hY
  · obtain ⟨X, hX⟩ := of_any m wide hm (.inl h1)
    obtain ⟨Y, hY⟩ := in_any n wide h2.1 h2.2
    cases wide
    · exact out_false_neg_in m n carry w X Y h1 h2 hX hY
    · exact out_true_neg_in m n carry w X Y h1 h2 hX hY
  · obtain ⟨X, hX⟩ := of_any m wide hm (.inl h1)
    obtain ⟨Y, hY⟩ := of_any n wide hn (.inr h2)
    cases wide
    · exact out_false_neg_big m n carry w X Y h1 h2 hX hY
    · exact out_true_neg_big m n carry w X Y h1 h2 hX hY
  · obtain ⟨X, hX⟩ := in_any m wide h1.1 h1.2
    obtain ⟨Y, hY⟩ := of_any n wide hn (.inl h2)
    cases wide
    · exact out_false_in_neg m n carry w X Y h1 h2 hX hY
    · exact out_true_in_neg m n carry w X Y h1 h2 hX hY
  · exact absurd ⟨h1.1, h1.2, h2.1, h2.2⟩ h
  · obtain ⟨X, hX⟩ := in_any m wide h1.1 h1.2
    obtain ⟨Y, hY⟩ := of_any n wide hn (.inr h2)
    cases wide
    · exact out_false_in_big m n carry w X Y h1 h2 hX hY
    · exact out_true_in_big m n carry w X Y h1 h2 hX hY
  · obtain ⟨X, hX⟩ := of_any m wide hm (.inr h1)
    obtain ⟨Y, hY⟩ := of_any n wide hn (.inl h2)
    cases wide
    · exact out_false_big_neg m n carry w X Y h1 h2 hX hY
    · exact out_true_big_neg m n carry w X Y h1 h2 hX hY
  · obtain ⟨X, hX⟩ := of_any m wide hm (.inr h1)
    obtain ⟨Y, hY⟩ := in_any n wide h2.1 h2.2
    cases wide
    · exact out_false_big_in m n carry w X Y h1 h2 hX hY
    · exact out_true_big_in m n carry w X Y h1 h2 hX hY
  · obtain ⟨X, hX⟩ := of_any m wide hm (.inr h1)
    obtain ⟨Y, hY⟩ := of_any n wide hn (.inr h2)
    cases wide
    · exact out_false_big_big m n carry w X Y h1 h2 hX hY
    · exact out_true_big_big m n carry w X Y h1 h2 hX hY
theorem in_false_false (m n : Int) (w : World) (A B x q y r S D : Nat) (h1 : 0 ≤ m) (h2 : m < 100) (h3 : 0 ≤ n) (h4 : n < 100)
    (hX : ∀ w : World, Calls Try.prog 15 #[.int .i64 m, .bool false] w fun e w' => e = .returned (.tuple #[.int .u16 A, .bool true]) ∧ Below w.heap.size w w')
    (hY : ∀ w : World, Calls Try.prog 15 #[.int .i64 n, .bool false] w fun e w' => e = .returned (.tuple #[.int .u16 B, .bool true]) ∧ Below w.heap.size w w')
    (d1 : DoIs 3 A B 8 false x q) (d2 : DoIs 4 A B 8 false y r)
    (g1 : ∀ w : World, Calls Try.prog 13 #[.int .u16 x, .bool false] w fun e w' => e = .returned (.tuple #[.int .i64 S, .bool true]) ∧ Below w.heap.size w w')
    (g2 : ∀ w : World, Calls Try.prog 13 #[.int .u16 y, .bool false] w fun e w' => e = .returned (.tuple #[.int .i64 D, .bool true]) ∧ Below w.heap.size w w')
    (t1 : ((S : Int) != (m + n) % 100) = false) (t2 : ((D : Int) != (m - n - 1 + 100) % 100) = false)
    (t3 : (bits .and .u8 (q : Int) 1 != 0) = decide (100 ≤ m + n)) (t4 : (bits .and .u8 (r : Int) 1 != 0) = decide (0 ≤ m - n - 1)) :
    Calls Try.prog 5 #[.int .i64 m, .int .i64 n, .bool false, .bool false] w fun e w' => e = .returned (.bool true) ∧ Below w.heap.size w w' := by
  have HX := Lib.hid hX
  have HY := Lib.hid hY
  have D1 := Lib.hid d1
  have D2 := Lib.hid d2
  have G1 := Lib.hid g1
  have G2 := Lib.hid g2
  clear hX hY d1 d2 g1 g2
  go_enter Try.func5, Try.ntmps5
  go_wp2_with fail
  refine (HX.out _).mono ?_
  rintro e w1 ⟨rfl, b1⟩
  go_wp2_with fail
  refine (HY.out _).mono ?_
  rintro e w2 ⟨rfl, b2⟩
  have hall := b1.trans (b2.mono b1.size)
  clear b1 b2
  go_wp2_with (go_at_call 18; refine (lim_false _).mono ?_; rintro e w' ⟨rfl, rfl⟩)
  refine (D1.out _).mono ?_
  rintro e w3 ⟨rfl, b3⟩
  replace hall := hall.trans (b3.mono hall.size)
  clear b3
  go_wp2_with fail
  refine (D2.out _).mono ?_
  rintro e w4 ⟨rfl, b4⟩
  replace hall := hall.trans (b4.mono hall.size)
  clear b4
  go_wp2_with fail
  refine (G1.out _).mono ?_
  rintro e w5 ⟨rfl, b5⟩
  replace hall := hall.trans (b5.mono hall.size)
  clear b5
  go_wp2_with fail
  refine (G2.out _).mono ?_
  rintro e w6 ⟨rfl, b6⟩
  replace hall := hall.trans (b6.mono hall.size)
  clear b6
  go_wp2_with (go_at_call 18; refine (lim_false _).mono ?_; rintro e w' ⟨rfl, rfl⟩)
  refine (awake_any _).mono ?_
  rintro e w7 ⟨rfl, b7⟩
  go_wp2_with fail
  go_ret
  exact ⟨rfl, hall.trans (b7.mono hall.size)⟩
theorem in_false_true (m n : Int) (w : World) (A B x q y r S D : Nat) (h1 : 0 ≤ m) (h2 : m < 100) (h3 : 0 ≤ n) (h4 : n < 100)
    (hX : ∀ w : World, Calls Try.prog 15 #[.int .i64 m, .bool false] w fun e w' => e = .returned (.tuple #[.int .u16 A, .bool true]) ∧ Below w.heap.size w w')
    (hY : ∀ w : World, Calls Try.prog 15 #[.int .i64 n, .bool false] w fun e w' => e = .returned (.tuple #[.int .u16 B, .bool true]) ∧ Below w.heap.size w w')
    (d1 : DoIs 3 A B 9 false x q) (d2 : DoIs 4 A B 9 false y r)
    (g1 : ∀ w : World, Calls Try.prog 13 #[.int .u16 x, .bool false] w fun e w' => e = .returned (.tuple #[.int .i64 S, .bool true]) ∧ Below w.heap.size w w')
    (g2 : ∀ w : World, Calls Try.prog 13 #[.int .u16 y, .bool false] w fun e w' => e = .returned (.tuple #[.int .i64 D, .bool true]) ∧ Below w.heap.size w w')
    (t1 : ((S : Int) != (m + n + 1) % 100) = false) (t2 : ((D : Int) != (m - n - 1 + 1 + 100) % 100) = false)
    (t3 : (bits .and .u8 (q : Int) 1 != 0) = decide (100 ≤ m + n + 1)) (t4 : (bits .and .u8 (r : Int) 1 != 0) = decide (0 ≤ m - n - 1 + 1)) :
    Calls Try.prog 5 #[.int .i64 m, .int .i64 n, .bool true, .bool false] w fun e w' => e = .returned (.bool true) ∧ Below w.heap.size w w' := by
  have HX := Lib.hid hX
  have HY := Lib.hid hY
  have D1 := Lib.hid d1
  have D2 := Lib.hid d2
  have G1 := Lib.hid g1
  have G2 := Lib.hid g2
  clear hX hY d1 d2 g1 g2
  go_enter Try.func5, Try.ntmps5
  go_wp2_with fail
  refine (HX.out _).mono ?_
  rintro e w1 ⟨rfl, b1⟩
  go_wp2_with fail
  refine (HY.out _).mono ?_
  rintro e w2 ⟨rfl, b2⟩
  have hall := b1.trans (b2.mono b1.size)
  clear b1 b2
  go_wp2_with (go_at_call 18; refine (lim_false _).mono ?_; rintro e w' ⟨rfl, rfl⟩)
  refine (D1.out _).mono ?_
  rintro e w3 ⟨rfl, b3⟩
  replace hall := hall.trans (b3.mono hall.size)
  clear b3
  go_wp2_with fail
  refine (D2.out _).mono ?_
  rintro e w4 ⟨rfl, b4⟩
  replace hall := hall.trans (b4.mono hall.size)
  clear b4
  go_wp2_with fail
  refine (G1.out _).mono ?_
  rintro e w5 ⟨rfl, b5⟩
  replace hall := hall.trans (b5.mono hall.size)
  clear b5
  go_wp2_with fail
  refine (G2.out _).mono ?_
  rintro e w6 ⟨rfl, b6⟩
  replace hall := hall.trans (b6.mono hall.size)
  clear b6
  go_wp2_with (go_at_call 18; refine (lim_false _).mono ?_; rintro e w' ⟨rfl, rfl⟩)
  refine (awake_any _).mono ?_
  rintro e w7 ⟨rfl, b7⟩
  go_wp2_with fail
  go_ret
  exact ⟨rfl, hall.trans (b7.mono hall.size)⟩
theorem in_true_false (m n : Int) (w : World) (A B x q y r S D : Nat) (h1 : 0 ≤ m) (h2 : m < 10000) (h3 : 0 ≤ n) (h4 : n < 10000)
    (hX : ∀ w : World, Calls Try.prog 15 #[.int .i64 m, .bool true] w fun e w' => e = .returned (.tuple #[.int .u16 A, .bool true]) ∧ Below w.heap.size w w')
    (hY : ∀ w : World, Calls Try.prog 15 #[.int .i64 n, .bool true] w fun e w' => e = .returned (.tuple #[.int .u16 B, .bool true]) ∧ Below w.heap.size w w')
    (d1 : DoIs 3 A B 8 true x q) (d2 : DoIs 4 A B 8 true y r)
    (g1 : ∀ w : World, Calls Try.prog 13 #[.int .u16 x, .bool true] w fun e w' => e = .returned (.tuple #[.int .i64 S, .bool true]) ∧ Below w.heap.size w w')
    (g2 : ∀ w : World, Calls Try.prog 13 #[.int .u16 y, .bool true] w fun e w' => e = .returned (.tuple #[.int .i64 D, .bool true]) ∧ Below w.heap.size w w')
    (t1 : ((S : Int) != (m + n) % 10000) = false) (t2 : ((D : Int) != (m - n - 1 + 10000) % 10000) = false)
    (t3 : (bits .and .u8 (q : Int) 1 != 0) = decide (10000 ≤ m + n)) (t4 : (bits .and .u8 (r : Int) 1 != 0) = decide (0 ≤ m - n - 1)) :
    Calls Try.prog 5 #[.int .i64 m, .int .i64 n, .bool false, .bool true] w fun e w' => e = .returned (.bool true) ∧ Below w.heap.size w w' := by
  have HX := Lib.hid hX
  have HY := Lib.hid hY
  have D1 := Lib.hid d1
  have D2 := Lib.hid d2
  have G1 := Lib.hid g1
  have G2 := Lib.hid g2
  clear hX hY d1 d2 g1 g2
  go_enter Try.func5, Try.ntmps5
  go_wp2_with fail
  refine (HX.out _).mono ?_
  rintro e w1 ⟨rfl, b1⟩
  go_wp2_with fail
  refine (HY.out _).mono ?_
  rintro e w2 ⟨rfl, b2⟩
  have hall := b1.trans (b2.mono b1.size)
  clear b1 b2
  go_wp2_with (go_at_call 18; refine (lim_true _).mono ?_; rintro e w' ⟨rfl, rfl⟩)
  refine (D1.out _).mono ?_
  rintro e w3 ⟨rfl, b3⟩
  replace hall := hall.trans (b3.mono hall.size)
  clear b3
  go_wp2_with fail
  refine (D2.out _).mono ?_
  rintro e w4 ⟨rfl, b4⟩
  replace hall := hall.trans (b4.mono hall.size)
  clear b4
  go_wp2_with fail
  refine (G1.out _).mono ?_
  rintro e w5 ⟨rfl, b5⟩
  replace hall := hall.trans (b5.mono hall.size)
  clear b5
  go_wp2_with fail
  refine (G2.out _).mono ?_
  rintro e w6 ⟨rfl, b6⟩
  replace hall := hall.trans (b6.mono hall.size)
  clear b6
  go_wp2_with (go_at_call 18; refine (lim_true _).mono ?_; rintro e w' ⟨rfl, rfl⟩)
  refine (awake_any _).mono ?_
  rintro e w7 ⟨rfl, b7⟩
  go_wp2_with fail
  go_ret
  exact ⟨rfl, hall.trans (b7.mono hall.size)⟩
theorem in_true_true (m n : Int) (w : World) (A B x q y r S D : Nat) (h1 : 0 ≤ m) (h2 : m < 10000) (h3 : 0 ≤ n) (h4 : n < 10000)
    (hX : ∀ w : World, Calls Try.prog 15 #[.int .i64 m, .bool true] w fun e w' => e = .returned (.tuple #[.int .u16 A, .bool true]) ∧ Below w.heap.size w w')
    (hY : ∀ w : World, Calls Try.prog 15 #[.int .i64 n, .bool true] w fun e w' => e = .returned (.tuple #[.int .u16 B, .bool true]) ∧ Below w.heap.size w w')
    (d1 : DoIs 3 A B 9 true x q) (d2 : DoIs 4 A B 9 true y r)
    (g1 : ∀ w : World, Calls Try.prog 13 #[.int .u16 x, .bool true] w fun e w' => e = .returned (.tuple #[.int .i64 S, .bool true]) ∧ Below w.heap.size w w')
    (g2 : ∀ w : World, Calls Try.prog 13 #[.int .u16 y, .bool true] w fun e w' => e = .returned (.tuple #[.int .i64 D, .bool true]) ∧ Below w.heap.size w w')
    (t1 : ((S : Int) != (m + n + 1) % 10000) = false) (t2 : ((D : Int) != (m - n - 1 + 1 + 10000) % 10000) = false)
    (t3 : (bits .and .u8 (q : Int) 1 != 0) = decide (10000 ≤ m + n + 1)) (t4 : (bits .and .u8 (r : Int) 1 != 0) = decide (0 ≤ m - n - 1 + 1)) :
    Calls Try.prog 5 #[.int .i64 m, .int .i64 n, .bool true, .bool true] w fun e w' => e = .returned (.bool true) ∧ Below w.heap.size w w' := by
  have HX := Lib.hid hX
  have HY := Lib.hid hY
  have D1 := Lib.hid d1
  have D2 := Lib.hid d2
  have G1 := Lib.hid g1
  have G2 := Lib.hid g2
  clear hX hY d1 d2 g1 g2
  go_enter Try.func5, Try.ntmps5
  go_wp2_with fail
  refine (HX.out _).mono ?_
  rintro e w1 ⟨rfl, b1⟩
  go_wp2_with fail
  refine (HY.out _).mono ?_
  rintro e w2 ⟨rfl, b2⟩
  have hall := b1.trans (b2.mono b1.size)
  clear b1 b2
  go_wp2_with (go_at_call 18; refine (lim_true _).mono ?_; rintro e w' ⟨rfl, rfl⟩)
  refine (D1.out _).mono ?_
  rintro e w3 ⟨rfl, b3⟩
  replace hall := hall.trans (b3.mono hall.size)
  clear b3
  go_wp2_with fail
  refine (D2.out _).mono ?_
  rintro e w4 ⟨rfl, b4⟩
  replace hall := hall.trans (b4.mono hall.size)
  clear b4
  go_wp2_with fail
  refine (G1.out _).mono ?_
  rintro e w5 ⟨rfl, b5⟩
  replace hall := hall.trans (b5.mono hall.size)
  clear b5
  go_wp2_with fail
  refine (G2.out _).mono ?_
  rintro e w6 ⟨rfl, b6⟩
  replace hall := hall.trans (b6.mono hall.size)
  clear b6
  go_wp2_with (go_at_call 18; refine (lim_true _).mono ?_; rintro e w' ⟨rfl, rfl⟩)
  refine (awake_any _).mono ?_
  rintro e w7 ⟨rfl, b7⟩
  go_wp2_with fail
  go_ret
  exact ⟨rfl, hall.trans (b7.mono hall.size)⟩
end Go.Proofs.Ytnjbgnkbncjnlaa.aluTens
