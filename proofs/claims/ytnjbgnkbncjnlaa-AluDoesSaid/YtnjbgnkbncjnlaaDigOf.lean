/-
  alu.Digits.
-/
import Derived.Test.YtnjbgnkbncjnlaaHalves
namespace Go.Proofs.Ytnjbgnkbncjnlaa
open Go.RowKit Go.Shelf
set_option maxRecDepth 100000
set_option maxHeartbeats 1000000
set_option linter.unusedVariables false
theorem ret_ok {a b : Int} {t : Bool} (h : a = b) (_ : t = t) : Ending.returned (.tuple #[.int .i64 a, .bool t]) = .returned (.tuple #[.int .i64 b, .bool t]) := by rw [h]
theorem dig_yes2 (x d0 d1 d2 d3 : Nat) (w : World) (hx : x < 256) (h0 : x % 16 = d0) (h1 : x / 16 % 16 = d1) (h2 : x / 256 % 16 = d2) (h3 : x / 4096 % 16 = d3) (k0 : d0 ≤ 9) (k1 : d1 ≤ 9) :
    Calls Try.prog 13 #[.int .u16 x, .bool false] w fun e w' => e = .returned (.tuple #[.int .i64 (10 * d1 + d0 : Nat), .bool true]) ∧ Below w.heap.size w w' := by
  have T1 : ((x : Int) / 256 != 0) = false := by rw [bne_eq_false_iff_eq]; omega
  have hx2 : x < 65536 := by omega
  have q0 : d0 < 16 := by omega
  have q1 : d1 < 16 := by omega
  have A0 := Lib.hid h0
  have A1 := Lib.hid h1
  have A2 := Lib.hid h2
  have A3 := Lib.hid h3
  clear h0 h1 h2 h3
  go_enter Try.func13, Try.ntmps13
  go_wp2_with fail
  refine (count_any false _).mono ?_
  rintro e w1 ⟨rfl, rfl⟩
  go_wp2_with fail
  refine (apart_at x d0 d1 d2 d3 _ hx2 A0.out A1.out A2.out A3.out).mono ?_
  rintro e w1 ⟨rfl, b1⟩
  go_wp2_with fail
  refine wp_loop_rounds 3 ?_
  iterate 3
    rw [rounds_succ]
    go_wp2_with fail
  go_ret2
  exact ⟨ret_ok (by omega) rfl, b1.alloc b1.size _⟩
theorem dig_no2_1 (x d0 d1 d2 d3 : Nat) (w : World) (hx : x < 256) (h0 : x % 16 = d0) (h1 : x / 16 % 16 = d1) (h2 : x / 256 % 16 = d2) (h3 : x / 4096 % 16 = d3)  (k1 : 9 < d1) :
    Calls Try.prog 13 #[.int .u16 x, .bool false] w fun e w' => e = .returned (.tuple #[.int .i64 0, .bool false]) ∧ Below w.heap.size w w' := by
  have T1 : ((x : Int) / 256 != 0) = false := by rw [bne_eq_false_iff_eq]; omega
  have hx2 : x < 65536 := by omega
  have q0 : d0 < 16 := by omega
  have q1 : d1 < 16 := by omega
  have A0 := Lib.hid h0
  have A1 := Lib.hid h1
  have A2 := Lib.hid h2
  have A3 := Lib.hid h3
  clear h0 h1 h2 h3
  go_enter Try.func13, Try.ntmps13
  go_wp2_with fail
  refine (count_any false _).mono ?_
  rintro e w1 ⟨rfl, rfl⟩
  go_wp2_with fail
  refine (apart_at x d0 d1 d2 d3 _ hx2 A0.out A1.out A2.out A3.out).mono ?_
  rintro e w1 ⟨rfl, b1⟩
  go_wp2_with fail
  refine wp_loop_rounds 3 ?_
  iterate 1
    rw [rounds_succ]
    go_wp2_with fail
  go_ret2
  exact ⟨rfl, b1.alloc b1.size _⟩
theorem dig_no2_0 (x d0 d1 d2 d3 : Nat) (w : World) (hx : x < 256) (h0 : x % 16 = d0) (h1 : x / 16 % 16 = d1) (h2 : x / 256 % 16 = d2) (h3 : x / 4096 % 16 = d3) (k1 : d1 ≤ 9) (k0 : 9 < d0) :
    Calls Try.prog 13 #[.int .u16 x, .bool false] w fun e w' => e = .returned (.tuple #[.int .i64 0, .bool false]) ∧ Below w.heap.size w w' := by
  have T1 : ((x : Int) / 256 != 0) = false := by rw [bne_eq_false_iff_eq]; omega
  have hx2 : x < 65536 := by omega
  have q0 : d0 < 16 := by omega
  have q1 : d1 < 16 := by omega
  have A0 := Lib.hid h0
  have A1 := Lib.hid h1
  have A2 := Lib.hid h2
  have A3 := Lib.hid h3
  clear h0 h1 h2 h3
  go_enter Try.func13, Try.ntmps13
  go_wp2_with fail
  refine (count_any false _).mono ?_
  rintro e w1 ⟨rfl, rfl⟩
  go_wp2_with fail
  refine (apart_at x d0 d1 d2 d3 _ hx2 A0.out A1.out A2.out A3.out).mono ?_
  rintro e w1 ⟨rfl, b1⟩
  go_wp2_with fail
  refine wp_loop_rounds 3 ?_
  iterate 2
    rw [rounds_succ]
    go_wp2_with fail
  go_ret2
  exact ⟨rfl, b1.alloc b1.size _⟩
theorem dig_yes4 (x d0 d1 d2 d3 : Nat) (w : World) (hx : x < 65536) (h0 : x % 16 = d0) (h1 : x / 16 % 16 = d1) (h2 : x / 256 % 16 = d2) (h3 : x / 4096 % 16 = d3) (k0 : d0 ≤ 9) (k1 : d1 ≤ 9) (k2 : d2 ≤ 9) (k3 : d3 ≤ 9) :
    Calls Try.prog 13 #[.int .u16 x, .bool true] w fun e w' => e = .returned (.tuple #[.int .i64 (1000 * d3 + 100 * d2 + 10 * d1 + d0 : Nat), .bool true]) ∧ Below w.heap.size w w' := by
  have T1 : ((x : Int) / 65536 != 0) = false := by rw [bne_eq_false_iff_eq]; omega
  have hx2 : x < 65536 := by omega
  have q0 : d0 < 16 := by omega
  have q1 : d1 < 16 := by omega
  have q2 : d2 < 16 := by omega
  have q3 : d3 < 16 := by omega
  have A0 := Lib.hid h0
  have A1 := Lib.hid h1
  have A2 := Lib.hid h2
  have A3 := Lib.hid h3
  clear h0 h1 h2 h3
  go_enter Try.func13, Try.ntmps13
  go_wp2_with fail
  refine (count_any true _).mono ?_
  rintro e w1 ⟨rfl, rfl⟩
  go_wp2_with fail
  refine (apart_at x d0 d1 d2 d3 _ hx2 A0.out A1.out A2.out A3.out).mono ?_
  rintro e w1 ⟨rfl, b1⟩
  go_wp2_with fail
  refine wp_loop_rounds 5 ?_
  iterate 5
    rw [rounds_succ]
    go_wp2_with fail
  go_ret2
  exact ⟨ret_ok (by omega) rfl, b1.alloc b1.size _⟩
theorem dig_no4_3 (x d0 d1 d2 d3 : Nat) (w : World) (hx : x < 65536) (h0 : x % 16 = d0) (h1 : x / 16 % 16 = d1) (h2 : x / 256 % 16 = d2) (h3 : x / 4096 % 16 = d3)  (k3 : 9 < d3) :
    Calls Try.prog 13 #[.int .u16 x, .bool true] w fun e w' => e = .returned (.tuple #[.int .i64 0, .bool false]) ∧ Below w.heap.size w w' := by
  have T1 : ((x : Int) / 65536 != 0) = false := by rw [bne_eq_false_iff_eq]; omega
  have hx2 : x < 65536 := by omega
  have q0 : d0 < 16 := by omega
  have q1 : d1 < 16 := by omega
  have q2 : d2 < 16 := by omega
  have q3 : d3 < 16 := by omega
  have A0 := Lib.hid h0
  have A1 := Lib.hid h1
  have A2 := Lib.hid h2
  have A3 := Lib.hid h3
  clear h0 h1 h2 h3
  go_enter Try.func13, Try.ntmps13
  go_wp2_with fail
  refine (count_any true _).mono ?_
  rintro e w1 ⟨rfl, rfl⟩
  go_wp2_with fail
  refine (apart_at x d0 d1 d2 d3 _ hx2 A0.out A1.out A2.out A3.out).mono ?_
  rintro e w1 ⟨rfl, b1⟩
  go_wp2_with fail
  refine wp_loop_rounds 5 ?_
  iterate 1
    rw [rounds_succ]
    go_wp2_with fail
  go_ret2
  exact ⟨rfl, b1.alloc b1.size _⟩
theorem dig_no4_2 (x d0 d1 d2 d3 : Nat) (w : World) (hx : x < 65536) (h0 : x % 16 = d0) (h1 : x / 16 % 16 = d1) (h2 : x / 256 % 16 = d2) (h3 : x / 4096 % 16 = d3) (k3 : d3 ≤ 9) (k2 : 9 < d2) :
    Calls Try.prog 13 #[.int .u16 x, .bool true] w fun e w' => e = .returned (.tuple #[.int .i64 0, .bool false]) ∧ Below w.heap.size w w' := by
  have T1 : ((x : Int) / 65536 != 0) = false := by rw [bne_eq_false_iff_eq]; omega
  have hx2 : x < 65536 := by omega
  have q0 : d0 < 16 := by omega
  have q1 : d1 < 16 := by omega
  have q2 : d2 < 16 := by omega
  have q3 : d3 < 16 := by omega
  have A0 := Lib.hid h0
  have A1 := Lib.hid h1
  have A2 := Lib.hid h2
  have A3 := Lib.hid h3
  clear h0 h1 h2 h3
  go_enter Try.func13, Try.ntmps13
  go_wp2_with fail
  refine (count_any true _).mono ?_
  rintro e w1 ⟨rfl, rfl⟩
  go_wp2_with fail
  refine (apart_at x d0 d1 d2 d3 _ hx2 A0.out A1.out A2.out A3.out).mono ?_
  rintro e w1 ⟨rfl, b1⟩
  go_wp2_with fail
  refine wp_loop_rounds 5 ?_
  iterate 2
    rw [rounds_succ]
    go_wp2_with fail
  go_ret2
  exact ⟨rfl, b1.alloc b1.size _⟩
theorem dig_no4_1 (x d0 d1 d2 d3 : Nat) (w : World) (hx : x < 65536) (h0 : x % 16 = d0) (h1 : x / 16 % 16 = d1) (h2 : x / 256 % 16 = d2) (h3 : x / 4096 % 16 = d3) (k2 : d2 ≤ 9) (k3 : d3 ≤ 9) (k1 : 9 < d1) :
    Calls Try.prog 13 #[.int .u16 x, .bool true] w fun e w' => e = .returned (.tuple #[.int .i64 0, .bool false]) ∧ Below w.heap.size w w' := by
  have T1 : ((x : Int) / 65536 != 0) = false := by rw [bne_eq_false_iff_eq]; omega
  have hx2 : x < 65536 := by omega
  have q0 : d0 < 16 := by omega
  have q1 : d1 < 16 := by omega
  have q2 : d2 < 16 := by omega
  have q3 : d3 < 16 := by omega
  have A0 := Lib.hid h0
  have A1 := Lib.hid h1
  have A2 := Lib.hid h2
  have A3 := Lib.hid h3
  clear h0 h1 h2 h3
  go_enter Try.func13, Try.ntmps13
  go_wp2_with fail
  refine (count_any true _).mono ?_
  rintro e w1 ⟨rfl, rfl⟩
  go_wp2_with fail
  refine (apart_at x d0 d1 d2 d3 _ hx2 A0.out A1.out A2.out A3.out).mono ?_
  rintro e w1 ⟨rfl, b1⟩
  go_wp2_with fail
  refine wp_loop_rounds 5 ?_
  iterate 3
    rw [rounds_succ]
    go_wp2_with fail
  go_ret2
  exact ⟨rfl, b1.alloc b1.size _⟩
theorem dig_no4_0 (x d0 d1 d2 d3 : Nat) (w : World) (hx : x < 65536) (h0 : x % 16 = d0) (h1 : x / 16 % 16 = d1) (h2 : x / 256 % 16 = d2) (h3 : x / 4096 % 16 = d3) (k1 : d1 ≤ 9) (k2 : d2 ≤ 9) (k3 : d3 ≤ 9) (k0 : 9 < d0) :
    Calls Try.prog 13 #[.int .u16 x, .bool true] w fun e w' => e = .returned (.tuple #[.int .i64 0, .bool false]) ∧ Below w.heap.size w w' := by
  have T1 : ((x : Int) / 65536 != 0) = false := by rw [bne_eq_false_iff_eq]; omega
  have hx2 : x < 65536 := by omega
  have q0 : d0 < 16 := by omega
  have q1 : d1 < 16 := by omega
  have q2 : d2 < 16 := by omega
  have q3 : d3 < 16 := by omega
  have A0 := Lib.hid h0
  have A1 := Lib.hid h1
  have A2 := Lib.hid h2
  have A3 := Lib.hid h3
  clear h0 h1 h2 h3
  go_enter Try.func13, Try.ntmps13
  go_wp2_with fail
  refine (count_any true _).mono ?_
  rintro e w1 ⟨rfl, rfl⟩
  go_wp2_with fail
  refine (apart_at x d0 d1 d2 d3 _ hx2 A0.out A1.out A2.out A3.out).mono ?_
  rintro e w1 ⟨rfl, b1⟩
  go_wp2_with fail
  refine wp_loop_rounds 5 ?_
  iterate 4
    rw [rounds_succ]
    go_wp2_with fail
  go_ret2
  exact ⟨rfl, b1.alloc b1.size _⟩
theorem dig_long (x : Nat) (w : World) (hx : 256 ≤ x) :
    Calls Try.prog 13 #[.int .u16 x, .bool false] w fun e w' => e = .returned (.tuple #[.int .i64 0, .bool false]) ∧ Below w.heap.size w w' := by
  have T1 : ((x : Int) / 256 != 0) = true := by rw [bne_iff_ne]; omega
  go_enter Try.func13, Try.ntmps13
  go_wp2_with fail
  refine (count_any false _).mono ?_
  rintro e w1 ⟨rfl, rfl⟩
  go_wp2_with fail
  go_ret2
  exact ⟨rfl, Below.refl _ _⟩
/-- Is a number decimal, of this width; and which number its digits say. -/
def decB (wide : Bool) (x : Nat) : Bool := decide (x < sz wide) && decide (x % 16 ≤ 9) && decide (x / 16 % 16 ≤ 9) && decide (x / 256 % 16 ≤ 9) && decide (x / 4096 % 16 ≤ 9)
def tens (x : Nat) : Nat := 1000 * (x / 4096 % 16) + 100 * (x / 256 % 16) + 10 * (x / 16 % 16) + x % 16
def digV (wide : Bool) (x : Nat) : Nat := if decB wide x then tens x else 0
theorem dec_false {wide : Bool} {x : Nat} (h : ¬ (x < sz wide ∧ x % 16 ≤ 9 ∧ x / 16 % 16 ≤ 9 ∧ x / 256 % 16 ≤ 9 ∧ x / 4096 % 16 ≤ 9)) : decB wide x = false ∧ digV wide x = 0 := by
  have e : decB wide x = false := by
    cases hd : decB wide x
    · rfl
    · refine absurd ?_ h
      simpa [decB, and_assoc] using hd
  exact ⟨e, by unfold digV; rw [e]; rfl⟩
theorem dec_true {wide : Bool} {x : Nat} (h : x < sz wide ∧ x % 16 ≤ 9 ∧ x / 16 % 16 ≤ 9 ∧ x / 256 % 16 ≤ 9 ∧ x / 4096 % 16 ≤ 9) : decB wide x = true ∧ digV wide x = tens x := by
  have e : decB wide x = true := by simpa [decB, and_assoc] using h
  exact ⟨e, by unfold digV; rw [e]; rfl⟩
theorem digits_any (x : Nat) (wide : Bool) (w : World) (hx : x < 65536) :
    Calls Try.prog 13 #[.int .u16 x, .bool wide] w fun e w' => e = .returned (.tuple #[.int .i64 (digV wide x : Nat), .bool (decB wide x)]) ∧ Below w.heap.size w w' := by
  cases wide
  · by_cases hl : x < 256
    · have z2 : x / 256 % 16 = 0 := by omega
      have z3 : x / 4096 % 16 = 0 := by omega
      by_cases k1 : x / 16 % 16 ≤ 9
      · by_cases k0 : x % 16 ≤ 9
        · obtain ⟨e1, e2⟩ := dec_true (wide := false) (x := x) ⟨hl, k0, k1, by omega, by omega⟩
          rw [e1, e2, show tens x = 10 * (x / 16 % 16) + x % 16 by unfold tens; omega]
          exact dig_yes2 x _ _ _ _ w hl rfl rfl rfl rfl k0 k1
        · obtain ⟨e1, e2⟩ := dec_false (wide := false) (x := x) (fun h => k0 h.2.1)
          rw [e1, e2]
          exact dig_no2_0 x _ _ _ _ w hl rfl rfl rfl rfl k1 (by omega)
      · obtain ⟨e1, e2⟩ := dec_false (wide := false) (x := x) (fun h => k1 h.2.2.1)
        rw [e1, e2]
        exact dig_no2_1 x _ _ _ _ w hl rfl rfl rfl rfl (by omega)
    · obtain ⟨e1, e2⟩ := dec_false (wide := false) (x := x) (fun h => hl h.1)
      rw [e1, e2]
      exact dig_long x w (by omega)
  · by_cases k3 : x / 4096 % 16 ≤ 9
    · by_cases k2 : x / 256 % 16 ≤ 9
      · by_cases k1 : x / 16 % 16 ≤ 9
        · by_cases k0 : x % 16 ≤ 9
          · obtain ⟨e1, e2⟩ := dec_true (wide := true) (x := x) ⟨hx, k0, k1, k2, k3⟩
            rw [e1, e2]
            exact dig_yes4 x _ _ _ _ w hx rfl rfl rfl rfl k0 k1 k2 k3
          · obtain ⟨e1, e2⟩ := dec_false (wide := true) (x := x) (fun h => k0 h.2.1)
            rw [e1, e2]
            exact dig_no4_0 x _ _ _ _ w hx rfl rfl rfl rfl k1 k2 k3 (by omega)
        · obtain ⟨e1, e2⟩ := dec_false (wide := true) (x := x) (fun h => k1 h.2.2.1)
          rw [e1, e2]
          exact dig_no4_1 x _ _ _ _ w hx rfl rfl rfl rfl k2 k3 (by omega)
      · obtain ⟨e1, e2⟩ := dec_false (wide := true) (x := x) (fun h => k2 h.2.2.2.1)
        rw [e1, e2]
        exact dig_no4_2 x _ _ _ _ w hx rfl rfl rfl rfl k3 (by omega)
    · obtain ⟨e1, e2⟩ := dec_false (wide := true) (x := x) (fun h => k3 h.2.2.2.2)
      rw [e1, e2]
      exact dig_no4_3 x _ _ _ _ w hx rfl rfl rfl rfl (by omega)
end Go.Proofs.Ytnjbgnkbncjnlaa
