/-
  AluDigits: the walk.
-/
import Derived.Test.YtnjbgnkbncjnlaaROf
namespace Go.Proofs.Ytnjbgnkbncjnlaa.aluDigits
open Go.RowKit Go.Shelf
set_option maxRecDepth 100000
set_option maxHeartbeats 1000000
set_option linter.unusedVariables false
theorem both (x : Nat) (n : Int) (wide : Bool) (hx : x < 65536) (h1 : -9223372036854775808 ≤ n) (h2 : n ≤ 9223372036854775807) : ∃ (v y : Nat) (b c : Bool),
    (∀ w, Calls Try.prog 12 #[.int .u16 x, .bool wide] w fun e w' => e = .returned (.tuple #[.int .i64 v, .bool b]) ∧ w = w') ∧
    (∀ w, Calls Try.prog 13 #[.int .u16 x, .bool wide] w fun e w' => e = .returned (.tuple #[.int .i64 v, .bool b]) ∧ Below w.heap.size w w') ∧
    (∀ w, Calls Try.prog 14 #[.int .i64 n, .bool wide] w fun e w' => e = .returned (.tuple #[.int .u16 y, .bool c]) ∧ w = w') ∧
    (∀ w, Calls Try.prog 15 #[.int .i64 n, .bool wide] w fun e w' => e = .returned (.tuple #[.int .u16 y, .bool c]) ∧ Below w.heap.size w w') :=
  ⟨_, _, _, _, fun w => rdigits_any x wide w hx, fun w => digits_any x wide w hx, fun w => rofdigits_any n wide w h1 h2, fun w => ofdigits_any n wide w h2⟩
theorem walkN (x : Nat) (n : Int) (b : Nat) (hx : x < 65536) (h1 : -9223372036854775808 ≤ n) (h2 : n ≤ 9223372036854775807) (hb : b < 256) (w : World) :
    Calls Try.prog 4 #[.int .u16 x, .int .i64 n, .int .u8 b] w fun e w' => e = .returned (.bool true) ∧ Below w.heap.size w w' := by
  obtain ⟨v0, y0, b0, c0, k1, k2, k3, k4⟩ := both x n false hx h1 h2
  obtain ⟨v1, y1, b1, c1, m1, m2, m3, m4⟩ := both x n true hx h1 h2
  obtain ⟨X, e1, e2⟩ := ext_both b hb
  have K1 := Lib.hid k1
  have K2 := Lib.hid k2
  have K3 := Lib.hid k3
  have K4 := Lib.hid k4
  have M1 := Lib.hid m1
  have M2 := Lib.hid m2
  have M3 := Lib.hid m3
  have M4 := Lib.hid m4
  have E1 := Lib.hid e1
  have E2 := Lib.hid e2
  clear k1 k2 k3 k4 m1 m2 m3 m4 e1 e2
  go_enter Try.func4, Try.ntmps4
  go_wp2_with fail
  refine wp_loop_rounds 3 ?_
  rw [rounds_succ]
  go_wp2_with fail
  refine (K1.out _).mono ?_
  rintro e w' ⟨rfl, rfl⟩
  go_wp2_with fail
  refine (K2.out _).mono ?_
  rintro e wa ⟨rfl, ba⟩
  go_wp2_with fail
  refine (K3.out _).mono ?_
  rintro e w' ⟨rfl, rfl⟩
  go_wp2_with fail
  refine (K4.out _).mono ?_
  rintro e wb ⟨rfl, bb⟩
  have hall := ba.trans (bb.mono ba.size)
  clear ba bb
  go_wp2_with fail
  rw [rounds_succ]
  go_wp2_with fail
  refine (M1.out _).mono ?_
  rintro e w' ⟨rfl, rfl⟩
  go_wp2_with fail
  refine (M2.out _).mono ?_
  rintro e wc ⟨rfl, bc⟩
  replace hall := hall.trans (bc.mono hall.size)
  clear bc
  go_wp2_with fail
  refine (M3.out _).mono ?_
  rintro e w' ⟨rfl, rfl⟩
  go_wp2_with fail
  refine (M4.out _).mono ?_
  rintro e wd ⟨rfl, bd⟩
  replace hall := hall.trans (bd.mono hall.size)
  clear bd
  go_wp2_with fail
  rw [rounds_succ]
  go_wp2_with fail
  refine (E1.out _).mono ?_
  rintro e w' ⟨rfl, rfl⟩
  go_wp2_with fail
  refine (E2.out _).mono ?_
  rintro e w' ⟨rfl, rfl⟩
  go_wp2_with fail
  refine (awake_any _).mono ?_
  rintro e w7 ⟨rfl, b7⟩
  go_wp2_with fail
  go_ret
  exact ⟨rfl, hall.trans (b7.mono hall.size)⟩
theorem walk (a0 : Int) (a1 : Int) (a2 : Int) (w0 : (Lit.int .u16 a0).wf = true) (w1 : (Lit.int .i64 a1).wf = true) (w2 : (Lit.int .u8 a2).wf = true) (w : World) :
    Calls Try.prog 4 #[.int .u16 a0, .int .i64 a1, .int .u8 a2] w fun e w' => e = .returned (.bool true) ∧ Below w.heap.size w w' := by
  obtain ⟨a, rfl, ha⟩ := nat16 w0
  obtain ⟨b, rfl, hb⟩ := nat8 w2
  have h1 := Go.bounds_i64 w1
  exact walkN a a1 b ha h1.1 h1.2 hb w
end Go.Proofs.Ytnjbgnkbncjnlaa.aluDigits
