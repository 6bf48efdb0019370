/-
  AluDoes: the walk.
-/
import Derived.Test.YtnjbgnkbncjnlaaSameAF
import Derived.Test.YtnjbgnkbncjnlaaSameAT
import Derived.Test.YtnjbgnkbncjnlaaSameBF
import Derived.Test.YtnjbgnkbncjnlaaSameBT
namespace Go.Proofs.Ytnjbgnkbncjnlaa.aluDoes
open Go.RowKit Go.Shelf
set_option maxRecDepth 100000
set_option maxHeartbeats 1000000
set_option linter.unusedVariables false
theorem ref_none (op x y p : Nat) (wide : Bool) (w : World) (hop : 16 < op) :
    Calls Try.prog 9 #[.int .u8 op, .int .u16 x, .int .u16 y, .int .u8 p, .bool wide] w fun e w' => e = .returned (.tuple #[.int .u16 0, .int .u8 0, .bool false]) ∧ w = w' := by
  have T1 : decide ((16 : Int) < op) = true := decide_eq_true (by omega)
  go_enter Try.func9, Try.ntmps9
  go_wp2_with fail
  go_ret3
  exact ⟨rfl, rfl⟩
theorem same_all (op x y p : Nat) (wide : Bool) (hx : x < 65536) (hy : y < 65536) (hp : p < 256) (hop : op ≤ 16) : Same op x y p wide := by
  obtain rfl | rfl | rfl | rfl | rfl | rfl | rfl | rfl | rfl | rfl | rfl | rfl | rfl | rfl | rfl | rfl | rfl : op = 0 ∨ op = 1 ∨ op = 2 ∨ op = 3 ∨ op = 4 ∨ op = 5 ∨ op = 6 ∨ op = 7 ∨ op = 8 ∨ op = 9 ∨ op = 10 ∨ op = 11 ∨ op = 12 ∨ op = 13 ∨ op = 14 ∨ op = 15 ∨ op = 16 := by omega
  · cases wide
    · exact same_false_0 x y p hx hy hp
    · exact same_true_0 x y p hx hy hp
  · cases wide
    · exact same_false_1 x y p hx hy hp
    · exact same_true_1 x y p hx hy hp
  · cases wide
    · exact same_false_2 x y p hx hy hp
    · exact same_true_2 x y p hx hy hp
  · cases hd : (p &&& 8 != 0) <;> cases wide
    · exact same_false_3B x y p hx hy hp hd
    · exact same_true_3B x y p hx hy hp hd
    · exact same_false_3D x y p hx hy hp hd
    · exact same_true_3D x y p hx hy hp hd
  · cases hd : (p &&& 8 != 0) <;> cases wide
    · exact same_false_4B x y p hx hy hp hd
    · exact same_true_4B x y p hx hy hp hd
    · exact same_false_4D x y p hx hy hp hd
    · exact same_true_4D x y p hx hy hp hd
  · cases wide
    · exact same_false_5 x y p hx hy hp
    · exact same_true_5 x y p hx hy hp
  · cases wide
    · exact same_false_6 x y p hx hy hp
    · exact same_true_6 x y p hx hy hp
  · cases wide
    · exact same_false_7 x y p hx hy hp
    · exact same_true_7 x y p hx hy hp
  · cases wide
    · exact same_false_8 x y p hx hy hp
    · exact same_true_8 x y p hx hy hp
  · cases wide
    · exact same_false_9 x y p hx hy hp
    · exact same_true_9 x y p hx hy hp
  · cases wide
    · exact same_false_10 x y p hx hy hp
    · exact same_true_10 x y p hx hy hp
  · cases wide
    · exact same_false_11 x y p hx hy hp
    · exact same_true_11 x y p hx hy hp
  · cases wide
    · exact same_false_12 x y p hx hy hp
    · exact same_true_12 x y p hx hy hp
  · cases wide
    · exact same_false_13 x y p hx hy hp
    · exact same_true_13 x y p hx hy hp
  · cases wide
    · exact same_false_14 x y p hx hy hp
    · exact same_true_14 x y p hx hy hp
  · cases wide
    · exact same_false_15 x y p hx hy hp
    · exact same_true_15 x y p hx hy hp
  · cases wide
    · exact same_false_16 x y p hx hy hp
    · exact same_true_16 x y p hx hy hp
theorem both (op x y p : Nat) (wide : Bool) (hx : x < 65536) (hy : y < 65536) (hp : p < 256) : ∃ (X F : Nat) (ok : Bool),
    (∀ w, Calls Try.prog 9 #[.int .u8 op, .int .u16 x, .int .u16 y, .int .u8 p, .bool wide] w fun e w' => e = .returned (.tuple #[.int .u16 X, .int .u8 F, .bool ok]) ∧ Below w.heap.size w w') ∧
    (∀ w, Calls Try.prog 10 #[.int .u8 op, .int .u16 x, .int .u16 y, .int .u8 p, .bool wide] w fun e w' => e = .returned (.tuple #[.int .u16 X, .int .u8 F, .bool ok]) ∧ Below w.heap.size w w') := by
  rcases Nat.lt_or_ge 16 op with h | h
  · refine ⟨0, 0, false, fun w => (ref_none op x y p wide w h).mono ?_, fun w => do_none op x y p wide w hx hy h⟩
    rintro e w' ⟨rfl, rfl⟩
    exact ⟨rfl, Below.refl _ _⟩
  · obtain ⟨X, F, h1, h2⟩ := same_all op x y p wide hx hy hp h
    exact ⟨X, F, true, h2, h1⟩
theorem walkN (op x y p : Nat) (hx : x < 65536) (hy : y < 65536) (hp : p < 256) (w : World) :
    Calls Try.prog 3 #[.int .u8 op, .int .u16 x, .int .u16 y, .int .u8 p] w fun e w' => e = .returned (.bool true) ∧ Below w.heap.size w w' := by
  obtain ⟨X0, F0, ok0, k1, k2⟩ := both op x y p false hx hy hp
  obtain ⟨X1, F1, ok1, m1, m2⟩ := both op x y p true hx hy hp
  have K1 := Lib.hid k1
  have K2 := Lib.hid k2
  have M1 := Lib.hid m1
  have M2 := Lib.hid m2
  clear k1 k2 m1 m2
  go_enter Try.func3, Try.ntmps3
  go_wp2_with fail
  refine wp_loop_rounds 3 ?_
  rw [rounds_succ]
  go_wp2_with fail
  refine (K1.out _).mono ?_
  rintro e wa ⟨rfl, ba⟩
  go_wp2_with fail
  refine (K2.out _).mono ?_
  rintro e wb ⟨rfl, bb⟩
  have hall := ba.trans (bb.mono ba.size)
  clear ba bb
  go_wp2_with fail
  rw [rounds_succ]
  go_wp2_with fail
  refine (M1.out _).mono ?_
  rintro e wc ⟨rfl, bc⟩
  replace hall := hall.trans (bc.mono hall.size)
  clear bc
  go_wp2_with fail
  refine (M2.out _).mono ?_
  rintro e wd ⟨rfl, bd⟩
  replace hall := hall.trans (bd.mono hall.size)
  clear bd
  go_wp2_with fail
  rw [rounds_succ]
  go_wp2_with fail
  refine (awake_any _).mono ?_
  rintro e w7 ⟨rfl, b7⟩
  go_wp2_with fail
  go_ret
  exact ⟨rfl, hall.trans (b7.mono hall.size)⟩
theorem walk (a0 : Int) (a1 : Int) (a2 : Int) (a3 : Int) (w0 : (Lit.int .u8 a0).wf = true) (w1 : (Lit.int .u16 a1).wf = true) (w2 : (Lit.int .u16 a2).wf = true) (w3 : (Lit.int .u8 a3).wf = true) (w : World) :
    Calls Try.prog 3 #[.int .u8 a0, .int .u16 a1, .int .u16 a2, .int .u8 a3] w fun e w' => e = .returned (.bool true) ∧ Below w.heap.size w w' := by
  obtain ⟨op, rfl, ho⟩ := nat8 w0
  obtain ⟨x, rfl, hx⟩ := nat16 w1
  obtain ⟨y, rfl, hy⟩ := nat16 w2
  obtain ⟨p, rfl, hp⟩ := nat8 w3
  exact walkN op x y p hx hy hp w
end Go.Proofs.Ytnjbgnkbncjnlaa.aluDoes
