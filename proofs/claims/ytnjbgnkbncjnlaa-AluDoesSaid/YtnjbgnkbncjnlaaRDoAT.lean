/-
  The document's Do: one operation after another, from what its parts answer.
-/
import Derived.Test.YtnjbgnkbncjnlaaRSmall
namespace Go.Proofs.Ytnjbgnkbncjnlaa
open Go.RowKit Go.Shelf
set_option maxRecDepth 100000
set_option maxHeartbeats 1000000
set_option linter.unusedVariables false
theorem rdo_true_0 (x y p a b c X q1 q2 q3 q4 X0 : Nat) (N V Z C : Int) (w : World) (hx : x < 65536) (hy : y < 65536) (hp : p < 256) (ha : x % 65536 = a) (hb : y % 65536 = b) (hc : p / 1 % 2 = c) (hX : X < 65536)
    (hm0 : ∀ w, Calls Try.prog 22 #[.int .i64 0, .int .i64 a, .int .i64 b] w fun e w' => e = .returned (.int .i64 X0) ∧ w = w')
    (hm : ∀ w, Calls Try.prog 21 #[.int .i64 X0, .bool true] w fun e w' => e = .returned (.agg #[.int .i64 X, .int .i64 N, .int .i64 V, .int .i64 Z, .int .i64 C]) ∧ Below w.heap.size w w')
    (h1 : ∀ w, Calls Try.prog 27 #[.int .u8 p, .int .i64 128, .int .i64 N] w fun e w' => e = .returned (.int .u8 q1) ∧ w = w')
    (h2 : ∀ w, Calls Try.prog 27 #[.int .u8 q1, .int .i64 64, .int .i64 V] w fun e w' => e = .returned (.int .u8 q2) ∧ w = w')
    (h3 : ∀ w, Calls Try.prog 27 #[.int .u8 q2, .int .i64 2, .int .i64 Z] w fun e w' => e = .returned (.int .u8 q3) ∧ w = w')
    (h4 : ∀ w, Calls Try.prog 27 #[.int .u8 q3, .int .i64 1, .int .i64 C] w fun e w' => e = .returned (.int .u8 q4) ∧ w = w') :
    Calls Try.prog 9 #[.int .u8 0, .int .u16 x, .int .u16 y, .int .u8 p, .bool true] w fun e w' => e = .returned (.tuple #[.int .u16 X, .int .u8 q4, .bool true]) ∧ Below w.heap.size w w' := by
  have EA := Lib.hid (show (x : Int) % 65536 = (a : Nat) by omega)
  have EB := Lib.hid (show (y : Int) % 65536 = (b : Nat) by omega)
  have EX := Lib.hid (show IntKind.u16.wrap (X : Int) = (X : Nat) from wrap16 X hX)
  have HC := Lib.hid hc
  have HM := Lib.hid hm
  have H1 := Lib.hid h1
  have H2 := Lib.hid h2
  have H3 := Lib.hid h3
  have H4 := Lib.hid h4
  have HM0 := Lib.hid hm0
  clear ha hb hc hm h1 h2 h3 h4 hm0
  go_enter Try.func9, Try.ntmps9
  go_wp2_with fail
  refine (size_t _).mono ?_
  rintro e w' ⟨rfl, rfl⟩
  go_wp2_with fail
  refine (size_t _).mono ?_
  rintro e w' ⟨rfl, rfl⟩
  go_wp2_with fail
  rw [EA.out, EB.out]
  refine (flag_1 p c _ hp HC.out).mono ?_
  rintro e w' ⟨rfl, rfl⟩
  go_wp2_with fail
  refine (HM0.out _).mono ?_
  rintro e w' ⟨rfl, rfl⟩
  go_wp2_with fail
  refine (HM.out _).mono ?_
  rintro e w1 ⟨rfl, b1⟩
  have B1 : Whole w1 w.heap.size 40 #[.int .i64 0, .int .i64 0, .int .i64 0, .int .i64 0, .int .i64 0] := (Whole.fresh w 40 _).below b1 (by simp)
  have hlt := B1.lt
  have bw : Below w.heap.size w w1 := ((Below.refl _ _).alloc (Nat.le_refl _) _).trans (b1.mono (by simp))
  have c0 := B1.cell 0
  have c1 := B1.cell 1
  have c2 := B1.cell 2
  have c3 := B1.cell 3
  have c4 := B1.cell 4
  have f0 := B1.free 0
  have f1 := B1.free 1
  have f2 := B1.free 2
  have f3 := B1.free 3
  have f4 := B1.free 4
  clear b1 B1 HM
  go_wp2_with fail
  refine (H1.out _).mono ?_
  rintro e w' ⟨rfl, rfl⟩
  go_wp2_with fail
  refine (H2.out _).mono ?_
  rintro e w' ⟨rfl, rfl⟩
  go_wp2_with fail
  refine (H3.out _).mono ?_
  rintro e w' ⟨rfl, rfl⟩
  go_wp2_with fail
  refine (H4.out _).mono ?_
  rintro e w' ⟨rfl, rfl⟩
  go_wp2_with fail
  try rw [EX.out]
  go_ret3
  exact ⟨rfl, (((((bw.setCell (p := ⟨w.heap.size, 0, none⟩) (Nat.le_refl _) _).setCell (p := ⟨w.heap.size, 1, none⟩) (Nat.le_refl _) _).setCell (p := ⟨w.heap.size, 2, none⟩) (Nat.le_refl _) _).setCell (p := ⟨w.heap.size, 3, none⟩) (Nat.le_refl _) _).setCell (p := ⟨w.heap.size, 4, none⟩) (Nat.le_refl _) _)⟩
theorem rdo_true_1 (x y p a b c X q1 q2 q3 q4 X0 : Nat) (N V Z C : Int) (w : World) (hx : x < 65536) (hy : y < 65536) (hp : p < 256) (ha : x % 65536 = a) (hb : y % 65536 = b) (hc : p / 1 % 2 = c) (hX : X < 65536)
    (hm0 : ∀ w, Calls Try.prog 22 #[.int .i64 1, .int .i64 a, .int .i64 b] w fun e w' => e = .returned (.int .i64 X0) ∧ w = w')
    (hm : ∀ w, Calls Try.prog 21 #[.int .i64 X0, .bool true] w fun e w' => e = .returned (.agg #[.int .i64 X, .int .i64 N, .int .i64 V, .int .i64 Z, .int .i64 C]) ∧ Below w.heap.size w w')
    (h1 : ∀ w, Calls Try.prog 27 #[.int .u8 p, .int .i64 128, .int .i64 N] w fun e w' => e = .returned (.int .u8 q1) ∧ w = w')
    (h2 : ∀ w, Calls Try.prog 27 #[.int .u8 q1, .int .i64 64, .int .i64 V] w fun e w' => e = .returned (.int .u8 q2) ∧ w = w')
    (h3 : ∀ w, Calls Try.prog 27 #[.int .u8 q2, .int .i64 2, .int .i64 Z] w fun e w' => e = .returned (.int .u8 q3) ∧ w = w')
    (h4 : ∀ w, Calls Try.prog 27 #[.int .u8 q3, .int .i64 1, .int .i64 C] w fun e w' => e = .returned (.int .u8 q4) ∧ w = w') :
    Calls Try.prog 9 #[.int .u8 1, .int .u16 x, .int .u16 y, .int .u8 p, .bool true] w fun e w' => e = .returned (.tuple #[.int .u16 X, .int .u8 q4, .bool true]) ∧ Below w.heap.size w w' := by
  have EA := Lib.hid (show (x : Int) % 65536 = (a : Nat) by omega)
  have EB := Lib.hid (show (y : Int) % 65536 = (b : Nat) by omega)
  have EX := Lib.hid (show IntKind.u16.wrap (X : Int) = (X : Nat) from wrap16 X hX)
  have HC := Lib.hid hc
  have HM := Lib.hid hm
  have H1 := Lib.hid h1
  have H2 := Lib.hid h2
  have H3 := Lib.hid h3
  have H4 := Lib.hid h4
  have HM0 := Lib.hid hm0
  clear ha hb hc hm h1 h2 h3 h4 hm0
  go_enter Try.func9, Try.ntmps9
  go_wp2_with fail
  refine (size_t _).mono ?_
  rintro e w' ⟨rfl, rfl⟩
  go_wp2_with fail
  refine (size_t _).mono ?_
  rintro e w' ⟨rfl, rfl⟩
  go_wp2_with fail
  rw [EA.out, EB.out]
  refine (flag_1 p c _ hp HC.out).mono ?_
  rintro e w' ⟨rfl, rfl⟩
  go_wp2_with fail
  refine (HM0.out _).mono ?_
  rintro e w' ⟨rfl, rfl⟩
  go_wp2_with fail
  refine (HM.out _).mono ?_
  rintro e w1 ⟨rfl, b1⟩
  have B1 : Whole w1 w.heap.size 40 #[.int .i64 0, .int .i64 0, .int .i64 0, .int .i64 0, .int .i64 0] := (Whole.fresh w 40 _).below b1 (by simp)
  have hlt := B1.lt
  have bw : Below w.heap.size w w1 := ((Below.refl _ _).alloc (Nat.le_refl _) _).trans (b1.mono (by simp))
  have c0 := B1.cell 0
  have c1 := B1.cell 1
  have c2 := B1.cell 2
  have c3 := B1.cell 3
  have c4 := B1.cell 4
  have f0 := B1.free 0
  have f1 := B1.free 1
  have f2 := B1.free 2
  have f3 := B1.free 3
  have f4 := B1.free 4
  clear b1 B1 HM
  go_wp2_with fail
  refine (H1.out _).mono ?_
  rintro e w' ⟨rfl, rfl⟩
  go_wp2_with fail
  refine (H2.out _).mono ?_
  rintro e w' ⟨rfl, rfl⟩
  go_wp2_with fail
  refine (H3.out _).mono ?_
  rintro e w' ⟨rfl, rfl⟩
  go_wp2_with fail
  refine (H4.out _).mono ?_
  rintro e w' ⟨rfl, rfl⟩
  go_wp2_with fail
  try rw [EX.out]
  go_ret3
  exact ⟨rfl, (((((bw.setCell (p := ⟨w.heap.size, 0, none⟩) (Nat.le_refl _) _).setCell (p := ⟨w.heap.size, 1, none⟩) (Nat.le_refl _) _).setCell (p := ⟨w.heap.size, 2, none⟩) (Nat.le_refl _) _).setCell (p := ⟨w.heap.size, 3, none⟩) (Nat.le_refl _) _).setCell (p := ⟨w.heap.size, 4, none⟩) (Nat.le_refl _) _)⟩
theorem rdo_true_2 (x y p a b c X q1 q2 q3 q4 X0 : Nat) (N V Z C : Int) (w : World) (hx : x < 65536) (hy : y < 65536) (hp : p < 256) (ha : x % 65536 = a) (hb : y % 65536 = b) (hc : p / 1 % 2 = c) (hX : X < 65536)
    (hm0 : ∀ w, Calls Try.prog 22 #[.int .i64 2, .int .i64 a, .int .i64 b] w fun e w' => e = .returned (.int .i64 X0) ∧ w = w')
    (hm : ∀ w, Calls Try.prog 21 #[.int .i64 X0, .bool true] w fun e w' => e = .returned (.agg #[.int .i64 X, .int .i64 N, .int .i64 V, .int .i64 Z, .int .i64 C]) ∧ Below w.heap.size w w')
    (h1 : ∀ w, Calls Try.prog 27 #[.int .u8 p, .int .i64 128, .int .i64 N] w fun e w' => e = .returned (.int .u8 q1) ∧ w = w')
    (h2 : ∀ w, Calls Try.prog 27 #[.int .u8 q1, .int .i64 64, .int .i64 V] w fun e w' => e = .returned (.int .u8 q2) ∧ w = w')
    (h3 : ∀ w, Calls Try.prog 27 #[.int .u8 q2, .int .i64 2, .int .i64 Z] w fun e w' => e = .returned (.int .u8 q3) ∧ w = w')
    (h4 : ∀ w, Calls Try.prog 27 #[.int .u8 q3, .int .i64 1, .int .i64 C] w fun e w' => e = .returned (.int .u8 q4) ∧ w = w') :
    Calls Try.prog 9 #[.int .u8 2, .int .u16 x, .int .u16 y, .int .u8 p, .bool true] w fun e w' => e = .returned (.tuple #[.int .u16 X, .int .u8 q4, .bool true]) ∧ Below w.heap.size w w' := by
  have EA := Lib.hid (show (x : Int) % 65536 = (a : Nat) by omega)
  have EB := Lib.hid (show (y : Int) % 65536 = (b : Nat) by omega)
  have EX := Lib.hid (show IntKind.u16.wrap (X : Int) = (X : Nat) from wrap16 X hX)
  have HC := Lib.hid hc
  have HM := Lib.hid hm
  have H1 := Lib.hid h1
  have H2 := Lib.hid h2
  have H3 := Lib.hid h3
  have H4 := Lib.hid h4
  have HM0 := Lib.hid hm0
  clear ha hb hc hm h1 h2 h3 h4 hm0
  go_enter Try.func9, Try.ntmps9
  go_wp2_with fail
  refine (size_t _).mono ?_
  rintro e w' ⟨rfl, rfl⟩
  go_wp2_with fail
  refine (size_t _).mono ?_
  rintro e w' ⟨rfl, rfl⟩
  go_wp2_with fail
  rw [EA.out, EB.out]
  refine (flag_1 p c _ hp HC.out).mono ?_
  rintro e w' ⟨rfl, rfl⟩
  go_wp2_with fail
  refine (HM0.out _).mono ?_
  rintro e w' ⟨rfl, rfl⟩
  go_wp2_with fail
  refine (HM.out _).mono ?_
  rintro e w1 ⟨rfl, b1⟩
  have B1 : Whole w1 w.heap.size 40 #[.int .i64 0, .int .i64 0, .int .i64 0, .int .i64 0, .int .i64 0] := (Whole.fresh w 40 _).below b1 (by simp)
  have hlt := B1.lt
  have bw : Below w.heap.size w w1 := ((Below.refl _ _).alloc (Nat.le_refl _) _).trans (b1.mono (by simp))
  have c0 := B1.cell 0
  have c1 := B1.cell 1
  have c2 := B1.cell 2
  have c3 := B1.cell 3
  have c4 := B1.cell 4
  have f0 := B1.free 0
  have f1 := B1.free 1
  have f2 := B1.free 2
  have f3 := B1.free 3
  have f4 := B1.free 4
  clear b1 B1 HM
  go_wp2_with fail
  refine (H1.out _).mono ?_
  rintro e w' ⟨rfl, rfl⟩
  go_wp2_with fail
  refine (H2.out _).mono ?_
  rintro e w' ⟨rfl, rfl⟩
  go_wp2_with fail
  refine (H3.out _).mono ?_
  rintro e w' ⟨rfl, rfl⟩
  go_wp2_with fail
  refine (H4.out _).mono ?_
  rintro e w' ⟨rfl, rfl⟩
  go_wp2_with fail
  try rw [EX.out]
  go_ret3
  exact ⟨rfl, (((((bw.setCell (p := ⟨w.heap.size, 0, none⟩) (Nat.le_refl _) _).setCell (p := ⟨w.heap.size, 1, none⟩) (Nat.le_refl _) _).setCell (p := ⟨w.heap.size, 2, none⟩) (Nat.le_refl _) _).setCell (p := ⟨w.heap.size, 3, none⟩) (Nat.le_refl _) _).setCell (p := ⟨w.heap.size, 4, none⟩) (Nat.le_refl _) _)⟩
theorem rdo_true_3B (x y p a b c X q1 q2 q3 q4 : Nat) (N V Z C : Int) (w : World) (hx : x < 65536) (hy : y < 65536) (hp : p < 256) (ha : x % 65536 = a) (hb : y % 65536 = b) (hc : p / 1 % 2 = c) (hX : X < 65536)
    (hd : p / 8 % 2 = 0) (hm : ∀ w, Calls Try.prog 23 #[.int .i64 a, .int .i64 b, .int .i64 c, .bool true] w fun e w' => e = .returned (.agg #[.int .i64 X, .int .i64 N, .int .i64 V, .int .i64 Z, .int .i64 C]) ∧ Below w.heap.size w w')
    (h1 : ∀ w, Calls Try.prog 27 #[.int .u8 p, .int .i64 128, .int .i64 N] w fun e w' => e = .returned (.int .u8 q1) ∧ w = w')
    (h2 : ∀ w, Calls Try.prog 27 #[.int .u8 q1, .int .i64 64, .int .i64 V] w fun e w' => e = .returned (.int .u8 q2) ∧ w = w')
    (h3 : ∀ w, Calls Try.prog 27 #[.int .u8 q2, .int .i64 2, .int .i64 Z] w fun e w' => e = .returned (.int .u8 q3) ∧ w = w')
    (h4 : ∀ w, Calls Try.prog 27 #[.int .u8 q3, .int .i64 1, .int .i64 C] w fun e w' => e = .returned (.int .u8 q4) ∧ w = w') :
    Calls Try.prog 9 #[.int .u8 3, .int .u16 x, .int .u16 y, .int .u8 p, .bool true] w fun e w' => e = .returned (.tuple #[.int .u16 X, .int .u8 q4, .bool true]) ∧ Below w.heap.size w w' := by
  have EA := Lib.hid (show (x : Int) % 65536 = (a : Nat) by omega)
  have EB := Lib.hid (show (y : Int) % 65536 = (b : Nat) by omega)
  have EX := Lib.hid (show IntKind.u16.wrap (X : Int) = (X : Nat) from wrap16 X hX)
  have HC := Lib.hid hc
  have HM := Lib.hid hm
  have H1 := Lib.hid h1
  have H2 := Lib.hid h2
  have H3 := Lib.hid h3
  have H4 := Lib.hid h4
  have HD := Lib.hid hd
  clear ha hb hc hm h1 h2 h3 h4 hd
  go_enter Try.func9, Try.ntmps9
  go_wp2_with fail
  refine (size_t _).mono ?_
  rintro e w' ⟨rfl, rfl⟩
  go_wp2_with fail
  refine (size_t _).mono ?_
  rintro e w' ⟨rfl, rfl⟩
  go_wp2_with fail
  rw [EA.out, EB.out]
  refine (flag_1 p c _ hp HC.out).mono ?_
  rintro e w' ⟨rfl, rfl⟩
  go_wp2_with fail
  refine (flag_8 p 0 _ hp HD.out).mono ?_
  rintro e w' ⟨rfl, rfl⟩
  go_wp2_with fail
  refine (HM.out _).mono ?_
  rintro e w1 ⟨rfl, b1⟩
  have B1 : Whole w1 w.heap.size 40 #[.int .i64 0, .int .i64 0, .int .i64 0, .int .i64 0, .int .i64 0] := (Whole.fresh w 40 _).below b1 (by simp)
  have hlt := B1.lt
  have bw : Below w.heap.size w w1 := ((Below.refl _ _).alloc (Nat.le_refl _) _).trans (b1.mono (by simp))
  have c0 := B1.cell 0
  have c1 := B1.cell 1
  have c2 := B1.cell 2
  have c3 := B1.cell 3
  have c4 := B1.cell 4
  have f0 := B1.free 0
  have f1 := B1.free 1
  have f2 := B1.free 2
  have f3 := B1.free 3
  have f4 := B1.free 4
  clear b1 B1 HM
  go_wp2_with fail
  refine (H1.out _).mono ?_
  rintro e w' ⟨rfl, rfl⟩
  go_wp2_with fail
  refine (H2.out _).mono ?_
  rintro e w' ⟨rfl, rfl⟩
  go_wp2_with fail
  refine (H3.out _).mono ?_
  rintro e w' ⟨rfl, rfl⟩
  go_wp2_with fail
  refine (H4.out _).mono ?_
  rintro e w' ⟨rfl, rfl⟩
  go_wp2_with fail
  try rw [EX.out]
  go_ret3
  exact ⟨rfl, (((((bw.setCell (p := ⟨w.heap.size, 0, none⟩) (Nat.le_refl _) _).setCell (p := ⟨w.heap.size, 1, none⟩) (Nat.le_refl _) _).setCell (p := ⟨w.heap.size, 2, none⟩) (Nat.le_refl _) _).setCell (p := ⟨w.heap.size, 3, none⟩) (Nat.le_refl _) _).setCell (p := ⟨w.heap.size, 4, none⟩) (Nat.le_refl _) _)⟩
theorem rdo_true_4B (x y p a b c X q1 q2 q3 q4 y2 : Nat) (N V Z C : Int) (w : World) (hx : x < 65536) (hy : y < 65536) (hp : p < 256) (ha : x % 65536 = a) (hb : y % 65536 = b) (hc : p / 1 % 2 = c) (hX : X < 65536)
    (hy2 : 65536 - 1 - b = y2) (hd : p / 8 % 2 = 0) (hm : ∀ w, Calls Try.prog 23 #[.int .i64 a, .int .i64 y2, .int .i64 c, .bool true] w fun e w' => e = .returned (.agg #[.int .i64 X, .int .i64 N, .int .i64 V, .int .i64 Z, .int .i64 C]) ∧ Below w.heap.size w w')
    (h1 : ∀ w, Calls Try.prog 27 #[.int .u8 p, .int .i64 128, .int .i64 N] w fun e w' => e = .returned (.int .u8 q1) ∧ w = w')
    (h2 : ∀ w, Calls Try.prog 27 #[.int .u8 q1, .int .i64 64, .int .i64 V] w fun e w' => e = .returned (.int .u8 q2) ∧ w = w')
    (h3 : ∀ w, Calls Try.prog 27 #[.int .u8 q2, .int .i64 2, .int .i64 Z] w fun e w' => e = .returned (.int .u8 q3) ∧ w = w')
    (h4 : ∀ w, Calls Try.prog 27 #[.int .u8 q3, .int .i64 1, .int .i64 C] w fun e w' => e = .returned (.int .u8 q4) ∧ w = w') :
    Calls Try.prog 9 #[.int .u8 4, .int .u16 x, .int .u16 y, .int .u8 p, .bool true] w fun e w' => e = .returned (.tuple #[.int .u16 X, .int .u8 q4, .bool true]) ∧ Below w.heap.size w w' := by
  have EA := Lib.hid (show (x : Int) % 65536 = (a : Nat) by omega)
  have EB := Lib.hid (show (y : Int) % 65536 = (b : Nat) by omega)
  have EX := Lib.hid (show IntKind.u16.wrap (X : Int) = (X : Nat) from wrap16 X hX)
  have HC := Lib.hid hc
  have HM := Lib.hid hm
  have H1 := Lib.hid h1
  have H2 := Lib.hid h2
  have H3 := Lib.hid h3
  have H4 := Lib.hid h4
  have hb3 : b < 65536 := hb ▸ Nat.mod_lt _ (by decide)
  have EY := Lib.hid (show (65535 : Int) - (b : Nat) = (y2 : Nat) by omega)
  have HD := Lib.hid hd
  clear ha hb hc hm h1 h2 h3 h4 hy2 hd
  go_enter Try.func9, Try.ntmps9
  go_wp2_with fail
  refine (size_t _).mono ?_
  rintro e w' ⟨rfl, rfl⟩
  go_wp2_with fail
  refine (size_t _).mono ?_
  rintro e w' ⟨rfl, rfl⟩
  go_wp2_with fail
  rw [EA.out, EB.out]
  refine (flag_1 p c _ hp HC.out).mono ?_
  rintro e w' ⟨rfl, rfl⟩
  go_wp2_with fail
  refine (flag_8 p 0 _ hp HD.out).mono ?_
  rintro e w' ⟨rfl, rfl⟩
  go_wp2_with fail
  refine (size_t _).mono ?_
  rintro e w' ⟨rfl, rfl⟩
  go_wp2_with fail
  try rw [EY.out]
  refine (HM.out _).mono ?_
  rintro e w1 ⟨rfl, b1⟩
  have B1 : Whole w1 w.heap.size 40 #[.int .i64 0, .int .i64 0, .int .i64 0, .int .i64 0, .int .i64 0] := (Whole.fresh w 40 _).below b1 (by simp)
  have hlt := B1.lt
  have bw : Below w.heap.size w w1 := ((Below.refl _ _).alloc (Nat.le_refl _) _).trans (b1.mono (by simp))
  have c0 := B1.cell 0
  have c1 := B1.cell 1
  have c2 := B1.cell 2
  have c3 := B1.cell 3
  have c4 := B1.cell 4
  have f0 := B1.free 0
  have f1 := B1.free 1
  have f2 := B1.free 2
  have f3 := B1.free 3
  have f4 := B1.free 4
  clear b1 B1 HM
  go_wp2_with fail
  refine (H1.out _).mono ?_
  rintro e w' ⟨rfl, rfl⟩
  go_wp2_with fail
  refine (H2.out _).mono ?_
  rintro e w' ⟨rfl, rfl⟩
  go_wp2_with fail
  refine (H3.out _).mono ?_
  rintro e w' ⟨rfl, rfl⟩
  go_wp2_with fail
  refine (H4.out _).mono ?_
  rintro e w' ⟨rfl, rfl⟩
  go_wp2_with fail
  try rw [EX.out]
  go_ret3
  exact ⟨rfl, (((((bw.setCell (p := ⟨w.heap.size, 0, none⟩) (Nat.le_refl _) _).setCell (p := ⟨w.heap.size, 1, none⟩) (Nat.le_refl _) _).setCell (p := ⟨w.heap.size, 2, none⟩) (Nat.le_refl _) _).setCell (p := ⟨w.heap.size, 3, none⟩) (Nat.le_refl _) _).setCell (p := ⟨w.heap.size, 4, none⟩) (Nat.le_refl _) _)⟩
theorem rdo_true_3D (x y p a b c X q1 q2 q3 q4 : Nat) (N V Z C : Int) (w : World) (hx : x < 65536) (hy : y < 65536) (hp : p < 256) (ha : x % 65536 = a) (hb : y % 65536 = b) (hc : p / 1 % 2 = c) (hX : X < 65536)
    (hd : p / 8 % 2 = 1) (hm : ∀ w, Calls Try.prog 24 #[.int .i64 a, .int .i64 b, .int .i64 c, .bool false, .bool true] w fun e w' => e = .returned (.agg #[.int .i64 X, .int .i64 N, .int .i64 V, .int .i64 Z, .int .i64 C]) ∧ Below w.heap.size w w')
    (h1 : ∀ w, Calls Try.prog 27 #[.int .u8 p, .int .i64 128, .int .i64 N] w fun e w' => e = .returned (.int .u8 q1) ∧ w = w')
    (h2 : ∀ w, Calls Try.prog 27 #[.int .u8 q1, .int .i64 64, .int .i64 V] w fun e w' => e = .returned (.int .u8 q2) ∧ w = w')
    (h3 : ∀ w, Calls Try.prog 27 #[.int .u8 q2, .int .i64 2, .int .i64 Z] w fun e w' => e = .returned (.int .u8 q3) ∧ w = w')
    (h4 : ∀ w, Calls Try.prog 27 #[.int .u8 q3, .int .i64 1, .int .i64 C] w fun e w' => e = .returned (.int .u8 q4) ∧ w = w') :
    Calls Try.prog 9 #[.int .u8 3, .int .u16 x, .int .u16 y, .int .u8 p, .bool true] w fun e w' => e = .returned (.tuple #[.int .u16 X, .int .u8 q4, .bool true]) ∧ Below w.heap.size w w' := by
  have EA := Lib.hid (show (x : Int) % 65536 = (a : Nat) by omega)
  have EB := Lib.hid (show (y : Int) % 65536 = (b : Nat) by omega)
  have EX := Lib.hid (show IntKind.u16.wrap (X : Int) = (X : Nat) from wrap16 X hX)
  have HC := Lib.hid hc
  have HM := Lib.hid hm
  have H1 := Lib.hid h1
  have H2 := Lib.hid h2
  have H3 := Lib.hid h3
  have H4 := Lib.hid h4
  have HD := Lib.hid hd
  clear ha hb hc hm h1 h2 h3 h4 hd
  go_enter Try.func9, Try.ntmps9
  go_wp2_with fail
  refine (size_t _).mono ?_
  rintro e w' ⟨rfl, rfl⟩
  go_wp2_with fail
  refine (size_t _).mono ?_
  rintro e w' ⟨rfl, rfl⟩
  go_wp2_with fail
  rw [EA.out, EB.out]
  refine (flag_1 p c _ hp HC.out).mono ?_
  rintro e w' ⟨rfl, rfl⟩
  go_wp2_with fail
  refine (flag_8 p 1 _ hp HD.out).mono ?_
  rintro e w' ⟨rfl, rfl⟩
  go_wp2_with fail
  refine (HM.out _).mono ?_
  rintro e w1 ⟨rfl, b1⟩
  have B1 : Whole w1 w.heap.size 40 #[.int .i64 0, .int .i64 0, .int .i64 0, .int .i64 0, .int .i64 0] := (Whole.fresh w 40 _).below b1 (by simp)
  have hlt := B1.lt
  have bw : Below w.heap.size w w1 := ((Below.refl _ _).alloc (Nat.le_refl _) _).trans (b1.mono (by simp))
  have c0 := B1.cell 0
  have c1 := B1.cell 1
  have c2 := B1.cell 2
  have c3 := B1.cell 3
  have c4 := B1.cell 4
  have f0 := B1.free 0
  have f1 := B1.free 1
  have f2 := B1.free 2
  have f3 := B1.free 3
  have f4 := B1.free 4
  clear b1 B1 HM
  go_wp2_with fail
  refine (H1.out _).mono ?_
  rintro e w' ⟨rfl, rfl⟩
  go_wp2_with fail
  refine (H2.out _).mono ?_
  rintro e w' ⟨rfl, rfl⟩
  go_wp2_with fail
  refine (H3.out _).mono ?_
  rintro e w' ⟨rfl, rfl⟩
  go_wp2_with fail
  refine (H4.out _).mono ?_
  rintro e w' ⟨rfl, rfl⟩
  go_wp2_with fail
  try rw [EX.out]
  go_ret3
  exact ⟨rfl, (((((bw.setCell (p := ⟨w.heap.size, 0, none⟩) (Nat.le_refl _) _).setCell (p := ⟨w.heap.size, 1, none⟩) (Nat.le_refl _) _).setCell (p := ⟨w.heap.size, 2, none⟩) (Nat.le_refl _) _).setCell (p := ⟨w.heap.size, 3, none⟩) (Nat.le_refl _) _).setCell (p := ⟨w.heap.size, 4, none⟩) (Nat.le_refl _) _)⟩
theorem rdo_true_4D (x y p a b c X q1 q2 q3 q4 : Nat) (N V Z C : Int) (w : World) (hx : x < 65536) (hy : y < 65536) (hp : p < 256) (ha : x % 65536 = a) (hb : y % 65536 = b) (hc : p / 1 % 2 = c) (hX : X < 65536)
    (hd : p / 8 % 2 = 1) (hm : ∀ w, Calls Try.prog 24 #[.int .i64 a, .int .i64 b, .int .i64 c, .bool true, .bool true] w fun e w' => e = .returned (.agg #[.int .i64 X, .int .i64 N, .int .i64 V, .int .i64 Z, .int .i64 C]) ∧ Below w.heap.size w w')
    (h1 : ∀ w, Calls Try.prog 27 #[.int .u8 p, .int .i64 128, .int .i64 N] w fun e w' => e = .returned (.int .u8 q1) ∧ w = w')
    (h2 : ∀ w, Calls Try.prog 27 #[.int .u8 q1, .int .i64 64, .int .i64 V] w fun e w' => e = .returned (.int .u8 q2) ∧ w = w')
    (h3 : ∀ w, Calls Try.prog 27 #[.int .u8 q2, .int .i64 2, .int .i64 Z] w fun e w' => e = .returned (.int .u8 q3) ∧ w = w')
    (h4 : ∀ w, Calls Try.prog 27 #[.int .u8 q3, .int .i64 1, .int .i64 C] w fun e w' => e = .returned (.int .u8 q4) ∧ w = w') :
    Calls Try.prog 9 #[.int .u8 4, .int .u16 x, .int .u16 y, .int .u8 p, .bool true] w fun e w' => e = .returned (.tuple #[.int .u16 X, .int .u8 q4, .bool true]) ∧ Below w.heap.size w w' := by
  have EA := Lib.hid (show (x : Int) % 65536 = (a : Nat) by omega)
  have EB := Lib.hid (show (y : Int) % 65536 = (b : Nat) by omega)
  have EX := Lib.hid (show IntKind.u16.wrap (X : Int) = (X : Nat) from wrap16 X hX)
  have HC := Lib.hid hc
  have HM := Lib.hid hm
  have H1 := Lib.hid h1
  have H2 := Lib.hid h2
  have H3 := Lib.hid h3
  have H4 := Lib.hid h4
  have HD := Lib.hid hd
  clear ha hb hc hm h1 h2 h3 h4 hd
  go_enter Try.func9, Try.ntmps9
  go_wp2_with fail
  refine (size_t _).mono ?_
  rintro e w' ⟨rfl, rfl⟩
  go_wp2_with fail
  refine (size_t _).mono ?_
  rintro e w' ⟨rfl, rfl⟩
  go_wp2_with fail
  rw [EA.out, EB.out]
  refine (flag_1 p c _ hp HC.out).mono ?_
  rintro e w' ⟨rfl, rfl⟩
  go_wp2_with fail
  refine (flag_8 p 1 _ hp HD.out).mono ?_
  rintro e w' ⟨rfl, rfl⟩
  go_wp2_with fail
  refine (HM.out _).mono ?_
  rintro e w1 ⟨rfl, b1⟩
  have B1 : Whole w1 w.heap.size 40 #[.int .i64 0, .int .i64 0, .int .i64 0, .int .i64 0, .int .i64 0] := (Whole.fresh w 40 _).below b1 (by simp)
  have hlt := B1.lt
  have bw : Below w.heap.size w w1 := ((Below.refl _ _).alloc (Nat.le_refl _) _).trans (b1.mono (by simp))
  have c0 := B1.cell 0
  have c1 := B1.cell 1
  have c2 := B1.cell 2
  have c3 := B1.cell 3
  have c4 := B1.cell 4
  have f0 := B1.free 0
  have f1 := B1.free 1
  have f2 := B1.free 2
  have f3 := B1.free 3
  have f4 := B1.free 4
  clear b1 B1 HM
  go_wp2_with fail
  refine (H1.out _).mono ?_
  rintro e w' ⟨rfl, rfl⟩
  go_wp2_with fail
  refine (H2.out _).mono ?_
  rintro e w' ⟨rfl, rfl⟩
  go_wp2_with fail
  refine (H3.out _).mono ?_
  rintro e w' ⟨rfl, rfl⟩
  go_wp2_with fail
  refine (H4.out _).mono ?_
  rintro e w' ⟨rfl, rfl⟩
  go_wp2_with fail
  try rw [EX.out]
  go_ret3
  exact ⟨rfl, (((((bw.setCell (p := ⟨w.heap.size, 0, none⟩) (Nat.le_refl _) _).setCell (p := ⟨w.heap.size, 1, none⟩) (Nat.le_refl _) _).setCell (p := ⟨w.heap.size, 2, none⟩) (Nat.le_refl _) _).setCell (p := ⟨w.heap.size, 3, none⟩) (Nat.le_refl _) _).setCell (p := ⟨w.heap.size, 4, none⟩) (Nat.le_refl _) _)⟩
end Go.Proofs.Ytnjbgnkbncjnlaa
