/-
  The document's Do: one operation after another, from what its parts answer.
-/
import Derived.Test.YtnjbgnkbncjnlaaRSmall
namespace Go.Proofs.Ytnjbgnkbncjnlaa
open Go.RowKit Go.Shelf
set_option maxRecDepth 100000
set_option maxHeartbeats 1000000
set_option linter.unusedVariables false
theorem rdo_false_8 (x y p a b c X q1 q2 q3 q4 : Nat) (N V Z C : Int) (w : World) (hx : x < 65536) (hy : y < 65536) (hp : p < 256) (ha : x % 256 = a) (hb : y % 256 = b) (hc : p / 1 % 2 = c) (hX : X < 65536)
    (hm : ∀ w, Calls Try.prog 25 #[.int .u8 8, .int .i64 a, .int .i64 c, .bool false] w fun e w' => e = .returned (.agg #[.int .i64 X, .int .i64 N, .int .i64 V, .int .i64 Z, .int .i64 C]) ∧ Below w.heap.size w w')
    (h1 : ∀ w, Calls Try.prog 27 #[.int .u8 p, .int .i64 128, .int .i64 N] w fun e w' => e = .returned (.int .u8 q1) ∧ w = w')
    (h2 : ∀ w, Calls Try.prog 27 #[.int .u8 q1, .int .i64 64, .int .i64 V] w fun e w' => e = .returned (.int .u8 q2) ∧ w = w')
    (h3 : ∀ w, Calls Try.prog 27 #[.int .u8 q2, .int .i64 2, .int .i64 Z] w fun e w' => e = .returned (.int .u8 q3) ∧ w = w')
    (h4 : ∀ w, Calls Try.prog 27 #[.int .u8 q3, .int .i64 1, .int .i64 C] w fun e w' => e = .returned (.int .u8 q4) ∧ w = w') :
    Calls Try.prog 9 #[.int .u8 8, .int .u16 x, .int .u16 y, .int .u8 p, .bool false] w fun e w' => e = .returned (.tuple #[.int .u16 X, .int .u8 q4, .bool true]) ∧ Below w.heap.size w w' := by
  have EA := Lib.hid (show (x : Int) % 256 = (a : Nat) by omega)
  have EB := Lib.hid (show (y : Int) % 256 = (b : Nat) by omega)
  have EX := Lib.hid (show IntKind.u16.wrap (X : Int) = (X : Nat) from wrap16 X hX)
  have HC := Lib.hid hc
  have HM := Lib.hid hm
  have H1 := Lib.hid h1
  have H2 := Lib.hid h2
  have H3 := Lib.hid h3
  have H4 := Lib.hid h4
  clear ha hb hc hm h1 h2 h3 h4
  go_enter Try.func9, Try.ntmps9
  go_wp2_with fail
  refine (size_f _).mono ?_
  rintro e w' ⟨rfl, rfl⟩
  go_wp2_with fail
  refine (size_f _).mono ?_
  rintro e w' ⟨rfl, rfl⟩
  go_wp2_with fail
  rw [EA.out, EB.out]
  refine (flag_1 p c _ hp HC.out).mono ?_
  rintro e w' ⟨rfl, rfl⟩
  go_wp2_with fail
  refine (HM.out _).mono ?_
  rintro e w1 ⟨rfl, b1⟩
  have B1 : Whole w1 w.heap.size 40 #[.int .i64 0, .int .i64 0, .int .i64 0, .int .i64 0, .int .i64 0] := (Whole.fresh w 40 _).below b1 (by simp)
  have hlt := B1.lt
  have bw : Below w.heap.size w w1 := ((Below.refl _ _).alloc (Nat.le_refl _) _).trans (b1.mono (by simp))
  have c0 := B1.cell 0
  have c1 := B1.cell 1
  have c2 := B1.cell 2
  have c3 := B1.cell 3
  have c4 := B1.cell 4
  have f0 := B1.free 0
  have f1 := B1.free 1
  have f2 := B1.free 2
  have f3 := B1.free 3
  have f4 := B1.free 4
  clear b1 B1 HM
  go_wp2_with fail
  refine (H1.out _).mono ?_
  rintro e w' ⟨rfl, rfl⟩
  go_wp2_with fail
  refine (H2.out _).mono ?_
  rintro e w' ⟨rfl, rfl⟩
  go_wp2_with fail
  refine (H3.out _).mono ?_
  rintro e w' ⟨rfl, rfl⟩
  go_wp2_with fail
  refine (H4.out _).mono ?_
  rintro e w' ⟨rfl, rfl⟩
  go_wp2_with fail
  try rw [EX.out]
  go_ret3
  exact ⟨rfl, (((((bw.setCell (p := ⟨w.heap.size, 0, none⟩) (Nat.le_refl _) _).setCell (p := ⟨w.heap.size, 1, none⟩) (Nat.le_refl _) _).setCell (p := ⟨w.heap.size, 2, none⟩) (Nat.le_refl _) _).setCell (p := ⟨w.heap.size, 3, none⟩) (Nat.le_refl _) _).setCell (p := ⟨w.heap.size, 4, none⟩) (Nat.le_refl _) _)⟩
theorem rdo_false_9 (x y p a b c X q1 q2 q3 q4 : Nat) (N V Z C : Int) (w : World) (hx : x < 65536) (hy : y < 65536) (hp : p < 256) (ha : x % 256 = a) (hb : y % 256 = b) (hc : p / 1 % 2 = c) (hX : X < 65536)
    (hm : ∀ w, Calls Try.prog 25 #[.int .u8 9, .int .i64 a, .int .i64 c, .bool false] w fun e w' => e = .returned (.agg #[.int .i64 X, .int .i64 N, .int .i64 V, .int .i64 Z, .int .i64 C]) ∧ Below w.heap.size w w')
    (h1 : ∀ w, Calls Try.prog 27 #[.int .u8 p, .int .i64 128, .int .i64 N] w fun e w' => e = .returned (.int .u8 q1) ∧ w = w')
    (h2 : ∀ w, Calls Try.prog 27 #[.int .u8 q1, .int .i64 64, .int .i64 V] w fun e w' => e = .returned (.int .u8 q2) ∧ w = w')
    (h3 : ∀ w, Calls Try.prog 27 #[.int .u8 q2, .int .i64 2, .int .i64 Z] w fun e w' => e = .returned (.int .u8 q3) ∧ w = w')
    (h4 : ∀ w, Calls Try.prog 27 #[.int .u8 q3, .int .i64 1, .int .i64 C] w fun e w' => e = .returned (.int .u8 q4) ∧ w = w') :
    Calls Try.prog 9 #[.int .u8 9, .int .u16 x, .int .u16 y, .int .u8 p, .bool false] w fun e w' => e = .returned (.tuple #[.int .u16 X, .int .u8 q4, .bool true]) ∧ Below w.heap.size w w' := by
  have EA := Lib.hid (show (x : Int) % 256 = (a : Nat) by omega)
  have EB := Lib.hid (show (y : Int) % 256 = (b : Nat) by omega)
  have EX := Lib.hid (show IntKind.u16.wrap (X : Int) = (X : Nat) from wrap16 X hX)
  have HC := Lib.hid hc
  have HM := Lib.hid hm
  have H1 := Lib.hid h1
  have H2 := Lib.hid h2
  have H3 := Lib.hid h3
  have H4 := Lib.hid h4
  clear ha hb hc hm h1 h2 h3 h4
  go_enter Try.func9, Try.ntmps9
  go_wp2_with fail
  refine (size_f _).mono ?_
  rintro e w' ⟨rfl, rfl⟩
  go_wp2_with fail
  refine (size_f _).mono ?_
  rintro e w' ⟨rfl, rfl⟩
  go_wp2_with fail
  rw [EA.out, EB.out]
  refine (flag_1 p c _ hp HC.out).mono ?_
  rintro e w' ⟨rfl, rfl⟩
  go_wp2_with fail
  refine (HM.out _).mono ?_
  rintro e w1 ⟨rfl, b1⟩
  have B1 : Whole w1 w.heap.size 40 #[.int .i64 0, .int .i64 0, .int .i64 0, .int .i64 0, .int .i64 0] := (Whole.fresh w 40 _).below b1 (by simp)
  have hlt := B1.lt
  have bw : Below w.heap.size w w1 := ((Below.refl _ _).alloc (Nat.le_refl _) _).trans (b1.mono (by simp))
  have c0 := B1.cell 0
  have c1 := B1.cell 1
  have c2 := B1.cell 2
  have c3 := B1.cell 3
  have c4 := B1.cell 4
  have f0 := B1.free 0
  have f1 := B1.free 1
  have f2 := B1.free 2
  have f3 := B1.free 3
  have f4 := B1.free 4
  clear b1 B1 HM
  go_wp2_with fail
  refine (H1.out _).mono ?_
  rintro e w' ⟨rfl, rfl⟩
  go_wp2_with fail
  refine (H2.out _).mono ?_
  rintro e w' ⟨rfl, rfl⟩
  go_wp2_with fail
  refine (H3.out _).mono ?_
  rintro e w' ⟨rfl, rfl⟩
  go_wp2_with fail
  refine (H4.out _).mono ?_
  rintro e w' ⟨rfl, rfl⟩
  go_wp2_with fail
  try rw [EX.out]
  go_ret3
  exact ⟨rfl, (((((bw.setCell (p := ⟨w.heap.size, 0, none⟩) (Nat.le_refl _) _).setCell (p := ⟨w.heap.size, 1, none⟩) (Nat.le_refl _) _).setCell (p := ⟨w.heap.size, 2, none⟩) (Nat.le_refl _) _).setCell (p := ⟨w.heap.size, 3, none⟩) (Nat.le_refl _) _).setCell (p := ⟨w.heap.size, 4, none⟩) (Nat.le_refl _) _)⟩
theorem rdo_false_10 (x y p a b c X q1 q2 q3 q4 : Nat) (N V Z C : Int) (w : World) (hx : x < 65536) (hy : y < 65536) (hp : p < 256) (ha : x % 256 = a) (hb : y % 256 = b) (hc : p / 1 % 2 = c) (hX : X < 65536)
    (hm : ∀ w, Calls Try.prog 25 #[.int .u8 10, .int .i64 a, .int .i64 c, .bool false] w fun e w' => e = .returned (.agg #[.int .i64 X, .int .i64 N, .int .i64 V, .int .i64 Z, .int .i64 C]) ∧ Below w.heap.size w w')
    (h1 : ∀ w, Calls Try.prog 27 #[.int .u8 p, .int .i64 128, .int .i64 N] w fun e w' => e = .returned (.int .u8 q1) ∧ w = w')
    (h2 : ∀ w, Calls Try.prog 27 #[.int .u8 q1, .int .i64 64, .int .i64 V] w fun e w' => e = .returned (.int .u8 q2) ∧ w = w')
    (h3 : ∀ w, Calls Try.prog 27 #[.int .u8 q2, .int .i64 2, .int .i64 Z] w fun e w' => e = .returned (.int .u8 q3) ∧ w = w')
    (h4 : ∀ w, Calls Try.prog 27 #[.int .u8 q3, .int .i64 1, .int .i64 C] w fun e w' => e = .returned (.int .u8 q4) ∧ w = w') :
    Calls Try.prog 9 #[.int .u8 10, .int .u16 x, .int .u16 y, .int .u8 p, .bool false] w fun e w' => e = .returned (.tuple #[.int .u16 X, .int .u8 q4, .bool true]) ∧ Below w.heap.size w w' := by
  have EA := Lib.hid (show (x : Int) % 256 = (a : Nat) by omega)
  have EB := Lib.hid (show (y : Int) % 256 = (b : Nat) by omega)
  have EX := Lib.hid (show IntKind.u16.wrap (X : Int) = (X : Nat) from wrap16 X hX)
  have HC := Lib.hid hc
  have HM := Lib.hid hm
  have H1 := Lib.hid h1
  have H2 := Lib.hid h2
  have H3 := Lib.hid h3
  have H4 := Lib.hid h4
  clear ha hb hc hm h1 h2 h3 h4
  go_enter Try.func9, Try.ntmps9
  go_wp2_with fail
  refine (size_f _).mono ?_
  rintro e w' ⟨rfl, rfl⟩
  go_wp2_with fail
  refine (size_f _).mono ?_
  rintro e w' ⟨rfl, rfl⟩
  go_wp2_with fail
  rw [EA.out, EB.out]
  refine (flag_1 p c _ hp HC.out).mono ?_
  rintro e w' ⟨rfl, rfl⟩
  go_wp2_with fail
  refine (HM.out _).mono ?_
  rintro e w1 ⟨rfl, b1⟩
  have B1 : Whole w1 w.heap.size 40 #[.int .i64 0, .int .i64 0, .int .i64 0, .int .i64 0, .int .i64 0] := (Whole.fresh w 40 _).below b1 (by simp)
  have hlt := B1.lt
  have bw : Below w.heap.size w w1 := ((Below.refl _ _).alloc (Nat.le_refl _) _).trans (b1.mono (by simp))
  have c0 := B1.cell 0
  have c1 := B1.cell 1
  have c2 := B1.cell 2
  have c3 := B1.cell 3
  have c4 := B1.cell 4
  have f0 := B1.free 0
  have f1 := B1.free 1
  have f2 := B1.free 2
  have f3 := B1.free 3
  have f4 := B1.free 4
  clear b1 B1 HM
  go_wp2_with fail
  refine (H1.out _).mono ?_
  rintro e w' ⟨rfl, rfl⟩
  go_wp2_with fail
  refine (H2.out _).mono ?_
  rintro e w' ⟨rfl, rfl⟩
  go_wp2_with fail
  refine (H3.out _).mono ?_
  rintro e w' ⟨rfl, rfl⟩
  go_wp2_with fail
  refine (H4.out _).mono ?_
  rintro e w' ⟨rfl, rfl⟩
  go_wp2_with fail
  try rw [EX.out]
  go_ret3
  exact ⟨rfl, (((((bw.setCell (p := ⟨w.heap.size, 0, none⟩) (Nat.le_refl _) _).setCell (p := ⟨w.heap.size, 1, none⟩) (Nat.le_refl _) _).setCell (p := ⟨w.heap.size, 2, none⟩) (Nat.le_refl _) _).setCell (p := ⟨w.heap.size, 3, none⟩) (Nat.le_refl _) _).setCell (p := ⟨w.heap.size, 4, none⟩) (Nat.le_refl _) _)⟩
theorem rdo_false_11 (x y p a b c X q1 q2 q3 q4 : Nat) (N V Z C : Int) (w : World) (hx : x < 65536) (hy : y < 65536) (hp : p < 256) (ha : x % 256 = a) (hb : y % 256 = b) (hc : p / 1 % 2 = c) (hX : X < 65536)
    (hm : ∀ w, Calls Try.prog 25 #[.int .u8 11, .int .i64 a, .int .i64 c, .bool false] w fun e w' => e = .returned (.agg #[.int .i64 X, .int .i64 N, .int .i64 V, .int .i64 Z, .int .i64 C]) ∧ Below w.heap.size w w')
    (h1 : ∀ w, Calls Try.prog 27 #[.int .u8 p, .int .i64 128, .int .i64 N] w fun e w' => e = .returned (.int .u8 q1) ∧ w = w')
    (h2 : ∀ w, Calls Try.prog 27 #[.int .u8 q1, .int .i64 64, .int .i64 V] w fun e w' => e = .returned (.int .u8 q2) ∧ w = w')
    (h3 : ∀ w, Calls Try.prog 27 #[.int .u8 q2, .int .i64 2, .int .i64 Z] w fun e w' => e = .returned (.int .u8 q3) ∧ w = w')
    (h4 : ∀ w, Calls Try.prog 27 #[.int .u8 q3, .int .i64 1, .int .i64 C] w fun e w' => e = .returned (.int .u8 q4) ∧ w = w') :
    Calls Try.prog 9 #[.int .u8 11, .int .u16 x, .int .u16 y, .int .u8 p, .bool false] w fun e w' => e = .returned (.tuple #[.int .u16 X, .int .u8 q4, .bool true]) ∧ Below w.heap.size w w' := by
  have EA := Lib.hid (show (x : Int) % 256 = (a : Nat) by omega)
  have EB := Lib.hid (show (y : Int) % 256 = (b : Nat) by omega)
  have EX := Lib.hid (show IntKind.u16.wrap (X : Int) = (X : Nat) from wrap16 X hX)
  have HC := Lib.hid hc
  have HM := Lib.hid hm
  have H1 := Lib.hid h1
  have H2 := Lib.hid h2
  have H3 := Lib.hid h3
  have H4 := Lib.hid h4
  clear ha hb hc hm h1 h2 h3 h4
  go_enter Try.func9, Try.ntmps9
  go_wp2_with fail
  refine (size_f _).mono ?_
  rintro e w' ⟨rfl, rfl⟩
  go_wp2_with fail
  refine (size_f _).mono ?_
  rintro e w' ⟨rfl, rfl⟩
  go_wp2_with fail
  rw [EA.out, EB.out]
  refine (flag_1 p c _ hp HC.out).mono ?_
  rintro e w' ⟨rfl, rfl⟩
  go_wp2_with fail
  refine (HM.out _).mono ?_
  rintro e w1 ⟨rfl, b1⟩
  have B1 : Whole w1 w.heap.size 40 #[.int .i64 0, .int .i64 0, .int .i64 0, .int .i64 0, .int .i64 0] := (Whole.fresh w 40 _).below b1 (by simp)
  have hlt := B1.lt
  have bw : Below w.heap.size w w1 := ((Below.refl _ _).alloc (Nat.le_refl _) _).trans (b1.mono (by simp))
  have c0 := B1.cell 0
  have c1 := B1.cell 1
  have c2 := B1.cell 2
  have c3 := B1.cell 3
  have c4 := B1.cell 4
  have f0 := B1.free 0
  have f1 := B1.free 1
  have f2 := B1.free 2
  have f3 := B1.free 3
  have f4 := B1.free 4
  clear b1 B1 HM
  go_wp2_with fail
  refine (H1.out _).mono ?_
  rintro e w' ⟨rfl, rfl⟩
  go_wp2_with fail
  refine (H2.out _).mono ?_
  rintro e w' ⟨rfl, rfl⟩
  go_wp2_with fail
  refine (H3.out _).mono ?_
  rintro e w' ⟨rfl, rfl⟩
  go_wp2_with fail
  refine (H4.out _).mono ?_
  rintro e w' ⟨rfl, rfl⟩
  go_wp2_with fail
  try rw [EX.out]
  go_ret3
  exact ⟨rfl, (((((bw.setCell (p := ⟨w.heap.size, 0, none⟩) (Nat.le_refl _) _).setCell (p := ⟨w.heap.size, 1, none⟩) (Nat.le_refl _) _).setCell (p := ⟨w.heap.size, 2, none⟩) (Nat.le_refl _) _).setCell (p := ⟨w.heap.size, 3, none⟩) (Nat.le_refl _) _).setCell (p := ⟨w.heap.size, 4, none⟩) (Nat.le_refl _) _)⟩
theorem rdo_false_5 (x y p a b c X q1 q2 q3 q4 : Nat) (N V Z C : Int) (w : World) (hx : x < 65536) (hy : y < 65536) (hp : p < 256) (ha : x % 256 = a) (hb : y % 256 = b) (hc : p / 1 % 2 = c) (hX : X < 65536)
    (hm : ∀ w, Calls Try.prog 26 #[.int .u8 5, .int .i64 a, .int .i64 b, .bool false] w fun e w' => e = .returned (.agg #[.int .i64 X, .int .i64 N, .int .i64 V, .int .i64 Z, .int .i64 C]) ∧ Below w.heap.size w w')
    (h1 : ∀ w, Calls Try.prog 27 #[.int .u8 p, .int .i64 128, .int .i64 N] w fun e w' => e = .returned (.int .u8 q1) ∧ w = w')
    (h2 : ∀ w, Calls Try.prog 27 #[.int .u8 q1, .int .i64 64, .int .i64 V] w fun e w' => e = .returned (.int .u8 q2) ∧ w = w')
    (h3 : ∀ w, Calls Try.prog 27 #[.int .u8 q2, .int .i64 2, .int .i64 Z] w fun e w' => e = .returned (.int .u8 q3) ∧ w = w')
    (h4 : ∀ w, Calls Try.prog 27 #[.int .u8 q3, .int .i64 1, .int .i64 C] w fun e w' => e = .returned (.int .u8 q4) ∧ w = w') :
    Calls Try.prog 9 #[.int .u8 5, .int .u16 x, .int .u16 y, .int .u8 p, .bool false] w fun e w' => e = .returned (.tuple #[.int .u16 X, .int .u8 q4, .bool true]) ∧ Below w.heap.size w w' := by
  have EA := Lib.hid (show (x : Int) % 256 = (a : Nat) by omega)
  have EB := Lib.hid (show (y : Int) % 256 = (b : Nat) by omega)
  have EX := Lib.hid (show IntKind.u16.wrap (X : Int) = (X : Nat) from wrap16 X hX)
  have HC := Lib.hid hc
  have HM := Lib.hid hm
  have H1 := Lib.hid h1
  have H2 := Lib.hid h2
  have H3 := Lib.hid h3
  have H4 := Lib.hid h4
  clear ha hb hc hm h1 h2 h3 h4
  go_enter Try.func9, Try.ntmps9
  go_wp2_with fail
  refine (size_f _).mono ?_
  rintro e w' ⟨rfl, rfl⟩
  go_wp2_with fail
  refine (size_f _).mono ?_
  rintro e w' ⟨rfl, rfl⟩
  go_wp2_with fail
  rw [EA.out, EB.out]
  refine (flag_1 p c _ hp HC.out).mono ?_
  rintro e w' ⟨rfl, rfl⟩
  go_wp2_with fail
  refine (HM.out _).mono ?_
  rintro e w1 ⟨rfl, b1⟩
  have B1 : Whole w1 w.heap.size 40 #[.int .i64 0, .int .i64 0, .int .i64 0, .int .i64 0, .int .i64 0] := (Whole.fresh w 40 _).below b1 (by simp)
  have hlt := B1.lt
  have bw : Below w.heap.size w w1 := ((Below.refl _ _).alloc (Nat.le_refl _) _).trans (b1.mono (by simp))
  have c0 := B1.cell 0
  have c1 := B1.cell 1
  have c2 := B1.cell 2
  have c3 := B1.cell 3
  have c4 := B1.cell 4
  have f0 := B1.free 0
  have f1 := B1.free 1
  have f2 := B1.free 2
  have f3 := B1.free 3
  have f4 := B1.free 4
  clear b1 B1 HM
  go_wp2_with fail
  refine (H1.out _).mono ?_
  rintro e w' ⟨rfl, rfl⟩
  go_wp2_with fail
  refine (H2.out _).mono ?_
  rintro e w' ⟨rfl, rfl⟩
  go_wp2_with fail
  refine (H3.out _).mono ?_
  rintro e w' ⟨rfl, rfl⟩
  go_wp2_with fail
  refine (H4.out _).mono ?_
  rintro e w' ⟨rfl, rfl⟩
  go_wp2_with fail
  try rw [EX.out]
  go_ret3
  exact ⟨rfl, (((((bw.setCell (p := ⟨w.heap.size, 0, none⟩) (Nat.le_refl _) _).setCell (p := ⟨w.heap.size, 1, none⟩) (Nat.le_refl _) _).setCell (p := ⟨w.heap.size, 2, none⟩) (Nat.le_refl _) _).setCell (p := ⟨w.heap.size, 3, none⟩) (Nat.le_refl _) _).setCell (p := ⟨w.heap.size, 4, none⟩) (Nat.le_refl _) _)⟩
theorem rdo_false_6 (x y p a b c X q1 q2 q3 q4 : Nat) (N V Z C : Int) (w : World) (hx : x < 65536) (hy : y < 65536) (hp : p < 256) (ha : x % 256 = a) (hb : y % 256 = b) (hc : p / 1 % 2 = c) (hX : X < 65536)
    (hm : ∀ w, Calls Try.prog 26 #[.int .u8 6, .int .i64 a, .int .i64 b, .bool false] w fun e w' => e = .returned (.agg #[.int .i64 X, .int .i64 N, .int .i64 V, .int .i64 Z, .int .i64 C]) ∧ Below w.heap.size w w')
    (h1 : ∀ w, Calls Try.prog 27 #[.int .u8 p, .int .i64 128, .int .i64 N] w fun e w' => e = .returned (.int .u8 q1) ∧ w = w')
    (h2 : ∀ w, Calls Try.prog 27 #[.int .u8 q1, .int .i64 64, .int .i64 V] w fun e w' => e = .returned (.int .u8 q2) ∧ w = w')
    (h3 : ∀ w, Calls Try.prog 27 #[.int .u8 q2, .int .i64 2, .int .i64 Z] w fun e w' => e = .returned (.int .u8 q3) ∧ w = w')
    (h4 : ∀ w, Calls Try.prog 27 #[.int .u8 q3, .int .i64 1, .int .i64 C] w fun e w' => e = .returned (.int .u8 q4) ∧ w = w') :
    Calls Try.prog 9 #[.int .u8 6, .int .u16 x, .int .u16 y, .int .u8 p, .bool false] w fun e w' => e = .returned (.tuple #[.int .u16 X, .int .u8 q4, .bool true]) ∧ Below w.heap.size w w' := by
  have EA := Lib.hid (show (x : Int) % 256 = (a : Nat) by omega)
  have EB := Lib.hid (show (y : Int) % 256 = (b : Nat) by omega)
  have EX := Lib.hid (show IntKind.u16.wrap (X : Int) = (X : Nat) from wrap16 X hX)
  have HC := Lib.hid hc
  have HM := Lib.hid hm
  have H1 := Lib.hid h1
  have H2 := Lib.hid h2
  have H3 := Lib.hid h3
  have H4 := Lib.hid h4
  clear ha hb hc hm h1 h2 h3 h4
  go_enter Try.func9, Try.ntmps9
  go_wp2_with fail
  refine (size_f _).mono ?_
  rintro e w' ⟨rfl, rfl⟩
  go_wp2_with fail
  refine (size_f _).mono ?_
  rintro e w' ⟨rfl, rfl⟩
  go_wp2_with fail
  rw [EA.out, EB.out]
  refine (flag_1 p c _ hp HC.out).mono ?_
  rintro e w' ⟨rfl, rfl⟩
  go_wp2_with fail
  refine (HM.out _).mono ?_
  rintro e w1 ⟨rfl, b1⟩
  have B1 : Whole w1 w.heap.size 40 #[.int .i64 0, .int .i64 0, .int .i64 0, .int .i64 0, .int .i64 0] := (Whole.fresh w 40 _).below b1 (by simp)
  have hlt := B1.lt
  have bw : Below w.heap.size w w1 := ((Below.refl _ _).alloc (Nat.le_refl _) _).trans (b1.mono (by simp))
  have c0 := B1.cell 0
  have c1 := B1.cell 1
  have c2 := B1.cell 2
  have c3 := B1.cell 3
  have c4 := B1.cell 4
  have f0 := B1.free 0
  have f1 := B1.free 1
  have f2 := B1.free 2
  have f3 := B1.free 3
  have f4 := B1.free 4
  clear b1 B1 HM
  go_wp2_with fail
  refine (H1.out _).mono ?_
  rintro e w' ⟨rfl, rfl⟩
  go_wp2_with fail
  refine (H2.out _).mono ?_
  rintro e w' ⟨rfl, rfl⟩
  go_wp2_with fail
  refine (H3.out _).mono ?_
  rintro e w' ⟨rfl, rfl⟩
  go_wp2_with fail
  refine (H4.out _).mono ?_
  rintro e w' ⟨rfl, rfl⟩
  go_wp2_with fail
  try rw [EX.out]
  go_ret3
  exact ⟨rfl, (((((bw.setCell (p := ⟨w.heap.size, 0, none⟩) (Nat.le_refl _) _).setCell (p := ⟨w.heap.size, 1, none⟩) (Nat.le_refl _) _).setCell (p := ⟨w.heap.size, 2, none⟩) (Nat.le_refl _) _).setCell (p := ⟨w.heap.size, 3, none⟩) (Nat.le_refl _) _).setCell (p := ⟨w.heap.size, 4, none⟩) (Nat.le_refl _) _)⟩
theorem rdo_false_7 (x y p a b c X q1 q2 q3 q4 : Nat) (N V Z C : Int) (w : World) (hx : x < 65536) (hy : y < 65536) (hp : p < 256) (ha : x % 256 = a) (hb : y % 256 = b) (hc : p / 1 % 2 = c) (hX : X < 65536)
    (hm : ∀ w, Calls Try.prog 26 #[.int .u8 7, .int .i64 a, .int .i64 b, .bool false] w fun e w' => e = .returned (.agg #[.int .i64 X, .int .i64 N, .int .i64 V, .int .i64 Z, .int .i64 C]) ∧ Below w.heap.size w w')
    (h1 : ∀ w, Calls Try.prog 27 #[.int .u8 p, .int .i64 128, .int .i64 N] w fun e w' => e = .returned (.int .u8 q1) ∧ w = w')
    (h2 : ∀ w, Calls Try.prog 27 #[.int .u8 q1, .int .i64 64, .int .i64 V] w fun e w' => e = .returned (.int .u8 q2) ∧ w = w')
    (h3 : ∀ w, Calls Try.prog 27 #[.int .u8 q2, .int .i64 2, .int .i64 Z] w fun e w' => e = .returned (.int .u8 q3) ∧ w = w')
    (h4 : ∀ w, Calls Try.prog 27 #[.int .u8 q3, .int .i64 1, .int .i64 C] w fun e w' => e = .returned (.int .u8 q4) ∧ w = w') :
    Calls Try.prog 9 #[.int .u8 7, .int .u16 x, .int .u16 y, .int .u8 p, .bool false] w fun e w' => e = .returned (.tuple #[.int .u16 X, .int .u8 q4, .bool true]) ∧ Below w.heap.size w w' := by
  have EA := Lib.hid (show (x : Int) % 256 = (a : Nat) by omega)
  have EB := Lib.hid (show (y : Int) % 256 = (b : Nat) by omega)
  have EX := Lib.hid (show IntKind.u16.wrap (X : Int) = (X : Nat) from wrap16 X hX)
  have HC := Lib.hid hc
  have HM := Lib.hid hm
  have H1 := Lib.hid h1
  have H2 := Lib.hid h2
  have H3 := Lib.hid h3
  have H4 := Lib.hid h4
  clear ha hb hc hm h1 h2 h3 h4
  go_enter Try.func9, Try.ntmps9
  go_wp2_with fail
  refine (size_f _).mono ?_
  rintro e w' ⟨rfl, rfl⟩
  go_wp2_with fail
  refine (size_f _).mono ?_
  rintro e w' ⟨rfl, rfl⟩
  go_wp2_with fail
  rw [EA.out, EB.out]
  refine (flag_1 p c _ hp HC.out).mono ?_
  rintro e w' ⟨rfl, rfl⟩
  go_wp2_with fail
  refine (HM.out _).mono ?_
  rintro e w1 ⟨rfl, b1⟩
  have B1 : Whole w1 w.heap.size 40 #[.int .i64 0, .int .i64 0, .int .i64 0, .int .i64 0, .int .i64 0] := (Whole.fresh w 40 _).below b1 (by simp)
  have hlt := B1.lt
  have bw : Below w.heap.size w w1 := ((Below.refl _ _).alloc (Nat.le_refl _) _).trans (b1.mono (by simp))
  have c0 := B1.cell 0
  have c1 := B1.cell 1
  have c2 := B1.cell 2
  have c3 := B1.cell 3
  have c4 := B1.cell 4
  have f0 := B1.free 0
  have f1 := B1.free 1
  have f2 := B1.free 2
  have f3 := B1.free 3
  have f4 := B1.free 4
  clear b1 B1 HM
  go_wp2_with fail
  refine (H1.out _).mono ?_
  rintro e w' ⟨rfl, rfl⟩
  go_wp2_with fail
  refine (H2.out _).mono ?_
  rintro e w' ⟨rfl, rfl⟩
  go_wp2_with fail
  refine (H3.out _).mono ?_
  rintro e w' ⟨rfl, rfl⟩
  go_wp2_with fail
  refine (H4.out _).mono ?_
  rintro e w' ⟨rfl, rfl⟩
  go_wp2_with fail
  try rw [EX.out]
  go_ret3
  exact ⟨rfl, (((((bw.setCell (p := ⟨w.heap.size, 0, none⟩) (Nat.le_refl _) _).setCell (p := ⟨w.heap.size, 1, none⟩) (Nat.le_refl _) _).setCell (p := ⟨w.heap.size, 2, none⟩) (Nat.le_refl _) _).setCell (p := ⟨w.heap.size, 3, none⟩) (Nat.le_refl _) _).setCell (p := ⟨w.heap.size, 4, none⟩) (Nat.le_refl _) _)⟩
theorem rdo_false_12 (x y p a b c X q1 q2 q3 q4 : Nat) (N V Z C : Int) (w : World) (hx : x < 65536) (hy : y < 65536) (hp : p < 256) (ha : x % 256 = a) (hb : y % 256 = b) (hc : p / 1 % 2 = c) (hX : X < 65536)
    (hm : ∀ w, Calls Try.prog 26 #[.int .u8 12, .int .i64 a, .int .i64 b, .bool false] w fun e w' => e = .returned (.agg #[.int .i64 X, .int .i64 N, .int .i64 V, .int .i64 Z, .int .i64 C]) ∧ Below w.heap.size w w')
    (h1 : ∀ w, Calls Try.prog 27 #[.int .u8 p, .int .i64 128, .int .i64 N] w fun e w' => e = .returned (.int .u8 q1) ∧ w = w')
    (h2 : ∀ w, Calls Try.prog 27 #[.int .u8 q1, .int .i64 64, .int .i64 V] w fun e w' => e = .returned (.int .u8 q2) ∧ w = w')
    (h3 : ∀ w, Calls Try.prog 27 #[.int .u8 q2, .int .i64 2, .int .i64 Z] w fun e w' => e = .returned (.int .u8 q3) ∧ w = w')
    (h4 : ∀ w, Calls Try.prog 27 #[.int .u8 q3, .int .i64 1, .int .i64 C] w fun e w' => e = .returned (.int .u8 q4) ∧ w = w') :
    Calls Try.prog 9 #[.int .u8 12, .int .u16 x, .int .u16 y, .int .u8 p, .bool false] w fun e w' => e = .returned (.tuple #[.int .u16 X, .int .u8 q4, .bool true]) ∧ Below w.heap.size w w' := by
  have EA := Lib.hid (show (x : Int) % 256 = (a : Nat) by omega)
  have EB := Lib.hid (show (y : Int) % 256 = (b : Nat) by omega)
  have EX := Lib.hid (show IntKind.u16.wrap (X : Int) = (X : Nat) from wrap16 X hX)
  have HC := Lib.hid hc
  have HM := Lib.hid hm
  have H1 := Lib.hid h1
  have H2 := Lib.hid h2
  have H3 := Lib.hid h3
  have H4 := Lib.hid h4
  clear ha hb hc hm h1 h2 h3 h4
  go_enter Try.func9, Try.ntmps9
  go_wp2_with fail
  refine (size_f _).mono ?_
  rintro e w' ⟨rfl, rfl⟩
  go_wp2_with fail
  refine (size_f _).mono ?_
  rintro e w' ⟨rfl, rfl⟩
  go_wp2_with fail
  rw [EA.out, EB.out]
  refine (flag_1 p c _ hp HC.out).mono ?_
  rintro e w' ⟨rfl, rfl⟩
  go_wp2_with fail
  refine (HM.out _).mono ?_
  rintro e w1 ⟨rfl, b1⟩
  have B1 : Whole w1 w.heap.size 40 #[.int .i64 0, .int .i64 0, .int .i64 0, .int .i64 0, .int .i64 0] := (Whole.fresh w 40 _).below b1 (by simp)
  have hlt := B1.lt
  have bw : Below w.heap.size w w1 := ((Below.refl _ _).alloc (Nat.le_refl _) _).trans (b1.mono (by simp))
  have c0 := B1.cell 0
  have c1 := B1.cell 1
  have c2 := B1.cell 2
  have c3 := B1.cell 3
  have c4 := B1.cell 4
  have f0 := B1.free 0
  have f1 := B1.free 1
  have f2 := B1.free 2
  have f3 := B1.free 3
  have f4 := B1.free 4
  clear b1 B1 HM
  go_wp2_with fail
  refine (H1.out _).mono ?_
  rintro e w' ⟨rfl, rfl⟩
  go_wp2_with fail
  refine (H2.out _).mono ?_
  rintro e w' ⟨rfl, rfl⟩
  go_wp2_with fail
  refine (H3.out _).mono ?_
  rintro e w' ⟨rfl, rfl⟩
  go_wp2_with fail
  refine (H4.out _).mono ?_
  rintro e w' ⟨rfl, rfl⟩
  go_wp2_with fail
  try rw [EX.out]
  go_ret3
  exact ⟨rfl, (((((bw.setCell (p := ⟨w.heap.size, 0, none⟩) (Nat.le_refl _) _).setCell (p := ⟨w.heap.size, 1, none⟩) (Nat.le_refl _) _).setCell (p := ⟨w.heap.size, 2, none⟩) (Nat.le_refl _) _).setCell (p := ⟨w.heap.size, 3, none⟩) (Nat.le_refl _) _).setCell (p := ⟨w.heap.size, 4, none⟩) (Nat.le_refl _) _)⟩
theorem rdo_false_13 (x y p a b c X q1 q2 q3 q4 : Nat) (N V Z C : Int) (w : World) (hx : x < 65536) (hy : y < 65536) (hp : p < 256) (ha : x % 256 = a) (hb : y % 256 = b) (hc : p / 1 % 2 = c) (hX : X < 65536)
    (hm : ∀ w, Calls Try.prog 26 #[.int .u8 13, .int .i64 a, .int .i64 b, .bool false] w fun e w' => e = .returned (.agg #[.int .i64 X, .int .i64 N, .int .i64 V, .int .i64 Z, .int .i64 C]) ∧ Below w.heap.size w w')
    (h1 : ∀ w, Calls Try.prog 27 #[.int .u8 p, .int .i64 128, .int .i64 N] w fun e w' => e = .returned (.int .u8 q1) ∧ w = w')
    (h2 : ∀ w, Calls Try.prog 27 #[.int .u8 q1, .int .i64 64, .int .i64 V] w fun e w' => e = .returned (.int .u8 q2) ∧ w = w')
    (h3 : ∀ w, Calls Try.prog 27 #[.int .u8 q2, .int .i64 2, .int .i64 Z] w fun e w' => e = .returned (.int .u8 q3) ∧ w = w')
    (h4 : ∀ w, Calls Try.prog 27 #[.int .u8 q3, .int .i64 1, .int .i64 C] w fun e w' => e = .returned (.int .u8 q4) ∧ w = w') :
    Calls Try.prog 9 #[.int .u8 13, .int .u16 x, .int .u16 y, .int .u8 p, .bool false] w fun e w' => e = .returned (.tuple #[.int .u16 X, .int .u8 q4, .bool true]) ∧ Below w.heap.size w w' := by
  have EA := Lib.hid (show (x : Int) % 256 = (a : Nat) by omega)
  have EB := Lib.hid (show (y : Int) % 256 = (b : Nat) by omega)
  have EX := Lib.hid (show IntKind.u16.wrap (X : Int) = (X : Nat) from wrap16 X hX)
  have HC := Lib.hid hc
  have HM := Lib.hid hm
  have H1 := Lib.hid h1
  have H2 := Lib.hid h2
  have H3 := Lib.hid h3
  have H4 := Lib.hid h4
  clear ha hb hc hm h1 h2 h3 h4
  go_enter Try.func9, Try.ntmps9
  go_wp2_with fail
  refine (size_f _).mono ?_
  rintro e w' ⟨rfl, rfl⟩
  go_wp2_with fail
  refine (size_f _).mono ?_
  rintro e w' ⟨rfl, rfl⟩
  go_wp2_with fail
  rw [EA.out, EB.out]
  refine (flag_1 p c _ hp HC.out).mono ?_
  rintro e w' ⟨rfl, rfl⟩
  go_wp2_with fail
  refine (HM.out _).mono ?_
  rintro e w1 ⟨rfl, b1⟩
  have B1 : Whole w1 w.heap.size 40 #[.int .i64 0, .int .i64 0, .int .i64 0, .int .i64 0, .int .i64 0] := (Whole.fresh w 40 _).below b1 (by simp)
  have hlt := B1.lt
  have bw : Below w.heap.size w w1 := ((Below.refl _ _).alloc (Nat.le_refl _) _).trans (b1.mono (by simp))
  have c0 := B1.cell 0
  have c1 := B1.cell 1
  have c2 := B1.cell 2
  have c3 := B1.cell 3
  have c4 := B1.cell 4
  have f0 := B1.free 0
  have f1 := B1.free 1
  have f2 := B1.free 2
  have f3 := B1.free 3
  have f4 := B1.free 4
  clear b1 B1 HM
  go_wp2_with fail
  refine (H1.out _).mono ?_
  rintro e w' ⟨rfl, rfl⟩
  go_wp2_with fail
  refine (H2.out _).mono ?_
  rintro e w' ⟨rfl, rfl⟩
  go_wp2_with fail
  refine (H3.out _).mono ?_
  rintro e w' ⟨rfl, rfl⟩
  go_wp2_with fail
  refine (H4.out _).mono ?_
  rintro e w' ⟨rfl, rfl⟩
  go_wp2_with fail
  try rw [EX.out]
  go_ret3
  exact ⟨rfl, (((((bw.setCell (p := ⟨w.heap.size, 0, none⟩) (Nat.le_refl _) _).setCell (p := ⟨w.heap.size, 1, none⟩) (Nat.le_refl _) _).setCell (p := ⟨w.heap.size, 2, none⟩) (Nat.le_refl _) _).setCell (p := ⟨w.heap.size, 3, none⟩) (Nat.le_refl _) _).setCell (p := ⟨w.heap.size, 4, none⟩) (Nat.le_refl _) _)⟩
theorem rdo_false_14 (x y p a b c X q1 q2 q3 q4 : Nat) (N V Z C : Int) (w : World) (hx : x < 65536) (hy : y < 65536) (hp : p < 256) (ha : x % 256 = a) (hb : y % 256 = b) (hc : p / 1 % 2 = c) (hX : X < 65536)
    (hm : ∀ w, Calls Try.prog 26 #[.int .u8 14, .int .i64 a, .int .i64 b, .bool false] w fun e w' => e = .returned (.agg #[.int .i64 X, .int .i64 N, .int .i64 V, .int .i64 Z, .int .i64 C]) ∧ Below w.heap.size w w')
    (h1 : ∀ w, Calls Try.prog 27 #[.int .u8 p, .int .i64 128, .int .i64 N] w fun e w' => e = .returned (.int .u8 q1) ∧ w = w')
    (h2 : ∀ w, Calls Try.prog 27 #[.int .u8 q1, .int .i64 64, .int .i64 V] w fun e w' => e = .returned (.int .u8 q2) ∧ w = w')
    (h3 : ∀ w, Calls Try.prog 27 #[.int .u8 q2, .int .i64 2, .int .i64 Z] w fun e w' => e = .returned (.int .u8 q3) ∧ w = w')
    (h4 : ∀ w, Calls Try.prog 27 #[.int .u8 q3, .int .i64 1, .int .i64 C] w fun e w' => e = .returned (.int .u8 q4) ∧ w = w') :
    Calls Try.prog 9 #[.int .u8 14, .int .u16 x, .int .u16 y, .int .u8 p, .bool false] w fun e w' => e = .returned (.tuple #[.int .u16 X, .int .u8 q4, .bool true]) ∧ Below w.heap.size w w' := by
  have EA := Lib.hid (show (x : Int) % 256 = (a : Nat) by omega)
  have EB := Lib.hid (show (y : Int) % 256 = (b : Nat) by omega)
  have EX := Lib.hid (show IntKind.u16.wrap (X : Int) = (X : Nat) from wrap16 X hX)
  have HC := Lib.hid hc
  have HM := Lib.hid hm
  have H1 := Lib.hid h1
  have H2 := Lib.hid h2
  have H3 := Lib.hid h3
  have H4 := Lib.hid h4
  clear ha hb hc hm h1 h2 h3 h4
  go_enter Try.func9, Try.ntmps9
  go_wp2_with fail
  refine (size_f _).mono ?_
  rintro e w' ⟨rfl, rfl⟩
  go_wp2_with fail
  refine (size_f _).mono ?_
  rintro e w' ⟨rfl, rfl⟩
  go_wp2_with fail
  rw [EA.out, EB.out]
  refine (flag_1 p c _ hp HC.out).mono ?_
  rintro e w' ⟨rfl, rfl⟩
  go_wp2_with fail
  refine (HM.out _).mono ?_
  rintro e w1 ⟨rfl, b1⟩
  have B1 : Whole w1 w.heap.size 40 #[.int .i64 0, .int .i64 0, .int .i64 0, .int .i64 0, .int .i64 0] := (Whole.fresh w 40 _).below b1 (by simp)
  have hlt := B1.lt
  have bw : Below w.heap.size w w1 := ((Below.refl _ _).alloc (Nat.le_refl _) _).trans (b1.mono (by simp))
  have c0 := B1.cell 0
  have c1 := B1.cell 1
  have c2 := B1.cell 2
  have c3 := B1.cell 3
  have c4 := B1.cell 4
  have f0 := B1.free 0
  have f1 := B1.free 1
  have f2 := B1.free 2
  have f3 := B1.free 3
  have f4 := B1.free 4
  clear b1 B1 HM
  go_wp2_with fail
  refine (H1.out _).mono ?_
  rintro e w' ⟨rfl, rfl⟩
  go_wp2_with fail
  refine (H2.out _).mono ?_
  rintro e w' ⟨rfl, rfl⟩
  go_wp2_with fail
  refine (H3.out _).mono ?_
  rintro e w' ⟨rfl, rfl⟩
  go_wp2_with fail
  refine (H4.out _).mono ?_
  rintro e w' ⟨rfl, rfl⟩
  go_wp2_with fail
  try rw [EX.out]
  go_ret3
  exact ⟨rfl, (((((bw.setCell (p := ⟨w.heap.size, 0, none⟩) (Nat.le_refl _) _).setCell (p := ⟨w.heap.size, 1, none⟩) (Nat.le_refl _) _).setCell (p := ⟨w.heap.size, 2, none⟩) (Nat.le_refl _) _).setCell (p := ⟨w.heap.size, 3, none⟩) (Nat.le_refl _) _).setCell (p := ⟨w.heap.size, 4, none⟩) (Nat.le_refl _) _)⟩
theorem rdo_false_15 (x y p a b c X q1 q2 q3 q4 : Nat) (N V Z C : Int) (w : World) (hx : x < 65536) (hy : y < 65536) (hp : p < 256) (ha : x % 256 = a) (hb : y % 256 = b) (hc : p / 1 % 2 = c) (hX : X < 65536)
    (hm : ∀ w, Calls Try.prog 26 #[.int .u8 15, .int .i64 a, .int .i64 b, .bool false] w fun e w' => e = .returned (.agg #[.int .i64 X, .int .i64 N, .int .i64 V, .int .i64 Z, .int .i64 C]) ∧ Below w.heap.size w w')
    (h1 : ∀ w, Calls Try.prog 27 #[.int .u8 p, .int .i64 128, .int .i64 N] w fun e w' => e = .returned (.int .u8 q1) ∧ w = w')
    (h2 : ∀ w, Calls Try.prog 27 #[.int .u8 q1, .int .i64 64, .int .i64 V] w fun e w' => e = .returned (.int .u8 q2) ∧ w = w')
    (h3 : ∀ w, Calls Try.prog 27 #[.int .u8 q2, .int .i64 2, .int .i64 Z] w fun e w' => e = .returned (.int .u8 q3) ∧ w = w')
    (h4 : ∀ w, Calls Try.prog 27 #[.int .u8 q3, .int .i64 1, .int .i64 C] w fun e w' => e = .returned (.int .u8 q4) ∧ w = w') :
    Calls Try.prog 9 #[.int .u8 15, .int .u16 x, .int .u16 y, .int .u8 p, .bool false] w fun e w' => e = .returned (.tuple #[.int .u16 X, .int .u8 q4, .bool true]) ∧ Below w.heap.size w w' := by
  have EA := Lib.hid (show (x : Int) % 256 = (a : Nat) by omega)
  have EB := Lib.hid (show (y : Int) % 256 = (b : Nat) by omega)
  have EX := Lib.hid (show IntKind.u16.wrap (X : Int) = (X : Nat) from wrap16 X hX)
  have HC := Lib.hid hc
  have HM := Lib.hid hm
  have H1 := Lib.hid h1
  have H2 := Lib.hid h2
  have H3 := Lib.hid h3
  have H4 := Lib.hid h4
  clear ha hb hc hm h1 h2 h3 h4
  go_enter Try.func9, Try.ntmps9
  go_wp2_with fail
  refine (size_f _).mono ?_
  rintro e w' ⟨rfl, rfl⟩
  go_wp2_with fail
  refine (size_f _).mono ?_
  rintro e w' ⟨rfl, rfl⟩
  go_wp2_with fail
  rw [EA.out, EB.out]
  refine (flag_1 p c _ hp HC.out).mono ?_
  rintro e w' ⟨rfl, rfl⟩
  go_wp2_with fail
  refine (HM.out _).mono ?_
  rintro e w1 ⟨rfl, b1⟩
  have B1 : Whole w1 w.heap.size 40 #[.int .i64 0, .int .i64 0, .int .i64 0, .int .i64 0, .int .i64 0] := (Whole.fresh w 40 _).below b1 (by simp)
  have hlt := B1.lt
  have bw : Below w.heap.size w w1 := ((Below.refl _ _).alloc (Nat.le_refl _) _).trans (b1.mono (by simp))
  have c0 := B1.cell 0
  have c1 := B1.cell 1
  have c2 := B1.cell 2
  have c3 := B1.cell 3
  have c4 := B1.cell 4
  have f0 := B1.free 0
  have f1 := B1.free 1
  have f2 := B1.free 2
  have f3 := B1.free 3
  have f4 := B1.free 4
  clear b1 B1 HM
  go_wp2_with fail
  refine (H1.out _).mono ?_
  rintro e w' ⟨rfl, rfl⟩
  go_wp2_with fail
  refine (H2.out _).mono ?_
  rintro e w' ⟨rfl, rfl⟩
  go_wp2_with fail
  refine (H3.out _).mono ?_
  rintro e w' ⟨rfl, rfl⟩
  go_wp2_with fail
  refine (H4.out _).mono ?_
  rintro e w' ⟨rfl, rfl⟩
  go_wp2_with fail
  try rw [EX.out]
  go_ret3
  exact ⟨rfl, (((((bw.setCell (p := ⟨w.heap.size, 0, none⟩) (Nat.le_refl _) _).setCell (p := ⟨w.heap.size, 1, none⟩) (Nat.le_refl _) _).setCell (p := ⟨w.heap.size, 2, none⟩) (Nat.le_refl _) _).setCell (p := ⟨w.heap.size, 3, none⟩) (Nat.le_refl _) _).setCell (p := ⟨w.heap.size, 4, none⟩) (Nat.le_refl _) _)⟩
theorem rdo_false_16 (x y p a b c X q1 q2 q3 q4 : Nat) (N V Z C : Int) (w : World) (hx : x < 65536) (hy : y < 65536) (hp : p < 256) (ha : x % 256 = a) (hb : y % 256 = b) (hc : p / 1 % 2 = c) (hX : X < 65536)
    (hm : ∀ w, Calls Try.prog 26 #[.int .u8 16, .int .i64 a, .int .i64 b, .bool false] w fun e w' => e = .returned (.agg #[.int .i64 X, .int .i64 N, .int .i64 V, .int .i64 Z, .int .i64 C]) ∧ Below w.heap.size w w')
    (h1 : ∀ w, Calls Try.prog 27 #[.int .u8 p, .int .i64 128, .int .i64 N] w fun e w' => e = .returned (.int .u8 q1) ∧ w = w')
    (h2 : ∀ w, Calls Try.prog 27 #[.int .u8 q1, .int .i64 64, .int .i64 V] w fun e w' => e = .returned (.int .u8 q2) ∧ w = w')
    (h3 : ∀ w, Calls Try.prog 27 #[.int .u8 q2, .int .i64 2, .int .i64 Z] w fun e w' => e = .returned (.int .u8 q3) ∧ w = w')
    (h4 : ∀ w, Calls Try.prog 27 #[.int .u8 q3, .int .i64 1, .int .i64 C] w fun e w' => e = .returned (.int .u8 q4) ∧ w = w') :
    Calls Try.prog 9 #[.int .u8 16, .int .u16 x, .int .u16 y, .int .u8 p, .bool false] w fun e w' => e = .returned (.tuple #[.int .u16 X, .int .u8 q4, .bool true]) ∧ Below w.heap.size w w' := by
  have EA := Lib.hid (show (x : Int) % 256 = (a : Nat) by omega)
  have EB := Lib.hid (show (y : Int) % 256 = (b : Nat) by omega)
  have EX := Lib.hid (show IntKind.u16.wrap (X : Int) = (X : Nat) from wrap16 X hX)
  have HC := Lib.hid hc
  have HM := Lib.hid hm
  have H1 := Lib.hid h1
  have H2 := Lib.hid h2
  have H3 := Lib.hid h3
  have H4 := Lib.hid h4
  clear ha hb hc hm h1 h2 h3 h4
  go_enter Try.func9, Try.ntmps9
  go_wp2_with fail
  refine (size_f _).mono ?_
  rintro e w' ⟨rfl, rfl⟩
  go_wp2_with fail
  refine (size_f _).mono ?_
  rintro e w' ⟨rfl, rfl⟩
  go_wp2_with fail
  rw [EA.out, EB.out]
  refine (flag_1 p c _ hp HC.out).mono ?_
  rintro e w' ⟨rfl, rfl⟩
  go_wp2_with fail
  refine (HM.out _).mono ?_
  rintro e w1 ⟨rfl, b1⟩
  have B1 : Whole w1 w.heap.size 40 #[.int .i64 0, .int .i64 0, .int .i64 0, .int .i64 0, .int .i64 0] := (Whole.fresh w 40 _).below b1 (by simp)
  have hlt := B1.lt
  have bw : Below w.heap.size w w1 := ((Below.refl _ _).alloc (Nat.le_refl _) _).trans (b1.mono (by simp))
  have c0 := B1.cell 0
  have c1 := B1.cell 1
  have c2 := B1.cell 2
  have c3 := B1.cell 3
  have c4 := B1.cell 4
  have f0 := B1.free 0
  have f1 := B1.free 1
  have f2 := B1.free 2
  have f3 := B1.free 3
  have f4 := B1.free 4
  clear b1 B1 HM
  go_wp2_with fail
  refine (H1.out _).mono ?_
  rintro e w' ⟨rfl, rfl⟩
  go_wp2_with fail
  refine (H2.out _).mono ?_
  rintro e w' ⟨rfl, rfl⟩
  go_wp2_with fail
  refine (H3.out _).mono ?_
  rintro e w' ⟨rfl, rfl⟩
  go_wp2_with fail
  refine (H4.out _).mono ?_
  rintro e w' ⟨rfl, rfl⟩
  go_wp2_with fail
  try rw [EX.out]
  go_ret3
  exact ⟨rfl, (((((bw.setCell (p := ⟨w.heap.size, 0, none⟩) (Nat.le_refl _) _).setCell (p := ⟨w.heap.size, 1, none⟩) (Nat.le_refl _) _).setCell (p := ⟨w.heap.size, 2, none⟩) (Nat.le_refl _) _).setCell (p := ⟨w.heap.size, 3, none⟩) (Nat.le_refl _) _).setCell (p := ⟨w.heap.size, 4, none⟩) (Nat.le_refl _) _)⟩
end Go.Proofs.Ytnjbgnkbncjnlaa
