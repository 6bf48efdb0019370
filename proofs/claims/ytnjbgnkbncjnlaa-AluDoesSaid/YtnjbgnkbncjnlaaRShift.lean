/-
  The document's turns.
-/
import Derived.Test.YtnjbgnkbncjnlaaRSmall
namespace Go.Proofs.Ytnjbgnkbncjnlaa
open Go.RowKit Go.Shelf
set_option maxRecDepth 100000
set_option maxHeartbeats 1000000
set_option linter.unusedVariables false
theorem rshift_false_8 (a c x n z o : Nat) (w : World) (ha : a < 256) (hc : c < 2) (hx : a * 2 % 256 = x) (hn : nat (topb false x) = n) (hz : nat (x == 0) = z) (ho : nat (topb false a) = o) :
    Calls Try.prog 25 #[.int .u8 8, .int .i64 a, .int .i64 c, .bool false] w fun e w' => e = .returned (.agg #[.int .i64 x, .int .i64 n, .int .i64 (-1), .int .i64 z, .int .i64 o]) ∧ Below w.heap.size w w' := by
  have E1 := Lib.hid (show (a : Int) * 2 % 256 = (x : Nat) by omega)
  have hx2 : x < 65536 := by omega
  have ha2 : a < 65536 := by omega
  have HN := Lib.hid hn
  have HZ := Lib.hid hz
  have HO := Lib.hid ho
  clear hx hn hz ho
  go_enter Try.func25, Try.ntmps25
  go_wp2_with fail
  refine (size_f _).mono ?_
  rintro e w' ⟨rfl, rfl⟩
  go_wp2_with fail
  rw [E1.out]
  refine (named_at x n z false _ hx2 HN.out HZ.out).mono ?_
  rintro e w1 ⟨rfl, b1⟩
  have B1 : Whole w1 w.heap.size 40 #[.int .i64 0, .int .i64 0, .int .i64 0, .int .i64 0, .int .i64 0] := (Whole.fresh w 40 _).below b1 (by simp)
  have hlt := B1.lt
  have bw : Below w.heap.size w w1 := ((Below.refl _ _).alloc (Nat.le_refl _) _).trans (b1.mono (by simp))
  have c0 := B1.cell 0
  have c1 := B1.cell 1
  have c2 := B1.cell 2
  have c3 := B1.cell 3
  have c4 := B1.cell 4
  have f0 := B1.free 0
  have f1 := B1.free 1
  have f2 := B1.free 2
  have f3 := B1.free 3
  have f4 := B1.free 4
  clear b1 B1
  go_wp2_with fail
  refine (top_at a o false _ ha2 HO.out).mono ?_
  rintro e w' ⟨rfl, rfl⟩
  go_wp2_with fail
  refine bodyPost_ret (v := .agg #[.int .i64 x, .int .i64 n, .int .i64 (-1), .int .i64 z, .int .i64 o]) (by simp [results, Try.results25, go_sem, c0, c1, c2, c3, c4, hlt]) rfl ⟨rfl, ?_⟩
  exact ((((((bw.setCell (p := ⟨w.heap.size, 0, none⟩) (Nat.le_refl _) _).setCell (p := ⟨w.heap.size, 1, none⟩) (Nat.le_refl _) _).setCell (p := ⟨w.heap.size, 2, none⟩) (Nat.le_refl _) _).setCell (p := ⟨w.heap.size, 3, none⟩) (Nat.le_refl _) _).setCell (p := ⟨w.heap.size, 4, none⟩) (Nat.le_refl _) _).alloc (by simp; omega) _)
theorem rshift_false_9 (a c x n z o : Nat) (w : World) (ha : a < 256) (hc : c < 2) (hx : a * 2 % 256 + c = x) (hn : nat (topb false x) = n) (hz : nat (x == 0) = z) (ho : nat (topb false a) = o) :
    Calls Try.prog 25 #[.int .u8 9, .int .i64 a, .int .i64 c, .bool false] w fun e w' => e = .returned (.agg #[.int .i64 x, .int .i64 n, .int .i64 (-1), .int .i64 z, .int .i64 o]) ∧ Below w.heap.size w w' := by
  have E1 := Lib.hid (show (a : Int) * 2 % 256 + c = (x : Nat) by omega)
  have hx2 : x < 65536 := by omega
  have ha2 : a < 65536 := by omega
  have HN := Lib.hid hn
  have HZ := Lib.hid hz
  have HO := Lib.hid ho
  clear hx hn hz ho
  go_enter Try.func25, Try.ntmps25
  go_wp2_with fail
  refine (size_f _).mono ?_
  rintro e w' ⟨rfl, rfl⟩
  go_wp2_with fail
  rw [E1.out]
  refine (named_at x n z false _ hx2 HN.out HZ.out).mono ?_
  rintro e w1 ⟨rfl, b1⟩
  have B1 : Whole w1 w.heap.size 40 #[.int .i64 0, .int .i64 0, .int .i64 0, .int .i64 0, .int .i64 0] := (Whole.fresh w 40 _).below b1 (by simp)
  have hlt := B1.lt
  have bw : Below w.heap.size w w1 := ((Below.refl _ _).alloc (Nat.le_refl _) _).trans (b1.mono (by simp))
  have c0 := B1.cell 0
  have c1 := B1.cell 1
  have c2 := B1.cell 2
  have c3 := B1.cell 3
  have c4 := B1.cell 4
  have f0 := B1.free 0
  have f1 := B1.free 1
  have f2 := B1.free 2
  have f3 := B1.free 3
  have f4 := B1.free 4
  clear b1 B1
  go_wp2_with fail
  refine (top_at a o false _ ha2 HO.out).mono ?_
  rintro e w' ⟨rfl, rfl⟩
  go_wp2_with fail
  refine bodyPost_ret (v := .agg #[.int .i64 x, .int .i64 n, .int .i64 (-1), .int .i64 z, .int .i64 o]) (by simp [results, Try.results25, go_sem, c0, c1, c2, c3, c4, hlt]) rfl ⟨rfl, ?_⟩
  exact ((((((bw.setCell (p := ⟨w.heap.size, 0, none⟩) (Nat.le_refl _) _).setCell (p := ⟨w.heap.size, 1, none⟩) (Nat.le_refl _) _).setCell (p := ⟨w.heap.size, 2, none⟩) (Nat.le_refl _) _).setCell (p := ⟨w.heap.size, 3, none⟩) (Nat.le_refl _) _).setCell (p := ⟨w.heap.size, 4, none⟩) (Nat.le_refl _) _).alloc (by simp; omega) _)
theorem rshift_false_10 (a c x n z o : Nat) (w : World) (ha : a < 256) (hc : c < 2) (hx : a / 2 = x) (hn : nat (topb false x) = n) (hz : nat (x == 0) = z) (ho : a % 2 = o) :
    Calls Try.prog 25 #[.int .u8 10, .int .i64 a, .int .i64 c, .bool false] w fun e w' => e = .returned (.agg #[.int .i64 x, .int .i64 n, .int .i64 (-1), .int .i64 z, .int .i64 o]) ∧ Below w.heap.size w w' := by
  have E1 := Lib.hid (show (a : Int) / 2 = (x : Nat) by omega)
  have hx2 : x < 65536 := by omega
  have ha2 : a < 65536 := by omega
  have HN := Lib.hid hn
  have HZ := Lib.hid hz
  have HO := Lib.hid (show (a : Int) % 2 = (o : Nat) by omega)
  clear hx hn hz ho
  go_enter Try.func25, Try.ntmps25
  go_wp2_with fail
  rw [E1.out]
  refine (named_at x n z false _ hx2 HN.out HZ.out).mono ?_
  rintro e w1 ⟨rfl, b1⟩
  have B1 : Whole w1 w.heap.size 40 #[.int .i64 0, .int .i64 0, .int .i64 0, .int .i64 0, .int .i64 0] := (Whole.fresh w 40 _).below b1 (by simp)
  have hlt := B1.lt
  have bw : Below w.heap.size w w1 := ((Below.refl _ _).alloc (Nat.le_refl _) _).trans (b1.mono (by simp))
  have c0 := B1.cell 0
  have c1 := B1.cell 1
  have c2 := B1.cell 2
  have c3 := B1.cell 3
  have c4 := B1.cell 4
  have f0 := B1.free 0
  have f1 := B1.free 1
  have f2 := B1.free 2
  have f3 := B1.free 3
  have f4 := B1.free 4
  clear b1 B1
  go_wp2_with fail
  try rw [HO.out]
  refine bodyPost_ret (v := .agg #[.int .i64 x, .int .i64 n, .int .i64 (-1), .int .i64 z, .int .i64 o]) (by simp [results, Try.results25, go_sem, c0, c1, c2, c3, c4, hlt]) rfl ⟨rfl, ?_⟩
  exact ((((((bw.setCell (p := ⟨w.heap.size, 0, none⟩) (Nat.le_refl _) _).setCell (p := ⟨w.heap.size, 1, none⟩) (Nat.le_refl _) _).setCell (p := ⟨w.heap.size, 2, none⟩) (Nat.le_refl _) _).setCell (p := ⟨w.heap.size, 3, none⟩) (Nat.le_refl _) _).setCell (p := ⟨w.heap.size, 4, none⟩) (Nat.le_refl _) _).alloc (by simp; omega) _)
theorem rshift_false_11 (a c x n z o : Nat) (w : World) (ha : a < 256) (hc : c < 2) (hx : a / 2 + c * 128 = x) (hn : nat (topb false x) = n) (hz : nat (x == 0) = z) (ho : a % 2 = o) :
    Calls Try.prog 25 #[.int .u8 11, .int .i64 a, .int .i64 c, .bool false] w fun e w' => e = .returned (.agg #[.int .i64 x, .int .i64 n, .int .i64 (-1), .int .i64 z, .int .i64 o]) ∧ Below w.heap.size w w' := by
  have E1 := Lib.hid (show (a : Int) / 2 + (c : Int) * 256 / 2 = (x : Nat) by omega)
  have hx2 : x < 65536 := by omega
  have ha2 : a < 65536 := by omega
  have HN := Lib.hid hn
  have HZ := Lib.hid hz
  have HO := Lib.hid (show (a : Int) % 2 = (o : Nat) by omega)
  clear hx hn hz ho
  go_enter Try.func25, Try.ntmps25
  go_wp2_with fail
  refine (size_f _).mono ?_
  rintro e w' ⟨rfl, rfl⟩
  go_wp2_with fail
  rw [E1.out]
  refine (named_at x n z false _ hx2 HN.out HZ.out).mono ?_
  rintro e w1 ⟨rfl, b1⟩
  have B1 : Whole w1 w.heap.size 40 #[.int .i64 0, .int .i64 0, .int .i64 0, .int .i64 0, .int .i64 0] := (Whole.fresh w 40 _).below b1 (by simp)
  have hlt := B1.lt
  have bw : Below w.heap.size w w1 := ((Below.refl _ _).alloc (Nat.le_refl _) _).trans (b1.mono (by simp))
  have c0 := B1.cell 0
  have c1 := B1.cell 1
  have c2 := B1.cell 2
  have c3 := B1.cell 3
  have c4 := B1.cell 4
  have f0 := B1.free 0
  have f1 := B1.free 1
  have f2 := B1.free 2
  have f3 := B1.free 3
  have f4 := B1.free 4
  clear b1 B1
  go_wp2_with fail
  try rw [HO.out]
  refine bodyPost_ret (v := .agg #[.int .i64 x, .int .i64 n, .int .i64 (-1), .int .i64 z, .int .i64 o]) (by simp [results, Try.results25, go_sem, c0, c1, c2, c3, c4, hlt]) rfl ⟨rfl, ?_⟩
  exact ((((((bw.setCell (p := ⟨w.heap.size, 0, none⟩) (Nat.le_refl _) _).setCell (p := ⟨w.heap.size, 1, none⟩) (Nat.le_refl _) _).setCell (p := ⟨w.heap.size, 2, none⟩) (Nat.le_refl _) _).setCell (p := ⟨w.heap.size, 3, none⟩) (Nat.le_refl _) _).setCell (p := ⟨w.heap.size, 4, none⟩) (Nat.le_refl _) _).alloc (by simp; omega) _)
theorem rshift_true_8 (a c x n z o : Nat) (w : World) (ha : a < 65536) (hc : c < 2) (hx : a * 2 % 65536 = x) (hn : nat (topb true x) = n) (hz : nat (x == 0) = z) (ho : nat (topb true a) = o) :
    Calls Try.prog 25 #[.int .u8 8, .int .i64 a, .int .i64 c, .bool true] w fun e w' => e = .returned (.agg #[.int .i64 x, .int .i64 n, .int .i64 (-1), .int .i64 z, .int .i64 o]) ∧ Below w.heap.size w w' := by
  have E1 := Lib.hid (show (a : Int) * 2 % 65536 = (x : Nat) by omega)
  have hx2 : x < 65536 := by omega
  have ha2 : a < 65536 := by omega
  have HN := Lib.hid hn
  have HZ := Lib.hid hz
  have HO := Lib.hid ho
  clear hx hn hz ho
  go_enter Try.func25, Try.ntmps25
  go_wp2_with fail
  refine (size_t _).mono ?_
  rintro e w' ⟨rfl, rfl⟩
  go_wp2_with fail
  rw [E1.out]
  refine (named_at x n z true _ hx2 HN.out HZ.out).mono ?_
  rintro e w1 ⟨rfl, b1⟩
  have B1 : Whole w1 w.heap.size 40 #[.int .i64 0, .int .i64 0, .int .i64 0, .int .i64 0, .int .i64 0] := (Whole.fresh w 40 _).below b1 (by simp)
  have hlt := B1.lt
  have bw : Below w.heap.size w w1 := ((Below.refl _ _).alloc (Nat.le_refl _) _).trans (b1.mono (by simp))
  have c0 := B1.cell 0
  have c1 := B1.cell 1
  have c2 := B1.cell 2
  have c3 := B1.cell 3
  have c4 := B1.cell 4
  have f0 := B1.free 0
  have f1 := B1.free 1
  have f2 := B1.free 2
  have f3 := B1.free 3
  have f4 := B1.free 4
  clear b1 B1
  go_wp2_with fail
  refine (top_at a o true _ ha2 HO.out).mono ?_
  rintro e w' ⟨rfl, rfl⟩
  go_wp2_with fail
  refine bodyPost_ret (v := .agg #[.int .i64 x, .int .i64 n, .int .i64 (-1), .int .i64 z, .int .i64 o]) (by simp [results, Try.results25, go_sem, c0, c1, c2, c3, c4, hlt]) rfl ⟨rfl, ?_⟩
  exact ((((((bw.setCell (p := ⟨w.heap.size, 0, none⟩) (Nat.le_refl _) _).setCell (p := ⟨w.heap.size, 1, none⟩) (Nat.le_refl _) _).setCell (p := ⟨w.heap.size, 2, none⟩) (Nat.le_refl _) _).setCell (p := ⟨w.heap.size, 3, none⟩) (Nat.le_refl _) _).setCell (p := ⟨w.heap.size, 4, none⟩) (Nat.le_refl _) _).alloc (by simp; omega) _)
theorem rshift_true_9 (a c x n z o : Nat) (w : World) (ha : a < 65536) (hc : c < 2) (hx : a * 2 % 65536 + c = x) (hn : nat (topb true x) = n) (hz : nat (x == 0) = z) (ho : nat (topb true a) = o) :
    Calls Try.prog 25 #[.int .u8 9, .int .i64 a, .int .i64 c, .bool true] w fun e w' => e = .returned (.agg #[.int .i64 x, .int .i64 n, .int .i64 (-1), .int .i64 z, .int .i64 o]) ∧ Below w.heap.size w w' := by
  have E1 := Lib.hid (show (a : Int) * 2 % 65536 + c = (x : Nat) by omega)
  have hx2 : x < 65536 := by omega
  have ha2 : a < 65536 := by omega
  have HN := Lib.hid hn
  have HZ := Lib.hid hz
  have HO := Lib.hid ho
  clear hx hn hz ho
  go_enter Try.func25, Try.ntmps25
  go_wp2_with fail
  refine (size_t _).mono ?_
  rintro e w' ⟨rfl, rfl⟩
  go_wp2_with fail
  rw [E1.out]
  refine (named_at x n z true _ hx2 HN.out HZ.out).mono ?_
  rintro e w1 ⟨rfl, b1⟩
  have B1 : Whole w1 w.heap.size 40 #[.int .i64 0, .int .i64 0, .int .i64 0, .int .i64 0, .int .i64 0] := (Whole.fresh w 40 _).below b1 (by simp)
  have hlt := B1.lt
  have bw : Below w.heap.size w w1 := ((Below.refl _ _).alloc (Nat.le_refl _) _).trans (b1.mono (by simp))
  have c0 := B1.cell 0
  have c1 := B1.cell 1
  have c2 := B1.cell 2
  have c3 := B1.cell 3
  have c4 := B1.cell 4
  have f0 := B1.free 0
  have f1 := B1.free 1
  have f2 := B1.free 2
  have f3 := B1.free 3
  have f4 := B1.free 4
  clear b1 B1
  go_wp2_with fail
  refine (top_at a o true _ ha2 HO.out).mono ?_
  rintro e w' ⟨rfl, rfl⟩
  go_wp2_with fail
  refine bodyPost_ret (v := .agg #[.int .i64 x, .int .i64 n, .int .i64 (-1), .int .i64 z, .int .i64 o]) (by simp [results, Try.results25, go_sem, c0, c1, c2, c3, c4, hlt]) rfl ⟨rfl, ?_⟩
  exact ((((((bw.setCell (p := ⟨w.heap.size, 0, none⟩) (Nat.le_refl _) _).setCell (p := ⟨w.heap.size, 1, none⟩) (Nat.le_refl _) _).setCell (p := ⟨w.heap.size, 2, none⟩) (Nat.le_refl _) _).setCell (p := ⟨w.heap.size, 3, none⟩) (Nat.le_refl _) _).setCell (p := ⟨w.heap.size, 4, none⟩) (Nat.le_refl _) _).alloc (by simp; omega) _)
theorem rshift_true_10 (a c x n z o : Nat) (w : World) (ha : a < 65536) (hc : c < 2) (hx : a / 2 = x) (hn : nat (topb true x) = n) (hz : nat (x == 0) = z) (ho : a % 2 = o) :
    Calls Try.prog 25 #[.int .u8 10, .int .i64 a, .int .i64 c, .bool true] w fun e w' => e = .returned (.agg #[.int .i64 x, .int .i64 n, .int .i64 (-1), .int .i64 z, .int .i64 o]) ∧ Below w.heap.size w w' := by
  have E1 := Lib.hid (show (a : Int) / 2 = (x : Nat) by omega)
  have hx2 : x < 65536 := by omega
  have ha2 : a < 65536 := by omega
  have HN := Lib.hid hn
  have HZ := Lib.hid hz
  have HO := Lib.hid (show (a : Int) % 2 = (o : Nat) by omega)
  clear hx hn hz ho
  go_enter Try.func25, Try.ntmps25
  go_wp2_with fail
  rw [E1.out]
  refine (named_at x n z true _ hx2 HN.out HZ.out).mono ?_
  rintro e w1 ⟨rfl, b1⟩
  have B1 : Whole w1 w.heap.size 40 #[.int .i64 0, .int .i64 0, .int .i64 0, .int .i64 0, .int .i64 0] := (Whole.fresh w 40 _).below b1 (by simp)
  have hlt := B1.lt
  have bw : Below w.heap.size w w1 := ((Below.refl _ _).alloc (Nat.le_refl _) _).trans (b1.mono (by simp))
  have c0 := B1.cell 0
  have c1 := B1.cell 1
  have c2 := B1.cell 2
  have c3 := B1.cell 3
  have c4 := B1.cell 4
  have f0 := B1.free 0
  have f1 := B1.free 1
  have f2 := B1.free 2
  have f3 := B1.free 3
  have f4 := B1.free 4
  clear b1 B1
  go_wp2_with fail
  try rw [HO.out]
  refine bodyPost_ret (v := .agg #[.int .i64 x, .int .i64 n, .int .i64 (-1), .int .i64 z, .int .i64 o]) (by simp [results, Try.results25, go_sem, c0, c1, c2, c3, c4, hlt]) rfl ⟨rfl, ?_⟩
  exact ((((((bw.setCell (p := ⟨w.heap.size, 0, none⟩) (Nat.le_refl _) _).setCell (p := ⟨w.heap.size, 1, none⟩) (Nat.le_refl _) _).setCell (p := ⟨w.heap.size, 2, none⟩) (Nat.le_refl _) _).setCell (p := ⟨w.heap.size, 3, none⟩) (Nat.le_refl _) _).setCell (p := ⟨w.heap.size, 4, none⟩) (Nat.le_refl _) _).alloc (by simp; omega) _)
theorem rshift_true_11 (a c x n z o : Nat) (w : World) (ha : a < 65536) (hc : c < 2) (hx : a / 2 + c * 32768 = x) (hn : nat (topb true x) = n) (hz : nat (x == 0) = z) (ho : a % 2 = o) :
    Calls Try.prog 25 #[.int .u8 11, .int .i64 a, .int .i64 c, .bool true] w fun e w' => e = .returned (.agg #[.int .i64 x, .int .i64 n, .int .i64 (-1), .int .i64 z, .int .i64 o]) ∧ Below w.heap.size w w' := by
  have E1 := Lib.hid (show (a : Int) / 2 + (c : Int) * 65536 / 2 = (x : Nat) by omega)
  have hx2 : x < 65536 := by omega
  have ha2 : a < 65536 := by omega
  have HN := Lib.hid hn
  have HZ := Lib.hid hz
  have HO := Lib.hid (show (a : Int) % 2 = (o : Nat) by omega)
  clear hx hn hz ho
  go_enter Try.func25, Try.ntmps25
  go_wp2_with fail
  refine (size_t _).mono ?_
  rintro e w' ⟨rfl, rfl⟩
  go_wp2_with fail
  rw [E1.out]
  refine (named_at x n z true _ hx2 HN.out HZ.out).mono ?_
  rintro e w1 ⟨rfl, b1⟩
  have B1 : Whole w1 w.heap.size 40 #[.int .i64 0, .int .i64 0, .int .i64 0, .int .i64 0, .int .i64 0] := (Whole.fresh w 40 _).below b1 (by simp)
  have hlt := B1.lt
  have bw : Below w.heap.size w w1 := ((Below.refl _ _).alloc (Nat.le_refl _) _).trans (b1.mono (by simp))
  have c0 := B1.cell 0
  have c1 := B1.cell 1
  have c2 := B1.cell 2
  have c3 := B1.cell 3
  have c4 := B1.cell 4
  have f0 := B1.free 0
  have f1 := B1.free 1
  have f2 := B1.free 2
  have f3 := B1.free 3
  have f4 := B1.free 4
  clear b1 B1
  go_wp2_with fail
  try rw [HO.out]
  refine bodyPost_ret (v := .agg #[.int .i64 x, .int .i64 n, .int .i64 (-1), .int .i64 z, .int .i64 o]) (by simp [results, Try.results25, go_sem, c0, c1, c2, c3, c4, hlt]) rfl ⟨rfl, ?_⟩
  exact ((((((bw.setCell (p := ⟨w.heap.size, 0, none⟩) (Nat.le_refl _) _).setCell (p := ⟨w.heap.size, 1, none⟩) (Nat.le_refl _) _).setCell (p := ⟨w.heap.size, 2, none⟩) (Nat.le_refl _) _).setCell (p := ⟨w.heap.size, 3, none⟩) (Nat.le_refl _) _).setCell (p := ⟨w.heap.size, 4, none⟩) (Nat.le_refl _) _).alloc (by simp; omega) _)
end Go.Proofs.Ytnjbgnkbncjnlaa
