/-
  The document's operations on bits, comparisons and steps.
-/
import Derived.Test.YtnjbgnkbncjnlaaRCommon
namespace Go.Proofs.Ytnjbgnkbncjnlaa
open Go.RowKit Go.Shelf
set_option maxRecDepth 100000
set_option maxHeartbeats 1000000
set_option linter.unusedVariables false
theorem roth_false_5 (a b d n z o : Nat) (w : World) (ha : a < 256) (hb : b < 256) (hd : (a + 256 - b) % 256 = d) (hn : nat (topb false d) = n) (hz : nat (d == 0) = z) (ho : nat (decide (b ≤ a)) = o) :
    Calls Try.prog 26 #[.int .u8 5, .int .i64 a, .int .i64 b, .bool false] w fun e w' => e = .returned (.agg #[.int .i64 a, .int .i64 n, .int .i64 (-1), .int .i64 z, .int .i64 o]) ∧ Below w.heap.size w w' := by
  have ha2 : a < 65536 := by omega
  have hb2 : b < 65536 := by omega
  have E1 := Lib.hid (show ((a : Int) - b) % 256 = (d : Nat) by omega)
  have hd2 : d < 65536 := by omega
  have HN := Lib.hid hn
  have HZ := Lib.hid hz
  have HO := Lib.hid ho
  clear hd hn hz ho
  go_enter Try.func26, Try.ntmps26
  go_wp2_with fail
  refine (size_f _).mono ?_
  rintro e w' ⟨rfl, rfl⟩
  go_wp2_with fail
  refine (size_f _).mono ?_
  rintro e w' ⟨rfl, rfl⟩
  go_wp2_with fail
  rw [E1.out]
  refine (named_at d n z false _ hd2 HN.out HZ.out).mono ?_
  rintro e w1 ⟨rfl, b1⟩
  have B1 : Whole w1 w.heap.size 40 #[.int .i64 0, .int .i64 0, .int .i64 0, .int .i64 0, .int .i64 0] := (Whole.fresh w 40 _).below b1 (by simp)
  have hlt := B1.lt
  have bw : Below w.heap.size w w1 := ((Below.refl _ _).alloc (Nat.le_refl _) _).trans (b1.mono (by simp))
  have c0 := B1.cell 0
  have c1 := B1.cell 1
  have c2 := B1.cell 2
  have c3 := B1.cell 3
  have c4 := B1.cell 4
  have f0 := B1.free 0
  have f1 := B1.free 1
  have f2 := B1.free 2
  have f3 := B1.free 3
  have f4 := B1.free 4
  clear b1 B1
  go_wp2_with fail
  refine (one_at _ o _ HO.out).mono ?_
  rintro e w' ⟨rfl, rfl⟩
  go_wp2_with fail
  refine bodyPost_ret (v := .agg #[.int .i64 a, .int .i64 n, .int .i64 (-1), .int .i64 z, .int .i64 o]) (by simp [results, Try.results26, go_sem, c0, c1, c2, c3, c4, hlt]) rfl ⟨rfl, ?_⟩
  exact ((((((bw.setCell (p := ⟨w.heap.size, 0, none⟩) (Nat.le_refl _) _).setCell (p := ⟨w.heap.size, 1, none⟩) (Nat.le_refl _) _).setCell (p := ⟨w.heap.size, 2, none⟩) (Nat.le_refl _) _).setCell (p := ⟨w.heap.size, 3, none⟩) (Nat.le_refl _) _).setCell (p := ⟨w.heap.size, 4, none⟩) (Nat.le_refl _) _)).alloc (by simp; omega) _
theorem roth_false_6 (a b n v z : Nat) (w : World) (ha : a < 256) (hb : b < 256) (t : Bool) (ht : (a &&& b == 0) = t) (hn : nat (topb false b) = n) (hv : nat (topb false (b * 2 % 256)) = v) (hz : nat t = z) :
    Calls Try.prog 26 #[.int .u8 6, .int .i64 a, .int .i64 b, .bool false] w fun e w' => e = .returned (.agg #[.int .i64 a, .int .i64 n, .int .i64 v, .int .i64 z, .int .i64 (-1)]) ∧ Below w.heap.size w w' := by
  have ha2 : a < 65536 := by omega
  have hb2 : b < 65536 := by omega
  obtain ⟨b2, hb2e⟩ : ∃ b2, b * 2 % 256 = b2 := ⟨_, rfl⟩
  rw [hb2e] at hv
  have E1 := Lib.hid (show (b : Int) * 2 % 256 = (b2 : Nat) by omega)
  have hd2 : b2 < 65536 := by omega
  have HN := Lib.hid hn
  have HZ := Lib.hid hz
  have HV := Lib.hid hv
  have HT := Lib.hid ht
  clear hb2e hn hz hv ht
  go_enter Try.func26, Try.ntmps26
  go_wp2_with fail
  refine (common_at a b t _ ha2 hb2 HT.out).mono ?_
  rintro e w' ⟨rfl, rfl⟩
  go_wp2_with fail
  refine (same_at a z _ _ HZ.out).mono ?_
  rintro e w1 ⟨rfl, b1⟩
  have B1 : Whole w1 w.heap.size 40 #[.int .i64 0, .int .i64 0, .int .i64 0, .int .i64 0, .int .i64 0] := (Whole.fresh w 40 _).below b1 (by simp)
  have hlt := B1.lt
  have bw : Below w.heap.size w w1 := ((Below.refl _ _).alloc (Nat.le_refl _) _).trans (b1.mono (by simp))
  have c0 := B1.cell 0
  have c1 := B1.cell 1
  have c2 := B1.cell 2
  have c3 := B1.cell 3
  have c4 := B1.cell 4
  have f0 := B1.free 0
  have f1 := B1.free 1
  have f2 := B1.free 2
  have f3 := B1.free 3
  have f4 := B1.free 4
  clear b1 B1
  go_wp2_with fail
  refine (top_at b n false _ hb2 HN.out).mono ?_
  rintro e w' ⟨rfl, rfl⟩
  go_wp2_with fail
  refine (size_f _).mono ?_
  rintro e w' ⟨rfl, rfl⟩
  go_wp2_with fail
  rw [E1.out]
  refine (top_at b2 v false _ hd2 HV.out).mono ?_
  rintro e w' ⟨rfl, rfl⟩
  go_wp2_with fail
  refine bodyPost_ret (v := .agg #[.int .i64 a, .int .i64 n, .int .i64 v, .int .i64 z, .int .i64 (-1)]) (by simp [results, Try.results26, go_sem, c0, c1, c2, c3, c4, hlt]) rfl ⟨rfl, ?_⟩
  exact ((((((bw.setCell (p := ⟨w.heap.size, 0, none⟩) (Nat.le_refl _) _).setCell (p := ⟨w.heap.size, 1, none⟩) (Nat.le_refl _) _).setCell (p := ⟨w.heap.size, 2, none⟩) (Nat.le_refl _) _).setCell (p := ⟨w.heap.size, 3, none⟩) (Nat.le_refl _) _).setCell (p := ⟨w.heap.size, 4, none⟩) (Nat.le_refl _) _)).alloc (by simp; omega) _
theorem roth_false_7 (a b n z : Nat) (w : World) (ha : a < 256) (hb : b < 256) (hn : nat (topb false b) = n) (hz : nat (b == 0) = z) :
    Calls Try.prog 26 #[.int .u8 7, .int .i64 a, .int .i64 b, .bool false] w fun e w' => e = .returned (.agg #[.int .i64 b, .int .i64 n, .int .i64 (-1), .int .i64 z, .int .i64 (-1)]) ∧ Below w.heap.size w w' := by
  have ha2 : a < 65536 := by omega
  have hb2 : b < 65536 := by omega
  have HN := Lib.hid hn
  have HZ := Lib.hid hz
  clear hn hz
  go_enter Try.func26, Try.ntmps26
  go_wp2_with fail
  refine (named_at b n z false _ hb2 HN.out HZ.out).mono ?_
  rintro e w1 ⟨rfl, b1⟩
  have B1 : Whole w1 w.heap.size 40 #[.int .i64 0, .int .i64 0, .int .i64 0, .int .i64 0, .int .i64 0] := (Whole.fresh w 40 _).below b1 (by simp)
  have hlt := B1.lt
  have bw : Below w.heap.size w w1 := ((Below.refl _ _).alloc (Nat.le_refl _) _).trans (b1.mono (by simp))
  have c0 := B1.cell 0
  have c1 := B1.cell 1
  have c2 := B1.cell 2
  have c3 := B1.cell 3
  have c4 := B1.cell 4
  have f0 := B1.free 0
  have f1 := B1.free 1
  have f2 := B1.free 2
  have f3 := B1.free 3
  have f4 := B1.free 4
  clear b1 B1
  go_wp2_with fail
  refine bodyPost_ret (v := .agg #[.int .i64 b, .int .i64 n, .int .i64 (-1), .int .i64 z, .int .i64 (-1)]) (by simp [results, Try.results26, go_sem, c0, c1, c2, c3, c4]) rfl ⟨rfl, ?_⟩
  exact (((((bw.setCell (p := ⟨w.heap.size, 0, none⟩) (Nat.le_refl _) _).setCell (p := ⟨w.heap.size, 1, none⟩) (Nat.le_refl _) _).setCell (p := ⟨w.heap.size, 2, none⟩) (Nat.le_refl _) _).setCell (p := ⟨w.heap.size, 3, none⟩) (Nat.le_refl _) _).setCell (p := ⟨w.heap.size, 4, none⟩) (Nat.le_refl _) _)
theorem roth_false_12 (a b d n z : Nat) (w : World) (ha : a < 256) (hb : b < 256) (hd : (a + 1) % 256 = d) (hn : nat (topb false d) = n) (hz : nat (d == 0) = z) :
    Calls Try.prog 26 #[.int .u8 12, .int .i64 a, .int .i64 b, .bool false] w fun e w' => e = .returned (.agg #[.int .i64 d, .int .i64 n, .int .i64 (-1), .int .i64 z, .int .i64 (-1)]) ∧ Below w.heap.size w w' := by
  have ha2 : a < 65536 := by omega
  have hb2 : b < 65536 := by omega
  have E1 := Lib.hid (show ((a : Int) + 1) % 256 = (d : Nat) by omega)
  have hd2 : d < 65536 := by omega
  have HN := Lib.hid hn
  have HZ := Lib.hid hz
  clear hn hz hd
  go_enter Try.func26, Try.ntmps26
  go_wp2_with fail
  refine (size_f _).mono ?_
  rintro e w' ⟨rfl, rfl⟩
  go_wp2_with fail
  rw [E1.out]
  refine (named_at d n z false _ hd2 HN.out HZ.out).mono ?_
  rintro e w1 ⟨rfl, b1⟩
  have B1 : Whole w1 w.heap.size 40 #[.int .i64 0, .int .i64 0, .int .i64 0, .int .i64 0, .int .i64 0] := (Whole.fresh w 40 _).below b1 (by simp)
  have hlt := B1.lt
  have bw : Below w.heap.size w w1 := ((Below.refl _ _).alloc (Nat.le_refl _) _).trans (b1.mono (by simp))
  have c0 := B1.cell 0
  have c1 := B1.cell 1
  have c2 := B1.cell 2
  have c3 := B1.cell 3
  have c4 := B1.cell 4
  have f0 := B1.free 0
  have f1 := B1.free 1
  have f2 := B1.free 2
  have f3 := B1.free 3
  have f4 := B1.free 4
  clear b1 B1
  go_wp2_with fail
  refine bodyPost_ret (v := .agg #[.int .i64 d, .int .i64 n, .int .i64 (-1), .int .i64 z, .int .i64 (-1)]) (by simp [results, Try.results26, go_sem, c0, c1, c2, c3, c4]) rfl ⟨rfl, ?_⟩
  exact (((((bw.setCell (p := ⟨w.heap.size, 0, none⟩) (Nat.le_refl _) _).setCell (p := ⟨w.heap.size, 1, none⟩) (Nat.le_refl _) _).setCell (p := ⟨w.heap.size, 2, none⟩) (Nat.le_refl _) _).setCell (p := ⟨w.heap.size, 3, none⟩) (Nat.le_refl _) _).setCell (p := ⟨w.heap.size, 4, none⟩) (Nat.le_refl _) _)
theorem roth_false_13 (a b d n z : Nat) (w : World) (ha : a < 256) (hb : b < 256) (hd : (a + 256 - 1) % 256 = d) (hn : nat (topb false d) = n) (hz : nat (d == 0) = z) :
    Calls Try.prog 26 #[.int .u8 13, .int .i64 a, .int .i64 b, .bool false] w fun e w' => e = .returned (.agg #[.int .i64 d, .int .i64 n, .int .i64 (-1), .int .i64 z, .int .i64 (-1)]) ∧ Below w.heap.size w w' := by
  have ha2 : a < 65536 := by omega
  have hb2 : b < 65536 := by omega
  have E1 := Lib.hid (show ((a : Int) + 256 - 1) % 256 = (d : Nat) by omega)
  have hd2 : d < 65536 := by omega
  have HN := Lib.hid hn
  have HZ := Lib.hid hz
  clear hn hz hd
  go_enter Try.func26, Try.ntmps26
  go_wp2_with fail
  refine (size_f _).mono ?_
  rintro e w' ⟨rfl, rfl⟩
  go_wp2_with fail
  refine (size_f _).mono ?_
  rintro e w' ⟨rfl, rfl⟩
  go_wp2_with fail
  rw [E1.out]
  refine (named_at d n z false _ hd2 HN.out HZ.out).mono ?_
  rintro e w1 ⟨rfl, b1⟩
  have B1 : Whole w1 w.heap.size 40 #[.int .i64 0, .int .i64 0, .int .i64 0, .int .i64 0, .int .i64 0] := (Whole.fresh w 40 _).below b1 (by simp)
  have hlt := B1.lt
  have bw : Below w.heap.size w w1 := ((Below.refl _ _).alloc (Nat.le_refl _) _).trans (b1.mono (by simp))
  have c0 := B1.cell 0
  have c1 := B1.cell 1
  have c2 := B1.cell 2
  have c3 := B1.cell 3
  have c4 := B1.cell 4
  have f0 := B1.free 0
  have f1 := B1.free 1
  have f2 := B1.free 2
  have f3 := B1.free 3
  have f4 := B1.free 4
  clear b1 B1
  go_wp2_with fail
  refine bodyPost_ret (v := .agg #[.int .i64 d, .int .i64 n, .int .i64 (-1), .int .i64 z, .int .i64 (-1)]) (by simp [results, Try.results26, go_sem, c0, c1, c2, c3, c4]) rfl ⟨rfl, ?_⟩
  exact (((((bw.setCell (p := ⟨w.heap.size, 0, none⟩) (Nat.le_refl _) _).setCell (p := ⟨w.heap.size, 1, none⟩) (Nat.le_refl _) _).setCell (p := ⟨w.heap.size, 2, none⟩) (Nat.le_refl _) _).setCell (p := ⟨w.heap.size, 3, none⟩) (Nat.le_refl _) _).setCell (p := ⟨w.heap.size, 4, none⟩) (Nat.le_refl _) _)
theorem roth_false_14 (a b d z : Nat) (w : World) (ha : a < 256) (hb : b < 256) (t : Bool) (ht : (a &&& b == 0) = t) (hd : a ||| b = d) (hz : nat t = z) :
    Calls Try.prog 26 #[.int .u8 14, .int .i64 a, .int .i64 b, .bool false] w fun e w' => e = .returned (.agg #[.int .i64 d, .int .i64 (-1), .int .i64 (-1), .int .i64 z, .int .i64 (-1)]) ∧ Below w.heap.size w w' := by
  have ha2 : a < 65536 := by omega
  have hb2 : b < 65536 := by omega
  have HZ := Lib.hid hz
  have HT := Lib.hid ht
  have HD := Lib.hid hd
  clear hz ht hd
  go_enter Try.func26, Try.ntmps26
  go_wp2_with fail
  refine (bits_or a b d _ ha2 hb2 HD.out).mono ?_
  rintro e w' ⟨rfl, rfl⟩
  go_wp2_with fail
  refine (common_at a b t _ ha2 hb2 HT.out).mono ?_
  rintro e w' ⟨rfl, rfl⟩
  go_wp2_with fail
  refine (same_at d z _ _ HZ.out).mono ?_
  rintro e w1 ⟨rfl, b1⟩
  have B1 : Whole w1 w.heap.size 40 #[.int .i64 0, .int .i64 0, .int .i64 0, .int .i64 0, .int .i64 0] := (Whole.fresh w 40 _).below b1 (by simp)
  have hlt := B1.lt
  have bw : Below w.heap.size w w1 := ((Below.refl _ _).alloc (Nat.le_refl _) _).trans (b1.mono (by simp))
  have c0 := B1.cell 0
  have c1 := B1.cell 1
  have c2 := B1.cell 2
  have c3 := B1.cell 3
  have c4 := B1.cell 4
  have f0 := B1.free 0
  have f1 := B1.free 1
  have f2 := B1.free 2
  have f3 := B1.free 3
  have f4 := B1.free 4
  clear b1 B1
  go_wp2_with fail
  refine bodyPost_ret (v := .agg #[.int .i64 d, .int .i64 (-1), .int .i64 (-1), .int .i64 z, .int .i64 (-1)]) (by simp [results, Try.results26, go_sem, c0, c1, c2, c3, c4]) rfl ⟨rfl, ?_⟩
  exact (((((bw.setCell (p := ⟨w.heap.size, 0, none⟩) (Nat.le_refl _) _).setCell (p := ⟨w.heap.size, 1, none⟩) (Nat.le_refl _) _).setCell (p := ⟨w.heap.size, 2, none⟩) (Nat.le_refl _) _).setCell (p := ⟨w.heap.size, 3, none⟩) (Nat.le_refl _) _).setCell (p := ⟨w.heap.size, 4, none⟩) (Nat.le_refl _) _)
theorem roth_false_15 (a b d z : Nat) (w : World) (ha : a < 256) (hb : b < 256) (t : Bool) (ht : (a &&& b == 0) = t) (hd : b &&& (65535 - a) = d) (hz : nat t = z) :
    Calls Try.prog 26 #[.int .u8 15, .int .i64 a, .int .i64 b, .bool false] w fun e w' => e = .returned (.agg #[.int .i64 d, .int .i64 (-1), .int .i64 (-1), .int .i64 z, .int .i64 (-1)]) ∧ Below w.heap.size w w' := by
  have ha2 : a < 65536 := by omega
  have hb2 : b < 65536 := by omega
  have HZ := Lib.hid hz
  have HT := Lib.hid ht
  have HD := Lib.hid hd
  clear hz ht hd
  go_enter Try.func26, Try.ntmps26
  go_wp2_with fail
  refine (bits_not a b d _ ha2 hb2 HD.out).mono ?_
  rintro e w' ⟨rfl, rfl⟩
  go_wp2_with fail
  refine (common_at a b t _ ha2 hb2 HT.out).mono ?_
  rintro e w' ⟨rfl, rfl⟩
  go_wp2_with fail
  refine (same_at d z _ _ HZ.out).mono ?_
  rintro e w1 ⟨rfl, b1⟩
  have B1 : Whole w1 w.heap.size 40 #[.int .i64 0, .int .i64 0, .int .i64 0, .int .i64 0, .int .i64 0] := (Whole.fresh w 40 _).below b1 (by simp)
  have hlt := B1.lt
  have bw : Below w.heap.size w w1 := ((Below.refl _ _).alloc (Nat.le_refl _) _).trans (b1.mono (by simp))
  have c0 := B1.cell 0
  have c1 := B1.cell 1
  have c2 := B1.cell 2
  have c3 := B1.cell 3
  have c4 := B1.cell 4
  have f0 := B1.free 0
  have f1 := B1.free 1
  have f2 := B1.free 2
  have f3 := B1.free 3
  have f4 := B1.free 4
  clear b1 B1
  go_wp2_with fail
  refine bodyPost_ret (v := .agg #[.int .i64 d, .int .i64 (-1), .int .i64 (-1), .int .i64 z, .int .i64 (-1)]) (by simp [results, Try.results26, go_sem, c0, c1, c2, c3, c4]) rfl ⟨rfl, ?_⟩
  exact (((((bw.setCell (p := ⟨w.heap.size, 0, none⟩) (Nat.le_refl _) _).setCell (p := ⟨w.heap.size, 1, none⟩) (Nat.le_refl _) _).setCell (p := ⟨w.heap.size, 2, none⟩) (Nat.le_refl _) _).setCell (p := ⟨w.heap.size, 3, none⟩) (Nat.le_refl _) _).setCell (p := ⟨w.heap.size, 4, none⟩) (Nat.le_refl _) _)
theorem roth_false_16 (a b z : Nat) (w : World) (ha : a < 256) (hb : b < 256) (t : Bool) (ht : (a &&& b == 0) = t) (hz : nat t = z) :
    Calls Try.prog 26 #[.int .u8 16, .int .i64 a, .int .i64 b, .bool false] w fun e w' => e = .returned (.agg #[.int .i64 a, .int .i64 (-1), .int .i64 (-1), .int .i64 z, .int .i64 (-1)]) ∧ Below w.heap.size w w' := by
  have ha2 : a < 65536 := by omega
  have hb2 : b < 65536 := by omega
  have HZ := Lib.hid hz
  have HT := Lib.hid ht
  clear hz ht
  go_enter Try.func26, Try.ntmps26
  go_wp2_with fail
  refine (common_at a b t _ ha2 hb2 HT.out).mono ?_
  rintro e w' ⟨rfl, rfl⟩
  go_wp2_with fail
  refine (same_at a z _ _ HZ.out).mono ?_
  rintro e w1 ⟨rfl, b1⟩
  have B1 : Whole w1 w.heap.size 40 #[.int .i64 0, .int .i64 0, .int .i64 0, .int .i64 0, .int .i64 0] := (Whole.fresh w 40 _).below b1 (by simp)
  have hlt := B1.lt
  have bw : Below w.heap.size w w1 := ((Below.refl _ _).alloc (Nat.le_refl _) _).trans (b1.mono (by simp))
  have c0 := B1.cell 0
  have c1 := B1.cell 1
  have c2 := B1.cell 2
  have c3 := B1.cell 3
  have c4 := B1.cell 4
  have f0 := B1.free 0
  have f1 := B1.free 1
  have f2 := B1.free 2
  have f3 := B1.free 3
  have f4 := B1.free 4
  clear b1 B1
  go_wp2_with fail
  refine bodyPost_ret (v := .agg #[.int .i64 a, .int .i64 (-1), .int .i64 (-1), .int .i64 z, .int .i64 (-1)]) (by simp [results, Try.results26, go_sem, c0, c1, c2, c3, c4]) rfl ⟨rfl, ?_⟩
  exact (((((bw.setCell (p := ⟨w.heap.size, 0, none⟩) (Nat.le_refl _) _).setCell (p := ⟨w.heap.size, 1, none⟩) (Nat.le_refl _) _).setCell (p := ⟨w.heap.size, 2, none⟩) (Nat.le_refl _) _).setCell (p := ⟨w.heap.size, 3, none⟩) (Nat.le_refl _) _).setCell (p := ⟨w.heap.size, 4, none⟩) (Nat.le_refl _) _)
end Go.Proofs.Ytnjbgnkbncjnlaa
