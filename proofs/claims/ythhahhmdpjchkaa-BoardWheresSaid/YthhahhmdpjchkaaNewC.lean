/-
  board.New and the document's New: refused, or not.
-/
import Derived.Test.YthhahhmdpjchkaaNewB
namespace Go.Proofs.Ythhahhmdpjchkaa
open Go.RowKit Go.Shelf
set_option maxRecDepth 100000
set_option maxHeartbeats 1000000

theorem new_no_l (l n cp C : Nat) (m : Int) (w : World) (hl : ¬ (1 ≤ l ∧ l ≤ 3)) :
    Calls Try.prog 23 #[cartV l (.slice (some ⟨C, 0, none⟩) n cp) m] w fun e w' => e = .returned (.tuple #[.pointer none, .int .i64 2]) ∧ Below w.heap.size w w' := by
  have HT := Lib.hid (fun W => tableOf_no l W hl)
  have hX := Whole.fresh w 60 (cartCells l (.slice (some ⟨C, 0, none⟩) n cp) m)
  have hB0 : Below w.heap.size w (w.alloc (.cells (cartCells l (.slice (some ⟨C, 0, none⟩) n cp) m) 60)) := (Below.refl _ w).alloc (Nat.le_refl _) _
  unfold cartV
  unfold cartCells at hX hB0
  go_enter Try.func23, Try.ntmps23
  simp only [cartCells]
  go_wp2_with fail
  refine (HT.out _).mono ?_
  rintro e w1 ⟨rfl, hB1⟩
  have hB2 := hB0.trans (hB1.mono (Nat.le_of_lt hX.lt))
  have hB3 := hB2.alloc hB2.size (.cells #[.nilFunc, .nilFunc, .nilFunc, .nilFunc] 72)
  clear hX hB0 hB1 hB2 HT
  go_wp2_with fail
  go_ret2
  exact ⟨rfl, hB3⟩
theorem new_no_n0 (l n cp C : Nat) (m : Int) (w : World) (hl : 1 ≤ l ∧ l ≤ 3) (h : n = 0) :
    Calls Try.prog 23 #[cartV l (.slice (some ⟨C, 0, none⟩) n cp) m] w fun e w' => e = .returned (.tuple #[.pointer none, .int .i64 2]) ∧ Below w.heap.size w w' := by
  have HT := Lib.hid (fun W => tableOf_ok l W hl)
  have e0 : ((n : Int) == 0) = true := by rw [beq_iff_eq]; omega
  have hX := Whole.fresh w 60 (cartCells l (.slice (some ⟨C, 0, none⟩) n cp) m)
  have hB0 : Below w.heap.size w (w.alloc (.cells (cartCells l (.slice (some ⟨C, 0, none⟩) n cp) m) 60)) := (Below.refl _ w).alloc (Nat.le_refl _) _
  clear h
  unfold cartV
  unfold cartCells at hX hB0
  go_enter Try.func23, Try.ntmps23
  simp only [cartCells]
  go_wp2_with fail
  refine (HT.out _).mono ?_
  rintro e w1 ⟨X, rfl, hM, hXl, hB1⟩
  obtain ⟨k1, k2, k3, k4, c4, hr⟩ := rowsOf_form l X
  rw [hr]
  replace hr := Lib.hid hr
  have hX1 := (hX.below hB1 hX.lt).alloc (.cells #[.func (.func k1) #[] #[], .func (.func k2) #[] #[], .func (.func k3) #[] #[], .func (.func k4) #[] c4] 72)
  have hB2 := hB0.trans (hB1.mono (Nat.le_of_lt hX.lt))
  have hB3 := hB2.alloc hB2.size (.cells #[.func (.func k1) #[] #[], .func (.func k2) #[] #[], .func (.func k3) #[] #[], .func (.func k4) #[] c4] 72)
  clear hX hB0 hB1 hB2 HT hXl hM
  have xc := hX1.cell
  go_wp2_with fail
  go_ret2
  exact ⟨rfl, hB3⟩
theorem new_no_n2 (l n cp C : Nat) (m : Int) (w : World) (hl : 1 ≤ l ∧ l ≤ 3) (h : 8388608 < n) :
    Calls Try.prog 23 #[cartV l (.slice (some ⟨C, 0, none⟩) n cp) m] w fun e w' => e = .returned (.tuple #[.pointer none, .int .i64 2]) ∧ Below w.heap.size w w' := by
  have HT := Lib.hid (fun W => tableOf_ok l W hl)
  have e0 : ((n : Int) == 0) = false := by rw [beq_eq_false_iff_ne]; omega
  have e1 : decide (8388608 < (n : Int)) = true := decide_eq_true (by omega)
  have hX := Whole.fresh w 60 (cartCells l (.slice (some ⟨C, 0, none⟩) n cp) m)
  have hB0 : Below w.heap.size w (w.alloc (.cells (cartCells l (.slice (some ⟨C, 0, none⟩) n cp) m) 60)) := (Below.refl _ w).alloc (Nat.le_refl _) _
  clear h
  unfold cartV
  unfold cartCells at hX hB0
  go_enter Try.func23, Try.ntmps23
  simp only [cartCells]
  go_wp2_with fail
  refine (HT.out _).mono ?_
  rintro e w1 ⟨X, rfl, hM, hXl, hB1⟩
  obtain ⟨k1, k2, k3, k4, c4, hr⟩ := rowsOf_form l X
  rw [hr]
  replace hr := Lib.hid hr
  have hX1 := (hX.below hB1 hX.lt).alloc (.cells #[.func (.func k1) #[] #[], .func (.func k2) #[] #[], .func (.func k3) #[] #[], .func (.func k4) #[] c4] 72)
  have hB2 := hB0.trans (hB1.mono (Nat.le_of_lt hX.lt))
  have hB3 := hB2.alloc hB2.size (.cells #[.func (.func k1) #[] #[], .func (.func k2) #[] #[], .func (.func k3) #[] #[], .func (.func k4) #[] c4] 72)
  clear hX hB0 hB1 hB2 HT hXl hM
  have xc := hX1.cell
  go_wp2_with fail
  go_ret2
  exact ⟨rfl, hB3⟩
theorem new_no_m0 (l n cp C : Nat) (m : Int) (w : World) (hl : 1 ≤ l ∧ l ≤ 3) (h1 : 1 ≤ n) (h2 : n ≤ 8388608) (h : m < 0) :
    Calls Try.prog 23 #[cartV l (.slice (some ⟨C, 0, none⟩) n cp) m] w fun e w' => e = .returned (.tuple #[.pointer none, .int .i64 2]) ∧ Below w.heap.size w w' := by
  have HT := Lib.hid (fun W => tableOf_ok l W hl)
  have e0 : ((n : Int) == 0) = false := by rw [beq_eq_false_iff_ne]; omega
  have e1 : decide (8388608 < (n : Int)) = false := decide_eq_false (by omega)
  have hX := Whole.fresh w 60 (cartCells l (.slice (some ⟨C, 0, none⟩) n cp) m)
  have hB0 : Below w.heap.size w (w.alloc (.cells (cartCells l (.slice (some ⟨C, 0, none⟩) n cp) m) 60)) := (Below.refl _ w).alloc (Nat.le_refl _) _
  clear h1 h2
  unfold cartV
  unfold cartCells at hX hB0
  go_enter Try.func23, Try.ntmps23
  simp only [cartCells]
  go_wp2_with fail
  refine (HT.out _).mono ?_
  rintro e w1 ⟨X, rfl, hM, hXl, hB1⟩
  obtain ⟨k1, k2, k3, k4, c4, hr⟩ := rowsOf_form l X
  rw [hr]
  replace hr := Lib.hid hr
  have hX1 := (hX.below hB1 hX.lt).alloc (.cells #[.func (.func k1) #[] #[], .func (.func k2) #[] #[], .func (.func k3) #[] #[], .func (.func k4) #[] c4] 72)
  have hB2 := hB0.trans (hB1.mono (Nat.le_of_lt hX.lt))
  have hB3 := hB2.alloc hB2.size (.cells #[.func (.func k1) #[] #[], .func (.func k2) #[] #[], .func (.func k3) #[] #[], .func (.func k4) #[] c4] 72)
  clear hX hB0 hB1 hB2 HT hXl hM
  have xc := hX1.cell
  go_wp2_with fail
  go_ret2
  exact ⟨rfl, hB3⟩
theorem new_no_m2 (l n cp C : Nat) (m : Int) (w : World) (hl : 1 ≤ l ∧ l ≤ 3) (h1 : 1 ≤ n) (h2 : n ≤ 8388608) (h : 524288 < m) :
    Calls Try.prog 23 #[cartV l (.slice (some ⟨C, 0, none⟩) n cp) m] w fun e w' => e = .returned (.tuple #[.pointer none, .int .i64 2]) ∧ Below w.heap.size w w' := by
  have HT := Lib.hid (fun W => tableOf_ok l W hl)
  have e0 : ((n : Int) == 0) = false := by rw [beq_eq_false_iff_ne]; omega
  have e1 : decide (8388608 < (n : Int)) = false := decide_eq_false (by omega)
  have e2 : ¬ m < 0 := by omega
  have e3 : decide (524288 < m) = true := decide_eq_true (by omega)
  have hX := Whole.fresh w 60 (cartCells l (.slice (some ⟨C, 0, none⟩) n cp) m)
  have hB0 : Below w.heap.size w (w.alloc (.cells (cartCells l (.slice (some ⟨C, 0, none⟩) n cp) m) 60)) := (Below.refl _ w).alloc (Nat.le_refl _) _
  clear h1 h2 h
  unfold cartV
  unfold cartCells at hX hB0
  go_enter Try.func23, Try.ntmps23
  simp only [cartCells]
  go_wp2_with fail
  refine (HT.out _).mono ?_
  rintro e w1 ⟨X, rfl, hM, hXl, hB1⟩
  obtain ⟨k1, k2, k3, k4, c4, hr⟩ := rowsOf_form l X
  rw [hr]
  replace hr := Lib.hid hr
  have hX1 := (hX.below hB1 hX.lt).alloc (.cells #[.func (.func k1) #[] #[], .func (.func k2) #[] #[], .func (.func k3) #[] #[], .func (.func k4) #[] c4] 72)
  have hB2 := hB0.trans (hB1.mono (Nat.le_of_lt hX.lt))
  have hB3 := hB2.alloc hB2.size (.cells #[.func (.func k1) #[] #[], .func (.func k2) #[] #[], .func (.func k3) #[] #[], .func (.func k4) #[] c4] 72)
  clear hX hB0 hB1 hB2 HT hXl hM
  have xc := hX1.cell
  go_wp2_with fail
  go_ret2
  exact ⟨rfl, hB3⟩
theorem new_no (l n cp C : Nat) (m : Int) (w : World) (h : ¬ good l n m) :
    Calls Try.prog 23 #[cartV l (.slice (some ⟨C, 0, none⟩) n cp) m] w fun e w' => e = .returned (.tuple #[.pointer none, .int .i64 2]) ∧ Below w.heap.size w w' := by
  unfold good at h
  by_cases hl : 1 ≤ l ∧ l ≤ 3
  · by_cases h0 : n = 0
    · exact new_no_n0 l n cp C m w hl h0
    by_cases h2 : 8388608 < n
    · exact new_no_n2 l n cp C m w hl h2
    by_cases h3 : m < 0
    · exact new_no_m0 l n cp C m w hl (by omega) (by omega) h3
    · exact new_no_m2 l n cp C m w hl (by omega) (by omega) (by omega)
  · exact new_no_l l n cp C m w hl
theorem rnew_l0 (l n cp C : Nat) (m : Int) (w : World) (h : l < 1) :
    Calls Try.prog 24 #[cartV l (.slice (some ⟨C, 0, none⟩) n cp) m] w fun e w' => e = .returned (.int .i64 2) ∧ Below w.heap.size w w' := by
  have e0 : (l : Int) < 1 := by omega
  have hB0 : Below w.heap.size w (w.alloc (.cells (cartCells l (.slice (some ⟨C, 0, none⟩) n cp) m) 60)) := (Below.refl _ w).alloc (Nat.le_refl _) _
  clear h
  unfold cartV
  unfold cartCells at hB0
  go_enter Try.func24, Try.ntmps24
  simp only [cartCells]
  go_wp2_with fail
  go_ret
  exact ⟨rfl, hB0⟩
theorem rnew_l3 (l n cp C : Nat) (m : Int) (w : World) (h : 3 < l) :
    Calls Try.prog 24 #[cartV l (.slice (some ⟨C, 0, none⟩) n cp) m] w fun e w' => e = .returned (.int .i64 2) ∧ Below w.heap.size w w' := by
  have e0 : ¬ (l : Int) < 1 := by omega
  have e1 : (3 : Int) < (l : Int) := by omega
  have hB0 : Below w.heap.size w (w.alloc (.cells (cartCells l (.slice (some ⟨C, 0, none⟩) n cp) m) 60)) := (Below.refl _ w).alloc (Nat.le_refl _) _
  clear h
  unfold cartV
  unfold cartCells at hB0
  go_enter Try.func24, Try.ntmps24
  simp only [cartCells]
  go_wp2_with fail
  go_ret
  exact ⟨rfl, hB0⟩
theorem rnew_n0 (l n cp C : Nat) (m : Int) (w : World) (hl : 1 ≤ l ∧ l ≤ 3) (h : n = 0) :
    Calls Try.prog 24 #[cartV l (.slice (some ⟨C, 0, none⟩) n cp) m] w fun e w' => e = .returned (.int .i64 2) ∧ Below w.heap.size w w' := by
  have e0 : ¬ (l : Int) < 1 := by omega
  have e1 : ¬ (3 : Int) < (l : Int) := by omega
  have e2 : ((n : Int) == 0) = true := by rw [beq_iff_eq]; omega
  have hB0 : Below w.heap.size w (w.alloc (.cells (cartCells l (.slice (some ⟨C, 0, none⟩) n cp) m) 60)) := (Below.refl _ w).alloc (Nat.le_refl _) _
  clear h hl
  unfold cartV
  unfold cartCells at hB0
  go_enter Try.func24, Try.ntmps24
  simp only [cartCells]
  go_wp2_with fail
  go_ret
  exact ⟨rfl, hB0⟩
theorem rnew_n2 (l n cp C : Nat) (m : Int) (w : World) (hl : 1 ≤ l ∧ l ≤ 3) (h : 8388608 < n) :
    Calls Try.prog 24 #[cartV l (.slice (some ⟨C, 0, none⟩) n cp) m] w fun e w' => e = .returned (.int .i64 2) ∧ Below w.heap.size w w' := by
  have e0 : ¬ (l : Int) < 1 := by omega
  have e1 : ¬ (3 : Int) < (l : Int) := by omega
  have e2 : ((n : Int) == 0) = false := by rw [beq_eq_false_iff_ne]; omega
  have e3 : decide (8388608 < (n : Int)) = true := decide_eq_true (by omega)
  have hB0 : Below w.heap.size w (w.alloc (.cells (cartCells l (.slice (some ⟨C, 0, none⟩) n cp) m) 60)) := (Below.refl _ w).alloc (Nat.le_refl _) _
  clear h hl
  unfold cartV
  unfold cartCells at hB0
  go_enter Try.func24, Try.ntmps24
  simp only [cartCells]
  go_wp2_with fail
  go_ret
  exact ⟨rfl, hB0⟩
theorem rnew_m0 (l n cp C : Nat) (m : Int) (w : World) (hl : 1 ≤ l ∧ l ≤ 3) (h1 : 1 ≤ n) (h2 : n ≤ 8388608) (h : m < 0) :
    Calls Try.prog 24 #[cartV l (.slice (some ⟨C, 0, none⟩) n cp) m] w fun e w' => e = .returned (.int .i64 2) ∧ Below w.heap.size w w' := by
  have e0 : ¬ (l : Int) < 1 := by omega
  have e1 : ¬ (3 : Int) < (l : Int) := by omega
  have e2 : ((n : Int) == 0) = false := by rw [beq_eq_false_iff_ne]; omega
  have e3 : decide (8388608 < (n : Int)) = false := decide_eq_false (by omega)
  have hB0 : Below w.heap.size w (w.alloc (.cells (cartCells l (.slice (some ⟨C, 0, none⟩) n cp) m) 60)) := (Below.refl _ w).alloc (Nat.le_refl _) _
  clear h1 h2 hl
  unfold cartV
  unfold cartCells at hB0
  go_enter Try.func24, Try.ntmps24
  simp only [cartCells]
  go_wp2_with fail
  go_ret
  exact ⟨rfl, hB0⟩
theorem rnew_m2 (l n cp C : Nat) (m : Int) (w : World) (hl : 1 ≤ l ∧ l ≤ 3) (h1 : 1 ≤ n) (h2 : n ≤ 8388608) (h : 524288 < m) :
    Calls Try.prog 24 #[cartV l (.slice (some ⟨C, 0, none⟩) n cp) m] w fun e w' => e = .returned (.int .i64 2) ∧ Below w.heap.size w w' := by
  have e0 : ¬ (l : Int) < 1 := by omega
  have e1 : ¬ (3 : Int) < (l : Int) := by omega
  have e2 : ((n : Int) == 0) = false := by rw [beq_eq_false_iff_ne]; omega
  have e3 : decide (8388608 < (n : Int)) = false := decide_eq_false (by omega)
  have e4 : ¬ m < 0 := by omega
  have e5 : decide (524288 < m) = true := decide_eq_true (by omega)
  have hB0 : Below w.heap.size w (w.alloc (.cells (cartCells l (.slice (some ⟨C, 0, none⟩) n cp) m) 60)) := (Below.refl _ w).alloc (Nat.le_refl _) _
  clear h1 h2 hl h
  unfold cartV
  unfold cartCells at hB0
  go_enter Try.func24, Try.ntmps24
  simp only [cartCells]
  go_wp2_with fail
  go_ret
  exact ⟨rfl, hB0⟩
theorem rnew_ok (l n cp C : Nat) (m : Int) (w : World) (hl : 1 ≤ l ∧ l ≤ 3) (h1 : 1 ≤ n) (h2 : n ≤ 8388608) (h3 : 0 ≤ m) (h : m ≤ 524288) :
    Calls Try.prog 24 #[cartV l (.slice (some ⟨C, 0, none⟩) n cp) m] w fun e w' => e = .returned (.int .i64 0) ∧ Below w.heap.size w w' := by
  have e0 : ¬ (l : Int) < 1 := by omega
  have e1 : ¬ (3 : Int) < (l : Int) := by omega
  have e2 : ((n : Int) == 0) = false := by rw [beq_eq_false_iff_ne]; omega
  have e3 : decide (8388608 < (n : Int)) = false := decide_eq_false (by omega)
  have e4 : ¬ m < 0 := by omega
  have e5 : decide (524288 < m) = false := decide_eq_false (by omega)
  have hB0 : Below w.heap.size w (w.alloc (.cells (cartCells l (.slice (some ⟨C, 0, none⟩) n cp) m) 60)) := (Below.refl _ w).alloc (Nat.le_refl _) _
  clear h1 h2 hl h3 h
  unfold cartV
  unfold cartCells at hB0
  go_enter Try.func24, Try.ntmps24
  simp only [cartCells]
  go_wp2_with fail
  go_ret
  exact ⟨rfl, hB0⟩
theorem rnew_no (l n cp C : Nat) (m : Int) (w : World) (h : ¬ good l n m) :
    Calls Try.prog 24 #[cartV l (.slice (some ⟨C, 0, none⟩) n cp) m] w fun e w' => e = .returned (.int .i64 2) ∧ Below w.heap.size w w' := by
  unfold good at h
  by_cases l0 : l < 1
  · exact rnew_l0 l n cp C m w l0
  by_cases l3 : 3 < l
  · exact rnew_l3 l n cp C m w l3
  by_cases h0 : n = 0
  · exact rnew_n0 l n cp C m w (by omega) h0
  by_cases h2 : 8388608 < n
  · exact rnew_n2 l n cp C m w (by omega) h2
  by_cases h3 : m < 0
  · exact rnew_m0 l n cp C m w (by omega) (by omega) (by omega) h3
  · exact rnew_m2 l n cp C m w (by omega) (by omega) (by omega) (by omega)
end Go.Proofs.Ythhahhmdpjchkaa
