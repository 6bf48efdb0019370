/-
  puts and takes, where there is no writer and no reader.
-/
import Derived.Test.YtacnmnodbmbplaaNil
namespace Go.Proofs.Ytacnmnodbmbplaa
open Go.RowKit
set_option maxRecDepth 100000
set_option maxHeartbeats 1000000

/-- A call's value. -/
def putV (what n : Int) (a : Option Addr) (len cap : Nat) : Value := .agg #[.int .i64 what, .int .i64 n, .slice a len cap]
theorem what_ways (what : Int) : what = 0 ∨ what = 1 ∨ what = 2 ∨ what = 3 ∨ what = 4 ∨ what = 5 ∨ what = 6 ∨
    ((what == 0) = false ∧ (what == 1) = false ∧ (what == 2) = false ∧ (what == 3) = false ∧ (what == 4) = false ∧ (what == 5) = false ∧ (what == 6) = false) := by
  by_cases h : what = 0 ∨ what = 1 ∨ what = 2 ∨ what = 3 ∨ what = 4 ∨ what = 5 ∨ what = 6
  · omega
  · refine .inr (.inr (.inr (.inr (.inr (.inr (.inr ⟨?_, ?_, ?_, ?_, ?_, ?_, ?_⟩))))))
    all_goals rw [beq_eq_false_iff_ne]; omega
theorem puts_nil (what n : Int) (a : Option Addr) (len cap : Nat) (f : Nat → Nat) (w : World) (h : Row w a len f) (hl : len ≤ 140737488355328) :
    Calls Try.prog 9 #[.pointer none, putV what n a len cap] w fun e w' => e = .returned (.tuple #[]) ∧ Below w.heap.size w w' := by
  have hB0 : Below w.heap.size w (w.alloc (.cells #[.int .i64 what, .int .i64 n, .slice a len cap] 32)) := (Below.refl _ w).alloc (Nat.le_refl _) _
  unfold putV
  rcases what_ways what with rfl | rfl | rfl | rfl | rfl | rfl | rfl | ⟨t0, t1, t2, t3, t4, t5, t6⟩
  · go_enter Try.func9, Try.ntmps9
    go_wp2_with (go_at_call 29; refine (wbyte_nil _ _).mono ?_; rintro e w' ⟨rfl, hB⟩)
    go_end0
    exact ⟨rfl, hB0.trans (hB.mono (by simp))⟩
  · go_enter Try.func9, Try.ntmps9
    go_wp2_with (go_at_call 30; refine (wword_nil _ _).mono ?_; rintro e w' ⟨rfl, hB⟩)
    go_end0
    exact ⟨rfl, hB0.trans (hB.mono (by simp))⟩
  · go_enter Try.func9, Try.ntmps9
    go_wp2_with (go_at_call 31; refine (wlong_nil _ _).mono ?_; rintro e w' ⟨rfl, hB⟩)
    go_end0
    exact ⟨rfl, hB0.trans (hB.mono (by simp))⟩
  · go_enter Try.func9, Try.ntmps9
    go_wp2_with (go_at_call 32; refine (wnumber_nil _ _).mono ?_; rintro e w' ⟨rfl, hB⟩)
    go_end0
    exact ⟨rfl, hB0.trans (hB.mono (by simp))⟩
  · go_enter Try.func9, Try.ntmps9
    go_wp2_with (go_at_call 33; refine (wflag_nil _ _).mono ?_; rintro e w' ⟨rfl, hB⟩)
    go_end0
    exact ⟨rfl, hB0.trans (hB.mono (by simp))⟩
  · have hR := h.below hB0
    have hc := copy_any a len cap f _ hR hl
    replace hc := Lib.hid hc
    have hs0 : (w.alloc (.cells #[.int .i64 5, .int .i64 n, .slice a len cap] 32)).heap.size = w.heap.size + 1 := by simp
    go_enter Try.func9, Try.ntmps9
    go_wp2_with fail
    refine hc.out.mono ?_
    rintro e W1 ⟨G, rfl, hH, hG, hB⟩
    have hB1 := hB0.trans (hB.mono (by simp))
    clear hB hB0 hR hc
    go_wp2_with fail
    refine (wbytes_nil _ _ _ _).mono ?_
    rintro e W2 ⟨rfl, hB⟩
    have hH2 := hH.below hB hH.lt
    have hB2 := hB1.trans (hB.mono hB1.size)
    clear hB hB1 hH
    go_wp2_with fail
    refine (spoil_any G len len f W2 hl hH2).mono ?_
    rintro e W3 ⟨⟨v, rfl⟩, hO⟩
    have hB3 := below_only hB2 hO (by omega) hB2.size
    clear hO hH2 hB2
    go_wp2_with fail
    go_end0
    exact ⟨rfl, hB3⟩
  · go_enter Try.func9, Try.ntmps9
    go_wp2_with (go_at_call 35; refine (wopen_nil _ _).mono ?_; rintro e w' ⟨rfl, hB⟩)
    go_end0
    exact ⟨rfl, hB0.trans (hB.mono (by simp))⟩
  · go_enter Try.func9, Try.ntmps9
    go_wp2_with (go_at_call 27; refine (wclose_nil _).mono ?_; rintro e w' ⟨rfl, hB⟩)
    go_end0
    exact ⟨rfl, hB0.trans (hB.mono (by simp))⟩
/-- What takes answers where there is none. -/
def tookNil : Value := .agg #[.int .i64 0, .slice none 0 0, .int .i64 1]
theorem takes_nil (what n : Int) (a : Option Addr) (len cap : Nat) (w : World) :
    Calls Try.prog 21 #[.pointer none, putV what n a len cap] w fun e w' => e = .returned tookNil ∧ Below w.heap.size w w' := by
  have hS := Whole.fresh (w.alloc (.cells #[.int .i64 what, .int .i64 n, .slice a len cap] 32)) 50 #[.int .i64 0, .slice none 0 0, .int .i64 0]
  have hB := ((Below.refl w.heap.size w).alloc (Nat.le_refl _) (.cells #[.int .i64 what, .int .i64 n, .slice a len cap] 32)).alloc (by simp) (.cells #[.int .i64 0, .slice none 0 0, .int .i64 0] 50)
  have hP := (Whole.fresh w 32 #[.int .i64 what, .int .i64 n, .slice a len cap]).alloc (.cells #[.int .i64 0, .slice none 0 0, .int .i64 0] 50)
  rw [World.size_alloc] at hS
  unfold putV tookNil
  rcases what_ways what with rfl | rfl | rfl | rfl | rfl | rfl | rfl | ⟨t0, t1, t2, t3, t4, t5, t6⟩
  · go_enter Try.func21, Try.ntmps21
    go_wp2_with fail
    refine (rbyte_nil _).mono ?_
    rintro e W1 ⟨rfl, hB1⟩
    have hS1 := hS.below hB1 hS.lt
    have hB2 := hB.trans (hB1.mono hB.size)
    clear hS hB hB1 hP
    have f0 := hS1.free 0
    have f1 := hS1.free 1
    have f2 := hS1.free 2
    have c0 := hS1.cell 0
    have c1 := hS1.cell 1
    have c2 := hS1.cell 2
    simp only [List.getElem?_toArray, List.getElem?_cons_zero, List.getElem?_cons_succ] at c0 c1 c2
    have hS2 := ((hS1.put 0 (.int .i64 0)).put 1 (.slice none 0 0)).put 2 (.int .i64 1)
    have hB3 := ((hB2.setCell (p := ⟨w.heap.size + 1, 0, none⟩) (by simp) (.int .i64 0)).setCell (p := ⟨w.heap.size + 1, 1, none⟩) (by simp) (.slice none 0 0)).setCell (p := ⟨w.heap.size + 1, 2, none⟩) (by simp) (.int .i64 1)
    have d0 := hS2.cell 0
    have d1 := hS2.cell 1
    have d2 := hS2.cell 2
    simp only [List.getElem?_toArray, List.getElem?_cons_zero, List.getElem?_cons_succ, List.setIfInBounds_toArray, List.set_cons_zero, List.set_cons_succ] at d0 d1 d2
    clear hS2 hS1 hB2
    go_wp2_with fail
    exact ⟨rfl, _, by simp [results, Try.f21, go_sem, d0, d1, d2], rfl, hB3⟩
  · go_enter Try.func21, Try.ntmps21
    go_wp2_with fail
    refine (rword_nil _).mono ?_
    rintro e W1 ⟨rfl, hB1⟩
    have hS1 := hS.below hB1 hS.lt
    have hB2 := hB.trans (hB1.mono hB.size)
    clear hS hB hB1 hP
    have f0 := hS1.free 0
    have f1 := hS1.free 1
    have f2 := hS1.free 2
    have c0 := hS1.cell 0
    have c1 := hS1.cell 1
    have c2 := hS1.cell 2
    simp only [List.getElem?_toArray, List.getElem?_cons_zero, List.getElem?_cons_succ] at c0 c1 c2
    have hS2 := ((hS1.put 0 (.int .i64 0)).put 1 (.slice none 0 0)).put 2 (.int .i64 1)
    have hB3 := ((hB2.setCell (p := ⟨w.heap.size + 1, 0, none⟩) (by simp) (.int .i64 0)).setCell (p := ⟨w.heap.size + 1, 1, none⟩) (by simp) (.slice none 0 0)).setCell (p := ⟨w.heap.size + 1, 2, none⟩) (by simp) (.int .i64 1)
    have d0 := hS2.cell 0
    have d1 := hS2.cell 1
    have d2 := hS2.cell 2
    simp only [List.getElem?_toArray, List.getElem?_cons_zero, List.getElem?_cons_succ, List.setIfInBounds_toArray, List.set_cons_zero, List.set_cons_succ] at d0 d1 d2
    clear hS2 hS1 hB2
    go_wp2_with fail
    exact ⟨rfl, _, by simp [results, Try.f21, go_sem, d0, d1, d2], rfl, hB3⟩
  · go_enter Try.func21, Try.ntmps21
    go_wp2_with fail
    refine (rlong_nil _).mono ?_
    rintro e W1 ⟨rfl, hB1⟩
    have hS1 := hS.below hB1 hS.lt
    have hB2 := hB.trans (hB1.mono hB.size)
    clear hS hB hB1 hP
    have f0 := hS1.free 0
    have f1 := hS1.free 1
    have f2 := hS1.free 2
    have c0 := hS1.cell 0
    have c1 := hS1.cell 1
    have c2 := hS1.cell 2
    simp only [List.getElem?_toArray, List.getElem?_cons_zero, List.getElem?_cons_succ] at c0 c1 c2
    have hS2 := ((hS1.put 0 (.int .i64 0)).put 1 (.slice none 0 0)).put 2 (.int .i64 1)
    have hB3 := ((hB2.setCell (p := ⟨w.heap.size + 1, 0, none⟩) (by simp) (.int .i64 0)).setCell (p := ⟨w.heap.size + 1, 1, none⟩) (by simp) (.slice none 0 0)).setCell (p := ⟨w.heap.size + 1, 2, none⟩) (by simp) (.int .i64 1)
    have d0 := hS2.cell 0
    have d1 := hS2.cell 1
    have d2 := hS2.cell 2
    simp only [List.getElem?_toArray, List.getElem?_cons_zero, List.getElem?_cons_succ, List.setIfInBounds_toArray, List.set_cons_zero, List.set_cons_succ] at d0 d1 d2
    clear hS2 hS1 hB2
    go_wp2_with fail
    exact ⟨rfl, _, by simp [results, Try.f21, go_sem, d0, d1, d2], rfl, hB3⟩
  · go_enter Try.func21, Try.ntmps21
    go_wp2_with fail
    refine (rnumber_nil _).mono ?_
    rintro e W1 ⟨rfl, hB1⟩
    have hS1 := hS.below hB1 hS.lt
    have hB2 := hB.trans (hB1.mono hB.size)
    clear hS hB hB1 hP
    have f0 := hS1.free 0
    have f1 := hS1.free 1
    have f2 := hS1.free 2
    have c0 := hS1.cell 0
    have c1 := hS1.cell 1
    have c2 := hS1.cell 2
    simp only [List.getElem?_toArray, List.getElem?_cons_zero, List.getElem?_cons_succ] at c0 c1 c2
    have hS2 := ((hS1.put 0 (.int .i64 0)).put 1 (.slice none 0 0)).put 2 (.int .i64 1)
    have hB3 := ((hB2.setCell (p := ⟨w.heap.size + 1, 0, none⟩) (by simp) (.int .i64 0)).setCell (p := ⟨w.heap.size + 1, 1, none⟩) (by simp) (.slice none 0 0)).setCell (p := ⟨w.heap.size + 1, 2, none⟩) (by simp) (.int .i64 1)
    have d0 := hS2.cell 0
    have d1 := hS2.cell 1
    have d2 := hS2.cell 2
    simp only [List.getElem?_toArray, List.getElem?_cons_zero, List.getElem?_cons_succ, List.setIfInBounds_toArray, List.set_cons_zero, List.set_cons_succ] at d0 d1 d2
    clear hS2 hS1 hB2
    go_wp2_with fail
    exact ⟨rfl, _, by simp [results, Try.f21, go_sem, d0, d1, d2], rfl, hB3⟩
  · go_enter Try.func21, Try.ntmps21
    go_wp2_with fail
    refine (rflag_nil _).mono ?_
    rintro e W1 ⟨rfl, hB1⟩
    have hS1 := hS.below hB1 hS.lt
    have hB2 := hB.trans (hB1.mono hB.size)
    clear hS hB hB1 hP
    have f0 := hS1.free 0
    have f1 := hS1.free 1
    have f2 := hS1.free 2
    have c0 := hS1.cell 0
    have c1 := hS1.cell 1
    have c2 := hS1.cell 2
    simp only [List.getElem?_toArray, List.getElem?_cons_zero, List.getElem?_cons_succ] at c0 c1 c2
    have hS2 := ((hS1.put 0 (.int .i64 0)).put 1 (.slice none 0 0)).put 2 (.int .i64 1)
    have hB3 := ((hB2.setCell (p := ⟨w.heap.size + 1, 0, none⟩) (by simp) (.int .i64 0)).setCell (p := ⟨w.heap.size + 1, 1, none⟩) (by simp) (.slice none 0 0)).setCell (p := ⟨w.heap.size + 1, 2, none⟩) (by simp) (.int .i64 1)
    have d0 := hS2.cell 0
    have d1 := hS2.cell 1
    have d2 := hS2.cell 2
    simp only [List.getElem?_toArray, List.getElem?_cons_zero, List.getElem?_cons_succ, List.setIfInBounds_toArray, List.set_cons_zero, List.set_cons_succ] at d0 d1 d2
    clear hS2 hS1 hB2
    go_wp2_with fail
    exact ⟨rfl, _, by simp [results, Try.f21, go_sem, d0, d1, d2], rfl, hB3⟩
  · go_enter Try.func21, Try.ntmps21
    go_wp2_with fail
    refine (rbytes_nil _ _).mono ?_
    rintro e W1 ⟨rfl, hB1⟩
    have hS1 := hS.below hB1 hS.lt
    have hB2 := hB.trans (hB1.mono hB.size)
    clear hS hB hB1 hP
    have f0 := hS1.free 0
    have f1 := hS1.free 1
    have f2 := hS1.free 2
    have c0 := hS1.cell 0
    have c1 := hS1.cell 1
    have c2 := hS1.cell 2
    simp only [List.getElem?_toArray, List.getElem?_cons_zero, List.getElem?_cons_succ] at c0 c1 c2
    have hS2 := ((hS1.put 0 (.int .i64 0)).put 1 (.slice none 0 0)).put 2 (.int .i64 1)
    have hB3 := ((hB2.setCell (p := ⟨w.heap.size + 1, 0, none⟩) (by simp) (.int .i64 0)).setCell (p := ⟨w.heap.size + 1, 1, none⟩) (by simp) (.slice none 0 0)).setCell (p := ⟨w.heap.size + 1, 2, none⟩) (by simp) (.int .i64 1)
    have d0 := hS2.cell 0
    have d1 := hS2.cell 1
    have d2 := hS2.cell 2
    simp only [List.getElem?_toArray, List.getElem?_cons_zero, List.getElem?_cons_succ, List.setIfInBounds_toArray, List.set_cons_zero, List.set_cons_succ] at d0 d1 d2
    clear hS2 hS1 hB2
    go_wp2_with fail
    exact ⟨rfl, _, by simp [results, Try.f21, go_sem, d0, d1, d2], rfl, hB3⟩
  · go_enter Try.func21, Try.ntmps21
    go_wp2_with fail
    refine (ropen_nil _ _).mono ?_
    rintro e W1 ⟨rfl, hB1⟩
    have hS1 := hS.below hB1 hS.lt
    have hB2 := hB.trans (hB1.mono hB.size)
    clear hS hB hB1 hP
    have f0 := hS1.free 0
    have f1 := hS1.free 1
    have f2 := hS1.free 2
    have c0 := hS1.cell 0
    have c1 := hS1.cell 1
    have c2 := hS1.cell 2
    simp only [List.getElem?_toArray, List.getElem?_cons_zero, List.getElem?_cons_succ] at c0 c1 c2
    have hS2 := ((hS1.put 0 (.int .i64 0)).put 1 (.slice none 0 0)).put 2 (.int .i64 1)
    have hB3 := ((hB2.setCell (p := ⟨w.heap.size + 1, 0, none⟩) (by simp) (.int .i64 0)).setCell (p := ⟨w.heap.size + 1, 1, none⟩) (by simp) (.slice none 0 0)).setCell (p := ⟨w.heap.size + 1, 2, none⟩) (by simp) (.int .i64 1)
    have d0 := hS2.cell 0
    have d1 := hS2.cell 1
    have d2 := hS2.cell 2
    simp only [List.getElem?_toArray, List.getElem?_cons_zero, List.getElem?_cons_succ, List.setIfInBounds_toArray, List.set_cons_zero, List.set_cons_succ] at d0 d1 d2
    clear hS2 hS1 hB2
    go_wp2_with fail
    exact ⟨rfl, _, by simp [results, Try.f21, go_sem, d0, d1, d2], rfl, hB3⟩
  · go_enter Try.func21, Try.ntmps21
    go_wp2_with fail
    refine (rclose_nil _).mono ?_
    rintro e W1 ⟨rfl, hB1⟩
    have hS1 := hS.below hB1 hS.lt
    have hB2 := hB.trans (hB1.mono hB.size)
    clear hS hB hB1 hP
    have f0 := hS1.free 0
    have f1 := hS1.free 1
    have f2 := hS1.free 2
    have c0 := hS1.cell 0
    have c1 := hS1.cell 1
    have c2 := hS1.cell 2
    simp only [List.getElem?_toArray, List.getElem?_cons_zero, List.getElem?_cons_succ] at c0 c1 c2
    have hS2 := ((hS1.put 0 (.int .i64 0)).put 1 (.slice none 0 0)).put 2 (.int .i64 1)
    have hB3 := ((hB2.setCell (p := ⟨w.heap.size + 1, 0, none⟩) (by simp) (.int .i64 0)).setCell (p := ⟨w.heap.size + 1, 1, none⟩) (by simp) (.slice none 0 0)).setCell (p := ⟨w.heap.size + 1, 2, none⟩) (by simp) (.int .i64 1)
    have d0 := hS2.cell 0
    have d1 := hS2.cell 1
    have d2 := hS2.cell 2
    simp only [List.getElem?_toArray, List.getElem?_cons_zero, List.getElem?_cons_succ, List.setIfInBounds_toArray, List.set_cons_zero, List.set_cons_succ] at d0 d1 d2
    clear hS2 hS1 hB2
    go_wp2_with fail
    exact ⟨rfl, _, by simp [results, Try.f21, go_sem, d0, d1, d2], rfl, hB3⟩
end Go.Proofs.Ytacnmnodbmbplaa
