/-
  A course in memory: what its filter foresees, its samples.
-/
import Derived.Test.YtekjcgckniopdaaBNum
import Derived.Deep.RegionWith
import Derived.BigQuiet
import Derived.Deep.DeepCutAuto
import Derived.Laws.EntriesVeiled
import Derived.Lib.QuietBelow
import Derived.Laws.AppendOwn
namespace Go.Proofs.Ytekjcgckniopdaa
open Go.RowKit Go.Shelf
set_option maxRecDepth 100000
set_option maxHeartbeats 1000000
set_option linter.unusedVariables false
set_option linter.unusedSimpArgs false

theorem fore0_any (w : World) (p q : Int) : Calls Try.prog 51 #[.agg #[.int .i64 p, .int .i64 q]] w fun e w' => e = .returned (.int .i64 (foreF 0 p q)) ∧ Below w.heap.size w w' := by
  have hB := (Below.refl w.heap.size w).alloc (Nat.le_refl _) (.cells #[.int .i64 p, .int .i64 q] 55)
  replace hB := Lib.hid hB
  go_enter Try.func51, Try.ntmps51
  go_wp2_with fail
  go_ret
  exact ⟨rfl, hB.out⟩
theorem fore1_any (w : World) (p q : Int) (hp : Smp p) (hq : Smp q) : Calls Try.prog 52 #[.agg #[.int .i64 p, .int .i64 q]] w fun e w' => e = .returned (.int .i64 (foreF 1 p q)) ∧ Below w.heap.size w w' := by
  have hB := (Below.refl w.heap.size w).alloc (Nat.le_refl _) (.cells #[.int .i64 p, .int .i64 q] 55)
  replace hB := Lib.hid hB
  have H := Lib.hid (fun w x a b => by_any w x 16 (by decide) a b)
  unfold Smp at hp hq
  have hw : wrap64 (p * 15) = p * 15 := w64 _ (by omega) (by omega)
  have hx : -9000000 ≤ p * 15 ∧ p * 15 ≤ 9000000 := by omega
  replace hx := Lib.hid hx
  replace hp := Lib.hid hp
  replace hq := Lib.hid hq
  go_enter Try.func52, Try.ntmps52
  go_wp2_with fail
  refine (H.out _ _ hx.out.1 hx.out.2).mono ?_
  rintro e w' ⟨rfl, rfl⟩
  go_wp2_with fail
  go_ret
  exact ⟨rfl, hB.out⟩
theorem fore2_any (w : World) (p q : Int) (hp : Smp p) (hq : Smp q) : Calls Try.prog 54 #[.agg #[.int .i64 p, .int .i64 q]] w fun e w' => e = .returned (.int .i64 (foreF 2 p q)) ∧ Below w.heap.size w w' := by
  have hB := (Below.refl w.heap.size w).alloc (Nat.le_refl _) (.cells #[.int .i64 p, .int .i64 q] 55)
  have hS := Whole.fresh w 55 #[.int .i64 p, .int .i64 q]
  have x0 := hS.cell 0
  have x1 := hS.cell 1
  simp only [List.getElem?_toArray, List.getElem?_cons_zero, List.getElem?_cons_succ] at x0 x1
  clear hS
  unfold Smp at hp hq
  have H1 := Lib.hid (fun W => (by_any W (p * 61) 32 (by decide) (by omega) (by omega)).mono fun e w' h => (⟨h.1, h.2 ▸ Below.refl _ _⟩ : _ ∧ Below W.heap.size W w'))
  have H2 := Lib.hid (fun W => (by_any W (q * 15) 16 (by decide) (by omega) (by omega)).mono fun e w' h => (⟨h.1, h.2 ▸ Below.refl _ _⟩ : _ ∧ Below W.heap.size W w'))
  have hw : IntKind.i64.wrap (p * 61) = p * 61 := by simp only [IntKind.wrap_i64]; omega
  have hw2 : IntKind.i64.wrap (q * 15) = q * 15 := by simp only [IntKind.wrap_i64]; omega
  have hw3 : IntKind.i64.wrap (p * 61 / 32 - q * 15 / 16) = p * 61 / 32 - q * 15 / 16 := by simp only [IntKind.wrap_i64]; omega
  have hF : foreF 2 p q = p * 61 / 32 - q * 15 / 16 := rfl
  replace hp := Lib.hid hp
  replace hq := Lib.hid hq
  replace hF := Lib.hid hF
  go_enter Try.func54, Try.ntmps54
  go_upto_region 1 with (fail)
  generalize w.alloc (.cells #[.int .i64 p, .int .i64 q] 55) = W1 at *
  refine wp_region_quiet_below (by kernel_rfl) (by kernel_rfl) ?_
  have z0 := cell_regrown x0
  have z1 := cell_regrown x1
  clear x0 x1
  repeat (go_big_quiet_step (first
    | (go_at_call 53; first | (with_reducible exact Calls.regrown_of (H1.out _)) | (with_reducible exact Calls.regrown_of (H2.out _)))))
  refine wpQuiet_nil ?_
  intro _ hw'
  obtain ⟨⟨dq, osq⟩, hw''⟩ := hw'
  subst hw''
  have hbl := hB.trans ((below_regrown W1 dq osq).mono hB.size)
  generalize Go.«Sort».grow (redrawn W1 dq) osq = V1 at *
  clear z0 z1 H1 H2
  replace hbl := Lib.hid hbl
  go_wp2_with fail
  go_ret
  exact ⟨by rw [hF.out]; rfl, hbl.out⟩
theorem fore3_any (w : World) (p q : Int) (hp : Smp p) (hq : Smp q) : Calls Try.prog 55 #[.agg #[.int .i64 p, .int .i64 q]] w fun e w' => e = .returned (.int .i64 (foreF 3 p q)) ∧ Below w.heap.size w w' := by
  have hB := (Below.refl w.heap.size w).alloc (Nat.le_refl _) (.cells #[.int .i64 p, .int .i64 q] 55)
  have hS := Whole.fresh w 55 #[.int .i64 p, .int .i64 q]
  have x0 := hS.cell 0
  have x1 := hS.cell 1
  simp only [List.getElem?_toArray, List.getElem?_cons_zero, List.getElem?_cons_succ] at x0 x1
  clear hS
  unfold Smp at hp hq
  have H1 := Lib.hid (fun W => (by_any W (p * 115) 64 (by decide) (by omega) (by omega)).mono fun e w' h => (⟨h.1, h.2 ▸ Below.refl _ _⟩ : _ ∧ Below W.heap.size W w'))
  have H2 := Lib.hid (fun W => (by_any W (q * 13) 16 (by decide) (by omega) (by omega)).mono fun e w' h => (⟨h.1, h.2 ▸ Below.refl _ _⟩ : _ ∧ Below W.heap.size W w'))
  have hw : IntKind.i64.wrap (p * 115) = p * 115 := by simp only [IntKind.wrap_i64]; omega
  have hw2 : IntKind.i64.wrap (q * 13) = q * 13 := by simp only [IntKind.wrap_i64]; omega
  have hw3 : IntKind.i64.wrap (p * 115 / 64 - q * 13 / 16) = p * 115 / 64 - q * 13 / 16 := by simp only [IntKind.wrap_i64]; omega
  have hF : foreF 3 p q = p * 115 / 64 - q * 13 / 16 := rfl
  replace hp := Lib.hid hp
  replace hq := Lib.hid hq
  replace hF := Lib.hid hF
  go_enter Try.func55, Try.ntmps55
  go_upto_region 1 with (fail)
  generalize w.alloc (.cells #[.int .i64 p, .int .i64 q] 55) = W1 at *
  refine wp_region_quiet_below (by kernel_rfl) (by kernel_rfl) ?_
  have z0 := cell_regrown x0
  have z1 := cell_regrown x1
  clear x0 x1
  repeat (go_big_quiet_step (first
    | (go_at_call 53; first | (with_reducible exact Calls.regrown_of (H1.out _)) | (with_reducible exact Calls.regrown_of (H2.out _)))))
  refine wpQuiet_nil ?_
  intro _ hw'
  obtain ⟨⟨dq, osq⟩, hw''⟩ := hw'
  subst hw''
  have hbl := hB.trans ((below_regrown W1 dq osq).mono hB.size)
  generalize Go.«Sort».grow (redrawn W1 dq) osq = V1 at *
  clear z0 z1 H1 H2
  replace hbl := Lib.hid hbl
  go_wp2_with fail
  go_ret
  exact ⟨by rw [hF.out]; rfl, hbl.out⟩
/-- A filter's closure. -/
def fnN (f : Nat) : Nat := if f = 0 then 51 else if f = 1 then 52 else if f = 2 then 54 else 55
theorem fore_any (w : World) (f : Nat) (p q : Int) (hp : Smp p) (hq : Smp q) (hf : f < 4) : Calls Try.prog (fnN f) #[.agg #[.int .i64 p, .int .i64 q]] w fun e w' => e = .returned (.int .i64 (foreF f p q)) ∧ Below w.heap.size w w' := by
  rcases (show f = 0 ∨ f = 1 ∨ f = 2 ∨ f = 3 by omega) with rfl | rfl | rfl | rfl
  · exact fore0_any w p q
  · exact fore1_any w p q hp hq
  · exact fore2_any w p q hp hq
  · exact fore3_any w p q hp hq
def fnV (f : Nat) : Value := .func (.func (fnN f)) #[] #[]
theorem filters_any (w : World) : Calls Try.prog 46 #[] w fun e w' => e = .returned (.agg #[fnV 0, fnV 1, fnV 2, fnV 3]) ∧ Below w.heap.size w w' := by
  have hB := (Below.refl w.heap.size w).alloc (Nat.le_refl _) (.cells #[.func (.func 51) #[] #[], .func (.func 52) #[] #[], .func (.func 54) #[] #[], .func (.func 55) #[] #[]] 85)
  have hW := Whole.fresh w 85 #[.func (.func 51) #[] #[], .func (.func 52) #[] #[], .func (.func 54) #[] #[], .func (.func 55) #[] #[]]
  replace hB := Lib.hid hB
  replace hW := Lib.hid hW
  go_enter Try.func46, Try.ntmps46
  go_wp2_with fail
  exact bodyPost_ret (results_cell_row (fn := Try.f46) (p := 0) (ty := 85) rfl _ _ _ _ _ (0, 0) _ rfl hW.out Try.underlying85 rfl (by kernel_rfl)) rfl ⟨rfl, hB.out⟩
def headV (b : Nat) : Value := .agg #[.int .u8 (b / 16 : Nat), .int .u8 (b / 4 % 4 : Nat), .bool (decide (b / 2 % 2 = 1)), .bool (decide (b % 2 = 1))]
theorem head_bits : ∀ b : Fin 256, (bits BinOp.and IntKind.u8 ((b : Nat) : Int) 2 != 0) = decide (b.val / 2 % 2 = 1) ∧ (bits BinOp.and IntKind.u8 ((b : Nat) : Int) 1 != 0) = decide (b.val % 2 = 1) := by decide +kernel
theorem head_ints (b : Nat) : (b : Int) / 16 = ((b / 16 : Nat) : Int) ∧ (b : Int) / 4 % 4 = ((b / 4 % 4 : Nat) : Int) ∧ ((b : Int) / 2 % 2 == 1) = decide (b / 2 % 2 = 1) ∧ ((b : Int) % 2 == 1) = decide (b % 2 = 1) := by
  refine ⟨by omega, by omega, ?_, ?_⟩
  · rw [Bool.eq_iff_iff]; simp only [beq_iff_eq, decide_eq_true_eq]; omega
  · rw [Bool.eq_iff_iff]; simp only [beq_iff_eq, decide_eq_true_eq]; omega
theorem read_any (w : World) (b : Nat) (hb : b < 256) : Calls Try.prog 16 #[.int .u8 (b : Nat)] w fun e w' => e = .returned (headV b) ∧ Below w.heap.size w w' := by
  obtain ⟨b1, b2⟩ := head_bits ⟨b, hb⟩
  obtain ⟨i1, i2, _, _⟩ := head_ints b
  have hB := fun cs => (Below.refl w.heap.size w).alloc (Nat.le_refl _) (.cells cs 34)
  replace hB := Lib.hid hB
  have hW := Lib.hid fun cs => Whole.fresh w 34 cs
  replace i1 := Lib.hid i1
  replace i2 := Lib.hid i2
  replace b1 := Lib.hid b1
  replace b2 := Lib.hid b2
  go_enter Try.func16, Try.ntmps16
  go_wp2_with fail
  refine bodyPost_ret (results_cell_row (fn := Try.f16) (p := 2) (ty := 34) rfl _ _ _ _ _ (0, 0) _ rfl (hW.out _) Try.underlying34 rfl (by kernel_rfl)) rfl ⟨?_, hB.out _⟩
  unfold headV
  rw [← i1.out, ← i2.out, ← b1.out, ← b2.out]
theorem rread_any (w : World) (b : Nat) (hb : b < 256) : Calls Try.prog 17 #[.int .u8 (b : Nat)] w fun e w' => e = .returned (headV b) ∧ Below w.heap.size w w' := by
  obtain ⟨i1, i2, i3, i4⟩ := head_ints b
  have hB := fun cs => (Below.refl w.heap.size w).alloc (Nat.le_refl _) (.cells cs 34)
  replace hB := Lib.hid hB
  have hW := Lib.hid fun cs => Whole.fresh w 34 cs
  replace i1 := Lib.hid i1
  replace i2 := Lib.hid i2
  replace i3 := Lib.hid i3
  replace i4 := Lib.hid i4
  go_enter Try.func17, Try.ntmps17
  go_wp2_with fail
  refine bodyPost_ret (results_cell_row (fn := Try.f17) (p := 2) (ty := 34) rfl _ _ _ _ _ (0, 0) _ rfl (hW.out _) Try.underlying34 rfl (by kernel_rfl)) rfl ⟨?_, hB.out _⟩
  unfold headV
  rw [← i1.out, ← i2.out, ← i3.out, ← i4.out]
theorem filt_at0 (w : World) : (Instr.index 85 (.agg #[.func (.func 51) #[] #[], .func (.func 52) #[] #[], .func (.func 54) #[] #[], .func (.func 55) #[] #[]]) (.int .u8 0)).run Try.prog w = .ok (.func (.func 51) #[] #[]) w := by kernel_rfl
theorem filt_at1 (w : World) : (Instr.index 85 (.agg #[.func (.func 51) #[] #[], .func (.func 52) #[] #[], .func (.func 54) #[] #[], .func (.func 55) #[] #[]]) (.int .u8 1)).run Try.prog w = .ok (.func (.func 52) #[] #[]) w := by kernel_rfl
theorem filt_at2 (w : World) : (Instr.index 85 (.agg #[.func (.func 51) #[] #[], .func (.func 52) #[] #[], .func (.func 54) #[] #[], .func (.func 55) #[] #[]]) (.int .u8 2)).run Try.prog w = .ok (.func (.func 54) #[] #[]) w := by kernel_rfl
theorem filt_at3 (w : World) : (Instr.index 85 (.agg #[.func (.func 51) #[] #[], .func (.func 52) #[] #[], .func (.func 54) #[] #[], .func (.func 55) #[] #[]]) (.int .u8 3)).run Try.prog w = .ok (.func (.func 55) #[] #[]) w := by kernel_rfl
theorem course_any (w : World) (b : Nat) (p q : Int) (hb : b < 256) : Calls Try.prog 38 #[.int .u8 (b : Nat), .agg #[.int .i64 p, .int .i64 q]] w fun e w' => e = .returned (.agg #[.int .i64 p, .int .i64 q, .int .u8 (b / 16 : Nat), fnV (b / 4 % 4)]) ∧ Below w.heap.size w w' := by
  have HR := Lib.hid (fun w => read_any w b hb)
  have HF := Lib.hid (fun w => (show Calls Try.prog 46 #[] w fun e w' => e = .returned (.agg #[.func (.func 51) #[] #[], .func (.func 52) #[] #[], .func (.func 54) #[] #[], .func (.func 55) #[] #[]]) ∧ Below w.heap.size w w' from filters_any w))
  have hf4 : b / 4 % 4 < 4 := Nat.mod_lt _ (by decide)

  have hB0 := ((Below.refl w.heap.size w).alloc (Nat.le_refl _) (.cells #[.int .i64 p, .int .i64 q] 55)).alloc (Below.size ((Below.refl w.heap.size w).alloc (Nat.le_refl _) (.cells #[.int .i64 p, .int .i64 q] 55))) (.cells #[.int .i64 0, .int .i64 0, .int .u8 0, .nilFunc] 78)
  have h1 := (Whole.fresh w 55 #[.int .i64 p, .int .i64 q]).alloc (.cells #[.int .i64 0, .int .i64 0, .int .u8 0, .nilFunc] 78)
  have h2 := Whole.fresh (w.alloc (.cells #[.int .i64 p, .int .i64 q] 55)) 78 #[.int .i64 0, .int .i64 0, .int .u8 0, .nilFunc]
  rw [alloc_size] at h2
  unfold headV at HR
  go_enter Try.func38, Try.ntmps38
  go_wp2_with fail
  refine (HR.out _).mono ?_
  rintro e w' ⟨rfl, hB⟩
  generalize (w.alloc (Obj.cells #[Value.int IntKind.i64 p, Value.int IntKind.i64 q] 55)).alloc (Obj.cells #[Value.int IntKind.i64 0, Value.int IntKind.i64 0, Value.int IntKind.u8 0, Value.nilFunc] 78) = W1 at *
  have h3 := h1.below hB h1.lt
  have h4 := h2.below hB h2.lt
  have hB2 := hB0.trans (hB.mono hB0.size)
  generalize hsh : b / 16 = sh at *
  generalize hfi : b / 4 % 4 = f at *
  generalize hl2 : decide (b / 2 % 2 = 1) = l2 at *
  generalize hl1 : decide (b % 2 = 1) = l1 at *
  clear h1 h2 hB hl1 hl2
  have h5 := h3.alloc (.cells #[.int .u8 (sh : Nat), .int .u8 (f : Nat), .bool l2, .bool l1] 34)
  have h6 := h4.alloc (.cells #[.int .u8 (sh : Nat), .int .u8 (f : Nat), .bool l2, .bool l1] 34)
  have h7 := Whole.fresh w' 34 #[.int .u8 (sh : Nat), .int .u8 (f : Nat), .bool l2, .bool l1]
  have hB3 := hB2.alloc hB2.size (.cells #[.int .u8 (sh : Nat), .int .u8 (f : Nat), .bool l2, .bool l1] 34)
  have hTS : w'.heap.size ≠ w.heap.size + 1 := Nat.ne_of_gt h4.lt
  replace hsh := Lib.hid hsh
  replace hfi := Lib.hid hfi
  clear h3 h4 hB2 HR hB0
  go_upto_region 2 with (fail)
  generalize hS : w.heap.size = S at *
  generalize w'.alloc (.cells #[.int .u8 (sh : Nat), .int .u8 (f : Nat), .bool l2, .bool l1] 34) = W3 at *
  generalize w'.heap.size = T at *
  have x0 := h5.cell 0
  have x1 := h5.cell 1
  have x2 := h7.cell 0
  have x3 := h7.cell 1
  simp only [List.getElem?_toArray, List.getElem?_cons_zero, List.getElem?_cons_succ] at x0 x1 x2 x3
  have HB := Lib.hid hB3
  have H5 := Lib.hid h5
  have H6 := Lib.hid h6
  have H7 := Lib.hid h7
  have hTS2 : S + 1 ≠ T := fun e => hTS e.symm
  have hSl : S + 1 < W3.heap.size := h6.lt
  have hTl : T < W3.heap.size := h7.lt
  clear hB3 h5 h6 h7 hb
  rcases (show f = 0 ∨ f = 1 ∨ f = 2 ∨ f = 3 by omega) with rfl | rfl | rfl | rfl
  · have x3' : W3.cell? ⟨T, 1, none⟩ = some (.int .u8 0) := x3
    have hix := filt_at0
    clear x3
    go_region_held3 (fun V => V.cell? ⟨S, 0, none⟩ = some (.int .i64 p) ∧ V.cell? ⟨S, 1, none⟩ = some (.int .i64 q) ∧ V.cell? ⟨T, 0, none⟩ = some (.int .u8 (sh : Nat)) ∧ V.cell? ⟨T, 1, none⟩ = some (.int .u8 0))
      (first | (with_reducible exact hS5) | go_keep)
      ((go_at_call 46; (with_reducible refine (HF.out _).mono ?_); rintro e W5 ⟨rfl, hB5⟩;
        have hS5 : W5.cell? ⟨S, 0, none⟩ = some (.int .i64 p) ∧ W5.cell? ⟨S, 1, none⟩ = some (.int .i64 q) ∧ W5.cell? ⟨T, 0, none⟩ = some (.int .u8 (sh : Nat)) ∧ W5.cell? ⟨T, 1, none⟩ = some (.int .u8 0) := ⟨(hB5.cell (p := ⟨S, 0, none⟩) (show S < W3.heap.size by omega)).trans x0, (hB5.cell (p := ⟨S, 1, none⟩) (show S < W3.heap.size by omega)).trans x1, (hB5.cell (p := ⟨T, 0, none⟩) hTl).trans x2, (hB5.cell (p := ⟨T, 1, none⟩) hTl).trans x3'⟩;
        have hW6 := Lib.hid (H6.out.drew.below hB5 hSl); have hB6 := Lib.hid (HB.out.drew.trans (hB5.mono (show S ≤ W3.heap.size by omega)));
        have y0 := hW6.out.cell 0; have y1 := hW6.out.cell 1; have y2 := hW6.out.cell 2; have y3 := hW6.out.cell 3; have fr := hW6.out.free; clear hB5 x0 x1 x2 x3'))
    have hWf := Lib.hid (((((hW6.out.put 0 (.int .i64 p)).put 1 (.int .i64 q)).put 2 (.int .u8 (sh : Nat))).put 3 (.func (.func 51) #[] #[])).as (ds := #[.int .i64 p, .int .i64 q, .int .u8 (sh : Nat), (.func (.func 51) #[] #[])]) rfl)
    have hBf := Lib.hid ((((hB6.out.setCell (p := ⟨S + 1, 0, none⟩) (Nat.le_succ _) (.int .i64 p)).setCell (p := ⟨S + 1, 1, none⟩) (Nat.le_succ _) (.int .i64 q)).setCell (p := ⟨S + 1, 2, none⟩) (Nat.le_succ _) (.int .u8 (sh : Nat))).setCell (p := ⟨S + 1, 3, none⟩) (Nat.le_succ _) (.func (.func 51) #[] #[]))
    generalize (((W5.setCell ⟨S + 1, 0, none⟩ (.int .i64 p)).setCell ⟨S + 1, 1, none⟩ (.int .i64 q)).setCell ⟨S + 1, 2, none⟩ (.int .u8 (sh : Nat))).setCell ⟨S + 1, 3, none⟩ (.func (.func 51) #[] #[]) = W7 at *
    clear y0 y1 y2 y3 fr hS5 hW6 hB6 hix
    go_wp2_with fail
    exact bodyPost_ret (results_cell_row (fn := Try.f38) (p := 4) (ty := 78) rfl _ _ _ _ _ (0, 0) _ rfl hWf.out Try.underlying78 rfl (by kernel_rfl)) rfl ⟨by rw [hsh.out, hfi.out]; rfl, by rw [hS]; exact hBf.out⟩
  · have x3' : W3.cell? ⟨T, 1, none⟩ = some (.int .u8 1) := x3
    have hix := filt_at1
    clear x3
    go_region_held3 (fun V => V.cell? ⟨S, 0, none⟩ = some (.int .i64 p) ∧ V.cell? ⟨S, 1, none⟩ = some (.int .i64 q) ∧ V.cell? ⟨T, 0, none⟩ = some (.int .u8 (sh : Nat)) ∧ V.cell? ⟨T, 1, none⟩ = some (.int .u8 1))
      (first | (with_reducible exact hS5) | go_keep)
      ((go_at_call 46; (with_reducible refine (HF.out _).mono ?_); rintro e W5 ⟨rfl, hB5⟩;
        have hS5 : W5.cell? ⟨S, 0, none⟩ = some (.int .i64 p) ∧ W5.cell? ⟨S, 1, none⟩ = some (.int .i64 q) ∧ W5.cell? ⟨T, 0, none⟩ = some (.int .u8 (sh : Nat)) ∧ W5.cell? ⟨T, 1, none⟩ = some (.int .u8 1) := ⟨(hB5.cell (p := ⟨S, 0, none⟩) (show S < W3.heap.size by omega)).trans x0, (hB5.cell (p := ⟨S, 1, none⟩) (show S < W3.heap.size by omega)).trans x1, (hB5.cell (p := ⟨T, 0, none⟩) hTl).trans x2, (hB5.cell (p := ⟨T, 1, none⟩) hTl).trans x3'⟩;
        have hW6 := Lib.hid (H6.out.drew.below hB5 hSl); have hB6 := Lib.hid (HB.out.drew.trans (hB5.mono (show S ≤ W3.heap.size by omega)));
        have y0 := hW6.out.cell 0; have y1 := hW6.out.cell 1; have y2 := hW6.out.cell 2; have y3 := hW6.out.cell 3; have fr := hW6.out.free; clear hB5 x0 x1 x2 x3'))
    have hWf := Lib.hid (((((hW6.out.put 0 (.int .i64 p)).put 1 (.int .i64 q)).put 2 (.int .u8 (sh : Nat))).put 3 (.func (.func 52) #[] #[])).as (ds := #[.int .i64 p, .int .i64 q, .int .u8 (sh : Nat), (.func (.func 52) #[] #[])]) rfl)
    have hBf := Lib.hid ((((hB6.out.setCell (p := ⟨S + 1, 0, none⟩) (Nat.le_succ _) (.int .i64 p)).setCell (p := ⟨S + 1, 1, none⟩) (Nat.le_succ _) (.int .i64 q)).setCell (p := ⟨S + 1, 2, none⟩) (Nat.le_succ _) (.int .u8 (sh : Nat))).setCell (p := ⟨S + 1, 3, none⟩) (Nat.le_succ _) (.func (.func 52) #[] #[]))
    generalize (((W5.setCell ⟨S + 1, 0, none⟩ (.int .i64 p)).setCell ⟨S + 1, 1, none⟩ (.int .i64 q)).setCell ⟨S + 1, 2, none⟩ (.int .u8 (sh : Nat))).setCell ⟨S + 1, 3, none⟩ (.func (.func 52) #[] #[]) = W7 at *
    clear y0 y1 y2 y3 fr hS5 hW6 hB6 hix
    go_wp2_with fail
    exact bodyPost_ret (results_cell_row (fn := Try.f38) (p := 4) (ty := 78) rfl _ _ _ _ _ (0, 0) _ rfl hWf.out Try.underlying78 rfl (by kernel_rfl)) rfl ⟨by rw [hsh.out, hfi.out]; rfl, by rw [hS]; exact hBf.out⟩
  · have x3' : W3.cell? ⟨T, 1, none⟩ = some (.int .u8 2) := x3
    have hix := filt_at2
    clear x3
    go_region_held3 (fun V => V.cell? ⟨S, 0, none⟩ = some (.int .i64 p) ∧ V.cell? ⟨S, 1, none⟩ = some (.int .i64 q) ∧ V.cell? ⟨T, 0, none⟩ = some (.int .u8 (sh : Nat)) ∧ V.cell? ⟨T, 1, none⟩ = some (.int .u8 2))
      (first | (with_reducible exact hS5) | go_keep)
      ((go_at_call 46; (with_reducible refine (HF.out _).mono ?_); rintro e W5 ⟨rfl, hB5⟩;
        have hS5 : W5.cell? ⟨S, 0, none⟩ = some (.int .i64 p) ∧ W5.cell? ⟨S, 1, none⟩ = some (.int .i64 q) ∧ W5.cell? ⟨T, 0, none⟩ = some (.int .u8 (sh : Nat)) ∧ W5.cell? ⟨T, 1, none⟩ = some (.int .u8 2) := ⟨(hB5.cell (p := ⟨S, 0, none⟩) (show S < W3.heap.size by omega)).trans x0, (hB5.cell (p := ⟨S, 1, none⟩) (show S < W3.heap.size by omega)).trans x1, (hB5.cell (p := ⟨T, 0, none⟩) hTl).trans x2, (hB5.cell (p := ⟨T, 1, none⟩) hTl).trans x3'⟩;
        have hW6 := Lib.hid (H6.out.drew.below hB5 hSl); have hB6 := Lib.hid (HB.out.drew.trans (hB5.mono (show S ≤ W3.heap.size by omega)));
        have y0 := hW6.out.cell 0; have y1 := hW6.out.cell 1; have y2 := hW6.out.cell 2; have y3 := hW6.out.cell 3; have fr := hW6.out.free; clear hB5 x0 x1 x2 x3'))
    have hWf := Lib.hid (((((hW6.out.put 0 (.int .i64 p)).put 1 (.int .i64 q)).put 2 (.int .u8 (sh : Nat))).put 3 (.func (.func 54) #[] #[])).as (ds := #[.int .i64 p, .int .i64 q, .int .u8 (sh : Nat), (.func (.func 54) #[] #[])]) rfl)
    have hBf := Lib.hid ((((hB6.out.setCell (p := ⟨S + 1, 0, none⟩) (Nat.le_succ _) (.int .i64 p)).setCell (p := ⟨S + 1, 1, none⟩) (Nat.le_succ _) (.int .i64 q)).setCell (p := ⟨S + 1, 2, none⟩) (Nat.le_succ _) (.int .u8 (sh : Nat))).setCell (p := ⟨S + 1, 3, none⟩) (Nat.le_succ _) (.func (.func 54) #[] #[]))
    generalize (((W5.setCell ⟨S + 1, 0, none⟩ (.int .i64 p)).setCell ⟨S + 1, 1, none⟩ (.int .i64 q)).setCell ⟨S + 1, 2, none⟩ (.int .u8 (sh : Nat))).setCell ⟨S + 1, 3, none⟩ (.func (.func 54) #[] #[]) = W7 at *
    clear y0 y1 y2 y3 fr hS5 hW6 hB6 hix
    go_wp2_with fail
    exact bodyPost_ret (results_cell_row (fn := Try.f38) (p := 4) (ty := 78) rfl _ _ _ _ _ (0, 0) _ rfl hWf.out Try.underlying78 rfl (by kernel_rfl)) rfl ⟨by rw [hsh.out, hfi.out]; rfl, by rw [hS]; exact hBf.out⟩
  · have x3' : W3.cell? ⟨T, 1, none⟩ = some (.int .u8 3) := x3
    have hix := filt_at3
    clear x3
    go_region_held3 (fun V => V.cell? ⟨S, 0, none⟩ = some (.int .i64 p) ∧ V.cell? ⟨S, 1, none⟩ = some (.int .i64 q) ∧ V.cell? ⟨T, 0, none⟩ = some (.int .u8 (sh : Nat)) ∧ V.cell? ⟨T, 1, none⟩ = some (.int .u8 3))
      (first | (with_reducible exact hS5) | go_keep)
      ((go_at_call 46; (with_reducible refine (HF.out _).mono ?_); rintro e W5 ⟨rfl, hB5⟩;
        have hS5 : W5.cell? ⟨S, 0, none⟩ = some (.int .i64 p) ∧ W5.cell? ⟨S, 1, none⟩ = some (.int .i64 q) ∧ W5.cell? ⟨T, 0, none⟩ = some (.int .u8 (sh : Nat)) ∧ W5.cell? ⟨T, 1, none⟩ = some (.int .u8 3) := ⟨(hB5.cell (p := ⟨S, 0, none⟩) (show S < W3.heap.size by omega)).trans x0, (hB5.cell (p := ⟨S, 1, none⟩) (show S < W3.heap.size by omega)).trans x1, (hB5.cell (p := ⟨T, 0, none⟩) hTl).trans x2, (hB5.cell (p := ⟨T, 1, none⟩) hTl).trans x3'⟩;
        have hW6 := Lib.hid (H6.out.drew.below hB5 hSl); have hB6 := Lib.hid (HB.out.drew.trans (hB5.mono (show S ≤ W3.heap.size by omega)));
        have y0 := hW6.out.cell 0; have y1 := hW6.out.cell 1; have y2 := hW6.out.cell 2; have y3 := hW6.out.cell 3; have fr := hW6.out.free; clear hB5 x0 x1 x2 x3'))
    have hWf := Lib.hid (((((hW6.out.put 0 (.int .i64 p)).put 1 (.int .i64 q)).put 2 (.int .u8 (sh : Nat))).put 3 (.func (.func 55) #[] #[])).as (ds := #[.int .i64 p, .int .i64 q, .int .u8 (sh : Nat), (.func (.func 55) #[] #[])]) rfl)
    have hBf := Lib.hid ((((hB6.out.setCell (p := ⟨S + 1, 0, none⟩) (Nat.le_succ _) (.int .i64 p)).setCell (p := ⟨S + 1, 1, none⟩) (Nat.le_succ _) (.int .i64 q)).setCell (p := ⟨S + 1, 2, none⟩) (Nat.le_succ _) (.int .u8 (sh : Nat))).setCell (p := ⟨S + 1, 3, none⟩) (Nat.le_succ _) (.func (.func 55) #[] #[]))
    generalize (((W5.setCell ⟨S + 1, 0, none⟩ (.int .i64 p)).setCell ⟨S + 1, 1, none⟩ (.int .i64 q)).setCell ⟨S + 1, 2, none⟩ (.int .u8 (sh : Nat))).setCell ⟨S + 1, 3, none⟩ (.func (.func 55) #[] #[]) = W7 at *
    clear y0 y1 y2 y3 fr hS5 hW6 hB6 hix
    go_wp2_with fail
    exact bodyPost_ret (results_cell_row (fn := Try.f38) (p := 4) (ty := 78) rfl _ _ _ _ _ (0, 0) _ rfl hWf.out Try.underlying78 rfl (by kernel_rfl)) rfl ⟨by rw [hsh.out, hfi.out]; rfl, by rw [hS]; exact hBf.out⟩
end Go.Proofs.Ytekjcgckniopdaa
