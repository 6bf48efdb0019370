/-
  The document's Takes: numbers that are there.
-/
import Derived.Test.YtacnmnodbmbplaaRTkA
namespace Go.Proofs.Ytacnmnodbmbplaa
open Go.RowKit Go.Shelf
set_option maxRecDepth 100000
set_option maxHeartbeats 1000000

theorem RDoc.adv {w : World} {a ae : Option Addr} {c ce : Nat} {s : RS} (h : RDoc w a c ae ce s) (z : Nat) : RDoc w a c ae ce (s.adv z) := ⟨h.body, h.ends, h.le, h.len⟩
theorem adv_facts {A z n c : Nat} (h : A + z ≤ n) (h2 : n ≤ 16777216) (hc : n ≤ c) (hz : 0 < z) : wrap64 ((A : Int) + (z : Int)) = ((A + z : Nat) : Int) ∧ IntKind.i64.wrap ((A : Int) + (z : Int)) = ((A + z : Nat) : Int) ∧ (A : Int) ≤ ((A + z : Nat) : Int) ∧ ((A + z : Nat) : Int) ≤ (c : Int) ∧ ¬ c = A ∧ A + z ≤ c ∧ A + z - A = z :=
  ⟨by unfold wrap64; omega, by simp only [IntKind.wrap_i64]; omega, by omega, by omega, by omega, by omega, by omega⟩
theorem rtk_0y {a ae : Option Addr} {c ce : Nat} {s : RS} (n : Int) (pa : Option Addr) (len cap : Nat) (w : World) (h : RDoc w a c ae ce s) (hg : s.Good) (hz : 1 ≤ s.left) :
    Calls Try.prog 20 #[rdV a c ae ce s, putV 0 n pa len cap] w fun e w' => ∃ ab cb ae' ce', e = .returned (.tuple #[rdV a c ae' ce' (s.step 0 n).s, tookV (s.step 0 n).N ab (s.step 0 n).len cb (s.step 0 n).E]) ∧ RDoc w' a c ae' ce' (s.step 0 n).s ∧ Row w' ab (s.step 0 n).len (s.step 0 n).g ∧ Below w.heap.size w w' ∧ NewRow w.heap.size w' ae ae' := by
  have hX := (((Whole.fresh w 48 #[.slice a s.n c, .int .i64 (s.at_ : Nat), .slice ae (s.op + 1) ce]).alloc (.cells #[.int .i64 0, .int .i64 n, .slice pa len cap] 32)).alloc (.cells #[.slice none 0 0, .int .i64 0, .slice none 0 0] 48)).alloc (.cells #[.int .i64 0, .slice none 0 0, .int .i64 0] 50)
  have hY := ((Whole.fresh (w.alloc (.cells #[.slice a s.n c, .int .i64 (s.at_ : Nat), .slice ae (s.op + 1) ce] 48)) 32 #[.int .i64 0, .int .i64 n, .slice pa len cap]).alloc (.cells #[.slice none 0 0, .int .i64 0, .slice none 0 0] 48)).alloc (.cells #[.int .i64 0, .slice none 0 0, .int .i64 0] 50)
  have hU := (Whole.fresh ((w.alloc (.cells #[.slice a s.n c, .int .i64 (s.at_ : Nat), .slice ae (s.op + 1) ce] 48)).alloc (.cells #[.int .i64 0, .int .i64 n, .slice pa len cap] 32)) 48 #[.slice none 0 0, .int .i64 0, .slice none 0 0]).alloc (.cells #[.int .i64 0, .slice none 0 0, .int .i64 0] 50)
  have hV := Whole.fresh (((w.alloc (.cells #[.slice a s.n c, .int .i64 (s.at_ : Nat), .slice ae (s.op + 1) ce] 48)).alloc (.cells #[.int .i64 0, .int .i64 n, .slice pa len cap] 32)).alloc (.cells #[.slice none 0 0, .int .i64 0, .slice none 0 0] 48)) 50 #[.int .i64 0, .slice none 0 0, .int .i64 0]
  have hB := ((((Below.refl w.heap.size w).alloc (Nat.le_refl _) (.cells #[.slice a s.n c, .int .i64 (s.at_ : Nat), .slice ae (s.op + 1) ce] 48)).alloc (by simp) (.cells #[.int .i64 0, .int .i64 n, .slice pa len cap] 32)).alloc (by simp; omega) (.cells #[.slice none 0 0, .int .i64 0, .slice none 0 0] 48)).alloc (by simp; omega) (.cells #[.int .i64 0, .slice none 0 0, .int .i64 0] 50)
  have hs1 : (w.alloc (.cells #[.slice a s.n c, .int .i64 (s.at_ : Nat), .slice ae (s.op + 1) ce] 48)).heap.size = w.heap.size + 1 := by simp
  have hs2 : ((w.alloc (.cells #[.slice a s.n c, .int .i64 (s.at_ : Nat), .slice ae (s.op + 1) ce] 48)).alloc (.cells #[.int .i64 0, .int .i64 n, .slice pa len cap] 32)).heap.size = w.heap.size + 1 + 1 := by simp
  have hs3 : (((w.alloc (.cells #[.slice a s.n c, .int .i64 (s.at_ : Nat), .slice ae (s.op + 1) ce] 48)).alloc (.cells #[.int .i64 0, .int .i64 n, .slice pa len cap] 32)).alloc (.cells #[.slice none 0 0, .int .i64 0, .slice none 0 0] 48)).heap.size = w.heap.size + 1 + 1 + 1 := by simp
  rw [hs1] at hY
  rw [hs2] at hU
  rw [hs3] at hV
  clear hs1 hs2 hs3
  have hstep : s.step 0 n = ⟨s.adv 1, wrap64 (s.num 1 : Nat), 0, fun _ => 0, 0⟩ := (show s.step 0 n = s.stepN 1 from rfl).trans (if_neg (by omega))
  rw [hstep]
  have HLf := Lib.hid (fun (W : World) (hW : RDoc W a c ae ce s) => rleftd_any W hW hg)
  have hRD := Lib.hid h
  have hfit : s.at_ + 1 ≤ s.n := by have := hg.end_le; have := hg.le; unfold RS.left at hz; omega
  have ⟨w1', w2', w3, w4, w5, w6, w7⟩ := adv_facts (z := 1) hfit hg.n h.le (by decide)
  obtain ⟨Z, hZ⟩ : ∃ Z, Z = s.at_ + 1 := ⟨_, rfl⟩
  rw [← hZ] at w1' w2' w3 w4 w6 w7
  have w1 : wrap64 ((s.at_ : Int) + 1) = (Z : Int) := w1'
  have w2 : IntKind.i64.wrap ((s.at_ : Int) + 1) = (Z : Int) := w2'
  replace hZ := Lib.hid hZ
  clear w1' w2'
  have i1 : decide ((s.left : Int) < 1) = false := decide_eq_false (by omega)
  have i2 : ¬ (s.left : Int) < 1 := by omega
  have i3 : ¬ s.left < 1 := by omega
  obtain ⟨bb, bo, rfl, hbb⟩ : ∃ bb bo, a = some ⟨bb, bo, none⟩ ∧ bb < w.heap.size := by
    rcases h.body.2 with h0 | ⟨bb, bo, e, hbb, _⟩
    · omega
    · exact ⟨bb, bo, e, hbb⟩
  have hRw := Lib.hid (Row.shift h.body s.at_ 1 hfit)
  have HNu := Lib.hid (fun W (hW : Row W (some ⟨bb, bo + s.at_, none⟩) 1 (shiftF s.at_ s.f)) => rnumber_any (some ⟨bb, bo + s.at_, none⟩) 1 (c - s.at_) (shiftF s.at_ s.f) W hW (by decide))
  have hX0 : s.num 1 = numN (shiftF s.at_ s.f) 1 := rfl
  rw [hX0]
  clear hX0
  generalize numN (shiftF s.at_ s.f) 1 = X at *
  unfold rdV putV at *
  clear hstep hg h hz hfit
  generalize s.left = L at *
  go_enter Try.func20, Try.ntmps20
  go_upto_region 1 with (fail)
  generalize ((((w.alloc (.cells #[.slice (some ⟨bb, bo, none⟩) s.n c, .int .i64 (s.at_ : Nat), .slice ae (s.op + 1) ce] 48)).alloc (.cells #[.int .i64 0, .int .i64 n, .slice pa len cap] 32)).alloc (.cells #[.slice none 0 0, .int .i64 0, .slice none 0 0] 48)).alloc (.cells #[.int .i64 0, .slice none 0 0, .int .i64 0] 50)) = W0 at *
  have x0 := hX.cell 0
  have x1 := hX.cell 1
  have x2 := hX.cell 2
  have y0 := hY.cell 0
  simp only [List.getElem?_toArray, List.getElem?_cons_zero, List.getElem?_cons_succ] at x0 x1 x2 y0
  go_wp2_with fail
  refine (HLf.out _ (hRD.out.below hB)).mono ?_
  rintro e W1 ⟨rfl, hB1⟩
  clear x0 x1 x2 y0
  replace hX := hX.below hB1 hX.lt
  replace hY := hY.below hB1 hY.lt
  replace hU := hU.below hB1 hU.lt
  replace hV := hV.below hB1 hV.lt
  have hB := hB.trans (hB1.mono hB.size)
  clear hB1
  have x0 := hX.cell 0
  have x1 := hX.cell 1
  have x2 := hX.cell 2
  simp only [List.getElem?_toArray, List.getElem?_cons_zero, List.getElem?_cons_succ] at x0 x1 x2
  have y0 := hY.cell 0
  simp only [List.getElem?_toArray, List.getElem?_cons_zero] at y0
  go_wp2_with fail
  refine (HNu.out _ (hRw.out.below hB)).mono ?_
  rintro e W2 ⟨rfl, rfl⟩
  clear HNu HLf x0 x1 x2
  have hfx := hX.free 1
  have hX2 := hX.put 1 (.int .i64 (Z : Nat))
  have hU2 := hU.away (p := ⟨w.heap.size, 1, none⟩) (by show w.heap.size + 1 + 1 ≠ w.heap.size; omega) (.int .i64 (Z : Nat))
  have hV2 := hV.away (p := ⟨w.heap.size, 1, none⟩) (by show w.heap.size + 1 + 1 + 1 ≠ w.heap.size; omega) (.int .i64 (Z : Nat))
  have hB2 := hB.setCell (p := ⟨w.heap.size, 1, none⟩) (Nat.le_refl _) (.int .i64 (Z : Nat))
  have x1 := hX.cell 1
  simp only [List.getElem?_toArray, List.getElem?_cons_zero, List.getElem?_cons_succ] at x1
  replace hX2 := Lib.hid hX2
  replace hU2 := Lib.hid hU2
  replace hV2 := Lib.hid hV2
  replace hB2 := Lib.hid hB2
  clear hX hU hV hB
  go_upto_region 11 with (fail)
  clear hY x1 y0 hfx
  generalize W2.setCell ⟨w.heap.size, 1, none⟩ (.int .i64 (Z : Nat)) = W3 at *
  replace hX := hX2.out
  replace hU := hU2.out
  replace hV := hV2.out
  replace hB := hB2.out
  clear hX2 hU2 hV2 hB2
  simp only [List.setIfInBounds_toArray, List.set_cons_zero, List.set_cons_succ] at hX
  have x0 := hX.cell 0
  have x1 := hX.cell 1
  have x2 := hX.cell 2
  simp only [List.getElem?_toArray, List.getElem?_cons_zero, List.getElem?_cons_succ] at x0 x1 x2
  have z0 := hU.cell 0
  have z1 := hU.cell 1
  have z2 := hU.cell 2
  have v0 := hV.cell 0
  have v1 := hV.cell 1
  have v2 := hV.cell 2
  simp only [List.getElem?_toArray, List.getElem?_cons_zero, List.getElem?_cons_succ] at z0 z1 z2 v0 v1 v2
  have g0 := hU.free 0
  have g1 := hU.free 1
  have g2 := hU.free 2
  have k0 := hV.free 0
  have k1 := hV.free 1
  have k2 := hV.free 2
  have fin := Lib.hid (rd_end hB hU hV (.slice (some ⟨bb, bo, none⟩) s.n c) (.int .i64 (Z : Nat)) (.slice ae (s.op + 1) ce) (.int .i64 (wrap64 (X : Nat))) (.slice none 0 0) (.int .i64 0))
  clear hX hU hV hB
  go_wp2_with fail
  obtain rfl := hZ.out
  exact bodyPost_ret (results_cells2 (fn := Try.f20) (p1 := 4) (p2 := 5) (ty1 := 48) (ty2 := 50) rfl _ _ _ _ _ _ _ _ (0, 0) (0, 0) _ _ rfl fin.out.1 Try.underlying48 rfl (by kernel_rfl) rfl fin.out.2.1 Try.underlying50 rfl (by kernel_rfl)) rfl ⟨_, _, _, _, rfl, (hRD.out.below fin.out.2.2).adv 1, Row.nil _ _ _, fin.out.2.2, .inl rfl⟩
theorem rtk_1y {a ae : Option Addr} {c ce : Nat} {s : RS} (n : Int) (pa : Option Addr) (len cap : Nat) (w : World) (h : RDoc w a c ae ce s) (hg : s.Good) (hz : 2 ≤ s.left) :
    Calls Try.prog 20 #[rdV a c ae ce s, putV 1 n pa len cap] w fun e w' => ∃ ab cb ae' ce', e = .returned (.tuple #[rdV a c ae' ce' (s.step 1 n).s, tookV (s.step 1 n).N ab (s.step 1 n).len cb (s.step 1 n).E]) ∧ RDoc w' a c ae' ce' (s.step 1 n).s ∧ Row w' ab (s.step 1 n).len (s.step 1 n).g ∧ Below w.heap.size w w' ∧ NewRow w.heap.size w' ae ae' := by
  have hX := (((Whole.fresh w 48 #[.slice a s.n c, .int .i64 (s.at_ : Nat), .slice ae (s.op + 1) ce]).alloc (.cells #[.int .i64 1, .int .i64 n, .slice pa len cap] 32)).alloc (.cells #[.slice none 0 0, .int .i64 0, .slice none 0 0] 48)).alloc (.cells #[.int .i64 0, .slice none 0 0, .int .i64 0] 50)
  have hY := ((Whole.fresh (w.alloc (.cells #[.slice a s.n c, .int .i64 (s.at_ : Nat), .slice ae (s.op + 1) ce] 48)) 32 #[.int .i64 1, .int .i64 n, .slice pa len cap]).alloc (.cells #[.slice none 0 0, .int .i64 0, .slice none 0 0] 48)).alloc (.cells #[.int .i64 0, .slice none 0 0, .int .i64 0] 50)
  have hU := (Whole.fresh ((w.alloc (.cells #[.slice a s.n c, .int .i64 (s.at_ : Nat), .slice ae (s.op + 1) ce] 48)).alloc (.cells #[.int .i64 1, .int .i64 n, .slice pa len cap] 32)) 48 #[.slice none 0 0, .int .i64 0, .slice none 0 0]).alloc (.cells #[.int .i64 0, .slice none 0 0, .int .i64 0] 50)
  have hV := Whole.fresh (((w.alloc (.cells #[.slice a s.n c, .int .i64 (s.at_ : Nat), .slice ae (s.op + 1) ce] 48)).alloc (.cells #[.int .i64 1, .int .i64 n, .slice pa len cap] 32)).alloc (.cells #[.slice none 0 0, .int .i64 0, .slice none 0 0] 48)) 50 #[.int .i64 0, .slice none 0 0, .int .i64 0]
  have hB := ((((Below.refl w.heap.size w).alloc (Nat.le_refl _) (.cells #[.slice a s.n c, .int .i64 (s.at_ : Nat), .slice ae (s.op + 1) ce] 48)).alloc (by simp) (.cells #[.int .i64 1, .int .i64 n, .slice pa len cap] 32)).alloc (by simp; omega) (.cells #[.slice none 0 0, .int .i64 0, .slice none 0 0] 48)).alloc (by simp; omega) (.cells #[.int .i64 0, .slice none 0 0, .int .i64 0] 50)
  have hs1 : (w.alloc (.cells #[.slice a s.n c, .int .i64 (s.at_ : Nat), .slice ae (s.op + 1) ce] 48)).heap.size = w.heap.size + 1 := by simp
  have hs2 : ((w.alloc (.cells #[.slice a s.n c, .int .i64 (s.at_ : Nat), .slice ae (s.op + 1) ce] 48)).alloc (.cells #[.int .i64 1, .int .i64 n, .slice pa len cap] 32)).heap.size = w.heap.size + 1 + 1 := by simp
  have hs3 : (((w.alloc (.cells #[.slice a s.n c, .int .i64 (s.at_ : Nat), .slice ae (s.op + 1) ce] 48)).alloc (.cells #[.int .i64 1, .int .i64 n, .slice pa len cap] 32)).alloc (.cells #[.slice none 0 0, .int .i64 0, .slice none 0 0] 48)).heap.size = w.heap.size + 1 + 1 + 1 := by simp
  rw [hs1] at hY
  rw [hs2] at hU
  rw [hs3] at hV
  clear hs1 hs2 hs3
  have hstep : s.step 1 n = ⟨s.adv 2, wrap64 (s.num 2 : Nat), 0, fun _ => 0, 0⟩ := (show s.step 1 n = s.stepN 2 from rfl).trans (if_neg (by omega))
  rw [hstep]
  have HLf := Lib.hid (fun (W : World) (hW : RDoc W a c ae ce s) => rleftd_any W hW hg)
  have hRD := Lib.hid h
  have hfit : s.at_ + 2 ≤ s.n := by have := hg.end_le; have := hg.le; unfold RS.left at hz; omega
  have ⟨w1', w2', w3, w4, w5, w6, w7⟩ := adv_facts (z := 2) hfit hg.n h.le (by decide)
  obtain ⟨Z, hZ⟩ : ∃ Z, Z = s.at_ + 2 := ⟨_, rfl⟩
  rw [← hZ] at w1' w2' w3 w4 w6 w7
  have w1 : wrap64 ((s.at_ : Int) + 2) = (Z : Int) := w1'
  have w2 : IntKind.i64.wrap ((s.at_ : Int) + 2) = (Z : Int) := w2'
  replace hZ := Lib.hid hZ
  clear w1' w2'
  have i1 : decide ((s.left : Int) < 2) = false := decide_eq_false (by omega)
  have i2 : ¬ (s.left : Int) < 2 := by omega
  have i3 : ¬ s.left < 2 := by omega
  obtain ⟨bb, bo, rfl, hbb⟩ : ∃ bb bo, a = some ⟨bb, bo, none⟩ ∧ bb < w.heap.size := by
    rcases h.body.2 with h0 | ⟨bb, bo, e, hbb, _⟩
    · omega
    · exact ⟨bb, bo, e, hbb⟩
  have hRw := Lib.hid (Row.shift h.body s.at_ 2 hfit)
  have HNu := Lib.hid (fun W (hW : Row W (some ⟨bb, bo + s.at_, none⟩) 2 (shiftF s.at_ s.f)) => rnumber_any (some ⟨bb, bo + s.at_, none⟩) 2 (c - s.at_) (shiftF s.at_ s.f) W hW (by decide))
  have hX0 : s.num 2 = numN (shiftF s.at_ s.f) 2 := rfl
  rw [hX0]
  clear hX0
  generalize numN (shiftF s.at_ s.f) 2 = X at *
  unfold rdV putV at *
  clear hstep hg h hz hfit
  generalize s.left = L at *
  go_enter Try.func20, Try.ntmps20
  go_upto_region 1 with (fail)
  generalize ((((w.alloc (.cells #[.slice (some ⟨bb, bo, none⟩) s.n c, .int .i64 (s.at_ : Nat), .slice ae (s.op + 1) ce] 48)).alloc (.cells #[.int .i64 1, .int .i64 n, .slice pa len cap] 32)).alloc (.cells #[.slice none 0 0, .int .i64 0, .slice none 0 0] 48)).alloc (.cells #[.int .i64 0, .slice none 0 0, .int .i64 0] 50)) = W0 at *
  have x0 := hX.cell 0
  have x1 := hX.cell 1
  have x2 := hX.cell 2
  have y0 := hY.cell 0
  simp only [List.getElem?_toArray, List.getElem?_cons_zero, List.getElem?_cons_succ] at x0 x1 x2 y0
  go_wp2_with fail
  refine (HLf.out _ (hRD.out.below hB)).mono ?_
  rintro e W1 ⟨rfl, hB1⟩
  clear x0 x1 x2 y0
  replace hX := hX.below hB1 hX.lt
  replace hY := hY.below hB1 hY.lt
  replace hU := hU.below hB1 hU.lt
  replace hV := hV.below hB1 hV.lt
  have hB := hB.trans (hB1.mono hB.size)
  clear hB1
  have x0 := hX.cell 0
  have x1 := hX.cell 1
  have x2 := hX.cell 2
  simp only [List.getElem?_toArray, List.getElem?_cons_zero, List.getElem?_cons_succ] at x0 x1 x2
  have y0 := hY.cell 0
  simp only [List.getElem?_toArray, List.getElem?_cons_zero] at y0
  go_wp2_with fail
  refine (HNu.out _ (hRw.out.below hB)).mono ?_
  rintro e W2 ⟨rfl, rfl⟩
  clear HNu HLf x0 x1 x2
  have hfx := hX.free 1
  have hX2 := hX.put 1 (.int .i64 (Z : Nat))
  have hU2 := hU.away (p := ⟨w.heap.size, 1, none⟩) (by show w.heap.size + 1 + 1 ≠ w.heap.size; omega) (.int .i64 (Z : Nat))
  have hV2 := hV.away (p := ⟨w.heap.size, 1, none⟩) (by show w.heap.size + 1 + 1 + 1 ≠ w.heap.size; omega) (.int .i64 (Z : Nat))
  have hB2 := hB.setCell (p := ⟨w.heap.size, 1, none⟩) (Nat.le_refl _) (.int .i64 (Z : Nat))
  have x1 := hX.cell 1
  simp only [List.getElem?_toArray, List.getElem?_cons_zero, List.getElem?_cons_succ] at x1
  replace hX2 := Lib.hid hX2
  replace hU2 := Lib.hid hU2
  replace hV2 := Lib.hid hV2
  replace hB2 := Lib.hid hB2
  clear hX hU hV hB
  go_upto_region 11 with (fail)
  clear hY x1 y0 hfx
  generalize W2.setCell ⟨w.heap.size, 1, none⟩ (.int .i64 (Z : Nat)) = W3 at *
  replace hX := hX2.out
  replace hU := hU2.out
  replace hV := hV2.out
  replace hB := hB2.out
  clear hX2 hU2 hV2 hB2
  simp only [List.setIfInBounds_toArray, List.set_cons_zero, List.set_cons_succ] at hX
  have x0 := hX.cell 0
  have x1 := hX.cell 1
  have x2 := hX.cell 2
  simp only [List.getElem?_toArray, List.getElem?_cons_zero, List.getElem?_cons_succ] at x0 x1 x2
  have z0 := hU.cell 0
  have z1 := hU.cell 1
  have z2 := hU.cell 2
  have v0 := hV.cell 0
  have v1 := hV.cell 1
  have v2 := hV.cell 2
  simp only [List.getElem?_toArray, List.getElem?_cons_zero, List.getElem?_cons_succ] at z0 z1 z2 v0 v1 v2
  have g0 := hU.free 0
  have g1 := hU.free 1
  have g2 := hU.free 2
  have k0 := hV.free 0
  have k1 := hV.free 1
  have k2 := hV.free 2
  have fin := Lib.hid (rd_end hB hU hV (.slice (some ⟨bb, bo, none⟩) s.n c) (.int .i64 (Z : Nat)) (.slice ae (s.op + 1) ce) (.int .i64 (wrap64 (X : Nat))) (.slice none 0 0) (.int .i64 0))
  clear hX hU hV hB
  go_wp2_with fail
  obtain rfl := hZ.out
  exact bodyPost_ret (results_cells2 (fn := Try.f20) (p1 := 4) (p2 := 5) (ty1 := 48) (ty2 := 50) rfl _ _ _ _ _ _ _ _ (0, 0) (0, 0) _ _ rfl fin.out.1 Try.underlying48 rfl (by kernel_rfl) rfl fin.out.2.1 Try.underlying50 rfl (by kernel_rfl)) rfl ⟨_, _, _, _, rfl, (hRD.out.below fin.out.2.2).adv 2, Row.nil _ _ _, fin.out.2.2, .inl rfl⟩
theorem rtk_2y {a ae : Option Addr} {c ce : Nat} {s : RS} (n : Int) (pa : Option Addr) (len cap : Nat) (w : World) (h : RDoc w a c ae ce s) (hg : s.Good) (hz : 4 ≤ s.left) :
    Calls Try.prog 20 #[rdV a c ae ce s, putV 2 n pa len cap] w fun e w' => ∃ ab cb ae' ce', e = .returned (.tuple #[rdV a c ae' ce' (s.step 2 n).s, tookV (s.step 2 n).N ab (s.step 2 n).len cb (s.step 2 n).E]) ∧ RDoc w' a c ae' ce' (s.step 2 n).s ∧ Row w' ab (s.step 2 n).len (s.step 2 n).g ∧ Below w.heap.size w w' ∧ NewRow w.heap.size w' ae ae' := by
  have hX := (((Whole.fresh w 48 #[.slice a s.n c, .int .i64 (s.at_ : Nat), .slice ae (s.op + 1) ce]).alloc (.cells #[.int .i64 2, .int .i64 n, .slice pa len cap] 32)).alloc (.cells #[.slice none 0 0, .int .i64 0, .slice none 0 0] 48)).alloc (.cells #[.int .i64 0, .slice none 0 0, .int .i64 0] 50)
  have hY := ((Whole.fresh (w.alloc (.cells #[.slice a s.n c, .int .i64 (s.at_ : Nat), .slice ae (s.op + 1) ce] 48)) 32 #[.int .i64 2, .int .i64 n, .slice pa len cap]).alloc (.cells #[.slice none 0 0, .int .i64 0, .slice none 0 0] 48)).alloc (.cells #[.int .i64 0, .slice none 0 0, .int .i64 0] 50)
  have hU := (Whole.fresh ((w.alloc (.cells #[.slice a s.n c, .int .i64 (s.at_ : Nat), .slice ae (s.op + 1) ce] 48)).alloc (.cells #[.int .i64 2, .int .i64 n, .slice pa len cap] 32)) 48 #[.slice none 0 0, .int .i64 0, .slice none 0 0]).alloc (.cells #[.int .i64 0, .slice none 0 0, .int .i64 0] 50)
  have hV := Whole.fresh (((w.alloc (.cells #[.slice a s.n c, .int .i64 (s.at_ : Nat), .slice ae (s.op + 1) ce] 48)).alloc (.cells #[.int .i64 2, .int .i64 n, .slice pa len cap] 32)).alloc (.cells #[.slice none 0 0, .int .i64 0, .slice none 0 0] 48)) 50 #[.int .i64 0, .slice none 0 0, .int .i64 0]
  have hB := ((((Below.refl w.heap.size w).alloc (Nat.le_refl _) (.cells #[.slice a s.n c, .int .i64 (s.at_ : Nat), .slice ae (s.op + 1) ce] 48)).alloc (by simp) (.cells #[.int .i64 2, .int .i64 n, .slice pa len cap] 32)).alloc (by simp; omega) (.cells #[.slice none 0 0, .int .i64 0, .slice none 0 0] 48)).alloc (by simp; omega) (.cells #[.int .i64 0, .slice none 0 0, .int .i64 0] 50)
  have hs1 : (w.alloc (.cells #[.slice a s.n c, .int .i64 (s.at_ : Nat), .slice ae (s.op + 1) ce] 48)).heap.size = w.heap.size + 1 := by simp
  have hs2 : ((w.alloc (.cells #[.slice a s.n c, .int .i64 (s.at_ : Nat), .slice ae (s.op + 1) ce] 48)).alloc (.cells #[.int .i64 2, .int .i64 n, .slice pa len cap] 32)).heap.size = w.heap.size + 1 + 1 := by simp
  have hs3 : (((w.alloc (.cells #[.slice a s.n c, .int .i64 (s.at_ : Nat), .slice ae (s.op + 1) ce] 48)).alloc (.cells #[.int .i64 2, .int .i64 n, .slice pa len cap] 32)).alloc (.cells #[.slice none 0 0, .int .i64 0, .slice none 0 0] 48)).heap.size = w.heap.size + 1 + 1 + 1 := by simp
  rw [hs1] at hY
  rw [hs2] at hU
  rw [hs3] at hV
  clear hs1 hs2 hs3
  have hstep : s.step 2 n = ⟨s.adv 4, wrap64 (s.num 4 : Nat), 0, fun _ => 0, 0⟩ := (show s.step 2 n = s.stepN 4 from rfl).trans (if_neg (by omega))
  rw [hstep]
  have HLf := Lib.hid (fun (W : World) (hW : RDoc W a c ae ce s) => rleftd_any W hW hg)
  have hRD := Lib.hid h
  have hfit : s.at_ + 4 ≤ s.n := by have := hg.end_le; have := hg.le; unfold RS.left at hz; omega
  have ⟨w1', w2', w3, w4, w5, w6, w7⟩ := adv_facts (z := 4) hfit hg.n h.le (by decide)
  obtain ⟨Z, hZ⟩ : ∃ Z, Z = s.at_ + 4 := ⟨_, rfl⟩
  rw [← hZ] at w1' w2' w3 w4 w6 w7
  have w1 : wrap64 ((s.at_ : Int) + 4) = (Z : Int) := w1'
  have w2 : IntKind.i64.wrap ((s.at_ : Int) + 4) = (Z : Int) := w2'
  replace hZ := Lib.hid hZ
  clear w1' w2'
  have i1 : decide ((s.left : Int) < 4) = false := decide_eq_false (by omega)
  have i2 : ¬ (s.left : Int) < 4 := by omega
  have i3 : ¬ s.left < 4 := by omega
  obtain ⟨bb, bo, rfl, hbb⟩ : ∃ bb bo, a = some ⟨bb, bo, none⟩ ∧ bb < w.heap.size := by
    rcases h.body.2 with h0 | ⟨bb, bo, e, hbb, _⟩
    · omega
    · exact ⟨bb, bo, e, hbb⟩
  have hRw := Lib.hid (Row.shift h.body s.at_ 4 hfit)
  have HNu := Lib.hid (fun W (hW : Row W (some ⟨bb, bo + s.at_, none⟩) 4 (shiftF s.at_ s.f)) => rnumber_any (some ⟨bb, bo + s.at_, none⟩) 4 (c - s.at_) (shiftF s.at_ s.f) W hW (by decide))
  have hX0 : s.num 4 = numN (shiftF s.at_ s.f) 4 := rfl
  rw [hX0]
  clear hX0
  generalize numN (shiftF s.at_ s.f) 4 = X at *
  unfold rdV putV at *
  clear hstep hg h hz hfit
  generalize s.left = L at *
  go_enter Try.func20, Try.ntmps20
  go_upto_region 1 with (fail)
  generalize ((((w.alloc (.cells #[.slice (some ⟨bb, bo, none⟩) s.n c, .int .i64 (s.at_ : Nat), .slice ae (s.op + 1) ce] 48)).alloc (.cells #[.int .i64 2, .int .i64 n, .slice pa len cap] 32)).alloc (.cells #[.slice none 0 0, .int .i64 0, .slice none 0 0] 48)).alloc (.cells #[.int .i64 0, .slice none 0 0, .int .i64 0] 50)) = W0 at *
  have x0 := hX.cell 0
  have x1 := hX.cell 1
  have x2 := hX.cell 2
  have y0 := hY.cell 0
  simp only [List.getElem?_toArray, List.getElem?_cons_zero, List.getElem?_cons_succ] at x0 x1 x2 y0
  go_wp2_with fail
  refine (HLf.out _ (hRD.out.below hB)).mono ?_
  rintro e W1 ⟨rfl, hB1⟩
  clear x0 x1 x2 y0
  replace hX := hX.below hB1 hX.lt
  replace hY := hY.below hB1 hY.lt
  replace hU := hU.below hB1 hU.lt
  replace hV := hV.below hB1 hV.lt
  have hB := hB.trans (hB1.mono hB.size)
  clear hB1
  have x0 := hX.cell 0
  have x1 := hX.cell 1
  have x2 := hX.cell 2
  simp only [List.getElem?_toArray, List.getElem?_cons_zero, List.getElem?_cons_succ] at x0 x1 x2
  have y0 := hY.cell 0
  simp only [List.getElem?_toArray, List.getElem?_cons_zero] at y0
  go_wp2_with fail
  refine (HNu.out _ (hRw.out.below hB)).mono ?_
  rintro e W2 ⟨rfl, rfl⟩
  clear HNu HLf x0 x1 x2
  have hfx := hX.free 1
  have hX2 := hX.put 1 (.int .i64 (Z : Nat))
  have hU2 := hU.away (p := ⟨w.heap.size, 1, none⟩) (by show w.heap.size + 1 + 1 ≠ w.heap.size; omega) (.int .i64 (Z : Nat))
  have hV2 := hV.away (p := ⟨w.heap.size, 1, none⟩) (by show w.heap.size + 1 + 1 + 1 ≠ w.heap.size; omega) (.int .i64 (Z : Nat))
  have hB2 := hB.setCell (p := ⟨w.heap.size, 1, none⟩) (Nat.le_refl _) (.int .i64 (Z : Nat))
  have x1 := hX.cell 1
  simp only [List.getElem?_toArray, List.getElem?_cons_zero, List.getElem?_cons_succ] at x1
  replace hX2 := Lib.hid hX2
  replace hU2 := Lib.hid hU2
  replace hV2 := Lib.hid hV2
  replace hB2 := Lib.hid hB2
  clear hX hU hV hB
  go_upto_region 11 with (fail)
  clear hY x1 y0 hfx
  generalize W2.setCell ⟨w.heap.size, 1, none⟩ (.int .i64 (Z : Nat)) = W3 at *
  replace hX := hX2.out
  replace hU := hU2.out
  replace hV := hV2.out
  replace hB := hB2.out
  clear hX2 hU2 hV2 hB2
  simp only [List.setIfInBounds_toArray, List.set_cons_zero, List.set_cons_succ] at hX
  have x0 := hX.cell 0
  have x1 := hX.cell 1
  have x2 := hX.cell 2
  simp only [List.getElem?_toArray, List.getElem?_cons_zero, List.getElem?_cons_succ] at x0 x1 x2
  have z0 := hU.cell 0
  have z1 := hU.cell 1
  have z2 := hU.cell 2
  have v0 := hV.cell 0
  have v1 := hV.cell 1
  have v2 := hV.cell 2
  simp only [List.getElem?_toArray, List.getElem?_cons_zero, List.getElem?_cons_succ] at z0 z1 z2 v0 v1 v2
  have g0 := hU.free 0
  have g1 := hU.free 1
  have g2 := hU.free 2
  have k0 := hV.free 0
  have k1 := hV.free 1
  have k2 := hV.free 2
  have fin := Lib.hid (rd_end hB hU hV (.slice (some ⟨bb, bo, none⟩) s.n c) (.int .i64 (Z : Nat)) (.slice ae (s.op + 1) ce) (.int .i64 (wrap64 (X : Nat))) (.slice none 0 0) (.int .i64 0))
  clear hX hU hV hB
  go_wp2_with fail
  obtain rfl := hZ.out
  exact bodyPost_ret (results_cells2 (fn := Try.f20) (p1 := 4) (p2 := 5) (ty1 := 48) (ty2 := 50) rfl _ _ _ _ _ _ _ _ (0, 0) (0, 0) _ _ rfl fin.out.1 Try.underlying48 rfl (by kernel_rfl) rfl fin.out.2.1 Try.underlying50 rfl (by kernel_rfl)) rfl ⟨_, _, _, _, rfl, (hRD.out.below fin.out.2.2).adv 4, Row.nil _ _ _, fin.out.2.2, .inl rfl⟩
theorem rtk_3y {a ae : Option Addr} {c ce : Nat} {s : RS} (n : Int) (pa : Option Addr) (len cap : Nat) (w : World) (h : RDoc w a c ae ce s) (hg : s.Good) (hz : 8 ≤ s.left) :
    Calls Try.prog 20 #[rdV a c ae ce s, putV 3 n pa len cap] w fun e w' => ∃ ab cb ae' ce', e = .returned (.tuple #[rdV a c ae' ce' (s.step 3 n).s, tookV (s.step 3 n).N ab (s.step 3 n).len cb (s.step 3 n).E]) ∧ RDoc w' a c ae' ce' (s.step 3 n).s ∧ Row w' ab (s.step 3 n).len (s.step 3 n).g ∧ Below w.heap.size w w' ∧ NewRow w.heap.size w' ae ae' := by
  have hX := (((Whole.fresh w 48 #[.slice a s.n c, .int .i64 (s.at_ : Nat), .slice ae (s.op + 1) ce]).alloc (.cells #[.int .i64 3, .int .i64 n, .slice pa len cap] 32)).alloc (.cells #[.slice none 0 0, .int .i64 0, .slice none 0 0] 48)).alloc (.cells #[.int .i64 0, .slice none 0 0, .int .i64 0] 50)
  have hY := ((Whole.fresh (w.alloc (.cells #[.slice a s.n c, .int .i64 (s.at_ : Nat), .slice ae (s.op + 1) ce] 48)) 32 #[.int .i64 3, .int .i64 n, .slice pa len cap]).alloc (.cells #[.slice none 0 0, .int .i64 0, .slice none 0 0] 48)).alloc (.cells #[.int .i64 0, .slice none 0 0, .int .i64 0] 50)
  have hU := (Whole.fresh ((w.alloc (.cells #[.slice a s.n c, .int .i64 (s.at_ : Nat), .slice ae (s.op + 1) ce] 48)).alloc (.cells #[.int .i64 3, .int .i64 n, .slice pa len cap] 32)) 48 #[.slice none 0 0, .int .i64 0, .slice none 0 0]).alloc (.cells #[.int .i64 0, .slice none 0 0, .int .i64 0] 50)
  have hV := Whole.fresh (((w.alloc (.cells #[.slice a s.n c, .int .i64 (s.at_ : Nat), .slice ae (s.op + 1) ce] 48)).alloc (.cells #[.int .i64 3, .int .i64 n, .slice pa len cap] 32)).alloc (.cells #[.slice none 0 0, .int .i64 0, .slice none 0 0] 48)) 50 #[.int .i64 0, .slice none 0 0, .int .i64 0]
  have hB := ((((Below.refl w.heap.size w).alloc (Nat.le_refl _) (.cells #[.slice a s.n c, .int .i64 (s.at_ : Nat), .slice ae (s.op + 1) ce] 48)).alloc (by simp) (.cells #[.int .i64 3, .int .i64 n, .slice pa len cap] 32)).alloc (by simp; omega) (.cells #[.slice none 0 0, .int .i64 0, .slice none 0 0] 48)).alloc (by simp; omega) (.cells #[.int .i64 0, .slice none 0 0, .int .i64 0] 50)
  have hs1 : (w.alloc (.cells #[.slice a s.n c, .int .i64 (s.at_ : Nat), .slice ae (s.op + 1) ce] 48)).heap.size = w.heap.size + 1 := by simp
  have hs2 : ((w.alloc (.cells #[.slice a s.n c, .int .i64 (s.at_ : Nat), .slice ae (s.op + 1) ce] 48)).alloc (.cells #[.int .i64 3, .int .i64 n, .slice pa len cap] 32)).heap.size = w.heap.size + 1 + 1 := by simp
  have hs3 : (((w.alloc (.cells #[.slice a s.n c, .int .i64 (s.at_ : Nat), .slice ae (s.op + 1) ce] 48)).alloc (.cells #[.int .i64 3, .int .i64 n, .slice pa len cap] 32)).alloc (.cells #[.slice none 0 0, .int .i64 0, .slice none 0 0] 48)).heap.size = w.heap.size + 1 + 1 + 1 := by simp
  rw [hs1] at hY
  rw [hs2] at hU
  rw [hs3] at hV
  clear hs1 hs2 hs3
  have hstep : s.step 3 n = ⟨s.adv 8, wrap64 (s.num 8 : Nat), 0, fun _ => 0, 0⟩ := (show s.step 3 n = s.stepN 8 from rfl).trans (if_neg (by omega))
  rw [hstep]
  have HLf := Lib.hid (fun (W : World) (hW : RDoc W a c ae ce s) => rleftd_any W hW hg)
  have hRD := Lib.hid h
  have hfit : s.at_ + 8 ≤ s.n := by have := hg.end_le; have := hg.le; unfold RS.left at hz; omega
  have ⟨w1', w2', w3, w4, w5, w6, w7⟩ := adv_facts (z := 8) hfit hg.n h.le (by decide)
  obtain ⟨Z, hZ⟩ : ∃ Z, Z = s.at_ + 8 := ⟨_, rfl⟩
  rw [← hZ] at w1' w2' w3 w4 w6 w7
  have w1 : wrap64 ((s.at_ : Int) + 8) = (Z : Int) := w1'
  have w2 : IntKind.i64.wrap ((s.at_ : Int) + 8) = (Z : Int) := w2'
  replace hZ := Lib.hid hZ
  clear w1' w2'
  have i1 : decide ((s.left : Int) < 8) = false := decide_eq_false (by omega)
  have i2 : ¬ (s.left : Int) < 8 := by omega
  have i3 : ¬ s.left < 8 := by omega
  obtain ⟨bb, bo, rfl, hbb⟩ : ∃ bb bo, a = some ⟨bb, bo, none⟩ ∧ bb < w.heap.size := by
    rcases h.body.2 with h0 | ⟨bb, bo, e, hbb, _⟩
    · omega
    · exact ⟨bb, bo, e, hbb⟩
  have hRw := Lib.hid (Row.shift h.body s.at_ 8 hfit)
  have HNu := Lib.hid (fun W (hW : Row W (some ⟨bb, bo + s.at_, none⟩) 8 (shiftF s.at_ s.f)) => rnumber_any (some ⟨bb, bo + s.at_, none⟩) 8 (c - s.at_) (shiftF s.at_ s.f) W hW (by decide))
  have hX0 : s.num 8 = numN (shiftF s.at_ s.f) 8 := rfl
  rw [hX0]
  clear hX0
  generalize numN (shiftF s.at_ s.f) 8 = X at *
  unfold rdV putV at *
  clear hstep hg h hz hfit
  generalize s.left = L at *
  go_enter Try.func20, Try.ntmps20
  go_upto_region 1 with (fail)
  generalize ((((w.alloc (.cells #[.slice (some ⟨bb, bo, none⟩) s.n c, .int .i64 (s.at_ : Nat), .slice ae (s.op + 1) ce] 48)).alloc (.cells #[.int .i64 3, .int .i64 n, .slice pa len cap] 32)).alloc (.cells #[.slice none 0 0, .int .i64 0, .slice none 0 0] 48)).alloc (.cells #[.int .i64 0, .slice none 0 0, .int .i64 0] 50)) = W0 at *
  have x0 := hX.cell 0
  have x1 := hX.cell 1
  have x2 := hX.cell 2
  have y0 := hY.cell 0
  simp only [List.getElem?_toArray, List.getElem?_cons_zero, List.getElem?_cons_succ] at x0 x1 x2 y0
  go_wp2_with fail
  refine (HLf.out _ (hRD.out.below hB)).mono ?_
  rintro e W1 ⟨rfl, hB1⟩
  clear x0 x1 x2 y0
  replace hX := hX.below hB1 hX.lt
  replace hY := hY.below hB1 hY.lt
  replace hU := hU.below hB1 hU.lt
  replace hV := hV.below hB1 hV.lt
  have hB := hB.trans (hB1.mono hB.size)
  clear hB1
  have x0 := hX.cell 0
  have x1 := hX.cell 1
  have x2 := hX.cell 2
  simp only [List.getElem?_toArray, List.getElem?_cons_zero, List.getElem?_cons_succ] at x0 x1 x2
  have y0 := hY.cell 0
  simp only [List.getElem?_toArray, List.getElem?_cons_zero] at y0
  go_wp2_with fail
  refine (HNu.out _ (hRw.out.below hB)).mono ?_
  rintro e W2 ⟨rfl, rfl⟩
  clear HNu HLf x0 x1 x2
  have hfx := hX.free 1
  have hX2 := hX.put 1 (.int .i64 (Z : Nat))
  have hU2 := hU.away (p := ⟨w.heap.size, 1, none⟩) (by show w.heap.size + 1 + 1 ≠ w.heap.size; omega) (.int .i64 (Z : Nat))
  have hV2 := hV.away (p := ⟨w.heap.size, 1, none⟩) (by show w.heap.size + 1 + 1 + 1 ≠ w.heap.size; omega) (.int .i64 (Z : Nat))
  have hB2 := hB.setCell (p := ⟨w.heap.size, 1, none⟩) (Nat.le_refl _) (.int .i64 (Z : Nat))
  have x1 := hX.cell 1
  simp only [List.getElem?_toArray, List.getElem?_cons_zero, List.getElem?_cons_succ] at x1
  replace hX2 := Lib.hid hX2
  replace hU2 := Lib.hid hU2
  replace hV2 := Lib.hid hV2
  replace hB2 := Lib.hid hB2
  clear hX hU hV hB
  go_upto_region 11 with (fail)
  clear hY x1 y0 hfx
  generalize W2.setCell ⟨w.heap.size, 1, none⟩ (.int .i64 (Z : Nat)) = W3 at *
  replace hX := hX2.out
  replace hU := hU2.out
  replace hV := hV2.out
  replace hB := hB2.out
  clear hX2 hU2 hV2 hB2
  simp only [List.setIfInBounds_toArray, List.set_cons_zero, List.set_cons_succ] at hX
  have x0 := hX.cell 0
  have x1 := hX.cell 1
  have x2 := hX.cell 2
  simp only [List.getElem?_toArray, List.getElem?_cons_zero, List.getElem?_cons_succ] at x0 x1 x2
  have z0 := hU.cell 0
  have z1 := hU.cell 1
  have z2 := hU.cell 2
  have v0 := hV.cell 0
  have v1 := hV.cell 1
  have v2 := hV.cell 2
  simp only [List.getElem?_toArray, List.getElem?_cons_zero, List.getElem?_cons_succ] at z0 z1 z2 v0 v1 v2
  have g0 := hU.free 0
  have g1 := hU.free 1
  have g2 := hU.free 2
  have k0 := hV.free 0
  have k1 := hV.free 1
  have k2 := hV.free 2
  have fin := Lib.hid (rd_end hB hU hV (.slice (some ⟨bb, bo, none⟩) s.n c) (.int .i64 (Z : Nat)) (.slice ae (s.op + 1) ce) (.int .i64 (wrap64 (X : Nat))) (.slice none 0 0) (.int .i64 0))
  clear hX hU hV hB
  go_wp2_with fail
  obtain rfl := hZ.out
  exact bodyPost_ret (results_cells2 (fn := Try.f20) (p1 := 4) (p2 := 5) (ty1 := 48) (ty2 := 50) rfl _ _ _ _ _ _ _ _ (0, 0) (0, 0) _ _ rfl fin.out.1 Try.underlying48 rfl (by kernel_rfl) rfl fin.out.2.1 Try.underlying50 rfl (by kernel_rfl)) rfl ⟨_, _, _, _, rfl, (hRD.out.below fin.out.2.2).adv 8, Row.nil _ _ _, fin.out.2.2, .inl rfl⟩
theorem rtk_4f {a ae : Option Addr} {c ce : Nat} {s : RS} (n : Int) (pa : Option Addr) (len cap : Nat) (w : World) (h : RDoc w a c ae ce s) (hg : s.Good) (hz : 1 ≤ s.left) (hv : 1 < s.num 1) :
    Calls Try.prog 20 #[rdV a c ae ce s, putV 4 n pa len cap] w fun e w' => ∃ ab cb ae' ce', e = .returned (.tuple #[rdV a c ae' ce' (s.step 4 n).s, tookV (s.step 4 n).N ab (s.step 4 n).len cb (s.step 4 n).E]) ∧ RDoc w' a c ae' ce' (s.step 4 n).s ∧ Row w' ab (s.step 4 n).len (s.step 4 n).g ∧ Below w.heap.size w w' ∧ NewRow w.heap.size w' ae ae' := by
  have hX := (((Whole.fresh w 48 #[.slice a s.n c, .int .i64 (s.at_ : Nat), .slice ae (s.op + 1) ce]).alloc (.cells #[.int .i64 4, .int .i64 n, .slice pa len cap] 32)).alloc (.cells #[.slice none 0 0, .int .i64 0, .slice none 0 0] 48)).alloc (.cells #[.int .i64 0, .slice none 0 0, .int .i64 0] 50)
  have hY := ((Whole.fresh (w.alloc (.cells #[.slice a s.n c, .int .i64 (s.at_ : Nat), .slice ae (s.op + 1) ce] 48)) 32 #[.int .i64 4, .int .i64 n, .slice pa len cap]).alloc (.cells #[.slice none 0 0, .int .i64 0, .slice none 0 0] 48)).alloc (.cells #[.int .i64 0, .slice none 0 0, .int .i64 0] 50)
  have hU := (Whole.fresh ((w.alloc (.cells #[.slice a s.n c, .int .i64 (s.at_ : Nat), .slice ae (s.op + 1) ce] 48)).alloc (.cells #[.int .i64 4, .int .i64 n, .slice pa len cap] 32)) 48 #[.slice none 0 0, .int .i64 0, .slice none 0 0]).alloc (.cells #[.int .i64 0, .slice none 0 0, .int .i64 0] 50)
  have hV := Whole.fresh (((w.alloc (.cells #[.slice a s.n c, .int .i64 (s.at_ : Nat), .slice ae (s.op + 1) ce] 48)).alloc (.cells #[.int .i64 4, .int .i64 n, .slice pa len cap] 32)).alloc (.cells #[.slice none 0 0, .int .i64 0, .slice none 0 0] 48)) 50 #[.int .i64 0, .slice none 0 0, .int .i64 0]
  have hB := ((((Below.refl w.heap.size w).alloc (Nat.le_refl _) (.cells #[.slice a s.n c, .int .i64 (s.at_ : Nat), .slice ae (s.op + 1) ce] 48)).alloc (by simp) (.cells #[.int .i64 4, .int .i64 n, .slice pa len cap] 32)).alloc (by simp; omega) (.cells #[.slice none 0 0, .int .i64 0, .slice none 0 0] 48)).alloc (by simp; omega) (.cells #[.int .i64 0, .slice none 0 0, .int .i64 0] 50)
  have hs1 : (w.alloc (.cells #[.slice a s.n c, .int .i64 (s.at_ : Nat), .slice ae (s.op + 1) ce] 48)).heap.size = w.heap.size + 1 := by simp
  have hs2 : ((w.alloc (.cells #[.slice a s.n c, .int .i64 (s.at_ : Nat), .slice ae (s.op + 1) ce] 48)).alloc (.cells #[.int .i64 4, .int .i64 n, .slice pa len cap] 32)).heap.size = w.heap.size + 1 + 1 := by simp
  have hs3 : (((w.alloc (.cells #[.slice a s.n c, .int .i64 (s.at_ : Nat), .slice ae (s.op + 1) ce] 48)).alloc (.cells #[.int .i64 4, .int .i64 n, .slice pa len cap] 32)).alloc (.cells #[.slice none 0 0, .int .i64 0, .slice none 0 0] 48)).heap.size = w.heap.size + 1 + 1 + 1 := by simp
  rw [hs1] at hY
  rw [hs2] at hU
  rw [hs3] at hV
  clear hs1 hs2 hs3
  have hstep : s.step 4 n = ⟨s, 0, 0, fun _ => 0, 57⟩ := by
    have hf : s.flagE = 57 := by unfold RS.flagE; rw [if_neg (by omega), if_pos hv]
    show (⟨if s.flagE = 0 then s.adv 1 else s, if s.flagE = 0 then ((s.num 1 : Nat) : Int) else 0, 0, fun _ => 0, s.flagE⟩ : Tk) = _
    rw [hf]; rfl
  rw [hstep]
  have HLf := Lib.hid (fun (W : World) (hW : RDoc W a c ae ce s) => rleftd_any W hW hg)
  have hRD := Lib.hid h
  have hfit : s.at_ + 1 ≤ s.n := by have := hg.end_le; have := hg.le; unfold RS.left at hz; omega
  have ⟨w1', w2', w3, w4, w5, w6, w7⟩ := adv_facts (z := 1) hfit hg.n h.le (by decide)
  obtain ⟨Z, hZ⟩ : ∃ Z, Z = s.at_ + 1 := ⟨_, rfl⟩
  rw [← hZ] at w1' w2' w3 w4 w6 w7
  have w1 : wrap64 ((s.at_ : Int) + 1) = (Z : Int) := w1'
  have w2 : IntKind.i64.wrap ((s.at_ : Int) + 1) = (Z : Int) := w2'
  replace hZ := Lib.hid hZ
  clear w1' w2'
  have i1 : decide ((s.left : Int) < 1) = false := decide_eq_false (by omega)
  have i2 : ¬ (s.left : Int) < 1 := by omega
  have i3 : ¬ s.left < 1 := by omega
  obtain ⟨bb, bo, rfl, hbb⟩ : ∃ bb bo, a = some ⟨bb, bo, none⟩ ∧ bb < w.heap.size := by
    rcases h.body.2 with h0 | ⟨bb, bo, e, hbb, _⟩
    · omega
    · exact ⟨bb, bo, e, hbb⟩
  have hRw := Lib.hid (Row.shift h.body s.at_ 1 hfit)
  have HNu := Lib.hid (fun W (hW : Row W (some ⟨bb, bo + s.at_, none⟩) 1 (shiftF s.at_ s.f)) => rnumber_any (some ⟨bb, bo + s.at_, none⟩) 1 (c - s.at_) (shiftF s.at_ s.f) W hW (by decide))
  have hX0 : s.num 1 = numN (shiftF s.at_ s.f) 1 := rfl
  rw [hX0] at hv
  clear hX0
  generalize numN (shiftF s.at_ s.f) 1 = X at *
  have j1 : (1 : Int) < (X : Int) := by omega
  have j2 : decide ((X : Int) > 1) = true := decide_eq_true j1
  unfold rdV putV at *
  clear hstep hg h hz hfit
  generalize s.left = L at *
  go_enter Try.func20, Try.ntmps20
  go_upto_region 1 with (fail)
  generalize ((((w.alloc (.cells #[.slice (some ⟨bb, bo, none⟩) s.n c, .int .i64 (s.at_ : Nat), .slice ae (s.op + 1) ce] 48)).alloc (.cells #[.int .i64 4, .int .i64 n, .slice pa len cap] 32)).alloc (.cells #[.slice none 0 0, .int .i64 0, .slice none 0 0] 48)).alloc (.cells #[.int .i64 0, .slice none 0 0, .int .i64 0] 50)) = W0 at *
  have x0 := hX.cell 0
  have x1 := hX.cell 1
  have x2 := hX.cell 2
  have y0 := hY.cell 0
  simp only [List.getElem?_toArray, List.getElem?_cons_zero, List.getElem?_cons_succ] at x0 x1 x2 y0
  go_wp2_with fail
  refine (HLf.out _ (hRD.out.below hB)).mono ?_
  rintro e W1 ⟨rfl, hB1⟩
  clear x0 x1 x2 y0
  replace hX := hX.below hB1 hX.lt
  replace hY := hY.below hB1 hY.lt
  replace hU := hU.below hB1 hU.lt
  replace hV := hV.below hB1 hV.lt
  have hB := hB.trans (hB1.mono hB.size)
  clear hB1
  have x0 := hX.cell 0
  have x1 := hX.cell 1
  have x2 := hX.cell 2
  simp only [List.getElem?_toArray, List.getElem?_cons_zero, List.getElem?_cons_succ] at x0 x1 x2
  have y0 := hY.cell 0
  simp only [List.getElem?_toArray, List.getElem?_cons_zero] at y0
  go_wp2_with fail
  refine (HNu.out _ (hRw.out.below hB)).mono ?_
  rintro e W2 ⟨rfl, rfl⟩
  clear HNu HLf x0 x1 x2
  clear hY
  have x0 := hX.cell 0
  have x1 := hX.cell 1
  have x2 := hX.cell 2
  simp only [List.getElem?_toArray, List.getElem?_cons_zero, List.getElem?_cons_succ] at x0 x1 x2
  have z0 := hU.cell 0
  have z1 := hU.cell 1
  have z2 := hU.cell 2
  have v0 := hV.cell 0
  have v1 := hV.cell 1
  have v2 := hV.cell 2
  simp only [List.getElem?_toArray, List.getElem?_cons_zero, List.getElem?_cons_succ] at z0 z1 z2 v0 v1 v2
  have g0 := hU.free 0
  have g1 := hU.free 1
  have g2 := hU.free 2
  have k0 := hV.free 0
  have k1 := hV.free 1
  have k2 := hV.free 2
  have fin := Lib.hid (rd_end hB hU hV (.slice (some ⟨bb, bo, none⟩) s.n c) (.int .i64 (s.at_ : Nat)) (.slice ae (s.op + 1) ce) (.int .i64 0) (.slice none 0 0) (.int .i64 57))
  clear hX hU hV hB
  go_wp2_with fail
  exact bodyPost_ret (results_cells2 (fn := Try.f20) (p1 := 4) (p2 := 5) (ty1 := 48) (ty2 := 50) rfl _ _ _ _ _ _ _ _ (0, 0) (0, 0) _ _ rfl fin.out.1 Try.underlying48 rfl (by kernel_rfl) rfl fin.out.2.1 Try.underlying50 rfl (by kernel_rfl)) rfl ⟨_, _, _, _, rfl, (hRD.out.below fin.out.2.2), Row.nil _ _ _, fin.out.2.2, .inl rfl⟩
theorem rtk_4y {a ae : Option Addr} {c ce : Nat} {s : RS} (n : Int) (pa : Option Addr) (len cap : Nat) (w : World) (h : RDoc w a c ae ce s) (hg : s.Good) (hz : 1 ≤ s.left) (hv : ¬ 1 < s.num 1) :
    Calls Try.prog 20 #[rdV a c ae ce s, putV 4 n pa len cap] w fun e w' => ∃ ab cb ae' ce', e = .returned (.tuple #[rdV a c ae' ce' (s.step 4 n).s, tookV (s.step 4 n).N ab (s.step 4 n).len cb (s.step 4 n).E]) ∧ RDoc w' a c ae' ce' (s.step 4 n).s ∧ Row w' ab (s.step 4 n).len (s.step 4 n).g ∧ Below w.heap.size w w' ∧ NewRow w.heap.size w' ae ae' := by
  have hX := (((Whole.fresh w 48 #[.slice a s.n c, .int .i64 (s.at_ : Nat), .slice ae (s.op + 1) ce]).alloc (.cells #[.int .i64 4, .int .i64 n, .slice pa len cap] 32)).alloc (.cells #[.slice none 0 0, .int .i64 0, .slice none 0 0] 48)).alloc (.cells #[.int .i64 0, .slice none 0 0, .int .i64 0] 50)
  have hY := ((Whole.fresh (w.alloc (.cells #[.slice a s.n c, .int .i64 (s.at_ : Nat), .slice ae (s.op + 1) ce] 48)) 32 #[.int .i64 4, .int .i64 n, .slice pa len cap]).alloc (.cells #[.slice none 0 0, .int .i64 0, .slice none 0 0] 48)).alloc (.cells #[.int .i64 0, .slice none 0 0, .int .i64 0] 50)
  have hU := (Whole.fresh ((w.alloc (.cells #[.slice a s.n c, .int .i64 (s.at_ : Nat), .slice ae (s.op + 1) ce] 48)).alloc (.cells #[.int .i64 4, .int .i64 n, .slice pa len cap] 32)) 48 #[.slice none 0 0, .int .i64 0, .slice none 0 0]).alloc (.cells #[.int .i64 0, .slice none 0 0, .int .i64 0] 50)
  have hV := Whole.fresh (((w.alloc (.cells #[.slice a s.n c, .int .i64 (s.at_ : Nat), .slice ae (s.op + 1) ce] 48)).alloc (.cells #[.int .i64 4, .int .i64 n, .slice pa len cap] 32)).alloc (.cells #[.slice none 0 0, .int .i64 0, .slice none 0 0] 48)) 50 #[.int .i64 0, .slice none 0 0, .int .i64 0]
  have hB := ((((Below.refl w.heap.size w).alloc (Nat.le_refl _) (.cells #[.slice a s.n c, .int .i64 (s.at_ : Nat), .slice ae (s.op + 1) ce] 48)).alloc (by simp) (.cells #[.int .i64 4, .int .i64 n, .slice pa len cap] 32)).alloc (by simp; omega) (.cells #[.slice none 0 0, .int .i64 0, .slice none 0 0] 48)).alloc (by simp; omega) (.cells #[.int .i64 0, .slice none 0 0, .int .i64 0] 50)
  have hs1 : (w.alloc (.cells #[.slice a s.n c, .int .i64 (s.at_ : Nat), .slice ae (s.op + 1) ce] 48)).heap.size = w.heap.size + 1 := by simp
  have hs2 : ((w.alloc (.cells #[.slice a s.n c, .int .i64 (s.at_ : Nat), .slice ae (s.op + 1) ce] 48)).alloc (.cells #[.int .i64 4, .int .i64 n, .slice pa len cap] 32)).heap.size = w.heap.size + 1 + 1 := by simp
  have hs3 : (((w.alloc (.cells #[.slice a s.n c, .int .i64 (s.at_ : Nat), .slice ae (s.op + 1) ce] 48)).alloc (.cells #[.int .i64 4, .int .i64 n, .slice pa len cap] 32)).alloc (.cells #[.slice none 0 0, .int .i64 0, .slice none 0 0] 48)).heap.size = w.heap.size + 1 + 1 + 1 := by simp
  rw [hs1] at hY
  rw [hs2] at hU
  rw [hs3] at hV
  clear hs1 hs2 hs3
  have hstep : s.step 4 n = ⟨s.adv 1, ((s.num 1 : Nat) : Int), 0, fun _ => 0, 0⟩ := by
    have hf : s.flagE = 0 := by unfold RS.flagE; rw [if_neg (by omega), if_neg hv]
    show (⟨if s.flagE = 0 then s.adv 1 else s, if s.flagE = 0 then ((s.num 1 : Nat) : Int) else 0, 0, fun _ => 0, s.flagE⟩ : Tk) = _
    rw [hf]; rfl
  rw [hstep]
  have HLf := Lib.hid (fun (W : World) (hW : RDoc W a c ae ce s) => rleftd_any W hW hg)
  have hRD := Lib.hid h
  have hfit : s.at_ + 1 ≤ s.n := by have := hg.end_le; have := hg.le; unfold RS.left at hz; omega
  have ⟨w1', w2', w3, w4, w5, w6, w7⟩ := adv_facts (z := 1) hfit hg.n h.le (by decide)
  obtain ⟨Z, hZ⟩ : ∃ Z, Z = s.at_ + 1 := ⟨_, rfl⟩
  rw [← hZ] at w1' w2' w3 w4 w6 w7
  have w1 : wrap64 ((s.at_ : Int) + 1) = (Z : Int) := w1'
  have w2 : IntKind.i64.wrap ((s.at_ : Int) + 1) = (Z : Int) := w2'
  replace hZ := Lib.hid hZ
  clear w1' w2'
  have i1 : decide ((s.left : Int) < 1) = false := decide_eq_false (by omega)
  have i2 : ¬ (s.left : Int) < 1 := by omega
  have i3 : ¬ s.left < 1 := by omega
  obtain ⟨bb, bo, rfl, hbb⟩ : ∃ bb bo, a = some ⟨bb, bo, none⟩ ∧ bb < w.heap.size := by
    rcases h.body.2 with h0 | ⟨bb, bo, e, hbb, _⟩
    · omega
    · exact ⟨bb, bo, e, hbb⟩
  have hRw := Lib.hid (Row.shift h.body s.at_ 1 hfit)
  have HNu := Lib.hid (fun W (hW : Row W (some ⟨bb, bo + s.at_, none⟩) 1 (shiftF s.at_ s.f)) => rnumber_any (some ⟨bb, bo + s.at_, none⟩) 1 (c - s.at_) (shiftF s.at_ s.f) W hW (by decide))
  have hX0 : s.num 1 = numN (shiftF s.at_ s.f) 1 := rfl
  rw [hX0] at hv ⊢
  clear hX0
  generalize numN (shiftF s.at_ s.f) 1 = X at *
  have j1 : ¬ (1 : Int) < (X : Int) := by omega
  have j2 : decide ((X : Int) > 1) = false := decide_eq_false j1
  have ⟨j3, j4⟩ := w64_long (X := X) (by omega)
  have j5 : decide ((1 : Int) < (X : Int)) = false := decide_eq_false j1
  unfold rdV putV at *
  clear hstep hg h hz hfit
  generalize s.left = L at *
  go_enter Try.func20, Try.ntmps20
  go_upto_region 1 with (fail)
  generalize ((((w.alloc (.cells #[.slice (some ⟨bb, bo, none⟩) s.n c, .int .i64 (s.at_ : Nat), .slice ae (s.op + 1) ce] 48)).alloc (.cells #[.int .i64 4, .int .i64 n, .slice pa len cap] 32)).alloc (.cells #[.slice none 0 0, .int .i64 0, .slice none 0 0] 48)).alloc (.cells #[.int .i64 0, .slice none 0 0, .int .i64 0] 50)) = W0 at *
  have x0 := hX.cell 0
  have x1 := hX.cell 1
  have x2 := hX.cell 2
  have y0 := hY.cell 0
  simp only [List.getElem?_toArray, List.getElem?_cons_zero, List.getElem?_cons_succ] at x0 x1 x2 y0
  go_wp2_with fail
  refine (HLf.out _ (hRD.out.below hB)).mono ?_
  rintro e W1 ⟨rfl, hB1⟩
  clear x0 x1 x2 y0
  replace hX := hX.below hB1 hX.lt
  replace hY := hY.below hB1 hY.lt
  replace hU := hU.below hB1 hU.lt
  replace hV := hV.below hB1 hV.lt
  have hB := hB.trans (hB1.mono hB.size)
  clear hB1
  have x0 := hX.cell 0
  have x1 := hX.cell 1
  have x2 := hX.cell 2
  simp only [List.getElem?_toArray, List.getElem?_cons_zero, List.getElem?_cons_succ] at x0 x1 x2
  have y0 := hY.cell 0
  simp only [List.getElem?_toArray, List.getElem?_cons_zero] at y0
  go_wp2_with fail
  refine (HNu.out _ (hRw.out.below hB)).mono ?_
  rintro e W2 ⟨rfl, rfl⟩
  clear HNu HLf x0 x1 x2
  have hfx := hX.free 1
  have hX2 := hX.put 1 (.int .i64 (Z : Nat))
  have hU2 := hU.away (p := ⟨w.heap.size, 1, none⟩) (by show w.heap.size + 1 + 1 ≠ w.heap.size; omega) (.int .i64 (Z : Nat))
  have hV2 := hV.away (p := ⟨w.heap.size, 1, none⟩) (by show w.heap.size + 1 + 1 + 1 ≠ w.heap.size; omega) (.int .i64 (Z : Nat))
  have hB2 := hB.setCell (p := ⟨w.heap.size, 1, none⟩) (Nat.le_refl _) (.int .i64 (Z : Nat))
  have x1 := hX.cell 1
  simp only [List.getElem?_toArray, List.getElem?_cons_zero, List.getElem?_cons_succ] at x1
  replace hX2 := Lib.hid hX2
  replace hU2 := Lib.hid hU2
  replace hV2 := Lib.hid hV2
  replace hB2 := Lib.hid hB2
  clear hX hU hV hB
  go_upto_region 11 with (fail)
  clear hY x1 y0 hfx
  generalize W2.setCell ⟨w.heap.size, 1, none⟩ (.int .i64 (Z : Nat)) = W3 at *
  replace hX := hX2.out
  replace hU := hU2.out
  replace hV := hV2.out
  replace hB := hB2.out
  clear hX2 hU2 hV2 hB2
  simp only [List.setIfInBounds_toArray, List.set_cons_zero, List.set_cons_succ] at hX
  have x0 := hX.cell 0
  have x1 := hX.cell 1
  have x2 := hX.cell 2
  simp only [List.getElem?_toArray, List.getElem?_cons_zero, List.getElem?_cons_succ] at x0 x1 x2
  have z0 := hU.cell 0
  have z1 := hU.cell 1
  have z2 := hU.cell 2
  have v0 := hV.cell 0
  have v1 := hV.cell 1
  have v2 := hV.cell 2
  simp only [List.getElem?_toArray, List.getElem?_cons_zero, List.getElem?_cons_succ] at z0 z1 z2 v0 v1 v2
  have g0 := hU.free 0
  have g1 := hU.free 1
  have g2 := hU.free 2
  have k0 := hV.free 0
  have k1 := hV.free 1
  have k2 := hV.free 2
  have fin := Lib.hid (rd_end hB hU hV (.slice (some ⟨bb, bo, none⟩) s.n c) (.int .i64 (Z : Nat)) (.slice ae (s.op + 1) ce) (.int .i64 (X : Nat)) (.slice none 0 0) (.int .i64 0))
  clear hX hU hV hB
  go_wp2_with fail
  obtain rfl := hZ.out
  exact bodyPost_ret (results_cells2 (fn := Try.f20) (p1 := 4) (p2 := 5) (ty1 := 48) (ty2 := 50) rfl _ _ _ _ _ _ _ _ (0, 0) (0, 0) _ _ rfl fin.out.1 Try.underlying48 rfl (by kernel_rfl) rfl fin.out.2.1 Try.underlying50 rfl (by kernel_rfl)) rfl ⟨_, _, _, _, rfl, (hRD.out.below fin.out.2.2).adv 1, Row.nil _ _ _, fin.out.2.2, .inl rfl⟩
end Go.Proofs.Ytacnmnodbmbplaa
