/-
  The document's Takes: Close.
-/
import Derived.Test.YtacnmnodbmbplaaRTk2M
namespace Go.Proofs.Ytacnmnodbmbplaa
open Go.RowKit Go.Shelf
set_option maxRecDepth 100000
set_option maxHeartbeats 1000000
set_option linter.unusedVariables false

theorem step_close (s : RS) (what n : Int) (t0 : (what == 0) = false) (t1 : (what == 1) = false) (t2 : (what == 2) = false) (t3 : (what == 3) = false) (t4 : (what == 4) = false) (t5 : (what == 5) = false) (t6 : (what == 6) = false) : s.step what n = ⟨if s.closeE = 0 then s.closed else s, 0, 0, fun _ => 0, s.closeE⟩ := by
  have g : ∀ k : Int, (what == k) = false → ¬ what = k := fun k e h => by rw [h] at e; simp at e
  unfold RS.step
  rw [if_neg (g 0 t0), if_neg (g 1 t1), if_neg (g 2 t2), if_neg (g 3 t3), if_neg (g 4 t4), if_neg (g 5 t5), if_neg (g 6 t6)]
theorem what_far {what : Int} (t0 : (what == 0) = false) (t1 : (what == 1) = false) (t2 : (what == 2) = false) (t3 : (what == 3) = false) (t4 : (what == 4) = false) (t5 : (what == 5) = false) (t6 : (what == 6) = false) : what < 0 ∨ 7 ≤ what := by
  have g : ∀ k : Int, (what == k) = false → ¬ what = k := fun k e h => by rw [h] at e; simp at e
  have g0 := g 0 t0
  have g1 := g 1 t1
  have g2 := g 2 t2
  have g3 := g 3 t3
  have g4 := g 4 t4
  have g5 := g 5 t5
  have g6 := g 6 t6
  omega
theorem RDoc.close {w : World} {a ae : Option Addr} {c ce q : Nat} {s : RS} (h : RDoc w a c ae ce s) (hq : s.op = q + 1) : RDoc w a c ae ce s.closed := by
  obtain ⟨be, oe, e, hb, hc⟩ := h.ends.form
  have ho : s.closed.op + 1 = q + 1 := by show s.op - 1 + 1 = q + 1; omega
  exact ⟨h.body, .inr ⟨be, oe, e, hb, fun i hi => by rw [hc i (by rw [ho] at hi; omega)]; rfl⟩, h.le, by have := h.len; rw [ho]; omega⟩
theorem rtk_7a {a ae : Option Addr} {c ce : Nat} {s : RS} (what n : Int) (pa : Option Addr) (len cap : Nat) (w : World) (h : RDoc w a c ae ce s) (hg : s.Good) (ho : s.op = 0) (t0 : (what == 0) = false) (t1 : (what == 1) = false) (t2 : (what == 2) = false) (t3 : (what == 3) = false) (t4 : (what == 4) = false) (t5 : (what == 5) = false) (t6 : (what == 6) = false) :
    Calls Try.prog 20 #[rdV a c ae ce s, putV what n pa len cap] w fun e w' => ∃ ab cb ae' ce', e = .returned (.tuple #[rdV a c ae' ce' (s.step what n).s, tookV (s.step what n).N ab (s.step what n).len cb (s.step what n).E]) ∧ RDoc w' a c ae' ce' (s.step what n).s ∧ Row w' ab (s.step what n).len (s.step what n).g ∧ Below w.heap.size w w' ∧ NewRow w.heap.size w' ae ae' := by
  have hX := (((Whole.fresh w 48 #[.slice a s.n c, .int .i64 (s.at_ : Nat), .slice ae (s.op + 1) ce]).alloc (.cells #[.int .i64 what, .int .i64 n, .slice pa len cap] 32)).alloc (.cells #[.slice none 0 0, .int .i64 0, .slice none 0 0] 48)).alloc (.cells #[.int .i64 0, .slice none 0 0, .int .i64 0] 50)
  have hY := ((Whole.fresh (w.alloc (.cells #[.slice a s.n c, .int .i64 (s.at_ : Nat), .slice ae (s.op + 1) ce] 48)) 32 #[.int .i64 what, .int .i64 n, .slice pa len cap]).alloc (.cells #[.slice none 0 0, .int .i64 0, .slice none 0 0] 48)).alloc (.cells #[.int .i64 0, .slice none 0 0, .int .i64 0] 50)
  have hU := (Whole.fresh ((w.alloc (.cells #[.slice a s.n c, .int .i64 (s.at_ : Nat), .slice ae (s.op + 1) ce] 48)).alloc (.cells #[.int .i64 what, .int .i64 n, .slice pa len cap] 32)) 48 #[.slice none 0 0, .int .i64 0, .slice none 0 0]).alloc (.cells #[.int .i64 0, .slice none 0 0, .int .i64 0] 50)
  have hV := Whole.fresh (((w.alloc (.cells #[.slice a s.n c, .int .i64 (s.at_ : Nat), .slice ae (s.op + 1) ce] 48)).alloc (.cells #[.int .i64 what, .int .i64 n, .slice pa len cap] 32)).alloc (.cells #[.slice none 0 0, .int .i64 0, .slice none 0 0] 48)) 50 #[.int .i64 0, .slice none 0 0, .int .i64 0]
  have hB := ((((Below.refl w.heap.size w).alloc (Nat.le_refl _) (.cells #[.slice a s.n c, .int .i64 (s.at_ : Nat), .slice ae (s.op + 1) ce] 48)).alloc (by simp) (.cells #[.int .i64 what, .int .i64 n, .slice pa len cap] 32)).alloc (by simp; omega) (.cells #[.slice none 0 0, .int .i64 0, .slice none 0 0] 48)).alloc (by simp; omega) (.cells #[.int .i64 0, .slice none 0 0, .int .i64 0] 50)
  have hs1 : (w.alloc (.cells #[.slice a s.n c, .int .i64 (s.at_ : Nat), .slice ae (s.op + 1) ce] 48)).heap.size = w.heap.size + 1 := by simp
  have hs2 : ((w.alloc (.cells #[.slice a s.n c, .int .i64 (s.at_ : Nat), .slice ae (s.op + 1) ce] 48)).alloc (.cells #[.int .i64 what, .int .i64 n, .slice pa len cap] 32)).heap.size = w.heap.size + 1 + 1 := by simp
  have hs3 : (((w.alloc (.cells #[.slice a s.n c, .int .i64 (s.at_ : Nat), .slice ae (s.op + 1) ce] 48)).alloc (.cells #[.int .i64 what, .int .i64 n, .slice pa len cap] 32)).alloc (.cells #[.slice none 0 0, .int .i64 0, .slice none 0 0] 48)).heap.size = w.heap.size + 1 + 1 + 1 := by simp
  rw [hs1] at hY
  rw [hs2] at hU
  rw [hs3] at hV
  clear hs1 hs2 hs3
  have hE : s.closeE = 2 := if_pos ho
  have hstep : s.step what n = ⟨s, 0, 0, fun _ => 0, 2⟩ := by rw [step_close s what n t0 t1 t2 t3 t4 t5 t6, hE]; rfl
  rw [hstep]
  have hRD := Lib.hid h
  unfold rdV putV at *
  obtain ⟨K, hK⟩ : ∃ K, s.op + 1 = K := ⟨_, rfl⟩
  rw [hK] at hX hB ⊢
  rw [hK] at hY hU hV
  have i1 : ((K : Int) == 1) = true := by rw [beq_iff_eq]; omega
  obtain rfl : K = 1 := by omega
  replace hK := Lib.hid hK
  clear hstep hg h hE ho i1
  rcases what_far t0 t1 t2 t3 t4 t5 t6 with hs | hs
  · have d1 : decide (what ≥ 0) = false := decide_eq_false (by omega)
    have d3 : ¬ 0 ≤ what := by omega
    replace hs := Lib.hid hs
    go_enter Try.func20, Try.ntmps20
    go_upto_region 1 with (fail)
    generalize ((((w.alloc (.cells #[.slice a s.n c, .int .i64 (s.at_ : Nat), .slice ae 1 ce] 48)).alloc (.cells #[.int .i64 what, .int .i64 n, .slice pa len cap] 32)).alloc (.cells #[.slice none 0 0, .int .i64 0, .slice none 0 0] 48)).alloc (.cells #[.int .i64 0, .slice none 0 0, .int .i64 0] 50)) = W0 at *
    have x0 := hX.cell 0
    have x1 := hX.cell 1
    have x2 := hX.cell 2
    have y0 := hY.cell 0
    simp only [List.getElem?_toArray, List.getElem?_cons_zero, List.getElem?_cons_succ] at x0 x1 x2 y0
    have z0 := hU.cell 0
    have z1 := hU.cell 1
    have z2 := hU.cell 2
    have v0 := hV.cell 0
    have v1 := hV.cell 1
    have v2 := hV.cell 2
    simp only [List.getElem?_toArray, List.getElem?_cons_zero, List.getElem?_cons_succ] at z0 z1 z2 v0 v1 v2
    have g0 := hU.free 0
    have g1 := hU.free 1
    have g2 := hU.free 2
    have k0 := hV.free 0
    have k1 := hV.free 1
    have k2 := hV.free 2
    have fin := Lib.hid (rd_end hB hU hV (.slice a s.n c) (.int .i64 (s.at_ : Nat)) (.slice ae 1 ce) (.int .i64 0) (.slice none 0 0) (.int .i64 2))
    clear hX hY hU hV hB
    go_wp2_with fail
    exact bodyPost_ret (results_cells2 (fn := Try.f20) (p1 := 4) (p2 := 5) (ty1 := 48) (ty2 := 50) rfl _ _ _ _ _ _ _ _ (0, 0) (0, 0) _ _ rfl fin.out.1 Try.underlying48 rfl (by kernel_rfl) rfl fin.out.2.1 Try.underlying50 rfl (by kernel_rfl)) rfl ⟨_, _, _, _, rfl, hRD.out.below fin.out.2.2, Row.nil _ _ _, fin.out.2.2, .inl rfl⟩
  · have d1 : decide (what ≥ 0) = true := decide_eq_true (by omega)
    have d2 : decide (what < 5) = false := decide_eq_false (by omega)
    have d3 : 0 ≤ what := by omega
    have d4 : ¬ what < 5 := by omega
    replace hs := Lib.hid hs
    go_enter Try.func20, Try.ntmps20
    go_upto_region 1 with (fail)
    generalize ((((w.alloc (.cells #[.slice a s.n c, .int .i64 (s.at_ : Nat), .slice ae 1 ce] 48)).alloc (.cells #[.int .i64 what, .int .i64 n, .slice pa len cap] 32)).alloc (.cells #[.slice none 0 0, .int .i64 0, .slice none 0 0] 48)).alloc (.cells #[.int .i64 0, .slice none 0 0, .int .i64 0] 50)) = W0 at *
    have x0 := hX.cell 0
    have x1 := hX.cell 1
    have x2 := hX.cell 2
    have y0 := hY.cell 0
    simp only [List.getElem?_toArray, List.getElem?_cons_zero, List.getElem?_cons_succ] at x0 x1 x2 y0
    have z0 := hU.cell 0
    have z1 := hU.cell 1
    have z2 := hU.cell 2
    have v0 := hV.cell 0
    have v1 := hV.cell 1
    have v2 := hV.cell 2
    simp only [List.getElem?_toArray, List.getElem?_cons_zero, List.getElem?_cons_succ] at z0 z1 z2 v0 v1 v2
    have g0 := hU.free 0
    have g1 := hU.free 1
    have g2 := hU.free 2
    have k0 := hV.free 0
    have k1 := hV.free 1
    have k2 := hV.free 2
    have fin := Lib.hid (rd_end hB hU hV (.slice a s.n c) (.int .i64 (s.at_ : Nat)) (.slice ae 1 ce) (.int .i64 0) (.slice none 0 0) (.int .i64 2))
    clear hX hY hU hV hB
    go_wp2_with fail
    exact bodyPost_ret (results_cells2 (fn := Try.f20) (p1 := 4) (p2 := 5) (ty1 := 48) (ty2 := 50) rfl _ _ _ _ _ _ _ _ (0, 0) (0, 0) _ _ rfl fin.out.1 Try.underlying48 rfl (by kernel_rfl) rfl fin.out.2.1 Try.underlying50 rfl (by kernel_rfl)) rfl ⟨_, _, _, _, rfl, hRD.out.below fin.out.2.2, Row.nil _ _ _, fin.out.2.2, .inl rfl⟩
theorem rtk_7b {a ae : Option Addr} {c ce : Nat} {s : RS} (what n : Int) (pa : Option Addr) (len cap : Nat) (w : World) (h : RDoc w a c ae ce s) (hg : s.Good) (ho : s.op ≠ 0) (hl : 0 < s.left) (t0 : (what == 0) = false) (t1 : (what == 1) = false) (t2 : (what == 2) = false) (t3 : (what == 3) = false) (t4 : (what == 4) = false) (t5 : (what == 5) = false) (t6 : (what == 6) = false) :
    Calls Try.prog 20 #[rdV a c ae ce s, putV what n pa len cap] w fun e w' => ∃ ab cb ae' ce', e = .returned (.tuple #[rdV a c ae' ce' (s.step what n).s, tookV (s.step what n).N ab (s.step what n).len cb (s.step what n).E]) ∧ RDoc w' a c ae' ce' (s.step what n).s ∧ Row w' ab (s.step what n).len (s.step what n).g ∧ Below w.heap.size w w' ∧ NewRow w.heap.size w' ae ae' := by
  have hX := (((Whole.fresh w 48 #[.slice a s.n c, .int .i64 (s.at_ : Nat), .slice ae (s.op + 1) ce]).alloc (.cells #[.int .i64 what, .int .i64 n, .slice pa len cap] 32)).alloc (.cells #[.slice none 0 0, .int .i64 0, .slice none 0 0] 48)).alloc (.cells #[.int .i64 0, .slice none 0 0, .int .i64 0] 50)
  have hY := ((Whole.fresh (w.alloc (.cells #[.slice a s.n c, .int .i64 (s.at_ : Nat), .slice ae (s.op + 1) ce] 48)) 32 #[.int .i64 what, .int .i64 n, .slice pa len cap]).alloc (.cells #[.slice none 0 0, .int .i64 0, .slice none 0 0] 48)).alloc (.cells #[.int .i64 0, .slice none 0 0, .int .i64 0] 50)
  have hU := (Whole.fresh ((w.alloc (.cells #[.slice a s.n c, .int .i64 (s.at_ : Nat), .slice ae (s.op + 1) ce] 48)).alloc (.cells #[.int .i64 what, .int .i64 n, .slice pa len cap] 32)) 48 #[.slice none 0 0, .int .i64 0, .slice none 0 0]).alloc (.cells #[.int .i64 0, .slice none 0 0, .int .i64 0] 50)
  have hV := Whole.fresh (((w.alloc (.cells #[.slice a s.n c, .int .i64 (s.at_ : Nat), .slice ae (s.op + 1) ce] 48)).alloc (.cells #[.int .i64 what, .int .i64 n, .slice pa len cap] 32)).alloc (.cells #[.slice none 0 0, .int .i64 0, .slice none 0 0] 48)) 50 #[.int .i64 0, .slice none 0 0, .int .i64 0]
  have hB := ((((Below.refl w.heap.size w).alloc (Nat.le_refl _) (.cells #[.slice a s.n c, .int .i64 (s.at_ : Nat), .slice ae (s.op + 1) ce] 48)).alloc (by simp) (.cells #[.int .i64 what, .int .i64 n, .slice pa len cap] 32)).alloc (by simp; omega) (.cells #[.slice none 0 0, .int .i64 0, .slice none 0 0] 48)).alloc (by simp; omega) (.cells #[.int .i64 0, .slice none 0 0, .int .i64 0] 50)
  have hs1 : (w.alloc (.cells #[.slice a s.n c, .int .i64 (s.at_ : Nat), .slice ae (s.op + 1) ce] 48)).heap.size = w.heap.size + 1 := by simp
  have hs2 : ((w.alloc (.cells #[.slice a s.n c, .int .i64 (s.at_ : Nat), .slice ae (s.op + 1) ce] 48)).alloc (.cells #[.int .i64 what, .int .i64 n, .slice pa len cap] 32)).heap.size = w.heap.size + 1 + 1 := by simp
  have hs3 : (((w.alloc (.cells #[.slice a s.n c, .int .i64 (s.at_ : Nat), .slice ae (s.op + 1) ce] 48)).alloc (.cells #[.int .i64 what, .int .i64 n, .slice pa len cap] 32)).alloc (.cells #[.slice none 0 0, .int .i64 0, .slice none 0 0] 48)).heap.size = w.heap.size + 1 + 1 + 1 := by simp
  rw [hs1] at hY
  rw [hs2] at hU
  rw [hs3] at hV
  clear hs1 hs2 hs3
  obtain ⟨q, hq⟩ : ∃ q, s.op = q + 1 := ⟨s.op - 1, by omega⟩
  have hE : s.closeE = 59 := by unfold RS.closeE; rw [if_neg ho, if_pos hl]
  have hstep : s.step what n = ⟨s, 0, 0, fun _ => 0, 59⟩ := by rw [step_close s what n t0 t1 t2 t3 t4 t5 t6, hE]; rfl
  rw [hstep]
  have HLf := Lib.hid (fun (W : World) (hW : RDoc W a c ae ce s) => rleftd_any W hW hg)
  have hRD := Lib.hid h
  have h16 := hg.op
  have hlen := h.len
  unfold rdV putV at *
  obtain ⟨K, hK⟩ : ∃ K, s.op + 1 = K := ⟨_, rfl⟩
  rw [hK] at hX hB hlen
  rw [hK] at hY hU hV HLf
  have i1 : ((K : Int) == 1) = false := by rw [beq_eq_false_iff_ne]; omega
  rw [hK]
  have j1 : 0 < s.left := hl
  have j2 : (0 : Int) < (s.left : Int) := by omega
  have j3 : decide ((s.left : Int) > 0) = true := decide_eq_true j2
  clear hstep hg h hE hl hlen h16
  generalize s.left = L at *
  replace hq := Lib.hid hq
  replace hK := Lib.hid hK
  rcases what_far t0 t1 t2 t3 t4 t5 t6 with hs | hs
  · have d1 : decide (what ≥ 0) = false := decide_eq_false (by omega)
    have d3 : ¬ 0 ≤ what := by omega
    replace hs := Lib.hid hs
    go_enter Try.func20, Try.ntmps20
    go_upto_region 1 with (fail)
    generalize ((((w.alloc (.cells #[.slice a s.n c, .int .i64 (s.at_ : Nat), .slice ae K ce] 48)).alloc (.cells #[.int .i64 what, .int .i64 n, .slice pa len cap] 32)).alloc (.cells #[.slice none 0 0, .int .i64 0, .slice none 0 0] 48)).alloc (.cells #[.int .i64 0, .slice none 0 0, .int .i64 0] 50)) = W0 at *
    have x0 := hX.cell 0
    have x1 := hX.cell 1
    have x2 := hX.cell 2
    have y0 := hY.cell 0
    simp only [List.getElem?_toArray, List.getElem?_cons_zero, List.getElem?_cons_succ] at x0 x1 x2 y0
    go_wp2_with fail
    refine (HLf.out _ (hRD.out.below hB)).mono ?_
    rintro e W1 ⟨rfl, hB1⟩
    clear x0 x1 x2 y0
    replace hX := hX.below hB1 hX.lt
    replace hY := hY.below hB1 hY.lt
    replace hU := hU.below hB1 hU.lt
    replace hV := hV.below hB1 hV.lt
    have hB := hB.trans (hB1.mono hB.size)
    clear hB1
    have x0 := hX.cell 0
    have x1 := hX.cell 1
    have x2 := hX.cell 2
    simp only [List.getElem?_toArray, List.getElem?_cons_zero, List.getElem?_cons_succ] at x0 x1 x2
    have z0 := hU.cell 0
    have z1 := hU.cell 1
    have z2 := hU.cell 2
    have v0 := hV.cell 0
    have v1 := hV.cell 1
    have v2 := hV.cell 2
    simp only [List.getElem?_toArray, List.getElem?_cons_zero, List.getElem?_cons_succ] at z0 z1 z2 v0 v1 v2
    have g0 := hU.free 0
    have g1 := hU.free 1
    have g2 := hU.free 2
    have k0 := hV.free 0
    have k1 := hV.free 1
    have k2 := hV.free 2
    have fin := Lib.hid (rd_end hB hU hV (.slice a s.n c) (.int .i64 (s.at_ : Nat)) (.slice ae K ce) (.int .i64 0) (.slice none 0 0) (.int .i64 59))
    clear HLf hX hY hU hV hB
    go_wp2_with fail
    exact bodyPost_ret (results_cells2 (fn := Try.f20) (p1 := 4) (p2 := 5) (ty1 := 48) (ty2 := 50) rfl _ _ _ _ _ _ _ _ (0, 0) (0, 0) _ _ rfl fin.out.1 Try.underlying48 rfl (by kernel_rfl) rfl fin.out.2.1 Try.underlying50 rfl (by kernel_rfl)) rfl ⟨_, _, _, _, rfl, hRD.out.below fin.out.2.2, Row.nil _ _ _, fin.out.2.2, .inl rfl⟩
  · have d1 : decide (what ≥ 0) = true := decide_eq_true (by omega)
    have d2 : decide (what < 5) = false := decide_eq_false (by omega)
    have d3 : 0 ≤ what := by omega
    have d4 : ¬ what < 5 := by omega
    replace hs := Lib.hid hs
    go_enter Try.func20, Try.ntmps20
    go_upto_region 1 with (fail)
    generalize ((((w.alloc (.cells #[.slice a s.n c, .int .i64 (s.at_ : Nat), .slice ae K ce] 48)).alloc (.cells #[.int .i64 what, .int .i64 n, .slice pa len cap] 32)).alloc (.cells #[.slice none 0 0, .int .i64 0, .slice none 0 0] 48)).alloc (.cells #[.int .i64 0, .slice none 0 0, .int .i64 0] 50)) = W0 at *
    have x0 := hX.cell 0
    have x1 := hX.cell 1
    have x2 := hX.cell 2
    have y0 := hY.cell 0
    simp only [List.getElem?_toArray, List.getElem?_cons_zero, List.getElem?_cons_succ] at x0 x1 x2 y0
    go_wp2_with fail
    refine (HLf.out _ (hRD.out.below hB)).mono ?_
    rintro e W1 ⟨rfl, hB1⟩
    clear x0 x1 x2 y0
    replace hX := hX.below hB1 hX.lt
    replace hY := hY.below hB1 hY.lt
    replace hU := hU.below hB1 hU.lt
    replace hV := hV.below hB1 hV.lt
    have hB := hB.trans (hB1.mono hB.size)
    clear hB1
    have x0 := hX.cell 0
    have x1 := hX.cell 1
    have x2 := hX.cell 2
    simp only [List.getElem?_toArray, List.getElem?_cons_zero, List.getElem?_cons_succ] at x0 x1 x2
    have z0 := hU.cell 0
    have z1 := hU.cell 1
    have z2 := hU.cell 2
    have v0 := hV.cell 0
    have v1 := hV.cell 1
    have v2 := hV.cell 2
    simp only [List.getElem?_toArray, List.getElem?_cons_zero, List.getElem?_cons_succ] at z0 z1 z2 v0 v1 v2
    have g0 := hU.free 0
    have g1 := hU.free 1
    have g2 := hU.free 2
    have k0 := hV.free 0
    have k1 := hV.free 1
    have k2 := hV.free 2
    have fin := Lib.hid (rd_end hB hU hV (.slice a s.n c) (.int .i64 (s.at_ : Nat)) (.slice ae K ce) (.int .i64 0) (.slice none 0 0) (.int .i64 59))
    clear HLf hX hY hU hV hB
    go_wp2_with fail
    exact bodyPost_ret (results_cells2 (fn := Try.f20) (p1 := 4) (p2 := 5) (ty1 := 48) (ty2 := 50) rfl _ _ _ _ _ _ _ _ (0, 0) (0, 0) _ _ rfl fin.out.1 Try.underlying48 rfl (by kernel_rfl) rfl fin.out.2.1 Try.underlying50 rfl (by kernel_rfl)) rfl ⟨_, _, _, _, rfl, hRD.out.below fin.out.2.2, Row.nil _ _ _, fin.out.2.2, .inl rfl⟩
theorem rtk_7c {a ae : Option Addr} {c ce : Nat} {s : RS} (what n : Int) (pa : Option Addr) (len cap : Nat) (w : World) (h : RDoc w a c ae ce s) (hg : s.Good) (ho : s.op ≠ 0) (hl : s.left = 0) (t0 : (what == 0) = false) (t1 : (what == 1) = false) (t2 : (what == 2) = false) (t3 : (what == 3) = false) (t4 : (what == 4) = false) (t5 : (what == 5) = false) (t6 : (what == 6) = false) :
    Calls Try.prog 20 #[rdV a c ae ce s, putV what n pa len cap] w fun e w' => ∃ ab cb ae' ce', e = .returned (.tuple #[rdV a c ae' ce' (s.step what n).s, tookV (s.step what n).N ab (s.step what n).len cb (s.step what n).E]) ∧ RDoc w' a c ae' ce' (s.step what n).s ∧ Row w' ab (s.step what n).len (s.step what n).g ∧ Below w.heap.size w w' ∧ NewRow w.heap.size w' ae ae' := by
  have hX := (((Whole.fresh w 48 #[.slice a s.n c, .int .i64 (s.at_ : Nat), .slice ae (s.op + 1) ce]).alloc (.cells #[.int .i64 what, .int .i64 n, .slice pa len cap] 32)).alloc (.cells #[.slice none 0 0, .int .i64 0, .slice none 0 0] 48)).alloc (.cells #[.int .i64 0, .slice none 0 0, .int .i64 0] 50)
  have hY := ((Whole.fresh (w.alloc (.cells #[.slice a s.n c, .int .i64 (s.at_ : Nat), .slice ae (s.op + 1) ce] 48)) 32 #[.int .i64 what, .int .i64 n, .slice pa len cap]).alloc (.cells #[.slice none 0 0, .int .i64 0, .slice none 0 0] 48)).alloc (.cells #[.int .i64 0, .slice none 0 0, .int .i64 0] 50)
  have hU := (Whole.fresh ((w.alloc (.cells #[.slice a s.n c, .int .i64 (s.at_ : Nat), .slice ae (s.op + 1) ce] 48)).alloc (.cells #[.int .i64 what, .int .i64 n, .slice pa len cap] 32)) 48 #[.slice none 0 0, .int .i64 0, .slice none 0 0]).alloc (.cells #[.int .i64 0, .slice none 0 0, .int .i64 0] 50)
  have hV := Whole.fresh (((w.alloc (.cells #[.slice a s.n c, .int .i64 (s.at_ : Nat), .slice ae (s.op + 1) ce] 48)).alloc (.cells #[.int .i64 what, .int .i64 n, .slice pa len cap] 32)).alloc (.cells #[.slice none 0 0, .int .i64 0, .slice none 0 0] 48)) 50 #[.int .i64 0, .slice none 0 0, .int .i64 0]
  have hB := ((((Below.refl w.heap.size w).alloc (Nat.le_refl _) (.cells #[.slice a s.n c, .int .i64 (s.at_ : Nat), .slice ae (s.op + 1) ce] 48)).alloc (by simp) (.cells #[.int .i64 what, .int .i64 n, .slice pa len cap] 32)).alloc (by simp; omega) (.cells #[.slice none 0 0, .int .i64 0, .slice none 0 0] 48)).alloc (by simp; omega) (.cells #[.int .i64 0, .slice none 0 0, .int .i64 0] 50)
  have hs1 : (w.alloc (.cells #[.slice a s.n c, .int .i64 (s.at_ : Nat), .slice ae (s.op + 1) ce] 48)).heap.size = w.heap.size + 1 := by simp
  have hs2 : ((w.alloc (.cells #[.slice a s.n c, .int .i64 (s.at_ : Nat), .slice ae (s.op + 1) ce] 48)).alloc (.cells #[.int .i64 what, .int .i64 n, .slice pa len cap] 32)).heap.size = w.heap.size + 1 + 1 := by simp
  have hs3 : (((w.alloc (.cells #[.slice a s.n c, .int .i64 (s.at_ : Nat), .slice ae (s.op + 1) ce] 48)).alloc (.cells #[.int .i64 what, .int .i64 n, .slice pa len cap] 32)).alloc (.cells #[.slice none 0 0, .int .i64 0, .slice none 0 0] 48)).heap.size = w.heap.size + 1 + 1 + 1 := by simp
  rw [hs1] at hY
  rw [hs2] at hU
  rw [hs3] at hV
  clear hs1 hs2 hs3
  obtain ⟨q, hq⟩ : ∃ q, s.op = q + 1 := ⟨s.op - 1, by omega⟩
  have hE : s.closeE = 0 := by unfold RS.closeE; rw [if_neg ho, if_neg (by omega)]
  have hstep : s.step what n = ⟨s.closed, 0, 0, fun _ => 0, 0⟩ := by rw [step_close s what n t0 t1 t2 t3 t4 t5 t6, hE]; rfl
  rw [hstep]
  have HLf := Lib.hid (fun (W : World) (hW : RDoc W a c ae ce s) => rleftd_any W hW hg)
  have hRD := Lib.hid h
  have h16 := hg.op
  have hlen := h.len
  unfold rdV putV at *
  obtain ⟨K, hK⟩ : ∃ K, s.op + 1 = K := ⟨_, rfl⟩
  rw [hK] at hX hB hlen
  rw [hK] at hY hU hV HLf
  have i1 : ((K : Int) == 1) = false := by rw [beq_eq_false_iff_ne]; omega
  rw [hK]
  have hcl : s.closed.op + 1 = s.op := by show s.op - 1 + 1 = s.op; omega
  rw [hcl]
  have hcn : s.closed.n = s.n := rfl
  have hca : s.closed.at_ = s.at_ := rfl
  rw [hcn, hca]
  obtain ⟨Q, hQ⟩ : ∃ Q, s.op = Q := ⟨_, rfl⟩
  rw [hQ]
  have j1 : wrap64 ((K : Int) - 1) = (Q : Int) := by unfold wrap64; omega
  have j2 : IntKind.i64.wrap ((K : Int) - 1) = (Q : Int) := by simp only [IntKind.wrap_i64]; omega
  have j3 : (Q : Int) ≤ (ce : Int) := by omega
  have j4 : Q ≤ ce := by omega
  rw [hl] at HLf
  clear hstep hg h hE hl hlen h16 hcl hcn hca
  replace hq := Lib.hid hq
  replace hK := Lib.hid hK
  replace hQ := Lib.hid hQ
  rcases what_far t0 t1 t2 t3 t4 t5 t6 with hs | hs
  · have d1 : decide (what ≥ 0) = false := decide_eq_false (by omega)
    have d3 : ¬ 0 ≤ what := by omega
    replace hs := Lib.hid hs
    go_enter Try.func20, Try.ntmps20
    go_upto_region 1 with (fail)
    generalize ((((w.alloc (.cells #[.slice a s.n c, .int .i64 (s.at_ : Nat), .slice ae K ce] 48)).alloc (.cells #[.int .i64 what, .int .i64 n, .slice pa len cap] 32)).alloc (.cells #[.slice none 0 0, .int .i64 0, .slice none 0 0] 48)).alloc (.cells #[.int .i64 0, .slice none 0 0, .int .i64 0] 50)) = W0 at *
    have x0 := hX.cell 0
    have x1 := hX.cell 1
    have x2 := hX.cell 2
    have y0 := hY.cell 0
    simp only [List.getElem?_toArray, List.getElem?_cons_zero, List.getElem?_cons_succ] at x0 x1 x2 y0
    go_wp2_with fail
    refine (HLf.out _ (hRD.out.below hB)).mono ?_
    rintro e W1 ⟨rfl, hB1⟩
    clear x0 x1 x2 y0
    replace hX := hX.below hB1 hX.lt
    replace hY := hY.below hB1 hY.lt
    replace hU := hU.below hB1 hU.lt
    replace hV := hV.below hB1 hV.lt
    have hB := hB.trans (hB1.mono hB.size)
    clear hB1
    have x0 := hX.cell 0
    have x1 := hX.cell 1
    have x2 := hX.cell 2
    simp only [List.getElem?_toArray, List.getElem?_cons_zero, List.getElem?_cons_succ] at x0 x1 x2
    have hfx := hX.free 2
    have hX2 := Lib.hid (hX.put 2 (.slice ae Q ce))
    have hU2 := Lib.hid (hU.away (p := ⟨w.heap.size, 2, none⟩) (by show w.heap.size + 1 + 1 ≠ w.heap.size; omega) (.slice ae Q ce))
    have hV2 := Lib.hid (hV.away (p := ⟨w.heap.size, 2, none⟩) (by show w.heap.size + 1 + 1 + 1 ≠ w.heap.size; omega) (.slice ae Q ce))
    have hB2 := Lib.hid (hB.setCell (p := ⟨w.heap.size, 2, none⟩) (Nat.le_refl _) (.slice ae Q ce))
    clear hX hY hU hV hB HLf
    go_upto_region 43 with (fail)
    clear x0 x1 x2 hfx
    generalize W1.setCell ⟨w.heap.size, 2, none⟩ (.slice ae Q ce) = W3 at *
    have hX := hX2.out
    have hU := hU2.out
    have hV := hV2.out
    have hB := hB2.out
    clear hX2 hU2 hV2 hB2
    simp only [List.setIfInBounds_toArray, List.set_cons_zero, List.set_cons_succ] at hX
    have x0 := hX.cell 0
    have x1 := hX.cell 1
    have x2 := hX.cell 2
    simp only [List.getElem?_toArray, List.getElem?_cons_zero, List.getElem?_cons_succ] at x0 x1 x2
    have z0 := hU.cell 0
    have z1 := hU.cell 1
    have z2 := hU.cell 2
    have v0 := hV.cell 0
    have v1 := hV.cell 1
    have v2 := hV.cell 2
    simp only [List.getElem?_toArray, List.getElem?_cons_zero, List.getElem?_cons_succ] at z0 z1 z2 v0 v1 v2
    have g0 := hU.free 0
    have g1 := hU.free 1
    have g2 := hU.free 2
    have k0 := hV.free 0
    have k1 := hV.free 1
    have k2 := hV.free 2
    have fin := Lib.hid (rd_end hB hU hV (.slice a s.n c) (.int .i64 (s.at_ : Nat)) (.slice ae Q ce) (.int .i64 0) (.slice none 0 0) (.int .i64 0))
    clear hX hU hV hB
    go_wp2_with fail
    exact bodyPost_ret (results_cells2 (fn := Try.f20) (p1 := 4) (p2 := 5) (ty1 := 48) (ty2 := 50) rfl _ _ _ _ _ _ _ _ (0, 0) (0, 0) _ _ rfl fin.out.1 Try.underlying48 rfl (by kernel_rfl) rfl fin.out.2.1 Try.underlying50 rfl (by kernel_rfl)) rfl ⟨_, _, _, _, rfl, (hRD.out.below fin.out.2.2).close hq.out, Row.nil _ _ _, fin.out.2.2, .inl rfl⟩
  · have d1 : decide (what ≥ 0) = true := decide_eq_true (by omega)
    have d2 : decide (what < 5) = false := decide_eq_false (by omega)
    have d3 : 0 ≤ what := by omega
    have d4 : ¬ what < 5 := by omega
    replace hs := Lib.hid hs
    go_enter Try.func20, Try.ntmps20
    go_upto_region 1 with (fail)
    generalize ((((w.alloc (.cells #[.slice a s.n c, .int .i64 (s.at_ : Nat), .slice ae K ce] 48)).alloc (.cells #[.int .i64 what, .int .i64 n, .slice pa len cap] 32)).alloc (.cells #[.slice none 0 0, .int .i64 0, .slice none 0 0] 48)).alloc (.cells #[.int .i64 0, .slice none 0 0, .int .i64 0] 50)) = W0 at *
    have x0 := hX.cell 0
    have x1 := hX.cell 1
    have x2 := hX.cell 2
    have y0 := hY.cell 0
    simp only [List.getElem?_toArray, List.getElem?_cons_zero, List.getElem?_cons_succ] at x0 x1 x2 y0
    go_wp2_with fail
    refine (HLf.out _ (hRD.out.below hB)).mono ?_
    rintro e W1 ⟨rfl, hB1⟩
    clear x0 x1 x2 y0
    replace hX := hX.below hB1 hX.lt
    replace hY := hY.below hB1 hY.lt
    replace hU := hU.below hB1 hU.lt
    replace hV := hV.below hB1 hV.lt
    have hB := hB.trans (hB1.mono hB.size)
    clear hB1
    have x0 := hX.cell 0
    have x1 := hX.cell 1
    have x2 := hX.cell 2
    simp only [List.getElem?_toArray, List.getElem?_cons_zero, List.getElem?_cons_succ] at x0 x1 x2
    have hfx := hX.free 2
    have hX2 := Lib.hid (hX.put 2 (.slice ae Q ce))
    have hU2 := Lib.hid (hU.away (p := ⟨w.heap.size, 2, none⟩) (by show w.heap.size + 1 + 1 ≠ w.heap.size; omega) (.slice ae Q ce))
    have hV2 := Lib.hid (hV.away (p := ⟨w.heap.size, 2, none⟩) (by show w.heap.size + 1 + 1 + 1 ≠ w.heap.size; omega) (.slice ae Q ce))
    have hB2 := Lib.hid (hB.setCell (p := ⟨w.heap.size, 2, none⟩) (Nat.le_refl _) (.slice ae Q ce))
    clear hX hY hU hV hB HLf
    go_upto_region 43 with (fail)
    clear x0 x1 x2 hfx
    generalize W1.setCell ⟨w.heap.size, 2, none⟩ (.slice ae Q ce) = W3 at *
    have hX := hX2.out
    have hU := hU2.out
    have hV := hV2.out
    have hB := hB2.out
    clear hX2 hU2 hV2 hB2
    simp only [List.setIfInBounds_toArray, List.set_cons_zero, List.set_cons_succ] at hX
    have x0 := hX.cell 0
    have x1 := hX.cell 1
    have x2 := hX.cell 2
    simp only [List.getElem?_toArray, List.getElem?_cons_zero, List.getElem?_cons_succ] at x0 x1 x2
    have z0 := hU.cell 0
    have z1 := hU.cell 1
    have z2 := hU.cell 2
    have v0 := hV.cell 0
    have v1 := hV.cell 1
    have v2 := hV.cell 2
    simp only [List.getElem?_toArray, List.getElem?_cons_zero, List.getElem?_cons_succ] at z0 z1 z2 v0 v1 v2
    have g0 := hU.free 0
    have g1 := hU.free 1
    have g2 := hU.free 2
    have k0 := hV.free 0
    have k1 := hV.free 1
    have k2 := hV.free 2
    have fin := Lib.hid (rd_end hB hU hV (.slice a s.n c) (.int .i64 (s.at_ : Nat)) (.slice ae Q ce) (.int .i64 0) (.slice none 0 0) (.int .i64 0))
    clear hX hU hV hB
    go_wp2_with fail
    exact bodyPost_ret (results_cells2 (fn := Try.f20) (p1 := 4) (p2 := 5) (ty1 := 48) (ty2 := 50) rfl _ _ _ _ _ _ _ _ (0, 0) (0, 0) _ _ rfl fin.out.1 Try.underlying48 rfl (by kernel_rfl) rfl fin.out.2.1 Try.underlying50 rfl (by kernel_rfl)) rfl ⟨_, _, _, _, rfl, (hRD.out.below fin.out.2.2).close hq.out, Row.nil _ _ _, fin.out.2.2, .inl rfl⟩
end Go.Proofs.Ytacnmnodbmbplaa
