/-
  A code, by the document.
-/
import Derived.Test.YtlogijjgachdjaaDoorRInv
import Derived.StillTailTactics
import Derived.Deep.RegionHeld3
namespace Go.Proofs.YtlogijjgachdjaaDoor
open Go.RowKit
set_option maxRecDepth 1000000
set_option maxHeartbeats 16000000
set_option linter.unusedVariables false

attribute [local irreducible] nmsV fmsV cycV nmF fmF cyF szF wdF byL
theorem rof_any (c : Nat) (w : World) (hc : c < 256) : Calls Tryd.prog 10 #[.int .u8 c] w fun e w' => e = .returned (ntV c) ∧ Below w.heap.size w w' := by
  have H1 := fun W => names_any W
  have H2 := fun W => forms_any W
  have H3 := fun W => cycles_any W
  have n1 := nmsV_at c hc
  have n2 := fmsV_at c hc
  have n3 := cycV_at c hc
  generalize nmsV = A1 at *
  generalize fmsV = A2 at *
  generalize cycV = A3 at *
  replace H1 := Lib.hid H1
  replace H2 := Lib.hid H2
  replace H3 := Lib.hid H3
  unfold ntV
  generalize nmF c = nm at *
  generalize hfm : fmF c = fm at *
  generalize cyF c = cy at *
  have t1 : decide ((256 : Int) ≤ (c : Int)) = false := decide_eq_false (by omega)
  go_enter Tryd.func10, Tryd.ntmps10
  go_wp2_with fail
  have hX := Whole.fresh w 25 #[.int .u8 0, .string ⟨#[]⟩, .string ⟨#[]⟩, .int .i64 0, .int .i64 0]
  have hB := ((Below.refl w.heap.size w).alloc (Nat.le_refl _) (.cells #[.int .u8 0, .string ⟨#[]⟩, .string ⟨#[]⟩, .int .i64 0, .int .i64 0] 25))
  generalize w.alloc (.cells #[.int .u8 0, .string ⟨#[]⟩, .string ⟨#[]⟩, .int .i64 0, .int .i64 0] 25) = W0 at *
  generalize hXe : w.heap.size = X at *
  replace hXe := Lib.hid hXe
  refine wp_region_any (by kernel_rfl) (wpAny_inv (RI c X cy nm fm A1 A2 A3 w) ?step ?fin _ _ _ _ ?cnt ?init)
  case cnt => exact Nat.le_of_eq (by rfl)
  case init => exact ⟨by simp, _, _, _, _, _, _, _, _, _, _, _, _, _, _, _, rfl, hX.drew, hB.drew, fun h => repl_no h, fun h => repl_no h, fun h => repl_no h, fun h => repl_no h, fun h => repl_no h, fun h => repl_no h, fun h => repl_no h, fun h => repl_no h, fun h => repl_no h, fun h => repl_no h, fun h => repl_no h, fun h => repl_no h, fun h => repl_no h, fun h => repl_no h, fun h => repl_no h, fun h => repl_no h⟩
  case fin =>
    intro listed a W hI hr
    obtain ⟨hsz, t3, t5, t6, t7, t8, t9, t10, t11, t12, t13, t14, t15, t16, t17, t18, rfl, hX2, hB2, f0, f1, f2, f3, f4, f5, f6, f7, f8, f9, f10, f11, f12, f13, f14, f15⟩ := hI
    clear hX hB
    have l0 := all_listed hr hsz (i := 0) rfl (by intro e he; simp at he)
    have l1 := all_listed hr hsz (i := 1) rfl (by intro e he; simp at he)
    have l2 := all_listed hr hsz (i := 2) rfl (by intro e he; simp at he)
    have l3 := all_listed hr hsz (i := 3) rfl (by intro e he; simp at he; rcases he with rfl | rfl <;> first | exact l1 | exact l2)
    have l4 := all_listed hr hsz (i := 4) rfl (by intro e he; simp at he; rcases he with rfl <;> first | exact l3)
    have l5 := all_listed hr hsz (i := 5) rfl (by intro e he; simp at he; rcases he with rfl <;> first | exact l1)
    have l6 := all_listed hr hsz (i := 6) rfl (by intro e he; simp at he)
    have l7 := all_listed hr hsz (i := 7) rfl (by intro e he; simp at he; rcases he with rfl | rfl <;> first | exact l5 | exact l6)
    have l8 := all_listed hr hsz (i := 8) rfl (by intro e he; simp at he; rcases he with rfl <;> first | exact l7)
    have l9 := all_listed hr hsz (i := 9) rfl (by intro e he; simp at he; rcases he with rfl <;> first | exact l5)
    have l10 := all_listed hr hsz (i := 10) rfl (by intro e he; simp at he)
    have l11 := all_listed hr hsz (i := 11) rfl (by intro e he; simp at he; rcases he with rfl | rfl <;> first | exact l9 | exact l10)
    have l12 := all_listed hr hsz (i := 12) rfl (by intro e he; simp at he; rcases he with rfl <;> first | exact l11)
    have l13 := all_listed hr hsz (i := 13) rfl (by intro e he; simp at he; rcases he with rfl | rfl | rfl | rfl <;> first | exact l0 | exact l4 | exact l8 | exact l12)
    have l14 := all_listed hr hsz (i := 14) rfl (by intro e he; simp at he)
    have l15 := all_listed hr hsz (i := 15) rfl (by intro e he; simp at he; rcases he with rfl | rfl | rfl | rfl | rfl | rfl | rfl | rfl | rfl | rfl | rfl | rfl | rfl | rfl | rfl | rfl | rfl | rfl <;> first | exact l0 | exact l1 | exact l2 | exact l3 | exact l4 | exact l5 | exact l6 | exact l7 | exact l8 | exact l9 | exact l10 | exact l11 | exact l12 | exact l13 | exact l14)
    obtain ⟨_, B, hXB, rfl, hW⟩ := f15 l15
    clear hr hsz f0 f1 f2 f3 f4 f5 f6 f7 f8 f9 f10 f11 f12 f13 f14 f15 l0 l1 l2 l3 l4 l5 l6 l7 l8 l9 l10 l11 l12 l13 l14 l15 H1 H2 H3
    have hBl := byL_le (fmL c)
    have hfl := (fm_all c hc).1
    have hl2 := fmL_le c hc
    have hSz : fm.size = (fmL c).length := by rw [← hfm]; exact rfm_len c
    have hSb : ∀ k (h : k < fm.size), fm[k].toNat = (fmL c).getD k 0 ∧ (fmL c).getD k 0 < 128 := by subst hfm; intro k h; exact rfm_byte c k hc h
    have HW := fun k (hk : k < fm.size) W => rwidth_any ((fmL c).getD k 0) W (by have := (hSb k hk).2; omega)
    have hbs := byL_succ (fmL c)
    have hsf : szF c = 1 + byL (fmL c) := by unfold szF; rfl
    clear hfm n1 n2 n3
    replace HW := Lib.hid HW
    replace hSb := Lib.hid hSb
    replace hbs := Lib.hid hbs
    replace hsf := Lib.hid hsf
    dsimp only
    go_wp2_with fail
    go_loopw [4] (fun s4 wr => ∃ k : Nat, k ≤ fm.size ∧ s4 = .int .i64 k ∧ Whole wr X 25 #[.int .u8 0, .string ⟨#[]⟩, .string ⟨#[]⟩, .int .i64 0, .int .i64 0] ∧ Whole wr B 25 #[.int .u8 c, .string nm, .string fm, .int .i64 ((1 + byL ((fmL c).take k) : Nat) : Int), .int .i64 cy] ∧ Below X w wr) (fun s4 _ => fm.size - (intOf s4).toNat)
    case atStart => exact ⟨0, by omega, rfl, hX2, by rw [List.take_zero, show byL [] = 0 by unfold byL; rfl]; exact hW, hB2⟩
    case round =>
      obtain ⟨k, hk, rfl, hX3, hW3, hB3⟩ := hrel
      clear hX2 hW hB2
      have x2 := hW3.cell 2
      have x3 := hW3.cell 3
      have y3 := hW3.free 3
      simp only [List.getElem?_toArray, List.getElem?_cons_zero, List.getElem?_cons_succ] at x2 x3
      by_cases hlt : k < fm.size
      · obtain ⟨h1, h128⟩ := hSb.out k hlt
        have hb1 := hbs.out k (by omega)
        have hb2 := byL_le ((fmL c).take k)
        have hb3 : ((fmL c).take k).length ≤ 2 := by rw [List.length_take]; omega
        have hW4 := Lib.hid (HW.out k hlt)
        have hy := wdF_le ((fmL c).getD k 0)
        generalize (fmL c).getD k 0 = x at *
        generalize byL ((fmL c).take k) = b at *
        generalize hb' : byL ((fmL c).take (k + 1)) = b' at *
        generalize wdF x = y at *
        have hput := hW3.put 3 (.int .i64 (((1 + b : Nat) : Int) + (y : Int)))
        have hXa := hX3.away (p := ⟨B, 3, none⟩) (show X ≠ B by omega) (.int .i64 (((1 + b : Nat) : Int) + (y : Int)))
        have hBa := hB3.setCell (p := ⟨B, 3, none⟩) (Nat.le_of_lt hXB) (.int .i64 (((1 + b : Nat) : Int) + (y : Int)))
        replace hb' := Lib.hid hb'
        have ht : decide ((k : Int) < (fm.size : Int)) = true := decide_eq_true (by omega)
        replace hX3 := Lib.hid hX3
        replace hW3 := Lib.hid hW3
        go_upto_region 5 with (fail)
        go_still_tail 9, (by kernel_rfl)
        still_call (hW4.out _)
        repeat still_step
        refine wpStill_nil ?_
        show wpList _ _ _ _ _ wr.drew
        have hWd := hW3.out.drew
        have hXd := hX3.out.drew
        have hBd := hB3.drew
        clear hput hXa hBa hX3 hW3 hB3 x2 x3 y3
        generalize wr.drew = Wd at *
        have x3 := hWd.cell 3
        have y3 := hWd.free 3
        simp only [List.getElem?_toArray, List.getElem?_cons_zero, List.getElem?_cons_succ] at x3
        have hw64 : IntKind.i64.wrap (1 + (b : Int) + (y : Int)) = 1 + (b : Int) + (y : Int) := by simp only [IntKind.wrap_i64]; omega
        have hput := hWd.put 3 (.int .i64 (1 + (b : Int) + (y : Int)))
        have hXa := hXd.away (p := ⟨B, 3, none⟩) (show X ≠ B by omega) (.int .i64 (1 + (b : Int) + (y : Int)))
        have hBa := hBd.setCell (p := ⟨B, 3, none⟩) (Nat.le_of_lt hXB) (.int .i64 (1 + (b : Int) + (y : Int)))
        replace hput := Lib.hid hput
        replace hXa := Lib.hid hXa
        clear hWd hXd
        go_wp2_with fail
        go_roundw
        case rel => exact ⟨k + 1, by omega, by go_num, hXa.out, by rw [hb'.out, hb1, show ((1 + (b + y) : Nat) : Int) = 1 + (b : Int) + (y : Int) by omega]; exact hput.out, hBa⟩
        case measure => simp [intOf]; omega
      · obtain rfl : k = fm.size := by omega
        have hlt' : decide ((fm.size : Int) < (fm.size : Int)) = false := by simp
        have hfin : (1 + byL ((fmL c).take fm.size)) = szF c := by rw [hsf.out, hSz, List.take_length]
        rw [hfin] at hW3
        have w0 := hW3.cell 0
        have w1 := hW3.cell 1
        have w2 := hW3.cell 2
        have w3 := hW3.cell 3
        have w4 := hW3.cell 4
        simp only [List.getElem?_toArray, List.getElem?_cons_zero, List.getElem?_cons_succ] at w0 w1 w2 w3 w4
        have hput := put5 hX3 (.int .u8 c) (.string nm) (.string fm) (.int .i64 (szF c : Nat)) (.int .i64 cy)
        have hBa := ((((hB3.setCell (p := ⟨X, 0, none⟩) (Nat.le_refl _) (.int .u8 c)).setCell (p := ⟨X, 1, none⟩) (Nat.le_refl _) (.string nm)).setCell (p := ⟨X, 2, none⟩) (Nat.le_refl _) (.string fm)).setCell (p := ⟨X, 3, none⟩) (Nat.le_refl _) (.int .i64 (szF c : Nat))).setCell (p := ⟨X, 4, none⟩) (Nat.le_refl _) (.int .i64 cy)
        have g0 := hX3.free 0
        have g1 := hX3.free 1
        have g2 := hX3.free 2
        have g3 := hX3.free 3
        have g4 := hX3.free 4
        have v0 := hX3.cell 0
        have v1 := hX3.cell 1
        have v2 := hX3.cell 2
        have v3 := hX3.cell 3
        have v4 := hX3.cell 4
        simp only [List.getElem?_toArray, List.getElem?_cons_zero, List.getElem?_cons_succ] at v0 v1 v2 v3 v4
        have z0 := hput.cell 0
        have z1 := hput.cell 1
        have z2 := hput.cell 2
        have z3 := hput.cell 3
        have z4 := hput.cell 4
        replace hBa := Lib.hid hBa
        replace hW3 := Lib.hid hW3
        replace hX3 := Lib.hid hX3
        clear x2 x3 y3 hput hfin
        go_wp2_with fail
        exact bodyPost_ret (v := .agg #[.int .u8 c, .string nm, .string fm, .int .i64 (szF c : Nat), .int .i64 cy]) (by simp [results, Tryd.results10, go_sem, z0, z1, z2, z3, z4]) rfl ⟨rfl, by rw [hXe.out]; exact hBa.out⟩
  case step =>
    intro listed a W i hI hi
    obtain ⟨hsz, t3, t5, t6, t7, t8, t9, t10, t11, t12, t13, t14, t15, t16, t17, t18, rfl, hX2, hB2, f0, f1, f2, f3, f4, f5, f6, f7, f8, f9, f10, f11, f12, f13, f14, f15⟩ := hI
    obtain ⟨hun, oo, ho, hall⟩ := mem_ready.1 hi
    have hi16 : i < 16 := (Array.getElem?_eq_some_iff.1 ho).1
    clear hX hB
    have hcs : i = 0 ∨ i = 1 ∨ i = 2 ∨ i = 3 ∨ i = 4 ∨ i = 5 ∨ i = 6 ∨ i = 7 ∨ i = 8 ∨ i = 9 ∨ i = 10 ∨ i = 11 ∨ i = 12 ∨ i = 13 ∨ i = 14 ∨ i = 15 := by omega
    rcases hcs with rfl | rfl | rfl | rfl | rfl | rfl | rfl | rfl | rfl | rfl | rfl | rfl | rfl | rfl | rfl | rfl
    · -- operation 0
      injection ho with ho
      subst ho
      refine wpOp_step rfl ?_
      intro K1 hK1
      replace hK1 := Lib.hid hK1
      go_wp2_with fail
      exact hK1.out _ _ ⟨by simp [hsz], _, _, _, _, _, _, _, _, _, _, _, _, _, _, _, rfl, hX2, hB2, fun _ => rfl, fun h => f1 (keep_at (by decide) h), fun h => f2 (keep_at (by decide) h), fun h => f3 (keep_at (by decide) h), fun h => f4 (keep_at (by decide) h), fun h => f5 (keep_at (by decide) h), fun h => f6 (keep_at (by decide) h), fun h => f7 (keep_at (by decide) h), fun h => f8 (keep_at (by decide) h), fun h => f9 (keep_at (by decide) h), fun h => f10 (keep_at (by decide) h), fun h => f11 (keep_at (by decide) h), fun h => f12 (keep_at (by decide) h), fun h => f13 (keep_at (by decide) h), fun h => f14 (keep_at (by decide) h), fun h => ⟨getD_set_true (f15 (keep_at (by decide) h)).1, (f15 (keep_at (by decide) h)).2⟩⟩
    · -- operation 1
      injection ho with ho
      subst ho
      refine wpOp_step rfl ?_
      intro K1 hK1
      replace hK1 := Lib.hid hK1
      go_wp2_with fail
      refine (H1.out _).mono ?_
      rintro e W9 ⟨rfl, rfl⟩
      go_wp2_with fail
      exact hK1.out _ _ ⟨by simp [hsz], _, _, _, _, _, _, _, _, _, _, _, _, _, _, _, rfl, hX2.alloc _, hB2.alloc (Nat.le_of_lt hX2.lt) _, fun h => f0 (keep_at (by decide) h), fun _ => ⟨_, rfl, Whole.fresh _ _ _⟩, fun h => f2 (keep_at (by decide) h), fun h => let ⟨B, h1, h2⟩ := f3 (keep_at (by decide) h); ⟨B, h1, h2.alloc _⟩, fun h => f4 (keep_at (by decide) h), fun h => let ⟨B, h1, h2⟩ := f5 (keep_at (by decide) h); ⟨B, h1, h2.alloc _⟩, fun h => f6 (keep_at (by decide) h), fun h => let ⟨B, h1, h2⟩ := f7 (keep_at (by decide) h); ⟨B, h1, h2.alloc _⟩, fun h => f8 (keep_at (by decide) h), fun h => let ⟨B, h1, h2⟩ := f9 (keep_at (by decide) h); ⟨B, h1, h2.alloc _⟩, fun h => f10 (keep_at (by decide) h), fun h => let ⟨B, h1, h2⟩ := f11 (keep_at (by decide) h); ⟨B, h1, h2.alloc _⟩, fun h => f12 (keep_at (by decide) h), fun h => f13 (keep_at (by decide) h), fun h => let ⟨B, v0, v1, v2, v3, v4, h1, h2, h3⟩ := f14 (keep_at (by decide) h); ⟨B, v0, v1, v2, v3, v4, h1, h2, h3.alloc _⟩, fun h => let ⟨h0, B, h1, h2, h3⟩ := f15 (keep_at (by decide) h); ⟨getD_set_true h0, B, h1, h2, h3.alloc _⟩⟩
    · -- operation 2
      injection ho with ho
      subst ho
      refine wpOp_step rfl ?_
      intro K1 hK1
      replace hK1 := Lib.hid hK1
      go_wp2_with fail
      exact hK1.out _ _ ⟨by simp [hsz], _, _, _, _, _, _, _, _, _, _, _, _, _, _, _, rfl, hX2, hB2, fun h => f0 (keep_at (by decide) h), fun h => f1 (keep_at (by decide) h), fun _ => rfl, fun h => f3 (keep_at (by decide) h), fun h => f4 (keep_at (by decide) h), fun h => f5 (keep_at (by decide) h), fun h => f6 (keep_at (by decide) h), fun h => f7 (keep_at (by decide) h), fun h => f8 (keep_at (by decide) h), fun h => f9 (keep_at (by decide) h), fun h => f10 (keep_at (by decide) h), fun h => f11 (keep_at (by decide) h), fun h => f12 (keep_at (by decide) h), fun h => f13 (keep_at (by decide) h), fun h => f14 (keep_at (by decide) h), fun h => ⟨getD_set_true (f15 (keep_at (by decide) h)).1, (f15 (keep_at (by decide) h)).2⟩⟩
    · -- operation 3
      injection ho with ho
      subst ho
      have d1 := hall { on := 1, ground := .data } (by simp) rfl
      have d2 := hall { on := 2, ground := .data } (by simp) rfl
      obtain ⟨B1, rfl, hW1⟩ := f1 d1
      obtain rfl := f2 d2
      refine wpOp_step rfl ?_
      intro K1 hK1
      replace hK1 := Lib.hid hK1
      go_wp2_with fail
      exact hK1.out _ _ ⟨by simp [hsz], _, _, _, _, _, _, _, _, _, _, _, _, _, _, _, rfl, hX2, hB2, fun h => f0 (keep_at (by decide) h), fun _ => ⟨_, rfl, hW1⟩, fun _ => rfl, fun _ => ⟨_, rfl, hW1⟩, fun h => f4 (keep_at (by decide) h), fun h => f5 (keep_at (by decide) h), fun h => f6 (keep_at (by decide) h), fun h => f7 (keep_at (by decide) h), fun h => f8 (keep_at (by decide) h), fun h => f9 (keep_at (by decide) h), fun h => f10 (keep_at (by decide) h), fun h => f11 (keep_at (by decide) h), fun h => f12 (keep_at (by decide) h), fun h => f13 (keep_at (by decide) h), fun h => f14 (keep_at (by decide) h), fun h => ⟨getD_set_true (f15 (keep_at (by decide) h)).1, (f15 (keep_at (by decide) h)).2⟩⟩
    · -- operation 4
      injection ho with ho
      subst ho
      have d3 := hall { on := 3, ground := .data } (by simp) rfl
      obtain ⟨B3, rfl, hW3⟩ := f3 d3
      refine wpOp_step rfl ?_
      intro K1 hK1
      have x0 := (hW3.cell c).trans n1
      replace hK1 := Lib.hid hK1
      go_wp2_with fail
      exact hK1.out _ _ ⟨by simp [hsz], _, _, _, _, _, _, _, _, _, _, _, _, _, _, _, rfl, hX2, hB2, fun h => f0 (keep_at (by decide) h), fun h => f1 (keep_at (by decide) h), fun h => f2 (keep_at (by decide) h), fun _ => ⟨_, rfl, hW3⟩, fun _ => rfl, fun h => f5 (keep_at (by decide) h), fun h => f6 (keep_at (by decide) h), fun h => f7 (keep_at (by decide) h), fun h => f8 (keep_at (by decide) h), fun h => f9 (keep_at (by decide) h), fun h => f10 (keep_at (by decide) h), fun h => f11 (keep_at (by decide) h), fun h => f12 (keep_at (by decide) h), fun h => f13 (keep_at (by decide) h), fun h => f14 (keep_at (by decide) h), fun h => ⟨getD_set_true (f15 (keep_at (by decide) h)).1, (f15 (keep_at (by decide) h)).2⟩⟩
    · -- operation 5
      injection ho with ho
      subst ho
      refine wpOp_step rfl ?_
      intro K1 hK1
      replace hK1 := Lib.hid hK1
      go_wp2_with fail
      refine (H2.out _).mono ?_
      rintro e W9 ⟨rfl, rfl⟩
      go_wp2_with fail
      exact hK1.out _ _ ⟨by simp [hsz], _, _, _, _, _, _, _, _, _, _, _, _, _, _, _, rfl, hX2.alloc _, hB2.alloc (Nat.le_of_lt hX2.lt) _, fun h => f0 (keep_at (by decide) h), fun h => let ⟨B, h1, h2⟩ := f1 (keep_at (by decide) h); ⟨B, h1, h2.alloc _⟩, fun h => f2 (keep_at (by decide) h), fun h => let ⟨B, h1, h2⟩ := f3 (keep_at (by decide) h); ⟨B, h1, h2.alloc _⟩, fun h => f4 (keep_at (by decide) h), fun _ => ⟨_, rfl, Whole.fresh _ _ _⟩, fun h => f6 (keep_at (by decide) h), fun h => let ⟨B, h1, h2⟩ := f7 (keep_at (by decide) h); ⟨B, h1, h2.alloc _⟩, fun h => f8 (keep_at (by decide) h), fun h => let ⟨B, h1, h2⟩ := f9 (keep_at (by decide) h); ⟨B, h1, h2.alloc _⟩, fun h => f10 (keep_at (by decide) h), fun h => let ⟨B, h1, h2⟩ := f11 (keep_at (by decide) h); ⟨B, h1, h2.alloc _⟩, fun h => f12 (keep_at (by decide) h), fun h => f13 (keep_at (by decide) h), fun h => let ⟨B, v0, v1, v2, v3, v4, h1, h2, h3⟩ := f14 (keep_at (by decide) h); ⟨B, v0, v1, v2, v3, v4, h1, h2, h3.alloc _⟩, fun h => let ⟨h0, B, h1, h2, h3⟩ := f15 (keep_at (by decide) h); ⟨getD_set_true h0, B, h1, h2, h3.alloc _⟩⟩
    · -- operation 6
      injection ho with ho
      subst ho
      refine wpOp_step rfl ?_
      intro K1 hK1
      replace hK1 := Lib.hid hK1
      go_wp2_with fail
      exact hK1.out _ _ ⟨by simp [hsz], _, _, _, _, _, _, _, _, _, _, _, _, _, _, _, rfl, hX2, hB2, fun h => f0 (keep_at (by decide) h), fun h => f1 (keep_at (by decide) h), fun h => f2 (keep_at (by decide) h), fun h => f3 (keep_at (by decide) h), fun h => f4 (keep_at (by decide) h), fun h => f5 (keep_at (by decide) h), fun _ => rfl, fun h => f7 (keep_at (by decide) h), fun h => f8 (keep_at (by decide) h), fun h => f9 (keep_at (by decide) h), fun h => f10 (keep_at (by decide) h), fun h => f11 (keep_at (by decide) h), fun h => f12 (keep_at (by decide) h), fun h => f13 (keep_at (by decide) h), fun h => f14 (keep_at (by decide) h), fun h => ⟨getD_set_true (f15 (keep_at (by decide) h)).1, (f15 (keep_at (by decide) h)).2⟩⟩
    · -- operation 7
      injection ho with ho
      subst ho
      have d5 := hall { on := 5, ground := .data } (by simp) rfl
      have d6 := hall { on := 6, ground := .data } (by simp) rfl
      obtain ⟨B5, rfl, hW5⟩ := f5 d5
      obtain rfl := f6 d6
      refine wpOp_step rfl ?_
      intro K1 hK1
      replace hK1 := Lib.hid hK1
      go_wp2_with fail
      exact hK1.out _ _ ⟨by simp [hsz], _, _, _, _, _, _, _, _, _, _, _, _, _, _, _, rfl, hX2, hB2, fun h => f0 (keep_at (by decide) h), fun h => f1 (keep_at (by decide) h), fun h => f2 (keep_at (by decide) h), fun h => f3 (keep_at (by decide) h), fun h => f4 (keep_at (by decide) h), fun _ => ⟨_, rfl, hW5⟩, fun _ => rfl, fun _ => ⟨_, rfl, hW5⟩, fun h => f8 (keep_at (by decide) h), fun h => f9 (keep_at (by decide) h), fun h => f10 (keep_at (by decide) h), fun h => f11 (keep_at (by decide) h), fun h => f12 (keep_at (by decide) h), fun h => f13 (keep_at (by decide) h), fun h => f14 (keep_at (by decide) h), fun h => ⟨getD_set_true (f15 (keep_at (by decide) h)).1, (f15 (keep_at (by decide) h)).2⟩⟩
    · -- operation 8
      injection ho with ho
      subst ho
      have d7 := hall { on := 7, ground := .data } (by simp) rfl
      obtain ⟨B7, rfl, hW7⟩ := f7 d7
      refine wpOp_step rfl ?_
      intro K1 hK1
      have x0 := (hW7.cell c).trans n2
      replace hK1 := Lib.hid hK1
      go_wp2_with fail
      exact hK1.out _ _ ⟨by simp [hsz], _, _, _, _, _, _, _, _, _, _, _, _, _, _, _, rfl, hX2, hB2, fun h => f0 (keep_at (by decide) h), fun h => f1 (keep_at (by decide) h), fun h => f2 (keep_at (by decide) h), fun h => f3 (keep_at (by decide) h), fun h => f4 (keep_at (by decide) h), fun h => f5 (keep_at (by decide) h), fun h => f6 (keep_at (by decide) h), fun _ => ⟨_, rfl, hW7⟩, fun _ => rfl, fun h => f9 (keep_at (by decide) h), fun h => f10 (keep_at (by decide) h), fun h => f11 (keep_at (by decide) h), fun h => f12 (keep_at (by decide) h), fun h => f13 (keep_at (by decide) h), fun h => f14 (keep_at (by decide) h), fun h => ⟨getD_set_true (f15 (keep_at (by decide) h)).1, (f15 (keep_at (by decide) h)).2⟩⟩
    · -- operation 9
      injection ho with ho
      subst ho
      refine wpOp_step rfl ?_
      intro K1 hK1
      replace hK1 := Lib.hid hK1
      go_wp2_with fail
      refine (H3.out _).mono ?_
      rintro e W9 ⟨rfl, rfl⟩
      go_wp2_with fail
      exact hK1.out _ _ ⟨by simp [hsz], _, _, _, _, _, _, _, _, _, _, _, _, _, _, _, rfl, hX2.alloc _, hB2.alloc (Nat.le_of_lt hX2.lt) _, fun h => f0 (keep_at (by decide) h), fun h => let ⟨B, h1, h2⟩ := f1 (keep_at (by decide) h); ⟨B, h1, h2.alloc _⟩, fun h => f2 (keep_at (by decide) h), fun h => let ⟨B, h1, h2⟩ := f3 (keep_at (by decide) h); ⟨B, h1, h2.alloc _⟩, fun h => f4 (keep_at (by decide) h), fun h => let ⟨B, h1, h2⟩ := f5 (keep_at (by decide) h); ⟨B, h1, h2.alloc _⟩, fun h => f6 (keep_at (by decide) h), fun h => let ⟨B, h1, h2⟩ := f7 (keep_at (by decide) h); ⟨B, h1, h2.alloc _⟩, fun h => f8 (keep_at (by decide) h), fun _ => ⟨_, rfl, Whole.fresh _ _ _⟩, fun h => f10 (keep_at (by decide) h), fun h => let ⟨B, h1, h2⟩ := f11 (keep_at (by decide) h); ⟨B, h1, h2.alloc _⟩, fun h => f12 (keep_at (by decide) h), fun h => f13 (keep_at (by decide) h), fun h => let ⟨B, v0, v1, v2, v3, v4, h1, h2, h3⟩ := f14 (keep_at (by decide) h); ⟨B, v0, v1, v2, v3, v4, h1, h2, h3.alloc _⟩, fun h => let ⟨h0, B, h1, h2, h3⟩ := f15 (keep_at (by decide) h); ⟨getD_set_true h0, B, h1, h2, h3.alloc _⟩⟩
    · -- operation 10
      injection ho with ho
      subst ho
      refine wpOp_step rfl ?_
      intro K1 hK1
      replace hK1 := Lib.hid hK1
      go_wp2_with fail
      exact hK1.out _ _ ⟨by simp [hsz], _, _, _, _, _, _, _, _, _, _, _, _, _, _, _, rfl, hX2, hB2, fun h => f0 (keep_at (by decide) h), fun h => f1 (keep_at (by decide) h), fun h => f2 (keep_at (by decide) h), fun h => f3 (keep_at (by decide) h), fun h => f4 (keep_at (by decide) h), fun h => f5 (keep_at (by decide) h), fun h => f6 (keep_at (by decide) h), fun h => f7 (keep_at (by decide) h), fun h => f8 (keep_at (by decide) h), fun h => f9 (keep_at (by decide) h), fun _ => rfl, fun h => f11 (keep_at (by decide) h), fun h => f12 (keep_at (by decide) h), fun h => f13 (keep_at (by decide) h), fun h => f14 (keep_at (by decide) h), fun h => ⟨getD_set_true (f15 (keep_at (by decide) h)).1, (f15 (keep_at (by decide) h)).2⟩⟩
    · -- operation 11
      injection ho with ho
      subst ho
      have d9 := hall { on := 9, ground := .data } (by simp) rfl
      have d10 := hall { on := 10, ground := .data } (by simp) rfl
      obtain ⟨B9, rfl, hW9⟩ := f9 d9
      obtain rfl := f10 d10
      refine wpOp_step rfl ?_
      intro K1 hK1
      replace hK1 := Lib.hid hK1
      go_wp2_with fail
      exact hK1.out _ _ ⟨by simp [hsz], _, _, _, _, _, _, _, _, _, _, _, _, _, _, _, rfl, hX2, hB2, fun h => f0 (keep_at (by decide) h), fun h => f1 (keep_at (by decide) h), fun h => f2 (keep_at (by decide) h), fun h => f3 (keep_at (by decide) h), fun h => f4 (keep_at (by decide) h), fun h => f5 (keep_at (by decide) h), fun h => f6 (keep_at (by decide) h), fun h => f7 (keep_at (by decide) h), fun h => f8 (keep_at (by decide) h), fun _ => ⟨_, rfl, hW9⟩, fun _ => rfl, fun _ => ⟨_, rfl, hW9⟩, fun h => f12 (keep_at (by decide) h), fun h => f13 (keep_at (by decide) h), fun h => f14 (keep_at (by decide) h), fun h => ⟨getD_set_true (f15 (keep_at (by decide) h)).1, (f15 (keep_at (by decide) h)).2⟩⟩
    · -- operation 12
      injection ho with ho
      subst ho
      have d11 := hall { on := 11, ground := .data } (by simp) rfl
      obtain ⟨B11, rfl, hW11⟩ := f11 d11
      refine wpOp_step rfl ?_
      intro K1 hK1
      have x0 := (hW11.cell c).trans n3
      replace hK1 := Lib.hid hK1
      go_wp2_with fail
      exact hK1.out _ _ ⟨by simp [hsz], _, _, _, _, _, _, _, _, _, _, _, _, _, _, _, rfl, hX2, hB2, fun h => f0 (keep_at (by decide) h), fun h => f1 (keep_at (by decide) h), fun h => f2 (keep_at (by decide) h), fun h => f3 (keep_at (by decide) h), fun h => f4 (keep_at (by decide) h), fun h => f5 (keep_at (by decide) h), fun h => f6 (keep_at (by decide) h), fun h => f7 (keep_at (by decide) h), fun h => f8 (keep_at (by decide) h), fun h => f9 (keep_at (by decide) h), fun h => f10 (keep_at (by decide) h), fun _ => ⟨_, rfl, hW11⟩, fun _ => rfl, fun h => f13 (keep_at (by decide) h), fun h => f14 (keep_at (by decide) h), fun h => ⟨getD_set_true (f15 (keep_at (by decide) h)).1, (f15 (keep_at (by decide) h)).2⟩⟩
    · -- operation 13
      injection ho with ho
      subst ho
      have d0 := hall { on := 0, ground := .data } (by simp) rfl
      have d4 := hall { on := 4, ground := .data } (by simp) rfl
      have d8 := hall { on := 8, ground := .data } (by simp) rfl
      have d12 := hall { on := 12, ground := .data } (by simp) rfl
      obtain rfl := f0 d0
      obtain rfl := f4 d4
      obtain rfl := f8 d8
      obtain rfl := f12 d12
      refine wpOp_step rfl ?_
      intro K1 hK1
      replace hK1 := Lib.hid hK1
      go_wp2_with fail
      exact hK1.out _ _ ⟨by simp [hsz], _, _, _, _, _, _, _, _, _, _, _, _, _, _, _, rfl, hX2, hB2, fun _ => rfl, fun h => f1 (keep_at (by decide) h), fun h => f2 (keep_at (by decide) h), fun h => f3 (keep_at (by decide) h), fun _ => rfl, fun h => f5 (keep_at (by decide) h), fun h => f6 (keep_at (by decide) h), fun h => f7 (keep_at (by decide) h), fun _ => rfl, fun h => f9 (keep_at (by decide) h), fun h => f10 (keep_at (by decide) h), fun h => f11 (keep_at (by decide) h), fun _ => rfl, fun _ => rfl, fun h => f14 (keep_at (by decide) h), fun h => ⟨getD_set_true (f15 (keep_at (by decide) h)).1, (f15 (keep_at (by decide) h)).2⟩⟩
    · -- operation 14
      injection ho with ho
      subst ho
      refine wpOp_step rfl ?_
      intro K1 hK1
      replace hK1 := Lib.hid hK1
      go_wp2_with fail
      exact hK1.out _ _ ⟨by simp [hsz], _, _, _, _, _, _, _, _, _, _, _, _, _, _, _, rfl, hX2.alloc _, hB2.alloc (Nat.le_of_lt hX2.lt) _, fun h => f0 (keep_at (by decide) h), fun h => let ⟨B, h1, h2⟩ := f1 (keep_at (by decide) h); ⟨B, h1, h2.alloc _⟩, fun h => f2 (keep_at (by decide) h), fun h => let ⟨B, h1, h2⟩ := f3 (keep_at (by decide) h); ⟨B, h1, h2.alloc _⟩, fun h => f4 (keep_at (by decide) h), fun h => let ⟨B, h1, h2⟩ := f5 (keep_at (by decide) h); ⟨B, h1, h2.alloc _⟩, fun h => f6 (keep_at (by decide) h), fun h => let ⟨B, h1, h2⟩ := f7 (keep_at (by decide) h); ⟨B, h1, h2.alloc _⟩, fun h => f8 (keep_at (by decide) h), fun h => let ⟨B, h1, h2⟩ := f9 (keep_at (by decide) h); ⟨B, h1, h2.alloc _⟩, fun h => f10 (keep_at (by decide) h), fun h => let ⟨B, h1, h2⟩ := f11 (keep_at (by decide) h); ⟨B, h1, h2.alloc _⟩, fun h => f12 (keep_at (by decide) h), fun h => f13 (keep_at (by decide) h), fun _ => ⟨_, _, _, _, _, _, hX2.lt, rfl, Whole.fresh _ _ _⟩, fun h => absurd (f15 (keep_at (by decide) h)).1 (by rw [not_listed hun]; decide)⟩
    · -- operation 15
      injection ho with ho
      subst ho
      have d14 := hall { on := 14, ground := .data } (by simp) rfl
      have d13 := hall { on := 13, ground := .data } (by simp) rfl
      obtain ⟨B14, v0, v1, v2, v3, v4, hXB, rfl, hW14⟩ := f14 d14
      obtain rfl := f13 d13
      refine wpOp_step rfl ?_
      intro K1 hK1
      have hput := put5 hW14 (.int .u8 c) (.string nm) (.string fm) (.int .i64 1) (.int .i64 cy)
      have y0 := hW14.free 0
      have y1 := hW14.free 1
      have y2 := hW14.free 2
      have y3 := hW14.free 3
      have y4 := hW14.free 4
      have x0 := hW14.cell 0
      have x1 := hW14.cell 1
      have x2 := hW14.cell 2
      have x3 := hW14.cell 3
      have x4 := hW14.cell 4
      simp only [List.getElem?_toArray, List.getElem?_cons_zero, List.getElem?_cons_succ] at x0 x1 x2 x3 x4
      replace hput := Lib.hid hput
      replace hK1 := Lib.hid hK1
      go_wp2_with fail
      replace hput := hput.out
      exact hK1.out _ _ ⟨by simp [hsz], _, _, _, _, _, _, _, _, _, _, _, _, _, _, _, rfl, away5 hX2 (by omega) _ _ _ _ _, ((((hB2.setCell (p := ⟨B14, 0, none⟩) (Nat.le_of_lt hXB) _).setCell (p := ⟨B14, 1, none⟩) (Nat.le_of_lt hXB) _).setCell (p := ⟨B14, 2, none⟩) (Nat.le_of_lt hXB) _).setCell (p := ⟨B14, 3, none⟩) (Nat.le_of_lt hXB) _).setCell (p := ⟨B14, 4, none⟩) (Nat.le_of_lt hXB) _, fun h => f0 (keep_at (by decide) h), fun h => let ⟨B, h1, h2⟩ := f1 (keep_at (by decide) h); ⟨B, h1, away5 h2 (whole_apart h2 hW14 (by decide)) _ _ _ _ _⟩, fun h => f2 (keep_at (by decide) h), fun h => let ⟨B, h1, h2⟩ := f3 (keep_at (by decide) h); ⟨B, h1, away5 h2 (whole_apart h2 hW14 (by decide)) _ _ _ _ _⟩, fun h => f4 (keep_at (by decide) h), fun h => let ⟨B, h1, h2⟩ := f5 (keep_at (by decide) h); ⟨B, h1, away5 h2 (whole_apart h2 hW14 (by decide)) _ _ _ _ _⟩, fun h => f6 (keep_at (by decide) h), fun h => let ⟨B, h1, h2⟩ := f7 (keep_at (by decide) h); ⟨B, h1, away5 h2 (whole_apart h2 hW14 (by decide)) _ _ _ _ _⟩, fun h => f8 (keep_at (by decide) h), fun h => let ⟨B, h1, h2⟩ := f9 (keep_at (by decide) h); ⟨B, h1, away5 h2 (whole_apart h2 hW14 (by decide)) _ _ _ _ _⟩, fun h => f10 (keep_at (by decide) h), fun h => let ⟨B, h1, h2⟩ := f11 (keep_at (by decide) h); ⟨B, h1, away5 h2 (whole_apart h2 hW14 (by decide)) _ _ _ _ _⟩, fun h => f12 (keep_at (by decide) h), fun _ => rfl, fun _ => ⟨_, _, _, _, _, _, hXB, rfl, hput⟩, fun _ => ⟨getD_set_true d14, _, hXB, rfl, hput⟩⟩
end Go.Proofs.YtlogijjgachdjaaDoor
