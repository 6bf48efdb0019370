/-
  MicroNil: the law's walk.
-/
import Derived.Test.YtnacdaodjgdnnaaGreatMNil
namespace Go.Proofs.YtnacdaodjgdnnaaGreat
open Go.RowKit Go.Shelf
set_option maxRecDepth 100000
set_option maxHeartbeats 1000000
set_option linter.unusedVariables false

namespace microNil
theorem walk (v : Nat) (w : World) (hv : v < 256) : Calls Tryz.prog 14 #[.int .u8 (v : Nat)] w fun e w' => e = .returned (.bool true) ∧ Below w.heap.size w w' := by
  have H1 := Lib.hid fun W => mreset_nil W
  have H2 := Lib.hid fun W => mnmi_nil W
  have H3 := Lib.hid fun W => mirq_nil true W
  have H4 := Lib.hid fun W => mstep_nil v W
  have H5 := Lib.hid fun W => mstage_nil W
  have H6 := Lib.hid fun (W : World) => newWriter W.heap.size W W (Below.refl _ _) (Nat.le_refl _)
  have H7 := Lib.hid fun p W => msave_nil p W
  have H8 := Lib.hid fun W => mnext_nil W
  have H9 := Lib.hid fun W => mregs_nil W
  have H10 := Lib.hid fun p W => mload_nil p W
  have H11 := Lib.hid fun W => awake9 W
  go_enter Tryz.func14, Tryz.ntmps14
  go_wp2_with fail
  refine (H1.out _).mono ?_
  rintro e W ⟨rfl, rfl⟩
  go_wp2_with fail
  refine (H2.out _).mono ?_
  rintro e W ⟨rfl, rfl⟩
  go_wp2_with fail
  refine (H3.out _).mono ?_
  rintro e W ⟨rfl, rfl⟩
  go_wp2_with fail
  refine (H4.out _).mono ?_
  rintro e W ⟨rfl, rfl⟩
  go_wp2_with fail
  refine (H5.out _).mono ?_
  rintro e W3 ⟨rfl, hb3⟩
  have hT := Whole.fresh W3 91 #[.int .u8 0, .int .u8 0, .int .i64 0, .slice none 0 0]
  have hbT := (((((hb3).alloc hb3.size (.cells #[.int .u8 0, .int .u8 0, .int .i64 0, .slice none 0 0] 91)).setCell (p := ⟨W3.heap.size, 0, none⟩) hb3.size (.int .u8 0)).setCell (p := ⟨W3.heap.size, 1, none⟩) hb3.size (.int .u8 0)).setCell (p := ⟨W3.heap.size, 2, none⟩) hb3.size (.int .i64 0)).setCell (p := ⟨W3.heap.size, 3, none⟩) hb3.size (.slice none 0 0)
  have hT5 := (((hT.put 0 (.int .u8 0)).put 1 (.int .u8 0)).put 2 (.int .i64 0)).put 3 (.slice none 0 0)
  simp only [List.setIfInBounds_toArray, List.set_cons_zero, List.set_cons_succ] at hT5
  have t0 := hT.cell 0
  have f0 := hT.free 0
  have t1 := hT.cell 1
  have f1 := hT.free 1
  have t2 := hT.cell 2
  have f2 := hT.free 2
  have t3 := hT.cell 3
  have f3 := hT.free 3
  simp only [List.getElem?_toArray, List.getElem?_cons_zero, List.getElem?_cons_succ] at t0 t1 t2 t3
  replace hbT := Lib.hid hbT
  replace hT5 := Lib.hid hT5
  clear H1 H2 H3 H4 H5 hT hb3
  obtain ⟨V, hV⟩ : ∃ V, W3.alloc (.cells #[.int .u8 0, .int .u8 0, .int .i64 0, .slice none 0 0] 91) = V := ⟨_, rfl⟩
  rw [hV] at t0 t1 t2 t3 f0 f1 f2 f3 hbT hT5
  obtain ⟨T, hTe⟩ : ∃ T, W3.heap.size = T := ⟨_, rfl⟩
  rw [hTe] at t0 t1 t2 t3 f0 f1 f2 f3 hbT hT5
  go_upto_region 7 with (fail)
  generalize (((V.setCell ⟨T, 0, none⟩ (.int .u8 0)).setCell ⟨T, 1, none⟩ (.int .u8 0)).setCell ⟨T, 2, none⟩ (.int .i64 0)).setCell ⟨T, 3, none⟩ (.slice none 0 0) = W4 at *
  clear t0 t1 t2 t3 f0 f1 f2 f3 hV hTe
  have H6b := Lib.hid (H6.out W4)
  clear H6
  go_wp2_with fail
  refine H6b.out.mono ?_
  rintro e W5 ⟨b, rfl, hL⟩
  have hb5 := hL.bel
  have HD := wdone_ok W5 hL.wr (show St.new.doneE = 0 from rfl)
  rw [show St.new.n = 0 from rfl, Nat.add_zero] at HD
  replace HD := Lib.hid HD
  clear H6b hL
  go_wp2_with fail
  refine (H7.out _ _).mono ?_
  rintro e W ⟨rfl, rfl⟩
  clear H7
  go_wp2_with fail
  refine HD.out.mono ?_
  rintro e W6 ⟨G, rfl, hG, hGl, hb6⟩
  have HN := newReader_ok (c := 13) W6 hG.row (by decide) (by decide) (head_ok (m := 0) St.new.f (by decide))
  have hb46 := hb5.trans (hb6.mono hb5.size)
  replace HN := Lib.hid HN
  clear HD hG hGl hb6 hb5
  go_wp2_with fail
  refine HN.out.mono ?_
  rintro e W7 ⟨R, v7, rfl, hRd, hOw, hfr, hRl, hb7⟩
  have hb47 := hb46.trans (hb7.mono hb46.size)
  have hR7 : Rd W7 R v7 ⟨0, shiftF 13 (headF 0 St.new.f), 0, 0, fun _ => 0⟩ := ⟨⟨_, hRd, rfl, rfl, rfl, fun i hi => by
    rcases (show i = 0 ∨ i = 1 ∨ i = 2 ∨ i = 3 ∨ i = 4 ∨ i = 5 ∨ i = 6 ∨ i = 7 ∨ i = 8 ∨ i = 9 ∨ i = 10 ∨ i = 11 ∨ i = 12 ∨ i = 13 ∨ i = 14 ∨ i = 15 by omega) with rfl | rfl | rfl | rfl | rfl | rfl | rfl | rfl | rfl | rfl | rfl | rfl | rfl | rfl | rfl | rfl <;> rfl, rfl⟩, hOw, fun h => (hfr R h).2 rfl⟩
  replace hR7 := Lib.hid hR7
  replace hb47 := Lib.hid hb47
  clear HN hRd hOw hfr hRl hb7 hb46
  go_wp2_with fail
  refine (H8.out _).mono ?_
  rintro e W8 ⟨rfl, hb8⟩
  have hR8 := Lib.hid (hR7.out.below hb8)
  have hb48 := Lib.hid (hb47.out.trans (hb8.mono hb47.out.size))
  clear H8 hR7 hb47 hb8
  go_wp2_with fail
  refine (H9.out _).mono ?_
  rintro e W9 ⟨rfl, hb9⟩
  have hR9 := Lib.hid (hR8.out.below hb9)
  have hb49 := hb48.out.trans (hb9.mono hb48.out.size)
  have hT9 := hT5.out.below hb49 hT5.out.lt
  have t0 := hT9.cell 0
  have t2 := hT9.cell 2
  have t3 := hT9.cell 3
  simp only [List.getElem?_toArray, List.getElem?_cons_zero, List.getElem?_cons_succ] at t0 t2 t3
  replace hb49 := Lib.hid hb49
  have HLf := Lib.hid (rleft_new W9 R v7 0 _ hR9.out (by decide))
  clear H9 hR8 hb48 hb9 hT9 hT5 hR9
  go_wp2_with fail
  refine HLf.out.mono ?_
  rintro e W10 ⟨rfl, hb10⟩
  have hb410 := Lib.hid (hb49.out.trans (hb10.mono hb49.out.size))
  clear HLf hb49 hb10 t0 t2 t3
  go_wp2_with fail
  refine (H10.out _ _).mono ?_
  rintro e W ⟨rfl, rfl⟩
  go_wp2_with fail
  refine (H11.out _).mono ?_
  rintro e W11 ⟨rfl, hb11⟩
  have hb411 := hb410.out.trans (hb11.mono hb410.out.size)
  have hbf := Lib.hid (hbT.out.trans (hb411.mono hbT.out.size))
  clear H10 H11 hb410 hb11 hb411
  go_wp2_with fail
  go_ret
  exact ⟨rfl, hbf.out⟩
end microNil
end Go.Proofs.YtnacdaodjgdnnaaGreat
