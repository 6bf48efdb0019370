/-
  What a player knows of its instruction, by the code (genpkn.py writes this text).
-/
import Derived.Test.YtknlbmjncginnaaGreatDoorPMem
import Derived.Deep.RegionHeld3
import Derived.Deep.DeepCutAuto
import Derived.StillTailTactics
namespace Go.Proofs.YtknlbmjncginnaaGreatDoor
open Go.RowKit Go.Shelf
set_option maxRecDepth 100000
set_option maxHeartbeats 4000000
set_option linter.unusedVariables false
set_option linter.unusedSimpArgs false

/-- A player's cells. -/
def plC (r : Rp) (d : Nat) (sv lv : Value) (b : Rp) : Array Value := #[.int .u8 (r.A : Nat), .int .u8 (r.X : Nat), .int .u8 (r.Y : Nat), .int .u8 (r.S : Nat), .int .u8 (r.P : Nat), .int .u16 (r.Pc : Nat), .bool r.H, .int .u8 (d : Nat), sv, lv, .int .u8 (b.A : Nat), .int .u8 (b.X : Nat), .int .u8 (b.Y : Nat), .int .u8 (b.S : Nat), .int .u8 (b.P : Nat), .int .u16 (b.Pc : Nat), .bool b.H]
theorem know_any {w : World} {P : Nat} (r : Rp) (d : Nat) (a : Option Addr) (n c : Nat) (f : Nat → Nat) (lv : Value) (b : Rp) (hr : r.Ok) (hP : Whole w P 104 (plC r d (.slice a n c) lv b)) (hR : Row w a n f) (hnc : n ≤ c) :
    Calls Tryz.prog 65 #[.pointer (some ⟨P, 0, none⟩)] w fun e w' => e = .returned (.tuple #[]) ∧ (crR r (bsN f n)).Ok ∧ ∃ la lc, Whole w' P 104 (plC r d (.slice a n c) (.slice la (crL r (bsN f n)).length lc) (crR r (bsN f n))) ∧ ARow w' la (crL r (bsN f n)) ∧ (crL r (bsN f n)).length ≤ lc ∧ FrL P la w w' := by
  have HR := Lib.hid fun (V : World) (hV : Row V a n f) => course_fun r a n c f V hr hV hnc
  have hmost := crL_most r (bsN_lt (f := f) (n := n) hR.1)
  generalize crL r (bsN f n) = l at *
  generalize crD r (bsN f n) = dA at *
  generalize crR r (bsN f n) = r' at *
  have hmost' := Lib.hid hmost
  have hRR := Lib.hid hR
  clear hmost hR hnc hr
  unfold plC at hP
  obtain ⟨wo, rfl⟩ : ∃ wo, wo = w := ⟨_, rfl⟩
  have H2 : ∀ V, Below wo.heap.size wo V → Calls Tryz.prog 16 #[pegV r, .slice a n c] V fun e V' => ∃ lv, e = .returned (.tuple #[lv, .bool dA, pegV r']) ∧ V'.ownsRow wo.heap.size 42 3 lv l.length (accX l) ∧ Below wo.heap.size wo V' ∧ Below V.heap.size V V' ∧ r'.Ok := fun V hV => by
    refine (HR.out V (hRR.out.below hV)).mono ?_
    rintro e V' ⟨lv, rfl, h1, h2, h3⟩
    exact ⟨lv, rfl, own_mono h2 hV.size, hV.trans (h1.mono hV.size), h1, h3⟩
  have HCell : ∀ V, Below wo.heap.size wo V → V.cell? ⟨P, 0, none⟩ = some (.int .u8 (r.A : Nat)) ∧ V.cell? ⟨P, 1, none⟩ = some (.int .u8 (r.X : Nat)) ∧ V.cell? ⟨P, 2, none⟩ = some (.int .u8 (r.Y : Nat)) ∧ V.cell? ⟨P, 3, none⟩ = some (.int .u8 (r.S : Nat)) ∧ V.cell? ⟨P, 4, none⟩ = some (.int .u8 (r.P : Nat)) ∧ V.cell? ⟨P, 5, none⟩ = some (.int .u16 (r.Pc : Nat)) ∧ V.cell? ⟨P, 6, none⟩ = some (.bool r.H) ∧ V.cell? ⟨P, 8, none⟩ = some (.slice a n c) := fun V hV => by
    have x := hP.below hV hP.lt
    exact ⟨x.cell 0, x.cell 1, x.cell 2, x.cell 3, x.cell 4, x.cell 5, x.cell 6, x.cell 8⟩
  have hB0 : Below wo.heap.size wo wo := Below.refl _ _
  obtain ⟨d0, d1, d2, d3, d4, d5, d6, d8⟩ := HCell wo hB0
  have HSet := Lib.hid fun (V : World) (Z : Nat) (hV : Below wo.heap.size wo V) (hZ : wo.heap.size ≤ Z) => (show (((((((V.setCell ⟨Z, 0, none⟩ (.int .u8 (r'.A : Nat))).setCell ⟨Z, 1, none⟩ (.int .u8 (r'.X : Nat))).setCell ⟨Z, 2, none⟩ (.int .u8 (r'.Y : Nat))).setCell ⟨Z, 3, none⟩ (.int .u8 (r'.S : Nat))).setCell ⟨Z, 4, none⟩ (.int .u8 (r'.P : Nat))).setCell ⟨Z, 5, none⟩ (.int .u16 (r'.Pc : Nat))).setCell ⟨Z, 6, none⟩ (.bool r'.H)).cell? ⟨P, 0, none⟩ = some (.int .u8 (r.A : Nat)) ∧ (((((((V.setCell ⟨Z, 0, none⟩ (.int .u8 (r'.A : Nat))).setCell ⟨Z, 1, none⟩ (.int .u8 (r'.X : Nat))).setCell ⟨Z, 2, none⟩ (.int .u8 (r'.Y : Nat))).setCell ⟨Z, 3, none⟩ (.int .u8 (r'.S : Nat))).setCell ⟨Z, 4, none⟩ (.int .u8 (r'.P : Nat))).setCell ⟨Z, 5, none⟩ (.int .u16 (r'.Pc : Nat))).setCell ⟨Z, 6, none⟩ (.bool r'.H)).cell? ⟨P, 1, none⟩ = some (.int .u8 (r.X : Nat)) ∧ (((((((V.setCell ⟨Z, 0, none⟩ (.int .u8 (r'.A : Nat))).setCell ⟨Z, 1, none⟩ (.int .u8 (r'.X : Nat))).setCell ⟨Z, 2, none⟩ (.int .u8 (r'.Y : Nat))).setCell ⟨Z, 3, none⟩ (.int .u8 (r'.S : Nat))).setCell ⟨Z, 4, none⟩ (.int .u8 (r'.P : Nat))).setCell ⟨Z, 5, none⟩ (.int .u16 (r'.Pc : Nat))).setCell ⟨Z, 6, none⟩ (.bool r'.H)).cell? ⟨P, 2, none⟩ = some (.int .u8 (r.Y : Nat)) ∧ (((((((V.setCell ⟨Z, 0, none⟩ (.int .u8 (r'.A : Nat))).setCell ⟨Z, 1, none⟩ (.int .u8 (r'.X : Nat))).setCell ⟨Z, 2, none⟩ (.int .u8 (r'.Y : Nat))).setCell ⟨Z, 3, none⟩ (.int .u8 (r'.S : Nat))).setCell ⟨Z, 4, none⟩ (.int .u8 (r'.P : Nat))).setCell ⟨Z, 5, none⟩ (.int .u16 (r'.Pc : Nat))).setCell ⟨Z, 6, none⟩ (.bool r'.H)).cell? ⟨P, 3, none⟩ = some (.int .u8 (r.S : Nat)) ∧ (((((((V.setCell ⟨Z, 0, none⟩ (.int .u8 (r'.A : Nat))).setCell ⟨Z, 1, none⟩ (.int .u8 (r'.X : Nat))).setCell ⟨Z, 2, none⟩ (.int .u8 (r'.Y : Nat))).setCell ⟨Z, 3, none⟩ (.int .u8 (r'.S : Nat))).setCell ⟨Z, 4, none⟩ (.int .u8 (r'.P : Nat))).setCell ⟨Z, 5, none⟩ (.int .u16 (r'.Pc : Nat))).setCell ⟨Z, 6, none⟩ (.bool r'.H)).cell? ⟨P, 4, none⟩ = some (.int .u8 (r.P : Nat)) ∧ (((((((V.setCell ⟨Z, 0, none⟩ (.int .u8 (r'.A : Nat))).setCell ⟨Z, 1, none⟩ (.int .u8 (r'.X : Nat))).setCell ⟨Z, 2, none⟩ (.int .u8 (r'.Y : Nat))).setCell ⟨Z, 3, none⟩ (.int .u8 (r'.S : Nat))).setCell ⟨Z, 4, none⟩ (.int .u8 (r'.P : Nat))).setCell ⟨Z, 5, none⟩ (.int .u16 (r'.Pc : Nat))).setCell ⟨Z, 6, none⟩ (.bool r'.H)).cell? ⟨P, 5, none⟩ = some (.int .u16 (r.Pc : Nat)) ∧ (((((((V.setCell ⟨Z, 0, none⟩ (.int .u8 (r'.A : Nat))).setCell ⟨Z, 1, none⟩ (.int .u8 (r'.X : Nat))).setCell ⟨Z, 2, none⟩ (.int .u8 (r'.Y : Nat))).setCell ⟨Z, 3, none⟩ (.int .u8 (r'.S : Nat))).setCell ⟨Z, 4, none⟩ (.int .u8 (r'.P : Nat))).setCell ⟨Z, 5, none⟩ (.int .u16 (r'.Pc : Nat))).setCell ⟨Z, 6, none⟩ (.bool r'.H)).cell? ⟨P, 6, none⟩ = some (.bool r.H) ∧ (((((((V.setCell ⟨Z, 0, none⟩ (.int .u8 (r'.A : Nat))).setCell ⟨Z, 1, none⟩ (.int .u8 (r'.X : Nat))).setCell ⟨Z, 2, none⟩ (.int .u8 (r'.Y : Nat))).setCell ⟨Z, 3, none⟩ (.int .u8 (r'.S : Nat))).setCell ⟨Z, 4, none⟩ (.int .u8 (r'.P : Nat))).setCell ⟨Z, 5, none⟩ (.int .u16 (r'.Pc : Nat))).setCell ⟨Z, 6, none⟩ (.bool r'.H)).cell? ⟨P, 8, none⟩ = some (.slice a n c) from HCell _ (bel_set7 hV hZ r'))
  unfold pegV at H2
  replace H2 := Lib.hid H2
  replace HCell := Lib.hid HCell
  have hB0h := Lib.hid hB0
  replace hP := Lib.hid hP
  clear HR hB0 hRR
  go_enter Tryz.func65, Tryz.ntmps65
  go_upto_region 0 with (fail)
  go_cut [2, 4] (fun s2 s4 V => ∃ (Z : Nat), s4 = .pointer (some ⟨Z, 0, none⟩) ∧ Left wo V s2 l Z r' ∧ r'.Ok)
  case first =>
    go_region_held3 (fun V => V.cell? ⟨P, 0, none⟩ = some (.int .u8 (r.A : Nat)) ∧ V.cell? ⟨P, 1, none⟩ = some (.int .u8 (r.X : Nat)) ∧ V.cell? ⟨P, 2, none⟩ = some (.int .u8 (r.Y : Nat)) ∧ V.cell? ⟨P, 3, none⟩ = some (.int .u8 (r.S : Nat)) ∧ V.cell? ⟨P, 4, none⟩ = some (.int .u8 (r.P : Nat)) ∧ V.cell? ⟨P, 5, none⟩ = some (.int .u16 (r.Pc : Nat)) ∧ V.cell? ⟨P, 6, none⟩ = some (.bool r.H) ∧ V.cell? ⟨P, 8, none⟩ = some (.slice a n c))
      (first | (with_reducible exact HCell.out _ hB2.out) | (with_reducible exact HCell.out _ (bel_alloc hB2.out _)) | (with_reducible exact HCell.out _ (bel_alloc hB0h.out _)) | (with_reducible exact HSet.out _ _ hB2.out (Nat.le_refl _)) | go_keep)
      (first
        | (go_at_call 16; (with_reducible refine (H2.out _ ?_).mono ?_); (repeat' (first | (with_reducible exact hB0h.out) | (with_reducible refine Below.drew ?_) | (with_reducible refine below_drewN ?_ _) | (with_reducible refine bel_alloc ?_ _))); rintro e W6 ⟨lv, rfl, hO6, hB2, hF2, hok⟩; (first | have hz := Lib.hid (wh_after hF2) | have hz := Lib.hid (wh_after2 hF2) | skip); (first | (have f0 := (wh_zero hz.out).1.1; have f1 := (wh_zero hz.out).1.2.1; have f2 := (wh_zero hz.out).1.2.2.1; have f3 := (wh_zero hz.out).1.2.2.2.1; have f4 := (wh_zero hz.out).1.2.2.2.2.1; have f5 := (wh_zero hz.out).1.2.2.2.2.2.1; have f6 := (wh_zero hz.out).1.2.2.2.2.2.2; have y0 := (wh_zero hz.out).2.1; have y1 := (wh_zero hz.out).2.2.1; have y2 := (wh_zero hz.out).2.2.2.1; have y3 := (wh_zero hz.out).2.2.2.2.1; have y4 := (wh_zero hz.out).2.2.2.2.2.1; have y5 := (wh_zero hz.out).2.2.2.2.2.2.1; have y6 := (wh_zero hz.out).2.2.2.2.2.2.2) | skip); replace hB2 := Lib.hid hB2; replace hO6 := Lib.hid hO6; replace hok := Lib.hid hok))
    all_goals
      first
        | (have h := left_set r' hO6.out hB2.out hz.out (Nat.le_refl _)
           unfold set7 at h
           go_wp2_with fail
           go_meet
           first | (with_reducible exact ⟨_, rfl, h, hok.out⟩) | exact ⟨_, rfl, h, hok.out⟩)
        | (have h := left_alloc r' hO6.out hB2.out
           unfold pegC at h
           go_wp2_with fail
           go_meet
           first | (with_reducible exact ⟨_, rfl, h, hok.out⟩) | exact ⟨_, rfl, h, hok.out⟩)
  case rest =>
    obtain ⟨Z, rfl, hL, hok⟩ := hcut
    obtain ⟨a1, c1, rfl, hA, hB7, hZ⟩ := hL
    obtain ⟨hAr, hlc⟩ := hA.out
    have hl0 : l ≠ [] := fun e => by have := hmost'.out.1; rw [e] at this; exact absurd this (by decide)
    obtain ⟨g, rfl⟩ := hAr.some hl0
    have hP7 := hP.out.below hB7 hP.out.lt
    obtain ⟨L, hLL⟩ : ∃ L, l.length = L := ⟨_, rfl⟩
    have hL1 : 1 ≤ L ∧ L ≤ 14 := by rw [← hLL]; exact hmost'.out
    rw [hLL] at hlc ⊢
    have hmk := run_make_acc L (by omega) wc
    have hFr7 : Fr (fun k => k = P) wo wc := Fr.of hB7
    have hGW := Whole.fresh wc 42 (madeCells accZ (L * 3))
    have hP8 := (hP7.alloc (.cells (madeCells accZ (L * 3)) 42)).put 9 (.slice (some ⟨wc.heap.size, 0, none⟩) L L)
    have hneG : wc.heap.size ≠ P := Nat.ne_of_gt hP7.lt
    have hG8 := hGW.away (p := ⟨P, 9, none⟩) hneG (.slice (some ⟨wc.heap.size, 0, none⟩) L L)
    have hFr8 : Fr (fun k => k = P) wo ((wc.alloc (.cells (madeCells accZ (L * 3)) 42)).setCell ⟨P, 9, none⟩ (.slice (some ⟨wc.heap.size, 0, none⟩) L L)) :=
      (hFr7.trans (Fr.of ((Below.refl wc.heap.size wc).alloc (Nat.le_refl _) (.cells (madeCells accZ (L * 3)) 42)))).setCell (p := ⟨P, 9, none⟩) rfl _
    have hA8 : ARow ((wc.alloc (.cells (madeCells accZ (L * 3)) 42)).setCell ⟨P, 9, none⟩ (.slice (some ⟨wc.heap.size, 0, none⟩) L L)) (some ⟨g, 0, none⟩) l :=
      Fr.arow (S := fun k => k = P) ((Fr.refl (fun k => k = P) _).setCell (p := ⟨P, 9, none⟩) rfl _) (hAr.below ((Below.refl wc.heap.size wc).alloc (Nat.le_refl _) _)) (fun x cs hx e => by
        subst e
        exact whole_apart hx (hP7.alloc (.cells (madeCells accZ (L * 3)) 42)) (by decide) rfl)
    have hZ8 := (hZ.alloc (.cells (madeCells accZ (L * 3)) 42)).away (p := ⟨P, 9, none⟩) (whole_apart hZ hP7 (by decide)) (.slice (some ⟨wc.heap.size, 0, none⟩) L L)
    have hP7a := hP7.alloc (.cells (madeCells accZ (L * 3)) 42)
    have c9 := hP7a.cell 9
    have f9 := hP7a.free 9
    clear hP7a
    simp only [List.getElem?_toArray, List.getElem?_cons_zero, List.getElem?_cons_succ] at c9
    simp only [List.setIfInBounds_toArray, List.set_cons_zero, List.set_cons_succ] at hP8
    replace hP8 := Lib.hid hP8
    replace hG8 := Lib.hid hG8
    replace hFr8 := Lib.hid hFr8
    replace hA8 := Lib.hid hA8
    replace hZ8 := Lib.hid hZ8
    replace hneG := Lib.hid hneG
    have hGs := Lib.hid (show wo.heap.size ≤ wc.heap.size from hB7.size)
    clear hA hB7 hZ hAr hP7 hFr7 hGW H2 HCell HSet hB0h hP d0 d1 d2 d3 d4 d5 d6 d8
    go_upto_region 2 with (fail)
    clear hmk c9 f9
    generalize (wc.alloc (.cells (madeCells accZ (L * 3)) 42)).setCell ⟨P, 9, none⟩ (.slice (some ⟨wc.heap.size, 0, none⟩) L L) = W8 at *
    generalize wc.heap.size = G at *
    obtain ⟨W9, hcp, hG9, hFr9⟩ := run_copy_acc W8 3 G g L c1 L l (madeCells accZ (L * 3)) hLL hG8.out (size_madeCells _ _) hA8.out hl0
    have hne := hneG.out
    have hP9 := hFr9.whole hP8.out (fun e => hne e.symm)
    have hGZ : Z ≠ G := fun e => by
      have h1 := hZ8.out
      have h2 := hG8.out
      rw [e] at h1
      exact absurd (h1.symm.trans h2) (by simp)
    have hZ9 := hFr9.whole hZ8.out hGZ
    have hFrE : Fr (fun k => k = P) wo W9 := hFr8.out.trans2 hFr9 (fun x hx e => by
      have := hGs.out
      subst e
      omega)
    have hAR9 : ARow W9 (some ⟨G, 0, none⟩) l := .inr ⟨G, rfl, ⟨_, hG9⟩, fun i hi => by
      obtain ⟨a1, a2, a3⟩ := accX_get l i hi
      rw [hG9.cell, hG9.cell, hG9.cell, List.getElem?_toArray, List.getElem?_toArray, List.getElem?_toArray]
      exact ⟨a1, a2, a3⟩⟩
    have hFrS : Fr (fun k => k = P) W9 ((((((((W9.setCell ⟨P, 10, none⟩ (.int .u8 (r'.A : Nat))).setCell ⟨P, 11, none⟩ (.int .u8 (r'.X : Nat))).setCell ⟨P, 12, none⟩ (.int .u8 (r'.Y : Nat))).setCell ⟨P, 13, none⟩ (.int .u8 (r'.S : Nat))).setCell ⟨P, 14, none⟩ (.int .u8 (r'.P : Nat))).setCell ⟨P, 15, none⟩ (.int .u16 (r'.Pc : Nat))).setCell ⟨P, 16, none⟩ (.bool r'.H))) := ((((((((Fr.refl (fun k => k = P) W9).setCell (p := ⟨P, 10, none⟩) rfl (.int .u8 (r'.A : Nat))).setCell (p := ⟨P, 11, none⟩) rfl (.int .u8 (r'.X : Nat))).setCell (p := ⟨P, 12, none⟩) rfl (.int .u8 (r'.Y : Nat))).setCell (p := ⟨P, 13, none⟩) rfl (.int .u8 (r'.S : Nat))).setCell (p := ⟨P, 14, none⟩) rfl (.int .u8 (r'.P : Nat))).setCell (p := ⟨P, 15, none⟩) rfl (.int .u16 (r'.Pc : Nat))).setCell (p := ⟨P, 16, none⟩) rfl (.bool r'.H))
    have hARE := Fr.arow hFrS hAR9 (fun x cs hx e => by
        subst e
        exact whole_apart hx hP9 (by decide) rfl)
    have hPE := (((((((hP9.put 10 (.int .u8 (r'.A : Nat))).put 11 (.int .u8 (r'.X : Nat))).put 12 (.int .u8 (r'.Y : Nat))).put 13 (.int .u8 (r'.S : Nat))).put 14 (.int .u8 (r'.P : Nat))).put 15 (.int .u16 (r'.Pc : Nat))).put 16 (.bool r'.H))
    simp only [List.setIfInBounds_toArray, List.set_cons_zero, List.set_cons_succ] at hPE
    have hnew : FrL P (some ⟨G, 0, none⟩) wo _ := ⟨hFrE.trans hFrS, fun a e => by cases e; exact hGs.out⟩
    have hfin := Lib.hid (And.intro hPE (And.intro hARE hnew))
    clear hnew
    unfold pegC at hZ9
    have z0 := hZ9.cell 0
    have z1 := hZ9.cell 1
    have z2 := hZ9.cell 2
    have z3 := hZ9.cell 3
    have z4 := hZ9.cell 4
    have z5 := hZ9.cell 5
    have z6 := hZ9.cell 6
    have p9 := hP9.cell 9
    have p10 := hP9.cell 10
    have q10 := hP9.free 10
    have p11 := hP9.cell 11
    have q11 := hP9.free 11
    have p12 := hP9.cell 12
    have q12 := hP9.free 12
    have p13 := hP9.cell 13
    have q13 := hP9.free 13
    have p14 := hP9.cell 14
    have q14 := hP9.free 14
    have p15 := hP9.cell 15
    have q15 := hP9.free 15
    have p16 := hP9.cell 16
    have q16 := hP9.free 16
    simp only [List.getElem?_toArray, List.getElem?_cons_zero, List.getElem?_cons_succ] at z0 z1 z2 z3 z4 z5 z6 p9 p10 p11 p12 p13 p14 p15 p16
    have c9 := (hP8.out).cell 9
    simp only [List.getElem?_toArray, List.getElem?_cons_zero, List.getElem?_cons_succ] at c9
    clear hP8 hG8 hFr8 hA8 hZ8 hneG hGs hne hP9 hGZ hZ9 hFrE hAR9 hFrS hARE hPE hG9 hFr9
    replace hlc := Lib.hid hlc
    go_wp2_with fail
    first | exact ⟨rfl, hok, some ⟨G, 0, none⟩, L, by rw [hLL]; exact hfin.out.1, hfin.out.2.1, by rw [hLL]; exact Nat.le_refl _, hfin.out.2.2⟩ | (go_end0; exact ⟨rfl, hok, some ⟨G, 0, none⟩, L, by rw [hLL]; exact hfin.out.1, hfin.out.2.1, by rw [hLL]; exact Nat.le_refl _, hfin.out.2.2⟩)
end Go.Proofs.YtknlbmjncginnaaGreatDoor
