/-
  NotesSound: the walk.
-/
import Derived.Test.YtlogijjgachdjaaDoorSdF
import Derived.Lib.QuietBelow
import Derived.BigQuiet
namespace Go.Proofs.YtlogijjgachdjaaDoor.notesSound
open Go.RowKit Go.Sort
set_option maxRecDepth 1000000
set_option maxHeartbeats 4000000
set_option linter.unusedVariables false

attribute [local irreducible] fmF nmF szF cyF txL nmL
theorem walk (c : Nat) (a : Option Addr) (n cap : Nat) (f : Nat → Nat) (at_ : Nat) (w : World) (hc : c < 256) (hR : Row w a n f) (hcap : n ≤ cap) (hn : n ≤ 140737488351232) (ha : a = none → cap = 0) (hat : at_ < 65536) :
    Calls Tryd.prog 6 #[.int .u8 c, .slice a n cap, .int .u16 at_] w fun e w' => e = .returned (.bool true) ∧ Below w.heap.size w w' := by
  obtain ⟨k, hk, hkc, e1, e2, e3⟩ := find_own c hc
  have H1 := fun W => of_any c W hc
  have H2 := fun W => find_any (nmF c) (fmF c) W
  have H3 := fun W => of_any k W (by omega)
  rw [hk] at H2
  unfold ntV fdV at *
  rw [if_pos (show k < 256 by omega), decide_eq_true (show k < 256 by omega)] at H2
  rw [e1, e2, e3] at H3
  have hall := fm_all c hc
  obtain ⟨_, _, hy1, hy2, hs2, _, _⟩ := hall
  have hs1 : 1 ≤ szF c := by unfold szF; omega
  have hnm := nm_some c hc
  have hb := tx_begins c at_ (consF c f)
  have HTok : ∀ (G m cp : Nat) (W : World), Row W (some ⟨G, 0, none⟩) m (consF c f) → m ≤ cp → 1 ≤ m → szF c ≤ m → Calls Tryd.prog 16 #[.slice (some ⟨G, 0, none⟩) m cp, .int .u16 at_] W fun e w' => e = .returned (.tuple #[.string (bsOf (txL c at_ (consF c f))), .int .i64 (szF c : Nat), .int .i64 0]) ∧ Below W.heap.size W w' := by
    intro G m cp W hr hm h1 hs
    have h := text_any (some ⟨G, 0, none⟩) m cp at_ (consF c f) W hr hm hat
    rw [show okN m (consF c f) = true by unfold okN; rw [decide_eq_true h1, show consF c f 0 = c from rfl, decide_eq_true hs]; rfl] at h
    exact h
  have HTno : ∀ (G m cp : Nat) (W : World), Row W (some ⟨G, 0, none⟩) m (consF c f) → m ≤ cp → ¬ szF c ≤ m → Calls Tryd.prog 16 #[.slice (some ⟨G, 0, none⟩) m cp, .int .u16 at_] W fun e w' => e = .returned (.tuple #[.string ⟨#[]⟩, .int .i64 0, .int .i64 5]) ∧ Below W.heap.size W w' := by
    intro G m cp W hr hm hs
    have h := text_any (some ⟨G, 0, none⟩) m cp at_ (consF c f) W hr hm hat
    rw [show okN m (consF c f) = false by unfold okN; rw [show consF c f 0 = c from rfl, decide_eq_false hs, Bool.and_false]] at h
    exact h
  have hapd := fun (B : Nat) (W : World) (hX : Whole W B 5 #[.int .u8 c]) (hR : Row W a n f) (ty : TypeId) => all_append c n cap B f a ty W hc hX hR ha hcap hn
  clear hk e1 e2 e3 ha
  generalize bsOf (txL c at_ (consF c f)) = T at *
  generalize nmF c = nm at *
  generalize fmF c = fm at *
  generalize szF c = sz at *
  generalize cyF c = cy at *
  generalize cyF k = cyk at *
  obtain ⟨hb1, hb2⟩ := hb
  have t1 : (nm.toList == []) = false := by
    rw [toList_data, beq_eq_false_iff_ne]
    intro e
    apply hnm
    rw [ByteArray.size]
    rw [← Array.length_toList, e]
    rfl
  have t2 : nm.toList.isEmpty = false := by
    rw [toList_data]
    cases h : nm.data.toList with
    | nil => exact absurd (by rw [ByteArray.size, ← Array.length_toList, h]; rfl) hnm
    | cons x l => rfl
  replace H1 := Lib.hid H1
  replace H2 := Lib.hid H2
  replace H3 := Lib.hid H3
  replace HTok := Lib.hid HTok
  replace HTno := Lib.hid HTno
  replace hapd := Lib.hid hapd
  replace hb1 := Lib.hid hb1
  go_enter Tryd.func6, Tryd.ntmps6
  go_wp2_with fail
  with_reducible refine (H1.out _).mono ?_
  rintro e W1 ⟨rfl, hB1⟩
  have hX := Whole.fresh W1 25 #[.int .u8 c, .string nm, .string fm, .int .i64 sz, .int .i64 cy]
  have hB := hB1.alloc hB1.size (.cells #[.int .u8 c, .string nm, .string fm, .int .i64 sz, .int .i64 cy] 25)
  clear hB1
  go_upto_region 2 with (fail)
  generalize W1.alloc (.cells #[.int .u8 c, .string nm, .string fm, .int .i64 sz, .int .i64 cy] 25) = W2 at *
  have x0 := hX.cell 0
  have x1 := hX.cell 1
  have x2 := hX.cell 2
  have x3 := hX.cell 3
  have x4 := hX.cell 4
  simp only [List.getElem?_toArray, List.getElem?_cons_zero, List.getElem?_cons_succ] at x0 x1 x2 x3 x4
  go_wp2_with fail
  with_reducible refine (H2.out _).mono ?_
  rintro e W3 ⟨rfl, hB3⟩
  have hX3 := hX.below hB3 hX.lt
  have hBb := hB.trans (hB3.mono hB.size)
  have hl3 := hX3.lt
  clear hX hB hB3 x0 x1 x2 x3 x4
  go_wp2_with fail
  with_reducible refine (H3.out _).mono ?_
  rintro e W4 ⟨rfl, hB4⟩
  have hX4 := (hX3.below hB4 hX3.lt).alloc (.cells #[.int .u8 k, .string nm, .string fm, .int .i64 sz, .int .i64 cyk] 25)
  have hY := Whole.fresh W4 25 #[.int .u8 k, .string nm, .string fm, .int .i64 sz, .int .i64 cyk]
  have hB5 := (hBb.trans (hB4.mono hBb.size)).alloc (Nat.le_trans hBb.size hB4.size) (.cells #[.int .u8 k, .string nm, .string fm, .int .i64 sz, .int .i64 cyk] 25)
  have hXY : W1.heap.size ≠ W4.heap.size := by have := hB4.size; omega
  have hl4 := hX4.lt
  clear hX3 hBb hB4
  go_upto_region 6 with (fail)
  generalize W4.alloc (.cells #[.int .u8 k, .string nm, .string fm, .int .i64 sz, .int .i64 cyk] 25) = W5 at *
  have x0 := hX4.cell 0
  have x1 := hX4.cell 1
  have x2 := hX4.cell 2
  have x3 := hX4.cell 3
  have x4 := hX4.cell 4
  simp only [List.getElem?_toArray, List.getElem?_cons_zero, List.getElem?_cons_succ] at x0 x1 x2 x3 x4
  have y0 := hY.cell 0
  have y1 := hY.cell 1
  have y2 := hY.cell 2
  have y3 := hY.cell 3
  have y4 := hY.cell 4
  simp only [List.getElem?_toArray, List.getElem?_cons_zero, List.getElem?_cons_succ] at y0 y1 y2 y3 y4
  have hkc2 : decide ((k : Int) > (c : Int)) = false := decide_eq_false (by omega)
  have hkc3 : decide ((c : Int) < (k : Int)) = false := decide_eq_false (by omega)
  go_upto_region 8 with (fail)
  have hX6 := hX4.alloc (.cells #[.int .u8 c] 5)
  have hZ := Whole.fresh W5 5 #[.int .u8 c]
  have hB6 := hB5.alloc hB5.size (.cells #[.int .u8 c] 5)
  have hR6 := hR.below (hB6.mono (Nat.le_refl _))
  have hBs := hB5.size
  clear hX4 hY hB5 x0 x1 x2 x3 x4 y0 y1 y2 y3 y4
  go_upto_region 9 with (fail)
  generalize W5.alloc (.cells #[.int .u8 c] 5) = W6 at *
  obtain ⟨v', W7, hrun, G, cp, rfl, hcp, hRw, hB7⟩ := hapd.out W5.heap.size W6 hZ hR6 33
  have hX7 := hX6.below hB7 hl4
  have hBg := hB6.trans (hB7.mono hBs)
  go_wp2_with (at_builtin; revert hrun)
  intro hrun
  refine wpList_append_ran (by rfl) _ _ 33 (by rfl) (.slice (some ⟨W5.heap.size, 0, none⟩) 1 1) (.slice a n cap) (.slice (some ⟨G, 0, none⟩) (1 + n) cp) W7 (by rfl) (by rfl) (by exact hrun) ?_
  clear hrun hapd hX6 hZ hR6 hB6 hB7
  by_cases hso : sz ≤ 1 + n
  · have t5 : decide ((1 : Int) + (n : Int) < (sz : Int)) = false := decide_eq_false (by omega)
    have t6 : decide ((T.size : Int) < (nm.size : Int)) = false := decide_eq_false (by omega)
    have t8 : decide (T.size < nm.size) = false := decide_eq_false (by omega)
    have t7 : decide ((sz : Int) ≤ (cp : Int)) = true := decide_eq_true (by omega)
    go_wp2_with fail
    refine (HTok.out G (1 + n) cp _ hRw hcp (by omega) hso).mono ?_
    rintro e W8 ⟨rfl, hB8⟩
    have hX8 := hX7.below hB8 hX7.lt
    have hB9 := hBg.trans (hB8.mono hBg.size)
    have hR8 : Row W8 (some ⟨G, 0, none⟩) sz (consF c f) := by
      have h := hRw.below hB8
      refine ⟨fun i hi => h.1 i (by omega), ?_⟩
      rcases h.2 with h0 | ⟨b, o, e, hl, hcl⟩
      · omega
      · exact .inr ⟨b, o, e, hl, fun i hi => hcl i (by omega)⟩
    clear hX7 hBg hB8 hRw HTno H1 H2 H3
    have x1 := hX8.cell 1
    have x3 := hX8.cell 3
    simp only [List.getElem?_toArray, List.getElem?_cons_zero, List.getElem?_cons_succ] at x1 x3
    go_upto_region 13 with (fail)
    refine wp_region_quiet_below (by kernel_rfl) (by kernel_rfl) ?_
    have z1 := cell_regrown x1
    have z3 := cell_regrown x3
    have hex := hb1.out
    repeat (go_big_quiet_step (fail))
    refine wpQuiet_nil ?_
    intro _ hw'
    obtain ⟨⟨dq, osq⟩, hw''⟩ := hw'
    subst hw''
    have hbl := below_regrown W8 dq osq
    have hX9 := hX8.below hbl hX8.lt
    have hBa := hB9.trans (hbl.mono hB9.size)
    have hR9 := hR8.below hbl
    generalize Go.«Sort».grow (redrawn W8 dq) osq = V1 at *
    clear z1 z3 x1 x3 hX8 hB9 hR8 hbl
    have x3 := hX9.cell 3
    simp only [List.getElem?_toArray, List.getElem?_cons_zero, List.getElem?_cons_succ] at x3
    go_wp2_with fail
    refine (HTok.out G sz cp _ hR9 (by omega) hs1 (Nat.le_refl _)).mono ?_
    rintro e W9 ⟨rfl, hB10⟩
    go_wp2_with fail
    go_ret
    exact ⟨rfl, hBa.trans (hB10.mono hBa.size)⟩
  · have t5 : decide ((1 : Int) + (n : Int) < (sz : Int)) = true := decide_eq_true (by omega)
    go_wp2_with fail
    refine (HTno.out G (1 + n) cp _ hRw hcp hso).mono ?_
    rintro e W8 ⟨rfl, hB8⟩
    have hX8 := hX7.below hB8 hX7.lt
    have hB9 := hBg.trans (hB8.mono hBg.size)
    clear hX7 hBg hB8 hRw HTok H1 H2 H3
    have x3 := hX8.cell 3
    simp only [List.getElem?_toArray, List.getElem?_cons_zero, List.getElem?_cons_succ] at x3
    go_wp2_with fail
    go_ret
    exact ⟨rfl, hB9⟩
end Go.Proofs.YtlogijjgachdjaaDoor.notesSound
