/-
  Where the operands' bytes lie, by the document.
-/
import Derived.Test.YtlogijjgachdjaaDoorNum
import Derived.Laws.MakeOwn
namespace Go.Proofs.YtlogijjgachdjaaDoor
open Go.RowKit
set_option maxRecDepth 100000
set_option maxHeartbeats 4000000
set_option linter.unusedVariables false

/-- Integers: block g holds n of them, the i-th is f i. -/
def Ints (w : World) (g n : Nat) (f : Nat → Nat) : Prop := ∃ cs : Array Value, Whole w g 3 cs ∧ cs.size = n ∧ ∀ i, i < n → cs[i]? = some (.int .i64 (f i : Nat))
theorem Ints.cell {w : World} {g n : Nat} {f : Nat → Nat} (h : Ints w g n f) (i : Nat) (hi : i < n) : w.cell? ⟨g, i, none⟩ = some (.int .i64 (f i : Nat)) := by
  obtain ⟨cs, h, _, hc⟩ := h
  rw [h.cell, hc i hi]
theorem Ints.free {w : World} {g n : Nat} {f : Nat → Nat} (h : Ints w g n f) (i : Nat) : w.frozen? ⟨g, i, none⟩ = false := let ⟨_, h, _⟩ := h; h.free i
theorem Ints.lt {w : World} {g n : Nat} {f : Nat → Nat} (h : Ints w g n f) : g < w.heap.size := let ⟨_, h, _⟩ := h; h.lt
theorem Ints.below {w w' : World} {B g n : Nat} {f : Nat → Nat} (h : Ints w g n f) (hb : Below B w w') (hg : g < B) : Ints w' g n f := let ⟨cs, h, r⟩ := h; ⟨cs, h.below hb hg, r⟩
theorem Ints.congr {w : World} {g n : Nat} {f f' : Nat → Nat} (h : Ints w g n f) (e : ∀ i, i < n → f i = f' i) : Ints w g n f' :=
  let ⟨cs, h, hs, hc⟩ := h; ⟨cs, h, hs, fun i hi => e i hi ▸ hc i hi⟩
theorem Ints.put {w : World} {g n : Nat} {f : Nat → Nat} (h : Ints w g n f) (i x : Nat) : Ints (w.setCell ⟨g, i, none⟩ (.int .i64 (x : Nat))) g n (upd f i x) := by
  obtain ⟨cs, h, hs, hc⟩ := h
  refine ⟨_, h.put i _, by simpa using hs, fun j hj => ?_⟩
  unfold upd
  by_cases e : j = i
  · subst e
    rw [if_pos rfl, Array.getElem?_setIfInBounds_self, if_pos (by omega)]
  · rw [if_neg e, Array.getElem?_setIfInBounds_ne (by omega)]
    exact hc j hj
theorem ints_made {w : World} {g n : Nat} (h : Whole w g 3 (madeCells #[Value.int .i64 0] n)) : Ints w g n (fun _ => 0) :=
  ⟨_, h, by simp [madeCells], fun i hi => by simp [madeCells, hi, Nat.mod_one]⟩
theorem byL_drop (l : List Nat) (k : Nat) (hk : k < l.length) : byL (l.drop k) = byL (l.drop (k + 1)) + wdF (l.getD k 0) := by
  unfold byL
  rw [List.drop_eq_getElem_cons hk, List.map_cons, List.sum_cons, List.getD_eq_getElem?_getD, List.getElem?_eq_getElem hk, Nat.add_comm]
  rfl
theorem lfm_len (c : Nat) : (fmF c).size = (fmL c).length := bsOf_size _
theorem lfm_byte (c k : Nat) (hc : c < 256) (h : k < (fmF c).size) : (fmF c)[k].toNat = (fmL c).getD k 0 ∧ (fmL c).getD k 0 < 128 := by
  have hl := lfm_len c
  have h2 : (fmL c).getD k 0 < 128 := by rw [List.getD_eq_getElem?_getD, List.getElem?_eq_getElem (by omega)]; exact (fm_all c hc).1 _ (List.getElem_mem _)
  exact ⟨bsOf_byte (fmL c) k h (by omega), h2⟩
theorem plF_yes (l : List Nat) (i : Nat) (h : hasR l = true) : plF l i = 1 + byL (l.take i) := by unfold plF; rw [if_pos h]
theorem plF_no (l : List Nat) (i : Nat) (h : hasR l = false) : plF l i = 1 + byL (l.drop (i + 1)) := by unfold plF; rw [if_neg (by rw [h]; decide)]
attribute [local irreducible] byL wdF plF hasR
theorem places_any (c : Nat) (w : World) (hc : c < 256) : Calls Tryd.prog 27 #[.string (fmF c)] w fun e w' => ∃ g, e = .returned (.slice (some ⟨g, 0, none⟩) (fmL c).length (fmL c).length) ∧ Ints w' g (fmL c).length (plF (fmL c)) ∧ Below w.heap.size w w' := by
  have HI := fun W => in_any (fmL c) 114 W (fun x hx => Nat.lt_trans ((fm_all c hc).1 x hx) (by decide)) (by have := fmL_le c hc; omega) (by decide)
  rw [show bsOf (fmL c) = fmF c from rfl, show inF (fmL c) 114 = hasR (fmL c) by unfold inF hasR; rfl] at HI
  have hL2 := fmL_le c hc
  have hSz := lfm_len c
  have hSb := fun k h => lfm_byte c k hc h
  have HW := fun k (hk : k < (fmF c).size) W => rwidth_any ((fmL c).getD k 0) W (by have := (hSb k hk).2; omega)
  have hbs := byL_succ (fmL c)
  have hbd := byL_drop (fmL c)
  have hpy := plF_yes (fmL c)
  have hpn := plF_no (fmL c)
  have hle := fun k => byL_le ((fmL c).take k)
  have hle2 := fun k => byL_le ((fmL c).drop k)
  have hmk := fun W => run_make_row' (P := Tryd.prog) 48 3 (.int .i64 0) 8 Tryd.underlying48 (by kernel_rfl) rfl .i64 .i64 (fmL c).length (by omega) (by omega) W
  have hZ := ints_made (Whole.fresh w 3 (madeCells #[Value.int .i64 0] (fmL c).length))
  have hB := (Below.refl w.heap.size w).alloc (Nat.le_refl _) (.cells (madeCells #[Value.int .i64 0] (fmL c).length) 3)
  generalize fmF c = S at *
  replace HI := Lib.hid HI
  replace HW := Lib.hid HW
  replace hSb := Lib.hid hSb
  replace hbs := Lib.hid hbs
  replace hbd := Lib.hid hbd
  replace hpy := Lib.hid hpy
  replace hpn := Lib.hid hpn
  replace hle := Lib.hid hle
  replace hle2 := Lib.hid hle2
  generalize hl : fmL c = l at *
  replace hl := Lib.hid hl
  generalize hLL : l.length = L at *
  replace hLL := Lib.hid hLL
  go_enter Tryd.func27, Tryd.ntmps27
  go_wp2_with fail
  refine (HI.out _).mono ?_
  rintro e W1 ⟨rfl, rfl⟩
  generalize w.alloc (.cells (madeCells #[Value.int .i64 0] L) 3) = W0 at *
  generalize hXe : w.heap.size = X at *
  cases hr : hasR l with
  | true =>
    replace hr := Lib.hid hr
    go_wp2_with fail
    go_loopw [4, 5] (fun s4 s5 wr => ∃ k : Nat, k ≤ L ∧ s5 = .int .i64 k ∧ s4 = .int .i64 ((1 + byL (l.take k) : Nat) : Int) ∧ Ints wr X L (fun j => if j < k then plF l j else 0) ∧ Below X w wr) (fun _ s5 _ => L - (intOf s5).toNat)
    case atStart => exact ⟨0, by omega, rfl, by rw [List.take_zero, show byL [] = 0 by unfold byL; rfl]; rfl, hZ.congr (fun i hi => by rw [if_neg (by omega)]), hB⟩
    case round =>
      obtain ⟨k, hk, rfl, rfl, hI, hB1⟩ := hrel
      clear hZ hB hmk
      by_cases hlt : k < L
      · have hp := hpy.out k hr.out
        have hb1 := hbs.out k (by have := hLL.out; omega)
        have hkS : k < S.size := by omega
        obtain ⟨h1, h128⟩ := hSb.out k hkS
        have HWk := Lib.hid (HW.out k hkS)
        have hy := wdF_le (l.getD k 0)
        have hbk := hle.out k
        have hbk2 : (l.take k).length ≤ 2 := by rw [List.length_take]; have := hLL.out; omega
        have ht : decide ((k : Int) < (L : Int)) = true := decide_eq_true (by omega)
        generalize l.getD k 0 = x at *
        generalize wdF x = y at *
        have hm' : 1 + byL (l.take (k + 1)) = (1 + byL (l.take k)) + y := by omega
        have hm5 : 1 + byL (l.take k) ≤ 5 := by omega
        clear hb1 hbk
        generalize 1 + byL (l.take k) = m at *
        generalize hq : 1 + byL (l.take (k + 1)) = m' at *
        replace hq := Lib.hid hq
        have f0 := hI.free k
        have c0 := hI.cell k hlt
        have hput := hI.put k m
        have hI2 : ∀ W, Ints W X L (upd (fun j => if j < k then plF l j else 0) k m) → Ints W X L (fun j => if j < k + 1 then plF l j else 0) := by
          intro W h
          refine h.congr (fun j hj => ?_)
          unfold upd
          by_cases e : j = k
          · subst e; rw [if_pos rfl, if_pos (by omega), hp]
          · rw [if_neg e]
            show (if j < k then plF l j else 0) = _
            by_cases e2 : j < k
            · rw [if_pos e2, if_pos (by omega)]
            · rw [if_neg e2, if_neg (by omega)]
        have hI3 := Lib.hid (hI2 _ hput)
        have hB3 := Lib.hid (hB1.setCell (p := ⟨X, k, none⟩) (Nat.le_refl _) (.int .i64 (m : Nat)))
        clear hI hput hI2 hB1 hp
        simp only [if_neg (Nat.lt_irrefl k)] at c0
        go_wp2_with fail
        refine (HWk.out _).mono ?_
        rintro e W2 ⟨rfl, rfl⟩
        go_wp2_with fail
        go_roundw
        case rel => exact ⟨k + 1, by omega, by go_num, by rw [hq.out]; subst hm'; go_num, hI3.out, hB3.out⟩
        case measure => simp [intOf]; omega
      · obtain rfl : k = L := by omega
        go_wp2_with fail
        go_ret
        exact ⟨_, rfl, hI.congr (fun i hi => by rw [if_pos hi]), by rw [hXe]; exact hB1⟩
  | false =>
    replace hr := Lib.hid hr
    go_wp2_with fail
    go_loopw [4, 6] (fun s4 s6 wr => ∃ k : Nat, k ≤ L ∧ s6 = .int .i64 ((k : Int) - 1) ∧ s4 = .int .i64 ((1 + byL (l.drop k) : Nat) : Int) ∧ Ints wr X L (fun j => if k ≤ j then plF l j else 0) ∧ Below X w wr) (fun _ s6 _ => (intOf s6 + 1).toNat)
    case atStart => exact ⟨L, by omega, rfl, by rw [← hLL.out, List.drop_length, show byL [] = 0 by unfold byL; rfl]; rfl, hZ.congr (fun i hi => by rw [if_neg (by omega)]), hB⟩
    case round =>
      obtain ⟨k1, hk, rfl, rfl, hI, hB1⟩ := hrel
      clear hZ hB hmk
      by_cases hlt : k1 = 0
      · subst hlt
        go_wp2_with fail
        go_ret
        exact ⟨_, rfl, hI.congr (fun i hi => by rw [if_pos (by omega)]), by rw [hXe]; exact hB1⟩
      · obtain ⟨k, rfl⟩ : ∃ k, k1 = k + 1 := ⟨k1 - 1, by omega⟩
        have hp := hpn.out k hr.out
        have hb1 := hbd.out k (by have := hLL.out; omega)
        have hkS : k < S.size := by omega
        obtain ⟨h1, h128⟩ := hSb.out k hkS
        have HWk := Lib.hid (HW.out k hkS)
        have hy := wdF_le (l.getD k 0)
        have hbk := hle2.out (k + 1)
        have hbk2 : (l.drop (k + 1)).length ≤ 2 := by rw [List.length_drop]; have := hLL.out; omega
        have hki : ((k + 1 : Nat) : Int) - 1 = (k : Int) := by omega
        rw [hki]
        generalize l.getD k 0 = x at *
        generalize wdF x = y at *
        have hm' : 1 + byL (l.drop k) = (1 + byL (l.drop (k + 1))) + y := by omega
        have hm5 : 1 + byL (l.drop (k + 1)) ≤ 5 := by omega
        clear hb1 hbk
        generalize 1 + byL (l.drop (k + 1)) = m at *
        generalize hq : 1 + byL (l.drop k) = m' at *
        replace hq := Lib.hid hq
        have f0 := hI.free k
        have c0 := hI.cell k (by omega)
        have hput := hI.put k m
        have hI2 : ∀ W, Ints W X L (upd (fun j => if k + 1 ≤ j then plF l j else 0) k m) → Ints W X L (fun j => if k ≤ j then plF l j else 0) := by
          intro W h
          refine h.congr (fun j hj => ?_)
          unfold upd
          by_cases e : j = k
          · subst e; rw [if_pos rfl, if_pos (by omega), hp]
          · rw [if_neg e]
            show (if k + 1 ≤ j then plF l j else 0) = _
            by_cases e2 : k + 1 ≤ j
            · rw [if_pos e2, if_pos (by omega)]
            · rw [if_neg e2, if_neg (by omega)]
        have hI3 := Lib.hid (hI2 _ hput)
        have hB3 := Lib.hid (hB1.setCell (p := ⟨X, k, none⟩) (Nat.le_refl _) (.int .i64 (m : Nat)))
        have hkL : k < L := by omega
        clear hI hput hI2 hB1 hp
        simp only [if_neg (show ¬ k + 1 ≤ k by omega)] at c0
        go_wp2_with fail
        refine (HWk.out _).mono ?_
        rintro e W2 ⟨rfl, rfl⟩
        go_wp2_with fail
        go_roundw
        case rel => exact ⟨k, by omega, by go_num, by rw [hq.out]; subst hm'; go_num, hI3.out, hB3.out⟩
        case measure => simp [intOf] <;> omega
end Go.Proofs.YtlogijjgachdjaaDoor
