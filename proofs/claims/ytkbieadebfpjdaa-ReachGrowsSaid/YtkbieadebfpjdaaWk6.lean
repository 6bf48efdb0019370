/-
  A walker's places: page, data, indexed; bytes of the direct page and of the stack.
-/
import Derived.Test.YtkbieadebfpjdaaWk5
import Derived.Deep.RegionHeld3
namespace Go.Proofs.Ytkbieadebfpjdaa
open Go.RowKit Go.Shelf
set_option maxRecDepth 100000
set_option maxHeartbeats 1000000
set_option linter.unusedVariables false

theorem directF_lt {D n : Nat} {E : Bool} (hD : D < 65536) : directF D n E < 65536 := by
  unfold directF
  split <;> omega
theorem data_any {W0 w : World} {B b n : Nat} {s : Ws} (h : Wk W0 B b s w) (hn : n < 4294967296) :
    Calls Try.prog 22 #[.pointer (some ⟨b, 0, none⟩), .int .u32 (n : Nat)] w fun e w' => e = .returned (.int .u32 ((dataM n s).1 : Nat)) ∧ Wk W0 B b (dataM n s).2 w' ∧ Keeps b w w' ∧ (dataM n s).1 < 16777216 := by
  rw [show dataM n s = (s.r.B * 65536 + n % 65536, s) from rfl]
  obtain ⟨sa, c, lv, hc, _⟩ := h.cells
  have c6 := hc.cell 6
  unfold wkC at c6
  simp only [List.getElem?_toArray, List.getElem?_cons_zero, List.getElem?_cons_succ] at c6
  have hB := h.ok.B
  have HA := address_any s.r.B n w hB hn
  have hlt : s.r.B * 65536 + n % 65536 < 16777216 := by omega
  dsimp only
  generalize s.r.B * 65536 + n % 65536 = v at *
  replace HA := Lib.hid HA
  replace hlt := Lib.hid hlt
  clear hc hB hn
  go_enter Try.func22, Try.ntmps22
  go_wp2_with fail
  refine HA.out.mono ?_
  rintro e w' ⟨rfl, rfl⟩
  go_wp2_with fail
  go_ret
  exact ⟨rfl, h, Keeps.refl _ _, hlt.out⟩
theorem within_any (a : Nat) (w : World) : Calls Try.prog 26 #[.int .u32 (a : Nat)] w fun e w' => e = .returned (plV a true) ∧ Below w.heap.size w w' := by
  unfold plV
  go_enter Try.func26, Try.ntmps26
  go_wp2_with fail
  exact bodyPost_ret (v := .agg #[.int .u32 a, .bool true]) (by simp [results, Try.results26, go_sem]) rfl ⟨rfl, (Below.refl _ _).alloc (Nat.le_refl _) _⟩
theorem across_any (a : Nat) (w : World) (ha : a < 4294967296) : Calls Try.prog 21 #[.int .u32 (a : Nat)] w fun e w' => e = .returned (plV (a % 16777216) false) ∧ Below w.heap.size w w' := by
  unfold plV
  have HC := fun W => cut_any a W ha
  generalize a % 16777216 = v at *
  replace HC := Lib.hid HC
  clear ha
  go_enter Try.func21, Try.ntmps21
  go_wp2_with fail
  refine (HC.out _).mono ?_
  rintro e w' ⟨rfl, rfl⟩
  go_wp2_with fail
  exact bodyPost_ret (v := .agg #[.int .u32 v, .bool false]) (by simp [results, Try.results21, go_sem]) rfl ⟨rfl, (Below.refl _ _).alloc (Nat.le_refl _) _⟩
theorem place_end {W0 w W : World} {B b X v : Nat} {bk : Bool} {s : Ws} (h : Wk W0 B b s W) (hX : Whole W X 27 #[.int .u32 0, .bool false]) (hK : Keeps b w W) (hne : X ≠ b) (hB : B ≤ X) (hw : w.heap.size ≤ X) :
    Wk W0 B b s ((W.setCell ⟨X, 0, none⟩ (.int .u32 v)).setCell ⟨X, 1, none⟩ (.bool bk)) ∧ Keeps b w ((W.setCell ⟨X, 0, none⟩ (.int .u32 v)).setCell ⟨X, 1, none⟩ (.bool bk)) := by
  obtain ⟨a, c, lv, h1, h2, h3, h4⟩ := h.cells
  have hv := own_apart h4 hX (by decide)
  refine ⟨⟨h.ok, ⟨a, c, lv, (h1.away (p := ⟨X, 0, none⟩) (by show b ≠ X; omega) _).away (p := ⟨X, 1, none⟩) (by show b ≠ X; omega) _, h2, h3, row_put (row_put h4 (p := ⟨X, 0, none⟩) hv _) (p := ⟨X, 1, none⟩) hv _⟩, h.here, (h.bel.setCell (p := ⟨X, 0, none⟩) hB _).setCell (p := ⟨X, 1, none⟩) hB _, h.base⟩, ?_⟩
  intro x t cs hx ht hc
  have hxl := hc.lt
  exact ((hK x t cs hx ht hc).away (p := ⟨X, 0, none⟩) (by show x ≠ X; omega) _).away (p := ⟨X, 1, none⟩) (by show x ≠ X; omega) _
theorem page_any {W0 w : World} {B b n : Nat} {s : Ws} (h : Wk W0 B b s w) (hn : n < 4294967296) :
    Calls Try.prog 18 #[.pointer (some ⟨b, 0, none⟩), .int .u32 (n : Nat)] w fun e w' => e = .returned (plV (pageM n s).1.1 (pageM n s).1.2) ∧ Wk W0 B b (pageM n s).2 w' ∧ Keeps b w w' := by
  rw [show pageM n s = ((directF s.r.D n s.r.E, true), s) from rfl]
  dsimp only
  have h0 := h.alloc (.cells #[.int .u32 0, .bool false] 27)
  have hX := Whole.fresh w 27 #[.int .u32 0, .bool false]
  have hK0 := (Keeps.refl b w).alloc (.cells #[.int .u32 0, .bool false] 27)
  have HD := fun W => direct_any s.r n W h.ok hn
  obtain ⟨sa, c, lv, hc, _⟩ := h0.cells
  have c0 := hc.cell 0
  have c1 := hc.cell 1
  have c2 := hc.cell 2
  have c3 := hc.cell 3
  have c4 := hc.cell 4
  have c5 := hc.cell 5
  have c6 := hc.cell 6
  have c7 := hc.cell 7
  have c8 := hc.cell 8
  have c9 := hc.cell 9
  unfold wkC at c0 c1 c2 c3 c4 c5 c6 c7 c8 c9
  simp only [List.getElem?_toArray, List.getElem?_cons_zero, List.getElem?_cons_succ] at c0 c1 c2 c3 c4 c5 c6 c7 c8 c9
  generalize directF s.r.D n s.r.E = v at *
  unfold Rg.v rgC at HD
  replace HD := Lib.hid HD
  have hlb := h.lt
  have hbw : B ≤ w.heap.size := by have := h.bel.size; have := h.base; omega
  clear hc hn h
  go_enter Try.func18, Try.ntmps18
  go_upto_region 1 with (fail)
  generalize w.alloc (.cells #[.int .u32 0, .bool false] 27) = W1 at *
  go_wp2_with fail
  refine (HD.out _).mono ?_
  rintro e W2 ⟨rfl, hb2⟩
  have h2 := h0.below hb2
  have hX2 := hX.below hb2 hX.lt
  have hK2 := hK0.trans (Keeps.below hb2)
  clear HD c0 c1 c2 c3 c4 c5 c6 c7 c8 c9 h0 hX hK0 hb2
  go_wp2_with fail
  refine (within_any v _).mono ?_
  rintro e W3 ⟨rfl, hb3⟩
  have h3 := h2.below hb3
  have hX3 := hX2.below hb3 hX2.lt
  have hK3 := hK2.trans (Keeps.below hb3)
  have x0 := hX3.cell 0
  have x1 := hX3.cell 1
  have f0 := hX3.free 0
  have f1 := hX3.free 1
  simp only [List.getElem?_toArray, List.getElem?_cons_zero, List.getElem?_cons_succ] at x0 x1
  have hfin := Lib.hid (place_end (v := v) (bk := true) h3 hX3 hK3 (by omega) hbw (Nat.le_refl _))
  have hX4 := Lib.hid ((hX3.put 0 (.int .u32 v)).put 1 (.bool true))
  unfold plV
  clear h2 hX2 hK2 h3 hX3 hK3 hb3
  go_wp2_with fail
  exact bodyPost_ret (results_cell_row (fn := Try.f18) (p := 4) (ty := 27) rfl _ _ _ _ _ (0, 0) _ rfl hX4.out Try.underlying27 rfl (by kernel_rfl)) rfl ⟨rfl, hfin.out⟩
theorem ret_bool {x y : Bool} (h : x = y) : Ending.returned (.bool x) = .returned (.bool y) := by rw [h]
theorem crossed_any (a c : Nat) (w : World) (ha : a < 4294967296) (hc : c < 4294967296) : Calls Try.prog 33 #[.int .u32 (a : Nat), .int .u32 (c : Nat)] w fun e w' => e = .returned (.bool (decide (a / 256 ≠ c / 256))) ∧ w = w' := by
  have t : ((a : Int) / 256 != (c : Int) / 256) = decide (a / 256 ≠ c / 256) := by rw [Bool.eq_iff_iff]; simp; omega
  go_enter Try.func33, Try.ntmps33
  go_wp2_with fail
  go_ret
  exact ⟨ret_bool (by simp), rfl⟩
theorem indexed_eq (a x u : Nat) (s : Ws) : indexedM a x u s = (a + x, if u = 2 ∨ u = 3 ∨ s.r.P / 16 % 2 = 0 ∨ a / 256 ≠ (a + x) / 256 then (idleM s).2 else s) := by
  unfold indexedM bindM getM pureM
  dsimp only
  by_cases h : u = 2 ∨ u = 3 ∨ s.r.P / 16 % 2 = 0 ∨ a / 256 ≠ (a + x) / 256
  · rw [if_pos h, if_pos h]
  · rw [if_neg h, if_neg h]
theorem indexed_any {W0 w : World} {B b a x u : Nat} {s : Ws} (h : Wk W0 B b s w) (hl : s.l.length ≤ 99) (ha : a < 16777216) (hx : x < 65536) (hu : u < 256) :
    Calls Try.prog 24 #[.pointer (some ⟨b, 0, none⟩), .int .u32 (a : Nat), .int .u16 (x : Nat), .int .u8 (u : Nat)] w fun e w' => e = .returned (.int .u32 ((indexedM a x u s).1 : Nat)) ∧ Wk W0 B b (indexedM a x u s).2 w' ∧ Keeps b w w' ∧ (indexedM a x u s).1 < 16842752 := by
  rw [indexed_eq]
  dsimp only
  have hlt : a + x < 16842752 := by omega
  obtain ⟨z, hz⟩ : ∃ z, a + x = z := ⟨_, rfl⟩
  rw [hz] at hlt ⊢
  have e0 : IntKind.u32.wrap (x : Int) = (x : Int) := by simp only [IntKind.wrap_u32]; omega
  have e1 : (a : Int) + (x : Int) = (z : Int) := by omega
  have e2 : (z : Int) % 4294967296 = (z : Int) := by omega
  have e3 : IntKind.u32.wrap (z : Int) = (z : Int) := by simp only [IntKind.wrap_u32]; omega
  have HC := crossed_any a z w (by omega) (by omega)
  have HI := Lib.hid (fun W (hW : Wk W0 B b s W) => idle_any hW (by omega))
  obtain ⟨sa, c, lv, hc, _⟩ := h.cells
  have c8 := hc.cell 8
  unfold wkC at c8
  simp only [List.getElem?_toArray, List.getElem?_cons_zero, List.getElem?_cons_succ] at c8
  have hb := bit16 s.r.P h.ok.P
  have hP := h.ok.P
  have hb0 : (bits .and .u8 (s.r.P : Int) 16 == 0) = decide (s.r.P / 16 % 2 = 0) := by
    have e : (bits .and .u8 (s.r.P : Int) 16 == 0) = !(bits .and .u8 (s.r.P : Int) 16 != 0) := by simp [bne]
    rw [e, hb]
    by_cases q : s.r.P / 16 % 2 = 1
    · rw [decide_eq_true q, decide_eq_false (by omega)]; rfl
    · rw [decide_eq_false q, decide_eq_true (by omega)]; rfl
  replace hlt := Lib.hid hlt
  have hzh := Lib.hid hz
  clear hc hb hP hl
  have fin : ∀ W, Wk W0 B b (if u = 2 ∨ u = 3 ∨ s.r.P / 16 % 2 = 0 ∨ a / 256 ≠ z / 256 then (idleM s).2 else s) W → Keeps b w W → Wk W0 B b (if u = 2 ∨ u = 3 ∨ s.r.P / 16 % 2 = 0 ∨ a / 256 ≠ z / 256 then (idleM s).2 else s) W ∧ Keeps b w W ∧ z < 16842752 := fun W h1 h2 => ⟨h1, h2, hlt.out⟩
  by_cases hw : u = 2 ∨ u = 3
  · rw [if_pos (show u = 2 ∨ u = 3 ∨ s.r.P / 16 % 2 = 0 ∨ a / 256 ≠ z / 256 by omega)] at fin ⊢
    replace fin := Lib.hid fin
    clear HC ha hx hz
    rcases hw with rfl | rfl
    all_goals
      clear hu
      go_enter Try.func24, Try.ntmps24
      go_wp2_with fail
      refine (HI.out _ h).mono ?_
      rintro e w1 ⟨rfl, h1, h2⟩
      clear HI c8
      go_wp2_with fail
      go_ret
      exact ⟨rfl, fin.out _ h1 h2⟩
  · have u2 : ((u : Int) == 2) = false := by rw [beq_eq_false_iff_ne]; omega
    have u3 : ((u : Int) == 3) = false := by rw [beq_eq_false_iff_ne]; omega
    by_cases hp : s.r.P / 16 % 2 = 0
    · rw [if_pos (show u = 2 ∨ u = 3 ∨ s.r.P / 16 % 2 = 0 ∨ a / 256 ≠ z / 256 by omega)] at fin ⊢
      rw [decide_eq_true hp] at hb0
      replace fin := Lib.hid fin
      clear HC ha hx hz hw hp hu
      go_enter Try.func24, Try.ntmps24
      go_wp2_with fail
      refine (HI.out _ h).mono ?_
      rintro e w1 ⟨rfl, h1, h2⟩
      clear HI c8
      go_wp2_with fail
      go_ret
      exact ⟨rfl, fin.out _ h1 h2⟩
    · rw [decide_eq_false hp] at hb0
      by_cases hx2 : a / 256 ≠ z / 256
      · rw [if_pos (show u = 2 ∨ u = 3 ∨ s.r.P / 16 % 2 = 0 ∨ a / 256 ≠ z / 256 by omega)] at fin ⊢
        rw [decide_eq_true hx2] at HC
        replace fin := Lib.hid fin
        replace HC := Lib.hid HC
        clear ha hx hz hw hp hu hx2
        go_enter Try.func24, Try.ntmps24
        go_wp2_with fail
        refine HC.out.mono ?_
        rintro e w1 ⟨rfl, rfl⟩
        clear HC
        go_wp2_with fail
        refine (HI.out _ h).mono ?_
        rintro e w1 ⟨rfl, h1, h2⟩
        clear HI c8
        go_wp2_with fail
        go_ret
        exact ⟨rfl, fin.out _ h1 h2⟩
      · rw [if_neg (show ¬ (u = 2 ∨ u = 3 ∨ s.r.P / 16 % 2 = 0 ∨ a / 256 ≠ z / 256) by omega)] at fin ⊢
        rw [decide_eq_false hx2] at HC
        replace fin := Lib.hid fin
        replace HC := Lib.hid HC
        clear ha hx hz hw hp hu hx2 HI
        go_enter Try.func24, Try.ntmps24
        go_wp2_with fail
        refine HC.out.mono ?_
        rintro e w1 ⟨rfl, rfl⟩
        clear HC c8
        go_wp2_with fail
        go_ret
        exact ⟨rfl, fin.out _ h (Keeps.refl _ _)⟩
end Go.Proofs.Ytkbieadebfpjdaa
