/-
  What stands at an address, by the code.
-/
import Derived.Test.YthhahhmdpjchkaaDecH
namespace Go.Proofs.Ythhahhmdpjchkaa
open Go.RowKit Go.Shelf
set_option maxRecDepth 100000
set_option maxHeartbeats 1000000
theorem decode_lo {b R M X n cap m : Nat} {f g : Nat → Nat} (a : Nat) (w : World) (h : Brd w b R M X 1 n cap m f g) (ha : a < 4294967296) :
    Calls Try.prog 13 #[.pointer (some ⟨b, 0, none⟩), .int .u32 a] w fun e w' => e = .returned (spotV (spot 1 n m a)) ∧ Below w.heap.size w w' := by
  have HA := fun W => apart_any a W ha
  have hB : a / 65536 % 256 < 256 := Nat.mod_lt _ (by decide)
  have hP : a % 65536 < 65536 := Nat.mod_lt _ (by decide)
  unfold spot
  generalize a / 65536 % 256 = B at *
  generalize a % 65536 = P at *
  replace HA := Lib.hid HA
  have hc : boardCells 1 X R n cap M m = #[.func (.func 39) #[] #[], .func (.func 40) #[] #[], .func (.func 41) #[] #[], .func (.func 42) #[] #[], .slice (some ⟨R, 0, none⟩) n cap, .slice (some ⟨M, 0, none⟩) m m] := by simp [boardCells, rowsOf]
  have hW := h.head
  rw [hc] at hW
  clear hc
  have hm := h.m2
  have hn := h.n1
  have hn2 := h.n2
  have d := fun i => ((hW.alloc (.cells #[.int .u8 0, .int .i64 0] 33)).cell i)
  have d0 := d 0
  have d1 := d 1
  have d2 := d 2
  have d3 := d 3
  have d4 := d 4
  have d5 := d 5
  simp only [List.getElem?_toArray, List.getElem?_cons_zero, List.getElem?_cons_succ] at d0 d1 d2 d3 d4 d5
  have hX := Whole.fresh w 33 #[.int .u8 0, .int .i64 0]
  have hBe : Below w.heap.size w (w.alloc (.cells #[.int .u8 0, .int .i64 0] 33)) := (Below.refl _ w).alloc (Nat.le_refl _) _
  have hh := Lib.hid (h.alloc (.cells #[.int .u8 0, .int .i64 0] 33))
  have hlt := h.head.lt
  obtain ⟨G, hG⟩ : ∃ G, w.heap.size = G := ⟨_, rfl⟩
  have hne : b ≠ G := by omega
  clear d hW h
  go_enter Try.func13, Try.ntmps13
  go_wp2_with fail
  generalize (w.alloc (.cells #[.int .u8 0, .int .i64 0] 33)) = W0 at *
  rw [hG] at hX hBe
  have fz := hX.free
  have x0 := hX.cell 0
  have x1 := hX.cell 1
  simp only [List.getElem?_toArray, List.getElem?_cons_zero, List.getElem?_cons_succ] at x0 x1
  refine (HA.out _).mono ?_
  rintro e w' ⟨rfl, rfl⟩
  clear HA
  by_cases b1 : B = 126
  · have t1 : ((B : Int) == 126) = true := by rw [beq_iff_eq]; omega
    have hs := Lib.hid (show spotBP 1 n m B P = (0, 0) from if_pos (.inl b1))
    clear b1
    go_wp2_with fail
    exact bodyPost_ret (results_cell_row (fn := Try.f13) (p := 4) (ty := 33) rfl _ _ _ _ _ (0, 0) _ rfl ((hX.put 0 _).put 1 _) Try.underlying33 rfl (by kernel_rfl)) rfl ⟨by rw [hs.out]; rfl, by rw [hG]; exact (hBe.setCell (p := ⟨G, 0, none⟩) (Nat.le_refl _) _).setCell (p := ⟨G, 1, none⟩) (Nat.le_refl _) _⟩
  have t1 : ((B : Int) == 126) = false := by rw [beq_eq_false_iff_ne]; omega
  by_cases b2 : B = 127
  · have t2 : ((B : Int) == 127) = true := by rw [beq_iff_eq]; omega
    have hs := Lib.hid (show spotBP 1 n m B P = (0, 0) from if_pos (.inr b2))
    clear b1 b2
    go_wp2_with fail
    exact bodyPost_ret (results_cell_row (fn := Try.f13) (p := 4) (ty := 33) rfl _ _ _ _ _ (0, 0) _ rfl ((hX.put 0 _).put 1 _) Try.underlying33 rfl (by kernel_rfl)) rfl ⟨by rw [hs.out]; rfl, by rw [hG]; exact (hBe.setCell (p := ⟨G, 0, none⟩) (Nat.le_refl _) _).setCell (p := ⟨G, 1, none⟩) (Nat.le_refl _) _⟩
  have t2 : ((B : Int) == 127) = false := by rw [beq_eq_false_iff_ne]; omega
  have hs : spotBP 1 n m B P = if decide (0 < m) && ramHolds 1 B P then (2, ramAt 1 B P % m) else if romHolds 1 B P then (1, lead (romAt 1 B P) n) else (0, 0) := if_neg (by omega)
  clear b1 b2
  have H1 := fun W => lo1 B P W hB
  have H3 := fun W => lo3 B P W
  by_cases hr : (decide (0 < m) && ramHolds 1 B P) = true
  · rw [if_pos hr, ] at hs
    replace hs := Lib.hid hs
    simp only [Bool.and_eq_true, decide_eq_true_eq] at hr
    obtain ⟨hm0, hr⟩ := hr
    have H2 := Lib.hid (fun W => lo2 B P W hB hP)
    rw [hr] at H1
    replace H1 := Lib.hid H1
    have hA := ramAt_lt 1 B P hP
    generalize ramAt 1 B P = A at *
    clear hr H3
    have hmz : m ≠ 0 := by omega
    have hmp : (0 : Int) < (m : Int) := by omega
    clear hA
    replace hm := Lib.hid hm
    go_wp2_with (go_at_call 39; refine (H1.out _).mono ?_; rintro e w' ⟨rfl, rfl⟩)
    go_region_held3 (fun W => W.cell? ⟨b, 1, none⟩ = some (.func (.func 40) #[] #[]) ∧ W.cell? ⟨b, 5, none⟩ = some (.slice (some ⟨M, 0, none⟩) m m)) (first | (with_reducible exact keep_two hne d1 d5 _ _ _ _) | go_keep)
      (first | (go_at_call 40; refine (H2.out _).mono ?_; rintro e w' ⟨rfl, rfl⟩))
    go_wp2_with fail
    exact bodyPost_ret (results_cell_row (fn := Try.f13) (p := 4) (ty := 33) rfl _ _ _ _ _ (0, 0) _ rfl (((hX.drewN _).put 0 _).put 1 _) Try.underlying33 rfl (by kernel_rfl)) rfl ⟨by rw [hs.out]; rfl, by rw [hG]; exact ((below_drewN hBe _).setCell (p := ⟨G, 0, none⟩) (Nat.le_refl _) _).setCell (p := ⟨G, 1, none⟩) (Nat.le_refl _) _⟩
  · rw [if_neg hr] at hs
    have hcase : ¬ (0 : Int) < (m : Int) ∨ (0 : Int) < (m : Int) ∧ ramHolds 1 B P = false := by
      by_cases h0 : 0 < m
      · refine .inr ⟨by omega, ?_⟩
        cases h1 : ramHolds 1 B P
        · rfl
        · exact absurd (by simp [h0, h1]) hr
      · exact .inl (by omega)
    clear hr
    by_cases h5 : romHolds 1 B P = true
    · rw [if_pos h5] at hs
      replace hs := Lib.hid hs
      have H4 := fun W => lo4 B P W hB hP h5
      have HL := fun W => codeN (romAt 1 B P) n W (by have := romAt_lt 1 B P hP; omega) hn (by omega)
      have hA := romAt_lt 1 B P hP
      generalize romAt 1 B P = A at *
      replace H4 := Lib.hid H4
      generalize lead A n = L at *
      replace HL := Lib.hid HL
      rw [h5] at H3
      replace H3 := Lib.hid H3
      clear h5
      rcases hcase with h0 | ⟨h0, h1⟩
      · clear H1
        go_wp2_with (go_at_call 41; refine (H3.out _).mono ?_; rintro e w' ⟨rfl, rfl⟩)
        go_region_held3 (fun W => W.cell? ⟨b, 3, none⟩ = some (.func (.func 42) #[] #[]) ∧ W.cell? ⟨b, 4, none⟩ = some (.slice (some ⟨R, 0, none⟩) n cap)) (first | (with_reducible exact keep_two hne d3 d4 _ _ _ _) | go_keep)
          (first | (go_at_call 42; refine (H4.out _).mono ?_; rintro e w' ⟨rfl, rfl⟩) | (go_at_call 27; refine (HL.out _).mono ?_; rintro e w' ⟨rfl, rfl⟩))
        go_wp2_with fail
        exact bodyPost_ret (results_cell_row (fn := Try.f13) (p := 4) (ty := 33) rfl _ _ _ _ _ (0, 0) _ rfl (((hX.drewN _).put 0 _).put 1 _) Try.underlying33 rfl (by kernel_rfl)) rfl ⟨by rw [hs.out]; rfl, by rw [hG]; exact ((below_drewN hBe _).setCell (p := ⟨G, 0, none⟩) (Nat.le_refl _) _).setCell (p := ⟨G, 1, none⟩) (Nat.le_refl _) _⟩
      · rw [h1] at H1
        replace H1 := Lib.hid H1
        clear h1
        go_wp2_with (first | (go_at_call 39; refine (H1.out _).mono ?_; rintro e w' ⟨rfl, rfl⟩) | (go_at_call 41; refine (H3.out _).mono ?_; rintro e w' ⟨rfl, rfl⟩))
        go_region_held3 (fun W => W.cell? ⟨b, 3, none⟩ = some (.func (.func 42) #[] #[]) ∧ W.cell? ⟨b, 4, none⟩ = some (.slice (some ⟨R, 0, none⟩) n cap)) (first | (with_reducible exact keep_two hne d3 d4 _ _ _ _) | go_keep)
          (first | (go_at_call 42; refine (H4.out _).mono ?_; rintro e w' ⟨rfl, rfl⟩) | (go_at_call 27; refine (HL.out _).mono ?_; rintro e w' ⟨rfl, rfl⟩))
        go_wp2_with fail
        exact bodyPost_ret (results_cell_row (fn := Try.f13) (p := 4) (ty := 33) rfl _ _ _ _ _ (0, 0) _ rfl (((hX.drewN _).put 0 _).put 1 _) Try.underlying33 rfl (by kernel_rfl)) rfl ⟨by rw [hs.out]; rfl, by rw [hG]; exact ((below_drewN hBe _).setCell (p := ⟨G, 0, none⟩) (Nat.le_refl _) _).setCell (p := ⟨G, 1, none⟩) (Nat.le_refl _) _⟩
    · rw [if_neg h5] at hs
      replace hs := Lib.hid hs
      rw [Bool.not_eq_true] at h5
      rw [h5] at H3
      replace H3 := Lib.hid H3
      clear h5
      rcases hcase with h0 | ⟨h0, h1⟩
      · clear H1
        go_wp2_with (go_at_call 41; refine (H3.out _).mono ?_; rintro e w' ⟨rfl, rfl⟩)
        exact bodyPost_ret (results_cell_row (fn := Try.f13) (p := 4) (ty := 33) rfl _ _ _ _ _ (0, 0) _ rfl (((hX).put 0 _).put 1 _) Try.underlying33 rfl (by kernel_rfl)) rfl ⟨by rw [hs.out]; rfl, by rw [hG]; exact ((hBe).setCell (p := ⟨G, 0, none⟩) (Nat.le_refl _) _).setCell (p := ⟨G, 1, none⟩) (Nat.le_refl _) _⟩
      · rw [h1] at H1
        replace H1 := Lib.hid H1
        clear h1
        go_wp2_with (first | (go_at_call 39; refine (H1.out _).mono ?_; rintro e w' ⟨rfl, rfl⟩) | (go_at_call 41; refine (H3.out _).mono ?_; rintro e w' ⟨rfl, rfl⟩))
        exact bodyPost_ret (results_cell_row (fn := Try.f13) (p := 4) (ty := 33) rfl _ _ _ _ _ (0, 0) _ rfl (((hX).put 0 _).put 1 _) Try.underlying33 rfl (by kernel_rfl)) rfl ⟨by rw [hs.out]; rfl, by rw [hG]; exact ((hBe).setCell (p := ⟨G, 0, none⟩) (Nat.le_refl _) _).setCell (p := ⟨G, 1, none⟩) (Nat.le_refl _) _⟩
end Go.Proofs.Ythhahhmdpjchkaa
