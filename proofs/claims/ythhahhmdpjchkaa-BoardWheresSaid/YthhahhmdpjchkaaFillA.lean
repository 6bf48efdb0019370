/-
  The statements' boards.
-/
import Derived.Test.YthhahhmdpjchkaaFillH
namespace Go.Proofs.Ythhahhmdpjchkaa
open Go.RowKit Go.Shelf
set_option maxRecDepth 100000
set_option maxHeartbeats 1000000
theorem made_a (l y N : Nat) (r m : Int) (w : World) (hN : romN r = N) (h0 : r < 0) :
    Calls Try.prog 11 #[planV l r m y] w fun e w' => MadeP w l y N m e w' := by
  have hNm := Lib.hid (show N ≤ 8388609 from hN ▸ romN_le r)
  have hNb : N ≤ 140737488355328 := by have := hNm.out; omega
  have e0 : (32768 : Int) = (N : Int) := by rw [← hN]; unfold romN; rw [if_pos (.inl h0)]; rfl
  replace e0 := Lib.hid e0
  clear hN
  have hmk := fun W => run_make_row' (P := Try.prog) 26 5 (.int .u8 0) 1 Try.underlying26 (by kernel_rfl) rfl .i64 .i64 N (by omega) (by omega) W
  unfold planV
  go_enter Try.func11, Try.ntmps11
  go_upto_region 3 with (fail)
  rw [e0.out]
  have hP := Whole.fresh w 23 #[.int .u8 l, .int .i64 N, .int .i64 m, .int .u8 y]
  have hB0 : Below w.heap.size w (w.alloc (.cells #[.int .u8 l, .int .i64 N, .int .i64 m, .int .u8 y] 23)) := (Below.refl _ w).alloc (Nat.le_refl _) _
  have hs0 : (w.alloc (.cells #[.int .u8 l, .int .i64 N, .int .i64 m, .int .u8 y] 23)).heap.size = w.heap.size + 1 := by simp
  generalize (w.alloc (.cells #[.int .u8 l, .int .i64 N, .int .i64 m, .int .u8 y] 23)) = W0 at *
  obtain ⟨P, hPe⟩ : ∃ P, w.heap.size = P := ⟨_, rfl⟩
  rw [hPe] at hP hB0 hs0
  have c1 := hP.cell 1
  simp only [List.getElem?_toArray, List.getElem?_cons_zero, List.getElem?_cons_succ] at c1
  go_upto_region 4 with (fail)
  have hH0 := holds_of_made (Whole.fresh W0 5 (madeCells #[Value.int IntKind.u8 0] N))
  have hP0 := hP.alloc (Obj.cells (madeCells #[Value.int IntKind.u8 0] N) 5)
  have hB1 := hB0.alloc (by omega) (Obj.cells (madeCells #[Value.int IntKind.u8 0] N) 5)
  generalize W0.alloc (Obj.cells (madeCells #[Value.int IntKind.u8 0] N) 5) = W1 at *
  rw [hs0] at hH0
  have hPlt := hP0.lt
  clear hP hB0 hmk c1 hs0
  go_wp2_with fail
  go_loopw [6] (fun si wr => ∃ k : Nat, k ≤ N ∧ si = .int .i64 k ∧ Holds wr (P + 1) N (first (romF y) k) ∧ Whole wr P 23 #[.int .u8 l, .int .i64 N, .int .i64 m, .int .u8 y] ∧ Below P w wr) (fun si _ => N - (intOf si).toNat)
  case atStart => exact ⟨0, Nat.zero_le _, rfl, hH0.congr (fun i _ => by simp [first]), hP0, hB1⟩
  case round =>
    obtain ⟨k, hk, rfl, hH, hP, hB⟩ := hrel
    clear hB1 hP0 hH0
    have c0 := hP.cell 0
    have c1 := hP.cell 1
    have c2 := hP.cell 2
    have c3 := hP.cell 3
    simp only [List.getElem?_toArray, List.getElem?_cons_zero, List.getElem?_cons_succ] at c0 c1 c2 c3
    by_cases hlt : k < N
    · have hfk := hH.free k
      have hwk := hH.cell k hlt
      have hx := romF_lt y k
      have hv := rom_val k y
      have hP2 := hP.away (p := ⟨P + 1, k, none⟩) (show P ≠ P + 1 by omega) (.int .u8 (romF y k : Nat))
      have hH2 := hH.put k (romF y k) hx
      rw [first_step] at hH2
      have hB2 := hB.setCell (p := ⟨P + 1, k, none⟩) (Nat.le_succ _) (.int .u8 (romF y k : Nat))
      clear hH hP hB
      generalize romF y k = x at *
      go_wp2_with fail
      go_roundw
      case rel => exact ⟨k + 1, by omega, by go_num, hH2, hP2, hB2⟩
      case measure => simp [intOf]; omega
    · obtain rfl : k = N := by omega
      have hH2 := hH.congr (f' := romF y) (fun i hi => by simp [first, hi])
      clear hH hlt hk
      go_upto_region 8 with (fail)
      obtain ⟨wo, rfl⟩ : ∃ wo, wo = wr := ⟨_, rfl⟩
      have HC := Lib.hid (fun W hW => copy_any (some ⟨P + 1, 0, none⟩) k k (romF y) W hW hNb)
      have hHo := hH2
      have hBo := hB
      have HP := Lib.hid hP
      have HR := Lib.hid hH2.row
      have hneP : P ≠ wo.heap.size := by have := hP.lt; omega
      clear hP
      go_region_held3 (fun W => W.cell? ⟨P, 0, none⟩ = some (.int .u8 l) ∧ W.cell? ⟨P, 2, none⟩ = some (.int .i64 m))
        (first | (refine pcells (N := k) (y := y) ?_; (repeat' (first | (with_reducible exact HP.out) | (with_reducible exact hPa) | (with_reducible refine Whole.alloc ?_ _) | (with_reducible refine Whole.drew ?_) | (with_reducible refine Whole.drewN ?_ _) | (with_reducible refine whole_away ?_ hneP))); done) | go_keep)
        (first
          | (go_at_call 20; (with_reducible refine (HC.out _ ?_).mono ?_); (repeat' (first | (with_reducible exact HR.out) | (with_reducible refine Row.alloc ?_ _) | (with_reducible refine Row.drew ?_) | (with_reducible refine Row.drewN ?_ _))); rintro e W5 ⟨C, rfl, hC5, hCl, hB5⟩; have hPa : Whole W5 P 23 #[.int .u8 l, .int .i64 k, .int .i64 m, .int .u8 y] := (by first | exact HP.out.drew.below hB5 HP.out.drew.lt | exact (HP.out.alloc _).drew.below hB5 (HP.out.alloc _).drew.lt); (try (have hDz : Whole W5 wo.heap.size 60 #[.int .u8 0, .int .u8 0, .slice none 0 0, .int .i64 0, .string ⟨#[]⟩, .int .u16 0, .bool false, .slice none 0 0] := (Whole.fresh wo 60 _).drew.below hB5 (Whole.fresh wo 60 _).drew.lt; have fz := hDz.free; have q0 := hDz.cell 0; have q1 := hDz.cell 1; have q2 := hDz.cell 2; have q3 := hDz.cell 3; have q4 := hDz.cell 4; have q5 := hDz.cell 5; have q6 := hDz.cell 6; have q7 := hDz.cell 7; simp only [List.getElem?_toArray, List.getElem?_cons_zero, List.getElem?_cons_succ] at q0 q1 q2 q3 q4 q5 q6 q7))))
      · have hBo5 := hBo.drew.trans (hB5.mono (Nat.le_of_lt (show P < wo.drew.heap.size from HP.out.lt)))
        have hHo5 := hHo.drew.below hB5 hHo.drew.lt
        have hne : P + 1 ≠ C := by have h1 := hHo.lt; have h2 : wo.heap.size ≤ C := hCl; omega
        have hC6 := hC5.alloc (.cells (cartCells l (.slice (some ⟨C, 0, none⟩) k k) m) 60)
        have hHo6 := hHo5.alloc (.cells (cartCells l (.slice (some ⟨C, 0, none⟩) k k) m) 60)
        have hD6 := Whole.fresh W5 60 (cartCells l (.slice (some ⟨C, 0, none⟩) k k) m)
        have hBo6 := hBo5.alloc (by have := hPa.lt; omega) (.cells (cartCells l (.slice (some ⟨C, 0, none⟩) k k) m) 60)
        have hC5l := hC5.lt
        have hPC : P ≤ C := Nat.le_trans (Nat.le_of_lt HP.out.lt) hCl
        have hP6 : P < (W5.alloc (.cells (cartCells l (.slice (some ⟨C, 0, none⟩) k k) m) 60)).heap.size := (hPa.alloc _).lt
        clear hB5 hHo5 hC5 hBo5 hB hH2 hHo HC HP HR hPa hCl hBo c0 c1 c2 c3
        unfold cartCells at hC6 hHo6 hD6 hBo6 hP6
        generalize (W5.alloc (.cells #[.int .u8 l, .int .u8 0, .slice (some ⟨C, 0, none⟩) k k, .int .i64 m, .string ⟨#[]⟩, .int .u16 0, .bool false, .slice none 0 0] 60)) = W6 at *
        obtain ⟨D, hDe⟩ : ∃ D, W5.heap.size = D := ⟨_, rfl⟩
        rw [hDe] at hD6 hC5l ⊢
        have hDC : D ≠ C := by omega
        have d0 := hD6.cell 0
        have d1 := hD6.cell 1
        have d2 := hD6.cell 2
        have d3 := hD6.cell 3
        have d4 := hD6.cell 4
        have d5 := hD6.cell 5
        have d6 := hD6.cell 6
        have d7 := hD6.cell 7
        simp only [List.getElem?_toArray, List.getElem?_cons_zero, List.getElem?_cons_succ] at d0 d1 d2 d3 d4 d5 d6 d7
        by_cases hg : good l k m
        · obtain ⟨g1, g2, g3, g4, g5, g6⟩ := hg
          obtain ⟨m, rfl⟩ := Int.eq_ofNat_of_zero_le g5
          have HN := Lib.hid (new_ok l k k m C (romF y) W6 hC6.row ⟨g1, g2⟩ g3 g4 (by omega))
          have HQ := Lib.hid (fun W => rnew_ok l k k C (m : Int) W ⟨g1, g2⟩ g3 g4 g5 g6)
          have hg := Lib.hid (show good l k (m : Int) from ⟨g1, g2, g3, g4, g5, g6⟩)
          clear g1 g2 g3 g4 g5 g6
          simp only [cartV, cartCells] at HN HQ
          go_wp2_with fail
          refine HN.out.mono ?_
          rintro e W7 ⟨b, R, M, X, cap, rfl, hBr, hbl, hRl, hMl, hXl, hB7⟩
          have hD7 := hD6.below hB7 hD6.lt
          have hC7 := hC6.below hB7 hC6.lt
          have hH7 := hHo6.below hB7 hHo6.lt
          have hC6l := hC6.lt
          have hH6l := hHo6.lt
          have hBo7 := hBo6.trans (hB7.mono (Nat.le_of_lt hP6))
          have e2 := hD7.cell 2
          simp only [List.getElem?_toArray, List.getElem?_cons_zero, List.getElem?_cons_succ] at e2
          clear d0 d1 d2 d3 d4 d5 d6 d7 HN hB7 hD6 hC6 hHo6 hBo6
          go_wp2_with fail
          refine (spoil_any C k k (romF y) W7 hNb hC7).mono ?_
          rintro e W8 ⟨⟨v8, rfl⟩, hO8⟩
          have hD8 := hD7.only hO8 hDC
          have hH8 := hH7.only hO8 hne
          have hBr8 := hBr.only hO8 (by omega) (by omega) (by omega) (fun _ => by omega)
          have hBo8 := below_only hBo7 hO8 hPC (by have := hH7.lt; omega)
          clear hD7 hC7 hBr hO8 e2 hBo7 hH7
          have d0 := hD8.cell 0
          have d1 := hD8.cell 1
          have d2 := hD8.cell 2
          have d3 := hD8.cell 3
          have d4 := hD8.cell 4
          have d5 := hD8.cell 5
          have d6 := hD8.cell 6
          have d7 := hD8.cell 7
          simp only [List.getElem?_toArray, List.getElem?_cons_zero, List.getElem?_cons_succ] at d0 d1 d2 d3 d4 d5 d6 d7
          go_wp2_with fail
          refine (HQ.out _).mono ?_
          rintro e W9 ⟨rfl, hB9⟩
          have hH9 := hH8.below hB9 hH8.lt
          have hBr9 := hBr8.below hB9
          have hBo9 := hBo8.trans (hB9.mono (by have := hH8.lt; omega))
          clear d0 d1 d2 d3 d4 d5 d6 d7 hD8 hB9 hBr8 hH8 hBo8 HQ
          go_wp2_with fail
          go_ret3
          exact ⟨.pointer (some ⟨b, 0, none⟩), P + 1, rfl, hH9, by omega, by rw [hPe]; exact hBo9, .inr ⟨hg.out, b, R, M, X, cap, rfl, hBr9, by omega, by omega, by omega⟩⟩
        · have HN := Lib.hid (fun W => new_no l k k C m W hg)
          have HQ := Lib.hid (fun W => rnew_no l k k C m W hg)
          replace hg := Lib.hid hg
          simp only [cartV, cartCells] at HN HQ
          go_wp2_with fail
          refine (HN.out _).mono ?_
          rintro e W7 ⟨rfl, hB7⟩
          have hD7 := hD6.below hB7 hD6.lt
          have hC7 := hC6.below hB7 hC6.lt
          have hH7 := hHo6.below hB7 hHo6.lt
          have hBo7 := hBo6.trans (hB7.mono (Nat.le_of_lt hP6))
          have e2 := hD7.cell 2
          simp only [List.getElem?_toArray, List.getElem?_cons_zero, List.getElem?_cons_succ] at e2
          clear d0 d1 d2 d3 d4 d5 d6 d7 HN hB7 hD6 hC6 hHo6 hBo6
          go_wp2_with fail
          refine (spoil_any C k k (romF y) W7 hNb hC7).mono ?_
          rintro e W8 ⟨⟨v8, rfl⟩, hO8⟩
          have hD8 := hD7.only hO8 hDC
          have hH8 := hH7.only hO8 hne
          have hBo8 := below_only hBo7 hO8 hPC (by have := hH7.lt; omega)
          clear hD7 hC7 hO8 e2 hBo7 hH7
          have d0 := hD8.cell 0
          have d1 := hD8.cell 1
          have d2 := hD8.cell 2
          have d3 := hD8.cell 3
          have d4 := hD8.cell 4
          have d5 := hD8.cell 5
          have d6 := hD8.cell 6
          have d7 := hD8.cell 7
          simp only [List.getElem?_toArray, List.getElem?_cons_zero, List.getElem?_cons_succ] at d0 d1 d2 d3 d4 d5 d6 d7
          go_wp2_with fail
          refine (HQ.out _).mono ?_
          rintro e W9 ⟨rfl, hB9⟩
          have hH9 := hH8.below hB9 hH8.lt
          have hBo9 := hBo8.trans (hB9.mono (by have := hH8.lt; omega))
          clear d0 d1 d2 d3 d4 d5 d6 d7 hD8 hB9 hH8 hBo8 HQ
          go_wp2_with fail
          go_ret3
          exact ⟨.pointer none, P + 1, rfl, hH9, by omega, by rw [hPe]; exact hBo9, .inl ⟨hg.out, rfl⟩⟩

      · have hs : (wo.alloc (Obj.cells #[Value.int IntKind.u8 0, Value.int IntKind.u8 0, Value.slice none 0 0, Value.int IntKind.i64 0, Value.string ⟨#[]⟩, Value.int IntKind.u16 0, Value.bool false, Value.slice none 0 0] 60)).drew.heap.size = wo.heap.size + 1 := World.size_alloc _ _
        rw [hs] at hCl
        have hHl := hHo.lt
        have hBo5 := (hBo.alloc (by omega) (Obj.cells #[Value.int IntKind.u8 0, Value.int IntKind.u8 0, Value.slice none 0 0, Value.int IntKind.i64 0, Value.string ⟨#[]⟩, Value.int IntKind.u16 0, Value.bool false, Value.slice none 0 0] 60)).drew.trans (hB5.mono (by rw [hs]; omega))
        have hHo5 := (hHo.alloc _).drew.below hB5 (hHo.alloc _).drew.lt
        have hne : P + 1 ≠ C := by omega
        obtain ⟨D, hDe⟩ : ∃ D, wo.heap.size = D := ⟨_, rfl⟩
        rw [hDe] at hDz hCl hHl ⊢
        have hDC : D ≠ C := by omega
        have hD6 := (((((((hDz.put 0 (.int .u8 l)).put 1 (.int .u8 0)).put 2 (.slice (some ⟨C, 0, none⟩) k k)).put 3 (.int .i64 m)).put 4 (.string ⟨#[]⟩)).put 5 (.int .u16 0)).put 6 (.bool false)).put 7 (.slice none 0 0)
        have hC6 := hold8 hC5 (D := D) (fun e => hDC e.symm) (.int .u8 l) (.int .u8 0) (.slice (some ⟨C, 0, none⟩) k k) (.int .i64 m) (.string ⟨#[]⟩) (.int .u16 0) (.bool false) (.slice none 0 0)
        have hHo6 := hold8 hHo5 (D := D) (by omega) (.int .u8 l) (.int .u8 0) (.slice (some ⟨C, 0, none⟩) k k) (.int .i64 m) (.string ⟨#[]⟩) (.int .u16 0) (.bool false) (.slice none 0 0)
        have hBo6 := below8 hBo5 (D := D) (by omega) (.int .u8 l) (.int .u8 0) (.slice (some ⟨C, 0, none⟩) k k) (.int .i64 m) (.string ⟨#[]⟩) (.int .u16 0) (.bool false) (.slice none 0 0)
        have hPC : P ≤ C := by have := HP.out.lt; omega
        have hP6 := Nat.lt_of_le_of_lt (Nat.le_succ P) hHo6.lt
        clear hB5 hHo5 hC5 hBo5 hB hH2 hHo HC HP HR hPa hCl hDz fz q0 q1 q2 q3 q4 q5 q6 q7 hs hHl hBo c0 c1 c2 c3
        generalize ((((((((W5.setCell ⟨D, 0, none⟩ (.int .u8 l)).setCell ⟨D, 1, none⟩ (.int .u8 0)).setCell ⟨D, 2, none⟩ (.slice (some ⟨C, 0, none⟩) k k)).setCell ⟨D, 3, none⟩ (.int .i64 m)).setCell ⟨D, 4, none⟩ (.string ⟨#[]⟩)).setCell ⟨D, 5, none⟩ (.int .u16 0)).setCell ⟨D, 6, none⟩ (.bool false)).setCell ⟨D, 7, none⟩ (.slice none 0 0)) = W6 at *
        replace hD6 : Whole W6 D 60 #[.int .u8 l, .int .u8 0, .slice (some ⟨C, 0, none⟩) k k, .int .i64 m, .string ⟨#[]⟩, .int .u16 0, .bool false, .slice none 0 0] := hD6.as rfl
        have d0 := hD6.cell 0
        have d1 := hD6.cell 1
        have d2 := hD6.cell 2
        have d3 := hD6.cell 3
        have d4 := hD6.cell 4
        have d5 := hD6.cell 5
        have d6 := hD6.cell 6
        have d7 := hD6.cell 7
        simp only [List.getElem?_toArray, List.getElem?_cons_zero, List.getElem?_cons_succ] at d0 d1 d2 d3 d4 d5 d6 d7
        by_cases hg : good l k m
        · obtain ⟨g1, g2, g3, g4, g5, g6⟩ := hg
          obtain ⟨m, rfl⟩ := Int.eq_ofNat_of_zero_le g5
          have HN := Lib.hid (new_ok l k k m C (romF y) W6 hC6.row ⟨g1, g2⟩ g3 g4 (by omega))
          have HQ := Lib.hid (fun W => rnew_ok l k k C (m : Int) W ⟨g1, g2⟩ g3 g4 g5 g6)
          have hg := Lib.hid (show good l k (m : Int) from ⟨g1, g2, g3, g4, g5, g6⟩)
          clear g1 g2 g3 g4 g5 g6
          simp only [cartV, cartCells] at HN HQ
          go_wp2_with fail
          refine HN.out.mono ?_
          rintro e W7 ⟨b, R, M, X, cap, rfl, hBr, hbl, hRl, hMl, hXl, hB7⟩
          have hD7 := hD6.below hB7 hD6.lt
          have hC7 := hC6.below hB7 hC6.lt
          have hH7 := hHo6.below hB7 hHo6.lt
          have hC6l := hC6.lt
          have hH6l := hHo6.lt
          have hBo7 := hBo6.trans (hB7.mono (Nat.le_of_lt hP6))
          have e2 := hD7.cell 2
          simp only [List.getElem?_toArray, List.getElem?_cons_zero, List.getElem?_cons_succ] at e2
          clear d0 d1 d2 d3 d4 d5 d6 d7 HN hB7 hD6 hC6 hHo6 hBo6
          go_wp2_with fail
          refine (spoil_any C k k (romF y) W7 hNb hC7).mono ?_
          rintro e W8 ⟨⟨v8, rfl⟩, hO8⟩
          have hD8 := hD7.only hO8 hDC
          have hH8 := hH7.only hO8 hne
          have hBr8 := hBr.only hO8 (by omega) (by omega) (by omega) (fun _ => by omega)
          have hBo8 := below_only hBo7 hO8 hPC (by have := hH7.lt; omega)
          clear hD7 hC7 hBr hO8 e2 hBo7 hH7
          have d0 := hD8.cell 0
          have d1 := hD8.cell 1
          have d2 := hD8.cell 2
          have d3 := hD8.cell 3
          have d4 := hD8.cell 4
          have d5 := hD8.cell 5
          have d6 := hD8.cell 6
          have d7 := hD8.cell 7
          simp only [List.getElem?_toArray, List.getElem?_cons_zero, List.getElem?_cons_succ] at d0 d1 d2 d3 d4 d5 d6 d7
          go_wp2_with fail
          refine (HQ.out _).mono ?_
          rintro e W9 ⟨rfl, hB9⟩
          have hH9 := hH8.below hB9 hH8.lt
          have hBr9 := hBr8.below hB9
          have hBo9 := hBo8.trans (hB9.mono (by have := hH8.lt; omega))
          clear d0 d1 d2 d3 d4 d5 d6 d7 hD8 hB9 hBr8 hH8 hBo8 HQ
          go_wp2_with fail
          go_ret3
          exact ⟨.pointer (some ⟨b, 0, none⟩), P + 1, rfl, hH9, by omega, by rw [hPe]; exact hBo9, .inr ⟨hg.out, b, R, M, X, cap, rfl, hBr9, by omega, by omega, by omega⟩⟩
        · have HN := Lib.hid (fun W => new_no l k k C m W hg)
          have HQ := Lib.hid (fun W => rnew_no l k k C m W hg)
          replace hg := Lib.hid hg
          simp only [cartV, cartCells] at HN HQ
          go_wp2_with fail
          refine (HN.out _).mono ?_
          rintro e W7 ⟨rfl, hB7⟩
          have hD7 := hD6.below hB7 hD6.lt
          have hC7 := hC6.below hB7 hC6.lt
          have hH7 := hHo6.below hB7 hHo6.lt
          have hBo7 := hBo6.trans (hB7.mono (Nat.le_of_lt hP6))
          have e2 := hD7.cell 2
          simp only [List.getElem?_toArray, List.getElem?_cons_zero, List.getElem?_cons_succ] at e2
          clear d0 d1 d2 d3 d4 d5 d6 d7 HN hB7 hD6 hC6 hHo6 hBo6
          go_wp2_with fail
          refine (spoil_any C k k (romF y) W7 hNb hC7).mono ?_
          rintro e W8 ⟨⟨v8, rfl⟩, hO8⟩
          have hD8 := hD7.only hO8 hDC
          have hH8 := hH7.only hO8 hne
          have hBo8 := below_only hBo7 hO8 hPC (by have := hH7.lt; omega)
          clear hD7 hC7 hO8 e2 hBo7 hH7
          have d0 := hD8.cell 0
          have d1 := hD8.cell 1
          have d2 := hD8.cell 2
          have d3 := hD8.cell 3
          have d4 := hD8.cell 4
          have d5 := hD8.cell 5
          have d6 := hD8.cell 6
          have d7 := hD8.cell 7
          simp only [List.getElem?_toArray, List.getElem?_cons_zero, List.getElem?_cons_succ] at d0 d1 d2 d3 d4 d5 d6 d7
          go_wp2_with fail
          refine (HQ.out _).mono ?_
          rintro e W9 ⟨rfl, hB9⟩
          have hH9 := hH8.below hB9 hH8.lt
          have hBo9 := hBo8.trans (hB9.mono (by have := hH8.lt; omega))
          clear d0 d1 d2 d3 d4 d5 d6 d7 hD8 hB9 hH8 hBo8 HQ
          go_wp2_with fail
          go_ret3
          exact ⟨.pointer none, P + 1, rfl, hH9, by omega, by rw [hPe]; exact hBo9, .inl ⟨hg.out, rfl⟩⟩

end Go.Proofs.Ythhahhmdpjchkaa
