/-
  The document's Does: Open.
-/
import Derived.Test.YtacnmnodbmbplaaRDoesA
namespace Go.Proofs.Ytacnmnodbmbplaa
open Go.RowKit Go.Shelf
set_option maxRecDepth 100000
set_option maxHeartbeats 1000000
theorem rdoes_6 {a ao : Option Addr} {c co : Nat} {s : St} (n : Int) (pa : Option Addr) (len cap : Nat) (w : World) (h : RW w a c ao co s) (he : s.e = 0) :
    Calls Try.prog 10 #[rwV a c ao co s, putV 6 n pa len cap] w fun e w' => ∃ a' c' ao' co', e = .returned (rwV a' c' ao' co' (s.openW (n % 256).toNat)) ∧ RW w' a' c' ao' co' (s.openW (n % 256).toNat) ∧ Below w.heap.size w w' ∧ NewRow w.heap.size w' a a' ∧ NewRow w.heap.size w' ao ao' := by
  have hX := ((Whole.fresh w 29 #[.slice a s.n c, .slice ao s.op co, .int .i64 (s.e : Nat)]).alloc (.cells #[.int .i64 6, .int .i64 n, .slice pa len cap] 32)).alloc (.cells #[.slice none 0 0, .slice none 0 0, .int .i64 0] 29)
  have hY := (Whole.fresh (w.alloc (.cells #[.slice a s.n c, .slice ao s.op co, .int .i64 (s.e : Nat)] 29)) 32 #[.int .i64 6, .int .i64 n, .slice pa len cap]).alloc (.cells #[.slice none 0 0, .slice none 0 0, .int .i64 0] 29)
  have hZ := Whole.fresh ((w.alloc (.cells #[.slice a s.n c, .slice ao s.op co, .int .i64 (s.e : Nat)] 29)).alloc (.cells #[.int .i64 6, .int .i64 n, .slice pa len cap] 32)) 29 #[.slice none 0 0, .slice none 0 0, .int .i64 0]
  have hB := (((Below.refl w.heap.size w).alloc (Nat.le_refl _) (.cells #[.slice a s.n c, .slice ao s.op co, .int .i64 (s.e : Nat)] 29)).alloc (by simp) (.cells #[.int .i64 6, .int .i64 n, .slice pa len cap] 32)).alloc (by simp; omega) (.cells #[.slice none 0 0, .slice none 0 0, .int .i64 0] 29)
  have hys : (w.alloc (.cells #[.slice a s.n c, .slice ao s.op co, .int .i64 (s.e : Nat)] 29)).heap.size = w.heap.size + 1 := by simp
  have hzs : ((w.alloc (.cells #[.slice a s.n c, .slice ao s.op co, .int .i64 (s.e : Nat)] 29)).alloc (.cells #[.int .i64 6, .int .i64 n, .slice pa len cap] 32)).heap.size = w.heap.size + 1 + 1 := by simp
  rw [hys] at hY
  rw [hzs] at hZ
  have t0 : ((0 : Int) != 0) = false := rfl
  have hRW := Lib.hid h
  have e1 : n % 256 = ((n % 256).toNat : Nat) := by omega
  have e2 : IntKind.u8.wrap n = ((n % 256).toNat : Nat) := by simp only [IntKind.wrap_u8]; omega
  have hx : (n % 256).toNat < 256 := by omega
  generalize (n % 256).toNat = x at *
  have w1 : IntKind.u64.wrap (x : Int) = (x : Int) := by simp only [IntKind.wrap_u64]; omega
  have HL := Lib.hid (fun W => rlaid_any x 1 W (by omega) (by decide))
  have hgn := h.good.n
  have hgo := h.good.op
  have hge := Lib.hid he
  unfold rwV putV
  rw [he] at hX hY hZ hB hys hzs ⊢
  clear h he e1
  replace hx := Lib.hid hx
  go_enter Try.func10, Try.ntmps10
  go_upto_region 1 with (fail)
  have e0 : ((0 : Nat) : Int) = 0 := rfl
  rw [e0] at hX hY hZ hB
  obtain ⟨N, hN⟩ : ∃ N, s.n = N := ⟨_, rfl⟩
  obtain ⟨op, hop⟩ : ∃ op, s.op = op := ⟨_, rfl⟩
  rw [hN, hop] at hX hY hZ hB ⊢
  rw [hN] at hgn
  rw [hop] at hgo
  generalize ((w.alloc (.cells #[.slice a N c, .slice ao op co, .int .i64 0] 29)).alloc (.cells #[.int .i64 6, .int .i64 n, .slice pa len cap] 32)).alloc (.cells #[.slice none 0 0, .slice none 0 0, .int .i64 0] 29) = W0 at *
  have c0 := hX.cell 0
  have c1 := hX.cell 1
  have c2 := hX.cell 2
  simp only [List.getElem?_toArray, List.getElem?_cons_zero, List.getElem?_cons_succ] at c0 c1 c2
  have p0 := hY.cell 0
  have p1 := hY.cell 1
  simp only [List.getElem?_toArray, List.getElem?_cons_zero, List.getElem?_cons_succ] at p0 p1
  clear t0
  go_wp2_with fail
  refine (HL.out _).mono ?_
  rintro e W1 ⟨G1, rfl, hH1, hG1, hB1⟩
  have hB2 := hB.trans (hB1.mono hB.size)
  have hX2 := hX.below hB1 hX.lt
  have hY2 := hY.below hB1 hY.lt
  have hZ2 := hZ.below hB1 hZ.lt
  have hZl := hZ2.lt
  clear c0 c1 c2 p0 p1
  have hA := Whole.fresh W1 5 #[.int .u8 0, .int .u8 0, .int .u8 0, .int .u8 0]
  have hBA : Below W1.heap.size W1 (W1.alloc (.cells #[.int .u8 0, .int .u8 0, .int .u8 0, .int .u8 0] 5)) := (Below.refl _ W1).alloc (Nat.le_refl _) _
  have hHA : Holds (W1.alloc (.cells #[.int .u8 0, .int .u8 0, .int .u8 0, .int .u8 0] 5)) W1.heap.size 4 (fun _ => 0) := ⟨_, hA, Nat.le_refl _, fun i hi => ⟨Nat.zero_lt_succ _, by rcases (show i = 0 ∨ i = 1 ∨ i = 2 ∨ i = 3 by omega) with rfl | rfl | rfl | rfl <;> rfl⟩⟩
  obtain ⟨G5, cap5, W5, hr5, hO5, hG5, hB5⟩ := run_append_rows (W1.alloc (.cells #[.int .u8 0, .int .u8 0, .int .u8 0, .int .u8 0] 5)) 25 G1 1 4 4 _ (byteAt x) (fun _ => 0) (hH1.row.below hBA) hHA.row (by decide) (by decide) (by decide)
  simp only [Nat.reduceAdd] at hr5 hO5
  have hBB := hBA.trans (hB5.mono hBA.size)
  have hB6 := hB2.trans (hBB.mono hB2.size)
  have hX6 := hX2.below hBB hX2.lt
  have hY6 := hY2.below hBB hY2.lt
  have hZ6 := hZ2.below hBB hZ2.lt
  have c0 := hX6.cell 0
  have c1 := hX6.cell 1
  have c2 := hX6.cell 2
  simp only [List.getElem?_toArray, List.getElem?_cons_zero, List.getElem?_cons_succ] at c0 c1 c2
  have f0 := hX6.free 0
  have f1 := hX6.free 1
  have f2 := hX6.free 2
  have p0 := hY6.cell 0
  simp only [List.getElem?_toArray, List.getElem?_cons_zero] at p0
  have z0 := hZ6.cell 0
  have z1 := hZ6.cell 1
  have z2 := hZ6.cell 2
  simp only [List.getElem?_toArray, List.getElem?_cons_zero, List.getElem?_cons_succ] at z0 z1 z2
  have g0 := hZ6.free 0
  have g1 := hZ6.free 1
  have g2 := hZ6.free 2
  have hl5 := hBB.size
  obtain ⟨a5, c5, e5, hR5⟩ := hO5.row
  injection e5 with e51 e52 e53
  subst e51
  clear hX hY hZ hB hB1 HL hH1 hG1 hys hzs e2 w1 hA hBA hHA hB5 hX2 hY2 hZ2 hB2 hBB hO5 e52 e53 hG5
  go_upto_region 30 with (at_builtin; refine wpList_append_ran2 rfl _ _ 25 25 rfl _ _ _ W5 rfl rfl hr5 ?_)
  clear hr5
  by_cases hfull : op = 16
  · have hP := Lib.hid (show s.openW x = { s with e := 4 } from if_pos (hop.trans hfull))
    have t1 : ((op : Int) == 16) = true := by rw [beq_iff_eq]; omega
    have hZ3 := hZ6.away (p := ⟨w.heap.size, 2, none⟩) (by show w.heap.size + 1 + 1 ≠ w.heap.size; omega) (.int .i64 4)
    have hB3 := hB6.setCell (p := ⟨w.heap.size, 2, none⟩) (Nat.le_refl _) (.int .i64 4)
    replace hZ3 := Lib.hid hZ3
    replace hB3 := Lib.hid hB3
    replace hfull := Lib.hid hfull
    clear hX6 hY6 hZ6 hB6 hR5
    go_wp2_with fail
    have hBF := (((hB3.out).setCell (p := ⟨w.heap.size + 1 + 1, 0, none⟩) (by show w.heap.size ≤ w.heap.size + 1 + 1; omega) (.slice a N c)).setCell (p := ⟨w.heap.size + 1 + 1, 1, none⟩) (by show w.heap.size ≤ w.heap.size + 1 + 1; omega) (.slice ao op co)).setCell (p := ⟨w.heap.size + 1 + 1, 2, none⟩) (by show w.heap.size ≤ w.heap.size + 1 + 1; omega) (.int .i64 4)
    exact bodyPost_ret (results_cell_row (fn := Try.f10) (p := 4) (ty := 29) rfl _ _ _ _ _ (0, 0) _ rfl (((hZ3.out.put 0 _).put 1 _).put 2 _) Try.underlying29 rfl (by kernel_rfl)) rfl
      ⟨a, c, ao, co, by rw [hP.out, ← hN, ← hop]; rfl, by rw [hP.out]; exact ⟨hRW.out.body.below hBF, hRW.out.opens.below hBF, hRW.out.le, hRW.out.len, ⟨hRW.out.good.op, hRW.out.good.n, hRW.out.good.ps⟩⟩, hBF, .inl rfl, .inl rfl⟩
  have t1 : ((op : Int) == 16) = false := by rw [beq_eq_false_iff_ne]; omega
  by_cases hroom : 16777216 < s.n + 5
  · have hP := Lib.hid (show s.openW x = { s with e := 4 } by unfold St.openW; rw [if_neg (by rw [hop]; exact hfull), if_pos hroom])
    rw [hN] at hroom
    have r1 : (16777216 : Int) < (N : Int) + 5 := by omega
    have r2 : decide ((N : Int) + 5 > 16777216) = true := decide_eq_true (by omega)
    have r3 : wrap64 ((N : Int) + 5) = (N : Int) + 5 := by unfold wrap64; omega
    have r4 : IntKind.i64.wrap ((N : Int) + 5) = (N : Int) + 5 := by simp only [IntKind.wrap_i64]; omega
    replace hroom := Lib.hid hroom
    replace hgn := Lib.hid hgn
    have hZ3 := hZ6.away (p := ⟨w.heap.size, 2, none⟩) (by show w.heap.size + 1 + 1 ≠ w.heap.size; omega) (.int .i64 4)
    have hB3 := hB6.setCell (p := ⟨w.heap.size, 2, none⟩) (Nat.le_refl _) (.int .i64 4)
    replace hZ3 := Lib.hid hZ3
    replace hB3 := Lib.hid hB3
    replace hfull := Lib.hid hfull
    clear hX6 hY6 hZ6 hB6 hR5
    go_wp2_with fail
    have hBF := (((hB3.out).setCell (p := ⟨w.heap.size + 1 + 1, 0, none⟩) (by show w.heap.size ≤ w.heap.size + 1 + 1; omega) (.slice a N c)).setCell (p := ⟨w.heap.size + 1 + 1, 1, none⟩) (by show w.heap.size ≤ w.heap.size + 1 + 1; omega) (.slice ao op co)).setCell (p := ⟨w.heap.size + 1 + 1, 2, none⟩) (by show w.heap.size ≤ w.heap.size + 1 + 1; omega) (.int .i64 4)
    exact bodyPost_ret (results_cell_row (fn := Try.f10) (p := 4) (ty := 29) rfl _ _ _ _ _ (0, 0) _ rfl (((hZ3.out.put 0 _).put 1 _).put 2 _) Try.underlying29 rfl (by kernel_rfl)) rfl
      ⟨a, c, ao, co, by rw [hP.out, ← hN, ← hop]; rfl, by rw [hP.out]; exact ⟨hRW.out.body.below hBF, hRW.out.opens.below hBF, hRW.out.le, hRW.out.len, ⟨hRW.out.good.op, hRW.out.good.n, hRW.out.good.ps⟩⟩, hBF, .inl rfl, .inl rfl⟩
  have hP := Lib.hid (show s.openW x = s.openOk x by unfold St.openW; rw [if_neg (by rw [hop]; exact hfull), if_neg hroom])
  have hop16 : op < 16 := by omega
  have hroom2 : s.n + 5 ≤ 16777216 := by omega
  have hg2 : (s.openOk x).Good := ⟨by show s.op + 1 ≤ 16; omega, hroom2, fun i hi => by
    show 4 ≤ upd s.ps s.op (s.n + 5) i ∧ upd s.ps s.op (s.n + 5) i ≤ s.n + 5
    have hi : i < s.op + 1 := hi
    unfold upd
    split
    · omega
    · have := hRW.out.good.ps i (by omega); omega⟩
  rw [hN] at hroom hroom2
  have r1 : ¬ (16777216 : Int) < (N : Int) + 5 := by omega
  have r2 : decide ((N : Int) + 5 > 16777216) = false := decide_eq_false (by omega)
  have r3 : wrap64 ((N : Int) + 5) = (N : Int) + 5 := by unfold wrap64; omega
  have r4 : IntKind.i64.wrap ((N : Int) + 5) = (N : Int) + 5 := by simp only [IntKind.wrap_i64]; omega
  have hrow := hRW.out.body.below hB6
  rw [hN] at hrow
  obtain ⟨v8, W8, hr8, hO8, hF8, hg8⟩ := run_append_more W5 25 W5.heap.size (.slice none 0 0) 0 N c a (fun _ => 0) s.f (Owns.none _ _) (fun y hy => by cases hy) hrow (by omega) (Nat.le_refl _)
  have hB8 : Below W5.heap.size W5 W8 := From.below (fun y hy => by cases hy) hg8 (Nat.le_refl _)
  rw [Nat.zero_add] at hO8
  obtain ⟨v9, W9, hr9, hO9, hF9, hg9⟩ := run_append_more W8 25 W5.heap.size v8 N 5 cap5 _ _ _ hO8 hF8 (hR5.below hB8) (by omega) hB8.size
  have hB9 : Below W5.heap.size W5 W9 := hB8.trans (hF8.below hg9 hB8.size)
  obtain ⟨a9, c9, rfl, hle9⟩ : ∃ a9 c9, v9 = .slice a9 (N + 5) c9 ∧ N + 5 ≤ c9 := by
    rcases hO9.2 with ⟨rfl, h0⟩ | ⟨g, cap, cs, rfl, hw, q1, _⟩
    · omega
    · exact ⟨_, _, rfl, q1⟩
  have hX9 := hX6.below hB9 hX6.lt
  have hY9 := hY6.below hB9 hY6.lt
  have hZ9 := hZ6.below hB9 hZ6.lt
  have d0 := hX9.cell 0
  simp only [List.getElem?_toArray, List.getElem?_cons_zero] at d0
  have e3 := hX9.free 0
  have hF9l : ∀ y, (Value.slice a9 (N + 5) c9).ownBlock = some y → w.heap.size + 1 + 1 < y := fun y hy => by have := hF9 y hy; omega
  have hNR := Lib.hid (show ∀ ad, a9 = some ad → w.heap.size ≤ ad.block from fun ad e => by subst e; have := hF9l ad.block rfl; omega)
  have hBV := (hB6.trans (hB9.mono hB6.size)).setCell (p := ⟨w.heap.size, 0, none⟩) (Nat.le_refl _) (.slice a9 (N + 5) c9)
  have hXV := hX9.put 0 (.slice a9 (N + 5) c9)
  have hYV := hY9.away (p := ⟨w.heap.size, 0, none⟩) (by show w.heap.size + 1 ≠ w.heap.size; omega) (.slice a9 (N + 5) c9)
  have hZV := hZ9.away (p := ⟨w.heap.size, 0, none⟩) (by show w.heap.size + 1 + 1 ≠ w.heap.size; omega) (.slice a9 (N + 5) c9)
  have hOV := hO9.away (x := w.heap.size) (fun e => by have := hF9l _ e; omega) 0 (.slice a9 (N + 5) c9)
  have hsV : (W9.setCell ⟨w.heap.size, 0, none⟩ (.slice a9 (N + 5) c9)).heap.size = W9.heap.size := by simp [World.setCell]
  have hs9 := hB9.size
  have hgl := Lib.hid hg2
  have hle := Lib.hid hle9
  replace hroom := Lib.hid hroom
  replace hgn := Lib.hid hgn
  replace hfull := Lib.hid hfull
  replace hXV := Lib.hid hXV
  replace hYV := Lib.hid hYV
  replace hZV := Lib.hid hZV
  replace hOV := Lib.hid hOV
  replace hBV := Lib.hid hBV
  clear hX6 hY6 hZ6 hB6 hR5 hrow hO8 hF8 hg8 hB8 hO9 hF9 hg9 hB9 hX9 hY9 hZ9 hg2 hle9
  go_upto_region 37 with (fail)
  go_upto_region 38 with (at_builtin; refine wpList_append_ran2 rfl _ _ 25 25 rfl _ _ _ W8 rfl rfl hr8 ?_)
  clear hr8
  go_upto_region 39 with (at_builtin; refine wpList_append_ran2 rfl _ _ 25 25 rfl _ _ _ W9 rfl rfl hr9 ?_)
  clear hr9 d0 e3 c0 c1 c2 f0 f1 f2 p0 z0 z1 z2 g0 g1 g2
  generalize W9.setCell ⟨w.heap.size, 0, none⟩ (.slice a9 (N + 5) c9) = V at *
  have c0 := hXV.out.cell 0
  have c1 := hXV.out.cell 1
  simp only [List.getElem?_toArray, List.getElem?_cons_zero, List.getElem?_cons_succ, List.setIfInBounds_toArray, List.set_cons_zero] at c0 c1
  have p0 := hYV.out.cell 0
  simp only [List.getElem?_toArray, List.getElem?_cons_zero] at p0
  have hio := hRW.out.opens.below hBV.out
  rw [hop] at hio
  obtain ⟨v10, W10, hr10, hO10, hF10, hg10⟩ := run_iappend_more V 26 V.heap.size (.slice none 0 0) 0 op co ao (fun _ => 0) s.ps (.inl ⟨rfl, rfl⟩) (fun y hy => by cases hy) hio (by omega) (Nat.le_refl _)
  rw [Nat.zero_add] at hO10
  have hB10 : Below V.heap.size V W10 := From.below (fun y hy => by cases hy) hg10 (Nat.le_refl _)
  have hX10 := hXV.out.below hB10 hXV.out.lt
  have b0 := hX10.cell 0
  simp only [List.getElem?_toArray, List.getElem?_cons_zero, List.setIfInBounds_toArray, List.set_cons_zero] at b0
  clear hX10
  have hBA : Below W10.heap.size W10 (W10.alloc (.cells #[.int .i64 ((N : Int) + 5)] 3)) := (Below.refl _ W10).alloc (Nat.le_refl _) _
  have hA := Whole.fresh W10 3 #[.int .i64 ((N : Int) + 5)]
  have hIA : IRow (W10.alloc (.cells #[.int .i64 ((N : Int) + 5)] 3)) (some ⟨W10.heap.size, 0, none⟩) 1 (fun _ => N + 5) := .inr ⟨_, 0, rfl, hA.lt, fun i hi => by
    obtain rfl : i = 0 := by omega
    exact hA.cell 0⟩
  obtain ⟨v11, W11, hr11, hO11, hF11, hg11⟩ := run_iappend_more (W10.alloc (.cells #[.int .i64 ((N : Int) + 5)] 3)) 26 V.heap.size v10 op 1 1 _ _ _ (hO10.below hBA) hF10 hIA (by omega) (Nat.le_trans hB10.size hBA.size)
  have hB11 : Below V.heap.size V W11 := (hB10.trans (hBA.mono hB10.size)).trans (hF10.below hg11 (Nat.le_trans hB10.size hBA.size))
  obtain ⟨a11, c11, rfl, hI11, hle11⟩ := hO11.row
  have hXf := hXV.out.below hB11 hXV.out.lt
  have hZf := hZV.out.below hB11 hZV.out.lt
  have hOf := hOV.out.below hB11
  have hBf := hBV.out.trans (hB11.mono hBV.out.size)
  have hF11l : ∀ y, (Value.slice a11 (op + 1) c11).ownBlock = some y → w.heap.size + 1 + 1 < y := fun y hy => by have := hF11 y hy; omega
  have hNO := Lib.hid (show ∀ ad, a11 = some ad → w.heap.size ≤ ad.block from fun ad e => by subst e; have := hF11l ad.block rfl; omega)
  have q0 := hXf.cell 0
  have q1 := hXf.cell 1
  have q2 := hXf.cell 2
  simp only [List.getElem?_toArray, List.getElem?_cons_zero, List.getElem?_cons_succ, List.setIfInBounds_toArray, List.set_cons_zero] at q0 q1 q2
  have u1 := hXf.free 1
  have z0 := hZf.cell 0
  have z1 := hZf.cell 1
  have z2 := hZf.cell 2
  simp only [List.getElem?_toArray, List.getElem?_cons_zero, List.getElem?_cons_succ] at z0 z1 z2
  have g0 := hZf.free 0
  have g1 := hZf.free 1
  have g2 := hZf.free 2
  have hZ4 := Lib.hid (hZf.away (p := ⟨w.heap.size, 1, none⟩) (by show w.heap.size + 1 + 1 ≠ w.heap.size; omega) (.slice a11 (op + 1) c11))
  have hB4 := Lib.hid (hBf.setCell (p := ⟨w.heap.size, 1, none⟩) (Nat.le_refl _) (.slice a11 (op + 1) c11))
  have hO4 := Lib.hid ((((hOf.away (x := w.heap.size) (fun e => by have := hF9l _ e; omega) 1 (.slice a11 (op + 1) c11)).away (x := w.heap.size + 1 + 1) (fun e => by have := hF9l _ e; omega) 0 (.slice a9 (N + 5) c9)).away (x := w.heap.size + 1 + 1) (fun e => by have := hF9l _ e; omega) 1 (.slice a11 (op + 1) c11)).away (x := w.heap.size + 1 + 1) (fun e => by have := hF9l _ e; omega) 2 (.int .i64 0))
  have hI4 := Lib.hid ((((hO11.away (x := w.heap.size) (fun e => by have := hF11l _ e; omega) 1 (.slice a11 (op + 1) c11)).away (x := w.heap.size + 1 + 1) (fun e => by have := hF11l _ e; omega) 0 (.slice a9 (N + 5) c9)).away (x := w.heap.size + 1 + 1) (fun e => by have := hF11l _ e; omega) 1 (.slice a11 (op + 1) c11)).away (x := w.heap.size + 1 + 1) (fun e => by have := hF11l _ e; omega) 2 (.int .i64 0))
  clear hXV hYV hZV hOV hBV hio hO10 hF10 hg10 hB10 hBA hA hIA hO11 hF11 hg11 hB11 hI11 hXf hZf hOf hBf hF11l hF9l
  go_upto_region 42 with (at_builtin; refine wpList_append_ran2 rfl _ _ 26 26 rfl _ _ _ W10 rfl rfl hr10 ?_)
  clear hr10
  go_wp2_with (at_builtin; refine wpList_append_ran2 rfl _ _ 26 26 rfl _ _ _ W11 rfl rfl hr11 ?_)
  have hBF := (((hB4.out).setCell (p := ⟨w.heap.size + 1 + 1, 0, none⟩) (by show w.heap.size ≤ w.heap.size + 1 + 1; omega) (.slice a9 (N + 5) c9)).setCell (p := ⟨w.heap.size + 1 + 1, 1, none⟩) (by show w.heap.size ≤ w.heap.size + 1 + 1; omega) (.slice a11 (op + 1) c11)).setCell (p := ⟨w.heap.size + 1 + 1, 2, none⟩) (by show w.heap.size ≤ w.heap.size + 1 + 1; omega) (.int .i64 0)
  exact bodyPost_ret (results_cell_row (fn := Try.f10) (p := 4) (ty := 29) rfl _ _ _ _ _ (0, 0) _ rfl (((hZ4.out.put 0 _).put 1 _).put 2 _) Try.underlying29 rfl (by kernel_rfl)) rfl
    ⟨a9, c9, a11, c11, by rw [hP.out]; show _ = Ending.returned (.agg #[.slice a9 (s.n + 5) c9, .slice a11 (s.op + 1) c11, .int .i64 (s.e : Nat)]); rw [hN, hop, hge.out]; rfl,
      by
        rw [hP.out]
        refine ⟨?_, ?_, by show s.op + 1 ≤ c11; rw [hop]; exact hle11, by show s.n + 5 ≤ c9; rw [hN]; exact hle.out, hgl.out⟩
        · obtain ⟨a2, c2, e, hr⟩ := hO4.out.row
          injection e with e1 e2 e3
          subst e1
          show Row _ a9 (s.n + 5) _
          rw [hN]
          exact hr.congr (fun i hi => by
            show both (both (fun _ => 0) 0 s.f) N (both (byteAt x) 1 fun _ => 0) i = if i < s.n then s.f i else if i = s.n then x else 0
            rw [hN]
            unfold both
            by_cases q : i < N
            · rw [if_pos q, if_pos q, if_neg (by omega)]; rfl
            · rw [if_neg q, if_neg q]
              by_cases q2 : i = N
              · subst q2
                rw [if_pos rfl, if_pos (by omega), Nat.sub_self]
                have := hx.out
                simp only [byteAt, Nat.mul_zero, Nat.pow_zero, Nat.div_one]
                omega
              · rw [if_neg q2, if_neg (by omega)])
        · obtain ⟨a2, c2, e, hr, _⟩ := hI4.out.row
          injection e with e1 e2 e3
          subst e1
          show IRow _ a11 (s.op + 1) _
          rw [hop]
          refine hr.imp id (fun ⟨b, o, k1, k2, k3⟩ => ⟨b, o, k1, k2, fun i hi => ?_⟩)
          rw [k3 i hi]
          show some (Value.int .i64 ((both (both (fun _ => 0) 0 s.ps) op (fun _ => N + 5) i : Nat) : Int)) = some (Value.int .i64 ((upd s.ps s.op (s.n + 5) i : Nat) : Int))
          rw [hop, hN]
          unfold both upd
          by_cases q : i < op
          · rw [if_pos q, if_neg (by omega), if_neg (by omega)]; rfl
          · rw [if_neg q, if_pos (by omega)], hBF, .inr fun ad e => ⟨hNR.out ad e, by subst e; exact hO4.out.lt _ rfl⟩, .inr fun ad e => ⟨hNO.out ad e, by subst e; exact hI4.out.lt _ rfl⟩⟩
end Go.Proofs.Ytacnmnodbmbplaa
