/-
  TuneSums: the walk.
-/
import Derived.Test.YthecghmhohkcmaaGreatDoorTSmW
namespace Go.Proofs.YthecghmhohkcmaaGreatDoor.tuneSums
open Go.RowKit Go.Shelf
set_option maxRecDepth 100000
set_option maxHeartbeats 1000000
set_option linter.unusedVariables false
set_option linter.unusedSimpArgs false

theorem walkH (r : Rp) (p w : Nat) (W : World) (hr : r.Ok) (hp : p < 256) (hw : w < 65536) (hH : r.H = true) :
    Calls Tryz.prog 8 #[pegV r, .int .u8 p, .int .u16 w] W fun e W' => e = .returned (.bool true) ∧ Below W.heap.size W W' := by
  have HS := Lib.hid (fun V => sums_any V)
  obtain ⟨A, X, Y, S, P, Pc, H⟩ := r
  cases hH
  unfold pegV
  have hx := Lib.hid (Whole.fresh W 24 (pegC ⟨A, X, Y, S, P, Pc, true⟩))
  have hb0 := Lib.hid ((Below.refl W.heap.size W).alloc (Nat.le_refl _) (.cells (pegC ⟨A, X, Y, S, P, Pc, true⟩) 24))
  unfold pegC at hx hb0
  go_enter Tryz.func8, Tryz.ntmps8
  go_wp2_with fail
  with_reducible refine (HS.out _).mono ?_
  rintro e W1 ⟨rfl, hb1⟩
  have hx1 := hx.out.below hb1 hx.out.lt
  have x6 := hx1.cell 6
  simp only [List.getElem?_toArray, List.getElem?_cons_zero, List.getElem?_cons_succ] at x6
  replace hb1 := hb0.out.trans (hb1.mono (by simp))
  clear hx hx1 hb0
  go_wp2_with fail
  with_reducible refine (HS.out _).mono ?_
  rintro e W2 ⟨rfl, hb2⟩
  replace hb1 := hb1.trans (hb2.mono hb1.size)
  clear x6 hb2
  go_wp2_with fail
  go_ret
  exact ⟨rfl, hb1⟩
theorem walkN (r : Rp) (p w : Nat) (W : World) (hr : r.Ok) (hp : p < 256) (hw : w < 65536) (hH : r.H = false) :
    Calls Tryz.prog 8 #[pegV r, .int .u8 p, .int .u16 w] W fun e W' => e = .returned (.bool true) ∧ Below W.heap.size W W' := by
  have HS := Lib.hid (fun V => sums_any V)
  obtain ⟨A, X, Y, S, P, Pc, H⟩ := r
  cases hH
  unfold pegV
  have hx := Lib.hid (Whole.fresh W 24 (pegC ⟨A, X, Y, S, P, Pc, false⟩))
  have hb0 := Lib.hid ((Below.refl W.heap.size W).alloc (Nat.le_refl _) (.cells (pegC ⟨A, X, Y, S, P, Pc, false⟩) 24))
  unfold pegC at hx hb0
  have hr' := Lib.hid hr
  have hA := hr.A
  have hY := hr.Y
  obtain ⟨lo, hlo'⟩ : ∃ lo, lo = w % 256 := ⟨_, rfl⟩
  obtain ⟨hi, hhi'⟩ : ∃ hi, hi = w / 256 := ⟨_, rfl⟩
  have hlo : (w : Int) % 256 = (lo : Int) := by omega
  have hhi : (w : Int) / 256 = (hi : Int) := by omega
  have hll : lo < 256 := by omega
  have hhl : hi < 256 := by omega
  have hwe : hi * 256 + lo = w := by omega
  clear hlo' hhi'
  clear hr
  go_enter Tryz.func8, Tryz.ntmps8
  go_wp2_with fail
  with_reducible refine (HS.out _).mono ?_
  rintro e W1 ⟨rfl, hb1⟩
  have hx1 := hx.out.below hb1 hx.out.lt
  have x0 := hx1.cell 0
  have x1 := hx1.cell 1
  have x2 := hx1.cell 2
  have x3 := hx1.cell 3
  have x4 := hx1.cell 4
  have x5 := hx1.cell 5
  have x6 := hx1.cell 6
  simp only [List.getElem?_toArray, List.getElem?_cons_zero, List.getElem?_cons_succ] at x0 x1 x2 x3 x4 x5 x6
  replace hb1 := hb0.out.trans (hb1.mono (by simp))
  replace hx1 := Lib.hid hx1
  clear hx hb0
  have hs := Whole.fresh W1 5 #[.int .u8 122, .int .u8 p, .int .u8 lo, .int .u8 hi]
  have hx2 := hx1.out.alloc (.cells #[.int .u8 122, .int .u8 p, .int .u8 lo, .int .u8 hi] 5)
  replace hb1 := hb1.alloc hb1.size (.cells #[.int .u8 122, .int .u8 p, .int .u8 lo, .int .u8 hi] 5)
  have hsb : W.heap.size ≤ W1.heap.size := Nat.le_of_lt hx1.out.lt
  have hR : Row (W1.alloc (.cells #[.int .u8 122, .int .u8 p, .int .u8 lo, .int .u8 hi] 5)) (some ⟨W1.heap.size, 0, none⟩) 4 (fun i => [122, p, lo, hi].getD i 0) := Row.whole [122, p, lo, hi] (by simp; omega) hs
  have HC := course_at _ _ 122 [p, lo, hi] 4 5 _ 4 (W1.alloc (.cells #[.int .u8 122, .int .u8 p, .int .u8 lo, .int .u8 hi] 5)) hr'.out rfl hR (by decide) ok122 (go122 A X Y S P Pc p lo hi) (go122l A X Y S P Pc p lo hi)
  rw [hwe] at HC
  have hH2 : (addR 0 w ⟨A, X, Y, S, P, ((Pc + 1) % 65536 + 1) % 65536, false⟩).H = false := rfl
  have hS2 := addW_sum w ⟨A, X, Y, S, P, ((Pc + 1) % 65536 + 1) % 65536, false⟩ ⟨hr'.out.A, hr'.out.X, hr'.out.Y, hr'.out.S, hr'.out.P, Nat.mod_lt _ (by decide)⟩ hw
  rw [show yaR ⟨A, X, Y, S, P, ((Pc + 1) % 65536 + 1) % 65536, false⟩ = Y * 256 + A from rfl] at hS2
  generalize addR 0 w ⟨A, X, Y, S, P, ((Pc + 1) % 65536 + 1) % 65536, false⟩ = r2 at *
  obtain ⟨A2, X2, Y2, S2, P2, Pc2, H2⟩ := r2
  dsimp only at hH2 hS2
  subst hH2
  unfold pegV at HC
  replace HC := Lib.hid HC
  clear x0 x1 x3 x4 x5 x2
  have y0 := hx2.cell 0
  have y1 := hx2.cell 1
  have y2 := hx2.cell 2
  have y3 := hx2.cell 3
  have y4 := hx2.cell 4
  have y5 := hx2.cell 5
  have y6 := hx2.cell 6
  simp only [List.getElem?_toArray, List.getElem?_cons_zero, List.getElem?_cons_succ] at y0 y1 y2 y3 y4 y5 y6
  have x0 := hx1.out.cell 0
  have x2 := hx1.out.cell 2
  simp only [List.getElem?_toArray, List.getElem?_cons_zero, List.getElem?_cons_succ] at x0 x2
  replace hx2 := Lib.hid hx2
  replace hs := Lib.hid hs
  replace hb1 := Lib.hid hb1
  replace hS2 := Lib.hid hS2
  replace hsb := Lib.hid hsb
  clear hR hr' HS hx1
  replace hwe := Lib.hid hwe
  go_wp2_with fail
  with_reducible refine HC.out.mono ?_
  rintro e W3 ⟨⟨la, lc, rfl⟩, hb3, hok2⟩
  have hs3 := hs.out.below hb3 hs.out.lt
  have hx3 := hx2.out.below hb3 hx2.out.lt
  have hb3' := hb1.out.trans (hb3.mono hb1.out.size)
  clear HC hb3 hs hx2 hb1 x0 x2 x6 y0 y1 y2 y3 y4 y5 y6
  go_upto_region 6 with (fail)
  have hz4 := Whole.fresh W3 24 #[.int .u8 A2, .int .u8 X2, .int .u8 Y2, .int .u8 S2, .int .u8 P2, .int .u16 Pc2, .bool false]
  have hs4 := hs3.alloc (.cells #[.int .u8 A2, .int .u8 X2, .int .u8 Y2, .int .u8 S2, .int .u8 P2, .int .u16 Pc2, .bool false] 24)
  have hx4 := hx3.alloc (.cells #[.int .u8 A2, .int .u8 X2, .int .u8 Y2, .int .u8 S2, .int .u8 P2, .int .u16 Pc2, .bool false] 24)
  have hb4 := hb3'.alloc hb3'.size (.cells #[.int .u8 A2, .int .u8 X2, .int .u8 Y2, .int .u8 S2, .int .u8 P2, .int .u16 Pc2, .bool false] 24)
  have hZ : W.heap.size ≤ W3.heap.size := hb3'.size
  clear hs3 hx3 hb3'
  generalize W3.alloc (.cells #[.int .u8 A2, .int .u8 X2, .int .u8 Y2, .int .u8 S2, .int .u8 P2, .int .u16 Pc2, .bool false] 24) = W4 at *
  generalize W3.heap.size = D at *
  generalize W1.heap.size = B at *
  have hsz : B ≠ D := whole_apart hs4 hz4 (by decide)
  have hsx : B ≠ W.heap.size := whole_apart hs4 hx4 (by decide)
  obtain ⟨v1, v2, v3, v4⟩ := hS2.out
  clear hS2
  have hA2 := hok2.A
  have hY2 := hok2.Y
  have hP2 := hok2.P
  have hvI : ((Y : Int) * 256 + (A : Int) + (w : Int)) % 65536 = (Y2 : Int) * 256 + (A2 : Int) := by omega
  have hS3 := subW_sum w ⟨A2, X2, Y2, S2, P2, ((Pc2 + 1) % 65536 + 1) % 65536, false⟩ ⟨hok2.A, hok2.X, hok2.Y, hok2.S, hok2.P, Nat.mod_lt _ (by decide)⟩ hw
  rw [show yaR ⟨A2, X2, Y2, S2, P2, ((Pc2 + 1) % 65536 + 1) % 65536, false⟩ = Y2 * 256 + A2 from rfl] at hS3
  have hs5 := hs4.put 0 (.int .u8 154)
  have hx5 := hx4.away (p := ⟨B, 0, none⟩) hsx.symm (.int .u8 154)
  have hz5 := hz4.away (p := ⟨B, 0, none⟩) hsz.symm (.int .u8 154)
  have hb5 := hb4.setCell (p := ⟨B, 0, none⟩) hsb.out (.int .u8 154)
  have hR5 : Row (W4.setCell ⟨B, 0, none⟩ (.int .u8 154)) (some ⟨B, 0, none⟩) 4 (fun i => [154, p, lo, hi].getD i 0) := Row.whole [154, p, lo, hi] (by simp; omega) hs5
  have HC := course_at _ _ 154 [p, lo, hi] 4 5 _ 4 (W4.setCell ⟨B, 0, none⟩ (.int .u8 154)) hok2 rfl hR5 (by decide) ok154 (go154 A2 X2 Y2 S2 P2 Pc2 p lo hi) (go154l A2 X2 Y2 S2 P2 Pc2 p lo hi)
  rw [hwe.out] at HC
  generalize addR 1 w ⟨A2, X2, Y2, S2, P2, ((Pc2 + 1) % 65536 + 1) % 65536, false⟩ = r3 at *
  obtain ⟨A3, X3, Y3, S3, P3, Pc3, H3⟩ := r3
  dsimp only at hS3
  unfold pegV at HC
  dsimp only at HC hA2 hY2 hP2
  obtain ⟨hY3, hA3, hP3⟩ := hS3
  obtain rfl : Y3 = Y := by omega
  obtain rfl : A3 = A := by omega
  replace HC := Lib.hid HC
  have z0 := hz4.cell 0
  have z2 := hz4.cell 2
  have z4 := hz4.cell 4
  have s0 := hs4.cell 0
  have sf := hs4.free 0
  have y0 := hz5.cell 0
  have y1 := hz5.cell 1
  have y2 := hz5.cell 2
  have y3 := hz5.cell 3
  have y4 := hz5.cell 4
  have y5 := hz5.cell 5
  have y6 := hz5.cell 6
  simp only [List.getElem?_toArray, List.getElem?_cons_zero, List.getElem?_cons_succ] at z0 z2 z4 s0 y0 y1 y2 y3 y4 y5 y6
  replace hx5 := Lib.hid hx5
  replace hb5 := Lib.hid hb5
  replace hok2 := Lib.hid hok2
  rw [← v1] at v3 v4
  have e1 : ∀ c : Nat, P2 &&& 1 = c → bits .and .u8 (P2 : Int) 1 = (c : Int) := fun c h => (u8_and_nat P2 1 hP2 (by decide)).trans (by rw [h])
  have e2 : ∀ c : Nat, P2 &&& 2 = c → bits .and .u8 (P2 : Int) 2 = (c : Int) := fun c h => (u8_and_nat P2 2 hP2 (by decide)).trans (by rw [h])
  have e3 : ∀ c : Nat, P2 &&& 128 = c → bits .and .u8 (P2 : Int) 128 = (c : Int) := fun c h => (u8_and_nat P2 128 hP2 (by decide)).trans (by rw [h])
  clear hs4 hz4 hx4 hb4 hs5 hz5 hR5 hsz hsx hZ hY3 hA3 hsb hwe hlo hhi
  have key := trivial
  by_cases hov : 65535 < Y3 * 256 + A3 + w
  · have hge : ¬ w ≤ Y2 * 256 + A2 := by omega
    have d1 : decide (65535 < (Y3 : Int) * 256 + (A3 : Int) + (w : Int)) = true := by simp only [decide_eq_true_eq, decide_eq_false_iff_not]; omega
    have d4 : decide ((w : Int) ≤ (Y2 : Int) * 256 + (A2 : Int)) = false := by simp only [decide_eq_true_eq, decide_eq_false_iff_not]; omega
    replace e1 := e1 1 (by rw [v2, if_pos hov])
    rw [if_neg hge] at hP3
    by_cases hz : Y2 * 256 + A2 = 0
    · have hn : ¬ 32767 < Y2 * 256 + A2 := by omega
      have d2 : ((Y2 : Int) * 256 + (A2 : Int) == 0) = true := by simp only [beq_iff_eq, beq_eq_false_iff_ne]; omega
      have d3 : decide (32767 < (Y2 : Int) * 256 + (A2 : Int)) = false := by simp only [decide_eq_true_eq, decide_eq_false_iff_not]; omega
      replace e2 := e2 2 (by rw [v3, if_pos hz])
      replace e3 := e3 0 (by rw [v4, if_neg hn])
      clear v2 v3 v4 key
      go_wp2_with fail
      with_reducible refine HC.out.mono ?_
      rintro e W6 ⟨⟨la6, lc6, rfl⟩, hb6, hok3⟩
      have hP3' : P3 < 256 := hok3.P
      have e4 : bits .and .u8 (P3 : Int) 1 = 0 := (u8_and_nat P3 1 hP3' (by decide)).trans (by rw [hP3]; rfl)
      have hx6 := (hx5.out.below hb6 hx5.out.lt).alloc (.cells #[.int .u8 A3, .int .u8 X3, .int .u8 Y3, .int .u8 S3, .int .u8 P3, .int .u16 Pc3, .bool H3] 24)
      have q0 := hx6.cell 0
      have q2 := hx6.cell 2
      simp only [List.getElem?_toArray, List.getElem?_cons_zero, List.getElem?_cons_succ] at q0 q2
      have hb7 := hb5.out.trans (hb6.mono hb5.out.size)
      clear HC hx6 hb6 hok3 hx5 hb5 z0 z2 z4 s0 sf y0 y1 y2 y3 y4 y5 y6 hok2
      go_wp2_with fail
      go_ret
      exact ⟨rfl, hb7.alloc hb7.size _⟩
    · replace e2 := e2 0 (by rw [v3, if_neg hz])
      have d2 : ((Y2 : Int) * 256 + (A2 : Int) == 0) = false := by simp only [beq_iff_eq, beq_eq_false_iff_ne]; omega
      by_cases hn : 32767 < Y2 * 256 + A2
      · replace e3 := e3 128 (by rw [v4, if_pos hn])
        have d3 : decide (32767 < (Y2 : Int) * 256 + (A2 : Int)) = true := by simp only [decide_eq_true_eq, decide_eq_false_iff_not]; omega
        clear v2 v3 v4 key
        go_wp2_with fail
        with_reducible refine HC.out.mono ?_
        rintro e W6 ⟨⟨la6, lc6, rfl⟩, hb6, hok3⟩
        have hP3' : P3 < 256 := hok3.P
        have e4 : bits .and .u8 (P3 : Int) 1 = 0 := (u8_and_nat P3 1 hP3' (by decide)).trans (by rw [hP3]; rfl)
        have hx6 := (hx5.out.below hb6 hx5.out.lt).alloc (.cells #[.int .u8 A3, .int .u8 X3, .int .u8 Y3, .int .u8 S3, .int .u8 P3, .int .u16 Pc3, .bool H3] 24)
        have q0 := hx6.cell 0
        have q2 := hx6.cell 2
        simp only [List.getElem?_toArray, List.getElem?_cons_zero, List.getElem?_cons_succ] at q0 q2
        have hb7 := hb5.out.trans (hb6.mono hb5.out.size)
        clear HC hx6 hb6 hok3 hx5 hb5 z0 z2 z4 s0 sf y0 y1 y2 y3 y4 y5 y6 hok2
        go_wp2_with fail
        go_ret
        exact ⟨rfl, hb7.alloc hb7.size _⟩
      · replace e3 := e3 0 (by rw [v4, if_neg hn])
        have d3 : decide (32767 < (Y2 : Int) * 256 + (A2 : Int)) = false := by simp only [decide_eq_true_eq, decide_eq_false_iff_not]; omega
        clear v2 v3 v4 key
        go_wp2_with fail
        with_reducible refine HC.out.mono ?_
        rintro e W6 ⟨⟨la6, lc6, rfl⟩, hb6, hok3⟩
        have hP3' : P3 < 256 := hok3.P
        have e4 : bits .and .u8 (P3 : Int) 1 = 0 := (u8_and_nat P3 1 hP3' (by decide)).trans (by rw [hP3]; rfl)
        have hx6 := (hx5.out.below hb6 hx5.out.lt).alloc (.cells #[.int .u8 A3, .int .u8 X3, .int .u8 Y3, .int .u8 S3, .int .u8 P3, .int .u16 Pc3, .bool H3] 24)
        have q0 := hx6.cell 0
        have q2 := hx6.cell 2
        simp only [List.getElem?_toArray, List.getElem?_cons_zero, List.getElem?_cons_succ] at q0 q2
        have hb7 := hb5.out.trans (hb6.mono hb5.out.size)
        clear HC hx6 hb6 hok3 hx5 hb5 z0 z2 z4 s0 sf y0 y1 y2 y3 y4 y5 y6 hok2
        go_wp2_with fail
        go_ret
        exact ⟨rfl, hb7.alloc hb7.size _⟩
  · have hge : w ≤ Y2 * 256 + A2 := by omega
    have d1 : decide (65535 < (Y3 : Int) * 256 + (A3 : Int) + (w : Int)) = false := by simp only [decide_eq_true_eq, decide_eq_false_iff_not]; omega
    have d4 : decide ((w : Int) ≤ (Y2 : Int) * 256 + (A2 : Int)) = true := by simp only [decide_eq_true_eq, decide_eq_false_iff_not]; omega
    replace e1 := e1 0 (by rw [v2, if_neg hov])
    rw [if_pos hge] at hP3
    by_cases hz : Y2 * 256 + A2 = 0
    · have hn : ¬ 32767 < Y2 * 256 + A2 := by omega
      have d2 : ((Y2 : Int) * 256 + (A2 : Int) == 0) = true := by simp only [beq_iff_eq, beq_eq_false_iff_ne]; omega
      have d3 : decide (32767 < (Y2 : Int) * 256 + (A2 : Int)) = false := by simp only [decide_eq_true_eq, decide_eq_false_iff_not]; omega
      replace e2 := e2 2 (by rw [v3, if_pos hz])
      replace e3 := e3 0 (by rw [v4, if_neg hn])
      clear v2 v3 v4 key
      go_wp2_with fail
      with_reducible refine HC.out.mono ?_
      rintro e W6 ⟨⟨la6, lc6, rfl⟩, hb6, hok3⟩
      have hP3' : P3 < 256 := hok3.P
      have e4 : bits .and .u8 (P3 : Int) 1 = 1 := (u8_and_nat P3 1 hP3' (by decide)).trans (by rw [hP3]; rfl)
      have hx6 := (hx5.out.below hb6 hx5.out.lt).alloc (.cells #[.int .u8 A3, .int .u8 X3, .int .u8 Y3, .int .u8 S3, .int .u8 P3, .int .u16 Pc3, .bool H3] 24)
      have q0 := hx6.cell 0
      have q2 := hx6.cell 2
      simp only [List.getElem?_toArray, List.getElem?_cons_zero, List.getElem?_cons_succ] at q0 q2
      have hb7 := hb5.out.trans (hb6.mono hb5.out.size)
      clear HC hx6 hb6 hok3 hx5 hb5 z0 z2 z4 s0 sf y0 y1 y2 y3 y4 y5 y6 hok2
      go_wp2_with fail
      go_ret
      exact ⟨rfl, hb7.alloc hb7.size _⟩
    · replace e2 := e2 0 (by rw [v3, if_neg hz])
      have d2 : ((Y2 : Int) * 256 + (A2 : Int) == 0) = false := by simp only [beq_iff_eq, beq_eq_false_iff_ne]; omega
      by_cases hn : 32767 < Y2 * 256 + A2
      · replace e3 := e3 128 (by rw [v4, if_pos hn])
        have d3 : decide (32767 < (Y2 : Int) * 256 + (A2 : Int)) = true := by simp only [decide_eq_true_eq, decide_eq_false_iff_not]; omega
        clear v2 v3 v4 key
        go_wp2_with fail
        with_reducible refine HC.out.mono ?_
        rintro e W6 ⟨⟨la6, lc6, rfl⟩, hb6, hok3⟩
        have hP3' : P3 < 256 := hok3.P
        have e4 : bits .and .u8 (P3 : Int) 1 = 1 := (u8_and_nat P3 1 hP3' (by decide)).trans (by rw [hP3]; rfl)
        have hx6 := (hx5.out.below hb6 hx5.out.lt).alloc (.cells #[.int .u8 A3, .int .u8 X3, .int .u8 Y3, .int .u8 S3, .int .u8 P3, .int .u16 Pc3, .bool H3] 24)
        have q0 := hx6.cell 0
        have q2 := hx6.cell 2
        simp only [List.getElem?_toArray, List.getElem?_cons_zero, List.getElem?_cons_succ] at q0 q2
        have hb7 := hb5.out.trans (hb6.mono hb5.out.size)
        clear HC hx6 hb6 hok3 hx5 hb5 z0 z2 z4 s0 sf y0 y1 y2 y3 y4 y5 y6 hok2
        go_wp2_with fail
        go_ret
        exact ⟨rfl, hb7.alloc hb7.size _⟩
      · replace e3 := e3 0 (by rw [v4, if_neg hn])
        have d3 : decide (32767 < (Y2 : Int) * 256 + (A2 : Int)) = false := by simp only [decide_eq_true_eq, decide_eq_false_iff_not]; omega
        clear v2 v3 v4 key
        go_wp2_with fail
        with_reducible refine HC.out.mono ?_
        rintro e W6 ⟨⟨la6, lc6, rfl⟩, hb6, hok3⟩
        have hP3' : P3 < 256 := hok3.P
        have e4 : bits .and .u8 (P3 : Int) 1 = 1 := (u8_and_nat P3 1 hP3' (by decide)).trans (by rw [hP3]; rfl)
        have hx6 := (hx5.out.below hb6 hx5.out.lt).alloc (.cells #[.int .u8 A3, .int .u8 X3, .int .u8 Y3, .int .u8 S3, .int .u8 P3, .int .u16 Pc3, .bool H3] 24)
        have q0 := hx6.cell 0
        have q2 := hx6.cell 2
        simp only [List.getElem?_toArray, List.getElem?_cons_zero, List.getElem?_cons_succ] at q0 q2
        have hb7 := hb5.out.trans (hb6.mono hb5.out.size)
        clear HC hx6 hb6 hok3 hx5 hb5 z0 z2 z4 s0 sf y0 y1 y2 y3 y4 y5 y6 hok2
        go_wp2_with fail
        go_ret
        exact ⟨rfl, hb7.alloc hb7.size _⟩
theorem walk (r : Rp) (p w : Nat) (W : World) (hr : r.Ok) (hp : p < 256) (hw : w < 65536) :
    Calls Tryz.prog 8 #[pegV r, .int .u8 p, .int .u16 w] W fun e W' => e = .returned (.bool true) ∧ Below W.heap.size W W' := by
  cases h : r.H
  · exact walkN r p w W hr hp hw h
  · exact walkH r p w W hr hp hw h
end Go.Proofs.YthecghmhohkcmaaGreatDoor.tuneSums
