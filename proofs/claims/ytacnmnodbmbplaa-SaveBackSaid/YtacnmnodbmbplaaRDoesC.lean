/-
  The document's Does: Close.
-/
import Derived.Test.YtacnmnodbmbplaaRDoesO
namespace Go.Proofs.Ytacnmnodbmbplaa
open Go.RowKit Go.Shelf
set_option maxRecDepth 100000
set_option maxHeartbeats 1000000
theorem rdoes_7 {a ao : Option Addr} {c co : Nat} {s : St} (what n : Int) (pa : Option Addr) (len cap : Nat) (w : World) (h : RW w a c ao co s) (he : s.e = 0)
    (t0 : (what == 0) = false) (t1 : (what == 1) = false) (t2 : (what == 2) = false) (t3 : (what == 3) = false) (t4 : (what == 4) = false) (t5 : (what == 5) = false) (t6 : (what == 6) = false) :
    Calls Try.prog 10 #[rwV a c ao co s, putV what n pa len cap] w fun e w' => ∃ a' c' ao' co', e = .returned (rwV a' c' ao' co' s.closeW) ∧ RW w' a' c' ao' co' s.closeW ∧ Below w.heap.size w w' ∧ NewRow w.heap.size w' a a' ∧ NewRow w.heap.size w' ao ao' := by
  have hX := ((Whole.fresh w 29 #[.slice a s.n c, .slice ao s.op co, .int .i64 (s.e : Nat)]).alloc (.cells #[.int .i64 what, .int .i64 n, .slice pa len cap] 32)).alloc (.cells #[.slice none 0 0, .slice none 0 0, .int .i64 0] 29)
  have hY := (Whole.fresh (w.alloc (.cells #[.slice a s.n c, .slice ao s.op co, .int .i64 (s.e : Nat)] 29)) 32 #[.int .i64 what, .int .i64 n, .slice pa len cap]).alloc (.cells #[.slice none 0 0, .slice none 0 0, .int .i64 0] 29)
  have hZ := Whole.fresh ((w.alloc (.cells #[.slice a s.n c, .slice ao s.op co, .int .i64 (s.e : Nat)] 29)).alloc (.cells #[.int .i64 what, .int .i64 n, .slice pa len cap] 32)) 29 #[.slice none 0 0, .slice none 0 0, .int .i64 0]
  have hB := (((Below.refl w.heap.size w).alloc (Nat.le_refl _) (.cells #[.slice a s.n c, .slice ao s.op co, .int .i64 (s.e : Nat)] 29)).alloc (by simp) (.cells #[.int .i64 what, .int .i64 n, .slice pa len cap] 32)).alloc (by simp; omega) (.cells #[.slice none 0 0, .slice none 0 0, .int .i64 0] 29)
  have hys : (w.alloc (.cells #[.slice a s.n c, .slice ao s.op co, .int .i64 (s.e : Nat)] 29)).heap.size = w.heap.size + 1 := by simp
  have hzs : ((w.alloc (.cells #[.slice a s.n c, .slice ao s.op co, .int .i64 (s.e : Nat)] 29)).alloc (.cells #[.int .i64 what, .int .i64 n, .slice pa len cap] 32)).heap.size = w.heap.size + 1 + 1 := by simp
  rw [hys] at hY
  rw [hzs] at hZ
  have hRW := Lib.hid h
  have hgn := h.good.n
  have hgo := h.good.op
  have hge := Lib.hid he
  unfold rwV putV
  rw [he] at hX hY hZ hB hys hzs ⊢
  clear h he
  go_enter Try.func10, Try.ntmps10
  go_upto_region 1 with (fail)
  have e0 : ((0 : Nat) : Int) = 0 := rfl
  rw [e0] at hX hY hZ hB
  obtain ⟨N, hN⟩ : ∃ N, s.n = N := ⟨_, rfl⟩
  obtain ⟨op, hop⟩ : ∃ op, s.op = op := ⟨_, rfl⟩
  rw [hN, hop] at hX hY hZ hB ⊢
  rw [hN] at hgn
  rw [hop] at hgo
  generalize ((w.alloc (.cells #[.slice a N c, .slice ao op co, .int .i64 0] 29)).alloc (.cells #[.int .i64 what, .int .i64 n, .slice pa len cap] 32)).alloc (.cells #[.slice none 0 0, .slice none 0 0, .int .i64 0] 29) = W0 at *
  have c0 := hX.cell 0
  have c1 := hX.cell 1
  have c2 := hX.cell 2
  simp only [List.getElem?_toArray, List.getElem?_cons_zero, List.getElem?_cons_succ] at c0 c1 c2
  have f0 := hX.free 0
  have f1 := hX.free 1
  have f2 := hX.free 2
  have p0 := hY.cell 0
  simp only [List.getElem?_toArray, List.getElem?_cons_zero] at p0
  have hZl := hZ.lt
  have z0 := hZ.cell 0
  have z1 := hZ.cell 1
  have z2 := hZ.cell 2
  simp only [List.getElem?_toArray, List.getElem?_cons_zero, List.getElem?_cons_succ] at z0 z1 z2
  have g0 := hZ.free 0
  have g1 := hZ.free 1
  have g2 := hZ.free 2
  by_cases hnone : op = 0
  · have hP := Lib.hid (show s.closeW = { s with e := 2 } from if_pos (hop.trans hnone))
    have o1 : ((op : Int) == 0) = true := by rw [beq_iff_eq]; omega
    have hZ3 := hZ.away (p := ⟨w.heap.size, 2, none⟩) (by show w.heap.size + 1 + 1 ≠ w.heap.size; omega) (.int .i64 2)
    have hB3 := hB.setCell (p := ⟨w.heap.size, 2, none⟩) (Nat.le_refl _) (.int .i64 2)
    replace hZ3 := Lib.hid hZ3
    replace hB3 := Lib.hid hB3
    replace hnone := Lib.hid hnone
    clear hX hY hZ hB
    go_wp2_with fail
    have hBF := (((hB3.out).setCell (p := ⟨w.heap.size + 1 + 1, 0, none⟩) (by show w.heap.size ≤ w.heap.size + 1 + 1; omega) (.slice a N c)).setCell (p := ⟨w.heap.size + 1 + 1, 1, none⟩) (by show w.heap.size ≤ w.heap.size + 1 + 1; omega) (.slice ao op co)).setCell (p := ⟨w.heap.size + 1 + 1, 2, none⟩) (by show w.heap.size ≤ w.heap.size + 1 + 1; omega) (.int .i64 2)
    exact bodyPost_ret (results_cell_row (fn := Try.f10) (p := 4) (ty := 29) rfl _ _ _ _ _ (0, 0) _ rfl (((hZ3.out.put 0 _).put 1 _).put 2 _) Try.underlying29 rfl (by kernel_rfl)) rfl
      ⟨a, c, ao, co, by rw [hP.out, ← hN, ← hop]; rfl, by rw [hP.out]; exact ⟨hRW.out.body.below hBF, hRW.out.opens.below hBF, hRW.out.le, hRW.out.len, ⟨hRW.out.good.op, hRW.out.good.n, hRW.out.good.ps⟩⟩, hBF, .inl rfl, .inl rfl⟩
  have o1 : ((op : Int) == 0) = false := by rw [beq_eq_false_iff_ne]; omega
  obtain ⟨q, rfl⟩ : ∃ q, op = q + 1 := ⟨op - 1, by omega⟩
  have hP := Lib.hid (show s.closeW = s.closeOk q by unfold St.closeW; rw [if_neg (by omega), hop]; rfl)
  obtain ⟨hp4, hpn⟩ := hRW.out.good.ps q (by omega)
  rw [hN] at hpn
  obtain ⟨p, hpe⟩ : ∃ p, s.ps q = p := ⟨_, rfl⟩
  rw [hpe] at hp4 hpn
  have hio := hRW.out.opens.below hB
  rw [hop] at hio
  obtain ⟨ob, oo, rfl, hob, hoc⟩ : ∃ b o, ao = some ⟨b, o, none⟩ ∧ b < W0.heap.size ∧ ∀ i, i < q + 1 → W0.cell? ⟨b, o + i, none⟩ = some (.int .i64 (s.ps i : Nat)) := by
    rcases hio with h0 | h0
    · omega
    · exact h0
  have cq := hoc q (by omega)
  rw [hpe] at cq
  have hbr := hRW.out.body.below hB
  rw [hN] at hbr
  obtain ⟨bb, bo, rfl, hbb, hbc⟩ : ∃ b o, a = some ⟨b, o, none⟩ ∧ b < W0.heap.size ∧ ∀ i, i < N → W0.cell? ⟨b, o + i, none⟩ = some (.int .u8 (s.f i : Nat)) := by
    rcases hbr.2 with h0 | h0
    · omega
    · exact h0
  have i1 : ((q + 1 : Nat) : Int) - 1 = (q : Int) := by omega
  have i2 : wrap64 (((q + 1 : Nat) : Int) - 1) = (q : Int) := by unfold wrap64; omega
  have i3 : IntKind.i64.wrap (((q + 1 : Nat) : Int) - 1) = (q : Int) := by simp only [IntKind.wrap_i64]; omega
  have i4 : (q : Int) < ((q + 1 : Nat) : Int) := by omega
  clear i1 i2 i3 i4
  have m1 : (p : Int) - 4 = ((p - 4 : Nat) : Int) := by omega
  have m2 : wrap64 ((p : Int) - 4) = ((p - 4 : Nat) : Int) := by unfold wrap64; omega
  have m3 : IntKind.i64.wrap ((p : Int) - 4) = ((p - 4 : Nat) : Int) := by simp only [IntKind.wrap_i64]; omega
  have hNc : N ≤ c := by have := hRW.out.len; omega
  have m4 : ((p - 4 : Nat) : Int) ≤ (c : Int) := by omega
  have m5 : p - 4 ≤ c := by omega
  have m6 : (0 : Int) ≤ ((p - 4 : Nat) : Int) := by omega
  obtain ⟨v2, W2, hr2, hO2, hF2, hg2⟩ := run_append_more W0 25 W0.heap.size (.slice none 0 0) 0 (p - 4) c (some ⟨bb, bo, none⟩) (fun _ => 0) s.f (Owns.none _ _) (fun y hy => by cases hy) ⟨fun i hi => hbr.1 i (by omega), .inr ⟨bb, bo, rfl, hbb, fun i hi => hbc i (by omega)⟩⟩ (by omega) (Nat.le_refl _)
  have hB2 : Below W0.heap.size W0 W2 := From.below (fun y hy => by cases hy) hg2 (Nat.le_refl _)
  rw [Nat.zero_add] at hO2
  replace hio := Lib.hid hio
  replace hbr := Lib.hid hbr
  replace hoc := Lib.hid hoc
  replace hbc := Lib.hid hbc
  go_upto_region 10 with (fail)
  go_upto_region 11 with (at_builtin; refine wpList_append_ran2 rfl _ _ 25 25 rfl _ _ _ W2 rfl rfl hr2 ?_)
  clear hr2 c0 c1 c2 f0 f1 f2 p0 z0 z1 z2 g0 g1 g2 m1 m2 m3 m4 m5 m6 cq
  have hX2 := hX.below hB2 hX.lt
  have c0 := hX2.cell 0
  simp only [List.getElem?_toArray, List.getElem?_cons_zero] at c0
  have m1 : (N : Int) - (p : Int) = ((N - p : Nat) : Int) := by omega
  have m2 : wrap64 ((N : Int) - (p : Int)) = ((N - p : Nat) : Int) := by unfold wrap64; omega
  have m3 : IntKind.i64.wrap ((N : Int) - (p : Int)) = ((N - p : Nat) : Int) := by simp only [IntKind.wrap_i64]; omega
  have m4 : IntKind.u64.wrap ((N - p : Nat) : Int) = ((N - p : Nat) : Int) := by simp only [IntKind.wrap_u64]; omega
  have HL := Lib.hid (rlaid_any (N - p) 4 W2 (by omega) (by decide))
  go_wp2_with fail
  refine HL.out.mono ?_
  rintro e W3 ⟨G3, rfl, hH3, _, hB3⟩
  have hB3' := hB2.trans (hB3.mono hB2.size)
  obtain ⟨v4, W4, hr4, hO4, hF4, hg4⟩ := run_append_more W3 25 W0.heap.size v2 (p - 4) 4 4 _ _ _ (hO2.below hB3) hF2 hH3.row (by omega) hB3'.size
  have hB4 := hB3'.trans (hF2.below hg4 hB3'.size)
  have hX4 := hX.below hB4 hX.lt
  clear c0 m1 m2 m3 m4
  go_upto_region 12 with (at_builtin; refine wpList_append_ran2 rfl _ _ 25 25 rfl _ _ _ W4 rfl rfl hr4 ?_)
  clear hr4 HL hH3 hB3 hB3' hO2 hX2 hB2 hg2 hF2 hg4
  have c0 := hX4.cell 0
  have c1 := hX4.cell 1
  have c2 := hX4.cell 2
  simp only [List.getElem?_toArray, List.getElem?_cons_zero, List.getElem?_cons_succ] at c0 c1 c2
  by_cases hcp : c = p
  case pos =>
    obtain rfl : c = p := hcp
    obtain rfl : N = c := by omega
    have hrest : Row W4 (some ⟨bb, bo, none⟩) 0 (shiftF N s.f) := Row.nil _ _ _
    obtain ⟨v5, W5, hr5, hO5, hF5, hg5⟩ := run_append_more W4 25 W0.heap.size v4 (N - 4 + 4) 0 0 (some ⟨bb, bo, none⟩) _ (shiftF N s.f) hO4 hF4 hrest (by omega) hB4.size
    have hB5 := hB4.trans (hF4.below hg5 hB4.size)
    rw [show N - 4 + 4 + 0 = N by omega] at hO5
    obtain ⟨a5, c5, rfl, hle5⟩ : ∃ a5 c5, v5 = .slice a5 N c5 ∧ N ≤ c5 := by
      rcases hO5.2 with ⟨rfl, h0⟩ | ⟨g, cap, cs, rfl, hw, q1, _⟩
      · omega
      · exact ⟨_, _, rfl, q1⟩
    have hX5 := hX.below hB5 hX.lt
    have hZ5 := hZ.below hB5 hZ.lt
    have hBw := hB.trans (hB5.mono hB.size)
    have d0 := hX5.cell 0
    have d1 := hX5.cell 1
    have d2 := hX5.cell 2
    simp only [List.getElem?_toArray, List.getElem?_cons_zero, List.getElem?_cons_succ] at d0 d1 d2
    have f0 := hX5.free 0
    have f1 := hX5.free 1
    have z0 := hZ5.cell 0
    have z1 := hZ5.cell 1
    have z2 := hZ5.cell 2
    simp only [List.getElem?_toArray, List.getElem?_cons_zero, List.getElem?_cons_succ] at z0 z1 z2
    have g0 := hZ5.free 0
    have g1 := hZ5.free 1
    have g2 := hZ5.free 2
    have hF5l : ∀ y, (Value.slice a5 N c5).ownBlock = some y → w.heap.size + 1 + 1 < y := fun y hy => by have := hF5 y hy; omega
    have hNR := Lib.hid (show ∀ ad, a5 = some ad → w.heap.size ≤ ad.block from fun ad e => by subst e; have := hF5l ad.block rfl; omega)
    have i1 : ((q + 1 : Nat) : Int) - 1 = (q : Int) := by omega
    have i2 : wrap64 (((q + 1 : Nat) : Int) - 1) = (q : Int) := by unfold wrap64; omega
    have i3 : IntKind.i64.wrap (((q + 1 : Nat) : Int) - 1) = (q : Int) := by simp only [IntKind.wrap_i64]; omega
    have hqc : q + 1 ≤ co := by have := hRW.out.le; omega
    have i4 : (q : Int) ≤ (co : Int) := by omega
    have i5 : q ≤ co := by omega
    have hZ4 := Lib.hid ((hZ5.away (p := ⟨w.heap.size, 0, none⟩) (by show w.heap.size + 1 + 1 ≠ w.heap.size; omega) (.slice a5 N c5)).away (p := ⟨w.heap.size, 1, none⟩) (by show w.heap.size + 1 + 1 ≠ w.heap.size; omega) (.slice (some ⟨ob, oo, none⟩) q co))
    have hBx := Lib.hid ((hBw.setCell (p := ⟨w.heap.size, 0, none⟩) (Nat.le_refl _) (.slice a5 N c5)).setCell (p := ⟨w.heap.size, 1, none⟩) (Nat.le_refl _) (.slice (some ⟨ob, oo, none⟩) q co))
    have hOx := Lib.hid (((((hO5.away (x := w.heap.size) (fun e => by have := hF5l _ e; omega) 0 (.slice a5 N c5)).away (x := w.heap.size) (fun e => by have := hF5l _ e; omega) 1 (.slice (some ⟨ob, oo, none⟩) q co)).away (x := w.heap.size + 1 + 1) (fun e => by have := hF5l _ e; omega) 0 (.slice a5 N c5)).away (x := w.heap.size + 1 + 1) (fun e => by have := hF5l _ e; omega) 1 (.slice (some ⟨ob, oo, none⟩) q co)).away (x := w.heap.size + 1 + 1) (fun e => by have := hF5l _ e; omega) 2 (.int .i64 0))
    replace hgn := Lib.hid hgn
    replace hle5 := Lib.hid hle5
    replace hqc := Lib.hid hqc
    clear hX hY hZ hB hX4 hO4 hF4 hB4 hO5 hF5 hg5 hB5 hX5 hZ5 hBw hF5l hio hbr hoc hbc hys hzs
    go_upto_region 12 with (fail)
    go_upto_region 13 with (at_builtin; refine wpList_append_ran2 rfl _ _ 25 25 rfl _ _ _ W5 rfl rfl hr5 ?_)
    clear hr5 c0 c1 c2
    go_wp2_with fail
    have hBF := (((hBx.out).setCell (p := ⟨w.heap.size + 1 + 1, 0, none⟩) (by show w.heap.size ≤ w.heap.size + 1 + 1; omega) (.slice a5 N c5)).setCell (p := ⟨w.heap.size + 1 + 1, 1, none⟩) (by show w.heap.size ≤ w.heap.size + 1 + 1; omega) (.slice (some ⟨ob, oo, none⟩) q co)).setCell (p := ⟨w.heap.size + 1 + 1, 2, none⟩) (by show w.heap.size ≤ w.heap.size + 1 + 1; omega) (.int .i64 0)
    exact bodyPost_ret (results_cell_row (fn := Try.f10) (p := 4) (ty := 29) rfl _ _ _ _ _ (0, 0) _ rfl (((hZ4.out.put 0 _).put 1 _).put 2 _) Try.underlying29 rfl (by kernel_rfl)) rfl
      ⟨a5, c5, some ⟨ob, oo, none⟩, co, by rw [hP.out]; show _ = Ending.returned (.agg #[.slice a5 s.n c5, .slice (some ⟨ob, oo, none⟩) q co, .int .i64 (s.e : Nat)]); rw [hN, hge.out]; rfl,
        by
          rw [hP.out]
          have hio := hRW.out.opens.below hBF
          refine ⟨?_, ?_, by show q ≤ co; have := hqc.out; omega, by show s.n ≤ c5; rw [hN]; exact hle5.out, ⟨by show q ≤ 16; omega, hRW.out.good.n, fun i hi => hRW.out.good.ps i (by have hi : i < q := hi; omega)⟩⟩
          · obtain ⟨a2, c2, e, hr⟩ := hOx.out.row
            injection e with e1 e2 e3
            subst e1
            show Row _ a5 s.n _
            rw [hN]
            exact hr.congr (fun i hi => by
              show both (both (both (fun _ => 0) 0 s.f) (N - 4) (byteAt (N - N))) N (shiftF N s.f) i = over s.f (s.ps q - 4) 4 (byteAt (s.n - s.ps q)) i
              rw [hpe, hN]
              unfold both over shiftF
              by_cases k1 : i < N - 4
              · rw [if_pos (by omega), if_pos k1, if_neg (by omega), if_neg (by omega)]; rfl
              · by_cases k2 : i < N - 4 + 4
                · rw [if_pos (by omega), if_neg k1, if_pos (by omega)]
                · rw [if_neg (by omega), if_neg (by omega)]
                  congr 1
                  omega)
          · show IRow _ _ q s.ps
            rcases hio with h0 | ⟨b, o, k1, k2, k3⟩
            · omega
            · exact .inr ⟨b, o, k1, k2, fun i hi => k3 i (by omega)⟩, hBF, .inr fun ad e => ⟨hNR.out ad e, by subst e; exact hOx.out.lt _ rfl⟩, .inl rfl⟩
  have hrest := (Row.shift hbr.out p (N - p) (by omega)).below hB4
  have m1 : (p : Int) ≤ (N : Int) := by omega
  have m2 : (p : Int) ≤ (c : Int) := by omega
  obtain ⟨v5, W5, hr5, hO5, hF5, hg5⟩ := run_append_more W4 25 W0.heap.size v4 (p - 4 + 4) (N - p) (c - p) (some ⟨bb, bo + p, none⟩) _ (shiftF p s.f) hO4 hF4 hrest (by omega) hB4.size
  have hB5 := hB4.trans (hF4.below hg5 hB4.size)
  rw [show p - 4 + 4 + (N - p) = N by omega] at hO5
  obtain ⟨a5, c5, rfl, hle5⟩ : ∃ a5 c5, v5 = .slice a5 N c5 ∧ N ≤ c5 := by
    rcases hO5.2 with ⟨rfl, h0⟩ | ⟨g, cap, cs, rfl, hw, q1, _⟩
    · omega
    · exact ⟨_, _, rfl, q1⟩
  have hX5 := hX.below hB5 hX.lt
  have hZ5 := hZ.below hB5 hZ.lt
  have hBw := hB.trans (hB5.mono hB.size)
  have d0 := hX5.cell 0
  have d1 := hX5.cell 1
  have d2 := hX5.cell 2
  simp only [List.getElem?_toArray, List.getElem?_cons_zero, List.getElem?_cons_succ] at d0 d1 d2
  have f0 := hX5.free 0
  have f1 := hX5.free 1
  have z0 := hZ5.cell 0
  have z1 := hZ5.cell 1
  have z2 := hZ5.cell 2
  simp only [List.getElem?_toArray, List.getElem?_cons_zero, List.getElem?_cons_succ] at z0 z1 z2
  have g0 := hZ5.free 0
  have g1 := hZ5.free 1
  have g2 := hZ5.free 2
  have hF5l : ∀ y, (Value.slice a5 N c5).ownBlock = some y → w.heap.size + 1 + 1 < y := fun y hy => by have := hF5 y hy; omega
  have hNR := Lib.hid (show ∀ ad, a5 = some ad → w.heap.size ≤ ad.block from fun ad e => by subst e; have := hF5l ad.block rfl; omega)
  have i1 : ((q + 1 : Nat) : Int) - 1 = (q : Int) := by omega
  have i2 : wrap64 (((q + 1 : Nat) : Int) - 1) = (q : Int) := by unfold wrap64; omega
  have i3 : IntKind.i64.wrap (((q + 1 : Nat) : Int) - 1) = (q : Int) := by simp only [IntKind.wrap_i64]; omega
  have hqc : q + 1 ≤ co := by have := hRW.out.le; omega
  have i4 : (q : Int) ≤ (co : Int) := by omega
  have i5 : q ≤ co := by omega
  have hZ4 := Lib.hid ((hZ5.away (p := ⟨w.heap.size, 0, none⟩) (by show w.heap.size + 1 + 1 ≠ w.heap.size; omega) (.slice a5 N c5)).away (p := ⟨w.heap.size, 1, none⟩) (by show w.heap.size + 1 + 1 ≠ w.heap.size; omega) (.slice (some ⟨ob, oo, none⟩) q co))
  have hBx := Lib.hid ((hBw.setCell (p := ⟨w.heap.size, 0, none⟩) (Nat.le_refl _) (.slice a5 N c5)).setCell (p := ⟨w.heap.size, 1, none⟩) (Nat.le_refl _) (.slice (some ⟨ob, oo, none⟩) q co))
  have hOx := Lib.hid (((((hO5.away (x := w.heap.size) (fun e => by have := hF5l _ e; omega) 0 (.slice a5 N c5)).away (x := w.heap.size) (fun e => by have := hF5l _ e; omega) 1 (.slice (some ⟨ob, oo, none⟩) q co)).away (x := w.heap.size + 1 + 1) (fun e => by have := hF5l _ e; omega) 0 (.slice a5 N c5)).away (x := w.heap.size + 1 + 1) (fun e => by have := hF5l _ e; omega) 1 (.slice (some ⟨ob, oo, none⟩) q co)).away (x := w.heap.size + 1 + 1) (fun e => by have := hF5l _ e; omega) 2 (.int .i64 0))
  replace hgn := Lib.hid hgn
  replace hle5 := Lib.hid hle5
  replace hqc := Lib.hid hqc
  clear hX hY hZ hB hX4 hO4 hF4 hB4 hO5 hF5 hg5 hB5 hX5 hZ5 hBw hF5l hio hbr hoc hbc hys hzs
  go_upto_region 12 with (fail)
  go_upto_region 13 with (at_builtin; refine wpList_append_ran2 rfl _ _ 25 25 rfl _ _ _ W5 rfl rfl hr5 ?_)
  clear hr5 c0 c1 c2
  go_wp2_with fail
  have hBF := (((hBx.out).setCell (p := ⟨w.heap.size + 1 + 1, 0, none⟩) (by show w.heap.size ≤ w.heap.size + 1 + 1; omega) (.slice a5 N c5)).setCell (p := ⟨w.heap.size + 1 + 1, 1, none⟩) (by show w.heap.size ≤ w.heap.size + 1 + 1; omega) (.slice (some ⟨ob, oo, none⟩) q co)).setCell (p := ⟨w.heap.size + 1 + 1, 2, none⟩) (by show w.heap.size ≤ w.heap.size + 1 + 1; omega) (.int .i64 0)
  exact bodyPost_ret (results_cell_row (fn := Try.f10) (p := 4) (ty := 29) rfl _ _ _ _ _ (0, 0) _ rfl (((hZ4.out.put 0 _).put 1 _).put 2 _) Try.underlying29 rfl (by kernel_rfl)) rfl
    ⟨a5, c5, some ⟨ob, oo, none⟩, co, by rw [hP.out]; show _ = Ending.returned (.agg #[.slice a5 s.n c5, .slice (some ⟨ob, oo, none⟩) q co, .int .i64 (s.e : Nat)]); rw [hN, hge.out]; rfl,
      by
        rw [hP.out]
        have hio := hRW.out.opens.below hBF
        refine ⟨?_, ?_, by show q ≤ co; have := hqc.out; omega, by show s.n ≤ c5; rw [hN]; exact hle5.out, ⟨by show q ≤ 16; omega, hRW.out.good.n, fun i hi => hRW.out.good.ps i (by have hi : i < q := hi; omega)⟩⟩
        · obtain ⟨a2, c2, e, hr⟩ := hOx.out.row
          injection e with e1 e2 e3
          subst e1
          show Row _ a5 s.n _
          rw [hN]
          exact hr.congr (fun i hi => by
            show both (both (both (fun _ => 0) 0 s.f) (p - 4) (byteAt (N - p))) (p - 4 + 4) (shiftF p s.f) i = over s.f (s.ps q - 4) 4 (byteAt (s.n - s.ps q)) i
            rw [hpe, hN]
            unfold both over shiftF
            by_cases k1 : i < p - 4
            · rw [if_pos (by omega), if_pos k1, if_neg (by omega), if_neg (by omega)]; rfl
            · by_cases k2 : i < p - 4 + 4
              · rw [if_pos (by omega), if_neg k1, if_pos (by omega)]
              · rw [if_neg (by omega), if_neg (by omega)]
                congr 1
                omega)
        · show IRow _ _ q s.ps
          rcases hio with h0 | ⟨b, o, k1, k2, k3⟩
          · omega
          · exact .inr ⟨b, o, k1, k2, fun i hi => k3 i (by omega)⟩, hBF, .inr fun ad e => ⟨hNR.out ad e, by subst e; exact hOx.out.lt _ rfl⟩, .inl rfl⟩
end Go.Proofs.Ytacnmnodbmbplaa
