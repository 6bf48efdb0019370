/-
  The document's Does: Bytes.
-/
import Derived.Test.YtacnmnodbmbplaaRDoesC
import Derived.Deep.RegionHeld3
namespace Go.Proofs.Ytacnmnodbmbplaa
open Go.RowKit Go.Shelf
set_option maxRecDepth 100000
set_option maxHeartbeats 4000000

/-- append where its run is known, as one step of a region that draws. -/
theorem step_append_ran {P : Program} {ops : Array Oper} {o : Oper} {a : Act} {w w' : World} {K : Act → World → Prop} {Q : Exit → Act → World → Prop} {E : Prop}
    (hgd : o.guard = none) (s x : Operand) (t : TypeId) (ho : o.op = .call { callee := .builtin .append, args := #[s, x], argTypes := #[t, t] })
    (v u v' : Value) (hs : a.eval s = v) (hx : a.eval x = u) (hr : (Builtin.append_ #[t, t] o.type #[v, u]).run P w = .ok v' w') (hK : K (a.put o.dst v') w') :
    if Region.wanted o (yielded ops a.tmps) = true then Oper.wp P o a w K Q else E := by
  have hw : Region.wanted o (yielded ops a.tmps) = true := by simp [Region.wanted, hgd]
  rw [if_pos hw]
  unfold Oper.wp
  simp [execOp, ho, resolve, invoke, builtin, hs, hx, hr, Result.andThen]
  exact hK
theorem run_append_none (w : World) (ty : TypeId) (ao : Option Addr) (len cap c : Nat) (hle : len ≤ cap) (a : Option Addr) : (Builtin.append_ #[25, 25] ty #[.slice ao len cap, .slice a 0 c]).run Try.prog w = .ok (.slice ao len cap) w := by
  obtain ⟨i, hi, hs, hb, hz⟩ := info5
  have ht := Try.underlying25
  cases a with
  | none => cases ao <;> simp [Builtin.append_, run_underlying ht, sizeOf, typeInfo, hi, Builtin.lenOf, run_firstCells_none, storeCells, hle]
  | some p =>
    have hfc := run_firstCells_some (P := Try.prog) w i.size 0 p 0 c [] (by simp) (fun j u hu => by simp at hu)
    cases ao <;> simp [Builtin.append_, run_underlying ht, sizeOf, typeInfo, hi, Builtin.lenOf, hfc, storeCells, hle]
/-- Bytes behind a row of a block of its own. -/
theorem run_append_laid (w : World) (ty : TypeId) (G n m c : Nat) (a : Option Addr) (f h : Nat → Nat) (hf : Row w (some ⟨G, 0, none⟩) n f) (hl : G < w.heap.size) (hh : Row w a m h) (hn : n ≤ 281474976) (hm : m ≤ 140737488355328) :
    ∃ G' cap w', (Builtin.append_ #[25, 25] ty #[.slice (some ⟨G, 0, none⟩) n n, .slice a m c]).run Try.prog w = .ok (.slice (some ⟨G', 0, none⟩) (n + m) cap) w' ∧
      Row w' (some ⟨G', 0, none⟩) (n + m) (both f n h) ∧ G' < w'.heap.size ∧ Below w.heap.size w w' := by
  by_cases h0 : 0 < m
  · obtain ⟨G', cap, w', hr, hO, _, hB⟩ := run_append_rows w ty G n m c a f h hf hh h0 hn hm
    obtain ⟨a5, c5, e5, hR5⟩ := hO.row
    injection e5 with e51 e52 e53
    subst e51
    exact ⟨G', cap, w', hr, hR5, hO.lt _ rfl, hB⟩
  · obtain rfl : m = 0 := by omega
    exact ⟨G, n, w, run_append_none w ty _ n n c (Nat.le_refl _) a, hf.congr (fun i hi => (if_pos hi).symm), hl, Below.refl _ w⟩
theorem rdoes_5 {a ao : Option Addr} {c co : Nat} {s : St} (n : Int) (pa : Option Addr) (len cap : Nat) (f : Nat → Nat) (w : World) (h : RW w a c ao co s) (he : s.e = 0) (hR : Row w pa len f) (hl : len ≤ 140737488355328) :
    Calls Try.prog 10 #[rwV a c ao co s, putV 5 n pa len cap] w fun e w' => ∃ a' c', e = .returned (rwV a' c' ao co (s.putW (4 + len) (rowB len f))) ∧ RW w' a' c' ao co (s.putW (4 + len) (rowB len f)) ∧ Below w.heap.size w w' ∧ NewRow w.heap.size w' a a' := by
  have hX := ((Whole.fresh w 29 #[.slice a s.n c, .slice ao s.op co, .int .i64 (s.e : Nat)]).alloc (.cells #[.int .i64 5, .int .i64 n, .slice pa len cap] 32)).alloc (.cells #[.slice none 0 0, .slice none 0 0, .int .i64 0] 29)
  have hY := (Whole.fresh (w.alloc (.cells #[.slice a s.n c, .slice ao s.op co, .int .i64 (s.e : Nat)] 29)) 32 #[.int .i64 5, .int .i64 n, .slice pa len cap]).alloc (.cells #[.slice none 0 0, .slice none 0 0, .int .i64 0] 29)
  have hZ := Whole.fresh ((w.alloc (.cells #[.slice a s.n c, .slice ao s.op co, .int .i64 (s.e : Nat)] 29)).alloc (.cells #[.int .i64 5, .int .i64 n, .slice pa len cap] 32)) 29 #[.slice none 0 0, .slice none 0 0, .int .i64 0]
  have hB := (((Below.refl w.heap.size w).alloc (Nat.le_refl _) (.cells #[.slice a s.n c, .slice ao s.op co, .int .i64 (s.e : Nat)] 29)).alloc (by simp) (.cells #[.int .i64 5, .int .i64 n, .slice pa len cap] 32)).alloc (by simp; omega) (.cells #[.slice none 0 0, .slice none 0 0, .int .i64 0] 29)
  have hys : (w.alloc (.cells #[.slice a s.n c, .slice ao s.op co, .int .i64 (s.e : Nat)] 29)).heap.size = w.heap.size + 1 := by simp
  have hzs : ((w.alloc (.cells #[.slice a s.n c, .slice ao s.op co, .int .i64 (s.e : Nat)] 29)).alloc (.cells #[.int .i64 5, .int .i64 n, .slice pa len cap] 32)).heap.size = w.heap.size + 1 + 1 := by simp
  rw [hys] at hY
  rw [hzs] at hZ
  have t0 : ((0 : Int) != 0) = false := rfl
  have hRW := Lib.hid h
  have w1 : IntKind.u64.wrap (len : Int) = (len : Int) := by simp only [IntKind.wrap_u64]; omega
  have HL := Lib.hid (fun W => rlaid_any len 4 W (by omega) (by decide))
  have hgn := h.good.n
  have hge := Lib.hid he
  have hRp := Lib.hid (hR.below hB)
  have hl2 := Lib.hid hl
  obtain ⟨M, hM⟩ : ∃ M, 4 + len = M := ⟨_, rfl⟩
  obtain ⟨g, hg⟩ : ∃ g, rowB len f = g := ⟨_, rfl⟩
  rw [hM, hg]
  have hM0 : 0 < M := by omega
  have hM47 := Lib.hid (show M ≤ 140737488355332 by omega)
  replace hM := Lib.hid hM
  replace hg := Lib.hid hg
  unfold rwV putV
  rw [he] at hX hY hZ hB hys hzs hRp ⊢
  clear h he hR hl
  go_enter Try.func10, Try.ntmps10
  go_upto_region 1 with (fail)
  have e0 : ((0 : Nat) : Int) = 0 := rfl
  rw [e0] at hX hY hZ hB hRp
  obtain ⟨N, hN⟩ : ∃ N, s.n = N := ⟨_, rfl⟩
  obtain ⟨op, hop⟩ : ∃ op, s.op = op := ⟨_, rfl⟩
  rw [hN, hop] at hX hY hZ hB hRp ⊢
  rw [hN] at hgn
  generalize ((w.alloc (.cells #[.slice a N c, .slice ao op co, .int .i64 0] 29)).alloc (.cells #[.int .i64 5, .int .i64 n, .slice pa len cap] 32)).alloc (.cells #[.slice none 0 0, .slice none 0 0, .int .i64 0] 29) = W0 at *
  have c2 := hX.cell 2
  simp only [List.getElem?_toArray, List.getElem?_cons_zero, List.getElem?_cons_succ] at c2
  have p0 := hY.cell 0
  simp only [List.getElem?_toArray, List.getElem?_cons_zero] at p0
  clear t0
  go_upto_region 27 with (fail)
  clear c2 p0
  have p2 := hY.cell 2
  simp only [List.getElem?_toArray, List.getElem?_cons_zero, List.getElem?_cons_succ] at p2
  go_region_held3 (fun W => W.cell? ⟨w.heap.size + 1, 2, none⟩ = some (.slice pa len cap))
    (first | exact p2 | exact k3 | exact k5 | go_keep)
    (first
      | (go_at_call 36; refine (HL.out _).mono ?_; rintro e W3 ⟨G3, rfl, hH3, hG3, hB3⟩; have hB3' : Below W0.heap.size W0 W3 := Below.trans (Below.drew (Below.refl _ W0)) hB3; have k3 := (hY.below hB3' hY.lt).cell 2; simp only [List.getElem?_toArray, List.getElem?_cons_zero, List.getElem?_cons_succ] at k3; obtain ⟨G5, c5, W1, hr5, hR5, hl5, hB5⟩ := run_append_laid W3 25 G3 4 len cap pa _ f hH3.row hH3.lt (hRp.out.below hB3') (by decide) hl2.out; rw [hM.out] at hr5 hR5; have hB1 : Below W0.heap.size W0 W1 := hB3'.trans (hB5.mono hB3'.size); have k5 := (hY.below hB1 hY.lt).cell 2; simp only [List.getElem?_toArray, List.getElem?_cons_zero, List.getElem?_cons_succ] at k5)
      | (refine step_append_ran rfl _ _ 25 rfl _ _ _ rfl rfl hr5 ?_))
  all_goals
    have hRowb : Row W1 (some ⟨G5, 0, none⟩) M g := by rw [← hg.out]; exact hR5
    clear hr5 hR5 hH3 hB3 hB3' hB5 k3 k5 p2 hRp HL hl5 hG3
    have hB2 := hB.trans (hB1.mono hB.size)
    have hX2 := hX.below hB1 hX.lt
    have hY2 := hY.below hB1 hY.lt
    have hZ2 := hZ.below hB1 hZ.lt
    have hZl := hZ2.lt
    have c0 := hX2.cell 0
    have c1 := hX2.cell 1
    have c2 := hX2.cell 2
    simp only [List.getElem?_toArray, List.getElem?_cons_zero, List.getElem?_cons_succ] at c0 c1 c2
    have f0 := hX2.free 0
    have f2 := hX2.free 2
    have p0 := hY2.cell 0
    simp only [List.getElem?_toArray, List.getElem?_cons_zero] at p0
    have z0 := hZ2.cell 0
    have z1 := hZ2.cell 1
    have z2 := hZ2.cell 2
    simp only [List.getElem?_toArray, List.getElem?_cons_zero, List.getElem?_cons_succ] at z0 z1 z2
    have g0 := hZ2.free 0
    have g1 := hZ2.free 1
    have g2 := hZ2.free 2
    clear hX hY hZ hB hB1 hys hzs w1
    by_cases hroom : 16777216 < s.n + M
    · have hP := Lib.hid (show s.putW M g = { s with e := 4 } from if_pos hroom)
      rw [hN] at hroom
      have r1 : (16777216 : Int) < (N : Int) + (M : Int) := by omega
      have r2 : decide ((N : Int) + (M : Int) > 16777216) = true := decide_eq_true (by omega)
      have r3 : wrap64 ((N : Int) + (M : Int)) = (N : Int) + (M : Int) := by have := hM47.out; unfold wrap64; omega
      have r4 : IntKind.i64.wrap ((N : Int) + (M : Int)) = (N : Int) + (M : Int) := by have := hM47.out; simp only [IntKind.wrap_i64]; omega
      replace hroom := Lib.hid hroom
      replace hgn := Lib.hid hgn
      have hZ3 := hZ2.away (p := ⟨w.heap.size, 2, none⟩) (by show w.heap.size + 1 + 1 ≠ w.heap.size; omega) (.int .i64 4)
      have hB3 := hB2.setCell (p := ⟨w.heap.size, 2, none⟩) (Nat.le_refl _) (.int .i64 4)
      replace hZ3 := Lib.hid hZ3
      replace hB3 := Lib.hid hB3
      clear hX2 hY2 hZ2 hB2 hRowb
      go_wp2_with fail
      have hBF := (((hB3.out).setCell (p := ⟨w.heap.size + 1 + 1, 0, none⟩) (by show w.heap.size ≤ w.heap.size + 1 + 1; omega) (.slice a N c)).setCell (p := ⟨w.heap.size + 1 + 1, 1, none⟩) (by show w.heap.size ≤ w.heap.size + 1 + 1; omega) (.slice ao op co)).setCell (p := ⟨w.heap.size + 1 + 1, 2, none⟩) (by show w.heap.size ≤ w.heap.size + 1 + 1; omega) (.int .i64 4)
      exact bodyPost_ret (results_cell_row (fn := Try.f10) (p := 4) (ty := 29) rfl _ _ _ _ _ (0, 0) _ rfl (((hZ3.out.put 0 _).put 1 _).put 2 _) Try.underlying29 rfl (by kernel_rfl)) rfl
        ⟨a, c, by rw [hP.out, ← hN, ← hop]; rfl, by rw [hP.out]; exact ⟨hRW.out.body.below hBF, hRW.out.opens.below hBF, hRW.out.le, hRW.out.len, ⟨hRW.out.good.op, hRW.out.good.n, hRW.out.good.ps⟩⟩, hBF, .inl rfl⟩
    · have hP := Lib.hid (show s.putW M g = s.put M g from if_neg hroom)
      have hroom2 : s.n + M ≤ 16777216 := by omega
      have hg2 : (s.put M g).Good := ⟨hRW.out.good.op, hroom2, fun i hi => ⟨(hRW.out.good.ps i hi).1, by have := (hRW.out.good.ps i hi).2; show s.ps i ≤ s.n + M; omega⟩⟩
      rw [hN] at hroom
      have r1 : ¬ (16777216 : Int) < (N : Int) + (M : Int) := by omega
      have r2 : decide ((N : Int) + (M : Int) > 16777216) = false := decide_eq_false (by omega)
      have r3 : wrap64 ((N : Int) + (M : Int)) = (N : Int) + (M : Int) := by have := hM47.out; unfold wrap64; omega
      have r4 : IntKind.i64.wrap ((N : Int) + (M : Int)) = (N : Int) + (M : Int) := by have := hM47.out; simp only [IntKind.wrap_i64]; omega
      have hrow := hRW.out.body.below hB2
      rw [hN] at hrow
      obtain ⟨v8, W2, hr8, hO8, hF8, hg8⟩ := run_append_more W1 25 W1.heap.size (.slice none 0 0) 0 N c a (fun _ => 0) s.f (Owns.none _ _) (fun y hy => by cases hy) hrow (by omega) (Nat.le_refl _)
      have hB8 : Below W1.heap.size W1 W2 := From.below (fun y hy => by cases hy) hg8 (Nat.le_refl _)
      rw [Nat.zero_add] at hO8
      obtain ⟨v9, W3, hr9, hO9, hF9, hg9⟩ := run_append_more W2 25 W1.heap.size v8 N M c5 _ _ _ hO8 hF8 (hRowb.below hB8) (by omega) hB8.size
      have hB9 : Below W1.heap.size W1 W3 := hB8.trans (hF8.below hg9 hB8.size)
      obtain ⟨a9, c9, rfl, hR9, hle9⟩ : ∃ a9 c9, v9 = .slice a9 (N + M) c9 ∧ Row W3 a9 (N + M) (both (both (fun _ => 0) 0 s.f) N g) ∧ N + M ≤ c9 := by
        rcases hO9.2 with ⟨rfl, h0⟩ | ⟨g, cap, cs, rfl, hw, q1, _⟩
        · omega
        · obtain ⟨a9, c9, e, hR9⟩ := hO9.row
          injection e with e1 e2 e3
          exact ⟨_, _, rfl, e1 ▸ hR9, q1⟩
      have hX3 := hX2.below hB9 hX2.lt
      have hY3 := hY2.below hB9 hY2.lt
      have hZ3 := hZ2.below hB9 hZ2.lt
      have hB3 := hB2.trans (hB9.mono hB2.size)
      have d0 := hX3.cell 0
      have d1 := hX3.cell 1
      have d2 := hX3.cell 2
      simp only [List.getElem?_toArray, List.getElem?_cons_zero, List.getElem?_cons_succ] at d0 d1 d2
      have e3 := hX3.free 0
      have p3 := hY3.cell 0
      simp only [List.getElem?_toArray, List.getElem?_cons_zero] at p3
      have y0 := hZ3.cell 0
      have y1 := hZ3.cell 1
      have y2 := hZ3.cell 2
      simp only [List.getElem?_toArray, List.getElem?_cons_zero, List.getElem?_cons_succ] at y0 y1 y2
      have k0 := hZ3.free 0
      have k1 := hZ3.free 1
      have k2 := hZ3.free 2
      have hOwn := hO9
      have hF9l : ∀ y, (Value.slice a9 (N + M) c9).ownBlock = some y → w.heap.size + 1 + 1 < y := fun y hy => by have := hF9 y hy; omega
      have hNR := Lib.hid (show ∀ ad, a9 = some ad → w.heap.size ≤ ad.block from fun ad e => by subst e; have := hF9l ad.block rfl; omega)
      have hZ4 := Lib.hid (hZ3.away (p := ⟨w.heap.size, 0, none⟩) (by show w.heap.size + 1 + 1 ≠ w.heap.size; omega) (.slice a9 (N + M) c9))
      have hB4 := Lib.hid (hB3.setCell (p := ⟨w.heap.size, 0, none⟩) (Nat.le_refl _) (.slice a9 (N + M) c9))
      have hO4 := Lib.hid ((((hOwn.away (x := w.heap.size) (fun e => by have := hF9l _ e; omega) 0 (.slice a9 (N + M) c9)).away (x := w.heap.size + 1 + 1) (fun e => by have := hF9l _ e; omega) 0 (.slice a9 (N + M) c9)).away (x := w.heap.size + 1 + 1) (fun e => by have := hF9l _ e; omega) 1 (.slice ao op co)).away (x := w.heap.size + 1 + 1) (fun e => by have := hF9l _ e; omega) 2 (.int .i64 0))
      have hle := Lib.hid hle9
      have hgl := Lib.hid hg2
      replace hgn := Lib.hid hgn
      replace hroom := Lib.hid hroom
      clear hX2 hY2 hZ2 hB2 hRowb hrow hO8 hF8 hg8 hB8 hO9 hF9 hg9 hB9 hR9 hle9 hX3 hY3 hZ3 hB3 hOwn hF9l hg2 hroom2
      go_upto_region 37 with (fail)
      go_upto_region 38 with (at_builtin; refine wpList_append_ran2 rfl _ _ 25 25 rfl _ _ _ W2 rfl rfl hr8 ?_)
      clear hr8
      go_wp2_with (at_builtin; refine wpList_append_ran2 rfl _ _ 25 25 rfl _ _ _ W3 rfl rfl hr9 ?_)
      have hBF := (((hB4.out).setCell (p := ⟨w.heap.size + 1 + 1, 0, none⟩) (by show w.heap.size ≤ w.heap.size + 1 + 1; omega) (.slice a9 (N + M) c9)).setCell (p := ⟨w.heap.size + 1 + 1, 1, none⟩) (by show w.heap.size ≤ w.heap.size + 1 + 1; omega) (.slice ao op co)).setCell (p := ⟨w.heap.size + 1 + 1, 2, none⟩) (by show w.heap.size ≤ w.heap.size + 1 + 1; omega) (.int .i64 0)
      exact bodyPost_ret (results_cell_row (fn := Try.f10) (p := 4) (ty := 29) rfl _ _ _ _ _ (0, 0) _ rfl (((hZ4.out.put 0 _).put 1 _).put 2 _) Try.underlying29 rfl (by kernel_rfl)) rfl
        ⟨a9, c9, by rw [hP.out]; show _ = Ending.returned (.agg #[.slice a9 (s.n + M) c9, .slice ao s.op co, .int .i64 (s.e : Nat)]); rw [hN, hop, hge.out]; rfl,
          by
            rw [hP.out]
            refine ⟨?_, hRW.out.opens.below hBF, hRW.out.le, by show s.n + M ≤ c9; rw [hN]; exact hle.out, hgl.out⟩
            obtain ⟨a2, c2, e, hr⟩ := hO4.out.row
            injection e with e1 e2 e3
            subst e1
            show Row _ a9 (s.n + M) _
            rw [hN]
            exact hr.congr (fun i hi => by
              show both (both (fun _ => 0) 0 s.f) N g i = if i < s.n then s.f i else g (i - s.n)
              rw [hN]
              unfold both
              by_cases q : i < N
              · rw [if_pos q, if_pos q, if_neg (by omega)]; rfl
              · rw [if_neg q, if_neg q]), hBF, .inr fun ad e => ⟨hNR.out ad e, by subst e; exact hO4.out.lt _ rfl⟩⟩
end Go.Proofs.Ytacnmnodbmbplaa
