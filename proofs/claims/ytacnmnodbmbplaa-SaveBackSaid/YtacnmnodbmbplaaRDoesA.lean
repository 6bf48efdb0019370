/-
  The document's Does: what went wrong stays; the arms that lay a number.
-/
import Derived.Test.YtacnmnodbmbplaaIApp
import Derived.Test.YtacnmnodbmbplaaPutsA
namespace Go.Proofs.Ytacnmnodbmbplaa
open Go.RowKit Go.Shelf
set_option maxRecDepth 100000
set_option maxHeartbeats 1000000
/-- The row a' is the row a, or lies in a block made since B. -/
def NewRow (B : Nat) (w' : World) (a a' : Option Addr) : Prop := a' = a ∨ ∀ ad, a' = some ad → B ≤ ad.block ∧ ad.block < w'.heap.size
theorem IOwns.lt {w : World} {v : Value} {n : Nat} {f : Nat → Nat} (h : IOwns w v n f) : ∀ x, v.ownBlock = some x → x < w.heap.size := fun x hx => by
  rcases h with ⟨rfl, _⟩ | ⟨g, cap, cs, rfl, hw, _⟩
  · cases hx
  · have hx : some g = some x := hx
    injection hx with hx
    exact hx ▸ hw.lt
theorem rdoes_wrong {a ao : Option Addr} {c co : Nat} {s : St} (what n : Int) (pa : Option Addr) (len cap : Nat) (w : World) (he : s.e ≠ 0) :
    Calls Try.prog 10 #[rwV a c ao co s, putV what n pa len cap] w fun e w' => e = .returned (rwV a c ao co s) ∧ Below w.heap.size w w' := by
  have hX := ((Whole.fresh w 29 #[.slice a s.n c, .slice ao s.op co, .int .i64 (s.e : Nat)]).alloc (.cells #[.int .i64 what, .int .i64 n, .slice pa len cap] 32)).alloc (.cells #[.slice none 0 0, .slice none 0 0, .int .i64 0] 29)
  have hY := (Whole.fresh (w.alloc (.cells #[.slice a s.n c, .slice ao s.op co, .int .i64 (s.e : Nat)] 29)) 32 #[.int .i64 what, .int .i64 n, .slice pa len cap]).alloc (.cells #[.slice none 0 0, .slice none 0 0, .int .i64 0] 29)
  have hZ := Whole.fresh ((w.alloc (.cells #[.slice a s.n c, .slice ao s.op co, .int .i64 (s.e : Nat)] 29)).alloc (.cells #[.int .i64 what, .int .i64 n, .slice pa len cap] 32)) 29 #[.slice none 0 0, .slice none 0 0, .int .i64 0]
  have hB := (((Below.refl w.heap.size w).alloc (Nat.le_refl _) (.cells #[.slice a s.n c, .slice ao s.op co, .int .i64 (s.e : Nat)] 29)).alloc (by simp) (.cells #[.int .i64 what, .int .i64 n, .slice pa len cap] 32)).alloc (by simp; omega) (.cells #[.slice none 0 0, .slice none 0 0, .int .i64 0] 29)
  have hys : (w.alloc (.cells #[.slice a s.n c, .slice ao s.op co, .int .i64 (s.e : Nat)] 29)).heap.size = w.heap.size + 1 := by simp
  have hzs : ((w.alloc (.cells #[.slice a s.n c, .slice ao s.op co, .int .i64 (s.e : Nat)] 29)).alloc (.cells #[.int .i64 what, .int .i64 n, .slice pa len cap] 32)).heap.size = w.heap.size + 1 + 1 := by simp
  rw [hys] at hY
  rw [hzs] at hZ
  have t0 : ((s.e : Int) != 0) = true := by rw [bne_iff_ne]; omega
  unfold rwV putV
  clear he hY hys
  generalize s.op = op at *
  generalize s.e = E at *
  generalize s.n = N at *
  go_enter Try.func10, Try.ntmps10
  go_upto_region 1 with (fail)
  generalize ((w.alloc (.cells #[.slice a N c, .slice ao op co, .int .i64 (E : Nat)] 29)).alloc (.cells #[.int .i64 what, .int .i64 n, .slice pa len cap] 32)).alloc (.cells #[.slice none 0 0, .slice none 0 0, .int .i64 0] 29) = W0 at *
  have c0 := hX.cell 0
  have c1 := hX.cell 1
  have c2 := hX.cell 2
  simp only [List.getElem?_toArray, List.getElem?_cons_zero, List.getElem?_cons_succ] at c0 c1 c2
  have z0 := hZ.cell 0
  have z1 := hZ.cell 1
  have z2 := hZ.cell 2
  simp only [List.getElem?_toArray, List.getElem?_cons_zero, List.getElem?_cons_succ] at z0 z1 z2
  have g0 := hZ.free 0
  have g1 := hZ.free 1
  have g2 := hZ.free 2
  go_wp2_with fail
  exact bodyPost_ret (results_cell_row (fn := Try.f10) (p := 4) (ty := 29) rfl _ _ _ _ _ (0, 0) _ rfl (((hZ.put 0 _).put 1 _).put 2 _) Try.underlying29 rfl (by kernel_rfl)) rfl ⟨rfl, (((hB).setCell (p := ⟨w.heap.size + 1 + 1, 0, none⟩) (by show w.heap.size ≤ w.heap.size + 1 + 1; omega) _).setCell (p := ⟨w.heap.size + 1 + 1, 1, none⟩) (by show w.heap.size ≤ w.heap.size + 1 + 1; omega) _).setCell (p := ⟨w.heap.size + 1 + 1, 2, none⟩) (by show w.heap.size ≤ w.heap.size + 1 + 1; omega) _⟩
theorem rdoes_0 {a ao : Option Addr} {c co : Nat} {s : St} (n : Int) (pa : Option Addr) (len cap : Nat) (w : World) (h : RW w a c ao co s) (he : s.e = 0) :
    Calls Try.prog 10 #[rwV a c ao co s, putV 0 n pa len cap] w fun e w' => ∃ a' c', e = .returned (rwV a' c' ao co (s.putW 1 (byteAt (n % 256).toNat))) ∧ RW w' a' c' ao co (s.putW 1 (byteAt (n % 256).toNat)) ∧ Below w.heap.size w w' ∧ NewRow w.heap.size w' a a' := by
  have hX := ((Whole.fresh w 29 #[.slice a s.n c, .slice ao s.op co, .int .i64 (s.e : Nat)]).alloc (.cells #[.int .i64 0, .int .i64 n, .slice pa len cap] 32)).alloc (.cells #[.slice none 0 0, .slice none 0 0, .int .i64 0] 29)
  have hY := (Whole.fresh (w.alloc (.cells #[.slice a s.n c, .slice ao s.op co, .int .i64 (s.e : Nat)] 29)) 32 #[.int .i64 0, .int .i64 n, .slice pa len cap]).alloc (.cells #[.slice none 0 0, .slice none 0 0, .int .i64 0] 29)
  have hZ := Whole.fresh ((w.alloc (.cells #[.slice a s.n c, .slice ao s.op co, .int .i64 (s.e : Nat)] 29)).alloc (.cells #[.int .i64 0, .int .i64 n, .slice pa len cap] 32)) 29 #[.slice none 0 0, .slice none 0 0, .int .i64 0]
  have hB := (((Below.refl w.heap.size w).alloc (Nat.le_refl _) (.cells #[.slice a s.n c, .slice ao s.op co, .int .i64 (s.e : Nat)] 29)).alloc (by simp) (.cells #[.int .i64 0, .int .i64 n, .slice pa len cap] 32)).alloc (by simp; omega) (.cells #[.slice none 0 0, .slice none 0 0, .int .i64 0] 29)
  have hys : (w.alloc (.cells #[.slice a s.n c, .slice ao s.op co, .int .i64 (s.e : Nat)] 29)).heap.size = w.heap.size + 1 := by simp
  have hzs : ((w.alloc (.cells #[.slice a s.n c, .slice ao s.op co, .int .i64 (s.e : Nat)] 29)).alloc (.cells #[.int .i64 0, .int .i64 n, .slice pa len cap] 32)).heap.size = w.heap.size + 1 + 1 := by simp
  rw [hys] at hY
  rw [hzs] at hZ
  have t0 : ((0 : Int) != 0) = false := rfl
  have hRW := Lib.hid h
  have e1 : n % 256 = ((n % 256).toNat : Nat) := by omega
  have e2 : IntKind.u8.wrap n = ((n % 256).toNat : Nat) := by simp only [IntKind.wrap_u8]; omega
  have hx : (n % 256).toNat < 256 := by omega
  generalize (n % 256).toNat = x at *
  have w1 : IntKind.u64.wrap (x : Int) = (x : Int) := by simp only [IntKind.wrap_u64]; omega
  have HL := Lib.hid (fun W => rlaid_any x 1 W (by omega) (by decide))
  have hgn := h.good.n
  have hge := Lib.hid he
  have hl1 := Lib.hid (Below.refl w.heap.size w)
  unfold rwV putV
  rw [he] at hX hY hZ hB hys hzs ⊢
  clear h he e1
  replace hx := Lib.hid hx
  go_enter Try.func10, Try.ntmps10
  go_upto_region 1 with (fail)
  have e0 : ((0 : Nat) : Int) = 0 := rfl
  rw [e0] at hX hY hZ hB
  obtain ⟨N, hN⟩ : ∃ N, s.n = N := ⟨_, rfl⟩
  obtain ⟨op, hop⟩ : ∃ op, s.op = op := ⟨_, rfl⟩
  rw [hN, hop] at hX hY hZ hB ⊢
  rw [hN] at hgn
  generalize ((w.alloc (.cells #[.slice a N c, .slice ao op co, .int .i64 0] 29)).alloc (.cells #[.int .i64 0, .int .i64 n, .slice pa len cap] 32)).alloc (.cells #[.slice none 0 0, .slice none 0 0, .int .i64 0] 29) = W0 at *
  have c0 := hX.cell 0
  have c1 := hX.cell 1
  have c2 := hX.cell 2
  simp only [List.getElem?_toArray, List.getElem?_cons_zero, List.getElem?_cons_succ] at c0 c1 c2
  have p0 := hY.cell 0
  have p1 := hY.cell 1
  simp only [List.getElem?_toArray, List.getElem?_cons_zero, List.getElem?_cons_succ] at p0 p1
  clear t0
  go_wp2_with fail
  refine (HL.out _).mono ?_
  rintro e W1 ⟨G1, rfl, hH1, hG1, hB1⟩
  have hB2 := hB.trans (hB1.mono hB.size)
  have hX2 := hX.below hB1 hX.lt
  have hY2 := hY.below hB1 hY.lt
  have hZ2 := hZ.below hB1 hZ.lt
  have hZl := hZ2.lt
  have c0 := hX2.cell 0
  have c1 := hX2.cell 1
  have c2 := hX2.cell 2
  simp only [List.getElem?_toArray, List.getElem?_cons_zero, List.getElem?_cons_succ] at c0 c1 c2
  have f0 := hX2.free 0
  have f2 := hX2.free 2
  have p0 := hY2.cell 0
  simp only [List.getElem?_toArray, List.getElem?_cons_zero] at p0
  have z0 := hZ2.cell 0
  have z1 := hZ2.cell 1
  have z2 := hZ2.cell 2
  simp only [List.getElem?_toArray, List.getElem?_cons_zero, List.getElem?_cons_succ] at z0 z1 z2
  have g0 := hZ2.free 0
  have g1 := hZ2.free 1
  have g2 := hZ2.free 2
  have hRowb := hH1.row
  clear hX hY hZ hB hB1 HL hH1 hG1 hys hzs e2 w1 hl1
  by_cases hroom : 16777216 < s.n + 1
  · have hP := Lib.hid (show s.putW 1 (byteAt x) = { s with e := 4 } from if_pos hroom)
    rw [hN] at hroom
    have r1 : (16777216 : Int) < (N : Int) + 1 := by omega
    have r2 : decide ((N : Int) + 1 > 16777216) = true := decide_eq_true (by omega)
    have r3 : wrap64 ((N : Int) + 1) = (N : Int) + 1 := by unfold wrap64; omega
    have r4 : IntKind.i64.wrap ((N : Int) + 1) = (N : Int) + 1 := by simp only [IntKind.wrap_i64]; omega
    replace hroom := Lib.hid hroom
    replace hgn := Lib.hid hgn
    have hZ3 := hZ2.away (p := ⟨w.heap.size, 2, none⟩) (by show w.heap.size + 1 + 1 ≠ w.heap.size; omega) (.int .i64 4)
    have hB3 := hB2.setCell (p := ⟨w.heap.size, 2, none⟩) (Nat.le_refl _) (.int .i64 4)
    replace hZ3 := Lib.hid hZ3
    replace hB3 := Lib.hid hB3
    clear hX2 hY2 hZ2 hB2 hRowb
    go_wp2_with fail
    have hBF := (((hB3.out).setCell (p := ⟨w.heap.size + 1 + 1, 0, none⟩) (by show w.heap.size ≤ w.heap.size + 1 + 1; omega) (.slice a N c)).setCell (p := ⟨w.heap.size + 1 + 1, 1, none⟩) (by show w.heap.size ≤ w.heap.size + 1 + 1; omega) (.slice ao op co)).setCell (p := ⟨w.heap.size + 1 + 1, 2, none⟩) (by show w.heap.size ≤ w.heap.size + 1 + 1; omega) (.int .i64 4)
    exact bodyPost_ret (results_cell_row (fn := Try.f10) (p := 4) (ty := 29) rfl _ _ _ _ _ (0, 0) _ rfl (((hZ3.out.put 0 _).put 1 _).put 2 _) Try.underlying29 rfl (by kernel_rfl)) rfl
      ⟨a, c, by rw [hP.out, ← hN, ← hop]; rfl, by rw [hP.out]; exact ⟨hRW.out.body.below hBF, hRW.out.opens.below hBF, hRW.out.le, hRW.out.len, ⟨hRW.out.good.op, hRW.out.good.n, hRW.out.good.ps⟩⟩, hBF, .inl rfl⟩
  · have hP := Lib.hid (show s.putW 1 (byteAt x) = s.put 1 (byteAt x) from if_neg hroom)
    have hroom2 : s.n + 1 ≤ 16777216 := by omega
    have hg2 : (s.put 1 (byteAt x)).Good := ⟨hRW.out.good.op, hroom2, fun i hi => ⟨(hRW.out.good.ps i hi).1, by have := (hRW.out.good.ps i hi).2; show s.ps i ≤ s.n + 1; omega⟩⟩
    rw [hN] at hroom
    have r1 : ¬ (16777216 : Int) < (N : Int) + 1 := by omega
    have r2 : decide ((N : Int) + 1 > 16777216) = false := decide_eq_false (by omega)
    have r3 : wrap64 ((N : Int) + 1) = (N : Int) + 1 := by unfold wrap64; omega
    have r4 : IntKind.i64.wrap ((N : Int) + 1) = (N : Int) + 1 := by simp only [IntKind.wrap_i64]; omega
    have hrow := hRW.out.body.below hB2
    rw [hN] at hrow
    obtain ⟨v8, W2, hr8, hO8, hF8, hg8⟩ := run_append_more W1 25 W1.heap.size (.slice none 0 0) 0 N c a (fun _ => 0) s.f (Owns.none _ _) (fun y hy => by cases hy) hrow (by omega) (Nat.le_refl _)
    have hB8 : Below W1.heap.size W1 W2 := From.below (fun y hy => by cases hy) hg8 (Nat.le_refl _)
    rw [Nat.zero_add] at hO8
    obtain ⟨v9, W3, hr9, hO9, hF9, hg9⟩ := run_append_more W2 25 W1.heap.size v8 N 1 1 _ _ _ hO8 hF8 (hRowb.below hB8) (by omega) hB8.size
    have hB9 : Below W1.heap.size W1 W3 := hB8.trans (hF8.below hg9 hB8.size)
    obtain ⟨a9, c9, rfl, hR9, hle9⟩ : ∃ a9 c9, v9 = .slice a9 (N + 1) c9 ∧ Row W3 a9 (N + 1) (both (both (fun _ => 0) 0 s.f) N (byteAt x)) ∧ N + 1 ≤ c9 := by
      rcases hO9.2 with ⟨rfl, h0⟩ | ⟨g, cap, cs, rfl, hw, q1, _⟩
      · omega
      · obtain ⟨a9, c9, e, hR9⟩ := hO9.row
        injection e with e1 e2 e3
        exact ⟨_, _, rfl, e1 ▸ hR9, q1⟩
    have hX3 := hX2.below hB9 hX2.lt
    have hY3 := hY2.below hB9 hY2.lt
    have hZ3 := hZ2.below hB9 hZ2.lt
    have hB3 := hB2.trans (hB9.mono hB2.size)
    have d0 := hX3.cell 0
    have d1 := hX3.cell 1
    have d2 := hX3.cell 2
    simp only [List.getElem?_toArray, List.getElem?_cons_zero, List.getElem?_cons_succ] at d0 d1 d2
    have e3 := hX3.free 0
    have p3 := hY3.cell 0
    simp only [List.getElem?_toArray, List.getElem?_cons_zero] at p3
    have y0 := hZ3.cell 0
    have y1 := hZ3.cell 1
    have y2 := hZ3.cell 2
    simp only [List.getElem?_toArray, List.getElem?_cons_zero, List.getElem?_cons_succ] at y0 y1 y2
    have k0 := hZ3.free 0
    have k1 := hZ3.free 1
    have k2 := hZ3.free 2
    have hOwn := hO9
    have hF9l : ∀ y, (Value.slice a9 (N + 1) c9).ownBlock = some y → w.heap.size + 1 + 1 < y := fun y hy => by have := hF9 y hy; omega
    have hNR := Lib.hid (show ∀ ad, a9 = some ad → w.heap.size ≤ ad.block from fun ad e => by subst e; have := hF9l ad.block rfl; omega)
    have hZ4 := Lib.hid (hZ3.away (p := ⟨w.heap.size, 0, none⟩) (by show w.heap.size + 1 + 1 ≠ w.heap.size; omega) (.slice a9 (N + 1) c9))
    have hB4 := Lib.hid (hB3.setCell (p := ⟨w.heap.size, 0, none⟩) (Nat.le_refl _) (.slice a9 (N + 1) c9))
    have hO4 := Lib.hid ((((hOwn.away (x := w.heap.size) (fun e => by have := hF9l _ e; omega) 0 (.slice a9 (N + 1) c9)).away (x := w.heap.size + 1 + 1) (fun e => by have := hF9l _ e; omega) 0 (.slice a9 (N + 1) c9)).away (x := w.heap.size + 1 + 1) (fun e => by have := hF9l _ e; omega) 1 (.slice ao op co)).away (x := w.heap.size + 1 + 1) (fun e => by have := hF9l _ e; omega) 2 (.int .i64 0))
    have hle := Lib.hid hle9
    have hgl := Lib.hid hg2
    replace hgn := Lib.hid hgn
    replace hroom := Lib.hid hroom
    clear hX2 hY2 hZ2 hB2 hRowb hrow hO8 hF8 hg8 hB8 hO9 hF9 hg9 hB9 hR9 hle9 hX3 hY3 hZ3 hB3 hOwn hF9l hg2 hroom2
    go_upto_region 37 with (fail)
    go_upto_region 38 with (at_builtin; refine wpList_append_ran2 rfl _ _ 25 25 rfl _ _ _ W2 rfl rfl hr8 ?_)
    clear hr8
    go_wp2_with (at_builtin; refine wpList_append_ran2 rfl _ _ 25 25 rfl _ _ _ W3 rfl rfl hr9 ?_)
    have hBF := (((hB4.out).setCell (p := ⟨w.heap.size + 1 + 1, 0, none⟩) (by show w.heap.size ≤ w.heap.size + 1 + 1; omega) (.slice a9 (N + 1) c9)).setCell (p := ⟨w.heap.size + 1 + 1, 1, none⟩) (by show w.heap.size ≤ w.heap.size + 1 + 1; omega) (.slice ao op co)).setCell (p := ⟨w.heap.size + 1 + 1, 2, none⟩) (by show w.heap.size ≤ w.heap.size + 1 + 1; omega) (.int .i64 0)
    exact bodyPost_ret (results_cell_row (fn := Try.f10) (p := 4) (ty := 29) rfl _ _ _ _ _ (0, 0) _ rfl (((hZ4.out.put 0 _).put 1 _).put 2 _) Try.underlying29 rfl (by kernel_rfl)) rfl
      ⟨a9, c9, by rw [hP.out]; show _ = Ending.returned (.agg #[.slice a9 (s.n + 1) c9, .slice ao s.op co, .int .i64 (s.e : Nat)]); rw [hN, hop, hge.out]; rfl,
        by
          rw [hP.out]
          refine ⟨?_, hRW.out.opens.below hBF, hRW.out.le, by show s.n + 1 ≤ c9; rw [hN]; exact hle.out, hgl.out⟩
          obtain ⟨a2, c2, e, hr⟩ := hO4.out.row
          injection e with e1 e2 e3
          subst e1
          show Row _ a9 (s.n + 1) _
          rw [hN]
          exact hr.congr (fun i hi => by
            show both (both (fun _ => 0) 0 s.f) N (byteAt x) i = if i < s.n then s.f i else byteAt x (i - s.n)
            rw [hN]
            unfold both
            by_cases q : i < N
            · rw [if_pos q, if_pos q, if_neg (by omega)]; rfl
            · rw [if_neg q, if_neg q]), hBF, .inr fun ad e => ⟨hNR.out ad e, by subst e; exact hO4.out.lt _ rfl⟩⟩
theorem rdoes_1 {a ao : Option Addr} {c co : Nat} {s : St} (n : Int) (pa : Option Addr) (len cap : Nat) (w : World) (h : RW w a c ao co s) (he : s.e = 0) :
    Calls Try.prog 10 #[rwV a c ao co s, putV 1 n pa len cap] w fun e w' => ∃ a' c', e = .returned (rwV a' c' ao co (s.putW 2 (byteAt (n % 65536).toNat))) ∧ RW w' a' c' ao co (s.putW 2 (byteAt (n % 65536).toNat)) ∧ Below w.heap.size w w' ∧ NewRow w.heap.size w' a a' := by
  have hX := ((Whole.fresh w 29 #[.slice a s.n c, .slice ao s.op co, .int .i64 (s.e : Nat)]).alloc (.cells #[.int .i64 1, .int .i64 n, .slice pa len cap] 32)).alloc (.cells #[.slice none 0 0, .slice none 0 0, .int .i64 0] 29)
  have hY := (Whole.fresh (w.alloc (.cells #[.slice a s.n c, .slice ao s.op co, .int .i64 (s.e : Nat)] 29)) 32 #[.int .i64 1, .int .i64 n, .slice pa len cap]).alloc (.cells #[.slice none 0 0, .slice none 0 0, .int .i64 0] 29)
  have hZ := Whole.fresh ((w.alloc (.cells #[.slice a s.n c, .slice ao s.op co, .int .i64 (s.e : Nat)] 29)).alloc (.cells #[.int .i64 1, .int .i64 n, .slice pa len cap] 32)) 29 #[.slice none 0 0, .slice none 0 0, .int .i64 0]
  have hB := (((Below.refl w.heap.size w).alloc (Nat.le_refl _) (.cells #[.slice a s.n c, .slice ao s.op co, .int .i64 (s.e : Nat)] 29)).alloc (by simp) (.cells #[.int .i64 1, .int .i64 n, .slice pa len cap] 32)).alloc (by simp; omega) (.cells #[.slice none 0 0, .slice none 0 0, .int .i64 0] 29)
  have hys : (w.alloc (.cells #[.slice a s.n c, .slice ao s.op co, .int .i64 (s.e : Nat)] 29)).heap.size = w.heap.size + 1 := by simp
  have hzs : ((w.alloc (.cells #[.slice a s.n c, .slice ao s.op co, .int .i64 (s.e : Nat)] 29)).alloc (.cells #[.int .i64 1, .int .i64 n, .slice pa len cap] 32)).heap.size = w.heap.size + 1 + 1 := by simp
  rw [hys] at hY
  rw [hzs] at hZ
  have t0 : ((0 : Int) != 0) = false := rfl
  have hRW := Lib.hid h
  have e1 : n % 65536 = ((n % 65536).toNat : Nat) := by omega
  have e2 : IntKind.u16.wrap n = ((n % 65536).toNat : Nat) := by simp only [IntKind.wrap_u16]; omega
  have hx : (n % 65536).toNat < 65536 := by omega
  generalize (n % 65536).toNat = x at *
  have w1 : IntKind.u64.wrap (x : Int) = (x : Int) := by simp only [IntKind.wrap_u64]; omega
  have HL := Lib.hid (fun W => rlaid_any x 2 W (by omega) (by decide))
  have hgn := h.good.n
  have hge := Lib.hid he
  have hl1 := Lib.hid (Below.refl w.heap.size w)
  unfold rwV putV
  rw [he] at hX hY hZ hB hys hzs ⊢
  clear h he e1
  replace hx := Lib.hid hx
  go_enter Try.func10, Try.ntmps10
  go_upto_region 1 with (fail)
  have e0 : ((0 : Nat) : Int) = 0 := rfl
  rw [e0] at hX hY hZ hB
  obtain ⟨N, hN⟩ : ∃ N, s.n = N := ⟨_, rfl⟩
  obtain ⟨op, hop⟩ : ∃ op, s.op = op := ⟨_, rfl⟩
  rw [hN, hop] at hX hY hZ hB ⊢
  rw [hN] at hgn
  generalize ((w.alloc (.cells #[.slice a N c, .slice ao op co, .int .i64 0] 29)).alloc (.cells #[.int .i64 1, .int .i64 n, .slice pa len cap] 32)).alloc (.cells #[.slice none 0 0, .slice none 0 0, .int .i64 0] 29) = W0 at *
  have c0 := hX.cell 0
  have c1 := hX.cell 1
  have c2 := hX.cell 2
  simp only [List.getElem?_toArray, List.getElem?_cons_zero, List.getElem?_cons_succ] at c0 c1 c2
  have p0 := hY.cell 0
  have p1 := hY.cell 1
  simp only [List.getElem?_toArray, List.getElem?_cons_zero, List.getElem?_cons_succ] at p0 p1
  clear t0
  go_wp2_with fail
  refine (HL.out _).mono ?_
  rintro e W1 ⟨G1, rfl, hH1, hG1, hB1⟩
  have hB2 := hB.trans (hB1.mono hB.size)
  have hX2 := hX.below hB1 hX.lt
  have hY2 := hY.below hB1 hY.lt
  have hZ2 := hZ.below hB1 hZ.lt
  have hZl := hZ2.lt
  have c0 := hX2.cell 0
  have c1 := hX2.cell 1
  have c2 := hX2.cell 2
  simp only [List.getElem?_toArray, List.getElem?_cons_zero, List.getElem?_cons_succ] at c0 c1 c2
  have f0 := hX2.free 0
  have f2 := hX2.free 2
  have p0 := hY2.cell 0
  simp only [List.getElem?_toArray, List.getElem?_cons_zero] at p0
  have z0 := hZ2.cell 0
  have z1 := hZ2.cell 1
  have z2 := hZ2.cell 2
  simp only [List.getElem?_toArray, List.getElem?_cons_zero, List.getElem?_cons_succ] at z0 z1 z2
  have g0 := hZ2.free 0
  have g1 := hZ2.free 1
  have g2 := hZ2.free 2
  have hRowb := hH1.row
  clear hX hY hZ hB hB1 HL hH1 hG1 hys hzs e2 w1 hl1
  by_cases hroom : 16777216 < s.n + 2
  · have hP := Lib.hid (show s.putW 2 (byteAt x) = { s with e := 4 } from if_pos hroom)
    rw [hN] at hroom
    have r1 : (16777216 : Int) < (N : Int) + 2 := by omega
    have r2 : decide ((N : Int) + 2 > 16777216) = true := decide_eq_true (by omega)
    have r3 : wrap64 ((N : Int) + 2) = (N : Int) + 2 := by unfold wrap64; omega
    have r4 : IntKind.i64.wrap ((N : Int) + 2) = (N : Int) + 2 := by simp only [IntKind.wrap_i64]; omega
    replace hroom := Lib.hid hroom
    replace hgn := Lib.hid hgn
    have hZ3 := hZ2.away (p := ⟨w.heap.size, 2, none⟩) (by show w.heap.size + 1 + 1 ≠ w.heap.size; omega) (.int .i64 4)
    have hB3 := hB2.setCell (p := ⟨w.heap.size, 2, none⟩) (Nat.le_refl _) (.int .i64 4)
    replace hZ3 := Lib.hid hZ3
    replace hB3 := Lib.hid hB3
    clear hX2 hY2 hZ2 hB2 hRowb
    go_wp2_with fail
    have hBF := (((hB3.out).setCell (p := ⟨w.heap.size + 1 + 1, 0, none⟩) (by show w.heap.size ≤ w.heap.size + 1 + 1; omega) (.slice a N c)).setCell (p := ⟨w.heap.size + 1 + 1, 1, none⟩) (by show w.heap.size ≤ w.heap.size + 1 + 1; omega) (.slice ao op co)).setCell (p := ⟨w.heap.size + 1 + 1, 2, none⟩) (by show w.heap.size ≤ w.heap.size + 1 + 1; omega) (.int .i64 4)
    exact bodyPost_ret (results_cell_row (fn := Try.f10) (p := 4) (ty := 29) rfl _ _ _ _ _ (0, 0) _ rfl (((hZ3.out.put 0 _).put 1 _).put 2 _) Try.underlying29 rfl (by kernel_rfl)) rfl
      ⟨a, c, by rw [hP.out, ← hN, ← hop]; rfl, by rw [hP.out]; exact ⟨hRW.out.body.below hBF, hRW.out.opens.below hBF, hRW.out.le, hRW.out.len, ⟨hRW.out.good.op, hRW.out.good.n, hRW.out.good.ps⟩⟩, hBF, .inl rfl⟩
  · have hP := Lib.hid (show s.putW 2 (byteAt x) = s.put 2 (byteAt x) from if_neg hroom)
    have hroom2 : s.n + 2 ≤ 16777216 := by omega
    have hg2 : (s.put 2 (byteAt x)).Good := ⟨hRW.out.good.op, hroom2, fun i hi => ⟨(hRW.out.good.ps i hi).1, by have := (hRW.out.good.ps i hi).2; show s.ps i ≤ s.n + 2; omega⟩⟩
    rw [hN] at hroom
    have r1 : ¬ (16777216 : Int) < (N : Int) + 2 := by omega
    have r2 : decide ((N : Int) + 2 > 16777216) = false := decide_eq_false (by omega)
    have r3 : wrap64 ((N : Int) + 2) = (N : Int) + 2 := by unfold wrap64; omega
    have r4 : IntKind.i64.wrap ((N : Int) + 2) = (N : Int) + 2 := by simp only [IntKind.wrap_i64]; omega
    have hrow := hRW.out.body.below hB2
    rw [hN] at hrow
    obtain ⟨v8, W2, hr8, hO8, hF8, hg8⟩ := run_append_more W1 25 W1.heap.size (.slice none 0 0) 0 N c a (fun _ => 0) s.f (Owns.none _ _) (fun y hy => by cases hy) hrow (by omega) (Nat.le_refl _)
    have hB8 : Below W1.heap.size W1 W2 := From.below (fun y hy => by cases hy) hg8 (Nat.le_refl _)
    rw [Nat.zero_add] at hO8
    obtain ⟨v9, W3, hr9, hO9, hF9, hg9⟩ := run_append_more W2 25 W1.heap.size v8 N 2 2 _ _ _ hO8 hF8 (hRowb.below hB8) (by omega) hB8.size
    have hB9 : Below W1.heap.size W1 W3 := hB8.trans (hF8.below hg9 hB8.size)
    obtain ⟨a9, c9, rfl, hR9, hle9⟩ : ∃ a9 c9, v9 = .slice a9 (N + 2) c9 ∧ Row W3 a9 (N + 2) (both (both (fun _ => 0) 0 s.f) N (byteAt x)) ∧ N + 2 ≤ c9 := by
      rcases hO9.2 with ⟨rfl, h0⟩ | ⟨g, cap, cs, rfl, hw, q1, _⟩
      · omega
      · obtain ⟨a9, c9, e, hR9⟩ := hO9.row
        injection e with e1 e2 e3
        exact ⟨_, _, rfl, e1 ▸ hR9, q1⟩
    have hX3 := hX2.below hB9 hX2.lt
    have hY3 := hY2.below hB9 hY2.lt
    have hZ3 := hZ2.below hB9 hZ2.lt
    have hB3 := hB2.trans (hB9.mono hB2.size)
    have d0 := hX3.cell 0
    have d1 := hX3.cell 1
    have d2 := hX3.cell 2
    simp only [List.getElem?_toArray, List.getElem?_cons_zero, List.getElem?_cons_succ] at d0 d1 d2
    have e3 := hX3.free 0
    have p3 := hY3.cell 0
    simp only [List.getElem?_toArray, List.getElem?_cons_zero] at p3
    have y0 := hZ3.cell 0
    have y1 := hZ3.cell 1
    have y2 := hZ3.cell 2
    simp only [List.getElem?_toArray, List.getElem?_cons_zero, List.getElem?_cons_succ] at y0 y1 y2
    have k0 := hZ3.free 0
    have k1 := hZ3.free 1
    have k2 := hZ3.free 2
    have hOwn := hO9
    have hF9l : ∀ y, (Value.slice a9 (N + 2) c9).ownBlock = some y → w.heap.size + 1 + 1 < y := fun y hy => by have := hF9 y hy; omega
    have hNR := Lib.hid (show ∀ ad, a9 = some ad → w.heap.size ≤ ad.block from fun ad e => by subst e; have := hF9l ad.block rfl; omega)
    have hZ4 := Lib.hid (hZ3.away (p := ⟨w.heap.size, 0, none⟩) (by show w.heap.size + 1 + 1 ≠ w.heap.size; omega) (.slice a9 (N + 2) c9))
    have hB4 := Lib.hid (hB3.setCell (p := ⟨w.heap.size, 0, none⟩) (Nat.le_refl _) (.slice a9 (N + 2) c9))
    have hO4 := Lib.hid ((((hOwn.away (x := w.heap.size) (fun e => by have := hF9l _ e; omega) 0 (.slice a9 (N + 2) c9)).away (x := w.heap.size + 1 + 1) (fun e => by have := hF9l _ e; omega) 0 (.slice a9 (N + 2) c9)).away (x := w.heap.size + 1 + 1) (fun e => by have := hF9l _ e; omega) 1 (.slice ao op co)).away (x := w.heap.size + 1 + 1) (fun e => by have := hF9l _ e; omega) 2 (.int .i64 0))
    have hle := Lib.hid hle9
    have hgl := Lib.hid hg2
    replace hgn := Lib.hid hgn
    replace hroom := Lib.hid hroom
    clear hX2 hY2 hZ2 hB2 hRowb hrow hO8 hF8 hg8 hB8 hO9 hF9 hg9 hB9 hR9 hle9 hX3 hY3 hZ3 hB3 hOwn hF9l hg2 hroom2
    go_upto_region 37 with (fail)
    go_upto_region 38 with (at_builtin; refine wpList_append_ran2 rfl _ _ 25 25 rfl _ _ _ W2 rfl rfl hr8 ?_)
    clear hr8
    go_wp2_with (at_builtin; refine wpList_append_ran2 rfl _ _ 25 25 rfl _ _ _ W3 rfl rfl hr9 ?_)
    have hBF := (((hB4.out).setCell (p := ⟨w.heap.size + 1 + 1, 0, none⟩) (by show w.heap.size ≤ w.heap.size + 1 + 1; omega) (.slice a9 (N + 2) c9)).setCell (p := ⟨w.heap.size + 1 + 1, 1, none⟩) (by show w.heap.size ≤ w.heap.size + 1 + 1; omega) (.slice ao op co)).setCell (p := ⟨w.heap.size + 1 + 1, 2, none⟩) (by show w.heap.size ≤ w.heap.size + 1 + 1; omega) (.int .i64 0)
    exact bodyPost_ret (results_cell_row (fn := Try.f10) (p := 4) (ty := 29) rfl _ _ _ _ _ (0, 0) _ rfl (((hZ4.out.put 0 _).put 1 _).put 2 _) Try.underlying29 rfl (by kernel_rfl)) rfl
      ⟨a9, c9, by rw [hP.out]; show _ = Ending.returned (.agg #[.slice a9 (s.n + 2) c9, .slice ao s.op co, .int .i64 (s.e : Nat)]); rw [hN, hop, hge.out]; rfl,
        by
          rw [hP.out]
          refine ⟨?_, hRW.out.opens.below hBF, hRW.out.le, by show s.n + 2 ≤ c9; rw [hN]; exact hle.out, hgl.out⟩
          obtain ⟨a2, c2, e, hr⟩ := hO4.out.row
          injection e with e1 e2 e3
          subst e1
          show Row _ a9 (s.n + 2) _
          rw [hN]
          exact hr.congr (fun i hi => by
            show both (both (fun _ => 0) 0 s.f) N (byteAt x) i = if i < s.n then s.f i else byteAt x (i - s.n)
            rw [hN]
            unfold both
            by_cases q : i < N
            · rw [if_pos q, if_pos q, if_neg (by omega)]; rfl
            · rw [if_neg q, if_neg q]), hBF, .inr fun ad e => ⟨hNR.out ad e, by subst e; exact hO4.out.lt _ rfl⟩⟩
theorem rdoes_2 {a ao : Option Addr} {c co : Nat} {s : St} (n : Int) (pa : Option Addr) (len cap : Nat) (w : World) (h : RW w a c ao co s) (he : s.e = 0) :
    Calls Try.prog 10 #[rwV a c ao co s, putV 2 n pa len cap] w fun e w' => ∃ a' c', e = .returned (rwV a' c' ao co (s.putW 4 (byteAt (n % 4294967296).toNat))) ∧ RW w' a' c' ao co (s.putW 4 (byteAt (n % 4294967296).toNat)) ∧ Below w.heap.size w w' ∧ NewRow w.heap.size w' a a' := by
  have hX := ((Whole.fresh w 29 #[.slice a s.n c, .slice ao s.op co, .int .i64 (s.e : Nat)]).alloc (.cells #[.int .i64 2, .int .i64 n, .slice pa len cap] 32)).alloc (.cells #[.slice none 0 0, .slice none 0 0, .int .i64 0] 29)
  have hY := (Whole.fresh (w.alloc (.cells #[.slice a s.n c, .slice ao s.op co, .int .i64 (s.e : Nat)] 29)) 32 #[.int .i64 2, .int .i64 n, .slice pa len cap]).alloc (.cells #[.slice none 0 0, .slice none 0 0, .int .i64 0] 29)
  have hZ := Whole.fresh ((w.alloc (.cells #[.slice a s.n c, .slice ao s.op co, .int .i64 (s.e : Nat)] 29)).alloc (.cells #[.int .i64 2, .int .i64 n, .slice pa len cap] 32)) 29 #[.slice none 0 0, .slice none 0 0, .int .i64 0]
  have hB := (((Below.refl w.heap.size w).alloc (Nat.le_refl _) (.cells #[.slice a s.n c, .slice ao s.op co, .int .i64 (s.e : Nat)] 29)).alloc (by simp) (.cells #[.int .i64 2, .int .i64 n, .slice pa len cap] 32)).alloc (by simp; omega) (.cells #[.slice none 0 0, .slice none 0 0, .int .i64 0] 29)
  have hys : (w.alloc (.cells #[.slice a s.n c, .slice ao s.op co, .int .i64 (s.e : Nat)] 29)).heap.size = w.heap.size + 1 := by simp
  have hzs : ((w.alloc (.cells #[.slice a s.n c, .slice ao s.op co, .int .i64 (s.e : Nat)] 29)).alloc (.cells #[.int .i64 2, .int .i64 n, .slice pa len cap] 32)).heap.size = w.heap.size + 1 + 1 := by simp
  rw [hys] at hY
  rw [hzs] at hZ
  have t0 : ((0 : Int) != 0) = false := rfl
  have hRW := Lib.hid h
  have e1 : n % 4294967296 = ((n % 4294967296).toNat : Nat) := by omega
  have e2 : IntKind.u32.wrap n = ((n % 4294967296).toNat : Nat) := by simp only [IntKind.wrap_u32]; omega
  have hx : (n % 4294967296).toNat < 4294967296 := by omega
  generalize (n % 4294967296).toNat = x at *
  have w1 : IntKind.u64.wrap (x : Int) = (x : Int) := by simp only [IntKind.wrap_u64]; omega
  have HL := Lib.hid (fun W => rlaid_any x 4 W (by omega) (by decide))
  have hgn := h.good.n
  have hge := Lib.hid he
  have hl1 := Lib.hid (Below.refl w.heap.size w)
  unfold rwV putV
  rw [he] at hX hY hZ hB hys hzs ⊢
  clear h he e1
  replace hx := Lib.hid hx
  go_enter Try.func10, Try.ntmps10
  go_upto_region 1 with (fail)
  have e0 : ((0 : Nat) : Int) = 0 := rfl
  rw [e0] at hX hY hZ hB
  obtain ⟨N, hN⟩ : ∃ N, s.n = N := ⟨_, rfl⟩
  obtain ⟨op, hop⟩ : ∃ op, s.op = op := ⟨_, rfl⟩
  rw [hN, hop] at hX hY hZ hB ⊢
  rw [hN] at hgn
  generalize ((w.alloc (.cells #[.slice a N c, .slice ao op co, .int .i64 0] 29)).alloc (.cells #[.int .i64 2, .int .i64 n, .slice pa len cap] 32)).alloc (.cells #[.slice none 0 0, .slice none 0 0, .int .i64 0] 29) = W0 at *
  have c0 := hX.cell 0
  have c1 := hX.cell 1
  have c2 := hX.cell 2
  simp only [List.getElem?_toArray, List.getElem?_cons_zero, List.getElem?_cons_succ] at c0 c1 c2
  have p0 := hY.cell 0
  have p1 := hY.cell 1
  simp only [List.getElem?_toArray, List.getElem?_cons_zero, List.getElem?_cons_succ] at p0 p1
  clear t0
  go_wp2_with fail
  refine (HL.out _).mono ?_
  rintro e W1 ⟨G1, rfl, hH1, hG1, hB1⟩
  have hB2 := hB.trans (hB1.mono hB.size)
  have hX2 := hX.below hB1 hX.lt
  have hY2 := hY.below hB1 hY.lt
  have hZ2 := hZ.below hB1 hZ.lt
  have hZl := hZ2.lt
  have c0 := hX2.cell 0
  have c1 := hX2.cell 1
  have c2 := hX2.cell 2
  simp only [List.getElem?_toArray, List.getElem?_cons_zero, List.getElem?_cons_succ] at c0 c1 c2
  have f0 := hX2.free 0
  have f2 := hX2.free 2
  have p0 := hY2.cell 0
  simp only [List.getElem?_toArray, List.getElem?_cons_zero] at p0
  have z0 := hZ2.cell 0
  have z1 := hZ2.cell 1
  have z2 := hZ2.cell 2
  simp only [List.getElem?_toArray, List.getElem?_cons_zero, List.getElem?_cons_succ] at z0 z1 z2
  have g0 := hZ2.free 0
  have g1 := hZ2.free 1
  have g2 := hZ2.free 2
  have hRowb := hH1.row
  clear hX hY hZ hB hB1 HL hH1 hG1 hys hzs e2 w1 hl1
  by_cases hroom : 16777216 < s.n + 4
  · have hP := Lib.hid (show s.putW 4 (byteAt x) = { s with e := 4 } from if_pos hroom)
    rw [hN] at hroom
    have r1 : (16777216 : Int) < (N : Int) + 4 := by omega
    have r2 : decide ((N : Int) + 4 > 16777216) = true := decide_eq_true (by omega)
    have r3 : wrap64 ((N : Int) + 4) = (N : Int) + 4 := by unfold wrap64; omega
    have r4 : IntKind.i64.wrap ((N : Int) + 4) = (N : Int) + 4 := by simp only [IntKind.wrap_i64]; omega
    replace hroom := Lib.hid hroom
    replace hgn := Lib.hid hgn
    have hZ3 := hZ2.away (p := ⟨w.heap.size, 2, none⟩) (by show w.heap.size + 1 + 1 ≠ w.heap.size; omega) (.int .i64 4)
    have hB3 := hB2.setCell (p := ⟨w.heap.size, 2, none⟩) (Nat.le_refl _) (.int .i64 4)
    replace hZ3 := Lib.hid hZ3
    replace hB3 := Lib.hid hB3
    clear hX2 hY2 hZ2 hB2 hRowb
    go_wp2_with fail
    have hBF := (((hB3.out).setCell (p := ⟨w.heap.size + 1 + 1, 0, none⟩) (by show w.heap.size ≤ w.heap.size + 1 + 1; omega) (.slice a N c)).setCell (p := ⟨w.heap.size + 1 + 1, 1, none⟩) (by show w.heap.size ≤ w.heap.size + 1 + 1; omega) (.slice ao op co)).setCell (p := ⟨w.heap.size + 1 + 1, 2, none⟩) (by show w.heap.size ≤ w.heap.size + 1 + 1; omega) (.int .i64 4)
    exact bodyPost_ret (results_cell_row (fn := Try.f10) (p := 4) (ty := 29) rfl _ _ _ _ _ (0, 0) _ rfl (((hZ3.out.put 0 _).put 1 _).put 2 _) Try.underlying29 rfl (by kernel_rfl)) rfl
      ⟨a, c, by rw [hP.out, ← hN, ← hop]; rfl, by rw [hP.out]; exact ⟨hRW.out.body.below hBF, hRW.out.opens.below hBF, hRW.out.le, hRW.out.len, ⟨hRW.out.good.op, hRW.out.good.n, hRW.out.good.ps⟩⟩, hBF, .inl rfl⟩
  · have hP := Lib.hid (show s.putW 4 (byteAt x) = s.put 4 (byteAt x) from if_neg hroom)
    have hroom2 : s.n + 4 ≤ 16777216 := by omega
    have hg2 : (s.put 4 (byteAt x)).Good := ⟨hRW.out.good.op, hroom2, fun i hi => ⟨(hRW.out.good.ps i hi).1, by have := (hRW.out.good.ps i hi).2; show s.ps i ≤ s.n + 4; omega⟩⟩
    rw [hN] at hroom
    have r1 : ¬ (16777216 : Int) < (N : Int) + 4 := by omega
    have r2 : decide ((N : Int) + 4 > 16777216) = false := decide_eq_false (by omega)
    have r3 : wrap64 ((N : Int) + 4) = (N : Int) + 4 := by unfold wrap64; omega
    have r4 : IntKind.i64.wrap ((N : Int) + 4) = (N : Int) + 4 := by simp only [IntKind.wrap_i64]; omega
    have hrow := hRW.out.body.below hB2
    rw [hN] at hrow
    obtain ⟨v8, W2, hr8, hO8, hF8, hg8⟩ := run_append_more W1 25 W1.heap.size (.slice none 0 0) 0 N c a (fun _ => 0) s.f (Owns.none _ _) (fun y hy => by cases hy) hrow (by omega) (Nat.le_refl _)
    have hB8 : Below W1.heap.size W1 W2 := From.below (fun y hy => by cases hy) hg8 (Nat.le_refl _)
    rw [Nat.zero_add] at hO8
    obtain ⟨v9, W3, hr9, hO9, hF9, hg9⟩ := run_append_more W2 25 W1.heap.size v8 N 4 4 _ _ _ hO8 hF8 (hRowb.below hB8) (by omega) hB8.size
    have hB9 : Below W1.heap.size W1 W3 := hB8.trans (hF8.below hg9 hB8.size)
    obtain ⟨a9, c9, rfl, hR9, hle9⟩ : ∃ a9 c9, v9 = .slice a9 (N + 4) c9 ∧ Row W3 a9 (N + 4) (both (both (fun _ => 0) 0 s.f) N (byteAt x)) ∧ N + 4 ≤ c9 := by
      rcases hO9.2 with ⟨rfl, h0⟩ | ⟨g, cap, cs, rfl, hw, q1, _⟩
      · omega
      · obtain ⟨a9, c9, e, hR9⟩ := hO9.row
        injection e with e1 e2 e3
        exact ⟨_, _, rfl, e1 ▸ hR9, q1⟩
    have hX3 := hX2.below hB9 hX2.lt
    have hY3 := hY2.below hB9 hY2.lt
    have hZ3 := hZ2.below hB9 hZ2.lt
    have hB3 := hB2.trans (hB9.mono hB2.size)
    have d0 := hX3.cell 0
    have d1 := hX3.cell 1
    have d2 := hX3.cell 2
    simp only [List.getElem?_toArray, List.getElem?_cons_zero, List.getElem?_cons_succ] at d0 d1 d2
    have e3 := hX3.free 0
    have p3 := hY3.cell 0
    simp only [List.getElem?_toArray, List.getElem?_cons_zero] at p3
    have y0 := hZ3.cell 0
    have y1 := hZ3.cell 1
    have y2 := hZ3.cell 2
    simp only [List.getElem?_toArray, List.getElem?_cons_zero, List.getElem?_cons_succ] at y0 y1 y2
    have k0 := hZ3.free 0
    have k1 := hZ3.free 1
    have k2 := hZ3.free 2
    have hOwn := hO9
    have hF9l : ∀ y, (Value.slice a9 (N + 4) c9).ownBlock = some y → w.heap.size + 1 + 1 < y := fun y hy => by have := hF9 y hy; omega
    have hNR := Lib.hid (show ∀ ad, a9 = some ad → w.heap.size ≤ ad.block from fun ad e => by subst e; have := hF9l ad.block rfl; omega)
    have hZ4 := Lib.hid (hZ3.away (p := ⟨w.heap.size, 0, none⟩) (by show w.heap.size + 1 + 1 ≠ w.heap.size; omega) (.slice a9 (N + 4) c9))
    have hB4 := Lib.hid (hB3.setCell (p := ⟨w.heap.size, 0, none⟩) (Nat.le_refl _) (.slice a9 (N + 4) c9))
    have hO4 := Lib.hid ((((hOwn.away (x := w.heap.size) (fun e => by have := hF9l _ e; omega) 0 (.slice a9 (N + 4) c9)).away (x := w.heap.size + 1 + 1) (fun e => by have := hF9l _ e; omega) 0 (.slice a9 (N + 4) c9)).away (x := w.heap.size + 1 + 1) (fun e => by have := hF9l _ e; omega) 1 (.slice ao op co)).away (x := w.heap.size + 1 + 1) (fun e => by have := hF9l _ e; omega) 2 (.int .i64 0))
    have hle := Lib.hid hle9
    have hgl := Lib.hid hg2
    replace hgn := Lib.hid hgn
    replace hroom := Lib.hid hroom
    clear hX2 hY2 hZ2 hB2 hRowb hrow hO8 hF8 hg8 hB8 hO9 hF9 hg9 hB9 hR9 hle9 hX3 hY3 hZ3 hB3 hOwn hF9l hg2 hroom2
    go_upto_region 37 with (fail)
    go_upto_region 38 with (at_builtin; refine wpList_append_ran2 rfl _ _ 25 25 rfl _ _ _ W2 rfl rfl hr8 ?_)
    clear hr8
    go_wp2_with (at_builtin; refine wpList_append_ran2 rfl _ _ 25 25 rfl _ _ _ W3 rfl rfl hr9 ?_)
    have hBF := (((hB4.out).setCell (p := ⟨w.heap.size + 1 + 1, 0, none⟩) (by show w.heap.size ≤ w.heap.size + 1 + 1; omega) (.slice a9 (N + 4) c9)).setCell (p := ⟨w.heap.size + 1 + 1, 1, none⟩) (by show w.heap.size ≤ w.heap.size + 1 + 1; omega) (.slice ao op co)).setCell (p := ⟨w.heap.size + 1 + 1, 2, none⟩) (by show w.heap.size ≤ w.heap.size + 1 + 1; omega) (.int .i64 0)
    exact bodyPost_ret (results_cell_row (fn := Try.f10) (p := 4) (ty := 29) rfl _ _ _ _ _ (0, 0) _ rfl (((hZ4.out.put 0 _).put 1 _).put 2 _) Try.underlying29 rfl (by kernel_rfl)) rfl
      ⟨a9, c9, by rw [hP.out]; show _ = Ending.returned (.agg #[.slice a9 (s.n + 4) c9, .slice ao s.op co, .int .i64 (s.e : Nat)]); rw [hN, hop, hge.out]; rfl,
        by
          rw [hP.out]
          refine ⟨?_, hRW.out.opens.below hBF, hRW.out.le, by show s.n + 4 ≤ c9; rw [hN]; exact hle.out, hgl.out⟩
          obtain ⟨a2, c2, e, hr⟩ := hO4.out.row
          injection e with e1 e2 e3
          subst e1
          show Row _ a9 (s.n + 4) _
          rw [hN]
          exact hr.congr (fun i hi => by
            show both (both (fun _ => 0) 0 s.f) N (byteAt x) i = if i < s.n then s.f i else byteAt x (i - s.n)
            rw [hN]
            unfold both
            by_cases q : i < N
            · rw [if_pos q, if_pos q, if_neg (by omega)]; rfl
            · rw [if_neg q, if_neg q]), hBF, .inr fun ad e => ⟨hNR.out ad e, by subst e; exact hO4.out.lt _ rfl⟩⟩
theorem rdoes_3 {a ao : Option Addr} {c co : Nat} {s : St} (n : Int) (pa : Option Addr) (len cap : Nat) (w : World) (h : RW w a c ao co s) (he : s.e = 0) :
    Calls Try.prog 10 #[rwV a c ao co s, putV 3 n pa len cap] w fun e w' => ∃ a' c', e = .returned (rwV a' c' ao co (s.putW 8 (byteAt (n % 18446744073709551616).toNat))) ∧ RW w' a' c' ao co (s.putW 8 (byteAt (n % 18446744073709551616).toNat)) ∧ Below w.heap.size w w' ∧ NewRow w.heap.size w' a a' := by
  have hX := ((Whole.fresh w 29 #[.slice a s.n c, .slice ao s.op co, .int .i64 (s.e : Nat)]).alloc (.cells #[.int .i64 3, .int .i64 n, .slice pa len cap] 32)).alloc (.cells #[.slice none 0 0, .slice none 0 0, .int .i64 0] 29)
  have hY := (Whole.fresh (w.alloc (.cells #[.slice a s.n c, .slice ao s.op co, .int .i64 (s.e : Nat)] 29)) 32 #[.int .i64 3, .int .i64 n, .slice pa len cap]).alloc (.cells #[.slice none 0 0, .slice none 0 0, .int .i64 0] 29)
  have hZ := Whole.fresh ((w.alloc (.cells #[.slice a s.n c, .slice ao s.op co, .int .i64 (s.e : Nat)] 29)).alloc (.cells #[.int .i64 3, .int .i64 n, .slice pa len cap] 32)) 29 #[.slice none 0 0, .slice none 0 0, .int .i64 0]
  have hB := (((Below.refl w.heap.size w).alloc (Nat.le_refl _) (.cells #[.slice a s.n c, .slice ao s.op co, .int .i64 (s.e : Nat)] 29)).alloc (by simp) (.cells #[.int .i64 3, .int .i64 n, .slice pa len cap] 32)).alloc (by simp; omega) (.cells #[.slice none 0 0, .slice none 0 0, .int .i64 0] 29)
  have hys : (w.alloc (.cells #[.slice a s.n c, .slice ao s.op co, .int .i64 (s.e : Nat)] 29)).heap.size = w.heap.size + 1 := by simp
  have hzs : ((w.alloc (.cells #[.slice a s.n c, .slice ao s.op co, .int .i64 (s.e : Nat)] 29)).alloc (.cells #[.int .i64 3, .int .i64 n, .slice pa len cap] 32)).heap.size = w.heap.size + 1 + 1 := by simp
  rw [hys] at hY
  rw [hzs] at hZ
  have t0 : ((0 : Int) != 0) = false := rfl
  have hRW := Lib.hid h
  have e1 : n % 18446744073709551616 = ((n % 18446744073709551616).toNat : Nat) := by omega
  have e2 : IntKind.u64.wrap n = ((n % 18446744073709551616).toNat : Nat) := by simp only [IntKind.wrap_u64]; omega
  have hx : (n % 18446744073709551616).toNat < 18446744073709551616 := by omega
  generalize (n % 18446744073709551616).toNat = x at *
  have w1 : IntKind.u64.wrap (x : Int) = (x : Int) := by simp only [IntKind.wrap_u64]; omega
  have HL := Lib.hid (fun W => rlaid_any x 8 W (by omega) (by decide))
  have hgn := h.good.n
  have hge := Lib.hid he
  have hl1 := Lib.hid (Below.refl w.heap.size w)
  unfold rwV putV
  rw [he] at hX hY hZ hB hys hzs ⊢
  clear h he e1
  replace hx := Lib.hid hx
  go_enter Try.func10, Try.ntmps10
  go_upto_region 1 with (fail)
  have e0 : ((0 : Nat) : Int) = 0 := rfl
  rw [e0] at hX hY hZ hB
  obtain ⟨N, hN⟩ : ∃ N, s.n = N := ⟨_, rfl⟩
  obtain ⟨op, hop⟩ : ∃ op, s.op = op := ⟨_, rfl⟩
  rw [hN, hop] at hX hY hZ hB ⊢
  rw [hN] at hgn
  generalize ((w.alloc (.cells #[.slice a N c, .slice ao op co, .int .i64 0] 29)).alloc (.cells #[.int .i64 3, .int .i64 n, .slice pa len cap] 32)).alloc (.cells #[.slice none 0 0, .slice none 0 0, .int .i64 0] 29) = W0 at *
  have c0 := hX.cell 0
  have c1 := hX.cell 1
  have c2 := hX.cell 2
  simp only [List.getElem?_toArray, List.getElem?_cons_zero, List.getElem?_cons_succ] at c0 c1 c2
  have p0 := hY.cell 0
  have p1 := hY.cell 1
  simp only [List.getElem?_toArray, List.getElem?_cons_zero, List.getElem?_cons_succ] at p0 p1
  clear t0
  go_wp2_with fail
  refine (HL.out _).mono ?_
  rintro e W1 ⟨G1, rfl, hH1, hG1, hB1⟩
  have hB2 := hB.trans (hB1.mono hB.size)
  have hX2 := hX.below hB1 hX.lt
  have hY2 := hY.below hB1 hY.lt
  have hZ2 := hZ.below hB1 hZ.lt
  have hZl := hZ2.lt
  have c0 := hX2.cell 0
  have c1 := hX2.cell 1
  have c2 := hX2.cell 2
  simp only [List.getElem?_toArray, List.getElem?_cons_zero, List.getElem?_cons_succ] at c0 c1 c2
  have f0 := hX2.free 0
  have f2 := hX2.free 2
  have p0 := hY2.cell 0
  simp only [List.getElem?_toArray, List.getElem?_cons_zero] at p0
  have z0 := hZ2.cell 0
  have z1 := hZ2.cell 1
  have z2 := hZ2.cell 2
  simp only [List.getElem?_toArray, List.getElem?_cons_zero, List.getElem?_cons_succ] at z0 z1 z2
  have g0 := hZ2.free 0
  have g1 := hZ2.free 1
  have g2 := hZ2.free 2
  have hRowb := hH1.row
  clear hX hY hZ hB hB1 HL hH1 hG1 hys hzs e2 w1 hl1
  by_cases hroom : 16777216 < s.n + 8
  · have hP := Lib.hid (show s.putW 8 (byteAt x) = { s with e := 4 } from if_pos hroom)
    rw [hN] at hroom
    have r1 : (16777216 : Int) < (N : Int) + 8 := by omega
    have r2 : decide ((N : Int) + 8 > 16777216) = true := decide_eq_true (by omega)
    have r3 : wrap64 ((N : Int) + 8) = (N : Int) + 8 := by unfold wrap64; omega
    have r4 : IntKind.i64.wrap ((N : Int) + 8) = (N : Int) + 8 := by simp only [IntKind.wrap_i64]; omega
    replace hroom := Lib.hid hroom
    replace hgn := Lib.hid hgn
    have hZ3 := hZ2.away (p := ⟨w.heap.size, 2, none⟩) (by show w.heap.size + 1 + 1 ≠ w.heap.size; omega) (.int .i64 4)
    have hB3 := hB2.setCell (p := ⟨w.heap.size, 2, none⟩) (Nat.le_refl _) (.int .i64 4)
    replace hZ3 := Lib.hid hZ3
    replace hB3 := Lib.hid hB3
    clear hX2 hY2 hZ2 hB2 hRowb
    go_wp2_with fail
    have hBF := (((hB3.out).setCell (p := ⟨w.heap.size + 1 + 1, 0, none⟩) (by show w.heap.size ≤ w.heap.size + 1 + 1; omega) (.slice a N c)).setCell (p := ⟨w.heap.size + 1 + 1, 1, none⟩) (by show w.heap.size ≤ w.heap.size + 1 + 1; omega) (.slice ao op co)).setCell (p := ⟨w.heap.size + 1 + 1, 2, none⟩) (by show w.heap.size ≤ w.heap.size + 1 + 1; omega) (.int .i64 4)
    exact bodyPost_ret (results_cell_row (fn := Try.f10) (p := 4) (ty := 29) rfl _ _ _ _ _ (0, 0) _ rfl (((hZ3.out.put 0 _).put 1 _).put 2 _) Try.underlying29 rfl (by kernel_rfl)) rfl
      ⟨a, c, by rw [hP.out, ← hN, ← hop]; rfl, by rw [hP.out]; exact ⟨hRW.out.body.below hBF, hRW.out.opens.below hBF, hRW.out.le, hRW.out.len, ⟨hRW.out.good.op, hRW.out.good.n, hRW.out.good.ps⟩⟩, hBF, .inl rfl⟩
  · have hP := Lib.hid (show s.putW 8 (byteAt x) = s.put 8 (byteAt x) from if_neg hroom)
    have hroom2 : s.n + 8 ≤ 16777216 := by omega
    have hg2 : (s.put 8 (byteAt x)).Good := ⟨hRW.out.good.op, hroom2, fun i hi => ⟨(hRW.out.good.ps i hi).1, by have := (hRW.out.good.ps i hi).2; show s.ps i ≤ s.n + 8; omega⟩⟩
    rw [hN] at hroom
    have r1 : ¬ (16777216 : Int) < (N : Int) + 8 := by omega
    have r2 : decide ((N : Int) + 8 > 16777216) = false := decide_eq_false (by omega)
    have r3 : wrap64 ((N : Int) + 8) = (N : Int) + 8 := by unfold wrap64; omega
    have r4 : IntKind.i64.wrap ((N : Int) + 8) = (N : Int) + 8 := by simp only [IntKind.wrap_i64]; omega
    have hrow := hRW.out.body.below hB2
    rw [hN] at hrow
    obtain ⟨v8, W2, hr8, hO8, hF8, hg8⟩ := run_append_more W1 25 W1.heap.size (.slice none 0 0) 0 N c a (fun _ => 0) s.f (Owns.none _ _) (fun y hy => by cases hy) hrow (by omega) (Nat.le_refl _)
    have hB8 : Below W1.heap.size W1 W2 := From.below (fun y hy => by cases hy) hg8 (Nat.le_refl _)
    rw [Nat.zero_add] at hO8
    obtain ⟨v9, W3, hr9, hO9, hF9, hg9⟩ := run_append_more W2 25 W1.heap.size v8 N 8 8 _ _ _ hO8 hF8 (hRowb.below hB8) (by omega) hB8.size
    have hB9 : Below W1.heap.size W1 W3 := hB8.trans (hF8.below hg9 hB8.size)
    obtain ⟨a9, c9, rfl, hR9, hle9⟩ : ∃ a9 c9, v9 = .slice a9 (N + 8) c9 ∧ Row W3 a9 (N + 8) (both (both (fun _ => 0) 0 s.f) N (byteAt x)) ∧ N + 8 ≤ c9 := by
      rcases hO9.2 with ⟨rfl, h0⟩ | ⟨g, cap, cs, rfl, hw, q1, _⟩
      · omega
      · obtain ⟨a9, c9, e, hR9⟩ := hO9.row
        injection e with e1 e2 e3
        exact ⟨_, _, rfl, e1 ▸ hR9, q1⟩
    have hX3 := hX2.below hB9 hX2.lt
    have hY3 := hY2.below hB9 hY2.lt
    have hZ3 := hZ2.below hB9 hZ2.lt
    have hB3 := hB2.trans (hB9.mono hB2.size)
    have d0 := hX3.cell 0
    have d1 := hX3.cell 1
    have d2 := hX3.cell 2
    simp only [List.getElem?_toArray, List.getElem?_cons_zero, List.getElem?_cons_succ] at d0 d1 d2
    have e3 := hX3.free 0
    have p3 := hY3.cell 0
    simp only [List.getElem?_toArray, List.getElem?_cons_zero] at p3
    have y0 := hZ3.cell 0
    have y1 := hZ3.cell 1
    have y2 := hZ3.cell 2
    simp only [List.getElem?_toArray, List.getElem?_cons_zero, List.getElem?_cons_succ] at y0 y1 y2
    have k0 := hZ3.free 0
    have k1 := hZ3.free 1
    have k2 := hZ3.free 2
    have hOwn := hO9
    have hF9l : ∀ y, (Value.slice a9 (N + 8) c9).ownBlock = some y → w.heap.size + 1 + 1 < y := fun y hy => by have := hF9 y hy; omega
    have hNR := Lib.hid (show ∀ ad, a9 = some ad → w.heap.size ≤ ad.block from fun ad e => by subst e; have := hF9l ad.block rfl; omega)
    have hZ4 := Lib.hid (hZ3.away (p := ⟨w.heap.size, 0, none⟩) (by show w.heap.size + 1 + 1 ≠ w.heap.size; omega) (.slice a9 (N + 8) c9))
    have hB4 := Lib.hid (hB3.setCell (p := ⟨w.heap.size, 0, none⟩) (Nat.le_refl _) (.slice a9 (N + 8) c9))
    have hO4 := Lib.hid ((((hOwn.away (x := w.heap.size) (fun e => by have := hF9l _ e; omega) 0 (.slice a9 (N + 8) c9)).away (x := w.heap.size + 1 + 1) (fun e => by have := hF9l _ e; omega) 0 (.slice a9 (N + 8) c9)).away (x := w.heap.size + 1 + 1) (fun e => by have := hF9l _ e; omega) 1 (.slice ao op co)).away (x := w.heap.size + 1 + 1) (fun e => by have := hF9l _ e; omega) 2 (.int .i64 0))
    have hle := Lib.hid hle9
    have hgl := Lib.hid hg2
    replace hgn := Lib.hid hgn
    replace hroom := Lib.hid hroom
    clear hX2 hY2 hZ2 hB2 hRowb hrow hO8 hF8 hg8 hB8 hO9 hF9 hg9 hB9 hR9 hle9 hX3 hY3 hZ3 hB3 hOwn hF9l hg2 hroom2
    go_upto_region 37 with (fail)
    go_upto_region 38 with (at_builtin; refine wpList_append_ran2 rfl _ _ 25 25 rfl _ _ _ W2 rfl rfl hr8 ?_)
    clear hr8
    go_wp2_with (at_builtin; refine wpList_append_ran2 rfl _ _ 25 25 rfl _ _ _ W3 rfl rfl hr9 ?_)
    have hBF := (((hB4.out).setCell (p := ⟨w.heap.size + 1 + 1, 0, none⟩) (by show w.heap.size ≤ w.heap.size + 1 + 1; omega) (.slice a9 (N + 8) c9)).setCell (p := ⟨w.heap.size + 1 + 1, 1, none⟩) (by show w.heap.size ≤ w.heap.size + 1 + 1; omega) (.slice ao op co)).setCell (p := ⟨w.heap.size + 1 + 1, 2, none⟩) (by show w.heap.size ≤ w.heap.size + 1 + 1; omega) (.int .i64 0)
    exact bodyPost_ret (results_cell_row (fn := Try.f10) (p := 4) (ty := 29) rfl _ _ _ _ _ (0, 0) _ rfl (((hZ4.out.put 0 _).put 1 _).put 2 _) Try.underlying29 rfl (by kernel_rfl)) rfl
      ⟨a9, c9, by rw [hP.out]; show _ = Ending.returned (.agg #[.slice a9 (s.n + 8) c9, .slice ao s.op co, .int .i64 (s.e : Nat)]); rw [hN, hop, hge.out]; rfl,
        by
          rw [hP.out]
          refine ⟨?_, hRW.out.opens.below hBF, hRW.out.le, by show s.n + 8 ≤ c9; rw [hN]; exact hle.out, hgl.out⟩
          obtain ⟨a2, c2, e, hr⟩ := hO4.out.row
          injection e with e1 e2 e3
          subst e1
          show Row _ a9 (s.n + 8) _
          rw [hN]
          exact hr.congr (fun i hi => by
            show both (both (fun _ => 0) 0 s.f) N (byteAt x) i = if i < s.n then s.f i else byteAt x (i - s.n)
            rw [hN]
            unfold both
            by_cases q : i < N
            · rw [if_pos q, if_pos q, if_neg (by omega)]; rfl
            · rw [if_neg q, if_neg q]), hBF, .inr fun ad e => ⟨hNR.out ad e, by subst e; exact hO4.out.lt _ rfl⟩⟩
theorem rdoes_4 {a ao : Option Addr} {c co : Nat} {s : St} (n : Int) (pa : Option Addr) (len cap : Nat) (w : World) (h : RW w a c ao co s) (he : s.e = 0) :
    Calls Try.prog 10 #[rwV a c ao co s, putV 4 n pa len cap] w fun e w' => ∃ a' c', e = .returned (rwV a' c' ao co (s.putW 1 (byteAt (n % 2).toNat))) ∧ RW w' a' c' ao co (s.putW 1 (byteAt (n % 2).toNat)) ∧ Below w.heap.size w w' ∧ NewRow w.heap.size w' a a' := by
  have hX := ((Whole.fresh w 29 #[.slice a s.n c, .slice ao s.op co, .int .i64 (s.e : Nat)]).alloc (.cells #[.int .i64 4, .int .i64 n, .slice pa len cap] 32)).alloc (.cells #[.slice none 0 0, .slice none 0 0, .int .i64 0] 29)
  have hY := (Whole.fresh (w.alloc (.cells #[.slice a s.n c, .slice ao s.op co, .int .i64 (s.e : Nat)] 29)) 32 #[.int .i64 4, .int .i64 n, .slice pa len cap]).alloc (.cells #[.slice none 0 0, .slice none 0 0, .int .i64 0] 29)
  have hZ := Whole.fresh ((w.alloc (.cells #[.slice a s.n c, .slice ao s.op co, .int .i64 (s.e : Nat)] 29)).alloc (.cells #[.int .i64 4, .int .i64 n, .slice pa len cap] 32)) 29 #[.slice none 0 0, .slice none 0 0, .int .i64 0]
  have hB := (((Below.refl w.heap.size w).alloc (Nat.le_refl _) (.cells #[.slice a s.n c, .slice ao s.op co, .int .i64 (s.e : Nat)] 29)).alloc (by simp) (.cells #[.int .i64 4, .int .i64 n, .slice pa len cap] 32)).alloc (by simp; omega) (.cells #[.slice none 0 0, .slice none 0 0, .int .i64 0] 29)
  have hys : (w.alloc (.cells #[.slice a s.n c, .slice ao s.op co, .int .i64 (s.e : Nat)] 29)).heap.size = w.heap.size + 1 := by simp
  have hzs : ((w.alloc (.cells #[.slice a s.n c, .slice ao s.op co, .int .i64 (s.e : Nat)] 29)).alloc (.cells #[.int .i64 4, .int .i64 n, .slice pa len cap] 32)).heap.size = w.heap.size + 1 + 1 := by simp
  rw [hys] at hY
  rw [hzs] at hZ
  have t0 : ((0 : Int) != 0) = false := rfl
  have hRW := Lib.hid h
  have e1 : n % 2 = ((n % 2).toNat : Nat) := by omega
  have e2 : bits BinOp.and IntKind.i64 n 1 = ((n % 2).toNat : Nat) := by rw [and_one_i64]; omega
  have hx : (n % 2).toNat < 2 := by omega
  generalize (n % 2).toNat = x at *
  have w1 : IntKind.u64.wrap (x : Int) = (x : Int) := by simp only [IntKind.wrap_u64]; omega
  have HL := Lib.hid (fun W => rlaid_any x 1 W (by omega) (by decide))
  have hgn := h.good.n
  have hge := Lib.hid he
  have hl1 := Lib.hid (Below.refl w.heap.size w)
  unfold rwV putV
  rw [he] at hX hY hZ hB hys hzs ⊢
  clear h he e1
  replace hx := Lib.hid hx
  go_enter Try.func10, Try.ntmps10
  go_upto_region 1 with (fail)
  have e0 : ((0 : Nat) : Int) = 0 := rfl
  rw [e0] at hX hY hZ hB
  obtain ⟨N, hN⟩ : ∃ N, s.n = N := ⟨_, rfl⟩
  obtain ⟨op, hop⟩ : ∃ op, s.op = op := ⟨_, rfl⟩
  rw [hN, hop] at hX hY hZ hB ⊢
  rw [hN] at hgn
  generalize ((w.alloc (.cells #[.slice a N c, .slice ao op co, .int .i64 0] 29)).alloc (.cells #[.int .i64 4, .int .i64 n, .slice pa len cap] 32)).alloc (.cells #[.slice none 0 0, .slice none 0 0, .int .i64 0] 29) = W0 at *
  have c0 := hX.cell 0
  have c1 := hX.cell 1
  have c2 := hX.cell 2
  simp only [List.getElem?_toArray, List.getElem?_cons_zero, List.getElem?_cons_succ] at c0 c1 c2
  have p0 := hY.cell 0
  have p1 := hY.cell 1
  simp only [List.getElem?_toArray, List.getElem?_cons_zero, List.getElem?_cons_succ] at p0 p1
  clear t0
  go_wp2_with fail
  refine (HL.out _).mono ?_
  rintro e W1 ⟨G1, rfl, hH1, hG1, hB1⟩
  have hB2 := hB.trans (hB1.mono hB.size)
  have hX2 := hX.below hB1 hX.lt
  have hY2 := hY.below hB1 hY.lt
  have hZ2 := hZ.below hB1 hZ.lt
  have hZl := hZ2.lt
  have c0 := hX2.cell 0
  have c1 := hX2.cell 1
  have c2 := hX2.cell 2
  simp only [List.getElem?_toArray, List.getElem?_cons_zero, List.getElem?_cons_succ] at c0 c1 c2
  have f0 := hX2.free 0
  have f2 := hX2.free 2
  have p0 := hY2.cell 0
  simp only [List.getElem?_toArray, List.getElem?_cons_zero] at p0
  have z0 := hZ2.cell 0
  have z1 := hZ2.cell 1
  have z2 := hZ2.cell 2
  simp only [List.getElem?_toArray, List.getElem?_cons_zero, List.getElem?_cons_succ] at z0 z1 z2
  have g0 := hZ2.free 0
  have g1 := hZ2.free 1
  have g2 := hZ2.free 2
  have hRowb := hH1.row
  clear hX hY hZ hB hB1 HL hH1 hG1 hys hzs e2 w1 hl1
  by_cases hroom : 16777216 < s.n + 1
  · have hP := Lib.hid (show s.putW 1 (byteAt x) = { s with e := 4 } from if_pos hroom)
    rw [hN] at hroom
    have r1 : (16777216 : Int) < (N : Int) + 1 := by omega
    have r2 : decide ((N : Int) + 1 > 16777216) = true := decide_eq_true (by omega)
    have r3 : wrap64 ((N : Int) + 1) = (N : Int) + 1 := by unfold wrap64; omega
    have r4 : IntKind.i64.wrap ((N : Int) + 1) = (N : Int) + 1 := by simp only [IntKind.wrap_i64]; omega
    replace hroom := Lib.hid hroom
    replace hgn := Lib.hid hgn
    have hZ3 := hZ2.away (p := ⟨w.heap.size, 2, none⟩) (by show w.heap.size + 1 + 1 ≠ w.heap.size; omega) (.int .i64 4)
    have hB3 := hB2.setCell (p := ⟨w.heap.size, 2, none⟩) (Nat.le_refl _) (.int .i64 4)
    replace hZ3 := Lib.hid hZ3
    replace hB3 := Lib.hid hB3
    clear hX2 hY2 hZ2 hB2 hRowb
    go_wp2_with fail
    have hBF := (((hB3.out).setCell (p := ⟨w.heap.size + 1 + 1, 0, none⟩) (by show w.heap.size ≤ w.heap.size + 1 + 1; omega) (.slice a N c)).setCell (p := ⟨w.heap.size + 1 + 1, 1, none⟩) (by show w.heap.size ≤ w.heap.size + 1 + 1; omega) (.slice ao op co)).setCell (p := ⟨w.heap.size + 1 + 1, 2, none⟩) (by show w.heap.size ≤ w.heap.size + 1 + 1; omega) (.int .i64 4)
    exact bodyPost_ret (results_cell_row (fn := Try.f10) (p := 4) (ty := 29) rfl _ _ _ _ _ (0, 0) _ rfl (((hZ3.out.put 0 _).put 1 _).put 2 _) Try.underlying29 rfl (by kernel_rfl)) rfl
      ⟨a, c, by rw [hP.out, ← hN, ← hop]; rfl, by rw [hP.out]; exact ⟨hRW.out.body.below hBF, hRW.out.opens.below hBF, hRW.out.le, hRW.out.len, ⟨hRW.out.good.op, hRW.out.good.n, hRW.out.good.ps⟩⟩, hBF, .inl rfl⟩
  · have hP := Lib.hid (show s.putW 1 (byteAt x) = s.put 1 (byteAt x) from if_neg hroom)
    have hroom2 : s.n + 1 ≤ 16777216 := by omega
    have hg2 : (s.put 1 (byteAt x)).Good := ⟨hRW.out.good.op, hroom2, fun i hi => ⟨(hRW.out.good.ps i hi).1, by have := (hRW.out.good.ps i hi).2; show s.ps i ≤ s.n + 1; omega⟩⟩
    rw [hN] at hroom
    have r1 : ¬ (16777216 : Int) < (N : Int) + 1 := by omega
    have r2 : decide ((N : Int) + 1 > 16777216) = false := decide_eq_false (by omega)
    have r3 : wrap64 ((N : Int) + 1) = (N : Int) + 1 := by unfold wrap64; omega
    have r4 : IntKind.i64.wrap ((N : Int) + 1) = (N : Int) + 1 := by simp only [IntKind.wrap_i64]; omega
    have hrow := hRW.out.body.below hB2
    rw [hN] at hrow
    obtain ⟨v8, W2, hr8, hO8, hF8, hg8⟩ := run_append_more W1 25 W1.heap.size (.slice none 0 0) 0 N c a (fun _ => 0) s.f (Owns.none _ _) (fun y hy => by cases hy) hrow (by omega) (Nat.le_refl _)
    have hB8 : Below W1.heap.size W1 W2 := From.below (fun y hy => by cases hy) hg8 (Nat.le_refl _)
    rw [Nat.zero_add] at hO8
    obtain ⟨v9, W3, hr9, hO9, hF9, hg9⟩ := run_append_more W2 25 W1.heap.size v8 N 1 1 _ _ _ hO8 hF8 (hRowb.below hB8) (by omega) hB8.size
    have hB9 : Below W1.heap.size W1 W3 := hB8.trans (hF8.below hg9 hB8.size)
    obtain ⟨a9, c9, rfl, hR9, hle9⟩ : ∃ a9 c9, v9 = .slice a9 (N + 1) c9 ∧ Row W3 a9 (N + 1) (both (both (fun _ => 0) 0 s.f) N (byteAt x)) ∧ N + 1 ≤ c9 := by
      rcases hO9.2 with ⟨rfl, h0⟩ | ⟨g, cap, cs, rfl, hw, q1, _⟩
      · omega
      · obtain ⟨a9, c9, e, hR9⟩ := hO9.row
        injection e with e1 e2 e3
        exact ⟨_, _, rfl, e1 ▸ hR9, q1⟩
    have hX3 := hX2.below hB9 hX2.lt
    have hY3 := hY2.below hB9 hY2.lt
    have hZ3 := hZ2.below hB9 hZ2.lt
    have hB3 := hB2.trans (hB9.mono hB2.size)
    have d0 := hX3.cell 0
    have d1 := hX3.cell 1
    have d2 := hX3.cell 2
    simp only [List.getElem?_toArray, List.getElem?_cons_zero, List.getElem?_cons_succ] at d0 d1 d2
    have e3 := hX3.free 0
    have p3 := hY3.cell 0
    simp only [List.getElem?_toArray, List.getElem?_cons_zero] at p3
    have y0 := hZ3.cell 0
    have y1 := hZ3.cell 1
    have y2 := hZ3.cell 2
    simp only [List.getElem?_toArray, List.getElem?_cons_zero, List.getElem?_cons_succ] at y0 y1 y2
    have k0 := hZ3.free 0
    have k1 := hZ3.free 1
    have k2 := hZ3.free 2
    have hOwn := hO9
    have hF9l : ∀ y, (Value.slice a9 (N + 1) c9).ownBlock = some y → w.heap.size + 1 + 1 < y := fun y hy => by have := hF9 y hy; omega
    have hNR := Lib.hid (show ∀ ad, a9 = some ad → w.heap.size ≤ ad.block from fun ad e => by subst e; have := hF9l ad.block rfl; omega)
    have hZ4 := Lib.hid (hZ3.away (p := ⟨w.heap.size, 0, none⟩) (by show w.heap.size + 1 + 1 ≠ w.heap.size; omega) (.slice a9 (N + 1) c9))
    have hB4 := Lib.hid (hB3.setCell (p := ⟨w.heap.size, 0, none⟩) (Nat.le_refl _) (.slice a9 (N + 1) c9))
    have hO4 := Lib.hid ((((hOwn.away (x := w.heap.size) (fun e => by have := hF9l _ e; omega) 0 (.slice a9 (N + 1) c9)).away (x := w.heap.size + 1 + 1) (fun e => by have := hF9l _ e; omega) 0 (.slice a9 (N + 1) c9)).away (x := w.heap.size + 1 + 1) (fun e => by have := hF9l _ e; omega) 1 (.slice ao op co)).away (x := w.heap.size + 1 + 1) (fun e => by have := hF9l _ e; omega) 2 (.int .i64 0))
    have hle := Lib.hid hle9
    have hgl := Lib.hid hg2
    replace hgn := Lib.hid hgn
    replace hroom := Lib.hid hroom
    clear hX2 hY2 hZ2 hB2 hRowb hrow hO8 hF8 hg8 hB8 hO9 hF9 hg9 hB9 hR9 hle9 hX3 hY3 hZ3 hB3 hOwn hF9l hg2 hroom2
    go_upto_region 37 with (fail)
    go_upto_region 38 with (at_builtin; refine wpList_append_ran2 rfl _ _ 25 25 rfl _ _ _ W2 rfl rfl hr8 ?_)
    clear hr8
    go_wp2_with (at_builtin; refine wpList_append_ran2 rfl _ _ 25 25 rfl _ _ _ W3 rfl rfl hr9 ?_)
    have hBF := (((hB4.out).setCell (p := ⟨w.heap.size + 1 + 1, 0, none⟩) (by show w.heap.size ≤ w.heap.size + 1 + 1; omega) (.slice a9 (N + 1) c9)).setCell (p := ⟨w.heap.size + 1 + 1, 1, none⟩) (by show w.heap.size ≤ w.heap.size + 1 + 1; omega) (.slice ao op co)).setCell (p := ⟨w.heap.size + 1 + 1, 2, none⟩) (by show w.heap.size ≤ w.heap.size + 1 + 1; omega) (.int .i64 0)
    exact bodyPost_ret (results_cell_row (fn := Try.f10) (p := 4) (ty := 29) rfl _ _ _ _ _ (0, 0) _ rfl (((hZ4.out.put 0 _).put 1 _).put 2 _) Try.underlying29 rfl (by kernel_rfl)) rfl
      ⟨a9, c9, by rw [hP.out]; show _ = Ending.returned (.agg #[.slice a9 (s.n + 1) c9, .slice ao s.op co, .int .i64 (s.e : Nat)]); rw [hN, hop, hge.out]; rfl,
        by
          rw [hP.out]
          refine ⟨?_, hRW.out.opens.below hBF, hRW.out.le, by show s.n + 1 ≤ c9; rw [hN]; exact hle.out, hgl.out⟩
          obtain ⟨a2, c2, e, hr⟩ := hO4.out.row
          injection e with e1 e2 e3
          subst e1
          show Row _ a9 (s.n + 1) _
          rw [hN]
          exact hr.congr (fun i hi => by
            show both (both (fun _ => 0) 0 s.f) N (byteAt x) i = if i < s.n then s.f i else byteAt x (i - s.n)
            rw [hN]
            unfold both
            by_cases q : i < N
            · rw [if_pos q, if_pos q, if_neg (by omega)]; rfl
            · rw [if_neg q, if_neg q]), hBF, .inr fun ad e => ⟨hNR.out ad e, by subst e; exact hO4.out.lt _ rfl⟩⟩
end Go.Proofs.Ytacnmnodbmbplaa
