/-
  A processor knows the turn that is under way: an interrupt's.
-/
import Derived.Test.YtnacdaodjgdnnaaGreatMMem
import Derived.Deep.RegionHeld3
import Derived.StillTailTactics
namespace Go.Proofs.YtnacdaodjgdnnaaGreat
open Go.RowKit Go.Shelf
set_option maxRecDepth 100000
set_option maxHeartbeats 1000000
set_option linter.unusedVariables false

theorem Mk.row {b : Nat} {s : Ms} {w : World} (h : Mk b s w) : Row w (some ⟨b, 16, none⟩) s.ct s.sf := by
  obtain ⟨a, c, h1, h2, h3, h4⟩ := h.cells
  refine ⟨fun i _ => h.bytes i, .inr ⟨b, 16, rfl, h1.lt, fun i hi => ?_⟩⟩
  have := h.ct
  rw [h1.cell]
  rcases (show i = 0 ∨ i = 1 ∨ i = 2 ∨ i = 3 ∨ i = 4 ∨ i = 5 ∨ i = 6 ∨ i = 7 ∨ i = 8 ∨ i = 9 ∨ i = 10 ∨ i = 11 ∨ i = 12 ∨ i = 13 ∨ i = 14 ∨ i = 15 by omega) with rfl | rfl | rfl | rfl | rfl | rfl | rfl | rfl | rfl | rfl | rfl | rfl | rfl | rfl | rfl | rfl <;> rfl
theorem bytesSeen_any {b : Nat} {s : Ms} {w : World} (h : Mk b s w) : Calls Tryz.prog 105 #[.pointer (some ⟨b, 0, none⟩)] w fun e w' => e = .returned (.slice (some ⟨b, 16, none⟩) s.ct 16) ∧ Below w.heap.size w w' := by
  obtain ⟨a, c, h1, _⟩ := h.cells
  have c32 := h1.cell 32
  have hct := h.ct
  have hlt := h1.lt
  unfold msC at c32
  simp only [List.getElem?_toArray, List.getElem?_cons_zero, List.getElem?_cons_succ] at c32
  clear h h1
  generalize s.ct = ct at *
  have hal : Tryz.prog.arrayLen 127 = 16 := by kernel_rfl
  have hsl : ∀ W : World, (Instr.sliceAt 127 (.pointer (some ⟨b, 16, none⟩)) none (some (.int .i64 (ct : Nat))) none).run Tryz.prog W = .ok (.slice (some ⟨b, 16, none⟩) ct 16) W := fun W => by
    have hsz : (sizeOf (Tryz.prog.elem 127)).run Tryz.prog W = .ok 1 W := by kernel_rfl
    rw [run_sliceAt_array_h W 127 ⟨b, 16, none⟩ (by kernel_rfl) .i64 (ct : Nat) (by omega) (by rw [hal]; omega), hsz, hal]
    simp [slicedAt, Result.andThen, Addr.add]
  go_enter Tryz.func105, Tryz.ntmps105
  go_upto_region 1 with (fail)
  go_quiet (fail)
  have hb : Below w.heap.size w (w.drewN nq) := below_drewN (Below.refl _ _) nq
  generalize w.drewN nq = W1 at *
  go_wp2_with fail
  go_ret
  exact ⟨rfl, hb⟩

/-- The turn of an interrupt. -/
theorem turnOf_enter (why : Nat) (r : Rg) (a : Option Addr) (n c : Nat) (f : Nat → Nat) (w : World) (hw : why < 256) (h : r.Ok) (hR : Row w a n f) (hnc : n ≤ c) :
    Calls Tryz.prog 90 #[.int .u8 2, .int .u8 (why : Nat), r.v, .slice a n c] w fun e w' => ∃ lv, e = .returned (tnV lv (!(enterTopX why ⟨r.settle, n, f, [], false, cd0, 0⟩).2.st) (enterTopX why ⟨r.settle, n, f, [], false, cd0, 0⟩).2.tr (enterTopX why ⟨r.settle, n, f, [], false, cd0, 0⟩).2.ta) ∧
      w'.ownsRow w.heap.size 35 3 lv (enterTopX why ⟨r.settle, n, f, [], false, cd0, 0⟩).2.l.length (accX (enterTopX why ⟨r.settle, n, f, [], false, cd0, 0⟩).2.l) ∧ Below w.heap.size w w' := by
  have hG := (Whole.fresh w 24 (rgC r.A r.X r.Y r.S r.D r.PC r.B r.K r.P r.E)).alloc (.cells #[.slice none 0 0, .bool false, .int .u16 0, .int .u16 0, .int .u16 0, .int .u16 0, .int .u16 0, .int .u16 0, .int .u8 0, .int .u8 0, .int .u8 0, .bool false, .int .u8 0] 29)
  have hB := ((Below.refl w.heap.size w).alloc (Nat.le_refl _) (.cells (rgC r.A r.X r.Y r.S r.D r.PC r.B r.K r.P r.E) 24)).alloc (by simp) (.cells #[.slice none 0 0, .bool false, .int .u16 0, .int .u16 0, .int .u16 0, .int .u16 0, .int .u16 0, .int .u16 0, .int .u8 0, .int .u8 0, .int .u8 0, .bool false, .int .u8 0] 29)
  have hT := Whole.fresh (w.alloc (.cells (rgC r.A r.X r.Y r.S r.D r.PC r.B r.K r.P r.E) 24)) 29 #[.slice none 0 0, .bool false, .int .u16 0, .int .u16 0, .int .u16 0, .int .u16 0, .int .u16 0, .int .u16 0, .int .u8 0, .int .u8 0, .int .u8 0, .bool false, .int .u8 0]
  have hR2 := (hR.alloc (.cells (rgC r.A r.X r.Y r.S r.D r.PC r.B r.K r.P r.E) 24)).alloc (.cells #[.slice none 0 0, .bool false, .int .u16 0, .int .u16 0, .int .u16 0, .int .u16 0, .int .u16 0, .int .u16 0, .int .u8 0, .int .u8 0, .int .u8 0, .bool false, .int .u8 0] 29)
  have hsz : (w.alloc (.cells (rgC r.A r.X r.Y r.S r.D r.PC r.B r.K r.P r.E) 24)).heap.size = w.heap.size + 1 := by simp
  rw [hsz] at hT
  generalize hV : (w.alloc (.cells (rgC r.A r.X r.Y r.S r.D r.PC r.B r.K r.P r.E) 24)).alloc (.cells #[.slice none 0 0, .bool false, .int .u16 0, .int .u16 0, .int .u16 0, .int .u16 0, .int .u16 0, .int .u16 0, .int .u8 0, .int .u8 0, .int .u8 0, .bool false, .int .u8 0] 29) = V at *
  have HE := enter_any_top why r a n c f V hw h hR2 hnc
  obtain ⟨s, hse⟩ : ∃ s, (enterTopX why ⟨r.settle, n, f, [], false, cd0, 0⟩).2 = s := ⟨_, rfl⟩
  rw [hse] at HE ⊢
  clear hse
  have g0 := hG.cell 0
  have g1 := hG.cell 1
  have g2 := hG.cell 2
  have g3 := hG.cell 3
  have g4 := hG.cell 4
  have g5 := hG.cell 5
  have g6 := hG.cell 6
  have g7 := hG.cell 7
  have g8 := hG.cell 8
  have g9 := hG.cell 9
  unfold rgC at g0 g1 g2 g3 g4 g5 g6 g7 g8 g9 hV
  simp only [List.getElem?_toArray, List.getElem?_cons_zero, List.getElem?_cons_succ] at g0 g1 g2 g3 g4 g5 g6 g7 g8 g9
  have hszT : w.heap.size ≤ w.heap.size + 1 := Nat.le_succ _
  have hVs := hB.size
  have hTlt := hT.lt
  have hlast : ∀ (s : Xs) (lv : Value) (W : World) (d : Bool) (q : Rg) (z : Nat), W.ownsRow V.heap.size 35 3 lv s.l.length (accX s.l) → Below V.heap.size V W → (Whole W (w.heap.size + 1) 29 #[.slice none 0 0, .bool false, .int .u16 0, .int .u16 0, .int .u16 0, .int .u16 0, .int .u16 0, .int .u16 0, .int .u8 0, .int .u8 0, .int .u8 0, .bool false, .int .u8 0] ∧ Hid (Whole (layT W (w.heap.size + 1) lv (.bool d) (.int .u16 (q.A : Nat)) (.int .u16 (q.X : Nat)) (.int .u16 (q.Y : Nat)) (.int .u16 (q.S : Nat)) (.int .u16 (q.D : Nat)) (.int .u16 (q.PC : Nat)) (.int .u8 (q.B : Nat)) (.int .u8 (q.K : Nat)) (.int .u8 (q.P : Nat)) (.bool q.E) (.int .u8 (z : Nat))) (w.heap.size + 1) 29 #[lv, .bool d, .int .u16 (q.A : Nat), .int .u16 (q.X : Nat), .int .u16 (q.Y : Nat), .int .u16 (q.S : Nat), .int .u16 (q.D : Nat), .int .u16 (q.PC : Nat), .int .u8 (q.B : Nat), .int .u8 (q.K : Nat), .int .u8 (q.P : Nat), .bool q.E, .int .u8 (z : Nat)] ∧ (layT W (w.heap.size + 1) lv (.bool d) (.int .u16 (q.A : Nat)) (.int .u16 (q.X : Nat)) (.int .u16 (q.Y : Nat)) (.int .u16 (q.S : Nat)) (.int .u16 (q.D : Nat)) (.int .u16 (q.PC : Nat)) (.int .u8 (q.B : Nat)) (.int .u8 (q.K : Nat)) (.int .u8 (q.P : Nat)) (.bool q.E) (.int .u8 (z : Nat))).ownsRow w.heap.size 35 3 lv s.l.length (accX s.l) ∧ Below w.heap.size w (layT W (w.heap.size + 1) lv (.bool d) (.int .u16 (q.A : Nat)) (.int .u16 (q.X : Nat)) (.int .u16 (q.Y : Nat)) (.int .u16 (q.S : Nat)) (.int .u16 (q.D : Nat)) (.int .u16 (q.PC : Nat)) (.int .u8 (q.B : Nat)) (.int .u8 (q.K : Nat)) (.int .u8 (q.P : Nat)) (.bool q.E) (.int .u8 (z : Nat))))) :=
    fun s lv W d q z ho hb => by
      have hTw := hT.below hb hTlt
      exact ⟨hTw, Lib.hid (layT_fin lv (.bool d) _ _ _ _ _ _ _ _ _ (.bool q.E) _ hTw (row_base ho hVs) (own_apart ho hTw (by decide)) (hB.trans (hb.mono hVs)) hszT)⟩
  unfold layT at hlast
  unfold Rg.v rgC at HE ⊢
  replace HE := Lib.hid HE
  replace hlast := Lib.hid hlast
  clear hG hB hT hR2 hR hsz hszT hVs hTlt hnc
  unfold tnV
  go_enter Tryz.func90, Tryz.ntmps90
  go_upto_region 1 with (fail)
  clear hV
  go_wp2_with fail
  refine HE.out.mono ?_
  rintro e W5 ⟨lv, rfl, ho, hb⟩
  obtain ⟨la, lc, rfl⟩ := row_slice ho

  obtain ⟨hTc, hfn⟩ := hlast.out s _ W5 (!s.st) s.tr s.ta ho hb
  have t0 := hTc.cell 0
  have f0 := hTc.free 0
  have t1 := hTc.cell 1
  have f1 := hTc.free 1
  have t2 := hTc.cell 2
  have f2 := hTc.free 2
  have t3 := hTc.cell 3
  have f3 := hTc.free 3
  have t4 := hTc.cell 4
  have f4 := hTc.free 4
  have t5 := hTc.cell 5
  have f5 := hTc.free 5
  have t6 := hTc.cell 6
  have f6 := hTc.free 6
  have t7 := hTc.cell 7
  have f7 := hTc.free 7
  have t8 := hTc.cell 8
  have f8 := hTc.free 8
  have t9 := hTc.cell 9
  have f9 := hTc.free 9
  have t10 := hTc.cell 10
  have f10 := hTc.free 10
  have t11 := hTc.cell 11
  have f11 := hTc.free 11
  have t12 := hTc.cell 12
  have f12 := hTc.free 12
  simp only [List.getElem?_toArray, List.getElem?_cons_zero, List.getElem?_cons_succ] at t0 t1 t2 t3 t4 t5 t6 t7 t8 t9 t10 t11 t12
  clear HE hTc ho hb hlast g0 g1 g2 g3 g4 g5 g6 g7 g8 g9
  unfold tnV
  go_wp2_with fail
  exact bodyPost_ret (results_cell_row (fn := Tryz.f90) (p := 8) (ty := 29) rfl _ _ _ _ _ (0, 0) _ rfl hfn.out.1 Tryz.underlying29 rfl (by kernel_rfl)) rfl ⟨_, rfl, hfn.out.2⟩
end Go.Proofs.YtnacdaodjgdnnaaGreat
