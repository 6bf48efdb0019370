/-
  A processor carries out an access in which nothing is touched; its registers; where it stands.
-/
import Derived.Test.YtnacdaodjgdnnaaGreatMStep
import Derived.Deep.RegionHeld3
namespace Go.Proofs.YtnacdaodjgdnnaaGreat
open Go.RowKit Go.Shelf
set_option maxRecDepth 100000
set_option maxHeartbeats 1000000
set_option linter.unusedVariables false

theorem carry_idle {b : Nat} {s : Ms} {w : World} (v : Nat) (h : Mk b s w) (ht : s.td = false) (hat : s.at_ < s.tl.length) (hk : (s.tl[s.at_]'hat).1 = 0) (hl : s.tl.length ≤ 200) :
    Calls Tryz.prog 92 #[.pointer (some ⟨b, 0, none⟩), .int .u8 (v : Nat)] w fun e w' => e = .returned (.tuple #[]) ∧ Mk b { s with at_ := s.at_ + 1 } w' ∧ w.grownBy w' (some b) := by
  have hstep : ∀ W : World, Mk b s W → w.grownBy W (some b) → (W.cell? ⟨b, 15, none⟩ = some (.int .i64 (s.at_ : Nat)) ∧ W.frozen? ⟨b, 15, none⟩ = false) ∧ Hid (Mk b { s with at_ := s.at_ + 1 } (W.setCell ⟨b, 15, none⟩ (.int .i64 ((s.at_ + 1 : Nat) : Nat))) ∧ w.grownBy (W.setCell ⟨b, 15, none⟩ (.int .i64 ((s.at_ + 1 : Nat) : Nat))) (some b)) := fun W hW hg =>
    ⟨⟨hW.mid.1.2.2.2.2.2.1, hW.mid.2 15⟩, Lib.hid ⟨hW.wr 15 (.int .i64 ((s.at_ + 1 : Nat) : Nat)) hW.ok rfl hW.bytes hW.ct (fun a c => msC_15 _ a c _), only_set hg 15 _⟩⟩
  have hdone : ∀ W : World, Mk b { s with at_ := s.at_ + 1 } W → W.cell? ⟨b, 34, none⟩ = some (.bool false) := fun W hW => by
    have := hW.mid.1.2.2.2.2.2.2.2
    rw [this]
    show some (Value.bool s.td) = _
    rw [ht]
  obtain ⟨a, c, c33, hA, hlc⟩ := h.list
  have c15 := h.mid.1.2.2.2.2.2.1
  rcases hA with h0 | ⟨g, rfl, hg, hcell⟩
  · rw [h0] at hat; exact absurd hat (Nat.not_lt_zero _)
  have k0 := (hcell s.at_ hat).1
  rw [hk] at k0
  have hb0 := fun n => h.below (below_drewN (Below.refl w.heap.size w) n)
  have hg0 := fun n => (show w.grownBy (w.drewN n) (some b) from Below.only (below_drewN (Below.refl _ _) n) b)
  have hst := fun n => hstep _ (hb0 n) (hg0 n)
  have hdn := fun W (hW : Mk b { s with at_ := s.at_ + 1 } W) => hdone W hW
  have hbn := fun (W : World) n (hW : Mk b { s with at_ := s.at_ + 1 } W) => hW.below (below_drewN (Below.refl W.heap.size W) n)
  have hgr := fun (W : World) n (hW : w.grownBy W (some b)) => (show w.grownBy (W.drewN n) (some b) from ⟨hW.os, hW.tape, hW.output, hW.size, hW.block⟩)
  have e1 : IntKind.i64.wrap ((s.at_ : Int) + 1) = ((s.at_ + 1 : Nat) : Int) := by rw [IntKind.wrap_i64]; omega
  replace hdn := Lib.hid hdn
  replace hbn := Lib.hid hbn
  replace hgr := Lib.hid hgr
  replace hst := Lib.hid hst
  clear h hstep hdone hcell hk ht hb0 hg0
  generalize hs' : ({ s with at_ := s.at_ + 1 } : Ms) = s' at *
  clear hs'
  generalize s.tl.length = L at *
  generalize s.at_ + 1 = q at *
  generalize s.at_ = p at *
  simp only [show ((0 : Nat) : Int) = 0 from rfl] at k0
  go_enter Tryz.func92, Tryz.ntmps92
  go_upto_region 0 with (fail)
  go_quiet (fail)
  obtain ⟨⟨d15, f15⟩, hfin⟩ := hst.out nq
  generalize w.drewN nq = W1 at *
  clear hst k0 c15 c33
  go_upto_region 6 with (fail)
  generalize W1.setCell ⟨b, 15, none⟩ (.int .i64 (q : Nat)) = W2 at *
  have d34 := hdn.out _ hfin.out.1
  clear d15 f15
  go_quiet (fail)
  have h3 := Lib.hid (And.intro (hbn.out _ nq hfin.out.1) (hgr.out _ nq hfin.out.2))
  clear hfin d34
  go_wp2_with fail
  go_end0
  exact ⟨rfl, h3.out⟩
theorem step_reset {b : Nat} {s : Ms} {w : World} (v : Nat) (h : Mk b s w) (hmd : s.md = 0) (hr : s.rs = true) (hat : s.at_ = 0) (x : Xs) (hx : (enterTopX 0 ⟨s.r.settle, s.ct, s.sf, [], false, cd0, 0⟩).2 = x) (hst : x.st = true) (hl : x.l.length ≤ 200) (hl0 : ∃ y l, x.l = (0, y) :: l) :
    Calls Tryz.prog 44 #[.pointer (some ⟨b, 0, none⟩), .int .u8 (v : Nat)] w fun e w' => e = .returned (.tuple #[]) ∧ Mk b { s with md := 2, why := 0, rs := false, at_ := 1, tl := x.l, td := false, tr := x.tr, ta := x.ta } w' ∧ w.grownBy w' (some b) := by
  have c10 := h.mid.1.1
  rw [hmd] at c10
  have HB := begin_reset h hr x hx
  rw [hst] at HB
  obtain ⟨y, l, hxl⟩ := hl0
  have HC := fun (W : World) (hW : Mk b { s with md := 2, why := 0, rs := false, tl := x.l, td := !true, tr := x.tr, ta := x.ta } W) => carry_idle v hW rfl (by show s.at_ < x.l.length; rw [hat, hxl]; exact Nat.zero_lt_succ _) (by
    show (x.l[s.at_]'_).1 = 0
    have e : ∀ (i : Nat) (hi : i < x.l.length), i = 0 → (x.l[i]'hi).1 = 0 := fun i hi h0 => by
      subst h0
      simp only [hxl, List.getElem_cons_zero]
    exact e _ _ hat) hl
  simp only [show ((0 : Nat) : Int) = 0 from rfl] at c10
  have hfin : ∀ W, Mk b { ({ s with md := 2, why := 0, rs := false, tl := x.l, td := !true, tr := x.tr, ta := x.ta } : Ms) with at_ := s.at_ + 1 } W → Mk b { s with md := 2, why := 0, rs := false, at_ := 1, tl := x.l, td := false, tr := x.tr, ta := x.ta } W := fun W hW => by
    rw [hat] at hW
    exact hW
  replace HB := Lib.hid HB
  replace HC := Lib.hid HC
  replace hfin := Lib.hid hfin
  clear h hmd hr hx hst hl hxl
  go_enter Tryz.func44, Tryz.ntmps44
  go_wp2_with fail
  refine HB.out.mono ?_
  rintro e W1 ⟨rfl, h1, g1⟩
  have HC1 := Lib.hid (HC.out _ h1)
  replace g1 := Lib.hid g1
  clear HB HC h1 c10
  go_wp2_with fail
  refine HC1.out.mono ?_
  rintro e W2 ⟨rfl, h2, g2⟩
  have h3 := Lib.hid (hfin.out _ h2)
  have g3 := Lib.hid (grownBy_trans g1.out g2)
  clear HC1 h2 g1 g2 hfin
  go_wp2_with fail
  go_end0
  exact ⟨rfl, h3.out, g3.out⟩
theorem regs_any {b : Nat} {s : Ms} {w : World} (h : Mk b s w) : Calls Tryz.prog 54 #[.pointer (some ⟨b, 0, none⟩)] w fun e w' => e = .returned s.r.v ∧ Below w.heap.size w w' := by
  have hb := (Below.refl w.heap.size w).alloc (Nat.le_refl _) (.cells #[.int .u16 0, .int .u16 0, .int .u16 0, .int .u16 0, .int .u16 0, .int .u16 0, .int .u8 0, .int .u8 0, .int .u8 0, .bool false] 24)
  obtain ⟨q10, q11, q0, q1, q2, q3, q4, q5, q6, q7, q8, q9⟩ := (h.below hb).head
  have hT := Whole.fresh w 24 #[.int .u16 0, .int .u16 0, .int .u16 0, .int .u16 0, .int .u16 0, .int .u16 0, .int .u8 0, .int .u8 0, .int .u8 0, .bool false]
  have hlt := h.lt
  unfold Rg.v rgC
  have t0 := hT.cell 0
  have f0 := hT.free 0
  have t1 := hT.cell 1
  have f1 := hT.free 1
  have t2 := hT.cell 2
  have f2 := hT.free 2
  have t3 := hT.cell 3
  have f3 := hT.free 3
  have t4 := hT.cell 4
  have f4 := hT.free 4
  have t5 := hT.cell 5
  have f5 := hT.free 5
  have t6 := hT.cell 6
  have f6 := hT.free 6
  have t7 := hT.cell 7
  have f7 := hT.free 7
  have t8 := hT.cell 8
  have f8 := hT.free 8
  have t9 := hT.cell 9
  have f9 := hT.free 9
  simp only [List.getElem?_toArray, List.getElem?_cons_zero, List.getElem?_cons_succ] at t0 t1 t2 t3 t4 t5 t6 t7 t8 t9
  have hB2 := Below.setCell (Below.setCell (Below.setCell (Below.setCell (Below.setCell (Below.setCell (Below.setCell (Below.setCell (Below.setCell (Below.setCell hb (p := ⟨w.heap.size, 0, none⟩) (Nat.le_refl _) (.int .u16 (s.r.A : Nat))) (p := ⟨w.heap.size, 1, none⟩) (Nat.le_refl _) (.int .u16 (s.r.X : Nat))) (p := ⟨w.heap.size, 2, none⟩) (Nat.le_refl _) (.int .u16 (s.r.Y : Nat))) (p := ⟨w.heap.size, 3, none⟩) (Nat.le_refl _) (.int .u16 (s.r.S : Nat))) (p := ⟨w.heap.size, 4, none⟩) (Nat.le_refl _) (.int .u16 (s.r.D : Nat))) (p := ⟨w.heap.size, 5, none⟩) (Nat.le_refl _) (.int .u16 (s.r.PC : Nat))) (p := ⟨w.heap.size, 6, none⟩) (Nat.le_refl _) (.int .u8 (s.r.B : Nat))) (p := ⟨w.heap.size, 7, none⟩) (Nat.le_refl _) (.int .u8 (s.r.K : Nat))) (p := ⟨w.heap.size, 8, none⟩) (Nat.le_refl _) (.int .u8 (s.r.P : Nat))) (p := ⟨w.heap.size, 9, none⟩) (Nat.le_refl _) (.bool s.r.E)
  have hW := (((((((((hT.put 0 (.int .u16 (s.r.A : Nat))).put 1 (.int .u16 (s.r.X : Nat))).put 2 (.int .u16 (s.r.Y : Nat))).put 3 (.int .u16 (s.r.S : Nat))).put 4 (.int .u16 (s.r.D : Nat))).put 5 (.int .u16 (s.r.PC : Nat))).put 6 (.int .u8 (s.r.B : Nat))).put 7 (.int .u8 (s.r.K : Nat))).put 8 (.int .u8 (s.r.P : Nat))).put 9 (.bool s.r.E)
  simp only [List.setIfInBounds_toArray, List.set_cons_zero, List.set_cons_succ] at hW
  replace hB2 := Lib.hid hB2
  replace hW := Lib.hid hW
  clear h hb hT q10 q11
  obtain ⟨V, hV⟩ : ∃ V, w.alloc (.cells #[.int .u16 0, .int .u16 0, .int .u16 0, .int .u16 0, .int .u16 0, .int .u16 0, .int .u8 0, .int .u8 0, .int .u8 0, .bool false] 24) = V := ⟨_, rfl⟩
  rw [hV] at q0 t0 f0 q1 t1 f1 q2 t2 f2 q3 t3 f3 q4 t4 f4 q5 t5 f5 q6 t6 f6 q7 t7 f7 q8 t8 f8 q9 t9 f9 hB2 hW
  obtain ⟨T, hT⟩ : ∃ T, w.heap.size = T := ⟨_, rfl⟩
  rw [hT] at t0 f0 t1 f1 t2 f2 t3 f3 t4 f4 t5 f5 t6 f6 t7 f7 t8 f8 t9 f9 hB2 hW
  generalize s.r.A = rA at *
  generalize s.r.X = rX at *
  generalize s.r.Y = rY at *
  generalize s.r.S = rS at *
  generalize s.r.D = rD at *
  generalize s.r.PC = rPC at *
  generalize s.r.B = rB at *
  generalize s.r.K = rK at *
  generalize s.r.P = rP at *
  generalize s.r.E = rE at *
  go_enter Tryz.func54, Tryz.ntmps54
  go_upto_region 1 with (fail)
  clear hV
  go_wp2_with fail
  exact bodyPost_ret (results_cell_row (fn := Tryz.f54) (p := 2) (ty := 24) rfl _ _ _ _ _ (0, 0) _ rfl hW.out Tryz.underlying24 rfl (by kernel_rfl)) rfl ⟨rfl, by rw [hT]; exact hB2.out⟩
end Go.Proofs.YtnacdaodjgdnnaaGreat
