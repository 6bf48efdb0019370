/-
  A reset is under way behind a step: the laws' awake.
-/
import Derived.Test.YtnacdaodjgdnnaaGreatMStage
namespace Go.Proofs.YtnacdaodjgdnnaaGreat
open Go.RowKit Go.Shelf
set_option maxRecDepth 100000
set_option maxHeartbeats 1000000
set_option linter.unusedVariables false

def maX : Xs := (enterTopX 0 ⟨ms0.r.settle, ms0.ct, ms0.sf, [], false, cd0, 0⟩).2
theorem maX_l : maX.l = [(0, 0, 0), (0, 0, 0), (0, 0, 0), (0, 0, 0), (0, 0, 0), (1, 65532, 0)] := by decide +kernel
theorem maX_st : maX.st = true := by decide +kernel
theorem awake9 (w : World) : Calls Tryz.prog 46 #[] w fun e w' => e = .returned (.bool true) ∧ Below w.heap.size w w' := by
  have HN := micro_new w
  have HS := fun (b : Nat) (W : World) (hM : Mk b ms0 W) => step_reset 0 hM rfl rfl rfl maX rfl maX_st (by rw [maX_l]; decide) ⟨(0, 0), _, maX_l⟩
  obtain ⟨s, hs⟩ : ∃ s : Ms, { ms0 with md := 2, why := 0, rs := false, at_ := 1, tl := maX.l, td := false, tr := maX.tr, ta := maX.ta } = s := ⟨_, rfl⟩
  rw [hs] at HS
  have HT := fun (b : Nat) (W : World) (hM : Mk b s W) => stage_none hM (by rw [← hs]; rfl)
  have e1 : s.md = 2 := by rw [← hs]
  have e2 : s.why = 0 := by rw [← hs]
  have e3 : s.at_ = 1 := by rw [← hs]
  rw [e1, e2, e3] at HT
  have HR := fun (b : Nat) (W : World) (hM : Mk b s W) => regs_any hM
  rw [show s.r = ms0.r from by rw [← hs]] at HR
  unfold ms0 Rg.v rgC at HR
  dsimp only at HR
  simp only [show ((0 : Nat) : Int) = 0 from rfl, show ((1 : Nat) : Int) = 1 from rfl, show ((2 : Nat) : Int) = 2 from rfl, show ((48 : Nat) : Int) = 48 from rfl, show ((256 : Nat) : Int) = 256 from rfl] at HR HS HT
  have hbe := fun (b : Nat) (W W' : World) (hM : Mk b s W) (hb : Below W.heap.size W W') => hM.below hb
  replace HN := Lib.hid HN
  replace HS := Lib.hid HS
  replace HT := Lib.hid HT
  replace HR := Lib.hid HR
  replace hbe := Lib.hid hbe
  clear hs e1 e2 e3
  go_enter Tryz.func46, Tryz.ntmps46
  go_wp2_with fail
  refine HN.out.mono ?_
  rintro e W1 ⟨b, rfl, hM, hle, hb1⟩
  have HS1 := Lib.hid (HS.out b W1 hM)
  replace hb1 := Lib.hid hb1
  clear HN HS hM
  go_wp2_with fail
  refine HS1.out.mono ?_
  rintro e W2 ⟨rfl, hM2, hg2⟩
  have hb2 := hb1.out.grown hg2 hb1.out.size (fun r hr => by injection hr with hr; rw [← hr]; exact hle)
  have HT2 := Lib.hid (HT.out b W2 hM2)
  replace hM2 := Lib.hid hM2
  replace hb2 := Lib.hid hb2
  clear HS1 hg2 hb1
  go_wp2_with fail
  refine HT2.out.mono ?_
  rintro e W3 ⟨rfl, hb3⟩
  have hM3 := hbe.out _ _ _ hM2.out hb3
  have hb3' := hb2.out.trans (hb3.mono hb2.out.size)
  have hT := Whole.fresh W3 91 #[.int .u8 0, .int .u8 0, .int .i64 0, .slice none 0 0]
  have hbT := (((((Below.refl W3.heap.size W3).alloc (Nat.le_refl _) (.cells #[.int .u8 0, .int .u8 0, .int .i64 0, .slice none 0 0] 91)).setCell (p := ⟨W3.heap.size, 0, none⟩) (Nat.le_refl _) (.int .u8 2)).setCell (p := ⟨W3.heap.size, 1, none⟩) (Nat.le_refl _) (.int .u8 0)).setCell (p := ⟨W3.heap.size, 2, none⟩) (Nat.le_refl _) (.int .i64 1)).setCell (p := ⟨W3.heap.size, 3, none⟩) (Nat.le_refl _) (.slice none 0 0)
  have hM5 := Lib.hid (hbe.out _ _ _ hM3 hbT)
  have hb5 := Lib.hid (hb3'.trans (hbT.mono hb3'.size))
  have hT5 := (((hT.put 0 (.int .u8 2)).put 1 (.int .u8 0)).put 2 (.int .i64 1)).put 3 (.slice none 0 0)
  have t0 := hT.cell 0
  have f0 := hT.free 0
  have t1 := hT.cell 1
  have f1 := hT.free 1
  have t2 := hT.cell 2
  have f2 := hT.free 2
  have t3 := hT.cell 3
  have f3 := hT.free 3
  simp only [List.getElem?_toArray, List.getElem?_cons_zero, List.getElem?_cons_succ] at t0 t1 t2 t3
  have z0 := hT5.cell 0
  have z1 := hT5.cell 1
  have z2 := hT5.cell 2
  simp only [List.setIfInBounds_toArray, List.set_cons_zero, List.set_cons_succ, List.getElem?_toArray, List.getElem?_cons_zero, List.getElem?_cons_succ] at z0 z1 z2
  clear HT HT2 hb3 hb3' hM3 hM2 hb2 hT hbT hT5 hle
  obtain ⟨V, hV⟩ : ∃ V, W3.alloc (.cells #[.int .u8 0, .int .u8 0, .int .i64 0, .slice none 0 0] 91) = V := ⟨_, rfl⟩
  rw [hV] at t0 t1 t2 t3 f0 f1 f2 f3 z0 z1 z2 hM5 hb5
  obtain ⟨T, hTe⟩ : ∃ T, W3.heap.size = T := ⟨_, rfl⟩
  rw [hTe] at t0 t1 t2 t3 f0 f1 f2 f3 z0 z1 z2 hM5 hb5
  go_upto_region 4 with (fail)
  generalize (((V.setCell ⟨T, 0, none⟩ (.int .u8 2)).setCell ⟨T, 1, none⟩ (.int .u8 0)).setCell ⟨T, 2, none⟩ (.int .i64 1)).setCell ⟨T, 3, none⟩ (.slice none 0 0) = W4 at *
  have HR4 := Lib.hid (HR.out b W4 hM5.out)
  clear t0 t1 t2 t3 f0 f1 f2 f3 hV hTe HR hM5 hbe
  go_wp2_with fail
  refine HR4.out.mono ?_
  rintro e W5 ⟨rfl, hb6⟩
  have hb7 := Lib.hid (hb5.out.trans (hb6.mono hb5.out.size))
  clear HR4 hb6 hb5 z0 z1 z2
  have hfl : ∀ W : World, (Instr.field 24 (.agg #[.int .u16 0, .int .u16 0, .int .u16 0, .int .u16 256, .int .u16 0, .int .u16 0, .int .u8 0, .int .u8 0, .int .u8 48, .bool true]) 3).run Tryz.prog W = .ok (.int .u16 256) W := fun _ => by kernel_rfl
  go_wp2_with fail
  go_ret
  exact ⟨rfl, hb7.out⟩
end Go.Proofs.YtnacdaodjgdnnaaGreat
