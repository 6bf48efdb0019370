/-
  The document's New and Step (genkst.py writes this text).
-/
import Derived.Test.YtbdhdedlemndeaaDoorKInv
import Derived.Deep.QuietTactic
namespace Go.Proofs.YtbdhdedlemndeaaDoor
open Go.RowKit Go.Shelf
set_option maxRecDepth 1000000
set_option maxHeartbeats 4000000
set_option linter.unusedVariables false
set_option linter.unusedSimpArgs false

theorem rnew_any (w : World) : Calls Tryd.prog 9 #[] w fun e w' => e = .returned (.agg (docC newF)) ∧ Below w.heap.size w w' := by
  have hZ := Whole.fresh w 30 docZ
  have hB := (Below.refl w.heap.size w).alloc (Nat.le_refl _) (.cells docZ 30)
  obtain ⟨hst, hfin⟩ := store_doc newF hZ rfl
  have hB3 := Lib.hid (below_setRow (cs := docC newF) hB (Nat.le_refl w.heap.size))
  have hlit : #[.bool false, .bool false, .bool false, .bool true, .int .i64 0, .int .i64 0, .int .i64 0, .int .i64 0, .int .i64 0, .int .i64 0, .int .i64 0, .int .i64 0, .int .i64 0, .int .i64 0, .int .i64 0, .int .i64 0, .int .u8 0, .int .u8 0, .int .u8 0, .int .u8 0, .int .u8 0, .int .u8 0, .int .u8 0, .int .u8 0, .int .u8 0, .int .u8 0] = docC newF := by kernel_rfl
  unfold docZ at hst hfin hB3
  obtain ⟨W, hW⟩ : ∃ W, w.alloc (.cells #[.bool false, .bool false, .bool false, .bool false, .int .i64 0, .int .i64 0, .int .i64 0, .int .i64 0, .int .i64 0, .int .i64 0, .int .i64 0, .int .i64 0, .int .i64 0, .int .i64 0, .int .i64 0, .int .i64 0, .int .u8 0, .int .u8 0, .int .u8 0, .int .u8 0, .int .u8 0, .int .u8 0, .int .u8 0, .int .u8 0, .int .u8 0, .int .u8 0] 30) = W := ⟨_, rfl⟩
  rw [hW] at hst hfin hB3
  replace hW := Lib.hid hW
  replace hst := Lib.hid hst
  replace hfin := Lib.hid hfin
  replace hlit := Lib.hid hlit
  clear hZ hB
  go_enter Tryd.func9, Tryd.ntmps9
  go_upto_region 1 with (fail)
  rw [hW.out]
  go_wp2_with (refine wpList_storeVar rfl 30 _ _ rfl _ _ rfl (by rw [← hlit.out]; rfl) hst.out ?_)
  exact bodyPost_ret (results_cell_row (fn := Tryd.f9) (p := 0) (ty := 30) rfl _ _ _ _ _ (0, 0) _ rfl hfin.out Tryd.underlying30 rfl (by kernel_rfl)) rfl ⟨rfl, hB3.out⟩
end Go.Proofs.YtbdhdedlemndeaaDoor
