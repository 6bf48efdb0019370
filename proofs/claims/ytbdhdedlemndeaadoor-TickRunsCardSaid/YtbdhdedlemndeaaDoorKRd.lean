/-
  What a register reads as, by the document (genkrd.py writes this text).
-/
import Derived.Test.YtbdhdedlemndeaaDoorKInv
namespace Go.Proofs.YtbdhdedlemndeaaDoor
open Go.RowKit Go.Shelf
set_option maxRecDepth 1000000
set_option maxHeartbeats 4000000
set_option linter.unusedVariables false
set_option linter.unusedSimpArgs false

def RI4 (T : Nat) (f : Nat → Nat) (w0 : World) (listed : Array Bool) (a : Act) (w : World) : Prop :=
  listed.size = 8 ∧ ∃ t5 s0 s1 s2 s3 s4 s5 : Value, a = { tmps := List.toArray (.agg (docC f) :: .int .u8 4 :: .pointer (some ⟨T, 0, none⟩) :: undef :: .pointer (some ⟨T + 1, 0, none⟩) :: t5 :: undef :: .int .u8 4 :: .bool true :: .bool true :: .int .u8 4 :: .bool true :: .bool true :: s0 :: s1 :: s2 :: s3 :: s4 :: s5 :: undef :: undef :: undef :: undef :: undef :: undef :: undef :: undef :: undef :: undef :: undef :: undef :: undef :: undef :: undef :: undef :: undef :: undef :: undef :: undef :: undef :: undef :: undef :: undef :: undef :: undef :: undef :: undef :: undef :: undef :: undef :: []), defers := [] } ∧ Whole w T 30 (docC f) ∧ (∃ ds, Whole w (T + 1) 30 ds ∧ ds.size = 26) ∧ Below T w0 w ∧
    (listed.getD 0 false = true → s0 = .agg (docC f)) ∧
    (listed.getD 1 false = true → s1 = .int .u8 4) ∧
    (listed.getD 2 false = true → s2 = .int .u8 0) ∧
    (listed.getD 3 false = true → s3 = .pointer (some ⟨T, 16, none⟩)) ∧
    (listed.getD 4 false = true → s4 = .pointer (some ⟨T, 16, none⟩)) ∧
    (listed.getD 5 false = true → s5 = .int .u8 (f 13 : Nat)) ∧
    (listed.getD 6 false = true → Whole w (T + 1) 30 (docC f)) ∧
    (listed.getD 7 false = true → t5 = .int .u8 (f 13 : Nat))
theorem rread_4 {f : Nat → Nat} (w : World) : Calls Tryd.prog 12 #[.agg (docC f), .int .u8 4] w fun e w' => e = .returned (.tuple #[.agg (docC f), .int .u8 (f 13 : Nat)]) ∧ Below w.heap.size w w' := by
  have hS := (Whole.fresh w 30 (docC f)).alloc (.cells docZ 30)
  have hZ := Whole.fresh (w.alloc (.cells (docC f) 30)) 30 docZ
  rw [alloc_size] at hZ
  have hB := ((Below.refl w.heap.size w).alloc (Nat.le_refl _) (.cells (docC f) 30)).alloc (by rw [alloc_size]; exact Nat.le_succ _) (.cells docZ 30)
  unfold docZ at hS hZ hB
  have hdx : (docC f)[16]? = some (.int .u8 (f 13 : Nat)) := rfl
  replace hS := Lib.hid hS
  replace hZ := Lib.hid hZ
  replace hB := Lib.hid hB
  replace hdx := Lib.hid hdx
  go_enter Tryd.func12, Tryd.ntmps12
  go_upto_region 2 with (fail)
  generalize (w.alloc (.cells (docC f) 30)).alloc (.cells #[.bool false, .bool false, .bool false, .bool false, .int .i64 0, .int .i64 0, .int .i64 0, .int .i64 0, .int .i64 0, .int .i64 0, .int .i64 0, .int .i64 0, .int .i64 0, .int .i64 0, .int .i64 0, .int .i64 0, .int .u8 0, .int .u8 0, .int .u8 0, .int .u8 0, .int .u8 0, .int .u8 0, .int .u8 0, .int .u8 0, .int .u8 0, .int .u8 0] 30) = W at *
  generalize hTe : w.heap.size = T at *
  replace hTe := Lib.hid hTe
  refine wp_region_any (by kernel_rfl) (wpAny_inv (RI4 T f w) ?step ?fin _ _ _ _ ?cnt ?init)
  case cnt => exact Nat.le_of_eq (by rfl)
  case init => exact ⟨by simp, _, _, _, _, _, _, _, rfl, hS.out.drew, ⟨_, hZ.out.drew, rfl⟩, hB.out.drew, fun h => repl_no h, fun h => repl_no h, fun h => repl_no h, fun h => repl_no h, fun h => repl_no h, fun h => repl_no h, fun h => repl_no h, fun h => repl_no h⟩
  case fin =>
    intro listed a W2 hI hr
    obtain ⟨hsz, t5, s0, s1, s2, s3, s4, s5, rfl, hX2, hZ2, hB2, f0, f1, f2, f3, f4, f5, f6, f7⟩ := hI
    have l0 := all_listed hr hsz (i := 0) rfl (by intro e he hb; simp at he; first | done | (rcases he with rfl; exact absurd hb (by decide)))
    have l1 := all_listed hr hsz (i := 1) rfl (by intro e he hb; simp at he; first | done | (rcases he with rfl; exact absurd hb (by decide)))
    have l2 := all_listed hr hsz (i := 2) rfl (by intro e he hb; simp at he; rcases he with rfl | rfl <;> first | exact absurd hb (by decide) | exact l1)
    have l3 := all_listed hr hsz (i := 3) rfl (by intro e he hb; simp at he; first | done | (rcases he with rfl; exact absurd hb (by decide)))
    have l4 := all_listed hr hsz (i := 4) rfl (by intro e he hb; simp at he; rcases he with rfl | rfl | rfl <;> first | exact absurd hb (by decide) | exact l2 | exact l3)
    have l5 := all_listed hr hsz (i := 5) rfl (by intro e he hb; simp at he; rcases he with rfl | rfl <;> first | exact absurd hb (by decide) | exact l4)
    have l6 := all_listed hr hsz (i := 6) rfl (by intro e he hb; simp at he; rcases he with rfl | rfl | rfl | rfl | rfl | rfl | rfl <;> first | exact absurd hb (by decide) | exact l0 | exact l1 | exact l2 | exact l3 | exact l4 | exact l5)
    have l7 := all_listed hr hsz (i := 7) rfl (by intro e he hb; simp at he; rcases he with rfl | rfl | rfl | rfl | rfl | rfl | rfl | rfl | rfl <;> first | exact absurd hb (by decide) | exact l0 | exact l1 | exact l2 | exact l3 | exact l4 | exact l5 | exact l6)
    obtain rfl := f7 l7
    have hW2 := Lib.hid (f6 l6)
    have hB3 := Lib.hid hB2
    clear hX2 hZ2 hB2 f0 f1 f2 f3 f4 f5 f6 f7 hr hsz l0 l1 l2 l3 l4 l5 l6 l7 hS hZ hB
    go_wp2_with fail
    exact bodyPost_ret (results_cell_tmp (fn := Tryd.f12) (p1 := 4) (p2 := 5) (ty1 := 30) rfl _ _ _ _ _ (0, 0) _ _ rfl hW2.out Tryd.underlying30 rfl (by kernel_rfl) rfl) rfl ⟨rfl, by rw [hTe.out]; exact hB3.out⟩
  case step =>
    intro listed a W2 i hI hi
    obtain ⟨hsz, t5, s0, s1, s2, s3, s4, s5, rfl, hX2, hZ2, hB2, f0, f1, f2, f3, f4, f5, f6, f7⟩ := hI
    obtain ⟨hun, oo, ho, hall⟩ := mem_ready.1 hi
    have hi8 : i < 8 := (Array.getElem?_eq_some_iff.1 ho).1
    clear hS hZ hB
    have hcs : i = 0 ∨ i = 1 ∨ i = 2 ∨ i = 3 ∨ i = 4 ∨ i = 5 ∨ i = 6 ∨ i = 7 := by omega
    have w0 : IntKind.u8.wrap 0 = 0 := by decide
    have w1 : IntKind.u8.wrap 1 = 1 := by decide
    have w2 : IntKind.u8.wrap 2 = 2 := by decide
    have w3 : IntKind.u8.wrap 3 = 3 := by decide
    rcases hcs with rfl | rfl | rfl | rfl | rfl | rfl | rfl | rfl
    · injection ho with ho
      subst ho
      refine wpOp_step rfl ?_
      intro K1 hK1
      refine oper_load 30 _ rfl _ _ rfl (load_doc hX2) ?_
      exact hK1 _ _ ⟨by simp [hsz], _, _, _, _, _, _, _, rfl, hX2, hZ2, hB2, fun _ => rfl, fun h => f1 (keep_at (by decide) h), fun h => f2 (keep_at (by decide) h), fun h => f3 (keep_at (by decide) h), fun h => f4 (keep_at (by decide) h), fun h => f5 (keep_at (by decide) h), fun h => f6 (keep_at (by decide) h), fun h => f7 (keep_at (by decide) h)⟩
    · injection ho with ho
      subst ho
      refine wpOp_step rfl ?_
      intro K1 hK1
      replace hK1 := Lib.hid hK1
      replace hX2 := Lib.hid hX2
      replace hZ2 := Lib.hid hZ2
      replace hB2 := Lib.hid hB2
      go_wp2_with fail
      exact hK1.out _ _ ⟨by simp [hsz], _, _, _, _, _, _, _, rfl, hX2.out, hZ2.out, hB2.out, fun h => f0 (keep_at (by decide) h), fun _ => rfl, fun h => f2 (keep_at (by decide) h), fun h => f3 (keep_at (by decide) h), fun h => f4 (keep_at (by decide) h), fun h => f5 (keep_at (by decide) h), fun h => f6 (keep_at (by decide) h), fun h => f7 (keep_at (by decide) h)⟩
    · injection ho with ho
      subst ho
      have d1 := hall { on := 1, ground := .data } (by simp) rfl
      obtain rfl := f1 d1
      refine wpOp_step rfl ?_
      intro K1 hK1
      replace hK1 := Lib.hid hK1
      replace hX2 := Lib.hid hX2
      replace hZ2 := Lib.hid hZ2
      replace hB2 := Lib.hid hB2
      go_wp2_with fail
      exact hK1.out _ _ ⟨by simp [hsz], _, _, _, _, _, _, _, rfl, hX2.out, hZ2.out, hB2.out, fun h => f0 (keep_at (by decide) h), fun _ => rfl, fun _ => rfl, fun h => f3 (keep_at (by decide) h), fun h => f4 (keep_at (by decide) h), fun h => f5 (keep_at (by decide) h), fun h => f6 (keep_at (by decide) h), fun h => f7 (keep_at (by decide) h)⟩
    · injection ho with ho
      subst ho
      refine wpOp_step rfl ?_
      intro K1 hK1
      replace hK1 := Lib.hid hK1
      replace hX2 := Lib.hid hX2
      replace hZ2 := Lib.hid hZ2
      replace hB2 := Lib.hid hB2
      go_wp2_with fail
      exact hK1.out _ _ ⟨by simp [hsz], _, _, _, _, _, _, _, rfl, hX2.out, hZ2.out, hB2.out, fun h => f0 (keep_at (by decide) h), fun h => f1 (keep_at (by decide) h), fun h => f2 (keep_at (by decide) h), fun _ => rfl, fun h => f4 (keep_at (by decide) h), fun h => f5 (keep_at (by decide) h), fun h => f6 (keep_at (by decide) h), fun h => f7 (keep_at (by decide) h)⟩
    · injection ho with ho
      subst ho
      have d3 := hall { on := 3, ground := .data } (by simp) rfl
      obtain rfl := f3 d3
      have d2 := hall { on := 2, ground := .data } (by simp) rfl
      obtain rfl := f2 d2
      refine wpOp_step rfl ?_
      intro K1 hK1
      replace hK1 := Lib.hid hK1
      replace hX2 := Lib.hid hX2
      replace hZ2 := Lib.hid hZ2
      replace hB2 := Lib.hid hB2
      go_wp2_with fail
      exact hK1.out _ _ ⟨by simp [hsz], _, _, _, _, _, _, _, rfl, hX2.out, hZ2.out, hB2.out, fun h => f0 (keep_at (by decide) h), fun h => f1 (keep_at (by decide) h), fun _ => rfl, fun _ => rfl, fun _ => rfl, fun h => f5 (keep_at (by decide) h), fun h => f6 (keep_at (by decide) h), fun h => f7 (keep_at (by decide) h)⟩
    · injection ho with ho
      subst ho
      have d4 := hall { on := 4, ground := .data } (by simp) rfl
      obtain rfl := f4 d4
      refine wpOp_step rfl ?_
      intro K1 hK1
      have cx := (hX2.cell 16).trans hdx.out
      replace hK1 := Lib.hid hK1
      replace hX2 := Lib.hid hX2
      replace hZ2 := Lib.hid hZ2
      replace hB2 := Lib.hid hB2
      go_wp2_with fail
      exact hK1.out _ _ ⟨by simp [hsz], _, _, _, _, _, _, _, rfl, hX2.out, hZ2.out, hB2.out, fun h => f0 (keep_at (by decide) h), fun h => f1 (keep_at (by decide) h), fun h => f2 (keep_at (by decide) h), fun h => f3 (keep_at (by decide) h), fun _ => rfl, fun _ => rfl, fun h => f6 (keep_at (by decide) h), fun h => f7 (keep_at (by decide) h)⟩
    · injection ho with ho
      subst ho
      have d0 := hall { on := 0, ground := .data } (by simp) rfl
      obtain rfl := f0 d0
      refine wpOp_step rfl ?_
      intro K1 hK1
      obtain ⟨ds, hds, hsd⟩ := hZ2
      obtain ⟨hst, hZ3⟩ := store_doc f hds hsd
      have hX3 := setRow_other (cs := docC f) hX2 (show T ≠ T + 1 by omega)
      have hB3 := below_setRow (cs := docC f) hB2 (show T ≤ T + 1 by omega)
      refine oper_store 30 _ _ rfl _ _ rfl rfl hst ?_
      exact hK1 _ _ ⟨by simp [hsz], _, _, _, _, _, _, _, rfl, hX3, ⟨_, hZ3, rfl⟩, hB3, fun _ => rfl, fun h => f1 (keep_at (by decide) h), fun h => f2 (keep_at (by decide) h), fun h => f3 (keep_at (by decide) h), fun h => f4 (keep_at (by decide) h), fun h => f5 (keep_at (by decide) h), fun _ => hZ3, fun h => f7 (keep_at (by decide) h)⟩
    · injection ho with ho
      subst ho
      have d5 := hall { on := 5, ground := .data } (by simp) rfl
      obtain rfl := f5 d5
      refine wpOp_step rfl ?_
      intro K1 hK1
      replace hK1 := Lib.hid hK1
      replace hX2 := Lib.hid hX2
      replace hZ2 := Lib.hid hZ2
      replace hB2 := Lib.hid hB2
      go_wp2_with fail
      exact hK1.out _ _ ⟨by simp [hsz], _, _, _, _, _, _, _, rfl, hX2.out, hZ2.out, hB2.out, fun h => f0 (keep_at (by decide) h), fun h => f1 (keep_at (by decide) h), fun h => f2 (keep_at (by decide) h), fun h => f3 (keep_at (by decide) h), fun h => f4 (keep_at (by decide) h), fun _ => rfl, fun h => f6 (keep_at (by decide) h), fun _ => rfl⟩
def RI5 (T : Nat) (f : Nat → Nat) (w0 : World) (listed : Array Bool) (a : Act) (w : World) : Prop :=
  listed.size = 8 ∧ ∃ t5 s0 s1 s2 s3 s4 s5 : Value, a = { tmps := List.toArray (.agg (docC f) :: .int .u8 5 :: .pointer (some ⟨T, 0, none⟩) :: undef :: .pointer (some ⟨T + 1, 0, none⟩) :: t5 :: undef :: .int .u8 5 :: .bool true :: .bool true :: .int .u8 5 :: .bool true :: .bool true :: s0 :: s1 :: s2 :: s3 :: s4 :: s5 :: undef :: undef :: undef :: undef :: undef :: undef :: undef :: undef :: undef :: undef :: undef :: undef :: undef :: undef :: undef :: undef :: undef :: undef :: undef :: undef :: undef :: undef :: undef :: undef :: undef :: undef :: undef :: undef :: undef :: undef :: undef :: []), defers := [] } ∧ Whole w T 30 (docC f) ∧ (∃ ds, Whole w (T + 1) 30 ds ∧ ds.size = 26) ∧ Below T w0 w ∧
    (listed.getD 0 false = true → s0 = .agg (docC f)) ∧
    (listed.getD 1 false = true → s1 = .int .u8 5) ∧
    (listed.getD 2 false = true → s2 = .int .u8 1) ∧
    (listed.getD 3 false = true → s3 = .pointer (some ⟨T, 16, none⟩)) ∧
    (listed.getD 4 false = true → s4 = .pointer (some ⟨T, 17, none⟩)) ∧
    (listed.getD 5 false = true → s5 = .int .u8 (f 14 : Nat)) ∧
    (listed.getD 6 false = true → Whole w (T + 1) 30 (docC f)) ∧
    (listed.getD 7 false = true → t5 = .int .u8 (f 14 : Nat))
theorem rread_5 {f : Nat → Nat} (w : World) : Calls Tryd.prog 12 #[.agg (docC f), .int .u8 5] w fun e w' => e = .returned (.tuple #[.agg (docC f), .int .u8 (f 14 : Nat)]) ∧ Below w.heap.size w w' := by
  have hS := (Whole.fresh w 30 (docC f)).alloc (.cells docZ 30)
  have hZ := Whole.fresh (w.alloc (.cells (docC f) 30)) 30 docZ
  rw [alloc_size] at hZ
  have hB := ((Below.refl w.heap.size w).alloc (Nat.le_refl _) (.cells (docC f) 30)).alloc (by rw [alloc_size]; exact Nat.le_succ _) (.cells docZ 30)
  unfold docZ at hS hZ hB
  have hdx : (docC f)[17]? = some (.int .u8 (f 14 : Nat)) := rfl
  replace hS := Lib.hid hS
  replace hZ := Lib.hid hZ
  replace hB := Lib.hid hB
  replace hdx := Lib.hid hdx
  go_enter Tryd.func12, Tryd.ntmps12
  go_upto_region 2 with (fail)
  generalize (w.alloc (.cells (docC f) 30)).alloc (.cells #[.bool false, .bool false, .bool false, .bool false, .int .i64 0, .int .i64 0, .int .i64 0, .int .i64 0, .int .i64 0, .int .i64 0, .int .i64 0, .int .i64 0, .int .i64 0, .int .i64 0, .int .i64 0, .int .i64 0, .int .u8 0, .int .u8 0, .int .u8 0, .int .u8 0, .int .u8 0, .int .u8 0, .int .u8 0, .int .u8 0, .int .u8 0, .int .u8 0] 30) = W at *
  generalize hTe : w.heap.size = T at *
  replace hTe := Lib.hid hTe
  refine wp_region_any (by kernel_rfl) (wpAny_inv (RI5 T f w) ?step ?fin _ _ _ _ ?cnt ?init)
  case cnt => exact Nat.le_of_eq (by rfl)
  case init => exact ⟨by simp, _, _, _, _, _, _, _, rfl, hS.out.drew, ⟨_, hZ.out.drew, rfl⟩, hB.out.drew, fun h => repl_no h, fun h => repl_no h, fun h => repl_no h, fun h => repl_no h, fun h => repl_no h, fun h => repl_no h, fun h => repl_no h, fun h => repl_no h⟩
  case fin =>
    intro listed a W2 hI hr
    obtain ⟨hsz, t5, s0, s1, s2, s3, s4, s5, rfl, hX2, hZ2, hB2, f0, f1, f2, f3, f4, f5, f6, f7⟩ := hI
    have l0 := all_listed hr hsz (i := 0) rfl (by intro e he hb; simp at he; first | done | (rcases he with rfl; exact absurd hb (by decide)))
    have l1 := all_listed hr hsz (i := 1) rfl (by intro e he hb; simp at he; first | done | (rcases he with rfl; exact absurd hb (by decide)))
    have l2 := all_listed hr hsz (i := 2) rfl (by intro e he hb; simp at he; rcases he with rfl | rfl <;> first | exact absurd hb (by decide) | exact l1)
    have l3 := all_listed hr hsz (i := 3) rfl (by intro e he hb; simp at he; first | done | (rcases he with rfl; exact absurd hb (by decide)))
    have l4 := all_listed hr hsz (i := 4) rfl (by intro e he hb; simp at he; rcases he with rfl | rfl | rfl <;> first | exact absurd hb (by decide) | exact l2 | exact l3)
    have l5 := all_listed hr hsz (i := 5) rfl (by intro e he hb; simp at he; rcases he with rfl | rfl <;> first | exact absurd hb (by decide) | exact l4)
    have l6 := all_listed hr hsz (i := 6) rfl (by intro e he hb; simp at he; rcases he with rfl | rfl | rfl | rfl | rfl | rfl | rfl <;> first | exact absurd hb (by decide) | exact l0 | exact l1 | exact l2 | exact l3 | exact l4 | exact l5)
    have l7 := all_listed hr hsz (i := 7) rfl (by intro e he hb; simp at he; rcases he with rfl | rfl | rfl | rfl | rfl | rfl | rfl | rfl | rfl <;> first | exact absurd hb (by decide) | exact l0 | exact l1 | exact l2 | exact l3 | exact l4 | exact l5 | exact l6)
    obtain rfl := f7 l7
    have hW2 := Lib.hid (f6 l6)
    have hB3 := Lib.hid hB2
    clear hX2 hZ2 hB2 f0 f1 f2 f3 f4 f5 f6 f7 hr hsz l0 l1 l2 l3 l4 l5 l6 l7 hS hZ hB
    go_wp2_with fail
    exact bodyPost_ret (results_cell_tmp (fn := Tryd.f12) (p1 := 4) (p2 := 5) (ty1 := 30) rfl _ _ _ _ _ (0, 0) _ _ rfl hW2.out Tryd.underlying30 rfl (by kernel_rfl) rfl) rfl ⟨rfl, by rw [hTe.out]; exact hB3.out⟩
  case step =>
    intro listed a W2 i hI hi
    obtain ⟨hsz, t5, s0, s1, s2, s3, s4, s5, rfl, hX2, hZ2, hB2, f0, f1, f2, f3, f4, f5, f6, f7⟩ := hI
    obtain ⟨hun, oo, ho, hall⟩ := mem_ready.1 hi
    have hi8 : i < 8 := (Array.getElem?_eq_some_iff.1 ho).1
    clear hS hZ hB
    have hcs : i = 0 ∨ i = 1 ∨ i = 2 ∨ i = 3 ∨ i = 4 ∨ i = 5 ∨ i = 6 ∨ i = 7 := by omega
    have w0 : IntKind.u8.wrap 0 = 0 := by decide
    have w1 : IntKind.u8.wrap 1 = 1 := by decide
    have w2 : IntKind.u8.wrap 2 = 2 := by decide
    have w3 : IntKind.u8.wrap 3 = 3 := by decide
    rcases hcs with rfl | rfl | rfl | rfl | rfl | rfl | rfl | rfl
    · injection ho with ho
      subst ho
      refine wpOp_step rfl ?_
      intro K1 hK1
      refine oper_load 30 _ rfl _ _ rfl (load_doc hX2) ?_
      exact hK1 _ _ ⟨by simp [hsz], _, _, _, _, _, _, _, rfl, hX2, hZ2, hB2, fun _ => rfl, fun h => f1 (keep_at (by decide) h), fun h => f2 (keep_at (by decide) h), fun h => f3 (keep_at (by decide) h), fun h => f4 (keep_at (by decide) h), fun h => f5 (keep_at (by decide) h), fun h => f6 (keep_at (by decide) h), fun h => f7 (keep_at (by decide) h)⟩
    · injection ho with ho
      subst ho
      refine wpOp_step rfl ?_
      intro K1 hK1
      replace hK1 := Lib.hid hK1
      replace hX2 := Lib.hid hX2
      replace hZ2 := Lib.hid hZ2
      replace hB2 := Lib.hid hB2
      go_wp2_with fail
      exact hK1.out _ _ ⟨by simp [hsz], _, _, _, _, _, _, _, rfl, hX2.out, hZ2.out, hB2.out, fun h => f0 (keep_at (by decide) h), fun _ => rfl, fun h => f2 (keep_at (by decide) h), fun h => f3 (keep_at (by decide) h), fun h => f4 (keep_at (by decide) h), fun h => f5 (keep_at (by decide) h), fun h => f6 (keep_at (by decide) h), fun h => f7 (keep_at (by decide) h)⟩
    · injection ho with ho
      subst ho
      have d1 := hall { on := 1, ground := .data } (by simp) rfl
      obtain rfl := f1 d1
      refine wpOp_step rfl ?_
      intro K1 hK1
      replace hK1 := Lib.hid hK1
      replace hX2 := Lib.hid hX2
      replace hZ2 := Lib.hid hZ2
      replace hB2 := Lib.hid hB2
      go_wp2_with fail
      exact hK1.out _ _ ⟨by simp [hsz], _, _, _, _, _, _, _, rfl, hX2.out, hZ2.out, hB2.out, fun h => f0 (keep_at (by decide) h), fun _ => rfl, fun _ => rfl, fun h => f3 (keep_at (by decide) h), fun h => f4 (keep_at (by decide) h), fun h => f5 (keep_at (by decide) h), fun h => f6 (keep_at (by decide) h), fun h => f7 (keep_at (by decide) h)⟩
    · injection ho with ho
      subst ho
      refine wpOp_step rfl ?_
      intro K1 hK1
      replace hK1 := Lib.hid hK1
      replace hX2 := Lib.hid hX2
      replace hZ2 := Lib.hid hZ2
      replace hB2 := Lib.hid hB2
      go_wp2_with fail
      exact hK1.out _ _ ⟨by simp [hsz], _, _, _, _, _, _, _, rfl, hX2.out, hZ2.out, hB2.out, fun h => f0 (keep_at (by decide) h), fun h => f1 (keep_at (by decide) h), fun h => f2 (keep_at (by decide) h), fun _ => rfl, fun h => f4 (keep_at (by decide) h), fun h => f5 (keep_at (by decide) h), fun h => f6 (keep_at (by decide) h), fun h => f7 (keep_at (by decide) h)⟩
    · injection ho with ho
      subst ho
      have d3 := hall { on := 3, ground := .data } (by simp) rfl
      obtain rfl := f3 d3
      have d2 := hall { on := 2, ground := .data } (by simp) rfl
      obtain rfl := f2 d2
      refine wpOp_step rfl ?_
      intro K1 hK1
      replace hK1 := Lib.hid hK1
      replace hX2 := Lib.hid hX2
      replace hZ2 := Lib.hid hZ2
      replace hB2 := Lib.hid hB2
      go_wp2_with fail
      exact hK1.out _ _ ⟨by simp [hsz], _, _, _, _, _, _, _, rfl, hX2.out, hZ2.out, hB2.out, fun h => f0 (keep_at (by decide) h), fun h => f1 (keep_at (by decide) h), fun _ => rfl, fun _ => rfl, fun _ => rfl, fun h => f5 (keep_at (by decide) h), fun h => f6 (keep_at (by decide) h), fun h => f7 (keep_at (by decide) h)⟩
    · injection ho with ho
      subst ho
      have d4 := hall { on := 4, ground := .data } (by simp) rfl
      obtain rfl := f4 d4
      refine wpOp_step rfl ?_
      intro K1 hK1
      have cx := (hX2.cell 17).trans hdx.out
      replace hK1 := Lib.hid hK1
      replace hX2 := Lib.hid hX2
      replace hZ2 := Lib.hid hZ2
      replace hB2 := Lib.hid hB2
      go_wp2_with fail
      exact hK1.out _ _ ⟨by simp [hsz], _, _, _, _, _, _, _, rfl, hX2.out, hZ2.out, hB2.out, fun h => f0 (keep_at (by decide) h), fun h => f1 (keep_at (by decide) h), fun h => f2 (keep_at (by decide) h), fun h => f3 (keep_at (by decide) h), fun _ => rfl, fun _ => rfl, fun h => f6 (keep_at (by decide) h), fun h => f7 (keep_at (by decide) h)⟩
    · injection ho with ho
      subst ho
      have d0 := hall { on := 0, ground := .data } (by simp) rfl
      obtain rfl := f0 d0
      refine wpOp_step rfl ?_
      intro K1 hK1
      obtain ⟨ds, hds, hsd⟩ := hZ2
      obtain ⟨hst, hZ3⟩ := store_doc f hds hsd
      have hX3 := setRow_other (cs := docC f) hX2 (show T ≠ T + 1 by omega)
      have hB3 := below_setRow (cs := docC f) hB2 (show T ≤ T + 1 by omega)
      refine oper_store 30 _ _ rfl _ _ rfl rfl hst ?_
      exact hK1 _ _ ⟨by simp [hsz], _, _, _, _, _, _, _, rfl, hX3, ⟨_, hZ3, rfl⟩, hB3, fun _ => rfl, fun h => f1 (keep_at (by decide) h), fun h => f2 (keep_at (by decide) h), fun h => f3 (keep_at (by decide) h), fun h => f4 (keep_at (by decide) h), fun h => f5 (keep_at (by decide) h), fun _ => hZ3, fun h => f7 (keep_at (by decide) h)⟩
    · injection ho with ho
      subst ho
      have d5 := hall { on := 5, ground := .data } (by simp) rfl
      obtain rfl := f5 d5
      refine wpOp_step rfl ?_
      intro K1 hK1
      replace hK1 := Lib.hid hK1
      replace hX2 := Lib.hid hX2
      replace hZ2 := Lib.hid hZ2
      replace hB2 := Lib.hid hB2
      go_wp2_with fail
      exact hK1.out _ _ ⟨by simp [hsz], _, _, _, _, _, _, _, rfl, hX2.out, hZ2.out, hB2.out, fun h => f0 (keep_at (by decide) h), fun h => f1 (keep_at (by decide) h), fun h => f2 (keep_at (by decide) h), fun h => f3 (keep_at (by decide) h), fun h => f4 (keep_at (by decide) h), fun _ => rfl, fun h => f6 (keep_at (by decide) h), fun _ => rfl⟩
def RI6 (T : Nat) (f : Nat → Nat) (w0 : World) (listed : Array Bool) (a : Act) (w : World) : Prop :=
  listed.size = 8 ∧ ∃ t5 s0 s1 s2 s3 s4 s5 : Value, a = { tmps := List.toArray (.agg (docC f) :: .int .u8 6 :: .pointer (some ⟨T, 0, none⟩) :: undef :: .pointer (some ⟨T + 1, 0, none⟩) :: t5 :: undef :: .int .u8 6 :: .bool true :: .bool true :: .int .u8 6 :: .bool true :: .bool true :: s0 :: s1 :: s2 :: s3 :: s4 :: s5 :: undef :: undef :: undef :: undef :: undef :: undef :: undef :: undef :: undef :: undef :: undef :: undef :: undef :: undef :: undef :: undef :: undef :: undef :: undef :: undef :: undef :: undef :: undef :: undef :: undef :: undef :: undef :: undef :: undef :: undef :: undef :: []), defers := [] } ∧ Whole w T 30 (docC f) ∧ (∃ ds, Whole w (T + 1) 30 ds ∧ ds.size = 26) ∧ Below T w0 w ∧
    (listed.getD 0 false = true → s0 = .agg (docC f)) ∧
    (listed.getD 1 false = true → s1 = .int .u8 6) ∧
    (listed.getD 2 false = true → s2 = .int .u8 2) ∧
    (listed.getD 3 false = true → s3 = .pointer (some ⟨T, 16, none⟩)) ∧
    (listed.getD 4 false = true → s4 = .pointer (some ⟨T, 18, none⟩)) ∧
    (listed.getD 5 false = true → s5 = .int .u8 (f 15 : Nat)) ∧
    (listed.getD 6 false = true → Whole w (T + 1) 30 (docC f)) ∧
    (listed.getD 7 false = true → t5 = .int .u8 (f 15 : Nat))
theorem rread_6 {f : Nat → Nat} (w : World) : Calls Tryd.prog 12 #[.agg (docC f), .int .u8 6] w fun e w' => e = .returned (.tuple #[.agg (docC f), .int .u8 (f 15 : Nat)]) ∧ Below w.heap.size w w' := by
  have hS := (Whole.fresh w 30 (docC f)).alloc (.cells docZ 30)
  have hZ := Whole.fresh (w.alloc (.cells (docC f) 30)) 30 docZ
  rw [alloc_size] at hZ
  have hB := ((Below.refl w.heap.size w).alloc (Nat.le_refl _) (.cells (docC f) 30)).alloc (by rw [alloc_size]; exact Nat.le_succ _) (.cells docZ 30)
  unfold docZ at hS hZ hB
  have hdx : (docC f)[18]? = some (.int .u8 (f 15 : Nat)) := rfl
  replace hS := Lib.hid hS
  replace hZ := Lib.hid hZ
  replace hB := Lib.hid hB
  replace hdx := Lib.hid hdx
  go_enter Tryd.func12, Tryd.ntmps12
  go_upto_region 2 with (fail)
  generalize (w.alloc (.cells (docC f) 30)).alloc (.cells #[.bool false, .bool false, .bool false, .bool false, .int .i64 0, .int .i64 0, .int .i64 0, .int .i64 0, .int .i64 0, .int .i64 0, .int .i64 0, .int .i64 0, .int .i64 0, .int .i64 0, .int .i64 0, .int .i64 0, .int .u8 0, .int .u8 0, .int .u8 0, .int .u8 0, .int .u8 0, .int .u8 0, .int .u8 0, .int .u8 0, .int .u8 0, .int .u8 0] 30) = W at *
  generalize hTe : w.heap.size = T at *
  replace hTe := Lib.hid hTe
  refine wp_region_any (by kernel_rfl) (wpAny_inv (RI6 T f w) ?step ?fin _ _ _ _ ?cnt ?init)
  case cnt => exact Nat.le_of_eq (by rfl)
  case init => exact ⟨by simp, _, _, _, _, _, _, _, rfl, hS.out.drew, ⟨_, hZ.out.drew, rfl⟩, hB.out.drew, fun h => repl_no h, fun h => repl_no h, fun h => repl_no h, fun h => repl_no h, fun h => repl_no h, fun h => repl_no h, fun h => repl_no h, fun h => repl_no h⟩
  case fin =>
    intro listed a W2 hI hr
    obtain ⟨hsz, t5, s0, s1, s2, s3, s4, s5, rfl, hX2, hZ2, hB2, f0, f1, f2, f3, f4, f5, f6, f7⟩ := hI
    have l0 := all_listed hr hsz (i := 0) rfl (by intro e he hb; simp at he; first | done | (rcases he with rfl; exact absurd hb (by decide)))
    have l1 := all_listed hr hsz (i := 1) rfl (by intro e he hb; simp at he; first | done | (rcases he with rfl; exact absurd hb (by decide)))
    have l2 := all_listed hr hsz (i := 2) rfl (by intro e he hb; simp at he; rcases he with rfl | rfl <;> first | exact absurd hb (by decide) | exact l1)
    have l3 := all_listed hr hsz (i := 3) rfl (by intro e he hb; simp at he; first | done | (rcases he with rfl; exact absurd hb (by decide)))
    have l4 := all_listed hr hsz (i := 4) rfl (by intro e he hb; simp at he; rcases he with rfl | rfl | rfl <;> first | exact absurd hb (by decide) | exact l2 | exact l3)
    have l5 := all_listed hr hsz (i := 5) rfl (by intro e he hb; simp at he; rcases he with rfl | rfl <;> first | exact absurd hb (by decide) | exact l4)
    have l6 := all_listed hr hsz (i := 6) rfl (by intro e he hb; simp at he; rcases he with rfl | rfl | rfl | rfl | rfl | rfl | rfl <;> first | exact absurd hb (by decide) | exact l0 | exact l1 | exact l2 | exact l3 | exact l4 | exact l5)
    have l7 := all_listed hr hsz (i := 7) rfl (by intro e he hb; simp at he; rcases he with rfl | rfl | rfl | rfl | rfl | rfl | rfl | rfl | rfl <;> first | exact absurd hb (by decide) | exact l0 | exact l1 | exact l2 | exact l3 | exact l4 | exact l5 | exact l6)
    obtain rfl := f7 l7
    have hW2 := Lib.hid (f6 l6)
    have hB3 := Lib.hid hB2
    clear hX2 hZ2 hB2 f0 f1 f2 f3 f4 f5 f6 f7 hr hsz l0 l1 l2 l3 l4 l5 l6 l7 hS hZ hB
    go_wp2_with fail
    exact bodyPost_ret (results_cell_tmp (fn := Tryd.f12) (p1 := 4) (p2 := 5) (ty1 := 30) rfl _ _ _ _ _ (0, 0) _ _ rfl hW2.out Tryd.underlying30 rfl (by kernel_rfl) rfl) rfl ⟨rfl, by rw [hTe.out]; exact hB3.out⟩
  case step =>
    intro listed a W2 i hI hi
    obtain ⟨hsz, t5, s0, s1, s2, s3, s4, s5, rfl, hX2, hZ2, hB2, f0, f1, f2, f3, f4, f5, f6, f7⟩ := hI
    obtain ⟨hun, oo, ho, hall⟩ := mem_ready.1 hi
    have hi8 : i < 8 := (Array.getElem?_eq_some_iff.1 ho).1
    clear hS hZ hB
    have hcs : i = 0 ∨ i = 1 ∨ i = 2 ∨ i = 3 ∨ i = 4 ∨ i = 5 ∨ i = 6 ∨ i = 7 := by omega
    have w0 : IntKind.u8.wrap 0 = 0 := by decide
    have w1 : IntKind.u8.wrap 1 = 1 := by decide
    have w2 : IntKind.u8.wrap 2 = 2 := by decide
    have w3 : IntKind.u8.wrap 3 = 3 := by decide
    rcases hcs with rfl | rfl | rfl | rfl | rfl | rfl | rfl | rfl
    · injection ho with ho
      subst ho
      refine wpOp_step rfl ?_
      intro K1 hK1
      refine oper_load 30 _ rfl _ _ rfl (load_doc hX2) ?_
      exact hK1 _ _ ⟨by simp [hsz], _, _, _, _, _, _, _, rfl, hX2, hZ2, hB2, fun _ => rfl, fun h => f1 (keep_at (by decide) h), fun h => f2 (keep_at (by decide) h), fun h => f3 (keep_at (by decide) h), fun h => f4 (keep_at (by decide) h), fun h => f5 (keep_at (by decide) h), fun h => f6 (keep_at (by decide) h), fun h => f7 (keep_at (by decide) h)⟩
    · injection ho with ho
      subst ho
      refine wpOp_step rfl ?_
      intro K1 hK1
      replace hK1 := Lib.hid hK1
      replace hX2 := Lib.hid hX2
      replace hZ2 := Lib.hid hZ2
      replace hB2 := Lib.hid hB2
      go_wp2_with fail
      exact hK1.out _ _ ⟨by simp [hsz], _, _, _, _, _, _, _, rfl, hX2.out, hZ2.out, hB2.out, fun h => f0 (keep_at (by decide) h), fun _ => rfl, fun h => f2 (keep_at (by decide) h), fun h => f3 (keep_at (by decide) h), fun h => f4 (keep_at (by decide) h), fun h => f5 (keep_at (by decide) h), fun h => f6 (keep_at (by decide) h), fun h => f7 (keep_at (by decide) h)⟩
    · injection ho with ho
      subst ho
      have d1 := hall { on := 1, ground := .data } (by simp) rfl
      obtain rfl := f1 d1
      refine wpOp_step rfl ?_
      intro K1 hK1
      replace hK1 := Lib.hid hK1
      replace hX2 := Lib.hid hX2
      replace hZ2 := Lib.hid hZ2
      replace hB2 := Lib.hid hB2
      go_wp2_with fail
      exact hK1.out _ _ ⟨by simp [hsz], _, _, _, _, _, _, _, rfl, hX2.out, hZ2.out, hB2.out, fun h => f0 (keep_at (by decide) h), fun _ => rfl, fun _ => rfl, fun h => f3 (keep_at (by decide) h), fun h => f4 (keep_at (by decide) h), fun h => f5 (keep_at (by decide) h), fun h => f6 (keep_at (by decide) h), fun h => f7 (keep_at (by decide) h)⟩
    · injection ho with ho
      subst ho
      refine wpOp_step rfl ?_
      intro K1 hK1
      replace hK1 := Lib.hid hK1
      replace hX2 := Lib.hid hX2
      replace hZ2 := Lib.hid hZ2
      replace hB2 := Lib.hid hB2
      go_wp2_with fail
      exact hK1.out _ _ ⟨by simp [hsz], _, _, _, _, _, _, _, rfl, hX2.out, hZ2.out, hB2.out, fun h => f0 (keep_at (by decide) h), fun h => f1 (keep_at (by decide) h), fun h => f2 (keep_at (by decide) h), fun _ => rfl, fun h => f4 (keep_at (by decide) h), fun h => f5 (keep_at (by decide) h), fun h => f6 (keep_at (by decide) h), fun h => f7 (keep_at (by decide) h)⟩
    · injection ho with ho
      subst ho
      have d3 := hall { on := 3, ground := .data } (by simp) rfl
      obtain rfl := f3 d3
      have d2 := hall { on := 2, ground := .data } (by simp) rfl
      obtain rfl := f2 d2
      refine wpOp_step rfl ?_
      intro K1 hK1
      replace hK1 := Lib.hid hK1
      replace hX2 := Lib.hid hX2
      replace hZ2 := Lib.hid hZ2
      replace hB2 := Lib.hid hB2
      go_wp2_with fail
      exact hK1.out _ _ ⟨by simp [hsz], _, _, _, _, _, _, _, rfl, hX2.out, hZ2.out, hB2.out, fun h => f0 (keep_at (by decide) h), fun h => f1 (keep_at (by decide) h), fun _ => rfl, fun _ => rfl, fun _ => rfl, fun h => f5 (keep_at (by decide) h), fun h => f6 (keep_at (by decide) h), fun h => f7 (keep_at (by decide) h)⟩
    · injection ho with ho
      subst ho
      have d4 := hall { on := 4, ground := .data } (by simp) rfl
      obtain rfl := f4 d4
      refine wpOp_step rfl ?_
      intro K1 hK1
      have cx := (hX2.cell 18).trans hdx.out
      replace hK1 := Lib.hid hK1
      replace hX2 := Lib.hid hX2
      replace hZ2 := Lib.hid hZ2
      replace hB2 := Lib.hid hB2
      go_wp2_with fail
      exact hK1.out _ _ ⟨by simp [hsz], _, _, _, _, _, _, _, rfl, hX2.out, hZ2.out, hB2.out, fun h => f0 (keep_at (by decide) h), fun h => f1 (keep_at (by decide) h), fun h => f2 (keep_at (by decide) h), fun h => f3 (keep_at (by decide) h), fun _ => rfl, fun _ => rfl, fun h => f6 (keep_at (by decide) h), fun h => f7 (keep_at (by decide) h)⟩
    · injection ho with ho
      subst ho
      have d0 := hall { on := 0, ground := .data } (by simp) rfl
      obtain rfl := f0 d0
      refine wpOp_step rfl ?_
      intro K1 hK1
      obtain ⟨ds, hds, hsd⟩ := hZ2
      obtain ⟨hst, hZ3⟩ := store_doc f hds hsd
      have hX3 := setRow_other (cs := docC f) hX2 (show T ≠ T + 1 by omega)
      have hB3 := below_setRow (cs := docC f) hB2 (show T ≤ T + 1 by omega)
      refine oper_store 30 _ _ rfl _ _ rfl rfl hst ?_
      exact hK1 _ _ ⟨by simp [hsz], _, _, _, _, _, _, _, rfl, hX3, ⟨_, hZ3, rfl⟩, hB3, fun _ => rfl, fun h => f1 (keep_at (by decide) h), fun h => f2 (keep_at (by decide) h), fun h => f3 (keep_at (by decide) h), fun h => f4 (keep_at (by decide) h), fun h => f5 (keep_at (by decide) h), fun _ => hZ3, fun h => f7 (keep_at (by decide) h)⟩
    · injection ho with ho
      subst ho
      have d5 := hall { on := 5, ground := .data } (by simp) rfl
      obtain rfl := f5 d5
      refine wpOp_step rfl ?_
      intro K1 hK1
      replace hK1 := Lib.hid hK1
      replace hX2 := Lib.hid hX2
      replace hZ2 := Lib.hid hZ2
      replace hB2 := Lib.hid hB2
      go_wp2_with fail
      exact hK1.out _ _ ⟨by simp [hsz], _, _, _, _, _, _, _, rfl, hX2.out, hZ2.out, hB2.out, fun h => f0 (keep_at (by decide) h), fun h => f1 (keep_at (by decide) h), fun h => f2 (keep_at (by decide) h), fun h => f3 (keep_at (by decide) h), fun h => f4 (keep_at (by decide) h), fun _ => rfl, fun h => f6 (keep_at (by decide) h), fun _ => rfl⟩
def RI7 (T : Nat) (f : Nat → Nat) (w0 : World) (listed : Array Bool) (a : Act) (w : World) : Prop :=
  listed.size = 8 ∧ ∃ t5 s0 s1 s2 s3 s4 s5 : Value, a = { tmps := List.toArray (.agg (docC f) :: .int .u8 7 :: .pointer (some ⟨T, 0, none⟩) :: undef :: .pointer (some ⟨T + 1, 0, none⟩) :: t5 :: undef :: .int .u8 7 :: .bool true :: .bool true :: .int .u8 7 :: .bool true :: .bool true :: s0 :: s1 :: s2 :: s3 :: s4 :: s5 :: undef :: undef :: undef :: undef :: undef :: undef :: undef :: undef :: undef :: undef :: undef :: undef :: undef :: undef :: undef :: undef :: undef :: undef :: undef :: undef :: undef :: undef :: undef :: undef :: undef :: undef :: undef :: undef :: undef :: undef :: undef :: []), defers := [] } ∧ Whole w T 30 (docC f) ∧ (∃ ds, Whole w (T + 1) 30 ds ∧ ds.size = 26) ∧ Below T w0 w ∧
    (listed.getD 0 false = true → s0 = .agg (docC f)) ∧
    (listed.getD 1 false = true → s1 = .int .u8 7) ∧
    (listed.getD 2 false = true → s2 = .int .u8 3) ∧
    (listed.getD 3 false = true → s3 = .pointer (some ⟨T, 16, none⟩)) ∧
    (listed.getD 4 false = true → s4 = .pointer (some ⟨T, 19, none⟩)) ∧
    (listed.getD 5 false = true → s5 = .int .u8 (f 16 : Nat)) ∧
    (listed.getD 6 false = true → Whole w (T + 1) 30 (docC f)) ∧
    (listed.getD 7 false = true → t5 = .int .u8 (f 16 : Nat))
theorem rread_7 {f : Nat → Nat} (w : World) : Calls Tryd.prog 12 #[.agg (docC f), .int .u8 7] w fun e w' => e = .returned (.tuple #[.agg (docC f), .int .u8 (f 16 : Nat)]) ∧ Below w.heap.size w w' := by
  have hS := (Whole.fresh w 30 (docC f)).alloc (.cells docZ 30)
  have hZ := Whole.fresh (w.alloc (.cells (docC f) 30)) 30 docZ
  rw [alloc_size] at hZ
  have hB := ((Below.refl w.heap.size w).alloc (Nat.le_refl _) (.cells (docC f) 30)).alloc (by rw [alloc_size]; exact Nat.le_succ _) (.cells docZ 30)
  unfold docZ at hS hZ hB
  have hdx : (docC f)[19]? = some (.int .u8 (f 16 : Nat)) := rfl
  replace hS := Lib.hid hS
  replace hZ := Lib.hid hZ
  replace hB := Lib.hid hB
  replace hdx := Lib.hid hdx
  go_enter Tryd.func12, Tryd.ntmps12
  go_upto_region 2 with (fail)
  generalize (w.alloc (.cells (docC f) 30)).alloc (.cells #[.bool false, .bool false, .bool false, .bool false, .int .i64 0, .int .i64 0, .int .i64 0, .int .i64 0, .int .i64 0, .int .i64 0, .int .i64 0, .int .i64 0, .int .i64 0, .int .i64 0, .int .i64 0, .int .i64 0, .int .u8 0, .int .u8 0, .int .u8 0, .int .u8 0, .int .u8 0, .int .u8 0, .int .u8 0, .int .u8 0, .int .u8 0, .int .u8 0] 30) = W at *
  generalize hTe : w.heap.size = T at *
  replace hTe := Lib.hid hTe
  refine wp_region_any (by kernel_rfl) (wpAny_inv (RI7 T f w) ?step ?fin _ _ _ _ ?cnt ?init)
  case cnt => exact Nat.le_of_eq (by rfl)
  case init => exact ⟨by simp, _, _, _, _, _, _, _, rfl, hS.out.drew, ⟨_, hZ.out.drew, rfl⟩, hB.out.drew, fun h => repl_no h, fun h => repl_no h, fun h => repl_no h, fun h => repl_no h, fun h => repl_no h, fun h => repl_no h, fun h => repl_no h, fun h => repl_no h⟩
  case fin =>
    intro listed a W2 hI hr
    obtain ⟨hsz, t5, s0, s1, s2, s3, s4, s5, rfl, hX2, hZ2, hB2, f0, f1, f2, f3, f4, f5, f6, f7⟩ := hI
    have l0 := all_listed hr hsz (i := 0) rfl (by intro e he hb; simp at he; first | done | (rcases he with rfl; exact absurd hb (by decide)))
    have l1 := all_listed hr hsz (i := 1) rfl (by intro e he hb; simp at he; first | done | (rcases he with rfl; exact absurd hb (by decide)))
    have l2 := all_listed hr hsz (i := 2) rfl (by intro e he hb; simp at he; rcases he with rfl | rfl <;> first | exact absurd hb (by decide) | exact l1)
    have l3 := all_listed hr hsz (i := 3) rfl (by intro e he hb; simp at he; first | done | (rcases he with rfl; exact absurd hb (by decide)))
    have l4 := all_listed hr hsz (i := 4) rfl (by intro e he hb; simp at he; rcases he with rfl | rfl | rfl <;> first | exact absurd hb (by decide) | exact l2 | exact l3)
    have l5 := all_listed hr hsz (i := 5) rfl (by intro e he hb; simp at he; rcases he with rfl | rfl <;> first | exact absurd hb (by decide) | exact l4)
    have l6 := all_listed hr hsz (i := 6) rfl (by intro e he hb; simp at he; rcases he with rfl | rfl | rfl | rfl | rfl | rfl | rfl <;> first | exact absurd hb (by decide) | exact l0 | exact l1 | exact l2 | exact l3 | exact l4 | exact l5)
    have l7 := all_listed hr hsz (i := 7) rfl (by intro e he hb; simp at he; rcases he with rfl | rfl | rfl | rfl | rfl | rfl | rfl | rfl | rfl <;> first | exact absurd hb (by decide) | exact l0 | exact l1 | exact l2 | exact l3 | exact l4 | exact l5 | exact l6)
    obtain rfl := f7 l7
    have hW2 := Lib.hid (f6 l6)
    have hB3 := Lib.hid hB2
    clear hX2 hZ2 hB2 f0 f1 f2 f3 f4 f5 f6 f7 hr hsz l0 l1 l2 l3 l4 l5 l6 l7 hS hZ hB
    go_wp2_with fail
    exact bodyPost_ret (results_cell_tmp (fn := Tryd.f12) (p1 := 4) (p2 := 5) (ty1 := 30) rfl _ _ _ _ _ (0, 0) _ _ rfl hW2.out Tryd.underlying30 rfl (by kernel_rfl) rfl) rfl ⟨rfl, by rw [hTe.out]; exact hB3.out⟩
  case step =>
    intro listed a W2 i hI hi
    obtain ⟨hsz, t5, s0, s1, s2, s3, s4, s5, rfl, hX2, hZ2, hB2, f0, f1, f2, f3, f4, f5, f6, f7⟩ := hI
    obtain ⟨hun, oo, ho, hall⟩ := mem_ready.1 hi
    have hi8 : i < 8 := (Array.getElem?_eq_some_iff.1 ho).1
    clear hS hZ hB
    have hcs : i = 0 ∨ i = 1 ∨ i = 2 ∨ i = 3 ∨ i = 4 ∨ i = 5 ∨ i = 6 ∨ i = 7 := by omega
    have w0 : IntKind.u8.wrap 0 = 0 := by decide
    have w1 : IntKind.u8.wrap 1 = 1 := by decide
    have w2 : IntKind.u8.wrap 2 = 2 := by decide
    have w3 : IntKind.u8.wrap 3 = 3 := by decide
    rcases hcs with rfl | rfl | rfl | rfl | rfl | rfl | rfl | rfl
    · injection ho with ho
      subst ho
      refine wpOp_step rfl ?_
      intro K1 hK1
      refine oper_load 30 _ rfl _ _ rfl (load_doc hX2) ?_
      exact hK1 _ _ ⟨by simp [hsz], _, _, _, _, _, _, _, rfl, hX2, hZ2, hB2, fun _ => rfl, fun h => f1 (keep_at (by decide) h), fun h => f2 (keep_at (by decide) h), fun h => f3 (keep_at (by decide) h), fun h => f4 (keep_at (by decide) h), fun h => f5 (keep_at (by decide) h), fun h => f6 (keep_at (by decide) h), fun h => f7 (keep_at (by decide) h)⟩
    · injection ho with ho
      subst ho
      refine wpOp_step rfl ?_
      intro K1 hK1
      replace hK1 := Lib.hid hK1
      replace hX2 := Lib.hid hX2
      replace hZ2 := Lib.hid hZ2
      replace hB2 := Lib.hid hB2
      go_wp2_with fail
      exact hK1.out _ _ ⟨by simp [hsz], _, _, _, _, _, _, _, rfl, hX2.out, hZ2.out, hB2.out, fun h => f0 (keep_at (by decide) h), fun _ => rfl, fun h => f2 (keep_at (by decide) h), fun h => f3 (keep_at (by decide) h), fun h => f4 (keep_at (by decide) h), fun h => f5 (keep_at (by decide) h), fun h => f6 (keep_at (by decide) h), fun h => f7 (keep_at (by decide) h)⟩
    · injection ho with ho
      subst ho
      have d1 := hall { on := 1, ground := .data } (by simp) rfl
      obtain rfl := f1 d1
      refine wpOp_step rfl ?_
      intro K1 hK1
      replace hK1 := Lib.hid hK1
      replace hX2 := Lib.hid hX2
      replace hZ2 := Lib.hid hZ2
      replace hB2 := Lib.hid hB2
      go_wp2_with fail
      exact hK1.out _ _ ⟨by simp [hsz], _, _, _, _, _, _, _, rfl, hX2.out, hZ2.out, hB2.out, fun h => f0 (keep_at (by decide) h), fun _ => rfl, fun _ => rfl, fun h => f3 (keep_at (by decide) h), fun h => f4 (keep_at (by decide) h), fun h => f5 (keep_at (by decide) h), fun h => f6 (keep_at (by decide) h), fun h => f7 (keep_at (by decide) h)⟩
    · injection ho with ho
      subst ho
      refine wpOp_step rfl ?_
      intro K1 hK1
      replace hK1 := Lib.hid hK1
      replace hX2 := Lib.hid hX2
      replace hZ2 := Lib.hid hZ2
      replace hB2 := Lib.hid hB2
      go_wp2_with fail
      exact hK1.out _ _ ⟨by simp [hsz], _, _, _, _, _, _, _, rfl, hX2.out, hZ2.out, hB2.out, fun h => f0 (keep_at (by decide) h), fun h => f1 (keep_at (by decide) h), fun h => f2 (keep_at (by decide) h), fun _ => rfl, fun h => f4 (keep_at (by decide) h), fun h => f5 (keep_at (by decide) h), fun h => f6 (keep_at (by decide) h), fun h => f7 (keep_at (by decide) h)⟩
    · injection ho with ho
      subst ho
      have d3 := hall { on := 3, ground := .data } (by simp) rfl
      obtain rfl := f3 d3
      have d2 := hall { on := 2, ground := .data } (by simp) rfl
      obtain rfl := f2 d2
      refine wpOp_step rfl ?_
      intro K1 hK1
      replace hK1 := Lib.hid hK1
      replace hX2 := Lib.hid hX2
      replace hZ2 := Lib.hid hZ2
      replace hB2 := Lib.hid hB2
      go_wp2_with fail
      exact hK1.out _ _ ⟨by simp [hsz], _, _, _, _, _, _, _, rfl, hX2.out, hZ2.out, hB2.out, fun h => f0 (keep_at (by decide) h), fun h => f1 (keep_at (by decide) h), fun _ => rfl, fun _ => rfl, fun _ => rfl, fun h => f5 (keep_at (by decide) h), fun h => f6 (keep_at (by decide) h), fun h => f7 (keep_at (by decide) h)⟩
    · injection ho with ho
      subst ho
      have d4 := hall { on := 4, ground := .data } (by simp) rfl
      obtain rfl := f4 d4
      refine wpOp_step rfl ?_
      intro K1 hK1
      have cx := (hX2.cell 19).trans hdx.out
      replace hK1 := Lib.hid hK1
      replace hX2 := Lib.hid hX2
      replace hZ2 := Lib.hid hZ2
      replace hB2 := Lib.hid hB2
      go_wp2_with fail
      exact hK1.out _ _ ⟨by simp [hsz], _, _, _, _, _, _, _, rfl, hX2.out, hZ2.out, hB2.out, fun h => f0 (keep_at (by decide) h), fun h => f1 (keep_at (by decide) h), fun h => f2 (keep_at (by decide) h), fun h => f3 (keep_at (by decide) h), fun _ => rfl, fun _ => rfl, fun h => f6 (keep_at (by decide) h), fun h => f7 (keep_at (by decide) h)⟩
    · injection ho with ho
      subst ho
      have d0 := hall { on := 0, ground := .data } (by simp) rfl
      obtain rfl := f0 d0
      refine wpOp_step rfl ?_
      intro K1 hK1
      obtain ⟨ds, hds, hsd⟩ := hZ2
      obtain ⟨hst, hZ3⟩ := store_doc f hds hsd
      have hX3 := setRow_other (cs := docC f) hX2 (show T ≠ T + 1 by omega)
      have hB3 := below_setRow (cs := docC f) hB2 (show T ≤ T + 1 by omega)
      refine oper_store 30 _ _ rfl _ _ rfl rfl hst ?_
      exact hK1 _ _ ⟨by simp [hsz], _, _, _, _, _, _, _, rfl, hX3, ⟨_, hZ3, rfl⟩, hB3, fun _ => rfl, fun h => f1 (keep_at (by decide) h), fun h => f2 (keep_at (by decide) h), fun h => f3 (keep_at (by decide) h), fun h => f4 (keep_at (by decide) h), fun h => f5 (keep_at (by decide) h), fun _ => hZ3, fun h => f7 (keep_at (by decide) h)⟩
    · injection ho with ho
      subst ho
      have d5 := hall { on := 5, ground := .data } (by simp) rfl
      obtain rfl := f5 d5
      refine wpOp_step rfl ?_
      intro K1 hK1
      replace hK1 := Lib.hid hK1
      replace hX2 := Lib.hid hX2
      replace hZ2 := Lib.hid hZ2
      replace hB2 := Lib.hid hB2
      go_wp2_with fail
      exact hK1.out _ _ ⟨by simp [hsz], _, _, _, _, _, _, _, rfl, hX2.out, hZ2.out, hB2.out, fun h => f0 (keep_at (by decide) h), fun h => f1 (keep_at (by decide) h), fun h => f2 (keep_at (by decide) h), fun h => f3 (keep_at (by decide) h), fun h => f4 (keep_at (by decide) h), fun _ => rfl, fun h => f6 (keep_at (by decide) h), fun _ => rfl⟩
def RI8 (T : Nat) (f : Nat → Nat) (w0 : World) (listed : Array Bool) (a : Act) (w : World) : Prop :=
  listed.size = 8 ∧ ∃ t5 s0 s1 s2 s3 s4 s5 : Value, a = { tmps := List.toArray (.agg (docC f) :: .int .u8 8 :: .pointer (some ⟨T, 0, none⟩) :: undef :: .pointer (some ⟨T + 1, 0, none⟩) :: t5 :: undef :: .int .u8 8 :: .bool true :: .bool true :: .int .u8 8 :: .bool false :: .bool false :: undef :: undef :: undef :: undef :: undef :: undef :: .int .u8 8 :: .bool true :: .bool true :: undef :: undef :: .bool true :: s0 :: s1 :: s2 :: s3 :: s4 :: s5 :: undef :: undef :: undef :: undef :: undef :: undef :: undef :: undef :: undef :: undef :: undef :: undef :: undef :: undef :: undef :: undef :: undef :: undef :: undef :: []), defers := [] } ∧ Whole w T 30 (docC f) ∧ (∃ ds, Whole w (T + 1) 30 ds ∧ ds.size = 26) ∧ Below T w0 w ∧
    (listed.getD 0 false = true → s0 = .agg (docC f)) ∧
    (listed.getD 1 false = true → s1 = .int .u8 8) ∧
    (listed.getD 2 false = true → s2 = .int .u8 0) ∧
    (listed.getD 3 false = true → s3 = .pointer (some ⟨T, 24, none⟩)) ∧
    (listed.getD 4 false = true → s4 = .pointer (some ⟨T, 24, none⟩)) ∧
    (listed.getD 5 false = true → s5 = .int .u8 (f 21 : Nat)) ∧
    (listed.getD 6 false = true → Whole w (T + 1) 30 (docC f)) ∧
    (listed.getD 7 false = true → t5 = .int .u8 (f 21 : Nat))
theorem rread_8 {f : Nat → Nat} (w : World) : Calls Tryd.prog 12 #[.agg (docC f), .int .u8 8] w fun e w' => e = .returned (.tuple #[.agg (docC f), .int .u8 (f 21 : Nat)]) ∧ Below w.heap.size w w' := by
  have hS := (Whole.fresh w 30 (docC f)).alloc (.cells docZ 30)
  have hZ := Whole.fresh (w.alloc (.cells (docC f) 30)) 30 docZ
  rw [alloc_size] at hZ
  have hB := ((Below.refl w.heap.size w).alloc (Nat.le_refl _) (.cells (docC f) 30)).alloc (by rw [alloc_size]; exact Nat.le_succ _) (.cells docZ 30)
  unfold docZ at hS hZ hB
  have hdx : (docC f)[24]? = some (.int .u8 (f 21 : Nat)) := rfl
  replace hS := Lib.hid hS
  replace hZ := Lib.hid hZ
  replace hB := Lib.hid hB
  replace hdx := Lib.hid hdx
  go_enter Tryd.func12, Tryd.ntmps12
  go_upto_region 4 with (fail)
  generalize (w.alloc (.cells (docC f) 30)).alloc (.cells #[.bool false, .bool false, .bool false, .bool false, .int .i64 0, .int .i64 0, .int .i64 0, .int .i64 0, .int .i64 0, .int .i64 0, .int .i64 0, .int .i64 0, .int .i64 0, .int .i64 0, .int .i64 0, .int .i64 0, .int .u8 0, .int .u8 0, .int .u8 0, .int .u8 0, .int .u8 0, .int .u8 0, .int .u8 0, .int .u8 0, .int .u8 0, .int .u8 0] 30) = W at *
  generalize hTe : w.heap.size = T at *
  replace hTe := Lib.hid hTe
  refine wp_region_any (by kernel_rfl) (wpAny_inv (RI8 T f w) ?step ?fin _ _ _ _ ?cnt ?init)
  case cnt => exact Nat.le_of_eq (by rfl)
  case init => exact ⟨by simp, _, _, _, _, _, _, _, rfl, hS.out.drew, ⟨_, hZ.out.drew, rfl⟩, hB.out.drew, fun h => repl_no h, fun h => repl_no h, fun h => repl_no h, fun h => repl_no h, fun h => repl_no h, fun h => repl_no h, fun h => repl_no h, fun h => repl_no h⟩
  case fin =>
    intro listed a W2 hI hr
    obtain ⟨hsz, t5, s0, s1, s2, s3, s4, s5, rfl, hX2, hZ2, hB2, f0, f1, f2, f3, f4, f5, f6, f7⟩ := hI
    have l0 := all_listed hr hsz (i := 0) rfl (by intro e he hb; simp at he; first | done | (rcases he with rfl; exact absurd hb (by decide)))
    have l1 := all_listed hr hsz (i := 1) rfl (by intro e he hb; simp at he; first | done | (rcases he with rfl; exact absurd hb (by decide)))
    have l2 := all_listed hr hsz (i := 2) rfl (by intro e he hb; simp at he; rcases he with rfl | rfl <;> first | exact absurd hb (by decide) | exact l1)
    have l3 := all_listed hr hsz (i := 3) rfl (by intro e he hb; simp at he; first | done | (rcases he with rfl; exact absurd hb (by decide)))
    have l4 := all_listed hr hsz (i := 4) rfl (by intro e he hb; simp at he; rcases he with rfl | rfl | rfl <;> first | exact absurd hb (by decide) | exact l2 | exact l3)
    have l5 := all_listed hr hsz (i := 5) rfl (by intro e he hb; simp at he; rcases he with rfl | rfl <;> first | exact absurd hb (by decide) | exact l4)
    have l6 := all_listed hr hsz (i := 6) rfl (by intro e he hb; simp at he; rcases he with rfl | rfl | rfl | rfl | rfl | rfl | rfl <;> first | exact absurd hb (by decide) | exact l0 | exact l1 | exact l2 | exact l3 | exact l4 | exact l5)
    have l7 := all_listed hr hsz (i := 7) rfl (by intro e he hb; simp at he; rcases he with rfl | rfl | rfl | rfl | rfl | rfl | rfl | rfl | rfl <;> first | exact absurd hb (by decide) | exact l0 | exact l1 | exact l2 | exact l3 | exact l4 | exact l5 | exact l6)
    obtain rfl := f7 l7
    have hW2 := Lib.hid (f6 l6)
    have hB3 := Lib.hid hB2
    clear hX2 hZ2 hB2 f0 f1 f2 f3 f4 f5 f6 f7 hr hsz l0 l1 l2 l3 l4 l5 l6 l7 hS hZ hB
    go_wp2_with fail
    exact bodyPost_ret (results_cell_tmp (fn := Tryd.f12) (p1 := 4) (p2 := 5) (ty1 := 30) rfl _ _ _ _ _ (0, 0) _ _ rfl hW2.out Tryd.underlying30 rfl (by kernel_rfl) rfl) rfl ⟨rfl, by rw [hTe.out]; exact hB3.out⟩
  case step =>
    intro listed a W2 i hI hi
    obtain ⟨hsz, t5, s0, s1, s2, s3, s4, s5, rfl, hX2, hZ2, hB2, f0, f1, f2, f3, f4, f5, f6, f7⟩ := hI
    obtain ⟨hun, oo, ho, hall⟩ := mem_ready.1 hi
    have hi8 : i < 8 := (Array.getElem?_eq_some_iff.1 ho).1
    clear hS hZ hB
    have hcs : i = 0 ∨ i = 1 ∨ i = 2 ∨ i = 3 ∨ i = 4 ∨ i = 5 ∨ i = 6 ∨ i = 7 := by omega
    have w0 : IntKind.u8.wrap 0 = 0 := by decide
    have w1 : IntKind.u8.wrap 1 = 1 := by decide
    have w2 : IntKind.u8.wrap 2 = 2 := by decide
    have w3 : IntKind.u8.wrap 3 = 3 := by decide
    rcases hcs with rfl | rfl | rfl | rfl | rfl | rfl | rfl | rfl
    · injection ho with ho
      subst ho
      refine wpOp_step rfl ?_
      intro K1 hK1
      refine oper_load 30 _ rfl _ _ rfl (load_doc hX2) ?_
      exact hK1 _ _ ⟨by simp [hsz], _, _, _, _, _, _, _, rfl, hX2, hZ2, hB2, fun _ => rfl, fun h => f1 (keep_at (by decide) h), fun h => f2 (keep_at (by decide) h), fun h => f3 (keep_at (by decide) h), fun h => f4 (keep_at (by decide) h), fun h => f5 (keep_at (by decide) h), fun h => f6 (keep_at (by decide) h), fun h => f7 (keep_at (by decide) h)⟩
    · injection ho with ho
      subst ho
      refine wpOp_step rfl ?_
      intro K1 hK1
      replace hK1 := Lib.hid hK1
      replace hX2 := Lib.hid hX2
      replace hZ2 := Lib.hid hZ2
      replace hB2 := Lib.hid hB2
      go_wp2_with fail
      exact hK1.out _ _ ⟨by simp [hsz], _, _, _, _, _, _, _, rfl, hX2.out, hZ2.out, hB2.out, fun h => f0 (keep_at (by decide) h), fun _ => rfl, fun h => f2 (keep_at (by decide) h), fun h => f3 (keep_at (by decide) h), fun h => f4 (keep_at (by decide) h), fun h => f5 (keep_at (by decide) h), fun h => f6 (keep_at (by decide) h), fun h => f7 (keep_at (by decide) h)⟩
    · injection ho with ho
      subst ho
      have d1 := hall { on := 1, ground := .data } (by simp) rfl
      obtain rfl := f1 d1
      refine wpOp_step rfl ?_
      intro K1 hK1
      replace hK1 := Lib.hid hK1
      replace hX2 := Lib.hid hX2
      replace hZ2 := Lib.hid hZ2
      replace hB2 := Lib.hid hB2
      go_wp2_with fail
      exact hK1.out _ _ ⟨by simp [hsz], _, _, _, _, _, _, _, rfl, hX2.out, hZ2.out, hB2.out, fun h => f0 (keep_at (by decide) h), fun _ => rfl, fun _ => rfl, fun h => f3 (keep_at (by decide) h), fun h => f4 (keep_at (by decide) h), fun h => f5 (keep_at (by decide) h), fun h => f6 (keep_at (by decide) h), fun h => f7 (keep_at (by decide) h)⟩
    · injection ho with ho
      subst ho
      refine wpOp_step rfl ?_
      intro K1 hK1
      replace hK1 := Lib.hid hK1
      replace hX2 := Lib.hid hX2
      replace hZ2 := Lib.hid hZ2
      replace hB2 := Lib.hid hB2
      go_wp2_with fail
      exact hK1.out _ _ ⟨by simp [hsz], _, _, _, _, _, _, _, rfl, hX2.out, hZ2.out, hB2.out, fun h => f0 (keep_at (by decide) h), fun h => f1 (keep_at (by decide) h), fun h => f2 (keep_at (by decide) h), fun _ => rfl, fun h => f4 (keep_at (by decide) h), fun h => f5 (keep_at (by decide) h), fun h => f6 (keep_at (by decide) h), fun h => f7 (keep_at (by decide) h)⟩
    · injection ho with ho
      subst ho
      have d3 := hall { on := 3, ground := .data } (by simp) rfl
      obtain rfl := f3 d3
      have d2 := hall { on := 2, ground := .data } (by simp) rfl
      obtain rfl := f2 d2
      refine wpOp_step rfl ?_
      intro K1 hK1
      replace hK1 := Lib.hid hK1
      replace hX2 := Lib.hid hX2
      replace hZ2 := Lib.hid hZ2
      replace hB2 := Lib.hid hB2
      go_wp2_with fail
      exact hK1.out _ _ ⟨by simp [hsz], _, _, _, _, _, _, _, rfl, hX2.out, hZ2.out, hB2.out, fun h => f0 (keep_at (by decide) h), fun h => f1 (keep_at (by decide) h), fun _ => rfl, fun _ => rfl, fun _ => rfl, fun h => f5 (keep_at (by decide) h), fun h => f6 (keep_at (by decide) h), fun h => f7 (keep_at (by decide) h)⟩
    · injection ho with ho
      subst ho
      have d4 := hall { on := 4, ground := .data } (by simp) rfl
      obtain rfl := f4 d4
      refine wpOp_step rfl ?_
      intro K1 hK1
      have cx := (hX2.cell 24).trans hdx.out
      replace hK1 := Lib.hid hK1
      replace hX2 := Lib.hid hX2
      replace hZ2 := Lib.hid hZ2
      replace hB2 := Lib.hid hB2
      go_wp2_with fail
      exact hK1.out _ _ ⟨by simp [hsz], _, _, _, _, _, _, _, rfl, hX2.out, hZ2.out, hB2.out, fun h => f0 (keep_at (by decide) h), fun h => f1 (keep_at (by decide) h), fun h => f2 (keep_at (by decide) h), fun h => f3 (keep_at (by decide) h), fun _ => rfl, fun _ => rfl, fun h => f6 (keep_at (by decide) h), fun h => f7 (keep_at (by decide) h)⟩
    · injection ho with ho
      subst ho
      have d0 := hall { on := 0, ground := .data } (by simp) rfl
      obtain rfl := f0 d0
      refine wpOp_step rfl ?_
      intro K1 hK1
      obtain ⟨ds, hds, hsd⟩ := hZ2
      obtain ⟨hst, hZ3⟩ := store_doc f hds hsd
      have hX3 := setRow_other (cs := docC f) hX2 (show T ≠ T + 1 by omega)
      have hB3 := below_setRow (cs := docC f) hB2 (show T ≤ T + 1 by omega)
      refine oper_store 30 _ _ rfl _ _ rfl rfl hst ?_
      exact hK1 _ _ ⟨by simp [hsz], _, _, _, _, _, _, _, rfl, hX3, ⟨_, hZ3, rfl⟩, hB3, fun _ => rfl, fun h => f1 (keep_at (by decide) h), fun h => f2 (keep_at (by decide) h), fun h => f3 (keep_at (by decide) h), fun h => f4 (keep_at (by decide) h), fun h => f5 (keep_at (by decide) h), fun _ => hZ3, fun h => f7 (keep_at (by decide) h)⟩
    · injection ho with ho
      subst ho
      have d5 := hall { on := 5, ground := .data } (by simp) rfl
      obtain rfl := f5 d5
      refine wpOp_step rfl ?_
      intro K1 hK1
      replace hK1 := Lib.hid hK1
      replace hX2 := Lib.hid hX2
      replace hZ2 := Lib.hid hZ2
      replace hB2 := Lib.hid hB2
      go_wp2_with fail
      exact hK1.out _ _ ⟨by simp [hsz], _, _, _, _, _, _, _, rfl, hX2.out, hZ2.out, hB2.out, fun h => f0 (keep_at (by decide) h), fun h => f1 (keep_at (by decide) h), fun h => f2 (keep_at (by decide) h), fun h => f3 (keep_at (by decide) h), fun h => f4 (keep_at (by decide) h), fun _ => rfl, fun h => f6 (keep_at (by decide) h), fun _ => rfl⟩
def RI9 (T : Nat) (f : Nat → Nat) (w0 : World) (listed : Array Bool) (a : Act) (w : World) : Prop :=
  listed.size = 8 ∧ ∃ t5 s0 s1 s2 s3 s4 s5 : Value, a = { tmps := List.toArray (.agg (docC f) :: .int .u8 9 :: .pointer (some ⟨T, 0, none⟩) :: undef :: .pointer (some ⟨T + 1, 0, none⟩) :: t5 :: undef :: .int .u8 9 :: .bool true :: .bool true :: .int .u8 9 :: .bool false :: .bool false :: undef :: undef :: undef :: undef :: undef :: undef :: .int .u8 9 :: .bool false :: .bool false :: .int .u8 9 :: .bool true :: .bool true :: s0 :: s1 :: s2 :: s3 :: s4 :: s5 :: undef :: undef :: undef :: undef :: undef :: undef :: undef :: undef :: undef :: undef :: undef :: undef :: undef :: undef :: undef :: undef :: undef :: undef :: undef :: []), defers := [] } ∧ Whole w T 30 (docC f) ∧ (∃ ds, Whole w (T + 1) 30 ds ∧ ds.size = 26) ∧ Below T w0 w ∧
    (listed.getD 0 false = true → s0 = .agg (docC f)) ∧
    (listed.getD 1 false = true → s1 = .int .u8 9) ∧
    (listed.getD 2 false = true → s2 = .int .u8 1) ∧
    (listed.getD 3 false = true → s3 = .pointer (some ⟨T, 24, none⟩)) ∧
    (listed.getD 4 false = true → s4 = .pointer (some ⟨T, 25, none⟩)) ∧
    (listed.getD 5 false = true → s5 = .int .u8 (f 22 : Nat)) ∧
    (listed.getD 6 false = true → Whole w (T + 1) 30 (docC f)) ∧
    (listed.getD 7 false = true → t5 = .int .u8 (f 22 : Nat))
theorem rread_9 {f : Nat → Nat} (w : World) : Calls Tryd.prog 12 #[.agg (docC f), .int .u8 9] w fun e w' => e = .returned (.tuple #[.agg (docC f), .int .u8 (f 22 : Nat)]) ∧ Below w.heap.size w w' := by
  have hS := (Whole.fresh w 30 (docC f)).alloc (.cells docZ 30)
  have hZ := Whole.fresh (w.alloc (.cells (docC f) 30)) 30 docZ
  rw [alloc_size] at hZ
  have hB := ((Below.refl w.heap.size w).alloc (Nat.le_refl _) (.cells (docC f) 30)).alloc (by rw [alloc_size]; exact Nat.le_succ _) (.cells docZ 30)
  unfold docZ at hS hZ hB
  have hdx : (docC f)[25]? = some (.int .u8 (f 22 : Nat)) := rfl
  replace hS := Lib.hid hS
  replace hZ := Lib.hid hZ
  replace hB := Lib.hid hB
  replace hdx := Lib.hid hdx
  go_enter Tryd.func12, Tryd.ntmps12
  go_upto_region 4 with (fail)
  generalize (w.alloc (.cells (docC f) 30)).alloc (.cells #[.bool false, .bool false, .bool false, .bool false, .int .i64 0, .int .i64 0, .int .i64 0, .int .i64 0, .int .i64 0, .int .i64 0, .int .i64 0, .int .i64 0, .int .i64 0, .int .i64 0, .int .i64 0, .int .i64 0, .int .u8 0, .int .u8 0, .int .u8 0, .int .u8 0, .int .u8 0, .int .u8 0, .int .u8 0, .int .u8 0, .int .u8 0, .int .u8 0] 30) = W at *
  generalize hTe : w.heap.size = T at *
  replace hTe := Lib.hid hTe
  refine wp_region_any (by kernel_rfl) (wpAny_inv (RI9 T f w) ?step ?fin _ _ _ _ ?cnt ?init)
  case cnt => exact Nat.le_of_eq (by rfl)
  case init => exact ⟨by simp, _, _, _, _, _, _, _, rfl, hS.out.drew, ⟨_, hZ.out.drew, rfl⟩, hB.out.drew, fun h => repl_no h, fun h => repl_no h, fun h => repl_no h, fun h => repl_no h, fun h => repl_no h, fun h => repl_no h, fun h => repl_no h, fun h => repl_no h⟩
  case fin =>
    intro listed a W2 hI hr
    obtain ⟨hsz, t5, s0, s1, s2, s3, s4, s5, rfl, hX2, hZ2, hB2, f0, f1, f2, f3, f4, f5, f6, f7⟩ := hI
    have l0 := all_listed hr hsz (i := 0) rfl (by intro e he hb; simp at he; first | done | (rcases he with rfl; exact absurd hb (by decide)))
    have l1 := all_listed hr hsz (i := 1) rfl (by intro e he hb; simp at he; first | done | (rcases he with rfl; exact absurd hb (by decide)))
    have l2 := all_listed hr hsz (i := 2) rfl (by intro e he hb; simp at he; rcases he with rfl | rfl <;> first | exact absurd hb (by decide) | exact l1)
    have l3 := all_listed hr hsz (i := 3) rfl (by intro e he hb; simp at he; first | done | (rcases he with rfl; exact absurd hb (by decide)))
    have l4 := all_listed hr hsz (i := 4) rfl (by intro e he hb; simp at he; rcases he with rfl | rfl | rfl <;> first | exact absurd hb (by decide) | exact l2 | exact l3)
    have l5 := all_listed hr hsz (i := 5) rfl (by intro e he hb; simp at he; rcases he with rfl | rfl <;> first | exact absurd hb (by decide) | exact l4)
    have l6 := all_listed hr hsz (i := 6) rfl (by intro e he hb; simp at he; rcases he with rfl | rfl | rfl | rfl | rfl | rfl | rfl <;> first | exact absurd hb (by decide) | exact l0 | exact l1 | exact l2 | exact l3 | exact l4 | exact l5)
    have l7 := all_listed hr hsz (i := 7) rfl (by intro e he hb; simp at he; rcases he with rfl | rfl | rfl | rfl | rfl | rfl | rfl | rfl | rfl <;> first | exact absurd hb (by decide) | exact l0 | exact l1 | exact l2 | exact l3 | exact l4 | exact l5 | exact l6)
    obtain rfl := f7 l7
    have hW2 := Lib.hid (f6 l6)
    have hB3 := Lib.hid hB2
    clear hX2 hZ2 hB2 f0 f1 f2 f3 f4 f5 f6 f7 hr hsz l0 l1 l2 l3 l4 l5 l6 l7 hS hZ hB
    go_wp2_with fail
    exact bodyPost_ret (results_cell_tmp (fn := Tryd.f12) (p1 := 4) (p2 := 5) (ty1 := 30) rfl _ _ _ _ _ (0, 0) _ _ rfl hW2.out Tryd.underlying30 rfl (by kernel_rfl) rfl) rfl ⟨rfl, by rw [hTe.out]; exact hB3.out⟩
  case step =>
    intro listed a W2 i hI hi
    obtain ⟨hsz, t5, s0, s1, s2, s3, s4, s5, rfl, hX2, hZ2, hB2, f0, f1, f2, f3, f4, f5, f6, f7⟩ := hI
    obtain ⟨hun, oo, ho, hall⟩ := mem_ready.1 hi
    have hi8 : i < 8 := (Array.getElem?_eq_some_iff.1 ho).1
    clear hS hZ hB
    have hcs : i = 0 ∨ i = 1 ∨ i = 2 ∨ i = 3 ∨ i = 4 ∨ i = 5 ∨ i = 6 ∨ i = 7 := by omega
    have w0 : IntKind.u8.wrap 0 = 0 := by decide
    have w1 : IntKind.u8.wrap 1 = 1 := by decide
    have w2 : IntKind.u8.wrap 2 = 2 := by decide
    have w3 : IntKind.u8.wrap 3 = 3 := by decide
    rcases hcs with rfl | rfl | rfl | rfl | rfl | rfl | rfl | rfl
    · injection ho with ho
      subst ho
      refine wpOp_step rfl ?_
      intro K1 hK1
      refine oper_load 30 _ rfl _ _ rfl (load_doc hX2) ?_
      exact hK1 _ _ ⟨by simp [hsz], _, _, _, _, _, _, _, rfl, hX2, hZ2, hB2, fun _ => rfl, fun h => f1 (keep_at (by decide) h), fun h => f2 (keep_at (by decide) h), fun h => f3 (keep_at (by decide) h), fun h => f4 (keep_at (by decide) h), fun h => f5 (keep_at (by decide) h), fun h => f6 (keep_at (by decide) h), fun h => f7 (keep_at (by decide) h)⟩
    · injection ho with ho
      subst ho
      refine wpOp_step rfl ?_
      intro K1 hK1
      replace hK1 := Lib.hid hK1
      replace hX2 := Lib.hid hX2
      replace hZ2 := Lib.hid hZ2
      replace hB2 := Lib.hid hB2
      go_wp2_with fail
      exact hK1.out _ _ ⟨by simp [hsz], _, _, _, _, _, _, _, rfl, hX2.out, hZ2.out, hB2.out, fun h => f0 (keep_at (by decide) h), fun _ => rfl, fun h => f2 (keep_at (by decide) h), fun h => f3 (keep_at (by decide) h), fun h => f4 (keep_at (by decide) h), fun h => f5 (keep_at (by decide) h), fun h => f6 (keep_at (by decide) h), fun h => f7 (keep_at (by decide) h)⟩
    · injection ho with ho
      subst ho
      have d1 := hall { on := 1, ground := .data } (by simp) rfl
      obtain rfl := f1 d1
      refine wpOp_step rfl ?_
      intro K1 hK1
      replace hK1 := Lib.hid hK1
      replace hX2 := Lib.hid hX2
      replace hZ2 := Lib.hid hZ2
      replace hB2 := Lib.hid hB2
      go_wp2_with fail
      exact hK1.out _ _ ⟨by simp [hsz], _, _, _, _, _, _, _, rfl, hX2.out, hZ2.out, hB2.out, fun h => f0 (keep_at (by decide) h), fun _ => rfl, fun _ => rfl, fun h => f3 (keep_at (by decide) h), fun h => f4 (keep_at (by decide) h), fun h => f5 (keep_at (by decide) h), fun h => f6 (keep_at (by decide) h), fun h => f7 (keep_at (by decide) h)⟩
    · injection ho with ho
      subst ho
      refine wpOp_step rfl ?_
      intro K1 hK1
      replace hK1 := Lib.hid hK1
      replace hX2 := Lib.hid hX2
      replace hZ2 := Lib.hid hZ2
      replace hB2 := Lib.hid hB2
      go_wp2_with fail
      exact hK1.out _ _ ⟨by simp [hsz], _, _, _, _, _, _, _, rfl, hX2.out, hZ2.out, hB2.out, fun h => f0 (keep_at (by decide) h), fun h => f1 (keep_at (by decide) h), fun h => f2 (keep_at (by decide) h), fun _ => rfl, fun h => f4 (keep_at (by decide) h), fun h => f5 (keep_at (by decide) h), fun h => f6 (keep_at (by decide) h), fun h => f7 (keep_at (by decide) h)⟩
    · injection ho with ho
      subst ho
      have d3 := hall { on := 3, ground := .data } (by simp) rfl
      obtain rfl := f3 d3
      have d2 := hall { on := 2, ground := .data } (by simp) rfl
      obtain rfl := f2 d2
      refine wpOp_step rfl ?_
      intro K1 hK1
      replace hK1 := Lib.hid hK1
      replace hX2 := Lib.hid hX2
      replace hZ2 := Lib.hid hZ2
      replace hB2 := Lib.hid hB2
      go_wp2_with fail
      exact hK1.out _ _ ⟨by simp [hsz], _, _, _, _, _, _, _, rfl, hX2.out, hZ2.out, hB2.out, fun h => f0 (keep_at (by decide) h), fun h => f1 (keep_at (by decide) h), fun _ => rfl, fun _ => rfl, fun _ => rfl, fun h => f5 (keep_at (by decide) h), fun h => f6 (keep_at (by decide) h), fun h => f7 (keep_at (by decide) h)⟩
    · injection ho with ho
      subst ho
      have d4 := hall { on := 4, ground := .data } (by simp) rfl
      obtain rfl := f4 d4
      refine wpOp_step rfl ?_
      intro K1 hK1
      have cx := (hX2.cell 25).trans hdx.out
      replace hK1 := Lib.hid hK1
      replace hX2 := Lib.hid hX2
      replace hZ2 := Lib.hid hZ2
      replace hB2 := Lib.hid hB2
      go_wp2_with fail
      exact hK1.out _ _ ⟨by simp [hsz], _, _, _, _, _, _, _, rfl, hX2.out, hZ2.out, hB2.out, fun h => f0 (keep_at (by decide) h), fun h => f1 (keep_at (by decide) h), fun h => f2 (keep_at (by decide) h), fun h => f3 (keep_at (by decide) h), fun _ => rfl, fun _ => rfl, fun h => f6 (keep_at (by decide) h), fun h => f7 (keep_at (by decide) h)⟩
    · injection ho with ho
      subst ho
      have d0 := hall { on := 0, ground := .data } (by simp) rfl
      obtain rfl := f0 d0
      refine wpOp_step rfl ?_
      intro K1 hK1
      obtain ⟨ds, hds, hsd⟩ := hZ2
      obtain ⟨hst, hZ3⟩ := store_doc f hds hsd
      have hX3 := setRow_other (cs := docC f) hX2 (show T ≠ T + 1 by omega)
      have hB3 := below_setRow (cs := docC f) hB2 (show T ≤ T + 1 by omega)
      refine oper_store 30 _ _ rfl _ _ rfl rfl hst ?_
      exact hK1 _ _ ⟨by simp [hsz], _, _, _, _, _, _, _, rfl, hX3, ⟨_, hZ3, rfl⟩, hB3, fun _ => rfl, fun h => f1 (keep_at (by decide) h), fun h => f2 (keep_at (by decide) h), fun h => f3 (keep_at (by decide) h), fun h => f4 (keep_at (by decide) h), fun h => f5 (keep_at (by decide) h), fun _ => hZ3, fun h => f7 (keep_at (by decide) h)⟩
    · injection ho with ho
      subst ho
      have d5 := hall { on := 5, ground := .data } (by simp) rfl
      obtain rfl := f5 d5
      refine wpOp_step rfl ?_
      intro K1 hK1
      replace hK1 := Lib.hid hK1
      replace hX2 := Lib.hid hX2
      replace hZ2 := Lib.hid hZ2
      replace hB2 := Lib.hid hB2
      go_wp2_with fail
      exact hK1.out _ _ ⟨by simp [hsz], _, _, _, _, _, _, _, rfl, hX2.out, hZ2.out, hB2.out, fun h => f0 (keep_at (by decide) h), fun h => f1 (keep_at (by decide) h), fun h => f2 (keep_at (by decide) h), fun h => f3 (keep_at (by decide) h), fun h => f4 (keep_at (by decide) h), fun _ => rfl, fun h => f6 (keep_at (by decide) h), fun _ => rfl⟩
end Go.Proofs.YtbdhdedlemndeaaDoor
