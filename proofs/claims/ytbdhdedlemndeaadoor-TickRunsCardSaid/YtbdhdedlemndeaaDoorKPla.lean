/-
  Where the saved bytes stand: places, by the code.
-/
import Derived.Test.YtbdhdedlemndeaaDoorKMem
import Derived.Deep.AppendLies
import Derived.Deep.DeepCutAuto
import Derived.StillTailTactics
import Derived.OwnWalk
namespace Go.Proofs.YtbdhdedlemndeaaDoor
open Go.RowKit Go.Shelf
set_option maxRecDepth 100000
set_option maxHeartbeats 1000000
set_option linter.unusedVariables false

/-- The places of the first n bytes of block b. -/
def ptrs (b n : Nat) : List Value := (List.range n).map fun i => Value.pointer (some ⟨b, i, none⟩)
theorem ptr_info : (Tryd.prog.info? 101).map (fun i => (i.zero, i.size, i.bytes)) = some (some (.pointer none), 1, 8) := by kernel_rfl
theorem kinfo_parts {P : Program} {e : TypeId} {z : Value} {s b : Nat} (h : (P.info? e).map (fun i => (i.zero, i.size, i.bytes)) = some (some z, s, b)) : ∃ i, P.info? e = some i ∧ i.zero = some z ∧ i.size = s ∧ i.bytes = b := by
  obtain ⟨i, hi, he⟩ := Option.map_eq_some_iff.1 h
  simp only [Prod.mk.injEq] at he
  exact ⟨i, hi, he.1, he.2.1, he.2.2⟩
theorem app_ptr (W : World) (ty t : TypeId) (lv : Value) (n m X B c : Nat) (xs news : List Value) (ho : W.ownsRow B 101 1 lv n xs) (hX : Whole W X t news.toArray) (hl : news.length = m) (h1 : ∀ u ∈ news, u.oneCell' = true) (hm : 0 < m) (hb : n + m ≤ 1000) (hB : B ≤ W.heap.size) :
    ∃ lv' W', (Builtin.append_ #[99, 99] ty #[lv, .slice (some ⟨X, 0, none⟩) m c]).run Tryd.prog W = .ok lv' W' ∧ W'.ownsRow B 101 1 lv' (n + m) (xs ++ news) ∧ Below B W W' ∧ ∀ g t' cs, Whole W g t' cs → 101 ≠ t' → Whole W' g t' cs := by
  obtain ⟨i0, hi, hz0, hz1, hz2⟩ := kinfo_parts ptr_info
  obtain ⟨g, cap, W', h2, h3, h4, _, h5⟩ := run_append_lies (P := Tryd.prog) W 99 ty B 101 i0 _ 1 8 Tryd.underlying99 hi hz0 hz1 hz2 rfl (by decide) lv n xs ho ⟨X, 0, none⟩ m c news (by omega) (fun j u hu => World.news_of_block (cs := news.toArray) (t := t) (fr := (0, 0)) hX j u (by simpa using hu)) h1 hm (by unfold maxLen; omega) (by omega) hB _ rfl
  refine ⟨_, W', h2, h3, ⟨h4.os, h4.tape, h4.output, h4.size, fun k hk => h4.block k (Nat.lt_of_lt_of_le hk hB) (fun e => ?_)⟩, fun x t' cs hx hne => (h4.block x hx.lt (fun e => ?_)).trans hx⟩
  · rcases ho.2 with ⟨rfl, _⟩ | ⟨g', cap', cur, rfl, hg, _⟩
    · cases e
    · have : k = g' := by simpa [Value.ownBlock] using e
      omega
  · rcases ho.2 with ⟨rfl, _⟩ | ⟨g', cap', cur, rfl, hg, hh, _⟩
    · cases e
    · have : x = g' := by simpa [Value.ownBlock] using e
      subst this
      have hx' : W.heap[x]? = some (.cells cs t' (0, 0)) := hx
      rw [hx'] at hh
      injection hh with hh
      injection hh with _ h2
      exact hne h2.symm
theorem ptrs_add (b n : Nat) : ptrs b (n + 1) = ptrs b n ++ [Value.pointer (some ⟨b, n, none⟩)] := by simp [ptrs, List.range_succ]
theorem tplaces_any (b p : Nat) (w : World) : Calls Tryd.prog 75 #[.pointer (some ⟨b, p, none⟩)] w fun e w' => e = .returned (.agg #[.pointer (some ⟨b, p, none⟩), .pointer (some ⟨b, p + 1, none⟩), .pointer (some ⟨b, p + 2, none⟩), .pointer (some ⟨b, p + 3, none⟩)]) ∧ Below w.heap.size w w' := by
  have hT := (Whole.fresh w 107 #[.pointer none, .pointer none, .pointer none, .pointer none]).drew
  have hB := Lib.hid ((((((Below.refl w.heap.size w).alloc (Nat.le_refl _) (.cells #[.pointer none, .pointer none, .pointer none, .pointer none] 107)).drew.setCell (p := ⟨w.heap.size, 0, none⟩) (Nat.le_refl _) (.pointer (some ⟨b, p, none⟩))).setCell (p := ⟨w.heap.size, 1, none⟩) (Nat.le_refl _) (.pointer (some ⟨b, p + 1, none⟩))).setCell (p := ⟨w.heap.size, 2, none⟩) (Nat.le_refl _) (.pointer (some ⟨b, p + 2, none⟩))).setCell (p := ⟨w.heap.size, 3, none⟩) (Nat.le_refl _) (.pointer (some ⟨b, p + 3, none⟩)))
  have hW := ((((hT.put 0 (.pointer (some ⟨b, p, none⟩))).put 1 (.pointer (some ⟨b, p + 1, none⟩))).put 2 (.pointer (some ⟨b, p + 2, none⟩))).put 3 (.pointer (some ⟨b, p + 3, none⟩)))
  simp only [List.setIfInBounds_toArray, List.set_cons_zero, List.set_cons_succ] at hW
  replace hW := Lib.hid hW
  have t0 := hT.cell 0
  have f0 := hT.free 0
  have t1 := hT.cell 1
  have f1 := hT.free 1
  have t2 := hT.cell 2
  have f2 := hT.free 2
  have t3 := hT.cell 3
  have f3 := hT.free 3
  simp only [List.getElem?_toArray, List.getElem?_cons_zero, List.getElem?_cons_succ] at t0 t1 t2 t3
  clear hT
  obtain ⟨V, hV⟩ : ∃ V, (w.alloc (.cells #[.pointer none, .pointer none, .pointer none, .pointer none] 107)).drew = V := ⟨_, rfl⟩
  rw [hV] at t0 f0 t1 f1 t2 f2 t3 f3 hB hW
  obtain ⟨T, hT⟩ : ∃ T, w.heap.size = T := ⟨_, rfl⟩
  rw [hT] at t0 f0 t1 f1 t2 f2 t3 f3 hB hW
  replace hV := Lib.hid hV
  go_enter Tryd.func75, Tryd.ntmps75
  go_upto_region 1 with (fail)
  replace t0 := Lib.hid t0
  replace t1 := Lib.hid t1
  replace t2 := Lib.hid t2
  replace t3 := Lib.hid t3
  replace f0 := Lib.hid f0
  replace f1 := Lib.hid f1
  replace f2 := Lib.hid f2
  replace f3 := Lib.hid f3
  go_still_tail 13, (by kernel_rfl)
  show wpList _ _ _ _ _ (World.drew (w.alloc (.cells #[.pointer none, .pointer none, .pointer none, .pointer none] 107)))
  rw [hV.out]
  have t0 := t0.out
  have t1 := t1.out
  have t2 := t2.out
  have t3 := t3.out
  have f0 := f0.out
  have f1 := f1.out
  have f2 := f2.out
  have f3 := f3.out
  go_wp2_with fail
  exact bodyPost_ret (results_cell_row (fn := Tryd.f75) (p := 2) (ty := 107) rfl _ _ _ _ _ (0, 0) _ rfl hW.out Tryd.underlying107 rfl (by kernel_rfl)) rfl ⟨rfl, by rw [hT]; exact hB.out⟩
end Go.Proofs.YtbdhdedlemndeaaDoor
