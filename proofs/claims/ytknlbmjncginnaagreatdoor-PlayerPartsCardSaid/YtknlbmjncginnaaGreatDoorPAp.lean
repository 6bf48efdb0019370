/-
  Accesses put behind accesses.
-/
import Derived.Test.YtknlbmjncginnaaGreatDoorPMv
import Derived.Laws.OwnMore
namespace Go.Proofs.YtknlbmjncginnaaGreatDoor
open Go.RowKit Go.Shelf
set_option maxRecDepth 100000
set_option maxHeartbeats 1000000
set_option linter.unusedVariables false
set_option linter.unusedSimpArgs false

theorem accX_length (l : List Ac) : (accX l).length = l.length * 3 := by
  induction l with
  | nil => rfl
  | cons x t ih =>
    have e : accX (x :: t) = .int .u8 (x.1 : Nat) :: .int .u32 (x.2.1 : Nat) :: .int .u8 (x.2.2 : Nat) :: accX t := rfl
    rw [e]
    simp only [List.length_cons, ih]
    omega
theorem accX_one (l : List Ac) : ∀ v ∈ accX l, v.oneCell' = true := by
  induction l with
  | nil => intro v hv; cases hv
  | cons x t ih =>
    intro v hv
    have e : accX (x :: t) = .int .u8 (x.1 : Nat) :: .int .u32 (x.2.1 : Nat) :: .int .u8 (x.2.2 : Nat) :: accX t := rfl
    rw [e] at hv
    rcases List.mem_cons.1 hv with rfl | hv
    · rfl
    rcases List.mem_cons.1 hv with rfl | hv
    · rfl
    rcases List.mem_cons.1 hv with rfl | hv
    · rfl
    exact ih v hv
theorem accX_append (l m : List Ac) : accX (l ++ m) = accX l ++ accX m := by simp [accX]
theorem app_accs (W : World) (ty : TypeId) (sv : Value) (l l2 : List Ac) (B g n2 c : Nat) (ho : W.ownsRow B 42 3 sv l.length (accX l)) (hB : B ≤ W.heap.size) (hA : ARow W (some ⟨g, 0, none⟩) l2) (hn : l2.length = n2) (hb : l.length + n2 ≤ 100000) :
    ∃ a c' W', (Builtin.append_ #[26, 26] ty #[sv, .slice (some ⟨g, 0, none⟩) n2 c]).run Tryz.prog W = .ok (.slice a (l.length + n2) c') W' ∧ W'.ownsRow B 42 3 (.slice a (l.length + n2) c') (l ++ l2).length (accX (l ++ l2)) ∧ W.grownBy W' sv.ownBlock ∧ ((Value.slice a (l.length + n2) c').ownBlock = sv.ownBlock ∨ (Value.slice a (l.length + n2) c').ownBlock = some W.heap.size) := by
  obtain ⟨i0, hi, hz0, hz1, hz2⟩ := info_parts acc_info
  by_cases h0 : n2 = 0
  · subst h0
    have e2 : l2 = [] := List.length_eq_zero_iff.1 hn
    subst e2
    have hld := run_loadCells_list (P := Tryz.prog) W ⟨g, 0, none⟩ [] (fun j v hv => by simp at hv)
    simp only [List.length_nil] at hld
    rcases ho.2 with ⟨rfl, hx⟩ | ⟨g', cap, cur, rfl, k1, k2, hnc, k4⟩
    · have hl : l.length = 0 := hx
      refine ⟨none, 0, W, ?_, ?_, ⟨rfl, rfl, rfl, Nat.le_refl _, fun _ _ _ => rfl⟩, .inl rfl⟩
      · rw [hl]
        simp [Builtin.append_, run_underlying Tryz.underlying26, sizeOf, typeInfo, hi, Builtin.lenOf, Builtin.firstCells, hld]
      · rw [List.append_nil, hl]; rw [hl] at ho; exact ho
    · refine ⟨some ⟨g', 0, none⟩, cap, W, ?_, ?_, ⟨rfl, rfl, rfl, Nat.le_refl _, fun _ _ _ => rfl⟩, .inl rfl⟩
      · simp [Builtin.append_, run_underlying Tryz.underlying26, sizeOf, typeInfo, hi, Builtin.lenOf, Builtin.firstCells, hnc, hld, storeCells]
      · rw [List.append_nil]; exact ho
  · have hsrc : ∀ j v, (accX l2)[j]? = some v → W.cell? ((⟨g, 0, none⟩ : Addr).add j) = some v := by
      intro j v hv
      have hj : j < n2 * 3 := by rw [← hn, ← accX_length]; exact (List.getElem?_eq_some_iff.1 hv).1
      rw [Addr.add_lit, Nat.zero_add]
      obtain ⟨a1, a2, a3⟩ := accX_get l2 (j / 3) (by rw [hn]; omega)
      obtain ⟨c1, c2, c3⟩ := hA.at_ (j / 3) (by rw [hn]; omega)
      rcases (show j = j / 3 * 3 ∨ j = j / 3 * 3 + 1 ∨ j = j / 3 * 3 + 2 by omega) with e | e | e
      · rw [e] at hv ⊢; rw [c1, ← a1]; exact hv
      · rw [e] at hv ⊢; rw [c2, ← a2]; exact hv
      · rw [e] at hv ⊢; rw [c3, ← a3]; exact hv
    obtain ⟨g1, cap, W', h1, h2, h3, h4, h5⟩ := run_append_lies (P := Tryz.prog) W 26 ty B 42 i0 _ 3 12 Tryz.underlying26 hi hz0 hz1 hz2 rfl (by omega) sv l.length (accX l) ho ⟨g, 0, none⟩ n2 c (accX l2) (by rw [accX_length, hn]) hsrc (accX_one l2)
      (by omega) (by unfold maxLen; omega) (by omega) hB _ rfl
    rw [← accX_append] at h2
    refine ⟨some ⟨g1, 0, none⟩, cap, W', h1, by rw [List.length_append, hn]; exact h2, h3, ?_⟩
    rcases h4 with h4 | h4
    · exact .inl h4.symm
    · exact .inr (by rw [h4]; rfl)
end Go.Proofs.YtknlbmjncginnaaGreatDoor
