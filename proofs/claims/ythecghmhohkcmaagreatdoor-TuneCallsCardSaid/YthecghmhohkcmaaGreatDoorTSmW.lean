/-
  Course of a few bytes whose outcome is known; the sums that the laws look at first.
-/
import Derived.Test.YthecghmhohkcmaaGreatDoorTSm
namespace Go.Proofs.YthecghmhohkcmaaGreatDoor
open Go.RowKit Go.Shelf
set_option maxRecDepth 100000
set_option maxHeartbeats 1000000
set_option linter.unusedVariables false

theorem Row.whole {w : World} {b : Nat} {t : TypeId} (xs : List Nat) (hx : ∀ x ∈ xs, x < 256) (h : Whole w b t (xs.map fun x => Value.int .u8 (x : Nat)).toArray) : Row w (some ⟨b, 0, none⟩) xs.length (fun i => xs.getD i 0) := by
  refine ⟨fun i hi => ?_, .inr ⟨b, 0, rfl, h.lt, fun i hi => ?_⟩⟩
  · show xs.getD i 0 < 256
    rw [List.getD_eq_getElem?_getD, List.getElem?_eq_getElem hi]
    exact hx _ (List.getElem_mem hi)
  · have h := h.cell i
    rw [Nat.zero_add, h]
    simp [hi]
theorem Row.fresh (w : World) (t : TypeId) (xs : List Nat) (hx : ∀ x ∈ xs, x < 256) : Row (w.alloc (.cells (xs.map fun x => Value.int .u8 (x : Nat)).toArray t)) (some ⟨w.heap.size, 0, none⟩) xs.length (fun i => xs.getD i 0) := Row.whole xs hx (Whole.fresh w t _)
theorem range_getD (xs : List Nat) : (List.range xs.length).map (fun i => xs.getD i 0) = xs := by
  apply List.ext_getElem
  · simp
  · intro i h1 h2
    simp at h1
    simp [h1]
theorem course_at (r r' : Rp) (x : Nat) (t : List Nat) (m n : Nat) (a : Option Addr) (c : Nat) (w : World) (hr : r.Ok) (hm : m = (x :: t).length) (hR : Row w a m (fun i => (x :: t).getD i 0)) (hc : m ≤ c) (hA : ∀ K, ActOk K x actM)
    (h2 : (go (runM actM r) [] ⟨none, x :: t⟩).2.2 = some ((), r')) (hl : (go (runM actM r) [] ⟨none, x :: t⟩).1.length = n) :
    Calls Tryz.prog 11 #[pegV r, .slice a m c] w fun e w' => (∃ la lc, e = .returned (.tuple #[.slice la n lc, .bool true, pegV r'])) ∧ Below w.heap.size w w' ∧ r'.Ok := by
  subst hm
  have e := range_getD (x :: t)
  refine (course_any actM r a _ c (fun i => (x :: t).getD i 0) w hr hR hc (fun K s1 c h => ?_)).mono ?_
  · rw [e] at h
    rw [fetch_seen h]
    exact hA K
  · intro en w' hp
    rw [e] at hp
    obtain ⟨s', lv, hb, ho, -, (⟨h, hok, rfl⟩ | ⟨h, rfl⟩)⟩ := hp
    · unfold Ran s0 at h
      dsimp only at h
      rw [h] at h2 hl
      injection h2 with h2
      injection h2 with _ h2
      subst h2
      dsimp only at hl
      subst hl
      obtain ⟨la, lc, rfl⟩ := row_slice ho
      exact ⟨⟨la, lc, rfl⟩, hb, hok⟩
    · unfold Gave s0 at h
      dsimp only at h
      rw [h] at h2
      cases h2
theorem r5ok : r5.Ok := ⟨by decide, by decide, by decide, by decide, by decide, by decide⟩
theorem sums_any (w : World) : Calls Tryz.prog 17 #[] w fun e w' => e = .returned (.bool true) ∧ Below w.heap.size w w' := by
  have hb0 := Lib.hid ((Below.refl w.heap.size w).alloc (Nat.le_refl _) (.cells #[.int .u8 136, .int .u8 255] 5))
  have hR : Row (w.alloc (.cells #[.int .u8 136, .int .u8 255] 5)) (some ⟨w.heap.size, 0, none⟩) 2 (fun i => [136, 255].getD i 0) := Row.fresh w 5 [136, 255] (by decide)
  have H1 : Calls Tryz.prog 11 #[.agg #[.int .u8 5, .int .u8 0, .int .u8 0, .int .u8 0, .int .u8 0, .int .u16 512, .bool false], .slice (some ⟨w.heap.size, 0, none⟩) 2 2] (w.alloc (.cells #[.int .u8 136, .int .u8 255] 5)) fun e w' =>
      (∃ la lc, e = .returned (.tuple #[.slice la 2 lc, .bool true, .agg #[.int .u8 4, .int .u8 0, .int .u8 0, .int .u8 0, .int .u8 9, .int .u16 514, .bool false]])) ∧ Below (w.alloc (.cells #[.int .u8 136, .int .u8 255] 5)).heap.size (w.alloc (.cells #[.int .u8 136, .int .u8 255] 5)) w' ∧ Rp.Ok ⟨4, 0, 0, 0, 9, 514, false⟩ :=
    course_at r5 ⟨4, 0, 0, 0, 9, 514, false⟩ 136 [255] 2 2 _ 2 _ r5ok rfl hR (by decide) ok136 (by rw [go136]) (by rw [go136]; rfl)
  replace H1 := Lib.hid H1
  clear hR
  have hw : w.heap.size ≤ (w.alloc (.cells #[.int .u8 136, .int .u8 255] 5)).heap.size := by simp
  go_enter Tryz.func17, Tryz.ntmps17
  go_wp2_with fail
  with_reducible refine H1.out.mono ?_
  rintro e W1 ⟨⟨la, lc, rfl⟩, hb1, -⟩
  replace hb1 := hb0.out.trans (hb1.mono hw)
  clear H1 hb0 hw
  go_wp2_with fail
  go_ret
  exact ⟨rfl, hb1.alloc hb1.size _⟩
end Go.Proofs.YthecghmhohkcmaaGreatDoor
