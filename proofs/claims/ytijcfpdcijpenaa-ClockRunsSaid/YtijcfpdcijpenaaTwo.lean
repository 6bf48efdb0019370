/-
  The statements' own clock of two threads.
-/
import Derived.Test.YtijcfpdcijpenaaCalls
import Derived.Test.YtijcfpdcijpenaaRoom
namespace Go.Proofs.Ytijcfpdcijpenaa
open Go.RowKit Go.Shelf
set_option maxRecDepth 100000
set_option maxHeartbeats 1000000

theorem timed_zero (n : Nat) : Timed (List.replicate n 0) := by
  intro i
  by_cases h : i < n
  · simp [h]
  · rw [List.getElem?_eq_none (by simpa using h)]; simp

theorem two_any (w : World) : Calls Try.prog 21 #[] w fun e w' => e = .returned (.bool true) ∧ Below w.heap.size w w' := by
  have hg : Good [3, 5] := ⟨by simp, by simp, by simp⟩
  have HN := Lib.hid (new_good (some ⟨w.heap.size, 0, none⟩) 2 [3, 5] (w.alloc (.cells #[.int .i64 3, .int .i64 5] 2)) (Lies.whole (t := 2) (Whole.fresh _ _ _)) hg)
  have hB0 : Below w.heap.size w (w.alloc (.cells #[.int .i64 3, .int .i64 5] 2)) := (Below.refl _ _).alloc (Nat.le_refl _) _
  go_enter Try.func21, Try.ntmps21
  go_wp2_with fail
  refine HN.out.mono ?_
  rintro e w1 ⟨c, bt, capT, bm, rfl, hC, hB1⟩
  have hlow : w.heap.size ≤ bm := by have := hC.low.2; simp at this; omega
  have hB1' := hB0.trans (hB1.mono (by simp))
  clear HN hB1 hB0
  have HX := Lib.hid (next_any w1 hC hg)
  go_wp2_with fail
  refine HX.out.mono ?_
  rintro e w2 ⟨rfl, hB2⟩
  have hC2 := hC.below hB2
  have hB2' := hB1'.trans (hB2.mono hB1'.size)
  have v0 : Hid (best (List.replicate [(3 : Int), 5].length 0) [(3 : Int), 5].length = 0) := Lib.hid (by decide)
  rw [v0.out]
  clear hC HX hB2 hB1'
  have HA := Lib.hid (add_any 0 2 w2 hC2 hg (timed_zero _) (by simp) (by omega) (by omega))
  go_wp2_with fail
  refine HA.out.mono ?_
  rintro e w3 ⟨h1, _⟩
  obtain ⟨rfl, hC3, hB3⟩ := h1 (by decide)
  have hB3' := hB2'.trans (hB3.mono hlow)
  have e3 : (List.replicate [(3 : Int), 5].length (0 : Int)).set 0 ((List.replicate [(3 : Int), 5].length (0 : Int))[0]?.getD 0 + [(3 : Int), 5][0]?.getD 0 * 2) = [6, 0] := by decide
  rw [e3] at hC3
  clear e3 HA h1 hC2 hB3 hB2'
  have HY := Lib.hid (next_any w3 hC3 hg)
  go_wp2_with fail
  refine HY.out.mono ?_
  rintro e w4 ⟨rfl, hB4⟩
  have hC4 := hC3.below hB4
  have hB4' := hB3'.trans (hB4.mono hB3'.size)
  have v1 : Hid (best [(6 : Int), 0] [(3 : Int), 5].length = 1) := Lib.hid (by decide)
  rw [v1.out]
  clear hC3 HY hB4 hB3'
  have ht : Timed [6, 0] := by
    intro i
    match i with
    | 0 => simp
    | 1 => simp
    | i + 2 => simp
  have HR := Lib.hid (room_any 1 w4 hC4 hg ht (by simp))
  go_wp2_with fail
  refine HR.out.mono ?_
  rintro e w5 ⟨r, rfl, hr, hB5⟩
  have hB5' := hB4'.trans (hB5.mono hB4'.size)
  have er : r = 2 := by
    rcases hr with ⟨j, hj, hne, _, rfl⟩ | ⟨h, _⟩
    · obtain rfl : j = 0 := by simp at hj; omega
      decide
    · exact absurd (h 0 (by simp)) (by omega)
  subst er
  clear HR hr hC4
  go_wp2
  go_ret
  exact ⟨rfl, hB5'⟩
end Go.Proofs.Ytijcfpdcijpenaa
