/-
  clock.ticksBehind, check and the small calls of a clock that is there.
-/
import Derived.Test.YtijcfpdcijpenaaAhead
namespace Go.Proofs.Ytijcfpdcijpenaa
open Go.RowKit Go.Shelf
set_option maxRecDepth 100000
set_option maxHeartbeats 1000000
set_option linter.unusedSimpArgs false

/-- Units by which thread i must go on, so that thread j is ahead of it. -/
def unitsOf (x y : Int) (i j : Nat) : Int := if i < j then y - x + 1 else y - x
def ticksOf (x y s : Int) (i j : Nat) : Int := min ((max (unitsOf x y i j) 0 + s - 1) / s) 1073741824

/-- The times are within their bounds. -/
def Timed (ts : List Int) : Prop := ∀ i : Nat, 0 ≤ ts[i]?.getD 0 ∧ ts[i]?.getD 0 ≤ 1152921504606846976

theorem ticks_any (i j : Nat) (w : World) {B c bt capT bm : Nat} {ss ts : List Int} (h : Clk w B c bt capT bm ss ts) (hg : Good ss) (ht : Timed ts) (hi : i < ss.length) (hj : j < ss.length) :
    Calls Try.prog 37 #[.pointer (some ⟨c, 0, none⟩), .int .i64 i, .int .i64 j] w fun e w' => e = .returned (.int .i64 (ticksOf (ts[i]?.getD 0) (ts[j]?.getD 0) (ss[i]?.getD 0) i j)) ∧ ∃ q, w' = w.drewN q := by
  have hn := hg.2.1
  have h0 := h.c0
  have h1 := h.c1
  have h2 := h.time hi
  have h3 := h.time hj
  have h4 := h.scl hi
  have hx := ht i
  have hy := ht j
  have hs : 1 ≤ ss[i]?.getD 0 ∧ ss[i]?.getD 0 ≤ 16777216 := by
    rw [List.getElem?_eq_getElem hi]; exact hg.2.2 _ (List.getElem_mem hi)
  generalize ts[i]?.getD 0 = x at *
  generalize ts[j]?.getD 0 = y at *
  generalize ss[i]?.getD 0 = s at *
  clear h ht hg
  obtain ⟨hx0, hx1⟩ := hx
  obtain ⟨hy0, hy1⟩ := hy
  obtain ⟨hs0, hs1⟩ := hs
  by_cases hij : (i : Int) < (j : Int)
  · go_enter Try.func37, Try.ntmps37
    go_wp2
    go_quiet (fail)
    go_wp2
    all_goals
      go_ret
      refine ⟨congrArg Ending.returned (congrArg (Value.int .i64) ?_), _, rfl⟩
      simp only [ticksOf, unitsOf, if_pos (show i < j by omega)]
      by_cases hu : y - x + 1 < 0
      · have e1 : (if y - x + 1 < 0 then (0 : Int) else y - x + 1) = 0 := if_pos hu
        have e2 : max (y - x + 1) 0 = 0 := Int.max_eq_right (by omega)
        simp only [e1, e2, Int.zero_add] at *
        omega
      · have e1 : (if y - x + 1 < 0 then (0 : Int) else y - x + 1) = y - x + 1 := if_neg hu
        have e2 : max (y - x + 1) 0 = y - x + 1 := Int.max_eq_left (by omega)
        simp only [e1, e2] at *
        omega
  · go_enter Try.func37, Try.ntmps37
    go_wp2
    go_quiet (fail)
    go_wp2
    all_goals
      go_ret
      refine ⟨congrArg Ending.returned (congrArg (Value.int .i64) ?_), _, rfl⟩
      simp only [ticksOf, unitsOf, if_neg (show ¬ i < j by omega)]
      by_cases hu : y - x < 0
      · have e1 : (if y - x < 0 then (0 : Int) else y - x) = 0 := if_pos hu
        have e2 : max (y - x) 0 = 0 := Int.max_eq_right (by omega)
        simp only [e1, e2, Int.zero_add] at *
        omega
      · have e1 : (if y - x < 0 then (0 : Int) else y - x) = y - x := if_neg hu
        have e2 : max (y - x) 0 = y - x := Int.max_eq_left (by omega)
        simp only [e1, e2] at *
        omega

theorem check_ok (i : Nat) (w : World) {B c bt capT bm : Nat} {ss ts : List Int} (h : Clk w B c bt capT bm ss ts) (hi : i < ss.length) :
    Calls Try.prog 30 #[.pointer (some ⟨c, 0, none⟩), .int .i64 i] w fun e w' => e = .returned (.int .i64 0) ∧ w = w' := by
  have h0 := h.c0
  clear h
  go_enter Try.func30, Try.ntmps30
  go_wp2
  go_ret
  exact ⟨rfl, rfl⟩
end Go.Proofs.Ytijcfpdcijpenaa
