/-
  CartPlaces: the walk.
-/
import Derived.Test.YtggjaoihfhianaaPlace
namespace Go.Proofs.Ytggjaoihfhianaa
open Go.RowKit Go.Shelf
set_option maxRecDepth 100000
set_option maxHeartbeats 1000000
theorem wf64 {x : Int} (h : (Lit.int .i64 x).wf = true) : -9223372036854775808 ≤ x ∧ x ≤ 9223372036854775807 := by
  simpa [Lit.wf, IntKind.min, IntKind.max, IntKind.signed, IntKind.bits] using h
theorem refI_any (t s : Int) (w : World) (ht : -9223372036854775808 ≤ t) (ht1 : t ≤ 9223372036854775807) (hs : -9223372036854775808 ≤ s) (hs1 : s ≤ 9223372036854775807) :
    Calls Try.prog 13 #[.int .i64 t, .int .i64 s] w fun e w' => e = .returned (.int .i64 (if t < 0 ∨ s < 1 then 0 else (lead t.toNat s.toNat : Nat))) ∧ w' = w := by
  by_cases h0 : t < 0
  · rw [if_pos (Or.inl h0)]
    go_enter Try.func13, Try.ntmps13
    go_wp2
    go_ret
    exact ⟨rfl, rfl⟩
  by_cases h1 : s < 1
  · rw [if_pos (Or.inr h1)]
    go_enter Try.func13, Try.ntmps13
    go_wp2
    go_ret
    exact ⟨rfl, rfl⟩
  rw [if_neg (by omega)]
  obtain ⟨t, rfl⟩ := Int.eq_ofNat_of_zero_le (show 0 ≤ t by omega)
  obtain ⟨s, rfl⟩ := Int.eq_ofNat_of_zero_le (show 0 ≤ s by omega)
  simp only [Int.toNat_natCast]
  exact ref_any s t w (by omega) (by omega) (by omega)
theorem codeN (t s : Nat) (w : World) (ht : t < 2 ^ 63) (h0 : 1 ≤ s) (h1 : s < 2 ^ 63) :
    Calls Try.prog 12 #[.int .i64 t, .int .i64 s] w fun e w' => e = .returned (.int .i64 (lead t s : Nat)) ∧ w' = w := by
  have h := code_any t s w (by omega) (by omega) (by omega) (by omega)
  rw [if_neg (by omega)] at h
  simp only [Int.toNat_natCast] at h
  exact h
namespace cartPlaces
theorem walk (a0 : Int) (a1 : Int) (w0 : (Lit.int .i64 a0).wf = true) (w1 : (Lit.int .i64 a1).wf = true) (w : World) :
    Calls Try.prog 4 #[.int .i64 a0, .int .i64 a1] w fun e w' => e = .returned (.bool true) ∧ Below w.heap.size w w' := by
  obtain ⟨p1, p2⟩ := wf64 w0
  obtain ⟨q1, q2⟩ := wf64 w1
  have H1 := code_any a0 a1 w p1 p2 q1 q2
  have H2 := refI_any a0 a1 w p1 p2 q1 q2
  generalize (if a0 < 0 ∨ a1 < 1 then 0 else ((lead a0.toNat a1.toNat : Nat) : Int)) = R at H1 H2
  replace H1 := Lib.hid H1
  replace H2 := Lib.hid H2
  go_enter Try.func4, Try.ntmps4
  go_wp2_with (first | (go_at_call 12; refine H1.out.mono ?_; rintro e w' ⟨rfl, rfl⟩) | (go_at_call 13; refine H2.out.mono ?_; rintro e w' ⟨rfl, rfl⟩))
  go_ret
  exact ⟨rfl, Below.refl _ _⟩
end cartPlaces
end Go.Proofs.Ytggjaoihfhianaa
