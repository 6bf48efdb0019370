/-
  CartWithin: the walk.
-/
import Derived.Test.YtggjaoihfhianaaPlacesWalk
namespace Go.Proofs.Ytggjaoihfhianaa.cartWithin
open Go.RowKit Go.Shelf
set_option maxRecDepth 100000
set_option maxHeartbeats 1000000
theorem lead_53 : lead 5 3 = 1 := lead_mod (by decide) (by decide) (by decide)
theorem lead_33 : lead 3 3 = 2 := by
  rw [lead_far (by decide) (by decide), show dn 3 = 2 from rfl, show (3 : Nat) % up 3 - 2 = 1 from rfl, lead_mod (by decide) (by decide) (by decide)]
  rfl
theorem start_any (w : World) : Calls Try.prog 12 #[.int .i64 5, .int .i64 3] w fun e w' => e = .returned (.int .i64 1) ∧ w' = w := by
  have h := codeN 5 3 w (by decide) (by decide) (by decide)
  rw [lead_53] at h
  exact h
theorem start2_any (w : World) : Calls Try.prog 12 #[.int .i64 3, .int .i64 3] w fun e w' => e = .returned (.int .i64 2) ∧ w' = w := by
  have h := codeN 3 3 w (by decide) (by decide) (by decide)
  rw [lead_33] at h
  exact h
theorem out (a0 a1 a2 : Int) (h : a0 < 0 ∨ a1 < 1 ∨ a1 > 1073741824 ∨ a0 > 1099511627776 ∨ a2 < 0 ∨ a2 > 1000) (w : World) :
    Calls Try.prog 5 #[.int .i64 a0, .int .i64 a1, .int .i64 a2] w fun e w' => e = .returned (.bool true) ∧ Below w.heap.size w w' := by
  have H1 := Lib.hid (start_any w)
  have H2 := Lib.hid (start2_any w)
  rcases (show a0 < 0 ∨ (0 ≤ a0 ∧ a1 < 1) ∨ (0 ≤ a0 ∧ 1 ≤ a1 ∧ a1 > 1073741824) ∨ (0 ≤ a0 ∧ 1 ≤ a1 ∧ a1 ≤ 1073741824 ∧ a0 > 1099511627776) ∨ (0 ≤ a0 ∧ 1 ≤ a1 ∧ a1 ≤ 1073741824 ∧ a0 ≤ 1099511627776 ∧ a2 < 0) ∨ (0 ≤ a0 ∧ 1 ≤ a1 ∧ a1 ≤ 1073741824 ∧ a0 ≤ 1099511627776 ∧ 0 ≤ a2 ∧ a2 > 1000) by omega) with h | ⟨h, h1⟩ | ⟨h, h1, h2⟩ | ⟨h, h1, h2, h3⟩ | ⟨h, h1, h2, h3, h4⟩ | ⟨h, h1, h2, h3, h4, h5⟩ <;>
  · go_enter Try.func5, Try.ntmps5
    go_wp2_with fail
    refine H1.out.mono ?_
    rintro e w' ⟨rfl, rfl⟩
    go_wp2_with fail
    refine H2.out.mono ?_
    rintro e w' ⟨rfl, rfl⟩
    go_wp2_with fail
    go_ret
    exact ⟨rfl, Below.refl _ _⟩
theorem ins (t s m : Nat) (hs0 : 1 ≤ s) (hs : s ≤ 1073741824) (ht : t ≤ 1099511627776) (hm : m ≤ 1000) (w : World) :
    Calls Try.prog 5 #[.int .i64 t, .int .i64 s, .int .i64 m] w fun e w' => e = .returned (.bool true) ∧ Below w.heap.size w w' := by
  have H1 := Lib.hid (start_any w)
  have H2 := Lib.hid (start2_any w)
  have hlt := lead_lt s t (by omega) (by omega)
  obtain ⟨l1, l2⟩ := up_le s (by omega) (by omega)
  have H3 := Lib.hid (codeN t s w (by omega) (by omega) (by omega))
  have H4 := codeN (lead t s) s w (by omega) (by omega) (by omega)
  rw [lead_below hlt] at H4
  replace H4 := Lib.hid H4
  have hmu : m * up s ≤ 1000 * 2147483648 := Nat.mul_le_mul hm (by omega)
  have H5 := codeN (t + m * up s) s w (by omega) (by omega) (by omega)
  rw [lead_same (t := t + m * up s) (u := t) (by omega) (by omega) (Nat.add_mul_mod_self_right _ _ _)] at H5
  obtain ⟨X, hX⟩ : ∃ X, m * up s = X := ⟨_, rfl⟩
  rw [hX] at H5 hmu
  replace H5 := Lib.hid H5
  have HX := Lib.hid hX
  clear hX
  have HW := Lib.hid (fun k h1' h2' => up_unique s k (by omega) (by omega) h1' h2')
  have hq : ¬ ((lead t s : Nat) : Int) < 0 := by omega
  have hb : t < s → t = lead t s := fun h => (lead_below h).symm
  generalize lead t s = p at *
  generalize up s = U at *
  by_cases hts : t < s
  · obtain rfl := hb hts
    clear hb
    go_enter Try.func5, Try.ntmps5
    go_wp2_with fail
    refine H1.out.mono ?_
    rintro e w' ⟨rfl, rfl⟩
    go_wp2_with fail
    refine H2.out.mono ?_
    rintro e w' ⟨rfl, rfl⟩
    go_wp2_with fail
    refine H3.out.mono ?_
    rintro e w' ⟨rfl, rfl⟩
    go_wp2_with fail
    refine H4.out.mono ?_
    rintro e w' ⟨rfl, rfl⟩
    go_wp2_with fail
    go_loop [8] (fun sw => ∃ W : Nat, 1 ≤ W ∧ W < 2 * s ∧ sw = .int .i64 W ∧ Hid (∃ k, W = 2 ^ k)) (fun sw => s - (intOf sw).toNat)
    case atStart => exact ⟨1, by omega, by omega, rfl, Lib.hid ⟨0, rfl⟩⟩
    case round =>
      obtain ⟨W, hW0, hW2, rfl, hk⟩ := hrel
      by_cases hlt2 : W < s
      · go_wp2_with fail
        obtain ⟨k, hk⟩ := hk.out
        refine ⟨⟨2 * W, by omega, by omega, by congr 1, Lib.hid ⟨k + 1, by rw [Nat.pow_succ, hk, Nat.mul_comm]⟩⟩, ?_⟩
        simp only [intOf]
        omega
      · obtain ⟨k, hk⟩ := hk.out
        have e := HW.out k (by omega) (by omega)
        obtain rfl : U = W := by omega
        clear hk e HW
        have hX : (m : Int) * (U : Int) = (X : Nat) := by rw [← HX.out, Int.natCast_mul]
        clear HX
        go_wp2_with (go_at_call 12; refine H5.out.mono ?_; rintro e w' ⟨rfl, rfl⟩)
        go_ret
        exact ⟨rfl, Below.refl _ _⟩
  · clear hb
    go_enter Try.func5, Try.ntmps5
    go_wp2_with fail
    refine H1.out.mono ?_
    rintro e w' ⟨rfl, rfl⟩
    go_wp2_with fail
    refine H2.out.mono ?_
    rintro e w' ⟨rfl, rfl⟩
    go_wp2_with fail
    refine H3.out.mono ?_
    rintro e w' ⟨rfl, rfl⟩
    go_wp2_with fail
    refine H4.out.mono ?_
    rintro e w' ⟨rfl, rfl⟩
    go_wp2_with fail
    go_loop [8] (fun sw => ∃ W : Nat, 1 ≤ W ∧ W < 2 * s ∧ sw = .int .i64 W ∧ Hid (∃ k, W = 2 ^ k)) (fun sw => s - (intOf sw).toNat)
    case atStart => exact ⟨1, by omega, by omega, rfl, Lib.hid ⟨0, rfl⟩⟩
    case round =>
      obtain ⟨W, hW0, hW2, rfl, hk⟩ := hrel
      by_cases hlt2 : W < s
      · go_wp2_with fail
        obtain ⟨k, hk⟩ := hk.out
        refine ⟨⟨2 * W, by omega, by omega, by congr 1, Lib.hid ⟨k + 1, by rw [Nat.pow_succ, hk, Nat.mul_comm]⟩⟩, ?_⟩
        simp only [intOf]
        omega
      · obtain ⟨k, hk⟩ := hk.out
        have e := HW.out k (by omega) (by omega)
        obtain rfl : U = W := by omega
        clear hk e HW
        have hX : (m : Int) * (U : Int) = (X : Nat) := by rw [← HX.out, Int.natCast_mul]
        clear HX
        go_wp2_with (go_at_call 12; refine H5.out.mono ?_; rintro e w' ⟨rfl, rfl⟩)
        go_ret
        exact ⟨rfl, Below.refl _ _⟩
theorem walk (a0 : Int) (a1 : Int) (a2 : Int) (w0 : (Lit.int .i64 a0).wf = true) (w1 : (Lit.int .i64 a1).wf = true) (w2 : (Lit.int .i64 a2).wf = true) (w : World) :
    Calls Try.prog 5 #[.int .i64 a0, .int .i64 a1, .int .i64 a2] w fun e w' => e = .returned (.bool true) ∧ Below w.heap.size w w' := by
  by_cases h : a0 < 0 ∨ a1 < 1 ∨ a1 > 1073741824 ∨ a0 > 1099511627776 ∨ a2 < 0 ∨ a2 > 1000
  · exact out a0 a1 a2 h w
  obtain ⟨t, rfl⟩ := Int.eq_ofNat_of_zero_le (show 0 ≤ a0 by omega)
  obtain ⟨s, rfl⟩ := Int.eq_ofNat_of_zero_le (show 0 ≤ a1 by omega)
  obtain ⟨m, rfl⟩ := Int.eq_ofNat_of_zero_le (show 0 ≤ a2 by omega)
  exact ins t s m (by omega) (by omega) (by omega) (by omega) w
end Go.Proofs.Ytggjaoihfhianaa.cartWithin
