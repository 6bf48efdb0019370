/-
  Plain facts about who is ahead and how much room there is: no walk.
-/
import Derived.Test.YtijcfpdcijpenaaRoom
namespace Go.Proofs.Ytijcfpdcijpenaa
open Go.RowKit Go.Shelf

theorem ahd_trans {ts : List Int} {i j k : Nat} (h1 : ahd ts i j = true) (h2 : ahd ts j k = true) : ahd ts i k = true := by
  rw [ahd_iff] at *; omega
theorem ahd_asymm {ts : List Int} {i j : Nat} (h1 : ahd ts i j = true) : ahd ts j i = false := by
  rw [Bool.eq_false_iff, Ne, ahd_iff]; rw [ahd_iff] at h1; omega
theorem ahd_total {ts : List Int} {i j : Nat} (hne : i ≠ j) (h1 : ahd ts i j = false) : ahd ts j i = true := by
  rw [Bool.eq_false_iff, Ne, ahd_iff] at h1; rw [ahd_iff]; omega

theorem best_spec (ts : List Int) (n : Nat) (hn : 0 < n) : ∀ k, k < n → k ≠ best ts n → ahd ts (best ts n) k = true := by
  induction n with
  | zero => omega
  | succ n ih =>
    intro k hk hne
    by_cases h0 : n = 0
    · subst h0
      have : best ts (0 + 1) = 0 := by simp [best]
      omega
    · have e : best ts (n + 1) = if ahd ts n (best ts n) then n else best ts n := by rw [best, if_neg h0]
      have ih' := ih (by omega)
      have hlt := best_lt ts n (by omega)
      rw [e] at hne ⊢
      by_cases hb : ahd ts n (best ts n) = true
      · rw [if_pos hb] at hne ⊢
        by_cases hkb : k = best ts n
        · rw [hkb]; exact hb
        · exact ahd_trans hb (ih' k (by omega) hkb)
      · rw [if_neg hb] at hne ⊢
        by_cases hkn : k = n
        · subst hkn
          exact ahd_total (by omega) (by simpa using hb)
        · exact ih' k (by omega) hne
theorem best_of (ts : List Int) (n i : Nat) (hi : i < n) (h : ∀ k, k < n → k ≠ i → ahd ts i k = true) : best ts n = i := by
  by_cases e : best ts n = i
  · exact e
  · have h1 := best_spec ts n (by omega) i hi (fun h => e h.symm)
    have h2 := h (best ts n) (best_lt ts n (by omega)) e
    rw [ahd_asymm h2] at h1
    cases h1

theorem set_get (ts : List Int) (i k : Nat) (v : Int) (hi : i < ts.length) : (ts.set i v)[k]?.getD 0 = if k = i then v else ts[k]?.getD 0 := by
  by_cases h : k = i
  · subst h; simp [hi]
  · simp [h, show ¬ i = k by omega]

theorem ceil_facts (u s : Int) (hs : 1 ≤ s) : s * ((u + s - 1) / s) ≤ u + s - 1 ∧ u ≤ s * ((u + s - 1) / s) := by
  have h1 := Int.mul_ediv_self_le (x := u + s - 1) (k := s) (by omega)
  have h2 := Int.lt_mul_ediv_self_add (x := u + s - 1) (k := s) (by omega)
  exact ⟨h1, by omega⟩

/-- Thread i, the next one, and its room r. -/
theorem room_facts {ts ss : List Int} {n i : Nat} {r : Int} (hts : ts.length = n) (hi : i < n) (hb : best ts n = i) (hs : 1 ≤ ss[i]?.getD 0) (hr : RoomIs ts ss n i r) :
    1 ≤ r ∧ r ≤ 1073741824 ∧ (∀ m : Int, 0 ≤ m → m < r → best (ts.set i (ts[i]?.getD 0 + ss[i]?.getD 0 * m)) n = i) ∧
      (r ≠ 1073741824 → best (ts.set i (ts[i]?.getD 0 + ss[i]?.getD 0 * r)) n ≠ i) := by
  have hsp := best_spec ts n (by omega)
  rw [hb] at hsp
  rcases hr with ⟨j, hj, hne, hfirst, rfl⟩ | ⟨hall, rfl⟩
  · have hij := hsp j hj hne
    rw [ahd_iff] at hij
    generalize hx : ts[i]?.getD 0 = x at *
    generalize hy : ts[j]?.getD 0 = y at *
    generalize ss[i]?.getD 0 = s at *
    have hu : 1 ≤ unitsOf x y i j := by unfold unitsOf; split <;> omega
    have hm : max (unitsOf x y i j) 0 = unitsOf x y i j := by omega
    unfold ticksOf
    rw [hm]
    obtain ⟨c1, c2⟩ := ceil_facts (unitsOf x y i j) s hs
    generalize hq : (unitsOf x y i j + s - 1) / s = q at *
    have hq1 : 1 ≤ q := by
      by_cases h : q ≤ 0
      · have := Int.mul_le_mul_of_nonneg_left h (show 0 ≤ s by omega)
        rw [Int.mul_zero] at this
        omega
      · omega
    refine ⟨by omega, by omega, ?_, ?_⟩
    · intro m hm0 hm1
      refine best_of _ n i hi (fun k hk hki => ?_)
      have h1 : s * m ≤ s * (q - 1) := Int.mul_le_mul_of_nonneg_left (by omega) (by omega)
      rw [Int.mul_sub, Int.mul_one] at h1
      have hlt : s * m < unitsOf x y i j := by omega
      have hij' : ahd (ts.set i (x + s * m)) i j = true := by
        rw [ahd_iff, set_get _ _ _ _ (by omega), set_get _ _ _ _ (by omega), if_pos rfl, if_neg hne, hy]
        unfold unitsOf at hlt
        split at hlt <;> omega
      by_cases hkj : k = j
      · rw [hkj]; exact hij'
      · refine ahd_trans hij' ?_
        have := ahd_total hkj (hfirst k hk hki)
        rw [ahd_iff] at this ⊢
        rw [set_get _ _ _ _ (by omega), set_get _ _ _ _ (by omega), if_neg hne, if_neg hki]
        exact this
    · intro hr hbi
      have hrq : min q 1073741824 = q := by omega
      rw [hrq] at hbi
      have h1 := best_spec (ts.set i (x + s * q)) n (by omega) j hj (by rw [hbi]; exact hne)
      rw [hbi, ahd_iff, set_get _ _ _ _ (by omega), set_get _ _ _ _ (by omega), if_pos rfl, if_neg hne, hy] at h1
      unfold unitsOf at c2
      split at c2 <;> omega
  · refine ⟨by omega, by omega, fun m _ _ => best_of _ n i hi (fun k hk hki => absurd (hall k hk) hki), fun h => absurd rfl h⟩
end Go.Proofs.Ytijcfpdcijpenaa
