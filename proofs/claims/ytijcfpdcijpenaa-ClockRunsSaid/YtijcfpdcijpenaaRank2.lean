/-
  How many are ahead of a thread: its place in the order.
-/
import Derived.Test.YtijcfpdcijpenaaAhead
namespace Go.Proofs.Ytijcfpdcijpenaa
open Go.RowKit Go.Shelf
set_option maxRecDepth 100000

theorem ahd_is (ts : List Int) (i j : Nat) : ahd ts i j = true ↔ ts[i]?.getD 0 < ts[j]?.getD 0 ∨ (ts[i]?.getD 0 = ts[j]?.getD 0 ∧ i < j) := by simp [ahd]
theorem ahd_through {ts : List Int} {i j k : Nat} (h1 : ahd ts i j = true) (h2 : ahd ts j k = true) : ahd ts i k = true := by
  rw [ahd_is] at *
  omega
theorem ahd_other {ts : List Int} {i j : Nat} (hne : i ≠ j) (h1 : ahd ts i j = false) : ahd ts j i = true := by
  rw [← Bool.not_eq_true, ahd_is] at h1
  rw [ahd_is]
  omega
theorem set_read (ts : List Int) (i k : Nat) (v : Int) (hi : i < ts.length) : (ts.set i v)[k]?.getD 0 = if k = i then v else ts[k]?.getD 0 := by
  by_cases e : k = i
  · subst e
    simp [hi]
  · rw [if_neg e, List.getElem?_set_ne (Ne.symm e)]
/-- How many of the first k threads are ahead of thread i. -/
def cntTo (ts : List Int) (i : Nat) : Nat → Nat
  | 0 => 0
  | k + 1 => cntTo ts i k + if ahd ts k i then 1 else 0
theorem ahd_irrefl (ts : List Int) (i : Nat) : ahd ts i i = false := by simp [ahd]
theorem cntTo_le (ts : List Int) (i k : Nat) : cntTo ts i k ≤ k := by
  induction k with
  | zero => exact Nat.le_refl _
  | succ k ih => unfold cntTo; split <;> omega
theorem cntTo_lt (ts : List Int) (i k : Nat) (h : i < k) : cntTo ts i k < k := by
  induction k with
  | zero => omega
  | succ k ih =>
    unfold cntTo
    by_cases e : i = k
    · subst e
      rw [ahd_irrefl]
      have := cntTo_le ts i i
      simp
      omega
    · have := ih (by omega)
      split <;> omega
theorem cntTo_mono (ts : List Int) (i j k : Nat) (h : ahd ts i j = true) : cntTo ts i k ≤ cntTo ts j k ∧ (i < k → cntTo ts i k < cntTo ts j k) := by
  induction k with
  | zero => exact ⟨Nat.le_refl _, fun h => absurd h (Nat.not_lt_zero _)⟩
  | succ k ih =>
    obtain ⟨h1, h2⟩ := ih
    unfold cntTo
    by_cases e : ahd ts k i = true
    · have e2 := ahd_through e h
      rw [e, e2]
      refine ⟨by simp; omega, fun h3 => ?_⟩
      have hik : i ≠ k := by
        rintro rfl
        rw [ahd_irrefl] at e
        cases e
      have := h2 (by omega)
      simp
      omega
    · rw [if_neg e]
      refine ⟨by split <;> omega, fun h3 => ?_⟩
      by_cases hik : i = k
      · subst hik
        rw [h]
        simp
        omega
      · have := h2 (by omega)
        split <;> omega
theorem cntTo_inj (ts : List Int) (i j n : Nat) (hi : i < n) (hj : j < n) (hne : i ≠ j) : cntTo ts i n ≠ cntTo ts j n := by
  by_cases h : ahd ts i j = true
  · have := (cntTo_mono ts i j n h).2 hi
    omega
  · have h2 := ahd_other hne (by simpa using h)
    have := (cntTo_mono ts j i n h2).2 hj
    omega
theorem inc_id (f : Nat → Nat) (n : Nat) (h1 : ∀ i j, i < j → j < n → f i < f j) (h2 : ∀ i, i < n → f i < n) : ∀ m, m < n → f m = m := by
  have ge : ∀ m, m < n → m ≤ f m := by
    intro m
    induction m with
    | zero => exact fun _ => Nat.zero_le _
    | succ m ih =>
      intro h
      have := ih (by omega)
      have := h1 m (m + 1) (by omega) h
      omega
  have le : ∀ d m, m + d < n → f m + d ≤ f (m + d) := by
    intro d
    induction d with
    | zero => exact fun m _ => Nat.le_refl _
    | succ d ih =>
      intro m h
      have := ih m (by omega)
      have := h1 (m + d) (m + (d + 1)) (by omega) h
      omega
  intro m hm
  have a := ge m hm
  have b := le (n - 1 - m) m (by omega)
  have c := h2 (m + (n - 1 - m)) (by omega)
  omega
end Go.Proofs.Ytijcfpdcijpenaa
