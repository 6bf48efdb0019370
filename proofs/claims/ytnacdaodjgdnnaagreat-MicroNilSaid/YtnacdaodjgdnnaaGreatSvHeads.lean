/-
  What a head says of changed bytes.
-/
import Derived.Test.YtnacdaodjgdnnaaGreatSvGE
namespace Go.Proofs.YtnacdaodjgdnnaaGreat
open Go.RowKit Go.Shelf
set_option maxRecDepth 100000
set_option maxHeartbeats 1000000

theorem numN_byteAt (v k : Nat) : numN (byteAt v) k = v % 2 ^ (8 * k) := by
  induction k with
  | zero => simp [numN, Nat.mod_one]
  | succ k ih =>
    rw [numN, ih, byteAt, show 8 * (k + 1) = 8 * k + 8 by omega, Nat.pow_add, Nat.mod_mul, Nat.mul_comm (v / 2 ^ (8 * k) % 256)]
theorem numN_inj {f g : Nat → Nat} {k : Nat} (hf : ∀ i, i < k → f i < 256) (hg : ∀ i, i < k → g i < 256) (h : numN f k = numN g k) : ∀ i, i < k → f i = g i := by
  induction k with
  | zero => intro i hi; omega
  | succ k ih =>
    have h1 := numN_lt (n := k) (fun i hi => hf i (by omega))
    have h2 := numN_lt (n := k) (fun i hi => hg i (by omega))
    rw [numN, numN] at h
    have hp : 0 < 2 ^ (8 * k) := Nat.pow_pos (by decide)
    have e1 : f k = g k := by
      have a1 : (numN f k + f k * 2 ^ (8 * k)) / 2 ^ (8 * k) = f k := by rw [Nat.add_mul_div_right _ _ hp, Nat.div_eq_of_lt h1, Nat.zero_add]
      have a2 : (numN g k + g k * 2 ^ (8 * k)) / 2 ^ (8 * k) = g k := by rw [Nat.add_mul_div_right _ _ hp, Nat.div_eq_of_lt h2, Nat.zero_add]
      rw [← a1, ← a2, h]
    have e2 : numN f k = numN g k := by rw [e1] at h; omega
    intro i hi
    by_cases hik : i = k
    · rw [hik]; exact e1
    · exact ih (fun i hi => hf i (by omega)) (fun i hi => hg i (by omega)) e2 i (by omega)
theorem numN_congr {f g : Nat → Nat} {k : Nat} (h : ∀ i, i < k → f i = g i) : numN f k = numN g k := by
  induction k with
  | zero => rfl
  | succ k ih => rw [numN, numN, ih (fun i hi => h i (by omega)), h k (by omega)]
theorem sumN_differs {f g : Nat → Nat} {n j : Nat} (hj : j < n) (hf : f j < 256) (hg : g j < 256) (hne : f j ≠ g j) (he : ∀ i, i ≠ j → f i = g i) : sumN f n ≠ sumN g n := by
  induction n with
  | zero => omega
  | succ n ih =>
    have h1 := sumN_lt f n
    have h2 := sumN_lt g n
    rw [sumN, sumN]
    by_cases hjn : j = n
    · subst hjn
      have e := sumN_congr (f := f) (g := g) (n := j) (fun i hi => he i (by omega))
      rw [e]
      omega
    · have h3 := ih (by omega)
      rw [he n (fun e => hjn e.symm)]
      omega
theorem head_bytes {m : Nat} {f : Nat → Nat} (hf : ∀ i, i < m → f i < 256) (i : Nat) (hi : i < 13 + m) : headF m f i < 256 := by
  unfold headF
  repeat' split
  all_goals first | decide | exact byteAt_lt _ _ | exact hf _ (by omega)
theorem head_n {m : Nat} (f : Nat → Nat) (hm : m ≤ 16777216) : numN (shiftF 5 (headF m f)) 4 = m := by
  have e : numN (shiftF 5 (headF m f)) 4 = numN (byteAt m) 4 := numN_congr (fun i hi => by
    unfold shiftF headF
    rw [if_neg (by omega), if_neg (by omega), if_neg (by omega), if_neg (by omega), if_neg (by omega), if_pos (by omega)]
    congr 1
    omega)
  rw [e, numN_byteAt]
  exact Nat.mod_eq_of_lt (by omega)
theorem head_s {m : Nat} (f : Nat → Nat) : numN (shiftF 9 (headF m f)) 4 = sumN f m := by
  have e : numN (shiftF 9 (headF m f)) 4 = numN (byteAt (sumN f m)) 4 := numN_congr (fun i hi => by
    unfold shiftF headF
    rw [if_neg (by omega), if_neg (by omega), if_neg (by omega), if_neg (by omega), if_neg (by omega), if_neg (by omega), if_pos (by omega)]
    congr 1
    omega)
  rw [e, numN_byteAt]
  exact Nat.mod_eq_of_lt (sumN_lt f m)
theorem head_b {m : Nat} (f : Nat → Nat) (n : Nat) : sumN (shiftF 13 (headF m f)) n = sumN f n := sumN_congr (fun i hi => by
  unfold shiftF headF
  rw [if_neg (by omega), if_neg (by omega), if_neg (by omega), if_neg (by omega), if_neg (by omega), if_neg (by omega), if_neg (by omega)]
  congr 1
  omega)
theorem head_ok {m : Nat} (f : Nat → Nat) (hm : m ≤ 16777216) : openE (13 + m) (headF m f) = 0 := by
  unfold openE
  rw [if_neg (by omega), if_neg (by intro h; exact h ⟨rfl, rfl, rfl, rfl⟩), if_neg (by intro h; exact h rfl), head_n f hm, if_neg (by omega), if_neg (by omega), head_s, show 13 + m - 13 = m by omega, head_b, if_neg (by intro h; exact h rfl)]
/-- Other lengths: the head is that of m bytes. -/
theorem head_len {m n : Nat} {f F : Nat → Nat} (hm : m ≤ 16777216) (hF : ∀ i, i < 13 → i < n → F i = headF m f i) (hn : n ≠ 13 + m) : openE n F ≠ 0 := by
  unfold openE
  by_cases h1 : n < 13
  · rw [if_pos h1]; decide
  rw [if_neg h1]
  have h0 := hF 0 (by omega) (by omega)
  have hh1 := hF 1 (by omega) (by omega)
  have h2 := hF 2 (by omega) (by omega)
  have h3 := hF 3 (by omega) (by omega)
  have h4 := hF 4 (by omega) (by omega)
  rw [h0, hh1, h2, h3, h4, if_neg (by intro h; exact h ⟨rfl, rfl, rfl, rfl⟩), if_neg (by intro h; exact h rfl)]
  have e : numN (shiftF 5 F) 4 = numN (shiftF 5 (headF m f)) 4 := numN_congr (fun i hi => hF (5 + i) (by omega) (by omega))
  rw [e, head_n f hm, if_pos (by omega)]
  decide
theorem openE_zero {n : Nat} {f : Nat → Nat} (h : openE n f = 0) : (f 0 = 76 ∧ f 1 = 65 ∧ f 2 = 78 ∧ f 3 = 84) ∧ f 4 = 1 ∧ numN (shiftF 5 f) 4 = n - 13 ∧ numN (shiftF 9 f) 4 = sumN (shiftF 13 f) (n - 13) := by
  unfold openE at h
  by_cases h1 : n < 13
  · rw [if_pos h1] at h; cases h
  rw [if_neg h1] at h
  by_cases h2 : f 0 = 76 ∧ f 1 = 65 ∧ f 2 = 78 ∧ f 3 = 84
  case neg => rw [if_pos h2] at h; cases h
  rw [if_neg (by intro hh; exact hh h2)] at h
  by_cases h3 : f 4 = 1
  case neg => rw [if_pos h3] at h; cases h
  rw [if_neg (by intro hh; exact hh h3)] at h
  by_cases h4 : numN (shiftF 5 f) 4 = n - 13
  case neg => rw [if_pos h4] at h; cases h
  rw [if_neg (by intro hh; exact hh h4)] at h
  by_cases h5 : 16777216 < n - 13
  · rw [if_pos h5] at h; cases h
  rw [if_neg h5] at h
  by_cases h6 : numN (shiftF 9 f) 4 = sumN (shiftF 13 f) (n - 13)
  · exact ⟨h2, h3, h4, h6⟩
  · rw [if_pos h6] at h; cases h
/-- One byte is another. -/
theorem head_upd {m k x : Nat} {f : Nat → Nat} (hf : ∀ i, i < m → f i < 256) (hm : m ≤ 16777216) (hk : k < 13 + m) (hx : x < 256) (hne : x ≠ headF m f k) : openE (13 + m) (upd (headF m f) k x) ≠ 0 := by
  intro h
  obtain ⟨⟨h0, h1, h2, h3⟩, h4, h5, h6⟩ := openE_zero h
  have hH := head_bytes hf
  have at_ : ∀ i, i ≠ k → upd (headF m f) k x i = headF m f i := fun i hi => if_neg hi
  have at_k : upd (headF m f) k x k = x := if_pos rfl
  have hby : ∀ i, i < 13 + m → upd (headF m f) k x i < 256 := fun i hi => by
    unfold upd; split
    · exact hx
    · exact hH i hi
  rw [show 13 + m - 13 = m by omega] at h5 h6
  rcases (show k = 0 ∨ k = 1 ∨ k = 2 ∨ k = 3 ∨ k = 4 ∨ (5 ≤ k ∧ k < 9) ∨ (9 ≤ k ∧ k < 13) ∨ 13 ≤ k by omega) with rfl | rfl | rfl | rfl | rfl | hk2 | hk2 | hk2
  · exact hne (at_k.symm.trans h0)
  · exact hne (at_k.symm.trans h1)
  · exact hne (at_k.symm.trans h2)
  · exact hne (at_k.symm.trans h3)
  · exact hne (at_k.symm.trans h4)
  · have e := numN_inj (f := shiftF 5 (upd (headF m f) k x)) (g := shiftF 5 (headF m f)) (k := 4) (fun i hi => hby _ (by omega)) (fun i hi => hH _ (by omega)) (h5.trans (head_n f hm).symm) (k - 5) (by omega)
    unfold shiftF at e
    rw [show 5 + (k - 5) = k by omega, at_k] at e
    exact hne e
  · have eb : sumN (shiftF 13 (upd (headF m f) k x)) m = sumN f m := (sumN_congr (fun i hi => at_ (13 + i) (by omega))).trans (head_b f m)
    have e := numN_inj (f := shiftF 9 (upd (headF m f) k x)) (g := shiftF 9 (headF m f)) (k := 4) (fun i hi => hby _ (by omega)) (fun i hi => hH _ (by omega)) ((h6.trans eb).trans (head_s f).symm) (k - 9) (by omega)
    unfold shiftF at e
    rw [show 9 + (k - 9) = k by omega, at_k] at e
    exact hne e
  · have es : numN (shiftF 9 (upd (headF m f) k x)) 4 = sumN f m := (numN_congr (fun i hi => at_ (9 + i) (by omega))).trans (head_s f)
    have eb := head_b (m := m) f m
    have hd := sumN_differs (f := shiftF 13 (upd (headF m f) k x)) (g := shiftF 13 (headF m f)) (n := m) (j := k - 13) (by omega) (hby _ (by omega)) (hH _ (by omega)) (by
      unfold shiftF
      rw [show 13 + (k - 13) = k by omega, at_k]
      exact hne) (fun i hi => at_ (13 + i) (by omega))
    exact hd ((h6.symm.trans es).trans eb.symm)
end Go.Proofs.YtnacdaodjgdnnaaGreat
