/-
  Samples in blocks, in numbers alone: what a nibble stands for, and the nearest nibble.
-/
import Derived.Test.YtekjcgckniopdaaMem
namespace Go.Proofs.Ytekjcgckniopdaa
set_option linter.unusedVariables false

/-- What a filter foresees. -/
def foreF (f : Nat) (p q : Int) : Int := if f = 0 then 0 else if f = 1 then p * 15 / 16 else if f = 2 then p * 61 / 32 - q * 15 / 16 else p * 115 / 64 - q * 13 / 16
/-- A nibble's number by a shift. -/
def scaleF (sh : Nat) (n : Int) : Int := if sh ≤ 12 then n * 2 ^ sh / 2 else if n < 0 then -2048 else 0
def clampF (x : Int) : Int := if x < -32768 then -32768 else if 32767 < x then 32767 else x
/-- A nibble's sample. -/
def sampF (sh f : Nat) (p q n : Int) : Int := clampF (scaleF sh n + foreF f p q)
/-- A number that is a sample. -/
def Smp (x : Int) : Prop := -32768 ≤ x ∧ x ≤ 32767
theorem clampF_smp (x : Int) : Smp (clampF x) := by unfold clampF Smp; (repeat' split) <;> omega
theorem sampF_smp (sh f : Nat) (p q n : Int) : Smp (sampF sh f p q n) := clampF_smp _
theorem foreF_bnd (f : Nat) (p q : Int) (hp : Smp p) (hq : Smp q) : -200000 ≤ foreF f p q ∧ foreF f p q ≤ 200000 := by
  unfold foreF Smp at *
  (repeat' split) <;> omega
theorem two_pow_bnd (sh : Nat) (h : sh ≤ 12) : (1 : Int) ≤ 2 ^ sh ∧ (2 : Int) ^ sh ≤ 4096 := by
  rcases (show sh = 0 ∨ sh = 1 ∨ sh = 2 ∨ sh = 3 ∨ sh = 4 ∨ sh = 5 ∨ sh = 6 ∨ sh = 7 ∨ sh = 8 ∨ sh = 9 ∨ sh = 10 ∨ sh = 11 ∨ sh = 12 by omega) with rfl | rfl | rfl | rfl | rfl | rfl | rfl | rfl | rfl | rfl | rfl | rfl | rfl <;> decide
theorem mul_pow_bnd (sh : Nat) (n : Int) (h : sh ≤ 12) (h1 : -8 ≤ n) (h2 : n ≤ 7) : -32768 ≤ n * 2 ^ sh ∧ n * 2 ^ sh ≤ 28672 := by
  rcases (show sh = 0 ∨ sh = 1 ∨ sh = 2 ∨ sh = 3 ∨ sh = 4 ∨ sh = 5 ∨ sh = 6 ∨ sh = 7 ∨ sh = 8 ∨ sh = 9 ∨ sh = 10 ∨ sh = 11 ∨ sh = 12 by omega) with rfl | rfl | rfl | rfl | rfl | rfl | rfl | rfl | rfl | rfl | rfl | rfl | rfl <;> (simp only [Int.reducePow]; omega)
theorem scaleF_bnd (sh : Nat) (n : Int) (h1 : -8 ≤ n) (h2 : n ≤ 7) : -16384 ≤ scaleF sh n ∧ scaleF sh n ≤ 16384 := by
  unfold scaleF
  by_cases h : sh ≤ 12
  · rw [if_pos h]
    have := mul_pow_bnd sh n h h1 h2
    generalize n * 2 ^ sh = y at *
    omega
  · rw [if_neg h]
    split <;> omega
/-- How far. -/
def farF (sh f : Nat) (p q want n : Int) : Int := (sampF sh f p q n - want) * (sampF sh f p q n - want)
theorem sq_bnd (d : Int) (h1 : -65535 ≤ d) (h2 : d ≤ 65535) : 0 ≤ d * d ∧ d * d ≤ 4294836225 := by
  have h := Int.natAbs_mul_self (a := d)
  have h3 : d.natAbs ≤ 65535 := by omega
  have h4 : d.natAbs * d.natAbs ≤ 65535 * 65535 := Nat.mul_le_mul h3 h3
  rw [← h]
  generalize d.natAbs * d.natAbs = z at *
  omega
theorem farF_bnd (sh f : Nat) (p q want n : Int) (hw : Smp want) : 0 ≤ farF sh f p q want n ∧ farF sh f p q want n ≤ 4294836225 := by
  have := sampF_smp sh f p q n
  unfold Smp at *
  exact sq_bnd _ (by omega) (by omega)
/-- The nearest nibble of the first k + 1. -/
def bestN (sh f : Nat) (p q want : Int) : Nat → Int
  | 0 => -8
  | k + 1 => if farF sh f p q want ((k : Int) - 7) < farF sh f p q want (bestN sh f p q want k) then (k : Int) - 7 else bestN sh f p q want k
theorem bestN_bnd (sh f : Nat) (p q want : Int) (k : Nat) : -8 ≤ bestN sh f p q want k ∧ bestN sh f p q want k ≤ (k : Int) - 8 := by
  induction k with
  | zero => exact ⟨Int.le_refl _, by show (-8 : Int) ≤ ((0 : Nat) : Int) - 8; omega⟩
  | succ k ih =>
    unfold bestN
    split <;> omega
/-- The nearest nibble is at most as far as any. -/
theorem bestN_le (sh f : Nat) (p q want : Int) (k : Nat) (n : Int) (h1 : -8 ≤ n) (h2 : n ≤ (k : Int) - 8) : farF sh f p q want (bestN sh f p q want k) ≤ farF sh f p q want n := by
  induction k with
  | zero =>
    obtain rfl : n = -8 := by omega
    exact Int.le_refl _
  | succ k ih =>
    unfold bestN
    by_cases e : n = (k : Int) - 7
    · subst e
      split <;> omega
    · have := ih (by omega)
      split <;> omega
/-- The nearest nibble. -/
def nibF (sh f : Nat) (p q want : Int) : Int := bestN sh f p q want 15
/-- The two samples behind k nibbles: the last one, the one ahead of it. -/
def stF (sh f : Nat) (g : Nat → Int) (p q : Int) : Nat → Int × Int
  | 0 => (p, q)
  | k + 1 => (sampF sh f (stF sh f g p q k).1 (stF sh f g p q k).2 (g k), (stF sh f g p q k).1)
theorem stF_smp (sh f : Nat) (g : Nat → Int) (p q : Int) (hp : Smp p) (hq : Smp q) (k : Nat) : Smp (stF sh f g p q k).1 ∧ Smp (stF sh f g p q k).2 := by
  induction k with
  | zero => exact ⟨hp, hq⟩
  | succ k ih => exact ⟨sampF_smp _ _ _ _ _, ih.1⟩
theorem stF_congr (sh f : Nat) (g g' : Nat → Int) (p q : Int) (k : Nat) (h : ∀ i, i < k → g i = g' i) : stF sh f g p q k = stF sh f g' p q k := by
  induction k with
  | zero => rfl
  | succ k ih => rw [stF, stF, ih (fun i hi => h i (by omega)), h k (by omega)]
/-- The sample of the k-th nibble. -/
def outF (sh f : Nat) (g : Nat → Int) (p q : Int) (k : Nat) : Int := (stF sh f g p q (k + 1)).1
/-- The nibbles that are chosen, the two samples behind them, and how far all that is. -/
def encF (sh f : Nat) (s : Nat → Int) (p q : Int) : Nat → Int × Int × Int
  | 0 => (p, q, 0)
  | k + 1 =>
    let t := encF sh f s p q k
    let n := nibF sh f t.1 t.2.1 (s k)
    (sampF sh f t.1 t.2.1 n, t.1, t.2.2 + farF sh f t.1 t.2.1 (s k) n)
/-- The nibble that is chosen for the k-th sample. -/
def choF (sh f : Nat) (s : Nat → Int) (p q : Int) (k : Nat) : Int := nibF sh f (encF sh f s p q k).1 (encF sh f s p q k).2.1 (s k)
theorem choF_bnd (sh f : Nat) (s : Nat → Int) (p q : Int) (k : Nat) : -8 ≤ choF sh f s p q k ∧ choF sh f s p q k ≤ 7 := by
  have := bestN_bnd sh f (encF sh f s p q k).1 (encF sh f s p q k).2.1 (s k) 15
  unfold choF nibF
  omega
theorem encF_st (sh f : Nat) (s : Nat → Int) (p q : Int) (k : Nat) : ((encF sh f s p q k).1, (encF sh f s p q k).2.1) = stF sh f (choF sh f s p q) p q k := by
  induction k with
  | zero => rfl
  | succ k ih =>
    rw [stF, ← ih]
    rfl
theorem encF_smp (sh f : Nat) (s : Nat → Int) (p q : Int) (hp : Smp p) (hq : Smp q) (k : Nat) : Smp (encF sh f s p q k).1 ∧ Smp (encF sh f s p q k).2.1 := by
  have h := stF_smp sh f (choF sh f s p q) p q hp hq k
  rw [← encF_st] at h
  exact h
theorem encF_far (sh f : Nat) (s : Nat → Int) (p q : Int) (hs : ∀ i, Smp (s i)) (k : Nat) : 0 ≤ (encF sh f s p q k).2.2 ∧ (encF sh f s p q k).2.2 ≤ 4294836225 * k := by
  induction k with
  | zero => exact ⟨Int.le_refl _, by show (0 : Int) ≤ _; omega⟩
  | succ k ih =>
    have := farF_bnd sh f (encF sh f s p q k).1 (encF sh f s p q k).2.1 (s k) (choF sh f s p q k) (hs k)
    show 0 ≤ (encF sh f s p q k).2.2 + farF sh f (encF sh f s p q k).1 (encF sh f s p q k).2.1 (s k) (choF sh f s p q k) ∧ (encF sh f s p q k).2.2 + farF sh f (encF sh f s p q k).1 (encF sh f s p q k).2.1 (s k) (choF sh f s p q k) ≤ _
    omega
/-- The shift and the filter that a number stands for. -/
def numF (f sh : Nat) : Nat := f * 13 + sh
/-- How far the block by a number is. -/
def blkF (s : Nat → Int) (p q : Int) (j : Nat) : Int := (encF (j % 13) (j / 13) s p q 16).2.2
/-- The number of the nearest block of the first k + 1. -/
def topF (s : Nat → Int) (p q : Int) : Nat → Nat
  | 0 => 0
  | k + 1 => if blkF s p q (k + 1) < blkF s p q (topF s p q k) then k + 1 else topF s p q k
theorem topF_le (s : Nat → Int) (p q : Int) (k : Nat) : topF s p q k ≤ k := by
  induction k with
  | zero => exact Nat.le_refl _
  | succ k ih => unfold topF; split <;> omega
theorem topF_least (s : Nat → Int) (p q : Int) (k j : Nat) (h : j ≤ k) : blkF s p q (topF s p q k) ≤ blkF s p q j := by
  induction k with
  | zero =>
    obtain rfl : j = 0 := by omega
    exact Int.le_refl _
  | succ k ih =>
    unfold topF
    by_cases e : j = k + 1
    · subst e; split <;> omega
    · have := ih (by omega)
      split <;> omega
/-- Where nothing is lost, none of those to come is nearer. -/
theorem topF_stop (s : Nat → Int) (p q : Int) (hs : ∀ i, Smp (s i)) (k m : Nat) (h : k ≤ m) (h0 : blkF s p q (topF s p q k) = 0) : topF s p q m = topF s p q k := by
  induction m with
  | zero => obtain rfl : k = 0 := by omega
            rfl
  | succ m ih =>
    by_cases e : k = m + 1
    · subst e; rfl
    · have ih := ih (by omega)
      show (if blkF s p q (m + 1) < blkF s p q (topF s p q m) then m + 1 else topF s p q m) = _
      rw [ih, h0, if_neg]
      have := (encF_far ((m + 1) % 13) ((m + 1) / 13) s p q hs 16).1
      unfold blkF
      omega
/-- The bytes of a block by a shift, a filter and numbers. -/
def u4 (n : Int) : Nat := (n % 16).toNat
def putF (sh f : Nat) (g : Nat → Int) (k : Nat) : Nat → Nat := fun i => if i = 0 then sh * 16 + f * 4 else (if 2 * (i - 1) < k then u4 (g (2 * (i - 1))) * 16 else 0) + (if 2 * (i - 1) + 1 < k then u4 (g (2 * (i - 1) + 1)) else 0)
/-- The number of a block's k-th nibble. -/
def nibO (b : Nat → Nat) (k : Nat) : Int := let x := (if k % 2 = 0 then b (1 + k / 2) / 16 % 16 else b (1 + k / 2) % 16); if 7 < x then (x : Int) - 16 else x
theorem nibO_bnd (b : Nat → Nat) (k : Nat) : -8 ≤ nibO b k ∧ nibO b k ≤ 7 := by unfold nibO; dsimp only; (repeat' split) <;> omega
theorem u4_lt (n : Int) : u4 n < 16 := by unfold u4; omega
theorem nibO_put (sh f : Nat) (g : Nat → Int) (m k : Nat) (hk : k < m) (h : -8 ≤ g k ∧ g k ≤ 7) : nibO (putF sh f g m) k = g k := by
  have hu : ((if 7 < u4 (g k) then (u4 (g k) : Int) - 16 else u4 (g k)) : Int) = g k := by unfold u4; split <;> omega
  have hl := u4_lt (g k)
  have hl2 := u4_lt (g (2 * (1 + k / 2 - 1) + 1))
  have hl3 := u4_lt (g (2 * (1 + k / 2 - 1)))
  have h10 : ¬ (1 + k / 2 = 0) := by omega
  unfold nibO putF
  dsimp only
  simp only [if_neg h10]
  by_cases hp : k % 2 = 0
  · simp only [if_pos hp]
    rw [show 2 * (1 + k / 2 - 1) = k by omega] at *
    simp only [if_pos hk]
    have e : (u4 (g k) * 16 + (if k + 1 < m then u4 (g (k + 1)) else 0)) / 16 % 16 = u4 (g k) := by split <;> omega
    rw [e]; exact hu
  · simp only [if_neg hp]
    rw [show 2 * (1 + k / 2 - 1) + 1 = k by omega] at *
    simp only [if_pos hk]
    have e : ((if 2 * (1 + k / 2 - 1) < m then u4 (g (2 * (1 + k / 2 - 1))) * 16 else 0) + u4 (g k)) % 16 = u4 (g k) := by split <;> omega
    rw [e]; exact hu
theorem putF_lt (sh f : Nat) (g : Nat → Int) (k i : Nat) (h : sh < 16) (hf : f < 4) : putF sh f g k i < 256 := by
  have h1 := u4_lt (g (2 * (i - 1)))
  have h2 := u4_lt (g (2 * (i - 1) + 1))
  unfold putF
  (repeat' split) <;> omega
/-- One nibble more. -/
theorem putF_step (sh f : Nat) (g : Nat → Int) (k : Nat) : putF sh f g (k + 1) = upd (putF sh f g k) (1 + k / 2) (putF sh f g k (1 + k / 2) + u4 (g k) * (if k % 2 = 0 then 16 else 1)) := by
  funext i
  unfold upd
  by_cases e : i = 1 + k / 2
  · subst e
    rw [if_pos rfl]
    have h10 : ¬ (1 + k / 2 = 0) := by omega
    unfold putF
    simp only [if_neg h10]
    by_cases hp : k % 2 = 0
    · rw [show 2 * (1 + k / 2 - 1) = k by omega]
      have a1 : ¬ (k + 1 < k + 1) := by omega
      have a2 : ¬ (k < k) := by omega
      have a3 : ¬ (k + 1 < k) := by omega
      have a4 : k < k + 1 := by omega
      simp only [if_neg a1, if_neg a2, if_neg a3, if_pos a4, if_pos hp]
      omega
    · rw [show 2 * (1 + k / 2 - 1) + 1 = k by omega]
      have a1 : 2 * (1 + k / 2 - 1) < k + 1 := by omega
      have a2 : ¬ (k < k) := by omega
      have a3 : 2 * (1 + k / 2 - 1) < k := by omega
      have a4 : k < k + 1 := by omega
      simp only [if_pos a1, if_neg a2, if_pos a3, if_pos a4, if_neg hp]
      omega
  · rw [if_neg e]
    unfold putF
    split
    · rfl
    · have h1 : (2 * (i - 1) < k + 1) = (2 * (i - 1) < k) := by apply propext; omega
      have h2 : (2 * (i - 1) + 1 < k + 1) = (2 * (i - 1) + 1 < k) := by apply propext; omega
      simp only [h1, h2]
end Go.Proofs.Ytekjcgckniopdaa
