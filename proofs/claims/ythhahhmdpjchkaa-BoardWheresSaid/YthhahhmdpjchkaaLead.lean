/-
  Where a place beyond a size leads: the numbers.
-/
import Derived.Lib.ItoaNum
namespace Go.Proofs.Ythhahhmdpjchkaa


def up (s : Nat) : Nat := 2 ^ Lib.bitLen (s - 1)
def dn (s : Nat) : Nat := 2 ^ (Lib.bitLen s - 1)

theorem bitLen_bounds (x : Nat) (h : x < 2 ^ 64) (h0 : x ≠ 0) : 1 ≤ Lib.bitLen x ∧ 2 ^ (Lib.bitLen x - 1) ≤ x ∧ x < 2 ^ Lib.bitLen x := Lib.bitLenAux_bounds 64 x h h0
theorem bitLen_zero : Lib.bitLen 0 = 0 := rfl

theorem two_pow_pos (k : Nat) : 0 < 2 ^ k := Nat.pow_pos (by decide)
theorem up_pos (s : Nat) : 0 < up s := two_pow_pos _
theorem dn_pos (s : Nat) : 0 < dn s := two_pow_pos _

theorem up_le (s : Nat) (h : s ≤ 2 ^ 64) (h0 : s ≠ 0) : s ≤ up s ∧ up s < 2 * s := by
  unfold up
  by_cases h1 : s - 1 = 0
  · rw [h1, bitLen_zero]; omega
  · obtain ⟨a, b, c⟩ := bitLen_bounds (s - 1) (by omega) h1
    obtain ⟨n, hn⟩ : ∃ n, Lib.bitLen (s - 1) = n + 1 := ⟨Lib.bitLen (s - 1) - 1, by omega⟩
    rw [hn] at b c ⊢
    rw [Nat.add_sub_cancel] at b
    rw [Nat.pow_succ] at c ⊢
    omega
theorem dn_le (s : Nat) (h : s < 2 ^ 64) (h0 : s ≠ 0) : dn s ≤ s ∧ s < 2 * dn s := by
  unfold dn
  obtain ⟨a, b, c⟩ := bitLen_bounds s h h0
  obtain ⟨n, hn⟩ : ∃ n, Lib.bitLen s = n + 1 := ⟨Lib.bitLen s - 1, by omega⟩
  rw [hn] at b c ⊢
  rw [Nat.add_sub_cancel] at b ⊢
  rw [Nat.pow_succ] at c
  omega
theorem pow_between {a b : Nat} (h : 2 ^ a < 2 * 2 ^ b) (h' : 2 ^ b < 2 * 2 ^ a) : a = b := by
  have e1 : a < b + 1 := (Nat.pow_lt_pow_iff_right (a := 2) (by decide)).mp (by rw [Nat.pow_succ]; omega)
  have e2 : b < a + 1 := (Nat.pow_lt_pow_iff_right (a := 2) (by decide)).mp (by rw [Nat.pow_succ]; omega)
  omega
theorem up_unique (s k : Nat) (h : s ≤ 2 ^ 64) (h0 : s ≠ 0) (h1 : s ≤ 2 ^ k) (h2 : 2 ^ k < 2 * s) : up s = 2 ^ k := by
  obtain ⟨a, b⟩ := up_le s h h0
  unfold up at *
  rw [pow_between (a := Lib.bitLen (s - 1)) (b := k) (by omega) (by omega)]
theorem dn_unique (s k : Nat) (h : s < 2 ^ 64) (h0 : s ≠ 0) (h1 : 2 ^ k ≤ s) (h2 : s < 2 * 2 ^ k) : dn s = 2 ^ k := by
  obtain ⟨a, b⟩ := dn_le s h h0
  unfold dn at *
  rw [pow_between (a := Lib.bitLen s - 1) (b := k) (by omega) (by omega)]

/-- Where a place leads in a size. -/
def lead (t s : Nat) : Nat :=
  if _h : s = 0 then 0 else if t < s then t else if t % up s < s then t % up s else dn s + lead (t % up s - dn s) (s - dn s)
  termination_by s
  decreasing_by
    have := dn_pos s
    omega

theorem lead_below {t s : Nat} (h : t < s) : lead t s = t := by
  rw [lead, dif_neg (by omega), if_pos h]
theorem lead_mod {t s : Nat} (h : ¬ t < s) (h0 : s ≠ 0) (h1 : t % up s < s) : lead t s = t % up s := by
  rw [lead, dif_neg h0, if_neg h, if_pos h1]
theorem lead_far {t s : Nat} (h0 : s ≠ 0) (h1 : ¬ t % up s < s) : lead t s = dn s + lead (t % up s - dn s) (s - dn s) := by
  have : t % up s ≤ t := Nat.mod_le _ _
  rw [lead, dif_neg h0, if_neg (by omega), if_neg h1]

/-- what is left when the greatest power is taken away is less than the place. -/
theorem far_facts {t s : Nat} (hs : s < 2 ^ 63) (h0 : s ≠ 0) (h1 : ¬ t % up s < s) : dn s ≤ t % up s ∧ dn s < s ∧ t % up s < up s ∧ up s ≤ 2 ^ 63 ∧ up s = 2 * dn s := by
  have hp := up_pos s
  have hm := Nat.mod_lt t hp
  obtain ⟨a, b⟩ := up_le s (by omega) h0
  obtain ⟨c, d⟩ := dn_le s (by omega) h0
  have e : up s = 2 * dn s := by
    unfold up dn at *
    have := Nat.pow_succ (n := 2) (m := Lib.bitLen s - 1)
    by_cases hk : Lib.bitLen (s - 1) = Lib.bitLen s - 1 + 1
    · rw [hk, this]; omega
    · exfalso
      have : Lib.bitLen (s - 1) = Lib.bitLen s - 1 := by
        apply pow_between
        · have : 2 ^ Lib.bitLen (s - 1) < 4 * 2 ^ (Lib.bitLen s - 1) := by omega
          have e1 : Lib.bitLen (s - 1) < Lib.bitLen s - 1 + 2 := (Nat.pow_lt_pow_iff_right (a := 2) (by decide)).mp (by rw [Nat.pow_add]; omega)
          have e2 : Lib.bitLen (s - 1) ≤ Lib.bitLen s - 1 := by omega
          have := Nat.pow_le_pow_right (n := 2) (by decide) e2
          have := two_pow_pos (Lib.bitLen s - 1)
          omega
        · omega
      rw [this] at a hm h1
      omega
  have ed : dn s < s := by omega
  have eu : up s ≤ 2 ^ 63 := by
    unfold up at *
    have e1 : Lib.bitLen (s - 1) < 64 := (Nat.pow_lt_pow_iff_right (a := 2) (by decide)).mp (by omega)
    exact Nat.pow_le_pow_right (by decide) (by omega)
  exact ⟨by omega, ed, hm, eu, e⟩

theorem lead_lt : ∀ (s t : Nat), s < 2 ^ 63 → s ≠ 0 → lead t s < s := by
  intro s
  induction s using Nat.strongRecOn with
  | _ s ih =>
    intro t hs h0
    by_cases h : t < s
    · rw [lead_below h]; exact h
    by_cases h1 : t % up s < s
    · rw [lead_mod h h0 h1]; exact h1
    · rw [lead_far h0 h1]
      obtain ⟨a, b, c, d, e⟩ := far_facts hs h0 h1
      have := dn_pos s
      have := ih (s - dn s) (by omega) (t % up s - dn s) (by omega) (by omega)
      omega

theorem lead_same {s t u : Nat} (hs : s < 2 ^ 63) (h0 : s ≠ 0) (h : t % up s = u % up s) : lead t s = lead u s := by
  have key : ∀ x, lead x s = lead (x % up s) s := by
    intro x
    have hm := Nat.mod_lt x (up_pos s)
    obtain ⟨a, b⟩ := up_le s (by omega) h0
    by_cases hx : x < s
    · rw [Nat.mod_eq_of_lt (show x < up s by omega)]
    by_cases h1 : x % up s < s
    · rw [lead_mod hx h0 h1, lead_below h1]
    · rw [lead_far h0 h1, lead_far (t := x % up s) h0 (by rw [Nat.mod_mod]; exact h1), Nat.mod_mod]
  rw [key t, key u, h]
end Go.Proofs.Ythhahhmdpjchkaa
