/-
  What stands at an address: the numbers.
-/
import Derived.Test.YthhahhmdpjchkaaLead
namespace Go.Proofs.Ythhahhmdpjchkaa

def ramHolds (l b p : Nat) : Bool := if l = 1 then decide (b / 16 % 8 = 7 ∧ p < 32768) else decide (b / 32 % 4 = 1 ∧ 24576 ≤ p ∧ p < 32768)
def ramAt (l b p : Nat) : Nat := if l = 1 then b % 16 * 32768 + p else b % 32 * 8192 + p - 24576
def romHolds (l b p : Nat) : Bool := if l = 1 then decide (32768 ≤ p) else decide (b / 64 % 2 = 1 ∨ 32768 ≤ p)
def moreOf (l : Nat) : Nat := if l = 3 then 4194304 else 0
def romAt (l b p : Nat) : Nat := if l = 1 then b % 128 * 32768 + p - 32768 else b % 64 * 65536 + p + (if b < 128 then moreOf l else 0)
/-- Kind and number of the byte that stands there. -/
def spotBP (l n m b p : Nat) : Nat × Nat :=
  if b = 126 ∨ b = 127 then (0, 0) else if decide (0 < m) && ramHolds l b p then (2, ramAt l b p % m) else if romHolds l b p then (1, lead (romAt l b p) n) else (0, 0)
def spot (l n m a : Nat) : Nat × Nat := spotBP l n m (a / 65536 % 256) (a % 65536)

theorem spot_is_gap {l n m B P : Nat} (h : B = 126 ∨ B = 127) : spotBP l n m B P = (0, 0) := if_pos h
theorem spot_is_ram {l n m B P : Nat} (h : ¬ (B = 126 ∨ B = 127)) (hm : 0 < m) (hr : ramHolds l B P = true) : spotBP l n m B P = (2, ramAt l B P % m) := by
  unfold spotBP
  rw [if_neg h, if_pos (by rw [hr, decide_eq_true hm]; rfl)]
theorem spot_is_rom {l n m B P : Nat} (h : ¬ (B = 126 ∨ B = 127)) (hr : m = 0 ∨ ramHolds l B P = false) (ho : romHolds l B P = true) : spotBP l n m B P = (1, lead (romAt l B P) n) := by
  unfold spotBP
  rw [if_neg h, if_neg (by rcases hr with rfl | hr; simp; rw [hr]; simp), if_pos ho]
theorem spot_is_none {l n m B P : Nat} (hr : m = 0 ∨ ramHolds l B P = false) (ho : romHolds l B P = false) : spotBP l n m B P = (0, 0) := by
  unfold spotBP
  by_cases h : B = 126 ∨ B = 127
  · rw [if_pos h]
  · rw [if_neg h, if_neg (by rcases hr with rfl | hr; simp; rw [hr]; simp), if_neg (by rw [ho]; decide)]
theorem spot_kind (l n m a : Nat) : (spot l n m a).1 = 0 ∨ (spot l n m a).1 = 1 ∨ (spot l n m a).1 = 2 := by
  unfold spot spotBP
  split
  · exact .inl rfl
  split
  · exact .inr (.inr rfl)
  split
  · exact .inr (.inl rfl)
  · exact .inl rfl
theorem spot_none (l n m a : Nat) (h : (spot l n m a).1 = 0) : spot l n m a = (0, 0) := by
  unfold spot spotBP at *
  split
  · rfl
  rename_i h1
  rw [if_neg h1] at h
  split
  · rename_i h2
    rw [if_pos h2] at h
    cases h
  rename_i h2
  rw [if_neg h2] at h
  split
  · rename_i h3
    rw [if_pos h3] at h
    cases h
  · rfl
theorem spot_rom (l n m a : Nat) (hn : 1 ≤ n) (hn2 : n < 2 ^ 63) (h : (spot l n m a).1 = 1) : (spot l n m a).2 < n := by
  unfold spot spotBP at *
  split at h
  · cases h
  rename_i h1
  rw [if_neg h1]
  split at h
  · cases h
  rename_i h2
  rw [if_neg h2]
  split at h
  · rename_i h3
    rw [if_pos h3]
    exact lead_lt _ _ hn2 (by omega)
  · cases h
theorem spot_ram (l n m a : Nat) (h : (spot l n m a).1 = 2) : (spot l n m a).2 < m := by
  unfold spot spotBP at *
  split at h
  · cases h
  rename_i h1
  rw [if_neg h1]
  split at h
  · rename_i h2
    rw [if_pos h2]
    simp only [Bool.and_eq_true, decide_eq_true_eq] at h2
    exact Nat.mod_lt _ h2.1
  rename_i h2
  split at h
  · cases h
  · cases h
theorem romAt_lt (l b p : Nat) (hp : p < 65536) : romAt l b p < 16777216 := by
  have h : moreOf l ≤ 4194304 := by unfold moreOf; split <;> omega
  unfold romAt
  split
  · omega
  · by_cases h2 : b < 128
    · rw [if_pos h2]; omega
    · rw [if_neg h2]; omega
theorem ramAt_lt (l b p : Nat) (hp : p < 65536) : ramAt l b p < 16777216 := by
  unfold ramAt
  split <;> omega
end Go.Proofs.Ythhahhmdpjchkaa
