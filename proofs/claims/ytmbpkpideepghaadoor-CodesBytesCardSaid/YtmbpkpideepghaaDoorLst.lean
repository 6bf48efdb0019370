/-
  The document's parts as lists of numbers.
-/
import Derived.Test.YtmbpkpideepghaaDoorOf
namespace Go.Proofs.YtmbpkpideepghaaDoor
open Go.RowKit
set_option maxRecDepth 1000000
set_option maxHeartbeats 4000000
set_option linter.unusedVariables false

/-- The n-th part of a list that b parts. -/
def partL (b : Nat) : List Nat → Nat → List Nat
  | [], _ => []
  | x :: l, n => if x = b then (if n = 0 then [] else partL b l (n - 1)) else (if n = 0 then x :: partL b l 0 else partL b l n)
theorem bytesN_size (l : List Nat) : (bytesN l).size = l.length := by simp [bytesN, ByteArray.size]
theorem bytesN_get (l : List Nat) (hl : ∀ x ∈ l, x < 256) (i : Nat) (h : i < (bytesN l).size) (h' : i < l.length) : (bytesN l)[i].toNat = l[i] := by
  have : l[i] < 256 := hl _ (List.getElem_mem h')
  simp [bytesN, ByteArray.getElem_eq_getElem_data]
  try omega
theorem bytesN_extract (l : List Nat) (a b : Nat) : (bytesN l).extract a b = bytesN ((l.drop a).take (b - a)) := by
  apply ByteArray.ext
  simp [bytesN, ByteArray.data_extract]
theorem partG_list (l : List Nat) (hl : ∀ x ∈ l, x < 256) (b : Nat) : ∀ k i n fr, k = l.length + 1 - i → fr ≤ i → i ≤ l.length + 1 →
    partG (bytesN l) b k i n fr = if n = 0 ∧ i ≤ l.length then bytesN ((l.drop fr).take (i - fr) ++ partL b (l.drop i) 0) else bytesN (partL b (l.drop i) n) := by
  intro k
  induction k with
  | zero =>
    intro i n fr hk hfr hi
    obtain rfl : i = l.length + 1 := by omega
    rw [partG, if_neg (by omega), List.drop_eq_nil_of_le (by omega)]
    rfl
  | succ k ih =>
    intro i n fr hk hfr hi
    rw [partG]
    by_cases hlt : i < l.length
    · rw [dif_pos (by rw [bytesN_size]; exact hlt), bytesN_get l hl i _ hlt]
      have hd : l.drop i = l[i] :: l.drop (i + 1) := List.drop_eq_getElem_cons hlt
      by_cases hx : l[i] = b
      · rw [if_pos hx]
        by_cases h0 : n = 0
        · subst h0
          rw [if_pos rfl, if_pos ⟨rfl, by omega⟩, bytesN_extract, hd, partL, if_pos hx, if_pos rfl, List.append_nil]
        · rw [if_neg h0, if_neg (show ¬(n = 0 ∧ i ≤ l.length) from fun h => h0 h.1), ih (i + 1) (n - 1) (i + 1) (by omega) (by omega) (by omega), hd]
          conv => rhs; rw [partL, if_pos hx, if_neg h0]
          by_cases h1 : n - 1 = 0
          · rw [if_pos ⟨h1, by omega⟩, h1]; simp
          · rw [if_neg (fun h => h1 h.1)]
      · rw [if_neg hx, ih (i + 1) n fr (by omega) (by omega) (by omega)]
        by_cases h0 : n = 0
        · subst h0
          rw [if_pos ⟨rfl, by omega⟩, if_pos ⟨rfl, by omega⟩, hd, partL, if_neg hx, if_pos rfl]
          congr 1
          rw [show i + 1 - fr = (i - fr) + 1 by omega, List.take_succ_eq_append_getElem (by simp; omega)]
          simp [show fr + (i - fr) = i by omega]
        · rw [if_neg (fun h => h0 h.1), if_neg (fun h => h0 h.1), hd]
          conv => rhs; rw [partL, if_neg hx, if_neg h0]
    · rw [dif_neg (by rw [bytesN_size]; exact hlt)]
      obtain rfl | rfl : i = l.length ∨ i = l.length + 1 := by omega
      · by_cases h0 : n = 0
        · subst h0
          rw [if_pos rfl, if_pos ⟨rfl, by omega⟩, bytesN_extract, List.drop_length]
          simp [partL]
        · rw [if_neg h0, ih _ _ _ (by omega) (by omega) (by omega), if_neg (fun h => by omega), if_neg (fun h => h0 h.1), List.drop_length, List.drop_eq_nil_of_le (by omega)]
          simp [partL]
      · omega
theorem partF_list (l : List Nat) (hl : ∀ x ∈ l, x < 256) (n b : Nat) : partF (bytesN l) n b = bytesN (partL b l n) := by
  unfold partF
  rw [bytesN_size, partG_list l hl b _ 0 n 0 (by omega) (by omega) (by omega)]
  by_cases h : n = 0
  · subst h; simp
  · rw [if_neg (fun h' => h h'.1)]; simp

theorem bytesN_list (l : List Nat) : (bytesN l).toList = l.map UInt8.ofNat := by simp [bytesN]
def docL (c : Nat) : List Nat := partL 124 (rowN (c / 16)) (c % 16)
theorem rows_byte (k : Nat) (hk : k < 16) : ∀ x ∈ rowN k, x < 256 := (show ∀ k : Nat, k < 16 → ∀ x ∈ rowN k, x < 256 by decide +kernel) k hk
theorem rows_size (k : Nat) (hk : k < 16) : (bytesN (rowN k)).size ≤ 1000000 := by
  rw [bytesN_size]
  exact (show ∀ k : Nat, k < 16 → (rowN k).length ≤ 1000000 by decide +kernel) k hk
def docS (c : Nat) : ByteArray := partF (bytesN (rowN (c / 16))) (c % 16) 124
theorem docS_list (c : Nat) (hc : c < 256) : docS c = bytesN (docL c) := partF_list _ (rows_byte _ (by omega)) _ _
theorem docL_size (c : Nat) (hc : c < 256) : 3 ≤ (docL c).length ∧ (docL c).length ≤ 100 := (show ∀ c : Nat, c < 256 → 3 ≤ (docL c).length ∧ (docL c).length ≤ 100 by decide +kernel) c hc
theorem docS_size (c : Nat) (hc : c < 256) : 3 ≤ (docS c).size ∧ (docS c).size ≤ 100 := by
  rw [docS_list c hc, bytesN_size]
  exact docL_size c hc
end Go.Proofs.YtmbpkpideepghaaDoor
