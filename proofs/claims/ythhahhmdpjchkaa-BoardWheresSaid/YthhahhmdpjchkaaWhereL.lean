/-
  The lists of addresses: what 'all' gives rises; the first bytes of a rom of layout 1 are among them.
-/
import Derived.Test.YthhahhmdpjchkaaWhereK
namespace Go.Proofs.Ythhahhmdpjchkaa

/-- Rising. -/
def Rises (xs : List Ad) : Prop := xs.Pairwise (fun a b => a.1 < b.1)
theorem rowA_mem {f a : Nat} {x : Ad} (h : x ∈ rowA f a) (hf : f + a ≤ 16777216) : f ≤ x.1 ∧ x.1 < f + a := by
  obtain ⟨t, ht, rfl⟩ := List.mem_map.1 h
  have := List.mem_range.1 ht
  rw [ad_val (by omega)]
  omega
theorem rowA_rises (f a : Nat) (hf : f + a ≤ 16777216) : Rises (rowA f a) := by
  induction a with
  | zero => exact List.Pairwise.nil
  | succ a ih =>
    rw [rowA_step]
    refine List.pairwise_append.2 ⟨ih (by omega), List.pairwise_singleton _ _, fun x hx y hy => ?_⟩
    rw [List.mem_singleton.1 hy, ad_val (by omega)]
    exact (rowA_mem hx (by omega)).2
theorem upA_mem {kd : Nat → Nat} {K i : Nat} {x : Ad} (h : x ∈ upA kd K i) (hi : i ≤ 2048) : x.1 < 8192 * i := by
  induction i with
  | zero => cases h
  | succ i ih =>
    rw [upA] at h
    rcases List.mem_append.1 h with h | h
    · have := ih h (by omega); omega
    · split at h
      · have := rowA_mem h (by omega); omega
      · cases h
theorem upA_rises (kd : Nat → Nat) (K i : Nat) (hi : i ≤ 2048) : Rises (upA kd K i) := by
  induction i with
  | zero => exact List.Pairwise.nil
  | succ i ih =>
    rw [upA]
    refine List.pairwise_append.2 ⟨ih (by omega), ?_, fun x hx y hy => ?_⟩
    · split
      · exact rowA_rises _ _ (by omega)
      · exact List.Pairwise.nil
    · have h1 := upA_mem hx (by omega)
      split at hy
      · have := (rowA_mem hy (by omega)).1; omega
      · cases hy
theorem upA_length (kd : Nat → Nat) (K i : Nat) : (upA kd K i).length ≤ 8192 * i := by
  induction i with
  | zero => exact Nat.zero_le _
  | succ i ih =>
    rw [upA, List.length_append]
    split
    · simp only [rowA, List.length_map, List.length_range]; omega
    · simp only [List.length_nil]; omega
theorem upA_has {kd : Nat → Nat} {K i : Nat} {q : Nat} (hq : q < 8192 * i) (hi : i ≤ 2048) (hk : kd (8192 * (q / 8192)) = K) : ad q ∈ upA kd K i := by
  induction i with
  | zero => omega
  | succ i ih =>
    rw [upA]
    by_cases h : q < 8192 * i
    · exact List.mem_append_left _ (ih h (by omega))
    · refine List.mem_append_right _ ?_
      have e : q / 8192 = i := by omega
      rw [e] at hk
      rw [if_pos hk]
      exact List.mem_map.2 ⟨q - 8192 * i, List.mem_range.2 (by omega), by congr 1; omega⟩
/-- A list that rises, of addresses at which (K, Z) stands. -/
def Goes (l n m K : Nat) (Z : Int) (xs : List Ad) : Prop := Rises xs ∧ ∀ x ∈ xs, (spot l n m x.1).1 = K ∧ ((spot l n m x.1).2 : Int) = Z
theorem allHits_goes (l n m K : Nat) (Z : Int) : Goes l n m K Z (allHits l n m K Z) := by
  unfold allHits
  split
  · exact ⟨List.Pairwise.filter _ (upA_rises _ _ _ (Nat.le_refl _)), fun x hx => by simpa [hits] using (List.mem_filter.1 hx).2⟩
  · exact ⟨List.Pairwise.nil, fun x hx => by cases hx⟩
theorem Goes.prefix {l n m K : Nat} {Z : Int} {xs ys : List Ad} (h : Goes l n m K Z ys) (hp : xs <+: ys) : Goes l n m K Z xs :=
  ⟨h.1.sublist hp.sublist, fun x hx => h.2 x (hp.sublist.subset hx)⟩
/-- The last one, 0 where there is none. -/
def lastA (xs : List Ad) : Nat := match xs.getLast? with | some x => x.1 | none => 0
theorem lastA_append (xs : List Ad) (x : Ad) : lastA (xs ++ [x]) = x.1 := by simp [lastA]
theorem Goes.append {l n m K : Nat} {Z : Int} {xs : List Ad} {x : Ad} (h : Goes l n m K Z xs) (h1 : 0 < xs.length → lastA xs < x.1) (h2 : (spot l n m x.1).1 = K ∧ ((spot l n m x.1).2 : Int) = Z) : Goes l n m K Z (xs ++ [x]) := by
  refine ⟨List.pairwise_append.2 ⟨h.1, List.pairwise_singleton _ _, fun y hy z hz => ?_⟩, fun y hy => ?_⟩
  · rw [List.mem_singleton.1 hz]
    rcases List.eq_nil_or_concat xs with rfl | ⟨ys, u, e⟩
    · cases hy
    · rw [List.concat_eq_append] at e
      rw [e] at hy h h1
      have h3 := h1 (by simp)
      rw [lastA_append] at h3
      rcases List.mem_append.1 hy with hy | hy
      · have := (List.pairwise_append.1 h.1).2.2 y hy u (by simp)
        omega
      · rw [List.mem_singleton.1 hy]; exact h3
  · rcases List.mem_append.1 hy with hy | hy
    · exact h.2 y hy
    · rw [List.mem_singleton.1 hy]; exact h2
theorem Goes.last {l n m K : Nat} {Z : Int} {xs : List Ad} {x : Ad} (h : Goes l n m K Z (xs ++ [x])) : (0 < xs.length → lastA xs < x.1) ∧ (spot l n m x.1).1 = K ∧ ((spot l n m x.1).2 : Int) = Z := by
  refine ⟨fun hl => ?_, h.2 x (by simp)⟩
  rcases List.eq_nil_or_concat xs with rfl | ⟨ys, u, e⟩
  · simp at hl
  · rw [List.concat_eq_append] at e
    rw [e] at h ⊢
    rw [lastA_append]
    exact (List.pairwise_append.1 h.1).2.2 u (by simp) x (by simp)
/-- The first bytes of a rom of layout 1 stand from 32768 on. -/
theorem low_hit {n m : Nat} {Z : Int} (h0 : 0 ≤ Z) (h1 : Z < n) (h2 : Z < 32768) : 0 < (allHits 1 n m 1 Z).length := by
  obtain ⟨z, rfl⟩ := Int.eq_ofNat_of_zero_le h0
  have hs : ∀ q, 32768 ≤ q → q < 65536 → spot 1 n m q = (1, lead (q - 32768) n) := fun q hq hq2 => by
    unfold spot
    rw [show q / 65536 % 256 = 0 by omega, show q % 65536 = q by omega]
    have h3 : ramHolds 1 0 q = false := by simp [ramHolds]
    rw [spot_is_rom (by omega) (.inr h3) (by simp only [romHolds]; simpa using hq)]
    simp [romAt]
  unfold allHits
  rw [if_pos ⟨by omega, by simpa [lenK] using h1⟩]
  refine List.length_pos_of_mem (a := ad (32768 + z)) (List.mem_filter.2 ⟨upA_has (by omega) (Nat.le_refl _) ?_, ?_⟩)
  · rw [hs _ (by omega) (by omega)]
  · rw [ad_val (by omega), hs _ (by omega) (by omega)]
    simp only [decide_eq_true_eq, true_and]
    rw [show 32768 + z - 32768 = z by omega, lead_below (by omega)]
end Go.Proofs.Ythhahhmdpjchkaa
