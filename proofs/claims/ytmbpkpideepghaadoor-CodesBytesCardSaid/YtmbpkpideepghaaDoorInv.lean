/-
  A text says its number: the digits, read again.
-/
import Derived.Test.YtmbpkpideepghaaDoorSkl
import Derived.Test.YtmbpkpideepghaaDoorROp
import Derived.Test.YtmbpkpideepghaaDoorWth
namespace Go.Proofs.YtmbpkpideepghaaDoor
open Go.RowKit
set_option maxRecDepth 100000
set_option maxHeartbeats 1000000
set_option linter.unusedVariables false

theorem digitN_dig (y : Nat) (hy : y < 16) : isDig (digitN y) = true := (show ∀ y, y < 16 → isDig (digitN y) = true by decide +kernel) y hy
theorem stepD_dig (n y : Nat) (hy : y < 16) (hn : n * 16 + 15 < 4294967296) : stepD n (digitN y) = n * 16 + y := by
  unfold stepD digitN
  by_cases h : y < 10
  · rw [if_pos h, if_pos (by omega), Nat.mod_eq_of_lt (by omega)]; omega
  · rw [if_neg h, if_neg (by omega), if_pos (by omega), Nat.mod_eq_of_lt (by omega)]; omega
theorem fold_low (x : Nat) : ∀ d n, (n + 1) * 16 ^ d ≤ 4294967296 → (lowL x d).foldl stepD n = n * 16 ^ d + x % 16 ^ d
  | 0, n, _ => by simp [lowL, Nat.mod_one]
  | d + 1, n, h => by
    have hp : 0 < 16 ^ d := Nat.pow_pos (by decide)
    have h16 : 16 ^ (d + 1) = 16 * 16 ^ d := by rw [Nat.pow_succ]; omega
    have hy : x / 16 ^ d % 16 < 16 := Nat.mod_lt _ (by decide)
    have hb : (n + 1) * (16 * 16 ^ d) = ((n * 16 + 15) + 1) * 16 ^ d := by
      rw [← Nat.mul_assoc]; congr 1; omega
    have hn : n * 16 + 15 < 4294967296 := by
      rw [h16, hb] at h
      have := Nat.le_mul_of_pos_right (n * 16 + 15 + 1) (show 0 < 16 ^ d by omega)
      omega
    rw [lowL, List.foldl_cons, stepD_dig n _ hy hn, fold_low x d (n * 16 + x / 16 ^ d % 16) ?_]
    · have hm : x % 16 ^ (d + 1) = x % 16 ^ d + 16 ^ d * (x / 16 ^ d % 16) := by rw [Nat.pow_succ, Nat.mod_mul]
      rw [hm, h16, Nat.add_mul, Nat.mul_assoc, Nat.mul_comm (x / 16 ^ d % 16)]
      omega
    · rw [h16, hb] at h
      exact Nat.le_trans (Nat.mul_le_mul_right _ (by omega)) h
theorem fold_dol (x d n : Nat) (h : (n + 1) * 16 ^ d ≤ 4294967296) : (dolL x d d).foldl stepD n = n * 16 ^ d + x % 16 ^ d := by
  rw [dolL_eq, List.foldl_cons, show stepD n 36 = n from rfl]
  exact fold_low x d n h
/-! A text's shape says its code. -/
theorem skel_append (a b : List Nat) : skel (a ++ b) = skel a ++ skel b := by simp [skel]
theorem skel_cons (x : Nat) (l : List Nat) : skel (x :: l) = (if isDig x = true then 48 else x) :: skel l := rfl
theorem skel_low (x : Nat) : ∀ d, skel (lowL x d) = List.replicate d 48
  | 0 => rfl
  | d + 1 => by
    have : skel (lowL x (d + 1)) = 48 :: skel (lowL x d) := by
      rw [lowL]
      simp only [skel, List.map_cons]
      rw [if_pos (digitN_dig _ (Nat.mod_lt _ (by decide)))]
    rw [this, skel_low x d]
    rfl
theorem skel_dol (x d : Nat) : skel (dolL x d d) = 36 :: List.replicate d 48 := by
  rw [dolL_eq, show 36 :: lowL x d = [36] ++ lowL x d from rfl, skel_append, skel_low]
  rfl
theorem skel_piece (k : Nat) (f f' : Nat → Nat) (t t' s : Nat) : skel (pieceL k f t s) = skel (pieceL k f' t' s) := by
  unfold pieceL
  split
  · rw [skel_dol, skel_dol]
  · split
    · rw [skel_dol, skel_dol]
    · split
      · rw [skel_dol, skel_dol]
      · split
        · rw [skel_dol, skel_dol]
        · rfl
theorem skel_pieces (k : Nat) (f f' : Nat → Nat) (t t' : Nat) : ∀ l, skel (piecesL k f t l) = skel (piecesL k f' t' l)
  | [] => rfl
  | s :: l => by
    have ih := skel_pieces k f f' t t' l
    simp only [piecesL, List.flatMap_cons, skel_append] at ih ⊢
    rw [skel_piece k f f' t t' s, ih]
theorem skel_text (c k : Nat) (f : Nat → Nat) (pc : Nat) : skel (textL c k f pc) = skT c k := by
  unfold skT textL
  rw [skel_append, skel_append]
  congr 1
  split
  · rfl
  · rw [skel_cons, skel_cons]
    congr 1
    unfold opL
    exact skel_pieces _ _ _ _ _ _
theorem text_inj (a b p : Nat) (f f' : Nat → Nat) (pc pc' : Nat) (ha : a < 256) (hb : b < 256) (h : textL a (operN a p) f pc = textL b (operN b p) f' pc') : a = b := by
  have := congrArg skel h
  rw [skel_text, skel_text] at this
  exact skT_inj a b p ha hb this
/-! The number of an operand's text. -/
def plainS (s : Nat) : Bool := s != 110 && s != 116 && s != 49 && s != 50 && !isDig s
theorem stepD_plain (n s : Nat) (h : isDig s = false) : stepD n s = n := by
  unfold isDig at h
  unfold stepD
  rw [if_neg (by rintro ⟨a, b⟩; simp [a, b] at h), if_neg (by rintro ⟨a, b⟩; simp [a, b] at h)]
/-- What one sign of a form makes of the number. -/
def gS (k : Nat) (f : Nat → Nat) (t n s : Nat) : Nat := if s = 110 then n * 16 ^ (2 * k) + numN f k % 16 ^ (2 * k) else if s = 116 then n * 16 ^ 4 + t % 16 ^ 4 else if s = 49 then n * 16 ^ 2 + f 0 % 16 ^ 2 else if s = 50 then n * 16 ^ 2 + f 1 % 16 ^ 2 else n
theorem fold_piece (k : Nat) (f : Nat → Nat) (t n s : Nat) (hk : k ≤ 3) (hn : n = 0 ∨ (s ≠ 110 ∧ s ≠ 116 ∧ n < 256) ∨ (s ≠ 110 ∧ s ≠ 116 ∧ s ≠ 49 ∧ s ≠ 50)) (hs : s = 110 ∨ s = 116 ∨ s = 49 ∨ s = 50 ∨ isDig s = false) : (pieceL k f t s).foldl stepD n = gS k f t n s := by
  have hp : 16 ^ (2 * k) ≤ 16 ^ 6 := Nat.pow_le_pow_right (by decide) (by omega)
  have h6 : (16 : Nat) ^ 6 = 16777216 := by decide
  have h4 : (16 : Nat) ^ 4 = 65536 := by decide
  have h2 : (16 : Nat) ^ 2 = 256 := by decide
  unfold pieceL gS
  split
  · rename_i h
    obtain rfl : n = 0 := by rcases hn with h0 | h0 | h0 <;> omega
    exact fold_dol _ _ _ (by omega)
  · rename_i h
    split
    · rename_i h'
      obtain rfl : n = 0 := by rcases hn with h0 | h0 | h0 <;> omega
      exact fold_dol _ _ _ (by omega)
    · rename_i h'
      split
      · rename_i h''
        exact fold_dol _ _ _ (by rw [h2]; rcases hn with h0 | h0 | h0 <;> omega)
      · rename_i h''
        split
        · rename_i h'''
          exact fold_dol _ _ _ (by rw [h2]; rcases hn with h0 | h0 | h0 <;> omega)
        · rename_i h'''
          rw [List.foldl_cons, List.foldl_nil]
          refine stepD_plain n s ?_
          rcases hs with h0 | h0 | h0 | h0 | h0
          · exact absurd h0 h
          · exact absurd h0 h'
          · exact absurd h0 h''
          · exact absurd h0 h'''
          · exact h0
theorem fold_pieces (k : Nat) (f : Nat → Nat) (t n : Nat) (s : Nat) (l : List Nat) : (piecesL k f t (s :: l)).foldl stepD n = (piecesL k f t l).foldl stepD ((pieceL k f t s).foldl stepD n) := by
  simp [piecesL, List.foldl_append]
theorem fold_plain (k : Nat) (f : Nat → Nat) (t n : Nat) : ∀ l, (∀ s ∈ l, plainS s = true) → (piecesL k f t l).foldl stepD n = n
  | [], _ => rfl
  | s :: l, h => by
    have hs := h s List.mem_cons_self
    simp only [plainS, Bool.and_eq_true, bne_iff_ne, ne_eq, Bool.not_eq_true'] at hs
    obtain ⟨⟨⟨⟨a, b⟩, c⟩, d⟩, e⟩ := hs
    rw [fold_pieces, pieceL_o _ _ _ _ a b c d, List.foldl_cons, List.foldl_nil, stepD_plain n s e]
    exact fold_plain k f t n l (fun s hs => h s (List.mem_cons_of_mem _ hs))
theorem fold_split (k : Nat) (f : Nat → Nat) (t n : Nat) (a b : List Nat) : (piecesL k f t (a ++ b)).foldl stepD n = (piecesL k f t b).foldl stepD ((piecesL k f t a).foldl stepD n) := by
  simp [piecesL, List.foldl_append]
/-- A form of one number: what stands ahead of it. -/
def preN : List Nat → List Nat
  | [] => []
  | s :: l => if s = 110 then [] else s :: preN l
def postN : List Nat → List Nat
  | [] => []
  | s :: l => if s = 110 then l else postN l
theorem form_nB : ∀ m, m < 26 → (m == 0 || m == 1 || m == 3 || m == 4 || m == 23 || (formL m == preN (formL m) ++ 110 :: postN (formL m) && (preN (formL m)).all plainS && (postN (formL m)).all plainS)) = true := by decide +kernel
theorem form_n (m : Nat) (hm : m < 26) (h0 : m ≠ 0) (h1 : m ≠ 1) (h3 : m ≠ 3) (h4 : m ≠ 4) (h23 : m ≠ 23) : formL m = preN (formL m) ++ 110 :: postN (formL m) ∧ (preN (formL m)).all plainS = true ∧ (postN (formL m)).all plainS = true := by
  have h := form_nB m hm
  simp only [Bool.or_eq_true, beq_iff_eq, Bool.and_eq_true] at h
  rcases h with ((((h | h) | h) | h) | h) | h
  · exact absurd h h0
  · exact absurd h h1
  · exact absurd h h3
  · exact absurd h h4
  · exact absurd h h23
  · exact ⟨h.1.1, h.1.2, h.2⟩
/-- The number that an operand's text says. -/
def saysN (m k : Nat) (f : Nat → Nat) (pc : Nat) : Nat := if m = 3 ∨ m = 4 then tgN m k f pc else if m = 23 then f 0 * 256 + f 1 else if m = 0 ∨ m = 1 then 0 else numN f k
theorem says_op (m k : Nat) (f : Nat → Nat) (pc : Nat) (hm : m < 26) (hm0 : m ≠ 0) (hk : k ≤ 3) (hf : ∀ i, i < k → f i < 256) (h23 : m = 23 → k = 2) : (opL m k f pc).foldl stepD 0 = saysN m k f pc := by
  have h4 : (16 : Nat) ^ 4 = 65536 := by decide
  have h2 : (16 : Nat) ^ 2 = 256 := by decide
  unfold saysN
  by_cases e34 : m = 3 ∨ m = 4
  · rw [if_pos e34, op_34 m k f pc e34, fold_dol _ _ _ (by decide), h4]
    have : tgN m k f pc < 65536 := by unfold tgN; exact Nat.mod_lt _ (by decide)
    omega
  rw [if_neg e34]
  by_cases e23 : m = 23
  · subst e23
    obtain rfl := h23 rfl
    have a := hf 0 (by omega)
    have b := hf 1 (by omega)
    rw [if_pos rfl, op_23, List.foldl_append, fold_dol _ _ _ (by decide), List.foldl_cons, show ∀ n, stepD n 44 = n from fun _ => rfl, fold_dol _ _ _ (by rw [h2]; omega), h2]
    omega
  rw [if_neg e23]
  by_cases e1 : m = 1
  · subst e1
    rw [if_pos (.inr rfl), op_1]
    rfl
  rw [if_neg (by omega)]
  obtain ⟨hform, hpre, hpost⟩ := form_n m hm hm0 e1 (by omega) (by omega) e23
  unfold opL
  rw [hform, fold_split, fold_plain _ _ _ _ _ (fun s hs => List.all_eq_true.1 hpre s hs), fold_pieces, pieceL_n]
  have hp : 16 ^ (2 * k) ≤ 16 ^ 6 := Nat.pow_le_pow_right (by decide) (by omega)
  have h6 : (16 : Nat) ^ 6 = 16777216 := by decide
  rw [fold_dol _ _ _ (by omega), fold_plain _ _ _ _ _ (fun s hs => List.all_eq_true.1 hpost s hs)]
  have hlt := numN_lt (f := f) (n := k) hf
  have e : (2 : Nat) ^ (8 * k) = 16 ^ (2 * k) := by rw [show (16 : Nat) = 2 ^ 4 from rfl, ← Nat.pow_mul]; congr 1; omega
  rw [e] at hlt
  rw [Nat.mod_eq_of_lt hlt]
  omega
/-- The bytes f, k of them. -/
def listF (f : Nat → Nat) : Nat → List Nat
  | 0 => []
  | i + 1 => listF f i ++ [f i]
theorem withL_same (c k n pc : Nat) (f : Nat → Nat) : ∀ i, (∀ j, j < i → withN (modeF c) k n pc / 256 ^ j % 256 = f j) → withL c k n pc i = c :: listF f i
  | 0, _ => rfl
  | i + 1, h => by
    rw [withL, withL_same c k n pc f i (fun j hj => h j (by omega)), h i (by omega)]
    rfl
theorem with_says (m k : Nat) (f : Nat → Nat) (pc : Nat) (hk : k ≤ 3) (hf : ∀ i, i < k → f i < 256) (h01 : m = 0 ∨ m = 1 → k = 0) (h3 : m = 3 → k = 1) (h4 : m = 4 → k = 2) (h23 : m = 23 → k = 2) (hpc : pc < 65536) :
    ∀ j, j < k → withN m k (saysN m k f pc) pc / 256 ^ j % 256 = f j := by
  intro j hj
  have hf0 : 0 < k → f 0 < 256 := fun h => hf 0 h
  have hf1 : 1 < k → f 1 < 256 := fun h => hf 1 h
  have hf2 : 2 < k → f 2 < 256 := fun h => hf 2 h
  have n1 : numN f 1 = f 0 := by simp [numN]
  have n2 : numN f 2 = f 0 + f 1 * 256 := by simp [numN]
  have n3 : numN f 3 = f 0 + f 1 * 256 + f 2 * 65536 := by simp [numN]
  unfold withN saysN
  by_cases e3 : m = 3
  · obtain rfl := h3 e3
    obtain rfl : j = 0 := by omega
    have := hf0 (by omega)
    rw [if_pos (.inl e3), if_pos (.inl e3)]
    unfold tgN extN
    rw [if_pos e3, Nat.pow_zero, Nat.div_one]
    clear n1 n2 n3 hf hf0 hf1 hf2 h01 h3 h4 h23
    generalize f 0 = a at *
    split <;> omega
  by_cases e4 : m = 4
  · obtain rfl := h4 e4
    have a0 := hf0 (by omega)
    have a1 := hf1 (by omega)
    rw [if_pos (.inr e4), if_pos (.inr e4)]
    unfold tgN
    rw [if_neg e3, n2]
    clear n1 n2 n3 hf hf0 hf1 hf2 h01 h3 h4 h23
    rcases (show j = 0 ∨ j = 1 by omega) with rfl | rfl
    · rw [Nat.pow_zero, Nat.div_one]
      generalize f 0 = a at *
      generalize f 1 = b at *
      omega
    · rw [Nat.pow_one]
      generalize f 0 = a at *
      generalize f 1 = b at *
      omega
  have e34 : ¬ (m = 3 ∨ m = 4) := by omega
  rw [if_neg e34, if_neg e34]
  by_cases e23 : m = 23
  · obtain rfl := h23 e23
    have a0 := hf0 (by omega)
    have a1 := hf1 (by omega)
    rw [if_pos e23, if_pos e23]
    clear n1 n2 n3 hf hf0 hf1 hf2 h01 h3 h4 h23
    have q1 : (f 0 * 256 + f 1) / 256 % 256 = f 0 := by omega
    have q2 : (f 0 * 256 + f 1) * 256 % 4294967296 = f 0 * 65536 + f 1 * 256 := by omega
    rw [q1, q2]
    rcases (show j = 0 ∨ j = 1 by omega) with rfl | rfl
    · rw [Nat.pow_zero, Nat.div_one]
      omega
    · rw [Nat.pow_one]
      have q3 : (f 0 + (f 0 * 65536 + f 1 * 256)) / 256 = f 0 * 256 + f 1 := by omega
      rw [q3]
      omega
  rw [if_neg e23, if_neg e23, if_neg (fun h => by have := h01 h; omega)]
  clear hf h01 h3 h4 h23
  rcases (show k = 1 ∨ k = 2 ∨ k = 3 by omega) with rfl | rfl | rfl
  · have := hf0 (by omega)
    obtain rfl : j = 0 := by omega
    rw [n1, Nat.pow_zero, Nat.div_one]; omega
  · have := hf0 (by omega)
    have := hf1 (by omega)
    rw [n2]
    rcases (show j = 0 ∨ j = 1 by omega) with rfl | rfl
    · rw [Nat.pow_zero, Nat.div_one]; omega
    · rw [Nat.pow_one]; omega
  · have := hf0 (by omega)
    have := hf1 (by omega)
    have := hf2 (by omega)
    rw [n3]
    rcases (show j = 0 ∨ j = 1 ∨ j = 2 by omega) with rfl | rfl | rfl
    · rw [Nat.pow_zero, Nat.div_one]; omega
    · rw [Nat.pow_one]; omega
    · rw [show (256 : Nat) ^ 2 = 65536 from rfl]; omega
end Go.Proofs.YtmbpkpideepghaaDoor
