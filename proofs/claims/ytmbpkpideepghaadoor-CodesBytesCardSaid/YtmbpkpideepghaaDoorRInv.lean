/-
  What a text says by the document is what it says by the code.
-/
import Derived.Test.YtmbpkpideepghaaDoorRTry
namespace Go.Proofs.YtmbpkpideepghaaDoor
open Go.RowKit
set_option maxRecDepth 100000
set_option maxHeartbeats 1000000
set_option linter.unusedVariables false

/-- Each digit stands behind $ or a digit. -/
def ledB : Nat → List Nat → Bool
  | _, [] => true
  | p, x :: r => (!isDig x || p == 36 || isDig p) && ledB x r
def skc (x : Nat) : Nat := if isDig x = true then 48 else x
theorem skc_dig (x : Nat) : isDig (skc x) = isDig x := by
  unfold skc
  by_cases h : isDig x = true
  · rw [if_pos h, h]; rfl
  · rw [if_neg h]
theorem skc_36 (x : Nat) : (skc x == 36) = (x == 36) := by
  unfold skc
  by_cases h : isDig x = true
  · rw [if_pos h]
    have : x ≠ 36 := fun e => by subst e; exact absurd h (by decide)
    rw [beq_eq_false_iff_ne.2 this]; rfl
  · rw [if_neg h]
theorem led_skel : ∀ (l : List Nat) (p : Nat), ledB p l = ledB (skc p) (skel l)
  | [], p => rfl
  | x :: r, p => by
    have ih := led_skel r x
    show ((!isDig x || p == 36 || isDig p) && ledB x r) = ((!isDig (skc x) || skc p == 36 || isDig (skc p)) && ledB (skc x) (skel r))
    rw [skc_dig, skc_36, skc_dig, ih]
theorem led_at : ∀ (l : List Nat) (p i : Nat), ledB p l = true → i < l.length → isDig (l.getD i 0) = true → (i = 0 ∧ (p = 36 ∨ isDig p = true)) ∨ (0 < i ∧ (l.getD (i - 1) 0 = 36 ∨ isDig (l.getD (i - 1) 0) = true))
  | [], _, _, _, h, _ => by simp at h
  | x :: r, p, i, hl, hi, hd => by
    simp only [ledB, Bool.and_eq_true, Bool.or_eq_true, Bool.not_eq_true', beq_iff_eq] at hl
    obtain ⟨h1, h2⟩ := hl
    cases i with
    | zero =>
      rw [List.getD_cons_zero] at hd
      refine .inl ⟨rfl, ?_⟩
      rcases h1 with (h1 | h1) | h1
      · rw [hd] at h1; cases h1
      · exact .inl h1
      · exact .inr h1
    | succ i =>
      rw [List.getD_cons_succ] at hd
      refine .inr ⟨by omega, ?_⟩
      rcases led_at r x i h2 (by simpa using hi) hd with ⟨rfl, h⟩ | ⟨h0, h⟩
      · exact h
      · obtain ⟨j, rfl⟩ : ∃ j, i = j + 1 := ⟨i - 1, by omega⟩
        rw [Nat.add_sub_cancel] at h ⊢
        rw [List.getD_cons_succ]
        exact h
theorem fold_bound (l : List Nat) : ∀ n : Nat, l.foldl stepD n < (n + 1) * 16 ^ l.countP isDig := by
  induction l with
  | nil => intro n; simp
  | cons x r ih =>
    intro n
    rw [List.foldl_cons]
    refine Nat.lt_of_lt_of_le (ih _) ?_
    by_cases h : isDig x = true
    · rw [List.countP_cons_of_pos h, Nat.pow_succ, Nat.mul_comm (16 ^ _) 16, ← Nat.mul_assoc]
      refine Nat.mul_le_mul_right _ ?_
      unfold stepD
      split
      · omega
      · split <;> omega
    · rw [List.countP_cons_of_neg h]
      refine Nat.mul_le_mul_right _ ?_
      rw [stepD_plain n x (by simpa using h)]
      exact Nat.le_refl _
theorem count_skel : ∀ l : List Nat, l.countP isDig = (skel l).countP isDig
  | [] => rfl
  | x :: r => by
    have ih := count_skel r
    have e : skel (x :: r) = skc x :: skel r := rfl
    rw [e]
    by_cases h : isDig x = true
    · rw [List.countP_cons_of_pos h, List.countP_cons_of_pos (by rw [skc_dig]; exact h), ih]
    · rw [List.countP_cons_of_neg h, List.countP_cons_of_neg (by rw [skc_dig]; exact h), ih]
theorem skel_op (m k : Nat) (f : Nat → Nat) (pc : Nat) : skel (opL m k f pc) = skel (opL m k (fun _ => 0) 0) := by
  unfold opL
  exact skel_pieces _ _ _ _ _ _
theorem op_facts : ∀ m, m < 26 → ∀ k, k < 4 → (ledB 0 (skel (opL m k (fun _ => 0) 0)) && decide ((skel (opL m k (fun _ => 0) 0)).countP isDig ≤ 6)) = true := by decide +kernel
theorem op_led (m k : Nat) (f : Nat → Nat) (pc : Nat) (hm : m < 26) (hk : k ≤ 3) : ledB 0 (opL m k f pc) = true ∧ (opL m k f pc).countP isDig ≤ 6 := by
  have h := op_facts m hm k (by omega)
  rw [Bool.and_eq_true, decide_eq_true_eq] at h
  rw [led_skel, count_skel, skel_op]
  exact h
theorem bt_list (l : List Nat) (hl : ∀ x ∈ l, x < 256) (i : Nat) : bt (bytesN l) i = l.getD i 0 := by
  unfold bt
  by_cases h : i < l.length
  · rw [dif_pos (by rw [bytesN_size]; exact h), bytesN_get l hl i (by rw [bytesN_size]; exact h) h, List.getD_eq_getElem?_getD, List.getElem?_eq_getElem h]; rfl
  · rw [dif_neg (by rw [bytesN_size]; exact h), List.getD_eq_getElem?_getD, List.getElem?_eq_none (by omega)]; rfl
theorem numS_list (l : List Nat) (hl : ∀ x ∈ l, x < 256) (hled : ledB 0 l = true) (hc : l.countP isDig ≤ 6) : ∀ i, i ≤ l.length → numS (bytesN l) i = (l.take i).foldl stepD 0
  | 0, _ => by rw [List.take_zero]; rfl
  | i + 1, h => by
    have ih := numS_list l hl hled hc i (by omega)
    have hi : i < l.length := by omega
    rw [numS, bt_list l hl, bt_list l hl, ih, List.take_add_one, List.getElem?_eq_getElem hi, Option.toList_some, List.foldl_append, List.foldl_cons, List.foldl_nil]
    have hx : l.getD i 0 = l[i] := by rw [List.getD_eq_getElem?_getD, List.getElem?_eq_getElem hi]; rfl
    have hb := fold_bound (l.take i) 0
    have hcl : (l.take i).countP isDig ≤ 6 := Nat.le_trans ((List.take_sublist i l).countP_le) hc
    have hpow : 16 ^ (l.take i).countP isDig ≤ 16 ^ 6 := Nat.pow_le_pow_right (by decide) hcl
    have h6 : (16 : Nat) ^ 6 = 16777216 := by decide
    by_cases hd : isDig l[i] = true
    · have ha := led_at l 0 i hled hi (by rw [hx]; exact hd)
      have hcond : 0 ≤ valN (l.getD i 0) ∧ 0 < i ∧ (l.getD (i - 1) 0 = 36 ∨ 0 ≤ valN (l.getD (i - 1) 0)) := by
        refine ⟨by rw [val_dig, hx]; exact hd, ?_⟩
        rcases ha with ⟨_, h | h⟩ | ⟨h0, h⟩
        · omega
        · exact absurd h (by decide)
        · exact ⟨h0, h.imp id (fun h => (val_dig _).2 h)⟩
      rw [if_pos hcond, hx]
      generalize (l.take i).foldl stepD 0 = n at *
      have hd' := hd
      unfold isDig at hd
      simp only [Bool.or_eq_true, Bool.and_eq_true, decide_eq_true_eq] at hd
      unfold stepD valN
      rcases hd with h1 | h1
      · rw [if_pos h1, if_pos h1]; omega
      · rw [if_neg (by omega), if_pos h1, if_neg (by omega), if_pos h1]; omega
    · rw [if_neg (fun h => hd (by rw [← hx]; exact (val_dig _).1 h.1)), stepD_plain _ _ (by simpa using hd)]
theorem foldD_lt (l : List Nat) : ∀ n, n < 4294967296 → l.foldl stepD n < 4294967296 := by
  induction l with
  | nil => intro n h; exact h
  | cons x r ih => intro n h; rw [List.foldl_cons]; exact ih _ (stepD_lt n x h)
theorem text_num (c k : Nat) (f : Nat → Nat) (pc : Nat) (hc : c < 256) (hk : k ≤ 3) (hf : ∀ i, i < k → f i < 256) (h23 : modeF c = 23 → k = 2) :
    SmallB (bytesN (textL c k f pc)) ∧ numB (bytesN (textL c k f pc)) = saysN (modeF c) k f pc := by
  have hl := nameL_len c hc
  have hm := modeF_lt c hc
  unfold SmallB numB textL
  by_cases h0 : modeF c = 0
  · rw [if_pos h0, List.append_nil]
    have hs : ¬ 4 < (bytesN (nameL c)).size := by rw [bytesN_size]; omega
    refine ⟨fun h => absurd h hs, ?_⟩
    rw [if_neg hs, h0]
    unfold saysN
    rw [if_neg (by omega), if_neg (by omega), if_pos (.inl rfl)]
  · rw [if_neg h0]
    have he : (bytesN (nameL c ++ 32 :: opL (modeF c) k f pc)).extract 4 (bytesN (nameL c ++ 32 :: opL (modeF c) k f pc)).size = bytesN (opL (modeF c) k f pc) := by
      rw [bytesN_extract, bytesN_size]
      congr 1
      rw [show nameL c ++ 32 :: opL (modeF c) k f pc = (nameL c ++ [32]) ++ opL (modeF c) k f pc by simp, List.drop_left' (by simp [hl])]
      refine List.take_of_length_le ?_
      simp [hl]
      omega
    rw [he]
    obtain ⟨h1, h2⟩ := op_led (modeF c) k f pc hm hk
    have hasc : ∀ x ∈ opL (modeF c) k f pc, x < 256 := fun x hx => by have := opL_ascii _ _ _ _ x hx; omega
    have hn := numS_list _ hasc h1 h2
    refine ⟨fun _ i hi => ?_, ?_⟩
    · rw [bytesN_size] at hi
      rw [hn i hi]
      exact foldD_lt _ _ (by decide)
    · have hsay := says_op (modeF c) k f pc hm h0 hk hf h23
      have hfull := hn _ (Nat.le_refl _)
      rw [List.take_length] at hfull
      split
      · rw [bytesN_size, hfull, hsay]
      · rename_i h4
        rw [bytesN_size] at h4
        simp only [List.length_append, List.length_cons, hl] at h4
        have : opL (modeF c) k f pc = [] := List.length_eq_zero_iff.1 (by omega)
        rw [← hsay, this]
        rfl
theorem says_lt (m k : Nat) (f : Nat → Nat) (pc : Nat) (hk : k ≤ 3) (hf : ∀ i, i < k → f i < 256) (h23 : m = 23 → k = 2) : saysN m k f pc < 16777216 := by
  unfold saysN
  split
  · unfold tgN; have := Nat.mod_lt (pc + (k + 1) + (if m = 3 then extN (f 0) else numN f k)) (show 0 < 65536 by decide); omega
  · split
    · rename_i h
      have := hf 0 (by have := h23 h; omega)
      have := hf 1 (by have := h23 h; omega)
      omega
    · split
      · decide
      · have h := numN_lt (f := f) (n := k) hf
        have : 2 ^ (8 * k) ≤ 2 ^ 24 := Nat.pow_le_pow_right (by decide) (by omega)
        have e : (2 : Nat) ^ 24 = 16777216 := by decide
        omega
theorem adj_says (m k : Nat) (f : Nat → Nat) (pc : Nat) (hk : k ≤ 3) (hf : ∀ i, i < k → f i < 256) (h01 : m = 0 ∨ m = 1 → k = 0) (h3 : m = 3 → k = 1) (h4 : m = 4 → k = 2) (h23 : m = 23 → k = 2) (hpc : pc < 65536) :
    ∀ j, j < k → adjN m k pc (saysN m k f pc) / 256 ^ j % 256 = f j := by
  intro j hj
  have hf0 : 0 < k → f 0 < 256 := fun h => hf 0 h
  have hf1 : 1 < k → f 1 < 256 := fun h => hf 1 h
  have hf2 : 2 < k → f 2 < 256 := fun h => hf 2 h
  have n1 : numN f 1 = f 0 := by simp [numN]
  have n2 : numN f 2 = f 0 + f 1 * 256 := by simp [numN]
  have n3 : numN f 3 = f 0 + f 1 * 256 + f 2 * 65536 := by simp [numN]
  unfold adjN saysN
  by_cases e3 : m = 3
  · obtain rfl := h3 e3
    obtain rfl : j = 0 := by omega
    have := hf0 (by omega)
    rw [if_pos (.inl e3), if_pos (.inl e3)]
    unfold tgN extN
    rw [if_pos e3, Nat.pow_zero, Nat.div_one]
    clear n1 n2 n3 hf hf0 hf1 hf2 h01 h3 h4 h23
    generalize f 0 = a at *
    split <;> omega
  by_cases e4 : m = 4
  · obtain rfl := h4 e4
    have a0 := hf0 (by omega)
    have a1 := hf1 (by omega)
    rw [if_pos (.inr e4), if_pos (.inr e4)]
    unfold tgN
    rw [if_neg e3, n2]
    clear n1 n2 n3 hf hf0 hf1 hf2 h01 h3 h4 h23
    rcases (show j = 0 ∨ j = 1 by omega) with rfl | rfl
    · rw [Nat.pow_zero, Nat.div_one]
      generalize f 0 = a at *
      generalize f 1 = b at *
      omega
    · rw [Nat.pow_one]
      generalize f 0 = a at *
      generalize f 1 = b at *
      omega
  have e34 : ¬ (m = 3 ∨ m = 4) := by omega
  rw [if_neg e34, if_neg e34]
  by_cases e23 : m = 23
  · obtain rfl := h23 e23
    have a0 := hf0 (by omega)
    have a1 := hf1 (by omega)
    rw [if_pos e23, if_pos e23]
    clear n1 n2 n3 hf hf0 hf1 hf2 h01 h3 h4 h23
    have q1 : (f 0 * 256 + f 1) / 256 % 256 = f 0 := by omega
    have q2 : (f 0 * 256 + f 1) % 256 = f 1 := by omega
    rw [q1, q2]
    rcases (show j = 0 ∨ j = 1 by omega) with rfl | rfl
    · rw [Nat.pow_zero, Nat.div_one]
      omega
    · rw [Nat.pow_one]
      omega
  rw [if_neg e23, if_neg e23, if_neg (fun h => by have := h01 h; omega)]
  clear hf h01 h3 h4 h23
  rcases (show k = 1 ∨ k = 2 ∨ k = 3 by omega) with rfl | rfl | rfl
  · have := hf0 (by omega)
    obtain rfl : j = 0 := by omega
    rw [n1, Nat.pow_zero, Nat.div_one]; omega
  · have := hf0 (by omega)
    have := hf1 (by omega)
    rw [n2]
    rcases (show j = 0 ∨ j = 1 by omega) with rfl | rfl
    · rw [Nat.pow_zero, Nat.div_one]; omega
    · rw [Nat.pow_one]; omega
  · have := hf0 (by omega)
    have := hf1 (by omega)
    have := hf2 (by omega)
    rw [n3]
    rcases (show j = 0 ∨ j = 1 ∨ j = 2 by omega) with rfl | rfl | rfl
    · rw [Nat.pow_zero, Nat.div_one]; omega
    · rw [Nat.pow_one]; omega
    · rw [show (256 : Nat) ^ 2 = 65536 from rfl]; omega
/-- The document's bytes of a text. -/
theorem text_try (c pc p : Nat) (f : Nat → Nat) (X : Int) (s : ByteArray) (hc : c < 256) (hpc : pc < 65536) (hf : ∀ i, i < operN c p → f i < 256) (hs : s = bytesN (textL c (operN c p) f pc))
    (hX : SmallB s → X = (adjN (modeF c) (operN c p) pc (numB s) : Nat)) : ∀ i, i < operN c p → byX X i = f i := by
  have hk := operN_le c p
  have h01 : modeF c = 0 ∨ modeF c = 1 → operN c p = 0 := fun h => by unfold operN; exact opF_01 _ _ _ h
  have h23 : modeF c = 23 → operN c p = 2 := fun h => by unfold operN; rw [h]; exact opF_23 _ _
  have h3 : modeF c = 3 → operN c p = 1 := fun h => by unfold operN; rw [h]; exact opF_3 _ _
  have h4 : modeF c = 4 → operN c p = 2 := fun h => by unfold operN; rw [h]; exact opF_4 _ _
  obtain ⟨hsm, hnum⟩ := text_num c (operN c p) f pc hc hk hf h23
  rw [← hs] at hsm hnum
  intro i hi
  have hsl := says_lt (modeF c) (operN c p) f pc hk hf h23
  rw [hX hsm, hnum, byX_nat _ _ ?_]
  · exact adj_says (modeF c) (operN c p) f pc hk hf h01 h3 h4 h23 hpc i hi
  · unfold adjN
    generalize saysN (modeF c) (operN c p) f pc = x at *
    split
    · omega
    · split <;> omega
end Go.Proofs.YtmbpkpideepghaaDoor
