/-
  Timers as numbers: a state is 23 bytes (as they are saved); what a cycle makes of them, and what a timer's tally says.
-/
import Derived.Test.YtbdhdedlemndeaaDoorMem
namespace Go.Proofs.YtbdhdedlemndeaaDoor
set_option linter.unusedVariables false

/-- A timer's divider, count and tally (at 2, 3 and 4 behind p) behind a cycle, its period being q. -/
def passF (p q : Nat) (on : Bool) (f : Nat → Nat) : Nat → Nat :=
  if f (p + 1) + 1 < q then upd f (p + 1) (f (p + 1) + 1)
  else if on then
    (if (f (p + 2) + 1) % 256 = f p then upd (upd (upd f (p + 1) 0) (p + 2) 0) (p + 3) ((f (p + 3) + 1) % 16)
     else upd (upd f (p + 1) 0) (p + 2) ((f (p + 2) + 1) % 256))
  else upd f (p + 1) 0
def onF (f : Nat → Nat) (k : Nat) : Bool := f 0 / 2 ^ k % 2 == 1
def stepF (f : Nat → Nat) : Nat → Nat := passF 9 16 (onF f 2) (passF 5 128 (onF f 1) (passF 1 128 (onF f 0) f))
/-- A state that can be. -/
structure GoodT (f : Nat → Nat) : Prop where
  byte : ∀ i, f i < 256
  div0 : f 2 < 128
  div1 : f 6 < 128
  div2 : f 10 < 16
  tal0 : f 4 < 16
  tal1 : f 8 < 16
  tal2 : f 12 < 16
  bits : f 0 / 8 % 16 = 0
theorem upd_same (f : Nat → Nat) (i x : Nat) : upd f i x i = x := if_pos rfl
theorem upd_other (f : Nat → Nat) {i j : Nat} (x : Nat) (h : j ≠ i) : upd f i x j = f j := if_neg h
theorem pass_away (p q : Nat) (on : Bool) (f : Nat → Nat) {j : Nat} (h : j < p + 1 ∨ p + 3 < j) : passF p q on f j = f j := by
  have h1 : j ≠ p + 1 := by omega
  have h2 : j ≠ p + 2 := by omega
  have h3 : j ≠ p + 3 := by omega
  unfold passF
  split
  · exact upd_other _ _ h1
  split
  · split
    · rw [upd_other _ _ h3, upd_other _ _ h2, upd_other _ _ h1]
    · rw [upd_other _ _ h2, upd_other _ _ h1]
  · exact upd_other _ _ h1
theorem pass_div (p q : Nat) (on : Bool) (f : Nat → Nat) : passF p q on f (p + 1) = if f (p + 1) + 1 < q then f (p + 1) + 1 else 0 := by
  unfold passF
  split
  · exact upd_same _ _ _
  split
  · split
    · rw [upd_other _ _ (by omega), upd_other _ _ (by omega), upd_same]
    · rw [upd_other _ _ (by omega), upd_same]
  · exact upd_same _ _ _
theorem pass_count (p q : Nat) (on : Bool) (f : Nat → Nat) : passF p q on f (p + 2) = if f (p + 1) + 1 < q then f (p + 2) else if on then (if (f (p + 2) + 1) % 256 = f p then 0 else (f (p + 2) + 1) % 256) else f (p + 2) := by
  unfold passF
  split
  · exact upd_other _ _ (by omega)
  split
  · split
    · rw [upd_other _ _ (by omega), upd_same]
    · rw [upd_same]
  · exact upd_other _ _ (by omega)
theorem pass_tally (p q : Nat) (on : Bool) (f : Nat → Nat) : passF p q on f (p + 3) = if f (p + 1) + 1 < q then f (p + 3) else if on then (if (f (p + 2) + 1) % 256 = f p then (f (p + 3) + 1) % 16 else f (p + 3)) else f (p + 3) := by
  unfold passF
  split
  · exact upd_other _ _ (by omega)
  split
  · split
    · rw [upd_same]
    · rw [upd_other _ _ (by omega), upd_other _ _ (by omega)]
  · exact upd_other _ _ (by omega)
/-- What a cycle makes of the timer at p. -/
theorem step_away {f : Nat → Nat} {j : Nat} (h : j < 2 ∨ 12 < j ∨ j = 5 ∨ j = 9) : stepF f j = f j := by
  unfold stepF
  rw [pass_away _ _ _ _ (by omega), pass_away _ _ _ _ (by omega), pass_away _ _ _ _ (by omega)]
theorem step_t0 (f : Nat → Nat) (j : Nat) (h : j ≤ 4) : stepF f j = passF 1 128 (onF f 0) f j := by
  unfold stepF
  rw [pass_away _ _ _ _ (by omega), pass_away _ _ _ _ (by omega)]
theorem pass_congr (p q : Nat) (on : Bool) {f g : Nat → Nat} (h : ∀ j, p ≤ j → j ≤ p + 3 → f j = g j) (j : Nat) (h1 : p ≤ j) (h2 : j ≤ p + 3) : passF p q on f j = passF p q on g j := by
  have e0 := h p (by omega) (by omega)
  have e1 := h (p + 1) (by omega) (by omega)
  have e2 := h (p + 2) (by omega) (by omega)
  have e3 := h (p + 3) (by omega) (by omega)
  rcases (show j = p ∨ j = p + 1 ∨ j = p + 2 ∨ j = p + 3 by omega) with rfl | rfl | rfl | rfl
  · rw [pass_away _ _ _ _ (by omega), pass_away _ _ _ _ (by omega), e0]
  · rw [pass_div, pass_div, e1]
  · rw [pass_count, pass_count, e0, e1, e2]
  · rw [pass_tally, pass_tally, e0, e1, e2, e3]
theorem step_t1 (f : Nat → Nat) (j : Nat) (h1 : 5 ≤ j) (h2 : j ≤ 8) : stepF f j = passF 5 128 (onF f 1) f j := by
  unfold stepF
  rw [pass_away _ _ _ _ (by omega)]
  exact pass_congr _ _ _ (fun i a b => pass_away _ _ _ _ (by omega)) _ h1 h2
theorem step_t2 (f : Nat → Nat) (j : Nat) (h1 : 9 ≤ j) (h2 : j ≤ 12) : stepF f j = passF 9 16 (onF f 2) f j := by
  unfold stepF
  exact pass_congr _ _ _ (fun i a b => by rw [pass_away _ _ _ _ (by omega), pass_away _ _ _ _ (by omega)]) _ h1 h2
def perT (k : Nat) : Nat := if k = 2 then 16 else 128
theorem step_tk (f : Nat → Nat) (k : Nat) (hk : k < 3) (j : Nat) (h1 : 1 + 4 * k ≤ j) (h2 : j ≤ 4 + 4 * k) : stepF f j = passF (1 + 4 * k) (perT k) (onF f k) f j := by
  rcases (show k = 0 ∨ k = 1 ∨ k = 2 by omega) with rfl | rfl | rfl
  · exact step_t0 f j (by omega)
  · exact step_t1 f j (by omega) (by omega)
  · exact step_t2 f j (by omega) (by omega)
theorem pass_good {p q : Nat} {on : Bool} {f : Nat → Nat} (hq : q ≤ 128) (hb : ∀ i, f i < 256) (ht : f (p + 3) < 16) (h0 : 0 < q) : (∀ i, passF p q on f i < 256) ∧ passF p q on f (p + 1) < q ∧ passF p q on f (p + 3) < 16 := by
  refine ⟨fun i => ?_, ?_, ?_⟩
  · by_cases h : i < p + 1 ∨ p + 3 < i
    · rw [pass_away _ _ _ _ h]; exact hb i
    · rcases (show i = p + 1 ∨ i = p + 2 ∨ i = p + 3 by omega) with rfl | rfl | rfl
      · rw [pass_div]; split <;> omega
      · have := hb (p + 2)
        rw [pass_count]; split
        · omega
        · split
          · split <;> omega
          · omega
      · rw [pass_tally]; split
        · omega
        · split
          · split <;> omega
          · omega
  · rw [pass_div]; split <;> omega
  · rw [pass_tally]; split
    · omega
    · split
      · split <;> omega
      · omega
theorem GoodT.step {f : Nat → Nat} (h : GoodT f) : GoodT (stepF f) := by
  obtain ⟨a1, a2, a3⟩ := pass_good (p := 1) (q := 128) (on := onF f 0) (f := f) (by decide) h.byte h.tal0 (by decide)
  obtain ⟨b1, b2, b3⟩ := pass_good (p := 5) (q := 128) (on := onF f 1) (f := f) (by decide) h.byte h.tal1 (by decide)
  obtain ⟨c1, c2, c3⟩ := pass_good (p := 9) (q := 16) (on := onF f 2) (f := f) (by decide) h.byte h.tal2 (by decide)
  refine ⟨fun i => ?_, ?_, ?_, ?_, ?_, ?_, ?_, ?_⟩
  · by_cases h0 : i ≤ 4
    · rw [step_t0 f i h0]; exact a1 i
    · by_cases h1 : i ≤ 8
      · rw [step_t1 f i (by omega) h1]; exact b1 i
      · by_cases h2 : i ≤ 12
        · rw [step_t2 f i (by omega) h2]; exact c1 i
        · rw [step_away (by omega)]; exact h.byte i
  · rw [step_t0 f 2 (by decide)]; exact a2
  · rw [step_t1 f 6 (by decide) (by decide)]; exact b2
  · rw [step_t2 f 10 (by decide) (by decide)]; exact c2
  · rw [step_t0 f 4 (by decide)]; exact a3
  · rw [step_t1 f 8 (by decide) (by decide)]; exact b3
  · rw [step_t2 f 12 (by decide) (by decide)]; exact c3
  · rw [step_away (by omega)]; exact h.bits
/-- TickTimes: timer k alone is on, j cycles behind its beginning. -/
structure TimesT (k t n : Nat) (f : Nat → Nat) : Prop where
  ctl : f 0 = 2 ^ k
  tgt : f (1 + 4 * k) = t
  div : f (2 + 4 * k) = n % perT k
  cnt : f (3 + 4 * k) = n / perT k
  tal : f (4 + 4 * k) = 0
  oth : ∀ i, i < 3 → i ≠ k → f (4 + 4 * i) = 0
def manyT (t : Nat) : Nat := if t = 0 then 256 else t
theorem many_ne {t x : Nat} (h : x + 1 < manyT t) : ¬ x + 1 = t := by
  unfold manyT at h
  split at h <;> omega
theorem onF_self {f : Nat → Nat} {k : Nat} (h : f 0 = 2 ^ k) : onF f k = true := by
  unfold onF; rw [h, Nat.div_self (Nat.pos_of_ne_zero (by simp))]; rfl
theorem onF_other {f : Nat → Nat} {k i : Nat} (h : f 0 = 2 ^ k) (hk : k < 3) (hi : i < 3) (hne : i ≠ k) : onF f i = false := by
  unfold onF; rw [h]
  rcases (show k = 0 ∨ k = 1 ∨ k = 2 by omega) with rfl | rfl | rfl <;> rcases (show i = 0 ∨ i = 1 ∨ i = 2 by omega) with rfl | rfl | rfl <;> first | rfl | exact absurd rfl hne
theorem per_pos (k : Nat) : 0 < perT k := by unfold perT; split <;> decide
theorem step_off {f : Nat → Nat} {i : Nat} (hi : i < 3) (h : onF f i = false) : stepF f (4 + 4 * i) = f (4 + 4 * i) := by
  rw [step_tk f i hi _ (by omega) (by omega), show 4 + 4 * i = (1 + 4 * i) + 3 by omega, pass_tally, h]
  simp
theorem TimesT.next {k t n : Nat} {f : Nat → Nat} (h : TimesT k t n f) (hk : k < 3) (ht : t < 256) (hn : n + 1 < perT k * manyT t) : TimesT k t (n + 1) (stepF f) := by
  have hp := per_pos k
  have e1 : stepF f (1 + 4 * k) = f (1 + 4 * k) := by rw [step_tk f k hk _ (by omega) (by omega), pass_away _ _ _ _ (by omega)]
  have e2 : stepF f (2 + 4 * k) = if f (2 + 4 * k) + 1 < perT k then f (2 + 4 * k) + 1 else 0 := by
    rw [step_tk f k hk _ (by omega) (by omega), show 2 + 4 * k = (1 + 4 * k) + 1 by omega, pass_div]
  have e3 := (show stepF f (3 + 4 * k) = passF (1 + 4 * k) (perT k) (onF f k) f (1 + 4 * k + 2) by
    rw [step_tk f k hk _ (by omega) (by omega), show 3 + 4 * k = (1 + 4 * k) + 2 by omega]).trans (pass_count _ _ _ _)
  have e4 := (show stepF f (4 + 4 * k) = passF (1 + 4 * k) (perT k) (onF f k) f (1 + 4 * k + 3) by
    rw [step_tk f k hk _ (by omega) (by omega), show 4 + 4 * k = (1 + 4 * k) + 3 by omega]).trans (pass_tally _ _ _ _)
  rw [show (1 + 4 * k) + 1 = 2 + 4 * k by omega, show (1 + 4 * k) + 2 = 3 + 4 * k by omega, onF_self h.ctl, h.div, h.cnt, h.tgt] at e3
  rw [show (1 + 4 * k) + 1 = 2 + 4 * k by omega, show (1 + 4 * k) + 2 = 3 + 4 * k by omega, show (1 + 4 * k) + 3 = 4 + 4 * k by omega, onF_self h.ctl, h.div, h.cnt, h.tgt, h.tal] at e4
  rw [h.div] at e2
  have hd : (n + 1) / perT k < manyT t := Nat.div_lt_of_lt_mul hn
  have hm : manyT t ≤ 256 := by unfold manyT; split <;> omega
  have hmod := Nat.mod_lt n hp
  have hdm := Nat.div_add_mod n (perT k)
  refine ⟨by rw [step_away (by omega)]; exact h.ctl, by rw [e1]; exact h.tgt, ?_, ?_, ?_, fun i hi hne => by rw [step_off hi (onF_other h.ctl hk hi hne)]; exact h.oth i hi hne⟩
  · rw [e2]
    by_cases hc : n % perT k + 1 < perT k
    · rw [if_pos hc, Nat.add_mod, Nat.mod_eq_of_lt (show 1 < perT k by omega), Nat.mod_eq_of_lt hc]
    · rw [if_neg hc]
      have e : n + 1 = perT k * (n / perT k + 1) := by rw [Nat.mul_add, Nat.mul_one]; omega
      rw [e, Nat.mul_mod_right]
  · rw [e3]
    by_cases hc : n % perT k + 1 < perT k
    · rw [if_pos hc]
      symm
      apply Nat.div_eq_of_lt_le
      · rw [Nat.mul_comm]; omega
      · rw [Nat.mul_comm, Nat.mul_add, Nat.mul_one]; omega
    · have e : n + 1 = perT k * (n / perT k + 1) := by rw [Nat.mul_add, Nat.mul_one]; omega
      have eq : (n + 1) / perT k = n / perT k + 1 := by rw [e, Nat.mul_div_cancel_left _ hp]
      rw [eq] at hd
      rw [if_neg hc, if_pos rfl, eq, Nat.mod_eq_of_lt (Nat.lt_of_lt_of_le hd hm), if_neg]
      exact many_ne hd
  · rw [e4]
    by_cases hc : n % perT k + 1 < perT k
    · rw [if_pos hc]
    · have e : n + 1 = perT k * (n / perT k + 1) := by rw [Nat.mul_add, Nat.mul_one]; omega
      have eq : (n + 1) / perT k = n / perT k + 1 := by rw [e, Nat.mul_div_cancel_left _ hp]
      rw [eq] at hd
      rw [if_neg hc, if_pos rfl, Nat.mod_eq_of_lt (Nat.lt_of_lt_of_le hd hm), if_neg]
      exact many_ne hd
/-- .. and at last the tally is one. -/
theorem TimesT.last {k t n : Nat} {f : Nat → Nat} (h : TimesT k t n f) (hk : k < 3) (ht : t < 256) (hn : n + 1 = perT k * manyT t) : stepF f (4 + 4 * k) = 1 ∧ TimesT k t 0 (upd (stepF f) (4 + 4 * k) 0) := by
  have hp := per_pos k
  have e1 : stepF f (1 + 4 * k) = f (1 + 4 * k) := by rw [step_tk f k hk _ (by omega) (by omega), pass_away _ _ _ _ (by omega)]
  have e2 : stepF f (2 + 4 * k) = if f (2 + 4 * k) + 1 < perT k then f (2 + 4 * k) + 1 else 0 := by
    rw [step_tk f k hk _ (by omega) (by omega), show 2 + 4 * k = (1 + 4 * k) + 1 by omega, pass_div]
  have e3 := (show stepF f (3 + 4 * k) = passF (1 + 4 * k) (perT k) (onF f k) f (1 + 4 * k + 2) by
    rw [step_tk f k hk _ (by omega) (by omega), show 3 + 4 * k = (1 + 4 * k) + 2 by omega]).trans (pass_count _ _ _ _)
  have e4 := (show stepF f (4 + 4 * k) = passF (1 + 4 * k) (perT k) (onF f k) f (1 + 4 * k + 3) by
    rw [step_tk f k hk _ (by omega) (by omega), show 4 + 4 * k = (1 + 4 * k) + 3 by omega]).trans (pass_tally _ _ _ _)
  rw [show (1 + 4 * k) + 1 = 2 + 4 * k by omega, show (1 + 4 * k) + 2 = 3 + 4 * k by omega, onF_self h.ctl, h.div, h.cnt, h.tgt] at e3
  rw [show (1 + 4 * k) + 1 = 2 + 4 * k by omega, show (1 + 4 * k) + 2 = 3 + 4 * k by omega, show (1 + 4 * k) + 3 = 4 + 4 * k by omega, onF_self h.ctl, h.div, h.cnt, h.tgt, h.tal] at e4
  rw [h.div] at e2
  have hmod := Nat.mod_lt n hp
  have hdm := Nat.div_add_mod n (perT k)
  have hmp : 0 < manyT t := by unfold manyT; split <;> omega
  have hq : n / perT k + 1 = manyT t ∧ n % perT k + 1 = perT k := by
    have h1 : n = perT k * (manyT t - 1) + (perT k - 1) := by
      have : perT k * manyT t = perT k * (manyT t - 1) + perT k := by
        conv => lhs; rw [show manyT t = (manyT t - 1) + 1 by omega]
        rw [Nat.mul_add, Nat.mul_one]
      omega
    have h2 : n / perT k = manyT t - 1 := by
      rw [h1, Nat.mul_add_div hp, Nat.div_eq_of_lt (by omega)]; omega
    have h3 : n % perT k = perT k - 1 := by
      rw [h1, Nat.mul_add_mod, Nat.mod_eq_of_lt (by omega)]
    omega
  have hc : ¬ n % perT k + 1 < perT k := by omega
  have hmt : manyT t % 256 = t := by unfold manyT; split <;> omega
  rw [if_neg hc, if_pos rfl, hq.1, if_pos hmt] at e3
  rw [if_neg hc, if_pos rfl, hq.1, if_pos hmt] at e4
  rw [if_neg hc] at e2
  refine ⟨e4, ?_, ?_, ?_, ?_, upd_same _ _ _, fun i hi hne => ?_⟩
  · rw [upd_other _ _ (by omega), step_away (by omega)]; exact h.ctl
  · rw [upd_other _ _ (by omega), e1]; exact h.tgt
  · rw [upd_other _ _ (by omega), e2, Nat.zero_mod]
  · rw [upd_other _ _ (by omega), e3, Nat.zero_div]
  · rw [upd_other _ _ (by omega), step_off hi (onF_other h.ctl hk hi hne)]; exact h.oth i hi hne
end Go.Proofs.YtbdhdedlemndeaaDoor
