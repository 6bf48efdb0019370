/-
  A word added to YA, or taken away: the numbers.
-/
import Derived.Test.YthecghmhohkcmaaGreatDoorTAk
namespace Go.Proofs.YthecghmhohkcmaaGreatDoor
open Go.RowKit Go.Shelf
set_option maxRecDepth 100000
set_option maxHeartbeats 1000000
set_option linter.unusedVariables false

def add1 (b : Nat) (r : Rp) : Rp := { sumR r.A b r with A := sumV r r.A b }
def add2 (b : Nat) (r : Rp) : Rp := { sumR r.Y b r with Y := sumV r r.Y b }
def addR (k w : Nat) (r : Rp) : Rp := tellWR (yaR (add2 (addWV k w / 256) (add1 (addWV k w % 256) (putR 1 (k != 0) r)))) (add2 (addWV k w / 256) (add1 (addWV k w % 256) (putR 1 (k != 0) r)))
theorem go122 (A X Y S P Pc a l h : Nat) : (go (runM actM ⟨A, X, Y, S, P, Pc, false⟩) [] ⟨none, [122, a, l, h]⟩).2.2 = some ((), addR 0 (h * 256 + l) ⟨A, X, Y, S, P, ((Pc + 1) % 65536 + 1) % 65536, false⟩) := by
  kernel_rfl
theorem go122l (A X Y S P Pc a l h : Nat) : (go (runM actM ⟨A, X, Y, S, P, Pc, false⟩) [] ⟨none, [122, a, l, h]⟩).1.length = 5 := by
  kernel_rfl
theorem go154 (A X Y S P Pc a l h : Nat) : (go (runM actM ⟨A, X, Y, S, P, Pc, false⟩) [] ⟨none, [154, a, l, h]⟩).2.2 = some ((), addR 1 (h * 256 + l) ⟨A, X, Y, S, P, ((Pc + 1) % 65536 + 1) % 65536, false⟩) := by
  kernel_rfl
theorem go154l (A X Y S P Pc a l h : Nat) : (go (runM actM ⟨A, X, Y, S, P, Pc, false⟩) [] ⟨none, [154, a, l, h]⟩).1.length = 5 := by
  kernel_rfl
/-- One bit put, that bit or another looked at. -/
theorem flag_at (P f g : Nat) (on : Bool) : flagP P f on &&& g = if on then (P &&& ((255 - f) &&& g)) ||| (f &&& g) else P &&& ((255 - f) &&& g) := by
  unfold flagP
  cases on
  · simp [Nat.and_assoc]
  · simp [Nat.and_or_distrib_right, Nat.and_assoc]
theorem add_P1 (b : Nat) (r : Rp) : (add1 b r).P &&& 1 = if 256 ≤ r.A + b + r.P % 2 then 1 else 0 := by
  show flagP (flagP (flagP r.P 1 _) 8 _) 64 _ &&& 1 = _
  rw [flag_at]
  simp only [show (255 - 64) &&& 1 = 1 from rfl, show 64 &&& 1 = 0 from rfl, Nat.or_zero, ite_self]
  rw [flag_at]
  simp only [show (255 - 8) &&& 1 = 1 from rfl, show 8 &&& 1 = 0 from rfl, Nat.or_zero, ite_self]
  rw [flag_at]
  simp only [show (255 - 1) &&& 1 = 0 from rfl, show 1 &&& 1 = 1 from rfl, Nat.and_zero, Nat.zero_or, decide_eq_true_eq]
theorem add_P2 (b : Nat) (r : Rp) : (add2 b r).P &&& 1 = if 256 ≤ r.Y + b + r.P % 2 then 1 else 0 := by
  show flagP (flagP (flagP r.P 1 _) 8 _) 64 _ &&& 1 = _
  rw [flag_at]
  simp only [show (255 - 64) &&& 1 = 1 from rfl, show 64 &&& 1 = 0 from rfl, Nat.or_zero, ite_self]
  rw [flag_at]
  simp only [show (255 - 8) &&& 1 = 1 from rfl, show 8 &&& 1 = 0 from rfl, Nat.or_zero, ite_self]
  rw [flag_at]
  simp only [show (255 - 1) &&& 1 = 0 from rfl, show 1 &&& 1 = 1 from rfl, Nat.and_zero, Nat.zero_or, decide_eq_true_eq]
theorem tellW_P1 (v : Nat) (r : Rp) : (tellWR v r).P &&& 1 = r.P &&& 1 := by
  show flagP (flagP r.P 128 _) 2 _ &&& 1 = _
  rw [flag_at]
  simp only [show (255 - 2) &&& 1 = 1 from rfl, show 2 &&& 1 = 0 from rfl, Nat.or_zero, ite_self]
  rw [flag_at]
  simp only [show (255 - 128) &&& 1 = 1 from rfl, show 128 &&& 1 = 0 from rfl, Nat.or_zero, ite_self]
theorem tellW_P2 (v : Nat) (r : Rp) : (tellWR v r).P &&& 2 = if v = 0 then 2 else 0 := by
  show flagP (flagP r.P 128 _) 2 _ &&& 2 = _
  rw [flag_at]
  simp only [show (255 - 2) &&& 2 = 0 from rfl, show 2 &&& 2 = 2 from rfl, Nat.and_zero, Nat.zero_or, decide_eq_true_eq]
theorem tellW_P128 (v : Nat) (r : Rp) : (tellWR v r).P &&& 128 = if hasP v 32768 then 128 else 0 := by
  show flagP (flagP r.P 128 _) 2 _ &&& 128 = _
  rw [flag_at]
  simp only [show (255 - 2) &&& 128 = 128 from rfl, show 2 &&& 128 = 0 from rfl, Nat.or_zero, ite_self]
  rw [flag_at]
  simp only [show (255 - 128) &&& 128 = 0 from rfl, show 128 &&& 128 = 128 from rfl, Nat.and_zero, Nat.zero_or]
theorem top16 (v : Nat) (h : v < 65536) : hasP v 32768 = decide (32767 < v) := by
  unfold hasP
  rw [show (32768 : Nat) = 2 ^ 15 from rfl]
  by_cases h1 : 32767 < v
  · have hb : (v &&& 2 ^ 15).testBit 15 = true := by
      rw [Nat.testBit_and, Nat.testBit_two_pow_self, Nat.testBit_eq_decide_div_mod_eq, show v / 2 ^ 15 % 2 = 1 by omega]
      rfl
    have hn : v &&& 2 ^ 15 ≠ 0 := fun h0 => by rw [h0] at hb; exact absurd hb (by decide)
    rw [decide_eq_false hn, decide_eq_true h1]
    rfl
  · have h0 : v &&& 2 ^ 15 = 0 := by
      apply Nat.eq_of_testBit_eq
      intro i
      rw [Nat.testBit_and, Nat.zero_testBit, Nat.testBit_two_pow]
      by_cases hi : 15 = i
      · subst hi
        rw [Nat.testBit_lt_two_pow (show v < 2 ^ 15 by omega)]
        rfl
      · simp [hi]
    rw [decide_eq_true h0, decide_eq_false h1]
    rfl
theorem addW_sum (w : Nat) (r : Rp) (hr : r.Ok) (hw : w < 65536) :
    (addR 0 w r).Y * 256 + (addR 0 w r).A = (yaR r + w) % 65536 ∧ (addR 0 w r).P &&& 1 = (if 65535 < yaR r + w then 1 else 0) ∧ (addR 0 w r).P &&& 2 = (if (yaR r + w) % 65536 = 0 then 2 else 0) ∧ (addR 0 w r).P &&& 128 = (if 32767 < (yaR r + w) % 65536 then 128 else 0) := by
  have hA := hr.A
  have hY := hr.Y
  have p0 : (putR 1 (0 != 0) r).P % 2 = 0 := by rw [← Nat.and_one_is_mod]; show flagP r.P 1 false &&& 1 = 0; rw [flag_at]; simp
  have p1 := add_P1 (w % 256) (putR 1 (0 != 0) r)
  rw [p0, Nat.and_one_is_mod] at p1
  have p1' : (add1 (w % 256) (putR 1 (0 != 0) r)).P % 2 = if 256 ≤ r.A + w % 256 + 0 then 1 else 0 := p1
  have p2 := add_P2 (w / 256) (add1 (w % 256) (putR 1 (0 != 0) r))
  rw [p1'] at p2
  have p2' : (add2 (w / 256) (add1 (w % 256) (putR 1 (0 != 0) r))).P &&& 1 = if 256 ≤ r.Y + w / 256 + (if 256 ≤ r.A + w % 256 + 0 then 1 else 0) then 1 else 0 := p2
  have a1 : (add2 (w / 256) (add1 (w % 256) (putR 1 (0 != 0) r))).A = (r.A + w % 256 + 0) % 256 := by
    show (r.A + w % 256 + (putR 1 (0 != 0) r).P % 2) % 256 = _
    rw [p0]
  have y1 : (add2 (w / 256) (add1 (w % 256) (putR 1 (0 != 0) r))).Y = (r.Y + w / 256 + (if 256 ≤ r.A + w % 256 + 0 then 1 else 0)) % 256 := by
    show (r.Y + w / 256 + (add1 (w % 256) (putR 1 (0 != 0) r)).P % 2) % 256 = _
    rw [p1']
  have hv : yaR (add2 (w / 256) (add1 (w % 256) (putR 1 (0 != 0) r))) = (yaR r + w) % 65536 := by
    unfold yaR
    rw [a1, y1]
    split <;> omega
  have hlt : (yaR r + w) % 65536 < 65536 := Nat.mod_lt _ (by decide)
  refine ⟨hv, ?_, ?_, ?_⟩
  · show (tellWR (yaR (add2 (w / 256) (add1 (w % 256) (putR 1 (0 != 0) r)))) (add2 (w / 256) (add1 (w % 256) (putR 1 (0 != 0) r)))).P &&& 1 = _
    rw [tellW_P1, p2']
    unfold yaR
    split <;> split <;> split <;> omega
  · show (tellWR (yaR (add2 (w / 256) (add1 (w % 256) (putR 1 (0 != 0) r)))) (add2 (w / 256) (add1 (w % 256) (putR 1 (0 != 0) r)))).P &&& 2 = _
    rw [tellW_P2, hv]
  · show (tellWR (yaR (add2 (w / 256) (add1 (w % 256) (putR 1 (0 != 0) r)))) (add2 (w / 256) (add1 (w % 256) (putR 1 (0 != 0) r)))).P &&& 128 = _
    rw [tellW_P128, hv, top16 _ hlt]
    simp
theorem subW_sum (w : Nat) (r : Rp) (hr : r.Ok) (hw : w < 65536) :
    (addR 1 w r).Y = (yaR r + 65536 - w) % 65536 / 256 ∧ (addR 1 w r).A = (yaR r + 65536 - w) % 256 ∧ (addR 1 w r).P &&& 1 = (if w ≤ yaR r then 1 else 0) := by
  have hA := hr.A
  have hY := hr.Y
  have p0 : (putR 1 (1 != 0) r).P % 2 = 1 := by rw [← Nat.and_one_is_mod]; show flagP r.P 1 true &&& 1 = 1; rw [flag_at]; simp
  have p1 := add_P1 ((65535 - w) % 256) (putR 1 (1 != 0) r)
  rw [p0, Nat.and_one_is_mod] at p1
  have p1' : (add1 ((65535 - w) % 256) (putR 1 (1 != 0) r)).P % 2 = if 256 ≤ r.A + (65535 - w) % 256 + 1 then 1 else 0 := p1
  have p2 := add_P2 ((65535 - w) / 256) (add1 ((65535 - w) % 256) (putR 1 (1 != 0) r))
  rw [p1'] at p2
  have p2' : (add2 ((65535 - w) / 256) (add1 ((65535 - w) % 256) (putR 1 (1 != 0) r))).P &&& 1 = if 256 ≤ r.Y + (65535 - w) / 256 + (if 256 ≤ r.A + (65535 - w) % 256 + 1 then 1 else 0) then 1 else 0 := p2
  refine ⟨?_, ?_, ?_⟩
  · show (r.Y + (65535 - w) / 256 + (add1 ((65535 - w) % 256) (putR 1 (1 != 0) r)).P % 2) % 256 = _
    rw [p1']
    unfold yaR
    split <;> omega
  · show (r.A + (65535 - w) % 256 + (putR 1 (1 != 0) r).P % 2) % 256 = _
    rw [p0]
    unfold yaR
    omega
  · show (tellWR _ (add2 ((65535 - w) / 256) (add1 ((65535 - w) % 256) (putR 1 (1 != 0) r)))).P &&& 1 = _
    rw [tellW_P1, p2']
    unfold yaR
    split <;> split <;> split <;> omega
end Go.Proofs.YthecghmhohkcmaaGreatDoor
