/-
  The code that Find makes of a code's own name and form; what an instruction's text begins with.
-/
import Derived.Test.YtlogijjgachdjaaDoorSnd
namespace Go.Proofs.YtlogijjgachdjaaDoor
open Go.RowKit
set_option maxRecDepth 100000
set_option maxHeartbeats 4000000
set_option linter.unusedVariables false

def hitU (c i : Nat) : Bool := ((nmL i).map UInt8.ofNat == (nmL c).map UInt8.ofNat) && ((fmL i).map UInt8.ofNat == (fmL c).map UInt8.ofNat)
def fdU (c : Nat) : Nat → Nat → Nat
  | 0, _ => 256
  | k + 1, i => if hitU c i = true then i else fdU c k (i + 1)
theorem hitB_own (c i : Nat) : hitB (nmF c) (fmF c) i = hitU c i := by
  unfold hitB hitU nmF fmF
  rw [bsOf_toList, bsOf_toList, bsOf_toList, bsOf_toList]
theorem fdG_own (c : Nat) : ∀ k i, fdG (nmF c) (fmF c) k i = fdU c k i
  | 0, _ => rfl
  | k + 1, i => by rw [fdG, fdU, hitB_own, fdG_own c k (i + 1)]
theorem own_all (c : Nat) (hc : c < 256) : fdU c 256 0 ≤ c ∧ nmL (fdU c 256 0) = nmL c ∧ fmL (fdU c 256 0) = fmL c :=
  (show ∀ c, c < 256 → fdU c 256 0 ≤ c ∧ nmL (fdU c 256 0) = nmL c ∧ fmL (fdU c 256 0) = fmL c by decide +kernel) c hc
theorem find_own (c : Nat) (hc : c < 256) : ∃ k, fdF (nmF c) (fmF c) = k ∧ k ≤ c ∧ nmF k = nmF c ∧ fmF k = fmF c ∧ szF k = szF c := by
  obtain ⟨h1, h2, h3⟩ := own_all c hc
  refine ⟨fdU c 256 0, fdG_own c 256 0, h1, ?_, ?_, ?_⟩
  · unfold nmF; rw [h2]
  · unfold fmF; rw [h3]
  · unfold szF; rw [h3]
theorem tx_begins (c at_ : Nat) (f : Nat → Nat) : (bsOf (txL c at_ f)).extract 0 (nmF c).size = nmF c ∧ (nmF c).size ≤ (bsOf (txL c at_ f)).size := by
  unfold txL nmF
  rw [bsOf_size, bsOf_size, bsOf_extract, List.drop_zero, Nat.sub_zero]
  refine ⟨by rw [List.take_left'] <;> rfl, by rw [List.length_append]; omega⟩
theorem nm_some (c : Nat) (hc : c < 256) : (nmF c).size ≠ 0 := by
  have h := (fm_all c hc).2.2.2.2.2.1
  unfold nmF
  rw [bsOf_size]
  intro e
  exact h (List.length_eq_zero_iff.1 e)
end Go.Proofs.YtlogijjgachdjaaDoor
