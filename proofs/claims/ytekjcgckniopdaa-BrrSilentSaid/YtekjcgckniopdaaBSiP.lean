/-
  Silence: what noughts are packed as, and what that stands for.
-/
import Derived.Test.YtekjcgckniopdaaBPkC
namespace Go.Proofs.Ytekjcgckniopdaa
open Go.RowKit Go.Shelf Go.Sort
set_option maxRecDepth 100000
set_option maxHeartbeats 400000
set_option linter.unusedVariables false

def zF : Nat → Int := fun _ => 0
theorem nib_zero : nibF 0 0 0 0 0 = 0 := by decide +kernel
theorem samp_zero : sampF 0 0 0 0 0 = 0 := by decide +kernel
theorem far_zero : farF 0 0 0 0 0 0 = 0 := by decide +kernel
theorem encF_zero (k : Nat) : encF 0 0 zF 0 0 k = (0, 0, 0) := by
  induction k with
  | zero => rfl
  | succ k ih =>
    have e : encF 0 0 zF 0 0 (k + 1) = (sampF 0 0 (encF 0 0 zF 0 0 k).1 (encF 0 0 zF 0 0 k).2.1 (nibF 0 0 (encF 0 0 zF 0 0 k).1 (encF 0 0 zF 0 0 k).2.1 (zF k)), (encF 0 0 zF 0 0 k).1, (encF 0 0 zF 0 0 k).2.2 + farF 0 0 (encF 0 0 zF 0 0 k).1 (encF 0 0 zF 0 0 k).2.1 (zF k) (nibF 0 0 (encF 0 0 zF 0 0 k).1 (encF 0 0 zF 0 0 k).2.1 (zF k))) := rfl
    rw [e, ih]
    show (sampF 0 0 0 0 (nibF 0 0 0 0 0), (0 : Int), (0 : Int) + farF 0 0 0 0 0 (nibF 0 0 0 0 0)) = (0, 0, 0)
    rw [nib_zero, samp_zero, far_zero]
    rfl
theorem zF_smp (i : Nat) : Smp (zF i) := smp0
theorem blkF_zero : blkF zF 0 0 0 = 0 := by
  have e : blkF zF 0 0 0 = (encF 0 0 zF 0 0 16).2.2 := rfl
  rw [e, encF_zero]
theorem topF_zero (k : Nat) : topF zF 0 0 k = 0 := by
  induction k with
  | zero => rfl
  | succ k ih =>
    unfold topF
    rw [ih, blkF_zero, if_neg]
    have := blkF_bnd zF 0 0 zF_smp (k + 1)
    omega
theorem choF_zero : choF 0 0 zF 0 0 = fun _ => 0 := by
  funext k
  unfold choF
  rw [encF_zero]
  exact nib_zero
theorem put_zero : ∀ j : Fin 9, putF 0 0 (fun _ => 0) 16 j = 0 := by decide +kernel
theorem enc_zero (j : Nat) (hj : j < 9) : encB zF 0 0 j = 0 := by
  unfold encB
  rw [topF_zero]
  show putF 0 0 (choF 0 0 zF 0 0) 16 j = 0
  rw [choF_zero]
  exact put_zero ⟨j, hj⟩
theorem nibO_zero (g : Nat → Nat) (k : Nat) (hk : k < 16) (h : ∀ j, j < 8 → g (1 + j) = 0) : nibO g k = 0 := by
  have := h (k / 2) (by omega)
  unfold nibO
  rw [this]
  simp
theorem st_zero (g : Nat → Nat) (h1 : g 0 / 16 = 0) (h2 : g 0 / 4 % 4 = 0) (h : ∀ j, j < 8 → g (1 + j) = 0) (k : Nat) (hk : k ≤ 16) : stB g 0 0 k = (0, 0) := by
  unfold stB
  rw [h1, h2]
  induction k with
  | zero => rfl
  | succ k ih =>
    have e : stF 0 0 (nibO g) 0 0 (k + 1) = (sampF 0 0 (stF 0 0 (nibO g) 0 0 k).1 (stF 0 0 (nibO g) 0 0 k).2 (nibO g k), (stF 0 0 (nibO g) 0 0 k).1) := rfl
    rw [e, ih (by omega), nibO_zero g k (by omega) h, samp_zero]
theorem pieF_zero (n i : Nat) : pieF zF n i = zF := by
  funext j
  unfold pieF zF
  split <;> rfl
theorem pkS_zero (n i : Nat) : pkS zF n i = (0, 0) := by
  induction i with
  | zero => rfl
  | succ i ih =>
    rw [pkS, ih, pieF_zero]
    have h0 := enc_zero 0 (by decide)
    exact st_zero _ (by rw [h0]) (by rw [h0]) (fun j hj => enc_zero (1 + j) (by omega)) 16 (Nat.le_refl _)
theorem pkB_zero (n i j : Nat) (hj : j < 9) : pkB zF n i j = 0 := by
  unfold pkB
  rw [pkS_zero, pieF_zero]
  exact enc_zero j hj
theorem blk_zero (n i : Nat) : blkG (pkG zF n) i 0 / 16 = 0 ∧ blkG (pkG zF n) i 0 / 4 % 4 = 0 ∧ ∀ j, j < 8 → blkG (pkG zF n) i (1 + j) = 0 := by
  have hm := pieN_pos n
  have h0 : blkG (pkG zF n) i 0 ≤ 1 := by
    unfold blkG pkG
    rw [pkB_zero _ _ _ (by omega)]
    split <;> omega
  refine ⟨by omega, by omega, fun j hj => ?_⟩
  unfold blkG pkG
  rw [pkB_zero _ _ _ (by omega), if_neg (by omega)]
theorem pqA_zero (n i : Nat) : pqA (pkG zF n) i = (0, 0) := by
  induction i with
  | zero => rfl
  | succ i ih =>
    obtain ⟨h1, h2, h3⟩ := blk_zero n i
    rw [pqA, ih]
    exact st_zero _ h1 h2 h3 16 (Nat.le_refl _)
theorem allF_zero (n i : Nat) : allF (pkG zF n) i = 0 := by
  obtain ⟨h1, h2, h3⟩ := blk_zero n (i / 16)
  unfold allF
  rw [pqA_zero]
  show (stB (blkG (pkG zF n) (i / 16)) 0 0 (i % 16 + 1)).1 = 0
  rw [st_zero _ h1 h2 h3 _ (by omega)]
end Go.Proofs.Ytekjcgckniopdaa
