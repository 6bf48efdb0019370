/-
  What the laws call: a block that is known, a square; how near the nearest block is.
-/
import Derived.Test.YtekjcgckniopdaaBEnc
namespace Go.Proofs.Ytekjcgckniopdaa
open Go.RowKit Go.Shelf
set_option maxRecDepth 100000
set_option maxHeartbeats 2000000
set_option linter.unusedVariables false
set_option linter.unusedSimpArgs false

def knoB (i : Nat) : Nat := if i = 0 then 64 else if i = 1 then 18 else if i = 2 then 240 else 0
theorem knoB_st : (stB knoB 0 0 1).1 = 8 ∧ (stB knoB 0 0 2).1 = 16 ∧ (stB knoB 0 0 3).1 = -8 ∧ (stB knoB 0 0 4).1 = 0 := by decide +kernel
theorem known_any (w : World) : Calls Try.prog 24 #[] w fun e w' => e = .returned (.bool true) ∧ Below w.heap.size w w' := by
  have hW := Whole.fresh w 5 #[.int .u8 64, .int .u8 18, .int .u8 240, .int .u8 0, .int .u8 0, .int .u8 0, .int .u8 0, .int .u8 0, .int .u8 0]
  have hB := (Below.refl w.heap.size w).alloc (Nat.le_refl _) (.cells #[.int .u8 64, .int .u8 18, .int .u8 240, .int .u8 0, .int .u8 0, .int .u8 0, .int .u8 0, .int .u8 0, .int .u8 0] 5)
  have hR : Row (w.alloc (.cells #[.int .u8 64, .int .u8 18, .int .u8 240, .int .u8 0, .int .u8 0, .int .u8 0, .int .u8 0, .int .u8 0, .int .u8 0] 5)) (some ⟨w.heap.size, 0, none⟩) 9 knoB := by
    refine ⟨fun i hi => by unfold knoB; (repeat' split) <;> omega, .inr ⟨_, 0, rfl, hW.lt, fun i hi => ?_⟩⟩
    rw [hW.cell, Nat.zero_add]
    rcases (show i = 0 ∨ i = 1 ∨ i = 2 ∨ i = 3 ∨ i = 4 ∨ i = 5 ∨ i = 6 ∨ i = 7 ∨ i = 8 by omega) with rfl | rfl | rfl | rfl | rfl | rfl | rfl | rfl | rfl <;> rfl
  have HD := Lib.hid (cdecode_any _ (some ⟨w.heap.size, 0, none⟩) 9 knoB 0 0 hR ⟨by decide, by decide⟩ ⟨by decide, by decide⟩)
  obtain ⟨k0, k1, k2, k3⟩ := knoB_st
  replace hB := Lib.hid hB
  clear hW hR
  go_enter Try.func24, Try.ntmps24
  go_wp2_with fail
  refine HD.out.mono ?_
  rintro e w' ⟨s1, rfl, hO, hB1⟩
  obtain ⟨a1, c1, rfl, hI⟩ := own_irow (f := fun i => (stB knoB 0 0 (i + 1)).1) hO (fun i hi => outL_at _ 0 0 16 i hi)
  rcases hI with h | ⟨b, o, rfl, hb, hc⟩
  · omega
  have x0 := hc 0 (by decide)
  have x1 := hc 1 (by decide)
  have x2 := hc 2 (by decide)
  have x3 := hc 3 (by decide)
  dsimp only at x0 x1 x2 x3
  rw [k0] at x0
  rw [k1] at x1
  rw [k2] at x2
  rw [k3] at x3
  rw [Nat.add_zero] at x0
  have hB2 := Lib.hid (hB.out.trans (hB1.mono hB.out.size))
  clear hc hO hB1 hB k0 k1 k2 k3 HD
  go_wp2_with fail
  go_ret
  exact ⟨rfl, hB2.out⟩
theorem sq_any (w : World) (a b : Int) (ha : Smp a) (hb : Smp b) : Calls Try.prog 25 #[.int .i16 a, .int .i16 b] w fun e w' => e = .returned (.int .i64 ((a - b) * (a - b))) ∧ w' = w := by
  unfold Smp at ha hb
  have hw : wrap64 (a - b) = a - b := w64 _ (by omega) (by omega)
  have hq := sq_bnd (a - b) (by omega) (by omega)
  have hw2 : wrap64 ((a - b) * (a - b)) = (a - b) * (a - b) := w64 _ (by omega) (by omega)
  replace hw2 := Lib.hid hw2
  clear hq
  go_enter Try.func25, Try.ntmps25
  go_upto_region 2 with (fail)
  have hw3 := hw2.out
  generalize hd : a - b = d at *
  replace hd := Lib.hid hd
  clear ha hb hw
  go_wp2_with fail
  go_ret
  exact ⟨by show Ending.returned (.int .i64 (wrap64 (d * d))) = _; rw [hw2.out, ← hd.out], rfl⟩
/-- With the filter 0 what is behind doesn't matter. -/
theorem samp0 (sh : Nat) (p q p' q' n : Int) : sampF sh 0 p q n = sampF sh 0 p' q' n := rfl
/-- A block that is made with the filter 0 is at most as far as any with that shift. -/
theorem enc0_le (sh : Nat) (s : Nat → Int) (p q : Int) (g : Nat → Int) (hg : ∀ i, -8 ≤ g i ∧ g i ≤ 7) (k : Nat) : (encF sh 0 s p q k).2.2 ≤ apF (fun i => (stF sh 0 g p q (i + 1)).1) s k := by
  induction k with
  | zero => exact Int.le_refl _
  | succ k ih =>
    have h1 := bestN_le sh 0 (encF sh 0 s p q k).1 (encF sh 0 s p q k).2.1 (s k) 15 (g k) (hg k).1 (by have := (hg k).2; omega)
    show (encF sh 0 s p q k).2.2 + farF sh 0 (encF sh 0 s p q k).1 (encF sh 0 s p q k).2.1 (s k) (nibF sh 0 (encF sh 0 s p q k).1 (encF sh 0 s p q k).2.1 (s k)) ≤ apF (fun i => (stF sh 0 g p q (i + 1)).1) s k + ((stF sh 0 g p q (k + 1)).1 - s k) * ((stF sh 0 g p q (k + 1)).1 - s k)
    have h2 : ((stF sh 0 g p q (k + 1)).1 - s k) * ((stF sh 0 g p q (k + 1)).1 - s k) = farF sh 0 (encF sh 0 s p q k).1 (encF sh 0 s p q k).2.1 (s k) (g k) := rfl
    rw [h2]
    unfold nibF
    omega
/-- What the nearest block stands for. -/
def nrF (s : Nat → Int) (p q : Int) (i : Nat) : Int := (stB (encB s p q) p q (i + 1)).1
theorem nrF_far (s : Nat → Int) (p q : Int) : apF (nrF s p q) s 16 = blkF s p q (topF s p q 51) := by
  have hle := topF_le s p q 51
  exact blkB_far s p q (topF s p q 51 % 13) (topF s p q 51 / 13) (by omega) 16 (Nat.le_refl _)
/-- The nearest block is at most as far as any with the filter 0. -/
theorem near_le (s : Nat → Int) (p q : Int) (sh : Nat) (hsh : sh ≤ 12) (g : Nat → Nat) (hg : g 0 = sh * 16) : apF (nrF s p q) s 16 ≤ apF (fun i => (stB g p q (i + 1)).1) s 16 := by
  rw [nrF_far]
  have h1 := topF_least s p q 51 sh (by omega)
  have h2 := enc0_le sh s p q (nibO g) (nibO_bnd g) 16
  have h3 : blkF s p q sh = (encF sh 0 s p q 16).2.2 := by
    unfold blkF
    rw [show sh % 13 = sh by omega, show sh / 13 = 0 by omega]
  have h4 : ∀ i, (stB g p q (i + 1)).1 = (stF sh 0 (nibO g) p q (i + 1)).1 := fun i => by
    unfold stB
    rw [hg, show sh * 16 / 16 = sh by omega, show sh * 16 / 4 % 4 = 0 by omega]
  have h5 : (fun i => (stB g p q (i + 1)).1) = fun i => (stF sh 0 (nibO g) p q (i + 1)).1 := funext h4
  rw [h5]
  omega
theorem apF_self (f : Nat → Int) (k : Nat) : apF f f k = 0 := by
  induction k with
  | zero => rfl
  | succ k ih => rw [apF, ih, Int.sub_self]; rfl
theorem apF_zero (f h : Nat → Int) (n : Nat) (hf : ∀ i, i < n → Smp (f i)) (hh : ∀ i, i < n → Smp (h i)) (k : Nat) (hk : k ≤ n) (h0 : apF f h k ≤ 0) : ∀ i, i < k → f i = h i := by
  induction k with
  | zero => intro i hi; omega
  | succ k ih =>
    have b1 := apF_bnd f h n hf hh k (by omega)
    have hs1 := hf k (by omega)
    have hs2 := hh k (by omega)
    unfold Smp at hs1 hs2
    have b2 := sq_bnd (f k - h k) (by omega) (by omega)
    have e : apF f h (k + 1) = apF f h k + (f k - h k) * (f k - h k) := rfl
    rw [e] at h0
    intro i hi
    by_cases hik : i = k
    · subst hik
      have hz : (f i - h i) * (f i - h i) = 0 := by omega
      have := Int.mul_eq_zero.1 hz
      omega
    · exact ih (by omega) (by omega) i (by omega)
/-- Samples that a block with the filter 0 stands for are encoded without a loss. -/
theorem near_same (p q : Int) (hp : Smp p) (hq : Smp q) (sh : Nat) (hsh : sh ≤ 12) (g : Nat → Nat) (hg : g 0 = sh * 16) (i : Nat) (hi : i < 16) :
    nrF (fun i => (stB g p q (i + 1)).1) p q i = (stB g p q (i + 1)).1 := by
  have h1 := near_le (fun i => (stB g p q (i + 1)).1) p q sh hsh g hg
  rw [apF_self (fun i => (stB g p q (i + 1)).1) 16] at h1
  exact apF_zero _ _ 16 (fun i _ => (stF_smp _ _ _ p q hp hq (i + 1)).1) (fun i _ => (stF_smp _ _ _ p q hp hq (i + 1)).1) 16 (Nat.le_refl _) h1 i hi
end Go.Proofs.Ytekjcgckniopdaa
