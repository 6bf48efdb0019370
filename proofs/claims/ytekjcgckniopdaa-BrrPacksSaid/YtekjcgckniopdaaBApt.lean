/-
  How far samples are from others, by the document; what the blocks that are made stand for.
-/
import Derived.Test.YtekjcgckniopdaaBDecs
namespace Go.Proofs.Ytekjcgckniopdaa
open Go.RowKit Go.Shelf
set_option maxRecDepth 100000
set_option maxHeartbeats 2000000
set_option linter.unusedVariables false
set_option linter.unusedSimpArgs false

/-- How far the first k of some samples are from others. -/
def apF (f h : Nat → Int) : Nat → Int
  | 0 => 0
  | k + 1 => apF f h k + (f k - h k) * (f k - h k)
theorem apF_bnd (f h : Nat → Int) (n : Nat) (hf : ∀ i, i < n → Smp (f i)) (hh : ∀ i, i < n → Smp (h i)) (k : Nat) (hk : k ≤ n) : 0 ≤ apF f h k ∧ apF f h k ≤ 4294836225 * k := by
  induction k with
  | zero => exact ⟨Int.le_refl _, by show (0 : Int) ≤ _; omega⟩
  | succ k ih =>
    have h1 := hf k (by omega)
    have h2 := hh k (by omega)
    unfold Smp at h1 h2
    have h3 := sq_bnd (f k - h k) (by omega) (by omega)
    have h4 := ih (by omega)
    show 0 ≤ apF f h k + (f k - h k) * (f k - h k) ∧ apF f h k + (f k - h k) * (f k - h k) ≤ _
    generalize (f k - h k) * (f k - h k) = z at *
    omega
theorem apF_congr (f f' h : Nat → Int) (k : Nat) (e : ∀ i, i < k → f i = f' i) : apF f h k = apF f' h k := by
  induction k with
  | zero => rfl
  | succ k ih => rw [apF, apF, ih (fun i hi => e i (by omega)), e k (by omega)]
/-- The block that is made, byte by byte. -/
def blkB (s : Nat → Int) (p q : Int) (sh f : Nat) : Nat → Nat := putF sh f (choF sh f s p q) 16
theorem blkB_head (s : Nat → Int) (p q : Int) (sh f : Nat) (hf : f < 4) : blkB s p q sh f 0 / 16 = sh ∧ blkB s p q sh f 0 / 4 % 4 = f ∧ blkB s p q sh f 0 = sh * 16 + f * 4 := by
  have e : blkB s p q sh f 0 = sh * 16 + f * 4 := rfl
  rw [e]
  omega
/-- What a made block stands for. -/
theorem blkB_st (s : Nat → Int) (p q : Int) (sh f : Nat) (hf : f < 4) (k : Nat) (hk : k ≤ 16) : stB (blkB s p q sh f) p q k = ((encF sh f s p q k).1, (encF sh f s p q k).2.1) := by
  obtain ⟨h1, h2, _⟩ := blkB_head s p q sh f hf
  unfold stB
  rw [h1, h2, encF_st]
  refine stF_congr _ _ _ _ _ _ _ (fun i hi => ?_)
  exact nibO_put sh f (choF sh f s p q) 16 i (by omega) (choF_bnd sh f s p q i)
/-- How far a made block is. -/
theorem blkB_far (s : Nat → Int) (p q : Int) (sh f : Nat) (hf : f < 4) (k : Nat) (hk : k ≤ 16) : apF (fun i => (stB (blkB s p q sh f) p q (i + 1)).1) s k = (encF sh f s p q k).2.2 := by
  induction k with
  | zero => rfl
  | succ k ih =>
    rw [apF, ih (by omega), blkB_st s p q sh f hf (k + 1) hk]
    rfl
theorem rapart_any (w : World) (a b : Option Addr) (n c d : Nat) (f h : Nat → Int) (h1 : IRow w a n f) (h2 : IRow w b n h) (hn : n ≤ 16) (hf : ∀ i, i < n → Smp (f i)) (hh : ∀ i, i < n → Smp (h i)) :
    Calls Try.prog 33 #[.slice a n c, .slice b n d] w fun e w' => e = .returned (.int .i64 (apF f h n)) ∧ Below w.heap.size w w' := by
  have H1 := Lib.hid h1
  have H2 := Lib.hid h2
  have hbn := Lib.hid (apF_bnd f h n hf hh)
  clear h1 h2
  go_enter Try.func33, Try.ntmps33
  go_wp2_with fail
  go_loopw [5, 6] (fun s5 s6 wr => ∃ k : Nat, k ≤ n ∧ s6 = .int .i64 k ∧ s5 = .int .i64 (apF f h k) ∧ Hid (∃ q, wr = w.drewN q)) (fun _ s6 _ => n - (intOf s6).toNat)
  case atStart => exact ⟨0, Nat.zero_le _, rfl, rfl, Lib.hid ⟨0, rfl⟩⟩
  case round =>
    obtain ⟨k, hk, rfl, rfl, hq⟩ := hrel
    by_cases hlt : k < n
    · rcases H1.out with h0 | ⟨b1, o1, rfl, hb1, hcell⟩
      · omega
      rcases H2.out with h0 | ⟨b2, o2, rfl, hb2, hcell'⟩
      · omega
      have d1 : wr.cell? ⟨b1, o1 + k, none⟩ = some (.int .i16 (f k)) := by
        obtain ⟨q, e⟩ := hq.out
        rw [e]
        exact hcell k hlt
      have d2 : wr.cell? ⟨b2, o2 + k, none⟩ = some (.int .i16 (h k)) := by
        obtain ⟨q, e⟩ := hq.out
        rw [e]
        exact hcell' k hlt
      have hs1 := hf k hlt
      have hs2 := hh k hlt
      unfold Smp at hs1 hs2
      have hsq := sq_bnd (f k - h k) (by omega) (by omega)
      have hb0 := hbn.out k hk
      have hw1 : IntKind.i64.wrap (f k - h k) = f k - h k := by simp only [IntKind.wrap_i64]; omega
      have hw2 : wrap64 ((f k - h k) * (f k - h k)) = (f k - h k) * (f k - h k) := w64 _ (by omega) (by omega)
      have hst : apF f h (k + 1) = apF f h k + (f k - h k) * (f k - h k) := rfl
      have hw3 : wrap64 (apF f h (k + 1)) = apF f h (k + 1) := by
        have := hbn.out (k + 1) hlt
        exact w64 _ (by omega) (by omega)
      rw [hst] at hw3
      clear hcell hcell' hsq hb0
      generalize hx : apF f h (k + 1) = X' at *
      generalize apF f h k = X at *
      generalize f k = y at *
      generalize h k = z at *
      replace hst := Lib.hid hst
      replace hx := Lib.hid hx
      replace hw2 := Lib.hid hw2
      replace hw3 := Lib.hid hw3
      go_upto_region 5 with (fail)
      go_quiet (fail)
      clear d1 d2
      have hw2' := hw2.out
      have hw3' := hw3.out
      go_upto_region 6 with (fail)
      generalize y - z = D at *
      clear hs1 hs2 hw1
      go_wp2_with fail
      go_roundw
      case rel => exact ⟨k + 1, by omega, by go_num, by rw [hx.out, hst.out]; first | done | rw [hw3.out], Lib.hid (by obtain ⟨q, e⟩ := hq.out; exact ⟨q + nq, by rw [e]; simp [World.drewN, Nat.add_assoc]⟩)⟩
      case measure => simp [intOf]; omega
    · obtain rfl : k = n := by omega
      go_wp2_with fail
      go_ret
      exact ⟨rfl, by obtain ⟨q, e⟩ := hq.out; rw [e]; exact below_drewN (Below.refl _ _) q⟩
end Go.Proofs.Ytekjcgckniopdaa
