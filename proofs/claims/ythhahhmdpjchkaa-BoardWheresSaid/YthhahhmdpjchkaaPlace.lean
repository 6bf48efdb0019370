/-
  The calls that lead a place.
-/
import Derived.Test.YthhahhmdpjchkaaChecked
import Derived.Test.YthhahhmdpjchkaaLib
import Derived.Test.YthhahhmdpjchkaaLead
import Derived.WalkKit
import Derived.Lib.Hide
import Derived.Below
namespace Go.Proofs.Ythhahhmdpjchkaa
open Go.RowKit Go.Shelf
set_option maxRecDepth 100000
set_option maxHeartbeats 1000000

theorem shl_one (L : Nat) (h : L < 64) : IntKind.u64.wrap ((2 : Int) ^ L) = ((2 ^ L : Nat) : Int) := by
  have h2 : 2 ^ L < 2 ^ 64 := Nat.pow_lt_pow_right (by decide) h
  have e : (2 : Int) ^ L = ((2 ^ L : Nat) : Int) := by rw [Int.natCast_pow]; rfl
  rw [e, IntKind.wrap_u64]
  generalize 2 ^ L = x at *
  omega
theorem and_mask (t s : Nat) (ht : t < 2 ^ 63) (h0 : s ≠ 0) (h1 : s < 2 ^ 63) : bits .and .u64 (t : Int) ((up s : Nat) - 1 : Int) = (t % up s : Nat) := by
  obtain ⟨a, b⟩ := up_le s (by omega) h0
  rw [show ((up s : Nat) - 1 : Int) = ((up s - 1 : Nat) : Int) by omega, u64_and_nat _ _ (by omega) (by omega)]
  unfold up
  rw [Nat.and_two_pow_sub_one_eq_mod]
theorem len_le (x : Nat) (h : x < 2 ^ 63) : Lib.bitLen x ≤ 63 := Lib.bitLen_le x 63 (by decide) h

theorem up_any (s : Nat) (w : World) (h0 : 1 ≤ s) (h1 : s < 2 ^ 63) :
    Calls Try.prog 37 #[.int .u64 s] w fun e w' => e = .returned (.int .u64 (up s : Nat)) ∧ w' = w := by
  have e1 : (IntKind.u64.wrap ((s : Int) - 1)) = ((s - 1 : Nat) : Int) := by rw [IntKind.wrap_u64]; omega
  have hL := len_le (s - 1) (by omega)
  have HC := Try.bits_Len64 (s - 1 : Nat) w (by omega) (by omega)
  rw [Int.toNat_natCast] at HC
  have hs := shl_one (Lib.bitLen (s - 1)) (by omega)
  unfold up
  generalize Lib.bitLen (s - 1) = L at *
  generalize 2 ^ L = R at *
  have HC := Lib.hid HC
  go_enter Try.func37, Try.ntmps37
  go_wp2_with (go_at_call 47; refine HC.out.mono ?_; rintro e w' ⟨rfl, rfl⟩)
  go_ret
  exact ⟨rfl, rfl⟩
theorem dn_any (s : Nat) (w : World) (h0 : 1 ≤ s) (h1 : s < 2 ^ 63) :
    Calls Try.prog 38 #[.int .u64 s] w fun e w' => e = .returned (.int .u64 (dn s : Nat)) ∧ w' = w := by
  have hL := len_le s (by omega)
  have hL1 := (bitLen_bounds s (by omega) (by omega)).1
  have HC := Try.bits_Len64 (s : Nat) w (by omega) (by omega)
  rw [Int.toNat_natCast] at HC
  have hs := shl_one (Lib.bitLen s - 1) (by omega)
  unfold dn
  generalize Lib.bitLen s = L at *
  generalize 2 ^ (L - 1) = R at *
  have HC := Lib.hid HC
  go_enter Try.func38, Try.ntmps38
  go_wp2_with (go_at_call 47; refine HC.out.mono ?_; rintro e w' ⟨rfl, rfl⟩)
  go_ret
  exact ⟨rfl, rfl⟩

/-- The loop of the code. -/
theorem lead_any (t s : Nat) (w : World) (ht : t < 2 ^ 63) (h0 : 1 ≤ s) (h1 : s < 2 ^ 63) :
    Calls Try.prog 33 #[.int .u64 t, .int .u64 s] w fun e w' => e = .returned (.int .u64 (lead t s : Nat)) ∧ w' = w := by
  have hlt := lead_lt s t h1 (by omega)
  obtain ⟨R, hR⟩ : ∃ R, lead t s = R := ⟨_, rfl⟩
  rw [hR] at hlt ⊢
  go_enter Try.func33, Try.ntmps33
  go_wp2_with fail
  go_loop [0, 1, 5] (fun st ss sb => ∃ T S B : Nat, T < 2 ^ 63 ∧ 1 ≤ S ∧ S < 2 ^ 63 ∧ B + S ≤ s ∧ st = .int .u64 T ∧ ss = .int .u64 S ∧ sb = .int .u64 B ∧ Hid (B + lead T S = R)) (fun _ ss _ => (intOf ss).toNat)
  case atStart => exact ⟨t, s, 0, ht, h0, h1, by omega, rfl, rfl, rfl, Lib.hid (by omega)⟩
  case round =>
    obtain ⟨T, S, B, hT, hS0, hS1, hB, rfl, rfl, rfl, hrel⟩ := hrel
    by_cases hlt : T < S
    · have e := lead_below hlt
      have hr := hrel.out
      rw [e] at hr
      go_wp2_with fail
      go_ret
      exact ⟨by rw [← hr]; rfl, rfl⟩
    · have HU := Lib.hid (up_any S w hS0 hS1)
      have hm := and_mask T S hT (by omega) hS1
      obtain ⟨l1, l2⟩ := up_le S (by omega) (by omega)
      by_cases h3 : T % up S < S
      · have hr := hrel.out
        rw [lead_mod hlt (by omega) h3] at hr
        generalize up S = U at *
        generalize T % U = V at *
        go_wp2_with (go_at_call 37; refine HU.out.mono ?_; rintro e w' ⟨rfl, rfl⟩)
        go_ret
        exact ⟨by rw [← hr]; rfl, rfl⟩
      · have HD := Lib.hid (dn_any S w hS0 hS1)
        obtain ⟨f1, f2, f3, f4, f5⟩ := far_facts (t := T) hS1 (by omega) h3
        have f6 := dn_pos S
        have hr := hrel.out
        rw [lead_far (by omega) h3] at hr
        generalize up S = U at *
        generalize T % U = V at *
        generalize dn S = D at *
        replace f5 := Lib.hid f5
        go_wp2_with (first | (go_at_call 37; refine HU.out.mono ?_; rintro e w' ⟨rfl, rfl⟩) | (go_at_call 38; refine HD.out.mono ?_; rintro e w' ⟨rfl, rfl⟩))
        have f5 := f5.out
        refine ⟨⟨V - D, S - D, B + D, by omega, by omega, by omega, by omega, ?_, ?_, ?_, Lib.hid (by omega)⟩, ?_⟩
        · congr 1; omega
        · congr 1; omega
        · congr 1
        · show (intOf _).toNat < (intOf _).toNat
          simp only [intOf]
          omega

theorem code_any (t s : Int) (w : World) (ht : -9223372036854775808 ≤ t) (ht1 : t ≤ 9223372036854775807) (hs : -9223372036854775808 ≤ s) (hs1 : s ≤ 9223372036854775807) :
    Calls Try.prog 27 #[.int .i64 t, .int .i64 s] w fun e w' => e = .returned (.int .i64 (if t < 0 ∨ s < 1 then 0 else (lead t.toNat s.toNat : Nat))) ∧ w' = w := by
  obtain ⟨R, hR⟩ : ∃ R : Int, (if t < 0 ∨ s < 1 then 0 else ((lead t.toNat s.toNat : Nat) : Int)) = R := ⟨_, rfl⟩
  rw [hR]
  by_cases h0 : t < 0
  · rw [if_pos (Or.inl h0)] at hR
    subst hR
    go_enter Try.func27, Try.ntmps27
    go_wp2
    go_ret
    exact ⟨rfl, rfl⟩
  by_cases h1 : s < 1
  · rw [if_pos (Or.inr h1)] at hR
    subst hR
    go_enter Try.func27, Try.ntmps27
    go_wp2
    go_ret
    exact ⟨rfl, rfl⟩
  rw [if_neg (by omega)] at hR
  subst hR
  obtain ⟨t, rfl⟩ := Int.eq_ofNat_of_zero_le (show 0 ≤ t by omega)
  obtain ⟨s, rfl⟩ := Int.eq_ofNat_of_zero_le (show 0 ≤ s by omega)
  have hl := lead_lt s t (by omega) (by omega)
  have HL := Lib.hid (lead_any t s w (by omega) (by omega) (by omega))
  simp only [Int.toNat_natCast] at *
  generalize lead t s = R at *
  go_enter Try.func27, Try.ntmps27
  go_wp2_with (go_at_call 33; refine HL.out.mono ?_; rintro e w' ⟨rfl, rfl⟩)
  go_ret
  exact ⟨rfl, rfl⟩

theorem double_le {W k : Nat} (h : W = 2 ^ k) (h1 : W < 4611686018427387904) : 2 * W ≤ 4611686018427387904 := by
  have : k < 62 := (Nat.pow_lt_pow_iff_right (a := 2) (by decide)).mp (by omega)
  have := Nat.pow_le_pow_right (n := 2) (by decide) (show k + 1 ≤ 62 by omega)
  rw [Nat.pow_succ] at this
  omega
theorem up_big (s : Nat) (h : s < 2 ^ 63) (h1 : 2 ^ 62 < s) : up s = 2 ^ 63 := up_unique s 63 (by omega) (by omega) (by omega) (by omega)

/-- The document's own. -/
theorem ref_any : ∀ (s : Nat) (t : Nat) (w : World), t < 2 ^ 63 → 1 ≤ s → s < 2 ^ 63 →
    Calls Try.prog 25 #[.int .i64 t, .int .i64 s] w fun e w' => e = .returned (.int .i64 (lead t s : Nat)) ∧ w' = w := by
  intro s
  induction s using Nat.strongRecOn with
  | _ s ih =>
  intro t w ht h0 h1
  have IH := Lib.hid ih
  clear ih
  have hlt := lead_lt s t h1 (by omega)
  by_cases hl : t < s
  · rw [lead_below hl]
    go_enter Try.func25, Try.ntmps25
    go_wp2_with fail
    go_ret
    exact ⟨rfl, rfl⟩
  obtain ⟨l1, l2⟩ := up_le s (by omega) (by omega)
  obtain ⟨c, d⟩ := dn_le s (by omega) (by omega)
  have HW := Lib.hid (fun k h1' h2' => up_unique s k (by omega) (by omega) h1' h2')
  have HE := Lib.hid (fun k h1' h2' => dn_unique s k (by omega) (by omega) h1' h2')
  have HM := Lib.hid (fun h => lead_mod hl (show s ≠ 0 by omega) h)
  have HF := Lib.hid (fun h => lead_far (t := t) (show s ≠ 0 by omega) h)
  have HG := Lib.hid (fun h => far_facts (t := t) h1 (show s ≠ 0 by omega) h)
  generalize hR : lead t s = R at *
  clear hR
  generalize hU : up s = U at *
  clear hU
  generalize hD : dn s = D at *
  clear hD
  go_enter Try.func25, Try.ntmps25
  go_wp2_with fail
  go_loop [5] (fun sw => ∃ W : Nat, 1 ≤ W ∧ (W : Int) ≤ 4611686018427387904 ∧ sw = .int .i64 W ∧ Hid (∃ k, W = 2 ^ k) ∧ W < 2 * s) (fun sw => s - (intOf sw).toNat)
  case atStart => exact ⟨1, by omega, by omega, rfl, Lib.hid ⟨0, rfl⟩, by omega⟩
  case round =>
    obtain ⟨W, hW0, hW1, rfl, hk, hW2⟩ := hrel
    by_cases hlt2 : W < s
    · by_cases hlt3 : (W : Int) < 4611686018427387904
      · go_wp2_with fail
        obtain ⟨k, hk⟩ := hk.out
        have := double_le hk (by omega)
        refine ⟨⟨2 * W, by omega, by omega, by congr 1, Lib.hid ⟨k + 1, ?_⟩, by omega⟩, ?_⟩
        · rw [Nat.pow_succ, hk, Nat.mul_comm]
        · simp only [intOf]
          omega
      · have e := HW.out 63 (by omega) (by omega)
        have em : t % U = t := Nat.mod_eq_of_lt (by omega)
        rw [em] at HM HF HG
        have hlt4 : (4611686018427387904 : Int) < s := by omega
        clear hk HW em e l1 l2 hlt2 hW2 hW0
        by_cases h3 : t < s
        · exact absurd h3 hl
        · obtain ⟨f1, f2, f3, f4, f5⟩ := HG.out h3
          replace f5 := Lib.hid f5
          have hr := HF.out h3
          have HI := Lib.hid (IH.out (s - D) (by omega) (t - D) w (by omega) (by omega) (by omega))
          rw [show ((s - D : Nat) : Int) = (s : Int) - D by omega, show ((t - D : Nat) : Int) = (t : Int) - D by omega] at HI
          generalize lead (t - D) (s - D) = L at *
          replace hr := Lib.hid hr
          have hW : (W : Int) = 4611686018427387904 := by omega
          clear hlt3 hW1
          rw [hW]
          clear hW
          go_wp2_with fail
          go_loop [7] (fun sp => ∃ P : Nat, 1 ≤ P ∧ P ≤ s ∧ sp = .int .i64 P ∧ Hid (∃ k, P = 2 ^ k)) (fun sp => s - (intOf sp).toNat)
          case atStart => exact ⟨1, by omega, h0, rfl, Lib.hid ⟨0, rfl⟩⟩
          case round =>
            obtain ⟨P, hP0, hP1, rfl, hk⟩ := hrel
            by_cases h4 : 2 * P ≤ s
            · go_wp2_with fail
              refine ⟨⟨2 * P, by omega, h4, by congr 1, Lib.hid ?_⟩, ?_⟩
              · obtain ⟨k, hk⟩ := hk.out
                exact ⟨k + 1, by rw [Nat.pow_succ, hk]; omega⟩
              · simp only [intOf]
                omega
            · obtain ⟨k, hk⟩ := hk.out
              have e := HE.out k (by omega) (by omega)
              obtain rfl : D = P := by omega
              clear hk e HE
              have hr := hr.out
              go_wp2_with (go_at_call 25; refine HI.out.mono ?_; rintro e w' ⟨rfl, rfl⟩)
              go_ret
              exact ⟨by rw [hr]; rfl, rfl⟩
    · obtain ⟨k, hk⟩ := hk.out
      have e := HW.out k (by omega) (by omega)
      obtain rfl : U = W := by omega
      clear hk HW e
      obtain ⟨V, hV⟩ : ∃ V, t % U = V := ⟨_, rfl⟩
      have hV2 : (t : Int) % U = V := by omega
      rw [hV] at HM HF HG
      by_cases h3 : V < s
      · have hr := HM.out h3
        go_wp2_with fail
        go_ret
        exact ⟨rfl, rfl⟩
      · obtain ⟨f1, f2, f3, f4, f5⟩ := HG.out h3
        replace f5 := Lib.hid f5
        have hr := HF.out h3
        have HI := Lib.hid (IH.out (s - D) (by omega) (V - D) w (by omega) (by omega) (by omega))
        rw [show ((s - D : Nat) : Int) = (s : Int) - D by omega, show ((V - D : Nat) : Int) = (V : Int) - D by omega] at HI
        generalize lead (V - D) (s - D) = L at *
        replace hr := Lib.hid hr
        go_wp2_with fail
        go_loop [7] (fun sp => ∃ P : Nat, 1 ≤ P ∧ P ≤ s ∧ sp = .int .i64 P ∧ Hid (∃ k, P = 2 ^ k)) (fun sp => s - (intOf sp).toNat)
        case atStart => exact ⟨1, by omega, h0, rfl, Lib.hid ⟨0, rfl⟩⟩
        case round =>
          obtain ⟨P, hP0, hP1, rfl, hk⟩ := hrel
          by_cases h4 : 2 * P ≤ s
          · go_wp2_with fail
            refine ⟨⟨2 * P, by omega, h4, by congr 1, Lib.hid ?_⟩, ?_⟩
            · obtain ⟨k, hk⟩ := hk.out
              exact ⟨k + 1, by rw [Nat.pow_succ, hk]; omega⟩
            · simp only [intOf]
              omega
          · obtain ⟨k, hk⟩ := hk.out
            have e := HE.out k (by omega) (by omega)
            obtain rfl : D = P := by omega
            clear hk e HE
            have hr := hr.out
            go_wp2_with (go_at_call 25; refine HI.out.mono ?_; rintro e w' ⟨rfl, rfl⟩)
            go_ret
            exact ⟨by rw [hr]; rfl, rfl⟩
end Go.Proofs.Ythhahhmdpjchkaa
