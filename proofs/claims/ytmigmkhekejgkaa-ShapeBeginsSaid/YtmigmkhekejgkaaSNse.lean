/-
  Noise, by the code and by the document.
-/
import Derived.Test.YtmigmkhekejgkaaSNum
import Derived.Laws.BitsLemmas
import Derived.Lib.EndianBits
namespace Go.Proofs.Ytmigmkhekejgkaa
open Go.RowKit Go.Shelf
set_option maxRecDepth 100000
set_option maxHeartbeats 1000000
set_option linter.unusedVariables false
set_option linter.unusedSimpArgs false

theorem wraps_u16 (n : Int) (h₀ : 0 ≤ n) (h₁ : n < 2 ^ 16) : IntKind.u16.wrap n = n := by
  have : IntKind.u16.wrap n = n % 65536 := by simp [IntKind.wrap, IntKind.bits, IntKind.signed]
  rw [this]
  omega
theorem xor_two (a b : Nat) : (a ^^^ b) % 2 = (a % 2 + b % 2) % 2 := by
  have h := Nat.xor_mod_two_pow (a := a) (b := b) (n := 1)
  rw [show (2 : Nat) ^ 1 = 2 from rfl] at h
  rw [h]
  rcases Nat.mod_two_eq_zero_or_one a with e | e <;> rcases Nat.mod_two_eq_zero_or_one b with f | f <;> rw [e, f] <;> rfl
theorem bits_xor16 (a b : Nat) (ha : a < 65536) (hb : b < 65536) : bits .xor .u16 (a : Int) (b : Int) = ((a ^^^ b : Nat) : Int) := by
  have hx : a ^^^ b < 2 ^ 16 := Nat.xor_lt_two_pow (by omega) (by omega)
  have h1 : (BitVec.ofInt 16 (a : Int)).toNat = a := by
    rw [BitVec.ofInt_natCast, BitVec.toNat_ofNat]; exact Nat.mod_eq_of_lt (by omega)
  have h2 : (BitVec.ofInt 16 (b : Int)).toNat = b := by
    rw [BitVec.ofInt_natCast, BitVec.toNat_ofNat]; exact Nat.mod_eq_of_lt (by omega)
  show IntKind.u16.wrap ((BitVec.ofInt 16 (a : Int) ^^^ BitVec.ofInt 16 (b : Int)).toNat : Int) = _
  rw [BitVec.toNat_xor, h1, h2]
  exact wraps_u16 _ (Int.natCast_nonneg _) (by exact_mod_cast hx)
theorem noi_bits (x : Nat) (hx : x < 65536) : bits .or .u16 (bits .and .u16 (x : Int) 32767 / 2) (IntKind.u16.wrap (bits .and .u16 (bits .xor .u16 (x : Int) ((x : Int) / 2)) 1 * 16384)) = ((noiF x : Nat) : Int) := by
  have h1 : bits .and .u16 (x : Int) 32767 = (x : Int) % 32768 := bits_mask .u16 16 (by decide) wraps_u16 15 (by decide) (x : Int) (by omega) (by omega)
  have e2 : (x : Int) / 2 = ((x / 2 : Nat) : Int) := by omega
  have hx2 : x ^^^ (x / 2) < 2 ^ 16 := Nat.xor_lt_two_pow (by omega) (by omega)
  have h2 : bits .and .u16 ((x ^^^ (x / 2) : Nat) : Int) 1 = ((x ^^^ (x / 2) : Nat) : Int) % 2 := bits_mask .u16 16 (by decide) wraps_u16 1 (by decide) _ (by omega) (by omega)
  have h3 := xor_two x (x / 2)
  rw [h1, e2, bits_xor16 x (x / 2) hx (by omega), h2]
  generalize x ^^^ (x / 2) = y at *
  have e3 : (y : Int) % 2 = (((x % 2 + x / 2 % 2) % 2 : Nat) : Int) := by omega
  rw [e3]
  have e4 : (x : Int) % 32768 / 2 = ((x % 32768 / 2 : Nat) : Int) := by omega
  have hl : x % 32768 / 2 < 16384 := by omega
  rw [e4]
  unfold noiF
  generalize x % 32768 / 2 = q at *
  by_cases h : x % 2 = x / 2 % 2
  · have hd : (x % 2 + x / 2 % 2) % 2 = 0 := by omega
    rw [hd, if_pos h, wraps_u16 _ (by omega) (by omega), bits_join_low .u16 16 (by decide) wraps_u16 14 _ _ (by omega) (by omega) (by omega) (by omega) (by omega) (by omega)]
    omega
  · have hd : (x % 2 + x / 2 % 2) % 2 = 1 := by omega
    rw [hd, if_neg h, wraps_u16 _ (by omega) (by omega), bits_join_low .u16 16 (by decide) wraps_u16 14 _ _ (by omega) (by omega) (by omega) (by omega) (by omega) (by omega)]
    omega
theorem noise_any (w : World) (x : Nat) (hx : x < 65536) : Calls Try.prog 8 #[.int .u16 (x : Nat)] w fun e w' => e = .returned (.int .u16 (noiF x : Nat)) ∧ w' = w := by
  have h := noi_bits x hx
  replace h := Lib.hid h
  go_enter Try.func8, Try.ntmps8
  go_wp2_with fail
  go_ret
  exact ⟨by rw [← h.out]; rfl, rfl⟩
theorem half_bit (x : Nat) : x / 2 % 2 = x % 32768 / 2 % 2 := by omega
theorem rnoise_any (w : World) (x : Nat) (hx : x < 65536) : Calls Try.prog 9 #[.int .u16 (x : Nat)] w fun e w' => e = .returned (.int .u16 (noiF x : Nat)) ∧ w' = w := by
  by_cases h : x % 2 = x / 2 % 2
  · have hb : ((x : Int) % 2 != (x : Int) % 32768 / 2 % 2) = false := by
      rw [bne_eq_false_iff_eq]
      have := half_bit x
      rw [this] at h
      generalize hq : x % 32768 / 2 = q at *
      have e : (x : Int) % 32768 / 2 = (q : Int) := by omega
      rw [e]
      clear this hq e
      omega
    have hn : ((noiF x : Nat) : Int) = (x : Int) % 32768 / 2 := by unfold noiF; rw [if_pos h]; omega
    replace hn := Lib.hid hn
    clear h
    go_enter Try.func9, Try.ntmps9
    go_wp2_with fail
    go_ret
    exact ⟨by rw [hn.out]; rfl, rfl⟩
  · have hb : ((x : Int) % 2 != (x : Int) % 32768 / 2 % 2) = true := by
      rw [bne_iff_ne]
      have := half_bit x
      rw [this] at h
      generalize hq : x % 32768 / 2 = q at *
      have e : (x : Int) % 32768 / 2 = (q : Int) := by omega
      rw [e]
      clear this hq e
      omega
    have hn : ((noiF x : Nat) : Int) = (x : Int) % 32768 / 2 + 16384 := by unfold noiF; rw [if_neg h]; omega
    replace hn := Lib.hid hn
    clear h
    go_enter Try.func9, Try.ntmps9
    go_wp2_with fail
    go_ret
    exact ⟨by rw [hn.out]; rfl, rfl⟩
end Go.Proofs.Ytmigmkhekejgkaa
