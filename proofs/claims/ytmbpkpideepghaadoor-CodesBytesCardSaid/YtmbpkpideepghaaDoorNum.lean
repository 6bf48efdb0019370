/-
  Bytes as a number.
-/
import Derived.Test.YtmbpkpideepghaaDoorSz
namespace Go.Proofs.YtmbpkpideepghaaDoor
open Go.RowKit
set_option maxRecDepth 100000
set_option maxHeartbeats 400000
set_option linter.unusedVariables false

/-- The first k bytes as a number, the lowest first. -/
def numN (f : Nat → Nat) : Nat → Nat
  | 0 => 0
  | k + 1 => numN f k + f k * 2 ^ (8 * k)
theorem numN_lt {f : Nat → Nat} {n : Nat} (hf : ∀ i, i < n → f i < 256) : numN f n < 2 ^ (8 * n) := by
  induction n with
  | zero => simp [numN]
  | succ k ih =>
    have h1 := ih (fun i hi => hf i (by omega))
    have h2 := hf k (by omega)
    have h3 : f k * 2 ^ (8 * k) ≤ 255 * 2 ^ (8 * k) := Nat.mul_le_mul_right _ (by omega)
    have h4 : 2 ^ (8 * (k + 1)) = 256 * 2 ^ (8 * k) := by rw [show 8 * (k + 1) = 8 * k + 8 by omega, Nat.pow_add]; omega
    rw [numN, h4]
    omega
theorem num_or {f : Nat → Nat} {i : Nat} (hf : ∀ j, j < i → f j < 256) : numN f i ||| f i * 2 ^ (8 * i) = numN f (i + 1) := by
  have h := Nat.two_pow_add_eq_or_of_lt (numN_lt hf) (f i)
  rw [numN, Nat.or_comm, Nat.mul_comm, ← h, Nat.add_comm]
theorem num_step {f : Nat → Nat} {i n : Nat} (hf : ∀ j, j < n → f j < 256) (hi : i < n) : f i * 2 ^ (8 * i) < 2 ^ (8 * n) := by
  have h1 := numN_lt (n := i + 1) (fun j hj => hf j (by omega))
  have h2 : 2 ^ (8 * (i + 1)) ≤ 2 ^ (8 * n) := Nat.pow_le_pow_right (by decide) (by omega)
  rw [numN] at h1
  omega
theorem or_u32 (x y : Nat) (hx : x < 4294967296) (hy : y < 4294967296) (h : x ||| y < 4294967296) : bits BinOp.or IntKind.u32 (x : Int) (y : Int) = ((x ||| y : Nat) : Int) := by
  have e : (BitVec.ofInt 32 (x : Int) ||| BitVec.ofInt 32 (y : Int)).toNat = x ||| y := by
    rw [BitVec.toNat_or, BitVec.toNat_ofInt, BitVec.toNat_ofInt]
    have a1 : ((x : Int) % ((2 ^ 32 : Nat) : Int)).toNat = x := by omega
    have a2 : ((y : Int) % ((2 ^ 32 : Nat) : Int)).toNat = y := by omega
    rw [a1, a2]
  show IntKind.u32.wrap ((BitVec.ofInt 32 (x : Int) ||| BitVec.ofInt 32 (y : Int)).toNat : Nat) = _
  rw [e]
  generalize x ||| y = z at *
  simp only [IntKind.wrap_u32]
  omega
theorem num_or_u32 {f : Nat → Nat} {i : Nat} (hf : ∀ j, j < i + 1 → f j < 256) (hi : i < 4) : bits BinOp.or IntKind.u32 (numN f i : Nat) ((f i : Int) * 2 ^ (8 * i) % 4294967296) = ((numN f (i + 1) : Nat) : Int) := by
  have h1 := numN_lt (n := i) (fun j hj => hf j (by omega))
  have h2 := num_step hf (Nat.lt_succ_self i)
  have h3 := numN_lt (n := i + 1) (fun j hj => hf j (by omega))
  have h4 : 2 ^ (8 * (i + 1)) ≤ 2 ^ (8 * 4) := Nat.pow_le_pow_right (by decide) (by omega)
  have h5 : 2 ^ (8 * i) ≤ 2 ^ (8 * 4) := Nat.pow_le_pow_right (by decide) (by omega)
  have h6 : (2 : Nat) ^ (8 * 4) = 4294967296 := by decide
  have e := num_or (f := f) (i := i) (fun j hj => hf j (by omega))
  have ec : ((f i : Int) * 2 ^ (8 * i) % 4294967296) = ((f i * 2 ^ (8 * i) : Nat) : Int) := by
    have e2 : ((f i * 2 ^ (8 * i) : Nat) : Int) = (f i : Int) * 2 ^ (8 * i) := by
      rw [Int.natCast_mul, Int.natCast_pow]
      rfl
    rw [← e2]
    generalize f i * 2 ^ (8 * i) = z at *
    omega
  rw [ec, or_u32 _ _ (by omega) (by omega) (by rw [e]; omega), e]
theorem number_any (a : Option Addr) (k cap : Nat) (f : Nat → Nat) (w : World) (hR : Row w a k f) (hk : k ≤ 3) :
    Calls Tryd.prog 52 #[.slice a k cap] w fun e w' => e = .returned (.int .u32 (numN f k : Nat)) ∧ w = w' := by
  have hRh := Lib.hid hR
  clear hR
  go_enter Tryd.func52, Tryd.ntmps52
  go_wp2_with fail
  go_loopw [3, 8] (fun s3 s8 wr => ∃ i : Nat, i ≤ k ∧ s8 = .int .i64 i ∧ s3 = .int .u32 (numN f i : Nat) ∧ wr = w) (fun _ s8 _ => k - (intOf s8).toNat)
  case atStart => exact ⟨0, Nat.zero_le _, rfl, rfl, rfl⟩
  case round =>
    obtain ⟨i, hi, rfl, rfl, rfl⟩ := hrel
    by_cases hlt : i < k
    · rcases hRh.out with ⟨hb, h0 | ⟨b, o, rfl, hbl, hc⟩⟩
      · omega
      have d0 := hc i hlt
      have hx := hb i hlt
      have hor := num_or_u32 (f := f) (i := i) (fun j hj => hb j (by omega)) (by omega)
      clear hc hb
      generalize hn1 : numN f (i + 1) = n1 at *
      replace hn1 := Lib.hid hn1
      generalize numN f i = n0 at *
      generalize f i = x at *
      replace hor := Lib.hid hor
      go_wp2_with fail
      rw [hor.out]
      go_roundw
      case rel => exact ⟨i + 1, by omega, by go_num, by rw [hn1.out], trivial⟩
      case measure => simp [intOf]; omega
    · obtain rfl : i = k := by omega
      go_wp2_with fail
      go_ret
      exact ⟨rfl, rfl⟩
end Go.Proofs.YtmbpkpideepghaaDoor
