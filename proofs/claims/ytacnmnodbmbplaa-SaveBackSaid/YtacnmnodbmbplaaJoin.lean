/-
  A number at a row's beginning, its lowest byte first.
-/
import Derived.Test.YtacnmnodbmbplaaClone
namespace Go.Proofs.Ytacnmnodbmbplaa
open Go.RowKit Go.Shelf
set_option maxRecDepth 100000
set_option maxHeartbeats 1000000

/-- The number of the first k bytes. -/
def numN (f : Nat → Nat) : Nat → Nat
  | 0 => 0
  | k + 1 => numN f k + f k * 2 ^ (8 * k)
theorem numN_lt {f : Nat → Nat} {n : Nat} (hf : ∀ i, i < n → f i < 256) : numN f n < 2 ^ (8 * n) := by
  induction n with
  | zero => simp [numN]
  | succ k ih =>
    have h1 := ih (fun i hi => hf i (by omega))
    have h2 := hf k (by omega)
    have h3 : f k * 2 ^ (8 * k) ≤ 255 * 2 ^ (8 * k) := Nat.mul_le_mul_right _ (by omega)
    have h4 : 2 ^ (8 * (k + 1)) = 256 * 2 ^ (8 * k) := by rw [show 8 * (k + 1) = 8 * k + 8 by omega, Nat.pow_add]; omega
    rw [numN, h4]
    omega
theorem num_or {f : Nat → Nat} {i : Nat} (hf : ∀ j, j < i → f j < 256) : numN f i ||| f i * 2 ^ (8 * i) = numN f (i + 1) := by
  have h := Nat.two_pow_add_eq_or_of_lt (numN_lt hf) (f i)
  rw [numN, Nat.or_comm, Nat.mul_comm, ← h, Nat.add_comm]
theorem num_step {f : Nat → Nat} {i n : Nat} (hf : ∀ j, j < n → f j < 256) (hi : i < n) : f i * 2 ^ (8 * i) < 2 ^ (8 * n) := by
  have h1 := numN_lt (n := i + 1) (fun j hj => hf j (by omega))
  have h2 : 2 ^ (8 * (i + 1)) ≤ 2 ^ (8 * n) := Nat.pow_le_pow_right (by decide) (by omega)
  rw [numN] at h1
  omega
theorem or_u8 (x y : Nat) (hx : x < 256) (hy : y < 256) (h : x ||| y < 256) : bits BinOp.or IntKind.u8 (x : Int) (y : Int) = ((x ||| y : Nat) : Int) := by
  have e : (BitVec.ofInt 8 (x : Int) ||| BitVec.ofInt 8 (y : Int)).toNat = x ||| y := by
    rw [BitVec.toNat_or, BitVec.toNat_ofInt, BitVec.toNat_ofInt]
    have a1 : ((x : Int) % ((2 ^ 8 : Nat) : Int)).toNat = x := by omega
    have a2 : ((y : Int) % ((2 ^ 8 : Nat) : Int)).toNat = y := by omega
    rw [a1, a2]
  show IntKind.u8.wrap ((BitVec.ofInt 8 (x : Int) ||| BitVec.ofInt 8 (y : Int)).toNat : Nat) = _
  rw [e]
  generalize x ||| y = z at *
  simp only [IntKind.wrap_u8]
  omega
theorem num_or_u8 {f : Nat → Nat} {i : Nat} (hf : ∀ j, j < 1 → f j < 256) (hi : i < 1) : bits BinOp.or IntKind.u8 (numN f i : Nat) ((f i : Int) * 2 ^ (8 * i) % 256) = ((numN f (i + 1) : Nat) : Int) := by
  have h1 := numN_lt (n := i) (fun j hj => hf j (by omega))
  have h2 := num_step hf hi
  have h3 := numN_lt (n := i + 1) (fun j hj => hf j (by omega))
  have h4 : 2 ^ (8 * (i + 1)) ≤ 2 ^ (8 * 1) := Nat.pow_le_pow_right (by decide) (by omega)
  have h5 : 2 ^ (8 * i) ≤ 2 ^ (8 * 1) := Nat.pow_le_pow_right (by decide) (by omega)
  have h6 : (2 : Nat) ^ (8 * 1) = 256 := by decide
  have e := num_or (f := f) (i := i) (fun j hj => hf j (by omega))
  have ec : ((f i : Int) * 2 ^ (8 * i) % 256) = ((f i * 2 ^ (8 * i) : Nat) : Int) := by
    have e2 : ((f i * 2 ^ (8 * i) : Nat) : Int) = (f i : Int) * 2 ^ (8 * i) := by
      rw [Int.natCast_mul, Int.natCast_pow]
      rfl
    rw [← e2]
    generalize f i * 2 ^ (8 * i) = z at *
    omega
  rw [ec, or_u8 _ _ (by omega) (by omega) (by rw [e]; omega), e]
theorem join_uint8 (a : Option Addr) (len c : Nat) (f : Nat → Nat) (w : World) (h : Row w a 1 f) (hl : 1 ≤ len) :
    Calls Try.prog 96 #[.slice a len c] w fun e w' => e = .returned (.int .u8 (numN f 1 : Nat)) ∧ w' = w := by
  have hlen : (1 : Int) ≤ len := by omega
  have hf := Lib.hid h.1
  clear hl
  go_enter Try.func96, Try.ntmps96
  go_wp2_with (go_at_call 85; refine (size_uint8 _).mono ?_; rintro e w' ⟨rfl, rfl⟩)
  go_loopw [3, 6] (fun s3 s6 wr => ∃ i : Nat, i ≤ 1 ∧ s6 = .int .i64 i ∧ s3 = .int .u8 (numN f i : Nat) ∧ wr = w) (fun _ s6 _ => 1 - (intOf s6).toNat)
  case atStart => exact ⟨0, Nat.zero_le _, rfl, rfl, rfl⟩
  case round =>
    obtain ⟨i, hi, rfl, rfl, rfl⟩ := hrel
    by_cases hlt : i < 1
    · rcases h with ⟨hb, h0 | ⟨b, o, rfl, hbl, hc⟩⟩
      · omega
      have hci := hc i hlt
      have hbi := hb i hlt
      have hlt2 : (i : Int) < 1 := by omega
      have hil : (i : Int) < len := by omega
      clear hc hb
      go_wp2_with fail
      go_roundw
      case rel => exact ⟨i + 1, by omega, by congr 1, by first | rw [num_or_u8 hf.out hlt] | rw [IntKind.wrap_u8, num_or_u8 hf.out hlt], trivial⟩
      case measure => simp [intOf]; omega
    · obtain rfl : i = 1 := by omega
      clear h
      go_wp2_with fail
      go_ret
      exact ⟨rfl, rfl⟩
theorem or_u16 (x y : Nat) (hx : x < 65536) (hy : y < 65536) (h : x ||| y < 65536) : bits BinOp.or IntKind.u16 (x : Int) (y : Int) = ((x ||| y : Nat) : Int) := by
  have e : (BitVec.ofInt 16 (x : Int) ||| BitVec.ofInt 16 (y : Int)).toNat = x ||| y := by
    rw [BitVec.toNat_or, BitVec.toNat_ofInt, BitVec.toNat_ofInt]
    have a1 : ((x : Int) % ((2 ^ 16 : Nat) : Int)).toNat = x := by omega
    have a2 : ((y : Int) % ((2 ^ 16 : Nat) : Int)).toNat = y := by omega
    rw [a1, a2]
  show IntKind.u16.wrap ((BitVec.ofInt 16 (x : Int) ||| BitVec.ofInt 16 (y : Int)).toNat : Nat) = _
  rw [e]
  generalize x ||| y = z at *
  simp only [IntKind.wrap_u16]
  omega
theorem num_or_u16 {f : Nat → Nat} {i : Nat} (hf : ∀ j, j < 2 → f j < 256) (hi : i < 2) : bits BinOp.or IntKind.u16 (numN f i : Nat) ((f i : Int) * 2 ^ (8 * i) % 65536) = ((numN f (i + 1) : Nat) : Int) := by
  have h1 := numN_lt (n := i) (fun j hj => hf j (by omega))
  have h2 := num_step hf hi
  have h3 := numN_lt (n := i + 1) (fun j hj => hf j (by omega))
  have h4 : 2 ^ (8 * (i + 1)) ≤ 2 ^ (8 * 2) := Nat.pow_le_pow_right (by decide) (by omega)
  have h5 : 2 ^ (8 * i) ≤ 2 ^ (8 * 2) := Nat.pow_le_pow_right (by decide) (by omega)
  have h6 : (2 : Nat) ^ (8 * 2) = 65536 := by decide
  have e := num_or (f := f) (i := i) (fun j hj => hf j (by omega))
  have ec : ((f i : Int) * 2 ^ (8 * i) % 65536) = ((f i * 2 ^ (8 * i) : Nat) : Int) := by
    have e2 : ((f i * 2 ^ (8 * i) : Nat) : Int) = (f i : Int) * 2 ^ (8 * i) := by
      rw [Int.natCast_mul, Int.natCast_pow]
      rfl
    rw [← e2]
    generalize f i * 2 ^ (8 * i) = z at *
    omega
  rw [ec, or_u16 _ _ (by omega) (by omega) (by rw [e]; omega), e]
theorem join_uint16 (a : Option Addr) (len c : Nat) (f : Nat → Nat) (w : World) (h : Row w a 2 f) (hl : 2 ≤ len) :
    Calls Try.prog 98 #[.slice a len c] w fun e w' => e = .returned (.int .u16 (numN f 2 : Nat)) ∧ w' = w := by
  have hlen : (2 : Int) ≤ len := by omega
  have hf := Lib.hid h.1
  clear hl
  go_enter Try.func98, Try.ntmps98
  go_wp2_with (go_at_call 87; refine (size_uint16 _).mono ?_; rintro e w' ⟨rfl, rfl⟩)
  go_loopw [3, 6] (fun s3 s6 wr => ∃ i : Nat, i ≤ 2 ∧ s6 = .int .i64 i ∧ s3 = .int .u16 (numN f i : Nat) ∧ wr = w) (fun _ s6 _ => 2 - (intOf s6).toNat)
  case atStart => exact ⟨0, Nat.zero_le _, rfl, rfl, rfl⟩
  case round =>
    obtain ⟨i, hi, rfl, rfl, rfl⟩ := hrel
    by_cases hlt : i < 2
    · rcases h with ⟨hb, h0 | ⟨b, o, rfl, hbl, hc⟩⟩
      · omega
      have hci := hc i hlt
      have hbi := hb i hlt
      have hlt2 : (i : Int) < 2 := by omega
      have hil : (i : Int) < len := by omega
      clear hc hb
      go_wp2_with fail
      go_roundw
      case rel => exact ⟨i + 1, by omega, by congr 1, by first | rw [num_or_u16 hf.out hlt] | rw [IntKind.wrap_u16, num_or_u16 hf.out hlt], trivial⟩
      case measure => simp [intOf]; omega
    · obtain rfl : i = 2 := by omega
      clear h
      go_wp2_with fail
      go_ret
      exact ⟨rfl, rfl⟩
theorem or_u32 (x y : Nat) (hx : x < 4294967296) (hy : y < 4294967296) (h : x ||| y < 4294967296) : bits BinOp.or IntKind.u32 (x : Int) (y : Int) = ((x ||| y : Nat) : Int) := by
  have e : (BitVec.ofInt 32 (x : Int) ||| BitVec.ofInt 32 (y : Int)).toNat = x ||| y := by
    rw [BitVec.toNat_or, BitVec.toNat_ofInt, BitVec.toNat_ofInt]
    have a1 : ((x : Int) % ((2 ^ 32 : Nat) : Int)).toNat = x := by omega
    have a2 : ((y : Int) % ((2 ^ 32 : Nat) : Int)).toNat = y := by omega
    rw [a1, a2]
  show IntKind.u32.wrap ((BitVec.ofInt 32 (x : Int) ||| BitVec.ofInt 32 (y : Int)).toNat : Nat) = _
  rw [e]
  generalize x ||| y = z at *
  simp only [IntKind.wrap_u32]
  omega
theorem num_or_u32 {f : Nat → Nat} {i : Nat} (hf : ∀ j, j < 4 → f j < 256) (hi : i < 4) : bits BinOp.or IntKind.u32 (numN f i : Nat) ((f i : Int) * 2 ^ (8 * i) % 4294967296) = ((numN f (i + 1) : Nat) : Int) := by
  have h1 := numN_lt (n := i) (fun j hj => hf j (by omega))
  have h2 := num_step hf hi
  have h3 := numN_lt (n := i + 1) (fun j hj => hf j (by omega))
  have h4 : 2 ^ (8 * (i + 1)) ≤ 2 ^ (8 * 4) := Nat.pow_le_pow_right (by decide) (by omega)
  have h5 : 2 ^ (8 * i) ≤ 2 ^ (8 * 4) := Nat.pow_le_pow_right (by decide) (by omega)
  have h6 : (2 : Nat) ^ (8 * 4) = 4294967296 := by decide
  have e := num_or (f := f) (i := i) (fun j hj => hf j (by omega))
  have ec : ((f i : Int) * 2 ^ (8 * i) % 4294967296) = ((f i * 2 ^ (8 * i) : Nat) : Int) := by
    have e2 : ((f i * 2 ^ (8 * i) : Nat) : Int) = (f i : Int) * 2 ^ (8 * i) := by
      rw [Int.natCast_mul, Int.natCast_pow]
      rfl
    rw [← e2]
    generalize f i * 2 ^ (8 * i) = z at *
    omega
  rw [ec, or_u32 _ _ (by omega) (by omega) (by rw [e]; omega), e]
theorem join_uint32 (a : Option Addr) (len c : Nat) (f : Nat → Nat) (w : World) (h : Row w a 4 f) (hl : 4 ≤ len) :
    Calls Try.prog 73 #[.slice a len c] w fun e w' => e = .returned (.int .u32 (numN f 4 : Nat)) ∧ w' = w := by
  have hlen : (4 : Int) ≤ len := by omega
  have hf := Lib.hid h.1
  clear hl
  go_enter Try.func73, Try.ntmps73
  go_wp2_with (go_at_call 84; refine (size_uint32 _).mono ?_; rintro e w' ⟨rfl, rfl⟩)
  go_loopw [3, 6] (fun s3 s6 wr => ∃ i : Nat, i ≤ 4 ∧ s6 = .int .i64 i ∧ s3 = .int .u32 (numN f i : Nat) ∧ wr = w) (fun _ s6 _ => 4 - (intOf s6).toNat)
  case atStart => exact ⟨0, Nat.zero_le _, rfl, rfl, rfl⟩
  case round =>
    obtain ⟨i, hi, rfl, rfl, rfl⟩ := hrel
    by_cases hlt : i < 4
    · rcases h with ⟨hb, h0 | ⟨b, o, rfl, hbl, hc⟩⟩
      · omega
      have hci := hc i hlt
      have hbi := hb i hlt
      have hlt2 : (i : Int) < 4 := by omega
      have hil : (i : Int) < len := by omega
      clear hc hb
      go_wp2_with fail
      go_roundw
      case rel => exact ⟨i + 1, by omega, by congr 1, by first | rw [num_or_u32 hf.out hlt] | rw [IntKind.wrap_u32, num_or_u32 hf.out hlt], trivial⟩
      case measure => simp [intOf]; omega
    · obtain rfl : i = 4 := by omega
      clear h
      go_wp2_with fail
      go_ret
      exact ⟨rfl, rfl⟩
theorem or_u64 (x y : Nat) (hx : x < 18446744073709551616) (hy : y < 18446744073709551616) (h : x ||| y < 18446744073709551616) : bits BinOp.or IntKind.u64 (x : Int) (y : Int) = ((x ||| y : Nat) : Int) := by
  have e : (BitVec.ofInt 64 (x : Int) ||| BitVec.ofInt 64 (y : Int)).toNat = x ||| y := by
    rw [BitVec.toNat_or, BitVec.toNat_ofInt, BitVec.toNat_ofInt]
    have a1 : ((x : Int) % ((2 ^ 64 : Nat) : Int)).toNat = x := by omega
    have a2 : ((y : Int) % ((2 ^ 64 : Nat) : Int)).toNat = y := by omega
    rw [a1, a2]
  show IntKind.u64.wrap ((BitVec.ofInt 64 (x : Int) ||| BitVec.ofInt 64 (y : Int)).toNat : Nat) = _
  rw [e]
  generalize x ||| y = z at *
  simp only [IntKind.wrap_u64]
  omega
theorem num_or_u64 {f : Nat → Nat} {i : Nat} (hf : ∀ j, j < 8 → f j < 256) (hi : i < 8) : bits BinOp.or IntKind.u64 (numN f i : Nat) ((f i : Int) * 2 ^ (8 * i) % 18446744073709551616) = ((numN f (i + 1) : Nat) : Int) := by
  have h1 := numN_lt (n := i) (fun j hj => hf j (by omega))
  have h2 := num_step hf hi
  have h3 := numN_lt (n := i + 1) (fun j hj => hf j (by omega))
  have h4 : 2 ^ (8 * (i + 1)) ≤ 2 ^ (8 * 8) := Nat.pow_le_pow_right (by decide) (by omega)
  have h5 : 2 ^ (8 * i) ≤ 2 ^ (8 * 8) := Nat.pow_le_pow_right (by decide) (by omega)
  have h6 : (2 : Nat) ^ (8 * 8) = 18446744073709551616 := by decide
  have e := num_or (f := f) (i := i) (fun j hj => hf j (by omega))
  have ec : ((f i : Int) * 2 ^ (8 * i) % 18446744073709551616) = ((f i * 2 ^ (8 * i) : Nat) : Int) := by
    have e2 : ((f i * 2 ^ (8 * i) : Nat) : Int) = (f i : Int) * 2 ^ (8 * i) := by
      rw [Int.natCast_mul, Int.natCast_pow]
      rfl
    rw [← e2]
    generalize f i * 2 ^ (8 * i) = z at *
    omega
  rw [ec, or_u64 _ _ (by omega) (by omega) (by rw [e]; omega), e]
theorem join_uint64 (a : Option Addr) (len c : Nat) (f : Nat → Nat) (w : World) (h : Row w a 8 f) (hl : 8 ≤ len) :
    Calls Try.prog 99 #[.slice a len c] w fun e w' => e = .returned (.int .u64 (numN f 8 : Nat)) ∧ w' = w := by
  have hlen : (8 : Int) ≤ len := by omega
  have hf := Lib.hid h.1
  clear hl
  go_enter Try.func99, Try.ntmps99
  go_wp2_with (go_at_call 89; refine (size_uint64 _).mono ?_; rintro e w' ⟨rfl, rfl⟩)
  go_loopw [3, 6] (fun s3 s6 wr => ∃ i : Nat, i ≤ 8 ∧ s6 = .int .i64 i ∧ s3 = .int .u64 (numN f i : Nat) ∧ wr = w) (fun _ s6 _ => 8 - (intOf s6).toNat)
  case atStart => exact ⟨0, Nat.zero_le _, rfl, rfl, rfl⟩
  case round =>
    obtain ⟨i, hi, rfl, rfl, rfl⟩ := hrel
    by_cases hlt : i < 8
    · rcases h with ⟨hb, h0 | ⟨b, o, rfl, hbl, hc⟩⟩
      · omega
      have hci := hc i hlt
      have hbi := hb i hlt
      have hlt2 : (i : Int) < 8 := by omega
      have hil : (i : Int) < len := by omega
      clear hc hb
      go_wp2_with fail
      go_roundw
      case rel => exact ⟨i + 1, by omega, by congr 1, by first | rw [num_or_u64 hf.out hlt] | rw [IntKind.wrap_u64, num_or_u64 hf.out hlt], trivial⟩
      case measure => simp [intOf]; omega
    · obtain rfl : i = 8 := by omega
      clear h
      go_wp2_with fail
      go_ret
      exact ⟨rfl, rfl⟩
end Go.Proofs.Ytacnmnodbmbplaa
