/-
  The document's small answers: top bits, flags, one, what an operation sets.
-/
import Derived.Test.YtnjbgnkbncjnlaaRDig
namespace Go.Proofs.Ytnjbgnkbncjnlaa
open Go.RowKit Go.Shelf
set_option maxRecDepth 100000
set_option maxHeartbeats 1000000
set_option linter.unusedVariables false
theorem size_f (w : World) : Calls Try.prog 19 #[.bool false] w fun e w' => e = .returned (.int .i64 256) ∧ w = w' := size_any false w
theorem size_t (w : World) : Calls Try.prog 19 #[.bool true] w fun e w' => e = .returned (.int .i64 65536) ∧ w = w' := size_any true w
theorem nat_top (wide : Bool) (x : Nat) : nat (topb wide x) = x / tp wide % 2 := by
  unfold topb nat
  rcases Nat.mod_two_eq_zero_or_one (x / tp wide) with h | h <;> rw [h] <;> rfl
theorem top_at (x n : Nat) (wide : Bool) (w : World) (hx : x < 65536) (hn : nat (topb wide x) = n) : Calls Try.prog 34 #[.int .i64 x, .bool wide] w fun e w' => e = .returned (.int .i64 n) ∧ w = w' := by
  rw [nat_top] at hn
  cases wide
  · have E := Lib.hid (show (x : Int) / 128 % 2 = (n : Nat) by have : x / 128 % 2 = n := hn; omega)
    clear hn
    go_enter Try.func34, Try.ntmps34
    go_wp2_with fail
    refine (size_f _).mono ?_
    rintro e w' ⟨rfl, rfl⟩
    go_wp2_with fail
    go_ret
    exact ⟨congrArg Ending.returned (congrArg (Value.int .i64) E.out), rfl⟩
  · have E := Lib.hid (show (x : Int) / 32768 % 2 = (n : Nat) by have : x / 32768 % 2 = n := hn; omega)
    clear hn
    go_enter Try.func34, Try.ntmps34
    go_wp2_with fail
    refine (size_t _).mono ?_
    rintro e w' ⟨rfl, rfl⟩
    go_wp2_with fail
    go_ret
    exact ⟨congrArg Ending.returned (congrArg (Value.int .i64) E.out), rfl⟩
theorem one_at (b : Bool) (t : Nat) (w : World) (h : nat b = t) : Calls Try.prog 35 #[.bool b] w fun e w' => e = .returned (.int .i64 t) ∧ w = w' := by
  subst h
  cases b
  · go_enter Try.func35, Try.ntmps35
    go_wp2
    go_ret
    exact ⟨rfl, rfl⟩
  · go_enter Try.func35, Try.ntmps35
    go_wp2
    go_ret
    exact ⟨rfl, rfl⟩
theorem named_at (x n z : Nat) (wide : Bool) (w : World) (hx : x < 65536) (hn : nat (topb wide x) = n) (hz : nat (x == 0) = z) :
    Calls Try.prog 21 #[.int .i64 x, .bool wide] w fun e w' => e = .returned (.agg #[.int .i64 x, .int .i64 n, .int .i64 (-1), .int .i64 z, .int .i64 (-1)]) ∧ Below w.heap.size w w' := by
  have HN := Lib.hid hn
  have HZ := Lib.hid (show nat ((x : Int) == 0) = z by rw [beq0]; exact hz)
  clear hn hz
  go_enter Try.func21, Try.ntmps21
  go_wp2_with fail
  refine (top_at x n wide _ hx HN.out).mono ?_
  rintro e w' ⟨rfl, rfl⟩
  go_wp2_with fail
  refine (one_at _ z _ HZ.out).mono ?_
  rintro e w' ⟨rfl, rfl⟩
  go_wp2_with fail
  exact bodyPost_ret (v := .agg #[.int .i64 x, .int .i64 n, .int .i64 (-1), .int .i64 z, .int .i64 (-1)]) (by simp [results, Try.results21, go_sem]) rfl ⟨rfl, (Below.refl _ _).alloc (Nat.le_refl _) _⟩
theorem same_at (x z : Nat) (b : Bool) (w : World) (hz : nat b = z) :
    Calls Try.prog 36 #[.int .i64 x, .bool b] w fun e w' => e = .returned (.agg #[.int .i64 x, .int .i64 (-1), .int .i64 (-1), .int .i64 z, .int .i64 (-1)]) ∧ Below w.heap.size w w' := by
  have HZ := Lib.hid hz
  clear hz
  go_enter Try.func36, Try.ntmps36
  go_wp2_with fail
  refine (one_at _ z _ HZ.out).mono ?_
  rintro e w' ⟨rfl, rfl⟩
  go_wp2_with fail
  exact bodyPost_ret (v := .agg #[.int .i64 x, .int .i64 (-1), .int .i64 (-1), .int .i64 z, .int .i64 (-1)]) (by simp [results, Try.results36, go_sem]) rfl ⟨rfl, (Below.refl _ _).alloc (Nat.le_refl _) _⟩
theorem rset_no (p : Nat) (bit : Int) (w : World) : Calls Try.prog 27 #[.int .u8 p, .int .i64 bit, .int .i64 (-1)] w fun e w' => e = .returned (.int .u8 p) ∧ w = w' := by
  go_enter Try.func27, Try.ntmps27
  go_wp2
  go_ret
  exact ⟨rfl, rfl⟩
theorem flag_1 (p f : Nat) (w : World) (hp : p < 256) (h : p / 1 % 2 = f) : Calls Try.prog 20 #[.int .u8 p, .int .i64 1] w fun e w' => e = .returned (.int .i64 f) ∧ w = w' := by
  have E := Lib.hid (show (p : Int) % 2 = (f : Nat) by omega)
  clear h
  go_enter Try.func20, Try.ntmps20
  go_wp2
  go_ret
  exact ⟨congrArg Ending.returned (congrArg (Value.int .i64) E.out), rfl⟩
theorem setnum_1 : ∀ p, p < 256 → ∀ b : Bool, setF p 1 b + p / 1 % 2 * 1 = p + nat b * 1 ∧ setF p 1 b < 256 := by decide +kernel
theorem rset_1 (p q t : Nat) (b : Bool) (w : World) (hp : p < 256) (ht : nat b = t) (hq : setF p 1 b = q) : Calls Try.prog 27 #[.int .u8 p, .int .i64 1, .int .i64 t] w fun e w' => e = .returned (.int .u8 q) ∧ w = w' := by
  obtain ⟨h1, h2⟩ := setnum_1 p hp b
  rw [ht, hq] at h1
  rw [hq] at h2
  have t2 : t ≤ 1 := by rw [← ht]; unfold nat; split <;> omega
  obtain ⟨f, hf⟩ : ∃ f, p / 1 % 2 = f := ⟨_, rfl⟩
  rw [hf] at h1
  have f2 : f < 2 := by omega
  have E := Lib.hid (show IntKind.u8.wrap ((p : Int) - f + t) = (q : Nat) by rw [IntKind.wrap_u8']; omega)
  have HF := Lib.hid hf
  clear h1 h2 hf ht hq
  go_enter Try.func27, Try.ntmps27
  go_wp2_with fail
  refine (flag_1 p f _ hp HF.out).mono ?_
  rintro e w' ⟨rfl, rfl⟩
  go_wp2_with fail
  go_ret
  exact ⟨congrArg Ending.returned (congrArg (Value.int .u8) E.out), rfl⟩
theorem flag_2 (p f : Nat) (w : World) (hp : p < 256) (h : p / 2 % 2 = f) : Calls Try.prog 20 #[.int .u8 p, .int .i64 2] w fun e w' => e = .returned (.int .i64 f) ∧ w = w' := by
  have E := Lib.hid (show (p : Int) / 2 % 2 = (f : Nat) by omega)
  clear h
  go_enter Try.func20, Try.ntmps20
  go_wp2
  go_ret
  exact ⟨congrArg Ending.returned (congrArg (Value.int .i64) E.out), rfl⟩
theorem setnum_2 : ∀ p, p < 256 → ∀ b : Bool, setF p 2 b + p / 2 % 2 * 2 = p + nat b * 2 ∧ setF p 2 b < 256 := by decide +kernel
theorem rset_2 (p q t : Nat) (b : Bool) (w : World) (hp : p < 256) (ht : nat b = t) (hq : setF p 2 b = q) : Calls Try.prog 27 #[.int .u8 p, .int .i64 2, .int .i64 t] w fun e w' => e = .returned (.int .u8 q) ∧ w = w' := by
  obtain ⟨h1, h2⟩ := setnum_2 p hp b
  rw [ht, hq] at h1
  rw [hq] at h2
  have t2 : t ≤ 1 := by rw [← ht]; unfold nat; split <;> omega
  obtain ⟨f, hf⟩ : ∃ f, p / 2 % 2 = f := ⟨_, rfl⟩
  rw [hf] at h1
  have f2 : f < 2 := by omega
  have E := Lib.hid (show IntKind.u8.wrap ((p : Int) - f * 2 + t * 2) = (q : Nat) by rw [IntKind.wrap_u8']; omega)
  have HF := Lib.hid hf
  clear h1 h2 hf ht hq
  go_enter Try.func27, Try.ntmps27
  go_wp2_with fail
  refine (flag_2 p f _ hp HF.out).mono ?_
  rintro e w' ⟨rfl, rfl⟩
  go_wp2_with fail
  go_ret
  exact ⟨congrArg Ending.returned (congrArg (Value.int .u8) E.out), rfl⟩
theorem flag_8 (p f : Nat) (w : World) (hp : p < 256) (h : p / 8 % 2 = f) : Calls Try.prog 20 #[.int .u8 p, .int .i64 8] w fun e w' => e = .returned (.int .i64 f) ∧ w = w' := by
  have E := Lib.hid (show (p : Int) / 8 % 2 = (f : Nat) by omega)
  clear h
  go_enter Try.func20, Try.ntmps20
  go_wp2
  go_ret
  exact ⟨congrArg Ending.returned (congrArg (Value.int .i64) E.out), rfl⟩
theorem flag_64 (p f : Nat) (w : World) (hp : p < 256) (h : p / 64 % 2 = f) : Calls Try.prog 20 #[.int .u8 p, .int .i64 64] w fun e w' => e = .returned (.int .i64 f) ∧ w = w' := by
  have E := Lib.hid (show (p : Int) / 64 % 2 = (f : Nat) by omega)
  clear h
  go_enter Try.func20, Try.ntmps20
  go_wp2
  go_ret
  exact ⟨congrArg Ending.returned (congrArg (Value.int .i64) E.out), rfl⟩
theorem setnum_64 : ∀ p, p < 256 → ∀ b : Bool, setF p 64 b + p / 64 % 2 * 64 = p + nat b * 64 ∧ setF p 64 b < 256 := by decide +kernel
theorem rset_64 (p q t : Nat) (b : Bool) (w : World) (hp : p < 256) (ht : nat b = t) (hq : setF p 64 b = q) : Calls Try.prog 27 #[.int .u8 p, .int .i64 64, .int .i64 t] w fun e w' => e = .returned (.int .u8 q) ∧ w = w' := by
  obtain ⟨h1, h2⟩ := setnum_64 p hp b
  rw [ht, hq] at h1
  rw [hq] at h2
  have t2 : t ≤ 1 := by rw [← ht]; unfold nat; split <;> omega
  obtain ⟨f, hf⟩ : ∃ f, p / 64 % 2 = f := ⟨_, rfl⟩
  rw [hf] at h1
  have f2 : f < 2 := by omega
  have E := Lib.hid (show IntKind.u8.wrap ((p : Int) - f * 64 + t * 64) = (q : Nat) by rw [IntKind.wrap_u8']; omega)
  have HF := Lib.hid hf
  clear h1 h2 hf ht hq
  go_enter Try.func27, Try.ntmps27
  go_wp2_with fail
  refine (flag_64 p f _ hp HF.out).mono ?_
  rintro e w' ⟨rfl, rfl⟩
  go_wp2_with fail
  go_ret
  exact ⟨congrArg Ending.returned (congrArg (Value.int .u8) E.out), rfl⟩
theorem flag_128 (p f : Nat) (w : World) (hp : p < 256) (h : p / 128 % 2 = f) : Calls Try.prog 20 #[.int .u8 p, .int .i64 128] w fun e w' => e = .returned (.int .i64 f) ∧ w = w' := by
  have E := Lib.hid (show (p : Int) / 128 % 2 = (f : Nat) by omega)
  clear h
  go_enter Try.func20, Try.ntmps20
  go_wp2
  go_ret
  exact ⟨congrArg Ending.returned (congrArg (Value.int .i64) E.out), rfl⟩
theorem setnum_128 : ∀ p, p < 256 → ∀ b : Bool, setF p 128 b + p / 128 % 2 * 128 = p + nat b * 128 ∧ setF p 128 b < 256 := by decide +kernel
theorem rset_128 (p q t : Nat) (b : Bool) (w : World) (hp : p < 256) (ht : nat b = t) (hq : setF p 128 b = q) : Calls Try.prog 27 #[.int .u8 p, .int .i64 128, .int .i64 t] w fun e w' => e = .returned (.int .u8 q) ∧ w = w' := by
  obtain ⟨h1, h2⟩ := setnum_128 p hp b
  rw [ht, hq] at h1
  rw [hq] at h2
  have t2 : t ≤ 1 := by rw [← ht]; unfold nat; split <;> omega
  obtain ⟨f, hf⟩ : ∃ f, p / 128 % 2 = f := ⟨_, rfl⟩
  rw [hf] at h1
  have f2 : f < 2 := by omega
  have E := Lib.hid (show IntKind.u8.wrap ((p : Int) - f * 128 + t * 128) = (q : Nat) by rw [IntKind.wrap_u8']; omega)
  have HF := Lib.hid hf
  clear h1 h2 hf ht hq
  go_enter Try.func27, Try.ntmps27
  go_wp2_with fail
  refine (flag_128 p f _ hp HF.out).mono ?_
  rintro e w' ⟨rfl, rfl⟩
  go_wp2_with fail
  go_ret
  exact ⟨congrArg Ending.returned (congrArg (Value.int .u8) E.out), rfl⟩
end Go.Proofs.Ytnjbgnkbncjnlaa
