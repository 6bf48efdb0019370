/-
  AluBack: the walk.
-/
import Derived.Test.YtnjbgnkbncjnlaaDoOps
namespace Go.Proofs.Ytnjbgnkbncjnlaa.aluBack
open Go.RowKit Go.Shelf
set_option maxRecDepth 100000
set_option maxHeartbeats 1000000
set_option linter.unusedVariables false
theorem flg3_low : ∀ p, p < 256 → ∀ n z c : Bool, flg3 p n z c < 256 ∧ flg3 p n z c % 2 = (if c then 1 else 0) := by decide +kernel
theorem pd : ∀ p, p < 256 → p &&& 247 < 256 ∧ ((p &&& 247) &&& 8 != 0) = false ∧ (p &&& 247) ^^^ 1 < 256 ∧ (((p &&& 247) ^^^ 1) &&& 8 != 0) = false ∧ ((p &&& 247) ^^^ 1) % 2 = 1 - (p &&& 247) % 2 := by decide +kernel
theorem core (A B c S : Nat) (hS : S = 65536 ∨ S = 256) (hA : A < S) (hB : B < S) (hc : c < 2) :
    ((A + B + c) % S + (S - 1 - B) + (1 - c)) % S = A ∧ (2 * A + c) % S / 2 + S / 2 * (A / (S / 2) % 2) = A ∧ (2 * A + c) % S % 2 = c ∧ ((A + 1) % S + S - 1) % S = A := by
  rcases hS with rfl | rfl <;> omega
/-- What the calls answer, one behind the other. -/
theorem calls (A B p : Nat) (wide : Bool) (hA : A < sz wide) (hB : B < sz wide) (hp : p < 256) :
    ∃ x F1 F2 u q r s F3 F4 pp pq : Nat, x < 65536 ∧ u < 65536 ∧ s < 65536 ∧ bits .andNot .u8 (p : Int) 8 = pp ∧ bits .xor .u8 (pp : Int) 1 = pq ∧ (bits .and .u8 (bits .xor .u8 (r : Int) pp) 1 == 0) = true ∧
      DoIs 3 A B pp wide x F1 ∧ DoIs 4 x B pq wide A F2 ∧ DoIs 9 A 0 pp wide u q ∧ DoIs 11 u 0 q wide A r ∧ DoIs 12 A 0 pp wide s F3 ∧ DoIs 13 s 0 pp wide A F4 := by
  obtain ⟨h1, h2, h3, h4, h5⟩ := pd p hp
  obtain ⟨pp, hpp⟩ : ∃ pp, p &&& 247 = pp := ⟨_, rfl⟩
  rw [hpp] at h1 h2 h3 h4 h5
  obtain ⟨c, hc⟩ : ∃ c, pp % 2 = c := ⟨_, rfl⟩
  have hc2 : c < 2 := by omega
  rw [hc] at h5
  have hS : sz wide = 65536 ∨ sz wide = 256 := by cases wide <;> simp [sz]
  have hle := sz_le wide
  have ht : tp wide = sz wide / 2 := by have := tp_sz wide; omega
  obtain ⟨k1, k2, k3, k4⟩ := core A B c (sz wide) hS hA hB hc2
  have mA : A % sz wide = A := Nat.mod_eq_of_lt hA
  have mB : B % sz wide = B := Nat.mod_eq_of_lt hB
  have lt : ∀ n, n % sz wide < sz wide := fun n => cut_lt wide n
  have mm : ∀ n, n % sz wide % sz wide = n % sz wide := fun n => Nat.mod_mod n _
  obtain ⟨ql, q2⟩ := flg3_low pp h1 (topb wide ((2 * A + c) % sz wide)) ((2 * A + c) % sz wide == 0) (topb wide A)
  obtain ⟨q, hq⟩ : ∃ q, flg3 pp (topb wide ((2 * A + c) % sz wide)) ((2 * A + c) % sz wide == 0) (topb wide A) = q := ⟨_, rfl⟩
  rw [hq] at ql q2
  have q3 : q % 2 = A / (sz wide / 2) % 2 := by
    rw [q2]
    unfold topb
    rw [ht]
    rcases Nat.mod_two_eq_zero_or_one (A / (sz wide / 2)) with e | e <;> rw [e] <;> rfl
  obtain ⟨rl, r2⟩ := flg3_low q ql (topb wide A) (A == 0) ((2 * A + c) % sz wide % 2 == 1)
  have r3 : flg3 q (topb wide A) (A == 0) ((2 * A + c) % sz wide % 2 == 1) % 2 = c := by
    rw [r2, k3]
    have : c = 0 ∨ c = 1 := by omega
    rcases this with e | e <;> rw [e] <;> rfl
  obtain ⟨r, hr⟩ : ∃ r, flg3 q (topb wide A) (A == 0) ((2 * A + c) % sz wide % 2 == 1) = r := ⟨_, rfl⟩
  rw [hr] at rl r3
  have D1 := do_add A B pp A B c _ _ wide (by omega) (by omega) h1 h2 mA mB hc rfl rfl
  have D2 := do_sub ((A + B + c) % sz wide) B (pp ^^^ 1) _ (sz wide - 1 - B) (1 - c) A _ wide (Nat.lt_of_lt_of_le (lt _) hle) (by omega) h3 h4 (mm _) (by rw [mB]) h5 k1 rfl
  have D3 := do_rol A 0 pp A c _ _ wide (by omega) (by omega) h1 mA hc rfl hq
  have D4 := do_ror ((2 * A + c) % sz wide) 0 q _ _ A r wide (Nat.lt_of_lt_of_le (lt _) hle) (by omega) ql (mm _) rfl (by rw [q3, ht]; exact k2) hr
  have D5 := do_inc A 0 pp A _ _ wide (by omega) (by omega) h1 mA rfl rfl
  have D6 := do_dec ((A + 1) % sz wide) 0 pp _ A _ wide (Nat.lt_of_lt_of_le (lt _) hle) (by omega) h1 (mm _) k4 rfl
  refine ⟨_, _, _, _, q, r, _, _, _, pp, pp ^^^ 1, Nat.lt_of_lt_of_le (lt _) hle, Nat.lt_of_lt_of_le (lt _) hle, Nat.lt_of_lt_of_le (lt _) hle, ?_, ?_, ?_, D1, D2, D3, D4, D5, D6⟩
  · rw [show (8 : Int) = ((8 : Nat) : Int) from rfl, u8_andNot_nat p 8 hp (by omega), ← hpp]
  · rw [show (1 : Int) = ((1 : Nat) : Int) from rfl, u8_xor_nat pp 1 h1 (by omega)]
  · rw [u8_xor_nat r pp rl h1, show (1 : Int) = ((1 : Nat) : Int) from rfl, u8_and_nat _ 1 (Nat.xor_lt_two_pow (n := 8) rl h1) (by omega), nat_mask1, beq0]
    have : (r ^^^ pp) % 2 = 0 := by rw [show (r ^^^ pp) % 2 = (r ^^^ pp) % 2 ^ 1 from rfl, Nat.xor_mod_two_pow, show r % 2 ^ 1 = r % 2 from rfl, show pp % 2 ^ 1 = pp % 2 from rfl, r3, hc, Nat.xor_self]
    rw [this]; rfl
theorem walkN (a b p : Nat) (wide : Bool) (ha : a < 65536) (hb : b < 65536) (hp : p < 256) (w : World) :
    Calls Try.prog 7 #[.int .u16 a, .int .u16 b, .int .u8 p, .bool wide] w fun e w' => e = .returned (.bool true) ∧ Below w.heap.size w w' := by
  obtain ⟨A, hA⟩ : ∃ A, a % sz wide = A := ⟨_, rfl⟩
  obtain ⟨B, hB⟩ : ∃ B, b % sz wide = B := ⟨_, rfl⟩
  obtain ⟨x, F1, F2, u, q, r, s, F3, F4, pp, pq, hx, hu, hs, e1, e2, e3, d1, d2, d3, d4, d5, d6⟩ := calls A B p wide (hA ▸ cut_lt wide a) (hB ▸ cut_lt wide b) hp
  have D1 := Lib.hid d1
  have D2 := Lib.hid d2
  have D3 := Lib.hid d3
  have D4 := Lib.hid d4
  have D5 := Lib.hid d5
  have D6 := Lib.hid d6
  have E1 := Lib.hid e1
  have E2 := Lib.hid e2
  clear d1 d2 d3 d4 d5 d6 e1 e2
  cases wide
  · have EA := Lib.hid (show bits .and .u16 (a : Int) 255 = (A : Nat) by rw [← hA, show (255 : Int) = ((255 : Nat) : Int) from rfl, u16_and_nat a 255 ha (by omega), nat_mask8]; rfl)
    have EB := Lib.hid (show bits .and .u16 (b : Int) 255 = (B : Nat) by rw [← hB, show (255 : Int) = ((255 : Nat) : Int) from rfl, u16_and_nat b 255 hb (by omega), nat_mask8]; rfl)
    clear hA hB
    go_enter Try.func7, Try.ntmps7
    go_wp2_with fail
    rw [E1.out, EA.out, EB.out]
    refine (D1.out _).mono ?_
    rintro e w1 ⟨rfl, b1⟩
    go_wp2_with fail
    rw [E2.out]
    refine (D2.out _).mono ?_
    rintro e w2 ⟨rfl, b2⟩
    go_wp2_with fail
    refine (D3.out _).mono ?_
    rintro e w3 ⟨rfl, b3⟩
    go_wp2_with fail
    refine (D4.out _).mono ?_
    rintro e w4 ⟨rfl, b4⟩
    go_wp2_with fail
    refine (D5.out _).mono ?_
    rintro e w5 ⟨rfl, b5⟩
    go_wp2_with fail
    refine (D6.out _).mono ?_
    rintro e w6 ⟨rfl, b6⟩
    have hall := ((((b1.trans (b2.mono b1.size)).trans (b3.mono (by have := b1.size; have := b2.size; omega))).trans (b4.mono (by have := b1.size; have := b2.size; have := b3.size; omega))).trans (b5.mono (by have := b1.size; have := b2.size; have := b3.size; have := b4.size; omega))).trans (b6.mono (by have := b1.size; have := b2.size; have := b3.size; have := b4.size; have := b5.size; omega))
    clear b1 b2 b3 b4 b5 b6
    go_wp2_with fail
    refine (awake_any _).mono ?_
    rintro e w7 ⟨rfl, b7⟩
    go_wp2_with fail
    go_ret
    exact ⟨rfl, hall.trans (b7.mono hall.size)⟩
  · obtain rfl : a = A := by rw [← hA]; exact (Nat.mod_eq_of_lt ha).symm
    obtain rfl : b = B := by rw [← hB]; exact (Nat.mod_eq_of_lt hb).symm
    clear hA hB
    go_enter Try.func7, Try.ntmps7
    go_wp2_with fail
    rw [E1.out]
    refine (D1.out _).mono ?_
    rintro e w1 ⟨rfl, b1⟩
    go_wp2_with fail
    rw [E2.out]
    refine (D2.out _).mono ?_
    rintro e w2 ⟨rfl, b2⟩
    go_wp2_with fail
    refine (D3.out _).mono ?_
    rintro e w3 ⟨rfl, b3⟩
    go_wp2_with fail
    refine (D4.out _).mono ?_
    rintro e w4 ⟨rfl, b4⟩
    go_wp2_with fail
    refine (D5.out _).mono ?_
    rintro e w5 ⟨rfl, b5⟩
    go_wp2_with fail
    refine (D6.out _).mono ?_
    rintro e w6 ⟨rfl, b6⟩
    have hall := ((((b1.trans (b2.mono b1.size)).trans (b3.mono (by have := b1.size; have := b2.size; omega))).trans (b4.mono (by have := b1.size; have := b2.size; have := b3.size; omega))).trans (b5.mono (by have := b1.size; have := b2.size; have := b3.size; have := b4.size; omega))).trans (b6.mono (by have := b1.size; have := b2.size; have := b3.size; have := b4.size; have := b5.size; omega))
    clear b1 b2 b3 b4 b5 b6
    go_wp2_with fail
    refine (awake_any _).mono ?_
    rintro e w7 ⟨rfl, b7⟩
    go_wp2_with fail
    go_ret
    exact ⟨rfl, hall.trans (b7.mono hall.size)⟩
theorem walk (a0 : Int) (a1 : Int) (a2 : Int) (a3 : Bool) (w0 : (Lit.int .u16 a0).wf = true) (w1 : (Lit.int .u16 a1).wf = true) (w2 : (Lit.int .u8 a2).wf = true) (w : World) :
    Calls Try.prog 7 #[.int .u16 a0, .int .u16 a1, .int .u8 a2, .bool a3] w fun e w' => e = .returned (.bool true) ∧ Below w.heap.size w w' := by
  obtain ⟨a, rfl, ha⟩ := nat16 w0
  obtain ⟨b, rfl, hb⟩ := nat16 w1
  obtain ⟨p, rfl, hp⟩ := nat8 w2
  exact walkN a b p a3 ha hb hp w
end Go.Proofs.Ytnjbgnkbncjnlaa.aluBack
