/-
  The document's way back from digits: the first number whose digits say so.
-/
import Derived.Test.YtnjbgnkbncjnlaaRDig
namespace Go.Proofs.Ytnjbgnkbncjnlaa
open Go.RowKit Go.Shelf
set_option maxRecDepth 100000
set_option maxHeartbeats 1000000
set_option linter.unusedVariables false
theorem recon (x : Nat) (hx : x < 65536) : x = x % 16 + 16 * (x / 16 % 16) + 256 * (x / 256 % 16) + 4096 * (x / 4096 % 16) := by
  have e1 : x / 256 = x / 16 / 16 := by rw [Nat.div_div_eq_div_mul]
  have e2 : x / 4096 = x / 16 / 16 / 16 := by rw [Nat.div_div_eq_div_mul, Nat.div_div_eq_div_mul]
  rw [e1, e2]
  omega
theorem dec_is (wide : Bool) (x : Nat) (hx : x < 65536) (h : decB wide x = true) : ofD wide (tens x) = x ∧ tens x < lim wide := by
  have h' : x < sz wide ∧ x % 16 ≤ 9 ∧ x / 16 % 16 ≤ 9 ∧ x / 256 % 16 ≤ 9 ∧ x / 4096 % 16 ≤ 9 := by simpa [decB, and_assoc] using h
  obtain ⟨g, a0, a1, a2, a3⟩ := h'
  obtain ⟨d0, h0⟩ : ∃ d, x % 16 = d := ⟨_, rfl⟩
  obtain ⟨d1, h1⟩ : ∃ d, x / 16 % 16 = d := ⟨_, rfl⟩
  have t : tens x = 1000 * (x / 4096 % 16) + 100 * (x / 256 % 16) + 10 * (x / 16 % 16) + x % 16 := rfl
  cases wide
  · have g' : x < 256 := g
    have z2 : x / 256 % 16 = 0 := by omega
    have z3 : x / 4096 % 16 = 0 := by omega
    rw [z2, z3, h1, h0] at t
    rw [h0] at a0
    rw [h1] at a1
    have e := ofD2 (tens x) d0 d1 0 (by omega) a0 a1
    refine ⟨by rw [e]; omega, ?_⟩
    show tens x < 100
    omega
  · obtain ⟨d2, h2⟩ : ∃ d, x / 256 % 16 = d := ⟨_, rfl⟩
    obtain ⟨d3, h3⟩ : ∃ d, x / 4096 % 16 = d := ⟨_, rfl⟩
    rw [h2, h3, h1, h0] at t
    rw [h0] at a0
    rw [h1] at a1
    rw [h2] at a2
    rw [h3] at a3
    have e := ofD4 (tens x) d0 d1 d2 d3 0 (by omega) a0 a1 a2 a3
    have r := recon x hx
    rw [h0, h1, h2, h3] at r
    refine ⟨by rw [e]; exact r.symm, ?_⟩
    show tens x < 10000
    clear g r h0 h1 h2 h3
    omega
def Hit (wide : Bool) (n : Int) (j : Nat) : Prop := decB wide j = true ∧ ((tens j : Nat) : Int) = n
theorem digV_hit (wide : Bool) (j : Nat) (h : decB wide j = true) : digV wide j = tens j := by unfold digV; rw [h]; rfl
theorem rof_any (n : Int) (wide : Bool) (w : World) (h1 : -9223372036854775808 ≤ n) (h2 : n ≤ 9223372036854775807) :
    Calls Try.prog 14 #[.int .i64 n, .bool wide] w fun e w' => ((∃ k : Nat, k < sz wide ∧ Hit wide n k ∧ e = .returned (.tuple #[.int .u16 k, .bool true])) ∨ (∀ k, k < sz wide → ¬ Hit wide n k) ∧ e = .returned (.tuple #[.int .u16 0, .bool false])) ∧ w = w' := by
  have HS := Lib.hid (size_any wide)
  obtain ⟨s, hs⟩ : ∃ s, sz wide = s := ⟨_, rfl⟩
  have hs2 : s ≤ 65536 := hs ▸ sz_le wide
  rw [hs] at HS ⊢
  clear hs
  go_enter Try.func14, Try.ntmps14
  go_wp2_with fail
  go_loop [6] (fun x => ∃ k : Nat, k ≤ s ∧ x = .int .i64 k ∧ Hid (∀ j, j < k → ¬ Hit wide n j)) (fun x => s - (intOf x).toNat)
  case atStart => exact ⟨0, Nat.zero_le _, rfl, Lib.hid (fun j hj => absurd hj (Nat.not_lt_zero j))⟩
  case round =>
    obtain ⟨k, hk, rfl, hn⟩ := hrel
    by_cases hlt : k < s
    · have hk6 : k < 65536 := by omega
      cases hb : decB wide k
      · have HD : Hid (∀ w, Calls Try.prog 12 #[.int .u16 k, .bool wide] w fun e w' => e = .returned (.tuple #[.int .i64 (digV wide k : Nat), .bool false]) ∧ w = w') := Lib.hid (fun w => hb ▸ rdigits_any k wide w hk6)
        obtain ⟨v, hv⟩ : ∃ v, digV wide k = v := ⟨_, rfl⟩
        rw [hv] at HD
        have HN := Lib.hid (show ∀ j, j < k + 1 → ¬ Hit wide n j from fun j hj => by
          by_cases hj2 : j = k
          · subst hj2
            intro h
            rw [h.1] at hb
            cases hb
          · exact hn.out j (by omega))
        clear hb hv hn
        go_wp2_with fail
        refine (HS.out _).mono ?_
        rintro e w1 ⟨rfl, rfl⟩
        go_wp2_with fail
        refine (HD.out _).mono ?_
        rintro e w1 ⟨rfl, rfl⟩
        go_wp2_with fail
        go_round
        case rel => exact ⟨k + 1, by omega, by go_num, HN⟩
        case measure => simp [intOf]; omega
      · have HD : Hid (∀ w, Calls Try.prog 12 #[.int .u16 k, .bool wide] w fun e w' => e = .returned (.tuple #[.int .i64 (tens k : Nat), .bool true]) ∧ w = w') := Lib.hid (fun w => by
          have := rdigits_any k wide w hk6
          rw [hb, digV_hit wide k hb] at this
          exact this)
        obtain ⟨v, hv⟩ : ∃ v, tens k = v := ⟨_, rfl⟩
        rw [hv] at HD
        by_cases hvn : (v : Int) = n
        · have T : ((v : Int) == n) = true := beq_iff_eq.2 hvn
          have HH := Lib.hid (show Hit wide n k from ⟨hb, by rw [hv, hvn]⟩)
          clear hb hv hvn hn
          go_wp2_with fail
          refine (HS.out _).mono ?_
          rintro e w1 ⟨rfl, rfl⟩
          go_wp2_with fail
          refine (HD.out _).mono ?_
          rintro e w1 ⟨rfl, rfl⟩
          go_wp2_with fail
          go_ret2
          exact ⟨.inl ⟨k, hlt, HH.out, rfl⟩, rfl⟩
        · have T : ((v : Int) == n) = false := by rw [beq_eq_false_iff_ne]; exact hvn
          have HN := Lib.hid (show ∀ j, j < k + 1 → ¬ Hit wide n j from fun j hj => by
            by_cases hj2 : j = k
            · subst hj2
              intro h
              exact hvn (by rw [← hv]; exact h.2)
            · exact hn.out j (by omega))
          clear hb hv hvn hn
          go_wp2_with fail
          refine (HS.out _).mono ?_
          rintro e w1 ⟨rfl, rfl⟩
          go_wp2_with fail
          refine (HD.out _).mono ?_
          rintro e w1 ⟨rfl, rfl⟩
          go_wp2_with fail
          go_round
          case rel => exact ⟨k + 1, by omega, by go_num, HN⟩
          case measure => simp [intOf]; omega
    · go_wp2_with fail
      refine (HS.out _).mono ?_
      rintro e w1 ⟨rfl, rfl⟩
      go_wp2_with fail
      go_ret2
      exact ⟨.inr ⟨fun j hj => hn.out j (by omega), rfl⟩, rfl⟩
/-- The document's answer: the number that is written so, if there is one. -/
def ofV (wide : Bool) (n : Int) : Nat := if 0 ≤ n ∧ n < lim wide then ofD wide n.toNat else 0
def ofB (wide : Bool) (n : Int) : Bool := decide (0 ≤ n ∧ n < lim wide)
theorem rofdigits_any (n : Int) (wide : Bool) (w : World) (h1 : -9223372036854775808 ≤ n) (h2 : n ≤ 9223372036854775807) :
    Calls Try.prog 14 #[.int .i64 n, .bool wide] w fun e w' => e = .returned (.tuple #[.int .u16 (ofV wide n : Nat), .bool (ofB wide n)]) ∧ w = w' := by
  refine (rof_any n wide w h1 h2).mono ?_
  rintro e w' ⟨h, rfl⟩
  refine ⟨?_, rfl⟩
  rcases h with ⟨k, hk, ⟨hd, ht⟩, rfl⟩ | ⟨hno, rfl⟩
  · obtain ⟨g1, g2⟩ := dec_is wide k (Nat.lt_of_lt_of_le hk (sz_le wide)) hd
    have hc : 0 ≤ n ∧ n < lim wide := by rw [← ht]; omega
    have e1 : ofV wide n = k := by unfold ofV; rw [if_pos hc, ← ht]; exact g1
    have e2 : ofB wide n = true := decide_eq_true hc
    rw [e1, e2]
  · have hc : ¬ (0 ≤ n ∧ n < lim wide) := by
      intro hc
      obtain ⟨b1, b2, b3⟩ := ofD_back wide n.toNat
      refine hno _ b1 ⟨b2, ?_⟩
      rw [b3, Nat.mod_eq_of_lt (by omega)]
      omega
    have e1 : ofV wide n = 0 := by unfold ofV; rw [if_neg hc]
    have e2 : ofB wide n = false := decide_eq_false hc
    rw [e1, e2]
    rfl
theorem ofdigits_any (n : Int) (wide : Bool) (w : World) (h2 : n ≤ 9223372036854775807) :
    Calls Try.prog 15 #[.int .i64 n, .bool wide] w fun e w' => e = .returned (.tuple #[.int .u16 (ofV wide n : Nat), .bool (ofB wide n)]) ∧ Below w.heap.size w w' := by
  by_cases hc : 0 ≤ n ∧ n < lim wide
  · have e1 : ofV wide n = ofD wide n.toNat := by unfold ofV; rw [if_pos hc]
    have e2 : ofB wide n = true := decide_eq_true hc
    rw [e1, e2]
    obtain ⟨k, rfl⟩ : ∃ k : Nat, n = k := ⟨n.toNat, by omega⟩
    exact ofdig_yes k wide w (by omega)
  · have e1 : ofV wide n = 0 := by unfold ofV; rw [if_neg hc]
    have e2 : ofB wide n = false := decide_eq_false hc
    rw [e1, e2]
    by_cases h0 : n < 0
    · exact ofdig_neg n wide w h0
    · obtain ⟨k, rfl⟩ : ∃ k : Nat, n = k := ⟨n.toNat, by omega⟩
      exact ofdig_no k wide w (by omega) (by omega)
theorem ext_both (b : Nat) (hb : b < 256) : ∃ X : Nat, (∀ w, Calls Try.prog 16 #[.int .u8 b] w (fun e w' => e = .returned (.int .u16 X) ∧ w = w')) ∧ (∀ w, Calls Try.prog 17 #[.int .u8 b] w (fun e w' => e = .returned (.int .u16 X) ∧ w = w')) := by
  by_cases h : b < 128
  · refine ⟨b, fun w => ?_, fun w => ?_⟩
    · go_enter Try.func16, Try.ntmps16
      go_wp2
      go_ret
      exact ⟨rfl, rfl⟩
    · go_enter Try.func17, Try.ntmps17
      go_wp2
      go_ret
      exact ⟨rfl, rfl⟩
  · have h' : 128 ≤ b := by omega
    have E := Lib.hid (show IntKind.u16.wrap (IntKind.i8.wrap (b : Int)) = (b + 65280 : Nat) by
      rw [show IntKind.i8.wrap (b : Int) = ((b : Int) + 128) % 256 - 128 by simp [IntKind.wrap, IntKind.bits, IntKind.signed]; split <;> omega, IntKind.wrap_u16]
      omega)
    refine ⟨b + 65280, fun w => ?_, fun w => ?_⟩
    · go_enter Try.func16, Try.ntmps16
      go_wp2
      go_ret
      exact ⟨congrArg Ending.returned (congrArg (Value.int .u16) E.out), rfl⟩
    · go_enter Try.func17, Try.ntmps17
      go_wp2
      go_ret
      exact ⟨congrArg Ending.returned (congrArg (Value.int .u16) (show (b : Int) + 65280 = ((b + 65280 : Nat) : Int) by omega)), rfl⟩
end Go.Proofs.Ytnjbgnkbncjnlaa
