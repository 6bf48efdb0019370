/-
  The document's digits.
-/
import Derived.Test.YtnjbgnkbncjnlaaTens
namespace Go.Proofs.Ytnjbgnkbncjnlaa
open Go.RowKit Go.Shelf
set_option maxRecDepth 100000
set_option maxHeartbeats 1000000
set_option linter.unusedVariables false
theorem size_any (wide : Bool) (w : World) : Calls Try.prog 19 #[.bool wide] w fun e w' => e = .returned (.int .i64 (sz wide : Nat)) ∧ w = w' := by
  cases wide
  · go_enter Try.func19, Try.ntmps19
    go_wp2
    go_ret
    exact ⟨rfl, rfl⟩
  · go_enter Try.func19, Try.ntmps19
    go_wp2
    go_ret
    exact ⟨rfl, rfl⟩
theorem digit_0 (x d : Nat) (w : World) (hx : x < 65536) (h : x / 1 % 16 = d) : Calls Try.prog 30 #[.int .i64 x, .int .i64 0] w fun e w' => e = .returned (.int .i64 d) ∧ w = w' := by
  have E := Lib.hid (show (x : Int) % 16 = (d : Nat) by omega)
  clear h
  go_enter Try.func30, Try.ntmps30
  go_wp2
  refine wp_loop_rounds 1 ?_
  iterate 1
    rw [rounds_succ]
    go_wp2
  go_ret
  exact ⟨congrArg Ending.returned (congrArg (Value.int .i64) E.out), rfl⟩
theorem digit_1 (x d : Nat) (w : World) (hx : x < 65536) (h : x / 16 % 16 = d) : Calls Try.prog 30 #[.int .i64 x, .int .i64 1] w fun e w' => e = .returned (.int .i64 d) ∧ w = w' := by
  have E := Lib.hid (show (x : Int) / 16 % 16 = (d : Nat) by omega)
  clear h
  go_enter Try.func30, Try.ntmps30
  go_wp2
  refine wp_loop_rounds 2 ?_
  iterate 2
    rw [rounds_succ]
    go_wp2
  go_ret
  exact ⟨congrArg Ending.returned (congrArg (Value.int .i64) E.out), rfl⟩
theorem digit_2 (x d : Nat) (w : World) (hx : x < 65536) (h : x / 256 % 16 = d) : Calls Try.prog 30 #[.int .i64 x, .int .i64 2] w fun e w' => e = .returned (.int .i64 d) ∧ w = w' := by
  have E := Lib.hid (show (x : Int) / 16 / 16 % 16 = (d : Nat) by omega)
  clear h
  go_enter Try.func30, Try.ntmps30
  go_wp2
  refine wp_loop_rounds 3 ?_
  iterate 3
    rw [rounds_succ]
    go_wp2
  go_ret
  exact ⟨congrArg Ending.returned (congrArg (Value.int .i64) E.out), rfl⟩
theorem digit_3 (x d : Nat) (w : World) (hx : x < 65536) (h : x / 4096 % 16 = d) : Calls Try.prog 30 #[.int .i64 x, .int .i64 3] w fun e w' => e = .returned (.int .i64 d) ∧ w = w' := by
  have E := Lib.hid (show (x : Int) / 16 / 16 / 16 % 16 = (d : Nat) by omega)
  clear h
  go_enter Try.func30, Try.ntmps30
  go_wp2
  refine wp_loop_rounds 4 ?_
  iterate 4
    rw [rounds_succ]
    go_wp2
  go_ret
  exact ⟨congrArg Ending.returned (congrArg (Value.int .i64) E.out), rfl⟩
theorem rdig_yes (x d0 d1 d2 d3 : Nat) (wide : Bool) (w : World) (hx : x < sz wide) (hx2 : x < 65536) (h0 : x / 1 % 16 = d0) (h1 : x / 16 % 16 = d1) (h2 : x / 256 % 16 = d2) (h3 : x / 4096 % 16 = d3) (k0 : d0 ≤ 9) (k1 : d1 ≤ 9) (k2 : d2 ≤ 9) (k3 : d3 ≤ 9) :
    Calls Try.prog 12 #[.int .u16 x, .bool wide] w fun e w' => e = .returned (.tuple #[.int .i64 (1000 * d3 + 100 * d2 + 10 * d1 + d0 : Nat), .bool true]) ∧ w = w' := by
  have HS := Lib.hid (size_any wide)
  obtain ⟨s, hs⟩ : ∃ s, sz wide = s := ⟨_, rfl⟩
  rw [hs] at HS
  have T1 : decide (s ≤ x) = false := decide_eq_false (by omega)
  have A0 := Lib.hid h0
  have A1 := Lib.hid h1
  have A2 := Lib.hid h2
  have A3 := Lib.hid h3
  clear h0 h1 h2 h3 hs hx
  go_enter Try.func12, Try.ntmps12
  go_wp2_with fail
  refine (HS.out _).mono ?_
  rintro e w1 ⟨rfl, rfl⟩
  go_wp2_with fail
  refine wp_loop_rounds 5 ?_
  rw [rounds_succ]
  go_wp2_with fail
  refine (digit_3 x d3 _ hx2 A3.out).mono ?_
  rintro e w1 ⟨rfl, rfl⟩
  go_wp2_with fail
  rw [rounds_succ]
  go_wp2_with fail
  refine (digit_2 x d2 _ hx2 A2.out).mono ?_
  rintro e w1 ⟨rfl, rfl⟩
  go_wp2_with fail
  rw [rounds_succ]
  go_wp2_with fail
  refine (digit_1 x d1 _ hx2 A1.out).mono ?_
  rintro e w1 ⟨rfl, rfl⟩
  go_wp2_with fail
  rw [rounds_succ]
  go_wp2_with fail
  refine (digit_0 x d0 _ hx2 A0.out).mono ?_
  rintro e w1 ⟨rfl, rfl⟩
  go_wp2_with fail
  rw [rounds_succ]
  go_wp2_with fail
  go_ret2
  exact ⟨ret_ok (by omega) rfl, rfl⟩
theorem rdig_no3 (x d0 d1 d2 d3 : Nat) (wide : Bool) (w : World) (hx : x < sz wide) (hx2 : x < 65536) (h0 : x / 1 % 16 = d0) (h1 : x / 16 % 16 = d1) (h2 : x / 256 % 16 = d2) (h3 : x / 4096 % 16 = d3)  (k3 : 9 < d3) :
    Calls Try.prog 12 #[.int .u16 x, .bool wide] w fun e w' => e = .returned (.tuple #[.int .i64 0, .bool false]) ∧ w = w' := by
  have q0 : d0 < 16 := h0 ▸ Nat.mod_lt _ (by decide)
  have q1 : d1 < 16 := h1 ▸ Nat.mod_lt _ (by decide)
  have q2 : d2 < 16 := h2 ▸ Nat.mod_lt _ (by decide)
  have q3 : d3 < 16 := h3 ▸ Nat.mod_lt _ (by decide)
  have HS := Lib.hid (size_any wide)
  obtain ⟨s, hs⟩ : ∃ s, sz wide = s := ⟨_, rfl⟩
  rw [hs] at HS
  have T1 : decide (s ≤ x) = false := decide_eq_false (by omega)
  have A0 := Lib.hid h0
  have A1 := Lib.hid h1
  have A2 := Lib.hid h2
  have A3 := Lib.hid h3
  clear h0 h1 h2 h3 hs hx
  go_enter Try.func12, Try.ntmps12
  go_wp2_with fail
  refine (HS.out _).mono ?_
  rintro e w1 ⟨rfl, rfl⟩
  go_wp2_with fail
  refine wp_loop_rounds 1 ?_
  rw [rounds_succ]
  go_wp2_with fail
  refine (digit_3 x d3 _ hx2 A3.out).mono ?_
  rintro e w1 ⟨rfl, rfl⟩
  go_wp2_with fail
  go_ret2
  exact ⟨rfl, rfl⟩
theorem rdig_no2 (x d0 d1 d2 d3 : Nat) (wide : Bool) (w : World) (hx : x < sz wide) (hx2 : x < 65536) (h0 : x / 1 % 16 = d0) (h1 : x / 16 % 16 = d1) (h2 : x / 256 % 16 = d2) (h3 : x / 4096 % 16 = d3) (k3 : d3 ≤ 9) (k2 : 9 < d2) :
    Calls Try.prog 12 #[.int .u16 x, .bool wide] w fun e w' => e = .returned (.tuple #[.int .i64 0, .bool false]) ∧ w = w' := by
  have q0 : d0 < 16 := h0 ▸ Nat.mod_lt _ (by decide)
  have q1 : d1 < 16 := h1 ▸ Nat.mod_lt _ (by decide)
  have q2 : d2 < 16 := h2 ▸ Nat.mod_lt _ (by decide)
  have q3 : d3 < 16 := h3 ▸ Nat.mod_lt _ (by decide)
  have HS := Lib.hid (size_any wide)
  obtain ⟨s, hs⟩ : ∃ s, sz wide = s := ⟨_, rfl⟩
  rw [hs] at HS
  have T1 : decide (s ≤ x) = false := decide_eq_false (by omega)
  have A0 := Lib.hid h0
  have A1 := Lib.hid h1
  have A2 := Lib.hid h2
  have A3 := Lib.hid h3
  clear h0 h1 h2 h3 hs hx
  go_enter Try.func12, Try.ntmps12
  go_wp2_with fail
  refine (HS.out _).mono ?_
  rintro e w1 ⟨rfl, rfl⟩
  go_wp2_with fail
  refine wp_loop_rounds 2 ?_
  rw [rounds_succ]
  go_wp2_with fail
  refine (digit_3 x d3 _ hx2 A3.out).mono ?_
  rintro e w1 ⟨rfl, rfl⟩
  go_wp2_with fail
  rw [rounds_succ]
  go_wp2_with fail
  refine (digit_2 x d2 _ hx2 A2.out).mono ?_
  rintro e w1 ⟨rfl, rfl⟩
  go_wp2_with fail
  go_ret2
  exact ⟨rfl, rfl⟩
theorem rdig_no1 (x d0 d1 d2 d3 : Nat) (wide : Bool) (w : World) (hx : x < sz wide) (hx2 : x < 65536) (h0 : x / 1 % 16 = d0) (h1 : x / 16 % 16 = d1) (h2 : x / 256 % 16 = d2) (h3 : x / 4096 % 16 = d3) (k2 : d2 ≤ 9) (k3 : d3 ≤ 9) (k1 : 9 < d1) :
    Calls Try.prog 12 #[.int .u16 x, .bool wide] w fun e w' => e = .returned (.tuple #[.int .i64 0, .bool false]) ∧ w = w' := by
  have q0 : d0 < 16 := h0 ▸ Nat.mod_lt _ (by decide)
  have q1 : d1 < 16 := h1 ▸ Nat.mod_lt _ (by decide)
  have q2 : d2 < 16 := h2 ▸ Nat.mod_lt _ (by decide)
  have q3 : d3 < 16 := h3 ▸ Nat.mod_lt _ (by decide)
  have HS := Lib.hid (size_any wide)
  obtain ⟨s, hs⟩ : ∃ s, sz wide = s := ⟨_, rfl⟩
  rw [hs] at HS
  have T1 : decide (s ≤ x) = false := decide_eq_false (by omega)
  have A0 := Lib.hid h0
  have A1 := Lib.hid h1
  have A2 := Lib.hid h2
  have A3 := Lib.hid h3
  clear h0 h1 h2 h3 hs hx
  go_enter Try.func12, Try.ntmps12
  go_wp2_with fail
  refine (HS.out _).mono ?_
  rintro e w1 ⟨rfl, rfl⟩
  go_wp2_with fail
  refine wp_loop_rounds 3 ?_
  rw [rounds_succ]
  go_wp2_with fail
  refine (digit_3 x d3 _ hx2 A3.out).mono ?_
  rintro e w1 ⟨rfl, rfl⟩
  go_wp2_with fail
  rw [rounds_succ]
  go_wp2_with fail
  refine (digit_2 x d2 _ hx2 A2.out).mono ?_
  rintro e w1 ⟨rfl, rfl⟩
  go_wp2_with fail
  rw [rounds_succ]
  go_wp2_with fail
  refine (digit_1 x d1 _ hx2 A1.out).mono ?_
  rintro e w1 ⟨rfl, rfl⟩
  go_wp2_with fail
  go_ret2
  exact ⟨rfl, rfl⟩
theorem rdig_no0 (x d0 d1 d2 d3 : Nat) (wide : Bool) (w : World) (hx : x < sz wide) (hx2 : x < 65536) (h0 : x / 1 % 16 = d0) (h1 : x / 16 % 16 = d1) (h2 : x / 256 % 16 = d2) (h3 : x / 4096 % 16 = d3) (k1 : d1 ≤ 9) (k2 : d2 ≤ 9) (k3 : d3 ≤ 9) (k0 : 9 < d0) :
    Calls Try.prog 12 #[.int .u16 x, .bool wide] w fun e w' => e = .returned (.tuple #[.int .i64 0, .bool false]) ∧ w = w' := by
  have q0 : d0 < 16 := h0 ▸ Nat.mod_lt _ (by decide)
  have q1 : d1 < 16 := h1 ▸ Nat.mod_lt _ (by decide)
  have q2 : d2 < 16 := h2 ▸ Nat.mod_lt _ (by decide)
  have q3 : d3 < 16 := h3 ▸ Nat.mod_lt _ (by decide)
  have HS := Lib.hid (size_any wide)
  obtain ⟨s, hs⟩ : ∃ s, sz wide = s := ⟨_, rfl⟩
  rw [hs] at HS
  have T1 : decide (s ≤ x) = false := decide_eq_false (by omega)
  have A0 := Lib.hid h0
  have A1 := Lib.hid h1
  have A2 := Lib.hid h2
  have A3 := Lib.hid h3
  clear h0 h1 h2 h3 hs hx
  go_enter Try.func12, Try.ntmps12
  go_wp2_with fail
  refine (HS.out _).mono ?_
  rintro e w1 ⟨rfl, rfl⟩
  go_wp2_with fail
  refine wp_loop_rounds 4 ?_
  rw [rounds_succ]
  go_wp2_with fail
  refine (digit_3 x d3 _ hx2 A3.out).mono ?_
  rintro e w1 ⟨rfl, rfl⟩
  go_wp2_with fail
  rw [rounds_succ]
  go_wp2_with fail
  refine (digit_2 x d2 _ hx2 A2.out).mono ?_
  rintro e w1 ⟨rfl, rfl⟩
  go_wp2_with fail
  rw [rounds_succ]
  go_wp2_with fail
  refine (digit_1 x d1 _ hx2 A1.out).mono ?_
  rintro e w1 ⟨rfl, rfl⟩
  go_wp2_with fail
  rw [rounds_succ]
  go_wp2_with fail
  refine (digit_0 x d0 _ hx2 A0.out).mono ?_
  rintro e w1 ⟨rfl, rfl⟩
  go_wp2_with fail
  go_ret2
  exact ⟨rfl, rfl⟩
theorem rdig_long (x : Nat) (wide : Bool) (w : World) (hx2 : x < 65536) (hx : sz wide ≤ x) :
    Calls Try.prog 12 #[.int .u16 x, .bool wide] w fun e w' => e = .returned (.tuple #[.int .i64 0, .bool false]) ∧ w = w' := by
  have HS := Lib.hid (size_any wide)
  obtain ⟨s, hs⟩ : ∃ s, sz wide = s := ⟨_, rfl⟩
  rw [hs] at HS
  have T1 : decide (s ≤ x) = true := decide_eq_true (by omega)
  clear hs hx
  go_enter Try.func12, Try.ntmps12
  go_wp2_with fail
  refine (HS.out _).mono ?_
  rintro e w1 ⟨rfl, rfl⟩
  go_wp2_with fail
  go_ret2
  exact ⟨rfl, rfl⟩
theorem rdigits_any (x : Nat) (wide : Bool) (w : World) (hx : x < 65536) :
    Calls Try.prog 12 #[.int .u16 x, .bool wide] w fun e w' => e = .returned (.tuple #[.int .i64 (digV wide x : Nat), .bool (decB wide x)]) ∧ w = w' := by
  have z : x / 1 % 16 = x % 16 := by rw [Nat.div_one]
  by_cases hl : x < sz wide
  · by_cases k3 : x / 4096 % 16 ≤ 9
    · by_cases k2 : x / 256 % 16 ≤ 9
      · by_cases k1 : x / 16 % 16 ≤ 9
        · by_cases k0 : x % 16 ≤ 9
          · obtain ⟨e1, e2⟩ := dec_true (wide := wide) (x := x) ⟨hl, k0, k1, k2, k3⟩
            rw [e1, e2]
            exact rdig_yes x _ _ _ _ wide w hl hx z rfl rfl rfl k0 k1 k2 k3
          · obtain ⟨e1, e2⟩ := dec_false (wide := wide) (x := x) (fun h => k0 h.2.1)
            rw [e1, e2]
            exact rdig_no0 x _ _ _ _ wide w hl hx z rfl rfl rfl k1 k2 k3 (by omega)
        · obtain ⟨e1, e2⟩ := dec_false (wide := wide) (x := x) (fun h => k1 h.2.2.1)
          rw [e1, e2]
          exact rdig_no1 x _ _ _ _ wide w hl hx z rfl rfl rfl k2 k3 (by omega)
      · obtain ⟨e1, e2⟩ := dec_false (wide := wide) (x := x) (fun h => k2 h.2.2.2.1)
        rw [e1, e2]
        exact rdig_no2 x _ _ _ _ wide w hl hx z rfl rfl rfl k3 (by omega)
    · obtain ⟨e1, e2⟩ := dec_false (wide := wide) (x := x) (fun h => k3 h.2.2.2.2)
      rw [e1, e2]
      exact rdig_no3 x _ _ _ _ wide w hl hx z rfl rfl rfl (by omega)
  · obtain ⟨e1, e2⟩ := dec_false (wide := wide) (x := x) (fun h => hl h.1)
    rw [e1, e2]
    exact rdig_long x wide w hx (by omega)
end Go.Proofs.Ytnjbgnkbncjnlaa
