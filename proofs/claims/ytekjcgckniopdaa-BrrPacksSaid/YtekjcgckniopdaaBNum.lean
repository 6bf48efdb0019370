/-
  Numbers: the n-th part, the nearest sample, a nibble's number by a shift, a square; by the code and by the document.
-/
import Derived.Test.YtekjcgckniopdaaBPure
import Derived.StillTailTactics
import Derived.Deep.RegionHeld3
namespace Go.Proofs.Ytekjcgckniopdaa
open Go.RowKit Go.Shelf
set_option maxRecDepth 100000
set_option maxHeartbeats 1000000
set_option linter.unusedVariables false
set_option linter.unusedSimpArgs false

theorem w64 (x : Int) (h1 : -9223372036854775808 ≤ x) (h2 : x ≤ 9223372036854775807) : wrap64 x = x := by unfold wrap64; omega
theorem alloc_size (w : World) (o : Obj) : (w.alloc o).heap.size = w.heap.size + 1 := Array.size_push _
theorem results_tmp_cell {P : Program} {fn : Func} {p1 p2 : Tmp} {ty2 : TypeId} (h : fn.results = #[.tmp p1, .cell p2 ty2]) (tmps : Array Value) (w : World) (v : Value) (g1 : Nat) (t1 : TypeId) (cs1 : Array Value) (fr1 : Nat × Nat) (d1 : TypeDesc)
    (hp2 : tmps.getD p1 undef = v) (hp1 : tmps.getD p2 undef = .pointer (some ⟨g1, 0, none⟩)) (hg1 : w.heap[g1]? = some (.cells cs1 t1 fr1)) (hu1 : P.underlying ty2 = some d1) (hd1 : (match d1 with | .struct _ | .array _ _ => true | _ => false) = true) (hi1 : (P.info? ty2).map (·.size) = some cs1.size) :
    (results fn tmps).run P w = .ok (.tuple #[v, .agg cs1]) w := by
  have hp1' : tmps[p2]?.getD undef = .pointer (some ⟨g1, 0, none⟩) := by simpa using hp1
  have hp2' : tmps[p1]?.getD undef = v := by simpa using hp2
  simp [results, h, hp1', hp2', asAddr, run_loadVar_row w g1 t1 ty2 cs1 fr1 d1 hg1 hu1 hd1 hi1]
theorem tdiv_by (x n : Int) (h : 0 < n) : (x.tmod n < 0 → x / n = x.tdiv n - 1) ∧ (¬ x.tmod n < 0 → x / n = x.tdiv n) := by
  have h1 := Int.tmod_lt_of_pos x h
  have h2 := Int.lt_tmod_of_pos x h
  have h3 := Int.tmod_add_mul_tdiv x n
  constructor
  · intro hr
    refine ((Int.ediv_emod_unique (r := x.tmod n + n) h).2 ⟨?_, by omega, by omega⟩).1
    rw [Int.mul_sub]; omega
  · intro hr
    exact ((Int.ediv_emod_unique (r := x.tmod n) h).2 ⟨h3, by omega, by omega⟩).1
theorem by_any (w : World) (x n : Int) (h0 : 0 < n) (hx : -9000000 ≤ x) (hx2 : x ≤ 9000000) : Calls Try.prog 53 #[.int .i64 x, .int .i64 n] w fun e w' => e = .returned (.int .i64 (x / n)) ∧ w' = w := by
  obtain ⟨hd1, hd2⟩ := tdiv_by x n h0
  have hle : -9000000 ≤ x.tdiv n ∧ x.tdiv n ≤ 9000000 := by
    have := Int.natAbs_tdiv_le_natAbs x n
    omega
  have hw : wrap64 (x.tdiv n) = x.tdiv n := w64 _ (by omega) (by omega)
  have hw2 : wrap64 (x.tdiv n - 1) = x.tdiv n - 1 := w64 _ (by omega) (by omega)
  have hn0 : ¬ n = 0 := by omega
  by_cases hr : x.tmod n < 0
  · have hq := Lib.hid (hd1 hr)
    clear hd1 hd2
    go_enter Try.func53, Try.ntmps53
    go_wp2_with fail
    go_ret
    exact ⟨by rw [hq.out]; rfl, rfl⟩
  · have hq := Lib.hid (hd2 hr)
    clear hd1 hd2
    go_enter Try.func53, Try.ntmps53
    go_wp2_with fail
    go_ret
    exact ⟨by rw [hq.out]; rfl, rfl⟩
theorem rby_any (w : World) (x n : Int) (h0 : 0 < n) (hx : -9000000 ≤ x) (hx2 : x ≤ 9000000) : Calls Try.prog 36 #[.int .i64 x, .int .i64 n] w fun e w' => e = .returned (.int .i64 (x / n)) ∧ w' = w := by
  obtain ⟨hd1, hd2⟩ := tdiv_by x n h0
  have hle : -9000000 ≤ x.tdiv n ∧ x.tdiv n ≤ 9000000 := by
    have := Int.natAbs_tdiv_le_natAbs x n
    omega
  have hw : wrap64 (x.tdiv n) = x.tdiv n := w64 _ (by omega) (by omega)
  have hw2 : wrap64 (x.tdiv n - 1) = x.tdiv n - 1 := w64 _ (by omega) (by omega)
  have hn0 : ¬ n = 0 := by omega
  by_cases hr : x.tmod n < 0
  · have hq := Lib.hid (hd1 hr)
    clear hd1 hd2
    go_enter Try.func36, Try.ntmps36
    go_wp2_with fail
    go_ret
    exact ⟨by rw [hq.out]; rfl, rfl⟩
  · have hq := Lib.hid (hd2 hr)
    clear hd1 hd2
    go_enter Try.func36, Try.ntmps36
    go_wp2_with fail
    go_ret
    exact ⟨by rw [hq.out]; rfl, rfl⟩
theorem clamp_any (w : World) (x : Int) : Calls Try.prog 56 #[.int .i64 x] w fun e w' => e = .returned (.int .i64 (clampF x)) ∧ w' = w := by
  by_cases h1 : x < -32768
  · have hc : clampF x = -32768 := by unfold clampF; rw [if_pos h1]
    replace hc := Lib.hid hc
    go_enter Try.func56, Try.ntmps56
    go_wp2_with fail
    all_goals first
      | (exfalso; omega)
      | (go_ret; exact ⟨by rw [hc.out]; rfl, rfl⟩)
      | (obtain rfl : x = -32768 := by omega
         go_ret
         exact ⟨by rw [hc.out]; rfl, rfl⟩)
  by_cases h2 : 32767 < x
  · have hc : clampF x = 32767 := by unfold clampF; rw [if_neg h1, if_pos h2]
    replace hc := Lib.hid hc
    go_enter Try.func56, Try.ntmps56
    go_wp2_with fail
    all_goals first
      | (exfalso; omega)
      | (go_ret; exact ⟨by rw [hc.out]; rfl, rfl⟩)
      | (obtain rfl : x = -32768 := by omega
         go_ret
         exact ⟨by rw [hc.out]; rfl, rfl⟩)
  · have hc : clampF x = x := by unfold clampF; rw [if_neg h1, if_neg h2]
    replace hc := Lib.hid hc
    go_enter Try.func56, Try.ntmps56
    go_wp2_with fail
    all_goals first
      | (exfalso; omega)
      | (go_ret; exact ⟨by rw [hc.out]; rfl, rfl⟩)
      | (obtain rfl : x = -32768 := by omega
         go_ret
         exact ⟨by rw [hc.out]; rfl, rfl⟩)
theorem rclamp_any (w : World) (x : Int) : Calls Try.prog 37 #[.int .i64 x] w fun e w' => e = .returned (.int .i64 (clampF x)) ∧ w' = w := by
  by_cases h1 : x < -32768
  · have hc : clampF x = -32768 := by unfold clampF; rw [if_pos h1]
    replace hc := Lib.hid hc
    go_enter Try.func37, Try.ntmps37
    go_wp2_with fail
    go_ret
    exact ⟨by rw [hc.out]; rfl, rfl⟩
  by_cases h2 : 32767 < x
  · have hc : clampF x = 32767 := by unfold clampF; rw [if_neg h1, if_pos h2]
    replace hc := Lib.hid hc
    go_enter Try.func37, Try.ntmps37
    go_wp2_with fail
    go_ret
    exact ⟨by rw [hc.out]; rfl, rfl⟩
  · have hc : clampF x = x := by unfold clampF; rw [if_neg h1, if_neg h2]
    replace hc := Lib.hid hc
    go_enter Try.func37, Try.ntmps37
    go_wp2_with fail
    go_ret
    exact ⟨by rw [hc.out]; rfl, rfl⟩
theorem square_any (w : World) (d : Int) (h1 : -65535 ≤ d) (h2 : d ≤ 65535) : Calls Try.prog 58 #[.int .i64 d] w fun e w' => e = .returned (.int .i64 (d * d)) ∧ w' = w := by
  have hb := sq_bnd d h1 h2
  have hw : wrap64 (d * d) = d * d := w64 _ (by omega) (by omega)
  have hw2 := Lib.hid hw
  clear hb hw
  go_enter Try.func58, Try.ntmps58
  go_wp2_with fail
  go_ret
  exact ⟨by show Ending.returned (.int .i64 (wrap64 (d * d))) = _; rw [hw2.out], rfl⟩
theorem scaled_any (w : World) (n : Int) (sh : Nat) (h1 : -8 ≤ n) (h2 : n ≤ 7) (hs : sh < 256) : Calls Try.prog 57 #[.int .i64 n, .int .u8 (sh : Nat)] w fun e w' => e = .returned (.int .i64 (scaleF sh n)) ∧ w' = w := by
  have H := Lib.hid (fun x a b => by_any w x 2 (by decide) a b)
  by_cases h : sh ≤ 12
  · have hb := mul_pow_bnd sh n h h1 h2
    have hc : scaleF sh n = n * 2 ^ sh / 2 := by unfold scaleF; rw [if_pos h]
    have hwr : wrap64 (n * 2 ^ sh) = n * 2 ^ sh := w64 _ (by omega) (by omega)
    replace hc := Lib.hid hc
    replace hwr := Lib.hid hwr
    replace hb := Lib.hid hb
    go_enter Try.func57, Try.ntmps57
    go_wp2_with fail
    rw [hwr.out]
    refine (H.out _ (by have := hb.out; omega) (by have := hb.out; omega)).mono ?_
    rintro e w' ⟨rfl, rfl⟩
    rw [← hc.out]
    generalize hz : scaleF sh n = z
    replace hz := Lib.hid hz
    clear hc hb hwr H
    go_wp2_with fail
    go_ret
    exact ⟨by rw [hz.out]; rfl, rfl⟩
  · have hc : scaleF sh n = if n < 0 then -2048 else 0 := by unfold scaleF; rw [if_neg h]
    have hsi : ¬ ((sh : Int) ≤ 12) := by omega
    by_cases hn : n < 0
    · rw [if_pos hn] at hc
      replace hc := Lib.hid hc
      go_enter Try.func57, Try.ntmps57
      go_wp2_with fail
      go_ret
      exact ⟨by rw [hc.out]; rfl, rfl⟩
    · rw [if_neg hn] at hc
      replace hc := Lib.hid hc
      go_enter Try.func57, Try.ntmps57
      go_wp2_with fail
      go_ret
      exact ⟨by rw [hc.out]; rfl, rfl⟩
end Go.Proofs.Ytekjcgckniopdaa
