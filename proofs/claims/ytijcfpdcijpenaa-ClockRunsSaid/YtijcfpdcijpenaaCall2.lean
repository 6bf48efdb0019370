/-
  The clock's calls once more: what they change is the times' block alone; what they answer for a thread that is none.
-/
import Derived.Test.YtijcfpdcijpenaaRfSet
import Derived.Test.YtijcfpdcijpenaaTimes
namespace Go.Proofs.Ytijcfpdcijpenaa
open Go.RowKit Go.Shelf
set_option maxRecDepth 100000
set_option maxHeartbeats 1000000
set_option linter.unusedVariables false
theorem only_row {a w : World} {g : Nat} (h : a.grownBy w (some g)) (r : Array Value) : a.grownBy (w.setRow g r) (some g) :=
  ⟨h.os, h.tape, h.output, by simpa using h.size, fun k hk hne => (setRow_other w g k r (fun e => hne (by rw [e]))).trans (h.block k hk hne)⟩
theorem cset_any (g cap : Nat) (zs : List Int) (w : World) {B c bt capT bm : Nat} {ss ts : List Int} (h : Clk w B c bt capT bm ss ts) (hg : Good ss) (hz : Whole w g 2 (vals .i64 zs).toArray) (hm : zs.length ≤ maxLen) :
    Calls Try.prog 14 #[.pointer (some ⟨c, 0, none⟩), .slice (some ⟨g, 0, none⟩) zs.length cap] w fun e w' => e = .returned (.int .i64 (setErr ss.length zs)) ∧ w.grownBy w' (some bm) ∧ (setErr ss.length zs = 0 → Clk w' B c bt capT bm ss zs) ∧ (setErr ss.length zs ≠ 0 → Clk w' B c bt capT bm ss ts) := by
  have hn := hg.2.1
  have h1 := h.c1
  have hw1 : Below w.heap.size w (w.alloc (.cells #[.int .i64 0] 2)) := (Below.refl _ w).alloc (Nat.le_refl _) _
  have hb : bm ≤ w.heap.size := Nat.le_of_lt h.times.lt
  have H1 := Lib.hid (anyBelow_any 0 (some ⟨g, 0, none⟩) cap zs w (Lies.whole hz) hm)
  have H2 := Lib.hid (anyAbove_any 1152921504606846976 (some ⟨g, 0, none⟩) cap zs (w.alloc (.cells #[.int .i64 0] 2)) ((Lies.whole hz).below hw1) hm)
  have HC := Lib.hid h
  unfold maxLen at hm
  by_cases c0 : zs.length = ss.length
  · have t0 : ((zs.length : Int) != (ss.length : Int)) = false := by rw [c0]; simp
    have t0' : (zs.length != ss.length) = false := by rw [c0]; simp
    have C0 := Lib.hid c0
    cases c2 : zs.any (fun s => decide (s < 0))
    · cases c3 : zs.any (fun s => decide (1152921504606846976 < s))
      · have e0 := Lib.hid (show setErr ss.length zs = 0 by simp only [setErr, c2, c3]; simp [c0])
        rw [c2] at H1
        rw [c3] at H2
        have hw2 : Below w.heap.size w ((w.alloc (.cells #[.int .i64 0] 2)).alloc (.cells #[.int .i64 1152921504606846976] 2)) := hw1.alloc (by simp) _
        have HC2 := Lib.hid (h.below hw2)
        have h1' := (h.below hw2).c1
        have HZ := Lib.hid ((hz.alloc (.cells #[.int .i64 0] 2)).alloc (.cells #[.int .i64 1152921504606846976] 2))
        have hl : (vals .i64 zs).length = zs.length := by simp [vals]
        have hlt : (vals .i64 ts).toArray.size = ss.length := by simp [vals, h.size]
        have hone : ∀ v ∈ vals .i64 zs, v.oneCell' = true := by intro v hv; obtain ⟨n, _, rfl⟩ := List.mem_map.1 hv; rfl
        have HL := Lib.hid hl
        have HLT := Lib.hid hlt
        have er : ((vals .i64 ts).toArray.toList.take 0 ++ vals .i64 zs ++ (vals .i64 ts).toArray.toList.drop (0 + (vals .i64 zs).length)).toArray = (vals .i64 zs).toArray := by
          have : ((vals .i64 ts).toArray.toList.drop (0 + (vals .i64 zs).length)) = [] := by
            apply List.drop_of_length_le
            simp [vals, h.size, c0]
          rw [this]; simp
        have hcp := run_copy_row (P := Try.prog) ((w.alloc (.cells #[.int .i64 0] 2)).alloc (.cells #[.int .i64 1152921504606846976] 2)) 22 22 3 2 bm 0 ss.length ss.length ⟨g, 0, none⟩ zs.length cap (vals .i64 ts).toArray 2 (vals .i64 zs) Try.underlying22 (by kernel_rfl) HC2.out.times (by rw [hl, c0]; exact (Nat.min_self _).symm)
          (by
            intro j v hv
            have e : (⟨g, 0, none⟩ : Addr).add j = ⟨g, j, none⟩ := by by_cases h0 : j = 0 <;> simp [Addr.add, h0]
            rw [e, HZ.out.cell j]
            simpa using hv) (by rw [hl, hlt, c0]; omega) hone
        rw [er] at hcp
        have hR := Lib.hid (HC2.out.row zs C0.out)
        have hBR := Lib.hid (only_row (Below.only hw2 bm) (vals .i64 zs).toArray)
        clear c2 c3 c0 hl hlt h hz er HC2 HZ HL HLT hone hw2 hw1
        go_enter Try.func14, Try.ntmps14
        go_wp2_with fail
        refine H1.out.mono ?_
        rintro e w' ⟨rfl, rfl⟩
        go_wp2_with fail
        refine H2.out.mono ?_
        rintro e w' ⟨rfl, rfl⟩
        clear H1 H2
        go_wp2
        go_ret
        exact ⟨by rw [e0.out]; rfl, hBR.out, fun _ => hR.out, fun h0 => absurd e0.out h0⟩
      · have e0 := Lib.hid (show setErr ss.length zs = 4 by simp only [setErr, c2, c3]; simp [c0])
        rw [c2] at H1
        rw [c3] at H2
        clear c2 c3 c0 h
        go_enter Try.func14, Try.ntmps14
        go_wp2_with fail
        refine H1.out.mono ?_
        rintro e w' ⟨rfl, rfl⟩
        go_wp2_with fail
        refine H2.out.mono ?_
        rintro e w' ⟨rfl, rfl⟩
        go_wp2
        go_ret
        exact ⟨by rw [e0.out]; rfl, Below.only (hw1.alloc (by simp) _) bm, fun h0 => by have := e0.out; omega, fun _ => (HC.out.alloc _).alloc _⟩
    · have e0 := Lib.hid (show setErr ss.length zs = 2 by simp only [setErr, c2]; simp [c0])
      rw [c2] at H1
      clear c2 c0 h
      go_enter Try.func14, Try.ntmps14
      go_wp2_with fail
      refine H1.out.mono ?_
      rintro e w' ⟨rfl, rfl⟩
      go_wp2
      go_ret
      exact ⟨by rw [e0.out]; rfl, Below.only hw1 bm, fun h0 => by have := e0.out; omega, fun _ => HC.out.alloc _⟩
  · have t0 : ((zs.length : Int) != (ss.length : Int)) = true := by rw [bne_iff_ne]; omega
    have t0' : (zs.length != ss.length) = true := by rw [bne_iff_ne]; omega
    have e0 := Lib.hid (show setErr ss.length zs = 2 by simp [setErr, c0])
    clear c0 h H1 H2
    go_enter Try.func14, Try.ntmps14
    go_wp2
    go_ret
    exact ⟨by rw [e0.out]; rfl, Below.only (Below.refl _ _) bm, fun h0 => by have := e0.out; omega, fun _ => HC.out⟩
theorem check_bad (i : Int) (w : World) {B c bt capT bm : Nat} {ss ts : List Int} (h : Clk w B c bt capT bm ss ts) (hn : ss.length ≤ 16) (hi : ¬ (0 ≤ i ∧ i < ss.length)) :
    Calls Try.prog 30 #[.pointer (some ⟨c, 0, none⟩), .int .i64 i] w fun e w' => e = .returned (.int .i64 3) ∧ w = w' := by
  have h0 := h.c0
  clear h
  by_cases a : i < 0
  · have d1 : decide (i < 0) = true := decide_eq_true a
    clear hi a
    go_enter Try.func30, Try.ntmps30
    go_wp2
    go_ret
    exact ⟨rfl, rfl⟩
  · have d1 : decide (i < 0) = false := decide_eq_false a
    have d2 : decide ((ss.length : Int) ≤ i) = true := decide_eq_true (by omega)
    clear hi a
    go_enter Try.func30, Try.ntmps30
    go_wp2
    go_ret
    exact ⟨rfl, rfl⟩
theorem scale_any (i : Nat) (w : World) {B c bt capT bm : Nat} {ss ts : List Int} (h : Clk w B c bt capT bm ss ts) (hi : i < ss.length) (hn : ss.length ≤ 16) :
    Calls Try.prog 25 #[.pointer (some ⟨c, 0, none⟩), .int .i64 i] w fun e w' => e = .returned (.tuple #[.int .i64 (ss[i]?.getD 0), .int .i64 0]) ∧ w = w' := by
  have h0 := h.c0
  have h1 := h.scl hi
  have HK := Lib.hid (check_ok i w h hi)
  clear h
  generalize ss[i]?.getD 0 = s at *
  go_enter Try.func25, Try.ntmps25
  go_wp2_with fail
  refine HK.out.mono ?_
  rintro e w' ⟨rfl, rfl⟩
  go_wp2
  go_ret2
  exact ⟨rfl, rfl⟩
theorem scale_bad (i : Int) (w : World) {B c bt capT bm : Nat} {ss ts : List Int} (h : Clk w B c bt capT bm ss ts) (hn : ss.length ≤ 16) (hi : ¬ (0 ≤ i ∧ i < ss.length)) :
    Calls Try.prog 25 #[.pointer (some ⟨c, 0, none⟩), .int .i64 i] w fun e w' => e = .returned (.tuple #[.int .i64 0, .int .i64 3]) ∧ w = w' := by
  have HK := Lib.hid (check_bad i w h hn hi)
  clear h hi
  go_enter Try.func25, Try.ntmps25
  go_wp2_with fail
  refine HK.out.mono ?_
  rintro e w' ⟨rfl, rfl⟩
  go_wp2
  go_ret2
  exact ⟨rfl, rfl⟩
theorem at_any (i : Nat) (w : World) {B c bt capT bm : Nat} {ss ts : List Int} (h : Clk w B c bt capT bm ss ts) (hi : i < ss.length) (hn : ss.length ≤ 16) :
    Calls Try.prog 26 #[.pointer (some ⟨c, 0, none⟩), .int .i64 i] w fun e w' => e = .returned (.tuple #[.int .i64 (ts[i]?.getD 0), .int .i64 0]) ∧ w = w' := by
  have h0 := h.c1
  have h1 := h.time hi
  have HK := Lib.hid (check_ok i w h hi)
  clear h
  generalize ts[i]?.getD 0 = s at *
  go_enter Try.func26, Try.ntmps26
  go_wp2_with fail
  refine HK.out.mono ?_
  rintro e w' ⟨rfl, rfl⟩
  go_wp2
  go_ret2
  exact ⟨rfl, rfl⟩
theorem at_bad (i : Int) (w : World) {B c bt capT bm : Nat} {ss ts : List Int} (h : Clk w B c bt capT bm ss ts) (hn : ss.length ≤ 16) (hi : ¬ (0 ≤ i ∧ i < ss.length)) :
    Calls Try.prog 26 #[.pointer (some ⟨c, 0, none⟩), .int .i64 i] w fun e w' => e = .returned (.tuple #[.int .i64 0, .int .i64 3]) ∧ w = w' := by
  have HK := Lib.hid (check_bad i w h hn hi)
  clear h hi
  go_enter Try.func26, Try.ntmps26
  go_wp2_with fail
  refine HK.out.mono ?_
  rintro e w' ⟨rfl, rfl⟩
  go_wp2
  go_ret2
  exact ⟨rfl, rfl⟩
theorem cadd_any (i n : Int) (w : World) {B c bt capT bm : Nat} {ss ts : List Int} (h : Clk w B c bt capT bm ss ts) (hg : Good ss) (ht : Timed ts) (hn0 : -9223372036854775808 ≤ n) (hn1 : n ≤ 9223372036854775807) (E : Int) (us : List Int)
    (hE : addErr ss ts i n = E) (hU : (if E = 0 then ts.set i.toNat (ts[i.toNat]?.getD 0 + ss[i.toNat]?.getD 0 * n) else ts) = us) :
    Calls Try.prog 12 #[.pointer (some ⟨c, 0, none⟩), .int .i64 i, .int .i64 n] w fun e w' => e = .returned (.int .i64 E) ∧ Clk w' B c bt capT bm ss us ∧ w.grownBy w' (some bm) := by
  have hn := hg.2.1
  by_cases hi : 0 ≤ i ∧ i < ss.length
  · obtain ⟨k, rfl⟩ : ∃ k : Nat, i = k := ⟨i.toNat, by omega⟩
    have hk : k < ss.length := by omega
    by_cases hb : n < 0 ∨ 1073741824 < n
    · obtain rfl : E = 2 := by rw [← hE]; unfold addErr; rw [if_neg (by simpa using hi), if_pos hb]
      obtain rfl : ts = us := by rw [← hU, if_neg (by decide)]
      have HK := Lib.hid (check_ok k w h hk)
      have HC := Lib.hid h
      clear hE hU h
      by_cases hb1 : n < 0
      · have d1 : decide (n < 0) = true := decide_eq_true hb1
        clear hb hb1 hi
        go_enter Try.func12, Try.ntmps12
        go_wp2_with fail
        refine HK.out.mono ?_
        rintro e w' ⟨rfl, rfl⟩
        go_wp2
        go_ret
        exact ⟨rfl, HC.out, Below.only (Below.refl _ _) _⟩
      · have d1 : decide (n < 0) = false := decide_eq_false hb1
        have d2 : decide (1073741824 < n) = true := decide_eq_true (by omega)
        clear hb hb1 hi
        go_enter Try.func12, Try.ntmps12
        go_wp2_with fail
        refine HK.out.mono ?_
        rintro e w' ⟨rfl, rfl⟩
        go_wp2
        go_ret
        exact ⟨rfl, HC.out, Below.only (Below.refl _ _) _⟩
    · have m0 : 0 ≤ n := by omega
      have m1 : n ≤ 1073741824 := by omega
      have h0 := h.c0
      have h1 := h.c1
      have h2 := h.time hk
      have h4 := h.scl hk
      have hx := ht k
      have hs : 1 ≤ ss[k]?.getD 0 ∧ ss[k]?.getD 0 ≤ 16777216 := by
        rw [List.getElem?_eq_getElem hk]; exact hg.2.2 _ (List.getElem_mem hk)
      have f2 := h.times.free k
      have HC := Lib.hid h
      have HK := Lib.hid (check_ok k w h hk)
      have he : addErr ss ts k n = if 1152921504606846976 < ts[k]?.getD 0 + ss[k]?.getD 0 * n then 4 else 0 := by unfold addErr; rw [if_neg (by simpa using hi), if_neg hb]; rfl
      rw [he] at hE
      rw [Int.toNat_natCast] at hU
      clear he hb hi h ht hg
      generalize ts[k]?.getD 0 = x at *
      generalize ss[k]?.getD 0 = s at *
      obtain ⟨hx0, hx1⟩ := hx
      obtain ⟨hs0, hs1⟩ := hs
      have hp0 : 0 ≤ s * n := Int.mul_nonneg (by omega) m0
      have hp1 : s * n ≤ 16777216 * 1073741824 := Int.mul_le_mul hs1 m1 m0 (by omega)
      by_cases hl : 1152921504606846976 < x + s * n
      · rw [if_pos hl] at hE
        obtain rfl : 4 = E := hE
        obtain rfl : ts = us := by rw [← hU, if_neg (by decide)]
        clear hU
        go_enter Try.func12, Try.ntmps12
        go_wp2_with fail
        refine HK.out.mono ?_
        rintro e w' ⟨rfl, rfl⟩
        go_wp2
        go_quiet (fail)
        go_wp2
        go_ret
        exact ⟨rfl, HC.out.drewN _, Below.only (below_drewN (Below.refl _ _) _) _⟩
      · rw [if_neg hl] at hE
        obtain rfl : 0 = E := hE
        obtain rfl : ts.set k (x + s * n) = us := by rw [← hU, if_pos rfl]
        clear hU
        go_enter Try.func12, Try.ntmps12
        go_wp2_with fail
        refine HK.out.mono ?_
        rintro e w' ⟨rfl, rfl⟩
        go_wp2
        go_quiet (fail)
        go_wp2
        go_ret
        exact ⟨rfl, (HC.out.drewN _).put k _, only_set (Below.only (below_drewN (Below.refl _ _) _) _) _ _⟩
  · obtain rfl : E = 3 := by rw [← hE]; unfold addErr; rw [if_pos hi]
    obtain rfl : ts = us := by rw [← hU, if_neg (by decide)]
    have HK := Lib.hid (check_bad i w h hn hi)
    have HC := Lib.hid h
    clear hE hU h hi
    go_enter Try.func12, Try.ntmps12
    go_wp2_with fail
    refine HK.out.mono ?_
    rintro e w' ⟨rfl, rfl⟩
    go_wp2
    go_ret
    exact ⟨rfl, HC.out, Below.only (Below.refl _ _) _⟩
theorem longs_any (a1 a2 : Option Addr) (c1 c2 : Nat) (zs : List Int) (w : World) (h1 : Lies .i64 w a1 zs) (h2 : Lies .i64 w a2 zs) (hm : zs.length ≤ maxLen) :
    Calls Try.prog 16 #[.slice a1 zs.length c1, .slice a2 zs.length c2] w fun e w' => e = .returned (.bool true) ∧ ∃ q, w' = w.drewN q := by
  unfold maxLen at hm
  have H1 := Lib.hid h1
  have H2 := Lib.hid h2
  clear h1 h2
  go_enter Try.func16, Try.ntmps16
  go_wp2_with fail
  go_loopw [5] (fun si wr => ∃ k : Nat, k ≤ zs.length ∧ si = .int .i64 k ∧ Hid (∃ q, wr = w.drewN q)) (fun si _ => zs.length - (intOf si).toNat)
  case atStart => exact ⟨0, Nat.zero_le _, rfl, Lib.hid ⟨0, rfl⟩⟩
  case round =>
    obtain ⟨k, hk, rfl, hq⟩ := hrel
    by_cases hlt : k < zs.length
    · rcases H1.out with h0 | ⟨b, o, rfl, hb, hcell⟩
      · simp [h0] at hlt
      · rcases H2.out with h0 | ⟨b', o', rfl, hb', hcell'⟩
        · simp [h0] at hlt
        · have d1 : wr.cell? ⟨b, o + k, none⟩ = some (.int .i64 (zs[k]?.getD 0)) := by
            obtain ⟨q, e⟩ := hq.out
            rw [e]
            exact hcell k hlt
          have d2 : wr.cell? ⟨b', o' + k, none⟩ = some (.int .i64 (zs[k]?.getD 0)) := by
            obtain ⟨q, e⟩ := hq.out
            rw [e]
            exact hcell' k hlt
          generalize zs[k]?.getD 0 = z at d1 d2
          clear hcell hcell'
          go_wp2_with fail
          go_quiet (fail)
          go_wp2_with fail
          go_roundw
          case rel => exact ⟨k + 1, by omega, by go_num, Lib.hid (by obtain ⟨q, e⟩ := hq.out; exact ⟨q + nq, by rw [e]; simp [World.drewN, Nat.add_assoc]⟩)⟩
          case measure => simp [intOf]; omega
    · obtain rfl : k = zs.length := by omega
      go_wp2_with fail
      go_ret
      exact ⟨rfl, hq.out⟩
theorem spoil_any (g n cap : Nat) (w : World) (hn : n * 8 ≤ 140737488351232) (hc : ∀ i, i < n → ∃ z, w.cell? ⟨g, i, none⟩ = some (.int .i64 z)) (hf : ∀ i, w.frozen? ⟨g, i, none⟩ = false) :
    Calls Try.prog 11 #[.slice (some ⟨g, 0, none⟩) n cap] w fun e w' => (∃ v, e = .returned v) ∧ w.grownBy w' (some g) := by
  have HC := Lib.hid hc
  have HF := Lib.hid hf
  clear hc hf
  go_enter Try.func11, Try.ntmps11
  go_wp2_with fail
  go_loopw [2] (fun si wr => ∃ k : Nat, k ≤ n ∧ si = .int .i64 k ∧ Hid (∀ i, k ≤ i → wr.cell? ⟨g, i, none⟩ = w.cell? ⟨g, i, none⟩) ∧ Hid (∀ i, wr.frozen? ⟨g, i, none⟩ = false) ∧ w.grownBy wr (some g)) (fun si _ => n - (intOf si).toNat)
  case atStart => exact ⟨0, Nat.zero_le _, rfl, Lib.hid (fun _ _ => rfl), HF, Below.only (Below.refl _ _) g⟩
  case round =>
    obtain ⟨k, hk, rfl, h1, h2, hG⟩ := hrel
    by_cases hlt : k < n
    · obtain ⟨z, hz⟩ := HC.out k hlt
      have d := (h1.out k (Nat.le_refl _)).trans hz
      have f := h2.out k
      have n1 := Lib.hid (show ∀ i, k + 1 ≤ i → (wr.setCell ⟨g, k, none⟩ (.int .i64 (-7777))).cell? ⟨g, i, none⟩ = w.cell? ⟨g, i, none⟩ from fun i hi => by
        refine Eq.trans ?_ (h1.out i (by omega))
        exact World.cell?_setCell_other _ _ _ _ (by simp))
      have n2 := Lib.hid (show ∀ i, (wr.setCell ⟨g, k, none⟩ (.int .i64 (-7777))).frozen? ⟨g, i, none⟩ = false from fun i => by
        refine Eq.trans ?_ (h2.out i)
        simp)
      have n3 := only_set hG k (.int .i64 (-7777))
      clear hz h1 h2 hG
      go_wp2_with fail
      go_roundw
      case rel => exact ⟨k + 1, by omega, by go_num, n1, n2, n3⟩
      case measure => simp [intOf]; omega
    · obtain rfl : k = n := by omega
      clear h1 h2
      go_wp2_with fail
      exact bodyPost_end (results_none rfl _ _ _) rfl ⟨⟨_, rfl⟩, hG⟩
end Go.Proofs.Ytijcfpdcijpenaa
