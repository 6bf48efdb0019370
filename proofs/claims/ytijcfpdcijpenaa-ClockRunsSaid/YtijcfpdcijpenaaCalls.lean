/-
  The calls of a clock: Next, Add, Set; what New refuses.
-/
import Derived.Test.YtijcfpdcijpenaaTicks
import Derived.Laws.CopyOwn
import Derived.Deep.DeepFit
namespace Go.Proofs.Ytijcfpdcijpenaa
open Go.RowKit Go.Shelf
set_option maxRecDepth 100000
set_option maxHeartbeats 1000000

theorem next_any (w : World) {B c bt capT bm : Nat} {ss ts : List Int} (h : Clk w B c bt capT bm ss ts) (hg : Good ss) :
    Calls Try.prog 22 #[.pointer (some ⟨c, 0, none⟩)] w fun e w' => e = .returned (.int .i64 (best ts ss.length)) ∧ Below w.heap.size w w' := by
  have h0 := h.c0
  have HF := Lib.hid (foremost_any w h hg.1 hg.2.1)
  clear h
  go_enter Try.func22, Try.ntmps22
  go_wp2_with fail
  refine HF.out.mono ?_
  rintro e w' ⟨rfl, hB⟩
  go_wp2
  go_ret
  exact ⟨rfl, hB⟩

theorem Clk.put {w : World} {B c bt capT bm : Nat} {ss ts : List Int} (h : Clk w B c bt capT bm ss ts) (i : Nat) (x : Int) : Clk (w.setCell ⟨bm, i, none⟩ (.int .i64 x)) B c bt capT bm ss (ts.set i x) := by
  have e : (vals .i64 (ts.set i x)).toArray = (vals .i64 ts).toArray.setIfInBounds i (.int .i64 x) := by simp [vals, List.map_set]
  exact ⟨h.head.away (h.head.ne_ h.times (by decide)) _, row_put h.rows (own_apart h.rows h.times (by decide)) _, by rw [e]; exact h.times.put i _, by rw [List.length_set]; exact h.size, h.low⟩

theorem add_any (i : Nat) (n : Int) (w : World) {B c bt capT bm : Nat} {ss ts : List Int} (h : Clk w B c bt capT bm ss ts) (hg : Good ss) (ht : Timed ts) (hi : i < ss.length) (hn0 : 0 ≤ n) (hn1 : n ≤ 1073741824) :
    Calls Try.prog 12 #[.pointer (some ⟨c, 0, none⟩), .int .i64 i, .int .i64 n] w fun e w' =>
      (ts[i]?.getD 0 + ss[i]?.getD 0 * n ≤ 1152921504606846976 → e = .returned (.int .i64 0) ∧ Clk w' B c bt capT bm ss (ts.set i (ts[i]?.getD 0 + ss[i]?.getD 0 * n)) ∧ Below bm w w') ∧
      (1152921504606846976 < ts[i]?.getD 0 + ss[i]?.getD 0 * n → e = .returned (.int .i64 4) ∧ ∃ q, w' = w.drewN q) := by
  have hn := hg.2.1
  have h0 := h.c0
  have h1 := h.c1
  have h2 := h.time hi
  have h4 := h.scl hi
  have hx := ht i
  have hs : 1 ≤ ss[i]?.getD 0 ∧ ss[i]?.getD 0 ≤ 16777216 := by
    rw [List.getElem?_eq_getElem hi]; exact hg.2.2 _ (List.getElem_mem hi)
  have f2 := h.times.free i
  have HC := Lib.hid h
  have HK := Lib.hid (check_ok i w h hi)
  generalize ts[i]?.getD 0 = x at *
  generalize ss[i]?.getD 0 = s at *
  clear h ht hg
  obtain ⟨hx0, hx1⟩ := hx
  obtain ⟨hs0, hs1⟩ := hs
  have hp0 : 0 ≤ s * n := Int.mul_nonneg (by omega) hn0
  have hp1 : s * n ≤ 16777216 * 1073741824 := Int.mul_le_mul hs1 hn1 hn0 (by omega)
  by_cases hlt : x + s * n ≤ 1152921504606846976
  · go_enter Try.func12, Try.ntmps12
    go_wp2_with fail
    refine HK.out.mono ?_
    rintro e w' ⟨rfl, rfl⟩
    go_wp2
    go_quiet (fail)
    go_wp2
    go_ret
    refine ⟨fun _ => ⟨rfl, (HC.out.drewN _).put i _, (below_drewN (Below.refl _ _) _).setCell (p := ⟨bm, i, none⟩) (Nat.le_refl _) _⟩, fun h => absurd h (by omega)⟩
  · go_enter Try.func12, Try.ntmps12
    go_wp2_with fail
    refine HK.out.mono ?_
    rintro e w' ⟨rfl, rfl⟩
    go_wp2
    go_quiet (fail)
    go_wp2
    go_ret
    refine ⟨fun h => absurd h (by omega), fun _ => ⟨rfl, _, rfl⟩⟩

/-- What New tells of scales. -/
def newErr (ss : List Int) : Int := if ss.length = 0 then 2 else if 16 < ss.length then 4 else if ss.any (fun s => decide (s < 1)) then 2 else if ss.any (fun s => decide (16777216 < s)) then 4 else 0
theorem good_of (ss : List Int) (h : newErr ss = 0) : Good ss := by
  unfold newErr at h
  split at h
  · omega
  · split at h
    · omega
    · split at h
      · omega
      · rename_i h1 h2 h3
        split at h
        · omega
        · rename_i h4
          refine ⟨by omega, by omega, fun s hs => ?_⟩
          simp only [Bool.not_eq_true, List.any_eq_false, decide_eq_true_eq] at h3 h4
          have := h3 s hs
          have := h4 s hs
          omega

theorem new_bad (a : Option Addr) (cap : Nat) (ss : List Int) (w : World) (hl : Lies .i64 w a ss) (hm : ss.length ≤ maxLen) (hg : newErr ss ≠ 0) :
    Calls Try.prog 10 #[.slice a ss.length cap] w fun e w' => e = .returned (.tuple #[.pointer none, .int .i64 (newErr ss)]) ∧ Below w.heap.size w w' := by
  have H1 := Lib.hid (anyBelow_any 1 a cap ss w hl hm)
  have H2 := Lib.hid (anyAbove_any 16777216 a cap ss (w.alloc (.cells #[.int .i64 1] 2)) (hl.below ((Below.refl _ w).alloc (Nat.le_refl _) _)) hm)
  unfold maxLen at hm
  by_cases c0 : ss.length = 0
  · have e0 := Lib.hid (show newErr ss = 2 by simp [newErr, c0])
    have t0 : ((ss.length : Int) == 0) = true := by simp [c0]
    clear H1 H2 hl hg c0
    go_enter Try.func10, Try.ntmps10
    go_wp2
    go_ret2
    exact ⟨by rw [e0.out]; rfl, Below.refl _ _⟩
  · have t0 : ((ss.length : Int) == 0) = false := beq_eq_false_iff_ne.2 (by omega)
    by_cases c1 : 16 < ss.length
    · have e0 := Lib.hid (show newErr ss = 4 by simp [newErr, c0, c1])
      clear H1 H2 hl hg c0
      go_enter Try.func10, Try.ntmps10
      go_wp2
      go_ret2
      exact ⟨by rw [e0.out]; rfl, Below.refl _ _⟩
    · cases c2 : ss.any (fun s => decide (s < 1))
      · cases c3 : ss.any (fun s => decide (16777216 < s))
        · exact absurd (by simp only [newErr, c2, c3]; simp [c0, c1]) hg
        · have e0 := Lib.hid (show newErr ss = 4 by simp only [newErr, c2, c3]; simp [c0, c1])
          rw [c2] at H1
          rw [c3] at H2
          clear c2 c3 hl hg c0
          go_enter Try.func10, Try.ntmps10
          go_wp2_with fail
          refine H1.out.mono ?_
          rintro e w' ⟨rfl, rfl⟩
          go_wp2_with fail
          refine H2.out.mono ?_
          rintro e w' ⟨rfl, rfl⟩
          go_wp2
          go_ret2
          exact ⟨by rw [e0.out]; rfl, ((Below.refl _ _).alloc (Nat.le_refl _) _).alloc (by simp) _⟩
      · have e0 := Lib.hid (show newErr ss = 2 by simp only [newErr, c2]; simp [c0, c1])
        rw [c2] at H1
        clear c2 hl hg c0 H2
        go_enter Try.func10, Try.ntmps10
        go_wp2_with fail
        refine H1.out.mono ?_
        rintro e w' ⟨rfl, rfl⟩
        go_wp2
        go_ret2
        exact ⟨by rw [e0.out]; rfl, (Below.refl _ _).alloc (Nat.le_refl _) _⟩

/-- What Set tells of times for n threads. -/
def setErr (n : Nat) (zs : List Int) : Int := if zs.length ≠ n then 2 else if zs.any (fun s => decide (s < 0)) then 2 else if zs.any (fun s => decide (1152921504606846976 < s)) then 4 else 0
theorem timed_of {n : Nat} {zs : List Int} (h : setErr n zs = 0) : zs.length = n ∧ Timed zs := by
  unfold setErr at h
  split at h
  · omega
  · split at h
    · omega
    · rename_i h1 h3
      split at h
      · omega
      · rename_i h4
        refine ⟨by omega, fun i => ?_⟩
        simp only [Bool.not_eq_true, List.any_eq_false, decide_eq_true_eq] at h3 h4
        by_cases hi : i < zs.length
        · rw [List.getElem?_eq_getElem hi]
          have := h3 zs[i] (List.getElem_mem hi)
          have := h4 zs[i] (List.getElem_mem hi)
          simp only [Option.getD_some]; omega
        · rw [List.getElem?_eq_none (by omega)]; simp

theorem Clk.row {w : World} {B c bt capT bm : Nat} {ss ts : List Int} (h : Clk w B c bt capT bm ss ts) (zs : List Int) (hz : zs.length = ss.length) : Clk (w.setRow bm (vals .i64 zs).toArray) B c bt capT bm ss zs :=
  ⟨(setRow_other w bm c _ (h.head.ne_ h.times (by decide))).trans h.head,
   h.rows.kept (row := some bm) ⟨rfl, rfl, rfl, by simp, fun k _ hk => setRow_other w bm k _ (fun e => hk (by rw [e]))⟩ (.inr (own_apart h.rows h.times (by decide))),
   setRow_heap w bm _ _ 2 (0, 0) h.times, hz, h.low⟩

theorem set_any (g cap : Nat) (zs : List Int) (w : World) {B c bt capT bm : Nat} {ss ts : List Int} (h : Clk w B c bt capT bm ss ts) (hg : Good ss) (hz : Whole w g 2 (vals .i64 zs).toArray) (hm : zs.length ≤ maxLen) :
    Calls Try.prog 14 #[.pointer (some ⟨c, 0, none⟩), .slice (some ⟨g, 0, none⟩) zs.length cap] w fun e w' => e = .returned (.int .i64 (setErr ss.length zs)) ∧ Below bm w w' ∧ (setErr ss.length zs = 0 → Clk w' B c bt capT bm ss zs) := by
  have hn := hg.2.1
  have h1 := h.c1
  have hw1 : Below w.heap.size w (w.alloc (.cells #[.int .i64 0] 2)) := (Below.refl _ w).alloc (Nat.le_refl _) _
  have hb : bm ≤ w.heap.size := Nat.le_of_lt h.times.lt
  have H1 := Lib.hid (anyBelow_any 0 (some ⟨g, 0, none⟩) cap zs w (Lies.whole hz) hm)
  have H2 := Lib.hid (anyAbove_any 1152921504606846976 (some ⟨g, 0, none⟩) cap zs (w.alloc (.cells #[.int .i64 0] 2)) ((Lies.whole hz).below hw1) hm)
  have HC := Lib.hid h
  unfold maxLen at hm
  by_cases c0 : zs.length = ss.length
  · have t0 : ((zs.length : Int) != (ss.length : Int)) = false := by rw [c0]; simp
    have t0' : (zs.length != ss.length) = false := by rw [c0]; simp
    have C0 := Lib.hid c0
    cases c2 : zs.any (fun s => decide (s < 0))
    · cases c3 : zs.any (fun s => decide (1152921504606846976 < s))
      · have e0 := Lib.hid (show setErr ss.length zs = 0 by simp only [setErr, c2, c3]; simp [c0])
        rw [c2] at H1
        rw [c3] at H2
        have hw2 : Below w.heap.size w ((w.alloc (.cells #[.int .i64 0] 2)).alloc (.cells #[.int .i64 1152921504606846976] 2)) := hw1.alloc (by simp) _
        have HC2 := Lib.hid (h.below hw2)
        have h1' := (h.below hw2).c1
        have HZ := Lib.hid ((hz.alloc (.cells #[.int .i64 0] 2)).alloc (.cells #[.int .i64 1152921504606846976] 2))
        have hl : (vals .i64 zs).length = zs.length := by simp [vals]
        have hlt : (vals .i64 ts).toArray.size = ss.length := by simp [vals, h.size]
        have hone : ∀ v ∈ vals .i64 zs, v.oneCell' = true := by intro v hv; obtain ⟨n, _, rfl⟩ := List.mem_map.1 hv; rfl
        have HL := Lib.hid hl
        have HLT := Lib.hid hlt
        have er : ((vals .i64 ts).toArray.toList.take 0 ++ vals .i64 zs ++ (vals .i64 ts).toArray.toList.drop (0 + (vals .i64 zs).length)).toArray = (vals .i64 zs).toArray := by
          have : ((vals .i64 ts).toArray.toList.drop (0 + (vals .i64 zs).length)) = [] := by
            apply List.drop_of_length_le
            simp [vals, h.size, c0]
          rw [this]; simp
        have hcp := run_copy_row (P := Try.prog) ((w.alloc (.cells #[.int .i64 0] 2)).alloc (.cells #[.int .i64 1152921504606846976] 2)) 22 22 3 2 bm 0 ss.length ss.length ⟨g, 0, none⟩ zs.length cap (vals .i64 ts).toArray 2 (vals .i64 zs) Try.underlying22 (by kernel_rfl) HC2.out.times (by rw [hl, c0]; exact (Nat.min_self _).symm)
          (by
            intro j v hv
            have e : (⟨g, 0, none⟩ : Addr).add j = ⟨g, j, none⟩ := by by_cases h0 : j = 0 <;> simp [Addr.add, h0]
            rw [e, HZ.out.cell j]
            simpa using hv) (by rw [hl, hlt, c0]; omega) hone
        rw [er] at hcp
        have hR := Lib.hid (HC2.out.row zs C0.out)
        have hBR := Lib.hid (below_setRow (B := bm) (g := bm) (hw2.mono hb) (Nat.le_refl _) (vals .i64 zs).toArray)
        clear c2 c3 c0 hl hlt h hz er HC2 HZ HL HLT hone hw2 hw1
        go_enter Try.func14, Try.ntmps14
        go_wp2_with fail
        refine H1.out.mono ?_
        rintro e w' ⟨rfl, rfl⟩
        go_wp2_with fail
        refine H2.out.mono ?_
        rintro e w' ⟨rfl, rfl⟩
        clear H1 H2
        go_wp2
        go_ret
        exact ⟨by rw [e0.out]; rfl, hBR.out, fun _ => hR.out⟩
      · have e0 := Lib.hid (show setErr ss.length zs = 4 by simp only [setErr, c2, c3]; simp [c0])
        rw [c2] at H1
        rw [c3] at H2
        clear c2 c3 c0 h
        go_enter Try.func14, Try.ntmps14
        go_wp2_with fail
        refine H1.out.mono ?_
        rintro e w' ⟨rfl, rfl⟩
        go_wp2_with fail
        refine H2.out.mono ?_
        rintro e w' ⟨rfl, rfl⟩
        go_wp2
        go_ret
        exact ⟨by rw [e0.out]; rfl, (hw1.alloc (by simp) _).mono hb, fun h0 => by have := e0.out; omega⟩
    · have e0 := Lib.hid (show setErr ss.length zs = 2 by simp only [setErr, c2]; simp [c0])
      rw [c2] at H1
      clear c2 c0 h
      go_enter Try.func14, Try.ntmps14
      go_wp2_with fail
      refine H1.out.mono ?_
      rintro e w' ⟨rfl, rfl⟩
      go_wp2
      go_ret
      exact ⟨by rw [e0.out]; rfl, hw1.mono hb, fun h0 => by have := e0.out; omega⟩
  · have t0 : ((zs.length : Int) != (ss.length : Int)) = true := by rw [bne_iff_ne]; omega
    have t0' : (zs.length != ss.length) = true := by rw [bne_iff_ne]; omega
    have e0 := Lib.hid (show setErr ss.length zs = 2 by simp [setErr, c0])
    clear c0 h H1 H2
    go_enter Try.func14, Try.ntmps14
    go_wp2
    go_ret
    exact ⟨by rw [e0.out]; rfl, Below.refl _ _, fun h0 => by have := e0.out; omega⟩
end Go.Proofs.Ytijcfpdcijpenaa
