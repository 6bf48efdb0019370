/-
  clock.ahead: which of two threads is ahead; clock.foremost: who is ahead of all.
-/
import Derived.Test.YtijcfpdcijpenaaNew
import Derived.Deep.QuietTactic
import Derived.BigQuiet
namespace Go.Proofs.Ytijcfpdcijpenaa
open Go.RowKit Go.Shelf
set_option maxRecDepth 100000
set_option maxHeartbeats 1000000

/-- Thread i is ahead of thread j. -/
def ahd (ts : List Int) (i j : Nat) : Bool := decide (ts[i]?.getD 0 < ts[j]?.getD 0) || (ts[i]?.getD 0 == ts[j]?.getD 0) && decide (i < j)

section
variable {w : World} {B c bt capT bm : Nat} {ss ts : List Int}
theorem Clk.c0 (h : Clk w B c bt capT bm ss ts) : w.cell? ⟨c, 0, none⟩ = some (.slice (some ⟨bt, 0, none⟩) ss.length capT) := by have := h.head.cell 0; simpa using this
theorem Clk.c1 (h : Clk w B c bt capT bm ss ts) : w.cell? ⟨c, 1, none⟩ = some (.slice (some ⟨bm, 0, none⟩) ss.length ss.length) := by have := h.head.cell 1; simpa using this
theorem Clk.time (h : Clk w B c bt capT bm ss ts) {i : Nat} (hi : i < ss.length) : w.cell? ⟨bm, i, none⟩ = some (.int .i64 (ts[i]?.getD 0)) := by
  rw [h.times.cell i]
  have : i < ts.length := by rw [h.size]; exact hi
  simp [vals, this]
theorem Clk.alloc (h : Clk w B c bt capT bm ss ts) (o : Obj) : Clk (w.alloc o) B c bt capT bm ss ts :=
  ⟨h.head.alloc o, h.rows.alloc o, h.times.alloc o, h.size, h.low⟩
theorem Clk.drewN (h : Clk w B c bt capT bm ss ts) (n : Nat) : Clk (w.drewN n) B c bt capT bm ss ts := ⟨h.head, h.rows, h.times, h.size, h.low⟩
end

/-- What is met where a clock's times lie: cells alone. -/
structure Tm (w : World) (c bm n : Nat) (ts : List Int) : Prop where
  cl : c < w.heap.size
  bl : bm < w.heap.size
  c1 : w.cell? ⟨c, 1, none⟩ = some (.slice (some ⟨bm, 0, none⟩) n n)
  time : ∀ i, i < n → w.cell? ⟨bm, i, none⟩ = some (.int .i64 (ts[i]?.getD 0))
theorem Clk.tm {w : World} {B c bt capT bm : Nat} {ss ts : List Int} (h : Clk w B c bt capT bm ss ts) : Tm w c bm ss.length ts := ⟨h.head.lt, h.times.lt, h.c1, fun _ hi => h.time hi⟩
theorem Tm.alloc {w : World} {c bm n : Nat} {ts : List Int} (h : Tm w c bm n ts) (o : Obj) : Tm (w.alloc o) c bm n ts :=
  ⟨by have := h.cl; simp; omega, by have := h.bl; simp; omega, (World.cell?_alloc_lt w o _ h.cl).trans h.c1, fun i hi => (World.cell?_alloc_lt w o _ h.bl).trans (h.time i hi)⟩
theorem Tm.drewN {w : World} {c bm n : Nat} {ts : List Int} (h : Tm w c bm n ts) (q : Nat) : Tm (w.drewN q) c bm n ts := ⟨h.cl, h.bl, h.c1, h.time⟩

theorem ahead_any (i j : Nat) (si sj : Int) (w : World) {c bm n : Nat} {ts : List Int} (h : Tm w c bm n ts) (hi : i < n) (hj : j < n) (_hn : n ≤ 16) :
    Calls Try.prog 36 #[.pointer (some ⟨c, 0, none⟩), .agg #[.int .i64 i, .int .i64 si], .agg #[.int .i64 j, .int .i64 sj]] w fun e w' => e = .returned (.bool (ahd ts i j)) ∧
      ∃ q, w' = ((w.alloc (.cells #[.int .i64 i, .int .i64 si] 61)).alloc (.cells #[.int .i64 j, .int .i64 sj] 61)).drewN q := by
  have h1 := ((h.alloc (.cells #[.int .i64 i, .int .i64 si] 61)).alloc (.cells #[.int .i64 j, .int .i64 sj] 61)).c1
  have h2 := ((h.alloc (.cells #[.int .i64 i, .int .i64 si] 61)).alloc (.cells #[.int .i64 j, .int .i64 sj] 61)).time i hi
  have h3 := ((h.alloc (.cells #[.int .i64 i, .int .i64 si] 61)).alloc (.cells #[.int .i64 j, .int .i64 sj] 61)).time j hj
  unfold ahd
  generalize ts[i]?.getD 0 = x at *
  generalize ts[j]?.getD 0 = y at *
  clear h
  by_cases a1 : x < y
  · have d1 : decide (x < y) = true := by simpa using a1
    go_enter Try.func36, Try.ntmps36
    go_wp2
    go_quiet (fail)
    go_wp2
    go_ret
    exact ⟨by simp [a1], _, rfl⟩
  · have d1 : decide (x < y) = false := by simpa using a1
    by_cases a2 : x = y
    · have d2 : (x == y) = true := by simpa using a2
      clear a2
      by_cases a3 : (i : Int) < (j : Int)
      · have d3 : decide (i < j) = true := by simp; omega
        go_enter Try.func36, Try.ntmps36
        go_wp2
        go_quiet (fail)
        go_wp2
        go_ret
        exact ⟨by simp [d2, d3], _, rfl⟩
      · have d3 : decide (i < j) = false := by simp; omega
        go_enter Try.func36, Try.ntmps36
        go_wp2
        go_quiet (fail)
        go_wp2
        go_ret
        exact ⟨by simp [d1, d3], _, rfl⟩
    · have d2 : (x == y) = false := by simpa using a2
      go_enter Try.func36, Try.ntmps36
      go_wp2
      go_quiet (fail)
      go_wp2
      go_ret
      exact ⟨by simp [d1, d2], _, rfl⟩

theorem thr_get (ss : List Int) (n i : Nat) (hi : i < n) : (thr ss n)[i * 2]? = some (.int .i64 i) ∧ (thr ss n)[i * 2 + 1]? = some (.int .i64 (ss[i]?.getD 0)) := by
  induction n with
  | zero => omega
  | succ n ih =>
    have hl := thr_length ss n
    by_cases h : i < n
    · obtain ⟨a, b⟩ := ih h
      exact ⟨by rw [thr, List.getElem?_append_left (by omega)]; exact a, by rw [thr, List.getElem?_append_left (by omega)]; exact b⟩
    · obtain rfl : i = n := by omega
      constructor
      · rw [thr, List.getElem?_append_right (by omega), hl]; simp
      · rw [thr, List.getElem?_append_right (by omega), hl]
        have : i * 2 + 1 - i * 2 = 1 := by omega
        rw [this]; simp
section
variable {w w' : World} {B c bt capT bm : Nat} {ss ts : List Int}
theorem Clk.num (h : Clk w B c bt capT bm ss ts) {i : Nat} (hi : i < ss.length) : w.cell? ⟨bt, i * 2, none⟩ = some (.int .i64 i) := by
  rw [h.rows.cellAt (i * 2) (by omega)]; exact (thr_get ss ss.length i hi).1
theorem Clk.scl (h : Clk w B c bt capT bm ss ts) {i : Nat} (hi : i < ss.length) : w.cell? ⟨bt, i * 2 + 1, none⟩ = some (.int .i64 (ss[i]?.getD 0)) := by
  rw [h.rows.cellAt (i * 2 + 1) (by omega)]; exact (thr_get ss ss.length i hi).2
theorem Clk.below (h : Clk w B c bt capT bm ss ts) (hb : Below w.heap.size w w') : Clk w' B c bt capT bm ss ts :=
  ⟨h.head.below hb h.head.lt, h.rows.kept (row := none) ⟨hb.os, hb.tape, hb.output, hb.size, fun k hk _ => hb.block k hk⟩ (.inr (by simp [Value.ownBlock])), h.times.below hb h.times.lt, h.size, h.low⟩
end

/-- Who is ahead of the first k threads. -/
def best (ts : List Int) : Nat → Nat
  | 0 => 0
  | k + 1 => if k = 0 then 0 else if ahd ts k (best ts k) then k else best ts k
theorem best_lt (ts : List Int) (k : Nat) (hk : 0 < k) : best ts k < k := by
  induction k with
  | zero => omega
  | succ k ih =>
    unfold best
    by_cases h : k = 0
    · simp [h]
    · rw [if_neg h]
      have := ih (by omega)
      split <;> omega

theorem Whole.drewN {w : World} {g : Nat} {t : TypeId} {cs : Array Value} (h : Whole w g t cs) (n : Nat) : Whole (w.drewN n) g t cs := h

theorem foremost_any (w : World) {B c bt capT bm : Nat} {ss ts : List Int} (h : Clk w B c bt capT bm ss ts) (h0 : 0 < ss.length) (hn : ss.length ≤ 16) :
    Calls Try.prog 35 #[.slice (some ⟨bt, 0, none⟩) ss.length capT, .func (.func 36) #[.pointer (some ⟨c, 0, none⟩)] #[]] w fun e w' => e = .returned (.int .i64 (best ts ss.length)) ∧ Below w.heap.size w w' := by
  have HA := Lib.hid ahead_any
  go_enter Try.func35, Try.ntmps35
  go_wp2
  go_loopw [11] (fun i wr => ∃ k : Nat, k ≤ ss.length ∧ i = .int .i64 k ∧ (∃ x s : Int, Whole wr w.heap.size 61 #[.int .i64 x, .int .i64 s] ∧ Hid ((k = 0 ∧ x = -1) ∨ (0 < k ∧ x = (best ts k : Nat)))) ∧ Below w.heap.size w wr ∧ w.heap.size < wr.heap.size) (fun i _ => ss.length - (intOf i).toNat)
  case atStart => exact ⟨0, Nat.zero_le _, rfl, ⟨-1, 0, Whole.fresh _ _ _, Lib.hid (.inl ⟨rfl, rfl⟩)⟩, (Below.refl _ _).alloc (Nat.le_refl _) _, by simp⟩
  case round =>
    obtain ⟨k, hk, rfl, ⟨x, s, hF, hx⟩, hB, hS⟩ := hrel
    have hC := h.below hB
    by_cases hlt : k < ss.length
    · have q1 := hC.num hlt
      have q2 := hC.scl hlt
      generalize ss[k]?.getD 0 = z at q2
      have q3 := hF.cell 0
      have q4 := hF.cell 1
      simp only [List.getElem?_toArray, List.getElem?_cons_zero, List.getElem?_cons_succ] at q3 q4
      have q5 := hF.free 0
      have q6 := hF.free 1
      rcases hx.out with ⟨hk0, hx0⟩ | ⟨hk0, hx0⟩
      · subst hk0; subst hx0
        go_wp2
        go_roundw
        case rel =>
          refine ⟨1, by omega, rfl, ⟨0, z, ?_, Lib.hid (.inr ⟨by omega, rfl⟩)⟩, ?_, ?_⟩
          · have := ((hF.put 0 (.int .i64 0)).put 1 (.int .i64 z)).alloc (.cells #[.int .i64 0, .int .i64 z] 61)
            simpa using this
          · exact ((hB.setCell (p := ⟨w.heap.size, 0, none⟩) (Nat.le_refl _) _).setCell (p := ⟨w.heap.size, 1, none⟩) (Nat.le_refl _) _).alloc (by simp [World.setCell]; omega) _
          · simp [World.setCell]; omega
        case measure => simp [intOf]; omega
      · subst hx0
        have hbl := best_lt ts k hk0
        have HN := Lib.hid (HA.out k (best ts k) z s (wr.alloc (.cells #[.int .i64 k, .int .i64 z] 61)) (hC.alloc _).tm hlt (by omega) hn)
        have HK : Hid (best ts (k + 1) = if ahd ts k (best ts k) then k else best ts k) := Lib.hid (by rw [best, if_neg (by omega)])
        clear hx HA
        generalize best ts k = m at *
        cases hb : ahd ts k m
        · rw [hb] at HN HK
          clear hb
          go_wp2_with fail
          refine HN.out.mono ?_
          rintro e w2 ⟨rfl, q, rfl⟩
          go_wp2
          go_roundw
          case rel =>
            refine ⟨k + 1, by omega, by go_num, ⟨m, s, ?_, Lib.hid (.inr ⟨by omega, by rw [HK.out]; rfl⟩)⟩, ?_, ?_⟩
            · exact Whole.drewN (((hF.alloc _).alloc _).alloc _) _
            · exact below_drewN (((hB.alloc (by omega) _).alloc (by simp; omega) _).alloc (by simp; omega) _) _
            · simp; omega
          case measure => simp [intOf]; omega
        · rw [hb] at HN HK
          clear hb
          go_wp2_with fail
          refine HN.out.mono ?_
          rintro e w2 ⟨rfl, q, hw2⟩
          have hT2 : Whole w2 wr.heap.size 61 #[.int .i64 k, .int .i64 z] := by rw [hw2]; exact Whole.drewN (((Whole.fresh wr 61 _).alloc _).alloc _) _
          have hF2 : Whole w2 w.heap.size 61 #[.int .i64 m, .int .i64 s] := by rw [hw2]; exact Whole.drewN (((hF.alloc _).alloc _).alloc _) _
          have hB2 : Below w.heap.size w w2 := by rw [hw2]; exact below_drewN (((hB.alloc (by omega) _).alloc (by simp; omega) _).alloc (by simp; omega) _) _
          have hS2 : w.heap.size < w2.heap.size := by rw [hw2]; simp; omega
          clear hw2 q3 q4 q5 q6 q1 q2 hC hF HN hB
          have q3 := hF2.cell 0
          have q4 := hF2.cell 1
          have q7 := hT2.cell 0
          have q8 := hT2.cell 1
          simp only [List.getElem?_toArray, List.getElem?_cons_zero, List.getElem?_cons_succ] at q3 q4 q7 q8
          have q5 := hF2.free 0
          have q6 := hF2.free 1
          go_wp2
          go_roundw
          case rel =>
            refine ⟨k + 1, by omega, by go_num, ⟨k, z, ?_, Lib.hid (.inr ⟨by omega, by rw [HK.out]; rfl⟩)⟩, ?_, ?_⟩
            · simpa using (hF2.put 0 (.int .i64 k)).put 1 (.int .i64 z)
            · exact (hB2.setCell (p := ⟨w.heap.size, 0, none⟩) (Nat.le_refl _) _).setCell (p := ⟨w.heap.size, 1, none⟩) (Nat.le_refl _) _
            · simpa [World.setCell] using hS2
          case measure => simp [intOf]; omega
    · obtain rfl : k = ss.length := by omega
      rcases hx.out with ⟨hk0, hx0⟩ | ⟨hk0, hx0⟩
      · omega
      · subst hx0
        have q3 := hF.cell 0
        simp only [List.getElem?_toArray, List.getElem?_cons_zero] at q3
        clear HA
        go_wp2
        go_ret
        exact ⟨rfl, hB⟩
end Go.Proofs.Ytijcfpdcijpenaa
