/-
  clock.New: a clock of scales that may be, and what is refused.
-/
import Derived.Test.YtijcfpdcijpenaaAny
namespace Go.Proofs.Ytijcfpdcijpenaa
open Go.RowKit Go.Shelf
set_option maxRecDepth 100000
set_option maxHeartbeats 1000000

/-- The cells of the threads: number, scale. -/
def thr (ss : List Int) : Nat → List Value
  | 0 => []
  | k + 1 => thr ss k ++ [.int .i64 k, .int .i64 (ss[k]?.getD 0)]
theorem thr_length (ss : List Int) (k : Nat) : (thr ss k).length = k * 2 := by
  induction k with
  | zero => rfl
  | succ k ih => simp [thr, ih]; omega

/-- Scales that may be. -/
def Good (ss : List Int) : Prop := 0 < ss.length ∧ ss.length ≤ 16 ∧ ∀ s ∈ ss, 1 ≤ s ∧ s ≤ 16777216

/-- A clock: its struct at block c, its threads' row tv, its times' block bm. -/
structure Clk (w : World) (B c bt capT bm : Nat) (ss ts : List Int) : Prop where
  head : Whole w c 59 #[.slice (some ⟨bt, 0, none⟩) ss.length capT, .slice (some ⟨bm, 0, none⟩) ss.length ss.length]
  rows : w.ownsRow B 61 2 (.slice (some ⟨bt, 0, none⟩) ss.length capT) ss.length (thr ss ss.length)
  times : Whole w bm 2 (vals .i64 ts).toArray
  size : ts.length = ss.length
  low : B ≤ c ∧ B ≤ bm

theorem own_apart {w : World} {B : Nat} {e t : TypeId} {s n g : Nat} {v : Value} {xs : List Value} {cs : Array Value} (h : w.ownsRow B e s v n xs) (hg : Whole w g t cs) (hne : e ≠ t) : v.ownBlock ≠ some g := by
  intro he
  rcases h.2 with ⟨rfl, _⟩ | ⟨g', cap, cur, rfl, _, hh, _⟩
  · simp [Value.ownBlock] at he
  · have : g' = g := by simpa [Value.ownBlock] using he
    subst this
    rw [show w.heap[g']? = some (.cells cs t (0, 0)) from hg] at hh
    injection hh with hh
    injection hh with _ h2
    exact hne h2.symm
theorem Whole.grown {w w' : World} {g : Nat} {t : TypeId} {cs : Array Value} {row : Option Nat} (h : Whole w g t cs) (hg : w.grownBy w' row) (hne : row ≠ some g) : Whole w' g t cs :=
  (hg.block g h.lt (fun e => hne e.symm)).trans h
theorem Whole.ne_ {w : World} {g g' : Nat} {t t' : TypeId} {cs cs' : Array Value} (h : Whole w g t cs) (h' : Whole w g' t' cs') (hne : t ≠ t') : g ≠ g' := by
  intro e
  subst e
  have h1 : w.heap[g]? = some (.cells cs t (0, 0)) := h
  have h2 : w.heap[g]? = some (.cells cs' t' (0, 0)) := h'
  rw [h1] at h2
  injection h2 with h2
  injection h2 with _ h3
  exact hne h3
theorem pair_new (w : World) (t : TypeId) (a b : Value) : ∀ j u, [a, b][j]? = some u → (w.alloc (.cells #[a, b] t)).cell? ((⟨w.heap.size, 0, none⟩ : Addr).add j) = some u := by
  intro j u hu
  have h := (Whole.fresh w t #[a, b]).cell j
  have e : (⟨w.heap.size, 0, none⟩ : Addr).add j = ⟨w.heap.size, j, none⟩ := by
    by_cases h0 : j = 0 <;> simp [Addr.add, h0]
  rw [e, h]
  simpa using hu
theorem row_put {w : World} {B : Nat} {e : TypeId} {s n : Nat} {v : Value} {xs : List Value} (h : w.ownsRow B e s v n xs) {p : Addr} (hp : v.ownBlock ≠ some p.block) (u : Value) : (w.setCell p u).ownsRow B e s v n xs :=
  h.kept (row := some p.block) ⟨rfl, rfl, rfl, by simp [World.setCell], fun k _ hk => Below.heap_setCell w p u k (fun e => hk (by rw [e]))⟩ (.inr hp)
theorem row_some {w : World} {B : Nat} {e : TypeId} {s n : Nat} {v : Value} {xs : List Value} (h : w.ownsRow B e s v n xs) (hn : 0 < n) : ∃ g cap, v = .slice (some ⟨g, 0, none⟩) n cap := by
  rcases h.2 with ⟨_, h0⟩ | ⟨g, cap, _, h0, _⟩
  · omega
  · exact ⟨g, cap, h0⟩
theorem thread_info : (Try.prog.info? 61).map (fun i => (i.zero, i.size, i.bytes)) = some (some (.agg #[.int .i64 0, .int .i64 0]), 2, 16) := by kernel_rfl

theorem new_good (a : Option Addr) (cap : Nat) (ss : List Int) (w : World) (hl : Lies .i64 w a ss) (hg : Good ss) :
    Calls Try.prog 10 #[.slice a ss.length cap] w fun e w' => ∃ c bt capT bm, e = .returned (.tuple #[.pointer (some ⟨c, 0, none⟩), .int .i64 0]) ∧ Clk w' w.heap.size c bt capT bm ss (List.replicate ss.length 0) ∧ Below w.heap.size w w' := by
  obtain ⟨hn0, hn1, hs⟩ := hg
  have hmk := fun W => run_make_row' (P := Try.prog) 22 2 (.int .i64 0) 8 Try.underlying22 (by kernel_rfl) rfl .i64 .i64 ss.length (by omega) (by omega) W
  have H1 := Lib.hid (anyBelow_any 1 a cap ss w hl (by unfold maxLen; omega))
  have H2 := Lib.hid (anyAbove_any 16777216 a cap ss (w.alloc (.cells #[.int .i64 1] 2)) (hl.below ((Below.refl _ w).alloc (Nat.le_refl _) _)) (by unfold maxLen; omega))
  have hl3 := (hl.below ((Below.refl _ w).alloc (Nat.le_refl _) (.cells #[.int .i64 1] 2)))
  have b1 : (ss.any fun n => decide (n < 1)) = false := by
    simp only [List.any_eq_false, decide_eq_true_eq]; intro x hx; have := hs x hx; omega
  have b2 : (ss.any fun n => decide (16777216 < n)) = false := by
    simp only [List.any_eq_false, decide_eq_true_eq]; intro x hx; have := hs x hx; omega
  rw [b1] at H1
  rw [b2] at H2
  clear b1 b2
  have t0 : ((ss.length : Int) == 0) = false := beq_eq_false_iff_ne.2 (by omega)
  go_enter Try.func10, Try.ntmps10
  go_wp2_with fail
  refine H1.out.mono ?_
  rintro e w' ⟨rfl, rfl⟩
  go_wp2_with fail
  refine H2.out.mono ?_
  rintro e w' ⟨rfl, rfl⟩
  go_wp2_with fail
  obtain ⟨i0, hi, hz0, hz1, hz2⟩ := info_parts thread_info
  have hB0 : Below w.heap.size w ((((w.alloc (Obj.cells #[Value.int IntKind.i64 1] 2)).alloc (Obj.cells #[Value.int IntKind.i64 16777216] 2)).alloc (Obj.cells (madeCells #[Value.int IntKind.i64 0] ss.length) 2)).alloc
      (Obj.cells #[Value.slice none 0 0, Value.slice (some { block := w.heap.size + 1 + 1, off := 0 }) ss.length ss.length] 59)) :=
    ((((Below.refl _ _).alloc (Nat.le_refl _) _).alloc (by simp) _).alloc (by simp; omega) _).alloc (by simp; omega) _
  have hc0 : Whole ((((w.alloc (Obj.cells #[Value.int IntKind.i64 1] 2)).alloc (Obj.cells #[Value.int IntKind.i64 16777216] 2)).alloc (Obj.cells (madeCells #[Value.int IntKind.i64 0] ss.length) 2)).alloc
      (Obj.cells #[Value.slice none 0 0, Value.slice (some { block := w.heap.size + 1 + 1, off := 0 }) ss.length ss.length] 59)) (w.heap.size + 1 + 1 + 1) 59 #[Value.slice none 0 0, Value.slice (some { block := w.heap.size + 1 + 1, off := 0 }) ss.length ss.length] := by
    have := Whole.fresh (((w.alloc (Obj.cells #[Value.int IntKind.i64 1] 2)).alloc (Obj.cells #[Value.int IntKind.i64 16777216] 2)).alloc (Obj.cells (madeCells #[Value.int IntKind.i64 0] ss.length) 2)) 59 #[Value.slice none 0 0, Value.slice (some { block := w.heap.size + 1 + 1, off := 0 }) ss.length ss.length]
    simpa using this
  have hm0 : Whole ((((w.alloc (Obj.cells #[Value.int IntKind.i64 1] 2)).alloc (Obj.cells #[Value.int IntKind.i64 16777216] 2)).alloc (Obj.cells (madeCells #[Value.int IntKind.i64 0] ss.length) 2)).alloc
      (Obj.cells #[Value.slice none 0 0, Value.slice (some { block := w.heap.size + 1 + 1, off := 0 }) ss.length ss.length] 59)) (w.heap.size + 1 + 1) 2 (vals .i64 (List.replicate ss.length 0)).toArray := by
    have := (Whole.fresh ((w.alloc (Obj.cells #[Value.int IntKind.i64 1] 2)).alloc (Obj.cells #[Value.int IntKind.i64 16777216] 2)) 2 (madeCells #[Value.int IntKind.i64 0] ss.length)).alloc (Obj.cells #[Value.slice none 0 0, Value.slice (some { block := w.heap.size + 1 + 1, off := 0 }) ss.length ss.length] 59)
    have e : madeCells #[Value.int .i64 0] ss.length = (vals .i64 (List.replicate ss.length 0)).toArray := by
      apply Array.ext
      · simp [madeCells, vals]
      · intro i h1 h2
        simp [madeCells, Nat.mod_one, vals]
    rw [e] at this
    rw [e]
    simpa using this
  generalize ((((w.alloc (Obj.cells #[Value.int IntKind.i64 1] 2)).alloc (Obj.cells #[Value.int IntKind.i64 16777216] 2)).alloc (Obj.cells (madeCells #[Value.int IntKind.i64 0] ss.length) 2)).alloc
      (Obj.cells #[Value.slice none 0 0, Value.slice (some { block := w.heap.size + 1 + 1, off := 0 }) ss.length ss.length] 59)) = W0 at hB0 hc0 hm0 ⊢
  have hcB : w.heap.size ≤ w.heap.size + 1 + 1 + 1 := by omega
  have hmB : w.heap.size ≤ w.heap.size + 1 + 1 := by omega
  generalize hc : w.heap.size + 1 + 1 + 1 = c at hc0 hcB ⊢
  generalize hbm : w.heap.size + 1 + 1 = bm at hc0 hm0 hmB ⊢
  clear hc hbm H1 H2 hl3 hmk
  go_loopw [28] (fun i wr => ∃ k : Nat, k ≤ ss.length ∧ i = .int .i64 k ∧ ∃ v, Whole wr c 59 #[v, .slice (some ⟨bm, 0, none⟩) ss.length ss.length] ∧ wr.ownsRow w.heap.size 61 2 v k (thr ss k) ∧ Whole wr bm 2 (vals .i64 (List.replicate ss.length 0)).toArray ∧ Below w.heap.size w wr) (fun i _ => ss.length - (intOf i).toNat)
  case atStart => exact ⟨0, Nat.zero_le _, rfl, _, hc0, World.ownsRow_nil _ _ _ _, hm0, hB0⟩
  case round =>
    obtain ⟨k, hk, rfl, v, hC, hown, hM, hB⟩ := hrel
    clear hc0 hm0 hB0
    by_cases hlt : k < ss.length
    · rcases hl with h0 | ⟨b, o, rfl, hb, hcell⟩
      · simp [h0] at hlt
      · have hck := (hB.cell (p := ⟨b, o + k, none⟩) hb).trans (hcell k hlt)
        clear hcell
        obtain ⟨z, hz⟩ : ∃ z, ss[k]?.getD 0 = z := ⟨_, rfl⟩
        rw [hz] at hck
        have Hz : Hid (thr ss (k + 1) = thr ss k ++ [.int .i64 k, .int .i64 z]) := Lib.hid (by rw [← hz]; rfl)
        clear hz
        have h1 := hC.cell 0
        have f1 := hC.free 0
        simp only [List.getElem?_toArray, List.getElem?_cons_zero] at h1
        go_wp2_with (at_builtin; refine wpList_append_own _ rfl _ _ 57 rfl w.heap.size 61 i0 _ 2 16 Try.underlying57 hi hz0 hz1 hz2 rfl (by decide) _ _ _ rfl (hown.alloc _) ⟨wr.heap.size, 0, none⟩ 1 1 [.int .i64 k, .int .i64 z] rfl rfl ?c1 ?c2 ?c3 ?c4 ?c5 ?_)
        case c1 => exact pair_new _ _ _ _
        case c2 => intro u hu; simp at hu; rcases hu with rfl | rfl <;> rfl
        case c3 => unfold maxLen; omega
        case c4 => omega
        case c5 => have := hB.size; simp; omega
        intro v' w1 hown' hgrow _
        obtain ⟨g', cap', rfl⟩ := row_some hown' (by omega)
        have ne1 := own_apart hown hC (by decide)
        have ne2 := own_apart hown hM (by decide)
        have hC1 := (hC.alloc (.cells #[.int .i64 k, .int .i64 z] 61)).grown hgrow ne1
        have hM1 := (hM.alloc (.cells #[.int .i64 k, .int .i64 z] 61)).grown hgrow ne2
        have hB1 : Below w.heap.size w w1 := (hB.alloc hB.size _).grown hgrow (by have := hB.size; simp; omega) (fun r hr => (hown.lt r hr).1)
        have ne3 := own_apart hown' hC1 (by decide)
        have hne := hM1.ne_ hC1 (by decide)
        have h2 := hC1.cell 0
        have f2 := hC1.free 0
        simp only [List.getElem?_toArray, List.getElem?_cons_zero] at h2
        clear hown hgrow hM hC hB h1 f1 hck
        go_wp2
        go_roundw
        case rel =>
          refine ⟨k + 1, by omega, by go_num, _, by simpa using hC1.put 0 _, by rw [Hz.out]; exact row_put hown' ne3 _, hM1.away hne _, hB1.setCell (p := ⟨c, 0, none⟩) hcB _⟩
        case measure => simp [intOf]; omega
    · obtain rfl : k = ss.length := by omega
      obtain ⟨bt, capT, rfl⟩ := row_some hown hn0
      go_wp2
      refine bodyPost_ret (v := .tuple #[.pointer (some ⟨c, 0, none⟩), .int .i64 0]) (by simp [results, Try.results10, go_sem]) rfl ?_
      exact ⟨c, bt, capT, bm, rfl, ⟨hC, hown, hM, by simp, hcB, hmB⟩, hB⟩
end Go.Proofs.Ytijcfpdcijpenaa
