/-
  clock.Order: the threads in order, one behind the other.
-/
import Derived.Test.YtijcfpdcijpenaaRank
import Derived.RangeFuncNested
import Derived.RangeFuncBound
import Derived.RangeFuncCalls
import Derived.RangeFuncLeaves
import Derived.Shelf.RegionOpen
import Derived.OwnWalkIn
import Derived.TacticsInMore
import Derived.LoopNIn
import Derived.LoopIn
import Derived.Deep.RegionWith
namespace Go.Proofs.Ytijcfpdcijpenaa
open Go.RowKit Go.Shelf
set_option maxRecDepth 100000
set_option maxHeartbeats 1000000

theorem Clk.drew {w : World} {B c bt capT bm : Nat} {ss ts : List Int} (h : Clk w B c bt capT bm ss ts) : Clk w.drew B c bt capT bm ss ts := ⟨h.head, h.rows, h.times, h.size, h.low⟩
/-- What the iterator asks of a round: no cells that lie at n₀ or beyond have turned. -/
def Spares (n₀ : Nat) (W W' : World) : Prop := W.heap.size ≤ W'.heap.size ∧ ∀ k cs t f, n₀ ≤ k → W.heap[k]? = some (.cells cs t f) → W'.heap[k]? = some (.cells cs t f)
theorem Spares.refl (n₀ : Nat) (W : World) : Spares n₀ W W := ⟨Nat.le_refl _, fun _ _ _ _ _ h => h⟩
theorem Spares.trans {n₀ : Nat} {A B C : World} (h : Spares n₀ A B) (k : Spares n₀ B C) : Spares n₀ A C := ⟨Nat.le_trans h.1 k.1, fun g cs t f hg h1 => k.2 g cs t f hg (h.2 g cs t f hg h1)⟩
theorem spares_b {n₀ : Nat} (W : World) (l : Nat) (o o' : Obj) (h : W.heap[l]? = some o) (ho : o.isCells = false) : Spares n₀ W (W.putObj l o') := by
  refine ⟨by simp [World.putObj], fun k cs t f _ hk => ?_⟩
  have hne : k ≠ l := by
    intro e
    subst e
    rw [h] at hk
    injection hk with hk
    subst hk
    simp [Obj.isCells] at ho
  exact (World.putObj_heap_other hne).trans hk

theorem order_stops (Bx : Nat) (w : World) {B c bt capT bm : Nat} {ss ts : List Int} (h : Clk w B c bt capT bm ss ts) (hg : Good ss) (hb : w.cell? ⟨Bx, 0, none⟩ = some (.pointer (some ⟨c, 0, none⟩))) (hl : Bx < w.heap.size) (n : Nat) (hn : 1 ≤ n) :
    SeqStopsK Fence.wide n Try.prog 38 #[.pointer (some ⟨Bx, 0, none⟩)] (fun v : Fin ss.length => #[.int .i64 (v.1 : Nat)]) (Spares w.heap.size) (fun xs => Ord ts ss.length (xs.map (·.1))) (fun pre => ∃ L : List (Fin ss.length), Ord ts ss.length (L.map (·.1)) ∧ pre <+: L) ss.length w := by
  intro l J Jx W hW hJ hJx hY h0
  have hb' := (hW.cell (p := ⟨Bx, 0, none⟩) hl).trans hb
  have hC := h.below hW
  have HR := Lib.hid (fun W' (hC' : Clk W' B c bt capT bm ss ts) => ranked_any W' hC' hg)
  have q0 := hC.c0
  have hn1 := hg.2.1
  refine callsIn_of_wp Try.func38 rfl trivial ?_ rfl
  simp only [Try.ntmps38, List.size_toArray, List.length_cons, List.length_nil, Nat.reduceAdd, Nat.reduceSub, Array.replicate_succ, Array.replicate_zero, List.push_toArray, List.append_toArray, List.nil_append, List.cons_append]
  gi_wp2
  refine wpIn_wide.2 ?_
  go_region_with (go_at_call 39; refine (HR.out _ (by first | exact hC | exact hC.drew | exact hC.drewN _)).mono ?_; rintro e W1 ⟨g, cap', L, rfl, hL, hcs, hgl, hB1⟩)
  all_goals
    have hB1' : Below W.heap.size W W1 := ((Below.refl _ W).drew).trans hB1
    have hgl' : w.heap.size ≤ g := Nat.le_trans hW.size hgl
    have hJ1 : J [] W1 := hJ [] W W1 none h0 ⟨hB1'.os, hB1'.tape, hB1'.output, hB1'.size, fun k hk _ => hB1'.block k hk⟩ (fun r e => by cases e)
    have hs1 : w.heap.size ≤ W1.heap.size := Nat.le_trans hW.size hB1'.size
    have hll : L.length = ss.length := by simpa using hL.1.length_eq
    obtain ⟨cs, hG, hcell⟩ := hcs
    obtain ⟨M, rfl⟩ : ∃ M : List (Fin ss.length), M.map (·.1) = L := ⟨L.pmap (fun a h => ⟨a, h⟩) (fun a ha => by simpa using hL.1.mem_iff.1 ha), by simp [List.map_pmap]⟩
    rw [List.length_map] at hll
    clear HR hB1 hgl q0 hC hb' hb h
    gi_wp2
    simp only [Act.put, List.getElem_toArray, List.getElem_cons_succ, List.getElem_cons_zero, List.setIfInBounds_toArray, List.set_cons_succ, List.set_cons_zero]
    gi_loopw [15] (fun i wr => ∃ k : Nat, k ≤ ss.length ∧ i = .int .i64 k ∧ J (M.take k) wr ∧ Whole wr g 61 cs ∧ w.heap.size ≤ wr.heap.size) (fun i _ => ss.length - (intOf i).toNat)
    case atStart => exact ⟨0, Nat.zero_le _, rfl, by simpa using hJ1, hG, hs1⟩
    case round =>
      obtain ⟨k, hk, rfl, hJk, hGk, hsk⟩ := hrel
      clear hG hJ1 h0
      by_cases hlt : k < ss.length
      · obtain ⟨a1, s, a2⟩ := hcell k hlt
        clear hcell
        have q1 := (hGk.cell (k * 2)).trans a1
        have q2 := (hGk.cell (k * 2 + 1)).trans a2
        have hL' : Hid (M.take (k + 1) = M.take k ++ [M[k]'(by omega)]) := Lib.hid (by rw [List.take_add_one]; simp [List.getElem?_eq_getElem (show k < M.length by omega)])
        have ex : (M.map (·.1))[k]?.getD 0 = (M[k]'(by omega)).1 := by simp [List.getElem?_eq_getElem (show k < M.length by omega)]
        rw [ex] at q1
        clear ex a1
        generalize M[k]'(by omega) = x at q1 hL'
        clear a2
        have hJ2 : J (M.take k) (wr.alloc (.cells #[.int .i64 (x.1 : Nat), .int .i64 s] 61)) := hJ _ wr _ none hJk (World.grownBy_alloc wr _ none) (fun r e => by cases e)
        obtain ⟨fn, tmps, assign, body, hy, hR⟩ := hY (M.take k) x _ hJ2 (by simp; omega)
        have hG2 := hGk.alloc (.cells #[.int .i64 (x.1 : Nat), .int .i64 s] 61)
        clear hJk hJ2
        gi_wp2
        refine hR.mono ?_
        rintro e W3 (⟨rfl, hJ3, hk3⟩ | ⟨rfl, hJx3⟩)
        · gi_wp2
          go_roundw
          case rel => exact ⟨k + 1, by omega, by go_num, by rw [hL'.out]; exact hJ3, hk3.2 _ _ _ _ hgl' hG2, by have := hk3.1; simp at this; omega⟩
          case measure => simp [intOf]; omega
        · gi_wp2
          refine bodyPost_ret (results_none rfl _ _ _) rfl ?_
          exact ⟨⟨_, rfl⟩, .inr ⟨M.take (k + 1), ⟨M, hL, List.take_prefix _ _⟩, by rw [hL'.out]; exact hJx3⟩⟩
      · obtain rfl : k = ss.length := by omega
        gi_wp2
        go_end0
        exact ⟨⟨_, rfl⟩, .inl ⟨M, hL, by rw [List.take_of_length_le (by omega)] at hJk; exact hJk⟩⟩
end Go.Proofs.Ytijcfpdcijpenaa
