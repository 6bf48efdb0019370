/-
  bytes.Clone: a copy in memory of its own; bytes behind bytes.
-/
import Derived.Test.YtacnmnodbmbplaaWDone
import Derived.Laws.Append
namespace Go.Proofs.Ytacnmnodbmbplaa
open Go.RowKit Go.Shelf
set_option maxRecDepth 100000
set_option maxHeartbeats 1000000

/-- Bytes, then others. -/
def both (f : Nat → Nat) (n : Nat) (h : Nat → Nat) : Nat → Nat := fun i => if i < n then f i else h (i - n)
theorem rowCells {w : World} {a : Addr} {n : Nat} {f : Nat → Nat} (h : Row w (some a) n f) : ∀ j v, ((List.range n).map fun i => Value.int .u8 (f i : Nat))[j]? = some v → w.cell? (a.add j) = some v := fun j v hv => by
  have hj : j < n := by have := (List.getElem?_eq_some_iff.1 hv).1; simpa using this
  rcases h.2 with h0 | ⟨x, p, e, _, hc⟩
  · omega
  · injection e with e
    subst e
    rw [Addr.add_lit, hc j hj]
    simpa [List.getElem?_map, List.getElem?_range hj] using hv
theorem run_append_rows (w : World) (ty : TypeId) (g n m c : Nat) (a : Option Addr) (f h : Nat → Nat) (hf : Row w (some ⟨g, 0, none⟩) n f) (hh : Row w a m h) (h0 : 0 < m) (hn : n ≤ 281474976) (hm : m ≤ 140737488355328) :
    ∃ G cap w', (Builtin.append_ #[25, 25] ty #[.slice (some ⟨g, 0, none⟩) n n, .slice a m c]).run Try.prog w = .ok (.slice (some ⟨G, 0, none⟩) (n + m) cap) w' ∧
      Owns w' (.slice (some ⟨G, 0, none⟩) (n + m) cap) (n + m) (both f n h) ∧ w.heap.size ≤ G ∧ Below w.heap.size w w' := by
  obtain ⟨i, hi, hs, hb, hz⟩ := info5
  obtain ⟨p, rfl⟩ : ∃ p, a = some p := by
    rcases hh.2 with h1 | ⟨x, p, e, _⟩
    · omega
    · exact ⟨_, e⟩
  have hfit : Builtin.nextslicecap (n + m) n * i.bytes ≤ 281474976710656 := by
    rw [hb]
    by_cases h2 : 2 * n < n + m
    · unfold Builtin.nextslicecap
      rw [if_pos h2]
      omega
    · exact growslice_fits (by omega) (by omega)
  have hr := run_append_grow (P := Try.prog) w 25 ty 5 i (.int .u8 0) Try.underlying25 hi hz ⟨g, 0, none⟩ n n ((List.range n).map fun i => Value.int .u8 (f i : Nat)) (by simp [hs]) (rowCells hf)
    p m c ((List.range m).map fun i => Value.int .u8 (h i : Nat)) (by simp [hs]) (rowCells hh) (by omega) (by omega) hfit
  have hge := grownCap_ge w (n + m) n 5
  refine ⟨_, _, _, hr, ⟨fun i hi => ?_, .inr ⟨w.heap.size, _, _, rfl, Whole.fresh w.drew 5 _, hge, grownCap_le_maxLen w (n + m) n 5 (by unfold maxLen; omega), ?_, fun i hi => ?_⟩⟩, Nat.le_refl _, (Below.drew (Below.refl _ w)).alloc (Nat.le_refl _) _⟩
  · unfold both
    split
    · exact hf.1 i (by assumption)
    · exact hh.1 _ (by omega)
  · have := size_zeroCells (Value.int .u8 0).cells (grownCap w (n + m) n 5 - (n + m))
    simp only [Array.size_append, this]
    simp [Value.cells]
    omega
  · unfold both
    simp only [Array.append_assoc]
    by_cases h1 : i < n
    · rw [if_pos h1, Array.getElem?_append_left (by simp; omega)]
      simp [h1]
    · rw [if_neg h1, Array.getElem?_append_right (by simp; omega), Array.getElem?_append_left (by simp; omega)]
      have h2 : i - n < m := by omega
      simp [h2]
theorem eql_nil1 (w : World) : (binOp .eql 25 (.slice none 0 0) (.slice none 0 0)).run Try.prog w = .ok (.bool true) w := by kernel_rfl
theorem eql_nil2 (ad : Addr) (n c : Nat) (w : World) : (binOp .eql 25 (.slice (some ad) n c) (.slice none 0 0)).run Try.prog w = .ok (.bool false) w := by kernel_rfl
theorem run_append_no (w : World) (ty : TypeId) (a : Option Addr) (g c : Nat) : (Builtin.append_ #[25, 25] ty #[.slice (some ⟨g, 0, none⟩) 0 0, .slice a 0 c]).run Try.prog w = .ok (.slice (some ⟨g, 0, none⟩) 0 0) w := by
  obtain ⟨i, hi, hs, hb, hz⟩ := info5
  have ht := Try.underlying25
  cases a with
  | none => simp [Builtin.append_, run_underlying ht, sizeOf, typeInfo, hi, Builtin.lenOf, run_firstCells_none, storeCells]
  | some p =>
    have hfc := run_firstCells_some (P := Try.prog) w i.size 0 p 0 c [] (by simp) (fun j u hu => by simp at hu)
    simp [Builtin.append_, run_underlying ht, sizeOf, typeInfo, hi, Builtin.lenOf, hfc, storeCells]
theorem clone_any (a : Option Addr) (n c : Nat) (f : Nat → Nat) (w : World) (h : Row w a n f) (hn : n ≤ 140737488355328) (hnil : a = none → n = 0 ∧ c = 0) :
    Calls Try.prog 44 #[.slice a n c] w fun e w' => ∃ v, e = .returned v ∧ Owns w' v n f ∧ (∀ x, v.ownBlock = some x → w.heap.size ≤ x) ∧ Below w.heap.size w w' := by
  have hn2 := Lib.hid hn
  have hbs := fun W => (Below.refl w.heap.size W)
  by_cases ha : a = none
  · subst ha
    obtain ⟨rfl, rfl⟩ := hnil rfl
    have e1 := eql_nil1
    clear h hn hnil hbs
    go_enter Try.func44, Try.ntmps44
    go_wp2_with fail
    go_ret
    exact ⟨.slice none 0 0, rfl, Owns.none _ _, fun x (hx : (Value.slice none 0 0).ownBlock = some x) => by (cases hx), Below.refl _ _⟩
  obtain ⟨⟨x, p, o⟩, rfl⟩ : ∃ ad, a = some ad := Option.ne_none_iff_exists'.1 ha
  clear ha hnil hn
  have e1 := eql_nil2 ⟨x, p, o⟩ n c
  go_enter Try.func44, Try.ntmps44
  go_upto_region 3 with (fail)
  have hB0 : Below w.heap.size w (w.alloc (.cells #[] 5)) := (Below.refl _ w).alloc (Nat.le_refl _) _
  have hE : Whole (w.alloc (.cells #[] 5)) w.heap.size 5 #[] := Whole.fresh w 5 #[]
  have h1 := h.below hB0
  by_cases h0 : 0 < n
  · obtain ⟨G, cap, w1, hr, hO, hG, hB⟩ := run_append_rows (w.alloc (.cells #[] 5)) 25 w.heap.size 0 n c _ (fun _ => 0) f (Row.nil _ _ _) h1 h0 (by decide) hn2.out
    rw [Nat.zero_add] at hr hO
    have hO2 : Owns w1 (.slice (some ⟨G, 0, none⟩) n cap) n f := hO.congr (fun i hi => by unfold both; rw [if_neg (by omega)]; rfl)
    have hB2 := hB0.trans (hB.mono (by simp))
    have hG2 : w.heap.size ≤ G := by simp at hG; omega
    clear hO hB hG h1 hE hB0 hbs h
    go_wp2_with (at_builtin; refine wpList_append_ran2 rfl _ _ 25 25 rfl _ _ _ w1 rfl rfl hr ?_)
    go_ret
    exact ⟨_, rfl, hO2, fun y hy => by (have hy : some G = some y := hy); cases hy; exact hG2, hB2⟩
  · obtain rfl : n = 0 := by omega
    have hr := run_append_no (w.alloc (.cells #[] 5)) 25 (some ⟨x, p, o⟩) w.heap.size c
    clear h1 hbs h
    go_wp2_with (at_builtin; refine wpList_append_ran2 rfl _ _ 25 25 rfl _ _ _ _ rfl rfl hr ?_)
    go_ret
    exact ⟨_, rfl, ⟨fun i hi => by omega, .inr ⟨w.heap.size, 0, #[], rfl, hE, Nat.le_refl _, by unfold maxLen; omega, rfl, fun i hi => by omega⟩⟩, fun y hy => by (have hy : some w.heap.size = some y := hy); cases hy; exact Nat.le_refl _, hB0⟩
end Go.Proofs.Ytacnmnodbmbplaa
