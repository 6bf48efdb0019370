/-
  append(b, make([]uint8, m)...): a row that is owned, m noughts longer.
-/
import Derived.Test.YtacnmnodbmbplaaFault
import Derived.Laws.OwnMore
namespace Go.Proofs.Ytacnmnodbmbplaa
open Go.RowKit
set_option maxRecDepth 100000
set_option maxHeartbeats 1000000

/-- v is a slice of n bytes f, the first ones of a block of its own (or none at all). -/
def Owns (w : World) (v : Value) (n : Nat) (f : Nat → Nat) : Prop :=
  (∀ i, i < n → f i < 256) ∧ ((v = .slice none 0 0 ∧ n = 0) ∨
    ∃ g cap cs, v = .slice (some ⟨g, 0, none⟩) n cap ∧ Whole w g 5 cs ∧ n ≤ cap ∧ cap ≤ maxLen ∧ cs.size = cap ∧ ∀ i, i < n → cs[i]? = some (.int .u8 (f i : Nat)))
theorem Owns.none (w : World) (f : Nat → Nat) : Owns w (.slice none 0 0) 0 f := ⟨fun _ h => by omega, .inl ⟨rfl, rfl⟩⟩
theorem Owns.lt {w : World} {v : Value} {n : Nat} {f : Nat → Nat} (h : Owns w v n f) (g : Nat) (hg : v.ownBlock = some g) : g < w.heap.size := by
  rcases h.2 with ⟨rfl, _⟩ | ⟨g', cap, cs, rfl, hw, _⟩
  · cases hg
  · injection hg with hg; subst hg; exact hw.lt
theorem Owns.kept {w w' : World} {v : Value} {n : Nat} {f : Nat → Nat} {row : Option Nat} (h : Owns w v n f) (hg : w.grownBy w' row) (hne : v.ownBlock = Option.none ∨ v.ownBlock ≠ row) : Owns w' v n f := by
  refine ⟨h.1, ?_⟩
  rcases h.2 with h2 | ⟨g, cap, cs, rfl, hw, h3⟩
  · exact .inl h2
  · exact .inr ⟨g, cap, cs, rfl, (hg.block g hw.lt (by rcases hne with hne | hne; cases hne; exact hne)).trans hw, h3⟩
theorem Owns.below {w w' : World} {v : Value} {n : Nat} {f : Nat → Nat} (h : Owns w v n f) (hb : Below w.heap.size w w') : Owns w' v n f := by
  refine ⟨h.1, ?_⟩
  rcases h.2 with h2 | ⟨g, cap, cs, rfl, hw, h3⟩
  · exact .inl h2
  · exact .inr ⟨g, cap, cs, rfl, hw.below hb hw.lt, h3⟩
theorem Owns.congr {w : World} {v : Value} {n : Nat} {f f' : Nat → Nat} (h : Owns w v n f) (he : ∀ i, i < n → f' i = f i) : Owns w v n f' := by
  refine ⟨fun i hi => he i hi ▸ h.1 i hi, ?_⟩
  rcases h.2 with h2 | ⟨g, cap, cs, rfl, hw, h1, h2, h3, h4⟩
  · exact .inl h2
  · exact .inr ⟨g, cap, cs, rfl, hw, h1, h2, h3, fun i hi => by rw [he i hi]; exact h4 i hi⟩
/-- As a row that is read. -/
theorem Owns.row {w : World} {v : Value} {n : Nat} {f : Nat → Nat} (h : Owns w v n f) : ∃ a c, v = .slice a n c ∧ Row w a n f := by
  rcases h.2 with ⟨rfl, rfl⟩ | ⟨g, cap, cs, rfl, hw, h1, h2, h3, h4⟩
  · exact ⟨Option.none, 0, rfl, h.1, .inl rfl⟩
  · exact ⟨_, cap, rfl, h.1, .inr ⟨g, 0, rfl, hw.lt, fun i hi => by rw [Nat.zero_add, hw.cell]; exact h4 i hi⟩⟩
/-- f, then noughts from n on. -/
def zeroed (f : Nat → Nat) (n : Nat) : Nat → Nat := fun i => if i < n then f i else 0

theorem zeroCells_u8 (m : Nat) : Builtin.zeroCells #[Value.int .u8 0] m = (List.replicate m (Value.int .u8 0)).toArray := by
  apply Array.ext'
  simp only [Builtin.zeroCells, Array.toList_map, Array.toList_range]
  apply List.ext_getElem
  · simp
  · intro i h1 h2
    simp [Nat.mod_one]
theorem info5 : ∃ i, Try.prog.info? 5 = some i ∧ i.size = 1 ∧ i.bytes = 1 ∧ i.zero = some (.int .u8 0) := by
  obtain ⟨i, hi⟩ : ∃ i, Try.prog.info? 5 = some i := Option.isSome_iff_exists.1 (by kernel_rfl)
  have h1 : (Try.prog.info? 5).map (·.size) = some 1 := by kernel_rfl
  have h2 : (Try.prog.info? 5).map (·.bytes) = some 1 := by kernel_rfl
  have h3 : (Try.prog.info? 5).map (·.zero) = some (some (.int .u8 0)) := by kernel_rfl
  rw [hi] at h1 h2 h3
  exact ⟨i, hi, by simpa using h1, by simpa using h2, by simpa using h3⟩
theorem run_append_zeros (w : World) (ty : TypeId) (v : Value) (n m : Nat) (f : Nat → Nat) (h : Owns w v n f) (hm : n + m ≤ 281474976) :
    ∃ v' w', (Builtin.append_ #[25, 3] ty #[v, .int .i64 m]).run Try.prog w = .ok v' w' ∧ Owns w' v' (n + m) (zeroed f n) ∧ w.grownBy w' v.ownBlock ∧ (v'.ownBlock = v.ownBlock ∨ v'.ownBlock = some w.heap.size) := by
  have ht := Try.underlying25
  have h3 := Try.underlying3
  obtain ⟨i, hi, hs, hb, hz⟩ := info5
  have hw64 : IntKind.i64.wrap (m : Int) = (m : Int) := by simp only [IntKind.wrap_i64]; omega
  rcases h.2 with ⟨rfl, rfl⟩ | ⟨g, cap, cs, rfl, hw, h1, h2, h4, h5⟩
  · by_cases h0 : m = 0
    · subst h0
      refine ⟨.slice Option.none 0 0, w, ?_, Owns.none w _, ⟨rfl, rfl, rfl, Nat.le_refl _, fun _ _ _ => rfl⟩, .inl rfl⟩
      have h0 : IntKind.i64.wrap 0 = 0 := hw64
      simp [Builtin.append_, run_underlying ht, run_underlying h3, sizeOf, typeInfo, zeroValue, hi, hz, hb, asInt, asIntOf, h0]
    · have hnc : Builtin.nextslicecap m 0 * 1 ≤ 281474976710656 := growslice_fits (by omega) (by omega)
      have a1 : ¬ ((m : Int) < 0) := by omega
      have a2 : ¬ (281474976710656 < (m : Int)) := by omega
      have a4 : ¬ (9223372036854775807 < (m : Int)) := by omega
      have a5 : ¬ (281474976710656 < Builtin.nextslicecap m 0) := by omega
      have hr : (Builtin.append_ #[25, 3] ty #[.slice Option.none 0 0, .int .i64 m]).run Try.prog w = .ok (.slice (some ⟨w.heap.size, 0, none⟩) m (grownCap w m 0 5)) (w.drew.alloc (.cells (Builtin.zeroCells #[Value.int .u8 0] m ++ Builtin.zeroCells #[Value.int .u8 0] (grownCap w m 0 5 - m)) 5)) := by
        simp [Builtin.append_, run_underlying ht, run_underlying h3, sizeOf, typeInfo, zeroValue, hi, hz, hs, hb, asInt, asIntOf, hw64, a1, a2, a4, a5, h0, Question.forced, run_firstCells_none, newRow, grownCap, Value.cells]
      have hge := grownCap_ge w m 0 5
      refine ⟨_, _, hr, ⟨fun i _ => by unfold zeroed; split <;> simp_all, .inr ⟨w.heap.size, _, _, by rw [Nat.zero_add], Whole.fresh w.drew 5 _, by omega, grownCap_le_maxLen w m 0 5 (by unfold maxLen; omega), ?_, fun i hi => ?_⟩⟩, ⟨rfl, rfl, rfl, by simp, fun k hk _ => Below.heap_alloc _ _ k hk⟩, .inr rfl⟩
      · simp only [Array.size_append, size_zeroCells]
        simp
        omega
      · rw [zeroCells_u8, zeroCells_u8]
        simp only [List.append_toArray, List.getElem?_toArray, List.replicate_append_replicate]
        rw [List.getElem?_replicate, if_pos (by omega)]
        simp [zeroed]
  · have a1 : ¬ ((m : Int) < 0) := by omega
    have a2 : ¬ (281474976710656 < (m : Int)) := by omega
    by_cases h0 : m = 0
    · subst h0
      have h0 : IntKind.i64.wrap 0 = 0 := hw64
      refine ⟨_, w, ?_, h.congr (fun i hi => if_pos (by omega)), ⟨rfl, rfl, rfl, Nat.le_refl _, fun _ _ _ => rfl⟩, .inl rfl⟩
      simp [Builtin.append_, run_underlying ht, run_underlying h3, sizeOf, typeInfo, zeroValue, hi, hz, hb, asInt, asIntOf, h0, h1, storeCells]
    by_cases hroom : n + m ≤ cap
    · have hst := run_storeCells_at Try.prog g n 5 (List.replicate m (Value.int .u8 0)) 0 cs w hw (by simp; omega) (fun u hu => by rw [(List.mem_replicate.1 hu).2]; rfl)
      simp only [Nat.add_zero] at hst
      have hr : (Builtin.append_ #[25, 3] ty #[.slice (some ⟨g, 0, Option.none⟩) n cap, .int .i64 m]).run Try.prog w = .ok (.slice (some ⟨g, 0, Option.none⟩) (n + m) cap) (w.setRow g (cs.toList.take n ++ List.replicate m (Value.int .u8 0) ++ cs.toList.drop (n + (List.replicate m (Value.int .u8 0)).length)).toArray) := by
        simp [Builtin.append_, run_underlying ht, run_underlying h3, sizeOf, typeInfo, zeroValue, hi, hz, hs, hb, asInt, asIntOf, hw64, a1, a2, hroom, h0, Addr.add_lit, Value.cells, zeroCells_u8, hst]
      refine ⟨_, _, hr, ⟨fun i hi => by unfold zeroed; split; exact h.1 i (by assumption); omega, .inr ⟨g, cap, _, rfl, setRow_heap w g cs _ 5 _ hw, hroom, h2, ?_, fun i hi => ?_⟩⟩, ⟨rfl, rfl, rfl, by simp, fun k _ hk => setRow_other w g k _ (fun e => hk (by simp [Value.ownBlock, e]))⟩, .inl rfl⟩
      · simp
        omega
      · simp only [List.getElem?_toArray, List.append_assoc]
        by_cases hin : i < n
        · rw [List.getElem?_append_left (by simp; omega), List.getElem?_take, if_pos hin]
          simpa [zeroed, hin] using h5 i hin
        · rw [List.getElem?_append_right (by simp; omega), List.getElem?_append_left (by simp; omega), List.getElem?_replicate, if_pos (by simp; omega)]
          simp [zeroed, hin]
    · have hnc : Builtin.nextslicecap (n + m) cap * 1 ≤ 281474976710656 := growslice_fits (by omega) (by omega)
      have a4 : ¬ (9223372036854775807 < (n : Int) + (m : Int)) := by omega
      have a5 : ¬ (281474976710656 < Builtin.nextslicecap (n + m) cap) := by omega
      have hfo := run_firstCells_some (P := Try.prog) w.drew 1 n ⟨g, 0, Option.none⟩ n cap ((List.range n).map fun i => Value.int .u8 (f i : Nat)) (by simp) (fun j u hu => by
        have hj : j < n := by have := (List.getElem?_eq_some_iff.1 hu).1; simpa using this
        rw [Addr.add_lit, Nat.zero_add]
        have := hw.drew.cell j
        rw [this, h5 j hj]
        simpa [List.getElem?_map, List.getElem?_range hj] using hu)
      have hr : (Builtin.append_ #[25, 3] ty #[.slice (some ⟨g, 0, Option.none⟩) n cap, .int .i64 m]).run Try.prog w = .ok (.slice (some ⟨w.heap.size, 0, Option.none⟩) (n + m) (grownCap w (n + m) cap 5))
          (w.drew.alloc (.cells (((List.range n).map fun i => Value.int .u8 (f i : Nat)).toArray ++ Builtin.zeroCells #[Value.int .u8 0] m ++ Builtin.zeroCells #[Value.int .u8 0] (grownCap w (n + m) cap 5 - (n + m))) 5)) := by
        simp [Builtin.append_, run_underlying ht, run_underlying h3, sizeOf, typeInfo, zeroValue, hi, hz, hs, hb, asInt, asIntOf, hw64, a1, a2, a4, a5, h0, hroom, Question.forced, hfo, newRow, grownCap, Value.cells]
      have hge := grownCap_ge w (n + m) cap 5
      refine ⟨_, _, hr, ⟨fun i hi => by unfold zeroed; split; exact h.1 i (by assumption); omega, .inr ⟨w.heap.size, _, _, rfl, Whole.fresh w.drew 5 _, hge, grownCap_le_maxLen w (n + m) cap 5 (by unfold maxLen; omega), ?_, fun i hi => ?_⟩⟩, ⟨rfl, rfl, rfl, by simp, fun k hk _ => Below.heap_alloc _ _ k hk⟩, .inr rfl⟩
      · simp only [Array.size_append, size_zeroCells]
        simp
        omega
      · rw [zeroCells_u8, zeroCells_u8]
        simp only [List.append_toArray, List.getElem?_toArray, List.append_assoc, List.replicate_append_replicate]
        by_cases hin : i < n
        · rw [List.getElem?_append_left (by simp; omega)]
          simp [zeroed, hin]
        · rw [List.getElem?_append_right (by simp; omega), List.getElem?_replicate, if_pos (by simp; omega)]
          simp [zeroed, hin]
end Go.Proofs.Ytacnmnodbmbplaa
