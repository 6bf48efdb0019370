/-
  Numbers behind numbers: an append to an owned row of integers.
-/
import Derived.Test.YtacnmnodbmbplaaRDone
namespace Go.Proofs.Ytacnmnodbmbplaa
open Go.RowKit Go.Shelf
set_option maxRecDepth 100000
set_option maxHeartbeats 1000000

theorem info3 : ∃ i, Try.prog.info? 3 = some i ∧ i.size = 1 ∧ i.bytes = 8 ∧ i.zero = some (.int .i64 0) := by
  obtain ⟨i, hi⟩ : ∃ i, Try.prog.info? 3 = some i := Option.isSome_iff_exists.1 (by kernel_rfl)
  have h1 : (Try.prog.info? 3).map (·.size) = some 1 := by kernel_rfl
  have h2 : (Try.prog.info? 3).map (·.bytes) = some 8 := by kernel_rfl
  have h3 : (Try.prog.info? 3).map (·.zero) = some (some (.int .i64 0)) := by kernel_rfl
  rw [hi] at h1 h2 h3
  exact ⟨i, hi, by simpa using h1, by simpa using h2, by simpa using h3⟩
/-- v is a slice of n integers f, the first ones of a block of its own (or none at all). -/
def IOwns (w : World) (v : Value) (n : Nat) (f : Nat → Nat) : Prop :=
  (v = .slice none 0 0 ∧ n = 0) ∨ ∃ g cap cs, v = .slice (some ⟨g, 0, none⟩) n cap ∧ Whole w g 3 cs ∧ n ≤ cap ∧ cap ≤ maxLen ∧ cs.size = cap ∧ ∀ i, i < n → cs[i]? = some (.int .i64 (f i : Nat))
theorem IOwns.below {w w' : World} {v : Value} {n : Nat} {f : Nat → Nat} (h : IOwns w v n f) (hb : Below w.heap.size w w') : IOwns w' v n f :=
  h.imp id fun ⟨g, cap, cs, e, hw, h3⟩ => ⟨g, cap, cs, e, hw.below hb hw.lt, h3⟩
theorem IOwns.congr {w : World} {v : Value} {n : Nat} {f f' : Nat → Nat} (h : IOwns w v n f) (he : ∀ i, i < n → f' i = f i) : IOwns w v n f' :=
  h.imp id fun ⟨g, cap, cs, e, hw, h1, h2, h3, h4⟩ => ⟨g, cap, cs, e, hw, h1, h2, h3, fun i hi => by rw [he i hi]; exact h4 i hi⟩
theorem IOwns.away {w : World} {v : Value} {n : Nat} {f : Nat → Nat} (h : IOwns w v n f) {x : Nat} (hx : v.ownBlock ≠ some x) (i : Nat) (u : Value) : IOwns (w.setCell ⟨x, i, none⟩ u) v n f := by
  rcases h with h2 | ⟨g, cap, cs, rfl, hw, h3⟩
  · exact .inl h2
  · exact .inr ⟨g, cap, cs, rfl, hw.away (p := ⟨x, i, none⟩) (fun e => hx (by show some g = some x; rw [e])) u, h3⟩
theorem IOwns.row {w : World} {v : Value} {n : Nat} {f : Nat → Nat} (h : IOwns w v n f) : ∃ a c, v = .slice a n c ∧ IRow w a n f ∧ n ≤ c := by
  rcases h with ⟨rfl, rfl⟩ | ⟨g, cap, cs, rfl, hw, h1, h2, h3, h4⟩
  · exact ⟨none, 0, rfl, .inl rfl, Nat.le_refl _⟩
  · exact ⟨_, cap, rfl, .inr ⟨g, 0, rfl, hw.lt, fun i hi => by rw [Nat.zero_add, hw.cell]; exact h4 i hi⟩, h1⟩
theorem irowCells {w : World} {a : Addr} {n : Nat} {f : Nat → Nat} (h : IRow w (some a) n f) : ∀ j v, ((List.range n).map fun i => Value.int .i64 (f i : Nat))[j]? = some v → w.cell? (a.add j) = some v := fun j v hv => by
  have hj : j < n := by have := (List.getElem?_eq_some_iff.1 hv).1; simpa using this
  rcases h with h0 | ⟨x, p, e, _, hc⟩
  · omega
  · injection e with e
    subst e
    rw [Addr.add_lit, hc j hj]
    simpa [List.getElem?_map, List.getElem?_range hj] using hv
theorem IOwns.ownsRow {w : World} {v : Value} {n B : Nat} {f : Nat → Nat} (h : IOwns w v n f) (hB : From B v) : w.ownsRow B 3 1 v n ((List.range n).map fun i => Value.int .i64 (f i : Nat)) := by
  refine ⟨by simp, ?_⟩
  rcases h with h | ⟨g, cap, cs, rfl, hw, h1, h2, h3, h4⟩
  · exact .inl h
  · refine .inr ⟨g, cap, cs, rfl, hB g rfl, hw, h1, h2, by omega, ?_⟩
    apply List.ext_getElem?
    intro j
    rw [Nat.mul_one, List.getElem?_take, List.getElem?_map]
    by_cases hj : j < n
    · rw [if_pos hj, List.getElem?_range hj, Array.getElem?_toList, h4 j hj]
      rfl
    · rw [if_neg hj, List.getElem?_eq_none (by simpa using hj)]
      rfl
theorem IOwns.of_ownsRow {w : World} {v : Value} {n B : Nat} {f : Nat → Nat} (h : w.ownsRow B 3 1 v n ((List.range n).map fun i => Value.int .i64 (f i : Nat))) : IOwns w v n f ∧ From B v := by
  rcases h.2 with ⟨rfl, rfl⟩ | ⟨g, cap, cs, rfl, hb, hw, h1, h2, h3, h4⟩
  · exact ⟨.inl ⟨rfl, rfl⟩, fun x hx => by cases hx⟩
  · refine ⟨.inr ⟨g, cap, cs, rfl, hw, h1, h2, by omega, fun i hi => ?_⟩, fun x hx => by (have hx : some g = some x := hx); cases hx; exact hb⟩
    have := congrArg (fun l : List Value => l[i]?) h4
    simp only [Nat.mul_one, List.getElem?_take, if_pos hi, List.getElem?_map, List.getElem?_range hi, Array.getElem?_toList] at this
    exact this
theorem run_iappend_nil (w : World) (ty : TypeId) (v : Value) (n c : Nat) (f : Nat → Nat) (h : IOwns w v n f) (a : Option Addr) : (Builtin.append_ #[26, 26] ty #[v, .slice a 0 c]).run Try.prog w = .ok v w := by
  obtain ⟨i, hi, hs, hb, hz⟩ := info3
  have ht := Try.underlying26
  have key : ∀ ao len cap, len ≤ cap → (Builtin.append_ #[26, 26] ty #[.slice ao len cap, .slice a 0 c]).run Try.prog w = .ok (.slice ao len cap) w := fun ao len cap hle => by
    cases a with
    | none => cases ao <;> simp [Builtin.append_, run_underlying ht, sizeOf, typeInfo, hi, Builtin.lenOf, run_firstCells_none, storeCells, hle]
    | some p =>
      have hfc := run_firstCells_some (P := Try.prog) w i.size 0 p 0 c [] (by simp) (fun j u hu => by simp at hu)
      cases ao <;> simp [Builtin.append_, run_underlying ht, sizeOf, typeInfo, hi, Builtin.lenOf, hfc, storeCells, hle]
  rcases h with ⟨rfl, _⟩ | ⟨g, cap, cs, rfl, hw, h1, _⟩
  · exact key none 0 0 (Nat.le_refl _)
  · exact key _ n cap h1
theorem run_iappend_more (w : World) (ty : TypeId) (B : Nat) (v : Value) (n m c : Nat) (a : Option Addr) (f h : Nat → Nat) (hO : IOwns w v n f) (hv : From B v) (hR : IRow w a m h) (hm : n + m ≤ 17592186044416) (hB : B ≤ w.heap.size) :
    ∃ v' w', (Builtin.append_ #[26, 26] ty #[v, .slice a m c]).run Try.prog w = .ok v' w' ∧ IOwns w' v' (n + m) (both f n h) ∧ From B v' ∧ w.grownBy w' v.ownBlock := by
  obtain ⟨i, hi, hs, hb, hz⟩ := info3
  by_cases h0 : m = 0
  · subst h0
    exact ⟨v, w, run_iappend_nil w ty v n c f hO a, hO.congr (fun i hi => if_pos hi), hv, ⟨rfl, rfl, rfl, Nat.le_refl _, fun _ _ _ => rfl⟩⟩
  obtain ⟨p, rfl⟩ : ∃ p, a = some p := by
    rcases hR with h1 | ⟨x, p, e, _⟩
    · omega
    · exact ⟨_, e⟩
  obtain ⟨v', w', hr, ho, hg, _⟩ := run_append_own (P := Try.prog) w B 26 ty 3 i (.int .i64 0) 1 8 Try.underlying26 hi hz hs hb rfl (by decide) v n _ (hO.ownsRow hv) p m c ((List.range m).map fun i => Value.int .i64 (h i : Nat)) (by simp) (irowCells hR)
    (fun u hu => by obtain ⟨i, _, rfl⟩ := List.mem_map.1 hu; rfl) (by unfold maxLen; omega) (by omega) hB
  have hcat : ((List.range n).map fun i => Value.int .i64 (f i : Nat)) ++ ((List.range m).map fun i => Value.int .i64 (h i : Nat)) = (List.range (n + m)).map fun i => Value.int .i64 (both f n h i : Nat) := by
    rw [List.range_add, List.map_append, List.map_map]
    congr 1
    · apply List.map_congr_left
      intro j hj
      unfold both
      rw [if_pos (by simpa using hj)]
    · apply List.map_congr_left
      intro j hj
      show _ = Value.int .i64 (both f n h (n + j) : Nat)
      unfold both
      rw [if_neg (by omega), Nat.add_sub_cancel_left]
  rw [hcat] at ho
  obtain ⟨h1, h2⟩ := IOwns.of_ownsRow ho
  exact ⟨v', w', hr, h1, h2, hg⟩
end Go.Proofs.Ytacnmnodbmbplaa
