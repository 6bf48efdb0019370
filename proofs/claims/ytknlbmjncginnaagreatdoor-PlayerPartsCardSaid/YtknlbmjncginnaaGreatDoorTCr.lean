/-
  Course by the code, as functions of registers and bytes; bytes behind bytes.
-/
import Derived.Test.YtknlbmjncginnaaGreatDoorTCyK
import Derived.Laws.Append
import Derived.Deep.Upon
namespace Go.Proofs.YtknlbmjncginnaaGreatDoor
open Go.RowKit Go.Shelf
set_option maxRecDepth 100000
set_option maxHeartbeats 1000000
set_option linter.unusedVariables false

/-- What Course tells of registers and bytes: the accesses, whether that is all, the registers behind it. -/
def crG (r : Rp) (sn : List Nat) : List Ac × Sc × Option (Unit × Rp) := go (runM actA r) [] ⟨none, sn⟩
def crL (r : Rp) (sn : List Nat) : List Ac := (crG r sn).1
def crD (r : Rp) (sn : List Nat) : Bool := (crG r sn).2.2.isSome
def zeroR : Rp := ⟨0, 0, 0, 0, 0, 0, false⟩
theorem zeroR_ok : zeroR.Ok := ⟨by decide, by decide, by decide, by decide, by decide, by decide⟩
def crR (r : Rp) (sn : List Nat) : Rp := match (crG r sn).2.2 with | some x => x.2 | none => zeroR
def bsN (f : Nat → Nat) (n : Nat) : List Nat := (List.range n).map f
theorem bsN_length (f : Nat → Nat) (n : Nat) : (bsN f n).length = n := by simp [bsN]
theorem bsN_lt {f : Nat → Nat} {n : Nat} (h : ∀ i, i < n → f i < 256) : ∀ x ∈ bsN f n, x < 256 := fun x hx => by
  obtain ⟨i, hi, rfl⟩ := List.mem_map.1 hx
  exact h i (List.mem_range.1 hi)
theorem sc_ok {sn : List Nat} (h : ∀ x ∈ sn, x < 256) : Sc.Ok ⟨none, sn⟩ := ⟨h, fun g hg => by cases hg⟩
theorem crL_most (r : Rp) {sn : List Nat} (h : ∀ x ∈ sn, x < 256) : 1 ≤ (crL r sn).length ∧ (crL r sn).length ≤ 14 := run_most r _ (sc_ok h)
theorem crL_forms (r : Rp) (sn : List Nat) : ∀ x ∈ crL r sn, AcOk x := run_forms r _
theorem course_fun (r : Rp) (a : Option Addr) (n c : Nat) (f : Nat → Nat) (w : World) (hr : r.Ok) (hR : Row w a n f) (hnc : n ≤ c) :
    Calls Tryz.prog 16 #[pegV r, .slice a n c] w fun e w' => ∃ lv, e = .returned (.tuple #[lv, .bool (crD r (bsN f n)), pegV (crR r (bsN f n))]) ∧ Below w.heap.size w w' ∧ w'.ownsRow w.heap.size 42 3 lv (crL r (bsN f n)).length (accX (crL r (bsN f n))) ∧ (crR r (bsN f n)).Ok := by
  refine (course_all r a n c f w hr hR hnc).mono ?_
  rintro e w' ⟨s', lv, hb, ho, -, h⟩
  rcases h with ⟨h, hok, rfl⟩ | ⟨h, rfl⟩
  · have e : crG r (bsN f n) = (s'.l, s'.q, some ((), s'.r)) := h
    have e1 : crL r (bsN f n) = s'.l := by unfold crL; rw [e]
    have e2 : crD r (bsN f n) = true := by unfold crD; rw [e]; rfl
    have e3 : crR r (bsN f n) = s'.r := by unfold crR; rw [e]
    rw [e1, e2, e3]
    exact ⟨lv, rfl, hb, ho, hok⟩
  · have e : crG r (bsN f n) = (s'.l, s'.q, none) := h
    have e1 : crL r (bsN f n) = s'.l := by unfold crL; rw [e]
    have e2 : crD r (bsN f n) = false := by unfold crD; rw [e]; rfl
    have e3 : crR r (bsN f n) = zeroR := by unfold crR; rw [e]
    rw [e1, e2, e3]
    exact ⟨lv, rfl, hb, ho, zeroR_ok⟩
/-- With more bytes. -/
theorem cr_more (r : Rp) (sn more : List Nat) (hs : ∀ x ∈ sn, x < 256) :
    (crL r sn <+: crL r (sn ++ more)) ∧ (crD r sn = true → crD r (sn ++ more) = true ∧ crR r (sn ++ more) = crR r sn ∧ crL r (sn ++ more) = crL r sn) ∧
    (crD r sn = false → crR r sn = zeroR ∧ (∃ l' x, crL r sn = l' ++ [(1, x, 0)]) ∧ reads (crL r sn) = sn.length + 1 ∧ (more ≠ [] → crD r (sn ++ more) = true ∨ (crL r sn).length < (crL r (sn ++ more)).length)) := by
  rcases go_more (runM actA r) [] sn more with ⟨l', t, a, h1, h2⟩ | ⟨l', x, h1, h2, h3, h4⟩
  · have e1 : crG r sn = (l', ⟨none, t⟩, some a) := h1
    have e2 : crG r (sn ++ more) = (l', ⟨none, t ++ more⟩, some a) := h2
    have a1 : crL r sn = l' := by unfold crL; rw [e1]
    have a2 : crL r (sn ++ more) = l' := by unfold crL; rw [e2]
    have b1 : crD r sn = true := by unfold crD; rw [e1]; rfl
    have b2 : crD r (sn ++ more) = true := by unfold crD; rw [e2]; rfl
    have c1 : crR r sn = a.2 := by unfold crR; rw [e1]
    have c2 : crR r (sn ++ more) = a.2 := by unfold crR; rw [e2]
    refine ⟨by rw [a1, a2]; exact List.prefix_refl _, fun _ => ⟨b2, by rw [c1, c2], by rw [a1, a2]⟩, fun h => ?_⟩
    rw [b1] at h
    cases h
  · have e1 : crG r sn = (l' ++ [(1, x, 0)], ⟨none, []⟩, none) := h1
    have a1 : crL r sn = l' ++ [(1, x, 0)] := by unfold crL; rw [e1]
    have b1 : crD r sn = false := by unfold crD; rw [e1]; rfl
    have c1 : crR r sn = zeroR := by unfold crR; rw [e1]
    refine ⟨by rw [a1]; exact h3, fun h => ?_, fun _ => ⟨c1, ⟨l', x, a1⟩, ?_, fun hm => ?_⟩⟩
    · rw [b1] at h
      cases h
    · rw [a1, reads_app, h2]
      show reads [] + sn.length + 1 = sn.length + 1
      rw [show reads [] = 0 from rfl, Nat.zero_add]
    · rcases h4 hm with h5 | h5
      · left
        unfold crD crG
        cases hx : (go (runM actA r) [] ⟨none, sn ++ more⟩).2.2 with
        | none => exact absurd hx h5
        | some y => rfl
      · right
        rw [a1]
        simpa [crL, crG] using h5
/-- Bytes, then others. -/
def both (f : Nat → Nat) (n : Nat) (h : Nat → Nat) : Nat → Nat := fun i => if i < n then f i else h (i - n)
theorem bsN_both (f h : Nat → Nat) (n m : Nat) : bsN (both f n h) (n + m) = bsN f n ++ bsN h m := by
  unfold bsN
  rw [List.range_add, List.map_append, List.map_map]
  congr 1
  · apply List.map_congr_left
    intro i hi
    exact if_pos (List.mem_range.1 hi)
  · apply List.map_congr_left
    intro i _
    show (if n + i < n then f (n + i) else h (n + i - n)) = h i
    rw [if_neg (by omega), Nat.add_sub_cancel_left]
theorem rowCells {w : World} {a : Addr} {n : Nat} {f : Nat → Nat} (h : Row w (some a) n f) : ∀ j v, ((List.range n).map fun i => Value.int .u8 (f i : Nat))[j]? = some v → w.cell? (a.add j) = some v := fun j v hv => by
  have hj : j < n := by have := (List.getElem?_eq_some_iff.1 hv).1; simpa using this
  rcases h.2 with h0 | ⟨x, p, e, _, hc⟩
  · omega
  · injection e with e
    subst e
    rw [Addr.add_lit, hc j hj]
    simpa [List.getElem?_map, List.getElem?_range hj] using hv
theorem info8 : (Tryz.prog.info? 5).map (fun i => (i.zero, i.size, i.bytes)) = some (some (.int .u8 0), 1, 1) := by kernel_rfl
theorem run_append_bytes (w : World) (ty : TypeId) (g n m c : Nat) (a : Option Addr) (f h : Nat → Nat) (hf : Row w (some ⟨g, 0, none⟩) n f) (hh : Row w a m h) (hn : n ≤ 1048576) (hm : m ≤ 1048576) :
    ∃ G cap w', (Builtin.append_ #[25, 25] ty #[.slice (some ⟨g, 0, none⟩) n n, .slice a m c]).run Tryz.prog w = .ok (.slice (some ⟨G, 0, none⟩) (n + m) cap) w' ∧
      Row w' (some ⟨G, 0, none⟩) (n + m) (both f n h) ∧ n + m ≤ cap ∧ Below w.heap.size w w' := by
  obtain ⟨i, hi, hz, hs, hb⟩ := info_parts info8
  by_cases h0 : m = 0
  · subst h0
    refine ⟨g, n, w, ?_, ?_, Nat.le_refl _, Below.refl _ _⟩
    · have ht := Tryz.underlying25
      cases a with
      | none => simp [Builtin.append_, run_underlying ht, sizeOf, typeInfo, hi, Builtin.lenOf, run_firstCells_none, storeCells]
      | some p =>
        have hfc := run_firstCells_some (P := Tryz.prog) w i.size 0 p 0 c [] (by simp) (fun j u hu => by simp at hu)
        simp [Builtin.append_, run_underlying ht, sizeOf, typeInfo, hi, Builtin.lenOf, hfc, storeCells]
    · refine ⟨fun i hi => ?_, ?_⟩
      · unfold both; rw [if_pos (by omega)]; exact hf.1 i (by omega)
      · rcases hf.2 with h1 | ⟨x, o, e, hx, hc⟩
        · exact .inl (by omega)
        · exact .inr ⟨x, o, e, hx, fun i hi => by unfold both; rw [if_pos (by omega)]; exact hc i (by omega)⟩
  obtain ⟨p, rfl⟩ : ∃ p, a = some p := by
    rcases hh.2 with h1 | ⟨x, p, e, _⟩
    · omega
    · exact ⟨_, e⟩
  have hfit : Builtin.nextslicecap (n + m) n * i.bytes ≤ 281474976710656 := by
    rw [hb]
    by_cases h2 : 2 * n < n + m
    · unfold Builtin.nextslicecap
      rw [if_pos h2]
      omega
    · exact growslice_fits (by omega) (by omega)
  have hr := run_append_grow (P := Tryz.prog) w 25 ty 5 i (.int .u8 0) Tryz.underlying25 hi hz ⟨g, 0, none⟩ n n ((List.range n).map fun i => Value.int .u8 (f i : Nat)) (by simp [hs]) (rowCells hf)
    p m c ((List.range m).map fun i => Value.int .u8 (h i : Nat)) (by simp [hs]) (rowCells hh) (by omega) (by omega) hfit
  have hge := grownCap_ge w (n + m) n 5
  refine ⟨_, _, _, hr, ⟨fun i hi => ?_, .inr ⟨w.heap.size, 0, rfl, by simp, fun i hi => ?_⟩⟩, hge, (Below.drew (Below.refl _ w)).alloc (Nat.le_refl _) _⟩
  · unfold both
    split
    · exact hf.1 i (by assumption)
    · exact hh.1 _ (by omega)
  · rw [Nat.zero_add]
    have hwh := Whole.fresh w.drew 5 (((List.range n).map fun i => Value.int .u8 (f i : Nat)).toArray ++ ((List.range m).map fun i => Value.int .u8 (h i : Nat)).toArray ++ Builtin.zeroCells (Value.int .u8 0).cells (grownCap w (n + m) n 5 - (n + m)))
    have hc := hwh.cell i
    rw [show w.drew.heap.size = w.heap.size from rfl] at hc
    rw [hc, Array.getElem?_append_left (by simp; exact hi)]
    unfold both
    by_cases h1 : i < n
    · rw [if_pos h1, Array.getElem?_append_left (by simp; exact h1)]
      simp [h1]
    · rw [if_neg h1, Array.getElem?_append_right (by simp; omega)]
      have e : i - n < m := by omega
      simp [e]
end Go.Proofs.YtknlbmjncginnaaGreatDoor
