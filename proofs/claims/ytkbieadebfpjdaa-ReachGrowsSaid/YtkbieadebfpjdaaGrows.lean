/-
  What a course of n bytes is, and what one byte more makes of it: pure.
-/
import Derived.Test.YtkbieadebfpjdaaLaw
namespace Go.Proofs.Ytkbieadebfpjdaa
open Go.RowKit Go.Shelf
set_option linter.unusedVariables false

theorem pre_len {α : Type} {a b : List α} (h : a <+: b) : a.length ≤ b.length := h.length_le
def kindOk (l : List (Nat × Nat)) : Prop := ∀ x ∈ l, x.1 = 0 ∨ (x.1 = 1 ∧ x.2 < 16777216)
/-- What is known of a course of n bytes. -/
structure Grown (m u : Nat) (r : Rg) (f : Nat → Nat) (n : Nat) : Prop where
  kind : kindOk (courseM m u r n f).2.l
  len : (courseM m u r n f).2.l.length ≤ 8
  stop : (courseM m u r n f).2.st = true → reads (courseM m u r n f).2.l = n + 1 ∧ ∃ i a, (courseM m u r n f).2.l = i ++ [(1, a)]
  go : (courseM m u r n f).2.st = false → reads (courseM m u r n f).2.l ≤ n
theorem grown_any (m u : Nat) (r : Rg) (f : Nat → Nat) (n : Nat) : Grown m u r f n := by
  have hg := Good.operand m u
  have hi := hg.inv n ⟨r.settle, n, f, [], false⟩ ⟨fun x hx => absurd hx (by simp), by simp [reads], fun e => by cases e⟩
  have hc := hg.cost ⟨r.settle, n, f, [], false⟩
  refine ⟨hi.kind, ?_, fun h => ?_, fun h => ?_⟩
  · show (operandM m u ⟨r.settle, n, f, [], false⟩).2.l.length ≤ 8
    simpa using hc
  · have h1 := hi.count
    obtain ⟨h2, h3⟩ := hi.stop h
    have h' : (operandM m u ⟨r.settle, n, f, [], false⟩).2.st = true := h
    rw [h2, if_pos h'] at h1
    exact ⟨h1, h3⟩
  · have h1 := hi.count
    have h' : (operandM m u ⟨r.settle, n, f, [], false⟩).2.st = false := h
    rw [if_neg (by rw [h']; decide)] at h1
    show reads (operandM m u ⟨r.settle, n, f, [], false⟩).2.l ≤ n
    omega
theorem grown_next (m u : Nat) (r : Rg) (f : Nat → Nat) (n : Nat) : ((courseM m u r n f).2.st = false → (courseM m u r (n + 1) f).2.st = false ∧ (courseM m u r (n + 1) f).2.l = (courseM m u r n f).2.l) ∧ (courseM m u r n f).2.l <+: (courseM m u r (n + 1) f).2.l := by
  have hm := ((Good.operand m u).mono ⟨r.settle, n, f, [], false⟩ ⟨r.settle, n + 1, f, [], false⟩ (.inl ⟨rfl, rfl⟩)).1
  change Rel (courseM m u r n f).2 (courseM m u r (n + 1) f).2 at hm
  generalize (courseM m u r n f).2 = s at *
  generalize (courseM m u r (n + 1) f).2 = t at *
  rcases hm with ⟨h1, rfl⟩ | ⟨h1, _, h3⟩
  · exact ⟨fun _ => ⟨h1, rfl⟩, List.prefix_refl _⟩
  · exact ⟨fun h => (by rw [h1] at h; cases h), h3⟩
theorem reads_take (l : List (Nat × Nat)) (k : Nat) (h : k < l.length) : reads (l.take (k + 1)) = reads (l.take k) + (if l[k].1 = 1 then 1 else 0) := by
  rw [List.take_succ_eq_append_getElem h]
  unfold reads
  rw [List.countP_append]
  congr 1
  by_cases e : l[k].1 = 1
  · simp [e]
  · simp [e]
/-- The accesses of the course before, and whether it was whole. -/
def lastL (m u : Nat) (r : Rg) (f : Nat → Nat) : Nat → List (Nat × Nat)
  | 0 => []
  | k + 1 => (courseM m u r k f).2.l
def endE (m u : Nat) (r : Rg) (f : Nat → Nat) : Nat → Bool
  | 0 => false
  | k + 1 => !(courseM m u r k f).2.st
/-- What one round meets. -/
structure Step (k : Nat) (l0 : List (Nat × Nat)) (e0 : Bool) (l1 : List (Nat × Nat)) (st : Bool) (pa : Nat) (pb : Bool) (pc : Nat) : Prop where
  pre : l0 <+: l1
  kind : kindOk l1
  len : l1.length ≤ 8
  stop : st = true → e0 = false ∧ reads l1 = k + 1 ∧ (∃ i a, l1 = i ++ [(1, a)]) ∧ pa = 0 ∧ pb = false ∧ pc = 0
  go : st = false → reads l1 ≤ k
  same : e0 = true → l1 = l0
theorem step_any (m u : Nat) (r : Rg) (f : Nat → Nat) (k : Nat) : Step k (lastL m u r f k) (endE m u r f k) (courseM m u r k f).2.l (courseM m u r k f).2.st (placeOf (courseM m u r k f)).1 (placeOf (courseM m u r k f)).2 (pcOf (courseM m u r k f)) := by
  have hg := grown_any m u r f k
  have hp : lastL m u r f k <+: (courseM m u r k f).2.l ∧ (endE m u r f k = true → (courseM m u r k f).2.st = false ∧ (courseM m u r k f).2.l = lastL m u r f k) := by
    cases k with
    | zero => exact ⟨List.nil_prefix, fun h => by cases h⟩
    | succ j =>
      obtain ⟨h1, h2⟩ := grown_next m u r f j
      refine ⟨h2, fun h => h1 ?_⟩
      have h : (!(courseM m u r j f).2.st) = true := h
      simpa using h
  refine ⟨hp.1, hg.kind, hg.len, fun h => ?_, hg.go, fun h => (hp.2 h).2⟩
  obtain ⟨h1, h2⟩ := hg.stop h
  refine ⟨?_, h1, h2, ?_, ?_, ?_⟩
  · cases he : endE m u r f k with
    | false => rfl
    | true => have := (hp.2 he).1; rw [h] at this; cases this
  · unfold placeOf; rw [if_pos h]
  · unfold placeOf; rw [if_pos h]
  · unfold pcOf; rw [if_pos h]
/-- A row's first bytes. -/
theorem Row.take {w : World} {a : Option Addr} {n : Nat} {f : Nat → Nat} (h : Row w a n f) {k : Nat} (hk : k ≤ n) : Row w a k f :=
  ⟨fun i hi => h.1 i (Nat.lt_of_lt_of_le hi hk), h.2.elim (fun h0 => .inl (by omega)) fun ⟨b, o, ha, hb, hc⟩ => .inr ⟨b, o, ha, hb, fun i hi => hc i (Nat.lt_of_lt_of_le hi hk)⟩⟩
theorem ARow.pre {w : World} {a : Option Addr} {l l1 : List (Nat × Nat)} (h : ARow w a l1) (hp : l <+: l1) : ARow w a l := by
  rcases h with rfl | ⟨g, e, hg, hc⟩
  · exact .inl (List.prefix_nil.1 hp)
  · refine .inr ⟨g, e, hg, fun i hi => ?_⟩
    have hi1 : i < l1.length := Nat.lt_of_lt_of_le hi hp.length_le
    have := hc i hi1
    rw [show l1[i] = l[i] from (hp.getElem hi).symm] at this
    exact this
theorem own_mono {w : World} {B C : Nat} {e : TypeId} {s n : Nat} {v : Value} {xs : List Value} (h : w.ownsRow B e s v n xs) (hb : C ≤ B) : w.ownsRow C e s v n xs :=
  ⟨h.1, h.2.imp id fun ⟨g, cap, cur, e, h1, r⟩ => ⟨g, cap, cur, e, Nat.le_trans hb h1, r⟩⟩
theorem bel_alloc {a w : World} (h : Below a.heap.size a w) (o : Obj) : Below a.heap.size a (w.alloc o) := h.alloc h.size o
theorem row_alloc {w : World} {a : Option Addr} {n : Nat} {f : Nat → Nat} (h : Row w a n f) (o : Obj) : Row (w.alloc o) a n f := h.below ((Below.refl _ w).alloc (Nat.le_refl _) o)
theorem row_drewN {w : World} {a : Option Addr} {n : Nat} {f : Nat → Nat} (h : Row w a n f) (q : Nat) : Row (w.drewN q) a n f := h.below (below_drewN (Below.refl _ w) q)
theorem row_drew {w : World} {a : Option Addr} {n : Nat} {f : Nat → Nat} (h : Row w a n f) : Row w.drew a n f := row_drewN h 1
theorem reads_le (l : List (Nat × Nat)) : reads l ≤ l.length := List.countP_le_length
theorem wh_after {wx w' : World} {cs : Array Value} {t : TypeId} (h : Below (wx.alloc (.cells cs t)).heap.size (wx.alloc (.cells cs t)) w') : Whole w' wx.heap.size t cs :=
  (Whole.fresh wx t cs).below h (Whole.fresh wx t cs).lt
theorem wh_after2 {wx w' : World} {cs : Array Value} {t : TypeId} (h : Below (wx.alloc (.cells cs t)).drew.heap.size (wx.alloc (.cells cs t)).drew w') : Whole w' wx.heap.size t cs :=
  (Whole.fresh wx t cs).drew.below h (Whole.fresh wx t cs).lt
theorem wh_cells {w : World} {g : Nat} {t : TypeId} {a b : Value} (h : Whole w g t #[a, b]) : w.frozen? ⟨g, 0, none⟩ = false ∧ w.frozen? ⟨g, 1, none⟩ = false ∧ w.cell? ⟨g, 0, none⟩ = some a ∧ w.cell? ⟨g, 1, none⟩ = some b := ⟨h.free 0, h.free 1, h.cell 0, h.cell 1⟩
theorem bel_set2 {a w : World} (h : Below a.heap.size a w) {Z : Nat} (hz : a.heap.size ≤ Z) (u v : Value) : Below a.heap.size a ((w.setCell ⟨Z, 0, none⟩ u).setCell ⟨Z, 1, none⟩ v) :=
  (h.setCell (p := ⟨Z, 0, none⟩) hz u).setCell (p := ⟨Z, 1, none⟩) hz v
theorem fin_alloc {wo w : World} {B : Nat} {lv : Value} {l : List (Nat × Nat)} (pa : Nat) (pb : Bool) (hO : w.ownsRow B 42 3 lv l.length (accV l)) (hB : Below wo.heap.size wo w) :
    ∃ a c, lv = .slice a l.length c ∧ Hid (ARow (w.alloc (.cells #[.int .u32 pa, .bool pb] 27)) a l ∧ l.length ≤ c) ∧ Below wo.heap.size wo (w.alloc (.cells #[.int .u32 pa, .bool pb] 27)) ∧
      (w.alloc (.cells #[.int .u32 pa, .bool pb] 27)).cell? ⟨w.heap.size, 0, none⟩ = some (.int .u32 pa) ∧ (w.alloc (.cells #[.int .u32 pa, .bool pb] 27)).cell? ⟨w.heap.size, 1, none⟩ = some (.bool pb) := by
  obtain ⟨a, c, e, h, hc⟩ := arow_of hO rfl
  have hZ := Whole.fresh w 27 #[.int .u32 pa, .bool pb]
  exact ⟨a, c, e, Lib.hid ⟨h.below ((Below.refl _ w).alloc (Nat.le_refl _) _), hc⟩, bel_alloc hB _, hZ.cell 0, hZ.cell 1⟩
theorem fin_set {wo w : World} {B Z : Nat} {lv : Value} {l : List (Nat × Nat)} (pa : Nat) (pb : Bool) (hO : w.ownsRow B 42 3 lv l.length (accV l)) (hB : Below wo.heap.size wo w) (hz : Whole w Z 27 #[.int .u32 0, .bool false]) (hle : wo.heap.size ≤ Z) :
    ∃ a c, lv = .slice a l.length c ∧ Hid (ARow ((w.setCell ⟨Z, 0, none⟩ (.int .u32 pa)).setCell ⟨Z, 1, none⟩ (.bool pb)) a l ∧ l.length ≤ c) ∧ Below wo.heap.size wo ((w.setCell ⟨Z, 0, none⟩ (.int .u32 pa)).setCell ⟨Z, 1, none⟩ (.bool pb)) ∧
      ((w.setCell ⟨Z, 0, none⟩ (.int .u32 pa)).setCell ⟨Z, 1, none⟩ (.bool pb)).cell? ⟨Z, 0, none⟩ = some (.int .u32 pa) ∧ ((w.setCell ⟨Z, 0, none⟩ (.int .u32 pa)).setCell ⟨Z, 1, none⟩ (.bool pb)).cell? ⟨Z, 1, none⟩ = some (.bool pb) := by
  have hv := own_apart hO hz (by decide)
  obtain ⟨a, c, e, h, hc⟩ := arow_of (row_put (row_put hO (p := ⟨Z, 0, none⟩) hv (.int .u32 pa)) (p := ⟨Z, 1, none⟩) hv (.bool pb)) rfl
  have hZ := (hz.put 0 (.int .u32 pa)).put 1 (.bool pb)
  exact ⟨a, c, e, Lib.hid ⟨h, hc⟩, bel_set2 hB hle _ _, hZ.cell 0, hZ.cell 1⟩
end Go.Proofs.Ytkbieadebfpjdaa
