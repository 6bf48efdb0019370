/-
  What a region leaves that calls Run and keeps its answers.
-/
import Derived.Test.YtknlbmjncginnaaGreatDoorTGo
import Derived.Test.YtknlbmjncginnaaGreatDoorTMem
namespace Go.Proofs.YtknlbmjncginnaaGreatDoor
open Go.RowKit Go.Shelf
set_option maxRecDepth 100000
set_option maxHeartbeats 1000000
set_option linter.unusedVariables false

/-- Accesses that are read. -/
def ARow (w : World) (a : Option Addr) (l : List Ac) : Prop :=
  l = [] ∨ ∃ g, a = some ⟨g, 0, none⟩ ∧ (∃ cs, Whole w g 42 cs) ∧ ∀ i (h : i < l.length), w.cell? ⟨g, i * 3, none⟩ = some (.int .u8 (l[i].1 : Nat)) ∧ w.cell? ⟨g, i * 3 + 1, none⟩ = some (.int .u32 (l[i].2.1 : Nat)) ∧ w.cell? ⟨g, i * 3 + 2, none⟩ = some (.int .u8 (l[i].2.2 : Nat))
theorem accX_get : ∀ (l : List Ac) (i : Nat) (h : i < l.length), (accX l)[i * 3]? = some (.int .u8 (l[i].1 : Nat)) ∧ (accX l)[i * 3 + 1]? = some (.int .u32 (l[i].2.1 : Nat)) ∧ (accX l)[i * 3 + 2]? = some (.int .u8 (l[i].2.2 : Nat))
  | [], i, h => absurd h (Nat.not_lt_zero _)
  | x :: l, 0, _ => ⟨rfl, rfl, rfl⟩
  | x :: l, i + 1, h => by
    have ih := accX_get l i (Nat.lt_of_succ_lt_succ h)
    have e : accX (x :: l) = .int .u8 (x.1 : Nat) :: .int .u32 (x.2.1 : Nat) :: .int .u8 (x.2.2 : Nat) :: accX l := rfl
    rw [e, show (i + 1) * 3 = i * 3 + 3 by omega]
    simpa using ih
theorem arow_of {w : World} {B n : Nat} {lv : Value} {l : List Ac} (h : w.ownsRow B 42 3 lv n (accX l)) (hn : n = l.length) : ∃ a c, lv = .slice a l.length c ∧ ARow w a l ∧ l.length ≤ c := by
  subst hn
  rcases h.2 with ⟨rfl, h0⟩ | ⟨g, cap, cur, rfl, _, hw, h1, _⟩
  · exact ⟨none, 0, by rw [h0], .inl (List.eq_nil_of_length_eq_zero h0), by omega⟩
  · have hc := h.cells (g := g) rfl
    refine ⟨_, cap, rfl, .inr ⟨g, rfl, ⟨_, hw⟩, fun i hi => ?_⟩, h1⟩
    obtain ⟨a1, a2, a3⟩ := accX_get l i hi
    have k1 := hc _ _ a1
    have k2 := hc _ _ a2
    have k3 := hc _ _ a3
    rw [Addr.add_lit, Nat.zero_add] at k1 k2 k3
    exact ⟨k1, k2, k3⟩
theorem ARow.below {w w' : World} {a : Option Addr} {l : List Ac} (h : ARow w a l) (hb : Below w.heap.size w w') : ARow w' a l := by
  rcases h with h | ⟨g, rfl, ⟨ds, hw⟩, hc⟩
  · exact .inl h
  · refine .inr ⟨g, rfl, ⟨_, hw.below hb hw.lt⟩, fun i hi => ?_⟩
    obtain ⟨h1, h2, h3⟩ := hc i hi
    exact ⟨(hb.cell (p := ⟨g, i * 3, none⟩) hw.lt).trans h1, (hb.cell (p := ⟨g, i * 3 + 1, none⟩) hw.lt).trans h2, (hb.cell (p := ⟨g, i * 3 + 2, none⟩) hw.lt).trans h3⟩
theorem ARow.at_ {w : World} {g : Nat} {l : List Ac} (h : ARow w (some ⟨g, 0, none⟩) l) (i : Nat) (hi : i < l.length) : w.cell? ⟨g, i * 3, none⟩ = some (.int .u8 (l[i].1 : Nat)) ∧ w.cell? ⟨g, i * 3 + 1, none⟩ = some (.int .u32 (l[i].2.1 : Nat)) ∧ w.cell? ⟨g, i * 3 + 2, none⟩ = some (.int .u8 (l[i].2.2 : Nat)) := by
  rcases h with h | ⟨g', hg, _, hc⟩
  · rw [h] at hi; exact absurd hi (Nat.not_lt_zero _)
  · injection hg with hg
    injection hg with hg _
    subst hg
    exact hc i hi
theorem ARow.some {w : World} {a : Option Addr} {l : List Ac} (h : ARow w a l) (hl : l ≠ []) : ∃ g, a = Option.some ⟨g, 0, none⟩ := by
  rcases h with h | ⟨g, rfl, _⟩
  · exact absurd h hl
  · exact ⟨g, rfl⟩
theorem own_mono {w : World} {B B' n : Nat} {lv : Value} {xs : List Value} (h : w.ownsRow B 42 3 lv n xs) (hB : B' ≤ B) : w.ownsRow B' 42 3 lv n xs := by
  rcases h with ⟨h1, ⟨h2, h3⟩ | ⟨g, cap, cur, h2, h3, h4⟩⟩
  · exact ⟨h1, .inl ⟨h2, h3⟩⟩
  · exact ⟨h1, .inr ⟨g, cap, cur, h2, Nat.le_trans hB h3, h4⟩⟩
def pegZ : Array Value := #[.int .u8 0, .int .u8 0, .int .u8 0, .int .u8 0, .int .u8 0, .int .u16 0, .bool false]
def set7 (w : World) (Z : Nat) (r : Rp) : World := ((((((w.setCell ⟨Z, 0, none⟩ (.int .u8 (r.A : Nat))).setCell ⟨Z, 1, none⟩ (.int .u8 (r.X : Nat))).setCell ⟨Z, 2, none⟩ (.int .u8 (r.Y : Nat))).setCell ⟨Z, 3, none⟩ (.int .u8 (r.S : Nat))).setCell ⟨Z, 4, none⟩ (.int .u8 (r.P : Nat))).setCell ⟨Z, 5, none⟩ (.int .u16 (r.Pc : Nat))).setCell ⟨Z, 6, none⟩ (.bool r.H)
theorem bel_alloc {a w : World} (h : Below a.heap.size a w) (o : Obj) : Below a.heap.size a (w.alloc o) := h.alloc h.size o
theorem bel_set7 {a w : World} {n : Nat} (h : Below n a w) {Z : Nat} (hz : n ≤ Z) (r : Rp) : Below n a (set7 w Z r) :=
  ((((((h.setCell (p := ⟨Z, 0, none⟩) hz _).setCell (p := ⟨Z, 1, none⟩) hz _).setCell (p := ⟨Z, 2, none⟩) hz _).setCell (p := ⟨Z, 3, none⟩) hz _).setCell (p := ⟨Z, 4, none⟩) hz _).setCell (p := ⟨Z, 5, none⟩) hz _).setCell (p := ⟨Z, 6, none⟩) hz _
theorem whole_set7 {w : World} {Z : Nat} {r : Rp} (h : Whole w Z 24 pegZ) : Whole (set7 w Z r) Z 24 (pegC r) :=
  ((((((h.put 0 (.int .u8 (r.A : Nat))).put 1 (.int .u8 (r.X : Nat))).put 2 (.int .u8 (r.Y : Nat))).put 3 (.int .u8 (r.S : Nat))).put 4 (.int .u8 (r.P : Nat))).put 5 (.int .u16 (r.Pc : Nat))).put 6 (.bool r.H)
theorem row_set7 {w : World} {B n Z : Nat} {lv : Value} {xs : List Value} {cs : Array Value} (hO : w.ownsRow B 42 3 lv n xs) (hz : Whole w Z 24 cs) (r : Rp) : (set7 w Z r).ownsRow B 42 3 lv n xs := by
  have hv := own_apart hO hz (by decide)
  exact row_put (row_put (row_put (row_put (row_put (row_put (row_put hO (p := ⟨Z, 0, none⟩) hv _) (p := ⟨Z, 1, none⟩) hv _) (p := ⟨Z, 2, none⟩) hv _) (p := ⟨Z, 3, none⟩) hv _) (p := ⟨Z, 4, none⟩) hv _) (p := ⟨Z, 5, none⟩) hv _) (p := ⟨Z, 6, none⟩) hv _
theorem wh_after {wx w' : World} {cs : Array Value} {t : TypeId} (h : Below (wx.alloc (.cells cs t)).heap.size (wx.alloc (.cells cs t)) w') : Whole w' wx.heap.size t cs :=
  (Whole.fresh wx t cs).below h (Whole.fresh wx t cs).lt
theorem wh_after2 {wx w' : World} {cs : Array Value} {t : TypeId} (h : Below (wx.alloc (.cells cs t)).drew.heap.size (wx.alloc (.cells cs t)).drew w') : Whole w' wx.heap.size t cs :=
  (Whole.fresh wx t cs).drew.below h (Whole.fresh wx t cs).lt
theorem wh_zero {w : World} {g : Nat} (h : Whole w g 24 pegZ) : (w.frozen? ⟨g, 0, none⟩ = false ∧ w.frozen? ⟨g, 1, none⟩ = false ∧ w.frozen? ⟨g, 2, none⟩ = false ∧ w.frozen? ⟨g, 3, none⟩ = false ∧ w.frozen? ⟨g, 4, none⟩ = false ∧ w.frozen? ⟨g, 5, none⟩ = false ∧ w.frozen? ⟨g, 6, none⟩ = false) ∧
    w.cell? ⟨g, 0, none⟩ = some (.int .u8 0) ∧ w.cell? ⟨g, 1, none⟩ = some (.int .u8 0) ∧ w.cell? ⟨g, 2, none⟩ = some (.int .u8 0) ∧ w.cell? ⟨g, 3, none⟩ = some (.int .u8 0) ∧ w.cell? ⟨g, 4, none⟩ = some (.int .u8 0) ∧ w.cell? ⟨g, 5, none⟩ = some (.int .u16 0) ∧ w.cell? ⟨g, 6, none⟩ = some (.bool false) :=
  ⟨⟨h.free 0, h.free 1, h.free 2, h.free 3, h.free 4, h.free 5, h.free 6⟩, h.cell 0, h.cell 1, h.cell 2, h.cell 3, h.cell 4, h.cell 5, h.cell 6⟩
theorem row_alloc {w : World} {a : Option Addr} {n : Nat} {f : Nat → Nat} (h : Row w a n f) (o : Obj) : Row (w.alloc o) a n f := h.below ((Below.refl _ w).alloc (Nat.le_refl _) o)
theorem row_drewN {w : World} {a : Option Addr} {n : Nat} {f : Nat → Nat} (h : Row w a n f) (q : Nat) : Row (w.drewN q) a n f := h.below (below_drewN (Below.refl _ w) q)
theorem row_drew {w : World} {a : Option Addr} {n : Nat} {f : Nat → Nat} (h : Row w a n f) : Row w.drew a n f := row_drewN h 1
/-- What is left: the accesses are read, the registers stand in a variable. -/
def Left (wo : World) (W : World) (lv : Value) (l : List Ac) (Z : Nat) (r : Rp) : Prop :=
  ∃ a c, lv = .slice a l.length c ∧ Hid (ARow W a l ∧ l.length ≤ c) ∧ Below wo.heap.size wo W ∧ Whole W Z 24 (pegC r)
theorem left_set {wo w : World} {B Z : Nat} {lv : Value} {l : List Ac} (r : Rp) (hO : w.ownsRow B 42 3 lv l.length (accX l)) (hB : Below wo.heap.size wo w) (hz : Whole w Z 24 pegZ) (hle : wo.heap.size ≤ Z) : Left wo (set7 w Z r) lv l Z r := by
  obtain ⟨a, c, e, h, hc⟩ := arow_of (row_set7 hO hz r) rfl
  exact ⟨a, c, e, Lib.hid ⟨h, hc⟩, bel_set7 hB hle r, whole_set7 hz⟩
theorem left_alloc {wo w : World} {B : Nat} {lv : Value} {l : List Ac} (r : Rp) (hO : w.ownsRow B 42 3 lv l.length (accX l)) (hB : Below wo.heap.size wo w) : Left wo (w.alloc (.cells (pegC r) 24)) lv l w.heap.size r := by
  obtain ⟨a, c, e, h, hc⟩ := arow_of (hO.alloc (.cells (pegC r) 24)) rfl
  exact ⟨a, c, e, Lib.hid ⟨h, hc⟩, bel_alloc hB _, Whole.fresh w _ _⟩
end Go.Proofs.YtknlbmjncginnaaGreatDoor
