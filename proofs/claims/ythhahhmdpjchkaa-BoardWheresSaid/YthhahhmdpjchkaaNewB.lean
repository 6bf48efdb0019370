/-
  board.New: a board, or refused.
-/
import Derived.Test.YthhahhmdpjchkaaNew
namespace Go.Proofs.Ythhahhmdpjchkaa
open Go.RowKit Go.Shelf
set_option maxRecDepth 100000
set_option maxHeartbeats 1000000

/-- A cartridge, of which only the layout, the rom and the memory's size are looked at. -/
def cartCells (l : Nat) (rom : Value) (m : Int) : Array Value := #[.int .u8 l, .int .u8 0, rom, .int .i64 m, .string ⟨#[]⟩, .int .u16 0, .bool false, .slice none 0 0]
def cartV (l : Nat) (rom : Value) (m : Int) : Value := .agg (cartCells l rom m)
/-- May there be such a board? -/
def good (l n : Nat) (m : Int) : Prop := 1 ≤ l ∧ l ≤ 3 ∧ 1 ≤ n ∧ n ≤ 8388608 ∧ 0 ≤ m ∧ m ≤ 524288

theorem tableOf_ok (l : Nat) (w : World) (hl : 1 ≤ l ∧ l ≤ 3) :
    Calls Try.prog 32 #[.int .u8 l] w fun e w' => ∃ X, e = .returned (.tuple #[.agg (rowsOf l X), .bool true]) ∧ (l ≠ 1 → Whole w' X 3 #[.int .i64 (moreOf l : Nat)]) ∧ w.heap.size ≤ X ∧ Below w.heap.size w w' := by
  by_cases h1 : l = 1
  · subst h1
    refine (tableOf_lo w).mono ?_
    rintro e w' ⟨rfl, hB⟩
    exact ⟨w.heap.size, rfl, fun h => absurd rfl h, Nat.le_refl _, hB⟩
  · refine (tableOf_hi l w (by omega)).mono ?_
    rintro e w' ⟨X, rfl, hX, hl2, hB⟩
    refine ⟨X, ?_, fun _ => hX, hl2, hB⟩
    have : rowsOf l X = rowsOf 2 X := by simp [rowsOf, h1]
    rw [this]
theorem rowsOf_form (l X : Nat) : ∃ k1 k2 k3 k4 c4, rowsOf l X = #[.func (.func k1) #[] #[], .func (.func k2) #[] #[], .func (.func k3) #[] #[], .func (.func k4) #[] c4] := by
  unfold rowsOf
  split
  · exact ⟨_, _, _, _, _, rfl⟩
  · exact ⟨_, _, _, _, _, rfl⟩
/-- The cartridge in block D, the table in block T. -/
structure Two (W : World) (D T : Nat) (cs ts : Array Value) : Prop where
  c : Whole W D 60 cs
  t : Whole W T 72 ts
theorem Two.alloc {W : World} {D T : Nat} {cs ts : Array Value} (h : Two W D T cs ts) (o : Obj) : Two (W.alloc o) D T cs ts := ⟨h.c.alloc o, h.t.alloc o⟩
theorem Two.drew {W : World} {D T : Nat} {cs ts : Array Value} (h : Two W D T cs ts) : Two W.drew D T cs ts := ⟨h.c, h.t⟩
theorem Two.drewN {W : World} {D T : Nat} {cs ts : Array Value} (h : Two W D T cs ts) (q : Nat) : Two (W.drewN q) D T cs ts := ⟨h.c, h.t⟩
theorem Two.below {W W' : World} {D T : Nat} {cs ts : Array Value} (h : Two W D T cs ts) (hB : Below W.heap.size W W') : Two W' D T cs ts := ⟨h.c.below hB h.c.lt, h.t.below hB h.t.lt⟩
theorem Two.cells {W : World} {D T l : Nat} {r a b c d : Value} {m : Int} (h : Two W D T (cartCells l r m) #[a, b, c, d]) :
    W.cell? ⟨T, 0, none⟩ = some a ∧ W.cell? ⟨T, 1, none⟩ = some b ∧ W.cell? ⟨T, 2, none⟩ = some c ∧ W.cell? ⟨T, 3, none⟩ = some d ∧ W.cell? ⟨D, 2, none⟩ = some r ∧ W.cell? ⟨D, 3, none⟩ = some (.int .i64 m) :=
  ⟨h.t.cell 0, h.t.cell 1, h.t.cell 2, h.t.cell 3, h.c.cell 2, h.c.cell 3⟩
theorem Row.alloc {w : World} {a : Option Addr} {n : Nat} {f : Nat → Nat} (h : Row w a n f) (o : Obj) : Row (w.alloc o) a n f := h.below ((Below.refl _ _).alloc (Nat.le_refl _) _)
theorem Row.drew {w : World} {a : Option Addr} {n : Nat} {f : Nat → Nat} (h : Row w a n f) : Row w.drew a n f := h
theorem Row.drewN {w : World} {a : Option Addr} {n : Nat} {f : Nat → Nat} (h : Row w a n f) (q : Nat) : Row (w.drewN q) a n f := h
theorem brd_made {V : World} {b R M X l n cap m : Nat} {f : Nat → Nat} (hl : 1 ≤ l ∧ l ≤ 3) (n1 : 1 ≤ n) (n2 : n ≤ 8388608) (m2 : m ≤ 524288) (hb : Whole V b 74 (boardCells l X R n cap M m)) (hR : Holds V R n f)
    (hM : Whole V M 5 (madeCells #[Value.int .u8 0] m)) (hX : l ≠ 1 → Whole V X 3 #[.int .i64 (moreOf l : Nat)]) (h1 : b ≠ M) (h2 : R ≠ M) (h3 : l ≠ 1 → X ≠ M) : Brd V b R M X l n cap m f (fun _ => 0) :=
  ⟨hl, hb, hR, holds_of_made hM, hX, n1, n2, m2, h1, h2, h3⟩
theorem new_ok (l n cp m C : Nat) (f : Nat → Nat) (w : World) (h : Row w (some ⟨C, 0, none⟩) n f) (hl : 1 ≤ l ∧ l ≤ 3) (n1 : 1 ≤ n) (n2 : n ≤ 8388608) (m2 : m ≤ 524288) :
    Calls Try.prog 23 #[cartV l (.slice (some ⟨C, 0, none⟩) n cp) m] w fun e w' => ∃ b R M X cap, e = .returned (.tuple #[.pointer (some ⟨b, 0, none⟩), .int .i64 0]) ∧
      Brd w' b R M X l n cap m f (fun _ => 0) ∧ w.heap.size ≤ b ∧ w.heap.size ≤ R ∧ w.heap.size ≤ M ∧ w.heap.size ≤ X ∧ Below w.heap.size w w' := by
  have HT := Lib.hid (fun W => tableOf_ok l W hl)
  have hC := Lib.hid (fun W hW => clone_any C 0 n cp f W hW (by omega))
  have hmk := fun W => run_make_row' (P := Try.prog) 26 5 (.int .u8 0) 1 Try.underlying26 (by kernel_rfl) rfl .i64 .i64 m (by omega) (by omega) W
  have e1 : ((n : Int) == 0) = false := by rw [beq_eq_false_iff_ne]; omega
  have e2 : decide (8388608 < (n : Int)) = false := decide_eq_false (by omega)
  have e3 : decide (524288 < (m : Int)) = false := decide_eq_false (by omega)
  have hX := Whole.fresh w 60 (cartCells l (.slice (some ⟨C, 0, none⟩) n cp) m)
  have hB0 : Below w.heap.size w (w.alloc (.cells (cartCells l (.slice (some ⟨C, 0, none⟩) n cp) m) 60)) := (Below.refl _ w).alloc (Nat.le_refl _) _
  have N2 := Lib.hid n2
  have M2 := Lib.hid m2
  clear n2 m2
  unfold cartV
  unfold cartCells at hX hB0
  go_enter Try.func23, Try.ntmps23
  simp only [cartCells]
  go_wp2_with fail
  refine (HT.out _).mono ?_
  rintro e w1 ⟨X, rfl, hM, hXl, hB1⟩
  obtain ⟨k1, k2, k3, k4, c4, hr⟩ := rowsOf_form l X
  rw [hr]
  replace hr := Lib.hid hr
  have hT := Whole.fresh w1 72 #[.func (.func k1) #[] #[], .func (.func k2) #[] #[], .func (.func k3) #[] #[], .func (.func k4) #[] c4]
  have hX1 := (hX.below hB1 hX.lt).alloc (.cells #[.func (.func k1) #[] #[], .func (.func k2) #[] #[], .func (.func k3) #[] #[], .func (.func k4) #[] c4] 72)
  have hB2 := hB0.trans (hB1.mono (Nat.le_of_lt hX.lt))
  have hB3 := hB2.alloc hB2.size (.cells #[.func (.func k1) #[] #[], .func (.func k2) #[] #[], .func (.func k3) #[] #[], .func (.func k4) #[] c4] 72)
  have hs1 : (w.alloc (.cells #[.int .u8 l, .int .u8 0, .slice (some ⟨C, 0, none⟩) n cp, .int .i64 m, .string ⟨#[]⟩, .int .u16 0, .bool false, .slice none 0 0] 60)).heap.size = w.heap.size + 1 := by simp
  rw [hs1] at hXl
  clear hX hB0 hB1 hB2 HT hs1
  have xc := hX1.cell
  go_wp2_with fail
  have hTwo : Two (w1.alloc (.cells #[.func (.func k1) #[] #[], .func (.func k2) #[] #[], .func (.func k3) #[] #[], .func (.func k4) #[] c4] 72)) w.heap.size w1.heap.size (cartCells l (.slice (some ⟨C, 0, none⟩) n cp) m) #[.func (.func k1) #[] #[], .func (.func k2) #[] #[], .func (.func k3) #[] #[], .func (.func k4) #[] c4] := ⟨hX1, hT⟩
  have hR0 := h.below hB3
  have hM0 : l ≠ 1 → Whole (w1.alloc (.cells #[.func (.func k1) #[] #[], .func (.func k2) #[] #[], .func (.func k3) #[] #[], .func (.func k4) #[] c4] 72)) X 3 #[.int .i64 (moreOf l : Nat)] := fun e => (hM e).alloc _
  clear xc hT hX1 hM h
  generalize w1.alloc (.cells #[.func (.func k1) #[] #[], .func (.func k2) #[] #[], .func (.func k3) #[] #[], .func (.func k4) #[] c4] 72) = W0 at *
  generalize w1.heap.size = T at *
  obtain ⟨D, hD⟩ : ∃ D, w.heap.size = D := ⟨_, rfl⟩
  rw [hD] at hTwo ⊢
  have HTwo := Lib.hid hTwo
  have HR0 := Lib.hid hR0
  obtain ⟨z0, z1, z2, z3, z4, z5⟩ := hTwo.cells
  clear hTwo hR0
  go_region_held3 (fun W => W.cell? ⟨T, 0, none⟩ = some (.func (.func k1) #[] #[]) ∧ W.cell? ⟨T, 1, none⟩ = some (.func (.func k2) #[] #[]) ∧ W.cell? ⟨T, 2, none⟩ = some (.func (.func k3) #[] #[]) ∧ W.cell? ⟨T, 3, none⟩ = some (.func (.func k4) #[] c4) ∧ W.cell? ⟨D, 2, none⟩ = some (.slice (some ⟨C, 0, none⟩) n cp) ∧ W.cell? ⟨D, 3, none⟩ = some (.int .i64 m))
    (first | (refine Two.cells (l := l) (m := m) ?_; (repeat' (first | (with_reducible exact HTwo.out) | (with_reducible exact hTa) | (with_reducible refine Two.alloc ?_ _) | (with_reducible refine Two.drew ?_) | (with_reducible refine Two.drewN ?_ _))); done) | go_keep)
    (first
      | (go_at_call 29; (with_reducible refine (hC.out _ ?_).mono ?_); (repeat' (first | (with_reducible exact HR0.out) | (with_reducible refine Row.alloc ?_ _) | (with_reducible refine Row.drew ?_) | (with_reducible refine Row.drewN ?_ _))); rintro e W5 ⟨R, cap, rfl, hcap, hH5, hR5, hB5⟩; have hTa : Two W5 D T (cartCells l (.slice (some ⟨C, 0, none⟩) n cp) m) #[.func (.func k1) #[] #[], .func (.func k2) #[] #[], .func (.func k3) #[] #[], .func (.func k4) #[] c4] := Two.below (by (repeat' (first | (with_reducible exact HTwo.out) | (with_reducible refine Two.alloc ?_ _) | (with_reducible refine Two.drew ?_) | (with_reducible refine Two.drewN ?_ _)))) hB5))
  · have hW := Whole.fresh (W5.alloc (Obj.cells (madeCells #[Value.int IntKind.u8 0] m) 5)) 74 #[.func (.func k1) #[] #[], .func (.func k2) #[] #[], .func (.func k3) #[] #[], .func (.func k4) #[] c4, .slice (some ⟨R, 0, none⟩) n cap, .slice (some ⟨W5.heap.size, 0, none⟩) m m]
    rw [World.size_alloc] at hW
    have hlt := hH5.lt
    have s5 : W0.heap.size ≤ W5.heap.size := hB5.size
    have s3 := hB3.size
    have hBr := brd_made hl n1 N2.out M2.out (hW.as (by unfold boardCells; rw [hr.out]; rfl)) ((hH5.alloc _).alloc _) ((Whole.fresh W5 5 _).alloc _) (fun e => (((hM0 e).drew.below hB5 (hM0 e).drew.lt).alloc _).alloc _) (by omega) (by omega) (fun e => by have := (hM0 e).lt; omega)
    have hBe : Below w.heap.size w ((W5.alloc (Obj.cells (madeCells #[Value.int IntKind.u8 0] m) 5)).alloc (.cells #[.func (.func k1) #[] #[], .func (.func k2) #[] #[], .func (.func k3) #[] #[], .func (.func k4) #[] c4, .slice (some ⟨R, 0, none⟩) n cap, .slice (some ⟨W5.heap.size, 0, none⟩) m m] 74)) := ((hB3.drew.trans (hB5.mono s3)).alloc (by omega) _).alloc (by simp; omega) _
    have hRl : w.heap.size ≤ R := Nat.le_trans s3 hR5
    clear hC hmk HTwo HR0 z0 z1 z2 z3 z4 z5 hTa hW hM0
    go_wp2_with fail
    go_ret2
    exact ⟨W5.heap.size + 1, R, W5.heap.size, X, cap, rfl, hBr, by omega, hRl, by omega, by omega, hBe⟩
  · have hW := Whole.fresh W5 74 #[.func (.func k1) #[] #[], .func (.func k2) #[] #[], .func (.func k3) #[] #[], .func (.func k4) #[] c4, .slice (some ⟨R, 0, none⟩) n cap, .slice (some ⟨W0.heap.size, 0, none⟩) m m]
    have hlt := hH5.lt
    have s0 : (W0.alloc (Obj.cells (madeCells #[Value.int IntKind.u8 0] m) 5)).drew.heap.size = W0.heap.size + 1 := World.size_alloc _ _
    have s5 : W0.heap.size + 1 ≤ W5.heap.size := by rw [← s0]; exact hB5.size
    have s3 := hB3.size
    rw [s0] at hR5
    have hBr := brd_made hl n1 N2.out M2.out (hW.as (by unfold boardCells; rw [hr.out]; rfl)) (hH5.alloc _) ((((Whole.fresh W0 5 _).drew.below hB5 (Whole.fresh W0 5 _).drew.lt)).alloc _) (fun e => (((hM0 e).alloc _).drew.below hB5 ((hM0 e).alloc _).drew.lt).alloc _) (by omega) (by omega) (fun e => by have := (hM0 e).lt; omega)
    have hBe : Below w.heap.size w (W5.alloc (.cells #[.func (.func k1) #[] #[], .func (.func k2) #[] #[], .func (.func k3) #[] #[], .func (.func k4) #[] c4, .slice (some ⟨R, 0, none⟩) n cap, .slice (some ⟨W0.heap.size, 0, none⟩) m m] 74)) := (((hB3.alloc s3 _).drew.trans (hB5.mono (by rw [s0]; omega)))).alloc (by omega) _
    clear hC hmk HTwo HR0 z0 z1 z2 z3 z4 z5 hTa hW hM0 hB5
    go_wp2_with fail
    go_ret2
    exact ⟨W5.heap.size, R, W0.heap.size, X, cap, rfl, hBr, by omega, by omega, by omega, by omega, hBe⟩
end Go.Proofs.Ythhahhmdpjchkaa
