/-
  Look: the card at a layout's place.
-/
import Derived.Test.YtggjaoihfhianaaDoorLook
namespace Go.Proofs.YtggjaoihfhianaaDoor
open Go.RowKit Go.Shelf
set_option maxRecDepth 100000
set_option maxHeartbeats 1000000

def zeroCard : Value := .agg #[.string ⟨#[]⟩, .int .u8 0, .int .u8 0, .int .u8 0, .int .u16 0, .int .u16 0, .int .u16 0]
def at' (f : Nat → Nat) (p : Nat) : Nat → Nat := fun i => f (p + i)
/-- What Look answers of n bytes f. -/
def lookV (l n : Nat) (f : Nat → Nat) : Value :=
  if ¬ (1 ≤ l ∧ l ≤ 3) then .tuple #[zeroCard, .int .i64 2] else if n < posOf l + 64 then .tuple #[zeroCard, .int .i64 5] else .tuple #[cardV (at' f (posOf l)), .int .i64 0]
theorem posOf_le (l : Nat) : posOf l ≤ 4259776 := by unfold posOf; split <;> (try split) <;> omega
theorem modeLen_le (l : Nat) : modeLen l ≤ 2 := by unfold modeLen; split <;> omega
theorem Row.card {w : World} {b o n P : Nat} {f : Nat → Nat} (h : Row w (some ⟨b, o, none⟩) n f) (hn : P + 64 ≤ n) : Card64 w b (o + P) (at' f P) ∧ (∀ i, i < 64 → at' f P i < 256) ∧ b < w.heap.size := by
  rcases h with ⟨h0, h1 | ⟨b', o', e, hb, hc⟩⟩
  · omega
  · injection e with e
    injection e with e1 e2
    subst e1 e2
    exact ⟨fun i hi => by have := hc (P + i) (by omega); rw [← Nat.add_assoc] at this; exact this, fun i hi => h0 (P + i) (by omega), hb⟩

theorem look_any (l n cap : Nat) (a : Option Addr) (f : Nat → Nat) (w : World) (hl : l < 256) (hcap : n ≤ cap) (h : Row w a n f) :
    Calls Tryd.prog 15 #[.slice a n cap, .int .u8 l] w fun e w' => e = .returned (lookV l n f) ∧ Below w.heap.size w w' := by
  go_enter Tryd.func15, Tryd.ntmps15
  go_wp2_with fail
  have hX := Whole.fresh w 39 #[Value.string { data := #[] }, Value.int IntKind.u8 0, Value.int IntKind.u8 0, Value.int IntKind.u8 0, Value.int IntKind.u16 0, Value.int IntKind.u16 0, Value.int IntKind.u16 0]
  have hB0 : Below w.heap.size w (w.alloc (Obj.cells #[Value.string { data := #[] }, Value.int IntKind.u8 0, Value.int IntKind.u8 0, Value.int IntKind.u8 0, Value.int IntKind.u16 0, Value.int IntKind.u16 0, Value.int IntKind.u16 0] 39)) := (Below.refl _ w).alloc (Nat.le_refl _) _
  generalize (w.alloc (Obj.cells #[Value.string { data := #[] }, Value.int IntKind.u8 0, Value.int IntKind.u8 0, Value.int IntKind.u8 0, Value.int IntKind.u16 0, Value.int IntKind.u16 0, Value.int IntKind.u16 0] 39)) = W0 at hX hB0 ⊢
  refine (planOf_any l W0 hl).mono ?_
  rintro e w1 (⟨hl1, hl3, M, rfl, hM, hMb, hB1⟩ | ⟨hno, rfl, hB1⟩)
  · have hX1 := hX.below hB1 hX.lt
    have hB := hB0.trans (hB1.mono hB0.size)
    have hWi := fun W => within_any l (posOf l) n (some ⟨M, 0, none⟩) (modeLen l) (modeLen l) W (posOf_le l)
    have hP := posOf_le l
    have hv : lookV l n f = if n < posOf l + 64 then .tuple #[zeroCard, .int .i64 5] else .tuple #[cardV (at' f (posOf l)), .int .i64 0] := by unfold lookV; rw [if_neg (by omega)]
    unfold planV
    have hcd : posOf l + 64 ≤ n → ∃ b o, a = some ⟨b, o, none⟩ ∧ ∀ W, Below w.heap.size w W → Card64 W b (o + posOf l) (at' f (posOf l)) ∧ (∀ i, i < 64 → at' f (posOf l) i < 256) ∧ b < W.heap.size := by
      intro hn2
      rcases h.2 with h0 | ⟨b, o, rfl, _⟩
      · omega
      · exact ⟨b, o, rfl, fun W hW => (h.below hW).card hn2⟩
    generalize posOf l = P at *
    generalize modeLen l = m at *
    replace hv := Lib.hid hv
    replace hcd := Lib.hid hcd
    clear hX hB0 hB1 hM hMb h
    by_cases hr : n < P + 64
    · have hd : decide (P + 64 ≤ n) = false := decide_eq_false (by omega)
      rw [hd] at hWi
      replace hWi := Lib.hid hWi
      go_wp2_with fail
      have hX2 := hX1.alloc (Obj.cells #[Value.int .u8 l, Value.int .i64 P, Value.slice (some ⟨M, 0, none⟩) m m] 61)
      have hB2 := hB.alloc hB.size (Obj.cells #[Value.int .u8 l, Value.int .i64 P, Value.slice (some ⟨M, 0, none⟩) m m] 61)
      generalize (w1.alloc (Obj.cells #[Value.int .u8 l, Value.int .i64 P, Value.slice (some ⟨M, 0, none⟩) m m] 61)) = W1 at hX2 hB2 ⊢
      refine (hWi.out W1).mono ?_
      rintro e w2 ⟨rfl, hB3⟩
      have hX3 := hX2.below hB3 hX2.lt
      have hB4 := hB2.trans (hB3.mono hB2.size)
      clear hX2 hB2 hB3 hX1 hB
      have fz := hX3.free
      have y0 := hX3.cell 0
      have y1 := hX3.cell 1
      have y2 := hX3.cell 2
      have y3 := hX3.cell 3
      have y4 := hX3.cell 4
      have y5 := hX3.cell 5
      have y6 := hX3.cell 6
      go_wp2_with fail
      refine bodyPost_ret (results_pair (fn := Tryd.f15) (p := 4) (u := 5) (ty := 39) rfl _ _ w.heap.size _ _ _ ?_ (((((((hX3.put 0 _).put 1 _).put 2 _).put 3 _).put 4 _).put 5 _).put 6 _) Tryd.underlying39 rfl ?_) ?_ ⟨?_, ?_⟩
      · rfl
      · kernel_rfl
      · rfl
      · rw [hv.out]
        try rw [if_pos hr]
        rfl
      · exact (((((((hB4).setCell (p := ⟨w.heap.size, 0, none⟩) (Nat.le_refl _) _).setCell (p := ⟨w.heap.size, 1, none⟩) (Nat.le_refl _) _).setCell (p := ⟨w.heap.size, 2, none⟩) (Nat.le_refl _) _).setCell (p := ⟨w.heap.size, 3, none⟩) (Nat.le_refl _) _).setCell (p := ⟨w.heap.size, 4, none⟩) (Nat.le_refl _) _).setCell (p := ⟨w.heap.size, 5, none⟩) (Nat.le_refl _) _).setCell (p := ⟨w.heap.size, 6, none⟩) (Nat.le_refl _) _
    · have hd : decide (P + 64 ≤ n) = true := decide_eq_true (by omega)
      rw [hd] at hWi
      replace hWi := Lib.hid hWi
      obtain ⟨b, o, rfl, hcc⟩ := hcd.out (by omega)
      replace hcc := Lib.hid hcc
      have i1 : (P : Int) + 64 ≤ n := by omega
      have i2 : (n : Int) ≤ cap := by omega
      go_wp2_with fail
      have hX2 := hX1.alloc (Obj.cells #[Value.int .u8 l, Value.int .i64 P, Value.slice (some ⟨M, 0, none⟩) m m] 61)
      have hQ2 := Whole.fresh w1 61 #[Value.int .u8 l, Value.int .i64 P, Value.slice (some ⟨M, 0, none⟩) m m]
      have hB2 := hB.alloc hB.size (Obj.cells #[Value.int .u8 l, Value.int .i64 P, Value.slice (some ⟨M, 0, none⟩) m m] 61)
      generalize (w1.alloc (Obj.cells #[Value.int .u8 l, Value.int .i64 P, Value.slice (some ⟨M, 0, none⟩) m m] 61)) = W1 at hX2 hQ2 hB2 ⊢
      refine (hWi.out W1).mono ?_
      rintro e w2 ⟨rfl, hB3⟩
      have hX3 := hX2.below hB3 hX2.lt
      have hQ3 := hQ2.below hB3 hQ2.lt
      have hB4 := hB2.trans (hB3.mono hB2.size)
      clear hX2 hB2 hB3 hX1 hB hQ2
      have q1 := hQ3.cell 1
      go_wp2_with fail
      obtain ⟨hc1, hc2, hc3⟩ := hcc.out w2 hB4
      refine (cardOf_any b (o + P) (cap - P) (at' f P) w2 (by omega) hc1 hc2 hc3).mono ?_
      rintro e w3 ⟨rfl, hB5⟩
      unfold cardV
      have hX4 := hX3.below hB5 hX3.lt
      have hB6 := hB4.trans (hB5.mono hB4.size)
      clear hX3 hB4 hB5 hQ3 q1 hc1 hc2 hc3 hcc hcd
      have hX3 := hX4
      have hB4 := hB6
      clear hX4 hB6
      have fz := hX3.free
      have y0 := hX3.cell 0
      have y1 := hX3.cell 1
      have y2 := hX3.cell 2
      have y3 := hX3.cell 3
      have y4 := hX3.cell 4
      have y5 := hX3.cell 5
      have y6 := hX3.cell 6
      go_wp2_with fail
      refine bodyPost_ret (results_pair (fn := Tryd.f15) (p := 4) (u := 5) (ty := 39) rfl _ _ w.heap.size _ _ _ ?_ (((((((hX3.put 0 _).put 1 _).put 2 _).put 3 _).put 4 _).put 5 _).put 6 _) Tryd.underlying39 rfl ?_) ?_ ⟨?_, ?_⟩
      · rfl
      · kernel_rfl
      · rfl
      · rw [hv.out]
        try rw [if_neg hr]
        rfl
      · exact (((((((hB4).setCell (p := ⟨w.heap.size, 0, none⟩) (Nat.le_refl _) _).setCell (p := ⟨w.heap.size, 1, none⟩) (Nat.le_refl _) _).setCell (p := ⟨w.heap.size, 2, none⟩) (Nat.le_refl _) _).setCell (p := ⟨w.heap.size, 3, none⟩) (Nat.le_refl _) _).setCell (p := ⟨w.heap.size, 4, none⟩) (Nat.le_refl _) _).setCell (p := ⟨w.heap.size, 5, none⟩) (Nat.le_refl _) _).setCell (p := ⟨w.heap.size, 6, none⟩) (Nat.le_refl _) _
  · have hX1 := hX.below hB1 hX.lt
    have hB := hB0.trans (hB1.mono hB0.size)
    have hv : lookV l n f = .tuple #[zeroCard, .int .i64 2] := by unfold lookV; rw [if_pos hno]
    replace hv := Lib.hid hv
    have hX3 := hX1.alloc (Obj.cells #[Value.int .u8 0, Value.int .i64 0, Value.slice none 0 0] 61)
    have hB4 := hB.alloc hB.size (Obj.cells #[Value.int .u8 0, Value.int .i64 0, Value.slice none 0 0] 61)
    clear hX hB0 hB1 hX1 hB
    have fz := hX3.free
    have y0 := hX3.cell 0
    have y1 := hX3.cell 1
    have y2 := hX3.cell 2
    have y3 := hX3.cell 3
    have y4 := hX3.cell 4
    have y5 := hX3.cell 5
    have y6 := hX3.cell 6
    go_wp2_with fail
    refine bodyPost_ret (results_pair (fn := Tryd.f15) (p := 4) (u := 5) (ty := 39) rfl _ _ w.heap.size _ _ _ ?_ (((((((hX3.put 0 _).put 1 _).put 2 _).put 3 _).put 4 _).put 5 _).put 6 _) Tryd.underlying39 rfl ?_) ?_ ⟨?_, ?_⟩
    · rfl
    · kernel_rfl
    · rfl
    · rw [hv.out]
      try rw [if_pos hr]
      rfl
    · exact (((((((hB4).setCell (p := ⟨w.heap.size, 0, none⟩) (Nat.le_refl _) _).setCell (p := ⟨w.heap.size, 1, none⟩) (Nat.le_refl _) _).setCell (p := ⟨w.heap.size, 2, none⟩) (Nat.le_refl _) _).setCell (p := ⟨w.heap.size, 3, none⟩) (Nat.le_refl _) _).setCell (p := ⟨w.heap.size, 4, none⟩) (Nat.le_refl _) _).setCell (p := ⟨w.heap.size, 5, none⟩) (Nat.le_refl _) _).setCell (p := ⟨w.heap.size, 6, none⟩) (Nat.le_refl _) _
end Go.Proofs.YtggjaoihfhianaaDoor
