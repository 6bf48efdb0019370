/-
  Score: by the code, and by the document.
-/
import Derived.Test.YtggjaoihfhianaaDoorScore
import Derived.Test.YtggjaoihfhianaaDoorRLook
namespace Go.Proofs.YtggjaoihfhianaaDoor
open Go.RowKit Go.Shelf
set_option maxRecDepth 100000
set_option maxHeartbeats 1000000

theorem score_any (t : ByteArray) (mode kind rs check sum reset l : Nat) (w : World) (hl : l < 256) (ht : t.size ≤ 9223372036854775807) (hm : mode < 256) :
    Calls Tryd.prog 16 #[cardA t mode kind rs check sum reset, .int .u8 l] w fun e w' => e = .returned (.int .i64 (scoreV t mode check sum reset l)) ∧ Below w.heap.size w w' := by
  unfold cardA
  go_enter Tryd.func16, Tryd.ntmps16
  go_wp2_with fail
  have hX := Whole.fresh w 39 #[.string t, .int .u8 mode, .int .u8 kind, .int .u8 rs, .int .u16 check, .int .u16 sum, .int .u16 reset]
  have hB0 : Below w.heap.size w (w.alloc (Obj.cells #[.string t, .int .u8 mode, .int .u8 kind, .int .u8 rs, .int .u16 check, .int .u16 sum, .int .u16 reset] 39)) := (Below.refl _ w).alloc (Nat.le_refl _) _
  generalize (w.alloc (Obj.cells #[.string t, .int .u8 mode, .int .u8 kind, .int .u8 rs, .int .u16 check, .int .u16 sum, .int .u16 reset] 39)) = W0 at hX hB0 ⊢
  refine (planOf_any l W0 hl).mono ?_
  rintro e w1 (⟨hl1, hl3, M, rfl, hM, hMb, hB1⟩ | ⟨hno, rfl, hB1⟩)
  · have hX1 := hX.below hB1 hX.lt
    have hB := hB0.trans (hB1.mono hB0.size)
    have hPS := Lib.hid (fun W (hW : Whole W M 5 (modesOf l)) => pscore_any t mode kind rs check sum reset l M W ⟨hl1, hl3⟩ ht hm hW)
    unfold planV cardA at hPS
    unfold planV
    generalize (posOf l : Nat) = P at *
    generalize modeLen l = ml at *
    clear hX hB0 hB1 hMb
    have hX2 := hX1.alloc (Obj.cells #[Value.int .u8 l, Value.int .i64 P, Value.slice (some ⟨M, 0, none⟩) ml ml] 61)
    have hM2 := hM.alloc (Obj.cells #[Value.int .u8 l, Value.int .i64 P, Value.slice (some ⟨M, 0, none⟩) ml ml] 61)
    have hB2 := hB.alloc hB.size (Obj.cells #[Value.int .u8 l, Value.int .i64 P, Value.slice (some ⟨M, 0, none⟩) ml ml] 61)
    have y0 := hX2.cell 0
    have y1 := hX2.cell 1
    have y2 := hX2.cell 2
    have y3 := hX2.cell 3
    have y4 := hX2.cell 4
    have y5 := hX2.cell 5
    have y6 := hX2.cell 6
    clear hX1 hM hB
    go_wp2_with fail
    refine (hPS.out _ hM2).mono ?_
    rintro e w2 ⟨rfl, hB3⟩
    go_wp2_with fail
    go_ret
    exact ⟨rfl, hB2.trans (hB3.mono hB2.size)⟩
  · have hv : scoreV t mode check sum reset l = 0 := by unfold scoreV; rw [if_pos hno]
    replace hv := Lib.hid hv
    go_wp2_with fail
    go_ret
    exact ⟨by rw [hv.out]; rfl, (hB0.trans (hB1.mono hB0.size)).alloc (hB0.trans (hB1.mono hB0.size)).size _⟩

theorem rlook_any (l n cap : Nat) (a : Option Addr) (f : Nat → Nat) (w : World) (hl : l < 256) (hn : n ≤ 8392704) (hcap : n ≤ cap) (h : Row w a n f) :
    Calls Tryd.prog 14 #[.slice a n cap, .int .u8 l] w fun e w' => e = .returned (lookV l n f) ∧ Below w.heap.size w w' := by
  have HA := at_any l
  by_cases h13 : 1 ≤ l ∧ l ≤ 3
  · by_cases hr : n < posOf l + 64
    · have hv : lookV l n f = .tuple #[zeroCard, .int .i64 5] := by unfold lookV; rw [if_neg (by omega), if_pos hr]
      simp only [if_pos h13] at HA
      have hP := posOf_le l
      generalize posOf l = P at *
      replace hv := Lib.hid hv
      have HA := Lib.hid (fun W => HA W hl)
      have i0 : ¬ ((P : Int) + 64 ≤ n) := by omega
      go_enter Tryd.func14, Tryd.ntmps14
      go_wp2_with fail
      have hX3 := Whole.fresh w 39 #[Value.string { data := #[] }, Value.int IntKind.u8 0, Value.int IntKind.u8 0, Value.int IntKind.u8 0, Value.int IntKind.u16 0, Value.int IntKind.u16 0, Value.int IntKind.u16 0]
      have hB4 : Below w.heap.size w (w.alloc (Obj.cells #[Value.string { data := #[] }, Value.int IntKind.u8 0, Value.int IntKind.u8 0, Value.int IntKind.u8 0, Value.int IntKind.u16 0, Value.int IntKind.u16 0, Value.int IntKind.u16 0] 39)) := (Below.refl _ w).alloc (Nat.le_refl _) _
      generalize (w.alloc (Obj.cells #[Value.string { data := #[] }, Value.int IntKind.u8 0, Value.int IntKind.u8 0, Value.int IntKind.u8 0, Value.int IntKind.u16 0, Value.int IntKind.u16 0, Value.int IntKind.u16 0] 39)) = W0 at hX3 hB4 ⊢
      refine (HA.out W0).mono ?_
      rintro e w1 ⟨rfl, rfl⟩
      have fz := hX3.free
      have y0 := hX3.cell 0
      have y1 := hX3.cell 1
      have y2 := hX3.cell 2
      have y3 := hX3.cell 3
      have y4 := hX3.cell 4
      have y5 := hX3.cell 5
      have y6 := hX3.cell 6
      go_wp2_with fail
      refine bodyPost_ret (results_pair (fn := Tryd.f14) (p := 4) (u := 5) (ty := 39) rfl _ _ w.heap.size _ _ _ ?_ (((((((hX3.put 0 _).put 1 _).put 2 _).put 3 _).put 4 _).put 5 _).put 6 _) Tryd.underlying39 rfl ?_) ?_ ⟨?_, ?_⟩
      · rfl
      · kernel_rfl
      · rfl
      · rw [hv.out]
        rfl
      · exact (((((((hB4).setCell (p := ⟨w.heap.size, 0, none⟩) (Nat.le_refl _) _).setCell (p := ⟨w.heap.size, 1, none⟩) (Nat.le_refl _) _).setCell (p := ⟨w.heap.size, 2, none⟩) (Nat.le_refl _) _).setCell (p := ⟨w.heap.size, 3, none⟩) (Nat.le_refl _) _).setCell (p := ⟨w.heap.size, 4, none⟩) (Nat.le_refl _) _).setCell (p := ⟨w.heap.size, 5, none⟩) (Nat.le_refl _) _).setCell (p := ⟨w.heap.size, 6, none⟩) (Nat.le_refl _) _
    · have hv : lookV l n f = .tuple #[cardV (at' f (posOf l)), .int .i64 0] := by unfold lookV; rw [if_neg (by omega), if_neg hr]
      rw [hv]
      simp only [if_pos h13] at HA
      rcases h.2 with h0 | ⟨b, o, rfl, hbl, hc⟩
      · omega
      · exact rlookP_any l (posOf l) n cap b o f w hn (posOf_le l) (Lib.hid (fun W => HA W hl)) (by omega) hcap hbl h.1 hc
  · have hv : lookV l n f = .tuple #[zeroCard, .int .i64 2] := by unfold lookV; rw [if_pos h13]
    simp only [if_neg h13] at HA
    replace hv := Lib.hid hv
    have HA := Lib.hid (fun W => HA W hl)
    go_enter Tryd.func14, Tryd.ntmps14
    go_wp2_with fail
    have hX3 := Whole.fresh w 39 #[Value.string { data := #[] }, Value.int IntKind.u8 0, Value.int IntKind.u8 0, Value.int IntKind.u8 0, Value.int IntKind.u16 0, Value.int IntKind.u16 0, Value.int IntKind.u16 0]
    have hB4 : Below w.heap.size w (w.alloc (Obj.cells #[Value.string { data := #[] }, Value.int IntKind.u8 0, Value.int IntKind.u8 0, Value.int IntKind.u8 0, Value.int IntKind.u16 0, Value.int IntKind.u16 0, Value.int IntKind.u16 0] 39)) := (Below.refl _ w).alloc (Nat.le_refl _) _
    generalize (w.alloc (Obj.cells #[Value.string { data := #[] }, Value.int IntKind.u8 0, Value.int IntKind.u8 0, Value.int IntKind.u8 0, Value.int IntKind.u16 0, Value.int IntKind.u16 0, Value.int IntKind.u16 0] 39)) = W0 at hX3 hB4 ⊢
    refine (HA.out W0).mono ?_
    rintro e w1 ⟨rfl, rfl⟩
    have fz := hX3.free
    have y0 := hX3.cell 0
    have y1 := hX3.cell 1
    have y2 := hX3.cell 2
    have y3 := hX3.cell 3
    have y4 := hX3.cell 4
    have y5 := hX3.cell 5
    have y6 := hX3.cell 6
    go_wp2_with fail
    refine bodyPost_ret (results_pair (fn := Tryd.f14) (p := 4) (u := 5) (ty := 39) rfl _ _ w.heap.size _ _ _ ?_ (((((((hX3.put 0 _).put 1 _).put 2 _).put 3 _).put 4 _).put 5 _).put 6 _) Tryd.underlying39 rfl ?_) ?_ ⟨?_, ?_⟩
    · rfl
    · kernel_rfl
    · rfl
    · rw [hv.out]
      rfl
    · exact (((((((hB4).setCell (p := ⟨w.heap.size, 0, none⟩) (Nat.le_refl _) _).setCell (p := ⟨w.heap.size, 1, none⟩) (Nat.le_refl _) _).setCell (p := ⟨w.heap.size, 2, none⟩) (Nat.le_refl _) _).setCell (p := ⟨w.heap.size, 3, none⟩) (Nat.le_refl _) _).setCell (p := ⟨w.heap.size, 4, none⟩) (Nat.le_refl _) _).setCell (p := ⟨w.heap.size, 5, none⟩) (Nat.le_refl _) _).setCell (p := ⟨w.heap.size, 6, none⟩) (Nat.le_refl _) _
end Go.Proofs.YtggjaoihfhianaaDoor
