/-
  Read, by the document: too few bytes or too many.
-/
import Derived.Test.YtggjaoihfhianaaDoorRReadH
import Derived.Lib.QuietBelow
import Derived.Deep.DeepCutAuto
import Derived.Deep.CutBlock
namespace Go.Proofs.YtggjaoihfhianaaDoor
open Go.RowKit Go.Shelf Go.Sort
set_option maxRecDepth 100000
set_option maxHeartbeats 40000000
theorem rreadOut_any (b o n c sl sc : Nat) (sa : Option Addr) (f : Nat → Nat) (w : World) (hc : n ≤ c) (hr : Row w (some ⟨b, o, none⟩) n f) (hbad : n - headN n < 32768 ∨ 8388608 < n - headN n) :
    Calls Tryd.prog 8 #[.slice (some ⟨b, o, none⟩) n c, .slice sa sl sc] w fun e w' => ∃ bR oR, (∃ cR, e = .returned (.tuple #[pick (readE (n - headN n) (at2 f (headN n)) sl = 0) (readV (n - headN n) (at2 f (headN n)) (.slice (some ⟨bR, oR, none⟩) (n - headN n) cR) (pick (chipN (gotG (n - headN n) (at2 f (headN n)) 22) = 1) (.slice sa sl sc) (.slice none 0 0))) zeroCart, .int .i64 (readE (n - headN n) (at2 f (headN n)) sl)])) ∧ Below w.heap.size w w' ∧
      ∀ W, Below w.heap.size w W → Row W (some ⟨bR, oR, none⟩) (n - headN n) (at2 f (headN n)) := by
  have hRow : ∀ p, p ≤ n → ∀ W, Below w.heap.size w W → Row W (some ⟨b, o + p, none⟩) (n - p) (at2 f p) := fun p hp W hW => (hr.below hW).from p hp
  have hhn : headN n ≤ n := by unfold headN; split <;> omega
  have hR0 := hRow (headN n) hhn
  have hcase : (n % 1024 = 512 ∧ headN n = 512) ∨ (¬ n % 1024 = 512 ∧ headN n = 0) := by
    unfold headN
    by_cases h : n % 1024 = 512
    · exact .inl ⟨h, if_pos h⟩
    · exact .inr ⟨h, if_neg h⟩
  generalize headN n = hd at *
  generalize at2 f hd = g at *
  generalize hmm : n - hd = m at *
  have hEv : readE m g sl = if m < 32768 then 30 else 31 := by
    unfold readE
    by_cases h : m < 32768
    · rw [if_pos h, if_pos h]
    · rw [if_neg h, if_pos (by omega), if_neg h]
  generalize readV m g = V at *
  generalize chipN (gotG m g 22) = ch at *
  generalize readE m g sl = E at *
  unfold zeroCart
  replace hEv := Lib.hid hEv
  have HN := Lib.hid (And.intro hcase (And.intro hmm hc))
  have HR0 := Lib.hid hR0
  replace hbad := Lib.hid hbad
  clear hcase hmm hc hR0 hRow hhn hr
  by_cases i3 : c = 512
  · subst i3
    go_enter Tryd.func8, Tryd.ntmps8
    go_upto_if 21 with (fail)
    have hX0 := Whole.fresh w 29 #[Value.int IntKind.u8 0, Value.int IntKind.u8 0, Value.slice none 0 0, Value.int IntKind.i64 0, Value.string { data := #[] }, Value.int IntKind.u16 0, Value.bool false, Value.slice none 0 0]
    have hB0 : Below w.heap.size w (w.alloc (Obj.cells #[Value.int IntKind.u8 0, Value.int IntKind.u8 0, Value.slice none 0 0, Value.int IntKind.i64 0, Value.string { data := #[] }, Value.int IntKind.u16 0, Value.bool false, Value.slice none 0 0] 29)) := (Below.refl _ w).alloc (Nat.le_refl _) _
    generalize (w.alloc (Obj.cells #[Value.int IntKind.u8 0, Value.int IntKind.u8 0, Value.slice none 0 0, Value.int IntKind.i64 0, Value.string { data := #[] }, Value.int IntKind.u16 0, Value.bool false, Value.slice none 0 0] 29)) = W0 at hX0 hB0 ⊢
    go_cut [6] (fun s6 wx => wx = W0 ∧ ∃ bR oR cR, s6 = .slice (some ⟨bR, oR, none⟩) m cR ∧ Hid (∀ W, Below w.heap.size w W → Row W (some ⟨bR, oR, none⟩) m g))
    case first =>
      obtain ⟨hcase, hmm, hc⟩ := HN.out
      rcases hcase with ⟨h1, h2⟩ | ⟨h1, h2⟩
      · have e1 : ((n : Int) % 1024 == 512) = true := by rw [beq_iff_eq]; omega
        have i1 : (512 : Int) ≤ n := by omega
        have i2 : (n : Int) ≤ 512 := by omega
        subst h2
        have h3 : Hid (m = 0) := Lib.hid (by omega)
        replace hmm := Lib.hid hmm
        clear h1 hc
        go_wp2_with fail
        go_meet
        exact ⟨rfl, b, o, 0, by rw [hmm.out, h3.out], Lib.hid (fun W _ => by rw [h3.out]; exact Row.nil _ _ _)⟩
      · have e1 : ((n : Int) % 1024 == 512) = false := by rw [beq_eq_false_iff_ne]; omega
        subst h2
        have h3 : Hid (n = m) := Lib.hid (by omega)
        clear h1 hmm hc
        go_wp2_with fail
        go_meet
        exact ⟨rfl, b, o + 0, 512, by rw [h3.out]; rfl, HR0⟩
    case rest =>
    obtain ⟨rfl, bR, oR, cR, rfl, HR⟩ := hcut
    clear HN HR0
    have hX := hX0
    have hB := hB0
    clear hX0 hB0
    by_cases hs : m < 32768
    · have hE := Lib.hid (hEv.out.trans (if_pos hs))
      have d1 : decide ((m : Int) < 32768) = true := decide_eq_true (by omega)
      clear hs
      have fz := hX.free
      have y0 := hX.cell 0
      have y1 := hX.cell 1
      have y2 := hX.cell 2
      have y3 := hX.cell 3
      have y4 := hX.cell 4
      have y5 := hX.cell 5
      have y6 := hX.cell 6
      have y7 := hX.cell 7
      go_wp2_with fail
      refine bodyPost_ret (results_pair (fn := Tryd.f8) (p := 4) (u := 5) (ty := 29) rfl _ _ w.heap.size _ _ _ ?_ ((((((((hX.put 0 _).put 1 _).put 2 _).put 3 _).put 4 _).put 5 _).put 6 _).put 7 _) Tryd.underlying29 rfl ?_) ?_ ⟨bR, oR, ⟨cR, ?_⟩, ((((((((hB.setCell (p := ⟨w.heap.size, 0, none⟩) (Nat.le_refl _) _).setCell (p := ⟨w.heap.size, 1, none⟩) (Nat.le_refl _) _).setCell (p := ⟨w.heap.size, 2, none⟩) (Nat.le_refl _) _).setCell (p := ⟨w.heap.size, 3, none⟩) (Nat.le_refl _) _).setCell (p := ⟨w.heap.size, 4, none⟩) (Nat.le_refl _) _).setCell (p := ⟨w.heap.size, 5, none⟩) (Nat.le_refl _) _).setCell (p := ⟨w.heap.size, 6, none⟩) (Nat.le_refl _) _).setCell (p := ⟨w.heap.size, 7, none⟩) (Nat.le_refl _) _), HR.out⟩
      · rfl
      · kernel_rfl
      · rfl
      · rw [hE.out]
        rfl
    · have hE := Lib.hid (hEv.out.trans (if_neg hs))
      have d1 : decide ((m : Int) < 32768) = false := decide_eq_false (by omega)
      have d2 : decide ((8388608 : Int) < (m : Int)) = true := decide_eq_true (by have := hbad.out; omega)
      clear hs
      have fz := hX.free
      have y0 := hX.cell 0
      have y1 := hX.cell 1
      have y2 := hX.cell 2
      have y3 := hX.cell 3
      have y4 := hX.cell 4
      have y5 := hX.cell 5
      have y6 := hX.cell 6
      have y7 := hX.cell 7
      go_wp2_with fail
      refine bodyPost_ret (results_pair (fn := Tryd.f8) (p := 4) (u := 5) (ty := 29) rfl _ _ w.heap.size _ _ _ ?_ ((((((((hX.put 0 _).put 1 _).put 2 _).put 3 _).put 4 _).put 5 _).put 6 _).put 7 _) Tryd.underlying29 rfl ?_) ?_ ⟨bR, oR, ⟨cR, ?_⟩, ((((((((hB.setCell (p := ⟨w.heap.size, 0, none⟩) (Nat.le_refl _) _).setCell (p := ⟨w.heap.size, 1, none⟩) (Nat.le_refl _) _).setCell (p := ⟨w.heap.size, 2, none⟩) (Nat.le_refl _) _).setCell (p := ⟨w.heap.size, 3, none⟩) (Nat.le_refl _) _).setCell (p := ⟨w.heap.size, 4, none⟩) (Nat.le_refl _) _).setCell (p := ⟨w.heap.size, 5, none⟩) (Nat.le_refl _) _).setCell (p := ⟨w.heap.size, 6, none⟩) (Nat.le_refl _) _).setCell (p := ⟨w.heap.size, 7, none⟩) (Nat.le_refl _) _), HR.out⟩
      · rfl
      · kernel_rfl
      · rfl
      · rw [hE.out]
        rfl
  · skip
    go_enter Tryd.func8, Tryd.ntmps8
    go_upto_if 21 with (fail)
    have hX0 := Whole.fresh w 29 #[Value.int IntKind.u8 0, Value.int IntKind.u8 0, Value.slice none 0 0, Value.int IntKind.i64 0, Value.string { data := #[] }, Value.int IntKind.u16 0, Value.bool false, Value.slice none 0 0]
    have hB0 : Below w.heap.size w (w.alloc (Obj.cells #[Value.int IntKind.u8 0, Value.int IntKind.u8 0, Value.slice none 0 0, Value.int IntKind.i64 0, Value.string { data := #[] }, Value.int IntKind.u16 0, Value.bool false, Value.slice none 0 0] 29)) := (Below.refl _ w).alloc (Nat.le_refl _) _
    generalize (w.alloc (Obj.cells #[Value.int IntKind.u8 0, Value.int IntKind.u8 0, Value.slice none 0 0, Value.int IntKind.i64 0, Value.string { data := #[] }, Value.int IntKind.u16 0, Value.bool false, Value.slice none 0 0] 29)) = W0 at hX0 hB0 ⊢
    go_cut [6] (fun s6 wx => wx = W0 ∧ ∃ bR oR cR, s6 = .slice (some ⟨bR, oR, none⟩) m cR ∧ Hid (∀ W, Below w.heap.size w W → Row W (some ⟨bR, oR, none⟩) m g))
    case first =>
      obtain ⟨hcase, hmm, hc⟩ := HN.out
      rcases hcase with ⟨h1, h2⟩ | ⟨h1, h2⟩
      · have e1 : ((n : Int) % 1024 == 512) = true := by rw [beq_iff_eq]; omega
        have i1 : (512 : Int) ≤ n := by omega
        have i2 : (n : Int) ≤ c := by omega
        subst h2
        replace hmm := Lib.hid hmm
        clear h1 hc
        go_wp2_with fail
        go_meet
        exact ⟨rfl, b, o + 512, c - 512, by rw [hmm.out], HR0⟩
      · have e1 : ((n : Int) % 1024 == 512) = false := by rw [beq_eq_false_iff_ne]; omega
        subst h2
        have h3 : Hid (n = m) := Lib.hid (by omega)
        clear h1 hmm hc
        go_wp2_with fail
        go_meet
        exact ⟨rfl, b, o + 0, c, by rw [h3.out]; rfl, HR0⟩
    case rest =>
    obtain ⟨rfl, bR, oR, cR, rfl, HR⟩ := hcut
    clear HN HR0
    have hX := hX0
    have hB := hB0
    clear hX0 hB0
    by_cases hs : m < 32768
    · have hE := Lib.hid (hEv.out.trans (if_pos hs))
      have d1 : decide ((m : Int) < 32768) = true := decide_eq_true (by omega)
      clear hs
      have fz := hX.free
      have y0 := hX.cell 0
      have y1 := hX.cell 1
      have y2 := hX.cell 2
      have y3 := hX.cell 3
      have y4 := hX.cell 4
      have y5 := hX.cell 5
      have y6 := hX.cell 6
      have y7 := hX.cell 7
      go_wp2_with fail
      refine bodyPost_ret (results_pair (fn := Tryd.f8) (p := 4) (u := 5) (ty := 29) rfl _ _ w.heap.size _ _ _ ?_ ((((((((hX.put 0 _).put 1 _).put 2 _).put 3 _).put 4 _).put 5 _).put 6 _).put 7 _) Tryd.underlying29 rfl ?_) ?_ ⟨bR, oR, ⟨cR, ?_⟩, ((((((((hB.setCell (p := ⟨w.heap.size, 0, none⟩) (Nat.le_refl _) _).setCell (p := ⟨w.heap.size, 1, none⟩) (Nat.le_refl _) _).setCell (p := ⟨w.heap.size, 2, none⟩) (Nat.le_refl _) _).setCell (p := ⟨w.heap.size, 3, none⟩) (Nat.le_refl _) _).setCell (p := ⟨w.heap.size, 4, none⟩) (Nat.le_refl _) _).setCell (p := ⟨w.heap.size, 5, none⟩) (Nat.le_refl _) _).setCell (p := ⟨w.heap.size, 6, none⟩) (Nat.le_refl _) _).setCell (p := ⟨w.heap.size, 7, none⟩) (Nat.le_refl _) _), HR.out⟩
      · rfl
      · kernel_rfl
      · rfl
      · rw [hE.out]
        rfl
    · have hE := Lib.hid (hEv.out.trans (if_neg hs))
      have d1 : decide ((m : Int) < 32768) = false := decide_eq_false (by omega)
      have d2 : decide ((8388608 : Int) < (m : Int)) = true := decide_eq_true (by have := hbad.out; omega)
      clear hs
      have fz := hX.free
      have y0 := hX.cell 0
      have y1 := hX.cell 1
      have y2 := hX.cell 2
      have y3 := hX.cell 3
      have y4 := hX.cell 4
      have y5 := hX.cell 5
      have y6 := hX.cell 6
      have y7 := hX.cell 7
      go_wp2_with fail
      refine bodyPost_ret (results_pair (fn := Tryd.f8) (p := 4) (u := 5) (ty := 29) rfl _ _ w.heap.size _ _ _ ?_ ((((((((hX.put 0 _).put 1 _).put 2 _).put 3 _).put 4 _).put 5 _).put 6 _).put 7 _) Tryd.underlying29 rfl ?_) ?_ ⟨bR, oR, ⟨cR, ?_⟩, ((((((((hB.setCell (p := ⟨w.heap.size, 0, none⟩) (Nat.le_refl _) _).setCell (p := ⟨w.heap.size, 1, none⟩) (Nat.le_refl _) _).setCell (p := ⟨w.heap.size, 2, none⟩) (Nat.le_refl _) _).setCell (p := ⟨w.heap.size, 3, none⟩) (Nat.le_refl _) _).setCell (p := ⟨w.heap.size, 4, none⟩) (Nat.le_refl _) _).setCell (p := ⟨w.heap.size, 5, none⟩) (Nat.le_refl _) _).setCell (p := ⟨w.heap.size, 6, none⟩) (Nat.le_refl _) _).setCell (p := ⟨w.heap.size, 7, none⟩) (Nat.le_refl _) _), HR.out⟩
      · rfl
      · kernel_rfl
      · rfl
      · rw [hE.out]
        rfl
end Go.Proofs.YtggjaoihfhianaaDoor
