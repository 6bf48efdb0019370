/-
  NewReader.
-/
import Derived.Test.YtacnmnodbmbplaaOpened
namespace Go.Proofs.Ytacnmnodbmbplaa
open Go.RowKit Go.Shelf
set_option maxRecDepth 100000
set_option maxHeartbeats 1000000

theorem opened_all (g n c : Nat) (f : Nat → Nat) (w : World) (h : Row w (some ⟨g, 0, none⟩) n f) (hnc : n ≤ c) (hn : n ≤ 281474976710656) :
    Calls Try.prog 45 #[.slice (some ⟨g, 0, none⟩) n c] w fun e w' => w' = w ∧ ((openE n f ≠ 0 ∧ e = fault (openE n f)) ∨ (openE n f = 0 ∧ ∃ a c', e = .returned (.slice a (n - 13) c') ∧ Row w a (n - 13) (shiftF 13 f) ∧ a ≠ none)) := by
  by_cases hc : c = 13
  · subst hc
    exact opened_13 g n f w h hnc hn
  · exact opened_any g n c f w h hnc hc hn
theorem openE_n {n : Nat} {f : Nat → Nat} (h : openE n f = 0) : 13 ≤ n ∧ n - 13 ≤ 16777216 := by
  unfold openE at h
  by_cases h1 : n < 13
  · rw [if_pos h1] at h; cases h
  rw [if_neg h1] at h
  refine ⟨by omega, ?_⟩
  by_cases h2 : 16777216 < n - 13
  · exfalso
    rw [if_pos h2] at h
    repeat' split at h
    all_goals cases h
  · omega
/-- A reader's cells. -/
def readerCells (v : Value) (at_ : Nat) (ends : Nat → Nat) (op : Nat) : Array Value := #[v, .int .i64 at_,
  .int .i64 (ends 0 : Nat), .int .i64 (ends 1 : Nat), .int .i64 (ends 2 : Nat), .int .i64 (ends 3 : Nat), .int .i64 (ends 4 : Nat), .int .i64 (ends 5 : Nat), .int .i64 (ends 6 : Nat), .int .i64 (ends 7 : Nat),
  .int .i64 (ends 8 : Nat), .int .i64 (ends 9 : Nat), .int .i64 (ends 10 : Nat), .int .i64 (ends 11 : Nat), .int .i64 (ends 12 : Nat), .int .i64 (ends 13 : Nat), .int .i64 (ends 14 : Nat), .int .i64 (ends 15 : Nat), .int .i64 op]
def readerNew (v : Value) : Array Value := #[v, .int .i64 0, .int .i64 0, .int .i64 0, .int .i64 0, .int .i64 0, .int .i64 0, .int .i64 0, .int .i64 0, .int .i64 0, .int .i64 0, .int .i64 0, .int .i64 0, .int .i64 0, .int .i64 0, .int .i64 0, .int .i64 0, .int .i64 0, .int .i64 0]
theorem readerNew_eq (v : Value) : readerNew v = readerCells v 0 (fun _ => 0) 0 := rfl
theorem reader1_no {p0 p1 g n c : Nat} {f : Nat → Nat} (w : World) (h : Row w (some ⟨g, 0, none⟩) n f) (hnc : n ≤ c) (hn : n ≤ 281474976710656) (q0 : w.cell? ⟨p0, 0, none⟩ = some (.slice (some ⟨g, 0, none⟩) n c)) (hE : openE n f ≠ 0) :
    Calls Try.prog 43 #[.pointer (some ⟨p0, 0, none⟩), .pointer (some ⟨p1, 0, none⟩)] w fun e w' => e = fault (openE n f) ∧ w' = w := by
  have HO := opened_all g n c f w h hnc hn
  generalize openE n f = E at *
  replace HO := Lib.hid HO
  replace hE := Lib.hid hE
  clear h hnc hn
  go_enter Try.func43, Try.ntmps43
  go_wp2_with fail
  refine HO.out.mono ?_
  rintro e w' ⟨rfl, (⟨_, rfl⟩ | ⟨h0, _⟩)⟩
  · unfold fault
    go_wp2_with fail
    exact ⟨rfl, by rfl, rfl⟩
  · exact absurd h0 hE.out
theorem reader1_ok {p0 p1 g n c : Nat} {f : Nat → Nat} (w : World) (h : Row w (some ⟨g, 0, none⟩) n f) (hnc : n ≤ c) (hn : n ≤ 281474976710656) (q0 : w.cell? ⟨p0, 0, none⟩ = some (.slice (some ⟨g, 0, none⟩) n c)) (q1 : Whole w p1 44 #[.pointer none]) (hE : openE n f = 0) :
    Calls Try.prog 43 #[.pointer (some ⟨p0, 0, none⟩), .pointer (some ⟨p1, 0, none⟩)] w fun e w' => e = .returned (.tuple #[]) ∧
      ∃ R v, Whole w' p1 44 #[.pointer (some ⟨R, 0, none⟩)] ∧ Whole w' R 79 (readerCells v 0 (fun _ => 0) 0) ∧ Owns w' v (n - 13) (shiftF 13 f) ∧ (∀ x, v.ownBlock = some x → w.heap.size ≤ x ∧ x ≠ R) ∧ w.heap.size ≤ R ∧ w.grownBy w' (some p1) := by
  have HO := Lib.hid (opened_all g n c f w h hnc hn)
  have hb := (openE_n hE).2
  replace hE := Lib.hid hE
  have hl1 := q1.lt
  replace hn := Lib.hid hn
  replace hnc := Lib.hid hnc
  clear h
  go_enter Try.func43, Try.ntmps43
  go_wp2_with fail
  refine HO.out.mono ?_
  rintro e w' ⟨rfl, (⟨h0, _⟩ | ⟨_, a, c', rfl, hR, ha⟩)⟩
  · exact absurd hE.out h0
  have HC := Lib.hid (clone_any a (n - 13) c' _ w' hR (by omega) (fun e => absurd e ha))
  clear HO hR ha
  replace hb := Lib.hid hb
  go_wp2_with fail
  refine HC.out.mono ?_
  rintro e w2 ⟨v, rfl, hOw, hv, hB⟩
  clear HC
  obtain ⟨a2, c2, rfl, hR2⟩ := hOw.row
  have hB3 := hB.alloc hB.size (.cells (readerNew (.slice a2 (n - 13) c2)) 79)
  have hRd := Whole.fresh w2 79 (readerNew (.slice a2 (n - 13) c2))
  have hO3 := hOw.below (Below.alloc (Below.refl w2.heap.size w2) (Nat.le_refl _) (.cells (readerNew (.slice a2 (n - 13) c2)) 79))
  have hq3 := q1.below hB3 hl1
  have hws := hB.size
  have hol := hOw.lt
  obtain ⟨W, hW⟩ : ∃ W, W = w2.alloc (.cells (readerNew (.slice a2 (n - 13) c2)) 79) := ⟨_, rfl⟩
  rw [← hW] at hB3 hRd hO3 hq3
  unfold readerNew at hW
  have c1 := hq3.cell 0
  have f1 := hq3.free 0
  simp only [List.getElem?_toArray, List.getElem?_cons_zero] at c1
  rw [hW] at c1 f1
  clear hOw hR2 hB q0 q1
  replace hB3 := Lib.hid hB3
  replace hRd := Lib.hid hRd
  replace hO3 := Lib.hid hO3
  replace hq3 := Lib.hid hq3
  replace hW := Lib.hid hW
  go_wp2_with fail
  rw [← hW.out]
  go_end0
  have hR2 : w2.heap.size ≠ p1 := by omega
  have hvx : (Value.slice a2 (n - 13) c2).ownBlock ≠ some p1 := fun e => by have := hv _ e; omega
  refine ⟨rfl, w2.heap.size, _, hq3.out.put 0 _, (hRd.out.away (p := ⟨p1, 0, none⟩) hR2 _).as (readerNew_eq _), hO3.out.away hvx 0 _, fun x hx => ⟨hv x hx, by have := hol x hx; omega⟩, hws, only_set (Below.only hB3.out p1) 0 _⟩
theorem newReader_no {g n c : Nat} {f : Nat → Nat} (w : World) (h : Row w (some ⟨g, 0, none⟩) n f) (hnc : n ≤ c) (hn : n ≤ 281474976710656) (hE : openE n f ≠ 0) :
    Calls Try.prog 19 #[.slice (some ⟨g, 0, none⟩) n c] w fun e w' => e = .returned (.tuple #[.pointer none, .int .i64 (openE n f : Nat)]) ∧ Below w.heap.size w w' := by
  have hmf := makeF
  have hP := (Whole.fresh w 25 #[.slice (some ⟨g, 0, none⟩) n c]).alloc (.cells #[.pointer none] 44)
  have hS := Whole.fresh (w.alloc (.cells #[.slice (some ⟨g, 0, none⟩) n c] 25)) 44 #[.pointer none]
  have hB := ((Below.refl w.heap.size w).alloc (Nat.le_refl _) (.cells #[.slice (some ⟨g, 0, none⟩) n c] 25)).alloc (by simp) (.cells #[.pointer none] 44)
  have hR0 := Lib.hid (h.below hB)
  have hd := Lib.hid (fun W (hW : Row W (some ⟨g, 0, none⟩) n f) p0 p1 q0 => reader1_no (p0 := p0) (p1 := p1) W hW hnc hn q0 hE)
  generalize openE n f = E at *
  clear h hnc hn
  go_enter Try.func19, Try.ntmps19
  go_wp2_with fail
  generalize (w.alloc (.cells #[.slice (some ⟨g, 0, none⟩) n c] 25)).alloc (.cells #[.pointer none] 44) = W at *
  have hs1 : (w.alloc (.cells #[.slice (some ⟨g, 0, none⟩) n c] 25)).heap.size = w.heap.size + 1 := by simp
  rw [hs1] at hS
  have hPl := hP.lt
  have hSl := hS.lt
  refine (attempt_any (k := 43) W (fun _ => False) (fun c V => c = (E : Int) ∧ Below (W.heap.size + 1) (W.alloc (.cells #[.int .i64 0] 27)) V) (enters_of Try.func43 (by kernel_rfl) rfl)
    ((hd.out _ (hR0.out.below ((Below.refl _ W).alloc (Nat.le_refl _) _)) _ _ (by rw [(hP.alloc _).cell 0]; rfl)).mono ?_)).mono ?_
  · rintro e w' ⟨rfl, rfl⟩
    exact ⟨Whole.fresh W _ _, .inr ⟨E, rfl, rfl, Below.refl _ _⟩⟩
  rintro e w' (⟨_, V, hF, _⟩ | ⟨c, V, rfl, ⟨rfl, hb⟩, rfl⟩)
  · exact hF.elim
  have hbs : W.heap.size + 1 ≤ V.heap.size := by have := hb.size; simp at this; omega
  have hS2 := (((hS.alloc (.cells #[.int .i64 0] 27)).below hb (by omega)).alloc (.cells #[.int .i64 (E : Nat)] 101)).away (p := ⟨W.heap.size, 0, none⟩) (by simp; omega) (.int .i64 (E : Nat))
  have hB2 := (((hB.alloc (by omega) (.cells #[.int .i64 0] 27)).trans (hb.mono (by omega))).alloc (by omega) (.cells #[.int .i64 (E : Nat)] 101)).setCell (p := ⟨W.heap.size, 0, none⟩) (by simp; omega) (.int .i64 (E : Nat))
  have h0 := hS2.cell 0
  simp only [List.getElem?_toArray, List.getElem?_cons_zero] at h0
  generalize (V.alloc (.cells #[.int .i64 (E : Nat)] 101)).setCell ⟨W.heap.size, 0, none⟩ (.int .i64 (E : Nat)) = W2 at *
  clear hmf hP hS hB hs1 hS2 hd hR0 hb
  go_wp2_with fail
  go_ret2
  exact ⟨rfl, hB2⟩
theorem newReader_ok {g n c : Nat} {f : Nat → Nat} (w : World) (h : Row w (some ⟨g, 0, none⟩) n f) (hnc : n ≤ c) (hn : n ≤ 281474976710656) (hE : openE n f = 0) :
    Calls Try.prog 19 #[.slice (some ⟨g, 0, none⟩) n c] w fun e w' => ∃ R v, e = .returned (.tuple #[.pointer (some ⟨R, 0, none⟩), .int .i64 0]) ∧
      Whole w' R 79 (readerCells v 0 (fun _ => 0) 0) ∧ Owns w' v (n - 13) (shiftF 13 f) ∧ (∀ x, v.ownBlock = some x → w.heap.size ≤ x ∧ x ≠ R) ∧ w.heap.size ≤ R ∧ Below w.heap.size w w' := by
  have hmf := makeF
  have hP := (Whole.fresh w 25 #[.slice (some ⟨g, 0, none⟩) n c]).alloc (.cells #[.pointer none] 44)
  have hS := Whole.fresh (w.alloc (.cells #[.slice (some ⟨g, 0, none⟩) n c] 25)) 44 #[.pointer none]
  have hB := ((Below.refl w.heap.size w).alloc (Nat.le_refl _) (.cells #[.slice (some ⟨g, 0, none⟩) n c] 25)).alloc (by simp) (.cells #[.pointer none] 44)
  have hR0 := Lib.hid (h.below hB)
  have hd := Lib.hid (fun W (hW : Row W (some ⟨g, 0, none⟩) n f) p0 p1 q0 q1 => reader1_ok (p0 := p0) (p1 := p1) W hW hnc hn q0 q1 hE)
  clear h hnc hn hE
  go_enter Try.func19, Try.ntmps19
  go_wp2_with fail
  generalize (w.alloc (.cells #[.slice (some ⟨g, 0, none⟩) n c] 25)).alloc (.cells #[.pointer none] 44) = W at *
  have hs1 : (w.alloc (.cells #[.slice (some ⟨g, 0, none⟩) n c] 25)).heap.size = w.heap.size + 1 := by simp
  rw [hs1] at hS
  have hPl := hP.lt
  have hSl := hS.lt
  refine (attempt_any (k := 43) W (fun V => ∃ R v, Whole V (w.heap.size + 1) 44 #[.pointer (some ⟨R, 0, none⟩)] ∧ Whole V R 79 (readerCells v 0 (fun _ => 0) 0) ∧ Owns V v (n - 13) (shiftF 13 f) ∧ (∀ x, v.ownBlock = some x → W.heap.size + 1 ≤ x ∧ x ≠ R) ∧ W.heap.size + 1 ≤ R ∧ Below w.heap.size w V)
    (fun c V => False) (enters_of Try.func43 (by kernel_rfl) rfl)
    ((hd.out _ (hR0.out.below ((Below.refl _ W).alloc (Nat.le_refl _) _)) w.heap.size (w.heap.size + 1) (by rw [(hP.alloc _).cell 0]; rfl) (hS.alloc _)).mono ?_)).mono ?_
  · rintro e w' ⟨rfl, R, v, h1, h2, h3, h4, h5, h6⟩
    rw [World.size_alloc] at h4 h5
    refine ⟨(Whole.fresh W _ _).only h6 (by omega), .inl ⟨rfl, R, v, h1, h2, h3, h4, h5, ?_⟩⟩
    exact (hB.alloc (by omega) (.cells #[.int .i64 0] 27)).trans (Below.mono (below_grown h6 (by simp; omega)) (by omega))
  rintro e w' (⟨rfl, V, ⟨R, v, h1, h2, h3, h4, h5, h6⟩, rfl⟩ | ⟨_, V, _, hF, _⟩)
  · have h7 := h1.away (p := ⟨W.heap.size, 0, none⟩) (by simp; omega) (.int .i64 0)
    have h8 := h2.away (p := ⟨W.heap.size, 0, none⟩) (by simp; omega) (.int .i64 0)
    have h9 := h3.away (x := W.heap.size) (fun e => by have := (h4 _ e).1; omega) 0 (.int .i64 0)
    have hB2 := h6.setCell (p := ⟨W.heap.size, 0, none⟩) (by simp; omega) (.int .i64 0)
    have h0 := h7.cell 0
    simp only [List.getElem?_toArray, List.getElem?_cons_zero] at h0
    generalize V.setCell ⟨W.heap.size, 0, none⟩ (.int .i64 0) = W2 at *
    have hGl : w.heap.size ≤ R := by omega
    have h10 : ∀ x, v.ownBlock = some x → w.heap.size ≤ x ∧ x ≠ R := fun x hx => ⟨by have := (h4 x hx).1; omega, (h4 x hx).2⟩
    replace h8 := Lib.hid h8
    replace h10 := Lib.hid h10
    clear hmf hP hS hB hs1 hd hR0 h1 h2 h3 h4 h5 h6 h7
    go_wp2_with fail
    go_ret2
    exact ⟨R, v, rfl, h8.out, h9, h10.out, hGl, hB2⟩
  · exact hF.elim
end Go.Proofs.Ytacnmnodbmbplaa
