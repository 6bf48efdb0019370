/-
  Read, by the code: what is refused.
-/
import Derived.Test.YtggjaoihfhianaaDoorReadV
namespace Go.Proofs.YtggjaoihfhianaaDoor
open Go.RowKit Go.Shelf
set_option maxRecDepth 100000
set_option maxHeartbeats 4000000

theorem readBad_any (b o n c sl sc : Nat) (sa : Option Addr) (f : Nat → Nat) (w : World) (hn : n ≤ 8392704) (hc : n ≤ c) (hr : Row w (some ⟨b, o, none⟩) n f) (hE : readE (n - headN n) (at2 f (headN n)) sl ≠ 0) :
    Calls Tryd.prog 10 #[.slice (some ⟨b, o, none⟩) n c, .slice sa sl sc] w fun e w' => e = .returned (.tuple #[zeroCart, .int .i64 (readE (n - headN n) (at2 f (headN n)) sl)]) ∧ Below w.heap.size w w' := by
  have hB0 : Below w.heap.size w (w.alloc (Obj.cells #[Value.int IntKind.u8 0, Value.int IntKind.u8 0, Value.slice none 0 0, Value.int IntKind.i64 0, Value.string { data := #[] }, Value.int IntKind.u16 0, Value.bool false, Value.slice none 0 0] 29)) := (Below.refl _ w).alloc (Nat.le_refl _) _
  have HH := Lib.hid (fun W (hW : Below w.heap.size w W) => head_any b o n c f W hc (hr.below hW))
  have hm : n - headN n ≤ 8392704 := by omega
  generalize at2 f (headN n) = g at *
  generalize n - headN n = m at *
  obtain ⟨E, hEv⟩ : ∃ E, readE m g sl = E := ⟨_, rfl⟩
  rw [hEv] at hE ⊢
  clear hr
  go_enter Tryd.func10, Tryd.ntmps10
  go_wp2_with fail
  have hX := Whole.fresh w 29 #[Value.int IntKind.u8 0, Value.int IntKind.u8 0, Value.slice none 0 0, Value.int IntKind.i64 0, Value.string { data := #[] }, Value.int IntKind.u16 0, Value.bool false, Value.slice none 0 0]
  generalize (w.alloc (Obj.cells #[Value.int IntKind.u8 0, Value.int IntKind.u8 0, Value.slice none 0 0, Value.int IntKind.i64 0, Value.string { data := #[] }, Value.int IntKind.u16 0, Value.bool false, Value.slice none 0 0] 29)) = W0 at hB0 hX ⊢
  refine (HH.out W0 hB0).mono ?_
  rintro e w1 ⟨⟨b', o', c', hc', hrow, rfl⟩, rfl⟩
  clear HH
  replace hm := Lib.hid hm
  by_cases h1 : (m : Int) < 32768
  · have hv : E = 30 := by rw [← hEv]; unfold readE; rw [if_pos (by omega)]
    subst hv
    clear hEv hE
    have hX3 := hX
    have hB4 := hB0
    clear hX hB0 hrow
    have fz := hX3.free
    have y0 := hX3.cell 0
    have y1 := hX3.cell 1
    have y2 := hX3.cell 2
    have y3 := hX3.cell 3
    have y4 := hX3.cell 4
    have y5 := hX3.cell 5
    have y6 := hX3.cell 6
    have y7 := hX3.cell 7
    go_wp2_with fail
    refine bodyPost_ret (results_pair (fn := Tryd.f10) (p := 4) (u := 5) (ty := 29) rfl _ _ w.heap.size _ _ _ ?_ ((((((((hX3.put 0 _).put 1 _).put 2 _).put 3 _).put 4 _).put 5 _).put 6 _).put 7 _) Tryd.underlying29 rfl ?_) ?_ ?_
    · rfl
    · kernel_rfl
    · rfl
    · exact ⟨rfl, ((((((((hB4.setCell (p := ⟨w.heap.size, 0, none⟩) (Nat.le_refl _) _).setCell (p := ⟨w.heap.size, 1, none⟩) (Nat.le_refl _) _).setCell (p := ⟨w.heap.size, 2, none⟩) (Nat.le_refl _) _).setCell (p := ⟨w.heap.size, 3, none⟩) (Nat.le_refl _) _).setCell (p := ⟨w.heap.size, 4, none⟩) (Nat.le_refl _) _).setCell (p := ⟨w.heap.size, 5, none⟩) (Nat.le_refl _) _).setCell (p := ⟨w.heap.size, 6, none⟩) (Nat.le_refl _) _).setCell (p := ⟨w.heap.size, 7, none⟩) (Nat.le_refl _) _)⟩
  have d1 : decide ((m : Int) < 32768) = false := decide_eq_false h1
  have hm1 := Lib.hid h1
  clear h1
  by_cases h2 : (8388608 : Int) < (m : Int)
  · have hv : E = 31 := by rw [← hEv]; unfold readE; have := hm1.out; rw [if_neg (by omega), if_pos (by omega)]
    have d2 : decide ((8388608 : Int) < (m : Int)) = true := decide_eq_true h2
    clear h2
    subst hv
    clear hEv hE
    have hX3 := hX
    have hB4 := hB0
    clear hX hB0 hrow
    have fz := hX3.free
    have y0 := hX3.cell 0
    have y1 := hX3.cell 1
    have y2 := hX3.cell 2
    have y3 := hX3.cell 3
    have y4 := hX3.cell 4
    have y5 := hX3.cell 5
    have y6 := hX3.cell 6
    have y7 := hX3.cell 7
    go_wp2_with fail
    refine bodyPost_ret (results_pair (fn := Tryd.f10) (p := 4) (u := 5) (ty := 29) rfl _ _ w.heap.size _ _ _ ?_ ((((((((hX3.put 0 _).put 1 _).put 2 _).put 3 _).put 4 _).put 5 _).put 6 _).put 7 _) Tryd.underlying29 rfl ?_) ?_ ?_
    · rfl
    · kernel_rfl
    · rfl
    · exact ⟨rfl, ((((((((hB4.setCell (p := ⟨w.heap.size, 0, none⟩) (Nat.le_refl _) _).setCell (p := ⟨w.heap.size, 1, none⟩) (Nat.le_refl _) _).setCell (p := ⟨w.heap.size, 2, none⟩) (Nat.le_refl _) _).setCell (p := ⟨w.heap.size, 3, none⟩) (Nat.le_refl _) _).setCell (p := ⟨w.heap.size, 4, none⟩) (Nat.le_refl _) _).setCell (p := ⟨w.heap.size, 5, none⟩) (Nat.le_refl _) _).setCell (p := ⟨w.heap.size, 6, none⟩) (Nat.le_refl _) _).setCell (p := ⟨w.heap.size, 7, none⟩) (Nat.le_refl _) _)⟩
  have d2 : decide ((8388608 : Int) < (m : Int)) = false := decide_eq_false h2
  have h1 := hm1.out
  obtain ⟨hl1, hl3, hpos⟩ := bestN_in m g (by omega)
  have hb64 : ∀ i, i < 64 → gotG m g i < 256 := fun i hi => hrow.1 (posOf (bestN m g) + i) (by omega)
  have HBt := Lib.hid (best_any m c' (some ⟨b', o', none⟩) g w1 hc' hrow (by omega))
  have HCh := Lib.hid (fun W => chipOf_any (gotG m g 22) W (hb64 22 (by decide)))
  have HRm := Lib.hid (fun W => ramOf_any (gotG m g 24) W (hb64 24 (by decide)))
  have hEv2 : E = if chipN (gotG m g 22) = 255 then 32 else if 9 < gotG m g 24 then 33 else if chipN (gotG m g 22) = 1 ∧ sl ≠ 8192 then 34 else 0 := by rw [← hEv]; unfold readE; rw [if_neg (by omega), if_neg (by omega)]
  replace hEv := Lib.hid hEv2
  clear hEv2 hrow hpos hl1 hl3 hb64 h1 h2
  rw [show at' g (posOf (bestN m g)) = gotG m g from rfl] at HBt
  unfold cardV at HBt
  generalize titleS (gotG m g) = tt at *
  generalize bestN m g = L at *
  generalize gotG m g 60 + gotG m g 61 * 256 = z at *
  generalize gotG m g 28 + gotG m g 29 * 256 = ck at *
  generalize gotG m g 30 + gotG m g 31 * 256 = sm at *
  generalize gotG m g 21 = md at *
  generalize gotG m g 22 = kd at *
  generalize gotG m g 24 = rs at *
  go_wp2_with fail
  refine HBt.out.mono ?_
  rintro e w2 ⟨rfl, hB2⟩
  have hX2 := hX.below hB2 hX.lt
  have hBa := hB0.trans (hB2.mono hB0.size)
  clear hX hB0 hB2 HBt
  go_wp2_with fail
  have hX3 := hX2.alloc (Obj.cells #[.string tt, .int .u8 md, .int .u8 kd, .int .u8 rs, .int .u16 ck, .int .u16 sm, .int .u16 z] 39)
  have hB4 := hBa.alloc hBa.size (Obj.cells #[.string tt, .int .u8 md, .int .u8 kd, .int .u8 rs, .int .u16 ck, .int .u16 sm, .int .u16 z] 39)
  have hK := Whole.fresh w2 39 #[.string tt, .int .u8 md, .int .u8 kd, .int .u8 rs, .int .u16 ck, .int .u16 sm, .int .u16 z]
  generalize (w2.alloc (Obj.cells #[.string tt, .int .u8 md, .int .u8 kd, .int .u8 rs, .int .u16 ck, .int .u16 sm, .int .u16 z] 39)) = W3 at hX3 hB4 hK ⊢
  have q3 := hK.cell 3
  refine (HCh.out W3).mono ?_
  rintro e w' ⟨⟨hk, rfl⟩ | ⟨hk, rfl⟩, rfl⟩
  · have hv : E = 32 := by rw [hEv.out, if_pos hk]
    subst hv
    clear hEv hE hk q3
    have fz := hX3.free
    have y0 := hX3.cell 0
    have y1 := hX3.cell 1
    have y2 := hX3.cell 2
    have y3 := hX3.cell 3
    have y4 := hX3.cell 4
    have y5 := hX3.cell 5
    have y6 := hX3.cell 6
    have y7 := hX3.cell 7
    go_wp2_with fail
    refine bodyPost_ret (results_pair (fn := Tryd.f10) (p := 4) (u := 5) (ty := 29) rfl _ _ w.heap.size _ _ _ ?_ ((((((((hX3.put 0 _).put 1 _).put 2 _).put 3 _).put 4 _).put 5 _).put 6 _).put 7 _) Tryd.underlying29 rfl ?_) ?_ ?_
    · rfl
    · kernel_rfl
    · rfl
    · exact ⟨rfl, ((((((((hB4.setCell (p := ⟨w.heap.size, 0, none⟩) (Nat.le_refl _) _).setCell (p := ⟨w.heap.size, 1, none⟩) (Nat.le_refl _) _).setCell (p := ⟨w.heap.size, 2, none⟩) (Nat.le_refl _) _).setCell (p := ⟨w.heap.size, 3, none⟩) (Nat.le_refl _) _).setCell (p := ⟨w.heap.size, 4, none⟩) (Nat.le_refl _) _).setCell (p := ⟨w.heap.size, 5, none⟩) (Nat.le_refl _) _).setCell (p := ⟨w.heap.size, 6, none⟩) (Nat.le_refl _) _).setCell (p := ⟨w.heap.size, 7, none⟩) (Nat.le_refl _) _)⟩
  have hEv2 : E = if 9 < rs then 33 else if chipN kd = 1 ∧ sl ≠ 8192 then 34 else 0 := by rw [hEv.out, if_neg (by omega)]
  replace hEv := Lib.hid hEv2
  clear hEv2
  generalize chipN kd = ch at *
  go_wp2_with fail
  refine (HRm.out w').mono ?_
  rintro e w'' ⟨rfl, rfl⟩
  by_cases h9 : 9 < rs
  · have hv : E = 33 := by rw [hEv.out, if_pos h9]
    have hd : decide (rs ≤ 9) = false := decide_eq_false (by omega)
    rw [hd]
    subst hv
    clear hEv hE hk q3 hd
    have fz := hX3.free
    have y0 := hX3.cell 0
    have y1 := hX3.cell 1
    have y2 := hX3.cell 2
    have y3 := hX3.cell 3
    have y4 := hX3.cell 4
    have y5 := hX3.cell 5
    have y6 := hX3.cell 6
    have y7 := hX3.cell 7
    go_wp2_with fail
    refine bodyPost_ret (results_pair (fn := Tryd.f10) (p := 4) (u := 5) (ty := 29) rfl _ _ w.heap.size _ _ _ ?_ ((((((((hX3.put 0 _).put 1 _).put 2 _).put 3 _).put 4 _).put 5 _).put 6 _).put 7 _) Tryd.underlying29 rfl ?_) ?_ ?_
    · rfl
    · kernel_rfl
    · rfl
    · exact ⟨rfl, ((((((((hB4.setCell (p := ⟨w.heap.size, 0, none⟩) (Nat.le_refl _) _).setCell (p := ⟨w.heap.size, 1, none⟩) (Nat.le_refl _) _).setCell (p := ⟨w.heap.size, 2, none⟩) (Nat.le_refl _) _).setCell (p := ⟨w.heap.size, 3, none⟩) (Nat.le_refl _) _).setCell (p := ⟨w.heap.size, 4, none⟩) (Nat.le_refl _) _).setCell (p := ⟨w.heap.size, 5, none⟩) (Nat.le_refl _) _).setCell (p := ⟨w.heap.size, 6, none⟩) (Nat.le_refl _) _).setCell (p := ⟨w.heap.size, 7, none⟩) (Nat.le_refl _) _)⟩
  have hd : decide (rs ≤ 9) = true := decide_eq_true (by omega)
  rw [hd]
  have h34 : ch = 1 ∧ sl ≠ 8192 := by
    by_cases h : ch = 1 ∧ sl ≠ 8192
    · exact h
    · exact absurd (by rw [hEv.out, if_neg h9, if_neg h]) hE
  have hv : E = 34 := by rw [hEv.out, if_neg h9, if_pos h34]
  obtain ⟨rfl, hs8⟩ := h34
  have hs9 : ((sl : Int) != 8192) = true := bne_iff_ne.2 (by omega)
  clear hs8
  subst hv
  clear hEv hE hk q3 hd
  have fz := hX3.free
  have y0 := hX3.cell 0
  have y1 := hX3.cell 1
  have y2 := hX3.cell 2
  have y3 := hX3.cell 3
  have y4 := hX3.cell 4
  have y5 := hX3.cell 5
  have y6 := hX3.cell 6
  have y7 := hX3.cell 7
  go_wp2_with fail
  refine bodyPost_ret (results_pair (fn := Tryd.f10) (p := 4) (u := 5) (ty := 29) rfl _ _ w.heap.size _ _ _ ?_ ((((((((hX3.put 0 _).put 1 _).put 2 _).put 3 _).put 4 _).put 5 _).put 6 _).put 7 _) Tryd.underlying29 rfl ?_) ?_ ?_
  · rfl
  · kernel_rfl
  · rfl
  · exact ⟨rfl, ((((((((hB4.setCell (p := ⟨w.heap.size, 0, none⟩) (Nat.le_refl _) _).setCell (p := ⟨w.heap.size, 1, none⟩) (Nat.le_refl _) _).setCell (p := ⟨w.heap.size, 2, none⟩) (Nat.le_refl _) _).setCell (p := ⟨w.heap.size, 3, none⟩) (Nat.le_refl _) _).setCell (p := ⟨w.heap.size, 4, none⟩) (Nat.le_refl _) _).setCell (p := ⟨w.heap.size, 5, none⟩) (Nat.le_refl _) _).setCell (p := ⟨w.heap.size, 6, none⟩) (Nat.le_refl _) _).setCell (p := ⟨w.heap.size, 7, none⟩) (Nat.le_refl _) _)⟩
end Go.Proofs.YtggjaoihfhianaaDoor
