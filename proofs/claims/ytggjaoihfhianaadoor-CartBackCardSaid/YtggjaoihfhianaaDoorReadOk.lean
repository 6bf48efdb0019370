/-
  Read, by the code: what is answered.
-/
import Derived.Test.YtggjaoihfhianaaDoorReadV
import Derived.Deep.RegionHeld3
namespace Go.Proofs.YtggjaoihfhianaaDoor
open Go.RowKit Go.Shelf
set_option maxRecDepth 100000
set_option maxHeartbeats 4000000
theorem keepK {W : World} {K : Nat} {tt : ByteArray} {md kd rs ck sm z : Nat} (h : Whole W K 39 #[.string tt, .int .u8 md, .int .u8 kd, .int .u8 rs, .int .u16 ck, .int .u16 sm, .int .u16 z]) :
    W.cell? ⟨K, 0, none⟩ = some (.string tt) ∧ W.cell? ⟨K, 6, none⟩ = some (.int .u16 (z : Nat)) ∧ W.cell? ⟨K, 1, none⟩ = some (.int .u8 (md : Nat)) := ⟨h.cell 0, h.cell 6, h.cell 1⟩
theorem whole_away {W : World} {g b i : Nat} {t : TypeId} {cs : Array Value} {u : Value} (h : Whole W g t cs) (hne : g ≠ b) : Whole (W.setCell ⟨b, i, none⟩ u) g t cs := h.away (p := ⟨b, i, none⟩) hne u
theorem whole_ne {w : World} {g g' : Nat} {t t' : TypeId} {cs cs' : Array Value} (h : Whole w g t cs) (h' : Whole w g' t' cs') (hne : t ≠ t') : g ≠ g' := by
  intro e
  subst e
  have h1 : w.heap[g]? = some (.cells cs t (0, 0)) := h
  have h2 : w.heap[g]? = some (.cells cs' t' (0, 0)) := h'
  rw [h1] at h2
  injection h2 with h2
  injection h2 with _ h3
  exact hne h3

theorem readSig_any (b o n c sl sc sb so : Nat) (f sg : Nat → Nat) (w : World) (hn : n ≤ 8392704) (hc : n ≤ c) (hr : Row w (some ⟨b, o, none⟩) n f) (hch : chipN (gotG (n - headN n) (at2 f (headN n)) 22) = 1) (hsl : sl = 8192) (hrs : Row w (some ⟨sb, so, none⟩) sl sg) (hE : readE (n - headN n) (at2 f (headN n)) sl = 0) :
    Calls Tryd.prog 10 #[.slice (some ⟨b, o, none⟩) n c, .slice (some ⟨sb, so, none⟩) sl sc] w fun e w' => ∃ G1 cap1 G2 cap2, e = .returned (.tuple #[readV (n - headN n) (at2 f (headN n)) (.slice (some ⟨G1, 0, none⟩) (n - headN n) cap1) (.slice (some ⟨G2, 0, none⟩) sl cap2), .int .i64 0]) ∧ Below w.heap.size w w' ∧ Holds w' G1 (n - headN n) (at2 f (headN n)) ∧ w.heap.size ≤ G1 ∧ Holds w' G2 sl sg ∧ w.heap.size ≤ G2 ∧ n - headN n ≤ cap1 := by
  have hB0 : Below w.heap.size w (w.alloc (Obj.cells #[Value.int IntKind.u8 0, Value.int IntKind.u8 0, Value.slice none 0 0, Value.int IntKind.i64 0, Value.string { data := #[] }, Value.int IntKind.u16 0, Value.bool false, Value.slice none 0 0] 29)) := (Below.refl _ w).alloc (Nat.le_refl _) _
  have HH := Lib.hid (fun W (hW : Below w.heap.size w W) => head_any b o n c f W hc (hr.below hW))
  have HS := Lib.hid (fun W (hW : Below w.heap.size w W) => hrs.below hW)
  clear hrs
  have hm : n - headN n ≤ 8392704 := by omega
  have hgb : ∀ i, i < n - headN n → at2 f (headN n) i < 256 := fun i hi => hr.1 (headN n + i) (by omega)
  generalize at2 f (headN n) = g at *
  generalize n - headN n = m at *
  have h1 : ¬ m < 32768 := by
    intro h; unfold readE at hE; rw [if_pos h] at hE; cases hE
  have h2 : ¬ 8388608 < m := by
    intro h; unfold readE at hE; rw [if_neg h1, if_pos h] at hE; cases hE
  have hE2 : (if chipN (gotG m g 22) = 255 then (32 : Int) else if 9 < gotG m g 24 then 33 else if chipN (gotG m g 22) = 1 ∧ sl ≠ 8192 then 34 else 0) = 0 := by
    have hE3 := hE
    unfold readE at hE3
    rw [if_neg h1, if_neg h2] at hE3
    exact hE3
  have d1 : decide ((m : Int) < 32768) = false := decide_eq_false (by omega)
  have d2 : decide ((8388608 : Int) < (m : Int)) = false := decide_eq_false (by omega)
  obtain ⟨hl1, hl3, hpos⟩ := bestN_in m g (by omega)
  have hk255 : chipN (gotG m g 22) ≠ 255 := by
    intro h; rw [if_pos h] at hE2; cases hE2
  have h9 : gotG m g 24 ≤ 9 := by
    rcases Nat.lt_or_ge 9 (gotG m g 24) with h | h
    · rw [if_neg hk255, if_pos h] at hE2; cases hE2
    · exact h
  unfold readV cartA
  have HBt := Lib.hid (fun W b' o' c' (hc' : m ≤ c') (hW : Row W (some ⟨b', o', none⟩) m g) => best_any m c' (some ⟨b', o', none⟩) g W hc' hW (by omega))
  have HCl := Lib.hid (fun W b' o' c' (hW : Row W (some ⟨b', o', none⟩) m g) => clone_any b' o' m c' g W hW (by omega))
  have HCs := Lib.hid (fun W (hW : Row W (some ⟨sb, so, none⟩) sl sg) => clone_any sb so sl sc sg W hW (by omega))
  have hm1 := Lib.hid h1
  replace hm := Lib.hid hm
  clear hr h1 h2 hE hE2 hn hc
  have hb64 : ∀ i, i < 64 → gotG m g i < 256 := fun i hi => hgb (posOf (bestN m g) + i) (by omega)
  have HCh := Lib.hid (fun W => chipOf_any (gotG m g 22) W (hb64 22 (by decide)))
  have HRm := Lib.hid (fun W => ramOf_any (gotG m g 24) W (hb64 24 (by decide)))
  have hfb := and16 ⟨gotG m g 21, hb64 21 (by decide)⟩
  simp only at hfb
  clear hpos hl1 hl3 hb64 hgb
  rw [show at' g (posOf (bestN m g)) = gotG m g from rfl] at HBt
  unfold cardV at HBt
  generalize titleS (gotG m g) = tt at *
  generalize bestN m g = L at *
  generalize gotG m g 60 + gotG m g 61 * 256 = z at *
  generalize gotG m g 28 + gotG m g 29 * 256 = ck at *
  generalize gotG m g 30 + gotG m g 31 * 256 = sm at *
  generalize gotG m g 21 = md at *
  generalize gotG m g 22 = kd at *
  generalize gotG m g 24 = rs at *
  generalize fastB md = fb at *
  generalize ramN rs = rm at *
  generalize chipN kd = ch at *
  subst hch
  subst hsl
  go_enter Tryd.func10, Tryd.ntmps10
  go_wp2_with fail
  have hX := Whole.fresh w 29 #[Value.int IntKind.u8 0, Value.int IntKind.u8 0, Value.slice none 0 0, Value.int IntKind.i64 0, Value.string { data := #[] }, Value.int IntKind.u16 0, Value.bool false, Value.slice none 0 0]
  generalize (w.alloc (Obj.cells #[Value.int IntKind.u8 0, Value.int IntKind.u8 0, Value.slice none 0 0, Value.int IntKind.i64 0, Value.string { data := #[] }, Value.int IntKind.u16 0, Value.bool false, Value.slice none 0 0] 29)) = W0 at hB0 hX ⊢
  refine (HH.out W0 hB0).mono ?_
  rintro e w1 ⟨⟨b', o', c', hc', hrow, rfl⟩, rfl⟩
  clear HH
  have HB1 := Lib.hid (HBt.out w1 b' o' c' hc' hrow)
  clear HBt
  go_wp2_with fail
  refine HB1.out.mono ?_
  rintro e w2 ⟨rfl, hB2⟩
  have hX2 := hX.below hB2 hX.lt
  have hrow2 := hrow.below hB2
  have hBa := hB0.trans (hB2.mono hB0.size)
  clear hX hB0 hB2 HB1 hrow
  go_wp2_with fail
  have hX3 := hX2.alloc (Obj.cells #[.string tt, .int .u8 md, .int .u8 kd, .int .u8 rs, .int .u16 ck, .int .u16 sm, .int .u16 z] 39)
  have hB4 := hBa.alloc hBa.size (Obj.cells #[.string tt, .int .u8 md, .int .u8 kd, .int .u8 rs, .int .u16 ck, .int .u16 sm, .int .u16 z] 39)
  have hrow3 := hrow2.below ((Below.refl _ w2).alloc (Nat.le_refl _) (Obj.cells #[.string tt, .int .u8 md, .int .u8 kd, .int .u8 rs, .int .u16 ck, .int .u16 sm, .int .u16 z] 39))
  have hK := Whole.fresh w2 39 #[.string tt, .int .u8 md, .int .u8 kd, .int .u8 rs, .int .u16 ck, .int .u16 sm, .int .u16 z]
  generalize (w2.alloc (Obj.cells #[.string tt, .int .u8 md, .int .u8 kd, .int .u8 rs, .int .u16 ck, .int .u16 sm, .int .u16 z] 39)) = W3 at hX3 hB4 hrow3 hK ⊢
  clear hX2 hBa hrow2
  have q3 := hK.cell 3
  refine (HCh.out W3).mono ?_
  rintro e w' ⟨⟨hk, rfl⟩ | ⟨hk, rfl⟩, rfl⟩
  · exact absurd hk hk255
  clear hk255
  go_wp2_with fail
  refine (HRm.out w').mono ?_
  rintro e w'' ⟨rfl, rfl⟩
  have hd : decide (rs ≤ 9) = true := decide_eq_true h9
  rw [hd]
  clear hd h9 HRm HCh
  have c0 := hK.cell 0
  have c1 := hK.cell 1
  have c6 := hK.cell 6
  simp only [List.getElem?_toArray, List.getElem?_cons_zero, List.getElem?_cons_succ] at c0 c1 c6
  have HK := Lib.hid hK
  have HX := Lib.hid hX3
  have HBw := Lib.hid hB4
  have HR := Lib.hid hrow3
  clear hK hX3 hB4 hrow3
  have hneK : w2.heap.size ≠ w.heap.size := by
    have := whole_ne HX.out HK.out (by decide)
    omega
  go_wp2_with fail
  go_region_held3 (fun W => W.cell? ⟨w2.heap.size, 0, none⟩ = some (.string tt) ∧ W.cell? ⟨w2.heap.size, 6, none⟩ = some (.int .u16 (z : Nat)) ∧ W.cell? ⟨w2.heap.size, 1, none⟩ = some (.int .u8 (md : Nat)))
    (first | (refine keepK (kd := kd) (rs := rs) (ck := ck) (sm := sm) ?_; (repeat' (first | (with_reducible exact HK.out) | (with_reducible exact hKb) | (with_reducible exact hKa) | (with_reducible refine Whole.drew ?_) | (with_reducible refine whole_away ?_ hneK))); done) | go_keep)
    (first
      | (go_at_call 25; (with_reducible refine (HCl.out _ _ _ _ ?_).mono ?_); exact HR.out; rintro e W5 ⟨G1, cap1, rfl, hcap1, hH1, hG1, hQ1⟩; have hKa := HK.out.drew.below hQ1 HK.out.drew.lt; have x0 := hKa.cell 0; have x1 := hKa.cell 1; have x6 := hKa.cell 6; simp only [List.getElem?_toArray, List.getElem?_cons_zero, List.getElem?_cons_succ] at x0 x1 x6; have hXa := HX.out.drew.below hQ1 HX.out.drew.lt; have fz := hXa.free; have y0 := hXa.cell 0; have y1 := hXa.cell 1; have y2 := hXa.cell 2; have y3 := hXa.cell 3; have y4 := hXa.cell 4; have y5 := hXa.cell 5; have y6 := hXa.cell 6; have y7 := hXa.cell 7; have hBa := HBw.out.drew.trans (hQ1.mono HBw.out.drew.size); have hS1 := HS.out W5 hBa)
      | (go_at_call 25; (with_reducible refine (HCs.out _ hS1).mono ?_); rintro e W6 ⟨G2, cap2, rfl, hcap2, hH2, hG2, hQ2⟩; have hKb := hKa.below hQ2 hKa.lt; have z0 := hKb.cell 0; have z1 := hKb.cell 1; have z6 := hKb.cell 6; simp only [List.getElem?_toArray, List.getElem?_cons_zero, List.getElem?_cons_succ] at z0 z1 z6; have hXb := hXa.below hQ2 hXa.lt; have fz2 := hXb.free; have u0 := hXb.cell 0; have u1 := hXb.cell 1; have u2 := hXb.cell 2; have u3 := hXb.cell 3; have u4 := hXb.cell 4; have u5 := hXb.cell 5; have u6 := hXb.cell 6; have u7 := hXb.cell 7; have hBb := hBa.trans (hQ2.mono hBa.size); have hH1b := hH1.below hQ2 hH1.lt))
  have hxl := HX.out.drew.lt
  have nG1 : G1 ≠ w.heap.size := by omega
  have hxl2 := hXa.lt
  have nG2 : G2 ≠ w.heap.size := by omega
  go_wp2_with fail
  refine bodyPost_ret (results_pair (fn := Tryd.f10) (p := 4) (u := 5) (ty := 29) rfl _ _ w.heap.size _ _ _ ?_ ((((((((hXb.put 0 _).put 1 _).put 2 _).put 3 _).put 4 _).put 5 _).put 6 _).put 7 _) Tryd.underlying29 rfl ?_) ?_ ⟨G1, cap1, G2, cap2, ?_, ((((((((hBb.setCell (p := ⟨w.heap.size, 0, none⟩) (Nat.le_refl _) _).setCell (p := ⟨w.heap.size, 1, none⟩) (Nat.le_refl _) _).setCell (p := ⟨w.heap.size, 2, none⟩) (Nat.le_refl _) _).setCell (p := ⟨w.heap.size, 3, none⟩) (Nat.le_refl _) _).setCell (p := ⟨w.heap.size, 4, none⟩) (Nat.le_refl _) _).setCell (p := ⟨w.heap.size, 5, none⟩) (Nat.le_refl _) _).setCell (p := ⟨w.heap.size, 6, none⟩) (Nat.le_refl _) _).setCell (p := ⟨w.heap.size, 7, none⟩) (Nat.le_refl _) _), ((((((((hH1b.away (p := ⟨w.heap.size, 0, none⟩) nG1 _).away (p := ⟨w.heap.size, 1, none⟩) nG1 _).away (p := ⟨w.heap.size, 2, none⟩) nG1 _).away (p := ⟨w.heap.size, 3, none⟩) nG1 _).away (p := ⟨w.heap.size, 4, none⟩) nG1 _).away (p := ⟨w.heap.size, 5, none⟩) nG1 _).away (p := ⟨w.heap.size, 6, none⟩) nG1 _).away (p := ⟨w.heap.size, 7, none⟩) nG1 _), by omega, ((((((((hH2.away (p := ⟨w.heap.size, 0, none⟩) nG2 _).away (p := ⟨w.heap.size, 1, none⟩) nG2 _).away (p := ⟨w.heap.size, 2, none⟩) nG2 _).away (p := ⟨w.heap.size, 3, none⟩) nG2 _).away (p := ⟨w.heap.size, 4, none⟩) nG2 _).away (p := ⟨w.heap.size, 5, none⟩) nG2 _).away (p := ⟨w.heap.size, 6, none⟩) nG2 _).away (p := ⟨w.heap.size, 7, none⟩) nG2 _), by omega, hcap1⟩
  · rfl
  · kernel_rfl
  · rfl
  · rfl

theorem readNo_any (b o n c sl sc : Nat) (sa : Option Addr) (f : Nat → Nat) (w : World) (hn : n ≤ 8392704) (hc : n ≤ c) (hr : Row w (some ⟨b, o, none⟩) n f) (hch : chipN (gotG (n - headN n) (at2 f (headN n)) 22) ≠ 1) (hE : readE (n - headN n) (at2 f (headN n)) sl = 0) :
    Calls Tryd.prog 10 #[.slice (some ⟨b, o, none⟩) n c, .slice sa sl sc] w fun e w' => ∃ G1 cap1, e = .returned (.tuple #[readV (n - headN n) (at2 f (headN n)) (.slice (some ⟨G1, 0, none⟩) (n - headN n) cap1) (.slice none 0 0), .int .i64 0]) ∧ Below w.heap.size w w' ∧ Holds w' G1 (n - headN n) (at2 f (headN n)) ∧ w.heap.size ≤ G1 ∧ n - headN n ≤ cap1 := by
  have hB0 : Below w.heap.size w (w.alloc (Obj.cells #[Value.int IntKind.u8 0, Value.int IntKind.u8 0, Value.slice none 0 0, Value.int IntKind.i64 0, Value.string { data := #[] }, Value.int IntKind.u16 0, Value.bool false, Value.slice none 0 0] 29)) := (Below.refl _ w).alloc (Nat.le_refl _) _
  have HH := Lib.hid (fun W (hW : Below w.heap.size w W) => head_any b o n c f W hc (hr.below hW))
  have hm : n - headN n ≤ 8392704 := by omega
  have hgb : ∀ i, i < n - headN n → at2 f (headN n) i < 256 := fun i hi => hr.1 (headN n + i) (by omega)
  generalize at2 f (headN n) = g at *
  generalize n - headN n = m at *
  have h1 : ¬ m < 32768 := by
    intro h; unfold readE at hE; rw [if_pos h] at hE; cases hE
  have h2 : ¬ 8388608 < m := by
    intro h; unfold readE at hE; rw [if_neg h1, if_pos h] at hE; cases hE
  have hE2 : (if chipN (gotG m g 22) = 255 then (32 : Int) else if 9 < gotG m g 24 then 33 else if chipN (gotG m g 22) = 1 ∧ sl ≠ 8192 then 34 else 0) = 0 := by
    have hE3 := hE
    unfold readE at hE3
    rw [if_neg h1, if_neg h2] at hE3
    exact hE3
  have d1 : decide ((m : Int) < 32768) = false := decide_eq_false (by omega)
  have d2 : decide ((8388608 : Int) < (m : Int)) = false := decide_eq_false (by omega)
  obtain ⟨hl1, hl3, hpos⟩ := bestN_in m g (by omega)
  have hk255 : chipN (gotG m g 22) ≠ 255 := by
    intro h; rw [if_pos h] at hE2; cases hE2
  have h9 : gotG m g 24 ≤ 9 := by
    rcases Nat.lt_or_ge 9 (gotG m g 24) with h | h
    · rw [if_neg hk255, if_pos h] at hE2; cases hE2
    · exact h
  unfold readV cartA
  have HBt := Lib.hid (fun W b' o' c' (hc' : m ≤ c') (hW : Row W (some ⟨b', o', none⟩) m g) => best_any m c' (some ⟨b', o', none⟩) g W hc' hW (by omega))
  have HCl := Lib.hid (fun W b' o' c' (hW : Row W (some ⟨b', o', none⟩) m g) => clone_any b' o' m c' g W hW (by omega))
  have hm1 := Lib.hid h1
  replace hm := Lib.hid hm
  clear hr h1 h2 hE hE2 hn hc
  have hb64 : ∀ i, i < 64 → gotG m g i < 256 := fun i hi => hgb (posOf (bestN m g) + i) (by omega)
  have HCh := Lib.hid (fun W => chipOf_any (gotG m g 22) W (hb64 22 (by decide)))
  have HRm := Lib.hid (fun W => ramOf_any (gotG m g 24) W (hb64 24 (by decide)))
  have hfb := and16 ⟨gotG m g 21, hb64 21 (by decide)⟩
  simp only at hfb
  clear hpos hl1 hl3 hb64 hgb
  rw [show at' g (posOf (bestN m g)) = gotG m g from rfl] at HBt
  unfold cardV at HBt
  generalize titleS (gotG m g) = tt at *
  generalize bestN m g = L at *
  generalize gotG m g 60 + gotG m g 61 * 256 = z at *
  generalize gotG m g 28 + gotG m g 29 * 256 = ck at *
  generalize gotG m g 30 + gotG m g 31 * 256 = sm at *
  generalize gotG m g 21 = md at *
  generalize gotG m g 22 = kd at *
  generalize gotG m g 24 = rs at *
  generalize fastB md = fb at *
  generalize ramN rs = rm at *
  generalize chipN kd = ch at *
  go_enter Tryd.func10, Tryd.ntmps10
  go_wp2_with fail
  have hX := Whole.fresh w 29 #[Value.int IntKind.u8 0, Value.int IntKind.u8 0, Value.slice none 0 0, Value.int IntKind.i64 0, Value.string { data := #[] }, Value.int IntKind.u16 0, Value.bool false, Value.slice none 0 0]
  generalize (w.alloc (Obj.cells #[Value.int IntKind.u8 0, Value.int IntKind.u8 0, Value.slice none 0 0, Value.int IntKind.i64 0, Value.string { data := #[] }, Value.int IntKind.u16 0, Value.bool false, Value.slice none 0 0] 29)) = W0 at hB0 hX ⊢
  refine (HH.out W0 hB0).mono ?_
  rintro e w1 ⟨⟨b', o', c', hc', hrow, rfl⟩, rfl⟩
  clear HH
  have HB1 := Lib.hid (HBt.out w1 b' o' c' hc' hrow)
  clear HBt
  go_wp2_with fail
  refine HB1.out.mono ?_
  rintro e w2 ⟨rfl, hB2⟩
  have hX2 := hX.below hB2 hX.lt
  have hrow2 := hrow.below hB2
  have hBa := hB0.trans (hB2.mono hB0.size)
  clear hX hB0 hB2 HB1 hrow
  go_wp2_with fail
  have hX3 := hX2.alloc (Obj.cells #[.string tt, .int .u8 md, .int .u8 kd, .int .u8 rs, .int .u16 ck, .int .u16 sm, .int .u16 z] 39)
  have hB4 := hBa.alloc hBa.size (Obj.cells #[.string tt, .int .u8 md, .int .u8 kd, .int .u8 rs, .int .u16 ck, .int .u16 sm, .int .u16 z] 39)
  have hrow3 := hrow2.below ((Below.refl _ w2).alloc (Nat.le_refl _) (Obj.cells #[.string tt, .int .u8 md, .int .u8 kd, .int .u8 rs, .int .u16 ck, .int .u16 sm, .int .u16 z] 39))
  have hK := Whole.fresh w2 39 #[.string tt, .int .u8 md, .int .u8 kd, .int .u8 rs, .int .u16 ck, .int .u16 sm, .int .u16 z]
  generalize (w2.alloc (Obj.cells #[.string tt, .int .u8 md, .int .u8 kd, .int .u8 rs, .int .u16 ck, .int .u16 sm, .int .u16 z] 39)) = W3 at hX3 hB4 hrow3 hK ⊢
  clear hX2 hBa hrow2
  have q3 := hK.cell 3
  refine (HCh.out W3).mono ?_
  rintro e w' ⟨⟨hk, rfl⟩ | ⟨hk, rfl⟩, rfl⟩
  · exact absurd hk hk255
  clear hk255
  go_wp2_with fail
  refine (HRm.out w').mono ?_
  rintro e w'' ⟨rfl, rfl⟩
  have hd : decide (rs ≤ 9) = true := decide_eq_true h9
  rw [hd]
  clear hd h9 HRm HCh
  have hch1 : ((ch : Int) != 1) = true := bne_iff_ne.2 (by omega)
  have hch2 := Lib.hid hch
  clear hch hk
  have c0 := hK.cell 0
  have c1 := hK.cell 1
  have c6 := hK.cell 6
  simp only [List.getElem?_toArray, List.getElem?_cons_zero, List.getElem?_cons_succ] at c0 c1 c6
  have HK := Lib.hid hK
  have HX := Lib.hid hX3
  have HBw := Lib.hid hB4
  have HR := Lib.hid hrow3
  clear hK hX3 hB4 hrow3
  have hneK : w2.heap.size ≠ w.heap.size := by
    have := whole_ne HX.out HK.out (by decide)
    omega
  go_wp2_with fail
  go_region_held3 (fun W => W.cell? ⟨w2.heap.size, 0, none⟩ = some (.string tt) ∧ W.cell? ⟨w2.heap.size, 6, none⟩ = some (.int .u16 (z : Nat)) ∧ W.cell? ⟨w2.heap.size, 1, none⟩ = some (.int .u8 (md : Nat)))
    (first | (refine keepK (kd := kd) (rs := rs) (ck := ck) (sm := sm) ?_; (repeat' (first | (with_reducible exact HK.out) | (with_reducible exact hKa) | (with_reducible refine Whole.drew ?_) | (with_reducible refine whole_away ?_ hneK))); done) | go_keep)
    (first
      | (go_at_call 25; (with_reducible refine (HCl.out _ _ _ _ ?_).mono ?_); exact HR.out; rintro e W5 ⟨G1, cap1, rfl, hcap1, hH1, hG1, hQ1⟩; have hKa := HK.out.drew.below hQ1 HK.out.drew.lt; have x0 := hKa.cell 0; have x1 := hKa.cell 1; have x6 := hKa.cell 6; simp only [List.getElem?_toArray, List.getElem?_cons_zero, List.getElem?_cons_succ] at x0 x1 x6; have hXa := HX.out.drew.below hQ1 HX.out.drew.lt; have fz := hXa.free; have y0 := hXa.cell 0; have y1 := hXa.cell 1; have y2 := hXa.cell 2; have y3 := hXa.cell 3; have y4 := hXa.cell 4; have y5 := hXa.cell 5; have y6 := hXa.cell 6; have y7 := hXa.cell 7; have hBa := HBw.out.drew.trans (hQ1.mono HBw.out.drew.size))
      | (go_at_call 25; (with_reducible refine (Tryd.slices_Clone_nil _ _ _).mono ?_); rintro e W6 ⟨rfl, rfl⟩))
  have hxl := HX.out.drew.lt
  have nG1 : G1 ≠ w.heap.size := by omega
  go_wp2_with fail
  refine bodyPost_ret (results_pair (fn := Tryd.f10) (p := 4) (u := 5) (ty := 29) rfl _ _ w.heap.size _ _ _ ?_ ((((((((hXa.put 0 _).put 1 _).put 2 _).put 3 _).put 4 _).put 5 _).put 6 _).put 7 _) Tryd.underlying29 rfl ?_) ?_ ⟨G1, cap1, ?_, ((((((((hBa.setCell (p := ⟨w.heap.size, 0, none⟩) (Nat.le_refl _) _).setCell (p := ⟨w.heap.size, 1, none⟩) (Nat.le_refl _) _).setCell (p := ⟨w.heap.size, 2, none⟩) (Nat.le_refl _) _).setCell (p := ⟨w.heap.size, 3, none⟩) (Nat.le_refl _) _).setCell (p := ⟨w.heap.size, 4, none⟩) (Nat.le_refl _) _).setCell (p := ⟨w.heap.size, 5, none⟩) (Nat.le_refl _) _).setCell (p := ⟨w.heap.size, 6, none⟩) (Nat.le_refl _) _).setCell (p := ⟨w.heap.size, 7, none⟩) (Nat.le_refl _) _), ((((((((hH1.away (p := ⟨w.heap.size, 0, none⟩) nG1 _).away (p := ⟨w.heap.size, 1, none⟩) nG1 _).away (p := ⟨w.heap.size, 2, none⟩) nG1 _).away (p := ⟨w.heap.size, 3, none⟩) nG1 _).away (p := ⟨w.heap.size, 4, none⟩) nG1 _).away (p := ⟨w.heap.size, 5, none⟩) nG1 _).away (p := ⟨w.heap.size, 6, none⟩) nG1 _).away (p := ⟨w.heap.size, 7, none⟩) nG1 _), by omega, hcap1⟩
  · rfl
  · kernel_rfl
  · rfl
  · rfl
end Go.Proofs.YtggjaoihfhianaaDoor
