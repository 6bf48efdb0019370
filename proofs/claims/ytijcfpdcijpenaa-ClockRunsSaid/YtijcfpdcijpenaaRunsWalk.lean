/-
  ClockRuns: the walk.
-/
import Derived.Test.YtijcfpdcijpenaaRunsMem
namespace Go.Proofs.Ytijcfpdcijpenaa.clockRuns
open Go.RowKit Go.Shelf
set_option maxRecDepth 100000
set_option maxHeartbeats 4000000
set_option linter.unusedVariables false
theorem row_free {w : World} {B g cap n : Nat} {e : TypeId} {s : Nat} {xs : List Value} (h : w.ownsRow B e s (.slice (some ⟨g, 0, none⟩) n cap) n xs) : ∀ i, w.frozen? ⟨g, i, none⟩ = false := fun i => by
  rcases h.2 with ⟨h, _⟩ | ⟨g', cap', cur, h, _, hh, _⟩
  · cases h
  · injection h with h
    injection h with h
    injection h with h
    subst h
    simp [World.frozen?, hh]
theorem whole_cells {w : World} {g : Nat} {t : TypeId} {zs : List Int} (h : Whole w g t (vals .i64 zs).toArray) : ∀ i, i < zs.length → ∃ z, w.cell? ⟨g, i, none⟩ = some (.int .i64 z) := fun i hi => ⟨zs[i]?.getD 0, by
  rw [h.cell i]
  simp [vals, hi]⟩
theorem walk0 (a0 : Option Addr) (cap0 : Nat) (ss : List Int) (a1 : Option Addr) (len1 cap1 : Nat) (f : Nat → Op1) (w : World) (hl : Lies .i64 w a0 ss) (hm : ss.length * 8 ≤ 140737488351232) (ho : OpsLie w a1 len1 f) (hm1 : len1 ≤ maxLen) :
    Calls Try.prog 3 #[.slice a0 ss.length cap0, .slice a1 len1 cap1] w fun e w' => e = .returned (.bool true) ∧ Below w.heap.size w w' := by
  have hml : ss.length ≤ maxLen := by unfold maxLen; omega
  unfold maxLen at hm1
  obtain ⟨E, hE⟩ : ∃ E, newErr ss = E := ⟨_, rfl⟩
  have HN := Lib.hid (rnew_any a0 cap0 ss w hl hml E hE)
  have HL := Lib.hid hl
  have HCp := Lib.hid (fun (W : World) (hB : Below w.heap.size w W) => copy_any a0 cap0 ss W (hl.below hB) hm)
  have HE := Lib.hid hE
  have HO := Lib.hid ho
  clear hl ho hE
  by_cases he : E = 0
  · subst he
    have hg := good_of ss HE.out
    have hn := hg.2.1
    have HCN := Lib.hid (fun (W : World) (g cap : Nat) (hW : Whole W g 2 (vals .i64 ss).toArray) => new_good (some ⟨g, 0, none⟩) cap ss W (Lies.whole hW) hg)
    go_enter Try.func3, Try.ntmps3
    go_wp2_with fail
    refine HN.out.mono ?_
    rintro e w1 ⟨hB1, (⟨h, -⟩ | ⟨-, p, q, cp, cq, rfl, hR1, hp1, hq1⟩)⟩
    · exact absurd rfl h
    · unfold rv
      go_wp2_with fail
      have hD := Whole.fresh w1 25 #[.slice (some ⟨p, 0, none⟩) ss.length cp, .slice (some ⟨q, 0, none⟩) ss.length cq]
      have hR := hR1.alloc (.cells #[.slice (some ⟨p, 0, none⟩) ss.length cp, .slice (some ⟨q, 0, none⟩) ss.length cq] 25)
      have hB := hB1.alloc hB1.size (.cells #[.slice (some ⟨p, 0, none⟩) ss.length cp, .slice (some ⟨q, 0, none⟩) ss.length cq] 25)
      have lp := hR1.pl
      have lq := hR1.ql
      have lg := hB1.size
      generalize w1.alloc (.cells #[.slice (some ⟨p, 0, none⟩) ss.length cp, .slice (some ⟨q, 0, none⟩) ss.length cq] 25) = W1 at hD hR hB ⊢
      obtain ⟨gd, hgd⟩ : ∃ gd, w1.heap.size = gd := ⟨_, rfl⟩
      rw [hgd] at hD lp lq lg ⊢
      clear hgd hB1 hR1 HN
      refine (HCp.out W1 hB).mono ?_
      rintro e w2 ⟨rfl, hI, hB2, -⟩
      have hRa := hR.below hB2
      have hDa := hD.below hB2 hD.lt
      have hBa := hB.trans (hB2.mono hB.size)
      have lgi := hB.size
      have ngi : W1.heap.size ≠ gd ∧ W1.heap.size ≠ p ∧ W1.heap.size ≠ q := by have := hD.lt; have := hR.pl; have := hR.ql; omega
      clear hR hD hB hB2 HCp
      obtain ⟨gi, hgi⟩ : ∃ gi, W1.heap.size = gi := ⟨_, rfl⟩
      rw [hgi] at hI ngi lgi ⊢
      clear hgi
      go_wp2_with fail
      refine (HCN.out w2 gi _ hI).mono ?_
      rintro e w3 ⟨c, bt, capT, bm, rfl, hC, hB3⟩
      have hRb := hRa.below hB3
      have hDb := hDa.below hB3 hDa.lt
      have hIb := hI.below hB3 hI.lt
      have hBb := hBa.trans (hB3.mono hBa.size)
      have lpB := hRa.pl
      have lqB := hRa.ql
      have lgB := hDa.lt
      have liB := hI.lt
      clear hRa hDa hBa hB3 HCN hI
      obtain ⟨B, hBB⟩ : ∃ B, w2.heap.size = B := ⟨_, rfl⟩
      rw [hBB] at hC lpB lqB lgB liB
      clear hBB
      have lowc := hC.low
      have lowt := hC.rowB
      have HSp := Lib.hid (spoil_any gi ss.length ss.length w3 (by omega) (whole_cells hIb) hIb.free)
      go_wp2_with fail
      refine HSp.out.mono ?_
      rintro e w4 ⟨⟨v, rfl⟩, hG⟩
      have hC4 := hC.only hG (by omega) (by omega) (by omega)
      have hR4 := hRb.only hG ngi.2.1 ngi.2.2
      have hD4 := hDb.only hG ngi.1
      have hB4 := hBb.trans (only_below hG lgi (Nat.le_of_lt hIb.lt))
      clear hC hRb hDb hBb hG HSp hIb
      go_wp2_with fail
      go_loopw [10] (fun si wr => ∃ (k : Nat) (ts : List Int), k ≤ len1 ∧ si = .int .i64 k ∧ Clk wr B c bt capT bm ss ts ∧ Rf wr p q ss ts ∧ Whole wr gd 25 #[.slice (some ⟨p, 0, none⟩) ss.length cp, .slice (some ⟨q, 0, none⟩) ss.length cq] ∧ Hid (Timed ts) ∧ Below w.heap.size w wr) (fun si _ => len1 - (intOf si).toNat)
      case atStart => exact ⟨0, _, Nat.zero_le _, rfl, hC4, hR4, hD4, Lib.hid (timed_zero _), hB4⟩
      case round =>
        obtain ⟨k, ts, hk, rfl, hC, hR, hD, HTd, hB⟩ := hrel
        obtain ⟨wo, rfl⟩ : ∃ wo, wo = wr := ⟨_, rfl⟩
        clear hC4 hR4 hD4 hB4
        by_cases hlt : k < len1
        · rcases HO.out with h0 | ⟨b, o, rfl, hb, hop⟩
          · omega
          · have O := hop k hlt
            clear hop
            generalize f k = op at O
            obtain ⟨what, i, n, oa, oc, zs⟩ := op
            have e0 : wo.cell? ⟨b, o + k * 4, none⟩ = some (.int .i64 what) := (hB.cell (p := ⟨b, o + k * 4, none⟩) hb).trans O.c0
            have e1 : wo.cell? ⟨b, o + k * 4 + 1, none⟩ = some (.int .i64 i) := (hB.cell (p := ⟨b, o + k * 4 + 1, none⟩) hb).trans O.c1
            have e2 : wo.cell? ⟨b, o + k * 4 + 2, none⟩ = some (.int .i64 n) := (hB.cell (p := ⟨b, o + k * 4 + 2, none⟩) hb).trans O.c2
            have e3 : wo.cell? ⟨b, o + k * 4 + 3, none⟩ = some (.slice oa zs.length oc) := (hB.cell (p := ⟨b, o + k * 4 + 3, none⟩) hb).trans O.c3
            have hbi : -9223372036854775808 ≤ i ∧ i ≤ 9223372036854775807 := Go.bounds_i64 O.wi
            have hbn : -9223372036854775808 ≤ n ∧ n ≤ 9223372036854775807 := Go.bounds_i64 O.wn
            have hrz : zs.length * 8 ≤ 140737488351232 := O.reach
            have HLz := Lib.hid (show Lies .i64 w oa zs from O.lies)
            have hO1 := Whole.fresh wo 35 #[.int .i64 what, .int .i64 i, .int .i64 n, .slice oa zs.length oc]
            have hC1 := hC.alloc (.cells #[.int .i64 what, .int .i64 i, .int .i64 n, .slice oa zs.length oc] 35)
            have hR1 := hR.alloc (.cells #[.int .i64 what, .int .i64 i, .int .i64 n, .slice oa zs.length oc] 35)
            have hD1 := hD.alloc (.cells #[.int .i64 what, .int .i64 i, .int .i64 n, .slice oa zs.length oc] 35)
            have hB1 := hB.alloc hB.size (.cells #[.int .i64 what, .int .i64 i, .int .i64 n, .slice oa zs.length oc] 35)
            have k1 := hC.head.lt
            have k2 := hC.rowB.2
            have k3 := hC.times.lt
            have k4 := hR.pl
            have k5 := hR.ql
            have k6 := hD.lt
            have k7 := hB.size
            clear O
            have HW := Lib.hid hO1
            by_cases w0 : what = 0
            · subst w0
              clear HW
              go_wp2_with fail
              clear e0 e1 e2 e3
              generalize wo.alloc (Obj.cells #[.int .i64 0, .int .i64 i, .int .i64 n, .slice oa zs.length oc] 35) = W1 at *
              obtain ⟨go, hgo⟩ : ∃ go, wo.heap.size = go := ⟨_, rfl⟩
              rw [hgo] at hO1 k1 k2 k3 k4 k5 k6 k7 ⊢
              clear hgo hC hR hD hB
              obtain ⟨E, hE⟩ : ∃ E, addErr ss ts i n = E := ⟨_, rfl⟩
              obtain ⟨us, hU⟩ : ∃ us, (if E = 0 then ts.set i.toNat (ts[i.toNat]?.getD 0 + ss[i.toNat]?.getD 0 * n) else ts) = us := ⟨_, rfl⟩
              have HT5 : Hid (Timed us) := Lib.hid (timed_add HTd.out hC1.size (fun k hk => (good_at hg k hk).1) hE hU)
              have HA := Lib.hid (fun W (hW : Clk W B c bt capT bm ss ts) => cadd_any i n W hW hg HTd.out hbn.1 hbn.2 E us hE hU)
              have HA2 := Lib.hid (fun W (hW : Rf W p q ss ts) => radd_at (cp := cp) (cq := cq) i n W hW hg hbi.1 hbi.2 hbn.1 hbn.2 HTd.out E us hE hU)
              clear hE hU
              have y0 := hD1.cell 0
              have y1 := hD1.cell 1
              have y2 := hO1.cell 1
              have y3 := hO1.cell 2
              simp only [List.getElem?_toArray, List.getElem?_cons_zero, List.getElem?_cons_succ] at y0 y1 y2 y3
              go_region_held3 (fun W => W.cell? ⟨go, 1, none⟩ = some (.int .i64 i) ∧ W.cell? ⟨go, 2, none⟩ = some (.int .i64 n) ∧ W.cell? ⟨gd, 0, none⟩ = some (.slice (some ⟨p, 0, none⟩) ss.length cp) ∧ W.cell? ⟨gd, 1, none⟩ = some (.slice (some ⟨q, 0, none⟩) ss.length cq))
                (first | go_keep | exact ⟨v2, v3, v0, v1⟩ | exact ⟨x2, x3, x0, x1⟩ | exact ⟨y2, y3, y0, y1⟩)
                (first
                  | (go_at_call 12; refine (HA.out _ (by first | exact hC1 | exact hC1.drew)).mono ?_; rintro e W2 ⟨rfl, hC2, hG2⟩; have hR2 := hR1.drew.only hG2 (by omega) (by omega); have hD2 := hD1.drew.only hG2 (by omega); have hO2 := hO1.drew.only hG2 (by omega); have hB2 := hB1.drew.trans (only_below hG2 (show w.heap.size ≤ bm by omega) (Nat.le_of_lt hC1.drew.times.lt)); have x0 := hD2.cell 0; have x1 := hD2.cell 1; have x2 := hO2.cell 1; have x3 := hO2.cell 2; simp only [List.getElem?_toArray, List.getElem?_cons_zero, List.getElem?_cons_succ] at x0 x1 x2 x3)
                  | (go_at_call 13; refine (HA2.out _ hR2).mono ?_; rintro e W5 ⟨rfl, hG5, hR5⟩; have hC5 := hC2.only hG5 (by omega) (by omega) (by omega); have hD5 := hD2.only hG5 (by omega); have hO5 := hO2.only hG5 (by omega); have hB5 := hB2.trans (only_below hG5 hq1 (Nat.le_of_lt hR2.ql)); have v0 := hD5.cell 0; have v1 := hD5.cell 1; have v2 := hO5.cell 1; have v3 := hO5.cell 2; simp only [List.getElem?_toArray, List.getElem?_cons_zero, List.getElem?_cons_succ] at v0 v1 v2 v3))
              clear HA HA2 y0 y1 y2 y3 x0 x1 x2 x3 v0 v1 v2 v3 hC1 hR1 hD1 hO1 hB1 hC2 hR2 hD2 hO2 hB2 hG2 hG5 HTd
              -- the clock and the document, once more
              have HSm := Lib.hid (same_any (cp := cp) (cq := cq) i W5 hC5 hR5 hg HT5.out hbi.1 hbi.2)
              unfold rv at HSm
              have z0 := hD5.cell 0
              have z1 := hD5.cell 1
              have z2 := hO5.cell 1
              simp only [List.getElem?_toArray, List.getElem?_cons_zero, List.getElem?_cons_succ] at z0 z1 z2
              go_wp2_with fail
              refine HSm.out.mono ?_
              rintro e W6 ⟨rfl, hB6⟩
              have hC6 := hC5.below hB6
              have hR6 := hR5.below hB6
              have hD6 := hD5.below hB6 hD5.lt
              have hBB6 := hB5.trans (hB6.mono hB5.size)
              have HTm := Lib.hid (times_any W6 hC6 hg)
              clear HSm hC5 hR5 hD5 hB5 hO5 z0 z1 z2 hB6
              go_wp2_with fail
              refine HTm.out.mono ?_
              rintro e W7 ⟨g7, cap7, rfl, hown7, hB7⟩
              have hC7 := hC6.below hB7
              have hR7 := hR6.below hB7
              have hD7 := hD6.below hB7 hD6.lt
              have hBB7 := hBB6.trans (hB7.mono hBB6.size)
              have hl7 := hown7.lt g7 rfl
              have l61 := hC6.head.lt
              have l62 := hC6.rowB.2
              have l63 := hC6.times.lt
              have l64 := hR6.pl
              have l65 := hR6.ql
              have l66 := hD6.lt
              have HSp := Lib.hid (spoil_any g7 ss.length cap7 W7 (by omega) (fun i hi => ⟨_, row_cell hown7 hC7.size hi⟩) (row_free hown7))
              clear HTm hC6 hR6 hD6 hBB6 hB7 hown7
              go_wp2_with fail
              refine HSp.out.mono ?_
              rintro e W8 ⟨⟨v8, rfl⟩, hG8⟩
              have hC8 := hC7.only hG8 (by omega) (by omega) (by omega)
              have hR8 := hR7.only hG8 (by omega) (by omega)
              have hD8 := hD7.only hG8 (by omega)
              have hB8 := hBB7.trans (only_below hG8 (show w.heap.size ≤ g7 by have := hBB7.size; omega) (Nat.le_of_lt hl7.2))
              clear HSp hC7 hR7 hD7 hBB7 hG8
              go_wp2_with fail
              go_roundw
              case rel => exact ⟨k + 1, _, by omega, by go_num, hC8, hR8, hD8, HT5, hB8⟩
              case measure => simp [intOf]; omega
            · have w1' : (what == 0) = false := by rw [beq_eq_false_iff_ne]; exact w0
              by_cases w1 : what = 1
              · subst w1
                clear HW w0 w1'
                go_wp2_with fail
                clear e0 e1 e2 e3
                generalize wo.alloc (Obj.cells #[.int .i64 1, .int .i64 i, .int .i64 n, .slice oa zs.length oc] 35) = W1 at *
                obtain ⟨go, hgo⟩ : ∃ go, wo.heap.size = go := ⟨_, rfl⟩
                rw [hgo] at hO1 k1 k2 k3 k4 k5 k6 k7 ⊢
                clear hgo hC hR hD hB
                obtain ⟨E, hE⟩ : ∃ E, setErr ss.length zs = E := ⟨_, rfl⟩
                obtain ⟨us, hU⟩ : ∃ us, (if E = 0 then zs else ts) = us := ⟨_, rfl⟩
                have HT5 : Hid (Timed us) := Lib.hid (timed_set HTd.out hE hU)
                have hzm : zs.length ≤ maxLen := by unfold maxLen; omega
                have HCpz := Lib.hid (copy_any oa oc zs W1 (HLz.out.below hB1) hrz)
                have HS := Lib.hid (fun W g cap (hW : Clk W B c bt capT bm ss ts) (hz : Whole W g 2 (vals .i64 zs).toArray) => cset_at g cap zs W hW hg hz hzm E us hE hU)
                have HS2 := Lib.hid (fun W (hB : Below w.heap.size w W) (hW : Rf W p q ss ts) => rset_any (cp := cp) (cq := cq) oa oc zs W hW hn (HLz.out.below hB) hzm (fun h0 b o e => by
                  rcases HLz.out with h | ⟨b', o', h, hlt, _⟩
                  · rw [h] at h0; exact absurd h0 (Nat.lt_irrefl 0)
                  · rw [e] at h
                    injection h with h
                    injection h with h
                    omega) E us hE hU)
                unfold rv at HS2
                have HLo := Lib.hid (fun W g cap (hB : Below w.heap.size w W) (hz : Whole W g 2 (vals .i64 zs).toArray) => longs_any (some ⟨g, 0, none⟩) oa cap oc zs W (Lies.whole hz) (HLz.out.below hB) hzm)
                clear hE hU
                refine HCpz.out.mono ?_
                rintro e W2 ⟨rfl, hL2, hB2', -⟩
                have hC2 := hC1.below hB2'
                have hR2 := hR1.below hB2'
                have hD2 := hD1.below hB2' hD1.lt
                have hO2 := hO1.below hB2' hO1.lt
                have hB2 := hB1.trans (hB2'.mono hB1.size)
                have j1 := hC1.head.lt
                have j2 := hC1.rowB.2
                have j3 := hC1.times.lt
                have j4 := hR1.pl
                have j5 := hR1.ql
                have j6 := hD1.lt
                have j7 := hO1.lt
                have j8 := hB1.size
                clear HCpz hC1 hR1 hD1 hO1 hB1 hB2'
                obtain ⟨gl, hgl⟩ : ∃ gl, W1.heap.size = gl := ⟨_, rfl⟩
                rw [hgl] at hL2 j1 j2 j3 j4 j5 j6 j7 j8 ⊢
                clear hgl
                have y0 := hD2.cell 0
                have y1 := hD2.cell 1
                have y2 := hO2.cell 3
                simp only [List.getElem?_toArray, List.getElem?_cons_zero, List.getElem?_cons_succ] at y0 y1 y2
                go_wp2_with fail
                go_region_held3 (fun W => W.cell? ⟨go, 3, none⟩ = some (.slice oa zs.length oc) ∧ W.cell? ⟨gd, 0, none⟩ = some (.slice (some ⟨p, 0, none⟩) ss.length cp) ∧ W.cell? ⟨gd, 1, none⟩ = some (.slice (some ⟨q, 0, none⟩) ss.length cq))
                  (first | go_keep | exact ⟨v2, v0, v1⟩ | exact ⟨x2, x0, x1⟩ | exact ⟨y2, y0, y1⟩)
                  (first
                    | (go_at_call 14; refine (HS.out _ gl _ (by first | exact hC2 | exact hC2.drew) (by first | exact hL2 | exact hL2.drew)).mono ?_; rintro e W3 ⟨rfl, hG3, hC3⟩; have hR3 := hR2.drew.only hG3 (by omega) (by omega); have hD3 := hD2.drew.only hG3 (by omega); have hO3 := hO2.drew.only hG3 (by omega); have hL3 := hL2.drew.only hG3 (by omega); have hB3 := hB2.drew.trans (only_below hG3 (show w.heap.size ≤ bm by omega) (Nat.le_of_lt hC2.drew.times.lt)); have x0 := hD3.cell 0; have x1 := hD3.cell 1; have x2 := hO3.cell 3; simp only [List.getElem?_toArray, List.getElem?_cons_zero, List.getElem?_cons_succ] at x0 x1 x2)
                    | (go_at_call 15; refine (HS2.out _ hB3 hR3).mono ?_; rintro e W4 ⟨rfl, hG4, hR4⟩; have hC4 := hC3.only hG4 (by omega) (by omega) (by omega); have hD4 := hD3.only hG4 (by omega); have hO4 := hO3.only hG4 (by omega); have hL4 := hL3.only hG4 (by omega); have hB4 := hB3.trans (only_below hG4 hq1 (Nat.le_of_lt hR3.ql)); have v0 := hD4.cell 0; have v1 := hD4.cell 1; have v2 := hO4.cell 3; simp only [List.getElem?_toArray, List.getElem?_cons_zero, List.getElem?_cons_succ] at v0 v1 v2)
                    | (go_at_call 16; refine (HLo.out _ gl _ hB4 hL4).mono ?_; rintro e W9 ⟨rfl, q9, rfl⟩))
                have hL9 := hL4.drewN q9
                have hC9 := hC4.drewN q9
                have hR9 := hR4.drewN q9
                have hD9 := hD4.drewN q9
                have hO9 := hO4.drewN q9
                have hB9 := below_drewN hB4 q9
                clear HS HS2 HLo y0 y1 y2 x0 x1 x2 v0 v1 v2 hC2 hR2 hD2 hO2 hB2 hL2 hC3 hR3 hD3 hO3 hB3 hL3 hC4 hR4 hD4 hO4 hB4 hL4 hG3 hG4 HTd
                generalize W4.drewN q9 = W9 at *
                have HSl := Lib.hid (spoil_any gl zs.length zs.length W9 (by omega) (whole_cells hL9) hL9.free)
                have hll := hL9.lt
                go_wp2_with fail
                refine HSl.out.mono ?_
                rintro e W5 ⟨⟨v9, rfl⟩, hG5⟩
                have hC5 := hC9.only hG5 (by omega) (by omega) (by omega)
                have hR5 := hR9.only hG5 (by omega) (by omega)
                have hD5 := hD9.only hG5 (by omega)
                have hO5 := hO9.only hG5 (by omega)
                have hB5 := hB9.trans (only_below hG5 (show w.heap.size ≤ gl by omega) (Nat.le_of_lt hll))
                clear HSl hC9 hR9 hD9 hO9 hB9 hL9 hG5
                -- the clock and the document, once more
                have HSm := Lib.hid (same_any (cp := cp) (cq := cq) i W5 hC5 hR5 hg HT5.out hbi.1 hbi.2)
                unfold rv at HSm
                have z0 := hD5.cell 0
                have z1 := hD5.cell 1
                have z2 := hO5.cell 1
                simp only [List.getElem?_toArray, List.getElem?_cons_zero, List.getElem?_cons_succ] at z0 z1 z2
                go_wp2_with fail
                refine HSm.out.mono ?_
                rintro e W6 ⟨rfl, hB6⟩
                have hC6 := hC5.below hB6
                have hR6 := hR5.below hB6
                have hD6 := hD5.below hB6 hD5.lt
                have hBB6 := hB5.trans (hB6.mono hB5.size)
                have HTm := Lib.hid (times_any W6 hC6 hg)
                clear HSm hC5 hR5 hD5 hB5 hO5 z0 z1 z2 hB6
                go_wp2_with fail
                refine HTm.out.mono ?_
                rintro e W7 ⟨g7, cap7, rfl, hown7, hB7⟩
                have hC7 := hC6.below hB7
                have hR7 := hR6.below hB7
                have hD7 := hD6.below hB7 hD6.lt
                have hBB7 := hBB6.trans (hB7.mono hBB6.size)
                have hl7 := hown7.lt g7 rfl
                have l61 := hC6.head.lt
                have l62 := hC6.rowB.2
                have l63 := hC6.times.lt
                have l64 := hR6.pl
                have l65 := hR6.ql
                have l66 := hD6.lt
                have HSp := Lib.hid (spoil_any g7 ss.length cap7 W7 (by omega) (fun i hi => ⟨_, row_cell hown7 hC7.size hi⟩) (row_free hown7))
                clear HTm hC6 hR6 hD6 hBB6 hB7 hown7
                go_wp2_with fail
                refine HSp.out.mono ?_
                rintro e W8 ⟨⟨v8, rfl⟩, hG8⟩
                have hC8 := hC7.only hG8 (by omega) (by omega) (by omega)
                have hR8 := hR7.only hG8 (by omega) (by omega)
                have hD8 := hD7.only hG8 (by omega)
                have hB8 := hBB7.trans (only_below hG8 (show w.heap.size ≤ g7 by have := hBB7.size; omega) (Nat.le_of_lt hl7.2))
                clear HSp hC7 hR7 hD7 hBB7 hG8
                go_wp2_with fail
                go_roundw
                case rel => exact ⟨k + 1, _, by omega, by go_num, hC8, hR8, hD8, HT5, hB8⟩
                case measure => simp [intOf]; omega
              · have w2' : (what == 1) = false := by rw [beq_eq_false_iff_ne]; exact w1
                by_cases w2 : what = 2
                · subst w2
                  clear HW w0 w1 w1' w2'
                  have z0 := hD.cell 0
                  have z1 := hD.cell 1
                  simp only [List.getElem?_toArray, List.getElem?_cons_zero, List.getElem?_cons_succ] at z0 z1
                  have HLs := Lib.hid (fun W (hW : Rf W p q ss ts) => rleast_any (cp := cp) (cq := cq) (best ts ss.length) W hW hn (best_lt ts ss.length hg.1) (best_cnt ts ss.length hg.1))
                  unfold rv at HLs
                  go_wp2_with fail
                  clear e0 e1 e2 e3 z0 z1
                  generalize wo.alloc (Obj.cells #[.int .i64 2, .int .i64 i, .int .i64 n, .slice oa zs.length oc] 35) = W1 at *
                  obtain ⟨go, hgo⟩ : ∃ go, wo.heap.size = go := ⟨_, rfl⟩
                  rw [hgo] at hO1 k1 k2 k3 k4 k5 k6 k7 ⊢
                  clear hgo hC hR hD hB
                  refine (HLs.out W1 hR1).mono ?_
                  rintro e W2 ⟨rfl, hB2'⟩
                  have hC2 := hC1.below hB2'
                  have hR2 := hR1.below hB2'
                  have hD2 := hD1.below hB2' hD1.lt
                  have hO2 := hO1.below hB2' hO1.lt
                  have hB2 := hB1.trans (hB2'.mono hB1.size)
                  clear HLs hC1 hR1 hD1 hO1 hB1 hB2'
                  have HNo := Lib.hid (fun W (hW : Clk W B c bt capT bm ss ts) => norm_any W hW hg HTd.out)
                  have hts : ts.length = ss.length := hC2.size
                  have HMin := Lib.hid (fun j (hj : j < ss.length) => (clockKeeps.low_min (ts := ts) hg.1 hj))
                  have HT5 : Hid (Timed (lowered ts (ts[best ts ss.length]?.getD 0) ss.length)) := Lib.hid (clockKeeps.low_timed hts hg.1 HTd.out)
                  have hl0 : 0 ≤ ts[best ts ss.length]?.getD 0 := (HTd.out _).1
                  generalize ts[best ts ss.length]?.getD 0 = l at *
                  go_wp2_with fail
                  go_loopw [14] (fun sj wq => ∃ j : Nat, j ≤ ss.length ∧ sj = .int .i64 j ∧ Rf wq p q ss (lowered ts l j) ∧ W2.grownBy wq (some q)) (fun sj _ => ss.length - (intOf sj).toNat)
                  case atStart => exact ⟨0, Nat.zero_le _, rfl, by rw [lowered_zero]; exact hR2, Below.only (Below.refl _ _) q⟩
                  case round =>
                    obtain ⟨j, hj, rfl, hRq, hGq⟩ := hrel
                    obtain ⟨wq, rfl⟩ : ∃ wq, wq = wr := ⟨_, rfl⟩
                    have hDq := hD2.only hGq (by omega)
                    have z0 := hDq.cell 0
                    have z1 := hDq.cell 1
                    simp only [List.getElem?_toArray, List.getElem?_cons_zero, List.getElem?_cons_succ] at z0 z1
                    by_cases hjl : j < ss.length
                    · have v0 := hRq.tm j hjl
                      rw [lowered_get _ _ _ _ (by omega), if_neg (Nat.lt_irrefl j)] at v0
                      have f0 := hRq.fr j
                      have m0 := HMin.out j hjl
                      have m1 := HTd.out j
                      have hR3 := hRq.drew.put hjl (ts[j]?.getD 0 - l)
                      rw [lowered_step _ _ _ (by omega)] at hR3
                      have hG3 := only_set (a := W2) (w := wq.drew) ⟨hGq.os, hGq.tape, hGq.output, hGq.size, hGq.block⟩ j (.int .i64 (ts[j]?.getD 0 - l))
                      generalize ts[j]?.getD 0 = x at *
                      obtain ⟨m1, m2⟩ := m1
                      have z0' : wq.drew.cell? ⟨gd, 0, none⟩ = some (.slice (some ⟨p, 0, none⟩) ss.length cp) := z0
                      have z1' : wq.drew.cell? ⟨gd, 1, none⟩ = some (.slice (some ⟨q, 0, none⟩) ss.length cq) := z1
                      have v0' : wq.drew.cell? ⟨q, j, none⟩ = some (.int .i64 x) := v0
                      have f0' : wq.drew.frozen? ⟨q, j, none⟩ = false := f0
                      clear hRq hGq hDq hR2 hC2 hD2 hO2 hB2 HNo
                      go_wp2_with fail
                      go_still_tail 11, (by kernel_rfl)
                      show wpList _ _ _ _ _ wq.drew
                      generalize wq.drew = W3 at *
                      go_wp2_with fail
                      go_roundw
                      case rel => exact ⟨j + 1, by omega, by go_num, hR3, hG3⟩
                      case measure => simp [intOf]; omega
                    · obtain rfl : j = ss.length := by omega
                      have hCq := hC2.only hGq (by omega) (by omega) (by omega)
                      have hOq := hO2.only hGq (by omega)
                      have hBq := hB2.trans (only_below hGq hq1 (Nat.le_of_lt hR2.ql))
                      have HNq := Lib.hid (HNo.out wq hCq)
                      clear hR2 hC2 hD2 hO2 hB2 HNo hGq
                      go_wp2_with fail
                      refine HNq.out.mono ?_
                      rintro e W5 ⟨rfl, hC5, hG5⟩
                      have hR5 := hRq.only hG5 (by omega) (by omega)
                      have hD5 := hDq.only hG5 (by omega)
                      have hO5 := hOq.only hG5 (by omega)
                      have hB5 := hBq.trans (only_below hG5 (show w.heap.size ≤ bm by omega) (Nat.le_of_lt hCq.times.lt))
                      clear HNq hCq hRq hDq hOq hBq hG5 z0 z1 HTd
                      -- the clock and the document, once more
                      have HSm := Lib.hid (same_any (cp := cp) (cq := cq) i W5 hC5 hR5 hg HT5.out hbi.1 hbi.2)
                      unfold rv at HSm
                      have z0 := hD5.cell 0
                      have z1 := hD5.cell 1
                      have z2 := hO5.cell 1
                      simp only [List.getElem?_toArray, List.getElem?_cons_zero, List.getElem?_cons_succ] at z0 z1 z2
                      go_wp2_with fail
                      refine HSm.out.mono ?_
                      rintro e W6 ⟨rfl, hB6⟩
                      have hC6 := hC5.below hB6
                      have hR6 := hR5.below hB6
                      have hD6 := hD5.below hB6 hD5.lt
                      have hBB6 := hB5.trans (hB6.mono hB5.size)
                      have HTm := Lib.hid (times_any W6 hC6 hg)
                      clear HSm hC5 hR5 hD5 hB5 hO5 z0 z1 z2 hB6
                      go_wp2_with fail
                      refine HTm.out.mono ?_
                      rintro e W7 ⟨g7, cap7, rfl, hown7, hB7⟩
                      have hC7 := hC6.below hB7
                      have hR7 := hR6.below hB7
                      have hD7 := hD6.below hB7 hD6.lt
                      have hBB7 := hBB6.trans (hB7.mono hBB6.size)
                      have hl7 := hown7.lt g7 rfl
                      have l61 := hC6.head.lt
                      have l62 := hC6.rowB.2
                      have l63 := hC6.times.lt
                      have l64 := hR6.pl
                      have l65 := hR6.ql
                      have l66 := hD6.lt
                      have HSp := Lib.hid (spoil_any g7 ss.length cap7 W7 (by omega) (fun i hi => ⟨_, row_cell hown7 hC7.size hi⟩) (row_free hown7))
                      clear HTm hC6 hR6 hD6 hBB6 hB7 hown7
                      go_wp2_with fail
                      refine HSp.out.mono ?_
                      rintro e W8 ⟨⟨v8, rfl⟩, hG8⟩
                      have hC8 := hC7.only hG8 (by omega) (by omega) (by omega)
                      have hR8 := hR7.only hG8 (by omega) (by omega)
                      have hD8 := hD7.only hG8 (by omega)
                      have hB8 := hBB7.trans (only_below hG8 (show w.heap.size ≤ g7 by have := hBB7.size; omega) (Nat.le_of_lt hl7.2))
                      clear HSp hC7 hR7 hD7 hBB7 hG8
                      go_wp2_with fail
                      go_roundw
                      case rel => exact ⟨k + 1, _, by omega, by go_num, hC8, hR8, hD8, HT5, hB8⟩
                      case measure => simp [intOf]; omega
                · have w3' : (what == 2) = false := by rw [beq_eq_false_iff_ne]; exact w2
                  clear w0 w1 w2 HW
                  have z0 := hD.cell 0
                  have z1 := hD.cell 1
                  simp only [List.getElem?_toArray, List.getElem?_cons_zero, List.getElem?_cons_succ] at z0 z1
                  go_wp2_with fail
                  clear e0 e1 e2 e3 z0 z1
                  have hO5 := hO1
                  have hC5 := hC1
                  have hR5 := hR1
                  have hD5 := hD1
                  have hB5 := hB1
                  have HT5 := HTd
                  clear hO1 hC1 hR1 hD1 hB1 HTd
                  generalize wo.alloc (Obj.cells #[.int .i64 what, .int .i64 i, .int .i64 n, .slice oa zs.length oc] 35) = W5 at *
                  obtain ⟨go, hgo⟩ : ∃ go, wo.heap.size = go := ⟨_, rfl⟩
                  rw [hgo] at hO5 k1 k2 k3 k4 k5 k6 k7 ⊢
                  clear hgo hC hR hD hB
                  -- the clock and the document, once more
                  have HSm := Lib.hid (same_any (cp := cp) (cq := cq) i W5 hC5 hR5 hg HT5.out hbi.1 hbi.2)
                  unfold rv at HSm
                  have z0 := hD5.cell 0
                  have z1 := hD5.cell 1
                  have z2 := hO5.cell 1
                  simp only [List.getElem?_toArray, List.getElem?_cons_zero, List.getElem?_cons_succ] at z0 z1 z2
                  refine HSm.out.mono ?_
                  rintro e W6 ⟨rfl, hB6⟩
                  have hC6 := hC5.below hB6
                  have hR6 := hR5.below hB6
                  have hD6 := hD5.below hB6 hD5.lt
                  have hBB6 := hB5.trans (hB6.mono hB5.size)
                  have HTm := Lib.hid (times_any W6 hC6 hg)
                  clear HSm hC5 hR5 hD5 hB5 hO5 z0 z1 z2 hB6
                  go_wp2_with fail
                  refine HTm.out.mono ?_
                  rintro e W7 ⟨g7, cap7, rfl, hown7, hB7⟩
                  have hC7 := hC6.below hB7
                  have hR7 := hR6.below hB7
                  have hD7 := hD6.below hB7 hD6.lt
                  have hBB7 := hBB6.trans (hB7.mono hBB6.size)
                  have hl7 := hown7.lt g7 rfl
                  have l61 := hC6.head.lt
                  have l62 := hC6.rowB.2
                  have l63 := hC6.times.lt
                  have l64 := hR6.pl
                  have l65 := hR6.ql
                  have l66 := hD6.lt
                  have HSp := Lib.hid (spoil_any g7 ss.length cap7 W7 (by omega) (fun i hi => ⟨_, row_cell hown7 hC7.size hi⟩) (row_free hown7))
                  clear HTm hC6 hR6 hD6 hBB6 hB7 hown7
                  go_wp2_with fail
                  refine HSp.out.mono ?_
                  rintro e W8 ⟨⟨v8, rfl⟩, hG8⟩
                  have hC8 := hC7.only hG8 (by omega) (by omega) (by omega)
                  have hR8 := hR7.only hG8 (by omega) (by omega)
                  have hD8 := hD7.only hG8 (by omega)
                  have hB8 := hBB7.trans (only_below hG8 (show w.heap.size ≤ g7 by have := hBB7.size; omega) (Nat.le_of_lt hl7.2))
                  clear HSp hC7 hR7 hD7 hBB7 hG8
                  go_wp2_with fail
                  go_roundw
                  case rel => exact ⟨k + 1, _, by omega, by go_num, hC8, hR8, hD8, HT5, hB8⟩
                  case measure => simp [intOf]; omega
        · obtain rfl : k = len1 := by omega
          have HSm := Lib.hid (same_any (cp := cp) (cq := cq) 0 wo hC hR hg HTd.out (by omega) (by omega))
          unfold rv at HSm
          have z0 := hD.cell 0
          have z1 := hD.cell 1
          simp only [List.getElem?_toArray, List.getElem?_cons_zero, List.getElem?_cons_succ] at z0 z1
          go_wp2_with fail
          refine HSm.out.mono ?_
          rintro e W6 ⟨rfl, hB6⟩
          go_wp2_with fail
          go_ret
          exact ⟨rfl, hB.trans (hB6.mono hB.size)⟩
  · have HBd := Lib.hid (fun (W : World) (g cap : Nat) (hW : Whole W g 2 (vals .i64 ss).toArray) => new_bad (some ⟨g, 0, none⟩) cap ss W (Lies.whole hW) hml (by rw [HE.out]; exact he))
    rw [HE.out] at HBd
    have t1 : (E != 0) = true := by rw [bne_iff_ne]; exact he
    have t2 : (E == 0) = false := by rw [beq_eq_false_iff_ne]; exact he
    have H0 := Lib.hid he
    clear he HO
    go_enter Try.func3, Try.ntmps3
    go_wp2_with fail
    refine HN.out.mono ?_
    rintro e w1 ⟨hB1, (⟨-, rfl⟩ | ⟨h, -⟩)⟩
    · unfold none2
      go_wp2_with fail
      have hB := hB1.alloc hB1.size (.cells #[.slice none 0 0, .slice none 0 0] 25)
      generalize w1.alloc (.cells #[.slice none 0 0, .slice none 0 0] 25) = W1 at hB ⊢
      refine (HCp.out W1 hB).mono ?_
      rintro e w2 ⟨rfl, hI, hB2, -⟩
      have hBa := hB.trans (hB2.mono hB.size)
      have lgi := hB.size
      go_wp2_with fail
      refine (HBd.out w2 _ _ hI).mono ?_
      rintro e w3 ⟨rfl, hB3⟩
      have hIb := hI.below hB3 hI.lt
      have hBb := hBa.trans (hB3.mono hBa.size)
      have HSp := Lib.hid (spoil_any W1.heap.size ss.length ss.length w3 (by omega) (whole_cells hIb) hIb.free)
      go_wp2_with fail
      refine HSp.out.mono ?_
      rintro e w4 ⟨⟨v, rfl⟩, hG⟩
      go_wp2_with fail
      go_ret
      exact ⟨rfl, hBb.trans (only_below hG lgi (Nat.le_of_lt hIb.lt))⟩
    · exact absurd h H0.out
theorem walk (a0 : Option Addr) (len0 cap0 : Nat) (z0 : List Int) (a1 : Option Addr) (len1 cap1 : Nat) (f : Nat → Op1) (w : World) (w0 : Seen .i64 8 w a0 len0 z0) (w1 : OpsLie w a1 len1 f) (l1 : len1 ≤ maxLen) :
    Calls Try.prog 3 #[.slice a0 len0 cap0, .slice a1 len1 cap1] w fun e w' => e = .returned (.bool true) ∧ Below w.heap.size w w' := by
  obtain ⟨rfl, l0, r0, _⟩ := w0
  exact walk0 a0 cap0 z0 a1 len1 cap1 f w l0 r0 w1 l1
end Go.Proofs.Ytijcfpdcijpenaa.clockRuns
