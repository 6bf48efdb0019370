/-
  The block by a shift and a filter, by the document.
-/
import Derived.Test.YtekjcgckniopdaaBApt
import Derived.Test.YtekjcgckniopdaaBAtt
import Derived.Test.YtekjcgckniopdaaKit
namespace Go.Proofs.Ytekjcgckniopdaa
open Go.RowKit Go.Shelf
set_option maxRecDepth 100000
set_option maxHeartbeats 2000000
set_option linter.unusedVariables false
set_option linter.unusedSimpArgs false

theorem u4_tmod (n : Int) (h1 : -8 ≤ n) (h2 : n ≤ 7) : (n + 16).tmod 16 = (u4 n : Int) ∧ (n + 16) % 16 = (u4 n : Int) := by
  have e : (n + 16) % 16 = (u4 n : Int) := by unfold u4; omega
  exact ⟨by rw [Int.tmod_eq_emod_of_nonneg (by omega)]; exact e, e⟩
theorem rblock_any (w : World) (a : Option Addr) (c sh f : Nat) (s : Nat → Int) (p q : Int) (hR : IRow w a 16 s) (hs : ∀ i, Smp (s i)) (hsh : sh < 13) (hf : f < 4) (hp : Smp p) (hq : Smp q) :
    Calls Try.prog 32 #[.slice a 16 c, .int .u8 (sh : Nat), .int .u8 (f : Nat), .int .i16 p, .int .i16 q] w fun e w' => ∃ G, e = .returned (.slice (some ⟨G, 0, none⟩) 9 9) ∧ Holds w' G 9 (blkB s p q sh f) ∧ w.heap.size ≤ G ∧ Below w.heap.size w w' := by
  have hmk : ∀ W : World, (Instr.makeSlice 22 (.int .i64 9) (.int .i64 9)).run Try.prog W = .ok (.slice (some ⟨W.heap.size, 0, none⟩) 9 9) (W.alloc (.cells (madeCells #[.int .u8 0] 9) 5)) := fun W => run_make_row' (P := Try.prog) 22 5 (.int .u8 0) 1 Try.underlying22 (by kernel_rfl) rfl .i64 .i64 9 (by omega) (by omega) W
  have hRh := Lib.hid hR
  have hsm := fun k => encF_smp sh f s p q hp hq k
  have HS := Lib.hid (fun W k n (h1 : -8 ≤ n) (h2 : n ≤ 7) => rsample_any W n (encF sh f s p q k).1 (encF sh f s p q k).2.1 sh f h1 h2 (by omega) hf (hsm k).1 (hsm k).2)
  have hst := Lib.hid (show ∀ k, nibF sh f (encF sh f s p q k).1 (encF sh f s p q k).2.1 (s k) = choF sh f s p q k ∧ sampF sh f (encF sh f s p q k).1 (encF sh f s p q k).2.1 (choF sh f s p q k) = (encF sh f s p q (k + 1)).1 ∧ (encF sh f s p q k).1 = (encF sh f s p q (k + 1)).2.1 from fun k => ⟨rfl, rfl, rfl⟩)
  have hcb := Lib.hid (fun k => choF_bnd sh f s p q k)
  have hput := Lib.hid (fun k => putF_step sh f (choF sh f s p q) k)
  have hlt8 := Lib.hid (fun k i => putF_lt sh f (choF sh f s p q) k i (by omega) hf)
  have hs' := Lib.hid hs
  have h0 : upd (fun _ => 0) 0 (sh * 16 + f * 4) = putF sh f (choF sh f s p q) 0 := by
    funext i
    unfold putF upd
    simp
  have hb0 : sh * 16 + f * 4 < 256 := by omega
  have hfin := Lib.hid (show blkB s p q sh f = putF sh f (choF sh f s p q) 16 from rfl)
  have hi0 := Lib.hid (show encF sh f s p q 0 = (p, q, 0) from rfl)
  have hW0 := holds_of_made (Whole.fresh w 5 (madeCells #[Value.int .u8 0] 9))
  have hB0 := (Below.refl w.heap.size w).alloc (Nat.le_refl _) (.cells (madeCells #[Value.int .u8 0] 9) 5)
  have e1 : ((sh * 16 + f * 4 : Nat) : Int) = (sh : Int) * 16 + (f : Int) * 4 := by omega
  unfold Smp at hp hq
  clear hR hs hsm
  go_enter Try.func32, Try.ntmps32
  go_upto_region 2 with (fail)
  generalize w.alloc (.cells (madeCells #[Value.int .u8 0] 9) 5) = W1 at *
  generalize hG : w.heap.size = G at *
  clear hmk
  have x0 := hW0.cell 0 (by decide)
  have xf := hW0.free 0
  have hW1 := hW0.put 0 (sh * 16 + f * 4) hb0
  rw [h0] at hW1
  have hB1 := hB0.setCell (p := ⟨G, 0, none⟩) (Nat.le_refl _) (.int .u8 ((sh * 16 + f * 4 : Nat) : Int))
  generalize hW2 : W1.setCell ⟨G, 0, none⟩ (.int .u8 ((sh * 16 + f * 4 : Nat) : Int)) = W2 at *
  rw [e1] at hW2
  replace hW2 := Lib.hid hW2
  clear h0 hW0 hB0 e1 hb0
  go_upto_region 3 with (fail)
  rw [hW2.out]
  clear x0 xf hW2
  replace hG := Lib.hid hG
  go_wp2_with fail
  go_loopw [12, 13, 14] (fun s12 s13 s14 wr => ∃ k : Nat, k ≤ 16 ∧ s14 = .int .i64 (k : Nat) ∧ s12 = .int .i64 (encF sh f s p q k).1 ∧ s13 = .int .i64 (encF sh f s p q k).2.1 ∧ Holds wr G 9 (putF sh f (choF sh f s p q) k) ∧ Below G w wr) (fun _ _ s14 _ => 16 - (intOf s14).toNat)
  case atStart => exact ⟨0, by omega, rfl, by rw [hi0.out], by rw [hi0.out], hW1, hB1⟩
  case round =>
    obtain ⟨k, hk, rfl, rfl, rfl, hH, hB⟩ := hrel
    clear hW1 hB1
    by_cases hlt : k < 16
    · have HSk := Lib.hid (fun W n h1 h2 => HS.out W k n h1 h2)
      obtain ⟨s1, s2, s3⟩ := hst.out k
      have hck := hcb.out k
      have hpk := hput.out k
      have hvs := hs'.out k
      have hrm := putF_room sh f (choF sh f s p q) k
      have hgb := hlt8.out k (1 + k / 2)
      have hgb2 := hlt8.out (k + 1) (1 + k / 2)
      have hcw : ∃ b o, a = some ⟨b, o, none⟩ ∧ ∀ V, Below G w V → V.cell? ⟨b, o + k, none⟩ = some (.int .i16 (s k)) := by
        rcases hRh.out with h | ⟨b, o, ha, hbl, hcell⟩
        · omega
        · exact ⟨b, o, ha, fun V hV => (hV.cell (p := ⟨b, o + k, none⟩) (hG.out ▸ hbl)).trans (hcell k hlt)⟩
      obtain ⟨b, o, rfl, hcw⟩ := hcw
      have hbs : ∀ j, bestN sh f (encF sh f s p q k).1 (encF sh f s p q k).2.1 (s k) (j + 1) = if farF sh f (encF sh f s p q k).1 (encF sh f s p q k).2.1 (s k) ((j : Int) - 7) < farF sh f (encF sh f s p q k).1 (encF sh f s p q k).2.1 (s k) (bestN sh f (encF sh f s p q k).1 (encF sh f s p q k).2.1 (s k) j) then (j : Int) - 7 else bestN sh f (encF sh f s p q k).1 (encF sh f s p q k).2.1 (s k) j := fun j => rfl
      have hbb := Lib.hid (bestN_bnd sh f (encF sh f s p q k).1 (encF sh f s p q k).2.1 (s k))
      have hN15 : bestN sh f (encF sh f s p q k).1 (encF sh f s p q k).2.1 (s k) 15 = choF sh f s p q k := s1
      have hfr := Lib.hid (fun n => show farF sh f (encF sh f s p q k).1 (encF sh f s p q k).2.1 (s k) n = (sampF sh f (encF sh f s p q k).1 (encF sh f s p q k).2.1 n - s k) * (sampF sh f (encF sh f s p q k).1 (encF sh f s p q k).2.1 n - s k) from rfl)
      have hbd := Lib.hid (fun n => sampF_smp sh f (encF sh f s p q k).1 (encF sh f s p q k).2.1 n)
      have hS2 := HSk.out
      generalize hP : (encF sh f s p q k).1 = P at *
      generalize hQ : (encF sh f s p q k).2.1 = Q at *
      generalize hX : (encF sh f s p q (k + 1)).1 = X at *
      generalize hQ' : (encF sh f s p q (k + 1)).2.1 = Q' at *
      subst s3
      generalize choF sh f s p q k = N at *
      generalize hp1 : putF sh f (choF sh f s p q) (k + 1) = g1 at *
      generalize putF sh f (choF sh f s p q) k = g0 at *
      generalize s k = v at *
      replace hP := Lib.hid hP
      replace hQ := Lib.hid hQ
      replace hX := Lib.hid hX
      replace hQ' := Lib.hid hQ'
      replace hp1 := Lib.hid hp1
      replace hpk := Lib.hid hpk
      replace hbs := Lib.hid hbs
      replace hN15 := Lib.hid hN15
      replace s2 := Lib.hid s2
      replace hrm := Lib.hid hrm
      replace hgb := Lib.hid hgb
      replace hgb2 := Lib.hid hgb2
      replace hcw := Lib.hid hcw
      have hh1 := Lib.hid (And.intro hH hB)
      unfold Smp at hvs
      clear hH hB HS hst hcb hput hlt8 hs' hi0 hS2 s1
      go_wp2_with fail
      obtain ⟨wo, rfl⟩ : ∃ wo, wo = wr := ⟨_, rfl⟩
      go_loopw [15, 16] (fun s15 s16 wr => ∃ j : Nat, j ≤ 15 ∧ s16 = .int .i64 ((j : Int) - 7) ∧ s15 = .int .i64 (bestN sh f P Q v j) ∧ Holds wr G 9 g0 ∧ Below G w wr) (fun _ s16 _ => (8 - intOf s16).toNat)
      case atStart => exact ⟨0, by omega, rfl, rfl, hh1.out.1, hh1.out.2⟩
      case round =>
        obtain ⟨j, hj, rfl, rfl, hH, hB⟩ := hrel
        clear hh1
        by_cases hlj : j < 15
        · have hbj := hbb.out j
          have hbj1 := hbs.out j
          have hf1 := hfr.out ((j : Int) - 7)
          have hf2 := hfr.out (bestN sh f P Q v j)
          have hd1 := hbd.out ((j : Int) - 7)
          have hd2 := hbd.out (bestN sh f P Q v j)
          have HS1 := Lib.hid (fun W => below_of_eq (HSk.out W ((j : Int) - 7) (by omega) (by omega)))
          have HS2 := Lib.hid (fun W => below_of_eq (HSk.out W (bestN sh f P Q v j) (by omega) (by omega)))
          rw [hf1, hf2] at hbj1
          generalize sampF sh f P Q ((j : Int) - 7) = X1 at *
          generalize sampF sh f P Q (bestN sh f P Q v j) = X2 at *
          unfold Smp at hd1 hd2
          have hw1 : IntKind.i64.wrap (X1 - v) = X1 - v := by simp only [IntKind.wrap_i64]; omega
          have hw2 : IntKind.i64.wrap (X2 - v) = X2 - v := by simp only [IntKind.wrap_i64]; omega
          have hq1 := sq_bnd (X1 - v) (by omega) (by omega)
          have hq2 := sq_bnd (X2 - v) (by omega) (by omega)
          have hm3 : (j : Int) - 7 + 1 = ((j + 1 : Nat) : Int) - 7 := by omega
          have hm1 : -7 ≤ (j : Int) - 7 := by omega
          have hm2 : (j : Int) - 7 < 8 := by omega
          generalize hbn1 : bestN sh f P Q v (j + 1) = bn1 at *
          generalize bestN sh f P Q v j = bn at *
          generalize (j : Int) - 7 = mm at *
          replace hq1 := Lib.hid hq1
          replace hq2 := Lib.hid hq2
          replace hm3 := Lib.hid hm3
          replace hbn1 := Lib.hid hbn1
          replace hbj1 := Lib.hid hbj1
          have d0 := hcw.out wr hB
          have hh2 := Lib.hid (And.intro hH hB)
          have hGl : G < wr.heap.size := hH.lt
          clear hH hB hf1 hf2 hbj hd1 hd2
          go_upto_region 12 with (fail)
          refine wp_region_quiet_below (by kernel_rfl) (by kernel_rfl) ?_
          have q0 := cell_regrown d0
          clear d0
          repeat (go_big_quiet_step (first
            | (go_at_call 26; first | (with_reducible exact Calls.regrown_of (HS1.out _)))))
          refine wpQuiet_nil ?_
          intro _ hw'
          obtain ⟨⟨dq, osq⟩, hw''⟩ := hw'
          subst hw''
          have hbl := below_regrown wr dq osq
          have hH3 := hh2.out.1.below hbl hGl
          have hB3 := hh2.out.2.trans (hbl.mono (Nat.le_of_lt hGl))
          generalize Go.«Sort».grow (redrawn wr dq) osq = V1 at *
          have d0 := hcw.out V1 hB3
          have hGl3 : G < V1.heap.size := hH3.lt
          have hh3 := Lib.hid (And.intro hH3 hB3)
          clear q0 hH3 hB3 hbl hh2 HS1
          go_upto_region 13 with (fail)
          refine wp_region_quiet_below (by kernel_rfl) (by kernel_rfl) ?_
          have q0 := cell_regrown d0
          clear d0
          repeat (go_big_quiet_step (first
            | (go_at_call 26; first | (with_reducible exact Calls.regrown_of (HS2.out _)))))
          refine wpQuiet_nil ?_
          intro _ hw'
          obtain ⟨⟨dq, osq⟩, hw''⟩ := hw'
          subst hw''
          have hbl := below_regrown V1 dq osq
          have hH4 := hh3.out.1.below hbl hGl3
          have hB4 := hh3.out.2.trans (hbl.mono (Nat.le_of_lt hGl3))
          generalize Go.«Sort».grow (redrawn V1 dq) osq = V2 at *
          have hh4 := Lib.hid (And.intro hH4 hB4)
          clear q0 hH4 hB4 hbl hh3 HS2 hw1 hw2
          generalize X1 - v = D1 at *
          generalize X2 - v = D2 at *
          have hw3 : wrap64 (D1 * D1) = D1 * D1 := w64 _ (by have := hq1.out; omega) (by have := hq1.out; omega)
          have hw4 : wrap64 (D2 * D2) = D2 * D2 := w64 _ (by have := hq2.out; omega) (by have := hq2.out; omega)
          clear hq1 hq2
          by_cases hc : D1 * D1 < D2 * D2
          · have hbj2 := hbj1.out
            rw [if_pos hc] at hbj2
            replace hbj2 := Lib.hid hbj2
            clear hbj1
            have hdc : decide (D1 * D1 < D2 * D2) = true := decide_eq_true hc
            go_wp2_with fail
            go_roundw
            case rel => exact ⟨j + 1, by omega, by rw [hm3.out], by rw [hbn1.out, hbj2.out], hh4.out.1, hh4.out.2⟩
            case measure => simp only [intOf]; omega
          · have hbj2 := hbj1.out
            rw [if_neg hc] at hbj2
            replace hbj2 := Lib.hid hbj2
            clear hbj1
            have hdc : decide (D1 * D1 < D2 * D2) = false := decide_eq_false hc
            go_wp2_with fail
            go_roundw
            case rel => exact ⟨j + 1, by omega, by rw [hm3.out], by rw [hbn1.out, hbj2.out], hh4.out.1, hh4.out.2⟩
            case measure => simp only [intOf]; omega
        · obtain rfl : j = 15 := by omega
          rw [hN15.out]
          have HSN := HSk.out wr N hck.1 hck.2
          rw [s2.out] at HSN
          replace HSN := Lib.hid HSN
          obtain ⟨um1, um2⟩ := u4_tmod N hck.1 hck.2
          have hjl : 1 + k / 2 < 9 := by omega
          have hj1 : (1 : Int) + (k : Int) / 2 = ((1 + k / 2 : Nat) : Int) := by omega
          have hpk2 := hpk.out
          have x0 := hH.cell (1 + k / 2) hjl
          have xf := hH.free (1 + k / 2)
          have hgb0 := hgb.out
          generalize 1 + k / 2 = jn at *
          clear hj hlj hcw hbs hbb hbd hfr HSk hrm hpk
          by_cases hpar : k % 2 = 0
          · skip
            have hpe : (if k % 2 = 0 then 16 else 1 : Nat) = 16 := by rw [if_pos hpar]
            have hk2 : (k : Int) % 2 = 0 := by omega
            rw [hpe] at hpk2
            have hv1 : g1 jn = g0 jn + u4 N * 16 := by rw [hpk2]; unfold upd; rw [if_pos rfl]
            have hgb1 := hgb2.out
            rw [hv1] at hgb1
            have hP9 := hH.put jn (g0 jn + u4 N * 16) hgb1
            rw [← hpk2] at hP9
            have hB9 := hB.setCell (p := ⟨G, jn, none⟩) (Nat.le_refl _) (.int .u8 ((g0 jn + u4 N * 16 : Nat) : Int))
            have ecast : ((g0 jn + u4 N * 16 : Nat) : Int) = (g0 jn : Int) + (u4 N : Int) * 16 := by omega
            rw [ecast] at hP9 hB9
            have hfx := Lib.hid (And.intro hP9 hB9)
            have hu := u4_lt N
            generalize u4 N = U at *
            generalize g0 jn = Z at *
            clear hP9 hB9 hv1 hpk2 ecast hpe hH hB
            go_wp2_with fail
            refine HSN.out.mono ?_
            rintro e w' ⟨rfl, rfl⟩
            go_wp2_with fail
            go_roundw
            case rel => exact ⟨k + 1, by omega, by go_num, by rw [hX.out], by rw [hQ'.out], by rw [hp1.out]; exact hfx.out.1, hfx.out.2⟩
            case measure => simp [intOf]; omega
          · skip
            have hpe : (if k % 2 = 0 then 16 else 1 : Nat) = 1 := by rw [if_neg hpar]
            have hk2 : (k : Int) % 2 = 1 := by omega
            rw [hpe] at hpk2
            have hv1 : g1 jn = g0 jn + u4 N * 1 := by rw [hpk2]; unfold upd; rw [if_pos rfl]
            have hgb1 := hgb2.out
            rw [hv1] at hgb1
            have hP9 := hH.put jn (g0 jn + u4 N * 1) hgb1
            rw [← hpk2] at hP9
            have hB9 := hB.setCell (p := ⟨G, jn, none⟩) (Nat.le_refl _) (.int .u8 ((g0 jn + u4 N * 1 : Nat) : Int))
            have ecast : ((g0 jn + u4 N * 1 : Nat) : Int) = (g0 jn : Int) + (u4 N : Int) := by omega
            rw [ecast] at hP9 hB9
            have hfx := Lib.hid (And.intro hP9 hB9)
            have hu := u4_lt N
            generalize u4 N = U at *
            generalize g0 jn = Z at *
            clear hP9 hB9 hv1 hpk2 ecast hpe hH hB
            go_wp2_with fail
            refine HSN.out.mono ?_
            rintro e w' ⟨rfl, rfl⟩
            go_wp2_with fail
            go_roundw
            case rel => exact ⟨k + 1, by omega, by go_num, by rw [hX.out], by rw [hQ'.out], by rw [hp1.out]; exact hfx.out.1, hfx.out.2⟩
            case measure => simp [intOf]; omega
    · obtain rfl : k = 16 := by omega
      have hh := Lib.hid (And.intro hH hB)
      clear hH hB
      go_wp2_with fail
      go_ret
      exact ⟨G, rfl, by rw [hfin.out]; exact hh.out.1, by rw [hG.out]; exact Nat.le_refl _, by rw [hG.out]; exact hh.out.2⟩
end Go.Proofs.Ytekjcgckniopdaa
