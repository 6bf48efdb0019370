/-
  The document's Step (genkst.py writes this text).
-/
import Derived.Test.YtbdhdedlemndeaaDoorKInv
import Derived.Test.YtbdhdedlemndeaaDoorKMay
import Derived.Deep.QuietTactic
import Derived.BigQuiet
import Derived.StillTailTactics
namespace Go.Proofs.YtbdhdedlemndeaaDoor
open Go.RowKit Go.Shelf
set_option maxRecDepth 1000000
set_option maxHeartbeats 4000000
set_option linter.unusedVariables false
set_option linter.unusedSimpArgs false

/-- So many cycles. -/
def itS (f : Nat → Nat) : Nat → Nat → Nat
  | 0 => f
  | n + 1 => stepF (itS f n)
theorem itS_good {f : Nat → Nat} (h : GoodT f) : ∀ n, GoodT (itS f n)
  | 0 => h
  | n + 1 => (itS_good h n).step
theorem stK_pass (f : Nat → Nat) : stK f 1 = passF 1 128 (onF f 0) (stK f 0) ∧ stK f 2 = passF 5 128 (onF f 1) (stK f 1) ∧ stK f 3 = passF 9 16 (onF f 2) (stK f 2) := ⟨rfl, rfl, rfl⟩
theorem stK_on (f : Nat → Nat) (k j : Nat) : onF (stK f k) j = onF f j := by unfold onF; rw [stK_bits]
theorem passB_lt {p q : Nat} {on : Bool} {F : Nat → Nat} (h : F (p + 1) + 1 < q) : passF p q on F = upd F (p + 1) (F (p + 1) + 1) := if_pos h
theorem passB_off {p q : Nat} {F : Nat → Nat} (h : ¬ F (p + 1) + 1 < q) : passF p q false F = upd F (p + 1) 0 := by unfold passF; rw [if_neg h]; rfl
theorem passB_eq {p q : Nat} {F : Nat → Nat} (h : ¬ F (p + 1) + 1 < q) (he : (F (p + 2) + 1) % 256 = F p) : passF p q true F = upd (upd (upd F (p + 1) 0) (p + 2) 0) (p + 3) ((F (p + 3) + 1) % 16) := by unfold passF; rw [if_neg h, if_pos rfl, if_pos he]
theorem passB_ne {p q : Nat} {F : Nat → Nat} (h : ¬ F (p + 1) + 1 < q) (he : ¬ (F (p + 2) + 1) % 256 = F p) : passF p q true F = upd (upd F (p + 1) 0) (p + 2) ((F (p + 2) + 1) % 256) := by unfold passF; rw [if_neg h, if_pos rfl, if_neg he]
/-- Where Step stands. -/
structure Sto (w : World) (T : Nat) (F : Nat → Nat) (V : World) : Prop where
  t : Whole V T 30 (docC F)
  z : Whole V (T + 1) 30 docZ
  bel : Below T w V
theorem Sto.drew {w V : World} {T : Nat} {F : Nat → Nat} (h : Sto w T F V) : Sto w T F V.drew := ⟨h.t.drew, h.z.drew, h.bel.drew⟩
theorem Sto.drewN {w V : World} {T : Nat} {F : Nat → Nat} (h : Sto w T F V) (q : Nat) : Sto w T F (V.drewN q) := ⟨h.t.drewN q, h.z.drewN q, below_drewN h.bel q⟩
theorem Sto.put {w V : World} {T : Nat} {F G : Nat → Nat} (h : Sto w T F V) (i : Nat) (v : Value) (e : (docC F).setIfInBounds i v = docC G) : Sto w T G (V.setCell ⟨T, i, none⟩ v) :=
  ⟨(h.t.put i v).as e, h.z.away (p := ⟨T, i, none⟩) (by show T + 1 ≠ T; omega) v, h.bel.setCell (p := ⟨T, i, none⟩) (Nat.le_refl _) v⟩
theorem div_0 {F : Nat → Nat} {D : Nat} : (docC F).setIfInBounds 7 (.int .i64 (D : Nat)) = docC (upd F 2 D) := by kernel_rfl
theorem cnt_0 {F : Nat → Nat} {D : Nat} : (docC F).setIfInBounds 10 (.int .i64 (D : Nat)) = docC (upd F 3 D) := by kernel_rfl
theorem tal_0 {F : Nat → Nat} {D : Nat} : (docC F).setIfInBounds 13 (.int .i64 (D : Nat)) = docC (upd F 4 D) := by kernel_rfl
theorem div_1 {F : Nat → Nat} {D : Nat} : (docC F).setIfInBounds 8 (.int .i64 (D : Nat)) = docC (upd F 6 D) := by kernel_rfl
theorem cnt_1 {F : Nat → Nat} {D : Nat} : (docC F).setIfInBounds 11 (.int .i64 (D : Nat)) = docC (upd F 7 D) := by kernel_rfl
theorem tal_1 {F : Nat → Nat} {D : Nat} : (docC F).setIfInBounds 14 (.int .i64 (D : Nat)) = docC (upd F 8 D) := by kernel_rfl
theorem div_2 {F : Nat → Nat} {D : Nat} : (docC F).setIfInBounds 9 (.int .i64 (D : Nat)) = docC (upd F 10 D) := by kernel_rfl
theorem cnt_2 {F : Nat → Nat} {D : Nat} : (docC F).setIfInBounds 12 (.int .i64 (D : Nat)) = docC (upd F 11 D) := by kernel_rfl
theorem tal_2 {F : Nat → Nat} {D : Nat} : (docC F).setIfInBounds 15 (.int .i64 (D : Nat)) = docC (upd F 12 D) := by kernel_rfl
theorem rstep_any {f : Nat → Nat} (n : Nat) (w : World) (hg : GoodT f) (hn : n ≤ 5000) : Calls Tryd.prog 11 #[.agg (docC f), .int .i64 (n : Nat)] w fun e w' => e = .returned (.agg (docC (itS f n))) ∧ Below w.heap.size w w' := by
  have hS := (Whole.fresh w 30 (docC f)).alloc (.cells docZ 30)
  have hZ := Whole.fresh (w.alloc (.cells (docC f) 30)) 30 docZ
  rw [alloc_size] at hZ
  have hB := ((Below.refl w.heap.size w).alloc (Nat.le_refl _) (.cells (docC f) 30)).alloc (by rw [alloc_size]; exact Nat.le_succ _) (.cells docZ 30)
  have h0 : Sto w w.heap.size f _ := ⟨hS, hZ, hB⟩
  clear hS hZ hB
  have P0 := Lib.hid fun W => (show Calls Tryd.prog 31 #[.int .i64 0] W fun e w' => e = .returned (.int .i64 128) ∧ w' = W from period_any 0 (by decide) W)
  have P1 := Lib.hid fun W => (show Calls Tryd.prog 31 #[.int .i64 1] W fun e w' => e = .returned (.int .i64 128) ∧ w' = W from period_any 1 (by decide) W)
  have P2 := Lib.hid fun W => (show Calls Tryd.prog 31 #[.int .i64 2] W fun e w' => e = .returned (.int .i64 16) ∧ w' = W from period_any 2 (by decide) W)
  obtain ⟨W, hW⟩ : ∃ W, (w.alloc (.cells (docC f) 30)).alloc (.cells docZ 30) = W := ⟨_, rfl⟩
  rw [hW] at h0
  unfold docZ at hW
  generalize hdc : docC f = dc at hW ⊢
  replace hdc := Lib.hid hdc
  replace hW := Lib.hid hW
  replace h0 := Lib.hid h0
  obtain ⟨T, hTe⟩ : ∃ T, w.heap.size = T := ⟨_, rfl⟩
  rw [hTe] at h0
  replace hTe := Lib.hid hTe
  have hgi := Lib.hid fun c => itS_good hg c
  clear hg
  have hni : (n : Int) ≤ 5000 := by omega
  go_enter Tryd.func11, Tryd.ntmps11
  go_upto_region 2 with (fail)
  rw [hW.out, hTe.out]
  go_loopw [5] (fun s5 wr => ∃ c : Nat, c ≤ n ∧ s5 = .int .i64 c ∧ Hid (Sto w T (itS f c) wr)) (fun s5 _ => n - (intOf s5).toNat)
  case atStart => exact ⟨0, Nat.zero_le _, rfl, h0⟩
  case round =>
    obtain ⟨c, hc, rfl, hH⟩ := hrel
    obtain ⟨wo, rfl⟩ : ∃ wo, wo = wr := ⟨_, rfl⟩
    clear h0
    by_cases hlt : c < n
    · have hgc := hgi.out c
      have hnx : ∀ V, Sto w T (stK (itS f c) 3) V → Sto w T (itS f (c + 1)) V := fun V h => h
      have hst : Sto w T (stK (itS f c) 0) wo := hH.out
      replace hnx := Lib.hid hnx
      replace hst := Lib.hid hst
      replace hgc := Lib.hid hgc
      clear hH
      generalize itS f c = F at *
      go_upto_region 5 with (fail)
      go_loopw [6] (fun s6 wr => ∃ k : Nat, k ≤ 3 ∧ s6 = .int .i64 k ∧ Hid (Sto w T (stK F k) wr)) (fun s6 _ => 3 - (intOf s6).toNat)
      case atStart => exact ⟨0, Nat.zero_le _, rfl, hst⟩
      case round =>
        obtain ⟨k, hk, rfl, hH⟩ := hrel
        obtain ⟨wi, rfl⟩ : ∃ wi, wi = wr := ⟨_, rfl⟩
        clear hst
        rcases (show k = 0 ∨ k = 1 ∨ k = 2 ∨ k = 3 by omega) with rfl | rfl | rfl | rfl
        · have hF := hH.out
          have hpas := (stK_pass F).1
          have hon := stK_on F 0 0
          have hb0 : ∀ i, stK F 0 i < 256 := by
            have hg := hgc.out
            intro i
            have := (pass_good (p := 1) (q := 128) (on := onF F 0) (f := F) (by decide) hg.byte hg.tal0 (by decide)).1
            have h2 := (pass_good (p := 5) (q := 128) (on := onF F 1) (f := stK F 1) (by decide) this (by show passF 1 128 _ F 8 < 16; rw [pass_away _ _ _ _ (by omega)]; exact hg.tal1) (by decide)).1
            first | exact hg.byte i | exact this i | exact h2 i
          have ht0 : stK F 0 4 < 16 ∧ stK F 0 2 < 128 := by
            have hg := hgc.out
            first
              | exact ⟨hg.tal0, hg.div0⟩
              | (show passF 1 128 (onF F 0) F 8 < 16 ∧ passF 1 128 (onF F 0) F 6 < 128
                 rw [pass_away _ _ _ _ (by omega), pass_away _ _ _ _ (by omega)]; exact ⟨hg.tal1, hg.div1⟩)
              | (show passF 5 128 (onF F 1) (passF 1 128 (onF F 0) F) 12 < 16 ∧ passF 5 128 (onF F 1) (passF 1 128 (onF F 0) F) 10 < 16
                 rw [pass_away _ _ _ _ (by omega), pass_away _ _ _ _ (by omega), pass_away _ _ _ _ (by omega), pass_away _ _ _ _ (by omega)]; exact ⟨hg.tal2, hg.div2⟩)
          generalize stK F 0 = E at *
          have x1 := hb0 2
          have x2 := hb0 3
          have x3 := hb0 4
          have x0 := hb0 1
          have c7 := hF.t.cell 7
          rw [show (docC E)[7]? = some (.int .i64 (E 2 : Nat)) from rfl] at c7
          have y7 := hF.t.free 7
          have e1 : IntKind.i64.wrap ((E 2 : Int) + 1) = (E 2 : Int) + 1 := by simp only [IntKind.wrap_i64]; omega
          obtain ⟨D, hD⟩ : ∃ D, (E 2 + 1) % 128 = D := ⟨_, rfl⟩
          have e2 : ((E 2 : Int) + 1).tmod 128 = (D : Int) := by rw [← hD, Int.tmod_eq_emod_of_nonneg (by omega)]; omega
          have h7 := hF.drew.put 7 (.int .i64 (D : Nat)) (div_0 (F := E) (D := D))
          have z7 := h7.t.cell 7
          rw [show (docC (upd E 2 D))[7]? = some (.int .i64 (D : Nat)) from rfl] at z7
          have z0 := h7.t.cell 0
          rw [show (docC (upd E 2 D))[0]? = some (.bool (onF (upd E 2 D) 0)) from rfl] at z0
          have hon7 : onF (upd E 2 D) 0 = onF F 0 := by rw [← hon]; rfl
          rw [hon7] at z0
          have z10 := h7.t.cell 10
          rw [show (docC (upd E 2 D))[10]? = some (.int .i64 (E 3 : Nat)) from rfl] at z10
          have y10 := h7.t.free 10
          have hcd := hF.t.cell 7
          replace hF := Lib.hid hF
          replace h7 := Lib.hid h7
          replace hpas := Lib.hid hpas
          replace hD := Lib.hid hD
          replace ht0 := Lib.hid ht0
          clear hcd hb0 hon hon7 hk
          go_upto_region 7 with (fail)
          refine wp_region_still_tail 11 (by kernel_rfl) (by kernel_rfl) ?_
          simp only [List.take_succ_cons, List.take_zero, List.drop_succ_cons, List.drop_zero]
          repeat still_step
          still_call ((P0.out _).mono (by rintro e w' ⟨rfl, rfl⟩; exact ⟨rfl, rfl⟩))
          repeat still_step
          refine wpStill_nil ?_
          show wpList _ _ _ _ _ wi.drew
          have c7d : wi.drew.cell? ⟨T, 7, none⟩ = some (.int .i64 (E 2 : Nat)) := c7
          have y7d : wi.drew.frozen? ⟨T, 7, none⟩ = false := y7
          clear c7 y7 e1 e2
          generalize wi.drew = W1 at *
          go_upto_region 8 with (fail)
          clear c7d y7d
          generalize W1.setCell ⟨T, 7, none⟩ (.int .i64 (D : Nat)) = W2 at *
          by_cases hl : E 2 + 1 < 128
          · have hDe : D = E 2 + 1 := by rw [← hD.out]; exact Nat.mod_eq_of_lt hl
            have t1 : ((D : Int) == 0) = false := beq_eq_false_iff_ne.2 (by omega)
            have hfin : Sto w T (stK F 1) W2 := by rw [hpas.out, passB_lt hl, ← hDe]; exact h7.out
            replace hfin := Lib.hid hfin
            clear hl hDe z10 y10
            go_wp2_with fail
            exact ⟨⟨1, by decide, rfl, hfin⟩, by simp only [intOf]; omega⟩
          · have hDe : D = 0 := by rw [← hD.out]; have := ht0.out.2; rw [show E 2 + 1 = 128 by omega]
            subst hDe
            cases hon : onF F 0 with
            | false =>
              rw [hon] at z0
              have hfin : Sto w T (stK F 1) W2 := by rw [hpas.out, hon, passB_off hl]; exact h7.out
              replace hfin := Lib.hid hfin
              replace hon := Lib.hid hon
              clear hl z10 y10
              go_wp2_with fail
              exact ⟨⟨1, by decide, rfl, hfin⟩, by simp only [intOf]; omega⟩
            | true =>
              rw [hon] at z0
              obtain ⟨C, hC⟩ : ∃ C, (E 3 + 1) % 256 = C := ⟨_, rfl⟩
              have e3 : ((E 3 : Int) + 1) % 256 = (C : Int) := by rw [← hC]; omega
              have h10 := h7.out.put 10 (.int .i64 (C : Nat)) (cnt_0 (F := upd E 2 0) (D := C))
              have w10 := h10.t.cell 10
              rw [show (docC (upd (upd E 2 0) 3 C))[10]? = some (.int .i64 (C : Nat)) from rfl] at w10
              have w4 := h10.t.cell 4
              rw [show (docC (upd (upd E 2 0) 3 C))[4]? = some (.int .i64 (E 1 : Nat)) from rfl] at w4
              replace h10 := Lib.hid h10
              replace hC := Lib.hid hC
              replace hon := Lib.hid hon
              go_upto_region 10 with (fail)
              clear z10 y10 z7 z0 e3
              generalize W2.setCell ⟨T, 10, none⟩ (.int .i64 (C : Nat)) = W3 at *
              go_quiet (fail)
              have h11 := h10.out.drewN nq
              have v10 := h11.t.cell 10
              rw [show (docC (upd (upd E 2 0) 3 C))[10]? = some (.int .i64 (C : Nat)) from rfl] at v10
              have u10 := h11.t.free 10
              have v13 := h11.t.cell 13
              rw [show (docC (upd (upd E 2 0) 3 C))[13]? = some (.int .i64 (E 4 : Nat)) from rfl] at v13
              replace h11 := Lib.hid h11
              clear w10 w4 h10
              generalize W3.drewN nq = W4 at *
              by_cases he : C = E 1
              · have he2 : (E 3 + 1) % 256 = E 1 := by rw [hC.out]; exact he
                subst he
                obtain ⟨Y, hY⟩ : ∃ Y, (E 4 + 1) % 16 = Y := ⟨_, rfl⟩
                have e4 : ((E 4 : Int) + 1) % 16 = (Y : Int) := by rw [← hY]; omega
                have h12 := h11.out.put 10 (.int .i64 ((0 : Nat) : Int)) (cnt_0 (F := upd (upd E 2 0) 3 (E 1)) (D := 0))
                rw [upd_twice] at h12
                have v13' : (W4.setCell ⟨T, 10, none⟩ (.int .i64 0)).cell? ⟨T, 13, none⟩ = some (.int .i64 (E 4 : Nat)) := h12.t.cell 13
                have u13' : (W4.setCell ⟨T, 10, none⟩ (.int .i64 0)).frozen? ⟨T, 13, none⟩ = false := h12.t.free 13
                have h13 := h12.put 13 (.int .i64 (Y : Nat)) (tal_0 (F := upd (upd E 2 0) 3 0) (D := Y))
                have hfin : Sto w T (stK F 1) ((W4.setCell ⟨T, 10, none⟩ (.int .i64 0)).setCell ⟨T, 13, none⟩ (.int .i64 (Y : Nat))) := by
                  rw [hpas.out, hon.out, passB_eq hl he2, hY]
                  exact h13
                replace hfin := Lib.hid hfin
                replace hY := Lib.hid hY
                replace he2 := Lib.hid he2
                clear hl h12 h13 v13 h7 h11
                generalize E 1 = tg at *
                generalize E 4 = ty at *
                go_wp2_with fail
                exact ⟨⟨1, by decide, rfl, hfin⟩, by simp only [intOf]; omega⟩
              · have he2 : ¬ (E 3 + 1) % 256 = E 1 := by rw [hC.out]; exact he
                have t4 : ((C : Int) == (E 1 : Int)) = false := beq_eq_false_iff_ne.2 (by omega)
                have hfin : Sto w T (stK F 1) W4 := by rw [hpas.out, hon.out, passB_ne hl he2, hC.out]; exact h11.out
                replace hfin := Lib.hid hfin
                replace he2 := Lib.hid he2
                clear hl h7 h11 he
                generalize E 1 = tg at *
                go_wp2_with fail
                exact ⟨⟨1, by decide, rfl, hfin⟩, by simp only [intOf]; omega⟩
        · have hF := hH.out
          have hpas := (stK_pass F).2.1
          have hon := stK_on F 1 1
          have hb0 : ∀ i, stK F 1 i < 256 := by
            have hg := hgc.out
            intro i
            have := (pass_good (p := 1) (q := 128) (on := onF F 0) (f := F) (by decide) hg.byte hg.tal0 (by decide)).1
            have h2 := (pass_good (p := 5) (q := 128) (on := onF F 1) (f := stK F 1) (by decide) this (by show passF 1 128 _ F 8 < 16; rw [pass_away _ _ _ _ (by omega)]; exact hg.tal1) (by decide)).1
            first | exact hg.byte i | exact this i | exact h2 i
          have ht0 : stK F 1 8 < 16 ∧ stK F 1 6 < 128 := by
            have hg := hgc.out
            first
              | exact ⟨hg.tal0, hg.div0⟩
              | (show passF 1 128 (onF F 0) F 8 < 16 ∧ passF 1 128 (onF F 0) F 6 < 128
                 rw [pass_away _ _ _ _ (by omega), pass_away _ _ _ _ (by omega)]; exact ⟨hg.tal1, hg.div1⟩)
              | (show passF 5 128 (onF F 1) (passF 1 128 (onF F 0) F) 12 < 16 ∧ passF 5 128 (onF F 1) (passF 1 128 (onF F 0) F) 10 < 16
                 rw [pass_away _ _ _ _ (by omega), pass_away _ _ _ _ (by omega), pass_away _ _ _ _ (by omega), pass_away _ _ _ _ (by omega)]; exact ⟨hg.tal2, hg.div2⟩)
          generalize stK F 1 = E at *
          have x1 := hb0 6
          have x2 := hb0 7
          have x3 := hb0 8
          have x0 := hb0 5
          have c7 := hF.t.cell 8
          rw [show (docC E)[8]? = some (.int .i64 (E 6 : Nat)) from rfl] at c7
          have y7 := hF.t.free 8
          have e1 : IntKind.i64.wrap ((E 6 : Int) + 1) = (E 6 : Int) + 1 := by simp only [IntKind.wrap_i64]; omega
          obtain ⟨D, hD⟩ : ∃ D, (E 6 + 1) % 128 = D := ⟨_, rfl⟩
          have e2 : ((E 6 : Int) + 1).tmod 128 = (D : Int) := by rw [← hD, Int.tmod_eq_emod_of_nonneg (by omega)]; omega
          have h7 := hF.drew.put 8 (.int .i64 (D : Nat)) (div_1 (F := E) (D := D))
          have z7 := h7.t.cell 8
          rw [show (docC (upd E 6 D))[8]? = some (.int .i64 (D : Nat)) from rfl] at z7
          have z0 := h7.t.cell 1
          rw [show (docC (upd E 6 D))[1]? = some (.bool (onF (upd E 6 D) 1)) from rfl] at z0
          have hon7 : onF (upd E 6 D) 1 = onF F 1 := by rw [← hon]; rfl
          rw [hon7] at z0
          have z10 := h7.t.cell 11
          rw [show (docC (upd E 6 D))[11]? = some (.int .i64 (E 7 : Nat)) from rfl] at z10
          have y10 := h7.t.free 11
          have hcd := hF.t.cell 8
          replace hF := Lib.hid hF
          replace h7 := Lib.hid h7
          replace hpas := Lib.hid hpas
          replace hD := Lib.hid hD
          replace ht0 := Lib.hid ht0
          clear hcd hb0 hon hon7 hk
          go_upto_region 7 with (fail)
          refine wp_region_still_tail 11 (by kernel_rfl) (by kernel_rfl) ?_
          simp only [List.take_succ_cons, List.take_zero, List.drop_succ_cons, List.drop_zero]
          repeat still_step
          still_call ((P1.out _).mono (by rintro e w' ⟨rfl, rfl⟩; exact ⟨rfl, rfl⟩))
          repeat still_step
          refine wpStill_nil ?_
          show wpList _ _ _ _ _ wi.drew
          have c7d : wi.drew.cell? ⟨T, 8, none⟩ = some (.int .i64 (E 6 : Nat)) := c7
          have y7d : wi.drew.frozen? ⟨T, 8, none⟩ = false := y7
          clear c7 y7 e1 e2
          generalize wi.drew = W1 at *
          go_upto_region 8 with (fail)
          clear c7d y7d
          generalize W1.setCell ⟨T, 8, none⟩ (.int .i64 (D : Nat)) = W2 at *
          by_cases hl : E 6 + 1 < 128
          · have hDe : D = E 6 + 1 := by rw [← hD.out]; exact Nat.mod_eq_of_lt hl
            have t1 : ((D : Int) == 0) = false := beq_eq_false_iff_ne.2 (by omega)
            have hfin : Sto w T (stK F 2) W2 := by rw [hpas.out, passB_lt hl, ← hDe]; exact h7.out
            replace hfin := Lib.hid hfin
            clear hl hDe z10 y10
            go_wp2_with fail
            exact ⟨⟨2, by decide, rfl, hfin⟩, by simp only [intOf]; omega⟩
          · have hDe : D = 0 := by rw [← hD.out]; have := ht0.out.2; rw [show E 6 + 1 = 128 by omega]
            subst hDe
            cases hon : onF F 1 with
            | false =>
              rw [hon] at z0
              have hfin : Sto w T (stK F 2) W2 := by rw [hpas.out, hon, passB_off hl]; exact h7.out
              replace hfin := Lib.hid hfin
              replace hon := Lib.hid hon
              clear hl z10 y10
              go_wp2_with fail
              exact ⟨⟨2, by decide, rfl, hfin⟩, by simp only [intOf]; omega⟩
            | true =>
              rw [hon] at z0
              obtain ⟨C, hC⟩ : ∃ C, (E 7 + 1) % 256 = C := ⟨_, rfl⟩
              have e3 : ((E 7 : Int) + 1) % 256 = (C : Int) := by rw [← hC]; omega
              have h10 := h7.out.put 11 (.int .i64 (C : Nat)) (cnt_1 (F := upd E 6 0) (D := C))
              have w10 := h10.t.cell 11
              rw [show (docC (upd (upd E 6 0) 7 C))[11]? = some (.int .i64 (C : Nat)) from rfl] at w10
              have w4 := h10.t.cell 5
              rw [show (docC (upd (upd E 6 0) 7 C))[5]? = some (.int .i64 (E 5 : Nat)) from rfl] at w4
              replace h10 := Lib.hid h10
              replace hC := Lib.hid hC
              replace hon := Lib.hid hon
              go_upto_region 10 with (fail)
              clear z10 y10 z7 z0 e3
              generalize W2.setCell ⟨T, 11, none⟩ (.int .i64 (C : Nat)) = W3 at *
              go_quiet (fail)
              have h11 := h10.out.drewN nq
              have v10 := h11.t.cell 11
              rw [show (docC (upd (upd E 6 0) 7 C))[11]? = some (.int .i64 (C : Nat)) from rfl] at v10
              have u10 := h11.t.free 11
              have v13 := h11.t.cell 14
              rw [show (docC (upd (upd E 6 0) 7 C))[14]? = some (.int .i64 (E 8 : Nat)) from rfl] at v13
              replace h11 := Lib.hid h11
              clear w10 w4 h10
              generalize W3.drewN nq = W4 at *
              by_cases he : C = E 5
              · have he2 : (E 7 + 1) % 256 = E 5 := by rw [hC.out]; exact he
                subst he
                obtain ⟨Y, hY⟩ : ∃ Y, (E 8 + 1) % 16 = Y := ⟨_, rfl⟩
                have e4 : ((E 8 : Int) + 1) % 16 = (Y : Int) := by rw [← hY]; omega
                have h12 := h11.out.put 11 (.int .i64 ((0 : Nat) : Int)) (cnt_1 (F := upd (upd E 6 0) 7 (E 5)) (D := 0))
                rw [upd_twice] at h12
                have v13' : (W4.setCell ⟨T, 11, none⟩ (.int .i64 0)).cell? ⟨T, 14, none⟩ = some (.int .i64 (E 8 : Nat)) := h12.t.cell 14
                have u13' : (W4.setCell ⟨T, 11, none⟩ (.int .i64 0)).frozen? ⟨T, 14, none⟩ = false := h12.t.free 14
                have h13 := h12.put 14 (.int .i64 (Y : Nat)) (tal_1 (F := upd (upd E 6 0) 7 0) (D := Y))
                have hfin : Sto w T (stK F 2) ((W4.setCell ⟨T, 11, none⟩ (.int .i64 0)).setCell ⟨T, 14, none⟩ (.int .i64 (Y : Nat))) := by
                  rw [hpas.out, hon.out, passB_eq hl he2, hY]
                  exact h13
                replace hfin := Lib.hid hfin
                replace hY := Lib.hid hY
                replace he2 := Lib.hid he2
                clear hl h12 h13 v13 h7 h11
                generalize E 5 = tg at *
                generalize E 8 = ty at *
                go_wp2_with fail
                exact ⟨⟨2, by decide, rfl, hfin⟩, by simp only [intOf]; omega⟩
              · have he2 : ¬ (E 7 + 1) % 256 = E 5 := by rw [hC.out]; exact he
                have t4 : ((C : Int) == (E 5 : Int)) = false := beq_eq_false_iff_ne.2 (by omega)
                have hfin : Sto w T (stK F 2) W4 := by rw [hpas.out, hon.out, passB_ne hl he2, hC.out]; exact h11.out
                replace hfin := Lib.hid hfin
                replace he2 := Lib.hid he2
                clear hl h7 h11 he
                generalize E 5 = tg at *
                go_wp2_with fail
                exact ⟨⟨2, by decide, rfl, hfin⟩, by simp only [intOf]; omega⟩
        · have hF := hH.out
          have hpas := (stK_pass F).2.2
          have hon := stK_on F 2 2
          have hb0 : ∀ i, stK F 2 i < 256 := by
            have hg := hgc.out
            intro i
            have := (pass_good (p := 1) (q := 128) (on := onF F 0) (f := F) (by decide) hg.byte hg.tal0 (by decide)).1
            have h2 := (pass_good (p := 5) (q := 128) (on := onF F 1) (f := stK F 1) (by decide) this (by show passF 1 128 _ F 8 < 16; rw [pass_away _ _ _ _ (by omega)]; exact hg.tal1) (by decide)).1
            first | exact hg.byte i | exact this i | exact h2 i
          have ht0 : stK F 2 12 < 16 ∧ stK F 2 10 < 16 := by
            have hg := hgc.out
            first
              | exact ⟨hg.tal0, hg.div0⟩
              | (show passF 1 128 (onF F 0) F 8 < 16 ∧ passF 1 128 (onF F 0) F 6 < 128
                 rw [pass_away _ _ _ _ (by omega), pass_away _ _ _ _ (by omega)]; exact ⟨hg.tal1, hg.div1⟩)
              | (show passF 5 128 (onF F 1) (passF 1 128 (onF F 0) F) 12 < 16 ∧ passF 5 128 (onF F 1) (passF 1 128 (onF F 0) F) 10 < 16
                 rw [pass_away _ _ _ _ (by omega), pass_away _ _ _ _ (by omega), pass_away _ _ _ _ (by omega), pass_away _ _ _ _ (by omega)]; exact ⟨hg.tal2, hg.div2⟩)
          generalize stK F 2 = E at *
          have x1 := hb0 10
          have x2 := hb0 11
          have x3 := hb0 12
          have x0 := hb0 9
          have c7 := hF.t.cell 9
          rw [show (docC E)[9]? = some (.int .i64 (E 10 : Nat)) from rfl] at c7
          have y7 := hF.t.free 9
          have e1 : IntKind.i64.wrap ((E 10 : Int) + 1) = (E 10 : Int) + 1 := by simp only [IntKind.wrap_i64]; omega
          obtain ⟨D, hD⟩ : ∃ D, (E 10 + 1) % 16 = D := ⟨_, rfl⟩
          have e2 : ((E 10 : Int) + 1).tmod 16 = (D : Int) := by rw [← hD, Int.tmod_eq_emod_of_nonneg (by omega)]; omega
          have h7 := hF.drew.put 9 (.int .i64 (D : Nat)) (div_2 (F := E) (D := D))
          have z7 := h7.t.cell 9
          rw [show (docC (upd E 10 D))[9]? = some (.int .i64 (D : Nat)) from rfl] at z7
          have z0 := h7.t.cell 2
          rw [show (docC (upd E 10 D))[2]? = some (.bool (onF (upd E 10 D) 2)) from rfl] at z0
          have hon7 : onF (upd E 10 D) 2 = onF F 2 := by rw [← hon]; rfl
          rw [hon7] at z0
          have z10 := h7.t.cell 12
          rw [show (docC (upd E 10 D))[12]? = some (.int .i64 (E 11 : Nat)) from rfl] at z10
          have y10 := h7.t.free 12
          have hcd := hF.t.cell 9
          replace hF := Lib.hid hF
          replace h7 := Lib.hid h7
          replace hpas := Lib.hid hpas
          replace hD := Lib.hid hD
          replace ht0 := Lib.hid ht0
          clear hcd hb0 hon hon7 hk
          go_upto_region 7 with (fail)
          refine wp_region_still_tail 11 (by kernel_rfl) (by kernel_rfl) ?_
          simp only [List.take_succ_cons, List.take_zero, List.drop_succ_cons, List.drop_zero]
          repeat still_step
          still_call ((P2.out _).mono (by rintro e w' ⟨rfl, rfl⟩; exact ⟨rfl, rfl⟩))
          repeat still_step
          refine wpStill_nil ?_
          show wpList _ _ _ _ _ wi.drew
          have c7d : wi.drew.cell? ⟨T, 9, none⟩ = some (.int .i64 (E 10 : Nat)) := c7
          have y7d : wi.drew.frozen? ⟨T, 9, none⟩ = false := y7
          clear c7 y7 e1 e2
          generalize wi.drew = W1 at *
          go_upto_region 8 with (fail)
          clear c7d y7d
          generalize W1.setCell ⟨T, 9, none⟩ (.int .i64 (D : Nat)) = W2 at *
          by_cases hl : E 10 + 1 < 16
          · have hDe : D = E 10 + 1 := by rw [← hD.out]; exact Nat.mod_eq_of_lt hl
            have t1 : ((D : Int) == 0) = false := beq_eq_false_iff_ne.2 (by omega)
            have hfin : Sto w T (stK F 3) W2 := by rw [hpas.out, passB_lt hl, ← hDe]; exact h7.out
            replace hfin := Lib.hid hfin
            clear hl hDe z10 y10
            go_wp2_with fail
            exact ⟨⟨3, by decide, rfl, hfin⟩, by simp only [intOf]; omega⟩
          · have hDe : D = 0 := by rw [← hD.out]; have := ht0.out.2; rw [show E 10 + 1 = 16 by omega]
            subst hDe
            cases hon : onF F 2 with
            | false =>
              rw [hon] at z0
              have hfin : Sto w T (stK F 3) W2 := by rw [hpas.out, hon, passB_off hl]; exact h7.out
              replace hfin := Lib.hid hfin
              replace hon := Lib.hid hon
              clear hl z10 y10
              go_wp2_with fail
              exact ⟨⟨3, by decide, rfl, hfin⟩, by simp only [intOf]; omega⟩
            | true =>
              rw [hon] at z0
              obtain ⟨C, hC⟩ : ∃ C, (E 11 + 1) % 256 = C := ⟨_, rfl⟩
              have e3 : ((E 11 : Int) + 1) % 256 = (C : Int) := by rw [← hC]; omega
              have h10 := h7.out.put 12 (.int .i64 (C : Nat)) (cnt_2 (F := upd E 10 0) (D := C))
              have w10 := h10.t.cell 12
              rw [show (docC (upd (upd E 10 0) 11 C))[12]? = some (.int .i64 (C : Nat)) from rfl] at w10
              have w4 := h10.t.cell 6
              rw [show (docC (upd (upd E 10 0) 11 C))[6]? = some (.int .i64 (E 9 : Nat)) from rfl] at w4
              replace h10 := Lib.hid h10
              replace hC := Lib.hid hC
              replace hon := Lib.hid hon
              go_upto_region 10 with (fail)
              clear z10 y10 z7 z0 e3
              generalize W2.setCell ⟨T, 12, none⟩ (.int .i64 (C : Nat)) = W3 at *
              go_quiet (fail)
              have h11 := h10.out.drewN nq
              have v10 := h11.t.cell 12
              rw [show (docC (upd (upd E 10 0) 11 C))[12]? = some (.int .i64 (C : Nat)) from rfl] at v10
              have u10 := h11.t.free 12
              have v13 := h11.t.cell 15
              rw [show (docC (upd (upd E 10 0) 11 C))[15]? = some (.int .i64 (E 12 : Nat)) from rfl] at v13
              replace h11 := Lib.hid h11
              clear w10 w4 h10
              generalize W3.drewN nq = W4 at *
              by_cases he : C = E 9
              · have he2 : (E 11 + 1) % 256 = E 9 := by rw [hC.out]; exact he
                subst he
                obtain ⟨Y, hY⟩ : ∃ Y, (E 12 + 1) % 16 = Y := ⟨_, rfl⟩
                have e4 : ((E 12 : Int) + 1) % 16 = (Y : Int) := by rw [← hY]; omega
                have h12 := h11.out.put 12 (.int .i64 ((0 : Nat) : Int)) (cnt_2 (F := upd (upd E 10 0) 11 (E 9)) (D := 0))
                rw [upd_twice] at h12
                have v13' : (W4.setCell ⟨T, 12, none⟩ (.int .i64 0)).cell? ⟨T, 15, none⟩ = some (.int .i64 (E 12 : Nat)) := h12.t.cell 15
                have u13' : (W4.setCell ⟨T, 12, none⟩ (.int .i64 0)).frozen? ⟨T, 15, none⟩ = false := h12.t.free 15
                have h13 := h12.put 15 (.int .i64 (Y : Nat)) (tal_2 (F := upd (upd E 10 0) 11 0) (D := Y))
                have hfin : Sto w T (stK F 3) ((W4.setCell ⟨T, 12, none⟩ (.int .i64 0)).setCell ⟨T, 15, none⟩ (.int .i64 (Y : Nat))) := by
                  rw [hpas.out, hon.out, passB_eq hl he2, hY]
                  exact h13
                replace hfin := Lib.hid hfin
                replace hY := Lib.hid hY
                replace he2 := Lib.hid he2
                clear hl h12 h13 v13 h7 h11
                generalize E 9 = tg at *
                generalize E 12 = ty at *
                go_wp2_with fail
                exact ⟨⟨3, by decide, rfl, hfin⟩, by simp only [intOf]; omega⟩
              · have he2 : ¬ (E 11 + 1) % 256 = E 9 := by rw [hC.out]; exact he
                have t4 : ((C : Int) == (E 9 : Int)) = false := beq_eq_false_iff_ne.2 (by omega)
                have hfin : Sto w T (stK F 3) W4 := by rw [hpas.out, hon.out, passB_ne hl he2, hC.out]; exact h11.out
                replace hfin := Lib.hid hfin
                replace he2 := Lib.hid he2
                clear hl h7 h11 he
                generalize E 9 = tg at *
                go_wp2_with fail
                exact ⟨⟨3, by decide, rfl, hfin⟩, by simp only [intOf]; omega⟩
        · have hE := Lib.hid (hnx.out _ hH.out)
          clear hk hH
          go_wp2_with fail
          refine ⟨⟨c + 1, by omega, by congr 1, hE⟩, ?_⟩
          simp only [intOf]
          omega
    · obtain rfl : c = n := by omega
      have hld := Lib.hid (load_doc hH.out.t)
      obtain ⟨hst, hfin⟩ := store_doc (itS f c) hH.out.z rfl
      have hB3 := Lib.hid (below_setRow (cs := docC (itS f c)) hH.out.bel (Nat.le_succ T))
      replace hst := Lib.hid hst
      replace hfin := Lib.hid hfin
      clear hH hc hlt
      go_wp2_with (first | (refine wpList_loadVar rfl 30 _ rfl _ _ rfl hld.out ?_) | (refine wpList_storeVar rfl 30 _ _ rfl _ _ rfl rfl hst.out ?_))
      exact bodyPost_ret (results_cell_row (fn := Tryd.f11) (p := 4) (ty := 30) rfl _ _ _ _ _ (0, 0) _ rfl hfin.out Tryd.underlying30 rfl (by kernel_rfl)) rfl ⟨rfl, by rw [hTe.out]; exact hB3.out⟩
end Go.Proofs.YtbdhdedlemndeaaDoor
