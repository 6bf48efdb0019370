/-
  The document's Write to the register 1 (genkwrt.py writes this text).
-/
import Derived.Test.YtbdhdedlemndeaaDoorKWr0
namespace Go.Proofs.YtbdhdedlemndeaaDoor
open Go.RowKit Go.Shelf
set_option maxRecDepth 1000000
set_option maxHeartbeats 40000000
set_option linter.unusedVariables false
set_option linter.unusedSimpArgs false

theorem rwrite_1 {f : Nat → Nat} (v : Nat) (w : World) (hv : v < 256) : Calls Tryd.prog 15 #[.agg (docC f), .int .u8 1, .int .u8 (v : Nat)] w fun e w' => e = .returned (.agg (docC (steerF f v))) ∧ Below w.heap.size w w' := by
  obtain ⟨W, hW⟩ : ∃ W, (w.alloc (.cells (docC f) 30)).alloc (.cells docZ 30) = W := ⟨_, rfl⟩
  have h0 := stg_start w f
  obtain ⟨T, hTe⟩ : ∃ T, w.heap.size = T := ⟨_, rfl⟩
  rw [hW, hTe] at h0
  unfold docZ at hW
  replace h0 : StG w T (docS f v 0) W := h0
  obtain ⟨b16, b32, _⟩ := kctl v hv
  have ww : IntKind.i64.wrap (v : Int) = (v : Int) := by simp only [IntKind.wrap_i64]; omega
  have tb0 : ((v : Int) % 2 == 1) = tbit v 0 ∧ ((v : Int).tmod 2 == 1) = tbit v 0 := by
    have e : ((v : Int).tmod 2) = (v : Int) % 2 := Int.tmod_eq_emod_of_nonneg (by omega)
    rw [e]; refine ⟨?_, ?_⟩ <;> (unfold tbit; rw [Bool.eq_iff_iff, beq_iff_eq, beq_iff_eq]; omega)
  have tb1 : ((v : Int) / 2 % 2 == 1) = tbit v 1 ∧ (((v : Int).tdiv 2).tmod 2 == 1) = tbit v 1 := by
    have e : (((v : Int).tdiv 2).tmod 2) = (v : Int) / 2 % 2 := by rw [Int.tdiv_eq_ediv_of_nonneg (by omega), Int.tmod_eq_emod_of_nonneg (by omega)]
    rw [e]; refine ⟨?_, ?_⟩ <;> (unfold tbit; rw [Bool.eq_iff_iff, beq_iff_eq, beq_iff_eq]; omega)
  have tb2 : ((v : Int) / 4 % 2 == 1) = tbit v 2 ∧ (((v : Int).tdiv 4).tmod 2 == 1) = tbit v 2 := by
    have e : (((v : Int).tdiv 4).tmod 2) = (v : Int) / 4 % 2 := by rw [Int.tdiv_eq_ediv_of_nonneg (by omega), Int.tmod_eq_emod_of_nonneg (by omega)]
    rw [e]; refine ⟨?_, ?_⟩ <;> (unfold tbit; rw [Bool.eq_iff_iff, beq_iff_eq, beq_iff_eq]; omega)
  have w0 : IntKind.i64.wrap ((v : Int) / 1) = (v : Int) / 1 ∧ IntKind.i64.wrap ((v : Int).tdiv 1) = (v : Int).tdiv 1 := by
    rw [Int.tdiv_eq_ediv_of_nonneg (by omega)]; refine ⟨?_, ?_⟩ <;> (simp only [IntKind.wrap_i64]; omega)
  have w1 : IntKind.i64.wrap ((v : Int) / 2) = (v : Int) / 2 ∧ IntKind.i64.wrap ((v : Int).tdiv 2) = (v : Int).tdiv 2 := by
    rw [Int.tdiv_eq_ediv_of_nonneg (by omega)]; refine ⟨?_, ?_⟩ <;> (simp only [IntKind.wrap_i64]; omega)
  have w2 : IntKind.i64.wrap ((v : Int) / 4) = (v : Int) / 4 ∧ IntKind.i64.wrap ((v : Int).tdiv 4) = (v : Int).tdiv 4 := by
    rw [Int.tdiv_eq_ediv_of_nonneg (by omega)]; refine ⟨?_, ?_⟩ <;> (simp only [IntKind.wrap_i64]; omega)
  generalize hdc : docC f = dc at hW ⊢
  replace hdc := Lib.hid hdc
  replace hTe := Lib.hid hTe
  replace hW := Lib.hid hW
  replace hv := Lib.hid hv
  replace h0 := Lib.hid h0
  replace b16 := Lib.hid b16
  replace b32 := Lib.hid b32
  replace tb0 := Lib.hid tb0
  replace tb1 := Lib.hid tb1
  replace tb2 := Lib.hid tb2
  replace w0 := Lib.hid w0
  replace w1 := Lib.hid w1
  replace w2 := Lib.hid w2
  go_enter Tryd.func15, Tryd.ntmps15
  go_upto_region 3 with (fail)
  rw [hW.out, hTe.out]
  go_loopw [7, 8] (fun s7 s8 wr => ∃ k : Nat, k ≤ 3 ∧ s7 = .int .i64 k ∧ Hid (StG w T (docS f v k) wr)) (fun s7 _ _ => 3 - (intOf s7).toNat)
  case atStart => exact ⟨0, Nat.zero_le _, rfl, h0⟩
  case round =>
    obtain ⟨k, hk, rfl, hH⟩ := hrel
    obtain ⟨wo, rfl⟩ : ∃ wo, wo = wr := ⟨_, rfl⟩
    clear h0
    rcases (show k = 0 ∨ k = 1 ∨ k = 2 ∨ k = 3 by omega) with rfl | rfl | rfl | rfl
    · have hF := hH.out
      have cx := hF.t.cell 0
      rw [show (docS f v 0)[0]? = some (.bool (onF f 0)) from rfl] at cx
      have yx := hF.t.free 0
      obtain ⟨ht, ht'⟩ := tb0.out
      have hw := w0.out.1
      have hw' := w0.out.2
      have hl : IntKind.i64.wrap ((1 : Int) * 2 ^ 0) = 1 := by decide
      have hk0 := Lib.hid (docS_keep0 (f := f) (v := v) (t := tbit v 0) rfl)
      have hk1 := Lib.hid (docS_turn0 (f := f) (v := v) (t := tbit v 0) rfl)
      have htu : turnB f v 0 = (tbit v 0 && !(onF f 0)) := rfl
      replace htu := Lib.hid htu
      clear hH
      generalize turnB f v 0 = tu at *
      generalize tbit v 0 = t at *
      generalize onF f 0 = on at *
      cases t with
      | false =>
        have hfin := (hF.put 0 (.bool false)).as (hk0.out htu.out)
        replace hfin := Lib.hid hfin
        clear hk hk1 hF
        go_wp2_with fail
        exact ⟨⟨1, by decide, rfl, hfin⟩, by simp only [intOf]; omega⟩
      | true =>
        cases on with
        | true =>
          have hfin := (hF.put 0 (.bool true)).as (hk0.out htu.out)
          replace hfin := Lib.hid hfin
          clear hk hk1 hF
          go_wp2_with fail
          exact ⟨⟨1, by decide, rfl, hfin⟩, by simp only [intOf]; omega⟩
        | false =>
          have h1 := hF.put 10 (.int .i64 0)
          have h2 := h1.put 13 (.int .i64 0)
          have cc := hF.t.cell 10
          rw [show (docS f v 0)[10]? = some (.int .i64 ((f) 3 : Nat)) from rfl] at cc
          have yc := hF.t.free 10
          have cy : (wo.setCell ⟨T, 10, none⟩ (.int .i64 0)).cell? ⟨T, 13, none⟩ = some (.int .i64 ((f) 4 : Nat)) := h1.t.cell 13
          have yy : (wo.setCell ⟨T, 10, none⟩ (.int .i64 0)).frozen? ⟨T, 13, none⟩ = false := h1.t.free 13
          have cz : ((wo.setCell ⟨T, 10, none⟩ (.int .i64 0)).setCell ⟨T, 13, none⟩ (.int .i64 0)).cell? ⟨T, 0, none⟩ = some (.bool _) := h2.t.cell 0
          have yz : ((wo.setCell ⟨T, 10, none⟩ (.int .i64 0)).setCell ⟨T, 13, none⟩ (.int .i64 0)).frozen? ⟨T, 0, none⟩ = false := h2.t.free 0
          have hfin := (h2.put 0 (.bool true)).as (hk1.out htu.out)
          replace hfin := Lib.hid hfin
          clear hk hk0 hk1 hF h1 h2
          generalize (f) 3 = X1 at *
          generalize (f) 4 = X2 at *
          go_wp2_with fail
          exact ⟨⟨1, by decide, rfl, hfin⟩, by simp only [intOf]; omega⟩
    · have hF := hH.out
      have cx := hF.t.cell 1
      rw [show (docS f v 1)[1]? = some (.bool (onF f 1)) from rfl] at cx
      have yx := hF.t.free 1
      obtain ⟨ht, ht'⟩ := tb1.out
      have hw := w1.out.1
      have hw' := w1.out.2
      have hl : IntKind.i64.wrap ((1 : Int) * 2 ^ 1) = 2 := by decide
      have hk0 := Lib.hid (docS_keep1 (f := f) (v := v) (t := tbit v 1) rfl)
      have hk1 := Lib.hid (docS_turn1 (f := f) (v := v) (t := tbit v 1) rfl)
      have htu : turnB f v 1 = (tbit v 1 && !(onF f 1)) := rfl
      replace htu := Lib.hid htu
      clear hH
      generalize turnB f v 1 = tu at *
      generalize tbit v 1 = t at *
      generalize onF f 1 = on at *
      cases t with
      | false =>
        have hfin := (hF.put 1 (.bool false)).as (hk0.out htu.out)
        replace hfin := Lib.hid hfin
        clear hk hk1 hF
        go_wp2_with fail
        exact ⟨⟨2, by decide, rfl, hfin⟩, by simp only [intOf]; omega⟩
      | true =>
        cases on with
        | true =>
          have hfin := (hF.put 1 (.bool true)).as (hk0.out htu.out)
          replace hfin := Lib.hid hfin
          clear hk hk1 hF
          go_wp2_with fail
          exact ⟨⟨2, by decide, rfl, hfin⟩, by simp only [intOf]; omega⟩
        | false =>
          have h1 := hF.put 11 (.int .i64 0)
          have h2 := h1.put 14 (.int .i64 0)
          have cc := hF.t.cell 11
          rw [show (docS f v 1)[11]? = some (.int .i64 ((stB1 f v) 7 : Nat)) from rfl] at cc
          have yc := hF.t.free 11
          have cy : (wo.setCell ⟨T, 11, none⟩ (.int .i64 0)).cell? ⟨T, 14, none⟩ = some (.int .i64 ((stB1 f v) 8 : Nat)) := h1.t.cell 14
          have yy : (wo.setCell ⟨T, 11, none⟩ (.int .i64 0)).frozen? ⟨T, 14, none⟩ = false := h1.t.free 14
          have cz : ((wo.setCell ⟨T, 11, none⟩ (.int .i64 0)).setCell ⟨T, 14, none⟩ (.int .i64 0)).cell? ⟨T, 1, none⟩ = some (.bool _) := h2.t.cell 1
          have yz : ((wo.setCell ⟨T, 11, none⟩ (.int .i64 0)).setCell ⟨T, 14, none⟩ (.int .i64 0)).frozen? ⟨T, 1, none⟩ = false := h2.t.free 1
          have hfin := (h2.put 1 (.bool true)).as (hk1.out htu.out)
          replace hfin := Lib.hid hfin
          clear hk hk0 hk1 hF h1 h2
          generalize (stB1 f v) 7 = X1 at *
          generalize (stB1 f v) 8 = X2 at *
          go_wp2_with fail
          exact ⟨⟨2, by decide, rfl, hfin⟩, by simp only [intOf]; omega⟩
    · have hF := hH.out
      have cx := hF.t.cell 2
      rw [show (docS f v 2)[2]? = some (.bool (onF f 2)) from rfl] at cx
      have yx := hF.t.free 2
      obtain ⟨ht, ht'⟩ := tb2.out
      have hw := w2.out.1
      have hw' := w2.out.2
      have hl : IntKind.i64.wrap ((1 : Int) * 2 ^ 2) = 4 := by decide
      have hk0 := Lib.hid (docS_keep2 (f := f) (v := v) (t := tbit v 2) rfl)
      have hk1 := Lib.hid (docS_turn2 (f := f) (v := v) (t := tbit v 2) rfl)
      have htu : turnB f v 2 = (tbit v 2 && !(onF f 2)) := rfl
      replace htu := Lib.hid htu
      clear hH
      generalize turnB f v 2 = tu at *
      generalize tbit v 2 = t at *
      generalize onF f 2 = on at *
      cases t with
      | false =>
        have hfin := (hF.put 2 (.bool false)).as (hk0.out htu.out)
        replace hfin := Lib.hid hfin
        clear hk hk1 hF
        go_wp2_with fail
        exact ⟨⟨3, by decide, rfl, hfin⟩, by simp only [intOf]; omega⟩
      | true =>
        cases on with
        | true =>
          have hfin := (hF.put 2 (.bool true)).as (hk0.out htu.out)
          replace hfin := Lib.hid hfin
          clear hk hk1 hF
          go_wp2_with fail
          exact ⟨⟨3, by decide, rfl, hfin⟩, by simp only [intOf]; omega⟩
        | false =>
          have h1 := hF.put 12 (.int .i64 0)
          have h2 := h1.put 15 (.int .i64 0)
          have cc := hF.t.cell 12
          rw [show (docS f v 2)[12]? = some (.int .i64 ((stB2 f v) 11 : Nat)) from rfl] at cc
          have yc := hF.t.free 12
          have cy : (wo.setCell ⟨T, 12, none⟩ (.int .i64 0)).cell? ⟨T, 15, none⟩ = some (.int .i64 ((stB2 f v) 12 : Nat)) := h1.t.cell 15
          have yy : (wo.setCell ⟨T, 12, none⟩ (.int .i64 0)).frozen? ⟨T, 15, none⟩ = false := h1.t.free 15
          have cz : ((wo.setCell ⟨T, 12, none⟩ (.int .i64 0)).setCell ⟨T, 15, none⟩ (.int .i64 0)).cell? ⟨T, 2, none⟩ = some (.bool _) := h2.t.cell 2
          have yz : ((wo.setCell ⟨T, 12, none⟩ (.int .i64 0)).setCell ⟨T, 15, none⟩ (.int .i64 0)).frozen? ⟨T, 2, none⟩ = false := h2.t.free 2
          have hfin := (h2.put 2 (.bool true)).as (hk1.out htu.out)
          replace hfin := Lib.hid hfin
          clear hk hk0 hk1 hF h1 h2
          generalize (stB2 f v) 11 = X1 at *
          generalize (stB2 f v) 12 = X2 at *
          go_wp2_with fail
          exact ⟨⟨3, by decide, rfl, hfin⟩, by simp only [intOf]; omega⟩
    · replace hH : StG w T (docG (tbit v 0) (tbit v 1) (tbit v 2) (decide (128 ≤ f 0)) (stB f v 3)) wo := hH.out
      clear hk
      have hE : ∀ (m : Bool) (g : Nat → Nat) (t : Bool), t = decide (128 ≤ v) → g = highF (lowF (stB f v 3) v) v → (docG (tbit v 0) (tbit v 1) (tbit v 2) m g).setIfInBounds 3 (.bool t) = docC (steerF f v) := fun m g t => endG hv.out t
      replace hE := Lib.hid hE
      generalize tbit v 0 = t0 at *
      generalize tbit v 1 = t1 at *
      generalize tbit v 2 = t2 at *
      generalize decide (128 ≤ f 0) = m at *
      have hL0 := Lib.hid hH
      clear hH
      go_upto_if 42 with (fail)
      go_cut [] (fun V => Hid (StG w T (docG t0 t1 t2 m (lowF (stB f v 3) v)) V))
      case first =>
        have e0 := b16.out
        by_cases hb : v / 16 % 2 = 1
        · rw [decide_eq_true hb] at e0
          have cc1 : wo.cell? ⟨T, 16, none⟩ = some (.int .u8 ((stB f v 3) 13 : Nat)) := hL0.out.t.cell 16
          have yy1 : wo.frozen? ⟨T, 16, none⟩ = false := hL0.out.t.free 16
          have h1 := hL0.out.put 16 (.int .u8 0)
          have cc2 : (wo.setCell ⟨T, 16, none⟩ (.int .u8 0)).cell? ⟨T, 17, none⟩ = some (.int .u8 ((stB f v 3) 14 : Nat)) := h1.t.cell 17
          have yy2 : (wo.setCell ⟨T, 16, none⟩ (.int .u8 0)).frozen? ⟨T, 17, none⟩ = false := h1.t.free 17
          have hfin := Lib.hid ((h1.put 17 (.int .u8 0)).as (show _ = docG t0 t1 t2 m (lowF (stB f v 3) v) by rw [lowG, show lowF (stB f v 3) v = _ from if_pos hb]))
          replace hb := Lib.hid hb
          clear h1
          generalize (stB f v 3) 13 = X1 at *
          generalize (stB f v 3) 14 = X2 at *
          go_wp2_with fail
          go_meet
          exact hfin
        · rw [decide_eq_false hb] at e0
          have hfin := Lib.hid (hL0.out.as (show _ = docG t0 t1 t2 m (lowF (stB f v 3) v) by rw [show lowF (stB f v 3) v = stB f v 3 from if_neg hb]))
          replace hb := Lib.hid hb
          go_wp2_with fail
          go_meet
          exact hfin
      case rest =>
        have hL1 := hcut
        obtain ⟨W5, rfl⟩ : ∃ WW, WW = wc := ⟨_, rfl⟩
        clear hcut hL0
        go_upto_if 49 with (fail)
        go_cut [] (fun V => Hid (StG w T (docG t0 t1 t2 m (highF (lowF (stB f v 3) v) v)) V))
        case first =>
          have e0 := b32.out
          by_cases hb : v / 32 % 2 = 1
          · rw [decide_eq_true hb] at e0
            have cc1 : W5.cell? ⟨T, 18, none⟩ = some (.int .u8 ((lowF (stB f v 3) v) 15 : Nat)) := hL1.out.t.cell 18
            have yy1 : W5.frozen? ⟨T, 18, none⟩ = false := hL1.out.t.free 18
            have h1 := hL1.out.put 18 (.int .u8 0)
            have cc2 : (W5.setCell ⟨T, 18, none⟩ (.int .u8 0)).cell? ⟨T, 19, none⟩ = some (.int .u8 ((lowF (stB f v 3) v) 16 : Nat)) := h1.t.cell 19
            have yy2 : (W5.setCell ⟨T, 18, none⟩ (.int .u8 0)).frozen? ⟨T, 19, none⟩ = false := h1.t.free 19
            have hfin := Lib.hid ((h1.put 19 (.int .u8 0)).as (show _ = docG t0 t1 t2 m (highF (lowF (stB f v 3) v) v) by rw [highG, show highF (lowF (stB f v 3) v) v = _ from if_pos hb]))
            replace hb := Lib.hid hb
            clear h1
            generalize (lowF (stB f v 3) v) 15 = X1 at *
            generalize (lowF (stB f v 3) v) 16 = X2 at *
            go_wp2_with fail
            go_meet
            exact hfin
          · rw [decide_eq_false hb] at e0
            have hfin := Lib.hid (hL1.out.as (show _ = docG t0 t1 t2 m (highF (lowF (stB f v 3) v) v) by rw [show highF (lowF (stB f v 3) v) v = lowF (stB f v 3) v from if_neg hb]))
            replace hb := Lib.hid hb
            go_wp2_with fail
            go_meet
            exact hfin
        case rest =>
          have hL2 := hcut
          obtain ⟨W6, rfl⟩ : ∃ WW, WW = wc := ⟨_, rfl⟩
          clear hcut hL1
          have cc3 : W6.cell? ⟨T, 3, none⟩ = some (.bool m) := hL2.out.t.cell 3
          have yy3 : W6.frozen? ⟨T, 3, none⟩ = false := hL2.out.t.free 3
          by_cases hsh : 128 ≤ v
          · have hfn : (docG t0 t1 t2 m (highF (lowF (stB f v 3) v) v)).setIfInBounds 3 (.bool true) = docC (steerF f v) := hE.out m _ _ (by exact (decide_eq_true hsh).symm) rfl
            obtain ⟨hld, hst, hfin, hB3⟩ := ((hL2.out.put 3 (.bool true)).as hfn).back
            replace hld := Lib.hid hld
            replace hst := Lib.hid hst
            replace hfin := Lib.hid hfin
            replace hB3 := Lib.hid hB3
            have q : (128 : Int) ≤ (v : Int) := by omega
            replace hsh := Lib.hid hsh
            clear hL2 hE hfn
            go_wp2_with (first | (refine wpList_loadVar rfl 30 _ rfl _ _ rfl hld.out ?_) | (refine wpList_storeVar rfl 30 _ _ rfl _ _ rfl rfl hst.out ?_))
            exact bodyPost_ret (results_cell_row (fn := Tryd.f15) (p := 6) (ty := 30) rfl _ _ _ _ _ (0, 0) _ rfl hfin.out Tryd.underlying30 rfl (by kernel_rfl)) rfl ⟨rfl, by rw [hTe.out]; exact hB3.out⟩
          · have hfn : (docG t0 t1 t2 m (highF (lowF (stB f v 3) v) v)).setIfInBounds 3 (.bool false) = docC (steerF f v) := hE.out m _ _ (by exact (decide_eq_false hsh).symm) rfl
            obtain ⟨hld, hst, hfin, hB3⟩ := ((hL2.out.put 3 (.bool false)).as hfn).back
            replace hld := Lib.hid hld
            replace hst := Lib.hid hst
            replace hfin := Lib.hid hfin
            replace hB3 := Lib.hid hB3
            have q : ¬ (128 : Int) ≤ (v : Int) := by omega
            replace hsh := Lib.hid hsh
            clear hL2 hE hfn
            go_wp2_with (first | (refine wpList_loadVar rfl 30 _ rfl _ _ rfl hld.out ?_) | (refine wpList_storeVar rfl 30 _ _ rfl _ _ rfl rfl hst.out ?_))
            exact bodyPost_ret (results_cell_row (fn := Tryd.f15) (p := 6) (ty := 30) rfl _ _ _ _ _ (0, 0) _ rfl hfin.out Tryd.underlying30 rfl (by kernel_rfl)) rfl ⟨rfl, by rw [hTe.out]; exact hB3.out⟩
end Go.Proofs.YtbdhdedlemndeaaDoor
