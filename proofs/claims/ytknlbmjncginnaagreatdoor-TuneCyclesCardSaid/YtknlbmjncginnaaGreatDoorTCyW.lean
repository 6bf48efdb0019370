/-
  TuneCycles: the walk.
-/
import Derived.Test.YtknlbmjncginnaaGreatDoorTCyK
import Derived.Deep.RegionHeld3
import Derived.Deep.DeepCutAuto
import Derived.StillTailTactics
import Derived.BigQuiet
namespace Go.Proofs.YtknlbmjncginnaaGreatDoor.tuneCycles
open Go.RowKit Go.Shelf
set_option maxRecDepth 100000
set_option maxHeartbeats 4000000
set_option linter.unusedVariables false
set_option linter.unusedSimpArgs false

theorem walk (r : Rp) (a : Option Addr) (n c y : Nat) (fA fV : Nat → Nat) (W : World) (hr : r.Ok) (hC : CRow W a n fA fV) (hn : n ≤ 140737488355328) (hy : y < 256) :
    Calls Tryz.prog 6 #[pegV r, .slice a n c, .int .u8 y] W fun e W' => e = .returned (.bool true) ∧ Below W.heap.size W W' := by
  have HS := Lib.hid (fun V => sums_any V)
  obtain ⟨f, hf⟩ : ∃ f, memC (mem0 y) fA fV n = f := ⟨_, rfl⟩
  have hfl : ∀ i, i < 65536 → f i < 256 := by
    subst hf
    have key : ∀ k, k ≤ n → ∀ i, memC (mem0 y) fA fV k i < 256 := by
      intro k
      induction k with
      | zero => intro _ i; exact Nat.mod_lt _ (by decide)
      | succ k ih =>
        intro hk i
        show upd (memC (mem0 y) fA fV k) (fA k) (fV k) i < 256
        unfold upd
        split
        · exact (hC.1 k (by omega)).2
        · exact ih (by omega) i
    exact fun i _ => key n (Nat.le_refl n) i
  have hqok : Sc.Ok ⟨some f, []⟩ := ⟨fun x hx => absurd hx List.not_mem_nil, fun g h i hi => by injection h with h; subst h; exact hfl i hi⟩
  obtain ⟨l, q', u, hgo, -⟩ := go_some (runM actA r) [] ⟨some f, []⟩ f rfl
  obtain ⟨u0, r'⟩ := u
  have HM := Lib.hid fun (V : World) (hV : CRow V a n fA fV) => memory_any a n c y fA fV V hV hn hy
  have HR := Lib.hid fun (G : Nat) (V : World) (hV : Row V (some ⟨G, 0, none⟩) 65536 f) => runlaw_all r (some ⟨G, 0, none⟩) 65536 f V hr hV (Nat.le_refl _)
  have hmost := run_most r ⟨some f, []⟩ hqok
  have hforms := run_forms r ⟨some f, []⟩
  rw [hgo] at hmost hforms
  dsimp only at hmost hforms
  have hhalt : r.H = true → l = [(0, 0, 0)] ∧ r' = r := fun h => by
    have e := run_halted r ⟨some f, []⟩ h
    rw [e] at hgo
    injection hgo with h1 h2
    injection h2 with _ h2
    injection h2 with h2
    injection h2 with _ h2
    exact ⟨h1.symm, h2.symm⟩
  have hgoes : r.H = false → 2 ≤ l.length ∧ ∃ t, l = (1, r.Pc, 0) :: t := fun h => by
    obtain ⟨t, ht⟩ := run_head r ⟨some f, []⟩ h hr.Pc
    rw [hgo] at ht
    exact ⟨run_least r ⟨some f, []⟩ q' l (u0, r') hqok h hgo, t, ht⟩
  have hfin := Lib.hid (And.intro hmost (And.intro hforms (And.intro hhalt hgoes)))
  have hgoH := Lib.hid hgo
  replace hf := Lib.hid hf
  clear hgo hmost hforms hhalt hgoes hqok hfl
  have hx := Lib.hid (Whole.fresh W 24 (pegC r))
  have hb0 := Lib.hid ((Below.refl W.heap.size W).alloc (Nat.le_refl _) (.cells (pegC r) 24))
  have hCC := Lib.hid hC
  clear hC
  unfold pegC at hx hb0
  unfold pegV
  go_enter Tryz.func6, Tryz.ntmps6
  go_wp2_with fail
  with_reducible refine (HS.out _).mono ?_
  rintro e W1 ⟨rfl, hb1⟩
  have hx1 := hx.out.below hb1 hx.out.lt
  replace hb1 := hb0.out.trans (hb1.mono (by simp))
  have hC1 := Lib.hid (hCC.out.below hb1)
  clear hx hb0 HS hCC
  obtain ⟨X, hX⟩ : ∃ X, W.heap.size = X := ⟨_, rfl⟩
  have hXs : W.heap.size ≤ W1.heap.size := hb1.size
  rw [hX] at hx1 ⊢
  replace hX := Lib.hid hX
  obtain ⟨wo, rfl⟩ : ∃ wo, wo = W1 := ⟨_, rfl⟩
  have H1 : ∀ V, Below wo.heap.size wo V → Calls Tryz.prog 19 #[.slice a n c, .int .u8 y] V fun e V' => ∃ G, e = .returned (.slice (some ⟨G, 0, none⟩) 65536 65536) ∧ Row V' (some ⟨G, 0, none⟩) 65536 f ∧ Below wo.heap.size wo V' ∧ Below V.heap.size V V' := fun V hV => by
    refine (HM.out V (hC1.out.below hV)).mono ?_
    rintro e V' ⟨rfl, h2, h3⟩
    rw [hf.out] at h2
    exact ⟨_, rfl, h2.row, hV.trans (h3.mono hV.size), h3⟩
  have H2 : ∀ (G : Nat) V, Below wo.heap.size wo V → Row V (some ⟨G, 0, none⟩) 65536 f → Calls Tryz.prog 21 #[pegV r, .slice (some ⟨G, 0, none⟩) 65536 65536] V fun e V' => ∃ lv, e = .returned (.tuple #[lv, pegV r', .int .i64 0]) ∧ V'.ownsRow wo.heap.size 42 3 lv l.length (accX l) ∧ Below wo.heap.size wo V' ∧ Below V.heap.size V V' := fun G V hV hR => by
    refine (HR.out G V hR).mono ?_
    rintro e V' ⟨s', lv, h1, h2, -, h4, -, rfl⟩
    unfold Ran s0 at h4
    dsimp only at h4
    have e2 := hgoH.out.symm.trans h4
    injection e2 with e2 e3
    injection e3 with _ e3
    injection e3 with e3
    injection e3 with _ e3
    subst e2
    subst e3
    exact ⟨lv, rfl, own_mono h2 hV.size, hV.trans (h1.mono hV.size), h1⟩
  have HCell : ∀ V, Below wo.heap.size wo V → V.cell? ⟨X, 0, none⟩ = some (.int .u8 (r.A : Nat)) ∧ V.cell? ⟨X, 1, none⟩ = some (.int .u8 (r.X : Nat)) ∧ V.cell? ⟨X, 2, none⟩ = some (.int .u8 (r.Y : Nat)) ∧ V.cell? ⟨X, 3, none⟩ = some (.int .u8 (r.S : Nat)) ∧ V.cell? ⟨X, 4, none⟩ = some (.int .u8 (r.P : Nat)) ∧ V.cell? ⟨X, 5, none⟩ = some (.int .u16 (r.Pc : Nat)) ∧ V.cell? ⟨X, 6, none⟩ = some (.bool r.H) := fun V hV => by
    have x := hx1.below hV hx1.lt
    exact ⟨x.cell 0, x.cell 1, x.cell 2, x.cell 3, x.cell 4, x.cell 5, x.cell 6⟩
  have hB0 : Below wo.heap.size wo wo := Below.refl _ _
  obtain ⟨d0, d1, d2, d3, d4, d5, d6⟩ := HCell wo hB0
  unfold pegV at H2
  replace H1 := Lib.hid H1
  replace H2 := Lib.hid H2
  replace HCell := Lib.hid HCell
  have hB0h := Lib.hid hB0
  have hbw := Lib.hid hb1
  replace hXs := Lib.hid hXs
  replace hx1 := Lib.hid hx1
  clear HM HR hC1 hB0 hb1 hf hgoH
  have HSet := Lib.hid fun (V : World) (Z : Nat) (hV : Below wo.heap.size wo V) (hZ : wo.heap.size ≤ Z) => (show (((((((V.setCell ⟨Z, 0, none⟩ (.int .u8 (r'.A : Nat))).setCell ⟨Z, 1, none⟩ (.int .u8 (r'.X : Nat))).setCell ⟨Z, 2, none⟩ (.int .u8 (r'.Y : Nat))).setCell ⟨Z, 3, none⟩ (.int .u8 (r'.S : Nat))).setCell ⟨Z, 4, none⟩ (.int .u8 (r'.P : Nat))).setCell ⟨Z, 5, none⟩ (.int .u16 (r'.Pc : Nat))).setCell ⟨Z, 6, none⟩ (.bool r'.H)).cell? ⟨X, 0, none⟩ = some (.int .u8 (r.A : Nat)) ∧ (((((((V.setCell ⟨Z, 0, none⟩ (.int .u8 (r'.A : Nat))).setCell ⟨Z, 1, none⟩ (.int .u8 (r'.X : Nat))).setCell ⟨Z, 2, none⟩ (.int .u8 (r'.Y : Nat))).setCell ⟨Z, 3, none⟩ (.int .u8 (r'.S : Nat))).setCell ⟨Z, 4, none⟩ (.int .u8 (r'.P : Nat))).setCell ⟨Z, 5, none⟩ (.int .u16 (r'.Pc : Nat))).setCell ⟨Z, 6, none⟩ (.bool r'.H)).cell? ⟨X, 1, none⟩ = some (.int .u8 (r.X : Nat)) ∧ (((((((V.setCell ⟨Z, 0, none⟩ (.int .u8 (r'.A : Nat))).setCell ⟨Z, 1, none⟩ (.int .u8 (r'.X : Nat))).setCell ⟨Z, 2, none⟩ (.int .u8 (r'.Y : Nat))).setCell ⟨Z, 3, none⟩ (.int .u8 (r'.S : Nat))).setCell ⟨Z, 4, none⟩ (.int .u8 (r'.P : Nat))).setCell ⟨Z, 5, none⟩ (.int .u16 (r'.Pc : Nat))).setCell ⟨Z, 6, none⟩ (.bool r'.H)).cell? ⟨X, 2, none⟩ = some (.int .u8 (r.Y : Nat)) ∧ (((((((V.setCell ⟨Z, 0, none⟩ (.int .u8 (r'.A : Nat))).setCell ⟨Z, 1, none⟩ (.int .u8 (r'.X : Nat))).setCell ⟨Z, 2, none⟩ (.int .u8 (r'.Y : Nat))).setCell ⟨Z, 3, none⟩ (.int .u8 (r'.S : Nat))).setCell ⟨Z, 4, none⟩ (.int .u8 (r'.P : Nat))).setCell ⟨Z, 5, none⟩ (.int .u16 (r'.Pc : Nat))).setCell ⟨Z, 6, none⟩ (.bool r'.H)).cell? ⟨X, 3, none⟩ = some (.int .u8 (r.S : Nat)) ∧ (((((((V.setCell ⟨Z, 0, none⟩ (.int .u8 (r'.A : Nat))).setCell ⟨Z, 1, none⟩ (.int .u8 (r'.X : Nat))).setCell ⟨Z, 2, none⟩ (.int .u8 (r'.Y : Nat))).setCell ⟨Z, 3, none⟩ (.int .u8 (r'.S : Nat))).setCell ⟨Z, 4, none⟩ (.int .u8 (r'.P : Nat))).setCell ⟨Z, 5, none⟩ (.int .u16 (r'.Pc : Nat))).setCell ⟨Z, 6, none⟩ (.bool r'.H)).cell? ⟨X, 4, none⟩ = some (.int .u8 (r.P : Nat)) ∧ (((((((V.setCell ⟨Z, 0, none⟩ (.int .u8 (r'.A : Nat))).setCell ⟨Z, 1, none⟩ (.int .u8 (r'.X : Nat))).setCell ⟨Z, 2, none⟩ (.int .u8 (r'.Y : Nat))).setCell ⟨Z, 3, none⟩ (.int .u8 (r'.S : Nat))).setCell ⟨Z, 4, none⟩ (.int .u8 (r'.P : Nat))).setCell ⟨Z, 5, none⟩ (.int .u16 (r'.Pc : Nat))).setCell ⟨Z, 6, none⟩ (.bool r'.H)).cell? ⟨X, 5, none⟩ = some (.int .u16 (r.Pc : Nat)) ∧ (((((((V.setCell ⟨Z, 0, none⟩ (.int .u8 (r'.A : Nat))).setCell ⟨Z, 1, none⟩ (.int .u8 (r'.X : Nat))).setCell ⟨Z, 2, none⟩ (.int .u8 (r'.Y : Nat))).setCell ⟨Z, 3, none⟩ (.int .u8 (r'.S : Nat))).setCell ⟨Z, 4, none⟩ (.int .u8 (r'.P : Nat))).setCell ⟨Z, 5, none⟩ (.int .u16 (r'.Pc : Nat))).setCell ⟨Z, 6, none⟩ (.bool r'.H)).cell? ⟨X, 6, none⟩ = some (.bool r.H) from HCell.out _ (bel_set7 hV hZ r'))
  go_upto_region 3 with (fail)
  go_cut [7, 8, 9] (fun s7 s8 s9 V => ∃ (Z : Nat), s8 = .pointer (some ⟨Z, 0, none⟩) ∧ s9 = .int .i64 0 ∧ Left wo V s7 l Z r')
  case first =>
    go_region_held3 (fun V => V.cell? ⟨X, 0, none⟩ = some (.int .u8 (r.A : Nat)) ∧ V.cell? ⟨X, 1, none⟩ = some (.int .u8 (r.X : Nat)) ∧ V.cell? ⟨X, 2, none⟩ = some (.int .u8 (r.Y : Nat)) ∧ V.cell? ⟨X, 3, none⟩ = some (.int .u8 (r.S : Nat)) ∧ V.cell? ⟨X, 4, none⟩ = some (.int .u8 (r.P : Nat)) ∧ V.cell? ⟨X, 5, none⟩ = some (.int .u16 (r.Pc : Nat)) ∧ V.cell? ⟨X, 6, none⟩ = some (.bool r.H))
      (first | (with_reducible exact HCell.out _ hB1.out) | (with_reducible exact HCell.out _ hB2.out) | (with_reducible exact HCell.out _ (bel_alloc hB2.out _)) | (with_reducible exact HCell.out _ (bel_alloc hB1.out _)) | (with_reducible exact HSet.out _ _ hB2.out (Nat.le_refl _)) | (with_reducible exact HSet.out _ _ hB2.out hB1.out.size) | go_keep)
      (first
        | (go_at_call 19; (with_reducible refine (H1.out _ ?_).mono ?_); (repeat' (first | (with_reducible exact hB0h.out) | (with_reducible refine Below.drew ?_) | (with_reducible refine below_drewN ?_ _) | (with_reducible refine bel_alloc ?_ _))); rintro e W5 ⟨G, rfl, hRc, hB1, hF1⟩; (first | have hz := Lib.hid (wh_after hF1) | have hz := Lib.hid (wh_after2 hF1) | skip); replace hB1 := Lib.hid hB1; replace hRc := Lib.hid hRc)
        | (go_at_call 21; (with_reducible refine (H2.out _ _ ?_ ?_).mono ?_); (repeat' (first | (with_reducible exact hB1.out) | (with_reducible exact hRc.out) | (with_reducible refine Below.drew ?_) | (with_reducible refine below_drewN ?_ _) | (with_reducible refine bel_alloc ?_ _) | (with_reducible refine row_drew ?_) | (with_reducible refine row_drewN ?_ _) | (with_reducible refine row_alloc ?_ _))); rintro e W6 ⟨lv, rfl, hO6, hB2, hF2⟩; (first | have hz := Lib.hid (wh_after hF2) | have hz := Lib.hid (wh_after2 hF2) | have hz := Lib.hid (hz.out.below hF2 hz.out.lt) | skip); (first | (have f0 := (wh_zero hz.out).1.1; have f1 := (wh_zero hz.out).1.2.1; have f2 := (wh_zero hz.out).1.2.2.1; have f3 := (wh_zero hz.out).1.2.2.2.1; have f4 := (wh_zero hz.out).1.2.2.2.2.1; have f5 := (wh_zero hz.out).1.2.2.2.2.2.1; have f6 := (wh_zero hz.out).1.2.2.2.2.2.2; have y0 := (wh_zero hz.out).2.1; have y1 := (wh_zero hz.out).2.2.1; have y2 := (wh_zero hz.out).2.2.2.1; have y3 := (wh_zero hz.out).2.2.2.2.1; have y4 := (wh_zero hz.out).2.2.2.2.2.1; have y5 := (wh_zero hz.out).2.2.2.2.2.2.1; have y6 := (wh_zero hz.out).2.2.2.2.2.2.2) | skip); replace hB2 := Lib.hid hB2; replace hO6 := Lib.hid hO6))
    all_goals
      first
        | (have h := left_set r' hO6.out hB2.out hz.out (by first | (with_reducible exact hB1.out.size) | exact Nat.le_refl _)
           unfold set7 at h
           go_wp2_with fail
           go_meet
           first | (with_reducible exact ⟨_, rfl, rfl, h⟩) | exact ⟨_, rfl, rfl, h⟩)
        | (have h := left_alloc r' hO6.out hB2.out
           unfold pegC at h
           go_wp2_with fail
           go_meet
           first | (with_reducible exact ⟨_, rfl, rfl, h⟩) | exact ⟨_, rfl, rfl, h⟩)
  case rest =>
    obtain ⟨Z, rfl, rfl, hL⟩ := hcut
    obtain ⟨a1, c1, rfl, hA, hB7, hZ⟩ := hL
    obtain ⟨hAr, hlc⟩ := hA.out
    have hx7 := hx1.out.below hB7 hx1.out.lt
    have hend := Lib.hid (hbw.out.trans (hB7.mono hXs.out))
    obtain ⟨⟨hl1, hl14⟩, hforms, hhalt, hgoes⟩ := hfin.out
    have hl0 : l ≠ [] := fun e => by rw [e] at hl1; exact absurd hl1 (by decide)
    obtain ⟨g, rfl⟩ := hAr.some hl0
    have x0 := hx7.cell 0
    have x1 := hx7.cell 1
    have x2 := hx7.cell 2
    have x3 := hx7.cell 3
    have x4 := hx7.cell 4
    have x5 := hx7.cell 5
    have x6 := hx7.cell 6
    simp only [List.getElem?_toArray, List.getElem?_cons_zero, List.getElem?_cons_succ] at x0 x1 x2 x3 x4 x5 x6
    clear hx7 hA H1 H2 HCell HSet hB0h hbw hXs hx1 hB7 d0 d1 d2 d3 d4 d5 d6 hfin
    cases hH : r.H with
    | true =>
      obtain ⟨rfl, rfl⟩ := hhalt hH
      have hc0 := hAr.at_ 0 (by decide)
      obtain ⟨q0, q1, q2⟩ := hc0
      have z0 := hZ.cell 0
      have z1 := hZ.cell 1
      have z2 := hZ.cell 2
      have z3 := hZ.cell 3
      have z4 := hZ.cell 4
      have z5 := hZ.cell 5
      have z6 := hZ.cell 6
      unfold pegC at z0 z1 z2 z3 z4 z5 z6
      simp only [List.getElem?_toArray, List.getElem?_cons_zero, List.getElem?_cons_succ, hH] at z0 z1 z2 z3 z4 z5 z6 x6
      simp only [Nat.zero_mul, Nat.zero_add, List.getElem_cons_zero, show ((0 : Nat) : Int) = 0 from rfl] at q0 q1 q2
      simp only [List.length_cons, List.length_nil, Nat.zero_add] at hlc ⊢
      clear hforms hhalt hgoes hl1 hl14 hl0 hAr hZ hH hr
      go_wp2_with fail
      go_ret
      exact ⟨rfl, hend.out⟩
    | false =>
      obtain ⟨hl2, t, hlt⟩ := hgoes hH
      have hc0 := hAr.at_ 0 (by omega)
      have e0 : l[0]'(by omega) = (1, r.Pc, 0) := by
        have : l[0]? = some (1, r.Pc, 0) := by rw [hlt]; rfl
        rw [List.getElem?_eq_getElem (by omega)] at this
        exact Option.some.inj this
      rw [e0] at hc0
      obtain ⟨q0, q1, q2⟩ := hc0
      simp only [Nat.zero_mul, Nat.zero_add, show ((0 : Nat) : Int) = 0 from rfl, show ((1 : Nat) : Int) = 1 from rfl] at q0 q1 q2
      rw [hH] at x6
      have hPc := hr.Pc
      have eP : IntKind.u32.wrap (r.Pc : Int) = (r.Pc : Int) := by simp only [IntKind.wrap_u32]; omega
      have hAr' := Lib.hid hAr
      have hforms' := Lib.hid hforms
      obtain ⟨L, hLL⟩ : ∃ L, l.length = L := ⟨_, rfl⟩
      rw [hLL] at hl2 hl14 hlc ⊢
      replace hLL := Lib.hid hLL
      have u1 : decide ((L : Int) < 2) = false := decide_eq_false (by omega)
      have u2 : decide ((L : Int) > 14) = false := decide_eq_false (by omega)
      have u3 : decide (14 < (L : Int)) = false := u2
      have hL2 := Lib.hid (show 2 ≤ L from hl2)
      have hL0 : 0 < L := by omega
      have hL0' : (0 : Int) < (L : Int) := by omega
      clear hforms hhalt hgoes hl1 hl0 hAr hZ hH hr hlt e0 hPc hl2
      go_upto_region 8 with (fail)
      go_big_quiet (fail)
      have hA9 := hAr'.out.below (below_drewN (Below.refl _ _) nq)
      have hend9 := Lib.hid (below_drewN hend.out nq)
      generalize wc.drewN nq = W9 at *
      clear q0 q1 q2 x0 x1 x2 x3 x4 x5 x6 eP u1 u2 u3 hAr' hend hL0 hL0'
      replace hA9 := Lib.hid hA9
      go_wp2_with fail
      obtain ⟨wo9, hwo9⟩ : ∃ wo9, wo9 = W9 := ⟨_, rfl⟩
      go_loopw [10] (fun s10 wr => ∃ k : Nat, k ≤ L ∧ s10 = .int .i64 k ∧ wr = W9) (fun s10 _ => L - (intOf s10).toNat)
      case atStart => exact ⟨0, Nat.zero_le _, by go_num, rfl⟩
      case round =>
        obtain ⟨k, hk, rfl, rfl⟩ := hrel
        by_cases hlt : k < L
        · have hkl : k < l.length := by rw [hLL.out]; exact hlt
          have hc := hA9.out.at_ k hkl
          have hform := hforms'.out l[k] (List.getElem_mem hkl)
          generalize l[k] = x at *
          obtain ⟨xk, xa, xv⟩ := x
          obtain ⟨b1, b2, b3, b4, b5⟩ := hform
          dsimp only at hc b1 b2 b3 b4 b5
          obtain ⟨q0, q1, q2⟩ := hc
          have v1 : decide ((xa : Int) > 65535) = false := decide_eq_false (by omega)
          have v2 : decide (65535 < (xa : Int)) = false := v1
          clear hkl
          obtain rfl | rfl | rfl : xk = 0 ∨ xk = 1 ∨ xk = 2 := by omega
          · obtain rfl := b4 (by decide)
            obtain rfl := b5 rfl
            simp only [show ((0 : Nat) : Int) = 0 from rfl] at q0 q1 q2
            clear b1 b2 b3 b4 b5 v1 v2
            go_wp2_with fail
            go_roundw
            case rel => exact ⟨k + 1, by omega, by go_num, trivial⟩
            case measure => simp [intOf]; omega
          · obtain rfl := b4 (by decide)
            simp only [show ((0 : Nat) : Int) = 0 from rfl, show ((1 : Nat) : Int) = 1 from rfl] at q0 q1 q2
            clear b1 b2 b3 b4 b5
            go_wp2_with fail
            go_roundw
            case rel => exact ⟨k + 1, by omega, by go_num, trivial⟩
            case measure => simp [intOf]; omega
          · simp only [show ((2 : Nat) : Int) = 2 from rfl] at q0 q1 q2
            clear b1 b2 b3 b4 b5
            go_wp2_with fail
            go_roundw
            case rel => exact ⟨k + 1, by omega, by go_num, trivial⟩
            case measure => simp [intOf]; omega
        · obtain rfl : k = L := by omega
          clear hlt hk
          go_wp2_with fail
          go_ret
          exact ⟨rfl, hend9.out⟩
end Go.Proofs.YtknlbmjncginnaaGreatDoor.tuneCycles
