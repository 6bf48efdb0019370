/-
  A cycle carried out, by the code.
-/
import Derived.Test.YtknlbmjncginnaaGreatDoorPMi
import Derived.Deep.RegionHeld3
import Derived.Deep.DeepCutAuto
namespace Go.Proofs.YtknlbmjncginnaaGreatDoor
open Go.RowKit Go.Shelf
set_option maxRecDepth 100000
set_option maxHeartbeats 4000000
set_option linter.unusedVariables false
set_option linter.unusedSimpArgs false

section
variable {w : World} {P : Nat} {sv : Value} {p : Pl}
theorem carry_any (h : Pk w P sv p) (v : Nat) (hv : v < 256) : Calls Tryz.prog 54 #[.pointer (some ⟨P, 0, none⟩), .int .u8 (v : Nat)] w fun e w' => e = .returned (accV1 p.next) ∧ ∃ sv', Pk w' P sv' (p.step v) ∧ Fr (fun k => k = P ∨ sv.ownBlock = some k) w w' ∧ (sv'.ownBlock = sv.ownBlock ∨ ∀ g, sv'.ownBlock = some g → w.heap.size ≤ g) ∧ LO w w' P := by
  obtain ⟨Q, hQ, F⟩ := post_name (fun (e : Ending) (w' : World) => e = .returned (accV1 p.next) ∧ ∃ sv', Pk w' P sv' (p.step v) ∧ Fr (fun k => k = P ∨ sv.ownBlock = some k) w w' ∧ (sv'.ownBlock = sv.ownBlock ∨ ∀ g, sv'.ownBlock = some g → w.heap.size ≤ g) ∧ LO w w' P)
  rw [hQ]
  clear hQ
  replace F := Lib.hid F
  obtain ⟨la, lc, hP, hA, hlc⟩ := h.cells
  have hl0 : p.list ≠ [] := fun e => by have := h.ok.done; rw [e] at this; exact absurd this (Nat.not_lt_zero _)
  obtain ⟨g, rfl⟩ := hA.some hl0
  have hd := h.ok.done
  have hc := hA.at_ p.done hd
  rw [← Pl.next_eq hd] at hc
  obtain ⟨q0, q1, q2⟩ := hc
  have hgl := World.block_lt_of_cell? w ⟨g, p.done * 3, none⟩ q0
  have hT := Whole.fresh w 42 #[.int .u8 0, .int .u32 0, .int .u8 0]
  have hal : Below w.heap.size w (w.alloc (.cells #[.int .u8 0, .int .u32 0, .int .u8 0] 42)) := (Below.refl w.heap.size w).alloc (Nat.le_refl _) _
  have hdl : (p.done : Int) < (p.list.length : Int) := by omega
  obtain ⟨x, hx⟩ : ∃ x, p.next = x := ⟨_, rfl⟩
  obtain ⟨xk, xa, xv⟩ := x
  rw [hx] at q0 q1 q2
  dsimp only at q0 q1 q2
  obtain ⟨D, hD⟩ : ∃ D, p.done = D := ⟨_, rfl⟩
  obtain ⟨L, hL⟩ : ∃ L, p.list.length = L := ⟨_, rfl⟩
  rw [hD] at q0 q1 q2 hdl
  rw [hL] at hdl
  have hP0 : Whole w P 104 (plC p.r D sv (.slice (some ⟨g, 0, none⟩) L lc) p.behind) := by rw [← hD, ← hL]; exact hP
  unfold plC at hP0
  have HCell : ∀ V, Below w.heap.size w V → V.cell? ⟨P, 7, none⟩ = some (.int .u8 (D : Nat)) ∧ V.cell? ⟨P, 9, none⟩ = some (.slice (some ⟨g, 0, none⟩) L lc) ∧ V.cell? ⟨g, D * 3, none⟩ = some (.int .u8 (xk : Nat)) ∧ V.cell? ⟨g, D * 3 + 1, none⟩ = some (.int .u32 (xa : Nat)) ∧ V.cell? ⟨g, D * 3 + 2, none⟩ = some (.int .u8 (xv : Nat)) := fun V hV => by
    have y := hP0.below hV hP0.lt
    exact ⟨y.cell 7, y.cell 9, (hV.cell (p := ⟨g, D * 3, none⟩) hgl).trans q0, (hV.cell (p := ⟨g, D * 3 + 1, none⟩) hgl).trans q1, (hV.cell (p := ⟨g, D * 3 + 2, none⟩) hgl).trans q2⟩
  replace hP := Lib.hid hP
  replace h := Lib.hid h
  replace hA := Lib.hid hA
  replace hx := Lib.hid hx
  replace hD := Lib.hid hD
  replace hL := Lib.hid hL
  have hlc' := Lib.hid hlc
  replace hP0 := Lib.hid hP0
  have hD14 : D ≤ 14 := by have := h.out.ok.len; have := hD.out; omega
  have hc9 := Lib.hid (hP0.cell 9)
  have hglt := Lib.hid (show g < w.heap.size from hgl)
  clear q0 q1 q2 hgl hl0 hd hlc
  go_enter Tryz.func54, Tryz.ntmps54
  go_upto_region 1 with (fail)
  obtain ⟨T, hTe⟩ : ∃ T, w.heap.size = T := ⟨_, rfl⟩
  have hTs : w.heap.size ≤ T := Nat.le_of_eq hTe
  have hWs : w.heap.size ≤ (w.alloc (.cells #[.int .u8 0, .int .u32 0, .int .u8 0] 42)).heap.size := hal.size
  rw [hTe] at hT ⊢
  generalize w.alloc (.cells #[.int .u8 0, .int .u32 0, .int .u8 0] 42) = W1 at *
  obtain ⟨d7, d9, e0, e1, e2⟩ := HCell W1 hal
  replace HCell := Lib.hid HCell
  replace hal := Lib.hid hal
  replace hT := Lib.hid hT
  replace hTe := Lib.hid hTe
  replace hTs := Lib.hid hTs
  replace hWs := Lib.hid hWs
  have HSet := Lib.hid fun (V : World) (Z : Nat) (hV : Below w.heap.size w V) (hZ : w.heap.size ≤ Z) => (show (((V.setCell ⟨Z, 0, none⟩ (.int .u8 (xk : Nat))).setCell ⟨Z, 1, none⟩ (.int .u32 (xa : Nat))).setCell ⟨Z, 2, none⟩ (.int .u8 (xv : Nat))).cell? ⟨P, 7, none⟩ = some (.int .u8 (D : Nat)) ∧ (((V.setCell ⟨Z, 0, none⟩ (.int .u8 (xk : Nat))).setCell ⟨Z, 1, none⟩ (.int .u32 (xa : Nat))).setCell ⟨Z, 2, none⟩ (.int .u8 (xv : Nat))).cell? ⟨P, 9, none⟩ = some (.slice (some ⟨g, 0, none⟩) L lc) ∧ (((V.setCell ⟨Z, 0, none⟩ (.int .u8 (xk : Nat))).setCell ⟨Z, 1, none⟩ (.int .u32 (xa : Nat))).setCell ⟨Z, 2, none⟩ (.int .u8 (xv : Nat))).cell? ⟨g, D * 3, none⟩ = some (.int .u8 (xk : Nat)) ∧ (((V.setCell ⟨Z, 0, none⟩ (.int .u8 (xk : Nat))).setCell ⟨Z, 1, none⟩ (.int .u32 (xa : Nat))).setCell ⟨Z, 2, none⟩ (.int .u8 (xv : Nat))).cell? ⟨g, D * 3 + 1, none⟩ = some (.int .u32 (xa : Nat)) ∧ (((V.setCell ⟨Z, 0, none⟩ (.int .u8 (xk : Nat))).setCell ⟨Z, 1, none⟩ (.int .u32 (xa : Nat))).setCell ⟨Z, 2, none⟩ (.int .u8 (xv : Nat))).cell? ⟨g, D * 3 + 2, none⟩ = some (.int .u8 (xv : Nat)) from HCell.out _ (((hV.setCell (p := ⟨Z, 0, none⟩) hZ _).setCell (p := ⟨Z, 1, none⟩) hZ _).setCell (p := ⟨Z, 2, none⟩) hZ _))
  go_cut [5] (fun s5 V => ∃ Z, s5 = .pointer (some ⟨Z, 0, none⟩) ∧ Below W1.heap.size W1 V ∧ Whole V Z 42 #[.int .u8 (xk : Nat), .int .u32 (xa : Nat), .int .u8 (xv : Nat)])
  case first =>
    go_region_held3 (fun V => V.cell? ⟨P, 7, none⟩ = some (.int .u8 (D : Nat)) ∧ V.cell? ⟨P, 9, none⟩ = some (.slice (some ⟨g, 0, none⟩) L lc) ∧ V.cell? ⟨g, D * 3, none⟩ = some (.int .u8 (xk : Nat)) ∧ V.cell? ⟨g, D * 3 + 1, none⟩ = some (.int .u32 (xa : Nat)) ∧ V.cell? ⟨g, D * 3 + 2, none⟩ = some (.int .u8 (xv : Nat)))
      (first | (with_reducible exact HCell.out _ hal.out) | (with_reducible exact HCell.out _ (hal.out.alloc hWs.out _)) | (with_reducible exact HSet.out _ _ (hal.out.alloc hWs.out _) hWs.out) | go_keep) (first | fail)
    all_goals go_wp2_with fail
    all_goals go_meet
    exact ⟨_, rfl, ((Below.refl W1.heap.size W1).alloc (Nat.le_refl _) _).drew, (Whole.fresh W1 _ _).drew⟩
  case rest =>
    obtain ⟨Z, rfl, hB2, hZ⟩ := hcut
    have hBw : Below w.heap.size w wc := hal.out.trans (hB2.mono hWs.out)
    have hPc := hP0.out.below hBw hP0.out.lt
    have hTc := hT.out.below hB2 hT.out.lt
    have hFc : Fr (fun _ => False) w wc := Fr.of hBw
    have hown := hFc.own h.out.own (fun _ _ e => e)
    have hAc := hA.out.below hBw
    have p7 := hPc.cell 7
    have q7 := hPc.free 7
    simp only [List.getElem?_toArray, List.getElem?_cons_zero, List.getElem?_cons_succ] at p7
    replace hPc := Lib.hid hPc
    replace hTc := Lib.hid hTc
    replace hBw := Lib.hid hBw
    replace hFc := Lib.hid hFc
    replace hown := Lib.hid hown
    replace hAc := Lib.hid hAc
    replace hZ := Lib.hid hZ
    replace hB2 := Lib.hid hB2
    have hlcL : L ≤ lc := by have := hlc'.out; have := hL.out; omega
    replace hlcL := Lib.hid hlcL
    clear d7 d9 e0 e1 e2 HSet HCell hdl hal hlc'
    obtain ⟨E, hE⟩ : ∃ E, D + 1 = E := ⟨_, rfl⟩
    have hEi : ((D : Nat) : Int) + 1 = (E : Nat) := by omega
    have hE15 : E ≤ 15 := by omega
    replace hE := Lib.hid hE
    go_upto_region 3 with (fail)
    have hP2 := hPc.out.put 7 (.int .u8 (E : Nat))
    have hF2 : Fr (fun k => k = P) wc (wc.setCell ⟨P, 7, none⟩ (.int .u8 (E : Nat))) := (Fr.refl (fun k => k = P) wc).setCell (p := ⟨P, 7, none⟩) rfl _
    simp only [List.setIfInBounds_toArray, List.set_cons_zero, List.set_cons_succ] at hP2
    have own2 := hF2.own hown.out (byte_apart hown.out hPc.out (by decide))
    have hZ2 := hF2.whole hZ.out (whole_apart hZ.out hPc.out (by decide))
    have hT2 := hF2.whole hTc.out (whole_apart hTc.out hPc.out (by decide))
    have hA2 := hF2.arow hAc.out (fun y cs hy e => by subst e; exact whole_apart hy hPc.out (by decide) rfl)
    have hFw : Fr (fun k => k = P ∨ sv.ownBlock = some k) w (wc.setCell ⟨P, 7, none⟩ (.int .u8 (E : Nat))) := (Fr.of hBw.out).trans (hF2.mono fun k _ e => .inl e)
    generalize wc.setCell ⟨P, 7, none⟩ (.int .u8 (E : Nat)) = W2 at *
    have z0 := hZ2.cell 0
    simp only [List.getElem?_toArray, List.getElem?_cons_zero, List.getElem?_cons_succ] at z0
    replace hP2 := Lib.hid hP2
    replace hZ2 := Lib.hid hZ2
    replace hT2 := Lib.hid hT2
    replace hA2 := Lib.hid hA2
    replace own2 := Lib.hid own2
    replace hFw := Lib.hid hFw
    replace hEi := Lib.hid hEi
    clear hPc hTc hBw hFc hown hAc hZ hB2 p7 q7 hF2 hT
    go_upto_if 25 with (fail)
    have hmid2 : xk ≠ 1 → Mid w P T Z g sv (xk, xa, xv) (p.on v) W2 sv := fun hk => by
      have e : p.on v = ⟨p.r, p.seen, p.done + 1⟩ := by unfold Pl.on; rw [hx.out, if_neg (show ¬ ((xk, xa, xv) : Ac).1 = 1 from hk)]
      have hE' := hE.out
      have hD' := hD.out
      have hL' : (Pl.mk p.r p.seen (p.done + 1)).list.length = L := hL.out
      have hP' := hP2.out
      rw [e]
      refine ⟨⟨some ⟨g, 0, none⟩, lc, ?_, hA2.out, ?_, fun a e => ?_⟩, own2.out, h.out.bok, hFw.out, .inl rfl, hZ2.out, hT2.out⟩
      · rw [hL']
        show Whole W2 P 104 (plC p.r (p.done + 1) sv (.slice (some ⟨g, 0, none⟩) L lc) p.behind)
        rw [hD', hE']
        exact hP'
      · rw [hL']; exact hlcL.out
      · cases e
        refine ⟨fun e2 => ?_, .inl rfl⟩
        have := hglt.out
        have := hTs.out
        have e3 : g = T := e2
        omega
    replace hmid2 := Lib.hid hmid2
    have hsn : p.seen.length ≤ 100 := by have := h.out.ok.seen_le; omega
    replace hsn := Lib.hid hsn
    clear hTe hWs hP0 hP hA
    go_cut [] (fun V => ∃ sv', Mid w P T Z g sv (xk, xa, xv) (p.on v) V sv')
    case first =>
      by_cases hk : xk = 1
      · rw [show (((xk : Nat) : Int) == 1) = true from by rw [hk]; rfl]
        have p8 := hP2.out.cell 8
        simp only [List.getElem?_toArray, List.getElem?_cons_zero, List.getElem?_cons_succ] at p8
        have hX3 := Whole.fresh W2 5 #[.int .u8 (v : Nat)]
        have hF3 : Fr (fun _ => False) W2 (W2.alloc (.cells #[.int .u8 (v : Nat)] 5)) := Fr.of ((Below.refl _ _).alloc (Nat.le_refl _) _)
        have own3 := hF3.own own2.out (fun _ _ e => e)
        obtain ⟨G, cap, W4, hap, own4, hg4, hor⟩ := app_byte _ 25 sv p.seen v _ own3 hX3 hsn.out
        have hF4 := Fr.grown hg4
        have hP3 := hF3.whole hP2.out (fun e => e)
        have hZ3 := hF3.whole hZ2.out (fun e => e)
        have hT3 := hF3.whole hT2.out (fun e => e)
        have hP4 := hF4.whole hP3 (fun e => byte_apart own3 hP3 (by decide) P e rfl)
        have hZ4 := hF4.whole hZ3 (fun e => byte_apart own3 hZ3 (by decide) Z e rfl)
        have hT4 := hF4.whole hT3 (fun e => byte_apart own3 hT3 (by decide) T e rfl)
        have hFw4 : Fr (fun k => k = P ∨ sv.ownBlock = some k) w W4 := (hFw.out.trans (hF3.mono fun k _ e => e.elim)).trans (hF4.mono fun k _ e => .inr e)
        have hP5 := hP4.put 8 (.slice (some ⟨G, 0, none⟩) (p.seen.length + 1) cap)
        simp only [List.setIfInBounds_toArray, List.set_cons_zero, List.set_cons_succ] at hP5
        have hF5 : Fr (fun k => k = P) W4 (W4.setCell ⟨P, 8, none⟩ (.slice (some ⟨G, 0, none⟩) (p.seen.length + 1) cap)) := (Fr.refl (fun k => k = P) W4).setCell (p := ⟨P, 8, none⟩) rfl _
        have own5 := hF5.own own4 (byte_apart own4 hP4 (by decide))
        have hZ5 := hF5.whole hZ4 (whole_apart hZ4 hP4 (by decide))
        have hT5 := hF5.whole hT4 (whole_apart hT4 hP4 (by decide))
        have hFw5 := hFw4.trans (hF5.mono fun k _ e => .inl e)
        have hnew5 : (Value.slice (some ⟨G, 0, none⟩) (p.seen.length + 1) cap).ownBlock = sv.ownBlock ∨ ∀ y, (Value.slice (some ⟨G, 0, none⟩) (p.seen.length + 1) cap).ownBlock = some y → w.heap.size ≤ y := by
          rcases hor with hor | hor
          · exact .inl hor.symm
          · refine .inr fun y hy => ?_
            have hy' : some G = some y := hy
            injection hy' with hy'
            have h1 := hFw.out.size
            have h2 := hF3.size
            omega
        have f8 := hP4.free 8
        have p8' := hP4.cell 8
        simp only [List.getElem?_toArray, List.getElem?_cons_zero, List.getElem?_cons_succ] at p8'
        have hM := mid_know (x := (xk, xa, xv)) (g0 := g) p.r E (p.seen ++ [v]) (.slice (some ⟨g, 0, none⟩) L lc) p.behind h.out.ok.r (fun y hy => by
          rcases List.mem_append.1 hy with hy | hy
          · exact h.out.ok.seen y hy
          · rw [List.mem_singleton.1 hy]; exact hv) hP5 own5 hFw5 hnew5 hZ5 hT5
        have eon : p.on v = ⟨p.r, p.seen ++ [v], E⟩ := by unfold Pl.on; rw [hx.out, hD.out, hE.out, if_pos (show ((xk, xa, xv) : Ac).1 = 1 from hk)]
        rw [← eon] at hM
        replace hM := Lib.hid hM
        clear hP5 hF5 own5 hZ5 hT5 hFw5 hnew5 hZ4 hT4 hFw4 hP4 hZ3 hT3 hP3 hF4 own4 hg4 hor own3 hF3 hX3 eon z0 hmid2 hk
        go_upto_region 5 with (at_builtin; refine wpList_append_ran rfl _ _ 25 rfl _ _ _ W4 rfl rfl hap ?_)
        clear hap f8 p8' p8
        generalize W4.setCell ⟨P, 8, none⟩ (.slice (some ⟨G, 0, none⟩) (p.seen.length + 1) cap) = W5 at *
        go_wp2_with fail
        refine hM.out.mono ?_
        rintro e W6 ⟨rfl, hM6⟩
        replace hM6 := Lib.hid hM6
        clear hM
        go_wp2_with fail
        go_meet
        exact ⟨_, hM6.out⟩
      · rw [show (((xk : Nat) : Int) == 1) = false from by rw [beq_eq_false_iff_ne]; omega]
        have hfin := Lib.hid (hmid2.out hk)
        clear z0 hmid2 hk
        go_wp2_with fail
        go_meet
        exact ⟨sv, hfin.out⟩
    case rest =>
      obtain ⟨sv2, hM⟩ := hcut
      clear hmid2 z0 hP2 hZ2 hT2 hA2 own2 hFw hsn hlcL hglt hL hEi hE hE15 hD14
      obtain ⟨q, hq⟩ : ∃ q, p.on v = q := ⟨_, rfl⟩
      have hon := h.out.ok.on hv
      have hstep := fun (hb : (p.on v).done = (p.on v).list.length → (p.on v).behind.Ok) => h.out.ok.step hv hb
      unfold Pl.step at hstep
      rw [hq] at hM hon hstep
      replace hstep := hstep (fun _ => hM.bok)
      have hlen := (crL_most q.r hon.2.1).2
      have hdone := hon.2.2.1
      have hlen' : q.list.length ≤ 14 := hlen
      replace hM := Lib.hid hM
      obtain ⟨la, lc2, h1, h2, h3, h4⟩ := hM.out.cells
      unfold plC at h1
      have c7 := h1.cell 7
      have c9 := h1.cell 9
      simp only [List.getElem?_toArray, List.getElem?_cons_zero, List.getElem?_cons_succ] at c7 c9
      obtain ⟨x, hxb⟩ : ∃ x, p.step v = x := ⟨_, rfl⟩
      have hstepv : x = if q.done = q.list.length then Pl.new q.behind else q := by rw [← hxb]; unfold Pl.step; rw [hq]
      rw [hxb] at F
      rw [← hstepv] at hstep
      obtain ⟨D2, hD2⟩ : ∃ n, q.done = n := ⟨_, rfl⟩
      obtain ⟨L2, hL2⟩ : ∃ n, q.list.length = n := ⟨_, rfl⟩
      rw [hD2] at c7 hdone
      rw [hL2] at c9 hdone hlen'
      rw [hD2, hL2] at hstepv
      have hb2 : (((D2 : Nat) : Int) == ((L2 : Nat) : Int)) = decide (D2 = L2) := by
        by_cases e : D2 = L2
        · subst e; simp
        · rw [decide_eq_false e, beq_eq_false_iff_ne]; omega
      replace hstepv := Lib.hid hstepv
      replace hstep := Lib.hid hstep
      replace hxb := Lib.hid hxb
      replace hb2 := Lib.hid hb2
      clear h1 h2 h3 h4 hlen hon hq hD2 hL2
      go_upto_region 6 with (fail)
      go_quiet (fail)
      rw [hb2.out]
      have hM1 := hM.out.turn (Fr.of (below_drewN (Below.refl _ _) nq))
      clear c7 c9 hM
      generalize wc.drewN nq = V at *
      go_upto_if 48 with (fail)
      go_cut [] (fun V => ∃ sv', Fin2 w P T Z g sv (xk, xa, xv) x V sv')
      case first =>
        by_cases hd : D2 = L2
        · rw [decide_eq_true hd]
          have ex := hstepv.out
          rw [if_pos hd] at ex
          have hbeg := mid_begin hM1
          obtain ⟨la, lc2, h1, h2, h3, h4⟩ := hM1.cells
          unfold plC at h1
          have c10 := h1.cell 10
          have c11 := h1.cell 11
          have c12 := h1.cell 12
          have c13 := h1.cell 13
          have c14 := h1.cell 14
          have c15 := h1.cell 15
          have c16 := h1.cell 16
          simp only [List.getElem?_toArray, List.getElem?_cons_zero, List.getElem?_cons_succ] at c10 c11 c12 c13 c14 c15 c16
          unfold pegV at hbeg
          rw [← ex] at hbeg
          replace hbeg := Lib.hid hbeg
          clear h1 h2 h3 h4 hM1 hb2 hd ex hstepv hdone hlen'
          go_wp2_with fail
          refine hbeg.out.mono ?_
          rintro e W6 ⟨rfl, sv3, hf6⟩
          replace hf6 := Lib.hid hf6
          clear hbeg c10 c11 c12 c13 c14 c15 c16
          go_wp2_with fail
          go_meet
          exact ⟨_, hf6.out⟩
        · rw [decide_eq_false hd]
          have ex := hstepv.out
          rw [if_neg hd] at ex
          have hf6 : Fin2 w P T Z g sv (xk, xa, xv) x V sv2 := by
            have hq2 := hstep.out
            rw [ex] at hq2 ⊢
            exact mid_stay hM1 hq2
          replace hf6 := Lib.hid hf6
          clear hM1 hb2 hd ex hstepv hdone hlen'
          go_wp2_with fail
          go_meet
          exact ⟨_, hf6.out⟩
      case rest =>
        obtain ⟨sv3, hf⟩ := hcut
        have z0 := hf.z.cell 0
        have z1 := hf.z.cell 1
        have z2 := hf.z.cell 2
        have t0 := hf.t.cell 0
        have t1 := hf.t.cell 1
        have t2 := hf.t.cell 2
        have f0 := hf.t.free 0
        have f1 := hf.t.free 1
        have f2 := hf.t.free 2
        simp only [List.getElem?_toArray, List.getElem?_cons_zero, List.getElem?_cons_succ] at z0 z1 z2 t0 t1 t2
        have hW := ((hf.t.put 0 (.int .u8 (xk : Nat))).put 1 (.int .u32 (xa : Nat))).put 2 (.int .u8 (xv : Nat))
        simp only [List.setIfInBounds_toArray, List.set_cons_zero, List.set_cons_succ] at hW
        have hF := (((Fr.refl (fun k => k = T) wc).setCell (p := ⟨T, 0, none⟩) rfl (.int .u8 (xk : Nat))).setCell (p := ⟨T, 1, none⟩) rfl (.int .u32 (xa : Nat))).setCell (p := ⟨T, 2, none⟩) rfl (.int .u8 (xv : Nat))
        have hfin := Lib.hid (fin_end hf hTs.out hc9.out hF)
        replace hW := Lib.hid hW
        clear hf hF hM1 hb2 hstep hstepv hdone hlen' h hD hxb
        go_wp2_with fail
        exact bodyPost_ret (results_cell_row (fn := Tryz.f54) (p := 4) (ty := 42) rfl _ _ _ _ _ (0, 0) _ rfl hW.out Tryz.underlying42 rfl (by kernel_rfl)) rfl (F.out _ _ ⟨by rw [hx.out]; rfl, hfin.out⟩)
end
end Go.Proofs.YtknlbmjncginnaaGreatDoor
