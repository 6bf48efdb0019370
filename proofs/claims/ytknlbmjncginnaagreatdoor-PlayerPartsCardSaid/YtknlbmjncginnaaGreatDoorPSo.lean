/-
  A step on a memory, by the code.
-/
import Derived.Test.YtknlbmjncginnaaGreatDoorPSt
namespace Go.Proofs.YtknlbmjncginnaaGreatDoor
open Go.RowKit Go.Shelf
set_option maxRecDepth 100000
set_option maxHeartbeats 4000000
set_option linter.unusedVariables false
set_option linter.unusedSimpArgs false

/-- The memory behind a cycle. -/
def Pl.mem (p : Pl) (f : Nat → Nat) : Nat → Nat := if p.next.1 = 2 then upd f p.next.2.1 p.next.2.2 else f
/-- A cycle on a memory. -/
def Pl.play (p : Pl) (f : Nat → Nat) : Pl := p.step (p.mem f p.next.2.1)
theorem Holds.fr {S : Nat → Prop} {w w' : World} {M n : Nat} {f : Nat → Nat} (h : Holds w M n f) (hF : Fr S w w') (hM : ¬ S M) : Holds w' M n f := let ⟨cs, h, r⟩ := h; ⟨cs, hF.whole h hM, r⟩
theorem Pl.Ok.next_ok {p : Pl} (h : p.Ok) : AcOk p.next := by
  rw [Pl.next_eq h.done]
  exact crL_forms p.r p.seen _ (List.getElem_mem h.done)
def Ply (w : World) (P M : Nat) (sv : Value) (q : Pl) (f : Nat → Nat) (w' : World) : Prop := ∃ sv', Pk w' P sv' q ∧ Holds w' M 65536 f ∧ Fr (fun k => k = M ∨ k = P ∨ sv.ownBlock = some k) w w' ∧ (sv'.ownBlock = sv.ownBlock ∨ ∀ g, sv'.ownBlock = some g → w.heap.size ≤ g) ∧ LO w w' P
section
variable {w : World} {P M : Nat} {sv : Value} {p : Pl} {f : Nat → Nat}
theorem stepOn_any (h : Pk w P sv p) (c : Nat) (hM : Holds w M 65536 f) (hMo : ∀ g, sv.ownBlock = some g → g ≠ M) : Calls Tryz.prog 55 #[.pointer (some ⟨P, 0, none⟩), .slice (some ⟨M, 0, none⟩) 65536 c] w fun e w' => e = .returned (accV1 p.next) ∧ Ply w P M sv (p.play f) (p.mem f) w' := by
  obtain ⟨N, hN⟩ : ∃ N : Nat, 65536 = N := ⟨_, rfl⟩
  have hB := (Below.refl w.heap.size w).alloc (Nat.le_refl _) (.cells #[.int .u8 0, .int .u32 0, .int .u8 0] 42)
  have hB0 : Fr (fun _ => False) w (w.alloc (.cells #[.int .u8 0, .int .u32 0, .int .u8 0] 42)) := Fr.of hB
  have hT := Whole.fresh w 42 #[.int .u8 0, .int .u32 0, .int .u8 0]
  have h1 := h.keep hB0
  have hM1 := hM.fr hB0 (fun e => e)
  have hsz : (w.alloc (.cells #[.int .u8 0, .int .u32 0, .int .u8 0] 42)).heap.size = w.heap.size + 1 := World.size_alloc _ _
  have HN := next_any h1
  have hok := h.ok.next_ok
  have hmem : p.mem f = if p.next.1 = 2 then upd f p.next.2.1 p.next.2.2 else f := rfl
  have hplay : p.play f = p.step (p.mem f p.next.2.1) := rfl
  generalize p.play f = q at *
  generalize p.mem f = f' at *
  obtain ⟨x, hx⟩ : ∃ x, p.next = x := ⟨_, rfl⟩
  rw [hx] at HN hok hmem hplay ⊢
  obtain ⟨xk, xa, xv⟩ := x
  obtain ⟨o1, o2, o3, -, -⟩ := hok
  dsimp only at o1 o2 o3 hmem hplay
  have hMlt := hM.lt
  have hPM : M ≠ P := by
    obtain ⟨cs, hm, _⟩ := hM
    obtain ⟨la, lc, k1, _⟩ := h.cells
    exact whole_apart hm k1 (by decide)
  unfold Ply
  rw [hN] at hM1 hM o1 ⊢
  replace HN := Lib.hid HN
  have hTh := Lib.hid hT
  replace hmem := Lib.hid hmem
  replace hplay := Lib.hid hplay
  have h1h := Lib.hid h1
  have hM1h := Lib.hid hM1
  have hB0h := Lib.hid hB0
  have hh := Lib.hid h
  have hMoh := Lib.hid hMo
  replace hPM := Lib.hid hPM
  replace hx := Lib.hid hx
  replace hMlt := Lib.hid hMlt
  clear hB hB0 hT h1 hM1 h hM hMo
  go_enter Tryz.func55, Tryz.ntmps55
  go_upto_region 1 with (fail)
  generalize w.alloc (.cells #[.int .u8 0, .int .u32 0, .int .u8 0] 42) = W1 at *
  obtain ⟨T, hTe⟩ : ∃ T, w.heap.size = T := ⟨_, rfl⟩
  have hTl := Lib.hid (show T < W1.heap.size by rw [hsz, hTe]; exact Nat.lt_succ_self _)
  have hTw := Lib.hid (show w.heap.size = T from hTe)
  rw [hTe] at hTh ⊢
  clear hTe hsz
  go_wp2_with fail
  refine HN.out.mono ?_
  rintro e W2 ⟨rfl, hB2⟩
  have hZ4 := Whole.fresh W2 42 #[.int .u8 (xk : Nat), .int .u32 (xa : Nat), .int .u8 (xv : Nat)]
  have hB4 := hB2.alloc hB2.size (.cells #[.int .u8 (xk : Nat), .int .u32 (xa : Nat), .int .u8 (xv : Nat)] 42)
  have hF4 : Fr (fun _ => False) W1 _ := Fr.of hB4
  have h4 := h1h.out.keep hF4
  have hM4 := hM1h.out.fr hF4 (fun e => e)
  have hT4 := hF4.whole hTh.out (fun e => e)
  replace hZ4 := Lib.hid hZ4
  replace hF4 := Lib.hid hF4
  replace h4 := Lib.hid h4
  replace hM4 := Lib.hid hM4
  replace hT4 := Lib.hid hT4
  clear hB4 hB2 HN
  unfold accV1
  dsimp only
  go_upto_region 2 with (fail)
  generalize W2.alloc (.cells #[.int .u8 (xk : Nat), .int .u32 (xa : Nat), .int .u8 (xv : Nat)] 42) = W4 at *
  generalize W2.heap.size = Z at *
  have z0 := hZ4.out.cell 0
  have z1 := hZ4.out.cell 1
  have z2 := hZ4.out.cell 2
  simp only [List.getElem?_toArray, List.getElem?_cons_zero, List.getElem?_cons_succ] at z0 z1 z2
  have hai : (xa : Int) < (N : Int) := by omega
  go_upto_if 10 with (fail)
  go_cut [] (fun V => Pk V P sv p ∧ Holds V M N f' ∧ Fr (fun k => k = M) W1 V ∧ Whole V Z 42 #[.int .u8 (xk : Nat), .int .u32 (xa : Nat), .int .u8 (xv : Nat)] ∧ Whole V T 42 #[.int .u8 0, .int .u32 0, .int .u8 0])
  case first =>
    by_cases hk : xk = 2
    · rw [show (((xk : Nat) : Int) == 2) = true from by rw [hk]; rfl]
      have hf' : f' = upd f xa xv := by rw [hmem.out, if_pos hk]
      have m0 := hM4.out.cell xa o1
      have m1 := hM4.out.free xa
      have hFm : Fr (fun k => k = M) W4 (W4.setCell ⟨M, xa, none⟩ (.int .u8 (xv : Nat))) := (Fr.refl (fun k => k = M) W4).setCell (p := ⟨M, xa, none⟩) rfl _
      have hM5 := hM4.out.put xa xv o3
      rw [← hf'] at hM5
      obtain ⟨cm, hwm, -⟩ := hM4.out
      have h5 := h4.out.turn M hPM.out hMoh.out (h4.out.list_apart hwm (by decide)) hFm
      have hZ5 := hFm.whole hZ4.out (fun e => whole_apart hZ4.out hwm (by decide) e)
      have hT5 := hFm.whole hT4.out (fun e => whole_apart hT4.out hwm (by decide) e)
      have hfin := Lib.hid (show Pk (W4.setCell ⟨M, xa, none⟩ (.int .u8 (xv : Nat))) P sv p ∧ Holds (W4.setCell ⟨M, xa, none⟩ (.int .u8 (xv : Nat))) M N f' ∧ Fr (fun k => k = M) W1 (W4.setCell ⟨M, xa, none⟩ (.int .u8 (xv : Nat))) ∧ Whole (W4.setCell ⟨M, xa, none⟩ (.int .u8 (xv : Nat))) Z 42 #[.int .u8 (xk : Nat), .int .u32 (xa : Nat), .int .u8 (xv : Nat)] ∧ Whole (W4.setCell ⟨M, xa, none⟩ (.int .u8 (xv : Nat))) T 42 #[.int .u8 0, .int .u32 0, .int .u8 0] from ⟨h5, hM5, (hF4.out.mono fun _ _ e => e.elim).trans hFm, hZ5, hT5⟩)
      clear hM5 h5 hZ5 hT5 hFm hwm hf' hk
      go_wp2_with fail
      go_meet
      exact hfin.out
    · rw [show (((xk : Nat) : Int) == 2) = false from by rw [beq_eq_false_iff_ne]; omega]
      have hf' : f' = f := by rw [hmem.out, if_neg hk]
      have hfin := Lib.hid (show Pk W4 P sv p ∧ Holds W4 M N f' ∧ Fr (fun k => k = M) W1 W4 ∧ Whole W4 Z 42 #[.int .u8 (xk : Nat), .int .u32 (xa : Nat), .int .u8 (xv : Nat)] ∧ Whole W4 T 42 #[.int .u8 0, .int .u32 0, .int .u8 0] from ⟨h4.out, by rw [hf']; exact hM4.out, hF4.out.mono fun _ _ e => e.elim, hZ4.out, hT4.out⟩)
      clear hf' hk
      go_wp2_with fail
      go_meet
      exact hfin.out
  case rest =>
    obtain ⟨h5, hM5, hF5, hZ5, hT5⟩ := hcut
    clear z0 z1 z2 hZ4 hF4 h4 hM4 hT4
    have z0 := hZ5.cell 0
    have z1 := hZ5.cell 1
    have z2 := hZ5.cell 2
    simp only [List.getElem?_toArray, List.getElem?_cons_zero, List.getElem?_cons_succ] at z0 z1 z2
    have m0 := hM5.cell xa o1
    have hv := hM5.byte xa o1
    obtain ⟨y, hy⟩ : ∃ y, f' xa = y := ⟨_, rfl⟩
    have HS := step_any h5 (f' xa) hv
    rw [← hplay.out, hx.out] at HS
    rw [hy] at m0 HS
    replace HS := Lib.hid HS
    have hF5' := Lib.hid ((hB0h.out.mono (fun _ _ e => e.elim)).trans hF5)
    replace h5 := Lib.hid h5
    replace hM5 := Lib.hid hM5
    replace hT5 := Lib.hid hT5
    have hs5 := Lib.hid hF5.size
    clear hF5 hZ5
    go_wp2_with fail
    refine HS.out.mono ?_
    rintro e W6 ⟨rfl, hS⟩
    have hhp := hh.out.lt
    have hTP : T ≠ P := by have := hTw.out; omega
    have hTO : ∀ g, sv.ownBlock = some g → g ≠ T := fun g hg => by have := hh.out.own_lt g hg; have := hTw.out; omega
    have hTM : M ≠ T := by have := hMlt.out; have := hTw.out; omega
    have hTS : w.heap.size ≤ T ∧ T < wc.heap.size := by have := hTw.out; have := hTl.out; have := hs5.out; omega
    obtain ⟨hT6, hM6⟩ : Whole W6 T 42 #[.int .u8 0, .int .u32 0, .int .u8 0] ∧ Holds W6 M N f' := by
      obtain ⟨sv2, k1, k2, k3, k4⟩ := hS
      exact ⟨k2.whole hT5.out (fun e => e.elim hTP (fun e => hTO T e rfl)), hM5.out.fr k2 (fun e => e.elim hPM.out (fun e => hMoh.out M e rfl))⟩
    have t0 := hT6.cell 0
    have t1 := hT6.cell 1
    have t2 := hT6.cell 2
    have f0 := hT6.free 0
    have f1 := hT6.free 1
    have f2 := hT6.free 2
    simp only [List.getElem?_toArray, List.getElem?_cons_zero, List.getElem?_cons_succ] at t0 t1 t2
    have hW := ((hT6.put 0 (.int .u8 (xk : Nat))).put 1 (.int .u32 (xa : Nat))).put 2 (.int .u8 (xv : Nat))
    simp only [List.setIfInBounds_toArray, List.set_cons_zero, List.set_cons_succ] at hW
    have hF := (((Fr.refl (fun k => w.heap.size ≤ k ∧ k < wc.heap.size) W6).setCell (p := ⟨T, 0, none⟩) hTS (.int .u8 (xk : Nat))).setCell (p := ⟨T, 1, none⟩) hTS (.int .u32 (xa : Nat))).setCell (p := ⟨T, 2, none⟩) hTS (.int .u8 (xv : Nat))
    have hM7 := ((hM6.away (p := ⟨T, 0, none⟩) hTM (.int .u8 (xk : Nat))).away (p := ⟨T, 1, none⟩) hTM (.int .u32 (xa : Nat))).away (p := ⟨T, 2, none⟩) hTM (.int .u8 (xv : Nat))
    obtain ⟨sv7, k1, k2, k3, k4⟩ := stp_end2 (V := ((W6.setCell ⟨T, 0, none⟩ (.int .u8 (xk : Nat))).setCell ⟨T, 1, none⟩ (.int .u32 (xa : Nat))).setCell ⟨T, 2, none⟩ (.int .u8 (xv : Nat))) hh.out hF5'.out (fun e => hPM.out e.symm) hS hF
    have hfin := Lib.hid (And.intro k1 (And.intro hM7 (And.intro k2 (And.intro k3 k4))))
    replace hW := Lib.hid hW
    clear hS hT6 hM6 hF hTS hM7 k1 k2 k3 k4 hTO hTM hTP hhp z0 z1 z2 m0 hv
    unfold accV1
    dsimp only
    go_wp2_with fail
    exact bodyPost_ret (results_cell_row (fn := Tryz.f55) (p := 4) (ty := 42) rfl _ _ _ _ _ (0, 0) _ rfl hW.out Tryz.underlying42 rfl (by kernel_rfl)) rfl ⟨rfl, sv7, hfin.out⟩
end
end Go.Proofs.YtknlbmjncginnaaGreatDoor
