/-
  The document's turn, told.
-/
import Derived.Test.YtnacdaodjgdnnaaGreatXDtA
import Derived.Deep.RegionHeld3
import Derived.Deep.RegionWith
namespace Go.Proofs.YtnacdaodjgdnnaaGreat
open Go.RowKit Go.Shelf
set_option maxRecDepth 100000
set_option maxHeartbeats 1000000
set_option linter.unusedVariables false

theorem AX.lay {W : World} {T : Nat} {a : Option Addr} {l : List (Nat × Nat × Nat)} (h : AX W a l) (hT : ∀ p, a = some p → p.block ≠ T) (v0 v1 v2 v3 v4 v5 v6 v7 v8 v9 v10 v11 v12 : Value) : AX (layT W T v0 v1 v2 v3 v4 v5 v6 v7 v8 v9 v10 v11 v12) a l := by
  rcases h with h | ⟨g, rfl, hg, hc⟩
  · exact .inl h
  · have hne : g ≠ T := hT _ rfl
    refine .inr ⟨g, rfl, by simpa [layT, World.setCell] using hg, fun i hi => ?_⟩
    rw [layT_cell _ _ _ _ _ _ _ _ _ _ _ _ _ _ _ _ _ hne, layT_cell _ _ _ _ _ _ _ _ _ _ _ _ _ _ _ _ _ hne, layT_cell _ _ _ _ _ _ _ _ _ _ _ _ _ _ _ _ _ hne]
    exact hc i hi
def PnS (b t : Nat) (s : Ds) (V : World) : Prop := V.cell? ⟨t, 0, none⟩ = some (.pointer (some ⟨b, 0, none⟩)) ∧ V.cell? ⟨t, 7, none⟩ = some (.int .u8 s.af) ∧ V.cell? ⟨b, 0, none⟩ = some (.int .u16 s.r.A) ∧ V.cell? ⟨b, 1, none⟩ = some (.int .u16 s.r.X) ∧ V.cell? ⟨b, 2, none⟩ = some (.int .u16 s.r.Y) ∧ V.cell? ⟨b, 3, none⟩ = some (.int .u16 s.r.S) ∧ V.cell? ⟨b, 4, none⟩ = some (.int .u16 s.r.D) ∧ V.cell? ⟨b, 5, none⟩ = some (.int .u16 s.r.PC) ∧ V.cell? ⟨b, 6, none⟩ = some (.int .u8 s.r.B) ∧ V.cell? ⟨b, 7, none⟩ = some (.int .u8 s.r.K) ∧ V.cell? ⟨b, 8, none⟩ = some (.int .u8 s.r.P) ∧ V.cell? ⟨b, 9, none⟩ = some (.bool s.r.E)
theorem Dk.pnS {W0 w : World} {B b t : Nat} {cd : Cd5} {wide : Bool} {s : Ds} (h : Dk W0 B b t cd wide s w) : PnS b t s w := by
  obtain ⟨⟨a0, a1, a2, a3, a4⟩, ⟨a5, a6, a7, a8, a9⟩, _⟩ := h.pk.look
  exact ⟨h.ptr, by rw [h.tn.cell]; rfl, a0, a1, a2, a3, a4, a5, a6, a7, a8, a9⟩
def Ds.ok (s : Ds) : Bool := decide (nreads s.l ≤ s.n)
def Ds.tr (s : Ds) : Rg := if s.ok then s.r.settle else rg0
def Ds.ta (s : Ds) : Nat := if s.ok then s.af else 0
theorem dtold_any {W0 w : World} {B b t : Nat} {cd : Cd5} {wide : Bool} {s : Ds} (h : Dk W0 B b t cd wide s w) (hl : s.l.length ≤ 200) :
    Calls Tryz.prog 67 #[.pointer (some ⟨t, 0, none⟩)] w fun e w' => ∃ a c, e = .returned (tnV (.slice a (cutL s.n s.l).length c) s.ok s.tr s.ta) ∧ AX w' a (cutL s.n s.l) ∧ (cutL s.n s.l).length ≤ c ∧ Below B W0 w' ∧ AB B a := by
  obtain ⟨la, lc0, c11, hA, hlc, hab⟩ := h.pk.acc
  replace hab := Lib.hid hab
  have hbel := h.pk.bel
  have hlt : B ≤ w.heap.size := by have := hbel.size; have := h.pk.base; omega
  have hV0 := (Below.refl w.heap.size w).alloc (Nat.le_refl _) (.cells #[.slice none 0 0, .bool false, .int .u16 0, .int .u16 0, .int .u16 0, .int .u16 0, .int .u16 0, .int .u16 0, .int .u8 0, .int .u8 0, .int .u8 0, .bool false, .int .u8 0] 29)
  have hD := h.below hV0
  have hT := Whole.fresh w 29 #[.slice none 0 0, .bool false, .int .u16 0, .int .u16 0, .int .u16 0, .int .u16 0, .int .u16 0, .int .u16 0, .int .u8 0, .int .u8 0, .int .u8 0, .bool false, .int .u8 0]
  have c11' : (w.alloc (.cells #[.slice none 0 0, .bool false, .int .u16 0, .int .u16 0, .int .u16 0, .int .u16 0, .int .u16 0, .int .u16 0, .int .u8 0, .int .u8 0, .int .u8 0, .bool false, .int .u8 0] 29)).cell? ⟨b, 11, none⟩ = some (.slice la s.l.length lc0) := (hV0.cell (p := ⟨b, 11, none⟩) h.pk.lt).trans c11
  obtain ⟨V, hV⟩ : ∃ V, w.alloc (.cells #[.slice none 0 0, .bool false, .int .u16 0, .int .u16 0, .int .u16 0, .int .u16 0, .int .u16 0, .int .u16 0, .int .u8 0, .int .u8 0, .int .u8 0, .bool false, .int .u8 0] 29) = V := ⟨_, rfl⟩
  rw [hV] at hD hT c11' hV0
  have HC := pcut_any hD.pk hl c11'
  have hA2 := hA.cut s.n
  obtain ⟨T, hTe⟩ : ∃ T, w.heap.size = T := ⟨_, rfl⟩
  rw [hTe] at hT hV0
  have hbT : b ≠ T := by have := h.pk.lt; omega
  have htT : t ≠ T := by have := h.tn.lt; omega
  have hfinal : ∀ W, Below T w W → AX W la (cutL s.n s.l) ∧ Below B W0 W := fun W hb => ⟨hA2.below (by rw [hTe]; exact hb), hbel.trans (hb.mono (by omega))⟩
  have HS := fun W => rsettle_any s.r W h.pk.ok
  have hcells := fun (W : World) (hb : Below V.heap.size V W) => (hD.below hb).pnS
  have hfin := fun (W : World) (hb : Below V.heap.size V W) (x y : Value) (v : Rg) (z : Nat) => layT_fin (lv := .slice none 0 0) (n := 0) (xs := []) x y (.int .u16 (v.A : Nat)) (.int .u16 (v.X : Nat)) (.int .u16 (v.Y : Nat)) (.int .u16 (v.S : Nat)) (.int .u16 (v.D : Nat)) (.int .u16 (v.PC : Nat)) (.int .u8 (v.B : Nat)) (.int .u8 (v.K : Nat)) (.int .u8 (v.P : Nat)) (.bool v.E) (.int .u8 (z : Nat)) (hT.below hb hT.lt)
    (World.ownsRow_nil W T 35 3) (by simp [Value.ownBlock]) (hV0.trans (hb.mono (by have := hT.lt; omega))) (Nat.le_refl _)
  have hkeep := fun (W : World) (VV : Value) (hW : PnS b t s W) (v : Rg) => (show PnS b t s (layT W T VV (.bool true) (.int .u16 (v.A : Nat)) (.int .u16 (v.X : Nat)) (.int .u16 (v.Y : Nat)) (.int .u16 (v.S : Nat)) (.int .u16 (v.D : Nat)) (.int .u16 (v.PC : Nat)) (.int .u8 (v.B : Nat)) (.int .u8 (v.K : Nat)) (.int .u8 (v.P : Nat)) (.bool v.E) (.int .u8 (s.af : Nat))) from by
    unfold PnS at hW ⊢
    simp only [layT_cell _ _ _ _ _ _ _ _ _ _ _ _ _ _ _ _ _ hbT, layT_cell _ _ _ _ _ _ _ _ _ _ _ _ _ _ _ _ _ htT]
    exact hW)
  have hT2 := fun (W : World) (hb : Below V.heap.size V W) => hT.below hb hT.lt
  have hd : Below V.heap.size V V.drew := Below.drew (Below.refl _ _)
  have q0 := hcells _ hd
  have p0 := hD.ptr
  have htr := fun (W : World) (hb : Below V.drew.heap.size V.drew W) => hd.trans hb
  have hfz := hfin V (Below.refl _ _)
  unfold layT at hfin hkeep hfz
  unfold Rg.v rgC at HS
  unfold Ds.tr Ds.ta
  generalize s.r.settle = v at *
  unfold PnS at hcells hkeep q0
  replace hfin := Lib.hid hfin
  replace hkeep := Lib.hid hkeep
  replace HS := Lib.hid HS
  replace hcells := Lib.hid hcells
  replace hT2 := Lib.hid hT2
  replace htr := Lib.hid htr
  replace hfinal := Lib.hid hfinal
  rw [show decide (nreads s.l ≤ s.n) = s.ok from rfl] at HC
  replace HC := Lib.hid HC
  generalize cutL s.n s.l = C at *
  clear h hlt hbel hV0 hD hd hl hA hA2 hlc c11 c11'
  have hTc := hT
  have t0 := hTc.cell 0
  have f0 := hTc.free 0
  have t1 := hTc.cell 1
  have f1 := hTc.free 1
  have t2 := hTc.cell 2
  have f2 := hTc.free 2
  have t3 := hTc.cell 3
  have f3 := hTc.free 3
  have t4 := hTc.cell 4
  have f4 := hTc.free 4
  have t5 := hTc.cell 5
  have f5 := hTc.free 5
  have t6 := hTc.cell 6
  have f6 := hTc.free 6
  have t7 := hTc.cell 7
  have f7 := hTc.free 7
  have t8 := hTc.cell 8
  have f8 := hTc.free 8
  have t9 := hTc.cell 9
  have f9 := hTc.free 9
  have t10 := hTc.cell 10
  have f10 := hTc.free 10
  have t11 := hTc.cell 11
  have f11 := hTc.free 11
  have t12 := hTc.cell 12
  have f12 := hTc.free 12
  simp only [List.getElem?_toArray, List.getElem?_cons_zero, List.getElem?_cons_succ] at t0 t1 t2 t3 t4 t5 t6 t7 t8 t9 t10 t11 t12
  generalize hso : s.ok = d at *
  cases d with
  | false =>
    have hF := Lib.hid (fun c => hfz (.slice la C.length c) (.bool false) rg0 0)
    clear hfz hfin hkeep HS hcells hT2 htr hT hso q0
    unfold rg0 at hF
    dsimp only at hF
    simp only [show ((0 : Nat) : Int) = 0 from rfl] at hF
    go_enter Tryz.func67, Tryz.ntmps67
    go_upto_region 1 with (fail)
    clear hV hTe
    go_wp2_with fail
    refine HC.out.mono ?_
    rintro e W1 ⟨c, rfl, hcc, rfl⟩
    have hF1 := Lib.hid (hF.out c)
    replace hcc := Lib.hid hcc
    clear HC hF
    go_wp2_with fail
    exact bodyPost_ret (results_cell_row (fn := Tryz.f67) (p := 2) (ty := 29) rfl _ _ _ _ _ (0, 0) _ rfl hF1.out.1 Tryz.underlying29 rfl (by kernel_rfl)) rfl ⟨_, _, rfl, (hfinal.out _ hF1.out.2.2).1, hcc.out, (hfinal.out _ hF1.out.2.2).2, hab.out⟩
  | true =>
    clear hfz hso t0 f0 t1 f1 t2 f2 t3 f3 t4 f4 t5 f5 t6 f6 t7 f7 t8 f8 t9 f9 t10 f10 t11 f11 t12 f12
    clear hTc
    generalize s.r.A = rA at *
    generalize s.r.X = rX at *
    generalize s.r.Y = rY at *
    generalize s.r.S = rS at *
    generalize s.r.D = rD at *
    generalize s.r.PC = rPC at *
    generalize s.r.B = rB at *
    generalize s.r.K = rK at *
    generalize s.r.P = rP at *
    generalize s.r.E = rE at *
    generalize s.af = af at *
    go_enter Tryz.func67, Tryz.ntmps67
    go_upto_region 1 with (fail)
    clear hV hTe
    go_wp2_with fail
    refine HC.out.mono ?_
    rintro e W1 ⟨c, rfl, hcc, rfl⟩
    replace hcc := Lib.hid hcc
    clear HC
    go_upto_region 4 with (fail)
    go_region_held3 (fun V => V.cell? ⟨t, 0, none⟩ = some (.pointer (some ⟨b, 0, none⟩)) ∧ V.cell? ⟨t, 7, none⟩ = some (.int .u8 af) ∧ V.cell? ⟨b, 0, none⟩ = some (.int .u16 rA) ∧ V.cell? ⟨b, 1, none⟩ = some (.int .u16 rX) ∧ V.cell? ⟨b, 2, none⟩ = some (.int .u16 rY) ∧ V.cell? ⟨b, 3, none⟩ = some (.int .u16 rS) ∧ V.cell? ⟨b, 4, none⟩ = some (.int .u16 rD) ∧ V.cell? ⟨b, 5, none⟩ = some (.int .u16 rPC) ∧ V.cell? ⟨b, 6, none⟩ = some (.int .u8 rB) ∧ V.cell? ⟨b, 7, none⟩ = some (.int .u8 rK) ∧ V.cell? ⟨b, 8, none⟩ = some (.int .u8 rP) ∧ V.cell? ⟨b, 9, none⟩ = some (.bool rE))
      (first | with_reducible exact q0 | with_reducible exact hcells.out _ (htr.out _ hb2) | with_reducible exact hkeep.out _ _ (hcells.out _ (htr.out _ hb2)) _ | go_keep)
      (first | (go_at_call 62; (with_reducible refine (HS.out _).mono ?_); rintro e W2 ⟨rfl, hb2⟩; have hT3 := hT2.out _ (htr.out _ hb2); have t0 : W2.cell? ⟨T, 0, none⟩ = some (.slice none 0 0) := (by rw [hT3.cell]; rfl); have f0 := hT3.free 0; have t1 : W2.cell? ⟨T, 1, none⟩ = some (.bool false) := (by rw [hT3.cell]; rfl); have f1 := hT3.free 1; have t2 : W2.cell? ⟨T, 2, none⟩ = some (.int .u16 0) := (by rw [hT3.cell]; rfl); have f2 := hT3.free 2; have t3 : W2.cell? ⟨T, 3, none⟩ = some (.int .u16 0) := (by rw [hT3.cell]; rfl); have f3 := hT3.free 3; have t4 : W2.cell? ⟨T, 4, none⟩ = some (.int .u16 0) := (by rw [hT3.cell]; rfl); have f4 := hT3.free 4; have t5 : W2.cell? ⟨T, 5, none⟩ = some (.int .u16 0) := (by rw [hT3.cell]; rfl); have f5 := hT3.free 5; have t6 : W2.cell? ⟨T, 6, none⟩ = some (.int .u16 0) := (by rw [hT3.cell]; rfl); have f6 := hT3.free 6; have t7 : W2.cell? ⟨T, 7, none⟩ = some (.int .u16 0) := (by rw [hT3.cell]; rfl); have f7 := hT3.free 7; have t8 : W2.cell? ⟨T, 8, none⟩ = some (.int .u8 0) := (by rw [hT3.cell]; rfl); have f8 := hT3.free 8; have t9 : W2.cell? ⟨T, 9, none⟩ = some (.int .u8 0) := (by rw [hT3.cell]; rfl); have f9 := hT3.free 9; have t10 : W2.cell? ⟨T, 10, none⟩ = some (.int .u8 0) := (by rw [hT3.cell]; rfl); have f10 := hT3.free 10; have t11 : W2.cell? ⟨T, 11, none⟩ = some (.bool false) := (by rw [hT3.cell]; rfl); have f11 := hT3.free 11; have t12 : W2.cell? ⟨T, 12, none⟩ = some (.int .u8 0) := (by rw [hT3.cell]; rfl); have f12 := hT3.free 12; have hfn := Lib.hid (hfin.out _ (htr.out _ hb2) (.slice la C.length c) (.bool true) v af)))
    go_wp2_with fail
    exact bodyPost_ret (results_cell_row (fn := Tryz.f67) (p := 2) (ty := 29) rfl _ _ _ _ _ (0, 0) _ rfl hfn.out.1 Tryz.underlying29 rfl (by kernel_rfl)) rfl ⟨_, _, rfl, (hfinal.out _ hfn.out.2.2).1, hcc.out, (hfinal.out _ hfn.out.2.2).2, hab.out⟩
end Go.Proofs.YtnacdaodjgdnnaaGreat
namespace Go.Proofs.YtnacdaodjgdnnaaGreat
open Go.RowKit Go.Shelf
set_option maxRecDepth 100000
set_option maxHeartbeats 1000000
set_option linter.unusedVariables false

/-- Registers laid, cell by cell. -/
def layR (W : World) (b : Nat) (r : Rg) : World := (((((((((W.setCell ⟨b, 0, none⟩ (.int .u16 (r.A : Nat))).setCell ⟨b, 1, none⟩ (.int .u16 (r.X : Nat))).setCell ⟨b, 2, none⟩ (.int .u16 (r.Y : Nat))).setCell ⟨b, 3, none⟩ (.int .u16 (r.S : Nat))).setCell ⟨b, 4, none⟩ (.int .u16 (r.D : Nat))).setCell ⟨b, 5, none⟩ (.int .u16 (r.PC : Nat))).setCell ⟨b, 6, none⟩ (.int .u8 (r.B : Nat))).setCell ⟨b, 7, none⟩ (.int .u8 (r.K : Nat))).setCell ⟨b, 8, none⟩ (.int .u8 (r.P : Nat))).setCell ⟨b, 9, none⟩ (.bool r.E)
theorem Dk.lay {W0 w : World} {B b t : Nat} {cd : Cd5} {wide : Bool} {s : Ds} (h : Dk W0 B b t cd wide s w) (r : Rg) (ok : r.Ok) : Dk W0 B b t cd wide (s.rr r) (layR w b r) := by
  have h0 := h.reg 0 (.int .u16 (r.A : Nat)) ⟨r.A, s.r.X, s.r.Y, s.r.S, s.r.D, s.r.PC, s.r.B, s.r.K, s.r.P, s.r.E⟩ ⟨ok.A, h.pk.ok.X, h.pk.ok.Y, h.pk.ok.S, h.pk.ok.D, h.pk.ok.PC, h.pk.ok.B, h.pk.ok.K, h.pk.ok.P⟩ (fun _ _ => rfl)
  have h1 := h0.reg 1 (.int .u16 (r.X : Nat)) ⟨r.A, r.X, s.r.Y, s.r.S, s.r.D, s.r.PC, s.r.B, s.r.K, s.r.P, s.r.E⟩ ⟨ok.A, ok.X, h.pk.ok.Y, h.pk.ok.S, h.pk.ok.D, h.pk.ok.PC, h.pk.ok.B, h.pk.ok.K, h.pk.ok.P⟩ (fun _ _ => rfl)
  have h2 := h1.reg 2 (.int .u16 (r.Y : Nat)) ⟨r.A, r.X, r.Y, s.r.S, s.r.D, s.r.PC, s.r.B, s.r.K, s.r.P, s.r.E⟩ ⟨ok.A, ok.X, ok.Y, h.pk.ok.S, h.pk.ok.D, h.pk.ok.PC, h.pk.ok.B, h.pk.ok.K, h.pk.ok.P⟩ (fun _ _ => rfl)
  have h3 := h2.reg 3 (.int .u16 (r.S : Nat)) ⟨r.A, r.X, r.Y, r.S, s.r.D, s.r.PC, s.r.B, s.r.K, s.r.P, s.r.E⟩ ⟨ok.A, ok.X, ok.Y, ok.S, h.pk.ok.D, h.pk.ok.PC, h.pk.ok.B, h.pk.ok.K, h.pk.ok.P⟩ (fun _ _ => rfl)
  have h4 := h3.reg 4 (.int .u16 (r.D : Nat)) ⟨r.A, r.X, r.Y, r.S, r.D, s.r.PC, s.r.B, s.r.K, s.r.P, s.r.E⟩ ⟨ok.A, ok.X, ok.Y, ok.S, ok.D, h.pk.ok.PC, h.pk.ok.B, h.pk.ok.K, h.pk.ok.P⟩ (fun _ _ => rfl)
  have h5 := h4.reg 5 (.int .u16 (r.PC : Nat)) ⟨r.A, r.X, r.Y, r.S, r.D, r.PC, s.r.B, s.r.K, s.r.P, s.r.E⟩ ⟨ok.A, ok.X, ok.Y, ok.S, ok.D, ok.PC, h.pk.ok.B, h.pk.ok.K, h.pk.ok.P⟩ (fun _ _ => rfl)
  have h6 := h5.reg 6 (.int .u8 (r.B : Nat)) ⟨r.A, r.X, r.Y, r.S, r.D, r.PC, r.B, s.r.K, s.r.P, s.r.E⟩ ⟨ok.A, ok.X, ok.Y, ok.S, ok.D, ok.PC, ok.B, h.pk.ok.K, h.pk.ok.P⟩ (fun _ _ => rfl)
  have h7 := h6.reg 7 (.int .u8 (r.K : Nat)) ⟨r.A, r.X, r.Y, r.S, r.D, r.PC, r.B, r.K, s.r.P, s.r.E⟩ ⟨ok.A, ok.X, ok.Y, ok.S, ok.D, ok.PC, ok.B, ok.K, h.pk.ok.P⟩ (fun _ _ => rfl)
  have h8 := h7.reg 8 (.int .u8 (r.P : Nat)) ⟨r.A, r.X, r.Y, r.S, r.D, r.PC, r.B, r.K, r.P, s.r.E⟩ ⟨ok.A, ok.X, ok.Y, ok.S, ok.D, ok.PC, ok.B, ok.K, ok.P⟩ (fun _ _ => rfl)
  have h9 := h8.reg 9 (.bool r.E) ⟨r.A, r.X, r.Y, r.S, r.D, r.PC, r.B, r.K, r.P, r.E⟩ ⟨ok.A, ok.X, ok.Y, ok.S, ok.D, ok.PC, ok.B, ok.K, ok.P⟩ (fun _ _ => rfl)
  exact h9
/-- Registers behind a reset's idles, by the document. -/
def resetR (r : Rg) : Rg := (⟨r.A, r.X, r.Y, (r.S + 65533) % 65536, 0, r.PC, 0, 0, flagP (flagP r.P 4 true) 8 false, true⟩ : Rg).settle
theorem resetR_ok {r : Rg} (h : r.Ok) : (resetR r).Ok := Rg.Ok.settle ⟨h.A, h.X, h.Y, Nat.mod_lt _ (by decide), (by decide : (0 : Nat) < 65536), h.PC, (by decide : (0 : Nat) < 256), (by decide : (0 : Nat) < 256), flagP_lt _ 8 false (flagP_lt _ 4 true h.P (by decide)) (by decide)⟩
/-- What the document's interrupt makes of a plan. -/
def dReset (r : Rg) (s : Ds) : Ds :=
  let s3 := ((wd (idlesW 5) (s.rr r)).2).rr (resetR (wd (idlesW 5) (s.rr r)).2.r)
  (wd (readAtW 0 65532 2) s3).2.rr ((wd (readAtW 0 65532 2) s3).2.r.pc (wd (readAtW 0 65532 2) s3).1)
def intW (why : Nat) : Wp Unit := bindW (idlesW 2) fun _ => bindW getW fun r => intoW (vectorF why r.E) (if r.E then r.P &&& 239 else r.P)
theorem Is.interrupt (why : Nat) : Is (interruptX why) (intW why) := Is.bind (Is.idles 2) fun _ => Is.bind Is.get fun r => Is.enter _ _
theorem Fine.interrupt (why : Nat) : Fine (intW why) := Fine.bind (Fine.idles 2) fun _ => Fine.bind Fine.get fun r => Fine.enter _ _
def dEnter (why : Nat) (r : Rg) (s : Ds) : Ds := if why = 0 then dReset r s else if why = 1 ∨ why = 2 then (wd (intW why) s).2 else s
theorem intD (why : Nat) (s s1 : Ds) (h1 : (wd (idlesW 2) s).2 = s1) : (wd (intW why) s).2 = (wd (intoW (vectorF why s1.r.E) (if s1.r.E then s1.r.P &&& 239 else s1.r.P)) s1).2 := by
  unfold intW
  rw [wd_bind, wd_bind, wd_get, h1]
theorem idlesD_r : ∀ (n : Nat) (s : Ds), (wd (idlesW n) s).2.r = s.r
  | 0, s => rfl
  | n + 1, s => by
    rw [idlesD_succ]
    exact idlesD_r n s
end Go.Proofs.YtnacdaodjgdnnaaGreat
namespace Go.Proofs.YtnacdaodjgdnnaaGreat
open Go.RowKit Go.Shelf
set_option maxRecDepth 100000
set_option maxHeartbeats 1000000
set_option linter.unusedVariables false

/-- A new turn of the document's, with its plan. -/
theorem Dk.new (V W2 : World) (a : Option Addr) (n c : Nat) (f : Nat → Nat) (r : Rg) (hr : r.Ok) (hb : Below V.heap.size V W2) (hR : Row V a n f) (hnc : n ≤ c) :
    Dk V V.heap.size W2.heap.size (W2.heap.size + 1) cd0 false ⟨r, n, f, [], 0, 0⟩ ((W2.alloc (.cells #[.int .u16 r.A, .int .u16 r.X, .int .u16 r.Y, .int .u16 r.S, .int .u16 r.D, .int .u16 r.PC, .int .u8 r.B, .int .u8 r.K, .int .u8 r.P, .bool r.E, .slice a n c, .slice none 0 0, .int .i64 0] 110)).alloc (.cells #[.pointer (some ⟨W2.heap.size, 0, none⟩), .int .u8 0, .string ⟨#[]⟩, .int .u8 0, .int .u8 0, .int .u8 0, .bool false, .int .u8 0] 112)) := by
  have h1 := (Whole.fresh W2 110 #[.int .u16 r.A, .int .u16 r.X, .int .u16 r.Y, .int .u16 r.S, .int .u16 r.D, .int .u16 r.PC, .int .u8 r.B, .int .u8 r.K, .int .u8 r.P, .bool r.E, .slice a n c, .slice none 0 0, .int .i64 0])
  have h2 := Whole.fresh (W2.alloc (.cells #[.int .u16 r.A, .int .u16 r.X, .int .u16 r.Y, .int .u16 r.S, .int .u16 r.D, .int .u16 r.PC, .int .u8 r.B, .int .u8 r.K, .int .u8 r.P, .bool r.E, .slice a n c, .slice none 0 0, .int .i64 0] 110)) 112 #[.pointer (some ⟨W2.heap.size, 0, none⟩), .int .u8 0, .string ⟨#[]⟩, .int .u8 0, .int .u8 0, .int .u8 0, .bool false, .int .u8 0]
  rw [World.size_alloc] at h2
  exact ⟨⟨hr, ⟨a, c, .slice none 0 0, h1.alloc _, hnc, hR, World.ownsRow_nil _ _ _ _⟩, hb.size, (hb.alloc hb.size _).alloc (Nat.le_trans hb.size (by simp)) _, rfl, Nat.le_refl _⟩, h2, Nat.le_trans hb.size (Nat.le_succ _)⟩
theorem denter_0 (r : Rg) (a : Option Addr) (n c : Nat) (f : Nat → Nat) (w : World) (h : r.Ok) (hR : Row w a n f) (hnc : n ≤ c) (s : Ds) (hs : dEnter 0 r ⟨r.settle, n, f, [], 0, 0⟩ = s) (hlen : s.l.length ≤ 200) :
    Calls Tryz.prog 22 #[.int .u8 0, r.v, .slice a n c] w fun e w' => ∃ a c, e = .returned (tnV (.slice a (cutL s.n s.l).length c) s.ok s.tr s.ta) ∧ AX w' a (cutL s.n s.l) ∧ (cutL s.n s.l).length ≤ c ∧ Below w.heap.size w w' := by
  have hG := (Whole.fresh w 24 (rgC r.A r.X r.Y r.S r.D r.PC r.B r.K r.P r.E)).alloc (.cells #[.slice none 0 0, .bool false, .int .u16 0, .int .u16 0, .int .u16 0, .int .u16 0, .int .u16 0, .int .u16 0, .int .u8 0, .int .u8 0, .int .u8 0, .bool false, .int .u8 0] 29)
  have hB := ((Below.refl w.heap.size w).alloc (Nat.le_refl _) (.cells (rgC r.A r.X r.Y r.S r.D r.PC r.B r.K r.P r.E) 24)).alloc (by simp) (.cells #[.slice none 0 0, .bool false, .int .u16 0, .int .u16 0, .int .u16 0, .int .u16 0, .int .u16 0, .int .u16 0, .int .u8 0, .int .u8 0, .int .u8 0, .bool false, .int .u8 0] 29)
  have hT := Whole.fresh (w.alloc (.cells (rgC r.A r.X r.Y r.S r.D r.PC r.B r.K r.P r.E) 24)) 29 #[.slice none 0 0, .bool false, .int .u16 0, .int .u16 0, .int .u16 0, .int .u16 0, .int .u16 0, .int .u16 0, .int .u8 0, .int .u8 0, .int .u8 0, .bool false, .int .u8 0]
  have hR2 := (hR.alloc (.cells (rgC r.A r.X r.Y r.S r.D r.PC r.B r.K r.P r.E) 24)).alloc (.cells #[.slice none 0 0, .bool false, .int .u16 0, .int .u16 0, .int .u16 0, .int .u16 0, .int .u16 0, .int .u16 0, .int .u8 0, .int .u8 0, .int .u8 0, .bool false, .int .u8 0] 29)
  have hsz : (w.alloc (.cells (rgC r.A r.X r.Y r.S r.D r.PC r.B r.K r.P r.E) 24)).heap.size = w.heap.size + 1 := by simp
  rw [hsz] at hT
  generalize hV : (w.alloc (.cells (rgC r.A r.X r.Y r.S r.D r.PC r.B r.K r.P r.E) 24)).alloc (.cells #[.slice none 0 0, .bool false, .int .u16 0, .int .u16 0, .int .u16 0, .int .u16 0, .int .u16 0, .int .u16 0, .int .u8 0, .int .u8 0, .int .u8 0, .bool false, .int .u8 0] 29) = V at *
  have HS := fun W => rsettle_any r W h
  have hset := h.settle
  have hnew := fun (W2 : World) (hb : Below V.heap.size V W2) => Dk.new V W2 a n c f r.settle hset hb hR2 hnc
  have hTlt := hT.lt
  have hVs := hB.size
  have hGW := fun (W : World) (hb : Below V.heap.size V W) => hG.below hb hG.lt
  -- the end
  have hlast : ∀ (la : Option Addr) (lc : Nat) (W : World), AX W la (cutL s.n s.l) → AB V.heap.size la → Below V.heap.size V W → (Whole W (w.heap.size + 1) 29 #[.slice none 0 0, .bool false, .int .u16 0, .int .u16 0, .int .u16 0, .int .u16 0, .int .u16 0, .int .u16 0, .int .u8 0, .int .u8 0, .int .u8 0, .bool false, .int .u8 0] ∧ Hid (Whole (layT W (w.heap.size + 1) (.slice la (cutL s.n s.l).length lc) (.bool s.ok) (.int .u16 (s.tr.A : Nat)) (.int .u16 (s.tr.X : Nat)) (.int .u16 (s.tr.Y : Nat)) (.int .u16 (s.tr.S : Nat)) (.int .u16 (s.tr.D : Nat)) (.int .u16 (s.tr.PC : Nat)) (.int .u8 (s.tr.B : Nat)) (.int .u8 (s.tr.K : Nat)) (.int .u8 (s.tr.P : Nat)) (.bool s.tr.E) (.int .u8 (s.ta : Nat))) (w.heap.size + 1) 29 #[.slice la (cutL s.n s.l).length lc, .bool s.ok, .int .u16 (s.tr.A : Nat), .int .u16 (s.tr.X : Nat), .int .u16 (s.tr.Y : Nat), .int .u16 (s.tr.S : Nat), .int .u16 (s.tr.D : Nat), .int .u16 (s.tr.PC : Nat), .int .u8 (s.tr.B : Nat), .int .u8 (s.tr.K : Nat), .int .u8 (s.tr.P : Nat), .bool s.tr.E, .int .u8 (s.ta : Nat)] ∧ AX (layT W (w.heap.size + 1) (.slice la (cutL s.n s.l).length lc) (.bool s.ok) (.int .u16 (s.tr.A : Nat)) (.int .u16 (s.tr.X : Nat)) (.int .u16 (s.tr.Y : Nat)) (.int .u16 (s.tr.S : Nat)) (.int .u16 (s.tr.D : Nat)) (.int .u16 (s.tr.PC : Nat)) (.int .u8 (s.tr.B : Nat)) (.int .u8 (s.tr.K : Nat)) (.int .u8 (s.tr.P : Nat)) (.bool s.tr.E) (.int .u8 (s.ta : Nat))) la (cutL s.n s.l) ∧ Below w.heap.size w (layT W (w.heap.size + 1) (.slice la (cutL s.n s.l).length lc) (.bool s.ok) (.int .u16 (s.tr.A : Nat)) (.int .u16 (s.tr.X : Nat)) (.int .u16 (s.tr.Y : Nat)) (.int .u16 (s.tr.S : Nat)) (.int .u16 (s.tr.D : Nat)) (.int .u16 (s.tr.PC : Nat)) (.int .u8 (s.tr.B : Nat)) (.int .u8 (s.tr.K : Nat)) (.int .u8 (s.tr.P : Nat)) (.bool s.tr.E) (.int .u8 (s.ta : Nat))))) :=
    fun la lc W ha hab hb => by
      have hTw := hT.below hb hTlt
      have hx := layT_fin (lv := .slice none 0 0) (n := 0) (xs := []) (.slice la (cutL s.n s.l).length lc) (.bool s.ok) (.int .u16 (s.tr.A : Nat)) (.int .u16 (s.tr.X : Nat)) (.int .u16 (s.tr.Y : Nat)) (.int .u16 (s.tr.S : Nat)) (.int .u16 (s.tr.D : Nat)) (.int .u16 (s.tr.PC : Nat)) (.int .u8 (s.tr.B : Nat)) (.int .u8 (s.tr.K : Nat)) (.int .u8 (s.tr.P : Nat)) (.bool s.tr.E) (.int .u8 (s.ta : Nat)) hTw (World.ownsRow_nil W w.heap.size 35 3) (by simp [Value.ownBlock]) (hB.trans (hb.mono hVs)) (Nat.le_succ _)
      exact ⟨hTw, Lib.hid ⟨hx.1, ha.lay (fun p hp => by have := hab p hp; have := hTlt; omega) _ _ _ _ _ _ _ _ _ _ _ _ _, hx.2.2⟩⟩
  have hl200 : s.l.length ≤ 200 := hlen
  have HT := fun (B b t : Nat) (W : World) (hW : Dk V B b t cd0 false s W) => dtold_any hW hl200
  unfold layT at hlast
  have hvr : r.v = .agg #[.int .u16 r.A, .int .u16 r.X, .int .u16 r.Y, .int .u16 r.S, .int .u16 r.D, .int .u16 r.PC, .int .u8 r.B, .int .u8 r.K, .int .u8 r.P, .bool r.E] := rfl
  unfold Rg.v rgC at HS
  rw [hvr]
  unfold rgC at hG hV hGW
  have g0 := hG.cell 0
  have g1 := hG.cell 1
  have g2 := hG.cell 2
  have g3 := hG.cell 3
  have g4 := hG.cell 4
  have g5 := hG.cell 5
  have g6 := hG.cell 6
  have g7 := hG.cell 7
  have g8 := hG.cell 8
  have g9 := hG.cell 9
  simp only [List.getElem?_toArray, List.getElem?_cons_zero, List.getElem?_cons_succ] at g0 g1 g2 g3 g4 g5 g6 g7 g8 g9
  generalize hq : r.settle = q at *
  replace HS := Lib.hid HS
  replace hnew := Lib.hid hnew
  replace hlast := Lib.hid hlast
  replace HT := Lib.hid HT
  replace hGW := Lib.hid hGW
  clear hG hB hT hR2 hR hsz hTlt hVs hnc hlen hl200 hvr hset
  rw [show dEnter 0 r ⟨q, n, f, [], 0, 0⟩ = dReset r ⟨q, n, f, [], 0, 0⟩ from rfl] at hs
  have hd0 : dReset r ⟨q, n, f, [], 0, 0⟩ = (wd (readAtW 0 65532 2) ((wd (idlesW 5) ⟨r, n, f, [], 0, 0⟩).2.rr (resetR (wd (idlesW 5) ⟨r, n, f, [], 0, 0⟩).2.r))).2.rr ((wd (readAtW 0 65532 2) ((wd (idlesW 5) ⟨r, n, f, [], 0, 0⟩).2.rr (resetR (wd (idlesW 5) ⟨r, n, f, [], 0, 0⟩).2.r))).2.r.pc (wd (readAtW 0 65532 2) ((wd (idlesW 5) ⟨r, n, f, [], 0, 0⟩).2.rr (resetR (wd (idlesW 5) ⟨r, n, f, [], 0, 0⟩).2.r))).1) := rfl
  rw [hd0] at hs
  clear hd0
  have HI := fun (b t : Nat) (W : World) (hW : Dk V V.heap.size b t cd0 false ⟨r, n, f, [], 0, 0⟩ W) => didle_any (n := 5) hW (by show 0 + 5 ≤ 100; decide)
  have hr2 : (wd (idlesW 5) ⟨r, n, f, [], 0, 0⟩).2.r = r := idlesD_r 5 _
  have hl2 : (wd (idlesW 5) ⟨r, n, f, [], 0, 0⟩).2.l.length = 5 := idlesD_len 5 _
  generalize (wd (idlesW 5) ⟨r, n, f, [], 0, 0⟩).2 = s2 at *
  rw [hr2] at hs
  obtain ⟨x, hx⟩ : ∃ x, (r.S + 65533) % 65536 = x := ⟨_, rfl⟩
  have hxl : x < 65536 := by omega
  have ex : IntKind.u16.wrap ((r.S : Int) - 3) = (x : Int) := by rw [IntKind.wrap_u16]; omega
  have ok := h
  -- the five stores
  have hS5 := fun (b t : Nat) (W : World) (hW : Dk V V.heap.size b t cd0 false s2 W) => (show Dk V V.heap.size b t cd0 false (s2.rr ⟨r.A, r.X, r.Y, x, 0, r.PC, 0, 0, r.P, true⟩) (((((W.setCell ⟨b, 3, none⟩ (.int .u16 (x : Nat))).setCell ⟨b, 9, none⟩ (.bool true)).setCell ⟨b, 4, none⟩ (.int .u16 0)).setCell ⟨b, 6, none⟩ (.int .u8 0)).setCell ⟨b, 7, none⟩ (.int .u8 0)) from by
    have h1 := hW.reg 3 (.int .u16 (x : Nat)) ⟨r.A, r.X, r.Y, x, r.D, r.PC, r.B, r.K, r.P, r.E⟩ ⟨ok.A, ok.X, ok.Y, hxl, ok.D, ok.PC, ok.B, ok.K, ok.P⟩ (fun _ _ => by rw [hr2]; rfl)
    have h2 := h1.reg 9 (.bool true) ⟨r.A, r.X, r.Y, x, r.D, r.PC, r.B, r.K, r.P, true⟩ ⟨ok.A, ok.X, ok.Y, hxl, ok.D, ok.PC, ok.B, ok.K, ok.P⟩ (fun _ _ => rfl)
    have h3 := h2.reg 4 (.int .u16 0) ⟨r.A, r.X, r.Y, x, 0, r.PC, r.B, r.K, r.P, true⟩ ⟨ok.A, ok.X, ok.Y, hxl, (by decide : (0 : Nat) < 65536), ok.PC, ok.B, ok.K, ok.P⟩ (fun _ _ => rfl)
    have h4 := h3.reg 6 (.int .u8 0) ⟨r.A, r.X, r.Y, x, 0, r.PC, 0, r.K, r.P, true⟩ ⟨ok.A, ok.X, ok.Y, hxl, (by decide : (0 : Nat) < 65536), ok.PC, (by decide : (0 : Nat) < 256), ok.K, ok.P⟩ (fun _ _ => rfl)
    exact h4.reg 7 (.int .u8 0) ⟨r.A, r.X, r.Y, x, 0, r.PC, 0, 0, r.P, true⟩ ⟨ok.A, ok.X, ok.Y, hxl, (by decide : (0 : Nat) < 65536), ok.PC, (by decide : (0 : Nat) < 256), (by decide : (0 : Nat) < 256), ok.P⟩ (fun _ _ => rfl))
  have hF5 := fun (b t : Nat) (W : World) (hW : Dk V V.heap.size b t cd0 false s2 W) => (show (W.cell? ⟨b, 3, none⟩ = some (.int .u16 (r.S : Nat)) ∧ W.frozen? ⟨b, 3, none⟩ = false) ∧
      ((W.setCell ⟨b, 3, none⟩ (.int .u16 (x : Nat))).cell? ⟨b, 9, none⟩ = some (.bool r.E) ∧ (W.setCell ⟨b, 3, none⟩ (.int .u16 (x : Nat))).frozen? ⟨b, 9, none⟩ = false) ∧
      (((W.setCell ⟨b, 3, none⟩ (.int .u16 (x : Nat))).setCell ⟨b, 9, none⟩ (.bool true)).cell? ⟨b, 4, none⟩ = some (.int .u16 (r.D : Nat)) ∧ ((W.setCell ⟨b, 3, none⟩ (.int .u16 (x : Nat))).setCell ⟨b, 9, none⟩ (.bool true)).frozen? ⟨b, 4, none⟩ = false) ∧
      ((((W.setCell ⟨b, 3, none⟩ (.int .u16 (x : Nat))).setCell ⟨b, 9, none⟩ (.bool true)).setCell ⟨b, 4, none⟩ (.int .u16 0)).cell? ⟨b, 6, none⟩ = some (.int .u8 (r.B : Nat)) ∧ (((W.setCell ⟨b, 3, none⟩ (.int .u16 (x : Nat))).setCell ⟨b, 9, none⟩ (.bool true)).setCell ⟨b, 4, none⟩ (.int .u16 0)).frozen? ⟨b, 6, none⟩ = false) ∧
      (((((W.setCell ⟨b, 3, none⟩ (.int .u16 (x : Nat))).setCell ⟨b, 9, none⟩ (.bool true)).setCell ⟨b, 4, none⟩ (.int .u16 0)).setCell ⟨b, 6, none⟩ (.int .u8 0)).cell? ⟨b, 7, none⟩ = some (.int .u8 (r.K : Nat)) ∧ ((((W.setCell ⟨b, 3, none⟩ (.int .u16 (x : Nat))).setCell ⟨b, 9, none⟩ (.bool true)).setCell ⟨b, 4, none⟩ (.int .u16 0)).setCell ⟨b, 6, none⟩ (.int .u8 0)).frozen? ⟨b, 7, none⟩ = false) from by
    have h1 := hW.reg 3 (.int .u16 (x : Nat)) ⟨r.A, r.X, r.Y, x, r.D, r.PC, r.B, r.K, r.P, r.E⟩ ⟨ok.A, ok.X, ok.Y, hxl, ok.D, ok.PC, ok.B, ok.K, ok.P⟩ (fun _ _ => by rw [hr2]; rfl)
    have h2 := h1.reg 9 (.bool true) ⟨r.A, r.X, r.Y, x, r.D, r.PC, r.B, r.K, r.P, true⟩ ⟨ok.A, ok.X, ok.Y, hxl, ok.D, ok.PC, ok.B, ok.K, ok.P⟩ (fun _ _ => rfl)
    have h3 := h2.reg 4 (.int .u16 0) ⟨r.A, r.X, r.Y, x, 0, r.PC, r.B, r.K, r.P, true⟩ ⟨ok.A, ok.X, ok.Y, hxl, (by decide : (0 : Nat) < 65536), ok.PC, ok.B, ok.K, ok.P⟩ (fun _ _ => rfl)
    have h4 := h3.reg 6 (.int .u8 0) ⟨r.A, r.X, r.Y, x, 0, r.PC, 0, r.K, r.P, true⟩ ⟨ok.A, ok.X, ok.Y, hxl, (by decide : (0 : Nat) < 65536), ok.PC, (by decide : (0 : Nat) < 256), ok.K, ok.P⟩ (fun _ _ => rfl)
    exact ⟨⟨by rw [← hr2]; exact hW.pk.look.1.2.2.2.1, hW.pk.look.2.2 3⟩, ⟨h1.pk.look.2.1.2.2.2.2, h1.pk.look.2.2 9⟩, ⟨h2.pk.look.1.2.2.2.2, h2.pk.look.2.2 4⟩, ⟨h3.pk.look.2.1.2.1, h3.pk.look.2.2 6⟩, ⟨h4.pk.look.2.1.2.2.1, h4.pk.look.2.2 7⟩⟩)
  have H3 := fun (b t : Nat) (W : World) (hW : Dk V V.heap.size b t cd0 false (s2.rr ⟨r.A, r.X, r.Y, x, 0, r.PC, 0, 0, r.P, true⟩) W) => dset_any (f := 4) (on := true) hW (by decide)
  have H4 := fun (b t : Nat) (W : World) (hW : Dk V V.heap.size b t cd0 false (s2.rr ⟨r.A, r.X, r.Y, x, 0, r.PC, 0, 0, flagP r.P 4 true, true⟩) W) => (show Calls Tryz.prog 72 #[.pointer (some ⟨t, 0, none⟩), .int .u8 ((8 : Nat) : Int), .bool false] W fun e w' => e = .returned (.tuple #[]) ∧ Dk V V.heap.size b t cd0 false (s2.rr ⟨r.A, r.X, r.Y, x, 0, r.PC, 0, 0, flagP (flagP r.P 4 true) 8 false, true⟩) w' from dset_any (f := 8) (on := false) hW (by decide))
  have hok5 : (⟨r.A, r.X, r.Y, x, 0, r.PC, 0, 0, flagP (flagP r.P 4 true) 8 false, true⟩ : Rg).Ok := ⟨ok.A, ok.X, ok.Y, hxl, (by decide : (0 : Nat) < 65536), ok.PC, (by decide : (0 : Nat) < 256), (by decide : (0 : Nat) < 256), flagP_lt _ 8 false (flagP_lt _ 4 true ok.P (by decide)) (by decide)⟩
  have HS2 := fun W => rsettle_any ⟨r.A, r.X, r.Y, x, 0, r.PC, 0, 0, flagP (flagP r.P 4 true) 8 false, true⟩ W hok5
  have hrs : resetR r = (⟨r.A, r.X, r.Y, x, 0, r.PC, 0, 0, flagP (flagP r.P 4 true) 8 false, true⟩ : Rg).settle := by unfold resetR; rw [hx]
  have hq2ok := hok5.settle
  rw [← hrs] at HS2 hq2ok
  generalize resetR r = q2 at *
  have hL1 := fun (b t : Nat) (W : World) (hW : Dk V V.heap.size b t cd0 false ⟨q, n, f, [], 0, 0⟩ W) => hW.lay r h
  have hk1 := fun (b t : Nat) (W : World) (z : Ds) (hW : Dk V V.heap.size b t cd0 false z W) => And.intro hW.ptr hW.pk.look
  generalize hz5 : (⟨r.A, r.X, r.Y, x, 0, r.PC, 0, 0, flagP (flagP r.P 4 true) 8 false, true⟩ : Rg) = q5 at *
  have hL2 := fun (b t : Nat) (W : World) (hW : Dk V V.heap.size b t cd0 false (s2.rr q5) W) => (show Dk V V.heap.size b t cd0 false (s2.rr q2) (layR W b q2) from hW.lay q2 hq2ok)
  have H5 := fun (b t : Nat) (W : World) (hW : Dk V V.heap.size b t cd0 false (s2.rr q2) W) => dword_any (bk := 0) (n := 65532) hW (by show s2.l.length ≤ 98; omega) (by decide) (by decide)
  have hrr := readAtD_r 0 65532 (s2.rr q2)
  generalize wd (readAtW 0 65532 2) (s2.rr q2) = p at *
  obtain ⟨v, s6⟩ := p
  dsimp only at *
  have hL3 := fun (b t : Nat) (W : World) (hv : v < 65536) (hW : Dk V V.heap.size b t cd0 false s6 W) => (show Dk V V.heap.size b t cd0 false s (W.setCell ⟨b, 5, none⟩ (.int .u16 (v : Nat))) from by
    rw [← hs]
    exact hW.setPC v hv)
  unfold layR at hL1 hL2
  unfold Rg.v rgC at HS2
  simp only [show ((4 : Nat) : Int) = 4 from rfl, show ((5 : Nat) : Int) = 5 from rfl, show ((8 : Nat) : Int) = 8 from rfl, show ((0 : Nat) : Int) = 0 from rfl, show ((65532 : Nat) : Int) = 65532 from rfl] at HI H3 H4 H5
  replace HI := Lib.hid HI
  replace H3 := Lib.hid H3
  replace H4 := Lib.hid H4
  replace H5 := Lib.hid H5
  replace hS5 := Lib.hid hS5
  replace hF5 := Lib.hid hF5
  replace hL1 := Lib.hid hL1
  replace hL2 := Lib.hid hL2
  replace hL3 := Lib.hid hL3
  replace hk1 := Lib.hid hk1
  replace hz5 := Lib.hid hz5
  replace HS2 := Lib.hid HS2
  clear ok hrs hq2ok hok5 hl2 hr2 hxl hx hrr hs hq h
  go_enter Tryz.func22, Tryz.ntmps22
  go_upto_region 1 with (fail)
  clear hV
  go_wp2_with fail
  refine (HS.out _).mono ?_
  rintro e W2 ⟨rfl, hb⟩
  have hD := hnew.out W2 hb
  have hG3 := hGW.out _ hD.pk.bel
  clear HS hnew hb g0 g1 g2 g3 g4 g5 g6 g7 g8 g9 hGW
  go_upto_region 2 with (fail)
  generalize (W2.alloc (.cells #[.int .u16 q.A, .int .u16 q.X, .int .u16 q.Y, .int .u16 q.S, .int .u16 q.D, .int .u16 q.PC, .int .u8 q.B, .int .u8 q.K, .int .u8 q.P, .bool q.E, .slice a n c, .slice none 0 0, .int .i64 0] 110)).alloc (.cells #[.pointer (some ⟨W2.heap.size, 0, none⟩), .int .u8 0, .string ⟨#[]⟩, .int .u8 0, .int .u8 0, .int .u8 0, .bool false, .int .u8 0] 112) = W3 at *
  generalize W2.heap.size = b at *
  have g0 := hG3.cell 0
  have g1 := hG3.cell 1
  have g2 := hG3.cell 2
  have g3 := hG3.cell 3
  have g4 := hG3.cell 4
  have g5 := hG3.cell 5
  have g6 := hG3.cell 6
  have g7 := hG3.cell 7
  have g8 := hG3.cell 8
  have g9 := hG3.cell 9
  simp only [List.getElem?_toArray, List.getElem?_cons_zero, List.getElem?_cons_succ] at g0 g1 g2 g3 g4 g5 g6 g7 g8 g9
  clear hG3
  go_upto_region 3 with (fail)
  have c0 := hD.ptr
  go_still_tail 7, (by kernel_rfl)
  show wpList _ _ _ _ _ W3.drew
  replace hD := hD.drew
  clear c0
  generalize W3.drew = W4 at *
  have hL := hL1.out _ _ _ hD
  obtain ⟨p0, ⟨⟨a0, a1, a2, a3, a4⟩, ⟨a5, a6, a7, a8, a9⟩, af⟩⟩ := hk1.out _ _ _ _ hD
  have f0 := af 0
  have f1 := af 1
  have f2 := af 2
  have f3 := af 3
  have f4 := af 4
  have f5 := af 5
  have f6 := af 6
  have f7 := af 7
  have f8 := af 8
  have f9 := af 9
  clear af
  clear hD hL1
  dsimp only [Ds.rr] at hL
  replace hL := Lib.hid hL
  go_upto_region 4 with (fail)
  generalize (((((((((W4.setCell ⟨b, 0, none⟩ (.int .u16 (r.A : Nat))).setCell ⟨b, 1, none⟩ (.int .u16 (r.X : Nat))).setCell ⟨b, 2, none⟩ (.int .u16 (r.Y : Nat))).setCell ⟨b, 3, none⟩ (.int .u16 (r.S : Nat))).setCell ⟨b, 4, none⟩ (.int .u16 (r.D : Nat))).setCell ⟨b, 5, none⟩ (.int .u16 (r.PC : Nat))).setCell ⟨b, 6, none⟩ (.int .u8 (r.B : Nat))).setCell ⟨b, 7, none⟩ (.int .u8 (r.K : Nat))).setCell ⟨b, 8, none⟩ (.int .u8 (r.P : Nat))).setCell ⟨b, 9, none⟩ (.bool r.E) = W5 at *
  clear a0 a1 a2 a3 a4 a5 a6 a7 a8 a9 f0 f1 f2 f3 f4 f5 f6 f7 f8 f9 g0 g1 g2 g3 g4 g5 g6 g7 g8 g9 p0
  have c0 := hL.out.ptr
  go_wp2_with fail
  refine (HI.out _ _ _ hL.out).mono ?_
  rintro e W6 ⟨rfl, h6⟩
  clear HI hL c0
  obtain ⟨⟨b3, e3⟩, ⟨b9, e9⟩, ⟨b4, e4⟩, ⟨b6, e6⟩, b7, e7⟩ := hF5.out _ _ _ h6
  have h7 := Lib.hid (hS5.out _ _ _ h6)
  clear hF5 hS5 h6
  go_upto_region 11 with (fail)
  generalize ((((W6.setCell ⟨b, 3, none⟩ (.int .u16 (x : Nat))).setCell ⟨b, 9, none⟩ (.bool true)).setCell ⟨b, 4, none⟩ (.int .u16 0)).setCell ⟨b, 6, none⟩ (.int .u8 0)).setCell ⟨b, 7, none⟩ (.int .u8 0) = W7 at *
  clear b3 e3 b9 e9 b4 e4 b6 e6 b7 e7
  go_wp2_with fail
  refine (H3.out _ _ _ h7.out).mono ?_
  rintro e W8 ⟨rfl, h8⟩
  replace h8 := Lib.hid h8
  clear H3 h7
  go_wp2_with fail
  refine (H4.out _ _ _ h8.out).mono ?_
  rintro e W9 ⟨rfl, h9⟩
  obtain ⟨p0, ⟨⟨a0, a1, a2, a3, a4⟩, ⟨a5, a6, a7, a8, a9⟩, af⟩⟩ := hk1.out _ _ _ _ h9
  clear H4 h8
  dsimp only [Ds.rr] at a0 a1 a2 a3 a4 a5 a6 a7 a8 a9
  clear af
  go_upto_region 13 with (fail)
  go_region_with (first
      | (go_at_call 62; (with_reducible refine (HS2.out _).mono ?_); rintro e W10 ⟨rfl, hb10⟩; have hB10 : Below W9.heap.size W9 W10 := Below.trans (Below.drew (Below.refl _ W9)) hb10; have h10 := h9.below hB10; obtain ⟨m0, ⟨⟨b0, b1, b2, b3, b4⟩, ⟨b5, b6, b7, b8, b9⟩, bf⟩⟩ := hk1.out _ _ _ _ h10; have e0 := bf 0; have e1 := bf 1; have e2 := bf 2; have e3 := bf 3; have e4 := bf 4; have e5 := bf 5; have e6 := bf 6; have e7 := bf 7; have e8 := bf 8; have e9 := bf 9; have hL10 := Lib.hid (hL2.out _ _ _ h10)))
  all_goals
    clear h9 hB10 h10 m0 b0 b1 b2 b3 b4 b5 b6 b7 b8 b9 bf e0 e1 e2 e3 e4 e5 e6 e7 e8 e9 a0 a1 a2 a3 a4 a5 a6 a7 a8 a9 hb10 p0
    generalize (((((((((W10.setCell ⟨b, 0, none⟩ (.int .u16 (q2.A : Nat))).setCell ⟨b, 1, none⟩ (.int .u16 (q2.X : Nat))).setCell ⟨b, 2, none⟩ (.int .u16 (q2.Y : Nat))).setCell ⟨b, 3, none⟩ (.int .u16 (q2.S : Nat))).setCell ⟨b, 4, none⟩ (.int .u16 (q2.D : Nat))).setCell ⟨b, 5, none⟩ (.int .u16 (q2.PC : Nat))).setCell ⟨b, 6, none⟩ (.int .u8 (q2.B : Nat))).setCell ⟨b, 7, none⟩ (.int .u8 (q2.K : Nat))).setCell ⟨b, 8, none⟩ (.int .u8 (q2.P : Nat))).setCell ⟨b, 9, none⟩ (.bool q2.E) = W11 at *
    have hLd := hL10.out.drew
    have c0 := hLd.ptr
    clear hL10
    go_upto_region 14 with (fail)
    go_region_held3 (fun V => V.cell? ⟨b + 1, 0, none⟩ = some (.pointer (some ⟨b, 0, none⟩)))
      (first | with_reducible exact c0 | with_reducible exact h12.ptr | with_reducible exact hD.out.ptr | go_keep)
      (first
        | (go_at_call 73; (with_reducible refine (H5.out _ _ _ hLd).mono ?_); rintro e W12 ⟨rfl, h12, hv⟩; have k5 := h12.pk.look.2.1.1; have kf := h12.pk.look.2.2 5; have hD := Lib.hid (hL3.out _ _ _ hv h12)))
    clear h12 hv k5 kf hLd c0
    go_wp2_with fail
    refine (HT.out _ _ _ _ hD.out).mono ?_
    rintro e W9 ⟨la, lc, rfl, hax, hlc, hb9, hab⟩
    obtain ⟨hTc, hfn⟩ := hlast.out la lc W9 hax hab hb9
    have t0 := hTc.cell 0
    have f0 := hTc.free 0
    have t1 := hTc.cell 1
    have f1 := hTc.free 1
    have t2 := hTc.cell 2
    have f2 := hTc.free 2
    have t3 := hTc.cell 3
    have f3 := hTc.free 3
    have t4 := hTc.cell 4
    have f4 := hTc.free 4
    have t5 := hTc.cell 5
    have f5 := hTc.free 5
    have t6 := hTc.cell 6
    have f6 := hTc.free 6
    have t7 := hTc.cell 7
    have f7 := hTc.free 7
    have t8 := hTc.cell 8
    have f8 := hTc.free 8
    have t9 := hTc.cell 9
    have f9 := hTc.free 9
    have t10 := hTc.cell 10
    have f10 := hTc.free 10
    have t11 := hTc.cell 11
    have f11 := hTc.free 11
    have t12 := hTc.cell 12
    have f12 := hTc.free 12
    simp only [List.getElem?_toArray, List.getElem?_cons_zero, List.getElem?_cons_succ] at t0 t1 t2 t3 t4 t5 t6 t7 t8 t9 t10 t11 t12
    replace hlc := Lib.hid hlc
    clear HT hD hTc hax hab hb9 hlast
    unfold tnV
    go_wp2_with fail
    exact bodyPost_ret (results_cell_row (fn := Tryz.f22) (p := 6) (ty := 29) rfl _ _ _ _ _ (0, 0) _ rfl hfn.out.1 Tryz.underlying29 rfl (by kernel_rfl)) rfl ⟨_, _, rfl, hfn.out.2.1, hlc.out, hfn.out.2.2⟩
end Go.Proofs.YtnacdaodjgdnnaaGreat
