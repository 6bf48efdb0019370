/-
  ExecEnters: the law's walk.
-/
import Derived.Test.YtnacdaodjgdnnaaGreatXEnters
import Derived.Deep.RegionHeld3
namespace Go.Proofs.YtnacdaodjgdnnaaGreat
open Go.RowKit Go.Shelf
set_option maxRecDepth 100000
set_option maxHeartbeats 1000000
set_option linter.unusedVariables false

namespace execEnters
theorem walk (why : Nat) (r : Rg) (a : Option Addr) (n c : Nat) (f : Nat → Nat) (w : World) (hw : why < 256) (h : r.Ok) (hR : Row w a n f) (hnc : n ≤ c) (hn : n ≤ 140737488355328) :
    Calls Tryz.prog 4 #[.int .u8 (why : Nat), r.v, .slice a n c] w fun e w' => e = .returned (.bool true) ∧ Below w.heap.size w w' := by
  have hG := Whole.fresh w 24 (rgC r.A r.X r.Y r.S r.D r.PC r.B r.K r.P r.E)
  have hB := (Below.refl w.heap.size w).alloc (Nat.le_refl _) (.cells (rgC r.A r.X r.Y r.S r.D r.PC r.B r.K r.P r.E) 24)
  have hR1 := hR.alloc (.cells (rgC r.A r.X r.Y r.S r.D r.PC r.B r.K r.P r.E) 24)
  generalize hV : w.alloc (.cells (rgC r.A r.X r.Y r.S r.D r.PC r.B r.K r.P r.E) 24) = V at *
  have hVs := hB.size
  have hf := hR.1
  obtain ⟨x, hx⟩ : ∃ x, (enterTopX why ⟨r.settle, n, f, [], false, cd0, 0⟩).2 = x := ⟨_, rfl⟩
  obtain ⟨d, hd⟩ : ∃ d, dEnter why r ⟨r.settle, n, f, [], 0, 0⟩ = d := ⟨_, rfl⟩
  obtain ⟨s1, s2, s3, s4⟩ := enter_same why r h n f hf x d hx hd
  have hlx : x.l.length ≤ 100 := by rw [← hx]; exact enter_len why _ rfl
  have hld := enter_lenD why r n f
  rw [hd] at hld
  -- the calls
  have HC := fun (W : World) (hW : Below V.heap.size V W) => copied_any a n c f W ((hR1.below (by exact hW))) hn
  have HE := fun (G : Nat) (W : World) (hW : Row W (some ⟨G, 0, none⟩) n f) => enter_any_top why r (some ⟨G, 0, none⟩) n n f W hw h hW (Nat.le_refl _)
  rw [hx] at HE
  have HD := fun (W : World) (hW : Below V.heap.size V W) => denter_any why r a n c f W hw h (hR1.below hW) hnc d hd hld
  rw [← s2, ← s1, ← s3, ← s4] at HD
  have HT := fun (a a' : Option Addr) (c c' : Nat) (W : World) (h1 : AX W a x.l) (h2 : AX W a' x.l) => turns_any a a' c c' x.l (!x.st) x.tr x.ta W h1 h2 hlx
  have HV1 := fun W => vector_any why r.E W hw
  have HV2 := fun W => rvector_any why r.E W hw
  have HA := fun W => awake8 W
  have hax := fun (W : World) (B : Nat) (lv : Value) (ho : W.ownsRow B 35 3 lv x.l.length (accX x.l)) => ax_of ho rfl
  have hcell := fun (W : World) (hW : Below V.heap.size V W) => (show W.cell? ⟨w.heap.size, 0, none⟩ = some (.int .u16 (r.A : Nat)) ∧ W.cell? ⟨w.heap.size, 1, none⟩ = some (.int .u16 (r.X : Nat)) ∧ W.cell? ⟨w.heap.size, 2, none⟩ = some (.int .u16 (r.Y : Nat)) ∧ W.cell? ⟨w.heap.size, 3, none⟩ = some (.int .u16 (r.S : Nat)) ∧ W.cell? ⟨w.heap.size, 4, none⟩ = some (.int .u16 (r.D : Nat)) ∧ W.cell? ⟨w.heap.size, 5, none⟩ = some (.int .u16 (r.PC : Nat)) ∧ W.cell? ⟨w.heap.size, 6, none⟩ = some (.int .u8 (r.B : Nat)) ∧ W.cell? ⟨w.heap.size, 7, none⟩ = some (.int .u8 (r.K : Nat)) ∧ W.cell? ⟨w.heap.size, 8, none⟩ = some (.int .u8 (r.P : Nat)) ∧ W.cell? ⟨w.heap.size, 9, none⟩ = some (.bool r.E) from by
    have h1 := hG.below hW hG.lt
    rw [h1.cell, h1.cell, h1.cell, h1.cell, h1.cell, h1.cell, h1.cell, h1.cell, h1.cell, h1.cell]
    exact ⟨rfl, rfl, rfl, rfl, rfl, rfl, rfl, rfl, rfl, rfl⟩)
  have hd0 : Below V.heap.size V V.drew := Below.drew (Below.refl _ _)
  have q0 := hcell _ hd0
  have hvr : r.v = .agg #[.int .u16 r.A, .int .u16 r.X, .int .u16 r.Y, .int .u16 r.S, .int .u16 r.D, .int .u16 r.PC, .int .u8 r.B, .int .u8 r.K, .int .u8 r.P, .bool r.E] := rfl
  rw [hvr] at HE HD ⊢
  unfold rgC at hV
  unfold tnV at HE HD HT
  generalize vectorF why r.E = vec at *
  generalize x.tr = q at *
  generalize x.ta = z at *
  generalize (!x.st) = dn at *
  generalize x.l = l at *
  obtain ⟨L, hL⟩ : ∃ L, l.length = L := ⟨_, rfl⟩
  rw [hL] at HE HD HT hax
  have hBV := Lib.hid hB
  replace HC := Lib.hid HC
  replace HE := Lib.hid HE
  replace HD := Lib.hid HD
  replace HT := Lib.hid HT
  replace HV1 := Lib.hid HV1
  replace HV2 := Lib.hid HV2
  replace HA := Lib.hid HA
  replace hax := Lib.hid hax
  replace hcell := Lib.hid hcell
  have hd0' := Lib.hid hd0
  clear hd0 hG hB hR1 hR hx hd s1 s2 s3 s4 hlx hld hL hf hvr h hw hn hnc hVs
  go_enter Tryz.func4, Tryz.ntmps4
  go_upto_region 1 with (fail)
  clear hV
  go_region_held3 (fun W => W.cell? ⟨w.heap.size, 0, none⟩ = some (.int .u16 (r.A : Nat)) ∧ W.cell? ⟨w.heap.size, 1, none⟩ = some (.int .u16 (r.X : Nat)) ∧ W.cell? ⟨w.heap.size, 2, none⟩ = some (.int .u16 (r.Y : Nat)) ∧ W.cell? ⟨w.heap.size, 3, none⟩ = some (.int .u16 (r.S : Nat)) ∧ W.cell? ⟨w.heap.size, 4, none⟩ = some (.int .u16 (r.D : Nat)) ∧ W.cell? ⟨w.heap.size, 5, none⟩ = some (.int .u16 (r.PC : Nat)) ∧ W.cell? ⟨w.heap.size, 6, none⟩ = some (.int .u8 (r.B : Nat)) ∧ W.cell? ⟨w.heap.size, 7, none⟩ = some (.int .u8 (r.K : Nat)) ∧ W.cell? ⟨w.heap.size, 8, none⟩ = some (.int .u8 (r.P : Nat)) ∧ W.cell? ⟨w.heap.size, 9, none⟩ = some (.bool r.E))
    (first | with_reducible exact q0 | with_reducible exact hcell.out _ b1 | with_reducible exact hcell.out _ b2 | with_reducible exact hcell.out _ b3 | with_reducible exact hcell.out _ b4 | with_reducible exact hcell.out _ b5 | go_keep)
    (first
      | (go_at_call 15; (with_reducible refine (HC.out _ hd0'.out).mono ?_); rintro e W1 ⟨G, rfl, hH, hle, hb1⟩; have b1 := Below.trans hd0'.out (hb1.mono (show V.heap.size ≤ V.drew.heap.size from Nat.le_refl _)); have hG1 := hH.row)
      | (go_at_call 21; (with_reducible refine (HE.out _ _ hG1).mono ?_); rintro e W2 ⟨lv, rfl, ho, hb2⟩; obtain ⟨la, lc, rfl, hax2, hlc⟩ := hax.out _ _ _ ho; have b2 := b1.trans (hb2.mono b1.size))
      | (go_at_call 22; (with_reducible refine (HD.out _ b2).mono ?_); rintro e W3 ⟨la', lc', rfl, hax3, hlc', hb3⟩; have b3 := b2.trans (hb3.mono b2.size); have hax2' := hax2.below hb3)
      | (go_at_call 17; (with_reducible refine (HT.out _ _ _ _ _ hax2' hax3).mono ?_); rintro e W4 ⟨rfl, hb4⟩; have b4 := b3.trans (hb4.mono b3.size))
      | (go_at_call 23; (with_reducible refine (HV1.out _).mono ?_); rintro e W5 ⟨rfl, rfl⟩)
      | (go_at_call 24; (with_reducible refine (HV2.out _).mono ?_); rintro e W5 ⟨rfl, rfl⟩)
      | (go_at_call 20; (with_reducible refine (HA.out _).mono ?_); rintro e W5 ⟨rfl, hb5⟩; have b5 := b4.trans (hb5.mono b4.size)))
  have hfin := hBV.out.trans (b5.mono hBV.out.size)
  go_wp2_with fail
  go_ret
  exact ⟨rfl, hfin⟩
end execEnters
end Go.Proofs.YtnacdaodjgdnnaaGreat
