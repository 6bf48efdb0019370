/-
  Where a processor stands; a processor that is none.
-/
import Derived.Test.YtnacdaodjgdnnaaGreatMStep2
namespace Go.Proofs.YtnacdaodjgdnnaaGreat
open Go.RowKit Go.Shelf
set_option maxRecDepth 100000
set_option maxHeartbeats 1000000
set_option linter.unusedVariables false

theorem stage_none {b : Nat} {s : Ms} {w : World} (h : Mk b s w) (hct : s.ct = 0) : Calls Tryz.prog 55 #[.pointer (some ⟨b, 0, none⟩)] w fun e w' => e = .returned (.agg #[.int .u8 (s.md : Nat), .int .u8 (s.why : Nat), .int .i64 (s.at_ : Nat), .slice none 0 0]) ∧ Below w.heap.size w w' := by
  have hb := (Below.refl w.heap.size w).alloc (Nat.le_refl _) (.cells #[.int .u8 0, .int .u8 0, .int .i64 0, .slice none 0 0] 91)
  have hT := Whole.fresh w 91 #[.int .u8 0, .int .u8 0, .int .i64 0, .slice none 0 0]
  have hM := h.below hb
  obtain ⟨V, hV⟩ : ∃ V, w.alloc (.cells #[.int .u8 0, .int .u8 0, .int .i64 0, .slice none 0 0] 91) = V := ⟨_, rfl⟩
  rw [hV] at hb hT hM
  obtain ⟨T, hTe⟩ : ∃ T, w.heap.size = T := ⟨_, rfl⟩
  have hlt := h.lt
  rw [hTe] at hb hT hlt
  have HB := fun (W : World) (hb : Below V.heap.size V W) => bytesSeen_any (hM.below hb)
  rw [hct] at HB
  have hmid := fun (W : World) (hb : Below V.heap.size V W) => (show W.cell? ⟨b, 10, none⟩ = some (.int .u8 (s.md : Nat)) ∧ W.cell? ⟨b, 11, none⟩ = some (.int .u8 (s.why : Nat)) ∧ W.cell? ⟨b, 15, none⟩ = some (.int .i64 (s.at_ : Nat)) from ⟨(hM.below hb).mid.1.1, (hM.below hb).mid.1.2.1, (hM.below hb).mid.1.2.2.2.2.2.1⟩)
  have hap : ∀ W : World, (Builtin.append_ #[25, 25] 25 #[.slice none 0 0, .slice (some ⟨b, 16, none⟩) 0 16]).run Tryz.prog W = .ok (.slice none 0 0) W := fun W => by kernel_rfl
  have hfin := fun (W : World) (hbW : Below V.heap.size V W) => (show (∀ i, i < 4 → ∃ v, W.cell? ⟨T, i, none⟩ = some v ∧ W.frozen? ⟨T, i, none⟩ = false) ∧ Hid (Whole ((((W.setCell ⟨T, 0, none⟩ (.int .u8 (s.md : Nat))).setCell ⟨T, 1, none⟩ (.int .u8 (s.why : Nat))).setCell ⟨T, 2, none⟩ (.int .i64 (s.at_ : Nat))).setCell ⟨T, 3, none⟩ (.slice none 0 0)) T 91 #[.int .u8 (s.md : Nat), .int .u8 (s.why : Nat), .int .i64 (s.at_ : Nat), .slice none 0 0] ∧ Below T w ((((W.setCell ⟨T, 0, none⟩ (.int .u8 (s.md : Nat))).setCell ⟨T, 1, none⟩ (.int .u8 (s.why : Nat))).setCell ⟨T, 2, none⟩ (.int .i64 (s.at_ : Nat))).setCell ⟨T, 3, none⟩ (.slice none 0 0))) from by
    have hTW := hT.below hbW hT.lt
    refine ⟨fun i hi => ?_, Lib.hid ⟨?_, ?_⟩⟩
    · rcases (show i = 0 ∨ i = 1 ∨ i = 2 ∨ i = 3 by omega) with rfl | rfl | rfl | rfl
      · exact ⟨_, by rw [hTW.cell]; rfl, hTW.free _⟩
      · exact ⟨_, by rw [hTW.cell]; rfl, hTW.free _⟩
      · exact ⟨_, by rw [hTW.cell]; rfl, hTW.free _⟩
      · exact ⟨_, by rw [hTW.cell]; rfl, hTW.free _⟩
    · have h3 := (((hTW.put 0 (.int .u8 (s.md : Nat))).put 1 (.int .u8 (s.why : Nat))).put 2 (.int .i64 (s.at_ : Nat))).put 3 (.slice none 0 0)
      exact h3
    · have hb2 := hb.trans (hbW.mono (by have := hT.lt; omega))
      exact (((hb2.setCell (p := ⟨T, 0, none⟩) (Nat.le_refl _) _).setCell (p := ⟨T, 1, none⟩) (Nat.le_refl _) _).setCell (p := ⟨T, 2, none⟩) (Nat.le_refl _) _).setCell (p := ⟨T, 3, none⟩) (Nat.le_refl _) _)
  have hmid2 := fun (W : World) (hbW : Below T w W) => (show W.cell? ⟨b, 10, none⟩ = some (.int .u8 (s.md : Nat)) ∧ W.cell? ⟨b, 11, none⟩ = some (.int .u8 (s.why : Nat)) ∧ W.cell? ⟨b, 15, none⟩ = some (.int .i64 (s.at_ : Nat)) from by
    have h2 := h.below (by rw [hTe]; exact hbW)
    exact ⟨h2.mid.1.1, h2.mid.1.2.1, h2.mid.1.2.2.2.2.2.1⟩)
  have hd : Below V.heap.size V V.drew := Below.drew (Below.refl _ _)
  have q0 := hmid _ hd
  have c0 := (hmid V (Below.refl _ _)).1
  replace HB := Lib.hid HB
  replace hmid := Lib.hid hmid
  replace hmid2 := Lib.hid hmid2
  replace hfin := Lib.hid hfin
  replace hd := Lib.hid hd
  clear h hb hT hM hlt hct
  generalize s.md = md at *
  generalize s.why = why at *
  generalize s.at_ = at_ at *
  go_enter Tryz.func55, Tryz.ntmps55
  go_upto_region 1 with (fail)
  clear hV
  go_upto_region 3 with (fail)
  go_region_held3 (fun W => W.cell? ⟨b, 10, none⟩ = some (.int .u8 (md : Nat)) ∧ W.cell? ⟨b, 11, none⟩ = some (.int .u8 (why : Nat)) ∧ W.cell? ⟨b, 15, none⟩ = some (.int .i64 (at_ : Nat)))
    (first | with_reducible exact q0 | with_reducible exact hmid.out _ b1 | with_reducible exact hmid2.out _ hfn.out.2 | go_keep)
    (first
      | (go_at_call 105; (with_reducible refine (HB.out _ hd.out).mono ?_); rintro e W1 ⟨rfl, hb1⟩; have b1 := Below.trans hd.out (hb1.mono (show V.heap.size ≤ V.drew.heap.size from Nat.le_refl _)); obtain ⟨hz, hfn⟩ := hfin.out _ b1; obtain ⟨u0, t0, f0⟩ := hz 0 (by decide); obtain ⟨u1, t1, f1⟩ := hz 1 (by decide); obtain ⟨u2, t2, f2⟩ := hz 2 (by decide); obtain ⟨u3, t3, f3⟩ := hz 3 (by decide)))
  go_wp2_with fail
  exact bodyPost_ret (results_cell_row (fn := Tryz.f55) (p := 2) (ty := 91) rfl _ _ _ _ _ (0, 0) _ rfl hfn.out.1 Tryz.underlying91 rfl (by kernel_rfl)) rfl ⟨rfl, by rw [hTe]; exact hfn.out.2⟩
end Go.Proofs.YtnacdaodjgdnnaaGreat
