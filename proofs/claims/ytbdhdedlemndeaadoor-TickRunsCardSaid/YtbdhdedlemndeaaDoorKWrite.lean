/-
  Write, by the code (genkwrite.py writes this text).
-/
import Derived.Test.YtbdhdedlemndeaaDoorKSteer
namespace Go.Proofs.YtbdhdedlemndeaaDoor
open Go.RowKit Go.Shelf
set_option maxRecDepth 100000
set_option maxHeartbeats 1000000
set_option linter.unusedVariables false

def writeF (f : Nat → Nat) (r v : Nat) : Nat → Nat := if kindF r = 1 then steerF f v else if kindF r = 2 then upd f (17 + idxF r) v else if kindF r = 3 then upd f (21 + idxF r) v else if kindF r = 4 then upd f (1 + idxF r * 4) v else f
theorem GoodT.write {f : Nat → Nat} (h : GoodT f) (r : Nat) {v : Nat} (hv : v < 256) : GoodT (writeF f r v) := by
  obtain ⟨i2, i3, i4, i5⟩ := idx_lt r
  unfold writeF
  split
  · exact h.steer hv
  split
  · rename_i e; have := i2 e
    exact h.upd hv (by omega) (fun h => by omega) (fun h => by omega)
  split
  · rename_i e; have := i3 e
    exact h.upd hv (by omega) (fun h => by omega) (fun h => by omega)
  split
  · rename_i e; have := i4 e
    exact h.upd hv (by omega) (fun h => by omega) (fun h => by omega)
  · exact h
theorem kwrite_any {b : Nat} {f : Nat → Nat} (r v : Nat) (w : World) (h : Ts w b f) (hv : v < 256) :
    Calls Tryd.prog 14 #[.pointer (some ⟨b, 0, none⟩), .int .u8 (r : Nat), .int .u8 (v : Nat)] w fun e w' => e = .returned (.tuple #[]) ∧ Ts w' b (writeF f r v) ∧ w.grownBy w' (some b) := by
  have HT := Lib.hid fun W => tell_any r W
  have HS := Lib.hid (steer_any v w h hv)
  have hgr := Lib.hid (h.good.write r hv)
  have hk := kind_lt r
  obtain ⟨i2, i3, i4, i5⟩ := idx_lt r
  have hd2 : writeF f r v = if kindF r = 1 then steerF f v else if kindF r = 2 then upd f (17 + idxF r) v else if kindF r = 3 then upd f (21 + idxF r) v else if kindF r = 4 then upd f (1 + idxF r * 4) v else f := rfl
  generalize writeF f r v = F at *
  generalize idxF r = k at *
  generalize kindF r = K at *
  have hh := Lib.hid h
  rcases (show K = 0 ∨ K = 1 ∨ K = 2 ∨ K = 3 ∨ K = 4 ∨ K = 5 by omega) with rfl | rfl | rfl | rfl | rfl | rfl
  · obtain rfl : f = F := hd2.symm
    clear h i2 i3 i4 i5 HS
    go_enter Tryd.func14, Tryd.ntmps14
    go_wp2_with fail
    refine (HT.out _).mono ?_
    rintro e w' ⟨rfl, rfl⟩
    go_wp2_with fail
    first | go_end0 | skip
    first | exact ⟨rfl, hh.out, grown_refl _ _⟩ | exact bodyPost_ret (results_none rfl _ _ _) rfl ⟨rfl, hh.out, grown_refl _ _⟩
  · obtain rfl : F = steerF f v := hd2
    clear h i2 i3 i4 i5
    go_enter Tryd.func14, Tryd.ntmps14
    go_wp2_with fail
    refine (HT.out _).mono ?_
    rintro e w' ⟨rfl, rfl⟩
    go_wp2_with fail
    refine HS.out.mono ?_
    rintro e W2 ⟨rfl, hT2, hg2⟩
    replace hT2 := Lib.hid hT2
    replace hg2 := Lib.hid hg2
    clear HS
    go_wp2_with fail
    first | go_end0 | skip
    first | exact ⟨rfl, hT2.out, hg2.out⟩ | exact bodyPost_ret (results_none rfl _ _ _) rfl ⟨rfl, hT2.out, hg2.out⟩
  · obtain rfl : F = upd f (17 + k) v := hd2
    have hk4 := i2 rfl
    have c := h.tq.cell (17 + k) (by omega)
    have q := h.tq.free (17 + k)
    have hT2 := h.tq.put (17 + k) v hv
    have hg2 := only_set (grown_refl w b) (17 + k) (.int .u8 (v : Nat))
    have hP2 := Lib.hid (h.pd.only hg2 h.ne)
    replace hT2 := Lib.hid hT2
    replace hg2 := Lib.hid hg2
    have hne := Lib.hid h.ne
    clear h i2 i3 i4 i5 HS hh
    generalize f (17 + k) = A at *
    go_enter Tryd.func14, Tryd.ntmps14
    go_wp2_with fail
    refine (HT.out _).mono ?_
    rintro e w' ⟨rfl, rfl⟩
    go_wp2_with fail
    first | go_end0 | skip
    first | exact ⟨rfl, ⟨hT2.out, hP2.out, hne.out, hgr.out⟩, hg2.out⟩ | exact bodyPost_ret (results_none rfl _ _ _) rfl ⟨rfl, ⟨hT2.out, hP2.out, hne.out, hgr.out⟩, hg2.out⟩
  · obtain rfl : F = upd f (21 + k) v := hd2
    have hk4 := i3 rfl
    have c := h.tq.cell (21 + k) (by omega)
    have q := h.tq.free (21 + k)
    have hT2 := h.tq.put (21 + k) v hv
    have hg2 := only_set (grown_refl w b) (21 + k) (.int .u8 (v : Nat))
    have hP2 := Lib.hid (h.pd.only hg2 h.ne)
    replace hT2 := Lib.hid hT2
    replace hg2 := Lib.hid hg2
    have hne := Lib.hid h.ne
    clear h i2 i3 i4 i5 HS hh
    generalize f (21 + k) = A at *
    go_enter Tryd.func14, Tryd.ntmps14
    go_wp2_with fail
    refine (HT.out _).mono ?_
    rintro e w' ⟨rfl, rfl⟩
    go_wp2_with fail
    first | go_end0 | skip
    first | exact ⟨rfl, ⟨hT2.out, hP2.out, hne.out, hgr.out⟩, hg2.out⟩ | exact bodyPost_ret (results_none rfl _ _ _) rfl ⟨rfl, ⟨hT2.out, hP2.out, hne.out, hgr.out⟩, hg2.out⟩
  · obtain rfl : F = upd f (1 + k * 4) v := hd2
    have hk4 := i4 rfl
    have c := h.tq.cell (1 + k * 4) (by omega)
    have q := h.tq.free (1 + k * 4)
    have hT2 := h.tq.put (1 + k * 4) v hv
    have hg2 := only_set (grown_refl w b) (1 + k * 4) (.int .u8 (v : Nat))
    have hP2 := Lib.hid (h.pd.only hg2 h.ne)
    replace hT2 := Lib.hid hT2
    replace hg2 := Lib.hid hg2
    have hne := Lib.hid h.ne
    clear h i2 i3 i4 i5 HS hh
    generalize f (1 + k * 4) = A at *
    go_enter Tryd.func14, Tryd.ntmps14
    go_wp2_with fail
    refine (HT.out _).mono ?_
    rintro e w' ⟨rfl, rfl⟩
    go_wp2_with fail
    first | go_end0 | skip
    first | exact ⟨rfl, ⟨hT2.out, hP2.out, hne.out, hgr.out⟩, hg2.out⟩ | exact bodyPost_ret (results_none rfl _ _ _) rfl ⟨rfl, ⟨hT2.out, hP2.out, hne.out, hgr.out⟩, hg2.out⟩
  · obtain rfl : f = F := hd2.symm
    clear h i2 i3 i4 i5 HS
    go_enter Tryd.func14, Tryd.ntmps14
    go_wp2_with fail
    refine (HT.out _).mono ?_
    rintro e w' ⟨rfl, rfl⟩
    go_wp2_with fail
    first | go_end0 | skip
    first | exact ⟨rfl, hh.out, grown_refl _ _⟩ | exact bodyPost_ret (results_none rfl _ _ _) rfl ⟨rfl, hh.out, grown_refl _ _⟩
end Go.Proofs.YtbdhdedlemndeaaDoor
