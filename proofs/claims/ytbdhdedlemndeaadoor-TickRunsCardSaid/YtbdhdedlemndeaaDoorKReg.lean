/-
  Registers are read, by the code; a Tick is made; ports.
-/
import Derived.Test.YtbdhdedlemndeaaDoorKTell
import Derived.Test.YtbdhdedlemndeaaDoorKStp
namespace Go.Proofs.YtbdhdedlemndeaaDoor
open Go.RowKit Go.Shelf
set_option maxRecDepth 100000
set_option maxHeartbeats 1000000
set_option linter.unusedVariables false

def readV (f : Nat → Nat) (r : Nat) : Nat := if kindF r = 2 then f (13 + idxF r) else if kindF r = 3 then f (21 + idxF r) else if kindF r = 5 then f (1 + idxF r * 4 + 3) else 0
def readF (f : Nat → Nat) (r : Nat) : Nat → Nat := if kindF r = 5 then upd f (1 + idxF r * 4 + 3) 0 else f
theorem idx_lt (r : Nat) : (kindF r = 2 → idxF r < 4) ∧ (kindF r = 3 → idxF r < 2) ∧ (kindF r = 4 → idxF r < 3) ∧ (kindF r = 5 → idxF r < 3) := by
  unfold kindF idxF
  refine ⟨fun h => ?_, fun h => ?_, fun h => ?_, fun h => ?_⟩ <;> (repeat' split at h) <;> (repeat' split) <;> omega
theorem kind_lt (r : Nat) : kindF r < 6 := by unfold kindF; (repeat' split) <;> omega
theorem GoodT.tally {f : Nat → Nat} (h : GoodT f) {k : Nat} (hk : k < 3) : GoodT (upd f (1 + k * 4 + 3) 0) := by
  rcases (show k = 0 ∨ k = 1 ∨ k = 2 by omega) with rfl | rfl | rfl
  all_goals
    refine ⟨fun i => ?_, ?_, ?_, ?_, ?_, ?_, ?_, ?_⟩
    · unfold upd; split
      · decide
      · exact h.byte i
    · exact h.div0
    · exact h.div1
    · exact h.div2
    · first | exact h.tal0 | exact (by decide : (0 : Nat) < 16)
    · first | exact h.tal1 | exact (by decide : (0 : Nat) < 16)
    · first | exact h.tal2 | exact (by decide : (0 : Nat) < 16)
    · exact h.bits
theorem GoodT.readF {f : Nat → Nat} (h : GoodT f) (r : Nat) : GoodT (readF f r) := by
  unfold Go.Proofs.YtbdhdedlemndeaaDoor.readF
  split
  · rename_i e
    exact h.tally ((idx_lt r).2.2.2 e)
  · exact h
theorem tallied_any {b p : Nat} {f : Nat → Nat} (w : World) (h : Tq w b f) (hp : p + 3 < 23) :
    Calls Tryd.prog 33 #[.pointer (some ⟨b, p, none⟩)] w fun e w' => e = .returned (.int .u8 (f (p + 3) : Nat)) ∧ Tq w' b (upd f (p + 3) 0) ∧ w.grownBy w' (some b) := by
  have c3 := h.cell (p + 3) hp
  have f3 := h.free (p + 3)
  have h1 := Lib.hid (h.put (p + 3) 0 (by decide))
  have o1 := Lib.hid (only_set (grown_refl w b) (p + 3) (.int .u8 ((0 : Nat) : Int)))
  clear h
  generalize f (p + 3) = A at *
  go_enter Tryd.func33, Tryd.ntmps33
  go_wp2_with fail
  go_ret
  exact ⟨rfl, h1.out, o1.out⟩
theorem kread_any {b : Nat} {f : Nat → Nat} (r : Nat) (w : World) (h : Ts w b f) :
    Calls Tryd.prog 13 #[.pointer (some ⟨b, 0, none⟩), .int .u8 (r : Nat)] w fun e w' => e = .returned (.int .u8 (readV f r : Nat)) ∧ Ts w' b (readF f r) ∧ w.grownBy w' (some b) := by
  have HT := Lib.hid fun W => tell_any r W
  have hgr := Lib.hid (h.good.readF r)
  have hk := kind_lt r
  obtain ⟨i2, i3, i4, i5⟩ := idx_lt r
  have hd : readV f r = if kindF r = 2 then f (13 + idxF r) else if kindF r = 3 then f (21 + idxF r) else if kindF r = 5 then f (1 + idxF r * 4 + 3) else 0 := rfl
  have hd2 : readF f r = if kindF r = 5 then upd f (1 + idxF r * 4 + 3) 0 else f := rfl
  generalize readV f r = V at *
  generalize readF f r = F at *
  generalize idxF r = k at *
  generalize kindF r = K at *
  have hh := Lib.hid h
  rcases (show K = 0 ∨ K = 1 ∨ K = 2 ∨ K = 3 ∨ K = 4 ∨ K = 5 by omega) with rfl | rfl | rfl | rfl | rfl | rfl
  · obtain rfl : V = 0 := hd
    obtain rfl : f = F := hd2.symm
    clear h i2 i3 i4 i5
    go_enter Tryd.func13, Tryd.ntmps13
    go_wp2_with fail
    refine (HT.out _).mono ?_
    rintro e w' ⟨rfl, rfl⟩
    go_wp2_with fail
    go_ret
    exact ⟨rfl, hh.out, grown_refl _ _⟩
  · obtain rfl : V = 0 := hd
    obtain rfl : f = F := hd2.symm
    clear h i2 i3 i4 i5
    go_enter Tryd.func13, Tryd.ntmps13
    go_wp2_with fail
    refine (HT.out _).mono ?_
    rintro e w' ⟨rfl, rfl⟩
    go_wp2_with fail
    go_ret
    exact ⟨rfl, hh.out, grown_refl _ _⟩
  · obtain rfl : V = f (13 + k) := hd
    obtain rfl : f = F := hd2.symm
    have hk4 := i2 rfl
    have c := h.tq.cell (13 + k) (by omega)
    clear h i2 i3 i4 i5
    generalize f (13 + k) = A at *
    go_enter Tryd.func13, Tryd.ntmps13
    go_wp2_with fail
    refine (HT.out _).mono ?_
    rintro e w' ⟨rfl, rfl⟩
    go_wp2_with fail
    go_ret
    exact ⟨rfl, hh.out, grown_refl _ _⟩
  · obtain rfl : V = f (21 + k) := hd
    obtain rfl : f = F := hd2.symm
    have hk4 := i3 rfl
    have c := h.tq.cell (21 + k) (by omega)
    clear h i2 i3 i4 i5
    generalize f (21 + k) = A at *
    go_enter Tryd.func13, Tryd.ntmps13
    go_wp2_with fail
    refine (HT.out _).mono ?_
    rintro e w' ⟨rfl, rfl⟩
    go_wp2_with fail
    go_ret
    exact ⟨rfl, hh.out, grown_refl _ _⟩
  · obtain rfl : V = 0 := hd
    obtain rfl : f = F := hd2.symm
    clear h i2 i3 i4 i5
    go_enter Tryd.func13, Tryd.ntmps13
    go_wp2_with fail
    refine (HT.out _).mono ?_
    rintro e w' ⟨rfl, rfl⟩
    go_wp2_with fail
    go_ret
    exact ⟨rfl, hh.out, grown_refl _ _⟩
  · obtain rfl : V = f (1 + k * 4 + 3) := hd
    obtain rfl : F = upd f (1 + k * 4 + 3) 0 := hd2
    have hk4 := i5 rfl
    have HA := Lib.hid fun W (hW : Tq W b f) => tallied_any (p := 1 + k * 4) W hW (by omega)
    clear h i2 i3 i4 i5
    generalize f (1 + k * 4 + 3) = A at *
    go_enter Tryd.func13, Tryd.ntmps13
    go_wp2_with fail
    refine (HT.out _).mono ?_
    rintro e w' ⟨rfl, rfl⟩
    go_wp2_with fail
    refine (HA.out _ hh.out.tq).mono ?_
    rintro e W2 ⟨rfl, hT2, hg2⟩
    have hP2 := Lib.hid (hh.out.pd.only hg2 hh.out.ne)
    replace hT2 := Lib.hid hT2
    replace hg2 := Lib.hid hg2
    clear HA
    go_wp2_with fail
    go_ret
    exact ⟨rfl, ⟨hT2.out, hP2.out, hh.out.ne, hgr.out⟩, hg2.out⟩
end Go.Proofs.YtbdhdedlemndeaaDoor
