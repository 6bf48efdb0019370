/-
  A Tick is made; registers are written, by the code; ports.
-/
import Derived.Test.YtbdhdedlemndeaaDoorKReg
import Derived.Lib.SliceRun
namespace Go.Proofs.YtbdhdedlemndeaaDoor
open Go.RowKit Go.Shelf
set_option maxRecDepth 100000
set_option maxHeartbeats 1000000
set_option linter.unusedVariables false

def newF : Nat → Nat := fun i => if i = 0 then 128 else 0
theorem newF_good : GoodT newF := ⟨fun i => by unfold newF; split <;> decide, by decide, by decide, by decide, by decide, by decide, by decide, by decide⟩
theorem knew_any (w : World) : Calls Tryd.prog 8 #[] w fun e w' => ∃ b, e = .returned (.pointer (some ⟨b, 0, none⟩)) ∧ w.heap.size ≤ b ∧ Tq w' b newF ∧ Below w.heap.size w w' := by
  have hW := Whole.fresh w 66 #[.int .u8 128, .int .u8 0, .int .u8 0, .int .u8 0, .int .u8 0, .int .u8 0, .int .u8 0, .int .u8 0, .int .u8 0, .int .u8 0, .int .u8 0, .int .u8 0, .int .u8 0, .int .u8 0, .int .u8 0, .int .u8 0, .int .u8 0, .int .u8 0, .int .u8 0, .int .u8 0, .int .u8 0, .int .u8 0, .int .u8 0]
  have hB := (Below.refl w.heap.size w).alloc (Nat.le_refl _) (.cells #[.int .u8 128, .int .u8 0, .int .u8 0, .int .u8 0, .int .u8 0, .int .u8 0, .int .u8 0, .int .u8 0, .int .u8 0, .int .u8 0, .int .u8 0, .int .u8 0, .int .u8 0, .int .u8 0, .int .u8 0, .int .u8 0, .int .u8 0, .int .u8 0, .int .u8 0, .int .u8 0, .int .u8 0, .int .u8 0, .int .u8 0] 66)
  have hT : Tq _ w.heap.size newF := ⟨_, hW, rfl, fun i hi => by
    refine ⟨newF_good.byte i, ?_⟩
    rcases (show i = 0 ∨ i = 1 ∨ i = 2 ∨ i = 3 ∨ i = 4 ∨ i = 5 ∨ i = 6 ∨ i = 7 ∨ i = 8 ∨ i = 9 ∨ i = 10 ∨ i = 11 ∨ i = 12 ∨ i = 13 ∨ i = 14 ∨ i = 15 ∨ i = 16 ∨ i = 17 ∨ i = 18 ∨ i = 19 ∨ i = 20 ∨ i = 21 ∨ i = 22 by omega) with rfl | rfl | rfl | rfl | rfl | rfl | rfl | rfl | rfl | rfl | rfl | rfl | rfl | rfl | rfl | rfl | rfl | rfl | rfl | rfl | rfl | rfl | rfl <;> rfl⟩
  replace hT := Lib.hid hT
  replace hB := Lib.hid hB
  clear hW
  go_enter Tryd.func8, Tryd.ntmps8
  go_wp2_with fail
  go_ret
  exact ⟨_, rfl, Nat.le_refl _, hT.out, hB.out⟩
theorem kshown : ∀ q : Nat, q < 256 → (bits .and .u8 (q : Int) 128 != 0) = decide (128 ≤ q) := by decide +kernel
theorem shown_any {b : Nat} {f : Nat → Nat} (w : World) (h : Tq w b f) : Calls Tryd.prog 18 #[.pointer (some ⟨b, 0, none⟩)] w fun e w' => e = .returned (.bool (decide (128 ≤ f 0))) ∧ w' = w := by
  have c := h.cell 0 (by decide)
  have s := kshown (f 0) (h.byte 0 (by decide))
  clear h
  generalize decide (128 ≤ f 0) = B at *
  generalize f 0 = A at *
  go_enter Tryd.func18, Tryd.ntmps18
  go_wp2_with fail
  go_ret
  exact ⟨rfl, rfl⟩
theorem in_ok {b : Nat} {f : Nat → Nat} (k v : Nat) (w : World) (h : Tq w b f) (hk : k < 4) (hv : v < 256) : Calls Tryd.prog 16 #[.pointer (some ⟨b, 0, none⟩), .int .i64 (k : Nat), .int .u8 (v : Nat)] w fun e w' => e = .returned (.int .i64 0) ∧ Tq w' b (upd f (13 + k) v) ∧ w.grownBy w' (some b) := by
  have c := h.cell (13 + k) (by omega)
  have q := h.free (13 + k)
  have h1 := Lib.hid (h.put (13 + k) v hv)
  have o1 := Lib.hid (only_set (grown_refl w b) (13 + k) (.int .u8 (v : Nat)))
  clear h
  generalize f (13 + k) = A at *
  go_enter Tryd.func16, Tryd.ntmps16
  go_wp2_with fail
  go_ret
  exact ⟨rfl, h1.out, o1.out⟩
theorem in_no {b : Nat} (k : Int) (x : Value) (w : World) (hk : k < 0 ∨ 4 ≤ k) : Calls Tryd.prog 16 #[.pointer (some ⟨b, 0, none⟩), .int .i64 k, x] w fun e w' => e = .returned (.int .i64 3) ∧ w' = w := by
  rcases hk with hk | hk
  · go_enter Tryd.func16, Tryd.ntmps16
    go_wp2_with fail
    go_ret
    exact ⟨rfl, rfl⟩
  · have hk0 : ¬ k < 0 := by omega
    go_enter Tryd.func16, Tryd.ntmps16
    go_wp2_with fail
    go_ret
    exact ⟨rfl, rfl⟩
theorem out_ok {b : Nat} {f : Nat → Nat} (k : Nat) (w : World) (h : Tq w b f) (hk : k < 4) : Calls Tryd.prog 17 #[.pointer (some ⟨b, 0, none⟩), .int .i64 (k : Nat)] w fun e w' => e = .returned (.tuple #[.int .u8 (f (17 + k) : Nat), .int .i64 0]) ∧ w' = w := by
  have c := h.cell (17 + k) (by omega)
  clear h
  generalize f (17 + k) = A at *
  go_enter Tryd.func17, Tryd.ntmps17
  go_wp2_with fail
  go_ret2
  exact ⟨rfl, rfl⟩
theorem out_no {b : Nat} (k : Int) (w : World) (hk : k < 0 ∨ 4 ≤ k) : Calls Tryd.prog 17 #[.pointer (some ⟨b, 0, none⟩), .int .i64 k] w fun e w' => e = .returned (.tuple #[.int .u8 0, .int .i64 3]) ∧ w' = w := by
  rcases hk with hk | hk
  · go_enter Tryd.func17, Tryd.ntmps17
    go_wp2_with fail
    go_ret2
    exact ⟨rfl, rfl⟩
  · have hk0 : ¬ k < 0 := by omega
    go_enter Tryd.func17, Tryd.ntmps17
    go_wp2_with fail
    go_ret2
    exact ⟨rfl, rfl⟩
theorem begin_any {b p : Nat} {f : Nat → Nat} (w : World) (h : Tq w b f) (hp : p + 3 < 23) :
    Calls Tryd.prog 51 #[.pointer (some ⟨b, p, none⟩)] w fun e w' => e = .returned (.tuple #[]) ∧ Tq w' b (upd (upd f (p + 2) 0) (p + 3) 0) ∧ w.grownBy w' (some b) := by
  have c2 := h.cell (p + 2) (by omega)
  have c3 := h.cell (p + 3) hp
  have f2 := h.free (p + 2)
  have f3 := h.free (p + 3)
  have h1 := Lib.hid ((h.put (p + 2) 0 (by decide)).put (p + 3) 0 (by decide))
  have o1 := Lib.hid (only_set (only_set (grown_refl w b) (p + 2) (.int .u8 ((0 : Nat) : Int))) (p + 3) (.int .u8 ((0 : Nat) : Int)))
  clear h
  generalize f (p + 2) = A at *
  generalize f (p + 3) = B at *
  go_enter Tryd.func51, Tryd.ntmps51
  go_wp2_with fail
  go_end0
  exact ⟨rfl, h1.out, o1.out⟩
end Go.Proofs.YtbdhdedlemndeaaDoor
