/-
  The document's Write (genkwrt.py writes this text).
-/
import Derived.Test.YtbdhdedlemndeaaDoorKInv
import Derived.Test.YtbdhdedlemndeaaDoorKWrite
namespace Go.Proofs.YtbdhdedlemndeaaDoor
open Go.RowKit Go.Shelf
set_option maxRecDepth 1000000
set_option maxHeartbeats 4000000
set_option linter.unusedVariables false
set_option linter.unusedSimpArgs false

/-- The document's cells with bits of their own. -/
def docG (b0 b1 b2 m : Bool) (f : Nat → Nat) : Array Value := #[.bool b0, .bool b1, .bool b2, .bool m, .int .i64 (f 1 : Nat), .int .i64 (f 5 : Nat), .int .i64 (f 9 : Nat), .int .i64 (f 2 : Nat), .int .i64 (f 6 : Nat), .int .i64 (f 10 : Nat), .int .i64 (f 3 : Nat), .int .i64 (f 7 : Nat), .int .i64 (f 11 : Nat), .int .i64 (f 4 : Nat), .int .i64 (f 8 : Nat), .int .i64 (f 12 : Nat), .int .u8 (f 13 : Nat), .int .u8 (f 14 : Nat), .int .u8 (f 15 : Nat), .int .u8 (f 16 : Nat), .int .u8 (f 17 : Nat), .int .u8 (f 18 : Nat), .int .u8 (f 19 : Nat), .int .u8 (f 20 : Nat), .int .u8 (f 21 : Nat), .int .u8 (f 22 : Nat)]
def tbit (v k : Nat) : Bool := v / 2 ^ k % 2 == 1
def docS (f : Nat → Nat) (v : Nat) : Nat → Array Value
  | 0 => docC f
  | 1 => docG (tbit v 0) (onF f 1) (onF f 2) (decide (128 ≤ f 0)) (stB1 f v)
  | 2 => docG (tbit v 0) (tbit v 1) (onF f 2) (decide (128 ≤ f 0)) (stB2 f v)
  | _ => docG (tbit v 0) (tbit v 1) (tbit v 2) (decide (128 ≤ f 0)) (stB3 f v)
theorem stB_at0 (f : Nat → Nat) (v : Nat) : stB1 f v 0 = f 0 ∧ stB2 f v 0 = f 0 ∧ stB3 f v 0 = f 0 := by
  have h1 : stB1 f v 0 = f 0 := by unfold stB1; split <;> rfl
  have h2 : stB2 f v 0 = f 0 := by unfold stB2; split <;> exact h1
  exact ⟨h1, h2, by unfold stB3; split <;> exact h2⟩
theorem docS_keep0 {f : Nat → Nat} {v : Nat} {t : Bool} (ht : tbit v 0 = t) (h : turnB f v 0 = false) : (docS f v 0).setIfInBounds 0 (.bool t) = docS f v 1 := by
  subst ht
  have e : stB1 f v = f := by unfold stB1; rw [h]; rfl
  have e2 : docS f v 1 = docG (tbit v 0) (onF f 1) (onF f 2) (decide (128 ≤ f 0)) (f) := by show docG _ _ _ _ (stB1 f v) = _; rw [e]
  exact Eq.trans (by kernel_rfl) e2.symm
theorem docS_turn0 {f : Nat → Nat} {v : Nat} {t : Bool} (ht : tbit v 0 = t) (h : turnB f v 0 = true) : (((docS f v 0).setIfInBounds 10 (.int .i64 0)).setIfInBounds 13 (.int .i64 0)).setIfInBounds 0 (.bool t) = docS f v 1 := by
  subst ht
  have e : stB1 f v = upd (upd (f) 3 0) 4 0 := by unfold stB1; rw [h]; rfl
  have e2 : docS f v 1 = docG (tbit v 0) (onF f 1) (onF f 2) (decide (128 ≤ f 0)) (upd (upd (f) 3 0) 4 0) := by show docG _ _ _ _ (stB1 f v) = _; rw [e]
  exact Eq.trans (by kernel_rfl) e2.symm
theorem docS_keep1 {f : Nat → Nat} {v : Nat} {t : Bool} (ht : tbit v 1 = t) (h : turnB f v 1 = false) : (docS f v 1).setIfInBounds 1 (.bool t) = docS f v 2 := by
  subst ht
  have e : stB2 f v = stB1 f v := by unfold stB2; rw [h]; rfl
  have e2 : docS f v 2 = docG (tbit v 0) (tbit v 1) (onF f 2) (decide (128 ≤ f 0)) (stB1 f v) := by show docG _ _ _ _ (stB2 f v) = _; rw [e]
  exact Eq.trans (by kernel_rfl) e2.symm
theorem docS_turn1 {f : Nat → Nat} {v : Nat} {t : Bool} (ht : tbit v 1 = t) (h : turnB f v 1 = true) : (((docS f v 1).setIfInBounds 11 (.int .i64 0)).setIfInBounds 14 (.int .i64 0)).setIfInBounds 1 (.bool t) = docS f v 2 := by
  subst ht
  have e : stB2 f v = upd (upd (stB1 f v) 7 0) 8 0 := by unfold stB2; rw [h]; rfl
  have e2 : docS f v 2 = docG (tbit v 0) (tbit v 1) (onF f 2) (decide (128 ≤ f 0)) (upd (upd (stB1 f v) 7 0) 8 0) := by show docG _ _ _ _ (stB2 f v) = _; rw [e]
  exact Eq.trans (by kernel_rfl) e2.symm
theorem docS_keep2 {f : Nat → Nat} {v : Nat} {t : Bool} (ht : tbit v 2 = t) (h : turnB f v 2 = false) : (docS f v 2).setIfInBounds 2 (.bool t) = docS f v 3 := by
  subst ht
  have e : stB3 f v = stB2 f v := by unfold stB3; rw [h]; rfl
  have e2 : docS f v 3 = docG (tbit v 0) (tbit v 1) (tbit v 2) (decide (128 ≤ f 0)) (stB2 f v) := by show docG _ _ _ _ (stB3 f v) = _; rw [e]
  exact Eq.trans (by kernel_rfl) e2.symm
theorem docS_turn2 {f : Nat → Nat} {v : Nat} {t : Bool} (ht : tbit v 2 = t) (h : turnB f v 2 = true) : (((docS f v 2).setIfInBounds 12 (.int .i64 0)).setIfInBounds 15 (.int .i64 0)).setIfInBounds 2 (.bool t) = docS f v 3 := by
  subst ht
  have e : stB3 f v = upd (upd (stB2 f v) 11 0) 12 0 := by unfold stB3; rw [h]; rfl
  have e2 : docS f v 3 = docG (tbit v 0) (tbit v 1) (tbit v 2) (decide (128 ≤ f 0)) (upd (upd (stB2 f v) 11 0) 12 0) := by show docG _ _ _ _ (stB3 f v) = _; rw [e]
  exact Eq.trans (by kernel_rfl) e2.symm
theorem lowG {b0 b1 b2 m : Bool} {g : Nat → Nat} : ((docG b0 b1 b2 m g).setIfInBounds 16 (.int .u8 0)).setIfInBounds 17 (.int .u8 0) = docG b0 b1 b2 m (upd (upd g 13 0) 14 0) := by kernel_rfl
theorem highG {b0 b1 b2 m : Bool} {g : Nat → Nat} : ((docG b0 b1 b2 m g).setIfInBounds 18 (.int .u8 0)).setIfInBounds 19 (.int .u8 0) = docG b0 b1 b2 m (upd (upd g 15 0) 16 0) := by kernel_rfl
theorem endG {f : Nat → Nat} {v : Nat} (hv : v < 256) {m : Bool} {g : Nat → Nat} (t : Bool) (ht : t = decide (128 ≤ v)) (hg : g = highF (lowF (stB f v 3) v) v) : (docG (tbit v 0) (tbit v 1) (tbit v 2) m g).setIfInBounds 3 (.bool t) = docC (steerF f v) := by
  subst ht hg
  have a0 : onF (steerF f v) 0 = tbit v 0 := by unfold onF tbit; rw [show steerF f v 0 = v % 8 + v / 128 * 128 from rfl]; congr 1; omega
  have a1 : onF (steerF f v) 1 = tbit v 1 := by unfold onF tbit; rw [show steerF f v 0 = v % 8 + v / 128 * 128 from rfl]; congr 1; omega
  have a2 : onF (steerF f v) 2 = tbit v 2 := by unfold onF tbit; rw [show steerF f v 0 = v % 8 + v / 128 * 128 from rfl]; congr 1; omega
  have a3 : decide (128 ≤ steerF f v 0) = decide (128 ≤ v) := by rw [show steerF f v 0 = v % 8 + v / 128 * 128 from rfl]; exact decide_eq_decide.2 (by omega)
  have e : docC (steerF f v) = docG (onF (steerF f v) 0) (onF (steerF f v) 1) (onF (steerF f v) 2) (decide (128 ≤ steerF f v 0)) (highF (lowF (stB f v 3) v) v) := by kernel_rfl
  rw [a0, a1, a2, a3] at e
  exact Eq.trans (by kernel_rfl) e.symm
structure StG (w : World) (T : Nat) (cs : Array Value) (V : World) : Prop where
  t : Whole V T 30 cs
  z : Whole V (T + 1) 30 docZ
  bel : Below T w V
theorem StG.put {w V : World} {T : Nat} {cs : Array Value} (h : StG w T cs V) (i : Nat) (v : Value) : StG w T (cs.setIfInBounds i v) (V.setCell ⟨T, i, none⟩ v) :=
  ⟨h.t.put i v, h.z.away (p := ⟨T, i, none⟩) (by show T + 1 ≠ T; omega) v, h.bel.setCell (p := ⟨T, i, none⟩) (Nat.le_refl _) v⟩
theorem StG.as {w V : World} {T : Nat} {cs ds : Array Value} (h : StG w T cs V) (e : cs = ds) : StG w T ds V := e ▸ h
theorem stg_start (w : World) (f : Nat → Nat) : StG w w.heap.size (docC f) ((w.alloc (.cells (docC f) 30)).alloc (.cells docZ 30)) := by
  have hS := (Whole.fresh w 30 (docC f)).alloc (.cells docZ 30)
  have hZ := Whole.fresh (w.alloc (.cells (docC f) 30)) 30 docZ
  rw [alloc_size] at hZ
  exact ⟨hS, hZ, ((Below.refl w.heap.size w).alloc (Nat.le_refl _) (.cells (docC f) 30)).alloc (by rw [alloc_size]; exact Nat.le_succ _) (.cells docZ 30)⟩
/-- What stands when the state is handed back. -/
theorem StG.back {w V : World} {T : Nat} {F : Nat → Nat} (h : StG w T (docC F) V) : (Instr.loadAt 30 (.pointer (some ⟨T, 0, none⟩))).run Tryd.prog V = .ok (.agg (docC F)) V ∧ (Instr.storeAt 30 (.pointer (some ⟨T + 1, 0, none⟩)) (.agg (docC F))).run Tryd.prog V = .ok () (V.setRow (T + 1) (docC F)) ∧ Whole (V.setRow (T + 1) (docC F)) (T + 1) 30 (docC F) ∧ Below T w (V.setRow (T + 1) (docC F)) := by
  obtain ⟨a, b⟩ := store_doc F h.z rfl
  exact ⟨load_doc h.t, a, b, below_setRow h.bel (Nat.le_succ T)⟩
end Go.Proofs.YtbdhdedlemndeaaDoor
