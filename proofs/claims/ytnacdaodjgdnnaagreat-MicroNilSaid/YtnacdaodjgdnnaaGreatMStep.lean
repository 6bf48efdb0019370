/-
  A processor begins a reset, and carries out its first access; where it stands.
-/
import Derived.Test.YtnacdaodjgdnnaaGreatMKnow2
namespace Go.Proofs.YtnacdaodjgdnnaaGreat
open Go.RowKit Go.Shelf
set_option maxRecDepth 100000
set_option maxHeartbeats 1000000
set_option linter.unusedVariables false

theorem grownBy_trans {a w w' : World} {b : Nat} (h : a.grownBy w (some b)) (k : w.grownBy w' (some b)) : a.grownBy w' (some b) :=
  ⟨k.os.trans h.os, k.tape.trans h.tape, k.output.trans h.output, Nat.le_trans h.size k.size, fun x hx hne => (k.block x (Nat.lt_of_lt_of_le hx h.size) hne).trans (h.block x hx hne)⟩
/-- Cells beside the registers. -/
theorem Mk.mid {b : Nat} {s : Ms} {W : World} (h : Mk b s W) : (W.cell? ⟨b, 10, none⟩ = some (.int .u8 (s.md : Nat)) ∧ W.cell? ⟨b, 11, none⟩ = some (.int .u8 (s.why : Nat)) ∧ W.cell? ⟨b, 12, none⟩ = some (.bool s.rs) ∧ W.cell? ⟨b, 13, none⟩ = some (.bool s.nm) ∧ W.cell? ⟨b, 14, none⟩ = some (.bool s.iq) ∧ W.cell? ⟨b, 15, none⟩ = some (.int .i64 (s.at_ : Nat)) ∧ W.cell? ⟨b, 32, none⟩ = some (.int .i64 (s.ct : Nat)) ∧ W.cell? ⟨b, 34, none⟩ = some (.bool s.td)) ∧ ∀ i, W.frozen? ⟨b, i, none⟩ = false := by
  obtain ⟨a, c, h1, _⟩ := h.cells
  rw [h1.cell, h1.cell, h1.cell, h1.cell, h1.cell, h1.cell, h1.cell, h1.cell]
  exact ⟨⟨rfl, rfl, rfl, rfl, rfl, rfl, rfl, rfl⟩, fun i => h1.free i⟩
theorem Mk.list {b : Nat} {s : Ms} {W : World} (h : Mk b s W) : ∃ a c, W.cell? ⟨b, 33, none⟩ = some (.slice a s.tl.length c) ∧ AX W a s.tl ∧ s.tl.length ≤ c := by
  obtain ⟨a, c, h1, h2, h3, _⟩ := h.cells
  exact ⟨a, c, by rw [h1.cell]; rfl, h2, h3⟩
/-- One cell turned. -/
theorem Mk.wr {b : Nat} {s s' : Ms} {w : World} (h : Mk b s w) (i : Nat) (v : Value) (hok : s'.r.Ok) (ht : s'.tl = s.tl) (hb : ∀ i, s'.sf i < 256) (hc : s'.ct ≤ 16) (he : ∀ a c, (msC s a c).setIfInBounds i v = msC s' a c) : Mk b s' (w.setCell ⟨b, i, none⟩ v) := by
  obtain ⟨a, c, h1, h2, h3, h4⟩ := h.cells
  have := h1.put i v
  rw [he] at this
  exact ⟨hok, ⟨a, c, this, by rw [ht]; exact h2.put i h4 v, by rw [ht]; exact h3, h4⟩, hb, hc⟩
theorem msC_10 (s : Ms) (a : Option Addr) (c m : Nat) : (msC s a c).setIfInBounds 10 (.int .u8 (m : Nat)) = msC { s with md := m } a c := rfl
theorem msC_11 (s : Ms) (a : Option Addr) (c m : Nat) : (msC s a c).setIfInBounds 11 (.int .u8 (m : Nat)) = msC { s with why := m } a c := rfl
theorem msC_12 (s : Ms) (a : Option Addr) (c : Nat) (m : Bool) : (msC s a c).setIfInBounds 12 (.bool m) = msC { s with rs := m } a c := rfl
theorem msC_15 (s : Ms) (a : Option Addr) (c m : Nat) : (msC s a c).setIfInBounds 15 (.int .i64 (m : Nat)) = msC { s with at_ := m } a c := rfl
theorem due_reset {b : Nat} {s : Ms} {w : World} (h : Mk b s w) (hr : s.rs = true) : Calls Tryz.prog 89 #[.pointer (some ⟨b, 0, none⟩)] w fun e w' => e = .returned (.tuple #[.int .u8 2, .int .u8 0]) ∧ w = w' := by
  obtain ⟨⟨_, _, c12, _⟩, _⟩ := h.mid
  rw [hr] at c12
  clear h hr
  go_enter Tryz.func89, Tryz.ntmps89
  go_wp2_with fail
  go_ret2
  exact ⟨rfl, rfl⟩
theorem begin_reset {b : Nat} {s : Ms} {w : World} (h : Mk b s w) (hr : s.rs = true) (x : Xs) (hx : (enterTopX 0 ⟨s.r.settle, s.ct, s.sf, [], false, cd0, 0⟩).2 = x) :
    Calls Tryz.prog 91 #[.pointer (some ⟨b, 0, none⟩)] w fun e w' => e = .returned (.tuple #[]) ∧ Mk b { s with md := 2, why := 0, rs := false, tl := x.l, td := !x.st, tr := x.tr, ta := x.ta } w' ∧ w.grownBy w' (some b) := by
  have HD := due_reset h hr
  obtain ⟨⟨c10, c11, c12, _⟩, hf⟩ := h.mid
  rw [hr] at c12
  have f10 := hf 10
  have f11 := hf 11
  have f12 := hf 12
  have h1 := h.wr (s' := { s with md := 2 }) 10 (.int .u8 ((2 : Nat) : Nat)) h.ok rfl h.bytes h.ct (fun a c => msC_10 s a c 2)
  have h2 := h1.wr (s' := { s with md := 2, why := 0 }) 11 (.int .u8 ((0 : Nat) : Nat)) h.ok rfl h.bytes h.ct (fun a c => msC_11 _ a c 0)
  have h3 := h2.wr (s' := { s with md := 2, why := 0, rs := false }) 12 (.bool false) h.ok rfl h.bytes h.ct (fun a c => msC_12 _ a c false)
  have hg := only_set (only_set (only_set (Below.only (Below.refl w.heap.size w) b) 10 (.int .u8 ((2 : Nat) : Nat))) 11 (.int .u8 ((0 : Nat) : Nat))) 12 (.bool false)
  have HK := know_enter h3 rfl (by show (0 : Nat) < 256; decide) x hx
  simp only [show ((2 : Nat) : Int) = 2 from rfl, show ((0 : Nat) : Int) = 0 from rfl] at HK hg
  replace HD := Lib.hid HD
  replace HK := Lib.hid HK
  replace hg := Lib.hid hg
  clear h h1 h2 h3 hf hx hr
  go_enter Tryz.func91, Tryz.ntmps91
  go_wp2_with fail
  refine HD.out.mono ?_
  rintro e W ⟨rfl, rfl⟩
  go_wp2_with fail
  refine HK.out.mono ?_
  rintro e W2 ⟨rfl, hm, hg2⟩
  have hg3 := Lib.hid (grownBy_trans hg.out hg2)
  replace hm := Lib.hid hm
  clear HD HK hg hg2
  go_wp2_with fail
  go_end0
  exact ⟨rfl, hm.out, hg3.out⟩
end Go.Proofs.YtnacdaodjgdnnaaGreat
