/-
  A processor in memory.
-/
import Derived.Test.YtnacdaodjgdnnaaGreatXPlA
namespace Go.Proofs.YtnacdaodjgdnnaaGreat
open Go.RowKit Go.Shelf
set_option maxRecDepth 100000
set_option maxHeartbeats 1000000
set_option linter.unusedVariables false

/-- A processor: registers, where it stands, why, what is to come, how many accesses and bytes, the bytes, and the turn that is under way (accesses, done, registers, after). -/
structure Ms where
  r : Rg
  md : Nat
  why : Nat
  rs : Bool
  nm : Bool
  iq : Bool
  at_ : Nat
  sf : Nat → Nat
  ct : Nat
  tl : List (Nat × Nat × Nat)
  td : Bool
  tr : Rg
  ta : Nat
def msC (s : Ms) (a : Option Addr) (c : Nat) : Array Value :=
  #[.int .u16 s.r.A, .int .u16 s.r.X, .int .u16 s.r.Y, .int .u16 s.r.S, .int .u16 s.r.D, .int .u16 s.r.PC, .int .u8 s.r.B, .int .u8 s.r.K, .int .u8 s.r.P, .bool s.r.E, .int .u8 s.md, .int .u8 s.why, .bool s.rs, .bool s.nm, .bool s.iq, .int .i64 s.at_,
    .int .u8 (s.sf 0), .int .u8 (s.sf 1), .int .u8 (s.sf 2), .int .u8 (s.sf 3), .int .u8 (s.sf 4), .int .u8 (s.sf 5), .int .u8 (s.sf 6), .int .u8 (s.sf 7), .int .u8 (s.sf 8), .int .u8 (s.sf 9), .int .u8 (s.sf 10), .int .u8 (s.sf 11), .int .u8 (s.sf 12), .int .u8 (s.sf 13), .int .u8 (s.sf 14), .int .u8 (s.sf 15), .int .i64 s.ct,
    .slice a s.tl.length c, .bool s.td, .int .u16 s.tr.A, .int .u16 s.tr.X, .int .u16 s.tr.Y, .int .u16 s.tr.S, .int .u16 s.tr.D, .int .u16 s.tr.PC, .int .u8 s.tr.B, .int .u8 s.tr.K, .int .u8 s.tr.P, .bool s.tr.E, .int .u8 s.ta]
/-- A processor in block b. -/
structure Mk (b : Nat) (s : Ms) (w : World) : Prop where
  ok : s.r.Ok
  cells : ∃ a c, Whole w b 129 (msC s a c) ∧ AX w a s.tl ∧ s.tl.length ≤ c ∧ (∀ p, a = some p → p.block ≠ b)
  bytes : ∀ i, s.sf i < 256
  ct : s.ct ≤ 16
theorem Mk.lt {b : Nat} {s : Ms} {w : World} (h : Mk b s w) : b < w.heap.size := let ⟨_, _, h, _⟩ := h.cells; h.lt
theorem Mk.below {b : Nat} {s : Ms} {w w' : World} (h : Mk b s w) (hb : Below w.heap.size w w') : Mk b s w' := by
  obtain ⟨a, c, h1, h2, h3, h4⟩ := h.cells
  exact ⟨h.ok, ⟨a, c, h1.below hb h1.lt, h2.below hb, h3, h4⟩, h.bytes, h.ct⟩
/-- A new one. -/
def ms0 : Ms := ⟨⟨0, 0, 0, 256, 0, 0, 0, 0, 48, true⟩, 0, 0, true, false, false, 0, fun _ => 0, 0, [], false, rg0, 0⟩
theorem micro_new (w : World) : Calls Tryz.prog 32 #[] w fun e w' => ∃ b, e = .returned (.pointer (some ⟨b, 0, none⟩)) ∧ Mk b ms0 w' ∧ w.heap.size ≤ b ∧ Below w.heap.size w w' := by
  have hW := Whole.fresh w 129 (msC ms0 none 0)
  have hB := (Below.refl w.heap.size w).alloc (Nat.le_refl _) (.cells (msC ms0 none 0) 129)
  have hM : Mk w.heap.size ms0 (w.alloc (.cells (msC ms0 none 0) 129)) := ⟨⟨by decide, by decide, by decide, by decide, by decide, by decide, by decide, by decide, by decide⟩, ⟨none, 0, hW, .inl rfl, Nat.le_refl _, fun p hp => by cases hp⟩, fun i => by show (0 : Nat) < 256; decide, by decide⟩
  have hfin := Lib.hid (And.intro hM hB)
  unfold msC ms0 rg0 at hfin
  clear hW hB hM
  go_enter Tryz.func32, Tryz.ntmps32
  go_wp2_with fail
  go_ret
  exact ⟨_, rfl, hfin.out.1, Nat.le_refl _, hfin.out.2⟩
end Go.Proofs.YtnacdaodjgdnnaaGreat
