/-
  A runner's operands, kept; what is read by an operand and written by it.
-/
import Derived.Test.YthecghmhohkcmaaGreatDoorTOf
namespace Go.Proofs.YthecghmhohkcmaaGreatDoor
open Go.RowKit Go.Shelf
set_option maxRecDepth 100000
set_option maxHeartbeats 1000000
set_option linter.unusedVariables false

/-- A value of the registers. -/
def M.ask {α : Type} (f : Rp → α) : M α := fun r => .ret (f r, r)
theorem Ran.ask {α : Type} (f : Rp → α) (s : Ts) : Ran (M.ask f) s (f s.r) s := rfl
/-- The code and its operands as a runner holds them. -/
structure Zd (K : Cx) (z : Zs) (w : World) (c : Nat) (nm fm : ByteArray) (cd nd co no : Nat) : Prop where
  n0 : z.n0 = .int .u8 (c : Nat)
  n1 : z.n1 = .string nm
  n2 : z.n2 = .string fm
  d0 : z.d0 = .int .u8 (cd : Nat)
  d1 : z.d1 = .int .u16 (nd : Nat)
  d2 : OpAt K w cd nd z.d2 z.d3
  o0 : z.o0 = .int .u8 (co : Nat)
  o1 : z.o1 = .int .u16 (no : Nat)
  o2 : OpAt K w co no z.o2 z.o3
  nd : nd < 65536
  no : no < 65536
  c : c < 256
def readable (c : Nat) : Prop := c ∈ regL ∨ c = 35 ∨ c ∈ memL
def writable (c : Nat) : Prop := c ∈ regL ∨ c ∈ memL
section
variable {K : Cx} {z : Zs} {s : Ts} {w w' : World} {c cd nd co no : Nat} {nm fm : ByteArray}
theorem Zd.stay (h : Zd K z w c nm fm cd nd co no) (t : Tk K z s w) (k : Kp K w w') : Zd K z w' c nm fm cd nd co no := ⟨h.n0, h.n1, h.n2, h.d0, h.d1, h.d2.stay t k, h.o0, h.o1, h.o2.stay t k, h.nd, h.no, h.c⟩
/-- A call of an operand's read. -/
def CallR (v : Value) (K : Cx) (z : Zs) (s : Ts) (w : World) (c n : Nat) : Prop :=
  ∃ kf caps, v = .func (.func kf) #[] caps ∧ (∀ (args : Array Value) (W : World), (callFunc kf args).run Tryz.prog W = .ok (.enter kf args) W) ∧ Calls Tryz.prog kf caps w (Post K z s w (readO c n) byteV (fun v => v < 256) 3)
def CallW (v : Value) (K : Cx) (z : Zs) (s : Ts) (w : World) (c n x : Nat) : Prop :=
  ∃ kf caps, v = .func (.func kf) #[] caps ∧ (∀ (args : Array Value) (W : World), (callFunc kf args).run Tryz.prog W = .ok (.enter kf args) W) ∧ Calls Tryz.prog kf (#[.int .u8 (x : Nat)] ++ caps) w (Post K z s w (writeO c n x) unitV (fun _ => True) 3)
/-- Reading the first operand, the second one; writing the first one: where the functions stand, and what calls of them come to. -/
theorem Zd.readD (h : Zd K z w c nm fm cd nd co no) (t : Tk K z s w) (hr : readable cd) (hl : s.l.length ≤ 96) : ∃ kf caps, w.cell? ⟨K.b, 16, none⟩ = some (.func (.func kf) #[] caps) ∧ (∀ (args : Array Value) (W : World), (callFunc kf args).run Tryz.prog W = .ok (.enter kf args) W) ∧ Calls Tryz.prog kf caps w (Post K z s w (readO cd nd) byteV (fun v => v < 256) 3) := by
  obtain ⟨kf, caps, h1, h2, h3⟩ := oread_any t h.d2 h.nd hr hl
  exact ⟨kf, caps, by rw [t.lookD.2.2.1, h1], h2, h3⟩
theorem Zd.readO (h : Zd K z w c nm fm cd nd co no) (t : Tk K z s w) (hr : readable co) (hl : s.l.length ≤ 96) : ∃ kf caps, w.cell? ⟨K.b, 20, none⟩ = some (.func (.func kf) #[] caps) ∧ (∀ (args : Array Value) (W : World), (callFunc kf args).run Tryz.prog W = .ok (.enter kf args) W) ∧ Calls Tryz.prog kf caps w (Post K z s w (Go.Proofs.YthecghmhohkcmaaGreatDoor.readO co no) byteV (fun v => v < 256) 3) := by
  obtain ⟨kf, caps, h1, h2, h3⟩ := oread_any t h.o2 h.no hr hl
  exact ⟨kf, caps, by rw [t.lookO.2.2.1, h1], h2, h3⟩
theorem Zd.writeD (h : Zd K z w c nm fm cd nd co no) (t : Tk K z s w) (hr : writable cd) (x : Nat) (hx : x < 256) (hl : s.l.length ≤ 96) : ∃ kf caps, w.cell? ⟨K.b, 17, none⟩ = some (.func (.func kf) #[] caps) ∧ (∀ (args : Array Value) (W : World), (callFunc kf args).run Tryz.prog W = .ok (.enter kf args) W) ∧ Calls Tryz.prog kf (#[.int .u8 (x : Nat)] ++ caps) w (Post K z s w (writeO cd nd x) unitV (fun _ => True) 3) := by
  obtain ⟨kf, caps, h1, h2, h3⟩ := owrite_any t h.d2 h.nd hx hr hl
  exact ⟨kf, caps, by rw [t.lookD.2.2.2, h1], h2, h3⟩
end
end Go.Proofs.YthecghmhohkcmaaGreatDoor
