/-
  Bounds of what a course makes of bytes.
-/
import Derived.Test.YtkbieadebfpjdaaOp
namespace Go.Proofs.Ytkbieadebfpjdaa
open Go.RowKit Go.Shelf
set_option maxRecDepth 100000
set_option maxHeartbeats 1000000
set_option linter.unusedVariables false

structure Byt (s : Ws) : Prop where
  ok : s.r.Ok
  b : ∀ i, i < s.n → s.f i < 256
theorem Wk.byt {W0 w : World} {B b : Nat} {s : Ws} (h : Wk W0 B b s w) : Byt s := ⟨h.ok, let ⟨_, _, _, _, _, hR, _⟩ := h.cells; hR.1⟩
def Bnd (F : M Nat) (n : Nat) : Prop := ∀ s, Byt s → (F s).1 < n ∧ Byt (F s).2
theorem idle_b {s : Ws} (h : Byt s) : Byt (idleM s).2 := by
  unfold idleM Ws.put
  dsimp only
  split
  · exact h
  · exact ⟨h.ok, h.b⟩
theorem inc_b {s : Ws} (h : Byt s) : Byt (incM s).2 := ⟨⟨h.ok.A, h.ok.X, h.ok.Y, h.ok.S, h.ok.D, Nat.mod_lt _ (by decide), h.ok.B, h.ok.K, h.ok.P⟩, h.b⟩
theorem put_b {s : Ws} (k a : Nat) (h : Byt s) : Byt (s.put k a) := by
  unfold Ws.put
  split
  · exact h
  · exact ⟨h.ok, h.b⟩
theorem read_b (a : Nat) : Bnd (readM a) 256 := fun s h => by
  unfold readM
  have h2 := put_b 1 (a % 16777216) h
  generalize s.put 1 (a % 16777216) = s1 at *
  unfold takeM
  split
  · exact ⟨show (0 : Nat) < 256 by decide, ⟨h2.ok, h2.b⟩⟩
  · exact ⟨h2.b 0 (by omega), ⟨h2.ok, fun i hi => h2.b (i + 1) (by have hi : i < s1.n - 1 := hi; omega)⟩⟩
theorem num_b {F : Nat → M Nat} (h : ∀ k, Bnd (F k) 256) : ∀ m, Bnd (numM F m) (256 ^ m)
  | 0 => fun s hs => ⟨Nat.zero_lt_one, hs⟩
  | k + 1 => fun s hs => by
    obtain ⟨h1, h2⟩ := num_b h k s hs
    obtain ⟨h3, h4⟩ := h k _ h2
    exact ⟨step_lt h1 h3, h4⟩
theorem fetch1_b : Bnd fetch1M 256 := fun s h => by
  obtain ⟨h1, h2⟩ := read_b (s.r.K * 65536 + s.r.PC) s h
  exact ⟨h1, inc_b h2⟩
theorem fetch_b (m : Nat) : Bnd (fetchM m) (256 ^ m) := num_b (fun _ => fetch1_b) m
theorem direct_b (n m : Nat) : Bnd (directM n m) (256 ^ m) := num_b (fun i s h => read_b (directF s.r.D (n + i) s.r.E) s h) m
theorem stack1_b (n m : Nat) : Bnd (numM (stack1M n) m) (256 ^ m) := num_b (fun i => read_b ((n + i) % 65536)) m
theorem offset_b : Bnd offsetM 256 := fun s h => by
  obtain ⟨h1, h2⟩ := fetch_b 1 s h
  rw [offset_eq]
  refine ⟨h1, ?_⟩
  dsimp only
  split
  · exact h2
  · exact idle_b h2
theorem offsetBy_b {x : Nat} (hx : x < 65536) : Bnd (offsetByM x) 65792 := fun s h => by
  obtain ⟨h1, h2⟩ := offset_b s h
  exact ⟨by show (offsetM s).1 + x < 65792; omega, idle_b h2⟩
theorem stack_b : Bnd stackM 65792 := fun s h => by
  obtain ⟨h1, h2⟩ := fetch_b 1 s h
  have h3 := idle_b h2
  refine ⟨?_, h3⟩
  show (idleM (fetchM 1 s).2).2.r.S + (fetchM 1 s).1 < 65792
  have := h3.ok.S
  have h1 : (fetchM 1 s).1 < 256 := h1
  omega
theorem data_b (n : Nat) : Bnd (dataM n) 16777216 := fun s h => ⟨by show s.r.B * 65536 + n % 65536 < 16777216; have := h.ok.B; omega, h⟩
theorem indexed_b {a x : Nat} (u : Nat) (ha : a < 16777216) (hx : x < 65536) : Bnd (indexedM a x u) 16842752 := fun s h => by
  rw [indexed_eq]
  refine ⟨by show a + x < 16842752; omega, ?_⟩
  dsimp only
  split
  · exact idle_b h
  · exact h
theorem u32_sum {a x z : Nat} (h : a + x = z) (ha : a < 16777216) (hx : x < 65536) : IntKind.u32.wrap (x : Int) = (x : Int) ∧ (a : Int) + (x : Int) = (z : Int) ∧ (z : Int) % 4294967296 = (z : Int) ∧ IntKind.u32.wrap (z : Int) = (z : Int) ∧ z < 4294967296 := by
  simp only [IntKind.wrap_u32]
  omega
/-- The world in which an operand's walk begins. -/
theorem at_start {W0 w : World} {B b : Nat} {s : Ws} (h : Wk W0 B b s w) : At W0 B b (w.heap.size + 1) w.heap.size s.r.X s.r.Y w s (w.alloc (.cells #[.int .u32 0, .bool false] 27)) := by
  have hY := Whole.fresh w 27 #[.int .u32 0, .bool false]
  have := h.lt
  have := h.bel.size
  have := h.base
  exact ⟨h.alloc _, hY, (Keeps.refl b w).alloc _, rfl, rfl, by omega, by omega, by omega⟩
end Go.Proofs.Ytkbieadebfpjdaa
