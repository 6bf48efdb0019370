/-
  A walker reads bytes of the direct page, and of the stack's place.
-/
import Derived.Test.YtkbieadebfpjdaaWk6
namespace Go.Proofs.Ytkbieadebfpjdaa
open Go.RowKit Go.Shelf
set_option maxRecDepth 100000
set_option maxHeartbeats 1000000
set_option linter.unusedVariables false

/-- A walker, and two boxes: what points to it, and a number. -/
structure Two (W0 : World) (B b x y n : Nat) (s : Ws) (w W : World) : Prop where
  wk : Wk W0 B b s W
  bx : Whole W x 52 #[.pointer (some ⟨b, 0, none⟩)]
  bn : Whole W y 25 #[.int .u32 (n : Nat)]
  kp : Keeps b w W
theorem Two.below {W0 w W W' : World} {B b x y n : Nat} {s : Ws} (h : Two W0 B b x y n s w W) (hb : Below W.heap.size W W') : Two W0 B b x y n s w W' := ⟨h.wk.below hb, h.bx.below hb h.bx.lt, h.bn.below hb h.bn.lt, h.kp.trans (Keeps.below hb)⟩
theorem Two.drew {W0 w W : World} {B b x y n : Nat} {s : Ws} (h : Two W0 B b x y n s w W) : Two W0 B b x y n s w W.drew := h.below (Below.drew (Below.refl _ _))
theorem Two.drewN {W0 w W : World} {B b x y n : Nat} {s : Ws} (h : Two W0 B b x y n s w W) (q : Nat) : Two W0 B b x y n s w (W.drewN q) := h.below (below_drewN (Below.refl _ _) q)
/-- What a drawn statement loads. -/
def Loads (b x y n : Nat) (r : Rg) (W : World) : Prop :=
  W.cell? ⟨x, 0, none⟩ = some (.pointer (some ⟨b, 0, none⟩)) ∧ W.cell? ⟨y, 0, none⟩ = some (.int .u32 (n : Nat)) ∧ W.cell? ⟨b, 0, none⟩ = some (.int .u16 r.A) ∧ W.cell? ⟨b, 1, none⟩ = some (.int .u16 r.X) ∧ W.cell? ⟨b, 2, none⟩ = some (.int .u16 r.Y) ∧ W.cell? ⟨b, 3, none⟩ = some (.int .u16 r.S) ∧
  W.cell? ⟨b, 4, none⟩ = some (.int .u16 r.D) ∧ W.cell? ⟨b, 5, none⟩ = some (.int .u16 r.PC) ∧ W.cell? ⟨b, 6, none⟩ = some (.int .u8 r.B) ∧ W.cell? ⟨b, 7, none⟩ = some (.int .u8 r.K) ∧ W.cell? ⟨b, 8, none⟩ = some (.int .u8 r.P) ∧ W.cell? ⟨b, 9, none⟩ = some (.bool r.E)
theorem Two.loads {W0 w W : World} {B b x y n : Nat} {s : Ws} (h : Two W0 B b x y n s w W) : Loads b x y n s.r W := by
  obtain ⟨a, c, lv, h1, _⟩ := h.wk.cells
  unfold Loads
  rw [h.bx.cell, h.bn.cell, h1.cell, h1.cell, h1.cell, h1.cell, h1.cell, h1.cell, h1.cell, h1.cell, h1.cell, h1.cell]
  exact ⟨rfl, rfl, rfl, rfl, rfl, rfl, rfl, rfl, rfl, rfl, rfl, rfl⟩
theorem box_ne {W0 w : World} {B b x : Nat} {s : Ws} (q : Whole w x 52 #[.pointer (some ⟨b, 0, none⟩)]) (h : Wk W0 B b s w) : x ≠ b := fun e => by
  subst e
  obtain ⟨a, c, lv, hc, _⟩ := h.cells
  have := (show w.heap[x]? = _ from q).symm.trans hc
  injection this with this
  injection this with h1 h2
  cases h2
theorem num_ne {W0 w : World} {B b y n : Nat} {s : Ws} (q : Whole w y 25 #[.int .u32 (n : Nat)]) (h : Wk W0 B b s w) : y ≠ b := fun e => by
  subst e
  obtain ⟨a, c, lv, hc, _⟩ := h.cells
  have := (show w.heap[y]? = _ from q).symm.trans hc
  injection this with this
  injection this with h1 h2
  cases h2
theorem direct1_any {W0 w : World} {B b x y n i : Nat} {s : Ws} (h : Wk W0 B b s w) (q : Whole w x 52 #[.pointer (some ⟨b, 0, none⟩)]) (q2 : Whole w y 25 #[.int .u32 (n : Nat)]) (hl : s.l.length ≤ 100) (hn : n < 100000) (hi : i < 3) :
    Calls Try.prog 31 #[.int .u32 (i : Nat), .pointer (some ⟨x, 0, none⟩), .pointer (some ⟨y, 0, none⟩)] w fun e w' => e = .returned (.int .u8 ((direct1M n i s).1 : Nat)) ∧ Wk W0 B b (direct1M n i s).2 w' ∧ Keeps b w w' ∧ (direct1M n i s).1 < 256 := by
  have hT : Two W0 B b x y n s w w := ⟨h, q, q2, Keeps.refl _ _⟩
  obtain ⟨c0, c1, c2, c3, c4, c5, c6, c7, c8, c9, c10, c11⟩ := hT.drew.loads
  have hDl := directF_lt (n := n + i) (E := s.r.E) h.ok.D
  have HD := Lib.hid (fun W (hW : Two W0 B b x y n s w W) => (direct_any s.r (n + i) W h.ok (by omega)).mono (fun e w' ⟨he, hb⟩ => show e = Ending.returned (.int .u32 (directF s.r.D (n + i) s.r.E : Nat)) ∧ Two W0 B b x y n s w w' from ⟨he, hW.below hb⟩))
  have HR := fun W (hW : Two W0 B b x y n s w W) => (read_any (directF s.r.D (n + i) s.r.E) hW.wk hl (by omega)).mono (fun e w' ⟨he, hb, hk, hlt⟩ => show e = Ending.returned (.int .u8 ((readM (directF s.r.D (n + i) s.r.E) s).1 : Nat)) ∧ Wk W0 B b (readM (directF s.r.D (n + i) s.r.E) s).2 w' ∧ Keeps b w w' ∧ (readM (directF s.r.D (n + i) s.r.E) s).1 < 256 ∧ Loads b x y n s.r w' from
    ⟨he, hb, hW.kp.trans hk, hlt, by
      have h2 : Two W0 B b x y n (readM (directF s.r.D (n + i) s.r.E) s).2 w w' := ⟨hb, hk _ _ _ (box_ne q h) (by decide) hW.bx, hk _ _ _ (num_ne q2 h) (by decide) hW.bn, hW.kp.trans hk⟩
      have h3 := h2.loads
      rwa [read_r] at h3⟩)
  rw [show direct1M n i s = readM (directF s.r.D (n + i) s.r.E) s from rfl]
  generalize readM (directF s.r.D (n + i) s.r.E) s = p1 at *
  obtain ⟨v, s1⟩ := p1
  dsimp only at *
  generalize directF s.r.D (n + i) s.r.E = d at *
  obtain ⟨z, hz⟩ : ∃ z, n + i = z := ⟨_, rfl⟩
  rw [hz] at HD
  have e1 : (n : Int) + (i : Int) = (z : Int) := by omega
  have e2 : (z : Int) % 4294967296 = (z : Int) := by omega
  have e3 : IntKind.u32.wrap (z : Int) = (z : Int) := by simp only [IntKind.wrap_u32]; omega
  unfold Rg.v rgC at HD
  replace HR := Lib.hid HR
  replace hT := Lib.hid hT
  clear h q q2 hl hn hi hDl hz
  go_enter Try.func31, Try.ntmps31
  go_upto_region 1 with (fail)
  go_region_held3 (fun W => W.cell? ⟨x, 0, none⟩ = some (.pointer (some ⟨b, 0, none⟩)) ∧ W.cell? ⟨y, 0, none⟩ = some (.int .u32 (n : Nat)) ∧ W.cell? ⟨b, 0, none⟩ = some (.int .u16 s.r.A) ∧ W.cell? ⟨b, 1, none⟩ = some (.int .u16 s.r.X) ∧ W.cell? ⟨b, 2, none⟩ = some (.int .u16 s.r.Y) ∧ W.cell? ⟨b, 3, none⟩ = some (.int .u16 s.r.S) ∧
      W.cell? ⟨b, 4, none⟩ = some (.int .u16 s.r.D) ∧ W.cell? ⟨b, 5, none⟩ = some (.int .u16 s.r.PC) ∧ W.cell? ⟨b, 6, none⟩ = some (.int .u8 s.r.B) ∧ W.cell? ⟨b, 7, none⟩ = some (.int .u8 s.r.K) ∧ W.cell? ⟨b, 8, none⟩ = some (.int .u8 s.r.P) ∧ W.cell? ⟨b, 9, none⟩ = some (.bool s.r.E))
    (first | exact hT.out.loads | exact hT.out.drew.loads | exact hT3.loads | exact hS4 | go_keep)
    (first
      | (go_at_call 7; (with_reducible refine (HD.out _ ?_).mono ?_); (repeat' (first | (with_reducible exact hT.out) | (with_reducible refine Two.drew ?_) | (with_reducible refine Two.drewN ?_ _))); rintro e W3 ⟨rfl, hT3⟩)
      | (go_at_call 32; (with_reducible refine (HR.out _ ?_).mono ?_); (repeat' (first | (with_reducible exact hT3) | (with_reducible refine Two.drew ?_) | (with_reducible refine Two.drewN ?_ _))); rintro e W4 ⟨rfl, hw4, hk4, hlt4, hS4⟩))
  all_goals
    clear HD HR c0 c1 c2 c3 c4 c5 c6 c7 c8 c9 c10 c11
    go_wp2_with fail
    go_ret
    exact ⟨rfl, hw4, hk4, hlt4⟩
end Go.Proofs.Ytkbieadebfpjdaa
