/-
  A player that is played in parts: its rounds.
-/
import Derived.Test.YtknlbmjncginnaaGreatDoorPAp
namespace Go.Proofs.YtknlbmjncginnaaGreatDoor
open Go.RowKit Go.Shelf
set_option maxRecDepth 100000
set_option maxHeartbeats 1000000
set_option linter.unusedVariables false
set_option linter.unusedSimpArgs false

/-- Behind k cycles, n of which are kept in `all`. -/
structure Pt (W1 : World) (P M : Nat) (p : Pl) (f : Nat → Nat) (k n : Nat) (all : Value) (V : World) (sv : Value) : Prop where
  pk : Pk V P sv (p.run f k).2.1
  hm : Holds V M 65536 (p.run f k).2.2
  own : ∀ g, sv.ownBlock = some g → W1.heap.size ≤ g
  alls : V.ownsRow W1.heap.size 42 3 all n (accX (p.run f n).1)
  ln : ∀ a n c, V.cell? ⟨P, 9, none⟩ = some (.slice (some a) n c) → ∀ g, all.ownBlock = some g → a.block ≠ g
  p1 : P < W1.heap.size
  m1 : M < W1.heap.size
  fr : Fr (fun k => k = M ∨ k = P ∨ W1.heap.size ≤ k) W1 V
theorem acc_own_lt {w : World} {B n : Nat} {v : Value} {xs : List Value} (h : w.ownsRow B 42 3 v n xs) : ∀ g, v.ownBlock = some g → B ≤ g ∧ g < w.heap.size ∧ ∃ cs, Whole w g 42 cs := fun g hg => by
  rcases h.2 with ⟨h1, _⟩ | ⟨g', cap, cur, h1, hB, hw, _⟩
  · rw [h1] at hg; cases hg
  · rw [h1] at hg
    injection hg with hg
    have hw' : Whole w g' 42 cur := hw
    subst hg
    exact ⟨hB, hw'.lt, _, hw'⟩
section
variable {W1 V : World} {P M k n : Nat} {p : Pl} {f : Nat → Nat} {all sv : Value}
theorem Pt.run (h : Pt W1 P M p f k n all V sv) (c m : Nat) (hm : m ≤ 1048576) : Calls Tryz.prog 29 #[.pointer (some ⟨P, 0, none⟩), .slice (some ⟨M, 0, none⟩) 65536 c, .int .i64 (m : Nat)] V fun e V6 => e = .returned (.tuple #[.slice (some ⟨V.heap.size, 0, none⟩) m m, .int .i64 0]) ∧ ARow V6 (some ⟨V.heap.size, 0, none⟩) ((p.run f k).2.1.run (p.run f k).2.2 m).1 ∧ ∃ sv6, Pt W1 P M p f (k + m) n all V6 sv6 := by
  refine (prun_any h.pk c h.hm (fun g hg e => ?_) m hm).mono ?_
  · have := h.own g hg
    have := h.m1
    omega
  rintro e V6 ⟨rfl, hA, sv6, a1, a2, a3, a4, a5⟩
  have hlt := h.pk.list_lt
  refine ⟨rfl, hA, sv6, ?_, ?_, fun g hg => ?_, ?_, fun a n c e g hg => ?_, h.p1, h.m1, ?_⟩
  · rw [Pl.run_add]; exact a1
  · rw [Pl.run_add]; exact a2
  · rcases a4 with e | e
    · rw [e] at hg; exact h.own g hg
    · exact Nat.le_trans h.fr.size (e g hg)
  · refine a3.own h.alls (fun g hg e => ?_)
    obtain ⟨b1, b2, cs, b3⟩ := acc_own_lt h.alls g hg
    rcases e with e | e | e
    · have := h.m1; omega
    · have := h.p1; omega
    · exact byte_apart h.pk.own b3 (by decide) g e rfl
  · obtain ⟨b1, b2, -⟩ := acc_own_lt h.alls g hg
    rcases a5 a n c e with ⟨n', c', e2⟩ | e2
    · have h2 := h.ln _ _ _ e2 g hg
      exact h2
    · omega
  · refine h.fr.trans2 a3 (fun x hx e => ?_)
    rcases e with e | e | e
    · exact .inl e
    · exact .inr (.inl e)
    · exact .inr (.inr (h.own x e))
theorem Pt.app (h : Pt W1 P M p f (n + k) n all V sv) (ty : TypeId) (g c : Nat) (hA : ARow V (some ⟨g, 0, none⟩) ((p.run f n).2.1.run (p.run f n).2.2 k).1) (hb : n + k ≤ 100000) :
    ∃ a c' W', (Builtin.append_ #[26, 26] ty #[all, .slice (some ⟨g, 0, none⟩) k c]).run Tryz.prog V = .ok (.slice a (n + k) c') W' ∧ Pt W1 P M p f (n + k) (n + k) (.slice a (n + k) c') W' sv := by
  have hl : (p.run f n).1.length = n := Pl.run_length p f n
  have ho := h.alls
  obtain ⟨a, c', W', h1, h2, h3, h4⟩ := app_accs V ty all (p.run f n).1 _ W1.heap.size g k c (by rw [hl]; exact ho) h.fr.size hA (Pl.run_length _ _ _) (by rw [hl]; exact hb)
  rw [hl] at h1 h2 h4
  have e1 : (p.run f n).1 ++ ((p.run f n).2.1.run (p.run f n).2.2 k).1 = (p.run f (n + k)).1 := by rw [Pl.run_add]
  rw [e1, Pl.run_length] at h2
  have hF := Fr.grown h3
  have hP := h.pk.lt
  obtain ⟨la, lc, c1, c2, c3⟩ := h.pk.cells
  have hown : ∀ g, all.ownBlock = some g → W1.heap.size ≤ g := fun g hg => (acc_own_lt h.alls g hg).1
  have hPn : ¬ all.ownBlock = some P := fun e => by have := hown P e; have := h.p1; omega
  have hMn : ¬ all.ownBlock = some M := fun e => by have := hown M e; have := h.m1; omega
  have hc9 : V.cell? ⟨P, 9, none⟩ = some (.slice la (p.run f (n + k)).2.1.list.length lc) := c1.cell 9
  have hpk : Pk W' P sv (p.run f (n + k)).2.1 := by
    refine ⟨h.pk.ok, ⟨la, lc, hF.whole c1 hPn, ?_, c3⟩, hF.own h.pk.own (fun y hy e => ?_), h.pk.bok⟩
    · rcases c2 with c2 | ⟨y, rfl, ⟨cs, hw⟩, hc⟩
      · exact .inl c2
      · have hy : ¬ all.ownBlock = some y := fun e => h.ln _ _ _ hc9 y e rfl
        exact .inr ⟨y, rfl, ⟨cs, hF.whole hw hy⟩, fun i hi => by
          obtain ⟨a1, a2, a3⟩ := hc i hi
          exact ⟨(hF.cell (a := ⟨y, i * 3, none⟩) hw.lt hy).trans a1, (hF.cell (a := ⟨y, i * 3 + 1, none⟩) hw.lt hy).trans a2, (hF.cell (a := ⟨y, i * 3 + 2, none⟩) hw.lt hy).trans a3⟩⟩
    · obtain ⟨_, _, cs, hw⟩ := acc_own_lt h.alls y e
      exact byte_apart h.pk.own hw (by decide) y hy rfl
  refine ⟨a, c', W', h1, hpk, h.hm.fr hF hMn, h.own, h2, fun b n2 c2 e y hy => ?_, h.p1, h.m1, h.fr.trans2 hF (fun x hx e => .inr (.inr (hown x e)))⟩
  rw [hF.cell (a := ⟨P, 9, none⟩) hP hPn] at e
  rcases h4 with h4 | h4
  · rw [h4] at hy
    exact h.ln _ _ _ e y hy
  · rw [h4] at hy
    injection hy with hy
    have := h.pk.list_lt _ _ _ e
    omega
end
end Go.Proofs.YtknlbmjncginnaaGreatDoor
