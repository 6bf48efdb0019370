/-
  Many cycles on a memory, by the code.
-/
import Derived.Test.YtknlbmjncginnaaGreatDoorPSo
namespace Go.Proofs.YtknlbmjncginnaaGreatDoor
open Go.RowKit Go.Shelf
set_option maxRecDepth 100000
set_option maxHeartbeats 4000000
set_option linter.unusedVariables false
set_option linter.unusedSimpArgs false

/-- So many cycles on a memory: what they did, the player and the memory behind them. -/
def Pl.run (p : Pl) (f : Nat → Nat) : Nat → List Ac × Pl × (Nat → Nat)
  | 0 => ([], p, f)
  | k + 1 => ((Pl.run p f k).1 ++ [(Pl.run p f k).2.1.next], (Pl.run p f k).2.1.play (Pl.run p f k).2.2, (Pl.run p f k).2.1.mem (Pl.run p f k).2.2)
theorem Pl.run_length (p : Pl) (f : Nat → Nat) (k : Nat) : (p.run f k).1.length = k := by
  induction k with
  | zero => rfl
  | succ k ih => simp [Pl.run, ih]
theorem Pl.run_add (p : Pl) (f : Nat → Nat) (a b : Nat) : p.run f (a + b) = ((p.run f a).1 ++ ((p.run f a).2.1.run (p.run f a).2.2 b).1, ((p.run f a).2.1.run (p.run f a).2.2 b).2) := by
  induction b with
  | zero => simp [Pl.run]
  | succ b ih =>
    rw [← Nat.add_assoc]
    simp only [Pl.run, ih, List.append_assoc]
/-- The accesses that are known so far, in a slice that has room for n. -/
def DRow (w : World) (G n : Nat) (l : List Ac) : Prop := ∃ cs, Whole w G 42 cs ∧ cs.size = n * 3 ∧ ∀ i (h : i < l.length), cs[i * 3]? = some (.int .u8 (l[i].1 : Nat)) ∧ cs[i * 3 + 1]? = some (.int .u32 (l[i].2.1 : Nat)) ∧ cs[i * 3 + 2]? = some (.int .u8 (l[i].2.2 : Nat))
theorem DRow.put {w : World} {G n : Nat} {l : List Ac} (h : DRow w G n l) (k : Nat) (hk : l.length = k) (hkn : k < n) (x : Ac) :
    DRow (((w.setCell ⟨G, k * 3, none⟩ (.int .u8 (x.1 : Nat))).setCell ⟨G, k * 3 + 1, none⟩ (.int .u32 (x.2.1 : Nat))).setCell ⟨G, k * 3 + 2, none⟩ (.int .u8 (x.2.2 : Nat))) G n (l ++ [x]) := by
  obtain ⟨cs, hw, hs, hc⟩ := h
  refine ⟨_, ((hw.put (k * 3) _).put (k * 3 + 1) _).put (k * 3 + 2) _, by simp [hs], fun i hi => ?_⟩
  rw [List.length_append, List.length_singleton, hk] at hi
  by_cases e : i = k
  · subst e
    have e1 : (l ++ [x])[i]'(by rw [List.length_append, List.length_singleton]; omega) = x := by
      rw [List.getElem_append_right (by omega)]
      simp [hk]
    rw [e1]
    simp only [Array.getElem?_setIfInBounds, Array.size_setIfInBounds, hs]
    refine ⟨?_, ?_, ?_⟩
    · rw [if_neg (by omega), if_neg (by omega), if_pos trivial, if_pos (by omega)]
    · rw [if_neg (by omega), if_pos trivial, if_pos (by omega)]
    · rw [if_pos trivial, if_pos (by omega)]
  · have hi' : i < l.length := by omega
    obtain ⟨c1, c2, c3⟩ := hc i hi'
    have e1 : (l ++ [x])[i]'(by rw [List.length_append, List.length_singleton]; omega) = l[i] := List.getElem_append_left hi'
    rw [e1]
    simp only [Array.getElem?_setIfInBounds, Array.size_setIfInBounds]
    refine ⟨?_, ?_, ?_⟩
    · rw [if_neg (by omega), if_neg (by omega), if_neg (by omega)]; exact c1
    · rw [if_neg (by omega), if_neg (by omega), if_neg (by omega)]; exact c2
    · rw [if_neg (by omega), if_neg (by omega), if_neg (by omega)]; exact c3
theorem DRow.arow {w : World} {G n : Nat} {l : List Ac} (h : DRow w G n l) : ARow w (some ⟨G, 0, none⟩) l := by
  obtain ⟨cs, hw, hs, hc⟩ := h
  exact .inr ⟨G, rfl, ⟨cs, hw⟩, fun i hi => by rw [hw.cell, hw.cell, hw.cell]; exact hc i hi⟩
structure Lp (W0 : World) (P M G n : Nat) (sv : Value) (l : List Ac) (q : Pl) (f : Nat → Nat) (V : World) (sv' : Value) : Prop where
  pk : Pk V P sv' q
  hm : Holds V M 65536 f
  fr : Fr (fun k => k = G ∨ k = M ∨ k = P ∨ sv.ownBlock = some k) W0 V
  new : sv'.ownBlock = sv.ownBlock ∨ ∀ g, sv'.ownBlock = some g → W0.heap.size ≤ g
  lo : LO W0 V P
  did : DRow V G n l
/-- What does not turn while the player runs. -/
structure Lq (W0 : World) (P M G : Nat) (sv : Value) : Prop where
  gm : G ≠ M
  gp : G ≠ P
  g : G < W0.heap.size
  m : M < W0.heap.size
  own : ∀ k, sv.ownBlock = some k → k ≠ M
  old : ∀ a n c, W0.cell? ⟨P, 9, none⟩ = some (.slice (some a) n c) → a.block ≠ G
theorem Lp.own_m {W0 V : World} {P M G n : Nat} {sv sv' : Value} {l : List Ac} {q : Pl} {f : Nat → Nat} (h : Lp W0 P M G n sv l q f V sv') (hq : Lq W0 P M G sv) : ∀ k, sv'.ownBlock = some k → k ≠ M := fun k hk => by
  rcases h.new with e | e
  · rw [e] at hk; exact hq.own k hk
  · have := e k hk
    have := hq.m
    omega
theorem Lp.step {W0 V W6 : World} {P M G n k : Nat} {sv sv' : Value} {l : List Ac} {q q' : Pl} {f f' : Nat → Nat} (h : Lp W0 P M G n sv l q f V sv') (hq : Lq W0 P M G sv) (h6 : Ply V P M sv' q' f' W6) (hk : l.length = k) (hkn : k < n) (x : Ac) :
    ∃ sv6, Lp W0 P M G n sv (l ++ [x]) q' f' (((W6.setCell ⟨G, k * 3, none⟩ (.int .u8 (x.1 : Nat))).setCell ⟨G, k * 3 + 1, none⟩ (.int .u32 (x.2.1 : Nat))).setCell ⟨G, k * 3 + 2, none⟩ (.int .u8 (x.2.2 : Nat))) sv6 := by
  obtain ⟨sv6, a1, a2, a3, a4, a5⟩ := h6
  obtain ⟨cs, hw, hs, hc⟩ := h.did
  have hGV : ¬ (G = M ∨ G = P ∨ sv'.ownBlock = some G) := fun e => by
    rcases e with e | e | e
    · exact hq.gm e
    · exact hq.gp e
    · exact byte_apart h.pk.own hw (by decide) G e rfl
  have hw6 := a3.whole hw hGV
  have hF : Fr (fun k => k = G) W6 (((W6.setCell ⟨G, k * 3, none⟩ (.int .u8 (x.1 : Nat))).setCell ⟨G, k * 3 + 1, none⟩ (.int .u32 (x.2.1 : Nat))).setCell ⟨G, k * 3 + 2, none⟩ (.int .u8 (x.2.2 : Nat))) :=
    (((Fr.refl (fun k => k = G) W6).setCell (p := ⟨G, k * 3, none⟩) rfl _).setCell (p := ⟨G, k * 3 + 1, none⟩) rfl _).setCell (p := ⟨G, k * 3 + 2, none⟩) rfl _
  have hlo : LO W0 W6 P := fun a n c e => by
    rcases a5 a n c e with ⟨n', c', e1⟩ | e1
    · rcases h.lo _ _ _ e1 with ⟨n2, c2, e2⟩ | e2
      · exact .inl ⟨n2, c2, e2⟩
      · exact .inr e2
    · exact .inr (Nat.le_trans h.fr.size e1)
  have hPlt := a1.lt
  refine ⟨sv6, a1.turn G hq.gp (byte_apart a1.own hw6 (by decide)) (fun a n c e => ?_) hF, a2.fr hF (fun e => hq.gm e.symm), (h.fr.trans2 (a3.mono (T := fun k => k = M ∨ k = P ∨ sv'.ownBlock = some k) fun _ _ e => e) (fun y hy e => ?_)).trans (hF.mono fun _ _ e => .inl e), ?_, fun a n c e => ?_, ?_⟩
  · rcases hlo a n c e with ⟨n2, c2, e2⟩ | e2
    · have := hq.old _ _ _ e2; exact this
    · have := hq.g; omega
  · rcases e with e | e | e
    · exact .inr (.inl e)
    · exact .inr (.inr (.inl e))
    · rcases h.new with e2 | e2
      · rw [e2] at e; exact .inr (.inr (.inr e))
      · have := e2 y e; omega
  · rcases a4 with a4 | a4
    · rw [a4]; exact h.new
    · exact .inr fun g hg => Nat.le_trans h.fr.size (a4 g hg)
  · rw [hF.cell (a := ⟨P, 9, none⟩) hPlt (fun e => hq.gp e.symm)] at e
    exact hlo a n c e
  · exact DRow.put ⟨cs, hw6, hs, hc⟩ k hk hkn x
end Go.Proofs.YtknlbmjncginnaaGreatDoor
