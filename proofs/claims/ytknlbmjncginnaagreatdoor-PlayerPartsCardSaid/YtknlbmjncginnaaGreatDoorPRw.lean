/-
  Run, by the code.
-/
import Derived.Test.YtknlbmjncginnaaGreatDoorPRu
namespace Go.Proofs.YtknlbmjncginnaaGreatDoor
open Go.RowKit Go.Shelf
set_option maxRecDepth 100000
set_option maxHeartbeats 4000000
set_option linter.unusedVariables false
set_option linter.unusedSimpArgs false

section
variable {w : World} {P M : Nat} {sv : Value} {p : Pl} {f : Nat → Nat}
theorem Pk.lo (h : Pk w P sv p) : LO w w P := fun a n c e => by
  obtain ⟨la, lc, h1, h2, h3⟩ := h.cells
  have hc : w.cell? ⟨P, 9, none⟩ = some (.slice la p.list.length lc) := h1.cell 9
  have e0 := e
  rw [hc] at e
  injection e with e
  injection e with e1 e2 e3
  rcases h2 with h2 | ⟨g, hg, ⟨cs, hw⟩, _⟩
  · exact absurd h.ok.done (by rw [h2]; exact Nat.not_lt_zero _)
  · rw [hg] at e1
    injection e1 with e1
    subst e1
    exact .inl ⟨n, c, e0⟩
theorem prun_any (h : Pk w P sv p) (c : Nat) (hM : Holds w M 65536 f) (hMo : ∀ g, sv.ownBlock = some g → g ≠ M) (n : Nat) (hn : n ≤ 1048576) :
    Calls Tryz.prog 29 #[.pointer (some ⟨P, 0, none⟩), .slice (some ⟨M, 0, none⟩) 65536 c, .int .i64 (n : Nat)] w fun e w' => e = .returned (.tuple #[.slice (some ⟨w.heap.size, 0, none⟩) n n, .int .i64 0]) ∧ ARow w' (some ⟨w.heap.size, 0, none⟩) (p.run f n).1 ∧ Ply w P M sv (p.run f n).2.1 (p.run f n).2.2 w' := by
  have hmk := run_make_acc n (by omega) w
  have hB := (Below.refl w.heap.size w).alloc (Nat.le_refl _) (.cells (madeCells accZ (n * 3)) 42)
  have hB0 : Fr (fun _ => False) w (w.alloc (.cells (madeCells accZ (n * 3)) 42)) := Fr.of hB
  have hT := Whole.fresh w 42 (madeCells accZ (n * 3))
  have h1 := h.keep hB0
  have hM1 := hM.fr hB0 (fun e => e)
  have hsz : (w.alloc (.cells (madeCells accZ (n * 3)) 42)).heap.size = w.heap.size + 1 := World.size_alloc _ _
  have hQ : Lq (w.alloc (.cells (madeCells accZ (n * 3)) 42)) P M w.heap.size sv := ⟨fun e => Nat.lt_irrefl _ (e ▸ hM.lt), fun e => Nat.lt_irrefl _ (e ▸ h.lt), by rw [hsz]; exact Nat.lt_succ_self _, by rw [hsz]; exact Nat.lt_succ_of_lt hM.lt, hMo, fun a n c e => by
    rw [hB0.cell (a := ⟨P, 9, none⟩) h.lt (fun e => e)] at e
    exact Nat.ne_of_lt (h.list_lt _ _ _ e)⟩
  have hL0 : Lp (w.alloc (.cells (madeCells accZ (n * 3)) 42)) P M w.heap.size n sv (p.run f 0).1 (p.run f 0).2.1 (p.run f 0).2.2 (w.alloc (.cells (madeCells accZ (n * 3)) 42)) sv :=
    ⟨h1, hM1, Fr.refl _ _, .inl rfl, h1.lo, ⟨_, hT, by rw [size_madeCells], fun i hi => absurd hi (Nat.not_lt_zero _)⟩⟩
  have hEnd : ∀ V sv', Lp (w.alloc (.cells (madeCells accZ (n * 3)) 42)) P M w.heap.size n sv (p.run f n).1 (p.run f n).2.1 (p.run f n).2.2 V sv' → ARow V (some ⟨w.heap.size, 0, none⟩) (p.run f n).1 ∧ Ply w P M sv (p.run f n).2.1 (p.run f n).2.2 V := fun V sv' k => by
    refine ⟨k.did.arow, sv', k.pk, k.hm, (Fr.of hB).trans2 k.fr (fun x hx e => ?_), ?_, fun a n c e => ?_⟩
    · rcases e with e | e
      · omega
      · exact e
    · rcases k.new with e | e
      · exact .inl e
      · exact .inr fun g hg => Nat.le_trans hB0.size (e g hg)
    · rcases k.lo a n c e with ⟨n2, c2, e2⟩ | e2
      · rw [hB0.cell (a := ⟨P, 9, none⟩) h.lt (fun e => e)] at e2
        exact .inl ⟨n2, c2, e2⟩
      · exact .inr (Nat.le_trans hB0.size e2)
  have hStep : ∀ k V sv', k < n → Lp (w.alloc (.cells (madeCells accZ (n * 3)) 42)) P M w.heap.size n sv (p.run f k).1 (p.run f k).2.1 (p.run f k).2.2 V sv' → Calls Tryz.prog 55 #[.pointer (some ⟨P, 0, none⟩), .slice (some ⟨M, 0, none⟩) 65536 c] V fun e W6 => e = .returned (accV1 (p.run f k).2.1.next) ∧
      (∃ cs, Whole W6 w.heap.size 42 cs ∧ cs.size = n * 3) ∧
      ∃ sv6, Lp (w.alloc (.cells (madeCells accZ (n * 3)) 42)) P M w.heap.size n sv (p.run f (k + 1)).1 (p.run f (k + 1)).2.1 (p.run f (k + 1)).2.2 (((W6.setCell ⟨w.heap.size, k * 3, none⟩ (.int .u8 ((p.run f k).2.1.next.1 : Nat))).setCell ⟨w.heap.size, k * 3 + 1, none⟩ (.int .u32 ((p.run f k).2.1.next.2.1 : Nat))).setCell ⟨w.heap.size, k * 3 + 2, none⟩ (.int .u8 ((p.run f k).2.1.next.2.2 : Nat))) sv6 := fun k V sv' hk hL => by
    refine (stepOn_any hL.pk c hL.hm (hL.own_m hQ)).mono ?_
    rintro e W6 ⟨rfl, h6⟩
    refine ⟨rfl, ?_, hL.step hQ h6 (Pl.run_length p f k) hk _⟩
    obtain ⟨sv6, a1, a2, a3, a4, a5⟩ := h6
    obtain ⟨cs, hw, hs, hc⟩ := hL.did
    exact ⟨cs, a3.whole hw (fun e => by
      rcases e with e | e | e
      · exact hQ.gm e
      · exact hQ.gp e
      · exact byte_apart hL.pk.own hw (by decide) _ e rfl), hs⟩
  have hn1 : (n : Int) ≤ 1048576 := by omega
  replace hEnd := Lib.hid hEnd
  replace hStep := Lib.hid hStep
  replace hL0 := Lib.hid hL0
  clear hQ hsz h1 hM1 hT hB0 hB h hM hMo
  go_enter Tryz.func29, Tryz.ntmps29
  go_wp2_with fail
  clear hmk
  generalize w.alloc (.cells (madeCells accZ (n * 3)) 42) = W0 at *
  obtain ⟨G, hG⟩ : ∃ G, w.heap.size = G := ⟨_, rfl⟩
  rw [hG] at hStep hEnd hL0 ⊢
  replace hG := Lib.hid hG
  go_loopw [26] (fun s26 wr => ∃ k : Nat, k ≤ n ∧ s26 = .int .i64 k ∧ ∃ sv', Lp W0 P M G n sv (p.run f k).1 (p.run f k).2.1 (p.run f k).2.2 wr sv') (fun s26 _ => n - (intOf s26).toNat)
  case atStart => exact ⟨0, Nat.zero_le _, by go_num, sv, hL0.out⟩
  case round =>
    obtain ⟨k, hk, rfl, sv', hL⟩ := hrel
    by_cases hlt : k < n
    · have HC := Lib.hid (hStep.out k wr sv' hlt hL)
      clear hL hEnd hStep hL0
      go_wp2_with fail
      refine HC.out.mono ?_
      rintro e W6 ⟨rfl, ⟨cs, hw, hs⟩, sv6, hL6⟩
      replace hL6 := Lib.hid (Exists.intro sv6 hL6)
      clear HC
      obtain ⟨x, hx⟩ : ∃ x, (p.run f k).2.1.next = x := ⟨_, rfl⟩
      rw [hx] at hL6 ⊢
      obtain ⟨xk, xa, xv⟩ := x
      dsimp only at hL6
      have q0 := hw.cell (k * 3)
      have q1 := hw.cell (k * 3 + 1)
      have q2 := hw.cell (k * 3 + 2)
      rw [Array.getElem?_eq_getElem (by omega)] at q0 q1 q2
      generalize cs[k * 3]'(by omega) = v0 at *
      generalize cs[k * 3 + 1]'(by omega) = v1 at *
      generalize cs[k * 3 + 2]'(by omega) = v2 at *
      have f0 := hw.free (k * 3)
      have f1 := hw.free (k * 3 + 1)
      have f2 := hw.free (k * 3 + 2)
      have hki : (k : Int) < (n : Int) := by omega
      clear hw hs hx
      unfold accV1
      dsimp only
      go_wp2_with fail
      go_roundw
      case rel => exact ⟨k + 1, by omega, by go_num, hL6.out⟩
      case measure => simp [intOf]; omega
    · obtain rfl : n = k := by omega
      have hfin := Lib.hid (hEnd.out wr sv' hL)
      clear hL hEnd hStep hL0 hlt hk
      go_wp2_with fail
      go_ret2
      exact ⟨by rw [hG.out]; rfl, by rw [hG.out]; exact hfin.out⟩
end
end Go.Proofs.YtknlbmjncginnaaGreatDoor
