/-
  A step, and the registers, by the code.
-/
import Derived.Test.YtknlbmjncginnaaGreatDoorPCa
namespace Go.Proofs.YtknlbmjncginnaaGreatDoor
open Go.RowKit Go.Shelf
set_option maxRecDepth 100000
set_option maxHeartbeats 4000000
set_option linter.unusedVariables false
set_option linter.unusedSimpArgs false

/-- What a step leaves. -/
def Stp (w : World) (P : Nat) (sv : Value) (q : Pl) (w' : World) : Prop := ∃ sv', Pk w' P sv' q ∧ Fr (fun k => k = P ∨ sv.ownBlock = some k) w w' ∧ (sv'.ownBlock = sv.ownBlock ∨ ∀ g, sv'.ownBlock = some g → w.heap.size ≤ g) ∧ LO w w' P
section
variable {w w1 w2 V : World} {P : Nat} {sv : Value} {p q : Pl}
theorem Pk.keep (h : Pk w P sv p) (hF : Fr (fun _ => False) w V) : Pk V P sv p := by
  obtain ⟨la, lc, h1, h2, h3⟩ := h.cells
  exact ⟨h.ok, ⟨la, lc, hF.whole h1 (fun e => e), hF.arow h2 (fun _ _ _ e => e), h3⟩, hF.own h.own (fun _ _ e => e), h.bok⟩
theorem Pk.lt (h : Pk w P sv p) : P < w.heap.size := by
  obtain ⟨la, lc, h1, _⟩ := h.cells
  exact h1.lt
theorem Pk.list_lt (h : Pk w P sv p) : ∀ a n c, w.cell? ⟨P, 9, none⟩ = some (.slice (some a) n c) → a.block < w.heap.size := fun a n c e => by
  obtain ⟨la, lc, h1, h2, h3⟩ := h.cells
  have hc : w.cell? ⟨P, 9, none⟩ = some (.slice la p.list.length lc) := h1.cell 9
  rw [hc] at e
  injection e with e
  injection e with e1 e2 e3
  rcases h2 with h2 | ⟨g, hg, ⟨cs, hw⟩, _⟩
  · exact absurd h.ok.done (by rw [h2]; exact Nat.not_lt_zero _)
  · rw [hg] at e1
    injection e1 with e1
    rw [← e1]
    exact hw.lt
theorem Pk.own_lt (h : Pk w P sv p) : ∀ g, sv.ownBlock = some g → g < w.heap.size := fun g hg => by
  rcases h.own.2 with ⟨h1, _⟩ | ⟨g', cap, cur, h1, _, hw, _⟩
  · rw [h1] at hg; cases hg
  · rw [h1] at hg
    injection hg with hg
    have hw' : Whole w g' 5 cur := hw
    rw [← hg]
    exact hw'.lt
theorem Pk.list_apart (h : Pk w P sv p) {X : Nat} {t : TypeId} {xs : Array Value} (hX : Whole w X t xs) (ht : 42 ≠ t) : ∀ a n c, w.cell? ⟨P, 9, none⟩ = some (.slice (some a) n c) → a.block ≠ X := fun a n c e => by
  obtain ⟨la, lc, h1, h2, h3⟩ := h.cells
  have hc : w.cell? ⟨P, 9, none⟩ = some (.slice la p.list.length lc) := h1.cell 9
  rw [hc] at e
  injection e with e
  injection e with e1 e2 e3
  rcases h2 with h2 | ⟨g, hg, ⟨cs, hw⟩, _⟩
  · exact absurd h.ok.done (by rw [h2]; exact Nat.not_lt_zero _)
  · rw [hg] at e1
    injection e1 with e1
    rw [← e1]
    exact whole_apart hw hX ht
/-- Behind a step in a world that was longer by blocks of its own, one of which is put down. -/
theorem stp_end2 {S : Nat → Prop} (h : Pk w P sv p) (hB : Fr S w w1) (hSP : ¬ S P) (h2 : Stp w1 P sv q w2) (hF : Fr (fun k => w.heap.size ≤ k ∧ k < w1.heap.size) w2 V) :
    ∃ sv', Pk V P sv' q ∧ Fr (fun k => S k ∨ k = P ∨ sv.ownBlock = some k) w V ∧ (sv'.ownBlock = sv.ownBlock ∨ ∀ g, sv'.ownBlock = some g → w.heap.size ≤ g) ∧ LO w V P := by
  obtain ⟨sv2, k1, k2, k3, k4⟩ := h2
  have hPl := h.lt
  obtain ⟨la, lc, c1, c2, c3⟩ := k1.cells
  have hc9 : w2.cell? ⟨P, 9, none⟩ = some (.slice la q.list.length lc) := c1.cell 9
  have hln : ∀ a n c, w2.cell? ⟨P, 9, none⟩ = some (.slice (some a) n c) → ¬ (w.heap.size ≤ a.block ∧ a.block < w1.heap.size) := fun a n c e hk => by
    rcases k4 a n c e with ⟨n', c', k⟩ | k
    · rw [hB.cell (a := ⟨P, 9, none⟩) hPl hSP] at k
      exact absurd (h.list_lt _ _ _ k) (Nat.not_lt_of_le hk.1)
    · omega
  have hown : ∀ g, sv2.ownBlock = some g → ¬ (w.heap.size ≤ g ∧ g < w1.heap.size) := fun g hg hk => by
    rcases k3 with k3 | k3
    · rw [k3] at hg
      exact absurd (h.own_lt g hg) (Nat.not_lt_of_le hk.1)
    · have := k3 g hg
      omega
  have hPn : ¬ (w.heap.size ≤ P ∧ P < w1.heap.size) := fun e => by omega
  have hV : Pk V P sv2 q := by
    refine ⟨k1.ok, ⟨la, lc, hF.whole c1 hPn, ?_, c3⟩, hF.own k1.own hown, k1.bok⟩
    rcases c2 with c2 | ⟨g, rfl, ⟨cs, hw⟩, hc⟩
    · exact .inl c2
    · have hg := hln _ _ _ hc9
      exact .inr ⟨g, rfl, ⟨cs, hF.whole hw hg⟩, fun i hi => by
        obtain ⟨a1, a2, a3⟩ := hc i hi
        exact ⟨(hF.cell (a := ⟨g, i * 3, none⟩) hw.lt hg).trans a1, (hF.cell (a := ⟨g, i * 3 + 1, none⟩) hw.lt hg).trans a2, (hF.cell (a := ⟨g, i * 3 + 2, none⟩) hw.lt hg).trans a3⟩⟩
  refine ⟨sv2, hV, ((hB.mono fun _ _ e => .inl e).trans (k2.mono fun _ _ e => .inr e)).trans2 hF (fun x hx e => by omega), ?_, fun a n c e => ?_⟩
  · rcases k3 with k3 | k3
    · exact .inl k3
    · exact .inr fun g hg => Nat.le_trans hB.size (k3 g hg)
  · rw [hF.cell (a := ⟨P, 9, none⟩) c1.lt hPn] at e
    rcases k4 a n c e with ⟨n', c', k⟩ | k
    · rw [hB.cell (a := ⟨P, 9, none⟩) hPl hSP] at k
      exact .inl ⟨n', c', k⟩
    · exact .inr (Nat.le_trans hB.size k)
theorem stp_end (h : Pk w P sv p) (hB : Fr (fun _ => False) w w1) (h2 : Stp w1 P sv q w2) (hF : Fr (fun k => w.heap.size ≤ k ∧ k < w1.heap.size) w2 V) : Stp w P sv q V := by
  obtain ⟨sv', k1, k2, k3, k4⟩ := stp_end2 h hB (fun e => e) h2 hF
  exact ⟨sv', k1, k2.mono (fun _ _ e => e.elim (fun e => e.elim) (fun e => e)), k3, k4⟩
theorem step_any (h : Pk w P sv p) (v : Nat) (hv : v < 256) : Calls Tryz.prog 26 #[.pointer (some ⟨P, 0, none⟩), .int .u8 (v : Nat)] w fun e w' => e = .returned (accV1 p.next) ∧ Stp w P sv (p.step v) w' := by
  have hB := (Below.refl w.heap.size w).alloc (Nat.le_refl _) (.cells #[.int .u8 0, .int .u32 0, .int .u8 0] 42)
  have hB0 : Fr (fun _ => False) w (w.alloc (.cells #[.int .u8 0, .int .u32 0, .int .u8 0] 42)) := Fr.of hB
  have hT := Whole.fresh w 42 #[.int .u8 0, .int .u32 0, .int .u8 0]
  have h1 := h.keep hB0
  have hsz : (w.alloc (.cells #[.int .u8 0, .int .u32 0, .int .u8 0] 42)).heap.size = w.heap.size + 1 := World.size_alloc _ _
  have HC := carry_any h1 v hv
  obtain ⟨x, hx⟩ : ∃ x, p.next = x := ⟨_, rfl⟩
  rw [hx] at HC ⊢
  obtain ⟨xk, xa, xv⟩ := x
  have HE := Lib.hid fun (w2 V : World) (h2 : Stp (w.alloc (.cells #[.int .u8 0, .int .u32 0, .int .u8 0] 42)) P sv (p.step v) w2) hF => stp_end (V := V) h hB0 h2 hF
  replace HC := Lib.hid HC
  have hTh := Lib.hid hT
  have hne : w.heap.size ≠ P := Nat.ne_of_gt h.lt
  have hno : ∀ g, sv.ownBlock = some g → g ≠ w.heap.size := fun g hg => Nat.ne_of_lt (h.own_lt g hg)
  replace hne := Lib.hid hne
  replace hno := Lib.hid hno
  clear hB hB0 hT h1 h
  go_enter Tryz.func26, Tryz.ntmps26
  go_upto_region 3 with (fail)
  generalize w.alloc (.cells #[.int .u8 0, .int .u32 0, .int .u8 0] 42) = W1 at *
  obtain ⟨T, hTe⟩ : ∃ T, w.heap.size = T := ⟨_, rfl⟩
  rw [hTe] at hTh hne hno hsz HE ⊢
  clear hTe
  replace hsz := Lib.hid hsz
  go_wp2_with fail
  refine HC.out.mono ?_
  rintro e W2 ⟨rfl, hS⟩
  have hT2 : Whole W2 T 42 #[.int .u8 0, .int .u32 0, .int .u8 0] := by
    obtain ⟨sv2, k1, k2, k3, k4⟩ := hS
    exact k2.whole hTh.out (fun e => e.elim hne.out (fun e => hno.out T e rfl))
  have t0 := hT2.cell 0
  have t1 := hT2.cell 1
  have t2 := hT2.cell 2
  have f0 := hT2.free 0
  have f1 := hT2.free 1
  have f2 := hT2.free 2
  simp only [List.getElem?_toArray, List.getElem?_cons_zero, List.getElem?_cons_succ] at t0 t1 t2
  have hW := ((hT2.put 0 (.int .u8 (xk : Nat))).put 1 (.int .u32 (xa : Nat))).put 2 (.int .u8 (xv : Nat))
  simp only [List.setIfInBounds_toArray, List.set_cons_zero, List.set_cons_succ] at hW
  have hTT : T ≤ T ∧ T < W1.heap.size := ⟨Nat.le_refl _, by rw [hsz.out]; exact Nat.lt_succ_self _⟩
  have hF := (((Fr.refl (fun k => T ≤ k ∧ k < W1.heap.size) W2).setCell (p := ⟨T, 0, none⟩) hTT (.int .u8 (xk : Nat))).setCell (p := ⟨T, 1, none⟩) hTT (.int .u32 (xa : Nat))).setCell (p := ⟨T, 2, none⟩) hTT (.int .u8 (xv : Nat))
  have hfin := Lib.hid (HE.out _ _ hS hF)
  replace hW := Lib.hid hW
  clear hS hT2 hF hTT HE hTh hne hno HC
  unfold accV1
  dsimp only
  go_wp2_with fail
  exact bodyPost_ret (results_cell_row (fn := Tryz.f26) (p := 4) (ty := 42) rfl _ _ _ _ _ (0, 0) _ rfl hW.out Tryz.underlying42 rfl (by kernel_rfl)) rfl ⟨rfl, hfin.out⟩
end
end Go.Proofs.YtknlbmjncginnaaGreatDoor
