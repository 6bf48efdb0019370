/-
  A player's small methods by the code: New, Pegs, Done, Next.
-/
import Derived.Test.YtknlbmjncginnaaGreatDoorPBg
namespace Go.Proofs.YtknlbmjncginnaaGreatDoor
open Go.RowKit Go.Shelf
set_option maxRecDepth 100000
set_option maxHeartbeats 4000000
set_option linter.unusedVariables false
set_option linter.unusedSimpArgs false

def accV1 (x : Ac) : Value := .agg #[.int .u8 (x.1 : Nat), .int .u32 (x.2.1 : Nat), .int .u8 (x.2.2 : Nat)]
theorem new_any (r : Rp) (w : World) (hr : r.Ok) : Calls Tryz.prog 23 #[pegV r] w fun e w' => ∃ P, e = .returned (.pointer (some ⟨P, 0, none⟩)) ∧ w.heap.size ≤ P ∧ Pk w' P (.slice none 0 0) (Pl.new r) ∧ Below w.heap.size w w' := by
  have hx := (Whole.fresh w 24 (pegC r)).alloc (.cells (plC zeroR 0 (.slice none 0 0) (.slice none 0 0) zeroR) 104)
  have hP := Whole.fresh (w.alloc (.cells (pegC r) 24)) 104 (plC zeroR 0 (.slice none 0 0) (.slice none 0 0) zeroR)
  have hB := ((Below.refl w.heap.size w).alloc (Nat.le_refl _) (.cells (pegC r) 24)).alloc (by simp) (.cells (plC zeroR 0 (.slice none 0 0) (.slice none 0 0) zeroR) 104)
  rw [World.size_alloc] at hP
  have HK := fun (V : World) (hV : Whole V (w.heap.size + 1) 104 (plC zeroR 0 (.slice none 0 0) (.slice none 0 0) zeroR)) => begin_any r zeroR 0 0 [] (.slice none 0 0) zeroR hr hV ⟨rfl, .inl ⟨rfl, rfl⟩⟩
  replace HK := Lib.hid HK
  unfold pegC at hx hP hB
  unfold plC zeroR at hx hP hB
  simp only [show ((0 : Nat) : Int) = 0 from rfl] at hx hP hB
  obtain ⟨X, hX⟩ : ∃ X, w.heap.size = X := ⟨_, rfl⟩
  have hXs : X ≤ X + 1 := by omega
  rw [hX] at hx hP HK
  unfold pegV at HK ⊢
  go_enter Tryz.func23, Tryz.ntmps23
  go_upto_region 2 with (fail)
  try rw [hX]
  replace hX := Lib.hid hX
  generalize (w.alloc (.cells #[.int .u8 (r.A : Nat), .int .u8 (r.X : Nat), .int .u8 (r.Y : Nat), .int .u8 (r.S : Nat), .int .u8 (r.P : Nat), .int .u16 (r.Pc : Nat), .bool r.H] 24)).alloc (.cells #[.int .u8 0, .int .u8 0, .int .u8 0, .int .u8 0, .int .u8 0, .int .u16 0, .bool false, .int .u8 0, .slice none 0 0, .slice none 0 0, .int .u8 0, .int .u8 0, .int .u8 0, .int .u8 0, .int .u8 0, .int .u16 0, .bool false] 104) = W1 at *
  generalize X + 1 = P at *
  have x0 := hx.cell 0
  have x1 := hx.cell 1
  have x2 := hx.cell 2
  have x3 := hx.cell 3
  have x4 := hx.cell 4
  have x5 := hx.cell 5
  have x6 := hx.cell 6
  simp only [List.getElem?_toArray, List.getElem?_cons_zero, List.getElem?_cons_succ] at x0 x1 x2 x3 x4 x5 x6
  have HC := Lib.hid (HK.out W1.drew hP.drew)
  have hB1 := Lib.hid hB.drew
  have hXP := Lib.hid hXs
  clear hx hP hB HK
  go_still_tail 4, (by kernel_rfl)
  show wpList _ _ _ _ _ W1.drew
  generalize W1.drew = W2 at *
  go_wp2_with fail
  with_reducible refine HC.out.mono ?_
  rintro e W3 ⟨rfl, h1, h2, -⟩
  have hfin := Lib.hid (show w.heap.size ≤ P ∧ Pk W3 P (.slice none 0 0) (Pl.new r) ∧ Below w.heap.size w W3 from ⟨by rw [hX.out]; exact hXP.out, h1, hB1.out.trans (h2.below hB1.out.size (fun k e => by rw [e, hX.out]; exact hXP.out))⟩)
  clear HC h1 h2 hB1
  go_wp2_with fail
  go_ret
  exact ⟨P, rfl, hfin.out⟩
section
variable {w : World} {P : Nat} {sv : Value} {p : Pl}
theorem done_any (h : Pk w P sv p) : Calls Tryz.prog 33 #[.pointer (some ⟨P, 0, none⟩)] w fun e w' => e = .returned (.int .i64 (p.done : Nat)) ∧ w' = w := by
  obtain ⟨la, lc, hP, -, -⟩ := h.cells
  have c7 := hP.cell 7
  unfold plC at c7
  simp only [List.getElem?_toArray, List.getElem?_cons_zero, List.getElem?_cons_succ] at c7
  have hd : p.done ≤ 14 := by have := h.ok.done; have := h.ok.len; omega
  clear h hP
  go_enter Tryz.func33, Tryz.ntmps33
  go_wp2_with fail
  go_ret
  exact ⟨rfl, rfl⟩
theorem next_any (h : Pk w P sv p) : Calls Tryz.prog 34 #[.pointer (some ⟨P, 0, none⟩)] w fun e w' => e = .returned (accV1 p.next) ∧ Below w.heap.size w w' := by
  obtain ⟨la, lc, hP, hA, hlc⟩ := h.cells
  have hl0 : p.list ≠ [] := fun e => by have := h.ok.done; rw [e] at this; exact absurd this (Nat.not_lt_zero _)
  obtain ⟨g, rfl⟩ := hA.some hl0
  have hd := h.ok.done
  have hc := hA.at_ p.done hd
  rw [← Pl.next_eq hd] at hc
  obtain ⟨q0, q1, q2⟩ := hc
  have c7 := hP.cell 7
  have c9 := hP.cell 9
  unfold plC at c7 c9
  simp only [List.getElem?_toArray, List.getElem?_cons_zero, List.getElem?_cons_succ] at c7 c9
  have hgl := World.block_lt_of_cell? w ⟨g, p.done * 3, none⟩ q0
  have hdl : (p.done : Int) < (p.list.length : Int) := by omega
  unfold accV1
  generalize p.next = x at *
  obtain ⟨xk, xa, xv⟩ := x
  dsimp only at q0 q1 q2 ⊢
  generalize p.list.length = L at *
  generalize p.done = D at *
  have hal : Below w.heap.size w (w.alloc (.cells #[.int .u8 0, .int .u32 0, .int .u8 0] 42)) := (Below.refl w.heap.size w).alloc (Nat.le_refl _) _
  have hT := Whole.fresh w 42 #[.int .u8 0, .int .u32 0, .int .u8 0]
  have c7 := (hal.cell (p := ⟨P, 7, none⟩) hP.lt).trans c7
  have c9 := (hal.cell (p := ⟨P, 9, none⟩) hP.lt).trans c9
  have q0 := (hal.cell (p := ⟨g, D * 3, none⟩) hgl).trans q0
  have q1 := (hal.cell (p := ⟨g, D * 3 + 1, none⟩) hgl).trans q1
  have q2 := (hal.cell (p := ⟨g, D * 3 + 2, none⟩) hgl).trans q2
  have hW := ((hT.drew.put 0 (.int .u8 (xk : Nat))).put 1 (.int .u32 (xa : Nat))).put 2 (.int .u8 (xv : Nat))
  have hB := ((hal.drew.setCell (p := ⟨w.heap.size, 0, none⟩) (Nat.le_refl _) (.int .u8 (xk : Nat))).setCell (p := ⟨w.heap.size, 1, none⟩) (Nat.le_refl _) (.int .u32 (xa : Nat))).setCell (p := ⟨w.heap.size, 2, none⟩) (Nat.le_refl _) (.int .u8 (xv : Nat))
  simp only [List.setIfInBounds_toArray, List.set_cons_zero, List.set_cons_succ] at hW
  have t0 := hT.drew.cell 0
  have t1 := hT.drew.cell 1
  have t2 := hT.drew.cell 2
  have f0 := hT.drew.free 0
  have f1 := hT.drew.free 1
  have f2 := hT.drew.free 2
  simp only [List.getElem?_toArray, List.getElem?_cons_zero, List.getElem?_cons_succ] at t0 t1 t2
  replace hW := Lib.hid hW
  replace hB := Lib.hid hB
  clear h hP hA hlc hl0 hd hgl hal hT
  go_enter Tryz.func34, Tryz.ntmps34
  go_upto_region 3 with (fail)
  generalize w.alloc (.cells #[.int .u8 0, .int .u32 0, .int .u8 0] 42) = V at *
  obtain ⟨T, hTe⟩ : ∃ T, w.heap.size = T := ⟨_, rfl⟩
  rw [hTe] at t0 t1 t2 f0 f1 f2 hW hB ⊢
  go_still_tail 12, (by kernel_rfl)
  show wpList _ _ _ _ _ V.drew
  generalize V.drew = V2 at *
  clear c7 c9 q0 q1 q2
  go_wp2_with fail
  exact bodyPost_ret (results_cell_row (fn := Tryz.f34) (p := 2) (ty := 42) rfl _ _ _ _ _ (0, 0) _ rfl hW.out Tryz.underlying42 rfl (by kernel_rfl)) rfl ⟨rfl, by rw [hTe]; exact hB.out⟩
end
end Go.Proofs.YtknlbmjncginnaaGreatDoor
