/-
  A player that is known to move a byte.
-/
import Derived.Test.YtknlbmjncginnaaGreatDoorPSa
namespace Go.Proofs.YtknlbmjncginnaaGreatDoor
open Go.RowKit Go.Shelf
set_option maxRecDepth 100000
set_option maxHeartbeats 4000000
set_option linter.unusedVariables false
set_option linter.unusedSimpArgs false

/-- The song of moves. -/
def mvR : Rp := ⟨5, 0, 0, 0, 0, 512, false⟩
def mvS : Rp := ⟨0, 0, 0, 0, 0, 512, false⟩
def mvG (i : Nat) : Nat := if i = 0 then 196 else 16
def mvM : Nat → Nat := memS 0 512 mvG 2
theorem mv_list : ((Pl.new mvR).run mvM 4).1 = [(1, 512, 0), (1, 513, 0), (0, 0, 0), (2, 16, 5)] := by kernel_rfl
theorem mv_mem : ((Pl.new mvR).run mvM 4).2.2 16 = 5 := by kernel_rfl
theorem mv_pc : ((Pl.new mvR).run mvM 4).2.1.r.Pc = 514 := by kernel_rfl
theorem mvR_ok : mvR.Ok := ⟨by decide, by decide, by decide, by decide, by decide, by decide⟩
theorem field_pc (x0 x1 x2 x3 x4 x5 x6 : Value) (W : World) : Sem.run Tryz.prog (Instr.field 24 (.agg #[x0, x1, x2, x3, x4, x5, x6]) 5) W = .ok x5 W := by kernel_rfl
theorem moves_any (w : World) : Calls Tryz.prog 31 #[] w fun e w' => e = .returned (.bool true) ∧ Below w.heap.size w w' := by
  have HN : ∀ V, Calls Tryz.prog 23 #[.agg #[.int .u8 5, .int .u8 0, .int .u8 0, .int .u8 0, .int .u8 0, .int .u16 512, .bool false]] V fun e w' => ∃ P, e = .returned (.pointer (some ⟨P, 0, none⟩)) ∧ V.heap.size ≤ P ∧ Pk w' P (.slice none 0 0) (Pl.new mvR) ∧ Below V.heap.size V w' := fun V => new_any mvR V mvR_ok
  have HM : ∀ (V : World) (b : Nat), Whole V b 5 #[.int .u8 196, .int .u8 16] → Calls Tryz.prog 27 #[.agg #[.int .u8 0, .int .u8 0, .int .u8 0, .int .u8 0, .int .u8 0, .int .u16 512, .bool false, .slice (some ⟨b, 0, none⟩) 2 2, .int .u8 0]] V fun e w' => ∃ M, V.heap.size ≤ M ∧ e = .returned (.slice (some ⟨M, 0, none⟩) 65536 65536) ∧ Holds w' M 65536 mvM ∧ Below V.heap.size V w' := fun V b hb =>
    song_any mvS (some ⟨b, 0, none⟩) 2 2 0 mvG V ⟨fun i hi => by unfold mvG; split <;> decide, .inr ⟨b, 0, rfl, hb.lt, fun i hi => by
      rcases (show i = 0 ∨ i = 1 by omega) with rfl | rfl
      · exact hb.cell 0
      · exact hb.cell 1⟩⟩ (by decide) (by decide) (by decide) (by decide)
  have HR : ∀ (V : World) (P M : Nat), Pk V P (.slice none 0 0) (Pl.new mvR) → Holds V M 65536 mvM → Calls Tryz.prog 29 #[.pointer (some ⟨P, 0, none⟩), .slice (some ⟨M, 0, none⟩) 65536 65536, .int .i64 4] V fun e w' => e = .returned (.tuple #[.slice (some ⟨V.heap.size, 0, none⟩) 4 4, .int .i64 0]) ∧ ARow w' (some ⟨V.heap.size, 0, none⟩) ((Pl.new mvR).run mvM 4).1 ∧ Ply V P M (.slice none 0 0) ((Pl.new mvR).run mvM 4).2.1 ((Pl.new mvR).run mvM 4).2.2 w' := fun V P M h1 h2 => prun_any h1 65536 h2 (fun g hg => by cases hg) 4 (by decide)
  replace HN := Lib.hid HN
  replace HM := Lib.hid HM
  replace HR := Lib.hid HR
  go_enter Tryz.func31, Tryz.ntmps31
  go_wp2_with fail
  refine (HN.out _).mono ?_
  rintro e W1 ⟨P, rfl, hP, hk, hB1⟩
  have hX := Whole.fresh W1 5 #[.int .u8 196, .int .u8 16]
  have hB2 := hB1.alloc hB1.size (.cells #[.int .u8 196, .int .u8 16] 5)
  have hk2 := hk.keep (Fr.of ((Below.refl _ _).alloc (Nat.le_refl _) (.cells #[.int .u8 196, .int .u8 16] 5)))
  have HMc := Lib.hid (HM.out _ _ hX)
  replace hk2 := Lib.hid hk2
  replace hB2 := Lib.hid hB2
  clear hk hB1 hX HN HM
  go_wp2_with fail
  refine HMc.out.mono ?_
  rintro e W3 ⟨M, hMl, rfl, hM3, hB3⟩
  have hk3 := hk2.out.keep (Fr.of hB3)
  have hBw3 : Below w.heap.size w W3 := hB2.out.trans (hB3.mono hB2.out.size)
  have hMw : w.heap.size ≤ M := Nat.le_trans hB2.out.size hMl
  have HRc := Lib.hid (HR.out W3 P M hk3 hM3)
  replace hBw3 := Lib.hid hBw3
  replace hMw := Lib.hid hMw
  replace hP := Lib.hid hP
  clear hk3 hM3 hMl hB3 hB2 hk2 HMc HR
  go_wp2_with fail
  refine HRc.out.mono ?_
  rintro e W4 ⟨rfl, hA, sv4, h4, hM4, hF4, -, -⟩
  rw [mv_list] at hA
  obtain ⟨G, hG⟩ : ∃ G, W3.heap.size = G := ⟨_, rfl⟩
  rw [hG] at hA ⊢
  clear hG
  have hBw4 : Below w.heap.size w W4 := hBw3.out.trans (hF4.below hBw3.out.size (fun k hk => by
    rcases hk with hk | hk | hk
    · rw [hk]; exact hMw.out
    · rw [hk]; exact hP.out
    · cases hk))
  have q0 : W4.cell? ⟨G, 9, none⟩ = some (.int .u8 2) := (hA.at_ 3 (by decide)).1
  have q1 : W4.cell? ⟨G, 10, none⟩ = some (.int .u32 16) := (hA.at_ 3 (by decide)).2.1
  have q2 : W4.cell? ⟨G, 11, none⟩ = some (.int .u8 5) := (hA.at_ 3 (by decide)).2.2
  have m0 : W4.cell? ⟨M, 16, none⟩ = some (.int .u8 5) := by
    have e := hM4.cell 16 (by decide)
    rw [mv_mem] at e
    exact e
  have HP := pegs_any h4
  have hpc := mv_pc
  unfold pegV at HP
  generalize ((Pl.new mvR).run mvM 4).2.1.r = r4 at *
  rw [hpc] at HP
  simp only [show ((514 : Nat) : Int) = 514 from rfl] at HP
  replace HP := Lib.hid HP
  replace hBw4 := Lib.hid hBw4
  clear hA h4 hM4 hF4 hpc HRc hBw3 hMw hP
  go_wp2_with fail
  refine HP.out.mono ?_
  rintro e W5 ⟨rfl, hB5⟩
  have hfin := Lib.hid (hBw4.out.trans (hB5.mono hBw4.out.size))
  clear hB5 hBw4 HP q0 q1 q2 m0
  have hfl := field_pc (.int .u8 (r4.A : Nat)) (.int .u8 (r4.X : Nat)) (.int .u8 (r4.Y : Nat)) (.int .u8 (r4.S : Nat)) (.int .u8 (r4.P : Nat)) (.int .u16 514) (.bool r4.H)
  go_wp2_with fail
  go_ret
  exact ⟨rfl, hfin.out⟩
end Go.Proofs.YtknlbmjncginnaaGreatDoor
