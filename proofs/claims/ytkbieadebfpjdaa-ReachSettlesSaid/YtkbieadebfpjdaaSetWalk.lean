/-
  ReachSettles: the walk.
-/
import Derived.Test.YtkbieadebfpjdaaLaw
import Derived.Lib.QuietBelow
import Derived.BigQuiet
namespace Go.Proofs.Ytkbieadebfpjdaa
open Go.RowKit Go.Shelf
set_option maxRecDepth 100000
set_option maxHeartbeats 4000000
set_option linter.unusedVariables false
namespace reachSettles
theorem walk (r : Rg) (n pa : Nat) (pb : Bool) (w : World) (hr : r.Ok) (hn : n < 4294967296) :
    Calls Try.prog 3 #[r.v, .int .u32 n, plV pa pb] w fun e w' => e = .returned (.bool true) ∧ Below w.heap.size w w' := by
  have HS1 := fun W => settle_any r W hr
  have HS2 := fun W => settle_any r.settle W hr.settle
  have HR1 := fun W => rsettle_any r W hr
  have HD1 := fun W => direct_any r n W hr hn
  have HD2 := fun W => rdirect_any r n W hr hn
  have HN1 := fun W => next_any pa pb W
  have HN2 := fun W => rnext_any pa pb W
  have HA := fun W => awake_any W
  rw [settle_twice hr] at HS2
  have hX := (Whole.fresh w 24 (rgC r.A r.X r.Y r.S r.D r.PC r.B r.K r.P r.E)).alloc (.cells #[.int .u32 pa, .bool pb] 27)
  have hY := Whole.fresh (w.alloc (.cells (rgC r.A r.X r.Y r.S r.D r.PC r.B r.K r.P r.E) 24)) 27 #[.int .u32 pa, .bool pb]
  have hB := ((Below.refl w.heap.size w).alloc (Nat.le_refl _) (.cells (rgC r.A r.X r.Y r.S r.D r.PC r.B r.K r.P r.E) 24)).alloc (by simp) (.cells #[.int .u32 pa, .bool pb] 27)
  rw [World.size_alloc] at hY
  obtain ⟨A, X, Y, S, D, PC, B, K, P, E⟩ := r
  generalize Rg.settle ⟨A, X, Y, S, D, PC, B, K, P, E⟩ = r2 at *
  obtain ⟨A2, X2, Y2, S2, D2, PC2, B2, K2, P2, E2⟩ := r2
  generalize directF _ n _ = d at *
  generalize nextF pa pb = nx at *
  unfold Rg.v rgC plV at *
  dsimp only at *
  have g0 := cell_regrown (show _ = some _ from hX.cell 0)
  have g1 := cell_regrown (show _ = some _ from hX.cell 1)
  have g2 := cell_regrown (show _ = some _ from hX.cell 2)
  have g3 := cell_regrown (show _ = some _ from hX.cell 3)
  have g4 := cell_regrown (show _ = some _ from hX.cell 4)
  have g5 := cell_regrown (show _ = some _ from hX.cell 5)
  have g6 := cell_regrown (show _ = some _ from hX.cell 6)
  have g7 := cell_regrown (show _ = some _ from hX.cell 7)
  have g8 := cell_regrown (show _ = some _ from hX.cell 8)
  have g9 := cell_regrown (show _ = some _ from hX.cell 9)
  have k0 := cell_regrown (show _ = some _ from hY.cell 0)
  have k1 := cell_regrown (show _ = some _ from hY.cell 1)
  replace HS1 := Lib.hid HS1
  replace HS2 := Lib.hid HS2
  replace HR1 := Lib.hid HR1
  replace HD1 := Lib.hid HD1
  replace HD2 := Lib.hid HD2
  replace HN1 := Lib.hid HN1
  replace HN2 := Lib.hid HN2
  replace HA := Lib.hid HA
  clear hX hY hr hn
  go_enter Try.func3, Try.ntmps3
  go_upto_region 1 with (fail)
  generalize (w.alloc (.cells #[.int .u16 A, .int .u16 X, .int .u16 Y, .int .u16 S, .int .u16 D, .int .u16 PC, .int .u8 B, .int .u8 K, .int .u8 P, .bool E] 24)).alloc (.cells #[.int .u32 pa, .bool pb] 27) = W1 at *
  refine wp_region_quiet_below (by kernel_rfl) (by kernel_rfl) ?_
  repeat (go_big_quiet_step (first
    | (go_at_call 5; with_reducible exact Calls.regrown_of (HS1.out _))
    | (go_at_call 5; with_reducible exact Calls.regrown_of (HS2.out _))
    | (go_at_call 6; with_reducible exact Calls.regrown_of (HR1.out _))
    | (go_at_call 7; with_reducible exact Calls.regrown_of (HD1.out _))
    | (go_at_call 8; with_reducible exact Calls.regrown_of (HD2.out _))
    | (go_at_call 9; with_reducible exact Calls.regrown_of (HN1.out _))
    | (go_at_call 10; with_reducible exact Calls.regrown_of (HN2.out _))
    | (go_at_call 11; with_reducible exact Calls.regrown_of (HA.out _))))
  refine wpQuiet_nil ?_
  intro _ hw'
  obtain ⟨⟨dq, osq⟩, hw''⟩ := hw'
  subst hw''
  have hBf := hB.trans ((below_regrown W1 dq osq).mono hB.size)
  clear HS1 HS2 HR1 HD1 HD2 HN1 HN2 HA g0 g1 g2 g3 g4 g5 g6 g7 g8 g9 k0 k1
  go_wp2_with fail
  go_ret
  exact ⟨rfl, hBf⟩
end reachSettles
end Go.Proofs.Ytkbieadebfpjdaa
