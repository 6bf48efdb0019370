/-
  Accesses that are the same.
-/
import Derived.Test.YtknlbmjncginnaaGreatDoorPSm
import Derived.Lib.QuietBelow
namespace Go.Proofs.YtknlbmjncginnaaGreatDoor
open Go.RowKit Go.Shelf
set_option maxRecDepth 100000
set_option maxHeartbeats 2000000
set_option linter.unusedVariables false
set_option linter.unusedSimpArgs false

theorem psame_any {w : World} {a b : Option Addr} {l : List Ac} (c d n : Nat) (hn : l.length = n) (hn1 : n ≤ 140737488355328) (hA : ARow w a l) (hB : ARow w b l) :
    Calls Tryz.prog 30 #[.slice a n c, .slice b n d] w fun e w' => e = .returned (.bool true) ∧ Below w.heap.size w w' := by
  have hAA := Lib.hid hA
  have hBB := Lib.hid hB
  replace hn := Lib.hid hn
  clear hA hB
  go_enter Tryz.func30, Tryz.ntmps30
  go_wp2_with fail
  go_loopw [5] (fun s5 wr => ∃ k : Nat, k ≤ n ∧ s5 = .int .i64 k ∧ Below w.heap.size w wr) (fun s5 _ => n - (intOf s5).toNat)
  case atStart => exact ⟨0, by omega, by go_num, Below.refl _ _⟩
  case round =>
    obtain ⟨k, hk, rfl, hW⟩ := hrel
    by_cases hlt : k < n
    · have hlt' : k < l.length := by rw [hn.out]; exact hlt
      have hA2 := hAA.out.below hW
      have hB2 := hBB.out.below hW
      have hl0 : l ≠ [] := fun e => by rw [e] at hlt'; exact absurd hlt' (Nat.not_lt_zero _)
      obtain ⟨g, rfl⟩ := hA2.some hl0
      obtain ⟨g', rfl⟩ := hB2.some hl0
      obtain ⟨q0, q1, q2⟩ := hA2.at_ k hlt'
      obtain ⟨r0, r1, r2⟩ := hB2.at_ k hlt'
      generalize l[k] = x at *
      obtain ⟨xk, xa, xv⟩ := x
      dsimp only at q0 q1 q2 r0 r1 r2
      have hki : (k : Int) < (n : Int) := by omega
      replace hW := Lib.hid hW
      clear hA2 hB2 hl0 hlt' hAA hBB
      go_upto_region 6 with (fail)
      go_quiet (fail)
      have hW2 := below_drewN hW.out nq
      clear q0 q1 q2 r0 r1 r2 hW
      generalize wr.drewN nq = W3 at *
      replace hW2 := Lib.hid hW2
      go_wp2_with fail
      go_roundw
      case rel => exact ⟨k + 1, by omega, by go_num, hW2.out⟩
      case measure => simp [intOf]; omega
    · obtain rfl : k = n := by omega
      replace hW := Lib.hid hW
      clear hlt hk hAA hBB
      go_wp2_with fail
      go_ret
      exact ⟨rfl, hW.out⟩
end Go.Proofs.YtknlbmjncginnaaGreatDoor
