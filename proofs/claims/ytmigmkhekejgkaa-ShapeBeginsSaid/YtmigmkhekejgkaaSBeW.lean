/-
  The walk of ShapeBegins.
-/
import Derived.Test.YtmigmkhekejgkaaSNse
import Derived.BigQuiet
import Derived.Deep.Cut
import Derived.Lib.QuietBelow
namespace Go.Proofs.Ytmigmkhekejgkaa.shapeBegins
open Go.RowKit Go.Shelf Go.Sort
set_option maxRecDepth 100000
set_option maxHeartbeats 1000000
set_option linter.unusedVariables false
set_option linter.unusedSimpArgs false

theorem below_of_eq {P : Program} {f : FuncId} {args : Array Value} {w : World} {v : Value} (h : Calls P f args w fun e w' => e = .returned v ∧ w' = w) : Calls P f args w fun e w' => e = .returned v ∧ Below w.heap.size w w' :=
  h.mono fun e w' h => ⟨h.1, h.2 ▸ Below.refl _ _⟩
theorem on_any (w : World) : Calls Try.prog 5 #[] w fun e w' => e = .returned (.agg #[.int .u8 1, .int .i64 0]) ∧ Below w.heap.size w w' := by
  have hB := Lib.hid (fun cs => (Below.refl w.heap.size w).alloc (Nat.le_refl _) (.cells cs 23))
  have hW := Lib.hid fun cs => Whole.fresh w 23 cs
  go_enter Try.func5, Try.ntmps5
  go_wp2_with fail
  refine bodyPost_ret (results_cell_row (fn := Try.f5) (p := 0) (ty := 23) rfl _ _ _ _ _ (0, 0) _ rfl (hW.out _) Try.underlying23 rfl (by kernel_rfl)) rfl ⟨?_, hB.out _⟩
  rfl
theorem off_any (w : World) (ph : Nat) (lv : Int) : Calls Try.prog 6 #[.agg #[.int .u8 (ph : Nat), .int .i64 lv]] w fun e w' => e = .returned (.agg #[.int .u8 0, .int .i64 (levF lv)]) ∧ Below w.heap.size w w' := by
  have HC := Lib.hid (fun W => clamp_any W lv)
  have hB := Lib.hid (fun cs ds => ((Below.refl w.heap.size w).alloc (Nat.le_refl _) (.cells cs 23)).alloc (Below.size ((Below.refl w.heap.size w).alloc (Nat.le_refl _) (.cells cs 23))) (.cells ds 23))
  have hW := Lib.hid fun cs ds => (show Whole ((w.alloc (.cells cs 23)).alloc (.cells ds 23)) (w.heap.size + 1) 23 ds from by
    have h := Whole.fresh (w.alloc (.cells cs 23)) 23 ds
    rwa [show (w.alloc (.cells cs 23)).heap.size = w.heap.size + 1 from Array.size_push _] at h)
  go_enter Try.func6, Try.ntmps6
  go_wp2_with fail
  refine (HC.out _).mono ?_
  rintro e w' ⟨rfl, rfl⟩
  go_wp2_with fail
  exact bodyPost_ret (results_cell_row (fn := Try.f6) (p := 2) (ty := 23) rfl _ _ _ _ _ (0, 0) _ rfl (hW.out _ _) Try.underlying23 rfl (by kernel_rfl)) rfl ⟨rfl, hB.out _ _⟩
theorem walk (ph : Nat) (lv : Int) (x : Nat) (w : World) (hph : ph < 256) (hx : x < 65536) : Calls Try.prog 3 #[.agg #[.int .u8 (ph : Nat), .int .i64 lv], .int .u16 (x : Nat)] w fun e w' => e = .returned (.bool true) ∧ Below w.heap.size w w' := by
  have H1 := Lib.hid (fun W => on_any W)
  have H2 := Lib.hid (fun W => off_any W ph lv)
  have H3 := Lib.hid (fun W => below_of_eq (rclamp_any W lv))
  have H4 := Lib.hid (fun W => below_of_eq (noise_any W x hx))
  have H5 := Lib.hid (fun W => below_of_eq (rnoise_any W x hx))
  have hS := Whole.fresh w 23 #[.int .u8 (ph : Nat), .int .i64 lv]
  have hB := (Below.refl w.heap.size w).alloc (Nat.le_refl _) (.cells #[.int .u8 (ph : Nat), .int .i64 lv] 23)
  have q0 := hS.cell 0
  have q1 := hS.cell 1
  simp only [List.getElem?_toArray, List.getElem?_cons_zero, List.getElem?_cons_succ] at q0 q1
  generalize levF lv = L at *
  generalize noiF x = z at *
  go_enter Try.func3, Try.ntmps3
  go_upto_region 1 with (fail)
  generalize w.alloc (.cells #[.int .u8 (ph : Nat), .int .i64 lv] 23) = W1 at *
  obtain ⟨S, hS0⟩ : ∃ S, w.heap.size = S := ⟨_, rfl⟩
  rw [hS0] at hB q0 q1 ⊢
  replace hB := Lib.hid hB
  clear hS
  refine wp_region_quiet_below (by kernel_rfl) (by kernel_rfl) ?_
  have z0 := cell_regrown q0
  have z1 := cell_regrown q1
  clear q0 q1
  repeat (go_big_quiet_step (first
    | (go_at_call 5; first | (with_reducible exact Calls.regrown_of (H1.out _)))
    | (go_at_call 6; first | (with_reducible exact Calls.regrown_of (H2.out _)))
    | (go_at_call 7; first | (with_reducible exact Calls.regrown_of (H3.out _)))
    | (go_at_call 8; first | (with_reducible exact Calls.regrown_of (H4.out _)))
    | (go_at_call 9; first | (with_reducible exact Calls.regrown_of (H5.out _)))))
  refine wpQuiet_nil ?_
  intro _ hw'
  obtain ⟨⟨dq, osq⟩, hw''⟩ := hw'
  subst hw''
  have hbl := below_regrown W1 dq osq
  have hBf := Lib.hid (hB.out.trans (hbl.mono (by rw [← hS0]; exact hB.out.size)))
  generalize Go.«Sort».grow (redrawn W1 dq) osq = V1 at *
  clear z0 z1 hbl
  go_wp2_with fail
  go_ret
  exact ⟨rfl, by rw [hS0]; exact hBf.out⟩
end Go.Proofs.Ytmigmkhekejgkaa.shapeBegins
