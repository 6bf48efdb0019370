/-
  SaveNil: the walk.
-/
import Derived.Test.YtacnmnodbmbplaaNilPut
import Derived.Deep.RegionHeld3
import Derived.BigQuiet
import Derived.Deep.DeepCutAuto
import Derived.Lib.QuietBelow
namespace Go.Proofs.Ytacnmnodbmbplaa
open Go.RowKit
set_option maxRecDepth 100000
set_option maxHeartbeats 1000000
namespace saveNil
theorem walk (what n : Int) (a : Option Addr) (len cap : Nat) (f : Nat → Nat) (w : World) (h : Row w a len f) (hl : len ≤ 140737488355328) :
    Calls Try.prog 7 #[putV what n a len cap] w fun e w' => e = .returned (.bool true) ∧ Below w.heap.size w w' := by
  have hP := Lib.hid (fun W (hR : Row W a len f) => puts_nil what n a len cap f W hR hl)
  have hT := Lib.hid (fun W => takes_nil what n a len cap W)
  have hB0 : Below w.heap.size w (w.alloc (.cells #[.int .i64 what, .int .i64 n, .slice a len cap] 32)) := (Below.refl _ w).alloc (Nat.le_refl _) _
  have hS := Whole.fresh w 32 #[.int .i64 what, .int .i64 n, .slice a len cap]
  have hR0 := h.below hB0
  unfold putV at *
  go_enter Try.func7, Try.ntmps7
  go_wp2_with fail
  generalize (w.alloc (.cells #[.int .i64 what, .int .i64 n, .slice a len cap] 32)) = W0 at *
  refine (hP.out _ hR0).mono ?_
  rintro e W1 ⟨rfl, hB⟩
  have hS1 := hS.below hB hS.lt
  have hB1 := hB0.trans (hB.mono hB0.size)
  clear hB hB0 hS hP hR0
  go_wp2_with fail
  refine (wdone_nil _).mono ?_
  rintro e W2 ⟨rfl, hB⟩
  have hS2 := hS1.below hB hS1.lt
  have hB2 := hB1.trans (hB.mono hB1.size)
  have c0 := hS2.cell 0
  have c1 := hS2.cell 1
  have c2 := hS2.cell 2
  simp only [List.getElem?_toArray, List.getElem?_cons_zero, List.getElem?_cons_succ] at c0 c1 c2
  clear hB hB1 hS1
  go_wp2_with fail
  refine (hT.out _).mono ?_
  rintro e W3 ⟨rfl, hB⟩
  have hB3 := hB2.trans (hB.mono hB2.size)
  have hT3 := Whole.fresh W3 50 #[.int .i64 0, .slice none 0 0, .int .i64 1]
  have hB4 := hB3.alloc hB3.size (.cells #[.int .i64 0, .slice none 0 0, .int .i64 1] 50)
  unfold tookNil
  clear c0 c1 c2 hB hB2 hS2 hT hB3
  have z0 := hT3.cell 0
  have z1 := hT3.cell 1
  have z2 := hT3.cell 2
  simp only [List.getElem?_toArray, List.getElem?_cons_zero, List.getElem?_cons_succ] at z0 z1 z2
  go_wp2_with (first
    | (go_at_call 22; refine (rleft_nil _).mono ?_; rintro e w' ⟨rfl, rfl⟩)
    | (go_at_call 24; refine (rdone_nil _).mono ?_; rintro e w' ⟨rfl, hBd⟩))
  go_ret
  exact ⟨rfl, hB4.trans (hBd.mono hB4.size)⟩
end saveNil
end Go.Proofs.Ytacnmnodbmbplaa
