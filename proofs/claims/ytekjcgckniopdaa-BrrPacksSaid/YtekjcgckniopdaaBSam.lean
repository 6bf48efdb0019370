/-
  A course goes on: its samples, the nearest nibble.
-/
import Derived.Test.YtekjcgckniopdaaBCrs
namespace Go.Proofs.Ytekjcgckniopdaa
open Go.RowKit Go.Shelf
set_option maxRecDepth 100000
set_option maxHeartbeats 2000000
set_option linter.unusedVariables false
set_option linter.unusedSimpArgs false

/-- A course in memory. -/
def Crs (w : World) (b : Nat) (p q : Int) (sh f : Nat) : Prop := Whole w b 78 #[.int .i64 p, .int .i64 q, .int .u8 (sh : Nat), fnV f]
theorem below_of_eq {P : Program} {f : FuncId} {args : Array Value} {w : World} {v : Value} (h : Calls P f args w fun e w' => e = .returned v ∧ w' = w) : Calls P f args w fun e w' => e = .returned v ∧ Below w.heap.size w w' :=
  h.mono fun e w' h => ⟨h.1, h.2 ▸ Below.refl _ _⟩
theorem sample_any (w : World) (b : Nat) (p q : Int) (sh f : Nat) (n fo : Int) (h : Crs w b p q sh f) (h1 : -8 ≤ n) (h2 : n ≤ 7) (hs : sh < 256) (hf1 : -200000 ≤ fo) (hf2 : fo ≤ 200000) :
    Calls Try.prog 47 #[.pointer (some ⟨b, 0, none⟩), .int .i64 n, .int .i64 fo] w fun e w' => e = .returned (.int .i64 (clampF (scaleF sh n + fo))) ∧ w' = w := by
  have H1 := Lib.hid (scaled_any w n sh h1 h2 hs)
  have H2 := Lib.hid (clamp_any w (scaleF sh n + fo))
  have hb := scaleF_bnd sh n h1 h2
  have hw : wrap64 (scaleF sh n + fo) = scaleF sh n + fo := w64 _ (by omega) (by omega)
  have x2 := Whole.cell h 2
  simp only [List.getElem?_toArray, List.getElem?_cons_zero, List.getElem?_cons_succ] at x2
  clear h hb hf1 hf2 h1 h2
  generalize hz : clampF (scaleF sh n + fo) = z at *
  replace hz := Lib.hid hz
  go_enter Try.func47, Try.ntmps47
  go_wp2_with fail
  refine H1.out.mono ?_
  rintro e w' ⟨rfl, rfl⟩
  go_wp2_with fail
  first | rw [hw] | skip
  refine H2.out.mono ?_
  rintro e w' ⟨rfl, rfl⟩
  clear hw H1 H2 x2
  go_wp2_with fail
  go_ret
  exact ⟨rfl, rfl⟩
theorem callFunc_enter {P : Program} {f : FuncId} {fn : Func} {c : Code} (hf : P.funcs[f]? = some fn) (hname : (fn.name == "runtime.NumGoroutine") = false) (hb : fn.body = some c) (args : Array Value) (w : World) :
    (callFunc f args).run P w = .ok (.enter f args) w := by
  have h1 : fn.name ≠ "runtime.NumGoroutine" := by simpa using hname
  simp [callFunc, hf, h1, hb]
theorem fore_enter (f : Nat) (hf : f < 4) (args : Array Value) (w : World) : (callFunc (fnN f) args).run Try.prog w = .ok (.enter (fnN f) args) w := by
  rcases (show f = 0 ∨ f = 1 ∨ f = 2 ∨ f = 3 by omega) with rfl | rfl | rfl | rfl
  · exact callFunc_enter Try.func51 (by kernel_rfl) rfl args w
  · exact callFunc_enter Try.func52 (by kernel_rfl) rfl args w
  · exact callFunc_enter Try.func54 (by kernel_rfl) rfl args w
  · exact callFunc_enter Try.func55 (by kernel_rfl) rfl args w
theorem pass_any (w : World) (b : Nat) (p q : Int) (sh f : Nat) (n : Int) (h : Crs w b p q sh f) (h1 : -8 ≤ n) (h2 : n ≤ 7) (hs : sh < 256) (hf : f < 4) (hp : Smp p) (hq : Smp q) :
    Calls Try.prog 39 #[.pointer (some ⟨b, 0, none⟩), .int .i64 n] w fun e w' => e = .returned (.int .i64 (sampF sh f p q n)) ∧ Crs w' b (sampF sh f p q n) p sh f ∧ w.grownBy w' (some b) := by
  have HF := Lib.hid fun W => fore_any W f p q hp hq hf
  have hfb := foreF_bnd f p q hp hq
  have HS := Lib.hid fun (W : World) (hC : Crs W b p q sh f) => below_of_eq (sample_any W b p q sh f n (foreF f p q) hC h1 h2 hs hfb.1 hfb.2)
  have hX : clampF (scaleF sh n + foreF f p q) = sampF sh f p q n := rfl
  rw [hX] at HS
  have hH := Lib.hid h
  have x0 := Whole.cell h 0
  have x1 := Whole.cell h 1
  have x3 := Whole.cell h 3
  simp only [List.getElem?_toArray, List.getElem?_cons_zero, List.getElem?_cons_succ] at x0 x1 x3
  have hlt : b < w.heap.size := Whole.lt h
  unfold fnV at x3
  have hEn := fore_enter f hf
  generalize hfo : foreF f p q = fo at *
  generalize hz : sampF sh f p q n = z at *
  generalize hfn : fnN f = fn at *
  replace hz := Lib.hid hz
  replace hfn := Lib.hid hfn
  clear h h1 h2 hs hf hfb hp hq hfo hX
  go_enter Try.func39, Try.ntmps39
  go_upto_region 1 with (fail)
  refine wp_region_quiet_below (by kernel_rfl) (by kernel_rfl) ?_
  have z0 := cell_regrown x0
  have z1 := cell_regrown x1
  have z3 := cell_regrown x3
  have HB := Lib.hid fun (d : Nat) (os : Array Obj) => (show Crs (Go.«Sort».grow (redrawn w d) os) b p q sh f from Whole.below hH.out (below_regrown w d os) hlt)
  clear x0 x1 x3
  repeat (go_big_quiet_step (first
    | (go_at_call 47; first | (with_reducible exact Calls.regrown_of (HS.out _ (HB.out _ _))))
    | (first | (with_reducible exact Calls.regrown_of (HF.out _)) | (with_reducible exact ⟨rfl, Calls.regrown_of (HF.out _)⟩))))
  refine wpQuiet_nil ?_
  intro _ hw'
  obtain ⟨⟨dq, osq⟩, hw''⟩ := hw'
  subst hw''
  have hB := below_regrown w dq osq
  have hC := HB.out dq osq
  generalize Go.«Sort».grow (redrawn w dq) osq = V1 at *
  clear z0 z1 z3 HB HF HS hEn
  have y0 := Whole.cell hC 0
  have y1 := Whole.cell hC 1
  have fr := Whole.free hC
  have hW := Lib.hid (((Whole.put hC 0 (.int .i64 z)).put 1 (.int .i64 p)).as (ds := #[.int .i64 z, .int .i64 p, .int .u8 (sh : Nat), fnV f]) rfl)
  have hG := Lib.hid (only_set (only_set (Below.only hB b) 0 (.int .i64 z)) 1 (.int .i64 p))
  generalize hV : (V1.setCell ⟨b, 0, none⟩ (.int .i64 z)).setCell ⟨b, 1, none⟩ (.int .i64 p) = V2 at *
  replace hV := Lib.hid hV
  replace hB := Lib.hid hB
  replace hH := Lib.hid hC
  simp only [List.getElem?_toArray, List.getElem?_cons_zero, List.getElem?_cons_succ] at y0 y1
  clear hC
  go_wp2_with fail
  rw [hV.out]
  clear y0 y1 fr hV
  go_wp2_with fail
  go_ret
  exact ⟨rfl, hW.out, hG.out⟩
end Go.Proofs.Ytekjcgckniopdaa
