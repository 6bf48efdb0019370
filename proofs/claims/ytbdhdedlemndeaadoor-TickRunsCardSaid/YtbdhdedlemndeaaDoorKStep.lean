/-
  A cycle passes, by the code.
-/
import Derived.Test.YtbdhdedlemndeaaDoorKMem
import Derived.Deep.DeepCutAuto
import Derived.StillTailTactics
import Derived.BigQuiet
namespace Go.Proofs.YtbdhdedlemndeaaDoor
open Go.RowKit Go.Shelf
set_option maxRecDepth 100000
set_option maxHeartbeats 1000000
set_option linter.unusedVariables false

theorem kand15 : ∀ q : Nat, q < 256 → bits .and .u8 (q : Int) 15 = ((q % 16 : Nat) : Int) := by decide +kernel
/-- A period of a timer that is on passes. -/
def tickF (p : Nat) (f : Nat → Nat) : Nat → Nat :=
  if (f (p + 2) + 1) % 256 = f p then upd (upd f (p + 2) 0) (p + 3) ((f (p + 3) + 1) % 16) else upd f (p + 2) ((f (p + 2) + 1) % 256)
theorem upd_twice (f : Nat → Nat) (i x y : Nat) : upd (upd f i x) i y = upd f i y := by
  funext j
  unfold upd
  by_cases h : j = i
  · rw [if_pos h, if_pos h]
  · rw [if_neg h, if_neg h, if_neg h]
theorem tick_cell {b p : Nat} {f : Nat → Nat} (w : World) (h : Tq w b f) (hp : p + 3 < 23) :
    Calls Tryd.prog 50 #[.pointer (some ⟨b, p, none⟩)] w fun e w' => e = .returned (.tuple #[]) ∧ Tq w' b (tickF p f) ∧ w.grownBy w' (some b) := by
  have c0 := h.cell p (by omega)
  have c2 := h.cell (p + 2) (by omega)
  have c3 := h.cell (p + 3) (by omega)
  have f2 := h.free (p + 2)
  have f3 := h.free (p + 3)
  have x2 := h.byte (p + 2) (by omega)
  have x3 := h.byte (p + 3) (by omega)
  have h1 := h.put (p + 2) ((f (p + 2) + 1) % 256) (Nat.mod_lt _ (by decide))
  have d0 := h1.cell p (by omega)
  have d2 := h1.cell (p + 2) (by omega)
  have d3 := h1.cell (p + 3) (by omega)
  have g2 := h1.free (p + 2)
  rw [upd_other _ _ (by omega)] at d0 d3
  rw [upd_same] at d2
  have o1 : w.grownBy (w.setCell ⟨b, p + 2, none⟩ (.int .u8 ((f (p + 2) + 1) % 256 : Nat))) (some b) := only_set (grown_refl w b) _ _
  have e1 := Lib.hid (show IntKind.u8.wrap ((f (p + 2) : Int) + 1) = (((f (p + 2) + 1) % 256 : Nat) : Int) by simp only [IntKind.wrap_u8]; omega)
  have e1' := (show ((f (p + 2) : Int) + 1) % 256 = (((f (p + 2) + 1) % 256 : Nat) : Int) by omega)
  by_cases heq : (f (p + 2) + 1) % 256 = f p
  · have hT : tickF p f = upd (upd f (p + 2) 0) (p + 3) ((f (p + 3) + 1) % 16) := if_pos heq
    have t1 : ((((f (p + 2) + 1) % 256 : Nat) : Int) == (f p : Int)) = true := by rw [heq]; exact beq_self_eq_true _
    have h2 := h1.put (p + 2) 0 (by decide)
    rw [upd_twice] at h2
    have g3 := h1.free (p + 3)
    have h3 := h2.put (p + 3) ((f (p + 3) + 1) % 16) (by omega)
    have o3 := only_set (only_set o1 (p + 2) (.int .u8 ((0 : Nat) : Int))) (p + 3) (.int .u8 (((f (p + 3) + 1) % 16 : Nat) : Int))
    have e3 := (show bits .and .u8 (((f (p + 3) : Int) + 1) % 256) 15 = (((f (p + 3) + 1) % 16 : Nat) : Int) by
      rw [show ((f (p + 3) : Int) + 1) % 256 = (((f (p + 3) + 1) % 256 : Nat) : Int) by omega, kand15 _ (Nat.mod_lt _ (by decide))]
      congr 1
      omega)
    rw [hT]
    generalize f (p + 2) = A at *
    generalize (A + 1) % 256 = A1 at *
    generalize f (p + 3) = C at *
    generalize (C + 1) % 16 = C1 at *
    replace h3 := Lib.hid h3
    replace o3 := Lib.hid o3
    clear h h1 h2 o1 heq hT
    generalize upd (upd f (p + 2) 0) (p + 3) C1 = F at *
    generalize f p = T at *
    go_enter Tryd.func50, Tryd.ntmps50
    go_upto_region 1 with (fail)
    generalize w.setCell ⟨b, p + 2, none⟩ (.int .u8 (A1 : Nat)) = W at *
    go_wp2_with (first | go_quiet (fail))
    go_end0
    exact ⟨rfl, h3.out, ⟨o3.out.os, o3.out.tape, o3.out.output, o3.out.size, o3.out.block⟩⟩
  · have hT : tickF p f = upd f (p + 2) ((f (p + 2) + 1) % 256) := if_neg heq
    have t1 : ((((f (p + 2) + 1) % 256 : Nat) : Int) == (f p : Int)) = false := by
      refine beq_eq_false_iff_ne.2 (fun e => heq ?_)
      omega
    rw [hT]
    generalize f (p + 2) = A at *
    generalize (A + 1) % 256 = A1 at *
    replace h1 := Lib.hid h1
    replace o1 := Lib.hid o1
    clear h heq hT d3 c3
    generalize upd f (p + 2) A1 = F at *
    generalize f p = T at *
    go_enter Tryd.func50, Tryd.ntmps50
    go_upto_region 1 with (fail)
    generalize w.setCell ⟨b, p + 2, none⟩ (.int .u8 (A1 : Nat)) = W at *
    go_wp2_with (first | go_quiet (fail))
    go_end0
    exact ⟨rfl, h1.out, ⟨o1.out.os, o1.out.tape, o1.out.output, o1.out.size, o1.out.block⟩⟩
theorem pass_any {b p q : Nat} {f : Nat → Nat} {on : Bool} (w : World) (h : Tq w b f) (hp : p + 3 < 23) (hq : q ≤ 128) (hd : f (p + 1) < q) :
    Calls Tryd.prog 29 #[.pointer (some ⟨b, p, none⟩), .int .u8 (q : Nat), .bool on] w fun e w' => e = .returned (.tuple #[]) ∧ Tq w' b (passF p q on f) ∧ w.grownBy w' (some b) := by
  have c1 := h.cell (p + 1) (by omega)
  have f1 := h.free (p + 1)
  have h1 := h.put (p + 1) (f (p + 1) + 1) (by omega)
  have d1 := h1.cell (p + 1) (by omega)
  have g1 := h1.free (p + 1)
  rw [upd_same] at d1
  have o1 : w.grownBy (w.setCell ⟨b, p + 1, none⟩ (.int .u8 ((f (p + 1) + 1 : Nat) : Int))) (some b) := only_set (grown_refl w b) _ _
  have e1 : ((f (p + 1) + 1 : Nat) : Int) = (f (p + 1) : Int) + 1 := by omega
  rw [e1] at h1 d1 g1 o1
  have x1 : f (p + 1) < 128 := by omega
  clear e1
  by_cases hlt : f (p + 1) + 1 < q
  · have hT : passF p q on f = upd f (p + 1) (f (p + 1) + 1) := if_pos hlt
    have t1 : decide ((f (p + 1) : Int) + 1 < (q : Int)) = true := decide_eq_true (by omega)
    rw [hT]
    generalize hF : upd f (p + 1) (f (p + 1) + 1) = F at *
    clear hF
    generalize f (p + 1) = A at *
    replace h1 := Lib.hid h1
    replace o1 := Lib.hid o1
    clear h hlt hT
    go_enter Tryd.func29, Tryd.ntmps29
    go_upto_region 1 with (fail)
    generalize w.setCell ⟨b, p + 1, none⟩ (.int .u8 ((A : Int) + 1)) = W at *
    go_wp2_with fail
    exact bodyPost_ret (results_none rfl _ _ _) rfl ⟨rfl, h1.out, o1.out⟩
  · have t1 : decide ((f (p + 1) : Int) + 1 < (q : Int)) = false := decide_eq_false (by omega)
    have h2 := h1.put (p + 1) 0 (by decide)
    rw [upd_twice] at h2
    have o2 := only_set o1 (p + 1) (.int .u8 ((0 : Nat) : Int))
    cases on with
    | false =>
      have hT : passF p q false f = upd f (p + 1) 0 := by unfold passF; rw [if_neg hlt]; rfl
      rw [hT]
      replace h2 := Lib.hid h2
      replace o2 := Lib.hid o2
      clear h hlt hT h1 o1
      generalize upd f (p + 1) 0 = F at *
      generalize f (p + 1) = A at *
      go_enter Tryd.func29, Tryd.ntmps29
      go_upto_region 1 with (fail)
      generalize w.setCell ⟨b, p + 1, none⟩ (.int .u8 ((A : Int) + 1)) = W at *
      go_wp2_with fail
      go_end0
      exact ⟨rfl, h2.out, o2.out⟩
    | true =>
      have hT : passF p q true f = tickF p (upd f (p + 1) 0) := by
        unfold passF tickF
        rw [if_neg hlt, upd_other _ _ (by omega), upd_other _ _ (by omega), upd_other _ _ (by omega)]
        rfl
      rw [hT]
      have HK := Lib.hid fun W (hW : Tq W b (upd f (p + 1) 0)) => tick_cell W hW hp
      generalize tickF p (upd f (p + 1) 0) = G at *
      replace h2 := Lib.hid h2
      replace o2 := Lib.hid o2
      clear h hlt hT h1 o1
      generalize upd f (p + 1) 0 = F at *
      generalize f (p + 1) = A at *
      go_enter Tryd.func29, Tryd.ntmps29
      go_upto_region 1 with (fail)
      generalize w.setCell ⟨b, p + 1, none⟩ (.int .u8 ((A : Int) + 1)) = W at *
      go_wp2_with fail
      refine (HK.out _ h2.out).mono ?_
      rintro e W2 ⟨rfl, hT2, hg⟩
      replace hT2 := Lib.hid hT2
      have hg2 := Lib.hid (grown_trans o2.out hg)
      clear hg h2 o2 HK
      go_wp2_with fail
      go_end0
      exact ⟨rfl, hT2.out, hg2.out⟩
theorem on_any (k : Nat) (hk : k < 3) (w : World) : Calls Tryd.prog 30 #[.int .i64 (k : Nat)] w fun e w' => e = .returned (.int .u8 ((2 ^ k : Nat) : Int)) ∧ w' = w := by
  rcases (show k = 0 ∨ k = 1 ∨ k = 2 by omega) with rfl | rfl | rfl
  all_goals
    go_enter Tryd.func30, Tryd.ntmps30
    go_wp2_with fail
    go_ret
    exact ⟨rfl, rfl⟩
/-- A Tick beside the table of periods. -/
structure Ts (w : World) (b : Nat) (f : Nat → Nat) : Prop where
  tq : Tq w b f
  pd : Pd w
  ne : b ≠ 0
  good : GoodT f
theorem kbit : ∀ q : Nat, q < 256 → (bits .and .u8 (q : Int) 1 != 0) = (q / 2 ^ 0 % 2 == 1) ∧ (bits .and .u8 (q : Int) 2 != 0) = (q / 2 ^ 1 % 2 == 1) ∧ (bits .and .u8 (q : Int) 4 != 0) = (q / 2 ^ 2 % 2 == 1) := by decide +kernel
end Go.Proofs.YtbdhdedlemndeaaDoor
