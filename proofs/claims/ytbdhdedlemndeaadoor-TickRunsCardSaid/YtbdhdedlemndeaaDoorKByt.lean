/-
  The document's bytes of a state (genkbyt.py writes this text).
-/
import Derived.Test.YtbdhdedlemndeaaDoorKInv
import Derived.Test.YtbdhdedlemndeaaDoorKMay
import Derived.Deep.QuietTactic
import Derived.BigQuiet
import Derived.StillTailTactics
import Derived.Deep.RegionHeld3
namespace Go.Proofs.YtbdhdedlemndeaaDoor
open Go.RowKit Go.Shelf
set_option maxRecDepth 1000000
set_option maxHeartbeats 4000000
set_option linter.unusedVariables false
set_option linter.unusedSimpArgs false

/-- append where its run is known, as one step of a region that draws. -/
theorem step_append_ran {P : Program} {ops : Array Oper} {o : Oper} {a : Act} {w w' : World} {K : Act → World → Prop} {Q : Exit → Act → World → Prop} {E : Prop}
    (hgd : o.guard = none) (s x : Operand) (t : TypeId) (ho : o.op = .call { callee := .builtin .append, args := #[s, x], argTypes := #[t, t] })
    (v u v' : Value) (hs : a.eval s = v) (hx : a.eval x = u) (hr : (Builtin.append_ #[t, t] o.type #[v, u]).run P w = .ok v' w') (hK : K (a.put o.dst v') w') :
    if Region.wanted o (yielded ops a.tmps) = true then Oper.wp P o a w K Q else E := by
  have hw : Region.wanted o (yielded ops a.tmps) = true := by simp [Region.wanted, hgd]
  rw [if_pos hw]
  unfold Oper.wp
  simp [execOp, ho, resolve, invoke, builtin, hs, hx, hr, Result.andThen]
  exact hK
def cN (f : Nat → Nat) : Nat → Nat
  | 0 => 0
  | 1 => f 0 % 2
  | 2 => f 0 % 4
  | _ => f 0 % 8
theorem cN_step (f : Nat → Nat) : (cN f 1 = if onF f 0 then cN f 0 + 1 else cN f 0) ∧ (cN f 2 = if onF f 1 then cN f 1 + 2 else cN f 1) ∧ (cN f 3 = if onF f 2 then cN f 2 + 4 else cN f 2) := by
  unfold onF cN
  simp only [beq_iff_eq]
  refine ⟨?_, ?_, ?_⟩ <;> (split <;> omega)
/-- The bytes so far. -/
structure By (w : World) (T : Nat) (f : Nat → Nat) (V : World) (v : Value) (n : Nat) : Prop where
  t : Whole V T 30 (docC f)
  own : Owns V v n f
  frm : From (T + 1) v
  bel : Below T w V
theorem By.drewN {w V : World} {T n : Nat} {f : Nat → Nat} {v : Value} (h : By w T f V v n) (q : Nat) : By w T f (V.drewN q) v n := ⟨h.t.drewN q, h.own, h.frm, below_drewN h.bel q⟩
theorem By.drew {w V : World} {T n : Nat} {f : Nat → Nat} {v : Value} (h : By w T f V v n) : By w T f V.drew v n := ⟨h.t.drew, h.own, h.frm, h.bel.drew⟩
/-- More bytes behind. -/
theorem by_more {w V : World} {T n : Nat} {f : Nat → Nat} {v : Value} (h : By w T f V v n) (m : Nat) (cs : Array Value) (hs : ∀ i, i < m → cs[i]? = some (.int .u8 (f (n + i) : Nat))) (hf : ∀ i, f i < 256) (hm : n + m ≤ 100) :
    ∃ v' w', (Builtin.append_ #[46, 46] 46 #[v, .slice (some ⟨V.heap.size, 0, none⟩) m m]).run Tryd.prog (V.alloc (.cells cs 5)) = .ok v' w' ∧ By w T f w' v' (n + m) := by
  have hW := Whole.fresh V 5 cs
  have hB : Below V.heap.size V (V.alloc (.cells cs 5)) := (Below.refl _ V).alloc (Nat.le_refl _) _
  have hT : T + 1 ≤ V.heap.size := h.t.lt
  have hR : Row (V.alloc (.cells cs 5)) (some ⟨V.heap.size, 0, none⟩) m (fun i => f (n + i)) := ⟨fun i _ => hf _, .inr ⟨_, 0, rfl, hW.lt, fun i hi => by rw [hW.cell, Nat.zero_add]; exact hs i hi⟩⟩
  obtain ⟨v', w', hr, hO, hF, hg⟩ := run_append_more (V.alloc (.cells cs 5)) 46 (T + 1) v n m m _ f _ (h.own.below hB) h.frm hR (by omega) (Nat.le_trans hT hB.size)
  have hB2 := h.frm.below hg (Nat.le_trans hT hB.size)
  refine ⟨v', w', hr, ⟨(h.t.below hB h.t.lt).below hB2 (Nat.lt_succ_self T), hO.congr (fun i hi => ?_), hF, (h.bel.trans (hB.mono (Nat.le_of_succ_le hT))).trans (hB2.mono (Nat.le_succ T))⟩⟩
  unfold bothSv
  split
  · rfl
  · show f i = f (n + (i - n))
    congr 1
    omega
theorem rbytes_any {f : Nat → Nat} (w : World) (hg : GoodT f) : Calls Tryd.prog 22 #[.agg (docC f)] w fun e w' => ∃ v, e = .returned v ∧ Owns w' v 23 f ∧ From w.heap.size v ∧ Below w.heap.size w w' := by
  have hS := Whole.fresh w 30 (docC f)
  have hB := (Below.refl w.heap.size w).alloc (Nat.le_refl _) (.cells (docC f) 30)
  obtain ⟨W, hW⟩ : ∃ W, w.alloc (.cells (docC f) 30) = W := ⟨_, rfl⟩
  obtain ⟨T, hTe⟩ : ∃ T, w.heap.size = T := ⟨_, rfl⟩
  have hsz : W.heap.size = T + 1 := by rw [← hW, alloc_size, hTe]
  rw [hW, hTe] at hS hB
  rw [hTe]
  have hby := hg.byte
  have hbits := hg.bits
  clear hg
  have h0 : ∀ v n, Owns W v n f → From (T + 1) v → By w T f W v n := fun v n a b => ⟨hS, a, b, hB⟩
  obtain ⟨s1, s2, s3⟩ := cN_step f
  have c0 := hS.cell 0
  rw [show (docC f)[0]? = some (.bool (onF f 0)) from rfl] at c0
  have c1 := hS.cell 1
  rw [show (docC f)[1]? = some (.bool (onF f 1)) from rfl] at c1
  have c2 := hS.cell 2
  rw [show (docC f)[2]? = some (.bool (onF f 2)) from rfl] at c2
  have c3 := hS.cell 3
  rw [show (docC f)[3]? = some (.bool (decide (128 ≤ f 0))) from rfl] at c3
  have hz : f 0 % 8 + (if decide (128 ≤ f 0) = true then 128 else 0) = f 0 := by
    have := hby 0
    by_cases h : 128 ≤ f 0
    · rw [if_pos (decide_eq_true h)]; omega
    · rw [if_neg (by simpa using h)]; omega
  have hx8 : f 0 % 8 < 8 := Nat.mod_lt _ (by decide)
  have hcz : cN f 3 = f 0 % 8 := rfl
  have hy0 : f 0 < 256 := hby 0
  have hwz : IntKind.u8.wrap (f 0 : Int) = (f 0 : Int) := by simp only [IntKind.wrap_u8]; omega
  generalize hdc : docC f = dc at hW ⊢
  replace hdc := Lib.hid hdc
  replace hTe := Lib.hid hTe
  replace hW := Lib.hid hW
  replace h0 := Lib.hid h0
  replace hS := Lib.hid hS
  replace hB := Lib.hid hB
  replace s1 := Lib.hid s1
  replace s2 := Lib.hid s2
  replace s3 := Lib.hid s3
  replace hz := Lib.hid hz
  replace hcz := Lib.hid hcz
  replace hby := Lib.hid hby
  replace hbits := Lib.hid hbits
  replace hwz := Lib.hid hwz
  replace c3 := Lib.hid c3
  replace hsz := Lib.hid hsz
  replace hy0 := Lib.hid hy0
  go_enter Tryd.func22, Tryd.ntmps22
  go_upto_region 3 with (fail)
  rw [hW.out, hTe.out]
  go_loopw [3, 4] (fun s3 s4 wr => ∃ k : Nat, k ≤ 3 ∧ s4 = .int .i64 k ∧ s3 = .int .i64 (cN f k : Nat) ∧ W = wr) (fun _ s4 _ => 3 - (intOf s4).toNat)
  case atStart => exact ⟨0, Nat.zero_le _, rfl, rfl, rfl⟩
  case round =>
    obtain ⟨k, hk, rfl, rfl, rfl⟩ := hrel
    rcases (show k = 0 ∨ k = 1 ∨ k = 2 ∨ k = 3 by omega) with rfl | rfl | rfl | rfl
    · have hl : IntKind.i64.wrap ((1 : Int) * 2 ^ 0) = 1 := by decide
      have hcx : cN f 0 ≤ 7 := by show 0 ≤ 7; omega
      have hst := s1.out
      have e1 : IntKind.i64.wrap ((cN f 0 : Int) + 1) = (cN f 0 : Int) + 1 := by simp only [IntKind.wrap_i64]; omega
      generalize cN f 0 = X at *
      generalize onF f 0 = on at *
      cases on with
      | true =>
        replace hst : cN f 1 = X + 1 := hst
        replace hst := Lib.hid hst
        clear hk
        go_wp2_with fail
        exact ⟨⟨1, by decide, rfl, by rw [hst.out]; rfl, by trivial⟩, by simp only [intOf]; omega⟩
      | false =>
        replace hst : cN f 1 = X := hst
        replace hst := Lib.hid hst
        clear hk e1
        go_wp2_with fail
        exact ⟨⟨1, by decide, rfl, by rw [hst.out], by trivial⟩, by simp only [intOf]; omega⟩
    · have hl : IntKind.i64.wrap ((1 : Int) * 2 ^ 1) = 2 := by decide
      have hcx : cN f 1 ≤ 7 := by show f 0 % 2 ≤ 7; omega
      have hst := s2.out
      have e1 : IntKind.i64.wrap ((cN f 1 : Int) + 2) = (cN f 1 : Int) + 2 := by simp only [IntKind.wrap_i64]; omega
      generalize cN f 1 = X at *
      generalize onF f 1 = on at *
      cases on with
      | true =>
        replace hst : cN f 2 = X + 2 := hst
        replace hst := Lib.hid hst
        clear hk
        go_wp2_with fail
        exact ⟨⟨2, by decide, rfl, by rw [hst.out]; rfl, by trivial⟩, by simp only [intOf]; omega⟩
      | false =>
        replace hst : cN f 2 = X := hst
        replace hst := Lib.hid hst
        clear hk e1
        go_wp2_with fail
        exact ⟨⟨2, by decide, rfl, by rw [hst.out], by trivial⟩, by simp only [intOf]; omega⟩
    · have hl : IntKind.i64.wrap ((1 : Int) * 2 ^ 2) = 4 := by decide
      have hcx : cN f 2 ≤ 7 := by show f 0 % 4 ≤ 7; omega
      have hst := s3.out
      have e1 : IntKind.i64.wrap ((cN f 2 : Int) + 4) = (cN f 2 : Int) + 4 := by simp only [IntKind.wrap_i64]; omega
      generalize cN f 2 = X at *
      generalize onF f 2 = on at *
      cases on with
      | true =>
        replace hst : cN f 3 = X + 4 := hst
        replace hst := Lib.hid hst
        clear hk
        go_wp2_with fail
        exact ⟨⟨3, by decide, rfl, by rw [hst.out]; rfl, by trivial⟩, by simp only [intOf]; omega⟩
      | false =>
        replace hst : cN f 3 = X := hst
        replace hst := Lib.hid hst
        clear hk e1
        go_wp2_with fail
        exact ⟨⟨3, by decide, rfl, by rw [hst.out], by trivial⟩, by simp only [intOf]; omega⟩
    · rw [hcz.out]
      clear hk c0 c1 c2
      have hzz := hz.out
      have c3' := c3.out
      generalize decide (128 ≤ f 0) = sh at *
      generalize f 0 % 8 = X at *
      go_upto_if 22 with (fail)
      go_cut [3] (fun s3 V => s3 = .int .i64 (f 0 : Nat) ∧ W = V)
      case first =>
        cases sh with
        | true =>
          replace hzz : X + 128 = f 0 := hzz
          have e1 : IntKind.i64.wrap ((X : Int) + 128) = (X : Int) + 128 := by simp only [IntKind.wrap_i64]; omega
          replace hzz := Lib.hid hzz
          go_wp2_with fail
          go_meet
          exact ⟨by rw [← hzz.out]; rfl, by trivial⟩
        | false =>
          replace hzz : X + 0 = f 0 := hzz
          replace hzz := Lib.hid hzz
          go_wp2_with fail
          go_meet
          exact ⟨by rw [← hzz.out]; rfl, by trivial⟩
      case rest =>
        obtain ⟨rfl, rfl⟩ := hcut
        have hwz' := hwz.out
        have hO0 : Owns (W.alloc (.cells #[.int .u8 (f 0 : Nat)] 5)) (.slice (some ⟨W.heap.size, 0, none⟩) 1 1) 1 f := ⟨fun i _ => hby.out i, .inr ⟨W.heap.size, 1, _, rfl, Whole.fresh W 5 _, Nat.le_refl _, by unfold maxLen; omega, rfl, fun i hi => by
          obtain rfl : i = 0 := by omega
          rfl⟩⟩
        have hF0 : From (T + 1) (.slice (some ⟨W.heap.size, 0, none⟩) 1 1) := fun x hx => by (have hx : some W.heap.size = some x := hx); cases hx; rw [hsz.out]; exact Nat.le_refl _
        have hBy0 : By w T f (W.alloc (.cells #[.int .u8 (f 0 : Nat)] 5)) (.slice (some ⟨W.heap.size, 0, none⟩) 1 1) (1 + 4 * 0) := ⟨hS.out.alloc _, hO0, hF0, hB.out.alloc (by rw [hsz.out]; omega) _⟩
        replace hBy0 := Lib.hid hBy0
        clear hO0 hF0 hzz
        go_upto_region 11 with (fail)
        go_loopw [5, 6] (fun s5 s6 wr => ∃ k : Nat, k ≤ 3 ∧ s6 = .int .i64 k ∧ Hid (By w T f wr s5 (1 + 4 * k))) (fun _ s6 _ => 3 - (intOf s6).toNat)
        case atStart => exact ⟨0, Nat.zero_le _, rfl, hBy0⟩
        case round =>
          obtain ⟨k, hk, rfl, hH⟩ := hrel
          obtain ⟨wo, rfl⟩ : ∃ wo, wo = wr := ⟨_, rfl⟩
          clear hBy0 hwz'
          rcases (show k = 0 ∨ k = 1 ∨ k = 2 ∨ k = 3 by omega) with rfl | rfl | rfl | rfl
          · have hD := hH.out
            have c4 := hD.t.cell 4
            rw [show (docC f)[4]? = some (.int .i64 (f 1 : Nat)) from rfl] at c4
            have e4 : IntKind.u8.wrap (f 1 : Int) = (f 1 : Int) := by have := hby.out 1; simp only [IntKind.wrap_u8]; omega
            have c7 := hD.t.cell 7
            rw [show (docC f)[7]? = some (.int .i64 (f 2 : Nat)) from rfl] at c7
            have e7 : IntKind.u8.wrap (f 2 : Int) = (f 2 : Int) := by have := hby.out 2; simp only [IntKind.wrap_u8]; omega
            have c10 := hD.t.cell 10
            rw [show (docC f)[10]? = some (.int .i64 (f 3 : Nat)) from rfl] at c10
            have e10 : IntKind.u8.wrap (f 3 : Int) = (f 3 : Int) := by have := hby.out 3; simp only [IntKind.wrap_u8]; omega
            have c13 := hD.t.cell 13
            rw [show (docC f)[13]? = some (.int .i64 (f 4 : Nat)) from rfl] at c13
            have e13 : IntKind.u8.wrap (f 4 : Int) = (f 4 : Int) := by have := hby.out 4; simp only [IntKind.wrap_u8]; omega
            clear hk hH
            go_upto_region 13 with (fail)
            obtain ⟨v', w', hr, hN⟩ := by_more hD.drew 4 #[.int .u8 (f 1 : Nat), .int .u8 (f 2 : Nat), .int .u8 (f 3 : Nat), .int .u8 (f 4 : Nat)] (fun i hi => by
              rcases (show i = 0 ∨ i = 1 ∨ i = 2 ∨ i = 3 by omega) with rfl | rfl | rfl | rfl <;> rfl) hby.out (by omega)
            have hS5 : w'.cell? ⟨T, 4, none⟩ = some (.int .i64 (f 1 : Nat)) ∧ w'.cell? ⟨T, 7, none⟩ = some (.int .i64 (f 2 : Nat)) ∧ w'.cell? ⟨T, 10, none⟩ = some (.int .i64 (f 3 : Nat)) ∧ w'.cell? ⟨T, 13, none⟩ = some (.int .i64 (f 4 : Nat)) := ⟨(hN.t.cell 4).trans rfl, (hN.t.cell 7).trans rfl, (hN.t.cell 10).trans rfl, (hN.t.cell 13).trans rfl⟩
            replace hN := Lib.hid hN
            have nn := World.new_ne _ _ c4
            have nn1 := World.new_ne _ _ c7
            have nn2 := World.new_ne _ _ c10
            have nn3 := World.new_ne _ _ c13
            clear hD
            go_region_held3 (fun W => W.cell? ⟨T, 4, none⟩ = some (.int .i64 (f 1 : Nat)) ∧ W.cell? ⟨T, 7, none⟩ = some (.int .i64 (f 2 : Nat)) ∧ W.cell? ⟨T, 10, none⟩ = some (.int .i64 (f 3 : Nat)) ∧ W.cell? ⟨T, 13, none⟩ = some (.int .i64 (f 4 : Nat))) (first | (with_reducible exact hS5) | go_keep)
              (refine step_append_ran rfl _ _ 46 (by rfl) _ _ _ (by rfl) (by rfl) hr ?_)
            all_goals
              go_wp2_with fail
              first
                | exact ⟨⟨1, by decide, rfl, hN⟩, by simp only [intOf]; omega⟩
                | exact ⟨⟨_, _, _, _, _, _, _, _, _, _, _, _, _, _, _, _, _, _, _, _, _, _, _, _, _, _, _, _, _, ⟨1, by decide, rfl, hN⟩, rfl⟩, by show 3 - 1 < 3 - 0; decide⟩
          · have hD := hH.out
            have c5 := hD.t.cell 5
            rw [show (docC f)[5]? = some (.int .i64 (f 5 : Nat)) from rfl] at c5
            have e5 : IntKind.u8.wrap (f 5 : Int) = (f 5 : Int) := by have := hby.out 5; simp only [IntKind.wrap_u8]; omega
            have c8 := hD.t.cell 8
            rw [show (docC f)[8]? = some (.int .i64 (f 6 : Nat)) from rfl] at c8
            have e8 : IntKind.u8.wrap (f 6 : Int) = (f 6 : Int) := by have := hby.out 6; simp only [IntKind.wrap_u8]; omega
            have c11 := hD.t.cell 11
            rw [show (docC f)[11]? = some (.int .i64 (f 7 : Nat)) from rfl] at c11
            have e11 : IntKind.u8.wrap (f 7 : Int) = (f 7 : Int) := by have := hby.out 7; simp only [IntKind.wrap_u8]; omega
            have c14 := hD.t.cell 14
            rw [show (docC f)[14]? = some (.int .i64 (f 8 : Nat)) from rfl] at c14
            have e14 : IntKind.u8.wrap (f 8 : Int) = (f 8 : Int) := by have := hby.out 8; simp only [IntKind.wrap_u8]; omega
            clear hk hH
            go_upto_region 13 with (fail)
            obtain ⟨v', w', hr, hN⟩ := by_more hD.drew 4 #[.int .u8 (f 5 : Nat), .int .u8 (f 6 : Nat), .int .u8 (f 7 : Nat), .int .u8 (f 8 : Nat)] (fun i hi => by
              rcases (show i = 0 ∨ i = 1 ∨ i = 2 ∨ i = 3 by omega) with rfl | rfl | rfl | rfl <;> rfl) hby.out (by omega)
            have hS5 : w'.cell? ⟨T, 5, none⟩ = some (.int .i64 (f 5 : Nat)) ∧ w'.cell? ⟨T, 8, none⟩ = some (.int .i64 (f 6 : Nat)) ∧ w'.cell? ⟨T, 11, none⟩ = some (.int .i64 (f 7 : Nat)) ∧ w'.cell? ⟨T, 14, none⟩ = some (.int .i64 (f 8 : Nat)) := ⟨(hN.t.cell 5).trans rfl, (hN.t.cell 8).trans rfl, (hN.t.cell 11).trans rfl, (hN.t.cell 14).trans rfl⟩
            replace hN := Lib.hid hN
            have nn := World.new_ne _ _ c5
            have nn1 := World.new_ne _ _ c8
            have nn2 := World.new_ne _ _ c11
            have nn3 := World.new_ne _ _ c14
            clear hD
            go_region_held3 (fun W => W.cell? ⟨T, 5, none⟩ = some (.int .i64 (f 5 : Nat)) ∧ W.cell? ⟨T, 8, none⟩ = some (.int .i64 (f 6 : Nat)) ∧ W.cell? ⟨T, 11, none⟩ = some (.int .i64 (f 7 : Nat)) ∧ W.cell? ⟨T, 14, none⟩ = some (.int .i64 (f 8 : Nat))) (first | (with_reducible exact hS5) | go_keep)
              (refine step_append_ran rfl _ _ 46 (by rfl) _ _ _ (by rfl) (by rfl) hr ?_)
            all_goals
              go_wp2_with fail
              first
                | exact ⟨⟨2, by decide, rfl, hN⟩, by simp only [intOf]; omega⟩
                | exact ⟨⟨_, _, _, _, _, _, _, _, _, _, _, _, _, _, _, _, _, _, _, _, _, _, _, _, _, _, _, _, _, ⟨2, by decide, rfl, hN⟩, rfl⟩, by show 3 - 2 < 3 - 1; decide⟩
          · have hD := hH.out
            have c6 := hD.t.cell 6
            rw [show (docC f)[6]? = some (.int .i64 (f 9 : Nat)) from rfl] at c6
            have e6 : IntKind.u8.wrap (f 9 : Int) = (f 9 : Int) := by have := hby.out 9; simp only [IntKind.wrap_u8]; omega
            have c9 := hD.t.cell 9
            rw [show (docC f)[9]? = some (.int .i64 (f 10 : Nat)) from rfl] at c9
            have e9 : IntKind.u8.wrap (f 10 : Int) = (f 10 : Int) := by have := hby.out 10; simp only [IntKind.wrap_u8]; omega
            have c12 := hD.t.cell 12
            rw [show (docC f)[12]? = some (.int .i64 (f 11 : Nat)) from rfl] at c12
            have e12 : IntKind.u8.wrap (f 11 : Int) = (f 11 : Int) := by have := hby.out 11; simp only [IntKind.wrap_u8]; omega
            have c15 := hD.t.cell 15
            rw [show (docC f)[15]? = some (.int .i64 (f 12 : Nat)) from rfl] at c15
            have e15 : IntKind.u8.wrap (f 12 : Int) = (f 12 : Int) := by have := hby.out 12; simp only [IntKind.wrap_u8]; omega
            clear hk hH
            go_upto_region 13 with (fail)
            obtain ⟨v', w', hr, hN⟩ := by_more hD.drew 4 #[.int .u8 (f 9 : Nat), .int .u8 (f 10 : Nat), .int .u8 (f 11 : Nat), .int .u8 (f 12 : Nat)] (fun i hi => by
              rcases (show i = 0 ∨ i = 1 ∨ i = 2 ∨ i = 3 by omega) with rfl | rfl | rfl | rfl <;> rfl) hby.out (by omega)
            have hS5 : w'.cell? ⟨T, 6, none⟩ = some (.int .i64 (f 9 : Nat)) ∧ w'.cell? ⟨T, 9, none⟩ = some (.int .i64 (f 10 : Nat)) ∧ w'.cell? ⟨T, 12, none⟩ = some (.int .i64 (f 11 : Nat)) ∧ w'.cell? ⟨T, 15, none⟩ = some (.int .i64 (f 12 : Nat)) := ⟨(hN.t.cell 6).trans rfl, (hN.t.cell 9).trans rfl, (hN.t.cell 12).trans rfl, (hN.t.cell 15).trans rfl⟩
            replace hN := Lib.hid hN
            have nn := World.new_ne _ _ c6
            have nn1 := World.new_ne _ _ c9
            have nn2 := World.new_ne _ _ c12
            have nn3 := World.new_ne _ _ c15
            clear hD
            go_region_held3 (fun W => W.cell? ⟨T, 6, none⟩ = some (.int .i64 (f 9 : Nat)) ∧ W.cell? ⟨T, 9, none⟩ = some (.int .i64 (f 10 : Nat)) ∧ W.cell? ⟨T, 12, none⟩ = some (.int .i64 (f 11 : Nat)) ∧ W.cell? ⟨T, 15, none⟩ = some (.int .i64 (f 12 : Nat))) (first | (with_reducible exact hS5) | go_keep)
              (refine step_append_ran rfl _ _ 46 (by rfl) _ _ _ (by rfl) (by rfl) hr ?_)
            all_goals
              go_wp2_with fail
              first
                | exact ⟨⟨3, by decide, rfl, hN⟩, by simp only [intOf]; omega⟩
                | exact ⟨⟨_, _, _, _, _, _, _, _, _, _, _, _, _, _, _, _, _, _, _, _, _, _, _, _, _, _, _, _, _, ⟨3, by decide, rfl, hN⟩, rfl⟩, by show 3 - 3 < 3 - 2; decide⟩
          · clear hk
            go_upto_region 15 with (fail)
            go_loopw [5, 7] (fun s5 s7 wr => ∃ k : Nat, k ≤ 4 ∧ s7 = .int .i64 k ∧ Hid (By w T f wr s5 (13 + k))) (fun _ s7 _ => 4 - (intOf s7).toNat)
            case atStart => exact ⟨0, Nat.zero_le _, rfl, hH⟩
            case round =>
              obtain ⟨k, hk, rfl, hI⟩ := hrel
              obtain ⟨wo, rfl⟩ : ∃ wo, wo = wr := ⟨_, rfl⟩
              clear hH
              rcases (show k = 0 ∨ k = 1 ∨ k = 2 ∨ k = 3 ∨ k = 4 by omega) with rfl | rfl | rfl | rfl | rfl
              · have hD := hI.out
                have cx := hD.t.cell 16
                rw [show (docC f)[16]? = some (.int .u8 (f 13 : Nat)) from rfl] at cx
                obtain ⟨v', w', hr, hN⟩ := by_more hD 1 #[.int .u8 (f 13 : Nat)] (fun i hi => by
                  obtain rfl : i = 0 := by omega
                  rfl) hby.out (by omega)
                replace hN := Lib.hid hN
                clear hk hI hD
                go_wp2_with (at_builtin; refine wpList_append_ran2 rfl _ _ 46 46 rfl _ _ _ w' rfl rfl hr ?_)
                exact ⟨⟨_, _, _, _, _, _, _, _, _, _, _, _, _, ⟨1, by decide, rfl, hN⟩, rfl⟩, by show 4 - 1 < 4 - 0; decide⟩
              · have hD := hI.out
                have cx := hD.t.cell 17
                rw [show (docC f)[17]? = some (.int .u8 (f 14 : Nat)) from rfl] at cx
                obtain ⟨v', w', hr, hN⟩ := by_more hD 1 #[.int .u8 (f 14 : Nat)] (fun i hi => by
                  obtain rfl : i = 0 := by omega
                  rfl) hby.out (by omega)
                replace hN := Lib.hid hN
                clear hk hI hD
                go_wp2_with (at_builtin; refine wpList_append_ran2 rfl _ _ 46 46 rfl _ _ _ w' rfl rfl hr ?_)
                exact ⟨⟨_, _, _, _, _, _, _, _, _, _, _, _, _, ⟨2, by decide, rfl, hN⟩, rfl⟩, by show 4 - 2 < 4 - 1; decide⟩
              · have hD := hI.out
                have cx := hD.t.cell 18
                rw [show (docC f)[18]? = some (.int .u8 (f 15 : Nat)) from rfl] at cx
                obtain ⟨v', w', hr, hN⟩ := by_more hD 1 #[.int .u8 (f 15 : Nat)] (fun i hi => by
                  obtain rfl : i = 0 := by omega
                  rfl) hby.out (by omega)
                replace hN := Lib.hid hN
                clear hk hI hD
                go_wp2_with (at_builtin; refine wpList_append_ran2 rfl _ _ 46 46 rfl _ _ _ w' rfl rfl hr ?_)
                exact ⟨⟨_, _, _, _, _, _, _, _, _, _, _, _, _, ⟨3, by decide, rfl, hN⟩, rfl⟩, by show 4 - 3 < 4 - 2; decide⟩
              · have hD := hI.out
                have cx := hD.t.cell 19
                rw [show (docC f)[19]? = some (.int .u8 (f 16 : Nat)) from rfl] at cx
                obtain ⟨v', w', hr, hN⟩ := by_more hD 1 #[.int .u8 (f 16 : Nat)] (fun i hi => by
                  obtain rfl : i = 0 := by omega
                  rfl) hby.out (by omega)
                replace hN := Lib.hid hN
                clear hk hI hD
                go_wp2_with (at_builtin; refine wpList_append_ran2 rfl _ _ 46 46 rfl _ _ _ w' rfl rfl hr ?_)
                exact ⟨⟨_, _, _, _, _, _, _, _, _, _, _, _, _, ⟨4, by decide, rfl, hN⟩, rfl⟩, by show 4 - 4 < 4 - 3; decide⟩
              · clear hk
                go_upto_region 19 with (fail)
                go_loopw [5, 8] (fun s5 s8 wr => ∃ k : Nat, k ≤ 4 ∧ s8 = .int .i64 k ∧ Hid (By w T f wr s5 (17 + k))) (fun _ s8 _ => 4 - (intOf s8).toNat)
                case atStart => exact ⟨0, Nat.zero_le _, rfl, hI⟩
                case round =>
                  obtain ⟨k, hk, rfl, hJ⟩ := hrel
                  obtain ⟨wo, rfl⟩ : ∃ wo, wo = wr := ⟨_, rfl⟩
                  clear hI
                  rcases (show k = 0 ∨ k = 1 ∨ k = 2 ∨ k = 3 ∨ k = 4 by omega) with rfl | rfl | rfl | rfl | rfl
                  · have hD := hJ.out
                    have cx := hD.t.cell 20
                    rw [show (docC f)[20]? = some (.int .u8 (f 17 : Nat)) from rfl] at cx
                    obtain ⟨v', w', hr, hN⟩ := by_more hD 1 #[.int .u8 (f 17 : Nat)] (fun i hi => by
                      obtain rfl : i = 0 := by omega
                      rfl) hby.out (by omega)
                    replace hN := Lib.hid hN
                    clear hk hJ hD
                    go_wp2_with (at_builtin; refine wpList_append_ran2 rfl _ _ 46 46 rfl _ _ _ w' rfl rfl hr ?_)
                    exact ⟨⟨_, _, _, _, _, _, _, _, _, _, _, _, _, ⟨1, by decide, rfl, hN⟩, rfl⟩, by show 4 - 1 < 4 - 0; decide⟩
                  · have hD := hJ.out
                    have cx := hD.t.cell 21
                    rw [show (docC f)[21]? = some (.int .u8 (f 18 : Nat)) from rfl] at cx
                    obtain ⟨v', w', hr, hN⟩ := by_more hD 1 #[.int .u8 (f 18 : Nat)] (fun i hi => by
                      obtain rfl : i = 0 := by omega
                      rfl) hby.out (by omega)
                    replace hN := Lib.hid hN
                    clear hk hJ hD
                    go_wp2_with (at_builtin; refine wpList_append_ran2 rfl _ _ 46 46 rfl _ _ _ w' rfl rfl hr ?_)
                    exact ⟨⟨_, _, _, _, _, _, _, _, _, _, _, _, _, ⟨2, by decide, rfl, hN⟩, rfl⟩, by show 4 - 2 < 4 - 1; decide⟩
                  · have hD := hJ.out
                    have cx := hD.t.cell 22
                    rw [show (docC f)[22]? = some (.int .u8 (f 19 : Nat)) from rfl] at cx
                    obtain ⟨v', w', hr, hN⟩ := by_more hD 1 #[.int .u8 (f 19 : Nat)] (fun i hi => by
                      obtain rfl : i = 0 := by omega
                      rfl) hby.out (by omega)
                    replace hN := Lib.hid hN
                    clear hk hJ hD
                    go_wp2_with (at_builtin; refine wpList_append_ran2 rfl _ _ 46 46 rfl _ _ _ w' rfl rfl hr ?_)
                    exact ⟨⟨_, _, _, _, _, _, _, _, _, _, _, _, _, ⟨3, by decide, rfl, hN⟩, rfl⟩, by show 4 - 3 < 4 - 2; decide⟩
                  · have hD := hJ.out
                    have cx := hD.t.cell 23
                    rw [show (docC f)[23]? = some (.int .u8 (f 20 : Nat)) from rfl] at cx
                    obtain ⟨v', w', hr, hN⟩ := by_more hD 1 #[.int .u8 (f 20 : Nat)] (fun i hi => by
                      obtain rfl : i = 0 := by omega
                      rfl) hby.out (by omega)
                    replace hN := Lib.hid hN
                    clear hk hJ hD
                    go_wp2_with (at_builtin; refine wpList_append_ran2 rfl _ _ 46 46 rfl _ _ _ w' rfl rfl hr ?_)
                    exact ⟨⟨_, _, _, _, _, _, _, _, _, _, _, _, _, ⟨4, by decide, rfl, hN⟩, rfl⟩, by show 4 - 4 < 4 - 3; decide⟩
                  · clear hk
                    have hD := hJ.out
                    have cx := hD.t.cell 24
                    rw [show (docC f)[24]? = some (.int .u8 (f 21 : Nat)) from rfl] at cx
                    have cy := hD.t.cell 25
                    rw [show (docC f)[25]? = some (.int .u8 (f 22 : Nat)) from rfl] at cy
                    obtain ⟨v', w', hr, hN⟩ := by_more hD 2 #[.int .u8 (f 21 : Nat), .int .u8 (f 22 : Nat)] (fun i hi => by
                      rcases (show i = 0 ∨ i = 1 by omega) with rfl | rfl <;> rfl) hby.out (by omega)
                    replace hN := Lib.hid hN
                    clear hJ hD
                    go_wp2_with (at_builtin; refine wpList_append_ran2 rfl _ _ 46 46 rfl _ _ _ w' rfl rfl hr ?_)
                    go_ret
                    exact ⟨_, rfl, hN.out.own, fun x hx => Nat.le_of_succ_le (hN.out.frm x hx), hN.out.bel⟩
end Go.Proofs.YtbdhdedlemndeaaDoor
