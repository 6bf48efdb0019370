/-
  TickRuns, by the code (genkruns2.py writes this text).
-/
import Derived.Test.YtbdhdedlemndeaaDoorKRn
import Derived.Test.YtbdhdedlemndeaaDoorKRd2
import Derived.Test.YtbdhdedlemndeaaDoorKNw
import Derived.Test.YtbdhdedlemndeaaDoorKRst
import Derived.Test.YtbdhdedlemndeaaDoorKWrt
import Derived.Test.YtbdhdedlemndeaaDoorKWrt1
import Derived.Test.YtbdhdedlemndeaaDoorKByt
import Derived.StillTailTactics
import Derived.Deep.RegionHeld3
import Derived.Deep.MidRow
namespace Go.Proofs.YtbdhdedlemndeaaDoor
open Go.RowKit Go.Shelf
set_option maxRecDepth 1000000
set_option maxHeartbeats 40000000
set_option linter.unusedVariables false
set_option linter.unusedSimpArgs false

theorem rwrite_any {f : Nat → Nat} (r v : Nat) (w : World) (hv : v < 256) : Calls Tryd.prog 15 #[.agg (docC f), .int .u8 (r : Nat), .int .u8 (v : Nat)] w fun e w' => e = .returned (.agg (docC (writeF f r v))) ∧ Below w.heap.size w w' := by
  by_cases h : r = 0 ∨ r = 2 ∨ r = 3 ∨ 12 < r
  · have hk : kindF r = 0 ∨ kindF r = 5 := by unfold kindF; (repeat' split) <;> omega
    have e : writeF f r v = f := by unfold writeF; rw [if_neg (by omega), if_neg (by omega), if_neg (by omega), if_neg (by omega)]
    rw [e]
    exact rwrite_no r v w h
  · rcases (show r = 1 ∨ r = 4 ∨ r = 5 ∨ r = 6 ∨ r = 7 ∨ r = 8 ∨ r = 9 ∨ r = 10 ∨ r = 11 ∨ r = 12 by omega) with rfl | rfl | rfl | rfl | rfl | rfl | rfl | rfl | rfl | rfl
    · exact rwrite_1 v w hv
    · exact rwrite_4 v w hv
    · exact rwrite_5 v w hv
    · exact rwrite_6 v w hv
    · exact rwrite_7 v w hv
    · exact rwrite_8 v w hv
    · exact rwrite_9 v w hv
    · exact rwrite_10 v w hv
    · exact rwrite_11 v w hv
    · exact rwrite_12 v w hv
/-- A whole struct is loaded unopened, as one step of a region that draws. -/
theorem step_load {P : Program} {ops : Array Oper} {o : Oper} {a : Act} {w : World} {K : Act → World → Prop} {Q : Exit → Act → World → Prop} {E : Prop}
    (hgd : o.guard = none) (t : TypeId) (x : Operand) (ho : o.op = .load t x) (ad : Addr) (r : Value) (hx : a.eval x = .pointer (some ad)) (hr : (Instr.loadAt t (.pointer (some ad))).run P w = .ok r w) (h : K (a.put o.dst r) w) :
    if Region.wanted o (yielded ops a.tmps) = true then Oper.wp P o a w K Q else E := by
  have hw : Region.wanted o (yielded ops a.tmps) = true := by simp [Region.wanted, hgd]
  rw [if_pos hw]
  exact oper_load t x ho ad r hx hr h
theorem rng_of {W : World} {T : Nat} {f : Nat → Nat} (h : Whole W T 30 (docC f)) : W.rangeAt T 0 (docC f).toList := fun j v hj => by
  rw [Nat.zero_add]
  exact (h.cell j).trans (by rw [← Array.getElem?_toList]; exact hj)
theorem one_of (f : Nat → Nat) : ∀ v ∈ (docC f).toList, v.oneCell' = true := by
  have h := docC_one f
  rw [← Array.all_toList] at h
  exact List.all_eq_true.1 h
theorem walk (a : Option Addr) (n c : Nat) (fW fK : Nat → Int) (fV : Nat → Nat) (w : World) (hp : Pd w) (hO : ORow w a n fW fK fV) (hn : n ≤ 140737488355328) :
    Calls Tryd.prog 3 #[.slice a n c] w fun e w' => e = .returned (.bool true) ∧ Below w.heap.size w w' := by
  have HN := Lib.hid (knew_any w)
  have HNr := Lib.hid fun W => rnew_any W
  have HS := Lib.hid fun W f b (h : Tl w W b f) => kstep_any W h.ts
  have HW := Lib.hid fun W f b r v (h : Tl w W b f) (hv : v < 256) => kwrite_any r v W h.ts hv
  have HR := Lib.hid fun W f b r (h : Tl w W b f) => kread_any r W h.ts
  have HV := Lib.hid fun W f b (h : Tl w W b f) => saved_any W h.ts.tq
  have hni : (n : Int) ≤ 140737488355328 := by omega
  have hp0 := Lib.hid hp
  have hO0 := Lib.hid hO
  clear hp hO hn
  go_enter Tryd.func3, Tryd.ntmps3
  go_wp2_with fail
  refine HN.out.mono ?_
  rintro e W1 ⟨b, rfl, hb, hT1, hB1⟩
  have hL1 : Tl w W1 b newF := ⟨⟨hT1, hp0.out.below hB1 hp0.out.lt, by have := hp0.out.lt; omega, newF_good⟩, hb, hB1⟩
  replace hL1 := Lib.hid hL1
  have HNr1 := Lib.hid (HNr.out W1)
  clear HN hT1 hB1 hb
  go_wp2_with fail
  refine HNr1.out.mono ?_
  rintro e W2 ⟨rfl, hB2⟩
  have hL2 := hL1.out.grow hB2
  have hZ := Whole.fresh W2 30 docZ
  have hB3 : Below W2.heap.size W2 (W2.alloc (.cells docZ 30)) := (Below.refl _ W2).alloc (Nat.le_refl _) _
  have hL3 := hL2.grow hB3
  obtain ⟨hst, hfin⟩ := store_doc newF hZ rfl
  have hgs := grown_setRow (W2.alloc (.cells docZ 30)) W2.heap.size (docC newF)
  have hTb : W2.heap.size ≠ b := fun e => by have := hL2.ts.tq.lt; omega
  have hT0 : W2.heap.size ≠ 0 := by have := hL2.ts.pd.lt; omega
  have hTg : w.heap.size ≤ W2.heap.size := hL2.bel.size
  have hRn : Rn w ((W2.alloc (.cells docZ 30)).setRow W2.heap.size (docC newF)) b W2.heap.size newF :=
    ⟨⟨⟨hL3.ts.tq.only hgs (fun e => hTb e.symm), hL3.ts.pd.only hgs hT0, hL3.ts.ne, hL3.ts.good⟩, hL3.lb, below_setRow hL3.bel hTg⟩, hfin, hTg, hTb, hT0⟩
  unfold docZ at hst hRn
  replace hst := Lib.hid hst
  replace hRn := Lib.hid hRn
  clear HNr1 hL1 hB2 hL2 hZ hB3 hL3 hfin hgs hTb hT0 hTg
  go_upto_region 3 with (refine wpList_storeVar rfl 30 _ _ rfl _ _ rfl rfl hst.out ?_)
  clear hst
  generalize (W2.alloc (.cells #[.bool false, .bool false, .bool false, .bool false, .int .i64 0, .int .i64 0, .int .i64 0, .int .i64 0, .int .i64 0, .int .i64 0, .int .i64 0, .int .i64 0, .int .i64 0, .int .i64 0, .int .i64 0, .int .i64 0, .int .u8 0, .int .u8 0, .int .u8 0, .int .u8 0, .int .u8 0, .int .u8 0, .int .u8 0, .int .u8 0, .int .u8 0, .int .u8 0] 30)).setRow W2.heap.size (docC newF) = W3 at *
  generalize W2.heap.size = T at *
  go_upto_region 4 with (fail)
  go_loopw [5] (fun i wr => ∃ k : Nat, k ≤ n ∧ i = .int .i64 k ∧ Hid (∃ f, Rn w wr b T f)) (fun i _ => n - (intOf i).toNat)
  case atStart => exact ⟨0, Nat.zero_le _, rfl, Lib.hid ⟨_, hRn.out⟩⟩
  case round =>
    obtain ⟨k, hk, rfl, hH⟩ := hrel
    obtain ⟨wo, rfl⟩ : ∃ wo, wo = wr := ⟨_, rfl⟩
    obtain ⟨f, hL⟩ := hH.out
    clear hRn hH
    by_cases hlt : k < n
    · obtain ⟨hb, h0 | ⟨ob, oo, rfl, hbl, hc⟩⟩ := hO0.out.below hL.tl.bel
      · omega
      obtain ⟨q0, q1, q2⟩ := hc k hlt
      have hkb0 := (hb k hlt).1
      have hvb := Lib.hid (hb k hlt).2
      have hq0 := hL.op #[.int .i64 (fW k), .int .i64 (fK k), .int .u8 (fV k : Nat)]
      have o0 := hq0.o.cell 0
      rw [show (#[.int .i64 (fW k), .int .i64 (fK k), .int .u8 (fV k : Nat)] : Array Value)[0]? = some (.int .i64 (fW k)) from rfl] at o0
      obtain ⟨Wa, hWa⟩ : ∃ Wa, wo.alloc (.cells #[.int .i64 (fW k), .int .i64 (fK k), .int .u8 (fV k : Nat)] 33) = Wa := ⟨_, rfl⟩
      obtain ⟨X, hX⟩ : ∃ X, wo.heap.size = X := ⟨_, rfl⟩
      rw [hWa, hX] at hq0 o0
      replace hq0 := Lib.hid hq0
      replace hWa := Lib.hid hWa
      replace hX := Lib.hid hX
      clear hb hc hL hbl HV
      generalize fW k = A at *
      generalize fK k = K at *
      generalize fV k = V at *
      replace o0 := Lib.hid o0
      go_upto_region 7 with (fail)
      rw [hWa.out, hX.out]
      clear q0 q1 q2
      replace o0 := o0.out
      by_cases hA0 : A = 0
      · subst hA0
        by_cases hK1 : K < 0
        · have hx := Lib.hid hK1
          have o1 := hq0.out.o.cell 1
          rw [show (#[.int .i64 0, .int .i64 K, .int .u8 (V : Nat)] : Array Value)[1]? = some (.int .i64 K) from rfl] at o1
          have hgf := Lib.hid hq0.out.tl.ts.good
          go_upto_region 19 with (fail)
          clear o1
          go_loopw [8] (fun s8 wr => ∃ c : Nat, c ≤ 1 ∧ s8 = .int .i64 c ∧ Hid (Rq w wr b T X #[.int .i64 0, .int .i64 K, .int .u8 (V : Nat)] (itS f c) f)) (fun s8 _ => 1 - (intOf s8).toNat)
          case atStart => exact ⟨0, Nat.zero_le _, rfl, hq0⟩
          case round =>
            obtain ⟨c, hc, rfl, hI⟩ := hrel
            obtain ⟨wi, rfl⟩ : ∃ wi, wi = wr := ⟨_, rfl⟩
            clear hq0
            by_cases hlc : c < 1
            · have hlci : (c : Int) < 1 := by omega
              have HS1 := Lib.hid (HS.out _ _ _ hI.out.tl)
              go_wp2_with fail
              refine HS1.out.mono ?_
              rintro e W4 ⟨rfl, hT4, hg4⟩
              have hI4 := Lib.hid (hI.out.tick hT4 hg4)
              clear HS1 hT4 hg4 hI
              go_wp2_with fail
              exact ⟨⟨c + 1, by omega, by congr 1, hI4⟩, by simp only [intOf]; omega⟩
            · have hlci : ¬ (c : Int) < 1 := by omega
              have hcN : c = 1 := by omega
              have hI2 : Rq w wi b T X #[.int .i64 0, .int .i64 K, .int .u8 (V : Nat)] (itS f 1) f := by rw [← show itS f c = itS f 1 by rw [hcN]]; exact hI.out
              have hld := Lib.hid (load_doc hI2.d)
              have HRs := Lib.hid fun W => (show Calls Tryd.prog 11 #[.agg (docC f), .int .i64 1] W fun e w' => e = .returned (.agg (docC (itS f 1))) ∧ Below W.heap.size W w' from rstep_any 1 W hgf.out (by omega))
              replace hI2 := Lib.hid hI2
              replace hcN := Lib.hid hcN
              clear hlc HS hI
              go_wp2_with (refine wpList_loadVar rfl 30 _ rfl _ _ rfl hld.out ?_)
              refine (HRs.out _).mono ?_
              rintro e W5 ⟨rfl, hB5⟩
              obtain ⟨hst, hq⟩ := (hI2.out.grow hB5).store (itS f 1)
              replace hst := Lib.hid hst
              replace hq := Lib.hid hq
              clear HRs hB5 hI2 hld
              go_upto_region 39 with (refine wpList_storeVar rfl 30 _ _ rfl _ _ rfl rfl hst.out ?_)
              clear hst
              generalize W5.setRow T (docC (itS f 1)) = W6 at *
              have c3 := hq.out.d.cell 3
              rw [show (docC (itS f 1))[3]? = some (.bool (decide (128 ≤ (itS f 1) 0))) from rfl] at c3
              have hsh : (decide (128 ≤ (itS f 1) 0) != decide (128 ≤ (itS f 1) 0)) = false := by cases decide (128 ≤ (itS f 1) 0) <;> rfl
              have HSh := Lib.hid fun Q (hQ : Tq Q b (itS f 1)) => shown_any Q hQ
              have hT := Lib.hid hq.out.tl.ts.tq
              have hdn := Lib.hid hq.out.drew.done
              generalize decide (128 ≤ (itS f 1) 0) = sh at *
              clear hq
              refine wp_region_still_tail 4 (by kernel_rfl) (by kernel_rfl) ?_
              simp only [List.take_succ_cons, List.take_zero, List.drop_succ_cons, List.drop_zero]
              repeat still_step
              still_call ((HSh.out _ (by exact hT.out)).mono (by rintro e w' ⟨rfl, rfl⟩; exact ⟨rfl, rfl⟩))
              repeat still_step
              refine wpStill_nil ?_
              show wpList _ _ _ _ _ (World.drew _)
              clear c3
              go_wp2_with fail
              exact ⟨⟨k + 1, by omega, by congr 1, Lib.hid ⟨_, hdn.out⟩⟩, by simp only [intOf]; omega⟩
        by_cases hK2 : 5000 < K
        · have q1 : ¬ K < 0 := hK1
          have o1 := hq0.out.o.cell 1
          rw [show (#[.int .i64 0, .int .i64 K, .int .u8 (V : Nat)] : Array Value)[1]? = some (.int .i64 K) from rfl] at o1
          have hgf := Lib.hid hq0.out.tl.ts.good
          go_upto_region 19 with (fail)
          clear o1
          go_loopw [8] (fun s8 wr => ∃ c : Nat, c ≤ 1 ∧ s8 = .int .i64 c ∧ Hid (Rq w wr b T X #[.int .i64 0, .int .i64 K, .int .u8 (V : Nat)] (itS f c) f)) (fun s8 _ => 1 - (intOf s8).toNat)
          case atStart => exact ⟨0, Nat.zero_le _, rfl, hq0⟩
          case round =>
            obtain ⟨c, hc, rfl, hI⟩ := hrel
            obtain ⟨wi, rfl⟩ : ∃ wi, wi = wr := ⟨_, rfl⟩
            clear hq0
            by_cases hlc : c < 1
            · have hlci : (c : Int) < 1 := by omega
              have HS1 := Lib.hid (HS.out _ _ _ hI.out.tl)
              go_wp2_with fail
              refine HS1.out.mono ?_
              rintro e W4 ⟨rfl, hT4, hg4⟩
              have hI4 := Lib.hid (hI.out.tick hT4 hg4)
              clear HS1 hT4 hg4 hI
              go_wp2_with fail
              exact ⟨⟨c + 1, by omega, by congr 1, hI4⟩, by simp only [intOf]; omega⟩
            · have hlci : ¬ (c : Int) < 1 := by omega
              have hcN : c = 1 := by omega
              have hI2 : Rq w wi b T X #[.int .i64 0, .int .i64 K, .int .u8 (V : Nat)] (itS f 1) f := by rw [← show itS f c = itS f 1 by rw [hcN]]; exact hI.out
              have hld := Lib.hid (load_doc hI2.d)
              have HRs := Lib.hid fun W => (show Calls Tryd.prog 11 #[.agg (docC f), .int .i64 1] W fun e w' => e = .returned (.agg (docC (itS f 1))) ∧ Below W.heap.size W w' from rstep_any 1 W hgf.out (by omega))
              replace hI2 := Lib.hid hI2
              replace hcN := Lib.hid hcN
              clear hlc HS hI
              go_wp2_with (refine wpList_loadVar rfl 30 _ rfl _ _ rfl hld.out ?_)
              refine (HRs.out _).mono ?_
              rintro e W5 ⟨rfl, hB5⟩
              obtain ⟨hst, hq⟩ := (hI2.out.grow hB5).store (itS f 1)
              replace hst := Lib.hid hst
              replace hq := Lib.hid hq
              clear HRs hB5 hI2 hld
              go_upto_region 39 with (refine wpList_storeVar rfl 30 _ _ rfl _ _ rfl rfl hst.out ?_)
              clear hst
              generalize W5.setRow T (docC (itS f 1)) = W6 at *
              have c3 := hq.out.d.cell 3
              rw [show (docC (itS f 1))[3]? = some (.bool (decide (128 ≤ (itS f 1) 0))) from rfl] at c3
              have hsh : (decide (128 ≤ (itS f 1) 0) != decide (128 ≤ (itS f 1) 0)) = false := by cases decide (128 ≤ (itS f 1) 0) <;> rfl
              have HSh := Lib.hid fun Q (hQ : Tq Q b (itS f 1)) => shown_any Q hQ
              have hT := Lib.hid hq.out.tl.ts.tq
              have hdn := Lib.hid hq.out.drew.done
              generalize decide (128 ≤ (itS f 1) 0) = sh at *
              clear hq
              refine wp_region_still_tail 4 (by kernel_rfl) (by kernel_rfl) ?_
              simp only [List.take_succ_cons, List.take_zero, List.drop_succ_cons, List.drop_zero]
              repeat still_step
              still_call ((HSh.out _ (by exact hT.out)).mono (by rintro e w' ⟨rfl, rfl⟩; exact ⟨rfl, rfl⟩))
              repeat still_step
              refine wpStill_nil ?_
              show wpList _ _ _ _ _ (World.drew _)
              clear c3
              go_wp2_with fail
              exact ⟨⟨k + 1, by omega, by congr 1, Lib.hid ⟨_, hdn.out⟩⟩, by simp only [intOf]; omega⟩
        · obtain ⟨N, rfl⟩ : ∃ N : Nat, K = N := ⟨K.toNat, by omega⟩
          have hN5 : N ≤ 5000 := by omega
          have o1 := hq0.out.o.cell 1
          rw [show (#[.int .i64 0, .int .i64 (N : Int), .int .u8 (V : Nat)] : Array Value)[1]? = some (.int .i64 (N : Int)) from rfl] at o1
          have hgf := Lib.hid hq0.out.tl.ts.good
          go_upto_region 19 with (fail)
          clear o1
          go_loopw [8] (fun s8 wr => ∃ c : Nat, c ≤ N ∧ s8 = .int .i64 c ∧ Hid (Rq w wr b T X #[.int .i64 0, .int .i64 (N : Int), .int .u8 (V : Nat)] (itS f c) f)) (fun s8 _ => N - (intOf s8).toNat)
          case atStart => exact ⟨0, Nat.zero_le _, rfl, hq0⟩
          case round =>
            obtain ⟨c, hc, rfl, hI⟩ := hrel
            obtain ⟨wi, rfl⟩ : ∃ wi, wi = wr := ⟨_, rfl⟩
            clear hq0
            by_cases hlc : c < N
            · have hlci : (c : Int) < (N : Int) := by omega
              have HS1 := Lib.hid (HS.out _ _ _ hI.out.tl)
              go_wp2_with fail
              refine HS1.out.mono ?_
              rintro e W4 ⟨rfl, hT4, hg4⟩
              have hI4 := Lib.hid (hI.out.tick hT4 hg4)
              clear HS1 hT4 hg4 hI
              go_wp2_with fail
              exact ⟨⟨c + 1, by omega, by congr 1, hI4⟩, by simp only [intOf]; omega⟩
            · have hlci : ¬ (c : Int) < (N : Int) := by omega
              have hcN : c = N := by omega
              have hI2 : Rq w wi b T X #[.int .i64 0, .int .i64 (N : Int), .int .u8 (V : Nat)] (itS f N) f := by rw [← show itS f c = itS f N by rw [hcN]]; exact hI.out
              have hld := Lib.hid (load_doc hI2.d)
              have HRs := Lib.hid fun W => (show Calls Tryd.prog 11 #[.agg (docC f), .int .i64 (N : Int)] W fun e w' => e = .returned (.agg (docC (itS f N))) ∧ Below W.heap.size W w' from rstep_any N W hgf.out (by omega))
              replace hI2 := Lib.hid hI2
              replace hcN := Lib.hid hcN
              clear hlc HS hI
              go_wp2_with (refine wpList_loadVar rfl 30 _ rfl _ _ rfl hld.out ?_)
              refine (HRs.out _).mono ?_
              rintro e W5 ⟨rfl, hB5⟩
              obtain ⟨hst, hq⟩ := (hI2.out.grow hB5).store (itS f N)
              replace hst := Lib.hid hst
              replace hq := Lib.hid hq
              clear HRs hB5 hI2 hld
              go_upto_region 39 with (refine wpList_storeVar rfl 30 _ _ rfl _ _ rfl rfl hst.out ?_)
              clear hst
              generalize W5.setRow T (docC (itS f N)) = W6 at *
              have c3 := hq.out.d.cell 3
              rw [show (docC (itS f N))[3]? = some (.bool (decide (128 ≤ (itS f N) 0))) from rfl] at c3
              have hsh : (decide (128 ≤ (itS f N) 0) != decide (128 ≤ (itS f N) 0)) = false := by cases decide (128 ≤ (itS f N) 0) <;> rfl
              have HSh := Lib.hid fun Q (hQ : Tq Q b (itS f N)) => shown_any Q hQ
              have hT := Lib.hid hq.out.tl.ts.tq
              have hdn := Lib.hid hq.out.drew.done
              generalize decide (128 ≤ (itS f N) 0) = sh at *
              clear hq
              refine wp_region_still_tail 4 (by kernel_rfl) (by kernel_rfl) ?_
              simp only [List.take_succ_cons, List.take_zero, List.drop_succ_cons, List.drop_zero]
              repeat still_step
              still_call ((HSh.out _ (by exact hT.out)).mono (by rintro e w' ⟨rfl, rfl⟩; exact ⟨rfl, rfl⟩))
              repeat still_step
              refine wpStill_nil ?_
              show wpList _ _ _ _ _ (World.drew _)
              clear c3
              go_wp2_with fail
              exact ⟨⟨k + 1, by omega, by congr 1, Lib.hid ⟨_, hdn.out⟩⟩, by simp only [intOf]; omega⟩
      by_cases hA1 : A = 1
      · subst hA1
        obtain ⟨kb, hkw, hkb⟩ := nat_wrap8 K
        have o1 := hq0.out.o.cell 1
        rw [show (#[.int .i64 1, .int .i64 K, .int .u8 (V : Nat)] : Array Value)[1]? = some (.int .i64 K) from rfl] at o1
        have hgf := Lib.hid hq0.out.tl.ts.good
        have hld := Lib.hid (load_doc hq0.out.d)
        have HRr := Lib.hid fun W => rread_any (f := f) kb W hgf.out.byte
        replace hkb := Lib.hid hkb
        clear HS HW
        go_wp2_with (refine wpList_loadVar rfl 30 _ rfl _ _ rfl hld.out ?_)
        refine (HRr.out _).mono ?_
        rintro e W4 ⟨rfl, hB4⟩
        have h4 := hq0.out.grow hB4
        have hZ := Whole.fresh W4 30 docZ
        obtain ⟨hst, hY⟩ := store_doc (readF f kb) hZ rfl
        have hq5 := h4.grow (below_setRow (cs := docC (readF f kb)) ((Below.refl W4.heap.size W4).alloc (Nat.le_refl _) (.cells docZ 30)) (Nat.le_refl _))
        have hYb : W4.heap.size ≠ b := fun e => by have := h4.tl.ts.tq.lt; omega
        have o1b := hq5.o.cell 1
        rw [show (#[.int .i64 1, .int .i64 K, .int .u8 (V : Nat)] : Array Value)[1]? = some (.int .i64 K) from rfl] at o1b
        have HR1 := Lib.hid (HR.out _ _ _ kb hq5.tl)
        unfold docZ at hst hY hq5 o1b HR1
        replace hst := Lib.hid hst
        replace hY := Lib.hid hY
        replace hq5 := Lib.hid hq5
        replace hYb := Lib.hid hYb
        replace o1b := Lib.hid o1b
        clear HRr hB4 h4 hZ hld hq0 o1
        go_upto_region 25 with (refine wpList_storeVar rfl 30 _ _ rfl _ _ rfl rfl hst.out ?_)
        clear hst
        generalize (W4.alloc (.cells #[.bool false, .bool false, .bool false, .bool false, .int .i64 0, .int .i64 0, .int .i64 0, .int .i64 0, .int .i64 0, .int .i64 0, .int .i64 0, .int .i64 0, .int .i64 0, .int .i64 0, .int .i64 0, .int .i64 0, .int .u8 0, .int .u8 0, .int .u8 0, .int .u8 0, .int .u8 0, .int .u8 0, .int .u8 0, .int .u8 0, .int .u8 0, .int .u8 0] 30)).setRow W4.heap.size (docC (readF f kb)) = W5 at *
        replace o1b := o1b.out
        generalize W4.heap.size = Y at *
        go_wp2_with fail
        refine HR1.out.mono ?_
        rintro e W6 ⟨rfl, hT6, hg6⟩
        have hq6 := hq5.out.tick hT6 hg6
        have hld := Lib.hid (load_doc (hY.out.only hg6 hYb.out))
        obtain ⟨hst, hq⟩ := hq6.store (readF f kb)
        have hvv : ((readV f kb : Int) != (readV f kb : Int)) = false := bne_self_eq_false _
        replace hst := Lib.hid hst
        replace hq := Lib.hid hq
        clear HR1 hT6 hg6 hq6 hq5 hY o1b
        generalize readV f kb = rv at *
        go_upto_region 39 with (first | (refine wpList_loadVar rfl 30 _ rfl _ _ rfl hld.out ?_) | (refine wpList_storeVar rfl 30 _ _ rfl _ _ rfl rfl hst.out ?_))
        clear hst hld hvv
        generalize W6.setRow T (docC (readF f kb)) = W7 at *
        have c3 := hq.out.d.cell 3
        rw [show (docC (readF f kb))[3]? = some (.bool (decide (128 ≤ (readF f kb) 0))) from rfl] at c3
        have hsh : (decide (128 ≤ (readF f kb) 0) != decide (128 ≤ (readF f kb) 0)) = false := by cases decide (128 ≤ (readF f kb) 0) <;> rfl
        have HSh := Lib.hid fun Q (hQ : Tq Q b (readF f kb)) => shown_any Q hQ
        have hT := Lib.hid hq.out.tl.ts.tq
        have hdn := Lib.hid hq.out.drew.done
        generalize decide (128 ≤ (readF f kb) 0) = sh at *
        clear hq
        refine wp_region_still_tail 4 (by kernel_rfl) (by kernel_rfl) ?_
        simp only [List.take_succ_cons, List.take_zero, List.drop_succ_cons, List.drop_zero]
        repeat still_step
        still_call ((HSh.out _ (by exact hT.out)).mono (by rintro e w' ⟨rfl, rfl⟩; exact ⟨rfl, rfl⟩))
        repeat still_step
        refine wpStill_nil ?_
        show wpList _ _ _ _ _ (World.drew _)
        clear c3
        go_wp2_with fail
        exact ⟨⟨k + 1, by omega, by congr 1, Lib.hid ⟨_, hdn.out⟩⟩, by simp only [intOf]; omega⟩
      by_cases hA2 : A = 2
      · subst hA2
        obtain ⟨kb, hkw, hkb⟩ := nat_wrap8 K
        have o1 := hq0.out.o.cell 1
        rw [show (#[.int .i64 2, .int .i64 K, .int .u8 (V : Nat)] : Array Value)[1]? = some (.int .i64 K) from rfl] at o1
        have o2 := hq0.out.o.cell 2
        rw [show (#[.int .i64 2, .int .i64 K, .int .u8 (V : Nat)] : Array Value)[2]? = some (.int .u8 (V : Nat)) from rfl] at o2
        have HW1 := Lib.hid (HW.out _ _ _ kb V hq0.out.tl hvb.out)
        have HRw := Lib.hid fun W => rwrite_any (f := f) kb V W hvb.out
        replace hkb := Lib.hid hkb
        clear HS HR
        go_wp2_with fail
        refine HW1.out.mono ?_
        rintro e W4 ⟨rfl, hT4, hg4⟩
        have h4 := hq0.out.tick hT4 hg4
        have hld := Lib.hid (load_doc h4.d)
        have o1b := h4.o.cell 1
        rw [show (#[.int .i64 2, .int .i64 K, .int .u8 (V : Nat)] : Array Value)[1]? = some (.int .i64 K) from rfl] at o1b
        have o2b := h4.o.cell 2
        rw [show (#[.int .i64 2, .int .i64 K, .int .u8 (V : Nat)] : Array Value)[2]? = some (.int .u8 (V : Nat)) from rfl] at o2b
        replace h4 := Lib.hid h4
        clear HW1 hT4 hg4 hq0 o1 o2
        go_wp2_with (refine wpList_loadVar rfl 30 _ rfl _ _ rfl hld.out ?_)
        refine (HRw.out _).mono ?_
        rintro e W5 ⟨rfl, hB5⟩
        obtain ⟨hst, hq⟩ := (h4.out.grow hB5).store (writeF f kb V)
        replace hst := Lib.hid hst
        replace hq := Lib.hid hq
        clear HRw hB5 h4 hld o1b o2b
        go_upto_region 39 with (refine wpList_storeVar rfl 30 _ _ rfl _ _ rfl rfl hst.out ?_)
        clear hst
        generalize W5.setRow T (docC (writeF f kb V)) = W6 at *
        have c3 := hq.out.d.cell 3
        rw [show (docC (writeF f kb V))[3]? = some (.bool (decide (128 ≤ (writeF f kb V) 0))) from rfl] at c3
        have hsh : (decide (128 ≤ (writeF f kb V) 0) != decide (128 ≤ (writeF f kb V) 0)) = false := by cases decide (128 ≤ (writeF f kb V) 0) <;> rfl
        have HSh := Lib.hid fun Q (hQ : Tq Q b (writeF f kb V)) => shown_any Q hQ
        have hT := Lib.hid hq.out.tl.ts.tq
        have hdn := Lib.hid hq.out.drew.done
        generalize decide (128 ≤ (writeF f kb V) 0) = sh at *
        clear hq
        refine wp_region_still_tail 4 (by kernel_rfl) (by kernel_rfl) ?_
        simp only [List.take_succ_cons, List.take_zero, List.drop_succ_cons, List.drop_zero]
        repeat still_step
        still_call ((HSh.out _ (by exact hT.out)).mono (by rintro e w' ⟨rfl, rfl⟩; exact ⟨rfl, rfl⟩))
        repeat still_step
        refine wpStill_nil ?_
        show wpList _ _ _ _ _ (World.drew _)
        clear c3
        go_wp2_with fail
        exact ⟨⟨k + 1, by omega, by congr 1, Lib.hid ⟨_, hdn.out⟩⟩, by simp only [intOf]; omega⟩
      by_cases hA3 : A = 3
      · subst hA3
        by_cases hr : K < 0 ∨ 4 ≤ K
        · have HI := Lib.hid (in_no (b := b) K (.int .u8 (V : Nat)) Wa hr)
          have o1 := hq0.out.o.cell 1
          rw [show (#[.int .i64 3, .int .i64 K, .int .u8 (V : Nat)] : Array Value)[1]? = some (.int .i64 K) from rfl] at o1
          have o2 := hq0.out.o.cell 2
          rw [show (#[.int .i64 3, .int .i64 K, .int .u8 (V : Nat)] : Array Value)[2]? = some (.int .u8 (V : Nat)) from rfl] at o2
          rcases hr with h1 | h1
          · have q1 : ¬ 0 ≤ K := by omega
            have hx := Lib.hid h1
            clear h1
            go_wp2_with fail
            refine HI.out.mono ?_
            rintro e W4 ⟨rfl, rfl⟩
            have hq := hq0
            clear HI hq0
            go_upto_region 39 with (fail)
            clear o1 o2
            have c3 := hq.out.d.cell 3
            rw [show (docC (f))[3]? = some (.bool (decide (128 ≤ (f) 0))) from rfl] at c3
            have hsh : (decide (128 ≤ (f) 0) != decide (128 ≤ (f) 0)) = false := by cases decide (128 ≤ (f) 0) <;> rfl
            have HSh := Lib.hid fun Q (hQ : Tq Q b (f)) => shown_any Q hQ
            have hT := Lib.hid hq.out.tl.ts.tq
            have hdn := Lib.hid hq.out.drew.done
            generalize decide (128 ≤ (f) 0) = sh at *
            clear hq
            refine wp_region_still_tail 4 (by kernel_rfl) (by kernel_rfl) ?_
            simp only [List.take_succ_cons, List.take_zero, List.drop_succ_cons, List.drop_zero]
            repeat still_step
            still_call ((HSh.out _ (by exact hT.out)).mono (by rintro e w' ⟨rfl, rfl⟩; exact ⟨rfl, rfl⟩))
            repeat still_step
            refine wpStill_nil ?_
            show wpList _ _ _ _ _ (World.drew _)
            clear c3
            go_wp2_with fail
            exact ⟨⟨k + 1, by omega, by congr 1, Lib.hid ⟨_, hdn.out⟩⟩, by simp only [intOf]; omega⟩
          · have q1 : 0 ≤ K := by omega
            have q2 : ¬ K < 4 := by omega
            clear h1
            go_wp2_with fail
            refine HI.out.mono ?_
            rintro e W4 ⟨rfl, rfl⟩
            have hq := hq0
            clear HI hq0
            go_upto_region 39 with (fail)
            clear o1 o2
            have c3 := hq.out.d.cell 3
            rw [show (docC (f))[3]? = some (.bool (decide (128 ≤ (f) 0))) from rfl] at c3
            have hsh : (decide (128 ≤ (f) 0) != decide (128 ≤ (f) 0)) = false := by cases decide (128 ≤ (f) 0) <;> rfl
            have HSh := Lib.hid fun Q (hQ : Tq Q b (f)) => shown_any Q hQ
            have hT := Lib.hid hq.out.tl.ts.tq
            have hdn := Lib.hid hq.out.drew.done
            generalize decide (128 ≤ (f) 0) = sh at *
            clear hq
            refine wp_region_still_tail 4 (by kernel_rfl) (by kernel_rfl) ?_
            simp only [List.take_succ_cons, List.take_zero, List.drop_succ_cons, List.drop_zero]
            repeat still_step
            still_call ((HSh.out _ (by exact hT.out)).mono (by rintro e w' ⟨rfl, rfl⟩; exact ⟨rfl, rfl⟩))
            repeat still_step
            refine wpStill_nil ?_
            show wpList _ _ _ _ _ (World.drew _)
            clear c3
            go_wp2_with fail
            exact ⟨⟨k + 1, by omega, by congr 1, Lib.hid ⟨_, hdn.out⟩⟩, by simp only [intOf]; omega⟩
        · rcases (show K = 0 ∨ K = 1 ∨ K = 2 ∨ K = 3 by omega) with rfl | rfl | rfl | rfl
          · have HI := Lib.hid (show Calls Tryd.prog 16 #[.pointer (some ⟨b, 0, none⟩), .int .i64 0, .int .u8 (V : Nat)] Wa fun e w' => e = .returned (.int .i64 0) ∧ Tq w' b (upd f 13 V) ∧ Wa.grownBy w' (some b) from in_ok 0 V Wa hq0.out.tl.ts.tq (by decide) hvb.out)
            have o1 := hq0.out.o.cell 1
            rw [show (#[.int .i64 3, .int .i64 0, .int .u8 (V : Nat)] : Array Value)[1]? = some (.int .i64 0) from rfl] at o1
            have o2 := hq0.out.o.cell 2
            rw [show (#[.int .i64 3, .int .i64 0, .int .u8 (V : Nat)] : Array Value)[2]? = some (.int .u8 (V : Nat)) from rfl] at o2
            clear hr HS HW HR
            go_wp2_with fail
            refine HI.out.mono ?_
            rintro e W4 ⟨rfl, hT4, hg4⟩
            have h4 : Rq w W4 b T X _ (upd f 13 V) f := hq0.out.tick ⟨hT4, hq0.out.tl.ts.pd.only hg4 hq0.out.tl.ts.ne, hq0.out.tl.ts.ne, hq0.out.tl.ts.good.upd hvb.out (by decide) (fun h => by omega) (fun h => by omega)⟩ hg4
            have cx := h4.d.cell 16
            rw [show (docC f)[16]? = some (.int .u8 (f 13 : Nat)) from rfl] at cx
            have yx := h4.d.free 16
            have o1b := h4.o.cell 1
            rw [show (#[.int .i64 3, .int .i64 0, .int .u8 (V : Nat)] : Array Value)[1]? = some (.int .i64 0) from rfl] at o1b
            have o2b := h4.o.cell 2
            rw [show (#[.int .i64 3, .int .i64 0, .int .u8 (V : Nat)] : Array Value)[2]? = some (.int .u8 (V : Nat)) from rfl] at o2b
            have hq := Lib.hid (h4.put 16 (.int .u8 (V : Nat)) (show (docC f).setIfInBounds 16 (.int .u8 (V : Nat)) = docC (upd f 13 V) by kernel_rfl))
            clear HI hT4 hg4 hq0 o1 o2 h4
            generalize f 13 = fj at *
            go_upto_region 39 with (fail)
            clear cx yx o1b o2b
            generalize W4.setCell ⟨T, 16, none⟩ (.int .u8 (V : Nat)) = W6 at *
            have c3 := hq.out.d.cell 3
            rw [show (docC (upd f 13 V))[3]? = some (.bool (decide (128 ≤ (upd f 13 V) 0))) from rfl] at c3
            have hsh : (decide (128 ≤ (upd f 13 V) 0) != decide (128 ≤ (upd f 13 V) 0)) = false := by cases decide (128 ≤ (upd f 13 V) 0) <;> rfl
            have HSh := Lib.hid fun Q (hQ : Tq Q b (upd f 13 V)) => shown_any Q hQ
            have hT := Lib.hid hq.out.tl.ts.tq
            have hdn := Lib.hid hq.out.drew.done
            generalize decide (128 ≤ (upd f 13 V) 0) = sh at *
            clear hq
            refine wp_region_still_tail 4 (by kernel_rfl) (by kernel_rfl) ?_
            simp only [List.take_succ_cons, List.take_zero, List.drop_succ_cons, List.drop_zero]
            repeat still_step
            still_call ((HSh.out _ (by exact hT.out)).mono (by rintro e w' ⟨rfl, rfl⟩; exact ⟨rfl, rfl⟩))
            repeat still_step
            refine wpStill_nil ?_
            show wpList _ _ _ _ _ (World.drew _)
            clear c3
            go_wp2_with fail
            exact ⟨⟨k + 1, by omega, by congr 1, Lib.hid ⟨_, hdn.out⟩⟩, by simp only [intOf]; omega⟩
          · have HI := Lib.hid (show Calls Tryd.prog 16 #[.pointer (some ⟨b, 0, none⟩), .int .i64 1, .int .u8 (V : Nat)] Wa fun e w' => e = .returned (.int .i64 0) ∧ Tq w' b (upd f 14 V) ∧ Wa.grownBy w' (some b) from in_ok 1 V Wa hq0.out.tl.ts.tq (by decide) hvb.out)
            have o1 := hq0.out.o.cell 1
            rw [show (#[.int .i64 3, .int .i64 1, .int .u8 (V : Nat)] : Array Value)[1]? = some (.int .i64 1) from rfl] at o1
            have o2 := hq0.out.o.cell 2
            rw [show (#[.int .i64 3, .int .i64 1, .int .u8 (V : Nat)] : Array Value)[2]? = some (.int .u8 (V : Nat)) from rfl] at o2
            clear hr HS HW HR
            go_wp2_with fail
            refine HI.out.mono ?_
            rintro e W4 ⟨rfl, hT4, hg4⟩
            have h4 : Rq w W4 b T X _ (upd f 14 V) f := hq0.out.tick ⟨hT4, hq0.out.tl.ts.pd.only hg4 hq0.out.tl.ts.ne, hq0.out.tl.ts.ne, hq0.out.tl.ts.good.upd hvb.out (by decide) (fun h => by omega) (fun h => by omega)⟩ hg4
            have cx := h4.d.cell 17
            rw [show (docC f)[17]? = some (.int .u8 (f 14 : Nat)) from rfl] at cx
            have yx := h4.d.free 17
            have o1b := h4.o.cell 1
            rw [show (#[.int .i64 3, .int .i64 1, .int .u8 (V : Nat)] : Array Value)[1]? = some (.int .i64 1) from rfl] at o1b
            have o2b := h4.o.cell 2
            rw [show (#[.int .i64 3, .int .i64 1, .int .u8 (V : Nat)] : Array Value)[2]? = some (.int .u8 (V : Nat)) from rfl] at o2b
            have hq := Lib.hid (h4.put 17 (.int .u8 (V : Nat)) (show (docC f).setIfInBounds 17 (.int .u8 (V : Nat)) = docC (upd f 14 V) by kernel_rfl))
            clear HI hT4 hg4 hq0 o1 o2 h4
            generalize f 14 = fj at *
            go_upto_region 39 with (fail)
            clear cx yx o1b o2b
            generalize W4.setCell ⟨T, 17, none⟩ (.int .u8 (V : Nat)) = W6 at *
            have c3 := hq.out.d.cell 3
            rw [show (docC (upd f 14 V))[3]? = some (.bool (decide (128 ≤ (upd f 14 V) 0))) from rfl] at c3
            have hsh : (decide (128 ≤ (upd f 14 V) 0) != decide (128 ≤ (upd f 14 V) 0)) = false := by cases decide (128 ≤ (upd f 14 V) 0) <;> rfl
            have HSh := Lib.hid fun Q (hQ : Tq Q b (upd f 14 V)) => shown_any Q hQ
            have hT := Lib.hid hq.out.tl.ts.tq
            have hdn := Lib.hid hq.out.drew.done
            generalize decide (128 ≤ (upd f 14 V) 0) = sh at *
            clear hq
            refine wp_region_still_tail 4 (by kernel_rfl) (by kernel_rfl) ?_
            simp only [List.take_succ_cons, List.take_zero, List.drop_succ_cons, List.drop_zero]
            repeat still_step
            still_call ((HSh.out _ (by exact hT.out)).mono (by rintro e w' ⟨rfl, rfl⟩; exact ⟨rfl, rfl⟩))
            repeat still_step
            refine wpStill_nil ?_
            show wpList _ _ _ _ _ (World.drew _)
            clear c3
            go_wp2_with fail
            exact ⟨⟨k + 1, by omega, by congr 1, Lib.hid ⟨_, hdn.out⟩⟩, by simp only [intOf]; omega⟩
          · have HI := Lib.hid (show Calls Tryd.prog 16 #[.pointer (some ⟨b, 0, none⟩), .int .i64 2, .int .u8 (V : Nat)] Wa fun e w' => e = .returned (.int .i64 0) ∧ Tq w' b (upd f 15 V) ∧ Wa.grownBy w' (some b) from in_ok 2 V Wa hq0.out.tl.ts.tq (by decide) hvb.out)
            have o1 := hq0.out.o.cell 1
            rw [show (#[.int .i64 3, .int .i64 2, .int .u8 (V : Nat)] : Array Value)[1]? = some (.int .i64 2) from rfl] at o1
            have o2 := hq0.out.o.cell 2
            rw [show (#[.int .i64 3, .int .i64 2, .int .u8 (V : Nat)] : Array Value)[2]? = some (.int .u8 (V : Nat)) from rfl] at o2
            clear hr HS HW HR
            go_wp2_with fail
            refine HI.out.mono ?_
            rintro e W4 ⟨rfl, hT4, hg4⟩
            have h4 : Rq w W4 b T X _ (upd f 15 V) f := hq0.out.tick ⟨hT4, hq0.out.tl.ts.pd.only hg4 hq0.out.tl.ts.ne, hq0.out.tl.ts.ne, hq0.out.tl.ts.good.upd hvb.out (by decide) (fun h => by omega) (fun h => by omega)⟩ hg4
            have cx := h4.d.cell 18
            rw [show (docC f)[18]? = some (.int .u8 (f 15 : Nat)) from rfl] at cx
            have yx := h4.d.free 18
            have o1b := h4.o.cell 1
            rw [show (#[.int .i64 3, .int .i64 2, .int .u8 (V : Nat)] : Array Value)[1]? = some (.int .i64 2) from rfl] at o1b
            have o2b := h4.o.cell 2
            rw [show (#[.int .i64 3, .int .i64 2, .int .u8 (V : Nat)] : Array Value)[2]? = some (.int .u8 (V : Nat)) from rfl] at o2b
            have hq := Lib.hid (h4.put 18 (.int .u8 (V : Nat)) (show (docC f).setIfInBounds 18 (.int .u8 (V : Nat)) = docC (upd f 15 V) by kernel_rfl))
            clear HI hT4 hg4 hq0 o1 o2 h4
            generalize f 15 = fj at *
            go_upto_region 39 with (fail)
            clear cx yx o1b o2b
            generalize W4.setCell ⟨T, 18, none⟩ (.int .u8 (V : Nat)) = W6 at *
            have c3 := hq.out.d.cell 3
            rw [show (docC (upd f 15 V))[3]? = some (.bool (decide (128 ≤ (upd f 15 V) 0))) from rfl] at c3
            have hsh : (decide (128 ≤ (upd f 15 V) 0) != decide (128 ≤ (upd f 15 V) 0)) = false := by cases decide (128 ≤ (upd f 15 V) 0) <;> rfl
            have HSh := Lib.hid fun Q (hQ : Tq Q b (upd f 15 V)) => shown_any Q hQ
            have hT := Lib.hid hq.out.tl.ts.tq
            have hdn := Lib.hid hq.out.drew.done
            generalize decide (128 ≤ (upd f 15 V) 0) = sh at *
            clear hq
            refine wp_region_still_tail 4 (by kernel_rfl) (by kernel_rfl) ?_
            simp only [List.take_succ_cons, List.take_zero, List.drop_succ_cons, List.drop_zero]
            repeat still_step
            still_call ((HSh.out _ (by exact hT.out)).mono (by rintro e w' ⟨rfl, rfl⟩; exact ⟨rfl, rfl⟩))
            repeat still_step
            refine wpStill_nil ?_
            show wpList _ _ _ _ _ (World.drew _)
            clear c3
            go_wp2_with fail
            exact ⟨⟨k + 1, by omega, by congr 1, Lib.hid ⟨_, hdn.out⟩⟩, by simp only [intOf]; omega⟩
          · have HI := Lib.hid (show Calls Tryd.prog 16 #[.pointer (some ⟨b, 0, none⟩), .int .i64 3, .int .u8 (V : Nat)] Wa fun e w' => e = .returned (.int .i64 0) ∧ Tq w' b (upd f 16 V) ∧ Wa.grownBy w' (some b) from in_ok 3 V Wa hq0.out.tl.ts.tq (by decide) hvb.out)
            have o1 := hq0.out.o.cell 1
            rw [show (#[.int .i64 3, .int .i64 3, .int .u8 (V : Nat)] : Array Value)[1]? = some (.int .i64 3) from rfl] at o1
            have o2 := hq0.out.o.cell 2
            rw [show (#[.int .i64 3, .int .i64 3, .int .u8 (V : Nat)] : Array Value)[2]? = some (.int .u8 (V : Nat)) from rfl] at o2
            clear hr HS HW HR
            go_wp2_with fail
            refine HI.out.mono ?_
            rintro e W4 ⟨rfl, hT4, hg4⟩
            have h4 : Rq w W4 b T X _ (upd f 16 V) f := hq0.out.tick ⟨hT4, hq0.out.tl.ts.pd.only hg4 hq0.out.tl.ts.ne, hq0.out.tl.ts.ne, hq0.out.tl.ts.good.upd hvb.out (by decide) (fun h => by omega) (fun h => by omega)⟩ hg4
            have cx := h4.d.cell 19
            rw [show (docC f)[19]? = some (.int .u8 (f 16 : Nat)) from rfl] at cx
            have yx := h4.d.free 19
            have o1b := h4.o.cell 1
            rw [show (#[.int .i64 3, .int .i64 3, .int .u8 (V : Nat)] : Array Value)[1]? = some (.int .i64 3) from rfl] at o1b
            have o2b := h4.o.cell 2
            rw [show (#[.int .i64 3, .int .i64 3, .int .u8 (V : Nat)] : Array Value)[2]? = some (.int .u8 (V : Nat)) from rfl] at o2b
            have hq := Lib.hid (h4.put 19 (.int .u8 (V : Nat)) (show (docC f).setIfInBounds 19 (.int .u8 (V : Nat)) = docC (upd f 16 V) by kernel_rfl))
            clear HI hT4 hg4 hq0 o1 o2 h4
            generalize f 16 = fj at *
            go_upto_region 39 with (fail)
            clear cx yx o1b o2b
            generalize W4.setCell ⟨T, 19, none⟩ (.int .u8 (V : Nat)) = W6 at *
            have c3 := hq.out.d.cell 3
            rw [show (docC (upd f 16 V))[3]? = some (.bool (decide (128 ≤ (upd f 16 V) 0))) from rfl] at c3
            have hsh : (decide (128 ≤ (upd f 16 V) 0) != decide (128 ≤ (upd f 16 V) 0)) = false := by cases decide (128 ≤ (upd f 16 V) 0) <;> rfl
            have HSh := Lib.hid fun Q (hQ : Tq Q b (upd f 16 V)) => shown_any Q hQ
            have hT := Lib.hid hq.out.tl.ts.tq
            have hdn := Lib.hid hq.out.drew.done
            generalize decide (128 ≤ (upd f 16 V) 0) = sh at *
            clear hq
            refine wp_region_still_tail 4 (by kernel_rfl) (by kernel_rfl) ?_
            simp only [List.take_succ_cons, List.take_zero, List.drop_succ_cons, List.drop_zero]
            repeat still_step
            still_call ((HSh.out _ (by exact hT.out)).mono (by rintro e w' ⟨rfl, rfl⟩; exact ⟨rfl, rfl⟩))
            repeat still_step
            refine wpStill_nil ?_
            show wpList _ _ _ _ _ (World.drew _)
            clear c3
            go_wp2_with fail
            exact ⟨⟨k + 1, by omega, by congr 1, Lib.hid ⟨_, hdn.out⟩⟩, by simp only [intOf]; omega⟩
      have t0 : (A == 0) = false := beq_eq_false_iff_ne.2 hA0
      have t1 : (A == 1) = false := beq_eq_false_iff_ne.2 hA1
      have t2 : (A == 2) = false := beq_eq_false_iff_ne.2 hA2
      have t3 : (A == 3) = false := beq_eq_false_iff_ne.2 hA3
      clear hA0 hA1 hA2 hA3
      by_cases hr : K < 0 ∨ 4 ≤ K
      · have HI := Lib.hid (out_no (b := b) K Wa hr)
        have o1 := hq0.out.o.cell 1
        rw [show (#[.int .i64 A, .int .i64 K, .int .u8 (V : Nat)] : Array Value)[1]? = some (.int .i64 K) from rfl] at o1
        rcases hr with h1 | h1
        · have q1 : ¬ 0 ≤ K := by omega
          have hx := Lib.hid h1
          clear h1
          go_wp2_with fail
          refine HI.out.mono ?_
          rintro e W4 ⟨rfl, rfl⟩
          have hq := hq0
          clear HI hq0
          go_upto_region 39 with (fail)
          clear o1
          have c3 := hq.out.d.cell 3
          rw [show (docC (f))[3]? = some (.bool (decide (128 ≤ (f) 0))) from rfl] at c3
          have hsh : (decide (128 ≤ (f) 0) != decide (128 ≤ (f) 0)) = false := by cases decide (128 ≤ (f) 0) <;> rfl
          have HSh := Lib.hid fun Q (hQ : Tq Q b (f)) => shown_any Q hQ
          have hT := Lib.hid hq.out.tl.ts.tq
          have hdn := Lib.hid hq.out.drew.done
          generalize decide (128 ≤ (f) 0) = sh at *
          clear hq
          refine wp_region_still_tail 4 (by kernel_rfl) (by kernel_rfl) ?_
          simp only [List.take_succ_cons, List.take_zero, List.drop_succ_cons, List.drop_zero]
          repeat still_step
          still_call ((HSh.out _ (by exact hT.out)).mono (by rintro e w' ⟨rfl, rfl⟩; exact ⟨rfl, rfl⟩))
          repeat still_step
          refine wpStill_nil ?_
          show wpList _ _ _ _ _ (World.drew _)
          clear c3
          go_wp2_with fail
          exact ⟨⟨k + 1, by omega, by congr 1, Lib.hid ⟨_, hdn.out⟩⟩, by simp only [intOf]; omega⟩
        · have q1 : 0 ≤ K := by omega
          have q2 : ¬ K < 4 := by omega
          clear h1
          go_wp2_with fail
          refine HI.out.mono ?_
          rintro e W4 ⟨rfl, rfl⟩
          have hq := hq0
          clear HI hq0
          go_upto_region 39 with (fail)
          clear o1
          have c3 := hq.out.d.cell 3
          rw [show (docC (f))[3]? = some (.bool (decide (128 ≤ (f) 0))) from rfl] at c3
          have hsh : (decide (128 ≤ (f) 0) != decide (128 ≤ (f) 0)) = false := by cases decide (128 ≤ (f) 0) <;> rfl
          have HSh := Lib.hid fun Q (hQ : Tq Q b (f)) => shown_any Q hQ
          have hT := Lib.hid hq.out.tl.ts.tq
          have hdn := Lib.hid hq.out.drew.done
          generalize decide (128 ≤ (f) 0) = sh at *
          clear hq
          refine wp_region_still_tail 4 (by kernel_rfl) (by kernel_rfl) ?_
          simp only [List.take_succ_cons, List.take_zero, List.drop_succ_cons, List.drop_zero]
          repeat still_step
          still_call ((HSh.out _ (by exact hT.out)).mono (by rintro e w' ⟨rfl, rfl⟩; exact ⟨rfl, rfl⟩))
          repeat still_step
          refine wpStill_nil ?_
          show wpList _ _ _ _ _ (World.drew _)
          clear c3
          go_wp2_with fail
          exact ⟨⟨k + 1, by omega, by congr 1, Lib.hid ⟨_, hdn.out⟩⟩, by simp only [intOf]; omega⟩
      · rcases (show K = 0 ∨ K = 1 ∨ K = 2 ∨ K = 3 by omega) with rfl | rfl | rfl | rfl
        · have HI := Lib.hid (show Calls Tryd.prog 17 #[.pointer (some ⟨b, 0, none⟩), .int .i64 0] Wa fun e w' => e = .returned (.tuple #[.int .u8 (f 17 : Nat), .int .i64 0]) ∧ w' = Wa from out_ok 0 Wa hq0.out.tl.ts.tq (by decide))
          have o1 := hq0.out.o.cell 1
          rw [show (#[.int .i64 A, .int .i64 0, .int .u8 (V : Nat)] : Array Value)[1]? = some (.int .i64 0) from rfl] at o1
          have cx := hq0.out.d.cell 20
          rw [show (docC f)[20]? = some (.int .u8 (f 17 : Nat)) from rfl] at cx
          have hvv : ((f 17 : Int) != (f 17 : Int)) = false := bne_self_eq_false _
          clear hr HS HW HR
          go_wp2_with fail
          refine HI.out.mono ?_
          rintro e W4 ⟨rfl, rfl⟩
          have hq := hq0
          clear HI hq0
          generalize f 17 = fj at *
          go_upto_region 39 with (fail)
          clear o1 cx hvv
          have c3 := hq.out.d.cell 3
          rw [show (docC (f))[3]? = some (.bool (decide (128 ≤ (f) 0))) from rfl] at c3
          have hsh : (decide (128 ≤ (f) 0) != decide (128 ≤ (f) 0)) = false := by cases decide (128 ≤ (f) 0) <;> rfl
          have HSh := Lib.hid fun Q (hQ : Tq Q b (f)) => shown_any Q hQ
          have hT := Lib.hid hq.out.tl.ts.tq
          have hdn := Lib.hid hq.out.drew.done
          generalize decide (128 ≤ (f) 0) = sh at *
          clear hq
          refine wp_region_still_tail 4 (by kernel_rfl) (by kernel_rfl) ?_
          simp only [List.take_succ_cons, List.take_zero, List.drop_succ_cons, List.drop_zero]
          repeat still_step
          still_call ((HSh.out _ (by exact hT.out)).mono (by rintro e w' ⟨rfl, rfl⟩; exact ⟨rfl, rfl⟩))
          repeat still_step
          refine wpStill_nil ?_
          show wpList _ _ _ _ _ (World.drew _)
          clear c3
          go_wp2_with fail
          exact ⟨⟨k + 1, by omega, by congr 1, Lib.hid ⟨_, hdn.out⟩⟩, by simp only [intOf]; omega⟩
        · have HI := Lib.hid (show Calls Tryd.prog 17 #[.pointer (some ⟨b, 0, none⟩), .int .i64 1] Wa fun e w' => e = .returned (.tuple #[.int .u8 (f 18 : Nat), .int .i64 0]) ∧ w' = Wa from out_ok 1 Wa hq0.out.tl.ts.tq (by decide))
          have o1 := hq0.out.o.cell 1
          rw [show (#[.int .i64 A, .int .i64 1, .int .u8 (V : Nat)] : Array Value)[1]? = some (.int .i64 1) from rfl] at o1
          have cx := hq0.out.d.cell 21
          rw [show (docC f)[21]? = some (.int .u8 (f 18 : Nat)) from rfl] at cx
          have hvv : ((f 18 : Int) != (f 18 : Int)) = false := bne_self_eq_false _
          clear hr HS HW HR
          go_wp2_with fail
          refine HI.out.mono ?_
          rintro e W4 ⟨rfl, rfl⟩
          have hq := hq0
          clear HI hq0
          generalize f 18 = fj at *
          go_upto_region 39 with (fail)
          clear o1 cx hvv
          have c3 := hq.out.d.cell 3
          rw [show (docC (f))[3]? = some (.bool (decide (128 ≤ (f) 0))) from rfl] at c3
          have hsh : (decide (128 ≤ (f) 0) != decide (128 ≤ (f) 0)) = false := by cases decide (128 ≤ (f) 0) <;> rfl
          have HSh := Lib.hid fun Q (hQ : Tq Q b (f)) => shown_any Q hQ
          have hT := Lib.hid hq.out.tl.ts.tq
          have hdn := Lib.hid hq.out.drew.done
          generalize decide (128 ≤ (f) 0) = sh at *
          clear hq
          refine wp_region_still_tail 4 (by kernel_rfl) (by kernel_rfl) ?_
          simp only [List.take_succ_cons, List.take_zero, List.drop_succ_cons, List.drop_zero]
          repeat still_step
          still_call ((HSh.out _ (by exact hT.out)).mono (by rintro e w' ⟨rfl, rfl⟩; exact ⟨rfl, rfl⟩))
          repeat still_step
          refine wpStill_nil ?_
          show wpList _ _ _ _ _ (World.drew _)
          clear c3
          go_wp2_with fail
          exact ⟨⟨k + 1, by omega, by congr 1, Lib.hid ⟨_, hdn.out⟩⟩, by simp only [intOf]; omega⟩
        · have HI := Lib.hid (show Calls Tryd.prog 17 #[.pointer (some ⟨b, 0, none⟩), .int .i64 2] Wa fun e w' => e = .returned (.tuple #[.int .u8 (f 19 : Nat), .int .i64 0]) ∧ w' = Wa from out_ok 2 Wa hq0.out.tl.ts.tq (by decide))
          have o1 := hq0.out.o.cell 1
          rw [show (#[.int .i64 A, .int .i64 2, .int .u8 (V : Nat)] : Array Value)[1]? = some (.int .i64 2) from rfl] at o1
          have cx := hq0.out.d.cell 22
          rw [show (docC f)[22]? = some (.int .u8 (f 19 : Nat)) from rfl] at cx
          have hvv : ((f 19 : Int) != (f 19 : Int)) = false := bne_self_eq_false _
          clear hr HS HW HR
          go_wp2_with fail
          refine HI.out.mono ?_
          rintro e W4 ⟨rfl, rfl⟩
          have hq := hq0
          clear HI hq0
          generalize f 19 = fj at *
          go_upto_region 39 with (fail)
          clear o1 cx hvv
          have c3 := hq.out.d.cell 3
          rw [show (docC (f))[3]? = some (.bool (decide (128 ≤ (f) 0))) from rfl] at c3
          have hsh : (decide (128 ≤ (f) 0) != decide (128 ≤ (f) 0)) = false := by cases decide (128 ≤ (f) 0) <;> rfl
          have HSh := Lib.hid fun Q (hQ : Tq Q b (f)) => shown_any Q hQ
          have hT := Lib.hid hq.out.tl.ts.tq
          have hdn := Lib.hid hq.out.drew.done
          generalize decide (128 ≤ (f) 0) = sh at *
          clear hq
          refine wp_region_still_tail 4 (by kernel_rfl) (by kernel_rfl) ?_
          simp only [List.take_succ_cons, List.take_zero, List.drop_succ_cons, List.drop_zero]
          repeat still_step
          still_call ((HSh.out _ (by exact hT.out)).mono (by rintro e w' ⟨rfl, rfl⟩; exact ⟨rfl, rfl⟩))
          repeat still_step
          refine wpStill_nil ?_
          show wpList _ _ _ _ _ (World.drew _)
          clear c3
          go_wp2_with fail
          exact ⟨⟨k + 1, by omega, by congr 1, Lib.hid ⟨_, hdn.out⟩⟩, by simp only [intOf]; omega⟩
        · have HI := Lib.hid (show Calls Tryd.prog 17 #[.pointer (some ⟨b, 0, none⟩), .int .i64 3] Wa fun e w' => e = .returned (.tuple #[.int .u8 (f 20 : Nat), .int .i64 0]) ∧ w' = Wa from out_ok 3 Wa hq0.out.tl.ts.tq (by decide))
          have o1 := hq0.out.o.cell 1
          rw [show (#[.int .i64 A, .int .i64 3, .int .u8 (V : Nat)] : Array Value)[1]? = some (.int .i64 3) from rfl] at o1
          have cx := hq0.out.d.cell 23
          rw [show (docC f)[23]? = some (.int .u8 (f 20 : Nat)) from rfl] at cx
          have hvv : ((f 20 : Int) != (f 20 : Int)) = false := bne_self_eq_false _
          clear hr HS HW HR
          go_wp2_with fail
          refine HI.out.mono ?_
          rintro e W4 ⟨rfl, rfl⟩
          have hq := hq0
          clear HI hq0
          generalize f 20 = fj at *
          go_upto_region 39 with (fail)
          clear o1 cx hvv
          have c3 := hq.out.d.cell 3
          rw [show (docC (f))[3]? = some (.bool (decide (128 ≤ (f) 0))) from rfl] at c3
          have hsh : (decide (128 ≤ (f) 0) != decide (128 ≤ (f) 0)) = false := by cases decide (128 ≤ (f) 0) <;> rfl
          have HSh := Lib.hid fun Q (hQ : Tq Q b (f)) => shown_any Q hQ
          have hT := Lib.hid hq.out.tl.ts.tq
          have hdn := Lib.hid hq.out.drew.done
          generalize decide (128 ≤ (f) 0) = sh at *
          clear hq
          refine wp_region_still_tail 4 (by kernel_rfl) (by kernel_rfl) ?_
          simp only [List.take_succ_cons, List.take_zero, List.drop_succ_cons, List.drop_zero]
          repeat still_step
          still_call ((HSh.out _ (by exact hT.out)).mono (by rintro e w' ⟨rfl, rfl⟩; exact ⟨rfl, rfl⟩))
          repeat still_step
          refine wpStill_nil ?_
          show wpList _ _ _ _ _ (World.drew _)
          clear c3
          go_wp2_with fail
          exact ⟨⟨k + 1, by omega, by congr 1, Lib.hid ⟨_, hdn.out⟩⟩, by simp only [intOf]; omega⟩
    · have hd := Lib.hid hL.d.drew
      have hT := Lib.hid hL.tl.ts.tq.drew
      have hbel := Lib.hid hL.tl.bel.drew
      have hgf := Lib.hid hL.tl.ts.good
      have HB := Lib.hid fun W => rbytes_any (f := f) W hgf.out
      clear hL HS HW HR HNr HV
      go_upto_region 41 with (fail)
      refine wp_region_any (by kernel_rfl) ?_
      change wpAny _ _ _ _ _ _ _ (World.drew _)
      refine wpAny_take (i := 0) (v := ?_) rfl (by kernel_rfl) (by kernel_rfl) (by kernel_rfl) (fun _ _ _ h => h) (Or.inl ⟨by rfl, ?_⟩) ?_
      rotate_left
      · intro w; go_simp; try (with_reducible rfl)
      refine wpAny_ready (rs := [1, 2]) (by kernel_rfl) (by simp) ?_
      refine AllReady.cons rfl (fun K hK => ?_) ?_
      · go_simp
        go_at_call 20
        refine (saved_any _ hT.out).mono ?_
        rintro e W2 ⟨G, rfl, hG, hGl, hB2⟩
        have b2 := Lib.hid (hbel.out.trans (hB2.mono hbel.out.size))
        have hd2 := Lib.hid (hd.out.below hB2 hd.out.lt)
        replace hG := Lib.hid hG
        clear hGl hB2
        try go_simp
        refine hK _ _ ?_
        clear hK K
        refine wpAny_ready (rs := [2]) (by kernel_rfl) (by simp) ?_
        refine AllReady.cons rfl (fun K hK => ?_) AllReady.nil
        refine step_load (by rfl) 30 _ (by rfl) _ _ (by rfl) (load_doc hd2.out) ?_
        refine hK _ _ ?_
        clear hK K
        refine wpAny_ready (rs := [3]) (by kernel_rfl) (by simp) ?_
        refine AllReady.cons rfl (fun K hK => ?_) AllReady.nil
        go_simp
        go_at_call 22
        refine (HB.out _).mono ?_
        rintro e W3 ⟨v3, rfl, hO3, hF3, hB3⟩
        have hG3 := Lib.hid (hG.out.below hB3 hG.out.lt)
        have b3 := Lib.hid (b2.out.trans (hB3.mono b2.out.size))
        obtain ⟨a3, c3, rfl, hR3⟩ := hO3.row
        replace hR3 := Lib.hid hR3
        clear hO3 hF3 hB3
        try go_simp
        refine hK _ _ ?_
        clear hK K
        refine wpAny_ready (rs := [4]) (by kernel_rfl) (by simp) ?_
        refine AllReady.cons rfl (fun K hK => ?_) AllReady.nil
        go_simp
        go_at_call 21
        refine (rsaved_any _ _ _ _ _ hR3.out (by decide)).mono ?_
        rintro e W4 ⟨v4, rfl, hO4, hF4, hB4⟩
        have hG4 := Lib.hid (hG3.out.below hB4 hG3.out.lt)
        have b4 := Lib.hid (b3.out.trans (hB4.mono b3.out.size))
        obtain ⟨a4, c4, rfl, hR4⟩ := hO4.row
        replace hR4 := Lib.hid hR4
        clear hO4 hF4 hB4
        try go_simp
        refine hK _ _ ?_
        clear hK K
        refine wpAny_ready (rs := [5]) (by kernel_rfl) (by simp) ?_
        refine AllReady.cons rfl (fun K hK => ?_) AllReady.nil
        go_simp
        go_at_call 19
        refine (same_any (some ⟨G, 0, none⟩) _ 41 41 _ (savF f) W4 hG4.out.row hR4.out (by decide)).mono ?_
        rintro e W5 ⟨rfl, q5, rfl⟩
        have b5 := Lib.hid (below_drewN b4.out q5)
        try go_simp
        refine hK _ _ ?_
        clear hK K
        refine wpAny_ready (rs := [6]) (by kernel_rfl) (by simp) ?_
        refine AllReady.cons rfl (fun K hK => ?_) AllReady.nil
        go_simp
        refine hK _ _ ?_
        clear hK K
        refine wpAny_done (by kernel_rfl) ?_ _
        go_wp2_with fail
        go_ret
        exact ⟨rfl, b5.out⟩
      refine AllReady.cons rfl (fun K hK => ?_) AllReady.nil
      refine step_load (by rfl) 30 _ (by rfl) _ _ (by rfl) (load_doc hd.out) ?_
      refine hK _ _ ?_
      clear hK K
      refine wpAny_ready (rs := [1]) (by kernel_rfl) (by simp) ?_
      refine AllReady.cons rfl (fun K hK => ?_) AllReady.nil
      go_simp
      go_at_call 20
      refine (saved_any _ hT.out).mono ?_
      rintro e W2 ⟨G, rfl, hG, hGl, hB2⟩
      have b2 := Lib.hid (hbel.out.trans (hB2.mono hbel.out.size))
      have hd2 := Lib.hid (hd.out.below hB2 hd.out.lt)
      replace hG := Lib.hid hG
      clear hGl hB2
      try go_simp
      refine hK _ _ ?_
      clear hK K
      refine wpAny_ready (rs := [3]) (by kernel_rfl) (by simp) ?_
      refine AllReady.cons rfl (fun K hK => ?_) AllReady.nil
      go_simp
      go_at_call 22
      refine (HB.out _).mono ?_
      rintro e W3 ⟨v3, rfl, hO3, hF3, hB3⟩
      have hG3 := Lib.hid (hG.out.below hB3 hG.out.lt)
      have b3 := Lib.hid (b2.out.trans (hB3.mono b2.out.size))
      obtain ⟨a3, c3, rfl, hR3⟩ := hO3.row
      replace hR3 := Lib.hid hR3
      clear hO3 hF3 hB3
      try go_simp
      refine hK _ _ ?_
      clear hK K
      refine wpAny_ready (rs := [4]) (by kernel_rfl) (by simp) ?_
      refine AllReady.cons rfl (fun K hK => ?_) AllReady.nil
      go_simp
      go_at_call 21
      refine (rsaved_any _ _ _ _ _ hR3.out (by decide)).mono ?_
      rintro e W4 ⟨v4, rfl, hO4, hF4, hB4⟩
      have hG4 := Lib.hid (hG3.out.below hB4 hG3.out.lt)
      have b4 := Lib.hid (b3.out.trans (hB4.mono b3.out.size))
      obtain ⟨a4, c4, rfl, hR4⟩ := hO4.row
      replace hR4 := Lib.hid hR4
      clear hO4 hF4 hB4
      try go_simp
      refine hK _ _ ?_
      clear hK K
      refine wpAny_ready (rs := [5]) (by kernel_rfl) (by simp) ?_
      refine AllReady.cons rfl (fun K hK => ?_) AllReady.nil
      go_simp
      go_at_call 19
      refine (same_any (some ⟨G, 0, none⟩) _ 41 41 _ (savF f) W4 hG4.out.row hR4.out (by decide)).mono ?_
      rintro e W5 ⟨rfl, q5, rfl⟩
      have b5 := Lib.hid (below_drewN b4.out q5)
      try go_simp
      refine hK _ _ ?_
      clear hK K
      refine wpAny_ready (rs := [6]) (by kernel_rfl) (by simp) ?_
      refine AllReady.cons rfl (fun K hK => ?_) AllReady.nil
      go_simp
      refine hK _ _ ?_
      clear hK K
      refine wpAny_done (by kernel_rfl) ?_ _
      go_wp2_with fail
      go_ret
      exact ⟨rfl, b5.out⟩
end Go.Proofs.YtbdhdedlemndeaaDoor
