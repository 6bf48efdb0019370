/-
  TickLoads: the walk (genkloads.py writes this text).
-/
import Derived.Test.YtbdhdedlemndeaaDoorKMa2
import Derived.Test.YtbdhdedlemndeaaDoorKTimes
import Derived.Test.YtbdhdedlemndeaaDoorKOpn
namespace Go.Proofs.YtbdhdedlemndeaaDoor
open Go.RowKit Go.Shelf
set_option maxRecDepth 100000
set_option maxHeartbeats 4000000
set_option linter.unusedVariables false
set_option linter.unusedSimpArgs false

/-- The saved bytes of a state. -/
def savF (f : Nat → Nat) : Nat → Nat := headF 28 (partF 13 23 f)
theorem Tl.grow {w W W' : World} {b : Nat} {f : Nat → Nat} (h : Tl w W b f) (hB : Below W.heap.size W W') : Tl w W' b f :=
  ⟨⟨h.ts.tq.below hB h.ts.tq.lt, h.ts.pd.below hB h.ts.pd.lt, h.ts.ne, h.ts.good⟩, h.lb, h.bel.trans (hB.mono h.bel.size)⟩
theorem part_shift {n : Nat} {f : Nat → Nat} (i : Nat) : shiftF 13 (headF n f) i = f i := by
  show headF n f (13 + i) = f i
  unfold headF
  repeat' split
  all_goals first | omega | (congr 1; omega)
theorem rd_new {w : World} {R m : Nat} {v : Value} {F : Nat → Nat} (h : Whole w R 86 (readerCells v 0 (fun _ => 0) 0)) (hO : Owns w v (5 + m) (partF 13 m F)) (hf : v.ownBlock ≠ some R) : Rd w R v (rsN m F) :=
  ⟨⟨_, h, rfl, rfl, rfl, fun i hi => by
    rcases (show i = 0 ∨ i = 1 ∨ i = 2 ∨ i = 3 ∨ i = 4 ∨ i = 5 ∨ i = 6 ∨ i = 7 ∨ i = 8 ∨ i = 9 ∨ i = 10 ∨ i = 11 ∨ i = 12 ∨ i = 13 ∨ i = 14 ∨ i = 15 by omega) with rfl | rfl | rfl | rfl | rfl | rfl | rfl | rfl | rfl | rfl | rfl | rfl | rfl | rfl | rfl | rfl <;> rfl, rfl⟩, hO, hf⟩
theorem closed_good {m : Nat} (F : Nat → Nat) (hm : 5 + m ≤ 16777216) : ((rsK m F m).closed).Good :=
  ⟨Nat.zero_le _, hm, Nat.le_refl _, fun i j _ hj => absurd hj (Nat.not_lt_zero _), fun i hi => absurd hi (Nat.not_lt_zero _)⟩
theorem loadE_take {m : Nat} {F : Nat → Nat} (h : takeE m ≠ 0) : loadE m F = takeE m := if_pos h
theorem savF_gF {F : Nat → Nat} (i : Nat) (hi : i < 41) : savF (gF F 23) i = savF F i := headF_congr (fun j hj => by
  unfold partF gF
  split
  · rfl
  · split
    · rfl
    · rw [if_pos (by omega)]) i hi
theorem nat_wrap8 (z : Int) : ∃ k : Nat, IntKind.u8.wrap z = (k : Int) ∧ k < 256 := ⟨(z % 256).toNat, by simp only [IntKind.wrap_u8]; omega, by omega⟩
namespace tickLoads
/-- Where the law stands behind NewReader. -/
structure At (w : World) (b R m G : Nat) (v : Value) (f F : Nat → Nat) (W : World) : Prop where
  tl : Tl w W b f
  rd : Rd W R v (rsN m F)
  hG : Holds W G 41 (savF f)
  bG : b ≠ G
  RG : R ≠ G
  lR : w.heap.size ≤ R
  r0 : R ≠ 0
/-- .. and behind Load. -/
structure Bt2 (w : World) (b R m G : Nat) (v : Value) (f F : Nat → Nat) (W : World) : Prop where
  no : loadE m F ≠ 0 → Tq W b f
  ok : loadE m F = 0 → m = 23 ∧ Tq W b (gF F 23) ∧ Rd W R v (rsK m F m).closed
  hG : Holds W G 41 (savF f)
  bel : Below w.heap.size w W
theorem at_load {w W : World} {b R m G : Nat} {v : Value} {f F : Nat → Nat} (h : At w b R m G v f F W) (hm : 5 + m ≤ 16777216) (hF : ∀ i, i < m → F i < 256) :
    Calls Tryd.prog 24 #[.pointer (some ⟨b, 0, none⟩), .pointer (some ⟨R, 0, none⟩)] W fun e w' => e = .returned (.int .i64 (loadE m F : Nat)) ∧ Bt2 w b R m G v f F w' :=
  (kload_any W h.tl.ts.tq h.tl.ts.pd h.rd hm hF h.r0).mono fun e w' ⟨he, hL⟩ => by
    refine ⟨he, hL.no, fun e0 => ⟨(hL.ok e0).1, (hL.ok e0).2.1, (hL.ok e0).2.2.2⟩, ?_, ?_⟩
    · obtain ⟨cs, hw, r⟩ := h.hG
      exact ⟨cs, hL.fr.whole hw (by rintro (e | e); exact h.RG e.symm; exact h.bG e.symm), r⟩
    · exact h.tl.bel.trans (hL.fr.below h.tl.bel.size (by rintro k (e | e); rw [e]; exact h.lR; rw [e]; exact h.tl.lb))
theorem walk (a : Option Addr) (m c : Nat) (F : Nat → Nat) (a1 : Option Addr) (n c1 : Nat) (fW fK : Nat → Int) (fV : Nat → Nat) (w : World) (hp : Pd w) (hR : Row w a m F) (hmc : m ≤ c) (hm : m ≤ 140737488351232) (hO : ORow w a1 n fW fK fV) (hn : n ≤ 140737488355328) :
    Calls Tryd.prog 4 #[.slice a m c, .slice a1 n c1] w fun e w' => e = .returned (.bool true) ∧ Below w.heap.size w w' := by
  have HN := Lib.hid (knew_any w)
  have HS := Lib.hid fun W f b (h : Tl w W b f) => kstep_any W h.ts
  have HW := Lib.hid fun W f b r v (h : Tl w W b f) (hv : v < 256) => kwrite_any r v W h.ts hv
  have HV := Lib.hid fun W f b (h : Tl w W b f) => saved_any W h.ts.tq
  have HD := Lib.hid fun W (hB : Below w.heap.size w W) => rsaved_any a m c F W (hR.below hB) hm
  have hni : (n : Int) ≤ 140737488355328 := by omega
  have hp0 := Lib.hid hp
  have hR0 := Lib.hid hR
  have hO0 := Lib.hid hO
  have hmI : (m : Int) ≤ 140737488351232 := by omega
  have hm0 := Lib.hid hm
  have hmc0 := Lib.hid hmc
  clear hp hR hO hmc hn hm
  go_enter Tryd.func4, Tryd.ntmps4
  go_wp2_with fail
  refine HN.out.mono ?_
  rintro e W1 ⟨b, rfl, hb, hT1, hB1⟩
  have hL1 : Tl w W1 b newF := ⟨⟨hT1, hp0.out.below hB1 hp0.out.lt, by have := hp0.out.lt; omega, newF_good⟩, hb, hB1⟩
  replace hL1 := Lib.hid hL1
  clear HN hT1 hB1 hb
  go_wp2_with fail
  go_loopw [6] (fun i wr => ∃ k : Nat, k ≤ n ∧ i = .int .i64 k ∧ Hid (∃ f, Tl w wr b f)) (fun i _ => n - (intOf i).toNat)
  case atStart => exact ⟨0, Nat.zero_le _, rfl, Lib.hid ⟨_, hL1.out⟩⟩
  case round =>
    obtain ⟨k, hk, rfl, hH⟩ := hrel
    obtain ⟨wo, rfl⟩ : ∃ wo, wo = wr := ⟨_, rfl⟩
    obtain ⟨f, hL⟩ := hH.out
    clear hL1 hH
    by_cases hlt : k < n
    · obtain ⟨hb, h0 | ⟨ob, oo, rfl, hbl, hc⟩⟩ := hO0.out.below hL.bel
      · omega
      obtain ⟨q0, q1, q2⟩ := hc k hlt
      obtain ⟨kb, hkw, hkb⟩ := nat_wrap8 (fK k)
      have hvb := (hb k hlt).2
      have hLd : Tl w wo.drew b f := ⟨⟨hL.ts.tq.drew, ⟨hL.ts.pd.lt, hL.ts.pd.p0, hL.ts.pd.p1, hL.ts.pd.p2⟩, hL.ts.ne, hL.ts.good⟩, hL.lb, hL.bel.drew⟩
      have HW1 := Lib.hid (HW.out _ _ _ kb (fV k) hLd hvb)
      replace hLd := Lib.hid hLd
      replace hvb := Lib.hid hvb
      clear hb hc hL q0
      generalize fK k = Z at *
      generalize fV k = V at *
      go_upto_region 5 with (fail)
      refine wp_region_still_tail 12 (by kernel_rfl) (by kernel_rfl) ?_
      simp only [List.take_succ_cons, List.take_zero, List.drop_succ_cons, List.drop_zero]
      repeat still_step
      refine wpStill_nil ?_
      show wpList _ _ _ _ _ wo.drew
      generalize wo.drew = W2 at *
      clear q1 q2 hkw
      go_wp2_with fail
      refine HW1.out.mono ?_
      rintro e W3 ⟨rfl, hT3, hg3⟩
      have hL3 := hLd.out.step hT3 hg3
      have HS3 := Lib.hid (HS.out _ _ _ hL3)
      replace hL3 := Lib.hid hL3
      clear HW1 hT3 hg3 hLd
      go_wp2_with fail
      refine HS3.out.mono ?_
      rintro e W4 ⟨rfl, hT4, hg4⟩
      have hL4 := Lib.hid (hL3.out.step hT4 hg4)
      clear HS3 hT4 hg4 hL3
      go_wp2_with fail
      refine ⟨⟨k + 1, by omega, by congr 1, Lib.hid ⟨_, hL4.out⟩⟩, ?_⟩
      simp only [intOf]
      omega
    · have HV1 := Lib.hid (HV.out _ _ _ hL)
      replace hL := Lib.hid hL
      clear HW HS
      go_wp2_with fail
      refine HV1.out.mono ?_
      rintro e W2 ⟨G, rfl, hG, hGl, hB2⟩
      have hL2 := hL.out.grow hB2
      have HD1 := Lib.hid (HD.out _ hL2.bel)
      have hbG : b ≠ G := fun e => by have := hL.out.ts.tq.lt; omega
      have hGlt := Lib.hid hG.lt
      replace hG := Lib.hid hG
      replace hL2 := Lib.hid hL2
      replace hbG := Lib.hid hbG
      clear HV1 hGl hB2 hL
      go_wp2_with fail
      refine HD1.out.mono ?_
      rintro e W3 ⟨v8, rfl, hO8, hF8, hB3⟩
      obtain ⟨g8, c8, rfl, hc8⟩ : ∃ g8 c8, v8 = .slice (some ⟨g8, 0, none⟩) (13 + (5 + m)) c8 ∧ 13 + (5 + m) ≤ c8 := by
        rcases hO8.2 with ⟨_, h0⟩ | ⟨g8, c8, cs, rfl, _, h1, _⟩
        · omega
        · exact ⟨g8, c8, rfl, h1⟩
      obtain ⟨a8, c8', e8, hR8⟩ := hO8.row
      injection e8 with e8a e8b e8c
      subst e8a e8c
      have hL3 := hL2.out.grow hB3
      have hG3 := hG.out.below hB3 hGlt.out
      have hGlt3 := Lib.hid (Nat.lt_of_lt_of_le hGlt.out hB3.size)
      replace hL3 := Lib.hid hL3
      replace hG3 := Lib.hid hG3
      clear HD1 hO8 hF8 hB3 hL2 hG
      by_cases hE : openE (13 + (5 + m)) (headF (5 + m) (partF 13 m F)) = 0
      · have hm24 : 5 + m ≤ 16777216 := by have := (openE_n hE).2; omega
        have HN8 := Lib.hid (newReader_ok W3 hR8 hc8 (by have := hm0.out; omega) hE)
        replace hm24 := Lib.hid hm24
        clear hE hR8 hc8
        go_wp2_with fail
        refine HN8.out.mono ?_
        rintro e W4 ⟨R, v9, rfl, hw4, hO4, hf4, hR4, hB4⟩
        have hrd : Rd W4 R v9 (rsN m F) := rd_new hw4 (by
          have := hO4.congr (f' := partF 13 m F) (fun i hi => (part_shift i).symm)
          rw [show 13 + (5 + m) - 13 = 5 + m by omega] at this
          exact this) (fun e => (hf4 R e).2 rfl)
        have hA : At w b R m G v9 f F W4 := ⟨hL3.out.grow hB4, hrd, hG3.out.below hB4 hG3.out.lt, hbG.out, fun e => by have := hGlt3.out; omega, Nat.le_trans hL3.out.bel.size hR4, fun e => by have := hp0.out.lt; have := hL3.out.bel.size; omega⟩
        have hRl0 := Lib.hid (Nat.le_trans hL3.out.bel.size hR4)
        have HL := Lib.hid (at_load hA hm24.out (fun i hi => hR0.out.1 i hi))
        clear HN8 hw4 hO4 hf4 hR4 hB4 hrd hL3 hG3 hGlt3 hA hbG hGlt
        go_wp2_with fail
        refine HL.out.mono ?_
        rintro e W5 ⟨rfl, hB5⟩
        replace hB5 := Lib.hid hB5
        clear HL
        have HV5 := Lib.hid fun f' (hT : Tq W5 b f') => saved_any W5 hT
        by_cases h1 : m < 23
        · have e5 : loadE m F = 56 := by rw [loadE_take (by unfold takeE; rw [if_pos h1]; decide)]; exact if_pos h1
          have t0 : ((56 : Nat) : Int) = 56 := rfl
          rw [e5]
          have h1i : (m : Int) < 23 := by omega
          have hT5 := hB5.out.no (by rw [e5]; decide)
          have HV1 := Lib.hid (HV5.out _ hT5)
          clear HV5 e5
          go_wp2_with fail
          refine HV1.out.mono ?_
          rintro e W6 ⟨G6, rfl, hG6, hGl6, hB6⟩
          have hG5 := hB5.out.hG.below hB6 hB5.out.hG.lt
          have hY := Lib.hid (same_any (some ⟨G6, 0, none⟩) (some ⟨G, 0, none⟩) 41 41 41 (savF f) W6 hG6.row hG5.row (by decide))
          have hb6 := Lib.hid (hB5.out.bel.trans (hB6.mono hB5.out.bel.size))
          clear HV1 hG6 hGl6 hB6 hG5
          go_wp2_with fail
          refine hY.out.mono ?_
          rintro e W7 ⟨rfl, q7, rfl⟩
          have hb7 := Lib.hid (below_drewN hb6.out q7)
          clear hY hb6
          go_wp2_with fail
          go_ret
          exact ⟨rfl, hb7.out⟩
        by_cases h2 : 23 < m
        · have e5 : loadE m F = 59 := by
            have : takeE m = 59 := by unfold takeE; rw [if_neg h1, if_neg (by omega)]
            rw [loadE_take (by rw [this]; decide), this]
          rw [e5]
          have h1i : ¬ (m : Int) < 23 := by omega
          have h2i : (23 : Int) < (m : Int) := by omega
          have hT5 := hB5.out.no (by rw [e5]; decide)
          have HV1 := Lib.hid (HV5.out _ hT5)
          clear HV5 e5
          go_wp2_with fail
          refine HV1.out.mono ?_
          rintro e W6 ⟨G6, rfl, hG6, hGl6, hB6⟩
          have hG5 := hB5.out.hG.below hB6 hB5.out.hG.lt
          have hY := Lib.hid (same_any (some ⟨G6, 0, none⟩) (some ⟨G, 0, none⟩) 41 41 41 (savF f) W6 hG6.row hG5.row (by decide))
          have hb6 := Lib.hid (hB5.out.bel.trans (hB6.mono hB5.out.bel.size))
          clear HV1 hG6 hGl6 hB6 hG5
          go_wp2_with fail
          refine hY.out.mono ?_
          rintro e W7 ⟨rfl, q7, rfl⟩
          have hb7 := Lib.hid (below_drewN hb6.out q7)
          clear hY hb6
          go_wp2_with fail
          go_ret
          exact ⟨rfl, hb7.out⟩
        obtain rfl : m = 23 := by omega
        obtain ⟨g, o, rfl⟩ : ∃ g o, a = some ⟨g, o, none⟩ := by
          rcases hR0.out.2 with h0 | ⟨g, o, e, _⟩
          · exact absurd h0 (by decide)
          · exact ⟨g, o, e⟩
        have HM := Lib.hid (rmay_any (c := c) W5 (hR0.out.below hB5.out.bel))
        have hLE : loadE 23 F = if canB (gF F 23) then 0 else 130 := by unfold loadE; rw [if_neg (by decide)]
        by_cases hcb : canB (gF F 23) = true
        · have e5 : loadE 23 F = 0 := by rw [hLE, if_pos hcb]
          rw [hcb] at HM
          rw [e5]
          obtain ⟨_, hT5, hR5⟩ := hB5.out.ok e5
          replace hR5 := Lib.hid hR5
          have HV1 := HV5.out _ hT5
          have hbel5 := Lib.hid hB5.out.bel
          clear hLE HV5 hB5 h1 h2 e5
          replace HM := Lib.hid HM.out
          have HV2 := Lib.hid fun q : Nat => saved_any (W5.drewN q) (hT5.drewN q)
          replace hcb := Lib.hid hcb
          clear HV1 hT5
          go_wp2_with fail
          refine HM.out.mono ?_
          rintro e W6 ⟨rfl, q6, rfl⟩
          have hR6 := Lib.hid (hR5.out.drewN q6)
          have hbel6 := Lib.hid (below_drewN hbel5.out q6)
          have HV3 := Lib.hid (HV2.out q6)
          clear HV2 HM hbel5 hR5
          generalize W5.drewN q6 = W6 at *
          go_wp2_with fail
          refine HV3.out.mono ?_
          rintro e W7 ⟨G7, rfl, hG7, hGl7, hB7⟩
          have hb7 := hbel6.out.trans (hB7.mono hbel6.out.size)
          have hR7 := Lib.hid (hR6.out.below hB7)
          have HD7 := Lib.hid (HD.out _ hb7)
          have hG7' := Lib.hid (hG7.congr (f' := savF F) (fun i hi => savF_gF i hi))
          replace hb7 := Lib.hid hb7
          clear HV3 hG7 hGl7 hB7 hR6 hbel6
          go_wp2_with fail
          refine HD7.out.mono ?_
          rintro e W8 ⟨v8, rfl, hO8, hF8, hB8⟩
          obtain ⟨a8, c8, e8, hR8⟩ := hO8.row
          have hG8 := hG7'.out.below hB8 hG7'.out.lt
          have hY := Lib.hid (same_any (some ⟨G7, 0, none⟩) a8 41 41 c8 (savF F) W8 hG8.row hR8 (by decide))
          have hb8 := hb7.out.trans (hB8.mono hb7.out.size)
          have hRr := hR7.out.below hB8
          subst e8
          replace hb8 := Lib.hid hb8
          replace hRr := Lib.hid hRr
          clear HD7 hO8 hF8 hB8 hR8 hG8 hR7 hb7
          go_wp2_with fail
          refine hY.out.mono ?_
          rintro e W9 ⟨rfl, q9, rfl⟩
          have HDn := rdone_any _ (hRr.out.drewN q9) (closed_good F hm24.out)
          rw [rsK_done, if_pos rfl] at HDn
          have hb9 := Lib.hid (below_drewN hb8.out q9)
          have hR9l := Lib.hid (hRr.out.drewN q9).head.lt
          replace HDn := Lib.hid HDn
          clear hY hRr hb8
          generalize W8.drewN q9 = W9 at *
          go_wp2_with fail
          refine HDn.out.mono ?_
          rintro e W10 ⟨rfl, -, hg10⟩
          have hb10 := Lib.hid (below_of_grown hb9.out hg10 hRl0.out hb9.out.size)
          clear HDn hg10 hb9
          go_wp2_with fail
          go_ret
          exact ⟨rfl, hb10.out⟩
        · have e5 : loadE 23 F = 130 := by rw [hLE, if_neg hcb]
          have hcb' : canB (gF F 23) = false := by simpa using hcb
          rw [hcb'] at HM
          rw [e5]
          have hT5 := hB5.out.no (by rw [e5]; decide)
          have HV2 := Lib.hid fun q : Nat => saved_any (W5.drewN q) (hT5.drewN q)
          have hG5 := Lib.hid hB5.out.hG
          have hbel5 := Lib.hid hB5.out.bel
          clear hLE HV5 hB5 h1 h2 e5 hT5 hcb hcb'
          replace HM := Lib.hid HM.out
          go_wp2_with fail
          refine HM.out.mono ?_
          rintro e W6 ⟨rfl, q6, rfl⟩
          have hG6 := Lib.hid (hG5.out.drewN q6)
          have hbel6 := Lib.hid (below_drewN hbel5.out q6)
          have HV3 := Lib.hid (HV2.out q6)
          clear HV2 HM hbel5 hG5
          generalize W5.drewN q6 = W6 at *
          go_wp2_with fail
          refine HV3.out.mono ?_
          rintro e W7 ⟨G7, rfl, hG7, hGl7, hB7⟩
          have hb7 := Lib.hid (hbel6.out.trans (hB7.mono hbel6.out.size))
          have hGr := hG6.out.below hB7 hG6.out.lt
          have hY := Lib.hid (same_any (some ⟨G7, 0, none⟩) (some ⟨G, 0, none⟩) 41 41 41 (savF f) W7 hG7.row hGr.row (by decide))
          clear HV3 hG7 hGl7 hB7 hGr hG6 hbel6
          go_wp2_with fail
          refine hY.out.mono ?_
          rintro e W9 ⟨rfl, q9, rfl⟩
          have hb9 := Lib.hid (below_drewN hb7.out q9)
          clear hY hb7
          go_wp2_with fail
          go_ret
          exact ⟨rfl, hb9.out⟩
      · have HN8 := Lib.hid (newReader_no W3 hR8 hc8 (by have := hm0.out; omega) hE)
        have hbig : 1048576 < m := by
          rcases Nat.lt_or_ge 1048576 m with h | h
          · exact h
          · exact absurd (head_ok (partF 13 m F) (show 5 + m ≤ 16777216 by omega)) hE
        have hbi : (1048576 : Int) < (m : Int) := by omega
        generalize openE (13 + (5 + m)) (headF (5 + m) (partF 13 m F)) = E at *
        have t1 : ((E : Int) == 0) = false := beq_eq_false_iff_ne.2 (by omega)
        have t2 : ((E : Int) != 0) = true := by rw [bne, t1]; rfl
        clear hE hR8 hc8
        go_wp2_with fail
        refine HN8.out.mono ?_
        rintro e W4 ⟨rfl, hB4⟩
        have hb4 := Lib.hid (hL3.out.bel.trans (hB4.mono hL3.out.bel.size))
        clear HN8 hB4
        go_wp2_with fail
        go_ret
        exact ⟨rfl, hb4.out⟩
end tickLoads
end Go.Proofs.YtbdhdedlemndeaaDoor
