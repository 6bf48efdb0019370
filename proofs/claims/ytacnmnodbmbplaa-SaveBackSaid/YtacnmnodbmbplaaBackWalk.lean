/-
  SaveBack: the walk.
-/
import Derived.Test.YtacnmnodbmbplaaBackSt
import Derived.Test.YtacnmnodbmbplaaSmall
import Derived.Lib.QuietBelow
import Derived.Deep.DeepCutAuto
import Derived.BigQuiet
namespace Go.Proofs.Ytacnmnodbmbplaa
open Go.RowKit Go.Shelf
set_option maxRecDepth 100000
set_option maxHeartbeats 2000000
set_option linter.unusedVariables false

namespace saveBack
theorem walk (sa : Option Addr) (sn sc : Nat) (sf : Nat → Pt) (w : World) (hS : PutsLie w sa sn sf) (hsn : sn ≤ maxLen) :
    Calls Try.prog 5 #[.slice sa sn sc] w fun e w' => e = .returned (.bool true) ∧ Below w.heap.size w w' := by
  have hHsn := Lib.hid hsn
  have hHS := Lib.hid hS
  clear hsn hS
  go_enter Try.func5, Try.ntmps5
  go_wp2_with fail
  refine (small_any w).mono ?_
  rintro e W2 ⟨G0, rfl, _, _, hB2⟩
  have hHS2 := Lib.hid (hHS.out.below hB2)
  obtain ⟨B, hBe⟩ : ∃ B, w.heap.size = B := ⟨_, rfl⟩
  rw [hBe] at hB2
  go_wp2_with fail
  refine (newWriter W2.heap.size W2 W2 (Below.refl _ _) (Nat.le_refl _)).mono ?_
  rintro e W3 ⟨b, rfl, hL3⟩
  clear hHS
  have hBl2 : B ≤ W2.heap.size := hBe ▸ hB2.size
  replace hBe := Lib.hid hBe
  go_wp2_with fail
  go_loopw [8, 7, 6] (fun s8 s7 s6 wr => ∃ (k op sz : Nat) (v : Value), k ≤ sn ∧ s8 = .int .i64 k ∧ s7 = .int .i64 sz ∧ s6 = .int .i64 op ∧ Hid (Ran sf k op sz) ∧ Live W2.heap.size W2 wr b v (runS sf k)) (fun s8 _ _ _ => sn - (intOf s8).toNat)
  case atStart => exact ⟨0, 0, 0, _, Nat.zero_le _, rfl, rfl, rfl, Lib.hid (ran_zero sf), hL3⟩
  case round =>
    obtain ⟨k, op, sz, v, hk, rfl, rfl, rfl, hRan, hL⟩ := hrel
    obtain ⟨wo, rfl⟩ : ∃ wo, wo = wr := ⟨_, rfl⟩
    by_cases hlt : k < sn
    · as_aux_lemma =>
      rcases (hHS2.out.below hL.bel) with h0 | ⟨x, o, rfl, hx, hc⟩
      · omega
      obtain ⟨c0, c1, c2, hrow, hrl, _⟩ := hc k hlt
      clear hc
      have hop16 := hRan.out.lo
      have hsz := hRan.out.ls
      obtain ⟨hli, hw64, hk2⟩ := back_k hHsn.out hlt
      obtain ⟨X, hX⟩ : ∃ X, 13 + (sf k).len = X := ⟨_, rfl⟩
      obtain ⟨Y, hY⟩ : ∃ Y, sz + X = Y := ⟨_, rfl⟩
      obtain ⟨x1, x2, x3, x4⟩ := back_sums hX hY hrl hsz
      have hXY := Lib.hid (And.intro hX hY)
      replace hsz := Lib.hid hsz
      have hP5 := Whole.fresh wo 32 #[.int .i64 (sf k).what, .int .i64 (sf k).n, .slice (sf k).a (sf k).len (sf k).cap]
      have hB5 := (Below.refl wo.heap.size wo).alloc (Nat.le_refl _) (.cells #[.int .i64 (sf k).what, .int .i64 (sf k).n, .slice (sf k).a (sf k).len (sf k).cap] 32)
      have hL5 := Lib.hid (hL.below hB5)
      have hrow5 := Lib.hid (hrow.below hB5)
      replace hk2 := Lib.hid hk2
      replace hrl := Lib.hid hrl
      clear hrow hX hY hL hL3 hB5
      go_upto_region 11 with (fail)
      generalize wo.alloc (.cells #[.int .i64 (sf k).what, .int .i64 (sf k).n, .slice (sf k).a (sf k).len (sf k).cap] 32) = W5 at *
      have p0 := hP5.cell 0
      have p1 := hP5.cell 1
      have p2 := hP5.cell 2
      simp only [List.getElem?_toArray, List.getElem?_cons_zero, List.getElem?_cons_succ] at p0 p1 p2
      clear c0 c1 c2
      obtain ⟨z, hz⟩ : ∃ z, openI (sf k).what op = z := ⟨_, rfl⟩
      have hzr : -1 ≤ z ∧ z ≤ 17 := by
        rw [← hz]; unfold openI
        split
        · omega
        · split <;> omega
      have hways := Lib.hid (open_ways (sf k).what op)
      rw [hz] at hways
      replace hz := Lib.hid hz
      go_upto_if 41 with (fail)
      go_cut [6] (fun s6 wx => s6 = .int .i64 z ∧ wx = W5)
      case first =>
        rcases hways.out with ⟨t6, rfl⟩ | ⟨⟨t6, t7⟩, rfl⟩ | ⟨⟨t6, t7, t8⟩, rfl⟩ | ⟨⟨t6, t7, t8⟩, rfl⟩
        · as_aux_lemma =>
          have t6b : ((sf k).what == 6) = true := by rw [t6]; rfl
          clear t6
          clear hways hz hzr x1 x2 x3 x4 hw64 hli hlt hk hx hsz hk2 hBl2
          go_wp2_with fail
          go_meet
          exact ⟨rfl, rfl⟩
        · have t9 : 6 < (sf k).what := by simpa using t7
          clear hways hz hzr x1 x2 x3 x4 hw64 hli hlt hk hx hsz hk2 hBl2
          go_wp2_with fail
          go_meet
          exact ⟨rfl, rfl⟩
        · have t9 : ¬ 6 < (sf k).what := by simpa using t7
          have t10 : (sf k).what < 0 := by simpa using t8
          clear hways hz hzr x1 x2 x3 x4 hw64 hli hlt hk hx hsz hk2 hBl2
          go_wp2_with fail
          go_meet
          exact ⟨rfl, rfl⟩
        · have t9 : ¬ 6 < (sf k).what := by simpa using t7
          have t10 : ¬ (sf k).what < 0 := by simpa using t8
          clear hways hz hzr x1 x2 x3 x4 hw64 hli hlt hk hx hsz hk2 hBl2
          go_wp2_with fail
          go_meet
          exact ⟨rfl, rfl⟩
      case rest =>
        obtain ⟨rfl, rfl⟩ := hcut
        have hfin := Lib.hid (show Below w.heap.size w wc from hBe.out.symm ▸ hB2.trans (hL5.out.bel.mono hBl2))
        replace hlt := Lib.hid hlt
        clear hways x1 x2 x3 hHS2 hx hli
        by_cases hz0 : z < 0
        · clear hzr hop16 hw64 hk hk2 p0 p1 p2
          go_wp2_with fail
          go_ret
          exact ⟨rfl, hfin.out⟩
        by_cases hz1 : 16 < z
        · clear hzr hop16 hw64 hk hk2 p0 p1 p2
          go_wp2_with fail
          go_ret
          exact ⟨rfl, hfin.out⟩
        obtain ⟨op', rfl⟩ := Int.eq_ofNat_of_zero_le (show 0 ≤ z by omega)
        by_cases hm : 16777216 < Y
        · have d1 : decide (16777216 < Y) = true := decide_eq_true hm
          have d2 : decide ((16777216 : Int) < (Y : Int)) = true := decide_eq_true (by omega)
          clear hzr hop16 hw64 hk hk2 p0 p1 p2 hm
          go_wp2_with fail
          go_ret
          exact ⟨rfl, hfin.out⟩
        have d1 : decide (16777216 < Y) = false := decide_eq_false hm
        have d2 : decide ((16777216 : Int) < (Y : Int)) = false := decide_eq_false (by omega)
        have hRan2 : Ran sf (k + 1) op' Y := by
          obtain ⟨e1, e2⟩ := hXY.out
          have := hRan.out.next hz.out (by omega) (by rw [e1, e2]; omega)
          rwa [e1, e2] at this
        have hwhen := run_when (hRan.out.fe k (Nat.le_refl _))
        have HP := puts_any (sf k).what (sf k).n (sf k).a (sf k).len (sf k).cap (sf k).f wc hL5.out.wr hrow5.out (Nat.le_trans hrl.out (by decide))
        rw [hwhen] at HP
        replace HP := Lib.hid HP
        unfold putV at HP
        replace hRan2 := Lib.hid hRan2
        clear hzr hop16 hm hwhen hz hRan
        go_wp2_with fail
        refine HP.out.mono ?_
        rintro e W' ⟨rfl, v', h1, h2, h3⟩
        have hL' := hL5.out.step h1 h2 h3
        clear HP h1 h2 h3 p0 p1 p2 hP5 hL5 hrow5 hfin
        go_wp2_with fail
        go_roundw
        case rel => exact ⟨k + 1, op', Y, v', hlt.out, by go_num, rfl, rfl, hRan2, hL'⟩
        case measure => have := hlt.out; simp [intOf]; omega
    · obtain rfl : k = sn := by omega
      obtain ⟨hgk, hsk⟩ := run_good hRan.out.fe k (Nat.le_refl _)
      have hek := hRan.out.fe k (Nat.le_refl _)
      have hcl := close_goes hgk hsk hek
      rw [hRan.out.fo] at hcl
      have hfin := Lib.hid (show ∀ W, Below W2.heap.size W2 W → Below w.heap.size w W from fun W hW => hBe.out.symm ▸ hB2.trans (hW.mono hBl2))
      have hop16 := hRan.out.lo
      replace hcl := Lib.hid hcl
      replace hgk := Lib.hid hgk
      replace hsk := Lib.hid hsk
      replace hek := Lib.hid hek
      clear hL3 hB2 hBl2 hBe hlt
      go_wp2_with fail
      go_loopw [6] (fun s6 wq => ∃ (i q : Nat) (v : Value), i + q = op ∧ s6 = .int .i64 q ∧ Live W2.heap.size W2 wq b v (closeS (runS sf k) i)) (fun s6 _ => (intOf s6).toNat)
      case atStart => exact ⟨0, op, v, Nat.zero_add _, rfl, hL⟩
      case round =>
        obtain ⟨i, q, v, hiq, rfl, hL⟩ := hrel
        obtain ⟨wo, rfl⟩ : ∃ wo, wo = wr := ⟨_, rfl⟩
        rcases q with _ | q
        · obtain rfl : i = op := by omega
          obtain ⟨e1, e2, e3, e4, e5⟩ := hcl.out i (Nat.le_refl _)
          have hde : (closeS (runS sf k) i).doneE = 0 := by unfold St.doneE; rw [if_pos e1, if_neg (by omega)]
          have HD := Lib.hid (wdone_ok wo hL.wr hde)
          have hNb := e3.n
          have hfc := fut_close hgk.out hsk.out hek.out
          rw [hRan.out.fo] at hfc
          replace hfc := Lib.hid hfc
          have hfr := Lib.hid (fut_run (F := (closeS (runS sf k) i).f) (N := (closeS (runS sf k) i).n) hRan.out.fe (by have := hfc.out i (Nat.le_refl _); rwa [Nat.sub_self] at this))
          have hTop := Lib.hid e2
          generalize hT : closeS (runS sf k) i = T at *
          replace hT := Lib.hid hT
          clear e1 e2 e3 e4 e5 hde
          replace hNb := Lib.hid hNb
          go_wp2_with fail
          refine HD.out.mono ?_
          rintro e W5 ⟨G, rfl, hG, hGl, hB5⟩
          have hL5 := hL.below hB5
          have HN := Lib.hid (newReader_ok (c := 13 + T.n) W5 hG.row (Nat.le_refl _) (by have := hNb.out; omega) (head_ok T.f hNb.out))
          have hbel5 := Lib.hid hL5.bel
          have hN13 : 13 + T.n - 13 = T.n := Nat.add_sub_cancel_left _ _
          have hF13 : shiftF 13 (headF T.n T.f) = T.f := by
            funext j
            unfold shiftF headF
            rw [if_neg (by omega), if_neg (by omega), if_neg (by omega), if_neg (by omega), if_neg (by omega), if_neg (by omega), if_neg (by omega), Nat.add_sub_cancel_left]
          rw [hN13, hF13] at HN
          clear HD hL5 hL hB5 hN13 hF13
          go_wp2_with fail
          refine HN.out.mono ?_
          rintro e W6 ⟨R, v6, rfl, hRd, hOw, hfar, hRl, hB6⟩
          have hRd6 : Rd W6 R v6 ⟨T.n, T.f, 0, 0, fun _ => 0⟩ := ⟨⟨_, hRd, rfl, rfl, rfl, fun i hi => by
            rcases (show i = 0 ∨ i = 1 ∨ i = 2 ∨ i = 3 ∨ i = 4 ∨ i = 5 ∨ i = 6 ∨ i = 7 ∨ i = 8 ∨ i = 9 ∨ i = 10 ∨ i = 11 ∨ i = 12 ∨ i = 13 ∨ i = 14 ∨ i = 15 by omega) with rfl | rfl | rfl | rfl | rfl | rfl | rfl | rfl | rfl | rfl | rfl | rfl | rfl | rfl | rfl | rfl <;> rfl, rfl⟩, hOw, fun e => (hfar R e).2 rfl⟩
          have hbel6 : Below W2.heap.size W2 W6 := hbel5.out.trans (hB6.mono hbel5.out.size)
          have hRB : W2.heap.size ≤ R := Nat.le_trans hbel5.out.size hRl
          have hg0 : (RS.mk T.n T.f 0 0 fun _ => 0).Good := ⟨Nat.zero_le _, hNb.out, Nat.zero_le _, fun i j _ hj => absurd hj (Nat.not_lt_zero _), fun i hi => absurd hi (Nat.not_lt_zero _)⟩
          clear HN hRd hOw hfar hRl hB6 hbel5 hG hGl
          replace hg0 := Lib.hid hg0
          go_wp2_with fail
          go_loopw [13, 6, 4] (fun s13 s6 s4 wq => ∃ (j q : Nat) (v : Value) (r : RS), j ≤ k ∧ s13 = .int .i64 j ∧ s6 = .int .i64 q ∧ s4 = .bool true ∧ Hid ((runS sf j).op = q ∧ r.Good ∧ Sim T.f T.n (runS sf j) r) ∧ Rd wq R v r ∧ Below W2.heap.size W2 wq) (fun s13 _ _ _ => k - (intOf s13).toNat)
          case atStart => exact ⟨0, 0, v6, _, Nat.zero_le _, rfl, rfl, rfl, Lib.hid ⟨rfl, hg0.out, Sim.start sf⟩, hRd6, hbel6⟩
          case round =>
            obtain ⟨j, q, v, r, hj, rfl, rfl, rfl, hSim, hRd, hBw⟩ := hrel
            obtain ⟨wo, rfl⟩ : ∃ wo, wo = wr := ⟨_, rfl⟩
            clear hRd6 hbel6 hg0
            by_cases hlt : j < k
              --ROUND
            · have hltH := Lib.hid hlt
              obtain ⟨hli, hw64, hk2⟩ := back_k hHsn.out hlt
              replace hk2 := Lib.hid hk2
              rcases hHS2.out with h0 | ⟨x, o, rfl, hx, hc⟩
              · omega
              have hPa := hc j hlt
              have hrow0 := Lib.hid hPa.row
              obtain ⟨c0, c1, c2, _, hrl, hn⟩ := hPa.below hBw
              obtain ⟨hopq, hg, hsim⟩ := hSim.out
              obtain ⟨hgj, hsj⟩ := run_good hRan.out.fe j (Nat.le_of_lt hlt)
              have hF1 : Fut T.f T.n (runS sf (j + 1)) := by have := hfr.out (k - (j + 1)) (Nat.sub_le _ _); rwa [show k - (k - (j + 1)) = j + 1 by omega] at this
              have hST := hsim.step hgj hsj hn hrl (hRan.out.fe (j + 1) hlt) hF1
              have hq16 : q ≤ 16 := by have := hgj.op; omega
              have hop1 := run_op (sf := sf) (j := j) (q := q) hopq (hRan.out.fe (j + 1) hlt)
              change Told _ _ _ _ _ ∧ Sim _ _ (runS sf (j + 1)) _ at hST
              replace hop1 := Lib.hid hop1
              clear hx hc hPa hsim hgj hsj hF1 hopq hSim hlt hk
              generalize hSe : runS sf (j + 1) = S1 at *
              replace hSe := Lib.hid hSe
              generalize sf j = pt at *
              obtain ⟨what, n, pa, len, cap, f⟩ := pt
              dsimp only at *
              rcases what_ways what with rfl | rfl | rfl | rfl | rfl | rfl | rfl | ⟨t0, t1, t2, t3, t4, t5, t6⟩
              · as_aux_lemma =>
                  obtain ⟨T, hT2⟩ : ∃ T, r.step 0 n = T := ⟨_, rfl⟩
                  rw [if_neg (by decide), hT2] at hST
                  have HK := fun (W : World) (hW : Rd W R v r) => takes_any 0 n pa len cap W hW hg
                  rw [hT2] at HK
                  unfold putV tookV at HK
                  have hgT : T.s.Good := hT2 ▸ step_good hg 0 n
                  obtain ⟨Ts, TN, Tl, Tg, TE⟩ := T
                  obtain ⟨⟨hE, h0, h1, h2, h3, h4, h5⟩, hS1⟩ := hST
                  dsimp only at hE h0 h1 h2 h3 h4 h5 hS1 HK hgT
                  subst hE
                  replace hS1 := Lib.hid hS1
                  replace hgT := Lib.hid hgT
                  have hN := h0 rfl
                  subst hN
                  obtain ⟨e1, e2⟩ := back_u8 n
                  obtain ⟨X, hX⟩ : ∃ X, n % 256 = X := ⟨_, rfl⟩
                  rw [hX] at HK e1 e2
                  replace hX := Lib.hid hX
                  replace HK := Lib.hid HK
                  replace hn := Lib.hid hn
                  replace hrl := Lib.hid hrl
                  clear h0 h1 h2 h3 h4 h5 hT2 hg hHS2
                  replace hq16 := Lib.hid hq16
                  have hP7 := Whole.fresh wo 32 #[.int .i64 0, .int .i64 n, .slice pa len cap]
                  have hB7 := (Below.refl wo.heap.size wo).alloc (Nat.le_refl _) (.cells #[.int .i64 0, .int .i64 n, .slice pa len cap] 32)
                  have hRd7 := Lib.hid (hRd.below hB7)
                  have hBw7 := Lib.hid (hBw.trans (hB7.mono hBw.size))
                  have hPR : wo.heap.size ≠ R := by have := hRd.head.lt; omega
                  clear hRd hBw hB7
                  go_upto_region 40 with (fail)
                  generalize wo.alloc (.cells #[.int .i64 0, .int .i64 n, .slice pa len cap] 32) = W7 at *
                  have p0 := hP7.cell 0
                  have p1 := hP7.cell 1
                  have p2 := hP7.cell 2
                  simp only [List.getElem?_toArray, List.getElem?_cons_zero, List.getElem?_cons_succ] at p0 p1 p2
                  clear c0 c1 c2
                  go_wp2_with fail
                  refine (HK.out _ hRd7.out).mono ?_
                  rintro e W8 ⟨ac, cc, rfl, hOwn, hnb, hRd8, hG8⟩
                  have hP8 := hP7.only hG8 hPR
                  have hBw8 := below_only hBw7.out hG8 hRB hBw7.out.size
                  have p0 := hP8.cell 0
                  have p1 := hP8.cell 1
                  have p2 := hP8.cell 2
                  simp only [List.getElem?_toArray, List.getElem?_cons_zero, List.getElem?_cons_succ] at p0 p1 p2
                  have hB9 := (Below.refl W8.heap.size W8).alloc (Nat.le_refl _) (.cells #[.int .i64 X, .slice ac Tl cc, .int .i64 0] 50)
                  have hRd9 := Lib.hid (hRd8.below hB9)
                  have hBw9 := Lib.hid (hBw8.trans (hB9.mono hBw8.size))
                  have hP9 := hP8.below hB9 hP8.lt
                  have hK9 := Whole.fresh W8 50 #[.int .i64 X, .slice ac Tl cc, .int .i64 0]
                  clear HK hP7 hRd7 hBw7 hG8 hnb hOwn hRd8 hBw8 hB9 hli hPR hRB hP8 p0 p1 p2
                  go_upto_region 41 with (fail)
                  generalize W8.alloc (.cells #[.int .i64 X, .slice ac Tl cc, .int .i64 0] 50) = W9 at *
                  have p0 := hP9.cell 0
                  have p1 := hP9.cell 1
                  have p2 := hP9.cell 2
                  have k0 := hK9.cell 0
                  have k1 := hK9.cell 1
                  have k2 := hK9.cell 2
                  simp only [List.getElem?_toArray, List.getElem?_cons_zero, List.getElem?_cons_succ] at p0 p1 p2 k0 k1 k2
                  clear hP9 hK9
                  go_wp2_with fail
                  go_roundw
                  case rel => exact ⟨j + 1, q, v, Ts, hltH.out, by go_num, rfl, rfl, Lib.hid (by rw [hSe.out]; exact ⟨hop1.out.2.2 (by decide), hgT.out, hS1.out⟩), hRd9.out, hBw9.out⟩
                  case measure => have := hltH.out; simp [intOf]; omega
              · as_aux_lemma =>
                  obtain ⟨T, hT2⟩ : ∃ T, r.step 1 n = T := ⟨_, rfl⟩
                  rw [if_neg (by decide), hT2] at hST
                  have HK := fun (W : World) (hW : Rd W R v r) => takes_any 1 n pa len cap W hW hg
                  rw [hT2] at HK
                  unfold putV tookV at HK
                  have hgT : T.s.Good := hT2 ▸ step_good hg 1 n
                  obtain ⟨Ts, TN, Tl, Tg, TE⟩ := T
                  obtain ⟨⟨hE, h0, h1, h2, h3, h4, h5⟩, hS1⟩ := hST
                  dsimp only at hE h0 h1 h2 h3 h4 h5 hS1 HK hgT
                  subst hE
                  replace hS1 := Lib.hid hS1
                  replace hgT := Lib.hid hgT
                  have hN := h1 rfl
                  subst hN
                  obtain ⟨e1, e2⟩ := back_u16 n
                  obtain ⟨X, hX⟩ : ∃ X, n % 65536 = X := ⟨_, rfl⟩
                  rw [hX] at HK e1 e2
                  replace hX := Lib.hid hX
                  replace HK := Lib.hid HK
                  replace hn := Lib.hid hn
                  replace hrl := Lib.hid hrl
                  clear h0 h1 h2 h3 h4 h5 hT2 hg hHS2
                  replace hq16 := Lib.hid hq16
                  have hP7 := Whole.fresh wo 32 #[.int .i64 1, .int .i64 n, .slice pa len cap]
                  have hB7 := (Below.refl wo.heap.size wo).alloc (Nat.le_refl _) (.cells #[.int .i64 1, .int .i64 n, .slice pa len cap] 32)
                  have hRd7 := Lib.hid (hRd.below hB7)
                  have hBw7 := Lib.hid (hBw.trans (hB7.mono hBw.size))
                  have hPR : wo.heap.size ≠ R := by have := hRd.head.lt; omega
                  clear hRd hBw hB7
                  go_upto_region 40 with (fail)
                  generalize wo.alloc (.cells #[.int .i64 1, .int .i64 n, .slice pa len cap] 32) = W7 at *
                  have p0 := hP7.cell 0
                  have p1 := hP7.cell 1
                  have p2 := hP7.cell 2
                  simp only [List.getElem?_toArray, List.getElem?_cons_zero, List.getElem?_cons_succ] at p0 p1 p2
                  clear c0 c1 c2
                  go_wp2_with fail
                  refine (HK.out _ hRd7.out).mono ?_
                  rintro e W8 ⟨ac, cc, rfl, hOwn, hnb, hRd8, hG8⟩
                  have hP8 := hP7.only hG8 hPR
                  have hBw8 := below_only hBw7.out hG8 hRB hBw7.out.size
                  have p0 := hP8.cell 0
                  have p1 := hP8.cell 1
                  have p2 := hP8.cell 2
                  simp only [List.getElem?_toArray, List.getElem?_cons_zero, List.getElem?_cons_succ] at p0 p1 p2
                  have hB9 := (Below.refl W8.heap.size W8).alloc (Nat.le_refl _) (.cells #[.int .i64 X, .slice ac Tl cc, .int .i64 0] 50)
                  have hRd9 := Lib.hid (hRd8.below hB9)
                  have hBw9 := Lib.hid (hBw8.trans (hB9.mono hBw8.size))
                  have hP9 := hP8.below hB9 hP8.lt
                  have hK9 := Whole.fresh W8 50 #[.int .i64 X, .slice ac Tl cc, .int .i64 0]
                  clear HK hP7 hRd7 hBw7 hG8 hnb hOwn hRd8 hBw8 hB9 hli hPR hRB hP8 p0 p1 p2
                  go_upto_region 41 with (fail)
                  generalize W8.alloc (.cells #[.int .i64 X, .slice ac Tl cc, .int .i64 0] 50) = W9 at *
                  have p0 := hP9.cell 0
                  have p1 := hP9.cell 1
                  have p2 := hP9.cell 2
                  have k0 := hK9.cell 0
                  have k1 := hK9.cell 1
                  have k2 := hK9.cell 2
                  simp only [List.getElem?_toArray, List.getElem?_cons_zero, List.getElem?_cons_succ] at p0 p1 p2 k0 k1 k2
                  clear hP9 hK9
                  go_wp2_with fail
                  go_roundw
                  case rel => exact ⟨j + 1, q, v, Ts, hltH.out, by go_num, rfl, rfl, Lib.hid (by rw [hSe.out]; exact ⟨hop1.out.2.2 (by decide), hgT.out, hS1.out⟩), hRd9.out, hBw9.out⟩
                  case measure => have := hltH.out; simp [intOf]; omega
              · as_aux_lemma =>
                  obtain ⟨T, hT2⟩ : ∃ T, r.step 2 n = T := ⟨_, rfl⟩
                  rw [if_neg (by decide), hT2] at hST
                  have HK := fun (W : World) (hW : Rd W R v r) => takes_any 2 n pa len cap W hW hg
                  rw [hT2] at HK
                  unfold putV tookV at HK
                  have hgT : T.s.Good := hT2 ▸ step_good hg 2 n
                  obtain ⟨Ts, TN, Tl, Tg, TE⟩ := T
                  obtain ⟨⟨hE, h0, h1, h2, h3, h4, h5⟩, hS1⟩ := hST
                  dsimp only at hE h0 h1 h2 h3 h4 h5 hS1 HK hgT
                  subst hE
                  replace hS1 := Lib.hid hS1
                  replace hgT := Lib.hid hgT
                  have hN := h2 rfl
                  subst hN
                  obtain ⟨e1, e2⟩ := back_u32 n
                  obtain ⟨X, hX⟩ : ∃ X, n % 4294967296 = X := ⟨_, rfl⟩
                  rw [hX] at HK e1 e2
                  replace hX := Lib.hid hX
                  replace HK := Lib.hid HK
                  replace hn := Lib.hid hn
                  replace hrl := Lib.hid hrl
                  clear h0 h1 h2 h3 h4 h5 hT2 hg hHS2
                  replace hq16 := Lib.hid hq16
                  have hP7 := Whole.fresh wo 32 #[.int .i64 2, .int .i64 n, .slice pa len cap]
                  have hB7 := (Below.refl wo.heap.size wo).alloc (Nat.le_refl _) (.cells #[.int .i64 2, .int .i64 n, .slice pa len cap] 32)
                  have hRd7 := Lib.hid (hRd.below hB7)
                  have hBw7 := Lib.hid (hBw.trans (hB7.mono hBw.size))
                  have hPR : wo.heap.size ≠ R := by have := hRd.head.lt; omega
                  clear hRd hBw hB7
                  go_upto_region 40 with (fail)
                  generalize wo.alloc (.cells #[.int .i64 2, .int .i64 n, .slice pa len cap] 32) = W7 at *
                  have p0 := hP7.cell 0
                  have p1 := hP7.cell 1
                  have p2 := hP7.cell 2
                  simp only [List.getElem?_toArray, List.getElem?_cons_zero, List.getElem?_cons_succ] at p0 p1 p2
                  clear c0 c1 c2
                  go_wp2_with fail
                  refine (HK.out _ hRd7.out).mono ?_
                  rintro e W8 ⟨ac, cc, rfl, hOwn, hnb, hRd8, hG8⟩
                  have hP8 := hP7.only hG8 hPR
                  have hBw8 := below_only hBw7.out hG8 hRB hBw7.out.size
                  have p0 := hP8.cell 0
                  have p1 := hP8.cell 1
                  have p2 := hP8.cell 2
                  simp only [List.getElem?_toArray, List.getElem?_cons_zero, List.getElem?_cons_succ] at p0 p1 p2
                  have hB9 := (Below.refl W8.heap.size W8).alloc (Nat.le_refl _) (.cells #[.int .i64 X, .slice ac Tl cc, .int .i64 0] 50)
                  have hRd9 := Lib.hid (hRd8.below hB9)
                  have hBw9 := Lib.hid (hBw8.trans (hB9.mono hBw8.size))
                  have hP9 := hP8.below hB9 hP8.lt
                  have hK9 := Whole.fresh W8 50 #[.int .i64 X, .slice ac Tl cc, .int .i64 0]
                  clear HK hP7 hRd7 hBw7 hG8 hnb hOwn hRd8 hBw8 hB9 hli hPR hRB hP8 p0 p1 p2
                  go_upto_region 41 with (fail)
                  generalize W8.alloc (.cells #[.int .i64 X, .slice ac Tl cc, .int .i64 0] 50) = W9 at *
                  have p0 := hP9.cell 0
                  have p1 := hP9.cell 1
                  have p2 := hP9.cell 2
                  have k0 := hK9.cell 0
                  have k1 := hK9.cell 1
                  have k2 := hK9.cell 2
                  simp only [List.getElem?_toArray, List.getElem?_cons_zero, List.getElem?_cons_succ] at p0 p1 p2 k0 k1 k2
                  clear hP9 hK9
                  go_wp2_with fail
                  go_roundw
                  case rel => exact ⟨j + 1, q, v, Ts, hltH.out, by go_num, rfl, rfl, Lib.hid (by rw [hSe.out]; exact ⟨hop1.out.2.2 (by decide), hgT.out, hS1.out⟩), hRd9.out, hBw9.out⟩
                  case measure => have := hltH.out; simp [intOf]; omega
              · as_aux_lemma =>
                  obtain ⟨T, hT2⟩ : ∃ T, r.step 3 n = T := ⟨_, rfl⟩
                  rw [if_neg (by decide), hT2] at hST
                  have HK := fun (W : World) (hW : Rd W R v r) => takes_any 3 n pa len cap W hW hg
                  rw [hT2] at HK
                  unfold putV tookV at HK
                  have hgT : T.s.Good := hT2 ▸ step_good hg 3 n
                  obtain ⟨Ts, TN, Tl, Tg, TE⟩ := T
                  obtain ⟨⟨hE, h0, h1, h2, h3, h4, h5⟩, hS1⟩ := hST
                  dsimp only at hE h0 h1 h2 h3 h4 h5 hS1 HK hgT
                  subst hE
                  replace hS1 := Lib.hid hS1
                  replace hgT := Lib.hid hgT
                  have hN := h3 rfl
                  subst hN
                  replace HK := Lib.hid HK
                  replace hn := Lib.hid hn
                  replace hrl := Lib.hid hrl
                  clear h0 h1 h2 h3 h4 h5 hT2 hg hHS2
                  replace hq16 := Lib.hid hq16
                  have hP7 := Whole.fresh wo 32 #[.int .i64 3, .int .i64 TN, .slice pa len cap]
                  have hB7 := (Below.refl wo.heap.size wo).alloc (Nat.le_refl _) (.cells #[.int .i64 3, .int .i64 TN, .slice pa len cap] 32)
                  have hRd7 := Lib.hid (hRd.below hB7)
                  have hBw7 := Lib.hid (hBw.trans (hB7.mono hBw.size))
                  have hPR : wo.heap.size ≠ R := by have := hRd.head.lt; omega
                  clear hRd hBw hB7
                  go_upto_region 40 with (fail)
                  generalize wo.alloc (.cells #[.int .i64 3, .int .i64 TN, .slice pa len cap] 32) = W7 at *
                  have p0 := hP7.cell 0
                  have p1 := hP7.cell 1
                  have p2 := hP7.cell 2
                  simp only [List.getElem?_toArray, List.getElem?_cons_zero, List.getElem?_cons_succ] at p0 p1 p2
                  clear c0 c1 c2
                  go_wp2_with fail
                  refine (HK.out _ hRd7.out).mono ?_
                  rintro e W8 ⟨ac, cc, rfl, hOwn, hnb, hRd8, hG8⟩
                  have hP8 := hP7.only hG8 hPR
                  have hBw8 := below_only hBw7.out hG8 hRB hBw7.out.size
                  have p0 := hP8.cell 0
                  have p1 := hP8.cell 1
                  have p2 := hP8.cell 2
                  simp only [List.getElem?_toArray, List.getElem?_cons_zero, List.getElem?_cons_succ] at p0 p1 p2
                  have hB9 := (Below.refl W8.heap.size W8).alloc (Nat.le_refl _) (.cells #[.int .i64 TN, .slice ac Tl cc, .int .i64 0] 50)
                  have hRd9 := Lib.hid (hRd8.below hB9)
                  have hBw9 := Lib.hid (hBw8.trans (hB9.mono hBw8.size))
                  have hP9 := hP8.below hB9 hP8.lt
                  have hK9 := Whole.fresh W8 50 #[.int .i64 TN, .slice ac Tl cc, .int .i64 0]
                  clear HK hP7 hRd7 hBw7 hG8 hnb hOwn hRd8 hBw8 hB9 hli hPR hRB hP8 p0 p1 p2
                  go_upto_region 41 with (fail)
                  generalize W8.alloc (.cells #[.int .i64 TN, .slice ac Tl cc, .int .i64 0] 50) = W9 at *
                  have p0 := hP9.cell 0
                  have p1 := hP9.cell 1
                  have p2 := hP9.cell 2
                  have k0 := hK9.cell 0
                  have k1 := hK9.cell 1
                  have k2 := hK9.cell 2
                  simp only [List.getElem?_toArray, List.getElem?_cons_zero, List.getElem?_cons_succ] at p0 p1 p2 k0 k1 k2
                  clear hP9 hK9
                  go_wp2_with fail
                  go_roundw
                  case rel => exact ⟨j + 1, q, v, Ts, hltH.out, by go_num, rfl, rfl, Lib.hid (by rw [hSe.out]; exact ⟨hop1.out.2.2 (by decide), hgT.out, hS1.out⟩), hRd9.out, hBw9.out⟩
                  case measure => have := hltH.out; simp [intOf]; omega
              · as_aux_lemma =>
                  obtain ⟨T, hT2⟩ : ∃ T, r.step 4 n = T := ⟨_, rfl⟩
                  rw [if_neg (by decide), hT2] at hST
                  have HK := fun (W : World) (hW : Rd W R v r) => takes_any 4 n pa len cap W hW hg
                  rw [hT2] at HK
                  unfold putV tookV at HK
                  have hgT : T.s.Good := hT2 ▸ step_good hg 4 n
                  obtain ⟨Ts, TN, Tl, Tg, TE⟩ := T
                  obtain ⟨⟨hE, h0, h1, h2, h3, h4, h5⟩, hS1⟩ := hST
                  dsimp only at hE h0 h1 h2 h3 h4 h5 hS1 HK hgT
                  subst hE
                  replace hS1 := Lib.hid hS1
                  replace hgT := Lib.hid hgT
                  have hN := h4 rfl
                  subst hN
                  have hbit := and_one_i64 n
                  obtain ⟨X, hX⟩ : ∃ X, n % 2 = X := ⟨_, rfl⟩
                  rw [hX] at HK hbit
                  replace hX := Lib.hid hX
                  replace HK := Lib.hid HK
                  replace hn := Lib.hid hn
                  replace hrl := Lib.hid hrl
                  clear h0 h1 h2 h3 h4 h5 hT2 hg hHS2
                  replace hq16 := Lib.hid hq16
                  have hP7 := Whole.fresh wo 32 #[.int .i64 4, .int .i64 n, .slice pa len cap]
                  have hB7 := (Below.refl wo.heap.size wo).alloc (Nat.le_refl _) (.cells #[.int .i64 4, .int .i64 n, .slice pa len cap] 32)
                  have hRd7 := Lib.hid (hRd.below hB7)
                  have hBw7 := Lib.hid (hBw.trans (hB7.mono hBw.size))
                  have hPR : wo.heap.size ≠ R := by have := hRd.head.lt; omega
                  clear hRd hBw hB7
                  go_upto_region 40 with (fail)
                  generalize wo.alloc (.cells #[.int .i64 4, .int .i64 n, .slice pa len cap] 32) = W7 at *
                  have p0 := hP7.cell 0
                  have p1 := hP7.cell 1
                  have p2 := hP7.cell 2
                  simp only [List.getElem?_toArray, List.getElem?_cons_zero, List.getElem?_cons_succ] at p0 p1 p2
                  clear c0 c1 c2
                  go_wp2_with fail
                  refine (HK.out _ hRd7.out).mono ?_
                  rintro e W8 ⟨ac, cc, rfl, hOwn, hnb, hRd8, hG8⟩
                  have hP8 := hP7.only hG8 hPR
                  have hBw8 := below_only hBw7.out hG8 hRB hBw7.out.size
                  have p0 := hP8.cell 0
                  have p1 := hP8.cell 1
                  have p2 := hP8.cell 2
                  simp only [List.getElem?_toArray, List.getElem?_cons_zero, List.getElem?_cons_succ] at p0 p1 p2
                  have hB9 := (Below.refl W8.heap.size W8).alloc (Nat.le_refl _) (.cells #[.int .i64 X, .slice ac Tl cc, .int .i64 0] 50)
                  have hRd9 := Lib.hid (hRd8.below hB9)
                  have hBw9 := Lib.hid (hBw8.trans (hB9.mono hBw8.size))
                  have hP9 := hP8.below hB9 hP8.lt
                  have hK9 := Whole.fresh W8 50 #[.int .i64 X, .slice ac Tl cc, .int .i64 0]
                  clear HK hP7 hRd7 hBw7 hG8 hnb hOwn hRd8 hBw8 hB9 hli hPR hRB hP8 p0 p1 p2
                  go_upto_region 41 with (fail)
                  generalize W8.alloc (.cells #[.int .i64 X, .slice ac Tl cc, .int .i64 0] 50) = W9 at *
                  have p0 := hP9.cell 0
                  have p1 := hP9.cell 1
                  have p2 := hP9.cell 2
                  have k0 := hK9.cell 0
                  have k1 := hK9.cell 1
                  have k2 := hK9.cell 2
                  simp only [List.getElem?_toArray, List.getElem?_cons_zero, List.getElem?_cons_succ] at p0 p1 p2 k0 k1 k2
                  clear hP9 hK9
                  go_wp2_with fail
                  go_roundw
                  case rel => exact ⟨j + 1, q, v, Ts, hltH.out, by go_num, rfl, rfl, Lib.hid (by rw [hSe.out]; exact ⟨hop1.out.2.2 (by decide), hgT.out, hS1.out⟩), hRd9.out, hBw9.out⟩
                  case measure => have := hltH.out; simp [intOf]; omega
              · as_aux_lemma =>
                  obtain ⟨T, hT2⟩ : ∃ T, r.step 5 (len : Nat) = T := ⟨_, rfl⟩
                  rw [if_pos rfl, hT2] at hST
                  have HK := fun (W : World) (hW : Rd W R v r) => takes_any 5 (len : Nat) pa len cap W hW hg
                  rw [hT2] at HK
                  unfold putV tookV at HK
                  have hgT : T.s.Good := hT2 ▸ step_good hg 5 (len : Nat)
                  obtain ⟨Ts, TN, Tl, Tg, TE⟩ := T
                  obtain ⟨⟨hE, h0, h1, h2, h3, h4, h5⟩, hS1⟩ := hST
                  dsimp only at hE h0 h1 h2 h3 h4 h5 hS1 HK hgT
                  subst hE
                  replace hS1 := Lib.hid hS1
                  replace hgT := Lib.hid hgT
                  obtain ⟨hl5, hg5⟩ := h5 rfl
                  subst hl5
                  have hg5h := Lib.hid hg5
                  clear hg5
                  replace HK := Lib.hid HK
                  replace hn := Lib.hid hn
                  replace hrl := Lib.hid hrl
                  clear h0 h1 h2 h3 h4 h5 hT2 hg hHS2
                  replace hq16 := Lib.hid hq16
                  have hP7 := Whole.fresh wo 32 #[.int .i64 5, .int .i64 (Tl : Nat), .slice pa Tl cap]
                  have hB7 := (Below.refl wo.heap.size wo).alloc (Nat.le_refl _) (.cells #[.int .i64 5, .int .i64 (Tl : Nat), .slice pa Tl cap] 32)
                  have hRd7 := Lib.hid (hRd.below hB7)
                  have hBw7 := Lib.hid (hBw.trans (hB7.mono hBw.size))
                  have hPR : wo.heap.size ≠ R := by have := hRd.head.lt; omega
                  clear hRd hBw hB7
                  go_upto_region 40 with (fail)
                  generalize wo.alloc (.cells #[.int .i64 5, .int .i64 (Tl : Nat), .slice pa Tl cap] 32) = W7 at *
                  have p0 := hP7.cell 0
                  have p1 := hP7.cell 1
                  have p2 := hP7.cell 2
                  simp only [List.getElem?_toArray, List.getElem?_cons_zero, List.getElem?_cons_succ] at p0 p1 p2
                  clear c0 c1 c2
                  go_wp2_with fail
                  refine (HK.out _ hRd7.out).mono ?_
                  rintro e W8 ⟨ac, cc, rfl, hOwn, hnb, hRd8, hG8⟩
                  have hP8 := hP7.only hG8 hPR
                  have hBw8 := below_only hBw7.out hG8 hRB hBw7.out.size
                  have p0 := hP8.cell 0
                  have p1 := hP8.cell 1
                  have p2 := hP8.cell 2
                  simp only [List.getElem?_toArray, List.getElem?_cons_zero, List.getElem?_cons_succ] at p0 p1 p2
                  have hB9 := (Below.refl W8.heap.size W8).alloc (Nat.le_refl _) (.cells #[.int .i64 TN, .slice ac Tl cc, .int .i64 0] 50)
                  have hRd9 := Lib.hid (hRd8.below hB9)
                  have hBw9 := Lib.hid (hBw8.trans (hB9.mono hBw8.size))
                  have hP9 := hP8.below hB9 hP8.lt
                  have hK9 := Whole.fresh W8 50 #[.int .i64 TN, .slice ac Tl cc, .int .i64 0]
                  have hrow9 := Lib.hid (hOwn.row.below hB9)
                  have HBy := Lib.hid (fun (W : World) (h1 : Row W ac Tl Tg) (h2 : Row W pa Tl f) => same_below ac pa Tl cc cap Tg W h1 (h2.congr fun i hi => (hg5h.out i hi).symm) (by have := hrl.out; omega))
                  clear HK hP7 hRd7 hBw7 hG8 hnb hOwn hRd8 hBw8 hB9 hli hPR hRB hP8 p0 p1 p2
                  go_upto_region 41 with (fail)
                  generalize W8.alloc (.cells #[.int .i64 TN, .slice ac Tl cc, .int .i64 0] 50) = W9 at *
                  have p0 := hP9.cell 0
                  have p1 := hP9.cell 1
                  have p2 := hP9.cell 2
                  have k0 := hK9.cell 0
                  have k1 := hK9.cell 1
                  have k2 := hK9.cell 2
                  simp only [List.getElem?_toArray, List.getElem?_cons_zero, List.getElem?_cons_succ] at p0 p1 p2 k0 k1 k2
                  clear hP9 hK9
                  go_wp2_with fail
                  refine (HBy.out _ hrow9.out (hrow0.out.below hBw9.out)).mono ?_
                  rintro e W10 ⟨rfl, hB10⟩
                  have hRd10 := hRd9.out.below hB10
                  have hBw10 := hBw9.out.trans (hB10.mono hBw9.out.size)
                  clear HBy hrow9 p0 p1 p2 k0 k1 k2 hRd9 hBw9
                  go_wp2_with fail
                  go_roundw
                  case rel => exact ⟨j + 1, q, v, Ts, hltH.out, by go_num, rfl, rfl, Lib.hid (by rw [hSe.out]; exact ⟨hop1.out.2.2 (by decide), hgT.out, hS1.out⟩), hRd10, hBw10⟩
                  case measure => have := hltH.out; simp [intOf]; omega
              · as_aux_lemma =>
                  obtain ⟨T, hT2⟩ : ∃ T, r.step 6 n = T := ⟨_, rfl⟩
                  rw [if_neg (by decide), hT2] at hST
                  have HK := fun (W : World) (hW : Rd W R v r) => takes_any 6 n pa len cap W hW hg
                  rw [hT2] at HK
                  unfold putV tookV at HK
                  have hgT : T.s.Good := hT2 ▸ step_good hg 6 n
                  obtain ⟨Ts, TN, Tl, Tg, TE⟩ := T
                  obtain ⟨⟨hE, h0, h1, h2, h3, h4, h5⟩, hS1⟩ := hST
                  dsimp only at hE h0 h1 h2 h3 h4 h5 hS1 HK hgT
                  subst hE
                  replace hS1 := Lib.hid hS1
                  replace hgT := Lib.hid hgT
                  replace HK := Lib.hid HK
                  replace hn := Lib.hid hn
                  replace hrl := Lib.hid hrl
                  clear h0 h1 h2 h3 h4 h5 hT2 hg hHS2
                  have y1 : wrap64 ((q : Int) + 1) = (q : Int) + 1 := back_inc hq16
                  replace hq16 := Lib.hid hq16
                  have hP7 := Whole.fresh wo 32 #[.int .i64 6, .int .i64 n, .slice pa len cap]
                  have hB7 := (Below.refl wo.heap.size wo).alloc (Nat.le_refl _) (.cells #[.int .i64 6, .int .i64 n, .slice pa len cap] 32)
                  have hRd7 := Lib.hid (hRd.below hB7)
                  have hBw7 := Lib.hid (hBw.trans (hB7.mono hBw.size))
                  have hPR : wo.heap.size ≠ R := by have := hRd.head.lt; omega
                  clear hRd hBw hB7
                  go_upto_region 40 with (fail)
                  generalize wo.alloc (.cells #[.int .i64 6, .int .i64 n, .slice pa len cap] 32) = W7 at *
                  have p0 := hP7.cell 0
                  have p1 := hP7.cell 1
                  have p2 := hP7.cell 2
                  simp only [List.getElem?_toArray, List.getElem?_cons_zero, List.getElem?_cons_succ] at p0 p1 p2
                  clear c0 c1 c2
                  go_wp2_with fail
                  refine (HK.out _ hRd7.out).mono ?_
                  rintro e W8 ⟨ac, cc, rfl, hOwn, hnb, hRd8, hG8⟩
                  have hP8 := hP7.only hG8 hPR
                  have hBw8 := below_only hBw7.out hG8 hRB hBw7.out.size
                  have p0 := hP8.cell 0
                  have p1 := hP8.cell 1
                  have p2 := hP8.cell 2
                  simp only [List.getElem?_toArray, List.getElem?_cons_zero, List.getElem?_cons_succ] at p0 p1 p2
                  have hB9 := (Below.refl W8.heap.size W8).alloc (Nat.le_refl _) (.cells #[.int .i64 TN, .slice ac Tl cc, .int .i64 0] 50)
                  have hRd9 := Lib.hid (hRd8.below hB9)
                  have hBw9 := Lib.hid (hBw8.trans (hB9.mono hBw8.size))
                  have hP9 := hP8.below hB9 hP8.lt
                  have hK9 := Whole.fresh W8 50 #[.int .i64 TN, .slice ac Tl cc, .int .i64 0]
                  clear HK hP7 hRd7 hBw7 hG8 hnb hOwn hRd8 hBw8 hB9 hli hPR hRB hP8 p0 p1 p2
                  go_upto_region 41 with (fail)
                  generalize W8.alloc (.cells #[.int .i64 TN, .slice ac Tl cc, .int .i64 0] 50) = W9 at *
                  have p0 := hP9.cell 0
                  have p1 := hP9.cell 1
                  have p2 := hP9.cell 2
                  have k0 := hK9.cell 0
                  have k1 := hK9.cell 1
                  have k2 := hK9.cell 2
                  simp only [List.getElem?_toArray, List.getElem?_cons_zero, List.getElem?_cons_succ] at p0 p1 p2 k0 k1 k2
                  clear hP9 hK9
                  go_wp2_with fail
                  go_roundw
                  case rel => exact ⟨j + 1, q + 1, v, Ts, hltH.out, by go_num, by go_num, rfl, Lib.hid (by rw [hSe.out]; exact ⟨hop1.out.1 (by trivial), hgT.out, hS1.out⟩), hRd9.out, hBw9.out⟩
                  case measure => have := hltH.out; simp [intOf]; omega
              · have t5n : ¬ what = 5 := fun e => by rw [e] at t5; cases t5
                rcases what_far t0 t1 t2 t3 t4 t5 t6 with t9 | t9
                · as_aux_lemma =>
                    obtain ⟨T, hT2⟩ : ∃ T, r.step 7 n = T := ⟨_, rfl⟩
                    rw [if_neg t5n, step_neg r what n t9, hT2] at hST
                    have HK := fun (W : World) (hW : Rd W R v r) => takes_any 7 n pa len cap W hW hg
                    rw [hT2] at HK
                    unfold putV tookV at HK
                    have hgT : T.s.Good := hT2 ▸ step_good hg 7 n
                    obtain ⟨Ts, TN, Tl, Tg, TE⟩ := T
                    obtain ⟨⟨hE, h0, h1, h2, h3, h4, h5⟩, hS1⟩ := hST
                    dsimp only at hE h0 h1 h2 h3 h4 h5 hS1 HK hgT
                    subst hE
                    replace hS1 := Lib.hid hS1
                    replace hgT := Lib.hid hgT
                    replace HK := Lib.hid HK
                    replace hn := Lib.hid hn
                    replace hrl := Lib.hid hrl
                    clear h0 h1 h2 h3 h4 h5 hT2 hg hHS2
                    obtain ⟨y1, y2⟩ := back_dec hq16
                    replace hq16 := Lib.hid hq16
                    have hP7 := Whole.fresh wo 32 #[.int .i64 7, .int .i64 n, .slice pa len cap]
                    have hB7 := (Below.refl wo.heap.size wo).alloc (Nat.le_refl _) (.cells #[.int .i64 7, .int .i64 n, .slice pa len cap] 32)
                    have hRd7 := Lib.hid (hRd.below hB7)
                    have hBw7 := Lib.hid (hBw.trans (hB7.mono hBw.size))
                    have hPR : wo.heap.size ≠ R := by have := hRd.head.lt; omega
                    clear hRd hBw hB7
                    go_upto_region 40 with (fail)
                    generalize wo.alloc (.cells #[.int .i64 7, .int .i64 n, .slice pa len cap] 32) = W7 at *
                    have p0 := hP7.cell 0
                    have p1 := hP7.cell 1
                    have p2 := hP7.cell 2
                    simp only [List.getElem?_toArray, List.getElem?_cons_zero, List.getElem?_cons_succ] at p0 p1 p2
                    clear c0 c1 c2
                    go_wp2_with fail
                    refine (HK.out _ hRd7.out).mono ?_
                    rintro e W8 ⟨ac, cc, rfl, hOwn, hnb, hRd8, hG8⟩
                    have hP8 := hP7.only hG8 hPR
                    have hBw8 := below_only hBw7.out hG8 hRB hBw7.out.size
                    have p0 := hP8.cell 0
                    have p1 := hP8.cell 1
                    have p2 := hP8.cell 2
                    simp only [List.getElem?_toArray, List.getElem?_cons_zero, List.getElem?_cons_succ] at p0 p1 p2
                    have hB9 := (Below.refl W8.heap.size W8).alloc (Nat.le_refl _) (.cells #[.int .i64 TN, .slice ac Tl cc, .int .i64 0] 50)
                    have hRd9 := Lib.hid (hRd8.below hB9)
                    have hBw9 := Lib.hid (hBw8.trans (hB9.mono hBw8.size))
                    have hP9 := hP8.below hB9 hP8.lt
                    have hK9 := Whole.fresh W8 50 #[.int .i64 TN, .slice ac Tl cc, .int .i64 0]
                    clear HK hP7 hRd7 hBw7 hG8 hnb hOwn hRd8 hBw8 hB9 hli hPR hRB hP8 p0 p1 p2
                    go_upto_region 41 with (fail)
                    generalize W8.alloc (.cells #[.int .i64 TN, .slice ac Tl cc, .int .i64 0] 50) = W9 at *
                    have p0 := hP9.cell 0
                    have p1 := hP9.cell 1
                    have p2 := hP9.cell 2
                    have k0 := hK9.cell 0
                    have k1 := hK9.cell 1
                    have k2 := hK9.cell 2
                    simp only [List.getElem?_toArray, List.getElem?_cons_zero, List.getElem?_cons_succ] at p0 p1 p2 k0 k1 k2
                    clear hP9 hK9
                    go_wp2_with fail
                    go_roundw
                    case rel => exact ⟨j + 1, q - 1, v, Ts, hltH.out, by go_num, by have := (hop1.out.2.1 (.inr t9)).2; congr 1; omega, rfl, Lib.hid (by rw [hSe.out]; exact ⟨hop1.out.2.1 (.inr t9) |>.1, hgT.out, hS1.out⟩), hRd9.out, hBw9.out⟩
                    case measure => have := hltH.out; simp [intOf]; omega
                · as_aux_lemma =>
                    obtain ⟨T, hT2⟩ : ∃ T, r.step what n = T := ⟨_, rfl⟩
                    rw [if_neg t5n, hT2] at hST
                    have HK := fun (W : World) (hW : Rd W R v r) => takes_any what n pa len cap W hW hg
                    rw [hT2] at HK
                    unfold putV tookV at HK
                    have hgT : T.s.Good := hT2 ▸ step_good hg what n
                    obtain ⟨Ts, TN, Tl, Tg, TE⟩ := T
                    obtain ⟨⟨hE, h0, h1, h2, h3, h4, h5⟩, hS1⟩ := hST
                    dsimp only at hE h0 h1 h2 h3 h4 h5 hS1 HK hgT
                    subst hE
                    replace hS1 := Lib.hid hS1
                    replace hgT := Lib.hid hgT
                    replace HK := Lib.hid HK
                    replace hn := Lib.hid hn
                    replace hrl := Lib.hid hrl
                    clear h0 h1 h2 h3 h4 h5 hT2 hg hHS2
                    have t10 : ¬ what < 0 := by omega
                    have t11 : 6 < what := by omega
                    have t9h := Lib.hid t9
                    clear t9 t5n
                    obtain ⟨y1, y2⟩ := back_dec hq16
                    replace hq16 := Lib.hid hq16
                    have hP7 := Whole.fresh wo 32 #[.int .i64 what, .int .i64 n, .slice pa len cap]
                    have hB7 := (Below.refl wo.heap.size wo).alloc (Nat.le_refl _) (.cells #[.int .i64 what, .int .i64 n, .slice pa len cap] 32)
                    have hRd7 := Lib.hid (hRd.below hB7)
                    have hBw7 := Lib.hid (hBw.trans (hB7.mono hBw.size))
                    have hPR : wo.heap.size ≠ R := by have := hRd.head.lt; omega
                    clear hRd hBw hB7
                    go_upto_region 40 with (fail)
                    generalize wo.alloc (.cells #[.int .i64 what, .int .i64 n, .slice pa len cap] 32) = W7 at *
                    have p0 := hP7.cell 0
                    have p1 := hP7.cell 1
                    have p2 := hP7.cell 2
                    simp only [List.getElem?_toArray, List.getElem?_cons_zero, List.getElem?_cons_succ] at p0 p1 p2
                    clear c0 c1 c2
                    go_wp2_with fail
                    refine (HK.out _ hRd7.out).mono ?_
                    rintro e W8 ⟨ac, cc, rfl, hOwn, hnb, hRd8, hG8⟩
                    have hP8 := hP7.only hG8 hPR
                    have hBw8 := below_only hBw7.out hG8 hRB hBw7.out.size
                    have p0 := hP8.cell 0
                    have p1 := hP8.cell 1
                    have p2 := hP8.cell 2
                    simp only [List.getElem?_toArray, List.getElem?_cons_zero, List.getElem?_cons_succ] at p0 p1 p2
                    have hB9 := (Below.refl W8.heap.size W8).alloc (Nat.le_refl _) (.cells #[.int .i64 TN, .slice ac Tl cc, .int .i64 0] 50)
                    have hRd9 := Lib.hid (hRd8.below hB9)
                    have hBw9 := Lib.hid (hBw8.trans (hB9.mono hBw8.size))
                    have hP9 := hP8.below hB9 hP8.lt
                    have hK9 := Whole.fresh W8 50 #[.int .i64 TN, .slice ac Tl cc, .int .i64 0]
                    clear HK hP7 hRd7 hBw7 hG8 hnb hOwn hRd8 hBw8 hB9 hli hPR hRB hP8 p0 p1 p2
                    go_upto_region 41 with (fail)
                    generalize W8.alloc (.cells #[.int .i64 TN, .slice ac Tl cc, .int .i64 0] 50) = W9 at *
                    have p0 := hP9.cell 0
                    have p1 := hP9.cell 1
                    have p2 := hP9.cell 2
                    have k0 := hK9.cell 0
                    have k1 := hK9.cell 1
                    have k2 := hK9.cell 2
                    simp only [List.getElem?_toArray, List.getElem?_cons_zero, List.getElem?_cons_succ] at p0 p1 p2 k0 k1 k2
                    clear hP9 hK9
                    go_wp2_with fail
                    go_roundw
                    case rel => exact ⟨j + 1, q - 1, v, Ts, hltH.out, by go_num, by have := (hop1.out.2.1 (.inl t11)).2; congr 1; omega, rfl, Lib.hid (by rw [hSe.out]; exact ⟨hop1.out.2.1 (.inl t11) |>.1, hgT.out, hS1.out⟩), hRd9.out, hBw9.out⟩
                    case measure => have := hltH.out; simp [intOf]; omega
              --ENDROUND
            · as_aux_lemma =>
              obtain rfl : j = k := Nat.le_antisymm hj (Nat.le_of_not_lt hlt)
              obtain ⟨hq, hg, hsim⟩ := hSim.out
              obtain rfl : q = i := hq.symm.trans hRan.out.fo
              have hs0 := Lib.hid (And.intro hg hsim)
              clear hHS2 hfr hSim hq hg hsim hj hlt hiq hL
              go_wp2_with fail
              go_loopw [6] (fun s6 wq => ∃ (m q' : Nat) (v : Value) (r : RS), m + q' = q ∧ s6 = .int .i64 q' ∧ Hid (r.Good ∧ Sim T.f T.n (closeS (runS sf j) m) r) ∧ Rd wq R v r ∧ Below W2.heap.size W2 wq) (fun s6 _ => (intOf s6).toNat)
              case atStart => exact ⟨0, q, v, r, Nat.zero_add _, rfl, hs0, hRd, hBw⟩
              case round =>
                obtain ⟨m, q', v, r, hmq, rfl, hsr, hRd, hBw⟩ := hrel
                obtain ⟨wo, rfl⟩ : ∃ wo, wo = wr := ⟨_, rfl⟩
                obtain ⟨hg, hsim⟩ := hsr.out
                rcases q' with _ | q'
                · obtain rfl : m = q := hmq
                  rw [hT.out] at hsim
                  obtain ⟨d1, d2⟩ := hsim.done (hTop.out.trans (Nat.sub_self _))
                  have HD1 := fun (W : World) (hW : Rd W R v r) => rdone_below W hW hg
                  have HL1 := fun (W : World) (hW : Rd W R v r) => rleft_below W hW hg
                  rw [d1] at HD1
                  rw [d2] at HL1
                  replace HD1 := Lib.hid HD1
                  replace HL1 := Lib.hid HL1
                  have hRdh := Lib.hid hRd
                  have hBwh := Lib.hid hBw
                  clear hRd hBw hs0 hsr hg hsim d1 d2
                  go_wp2_with fail
                  refine (HD1.out _ hRdh.out).mono ?_
                  rintro e W1 ⟨rfl, hb1⟩
                  have hRd1 := hRdh.out.below hb1
                  have hBw1 := hBwh.out.trans (hb1.mono hBwh.out.size)
                  clear HD1
                  go_wp2_with fail
                  refine (HL1.out _ hRd1).mono ?_
                  rintro e W2' ⟨rfl, hb2⟩
                  have hBf := hfin.out _ (hBw1.trans (hb2.mono hBw1.size))
                  clear HL1
                  go_wp2_with fail
                  go_ret
                  exact ⟨rfl, hBf⟩
                · obtain ⟨e1, e2, e3, e4, e5⟩ := hcl.out m (back_le hmq)
                  obtain ⟨i1, i2, i4, hm1⟩ := back_down hmq hop16
                  have ho : (closeS (runS sf j) m).op ≠ 0 := by rw [e2]; exact back_ne hmq
                  have hF1 : Fut T.f T.n (closeS (runS sf j) (m + 1)) := by have := hfc.out (q - (m + 1)) (Nat.sub_le _ _); rwa [back_sub hmq] at this
                  have hc1 := close_succ ho
                  rw [hc1] at hF1
                  obtain ⟨f1, f2⟩ := hsim.close e3 e4 ho hF1
                  rw [← hc1] at f2
                  have HC := rclose_any wo hRd hg
                  have hg2 := clo_good hg
                  rw [f1] at HC hg2
                  rw [if_pos rfl] at HC hg2
                  replace HC := Lib.hid HC
                  have hnew := Lib.hid (And.intro hg2 f2)
                  have hm2 := Lib.hid hm1
                  clear e1 e2 e3 e4 e5 ho hF1 hc1 f1 f2 hg2 hm1 hmq hs0 hsr hg hsim hop16
                  generalize ((q' + 1 : Nat) : Int) = Q at *
                  go_wp2_with fail
                  refine HC.out.mono ?_
                  rintro e W' ⟨rfl, hRd', hG'⟩
                  have hBw' := below_only hBw hG' hRB hBw.size
                  clear HC hRd hBw hG'
                  go_wp2_with fail
                  go_roundw
                  case rel => exact ⟨m + 1, q', v, _, hm2.out, by rw [i2], hnew, hRd', hBw'⟩
                  case measure => first | exact down_meas i1 i4 | (rw [i2]; exact down_meas i1 i4) | (simp only [i2]; exact down_meas i1 i4)
        · as_aux_lemma =>
          obtain ⟨e1, e2, e3, e4, e5⟩ := hcl.out i (back_le hiq)
          have HC := mclose wo hL.wr
          rw [close_when e1] at HC
          replace HC := Lib.hid HC
          obtain ⟨i1, i2, i4, hiq3⟩ := back_down hiq hop16
          have hiq2 := Lib.hid hiq3
          clear hiq3
          clear hiq e1 e2 e3 e4 e5 hop16
          generalize ((q + 1 : Nat) : Int) = Q at *
          go_wp2_with fail
          refine HC.out.mono ?_
          rintro e W' ⟨rfl, v', h1, h2, h3⟩
          have hL' := hL.step h1 h2 h3
          clear HC h1 h2 h3 hL
          go_wp2_with fail
          go_roundw
          case rel => exact ⟨i + 1, q, v', hiq2.out, by rw [i2], hL'⟩
          case measure => first | exact down_meas i1 i4 | (rw [i2]; exact down_meas i1 i4) | (simp only [i2]; exact down_meas i1 i4)
end saveBack
end Go.Proofs.Ytacnmnodbmbplaa
