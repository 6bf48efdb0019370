/-
  Pack by the document: the loops.
-/
import Derived.Test.YtekjcgckniopdaaBPkR
namespace Go.Proofs.Ytekjcgckniopdaa
open Go.RowKit Go.Shelf Go.Sort
open Go.Proofs.Ytekjcgckniopdaa.brrNearest (info5 row_news)
set_option maxRecDepth 100000
set_option maxHeartbeats 2000000
set_option linter.unusedVariables false
set_option linter.unusedSimpArgs false

theorem pieN_more {n m : Nat} (h : n ≤ m) (h2 : m < 16 * pieN n) : m = 0 ∨ ¬ (m % 16 = 0) := by
  unfold pieN at h2
  split at h2 <;> omega
theorem pieN_done (n : Nat) : n ≤ 16 * pieN n := by unfold pieN; split <;> omega
theorem rpack_any (w : World) (a : Option Addr) (n c : Nat) (s : Nat → Int) (hI : IRow w a n s) (hs : ∀ i, Smp (s i)) (hn : n ≤ 1000) :
    Calls Try.prog 23 #[.slice a n c] w fun e w' => ∃ gs c', e = .returned (.slice (some ⟨gs, 0, none⟩) (9 * pieN n) c') ∧ Row w' (some ⟨gs, 0, none⟩) (9 * pieN n) (pkG s n) ∧ Below w.heap.size w w' := by
  obtain ⟨j0, hj0, hz0, hz1, hz2⟩ := info_parts info23
  obtain ⟨j5, hj5, hy0, hy1, hy2⟩ := info_parts info5
  obtain ⟨v1, w1, hr1, hown1, hB1⟩ := first_append w a n c s hI (by omega)
  have hm := pieN_pos n
  have hmd := pieN_done n
  have hmb : pieN n ≤ 64 := by unfold pieN; split <;> omega
  have hmore := Lib.hid (fun m (h : n ≤ m) (h2 : m < 16 * pieN n) => pieN_more h h2)
  go_enter Try.func23, Try.ntmps23
  go_wp2_with (at_builtin; refine wpList_append_ran rfl _ _ 27 rfl _ _ _ _ rfl rfl hr1 ?_)
  clear hr1 hI
  go_loopw [3] (fun s3 wr => ∃ m : Nat, n ≤ m ∧ m ≤ 16 * pieN n ∧ wr.ownsRow w.heap.size 23 1 s3 m (allP s n m) ∧ Below w.heap.size w wr) (fun s3 _ => 16 * pieN n - lenV s3)
  case atStart => exact ⟨n, Nat.le_refl _, hmd, hown1, hB1⟩
  case round =>
    clear hown1 hB1
    obtain ⟨m, hnm, hmm, hown, hB⟩ := hrel
    have hlen : ∃ b3 c3, u3 = .slice b3 m c3 := by
      rcases hown.2 with ⟨rfl, rfl⟩ | ⟨g, cap, cur, rfl, _⟩
      · exact ⟨_, _, rfl⟩
      · exact ⟨_, _, rfl⟩
    by_cases hlt : m < 16 * pieN n
    · have hsucc := allP_succ s n m hnm
      have hB6 := hB.alloc hB.size (.cells #[.int .i16 0] 23)
      have ho6 := hown.alloc (.cells #[.int .i16 0] 23)
      have hBs : w.heap.size ≤ (wr.alloc (.cells #[.int .i16 0] 23)).heap.size := hB6.size
      obtain ⟨v', w9, hr, hown9, hgrow, _⟩ := run_append_own (P := Try.prog) (w := wr.alloc (.cells #[.int .i16 0] 23)) w.heap.size 27 27 23 j0 _ 1 2 Try.underlying27 hj0 hz0 hz1 hz2 rfl (by decide) u3 m _ ho6 ⟨wr.heap.size, 0, none⟩ 1 1 [.int .i16 0] rfl (cell_one_new _ _ _) (by simp [Value.oneCell']) (by unfold maxLen; omega) (by omega) hBs
      rw [hsucc] at hown9
      have hB9 := hB6.trans (grown_below hgrow hBs (own_le ho6))
      have hlv : lenV v' = m + 1 := by
        rcases hown9.2 with ⟨rfl, h0⟩ | ⟨g, cap, cur, rfl, _⟩
        · omega
        · rfl
      have hlu : lenV u3 = m := by obtain ⟨b3, c3, rfl⟩ := hlen; rfl
      have hfin := Lib.hid (And.intro hown9 (And.intro hB9 (And.intro hlv hlu)))
      obtain ⟨b3, c3, rfl⟩ := hlen
      have hms : 16 * pieN n - (m + 1) < 16 * pieN n - m := by omega
      replace hms := Lib.hid hms
      clear hown hB hB6 ho6 hBs hown9 hgrow hB9 hlv hlu hsucc
      rcases hmore.out m hnm hlt with h0 | h0
      · subst h0
        go_wp2_with (at_builtin; refine wpList_append_ran rfl _ _ 27 rfl _ _ _ _ rfl rfl hr ?_)
        clear hr
        exact ⟨⟨_, Nat.le_succ_of_le hnm, hlt, hfin.out.1, hfin.out.2.1⟩, by rw [hfin.out.2.2.1, hfin.out.2.2.2]; exact hms.out⟩
      · have hme : ((m : Int) % 16 != 0) = true := bne_iff_ne.2 (by omega)
        have hm0 : ¬ (m = 0) := by omega
        go_wp2_with (at_builtin; refine wpList_append_ran rfl _ _ 27 rfl _ _ _ _ rfl rfl hr ?_)
        clear hr
        exact ⟨⟨_, Nat.le_succ_of_le hnm, hlt, hfin.out.1, hfin.out.2.1⟩, by rw [hfin.out.2.2.1, hfin.out.2.2.2]; exact hms.out⟩
    · obtain rfl : m = 16 * pieN n := by omega
      obtain ⟨a2, ca, rfl, hI2, hca, hab⟩ := own_irow2 (f := fun j => if j < n then s j else 0) hown (by omega) (fun j hj => allP_at s n _ j hj)
      obtain ⟨ga, rfl, hgal, hgc⟩ : ∃ ga, a2 = some ⟨ga, 0, none⟩ ∧ ga < wr.heap.size ∧ ∀ i, i < 16 * pieN n → wr.cell? ⟨ga, i, none⟩ = some (.int .i16 (if i < n then s i else 0)) := by
        rcases hown.2 with ⟨e, h0⟩ | ⟨g, cap, cur, e, hb, hg, hx⟩
        · omega
        · injection e with e1 e2 e3
          subst e1
          refine ⟨g, rfl, (Array.getElem?_eq_some_iff.1 hg).1, fun i hi => ?_⟩
          rw [hown.cellAt i (by omega)]
          exact allP_at s n _ i hi
      clear hown hI2 hlen hlt hmore hnm hmm hmd
      have hM16 : (((16 * pieN n : Nat) : Int) % 16) = 0 := by omega
      have hM0 : ¬ (16 * pieN n = 0) := by omega
      have hMb : 16 * pieN n ≤ 1024 := by omega
      have hBw := hB.size
      replace hB := Lib.hid hB
      generalize hM : 16 * pieN n = M at *
      go_wp2_with fail
      clear hM16
      generalize wr = Wm at *
      have hMe : ((M : Int) == 0) = false := beq_eq_false_iff_ne.2 (by omega)
      simp only [hMe]
      clear hMe
      go_loopw [4, 5, 6] (fun s4 s5 s6 wr => ∃ i : Nat, i ≤ pieN n ∧ s6 = .int .i64 ((16 * i : Nat) : Int) ∧ wr.ownsRow Wm.heap.size 23 1 s5 (16 * i) (pkD s n i) ∧ wr.ownsRow Wm.heap.size 5 1 s4 (9 * i) (pkE s n i) ∧ Below Wm.heap.size Wm wr) (fun _ _ s6 _ => M - (intOf s6).toNat)
      case atStart => exact ⟨0, Nat.zero_le _, rfl, World.ownsRow_nil _ _ _ _, World.ownsRow_nil _ _ _ _, Below.refl _ _⟩
      case round =>
        obtain ⟨i, hi, rfl, hown5, hown4, hBm⟩ := hrel
        by_cases hlt : i < pieN n
        · have hq := pkS_smp s n i
          obtain ⟨HA1, HA2⟩ := rpahead_any wr _ i u5 s n hown5 (by omega)
          have hIR : IRow wr (some ⟨ga, 16 * i, none⟩) 16 (pieF s n i) := .inr ⟨ga, 16 * i, rfl, Nat.lt_of_lt_of_le hgal hBm.size, fun j hj => (hBm.cell (p := ⟨ga, 16 * i + j, none⟩) hgal).trans (hgc (16 * i + j) (by omega))⟩
          have HE := Lib.hid (rencode_any wr (some ⟨ga, 16 * i, none⟩) (ca - 16 * i) (pieF s n i) _ _ hIR (fun j => pieF_smp hs n i j) hq.1 hq.2)
          have hEb : encB (pieF s n i) (pkS s n i).1 (pkS s n i).2 = pkB s n i := rfl
          rw [hEb] at HE
          have HD := Lib.hid (fun V G (h : Holds V G 9 (pkB s n i)) => rdecode_any V (some ⟨G, 0, none⟩) 9 (pkB s n i) _ _ h.row hq.1 hq.2)
          have hnl : pkD s n i ++ outL (pkB s n i) (pkS s n i).1 (pkS s n i).2 16 = pkD s n (i + 1) := rfl
          have hne : pkE s n i ++ nine (pkX s n i) = pkE s n (i + 1) := rfl
          have hone := outL_one (pkB s n i) (pkS s n i).1 (pkS s n i).2 16
          have hlo : (outL (pkB s n i) (pkS s n i).1 (pkS s n i).2 16).length = 16 := outL_length _ _ _ _
          obtain ⟨B0, hB0⟩ : ∃ B0, pkB s n i 0 = B0 := ⟨_, rfl⟩
          have hb0 := pkB_lt s n i 0
          have hbe := (pkB_head s n i).1
          rw [hB0] at hb0 hbe
          replace hB0 := Lib.hid hB0
          have hxl : ∀ j, pkX s n i j = pkB s n i j + if i + 1 = pieN n ∧ j = 0 then 1 else 0 := fun j => pkX_eq s n i j
          generalize outL (pkB s n i) (pkS s n i).1 (pkS s n i).2 16 = news at *
          generalize (pkS s n i).1 = P at *
          generalize (pkS s n i).2 = Q at *
          have hMi : 16 * i + 16 ≤ M := by omega
          have hmi : pieN n ≤ 64 := hmb
          have hi9 : 9 * i + 9 ≤ 1000 := by omega
          have hi16 : 16 * i + 16 ≤ 2000 := by omega
          have hzl : decide (i + 1 = pieN n) = decide (16 * i + 16 = M) := by apply decide_eq_decide.2; omega
          have hh := Lib.hid (And.intro hown5 (And.intro hown4 hBm))
          replace HA1 := Lib.hid HA1
          replace HA2 := Lib.hid HA2
          replace hnl := Lib.hid hnl
          replace hne := Lib.hid hne
          replace hxl := Lib.hid hxl
          replace hzl := Lib.hid hzl
          clear hown5 hown4 hBm hIR hq hs
          have e1 : ((16 * i : Nat) : Int) + 16 = ((16 * i + 16 : Nat) : Int) := by omega
          have e2 : 16 * i + 16 - 16 * i = 16 := by omega
          have hzi : 16 * i + 16 = 16 * (i + 1) := by omega
          have hms : M - (16 * i + 16) < M - 16 * i := by omega
          have hlM : decide (((16 * i : Nat) : Int) < (M : Int)) = true := decide_eq_true (by omega)
          have i1 : (0 : Int) ≤ ((16 * i : Nat) : Int) := by omega
          have i2 : ((16 * i : Nat) : Int) ≤ ((16 * i + 16 : Nat) : Int) := by omega
          have i3 : ((16 * i + 16 : Nat) : Int) ≤ (ca : Int) := by omega
          have hcy : 16 * i < ca := by omega
          have hyM : 16 * i < M := by omega
          replace hzi := Lib.hid hzi
          replace hms := Lib.hid hms
          replace hMi := Lib.hid hMi
          generalize hyy : 16 * i = y at *
          replace hyy := Lib.hid hyy
          generalize hzz : y + 16 = z at *
          replace hzz := Lib.hid hzz
          have hwh := Lib.hid (show wrap64 (z : Int) = (z : Int) by simp only [wrap64]; have := hMi.out; omega)
          go_wp2_with fail
          refine HA1.out.mono ?_
          rintro e W' ⟨rfl, rfl⟩
          go_wp2_with fail
          refine HA2.out.mono ?_
          rintro e W' ⟨rfl, rfl⟩
          clear HA1 HA2
          have hbag := Lib.hid (And.intro hn (And.intro hm (And.intro hmb (And.intro hi (And.intro hlt (And.intro hb0 (And.intro hbe (And.intro hi9 (And.intro hi16 hBw)))))))))
          clear hEb hn hm hmb hi hlt hb0 hbe hi9 hi16 hBw hmi hab hM hca hM0 hMb hgal hgc hlM hyM
          have hbag2 := Lib.hid (And.intro hone hlo)
          clear hone hlo
          have hw := hwh.out
          go_wp2_with fail
          clear hw
          refine HE.out.mono ?_
          rintro e W5 ⟨G, rfl, hG5, hGl, hB5⟩
          have HD5 := Lib.hid (HD.out W5 G hG5)
          clear HE HD
          go_wp2_with fail
          refine HD5.out.mono ?_
          rintro e W6 ⟨s', rfl, hO6, hB6⟩
          clear HD5
          obtain ⟨hn, hm, hmb, hi, hlt, hb0, hbe, hi9, hi16, hBw⟩ := hbag.out
          obtain ⟨hone, hlo⟩ := hbag2.out
          obtain ⟨hown5, hown4, hBm⟩ := hh.out
          have hB56 : Below W'.heap.size W' W6 := hB5.trans (hB6.mono hB5.size)
          have ho5 := hown5.kept (w' := W6) (row := none) ⟨hB56.os, hB56.tape, hB56.output, hB56.size, fun k hk _ => hB56.block k hk⟩ (by cases hv : Value.ownBlock _ <;> simp)
          have ho4 := hown4.kept (w' := W6) (row := none) ⟨hB56.os, hB56.tape, hB56.output, hB56.size, fun k hk _ => hB56.block k hk⟩ (by cases hv : Value.ownBlock _ <;> simp)
          have hGm : Holds W6 G 9 (pkB s n i) := hG5.below hB6 hG5.lt
          have hBm6 := hBm.trans (hB56.mono hBm.size)
          have hBs6 : Wm.heap.size ≤ W6.heap.size := hBm6.size
          have hG4 : u4.ownBlock ≠ some G := fun e => by
            have := (hown4.lt G e).2
            omega
          have hGB : Wm.heap.size ≤ G := Nat.le_trans hBm.size hGl
          obtain ⟨gs, cap, rfl, hlen, hnw⟩ := own_news hO6 (by decide)
          obtain ⟨v', w9, hr, hown9, hgrow, _⟩ := run_append_own (P := Try.prog) (w := W6) Wm.heap.size 27 27 23 j0 _ 1 2 Try.underlying27 hj0 hz0 hz1 hz2 rfl (by decide) u5 y _ ho5 ⟨gs, 0, none⟩ 16 cap news (by simp [hlo]) hnw hone (by unfold maxLen; omega) (by omega) hBs6
          rw [hnl.out, hzz.out, hzi.out] at hown9
          have hap := rows_apart ho4 ho5 (by decide)
          have ho49 := ho4.kept hgrow hap
          obtain ⟨gcs, hGW, hGr⟩ := hGm
          have hG9 : Holds w9 G 9 (pkB s n i) := ⟨gcs, whole_grown hGW hgrow (own_apart ho5 hGW (by decide)), hGr⟩
          have hB9 := hBm6.trans (grown_below hgrow hBs6 (own_le ho5))
          have hne9 := hG9
          clear ho5 ho4 hGW hGr hBm6 hB56 hB5 hB6 hG5 hO6 hown5 hown4 hBm hh hgrow hnw hap hne9
          have x0 := hG9.cell 0 (by decide)
          rw [hB0.out] at x0
          have f0 := hG9.free 0
          by_cases hlast : i + 1 = pieN n
          · have hX : Holds (w9.setCell ⟨G, 0, none⟩ (.int .u8 ((B0 + 1 : Nat) : Int))) G 9 (pkX s n i) := (hG9.put 0 (B0 + 1) (by omega)).congr (fun j _ => by
              rw [hxl.out j]
              unfold upd
              by_cases e : j = 0
              · subst e; rw [if_pos rfl, if_pos ⟨hlast, rfl⟩, hB0.out]
              · rw [if_neg e, if_neg (fun h => e h.2), Nat.add_zero])
            have hneG : v'.ownBlock ≠ some G := by
              obtain ⟨gcs, hGW, hGr⟩ := hG9
              exact own_apart hown9 hGW (by decide)
            have g1 := only_set (Below.only (Below.refl w9.heap.size w9) G) 0 (.int .u8 ((B0 + 1 : Nat) : Int))
            have ho5x := hown9.kept g1 (.inr hneG)
            have ho4x := ho49.kept g1 (.inr hG4)
            have hBx := hB9.setCell (p := ⟨G, 0, none⟩) hGB (.int .u8 ((B0 + 1 : Nat) : Int))
            have hb1 : B0 + 1 < 256 := by omega
            have ee : ((B0 + 1 : Nat) : Int) = (B0 : Int) + 1 := by omega
            have hq1 : decide (z = M) = true := by rw [← hzl.out]; exact decide_eq_true hlast
            have hq1' : ((z : Int) == (M : Int)) = true := by
              have := of_decide_eq_true hq1
              rw [beq_iff_eq]; omega
            generalize hW10 : w9.setCell ⟨G, 0, none⟩ (.int .u8 ((B0 + 1 : Nat) : Int)) = W10 at *
            rw [ee] at hW10
            replace hW10 := Lib.hid hW10
            clear hown9 ho49 hG9 hB9 g1 hneG ee
            have hxr := hX.row
            obtain ⟨v4, w12, hr4, hown12, hgrow12, _⟩ := run_append_own (P := Try.prog) (w := W10) Wm.heap.size 22 22 5 j5 _ 1 1 Try.underlying22 hj5 hy0 hy1 hy2 rfl (by decide) u4 (9 * i) _ ho4x ⟨G, 0, none⟩ 9 9 (nine (pkX s n i)) (by simp [nine]) (row_news hxr) (nine_one _) (by unfold maxLen; omega) (by omega) hBx.size
            rw [hne.out, show 9 * i + 9 = 9 * (i + 1) from (Nat.mul_succ 9 i).symm] at hown12
            have ho512 := ho5x.kept hgrow12 (rows_apart ho5x ho4x (by decide))
            have hB12 := hBx.trans (grown_below hgrow12 hBx.size (own_le ho4x))
            have hfin := Lib.hid (And.intro ho512 (And.intro hown12 hB12))
            replace hq1 := Lib.hid hq1
            clear ho5x ho4x hBx hX hxr hown12 hgrow12 ho512 hB12 hn hm hmb hi hlt hbe hi9 hi16 hBw hone hlo hlen
            have hw := hwh.out
            go_upto_region 17 with (at_builtin; first | refine wpList_append_ran rfl _ _ 27 rfl _ _ _ _ rfl rfl hr ?_)
            rw [hW10.out]
            clear x0 f0 hr
            go_wp2_with (at_builtin; refine wpList_append_ran rfl _ _ 22 rfl _ _ _ _ rfl rfl hr4 ?_)
            exact ⟨⟨i + 1, hbag.out.2.2.2.2.1, by first | (rw [hw, ← hzi.out]) | rw [← hzi.out], hfin.out.1, hfin.out.2.1, hfin.out.2.2⟩, by (have hk := hms.out; clear hms; rw [hw]; exact hk)⟩
          · have hX : Holds w9 G 9 (pkX s n i) := hG9.congr (fun j _ => by
              rw [hxl.out j, if_neg (fun h => hlast h.1), Nat.add_zero])
            have ho5x := hown9
            have ho4x := ho49
            have hBx := hB9
            have hq1 : decide (z = M) = false := by rw [← hzl.out]; exact decide_eq_false hlast
            have hq1' : ((z : Int) == (M : Int)) = false := by
              have := of_decide_eq_false hq1
              rw [beq_eq_false_iff_ne]; omega
            have hW10 := Lib.hid (rfl : w9 = w9)
            clear hown9 ho49 hG9 hB9 x0 f0
            have hxr := hX.row
            obtain ⟨v4, w12, hr4, hown12, hgrow12, _⟩ := run_append_own (P := Try.prog) (w := w9) Wm.heap.size 22 22 5 j5 _ 1 1 Try.underlying22 hj5 hy0 hy1 hy2 rfl (by decide) u4 (9 * i) _ ho4x ⟨G, 0, none⟩ 9 9 (nine (pkX s n i)) (by simp [nine]) (row_news hxr) (nine_one _) (by unfold maxLen; omega) (by omega) hBx.size
            rw [hne.out, show 9 * i + 9 = 9 * (i + 1) from (Nat.mul_succ 9 i).symm] at hown12
            have ho512 := ho5x.kept hgrow12 (rows_apart ho5x ho4x (by decide))
            have hB12 := hBx.trans (grown_below hgrow12 hBx.size (own_le ho4x))
            have hfin := Lib.hid (And.intro ho512 (And.intro hown12 hB12))
            replace hq1 := Lib.hid hq1
            clear ho5x ho4x hBx hX hxr hown12 hgrow12 ho512 hB12 hn hm hmb hi hlt hbe hi9 hi16 hBw hone hlo hlen
            have hw := hwh.out
            go_wp2_with (at_builtin; first | refine wpList_append_ran rfl _ _ 27 rfl _ _ _ _ rfl rfl hr ?_ | refine wpList_append_ran rfl _ _ 22 rfl _ _ _ _ rfl rfl hr4 ?_)
            exact ⟨⟨i + 1, hbag.out.2.2.2.2.1, by first | (rw [hw, ← hzi.out]) | rw [← hzi.out], hfin.out.1, hfin.out.2.1, hfin.out.2.2⟩, by (have hk := hms.out; clear hms; rw [hw]; exact hk)⟩
        · obtain rfl : i = pieN n := by omega
          have hlM : decide (((16 * pieN n : Nat) : Int) < (M : Int)) = false := decide_eq_false (by omega)
          obtain ⟨gb, cb, rfl, hbl, hbc⟩ : ∃ gb cb, u4 = .slice (some ⟨gb, 0, none⟩) (9 * pieN n) cb ∧ gb < wr.heap.size ∧ ∀ j, j < 9 * pieN n → wr.cell? ⟨gb, j, none⟩ = some (.int .u8 (pkG s n j : Nat)) := by
            rcases hown4.2 with ⟨e, h0⟩ | ⟨g, cap, cur, rfl, hb, hg, hx⟩
            · omega
            · refine ⟨g, _, rfl, (Array.getElem?_eq_some_iff.1 hg).1, fun j hj => ?_⟩
              rw [hown4.cellAt j (by omega), ← pkX_pkG]
              exact pkE_at s n _ j hj
          have hfin := Lib.hid (And.intro (show Row wr (some ⟨gb, 0, none⟩) (9 * pieN n) (pkG s n) from ⟨fun j hj => by
            rw [← pkX_pkG]
            exact pkX_lt _ _ _ _, .inr ⟨gb, 0, rfl, hbl, fun j hj => by rw [Nat.zero_add]; exact hbc j hj⟩⟩) (hB.out.trans (hBm.mono hB.out.size)))
          clear hown5 hown4 hBm hbc
          go_wp2_with fail
          go_ret
          exact ⟨gb, cb, rfl, hfin.out.1, hfin.out.2⟩
end Go.Proofs.Ytekjcgckniopdaa
