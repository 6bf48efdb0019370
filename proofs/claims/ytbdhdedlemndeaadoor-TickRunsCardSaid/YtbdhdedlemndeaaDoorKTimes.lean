/-
  TickTimes: the walk (genktimes.py writes this text).
-/
import Derived.Test.YtbdhdedlemndeaaDoorKWrite
namespace Go.Proofs.YtbdhdedlemndeaaDoor
open Go.RowKit Go.Shelf
set_option maxRecDepth 100000
set_option maxHeartbeats 4000000
set_option linter.unusedVariables false

theorem many_le {t : Nat} (ht : t < 256) : 1 ≤ manyT t ∧ manyT t ≤ 256 := by unfold manyT; split <;> omega
theorem TimesT.again {k t n : Nat} {f : Nat → Nat} (h : TimesT k t n f) : TimesT k t n (upd f (4 + 4 * k) 0) :=
  ⟨by rw [upd_other _ _ (by omega)]; exact h.ctl, by rw [upd_other _ _ (by omega)]; exact h.tgt, by rw [upd_other _ _ (by omega)]; exact h.div, by rw [upd_other _ _ (by omega)]; exact h.cnt, upd_same _ _ _, fun i hi hne => by rw [upd_other _ _ (by omega)]; exact h.oth i hi hne⟩
theorem times_0 (t : Nat) : TimesT 0 t 0 (writeF (writeF newF 10 t) 1 1) := ⟨by kernel_rfl, by kernel_rfl, by kernel_rfl, by kernel_rfl, by kernel_rfl, fun i hi hne => by
  rcases (show i = 1 ∨ i = 2 by omega) with rfl | rfl <;> kernel_rfl⟩
theorem times_1 (t : Nat) : TimesT 1 t 0 (writeF (writeF newF 11 t) 1 2) := ⟨by kernel_rfl, by kernel_rfl, by kernel_rfl, by kernel_rfl, by kernel_rfl, fun i hi hne => by
  rcases (show i = 0 ∨ i = 2 by omega) with rfl | rfl <;> kernel_rfl⟩
theorem times_2 (t : Nat) : TimesT 2 t 0 (writeF (writeF newF 12 t) 1 4) := ⟨by kernel_rfl, by kernel_rfl, by kernel_rfl, by kernel_rfl, by kernel_rfl, fun i hi hne => by
  rcases (show i = 0 ∨ i = 1 by omega) with rfl | rfl <;> kernel_rfl⟩
/-- A Tick of one's own, made since w. -/
structure Tl (w W : World) (b : Nat) (f : Nat → Nat) : Prop where
  ts : Ts W b f
  lb : w.heap.size ≤ b
  bel : Below w.heap.size w W
theorem Tl.step {w W W' : World} {b : Nat} {f g : Nat → Nat} (h : Tl w W b f) (k : Ts W' b g) (o : W.grownBy W' (some b)) : Tl w W' b g := ⟨k, h.lb, below_of_grown h.bel o h.lb h.bel.size⟩
namespace tickTimes
def Cut (w : World) (s0 s2 : Value) (V : World) : Prop := ∃ K R : Nat, K < 3 ∧ R ≤ 40 ∧ s0 = .int .i64 (K : Nat) ∧ s2 = .int .i64 (R : Nat) ∧ w = V
theorem walk (k : Int) (t : Nat) (rounds : Int) (w : World) (hp : Pd w) (hk0 : -9223372036854775808 ≤ k ∧ k ≤ 9223372036854775807) (ht : t < 256) (hr0 : -9223372036854775808 ≤ rounds ∧ rounds ≤ 9223372036854775807) :
    Calls Tryd.prog 6 #[.int .i64 k, .int .u8 (t : Nat), .int .i64 rounds] w fun e w' => e = .returned (.bool true) ∧ Below w.heap.size w w' := by
  clear hk0 hr0
  have HN := Lib.hid (knew_any w)
  have HS := Lib.hid fun W b f (h : Tl w W b f) => kstep_any W h.ts
  have HR := Lib.hid fun W b f r (h : Tl w W b f) => kread_any r W h.ts
  have HW := Lib.hid fun W b f r v (h : Tl w W b f) (hv : v < 256) => kwrite_any r v W h.ts hv
  obtain ⟨m1, m2⟩ := many_le ht
  have hmany : manyT t = if t = 0 then 256 else t := rfl
  replace hp := Lib.hid hp
  go_enter Tryd.func6, Tryd.ntmps6
  go_upto_region 0 with (fail)
  iterate 8 (first | go_values | go_skip | go_step | go_upon | go_back)
  go_cut [0, 2] (fun s0 s2 V => Cut w s0 s2 V)
  case first =>
    by_cases h1 : k < 0
    · go_wp2_with fail
      go_meet
      exact ⟨2, 1, by decide, by decide, rfl, rfl, rfl⟩
    by_cases h2 : 2 < k
    · go_wp2_with fail
      go_meet
      exact ⟨2, 1, by decide, by decide, rfl, rfl, rfl⟩
    by_cases h3 : rounds < 0
    · go_wp2_with fail
      go_meet
      exact ⟨2, 1, by decide, by decide, rfl, rfl, rfl⟩
    by_cases h4 : 40 < rounds
    · go_wp2_with fail
      go_meet
      exact ⟨2, 1, by decide, by decide, rfl, rfl, rfl⟩
    · go_wp2_with fail
      go_meet
      exact ⟨k.toNat, rounds.toNat, by omega, by omega, by congr 1; omega, by congr 1; omega, rfl⟩
  case rest =>
    obtain ⟨K, R, hK, hR, rfl, rfl, rfl⟩ := hcut
    rcases (show K = 0 ∨ K = 1 ∨ K = 2 by omega) with rfl | rfl | rfl
    · clear hK
      go_upto_if 31 with (fail)
      go_cut [8] (fun s8 V => s8 = .int .i64 (manyT t : Nat) ∧ w = V)
      case first =>
        by_cases h0 : t = 0
        · subst h0
          go_wp2_with fail
          go_meet
          exact ⟨rfl, rfl⟩
        · have hx : manyT t = t := if_neg h0
          have h0' : ((t : Int) == 0) = false := beq_eq_false_iff_ne.2 (by omega)
          replace hx := Lib.hid hx
          clear hmany m1 m2
          go_wp2_with fail
          go_meet
          exact ⟨by rw [hx.out], rfl⟩
      case rest =>
        obtain ⟨rfl, hwv⟩ := hcut
        subst hwv
        have hlast := Lib.hid fun f n (h : TimesT 0 t n f) (hn : n + 1 = perT 0 * manyT t) => h.last (by decide) ht hn
        have hnext := Lib.hid fun f n (h : TimesT 0 t n f) (hn : n + 1 < perT 0 * manyT t) => h.next (by decide) ht hn
        have hst := Lib.hid (times_0 t)
        have hgd := Lib.hid (show GoodT (writeF (writeF newF 10 t) 1 1) from (newF_good.write 10 ht).write 1 (by decide))
        clear hmany
        generalize manyT t = M at *
        go_wp2_with fail
        refine HN.out.mono ?_
        rintro e W1 ⟨b, rfl, hb, hT1, hB1⟩
        have hL1 : Tl w W1 b newF := ⟨⟨hT1, hp.out.below hB1 hp.out.lt, by have := hp.out.lt; omega, newF_good⟩, hb, hB1⟩
        have HW1 := HW.out _ _ _ 10 t hL1 ht
        replace hL1 := Lib.hid hL1
        replace HW1 := Lib.hid HW1
        clear HN hT1 hB1 hb
        go_wp2_with fail
        refine HW1.out.mono ?_
        rintro e W2 ⟨rfl, hT2, hg2⟩
        have hL2 := hL1.out.step hT2 hg2
        have HW2 := HW.out _ _ _ 1 1 hL2 (by decide)
        replace hL2 := Lib.hid hL2
        replace HW2 := Lib.hid HW2
        clear hL1 HW1 hT2 hg2
        go_wp2_with fail
        refine HW2.out.mono ?_
        rintro e W3 ⟨rfl, hT3, hg3⟩
        have hL3 := hL2.out.step hT3 hg3
        replace hL3 := Lib.hid hL3
        clear hL2 HW2 hT3 hg3 HW
        generalize writeF (writeF newF 10 t) 1 1 = F0 at *
        go_wp2_with fail
        go_loopw [10] (fun s10 wr => ∃ n : Nat, n ≤ R ∧ s10 = .int .i64 (n : Nat) ∧ Hid (∃ f, Tl w wr b f ∧ TimesT 0 t 0 f)) (fun s10 _ => R - (intOf s10).toNat)
        case atStart => exact ⟨0, Nat.zero_le _, rfl, Lib.hid ⟨F0, hL3.out, hst.out⟩⟩
        case round =>
          obtain ⟨n, hn, rfl, hH⟩ := hrel
          obtain ⟨wo, rfl⟩ : ∃ wo, wo = wr := ⟨_, rfl⟩
          clear hL3 hst
          by_cases hlt : n < R
          · go_upto_region 17 with (fail)
            go_loopw [11] (fun s11 wr => ∃ c : Nat, c + 1 ≤ 128 * M ∧ s11 = .int .i64 (c : Nat) ∧ Hid (∃ f, Tl w wr b f ∧ TimesT 0 t c f)) (fun s11 _ => 128 * M - (intOf s11).toNat)
            case atStart => exact ⟨0, by omega, rfl, hH⟩
            case round =>
              obtain ⟨c, hc, rfl, hI⟩ := hrel
              obtain ⟨wi, rfl⟩ : ∃ wi, wi = wr := ⟨_, rfl⟩
              obtain ⟨f, hLf, hTf⟩ := hI.out
              by_cases hcl : c + 1 < 128 * M
              · have q1 : (c : Int) < 128 * (M : Int) - 1 := by omega
                have HS1 := Lib.hid (HS.out _ _ _ hLf)
                have hTn := Lib.hid (hnext.out f c hTf hcl)
                replace hLf := Lib.hid hLf
                clear hI hTf
                go_wp2_with fail
                refine HS1.out.mono ?_
                rintro e W5 ⟨rfl, hT5, hg5⟩
                have hL5 := Lib.hid (hLf.out.step hT5 hg5)
                clear HS1 hT5 hg5 hLf
                go_wp2_with fail
                refine ⟨⟨c + 1, by omega, by congr 1, Lib.hid ⟨_, hL5.out, hTn.out⟩⟩, ?_⟩
                simp only [intOf]
                omega
              · have q1 : ¬ (c : Int) < 128 * (M : Int) - 1 := by omega
                have v1 : readV f 13 = 0 := hTf.tal
                have HR1 := HR.out _ _ _ 13 hLf
                rw [v1, show readF f 13 = upd f (4 + 4 * 0) 0 from rfl] at HR1
                have hTa := hTf.again
                obtain ⟨v2, hTb⟩ := hlast.out _ c hTa (by show c + 1 = 128 * M; omega)
                replace HR1 := Lib.hid HR1
                replace hLf := Lib.hid hLf
                replace hTb := Lib.hid hTb
                replace v2 := Lib.hid v2
                clear hI hTf hTa v1 hc hcl
                go_wp2_with fail
                refine HR1.out.mono ?_
                rintro e W5 ⟨rfl, hT5, hg5⟩
                have hL5 := hLf.out.step hT5 hg5
                have HS2 := Lib.hid (HS.out _ _ _ hL5)
                replace hL5 := Lib.hid hL5
                clear HR1 hT5 hg5 hLf
                go_wp2_with fail
                refine HS2.out.mono ?_
                rintro e W6 ⟨rfl, hT6, hg6⟩
                have hL6 := hL5.out.step hT6 hg6
                have v3 : readV (stepF (upd f (4 + 4 * 0) 0)) 13 = 1 := v2.out
                have HR3 := HR.out _ _ _ 13 hL6
                rw [v3, show readF (stepF (upd f (4 + 4 * 0) 0)) 13 = upd (stepF (upd f (4 + 4 * 0) 0)) (4 + 4 * 0) 0 from rfl] at HR3
                replace HR3 := Lib.hid HR3
                replace hL6 := Lib.hid hL6
                clear HS2 hT6 hg6 hL5 v2 v3
                generalize upd (stepF (upd f (4 + 4 * 0) 0)) (4 + 4 * 0) 0 = G at *
                go_wp2_with fail
                refine HR3.out.mono ?_
                rintro e W7 ⟨rfl, hT7, hg7⟩
                have hL7 := hL6.out.step hT7 hg7
                have v4 : readV G 13 = 0 := hTb.out.tal
                have HR4 := HR.out _ _ _ 13 hL7
                rw [v4, show readF G 13 = upd G (4 + 4 * 0) 0 from rfl] at HR4
                have hTc := Lib.hid hTb.out.again
                replace HR4 := Lib.hid HR4
                replace hL7 := Lib.hid hL7
                clear HR3 hT7 hg7 hL6 v4 hTb
                go_wp2_with fail
                refine HR4.out.mono ?_
                rintro e W8 ⟨rfl, hT8, hg8⟩
                have hL8 := Lib.hid (hL7.out.step hT8 hg8)
                clear HR4 hT8 hg8 hL7
                go_wp2_with fail
                refine ⟨⟨n + 1, by omega, by congr 1, Lib.hid ⟨_, hL8.out, hTc.out⟩⟩, ?_⟩
                simp only [intOf]
                omega
          · obtain ⟨f, hLf, hTf⟩ := hH.out
            have v1 : readV f 14 = 0 := hTf.oth 1 (by decide) (by decide)
            have HR1 := HR.out _ _ _ 14 hLf
            rw [v1] at HR1
            replace HR1 := Lib.hid HR1
            replace hLf := Lib.hid hLf
            clear hH hTf v1
            go_wp2_with fail
            refine HR1.out.mono ?_
            rintro e W5 ⟨rfl, hT5, hg5⟩
            have hL5 := Lib.hid (hLf.out.step hT5 hg5)
            clear HR1 hT5 hg5 hLf
            go_wp2_with fail
            go_ret
            exact ⟨rfl, hL5.out.bel⟩
    · clear hK
      go_upto_if 31 with (fail)
      go_cut [8] (fun s8 V => s8 = .int .i64 (manyT t : Nat) ∧ w = V)
      case first =>
        by_cases h0 : t = 0
        · subst h0
          go_wp2_with fail
          go_meet
          exact ⟨rfl, rfl⟩
        · have hx : manyT t = t := if_neg h0
          have h0' : ((t : Int) == 0) = false := beq_eq_false_iff_ne.2 (by omega)
          replace hx := Lib.hid hx
          clear hmany m1 m2
          go_wp2_with fail
          go_meet
          exact ⟨by rw [hx.out], rfl⟩
      case rest =>
        obtain ⟨rfl, hwv⟩ := hcut
        subst hwv
        have hlast := Lib.hid fun f n (h : TimesT 1 t n f) (hn : n + 1 = perT 1 * manyT t) => h.last (by decide) ht hn
        have hnext := Lib.hid fun f n (h : TimesT 1 t n f) (hn : n + 1 < perT 1 * manyT t) => h.next (by decide) ht hn
        have hst := Lib.hid (times_1 t)
        have hgd := Lib.hid (show GoodT (writeF (writeF newF 11 t) 1 2) from (newF_good.write 11 ht).write 1 (by decide))
        clear hmany
        generalize manyT t = M at *
        go_wp2_with fail
        refine HN.out.mono ?_
        rintro e W1 ⟨b, rfl, hb, hT1, hB1⟩
        have hL1 : Tl w W1 b newF := ⟨⟨hT1, hp.out.below hB1 hp.out.lt, by have := hp.out.lt; omega, newF_good⟩, hb, hB1⟩
        have HW1 := HW.out _ _ _ 11 t hL1 ht
        replace hL1 := Lib.hid hL1
        replace HW1 := Lib.hid HW1
        clear HN hT1 hB1 hb
        go_wp2_with fail
        refine HW1.out.mono ?_
        rintro e W2 ⟨rfl, hT2, hg2⟩
        have hL2 := hL1.out.step hT2 hg2
        have HW2 := HW.out _ _ _ 1 2 hL2 (by decide)
        replace hL2 := Lib.hid hL2
        replace HW2 := Lib.hid HW2
        clear hL1 HW1 hT2 hg2
        go_wp2_with fail
        refine HW2.out.mono ?_
        rintro e W3 ⟨rfl, hT3, hg3⟩
        have hL3 := hL2.out.step hT3 hg3
        replace hL3 := Lib.hid hL3
        clear hL2 HW2 hT3 hg3 HW
        generalize writeF (writeF newF 11 t) 1 2 = F0 at *
        go_wp2_with fail
        go_loopw [10] (fun s10 wr => ∃ n : Nat, n ≤ R ∧ s10 = .int .i64 (n : Nat) ∧ Hid (∃ f, Tl w wr b f ∧ TimesT 1 t 0 f)) (fun s10 _ => R - (intOf s10).toNat)
        case atStart => exact ⟨0, Nat.zero_le _, rfl, Lib.hid ⟨F0, hL3.out, hst.out⟩⟩
        case round =>
          obtain ⟨n, hn, rfl, hH⟩ := hrel
          obtain ⟨wo, rfl⟩ : ∃ wo, wo = wr := ⟨_, rfl⟩
          clear hL3 hst
          by_cases hlt : n < R
          · go_upto_region 17 with (fail)
            go_loopw [11] (fun s11 wr => ∃ c : Nat, c + 1 ≤ 128 * M ∧ s11 = .int .i64 (c : Nat) ∧ Hid (∃ f, Tl w wr b f ∧ TimesT 1 t c f)) (fun s11 _ => 128 * M - (intOf s11).toNat)
            case atStart => exact ⟨0, by omega, rfl, hH⟩
            case round =>
              obtain ⟨c, hc, rfl, hI⟩ := hrel
              obtain ⟨wi, rfl⟩ : ∃ wi, wi = wr := ⟨_, rfl⟩
              obtain ⟨f, hLf, hTf⟩ := hI.out
              by_cases hcl : c + 1 < 128 * M
              · have q1 : (c : Int) < 128 * (M : Int) - 1 := by omega
                have HS1 := Lib.hid (HS.out _ _ _ hLf)
                have hTn := Lib.hid (hnext.out f c hTf hcl)
                replace hLf := Lib.hid hLf
                clear hI hTf
                go_wp2_with fail
                refine HS1.out.mono ?_
                rintro e W5 ⟨rfl, hT5, hg5⟩
                have hL5 := Lib.hid (hLf.out.step hT5 hg5)
                clear HS1 hT5 hg5 hLf
                go_wp2_with fail
                refine ⟨⟨c + 1, by omega, by congr 1, Lib.hid ⟨_, hL5.out, hTn.out⟩⟩, ?_⟩
                simp only [intOf]
                omega
              · have q1 : ¬ (c : Int) < 128 * (M : Int) - 1 := by omega
                have v1 : readV f 14 = 0 := hTf.tal
                have HR1 := HR.out _ _ _ 14 hLf
                rw [v1, show readF f 14 = upd f (4 + 4 * 1) 0 from rfl] at HR1
                have hTa := hTf.again
                obtain ⟨v2, hTb⟩ := hlast.out _ c hTa (by show c + 1 = 128 * M; omega)
                replace HR1 := Lib.hid HR1
                replace hLf := Lib.hid hLf
                replace hTb := Lib.hid hTb
                replace v2 := Lib.hid v2
                clear hI hTf hTa v1 hc hcl
                go_wp2_with fail
                refine HR1.out.mono ?_
                rintro e W5 ⟨rfl, hT5, hg5⟩
                have hL5 := hLf.out.step hT5 hg5
                have HS2 := Lib.hid (HS.out _ _ _ hL5)
                replace hL5 := Lib.hid hL5
                clear HR1 hT5 hg5 hLf
                go_wp2_with fail
                refine HS2.out.mono ?_
                rintro e W6 ⟨rfl, hT6, hg6⟩
                have hL6 := hL5.out.step hT6 hg6
                have v3 : readV (stepF (upd f (4 + 4 * 1) 0)) 14 = 1 := v2.out
                have HR3 := HR.out _ _ _ 14 hL6
                rw [v3, show readF (stepF (upd f (4 + 4 * 1) 0)) 14 = upd (stepF (upd f (4 + 4 * 1) 0)) (4 + 4 * 1) 0 from rfl] at HR3
                replace HR3 := Lib.hid HR3
                replace hL6 := Lib.hid hL6
                clear HS2 hT6 hg6 hL5 v2 v3
                generalize upd (stepF (upd f (4 + 4 * 1) 0)) (4 + 4 * 1) 0 = G at *
                go_wp2_with fail
                refine HR3.out.mono ?_
                rintro e W7 ⟨rfl, hT7, hg7⟩
                have hL7 := hL6.out.step hT7 hg7
                have v4 : readV G 14 = 0 := hTb.out.tal
                have HR4 := HR.out _ _ _ 14 hL7
                rw [v4, show readF G 14 = upd G (4 + 4 * 1) 0 from rfl] at HR4
                have hTc := Lib.hid hTb.out.again
                replace HR4 := Lib.hid HR4
                replace hL7 := Lib.hid hL7
                clear HR3 hT7 hg7 hL6 v4 hTb
                go_wp2_with fail
                refine HR4.out.mono ?_
                rintro e W8 ⟨rfl, hT8, hg8⟩
                have hL8 := Lib.hid (hL7.out.step hT8 hg8)
                clear HR4 hT8 hg8 hL7
                go_wp2_with fail
                refine ⟨⟨n + 1, by omega, by congr 1, Lib.hid ⟨_, hL8.out, hTc.out⟩⟩, ?_⟩
                simp only [intOf]
                omega
          · obtain ⟨f, hLf, hTf⟩ := hH.out
            have v1 : readV f 15 = 0 := hTf.oth 2 (by decide) (by decide)
            have HR1 := HR.out _ _ _ 15 hLf
            rw [v1] at HR1
            replace HR1 := Lib.hid HR1
            replace hLf := Lib.hid hLf
            clear hH hTf v1
            go_wp2_with fail
            refine HR1.out.mono ?_
            rintro e W5 ⟨rfl, hT5, hg5⟩
            have hL5 := Lib.hid (hLf.out.step hT5 hg5)
            clear HR1 hT5 hg5 hLf
            go_wp2_with fail
            go_ret
            exact ⟨rfl, hL5.out.bel⟩
    · clear hK
      go_upto_if 31 with (fail)
      go_cut [8] (fun s8 V => s8 = .int .i64 (manyT t : Nat) ∧ w = V)
      case first =>
        by_cases h0 : t = 0
        · subst h0
          go_wp2_with fail
          go_meet
          exact ⟨rfl, rfl⟩
        · have hx : manyT t = t := if_neg h0
          have h0' : ((t : Int) == 0) = false := beq_eq_false_iff_ne.2 (by omega)
          replace hx := Lib.hid hx
          clear hmany m1 m2
          go_wp2_with fail
          go_meet
          exact ⟨by rw [hx.out], rfl⟩
      case rest =>
        obtain ⟨rfl, hwv⟩ := hcut
        subst hwv
        have hlast := Lib.hid fun f n (h : TimesT 2 t n f) (hn : n + 1 = perT 2 * manyT t) => h.last (by decide) ht hn
        have hnext := Lib.hid fun f n (h : TimesT 2 t n f) (hn : n + 1 < perT 2 * manyT t) => h.next (by decide) ht hn
        have hst := Lib.hid (times_2 t)
        have hgd := Lib.hid (show GoodT (writeF (writeF newF 12 t) 1 4) from (newF_good.write 12 ht).write 1 (by decide))
        clear hmany
        generalize manyT t = M at *
        go_wp2_with fail
        refine HN.out.mono ?_
        rintro e W1 ⟨b, rfl, hb, hT1, hB1⟩
        have hL1 : Tl w W1 b newF := ⟨⟨hT1, hp.out.below hB1 hp.out.lt, by have := hp.out.lt; omega, newF_good⟩, hb, hB1⟩
        have HW1 := HW.out _ _ _ 12 t hL1 ht
        replace hL1 := Lib.hid hL1
        replace HW1 := Lib.hid HW1
        clear HN hT1 hB1 hb
        go_wp2_with fail
        refine HW1.out.mono ?_
        rintro e W2 ⟨rfl, hT2, hg2⟩
        have hL2 := hL1.out.step hT2 hg2
        have HW2 := HW.out _ _ _ 1 4 hL2 (by decide)
        replace hL2 := Lib.hid hL2
        replace HW2 := Lib.hid HW2
        clear hL1 HW1 hT2 hg2
        go_wp2_with fail
        refine HW2.out.mono ?_
        rintro e W3 ⟨rfl, hT3, hg3⟩
        have hL3 := hL2.out.step hT3 hg3
        replace hL3 := Lib.hid hL3
        clear hL2 HW2 hT3 hg3 HW
        generalize writeF (writeF newF 12 t) 1 4 = F0 at *
        go_wp2_with fail
        go_loopw [10] (fun s10 wr => ∃ n : Nat, n ≤ R ∧ s10 = .int .i64 (n : Nat) ∧ Hid (∃ f, Tl w wr b f ∧ TimesT 2 t 0 f)) (fun s10 _ => R - (intOf s10).toNat)
        case atStart => exact ⟨0, Nat.zero_le _, rfl, Lib.hid ⟨F0, hL3.out, hst.out⟩⟩
        case round =>
          obtain ⟨n, hn, rfl, hH⟩ := hrel
          obtain ⟨wo, rfl⟩ : ∃ wo, wo = wr := ⟨_, rfl⟩
          clear hL3 hst
          by_cases hlt : n < R
          · go_upto_region 17 with (fail)
            go_loopw [11] (fun s11 wr => ∃ c : Nat, c + 1 ≤ 16 * M ∧ s11 = .int .i64 (c : Nat) ∧ Hid (∃ f, Tl w wr b f ∧ TimesT 2 t c f)) (fun s11 _ => 16 * M - (intOf s11).toNat)
            case atStart => exact ⟨0, by omega, rfl, hH⟩
            case round =>
              obtain ⟨c, hc, rfl, hI⟩ := hrel
              obtain ⟨wi, rfl⟩ : ∃ wi, wi = wr := ⟨_, rfl⟩
              obtain ⟨f, hLf, hTf⟩ := hI.out
              by_cases hcl : c + 1 < 16 * M
              · have q1 : (c : Int) < 16 * (M : Int) - 1 := by omega
                have HS1 := Lib.hid (HS.out _ _ _ hLf)
                have hTn := Lib.hid (hnext.out f c hTf hcl)
                replace hLf := Lib.hid hLf
                clear hI hTf
                go_wp2_with fail
                refine HS1.out.mono ?_
                rintro e W5 ⟨rfl, hT5, hg5⟩
                have hL5 := Lib.hid (hLf.out.step hT5 hg5)
                clear HS1 hT5 hg5 hLf
                go_wp2_with fail
                refine ⟨⟨c + 1, by omega, by congr 1, Lib.hid ⟨_, hL5.out, hTn.out⟩⟩, ?_⟩
                simp only [intOf]
                omega
              · have q1 : ¬ (c : Int) < 16 * (M : Int) - 1 := by omega
                have v1 : readV f 15 = 0 := hTf.tal
                have HR1 := HR.out _ _ _ 15 hLf
                rw [v1, show readF f 15 = upd f (4 + 4 * 2) 0 from rfl] at HR1
                have hTa := hTf.again
                obtain ⟨v2, hTb⟩ := hlast.out _ c hTa (by show c + 1 = 16 * M; omega)
                replace HR1 := Lib.hid HR1
                replace hLf := Lib.hid hLf
                replace hTb := Lib.hid hTb
                replace v2 := Lib.hid v2
                clear hI hTf hTa v1 hc hcl
                go_wp2_with fail
                refine HR1.out.mono ?_
                rintro e W5 ⟨rfl, hT5, hg5⟩
                have hL5 := hLf.out.step hT5 hg5
                have HS2 := Lib.hid (HS.out _ _ _ hL5)
                replace hL5 := Lib.hid hL5
                clear HR1 hT5 hg5 hLf
                go_wp2_with fail
                refine HS2.out.mono ?_
                rintro e W6 ⟨rfl, hT6, hg6⟩
                have hL6 := hL5.out.step hT6 hg6
                have v3 : readV (stepF (upd f (4 + 4 * 2) 0)) 15 = 1 := v2.out
                have HR3 := HR.out _ _ _ 15 hL6
                rw [v3, show readF (stepF (upd f (4 + 4 * 2) 0)) 15 = upd (stepF (upd f (4 + 4 * 2) 0)) (4 + 4 * 2) 0 from rfl] at HR3
                replace HR3 := Lib.hid HR3
                replace hL6 := Lib.hid hL6
                clear HS2 hT6 hg6 hL5 v2 v3
                generalize upd (stepF (upd f (4 + 4 * 2) 0)) (4 + 4 * 2) 0 = G at *
                go_wp2_with fail
                refine HR3.out.mono ?_
                rintro e W7 ⟨rfl, hT7, hg7⟩
                have hL7 := hL6.out.step hT7 hg7
                have v4 : readV G 15 = 0 := hTb.out.tal
                have HR4 := HR.out _ _ _ 15 hL7
                rw [v4, show readF G 15 = upd G (4 + 4 * 2) 0 from rfl] at HR4
                have hTc := Lib.hid hTb.out.again
                replace HR4 := Lib.hid HR4
                replace hL7 := Lib.hid hL7
                clear HR3 hT7 hg7 hL6 v4 hTb
                go_wp2_with fail
                refine HR4.out.mono ?_
                rintro e W8 ⟨rfl, hT8, hg8⟩
                have hL8 := Lib.hid (hL7.out.step hT8 hg8)
                clear HR4 hT8 hg8 hL7
                go_wp2_with fail
                refine ⟨⟨n + 1, by omega, by congr 1, Lib.hid ⟨_, hL8.out, hTc.out⟩⟩, ?_⟩
                simp only [intOf]
                omega
          · obtain ⟨f, hLf, hTf⟩ := hH.out
            have v1 : readV f 13 = 0 := hTf.oth 0 (by decide) (by decide)
            have HR1 := HR.out _ _ _ 13 hLf
            rw [v1] at HR1
            replace HR1 := Lib.hid HR1
            replace hLf := Lib.hid hLf
            clear hH hTf v1
            go_wp2_with fail
            refine HR1.out.mono ?_
            rintro e W5 ⟨rfl, hT5, hg5⟩
            have hL5 := Lib.hid (hLf.out.step hT5 hg5)
            clear HR1 hT5 hg5 hLf
            go_wp2_with fail
            go_ret
            exact ⟨rfl, hL5.out.bel⟩
end tickTimes
end Go.Proofs.YtbdhdedlemndeaaDoor
