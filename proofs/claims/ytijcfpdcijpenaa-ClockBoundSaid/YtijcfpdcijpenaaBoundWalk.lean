/-
  The walk of the statement on the bound.
-/
import Derived.Test.YtijcfpdcijpenaaTwo
import Derived.Test.YtijcfpdcijpenaaTimes
import Derived.Test.YtijcfpdcijpenaaSeen
import Derived.Deep.DeepCutAuto
namespace Go.Proofs.Ytijcfpdcijpenaa.clockBound
open Go.RowKit Go.Shelf
set_option maxRecDepth 100000
set_option maxHeartbeats 8000000

/-- Behind k steps: no time is above k times the most, no two are farther apart than the most. -/
def Tame (ts : List Int) (n : Nat) (most : Int) (k : Nat) : Prop :=
  (∀ a : Nat, 0 ≤ ts[a]?.getD 0 ∧ ts[a]?.getD 0 ≤ k * most) ∧ ∀ a b : Nat, a < n → b < n → ts[a]?.getD 0 - ts[b]?.getD 0 ≤ most
theorem tame_zero (n : Nat) (most : Int) (h : 0 ≤ most) : Tame (List.replicate n 0) n most 0 := by
  have e : ∀ a : Nat, (List.replicate n (0 : Int))[a]?.getD 0 = 0 := by
    intro a
    by_cases ha : a < n
    · simp [ha]
    · rw [List.getElem?_eq_none (by simpa using ha)]; rfl
  exact ⟨fun a => by rw [e]; simp, fun a b _ _ => by rw [e, e]; omega⟩
theorem tame_step {ts : List Int} {n k : Nat} {most d : Int} (hl : ts.length = n) (hn : 0 < n) (h : Tame ts n most k) (h0 : 0 ≤ d) (h1 : d ≤ most) :
    Tame (ts.set (best ts n) (ts[best ts n]?.getD 0 + d)) n most (k + 1) := by
  have hb := best_lt ts n hn
  have hs := best_spec ts n hn
  have hmin : ∀ a, a < n → ts[best ts n]?.getD 0 ≤ ts[a]?.getD 0 := by
    intro a ha
    by_cases e : a = best ts n
    · rw [e]; omega
    · have := hs a ha e
      rw [ahd_iff] at this
      omega
  generalize best ts n = i at *
  have hk : ((k + 1 : Nat) : Int) * most = k * most + most := by rw [Int.natCast_add, Int.add_mul]; simp
  refine ⟨fun a => ?_, fun a b ha hb' => ?_⟩
  · rw [set_get _ _ _ _ (by omega), hk]
    have := h.1 a
    have := h.1 i
    split <;> omega
  · rw [set_get _ _ _ _ (by omega), set_get _ _ _ _ (by omega)]
    have := h.2 a b ha hb'
    have := hmin a ha
    have := hmin b hb'
    have := h.2 a i ha (by omega)
    split <;> split <;> omega

theorem walk0 (a0 : Option Addr) (cap0 : Nat) (ss : List Int) (most : Int) (a2 : Option Addr) (cap2 : Nat) (tk : List Int) (w : World) (l0 : Lies .i64 w a0 ss) (l2 : Lies .i64 w a2 tk)
    (r0 : ss.length * 8 ≤ 140737488351232) (r2 : tk.length * 8 ≤ 140737488351232) (htk : ∀ n ∈ tk, (Lit.int .i64 n).wf = true) :
    Calls Try.prog 5 #[.slice a0 ss.length cap0, .int .i64 most, .slice a2 tk.length cap2] w fun e w' => e = .returned (.bool true) ∧ Below w.heap.size w w' := by
  have HT := Lib.hid (two_any w)
  have HCp := Lib.hid copy_any
  have HG := Lib.hid new_good
  have HBd := Lib.hid new_bad
  have HTK := Lib.hid htk
  clear htk
  go_enter Try.func5, Try.ntmps5
  go_wp2_with fail
  refine HT.out.mono ?_
  rintro e w1 ⟨rfl, hB1⟩
  have l0' := l0.below hB1
  clear HT
  go_wp2_with fail
  refine (HCp.out a0 cap0 ss w1 l0' r0).mono ?_
  rintro e w2 ⟨rfl, hW2, hB2, -⟩
  have hB2' := hB1.trans (hB2.mono hB1.size)
  have hlow2 := hB2'.size
  clear l0' hB1 hB2 HCp
  by_cases he : newErr ss = 0
  · have hg := good_of ss he
    go_wp2_with fail
    refine (HG.out (some ⟨w1.heap.size, 0, none⟩) ss.length ss w2 (Lies.whole hW2) hg).mono ?_
    rintro e w3 ⟨c, bt, capT, bm, rfl, hC, hB3⟩
    have hB3' := hB2'.trans (hB3.mono hB2'.size)
    have hlow : w.heap.size ≤ bm := Nat.le_trans hlow2 hC.low.2
    clear hW2 hB2' he HBd HG hB3
    by_cases hr : 0 ≤ most ∧ most ≤ 1099511627776 ∧ tk.length ≤ 65536
    · obtain ⟨hm0, hm1, htl⟩ := hr
      go_wp2
      go_loopw [9] (fun x wr => ∃ (k : Nat) (ts : List Int), k ≤ tk.length ∧ x = .int .i64 k ∧ Clk wr w2.heap.size c bt capT bm ss ts ∧ Hid (Tame ts ss.length most k) ∧ Below w.heap.size w wr) (fun x _ => tk.length - (intOf x).toNat)
      case atStart => exact ⟨0, _, Nat.zero_le _, rfl, hC, Lib.hid (tame_zero _ _ hm0), hB3'⟩
      case round =>
        obtain ⟨k, ts, hk, rfl, hCk, hTm, hBk⟩ := hrel
        clear hC hB3'
        by_cases hlt : k < tk.length
        · have HX := Lib.hid (next_any wr hCk hg)
          go_wp2_with fail
          refine HX.out.mono ?_
          rintro e w4 ⟨rfl, hB4⟩
          have hC4 := hCk.below hB4
          have hB4' := hBk.trans (hB4.mono hBk.size)
          have hbl := best_lt ts ss.length hg.1
          have hn1 := hg.2.1
          have hts := Lib.hid hCk.size
          have hstep := Lib.hid (fun d (h0 : 0 ≤ d) (h1 : d ≤ most) => tame_step (k := k) (most := most) hCk.size hg.1 hTm.out h0 h1)
          have htx := Lib.hid (hTm.out.1 (best ts ss.length))
          have hTM := Lib.hid hTm.out.1
          have hsi : 1 ≤ ss[best ts ss.length]?.getD 0 ∧ ss[best ts ss.length]?.getD 0 ≤ 16777216 := by rw [List.getElem?_eq_getElem hbl]; exact hg.2.2 _ (List.getElem_mem hbl)
          have hq : ∀ n : Int, n ≤ most / ss[best ts ss.length]?.getD 0 → ss[best ts ss.length]?.getD 0 * n ≤ most := by
            intro n hn
            refine Int.le_trans (Int.mul_le_mul_of_nonneg_left hn (by omega)) ?_
            exact Int.mul_ediv_self_le (by omega)
          have hq0 : 0 ≤ most / ss[best ts ss.length]?.getD 0 := Int.ediv_nonneg hm0 (by omega)
          have hq1 : most / ss[best ts ss.length]?.getD 0 ≤ 1099511627776 := Int.le_trans (Int.ediv_le_self _ hm0) hm1
          have hcs : w4.cell? = w4.cell? := rfl
          rcases l0 with h0 | ⟨b0, o0, rfl, hb0, hc0⟩
          · rw [h0] at hbl; simp at hbl
          rcases l2 with h0 | ⟨b2, o2, rfl, hb2, hc2⟩
          · rw [h0] at hlt; simp at hlt
          have q1 := (hB4'.cell (p := ⟨b0, o0 + best ts ss.length, none⟩) hb0).trans (hc0 _ hbl)
          have q2 := (hB4'.cell (p := ⟨b2, o2 + k, none⟩) hb2).trans (hc2 _ hlt)
          have hwt : -9223372036854775808 ≤ tk[k]?.getD 0 ∧ tk[k]?.getD 0 ≤ 9223372036854775807 := by
            rw [List.getElem?_eq_getElem hlt]
            simpa [Lit.wf, IntKind.min, IntKind.max, IntKind.signed, IntKind.bits] using HTK.out _ (List.getElem_mem hlt)
          clear hcs hc0 hc2 HX hCk hB4 hBk hTm
          generalize hbi : best ts ss.length = i at *
          generalize tk[k]?.getD 0 = t at *
          obtain ⟨ht0, ht1⟩ := hwt
          have HSI := Lib.hid hsi
          obtain ⟨hs0, hs1⟩ := hsi
          have HQ := Lib.hid hq
          clear hq hbi
          generalize hse : ss[i]?.getD 0 = s at *
          have HSE := Lib.hid hse
          clear hse
          have hqd := Lib.hid (show most / s = most / s from rfl)
          go_upto_if 59 with fail
          go_cut [11] (fun v wx => ∃ n : Int, v = .int .i64 n ∧ 0 ≤ n ∧ n ≤ 9223372036854775807 ∧ w4 = wx)
          case first =>
            by_cases c : t < 0
            · go_wp2_with fail
              go_meet
              exact ⟨_, rfl, by omega, by omega, rfl⟩
            · go_wp2_with fail
              go_meet
              exact ⟨_, rfl, by omega, by omega, rfl⟩
          case rest =>
            obtain ⟨n, rfl, hn0, hn9, rfl⟩ := hcut
            go_upto_if 67 with fail
            go_cut [11] (fun v wx => ∃ n : Int, v = .int .i64 n ∧ 0 ≤ n ∧ n ≤ most / s ∧ w4 = wx)
            case first =>
              by_cases c : most / s < n
              · go_wp2_with fail
                go_meet
                exact ⟨_, rfl, hq0, Int.le_refl _, rfl⟩
              · go_wp2_with fail
                go_meet
                exact ⟨_, rfl, hn0, by omega, rfl⟩
            case rest =>
              obtain ⟨n, rfl, hn0, hn9, rfl⟩ := hcut
              go_upto_if 75 with fail
              go_cut [11] (fun v wx => ∃ n : Int, v = .int .i64 n ∧ 0 ≤ n ∧ n ≤ most / s ∧ n ≤ 1073741824 ∧ w4 = wx)
              case first =>
                by_cases c : 1073741824 < n
                · go_wp2_with fail
                  go_meet
                  exact ⟨_, rfl, by omega, by omega, by omega, rfl⟩
                · go_wp2_with fail
                  go_meet
                  exact ⟨_, rfl, hn0, hn9, by omega, rfl⟩
              case rest =>
                obtain ⟨n, rfl, hn0, hn9, hn8, rfl⟩ := hcut
                have hp1 := HQ.out n hn9
                have hp0 : 0 ≤ s * n := Int.mul_nonneg (by omega) hn0
                have hkm : (k : Int) * most ≤ 65536 * 1099511627776 := Int.mul_le_mul (by omega) hm1 hm0 (by omega)
                have htm : Timed ts := fun a => by have := hTM.out a; omega
                have hov : ts[i]?.getD 0 + s * n ≤ 1152921504606846976 := by have := htx.out; omega
                have HA := Lib.hid (add_any i n w4 hC4 hg htm hbl hn0 hn8)
                rw [HSE.out] at HA
                have HOV := Lib.hid hov
                have HP := Lib.hid (hstep.out (s * n) hp0 hp1)
                have hne := HP.out.1
                clear hov hp1 hp0 hn9 hn8 hn0 hq0 hq1 q1 q2
                go_wp2_with fail
                refine HA.out.mono ?_
                rintro e w5 ⟨h1, _⟩
                obtain ⟨rfl, hC5, hB5⟩ := h1 HOV.out
                have hB5' := hB4'.trans (hB5.mono hlow)
                have HS5 := Lib.hid hC5.size
                clear h1 HA hC4 hB5 hB4'
                generalize hts2 : ts.set i (ts[i]?.getD 0 + s * n) = ts2 at *
                have HTI := Lib.hid (times_any w5 hC5 hg)
                go_wp2_with fail
                refine HTI.out.mono ?_
                rintro e w6 ⟨g, cap', rfl, hown, hB6⟩
                have hC6 := hC5.below hB6
                have hB6' := hB5'.trans (hB6.mono hB5'.size)
                have hrow := fun a (ha : a < ss.length) => row_cell hown HS5.out ha
                clear HTI hC5 hB6 hB5' hown
                have hkm2 : ((k + 1 : Nat) : Int) * most ≤ 65536 * 1099511627776 := Int.mul_le_mul (by omega) hm1 hm0 (by omega)
                have HBD := Lib.hid (fun a : Nat => (show 0 ≤ ts2[a]?.getD 0 ∧ ts2[a]?.getD 0 ≤ 72057594037927936 from by have := HP.out.1 a; omega))
                have HDF := Lib.hid HP.out.2
                have HROW := Lib.hid hrow
                have HCX := Lib.hid hC6
                have HBX := Lib.hid hB6'
                clear hrow hne hkm hkm2 htm HOV hts2 hqd hC6 hB6'
                go_wp2
                go_loopw [13] (fun x wr => ∃ a : Nat, a ≤ ss.length ∧ x = .int .i64 a ∧ ∃ q, wr = w6.drewN q) (fun x _ => ss.length - (intOf x).toNat)
                case atStart => exact ⟨0, Nat.zero_le _, rfl, 0, rfl⟩
                case round =>
                  obtain ⟨a, ha, rfl, q, rfl⟩ := hrel
                  by_cases hlta : a < ss.length
                  · go_wp2
                    go_loopw [14] (fun y wr => ∃ b : Nat, b ≤ ss.length ∧ y = .int .i64 b ∧ ∃ q, wr = w6.drewN q) (fun y _ => ss.length - (intOf y).toNat)
                    case atStart => exact ⟨0, Nat.zero_le _, rfl, q, rfl⟩
                    case round =>
                      obtain ⟨b, hb, rfl, q', rfl⟩ := hrel
                      by_cases hltb : b < ss.length
                      · have q1 := HROW.out a hlta
                        have q2 := HROW.out b hltb
                        obtain ⟨x0, x1⟩ := HBD.out a
                        obtain ⟨y0, y1⟩ := HBD.out b
                        have hd := HDF.out a b hlta hltb
                        generalize ts2[a]?.getD 0 = x at *
                        generalize ts2[b]?.getD 0 = y at *
                        have hdec : decide (most < x - y) = false := by simp; omega
                        go_wp2
                        go_quiet (fail)
                        go_wp2
                        go_roundw
                        case rel => exact ⟨b + 1, by omega, by go_num, _, rfl⟩
                        case measure => simp [intOf]; omega
                      · obtain rfl : b = ss.length := by omega
                        go_wp2
                        go_roundw
                        case rel => exact ⟨a + 1, by omega, by go_num, _, rfl⟩
                        case measure => simp [intOf]; omega
                  · obtain rfl : a = ss.length := by omega
                    go_wp2
                    go_roundw
                    case rel => exact ⟨k + 1, ts2, by omega, by go_num, HCX.out.drewN _, HP, below_drewN HBX.out _⟩
                    case measure => simp [intOf]; omega
        · obtain rfl : k = tk.length := by omega
          go_wp2
          go_ret
          exact ⟨rfl, hBk⟩
    · by_cases c1 : most < 0
      · go_wp2
        go_ret
        exact ⟨rfl, hB3'⟩
      · by_cases c2 : 1099511627776 < most
        · go_wp2
          go_ret
          exact ⟨rfl, hB3'⟩
        · have c3 : 65536 < tk.length := by omega
          clear hr
          go_wp2
          go_ret
          exact ⟨rfl, hB3'⟩
  · have he' : (newErr ss != 0) = true := by rw [bne_iff_ne]; exact he
    have HB := Lib.hid (HBd.out (some ⟨w1.heap.size, 0, none⟩) ss.length ss w2 (Lies.whole hW2) (by unfold maxLen; omega) he)
    clear he HG
    go_wp2_with fail
    refine HB.out.mono ?_
    rintro e w3 ⟨rfl, hB3⟩
    go_wp2
    go_ret
    exact ⟨rfl, hB2'.trans (hB3.mono hB2'.size)⟩
theorem walk (a0 : Option Addr) (len0 cap0 : Nat) (z0 : List Int) (a1 : Int) (a2 : Option Addr) (len2 cap2 : Nat) (z2 : List Int) (w : World) (w0 : Seen .i64 8 w a0 len0 z0) (_ : (Lit.int .i64 a1).wf = true) (w2 : Seen .i64 8 w a2 len2 z2) :
    Calls Try.prog 5 #[.slice a0 len0 cap0, .int .i64 a1, .slice a2 len2 cap2] w fun e w' => e = .returned (.bool true) ∧ Below w.heap.size w w' := by
  obtain ⟨rfl, l0, r0, _⟩ := w0
  obtain ⟨rfl, l2, r2, h2⟩ := w2
  exact walk0 a0 cap0 z0 a1 a2 cap2 z2 w l0 l2 r0 r2 h2
end Go.Proofs.Ytijcfpdcijpenaa.clockBound
