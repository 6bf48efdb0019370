/-
  The walk of the statement on rooms.
-/
import Derived.Test.YtijcfpdcijpenaaTwo
import Derived.Test.YtijcfpdcijpenaaPlain
import Derived.Test.YtijcfpdcijpenaaSeen
namespace Go.Proofs.Ytijcfpdcijpenaa.clockRooms
open Go.RowKit Go.Shelf
set_option maxRecDepth 100000
set_option maxHeartbeats 8000000

theorem walk0 (a0 : Option Addr) (cap0 : Nat) (ss : List Int) (a1 : Option Addr) (cap1 : Nat) (zs : List Int) (less : Int) (w : World) (l0 : Lies .i64 w a0 ss) (l1 : Lies .i64 w a1 zs)
    (r0 : ss.length * 8 ≤ 140737488351232) (r1 : zs.length * 8 ≤ 140737488351232) (wl : (Lit.int .i64 less).wf = true) :
    Calls Try.prog 6 #[.slice a0 ss.length cap0, .slice a1 zs.length cap1, .int .i64 less] w fun e w' => e = .returned (.bool true) ∧ Below w.heap.size w w' := by
  have hl : -9223372036854775808 ≤ less ∧ less ≤ 9223372036854775807 := by simpa [Lit.wf, IntKind.min, IntKind.max, IntKind.signed, IntKind.bits] using wl
  obtain ⟨hl0, hl1⟩ := hl
  have HT := Lib.hid (two_any w)
  have HCp := Lib.hid copy_any
  have HG := Lib.hid new_good
  have HBd := Lib.hid new_bad
  have HS := Lib.hid set_any
  go_enter Try.func6, Try.ntmps6
  go_wp2_with fail
  refine HT.out.mono ?_
  rintro e w1 ⟨rfl, hB1⟩
  have l0' := l0.below hB1
  have l1' := l1.below hB1
  clear HT l0 l1
  go_wp2_with fail
  refine (HCp.out a0 cap0 ss w1 l0' r0).mono ?_
  rintro e w2 ⟨rfl, hW2, hB2, -⟩
  have hB2' := hB1.trans (hB2.mono hB1.size)
  have l1' := l1'.below hB2
  have hlow2 := hB2'.size
  clear l0' hB1
  by_cases he : newErr ss = 0
  · have hg := good_of ss he
    go_wp2_with fail
    refine (HG.out (some ⟨w1.heap.size, 0, none⟩) ss.length ss w2 (Lies.whole hW2) hg).mono ?_
    rintro e w3 ⟨c, bt, capT, bm, rfl, hC, hB3⟩
    have hB3' := hB2'.trans (hB3.mono hB2'.size)
    have l1' := l1'.below hB3
    have hlow : w.heap.size ≤ bm := Nat.le_trans hlow2 hC.low.2
    clear hW2 hB2 hB2' he HBd HG hB3
    go_wp2_with fail
    refine (HCp.out a1 cap1 zs w3 l1' r1).mono ?_
    rintro e w4 ⟨rfl, hW4, hB4, -⟩
    have hC4 := hC.below hB4
    have hB4' := hB3'.trans (hB4.mono hB3'.size)
    clear HCp l1' hC hB4 hB3'
    go_wp2_with fail
    refine (HS.out w3.heap.size zs.length zs w4 hC4 hg hW4 (by unfold maxLen; omega)).mono ?_
    rintro e w5 ⟨rfl, hB5, hset⟩
    have hB5' := hB4'.trans (hB5.mono hlow)
    clear HS hW4 hC4 hB5 hB4'
    by_cases hs : setErr ss.length zs = 0
    · obtain ⟨hlen, ht⟩ := timed_of hs
      have hC5 := hset hs
      have Hlen := Lib.hid hlen
      have Hs := Lib.hid hs
      clear hset hlen hs
      have HX := Lib.hid (next_any w5 hC5 hg)
      have hnpos := hg.1
      have hbl := best_lt zs ss.length hg.1
      obtain ⟨i, hi0⟩ : ∃ i, best zs ss.length = i := ⟨_, rfl⟩
      rw [hi0] at HX hbl
      have Hi := Lib.hid hi0
      clear hi0
      rw [Hs.out]
      go_wp2_with fail
      refine HX.out.mono ?_
      rintro e w6 ⟨rfl, hB6⟩
      have hC6 := hC5.below hB6
      have hB6' := hB5'.trans (hB6.mono hB5'.size)
      clear HX hC5 hB6 hB5'
      have HR := Lib.hid (room_any i w6 hC6 hg ht hbl)
      go_wp2_with fail
      refine HR.out.mono ?_
      rintro e w7 ⟨r, rfl, hr, hB7⟩
      have hC7 := hC6.below hB7
      have hB7' := hB6'.trans (hB7.mono hB6'.size)
      have hsi : 1 ≤ ss[i]?.getD 0 := by rw [List.getElem?_eq_getElem hbl]; exact (hg.2.2 _ (List.getElem_mem hbl)).1
      obtain ⟨f1, f2, f3, f4⟩ := room_facts Hlen.out hbl Hi.out hsi hr
      have F3 := Lib.hid f3
      have F4 := Lib.hid f4
      have HA := Lib.hid add_any
      clear HR hr hC6 hB7 hB6' f3 f4 hsi
      -- the number that is taken off the room: three ways
      have hk : ∃ n m : Int, 0 ≤ n ∧ 1 ≤ m ∧ n + m = r ∧ ((less < 1 ∧ m = 1) ∨ (1 ≤ less ∧ r < less ∧ m = 1) ∨ (1 ≤ less ∧ less ≤ r ∧ less = m)) := by
        by_cases c1 : less < 1
        · exact ⟨r - 1, 1, by omega, by omega, by omega, .inl ⟨c1, rfl⟩⟩
        · by_cases c2 : r < less
          · exact ⟨r - 1, 1, by omega, by omega, by omega, .inr (.inl ⟨by omega, c2, rfl⟩)⟩
          · exact ⟨r - less, less, by omega, by omega, by omega, .inr (.inr ⟨by omega, by omega, rfl⟩)⟩
      obtain ⟨n, m, hn0, hm1, hnm, hk⟩ := hk
      have Hnm := Lib.hid hnm
      have hnr : n < r := by omega
      have hmr : m ≤ r := by omega
      have hlen := Hlen.out
      have s1 := set_get zs i i (zs[i]?.getD 0 + ss[i]?.getD 0 * n) (by rw [hlen]; exact hbl)
      rw [if_pos rfl] at s1
      have s2 : (zs.set i (zs[i]?.getD 0 + ss[i]?.getD 0 * n)).set i (zs[i]?.getD 0 + ss[i]?.getD 0 * n + ss[i]?.getD 0 * m) = zs.set i (zs[i]?.getD 0 + ss[i]?.getD 0 * r) := by
        rw [List.set_set, ← hnm, Int.mul_add, Int.add_assoc]
      have S1 := Lib.hid s1
      have S2 := Lib.hid s2
      have hts : zs[i]?.getD 0 + ss[i]?.getD 0 * n ≤ 1152921504606846976 → Timed (zs.set i (zs[i]?.getD 0 + ss[i]?.getD 0 * n)) := by
        intro hov k
        have hz := ht k
        have hz' := ht i
        have hsi : 0 ≤ ss[i]?.getD 0 := by rw [List.getElem?_eq_getElem hbl]; exact Int.le_trans (by omega) (hg.2.2 _ (List.getElem_mem hbl)).1
        have := Int.mul_nonneg hsi hn0
        rw [set_get _ _ _ _ (by rw [hlen]; exact hbl)]
        split <;> omega
      have HTS := Lib.hid hts
      clear s1 s2 hlen hts hnm
      have hnext : ∀ W ts, Clk W w2.heap.size c bt capT bm ss ts → Calls Try.prog 22 #[.pointer (some ⟨c, 0, none⟩)] W fun e w' => e = .returned (.int .i64 (best ts ss.length)) ∧ Below W.heap.size W w' := fun W ts h => next_any W h hg
      have HN := Lib.hid hnext
      clear hnext
      have hrest : n = r - m := by have := Hnm.out; omega
      rcases hk with ⟨c1, rfl⟩ | ⟨c1, c2, rfl⟩ | ⟨c1, c2, rfl⟩
      · have hn : r - 1 = n := hrest.symm
        clear hrest
        go_wp2_with fail
        refine (HA.out i n w7 hC7 hg ht hbl hn0 (by omega)).mono ?_
        rintro e w8 ⟨h1, h2⟩
        by_cases hov : zs[i]?.getD 0 + ss[i]?.getD 0 * n ≤ 1152921504606846976
        · obtain ⟨rfl, hC8, hB8⟩ := h1 hov
          have hB8' := hB7'.trans (hB8.mono hlow)
          have ht8 := HTS.out hov
          clear h1 h2 hC7 hB8 hov
          go_wp2_with fail
          refine (HN.out w8 _ hC8).mono ?_
          rw [F3.out n hn0 hnr]
          rintro e w9 ⟨rfl, hB9⟩
          have hC9 := hC8.below hB9
          have hB9' := hB8'.trans (hB9.mono hB8'.size)
          clear hC8 hB9 hB8'
          by_cases hr : r = 1073741824
          · subst hr
            go_wp2
            go_ret
            exact ⟨rfl, hB9'⟩
          · have hr' : (r == 1073741824) = false := beq_eq_false_iff_ne.2 hr
            have F4' := Lib.hid (F4.out hr)
            clear hr
            go_wp2_with fail
            refine (HA.out i _ w9 hC9 hg ht8 hbl (by omega) (by omega)).mono ?_
            rw [S1.out]
            rintro e w10 ⟨h1, h2⟩
            by_cases hov : zs[i]?.getD 0 + ss[i]?.getD 0 * n + ss[i]?.getD 0 * 1 ≤ 1152921504606846976
            · obtain ⟨rfl, hC10, hB10⟩ := h1 hov
              rw [S2.out] at hC10
              have hB10' := hB9'.trans (hB10.mono hlow)
              clear h1 h2 hov hC9 hB10
              go_wp2_with fail
              refine (HN.out w10 _ hC10).mono ?_
              have hqne := F4'.out
              generalize best (zs.set i (zs[i]?.getD 0 + ss[i]?.getD 0 * r)) ss.length = q at hqne ⊢
              rintro e w11 ⟨rfl, hB11⟩
              have hbn : ((q : Int) != (i : Int)) = true := by rw [bne_iff_ne]; omega
              go_wp2
              go_ret
              exact ⟨rfl, hB10'.trans (hB11.mono hB10'.size)⟩
            · obtain ⟨rfl, q, rfl⟩ := h2 (by omega)
              clear h1 hov
              go_wp2
              go_ret
              exact ⟨rfl, below_drewN hB9' _⟩
        · obtain ⟨rfl, q, rfl⟩ := h2 (by omega)
          clear h1 hov
          go_wp2
          go_ret
          exact ⟨rfl, below_drewN hB7' _⟩
      · have hn : r - 1 = n := hrest.symm
        clear hrest
        go_wp2_with fail
        refine (HA.out i n w7 hC7 hg ht hbl hn0 (by omega)).mono ?_
        rintro e w8 ⟨h1, h2⟩
        by_cases hov : zs[i]?.getD 0 + ss[i]?.getD 0 * n ≤ 1152921504606846976
        · obtain ⟨rfl, hC8, hB8⟩ := h1 hov
          have hB8' := hB7'.trans (hB8.mono hlow)
          have ht8 := HTS.out hov
          clear h1 h2 hC7 hB8 hov
          go_wp2_with fail
          refine (HN.out w8 _ hC8).mono ?_
          rw [F3.out n hn0 hnr]
          rintro e w9 ⟨rfl, hB9⟩
          have hC9 := hC8.below hB9
          have hB9' := hB8'.trans (hB9.mono hB8'.size)
          clear hC8 hB9 hB8'
          by_cases hr : r = 1073741824
          · subst hr
            go_wp2
            go_ret
            exact ⟨rfl, hB9'⟩
          · have hr' : (r == 1073741824) = false := beq_eq_false_iff_ne.2 hr
            have F4' := Lib.hid (F4.out hr)
            clear hr
            go_wp2_with fail
            refine (HA.out i _ w9 hC9 hg ht8 hbl (by omega) (by omega)).mono ?_
            rw [S1.out]
            rintro e w10 ⟨h1, h2⟩
            by_cases hov : zs[i]?.getD 0 + ss[i]?.getD 0 * n + ss[i]?.getD 0 * 1 ≤ 1152921504606846976
            · obtain ⟨rfl, hC10, hB10⟩ := h1 hov
              rw [S2.out] at hC10
              have hB10' := hB9'.trans (hB10.mono hlow)
              clear h1 h2 hov hC9 hB10
              go_wp2_with fail
              refine (HN.out w10 _ hC10).mono ?_
              have hqne := F4'.out
              generalize best (zs.set i (zs[i]?.getD 0 + ss[i]?.getD 0 * r)) ss.length = q at hqne ⊢
              rintro e w11 ⟨rfl, hB11⟩
              have hbn : ((q : Int) != (i : Int)) = true := by rw [bne_iff_ne]; omega
              go_wp2
              go_ret
              exact ⟨rfl, hB10'.trans (hB11.mono hB10'.size)⟩
            · obtain ⟨rfl, q, rfl⟩ := h2 (by omega)
              clear h1 hov
              go_wp2
              go_ret
              exact ⟨rfl, below_drewN hB9' _⟩
        · obtain ⟨rfl, q, rfl⟩ := h2 (by omega)
          clear h1 hov
          go_wp2
          go_ret
          exact ⟨rfl, below_drewN hB7' _⟩
      · have hn : r - less = n := hrest.symm
        clear hrest
        go_wp2_with fail
        refine (HA.out i n w7 hC7 hg ht hbl hn0 (by omega)).mono ?_
        rintro e w8 ⟨h1, h2⟩
        by_cases hov : zs[i]?.getD 0 + ss[i]?.getD 0 * n ≤ 1152921504606846976
        · obtain ⟨rfl, hC8, hB8⟩ := h1 hov
          have hB8' := hB7'.trans (hB8.mono hlow)
          have ht8 := HTS.out hov
          clear h1 h2 hC7 hB8 hov
          go_wp2_with fail
          refine (HN.out w8 _ hC8).mono ?_
          rw [F3.out n hn0 hnr]
          rintro e w9 ⟨rfl, hB9⟩
          have hC9 := hC8.below hB9
          have hB9' := hB8'.trans (hB9.mono hB8'.size)
          clear hC8 hB9 hB8'
          by_cases hr : r = 1073741824
          · subst hr
            go_wp2
            go_ret
            exact ⟨rfl, hB9'⟩
          · have hr' : (r == 1073741824) = false := beq_eq_false_iff_ne.2 hr
            have F4' := Lib.hid (F4.out hr)
            clear hr
            go_wp2_with fail
            refine (HA.out i _ w9 hC9 hg ht8 hbl (by omega) (by omega)).mono ?_
            rw [S1.out]
            rintro e w10 ⟨h1, h2⟩
            by_cases hov : zs[i]?.getD 0 + ss[i]?.getD 0 * n + ss[i]?.getD 0 * less ≤ 1152921504606846976
            · obtain ⟨rfl, hC10, hB10⟩ := h1 hov
              rw [S2.out] at hC10
              have hB10' := hB9'.trans (hB10.mono hlow)
              clear h1 h2 hov hC9 hB10
              go_wp2_with fail
              refine (HN.out w10 _ hC10).mono ?_
              have hqne := F4'.out
              generalize best (zs.set i (zs[i]?.getD 0 + ss[i]?.getD 0 * r)) ss.length = q at hqne ⊢
              rintro e w11 ⟨rfl, hB11⟩
              have hbn : ((q : Int) != (i : Int)) = true := by rw [bne_iff_ne]; omega
              go_wp2
              go_ret
              exact ⟨rfl, hB10'.trans (hB11.mono hB10'.size)⟩
            · obtain ⟨rfl, q, rfl⟩ := h2 (by omega)
              clear h1 hov
              go_wp2
              go_ret
              exact ⟨rfl, below_drewN hB9' _⟩
        · obtain ⟨rfl, q, rfl⟩ := h2 (by omega)
          clear h1 hov
          go_wp2
          go_ret
          exact ⟨rfl, below_drewN hB7' _⟩
    · have hs' : (setErr ss.length zs != 0) = true := by rw [bne_iff_ne]; exact hs
      clear hset hs
      go_wp2
      go_ret
      exact ⟨rfl, hB5'⟩
  · have he' : (newErr ss != 0) = true := by rw [bne_iff_ne]; exact he
    have HB := Lib.hid (HBd.out (some ⟨w1.heap.size, 0, none⟩) ss.length ss w2 (Lies.whole hW2) (by unfold maxLen; omega) he)
    clear he HG
    go_wp2_with fail
    refine HB.out.mono ?_
    rintro e w3 ⟨rfl, hB3⟩
    go_wp2
    go_ret
    exact ⟨rfl, hB2'.trans (hB3.mono hB2'.size)⟩
theorem walk (a0 : Option Addr) (len0 cap0 : Nat) (z0 : List Int) (a1 : Option Addr) (len1 cap1 : Nat) (z1 : List Int) (a2 : Int) (w : World) (w0 : Seen .i64 8 w a0 len0 z0) (w1 : Seen .i64 8 w a1 len1 z1) (w2 : (Lit.int .i64 a2).wf = true) :
    Calls Try.prog 6 #[.slice a0 len0 cap0, .slice a1 len1 cap1, .int .i64 a2] w fun e w' => e = .returned (.bool true) ∧ Below w.heap.size w w' := by
  obtain ⟨rfl, l0, r0, _⟩ := w0
  obtain ⟨rfl, l1, r1, _⟩ := w1
  exact walk0 a0 cap0 z0 a1 cap1 z1 a2 w l0 l1 r0 r1 w2
end Go.Proofs.Ytijcfpdcijpenaa.clockRooms
