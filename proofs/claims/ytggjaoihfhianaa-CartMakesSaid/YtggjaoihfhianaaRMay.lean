/-
  Whether there are no bytes of a cartridge, by the document.
-/
import Derived.Test.YtggjaoihfhianaaMake
namespace Go.Proofs.Ytggjaoihfhianaa
open Go.RowKit Go.Shelf
set_option maxRecDepth 100000
set_option maxHeartbeats 4000000

theorem suffix_last (t : ByteArray) (k : Nat) (h : t.size = k + 1) (hk : k < t.size) : Lib.hasSuffix t.data.toList [32] = decide ((t[k]'hk).toNat = 32) := by
  have hL : t.data.toList.length = k + 1 := by rw [← Lib.size_eq]; exact h
  rw [Bool.eq_iff_iff, decide_eq_true_eq]
  unfold Lib.hasSuffix
  rw [List.isSuffixOf_iff_suffix]
  constructor
  · rintro ⟨p, hp⟩
    have hpl : p.length = k := by
      have := congrArg List.length hp
      rw [List.length_append] at this
      simp only [List.length_cons, List.length_nil] at this
      omega
    have e : t.data.toList[k]? = some 32 := by rw [← hp, List.getElem?_append_right (by omega), hpl, Nat.sub_self]; rfl
    rw [List.getElem?_eq_getElem (by omega)] at e
    have e2 : t[k]'hk = 32 := by injection e
    rw [e2]
    rfl
  · intro e
    have hlast : t.data.toList[k]'(by omega) = 32 := UInt8.toNat_inj.1 e
    exact ⟨t.data.toList.take k, by rw [← hlast, List.take_append_getElem, ← hL, List.take_length]⟩
theorem posOf_le' (l : Nat) : posOf l ≤ 4259776 := by unfold posOf; split <;> (try split) <;> omega
theorem sizeN_big (ram : Int) : ((sizeN ram : Int) == 255) = !decide (sizeN ram ≤ 9) := by
  rcases sizeN_cases ram with h | rfl | rfl | rfl | rfl | rfl | rfl | rfl | rfl | rfl | rfl
  · rw [h]; rfl
  all_goals rfl

theorem rmay_any (l c n cap : Nat) (ra : Option Addr) (ram : Int) (t : ByteArray) (z : Nat) (fast : Bool) (Sg : Value) (w : World) (hl : l < 256) (hn : n ≤ 8392704) (ht : t.size ≤ 9223372036854775807) :
    Calls Try.prog 14 #[.agg (cartC l c (.slice ra n cap) ram t z fast Sg)] w fun e w' => e = .returned (.bool (mayB l c n ram t z)) ∧ Below w.heap.size w w' := by
  have HA := Lib.hid (fun W => at_any l W hl)
  have HZ := Lib.hid (fun W => size_any ram W)
  have HS := Lib.hid (fun W => seen_any t W ht)
  obtain ⟨mb, hmb⟩ : ∃ x, mayB l c n ram t z = x := ⟨_, rfl⟩
  rw [hmb]
  unfold mayB partsB romB titleB at hmb
  have dz : decide ((z : Int) < 32768) = !decide (32768 ≤ z) := by rw [Bool.eq_iff_iff]; simp; omega
  have dc : decide (2 < (c : Int)) = !decide (c ≤ 2) := by rw [Bool.eq_iff_iff]; simp; omega
  have ds := sizeN_big ram
  have dn1 : decide ((n : Int) < 32768) = !decide (32768 ≤ n) := by rw [Bool.eq_iff_iff]; simp; omega
  have dn2 : decide (8388608 < (n : Int)) = !decide (n ≤ 8388608) := by rw [Bool.eq_iff_iff]; simp; omega
  have dn3 : ((n : Int) % 1024 != 0) = !decide (n % 1024 = 0) := by rw [Bool.eq_iff_iff]; simp; omega
  have dt1 : decide ((t.size : Int) ≤ 21) = decide (t.size ≤ 21) := decide_eq_decide.2 (by omega)
  have hp0 := posOf_le' l
  generalize decide (32768 ≤ z) = bz at *
  generalize decide (c ≤ 2) = bc at *
  generalize decide (sizeN ram ≤ 9) = bs at *
  generalize decide (32768 ≤ n) = r1 at *
  generalize decide (n ≤ 8388608) = r2 at *
  generalize decide (n % 1024 = 0) = r3 at *
  generalize decide (t.size ≤ 21) = t1 at *
  generalize seenB t = sb at *
  have hn2 : n ≤ 140737488355328 := by omega
  unfold cartC at *
  by_cases h13 : 1 ≤ l ∧ l ≤ 3
  · rw [if_pos h13] at HA
    rw [decide_eq_true h13] at hmb
    have dp : decide ((n : Int) - (posOf l : Int) < 64) = !decide (posOf l + 64 ≤ n) := by rw [Bool.eq_iff_iff]; simp; omega
    have hpn : IntKind.i64.wrap ((n : Int) - (posOf l : Int)) = (n : Int) - (posOf l : Int) := by rw [IntKind.wrap_i64]; omega
    generalize decide (posOf l + 64 ≤ n) = r4 at *
    have hp1 : decide ((posOf l : Int) < 0) = false := decide_eq_false (by omega)
    generalize posOf l = p at *
    replace hmb := Lib.hid hmb
    clear h13 hl hn hp0
    go_enter Try.func14, Try.ntmps14
    go_wp2_with fail
    have hX := Whole.fresh w 28 #[.int .u8 l, .int .u8 c, .slice ra n cap, .int .i64 ram, .string t, .int .u16 z, .bool fast, Sg]
    have hB : Below w.heap.size w (w.alloc (Obj.cells #[.int .u8 l, .int .u8 c, .slice ra n cap, .int .i64 ram, .string t, .int .u16 z, .bool fast, Sg] 28)) := (Below.refl _ w).alloc (Nat.le_refl _) _
    generalize (w.alloc (Obj.cells #[.int .u8 l, .int .u8 c, .slice ra n cap, .int .i64 ram, .string t, .int .u16 z, .bool fast, Sg] 28)) = W0 at hX hB ⊢
    have x1 := hX.cell 1
    have x2 := hX.cell 2
    have x3 := hX.cell 3
    have x4 := hX.cell 4
    have x5 := hX.cell 5
    simp only [List.getElem?_toArray, List.getElem?_cons_zero, List.getElem?_cons_succ] at x1 x2 x3 x4 x5
    replace hB := Lib.hid hB
    clear hX
    refine (HA.out W0).mono ?_
    rintro e w1 ⟨rfl, rfl⟩
    cases bc
    · obtain rfl : mb = false := by rw [← hmb.out]; simp
      clear hmb
      go_wp2_with fail
      go_ret
      exact ⟨rfl, hB.out⟩
    go_wp2_with fail
    refine (HZ.out w1).mono ?_
    rintro e w2 ⟨rfl, rfl⟩
    cases bs
    · obtain rfl : mb = false := by rw [← hmb.out]; simp
      clear hmb
      go_wp2_with fail
      go_ret
      exact ⟨rfl, hB.out⟩
    cases bz
    · obtain rfl : mb = false := by rw [← hmb.out]; simp
      clear hmb
      go_wp2_with fail
      go_ret
      exact ⟨rfl, hB.out⟩
    go_upto_region 5 with (fail)
    cases r1
    · obtain rfl : mb = false := by rw [← hmb.out]; simp
      clear hmb
      go_wp2_with fail
      go_ret
      exact ⟨rfl, hB.out⟩
    cases r2
    · obtain rfl : mb = false := by rw [← hmb.out]; simp
      clear hmb
      go_wp2_with fail
      go_ret
      exact ⟨rfl, hB.out⟩
    cases r3
    · obtain rfl : mb = false := by rw [← hmb.out]; simp
      clear hmb
      go_wp2_with fail
      go_ret
      exact ⟨rfl, hB.out⟩
    cases r4
    · obtain rfl : mb = false := by rw [← hmb.out]; simp
      clear hmb
      go_wp2_with fail
      go_ret
      exact ⟨rfl, hB.out⟩
    go_upto_region 7 with (fail)
    cases t1
    · obtain rfl : mb = false := by rw [← hmb.out]; simp
      clear hmb
      go_wp2_with fail
      go_ret
      exact ⟨rfl, hB.out⟩
    go_wp2_with fail
    refine (HS.out w2).mono ?_
    rintro e w3 ⟨rfl, rfl⟩
    cases sb
    · obtain rfl : mb = false := by rw [← hmb.out]; simp
      clear hmb
      go_wp2_with fail
      go_ret
      exact ⟨rfl, hB.out⟩
    by_cases h0 : t.size = 0
    · have ht0 : t = ⟨#[]⟩ := ByteArray.ext (Array.eq_empty_of_size_eq_zero h0)
      subst ht0
      obtain rfl : mb = true := by rw [← hmb.out]; rfl
      clear hmb HA HZ HS
      go_wp2_with fail
      go_ret
      exact ⟨rfl, hB.out⟩
    · obtain ⟨k, hk⟩ : ∃ k, t.size = k + 1 := ⟨t.size - 1, by omega⟩
      have hlt : k < t.size := by omega
      have hs := suffix_last t k hk hlt
      obtain ⟨x, hx⟩ : ∃ x, (t[k]'hlt).toNat = x := ⟨_, rfl⟩
      rw [hx] at hs
      have dx : ((x : Int) != 32) = !decide (x = 32) := by rw [Bool.eq_iff_iff]; simp; omega
      have hmb2 := hmb.out
      rw [hs] at hmb2
      simp only [Bool.true_and, Bool.and_true] at hmb2
      have hne : t ≠ ⟨#[]⟩ := fun e => h0 (by rw [e]; rfl)
      have hne2 : t.toList.isEmpty = false := (decide_eq_emptyBytes t).symm.trans (decide_eq_false hne)
      clear hne
      generalize decide (x = 32) = bx at *
      have hsub : IntKind.i64.wrap ((t.size : Int) - 1) = (k : Nat) := by rw [IntKind.wrap_i64]; omega
      replace hk := Lib.hid hk
      obtain rfl : mb = !bx := hmb2.symm
      clear hmb2
      clear hmb HA HZ HS hs h0 dz dc ds dn1 dn2 dn3 dp hpn hp1 x1 x2 x3 x5 hn2 ht dt1
      go_wp2_with fail
      go_ret
      exact ⟨rfl, hB.out⟩
  · have hmb2 : mb = false := by rw [← hmb, decide_eq_false h13]; rfl
    subst hmb2
    rw [if_neg h13] at HA
    clear hmb
    go_enter Try.func14, Try.ntmps14
    go_wp2_with fail
    have hB : Below w.heap.size w (w.alloc (Obj.cells #[.int .u8 l, .int .u8 c, .slice ra n cap, .int .i64 ram, .string t, .int .u16 z, .bool fast, Sg] 28)) := (Below.refl _ w).alloc (Nat.le_refl _) _
    generalize (w.alloc (Obj.cells #[.int .u8 l, .int .u8 c, .slice ra n cap, .int .i64 ram, .string t, .int .u16 z, .bool fast, Sg] 28)) = W0 at hB ⊢
    refine (HA.out W0).mono ?_
    rintro e w1 ⟨rfl, rfl⟩
    go_wp2_with fail
    go_ret
    exact ⟨rfl, hB⟩
end Go.Proofs.Ytggjaoihfhianaa
