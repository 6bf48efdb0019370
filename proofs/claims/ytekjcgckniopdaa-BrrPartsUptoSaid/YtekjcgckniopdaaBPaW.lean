/-
  The walk of BrrParts.
-/
import Derived.Test.YtekjcgckniopdaaBRAm
import Derived.Test.YtekjcgckniopdaaBKno
namespace Go.Proofs.Ytekjcgckniopdaa.brrParts
open Go.RowKit Go.Shelf
set_option maxRecDepth 100000
set_option maxHeartbeats 2000000
set_option linter.unusedVariables false
set_option linter.unusedSimpArgs false

theorem irow_at {w : World} {b o n : Nat} {f : Nat → Int} (h : IRow w (some ⟨b, o, none⟩) n f) (m i : Nat) (hm : 0 < m) (hi : i + m ≤ n) : IRow w (some ⟨b, o + i, none⟩) m (fun j => f (i + j)) := by
  rcases h with h | ⟨b', o', e, hlt, hc⟩
  · omega
  · cases e
    refine .inr ⟨b, o + i, rfl, hlt, fun j hj => ?_⟩
    have := hc (i + j) (by omega)
    rwa [show o + (i + j) = o + i + j by omega] at this
theorem irow_congr {w : World} {a : Option Addr} {n : Nat} {f g : Nat → Int} (h : IRow w a n f) (e : ∀ i, i < n → f i = g i) : IRow w a n g :=
  h.imp id fun ⟨b, o, ha, hb, hc⟩ => ⟨b, o, ha, hb, fun i hi => by rw [hc i hi, e i hi]⟩
theorem allF_at (g : Nat → Nat) (i j : Nat) (hj : j < 16) : allF g (16 * i + j) = (stB (blkG g i) (pqA g i).1 (pqA g i).2 (j + 1)).1 := by
  unfold allF
  rw [show (16 * i + j) / 16 = i by omega, show (16 * i + j) % 16 = j by omega]
theorem field_end (W : World) (v1 v2 : Int) (l2 l1 : Bool) : (Instr.field 34 (.agg #[.int .u8 v1, .int .u8 v2, .bool l2, .bool l1]) 3).run Try.prog W = .ok (.bool l1) W := by kernel_rfl
theorem walk (a : Option Addr) (n c : Nat) (f : Nat → Nat) (w : World) (hR : Row w a n f) (hnc : n ≤ c) (hn : n ≤ 1048576) :
    Calls Try.prog 10 #[.slice a n c] w fun e w' => e = .returned (.bool true) ∧ Below w.heap.size w w' := by
  have HA := Lib.hid (call_all_any w a n c f hR hnc hn)
  have HK := Lib.hid known_any
  have hRh := Lib.hid hR
  clear hR
  go_enter Try.func10, Try.ntmps10
  go_wp2_with fail
  refine HA.out.mono ?_
  rintro e W1 ⟨hB1, hP1⟩
  have hR1 := hRh.out.below hB1
  replace hB1 := Lib.hid hB1
  rcases hP1 with ⟨hno, rfl⟩ | ⟨k, a1, c1, hk, rfl, hI1, hc1⟩
  · clear hR1 HA hRh hno
    go_wp2_with fail
    refine (HK.out _).mono ?_
    rintro e W2 ⟨rfl, hB2⟩
    have hBB2 := Lib.hid (hB1.out.trans (hB2.mono hB1.out.size))
    clear hB2
    go_wp2_with fail
    go_ret
    exact ⟨rfl, hBB2.out⟩
  · obtain ⟨lb, lo, rfl, hlb⟩ : ∃ lb lo, a1 = some ⟨lb, lo, none⟩ ∧ lb < W1.heap.size := by
      rcases hI1 with h | ⟨b, o, rfl, h, _⟩
      · omega
      · exact ⟨b, o, rfl, h⟩
    obtain ⟨b, o, rfl, hbl⟩ : ∃ b o, a = some ⟨b, o, none⟩ ∧ b < W1.heap.size := by
      obtain ⟨_, h | ⟨b, o, ha, hb, _⟩⟩ := hR1
      · have := hk.1; omega
      · exact ⟨b, o, ha, hb⟩
    have hkn := hk.1
    have hkh := Lib.hid hk
    have hIh := Lib.hid hI1
    have hRh1 := Lib.hid hR1
    have hzn : 9 * k + 9 ≤ n := by omega
    generalize hl : decide (f (9 * k) / 2 % 2 = 1) = l2
    have r0 : ((9 * k + 9 : Nat) : Int) % 9 = 0 := by omega
    have r1 : ((9 * k + 9 : Nat) : Int) / 9 = ((k + 1 : Nat) : Int) := by omega
    have r2 : ((k + 1 : Nat) : Int) * 16 = ((16 * (k + 1) : Nat) : Int) := by omega
    have r3 : decide ((n : Int) < ((9 * k + 9 : Nat) : Int)) = false := decide_eq_false (by omega)
    have r4 : (((9 * k + 9 : Nat) : Int) == 0) = false := beq_eq_false_iff_ne.2 (by omega)
    have hm16 : 16 * (k + 1) ≤ 33554432 := by omega
    have hbK : ∀ i, i < k + 1 → f (9 * i) < 256 ∧ 9 * i + 9 ≤ n := fun i hi => ⟨hRh.out.1 _ (by omega), by omega⟩
    replace hbK := Lib.hid hbK
    have hKz : ∀ i, i < k + 1 → ((decide (f (9 * i) % 2 = 1)) = decide (i = k)) := fun i hi => by
      by_cases h : i = k
      · subst h
        rw [decide_eq_true hkh.out.2.2, decide_eq_true rfl]
      · rw [decide_eq_false (hkh.out.2.1 i (by omega)), decide_eq_false h]
    replace hKz := Lib.hid hKz
    clear hk hI1 hR1 HA hRh hl
    generalize hM : 16 * (k + 1) = M at *
    generalize hz : 9 * k + 9 = z at *
    generalize hk1 : k + 1 = k1 at *
    replace hM := Lib.hid hM
    replace hz := Lib.hid hz
    replace hk1 := Lib.hid hk1
    go_wp2_with fail
    have hnz : decide (n < z) = false := decide_eq_false (by omega)
    simp only [hnz]
    clear hnz
    go_loopw [7, 8, 9] (fun s7 s8 s9 wr => ∃ i : Nat, i ≤ k1 ∧ s9 = .int .i64 ((9 * i : Nat) : Int) ∧ s7 = .int .i16 (pqA f i).1 ∧ s8 = .int .i16 (pqA f i).2 ∧ Below W1.heap.size W1 wr) (fun _ _ s9 _ => z - (intOf s9).toNat)
    case atStart => exact ⟨0, Nat.zero_le _, rfl, rfl, rfl, Below.refl _ _⟩
    case round =>
      obtain ⟨i, hi, rfl, rfl, rfl, hB⟩ := hrel
      by_cases hlt : i < k1
      · have hq := pqA_smp f i
        have hRW := row_keep (B := W1.heap.size) hRh1.out hB (fun p hp => by cases hp; exact hbl)
        have hin : i < n / 9 := by have := hk1.out; omega
        have hDE := Lib.hid (cdecode_any wr (some ⟨b, o + 9 * i, none⟩) (c - 9 * i) (blkG f i) _ _ (row_blk hRW i hin) hq.1 hq.2)
        obtain ⟨hg0, hyn9⟩ := hbK.out i hlt
        have hend := hKz.out i hlt
        have hpq : (stB (blkG f i) (pqA f i).1 (pqA f i).2 16) = pqA f (i + 1) := rfl
        have hpq2 : (stB (blkG f i) (pqA f i).1 (pqA f i).2 15).1 = (pqA f (i + 1)).2 := rfl
        have hF := fun j (hj : j < 16) => allF_at f i j hj
        have e1 : ((9 * i : Nat) : Int) + 9 = ((9 * i + 9 : Nat) : Int) := by omega
        have e2 : 9 * i + 9 - 9 * i = 9 := by omega
        have e3 : ((9 * i : Nat) : Int) / 9 = (i : Int) := by omega
        have e4 : (i : Int) * 16 = ((16 * i : Nat) : Int) := by omega
        have e5 : ((16 * i : Nat) : Int) + 16 = ((16 * i + 16 : Nat) : Int) := by omega
        have e6 : 16 * i + 16 - 16 * i = 16 := by omega
        have t1 : decide (((9 * i : Nat) : Int) < (z : Int)) = true := decide_eq_true (by have := hz.out; have := hk1.out; omega)
        have t2 : ((((9 * i + 9 : Nat) : Int)) == (z : Int)) = decide (i = k) := by
          rw [Bool.eq_iff_iff]
          simp only [beq_iff_eq, decide_eq_true_eq]
          have := hz.out
          omega
        have t1n : 9 * i < z := by have := hz.out; have := hk1.out; omega
        have t2n : ((9 * i + 9) == z) = decide (i = k) := by
          rw [Bool.eq_iff_iff]
          simp only [beq_iff_eq, decide_eq_true_eq]
          have := hz.out
          omega
        have hm2 : 16 * i + 16 ≤ M := by have := hM.out; omega
        have hms : z - (9 * i + 9) < z - 9 * i := by have := hz.out; have := hk1.out; omega
        have hi9 : 9 * (i + 1) = 9 * i + 9 := by omega
        have hiM : 16 * i + 16 ≤ c1 := by omega
        have hI := Lib.hid (irow_at hIh.out 16 (16 * i) (by decide) hm2)
        have hB1w := hB1.out.trans (hB.mono hB1.out.size)
        replace hend := Lib.hid hend
        replace hpq := Lib.hid hpq
        replace hpq2 := Lib.hid hpq2
        replace hF := Lib.hid hF
        replace hB := Lib.hid hB
        replace hms := Lib.hid hms
        replace hi9 := Lib.hid hi9
        replace hRW := Lib.hid hRW
        clear hq r0 r1 r2 r3 r4 hB1w
        generalize hP : (pqA f i).1 = P at *
        generalize hQ : (pqA f i).2 = Q at *
        replace hP := Lib.hid hP
        replace hQ := Lib.hid hQ
        have y0 : (0 : Int) ≤ ((9 * i : Nat) : Int) := by omega
        have y1 : ((9 * i : Nat) : Int) ≤ ((9 * i + 9 : Nat) : Int) := by omega
        have y2 : ((9 * i + 9 : Nat) : Int) ≤ (c : Int) := by omega
        have y3 : 9 * i < n := by omega
        have y4 : 9 * i < c := by omega
        have x0' : (0 : Int) ≤ ((16 * i : Nat) : Int) := by omega
        have x1' : ((16 * i : Nat) : Int) ≤ ((16 * i + 16 : Nat) : Int) := by omega
        have x2' : ((16 * i + 16 : Nat) : Int) ≤ (c1 : Int) := by omega
        have x4' : 16 * i < c1 := by omega
        generalize 9 * i + 9 = yz at *
        generalize hyy : 9 * i = y at *
        generalize 16 * i + 16 = xz at *
        generalize hxx : 16 * i = x at *
        replace hyy := Lib.hid hyy
        replace hxx := Lib.hid hxx
        go_wp2_with fail
        refine hDE.out.mono ?_
        rintro e W2 ⟨s', rfl, hO2, hB2⟩
        obtain ⟨a3, c3, rfl, hI3, hc3, _⟩ := own_irow2 (f := fun j => (stB (blkG f i) P Q (j + 1)).1) hO2 (by decide) (fun j hj => outL_at _ P Q 16 j hj)
        have hB12 := hB.out.trans (hB2.mono hB.out.size)
        have hB12h := Lib.hid hB12
        have hSh := Lib.hid (shorts_any W2 a3 (some ⟨lb, lo + x, none⟩) 16 c3 (c1 - x) _ hI3 (irow_congr (hI.out.below hB12) (fun j hj => hF.out j hj)) (by decide))
        obtain ⟨kb, ko, rfl, hkb, hkc⟩ : ∃ kb ko, a3 = some ⟨kb, ko, none⟩ ∧ kb < W2.heap.size ∧ ∀ j, j < 16 → W2.cell? ⟨kb, ko + j, none⟩ = some (.int .i16 (stB (blkG f i) P Q (j + 1)).1) := by
          rcases hI3 with h | ⟨b', o', e, h1, h2⟩
          · exact absurd h (by decide)
          · exact ⟨b', o', e, h1, h2⟩
        have k15 := hkc 15 (by decide)
        have k14 := hkc 14 (by decide)
        rw [hpq.out] at k15
        rw [hpq2.out] at k14
        clear hO2 hI3 hkc hB2 hB12 hDE hI
        generalize hPe : (pqA f (i + 1)).1 = P' at *
        generalize hQe : (pqA f (i + 1)).2 = Q' at *
        replace hPe := Lib.hid hPe
        replace hQe := Lib.hid hQe
        replace k15 := Lib.hid k15
        replace k14 := Lib.hid k14
        go_wp2_with fail
        refine hSh.out.mono ?_
        rintro e W3 ⟨rfl, q3, rfl⟩
        have hB13 := Lib.hid (below_drewN hB12h.out q3)
        have x0 : (W2.drewN q3).cell? ⟨b, o + y, none⟩ = some (.int .u8 (f y : Nat)) := by
          obtain ⟨_, h | ⟨b', o', e, hl, hc⟩⟩ := row_keep (B := W1.heap.size) hRh1.out hB13.out (fun p hp => by cases hp; exact hbl)
          · exact absurd h (Nat.ne_of_gt (Nat.lt_of_le_of_lt (Nat.zero_le _) y3))
          · cases e; exact hc y y3
        have k15 : (W2.drewN q3).cell? ⟨kb, ko + 15, none⟩ = some (.int .i16 P') := k15.out
        have k14 : (W2.drewN q3).cell? ⟨kb, ko + 14, none⟩ = some (.int .i16 Q') := k14.out
        have hkb3 : kb < (W2.drewN q3).heap.size := hkb
        have HRd := Lib.hid (read_any (W2.drewN q3) (f y) hg0)
        unfold headV at HRd
        rw [hend.out] at HRd
        generalize W2.drewN q3 = W3 at *
        generalize f y = G at *
        generalize decide (i = k) = l1 at *
        generalize ((G / 16 : Nat) : Int) = v1 at *
        generalize ((G / 4 % 4 : Nat) : Int) = v2 at *
        generalize decide (G / 2 % 2 = 1) = l3 at *
        clear hSh hB12h hkb
        go_wp2_with fail
        refine HRd.out.mono ?_
        rintro e W4 ⟨rfl, hB4⟩
        have hB14 := Lib.hid (hB13.out.trans (hB4.mono hB13.out.size))
        have k15' := (hB4.cell (p := ⟨kb, ko + 15, none⟩) hkb3).trans k15
        have k14' := (hB4.cell (p := ⟨kb, ko + 14, none⟩) hkb3).trans k14
        have hfe := field_end W4 v1 v2 l3 l1
        clear k15 k14 x0 hB4 hB13 HRd
        go_wp2_with fail
        exact ⟨⟨i + 1, hlt, by rw [hi9.out], by rw [hPe.out], by rw [hQe.out], hB14.out⟩, by simp only [intOf, Int.toNat_natCast]; exact hms.out⟩
      · obtain rfl : i = k1 := by omega
        have t1 : decide (((9 * i : Nat) : Int) < (z : Int)) = false := decide_eq_false (by have := hz.out; have := hk1.out; omega)
        have t1n : ¬ (9 * i < z) := by have := hz.out; have := hk1.out; omega
        have hf := Lib.hid (hB1.out.trans (hB.mono hB1.out.size))
        clear hB r0 r1 r2 r3 r4
        go_wp2_with fail
        go_ret
        exact ⟨rfl, hf.out⟩
end Go.Proofs.Ytekjcgckniopdaa.brrParts
