/-
  TuneGrows: the walk (at most 1048576 bytes of each kind).
-/
import Derived.Test.YtknlbmjncginnaaGreatDoorCpy
import Derived.Deep.DeepCutAuto
namespace Go.Proofs.YtknlbmjncginnaaGreatDoor.tuneGrows
open Go.RowKit Go.Shelf
set_option maxRecDepth 100000
set_option maxHeartbeats 4000000
set_option linter.unusedVariables false
set_option linter.unusedSimpArgs false

theorem reads_take (l : List Ac) (k : Nat) (hk : k < l.length) : reads (l.take (k + 1)) = reads (l.take k) + (if (l[k]).1 = 1 then 1 else 0) := by
  rw [List.take_succ_eq_append_getElem hk, reads_app]
  congr 1
  unfold reads
  rw [List.countP_cons, List.countP_nil, Nat.zero_add]
  by_cases h : (l[k]).1 = 1
  · rw [if_pos h, if_pos (by rw [beq_iff_eq]; exact h)]
  · rw [if_neg h, if_neg (by rw [beq_iff_eq]; exact h)]
theorem walk (r : Rp) (a : Option Addr) (n c : Nat) (f : Nat → Nat) (b : Option Addr) (m d : Nat) (h : Nat → Nat) (W : World) (hr : r.Ok) (hR1 : Row W a n f) (hnc : n ≤ c) (hR2 : Row W b m h) (hmd : m ≤ d) (hn : n ≤ 1048576) (hm : m ≤ 1048576) :
    Calls Tryz.prog 5 #[pegV r, .slice a n c, .slice b m d] W fun e W' => e = .returned (.bool true) ∧ Below W.heap.size W W' := by
  have HS := Lib.hid (fun V => sums_any V)
  have hbs := bsN_lt (f := f) (n := n) hR1.1
  have hmost := crL_most r hbs
  have hmore := cr_more r (bsN f n) (bsN h m) hbs
  rw [← bsN_both, bsN_length] at hmore
  have hme : bsN h m ≠ [] ↔ m ≠ 0 := by
    rw [ne_eq, ← List.length_eq_zero_iff, bsN_length]
  rw [hme] at hmore
  have HC1 := Lib.hid fun (V : World) (hV : Row V a n f) => course_fun r a n c f V hr hV hnc
  have HC2 := Lib.hid fun (V : World) (G cap : Nat) (hV : Row V (some ⟨G, 0, none⟩) (n + m) (both f n h)) (hc : n + m ≤ cap) => course_fun r (some ⟨G, 0, none⟩) (n + m) cap (both f n h) V hr hV hc
  generalize hlA : crL r (bsN f n) = lA at *
  generalize hdA : crD r (bsN f n) = dA at *
  generalize hrA : crR r (bsN f n) = rA at *
  generalize hlB : crL r (bsN (both f n h) (n + m)) = lB at *
  generalize hdB : crD r (bsN (both f n h) (n + m)) = dB at *
  generalize hrB : crR r (bsN (both f n h) (n + m)) = rB at *
  obtain ⟨hpre, hyes, hno⟩ := hmore
  have hfacts := Lib.hid (And.intro hmost (And.intro hpre (And.intro hyes hno)))
  have hx := Lib.hid (Whole.fresh W 24 (pegC r))
  have hb0 := Lib.hid ((Below.refl W.heap.size W).alloc (Nat.le_refl _) (.cells (pegC r) 24))
  have hRR := Lib.hid (And.intro hR1 hR2)
  have hbn := Lib.hid (And.intro hn (And.intro hm (And.intro hnc hmd)))
  clear hmost hpre hyes hno hbs hme hlA hdA hrA hlB hdB hrB hr hR1 hR2 hnc hmd
  unfold pegC at hx hb0
  unfold pegV at HC1 HC2 ⊢
  go_enter Tryz.func5, Tryz.ntmps5
  go_wp2_with fail
  with_reducible refine (HS.out _).mono ?_
  rintro e W1 ⟨rfl, hb1⟩
  have hx1 := hx.out.below hb1 hx.out.lt
  replace hb1 := hb0.out.trans (hb1.mono (by simp))
  have hra1 := hRR.out.1.below hb1
  obtain ⟨X, hX⟩ : ∃ X, W.heap.size = X := ⟨_, rfl⟩
  rw [hX] at hx1 ⊢
  replace hX := Lib.hid hX
  have x0 := hx1.cell 0
  have x1 := hx1.cell 1
  have x2 := hx1.cell 2
  have x3 := hx1.cell 3
  have x4 := hx1.cell 4
  have x5 := hx1.cell 5
  have x6 := hx1.cell 6
  simp only [List.getElem?_toArray, List.getElem?_cons_zero, List.getElem?_cons_succ] at x0 x1 x2 x3 x4 x5 x6
  have H1 := Lib.hid (HC1.out W1 hra1)
  replace hx1 := Lib.hid hx1
  replace hb1 := Lib.hid hb1
  clear HC1 HS hx hb0 hra1
  go_wp2_with fail
  with_reducible refine H1.out.mono ?_
  rintro e W2 ⟨lv1, rfl, hb2, ho2, hok2⟩
  obtain ⟨a1, c1, rfl, har1, hc1⟩ := arow_of ho2 rfl
  go_upto_region 4 with (fail)
  have hZ1 := Whole.fresh W2 24 (pegC rA)
  have hB3 := hb1.out.trans (hb2.mono hb1.out.size)
  have hB3a := (Below.refl W2.heap.size W2).alloc (Nat.le_refl _) (.cells (pegC rA) 24)
  have hx3 := (hx1.out.below hb2 hx1.out.lt).alloc (.cells (pegC rA) 24)
  have har3 := har1.below hB3a
  have hB4 := hB3.alloc hB3.size (.cells (pegC rA) 24)
  unfold pegC at hZ1 hB3a hx3 har3 hB4
  clear H1 hx1 hb1 hb2 ho2 har1 hB3 hB3a x0 x1 x2 x3 x4 x5 x6
  generalize W2.alloc (.cells #[.int .u8 (rA.A : Nat), .int .u8 (rA.X : Nat), .int .u8 (rA.Y : Nat), .int .u8 (rA.S : Nat), .int .u8 (rA.P : Nat), .int .u16 (rA.Pc : Nat), .bool rA.H] 24) = W3 at *
  generalize W2.heap.size = Z1 at *
  have hra3 := hRR.out.1.below hB4
  have hrb3 := hRR.out.2.below hB4
  have HK := Lib.hid (copied_any a n c f W3 hra3 (by omega))
  replace hra3 := Lib.hid hra3
  replace hrb3 := Lib.hid hrb3
  replace hZ1 := Lib.hid hZ1
  replace hx3 := Lib.hid hx3
  replace har3 := Lib.hid har3
  replace hB4 := Lib.hid hB4
  go_wp2_with fail
  with_reducible refine HK.out.mono ?_
  rintro e W4 ⟨G, rfl, hG, hGs, hb4⟩
  obtain ⟨G2, cap2, W5, hrun, hR5, hcap, hb5⟩ := run_append_bytes W4 25 G n m d b f h hG.row (hrb3.out.below hb4) hn hm
  have hb45 := Below.trans hb4 (hb5.mono hb4.size)
  have hx5 := hx3.out.below hb45 hx3.out.lt
  have x0 := hx5.cell 0
  have x1 := hx5.cell 1
  have x2 := hx5.cell 2
  have x3 := hx5.cell 3
  have x4 := hx5.cell 4
  have x5 := hx5.cell 5
  have x6 := hx5.cell 6
  simp only [List.getElem?_toArray, List.getElem?_cons_zero, List.getElem?_cons_succ] at x0 x1 x2 x3 x4 x5 x6
  have H2 := Lib.hid (HC2.out W5 G2 cap2 hR5 hcap)
  have hB5 := Lib.hid (hB4.out.trans (hb45.mono hB4.out.size))
  have hZ5 := Lib.hid (hZ1.out.below hb45 hZ1.out.lt)
  have har5 := Lib.hid (har3.out.below hb45)
  clear HK HC2 hx3 hra3 hrb3 hZ1 har3 hB4 hG hGs hb4 hb5 hb45 hR5 hx5
  replace hcap := Lib.hid hcap
  obtain ⟨N, hN⟩ : ∃ N, n + m = N := ⟨_, rfl⟩
  rw [hN] at hrun H2
  replace hN := Lib.hid hN
  go_wp2_with (at_builtin; refine wpList_append_ran rfl _ _ 25 rfl _ _ _ W5 rfl rfl hrun ?_)
  with_reducible refine H2.out.mono ?_
  rintro e W6 ⟨lv2, rfl, hb6, ho6, hok6⟩
  obtain ⟨a2, c2, rfl, har6, hc2⟩ := arow_of ho6 rfl
  go_upto_region 7 with (fail)
  have hZ6 := Whole.fresh W6 24 (pegC rB)
  have hB6 := hB5.out.trans (hb6.mono hB5.out.size)
  have hB6a := (Below.refl W6.heap.size W6).alloc (Nat.le_refl _) (.cells (pegC rB) 24)
  have hZ7 := (hZ5.out.below hb6 hZ5.out.lt).alloc (.cells (pegC rB) 24)
  have harB := har6.below hB6a
  have harA := (har5.out.below hb6).below hB6a
  have hB7 := hB6.alloc hB6.size (.cells (pegC rB) 24)
  unfold pegC at hZ6 hB6a hZ7 harA harB hB7
  clear H2 hB5 hZ5 har5 hb6 ho6 har6 hB6 hB6a x0 x1 x2 x3 x4 x5 x6 hrun
  generalize W6.alloc (.cells #[.int .u8 (rB.A : Nat), .int .u8 (rB.X : Nat), .int .u8 (rB.Y : Nat), .int .u8 (rB.S : Nat), .int .u8 (rB.P : Nat), .int .u16 (rB.Pc : Nat), .bool rB.H] 24) = W7 at *
  generalize W6.heap.size = Z2 at *
  obtain ⟨⟨hl1, hl14⟩, hpre, hyes, hno⟩ := hfacts.out
  have hA0 : lA ≠ [] := fun e => by rw [e] at hl1; exact absurd hl1 (by decide)
  have hB0 : lB ≠ [] := fun e => by
    have := hpre.length_le
    rw [e] at this
    simp at this
    exact hA0 this
  obtain ⟨g1, rfl⟩ := harA.some hA0
  obtain ⟨g2, rfl⟩ := harB.some hB0
  have HSm := same_acc (some ⟨g2, 0, none⟩) (some ⟨g1, 0, none⟩) c2 c1 lA W7 (harB.front hpre) harA (by omega)
  have hle := hpre.length_le
  obtain ⟨L, hK⟩ : ∃ L, lA.length = L := ⟨_, rfl⟩
  obtain ⟨LB, hLB⟩ : ∃ LB, lB.length = LB := ⟨_, rfl⟩
  rw [hK] at HSm hle hc1 hl14 hno hl1 ⊢
  rw [hLB] at hle hc2 hno ⊢
  obtain ⟨K, hKL⟩ : ∃ K, L = K + 1 := ⟨L - 1, by omega⟩
  have hLp : L ≤ 14 := hl14
  have hKe : (L : Int) - 1 = (K : Int) := by omega
  replace hKL := Lib.hid hKL
  replace HSm := Lib.hid HSm
  have harA' := Lib.hid harA
  have hK' := Lib.hid hK
  have hend := Lib.hid hB7
  have hno' := Lib.hid hno
  have hyes' := Lib.hid hyes
  have hLB' := Lib.hid hLB
  have hcLA : L ≤ c2 := by omega
  have u0 : ((L : Int) == 0) = false := by rw [beq_eq_false_iff_ne]; omega
  have u1 : decide ((L : Int) > 14) = false := decide_eq_false (by omega)
  have u2 : decide (14 < (L : Int)) = false := u1
  have u3 : decide ((LB : Int) < (L : Int)) = false := decide_eq_false (by omega)
  replace hZ7 := Lib.hid hZ7
  replace hZ6 := Lib.hid hZ6
  clear hno hyes hB7 harA harB hLB hK hpre hl1 hfacts hA0 hB0 hok2 hok6
  go_wp2_with fail
  with_reducible refine HSm.out.mono ?_
  rintro e W8 ⟨rfl, hb8⟩
  have hZ8 := hZ7.out.below hb8 hZ7.out.lt
  have hZ9 := hZ6.out.below hb8 hZ6.out.lt
  have harA := Lib.hid (harA'.out.below hb8)
  have hB8 := Lib.hid (hend.out.trans (hb8.mono hend.out.size))
  have z10 := hZ8.cell 0
  have z11 := hZ8.cell 1
  have z12 := hZ8.cell 2
  have z13 := hZ8.cell 3
  have z14 := hZ8.cell 4
  have z15 := hZ8.cell 5
  have z16 := hZ8.cell 6
  have z20 := hZ9.cell 0
  have z21 := hZ9.cell 1
  have z22 := hZ9.cell 2
  have z23 := hZ9.cell 3
  have z24 := hZ9.cell 4
  have z25 := hZ9.cell 5
  have z26 := hZ9.cell 6
  simp only [List.getElem?_toArray, List.getElem?_cons_zero, List.getElem?_cons_succ] at z10 z11 z12 z13 z14 z15 z16 z20 z21 z22 z23 z24 z25 z26
  clear HSm hZ7 hZ6 harA' hend hb8 hZ8 hZ9 u0 u1 u2 u3 hcLA
  cases dA with
  | true =>
    obtain ⟨e1, e2, e3⟩ := hyes'.out rfl
    subst e1
    subst e2
    have e4 : LB = L := by rw [← hLB'.out, e3, hK'.out]
    subst e4
    clear e3 hyes' hno' hLB' hK' harA
    go_wp2_with fail
    go_ret
    exact ⟨rfl, hB8.out⟩
  | false =>
    obtain ⟨e1, ⟨l', x, e2⟩, e3, e4⟩ := hno'.out rfl
    subst e1
    unfold zeroR at z10 z11 z12 z13 z14 z15 z16
    simp only [show ((0 : Nat) : Int) = 0 from rfl] at z10 z11 z12 z13 z14 z15 z16
    have hq := harA.out.at_ K (by rw [hK'.out]; have := hKL.out; omega)
    have hlen : l'.length = K := by
      have h1 := hK'.out
      have h2 := hKL.out
      rw [e2, List.length_append, List.length_singleton] at h1
      omega
    have hlast : lA[K]'(by rw [hK'.out]; have := hKL.out; omega) = (1, x, 0) := by
      subst hlen
      have : lA[l'.length]? = some (1, x, 0) := by rw [e2]; simp
      rw [List.getElem?_eq_getElem (by rw [hK'.out]; have := hKL.out; omega)] at this
      exact Option.some.inj this
    rw [hlast] at hq
    obtain ⟨q0, -, -⟩ := hq
    simp only [show ((1 : Nat) : Int) = 1 from rfl] at q0
    have e3' := Lib.hid e3
    have e4' := Lib.hid e4
    have hKb : K ≤ 14 := by have := hKL.out; omega
    have hKi : (K : Int) < (L : Int) := by have := hKL.out; omega
    have hKn : K < L := by have := hKL.out; omega
    clear e2 e3 e4 hlen hlast hyes' hno' hLB'
    go_upto_region 14 with (fail)
    clear q0 z10 z11 z12 z13 z14 z15 z16 z20 z21 z22 z23 z24 z25 z26 hKi hKn hKe
    go_wp2_with fail
    obtain ⟨wo, hwo⟩ : ∃ wo, wo = W8 := ⟨_, rfl⟩
    go_loopw [14, 15] (fun s14 s15 wr => ∃ k : Nat, k ≤ L ∧ s15 = .int .i64 k ∧ s14 = .int .i64 (reads (lA.take k) : Nat) ∧ wr = W8) (fun _ s15 _ => L - (intOf s15).toNat)
    case atStart => exact ⟨0, Nat.zero_le _, by go_num, rfl, rfl⟩
    case round =>
      obtain ⟨k, hk, rfl, rfl, rfl⟩ := hrel
      by_cases hlt : k < L
      · have hkl : k < lA.length := by rw [hK'.out]; exact hlt
        have hc := harA.out.at_ k hkl
        have hst := reads_take lA k hkl
        have hrl : reads (lA.take k) ≤ 15 := by
          have h1 : reads (lA.take k) ≤ (lA.take k).length := List.countP_le_length
          rw [List.length_take] at h1
          omega
        generalize lA[k] = y at *
        obtain ⟨yk, ya, yv⟩ := y
        dsimp only at hc hst
        obtain ⟨q0, -, -⟩ := hc
        generalize reads (lA.take k) = R at *
        clear hkl
        by_cases h1 : yk = 1
        · have t1 : ((yk : Int) == 1) = true := by rw [beq_iff_eq]; omega
          rw [if_pos h1] at hst
          replace hst := Lib.hid hst
          clear h1
          go_wp2_with fail
          go_roundw
          case rel => exact ⟨k + 1, by omega, by go_num, by rw [hst.out]; go_num, trivial⟩
          case measure => simp [intOf]; omega
        · have t1 : ((yk : Int) == 1) = false := by rw [beq_eq_false_iff_ne]; omega
          rw [if_neg h1, Nat.add_zero] at hst
          replace hst := Lib.hid hst
          clear h1
          go_wp2_with fail
          go_roundw
          case rel => exact ⟨k + 1, by omega, by go_num, by first | (rw [hst.out]; done) | (rw [hst.out]; go_num) | (simp only [hst.out]), trivial⟩
          case measure => simp [intOf]; omega
      · obtain rfl : k = L := by omega
        have hall : reads (lA.take k) = n + 1 := by rw [List.take_of_length_le (by rw [hK'.out]; have := hKL.out; omega), e3'.out]
        rw [hall]
        have t0 : (((n + 1 : Nat) : Int) == (n : Int) + 1) = true := by rw [beq_iff_eq]; omega
        have hnb : n ≤ 1048576 := hn
        clear hall hlt hk
        by_cases h0 : m = 0
        · subst h0
          go_wp2_with fail
          go_ret
          exact ⟨rfl, hB8.out⟩
        · have t1 : ((m : Int) == 0) = false := by rw [beq_eq_false_iff_ne]; omega
          have t4 := Lib.hid (e4'.out h0)
          cases dB with
          | true =>
            clear h0 t4
            go_wp2_with fail
            go_ret
            exact ⟨rfl, hB8.out⟩
          | false =>
            have t5 : k < LB := t4.out.resolve_left (by decide)
            have t6 : decide ((LB : Int) > (k : Int)) = true := decide_eq_true (by omega)
            have t7 : decide ((k : Int) < (LB : Int)) = true := t6
            clear h0 t4
            go_wp2_with fail
            go_ret
            exact ⟨rfl, hB8.out⟩
end Go.Proofs.YtknlbmjncginnaaGreatDoor.tuneGrows
