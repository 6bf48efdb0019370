/-
  CartBack: the walk.
-/
import Derived.Test.YtggjaoihfhianaaDoorBackKit
import Derived.Deep.DeepCutAuto
import Derived.Deep.CutBlock
namespace Go.Proofs.YtggjaoihfhianaaDoor
open Go.RowKit Go.Shelf Go.Sort
set_option maxRecDepth 100000
set_option maxHeartbeats 4000000

namespace cartBack
theorem walkN (size : Int) (kb : Nat) (a : Option Addr) (len cap : Nat) (ps : Nat → Patch1) (l c : Nat) (R S : Value) (ram : Int) (t : ByteArray) (z : Nat) (fast : Bool) (w : World) (hs0 : -9223372036854775808 ≤ size) (hs1 : size ≤ 9223372036854775807) (hkb : kb < 256) (h : Patches w a len ps)
    (hl : l < 256) (hc : c < 256) (ht : t.size ≤ 9223372036854775807) (hz : z < 65536) :
    Calls Tryd.prog 5 #[.agg #[.int .i64 size, .int .u8 kb, .slice a len cap], .agg #[.int .u8 l, .int .u8 c, R, .int .i64 ram, .string t, .int .u16 z, .bool fast, S]] w fun e w' => e = .returned (.bool true) ∧ Below w.heap.size w w' := by
  have HI := Lib.hid (fun W (hW : Patches W a len ps) => img_any size kb a len cap ps W hs0 hs1 hkb hW)
  have hn := imgN_le size
  generalize imgN size = n at *
  generalize img kb ps len = f at *
  have hsmall : n ≤ 8392704 := hn
  replace hn := Lib.hid hn
  go_enter Tryd.func5, Tryd.ntmps5
  replace hsmall := Lib.hid hsmall
  replace hl := Lib.hid hl
  replace hc := Lib.hid hc
  replace ht := Lib.hid ht
  replace hz := Lib.hid hz
  clear hs0 hs1 hkb
  go_wp2_with fail
  have hB0 : Below w.heap.size w ((w.alloc (Obj.cells #[.int .i64 size, .int .u8 kb, .slice a len cap] 24)).alloc (Obj.cells #[.int .u8 l, .int .u8 c, R, .int .i64 ram, .string t, .int .u16 z, .bool fast, S] 29)) := ((Below.refl _ w).alloc (Nat.le_refl _) _).alloc (by simp) _
  have hI0 := (Whole.fresh w 24 #[.int .i64 size, .int .u8 kb, .slice a len cap]).alloc (Obj.cells #[.int .u8 l, .int .u8 c, R, .int .i64 ram, .string t, .int .u16 z, .bool fast, S] 29)
  have hX0 := Whole.fresh (w.alloc (Obj.cells #[.int .i64 size, .int .u8 kb, .slice a len cap] 24)) 29 #[.int .u8 l, .int .u8 c, R, .int .i64 ram, .string t, .int .u16 z, .bool fast, S]
  rw [World.size_alloc] at hX0
  have hP := h.below hB0
  generalize ((w.alloc (Obj.cells #[.int .i64 size, .int .u8 kb, .slice a len cap] 24)).alloc (Obj.cells #[.int .u8 l, .int .u8 c, R, .int .i64 ram, .string t, .int .u16 z, .bool fast, S] 29)) = W0 at hB0 hI0 hX0 hP ⊢
  clear h
  refine (blank_any W0).mono ?_
  rintro e w1 ⟨rfl, hB1⟩
  have hI1 := hI0.below hB1 hI0.lt
  have hX1 := hX0.below hB1 hX0.lt
  have hP1 := hP.below (hB1.mono (Nat.le_refl _))
  have hBa := hB0.trans (hB1.mono hB0.size)
  clear hI0 hX0 hP hB0 hB1
  obtain ⟨X, hXe⟩ : ∃ X, w.heap.size + 1 = X := ⟨_, rfl⟩
  rw [hXe] at hX1 ⊢
  have hXw : w.heap.size ≤ X := by omega
  replace hXe := Lib.hid hXe
  have i0 := hI1.cell 0
  have i1 := hI1.cell 1
  have i2 := hI1.cell 2
  simp only [List.getElem?_toArray, List.getElem?_cons_zero, List.getElem?_cons_succ] at i0 i1 i2
  go_wp2_with fail
  refine (HI.out w1 hP1).mono ?_
  rintro e w2 ⟨G, rfl, hG, hGe, hB2⟩
  have hX2 := hX1.below hB2 hX1.lt
  have hBb := hBa.trans (hB2.mono hBa.size)
  have hXG : X ≠ G := by have := hX1.lt; omega
  have fr := hX2.free
  have q2 := hX2.cell 2
  simp only [List.getElem?_toArray, List.getElem?_cons_zero, List.getElem?_cons_succ] at q2
  clear hX1 hI1 hP1 hBa hB2 i0 i1 i2 HI hGe
  go_upto_region 4 with (fail)
  have hX3 : Whole _ X 29 #[.int .u8 l, .int .u8 c, (.slice (some ⟨G, 0, none⟩) n n), .int .i64 ram, .string t, .int .u16 z, .bool fast, S] := hX2.put 2 (.slice (some ⟨G, 0, none⟩) n n)
  have hG3 := hG.away (p := ⟨X, 2, none⟩) (Ne.symm hXG) (.slice (some ⟨G, 0, none⟩) n n)
  have hBc := hBb.setCell (p := ⟨X, 2, none⟩) hXw (.slice (some ⟨G, 0, none⟩) n n)
  generalize (w2.setCell ⟨X, 2, none⟩ (.slice (some ⟨G, 0, none⟩) n n)) = W3 at hX3 hG3 hBc ⊢
  clear hX2 hG hBb fr q2
  have xx0 := hX3.cell 0
  have xx1 := hX3.cell 1
  have xx2 := hX3.cell 2
  have xx3 := hX3.cell 3
  have xx4 := hX3.cell 4
  have xx5 := hX3.cell 5
  have xx6 := hX3.cell 6
  have xx7 := hX3.cell 7
  simp only [List.getElem?_toArray, List.getElem?_cons_zero, List.getElem?_cons_succ] at xx0 xx1 xx2 xx3 xx4 xx5 xx6 xx7
  by_cases hok : mayB l c n ram t z = true
  · have HM := Lib.hid (make_any l c n n (some ⟨G, 0, none⟩) ram t z fast S f W3 hl.out hc.out hz.out hG3.row hok)
    obtain ⟨h13, hc2, _, hn1, hn2, hmod, hpos, ht21, _⟩ := may_parts hok
    have hF9 := (made f n l c ram t z fast hok).2.2.2.2.2
    have HRD := Lib.hid (fun sl hb => made_read f n l c sl ram t z fast hok hb)
    generalize makeF f n l c ram t z fast = F at *
    unfold cartC at HM
    replace hn1 := Lib.hid hn1
    replace hn2 := Lib.hid hn2
    replace hmod := Lib.hid hmod
    replace hpos := Lib.hid hpos
    replace ht21 := Lib.hid ht21
    clear hok
    go_wp2_with fail
    refine HM.out.mono ?_
    rintro e w4 ⟨B, capB, rfl, hcapB, hH4, hBe4, hB4⟩
    have hX4 := hX3.below hB4 hX3.lt
    have hXB : X ≠ B := by have := hX3.lt; omega
    have hBd := hBc.trans (hB4.mono hBc.size)
    replace hcapB := Lib.hid hcapB
    clear hX3 hG3 hBc hB4 HM hBe4 xx0 xx1 xx2 xx3 xx4 xx5 xx6 xx7 hXG
    obtain ⟨t0, m0, k0, r0, c0, s0, z0, hcv, hsc, ht0, hm0, _, _⟩ := card_parts F l (fun i hi => hH4.byte _ (by have := hpos.out; omega))
    have HLo := Lib.hid (fun q W (hq : q < 256) (hW : Row W (some ⟨B, 0, none⟩) n F) => look_any q n capB (some ⟨B, 0, none⟩) F W hq hcapB.out hW)
    have HL1 := HLo.out l w4 hl.out hH4.row
    rw [show lookV l n F = .tuple #[cardA t0 m0 k0 r0 c0 s0 z0, .int .i64 0] from by
      unfold lookV
      rw [if_neg (by omega), if_neg (by have := hpos.out; omega), hcv]] at HL1
    have HS1 := Lib.hid (fun W => score_any t0 m0 k0 r0 c0 s0 z0 l W hl.out ht0 hm0)
    rw [← hsc, hF9] at HS1
    unfold cardA at HL1 HS1
    clear hsc hcv ht0 hm0
    have x0 := hX4.cell 0
    simp only [List.getElem?_toArray, List.getElem?_cons_zero] at x0
    go_wp2_with fail
    refine HL1.mono ?_
    rintro e w5 ⟨rfl, hB5⟩
    have hX5 := hX4.below hB5 hX4.lt
    have hH5 := hH4.below hB5 hH4.lt
    have hBe := hBd.trans (hB5.mono hBd.size)
    clear hX4 hH4 hBd hB5 HL1 x0
    go_upto_region 8 with (fail)
    have hX6 := hX5.alloc (Obj.cells #[.string t0, .int .u8 m0, .int .u8 k0, .int .u8 r0, .int .u16 c0, .int .u16 s0, .int .u16 z0] 39)
    have hH6 := hH5.alloc (Obj.cells #[.string t0, .int .u8 m0, .int .u8 k0, .int .u8 r0, .int .u16 c0, .int .u16 s0, .int .u16 z0] 39)
    have hBf := hBe.alloc hBe.size (Obj.cells #[.string t0, .int .u8 m0, .int .u8 k0, .int .u8 r0, .int .u16 c0, .int .u16 s0, .int .u16 z0] 39)
    have hY6 := Whole.fresh w5 39 #[.string t0, .int .u8 m0, .int .u8 k0, .int .u8 r0, .int .u16 c0, .int .u16 s0, .int .u16 z0]
    generalize (w5.alloc (Obj.cells #[.string t0, .int .u8 m0, .int .u8 k0, .int .u8 r0, .int .u16 c0, .int .u16 s0, .int .u16 z0] 39)) = W6 at hX6 hH6 hBf hY6 ⊢
    generalize w5.heap.size = Y at *
    clear hX5 hH5 hBe
    have x0 := hX6.cell 0
    simp only [List.getElem?_toArray, List.getElem?_cons_zero] at x0
    have y0 := hY6.cell 0
    have y1 := hY6.cell 1
    have y2 := hY6.cell 2
    have y3 := hY6.cell 3
    have y4 := hY6.cell 4
    have y5 := hY6.cell 5
    have y6 := hY6.cell 6
    simp only [List.getElem?_toArray, List.getElem?_cons_zero, List.getElem?_cons_succ] at y0 y1 y2 y3 y4 y5 y6
    go_wp2_with fail
    refine (HS1.out W6).mono ?_
    rintro e w7 ⟨rfl, hB7⟩
    have hX7 := hX6.below hB7 hX6.lt
    have hH7 := hH6.below hB7 hH6.lt
    have hBg := hBf.trans (hB7.mono hBf.size)
    clear hX6 hH6 hBf hB7 hY6 x0 y0 y1 y2 y3 y4 y5 y6 HS1
    go_wp2_with fail
    go_loopw [8] (fun i wr => ∃ q : Nat, 1 ≤ q ∧ q ≤ 4 ∧ i = .int .u8 q ∧ Below w7.heap.size w7 wr ∧ Hid (∀ j, 1 ≤ j → j < q → j ≠ l → posOf j + 64 ≤ n → scN F j < 9)) (fun i _ => 4 - (intOf i).toNat)
    case atStart => exact ⟨1, by decide, by decide, rfl, Below.refl _ _, Lib.hid (fun j h1 h2 => by omega)⟩
    case round =>
      obtain ⟨q, hq1, hq4, rfl, hQ, hall⟩ := hrel
      have hX8 := hX7.below hQ hX7.lt
      have hH8 := hH7.below hQ hH7.lt
      have hBh := hBg.trans (hQ.mono hBg.size)
      by_cases hlt : q < 4
      · have hL1 := HLo.out q wr (by omega) hH8.row
        have hw8 : IntKind.u8.wrap ((q : Int) + 1) = (q + 1 : Nat) := by rw [show ∀ x : Int, IntKind.u8.wrap x = x % 256 from fun x => by simp [IntKind.wrap, IntKind.signed, IntKind.bits]]; omega
        clear hX7 hH7 hBg
        by_cases hp : posOf q + 64 ≤ n
        · obtain ⟨t', m', k', r', c', s', z', hcv, hsc', ht', hm', _, _⟩ := card_parts F q (fun i hi => hH8.byte _ (by omega))
          rw [show lookV q n F = .tuple #[cardA t' m' k' r' c' s' z', .int .i64 0] from by
            unfold lookV
            rw [if_neg (by omega), if_neg (by omega), hcv]] at hL1
          have HS2 := Lib.hid (fun W => score_any t' m' k' r' c' s' z' q W (by omega) ht' hm')
          rw [← hsc'] at HS2
          unfold cardA at hL1 HS2
          replace hp := Lib.hid hp
          clear hsc' hcv HLo ht' hm' HRD
          go_wp2_with fail
          refine hL1.mono ?_
          rintro e w9 ⟨rfl, hB9⟩
          have hX9 := hX8.below hB9 hX8.lt
          have hBi := hBh.trans (hB9.mono hBh.size)
          have hQ8 := hQ.trans (hB9.mono hQ.size)
          clear hX8 hH8 hBh hQ hB9 hL1
          go_upto_region 14 with (fail)
          have hXa := hX9.alloc (Obj.cells #[.string t', .int .u8 m', .int .u8 k', .int .u8 r', .int .u16 c', .int .u16 s', .int .u16 z'] 39)
          have hBj := hBi.alloc hBi.size (Obj.cells #[.string t', .int .u8 m', .int .u8 k', .int .u8 r', .int .u16 c', .int .u16 s', .int .u16 z'] 39)
          have hQ9 := hQ8.alloc hQ8.size (Obj.cells #[.string t', .int .u8 m', .int .u8 k', .int .u8 r', .int .u16 c', .int .u16 s', .int .u16 z'] 39)
          have hZ9 := Whole.fresh w9 39 #[.string t', .int .u8 m', .int .u8 k', .int .u8 r', .int .u16 c', .int .u16 s', .int .u16 z']
          generalize (w9.alloc (Obj.cells #[.string t', .int .u8 m', .int .u8 k', .int .u8 r', .int .u16 c', .int .u16 s', .int .u16 z'] 39)) = W9 at hXa hBj hQ9 hZ9 ⊢
          generalize w9.heap.size = Z at *
          clear hX9 hBi hQ8
          have x0 := hXa.cell 0
          simp only [List.getElem?_toArray, List.getElem?_cons_zero] at x0
          by_cases hql : q = l
          · have ne0 : ((q : Int) != (l : Int)) = false := by rw [bne_eq_false_iff_eq]; omega
            have hall2 : Hid (∀ j, 1 ≤ j → j < q + 1 → j ≠ l → posOf j + 64 ≤ n → scN F j < 9) := Lib.hid (fun j h1 h2 h3 h4 => hall.out j h1 (by omega) h3 h4)
            replace hql := Lib.hid hql
            clear HS2 hall
            go_wp2_with fail
            refine ⟨⟨q + 1, by omega, by omega, by congr 1, hQ9, hall2⟩, ?_⟩
            simp only [intOf]
            omega
          · have ne0 : ((q : Int) != (l : Int)) = true := by rw [bne_iff_ne]; omega
            obtain ⟨sc, hsc⟩ : ∃ x, scN F q = x := ⟨_, rfl⟩
            rw [hsc] at HS2
            have zz0 := hZ9.cell 0
            have zz1 := hZ9.cell 1
            have zz2 := hZ9.cell 2
            have zz3 := hZ9.cell 3
            have zz4 := hZ9.cell 4
            have zz5 := hZ9.cell 5
            have zz6 := hZ9.cell 6
            simp only [List.getElem?_toArray, List.getElem?_cons_zero, List.getElem?_cons_succ] at zz0 zz1 zz2 zz3 zz4 zz5 zz6
            go_wp2_with fail
            refine (HS2.out W9).mono ?_
            rintro e w10 ⟨rfl, hB10⟩
            have hQ10 := hQ9.trans (hB10.mono hQ9.size)
            have hBk := hBj.trans (hB10.mono hBj.size)
            by_cases h9 : 9 ≤ sc
            · have d9 : decide (9 ≤ sc) = true := decide_eq_true h9
              clear HS2 hall
              go_wp2_with fail
              go_ret
              exact ⟨rfl, hBk⟩
            · have d9 : decide (9 ≤ sc) = false := decide_eq_false h9
              have hall2 : Hid (∀ j, 1 ≤ j → j < q + 1 → j ≠ l → posOf j + 64 ≤ n → scN F j < 9) := Lib.hid (fun j h1 h2 h3 h4 => by
                rcases Nat.lt_or_ge j q with h5 | h5
                · exact hall.out j h1 h5 h3 h4
                · obtain rfl : j = q := by omega
                  rw [hsc]
                  omega)
              replace hql := Lib.hid hql
              clear HS2 hall h9
              go_wp2_with fail
              refine ⟨⟨q + 1, by omega, by omega, by congr 1, hQ10, hall2⟩, ?_⟩
              simp only [intOf]
              omega
        · rw [show lookV q n F = .tuple #[zeroCard, .int .i64 5] from by
            unfold lookV
            rw [if_neg (by omega), if_pos (by omega)]] at hL1
          unfold zeroCard at hL1
          have hall2 : Hid (∀ j, 1 ≤ j → j < q + 1 → j ≠ l → posOf j + 64 ≤ n → scN F j < 9) := Lib.hid (fun j h1 h2 h3 h4 => by
            rcases Nat.lt_or_ge j q with h5 | h5
            · exact hall.out j h1 h5 h3 h4
            · obtain rfl : j = q := by omega
              exact absurd h4 hp)
          clear hall hp HLo HRD
          go_wp2_with fail
          refine hL1.mono ?_
          rintro e w9 ⟨rfl, hB9⟩
          have hX9 := hX8.below hB9 hX8.lt
          have hBi := hBh.trans (hB9.mono hBh.size)
          have hQ8 := hQ.trans (hB9.mono hQ.size)
          clear hX8 hH8 hBh hQ hB9 hL1
          go_upto_region 14 with (fail)
          have hXa := hX9.alloc (Obj.cells #[.string ⟨#[]⟩, .int .u8 0, .int .u8 0, .int .u8 0, .int .u16 0, .int .u16 0, .int .u16 0] 39)
          have hBj := hBi.alloc hBi.size (Obj.cells #[.string ⟨#[]⟩, .int .u8 0, .int .u8 0, .int .u8 0, .int .u16 0, .int .u16 0, .int .u16 0] 39)
          have hQ9 := hQ8.alloc hQ8.size (Obj.cells #[.string ⟨#[]⟩, .int .u8 0, .int .u8 0, .int .u8 0, .int .u16 0, .int .u16 0, .int .u16 0] 39)
          have hZ9 := Whole.fresh w9 39 #[.string ⟨#[]⟩, .int .u8 0, .int .u8 0, .int .u8 0, .int .u16 0, .int .u16 0, .int .u16 0]
          generalize (w9.alloc (Obj.cells #[.string ⟨#[]⟩, .int .u8 0, .int .u8 0, .int .u8 0, .int .u16 0, .int .u16 0, .int .u16 0] 39)) = W9 at hXa hBj hQ9 hZ9 ⊢
          generalize w9.heap.size = Z at *
          clear hX9 hBi hQ8
          have x0 := hXa.cell 0
          simp only [List.getElem?_toArray, List.getElem?_cons_zero] at x0
          obtain ⟨nb, hnb⟩ : ∃ x : Bool, ((q : Int) != (l : Int)) = x := ⟨_, rfl⟩
          cases nb
          all_goals
            go_wp2_with fail
            refine ⟨⟨q + 1, by omega, by omega, by congr 1, hQ9, hall2⟩, ?_⟩
            simp only [intOf]
            omega
      · obtain rfl : q = 4 := by omega
        have hbest := best_only n F l 9 h13 hpos.out hn1.out hF9 (fun j a b => hall.out j a (by omega))
        clear hX7 hH7 hBg hQ HLo hall hlt hq1 hq4
        obtain ⟨hE0, hC0, hV0⟩ := HRD.out 8192 hbest
        have hE1 := (HRD.out 8191 hbest).1
        rw [if_neg (fun x => x.2 rfl)] at hE0
        clear HRD hbest hF9
        have hd := head0 (n := n) F hmod.out
        have hmk : ∀ W, (Instr.makeSlice 25 (.int .i64 8192) (.int .i64 8192)).run Tryd.prog W = .ok (.slice (some ⟨W.heap.size, 0, none⟩) 8192 8192) (W.alloc (Obj.cells (madeCells #[Value.int .u8 0] 8192) 5)) := fun W => run_make_row' (P := Tryd.prog) 25 5 (.int .u8 0) 1 Tryd.underlying25 (by kernel_rfl) rfl .i64 .i64 8192 (by decide) (by decide) W
        have hmk2 : ∀ W, (Instr.makeSlice 25 (.int .i64 512) (.int .i64 512)).run Tryd.prog W = .ok (.slice (some ⟨W.heap.size, 0, none⟩) 512 512) (W.alloc (Obj.cells (madeCells #[Value.int .u8 0] 512) 5)) := fun W => run_make_row' (P := Tryd.prog) 25 5 (.int .u8 0) 1 Tryd.underlying25 (by kernel_rfl) rfl .i64 .i64 512 (by decide) (by decide) W
        go_upto_region 17 with (fail)
        have hX9 := hX8.alloc (Obj.cells (madeCells #[Value.int .u8 0] 8192) 5)
        have hH9 := hH8.alloc (Obj.cells (madeCells #[Value.int .u8 0] 8192) 5)
        have hBi := hBh.alloc hBh.size (Obj.cells (madeCells #[Value.int .u8 0] 8192) 5)
        have hS9 := holds_of_made (Whole.fresh wr 5 (madeCells #[Value.int .u8 0] 8192))
        have hXS : X ≠ wr.heap.size := Nat.ne_of_lt hX8.lt
        have hwS : w.heap.size ≤ wr.heap.size := hBh.size
        generalize (wr.alloc (Obj.cells (madeCells #[Value.int .u8 0] 8192) 5)) = W9 at hX9 hH9 hBi hS9 ⊢
        generalize wr.heap.size = Sb at *
        clear hX8 hH8 hBh hmk
        have fr := hX9.free
        have x1 := hX9.cell 1
        have x2 := hX9.cell 2
        have x7 := hX9.cell 7
        simp only [List.getElem?_toArray, List.getElem?_cons_zero, List.getElem?_cons_succ] at x1 x2 x7
        have hBX : B ≠ X := Ne.symm hXB
        have hSX : Sb ≠ X := Ne.symm hXS
        by_cases hc1 : c = 1
        · obtain rfl : c = 1 := hc1
          rw [if_pos ⟨rfl, by decide⟩] at hE1
          have HR1 := Lib.hid (fun nn b cc sc f' W hnn hf hle hcc hr hrs => readBack_any F n l 1 ram t z fast hE0 hC0 hV0 nn b cc Sb sc f' W hnn hf hle hcc hr hrs)
          simp only at HR1
          unfold cartA at HR1
          go_upto_region 21 with (fail)
          have hXa : Whole _ X 29 #[.int .u8 l, .int .u8 1, (.slice (some ⟨B, 0, none⟩) n capB), .int .i64 ram, .string t, .int .u16 z, .bool fast, (.slice (some ⟨Sb, 0, none⟩) 8192 8192)] := (((hX9.put 7 (.slice none 0 0)).put 7 (.slice (some ⟨Sb, 0, none⟩) 8192 8192)).put 2 (.slice (some ⟨B, 0, none⟩) n capB))
          have hHa := (((hH9.away (p := ⟨X, 7, none⟩) hBX (.slice none 0 0)).away (p := ⟨X, 7, none⟩) hBX (.slice (some ⟨Sb, 0, none⟩) 8192 8192)).away (p := ⟨X, 2, none⟩) hBX (.slice (some ⟨B, 0, none⟩) n capB))
          have hSa := (((hS9.away (p := ⟨X, 7, none⟩) hSX (.slice none 0 0)).away (p := ⟨X, 7, none⟩) hSX (.slice (some ⟨Sb, 0, none⟩) 8192 8192)).away (p := ⟨X, 2, none⟩) hSX (.slice (some ⟨B, 0, none⟩) n capB))
          have hBj := (((hBi.setCell (p := ⟨X, 7, none⟩) hXw (.slice none 0 0)).setCell (p := ⟨X, 7, none⟩) hXw (.slice (some ⟨Sb, 0, none⟩) 8192 8192)).setCell (p := ⟨X, 2, none⟩) hXw (.slice (some ⟨B, 0, none⟩) n capB))
          generalize (((W9.setCell ⟨X, 7, none⟩ (.slice none 0 0)).setCell ⟨X, 7, none⟩ (.slice (some ⟨Sb, 0, none⟩) 8192 8192)).setCell ⟨X, 2, none⟩ (.slice (some ⟨B, 0, none⟩) n capB)) = Wa at hXa hHa hSa hBj ⊢
          clear hX9 hH9 hS9 hBi fr x1 x2 x7
          go_wp2_with fail
          refine (HR1.out n B capB 8192 F Wa hd.1 hd.2 hsmall.out hcapB.out hHa.row hSa.row).mono ?_
          rintro e wb ⟨G1, cap1, sa, da, rfl, hB1, hr1⟩
          replace hr1 := Lib.hid hr1
          have hXb := hXa.below hB1 hXa.lt
          have hHb := hHa.below hB1 hHa.lt
          have hSb := hSa.below hB1 hSa.lt
          have hBk := hBj.trans (hB1.mono hBj.size)
          clear hXa hHa hSa hBj hB1
          go_upto_region 22 with (fail)
          have hXc := hXb.alloc (Obj.cells #[.int .u8 l, .int .u8 1, .slice (some ⟨G1, 0, none⟩) n cap1, .int .i64 ram, .string t, .int .u16 z, .bool fast, .slice sa 8192 da] 29)
          have hHc := hHb.alloc (Obj.cells #[.int .u8 l, .int .u8 1, .slice (some ⟨G1, 0, none⟩) n cap1, .int .i64 ram, .string t, .int .u16 z, .bool fast, .slice sa 8192 da] 29)
          have hSc := hSb.alloc (Obj.cells #[.int .u8 l, .int .u8 1, .slice (some ⟨G1, 0, none⟩) n cap1, .int .i64 ram, .string t, .int .u16 z, .bool fast, .slice sa 8192 da] 29)
          have hBl := hBk.alloc hBk.size (Obj.cells #[.int .u8 l, .int .u8 1, .slice (some ⟨G1, 0, none⟩) n cap1, .int .i64 ram, .string t, .int .u16 z, .bool fast, .slice sa 8192 da] 29)
          have hTc := Whole.fresh wb 29 #[.int .u8 l, .int .u8 1, .slice (some ⟨G1, 0, none⟩) n cap1, .int .i64 ram, .string t, .int .u16 z, .bool fast, .slice sa 8192 da]
          have hwT := hBk.size
          have hXT : X ≠ wb.heap.size := Nat.ne_of_lt hXb.lt
          have hBT : B ≠ wb.heap.size := Nat.ne_of_lt hHb.lt
          have hST : Sb ≠ wb.heap.size := Nat.ne_of_lt hSb.lt
          have hr1c := Lib.hid (hr1.out _ (Kept.of_below ((Below.refl wb.heap.size wb).alloc (Nat.le_refl _) (Obj.cells #[.int .u8 l, .int .u8 1, .slice (some ⟨G1, 0, none⟩) n cap1, .int .i64 ram, .string t, .int .u16 z, .bool fast, .slice sa 8192 da] 29)) (Nat.le_refl _)))
          generalize (wb.alloc (Obj.cells #[.int .u8 l, .int .u8 1, .slice (some ⟨G1, 0, none⟩) n cap1, .int .i64 ram, .string t, .int .u16 z, .bool fast, .slice sa 8192 da] 29)) = Wc at hXc hHc hSc hBl hTc hr1c ⊢
          generalize wb.heap.size = T at *
          clear hXb hHb hSb hBk hr1
          have u0 := hXc.cell 0
          have u1 := hXc.cell 1
          have u2 := hXc.cell 2
          have u3 := hXc.cell 3
          have u4 := hXc.cell 4
          have u5 := hXc.cell 5
          have u6 := hXc.cell 6
          have u7 := hXc.cell 7
          simp only [List.getElem?_toArray, List.getElem?_cons_zero, List.getElem?_cons_succ] at u0 u1 u2 u3 u4 u5 u6 u7
          have v0 := hTc.cell 0
          have v1 := hTc.cell 1
          have v2 := hTc.cell 2
          have v3 := hTc.cell 3
          have v4 := hTc.cell 4
          have v5 := hTc.cell 5
          have v6 := hTc.cell 6
          have v7 := hTc.cell 7
          simp only [List.getElem?_toArray, List.getElem?_cons_zero, List.getElem?_cons_succ] at v0 v1 v2 v3 v4 v5 v6 v7
          have HM1 := Lib.hid (csame_any l 1 ram t z fast (some ⟨G1, 0, none⟩) (some ⟨B, 0, none⟩) sa (some ⟨Sb, 0, none⟩) n cap1 capB 8192 da 8192 F (fun _ => 0) Wc (by have := hsmall.out; omega) (by decide) hr1c.out.1 hHc.row hr1c.out.2 (hSc.row))
          unfold cartA at HM1
          go_wp2_with fail
          refine HM1.out.mono ?_
          rintro e wd ⟨rfl, hBd1⟩
          have hXd := hXc.below hBd1 hXc.lt
          have hHd := hHc.below hBd1 hHc.lt
          have hSd := hSc.below hBd1 hSc.lt
          have hTd := hTc.below hBd1 hTc.lt
          have hBm := hBl.trans (hBd1.mono hBl.size)
          clear hXc hHc hSc hTc hBl hBd1 hr1c HM1 u0 u1 u2 u3 u4 u5 u6 u7 v0 v1 v2 v3 v4 v5 v6 v7
          have u1 := hXd.cell 1
          simp only [List.getElem?_toArray, List.getElem?_cons_zero, List.getElem?_cons_succ] at u1
          have HR34 := Lib.hid (readBad34_any F n B capB Sb 8191 wd hmod.out hE1 hsmall.out hcapB.out hHd.row)
          unfold zeroCart at HR34
          go_wp2_with fail
          refine HR34.out.mono ?_
          rintro e we ⟨rfl, hB5⟩
          have hXe := hXd.below hB5 hXd.lt
          have hHe := hHd.below hB5 hHd.lt
          have hSe := hSd.below hB5 hSd.lt
          have hTe := hTd.below hB5 hTd.lt
          have hBn := hBm.trans (hB5.mono hBm.size)
          clear hXd hHd hSd hTd hBm hB5 HR34 u1
          go_upto_region 29 with (fail)
          have hXf := hXe.alloc (Obj.cells (madeCells #[Value.int .u8 0] 512) 5)
          have hHf := hHe.alloc (Obj.cells (madeCells #[Value.int .u8 0] 512) 5)
          have hSf := hSe.alloc (Obj.cells (madeCells #[Value.int .u8 0] 512) 5)
          have hTf := hTe.alloc (Obj.cells (madeCells #[Value.int .u8 0] 512) 5)
          have hBo := hBn.alloc hBn.size (Obj.cells (madeCells #[Value.int .u8 0] 512) 5)
          have hDf := Whole.fresh we 5 (madeCells #[Value.int .u8 0] 512)
          have nXD : X ≠ we.heap.size := Nat.ne_of_lt hXe.lt
          have nBD : B ≠ we.heap.size := Nat.ne_of_lt hHe.lt
          have nSD : Sb ≠ we.heap.size := Nat.ne_of_lt hSe.lt
          have nTD : T ≠ we.heap.size := Nat.ne_of_lt hTe.lt
          have hwD : w.heap.size ≤ we.heap.size := hBn.size
          generalize (we.alloc (Obj.cells (madeCells #[Value.int .u8 0] 512) 5)) = Wf at hXf hHf hSf hTf hBo hDf ⊢
          generalize we.heap.size = D at *
          clear hXe hHe hSe hTe hBn hmk2
          obtain ⟨H, capH, Wg, hap, hrH, hgr, hcapH⟩ := headed_any D B n capB F Wf hDf hHf (by have := hn1.out; omega) hsmall.out
          obtain ⟨nH, hnH⟩ : ∃ x, 512 + n = x := ⟨_, rfl⟩
          rw [hnH] at hap hrH hcapH
          have hXg := hXf.only hgr nXD
          have hHg := hHf.only hgr nBD
          have hSg := hSf.only hgr nSD
          have hTg := hTf.only hgr nTD
          have hBp := hBo.trans (onlyBelow hgr hwD hBo.size)
          have hhd : nH - headN nH = n ∧ at2 (fun j => if j < 512 then 0 else F (j - 512)) (headN nH) = F := by
            have e : headN nH = 512 := by
              unfold headN
              rw [if_pos (by have := hmod.out; omega)]
            rw [e]
            refine ⟨by omega, ?_⟩
            funext i
            show (if 512 + i < 512 then 0 else F (512 + i - 512)) = F i
            rw [if_neg (by omega), Nat.add_sub_cancel_left]
          have hnH2 : nH ≤ 8392704 := by have := hn2.out; omega
          replace hnH2 := Lib.hid hnH2
          replace hnH := Lib.hid hnH
          replace hcapH := Lib.hid hcapH
          clear hXf hHf hSf hTf hBo hDf hgr
          go_wp2_with (at_builtin; refine wpList_append_ran rfl _ _ 25 rfl _ _ _ Wg rfl rfl hap ?_)
          refine (HR1.out nH H capH 8192 _ Wg hhd.1 hhd.2 hnH2.out hcapH.out hrH hSg.row).mono ?_
          rintro e wh ⟨G1, cap1, sa, da, rfl, hB1, hr1⟩
          replace hr1 := Lib.hid hr1
          have hXh := hXg.below hB1 hXg.lt
          have hHh := hHg.below hB1 hHg.lt
          have hSh := hSg.below hB1 hSg.lt
          have hTh := hTg.below hB1 hTg.lt
          have hTg2 := hTg.lt
          have hBq := hBp.trans (hB1.mono hBp.size)
          clear hXg hHg hSg hTg hBp hB1 hap hrH HR1 hhd
          have frT := hTh.free
          have v0 := hTh.cell 0
          have v1 := hTh.cell 1
          have v2 := hTh.cell 2
          have v3 := hTh.cell 3
          have v4 := hTh.cell 4
          have v5 := hTh.cell 5
          have v6 := hTh.cell 6
          have v7 := hTh.cell 7
          simp only [List.getElem?_toArray, List.getElem?_cons_zero, List.getElem?_cons_succ] at v0 v1 v2 v3 v4 v5 v6 v7
          go_upto_region 30 with (fail)
          have honly : wh.grownBy ((((((((wh.setCell ⟨T, 0, none⟩ (.int .u8 l)).setCell ⟨T, 1, none⟩ (.int .u8 1)).setCell ⟨T, 2, none⟩ (.slice (some ⟨G1, 0, none⟩) n cap1)).setCell ⟨T, 3, none⟩ (.int .i64 ram)).setCell ⟨T, 4, none⟩ (.string t)).setCell ⟨T, 5, none⟩ (.int .u16 z)).setCell ⟨T, 6, none⟩ (.bool fast)).setCell ⟨T, 7, none⟩ (.slice sa 8192 da)) (some T) := (only_set (only_set (only_set (only_set (only_set (only_set (only_set (only_set (Below.only (Below.refl _ wh) T) 0 (.int .u8 l)) 1 (.int .u8 1)) 2 (.slice (some ⟨G1, 0, none⟩) n cap1)) 3 (.int .i64 ram)) 4 (.string t)) 5 (.int .u16 z)) 6 (.bool fast)) 7 (.slice sa 8192 da))
          have hTi : Whole ((((((((wh.setCell ⟨T, 0, none⟩ (.int .u8 l)).setCell ⟨T, 1, none⟩ (.int .u8 1)).setCell ⟨T, 2, none⟩ (.slice (some ⟨G1, 0, none⟩) n cap1)).setCell ⟨T, 3, none⟩ (.int .i64 ram)).setCell ⟨T, 4, none⟩ (.string t)).setCell ⟨T, 5, none⟩ (.int .u16 z)).setCell ⟨T, 6, none⟩ (.bool fast)).setCell ⟨T, 7, none⟩ (.slice sa 8192 da)) T 29 #[.int .u8 l, .int .u8 1, .slice (some ⟨G1, 0, none⟩) n cap1, .int .i64 ram, .string t, .int .u16 z, .bool fast, .slice sa 8192 da] := ((((((((hTh.put 0 (.int .u8 l)).put 1 (.int .u8 1)).put 2 (.slice (some ⟨G1, 0, none⟩) n cap1)).put 3 (.int .i64 ram)).put 4 (.string t)).put 5 (.int .u16 z)).put 6 (.bool fast)).put 7 (.slice sa 8192 da))
          have hXi := hXh.only honly hXT
          have hHi := hHh.only honly hBT
          have hSi := hSh.only honly hST
          have hBr := hBq.trans (onlyBelow honly hwT hBq.size)
          have hr1i := Lib.hid (hr1.out _ (Kept.of_only honly hTg2))
          generalize ((((((((wh.setCell ⟨T, 0, none⟩ (.int .u8 l)).setCell ⟨T, 1, none⟩ (.int .u8 1)).setCell ⟨T, 2, none⟩ (.slice (some ⟨G1, 0, none⟩) n cap1)).setCell ⟨T, 3, none⟩ (.int .i64 ram)).setCell ⟨T, 4, none⟩ (.string t)).setCell ⟨T, 5, none⟩ (.int .u16 z)).setCell ⟨T, 6, none⟩ (.bool fast)).setCell ⟨T, 7, none⟩ (.slice sa 8192 da)) = Wi at honly hTi hXi hHi hSi hBr hr1i ⊢
          clear hXh hHh hSh hTh hBq honly hr1 frT v0 v1 v2 v3 v4 v5 v6 v7
          have u0 := hXi.cell 0
          have u1 := hXi.cell 1
          have u2 := hXi.cell 2
          have u3 := hXi.cell 3
          have u4 := hXi.cell 4
          have u5 := hXi.cell 5
          have u6 := hXi.cell 6
          have u7 := hXi.cell 7
          simp only [List.getElem?_toArray, List.getElem?_cons_zero, List.getElem?_cons_succ] at u0 u1 u2 u3 u4 u5 u6 u7
          have v0 := hTi.cell 0
          have v1 := hTi.cell 1
          have v2 := hTi.cell 2
          have v3 := hTi.cell 3
          have v4 := hTi.cell 4
          have v5 := hTi.cell 5
          have v6 := hTi.cell 6
          have v7 := hTi.cell 7
          simp only [List.getElem?_toArray, List.getElem?_cons_zero, List.getElem?_cons_succ] at v0 v1 v2 v3 v4 v5 v6 v7
          have HM2 := Lib.hid (csame_any l 1 ram t z fast (some ⟨G1, 0, none⟩) (some ⟨B, 0, none⟩) sa (some ⟨Sb, 0, none⟩) n cap1 capB 8192 da 8192 F (fun _ => 0) Wi (by have := hsmall.out; omega) (by decide) hr1i.out.1 hHi.row hr1i.out.2 (hSi.row))
          unfold cartA at HM2
          go_wp2_with fail
          refine HM2.out.mono ?_
          rintro e wj ⟨rfl, hBd2⟩
          go_wp2_with fail
          go_ret
          exact ⟨rfl, hBr.trans (hBd2.mono hBr.size)⟩
        · have cne : ((c : Int) == 1) = false := beq_eq_false_iff_ne.2 (by omega)
          have hc1' := Lib.hid hc1
          clear hE1
          have HR1 := Lib.hid (fun nn b cc sc f' W hnn hf hle hcc hr hrs => readBack_any F n l c ram t z fast hE0 hC0 hV0 nn b cc Sb sc f' W hnn hf hle hcc hr hrs)
          simp only [if_neg hc1] at HR1
          unfold cartA at HR1
          clear hc1
          go_upto_region 21 with (fail)
          have hXa : Whole _ X 29 #[.int .u8 l, .int .u8 c, (.slice (some ⟨B, 0, none⟩) n capB), .int .i64 ram, .string t, .int .u16 z, .bool fast, (.slice none 0 0)] := ((hX9.put 7 (.slice none 0 0)).put 2 (.slice (some ⟨B, 0, none⟩) n capB))
          have hHa := ((hH9.away (p := ⟨X, 7, none⟩) hBX (.slice none 0 0)).away (p := ⟨X, 2, none⟩) hBX (.slice (some ⟨B, 0, none⟩) n capB))
          have hSa := ((hS9.away (p := ⟨X, 7, none⟩) hSX (.slice none 0 0)).away (p := ⟨X, 2, none⟩) hSX (.slice (some ⟨B, 0, none⟩) n capB))
          have hBj := ((hBi.setCell (p := ⟨X, 7, none⟩) hXw (.slice none 0 0)).setCell (p := ⟨X, 2, none⟩) hXw (.slice (some ⟨B, 0, none⟩) n capB))
          generalize ((W9.setCell ⟨X, 7, none⟩ (.slice none 0 0)).setCell ⟨X, 2, none⟩ (.slice (some ⟨B, 0, none⟩) n capB)) = Wa at hXa hHa hSa hBj ⊢
          clear hX9 hH9 hS9 hBi fr x1 x2 x7
          go_wp2_with fail
          refine (HR1.out n B capB 8192 F Wa hd.1 hd.2 hsmall.out hcapB.out hHa.row hSa.row).mono ?_
          rintro e wb ⟨G1, cap1, sa, da, rfl, hB1, hr1⟩
          replace hr1 := Lib.hid hr1
          have hXb := hXa.below hB1 hXa.lt
          have hHb := hHa.below hB1 hHa.lt
          have hSb := hSa.below hB1 hSa.lt
          have hBk := hBj.trans (hB1.mono hBj.size)
          clear hXa hHa hSa hBj hB1
          go_upto_region 22 with (fail)
          have hXc := hXb.alloc (Obj.cells #[.int .u8 l, .int .u8 c, .slice (some ⟨G1, 0, none⟩) n cap1, .int .i64 ram, .string t, .int .u16 z, .bool fast, .slice sa 0 da] 29)
          have hHc := hHb.alloc (Obj.cells #[.int .u8 l, .int .u8 c, .slice (some ⟨G1, 0, none⟩) n cap1, .int .i64 ram, .string t, .int .u16 z, .bool fast, .slice sa 0 da] 29)
          have hSc := hSb.alloc (Obj.cells #[.int .u8 l, .int .u8 c, .slice (some ⟨G1, 0, none⟩) n cap1, .int .i64 ram, .string t, .int .u16 z, .bool fast, .slice sa 0 da] 29)
          have hBl := hBk.alloc hBk.size (Obj.cells #[.int .u8 l, .int .u8 c, .slice (some ⟨G1, 0, none⟩) n cap1, .int .i64 ram, .string t, .int .u16 z, .bool fast, .slice sa 0 da] 29)
          have hTc := Whole.fresh wb 29 #[.int .u8 l, .int .u8 c, .slice (some ⟨G1, 0, none⟩) n cap1, .int .i64 ram, .string t, .int .u16 z, .bool fast, .slice sa 0 da]
          have hwT := hBk.size
          have hXT : X ≠ wb.heap.size := Nat.ne_of_lt hXb.lt
          have hBT : B ≠ wb.heap.size := Nat.ne_of_lt hHb.lt
          have hST : Sb ≠ wb.heap.size := Nat.ne_of_lt hSb.lt
          have hr1c := Lib.hid (hr1.out _ (Kept.of_below ((Below.refl wb.heap.size wb).alloc (Nat.le_refl _) (Obj.cells #[.int .u8 l, .int .u8 c, .slice (some ⟨G1, 0, none⟩) n cap1, .int .i64 ram, .string t, .int .u16 z, .bool fast, .slice sa 0 da] 29)) (Nat.le_refl _)))
          generalize (wb.alloc (Obj.cells #[.int .u8 l, .int .u8 c, .slice (some ⟨G1, 0, none⟩) n cap1, .int .i64 ram, .string t, .int .u16 z, .bool fast, .slice sa 0 da] 29)) = Wc at hXc hHc hSc hBl hTc hr1c ⊢
          generalize wb.heap.size = T at *
          clear hXb hHb hSb hBk hr1
          have u0 := hXc.cell 0
          have u1 := hXc.cell 1
          have u2 := hXc.cell 2
          have u3 := hXc.cell 3
          have u4 := hXc.cell 4
          have u5 := hXc.cell 5
          have u6 := hXc.cell 6
          have u7 := hXc.cell 7
          simp only [List.getElem?_toArray, List.getElem?_cons_zero, List.getElem?_cons_succ] at u0 u1 u2 u3 u4 u5 u6 u7
          have v0 := hTc.cell 0
          have v1 := hTc.cell 1
          have v2 := hTc.cell 2
          have v3 := hTc.cell 3
          have v4 := hTc.cell 4
          have v5 := hTc.cell 5
          have v6 := hTc.cell 6
          have v7 := hTc.cell 7
          simp only [List.getElem?_toArray, List.getElem?_cons_zero, List.getElem?_cons_succ] at v0 v1 v2 v3 v4 v5 v6 v7
          have HM1 := Lib.hid (csame_any l c ram t z fast (some ⟨G1, 0, none⟩) (some ⟨B, 0, none⟩) sa none n cap1 capB 0 da 0 F (fun _ => 0) Wc (by have := hsmall.out; omega) (by decide) hr1c.out.1 hHc.row hr1c.out.2 (Row.nil _ _ _))
          unfold cartA at HM1
          go_wp2_with fail
          refine HM1.out.mono ?_
          rintro e wd ⟨rfl, hBd1⟩
          have hXd := hXc.below hBd1 hXc.lt
          have hHd := hHc.below hBd1 hHc.lt
          have hSd := hSc.below hBd1 hSc.lt
          have hTd := hTc.below hBd1 hTc.lt
          have hBm := hBl.trans (hBd1.mono hBl.size)
          clear hXc hHc hSc hTc hBl hBd1 hr1c HM1 u0 u1 u2 u3 u4 u5 u6 u7 v0 v1 v2 v3 v4 v5 v6 v7
          have u1 := hXd.cell 1
          simp only [List.getElem?_toArray, List.getElem?_cons_zero, List.getElem?_cons_succ] at u1
          have hXe := hXd
          have hHe := hHd
          have hSe := hSd
          have hTe := hTd
          have hBn := hBm
          obtain ⟨we, hwe⟩ : ∃ we, we = wd := ⟨_, rfl⟩
          rw [← hwe] at hXe hHe hSe hTe hBn u1 ⊢
          clear hXd hHd hSd hTd hBm hwe
          go_upto_region 29 with (fail)
          have hXf := hXe.alloc (Obj.cells (madeCells #[Value.int .u8 0] 512) 5)
          have hHf := hHe.alloc (Obj.cells (madeCells #[Value.int .u8 0] 512) 5)
          have hSf := hSe.alloc (Obj.cells (madeCells #[Value.int .u8 0] 512) 5)
          have hTf := hTe.alloc (Obj.cells (madeCells #[Value.int .u8 0] 512) 5)
          have hBo := hBn.alloc hBn.size (Obj.cells (madeCells #[Value.int .u8 0] 512) 5)
          have hDf := Whole.fresh we 5 (madeCells #[Value.int .u8 0] 512)
          have nXD : X ≠ we.heap.size := Nat.ne_of_lt hXe.lt
          have nBD : B ≠ we.heap.size := Nat.ne_of_lt hHe.lt
          have nSD : Sb ≠ we.heap.size := Nat.ne_of_lt hSe.lt
          have nTD : T ≠ we.heap.size := Nat.ne_of_lt hTe.lt
          have hwD : w.heap.size ≤ we.heap.size := hBn.size
          generalize (we.alloc (Obj.cells (madeCells #[Value.int .u8 0] 512) 5)) = Wf at hXf hHf hSf hTf hBo hDf ⊢
          generalize we.heap.size = D at *
          clear hXe hHe hSe hTe hBn hmk2
          obtain ⟨H, capH, Wg, hap, hrH, hgr, hcapH⟩ := headed_any D B n capB F Wf hDf hHf (by have := hn1.out; omega) hsmall.out
          obtain ⟨nH, hnH⟩ : ∃ x, 512 + n = x := ⟨_, rfl⟩
          rw [hnH] at hap hrH hcapH
          have hXg := hXf.only hgr nXD
          have hHg := hHf.only hgr nBD
          have hSg := hSf.only hgr nSD
          have hTg := hTf.only hgr nTD
          have hBp := hBo.trans (onlyBelow hgr hwD hBo.size)
          have hhd : nH - headN nH = n ∧ at2 (fun j => if j < 512 then 0 else F (j - 512)) (headN nH) = F := by
            have e : headN nH = 512 := by
              unfold headN
              rw [if_pos (by have := hmod.out; omega)]
            rw [e]
            refine ⟨by omega, ?_⟩
            funext i
            show (if 512 + i < 512 then 0 else F (512 + i - 512)) = F i
            rw [if_neg (by omega), Nat.add_sub_cancel_left]
          have hnH2 : nH ≤ 8392704 := by have := hn2.out; omega
          replace hnH2 := Lib.hid hnH2
          replace hnH := Lib.hid hnH
          replace hcapH := Lib.hid hcapH
          clear hXf hHf hSf hTf hBo hDf hgr
          go_wp2_with (at_builtin; refine wpList_append_ran rfl _ _ 25 rfl _ _ _ Wg rfl rfl hap ?_)
          refine (HR1.out nH H capH 8192 _ Wg hhd.1 hhd.2 hnH2.out hcapH.out hrH hSg.row).mono ?_
          rintro e wh ⟨G1, cap1, sa, da, rfl, hB1, hr1⟩
          replace hr1 := Lib.hid hr1
          have hXh := hXg.below hB1 hXg.lt
          have hHh := hHg.below hB1 hHg.lt
          have hSh := hSg.below hB1 hSg.lt
          have hTh := hTg.below hB1 hTg.lt
          have hTg2 := hTg.lt
          have hBq := hBp.trans (hB1.mono hBp.size)
          clear hXg hHg hSg hTg hBp hB1 hap hrH HR1 hhd
          have frT := hTh.free
          have v0 := hTh.cell 0
          have v1 := hTh.cell 1
          have v2 := hTh.cell 2
          have v3 := hTh.cell 3
          have v4 := hTh.cell 4
          have v5 := hTh.cell 5
          have v6 := hTh.cell 6
          have v7 := hTh.cell 7
          simp only [List.getElem?_toArray, List.getElem?_cons_zero, List.getElem?_cons_succ] at v0 v1 v2 v3 v4 v5 v6 v7
          go_upto_region 30 with (fail)
          have honly : wh.grownBy ((((((((wh.setCell ⟨T, 0, none⟩ (.int .u8 l)).setCell ⟨T, 1, none⟩ (.int .u8 c)).setCell ⟨T, 2, none⟩ (.slice (some ⟨G1, 0, none⟩) n cap1)).setCell ⟨T, 3, none⟩ (.int .i64 ram)).setCell ⟨T, 4, none⟩ (.string t)).setCell ⟨T, 5, none⟩ (.int .u16 z)).setCell ⟨T, 6, none⟩ (.bool fast)).setCell ⟨T, 7, none⟩ (.slice sa 0 da)) (some T) := (only_set (only_set (only_set (only_set (only_set (only_set (only_set (only_set (Below.only (Below.refl _ wh) T) 0 (.int .u8 l)) 1 (.int .u8 c)) 2 (.slice (some ⟨G1, 0, none⟩) n cap1)) 3 (.int .i64 ram)) 4 (.string t)) 5 (.int .u16 z)) 6 (.bool fast)) 7 (.slice sa 0 da))
          have hTi : Whole ((((((((wh.setCell ⟨T, 0, none⟩ (.int .u8 l)).setCell ⟨T, 1, none⟩ (.int .u8 c)).setCell ⟨T, 2, none⟩ (.slice (some ⟨G1, 0, none⟩) n cap1)).setCell ⟨T, 3, none⟩ (.int .i64 ram)).setCell ⟨T, 4, none⟩ (.string t)).setCell ⟨T, 5, none⟩ (.int .u16 z)).setCell ⟨T, 6, none⟩ (.bool fast)).setCell ⟨T, 7, none⟩ (.slice sa 0 da)) T 29 #[.int .u8 l, .int .u8 c, .slice (some ⟨G1, 0, none⟩) n cap1, .int .i64 ram, .string t, .int .u16 z, .bool fast, .slice sa 0 da] := ((((((((hTh.put 0 (.int .u8 l)).put 1 (.int .u8 c)).put 2 (.slice (some ⟨G1, 0, none⟩) n cap1)).put 3 (.int .i64 ram)).put 4 (.string t)).put 5 (.int .u16 z)).put 6 (.bool fast)).put 7 (.slice sa 0 da))
          have hXi := hXh.only honly hXT
          have hHi := hHh.only honly hBT
          have hSi := hSh.only honly hST
          have hBr := hBq.trans (onlyBelow honly hwT hBq.size)
          have hr1i := Lib.hid (hr1.out _ (Kept.of_only honly hTg2))
          generalize ((((((((wh.setCell ⟨T, 0, none⟩ (.int .u8 l)).setCell ⟨T, 1, none⟩ (.int .u8 c)).setCell ⟨T, 2, none⟩ (.slice (some ⟨G1, 0, none⟩) n cap1)).setCell ⟨T, 3, none⟩ (.int .i64 ram)).setCell ⟨T, 4, none⟩ (.string t)).setCell ⟨T, 5, none⟩ (.int .u16 z)).setCell ⟨T, 6, none⟩ (.bool fast)).setCell ⟨T, 7, none⟩ (.slice sa 0 da)) = Wi at honly hTi hXi hHi hSi hBr hr1i ⊢
          clear hXh hHh hSh hTh hBq honly hr1 frT v0 v1 v2 v3 v4 v5 v6 v7
          have u0 := hXi.cell 0
          have u1 := hXi.cell 1
          have u2 := hXi.cell 2
          have u3 := hXi.cell 3
          have u4 := hXi.cell 4
          have u5 := hXi.cell 5
          have u6 := hXi.cell 6
          have u7 := hXi.cell 7
          simp only [List.getElem?_toArray, List.getElem?_cons_zero, List.getElem?_cons_succ] at u0 u1 u2 u3 u4 u5 u6 u7
          have v0 := hTi.cell 0
          have v1 := hTi.cell 1
          have v2 := hTi.cell 2
          have v3 := hTi.cell 3
          have v4 := hTi.cell 4
          have v5 := hTi.cell 5
          have v6 := hTi.cell 6
          have v7 := hTi.cell 7
          simp only [List.getElem?_toArray, List.getElem?_cons_zero, List.getElem?_cons_succ] at v0 v1 v2 v3 v4 v5 v6 v7
          have HM2 := Lib.hid (csame_any l c ram t z fast (some ⟨G1, 0, none⟩) (some ⟨B, 0, none⟩) sa none n cap1 capB 0 da 0 F (fun _ => 0) Wi (by have := hsmall.out; omega) (by decide) hr1i.out.1 hHi.row hr1i.out.2 (Row.nil _ _ _))
          unfold cartA at HM2
          go_wp2_with fail
          refine HM2.out.mono ?_
          rintro e wj ⟨rfl, hBd2⟩
          go_wp2_with fail
          go_ret
          exact ⟨rfl, hBr.trans (hBd2.mono hBr.size)⟩
  · have hno : mayB l c n ram t z = false := by simpa using hok
    have HM := Lib.hid (makeNo_any l c n n (some ⟨G, 0, none⟩) ram t z fast S W3 hl.out hc.out ht.out hno)
    unfold cartC at HM
    clear hok hno
    go_wp2_with fail
    refine HM.out.mono ?_
    rintro e w4 ⟨rfl, hB4⟩
    have hBd := hBc.trans (hB4.mono hBc.size)
    go_wp2_with fail
    go_ret
    exact ⟨rfl, hBd⟩
end cartBack
end Go.Proofs.YtggjaoihfhianaaDoor
