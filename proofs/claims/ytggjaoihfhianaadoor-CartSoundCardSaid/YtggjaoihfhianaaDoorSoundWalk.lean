/-
  CartSound: the walk.
-/
import Derived.Test.YtggjaoihfhianaaDoorReadAll
import Derived.Deep.DeepCutAuto
import Derived.Deep.CutBlock
import Derived.Lib.QuietBelow
import Derived.BigQuiet
namespace Go.Proofs.YtggjaoihfhianaaDoor
open Go.RowKit Go.Shelf Go.Sort
set_option maxRecDepth 100000
set_option maxHeartbeats 4000000

namespace cartSound
theorem walkN (size sg : Int) (kb : Nat) (a : Option Addr) (len cap : Nat) (ps : Nat → Patch1) (w : World) (hs0 : -9223372036854775808 ≤ size) (hs1 : size ≤ 9223372036854775807) (hkb : kb < 256) (h : Patches w a len ps) :
    Calls Tryd.prog 6 #[.agg #[.int .i64 size, .int .u8 kb, .slice a len cap], .int .i64 sg] w fun e w' => e = .returned (.bool true) ∧ Below w.heap.size w w' := by
  have HI := Lib.hid (fun W (hW : Patches W a len ps) => img_any size kb a len cap ps W hs0 hs1 hkb hW)
  have hn := imgN_le size
  generalize imgN size = n at *
  generalize img kb ps len = f at *
  replace hn := Lib.hid hn
  go_enter Tryd.func6, Tryd.ntmps6
  go_wp2_with fail
  have hB0 : Below w.heap.size w (w.alloc (Obj.cells #[.int .i64 size, .int .u8 kb, .slice a len cap] 24)) := (Below.refl _ w).alloc (Nat.le_refl _) _
  have hP := h.below hB0
  generalize (w.alloc (Obj.cells #[.int .i64 size, .int .u8 kb, .slice a len cap] 24)) = W0 at hB0 hP ⊢
  refine (HI.out W0 hP).mono ?_
  rintro e w1 ⟨G, rfl, hG, hGe, hB1⟩
  have hBa := hB0.trans (hB1.mono hB0.size)
  clear hB0 hP hB1 h HI hGe hs0 hs1 hkb
  obtain ⟨big, hbig⟩ : ∃ big : Bool, decide (sg < 0) = true ∧ big = true ∨ decide (sg < 0) = false ∧ decide (9000 < sg) = big := by
    by_cases h0 : sg < 0
    · exact ⟨true, .inl ⟨decide_eq_true h0, rfl⟩⟩
    · exact ⟨_, .inr ⟨decide_eq_false h0, rfl⟩⟩
  go_upto_region 2 with (fail)
  go_cut [20] (fun s20 wx => wx = w1 ∧ s20 = .bool big)
  case first =>
    rcases hbig with ⟨d0, rfl⟩ | ⟨d0, d1⟩
    · go_wp2_with fail
      go_meet
      exact ⟨rfl, rfl⟩
    · go_wp2_with fail
      go_meet
      exact ⟨rfl, rfl⟩
  case rest =>
  obtain ⟨rfl, rfl⟩ := hcut
  go_upto_if 20 with (fail)
  go_cut [1] (fun s1 wx => wx = wc ∧ ∃ sl : Nat, s1 = .int .i64 sl ∧ Hid (sl ≤ 9000))
  case first =>
    cases big
    · have d0 : ¬ sg < 0 ∧ ¬ 9000 < sg := by
        rcases hbig with ⟨_, h⟩ | ⟨h1, h2⟩
        · cases h
        · exact ⟨of_decide_eq_false h1, of_decide_eq_false h2⟩
      clear hbig
      obtain ⟨sl, rfl⟩ : ∃ sl : Nat, sg = sl := ⟨sg.toNat, by omega⟩
      have h3 : Hid (sl ≤ 9000) := Lib.hid (by omega)
      clear d0
      go_wp2_with fail
      go_meet
      exact ⟨rfl, sl, rfl, h3⟩
    · clear hbig
      go_wp2_with fail
      go_meet
      exact ⟨rfl, 8192, rfl, Lib.hid (by decide)⟩
  case rest =>
  obtain ⟨rfl, sl, rfl, hsl⟩ := hcut
  clear hbig
  have hmk := fun W => run_make_row' (P := Tryd.prog) 25 5 (.int .u8 0) 1 Tryd.underlying25 (by kernel_rfl) rfl .i64 .i64 sl (by have := hsl.out; omega) (by have := hsl.out; omega) W
  go_wp2_with fail
  have hG1 := hG.alloc (Obj.cells (madeCells #[Value.int .u8 0] sl) 5)
  have hB1 := hBa.alloc hBa.size (Obj.cells (madeCells #[Value.int .u8 0] sl) 5)
  have hS1 := holds_of_made (Whole.fresh wc 5 (madeCells #[Value.int .u8 0] sl))
  generalize (wc.alloc (Obj.cells (madeCells #[Value.int .u8 0] sl) 5)) = W1 at hG1 hB1 hS1 ⊢
  generalize wc.heap.size = S at *
  clear hmk hG hBa
  by_cases hE : readE (n - headN n) (at2 f (headN n)) sl = 0
  · obtain ⟨hm1, hm2, hch, hrs⟩ := readE_ok hE
    have hch2 := (chipN_cases (gotG (n - headN n) (at2 f (headN n)) 22)).resolve_left hch
    have hR := readGood_any G 0 n n sl sl 0 S f (fun _ => 0) W1 hn.out (Nat.le_refl _) hG1.row hS1.row hE
    have hbn := bestN_in (n - headN n) (at2 f (headN n)) hm1
    have hbm := best_max (n - headN n) (at2 f (headN n))
    have hbyte : ∀ i, i < n - headN n → at2 f (headN n) i < 256 := fun i hi => hG1.byte (headN n + i) (by omega)
    have hhead : n = n - headN n ∨ n = n - headN n + 512 := by
      unfold headN
      split
      · right; omega
      · left; rfl
    have HLk : lookV (bestN (n - headN n) (at2 f (headN n))) (n - headN n) (at2 f (headN n)) = .tuple #[cardV (gotG (n - headN n) (at2 f (headN n))), .int .i64 0] := by
      unfold lookV
      rw [if_neg (by omega), if_neg (by omega)]
      rfl
    have hsz := size_ram _ hrs
    have htt := title_le (gotG (n - headN n) (at2 f (headN n)))
    obtain ⟨hc0, hc1, hc2⟩ : (∀ i, i < 64 → gotG (n - headN n) (at2 f (headN n)) i < 256) ∧ True ∧ True := ⟨fun i hi => hbyte _ (by have := hbn.2.2; omega), trivial, trivial⟩
    have hsc : scoreV (titleS (gotG (n - headN n) (at2 f (headN n)))) (gotG (n - headN n) (at2 f (headN n)) 21) (gotG (n - headN n) (at2 f (headN n)) 28 + gotG (n - headN n) (at2 f (headN n)) 29 * 256) (gotG (n - headN n) (at2 f (headN n)) 30 + gotG (n - headN n) (at2 f (headN n)) 31 * 256) (gotG (n - headN n) (at2 f (headN n)) 60 + gotG (n - headN n) (at2 f (headN n)) 61 * 256) (bestN (n - headN n) (at2 f (headN n))) = scN (at2 f (headN n)) (bestN (n - headN n) (at2 f (headN n))) := rfl
    unfold readV at hR
    unfold cardV at HLk
    have hm21 := hc0 21 (by decide)
    generalize gotG (n - headN n) (at2 f (headN n)) = G0 at *
    generalize bestN (n - headN n) (at2 f (headN n)) = l at *
    generalize at2 f (headN n) = g at *
    generalize n - headN n = m at *
    generalize titleS G0 = tt at *
    generalize ramN (G0 24) = ram at *
    generalize chipN (G0 22) = ch at *
    generalize G0 60 + G0 61 * 256 = z at *
    generalize G0 30 + G0 31 * 256 = sm at *
    generalize G0 28 + G0 29 * 256 = ck at *
    generalize G0 21 = md at *
    generalize G0 22 = kd at *
    generalize G0 24 = rs at *
    generalize fastB md = fast at *
    clear hc0 hc1 hc2 hS1 hG1 hE hch hrs
    have HS := Lib.hid (fun W => score_any tt md kd rs ck sm z l W (by omega) (by omega) hm21)
    rw [hsc] at HS
    have HZ := Lib.hid (fun W => size_any ram W)
    generalize sizeN ram = szn at *
    unfold cartA at hR
    unfold cardA at HS
    replace hbm := Lib.hid hbm
    replace hbyte := Lib.hid hbyte
    replace hhead := Lib.hid hhead
    refine hR.mono ?_
    rintro e w2 ⟨G1, cap1, sa, k, da, rfl, hB2, hG1, hGe1, hcap1, hck⟩
    clear hR hsc
    have hBb := hB1.trans (hB2.mono hB1.size)
    clear hB1 hB2 hGe1
    replace hcap1 := Lib.hid hcap1
    replace hck : Hid (ch = 1 ∧ k = 8192 ∨ ch ≠ 1 ∧ k = 0) := Lib.hid (hck.imp (fun x => ⟨x.1, x.2.1⟩) id)
    have d1 : decide ((l : Int) < 1) = false := decide_eq_false (by omega)
    have d2 : decide (3 < (l : Int)) = false := decide_eq_false (by omega)
    have d3 : decide (2 < (ch : Int)) = false := decide_eq_false (by omega)
    have d4 : decide ((m : Int) < 32768) = false := decide_eq_false (by omega)
    have d5 : decide (8388608 < (m : Int)) = false := decide_eq_false (by omega)
    have d6 : decide (21 < (tt.size : Int)) = false := decide_eq_false (by omega)
    have d7 : ((szn : Int) == 255) = false := beq_eq_false_iff_ne.2 (by omega)
    have hl3 : 1 ≤ l ∧ l ≤ 3 := ⟨hbn.1, hbn.2.1⟩
    have hm2' : m ≤ 8392704 := by omega
    replace hm2 := Lib.hid hm2'
    clear hm1 hm2' hch2 hsz htt hbn hm21
    go_upto_region 5 with (fail)
    have hX := Whole.fresh w2 29 #[.int .u8 l, .int .u8 ch, .slice (some ⟨G1, 0, none⟩) m cap1, .int .i64 ram, .string tt, .int .u16 z, .bool fast, .slice sa k da]
    have hBc := hBb.alloc hBb.size (Obj.cells #[.int .u8 l, .int .u8 ch, .slice (some ⟨G1, 0, none⟩) m cap1, .int .i64 ram, .string tt, .int .u16 z, .bool fast, .slice sa k da] 29)
    have hG3 := hG1.alloc (Obj.cells #[.int .u8 l, .int .u8 ch, .slice (some ⟨G1, 0, none⟩) m cap1, .int .i64 ram, .string tt, .int .u16 z, .bool fast, .slice sa k da] 29)
    generalize (w2.alloc (Obj.cells #[.int .u8 l, .int .u8 ch, .slice (some ⟨G1, 0, none⟩) m cap1, .int .i64 ram, .string tt, .int .u16 z, .bool fast, .slice sa k da] 29)) = W3 at hX hBc hG3 ⊢
    generalize w2.heap.size = X at *
    clear hG1 hBb
    have x0 := hX.cell 0
    have x1 := hX.cell 1
    have x2 := hX.cell 2
    have x3 := hX.cell 3
    have x4 := hX.cell 4
    simp only [List.getElem?_toArray, List.getElem?_cons_zero, List.getElem?_cons_succ] at x0 x1 x2 x3 x4
    go_wp2_with fail
    refine (HZ.out W3).mono ?_
    rintro e w4 ⟨rfl, rfl⟩
    go_wp2_with fail
    have HLo := Lib.hid (fun k W (hk : k < 256) (hW : Row W (some ⟨G1, 0, none⟩) m g) => look_any k m cap1 (some ⟨G1, 0, none⟩) g W hk hcap1.out hW)
    have HL1 := HLo.out l w4 (by omega) hG3.row
    rw [HLk] at HL1
    refine HL1.mono ?_
    rintro e w5 ⟨rfl, hB5⟩
    clear HL1 HLk x0 x1 x2 x3 x4 d1 d2 d3 d4 d5 d6 d7 HZ hcap1
    have hX5 := hX.below hB5 hX.lt
    have hG5 := hG3.below hB5 hG3.lt
    have hBd := hBc.trans (hB5.mono hBc.size)
    clear hX hG3 hBc hB5
    go_upto_region 10 with (fail)
    have hX6 := hX5.alloc (Obj.cells #[.string tt, .int .u8 md, .int .u8 kd, .int .u8 rs, .int .u16 ck, .int .u16 sm, .int .u16 z] 39)
    have hG6 := hG5.alloc (Obj.cells #[.string tt, .int .u8 md, .int .u8 kd, .int .u8 rs, .int .u16 ck, .int .u16 sm, .int .u16 z] 39)
    have hBe := hBd.alloc hBd.size (Obj.cells #[.string tt, .int .u8 md, .int .u8 kd, .int .u8 rs, .int .u16 ck, .int .u16 sm, .int .u16 z] 39)
    have hY6 := Whole.fresh w5 39 #[.string tt, .int .u8 md, .int .u8 kd, .int .u8 rs, .int .u16 ck, .int .u16 sm, .int .u16 z]
    generalize (w5.alloc (Obj.cells #[.string tt, .int .u8 md, .int .u8 kd, .int .u8 rs, .int .u16 ck, .int .u16 sm, .int .u16 z] 39)) = W6 at hX6 hG6 hBe hY6 ⊢
    generalize w5.heap.size = Y at *
    clear hX5 hG5 hBd
    have x4 := hX6.cell 4
    have x5 := hX6.cell 5
    have y0 := hY6.cell 0
    have y6 := hY6.cell 6
    simp only [List.getElem?_toArray, List.getElem?_cons_zero, List.getElem?_cons_succ] at x4 x5 y0 y6
    go_wp2_with fail
    clear x4 x5 y0 y6
    go_loopw [10] (fun i wr => ∃ q : Nat, 1 ≤ q ∧ q ≤ 4 ∧ i = .int .u8 q ∧ Below W6.heap.size W6 wr) (fun i _ => 4 - (intOf i).toNat)
    case atStart => exact ⟨1, by decide, by decide, rfl, Below.refl _ _⟩
    case round =>
      obtain ⟨q, hq1, hq4, rfl, hQ⟩ := hrel
      have hX7 := hX6.below hQ hX6.lt
      have hY7 := hY6.below hQ hY6.lt
      have hG7 := hG6.below hQ hG6.lt
      have hBf := hBe.trans (hQ.mono hBe.size)
      by_cases hlt : q < 4
      · have hL1 := HLo.out q wr (by omega) hG7.row
        have hw8 : IntKind.u8.wrap ((q : Int) + 1) = (q + 1 : Nat) := by rw [show ∀ x : Int, IntKind.u8.wrap x = x % 256 from fun x => by simp [IntKind.wrap, IntKind.signed, IntKind.bits]]; omega
        have x2 := hX7.cell 2
        simp only [List.getElem?_toArray, List.getElem?_cons_zero, List.getElem?_cons_succ] at x2
        clear hBf hX6 hY6 hG6 hBe
        by_cases hp : posOf q + 64 ≤ m
        · obtain ⟨t', m', k', r', c', s', z', hcv, hsc', ht', hm', _, _⟩ := card_parts g q (fun i hi => hbyte.out _ (by omega))
          have hle := hbm.out q ⟨hq1, by omega⟩ hp
          have HL2 : lookV q m g = .tuple #[cardA t' m' k' r' c' s' z', .int .i64 0] := by
            unfold lookV
            rw [if_neg (by omega), if_neg (by omega), hcv]
          rw [HL2] at hL1
          have HS2 := Lib.hid (fun W => score_any t' m' k' r' c' s' z' q W (by omega) ht' hm')
          rw [← hsc'] at HS2
          unfold cardA at hL1 HS2
          have dle : decide (scN g l < scN g q) = false := decide_eq_false (by omega)
          clear hle hsc' hcv HL2 hp hbm hbyte HLo ht' hm'
          generalize scN g l = A at *
          generalize scN g q = B at *
          go_wp2_with fail
          refine hL1.mono ?_
          rintro e w8 ⟨rfl, hB8⟩
          have hX8 := hX7.below hB8 hX7.lt
          have hY8 := hY7.below hB8 hY7.lt
          have hQ8 := hQ.trans (hB8.mono hQ.size)
          clear hX7 hY7 hG7 hQ hB8 x2 hL1
          go_upto_region 16 with (fail)
          have hX9 := hX8.alloc (Obj.cells #[.string t', .int .u8 m', .int .u8 k', .int .u8 r', .int .u16 c', .int .u16 s', .int .u16 z'] 39)
          have hY9 := hY8.alloc (Obj.cells #[.string t', .int .u8 m', .int .u8 k', .int .u8 r', .int .u16 c', .int .u16 s', .int .u16 z'] 39)
          have hQ9 := hQ8.alloc hQ8.size (Obj.cells #[.string t', .int .u8 m', .int .u8 k', .int .u8 r', .int .u16 c', .int .u16 s', .int .u16 z'] 39)
          have hZ9 := Whole.fresh w8 39 #[.string t', .int .u8 m', .int .u8 k', .int .u8 r', .int .u16 c', .int .u16 s', .int .u16 z']
          generalize (w8.alloc (Obj.cells #[.string t', .int .u8 m', .int .u8 k', .int .u8 r', .int .u16 c', .int .u16 s', .int .u16 z'] 39)) = W9 at hX9 hY9 hQ9 hZ9 ⊢
          generalize w8.heap.size = Z at *
          clear hX8 hY8 hQ8
          have xx0 := cell_regrown (show W9.cell? ⟨_, 0, none⟩ = some _ from hX9.cell 0)
          have yy0 := cell_regrown (show W9.cell? ⟨_, 0, none⟩ = some _ from hY9.cell 0)
          have yy1 := cell_regrown (show W9.cell? ⟨_, 1, none⟩ = some _ from hY9.cell 1)
          have yy2 := cell_regrown (show W9.cell? ⟨_, 2, none⟩ = some _ from hY9.cell 2)
          have yy3 := cell_regrown (show W9.cell? ⟨_, 3, none⟩ = some _ from hY9.cell 3)
          have yy4 := cell_regrown (show W9.cell? ⟨_, 4, none⟩ = some _ from hY9.cell 4)
          have yy5 := cell_regrown (show W9.cell? ⟨_, 5, none⟩ = some _ from hY9.cell 5)
          have yy6 := cell_regrown (show W9.cell? ⟨_, 6, none⟩ = some _ from hY9.cell 6)
          have zz0 := cell_regrown (show W9.cell? ⟨_, 0, none⟩ = some _ from hZ9.cell 0)
          have zz1 := cell_regrown (show W9.cell? ⟨_, 1, none⟩ = some _ from hZ9.cell 1)
          have zz2 := cell_regrown (show W9.cell? ⟨_, 2, none⟩ = some _ from hZ9.cell 2)
          have zz3 := cell_regrown (show W9.cell? ⟨_, 3, none⟩ = some _ from hZ9.cell 3)
          have zz4 := cell_regrown (show W9.cell? ⟨_, 4, none⟩ = some _ from hZ9.cell 4)
          have zz5 := cell_regrown (show W9.cell? ⟨_, 5, none⟩ = some _ from hZ9.cell 5)
          have zz6 := cell_regrown (show W9.cell? ⟨_, 6, none⟩ = some _ from hZ9.cell 6)
          replace hQ9 := Lib.hid hQ9
          clear hX9 hY9 hZ9
          refine wp_region_quiet_below (by kernel_rfl) (by kernel_rfl) ?_
          repeat (go_big_quiet_step (first
            | (go_at_call 16; first | (with_reducible exact Calls.regrown_of (HS2.out _)) | (with_reducible exact Calls.regrown_of (HS.out _)))))
          refine wpQuiet_nil ?_
          intro _ hw'
          obtain ⟨⟨dq, osq⟩, hw''⟩ := hw'
          subst hw''
          go_wp2_with fail
          refine ⟨⟨q + 1, by omega, by omega, by congr 1, hQ9.out.trans ((below_regrown W9 dq osq).mono hQ9.out.size)⟩, ?_⟩
          simp only [intOf]
          omega
        · have HL2 : lookV q m g = .tuple #[zeroCard, .int .i64 5] := by
            unfold lookV
            rw [if_neg (by omega), if_pos (by omega)]
          rw [HL2] at hL1
          unfold zeroCard at hL1
          clear HL2 hp hbm hbyte HLo
          go_wp2_with fail
          refine hL1.mono ?_
          rintro e w8 ⟨rfl, hB8⟩
          have hX8 := hX7.below hB8 hX7.lt
          have hY8 := hY7.below hB8 hY7.lt
          have hQ8 := hQ.trans (hB8.mono hQ.size)
          clear hX7 hY7 hG7 hQ hB8 x2 hL1
          go_upto_region 16 with (fail)
          have hX9 := hX8.alloc (Obj.cells #[.string ⟨#[]⟩, .int .u8 0, .int .u8 0, .int .u8 0, .int .u16 0, .int .u16 0, .int .u16 0] 39)
          have hY9 := hY8.alloc (Obj.cells #[.string ⟨#[]⟩, .int .u8 0, .int .u8 0, .int .u8 0, .int .u16 0, .int .u16 0, .int .u16 0] 39)
          have hQ9 := hQ8.alloc hQ8.size (Obj.cells #[.string ⟨#[]⟩, .int .u8 0, .int .u8 0, .int .u8 0, .int .u16 0, .int .u16 0, .int .u16 0] 39)
          have hZ9 := Whole.fresh w8 39 #[.string ⟨#[]⟩, .int .u8 0, .int .u8 0, .int .u8 0, .int .u16 0, .int .u16 0, .int .u16 0]
          generalize (w8.alloc (Obj.cells #[.string ⟨#[]⟩, .int .u8 0, .int .u8 0, .int .u8 0, .int .u16 0, .int .u16 0, .int .u16 0] 39)) = W9 at hX9 hY9 hQ9 hZ9 ⊢
          generalize w8.heap.size = Z at *
          clear hX8 hY8 hQ8
          replace hQ9 := Lib.hid hQ9
          clear hX9 hY9 hZ9
          refine wp_region_quiet_below (by kernel_rfl) (by kernel_rfl) ?_
          repeat (go_big_quiet_step (first
            | (go_at_call 16; first | (with_reducible exact Calls.regrown_of (HS.out _)))))
          refine wpQuiet_nil ?_
          intro _ hw'
          obtain ⟨⟨dq, osq⟩, hw''⟩ := hw'
          subst hw''
          go_wp2_with fail
          refine ⟨⟨q + 1, by omega, by omega, by congr 1, hQ9.out.trans ((below_regrown W9 dq osq).mono hQ9.out.size)⟩, ?_⟩
          simp only [intOf]
          omega
      · obtain rfl : q = 4 := by omega
        clear hX6 hY6 hG6 hBe hQ hY7 hG7 HLo hbm hbyte
        have x1 := hX7.cell 1
        have x2 := hX7.cell 2
        have x7 := hX7.cell 7
        simp only [List.getElem?_toArray, List.getElem?_cons_zero, List.getElem?_cons_succ] at x1 x2 x7
        have hm3 : m ≤ 140737488355328 := by have := hm2.out; omega
        rcases hhead.out with hh | hh
        · have e1 : ((n : Int) == (m : Int)) = true := by rw [beq_iff_eq]; omega
          replace hh := Lib.hid hh
          rcases hck.out with ⟨rfl, rfl⟩ | ⟨hc1, rfl⟩
          · go_wp2_with fail
            go_ret
            exact ⟨rfl, hBf⟩
          · have e3 : ((ch : Int) == 1) = false := beq_eq_false_iff_ne.2 (by omega)
            replace hc1 := Lib.hid hc1
            go_wp2_with fail
            go_ret
            exact ⟨rfl, hBf⟩
        · have e1 : ((n : Int) == (m : Int)) = false := beq_eq_false_iff_ne.2 (by omega)
          have e2 : ((n : Int) == (m : Int) + 512) = true := by rw [beq_iff_eq]; omega
          replace hh := Lib.hid hh
          rcases hck.out with ⟨rfl, rfl⟩ | ⟨hc1, rfl⟩
          · go_wp2_with fail
            go_ret
            exact ⟨rfl, hBf⟩
          · have e3 : ((ch : Int) == 1) = false := beq_eq_false_iff_ne.2 (by omega)
            replace hc1 := Lib.hid hc1
            go_wp2_with fail
            go_ret
            exact ⟨rfl, hBf⟩
  · have HR := Lib.hid (readBad_any G 0 n n sl sl (some ⟨S, 0, none⟩) f W1 hn.out (Nat.le_refl _) hG1.row hE)
    have hno := readE_no _ _ _ hE
    generalize readE (n - headN n) (at2 f (headN n)) sl = E at *
    clear hG1 hS1 hE
    obtain ⟨big34, h34⟩ : ∃ x : Bool, ((sl : Int) != 8192) = x := ⟨_, rfl⟩
    have hno2 : Hid (E = 30 ∨ E = 31 ∨ E = 32 ∨ E = 33 ∨ E = 34 ∧ big34 = true) := Lib.hid (by
      rcases hno with h | h | h | h | ⟨h, h2⟩
      · exact .inl h
      · exact .inr (.inl h)
      · exact .inr (.inr (.inl h))
      · exact .inr (.inr (.inr (.inl h)))
      · exact .inr (.inr (.inr (.inr ⟨h, by rw [← h34, bne_iff_ne]; omega⟩))))
    have nz : ((E : Int) != 0) = true := by rw [bne_iff_ne]; rcases hno with h | h | h | h | ⟨h, _⟩ <;> omega
    clear hno
    unfold zeroCart at HR
    refine HR.out.mono ?_
    rintro e w2 ⟨rfl, hB2⟩
    clear HR
    have hBb := hB1.trans (hB2.mono hB1.size)
    clear hB1 hB2
    go_wp2_with fail
    have hX := Whole.fresh w2 29 #[.int .u8 0, .int .u8 0, .slice none 0 0, .int .i64 0, .string ⟨#[]⟩, .int .u16 0, .bool false, .slice none 0 0]
    have hBc := hBb.alloc hBb.size (Obj.cells #[.int .u8 0, .int .u8 0, .slice none 0 0, .int .i64 0, .string ⟨#[]⟩, .int .u16 0, .bool false, .slice none 0 0] 29)
    generalize (w2.alloc (Obj.cells #[.int .u8 0, .int .u8 0, .slice none 0 0, .int .i64 0, .string ⟨#[]⟩, .int .u16 0, .bool false, .slice none 0 0] 29)) = W3 at hX hBc ⊢
    generalize w2.heap.size = X at *
    refine (blank_any W3).mono ?_
    rintro e w4 ⟨rfl, hB4⟩
    have hX4 := hX.below hB4 hX.lt
    have hBd := hBc.trans (hB4.mono hBc.size)
    have x0 := hX4.cell 0
    have x2 := hX4.cell 2
    simp only [List.getElem?_toArray, List.getElem?_cons_zero, List.getElem?_cons_succ] at x0 x2
    clear hX hBc hB4 hX4 hBb nz
    rcases hno2.out with rfl | rfl | rfl | rfl | ⟨rfl, rfl⟩
    all_goals
      clear hno2
      go_wp2_with fail
      go_ret
      exact ⟨rfl, hBd⟩
end cartSound
end Go.Proofs.YtggjaoihfhianaaDoor
