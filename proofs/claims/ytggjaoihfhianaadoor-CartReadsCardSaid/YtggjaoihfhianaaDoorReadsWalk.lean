/-
  CartReads: the walk.
-/
import Derived.Test.YtggjaoihfhianaaDoorReadsTwo
import Derived.Deep.DeepCutAuto
import Derived.Deep.CutBlock
namespace Go.Proofs.YtggjaoihfhianaaDoor
open Go.RowKit Go.Shelf
set_option maxRecDepth 100000
set_option maxHeartbeats 4000000

namespace cartReads
theorem walkN (size sg : Int) (kb : Nat) (a : Option Addr) (len cap : Nat) (ps : Nat → Patch1) (w : World) (hs0 : -9223372036854775808 ≤ size) (hs1 : size ≤ 9223372036854775807) (hkb : kb < 256) (h : Patches w a len ps) :
    Calls Tryd.prog 3 #[.agg #[.int .i64 size, .int .u8 kb, .slice a len cap], .int .i64 sg] w fun e w' => e = .returned (.bool true) ∧ Below w.heap.size w w' := by
  have HI := Lib.hid (fun W (hW : Patches W a len ps) => img_any size kb a len cap ps W hs0 hs1 hkb hW)
  have hn := imgN_le size
  generalize imgN size = n at *
  generalize img kb ps len = f at *
  replace hn := Lib.hid hn
  go_enter Tryd.func3, Tryd.ntmps3
  go_wp2_with fail
  have hB0 : Below w.heap.size w (w.alloc (Obj.cells #[.int .i64 size, .int .u8 kb, .slice a len cap] 24)) := (Below.refl _ w).alloc (Nat.le_refl _) _
  have hP := h.below hB0
  generalize (w.alloc (Obj.cells #[.int .i64 size, .int .u8 kb, .slice a len cap] 24)) = W0 at hB0 hP ⊢
  refine (HI.out W0 hP).mono ?_
  rintro e w1 ⟨G, rfl, hG, hGe, hB1⟩
  have hBa := hB0.trans (hB1.mono hB0.size)
  have hGw : w.heap.size ≤ G := Nat.le_trans hB0.size hGe
  clear hB0 hP hB1 h HI hGe hs0 hs1 hkb
  obtain ⟨big, hbig⟩ : ∃ big : Bool, decide (sg < 0) = true ∧ big = true ∨ decide (sg < 0) = false ∧ decide (9000 < sg) = big := by
    by_cases h0 : sg < 0
    · exact ⟨true, .inl ⟨decide_eq_true h0, rfl⟩⟩
    · exact ⟨_, .inr ⟨decide_eq_false h0, rfl⟩⟩
  go_upto_region 2 with (fail)
  go_cut [21] (fun s21 wx => wx = w1 ∧ s21 = .bool big)
  case first =>
    rcases hbig with ⟨d0, rfl⟩ | ⟨d0, d1⟩
    · go_wp2_with fail
      go_meet
      exact ⟨rfl, rfl⟩
    · go_wp2_with fail
      go_meet
      exact ⟨rfl, rfl⟩
  case rest =>
  obtain ⟨rfl, rfl⟩ := hcut
  go_upto_if 21 with (fail)
  go_cut [1] (fun s1 wx => wx = wc ∧ ∃ sl : Nat, s1 = .int .i64 sl ∧ Hid (sl ≤ 9000))
  case first =>
    cases big
    · have d0 : ¬ sg < 0 ∧ ¬ 9000 < sg := by
        rcases hbig with ⟨_, h⟩ | ⟨h1, h2⟩
        · cases h
        · exact ⟨of_decide_eq_false h1, of_decide_eq_false h2⟩
      clear hbig
      obtain ⟨sl, rfl⟩ : ∃ sl : Nat, sg = sl := ⟨sg.toNat, by omega⟩
      have h3 : Hid (sl ≤ 9000) := Lib.hid (by omega)
      clear d0
      go_wp2_with fail
      go_meet
      exact ⟨rfl, sl, rfl, h3⟩
    · clear hbig
      go_wp2_with fail
      go_meet
      exact ⟨rfl, 8192, rfl, Lib.hid (by decide)⟩
  case rest =>
  obtain ⟨rfl, sl, rfl, hsl⟩ := hcut
  clear hbig
  have hmk := fun W => run_make_row' (P := Tryd.prog) 25 5 (.int .u8 0) 1 Tryd.underlying25 (by kernel_rfl) rfl .i64 .i64 sl (by have := hsl.out; omega) (by have := hsl.out; omega) W
  go_wp2_with fail
  have hG1 := hG.alloc (Obj.cells (madeCells #[Value.int .u8 0] sl) 5)
  have hB1 := hBa.alloc hBa.size (Obj.cells (madeCells #[Value.int .u8 0] sl) 5)
  have hS1 := holds_of_made (Whole.fresh wc 5 (madeCells #[Value.int .u8 0] sl))
  have hGS : G ≠ wc.heap.size := Nat.ne_of_lt hG.lt
  have hSw : w.heap.size ≤ wc.heap.size := hBa.size
  generalize (wc.alloc (Obj.cells (madeCells #[Value.int .u8 0] sl) 5)) = W1 at hG1 hB1 hS1 ⊢
  generalize wc.heap.size = S at *
  clear hmk hG hBa
  go_loopw [7] (fun i wr => ∃ k : Nat, k ≤ sl ∧ i = .int .i64 k ∧ Holds wr S sl (first (fun j => j % 256) k) ∧ Holds wr G n f ∧ Below w.heap.size w wr) (fun i _ => sl - (intOf i).toNat)
  case atStart => exact ⟨0, Nat.zero_le _, rfl, hS1.congr (fun i _ => by simp [first]), hG1, hB1⟩
  case round =>
    obtain ⟨k, hk, rfl, hS, hG, hB⟩ := hrel
    clear hS1 hG1 hB1
    by_cases hlt : k < sl
    · have hfk := hS.free k
      have hwk := hS.cell k hlt
      have hP := hS.put k (k % 256) (Nat.mod_lt _ (by decide))
      rw [first_step (fun j => j % 256)] at hP
      have hG2 := hG.away (p := ⟨S, k, none⟩) hGS (.int .u8 (k % 256 : Nat))
      have hB2 := hB.setCell (p := ⟨S, k, none⟩) hSw (.int .u8 (k % 256 : Nat))
      have hcv : IntKind.u8.wrap (k : Int) = (k % 256 : Nat) := by simp [IntKind.wrap, IntKind.signed, IntKind.bits]
      clear hS hG hB
      have hsl9 := hsl.out
      go_wp2_with fail
      refine ⟨⟨k + 1, by omega, by go_num, hP, hG2, hB2⟩, ?_⟩
      simp only [intOf]
      omega
    · obtain rfl : k = sl := by omega
      clear hlt hk hGS
      generalize first (fun j => j % 256) k = sf at *
      have hsn : Hid (k ≤ 140737488355328) := Lib.hid (by have := hsl.out; omega)
      obtain ⟨l, c, ram, t, z, fast, m, kk, f', g', E, hm, hkk, HA, HB⟩ := reads_two n k f sf hn.out
      unfold cartA at HA HB
      replace HA := Lib.hid HA
      replace HB := Lib.hid HB
      replace hm := Lib.hid hm
      replace hkk := Lib.hid hkk
      have hSlt := hS.lt
      have hGlt := hG.lt
      go_wp2_with fail
      refine (HA.out wr G S hG hS).mono ?_
      rintro e w2 ⟨ra, ca, sa, da, rfl, hQ2, hRow⟩
      replace hRow := Lib.hid hRow
      have hG2 := hG.below hQ2 hGlt
      have hS2 := hS.below hQ2 hSlt
      clear hG hS HA
      go_wp2_with fail
      have hG3 := hG2.alloc (Obj.cells #[.int .u8 l, .int .u8 c, .slice ra m ca, .int .i64 ram, .string t, .int .u16 z, .bool fast, .slice sa kk da] 29)
      have hS3 := hS2.alloc (Obj.cells #[.int .u8 l, .int .u8 c, .slice ra m ca, .int .i64 ram, .string t, .int .u16 z, .bool fast, .slice sa kk da] 29)
      have hQ3 := hQ2.alloc hQ2.size (Obj.cells #[.int .u8 l, .int .u8 c, .slice ra m ca, .int .i64 ram, .string t, .int .u16 z, .bool fast, .slice sa kk da] 29)
      have hY3 := Whole.fresh w2 29 #[.int .u8 l, .int .u8 c, .slice ra m ca, .int .i64 ram, .string t, .int .u16 z, .bool fast, .slice sa kk da]
      have hYge := hQ2.size
      generalize (w2.alloc (Obj.cells #[.int .u8 l, .int .u8 c, .slice ra m ca, .int .i64 ram, .string t, .int .u16 z, .bool fast, .slice sa kk da] 29)) = W3 at hG3 hS3 hQ3 hY3 ⊢
      generalize w2.heap.size = Y at *
      clear hG2 hS2 hQ2
      refine (copy_any (some ⟨G, 0, none⟩) n n f W3 hG3.row (by have := hn.out; omega)).mono ?_
      rintro e w4 ⟨C, rfl, hC4, hC, hB4⟩
      have hG4 := hG3.below hB4 hG3.lt
      have hS4 := hS3.below hB4 hS3.lt
      have hY4 := hY3.below hB4 hY3.lt
      have hQ4 := hQ3.trans (hB4.mono hQ3.size)
      have hC' : wr.heap.size ≤ C := Nat.le_trans hQ3.size hC
      have hYC : Y < C := Nat.lt_of_lt_of_le hY3.lt hC
      clear hG3 hS3 hQ3 hY3 hB4 hC
      go_wp2_with fail
      refine (copy_any (some ⟨S, 0, none⟩) k k sf w4 hS4.row (by have := hsn.out; omega)).mono ?_
      rintro e w5 ⟨T, rfl, hT5, hT, hB5⟩
      have hG5 := hG4.below hB5 hG4.lt
      have hS5 := hS4.below hB5 hS4.lt
      have hY5 := hY4.below hB5 hY4.lt
      have hC5 := hC4.below hB5 hC4.lt
      have hQ5 := hQ4.trans (hB5.mono hQ4.size)
      have hTC : C < T := Nat.lt_of_lt_of_le hC4.lt hT
      clear hG4 hS4 hQ4 hY4 hC4 hB5 hT
      go_wp2_with fail
      refine (HB.out w5 C T hC5 hT5).mono ?_
      rintro e w6 ⟨rb, cb, sb, db, rfl, hB6, hRow2⟩
      replace hRow2 := Lib.hid hRow2
      have hG6 := hG5.below hB6 hG5.lt
      have hS6 := hS5.below hB6 hS5.lt
      have hY6 := hY5.below hB6 hY5.lt
      have hC6 := hC5.below hB6 hC5.lt
      have hT6 := hT5.below hB6 hT5.lt
      have hQ6 := hQ5.trans (hB6.mono hQ5.size)
      have hT7 : T < w5.heap.size := hT5.lt
      have h56 := hB6.size
      clear hG5 hS5 hQ5 hY5 hC5 hT5 hB6 HB
      go_wp2_with fail
      have hG7 := hG6.alloc (Obj.cells #[.int .u8 l, .int .u8 c, .slice rb m cb, .int .i64 ram, .string t, .int .u16 z, .bool fast, .slice sb kk db] 29)
      have hS7 := hS6.alloc (Obj.cells #[.int .u8 l, .int .u8 c, .slice rb m cb, .int .i64 ram, .string t, .int .u16 z, .bool fast, .slice sb kk db] 29)
      have hY7 := hY6.alloc (Obj.cells #[.int .u8 l, .int .u8 c, .slice rb m cb, .int .i64 ram, .string t, .int .u16 z, .bool fast, .slice sb kk db] 29)
      have hC7 := hC6.alloc (Obj.cells #[.int .u8 l, .int .u8 c, .slice rb m cb, .int .i64 ram, .string t, .int .u16 z, .bool fast, .slice sb kk db] 29)
      have hTw := hT6.alloc (Obj.cells #[.int .u8 l, .int .u8 c, .slice rb m cb, .int .i64 ram, .string t, .int .u16 z, .bool fast, .slice sb kk db] 29)
      have hQ7 := hQ6.alloc hQ6.size (Obj.cells #[.int .u8 l, .int .u8 c, .slice rb m cb, .int .i64 ram, .string t, .int .u16 z, .bool fast, .slice sb kk db] 29)
      have hX7 := Whole.fresh w6 29 #[.int .u8 l, .int .u8 c, .slice rb m cb, .int .i64 ram, .string t, .int .u16 z, .bool fast, .slice sb kk db]
      have hK7 := (Kept.of_below (B := w5.heap.size) ((Below.refl w6.heap.size w6).alloc (Nat.le_refl _) (Obj.cells #[.int .u8 l, .int .u8 c, .slice rb m cb, .int .i64 ram, .string t, .int .u16 z, .bool fast, .slice sb kk db] 29)) (Nat.le_refl _))
      generalize (w6.alloc (Obj.cells #[.int .u8 l, .int .u8 c, .slice rb m cb, .int .i64 ram, .string t, .int .u16 z, .bool fast, .slice sb kk db] 29)) = W7 at hG7 hS7 hQ7 hY7 hC7 hTw hX7 hK7 ⊢
      generalize w6.heap.size = XX at *
      clear hG6 hS6 hQ6 hY6 hC6 hT6
      refine (same_any (some ⟨C, 0, none⟩) (some ⟨G, 0, none⟩) n n n f W7 hC7.row hG7.row (by have := hn.out; omega)).mono ?_
      rintro e w8 ⟨rfl, q1, rfl⟩
      go_wp2_with fail
      refine (same_any (some ⟨T, 0, none⟩) (some ⟨S, 0, none⟩) k k k sf _ (hTw.drewN q1).row (hS7.drewN q1).row (by have := hsn.out; omega)).mono ?_
      rintro e w9 ⟨rfl, q2, rfl⟩
      have hC9 := (hC7.drewN q1).drewN q2
      have hT9 := (hTw.drewN q1).drewN q2
      have hX9 := (hX7.drewN q1).drewN q2
      have hY9 := (hY7.drewN q1).drewN q2
      have hQ9 := below_drewN (below_drewN hQ7 q1) q2
      have hK9 : Kept w5.heap.size w6 ((W7.drewN q1).drewN q2) := hK7
      generalize ((W7.drewN q1).drewN q2) = W9 at hC9 hT9 hX9 hY9 hQ9 hK9 ⊢
      clear hC7 hTw hX7 hY7 hQ7 hK7 hG7 hS7
      go_wp2_with fail
      refine (spoil_any C n n f W9 (by have := hn.out; omega) hC9).mono ?_
      rintro e wa ⟨⟨v, rfl⟩, hO⟩
      have hTa := hT9.only hO (by omega)
      have hXa := hX9.only hO (by omega)
      have hYa := hY9.only hO (by omega)
      have hQa := hQ9.trans (below_only hO hC' hQ9.size)
      have hKa := hK9.trans (Kept.of_only hO (by omega))
      clear hC9 hT9 hX9 hY9 hQ9 hK9 hO
      go_wp2_with fail
      refine (spoil_any T k k sf wa (by have := hsn.out; omega) hTa).mono ?_
      rintro e wb ⟨⟨v', rfl⟩, hO⟩
      have hXb := hXa.only hO (by omega)
      have hYb := hYa.only hO (by omega)
      have hQb := hQa.trans (below_only hO (by omega) hQa.size)
      have hKb := hKa.trans (Kept.of_only hO (by omega))
      clear hTa hXa hYa hQa hKa hO
      have HR1 := Lib.hid (fun W (hW : Below wb.heap.size wb W) => csame_any l c ram t z fast rb ra sb sa m cb ca kk db da f' g' W hm.out hkk.out
        (hRow2.out W (hKb.trans (Kept.of_below hW (Nat.le_refl _)))).1 (hRow.out W (hQb.trans (hW.mono hQb.size))).1 (hRow2.out W (hKb.trans (Kept.of_below hW (Nat.le_refl _)))).2 (hRow.out W (hQb.trans (hW.mono hQb.size))).2)
      unfold cartA at HR1
      have x0 := hXb.cell 0
      have y0 := hYb.cell 0
      have x1 := hXb.cell 1
      have y1 := hYb.cell 1
      have x2 := hXb.cell 2
      have y2 := hYb.cell 2
      have x3 := hXb.cell 3
      have y3 := hYb.cell 3
      have x4 := hXb.cell 4
      have y4 := hYb.cell 4
      have x5 := hXb.cell 5
      have y5 := hYb.cell 5
      have x6 := hXb.cell 6
      have y6 := hYb.cell 6
      have x7 := hXb.cell 7
      have y7 := hYb.cell 7
      have hBw := hB.trans (hQb.mono hB.size)
      clear hXb hYb hQb hKb hRow hRow2
      go_wp2_with fail
      refine (HR1.out wb (Below.refl _ _)).mono ?_
      rintro e wd ⟨rfl, hBd⟩
      go_wp2_with fail
      go_ret
      exact ⟨rfl, hBw.trans (hBd.mono hBw.size)⟩
end cartReads
end Go.Proofs.YtggjaoihfhianaaDoor
