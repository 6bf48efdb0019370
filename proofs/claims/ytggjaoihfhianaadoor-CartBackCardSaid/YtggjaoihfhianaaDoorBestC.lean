/-
  The layout whose card fits best.
-/
import Derived.Test.YtggjaoihfhianaaDoorBestH
import Derived.RegionTactic
import Derived.WalkMore
import Derived.Scope
namespace Go.Proofs.YtggjaoihfhianaaDoor
open Go.RowKit Go.Shelf
set_option maxRecDepth 100000
set_option maxHeartbeats 4000000


theorem bestC00_any (n cap : Nat) (a : Option Addr) (f : Nat → Nat) (w : World) (hcap : n ≤ cap) (h : Row w a n f) (hn0 : 4259840 ≤ n) (h2 : ¬ scN f 1 < scN f 2) (h3 : ¬ scN f 1 < scN f 3) :
    Calls Tryd.prog 22 #[.slice a n cap] w fun e w' => e = .returned (.tuple #[.int .u8 1, cardV (at' f (posOf 1))]) ∧ Below w.heap.size w w' := by
  have hb1 : ∀ i, i < 64 → at' f (posOf 1) i < 256 := fun i hi => h.1 (32704 + i) (by omega)
  obtain ⟨t1, m1, k1, r1, c1, s1, z1, e1, q1, ht1, hm1, hc1, hs1⟩ := card_parts f 1 hb1
  have HL1 := fun W (hW : Below w.heap.size w W) => look_any 1 n cap a f W (by decide) hcap (h.below hW)
  rw [show lookV 1 n f = .tuple #[cardV (at' f (posOf 1)), .int .i64 0] by unfold lookV; rw [if_neg (by decide), if_neg (by show ¬ n < 32704 + 64; omega)], e1] at HL1
  have hb2 : ∀ i, i < 64 → at' f (posOf 2) i < 256 := fun i hi => h.1 (65472 + i) (by omega)
  obtain ⟨t2, m2, k2, r2, c2, s2, z2, e2, q2, ht2, hm2, hc2, hs2⟩ := card_parts f 2 hb2
  have HL2 := fun W (hW : Below w.heap.size w W) => look_any 2 n cap a f W (by decide) hcap (h.below hW)
  rw [show lookV 2 n f = .tuple #[cardV (at' f (posOf 2)), .int .i64 0] by unfold lookV; rw [if_neg (by decide), if_neg (by show ¬ n < 65472 + 64; omega)], e2] at HL2
  have hb3 : ∀ i, i < 64 → at' f (posOf 3) i < 256 := fun i hi => h.1 (4259776 + i) (by omega)
  obtain ⟨t3, m3, k3, r3, c3, s3, z3, e3, q3, ht3, hm3, hc3, hs3⟩ := card_parts f 3 hb3
  have HL3 := fun W (hW : Below w.heap.size w W) => look_any 3 n cap a f W (by decide) hcap (h.below hW)
  rw [show lookV 3 n f = .tuple #[cardV (at' f (posOf 3)), .int .i64 0] by unfold lookV; rw [if_neg (by decide), if_neg (by show ¬ n < 4259776 + 64; omega)], e3] at HL3
  rw [e1]
  have HP1 := fun M W (hW : Whole W M 5 (modesOf 1)) => pscore_any t1 m1 k1 r1 c1 s1 z1 1 M W (by decide) ht1 hm1 hW
  rw [← q1] at HP1
  have lo1 : -4 ≤ scN f 1 := by rw [q1]; exact scoreV_low _ _ _ _ _ _
  have HP2 := fun M W (hW : Whole W M 5 (modesOf 2)) => pscore_any t2 m2 k2 r2 c2 s2 z2 2 M W (by decide) ht2 hm2 hW
  rw [← q2] at HP2
  have HP3 := fun M W (hW : Whole W M 5 (modesOf 3)) => pscore_any t3 m3 k3 r3 c3 s3 z3 3 M W (by decide) ht3 hm3 hW
  rw [← q3] at HP3
  clear q1 e1 hb1 q2 e2 hb2 q3 e3 hb3
  generalize scN f 1 = sc1 at *
  generalize scN f 2 = sc2 at *
  generalize scN f 3 = sc3 at *
  replace HL1 := Lib.hid HL1
  replace HP1 := Lib.hid HP1
  replace HL2 := Lib.hid HL2
  replace HP2 := Lib.hid HP2
  replace HL3 := Lib.hid HL3
  replace HP3 := Lib.hid HP3
  unfold cardA at *
  go_enter Tryd.func22, Tryd.ntmps22
  go_wp2_with fail
  have hB0 : Below w.heap.size w (w.alloc (Obj.cells #[Value.string { data := #[] }, Value.int IntKind.u8 0, Value.int IntKind.u8 0, Value.int IntKind.u8 0, Value.int IntKind.u16 0, Value.int IntKind.u16 0, Value.int IntKind.u16 0] 39)) := (Below.refl _ w).alloc (Nat.le_refl _) _
  have hX0 := Whole.fresh w 39 #[Value.string { data := #[] }, Value.int IntKind.u8 0, Value.int IntKind.u8 0, Value.int IntKind.u8 0, Value.int IntKind.u16 0, Value.int IntKind.u16 0, Value.int IntKind.u16 0]
  generalize (w.alloc (Obj.cells #[Value.string { data := #[] }, Value.int IntKind.u8 0, Value.int IntKind.u8 0, Value.int IntKind.u8 0, Value.int IntKind.u16 0, Value.int IntKind.u16 0, Value.int IntKind.u16 0] 39)) = W0 at hB0 hX0 ⊢
  go_step3
  go_wp2_with fail
  go_step3
  go_wp2_with fail
  refine (plans_any W0).mono ?_
  rintro e w1 ⟨M1, M2, M3, rfl, hM1, hM2, hM3, b1, b2, b3, hB1⟩
  have hX1 := hX0.below hB1 hX0.lt
  have hBa := hB0.trans (hB1.mono hB0.size)
  have ix0 := index_plan0 (.int .u8 1) (.int .i64 32704) (.slice (some ⟨M1, 0, none⟩) 2 2) (.int .u8 2) (.int .i64 65472) (.slice (some ⟨M2, 0, none⟩) 1 1) (.int .u8 3) (.int .i64 4259776) (.slice (some ⟨M3, 0, none⟩) 1 1)
  have ix1 := index_plan1 (.int .u8 1) (.int .i64 32704) (.slice (some ⟨M1, 0, none⟩) 2 2) (.int .u8 2) (.int .i64 65472) (.slice (some ⟨M2, 0, none⟩) 1 1) (.int .u8 3) (.int .i64 4259776) (.slice (some ⟨M3, 0, none⟩) 1 1)
  have ix2 := index_plan2 (.int .u8 1) (.int .i64 32704) (.slice (some ⟨M1, 0, none⟩) 2 2) (.int .u8 2) (.int .i64 65472) (.slice (some ⟨M2, 0, none⟩) 1 1) (.int .u8 3) (.int .i64 4259776) (.slice (some ⟨M3, 0, none⟩) 1 1)
  have hs0 := hX0.lt
  have nM1 : M1 ≠ w.heap.size := by omega
  have nM2 : M2 ≠ w.heap.size := by omega
  have nM3 : M3 ≠ w.heap.size := by omega
  clear hX0 hB0 hB1 b1 b2 b3 hs0
  have hXz := hX1
  have hM1z := hM1
  have hM2z := hM2
  have hM3z := hM3
  have hBz := hBa
  obtain ⟨wz, rfl⟩ : ∃ x, x = w1 := ⟨_, rfl⟩
  clear hX1 hM1 hM2 hM3 hBa
  go_wp2_with fail
  refine wp_loop_rounds 4 ?_
  rw [rounds_succ]
  go_wp2_with fail
  have hX1a := hXz.alloc (Obj.cells #[Value.int .u8 1, Value.int .i64 32704, Value.slice (some ⟨M1, 0, none⟩) 2 2] 61)
  have hM11a := hM1z.alloc (Obj.cells #[Value.int .u8 1, Value.int .i64 32704, Value.slice (some ⟨M1, 0, none⟩) 2 2] 61)
  have hM21a := hM2z.alloc (Obj.cells #[Value.int .u8 1, Value.int .i64 32704, Value.slice (some ⟨M1, 0, none⟩) 2 2] 61)
  have hM31a := hM3z.alloc (Obj.cells #[Value.int .u8 1, Value.int .i64 32704, Value.slice (some ⟨M1, 0, none⟩) 2 2] 61)
  have hB1a := hBz.alloc hBz.size (Obj.cells #[Value.int .u8 1, Value.int .i64 32704, Value.slice (some ⟨M1, 0, none⟩) 2 2] 61)
  have hP1a := Whole.fresh wz 61 #[Value.int .u8 1, Value.int .i64 32704, Value.slice (some ⟨M1, 0, none⟩) 2 2]
  generalize (wz.alloc (Obj.cells #[Value.int .u8 1, Value.int .i64 32704, Value.slice (some ⟨M1, 0, none⟩) 2 2] 61)) = w1a at hX1a hB1a hP1a hM11a hM21a hM31a ⊢
  clear hXz hBz hM1z hM2z hM3z
  refine (HL1.out w1a hB1a).mono ?_
  rintro e w1b ⟨rfl, hQ1b⟩
  have hX1b := hX1a.below hQ1b hX1a.lt
  have hP1b := hP1a.below hQ1b hP1a.lt
  have hM11b := hM11a.below hQ1b hM11a.lt
  have hM21b := hM21a.below hQ1b hM21a.lt
  have hM31b := hM31a.below hQ1b hM31a.lt
  have hB1b := hB1a.trans (hQ1b.mono hB1a.size)
  clear hQ1b hX1a hB1a hP1a hM11a hM21a hM31a
  have pl0 : ∀ o1, (w1b.alloc o1).cell? ⟨_, 0, none⟩ = _ := fun o1 => (hP1b.alloc o1).cell 0
  have pl1 : ∀ o1, (w1b.alloc o1).cell? ⟨_, 1, none⟩ = _ := fun o1 => (hP1b.alloc o1).cell 1
  have pl2 : ∀ o1, (w1b.alloc o1).cell? ⟨_, 2, none⟩ = _ := fun o1 => (hP1b.alloc o1).cell 2
  go_wp2_with fail
  clear pl0 pl1 pl2
  have hX1c := hX1b.alloc (Obj.cells #[.string t1, .int .u8 m1, .int .u8 k1, .int .u8 r1, .int .u16 c1, .int .u16 s1, .int .u16 z1] 39)
  have hP1c := hP1b.alloc (Obj.cells #[.string t1, .int .u8 m1, .int .u8 k1, .int .u8 r1, .int .u16 c1, .int .u16 s1, .int .u16 z1] 39)
  have hM11c := hM11b.alloc (Obj.cells #[.string t1, .int .u8 m1, .int .u8 k1, .int .u8 r1, .int .u16 c1, .int .u16 s1, .int .u16 z1] 39)
  have hM21c := hM21b.alloc (Obj.cells #[.string t1, .int .u8 m1, .int .u8 k1, .int .u8 r1, .int .u16 c1, .int .u16 s1, .int .u16 z1] 39)
  have hM31c := hM31b.alloc (Obj.cells #[.string t1, .int .u8 m1, .int .u8 k1, .int .u8 r1, .int .u16 c1, .int .u16 s1, .int .u16 z1] 39)
  have hB1c := hB1b.alloc hB1b.size (Obj.cells #[.string t1, .int .u8 m1, .int .u8 k1, .int .u8 r1, .int .u16 c1, .int .u16 s1, .int .u16 z1] 39)
  have hC1c := Whole.fresh w1b 39 #[.string t1, .int .u8 m1, .int .u8 k1, .int .u8 r1, .int .u16 c1, .int .u16 s1, .int .u16 z1]
  generalize (w1b.alloc (Obj.cells #[.string t1, .int .u8 m1, .int .u8 k1, .int .u8 r1, .int .u16 c1, .int .u16 s1, .int .u16 z1] 39)) = w1c at hX1c hB1c hP1c hC1c hM11c hM21c hM31c ⊢
  clear hX1b hB1b hP1b hM11b hM21b hM31b
  refine (HP1.out M1 _ hM11c).mono ?_
  rintro e w1d ⟨rfl, hQ1d⟩
  have hX1d := hX1c.below hQ1d hX1c.lt
  have hP1d := hP1c.below hQ1d hP1c.lt
  have hC1d := hC1c.below hQ1d hC1c.lt
  have hM11d := hM11c.below hQ1d hM11c.lt
  have hM21d := hM21c.below hQ1d hM21c.lt
  have hM31d := hM31c.below hQ1d hM31c.lt
  have hB1d := hB1c.trans (hQ1d.mono hB1c.size)
  clear hQ1d hX1c hB1c hP1c hC1c hM11c hM21c hM31c
  have fx := hX1d.free
  have x0 := hX1d.cell 0
  have x1 := hX1d.cell 1
  have x2 := hX1d.cell 2
  have x3 := hX1d.cell 3
  have x4 := hX1d.cell 4
  have x5 := hX1d.cell 5
  have x6 := hX1d.cell 6
  have p0 := hP1d.cell 0
  have p1 := hP1d.cell 1
  have p2 := hP1d.cell 2
  have y0 := hC1d.cell 0
  have y1 := hC1d.cell 1
  have y2 := hC1d.cell 2
  have y3 := hC1d.cell 3
  have y4 := hC1d.cell 4
  have y5 := hC1d.cell 5
  have y6 := hC1d.cell 6
  go_wp2_with fail
  go_region
  have hX1e := Whole.as (((((((hX1d.put 0 (.string t1)).put 1 (.int .u8 m1)).put 2 (.int .u8 k1)).put 3 (.int .u8 r1)).put 4 (.int .u16 c1)).put 5 (.int .u16 s1)).put 6 (.int .u16 z1)).drew (ds := #[.string t1, .int .u8 m1, .int .u8 k1, .int .u8 r1, .int .u16 c1, .int .u16 s1, .int .u16 z1]) rfl
  have hB1e := (((((((hB1d.setCell (p := ⟨w.heap.size, 0, none⟩) (Nat.le_refl _) (.string t1)).setCell (p := ⟨w.heap.size, 1, none⟩) (Nat.le_refl _) (.int .u8 m1)).setCell (p := ⟨w.heap.size, 2, none⟩) (Nat.le_refl _) (.int .u8 k1)).setCell (p := ⟨w.heap.size, 3, none⟩) (Nat.le_refl _) (.int .u8 r1)).setCell (p := ⟨w.heap.size, 4, none⟩) (Nat.le_refl _) (.int .u16 c1)).setCell (p := ⟨w.heap.size, 5, none⟩) (Nat.le_refl _) (.int .u16 s1)).setCell (p := ⟨w.heap.size, 6, none⟩) (Nat.le_refl _) (.int .u16 z1)).drew
  have hM11e := (((((((hM11d.away (p := ⟨w.heap.size, 0, none⟩) nM1 (.string t1)).away (p := ⟨w.heap.size, 1, none⟩) nM1 (.int .u8 m1)).away (p := ⟨w.heap.size, 2, none⟩) nM1 (.int .u8 k1)).away (p := ⟨w.heap.size, 3, none⟩) nM1 (.int .u8 r1)).away (p := ⟨w.heap.size, 4, none⟩) nM1 (.int .u16 c1)).away (p := ⟨w.heap.size, 5, none⟩) nM1 (.int .u16 s1)).away (p := ⟨w.heap.size, 6, none⟩) nM1 (.int .u16 z1)).drew
  have hM21e := (((((((hM21d.away (p := ⟨w.heap.size, 0, none⟩) nM2 (.string t1)).away (p := ⟨w.heap.size, 1, none⟩) nM2 (.int .u8 m1)).away (p := ⟨w.heap.size, 2, none⟩) nM2 (.int .u8 k1)).away (p := ⟨w.heap.size, 3, none⟩) nM2 (.int .u8 r1)).away (p := ⟨w.heap.size, 4, none⟩) nM2 (.int .u16 c1)).away (p := ⟨w.heap.size, 5, none⟩) nM2 (.int .u16 s1)).away (p := ⟨w.heap.size, 6, none⟩) nM2 (.int .u16 z1)).drew
  have hM31e := (((((((hM31d.away (p := ⟨w.heap.size, 0, none⟩) nM3 (.string t1)).away (p := ⟨w.heap.size, 1, none⟩) nM3 (.int .u8 m1)).away (p := ⟨w.heap.size, 2, none⟩) nM3 (.int .u8 k1)).away (p := ⟨w.heap.size, 3, none⟩) nM3 (.int .u8 r1)).away (p := ⟨w.heap.size, 4, none⟩) nM3 (.int .u16 c1)).away (p := ⟨w.heap.size, 5, none⟩) nM3 (.int .u16 s1)).away (p := ⟨w.heap.size, 6, none⟩) nM3 (.int .u16 z1)).drew
  generalize (((((((w1d.setCell ⟨w.heap.size, 0, none⟩ (.string t1)).setCell ⟨w.heap.size, 1, none⟩ (.int .u8 m1)).setCell ⟨w.heap.size, 2, none⟩ (.int .u8 k1)).setCell ⟨w.heap.size, 3, none⟩ (.int .u8 r1)).setCell ⟨w.heap.size, 4, none⟩ (.int .u16 c1)).setCell ⟨w.heap.size, 5, none⟩ (.int .u16 s1)).setCell ⟨w.heap.size, 6, none⟩ (.int .u16 z1)).drew = w1e at hX1e hB1e hM11e hM21e hM31e ⊢
  clear fx x0 x1 x2 x3 x4 x5 x6 p0 p1 p2 y0 y1 y2 y3 y4 y5 y6 hX1d hB1d hP1d hC1d hM11d hM21d hM31d
  go_wp2_with fail
  rw [rounds_succ]
  go_wp2_with fail
  have hX2a := hX1e.alloc (Obj.cells #[Value.int .u8 2, Value.int .i64 65472, Value.slice (some ⟨M2, 0, none⟩) 1 1] 61)
  have hM12a := hM11e.alloc (Obj.cells #[Value.int .u8 2, Value.int .i64 65472, Value.slice (some ⟨M2, 0, none⟩) 1 1] 61)
  have hM22a := hM21e.alloc (Obj.cells #[Value.int .u8 2, Value.int .i64 65472, Value.slice (some ⟨M2, 0, none⟩) 1 1] 61)
  have hM32a := hM31e.alloc (Obj.cells #[Value.int .u8 2, Value.int .i64 65472, Value.slice (some ⟨M2, 0, none⟩) 1 1] 61)
  have hB2a := hB1e.alloc hB1e.size (Obj.cells #[Value.int .u8 2, Value.int .i64 65472, Value.slice (some ⟨M2, 0, none⟩) 1 1] 61)
  have hP2a := Whole.fresh w1e 61 #[Value.int .u8 2, Value.int .i64 65472, Value.slice (some ⟨M2, 0, none⟩) 1 1]
  generalize (w1e.alloc (Obj.cells #[Value.int .u8 2, Value.int .i64 65472, Value.slice (some ⟨M2, 0, none⟩) 1 1] 61)) = w2a at hX2a hB2a hP2a hM12a hM22a hM32a ⊢
  clear hX1e hB1e hM11e hM21e hM31e
  refine (HL2.out w2a hB2a).mono ?_
  rintro e w2b ⟨rfl, hQ2b⟩
  have hX2b := hX2a.below hQ2b hX2a.lt
  have hP2b := hP2a.below hQ2b hP2a.lt
  have hM12b := hM12a.below hQ2b hM12a.lt
  have hM22b := hM22a.below hQ2b hM22a.lt
  have hM32b := hM32a.below hQ2b hM32a.lt
  have hB2b := hB2a.trans (hQ2b.mono hB2a.size)
  clear hQ2b hX2a hB2a hP2a hM12a hM22a hM32a
  have pl0 : ∀ o1, (w2b.alloc o1).cell? ⟨_, 0, none⟩ = _ := fun o1 => (hP2b.alloc o1).cell 0
  have pl1 : ∀ o1, (w2b.alloc o1).cell? ⟨_, 1, none⟩ = _ := fun o1 => (hP2b.alloc o1).cell 1
  have pl2 : ∀ o1, (w2b.alloc o1).cell? ⟨_, 2, none⟩ = _ := fun o1 => (hP2b.alloc o1).cell 2
  go_wp2_with fail
  clear pl0 pl1 pl2
  have hX2c := hX2b.alloc (Obj.cells #[.string t2, .int .u8 m2, .int .u8 k2, .int .u8 r2, .int .u16 c2, .int .u16 s2, .int .u16 z2] 39)
  have hP2c := hP2b.alloc (Obj.cells #[.string t2, .int .u8 m2, .int .u8 k2, .int .u8 r2, .int .u16 c2, .int .u16 s2, .int .u16 z2] 39)
  have hM12c := hM12b.alloc (Obj.cells #[.string t2, .int .u8 m2, .int .u8 k2, .int .u8 r2, .int .u16 c2, .int .u16 s2, .int .u16 z2] 39)
  have hM22c := hM22b.alloc (Obj.cells #[.string t2, .int .u8 m2, .int .u8 k2, .int .u8 r2, .int .u16 c2, .int .u16 s2, .int .u16 z2] 39)
  have hM32c := hM32b.alloc (Obj.cells #[.string t2, .int .u8 m2, .int .u8 k2, .int .u8 r2, .int .u16 c2, .int .u16 s2, .int .u16 z2] 39)
  have hB2c := hB2b.alloc hB2b.size (Obj.cells #[.string t2, .int .u8 m2, .int .u8 k2, .int .u8 r2, .int .u16 c2, .int .u16 s2, .int .u16 z2] 39)
  have hC2c := Whole.fresh w2b 39 #[.string t2, .int .u8 m2, .int .u8 k2, .int .u8 r2, .int .u16 c2, .int .u16 s2, .int .u16 z2]
  generalize (w2b.alloc (Obj.cells #[.string t2, .int .u8 m2, .int .u8 k2, .int .u8 r2, .int .u16 c2, .int .u16 s2, .int .u16 z2] 39)) = w2c at hX2c hB2c hP2c hC2c hM12c hM22c hM32c ⊢
  clear hX2b hB2b hP2b hM12b hM22b hM32b
  refine (HP2.out M2 _ hM22c).mono ?_
  rintro e w2d ⟨rfl, hQ2d⟩
  have hX2d := hX2c.below hQ2d hX2c.lt
  have hP2d := hP2c.below hQ2d hP2c.lt
  have hC2d := hC2c.below hQ2d hC2c.lt
  have hM12d := hM12c.below hQ2d hM12c.lt
  have hM22d := hM22c.below hQ2d hM22c.lt
  have hM32d := hM32c.below hQ2d hM32c.lt
  have hB2d := hB2c.trans (hQ2d.mono hB2c.size)
  clear hQ2d hX2c hB2c hP2c hC2c hM12c hM22c hM32c
  have fx := hX2d.free
  have x0 := hX2d.cell 0
  have x1 := hX2d.cell 1
  have x2 := hX2d.cell 2
  have x3 := hX2d.cell 3
  have x4 := hX2d.cell 4
  have x5 := hX2d.cell 5
  have x6 := hX2d.cell 6
  have p0 := hP2d.cell 0
  have p1 := hP2d.cell 1
  have p2 := hP2d.cell 2
  have y0 := hC2d.cell 0
  have y1 := hC2d.cell 1
  have y2 := hC2d.cell 2
  have y3 := hC2d.cell 3
  have y4 := hC2d.cell 4
  have y5 := hC2d.cell 5
  have y6 := hC2d.cell 6
  go_wp2_with fail
  clear fx x0 x1 x2 x3 x4 x5 x6 p0 p1 p2 y0 y1 y2 y3 y4 y5 y6 hP2d hC2d
  rw [rounds_succ]
  go_wp2_with fail
  have hX3a := hX2d.alloc (Obj.cells #[Value.int .u8 3, Value.int .i64 4259776, Value.slice (some ⟨M3, 0, none⟩) 1 1] 61)
  have hM13a := hM12d.alloc (Obj.cells #[Value.int .u8 3, Value.int .i64 4259776, Value.slice (some ⟨M3, 0, none⟩) 1 1] 61)
  have hM23a := hM22d.alloc (Obj.cells #[Value.int .u8 3, Value.int .i64 4259776, Value.slice (some ⟨M3, 0, none⟩) 1 1] 61)
  have hM33a := hM32d.alloc (Obj.cells #[Value.int .u8 3, Value.int .i64 4259776, Value.slice (some ⟨M3, 0, none⟩) 1 1] 61)
  have hB3a := hB2d.alloc hB2d.size (Obj.cells #[Value.int .u8 3, Value.int .i64 4259776, Value.slice (some ⟨M3, 0, none⟩) 1 1] 61)
  have hP3a := Whole.fresh w2d 61 #[Value.int .u8 3, Value.int .i64 4259776, Value.slice (some ⟨M3, 0, none⟩) 1 1]
  generalize (w2d.alloc (Obj.cells #[Value.int .u8 3, Value.int .i64 4259776, Value.slice (some ⟨M3, 0, none⟩) 1 1] 61)) = w3a at hX3a hB3a hP3a hM13a hM23a hM33a ⊢
  clear hX2d hB2d hM12d hM22d hM32d
  refine (HL3.out w3a hB3a).mono ?_
  rintro e w3b ⟨rfl, hQ3b⟩
  have hX3b := hX3a.below hQ3b hX3a.lt
  have hP3b := hP3a.below hQ3b hP3a.lt
  have hM13b := hM13a.below hQ3b hM13a.lt
  have hM23b := hM23a.below hQ3b hM23a.lt
  have hM33b := hM33a.below hQ3b hM33a.lt
  have hB3b := hB3a.trans (hQ3b.mono hB3a.size)
  clear hQ3b hX3a hB3a hP3a hM13a hM23a hM33a
  have pl0 : ∀ o1, (w3b.alloc o1).cell? ⟨_, 0, none⟩ = _ := fun o1 => (hP3b.alloc o1).cell 0
  have pl1 : ∀ o1, (w3b.alloc o1).cell? ⟨_, 1, none⟩ = _ := fun o1 => (hP3b.alloc o1).cell 1
  have pl2 : ∀ o1, (w3b.alloc o1).cell? ⟨_, 2, none⟩ = _ := fun o1 => (hP3b.alloc o1).cell 2
  go_wp2_with fail
  clear pl0 pl1 pl2
  have hX3c := hX3b.alloc (Obj.cells #[.string t3, .int .u8 m3, .int .u8 k3, .int .u8 r3, .int .u16 c3, .int .u16 s3, .int .u16 z3] 39)
  have hP3c := hP3b.alloc (Obj.cells #[.string t3, .int .u8 m3, .int .u8 k3, .int .u8 r3, .int .u16 c3, .int .u16 s3, .int .u16 z3] 39)
  have hM13c := hM13b.alloc (Obj.cells #[.string t3, .int .u8 m3, .int .u8 k3, .int .u8 r3, .int .u16 c3, .int .u16 s3, .int .u16 z3] 39)
  have hM23c := hM23b.alloc (Obj.cells #[.string t3, .int .u8 m3, .int .u8 k3, .int .u8 r3, .int .u16 c3, .int .u16 s3, .int .u16 z3] 39)
  have hM33c := hM33b.alloc (Obj.cells #[.string t3, .int .u8 m3, .int .u8 k3, .int .u8 r3, .int .u16 c3, .int .u16 s3, .int .u16 z3] 39)
  have hB3c := hB3b.alloc hB3b.size (Obj.cells #[.string t3, .int .u8 m3, .int .u8 k3, .int .u8 r3, .int .u16 c3, .int .u16 s3, .int .u16 z3] 39)
  have hC3c := Whole.fresh w3b 39 #[.string t3, .int .u8 m3, .int .u8 k3, .int .u8 r3, .int .u16 c3, .int .u16 s3, .int .u16 z3]
  generalize (w3b.alloc (Obj.cells #[.string t3, .int .u8 m3, .int .u8 k3, .int .u8 r3, .int .u16 c3, .int .u16 s3, .int .u16 z3] 39)) = w3c at hX3c hB3c hP3c hC3c hM13c hM23c hM33c ⊢
  clear hX3b hB3b hP3b hM13b hM23b hM33b
  refine (HP3.out M3 _ hM33c).mono ?_
  rintro e w3d ⟨rfl, hQ3d⟩
  have hX3d := hX3c.below hQ3d hX3c.lt
  have hP3d := hP3c.below hQ3d hP3c.lt
  have hC3d := hC3c.below hQ3d hC3c.lt
  have hM13d := hM13c.below hQ3d hM13c.lt
  have hM23d := hM23c.below hQ3d hM23c.lt
  have hM33d := hM33c.below hQ3d hM33c.lt
  have hB3d := hB3c.trans (hQ3d.mono hB3c.size)
  clear hQ3d hX3c hB3c hP3c hC3c hM13c hM23c hM33c
  have fx := hX3d.free
  have x0 := hX3d.cell 0
  have x1 := hX3d.cell 1
  have x2 := hX3d.cell 2
  have x3 := hX3d.cell 3
  have x4 := hX3d.cell 4
  have x5 := hX3d.cell 5
  have x6 := hX3d.cell 6
  have p0 := hP3d.cell 0
  have p1 := hP3d.cell 1
  have p2 := hP3d.cell 2
  have y0 := hC3d.cell 0
  have y1 := hC3d.cell 1
  have y2 := hC3d.cell 2
  have y3 := hC3d.cell 3
  have y4 := hC3d.cell 4
  have y5 := hC3d.cell 5
  have y6 := hC3d.cell 6
  go_wp2_with fail
  clear fx x0 x1 x2 x3 x4 x5 x6 p0 p1 p2 y0 y1 y2 y3 y4 y5 y6 hP3d hC3d
  rw [rounds_succ]
  have fx := hX3d.free
  have x0 := hX3d.cell 0
  have x1 := hX3d.cell 1
  have x2 := hX3d.cell 2
  have x3 := hX3d.cell 3
  have x4 := hX3d.cell 4
  have x5 := hX3d.cell 5
  have x6 := hX3d.cell 6
  go_wp2_with fail
  go_region
  go_wp2_with fail
  rw [Exit.noGoto_ret]
  refine bodyPost_ret (results_pair2 (fn := Tryd.f22) (p := 3) (u := 2) (ty := 39) rfl _ _ w.heap.size _ _ _ ?_ ((((((((hX3d.put 0 _).put 1 _).put 2 _).put 3 _).put 4 _).put 5 _).put 6 _).drew) Tryd.underlying39 rfl ?_) ?_ ⟨?_, ?_⟩
  · rfl
  · kernel_rfl
  · rfl
  · rfl
  · exact (((((((hB3d.setCell (p := ⟨w.heap.size, 0, none⟩) (Nat.le_refl _) _).setCell (p := ⟨w.heap.size, 1, none⟩) (Nat.le_refl _) _).setCell (p := ⟨w.heap.size, 2, none⟩) (Nat.le_refl _) _).setCell (p := ⟨w.heap.size, 3, none⟩) (Nat.le_refl _) _).setCell (p := ⟨w.heap.size, 4, none⟩) (Nat.le_refl _) _).setCell (p := ⟨w.heap.size, 5, none⟩) (Nat.le_refl _) _).setCell (p := ⟨w.heap.size, 6, none⟩) (Nat.le_refl _) _).drew

theorem bestC01_any (n cap : Nat) (a : Option Addr) (f : Nat → Nat) (w : World) (hcap : n ≤ cap) (h : Row w a n f) (hn0 : 4259840 ≤ n) (h2 : ¬ scN f 1 < scN f 2) (h3 : scN f 1 < scN f 3) :
    Calls Tryd.prog 22 #[.slice a n cap] w fun e w' => e = .returned (.tuple #[.int .u8 3, cardV (at' f (posOf 3))]) ∧ Below w.heap.size w w' := by
  have hb1 : ∀ i, i < 64 → at' f (posOf 1) i < 256 := fun i hi => h.1 (32704 + i) (by omega)
  obtain ⟨t1, m1, k1, r1, c1, s1, z1, e1, q1, ht1, hm1, hc1, hs1⟩ := card_parts f 1 hb1
  have HL1 := fun W (hW : Below w.heap.size w W) => look_any 1 n cap a f W (by decide) hcap (h.below hW)
  rw [show lookV 1 n f = .tuple #[cardV (at' f (posOf 1)), .int .i64 0] by unfold lookV; rw [if_neg (by decide), if_neg (by show ¬ n < 32704 + 64; omega)], e1] at HL1
  have hb2 : ∀ i, i < 64 → at' f (posOf 2) i < 256 := fun i hi => h.1 (65472 + i) (by omega)
  obtain ⟨t2, m2, k2, r2, c2, s2, z2, e2, q2, ht2, hm2, hc2, hs2⟩ := card_parts f 2 hb2
  have HL2 := fun W (hW : Below w.heap.size w W) => look_any 2 n cap a f W (by decide) hcap (h.below hW)
  rw [show lookV 2 n f = .tuple #[cardV (at' f (posOf 2)), .int .i64 0] by unfold lookV; rw [if_neg (by decide), if_neg (by show ¬ n < 65472 + 64; omega)], e2] at HL2
  have hb3 : ∀ i, i < 64 → at' f (posOf 3) i < 256 := fun i hi => h.1 (4259776 + i) (by omega)
  obtain ⟨t3, m3, k3, r3, c3, s3, z3, e3, q3, ht3, hm3, hc3, hs3⟩ := card_parts f 3 hb3
  have HL3 := fun W (hW : Below w.heap.size w W) => look_any 3 n cap a f W (by decide) hcap (h.below hW)
  rw [show lookV 3 n f = .tuple #[cardV (at' f (posOf 3)), .int .i64 0] by unfold lookV; rw [if_neg (by decide), if_neg (by show ¬ n < 4259776 + 64; omega)], e3] at HL3
  rw [e3]
  have HP1 := fun M W (hW : Whole W M 5 (modesOf 1)) => pscore_any t1 m1 k1 r1 c1 s1 z1 1 M W (by decide) ht1 hm1 hW
  rw [← q1] at HP1
  have lo1 : -4 ≤ scN f 1 := by rw [q1]; exact scoreV_low _ _ _ _ _ _
  have HP2 := fun M W (hW : Whole W M 5 (modesOf 2)) => pscore_any t2 m2 k2 r2 c2 s2 z2 2 M W (by decide) ht2 hm2 hW
  rw [← q2] at HP2
  have HP3 := fun M W (hW : Whole W M 5 (modesOf 3)) => pscore_any t3 m3 k3 r3 c3 s3 z3 3 M W (by decide) ht3 hm3 hW
  rw [← q3] at HP3
  clear q1 e1 hb1 q2 e2 hb2 q3 e3 hb3
  generalize scN f 1 = sc1 at *
  generalize scN f 2 = sc2 at *
  generalize scN f 3 = sc3 at *
  replace HL1 := Lib.hid HL1
  replace HP1 := Lib.hid HP1
  replace HL2 := Lib.hid HL2
  replace HP2 := Lib.hid HP2
  replace HL3 := Lib.hid HL3
  replace HP3 := Lib.hid HP3
  unfold cardA at *
  go_enter Tryd.func22, Tryd.ntmps22
  go_wp2_with fail
  have hB0 : Below w.heap.size w (w.alloc (Obj.cells #[Value.string { data := #[] }, Value.int IntKind.u8 0, Value.int IntKind.u8 0, Value.int IntKind.u8 0, Value.int IntKind.u16 0, Value.int IntKind.u16 0, Value.int IntKind.u16 0] 39)) := (Below.refl _ w).alloc (Nat.le_refl _) _
  have hX0 := Whole.fresh w 39 #[Value.string { data := #[] }, Value.int IntKind.u8 0, Value.int IntKind.u8 0, Value.int IntKind.u8 0, Value.int IntKind.u16 0, Value.int IntKind.u16 0, Value.int IntKind.u16 0]
  generalize (w.alloc (Obj.cells #[Value.string { data := #[] }, Value.int IntKind.u8 0, Value.int IntKind.u8 0, Value.int IntKind.u8 0, Value.int IntKind.u16 0, Value.int IntKind.u16 0, Value.int IntKind.u16 0] 39)) = W0 at hB0 hX0 ⊢
  go_step3
  go_wp2_with fail
  go_step3
  go_wp2_with fail
  refine (plans_any W0).mono ?_
  rintro e w1 ⟨M1, M2, M3, rfl, hM1, hM2, hM3, b1, b2, b3, hB1⟩
  have hX1 := hX0.below hB1 hX0.lt
  have hBa := hB0.trans (hB1.mono hB0.size)
  have ix0 := index_plan0 (.int .u8 1) (.int .i64 32704) (.slice (some ⟨M1, 0, none⟩) 2 2) (.int .u8 2) (.int .i64 65472) (.slice (some ⟨M2, 0, none⟩) 1 1) (.int .u8 3) (.int .i64 4259776) (.slice (some ⟨M3, 0, none⟩) 1 1)
  have ix1 := index_plan1 (.int .u8 1) (.int .i64 32704) (.slice (some ⟨M1, 0, none⟩) 2 2) (.int .u8 2) (.int .i64 65472) (.slice (some ⟨M2, 0, none⟩) 1 1) (.int .u8 3) (.int .i64 4259776) (.slice (some ⟨M3, 0, none⟩) 1 1)
  have ix2 := index_plan2 (.int .u8 1) (.int .i64 32704) (.slice (some ⟨M1, 0, none⟩) 2 2) (.int .u8 2) (.int .i64 65472) (.slice (some ⟨M2, 0, none⟩) 1 1) (.int .u8 3) (.int .i64 4259776) (.slice (some ⟨M3, 0, none⟩) 1 1)
  have hs0 := hX0.lt
  have nM1 : M1 ≠ w.heap.size := by omega
  have nM2 : M2 ≠ w.heap.size := by omega
  have nM3 : M3 ≠ w.heap.size := by omega
  clear hX0 hB0 hB1 b1 b2 b3 hs0
  have hXz := hX1
  have hM1z := hM1
  have hM2z := hM2
  have hM3z := hM3
  have hBz := hBa
  obtain ⟨wz, rfl⟩ : ∃ x, x = w1 := ⟨_, rfl⟩
  clear hX1 hM1 hM2 hM3 hBa
  go_wp2_with fail
  refine wp_loop_rounds 4 ?_
  rw [rounds_succ]
  go_wp2_with fail
  have hX1a := hXz.alloc (Obj.cells #[Value.int .u8 1, Value.int .i64 32704, Value.slice (some ⟨M1, 0, none⟩) 2 2] 61)
  have hM11a := hM1z.alloc (Obj.cells #[Value.int .u8 1, Value.int .i64 32704, Value.slice (some ⟨M1, 0, none⟩) 2 2] 61)
  have hM21a := hM2z.alloc (Obj.cells #[Value.int .u8 1, Value.int .i64 32704, Value.slice (some ⟨M1, 0, none⟩) 2 2] 61)
  have hM31a := hM3z.alloc (Obj.cells #[Value.int .u8 1, Value.int .i64 32704, Value.slice (some ⟨M1, 0, none⟩) 2 2] 61)
  have hB1a := hBz.alloc hBz.size (Obj.cells #[Value.int .u8 1, Value.int .i64 32704, Value.slice (some ⟨M1, 0, none⟩) 2 2] 61)
  have hP1a := Whole.fresh wz 61 #[Value.int .u8 1, Value.int .i64 32704, Value.slice (some ⟨M1, 0, none⟩) 2 2]
  generalize (wz.alloc (Obj.cells #[Value.int .u8 1, Value.int .i64 32704, Value.slice (some ⟨M1, 0, none⟩) 2 2] 61)) = w1a at hX1a hB1a hP1a hM11a hM21a hM31a ⊢
  clear hXz hBz hM1z hM2z hM3z
  refine (HL1.out w1a hB1a).mono ?_
  rintro e w1b ⟨rfl, hQ1b⟩
  have hX1b := hX1a.below hQ1b hX1a.lt
  have hP1b := hP1a.below hQ1b hP1a.lt
  have hM11b := hM11a.below hQ1b hM11a.lt
  have hM21b := hM21a.below hQ1b hM21a.lt
  have hM31b := hM31a.below hQ1b hM31a.lt
  have hB1b := hB1a.trans (hQ1b.mono hB1a.size)
  clear hQ1b hX1a hB1a hP1a hM11a hM21a hM31a
  have pl0 : ∀ o1, (w1b.alloc o1).cell? ⟨_, 0, none⟩ = _ := fun o1 => (hP1b.alloc o1).cell 0
  have pl1 : ∀ o1, (w1b.alloc o1).cell? ⟨_, 1, none⟩ = _ := fun o1 => (hP1b.alloc o1).cell 1
  have pl2 : ∀ o1, (w1b.alloc o1).cell? ⟨_, 2, none⟩ = _ := fun o1 => (hP1b.alloc o1).cell 2
  go_wp2_with fail
  clear pl0 pl1 pl2
  have hX1c := hX1b.alloc (Obj.cells #[.string t1, .int .u8 m1, .int .u8 k1, .int .u8 r1, .int .u16 c1, .int .u16 s1, .int .u16 z1] 39)
  have hP1c := hP1b.alloc (Obj.cells #[.string t1, .int .u8 m1, .int .u8 k1, .int .u8 r1, .int .u16 c1, .int .u16 s1, .int .u16 z1] 39)
  have hM11c := hM11b.alloc (Obj.cells #[.string t1, .int .u8 m1, .int .u8 k1, .int .u8 r1, .int .u16 c1, .int .u16 s1, .int .u16 z1] 39)
  have hM21c := hM21b.alloc (Obj.cells #[.string t1, .int .u8 m1, .int .u8 k1, .int .u8 r1, .int .u16 c1, .int .u16 s1, .int .u16 z1] 39)
  have hM31c := hM31b.alloc (Obj.cells #[.string t1, .int .u8 m1, .int .u8 k1, .int .u8 r1, .int .u16 c1, .int .u16 s1, .int .u16 z1] 39)
  have hB1c := hB1b.alloc hB1b.size (Obj.cells #[.string t1, .int .u8 m1, .int .u8 k1, .int .u8 r1, .int .u16 c1, .int .u16 s1, .int .u16 z1] 39)
  have hC1c := Whole.fresh w1b 39 #[.string t1, .int .u8 m1, .int .u8 k1, .int .u8 r1, .int .u16 c1, .int .u16 s1, .int .u16 z1]
  generalize (w1b.alloc (Obj.cells #[.string t1, .int .u8 m1, .int .u8 k1, .int .u8 r1, .int .u16 c1, .int .u16 s1, .int .u16 z1] 39)) = w1c at hX1c hB1c hP1c hC1c hM11c hM21c hM31c ⊢
  clear hX1b hB1b hP1b hM11b hM21b hM31b
  refine (HP1.out M1 _ hM11c).mono ?_
  rintro e w1d ⟨rfl, hQ1d⟩
  have hX1d := hX1c.below hQ1d hX1c.lt
  have hP1d := hP1c.below hQ1d hP1c.lt
  have hC1d := hC1c.below hQ1d hC1c.lt
  have hM11d := hM11c.below hQ1d hM11c.lt
  have hM21d := hM21c.below hQ1d hM21c.lt
  have hM31d := hM31c.below hQ1d hM31c.lt
  have hB1d := hB1c.trans (hQ1d.mono hB1c.size)
  clear hQ1d hX1c hB1c hP1c hC1c hM11c hM21c hM31c
  have fx := hX1d.free
  have x0 := hX1d.cell 0
  have x1 := hX1d.cell 1
  have x2 := hX1d.cell 2
  have x3 := hX1d.cell 3
  have x4 := hX1d.cell 4
  have x5 := hX1d.cell 5
  have x6 := hX1d.cell 6
  have p0 := hP1d.cell 0
  have p1 := hP1d.cell 1
  have p2 := hP1d.cell 2
  have y0 := hC1d.cell 0
  have y1 := hC1d.cell 1
  have y2 := hC1d.cell 2
  have y3 := hC1d.cell 3
  have y4 := hC1d.cell 4
  have y5 := hC1d.cell 5
  have y6 := hC1d.cell 6
  go_wp2_with fail
  go_region
  have hX1e := Whole.as (((((((hX1d.put 0 (.string t1)).put 1 (.int .u8 m1)).put 2 (.int .u8 k1)).put 3 (.int .u8 r1)).put 4 (.int .u16 c1)).put 5 (.int .u16 s1)).put 6 (.int .u16 z1)).drew (ds := #[.string t1, .int .u8 m1, .int .u8 k1, .int .u8 r1, .int .u16 c1, .int .u16 s1, .int .u16 z1]) rfl
  have hB1e := (((((((hB1d.setCell (p := ⟨w.heap.size, 0, none⟩) (Nat.le_refl _) (.string t1)).setCell (p := ⟨w.heap.size, 1, none⟩) (Nat.le_refl _) (.int .u8 m1)).setCell (p := ⟨w.heap.size, 2, none⟩) (Nat.le_refl _) (.int .u8 k1)).setCell (p := ⟨w.heap.size, 3, none⟩) (Nat.le_refl _) (.int .u8 r1)).setCell (p := ⟨w.heap.size, 4, none⟩) (Nat.le_refl _) (.int .u16 c1)).setCell (p := ⟨w.heap.size, 5, none⟩) (Nat.le_refl _) (.int .u16 s1)).setCell (p := ⟨w.heap.size, 6, none⟩) (Nat.le_refl _) (.int .u16 z1)).drew
  have hM11e := (((((((hM11d.away (p := ⟨w.heap.size, 0, none⟩) nM1 (.string t1)).away (p := ⟨w.heap.size, 1, none⟩) nM1 (.int .u8 m1)).away (p := ⟨w.heap.size, 2, none⟩) nM1 (.int .u8 k1)).away (p := ⟨w.heap.size, 3, none⟩) nM1 (.int .u8 r1)).away (p := ⟨w.heap.size, 4, none⟩) nM1 (.int .u16 c1)).away (p := ⟨w.heap.size, 5, none⟩) nM1 (.int .u16 s1)).away (p := ⟨w.heap.size, 6, none⟩) nM1 (.int .u16 z1)).drew
  have hM21e := (((((((hM21d.away (p := ⟨w.heap.size, 0, none⟩) nM2 (.string t1)).away (p := ⟨w.heap.size, 1, none⟩) nM2 (.int .u8 m1)).away (p := ⟨w.heap.size, 2, none⟩) nM2 (.int .u8 k1)).away (p := ⟨w.heap.size, 3, none⟩) nM2 (.int .u8 r1)).away (p := ⟨w.heap.size, 4, none⟩) nM2 (.int .u16 c1)).away (p := ⟨w.heap.size, 5, none⟩) nM2 (.int .u16 s1)).away (p := ⟨w.heap.size, 6, none⟩) nM2 (.int .u16 z1)).drew
  have hM31e := (((((((hM31d.away (p := ⟨w.heap.size, 0, none⟩) nM3 (.string t1)).away (p := ⟨w.heap.size, 1, none⟩) nM3 (.int .u8 m1)).away (p := ⟨w.heap.size, 2, none⟩) nM3 (.int .u8 k1)).away (p := ⟨w.heap.size, 3, none⟩) nM3 (.int .u8 r1)).away (p := ⟨w.heap.size, 4, none⟩) nM3 (.int .u16 c1)).away (p := ⟨w.heap.size, 5, none⟩) nM3 (.int .u16 s1)).away (p := ⟨w.heap.size, 6, none⟩) nM3 (.int .u16 z1)).drew
  generalize (((((((w1d.setCell ⟨w.heap.size, 0, none⟩ (.string t1)).setCell ⟨w.heap.size, 1, none⟩ (.int .u8 m1)).setCell ⟨w.heap.size, 2, none⟩ (.int .u8 k1)).setCell ⟨w.heap.size, 3, none⟩ (.int .u8 r1)).setCell ⟨w.heap.size, 4, none⟩ (.int .u16 c1)).setCell ⟨w.heap.size, 5, none⟩ (.int .u16 s1)).setCell ⟨w.heap.size, 6, none⟩ (.int .u16 z1)).drew = w1e at hX1e hB1e hM11e hM21e hM31e ⊢
  clear fx x0 x1 x2 x3 x4 x5 x6 p0 p1 p2 y0 y1 y2 y3 y4 y5 y6 hX1d hB1d hP1d hC1d hM11d hM21d hM31d
  go_wp2_with fail
  rw [rounds_succ]
  go_wp2_with fail
  have hX2a := hX1e.alloc (Obj.cells #[Value.int .u8 2, Value.int .i64 65472, Value.slice (some ⟨M2, 0, none⟩) 1 1] 61)
  have hM12a := hM11e.alloc (Obj.cells #[Value.int .u8 2, Value.int .i64 65472, Value.slice (some ⟨M2, 0, none⟩) 1 1] 61)
  have hM22a := hM21e.alloc (Obj.cells #[Value.int .u8 2, Value.int .i64 65472, Value.slice (some ⟨M2, 0, none⟩) 1 1] 61)
  have hM32a := hM31e.alloc (Obj.cells #[Value.int .u8 2, Value.int .i64 65472, Value.slice (some ⟨M2, 0, none⟩) 1 1] 61)
  have hB2a := hB1e.alloc hB1e.size (Obj.cells #[Value.int .u8 2, Value.int .i64 65472, Value.slice (some ⟨M2, 0, none⟩) 1 1] 61)
  have hP2a := Whole.fresh w1e 61 #[Value.int .u8 2, Value.int .i64 65472, Value.slice (some ⟨M2, 0, none⟩) 1 1]
  generalize (w1e.alloc (Obj.cells #[Value.int .u8 2, Value.int .i64 65472, Value.slice (some ⟨M2, 0, none⟩) 1 1] 61)) = w2a at hX2a hB2a hP2a hM12a hM22a hM32a ⊢
  clear hX1e hB1e hM11e hM21e hM31e
  refine (HL2.out w2a hB2a).mono ?_
  rintro e w2b ⟨rfl, hQ2b⟩
  have hX2b := hX2a.below hQ2b hX2a.lt
  have hP2b := hP2a.below hQ2b hP2a.lt
  have hM12b := hM12a.below hQ2b hM12a.lt
  have hM22b := hM22a.below hQ2b hM22a.lt
  have hM32b := hM32a.below hQ2b hM32a.lt
  have hB2b := hB2a.trans (hQ2b.mono hB2a.size)
  clear hQ2b hX2a hB2a hP2a hM12a hM22a hM32a
  have pl0 : ∀ o1, (w2b.alloc o1).cell? ⟨_, 0, none⟩ = _ := fun o1 => (hP2b.alloc o1).cell 0
  have pl1 : ∀ o1, (w2b.alloc o1).cell? ⟨_, 1, none⟩ = _ := fun o1 => (hP2b.alloc o1).cell 1
  have pl2 : ∀ o1, (w2b.alloc o1).cell? ⟨_, 2, none⟩ = _ := fun o1 => (hP2b.alloc o1).cell 2
  go_wp2_with fail
  clear pl0 pl1 pl2
  have hX2c := hX2b.alloc (Obj.cells #[.string t2, .int .u8 m2, .int .u8 k2, .int .u8 r2, .int .u16 c2, .int .u16 s2, .int .u16 z2] 39)
  have hP2c := hP2b.alloc (Obj.cells #[.string t2, .int .u8 m2, .int .u8 k2, .int .u8 r2, .int .u16 c2, .int .u16 s2, .int .u16 z2] 39)
  have hM12c := hM12b.alloc (Obj.cells #[.string t2, .int .u8 m2, .int .u8 k2, .int .u8 r2, .int .u16 c2, .int .u16 s2, .int .u16 z2] 39)
  have hM22c := hM22b.alloc (Obj.cells #[.string t2, .int .u8 m2, .int .u8 k2, .int .u8 r2, .int .u16 c2, .int .u16 s2, .int .u16 z2] 39)
  have hM32c := hM32b.alloc (Obj.cells #[.string t2, .int .u8 m2, .int .u8 k2, .int .u8 r2, .int .u16 c2, .int .u16 s2, .int .u16 z2] 39)
  have hB2c := hB2b.alloc hB2b.size (Obj.cells #[.string t2, .int .u8 m2, .int .u8 k2, .int .u8 r2, .int .u16 c2, .int .u16 s2, .int .u16 z2] 39)
  have hC2c := Whole.fresh w2b 39 #[.string t2, .int .u8 m2, .int .u8 k2, .int .u8 r2, .int .u16 c2, .int .u16 s2, .int .u16 z2]
  generalize (w2b.alloc (Obj.cells #[.string t2, .int .u8 m2, .int .u8 k2, .int .u8 r2, .int .u16 c2, .int .u16 s2, .int .u16 z2] 39)) = w2c at hX2c hB2c hP2c hC2c hM12c hM22c hM32c ⊢
  clear hX2b hB2b hP2b hM12b hM22b hM32b
  refine (HP2.out M2 _ hM22c).mono ?_
  rintro e w2d ⟨rfl, hQ2d⟩
  have hX2d := hX2c.below hQ2d hX2c.lt
  have hP2d := hP2c.below hQ2d hP2c.lt
  have hC2d := hC2c.below hQ2d hC2c.lt
  have hM12d := hM12c.below hQ2d hM12c.lt
  have hM22d := hM22c.below hQ2d hM22c.lt
  have hM32d := hM32c.below hQ2d hM32c.lt
  have hB2d := hB2c.trans (hQ2d.mono hB2c.size)
  clear hQ2d hX2c hB2c hP2c hC2c hM12c hM22c hM32c
  have fx := hX2d.free
  have x0 := hX2d.cell 0
  have x1 := hX2d.cell 1
  have x2 := hX2d.cell 2
  have x3 := hX2d.cell 3
  have x4 := hX2d.cell 4
  have x5 := hX2d.cell 5
  have x6 := hX2d.cell 6
  have p0 := hP2d.cell 0
  have p1 := hP2d.cell 1
  have p2 := hP2d.cell 2
  have y0 := hC2d.cell 0
  have y1 := hC2d.cell 1
  have y2 := hC2d.cell 2
  have y3 := hC2d.cell 3
  have y4 := hC2d.cell 4
  have y5 := hC2d.cell 5
  have y6 := hC2d.cell 6
  go_wp2_with fail
  clear fx x0 x1 x2 x3 x4 x5 x6 p0 p1 p2 y0 y1 y2 y3 y4 y5 y6 hP2d hC2d
  rw [rounds_succ]
  go_wp2_with fail
  have hX3a := hX2d.alloc (Obj.cells #[Value.int .u8 3, Value.int .i64 4259776, Value.slice (some ⟨M3, 0, none⟩) 1 1] 61)
  have hM13a := hM12d.alloc (Obj.cells #[Value.int .u8 3, Value.int .i64 4259776, Value.slice (some ⟨M3, 0, none⟩) 1 1] 61)
  have hM23a := hM22d.alloc (Obj.cells #[Value.int .u8 3, Value.int .i64 4259776, Value.slice (some ⟨M3, 0, none⟩) 1 1] 61)
  have hM33a := hM32d.alloc (Obj.cells #[Value.int .u8 3, Value.int .i64 4259776, Value.slice (some ⟨M3, 0, none⟩) 1 1] 61)
  have hB3a := hB2d.alloc hB2d.size (Obj.cells #[Value.int .u8 3, Value.int .i64 4259776, Value.slice (some ⟨M3, 0, none⟩) 1 1] 61)
  have hP3a := Whole.fresh w2d 61 #[Value.int .u8 3, Value.int .i64 4259776, Value.slice (some ⟨M3, 0, none⟩) 1 1]
  generalize (w2d.alloc (Obj.cells #[Value.int .u8 3, Value.int .i64 4259776, Value.slice (some ⟨M3, 0, none⟩) 1 1] 61)) = w3a at hX3a hB3a hP3a hM13a hM23a hM33a ⊢
  clear hX2d hB2d hM12d hM22d hM32d
  refine (HL3.out w3a hB3a).mono ?_
  rintro e w3b ⟨rfl, hQ3b⟩
  have hX3b := hX3a.below hQ3b hX3a.lt
  have hP3b := hP3a.below hQ3b hP3a.lt
  have hM13b := hM13a.below hQ3b hM13a.lt
  have hM23b := hM23a.below hQ3b hM23a.lt
  have hM33b := hM33a.below hQ3b hM33a.lt
  have hB3b := hB3a.trans (hQ3b.mono hB3a.size)
  clear hQ3b hX3a hB3a hP3a hM13a hM23a hM33a
  have pl0 : ∀ o1, (w3b.alloc o1).cell? ⟨_, 0, none⟩ = _ := fun o1 => (hP3b.alloc o1).cell 0
  have pl1 : ∀ o1, (w3b.alloc o1).cell? ⟨_, 1, none⟩ = _ := fun o1 => (hP3b.alloc o1).cell 1
  have pl2 : ∀ o1, (w3b.alloc o1).cell? ⟨_, 2, none⟩ = _ := fun o1 => (hP3b.alloc o1).cell 2
  go_wp2_with fail
  clear pl0 pl1 pl2
  have hX3c := hX3b.alloc (Obj.cells #[.string t3, .int .u8 m3, .int .u8 k3, .int .u8 r3, .int .u16 c3, .int .u16 s3, .int .u16 z3] 39)
  have hP3c := hP3b.alloc (Obj.cells #[.string t3, .int .u8 m3, .int .u8 k3, .int .u8 r3, .int .u16 c3, .int .u16 s3, .int .u16 z3] 39)
  have hM13c := hM13b.alloc (Obj.cells #[.string t3, .int .u8 m3, .int .u8 k3, .int .u8 r3, .int .u16 c3, .int .u16 s3, .int .u16 z3] 39)
  have hM23c := hM23b.alloc (Obj.cells #[.string t3, .int .u8 m3, .int .u8 k3, .int .u8 r3, .int .u16 c3, .int .u16 s3, .int .u16 z3] 39)
  have hM33c := hM33b.alloc (Obj.cells #[.string t3, .int .u8 m3, .int .u8 k3, .int .u8 r3, .int .u16 c3, .int .u16 s3, .int .u16 z3] 39)
  have hB3c := hB3b.alloc hB3b.size (Obj.cells #[.string t3, .int .u8 m3, .int .u8 k3, .int .u8 r3, .int .u16 c3, .int .u16 s3, .int .u16 z3] 39)
  have hC3c := Whole.fresh w3b 39 #[.string t3, .int .u8 m3, .int .u8 k3, .int .u8 r3, .int .u16 c3, .int .u16 s3, .int .u16 z3]
  generalize (w3b.alloc (Obj.cells #[.string t3, .int .u8 m3, .int .u8 k3, .int .u8 r3, .int .u16 c3, .int .u16 s3, .int .u16 z3] 39)) = w3c at hX3c hB3c hP3c hC3c hM13c hM23c hM33c ⊢
  clear hX3b hB3b hP3b hM13b hM23b hM33b
  refine (HP3.out M3 _ hM33c).mono ?_
  rintro e w3d ⟨rfl, hQ3d⟩
  have hX3d := hX3c.below hQ3d hX3c.lt
  have hP3d := hP3c.below hQ3d hP3c.lt
  have hC3d := hC3c.below hQ3d hC3c.lt
  have hM13d := hM13c.below hQ3d hM13c.lt
  have hM23d := hM23c.below hQ3d hM23c.lt
  have hM33d := hM33c.below hQ3d hM33c.lt
  have hB3d := hB3c.trans (hQ3d.mono hB3c.size)
  clear hQ3d hX3c hB3c hP3c hC3c hM13c hM23c hM33c
  have fx := hX3d.free
  have x0 := hX3d.cell 0
  have x1 := hX3d.cell 1
  have x2 := hX3d.cell 2
  have x3 := hX3d.cell 3
  have x4 := hX3d.cell 4
  have x5 := hX3d.cell 5
  have x6 := hX3d.cell 6
  have p0 := hP3d.cell 0
  have p1 := hP3d.cell 1
  have p2 := hP3d.cell 2
  have y0 := hC3d.cell 0
  have y1 := hC3d.cell 1
  have y2 := hC3d.cell 2
  have y3 := hC3d.cell 3
  have y4 := hC3d.cell 4
  have y5 := hC3d.cell 5
  have y6 := hC3d.cell 6
  go_wp2_with fail
  go_region
  have hX3e := Whole.as (((((((hX3d.put 0 (.string t3)).put 1 (.int .u8 m3)).put 2 (.int .u8 k3)).put 3 (.int .u8 r3)).put 4 (.int .u16 c3)).put 5 (.int .u16 s3)).put 6 (.int .u16 z3)).drew (ds := #[.string t3, .int .u8 m3, .int .u8 k3, .int .u8 r3, .int .u16 c3, .int .u16 s3, .int .u16 z3]) rfl
  have hB3e := (((((((hB3d.setCell (p := ⟨w.heap.size, 0, none⟩) (Nat.le_refl _) (.string t3)).setCell (p := ⟨w.heap.size, 1, none⟩) (Nat.le_refl _) (.int .u8 m3)).setCell (p := ⟨w.heap.size, 2, none⟩) (Nat.le_refl _) (.int .u8 k3)).setCell (p := ⟨w.heap.size, 3, none⟩) (Nat.le_refl _) (.int .u8 r3)).setCell (p := ⟨w.heap.size, 4, none⟩) (Nat.le_refl _) (.int .u16 c3)).setCell (p := ⟨w.heap.size, 5, none⟩) (Nat.le_refl _) (.int .u16 s3)).setCell (p := ⟨w.heap.size, 6, none⟩) (Nat.le_refl _) (.int .u16 z3)).drew
  have hM13e := (((((((hM13d.away (p := ⟨w.heap.size, 0, none⟩) nM1 (.string t3)).away (p := ⟨w.heap.size, 1, none⟩) nM1 (.int .u8 m3)).away (p := ⟨w.heap.size, 2, none⟩) nM1 (.int .u8 k3)).away (p := ⟨w.heap.size, 3, none⟩) nM1 (.int .u8 r3)).away (p := ⟨w.heap.size, 4, none⟩) nM1 (.int .u16 c3)).away (p := ⟨w.heap.size, 5, none⟩) nM1 (.int .u16 s3)).away (p := ⟨w.heap.size, 6, none⟩) nM1 (.int .u16 z3)).drew
  have hM23e := (((((((hM23d.away (p := ⟨w.heap.size, 0, none⟩) nM2 (.string t3)).away (p := ⟨w.heap.size, 1, none⟩) nM2 (.int .u8 m3)).away (p := ⟨w.heap.size, 2, none⟩) nM2 (.int .u8 k3)).away (p := ⟨w.heap.size, 3, none⟩) nM2 (.int .u8 r3)).away (p := ⟨w.heap.size, 4, none⟩) nM2 (.int .u16 c3)).away (p := ⟨w.heap.size, 5, none⟩) nM2 (.int .u16 s3)).away (p := ⟨w.heap.size, 6, none⟩) nM2 (.int .u16 z3)).drew
  have hM33e := (((((((hM33d.away (p := ⟨w.heap.size, 0, none⟩) nM3 (.string t3)).away (p := ⟨w.heap.size, 1, none⟩) nM3 (.int .u8 m3)).away (p := ⟨w.heap.size, 2, none⟩) nM3 (.int .u8 k3)).away (p := ⟨w.heap.size, 3, none⟩) nM3 (.int .u8 r3)).away (p := ⟨w.heap.size, 4, none⟩) nM3 (.int .u16 c3)).away (p := ⟨w.heap.size, 5, none⟩) nM3 (.int .u16 s3)).away (p := ⟨w.heap.size, 6, none⟩) nM3 (.int .u16 z3)).drew
  generalize (((((((w3d.setCell ⟨w.heap.size, 0, none⟩ (.string t3)).setCell ⟨w.heap.size, 1, none⟩ (.int .u8 m3)).setCell ⟨w.heap.size, 2, none⟩ (.int .u8 k3)).setCell ⟨w.heap.size, 3, none⟩ (.int .u8 r3)).setCell ⟨w.heap.size, 4, none⟩ (.int .u16 c3)).setCell ⟨w.heap.size, 5, none⟩ (.int .u16 s3)).setCell ⟨w.heap.size, 6, none⟩ (.int .u16 z3)).drew = w3e at hX3e hB3e hM13e hM23e hM33e ⊢
  clear fx x0 x1 x2 x3 x4 x5 x6 p0 p1 p2 y0 y1 y2 y3 y4 y5 y6 hX3d hB3d hP3d hC3d hM13d hM23d hM33d
  go_wp2_with fail
  rw [rounds_succ]
  have fx := hX3e.free
  have x0 := hX3e.cell 0
  have x1 := hX3e.cell 1
  have x2 := hX3e.cell 2
  have x3 := hX3e.cell 3
  have x4 := hX3e.cell 4
  have x5 := hX3e.cell 5
  have x6 := hX3e.cell 6
  go_wp2_with fail
  go_region
  go_wp2_with fail
  rw [Exit.noGoto_ret]
  refine bodyPost_ret (results_pair2 (fn := Tryd.f22) (p := 3) (u := 2) (ty := 39) rfl _ _ w.heap.size _ _ _ ?_ ((((((((hX3e.put 0 _).put 1 _).put 2 _).put 3 _).put 4 _).put 5 _).put 6 _).drew) Tryd.underlying39 rfl ?_) ?_ ⟨?_, ?_⟩
  · rfl
  · kernel_rfl
  · rfl
  · rfl
  · exact (((((((hB3e.setCell (p := ⟨w.heap.size, 0, none⟩) (Nat.le_refl _) _).setCell (p := ⟨w.heap.size, 1, none⟩) (Nat.le_refl _) _).setCell (p := ⟨w.heap.size, 2, none⟩) (Nat.le_refl _) _).setCell (p := ⟨w.heap.size, 3, none⟩) (Nat.le_refl _) _).setCell (p := ⟨w.heap.size, 4, none⟩) (Nat.le_refl _) _).setCell (p := ⟨w.heap.size, 5, none⟩) (Nat.le_refl _) _).setCell (p := ⟨w.heap.size, 6, none⟩) (Nat.le_refl _) _).drew
end Go.Proofs.YtggjaoihfhianaaDoor
