/-
  Read, by the document: the cartridge that it answers.
-/
import Derived.Test.YtggjaoihfhianaaDoorRReadH
import Derived.Lib.QuietBelow
import Derived.Deep.DeepCutAuto
import Derived.Deep.CutBlock
namespace Go.Proofs.YtggjaoihfhianaaDoor
open Go.RowKit Go.Shelf Go.Sort
set_option maxRecDepth 100000
set_option maxHeartbeats 40000000

theorem rread_any (b o n c sl sc : Nat) (sa : Option Addr) (f : Nat → Nat) (w : World) (hc : n ≤ c) (hr : Row w (some ⟨b, o, none⟩) n f) (hm0 : 32768 ≤ n - headN n) (hm1 : n - headN n ≤ 8388608) :
    Calls Tryd.prog 8 #[.slice (some ⟨b, o, none⟩) n c, .slice sa sl sc] w fun e w' => ∃ bR oR, (∃ cR, e = .returned (.tuple #[pick (readE (n - headN n) (at2 f (headN n)) sl = 0) (readV (n - headN n) (at2 f (headN n)) (.slice (some ⟨bR, oR, none⟩) (n - headN n) cR) (pick (chipN (gotG (n - headN n) (at2 f (headN n)) 22) = 1) (.slice sa sl sc) (.slice none 0 0))) zeroCart, .int .i64 (readE (n - headN n) (at2 f (headN n)) sl)])) ∧ Below w.heap.size w w' ∧
      ∀ W, Below w.heap.size w W → Row W (some ⟨bR, oR, none⟩) (n - headN n) (at2 f (headN n)) := by
  have hRow : ∀ p, p ≤ n → ∀ W, Below w.heap.size w W → Row W (some ⟨b, o + p, none⟩) (n - p) (at2 f p) := fun p hp W hW => (hr.below hW).from p hp
  have hhn : headN n ≤ n := by unfold headN; split <;> omega
  have hgb : ∀ i, i < n - headN n → at2 f (headN n) i < 256 := fun i hi => hr.1 (headN n + i) (by omega)
  have hR0 := hRow (headN n) hhn
  have hcase : (n % 1024 = 512 ∧ headN n = 512) ∨ (¬ n % 1024 = 512 ∧ headN n = 0) := by
    unfold headN
    by_cases h : n % 1024 = 512
    · exact .inl ⟨h, if_pos h⟩
    · exact .inr ⟨h, if_neg h⟩
  generalize headN n = hd at *
  generalize at2 f hd = g at *
  generalize hmm : n - hd = m at *
  have hEv : readE m g sl = if chipN (gotG m g 22) = 255 then 32 else if 9 < gotG m g 24 then 33 else if chipN (gotG m g 22) = 1 ∧ sl ≠ 8192 then 34 else 0 := by unfold readE; rw [if_neg (by omega), if_neg (by omega)]
  have d1 : decide ((m : Int) < 32768) = false := decide_eq_false (by omega)
  have d2 : decide ((8388608 : Int) < (m : Int)) = false := decide_eq_false (by omega)
  have hpick : ∀ k, bestN m g = k → cardV (at' g (posOf k)) = .agg #[.string (titleS (gotG m g)), .int .u8 (gotG m g 21 : Nat), .int .u8 (gotG m g 22 : Nat), .int .u8 (gotG m g 24 : Nat), .int .u16 (gotG m g 28 + gotG m g 29 * 256 : Nat), .int .u16 (gotG m g 30 + gotG m g 31 * 256 : Nat), .int .u16 (gotG m g 60 + gotG m g 61 * 256 : Nat)] := by
    intro k hk; subst hk; rfl
  obtain ⟨hl1, hl3, hpos⟩ := bestN_in m g hm0
  have hb64 : ∀ i, i < 64 → gotG m g i < 256 := fun i hi => hgb (posOf (bestN m g) + i) (by omega)
  have hkd := hb64 22 (by decide)
  have hrs := hb64 24 (by decide)
  have hfb := fast_eq (gotG m g 21)
  unfold readV cartA zeroCart
  generalize hL : bestN m g = L at *
  have hL0 := Lib.hid hL
  replace hm0 := Lib.hid hm0
  replace hm1 := Lib.hid hm1
  have HG := Lib.hid hgb
  generalize readE m g sl = E at *
  generalize titleS (gotG m g) = tt at *
  generalize gotG m g 60 + gotG m g 61 * 256 = z at *
  generalize gotG m g 28 + gotG m g 29 * 256 = ck at *
  generalize gotG m g 30 + gotG m g 31 * 256 = sm at *
  generalize gotG m g 21 = md at *
  generalize gotG m g 22 = kd at *
  generalize gotG m g 24 = rs at *
  generalize fastB md = fb at *
  obtain ⟨rm, hrm⟩ : ∃ x, ramN rs = x := ⟨_, rfl⟩
  rw [hrm]
  replace hrm := Lib.hid hrm
  generalize hch1 : chipN kd = ch at *
  have hch := Lib.hid hch1
  clear hch1
  replace hEv := Lib.hid hEv
  have HPk := Lib.hid hpick
  clear hL hl1 hl3 hpos hb64 hgb hpick hRow hhn hr
  have HN := Lib.hid (And.intro hcase (And.intro hmm hc))
  have HR0 := Lib.hid hR0
  clear hcase hmm hc hR0
  go_enter Tryd.func8, Tryd.ntmps8
  go_upto_if 21 with (fail)
  have hX0 := Whole.fresh w 29 #[Value.int IntKind.u8 0, Value.int IntKind.u8 0, Value.slice none 0 0, Value.int IntKind.i64 0, Value.string { data := #[] }, Value.int IntKind.u16 0, Value.bool false, Value.slice none 0 0]
  have hB0 : Below w.heap.size w (w.alloc (Obj.cells #[Value.int IntKind.u8 0, Value.int IntKind.u8 0, Value.slice none 0 0, Value.int IntKind.i64 0, Value.string { data := #[] }, Value.int IntKind.u16 0, Value.bool false, Value.slice none 0 0] 29)) := (Below.refl _ w).alloc (Nat.le_refl _) _
  generalize (w.alloc (Obj.cells #[Value.int IntKind.u8 0, Value.int IntKind.u8 0, Value.slice none 0 0, Value.int IntKind.i64 0, Value.string { data := #[] }, Value.int IntKind.u16 0, Value.bool false, Value.slice none 0 0] 29)) = W0 at hX0 hB0 ⊢
  go_cut [6] (fun s6 wx => wx = W0 ∧ ∃ bR oR cR, s6 = .slice (some ⟨bR, oR, none⟩) m cR ∧ m ≤ cR ∧ Hid (∀ W, Below w.heap.size w W → Row W (some ⟨bR, oR, none⟩) m g))
  case first =>
    obtain ⟨hcase, hmm, hc⟩ := HN.out
    have hMa := hm0.out
    clear d1 d2
    rcases hcase with ⟨h1, h2⟩ | ⟨h1, h2⟩
    · have e1 : ((n : Int) % 1024 == 512) = true := by rw [beq_iff_eq]; omega
      have i1 : (512 : Int) ≤ n := by omega
      have i2 : (n : Int) ≤ c := by omega
      have i3 : ¬ c = 512 := by omega
      subst h2
      have h3 : m ≤ c - 512 := by omega
      replace hmm := Lib.hid hmm
      clear h1 hMa hc
      go_wp2_with fail
      go_meet
      exact ⟨rfl, b, o + 512, c - 512, by rw [hmm.out], h3, HR0⟩
    · have e1 : ((n : Int) % 1024 == 512) = false := by rw [beq_eq_false_iff_ne]; omega
      subst h2
      have h3 : Hid (n = m) := Lib.hid (by omega)
      have h4 : m ≤ c := by omega
      clear h1 hMa hmm hc
      go_wp2_with fail
      go_meet
      exact ⟨rfl, b, o + 0, c, by rw [h3.out]; rfl, h4, HR0⟩
  case rest =>
  obtain ⟨rfl, bR, oR, cR, rfl, hcR, HR⟩ := hcut
  clear HN HR0
  obtain ⟨t1, m1, k1, r1, c1, s1, z1, e1, q1, ht1, hm1', hc1, hs1⟩ := card_parts g 1 (fun i hi => HG.out (32704 + i) (by show 32704 + i < m; have := hm0.out; omega))
  have HL1 := fun W (hW : Below w.heap.size w W) => rlook_any 1 m cR (some ⟨bR, oR, none⟩) g W (by decide) (by have := hm1.out; omega) hcR (HR.out W hW)
  rw [show lookV 1 m g = .tuple #[cardV (at' g (posOf 1)), .int .i64 0] by unfold lookV; rw [if_neg (by decide), if_neg (by show ¬ m < 32704 + 64; have := hm0.out; omega)], e1] at HL1
  go_wp2_with fail
  refine (HL1 _ hB0).mono ?_
  rintro e w2 ⟨rfl, hQ⟩
  have hXz0 := hX0.below hQ hX0.lt
  have hBz0 := hB0.trans (hQ.mono hB0.size)
  have hGlt := hXz0.lt
  clear hQ hX0 hB0
  unfold cardA
  go_upto_block 0 with (fail)
  have hXz := hXz0.alloc (Obj.cells #[.string t1, .int .u8 m1, .int .u8 k1, .int .u8 r1, .int .u16 c1, .int .u16 s1, .int .u16 z1] 39)
  have hKz := Whole.fresh w2 39 #[.string t1, .int .u8 m1, .int .u8 k1, .int .u8 r1, .int .u16 c1, .int .u16 s1, .int .u16 z1]
  have hBz := hBz0.alloc hBz0.size (Obj.cells #[.string t1, .int .u8 m1, .int .u8 k1, .int .u8 r1, .int .u16 c1, .int .u16 s1, .int .u16 z1] 39)
  have nGK : w.heap.size ≠ w2.heap.size := by omega
  have nKb : w.heap.size ≤ w2.heap.size := by omega
  generalize (w2.alloc (Obj.cells #[.string t1, .int .u8 m1, .int .u8 k1, .int .u8 r1, .int .u16 c1, .int .u16 s1, .int .u16 z1] 39)) = wz at hXz hKz hBz ⊢
  generalize w2.heap.size = Kb at *
  clear hXz0 hBz0 hGlt HL1
  go_cut [7] (fun s7 wx => s7 = .int .u8 (L : Nat) ∧ Whole wx w.heap.size 29 #[Value.int IntKind.u8 0, Value.int IntKind.u8 0, Value.slice none 0 0, Value.int IntKind.i64 0, Value.string { data := #[] }, Value.int IntKind.u16 0, Value.bool false, Value.slice none 0 0] ∧ Whole wx Kb 39 #[.string tt, .int .u8 md, .int .u8 kd, .int .u8 rs, .int .u16 ck, .int .u16 sm, .int .u16 z] ∧ Below w.heap.size w wx)
  case first =>
    have hMa := hm0.out
    have hMb := hm1.out
    by_cases h2 : 65536 ≤ m
    · by_cases h3 : 4259840 ≤ m
      · by_cases cmp2 : scN g 1 < scN g 2
        · by_cases cmp3 : scN g 2 < scN g 3
          · have hLk : L = 3 := by
              rw [← hL0.out]
              have b2 : best2 m g = 2 := by unfold best2; rw [if_pos ⟨by show 65472 + 64 ≤ m; omega, cmp2⟩]
              unfold bestN; rw [if_pos ⟨by show 4259776 + 64 ≤ m; omega, by rw [b2]; exact cmp3⟩]
            have HS1 := fun W => rscore_any t1 m1 k1 r1 c1 s1 z1 1 W (by decide) ht1 hm1' hc1 hs1
            rw [← q1] at HS1
            obtain ⟨t2, m2, k2, r2, c2, s2, z2, e2, q2, ht2, hm2, hc2, hs2⟩ := card_parts g 2 (fun i hi => HG.out (65472 + i) (by omega))
            have HL2 := fun W (hW : Below w.heap.size w W) => rlook_any 2 m cR (some ⟨bR, oR, none⟩) g W (by decide) (by omega) hcR (HR.out W hW)
            rw [show lookV 2 m g = .tuple #[cardV (at' g (posOf 2)), .int .i64 0] by unfold lookV; rw [if_neg (by decide), if_neg (by show ¬ m < 65472 + 64; omega)], e2] at HL2
            have HS2 := fun W => rscore_any t2 m2 k2 r2 c2 s2 z2 2 W (by decide) ht2 hm2 hc2 hs2
            rw [← q2] at HS2
            obtain ⟨t3, m3, k3, r3, c3, s3, z3, e3, q3, ht3, hm3, hc3, hs3⟩ := card_parts g 3 (fun i hi => HG.out (4259776 + i) (by omega))
            have HL3 := fun W (hW : Below w.heap.size w W) => rlook_any 3 m cR (some ⟨bR, oR, none⟩) g W (by decide) (by omega) hcR (HR.out W hW)
            rw [show lookV 3 m g = .tuple #[cardV (at' g (posOf 3)), .int .i64 0] by unfold lookV; rw [if_neg (by decide), if_neg (by show ¬ m < 4259776 + 64; omega)], e3] at HL3
            have HS3 := fun W => rscore_any t3 m3 k3 r3 c3 s3 z3 3 W (by decide) ht3 hm3 hc3 hs3
            rw [← q3] at HS3
            have hpk := (HPk.out 3 hLk).symm.trans e3
            unfold cardA at *
            injection hpk with hpk
            clear q1 e1 q2 e2 q3 e3
            generalize scN g 1 = sc1 at *
            replace HS1 := Lib.hid HS1
            generalize scN g 2 = sc2 at *
            replace HS2 := Lib.hid HS2
            generalize scN g 3 = sc3 at *
            replace HS3 := Lib.hid HS3
            replace HL2 := Lib.hid HL2
            replace HL3 := Lib.hid HL3
            replace h2 := Lib.hid h2
            replace h3 := Lib.hid h3
            clear hMa hMb
            go_wp2_with fail
            refine wp_loop_rounds 3 ?_
            rw [rounds_succ]
            go_wp2_with fail
            refine (HL2.out wz hBz).mono ?_
            rintro e w2a ⟨rfl, hQ⟩
            have hX2a := hXz.below hQ hXz.lt
            have hK2a := hKz.below hQ hKz.lt
            have hB2a := hBz.trans (hQ.mono hBz.size)
            clear hQ hXz hKz hBz
            go_wp2_with fail
            have hX2b := hX2a.alloc (Obj.cells #[.string t2, .int .u8 m2, .int .u8 k2, .int .u8 r2, .int .u16 c2, .int .u16 s2, .int .u16 z2] 39)
            have hK2b := hK2a.alloc (Obj.cells #[.string t2, .int .u8 m2, .int .u8 k2, .int .u8 r2, .int .u16 c2, .int .u16 s2, .int .u16 z2] 39)
            have hB2b := hB2a.alloc hB2a.size (Obj.cells #[.string t2, .int .u8 m2, .int .u8 k2, .int .u8 r2, .int .u16 c2, .int .u16 s2, .int .u16 z2] 39)
            have hC2b := Whole.fresh w2a 39 #[.string t2, .int .u8 m2, .int .u8 k2, .int .u8 r2, .int .u16 c2, .int .u16 s2, .int .u16 z2]
            generalize (w2a.alloc (Obj.cells #[.string t2, .int .u8 m2, .int .u8 k2, .int .u8 r2, .int .u16 c2, .int .u16 s2, .int .u16 z2] 39)) = w2b at hX2b hK2b hB2b hC2b ⊢
            clear hX2a hK2a hB2a
            have kk0 := cell_regrown (show w2b.cell? ⟨_, 0, none⟩ = some _ from hK2b.cell 0)
            have pp0 := cell_regrown (show w2b.cell? ⟨_, 0, none⟩ = some _ from hC2b.cell 0)
            have kk1 := cell_regrown (show w2b.cell? ⟨_, 1, none⟩ = some _ from hK2b.cell 1)
            have pp1 := cell_regrown (show w2b.cell? ⟨_, 1, none⟩ = some _ from hC2b.cell 1)
            have kk2 := cell_regrown (show w2b.cell? ⟨_, 2, none⟩ = some _ from hK2b.cell 2)
            have pp2 := cell_regrown (show w2b.cell? ⟨_, 2, none⟩ = some _ from hC2b.cell 2)
            have kk3 := cell_regrown (show w2b.cell? ⟨_, 3, none⟩ = some _ from hK2b.cell 3)
            have pp3 := cell_regrown (show w2b.cell? ⟨_, 3, none⟩ = some _ from hC2b.cell 3)
            have kk4 := cell_regrown (show w2b.cell? ⟨_, 4, none⟩ = some _ from hK2b.cell 4)
            have pp4 := cell_regrown (show w2b.cell? ⟨_, 4, none⟩ = some _ from hC2b.cell 4)
            have kk5 := cell_regrown (show w2b.cell? ⟨_, 5, none⟩ = some _ from hK2b.cell 5)
            have pp5 := cell_regrown (show w2b.cell? ⟨_, 5, none⟩ = some _ from hC2b.cell 5)
            have kk6 := cell_regrown (show w2b.cell? ⟨_, 6, none⟩ = some _ from hK2b.cell 6)
            have pp6 := cell_regrown (show w2b.cell? ⟨_, 6, none⟩ = some _ from hC2b.cell 6)
            refine wp_region_quiet_below (by kernel_rfl) (by kernel_rfl) ?_
            repeat (quiet_step (first | (go_at_call 17; first | (with_reducible exact Calls.regrown_of (HS2.out _)) | (with_reducible exact Calls.regrown_of (HS1.out _)))))
            refine wpQuiet_nil ?_
            intro _ hw'
            obtain ⟨⟨dq, osq⟩, hw''⟩ := hw'
            subst hw''
            have hQ := below_regrown w2b dq osq
            generalize grow (redrawn w2b dq) osq = w2c at hQ ⊢
            have hX2c := hX2b.below hQ hX2b.lt
            have hK2c := hK2b.below hQ hK2b.lt
            have hC2c := hC2b.below hQ hC2b.lt
            have hB2c := hB2b.trans (hQ.mono hB2b.size)
            clear hQ hX2b hK2b hC2b hB2b kk0 pp0 kk1 pp1 kk2 pp2 kk3 pp3 kk4 pp4 kk5 pp5 kk6 pp6
            have fk := hK2c.free
            have kk0 := hK2c.cell 0
            have pp0 := hC2c.cell 0
            have kk1 := hK2c.cell 1
            have pp1 := hC2c.cell 1
            have kk2 := hK2c.cell 2
            have pp2 := hC2c.cell 2
            have kk3 := hK2c.cell 3
            have pp3 := hC2c.cell 3
            have kk4 := hK2c.cell 4
            have pp4 := hC2c.cell 4
            have kk5 := hK2c.cell 5
            have pp5 := hC2c.cell 5
            have kk6 := hK2c.cell 6
            have pp6 := hC2c.cell 6
            go_wp2_with fail
            have hX2d := (((((((hX2c.away (p := ⟨Kb, 0, none⟩) nGK (.string t2)).away (p := ⟨Kb, 1, none⟩) nGK (.int .u8 m2)).away (p := ⟨Kb, 2, none⟩) nGK (.int .u8 k2)).away (p := ⟨Kb, 3, none⟩) nGK (.int .u8 r2)).away (p := ⟨Kb, 4, none⟩) nGK (.int .u16 c2)).away (p := ⟨Kb, 5, none⟩) nGK (.int .u16 s2)).away (p := ⟨Kb, 6, none⟩) nGK (.int .u16 z2))
            have hK2d := Whole.as (((((((hK2c.put 0 (.string t2)).put 1 (.int .u8 m2)).put 2 (.int .u8 k2)).put 3 (.int .u8 r2)).put 4 (.int .u16 c2)).put 5 (.int .u16 s2)).put 6 (.int .u16 z2)) (ds := #[.string t2, .int .u8 m2, .int .u8 k2, .int .u8 r2, .int .u16 c2, .int .u16 s2, .int .u16 z2]) rfl
            have hB2d := (((((((hB2c.setCell (p := ⟨Kb, 0, none⟩) nKb (.string t2)).setCell (p := ⟨Kb, 1, none⟩) nKb (.int .u8 m2)).setCell (p := ⟨Kb, 2, none⟩) nKb (.int .u8 k2)).setCell (p := ⟨Kb, 3, none⟩) nKb (.int .u8 r2)).setCell (p := ⟨Kb, 4, none⟩) nKb (.int .u16 c2)).setCell (p := ⟨Kb, 5, none⟩) nKb (.int .u16 s2)).setCell (p := ⟨Kb, 6, none⟩) nKb (.int .u16 z2))
            generalize (((((((w2c.setCell ⟨Kb, 0, none⟩ (.string t2)).setCell ⟨Kb, 1, none⟩ (.int .u8 m2)).setCell ⟨Kb, 2, none⟩ (.int .u8 k2)).setCell ⟨Kb, 3, none⟩ (.int .u8 r2)).setCell ⟨Kb, 4, none⟩ (.int .u16 c2)).setCell ⟨Kb, 5, none⟩ (.int .u16 s2)).setCell ⟨Kb, 6, none⟩ (.int .u16 z2)) = w2d at hX2d hK2d hB2d ⊢
            clear fk hX2c hK2c hB2c hC2c kk0 pp0 kk1 pp1 kk2 pp2 kk3 pp3 kk4 pp4 kk5 pp5 kk6 pp6
            rw [rounds_succ]
            go_wp2_with fail
            refine (HL3.out w2d hB2d).mono ?_
            rintro e w3a ⟨rfl, hQ⟩
            have hX3a := hX2d.below hQ hX2d.lt
            have hK3a := hK2d.below hQ hK2d.lt
            have hB3a := hB2d.trans (hQ.mono hB2d.size)
            clear hQ hX2d hK2d hB2d
            go_wp2_with fail
            have hX3b := hX3a.alloc (Obj.cells #[.string t3, .int .u8 m3, .int .u8 k3, .int .u8 r3, .int .u16 c3, .int .u16 s3, .int .u16 z3] 39)
            have hK3b := hK3a.alloc (Obj.cells #[.string t3, .int .u8 m3, .int .u8 k3, .int .u8 r3, .int .u16 c3, .int .u16 s3, .int .u16 z3] 39)
            have hB3b := hB3a.alloc hB3a.size (Obj.cells #[.string t3, .int .u8 m3, .int .u8 k3, .int .u8 r3, .int .u16 c3, .int .u16 s3, .int .u16 z3] 39)
            have hC3b := Whole.fresh w3a 39 #[.string t3, .int .u8 m3, .int .u8 k3, .int .u8 r3, .int .u16 c3, .int .u16 s3, .int .u16 z3]
            generalize (w3a.alloc (Obj.cells #[.string t3, .int .u8 m3, .int .u8 k3, .int .u8 r3, .int .u16 c3, .int .u16 s3, .int .u16 z3] 39)) = w3b at hX3b hK3b hB3b hC3b ⊢
            clear hX3a hK3a hB3a
            have kk0 := cell_regrown (show w3b.cell? ⟨_, 0, none⟩ = some _ from hK3b.cell 0)
            have pp0 := cell_regrown (show w3b.cell? ⟨_, 0, none⟩ = some _ from hC3b.cell 0)
            have kk1 := cell_regrown (show w3b.cell? ⟨_, 1, none⟩ = some _ from hK3b.cell 1)
            have pp1 := cell_regrown (show w3b.cell? ⟨_, 1, none⟩ = some _ from hC3b.cell 1)
            have kk2 := cell_regrown (show w3b.cell? ⟨_, 2, none⟩ = some _ from hK3b.cell 2)
            have pp2 := cell_regrown (show w3b.cell? ⟨_, 2, none⟩ = some _ from hC3b.cell 2)
            have kk3 := cell_regrown (show w3b.cell? ⟨_, 3, none⟩ = some _ from hK3b.cell 3)
            have pp3 := cell_regrown (show w3b.cell? ⟨_, 3, none⟩ = some _ from hC3b.cell 3)
            have kk4 := cell_regrown (show w3b.cell? ⟨_, 4, none⟩ = some _ from hK3b.cell 4)
            have pp4 := cell_regrown (show w3b.cell? ⟨_, 4, none⟩ = some _ from hC3b.cell 4)
            have kk5 := cell_regrown (show w3b.cell? ⟨_, 5, none⟩ = some _ from hK3b.cell 5)
            have pp5 := cell_regrown (show w3b.cell? ⟨_, 5, none⟩ = some _ from hC3b.cell 5)
            have kk6 := cell_regrown (show w3b.cell? ⟨_, 6, none⟩ = some _ from hK3b.cell 6)
            have pp6 := cell_regrown (show w3b.cell? ⟨_, 6, none⟩ = some _ from hC3b.cell 6)
            refine wp_region_quiet_below (by kernel_rfl) (by kernel_rfl) ?_
            repeat (quiet_step (first | (go_at_call 17; first | (with_reducible exact Calls.regrown_of (HS3.out _)) | (with_reducible exact Calls.regrown_of (HS2.out _)))))
            refine wpQuiet_nil ?_
            intro _ hw'
            obtain ⟨⟨dq, osq⟩, hw''⟩ := hw'
            subst hw''
            have hQ := below_regrown w3b dq osq
            generalize grow (redrawn w3b dq) osq = w3c at hQ ⊢
            have hX3c := hX3b.below hQ hX3b.lt
            have hK3c := hK3b.below hQ hK3b.lt
            have hC3c := hC3b.below hQ hC3b.lt
            have hB3c := hB3b.trans (hQ.mono hB3b.size)
            clear hQ hX3b hK3b hC3b hB3b kk0 pp0 kk1 pp1 kk2 pp2 kk3 pp3 kk4 pp4 kk5 pp5 kk6 pp6
            have fk := hK3c.free
            have kk0 := hK3c.cell 0
            have pp0 := hC3c.cell 0
            have kk1 := hK3c.cell 1
            have pp1 := hC3c.cell 1
            have kk2 := hK3c.cell 2
            have pp2 := hC3c.cell 2
            have kk3 := hK3c.cell 3
            have pp3 := hC3c.cell 3
            have kk4 := hK3c.cell 4
            have pp4 := hC3c.cell 4
            have kk5 := hK3c.cell 5
            have pp5 := hC3c.cell 5
            have kk6 := hK3c.cell 6
            have pp6 := hC3c.cell 6
            go_wp2_with fail
            have hX3d := (((((((hX3c.away (p := ⟨Kb, 0, none⟩) nGK (.string t3)).away (p := ⟨Kb, 1, none⟩) nGK (.int .u8 m3)).away (p := ⟨Kb, 2, none⟩) nGK (.int .u8 k3)).away (p := ⟨Kb, 3, none⟩) nGK (.int .u8 r3)).away (p := ⟨Kb, 4, none⟩) nGK (.int .u16 c3)).away (p := ⟨Kb, 5, none⟩) nGK (.int .u16 s3)).away (p := ⟨Kb, 6, none⟩) nGK (.int .u16 z3))
            have hK3d := Whole.as (((((((hK3c.put 0 (.string t3)).put 1 (.int .u8 m3)).put 2 (.int .u8 k3)).put 3 (.int .u8 r3)).put 4 (.int .u16 c3)).put 5 (.int .u16 s3)).put 6 (.int .u16 z3)) (ds := #[.string t3, .int .u8 m3, .int .u8 k3, .int .u8 r3, .int .u16 c3, .int .u16 s3, .int .u16 z3]) rfl
            have hB3d := (((((((hB3c.setCell (p := ⟨Kb, 0, none⟩) nKb (.string t3)).setCell (p := ⟨Kb, 1, none⟩) nKb (.int .u8 m3)).setCell (p := ⟨Kb, 2, none⟩) nKb (.int .u8 k3)).setCell (p := ⟨Kb, 3, none⟩) nKb (.int .u8 r3)).setCell (p := ⟨Kb, 4, none⟩) nKb (.int .u16 c3)).setCell (p := ⟨Kb, 5, none⟩) nKb (.int .u16 s3)).setCell (p := ⟨Kb, 6, none⟩) nKb (.int .u16 z3))
            generalize (((((((w3c.setCell ⟨Kb, 0, none⟩ (.string t3)).setCell ⟨Kb, 1, none⟩ (.int .u8 m3)).setCell ⟨Kb, 2, none⟩ (.int .u8 k3)).setCell ⟨Kb, 3, none⟩ (.int .u8 r3)).setCell ⟨Kb, 4, none⟩ (.int .u16 c3)).setCell ⟨Kb, 5, none⟩ (.int .u16 s3)).setCell ⟨Kb, 6, none⟩ (.int .u16 z3)) = w3d at hX3d hK3d hB3d ⊢
            clear fk hX3c hK3c hB3c hC3c kk0 pp0 kk1 pp1 kk2 pp2 kk3 pp3 kk4 pp4 kk5 pp5 kk6 pp6
            rw [rounds_succ]
            go_wp2_with fail
            go_meet
            exact ⟨by rw [hLk]; rfl, hX3d, by rw [hpk]; exact hK3d, hB3d⟩
          · have hLk : L = 2 := by
              rw [← hL0.out]
              have b2 : best2 m g = 2 := by unfold best2; rw [if_pos ⟨by show 65472 + 64 ≤ m; omega, cmp2⟩]
              unfold bestN; rw [if_neg (by rw [b2]; exact fun h => cmp3 h.2), b2]
            have HS1 := fun W => rscore_any t1 m1 k1 r1 c1 s1 z1 1 W (by decide) ht1 hm1' hc1 hs1
            rw [← q1] at HS1
            obtain ⟨t2, m2, k2, r2, c2, s2, z2, e2, q2, ht2, hm2, hc2, hs2⟩ := card_parts g 2 (fun i hi => HG.out (65472 + i) (by omega))
            have HL2 := fun W (hW : Below w.heap.size w W) => rlook_any 2 m cR (some ⟨bR, oR, none⟩) g W (by decide) (by omega) hcR (HR.out W hW)
            rw [show lookV 2 m g = .tuple #[cardV (at' g (posOf 2)), .int .i64 0] by unfold lookV; rw [if_neg (by decide), if_neg (by show ¬ m < 65472 + 64; omega)], e2] at HL2
            have HS2 := fun W => rscore_any t2 m2 k2 r2 c2 s2 z2 2 W (by decide) ht2 hm2 hc2 hs2
            rw [← q2] at HS2
            obtain ⟨t3, m3, k3, r3, c3, s3, z3, e3, q3, ht3, hm3, hc3, hs3⟩ := card_parts g 3 (fun i hi => HG.out (4259776 + i) (by omega))
            have HL3 := fun W (hW : Below w.heap.size w W) => rlook_any 3 m cR (some ⟨bR, oR, none⟩) g W (by decide) (by omega) hcR (HR.out W hW)
            rw [show lookV 3 m g = .tuple #[cardV (at' g (posOf 3)), .int .i64 0] by unfold lookV; rw [if_neg (by decide), if_neg (by show ¬ m < 4259776 + 64; omega)], e3] at HL3
            have HS3 := fun W => rscore_any t3 m3 k3 r3 c3 s3 z3 3 W (by decide) ht3 hm3 hc3 hs3
            rw [← q3] at HS3
            have hpk := (HPk.out 2 hLk).symm.trans e2
            unfold cardA at *
            injection hpk with hpk
            clear q1 e1 q2 e2 q3 e3
            generalize scN g 1 = sc1 at *
            replace HS1 := Lib.hid HS1
            generalize scN g 2 = sc2 at *
            replace HS2 := Lib.hid HS2
            generalize scN g 3 = sc3 at *
            replace HS3 := Lib.hid HS3
            replace HL2 := Lib.hid HL2
            replace HL3 := Lib.hid HL3
            replace cmp3 := decide_eq_false cmp3
            replace h2 := Lib.hid h2
            replace h3 := Lib.hid h3
            clear hMa hMb
            go_wp2_with fail
            refine wp_loop_rounds 3 ?_
            rw [rounds_succ]
            go_wp2_with fail
            refine (HL2.out wz hBz).mono ?_
            rintro e w2a ⟨rfl, hQ⟩
            have hX2a := hXz.below hQ hXz.lt
            have hK2a := hKz.below hQ hKz.lt
            have hB2a := hBz.trans (hQ.mono hBz.size)
            clear hQ hXz hKz hBz
            go_wp2_with fail
            have hX2b := hX2a.alloc (Obj.cells #[.string t2, .int .u8 m2, .int .u8 k2, .int .u8 r2, .int .u16 c2, .int .u16 s2, .int .u16 z2] 39)
            have hK2b := hK2a.alloc (Obj.cells #[.string t2, .int .u8 m2, .int .u8 k2, .int .u8 r2, .int .u16 c2, .int .u16 s2, .int .u16 z2] 39)
            have hB2b := hB2a.alloc hB2a.size (Obj.cells #[.string t2, .int .u8 m2, .int .u8 k2, .int .u8 r2, .int .u16 c2, .int .u16 s2, .int .u16 z2] 39)
            have hC2b := Whole.fresh w2a 39 #[.string t2, .int .u8 m2, .int .u8 k2, .int .u8 r2, .int .u16 c2, .int .u16 s2, .int .u16 z2]
            generalize (w2a.alloc (Obj.cells #[.string t2, .int .u8 m2, .int .u8 k2, .int .u8 r2, .int .u16 c2, .int .u16 s2, .int .u16 z2] 39)) = w2b at hX2b hK2b hB2b hC2b ⊢
            clear hX2a hK2a hB2a
            have kk0 := cell_regrown (show w2b.cell? ⟨_, 0, none⟩ = some _ from hK2b.cell 0)
            have pp0 := cell_regrown (show w2b.cell? ⟨_, 0, none⟩ = some _ from hC2b.cell 0)
            have kk1 := cell_regrown (show w2b.cell? ⟨_, 1, none⟩ = some _ from hK2b.cell 1)
            have pp1 := cell_regrown (show w2b.cell? ⟨_, 1, none⟩ = some _ from hC2b.cell 1)
            have kk2 := cell_regrown (show w2b.cell? ⟨_, 2, none⟩ = some _ from hK2b.cell 2)
            have pp2 := cell_regrown (show w2b.cell? ⟨_, 2, none⟩ = some _ from hC2b.cell 2)
            have kk3 := cell_regrown (show w2b.cell? ⟨_, 3, none⟩ = some _ from hK2b.cell 3)
            have pp3 := cell_regrown (show w2b.cell? ⟨_, 3, none⟩ = some _ from hC2b.cell 3)
            have kk4 := cell_regrown (show w2b.cell? ⟨_, 4, none⟩ = some _ from hK2b.cell 4)
            have pp4 := cell_regrown (show w2b.cell? ⟨_, 4, none⟩ = some _ from hC2b.cell 4)
            have kk5 := cell_regrown (show w2b.cell? ⟨_, 5, none⟩ = some _ from hK2b.cell 5)
            have pp5 := cell_regrown (show w2b.cell? ⟨_, 5, none⟩ = some _ from hC2b.cell 5)
            have kk6 := cell_regrown (show w2b.cell? ⟨_, 6, none⟩ = some _ from hK2b.cell 6)
            have pp6 := cell_regrown (show w2b.cell? ⟨_, 6, none⟩ = some _ from hC2b.cell 6)
            refine wp_region_quiet_below (by kernel_rfl) (by kernel_rfl) ?_
            repeat (quiet_step (first | (go_at_call 17; first | (with_reducible exact Calls.regrown_of (HS2.out _)) | (with_reducible exact Calls.regrown_of (HS1.out _)))))
            refine wpQuiet_nil ?_
            intro _ hw'
            obtain ⟨⟨dq, osq⟩, hw''⟩ := hw'
            subst hw''
            have hQ := below_regrown w2b dq osq
            generalize grow (redrawn w2b dq) osq = w2c at hQ ⊢
            have hX2c := hX2b.below hQ hX2b.lt
            have hK2c := hK2b.below hQ hK2b.lt
            have hC2c := hC2b.below hQ hC2b.lt
            have hB2c := hB2b.trans (hQ.mono hB2b.size)
            clear hQ hX2b hK2b hC2b hB2b kk0 pp0 kk1 pp1 kk2 pp2 kk3 pp3 kk4 pp4 kk5 pp5 kk6 pp6
            have fk := hK2c.free
            have kk0 := hK2c.cell 0
            have pp0 := hC2c.cell 0
            have kk1 := hK2c.cell 1
            have pp1 := hC2c.cell 1
            have kk2 := hK2c.cell 2
            have pp2 := hC2c.cell 2
            have kk3 := hK2c.cell 3
            have pp3 := hC2c.cell 3
            have kk4 := hK2c.cell 4
            have pp4 := hC2c.cell 4
            have kk5 := hK2c.cell 5
            have pp5 := hC2c.cell 5
            have kk6 := hK2c.cell 6
            have pp6 := hC2c.cell 6
            go_wp2_with fail
            have hX2d := (((((((hX2c.away (p := ⟨Kb, 0, none⟩) nGK (.string t2)).away (p := ⟨Kb, 1, none⟩) nGK (.int .u8 m2)).away (p := ⟨Kb, 2, none⟩) nGK (.int .u8 k2)).away (p := ⟨Kb, 3, none⟩) nGK (.int .u8 r2)).away (p := ⟨Kb, 4, none⟩) nGK (.int .u16 c2)).away (p := ⟨Kb, 5, none⟩) nGK (.int .u16 s2)).away (p := ⟨Kb, 6, none⟩) nGK (.int .u16 z2))
            have hK2d := Whole.as (((((((hK2c.put 0 (.string t2)).put 1 (.int .u8 m2)).put 2 (.int .u8 k2)).put 3 (.int .u8 r2)).put 4 (.int .u16 c2)).put 5 (.int .u16 s2)).put 6 (.int .u16 z2)) (ds := #[.string t2, .int .u8 m2, .int .u8 k2, .int .u8 r2, .int .u16 c2, .int .u16 s2, .int .u16 z2]) rfl
            have hB2d := (((((((hB2c.setCell (p := ⟨Kb, 0, none⟩) nKb (.string t2)).setCell (p := ⟨Kb, 1, none⟩) nKb (.int .u8 m2)).setCell (p := ⟨Kb, 2, none⟩) nKb (.int .u8 k2)).setCell (p := ⟨Kb, 3, none⟩) nKb (.int .u8 r2)).setCell (p := ⟨Kb, 4, none⟩) nKb (.int .u16 c2)).setCell (p := ⟨Kb, 5, none⟩) nKb (.int .u16 s2)).setCell (p := ⟨Kb, 6, none⟩) nKb (.int .u16 z2))
            generalize (((((((w2c.setCell ⟨Kb, 0, none⟩ (.string t2)).setCell ⟨Kb, 1, none⟩ (.int .u8 m2)).setCell ⟨Kb, 2, none⟩ (.int .u8 k2)).setCell ⟨Kb, 3, none⟩ (.int .u8 r2)).setCell ⟨Kb, 4, none⟩ (.int .u16 c2)).setCell ⟨Kb, 5, none⟩ (.int .u16 s2)).setCell ⟨Kb, 6, none⟩ (.int .u16 z2)) = w2d at hX2d hK2d hB2d ⊢
            clear fk hX2c hK2c hB2c hC2c kk0 pp0 kk1 pp1 kk2 pp2 kk3 pp3 kk4 pp4 kk5 pp5 kk6 pp6
            rw [rounds_succ]
            go_wp2_with fail
            refine (HL3.out w2d hB2d).mono ?_
            rintro e w3a ⟨rfl, hQ⟩
            have hX3a := hX2d.below hQ hX2d.lt
            have hK3a := hK2d.below hQ hK2d.lt
            have hB3a := hB2d.trans (hQ.mono hB2d.size)
            clear hQ hX2d hK2d hB2d
            go_wp2_with fail
            have hX3b := hX3a.alloc (Obj.cells #[.string t3, .int .u8 m3, .int .u8 k3, .int .u8 r3, .int .u16 c3, .int .u16 s3, .int .u16 z3] 39)
            have hK3b := hK3a.alloc (Obj.cells #[.string t3, .int .u8 m3, .int .u8 k3, .int .u8 r3, .int .u16 c3, .int .u16 s3, .int .u16 z3] 39)
            have hB3b := hB3a.alloc hB3a.size (Obj.cells #[.string t3, .int .u8 m3, .int .u8 k3, .int .u8 r3, .int .u16 c3, .int .u16 s3, .int .u16 z3] 39)
            have hC3b := Whole.fresh w3a 39 #[.string t3, .int .u8 m3, .int .u8 k3, .int .u8 r3, .int .u16 c3, .int .u16 s3, .int .u16 z3]
            generalize (w3a.alloc (Obj.cells #[.string t3, .int .u8 m3, .int .u8 k3, .int .u8 r3, .int .u16 c3, .int .u16 s3, .int .u16 z3] 39)) = w3b at hX3b hK3b hB3b hC3b ⊢
            clear hX3a hK3a hB3a
            have kk0 := cell_regrown (show w3b.cell? ⟨_, 0, none⟩ = some _ from hK3b.cell 0)
            have pp0 := cell_regrown (show w3b.cell? ⟨_, 0, none⟩ = some _ from hC3b.cell 0)
            have kk1 := cell_regrown (show w3b.cell? ⟨_, 1, none⟩ = some _ from hK3b.cell 1)
            have pp1 := cell_regrown (show w3b.cell? ⟨_, 1, none⟩ = some _ from hC3b.cell 1)
            have kk2 := cell_regrown (show w3b.cell? ⟨_, 2, none⟩ = some _ from hK3b.cell 2)
            have pp2 := cell_regrown (show w3b.cell? ⟨_, 2, none⟩ = some _ from hC3b.cell 2)
            have kk3 := cell_regrown (show w3b.cell? ⟨_, 3, none⟩ = some _ from hK3b.cell 3)
            have pp3 := cell_regrown (show w3b.cell? ⟨_, 3, none⟩ = some _ from hC3b.cell 3)
            have kk4 := cell_regrown (show w3b.cell? ⟨_, 4, none⟩ = some _ from hK3b.cell 4)
            have pp4 := cell_regrown (show w3b.cell? ⟨_, 4, none⟩ = some _ from hC3b.cell 4)
            have kk5 := cell_regrown (show w3b.cell? ⟨_, 5, none⟩ = some _ from hK3b.cell 5)
            have pp5 := cell_regrown (show w3b.cell? ⟨_, 5, none⟩ = some _ from hC3b.cell 5)
            have kk6 := cell_regrown (show w3b.cell? ⟨_, 6, none⟩ = some _ from hK3b.cell 6)
            have pp6 := cell_regrown (show w3b.cell? ⟨_, 6, none⟩ = some _ from hC3b.cell 6)
            refine wp_region_quiet_below (by kernel_rfl) (by kernel_rfl) ?_
            repeat (quiet_step (first | (go_at_call 17; first | (with_reducible exact Calls.regrown_of (HS3.out _)) | (with_reducible exact Calls.regrown_of (HS2.out _)))))
            refine wpQuiet_nil ?_
            intro _ hw'
            obtain ⟨⟨dq, osq⟩, hw''⟩ := hw'
            subst hw''
            have hQ := below_regrown w3b dq osq
            generalize grow (redrawn w3b dq) osq = w3c at hQ ⊢
            have hX3c := hX3b.below hQ hX3b.lt
            have hK3c := hK3b.below hQ hK3b.lt
            have hC3c := hC3b.below hQ hC3b.lt
            have hB3c := hB3b.trans (hQ.mono hB3b.size)
            clear hQ hX3b hK3b hC3b hB3b kk0 pp0 kk1 pp1 kk2 pp2 kk3 pp3 kk4 pp4 kk5 pp5 kk6 pp6
            go_wp2_with fail
            clear hC3c
            rw [rounds_succ]
            go_wp2_with fail
            go_meet
            exact ⟨by rw [hLk]; rfl, hX3c, by rw [hpk]; exact hK3c, hB3c⟩
        · by_cases cmp3 : scN g 1 < scN g 3
          · have hLk : L = 3 := by
              rw [← hL0.out]
              have b2 : best2 m g = 1 := by unfold best2; rw [if_neg (fun h => cmp2 h.2)]
              unfold bestN; rw [if_pos ⟨by show 4259776 + 64 ≤ m; omega, by rw [b2]; exact cmp3⟩]
            have HS1 := fun W => rscore_any t1 m1 k1 r1 c1 s1 z1 1 W (by decide) ht1 hm1' hc1 hs1
            rw [← q1] at HS1
            obtain ⟨t2, m2, k2, r2, c2, s2, z2, e2, q2, ht2, hm2, hc2, hs2⟩ := card_parts g 2 (fun i hi => HG.out (65472 + i) (by omega))
            have HL2 := fun W (hW : Below w.heap.size w W) => rlook_any 2 m cR (some ⟨bR, oR, none⟩) g W (by decide) (by omega) hcR (HR.out W hW)
            rw [show lookV 2 m g = .tuple #[cardV (at' g (posOf 2)), .int .i64 0] by unfold lookV; rw [if_neg (by decide), if_neg (by show ¬ m < 65472 + 64; omega)], e2] at HL2
            have HS2 := fun W => rscore_any t2 m2 k2 r2 c2 s2 z2 2 W (by decide) ht2 hm2 hc2 hs2
            rw [← q2] at HS2
            obtain ⟨t3, m3, k3, r3, c3, s3, z3, e3, q3, ht3, hm3, hc3, hs3⟩ := card_parts g 3 (fun i hi => HG.out (4259776 + i) (by omega))
            have HL3 := fun W (hW : Below w.heap.size w W) => rlook_any 3 m cR (some ⟨bR, oR, none⟩) g W (by decide) (by omega) hcR (HR.out W hW)
            rw [show lookV 3 m g = .tuple #[cardV (at' g (posOf 3)), .int .i64 0] by unfold lookV; rw [if_neg (by decide), if_neg (by show ¬ m < 4259776 + 64; omega)], e3] at HL3
            have HS3 := fun W => rscore_any t3 m3 k3 r3 c3 s3 z3 3 W (by decide) ht3 hm3 hc3 hs3
            rw [← q3] at HS3
            have hpk := (HPk.out 3 hLk).symm.trans e3
            unfold cardA at *
            injection hpk with hpk
            clear q1 e1 q2 e2 q3 e3
            generalize scN g 1 = sc1 at *
            replace HS1 := Lib.hid HS1
            generalize scN g 2 = sc2 at *
            replace HS2 := Lib.hid HS2
            generalize scN g 3 = sc3 at *
            replace HS3 := Lib.hid HS3
            replace HL2 := Lib.hid HL2
            replace HL3 := Lib.hid HL3
            replace cmp2 := decide_eq_false cmp2
            replace h2 := Lib.hid h2
            replace h3 := Lib.hid h3
            clear hMa hMb
            go_wp2_with fail
            refine wp_loop_rounds 3 ?_
            rw [rounds_succ]
            go_wp2_with fail
            refine (HL2.out wz hBz).mono ?_
            rintro e w2a ⟨rfl, hQ⟩
            have hX2a := hXz.below hQ hXz.lt
            have hK2a := hKz.below hQ hKz.lt
            have hB2a := hBz.trans (hQ.mono hBz.size)
            clear hQ hXz hKz hBz
            go_wp2_with fail
            have hX2b := hX2a.alloc (Obj.cells #[.string t2, .int .u8 m2, .int .u8 k2, .int .u8 r2, .int .u16 c2, .int .u16 s2, .int .u16 z2] 39)
            have hK2b := hK2a.alloc (Obj.cells #[.string t2, .int .u8 m2, .int .u8 k2, .int .u8 r2, .int .u16 c2, .int .u16 s2, .int .u16 z2] 39)
            have hB2b := hB2a.alloc hB2a.size (Obj.cells #[.string t2, .int .u8 m2, .int .u8 k2, .int .u8 r2, .int .u16 c2, .int .u16 s2, .int .u16 z2] 39)
            have hC2b := Whole.fresh w2a 39 #[.string t2, .int .u8 m2, .int .u8 k2, .int .u8 r2, .int .u16 c2, .int .u16 s2, .int .u16 z2]
            generalize (w2a.alloc (Obj.cells #[.string t2, .int .u8 m2, .int .u8 k2, .int .u8 r2, .int .u16 c2, .int .u16 s2, .int .u16 z2] 39)) = w2b at hX2b hK2b hB2b hC2b ⊢
            clear hX2a hK2a hB2a
            have kk0 := cell_regrown (show w2b.cell? ⟨_, 0, none⟩ = some _ from hK2b.cell 0)
            have pp0 := cell_regrown (show w2b.cell? ⟨_, 0, none⟩ = some _ from hC2b.cell 0)
            have kk1 := cell_regrown (show w2b.cell? ⟨_, 1, none⟩ = some _ from hK2b.cell 1)
            have pp1 := cell_regrown (show w2b.cell? ⟨_, 1, none⟩ = some _ from hC2b.cell 1)
            have kk2 := cell_regrown (show w2b.cell? ⟨_, 2, none⟩ = some _ from hK2b.cell 2)
            have pp2 := cell_regrown (show w2b.cell? ⟨_, 2, none⟩ = some _ from hC2b.cell 2)
            have kk3 := cell_regrown (show w2b.cell? ⟨_, 3, none⟩ = some _ from hK2b.cell 3)
            have pp3 := cell_regrown (show w2b.cell? ⟨_, 3, none⟩ = some _ from hC2b.cell 3)
            have kk4 := cell_regrown (show w2b.cell? ⟨_, 4, none⟩ = some _ from hK2b.cell 4)
            have pp4 := cell_regrown (show w2b.cell? ⟨_, 4, none⟩ = some _ from hC2b.cell 4)
            have kk5 := cell_regrown (show w2b.cell? ⟨_, 5, none⟩ = some _ from hK2b.cell 5)
            have pp5 := cell_regrown (show w2b.cell? ⟨_, 5, none⟩ = some _ from hC2b.cell 5)
            have kk6 := cell_regrown (show w2b.cell? ⟨_, 6, none⟩ = some _ from hK2b.cell 6)
            have pp6 := cell_regrown (show w2b.cell? ⟨_, 6, none⟩ = some _ from hC2b.cell 6)
            refine wp_region_quiet_below (by kernel_rfl) (by kernel_rfl) ?_
            repeat (quiet_step (first | (go_at_call 17; first | (with_reducible exact Calls.regrown_of (HS2.out _)) | (with_reducible exact Calls.regrown_of (HS1.out _)))))
            refine wpQuiet_nil ?_
            intro _ hw'
            obtain ⟨⟨dq, osq⟩, hw''⟩ := hw'
            subst hw''
            have hQ := below_regrown w2b dq osq
            generalize grow (redrawn w2b dq) osq = w2c at hQ ⊢
            have hX2c := hX2b.below hQ hX2b.lt
            have hK2c := hK2b.below hQ hK2b.lt
            have hC2c := hC2b.below hQ hC2b.lt
            have hB2c := hB2b.trans (hQ.mono hB2b.size)
            clear hQ hX2b hK2b hC2b hB2b kk0 pp0 kk1 pp1 kk2 pp2 kk3 pp3 kk4 pp4 kk5 pp5 kk6 pp6
            go_wp2_with fail
            clear hC2c
            rw [rounds_succ]
            go_wp2_with fail
            refine (HL3.out w2c hB2c).mono ?_
            rintro e w3a ⟨rfl, hQ⟩
            have hX3a := hX2c.below hQ hX2c.lt
            have hK3a := hK2c.below hQ hK2c.lt
            have hB3a := hB2c.trans (hQ.mono hB2c.size)
            clear hQ hX2c hK2c hB2c
            go_wp2_with fail
            have hX3b := hX3a.alloc (Obj.cells #[.string t3, .int .u8 m3, .int .u8 k3, .int .u8 r3, .int .u16 c3, .int .u16 s3, .int .u16 z3] 39)
            have hK3b := hK3a.alloc (Obj.cells #[.string t3, .int .u8 m3, .int .u8 k3, .int .u8 r3, .int .u16 c3, .int .u16 s3, .int .u16 z3] 39)
            have hB3b := hB3a.alloc hB3a.size (Obj.cells #[.string t3, .int .u8 m3, .int .u8 k3, .int .u8 r3, .int .u16 c3, .int .u16 s3, .int .u16 z3] 39)
            have hC3b := Whole.fresh w3a 39 #[.string t3, .int .u8 m3, .int .u8 k3, .int .u8 r3, .int .u16 c3, .int .u16 s3, .int .u16 z3]
            generalize (w3a.alloc (Obj.cells #[.string t3, .int .u8 m3, .int .u8 k3, .int .u8 r3, .int .u16 c3, .int .u16 s3, .int .u16 z3] 39)) = w3b at hX3b hK3b hB3b hC3b ⊢
            clear hX3a hK3a hB3a
            have kk0 := cell_regrown (show w3b.cell? ⟨_, 0, none⟩ = some _ from hK3b.cell 0)
            have pp0 := cell_regrown (show w3b.cell? ⟨_, 0, none⟩ = some _ from hC3b.cell 0)
            have kk1 := cell_regrown (show w3b.cell? ⟨_, 1, none⟩ = some _ from hK3b.cell 1)
            have pp1 := cell_regrown (show w3b.cell? ⟨_, 1, none⟩ = some _ from hC3b.cell 1)
            have kk2 := cell_regrown (show w3b.cell? ⟨_, 2, none⟩ = some _ from hK3b.cell 2)
            have pp2 := cell_regrown (show w3b.cell? ⟨_, 2, none⟩ = some _ from hC3b.cell 2)
            have kk3 := cell_regrown (show w3b.cell? ⟨_, 3, none⟩ = some _ from hK3b.cell 3)
            have pp3 := cell_regrown (show w3b.cell? ⟨_, 3, none⟩ = some _ from hC3b.cell 3)
            have kk4 := cell_regrown (show w3b.cell? ⟨_, 4, none⟩ = some _ from hK3b.cell 4)
            have pp4 := cell_regrown (show w3b.cell? ⟨_, 4, none⟩ = some _ from hC3b.cell 4)
            have kk5 := cell_regrown (show w3b.cell? ⟨_, 5, none⟩ = some _ from hK3b.cell 5)
            have pp5 := cell_regrown (show w3b.cell? ⟨_, 5, none⟩ = some _ from hC3b.cell 5)
            have kk6 := cell_regrown (show w3b.cell? ⟨_, 6, none⟩ = some _ from hK3b.cell 6)
            have pp6 := cell_regrown (show w3b.cell? ⟨_, 6, none⟩ = some _ from hC3b.cell 6)
            refine wp_region_quiet_below (by kernel_rfl) (by kernel_rfl) ?_
            repeat (quiet_step (first | (go_at_call 17; first | (with_reducible exact Calls.regrown_of (HS3.out _)) | (with_reducible exact Calls.regrown_of (HS1.out _)))))
            refine wpQuiet_nil ?_
            intro _ hw'
            obtain ⟨⟨dq, osq⟩, hw''⟩ := hw'
            subst hw''
            have hQ := below_regrown w3b dq osq
            generalize grow (redrawn w3b dq) osq = w3c at hQ ⊢
            have hX3c := hX3b.below hQ hX3b.lt
            have hK3c := hK3b.below hQ hK3b.lt
            have hC3c := hC3b.below hQ hC3b.lt
            have hB3c := hB3b.trans (hQ.mono hB3b.size)
            clear hQ hX3b hK3b hC3b hB3b kk0 pp0 kk1 pp1 kk2 pp2 kk3 pp3 kk4 pp4 kk5 pp5 kk6 pp6
            have fk := hK3c.free
            have kk0 := hK3c.cell 0
            have pp0 := hC3c.cell 0
            have kk1 := hK3c.cell 1
            have pp1 := hC3c.cell 1
            have kk2 := hK3c.cell 2
            have pp2 := hC3c.cell 2
            have kk3 := hK3c.cell 3
            have pp3 := hC3c.cell 3
            have kk4 := hK3c.cell 4
            have pp4 := hC3c.cell 4
            have kk5 := hK3c.cell 5
            have pp5 := hC3c.cell 5
            have kk6 := hK3c.cell 6
            have pp6 := hC3c.cell 6
            go_wp2_with fail
            have hX3d := (((((((hX3c.away (p := ⟨Kb, 0, none⟩) nGK (.string t3)).away (p := ⟨Kb, 1, none⟩) nGK (.int .u8 m3)).away (p := ⟨Kb, 2, none⟩) nGK (.int .u8 k3)).away (p := ⟨Kb, 3, none⟩) nGK (.int .u8 r3)).away (p := ⟨Kb, 4, none⟩) nGK (.int .u16 c3)).away (p := ⟨Kb, 5, none⟩) nGK (.int .u16 s3)).away (p := ⟨Kb, 6, none⟩) nGK (.int .u16 z3))
            have hK3d := Whole.as (((((((hK3c.put 0 (.string t3)).put 1 (.int .u8 m3)).put 2 (.int .u8 k3)).put 3 (.int .u8 r3)).put 4 (.int .u16 c3)).put 5 (.int .u16 s3)).put 6 (.int .u16 z3)) (ds := #[.string t3, .int .u8 m3, .int .u8 k3, .int .u8 r3, .int .u16 c3, .int .u16 s3, .int .u16 z3]) rfl
            have hB3d := (((((((hB3c.setCell (p := ⟨Kb, 0, none⟩) nKb (.string t3)).setCell (p := ⟨Kb, 1, none⟩) nKb (.int .u8 m3)).setCell (p := ⟨Kb, 2, none⟩) nKb (.int .u8 k3)).setCell (p := ⟨Kb, 3, none⟩) nKb (.int .u8 r3)).setCell (p := ⟨Kb, 4, none⟩) nKb (.int .u16 c3)).setCell (p := ⟨Kb, 5, none⟩) nKb (.int .u16 s3)).setCell (p := ⟨Kb, 6, none⟩) nKb (.int .u16 z3))
            generalize (((((((w3c.setCell ⟨Kb, 0, none⟩ (.string t3)).setCell ⟨Kb, 1, none⟩ (.int .u8 m3)).setCell ⟨Kb, 2, none⟩ (.int .u8 k3)).setCell ⟨Kb, 3, none⟩ (.int .u8 r3)).setCell ⟨Kb, 4, none⟩ (.int .u16 c3)).setCell ⟨Kb, 5, none⟩ (.int .u16 s3)).setCell ⟨Kb, 6, none⟩ (.int .u16 z3)) = w3d at hX3d hK3d hB3d ⊢
            clear fk hX3c hK3c hB3c hC3c kk0 pp0 kk1 pp1 kk2 pp2 kk3 pp3 kk4 pp4 kk5 pp5 kk6 pp6
            rw [rounds_succ]
            go_wp2_with fail
            go_meet
            exact ⟨by rw [hLk]; rfl, hX3d, by rw [hpk]; exact hK3d, hB3d⟩
          · have hLk : L = 1 := by
              rw [← hL0.out]
              have b2 : best2 m g = 1 := by unfold best2; rw [if_neg (fun h => cmp2 h.2)]
              unfold bestN; rw [if_neg (by rw [b2]; exact fun h => cmp3 h.2), b2]
            have HS1 := fun W => rscore_any t1 m1 k1 r1 c1 s1 z1 1 W (by decide) ht1 hm1' hc1 hs1
            rw [← q1] at HS1
            obtain ⟨t2, m2, k2, r2, c2, s2, z2, e2, q2, ht2, hm2, hc2, hs2⟩ := card_parts g 2 (fun i hi => HG.out (65472 + i) (by omega))
            have HL2 := fun W (hW : Below w.heap.size w W) => rlook_any 2 m cR (some ⟨bR, oR, none⟩) g W (by decide) (by omega) hcR (HR.out W hW)
            rw [show lookV 2 m g = .tuple #[cardV (at' g (posOf 2)), .int .i64 0] by unfold lookV; rw [if_neg (by decide), if_neg (by show ¬ m < 65472 + 64; omega)], e2] at HL2
            have HS2 := fun W => rscore_any t2 m2 k2 r2 c2 s2 z2 2 W (by decide) ht2 hm2 hc2 hs2
            rw [← q2] at HS2
            obtain ⟨t3, m3, k3, r3, c3, s3, z3, e3, q3, ht3, hm3, hc3, hs3⟩ := card_parts g 3 (fun i hi => HG.out (4259776 + i) (by omega))
            have HL3 := fun W (hW : Below w.heap.size w W) => rlook_any 3 m cR (some ⟨bR, oR, none⟩) g W (by decide) (by omega) hcR (HR.out W hW)
            rw [show lookV 3 m g = .tuple #[cardV (at' g (posOf 3)), .int .i64 0] by unfold lookV; rw [if_neg (by decide), if_neg (by show ¬ m < 4259776 + 64; omega)], e3] at HL3
            have HS3 := fun W => rscore_any t3 m3 k3 r3 c3 s3 z3 3 W (by decide) ht3 hm3 hc3 hs3
            rw [← q3] at HS3
            have hpk := (HPk.out 1 hLk).symm.trans e1
            unfold cardA at *
            injection hpk with hpk
            clear q1 e1 q2 e2 q3 e3
            generalize scN g 1 = sc1 at *
            replace HS1 := Lib.hid HS1
            generalize scN g 2 = sc2 at *
            replace HS2 := Lib.hid HS2
            generalize scN g 3 = sc3 at *
            replace HS3 := Lib.hid HS3
            replace HL2 := Lib.hid HL2
            replace HL3 := Lib.hid HL3
            replace cmp2 := decide_eq_false cmp2
            replace cmp3 := decide_eq_false cmp3
            replace h2 := Lib.hid h2
            replace h3 := Lib.hid h3
            clear hMa hMb
            go_wp2_with fail
            refine wp_loop_rounds 3 ?_
            rw [rounds_succ]
            go_wp2_with fail
            refine (HL2.out wz hBz).mono ?_
            rintro e w2a ⟨rfl, hQ⟩
            have hX2a := hXz.below hQ hXz.lt
            have hK2a := hKz.below hQ hKz.lt
            have hB2a := hBz.trans (hQ.mono hBz.size)
            clear hQ hXz hKz hBz
            go_wp2_with fail
            have hX2b := hX2a.alloc (Obj.cells #[.string t2, .int .u8 m2, .int .u8 k2, .int .u8 r2, .int .u16 c2, .int .u16 s2, .int .u16 z2] 39)
            have hK2b := hK2a.alloc (Obj.cells #[.string t2, .int .u8 m2, .int .u8 k2, .int .u8 r2, .int .u16 c2, .int .u16 s2, .int .u16 z2] 39)
            have hB2b := hB2a.alloc hB2a.size (Obj.cells #[.string t2, .int .u8 m2, .int .u8 k2, .int .u8 r2, .int .u16 c2, .int .u16 s2, .int .u16 z2] 39)
            have hC2b := Whole.fresh w2a 39 #[.string t2, .int .u8 m2, .int .u8 k2, .int .u8 r2, .int .u16 c2, .int .u16 s2, .int .u16 z2]
            generalize (w2a.alloc (Obj.cells #[.string t2, .int .u8 m2, .int .u8 k2, .int .u8 r2, .int .u16 c2, .int .u16 s2, .int .u16 z2] 39)) = w2b at hX2b hK2b hB2b hC2b ⊢
            clear hX2a hK2a hB2a
            have kk0 := cell_regrown (show w2b.cell? ⟨_, 0, none⟩ = some _ from hK2b.cell 0)
            have pp0 := cell_regrown (show w2b.cell? ⟨_, 0, none⟩ = some _ from hC2b.cell 0)
            have kk1 := cell_regrown (show w2b.cell? ⟨_, 1, none⟩ = some _ from hK2b.cell 1)
            have pp1 := cell_regrown (show w2b.cell? ⟨_, 1, none⟩ = some _ from hC2b.cell 1)
            have kk2 := cell_regrown (show w2b.cell? ⟨_, 2, none⟩ = some _ from hK2b.cell 2)
            have pp2 := cell_regrown (show w2b.cell? ⟨_, 2, none⟩ = some _ from hC2b.cell 2)
            have kk3 := cell_regrown (show w2b.cell? ⟨_, 3, none⟩ = some _ from hK2b.cell 3)
            have pp3 := cell_regrown (show w2b.cell? ⟨_, 3, none⟩ = some _ from hC2b.cell 3)
            have kk4 := cell_regrown (show w2b.cell? ⟨_, 4, none⟩ = some _ from hK2b.cell 4)
            have pp4 := cell_regrown (show w2b.cell? ⟨_, 4, none⟩ = some _ from hC2b.cell 4)
            have kk5 := cell_regrown (show w2b.cell? ⟨_, 5, none⟩ = some _ from hK2b.cell 5)
            have pp5 := cell_regrown (show w2b.cell? ⟨_, 5, none⟩ = some _ from hC2b.cell 5)
            have kk6 := cell_regrown (show w2b.cell? ⟨_, 6, none⟩ = some _ from hK2b.cell 6)
            have pp6 := cell_regrown (show w2b.cell? ⟨_, 6, none⟩ = some _ from hC2b.cell 6)
            refine wp_region_quiet_below (by kernel_rfl) (by kernel_rfl) ?_
            repeat (quiet_step (first | (go_at_call 17; first | (with_reducible exact Calls.regrown_of (HS2.out _)) | (with_reducible exact Calls.regrown_of (HS1.out _)))))
            refine wpQuiet_nil ?_
            intro _ hw'
            obtain ⟨⟨dq, osq⟩, hw''⟩ := hw'
            subst hw''
            have hQ := below_regrown w2b dq osq
            generalize grow (redrawn w2b dq) osq = w2c at hQ ⊢
            have hX2c := hX2b.below hQ hX2b.lt
            have hK2c := hK2b.below hQ hK2b.lt
            have hC2c := hC2b.below hQ hC2b.lt
            have hB2c := hB2b.trans (hQ.mono hB2b.size)
            clear hQ hX2b hK2b hC2b hB2b kk0 pp0 kk1 pp1 kk2 pp2 kk3 pp3 kk4 pp4 kk5 pp5 kk6 pp6
            go_wp2_with fail
            clear hC2c
            rw [rounds_succ]
            go_wp2_with fail
            refine (HL3.out w2c hB2c).mono ?_
            rintro e w3a ⟨rfl, hQ⟩
            have hX3a := hX2c.below hQ hX2c.lt
            have hK3a := hK2c.below hQ hK2c.lt
            have hB3a := hB2c.trans (hQ.mono hB2c.size)
            clear hQ hX2c hK2c hB2c
            go_wp2_with fail
            have hX3b := hX3a.alloc (Obj.cells #[.string t3, .int .u8 m3, .int .u8 k3, .int .u8 r3, .int .u16 c3, .int .u16 s3, .int .u16 z3] 39)
            have hK3b := hK3a.alloc (Obj.cells #[.string t3, .int .u8 m3, .int .u8 k3, .int .u8 r3, .int .u16 c3, .int .u16 s3, .int .u16 z3] 39)
            have hB3b := hB3a.alloc hB3a.size (Obj.cells #[.string t3, .int .u8 m3, .int .u8 k3, .int .u8 r3, .int .u16 c3, .int .u16 s3, .int .u16 z3] 39)
            have hC3b := Whole.fresh w3a 39 #[.string t3, .int .u8 m3, .int .u8 k3, .int .u8 r3, .int .u16 c3, .int .u16 s3, .int .u16 z3]
            generalize (w3a.alloc (Obj.cells #[.string t3, .int .u8 m3, .int .u8 k3, .int .u8 r3, .int .u16 c3, .int .u16 s3, .int .u16 z3] 39)) = w3b at hX3b hK3b hB3b hC3b ⊢
            clear hX3a hK3a hB3a
            have kk0 := cell_regrown (show w3b.cell? ⟨_, 0, none⟩ = some _ from hK3b.cell 0)
            have pp0 := cell_regrown (show w3b.cell? ⟨_, 0, none⟩ = some _ from hC3b.cell 0)
            have kk1 := cell_regrown (show w3b.cell? ⟨_, 1, none⟩ = some _ from hK3b.cell 1)
            have pp1 := cell_regrown (show w3b.cell? ⟨_, 1, none⟩ = some _ from hC3b.cell 1)
            have kk2 := cell_regrown (show w3b.cell? ⟨_, 2, none⟩ = some _ from hK3b.cell 2)
            have pp2 := cell_regrown (show w3b.cell? ⟨_, 2, none⟩ = some _ from hC3b.cell 2)
            have kk3 := cell_regrown (show w3b.cell? ⟨_, 3, none⟩ = some _ from hK3b.cell 3)
            have pp3 := cell_regrown (show w3b.cell? ⟨_, 3, none⟩ = some _ from hC3b.cell 3)
            have kk4 := cell_regrown (show w3b.cell? ⟨_, 4, none⟩ = some _ from hK3b.cell 4)
            have pp4 := cell_regrown (show w3b.cell? ⟨_, 4, none⟩ = some _ from hC3b.cell 4)
            have kk5 := cell_regrown (show w3b.cell? ⟨_, 5, none⟩ = some _ from hK3b.cell 5)
            have pp5 := cell_regrown (show w3b.cell? ⟨_, 5, none⟩ = some _ from hC3b.cell 5)
            have kk6 := cell_regrown (show w3b.cell? ⟨_, 6, none⟩ = some _ from hK3b.cell 6)
            have pp6 := cell_regrown (show w3b.cell? ⟨_, 6, none⟩ = some _ from hC3b.cell 6)
            refine wp_region_quiet_below (by kernel_rfl) (by kernel_rfl) ?_
            repeat (quiet_step (first | (go_at_call 17; first | (with_reducible exact Calls.regrown_of (HS3.out _)) | (with_reducible exact Calls.regrown_of (HS1.out _)))))
            refine wpQuiet_nil ?_
            intro _ hw'
            obtain ⟨⟨dq, osq⟩, hw''⟩ := hw'
            subst hw''
            have hQ := below_regrown w3b dq osq
            generalize grow (redrawn w3b dq) osq = w3c at hQ ⊢
            have hX3c := hX3b.below hQ hX3b.lt
            have hK3c := hK3b.below hQ hK3b.lt
            have hC3c := hC3b.below hQ hC3b.lt
            have hB3c := hB3b.trans (hQ.mono hB3b.size)
            clear hQ hX3b hK3b hC3b hB3b kk0 pp0 kk1 pp1 kk2 pp2 kk3 pp3 kk4 pp4 kk5 pp5 kk6 pp6
            go_wp2_with fail
            clear hC3c
            rw [rounds_succ]
            go_wp2_with fail
            go_meet
            exact ⟨by rw [hLk]; rfl, hX3c, by rw [hpk]; exact hK3c, hB3c⟩
      · by_cases cmp2 : scN g 1 < scN g 2
        · have hLk : L = 2 := by
            rw [← hL0.out]
            have b2 : best2 m g = 2 := by unfold best2; rw [if_pos ⟨by show 65472 + 64 ≤ m; omega, cmp2⟩]
            unfold bestN; rw [if_neg (fun h => absurd h.1 (by show ¬ 4259776 + 64 ≤ m; omega)), b2]
          have HS1 := fun W => rscore_any t1 m1 k1 r1 c1 s1 z1 1 W (by decide) ht1 hm1' hc1 hs1
          rw [← q1] at HS1
          obtain ⟨t2, m2, k2, r2, c2, s2, z2, e2, q2, ht2, hm2, hc2, hs2⟩ := card_parts g 2 (fun i hi => HG.out (65472 + i) (by omega))
          have HL2 := fun W (hW : Below w.heap.size w W) => rlook_any 2 m cR (some ⟨bR, oR, none⟩) g W (by decide) (by omega) hcR (HR.out W hW)
          rw [show lookV 2 m g = .tuple #[cardV (at' g (posOf 2)), .int .i64 0] by unfold lookV; rw [if_neg (by decide), if_neg (by show ¬ m < 65472 + 64; omega)], e2] at HL2
          have HS2 := fun W => rscore_any t2 m2 k2 r2 c2 s2 z2 2 W (by decide) ht2 hm2 hc2 hs2
          rw [← q2] at HS2
          have HL3 := fun W (hW : Below w.heap.size w W) => rlook_any 3 m cR (some ⟨bR, oR, none⟩) g W (by decide) (by omega) hcR (HR.out W hW)
          rw [show lookV 3 m g = .tuple #[zeroCard, .int .i64 5] by unfold lookV; rw [if_neg (by decide), if_pos (by show m < 4259776 + 64; omega)]] at HL3
          have hpk := (HPk.out 2 hLk).symm.trans e2
          unfold cardA at *
          unfold zeroCard at *
          injection hpk with hpk
          clear q1 e1 q2 e2
          generalize scN g 1 = sc1 at *
          replace HS1 := Lib.hid HS1
          generalize scN g 2 = sc2 at *
          replace HS2 := Lib.hid HS2
          replace HL2 := Lib.hid HL2
          replace HL3 := Lib.hid HL3
          replace h2 := Lib.hid h2
          replace h3 := Lib.hid h3
          clear hMa hMb
          go_wp2_with fail
          refine wp_loop_rounds 3 ?_
          rw [rounds_succ]
          go_wp2_with fail
          refine (HL2.out wz hBz).mono ?_
          rintro e w2a ⟨rfl, hQ⟩
          have hX2a := hXz.below hQ hXz.lt
          have hK2a := hKz.below hQ hKz.lt
          have hB2a := hBz.trans (hQ.mono hBz.size)
          clear hQ hXz hKz hBz
          go_wp2_with fail
          have hX2b := hX2a.alloc (Obj.cells #[.string t2, .int .u8 m2, .int .u8 k2, .int .u8 r2, .int .u16 c2, .int .u16 s2, .int .u16 z2] 39)
          have hK2b := hK2a.alloc (Obj.cells #[.string t2, .int .u8 m2, .int .u8 k2, .int .u8 r2, .int .u16 c2, .int .u16 s2, .int .u16 z2] 39)
          have hB2b := hB2a.alloc hB2a.size (Obj.cells #[.string t2, .int .u8 m2, .int .u8 k2, .int .u8 r2, .int .u16 c2, .int .u16 s2, .int .u16 z2] 39)
          have hC2b := Whole.fresh w2a 39 #[.string t2, .int .u8 m2, .int .u8 k2, .int .u8 r2, .int .u16 c2, .int .u16 s2, .int .u16 z2]
          generalize (w2a.alloc (Obj.cells #[.string t2, .int .u8 m2, .int .u8 k2, .int .u8 r2, .int .u16 c2, .int .u16 s2, .int .u16 z2] 39)) = w2b at hX2b hK2b hB2b hC2b ⊢
          clear hX2a hK2a hB2a
          have kk0 := cell_regrown (show w2b.cell? ⟨_, 0, none⟩ = some _ from hK2b.cell 0)
          have pp0 := cell_regrown (show w2b.cell? ⟨_, 0, none⟩ = some _ from hC2b.cell 0)
          have kk1 := cell_regrown (show w2b.cell? ⟨_, 1, none⟩ = some _ from hK2b.cell 1)
          have pp1 := cell_regrown (show w2b.cell? ⟨_, 1, none⟩ = some _ from hC2b.cell 1)
          have kk2 := cell_regrown (show w2b.cell? ⟨_, 2, none⟩ = some _ from hK2b.cell 2)
          have pp2 := cell_regrown (show w2b.cell? ⟨_, 2, none⟩ = some _ from hC2b.cell 2)
          have kk3 := cell_regrown (show w2b.cell? ⟨_, 3, none⟩ = some _ from hK2b.cell 3)
          have pp3 := cell_regrown (show w2b.cell? ⟨_, 3, none⟩ = some _ from hC2b.cell 3)
          have kk4 := cell_regrown (show w2b.cell? ⟨_, 4, none⟩ = some _ from hK2b.cell 4)
          have pp4 := cell_regrown (show w2b.cell? ⟨_, 4, none⟩ = some _ from hC2b.cell 4)
          have kk5 := cell_regrown (show w2b.cell? ⟨_, 5, none⟩ = some _ from hK2b.cell 5)
          have pp5 := cell_regrown (show w2b.cell? ⟨_, 5, none⟩ = some _ from hC2b.cell 5)
          have kk6 := cell_regrown (show w2b.cell? ⟨_, 6, none⟩ = some _ from hK2b.cell 6)
          have pp6 := cell_regrown (show w2b.cell? ⟨_, 6, none⟩ = some _ from hC2b.cell 6)
          refine wp_region_quiet_below (by kernel_rfl) (by kernel_rfl) ?_
          repeat (quiet_step (first | (go_at_call 17; first | (with_reducible exact Calls.regrown_of (HS2.out _)) | (with_reducible exact Calls.regrown_of (HS1.out _)))))
          refine wpQuiet_nil ?_
          intro _ hw'
          obtain ⟨⟨dq, osq⟩, hw''⟩ := hw'
          subst hw''
          have hQ := below_regrown w2b dq osq
          generalize grow (redrawn w2b dq) osq = w2c at hQ ⊢
          have hX2c := hX2b.below hQ hX2b.lt
          have hK2c := hK2b.below hQ hK2b.lt
          have hC2c := hC2b.below hQ hC2b.lt
          have hB2c := hB2b.trans (hQ.mono hB2b.size)
          clear hQ hX2b hK2b hC2b hB2b kk0 pp0 kk1 pp1 kk2 pp2 kk3 pp3 kk4 pp4 kk5 pp5 kk6 pp6
          have fk := hK2c.free
          have kk0 := hK2c.cell 0
          have pp0 := hC2c.cell 0
          have kk1 := hK2c.cell 1
          have pp1 := hC2c.cell 1
          have kk2 := hK2c.cell 2
          have pp2 := hC2c.cell 2
          have kk3 := hK2c.cell 3
          have pp3 := hC2c.cell 3
          have kk4 := hK2c.cell 4
          have pp4 := hC2c.cell 4
          have kk5 := hK2c.cell 5
          have pp5 := hC2c.cell 5
          have kk6 := hK2c.cell 6
          have pp6 := hC2c.cell 6
          go_wp2_with fail
          have hX2d := (((((((hX2c.away (p := ⟨Kb, 0, none⟩) nGK (.string t2)).away (p := ⟨Kb, 1, none⟩) nGK (.int .u8 m2)).away (p := ⟨Kb, 2, none⟩) nGK (.int .u8 k2)).away (p := ⟨Kb, 3, none⟩) nGK (.int .u8 r2)).away (p := ⟨Kb, 4, none⟩) nGK (.int .u16 c2)).away (p := ⟨Kb, 5, none⟩) nGK (.int .u16 s2)).away (p := ⟨Kb, 6, none⟩) nGK (.int .u16 z2))
          have hK2d := Whole.as (((((((hK2c.put 0 (.string t2)).put 1 (.int .u8 m2)).put 2 (.int .u8 k2)).put 3 (.int .u8 r2)).put 4 (.int .u16 c2)).put 5 (.int .u16 s2)).put 6 (.int .u16 z2)) (ds := #[.string t2, .int .u8 m2, .int .u8 k2, .int .u8 r2, .int .u16 c2, .int .u16 s2, .int .u16 z2]) rfl
          have hB2d := (((((((hB2c.setCell (p := ⟨Kb, 0, none⟩) nKb (.string t2)).setCell (p := ⟨Kb, 1, none⟩) nKb (.int .u8 m2)).setCell (p := ⟨Kb, 2, none⟩) nKb (.int .u8 k2)).setCell (p := ⟨Kb, 3, none⟩) nKb (.int .u8 r2)).setCell (p := ⟨Kb, 4, none⟩) nKb (.int .u16 c2)).setCell (p := ⟨Kb, 5, none⟩) nKb (.int .u16 s2)).setCell (p := ⟨Kb, 6, none⟩) nKb (.int .u16 z2))
          generalize (((((((w2c.setCell ⟨Kb, 0, none⟩ (.string t2)).setCell ⟨Kb, 1, none⟩ (.int .u8 m2)).setCell ⟨Kb, 2, none⟩ (.int .u8 k2)).setCell ⟨Kb, 3, none⟩ (.int .u8 r2)).setCell ⟨Kb, 4, none⟩ (.int .u16 c2)).setCell ⟨Kb, 5, none⟩ (.int .u16 s2)).setCell ⟨Kb, 6, none⟩ (.int .u16 z2)) = w2d at hX2d hK2d hB2d ⊢
          clear fk hX2c hK2c hB2c hC2c kk0 pp0 kk1 pp1 kk2 pp2 kk3 pp3 kk4 pp4 kk5 pp5 kk6 pp6
          rw [rounds_succ]
          go_wp2_with fail
          refine (HL3.out w2d hB2d).mono ?_
          rintro e w3a ⟨rfl, hQ⟩
          have hX3a := hX2d.below hQ hX2d.lt
          have hK3a := hK2d.below hQ hK2d.lt
          have hB3a := hB2d.trans (hQ.mono hB2d.size)
          clear hQ hX2d hK2d hB2d
          go_wp2_with fail
          have hX3b := hX3a.alloc (Obj.cells #[.string ⟨#[]⟩, .int .u8 0, .int .u8 0, .int .u8 0, .int .u16 0, .int .u16 0, .int .u16 0] 39)
          have hK3b := hK3a.alloc (Obj.cells #[.string ⟨#[]⟩, .int .u8 0, .int .u8 0, .int .u8 0, .int .u16 0, .int .u16 0, .int .u16 0] 39)
          have hB3b := hB3a.alloc hB3a.size (Obj.cells #[.string ⟨#[]⟩, .int .u8 0, .int .u8 0, .int .u8 0, .int .u16 0, .int .u16 0, .int .u16 0] 39)
          have hC3b := Whole.fresh w3a 39 #[.string ⟨#[]⟩, .int .u8 0, .int .u8 0, .int .u8 0, .int .u16 0, .int .u16 0, .int .u16 0]
          generalize (w3a.alloc (Obj.cells #[.string ⟨#[]⟩, .int .u8 0, .int .u8 0, .int .u8 0, .int .u16 0, .int .u16 0, .int .u16 0] 39)) = w3b at hX3b hK3b hB3b hC3b ⊢
          clear hX3a hK3a hB3a
          refine wp_region_quiet_below (by kernel_rfl) (by kernel_rfl) ?_
          repeat (quiet_step (fail))
          refine wpQuiet_nil ?_
          intro _ hw'
          obtain ⟨⟨dq, osq⟩, hw''⟩ := hw'
          subst hw''
          have hQ := below_regrown w3b dq osq
          generalize grow (redrawn w3b dq) osq = w3c at hQ ⊢
          have hX3c := hX3b.below hQ hX3b.lt
          have hK3c := hK3b.below hQ hK3b.lt
          have hC3c := hC3b.below hQ hC3b.lt
          have hB3c := hB3b.trans (hQ.mono hB3b.size)
          clear hQ hX3b hK3b hC3b hB3b
          go_wp2_with fail
          clear hC3c
          rw [rounds_succ]
          go_wp2_with fail
          go_meet
          exact ⟨by rw [hLk]; rfl, hX3c, by rw [hpk]; exact hK3c, hB3c⟩
        · have hLk : L = 1 := by
            rw [← hL0.out]
            have b2 : best2 m g = 1 := by unfold best2; rw [if_neg (fun h => cmp2 h.2)]
            unfold bestN; rw [if_neg (fun h => absurd h.1 (by show ¬ 4259776 + 64 ≤ m; omega)), b2]
          have HS1 := fun W => rscore_any t1 m1 k1 r1 c1 s1 z1 1 W (by decide) ht1 hm1' hc1 hs1
          rw [← q1] at HS1
          obtain ⟨t2, m2, k2, r2, c2, s2, z2, e2, q2, ht2, hm2, hc2, hs2⟩ := card_parts g 2 (fun i hi => HG.out (65472 + i) (by omega))
          have HL2 := fun W (hW : Below w.heap.size w W) => rlook_any 2 m cR (some ⟨bR, oR, none⟩) g W (by decide) (by omega) hcR (HR.out W hW)
          rw [show lookV 2 m g = .tuple #[cardV (at' g (posOf 2)), .int .i64 0] by unfold lookV; rw [if_neg (by decide), if_neg (by show ¬ m < 65472 + 64; omega)], e2] at HL2
          have HS2 := fun W => rscore_any t2 m2 k2 r2 c2 s2 z2 2 W (by decide) ht2 hm2 hc2 hs2
          rw [← q2] at HS2
          have HL3 := fun W (hW : Below w.heap.size w W) => rlook_any 3 m cR (some ⟨bR, oR, none⟩) g W (by decide) (by omega) hcR (HR.out W hW)
          rw [show lookV 3 m g = .tuple #[zeroCard, .int .i64 5] by unfold lookV; rw [if_neg (by decide), if_pos (by show m < 4259776 + 64; omega)]] at HL3
          have hpk := (HPk.out 1 hLk).symm.trans e1
          unfold cardA at *
          unfold zeroCard at *
          injection hpk with hpk
          clear q1 e1 q2 e2
          generalize scN g 1 = sc1 at *
          replace HS1 := Lib.hid HS1
          generalize scN g 2 = sc2 at *
          replace HS2 := Lib.hid HS2
          replace HL2 := Lib.hid HL2
          replace HL3 := Lib.hid HL3
          replace cmp2 := decide_eq_false cmp2
          replace h2 := Lib.hid h2
          replace h3 := Lib.hid h3
          clear hMa hMb
          go_wp2_with fail
          refine wp_loop_rounds 3 ?_
          rw [rounds_succ]
          go_wp2_with fail
          refine (HL2.out wz hBz).mono ?_
          rintro e w2a ⟨rfl, hQ⟩
          have hX2a := hXz.below hQ hXz.lt
          have hK2a := hKz.below hQ hKz.lt
          have hB2a := hBz.trans (hQ.mono hBz.size)
          clear hQ hXz hKz hBz
          go_wp2_with fail
          have hX2b := hX2a.alloc (Obj.cells #[.string t2, .int .u8 m2, .int .u8 k2, .int .u8 r2, .int .u16 c2, .int .u16 s2, .int .u16 z2] 39)
          have hK2b := hK2a.alloc (Obj.cells #[.string t2, .int .u8 m2, .int .u8 k2, .int .u8 r2, .int .u16 c2, .int .u16 s2, .int .u16 z2] 39)
          have hB2b := hB2a.alloc hB2a.size (Obj.cells #[.string t2, .int .u8 m2, .int .u8 k2, .int .u8 r2, .int .u16 c2, .int .u16 s2, .int .u16 z2] 39)
          have hC2b := Whole.fresh w2a 39 #[.string t2, .int .u8 m2, .int .u8 k2, .int .u8 r2, .int .u16 c2, .int .u16 s2, .int .u16 z2]
          generalize (w2a.alloc (Obj.cells #[.string t2, .int .u8 m2, .int .u8 k2, .int .u8 r2, .int .u16 c2, .int .u16 s2, .int .u16 z2] 39)) = w2b at hX2b hK2b hB2b hC2b ⊢
          clear hX2a hK2a hB2a
          have kk0 := cell_regrown (show w2b.cell? ⟨_, 0, none⟩ = some _ from hK2b.cell 0)
          have pp0 := cell_regrown (show w2b.cell? ⟨_, 0, none⟩ = some _ from hC2b.cell 0)
          have kk1 := cell_regrown (show w2b.cell? ⟨_, 1, none⟩ = some _ from hK2b.cell 1)
          have pp1 := cell_regrown (show w2b.cell? ⟨_, 1, none⟩ = some _ from hC2b.cell 1)
          have kk2 := cell_regrown (show w2b.cell? ⟨_, 2, none⟩ = some _ from hK2b.cell 2)
          have pp2 := cell_regrown (show w2b.cell? ⟨_, 2, none⟩ = some _ from hC2b.cell 2)
          have kk3 := cell_regrown (show w2b.cell? ⟨_, 3, none⟩ = some _ from hK2b.cell 3)
          have pp3 := cell_regrown (show w2b.cell? ⟨_, 3, none⟩ = some _ from hC2b.cell 3)
          have kk4 := cell_regrown (show w2b.cell? ⟨_, 4, none⟩ = some _ from hK2b.cell 4)
          have pp4 := cell_regrown (show w2b.cell? ⟨_, 4, none⟩ = some _ from hC2b.cell 4)
          have kk5 := cell_regrown (show w2b.cell? ⟨_, 5, none⟩ = some _ from hK2b.cell 5)
          have pp5 := cell_regrown (show w2b.cell? ⟨_, 5, none⟩ = some _ from hC2b.cell 5)
          have kk6 := cell_regrown (show w2b.cell? ⟨_, 6, none⟩ = some _ from hK2b.cell 6)
          have pp6 := cell_regrown (show w2b.cell? ⟨_, 6, none⟩ = some _ from hC2b.cell 6)
          refine wp_region_quiet_below (by kernel_rfl) (by kernel_rfl) ?_
          repeat (quiet_step (first | (go_at_call 17; first | (with_reducible exact Calls.regrown_of (HS2.out _)) | (with_reducible exact Calls.regrown_of (HS1.out _)))))
          refine wpQuiet_nil ?_
          intro _ hw'
          obtain ⟨⟨dq, osq⟩, hw''⟩ := hw'
          subst hw''
          have hQ := below_regrown w2b dq osq
          generalize grow (redrawn w2b dq) osq = w2c at hQ ⊢
          have hX2c := hX2b.below hQ hX2b.lt
          have hK2c := hK2b.below hQ hK2b.lt
          have hC2c := hC2b.below hQ hC2b.lt
          have hB2c := hB2b.trans (hQ.mono hB2b.size)
          clear hQ hX2b hK2b hC2b hB2b kk0 pp0 kk1 pp1 kk2 pp2 kk3 pp3 kk4 pp4 kk5 pp5 kk6 pp6
          go_wp2_with fail
          clear hC2c
          rw [rounds_succ]
          go_wp2_with fail
          refine (HL3.out w2c hB2c).mono ?_
          rintro e w3a ⟨rfl, hQ⟩
          have hX3a := hX2c.below hQ hX2c.lt
          have hK3a := hK2c.below hQ hK2c.lt
          have hB3a := hB2c.trans (hQ.mono hB2c.size)
          clear hQ hX2c hK2c hB2c
          go_wp2_with fail
          have hX3b := hX3a.alloc (Obj.cells #[.string ⟨#[]⟩, .int .u8 0, .int .u8 0, .int .u8 0, .int .u16 0, .int .u16 0, .int .u16 0] 39)
          have hK3b := hK3a.alloc (Obj.cells #[.string ⟨#[]⟩, .int .u8 0, .int .u8 0, .int .u8 0, .int .u16 0, .int .u16 0, .int .u16 0] 39)
          have hB3b := hB3a.alloc hB3a.size (Obj.cells #[.string ⟨#[]⟩, .int .u8 0, .int .u8 0, .int .u8 0, .int .u16 0, .int .u16 0, .int .u16 0] 39)
          have hC3b := Whole.fresh w3a 39 #[.string ⟨#[]⟩, .int .u8 0, .int .u8 0, .int .u8 0, .int .u16 0, .int .u16 0, .int .u16 0]
          generalize (w3a.alloc (Obj.cells #[.string ⟨#[]⟩, .int .u8 0, .int .u8 0, .int .u8 0, .int .u16 0, .int .u16 0, .int .u16 0] 39)) = w3b at hX3b hK3b hB3b hC3b ⊢
          clear hX3a hK3a hB3a
          refine wp_region_quiet_below (by kernel_rfl) (by kernel_rfl) ?_
          repeat (quiet_step (fail))
          refine wpQuiet_nil ?_
          intro _ hw'
          obtain ⟨⟨dq, osq⟩, hw''⟩ := hw'
          subst hw''
          have hQ := below_regrown w3b dq osq
          generalize grow (redrawn w3b dq) osq = w3c at hQ ⊢
          have hX3c := hX3b.below hQ hX3b.lt
          have hK3c := hK3b.below hQ hK3b.lt
          have hC3c := hC3b.below hQ hC3b.lt
          have hB3c := hB3b.trans (hQ.mono hB3b.size)
          clear hQ hX3b hK3b hC3b hB3b
          go_wp2_with fail
          clear hC3c
          rw [rounds_succ]
          go_wp2_with fail
          go_meet
          exact ⟨by rw [hLk]; rfl, hX3c, by rw [hpk]; exact hK3c, hB3c⟩
    · have hLk : L = 1 := by
        rw [← hL0.out]
        have b2 : best2 m g = 1 := by unfold best2; rw [if_neg (fun h => absurd h.1 (by show ¬ 65472 + 64 ≤ m; omega))]
        unfold bestN; rw [if_neg (fun h => absurd h.1 (by show ¬ 4259776 + 64 ≤ m; omega)), b2]
      have HS1 := fun W => rscore_any t1 m1 k1 r1 c1 s1 z1 1 W (by decide) ht1 hm1' hc1 hs1
      rw [← q1] at HS1
      have HL2 := fun W (hW : Below w.heap.size w W) => rlook_any 2 m cR (some ⟨bR, oR, none⟩) g W (by decide) (by omega) hcR (HR.out W hW)
      rw [show lookV 2 m g = .tuple #[zeroCard, .int .i64 5] by unfold lookV; rw [if_neg (by decide), if_pos (by show m < 65472 + 64; omega)]] at HL2
      have HL3 := fun W (hW : Below w.heap.size w W) => rlook_any 3 m cR (some ⟨bR, oR, none⟩) g W (by decide) (by omega) hcR (HR.out W hW)
      rw [show lookV 3 m g = .tuple #[zeroCard, .int .i64 5] by unfold lookV; rw [if_neg (by decide), if_pos (by show m < 4259776 + 64; omega)]] at HL3
      have hpk := (HPk.out 1 hLk).symm.trans e1
      unfold cardA at *
      unfold zeroCard at *
      injection hpk with hpk
      clear q1 e1
      generalize scN g 1 = sc1 at *
      replace HS1 := Lib.hid HS1
      replace HL2 := Lib.hid HL2
      replace HL3 := Lib.hid HL3
      replace h2 := Lib.hid h2
      clear hMa hMb
      go_wp2_with fail
      refine wp_loop_rounds 3 ?_
      rw [rounds_succ]
      go_wp2_with fail
      refine (HL2.out wz hBz).mono ?_
      rintro e w2a ⟨rfl, hQ⟩
      have hX2a := hXz.below hQ hXz.lt
      have hK2a := hKz.below hQ hKz.lt
      have hB2a := hBz.trans (hQ.mono hBz.size)
      clear hQ hXz hKz hBz
      go_wp2_with fail
      have hX2b := hX2a.alloc (Obj.cells #[.string ⟨#[]⟩, .int .u8 0, .int .u8 0, .int .u8 0, .int .u16 0, .int .u16 0, .int .u16 0] 39)
      have hK2b := hK2a.alloc (Obj.cells #[.string ⟨#[]⟩, .int .u8 0, .int .u8 0, .int .u8 0, .int .u16 0, .int .u16 0, .int .u16 0] 39)
      have hB2b := hB2a.alloc hB2a.size (Obj.cells #[.string ⟨#[]⟩, .int .u8 0, .int .u8 0, .int .u8 0, .int .u16 0, .int .u16 0, .int .u16 0] 39)
      have hC2b := Whole.fresh w2a 39 #[.string ⟨#[]⟩, .int .u8 0, .int .u8 0, .int .u8 0, .int .u16 0, .int .u16 0, .int .u16 0]
      generalize (w2a.alloc (Obj.cells #[.string ⟨#[]⟩, .int .u8 0, .int .u8 0, .int .u8 0, .int .u16 0, .int .u16 0, .int .u16 0] 39)) = w2b at hX2b hK2b hB2b hC2b ⊢
      clear hX2a hK2a hB2a
      refine wp_region_quiet_below (by kernel_rfl) (by kernel_rfl) ?_
      repeat (quiet_step (fail))
      refine wpQuiet_nil ?_
      intro _ hw'
      obtain ⟨⟨dq, osq⟩, hw''⟩ := hw'
      subst hw''
      have hQ := below_regrown w2b dq osq
      generalize grow (redrawn w2b dq) osq = w2c at hQ ⊢
      have hX2c := hX2b.below hQ hX2b.lt
      have hK2c := hK2b.below hQ hK2b.lt
      have hC2c := hC2b.below hQ hC2b.lt
      have hB2c := hB2b.trans (hQ.mono hB2b.size)
      clear hQ hX2b hK2b hC2b hB2b
      go_wp2_with fail
      clear hC2c
      rw [rounds_succ]
      go_wp2_with fail
      refine (HL3.out w2c hB2c).mono ?_
      rintro e w3a ⟨rfl, hQ⟩
      have hX3a := hX2c.below hQ hX2c.lt
      have hK3a := hK2c.below hQ hK2c.lt
      have hB3a := hB2c.trans (hQ.mono hB2c.size)
      clear hQ hX2c hK2c hB2c
      go_wp2_with fail
      have hX3b := hX3a.alloc (Obj.cells #[.string ⟨#[]⟩, .int .u8 0, .int .u8 0, .int .u8 0, .int .u16 0, .int .u16 0, .int .u16 0] 39)
      have hK3b := hK3a.alloc (Obj.cells #[.string ⟨#[]⟩, .int .u8 0, .int .u8 0, .int .u8 0, .int .u16 0, .int .u16 0, .int .u16 0] 39)
      have hB3b := hB3a.alloc hB3a.size (Obj.cells #[.string ⟨#[]⟩, .int .u8 0, .int .u8 0, .int .u8 0, .int .u16 0, .int .u16 0, .int .u16 0] 39)
      have hC3b := Whole.fresh w3a 39 #[.string ⟨#[]⟩, .int .u8 0, .int .u8 0, .int .u8 0, .int .u16 0, .int .u16 0, .int .u16 0]
      generalize (w3a.alloc (Obj.cells #[.string ⟨#[]⟩, .int .u8 0, .int .u8 0, .int .u8 0, .int .u16 0, .int .u16 0, .int .u16 0] 39)) = w3b at hX3b hK3b hB3b hC3b ⊢
      clear hX3a hK3a hB3a
      refine wp_region_quiet_below (by kernel_rfl) (by kernel_rfl) ?_
      repeat (quiet_step (fail))
      refine wpQuiet_nil ?_
      intro _ hw'
      obtain ⟨⟨dq, osq⟩, hw''⟩ := hw'
      subst hw''
      have hQ := below_regrown w3b dq osq
      generalize grow (redrawn w3b dq) osq = w3c at hQ ⊢
      have hX3c := hX3b.below hQ hX3b.lt
      have hK3c := hK3b.below hQ hK3b.lt
      have hC3c := hC3b.below hQ hC3b.lt
      have hB3c := hB3b.trans (hQ.mono hB3b.size)
      clear hQ hX3b hK3b hC3b hB3b
      go_wp2_with fail
      clear hC3c
      rw [rounds_succ]
      go_wp2_with fail
      go_meet
      exact ⟨by rw [hLk]; rfl, hX3c, by rw [hpk]; exact hK3c, hB3c⟩
  case rest =>
  obtain ⟨rfl, hX, hK, hB⟩ := hcut
  clear hXz hKz hBz
  have p0 := hK.cell 0
  have p1 := hK.cell 1
  have p2 := hK.cell 2
  have p3 := hK.cell 3
  have p6 := hK.cell 6
  simp only [List.getElem?_toArray, List.getElem?_cons_zero, List.getElem?_cons_succ] at p0 p1 p2 p3 p6
  obtain ⟨q, hq⟩ : ∃ q, kd % 16 = q := ⟨_, rfl⟩
  obtain ⟨dd, hdd⟩ : ∃ dd, kd / 16 = dd := ⟨_, rfl⟩
  have e1' : (kd : Int) % 16 = (q : Nat) := by omega
  have e2' : (kd : Int) / 16 = (dd : Nat) := by omega
  have hchq := hch.out
  unfold chipN at hchq
  rw [hq, hdd] at hchq
  replace hchq := Lib.hid hchq
  clear hq hdd d1 d2
  go_upto_if 63 with (fail)
  go_cut [13] (fun s13 wx => wx = wc ∧ s13 = .int .u8 (ch : Nat) ∧ Hid (ch ≤ 2))
  case first =>
    by_cases q3 : q < 3
    · have hv := hchq.out
      rw [if_pos q3] at hv
      subst hv
      go_wp2_with fail
      go_meet
      exact ⟨rfl, rfl, Lib.hid (by decide)⟩
    by_cases dd0 : dd = 0
    · have hv := hchq.out
      rw [if_neg q3, if_pos dd0] at hv
      subst hv
      subst dd0
      go_wp2_with fail
      go_meet
      exact ⟨rfl, rfl, Lib.hid (by decide)⟩
    by_cases dd3 : dd = 3
    · have hv := hchq.out
      rw [if_neg q3, if_neg dd0, if_pos dd3] at hv
      subst hv
      subst dd3
      go_wp2_with fail
      go_meet
      exact ⟨rfl, rfl, Lib.hid (by decide)⟩
    · have hv := hchq.out
      rw [if_neg q3, if_neg dd0, if_neg dd3] at hv
      have hE := Lib.hid (hEv.out.trans (if_pos hv.symm))
      have n0 : ((dd : Int) == 0) = false := beq_eq_false_iff_ne.2 (by omega)
      have n3 : ((dd : Int) == 3) = false := beq_eq_false_iff_ne.2 (by omega)
      clear hv dd0 dd3
      have fz := hX.free
      have y0 := hX.cell 0
      have y1 := hX.cell 1
      have y2 := hX.cell 2
      have y3 := hX.cell 3
      have y4 := hX.cell 4
      have y5 := hX.cell 5
      have y6 := hX.cell 6
      have y7 := hX.cell 7
      go_wp2_with fail
      refine bodyPost_ret (results_pair (fn := Tryd.f8) (p := 4) (u := 5) (ty := 29) rfl _ _ w.heap.size _ _ _ ?_ ((((((((hX.put 0 _).put 1 _).put 2 _).put 3 _).put 4 _).put 5 _).put 6 _).put 7 _) Tryd.underlying29 rfl ?_) ?_ ⟨bR, oR, ⟨cR, ?_⟩, ((((((((hB.setCell (p := ⟨w.heap.size, 0, none⟩) (Nat.le_refl _) _).setCell (p := ⟨w.heap.size, 1, none⟩) (Nat.le_refl _) _).setCell (p := ⟨w.heap.size, 2, none⟩) (Nat.le_refl _) _).setCell (p := ⟨w.heap.size, 3, none⟩) (Nat.le_refl _) _).setCell (p := ⟨w.heap.size, 4, none⟩) (Nat.le_refl _) _).setCell (p := ⟨w.heap.size, 5, none⟩) (Nat.le_refl _) _).setCell (p := ⟨w.heap.size, 6, none⟩) (Nat.le_refl _) _).setCell (p := ⟨w.heap.size, 7, none⟩) (Nat.le_refl _) _), HR.out⟩
      · rfl
      · kernel_rfl
      · rfl
      · rw [hE.out]
        rfl
  case rest =>
  obtain ⟨rfl, rfl, hch2⟩ := hcut
  have hEv2 := hEv.out
  rw [if_neg (by have := hch2.out; omega)] at hEv2
  replace hEv := Lib.hid hEv2
  clear hEv2 e1' e2' hchq
  go_upto_if 74 with (fail)
  go_cut [14] (fun s14 wx => wx = wc ∧ s14 = .int .i64 rm ∧ Hid (rs ≤ 9))
  case first =>
    by_cases r0 : rs = 0
    · subst r0
      have hv : rm = 0 := hrm.out.symm
      subst hv
      go_wp2_with fail
      go_meet
      exact ⟨rfl, rfl, Lib.hid (by decide)⟩
    · have i1 : (0 : Int) < rs := by omega
      clear r0
      go_wp2_with fail
      go_loop [14, 15] (fun a b => ∃ k R : Nat, k ≤ rs ∧ k ≤ 9 ∧ a = .int .i64 R ∧ b = .int .i64 k ∧ R ≤ 524288 ∧ Hid (R = 1024 * 2 ^ k)) (fun _ b => rs - (intOf b).toNat)
      case atStart => exact ⟨0, 1024, Nat.zero_le _, by decide, rfl, rfl, by decide, Lib.hid rfl⟩
      case round =>
        obtain ⟨k, R, hk, hk9, rfl, rfl, hR, hRk⟩ := hrel
        by_cases hlt : k < rs
        · by_cases hk8 : 8 < k
          · have hE := Lib.hid (hEv.out.trans (if_pos (show 9 < rs by omega)))
            have fz := hX.free
            have y0 := hX.cell 0
            have y1 := hX.cell 1
            have y2 := hX.cell 2
            have y3 := hX.cell 3
            have y4 := hX.cell 4
            have y5 := hX.cell 5
            have y6 := hX.cell 6
            have y7 := hX.cell 7
            go_wp2_with fail
            refine bodyPost_ret (results_pair (fn := Tryd.f8) (p := 4) (u := 5) (ty := 29) rfl _ _ w.heap.size _ _ _ ?_ ((((((((hX.put 0 _).put 1 _).put 2 _).put 3 _).put 4 _).put 5 _).put 6 _).put 7 _) Tryd.underlying29 rfl ?_) ?_ ⟨bR, oR, ⟨cR, ?_⟩, ((((((((hB.setCell (p := ⟨w.heap.size, 0, none⟩) (Nat.le_refl _) _).setCell (p := ⟨w.heap.size, 1, none⟩) (Nat.le_refl _) _).setCell (p := ⟨w.heap.size, 2, none⟩) (Nat.le_refl _) _).setCell (p := ⟨w.heap.size, 3, none⟩) (Nat.le_refl _) _).setCell (p := ⟨w.heap.size, 4, none⟩) (Nat.le_refl _) _).setCell (p := ⟨w.heap.size, 5, none⟩) (Nat.le_refl _) _).setCell (p := ⟨w.heap.size, 6, none⟩) (Nat.le_refl _) _).setCell (p := ⟨w.heap.size, 7, none⟩) (Nat.le_refl _) _), HR.out⟩
            · rfl
            · kernel_rfl
            · rfl
            · rw [hE.out]
              rfl
          · have hR2 : 2 * R = 1024 * 2 ^ (k + 1) := by rw [hRk.out, Nat.pow_succ]; omega
            have hpw : 2 ^ (k + 1) ≤ 2 ^ 9 := Nat.pow_le_pow_right (by decide) (by omega)
            have hR3 : 2 * R ≤ 524288 := by rw [hR2]; omega
            have hR2' := Lib.hid hR2
            clear hR2 hpw hRk
            go_wp2_with fail
            refine ⟨⟨k + 1, 2 * R, by omega, by omega, by congr 1, by congr 1, hR3, hR2'⟩, ?_⟩
            simp only [intOf]
            omega
        · obtain rfl : k = rs := by omega
          have hv : rm = (R : Nat) := by rw [← hrm.out, ram_of_pow k hk9 (by omega), hRk.out]
          subst hv
          clear hRk
          go_wp2_with fail
          go_meet
          exact ⟨rfl, rfl, Lib.hid hk9⟩
  case rest =>
  obtain ⟨rfl, rfl, hrs9⟩ := hcut
  have hEv2 := hEv.out
  rw [if_neg (by have := hrs9.out; omega)] at hEv2
  by_cases hc1 : ch = 1
  · subst hc1
    by_cases hs : sl = 8192
    · have hE := Lib.hid (hEv2.trans (if_neg (fun h => h.2 hs)))
      have s9 : ((sl : Int) != 8192) = false := by rw [bne_eq_false_iff_eq]; omega
      clear hEv2 hs
      have fz : ∀ (o1 : Obj) (i : Nat), (wc.alloc o1).frozen? ⟨w.heap.size, i, none⟩ = false := fun o1 i => (hX.alloc o1).free i
      have y0 : ∀ (o1 : Obj), (wc.alloc o1).cell? ⟨w.heap.size, 0, none⟩ = _ := fun o1 => (hX.alloc o1).cell 0
      have y1 : ∀ (o1 : Obj), (wc.alloc o1).cell? ⟨w.heap.size, 1, none⟩ = _ := fun o1 => (hX.alloc o1).cell 1
      have y2 : ∀ (o1 : Obj), (wc.alloc o1).cell? ⟨w.heap.size, 2, none⟩ = _ := fun o1 => (hX.alloc o1).cell 2
      have y3 : ∀ (o1 : Obj), (wc.alloc o1).cell? ⟨w.heap.size, 3, none⟩ = _ := fun o1 => (hX.alloc o1).cell 3
      have y4 : ∀ (o1 : Obj), (wc.alloc o1).cell? ⟨w.heap.size, 4, none⟩ = _ := fun o1 => (hX.alloc o1).cell 4
      have y5 : ∀ (o1 : Obj), (wc.alloc o1).cell? ⟨w.heap.size, 5, none⟩ = _ := fun o1 => (hX.alloc o1).cell 5
      have y6 : ∀ (o1 : Obj), (wc.alloc o1).cell? ⟨w.heap.size, 6, none⟩ = _ := fun o1 => (hX.alloc o1).cell 6
      have y7 : ∀ (o1 : Obj), (wc.alloc o1).cell? ⟨w.heap.size, 7, none⟩ = _ := fun o1 => (hX.alloc o1).cell 7
      go_wp2_with fail
      refine bodyPost_ret (results_pair (fn := Tryd.f8) (p := 4) (u := 5) (ty := 29) rfl _ _ w.heap.size _ _ _ ?_ (((((((((hX.alloc _).put 0 _).put 1 _).put 2 _).put 3 _).put 4 _).put 5 _).put 6 _).put 7 _) Tryd.underlying29 rfl ?_) ?_ ⟨bR, oR, ⟨cR, ?_⟩, (((((((((hB.alloc hB.size _).setCell (p := ⟨w.heap.size, 0, none⟩) (Nat.le_refl _) _).setCell (p := ⟨w.heap.size, 1, none⟩) (Nat.le_refl _) _).setCell (p := ⟨w.heap.size, 2, none⟩) (Nat.le_refl _) _).setCell (p := ⟨w.heap.size, 3, none⟩) (Nat.le_refl _) _).setCell (p := ⟨w.heap.size, 4, none⟩) (Nat.le_refl _) _).setCell (p := ⟨w.heap.size, 5, none⟩) (Nat.le_refl _) _).setCell (p := ⟨w.heap.size, 6, none⟩) (Nat.le_refl _) _).setCell (p := ⟨w.heap.size, 7, none⟩) (Nat.le_refl _) _), HR.out⟩
      · rfl
      · kernel_rfl
      · rfl
      · rw [hE.out]
        rfl
    · have hE := Lib.hid (hEv2.trans (if_pos ⟨rfl, hs⟩))
      have s9 : ((sl : Int) != 8192) = true := bne_iff_ne.2 (by omega)
      clear hEv2 hs
      have fz := hX.free
      have y0 := hX.cell 0
      have y1 := hX.cell 1
      have y2 := hX.cell 2
      have y3 := hX.cell 3
      have y4 := hX.cell 4
      have y5 := hX.cell 5
      have y6 := hX.cell 6
      have y7 := hX.cell 7
      go_wp2_with fail
      refine bodyPost_ret (results_pair (fn := Tryd.f8) (p := 4) (u := 5) (ty := 29) rfl _ _ w.heap.size _ _ _ ?_ ((((((((hX.put 0 _).put 1 _).put 2 _).put 3 _).put 4 _).put 5 _).put 6 _).put 7 _) Tryd.underlying29 rfl ?_) ?_ ⟨bR, oR, ⟨cR, ?_⟩, ((((((((hB.setCell (p := ⟨w.heap.size, 0, none⟩) (Nat.le_refl _) _).setCell (p := ⟨w.heap.size, 1, none⟩) (Nat.le_refl _) _).setCell (p := ⟨w.heap.size, 2, none⟩) (Nat.le_refl _) _).setCell (p := ⟨w.heap.size, 3, none⟩) (Nat.le_refl _) _).setCell (p := ⟨w.heap.size, 4, none⟩) (Nat.le_refl _) _).setCell (p := ⟨w.heap.size, 5, none⟩) (Nat.le_refl _) _).setCell (p := ⟨w.heap.size, 6, none⟩) (Nat.le_refl _) _).setCell (p := ⟨w.heap.size, 7, none⟩) (Nat.le_refl _) _), HR.out⟩
      · rfl
      · kernel_rfl
      · rfl
      · rw [hE.out]
        rfl
  · have hE := Lib.hid (hEv2.trans (if_neg (fun h => hc1 h.1)))
    have s1 : ((ch : Int) == 1) = false := beq_eq_false_iff_ne.2 (by omega)
    clear hEv2
    replace hc1 := Lib.hid hc1
    have fz : ∀ (o1 : Obj) (i : Nat), (wc.alloc o1).frozen? ⟨w.heap.size, i, none⟩ = false := fun o1 i => (hX.alloc o1).free i
    have y0 : ∀ (o1 : Obj), (wc.alloc o1).cell? ⟨w.heap.size, 0, none⟩ = _ := fun o1 => (hX.alloc o1).cell 0
    have y1 : ∀ (o1 : Obj), (wc.alloc o1).cell? ⟨w.heap.size, 1, none⟩ = _ := fun o1 => (hX.alloc o1).cell 1
    have y2 : ∀ (o1 : Obj), (wc.alloc o1).cell? ⟨w.heap.size, 2, none⟩ = _ := fun o1 => (hX.alloc o1).cell 2
    have y3 : ∀ (o1 : Obj), (wc.alloc o1).cell? ⟨w.heap.size, 3, none⟩ = _ := fun o1 => (hX.alloc o1).cell 3
    have y4 : ∀ (o1 : Obj), (wc.alloc o1).cell? ⟨w.heap.size, 4, none⟩ = _ := fun o1 => (hX.alloc o1).cell 4
    have y5 : ∀ (o1 : Obj), (wc.alloc o1).cell? ⟨w.heap.size, 5, none⟩ = _ := fun o1 => (hX.alloc o1).cell 5
    have y6 : ∀ (o1 : Obj), (wc.alloc o1).cell? ⟨w.heap.size, 6, none⟩ = _ := fun o1 => (hX.alloc o1).cell 6
    have y7 : ∀ (o1 : Obj), (wc.alloc o1).cell? ⟨w.heap.size, 7, none⟩ = _ := fun o1 => (hX.alloc o1).cell 7
    go_wp2_with fail
    refine bodyPost_ret (results_pair (fn := Tryd.f8) (p := 4) (u := 5) (ty := 29) rfl _ _ w.heap.size _ _ _ ?_ (((((((((hX.alloc _).put 0 _).put 1 _).put 2 _).put 3 _).put 4 _).put 5 _).put 6 _).put 7 _) Tryd.underlying29 rfl ?_) ?_ ⟨bR, oR, ⟨cR, ?_⟩, (((((((((hB.alloc hB.size _).setCell (p := ⟨w.heap.size, 0, none⟩) (Nat.le_refl _) _).setCell (p := ⟨w.heap.size, 1, none⟩) (Nat.le_refl _) _).setCell (p := ⟨w.heap.size, 2, none⟩) (Nat.le_refl _) _).setCell (p := ⟨w.heap.size, 3, none⟩) (Nat.le_refl _) _).setCell (p := ⟨w.heap.size, 4, none⟩) (Nat.le_refl _) _).setCell (p := ⟨w.heap.size, 5, none⟩) (Nat.le_refl _) _).setCell (p := ⟨w.heap.size, 6, none⟩) (Nat.le_refl _) _).setCell (p := ⟨w.heap.size, 7, none⟩) (Nat.le_refl _) _), HR.out⟩
    · rfl
    · kernel_rfl
    · rfl
    · rw [hE.out]
      rw [show ∀ a b, pick (ch = 1) a b = b from fun a b => if_neg hc1.out]
      rfl
end Go.Proofs.YtggjaoihfhianaaDoor
