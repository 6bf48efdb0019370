/-
  PlayerParts.
-/
import Derived.Test.YtknlbmjncginnaaGreatDoorPPt
import Derived.Test.YtknlbmjncginnaaGreatDoorCpy
import Derived.Test.YtknlbmjncginnaaGreatDoorOpnB
namespace Go.Proofs.YtknlbmjncginnaaGreatDoor
open Go.RowKit Go.Shelf
set_option maxRecDepth 100000
set_option maxHeartbeats 4000000
set_option linter.unusedVariables false
set_option linter.unusedSimpArgs false

/-- Blocks that are none of a player's may turn. -/
theorem Pk.turnS {S : Nat → Prop} {w w' : World} {P : Nat} {sv : Value} {p : Pl} (h : Pk w P sv p) (hF : Fr S w w') (hP : ¬ S P) (hO : ∀ g, sv.ownBlock = some g → ¬ S g) (hL : ∀ a n c, w.cell? ⟨P, 9, none⟩ = some (.slice (some a) n c) → ¬ S a.block) : Pk w' P sv p ∧ w'.cell? ⟨P, 9, none⟩ = w.cell? ⟨P, 9, none⟩ := by
  obtain ⟨la, lc, h1, h2, h3⟩ := h.cells
  have hc : w.cell? ⟨P, 9, none⟩ = some (.slice la p.list.length lc) := h1.cell 9
  refine ⟨⟨h.ok, ⟨la, lc, hF.whole h1 hP, ?_, h3⟩, hF.own h.own hO, h.bok⟩, hF.cell (a := ⟨P, 9, none⟩) h1.lt hP⟩
  rcases h2 with h2 | ⟨g, rfl, ⟨cs, hw⟩, hc2⟩
  · exact .inl h2
  · have hg := hL _ _ _ hc
    exact .inr ⟨g, rfl, ⟨cs, hF.whole hw hg⟩, fun i hi => by
      obtain ⟨a1, a2, a3⟩ := hc2 i hi
      exact ⟨(hF.cell (a := ⟨g, i * 3, none⟩) hw.lt hg).trans a1, (hF.cell (a := ⟨g, i * 3 + 1, none⟩) hw.lt hg).trans a2, (hF.cell (a := ⟨g, i * 3 + 2, none⟩) hw.lt hg).trans a3⟩⟩
/-- Ahead of the rounds: two players, two memories alike. -/
structure Pr (w W : World) (P Q M C : Nat) (r : Rp) (f : Nat → Nat) : Prop where
  p : Pk W P (.slice none 0 0) (Pl.new r)
  q : Pk W Q (.slice none 0 0) (Pl.new r)
  m : Holds W M 65536 f
  c : Holds W C 65536 f
  mc : M ≠ C
  pq : P ≠ Q
  lq : ∀ a n c, W.cell? ⟨Q, 9, none⟩ = some (.slice (some a) n c) → a.block ≠ M ∧ a.block ≠ P
  bp : w.heap.size ≤ P
  bm : w.heap.size ≤ M
  bq : w.heap.size ≤ Q
  bc : w.heap.size ≤ C
  b : Below w.heap.size w W
theorem parts_walk (w : World) (r : Rp) (hr : r.Ok) (a : Option Addr) (n c y : Nat) (g : Nat → Nat) (hR : Row w a n g) (hn : n ≤ 140737488355328) (hnc : n ≤ c) (hy : y < 256) (hpc : r.Pc < 65536) (ai : Option Addr) (len ci : Nat) (zs : List Int) (hI : Seen .i64 8 w ai len zs) :
    Calls Tryz.prog 10 #[songV r a n c y, .slice ai len ci] w fun e w' => e = .returned (.bool true) ∧ Below w.heap.size w w' := by
  have hX := Whole.fresh w 53 (songC r a n c y)
  have hB1 := (Below.refl w.heap.size w).alloc (Nat.le_refl _) (.cells (songC r a n c y) 53)
  unfold songV
  unfold songC at hX hB1
  replace hR := Lib.hid hR
  replace hI := Lib.hid hI
  go_enter Tryz.func10, Tryz.ntmps10
  go_upto_region 1 with (fail)
  generalize w.alloc (.cells #[.int .u8 (r.A : Nat), .int .u8 (r.X : Nat), .int .u8 (r.Y : Nat), .int .u8 (r.S : Nat), .int .u8 (r.P : Nat), .int .u16 (r.Pc : Nat), .bool r.H, .slice a n c, .int .u8 (y : Nat)] 53) = V at *
  obtain ⟨T, hTe⟩ : ∃ T, w.heap.size = T := ⟨_, rfl⟩
  rw [hTe] at hX ⊢
  replace hTe := Lib.hid hTe
  replace hX := Lib.hid hX
  replace hB1 := Lib.hid hB1
  go_wp2_with fail
  refine (moves_any _).mono ?_
  rintro e V2 ⟨rfl, hB2⟩
  have hX2 := hX.out.below hB2 hX.out.lt
  have hBw2 := hB1.out.trans (hB2.mono hB1.out.size)
  have HS := song_any r a n c y g V2 (hR.out.below hBw2) hn hnc hy hpc
  unfold songV at HS
  have x0 := hX2.cell 0
  have x1 := hX2.cell 1
  have x2 := hX2.cell 2
  have x3 := hX2.cell 3
  have x4 := hX2.cell 4
  have x5 := hX2.cell 5
  have x6 := hX2.cell 6
  have x7 := hX2.cell 7
  have x8 := hX2.cell 8
  simp only [List.getElem?_toArray, List.getElem?_cons_zero, List.getElem?_cons_succ] at x0 x1 x2 x3 x4 x5 x6 x7 x8
  replace HS := Lib.hid HS
  replace hBw2 := Lib.hid hBw2
  replace hX2 := Lib.hid hX2
  clear hB2 hB1 hX
  go_wp2_with fail
  refine HS.out.mono ?_
  rintro e V3 ⟨M, hMl, rfl, hM3, hB3⟩
  have hX3 := hX2.out.below hB3 hX2.out.lt
  have hBw3 := hBw2.out.trans (hB3.mono hBw2.out.size)
  have hMw : w.heap.size ≤ M := Nat.le_trans hBw2.out.size hMl
  have HC := copied_any (some ⟨M, 0, none⟩) 65536 65536 _ V3 hM3.row (by decide)
  generalize memS y r.Pc g n = f at *
  replace HC := Lib.hid HC
  replace hM3 := Lib.hid hM3
  replace hX3 := Lib.hid hX3
  replace hBw3 := Lib.hid hBw3
  replace hMw := Lib.hid hMw
  clear HS hX2 hBw2 hB3 hMl x0 x1 x2 x3 x4 x5 x6 x7 x8
  go_wp2_with fail
  refine HC.out.mono ?_
  rintro e V4 ⟨C, rfl, hC4, hCl, hB4⟩
  have hM4 := hM3.out.below hB4 hM3.out.lt
  have hX4 := hX3.out.below hB4 hX3.out.lt
  have hMC : M ≠ C := by have := hM3.out.lt; omega
  have hCw := Lib.hid (show w.heap.size ≤ C from Nat.le_trans hBw3.out.size hCl)
  have hBw4 := hBw3.out.trans (hB4.mono hBw3.out.size)
  have HN := new_any r V4 hr
  unfold pegV at HN
  have x0 := hX4.cell 0
  have x1 := hX4.cell 1
  have x2 := hX4.cell 2
  have x3 := hX4.cell 3
  have x4 := hX4.cell 4
  have x5 := hX4.cell 5
  have x6 := hX4.cell 6
  simp only [List.getElem?_toArray, List.getElem?_cons_zero, List.getElem?_cons_succ] at x0 x1 x2 x3 x4 x5 x6
  replace HN := Lib.hid HN
  replace hM4 := Lib.hid hM4
  replace hC4 := Lib.hid hC4
  replace hX4 := Lib.hid hX4
  replace hBw4 := Lib.hid hBw4
  replace hMC := Lib.hid hMC
  clear HC hX3 hBw3 hM3 hB4 hCl
  go_wp2_with fail
  refine HN.out.mono ?_
  rintro e V5 ⟨P, rfl, hPl, hP5, hB5⟩
  have hM5 := hM4.out.below hB5 hM4.out.lt
  have hC5 := hC4.out.below hB5 hC4.out.lt
  have hX5 := hX4.out.below hB5 hX4.out.lt
  have hBw5 := hBw4.out.trans (hB5.mono hBw4.out.size)
  have hPw : w.heap.size ≤ P := Nat.le_trans hBw4.out.size hPl
  have HN5 := new_any r V5 hr
  unfold pegV at HN5
  clear x0 x1 x2 x3 x4 x5 x6
  have x0 := hX5.cell 0
  have x1 := hX5.cell 1
  have x2 := hX5.cell 2
  have x3 := hX5.cell 3
  have x4 := hX5.cell 4
  have x5 := hX5.cell 5
  have x6 := hX5.cell 6
  simp only [List.getElem?_toArray, List.getElem?_cons_zero, List.getElem?_cons_succ] at x0 x1 x2 x3 x4 x5 x6
  replace HN5 := Lib.hid HN5
  replace hM5 := Lib.hid hM5
  replace hC5 := Lib.hid hC5
  replace hBw5 := Lib.hid hBw5
  replace hP5 := Lib.hid hP5
  replace hPw := Lib.hid hPw
  clear HN hX4 hX5 hBw4 hM4 hC4 hB5 hPl
  go_wp2_with fail
  refine HN5.out.mono ?_
  rintro e V6 ⟨Q, rfl, hQl, hQ6, hB6⟩
  have hM6 := hM5.out.below hB6 hM5.out.lt
  have hC6 := hC5.out.below hB6 hC5.out.lt
  have hBw6 := hBw5.out.trans (hB6.mono hBw5.out.size)
  have hP6 : Pk V6 P (.slice none 0 0) (Pl.new r) := hP5.out.keep (Fr.of hB6)
  have hpr : Pr w V6 P Q M C r f := by
    obtain ⟨cm, hwm, -⟩ := hM6
    obtain ⟨la, lc, hwp, -⟩ := hP6.cells
    exact ⟨hP6, hQ6, hM5.out.below hB6 hM5.out.lt, hC6, hMC.out, by have := hP5.out.lt; omega, fun a n c e => ⟨hQ6.list_apart hwm (by decide) a n c e, hQ6.list_apart hwp (by decide) a n c e⟩, hPw.out, hMw.out, Nat.le_trans hBw5.out.size hQl, hCw.out, hBw6⟩
  replace hpr := Lib.hid hpr
  clear hM6 hC6 hBw6 hP6 hQ6 hB6 hQl HN5 hM5 hC5 hBw5 hP5 hPw hMC hMw x0 x1 x2 x3 x4 x5 x6 hTe
  go_wp2_with fail
  have hpt0 : Pt V6 P M (Pl.new r) f 0 0 (.slice none 0 0) V6 (.slice none 0 0) := ⟨hpr.out.p, hpr.out.m, fun g e => (by cases e), ⟨rfl, .inl ⟨rfl, rfl⟩⟩, fun _ _ _ _ g e => (by cases e), hpr.out.p.lt, hpr.out.m.lt, Fr.refl _ _⟩
  have hBel := Lib.hid (show ∀ W k n all sv, Pt V6 P M (Pl.new r) f k n all W sv → Below w.heap.size w W from fun W k n all sv hPt => hpr.out.b.trans (hPt.fr.below hpr.out.b.size (fun x hx => by
    rcases hx with hx | hx | hx
    · rw [hx]; exact hpr.out.bm
    · rw [hx]; exact hpr.out.bp
    · exact Nat.le_trans hpr.out.b.size hx)))
  go_loopw [9, 10, 11] (fun s9 s10 s11 wr => ∃ (j k : Nat) (sv : Value), j ≤ len ∧ s11 = .int .i64 j ∧ s10 = .int .i64 k ∧ k ≤ 4000 ∧ Pt V6 P M (Pl.new r) f k k s9 wr sv) (fun _ _ s11 _ => len - (intOf s11).toNat)
  case atStart => exact ⟨0, 0, _, Nat.zero_le _, by go_num, by go_num, by omega, hpt0⟩
  case round =>
    obtain ⟨j, k, sv, hj, rfl, rfl, hk, hPt⟩ := hrel
    have hlen : len ≤ 140737488355328 := by have h1 := hI.out.1; have h2 := hI.out.2.2.1; omega
    by_cases hlt : j < len
    · have hBwr := hBel.out _ _ _ _ _ hPt
      obtain ⟨z, hz⟩ : ∃ z, zs[j]?.getD 0 = z := ⟨_, rfl⟩
      obtain ⟨b, o, rfl, hcw⟩ : ∃ b o, ai = some ⟨b, o, none⟩ ∧ ∀ W, Below w.heap.size w W → W.cell? ⟨b, o + j, none⟩ = some (.int .i64 z) := by
        obtain ⟨i1, i2, i3, i4⟩ := hI.out
        rcases i2 with i2 | ⟨b, o, e1, hb, hc⟩
        · rw [i2] at i1; simp at i1; omega
        · exact ⟨b, o, e1, fun W hW => by rw [← hz]; exact (hW.cell (p := ⟨b, o + j, none⟩) hb).trans (hc j (by rw [i1]; exact hlt))⟩
      have hcz := hcw wr hBwr
      replace hcw := Lib.hid hcw
      have hji : (j : Int) < (len : Int) := by omega
      by_cases hz0 : z < 0
      · have hfin := Lib.hid hPt
        clear hPt hpt0
        go_wp2_with fail
        refine ⟨⟨j + 1, k, sv, by omega, by go_num, rfl, hk, hfin.out⟩, ?_⟩
        simp [intOf]; omega
      · obtain ⟨m, rfl⟩ : ∃ m : Nat, z = m := ⟨z.toNat, by omega⟩
        by_cases hm : m ≤ 4000 - k
        · have hmi : (m : Int) ≤ 4000 - (k : Int) := by omega
          have HR := hPt.run 65536 m (by omega)
          have hle := hPt.fr.size
          replace HR := Lib.hid HR
          replace hBwr := Lib.hid hBwr
          clear hPt hpt0 hz hz0
          go_wp2_with fail
          refine HR.out.mono ?_
          rintro e V8 ⟨rfl, hA8, sv8, hPt8⟩
          have hcz8 := hcw.out V8 (hBel.out _ _ _ _ _ hPt8)
          obtain ⟨a', c', W9, hap, hPt9⟩ := hPt8.app 26 wr.heap.size m hA8 (by omega)
          replace hPt9 := Lib.hid hPt9
          clear hPt8 hA8 HR hcz
          go_wp2_with (at_builtin; refine wpList_append_ran rfl _ _ 26 rfl _ _ _ W9 rfl rfl hap ?_)
          refine ⟨⟨j + 1, k + m, sv8, by omega, by go_num, by go_num, by omega, hPt9.out⟩, ?_⟩
          simp [intOf]; omega
        · have hmi : ¬ ((m : Int) ≤ 4000 - (k : Int)) := by omega
          have hfin := Lib.hid hPt
          clear hPt hpt0 hz hm
          go_wp2_with fail
          refine ⟨⟨j + 1, k, sv, by omega, by go_num, rfl, hk, hfin.out⟩, ?_⟩
          simp [intOf]; omega
    · obtain rfl : j = len := by omega
      clear hlt hj hpt0
      have hQM : Q ≠ M := by
        obtain ⟨cs, hw, -⟩ := hpr.out.m
        obtain ⟨la, lc, h1, -⟩ := hpr.out.q.cells
        exact whole_apart h1 hw (by decide)
      have hQC : Q ≠ C := by
        obtain ⟨cs, hw, -⟩ := hpr.out.c
        obtain ⟨la, lc, h1, -⟩ := hpr.out.q.cells
        exact whole_apart h1 hw (by decide)
      have hPC : P ≠ C := by
        obtain ⟨cs, hw, -⟩ := hpr.out.c
        obtain ⟨la, lc, h1, -⟩ := hpr.out.p.cells
        exact whole_apart h1 hw (by decide)
      have hQl := hpr.out.q.lt
      have hCl := hpr.out.c.lt
      have hPQ := hpr.out.pq
      have hMC := hpr.out.mc
      obtain ⟨hq, hq9⟩ := hpr.out.q.turnS hPt.fr (fun e => by
        rcases e with e | e | e
        · exact hQM e
        · exact hPQ e.symm
        · omega) (fun g hg => by cases hg) (fun a n c e hk => by
        have h1 := hpr.out.lq a n c e
        have h2 := hpr.out.q.list_lt a n c e
        rcases hk with hk | hk | hk
        · exact h1.1 hk
        · exact h1.2 hk
        · omega)
      have hc := hpr.out.c.fr hPt.fr (fun e => by
        rcases e with e | e | e
        · exact hMC e.symm
        · exact hPC e.symm
        · omega)
      have HR := prun_any hq 65536 hc (fun g hg => by cases hg) k (by omega)
      have hBwr := hBel.out _ _ _ _ _ hPt
      replace HR := Lib.hid HR
      replace hPt := Lib.hid hPt
      have hcW : ∃ cs, Whole wr C 5 cs := by obtain ⟨cs, h1, -⟩ := hc; exact ⟨cs, h1⟩
      have hqW : ∃ cs, Whole wr Q 104 cs := by obtain ⟨la, lc, h1, -⟩ := hq.cells; exact ⟨_, h1⟩
      clear hq hc hq9
      go_wp2_with fail
      refine HR.out.mono ?_
      rintro e V10 ⟨rfl, hA10, sv10, hQ10, hC10, hF10, -, -⟩
      have hmk : ∀ x, V6.heap.size ≤ x → ¬ (x = C ∨ x = Q ∨ (Value.slice none 0 0).ownBlock = some x) := fun x hx e => by
        rcases e with e | e | e
        · omega
        · omega
        · cases e
      obtain ⟨cs1, hcW⟩ := hcW
      obtain ⟨cs2, hqW⟩ := hqW
      obtain ⟨hP10, -⟩ := hPt.out.pk.turnS hF10 (fun e => by
        rcases e with e | e | e
        · exact hPC e
        · exact hPQ e
        · cases e) (fun g hg => hmk g (hPt.out.own g hg)) (fun a n c e hk => by
        rcases hk with hk | hk | hk
        · exact hPt.out.pk.list_apart hcW (by decide) a n c e hk
        · exact hPt.out.pk.list_apart hqW (by decide) a n c e hk
        · cases hk)
      have hM10 := hPt.out.hm.fr hF10 (fun e => by
        rcases e with e | e | e
        · exact hMC e
        · exact hQM e.symm
        · cases e)
      have hall := hF10.own hPt.out.alls (fun g hg => hmk g (acc_own_lt hPt.out.alls g hg).1)
      obtain ⟨aa, ca, rfl, hAa, -⟩ := arow_of hall (Pl.run_length _ _ _).symm
      rw [Pl.run_length] at hall
      have hB10 : Below w.heap.size w V10 := hBwr.trans (hF10.below hBwr.size (fun x hx => by
        rcases hx with hx | hx | hx
        · have := hpr.out.bc; omega
        · have := hpr.out.bq; omega
        · cases hx))
      have HS := psame_any k ca k (Pl.run_length _ _ _) (by omega) hA10 hAa
      have HBy := Lib.hid fun (W : World) (hW : Below V10.heap.size V10 W) => kit_same (some ⟨C, 0, none⟩) (some ⟨M, 0, none⟩) 65536 65536 65536 _ W (hC10.below hW hC10.lt).row (hM10.below hW hM10.lt).row (by decide)
      have HPk := Lib.hid fun (W : World) (hW : Below V10.heap.size V10 W) => hP10.keep (Fr.of hW)
      have HQk := Lib.hid fun (W : World) (hW : Below V10.heap.size V10 W) => hQ10.keep (Fr.of hW)
      replace HS := Lib.hid HS
      replace hB10 := Lib.hid hB10
      clear hP10 hM10 hall hAa hA10 hQ10 hC10 hF10 hmk hcW hqW hPt hBwr
      clear HR hBel hQM hQC hPC hQl hCl hPQ hMC hlen hI hR hpr
      rw [Pl.run_length]
      generalize ((Pl.new r).run f k).2.1 = q1 at *
      go_wp2_with fail
      with_reducible refine HS.out.mono ?_
      rintro e V11 ⟨rfl, hB11⟩
      have HB := Lib.hid (HBy.out V11 hB11)
      replace hB11 := Lib.hid hB11
      clear HS HBy
      go_wp2_with fail
      with_reducible refine HB.out.mono ?_
      rintro e V12 ⟨rfl, hB12⟩
      have hB12 := hB11.out.trans (hB12.mono hB11.out.size)
      have HP := Lib.hid (pegs_any (HPk.out V12 hB12))
      replace hB12 := Lib.hid hB12
      clear HB hB11
      unfold pegV at HP
      go_wp2_with fail
      with_reducible refine HP.out.mono ?_
      rintro e V13 ⟨rfl, hB13⟩
      have hB13 := hB12.out.trans (hB13.mono hB12.out.size)
      have HQ := Lib.hid (pegs_any (HQk.out V13 hB13))
      replace hB13 := Lib.hid hB13
      clear HP hB12
      unfold pegV at HQ
      go_wp2_with fail
      with_reducible refine HQ.out.mono ?_
      rintro e V14 ⟨rfl, hB14⟩
      have hB14 := hB13.out.trans (hB14.mono hB13.out.size)
      have HD := Lib.hid (done_any (HPk.out V14 hB14))
      have HE := Lib.hid (done_any (HQk.out V14 hB14))
      have HF := Lib.hid (next_any (HPk.out V14 hB14))
      replace hB14 := Lib.hid hB14
      clear HQ hB13
      go_wp2_with fail
      with_reducible refine HD.out.mono ?_
      rintro e V15 ⟨rfl, rfl⟩
      clear HD
      go_wp2_with fail
      with_reducible refine HE.out.mono ?_
      rintro e V16 ⟨rfl, rfl⟩
      clear HE
      go_wp2_with fail
      with_reducible refine HF.out.mono ?_
      rintro e V17 ⟨rfl, hB17⟩
      have hB17 := hB14.out.trans (hB17.mono hB14.out.size)
      have HG := Lib.hid (next_any (HQk.out V17 hB17))
      replace hB17 := Lib.hid hB17
      clear HF hB14
      unfold accV1 at HG ⊢
      go_wp2_with fail
      with_reducible refine HG.out.mono ?_
      rintro e V18 ⟨rfl, hB18⟩
      have hfin := Lib.hid (hB10.out.trans ((hB17.out.trans (hB18.mono hB17.out.size)).mono hB10.out.size))
      clear HG hB17 hB10 HPk HQk hB18
      go_wp2_with fail
      go_ret
      exact ⟨rfl, hfin.out⟩
end Go.Proofs.YtknlbmjncginnaaGreatDoor
