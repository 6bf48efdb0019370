/-
  The nearest nibble by the code.
-/
import Derived.Test.YtekjcgckniopdaaBSam
namespace Go.Proofs.Ytekjcgckniopdaa
open Go.RowKit Go.Shelf
set_option maxRecDepth 100000
set_option maxHeartbeats 2000000
set_option linter.unusedVariables false
set_option linter.unusedSimpArgs false

/-- The one of two ranks that goes ahead. -/
def nearP (a b : Int × Int) : Int × Int := if b.1 < a.1 ∨ (b.1 = a.1 ∧ b.2 < a.2) then b else a
/-- The best rank of the first k numbers. -/
def bst (sh f : Nat) (p q want : Int) : Nat → Int × Int
  | 0 => (9223372036854775807, 0)
  | k + 1 => (farF sh f p q want (bestN sh f p q want k), bestN sh f p q want k)
theorem bst_step (sh f : Nat) (p q want : Int) (hw : Smp want) (k : Nat) : nearP (bst sh f p q want k) (farF sh f p q want ((k : Int) - 8), (k : Int) - 8) = bst sh f p q want (k + 1) := by
  cases k with
  | zero =>
    have h := farF_bnd sh f p q want (-8) hw
    unfold nearP bst bestN
    rw [if_pos (.inl (by show farF sh f p q want (-8) < 9223372036854775807; omega))]
    rfl
  | succ k =>
    have e : ((k + 1 : Nat) : Int) - 8 = (k : Int) - 7 := by omega
    have hb := bestN_bnd sh f p q want k
    rw [e]
    unfold nearP
    show (if farF sh f p q want ((k : Int) - 7) < farF sh f p q want (bestN sh f p q want k) ∨ (farF sh f p q want ((k : Int) - 7) = farF sh f p q want (bestN sh f p q want k) ∧ (k : Int) - 7 < bestN sh f p q want k) then _ else _) = (farF sh f p q want (bestN sh f p q want (k + 1)), bestN sh f p q want (k + 1))
    have hs : bestN sh f p q want (k + 1) = if farF sh f p q want ((k : Int) - 7) < farF sh f p q want (bestN sh f p q want k) then (k : Int) - 7 else bestN sh f p q want k := rfl
    rw [hs]
    by_cases h : farF sh f p q want ((k : Int) - 7) < farF sh f p q want (bestN sh f p q want k)
    · rw [if_pos (.inl h), if_pos h]
    · rw [if_neg h, if_neg]
      · rfl
      · rintro (h1 | ⟨_, h2⟩)
        · exact h h1
        · omega
theorem farthest_any (w : World) : Calls Try.prog 42 #[] w fun e w' => e = .returned (.agg #[.int .i64 9223372036854775807, .int .i64 0]) ∧ Below w.heap.size w w' := by
  have hB := Lib.hid ((Below.refl w.heap.size w).alloc (Nat.le_refl _) (.cells #[.int .i64 9223372036854775807, .int .i64 0] 66))
  have hW := Lib.hid (Whole.fresh w 66 #[.int .i64 9223372036854775807, .int .i64 0])
  go_enter Try.func42, Try.ntmps42
  go_wp2_with fail
  exact bodyPost_ret (results_cell_row (fn := Try.f42) (p := 0) (ty := 66) rfl _ _ _ _ _ (0, 0) _ rfl hW.out Try.underlying66 rfl (by kernel_rfl)) rfl ⟨rfl, hB.out⟩
def rankV (a : Int × Int) : Value := .agg #[.int .i64 a.1, .int .i64 a.2]
theorem nearer_any (w : World) (a1 a2 b1 b2 : Int) : Calls Try.prog 44 #[.agg #[.int .i64 a1, .int .i64 a2], .agg #[.int .i64 b1, .int .i64 b2]] w fun e w' => e = .returned (.agg #[.int .i64 (nearP (a1, a2) (b1, b2)).1, .int .i64 (nearP (a1, a2) (b1, b2)).2]) ∧ Below w.heap.size w w' := by
  have hB := Lib.hid (fun c1 c2 c3 => (((Below.refl w.heap.size w).alloc (Nat.le_refl _) (.cells c1 66)).alloc (Below.size ((Below.refl w.heap.size w).alloc (Nat.le_refl _) (.cells c1 66))) (.cells c2 66)).alloc (Below.size (((Below.refl w.heap.size w).alloc (Nat.le_refl _) (.cells c1 66)).alloc (Below.size ((Below.refl w.heap.size w).alloc (Nat.le_refl _) (.cells c1 66))) (.cells c2 66))) (.cells c3 66))
  have hP : nearP (a1, a2) (b1, b2) = if b1 < a1 ∨ (b1 = a1 ∧ b2 < a2) then (b1, b2) else (a1, a2) := rfl
  have hW := Lib.hid (fun c1 c2 c3 => (show Whole (((w.alloc (.cells c1 66)).alloc (.cells c2 66)).alloc (.cells c3 66)) (w.heap.size + 1 + 1) 66 c3 from by have := Whole.fresh ((w.alloc (.cells c1 66)).alloc (.cells c2 66)) 66 c3; rw [alloc_size, alloc_size] at this; exact this))
  by_cases h1 : b1 < a1
  · rw [hP, if_pos (.inl h1)]
    have hne : (b1 == a1) = false := beq_eq_false_iff_ne.2 (by omega)
    clear hP
    go_enter Try.func44, Try.ntmps44
    go_wp2_with fail
    exact bodyPost_ret (results_cell_row (fn := Try.f44) (p := 4) (ty := 66) rfl _ _ _ _ _ (0, 0) _ rfl (hW.out _ _ _) Try.underlying66 rfl (by kernel_rfl)) rfl ⟨rfl, hB.out _ _ _⟩
  by_cases h2 : b1 = a1
  · subst h2
    by_cases h3 : b2 < a2
    · rw [hP, if_pos (.inr ⟨rfl, h3⟩)]
      clear hP
      go_enter Try.func44, Try.ntmps44
      go_wp2_with fail
      exact bodyPost_ret (results_cell_row (fn := Try.f44) (p := 4) (ty := 66) rfl _ _ _ _ _ (0, 0) _ rfl (hW.out _ _ _) Try.underlying66 rfl (by kernel_rfl)) rfl ⟨rfl, hB.out _ _ _⟩
    · rw [hP, if_neg (fun h => h.elim h1 (fun h => h3 h.2))]
      clear hP
      go_enter Try.func44, Try.ntmps44
      go_wp2_with fail
      exact bodyPost_ret (results_cell_row (fn := Try.f44) (p := 4) (ty := 66) rfl _ _ _ _ _ (0, 0) _ rfl (hW.out _ _ _) Try.underlying66 rfl (by kernel_rfl)) rfl ⟨rfl, hB.out _ _ _⟩
  · rw [hP, if_neg (fun h => h.elim h1 (fun h => h2 h.1))]
    have hne : (b1 == a1) = false := beq_eq_false_iff_ne.2 h2
    clear hP
    go_enter Try.func44, Try.ntmps44
    go_wp2_with fail
    exact bodyPost_ret (results_cell_row (fn := Try.f44) (p := 4) (ty := 66) rfl _ _ _ _ _ (0, 0) _ rfl (hW.out _ _ _) Try.underlying66 rfl (by kernel_rfl)) rfl ⟨rfl, hB.out _ _ _⟩
theorem nearest_any (w : World) (b : Nat) (p q want : Int) (sh f : Nat) (h : Crs w b p q sh f) (hs : sh < 256) (hf : f < 4) (hp : Smp p) (hq : Smp q) (hw : Smp want) :
    Calls Try.prog 49 #[.pointer (some ⟨b, 0, none⟩), .int .i64 want] w fun e w' => e = .returned (.agg #[.int .i64 (farF sh f p q want (nibF sh f p q want)), .int .i64 (nibF sh f p q want)]) ∧ Below w.heap.size w w' := by
  have HF := Lib.hid fun W => fore_any W f p q hp hq hf
  have hfb := foreF_bnd f p q hp hq
  have HS := Lib.hid fun (W : World) (n : Int) (h1 : -8 ≤ n) (h2 : n ≤ 7) (hC : Crs W b p q sh f) => sample_any W b p q sh f n (foreF f p q) hC h1 h2 hs hfb.1 hfb.2
  have hX : ∀ n, clampF (scaleF sh n + foreF f p q) = sampF sh f p q n := fun n => rfl
  simp only [hX] at HS
  have HQ := Lib.hid fun (W : World) (n : Int) => square_any W (sampF sh f p q n - want) (by have := sampF_smp sh f p q n; unfold Smp at this hw; omega) (by have := sampF_smp sh f p q n; unfold Smp at this hw; omega)
  have hY : ∀ n, (sampF sh f p q n - want) * (sampF sh f p q n - want) = farF sh f p q want n := fun n => rfl
  simp only [hY] at HQ
  have hwr : ∀ n, wrap64 (sampF sh f p q n - want) = sampF sh f p q n - want ∧ IntKind.i64.wrap (sampF sh f p q n - want) = sampF sh f p q n - want := fun n => by
    have := sampF_smp sh f p q n
    unfold Smp at this hw
    exact ⟨w64 _ (by omega) (by omega), by simp only [IntKind.wrap_i64]; omega⟩
  have HT := Lib.hid farthest_any
  have HN := Lib.hid nearer_any
  have hst := Lib.hid (bst_step sh f p q want hw)
  have hend : bst sh f p q want 16 = (farF sh f p q want (nibF sh f p q want), nibF sh f p q want) := rfl
  replace hend := Lib.hid hend
  have hB1 := (Below.refl w.heap.size w).alloc (Nat.le_refl _) (.cells #[.int .i64 0, .int .i64 0] 66)
  have hC1 := Whole.alloc h (.cells #[.int .i64 0, .int .i64 0] 66)
  have hR1 := Whole.fresh w 66 #[.int .i64 0, .int .i64 0]
  have hEn := fore_enter f hf
  have x0 := Whole.cell hC1 0
  have x1 := Whole.cell hC1 1
  have x3 := Whole.cell hC1 3
  simp only [List.getElem?_toArray, List.getElem?_cons_zero, List.getElem?_cons_succ] at x0 x1 x3
  have hlt : b < w.heap.size := Whole.lt h
  unfold fnV at x3
  generalize hfn : fnN f = fn at *
  generalize hfo : foreF f p q = fo at *
  clear h hX hY hfo hfn hfb hp hq hs hf
  go_enter Try.func49, Try.ntmps49
  go_upto_region 1 with (fail)
  generalize w.alloc (.cells #[.int .i64 0, .int .i64 0] 66) = W1 at *
  generalize hS : w.heap.size = S at *
  refine wp_region_quiet_below (by kernel_rfl) (by kernel_rfl) ?_
  have z0 := cell_regrown x0
  have z1 := cell_regrown x1
  have z3 := cell_regrown x3
  clear x0 x1 x3
  repeat (go_big_quiet_step (first
    | (first | (with_reducible exact Calls.regrown_of (HF.out _)) | (with_reducible exact ⟨rfl, Calls.regrown_of (HF.out _)⟩))))
  refine wpQuiet_nil ?_
  intro _ hw'
  obtain ⟨⟨dq, osq⟩, hw''⟩ := hw'
  subst hw''
  have hBq := below_regrown W1 dq osq
  have hlt1 : b < W1.heap.size := Whole.lt hC1
  have hlt2 : S < W1.heap.size := hR1.lt
  have hB2 := hB1.trans (hBq.mono (Nat.le_of_lt hlt2))
  have hC2 := Whole.below hC1 hBq hlt1
  have hR2 := hR1.below hBq hlt2
  clear hB1 hC1 hR1 hBq z0 z1 z3 HF hEn hlt1 hlt2
  generalize Go.«Sort».grow (redrawn W1 dq) osq = V1 at *
  replace hwr := Lib.hid hwr
  go_wp2_with fail
  refine (HT.out _).mono ?_
  rintro e w' ⟨rfl, hB3⟩
  have hC3 := (Whole.below hC2 hB3 (Whole.lt hC2)).alloc (.cells #[.int .i64 9223372036854775807, .int .i64 0] 66)
  have hR3 := (Whole.below hR2 hB3 hR2.lt).alloc (.cells #[.int .i64 9223372036854775807, .int .i64 0] 66)
  have hN3 := Whole.fresh w' 66 #[.int .i64 9223372036854775807, .int .i64 0]
  have hB4 := (hB2.trans (hB3.mono (Nat.le_of_lt hR2.lt))).alloc (Nat.le_of_lt (Whole.below hR2 hB3 hR2.lt).lt) (.cells #[.int .i64 9223372036854775807, .int .i64 0] 66)
  have hne : S < w'.heap.size := (Whole.below hR2 hB3 hR2.lt).lt
  have hne2 : b < w'.heap.size := (Whole.below hC2 hB3 (Whole.lt hC2)).lt
  clear hB3 hB2 hC2 hR2 HT
  go_wp2_with fail
  generalize w'.alloc (.cells #[.int .i64 9223372036854775807, .int .i64 0] 66) = W3 at *
  generalize w'.heap.size = T at *
  replace hS := Lib.hid hS
  go_loopw [7] (fun s7 wr => ∃ k : Nat, k ≤ 16 ∧ s7 = .int .i64 ((k : Int) - 8) ∧ Crs wr b p q sh f ∧ Whole wr S 66 #[.int .i64 0, .int .i64 0] ∧ Whole wr T 66 #[.int .i64 (bst sh f p q want k).1, .int .i64 (bst sh f p q want k).2] ∧ Below S w wr) (fun s7 _ => (8 - intOf s7).toNat)
  case atStart => exact ⟨0, by omega, rfl, hC3, hR3, hN3, hB4⟩
  case round =>
    obtain ⟨k, hk, rfl, hC, hR, hN, hB⟩ := hrel
    clear hC3 hR3 hN3 hB4
    by_cases hlt : k < 16
    · have hst2 := hst.out k
      have hw1 := (hwr.out ((k : Int) - 8)).2
      have HSk := Lib.hid fun W hC => HS.out W ((k : Int) - 8) (by omega) (by omega) hC
      have HQk := Lib.hid fun W => HQ.out W ((k : Int) - 8)
      have HNk := fun W => HN.out W (bst sh f p q want k).1 (bst sh f p q want k).2 (farF sh f p q want ((k : Int) - 8)) ((k : Int) - 8)
      rw [show ((bst sh f p q want k).1, (bst sh f p q want k).2) = bst sh f p q want k from rfl, hst2] at HNk
      have x0 := hN.cell 0
      have x1 := hN.cell 1
      simp only [List.getElem?_toArray, List.getElem?_cons_zero, List.getElem?_cons_succ] at x0 x1
      clear hst2
      generalize hy : bst sh f p q want (k + 1) = y at *
      generalize bst sh f p q want k = x at *
      generalize farF sh f p q want ((k : Int) - 8) = F at *
      generalize sampF sh f p q ((k : Int) - 8) = X at *
      have hm1 : -8 ≤ (k : Int) - 8 := by omega
      have hm2 : (k : Int) - 8 ≤ 7 := by omega
      have hm3 : (k : Int) - 8 + 1 = ((k + 1 : Nat) : Int) - 8 := by omega
      generalize (k : Int) - 8 = m at *
      replace HNk := Lib.hid HNk
      replace hy := Lib.hid hy
      replace hm3 := Lib.hid hm3
      have hCd : Crs wr.drew b p q sh f := Whole.drew hC
      replace hCd := Lib.hid hCd
      have hCh := Lib.hid hC
      have hRh := Lib.hid hR
      have hNh := Lib.hid hN
      have hBh := Lib.hid hB
      have hle : S < wr.heap.size := hR.lt
      have hltT : T < wr.heap.size := hN.lt
      have hltb : b < wr.heap.size := Whole.lt hC
      clear hC hR hN hB HS HQ HN hst hend hwr hw
      go_upto_region 6 with (fail)
      refine wp_region_still_tail 10 (by kernel_rfl) (by kernel_rfl) ?_
      simp only [List.take_succ_cons, List.take_zero, List.drop_succ_cons, List.drop_zero]
      iterate 4 still_step
      still_call (HSk.out _ hCd.out)
      iterate 2 still_step
      still_call (HQk.out _)
      iterate 2 still_step
      refine wpStill_nil ?_
      show wpList _ _ _ _ _ wr.drew
      clear x0 x1 HSk HQk
      go_wp2_with fail
      refine (HNk.out _).mono ?_
      rintro e W5 ⟨rfl, hB5⟩
      have hN5 := hNh.out.drew.below hB5 hltT
      have hC5 := Lib.hid (Whole.below (Whole.drew hCh.out) hB5 hltb)
      have hR5 := Lib.hid (hRh.out.drew.below hB5 hle)
      have hB6 := Lib.hid (hBh.out.drew.trans (hB5.mono (show S ≤ wr.heap.size by omega)))
      have y0 := hN5.cell 0
      have y1 := hN5.cell 1
      have fr := hN5.free
      simp only [List.getElem?_toArray, List.getElem?_cons_zero, List.getElem?_cons_succ] at y0 y1
      replace hN5 := Lib.hid hN5
      clear hB5 HNk hCh hCd hRh hNh hBh
      go_wp2_with fail
      refine ⟨⟨k + 1, by omega, by rw [hm3.out], (hC5.out.away (p := ⟨T, 0, none⟩) (Nat.ne_of_lt hne2) _).away (p := ⟨T, 1, none⟩) (Nat.ne_of_lt hne2) _, (hR5.out.away (p := ⟨T, 0, none⟩) (Nat.ne_of_lt hne) _).away (p := ⟨T, 1, none⟩) (Nat.ne_of_lt hne) _, ?_, (hB6.out.setCell (p := ⟨T, 0, none⟩) (Nat.le_of_lt hne) _).setCell (p := ⟨T, 1, none⟩) (Nat.le_of_lt hne) _⟩, ?_⟩
      · rw [hy.out]
        exact ((hN5.out.put 0 (.int .i64 y.1)).put 1 (.int .i64 y.2)).as rfl
      · simp only [intOf]
        omega
    · obtain rfl : k = 16 := by omega
      have hend2 := hend.out
      rw [hend2] at hN
      have hR' := Lib.hid (hR.put 0 (.int .i64 (farF sh f p q want (nibF sh f p q want))) |>.put 1 (.int .i64 (nibF sh f p q want)))
      have x0 := hN.cell 0
      have x1 := hN.cell 1
      have r0 := hR.cell 0
      have r1 := hR.cell 1
      have fr := hR.free
      simp only [List.getElem?_toArray, List.getElem?_cons_zero, List.getElem?_cons_succ] at x0 x1 r0 r1
      have hB' := Lib.hid (((hB.setCell (p := ⟨S, 0, none⟩) (Nat.le_refl _) (.int .i64 (farF sh f p q want (nibF sh f p q want)))).setCell (p := ⟨S, 1, none⟩) (Nat.le_refl _) (.int .i64 (nibF sh f p q want))))
      generalize hF : farF sh f p q want (nibF sh f p q want) = F at *
      generalize hN0 : nibF sh f p q want = N at *
      replace hF := Lib.hid hF
      replace hN0 := Lib.hid hN0
      clear hC hR hN hB HS HQ HN hst hend hwr hw hend2 hk
      generalize hV : (wr.setCell ⟨S, 0, none⟩ (.int .i64 F)).setCell ⟨S, 1, none⟩ (.int .i64 N) = V at *
      replace hV := Lib.hid hV
      go_wp2_with fail
      rw [hV.out]
      exact bodyPost_ret (results_cell_row (fn := Try.f49) (p := 4) (ty := 66) rfl _ _ _ _ _ (0, 0) _ rfl hR'.out Try.underlying66 rfl (by kernel_rfl)) rfl ⟨by rw [hN0.out, hF.out]; rfl, by rw [hS.out]; exact hB'.out⟩
end Go.Proofs.Ytekjcgckniopdaa
