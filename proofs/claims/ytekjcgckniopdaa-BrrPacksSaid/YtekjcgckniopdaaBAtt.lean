/-
  The block by a shift and a filter, by the code.
-/
import Derived.Test.YtekjcgckniopdaaBWho
namespace Go.Proofs.Ytekjcgckniopdaa
open Go.RowKit Go.Shelf
set_option maxRecDepth 100000
set_option maxHeartbeats 2000000
set_option linter.unusedVariables false
set_option linter.unusedSimpArgs false

theorem attA_at (far num p q : Int) (g : Nat → Nat) (j : Nat) (hj : j < 9) : (attA far num p q g)[4 + j]? = some (.int .u8 (g j : Nat)) := by
  rcases (show j = 0 ∨ j = 1 ∨ j = 2 ∨ j = 3 ∨ j = 4 ∨ j = 5 ∨ j = 6 ∨ j = 7 ∨ j = 8 by omega) with rfl | rfl | rfl | rfl | rfl | rfl | rfl | rfl | rfl <;> rfl
theorem attA_put (far num p q : Int) (g : Nat → Nat) (j x : Nat) (hj : j < 9) : (attA far num p q g).setIfInBounds (4 + j) (.int .u8 (x : Nat)) = attA far num p q (upd g j x) := by
  rcases (show j = 0 ∨ j = 1 ∨ j = 2 ∨ j = 3 ∨ j = 4 ∨ j = 5 ∨ j = 6 ∨ j = 7 ∨ j = 8 by omega) with rfl | rfl | rfl | rfl | rfl | rfl | rfl | rfl | rfl <;> rfl
/-- The attempt of a shift and a filter for sixteen samples. -/
def attC (sh f : Nat) (s : Nat → Int) (p q : Int) : Array Value := attA (encF sh f s p q 16).2.2 (numF f sh : Nat) (encF sh f s p q 16).1 (encF sh f s p q 16).2.1 (putF sh f (choF sh f s p q) 16)
theorem putF_room (sh f : Nat) (g : Nat → Int) (k : Nat) : if k % 2 = 0 then putF sh f g k (1 + k / 2) = 0 else putF sh f g k (1 + k / 2) % 16 = 0 := by
  have h10 : ¬ (1 + k / 2 = 0) := by omega
  unfold putF
  simp only [if_neg h10]
  by_cases hp : k % 2 = 0
  · have a1 : ¬ (2 * (1 + k / 2 - 1) < k) := by omega
    have a2 : ¬ (2 * (1 + k / 2 - 1) + 1 < k) := by omega
    simp only [if_pos hp, if_neg a1, if_neg a2]
  · have a2 : ¬ (2 * (1 + k / 2 - 1) + 1 < k) := by omega
    simp only [if_neg hp, if_neg a2]
    split <;> omega
theorem head_or : ∀ sh f : Fin 16, f.val < 4 → bits BinOp.or IntKind.i64 ((sh.val : Int) * 16) ((f.val : Int) * 4) = ((sh.val * 16 + f.val * 4 : Nat) : Int) := by decide +kernel
theorem attempt_any (w : World) (a : Option Addr) (c sh f : Nat) (s : Nat → Int) (p q : Int) (hR : IRow w a 16 s) (hs : ∀ i, Smp (s i)) (hsh : sh < 13) (hf : f < 4) (hp : Smp p) (hq : Smp q) :
    Calls Try.prog 43 #[.slice a 16 c, .int .i64 (sh : Nat), .int .i64 (f : Nat), .agg #[.int .i64 p, .int .i64 q]] w fun e w' => e = .returned (.agg (attC sh f s p q)) ∧ Below w.heap.size w w' := by
  have hor := head_or ⟨sh, by omega⟩ ⟨f, by omega⟩ hf
  dsimp only at hor
  have e1 : (sh : Int) * 2 ^ 4 = (sh : Int) * 16 := by simp only [Int.reducePow]
  have hb0 : sh * 16 + f * 4 < 256 := by omega
  have HC := Lib.hid (fun W => course_any W (sh * 16 + f * 4) p q hb0)
  have d1 : (sh * 16 + f * 4) / 16 = sh := by omega
  have d2 : (sh * 16 + f * 4) / 4 % 4 = f := by omega
  rw [d1, d2] at HC
  have hnum : ((f : Int) * 13 + (sh : Int)) = ((numF f sh : Nat) : Int) := by unfold numF; omega
  have hsm := fun k => encF_smp sh f s p q hp hq k
  have hfar := fun k => encF_far sh f s p q hs k
  have HN := Lib.hid (fun W b k (h : Crs W b (encF sh f s p q k).1 (encF sh f s p q k).2.1 sh f) => nearest_any W b _ _ (s k) sh f h (by omega) hf (hsm k).1 (hsm k).2 (hs k))
  have HP := Lib.hid (fun W b k (h : Crs W b (encF sh f s p q k).1 (encF sh f s p q k).2.1 sh f) => pass_any W b _ _ sh f (choF sh f s p q k) h (choF_bnd sh f s p q k).1 (choF_bnd sh f s p q k).2 (by omega) hf (hsm k).1 (hsm k).2)
  have hst : ∀ k, nibF sh f (encF sh f s p q k).1 (encF sh f s p q k).2.1 (s k) = choF sh f s p q k ∧ sampF sh f (encF sh f s p q k).1 (encF sh f s p q k).2.1 (choF sh f s p q k) = (encF sh f s p q (k + 1)).1 ∧ (encF sh f s p q k).1 = (encF sh f s p q (k + 1)).2.1 ∧ (encF sh f s p q k).2.2 + farF sh f (encF sh f s p q k).1 (encF sh f s p q k).2.1 (s k) (choF sh f s p q k) = (encF sh f s p q (k + 1)).2.2 := fun k => ⟨rfl, rfl, rfl, rfl⟩
  have hcb := fun k => choF_bnd sh f s p q k
  have hput := fun k => putF_step sh f (choF sh f s p q) k
  have hroom := fun k => putF_room sh f (choF sh f s p q) k
  have hlt8 := fun k i => putF_lt sh f (choF sh f s p q) k i (by omega) hf
  have h0 : putF sh f (choF sh f s p q) 0 = upd (fun _ => 0) 0 (sh * 16 + f * 4) := by
    funext i
    unfold putF upd
    simp
  have hC16 : attC sh f s p q = attA (encF sh f s p q 16).2.2 (numF f sh : Nat) (encF sh f s p q 16).1 (encF sh f s p q 16).2.1 (putF sh f (choF sh f s p q) 16) := rfl
  have hi0 : encF sh f s p q 0 = (p, q, 0) := rfl
  have HPut := Lib.hid (fun W A k (hk : k < 16) h1 h2 => put_any W A 4 k (putF sh f (choF sh f s p q) k (1 + k / 2)) (choF sh f s p q k) hk (hcb k).1 (hcb k).2 h1 h2 (hlt8 k _) (hroom k))
  have hB0 := (Below.refl w.heap.size w).alloc (Nat.le_refl _) (.cells #[.int .i64 p, .int .i64 q] 55)
  have hT0 := (Whole.fresh w 55 #[.int .i64 p, .int .i64 q])
  have hR0 := hR.below hB0
  have hRh := Lib.hid hR
  clear hR
  generalize hhd : sh * 16 + f * 4 = hd at *
  generalize numF f sh = num at *
  go_enter Try.func43, Try.ntmps43
  go_upto_region 4 with (fail)
  have hfs : ∀ w a m, (store a (fnV f) m).run Try.prog w = stored Try.prog w a (fnV f) m := fun w a m => run_store_func Try.prog w a m _ _ _
  have cA : attA 0 num 0 0 (putF sh f (choF sh f s p q) 0) = #[.int .i64 0, .int .i64 (num : Nat), .int .i64 0, .int .i64 0, .int .u8 (hd : Nat), .int .u8 0, .int .u8 0, .int .u8 0, .int .u8 0, .int .u8 0, .int .u8 0, .int .u8 0, .int .u8 0] := by rw [h0]; rfl
  have cZ : attA 0 0 0 0 (fun _ => 0) = #[.int .i64 0, .int .i64 0, .int .i64 0, .int .i64 0, .int .u8 0, .int .u8 0, .int .u8 0, .int .u8 0, .int .u8 0, .int .u8 0, .int .u8 0, .int .u8 0, .int .u8 0] := rfl
  rw [← cZ, ← cA]
  have hT2 := (hT0.alloc (.cells (attA 0 0 0 0 (fun _ => 0)) 69)).alloc (.cells (attA 0 num 0 0 (putF sh f (choF sh f s p q) 0)) 69)
  have hZ2 := (Whole.fresh (w.alloc (.cells #[.int .i64 p, .int .i64 q] 55)) 69 (attA 0 0 0 0 (fun _ => 0))).alloc (.cells (attA 0 num 0 0 (putF sh f (choF sh f s p q) 0)) 69)
  have hA2 := Whole.fresh ((w.alloc (.cells #[.int .i64 p, .int .i64 q] 55)).alloc (.cells (attA 0 0 0 0 (fun _ => 0)) 69)) 69 (attA 0 num 0 0 (putF sh f (choF sh f s p q) 0))
  have hB2 := (hB0.alloc hB0.size (.cells (attA 0 0 0 0 (fun _ => 0)) 69)).alloc (Nat.le_trans hB0.size (by rw [alloc_size (w.alloc _)]; omega)) (.cells (attA 0 num 0 0 (putF sh f (choF sh f s p q) 0)) 69)
  rw [alloc_size, alloc_size] at hA2
  rw [alloc_size] at hZ2
  clear hT0 hB0 hR0 cA cZ h0
  generalize ((w.alloc (.cells #[.int .i64 p, .int .i64 q] 55)).alloc (.cells (attA 0 0 0 0 (fun _ => 0)) 69)).alloc (.cells (attA 0 num 0 0 (putF sh f (choF sh f s p q) 0)) 69) = W2 at *
  have x0 := hT2.cell 0
  have x1 := hT2.cell 1
  simp only [List.getElem?_toArray, List.getElem?_cons_zero, List.getElem?_cons_succ] at x0 x1
  have hst' := Lib.hid hst
  have hput' := Lib.hid hput
  have hfar' := Lib.hid hfar
  have hcb' := Lib.hid hcb
  have hlt8' := Lib.hid hlt8
  have hsm' := Lib.hid hsm
  have hs' := Lib.hid hs
  have hh2 := Lib.hid (And.intro hZ2 (And.intro hA2 hB2))
  generalize hAs : w.heap.size + 1 + 1 = A at *
  generalize hRs : w.heap.size + 1 = R at *
  generalize hSs : w.heap.size = S at *
  clear hst hput hfar hcb hlt8 hsm hs hroom hp hq hZ2 hA2 hB2 d1 d2
  have hSR : S ≤ R := by omega
  have hSA : S ≤ A := by omega
  have hRA : R ≠ A := by omega
  replace hSs := Lib.hid hSs
  clear hRs hAs hT2
  go_wp2_with fail
  refine (HC.out _).mono ?_
  rintro e W4 ⟨rfl, hB4⟩
  obtain ⟨hZ2, hA2, hB2⟩ := hh2.out
  have hZ5 := (hZ2.below hB4 hZ2.lt).alloc (.cells #[.int .i64 p, .int .i64 q, .int .u8 (sh : Nat), fnV f] 78)
  have hA5 := (hA2.below hB4 hA2.lt).alloc (.cells #[.int .i64 p, .int .i64 q, .int .u8 (sh : Nat), fnV f] 78)
  have hl2 : S ≤ W2.heap.size := Nat.le_trans hSA (Nat.le_of_lt hA2.lt)
  have hB5 := (hB2.trans (hB4.mono hl2)).alloc (Nat.le_trans hl2 hB4.size) (.cells #[.int .i64 p, .int .i64 q, .int .u8 (sh : Nat), fnV f] 78)
  have hC5 : Crs (W4.alloc (.cells #[.int .i64 p, .int .i64 q, .int .u8 (sh : Nat), fnV f] 78)) W4.heap.size p q sh f := Whole.fresh W4 _ _
  have hAC : A < W4.heap.size := Nat.lt_of_lt_of_le hA2.lt hB4.size
  have hRC : R < W4.heap.size := Nat.lt_of_lt_of_le hZ2.lt hB4.size
  have hSC : S ≤ W4.heap.size := Nat.le_trans hl2 hB4.size
  clear hh2 hZ2 hA2 hB2 hB4 hl2 x0 x1 HC
  go_wp2_with fail
  generalize W4.alloc (.cells #[.int .i64 p, .int .i64 q, .int .u8 (sh : Nat), fnV f] 78) = W5 at *
  generalize W4.heap.size = C at *
  go_loopw [35] (fun s35 wr => ∃ k : Nat, k ≤ 16 ∧ s35 = .int .i64 (k : Nat) ∧ Crs wr C (encF sh f s p q k).1 (encF sh f s p q k).2.1 sh f ∧ Whole wr R 69 (attA 0 0 0 0 (fun _ => 0)) ∧ Whole wr A 69 (attA (encF sh f s p q k).2.2 (num : Nat) 0 0 (putF sh f (choF sh f s p q) k)) ∧ Below S w wr) (fun s35 _ => 16 - (intOf s35).toNat)
  case atStart => exact ⟨0, by omega, rfl, by rw [hi0]; exact hC5, hZ5, by rw [hi0]; exact hA5, hB5⟩
  case round =>
    obtain ⟨k, hk, rfl, hC, hZ, hA, hB⟩ := hrel
    clear hC5 hZ5 hA5 hB5
    by_cases hlt : k < 16
    · have HNk := HN.out wr C k hC
      have HPk := Lib.hid (fun W h => HP.out W C k h)
      obtain ⟨s1, s2, s3, s4⟩ := hst'.out k
      rw [s1] at HNk
      rw [s2] at HPk
      have HPutk := Lib.hid (fun W h1 h2 => HPut.out W A k hlt h1 h2)
      have hIk := hRh.out.below (hSs.out ▸ hB)
      have hpk := hput'.out k
      have hvs := hs'.out k
      have hf1 := hfar'.out (k + 1)
      have hf0 := hfar'.out k
      rw [← s4] at hf1
      generalize hD' : (encF sh f s p q (k + 1)).2.2 = D' at *
      generalize hX : (encF sh f s p q (k + 1)).1 = X at *
      generalize hQ' : (encF sh f s p q (k + 1)).2.1 = Q' at *
      generalize farF sh f (encF sh f s p q k).1 (encF sh f s p q k).2.1 (s k) (choF sh f s p q k) = F at *
      generalize (encF sh f s p q k).2.2 = D at *
      generalize (encF sh f s p q k).2.1 = Q at *
      generalize (encF sh f s p q k).1 = P at *
      subst s3
      generalize choF sh f s p q k = N at *
      generalize hp1 : putF sh f (choF sh f s p q) (k + 1) = g1 at *
      generalize putF sh f (choF sh f s p q) k = g0 at *
      rcases hIk with h | ⟨b, o, rfl, hbl, hcell⟩
      · omega
      have v0 := hcell k hlt
      generalize s k = v at *
      have hjl : 1 + k / 2 < 9 := by omega
      generalize 1 + k / 2 = j at *
      generalize g0 j + u4 N * (if k % 2 = 0 then 16 else 1) = y at *
      have hw1 : wrap64 (D + F) = D + F := w64 _ (by omega) (by omega)
      have hgj : ∀ W : World, Whole W A 69 (attA D (num : Nat) 0 0 g0) → W.cell? ⟨A, 4 + j, none⟩ = some (.int .u8 (g0 j : Nat)) := fun W h => by rw [h.cell]; exact attA_at _ _ _ _ _ _ hjl
      have hAput : ∀ W : World, Whole W A 69 (attA D (num : Nat) 0 0 g0) → Whole (W.setCell ⟨A, 4 + j, none⟩ (.int .u8 (y : Nat))) A 69 (attA D (num : Nat) 0 0 g1) := fun W h => by
        rw [hpk, ← attA_put _ _ _ _ _ _ _ hjl]
        exact h.put _ _
      replace hgj := Lib.hid hgj
      replace hAput := Lib.hid hAput
      replace HNk := Lib.hid HNk
      replace hD' := Lib.hid hD'
      replace hX := Lib.hid hX
      replace hQ' := Lib.hid hQ'
      replace hp1 := Lib.hid hp1
      replace hpk := Lib.hid hpk
      replace s4 := Lib.hid s4
      replace hw1 := Lib.hid hw1
      have hh := Lib.hid (And.intro hC (And.intro hZ (And.intro hA hB)))
      unfold Smp at hvs
      clear hC hZ hA hB s1 s2 hcell HN HP HPut hf0 hf1 hst' hput' hfar' hcb' hlt8' hs' hfs hor hb0 hnum hC16 hi0 hhd e1
      go_wp2_with fail
      refine HNk.out.mono ?_
      rintro e W6 ⟨rfl, hB6⟩
      obtain ⟨hC, hZ, hA, hB⟩ := hh.out
      have hlw : S ≤ wr.heap.size := Nat.le_trans hSC (Nat.le_of_lt (Whole.lt hC))
      have hK7 := Whole.fresh W6 66 #[.int .i64 F, .int .i64 N]
      have hC7 : Crs (W6.alloc (.cells #[.int .i64 F, .int .i64 N] 66)) C P Q sh f := (Whole.below hC hB6 (Whole.lt hC)).alloc _
      have hZ7 := (hZ.below hB6 hZ.lt).alloc (.cells #[.int .i64 F, .int .i64 N] 66)
      have hA7 := (hA.below hB6 hA.lt).alloc (.cells #[.int .i64 F, .int .i64 N] 66)
      have hB7 := (hB.trans (hB6.mono hlw)).alloc (Nat.le_trans hlw hB6.size) (.cells #[.int .i64 F, .int .i64 N] 66)
      have hKC : W6.heap.size ≠ C := Nat.ne_of_gt (Nat.lt_of_lt_of_le (Whole.lt hC) hB6.size)
      have hKA : W6.heap.size ≠ A := Nat.ne_of_gt (Nat.lt_of_lt_of_le hA.lt hB6.size)
      have k0 := hK7.cell 1
      simp only [List.getElem?_toArray, List.getElem?_cons_zero, List.getElem?_cons_succ] at k0
      have HP7 := Lib.hid (HPk.out _ hC7)
      have hCl7 := Whole.lt hC7
      have hh7 := Lib.hid (And.intro hK7 (And.intro hZ7 (And.intro hA7 hB7)))
      clear hC hZ hA hB hh hK7 hC7 hZ7 hA7 hB7 hB6 HNk HPk v0
      go_upto_region 9 with (fail)
      generalize W6.alloc (.cells #[.int .i64 F, .int .i64 N] 66) = W7 at *
      generalize W6.heap.size = K at *
      go_wp2_with fail
      refine HP7.out.mono ?_
      rintro e W8 ⟨rfl, hC8, hg8⟩
      obtain ⟨hK7, hZ7, hA7, hB7⟩ := hh7.out
      have hK8 := hK7.only hg8 hKC
      have hZ8 := hZ7.only hg8 (Nat.ne_of_lt hRC)
      have hA8 := hA7.only hg8 (Nat.ne_of_lt hAC)
      have hB8 := hB7.trans (grown_below hg8 (Nat.le_trans hSC (Nat.le_of_lt hCl7)) (fun r e => by cases e; exact hSC))
      have HPut8 := Lib.hid (HPutk.out W8.drew (hgj.out _ hA8.drew) (hA8.drew.free _))
      have hA9 := hAput.out _ hA8.drew.drew
      have hK9 := hK8.drew.drew.away (p := ⟨A, 4 + j, none⟩) hKA (.int .u8 (y : Nat))
      have hZ9 := hZ8.drew.drew.away (p := ⟨A, 4 + j, none⟩) hRA (.int .u8 (y : Nat))
      have hC9 : Crs (W8.drew.drew.setCell ⟨A, 4 + j, none⟩ (.int .u8 (y : Nat))) C X P sh f := (Whole.drew (Whole.drew hC8)).away (p := ⟨A, 4 + j, none⟩) (Nat.ne_of_gt hAC) _
      have hB9 := hB8.drew.drew.setCell (p := ⟨A, 4 + j, none⟩) hSA (.int .u8 (y : Nat))
      have k1 := hK8.cell 1
      simp only [List.getElem?_toArray, List.getElem?_cons_zero, List.getElem?_cons_succ] at k1
      have hh9 := Lib.hid (And.intro hK9 (And.intro hZ9 (And.intro hA9 (And.intro hC9 hB9))))
      clear hK7 hZ7 hA7 hB7 hC8 hg8 hK8 hZ8 hA8 hB8 hh7 HP7 k0 hA9 hK9 hZ9 hC9 hB9 HPutk hgj hAput
      go_upto_region 10 with (fail)
      go_still_tail 5, (by kernel_rfl)
      show wpList _ _ _ _ _ W8.drew
      clear k1
      go_wp2_with fail
      refine HPut8.out.mono ?_
      rintro e W9 ⟨rfl, rfl⟩
      obtain ⟨hK9, hZ9, hA9, hC9, hB9⟩ := hh9.out
      generalize W8.drew.drew.setCell ⟨A, 4 + j, none⟩ (.int .u8 (y : Nat)) = W9 at *
      have k2 := hK9.cell 0
      have a2 := hA9.cell 0
      have af := hA9.free
      rw [show (attA D (num : Nat) 0 0 g1)[0]? = some (.int .i64 D) from rfl] at a2
      simp only [List.getElem?_toArray, List.getElem?_cons_zero, List.getElem?_cons_succ] at k2
      have hA10 : Whole (W9.setCell ⟨A, 0, none⟩ (.int .i64 (D + F))) A 69 (attA (D + F) (num : Nat) 0 0 g1) := (hA9.put 0 (.int .i64 (D + F))).as rfl
      have hZ10 := hZ9.away (p := ⟨A, 0, none⟩) hRA (.int .i64 (D + F))
      have hC10 : Crs (W9.setCell ⟨A, 0, none⟩ (.int .i64 (D + F))) C X P sh f := Whole.away hC9 (p := ⟨A, 0, none⟩) (Nat.ne_of_gt hAC) _
      have hB10 := hB9.setCell (p := ⟨A, 0, none⟩) hSA (.int .i64 (D + F))
      have hh10 := Lib.hid (And.intro hC10 (And.intro hZ10 (And.intro hA10 hB10)))
      have hw1' := hw1.out
      have hfr0 : W9.frozen? ⟨A, 0, none⟩ = false := af 0
      clear hh9 hK9 hZ9 hA9 hC9 hB9 hA10 hZ10 hC10 hB10 HPut8 af
      go_wp2_with fail
      go_roundw
      case rel =>
        obtain ⟨hC10, hZ10, hA10, hB10⟩ := hh10.out
        exact ⟨k + 1, by omega, by go_num, by rw [hX.out, hQ'.out]; exact hC10, hZ10, by rw [hD'.out, hp1.out, ← s4.out]; exact hA10, hB10⟩
      case measure => simp [intOf]; omega
    · obtain rfl : k = 16 := by omega
      generalize (encF sh f s p q 16).2.2 = D at *
      generalize (encF sh f s p q 16).2.1 = Q at *
      generalize (encF sh f s p q 16).1 = P at *
      generalize putF sh f (choF sh f s p q) 16 = g at *
      have c0 := Whole.cell hC 0
      have c1 := Whole.cell hC 1
      have a2 := hA.cell 2
      have a3 := hA.cell 3
      have af := hA.free
      rw [show (attA D (num : Nat) 0 0 g)[2]? = some (.int .i64 0) from rfl] at a2
      rw [show (attA D (num : Nat) 0 0 g)[3]? = some (.int .i64 0) from rfl] at a3
      simp only [List.getElem?_toArray, List.getElem?_cons_zero, List.getElem?_cons_succ] at c0 c1
      have hA1 : Whole ((wr.setCell ⟨A, 2, none⟩ (.int .i64 P)).setCell ⟨A, 3, none⟩ (.int .i64 Q)) A 69 (attA D (num : Nat) P Q g) := ((hA.put 2 (.int .i64 P)).put 3 (.int .i64 Q)).as rfl
      have hZ1 := (hZ.away (p := ⟨A, 2, none⟩) hRA (.int .i64 P)).away (p := ⟨A, 3, none⟩) hRA (.int .i64 Q)
      have hB1 := (hB.setCell (p := ⟨A, 2, none⟩) hSA (.int .i64 P)).setCell (p := ⟨A, 3, none⟩) hSA (.int .i64 Q)
      replace hC16 := Lib.hid hC16
      clear hC hZ hA hB HN HP HPut hst' hput' hfar' hcb' hlt8' hs' hfs hor hb0 hnum hi0 hhd e1 hRh hsm'
      go_upto_region 14 with (fail)
      clear c0 c1 a2 a3 af
      generalize (wr.setCell ⟨A, 2, none⟩ (.int .i64 P)).setCell ⟨A, 3, none⟩ (.int .i64 Q) = W1 at *
      have hld := Lib.hid (load_att hA1)
      obtain ⟨hst, hfin⟩ := store_att D (num : Nat) P Q g hZ1 rfl
      have hB2 := Lib.hid (below_setRow (cs := attA D (num : Nat) P Q g) hB1 hSR)
      have hVs : (attA D (num : Nat) P Q g).size = 13 := rfl
      generalize attA D (num : Nat) P Q g = V at *
      generalize W1.setRow R V = W2' at *
      replace hst := Lib.hid hst
      replace hfin := Lib.hid hfin
      clear hA1 hZ1 hB1
      go_wp2_with (first | (refine wpList_loadVar rfl 69 _ rfl _ _ rfl hld.out ?_) | (refine wpList_storeVar rfl 69 _ _ rfl _ _ rfl rfl hst.out ?_))
      exact bodyPost_ret (results_cell_row (fn := Try.f43) (p := 8) (ty := 69) rfl _ _ _ _ _ (0, 0) _ rfl hfin.out Try.underlying69 rfl (by rw [hVs]; kernel_rfl)) rfl ⟨by rw [hC16.out], by rw [hSs.out]; exact hB2.out⟩
end Go.Proofs.Ytekjcgckniopdaa
