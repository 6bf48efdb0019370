/-
  The document's Add.
-/
import Derived.Test.YtijcfpdcijpenaaRfOrd
namespace Go.Proofs.Ytijcfpdcijpenaa
open Go.RowKit Go.Shelf
set_option maxRecDepth 100000
set_option maxHeartbeats 1000000
set_option linter.unusedVariables false
theorem Below.only {w w' : World} (h : Below w.heap.size w w') (q : Nat) : w.grownBy w' (some q) := ⟨h.os, h.tape, h.output, h.size, fun k hk _ => h.block k hk⟩
theorem only_set {a w : World} {g : Nat} (h : a.grownBy w (some g)) (i : Nat) (u : Value) : a.grownBy (w.setCell ⟨g, i, none⟩ u) (some g) :=
  ⟨h.os, h.tape, h.output, by simpa [World.setCell] using h.size, fun k hk hne => (Below.heap_setCell w ⟨g, i, none⟩ u k (fun e => hne (by rw [e]))).trans (h.block k hk hne)⟩
theorem Rf.put {w : World} {p q : Nat} {ss ts : List Int} (h : Rf w p q ss ts) {i : Nat} (hi : i < ss.length) (z : Int) : Rf (w.setCell ⟨q, i, none⟩ (.int .i64 z)) p q ss (ts.set i z) :=
  ⟨h.ne, by simpa [World.setCell] using h.pl, by simpa [World.setCell] using h.ql, fun k hk => (World.cell?_of_block (Below.heap_setCell w _ _ p h.ne)).trans (h.sc k hk),
    fun k hk => by
      rw [set_read ts i k z (by rw [h.size]; exact hi)]
      by_cases e : k = i
      · subst e
        rw [if_pos rfl]
        exact World.cell?_setCell_same' _ _ _ (by rw [h.tm k hk]; rfl)
      · rw [if_neg e]
        refine Eq.trans ?_ (h.tm k hk)
        exact World.cell?_setCell_other _ _ _ _ (by simp)
    , fun k => by
      refine Eq.trans ?_ (h.fr k)
      simp
    , by rw [List.length_set]; exact h.size⟩
/-- What Add tells. -/
def addErr (ss ts : List Int) (i n : Int) : Int :=
  if ¬ (0 ≤ i ∧ i < ss.length) then 3 else if n < 0 ∨ 1073741824 < n then 2 else if 1152921504606846976 < ts[i.toNat]?.getD 0 + ss[i.toNat]?.getD 0 * n then 4 else 0
theorem radd_any (i n : Int) (w : World) {p q cp cq : Nat} {ss ts : List Int} (h : Rf w p q ss ts) (hn : ss.length ≤ 16) (hi0 : -9223372036854775808 ≤ i) (hi1 : i ≤ 9223372036854775807) (hn0 : -9223372036854775808 ≤ n) (hn1 : n ≤ 9223372036854775807)
    (hs : ∀ k, k < ss.length → 1 ≤ ss[k]?.getD 0 ∧ ss[k]?.getD 0 ≤ 16777216) (hx : ∀ k : Nat, 0 ≤ ts[k]?.getD 0 ∧ ts[k]?.getD 0 ≤ 1152921504606846976) :
    Calls Try.prog 13 #[rv p q ss.length cp cq, .int .i64 i, .int .i64 n] w fun e w' => e = .returned (.int .i64 (addErr ss ts i n)) ∧ w.grownBy w' (some q) ∧
      Rf w' p q ss (if addErr ss ts i n = 0 then ts.set i.toNat (ts[i.toNat]?.getD 0 + ss[i.toNat]?.getD 0 * n) else ts) := by
  have HI := Lib.hid (fun W => is_any p q ss.length cp cq i W hi0 hi1 hn)
  unfold rv at HI ⊢
  have hR := h.alloc (.cells #[.slice (some ⟨p, 0, none⟩) ss.length cp, .slice (some ⟨q, 0, none⟩) ss.length cq] 25)
  have hC := Whole.fresh w 25 #[.slice (some ⟨p, 0, none⟩) ss.length cp, .slice (some ⟨q, 0, none⟩) ss.length cq]
  have hB0 : Below w.heap.size w (w.alloc (.cells #[.slice (some ⟨p, 0, none⟩) ss.length cp, .slice (some ⟨q, 0, none⟩) ss.length cq] 25)) := (Below.refl _ _).alloc (Nat.le_refl _) _
  by_cases hi : 0 ≤ i ∧ i < ss.length
  · have d : (decide (0 ≤ i) && decide (i < ss.length)) = true := by simp [hi]
    rw [d] at HI
    obtain ⟨k, rfl⟩ : ∃ k : Nat, i = k := ⟨i.toNat, by omega⟩
    have hk : k < ss.length := by omega
    clear d
    by_cases hb : n < 0 ∨ 1073741824 < n
    · have he : addErr ss ts k n = 2 := by unfold addErr; rw [if_neg (by simpa using hi), if_pos hb]
      rw [he]
      clear he
      by_cases hb1 : n < 0
      · have d1 : decide (n < 0) = true := decide_eq_true hb1
        clear hb hb1 hi
        go_enter Try.func13, Try.ntmps13
        go_wp2_with fail
        refine (HI.out _).mono ?_
        rintro e w1 ⟨rfl, hB1⟩
        go_wp2_with fail
        go_ret
        exact ⟨rfl, Below.only (hB0.trans (hB1.mono hB0.size)) q, by simpa using hR.below hB1⟩
      · have d1 : decide (n < 0) = false := decide_eq_false hb1
        have d2 : decide (1073741824 < n) = true := decide_eq_true (by omega)
        clear hb hb1 hi
        go_enter Try.func13, Try.ntmps13
        go_wp2_with fail
        refine (HI.out _).mono ?_
        rintro e w1 ⟨rfl, hB1⟩
        go_wp2_with fail
        go_ret
        exact ⟨rfl, Below.only (hB0.trans (hB1.mono hB0.size)) q, by simpa using hR.below hB1⟩
    · have m0 : 0 ≤ n := by omega
      have m1 : n ≤ 1073741824 := by omega
      obtain ⟨s0, s1⟩ := hs k hk
      obtain ⟨x0, x1⟩ := hx k
      have hp0 : 0 ≤ ss[k]?.getD 0 * n := Int.mul_nonneg (by omega) m0
      have hp1 : ss[k]?.getD 0 * n ≤ 16777216 * 1073741824 := Int.mul_le_mul s1 m1 m0 (by omega)
      have he : addErr ss ts k n = if 1152921504606846976 < ts[k]?.getD 0 + ss[k]?.getD 0 * n then 4 else 0 := by unfold addErr; rw [if_neg (by simpa using hi), if_neg hb]; rfl
      rw [he]
      simp only [Int.toNat_natCast]
      by_cases hl : 1152921504606846976 < ts[k]?.getD 0 + ss[k]?.getD 0 * n
      · rw [if_pos hl]
        clear he hb hi hs hx
        go_enter Try.func13, Try.ntmps13
        go_wp2_with fail
        refine (HI.out _).mono ?_
        rintro e w1 ⟨rfl, hB1⟩
        have hR1 := hR.below hB1
        have hC1 := hC.below hB1 (by simp)
        have c0 := hC1.cell 0
        have c1 := hC1.cell 1
        simp only [List.getElem?_toArray, List.getElem?_cons_zero, List.getElem?_cons_succ] at c0 c1
        have v0 := hR1.tm k hk
        have v1 := hR1.sc k hk
        have hB1' := hB0.trans (hB1.mono hB0.size)
        generalize ss[k]?.getD 0 = s at *
        generalize ts[k]?.getD 0 = x at *
        clear HI hB1 hB0 hR h hC hC1
        go_wp2_with fail
        go_quiet (fail)
        go_wp2_with fail
        go_ret
        exact ⟨rfl, Below.only (below_drewN hB1' _) q, by simpa using hR1.drewN _⟩
      · rw [if_neg hl]
        clear he hb hi hs hx
        go_enter Try.func13, Try.ntmps13
        go_wp2_with fail
        refine (HI.out _).mono ?_
        rintro e w1 ⟨rfl, hB1⟩
        have hR1 := hR.below hB1
        have hC1 := hC.below hB1 (by simp)
        have c0 := hC1.cell 0
        have c1 := hC1.cell 1
        simp only [List.getElem?_toArray, List.getElem?_cons_zero, List.getElem?_cons_succ] at c0 c1
        have v0 := hR1.tm k hk
        have v1 := hR1.sc k hk
        have f0 := hR1.fr k
        have hB1' := hB0.trans (hB1.mono hB0.size)
        generalize hS : ss[k]?.getD 0 = s at *
        generalize hX : ts[k]?.getD 0 = x at *
        have HSv := Lib.hid hS
        have HXv := Lib.hid hX
        clear hS hX
        clear HI hB1 hB0 hR h hC hC1
        go_wp2_with fail
        go_quiet (fail)
        go_wp2_with fail
        go_ret
        refine ⟨rfl, only_set (Below.only (below_drewN hB1' _) q) _ _, ?_⟩
        have e9 : ts[k]?.getD 0 + ss[k] * n = x + s * n := by
          rw [HXv.out, ← HSv.out, List.getElem?_eq_getElem hk]
          rfl
        rw [e9]
        exact (hR1.drewN _).put hk _
  · have d : (decide (0 ≤ i) && decide (i < ss.length)) = false := by
      rw [Bool.and_eq_false_iff]
      by_cases a : 0 ≤ i
      · exact .inr (decide_eq_false (by omega))
      · exact .inl (decide_eq_false a)
    rw [d] at HI
    have he : addErr ss ts i n = 3 := by unfold addErr; rw [if_pos hi]
    rw [he]
    clear he d hi
    go_enter Try.func13, Try.ntmps13
    go_wp2_with fail
    refine (HI.out _).mono ?_
    rintro e w1 ⟨rfl, hB1⟩
    go_wp2_with fail
    go_ret
    exact ⟨rfl, Below.only (hB0.trans (hB1.mono hB0.size)) q, by simpa using hR.below hB1⟩
end Go.Proofs.Ytijcfpdcijpenaa
