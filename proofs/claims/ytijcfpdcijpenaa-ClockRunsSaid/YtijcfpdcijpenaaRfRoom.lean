/-
  The document's Room, by halves.
-/
import Derived.Test.YtijcfpdcijpenaaRfLost
namespace Go.Proofs.Ytijcfpdcijpenaa
open Go.RowKit Go.Shelf
set_option maxRecDepth 100000
set_option maxHeartbeats 1000000
set_option linter.unusedVariables false
/-- With so many ticks more another thread than i would be next. -/
def Lost (ts ss : List Int) (i : Nat) (n : Int) : Prop := ∃ k, k < ss.length ∧ Past ts i (ts[i]?.getD 0 + n * ss[i]?.getD 0) k
/-- The room of thread i is r: lost from r on. -/
def RoomOK (ts ss : List Int) (i : Nat) (r : Int) : Prop :=
  0 ≤ r ∧ r ≤ 1073741824 ∧ (∀ n, 0 ≤ n → n < 1073741824 → (Lost ts ss i n ↔ r ≤ n)) ∧ (Lost ts ss i 1073741824 ∨ r = 1073741824)
theorem rroom_any (i : Nat) (r : Int) (w : World) {p q cp cq : Nat} {ss ts : List Int} (h : Rf w p q ss ts) (hn : ss.length ≤ 16) (hi : i < ss.length)
    (hs0 : 1 ≤ ss[i]?.getD 0) (hs1 : ss[i]?.getD 0 ≤ 16777216) (hx0 : 0 ≤ ts[i]?.getD 0) (hx1 : ts[i]?.getD 0 ≤ 1152921504606846976) (hr : RoomOK ts ss i r) :
    Calls Try.prog 33 #[rv p q ss.length cp cq, .int .i64 i] w fun e w' => e = .returned (.int .i64 r) ∧ Below w.heap.size w w' := by
  have HL := Lib.hid (fun (n : Int) (b : Bool) (W : World) (hW : Rf W p q ss ts) (hn0 : 0 ≤ n) (hn1 : n ≤ 1073741824) (hb : b = true ↔ Lost ts ss i n) => rlost_any (cp := cp) (cq := cq) i n b W hW hn hi hn0 hn1 hs0 hs1 hx0 hx1 hb)
  unfold rv at HL ⊢
  obtain ⟨r0, r1, hlt, hmx⟩ := hr
  have hR := h.alloc (.cells #[.slice (some ⟨p, 0, none⟩) ss.length cp, .slice (some ⟨q, 0, none⟩) ss.length cq] 25)
  have hC := Whole.fresh w 25 #[.slice (some ⟨p, 0, none⟩) ss.length cp, .slice (some ⟨q, 0, none⟩) ss.length cq]
  have hB0 : Below w.heap.size w (w.alloc (.cells #[.slice (some ⟨p, 0, none⟩) ss.length cp, .slice (some ⟨q, 0, none⟩) ss.length cq] 25)) := (Below.refl _ _).alloc (Nat.le_refl _) _
  clear hs0 hs1 hx0 hx1
  by_cases h0 : r = 0
  · have H0 := Lib.hid (HL.out 0 true _ hR (by omega) (by omega) (by rw [hlt 0 (by omega) (by omega)]; simp [h0]))
    have HE := Lib.hid h0
    clear hlt hmx h0 r0 r1 HL h hC
    go_enter Try.func33, Try.ntmps33
    go_wp2_with fail
    refine H0.out.mono ?_
    rintro e w1 ⟨rfl, hB1⟩
    go_wp2_with fail
    go_ret
    exact ⟨congrArg (fun b => Ending.returned (.int .i64 b)) HE.out.symm, hB0.trans (hB1.mono hB0.size)⟩
  · have H0 := Lib.hid (HL.out 0 false _ hR (by omega) (by omega) (by rw [hlt 0 (by omega) (by omega)]; simp; omega))
    by_cases hM : Lost ts ss i 1073741824
    · have HM := Lib.hid (fun W hW => HL.out 1073741824 true W hW (by omega) (by omega) (by simp [hM]))
      have HT := Lib.hid hlt
      clear hlt hmx hM
      go_enter Try.func33, Try.ntmps33
      go_wp2_with fail
      refine H0.out.mono ?_
      rintro e w1 ⟨rfl, hB1⟩
      have hR1 := hR.below hB1
      have hC1 := hC.below hB1 (by simp)
      have hB1' := hB0.trans (hB1.mono hB0.size)
      have c0 := hC1.cell 0
      have c1 := hC1.cell 1
      simp only [List.getElem?_toArray, List.getElem?_cons_zero, List.getElem?_cons_succ] at c0 c1
      clear H0 hB1 hB0 hR hC
      go_wp2_with fail
      refine (HM.out _ hR1).mono ?_
      rintro e w2 ⟨rfl, hB2⟩
      have hC2 := hC1.below hB2 hC1.lt
      have hB2' := hB1'.trans (hB2.mono hB1'.size)
      clear HM hB2 hB1' hC1 c0 c1 hR1
      go_wp2_with fail
      go_loopw [5, 6] (fun sl sh wr => ∃ (l u : Int), 0 ≤ l ∧ l < r ∧ r ≤ u ∧ u ≤ 1073741824 ∧ sl = .int .i64 l ∧ sh = .int .i64 u ∧ Whole wr w.heap.size 25 #[.slice (some ⟨p, 0, none⟩) ss.length cp, .slice (some ⟨q, 0, none⟩) ss.length cq] ∧ Below w.heap.size w wr) (fun sl sh _ => (intOf sh - intOf sl).toNat)
      case atStart => exact ⟨0, 1073741824, by omega, by omega, r1, by omega, rfl, rfl, hC2, hB2'⟩
      case round =>
        obtain ⟨l, u, hl0, hlr, hru, hu, rfl, rfl, hC, hB⟩ := hrel
        clear hC2 hB2'
        have hR := h.below hB
        have c0 := hC.cell 0
        have c1 := hC.cell 1
        simp only [List.getElem?_toArray, List.getElem?_cons_zero, List.getElem?_cons_succ] at c0 c1
        by_cases hd : 1 < u - l
        · obtain ⟨m, hm⟩ : ∃ m, (l + u) / 2 = m := ⟨_, rfl⟩
          have hm1 : l < m := by omega
          have hm2 : m < u := by omega
          have HMi := Lib.hid hm
          by_cases hrm : r ≤ m
          · have HX := Lib.hid (HL.out m true wr hR (by omega) (by omega) (by rw [HT.out m (by omega) (by omega)]; simp [hrm]))
            clear hm h hR
            go_wp2_with fail
            rw [HMi.out]
            refine HX.out.mono ?_
            rintro e w3 ⟨rfl, hB3⟩
            have hC3 := hC.below hB3 hC.lt
            have hB3' := hB.trans (hB3.mono hB.size)
            clear HX hC hB hB3 c0 c1
            go_wp2_with fail
            go_roundw
            case rel => exact ⟨l, m, hl0, hlr, hrm, by omega, rfl, rfl, hC3, hB3'⟩
            case measure => simp [intOf]; omega
          · have HX := Lib.hid (HL.out m false wr hR (by omega) (by omega) (by rw [HT.out m (by omega) (by omega)]; simp; omega))
            clear hm h hR
            go_wp2_with fail
            rw [HMi.out]
            refine HX.out.mono ?_
            rintro e w3 ⟨rfl, hB3⟩
            have hC3 := hC.below hB3 hC.lt
            have hB3' := hB.trans (hB3.mono hB.size)
            clear HX hC hB hB3 c0 c1
            go_wp2_with fail
            go_roundw
            case rel => exact ⟨m, u, by omega, by omega, hru, hu, rfl, rfl, hC3, hB3'⟩
            case measure => simp [intOf]; omega
        · obtain rfl : r = u := by omega
          clear h hR
          go_wp2_with fail
          go_ret
          exact ⟨rfl, hB⟩
    · have HM := Lib.hid (fun W hW => HL.out 1073741824 false W hW (by omega) (by omega) (by simp [hM]))
      have HE := Lib.hid (hmx.resolve_left hM)
      clear hlt hmx hM HL h0 r0 r1
      go_enter Try.func33, Try.ntmps33
      go_wp2_with fail
      refine H0.out.mono ?_
      rintro e w1 ⟨rfl, hB1⟩
      have hR1 := hR.below hB1
      have hC1 := hC.below hB1 (by simp)
      have hB1' := hB0.trans (hB1.mono hB0.size)
      have c0 := hC1.cell 0
      have c1 := hC1.cell 1
      simp only [List.getElem?_toArray, List.getElem?_cons_zero, List.getElem?_cons_succ] at c0 c1
      clear H0 hB1 hB0 hR hC h hC1
      go_wp2_with fail
      refine (HM.out _ hR1).mono ?_
      rintro e w2 ⟨rfl, hB2⟩
      go_wp2_with fail
      go_ret
      exact ⟨congrArg (fun b => Ending.returned (.int .i64 b)) HE.out.symm, hB1'.trans (hB2.mono hB1'.size)⟩
end Go.Proofs.Ytijcfpdcijpenaa
