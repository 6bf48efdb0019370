/-
  The document's Set.
-/
import Derived.Test.YtijcfpdcijpenaaRfLeast
import Derived.Test.YtijcfpdcijpenaaRfAdd
import Derived.Test.YtijcfpdcijpenaaCalls
import Derived.StillTailTactics
namespace Go.Proofs.Ytijcfpdcijpenaa
open Go.RowKit Go.Shelf
set_option maxRecDepth 100000
set_option maxHeartbeats 1000000
set_option linter.unusedVariables false
theorem any_at {zs : List Int} {f : Int → Bool} : zs.any f = true ↔ ∃ j, j < zs.length ∧ f (zs[j]?.getD 0) = true := by
  rw [List.any_eq_true]
  constructor
  · rintro ⟨x, hx, hf⟩
    obtain ⟨j, hj, rfl⟩ := List.getElem_of_mem hx
    exact ⟨j, hj, by rw [List.getElem?_eq_getElem hj]; exact hf⟩
  · rintro ⟨j, hj, hf⟩
    rw [List.getElem?_eq_getElem hj] at hf
    exact ⟨_, List.getElem_mem hj, hf⟩
theorem any_not {zs : List Int} {f : Int → Bool} (h : ∀ j, j < zs.length → f (zs[j]?.getD 0) = false) : zs.any f = false := by
  rw [Bool.eq_false_iff]
  intro e
  obtain ⟨j, hj, hf⟩ := any_at.1 e
  rw [h j hj] at hf
  cases hf
theorem setErr_neg {n : Nat} {zs : List Int} (h : zs.length = n) (k : Nat) (hk : k < zs.length) (hz : zs[k]?.getD 0 < 0) : setErr n zs = 2 := by
  unfold setErr
  rw [if_neg (by omega), if_pos (any_at.2 ⟨k, hk, decide_eq_true hz⟩)]
theorem setErr_large {n : Nat} {zs : List Int} (h : zs.length = n) (h0 : ∀ j, j < zs.length → 0 ≤ zs[j]?.getD 0) (h1 : ∃ j, j < zs.length ∧ 1152921504606846976 < zs[j]?.getD 0) : setErr n zs = 4 := by
  obtain ⟨k, hk, hz⟩ := h1
  unfold setErr
  rw [if_neg (by omega), any_not (fun j hj => decide_eq_false (by have := h0 j hj; omega)), any_at.2 ⟨k, hk, decide_eq_true hz⟩]
  rfl
theorem setErr_ok {n : Nat} {zs : List Int} (h : zs.length = n) (h0 : ∀ j, j < zs.length → 0 ≤ zs[j]?.getD 0) (h1 : ¬ ∃ j, j < zs.length ∧ 1152921504606846976 < zs[j]?.getD 0) : setErr n zs = 0 := by
  unfold setErr
  rw [if_neg (by omega), any_not (fun j hj => decide_eq_false (by have := h0 j hj; omega)), any_not (fun j hj => decide_eq_false (fun hz => h1 ⟨j, hj, hz⟩))]
  rfl
/-- ts, of which the first k are zs. -/
def Mixed (zs ts us : List Int) (k : Nat) : Prop := us.length = ts.length ∧ ∀ j : Nat, us[j]?.getD 0 = if j < k then zs[j]?.getD 0 else ts[j]?.getD 0
theorem mixed_step {zs ts us : List Int} {k : Nat} (h : Mixed zs ts us k) (hk : k < ts.length) : Mixed zs ts (us.set k (zs[k]?.getD 0)) (k + 1) := by
  refine ⟨by rw [List.length_set]; exact h.1, fun j => ?_⟩
  rw [set_read us k j _ (by rw [h.1]; exact hk), h.2 j]
  by_cases e : j = k
  · subst e
    rw [if_pos rfl, if_pos (by omega)]
  · rw [if_neg e]
    by_cases e2 : j < k
    · rw [if_pos e2, if_pos (by omega)]
    · rw [if_neg e2, if_neg (by omega)]
theorem mixed_all {zs ts us : List Int} (h : Mixed zs ts us ts.length) (hl : zs.length = ts.length) : us = zs := by
  apply List.ext_getElem
  · rw [h.1, hl]
  · intro j h1 h2
    have := h.2 j
    rw [if_pos (by rw [← h.1]; exact h1), List.getElem?_eq_getElem h1, List.getElem?_eq_getElem h2] at this
    exact this
theorem rset_any (a : Option Addr) (cap : Nat) (zs : List Int) (w : World) {p q cp cq : Nat} {ss ts : List Int} (h : Rf w p q ss ts) (hn : ss.length ≤ 16) (hl : Lies .i64 w a zs) (hm : zs.length ≤ maxLen) (hq : 0 < zs.length → ∀ b o, a = some ⟨b, o, none⟩ → b ≠ q)
    (E : Int) (us : List Int) (hE : setErr ss.length zs = E) (hU : (if E = 0 then zs else ts) = us) :
    Calls Try.prog 15 #[rv p q ss.length cp cq, .slice a zs.length cap] w fun e w' => e = .returned (.int .i64 E) ∧ w.grownBy w' (some q) ∧ Rf w' p q ss us := by
  have HE0 := Lib.hid hE
  have HU0 := Lib.hid hU
  clear hE hU
  unfold rv
  have hR := h.alloc (.cells #[.slice (some ⟨p, 0, none⟩) ss.length cp, .slice (some ⟨q, 0, none⟩) ss.length cq] 25)
  have hC := Whole.fresh w 25 #[.slice (some ⟨p, 0, none⟩) ss.length cp, .slice (some ⟨q, 0, none⟩) ss.length cq]
  have hB0 : Below w.heap.size w (w.alloc (.cells #[.slice (some ⟨p, 0, none⟩) ss.length cp, .slice (some ⟨q, 0, none⟩) ss.length cq] 25)) := (Below.refl _ _).alloc (Nat.le_refl _) _
  have hl0 := hl.below hB0
  have hqw : q < w.heap.size := h.ql
  unfold maxLen at hm
  by_cases hlen : zs.length = ss.length
  · have t0 : ((zs.length : Int) != (ss.length : Int)) = false := by rw [hlen]; simp
    have t0' : (zs.length != ss.length) = false := by rw [hlen]; simp
    have HLen := Lib.hid hlen
    have HL := Lib.hid hl
    have HQ := Lib.hid hq
    clear hlen h hl hq hl0
    go_enter Try.func15, Try.ntmps15
    go_wp2_with fail
    generalize w.alloc (Obj.cells #[.slice (some ⟨p, 0, none⟩) ss.length cp, .slice (some ⟨q, 0, none⟩) ss.length cq] 25) = W0 at hR hC hB0 ⊢
    go_loopw [5, 6] (fun sb si wr => ∃ (k : Nat) (b : Bool), k ≤ zs.length ∧ sb = .bool b ∧ si = .int .i64 k ∧ wr = W0 ∧ Hid (∀ j, j < k → 0 ≤ zs[j]?.getD 0) ∧ Hid (b = true ↔ ∃ j, j < k ∧ 1152921504606846976 < zs[j]?.getD 0)) (fun _ si _ => zs.length - (intOf si).toNat)
    case atStart => exact ⟨0, false, Nat.zero_le _, rfl, rfl, rfl, Lib.hid (fun j hj => absurd hj (Nat.not_lt_zero j)), Lib.hid ⟨fun e => Bool.noConfusion e, fun ⟨j, hj, _⟩ => absurd hj (Nat.not_lt_zero j)⟩⟩
    case round =>
      obtain ⟨k, b, hk, rfl, rfl, rfl, hN, hG⟩ := hrel
      by_cases hlt : k < zs.length
      · rcases HL.out with h0 | ⟨bb, o, rfl, hbb, hcell⟩
        · simp [h0] at hlt
        · have d := (hB0.cell (p := ⟨bb, o + k, none⟩) hbb).trans (hcell k hlt)
          obtain ⟨z, hz⟩ : ∃ z, zs[k]?.getD 0 = z := ⟨_, rfl⟩
          rw [hz] at d
          have HZ := Lib.hid hz
          clear hcell hz
          by_cases hz0 : z < 0
          · have t1 : decide (z < 0) = true := decide_eq_true hz0
            obtain rfl : E = 2 := by rw [← HE0.out]; exact setErr_neg HLen.out k hlt (by rw [HZ.out]; exact hz0)
            obtain rfl : ts = us := by rw [← HU0.out, if_neg (by decide)]
            clear hz0
            go_wp2_with fail
            go_ret
            exact ⟨rfl, Below.only hB0 q, hR⟩
          · have t1 : decide (z < 0) = false := decide_eq_false hz0
            have HN2 := Lib.hid (show ∀ j, j < k + 1 → 0 ≤ zs[j]?.getD 0 from fun j hj => by
              by_cases e : j = k
              · subst e; rw [HZ.out]; omega
              · exact hN.out j (by omega))
            cases b
            · by_cases hb : 1152921504606846976 < z
              · have t2 : decide (1152921504606846976 < z) = true := decide_eq_true hb
                have HG2 := Lib.hid (show true = true ↔ ∃ j, j < k + 1 ∧ 1152921504606846976 < zs[j]?.getD 0 from ⟨fun _ => ⟨k, by omega, by rw [HZ.out]; exact hb⟩, fun _ => rfl⟩)
                clear hb hz0 hG
                go_wp2_with fail
                go_roundw
                case rel => exact ⟨k + 1, true, by omega, rfl, by go_num, by first | trivial | rfl, HN2, HG2⟩
                case measure => simp [intOf]; omega
              · have t2 : decide (1152921504606846976 < z) = false := decide_eq_false hb
                have HG2 := Lib.hid (show false = true ↔ ∃ j, j < k + 1 ∧ 1152921504606846976 < zs[j]?.getD 0 from ⟨fun e => Bool.noConfusion e, fun ⟨j, hj, hj2⟩ => by
                  by_cases e : j = k
                  · subst e; rw [HZ.out] at hj2; exact absurd hj2 hb
                  · exact hG.out.2 ⟨j, by omega, hj2⟩⟩)
                clear hb hz0 hG
                go_wp2_with fail
                go_roundw
                case rel => exact ⟨k + 1, false, by omega, rfl, by go_num, by first | trivial | rfl, HN2, HG2⟩
                case measure => simp [intOf]; omega
            · have HG2 := Lib.hid (show true = true ↔ ∃ j, j < k + 1 ∧ 1152921504606846976 < zs[j]?.getD 0 from ⟨fun _ => by
                obtain ⟨j, hj, hj2⟩ := hG.out.1 rfl
                exact ⟨j, by omega, hj2⟩, fun _ => rfl⟩)
              clear hz0 hG
              go_wp2_with fail
              go_roundw
              case rel => exact ⟨k + 1, true, by omega, rfl, by go_num, by first | trivial | rfl, HN2, HG2⟩
              case measure => simp [intOf]; omega
      · obtain rfl : k = zs.length := by omega
        cases b
        · obtain rfl : E = 0 := by rw [← HE0.out]; exact setErr_ok HLen.out hN.out (fun h => Bool.noConfusion (hG.out.2 h))
          obtain rfl : zs = us := by rw [← HU0.out, if_pos rfl]
          clear hN hG
          go_wp2_with fail
          go_loopw [7] (fun si wq => ∃ (k : Nat) (us : List Int), k ≤ zs.length ∧ si = .int .i64 k ∧ Hid (Mixed zs ts us k) ∧ Rf wq p q ss us ∧ Whole wq w.heap.size 25 #[.slice (some ⟨p, 0, none⟩) ss.length cp, .slice (some ⟨q, 0, none⟩) ss.length cq] ∧ w.grownBy wq (some q)) (fun si _ => zs.length - (intOf si).toNat)
          case atStart => exact ⟨0, ts, Nat.zero_le _, rfl, Lib.hid ⟨rfl, fun j => by rw [if_neg (Nat.not_lt_zero j)]⟩, hR, hC, Below.only hB0 q⟩
          case round =>
            obtain ⟨k, us, hk, rfl, hM, hRq, hCq, hGq⟩ := hrel
            obtain ⟨wo, rfl⟩ : ∃ wo, wo = wr := ⟨_, rfl⟩
            clear hR hC hB0
            have c0 := hCq.drew.cell 0
            have c1 := hCq.drew.cell 1
            simp only [List.getElem?_toArray, List.getElem?_cons_zero, List.getElem?_cons_succ] at c0 c1
            by_cases hlt : k < zs.length
            · rcases HL.out with h0 | ⟨bb, o, rfl, hbb, hcell⟩
              · simp [h0] at hlt
              · have d : wo.drew.cell? ⟨bb, o + k, none⟩ = some (.int .i64 (zs[k]?.getD 0)) := (World.cell?_of_block (w := w) (w' := wo) (a := (⟨bb, o + k, none⟩ : Addr)) (hGq.block bb hbb (fun e => HQ.out (by omega) bb o rfl (by injection e)))).trans (hcell k hlt)
                obtain ⟨z, hz⟩ : ∃ z, zs[k]?.getD 0 = z := ⟨_, rfl⟩
                rw [hz] at d
                have hks : k < ss.length := by rw [← HLen.out]; exact hlt
                have HM2 := Lib.hid (mixed_step hM.out (show k < ts.length by rw [← hM.out.1, hRq.size]; exact hks))
                rw [hz] at HM2
                have hR2 := hRq.drew.put hks z
                have hC2 := (hCq.drew.away (p := ⟨q, k, none⟩) (by simp; omega) (.int .i64 z))
                have hG2 := only_set (a := w) (w := wo.drew) ⟨hGq.os, hGq.tape, hGq.output, hGq.size, hGq.block⟩ k (.int .i64 z)
                have v0 := hRq.drew.tm k hks
                have f0 := hRq.drew.fr k
                generalize us[k]?.getD 0 = y at v0
                clear hcell hz hM hRq hCq hGq
                go_wp2_with fail
                go_still_tail 8, (by kernel_rfl)
                show wpList _ _ _ _ _ wo.drew
                generalize wo.drew = W2 at *
                go_wp2_with fail
                go_roundw
                case rel => exact ⟨k + 1, us.set k z, by omega, by go_num, HM2, hR2, hC2, hG2⟩
                case measure => simp [intOf]; omega
            · obtain rfl : k = zs.length := by omega
              have hu : us = zs := mixed_all (by have := hM.out; rwa [show zs.length = ts.length by rw [HLen.out, ← hRq.size, hM.out.1]] at this) (by rw [HLen.out, ← hRq.size, hM.out.1])
              subst hu
              clear hM
              go_wp2_with fail
              go_ret
              exact ⟨rfl, hGq, hRq⟩
        · obtain rfl : E = 4 := by rw [← HE0.out]; exact setErr_large HLen.out hN.out (hG.out.1 rfl)
          obtain rfl : ts = us := by rw [← HU0.out, if_neg (by decide)]
          clear hN hG
          go_wp2_with fail
          go_ret
          exact ⟨rfl, Below.only hB0 q, hR⟩
  · have t0 : ((zs.length : Int) != (ss.length : Int)) = true := by rw [bne_iff_ne]; omega
    have t0' : (zs.length != ss.length) = true := by rw [bne_iff_ne]; omega
    obtain rfl : E = 2 := by rw [← HE0.out]; unfold setErr; rw [if_pos hlen]
    obtain rfl : ts = us := by rw [← HU0.out, if_neg (by decide)]
    clear hlen h hl HE0 HU0
    go_enter Try.func15, Try.ntmps15
    go_wp2_with fail
    go_ret
    exact ⟨rfl, Below.only hB0 q, hR⟩
end Go.Proofs.Ytijcfpdcijpenaa
