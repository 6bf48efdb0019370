/-
  Whether a state can be, by the code and by the document.
-/
import Derived.Test.YtbdhdedlemndeaaDoorKTk2
import Derived.Test.YtbdhdedlemndeaaDoorKStep
import Derived.Deep.QuietTactic
import Derived.BigQuiet
namespace Go.Proofs.YtbdhdedlemndeaaDoor
open Go.RowKit Go.Shelf
set_option maxRecDepth 100000
set_option maxHeartbeats 1000000
set_option linter.unusedVariables false
set_option linter.unusedSimpArgs false

def okK (f : Nat → Nat) (k : Nat) : Bool := decide (f (2 + 4 * k) < perT k) && decide (f (4 + 4 * k) < 16)
def canB (f : Nat → Nat) : Bool := okK f 0 && okK f 1 && okK f 2 && decide (f 0 / 8 % 16 = 0)
theorem tcan_any {b p q : Nat} {f : Nat → Nat} (w : World) (h : Tq w b f) (hp : p + 3 < 23) :
    Calls Tryd.prog 66 #[.pointer (some ⟨b, p, none⟩), .int .u8 (q : Nat)] w fun e w' => e = .returned (.bool (decide (f (p + 1) < q) && decide (f (p + 3) < 16))) ∧ w' = w := by
  have c1 := h.cell (p + 1) (by omega)
  have c3 := h.cell (p + 3) hp
  clear h
  generalize f (p + 1) = A at *
  generalize f (p + 3) = B at *
  by_cases h1 : A < q
  · by_cases h2 : B < 16
    · have t1 : decide (A < q) = true := decide_eq_true h1
      have t2 : decide ((B : Int) ≤ 15) = true := decide_eq_true (by omega)
      rw [decide_eq_true h1, decide_eq_true h2, Bool.and_self]
      clear h1 h2
      go_enter Tryd.func66, Tryd.ntmps66
      go_wp2_with fail
      go_ret
      exact ⟨rfl, rfl⟩
    · have t1 : decide (A < q) = true := decide_eq_true h1
      have t2 : decide ((B : Int) ≤ 15) = false := decide_eq_false (by omega)
      rw [decide_eq_true h1, decide_eq_false h2, Bool.and_false]
      clear h1 h2
      go_enter Tryd.func66, Tryd.ntmps66
      go_wp2_with fail
      go_ret
      exact ⟨rfl, rfl⟩
  · have t1 : decide (A < q) = false := decide_eq_false h1
    rw [decide_eq_false h1, Bool.false_and]
    clear h1
    go_enter Tryd.func66, Tryd.ntmps66
    go_wp2_with fail
    go_ret
    exact ⟨rfl, rfl⟩
theorem kstays : ∀ q : Nat, q < 256 → (bits .andNot .u8 (q : Int) 135 == 0) = decide (q / 8 % 16 = 0) := by decide +kernel
theorem kcan_any {b : Nat} {f : Nat → Nat} (w : World) (h : Tq w b f) (hp : Pd w) :
    Calls Tryd.prog 45 #[.pointer (some ⟨b, 0, none⟩)] w fun e w' => e = .returned (.bool (canB f)) ∧ ∃ q, w' = w.drewN q := by
  have c0 := h.cell 0 (by decide)
  have s0 := kstays (f 0) (h.byte 0 (by decide))
  have HT : ∀ (k : Nat) (hk : k < 3) W, Tq W b f → Calls Tryd.prog 66 #[.pointer (some ⟨b, 1 + 4 * k, none⟩), .int .u8 (perT k : Nat)] W fun e w' => e = .returned (.bool (okK f k)) ∧ w' = W := fun k hk W hW => by
    have := tcan_any (p := 1 + 4 * k) (q := perT k) W hW (by omega)
    rw [show 1 + 4 * k + 1 = 2 + 4 * k by omega, show 1 + 4 * k + 3 = 4 + 4 * k by omega] at this
    exact this
  have T0 := Lib.hid (fun W hW => (show Calls Tryd.prog 66 #[.pointer (some ⟨b, 1, none⟩), .int .u8 128] W fun e w' => e = .returned (.bool (okK f 0)) ∧ w' = W from HT 0 (by decide) W hW))
  have T1 := Lib.hid (fun W hW => (show Calls Tryd.prog 66 #[.pointer (some ⟨b, 5, none⟩), .int .u8 128] W fun e w' => e = .returned (.bool (okK f 1)) ∧ w' = W from HT 1 (by decide) W hW))
  have T2 := Lib.hid (fun W hW => (show Calls Tryd.prog 66 #[.pointer (some ⟨b, 9, none⟩), .int .u8 16] W fun e w' => e = .returned (.bool (okK f 2)) ∧ w' = W from HT 2 (by decide) W hW))
  have hcb : canB f = (okK f 0 && okK f 1 && okK f 2 && decide (f 0 / 8 % 16 = 0)) := rfl
  have hh := Lib.hid h
  have hpp := Lib.hid hp
  clear h hp HT c0
  generalize canB f = C at *
  generalize okK f 0 = o0 at *
  generalize okK f 1 = o1 at *
  generalize okK f 2 = o2 at *
  generalize decide (f 0 / 8 % 16 = 0) = o3 at *
  replace hcb := Lib.hid hcb
  replace s0 := Lib.hid s0
  go_enter Tryd.func45, Tryd.ntmps45
  go_wp2_with fail
  go_loopw [4] (fun i wr => ∃ k : Nat, k ≤ 3 ∧ i = .int .i64 k ∧ Hid ((∃ q, wr = w.drewN q) ∧ (0 < k → o0 = true) ∧ (1 < k → o1 = true) ∧ (2 < k → o2 = true))) (fun i _ => 3 - (intOf i).toNat)
  case atStart => exact ⟨0, Nat.zero_le _, rfl, Lib.hid ⟨⟨0, rfl⟩, fun h => absurd h (by decide), fun h => absurd h (by decide), fun h => absurd h (by decide)⟩⟩
  case round =>
    obtain ⟨k, hk, rfl, hH⟩ := hrel
    obtain ⟨wo, rfl⟩ : ∃ wo, wo = wr := ⟨_, rfl⟩
    have hTo : Tq wo b f := by obtain ⟨q, rfl⟩ := hH.out.1; exact hh.out.drewN q
    have hPo : Pd wo := by obtain ⟨q, rfl⟩ := hH.out.1; exact ⟨hpp.out.lt, hpp.out.p0, hpp.out.p1, hpp.out.p2⟩
    rcases (show k = 0 ∨ k = 1 ∨ k = 2 ∨ k = 3 by omega) with rfl | rfl | rfl | rfl
    · have p := hPo.p0
      replace hTo := Lib.hid hTo
      replace hPo := Lib.hid hPo
      clear hk
      go_upto_region 4 with (fail)
      go_quiet ((go_at_call 66; exact Calls.quiet_of_same (T0.out _ (hTo.out.drewN _))))
      have hq : ∃ q, wo.drewN nq = w.drewN q := by obtain ⟨q, rfl⟩ := hH.out.1; exact ⟨q + nq, World.drewN_drewN _ _ _⟩
      replace hq := Lib.hid hq
      generalize wo.drewN nq = W1 at *
      cases o0 with
      | true =>
        have hn : (0 < 1 → true = true) ∧ (1 < 1 → o1 = true) ∧ (2 < 1 → o2 = true) := ⟨fun _ => rfl, fun h => absurd h (by decide), fun h => absurd h (by decide)⟩
        replace hn := Lib.hid hn
        go_wp2_with fail
        exact ⟨⟨1, by decide, rfl, Lib.hid ⟨hq.out, by first | exact hn.out | (have hx := hn.out; simp at hx ⊢; done) | (have hx := hn.out; simp at hx ⊢; exact hx)⟩⟩, by simp only [intOf]; omega⟩
      | false =>
        have hC : C = false := by rw [hcb.out]; simp
        replace hC := Lib.hid hC
        go_wp2_with fail
        go_ret
        exact ⟨by rw [hC.out]; rfl, hq.out⟩
    · have p := hPo.p1
      replace hTo := Lib.hid hTo
      replace hPo := Lib.hid hPo
      clear hk
      go_upto_region 4 with (fail)
      go_quiet ((go_at_call 66; exact Calls.quiet_of_same (T1.out _ (hTo.out.drewN _))))
      have hq : ∃ q, wo.drewN nq = w.drewN q := by obtain ⟨q, rfl⟩ := hH.out.1; exact ⟨q + nq, World.drewN_drewN _ _ _⟩
      replace hq := Lib.hid hq
      generalize wo.drewN nq = W1 at *
      cases o1 with
      | true =>
        have hn : (0 < 2 → o0 = true) ∧ (1 < 2 → true = true) ∧ (2 < 2 → o2 = true) := ⟨fun _ => hH.out.2.1 (by decide), fun _ => rfl, fun h => absurd h (by decide)⟩
        replace hn := Lib.hid hn
        go_wp2_with fail
        exact ⟨⟨2, by decide, rfl, Lib.hid ⟨hq.out, by first | exact hn.out | (have hx := hn.out; simp at hx ⊢; done) | (have hx := hn.out; simp at hx ⊢; exact hx)⟩⟩, by simp only [intOf]; omega⟩
      | false =>
        have hC : C = false := by rw [hcb.out]; simp
        replace hC := Lib.hid hC
        go_wp2_with fail
        go_ret
        exact ⟨by rw [hC.out]; rfl, hq.out⟩
    · have p := hPo.p2
      replace hTo := Lib.hid hTo
      replace hPo := Lib.hid hPo
      clear hk
      go_upto_region 4 with (fail)
      go_quiet ((go_at_call 66; exact Calls.quiet_of_same (T2.out _ (hTo.out.drewN _))))
      have hq : ∃ q, wo.drewN nq = w.drewN q := by obtain ⟨q, rfl⟩ := hH.out.1; exact ⟨q + nq, World.drewN_drewN _ _ _⟩
      replace hq := Lib.hid hq
      generalize wo.drewN nq = W1 at *
      cases o2 with
      | true =>
        have hn : (0 < 3 → o0 = true) ∧ (1 < 3 → o1 = true) ∧ (2 < 3 → true = true) := ⟨fun _ => hH.out.2.1 (by decide), fun _ => hH.out.2.2.1 (by decide), fun _ => rfl⟩
        replace hn := Lib.hid hn
        go_wp2_with fail
        exact ⟨⟨3, by decide, rfl, Lib.hid ⟨hq.out, by first | exact hn.out | (have hx := hn.out; simp at hx ⊢; done) | (have hx := hn.out; simp at hx ⊢; exact hx)⟩⟩, by simp only [intOf]; omega⟩
      | false =>
        have hC : C = false := by rw [hcb.out]; simp
        replace hC := Lib.hid hC
        go_wp2_with fail
        go_ret
        exact ⟨by rw [hC.out]; rfl, hq.out⟩
    · have c0 := hTo.cell 0 (by decide)
      have e0 := hH.out.2.1 (by decide)
      have e1 := hH.out.2.2.1 (by decide)
      have e2 := hH.out.2.2.2 (by decide)
      have hC : C = o3 := by rw [hcb.out, e0, e1, e2]; simp
      replace hC := Lib.hid hC
      have hq := Lib.hid hH.out.1
      have s0' := s0.out
      clear e0 e1 e2 hH hTo hPo
      generalize f 0 = A at *
      go_wp2_with fail
      go_ret
      exact ⟨by rw [hC.out]; rfl, hq.out⟩
end Go.Proofs.YtbdhdedlemndeaaDoor
