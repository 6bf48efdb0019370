/-
  Find, by the document.
-/
import Derived.Test.YtlogijjgachdjaaDoorFind
namespace Go.Proofs.YtlogijjgachdjaaDoor
open Go.RowKit
set_option maxRecDepth 100000
set_option maxHeartbeats 1000000
set_option linter.unusedVariables false

theorem nmsV_at (c : Nat) (hc : c < 256) : nmsV[c]? = some (.string (nmF c)) := by
  have h : nmsN.length = 256 := by decide +kernel
  simp only [nmsV, nmF, nmL, List.getElem?_toArray, List.getElem?_map, List.getD_eq_getElem?_getD, List.getElem?_eq_getElem (show c < nmsN.length by omega), Option.map_some, Option.getD_some]
theorem fmsV_at (c : Nat) (hc : c < 256) : fmsV[c]? = some (.string (fmF c)) := by
  have h : fmsN.length = 256 := by decide +kernel
  simp only [fmsV, fmF, fmL, List.getElem?_toArray, List.getElem?_map, List.getD_eq_getElem?_getD, List.getElem?_eq_getElem (show c < fmsN.length by omega), Option.map_some, Option.getD_some]
theorem cycV_at (c : Nat) (hc : c < 256) : cycV[c]? = some (.int .i64 (cyF c : Nat)) := by
  have h : cycN.length = 256 := by decide +kernel
  simp only [cycV, cyF, List.getElem?_toArray, List.getElem?_map, List.getD_eq_getElem?_getD, List.getElem?_eq_getElem (show c < cycN.length by omega), Option.map_some, Option.getD_some]
attribute [local irreducible] nmF fmF szF cyF nmsV fmsV cycV
theorem rfind_any (nm fm : ByteArray) (w : World) :
    Calls Tryd.prog 7 #[.string nm, .string fm] w fun e w' => e = .returned (fdV (fdF nm fm)) ∧ Below w.heap.size w w' := by
  generalize hr0 : fdF nm fm = rr
  have H1 := fun W => names_any W
  have H2 := fun W => forms_any W
  have n1 := nmsV_at
  have n2 := fmsV_at
  generalize nmsV = A1 at *
  generalize fmsV = A2 at *
  replace hr0 := Lib.hid hr0
  replace H1 := Lib.hid H1
  replace H2 := Lib.hid H2
  go_enter Tryd.func7, Tryd.ntmps7
  go_wp2_with fail
  with_reducible refine (H1.out _).mono ?_
  rintro e W1 ⟨rfl, rfl⟩
  go_wp2_with fail
  with_reducible refine (H2.out _).mono ?_
  rintro e W2 ⟨rfl, rfl⟩
  have hX := (Whole.fresh w 9 A1).alloc (.cells A2 9)
  have hY := Whole.fresh (w.alloc (.cells A1 9)) 9 A2
  rw [World.size_alloc] at hY
  have hB := ((Below.refl w.heap.size w).alloc (Nat.le_refl _) (.cells A1 9)).alloc (by simp) (.cells A2 9)
  go_wp2_with fail
  generalize (w.alloc (.cells A1 9)).alloc (.cells A2 9) = W0 at *
  go_loopw [8] (fun s8 wr => ∃ k : Nat, k ≤ 256 ∧ s8 = .int .i64 k ∧ Hid (fdG nm fm (256 - k) k = rr) ∧ wr = W0) (fun s8 _ => 256 - (intOf s8).toNat)
  case atStart => exact ⟨0, by omega, rfl, hr0, rfl⟩
  case round =>
    obtain ⟨k, hk, rfl, hP, rfl⟩ := hrel
    clear hr0
    by_cases hlt : k < 256
    · have hP1 := hP.out
      rw [fdG_step nm fm k hlt] at hP1
      have x1 := (hX.cell k).trans (n1 k hlt)
      have x2 := (hY.cell k).trans (n2 k hlt)
      have t1 : decide ((k : Int) < 256) = true := decide_eq_true (by omega)
      have t2 : decide ((256 : Int) ≤ (k : Int)) = false := decide_eq_false (by omega)
      cases hq : (nmF k).toList == nm.toList with
      | false =>
        rw [show hitB nm fm k = false by simp [hitB, hq], if_neg (by decide)] at hP1
        replace hP1 := Lib.hid hP1
        clear hP n1 n2 hX hY
        generalize nmF k = nx at *
        generalize fmF k = fx at *
        go_wp2_with fail
        go_roundw
        case rel => exact ⟨k + 1, by omega, by go_num, hP1, trivial⟩
        case measure => simp [intOf]; omega
      | true =>
        cases hq2 : (fmF k).toList == fm.toList with
        | false =>
          rw [show hitB nm fm k = false by simp [hitB, hq2], if_neg (by decide)] at hP1
          replace hP1 := Lib.hid hP1
          clear hP n1 n2 hX hY
          generalize nmF k = nx at *
          generalize fmF k = fx at *
          go_wp2_with fail
          go_roundw
          case rel => exact ⟨k + 1, by omega, by go_num, hP1, trivial⟩
          case measure => simp [intOf]; omega
        | true =>
          rw [show hitB nm fm k = true by simp [hitB, hq, hq2], if_pos rfl] at hP1
          subst hP1
          clear hP n1 n2 hX hY
          generalize nmF k = nx at *
          generalize fmF k = fx at *
          go_wp2_with fail
          go_ret2
          exact ⟨by simp [fdV, hlt], hB⟩
    · obtain rfl : k = 256 := by omega
      have hP1 := hP.out
      rw [Nat.sub_self, fdG] at hP1
      subst hP1
      clear hP n1 n2 hX hY
      go_wp2_with fail
      go_ret2
      exact ⟨rfl, hB⟩
end Go.Proofs.YtlogijjgachdjaaDoor
