/-
  Text, by the code.
-/
import Derived.Test.YtlogijjgachdjaaDoorWtn
import Derived.Test.YtlogijjgachdjaaDoorFrst
namespace Go.Proofs.YtlogijjgachdjaaDoor
open Go.RowKit Go.Maps
set_option maxRecDepth 100000
set_option maxHeartbeats 4000000
set_option linter.unusedVariables false

/-- Do bytes begin with a whole instruction? -/
def okN (n : Nat) (f : Nat → Nat) : Bool := decide (1 ≤ n) && decide (szF (f 0) ≤ n)
def textV (ok : Bool) (t : List Nat) (s : Nat) : Value := if ok = true then .tuple #[.string (bsOf t), .int .i64 s, .int .i64 0] else .tuple #[.string ⟨#[]⟩, .int .i64 0, .int .i64 5]
/-- What first answers. -/
def frV (n : Nat) (f : Nat → Nat) : Value := .tuple #[if n = 0 then zeroNote else ntV (f 0), .bool (okN n f)]
theorem first_any (a : Option Addr) (n cap : Nat) (f : Nat → Nat) (w : World) (hR : Row w a n f) : Calls Tryd.prog 29 #[.slice a n cap] w fun e w' => e = .returned (frV n f) ∧ Below w.heap.size w w' := by
  obtain ⟨hb, h0 | ⟨g, o, rfl, hg, hc⟩⟩ := hR
  · subst h0
    exact first_nil a cap w
  · by_cases hn : n = 0
    · subst hn
      exact first_nil _ cap w
    · have h := first_some (f 0) g o n cap w (hb 0 (by omega)) (by omega) (by have := hc 0 (by omega); rwa [Nat.add_zero] at this) hg
      unfold frV okN
      rw [if_neg hn, decide_eq_true (show 1 ≤ n by omega), Bool.true_and]
      exact h
theorem Wrs.lt {W : World} {mb : Nat} (h : Wrs W mb) : mb < W.heap.size := let ⟨_, h, _⟩ := h.at_; h.lt
attribute [local irreducible] nmF fmF szF cyF txL nmL
theorem text_any (a : Option Addr) (n cap at_ : Nat) (f : Nat → Nat) (w : World) (hR : Row w a n f) (hcap : n ≤ cap) (hat : at_ < 65536) :
    Calls Tryd.prog 16 #[.slice a n cap, .int .u16 at_] w fun e w' => e = .returned (textV (okN n f) (txL (f 0) at_ f) (szF (f 0))) ∧ Below w.heap.size w w' := by
  have HF := fun W (hB : Below w.heap.size w W) => first_any a n cap f W (hR.below hB)
  by_cases hok : okN n f = true
  · have hn1 : 1 ≤ n := by simp [okN] at hok; omega
    have hsz : szF (f 0) ≤ n := by simp [okN] at hok; omega
    unfold frV at HF
    rw [hok, if_neg (show n ≠ 0 by omega)] at HF
    rw [hok]
    obtain ⟨hb, h0 | ⟨g, o, rfl, hg, hc⟩⟩ := hR
    · omega
    have hf0 := hb 0 (by omega)
    generalize hq : f 0 = c at *
    have HW := fun W (hB : Below w.heap.size w W) => writers_any W
    have HT : ∀ W mb, Below w.heap.size w W → Wrs W mb → mb < W.heap.size → Calls Tryd.prog 30 #[ntV c, .slice (some ⟨g, o, none⟩) n cap, .int .u16 at_, .map (some mb)] W fun e w' => e = .returned (.string (bsOf (txL c at_ f))) ∧ Below W.heap.size W w' :=
      fun W mb hB hm hl => written_any c at_ g o n cap mb f W hf0 hat hsz hcap (fun j hj => ⟨hb j hj, (hB.cell (p := ⟨g, o + j, none⟩) hg).trans (hc j hj)⟩) (Nat.lt_of_lt_of_le hg hB.size) hm hl
    unfold ntV at *
    unfold textV
    rw [if_pos rfl]
    generalize bsOf (txL c at_ f) = T at *
    generalize nmF c = nm at *
    generalize fmF c = fm at *
    generalize szF c = sz at *
    generalize cyF c = cy at *
    replace HF := Lib.hid HF
    replace HW := Lib.hid HW
    replace HT := Lib.hid HT
    clear hc hb hok
    go_enter Tryd.func16, Tryd.ntmps16
    go_wp2_with fail
    with_reducible refine (HF.out _ (Below.refl _ _)).mono ?_
    rintro e W1 ⟨rfl, hB1⟩
    have hX := Whole.fresh W1 25 #[.int .u8 c, .string nm, .string fm, .int .i64 sz, .int .i64 cy]
    have hB2 := hB1.alloc hB1.size (.cells #[.int .u8 c, .string nm, .string fm, .int .i64 sz, .int .i64 cy] 25)
    clear hB1
    go_wp2_with fail
    generalize W1.alloc (.cells #[.int .u8 c, .string nm, .string fm, .int .i64 sz, .int .i64 cy] 25) = W2 at *
    have x0 := hX.cell 0
    have x1 := hX.cell 1
    have x2 := hX.cell 2
    have x3 := hX.cell 3
    have x4 := hX.cell 4
    simp only [List.getElem?_toArray, List.getElem?_cons_zero, List.getElem?_cons_succ] at x0 x1 x2 x3 x4
    have keepS : ∀ W, Whole W W1.heap.size 25 #[.int .u8 c, .string nm, .string fm, .int .i64 sz, .int .i64 cy] → W.cell? ⟨W1.heap.size, 0, none⟩ = some (.int .u8 c) ∧ W.cell? ⟨W1.heap.size, 1, none⟩ = some (.string nm) ∧ W.cell? ⟨W1.heap.size, 2, none⟩ = some (.string fm) ∧ W.cell? ⟨W1.heap.size, 3, none⟩ = some (.int .i64 sz) ∧ W.cell? ⟨W1.heap.size, 4, none⟩ = some (.int .i64 cy) :=
      fun W h => ⟨h.cell 0, h.cell 1, h.cell 2, h.cell 3, h.cell 4⟩
    replace keepS := Lib.hid keepS
    have hXd := hX.drew
    have hBd := hB2.drew
    have hSd := keepS.out _ hXd
    go_region_held3 (fun W => W.cell? ⟨W1.heap.size, 0, none⟩ = some (.int .u8 c) ∧ W.cell? ⟨W1.heap.size, 1, none⟩ = some (.string nm) ∧ W.cell? ⟨W1.heap.size, 2, none⟩ = some (.string fm) ∧ W.cell? ⟨W1.heap.size, 3, none⟩ = some (.int .i64 sz) ∧ W.cell? ⟨W1.heap.size, 4, none⟩ = some (.int .i64 cy))
      (first | (with_reducible exact hSd) | (with_reducible exact hS3) | (with_reducible exact hS4))
      (first
        | (go_at_call 31; refine (HW.out _ hBd).mono ?_; rintro e W3 ⟨mb, rfl, hmb, hWr, hb3⟩; have hB3 := hBd.trans (hb3.mono hBd.size); have hX3 := hXd.below hb3 hXd.lt; have hS3 := keepS.out _ hX3)
        | (go_at_call 30; refine (HT.out _ mb hB3 hWr hWr.lt).mono ?_; rintro e W4 ⟨rfl, hb4⟩; have hB4 := hB3.trans (hb4.mono hB3.size); have hX4 := hX3.below hb4 hX3.lt; have hS4 := keepS.out _ hX4))
    all_goals
      try (go_wp2_with fail)
      go_ret3
      exact ⟨rfl, hB4⟩
  · have hok : okN n f = false := by simpa using hok
    unfold frV at HF
    rw [hok] at HF
    rw [hok]
    unfold textV
    rw [if_neg (by decide)]
    by_cases hn : n = 0
    · rw [if_pos hn] at HF
      unfold zeroNote at HF
      replace HF := Lib.hid HF
      clear hR hn
      go_enter Tryd.func16, Tryd.ntmps16
      go_wp2_with fail
      with_reducible refine (HF.out _ (Below.refl _ _)).mono ?_
      rintro e W1 ⟨rfl, hB1⟩
      have hB2 := hB1.alloc hB1.size (.cells #[.int .u8 0, .string ⟨#[]⟩, .string ⟨#[]⟩, .int .i64 0, .int .i64 0] 25)
      go_wp2_with fail
      go_ret3
      exact ⟨rfl, hB2⟩
    · rw [if_neg hn] at HF
      unfold ntV at HF
      generalize f 0 = c at *
      generalize nmF c = nm at *
      generalize fmF c = fm at *
      generalize szF c = sz at *
      generalize cyF c = cy at *
      replace HF := Lib.hid HF
      clear hR
      go_enter Tryd.func16, Tryd.ntmps16
      go_wp2_with fail
      with_reducible refine (HF.out _ (Below.refl _ _)).mono ?_
      rintro e W1 ⟨rfl, hB1⟩
      have hB2 := hB1.alloc hB1.size (.cells #[.int .u8 c, .string nm, .string fm, .int .i64 sz, .int .i64 cy] 25)
      go_wp2_with fail
      go_ret3
      exact ⟨rfl, hB2⟩
end Go.Proofs.YtlogijjgachdjaaDoor
