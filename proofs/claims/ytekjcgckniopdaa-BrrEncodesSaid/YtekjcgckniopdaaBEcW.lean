/-
  The walk of BrrEncodes.
-/
import Derived.Test.YtekjcgckniopdaaBEnc
namespace Go.Proofs.Ytekjcgckniopdaa.brrEncodes
open Go.RowKit Go.Shelf
set_option maxRecDepth 100000
set_option maxHeartbeats 2000000
set_option linter.unusedVariables false
set_option linter.unusedSimpArgs false

theorem walk (a : Option Addr) (n c : Nat) (s : Nat → Int) (p q : Int) (w : World) (hR : IRow w a n s) (hs : ∀ i, Smp (s i)) (hn : n ≤ 140737488351232) (hnc : n ≤ c) (hp : Smp p) (hq : Smp q) :
    Calls Try.prog 5 #[.slice a n c, .agg #[.int .i16 p, .int .i16 q]] w fun e w' => e = .returned (.bool true) ∧ Below w.heap.size w w' := by
  have hB0 := (Below.refl w.heap.size w).alloc (Nat.le_refl _) (.cells #[.int .i16 p, .int .i16 q] 25)
  have hS0 := Whole.fresh w 25 #[.int .i16 p, .int .i16 q]
  have hR1 := hR.below hB0
  by_cases h16 : n = 16
  · subst h16
    have HD := Lib.hid (fun W h => rencode_any W a c s p q h hs hp hq)
    have HE := Lib.hid (fun W h => cencode_any W a c s p q h hs hp hq)
    clear hR
    go_enter Try.func5, Try.ntmps5
    go_upto_region 1 with (fail)
    generalize w.alloc (.cells #[.int .i16 p, .int .i16 q] 25) = W1 at *
    have x0 := hS0.cell 0
    have x1 := hS0.cell 1
    simp only [List.getElem?_toArray, List.getElem?_cons_zero, List.getElem?_cons_succ] at x0 x1
    have HD1 := Lib.hid (HD.out W1 hR1)
    have hh := Lib.hid (And.intro hB0 (And.intro hS0 hR1))
    clear hB0 hS0 hR1
    go_wp2_with fail
    refine HD1.out.mono ?_
    rintro e W2 ⟨G, rfl, hG, hGl, hB2⟩
    obtain ⟨hB0, hS0, hR1⟩ := hh.out
    have hS2 := hS0.below hB2 hS0.lt
    have y0 := hS2.cell 0
    have y1 := hS2.cell 1
    simp only [List.getElem?_toArray, List.getElem?_cons_zero, List.getElem?_cons_succ] at y0 y1
    have HE2 := Lib.hid (HE.out W2 (hR1.below hB2))
    have hh2 := Lib.hid (And.intro hG.row (hB0.trans (hB2.mono hB0.size)))
    clear hB0 hS0 hR1 hS2 hG hGl hB2 x0 x1 hh HD1
    go_wp2_with fail
    refine HE2.out.mono ?_
    rintro e W3 ⟨G', rfl, hG', hB3⟩
    have HB := Lib.hid (same_any (some ⟨G', 4, none⟩) (some ⟨G, 0, none⟩) 9 9 9 (encB s p q) W3 hG' (hh2.out.1.below hB3) (by decide))
    have hB4 := Lib.hid (hh2.out.2.trans (hB3.mono hh2.out.2.size))
    clear hG' hB3 hh2 HE2 y0 y1
    go_wp2_with fail
    refine HB.out.mono ?_
    rintro e W4 ⟨rfl, q4, rfl⟩
    have hB5 := Lib.hid (below_drewN hB4.out q4)
    clear HB hB4
    go_wp2_with fail
    go_ret
    exact ⟨rfl, hB5.out⟩
  · have HD := Lib.hid (fun W => rencode_no W a n c p q h16)
    have HE := Lib.hid (fun W => cencode_no W a n c p q h16)
    clear hR hR1
    go_enter Try.func5, Try.ntmps5
    go_upto_region 1 with (fail)
    generalize w.alloc (.cells #[.int .i16 p, .int .i16 q] 25) = W1 at *
    have x0 := hS0.cell 0
    have x1 := hS0.cell 1
    simp only [List.getElem?_toArray, List.getElem?_cons_zero, List.getElem?_cons_succ] at x0 x1
    replace hB0 := Lib.hid hB0
    clear hS0
    go_wp2_with fail
    refine (HD.out _).mono ?_
    rintro e W2 ⟨rfl, rfl⟩
    go_wp2_with fail
    refine (HE.out _).mono ?_
    rintro e W3 ⟨rfl, rfl⟩
    have HB := Lib.hid (same_any none none 0 0 0 (fun _ => 0) W3 (Row.nil _ _ _) (Row.nil _ _ _) (by decide))
    clear x0 x1
    go_wp2_with fail
    refine HB.out.mono ?_
    rintro e W4 ⟨rfl, q4, rfl⟩
    have hB5 := Lib.hid (below_drewN hB0.out q4)
    clear HB hB0
    go_wp2_with fail
    go_ret
    exact ⟨rfl, hB5.out⟩
end Go.Proofs.Ytekjcgckniopdaa.brrEncodes
