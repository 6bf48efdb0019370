/-
  The walk of BrrDecodes.
-/
import Derived.Test.YtekjcgckniopdaaBDecs
namespace Go.Proofs.Ytekjcgckniopdaa.brrDecodes
open Go.RowKit Go.Shelf
set_option maxRecDepth 100000
set_option maxHeartbeats 2000000
set_option linter.unusedVariables false
set_option linter.unusedSimpArgs false

theorem walk (a : Option Addr) (n c : Nat) (f : Nat → Nat) (p q : Int) (hd : Nat) (w : World) (hR : Row w a n f) (hnc : n ≤ c) (hn : n ≤ 140737488351232) (hp : Smp p) (hq : Smp q) (hh : hd < 256) :
    Calls Try.prog 3 #[.slice a n c, .agg #[.int .i16 p, .int .i16 q], .int .u8 (hd : Nat)] w fun e w' => e = .returned (.bool true) ∧ Below w.heap.size w w' := by
  have hB0 := (Below.refl w.heap.size w).alloc (Nat.le_refl _) (.cells #[.int .i16 p, .int .i16 q] 25)
  have hS0 := Whole.fresh w 25 #[.int .i16 p, .int .i16 q]
  have HC := Lib.hid fun W h => copy_any a n c f W h (by omega)
  have HR1 := Lib.hid (fun W => read_any W hd hh)
  have HR2 := Lib.hid (fun W => rread_any W hd hh)
  have hRh := Lib.hid hR
  go_enter Try.func3, Try.ntmps3
  go_wp2_with fail
  have hR1 := hR.below hB0
  generalize w.alloc (.cells #[.int .i16 p, .int .i16 q] 25) = W1 at *
  refine (HC.out _ hR1).mono ?_
  rintro e W2 ⟨G, rfl, hG, hGl, hB2⟩
  have hS2 := hS0.below hB2 hS0.lt
  have hR2 := hR1.below hB2
  have hBB2 := hB0.trans (hB2.mono hB0.size)
  have x0 := hS2.cell 0
  have x1 := hS2.cell 1
  simp only [List.getElem?_toArray, List.getElem?_cons_zero, List.getElem?_cons_succ] at x0 x1
  clear hS0 hR1 hB2 HC hR
  have hGr := hG.row
  by_cases h9 : n = 9
  · subst h9
    have HD := Lib.hid (rdecode_any W2 a c f p q hR2 hp hq)
    have HE := Lib.hid (fun W h => cdecode_any W (some ⟨G, 0, none⟩) 9 f p q h hp hq)
    have hh2 := Lib.hid (And.intro hS2 (And.intro hR2 (And.intro hGr hBB2)))
    clear hS2 hR2 hG hGr hBB2
    go_wp2_with fail
    refine HD.out.mono ?_
    rintro e W3 ⟨s1, rfl, hO1, hB3⟩
    obtain ⟨hS2, hR2, hGr, hBB2⟩ := hh2.out
    have hS3 := hS2.below hB3 hS2.lt
    have y0 := hS3.cell 0
    have y1 := hS3.cell 1
    simp only [List.getElem?_toArray, List.getElem?_cons_zero, List.getElem?_cons_succ] at y0 y1
    have HE3 := Lib.hid (HE.out W3 (hGr.below hB3))
    have hh3 := Lib.hid (And.intro hS3 (And.intro (hR2.below hB3) (And.intro (hGr.below hB3) (And.intro (hBB2.trans (hB3.mono hBB2.size)) hO1))))
    clear hS3 hO1 hB3 x0 x1 HD HE hh2 hS2 hR2 hGr hBB2
    go_wp2_with fail
    refine HE3.out.mono ?_
    rintro e W4 ⟨s2, rfl, hO2, hB4⟩
    obtain ⟨hS3, hR3, hGr3, hBB3, hO1⟩ := hh3.out
    have hO1' := hO1.kept (w' := W4) (row := none) ⟨hB4.os, hB4.tape, hB4.output, hB4.size, fun k hk _ => hB4.block k hk⟩ (by cases Value.ownBlock s1 <;> simp)
    obtain ⟨a1, c1, rfl, hI1⟩ := own_irow (f := fun i => (stB f p q (i + 1)).1) hO1' (fun i hi => outL_at f p q 16 i hi)
    obtain ⟨a2, c2, rfl, hI2⟩ := own_irow (f := fun i => (stB f p q (i + 1)).1) hO2 (fun i hi => outL_at f p q 16 i hi)
    have HSh := Lib.hid (shorts_any W4 a2 a1 16 c2 c1 _ hI2 hI1 (by decide))
    have hh4 := Lib.hid (And.intro (hR3.below hB4) (And.intro (hGr3.below hB4) (hBB3.trans (hB4.mono hBB3.size))))
    clear hS3 hR3 hGr3 hBB3 hO1 hO1' hI1 hI2 hO2 hB4 y0 y1 HE3 hh3
    go_wp2_with fail
    refine HSh.out.mono ?_
    rintro e W5 ⟨rfl, q5, rfl⟩
    obtain ⟨hR4, hGr4, hBB4⟩ := hh4.out
    have HBy := Lib.hid (same_any (some ⟨G, 0, none⟩) a 9 9 c f (W4.drewN q5) hGr4 hR4 (by decide))
    have hBB5 := Lib.hid (below_drewN hBB4 q5)
    clear hR4 hGr4 hBB4 HSh hh4
    go_wp2_with fail
    refine HBy.out.mono ?_
    rintro e W6 ⟨rfl, q6, rfl⟩
    have hBB6 := Lib.hid (below_drewN hBB5.out q6)
    generalize (W4.drewN q5).drewN q6 = W6 at *
    clear HBy hBB5
    go_wp2_with fail
    refine (HR1.out _).mono ?_
    rintro e W7 ⟨rfl, hB7⟩
    have hBB7 := Lib.hid (hBB6.out.trans (hB7.mono hBB6.out.size))
    clear hB7 hBB6
    go_wp2_with fail
    refine (HR2.out _).mono ?_
    rintro e W8 ⟨rfl, hB8⟩
    have hBB8 := Lib.hid (hBB7.out.trans (hB8.mono hBB7.out.size))
    clear hB8 hBB7
    unfold headV
    go_wp2_with fail
    go_ret
    exact ⟨rfl, hBB8.out⟩
  · have HD := Lib.hid (fun W => rdecode_no W a n c p q h9)
    have HE := Lib.hid (fun W => cdecode_no W (some ⟨G, 0, none⟩) n n p q h9)
    have hh2 := Lib.hid (And.intro hR2 (And.intro hGr hBB2))
    clear hS2 hR2 hG hGr hBB2
    go_wp2_with fail
    refine (HD.out _).mono ?_
    rintro e W3 ⟨rfl, rfl⟩
    go_wp2_with fail
    refine (HE.out _).mono ?_
    rintro e W4 ⟨rfl, rfl⟩
    have HSh := Lib.hid (shorts_any W4 none none 0 0 0 (fun _ => 0) (.inl rfl) (.inl rfl) (by decide))
    go_wp2_with fail
    refine HSh.out.mono ?_
    rintro e W5 ⟨rfl, q5, rfl⟩
    obtain ⟨hR4, hGr4, hBB4⟩ := hh2.out
    have HBy := Lib.hid (same_any (some ⟨G, 0, none⟩) a n n c f (W4.drewN q5) hGr4 hR4 (by omega))
    have hBB5 := Lib.hid (below_drewN hBB4 q5)
    clear hR4 hGr4 hBB4 HSh hh2 x0 x1
    go_wp2_with fail
    refine HBy.out.mono ?_
    rintro e W6 ⟨rfl, q6, rfl⟩
    have hBB6 := Lib.hid (below_drewN hBB5.out q6)
    generalize (W4.drewN q5).drewN q6 = W6 at *
    clear HBy hBB5
    go_wp2_with fail
    refine (HR1.out _).mono ?_
    rintro e W7 ⟨rfl, hB7⟩
    have hBB7 := Lib.hid (hBB6.out.trans (hB7.mono hBB6.out.size))
    clear hB7 hBB6
    go_wp2_with fail
    refine (HR2.out _).mono ?_
    rintro e W8 ⟨rfl, hB8⟩
    have hBB8 := Lib.hid (hBB7.out.trans (hB8.mono hBB7.out.size))
    clear hB8 hBB7
    unfold headV
    go_wp2_with fail
    go_ret
    exact ⟨rfl, hBB8.out⟩
end Go.Proofs.Ytekjcgckniopdaa.brrDecodes
