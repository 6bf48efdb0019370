/-
  NotesWritten: bytes are written by the code as by the document.
-/
import Derived.Test.YtlogijjgachdjaaDoorLst
import Derived.Test.YtlogijjgachdjaaDoorCpy
namespace Go.Proofs.YtlogijjgachdjaaDoor
open Go.RowKit
set_option maxRecDepth 100000
set_option maxHeartbeats 4000000
set_option linter.unusedVariables false

/-- A slice of texts. -/
def Strs (w : World) (a : Option Addr) (l : List (List Nat)) : Prop :=
  l.length = 0 ∨ ∃ g, a = some ⟨g, 0, none⟩ ∧ g < w.heap.size ∧ ∀ i, i < l.length → w.cell? ⟨g, i, none⟩ = some (.string (bsOf (l.getD i [])))
theorem strs_of {w : World} {B : Nat} {v : Value} {l : List (List Nat)} (h : w.ownsRow B 9 1 v l.length (strV l)) : ∃ a cap, v = .slice a l.length cap ∧ l.length ≤ maxLen ∧ Strs w a l := by
  rcases h.2 with ⟨h1, h0⟩ | ⟨G, cap', cur, rfl, _, hh, hl, hm, _⟩
  · exact ⟨none, 0, by rw [h1, h0], by rw [h0]; exact Nat.zero_le _, .inl h0⟩
  · refine ⟨_, _, rfl, Nat.le_trans hl hm, .inr ⟨G, rfl, (Array.getElem?_eq_some_iff.1 hh).1, fun i hi => ?_⟩⟩
    rw [h.cellAt i (by omega)]
    simp [strV, hi]
theorem Strs.below {w w' : World} {a : Option Addr} {l : List (List Nat)} (h : Strs w a l) (hb : Below w.heap.size w w') : Strs w' a l := by
  rcases h with h | ⟨g, rfl, hg, hc⟩
  · exact .inl h
  · exact .inr ⟨g, rfl, Nat.lt_of_lt_of_le hg hb.size, fun i hi => (hb.cell (p := ⟨g, i, none⟩) hg).trans (hc i hi)⟩
theorem textV_form (ok : Bool) (t : List Nat) (s : Nat) : ∃ (S : ByteArray) (z e : Nat), textV ok t s = .tuple #[.string S, .int .i64 z, .int .i64 e] := by
  unfold textV
  cases ok
  · exact ⟨⟨#[]⟩, 0, 5, rfl⟩
  · exact ⟨bsOf t, s, 0, rfl⟩
attribute [local irreducible] nmF fmF szF cyF txL nmL wdF plF nuF opL pcL byL hxL lstG restL lnI lnQ okN textV
theorem written_walk (a : Option Addr) (n cap at_ : Nat) (f : Nat → Nat) (w : World) (hR : Row w a n f) (hcap : n ≤ cap) (hat : at_ < 65536) (hn : n ≤ 1048576) :
    Calls Tryd.prog 5 #[.slice a n cap, .int .u16 at_] w fun e w' => e = .returned (.bool true) ∧ Below w.heap.size w w' := by
  obtain ⟨S, z, x, hS⟩ := textV_form (okN n f) (txL (f 0) at_ f) (szF (f 0))
  have H1 := rtext_any a n cap at_ f w hR hcap hat
  have H2 := fun W (hB : Below w.heap.size w W) => copied_any a n cap f W (hR.below hB) (by omega)
  have H3 := fun G W (h : Row W (some ⟨G, 0, none⟩) n f) => text_any (some ⟨G, 0, none⟩) n n at_ f W h (Nat.le_refl _) hat
  have H4 := fun G W (h : Row W (some ⟨G, 0, none⟩) n f) => list_any (some ⟨G, 0, none⟩) n n at_ f W h (Nat.le_refl _) hat hn
  have H5 := fun W (hB : Below w.heap.size w W) => rlist_any a n cap at_ f W (hR.below hB) hcap hat hn
  have H6 := fun G W (h : Row W (some ⟨G, 0, none⟩) n f) (hB : Below w.heap.size w W) => kit_same (some ⟨G, 0, none⟩) a n n cap f W h (hR.below hB) (by omega)
  simp only [hS] at H1 H3
  clear hS
  generalize lstG n at_ f n 0 = L at *
  replace H2 := Lib.hid H2
  replace H3 := Lib.hid H3
  replace H4 := Lib.hid H4
  replace H5 := Lib.hid H5
  replace H6 := Lib.hid H6
  replace H1 := Lib.hid H1
  clear hR
  go_enter Tryd.func5, Tryd.ntmps5
  go_wp2_with fail
  refine H1.out.mono ?_
  rintro e W1 ⟨rfl, hb1⟩
  go_wp2_with fail
  refine (H2.out _ hb1).mono ?_
  rintro e W2 ⟨G, rfl, hG, hGl, hb2⟩
  have hB2 := hb1.trans (hb2.mono hb1.size)
  have hG2 : Row W2 (some ⟨G, 0, none⟩) n f := hG.row
  go_wp2_with fail
  refine (H3.out G _ hG2).mono ?_
  rintro e W3 ⟨rfl, hb3⟩
  have hB3 := hB2.trans (hb3.mono hB2.size)
  have hG3 := hG2.below hb3
  go_wp2_with fail
  refine (H4.out G _ hG3).mono ?_
  rintro e W4 ⟨v1, B1, rfl, _, ho1, hb4⟩
  obtain ⟨a1, c1, rfl, hml, hs1⟩ := strs_of ho1
  have hB4 := hB3.trans (hb4.mono hB3.size)
  unfold maxLen at hml
  have hG4 := hG3.below hb4
  clear ho1
  go_wp2_with fail
  refine (H5.out _ hB4).mono ?_
  rintro e W5 ⟨v2, rfl, ho2, hb5⟩
  obtain ⟨a2, c2, rfl, _, hs2⟩ := strs_of ho2
  have hB5 := hB4.trans (hb5.mono hB4.size)
  have hG5 := hG4.below hb5
  have hs3 := hs1.below hb5
  have H6' := Lib.hid (H6.out G W5 hG5 hB5)
  clear ho2 hG hG2 hG3 hG4 hs1 hb1 hb2 hb3 hb4 hb5 hB2 hB3 hB4
  go_wp2_with fail
  refine H6'.out.mono ?_
  rintro e W6 ⟨rfl, hb6⟩
  have hB6 := hB5.trans (hb6.mono hB5.size)
  have hs4 := Lib.hid (hs3.below hb6)
  have hs5 := Lib.hid (hs2.below hb6)
  clear hs2 hs3 hb6 hB5 H6' hG5
  go_wp2_with fail
  go_loopw [14] (fun s14 wr => ∃ i : Nat, i ≤ L.length ∧ s14 = .int .i64 i ∧ Hid (∃ q, wr = W6.drewN q)) (fun s14 _ => L.length - (intOf s14).toNat)
  case atStart => exact ⟨0, Nat.zero_le _, rfl, Lib.hid ⟨0, rfl⟩⟩
  case round =>
    obtain ⟨i, hi, rfl, hq⟩ := hrel
    by_cases hlt : i < L.length
    · rcases hs4.out with h0 | ⟨g1, rfl, hg1, hc1⟩
      · omega
      rcases hs5.out with h0 | ⟨g2, rfl, hg2, hc2⟩
      · omega
      have d1 : wr.cell? ⟨g1, i, none⟩ = some (.string (bsOf (L.getD i []))) := by
        obtain ⟨q, e⟩ := hq.out
        rw [e]
        exact hc1 i hlt
      have d2 : wr.cell? ⟨g2, i, none⟩ = some (.string (bsOf (L.getD i []))) := by
        obtain ⟨q, e⟩ := hq.out
        rw [e]
        exact hc2 i hlt
      clear hc1 hc2
      generalize bsOf (L.getD i []) = z at d1 d2
      go_wp2_with fail
      go_quiet (fail)
      go_wp2_with fail
      go_roundw
      case rel => exact ⟨i + 1, by omega, by go_num, Lib.hid (by obtain ⟨q, e⟩ := hq.out; exact ⟨q + nq, by rw [e]; simp [World.drewN, Nat.add_assoc]⟩)⟩
      case measure => simp [intOf]; omega
    · obtain rfl : i = L.length := by omega
      go_wp2_with fail
      go_ret
      exact ⟨rfl, below_drawn hB6 hq.out⟩
end Go.Proofs.YtlogijjgachdjaaDoor
