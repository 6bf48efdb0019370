/-
  A state is saved, by the code.
-/
import Derived.Test.YtbdhdedlemndeaaDoorKSavP
import Derived.Test.YtbdhdedlemndeaaDoorKPl2
namespace Go.Proofs.YtbdhdedlemndeaaDoor
open Go.RowKit Go.Shelf
set_option maxRecDepth 100000
set_option maxHeartbeats 1000000
set_option linter.unusedVariables false
set_option linter.unusedSimpArgs false

theorem kwhole_apart {w : World} {b g : Nat} {t u : TypeId} {xs ys : Array Value} (h : Whole w b t xs) (k : Whole w g u ys) (hne : t ≠ u) : b ≠ g := by
  intro e
  subst e
  have := Option.some.inj (h.symm.trans k)
  injection this with _ h2
  exact hne h2
theorem owns_apart {w : World} {v : Value} {n x : Nat} {f : Nat → Nat} {t : TypeId} {cs : Array Value} (h : Owns w v n f) (hx : Whole w x t cs) (ht : 5 ≠ t) : v.ownBlock ≠ some x := by
  intro e
  rcases h.2 with ⟨rfl, _⟩ | ⟨g, cap, cs', rfl, hg, _⟩
  · cases e
  · have : g = x := by simpa [Value.ownBlock] using e
    subst this
    exact kwhole_apart hg hx ht rfl
theorem Wr.keeps {w w' : World} {b x : Nat} {v : Value} {s : St} {t : TypeId} {cs : Array Value} (h : Wr w b v s) (o : Only2 b v.ownBlock w w') (hx : Whole w x t cs) (h1 : 92 ≠ t) (h2 : 5 ≠ t) : Whole w' x t cs := by
  obtain ⟨ds, hd, _⟩ := h.head.all
  exact (o.block x hx.lt (fun e => kwhole_apart hd hx h1 e.symm) (fun e => owns_apart h.body hx h2 e.symm)).trans hx
theorem Wr.keeps_tq {w w' : World} {b x : Nat} {v : Value} {s : St} {f : Nat → Nat} (h : Wr w b v s) (o : Only2 b v.ownBlock w w') (hx : Tq w x f) : Tq w' x f := by
  obtain ⟨cs, h1, h2⟩ := hx
  exact ⟨cs, h.keeps o h1 (by decide) (by decide), h2⟩
/-- The list of places, in memory. -/
def Pls (V : World) (b : Nat) (lv : Value) : Prop := ∃ g cap cur, lv = .slice (some ⟨g, 0, none⟩) 23 cap ∧ Whole V g 101 cur ∧ ∀ k, k < 23 → cur[k]? = some (.pointer (some ⟨b, k, none⟩))
theorem PlR.pls {b : Nat} {w V : World} {lv : Value} (h : PlR b w lv 23 V) : Pls V b lv := by
  obtain ⟨hl, ⟨_, h0⟩ | ⟨g, cap, cur, rfl, hg, hw, hc, _, hs, ht⟩⟩ := h.own
  · omega
  · refine ⟨g, cap, cur, rfl, hw, fun k hk => ?_⟩
    have : cur.toList[k]? = (ptrs b 23)[k]? := by
      rw [← ht, List.getElem?_take, if_pos (by omega)]
    rw [Array.getElem?_toList] at this
    rw [this]
    simp [ptrs, hk]
theorem Pls.keeps {w w' : World} {b x : Nat} {v lv : Value} {s : St} (h : Wr w b v s) (o : Only2 b v.ownBlock w w') (hx : Pls w x lv) : Pls w' x lv := by
  obtain ⟨g, cap, cur, e, h1, h2⟩ := hx
  exact ⟨g, cap, cur, e, h.keeps o h1 (by decide) (by decide), h2⟩
theorem put_any {b c : Nat} {B : Nat} {w W : World} {v : Value} {f : Nat → Nat} (hL : Live B w W c v St.new) (hT : Tq W b f) :
    Calls Tryd.prog 52 #[.pointer (some ⟨b, 0, none⟩), .pointer (some ⟨c, 0, none⟩)] W fun e W' => e = .returned (.tuple #[]) ∧ ∃ v', Live B w W' c v' (stE f) := by
  have HP := Lib.hid fun V => kplaces_any b V
  have HB := Lib.hid fun V u s (k : Nat) (h : Live B w V c u s) (hk : k < 23) (hv : f k < 256) => mbyte (x := f k) V h.wr hv
  have HC := Lib.hid fun V u s (h : Live B w V c u s) => mclose V h.wr
  have HO := Lib.hid (mopen (x := 13) W hL.wr (by decide))
  have hb := Lib.hid fun k (hk : k < 23) => hT.byte k hk
  have hL0 := Lib.hid hL
  have hT0 := Lib.hid hT
  clear hL hT
  go_enter Tryd.func52, Tryd.ntmps52
  go_wp2_with fail
  refine HO.out.mono ?_
  rintro e W1 ⟨rfl, v1, q1, q2, q3⟩
  have hT1 := Lib.hid (hL0.out.wr.keeps_tq q2 hT0.out)
  have hL1 : Live B w W1 c v1 (stW f 0) := hL0.out.step q1 q2 q3
  replace hL1 := Lib.hid hL1
  clear HO hL0 hT0 q1 q2 q3
  go_wp2_with fail
  refine (HP.out _).mono ?_
  rintro e W2 ⟨lv, rfl, hR⟩
  have hL2 := Lib.hid (hL1.out.below (hR.bel))
  have hT2 := Lib.hid (hT1.out.below hR.bel hT1.out.lt)
  have hPl := hR.pls
  obtain ⟨g, cap, cur, rfl, hw, hc⟩ := hPl
  have hPl : Pls W2 b (.slice (some ⟨g, 0, none⟩) 23 cap) := ⟨g, cap, cur, rfl, hw, hc⟩
  replace hPl := Lib.hid hPl
  clear hR hL1 hT1 hw hc HP
  go_upto_region 2 with (fail)
  go_loopw [11] (fun i wr => ∃ k : Nat, k ≤ 23 ∧ i = .int .i64 k ∧ Hid (∃ u, Live B w wr c u (stW f k) ∧ Tq wr b f ∧ Pls wr b (.slice (some ⟨g, 0, none⟩) 23 cap))) (fun i _ => 23 - (intOf i).toNat)
  case atStart => exact ⟨0, Nat.zero_le _, rfl, Lib.hid ⟨v1, hL2.out, hT2.out, hPl.out⟩⟩
  case round =>
    obtain ⟨k, hk, rfl, hH⟩ := hrel
    obtain ⟨wo, rfl⟩ : ∃ wo, wo = wr := ⟨_, rfl⟩
    obtain ⟨u, hLu, hTu, hPu⟩ := hH.out
    clear hL2 hT2 hPl hH
    by_cases hlt : k < 23
    · obtain ⟨g', cap', cur', e1, hw, hc⟩ := hPu
      have hPu : Pls wo b (.slice (some ⟨g, 0, none⟩) 23 cap) := ⟨g', cap', cur', e1, hw, hc⟩
      injection e1 with e1 e2 e3
      injection e1 with e1
      injection e1 with e1
      subst e1
      have c0 := (hw.cell k).trans (hc k hlt)
      have c1 := hTu.cell k hlt
      have HB1 := Lib.hid (HB.out _ _ _ k hLu hlt (hb.out k hlt))
      replace hPu := Lib.hid hPu
      replace hTu := Lib.hid hTu
      replace hLu := Lib.hid hLu
      clear hw hc e2 e3
      have hfk := Lib.hid (hb.out k hlt)
      have hst : stW f (k + 1) = (stW f k).when ((stW f k).putW 1 (byteAt (f k))) := rfl
      replace hst := Lib.hid hst
      generalize f k = A at *
      go_wp2_with fail
      refine HB1.out.mono ?_
      rintro e W3 ⟨rfl, v3, q1, q2, q3⟩
      have hT3 := Lib.hid (hLu.out.wr.keeps_tq q2 hTu.out)
      have hP3 := Lib.hid (Pls.keeps hLu.out.wr q2 hPu.out)
      have hL3 : Live B w W3 c v3 (stW f (k + 1)) := by rw [hst.out]; exact hLu.out.step q1 q2 q3
      replace hL3 := Lib.hid hL3
      clear q1 q2 q3 HB1 hLu hTu hPu c0 c1
      go_wp2_with fail
      refine ⟨⟨k + 1, by omega, by congr 1, Lib.hid ⟨v3, hL3.out, hT3.out, hP3.out⟩⟩, ?_⟩
      simp only [intOf]
      omega
    · obtain rfl : k = 23 := by omega
      have HC1 := Lib.hid (HC.out _ _ _ hLu)
      replace hLu := Lib.hid hLu
      clear hk hlt hTu hPu
      go_wp2_with fail
      refine HC1.out.mono ?_
      rintro e W3 ⟨rfl, v3, q1, q2, q3⟩
      have hL3 : Live B w W3 c v3 (stE f) := hLu.out.step q1 q2 q3
      replace hL3 := Lib.hid hL3
      clear q1 q2 q3 HC1 hLu
      go_wp2_with fail
      go_end0
      exact ⟨rfl, v3, hL3.out⟩
theorem saved_any {b : Nat} {f : Nat → Nat} (w : World) (hT : Tq w b f) :
    Calls Tryd.prog 20 #[.pointer (some ⟨b, 0, none⟩)] w fun e w' => ∃ G, e = .returned (.slice (some ⟨G, 0, none⟩) 41 41) ∧ Holds w' G 41 (headF 28 (partF 13 23 f)) ∧ w.heap.size ≤ G ∧ Below w.heap.size w w' := by
  have HN := Lib.hid (newWriter w.heap.size w w (Below.refl _ _) (Nat.le_refl _))
  obtain ⟨d1, d2, d3⟩ := stE_is (fun i hi => hT.byte i hi)
  have HP := Lib.hid fun W c v (hL : Live w.heap.size w W c v St.new) => put_any hL (hT.below hL.bel hT.lt)
  replace d1 := Lib.hid d1
  replace d2 := Lib.hid d2
  replace d3 := Lib.hid d3
  clear hT
  have HS : ∀ W c v (hL : Live w.heap.size w W c v St.new), Calls Tryd.prog 36 #[.pointer (some ⟨b, 0, none⟩), .pointer (some ⟨c, 0, none⟩)] W fun e W' => e = .returned (.tuple #[]) ∧ ∃ v', Live w.heap.size w W' c v' (stE f) := fun W c v hL => by
    have HP1 := Lib.hid (HP.out W c v hL)
    clear HP HN hL
    go_enter Tryd.func36, Tryd.ntmps36
    go_wp2_with fail
    refine HP1.out.mono ?_
    rintro e W3 ⟨rfl, v3, hL3⟩
    replace hL3 := Lib.hid hL3
    go_wp2_with fail
    go_end0
    exact ⟨rfl, v3, hL3.out⟩
  replace HS := Lib.hid HS
  clear HP
  go_enter Tryd.func20, Tryd.ntmps20
  go_wp2_with fail
  refine HN.out.mono ?_
  rintro e W5 ⟨c, rfl, hL⟩
  have HS1 := Lib.hid (HS.out _ _ _ hL)
  clear HN HS hL
  go_wp2_with fail
  refine HS1.out.mono ?_
  rintro e W6 ⟨rfl, v6, hL6⟩
  have HD := wdone_ok W6 hL6.wr d1.out
  rw [d2.out] at HD
  have hb6 := hL6.bel
  replace HD := Lib.hid HD
  clear HS1 hL6
  go_wp2_with fail
  refine HD.out.mono ?_
  rintro e W7 ⟨G, rfl, hG, hGl, hb7⟩
  have hb := Lib.hid (hb6.trans (hb7.mono hb6.size))
  have hG1 := Lib.hid (hG.congr (headF_congr d3.out))
  have hG2 := Lib.hid (show w.heap.size ≤ G from Nat.le_trans hb6.size hGl)
  clear HD hG hGl hb7 hb6
  go_wp2_with fail
  go_ret
  exact ⟨_, rfl, hG1.out, hG2.out, hb.out⟩
end Go.Proofs.YtbdhdedlemndeaaDoor
