/-
  A state is taken, by the code.
-/
import Derived.Test.YtbdhdedlemndeaaDoorKTak
namespace Go.Proofs.YtbdhdedlemndeaaDoor
open Go.RowKit Go.Shelf
set_option maxRecDepth 100000
set_option maxHeartbeats 1000000
set_option linter.unusedVariables false
set_option linter.unusedSimpArgs false

/-- The first q bytes have been taken. -/
def gF (F : Nat → Nat) (q : Nat) : Nat → Nat := fun i => if i < q then F i else 0
/-- What went wrong ahead of the j-th byte; at the end. -/
def whyJ (m j : Nat) : Nat := if j ≤ m then 0 else 56
def takeE (m : Nat) : Nat := if m < 23 then 56 else if 23 = m then 0 else 59
theorem whyJ_next {m j : Nat} : (j ≤ m → gotE m j = whyJ m (j + 1)) ∧ (¬ j ≤ m → whyJ m j = whyJ m (j + 1)) := by
  unfold gotE whyJ
  constructor
  · intro h
    by_cases e : j < m
    · rw [if_pos e, if_pos (by omega)]
    · rw [if_neg e, if_neg (by omega)]
  · intro h
    rw [if_neg h, if_neg (by omega)]
theorem gotS_next {m j : Nat} (F : Nat → Nat) (h : j ≤ m) : gotS m F j = rsK m F (min (j + 1) m) := by
  unfold gotS
  by_cases e : j < m
  · rw [if_pos e, Nat.min_eq_left (by omega)]
  · rw [if_neg e, Nat.min_eq_right (by omega)]
    congr 1
    omega
theorem gF_next {m j : Nat} (F : Nat → Nat) (h : j ≤ m) (i : Nat) : upd (gF F (min j m)) j (gotB m F j) i = gF F (min (j + 1) m) i := by
  unfold upd gF gotB
  by_cases e : i = j
  · subst e
    rw [if_pos rfl]
    by_cases e2 : i < m
    · rw [if_pos e2, if_pos (by omega)]
    · rw [if_neg e2, if_neg (by omega)]
  · rw [if_neg e]
    by_cases e2 : i < min j m
    · rw [if_pos e2, if_pos (by omega)]
    · rw [if_neg e2, if_neg (by omega)]
/-- Where take stands ahead of the j-th byte. -/
structure Tkn (w : World) (R T m rb yb : Nat) (v lv : Value) (F : Nat → Nat) (j : Nat) (V : World) : Prop where
  rd : Rd V R v (rsK m F (min j m))
  tq : Tq V T (gF F (min j m))
  rbw : Whole V rb 51 #[.pointer (some ⟨R, 0, none⟩)]
  ybw : Whole V yb 40 #[.int .i64 (whyJ m j : Nat)]
  ls : Pls V T lv
  fr : Fr (fun x => x = R ∨ x = T) w V
  lb : w.heap.size ≤ rb ∧ w.heap.size ≤ yb
theorem Fr.pls {S : Nat → Prop} {w w' : World} {b : Nat} {lv : Value} (h : Fr S w w') (hp : Pls w b lv) (hS : ∀ g cur, Whole w g 101 cur → ¬ S g) : Pls w' b lv := by
  obtain ⟨g, cap, cur, e, hw, hc⟩ := hp
  exact ⟨g, cap, cur, e, h.whole hw (hS g cur hw), hc⟩
theorem Tkn.grow {w V V' : World} {R T m rb yb j : Nat} {v lv : Value} {F : Nat → Nat} (h : Tkn w R T m rb yb v lv F j V) (hB : Below V.heap.size V V') : Tkn w R T m rb yb v lv F j V' :=
  ⟨h.rd.below hB, h.tq.below hB h.tq.lt, h.rbw.below hB h.rbw.lt, h.ybw.below hB h.ybw.lt, Fr.pls (Fr.of (S := fun _ => False) hB) h.ls (fun _ _ _ e => e), h.fr.trans (Fr.of hB), h.lb⟩
theorem ktake_any {R T m : Nat} {v : Value} {F : Nat → Nat} (w : World) (h : Rd w R v (rsN m F)) (hm : 5 + m ≤ 16777216) (hFb : ∀ i, i < m → F i < 256) (hT : Tq w T (fun _ => 0)) :
    Calls Tryd.prog 44 #[.pointer (some ⟨T, 0, none⟩), .pointer (some ⟨R, 0, none⟩)] w fun e w' => e = .returned (.int .i64 (takeE m : Nat)) ∧ Tq w' T (gF F (min 23 m)) ∧ (23 = m → Rd w' R v (rsK m F m).closed) ∧ Fr (fun x => x = R ∨ x = T) w w' := by
  have HP := Lib.hid fun V => kplaces_any T V
  have hB0 := (Below.refl w.heap.size w).alloc (Nat.le_refl _) (.cells #[.pointer (some ⟨R, 0, none⟩)] 51)
  have hB1 := hB0.alloc hB0.size (.cells #[.int .i64 0] 40)
  have hrb := (Whole.fresh w 51 #[.pointer (some ⟨R, 0, none⟩)]).alloc (.cells #[.int .i64 0] 40)
  have hyb := Whole.fresh (w.alloc (.cells #[.pointer (some ⟨R, 0, none⟩)] 51)) 40 #[.int .i64 0]
  rw [show (w.alloc (.cells #[.pointer (some ⟨R, 0, none⟩)] 51)).heap.size = w.heap.size + 1 from Array.size_push _] at hyb
  have hR1 := h.below hB1
  have hT1 := hT.below hB1 hT.lt
  have HT2 := then2_any (yb := w.heap.size + 1) (rb := w.heap.size) _ hR1 hm hrb hyb
  have hgl := Lib.hid (show w.heap.size ≤ w.heap.size ∧ w.heap.size ≤ w.heap.size + 1 from ⟨Nat.le_refl _, Nat.le_succ _⟩)
  have hRl := Lib.hid h.head.lt
  have hTl := Lib.hid hT.lt
  obtain ⟨W, hW⟩ : ∃ W, (w.alloc (.cells #[.pointer (some ⟨R, 0, none⟩)] 51)).alloc (.cells #[.int .i64 0] 40) = W := ⟨_, rfl⟩
  rw [hW] at hB1 hrb hyb hR1 hT1 HT2
  replace HT2 := Lib.hid HT2
  replace hB1 := Lib.hid hB1
  replace hrb := Lib.hid hrb
  replace hyb := Lib.hid hyb
  replace hR1 := Lib.hid hR1
  replace hT1 := Lib.hid hT1
  replace hFb := Lib.hid hFb
  replace hm := Lib.hid hm
  replace hW := Lib.hid hW
  clear hB0 h hT
  go_enter Tryd.func44, Tryd.ntmps44
  go_upto_region 3 with (fail)
  rw [hW.out]
  clear hW
  generalize hrbe : w.heap.size = rb at *
  go_wp2_with fail
  refine HT2.out.mono ?_
  rintro e W2 ⟨rfl, hy2, hR2, hF2⟩
  have hne1 : rb ≠ rb + 1 := Nat.ne_of_lt (Nat.lt_succ_self _)
  have hrbR := hR1.out.whole hrb.out (by decide) (by decide)
  have hyT : T ≠ rb + 1 ∧ T ≠ R := by
    obtain ⟨tc, htc, -⟩ := hT1.out
    exact ⟨kwhole_apart htc hyb.out (by decide), (hR1.out.whole htc (by decide) (by decide)).1⟩
  have hrb2 := hF2.whole hrb.out (by rintro (e | e); exact hne1 e; exact hrbR.1 e)
  have hT2 := hF2.tq hT1.out (by rintro (e | e); exact hyT.1 e; exact hyT.2 e)
  have hfr2 : Fr (fun x => x = R ∨ x = T) w W2 := (Fr.of (hrbe ▸ hB1.out)).trans2 hF2 (by
    rintro x hx (e | e)
    · exfalso; rw [hrbe] at hx; omega
    · exact .inl e)
  have hsz := Lib.hid hfr2.size
  replace hy2 := Lib.hid hy2
  replace hR2 := Lib.hid hR2
  replace hrb2 := Lib.hid hrb2
  replace hT2 := Lib.hid hT2
  replace hfr2 := Lib.hid hfr2
  clear HT2 hF2 hB1 hrb hyb hR1 hT1 hrbR hne1
  go_wp2_with fail
  refine (HP.out _).mono ?_
  rintro e W3 ⟨lv, rfl, hPl⟩
  obtain ⟨g, cap, cur, rfl, hw, hc⟩ := hPl.pls
  have hK : Tkn w R T m rb (rb + 1) v (.slice (some ⟨g, 0, none⟩) 23 cap) F 0 W3 :=
    ⟨by rw [Nat.zero_min]; exact hR2.out.below hPl.bel, (hT2.out.below hPl.bel hT2.out.lt).congr (fun i _ => by unfold gF; rw [Nat.zero_min, if_neg (Nat.not_lt_zero _)]), hrb2.out.below hPl.bel hrb2.out.lt, (hy2.out.below hPl.bel hy2.out.lt), ⟨g, cap, cur, rfl, hw, hc⟩, hfr2.out.trans (Fr.of hPl.bel), ⟨Nat.le_of_eq hrbe, Nat.le_succ_of_le (Nat.le_of_eq hrbe)⟩⟩
  replace hK := Lib.hid hK
  replace hyT := Lib.hid hyT
  clear hPl hw hc hy2 hR2 hrb2 hT2 hfr2 HP hgl
  replace hrbe := Lib.hid hrbe
  go_upto_region 5 with (fail)
  go_loopw [16] (fun i wr => ∃ j : Nat, j ≤ 23 ∧ i = .int .i64 j ∧ Hid (Tkn w R T m rb (rb + 1) v (.slice (some ⟨g, 0, none⟩) 23 cap) F j wr)) (fun i _ => 23 - (intOf i).toNat)
  case atStart => exact ⟨0, Nat.zero_le _, rfl, hK⟩
  case round =>
    obtain ⟨j, hj, rfl, hH⟩ := hrel
    obtain ⟨wo, rfl⟩ : ∃ wo, wo = wr := ⟨_, rfl⟩
    clear hK
    by_cases hlt : j < 23
    · obtain ⟨g', cap', cur', e1, hw, hc⟩ := hH.out.ls
      injection e1 with e1 e2 e3
      injection e1 with e1
      injection e1 with e1
      subst e1
      have c0 := (hw.cell j).trans (hc j hlt)
      have hBn := (Below.refl wo.heap.size wo).alloc (Nat.le_refl _) (.cells #[.pointer (some ⟨T, j, none⟩)] 101)
      have hab := Whole.fresh wo 101 #[.pointer (some ⟨T, j, none⟩)]
      have hH2 := hH.out.grow hBn
      have hsz2 := hH2.fr.size
      replace hBn := Lib.hid hBn
      by_cases hjm : j ≤ m
      · have hmin : min j m = j := Nat.min_eq_left hjm
        have hrd := hH2.rd
        have htq := hH2.tq
        have hyb := hH2.ybw
        rw [hmin] at hrd htq
        rw [show whyJ m j = 0 from if_pos hjm] at hyb
        have HC := then3_any _ hrd hm.out hjm htq hlt (by unfold gotB; split; exact hFb.out _ (by assumption); decide) hH2.rbw hab hyb
        rw [whyJ_next.1 hjm, gotS_next F hjm] at HC
        have hcon : ∀ V, Tq V T (upd (gF F j) j (gotB m F j)) → Tq V T (gF F (min (j + 1) m)) := fun V hV => hV.congr (fun i _ => by
          have := gF_next F hjm i
          rw [hmin] at this
          exact this)
        replace HC := Lib.hid HC
        replace hcon := Lib.hid hcon
        have hlb := Lib.hid hH2.lb
        have hrb := Lib.hid hH2.rbw
        have hls := Lib.hid hH2.ls
        have hfr := Lib.hid hH2.fr
        have hab' := Lib.hid hab
        have hrdl := Lib.hid hrd
        have htql := Lib.hid htq
        have hybl := Lib.hid hyb
        clear hw hc e2 e3 hH hH2 hab hrd htq hyb hmin hjm hsz2 hBn
        go_upto_region 7 with (fail)
        generalize wo.alloc (.cells #[.pointer (some ⟨T, j, none⟩)] 101) = W4 at *
        generalize wo.heap.size = ab at *
        clear c0
        go_wp2_with fail
        refine HC.out.mono ?_
        rintro e W5 ⟨rfl, hy5, hR5, hT5, hF5⟩
        have hrbn := (hrdl.out.whole hrb.out (by decide) (by decide)).1
        have hrbT : rb ≠ T := by
          obtain ⟨tc, htc, -⟩ := htql.out
          exact kwhole_apart hrb.out htc (by decide)
        have hnx : Tkn w R T m rb (rb + 1) v (.slice (some ⟨g, 0, none⟩) 23 cap) F (j + 1) W5 :=
          ⟨hR5, hcon.out _ hT5, hF5.whole hrb.out (by rintro (e | e | e); exact absurd e (Nat.ne_of_lt (Nat.lt_succ_self _)); exact hrbn e; exact hrbT e), hy5, hF5.pls hls.out (fun x cs hx => by
            rintro (e | e | e)
            · exact kwhole_apart hx hybl.out (by decide) e
            · exact (hrdl.out.whole hx (by decide) (by decide)).1 e
            · obtain ⟨tc, htc, -⟩ := htql.out
              exact kwhole_apart hx htc (by decide) e), hfr.out.trans2 hF5 (by
            rintro x hx (e | e)
            · exfalso; have := hlb.out; omega
            · exact e), hlb.out⟩
        replace hnx := Lib.hid hnx
        clear HC hy5 hR5 hT5 hF5
        go_wp2_with fail
        refine ⟨⟨j + 1, by omega, by congr 1, hnx⟩, ?_⟩
        simp only [intOf]
        omega
      · have HC := then_no (E := whyJ m j) (.func (.func 63) #[] #[.pointer (some ⟨rb, 0, none⟩), .pointer (some ⟨wo.heap.size, 0, none⟩)]) _ hH2.ybw (by unfold whyJ; rw [if_neg hjm]; decide)
        have hnx : Tkn w R T m rb (rb + 1) v (.slice (some ⟨g, 0, none⟩) 23 cap) F (j + 1) (wo.alloc (.cells #[.pointer (some ⟨T, j, none⟩)] 101)) := by
          have e1 : min (j + 1) m = min j m := by omega
          refine ⟨by rw [e1]; exact hH2.rd, by rw [e1]; exact hH2.tq, hH2.rbw, ?_, hH2.ls, hH2.fr, hH2.lb⟩
          rw [← whyJ_next.2 hjm]
          exact hH2.ybw
        replace HC := Lib.hid HC
        replace hnx := Lib.hid hnx
        clear hw hc e2 e3 hH hH2 hab hjm hsz2 hBn
        go_upto_region 7 with (fail)
        generalize wo.alloc (.cells #[.pointer (some ⟨T, j, none⟩)] 101) = W4 at *
        generalize wo.heap.size = ab at *
        clear c0
        go_wp2_with fail
        refine HC.out.mono ?_
        rintro e W5 ⟨rfl, hw5⟩
        subst hw5
        go_wp2_with fail
        refine ⟨⟨j + 1, by omega, by congr 1, hnx⟩, ?_⟩
        simp only [intOf]
        omega
    · obtain rfl : j = 23 := by omega
      have c3 := hH.out.rbw.cell 0
      simp only [List.getElem?_toArray, List.getElem?_cons_zero] at c3
      clear hlt hj
      by_cases h23 : 23 ≤ m
      · have hmin : min 23 m = 23 := Nat.min_eq_left h23
        have hrd := hH.out.rd
        have hyb := hH.out.ybw
        rw [hmin] at hrd
        rw [show whyJ m 23 = 0 from if_pos h23] at hyb
        have HC := then4_any _ hrd hm.out h23 hyb
        have hE : takeE m = if 23 = m then 0 else 59 := by unfold takeE; rw [if_neg (by omega)]
        rw [← hE] at HC
        replace HC := Lib.hid HC
        replace hE := Lib.hid hE
        have hrdl := Lib.hid hrd
        have hybl := Lib.hid hyb
        clear h23 hrd hyb hmin
        go_wp2_with fail
        refine HC.out.mono ?_
        rintro e W5 ⟨rfl, hy5, hR5, hF5⟩
        have c5 := hy5.cell 0
        simp only [List.getElem?_toArray, List.getElem?_cons_zero] at c5
        have hT5 := hF5.tq hH.out.tq (by rintro (e | e); exact hyT.out.1 e; exact hyT.out.2 e)
        have hf5 := hH.out.fr.trans2 hF5 (by
          rintro x hx (e | e)
          · exfalso; have := hH.out.lb; omega
          · exact .inl e)
        replace hR5 := Lib.hid hR5
        replace hT5 := Lib.hid hT5
        replace hf5 := Lib.hid hf5
        clear HC hy5 hF5 c3
        generalize hEe : takeE m = E at *
        replace hEe := Lib.hid hEe
        go_wp2_with fail
        go_ret
        exact ⟨by rw [hEe.out]; rfl, hT5.out, hR5.out, hf5.out⟩
      · have hE : whyJ m 23 = takeE m := by unfold whyJ takeE; rw [if_neg h23, if_pos (by omega)]
        have HC := then_no (E := whyJ m 23) (.func (.func 65) #[.pointer (some ⟨R, 0, none⟩)] #[]) _ hH.out.ybw (by unfold whyJ; rw [if_neg h23]; decide)
        have c5 := hH.out.ybw.cell 0
        simp only [List.getElem?_toArray, List.getElem?_cons_zero] at c5
        rw [hE] at c5
        replace HC := Lib.hid HC
        replace hE := Lib.hid hE
        replace h23 := Lib.hid h23
        generalize hEe : takeE m = E at *
        replace hEe := Lib.hid hEe
        go_wp2_with fail
        refine HC.out.mono ?_
        rintro e W5 ⟨rfl, hw5⟩
        subst hw5
        go_wp2_with fail
        go_ret
        exact ⟨by rw [hEe.out]; rfl, hH.out.tq, fun e => absurd (show 23 ≤ m by omega) h23.out, hH.out.fr⟩
end Go.Proofs.YtbdhdedlemndeaaDoor
