/-
  A byte is taken into its place: the closures of take, by the code.
-/
import Derived.Test.YtbdhdedlemndeaaDoorKFr
import Derived.Deep.RegionHeld3
import Derived.Laws.EntriesVeiled
namespace Go.Proofs.YtbdhdedlemndeaaDoor
open Go.RowKit Go.Shelf
set_option maxRecDepth 100000
set_option maxHeartbeats 1000000
set_option linter.unusedVariables false
set_option linter.unusedSimpArgs false

/-- What Byte gives behind k bytes; what went wrong; where the reader stands then. -/
def gotB (m : Nat) (F : Nat → Nat) (k : Nat) : Nat := if k < m then F k else 0
def gotE (m k : Nat) : Nat := if k < m then 0 else 56
def gotS (m : Nat) (F : Nat → Nat) (k : Nat) : RS := if k < m then rsK m F (k + 1) else rsK m F k
theorem kbyte_any {R m k : Nat} {v : Value} {F : Nat → Nat} (w : World) (h : Rd w R v (rsK m F k)) (hm : 5 + m ≤ 16777216) (hk : k ≤ m) :
    Calls Tryd.prog 64 #[.pointer (some ⟨R, 0, none⟩)] w fun e w' => e = .returned (.tuple #[.int .u8 (gotB m F k : Nat), .int .i64 (gotE m k : Nat)]) ∧ Rd w' R v (gotS m F k) ∧ w.grownBy w' (some R) := by
  have hg := rsK_good F hm hk
  by_cases hlt : k < m
  · have := rbyte_ok w h hg (by rw [rsK_left]; omega)
    unfold gotB gotE gotS
    rw [if_pos hlt, if_pos hlt, if_pos hlt]
    rw [rsK_num, rsK_adv] at this
    exact this
  · have := rbyte_no w h hg (by rw [rsK_left]; omega)
    unfold gotB gotE gotS
    rw [if_neg hlt, if_neg hlt, if_neg hlt]
    exact this
theorem take3_any {R T m k i rb ab : Nat} {v : Value} {F g : Nat → Nat} (w : World) (h : Rd w R v (rsK m F k)) (hm : 5 + m ≤ 16777216) (hk : k ≤ m) (hT : Tq w T g) (hi : i < 23) (hF : gotB m F k < 256)
    (hrb : Whole w rb 51 #[.pointer (some ⟨R, 0, none⟩)]) (hab : Whole w ab 101 #[.pointer (some ⟨T, i, none⟩)]) :
    Calls Tryd.prog 63 #[.pointer (some ⟨rb, 0, none⟩), .pointer (some ⟨ab, 0, none⟩)] w fun e w' => e = .returned (.int .i64 (gotE m k : Nat)) ∧ Rd w' R v (gotS m F k) ∧ Tq w' T (upd g i (gotB m F k)) ∧ Fr (fun x => x = R ∨ x = T) w w' := by
  obtain ⟨tc, htc, hts, htf⟩ := hT
  have hT : Tq w T g := ⟨tc, htc, hts, htf⟩
  obtain ⟨n1, n2⟩ := h.whole htc (by decide) (by decide)
  obtain ⟨n3, n4⟩ := h.whole hrb (by decide) (by decide)
  obtain ⟨n5, n6⟩ := h.whole hab (by decide) (by decide)
  have n7 := Lib.hid (kwhole_apart hrb htc (by decide))
  have n8 := Lib.hid (kwhole_apart hab htc (by decide))
  have HB := Lib.hid fun V (hV : Rd V R v (rsK m F k)) => kbyte_any V hV hm hk
  generalize gotE m k = E at *
  generalize gotS m F k = S' at *
  generalize gotB m F k = X at *
  have c1 := hrb.cell 0
  have c2 := hab.cell 0
  simp only [List.getElem?_toArray, List.getElem?_cons_zero] at c1 c2
  have hh := Lib.hid h
  replace hT := Lib.hid hT
  replace hrb := Lib.hid hrb
  replace hab := Lib.hid hab
  replace n1 := Lib.hid n1
  replace n2 := Lib.hid n2
  replace n3 := Lib.hid n3
  replace n5 := Lib.hid n5
  replace hF := Lib.hid hF
  clear h htc hts htf n4 n6 hm hk
  go_enter Tryd.func63, Tryd.ntmps63
  go_upto_region 1 with (fail)
  go_region_held3 (fun V => V.cell? ⟨rb, 0, none⟩ = some (.pointer (some ⟨R, 0, none⟩)) ∧ V.cell? ⟨ab, 0, none⟩ = some (.pointer (some ⟨T, i, none⟩)))
    (first | go_keep | (with_reducible exact ⟨g1, g2⟩))
    ((go_at_call 64; (with_reducible refine (HB.out _ ?_).mono ?_); (first | (exact hh.out.drewN _) | (exact hh.out.below (Below.drew (Below.refl _ _))) | skip); rintro e W5 ⟨rfl, hR5, hg5⟩;
      have d1 := (Whole.only (hrb.out.drew) hg5 n3.out).cell 0; have d2 := (Whole.only (hab.out.drew) hg5 n5.out).cell 0;
      have hT5 := hT.out.drew.only hg5 n1.out; have t5 := hT5.cell i hi; have y5 := hT5.free i; have g1 := ((Whole.only (hrb.out.drew) hg5 n3.out).away (p := ⟨T, i, none⟩) n7.out (.int .u8 (X : Nat))).cell 0; have g2 := ((Whole.only (hab.out.drew) hg5 n5.out).away (p := ⟨T, i, none⟩) n8.out (.int .u8 (X : Nat))).cell 0; replace hT5 := Lib.hid hT5; replace hR5 := Lib.hid hR5; replace hg5 := Lib.hid hg5;
      simp only [List.getElem?_toArray, List.getElem?_cons_zero] at d1 d2 g1 g2))
  have hR6 := Lib.hid (hR5.out.away (x := T) n1.out n2.out i (.int .u8 (X : Nat)))
  have hT6 := Lib.hid (hT5.out.put i X hF.out)
  have hF6 : Fr (fun x => x = R ∨ x = T) w (W5.setCell ⟨T, i, none⟩ (.int .u8 (X : Nat))) :=
    ((⟨hg5.out.os, hg5.out.tape, hg5.out.output, hg5.out.size, fun k hk hS => hg5.out.block k hk (fun e => hS (.inl (by injection e)))⟩ : Fr (fun x => x = R ∨ x = T) w W5).setCell (p := ⟨T, i, none⟩) (.inr rfl) _)
  replace hF6 := Lib.hid hF6
  clear d1 d2 g1 g2 t5 y5 c1 c2
  go_wp2_with fail
  go_ret
  exact ⟨rfl, hR6.out, hT6.out, hF6.out⟩
theorem take2_any {R m rb : Nat} {v : Value} {F : Nat → Nat} (w : World) (h : Rd w R v (rsN m F)) (hm : 5 + m ≤ 16777216)
    (hrb : Whole w rb 51 #[.pointer (some ⟨R, 0, none⟩)]) :
    Calls Tryd.prog 60 #[.pointer (some ⟨rb, 0, none⟩)] w fun e w' => e = .returned (.int .i64 0) ∧ Rd w' R v (rsK m F 0) ∧ w.grownBy w' (some R) := by
  obtain ⟨e1, e2⟩ := rsN_open F hm
  have HO := ropen_any (tag := 13) w h (rsN_good F hm)
  rw [e1, e2, if_pos rfl] at HO
  replace HO := Lib.hid HO
  have c1 := hrb.cell 0
  simp only [List.getElem?_toArray, List.getElem?_cons_zero] at c1
  clear e1 e2 h hrb hm
  go_enter Tryd.func60, Tryd.ntmps60
  go_wp2_with fail
  refine HO.out.mono ?_
  rintro e W5 ⟨rfl, hR5, hg5⟩
  replace hR5 := Lib.hid hR5
  replace hg5 := Lib.hid hg5
  go_wp2_with fail
  go_ret
  exact ⟨rfl, hR5.out, hg5.out⟩
theorem then_no {yb E : Nat} (x : Value) (w : World) (hy : Whole w yb 40 #[.int .i64 (E : Nat)]) (hE : E ≠ 0) :
    Calls Tryd.prog 59 #[x, .pointer (some ⟨yb, 0, none⟩)] w fun e w' => e = .returned (.tuple #[]) ∧ w' = w := by
  have c1 := hy.cell 0
  have t1 : ((E : Int) == 0) = false := beq_eq_false_iff_ne.2 (by omega)
  simp only [List.getElem?_toArray, List.getElem?_cons_zero] at c1
  clear hy hE
  go_enter Tryd.func59, Tryd.ntmps59
  go_wp2_with fail
  go_end0
  exact ⟨rfl, rfl⟩
/-- What a closure answers is kept in yb. -/
theorem then_fin {S : Nat → Prop} {yb E : Nat} {w W5 : World} (hy : Whole w yb 40 #[.int .i64 0]) (hF : Fr S w W5) (hS : ¬ S yb) : W5.cell? ⟨yb, 0, none⟩ = some (.int .i64 0) ∧ W5.frozen? ⟨yb, 0, none⟩ = false ∧ Whole (W5.setCell ⟨yb, 0, none⟩ (.int .i64 (E : Nat))) yb 40 #[.int .i64 (E : Nat)] ∧ Fr (fun x => x = yb ∨ S x) w (W5.setCell ⟨yb, 0, none⟩ (.int .i64 (E : Nat))) := by
  have h5 := hF.whole hy hS
  refine ⟨h5.cell 0, h5.free 0, (h5.put 0 (.int .i64 (E : Nat))).as rfl, (hF.mono (fun k _ hk => .inr hk)).setCell (p := ⟨yb, 0, none⟩) (.inl rfl) _⟩
theorem then3_any {R T m k i rb ab yb : Nat} {v : Value} {F g : Nat → Nat} (w : World) (h : Rd w R v (rsK m F k)) (hm : 5 + m ≤ 16777216) (hk : k ≤ m) (hT : Tq w T g) (hi : i < 23) (hF : gotB m F k < 256)
    (hrb : Whole w rb 51 #[.pointer (some ⟨R, 0, none⟩)]) (hab : Whole w ab 101 #[.pointer (some ⟨T, i, none⟩)]) (hy : Whole w yb 40 #[.int .i64 0]) :
    Calls Tryd.prog 59 #[.func (.func 63) #[] #[.pointer (some ⟨rb, 0, none⟩), .pointer (some ⟨ab, 0, none⟩)], .pointer (some ⟨yb, 0, none⟩)] w fun e w' => e = .returned (.tuple #[]) ∧ Whole w' yb 40 #[.int .i64 (gotE m k : Nat)] ∧ Rd w' R v (gotS m F k) ∧ Tq w' T (upd g i (gotB m F k)) ∧ Fr (fun x => x = yb ∨ x = R ∨ x = T) w w' := by
  have HB := Lib.hid (take3_any w h hm hk hT hi hF hrb hab)
  obtain ⟨tc, htc, -⟩ := hT
  obtain ⟨n3, n4⟩ := h.whole hy (by decide) (by decide)
  have n7 := kwhole_apart hy htc (by decide)
  have c1 := hy.cell 0
  simp only [List.getElem?_toArray, List.getElem?_cons_zero] at c1
  generalize gotE m k = E at *
  generalize gotS m F k = S' at *
  generalize gotB m F k = X at *
  replace hy := Lib.hid hy
  replace n3 := Lib.hid n3
  replace n4 := Lib.hid n4
  replace n7 := Lib.hid n7
  clear h hrb hab htc hm hk hF
  go_enter Tryd.func59, Tryd.ntmps59
  go_wp2_with fail
  refine HB.out.mono ?_
  rintro e W5 ⟨rfl, hR5, hT5, hF5⟩
  obtain ⟨y1, y2, y3, y4⟩ := then_fin (E := E) hy.out hF5 (by rintro (e | e); exact n3.out e; exact n7.out e)
  have hR6 := hR5.away (x := yb) n3.out n4.out 0 (.int .i64 (E : Nat))
  have hT6 := hT5.away (p := ⟨yb, 0, none⟩) (fun e => n7.out e.symm) (.int .i64 (E : Nat))
  replace y3 := Lib.hid y3
  replace y4 := Lib.hid y4
  replace hR6 := Lib.hid hR6
  replace hT6 := Lib.hid hT6
  clear HB hR5 hT5 hF5
  go_wp2_with fail
  go_end0
  exact ⟨rfl, y3.out, hR6.out, hT6.out, y4.out⟩
theorem then2_any {R m rb yb : Nat} {v : Value} {F : Nat → Nat} (w : World) (h : Rd w R v (rsN m F)) (hm : 5 + m ≤ 16777216)
    (hrb : Whole w rb 51 #[.pointer (some ⟨R, 0, none⟩)]) (hy : Whole w yb 40 #[.int .i64 0]) :
    Calls Tryd.prog 59 #[.func (.func 60) #[] #[.pointer (some ⟨rb, 0, none⟩)], .pointer (some ⟨yb, 0, none⟩)] w fun e w' => e = .returned (.tuple #[]) ∧ Whole w' yb 40 #[.int .i64 0] ∧ Rd w' R v (rsK m F 0) ∧ Fr (fun x => x = yb ∨ x = R) w w' := by
  have HB := Lib.hid (take2_any w h hm hrb)
  obtain ⟨n3, n4⟩ := h.whole hy (by decide) (by decide)
  have c1 := hy.cell 0
  simp only [List.getElem?_toArray, List.getElem?_cons_zero] at c1
  replace hy := Lib.hid hy
  replace n3 := Lib.hid n3
  replace n4 := Lib.hid n4
  clear h hrb hm
  go_enter Tryd.func59, Tryd.ntmps59
  go_wp2_with fail
  refine HB.out.mono ?_
  rintro e W5 ⟨rfl, hR5, hg5⟩
  obtain ⟨y1, y2, y3, y4⟩ := then_fin (E := 0) hy.out (Fr.grown hg5) (fun e => n3.out e)
  have hR6 := hR5.away (x := yb) n3.out n4.out 0 (.int .i64 ((0 : Nat) : Int))
  replace y3 := Lib.hid y3
  replace y4 := Lib.hid y4
  replace hR6 := Lib.hid hR6
  clear HB hR5 hg5
  go_wp2_with fail
  go_end0
  exact ⟨rfl, y3.out, hR6.out, y4.out⟩
theorem then4_any {R m yb : Nat} {v : Value} {F : Nat → Nat} (w : World) (h : Rd w R v (rsK m F 23)) (hm : 5 + m ≤ 16777216) (hk : 23 ≤ m) (hy : Whole w yb 40 #[.int .i64 0]) :
    Calls Tryd.prog 59 #[.func (.func 65) #[.pointer (some ⟨R, 0, none⟩)] #[], .pointer (some ⟨yb, 0, none⟩)] w fun e w' => e = .returned (.tuple #[]) ∧ Whole w' yb 40 #[.int .i64 ((if 23 = m then 0 else 59 : Nat) : Int)] ∧ (23 = m → Rd w' R v (rsK m F m).closed) ∧ Fr (fun x => x = yb ∨ x = R) w w' := by
  have HB := rclose_any w h (rsK_good F hm hk)
  rw [rsK_close F hk] at HB
  obtain ⟨n3, n4⟩ := h.whole hy (by decide) (by decide)
  have c1 := hy.cell 0
  simp only [List.getElem?_toArray, List.getElem?_cons_zero] at c1
  have hE : ∀ w', Rd w' R v (if (if 23 = m then 0 else 59) = 0 then (rsK m F 23).closed else rsK m F 23) → 23 = m → Rd w' R v (rsK m F m).closed := fun w' hr e => by
    subst e
    exact hr
  generalize (if 23 = m then 0 else 59 : Nat) = E at *
  replace HB := Lib.hid HB
  replace hE := Lib.hid hE
  replace hy := Lib.hid hy
  replace n3 := Lib.hid n3
  replace n4 := Lib.hid n4
  clear h hm hk
  go_enter Tryd.func59, Tryd.ntmps59
  go_wp2_with fail
  refine HB.out.mono ?_
  rintro e W5 ⟨rfl, hR5, hg5⟩
  obtain ⟨y1, y2, y3, y4⟩ := then_fin (E := E) hy.out (Fr.grown hg5) (fun e => n3.out e)
  have hR6 := hE.out _ (hR5.away (x := yb) n3.out n4.out 0 (.int .i64 (E : Nat)))
  replace y3 := Lib.hid y3
  replace y4 := Lib.hid y4
  replace hR6 := Lib.hid hR6
  clear HB hR5 hg5 hE
  go_wp2_with fail
  go_end0
  exact ⟨rfl, y3.out, hR6.out, y4.out⟩
end Go.Proofs.YtbdhdedlemndeaaDoor
