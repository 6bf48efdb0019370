/-
  An operand's letter and bytes are laid.
-/
import Derived.Test.YtknlbmjncginnaaGreatDoorPC
namespace Go.Proofs.YtknlbmjncginnaaGreatDoor
open Go.RowKit Go.Shelf
set_option maxRecDepth 100000
set_option maxHeartbeats 4000000
set_option linter.unusedVariables false

def noneL : List Nat := [87, 68, 67, 42, 117, 116, 114]
section
variable {K : Cx} {z : Zs} {s : Ts} {w w' : World}
theorem Tk.geB (h : Tk K z s w) : K.B ≤ w.heap.size := by have := h.bel.size; have := h.base; omega
theorem Tk.other (h : Tk K z s w) {N : Nat} {t : TypeId} {cs : Array Value} (hN : Whole w N t cs) (hB : K.B ≤ N) (i : Nat) (u : Value) (h1 : t ≠ 98 := by decide) (h2 : t ≠ 25 := by decide) (h3 : t ≠ 42 := by decide) : Tk K z s (w.setCell ⟨N, i, none⟩ u) := by
  have ha := h.away hN h1 h2
  obtain ⟨lv, g1, g4⟩ := h.cells
  obtain ⟨a, n, c, f, g5, g6⟩ := h.box
  exact ⟨h.ok, h.qok, h.mem, ⟨lv, g1.away (p := ⟨N, i, none⟩) (Ne.symm ha.1) _, row_put g4 (p := ⟨N, i, none⟩) (own_apart g4 hN (Ne.symm h3)) _⟩, ⟨a, n, c, f, g5.away (p := ⟨N, i, none⟩) (Ne.symm ha.2) _, g6⟩, h.here, h.hex, h.bel.setCell (p := ⟨N, i, none⟩) hB _, h.base⟩
theorem Kp.other (k : Kp K w w') {N : Nat} (hN : w.heap.size ≤ N) (i : Nat) (u : Value) : Kp K w (w'.setCell ⟨N, i, none⟩ u) :=
  ⟨by have := k.size; simpa [World.setCell] using this, fun x t cs h1 h2 h3 h4 => (k.keep x t cs h1 h2 h3 h4).away (p := ⟨N, i, none⟩) (by have := h4.lt; show x ≠ N; omega) u⟩
/-- The closed form of an operand that is laid. -/
def zeroO : Array Value := #[.int .u8 0, .int .u16 0, .nilFunc, .nilFunc]
structure Gd (K : Cx) (z : Zs) (s : Ts) (w : World) (O R : Nat) (W : World) : Prop where
  t : Tk K z s W
  k : Kp K w W
  o : ∃ cs, Whole W O 96 cs
  r : ∃ cs, Whole W R 96 cs
  bo : K.B ≤ O ∧ w.heap.size ≤ O
  br : K.B ≤ R ∧ w.heap.size ≤ R
  ne : R ≠ O
theorem Gd.setO {O R : Nat} {W : World} (h : Gd K z s w O R W) (i : Nat) (v : Value) : Gd K z s w O R (W.setCell ⟨O, i, none⟩ v) := by
  obtain ⟨co, ho⟩ := h.o
  obtain ⟨cr, hr⟩ := h.r
  exact ⟨h.t.other ho h.bo.1 i v, h.k.other h.bo.2 i v, ⟨_, ho.put i v⟩, ⟨_, hr.away (p := ⟨O, i, none⟩) h.ne v⟩, h.bo, h.br, h.ne⟩
theorem Gd.setR {O R : Nat} {W : World} (h : Gd K z s w O R W) (i : Nat) (v : Value) : Gd K z s w O R (W.setCell ⟨R, i, none⟩ v) := by
  obtain ⟨co, ho⟩ := h.o
  obtain ⟨cr, hr⟩ := h.r
  exact ⟨h.t.other hr h.br.1 i v, h.k.other h.br.2 i v, ⟨_, ho.away (p := ⟨R, i, none⟩) (Ne.symm h.ne) v⟩, ⟨_, hr.put i v⟩, h.bo, h.br, h.ne⟩
theorem operandOf_any (c : Nat) (hc : c ∈ regL ∨ c = 35 ∨ c ∈ memL ∨ c ∈ noneL) (h : Tk K z s w) (hl : s.l.length ≤ 98) :
    Calls Tryz.prog 136 #[.pointer (some ⟨K.b, 0, none⟩), .int .u8 (c : Nat)] w fun e w' =>
      ∃ s', Tk K z s' w' ∧ Kp K w w' ∧ s'.l.length ≤ s.l.length + 2 ∧ ((∃ n v2 v3, Ran (numM (wdF c)) s n s' ∧ n < 65536 ∧ e = .returned (.agg #[.int .u8 (c : Nat), .int .u16 (n : Nat), v2, v3]) ∧ OpAt K w' c n v2 v3) ∨ (Gave (numM (wdF c)) s s' ∧ e = lackE)) := by
  obtain ⟨Q, hQ, F⟩ := post_name (fun (e : Ending) (w' : World) => ∃ s', Tk K z s' w' ∧ Kp K w w' ∧ s'.l.length ≤ s.l.length + 2 ∧ ((∃ n v2 v3, Ran (numM (wdF c)) s n s' ∧ n < 65536 ∧ e = .returned (.agg #[.int .u8 (c : Nat), .int .u16 (n : Nat), v2, v3]) ∧ OpAt K w' c n v2 v3) ∨ (Gave (numM (wdF c)) s s' ∧ e = lackE)))
  rw [hQ]
  clear hQ
  replace F := Lib.hid F
  have hcl : c < 256 := by
    simp only [regL, memL, noneL, List.mem_cons, List.not_mem_nil, or_false] at hc
    omega
  have HW := Lib.hid fun (W : World) => width_any c W hcl
  have HN := fun (W : World) (hW : Tk K z s W) => fetchNumber_any (wdF c) (wdF_le c) hW hl
  replace HN := Lib.hid HN
  generalize hwd : wdF c = wd at *
  replace hwd := Lib.hid hwd
  replace hc := Lib.hid hc
  have hU := ((Whole.fresh w 87 #[.pointer (some ⟨K.b, 0, none⟩)]).alloc (.cells #[.int .u8 (c : Nat)] 5)).alloc (.cells zeroO 96)
  have hL := (Whole.fresh (w.alloc (.cells #[.pointer (some ⟨K.b, 0, none⟩)] 87)) 5 #[.int .u8 (c : Nat)]).alloc (.cells zeroO 96)
  have hR := Whole.fresh ((w.alloc (.cells #[.pointer (some ⟨K.b, 0, none⟩)] 87)).alloc (.cells #[.int .u8 (c : Nat)] 5)) 96 zeroO
  have hT := ((h.alloc (.cells #[.pointer (some ⟨K.b, 0, none⟩)] 87)).alloc (.cells #[.int .u8 (c : Nat)] 5)).alloc (.cells zeroO 96)
  have hK := ((((Kp.refl K w).alloc (.cells #[.pointer (some ⟨K.b, 0, none⟩)] 87)).alloc (.cells #[.int .u8 (c : Nat)] 5)).alloc (.cells zeroO 96))
  have hBw := h.geB
  rw [show (w.alloc (.cells #[.pointer (some ⟨K.b, 0, none⟩)] 87)).heap.size = w.heap.size + 1 by simp] at hL
  rw [show ((w.alloc (.cells #[.pointer (some ⟨K.b, 0, none⟩)] 87)).alloc (.cells #[.int .u8 (c : Nat)] 5)).heap.size = w.heap.size + 1 + 1 by simp] at hR
  unfold zeroO at hU hL hR hT hK
  clear h hl
  go_enter Tryz.func136, Tryz.ntmps136
  go_upto_region 1 with (fail)
  generalize (((w.alloc (Obj.cells #[Value.pointer (some { block := K.b, off := 0 })] 87)).alloc (Obj.cells #[Value.int IntKind.u8 (c : Nat)] 5)).alloc (Obj.cells #[Value.int IntKind.u8 0, Value.int IntKind.u16 0, Value.nilFunc, Value.nilFunc] 96)) = W3 at *
  have hszW := hK.size
  generalize hwz : w.heap.size = U at *
  generalize hL1 : U + 1 = L at *
  generalize hR1 : L + 1 = R at *
  replace hL1 := Lib.hid hL1
  replace hR1 := Lib.hid hR1
  go_cut [5] (fun s5 W => ∃ (s' : Ts) (n N : Nat), s5 = .pointer (some ⟨N, 0, none⟩) ∧ Hid (Ran (numM wd) s n s' ∧ n < 65536 ∧ s'.l.length ≤ s.l.length + 2 ∧ Kp K w W ∧ K.B ≤ N) ∧ Hid (Tk K z s' W) ∧ Hid (Whole W N 22 #[.int .u16 (n : Nat)]) ∧ Hid (Whole W U 87 #[.pointer (some ⟨K.b, 0, none⟩)]) ∧ Hid (Whole W L 5 #[.int .u8 (c : Nat)]) ∧ Hid (Whole W R 96 #[.int .u8 0, .int .u16 0, .nilFunc, .nilFunc]))
  case first =>
    as_aux_lemma =>
    have cU := hU.drew.cell 0
    have cL := hL.drew.cell 0
    simp only [List.getElem?_toArray, List.getElem?_cons_zero] at cU cL
    have hNB := (Whole.fresh W3 22 #[.int .u16 0]).drew
    have HA := Lib.hid (HN.out W3.drew hT.drew)
    have HB := Lib.hid (HN.out ((W3.alloc (.cells #[.int .u16 0] 22)).drew) ((hT.alloc _).drew))
    have kA := hK.drew
    have kB := (hK.alloc (.cells #[.int .u16 0] 22)).drew
    have hstA := Lib.hid fun (W : World) (k1 : Kp K W3.drew W) => And.intro (k1.stay hT.drew hU.drew) (And.intro (k1.stay hT.drew hL.drew) (k1.stay hT.drew hR.drew))
    have hstB := Lib.hid fun (W : World) (k1 : Kp K ((W3.alloc (.cells #[.int .u16 0] 22)).drew) W) => And.intro (And.intro (k1.stay ((hT.alloc _).drew) ((hU.alloc _).drew)) (And.intro (k1.stay ((hT.alloc _).drew) ((hL.alloc _).drew)) (k1.stay ((hT.alloc _).drew) ((hR.alloc _).drew)))) (k1.stay ((hT.alloc _).drew) hNB)
    replace kA := Lib.hid kA
    replace kB := Lib.hid kB
    have hsz : W3.drew.heap.size = W3.heap.size := rfl
    have hUL := Lib.hid (And.intro hU hL)
    clear hU hL hR hT hK HN hNB
    go_region_held2 (fun W => W.cell? ⟨U, 0, none⟩ = some (.pointer (some ⟨K.b, 0, none⟩)) ∧ W.cell? ⟨L, 0, none⟩ = some (.int .u8 (c : Nat))) (first | exact ⟨cU, cL⟩ | exact ⟨((hUL.out.1.alloc _).drew.cell 0), ((hUL.out.2.alloc _).drew.cell 0)⟩ | exact ⟨(hb.out.1.cell 0), (hb.out.2.1.cell 0)⟩ | exact ⟨((hb.out.1.alloc _).cell 0), ((hb.out.2.1.alloc _).cell 0)⟩ | exact ⟨((hb.out.1.away (p := ⟨_, 0, none⟩) (whole_apart hb.out.1 hN.out (by decide)) _).cell 0), ((hb.out.2.1.away (p := ⟨_, 0, none⟩) (whole_apart hb.out.2.1 hN.out (by decide)) _).cell 0)⟩ | go_keep) (first
      | (go_at_call 184; (with_reducible refine (HW.out _).mono ?_); rintro e w2 ⟨rfl, rfl⟩)
      | (go_at_call 185; (with_reducible refine HA.out.mono ?_); rintro e w1 ⟨s1, t1, k1, l1, (⟨n, r1, hn, rfl⟩ | ⟨g1, rfl⟩)⟩; rotate_left; (have hf := Lib.hid (F.out lackE _ ⟨s1, t1, kA.out.trans k1, l1, .inr ⟨g1, rfl⟩⟩); unfold lackE at hf ⊢; go_wp2_with fail; first | exact hf.out | exact ⟨rfl, hf.out⟩); have hb := Lib.hid (hstA.out _ k1); have hh := Lib.hid (And.intro (show Ran (numM wd) s n s1 ∧ n < 65536 ∧ s1.l.length ≤ s.l.length + 2 ∧ Kp K w w1 from ⟨r1, hn, l1, kA.out.trans k1⟩) t1); unfold wordV)
      | (go_at_call 185; (with_reducible refine HB.out.mono ?_); rintro e w1 ⟨s1, t1, k1, l1, (⟨n, r1, hn, rfl⟩ | ⟨g1, rfl⟩)⟩; rotate_left; (have hf := Lib.hid (F.out lackE _ ⟨s1, t1, kB.out.trans k1, l1, .inr ⟨g1, rfl⟩⟩); unfold lackE at hf ⊢; go_wp2_with fail; first | exact hf.out | exact ⟨rfl, hf.out⟩); have hb := Lib.hid (hstB.out _ k1).1; have hN := Lib.hid (hstB.out _ k1).2; have n0 := hN.out.cell 0; have n1 := hN.out.free 0; have hh := Lib.hid (And.intro (show Ran (numM wd) s n s1 ∧ n < 65536 ∧ s1.l.length ≤ s.l.length + 2 ∧ Kp K w w1 from ⟨r1, hn, l1, kB.out.trans k1⟩) t1); unfold wordV))
    all_goals
      go_wp2_with fail
      go_meet
      first
        | exact ⟨s1, n, _, rfl, Lib.hid ⟨hh.out.1.1, hh.out.1.2.1, hh.out.1.2.2.1, hh.out.1.2.2.2.alloc _, Nat.le_trans hBw (by have := hh.out.1.2.2.2.size; omega)⟩, Lib.hid (hh.out.2.alloc _), Lib.hid (Whole.fresh _ _ _), Lib.hid (hb.out.1.alloc _), Lib.hid (hb.out.2.1.alloc _), Lib.hid (hb.out.2.2.alloc _)⟩
        | exact ⟨s1, n, _, rfl, Lib.hid ⟨hh.out.1.1, hh.out.1.2.1, hh.out.1.2.2.1, hh.out.1.2.2.2.other (by omega) _ _, by omega⟩, Lib.hid (hh.out.2.other hN.out (by omega) _ _), Lib.hid (hN.out.put 0 _), Lib.hid (hb.out.1.away (p := ⟨_, 0, none⟩) (whole_apart hb.out.1 hN.out (by decide)) _), Lib.hid (hb.out.2.1.away (p := ⟨_, 0, none⟩) (whole_apart hb.out.2.1 hN.out (by decide)) _), Lib.hid (hb.out.2.2.away (p := ⟨_, 0, none⟩) (whole_apart hb.out.2.2 hN.out (by decide)) _)⟩
  case rest =>
    clear HW HN hU hL hR hT hK hszW
    obtain ⟨s', n, N, rfl, hh, hT, hN, hU, hL, hR⟩ := hcut
    have cL0 := hL.out.cell 0
    have cN0 := hN.out.cell 0
    simp only [List.getElem?_toArray, List.getElem?_cons_zero] at cL0 cN0
    have hO4 := Lib.hid (Whole.fresh wc 96 #[.int .u8 (c : Nat), .int .u16 (n : Nat), .nilFunc, .nilFunc])
    have hT4 := Lib.hid (hT.out.alloc (.cells #[.int .u8 (c : Nat), .int .u16 (n : Nat), .nilFunc, .nilFunc] 96))
    have hk4 := Lib.hid (hh.out.2.2.2.1.alloc (.cells #[.int .u8 (c : Nat), .int .u16 (n : Nat), .nilFunc, .nilFunc] 96))
    have hU4 := Lib.hid (hU.out.alloc (.cells #[.int .u8 (c : Nat), .int .u16 (n : Nat), .nilFunc, .nilFunc] 96))
    have hL4 := Lib.hid (hL.out.alloc (.cells #[.int .u8 (c : Nat), .int .u16 (n : Nat), .nilFunc, .nilFunc] 96))
    have hN4 := Lib.hid (hN.out.alloc (.cells #[.int .u8 (c : Nat), .int .u16 (n : Nat), .nilFunc, .nilFunc] 96))
    have hR4 := Lib.hid (hR.out.alloc (.cells #[.int .u8 (c : Nat), .int .u16 (n : Nat), .nilFunc, .nilFunc] 96))
    have hRO := Lib.hid (show R ≠ wc.heap.size from by have := hR.out.lt; omega)
    have hUO := Lib.hid (show U ≤ wc.heap.size from by have := hU.out.lt; omega)
    clear hT hU hL hN hR
    go_upto_region 3 with (fail)
    clear cL0 cN0
    generalize wc.alloc (Obj.cells #[Value.int IntKind.u8 (c : Nat), Value.int IntKind.u16 (n : Nat), Value.nilFunc, Value.nilFunc] 96) = W4 at *
    generalize wc.heap.size = O at *
    have cU := hU4.out.cell 0
    have cL := hL4.out.cell 0
    have cN := hN4.out.cell 0
    have cR0 := hR4.out.cell 0
    have cR1 := hR4.out.cell 1
    have cR2 := hR4.out.cell 2
    have cR3 := hR4.out.cell 3
    have fR0 := hR4.out.free 0
    have fR1 := hR4.out.free 1
    have fR2 := hR4.out.free 2
    have fR3 := hR4.out.free 3
    have cO0 := hO4.out.cell 0
    have cO1 := hO4.out.cell 1
    have cO2 := hO4.out.cell 2
    have cO3 := hO4.out.cell 3
    have fO2 := hO4.out.free 2
    have fO3 := hO4.out.free 3
    simp only [List.getElem?_toArray, List.getElem?_cons_zero, List.getElem?_cons_succ] at cU cL cN cR0 cR1 cR2 cR3 cO0 cO1 cO2 cO3
    have hne := hRO.out
    have HRG := Lib.hid fun (W : World) (C : Int) (hC : C = (c : Int)) (hc : c ∈ regL) => (show Calls Tryz.prog 186 #[.pointer (some ⟨K.b, 0, none⟩), .int .u8 C] W _ from hC ▸ register_any (K := K) (w := W) c hc)
    rcases hc.out with hc1 | hc1 | hc1 | hc1
    · have hc2 := Lib.hid hc1
      simp only [regL, List.mem_cons, List.not_mem_nil, or_false] at hc1
      rcases hc1 with rfl | rfl | rfl | rfl | rfl
      · go_wp2_with fail
        with_reducible refine (HRG.out _ _ (by simp) hc2.out).mono ?_
        rintro e w5 ⟨rfl, hw5⟩
        rw [hw5]
        clear hw5 w5 HRG
        have hP5 := Lib.hid (Whole.fresh W4 131 #[.pointer (some ⟨K.b, regIx 65, none⟩)])
        have hT5 := Lib.hid (hT4.out.alloc (.cells #[.pointer (some ⟨K.b, regIx 65, none⟩)] 131))
        have hk5 := Lib.hid (hk4.out.alloc (.cells #[.pointer (some ⟨K.b, regIx 65, none⟩)] 131))
        have hO5 := Lib.hid (hO4.out.alloc (.cells #[.pointer (some ⟨K.b, regIx 65, none⟩)] 131))
        have hR5 := Lib.hid (hR4.out.alloc (.cells #[.pointer (some ⟨K.b, regIx 65, none⟩)] 131))
        go_upto_region 10 with (fail)
        clear hT4 hk4 hU4 hL4 hN4 hO4 hR4 cU cL cN cR0 cR1 cR2 cR3 fR0 fR1 fR2 fR3 cO0 cO1 cO2 cO3 fO2 fO3
        generalize W4.alloc (Obj.cells #[Value.pointer (some ⟨K.b, regIx 65, none⟩)] 131) = W5 at *
        generalize W4.heap.size = P at *
        clear W4
        have cR0 := hR5.out.cell 0
        have cR1 := hR5.out.cell 1
        have cR2 := hR5.out.cell 2
        have cR3 := hR5.out.cell 3
        have fR0 := hR5.out.free 0
        have fR1 := hR5.out.free 1
        have fR2 := hR5.out.free 2
        have fR3 := hR5.out.free 3
        have cO0 := hO5.out.cell 0
        have cO1 := hO5.out.cell 1
        have cO2 := hO5.out.cell 2
        have cO3 := hO5.out.cell 3
        have fO2 := hO5.out.free 2
        have fO3 := hO5.out.free 3
        simp only [List.getElem?_toArray, List.getElem?_cons_zero, List.getElem?_cons_succ] at cR0 cR1 cR2 cR3 cO0 cO1 cO2 cO3
        have hbo : K.B ≤ O ∧ w.heap.size ≤ O := ⟨Nat.le_trans hBw hUO.out, by rw [hwz]; exact hUO.out⟩
        have hbr : K.B ≤ R ∧ w.heap.size ≤ R := by have := hL1.out; have := hR1.out; omega
        have hg := (((((((Gd.mk hT5.out hk5.out ⟨_, hO5.out⟩ ⟨_, hR5.out⟩ hbo hbr hne).setO 2 (.func (.func 187) #[] #[.pointer (some ⟨P, 0, none⟩)])).setO 3 (.func (.func 188) #[] #[.pointer (some ⟨P, 0, none⟩)])).setR 0 (.int .u8 65)).setR 1 (.int .u16 (n : Nat))).setR 2 (.func (.func 187) #[] #[.pointer (some ⟨P, 0, none⟩)])).setR 3 (.func (.func 188) #[] #[.pointer (some ⟨P, 0, none⟩)]))
        have hz := ((((((hR5.out.away (p := ⟨O, 2, none⟩) hne (.func (.func 187) #[] #[.pointer (some ⟨P, 0, none⟩)])).away (p := ⟨O, 3, none⟩) hne (.func (.func 188) #[] #[.pointer (some ⟨P, 0, none⟩)])).put 0 (.int .u8 65)).put 1 (.int .u16 (n : Nat))).put 2 (.func (.func 187) #[] #[.pointer (some ⟨P, 0, none⟩)])).put 3 (.func (.func 188) #[] #[.pointer (some ⟨P, 0, none⟩)]))
        have z0 := hz.cell 0
        have z1 := hz.cell 1
        have z2 := hz.cell 2
        have z3 := hz.cell 3
        simp only [List.getElem?_toArray, List.getElem?_cons_zero, List.getElem?_cons_succ, List.setIfInBounds_toArray, List.set_cons_zero, List.set_cons_succ] at z0 z1 z2 z3
        have hfin := Lib.hid (F.out (.returned (.agg #[.int .u8 ((65 : Nat) : Int), .int .u16 (n : Nat), (.func (.func 187) #[] #[.pointer (some ⟨P, 0, none⟩)]), (.func (.func 188) #[] #[.pointer (some ⟨P, 0, none⟩)])])) _ ⟨s', hg.t, hg.k, hh.out.2.2.1, .inl ⟨n, (.func (.func 187) #[] #[.pointer (some ⟨P, 0, none⟩)]), (.func (.func 188) #[] #[.pointer (some ⟨P, 0, none⟩)]), hh.out.1, hh.out.2.1, rfl, .inl ⟨hc2.out, P, rfl, rfl, ((((((hP5.out.away (p := ⟨O, 2, none⟩) (whole_apart hP5.out hO5.out (by decide)) (.func (.func 187) #[] #[.pointer (some ⟨P, 0, none⟩)])).away (p := ⟨O, 3, none⟩) (whole_apart hP5.out hO5.out (by decide)) (.func (.func 188) #[] #[.pointer (some ⟨P, 0, none⟩)])).away (p := ⟨R, 0, none⟩) (whole_apart hP5.out hR5.out (by decide)) (.int .u8 65)).away (p := ⟨R, 1, none⟩) (whole_apart hP5.out hR5.out (by decide)) (.int .u16 (n : Nat))).away (p := ⟨R, 2, none⟩) (whole_apart hP5.out hR5.out (by decide)) (.func (.func 187) #[] #[.pointer (some ⟨P, 0, none⟩)])).away (p := ⟨R, 3, none⟩) (whole_apart hP5.out hR5.out (by decide)) (.func (.func 188) #[] #[.pointer (some ⟨P, 0, none⟩)]))⟩⟩⟩)
        clear hg hz F
        go_wp2_with fail
        exact bodyPost_ret (v := .agg #[.int .u8 65, .int .u16 (n : Nat), (.func (.func 187) #[] #[.pointer (some ⟨P, 0, none⟩)]), (.func (.func 188) #[] #[.pointer (some ⟨P, 0, none⟩)])]) (by simp [results, Tryz.results136, go_sem, z0, z1, z2, z3]) rfl hfin.out
      · go_wp2_with fail
        with_reducible refine (HRG.out _ _ (by simp) hc2.out).mono ?_
        rintro e w5 ⟨rfl, hw5⟩
        rw [hw5]
        clear hw5 w5 HRG
        have hP5 := Lib.hid (Whole.fresh W4 131 #[.pointer (some ⟨K.b, regIx 88, none⟩)])
        have hT5 := Lib.hid (hT4.out.alloc (.cells #[.pointer (some ⟨K.b, regIx 88, none⟩)] 131))
        have hk5 := Lib.hid (hk4.out.alloc (.cells #[.pointer (some ⟨K.b, regIx 88, none⟩)] 131))
        have hO5 := Lib.hid (hO4.out.alloc (.cells #[.pointer (some ⟨K.b, regIx 88, none⟩)] 131))
        have hR5 := Lib.hid (hR4.out.alloc (.cells #[.pointer (some ⟨K.b, regIx 88, none⟩)] 131))
        go_upto_region 10 with (fail)
        clear hT4 hk4 hU4 hL4 hN4 hO4 hR4 cU cL cN cR0 cR1 cR2 cR3 fR0 fR1 fR2 fR3 cO0 cO1 cO2 cO3 fO2 fO3
        generalize W4.alloc (Obj.cells #[Value.pointer (some ⟨K.b, regIx 88, none⟩)] 131) = W5 at *
        generalize W4.heap.size = P at *
        clear W4
        have cR0 := hR5.out.cell 0
        have cR1 := hR5.out.cell 1
        have cR2 := hR5.out.cell 2
        have cR3 := hR5.out.cell 3
        have fR0 := hR5.out.free 0
        have fR1 := hR5.out.free 1
        have fR2 := hR5.out.free 2
        have fR3 := hR5.out.free 3
        have cO0 := hO5.out.cell 0
        have cO1 := hO5.out.cell 1
        have cO2 := hO5.out.cell 2
        have cO3 := hO5.out.cell 3
        have fO2 := hO5.out.free 2
        have fO3 := hO5.out.free 3
        simp only [List.getElem?_toArray, List.getElem?_cons_zero, List.getElem?_cons_succ] at cR0 cR1 cR2 cR3 cO0 cO1 cO2 cO3
        have hbo : K.B ≤ O ∧ w.heap.size ≤ O := ⟨Nat.le_trans hBw hUO.out, by rw [hwz]; exact hUO.out⟩
        have hbr : K.B ≤ R ∧ w.heap.size ≤ R := by have := hL1.out; have := hR1.out; omega
        have hg := (((((((Gd.mk hT5.out hk5.out ⟨_, hO5.out⟩ ⟨_, hR5.out⟩ hbo hbr hne).setO 2 (.func (.func 187) #[] #[.pointer (some ⟨P, 0, none⟩)])).setO 3 (.func (.func 188) #[] #[.pointer (some ⟨P, 0, none⟩)])).setR 0 (.int .u8 88)).setR 1 (.int .u16 (n : Nat))).setR 2 (.func (.func 187) #[] #[.pointer (some ⟨P, 0, none⟩)])).setR 3 (.func (.func 188) #[] #[.pointer (some ⟨P, 0, none⟩)]))
        have hz := ((((((hR5.out.away (p := ⟨O, 2, none⟩) hne (.func (.func 187) #[] #[.pointer (some ⟨P, 0, none⟩)])).away (p := ⟨O, 3, none⟩) hne (.func (.func 188) #[] #[.pointer (some ⟨P, 0, none⟩)])).put 0 (.int .u8 88)).put 1 (.int .u16 (n : Nat))).put 2 (.func (.func 187) #[] #[.pointer (some ⟨P, 0, none⟩)])).put 3 (.func (.func 188) #[] #[.pointer (some ⟨P, 0, none⟩)]))
        have z0 := hz.cell 0
        have z1 := hz.cell 1
        have z2 := hz.cell 2
        have z3 := hz.cell 3
        simp only [List.getElem?_toArray, List.getElem?_cons_zero, List.getElem?_cons_succ, List.setIfInBounds_toArray, List.set_cons_zero, List.set_cons_succ] at z0 z1 z2 z3
        have hfin := Lib.hid (F.out (.returned (.agg #[.int .u8 ((88 : Nat) : Int), .int .u16 (n : Nat), (.func (.func 187) #[] #[.pointer (some ⟨P, 0, none⟩)]), (.func (.func 188) #[] #[.pointer (some ⟨P, 0, none⟩)])])) _ ⟨s', hg.t, hg.k, hh.out.2.2.1, .inl ⟨n, (.func (.func 187) #[] #[.pointer (some ⟨P, 0, none⟩)]), (.func (.func 188) #[] #[.pointer (some ⟨P, 0, none⟩)]), hh.out.1, hh.out.2.1, rfl, .inl ⟨hc2.out, P, rfl, rfl, ((((((hP5.out.away (p := ⟨O, 2, none⟩) (whole_apart hP5.out hO5.out (by decide)) (.func (.func 187) #[] #[.pointer (some ⟨P, 0, none⟩)])).away (p := ⟨O, 3, none⟩) (whole_apart hP5.out hO5.out (by decide)) (.func (.func 188) #[] #[.pointer (some ⟨P, 0, none⟩)])).away (p := ⟨R, 0, none⟩) (whole_apart hP5.out hR5.out (by decide)) (.int .u8 88)).away (p := ⟨R, 1, none⟩) (whole_apart hP5.out hR5.out (by decide)) (.int .u16 (n : Nat))).away (p := ⟨R, 2, none⟩) (whole_apart hP5.out hR5.out (by decide)) (.func (.func 187) #[] #[.pointer (some ⟨P, 0, none⟩)])).away (p := ⟨R, 3, none⟩) (whole_apart hP5.out hR5.out (by decide)) (.func (.func 188) #[] #[.pointer (some ⟨P, 0, none⟩)]))⟩⟩⟩)
        clear hg hz F
        go_wp2_with fail
        exact bodyPost_ret (v := .agg #[.int .u8 88, .int .u16 (n : Nat), (.func (.func 187) #[] #[.pointer (some ⟨P, 0, none⟩)]), (.func (.func 188) #[] #[.pointer (some ⟨P, 0, none⟩)])]) (by simp [results, Tryz.results136, go_sem, z0, z1, z2, z3]) rfl hfin.out
      · go_wp2_with fail
        with_reducible refine (HRG.out _ _ (by simp) hc2.out).mono ?_
        rintro e w5 ⟨rfl, hw5⟩
        rw [hw5]
        clear hw5 w5 HRG
        have hP5 := Lib.hid (Whole.fresh W4 131 #[.pointer (some ⟨K.b, regIx 89, none⟩)])
        have hT5 := Lib.hid (hT4.out.alloc (.cells #[.pointer (some ⟨K.b, regIx 89, none⟩)] 131))
        have hk5 := Lib.hid (hk4.out.alloc (.cells #[.pointer (some ⟨K.b, regIx 89, none⟩)] 131))
        have hO5 := Lib.hid (hO4.out.alloc (.cells #[.pointer (some ⟨K.b, regIx 89, none⟩)] 131))
        have hR5 := Lib.hid (hR4.out.alloc (.cells #[.pointer (some ⟨K.b, regIx 89, none⟩)] 131))
        go_upto_region 10 with (fail)
        clear hT4 hk4 hU4 hL4 hN4 hO4 hR4 cU cL cN cR0 cR1 cR2 cR3 fR0 fR1 fR2 fR3 cO0 cO1 cO2 cO3 fO2 fO3
        generalize W4.alloc (Obj.cells #[Value.pointer (some ⟨K.b, regIx 89, none⟩)] 131) = W5 at *
        generalize W4.heap.size = P at *
        clear W4
        have cR0 := hR5.out.cell 0
        have cR1 := hR5.out.cell 1
        have cR2 := hR5.out.cell 2
        have cR3 := hR5.out.cell 3
        have fR0 := hR5.out.free 0
        have fR1 := hR5.out.free 1
        have fR2 := hR5.out.free 2
        have fR3 := hR5.out.free 3
        have cO0 := hO5.out.cell 0
        have cO1 := hO5.out.cell 1
        have cO2 := hO5.out.cell 2
        have cO3 := hO5.out.cell 3
        have fO2 := hO5.out.free 2
        have fO3 := hO5.out.free 3
        simp only [List.getElem?_toArray, List.getElem?_cons_zero, List.getElem?_cons_succ] at cR0 cR1 cR2 cR3 cO0 cO1 cO2 cO3
        have hbo : K.B ≤ O ∧ w.heap.size ≤ O := ⟨Nat.le_trans hBw hUO.out, by rw [hwz]; exact hUO.out⟩
        have hbr : K.B ≤ R ∧ w.heap.size ≤ R := by have := hL1.out; have := hR1.out; omega
        have hg := (((((((Gd.mk hT5.out hk5.out ⟨_, hO5.out⟩ ⟨_, hR5.out⟩ hbo hbr hne).setO 2 (.func (.func 187) #[] #[.pointer (some ⟨P, 0, none⟩)])).setO 3 (.func (.func 188) #[] #[.pointer (some ⟨P, 0, none⟩)])).setR 0 (.int .u8 89)).setR 1 (.int .u16 (n : Nat))).setR 2 (.func (.func 187) #[] #[.pointer (some ⟨P, 0, none⟩)])).setR 3 (.func (.func 188) #[] #[.pointer (some ⟨P, 0, none⟩)]))
        have hz := ((((((hR5.out.away (p := ⟨O, 2, none⟩) hne (.func (.func 187) #[] #[.pointer (some ⟨P, 0, none⟩)])).away (p := ⟨O, 3, none⟩) hne (.func (.func 188) #[] #[.pointer (some ⟨P, 0, none⟩)])).put 0 (.int .u8 89)).put 1 (.int .u16 (n : Nat))).put 2 (.func (.func 187) #[] #[.pointer (some ⟨P, 0, none⟩)])).put 3 (.func (.func 188) #[] #[.pointer (some ⟨P, 0, none⟩)]))
        have z0 := hz.cell 0
        have z1 := hz.cell 1
        have z2 := hz.cell 2
        have z3 := hz.cell 3
        simp only [List.getElem?_toArray, List.getElem?_cons_zero, List.getElem?_cons_succ, List.setIfInBounds_toArray, List.set_cons_zero, List.set_cons_succ] at z0 z1 z2 z3
        have hfin := Lib.hid (F.out (.returned (.agg #[.int .u8 ((89 : Nat) : Int), .int .u16 (n : Nat), (.func (.func 187) #[] #[.pointer (some ⟨P, 0, none⟩)]), (.func (.func 188) #[] #[.pointer (some ⟨P, 0, none⟩)])])) _ ⟨s', hg.t, hg.k, hh.out.2.2.1, .inl ⟨n, (.func (.func 187) #[] #[.pointer (some ⟨P, 0, none⟩)]), (.func (.func 188) #[] #[.pointer (some ⟨P, 0, none⟩)]), hh.out.1, hh.out.2.1, rfl, .inl ⟨hc2.out, P, rfl, rfl, ((((((hP5.out.away (p := ⟨O, 2, none⟩) (whole_apart hP5.out hO5.out (by decide)) (.func (.func 187) #[] #[.pointer (some ⟨P, 0, none⟩)])).away (p := ⟨O, 3, none⟩) (whole_apart hP5.out hO5.out (by decide)) (.func (.func 188) #[] #[.pointer (some ⟨P, 0, none⟩)])).away (p := ⟨R, 0, none⟩) (whole_apart hP5.out hR5.out (by decide)) (.int .u8 89)).away (p := ⟨R, 1, none⟩) (whole_apart hP5.out hR5.out (by decide)) (.int .u16 (n : Nat))).away (p := ⟨R, 2, none⟩) (whole_apart hP5.out hR5.out (by decide)) (.func (.func 187) #[] #[.pointer (some ⟨P, 0, none⟩)])).away (p := ⟨R, 3, none⟩) (whole_apart hP5.out hR5.out (by decide)) (.func (.func 188) #[] #[.pointer (some ⟨P, 0, none⟩)]))⟩⟩⟩)
        clear hg hz F
        go_wp2_with fail
        exact bodyPost_ret (v := .agg #[.int .u8 89, .int .u16 (n : Nat), (.func (.func 187) #[] #[.pointer (some ⟨P, 0, none⟩)]), (.func (.func 188) #[] #[.pointer (some ⟨P, 0, none⟩)])]) (by simp [results, Tryz.results136, go_sem, z0, z1, z2, z3]) rfl hfin.out
      · go_wp2_with fail
        with_reducible refine (HRG.out _ _ (by simp) hc2.out).mono ?_
        rintro e w5 ⟨rfl, hw5⟩
        rw [hw5]
        clear hw5 w5 HRG
        have hP5 := Lib.hid (Whole.fresh W4 131 #[.pointer (some ⟨K.b, regIx 83, none⟩)])
        have hT5 := Lib.hid (hT4.out.alloc (.cells #[.pointer (some ⟨K.b, regIx 83, none⟩)] 131))
        have hk5 := Lib.hid (hk4.out.alloc (.cells #[.pointer (some ⟨K.b, regIx 83, none⟩)] 131))
        have hO5 := Lib.hid (hO4.out.alloc (.cells #[.pointer (some ⟨K.b, regIx 83, none⟩)] 131))
        have hR5 := Lib.hid (hR4.out.alloc (.cells #[.pointer (some ⟨K.b, regIx 83, none⟩)] 131))
        go_upto_region 10 with (fail)
        clear hT4 hk4 hU4 hL4 hN4 hO4 hR4 cU cL cN cR0 cR1 cR2 cR3 fR0 fR1 fR2 fR3 cO0 cO1 cO2 cO3 fO2 fO3
        generalize W4.alloc (Obj.cells #[Value.pointer (some ⟨K.b, regIx 83, none⟩)] 131) = W5 at *
        generalize W4.heap.size = P at *
        clear W4
        have cR0 := hR5.out.cell 0
        have cR1 := hR5.out.cell 1
        have cR2 := hR5.out.cell 2
        have cR3 := hR5.out.cell 3
        have fR0 := hR5.out.free 0
        have fR1 := hR5.out.free 1
        have fR2 := hR5.out.free 2
        have fR3 := hR5.out.free 3
        have cO0 := hO5.out.cell 0
        have cO1 := hO5.out.cell 1
        have cO2 := hO5.out.cell 2
        have cO3 := hO5.out.cell 3
        have fO2 := hO5.out.free 2
        have fO3 := hO5.out.free 3
        simp only [List.getElem?_toArray, List.getElem?_cons_zero, List.getElem?_cons_succ] at cR0 cR1 cR2 cR3 cO0 cO1 cO2 cO3
        have hbo : K.B ≤ O ∧ w.heap.size ≤ O := ⟨Nat.le_trans hBw hUO.out, by rw [hwz]; exact hUO.out⟩
        have hbr : K.B ≤ R ∧ w.heap.size ≤ R := by have := hL1.out; have := hR1.out; omega
        have hg := (((((((Gd.mk hT5.out hk5.out ⟨_, hO5.out⟩ ⟨_, hR5.out⟩ hbo hbr hne).setO 2 (.func (.func 187) #[] #[.pointer (some ⟨P, 0, none⟩)])).setO 3 (.func (.func 188) #[] #[.pointer (some ⟨P, 0, none⟩)])).setR 0 (.int .u8 83)).setR 1 (.int .u16 (n : Nat))).setR 2 (.func (.func 187) #[] #[.pointer (some ⟨P, 0, none⟩)])).setR 3 (.func (.func 188) #[] #[.pointer (some ⟨P, 0, none⟩)]))
        have hz := ((((((hR5.out.away (p := ⟨O, 2, none⟩) hne (.func (.func 187) #[] #[.pointer (some ⟨P, 0, none⟩)])).away (p := ⟨O, 3, none⟩) hne (.func (.func 188) #[] #[.pointer (some ⟨P, 0, none⟩)])).put 0 (.int .u8 83)).put 1 (.int .u16 (n : Nat))).put 2 (.func (.func 187) #[] #[.pointer (some ⟨P, 0, none⟩)])).put 3 (.func (.func 188) #[] #[.pointer (some ⟨P, 0, none⟩)]))
        have z0 := hz.cell 0
        have z1 := hz.cell 1
        have z2 := hz.cell 2
        have z3 := hz.cell 3
        simp only [List.getElem?_toArray, List.getElem?_cons_zero, List.getElem?_cons_succ, List.setIfInBounds_toArray, List.set_cons_zero, List.set_cons_succ] at z0 z1 z2 z3
        have hfin := Lib.hid (F.out (.returned (.agg #[.int .u8 ((83 : Nat) : Int), .int .u16 (n : Nat), (.func (.func 187) #[] #[.pointer (some ⟨P, 0, none⟩)]), (.func (.func 188) #[] #[.pointer (some ⟨P, 0, none⟩)])])) _ ⟨s', hg.t, hg.k, hh.out.2.2.1, .inl ⟨n, (.func (.func 187) #[] #[.pointer (some ⟨P, 0, none⟩)]), (.func (.func 188) #[] #[.pointer (some ⟨P, 0, none⟩)]), hh.out.1, hh.out.2.1, rfl, .inl ⟨hc2.out, P, rfl, rfl, ((((((hP5.out.away (p := ⟨O, 2, none⟩) (whole_apart hP5.out hO5.out (by decide)) (.func (.func 187) #[] #[.pointer (some ⟨P, 0, none⟩)])).away (p := ⟨O, 3, none⟩) (whole_apart hP5.out hO5.out (by decide)) (.func (.func 188) #[] #[.pointer (some ⟨P, 0, none⟩)])).away (p := ⟨R, 0, none⟩) (whole_apart hP5.out hR5.out (by decide)) (.int .u8 83)).away (p := ⟨R, 1, none⟩) (whole_apart hP5.out hR5.out (by decide)) (.int .u16 (n : Nat))).away (p := ⟨R, 2, none⟩) (whole_apart hP5.out hR5.out (by decide)) (.func (.func 187) #[] #[.pointer (some ⟨P, 0, none⟩)])).away (p := ⟨R, 3, none⟩) (whole_apart hP5.out hR5.out (by decide)) (.func (.func 188) #[] #[.pointer (some ⟨P, 0, none⟩)]))⟩⟩⟩)
        clear hg hz F
        go_wp2_with fail
        exact bodyPost_ret (v := .agg #[.int .u8 83, .int .u16 (n : Nat), (.func (.func 187) #[] #[.pointer (some ⟨P, 0, none⟩)]), (.func (.func 188) #[] #[.pointer (some ⟨P, 0, none⟩)])]) (by simp [results, Tryz.results136, go_sem, z0, z1, z2, z3]) rfl hfin.out
      · go_wp2_with fail
        with_reducible refine (HRG.out _ _ (by simp) hc2.out).mono ?_
        rintro e w5 ⟨rfl, hw5⟩
        rw [hw5]
        clear hw5 w5 HRG
        have hP5 := Lib.hid (Whole.fresh W4 131 #[.pointer (some ⟨K.b, regIx 80, none⟩)])
        have hT5 := Lib.hid (hT4.out.alloc (.cells #[.pointer (some ⟨K.b, regIx 80, none⟩)] 131))
        have hk5 := Lib.hid (hk4.out.alloc (.cells #[.pointer (some ⟨K.b, regIx 80, none⟩)] 131))
        have hO5 := Lib.hid (hO4.out.alloc (.cells #[.pointer (some ⟨K.b, regIx 80, none⟩)] 131))
        have hR5 := Lib.hid (hR4.out.alloc (.cells #[.pointer (some ⟨K.b, regIx 80, none⟩)] 131))
        go_upto_region 10 with (fail)
        clear hT4 hk4 hU4 hL4 hN4 hO4 hR4 cU cL cN cR0 cR1 cR2 cR3 fR0 fR1 fR2 fR3 cO0 cO1 cO2 cO3 fO2 fO3
        generalize W4.alloc (Obj.cells #[Value.pointer (some ⟨K.b, regIx 80, none⟩)] 131) = W5 at *
        generalize W4.heap.size = P at *
        clear W4
        have cR0 := hR5.out.cell 0
        have cR1 := hR5.out.cell 1
        have cR2 := hR5.out.cell 2
        have cR3 := hR5.out.cell 3
        have fR0 := hR5.out.free 0
        have fR1 := hR5.out.free 1
        have fR2 := hR5.out.free 2
        have fR3 := hR5.out.free 3
        have cO0 := hO5.out.cell 0
        have cO1 := hO5.out.cell 1
        have cO2 := hO5.out.cell 2
        have cO3 := hO5.out.cell 3
        have fO2 := hO5.out.free 2
        have fO3 := hO5.out.free 3
        simp only [List.getElem?_toArray, List.getElem?_cons_zero, List.getElem?_cons_succ] at cR0 cR1 cR2 cR3 cO0 cO1 cO2 cO3
        have hbo : K.B ≤ O ∧ w.heap.size ≤ O := ⟨Nat.le_trans hBw hUO.out, by rw [hwz]; exact hUO.out⟩
        have hbr : K.B ≤ R ∧ w.heap.size ≤ R := by have := hL1.out; have := hR1.out; omega
        have hg := (((((((Gd.mk hT5.out hk5.out ⟨_, hO5.out⟩ ⟨_, hR5.out⟩ hbo hbr hne).setO 2 (.func (.func 187) #[] #[.pointer (some ⟨P, 0, none⟩)])).setO 3 (.func (.func 188) #[] #[.pointer (some ⟨P, 0, none⟩)])).setR 0 (.int .u8 80)).setR 1 (.int .u16 (n : Nat))).setR 2 (.func (.func 187) #[] #[.pointer (some ⟨P, 0, none⟩)])).setR 3 (.func (.func 188) #[] #[.pointer (some ⟨P, 0, none⟩)]))
        have hz := ((((((hR5.out.away (p := ⟨O, 2, none⟩) hne (.func (.func 187) #[] #[.pointer (some ⟨P, 0, none⟩)])).away (p := ⟨O, 3, none⟩) hne (.func (.func 188) #[] #[.pointer (some ⟨P, 0, none⟩)])).put 0 (.int .u8 80)).put 1 (.int .u16 (n : Nat))).put 2 (.func (.func 187) #[] #[.pointer (some ⟨P, 0, none⟩)])).put 3 (.func (.func 188) #[] #[.pointer (some ⟨P, 0, none⟩)]))
        have z0 := hz.cell 0
        have z1 := hz.cell 1
        have z2 := hz.cell 2
        have z3 := hz.cell 3
        simp only [List.getElem?_toArray, List.getElem?_cons_zero, List.getElem?_cons_succ, List.setIfInBounds_toArray, List.set_cons_zero, List.set_cons_succ] at z0 z1 z2 z3
        have hfin := Lib.hid (F.out (.returned (.agg #[.int .u8 ((80 : Nat) : Int), .int .u16 (n : Nat), (.func (.func 187) #[] #[.pointer (some ⟨P, 0, none⟩)]), (.func (.func 188) #[] #[.pointer (some ⟨P, 0, none⟩)])])) _ ⟨s', hg.t, hg.k, hh.out.2.2.1, .inl ⟨n, (.func (.func 187) #[] #[.pointer (some ⟨P, 0, none⟩)]), (.func (.func 188) #[] #[.pointer (some ⟨P, 0, none⟩)]), hh.out.1, hh.out.2.1, rfl, .inl ⟨hc2.out, P, rfl, rfl, ((((((hP5.out.away (p := ⟨O, 2, none⟩) (whole_apart hP5.out hO5.out (by decide)) (.func (.func 187) #[] #[.pointer (some ⟨P, 0, none⟩)])).away (p := ⟨O, 3, none⟩) (whole_apart hP5.out hO5.out (by decide)) (.func (.func 188) #[] #[.pointer (some ⟨P, 0, none⟩)])).away (p := ⟨R, 0, none⟩) (whole_apart hP5.out hR5.out (by decide)) (.int .u8 80)).away (p := ⟨R, 1, none⟩) (whole_apart hP5.out hR5.out (by decide)) (.int .u16 (n : Nat))).away (p := ⟨R, 2, none⟩) (whole_apart hP5.out hR5.out (by decide)) (.func (.func 187) #[] #[.pointer (some ⟨P, 0, none⟩)])).away (p := ⟨R, 3, none⟩) (whole_apart hP5.out hR5.out (by decide)) (.func (.func 188) #[] #[.pointer (some ⟨P, 0, none⟩)]))⟩⟩⟩)
        clear hg hz F
        go_wp2_with fail
        exact bodyPost_ret (v := .agg #[.int .u8 80, .int .u16 (n : Nat), (.func (.func 187) #[] #[.pointer (some ⟨P, 0, none⟩)]), (.func (.func 188) #[] #[.pointer (some ⟨P, 0, none⟩)])]) (by simp [results, Tryz.results136, go_sem, z0, z1, z2, z3]) rfl hfin.out
    · subst hc1
      have hbo : K.B ≤ O ∧ w.heap.size ≤ O := ⟨Nat.le_trans hBw hUO.out, by rw [hwz]; exact hUO.out⟩
      have hbr : K.B ≤ R ∧ w.heap.size ≤ R := by have := hL1.out; have := hR1.out; omega
      have hg := ((((((Gd.mk hT4.out hk4.out ⟨_, hO4.out⟩ ⟨_, hR4.out⟩ hbo hbr hne).setO 2 (.func (.func 189) #[] #[.pointer (some ⟨N, 0, none⟩)])).setR 0 (.int .u8 35)).setR 1 (.int .u16 (n : Nat))).setR 2 (.func (.func 189) #[] #[.pointer (some ⟨N, 0, none⟩)])).setR 3 .nilFunc)
      have hz := (((((hR4.out.away (p := ⟨O, 2, none⟩) hne (.func (.func 189) #[] #[.pointer (some ⟨N, 0, none⟩)])).put 0 (.int .u8 35)).put 1 (.int .u16 (n : Nat))).put 2 (.func (.func 189) #[] #[.pointer (some ⟨N, 0, none⟩)])).put 3 .nilFunc)
      have z0 := hz.cell 0
      have z1 := hz.cell 1
      have z2 := hz.cell 2
      have z3 := hz.cell 3
      simp only [List.getElem?_toArray, List.getElem?_cons_zero, List.getElem?_cons_succ, List.setIfInBounds_toArray, List.set_cons_zero, List.set_cons_succ] at z0 z1 z2 z3
      have hfin := Lib.hid (F.out (.returned (.agg #[.int .u8 ((35 : Nat) : Int), .int .u16 (n : Nat), (.func (.func 189) #[] #[.pointer (some ⟨N, 0, none⟩)]), .nilFunc])) _ ⟨s', hg.t, hg.k, hh.out.2.2.1, .inl ⟨n, (.func (.func 189) #[] #[.pointer (some ⟨N, 0, none⟩)]), .nilFunc, hh.out.1, hh.out.2.1, rfl, .inr (.inl ⟨rfl, N, rfl, (((((hN4.out.away (p := ⟨O, 2, none⟩) (whole_apart hN4.out hO4.out (by decide)) (.func (.func 189) #[] #[.pointer (some ⟨N, 0, none⟩)])).away (p := ⟨R, 0, none⟩) (whole_apart hN4.out hR4.out (by decide)) (.int .u8 35)).away (p := ⟨R, 1, none⟩) (whole_apart hN4.out hR4.out (by decide)) (.int .u16 (n : Nat))).away (p := ⟨R, 2, none⟩) (whole_apart hN4.out hR4.out (by decide)) (.func (.func 189) #[] #[.pointer (some ⟨N, 0, none⟩)])).away (p := ⟨R, 3, none⟩) (whole_apart hN4.out hR4.out (by decide)) .nilFunc), rfl⟩)⟩⟩)
      clear hg hz F
      go_wp2_with fail
      exact bodyPost_ret (v := .agg #[.int .u8 35, .int .u16 (n : Nat), (.func (.func 189) #[] #[.pointer (some ⟨N, 0, none⟩)]), .nilFunc]) (by simp [results, Tryz.results136, go_sem, z0, z1, z2, z3]) rfl hfin.out
    · have hc2 := Lib.hid hc1
      simp only [memL, List.mem_cons, List.not_mem_nil, or_false] at hc1
      rcases hc1 with rfl | rfl | rfl | rfl | rfl | rfl | rfl | rfl | rfl | rfl | rfl | rfl | rfl | rfl
      · have hbo : K.B ≤ O ∧ w.heap.size ≤ O := ⟨Nat.le_trans hBw hUO.out, by rw [hwz]; exact hUO.out⟩
        have hbr : K.B ≤ R ∧ w.heap.size ≤ R := by have := hL1.out; have := hR1.out; omega
        have hg := (((((((Gd.mk hT4.out hk4.out ⟨_, hO4.out⟩ ⟨_, hR4.out⟩ hbo hbr hne).setO 2 (.func (.func 190) #[] #[.pointer (some ⟨U, 0, none⟩), .pointer (some ⟨L, 0, none⟩), .pointer (some ⟨N, 0, none⟩)])).setO 3 (.func (.func 192) #[] #[.pointer (some ⟨U, 0, none⟩), .pointer (some ⟨L, 0, none⟩), .pointer (some ⟨N, 0, none⟩)])).setR 0 (.int .u8 100)).setR 1 (.int .u16 (n : Nat))).setR 2 (.func (.func 190) #[] #[.pointer (some ⟨U, 0, none⟩), .pointer (some ⟨L, 0, none⟩), .pointer (some ⟨N, 0, none⟩)])).setR 3 (.func (.func 192) #[] #[.pointer (some ⟨U, 0, none⟩), .pointer (some ⟨L, 0, none⟩), .pointer (some ⟨N, 0, none⟩)]))
        have hz := ((((((hR4.out.away (p := ⟨O, 2, none⟩) hne (.func (.func 190) #[] #[.pointer (some ⟨U, 0, none⟩), .pointer (some ⟨L, 0, none⟩), .pointer (some ⟨N, 0, none⟩)])).away (p := ⟨O, 3, none⟩) hne (.func (.func 192) #[] #[.pointer (some ⟨U, 0, none⟩), .pointer (some ⟨L, 0, none⟩), .pointer (some ⟨N, 0, none⟩)])).put 0 (.int .u8 100)).put 1 (.int .u16 (n : Nat))).put 2 (.func (.func 190) #[] #[.pointer (some ⟨U, 0, none⟩), .pointer (some ⟨L, 0, none⟩), .pointer (some ⟨N, 0, none⟩)])).put 3 (.func (.func 192) #[] #[.pointer (some ⟨U, 0, none⟩), .pointer (some ⟨L, 0, none⟩), .pointer (some ⟨N, 0, none⟩)]))
        have z0 := hz.cell 0
        have z1 := hz.cell 1
        have z2 := hz.cell 2
        have z3 := hz.cell 3
        simp only [List.getElem?_toArray, List.getElem?_cons_zero, List.getElem?_cons_succ, List.setIfInBounds_toArray, List.set_cons_zero, List.set_cons_succ] at z0 z1 z2 z3
        have hfin := Lib.hid (F.out (.returned (.agg #[.int .u8 ((100 : Nat) : Int), .int .u16 (n : Nat), (.func (.func 190) #[] #[.pointer (some ⟨U, 0, none⟩), .pointer (some ⟨L, 0, none⟩), .pointer (some ⟨N, 0, none⟩)]), (.func (.func 192) #[] #[.pointer (some ⟨U, 0, none⟩), .pointer (some ⟨L, 0, none⟩), .pointer (some ⟨N, 0, none⟩)])])) _ ⟨s', hg.t, hg.k, hh.out.2.2.1, .inl ⟨n, (.func (.func 190) #[] #[.pointer (some ⟨U, 0, none⟩), .pointer (some ⟨L, 0, none⟩), .pointer (some ⟨N, 0, none⟩)]), (.func (.func 192) #[] #[.pointer (some ⟨U, 0, none⟩), .pointer (some ⟨L, 0, none⟩), .pointer (some ⟨N, 0, none⟩)]), hh.out.1, hh.out.2.1, rfl, .inr (.inr (.inl ⟨hc2.out, U, L, N, rfl, rfl, ((((((hU4.out.away (p := ⟨O, 2, none⟩) (whole_apart hU4.out hO4.out (by decide)) (.func (.func 190) #[] #[.pointer (some ⟨U, 0, none⟩), .pointer (some ⟨L, 0, none⟩), .pointer (some ⟨N, 0, none⟩)])).away (p := ⟨O, 3, none⟩) (whole_apart hU4.out hO4.out (by decide)) (.func (.func 192) #[] #[.pointer (some ⟨U, 0, none⟩), .pointer (some ⟨L, 0, none⟩), .pointer (some ⟨N, 0, none⟩)])).away (p := ⟨R, 0, none⟩) (whole_apart hU4.out hR4.out (by decide)) (.int .u8 100)).away (p := ⟨R, 1, none⟩) (whole_apart hU4.out hR4.out (by decide)) (.int .u16 (n : Nat))).away (p := ⟨R, 2, none⟩) (whole_apart hU4.out hR4.out (by decide)) (.func (.func 190) #[] #[.pointer (some ⟨U, 0, none⟩), .pointer (some ⟨L, 0, none⟩), .pointer (some ⟨N, 0, none⟩)])).away (p := ⟨R, 3, none⟩) (whole_apart hU4.out hR4.out (by decide)) (.func (.func 192) #[] #[.pointer (some ⟨U, 0, none⟩), .pointer (some ⟨L, 0, none⟩), .pointer (some ⟨N, 0, none⟩)])), ((((((hL4.out.away (p := ⟨O, 2, none⟩) (whole_apart hL4.out hO4.out (by decide)) (.func (.func 190) #[] #[.pointer (some ⟨U, 0, none⟩), .pointer (some ⟨L, 0, none⟩), .pointer (some ⟨N, 0, none⟩)])).away (p := ⟨O, 3, none⟩) (whole_apart hL4.out hO4.out (by decide)) (.func (.func 192) #[] #[.pointer (some ⟨U, 0, none⟩), .pointer (some ⟨L, 0, none⟩), .pointer (some ⟨N, 0, none⟩)])).away (p := ⟨R, 0, none⟩) (whole_apart hL4.out hR4.out (by decide)) (.int .u8 100)).away (p := ⟨R, 1, none⟩) (whole_apart hL4.out hR4.out (by decide)) (.int .u16 (n : Nat))).away (p := ⟨R, 2, none⟩) (whole_apart hL4.out hR4.out (by decide)) (.func (.func 190) #[] #[.pointer (some ⟨U, 0, none⟩), .pointer (some ⟨L, 0, none⟩), .pointer (some ⟨N, 0, none⟩)])).away (p := ⟨R, 3, none⟩) (whole_apart hL4.out hR4.out (by decide)) (.func (.func 192) #[] #[.pointer (some ⟨U, 0, none⟩), .pointer (some ⟨L, 0, none⟩), .pointer (some ⟨N, 0, none⟩)])), ((((((hN4.out.away (p := ⟨O, 2, none⟩) (whole_apart hN4.out hO4.out (by decide)) (.func (.func 190) #[] #[.pointer (some ⟨U, 0, none⟩), .pointer (some ⟨L, 0, none⟩), .pointer (some ⟨N, 0, none⟩)])).away (p := ⟨O, 3, none⟩) (whole_apart hN4.out hO4.out (by decide)) (.func (.func 192) #[] #[.pointer (some ⟨U, 0, none⟩), .pointer (some ⟨L, 0, none⟩), .pointer (some ⟨N, 0, none⟩)])).away (p := ⟨R, 0, none⟩) (whole_apart hN4.out hR4.out (by decide)) (.int .u8 100)).away (p := ⟨R, 1, none⟩) (whole_apart hN4.out hR4.out (by decide)) (.int .u16 (n : Nat))).away (p := ⟨R, 2, none⟩) (whole_apart hN4.out hR4.out (by decide)) (.func (.func 190) #[] #[.pointer (some ⟨U, 0, none⟩), .pointer (some ⟨L, 0, none⟩), .pointer (some ⟨N, 0, none⟩)])).away (p := ⟨R, 3, none⟩) (whole_apart hN4.out hR4.out (by decide)) (.func (.func 192) #[] #[.pointer (some ⟨U, 0, none⟩), .pointer (some ⟨L, 0, none⟩), .pointer (some ⟨N, 0, none⟩)]))⟩))⟩⟩)
        clear hg hz F
        go_wp2_with fail
        exact bodyPost_ret (v := .agg #[.int .u8 100, .int .u16 (n : Nat), (.func (.func 190) #[] #[.pointer (some ⟨U, 0, none⟩), .pointer (some ⟨L, 0, none⟩), .pointer (some ⟨N, 0, none⟩)]), (.func (.func 192) #[] #[.pointer (some ⟨U, 0, none⟩), .pointer (some ⟨L, 0, none⟩), .pointer (some ⟨N, 0, none⟩)])]) (by simp [results, Tryz.results136, go_sem, z0, z1, z2, z3]) rfl hfin.out
      · have hbo : K.B ≤ O ∧ w.heap.size ≤ O := ⟨Nat.le_trans hBw hUO.out, by rw [hwz]; exact hUO.out⟩
        have hbr : K.B ≤ R ∧ w.heap.size ≤ R := by have := hL1.out; have := hR1.out; omega
        have hg := (((((((Gd.mk hT4.out hk4.out ⟨_, hO4.out⟩ ⟨_, hR4.out⟩ hbo hbr hne).setO 2 (.func (.func 190) #[] #[.pointer (some ⟨U, 0, none⟩), .pointer (some ⟨L, 0, none⟩), .pointer (some ⟨N, 0, none⟩)])).setO 3 (.func (.func 192) #[] #[.pointer (some ⟨U, 0, none⟩), .pointer (some ⟨L, 0, none⟩), .pointer (some ⟨N, 0, none⟩)])).setR 0 (.int .u8 120)).setR 1 (.int .u16 (n : Nat))).setR 2 (.func (.func 190) #[] #[.pointer (some ⟨U, 0, none⟩), .pointer (some ⟨L, 0, none⟩), .pointer (some ⟨N, 0, none⟩)])).setR 3 (.func (.func 192) #[] #[.pointer (some ⟨U, 0, none⟩), .pointer (some ⟨L, 0, none⟩), .pointer (some ⟨N, 0, none⟩)]))
        have hz := ((((((hR4.out.away (p := ⟨O, 2, none⟩) hne (.func (.func 190) #[] #[.pointer (some ⟨U, 0, none⟩), .pointer (some ⟨L, 0, none⟩), .pointer (some ⟨N, 0, none⟩)])).away (p := ⟨O, 3, none⟩) hne (.func (.func 192) #[] #[.pointer (some ⟨U, 0, none⟩), .pointer (some ⟨L, 0, none⟩), .pointer (some ⟨N, 0, none⟩)])).put 0 (.int .u8 120)).put 1 (.int .u16 (n : Nat))).put 2 (.func (.func 190) #[] #[.pointer (some ⟨U, 0, none⟩), .pointer (some ⟨L, 0, none⟩), .pointer (some ⟨N, 0, none⟩)])).put 3 (.func (.func 192) #[] #[.pointer (some ⟨U, 0, none⟩), .pointer (some ⟨L, 0, none⟩), .pointer (some ⟨N, 0, none⟩)]))
        have z0 := hz.cell 0
        have z1 := hz.cell 1
        have z2 := hz.cell 2
        have z3 := hz.cell 3
        simp only [List.getElem?_toArray, List.getElem?_cons_zero, List.getElem?_cons_succ, List.setIfInBounds_toArray, List.set_cons_zero, List.set_cons_succ] at z0 z1 z2 z3
        have hfin := Lib.hid (F.out (.returned (.agg #[.int .u8 ((120 : Nat) : Int), .int .u16 (n : Nat), (.func (.func 190) #[] #[.pointer (some ⟨U, 0, none⟩), .pointer (some ⟨L, 0, none⟩), .pointer (some ⟨N, 0, none⟩)]), (.func (.func 192) #[] #[.pointer (some ⟨U, 0, none⟩), .pointer (some ⟨L, 0, none⟩), .pointer (some ⟨N, 0, none⟩)])])) _ ⟨s', hg.t, hg.k, hh.out.2.2.1, .inl ⟨n, (.func (.func 190) #[] #[.pointer (some ⟨U, 0, none⟩), .pointer (some ⟨L, 0, none⟩), .pointer (some ⟨N, 0, none⟩)]), (.func (.func 192) #[] #[.pointer (some ⟨U, 0, none⟩), .pointer (some ⟨L, 0, none⟩), .pointer (some ⟨N, 0, none⟩)]), hh.out.1, hh.out.2.1, rfl, .inr (.inr (.inl ⟨hc2.out, U, L, N, rfl, rfl, ((((((hU4.out.away (p := ⟨O, 2, none⟩) (whole_apart hU4.out hO4.out (by decide)) (.func (.func 190) #[] #[.pointer (some ⟨U, 0, none⟩), .pointer (some ⟨L, 0, none⟩), .pointer (some ⟨N, 0, none⟩)])).away (p := ⟨O, 3, none⟩) (whole_apart hU4.out hO4.out (by decide)) (.func (.func 192) #[] #[.pointer (some ⟨U, 0, none⟩), .pointer (some ⟨L, 0, none⟩), .pointer (some ⟨N, 0, none⟩)])).away (p := ⟨R, 0, none⟩) (whole_apart hU4.out hR4.out (by decide)) (.int .u8 120)).away (p := ⟨R, 1, none⟩) (whole_apart hU4.out hR4.out (by decide)) (.int .u16 (n : Nat))).away (p := ⟨R, 2, none⟩) (whole_apart hU4.out hR4.out (by decide)) (.func (.func 190) #[] #[.pointer (some ⟨U, 0, none⟩), .pointer (some ⟨L, 0, none⟩), .pointer (some ⟨N, 0, none⟩)])).away (p := ⟨R, 3, none⟩) (whole_apart hU4.out hR4.out (by decide)) (.func (.func 192) #[] #[.pointer (some ⟨U, 0, none⟩), .pointer (some ⟨L, 0, none⟩), .pointer (some ⟨N, 0, none⟩)])), ((((((hL4.out.away (p := ⟨O, 2, none⟩) (whole_apart hL4.out hO4.out (by decide)) (.func (.func 190) #[] #[.pointer (some ⟨U, 0, none⟩), .pointer (some ⟨L, 0, none⟩), .pointer (some ⟨N, 0, none⟩)])).away (p := ⟨O, 3, none⟩) (whole_apart hL4.out hO4.out (by decide)) (.func (.func 192) #[] #[.pointer (some ⟨U, 0, none⟩), .pointer (some ⟨L, 0, none⟩), .pointer (some ⟨N, 0, none⟩)])).away (p := ⟨R, 0, none⟩) (whole_apart hL4.out hR4.out (by decide)) (.int .u8 120)).away (p := ⟨R, 1, none⟩) (whole_apart hL4.out hR4.out (by decide)) (.int .u16 (n : Nat))).away (p := ⟨R, 2, none⟩) (whole_apart hL4.out hR4.out (by decide)) (.func (.func 190) #[] #[.pointer (some ⟨U, 0, none⟩), .pointer (some ⟨L, 0, none⟩), .pointer (some ⟨N, 0, none⟩)])).away (p := ⟨R, 3, none⟩) (whole_apart hL4.out hR4.out (by decide)) (.func (.func 192) #[] #[.pointer (some ⟨U, 0, none⟩), .pointer (some ⟨L, 0, none⟩), .pointer (some ⟨N, 0, none⟩)])), ((((((hN4.out.away (p := ⟨O, 2, none⟩) (whole_apart hN4.out hO4.out (by decide)) (.func (.func 190) #[] #[.pointer (some ⟨U, 0, none⟩), .pointer (some ⟨L, 0, none⟩), .pointer (some ⟨N, 0, none⟩)])).away (p := ⟨O, 3, none⟩) (whole_apart hN4.out hO4.out (by decide)) (.func (.func 192) #[] #[.pointer (some ⟨U, 0, none⟩), .pointer (some ⟨L, 0, none⟩), .pointer (some ⟨N, 0, none⟩)])).away (p := ⟨R, 0, none⟩) (whole_apart hN4.out hR4.out (by decide)) (.int .u8 120)).away (p := ⟨R, 1, none⟩) (whole_apart hN4.out hR4.out (by decide)) (.int .u16 (n : Nat))).away (p := ⟨R, 2, none⟩) (whole_apart hN4.out hR4.out (by decide)) (.func (.func 190) #[] #[.pointer (some ⟨U, 0, none⟩), .pointer (some ⟨L, 0, none⟩), .pointer (some ⟨N, 0, none⟩)])).away (p := ⟨R, 3, none⟩) (whole_apart hN4.out hR4.out (by decide)) (.func (.func 192) #[] #[.pointer (some ⟨U, 0, none⟩), .pointer (some ⟨L, 0, none⟩), .pointer (some ⟨N, 0, none⟩)]))⟩))⟩⟩)
        clear hg hz F
        go_wp2_with fail
        exact bodyPost_ret (v := .agg #[.int .u8 120, .int .u16 (n : Nat), (.func (.func 190) #[] #[.pointer (some ⟨U, 0, none⟩), .pointer (some ⟨L, 0, none⟩), .pointer (some ⟨N, 0, none⟩)]), (.func (.func 192) #[] #[.pointer (some ⟨U, 0, none⟩), .pointer (some ⟨L, 0, none⟩), .pointer (some ⟨N, 0, none⟩)])]) (by simp [results, Tryz.results136, go_sem, z0, z1, z2, z3]) rfl hfin.out
      · have hbo : K.B ≤ O ∧ w.heap.size ≤ O := ⟨Nat.le_trans hBw hUO.out, by rw [hwz]; exact hUO.out⟩
        have hbr : K.B ≤ R ∧ w.heap.size ≤ R := by have := hL1.out; have := hR1.out; omega
        have hg := (((((((Gd.mk hT4.out hk4.out ⟨_, hO4.out⟩ ⟨_, hR4.out⟩ hbo hbr hne).setO 2 (.func (.func 190) #[] #[.pointer (some ⟨U, 0, none⟩), .pointer (some ⟨L, 0, none⟩), .pointer (some ⟨N, 0, none⟩)])).setO 3 (.func (.func 192) #[] #[.pointer (some ⟨U, 0, none⟩), .pointer (some ⟨L, 0, none⟩), .pointer (some ⟨N, 0, none⟩)])).setR 0 (.int .u8 121)).setR 1 (.int .u16 (n : Nat))).setR 2 (.func (.func 190) #[] #[.pointer (some ⟨U, 0, none⟩), .pointer (some ⟨L, 0, none⟩), .pointer (some ⟨N, 0, none⟩)])).setR 3 (.func (.func 192) #[] #[.pointer (some ⟨U, 0, none⟩), .pointer (some ⟨L, 0, none⟩), .pointer (some ⟨N, 0, none⟩)]))
        have hz := ((((((hR4.out.away (p := ⟨O, 2, none⟩) hne (.func (.func 190) #[] #[.pointer (some ⟨U, 0, none⟩), .pointer (some ⟨L, 0, none⟩), .pointer (some ⟨N, 0, none⟩)])).away (p := ⟨O, 3, none⟩) hne (.func (.func 192) #[] #[.pointer (some ⟨U, 0, none⟩), .pointer (some ⟨L, 0, none⟩), .pointer (some ⟨N, 0, none⟩)])).put 0 (.int .u8 121)).put 1 (.int .u16 (n : Nat))).put 2 (.func (.func 190) #[] #[.pointer (some ⟨U, 0, none⟩), .pointer (some ⟨L, 0, none⟩), .pointer (some ⟨N, 0, none⟩)])).put 3 (.func (.func 192) #[] #[.pointer (some ⟨U, 0, none⟩), .pointer (some ⟨L, 0, none⟩), .pointer (some ⟨N, 0, none⟩)]))
        have z0 := hz.cell 0
        have z1 := hz.cell 1
        have z2 := hz.cell 2
        have z3 := hz.cell 3
        simp only [List.getElem?_toArray, List.getElem?_cons_zero, List.getElem?_cons_succ, List.setIfInBounds_toArray, List.set_cons_zero, List.set_cons_succ] at z0 z1 z2 z3
        have hfin := Lib.hid (F.out (.returned (.agg #[.int .u8 ((121 : Nat) : Int), .int .u16 (n : Nat), (.func (.func 190) #[] #[.pointer (some ⟨U, 0, none⟩), .pointer (some ⟨L, 0, none⟩), .pointer (some ⟨N, 0, none⟩)]), (.func (.func 192) #[] #[.pointer (some ⟨U, 0, none⟩), .pointer (some ⟨L, 0, none⟩), .pointer (some ⟨N, 0, none⟩)])])) _ ⟨s', hg.t, hg.k, hh.out.2.2.1, .inl ⟨n, (.func (.func 190) #[] #[.pointer (some ⟨U, 0, none⟩), .pointer (some ⟨L, 0, none⟩), .pointer (some ⟨N, 0, none⟩)]), (.func (.func 192) #[] #[.pointer (some ⟨U, 0, none⟩), .pointer (some ⟨L, 0, none⟩), .pointer (some ⟨N, 0, none⟩)]), hh.out.1, hh.out.2.1, rfl, .inr (.inr (.inl ⟨hc2.out, U, L, N, rfl, rfl, ((((((hU4.out.away (p := ⟨O, 2, none⟩) (whole_apart hU4.out hO4.out (by decide)) (.func (.func 190) #[] #[.pointer (some ⟨U, 0, none⟩), .pointer (some ⟨L, 0, none⟩), .pointer (some ⟨N, 0, none⟩)])).away (p := ⟨O, 3, none⟩) (whole_apart hU4.out hO4.out (by decide)) (.func (.func 192) #[] #[.pointer (some ⟨U, 0, none⟩), .pointer (some ⟨L, 0, none⟩), .pointer (some ⟨N, 0, none⟩)])).away (p := ⟨R, 0, none⟩) (whole_apart hU4.out hR4.out (by decide)) (.int .u8 121)).away (p := ⟨R, 1, none⟩) (whole_apart hU4.out hR4.out (by decide)) (.int .u16 (n : Nat))).away (p := ⟨R, 2, none⟩) (whole_apart hU4.out hR4.out (by decide)) (.func (.func 190) #[] #[.pointer (some ⟨U, 0, none⟩), .pointer (some ⟨L, 0, none⟩), .pointer (some ⟨N, 0, none⟩)])).away (p := ⟨R, 3, none⟩) (whole_apart hU4.out hR4.out (by decide)) (.func (.func 192) #[] #[.pointer (some ⟨U, 0, none⟩), .pointer (some ⟨L, 0, none⟩), .pointer (some ⟨N, 0, none⟩)])), ((((((hL4.out.away (p := ⟨O, 2, none⟩) (whole_apart hL4.out hO4.out (by decide)) (.func (.func 190) #[] #[.pointer (some ⟨U, 0, none⟩), .pointer (some ⟨L, 0, none⟩), .pointer (some ⟨N, 0, none⟩)])).away (p := ⟨O, 3, none⟩) (whole_apart hL4.out hO4.out (by decide)) (.func (.func 192) #[] #[.pointer (some ⟨U, 0, none⟩), .pointer (some ⟨L, 0, none⟩), .pointer (some ⟨N, 0, none⟩)])).away (p := ⟨R, 0, none⟩) (whole_apart hL4.out hR4.out (by decide)) (.int .u8 121)).away (p := ⟨R, 1, none⟩) (whole_apart hL4.out hR4.out (by decide)) (.int .u16 (n : Nat))).away (p := ⟨R, 2, none⟩) (whole_apart hL4.out hR4.out (by decide)) (.func (.func 190) #[] #[.pointer (some ⟨U, 0, none⟩), .pointer (some ⟨L, 0, none⟩), .pointer (some ⟨N, 0, none⟩)])).away (p := ⟨R, 3, none⟩) (whole_apart hL4.out hR4.out (by decide)) (.func (.func 192) #[] #[.pointer (some ⟨U, 0, none⟩), .pointer (some ⟨L, 0, none⟩), .pointer (some ⟨N, 0, none⟩)])), ((((((hN4.out.away (p := ⟨O, 2, none⟩) (whole_apart hN4.out hO4.out (by decide)) (.func (.func 190) #[] #[.pointer (some ⟨U, 0, none⟩), .pointer (some ⟨L, 0, none⟩), .pointer (some ⟨N, 0, none⟩)])).away (p := ⟨O, 3, none⟩) (whole_apart hN4.out hO4.out (by decide)) (.func (.func 192) #[] #[.pointer (some ⟨U, 0, none⟩), .pointer (some ⟨L, 0, none⟩), .pointer (some ⟨N, 0, none⟩)])).away (p := ⟨R, 0, none⟩) (whole_apart hN4.out hR4.out (by decide)) (.int .u8 121)).away (p := ⟨R, 1, none⟩) (whole_apart hN4.out hR4.out (by decide)) (.int .u16 (n : Nat))).away (p := ⟨R, 2, none⟩) (whole_apart hN4.out hR4.out (by decide)) (.func (.func 190) #[] #[.pointer (some ⟨U, 0, none⟩), .pointer (some ⟨L, 0, none⟩), .pointer (some ⟨N, 0, none⟩)])).away (p := ⟨R, 3, none⟩) (whole_apart hN4.out hR4.out (by decide)) (.func (.func 192) #[] #[.pointer (some ⟨U, 0, none⟩), .pointer (some ⟨L, 0, none⟩), .pointer (some ⟨N, 0, none⟩)]))⟩))⟩⟩)
        clear hg hz F
        go_wp2_with fail
        exact bodyPost_ret (v := .agg #[.int .u8 121, .int .u16 (n : Nat), (.func (.func 190) #[] #[.pointer (some ⟨U, 0, none⟩), .pointer (some ⟨L, 0, none⟩), .pointer (some ⟨N, 0, none⟩)]), (.func (.func 192) #[] #[.pointer (some ⟨U, 0, none⟩), .pointer (some ⟨L, 0, none⟩), .pointer (some ⟨N, 0, none⟩)])]) (by simp [results, Tryz.results136, go_sem, z0, z1, z2, z3]) rfl hfin.out
      · have hbo : K.B ≤ O ∧ w.heap.size ≤ O := ⟨Nat.le_trans hBw hUO.out, by rw [hwz]; exact hUO.out⟩
        have hbr : K.B ≤ R ∧ w.heap.size ≤ R := by have := hL1.out; have := hR1.out; omega
        have hg := (((((((Gd.mk hT4.out hk4.out ⟨_, hO4.out⟩ ⟨_, hR4.out⟩ hbo hbr hne).setO 2 (.func (.func 190) #[] #[.pointer (some ⟨U, 0, none⟩), .pointer (some ⟨L, 0, none⟩), .pointer (some ⟨N, 0, none⟩)])).setO 3 (.func (.func 192) #[] #[.pointer (some ⟨U, 0, none⟩), .pointer (some ⟨L, 0, none⟩), .pointer (some ⟨N, 0, none⟩)])).setR 0 (.int .u8 105)).setR 1 (.int .u16 (n : Nat))).setR 2 (.func (.func 190) #[] #[.pointer (some ⟨U, 0, none⟩), .pointer (some ⟨L, 0, none⟩), .pointer (some ⟨N, 0, none⟩)])).setR 3 (.func (.func 192) #[] #[.pointer (some ⟨U, 0, none⟩), .pointer (some ⟨L, 0, none⟩), .pointer (some ⟨N, 0, none⟩)]))
        have hz := ((((((hR4.out.away (p := ⟨O, 2, none⟩) hne (.func (.func 190) #[] #[.pointer (some ⟨U, 0, none⟩), .pointer (some ⟨L, 0, none⟩), .pointer (some ⟨N, 0, none⟩)])).away (p := ⟨O, 3, none⟩) hne (.func (.func 192) #[] #[.pointer (some ⟨U, 0, none⟩), .pointer (some ⟨L, 0, none⟩), .pointer (some ⟨N, 0, none⟩)])).put 0 (.int .u8 105)).put 1 (.int .u16 (n : Nat))).put 2 (.func (.func 190) #[] #[.pointer (some ⟨U, 0, none⟩), .pointer (some ⟨L, 0, none⟩), .pointer (some ⟨N, 0, none⟩)])).put 3 (.func (.func 192) #[] #[.pointer (some ⟨U, 0, none⟩), .pointer (some ⟨L, 0, none⟩), .pointer (some ⟨N, 0, none⟩)]))
        have z0 := hz.cell 0
        have z1 := hz.cell 1
        have z2 := hz.cell 2
        have z3 := hz.cell 3
        simp only [List.getElem?_toArray, List.getElem?_cons_zero, List.getElem?_cons_succ, List.setIfInBounds_toArray, List.set_cons_zero, List.set_cons_succ] at z0 z1 z2 z3
        have hfin := Lib.hid (F.out (.returned (.agg #[.int .u8 ((105 : Nat) : Int), .int .u16 (n : Nat), (.func (.func 190) #[] #[.pointer (some ⟨U, 0, none⟩), .pointer (some ⟨L, 0, none⟩), .pointer (some ⟨N, 0, none⟩)]), (.func (.func 192) #[] #[.pointer (some ⟨U, 0, none⟩), .pointer (some ⟨L, 0, none⟩), .pointer (some ⟨N, 0, none⟩)])])) _ ⟨s', hg.t, hg.k, hh.out.2.2.1, .inl ⟨n, (.func (.func 190) #[] #[.pointer (some ⟨U, 0, none⟩), .pointer (some ⟨L, 0, none⟩), .pointer (some ⟨N, 0, none⟩)]), (.func (.func 192) #[] #[.pointer (some ⟨U, 0, none⟩), .pointer (some ⟨L, 0, none⟩), .pointer (some ⟨N, 0, none⟩)]), hh.out.1, hh.out.2.1, rfl, .inr (.inr (.inl ⟨hc2.out, U, L, N, rfl, rfl, ((((((hU4.out.away (p := ⟨O, 2, none⟩) (whole_apart hU4.out hO4.out (by decide)) (.func (.func 190) #[] #[.pointer (some ⟨U, 0, none⟩), .pointer (some ⟨L, 0, none⟩), .pointer (some ⟨N, 0, none⟩)])).away (p := ⟨O, 3, none⟩) (whole_apart hU4.out hO4.out (by decide)) (.func (.func 192) #[] #[.pointer (some ⟨U, 0, none⟩), .pointer (some ⟨L, 0, none⟩), .pointer (some ⟨N, 0, none⟩)])).away (p := ⟨R, 0, none⟩) (whole_apart hU4.out hR4.out (by decide)) (.int .u8 105)).away (p := ⟨R, 1, none⟩) (whole_apart hU4.out hR4.out (by decide)) (.int .u16 (n : Nat))).away (p := ⟨R, 2, none⟩) (whole_apart hU4.out hR4.out (by decide)) (.func (.func 190) #[] #[.pointer (some ⟨U, 0, none⟩), .pointer (some ⟨L, 0, none⟩), .pointer (some ⟨N, 0, none⟩)])).away (p := ⟨R, 3, none⟩) (whole_apart hU4.out hR4.out (by decide)) (.func (.func 192) #[] #[.pointer (some ⟨U, 0, none⟩), .pointer (some ⟨L, 0, none⟩), .pointer (some ⟨N, 0, none⟩)])), ((((((hL4.out.away (p := ⟨O, 2, none⟩) (whole_apart hL4.out hO4.out (by decide)) (.func (.func 190) #[] #[.pointer (some ⟨U, 0, none⟩), .pointer (some ⟨L, 0, none⟩), .pointer (some ⟨N, 0, none⟩)])).away (p := ⟨O, 3, none⟩) (whole_apart hL4.out hO4.out (by decide)) (.func (.func 192) #[] #[.pointer (some ⟨U, 0, none⟩), .pointer (some ⟨L, 0, none⟩), .pointer (some ⟨N, 0, none⟩)])).away (p := ⟨R, 0, none⟩) (whole_apart hL4.out hR4.out (by decide)) (.int .u8 105)).away (p := ⟨R, 1, none⟩) (whole_apart hL4.out hR4.out (by decide)) (.int .u16 (n : Nat))).away (p := ⟨R, 2, none⟩) (whole_apart hL4.out hR4.out (by decide)) (.func (.func 190) #[] #[.pointer (some ⟨U, 0, none⟩), .pointer (some ⟨L, 0, none⟩), .pointer (some ⟨N, 0, none⟩)])).away (p := ⟨R, 3, none⟩) (whole_apart hL4.out hR4.out (by decide)) (.func (.func 192) #[] #[.pointer (some ⟨U, 0, none⟩), .pointer (some ⟨L, 0, none⟩), .pointer (some ⟨N, 0, none⟩)])), ((((((hN4.out.away (p := ⟨O, 2, none⟩) (whole_apart hN4.out hO4.out (by decide)) (.func (.func 190) #[] #[.pointer (some ⟨U, 0, none⟩), .pointer (some ⟨L, 0, none⟩), .pointer (some ⟨N, 0, none⟩)])).away (p := ⟨O, 3, none⟩) (whole_apart hN4.out hO4.out (by decide)) (.func (.func 192) #[] #[.pointer (some ⟨U, 0, none⟩), .pointer (some ⟨L, 0, none⟩), .pointer (some ⟨N, 0, none⟩)])).away (p := ⟨R, 0, none⟩) (whole_apart hN4.out hR4.out (by decide)) (.int .u8 105)).away (p := ⟨R, 1, none⟩) (whole_apart hN4.out hR4.out (by decide)) (.int .u16 (n : Nat))).away (p := ⟨R, 2, none⟩) (whole_apart hN4.out hR4.out (by decide)) (.func (.func 190) #[] #[.pointer (some ⟨U, 0, none⟩), .pointer (some ⟨L, 0, none⟩), .pointer (some ⟨N, 0, none⟩)])).away (p := ⟨R, 3, none⟩) (whole_apart hN4.out hR4.out (by decide)) (.func (.func 192) #[] #[.pointer (some ⟨U, 0, none⟩), .pointer (some ⟨L, 0, none⟩), .pointer (some ⟨N, 0, none⟩)]))⟩))⟩⟩)
        clear hg hz F
        go_wp2_with fail
        exact bodyPost_ret (v := .agg #[.int .u8 105, .int .u16 (n : Nat), (.func (.func 190) #[] #[.pointer (some ⟨U, 0, none⟩), .pointer (some ⟨L, 0, none⟩), .pointer (some ⟨N, 0, none⟩)]), (.func (.func 192) #[] #[.pointer (some ⟨U, 0, none⟩), .pointer (some ⟨L, 0, none⟩), .pointer (some ⟨N, 0, none⟩)])]) (by simp [results, Tryz.results136, go_sem, z0, z1, z2, z3]) rfl hfin.out
      · have hbo : K.B ≤ O ∧ w.heap.size ≤ O := ⟨Nat.le_trans hBw hUO.out, by rw [hwz]; exact hUO.out⟩
        have hbr : K.B ≤ R ∧ w.heap.size ≤ R := by have := hL1.out; have := hR1.out; omega
        have hg := (((((((Gd.mk hT4.out hk4.out ⟨_, hO4.out⟩ ⟨_, hR4.out⟩ hbo hbr hne).setO 2 (.func (.func 190) #[] #[.pointer (some ⟨U, 0, none⟩), .pointer (some ⟨L, 0, none⟩), .pointer (some ⟨N, 0, none⟩)])).setO 3 (.func (.func 192) #[] #[.pointer (some ⟨U, 0, none⟩), .pointer (some ⟨L, 0, none⟩), .pointer (some ⟨N, 0, none⟩)])).setR 0 (.int .u8 106)).setR 1 (.int .u16 (n : Nat))).setR 2 (.func (.func 190) #[] #[.pointer (some ⟨U, 0, none⟩), .pointer (some ⟨L, 0, none⟩), .pointer (some ⟨N, 0, none⟩)])).setR 3 (.func (.func 192) #[] #[.pointer (some ⟨U, 0, none⟩), .pointer (some ⟨L, 0, none⟩), .pointer (some ⟨N, 0, none⟩)]))
        have hz := ((((((hR4.out.away (p := ⟨O, 2, none⟩) hne (.func (.func 190) #[] #[.pointer (some ⟨U, 0, none⟩), .pointer (some ⟨L, 0, none⟩), .pointer (some ⟨N, 0, none⟩)])).away (p := ⟨O, 3, none⟩) hne (.func (.func 192) #[] #[.pointer (some ⟨U, 0, none⟩), .pointer (some ⟨L, 0, none⟩), .pointer (some ⟨N, 0, none⟩)])).put 0 (.int .u8 106)).put 1 (.int .u16 (n : Nat))).put 2 (.func (.func 190) #[] #[.pointer (some ⟨U, 0, none⟩), .pointer (some ⟨L, 0, none⟩), .pointer (some ⟨N, 0, none⟩)])).put 3 (.func (.func 192) #[] #[.pointer (some ⟨U, 0, none⟩), .pointer (some ⟨L, 0, none⟩), .pointer (some ⟨N, 0, none⟩)]))
        have z0 := hz.cell 0
        have z1 := hz.cell 1
        have z2 := hz.cell 2
        have z3 := hz.cell 3
        simp only [List.getElem?_toArray, List.getElem?_cons_zero, List.getElem?_cons_succ, List.setIfInBounds_toArray, List.set_cons_zero, List.set_cons_succ] at z0 z1 z2 z3
        have hfin := Lib.hid (F.out (.returned (.agg #[.int .u8 ((106 : Nat) : Int), .int .u16 (n : Nat), (.func (.func 190) #[] #[.pointer (some ⟨U, 0, none⟩), .pointer (some ⟨L, 0, none⟩), .pointer (some ⟨N, 0, none⟩)]), (.func (.func 192) #[] #[.pointer (some ⟨U, 0, none⟩), .pointer (some ⟨L, 0, none⟩), .pointer (some ⟨N, 0, none⟩)])])) _ ⟨s', hg.t, hg.k, hh.out.2.2.1, .inl ⟨n, (.func (.func 190) #[] #[.pointer (some ⟨U, 0, none⟩), .pointer (some ⟨L, 0, none⟩), .pointer (some ⟨N, 0, none⟩)]), (.func (.func 192) #[] #[.pointer (some ⟨U, 0, none⟩), .pointer (some ⟨L, 0, none⟩), .pointer (some ⟨N, 0, none⟩)]), hh.out.1, hh.out.2.1, rfl, .inr (.inr (.inl ⟨hc2.out, U, L, N, rfl, rfl, ((((((hU4.out.away (p := ⟨O, 2, none⟩) (whole_apart hU4.out hO4.out (by decide)) (.func (.func 190) #[] #[.pointer (some ⟨U, 0, none⟩), .pointer (some ⟨L, 0, none⟩), .pointer (some ⟨N, 0, none⟩)])).away (p := ⟨O, 3, none⟩) (whole_apart hU4.out hO4.out (by decide)) (.func (.func 192) #[] #[.pointer (some ⟨U, 0, none⟩), .pointer (some ⟨L, 0, none⟩), .pointer (some ⟨N, 0, none⟩)])).away (p := ⟨R, 0, none⟩) (whole_apart hU4.out hR4.out (by decide)) (.int .u8 106)).away (p := ⟨R, 1, none⟩) (whole_apart hU4.out hR4.out (by decide)) (.int .u16 (n : Nat))).away (p := ⟨R, 2, none⟩) (whole_apart hU4.out hR4.out (by decide)) (.func (.func 190) #[] #[.pointer (some ⟨U, 0, none⟩), .pointer (some ⟨L, 0, none⟩), .pointer (some ⟨N, 0, none⟩)])).away (p := ⟨R, 3, none⟩) (whole_apart hU4.out hR4.out (by decide)) (.func (.func 192) #[] #[.pointer (some ⟨U, 0, none⟩), .pointer (some ⟨L, 0, none⟩), .pointer (some ⟨N, 0, none⟩)])), ((((((hL4.out.away (p := ⟨O, 2, none⟩) (whole_apart hL4.out hO4.out (by decide)) (.func (.func 190) #[] #[.pointer (some ⟨U, 0, none⟩), .pointer (some ⟨L, 0, none⟩), .pointer (some ⟨N, 0, none⟩)])).away (p := ⟨O, 3, none⟩) (whole_apart hL4.out hO4.out (by decide)) (.func (.func 192) #[] #[.pointer (some ⟨U, 0, none⟩), .pointer (some ⟨L, 0, none⟩), .pointer (some ⟨N, 0, none⟩)])).away (p := ⟨R, 0, none⟩) (whole_apart hL4.out hR4.out (by decide)) (.int .u8 106)).away (p := ⟨R, 1, none⟩) (whole_apart hL4.out hR4.out (by decide)) (.int .u16 (n : Nat))).away (p := ⟨R, 2, none⟩) (whole_apart hL4.out hR4.out (by decide)) (.func (.func 190) #[] #[.pointer (some ⟨U, 0, none⟩), .pointer (some ⟨L, 0, none⟩), .pointer (some ⟨N, 0, none⟩)])).away (p := ⟨R, 3, none⟩) (whole_apart hL4.out hR4.out (by decide)) (.func (.func 192) #[] #[.pointer (some ⟨U, 0, none⟩), .pointer (some ⟨L, 0, none⟩), .pointer (some ⟨N, 0, none⟩)])), ((((((hN4.out.away (p := ⟨O, 2, none⟩) (whole_apart hN4.out hO4.out (by decide)) (.func (.func 190) #[] #[.pointer (some ⟨U, 0, none⟩), .pointer (some ⟨L, 0, none⟩), .pointer (some ⟨N, 0, none⟩)])).away (p := ⟨O, 3, none⟩) (whole_apart hN4.out hO4.out (by decide)) (.func (.func 192) #[] #[.pointer (some ⟨U, 0, none⟩), .pointer (some ⟨L, 0, none⟩), .pointer (some ⟨N, 0, none⟩)])).away (p := ⟨R, 0, none⟩) (whole_apart hN4.out hR4.out (by decide)) (.int .u8 106)).away (p := ⟨R, 1, none⟩) (whole_apart hN4.out hR4.out (by decide)) (.int .u16 (n : Nat))).away (p := ⟨R, 2, none⟩) (whole_apart hN4.out hR4.out (by decide)) (.func (.func 190) #[] #[.pointer (some ⟨U, 0, none⟩), .pointer (some ⟨L, 0, none⟩), .pointer (some ⟨N, 0, none⟩)])).away (p := ⟨R, 3, none⟩) (whole_apart hN4.out hR4.out (by decide)) (.func (.func 192) #[] #[.pointer (some ⟨U, 0, none⟩), .pointer (some ⟨L, 0, none⟩), .pointer (some ⟨N, 0, none⟩)]))⟩))⟩⟩)
        clear hg hz F
        go_wp2_with fail
        exact bodyPost_ret (v := .agg #[.int .u8 106, .int .u16 (n : Nat), (.func (.func 190) #[] #[.pointer (some ⟨U, 0, none⟩), .pointer (some ⟨L, 0, none⟩), .pointer (some ⟨N, 0, none⟩)]), (.func (.func 192) #[] #[.pointer (some ⟨U, 0, none⟩), .pointer (some ⟨L, 0, none⟩), .pointer (some ⟨N, 0, none⟩)])]) (by simp [results, Tryz.results136, go_sem, z0, z1, z2, z3]) rfl hfin.out
      · have hbo : K.B ≤ O ∧ w.heap.size ≤ O := ⟨Nat.le_trans hBw hUO.out, by rw [hwz]; exact hUO.out⟩
        have hbr : K.B ≤ R ∧ w.heap.size ≤ R := by have := hL1.out; have := hR1.out; omega
        have hg := (((((((Gd.mk hT4.out hk4.out ⟨_, hO4.out⟩ ⟨_, hR4.out⟩ hbo hbr hne).setO 2 (.func (.func 190) #[] #[.pointer (some ⟨U, 0, none⟩), .pointer (some ⟨L, 0, none⟩), .pointer (some ⟨N, 0, none⟩)])).setO 3 (.func (.func 192) #[] #[.pointer (some ⟨U, 0, none⟩), .pointer (some ⟨L, 0, none⟩), .pointer (some ⟨N, 0, none⟩)])).setR 0 (.int .u8 43)).setR 1 (.int .u16 (n : Nat))).setR 2 (.func (.func 190) #[] #[.pointer (some ⟨U, 0, none⟩), .pointer (some ⟨L, 0, none⟩), .pointer (some ⟨N, 0, none⟩)])).setR 3 (.func (.func 192) #[] #[.pointer (some ⟨U, 0, none⟩), .pointer (some ⟨L, 0, none⟩), .pointer (some ⟨N, 0, none⟩)]))
        have hz := ((((((hR4.out.away (p := ⟨O, 2, none⟩) hne (.func (.func 190) #[] #[.pointer (some ⟨U, 0, none⟩), .pointer (some ⟨L, 0, none⟩), .pointer (some ⟨N, 0, none⟩)])).away (p := ⟨O, 3, none⟩) hne (.func (.func 192) #[] #[.pointer (some ⟨U, 0, none⟩), .pointer (some ⟨L, 0, none⟩), .pointer (some ⟨N, 0, none⟩)])).put 0 (.int .u8 43)).put 1 (.int .u16 (n : Nat))).put 2 (.func (.func 190) #[] #[.pointer (some ⟨U, 0, none⟩), .pointer (some ⟨L, 0, none⟩), .pointer (some ⟨N, 0, none⟩)])).put 3 (.func (.func 192) #[] #[.pointer (some ⟨U, 0, none⟩), .pointer (some ⟨L, 0, none⟩), .pointer (some ⟨N, 0, none⟩)]))
        have z0 := hz.cell 0
        have z1 := hz.cell 1
        have z2 := hz.cell 2
        have z3 := hz.cell 3
        simp only [List.getElem?_toArray, List.getElem?_cons_zero, List.getElem?_cons_succ, List.setIfInBounds_toArray, List.set_cons_zero, List.set_cons_succ] at z0 z1 z2 z3
        have hfin := Lib.hid (F.out (.returned (.agg #[.int .u8 ((43 : Nat) : Int), .int .u16 (n : Nat), (.func (.func 190) #[] #[.pointer (some ⟨U, 0, none⟩), .pointer (some ⟨L, 0, none⟩), .pointer (some ⟨N, 0, none⟩)]), (.func (.func 192) #[] #[.pointer (some ⟨U, 0, none⟩), .pointer (some ⟨L, 0, none⟩), .pointer (some ⟨N, 0, none⟩)])])) _ ⟨s', hg.t, hg.k, hh.out.2.2.1, .inl ⟨n, (.func (.func 190) #[] #[.pointer (some ⟨U, 0, none⟩), .pointer (some ⟨L, 0, none⟩), .pointer (some ⟨N, 0, none⟩)]), (.func (.func 192) #[] #[.pointer (some ⟨U, 0, none⟩), .pointer (some ⟨L, 0, none⟩), .pointer (some ⟨N, 0, none⟩)]), hh.out.1, hh.out.2.1, rfl, .inr (.inr (.inl ⟨hc2.out, U, L, N, rfl, rfl, ((((((hU4.out.away (p := ⟨O, 2, none⟩) (whole_apart hU4.out hO4.out (by decide)) (.func (.func 190) #[] #[.pointer (some ⟨U, 0, none⟩), .pointer (some ⟨L, 0, none⟩), .pointer (some ⟨N, 0, none⟩)])).away (p := ⟨O, 3, none⟩) (whole_apart hU4.out hO4.out (by decide)) (.func (.func 192) #[] #[.pointer (some ⟨U, 0, none⟩), .pointer (some ⟨L, 0, none⟩), .pointer (some ⟨N, 0, none⟩)])).away (p := ⟨R, 0, none⟩) (whole_apart hU4.out hR4.out (by decide)) (.int .u8 43)).away (p := ⟨R, 1, none⟩) (whole_apart hU4.out hR4.out (by decide)) (.int .u16 (n : Nat))).away (p := ⟨R, 2, none⟩) (whole_apart hU4.out hR4.out (by decide)) (.func (.func 190) #[] #[.pointer (some ⟨U, 0, none⟩), .pointer (some ⟨L, 0, none⟩), .pointer (some ⟨N, 0, none⟩)])).away (p := ⟨R, 3, none⟩) (whole_apart hU4.out hR4.out (by decide)) (.func (.func 192) #[] #[.pointer (some ⟨U, 0, none⟩), .pointer (some ⟨L, 0, none⟩), .pointer (some ⟨N, 0, none⟩)])), ((((((hL4.out.away (p := ⟨O, 2, none⟩) (whole_apart hL4.out hO4.out (by decide)) (.func (.func 190) #[] #[.pointer (some ⟨U, 0, none⟩), .pointer (some ⟨L, 0, none⟩), .pointer (some ⟨N, 0, none⟩)])).away (p := ⟨O, 3, none⟩) (whole_apart hL4.out hO4.out (by decide)) (.func (.func 192) #[] #[.pointer (some ⟨U, 0, none⟩), .pointer (some ⟨L, 0, none⟩), .pointer (some ⟨N, 0, none⟩)])).away (p := ⟨R, 0, none⟩) (whole_apart hL4.out hR4.out (by decide)) (.int .u8 43)).away (p := ⟨R, 1, none⟩) (whole_apart hL4.out hR4.out (by decide)) (.int .u16 (n : Nat))).away (p := ⟨R, 2, none⟩) (whole_apart hL4.out hR4.out (by decide)) (.func (.func 190) #[] #[.pointer (some ⟨U, 0, none⟩), .pointer (some ⟨L, 0, none⟩), .pointer (some ⟨N, 0, none⟩)])).away (p := ⟨R, 3, none⟩) (whole_apart hL4.out hR4.out (by decide)) (.func (.func 192) #[] #[.pointer (some ⟨U, 0, none⟩), .pointer (some ⟨L, 0, none⟩), .pointer (some ⟨N, 0, none⟩)])), ((((((hN4.out.away (p := ⟨O, 2, none⟩) (whole_apart hN4.out hO4.out (by decide)) (.func (.func 190) #[] #[.pointer (some ⟨U, 0, none⟩), .pointer (some ⟨L, 0, none⟩), .pointer (some ⟨N, 0, none⟩)])).away (p := ⟨O, 3, none⟩) (whole_apart hN4.out hO4.out (by decide)) (.func (.func 192) #[] #[.pointer (some ⟨U, 0, none⟩), .pointer (some ⟨L, 0, none⟩), .pointer (some ⟨N, 0, none⟩)])).away (p := ⟨R, 0, none⟩) (whole_apart hN4.out hR4.out (by decide)) (.int .u8 43)).away (p := ⟨R, 1, none⟩) (whole_apart hN4.out hR4.out (by decide)) (.int .u16 (n : Nat))).away (p := ⟨R, 2, none⟩) (whole_apart hN4.out hR4.out (by decide)) (.func (.func 190) #[] #[.pointer (some ⟨U, 0, none⟩), .pointer (some ⟨L, 0, none⟩), .pointer (some ⟨N, 0, none⟩)])).away (p := ⟨R, 3, none⟩) (whole_apart hN4.out hR4.out (by decide)) (.func (.func 192) #[] #[.pointer (some ⟨U, 0, none⟩), .pointer (some ⟨L, 0, none⟩), .pointer (some ⟨N, 0, none⟩)]))⟩))⟩⟩)
        clear hg hz F
        go_wp2_with fail
        exact bodyPost_ret (v := .agg #[.int .u8 43, .int .u16 (n : Nat), (.func (.func 190) #[] #[.pointer (some ⟨U, 0, none⟩), .pointer (some ⟨L, 0, none⟩), .pointer (some ⟨N, 0, none⟩)]), (.func (.func 192) #[] #[.pointer (some ⟨U, 0, none⟩), .pointer (some ⟨L, 0, none⟩), .pointer (some ⟨N, 0, none⟩)])]) (by simp [results, Tryz.results136, go_sem, z0, z1, z2, z3]) rfl hfin.out
      · have hbo : K.B ≤ O ∧ w.heap.size ≤ O := ⟨Nat.le_trans hBw hUO.out, by rw [hwz]; exact hUO.out⟩
        have hbr : K.B ≤ R ∧ w.heap.size ≤ R := by have := hL1.out; have := hR1.out; omega
        have hg := (((((((Gd.mk hT4.out hk4.out ⟨_, hO4.out⟩ ⟨_, hR4.out⟩ hbo hbr hne).setO 2 (.func (.func 190) #[] #[.pointer (some ⟨U, 0, none⟩), .pointer (some ⟨L, 0, none⟩), .pointer (some ⟨N, 0, none⟩)])).setO 3 (.func (.func 192) #[] #[.pointer (some ⟨U, 0, none⟩), .pointer (some ⟨L, 0, none⟩), .pointer (some ⟨N, 0, none⟩)])).setR 0 (.int .u8 97)).setR 1 (.int .u16 (n : Nat))).setR 2 (.func (.func 190) #[] #[.pointer (some ⟨U, 0, none⟩), .pointer (some ⟨L, 0, none⟩), .pointer (some ⟨N, 0, none⟩)])).setR 3 (.func (.func 192) #[] #[.pointer (some ⟨U, 0, none⟩), .pointer (some ⟨L, 0, none⟩), .pointer (some ⟨N, 0, none⟩)]))
        have hz := ((((((hR4.out.away (p := ⟨O, 2, none⟩) hne (.func (.func 190) #[] #[.pointer (some ⟨U, 0, none⟩), .pointer (some ⟨L, 0, none⟩), .pointer (some ⟨N, 0, none⟩)])).away (p := ⟨O, 3, none⟩) hne (.func (.func 192) #[] #[.pointer (some ⟨U, 0, none⟩), .pointer (some ⟨L, 0, none⟩), .pointer (some ⟨N, 0, none⟩)])).put 0 (.int .u8 97)).put 1 (.int .u16 (n : Nat))).put 2 (.func (.func 190) #[] #[.pointer (some ⟨U, 0, none⟩), .pointer (some ⟨L, 0, none⟩), .pointer (some ⟨N, 0, none⟩)])).put 3 (.func (.func 192) #[] #[.pointer (some ⟨U, 0, none⟩), .pointer (some ⟨L, 0, none⟩), .pointer (some ⟨N, 0, none⟩)]))
        have z0 := hz.cell 0
        have z1 := hz.cell 1
        have z2 := hz.cell 2
        have z3 := hz.cell 3
        simp only [List.getElem?_toArray, List.getElem?_cons_zero, List.getElem?_cons_succ, List.setIfInBounds_toArray, List.set_cons_zero, List.set_cons_succ] at z0 z1 z2 z3
        have hfin := Lib.hid (F.out (.returned (.agg #[.int .u8 ((97 : Nat) : Int), .int .u16 (n : Nat), (.func (.func 190) #[] #[.pointer (some ⟨U, 0, none⟩), .pointer (some ⟨L, 0, none⟩), .pointer (some ⟨N, 0, none⟩)]), (.func (.func 192) #[] #[.pointer (some ⟨U, 0, none⟩), .pointer (some ⟨L, 0, none⟩), .pointer (some ⟨N, 0, none⟩)])])) _ ⟨s', hg.t, hg.k, hh.out.2.2.1, .inl ⟨n, (.func (.func 190) #[] #[.pointer (some ⟨U, 0, none⟩), .pointer (some ⟨L, 0, none⟩), .pointer (some ⟨N, 0, none⟩)]), (.func (.func 192) #[] #[.pointer (some ⟨U, 0, none⟩), .pointer (some ⟨L, 0, none⟩), .pointer (some ⟨N, 0, none⟩)]), hh.out.1, hh.out.2.1, rfl, .inr (.inr (.inl ⟨hc2.out, U, L, N, rfl, rfl, ((((((hU4.out.away (p := ⟨O, 2, none⟩) (whole_apart hU4.out hO4.out (by decide)) (.func (.func 190) #[] #[.pointer (some ⟨U, 0, none⟩), .pointer (some ⟨L, 0, none⟩), .pointer (some ⟨N, 0, none⟩)])).away (p := ⟨O, 3, none⟩) (whole_apart hU4.out hO4.out (by decide)) (.func (.func 192) #[] #[.pointer (some ⟨U, 0, none⟩), .pointer (some ⟨L, 0, none⟩), .pointer (some ⟨N, 0, none⟩)])).away (p := ⟨R, 0, none⟩) (whole_apart hU4.out hR4.out (by decide)) (.int .u8 97)).away (p := ⟨R, 1, none⟩) (whole_apart hU4.out hR4.out (by decide)) (.int .u16 (n : Nat))).away (p := ⟨R, 2, none⟩) (whole_apart hU4.out hR4.out (by decide)) (.func (.func 190) #[] #[.pointer (some ⟨U, 0, none⟩), .pointer (some ⟨L, 0, none⟩), .pointer (some ⟨N, 0, none⟩)])).away (p := ⟨R, 3, none⟩) (whole_apart hU4.out hR4.out (by decide)) (.func (.func 192) #[] #[.pointer (some ⟨U, 0, none⟩), .pointer (some ⟨L, 0, none⟩), .pointer (some ⟨N, 0, none⟩)])), ((((((hL4.out.away (p := ⟨O, 2, none⟩) (whole_apart hL4.out hO4.out (by decide)) (.func (.func 190) #[] #[.pointer (some ⟨U, 0, none⟩), .pointer (some ⟨L, 0, none⟩), .pointer (some ⟨N, 0, none⟩)])).away (p := ⟨O, 3, none⟩) (whole_apart hL4.out hO4.out (by decide)) (.func (.func 192) #[] #[.pointer (some ⟨U, 0, none⟩), .pointer (some ⟨L, 0, none⟩), .pointer (some ⟨N, 0, none⟩)])).away (p := ⟨R, 0, none⟩) (whole_apart hL4.out hR4.out (by decide)) (.int .u8 97)).away (p := ⟨R, 1, none⟩) (whole_apart hL4.out hR4.out (by decide)) (.int .u16 (n : Nat))).away (p := ⟨R, 2, none⟩) (whole_apart hL4.out hR4.out (by decide)) (.func (.func 190) #[] #[.pointer (some ⟨U, 0, none⟩), .pointer (some ⟨L, 0, none⟩), .pointer (some ⟨N, 0, none⟩)])).away (p := ⟨R, 3, none⟩) (whole_apart hL4.out hR4.out (by decide)) (.func (.func 192) #[] #[.pointer (some ⟨U, 0, none⟩), .pointer (some ⟨L, 0, none⟩), .pointer (some ⟨N, 0, none⟩)])), ((((((hN4.out.away (p := ⟨O, 2, none⟩) (whole_apart hN4.out hO4.out (by decide)) (.func (.func 190) #[] #[.pointer (some ⟨U, 0, none⟩), .pointer (some ⟨L, 0, none⟩), .pointer (some ⟨N, 0, none⟩)])).away (p := ⟨O, 3, none⟩) (whole_apart hN4.out hO4.out (by decide)) (.func (.func 192) #[] #[.pointer (some ⟨U, 0, none⟩), .pointer (some ⟨L, 0, none⟩), .pointer (some ⟨N, 0, none⟩)])).away (p := ⟨R, 0, none⟩) (whole_apart hN4.out hR4.out (by decide)) (.int .u8 97)).away (p := ⟨R, 1, none⟩) (whole_apart hN4.out hR4.out (by decide)) (.int .u16 (n : Nat))).away (p := ⟨R, 2, none⟩) (whole_apart hN4.out hR4.out (by decide)) (.func (.func 190) #[] #[.pointer (some ⟨U, 0, none⟩), .pointer (some ⟨L, 0, none⟩), .pointer (some ⟨N, 0, none⟩)])).away (p := ⟨R, 3, none⟩) (whole_apart hN4.out hR4.out (by decide)) (.func (.func 192) #[] #[.pointer (some ⟨U, 0, none⟩), .pointer (some ⟨L, 0, none⟩), .pointer (some ⟨N, 0, none⟩)]))⟩))⟩⟩)
        clear hg hz F
        go_wp2_with fail
        exact bodyPost_ret (v := .agg #[.int .u8 97, .int .u16 (n : Nat), (.func (.func 190) #[] #[.pointer (some ⟨U, 0, none⟩), .pointer (some ⟨L, 0, none⟩), .pointer (some ⟨N, 0, none⟩)]), (.func (.func 192) #[] #[.pointer (some ⟨U, 0, none⟩), .pointer (some ⟨L, 0, none⟩), .pointer (some ⟨N, 0, none⟩)])]) (by simp [results, Tryz.results136, go_sem, z0, z1, z2, z3]) rfl hfin.out
      · have hbo : K.B ≤ O ∧ w.heap.size ≤ O := ⟨Nat.le_trans hBw hUO.out, by rw [hwz]; exact hUO.out⟩
        have hbr : K.B ≤ R ∧ w.heap.size ≤ R := by have := hL1.out; have := hR1.out; omega
        have hg := (((((((Gd.mk hT4.out hk4.out ⟨_, hO4.out⟩ ⟨_, hR4.out⟩ hbo hbr hne).setO 2 (.func (.func 190) #[] #[.pointer (some ⟨U, 0, none⟩), .pointer (some ⟨L, 0, none⟩), .pointer (some ⟨N, 0, none⟩)])).setO 3 (.func (.func 192) #[] #[.pointer (some ⟨U, 0, none⟩), .pointer (some ⟨L, 0, none⟩), .pointer (some ⟨N, 0, none⟩)])).setR 0 (.int .u8 112)).setR 1 (.int .u16 (n : Nat))).setR 2 (.func (.func 190) #[] #[.pointer (some ⟨U, 0, none⟩), .pointer (some ⟨L, 0, none⟩), .pointer (some ⟨N, 0, none⟩)])).setR 3 (.func (.func 192) #[] #[.pointer (some ⟨U, 0, none⟩), .pointer (some ⟨L, 0, none⟩), .pointer (some ⟨N, 0, none⟩)]))
        have hz := ((((((hR4.out.away (p := ⟨O, 2, none⟩) hne (.func (.func 190) #[] #[.pointer (some ⟨U, 0, none⟩), .pointer (some ⟨L, 0, none⟩), .pointer (some ⟨N, 0, none⟩)])).away (p := ⟨O, 3, none⟩) hne (.func (.func 192) #[] #[.pointer (some ⟨U, 0, none⟩), .pointer (some ⟨L, 0, none⟩), .pointer (some ⟨N, 0, none⟩)])).put 0 (.int .u8 112)).put 1 (.int .u16 (n : Nat))).put 2 (.func (.func 190) #[] #[.pointer (some ⟨U, 0, none⟩), .pointer (some ⟨L, 0, none⟩), .pointer (some ⟨N, 0, none⟩)])).put 3 (.func (.func 192) #[] #[.pointer (some ⟨U, 0, none⟩), .pointer (some ⟨L, 0, none⟩), .pointer (some ⟨N, 0, none⟩)]))
        have z0 := hz.cell 0
        have z1 := hz.cell 1
        have z2 := hz.cell 2
        have z3 := hz.cell 3
        simp only [List.getElem?_toArray, List.getElem?_cons_zero, List.getElem?_cons_succ, List.setIfInBounds_toArray, List.set_cons_zero, List.set_cons_succ] at z0 z1 z2 z3
        have hfin := Lib.hid (F.out (.returned (.agg #[.int .u8 ((112 : Nat) : Int), .int .u16 (n : Nat), (.func (.func 190) #[] #[.pointer (some ⟨U, 0, none⟩), .pointer (some ⟨L, 0, none⟩), .pointer (some ⟨N, 0, none⟩)]), (.func (.func 192) #[] #[.pointer (some ⟨U, 0, none⟩), .pointer (some ⟨L, 0, none⟩), .pointer (some ⟨N, 0, none⟩)])])) _ ⟨s', hg.t, hg.k, hh.out.2.2.1, .inl ⟨n, (.func (.func 190) #[] #[.pointer (some ⟨U, 0, none⟩), .pointer (some ⟨L, 0, none⟩), .pointer (some ⟨N, 0, none⟩)]), (.func (.func 192) #[] #[.pointer (some ⟨U, 0, none⟩), .pointer (some ⟨L, 0, none⟩), .pointer (some ⟨N, 0, none⟩)]), hh.out.1, hh.out.2.1, rfl, .inr (.inr (.inl ⟨hc2.out, U, L, N, rfl, rfl, ((((((hU4.out.away (p := ⟨O, 2, none⟩) (whole_apart hU4.out hO4.out (by decide)) (.func (.func 190) #[] #[.pointer (some ⟨U, 0, none⟩), .pointer (some ⟨L, 0, none⟩), .pointer (some ⟨N, 0, none⟩)])).away (p := ⟨O, 3, none⟩) (whole_apart hU4.out hO4.out (by decide)) (.func (.func 192) #[] #[.pointer (some ⟨U, 0, none⟩), .pointer (some ⟨L, 0, none⟩), .pointer (some ⟨N, 0, none⟩)])).away (p := ⟨R, 0, none⟩) (whole_apart hU4.out hR4.out (by decide)) (.int .u8 112)).away (p := ⟨R, 1, none⟩) (whole_apart hU4.out hR4.out (by decide)) (.int .u16 (n : Nat))).away (p := ⟨R, 2, none⟩) (whole_apart hU4.out hR4.out (by decide)) (.func (.func 190) #[] #[.pointer (some ⟨U, 0, none⟩), .pointer (some ⟨L, 0, none⟩), .pointer (some ⟨N, 0, none⟩)])).away (p := ⟨R, 3, none⟩) (whole_apart hU4.out hR4.out (by decide)) (.func (.func 192) #[] #[.pointer (some ⟨U, 0, none⟩), .pointer (some ⟨L, 0, none⟩), .pointer (some ⟨N, 0, none⟩)])), ((((((hL4.out.away (p := ⟨O, 2, none⟩) (whole_apart hL4.out hO4.out (by decide)) (.func (.func 190) #[] #[.pointer (some ⟨U, 0, none⟩), .pointer (some ⟨L, 0, none⟩), .pointer (some ⟨N, 0, none⟩)])).away (p := ⟨O, 3, none⟩) (whole_apart hL4.out hO4.out (by decide)) (.func (.func 192) #[] #[.pointer (some ⟨U, 0, none⟩), .pointer (some ⟨L, 0, none⟩), .pointer (some ⟨N, 0, none⟩)])).away (p := ⟨R, 0, none⟩) (whole_apart hL4.out hR4.out (by decide)) (.int .u8 112)).away (p := ⟨R, 1, none⟩) (whole_apart hL4.out hR4.out (by decide)) (.int .u16 (n : Nat))).away (p := ⟨R, 2, none⟩) (whole_apart hL4.out hR4.out (by decide)) (.func (.func 190) #[] #[.pointer (some ⟨U, 0, none⟩), .pointer (some ⟨L, 0, none⟩), .pointer (some ⟨N, 0, none⟩)])).away (p := ⟨R, 3, none⟩) (whole_apart hL4.out hR4.out (by decide)) (.func (.func 192) #[] #[.pointer (some ⟨U, 0, none⟩), .pointer (some ⟨L, 0, none⟩), .pointer (some ⟨N, 0, none⟩)])), ((((((hN4.out.away (p := ⟨O, 2, none⟩) (whole_apart hN4.out hO4.out (by decide)) (.func (.func 190) #[] #[.pointer (some ⟨U, 0, none⟩), .pointer (some ⟨L, 0, none⟩), .pointer (some ⟨N, 0, none⟩)])).away (p := ⟨O, 3, none⟩) (whole_apart hN4.out hO4.out (by decide)) (.func (.func 192) #[] #[.pointer (some ⟨U, 0, none⟩), .pointer (some ⟨L, 0, none⟩), .pointer (some ⟨N, 0, none⟩)])).away (p := ⟨R, 0, none⟩) (whole_apart hN4.out hR4.out (by decide)) (.int .u8 112)).away (p := ⟨R, 1, none⟩) (whole_apart hN4.out hR4.out (by decide)) (.int .u16 (n : Nat))).away (p := ⟨R, 2, none⟩) (whole_apart hN4.out hR4.out (by decide)) (.func (.func 190) #[] #[.pointer (some ⟨U, 0, none⟩), .pointer (some ⟨L, 0, none⟩), .pointer (some ⟨N, 0, none⟩)])).away (p := ⟨R, 3, none⟩) (whole_apart hN4.out hR4.out (by decide)) (.func (.func 192) #[] #[.pointer (some ⟨U, 0, none⟩), .pointer (some ⟨L, 0, none⟩), .pointer (some ⟨N, 0, none⟩)]))⟩))⟩⟩)
        clear hg hz F
        go_wp2_with fail
        exact bodyPost_ret (v := .agg #[.int .u8 112, .int .u16 (n : Nat), (.func (.func 190) #[] #[.pointer (some ⟨U, 0, none⟩), .pointer (some ⟨L, 0, none⟩), .pointer (some ⟨N, 0, none⟩)]), (.func (.func 192) #[] #[.pointer (some ⟨U, 0, none⟩), .pointer (some ⟨L, 0, none⟩), .pointer (some ⟨N, 0, none⟩)])]) (by simp [results, Tryz.results136, go_sem, z0, z1, z2, z3]) rfl hfin.out
      · have hbo : K.B ≤ O ∧ w.heap.size ≤ O := ⟨Nat.le_trans hBw hUO.out, by rw [hwz]; exact hUO.out⟩
        have hbr : K.B ≤ R ∧ w.heap.size ≤ R := by have := hL1.out; have := hR1.out; omega
        have hg := (((((((Gd.mk hT4.out hk4.out ⟨_, hO4.out⟩ ⟨_, hR4.out⟩ hbo hbr hne).setO 2 (.func (.func 190) #[] #[.pointer (some ⟨U, 0, none⟩), .pointer (some ⟨L, 0, none⟩), .pointer (some ⟨N, 0, none⟩)])).setO 3 (.func (.func 192) #[] #[.pointer (some ⟨U, 0, none⟩), .pointer (some ⟨L, 0, none⟩), .pointer (some ⟨N, 0, none⟩)])).setR 0 (.int .u8 113)).setR 1 (.int .u16 (n : Nat))).setR 2 (.func (.func 190) #[] #[.pointer (some ⟨U, 0, none⟩), .pointer (some ⟨L, 0, none⟩), .pointer (some ⟨N, 0, none⟩)])).setR 3 (.func (.func 192) #[] #[.pointer (some ⟨U, 0, none⟩), .pointer (some ⟨L, 0, none⟩), .pointer (some ⟨N, 0, none⟩)]))
        have hz := ((((((hR4.out.away (p := ⟨O, 2, none⟩) hne (.func (.func 190) #[] #[.pointer (some ⟨U, 0, none⟩), .pointer (some ⟨L, 0, none⟩), .pointer (some ⟨N, 0, none⟩)])).away (p := ⟨O, 3, none⟩) hne (.func (.func 192) #[] #[.pointer (some ⟨U, 0, none⟩), .pointer (some ⟨L, 0, none⟩), .pointer (some ⟨N, 0, none⟩)])).put 0 (.int .u8 113)).put 1 (.int .u16 (n : Nat))).put 2 (.func (.func 190) #[] #[.pointer (some ⟨U, 0, none⟩), .pointer (some ⟨L, 0, none⟩), .pointer (some ⟨N, 0, none⟩)])).put 3 (.func (.func 192) #[] #[.pointer (some ⟨U, 0, none⟩), .pointer (some ⟨L, 0, none⟩), .pointer (some ⟨N, 0, none⟩)]))
        have z0 := hz.cell 0
        have z1 := hz.cell 1
        have z2 := hz.cell 2
        have z3 := hz.cell 3
        simp only [List.getElem?_toArray, List.getElem?_cons_zero, List.getElem?_cons_succ, List.setIfInBounds_toArray, List.set_cons_zero, List.set_cons_succ] at z0 z1 z2 z3
        have hfin := Lib.hid (F.out (.returned (.agg #[.int .u8 ((113 : Nat) : Int), .int .u16 (n : Nat), (.func (.func 190) #[] #[.pointer (some ⟨U, 0, none⟩), .pointer (some ⟨L, 0, none⟩), .pointer (some ⟨N, 0, none⟩)]), (.func (.func 192) #[] #[.pointer (some ⟨U, 0, none⟩), .pointer (some ⟨L, 0, none⟩), .pointer (some ⟨N, 0, none⟩)])])) _ ⟨s', hg.t, hg.k, hh.out.2.2.1, .inl ⟨n, (.func (.func 190) #[] #[.pointer (some ⟨U, 0, none⟩), .pointer (some ⟨L, 0, none⟩), .pointer (some ⟨N, 0, none⟩)]), (.func (.func 192) #[] #[.pointer (some ⟨U, 0, none⟩), .pointer (some ⟨L, 0, none⟩), .pointer (some ⟨N, 0, none⟩)]), hh.out.1, hh.out.2.1, rfl, .inr (.inr (.inl ⟨hc2.out, U, L, N, rfl, rfl, ((((((hU4.out.away (p := ⟨O, 2, none⟩) (whole_apart hU4.out hO4.out (by decide)) (.func (.func 190) #[] #[.pointer (some ⟨U, 0, none⟩), .pointer (some ⟨L, 0, none⟩), .pointer (some ⟨N, 0, none⟩)])).away (p := ⟨O, 3, none⟩) (whole_apart hU4.out hO4.out (by decide)) (.func (.func 192) #[] #[.pointer (some ⟨U, 0, none⟩), .pointer (some ⟨L, 0, none⟩), .pointer (some ⟨N, 0, none⟩)])).away (p := ⟨R, 0, none⟩) (whole_apart hU4.out hR4.out (by decide)) (.int .u8 113)).away (p := ⟨R, 1, none⟩) (whole_apart hU4.out hR4.out (by decide)) (.int .u16 (n : Nat))).away (p := ⟨R, 2, none⟩) (whole_apart hU4.out hR4.out (by decide)) (.func (.func 190) #[] #[.pointer (some ⟨U, 0, none⟩), .pointer (some ⟨L, 0, none⟩), .pointer (some ⟨N, 0, none⟩)])).away (p := ⟨R, 3, none⟩) (whole_apart hU4.out hR4.out (by decide)) (.func (.func 192) #[] #[.pointer (some ⟨U, 0, none⟩), .pointer (some ⟨L, 0, none⟩), .pointer (some ⟨N, 0, none⟩)])), ((((((hL4.out.away (p := ⟨O, 2, none⟩) (whole_apart hL4.out hO4.out (by decide)) (.func (.func 190) #[] #[.pointer (some ⟨U, 0, none⟩), .pointer (some ⟨L, 0, none⟩), .pointer (some ⟨N, 0, none⟩)])).away (p := ⟨O, 3, none⟩) (whole_apart hL4.out hO4.out (by decide)) (.func (.func 192) #[] #[.pointer (some ⟨U, 0, none⟩), .pointer (some ⟨L, 0, none⟩), .pointer (some ⟨N, 0, none⟩)])).away (p := ⟨R, 0, none⟩) (whole_apart hL4.out hR4.out (by decide)) (.int .u8 113)).away (p := ⟨R, 1, none⟩) (whole_apart hL4.out hR4.out (by decide)) (.int .u16 (n : Nat))).away (p := ⟨R, 2, none⟩) (whole_apart hL4.out hR4.out (by decide)) (.func (.func 190) #[] #[.pointer (some ⟨U, 0, none⟩), .pointer (some ⟨L, 0, none⟩), .pointer (some ⟨N, 0, none⟩)])).away (p := ⟨R, 3, none⟩) (whole_apart hL4.out hR4.out (by decide)) (.func (.func 192) #[] #[.pointer (some ⟨U, 0, none⟩), .pointer (some ⟨L, 0, none⟩), .pointer (some ⟨N, 0, none⟩)])), ((((((hN4.out.away (p := ⟨O, 2, none⟩) (whole_apart hN4.out hO4.out (by decide)) (.func (.func 190) #[] #[.pointer (some ⟨U, 0, none⟩), .pointer (some ⟨L, 0, none⟩), .pointer (some ⟨N, 0, none⟩)])).away (p := ⟨O, 3, none⟩) (whole_apart hN4.out hO4.out (by decide)) (.func (.func 192) #[] #[.pointer (some ⟨U, 0, none⟩), .pointer (some ⟨L, 0, none⟩), .pointer (some ⟨N, 0, none⟩)])).away (p := ⟨R, 0, none⟩) (whole_apart hN4.out hR4.out (by decide)) (.int .u8 113)).away (p := ⟨R, 1, none⟩) (whole_apart hN4.out hR4.out (by decide)) (.int .u16 (n : Nat))).away (p := ⟨R, 2, none⟩) (whole_apart hN4.out hR4.out (by decide)) (.func (.func 190) #[] #[.pointer (some ⟨U, 0, none⟩), .pointer (some ⟨L, 0, none⟩), .pointer (some ⟨N, 0, none⟩)])).away (p := ⟨R, 3, none⟩) (whole_apart hN4.out hR4.out (by decide)) (.func (.func 192) #[] #[.pointer (some ⟨U, 0, none⟩), .pointer (some ⟨L, 0, none⟩), .pointer (some ⟨N, 0, none⟩)]))⟩))⟩⟩)
        clear hg hz F
        go_wp2_with fail
        exact bodyPost_ret (v := .agg #[.int .u8 113, .int .u16 (n : Nat), (.func (.func 190) #[] #[.pointer (some ⟨U, 0, none⟩), .pointer (some ⟨L, 0, none⟩), .pointer (some ⟨N, 0, none⟩)]), (.func (.func 192) #[] #[.pointer (some ⟨U, 0, none⟩), .pointer (some ⟨L, 0, none⟩), .pointer (some ⟨N, 0, none⟩)])]) (by simp [results, Tryz.results136, go_sem, z0, z1, z2, z3]) rfl hfin.out
      · have hbo : K.B ≤ O ∧ w.heap.size ≤ O := ⟨Nat.le_trans hBw hUO.out, by rw [hwz]; exact hUO.out⟩
        have hbr : K.B ≤ R ∧ w.heap.size ≤ R := by have := hL1.out; have := hR1.out; omega
        have hg := (((((((Gd.mk hT4.out hk4.out ⟨_, hO4.out⟩ ⟨_, hR4.out⟩ hbo hbr hne).setO 2 (.func (.func 190) #[] #[.pointer (some ⟨U, 0, none⟩), .pointer (some ⟨L, 0, none⟩), .pointer (some ⟨N, 0, none⟩)])).setO 3 (.func (.func 192) #[] #[.pointer (some ⟨U, 0, none⟩), .pointer (some ⟨L, 0, none⟩), .pointer (some ⟨N, 0, none⟩)])).setR 0 (.int .u8 108)).setR 1 (.int .u16 (n : Nat))).setR 2 (.func (.func 190) #[] #[.pointer (some ⟨U, 0, none⟩), .pointer (some ⟨L, 0, none⟩), .pointer (some ⟨N, 0, none⟩)])).setR 3 (.func (.func 192) #[] #[.pointer (some ⟨U, 0, none⟩), .pointer (some ⟨L, 0, none⟩), .pointer (some ⟨N, 0, none⟩)]))
        have hz := ((((((hR4.out.away (p := ⟨O, 2, none⟩) hne (.func (.func 190) #[] #[.pointer (some ⟨U, 0, none⟩), .pointer (some ⟨L, 0, none⟩), .pointer (some ⟨N, 0, none⟩)])).away (p := ⟨O, 3, none⟩) hne (.func (.func 192) #[] #[.pointer (some ⟨U, 0, none⟩), .pointer (some ⟨L, 0, none⟩), .pointer (some ⟨N, 0, none⟩)])).put 0 (.int .u8 108)).put 1 (.int .u16 (n : Nat))).put 2 (.func (.func 190) #[] #[.pointer (some ⟨U, 0, none⟩), .pointer (some ⟨L, 0, none⟩), .pointer (some ⟨N, 0, none⟩)])).put 3 (.func (.func 192) #[] #[.pointer (some ⟨U, 0, none⟩), .pointer (some ⟨L, 0, none⟩), .pointer (some ⟨N, 0, none⟩)]))
        have z0 := hz.cell 0
        have z1 := hz.cell 1
        have z2 := hz.cell 2
        have z3 := hz.cell 3
        simp only [List.getElem?_toArray, List.getElem?_cons_zero, List.getElem?_cons_succ, List.setIfInBounds_toArray, List.set_cons_zero, List.set_cons_succ] at z0 z1 z2 z3
        have hfin := Lib.hid (F.out (.returned (.agg #[.int .u8 ((108 : Nat) : Int), .int .u16 (n : Nat), (.func (.func 190) #[] #[.pointer (some ⟨U, 0, none⟩), .pointer (some ⟨L, 0, none⟩), .pointer (some ⟨N, 0, none⟩)]), (.func (.func 192) #[] #[.pointer (some ⟨U, 0, none⟩), .pointer (some ⟨L, 0, none⟩), .pointer (some ⟨N, 0, none⟩)])])) _ ⟨s', hg.t, hg.k, hh.out.2.2.1, .inl ⟨n, (.func (.func 190) #[] #[.pointer (some ⟨U, 0, none⟩), .pointer (some ⟨L, 0, none⟩), .pointer (some ⟨N, 0, none⟩)]), (.func (.func 192) #[] #[.pointer (some ⟨U, 0, none⟩), .pointer (some ⟨L, 0, none⟩), .pointer (some ⟨N, 0, none⟩)]), hh.out.1, hh.out.2.1, rfl, .inr (.inr (.inl ⟨hc2.out, U, L, N, rfl, rfl, ((((((hU4.out.away (p := ⟨O, 2, none⟩) (whole_apart hU4.out hO4.out (by decide)) (.func (.func 190) #[] #[.pointer (some ⟨U, 0, none⟩), .pointer (some ⟨L, 0, none⟩), .pointer (some ⟨N, 0, none⟩)])).away (p := ⟨O, 3, none⟩) (whole_apart hU4.out hO4.out (by decide)) (.func (.func 192) #[] #[.pointer (some ⟨U, 0, none⟩), .pointer (some ⟨L, 0, none⟩), .pointer (some ⟨N, 0, none⟩)])).away (p := ⟨R, 0, none⟩) (whole_apart hU4.out hR4.out (by decide)) (.int .u8 108)).away (p := ⟨R, 1, none⟩) (whole_apart hU4.out hR4.out (by decide)) (.int .u16 (n : Nat))).away (p := ⟨R, 2, none⟩) (whole_apart hU4.out hR4.out (by decide)) (.func (.func 190) #[] #[.pointer (some ⟨U, 0, none⟩), .pointer (some ⟨L, 0, none⟩), .pointer (some ⟨N, 0, none⟩)])).away (p := ⟨R, 3, none⟩) (whole_apart hU4.out hR4.out (by decide)) (.func (.func 192) #[] #[.pointer (some ⟨U, 0, none⟩), .pointer (some ⟨L, 0, none⟩), .pointer (some ⟨N, 0, none⟩)])), ((((((hL4.out.away (p := ⟨O, 2, none⟩) (whole_apart hL4.out hO4.out (by decide)) (.func (.func 190) #[] #[.pointer (some ⟨U, 0, none⟩), .pointer (some ⟨L, 0, none⟩), .pointer (some ⟨N, 0, none⟩)])).away (p := ⟨O, 3, none⟩) (whole_apart hL4.out hO4.out (by decide)) (.func (.func 192) #[] #[.pointer (some ⟨U, 0, none⟩), .pointer (some ⟨L, 0, none⟩), .pointer (some ⟨N, 0, none⟩)])).away (p := ⟨R, 0, none⟩) (whole_apart hL4.out hR4.out (by decide)) (.int .u8 108)).away (p := ⟨R, 1, none⟩) (whole_apart hL4.out hR4.out (by decide)) (.int .u16 (n : Nat))).away (p := ⟨R, 2, none⟩) (whole_apart hL4.out hR4.out (by decide)) (.func (.func 190) #[] #[.pointer (some ⟨U, 0, none⟩), .pointer (some ⟨L, 0, none⟩), .pointer (some ⟨N, 0, none⟩)])).away (p := ⟨R, 3, none⟩) (whole_apart hL4.out hR4.out (by decide)) (.func (.func 192) #[] #[.pointer (some ⟨U, 0, none⟩), .pointer (some ⟨L, 0, none⟩), .pointer (some ⟨N, 0, none⟩)])), ((((((hN4.out.away (p := ⟨O, 2, none⟩) (whole_apart hN4.out hO4.out (by decide)) (.func (.func 190) #[] #[.pointer (some ⟨U, 0, none⟩), .pointer (some ⟨L, 0, none⟩), .pointer (some ⟨N, 0, none⟩)])).away (p := ⟨O, 3, none⟩) (whole_apart hN4.out hO4.out (by decide)) (.func (.func 192) #[] #[.pointer (some ⟨U, 0, none⟩), .pointer (some ⟨L, 0, none⟩), .pointer (some ⟨N, 0, none⟩)])).away (p := ⟨R, 0, none⟩) (whole_apart hN4.out hR4.out (by decide)) (.int .u8 108)).away (p := ⟨R, 1, none⟩) (whole_apart hN4.out hR4.out (by decide)) (.int .u16 (n : Nat))).away (p := ⟨R, 2, none⟩) (whole_apart hN4.out hR4.out (by decide)) (.func (.func 190) #[] #[.pointer (some ⟨U, 0, none⟩), .pointer (some ⟨L, 0, none⟩), .pointer (some ⟨N, 0, none⟩)])).away (p := ⟨R, 3, none⟩) (whole_apart hN4.out hR4.out (by decide)) (.func (.func 192) #[] #[.pointer (some ⟨U, 0, none⟩), .pointer (some ⟨L, 0, none⟩), .pointer (some ⟨N, 0, none⟩)]))⟩))⟩⟩)
        clear hg hz F
        go_wp2_with fail
        exact bodyPost_ret (v := .agg #[.int .u8 108, .int .u16 (n : Nat), (.func (.func 190) #[] #[.pointer (some ⟨U, 0, none⟩), .pointer (some ⟨L, 0, none⟩), .pointer (some ⟨N, 0, none⟩)]), (.func (.func 192) #[] #[.pointer (some ⟨U, 0, none⟩), .pointer (some ⟨L, 0, none⟩), .pointer (some ⟨N, 0, none⟩)])]) (by simp [results, Tryz.results136, go_sem, z0, z1, z2, z3]) rfl hfin.out
      · have hbo : K.B ≤ O ∧ w.heap.size ≤ O := ⟨Nat.le_trans hBw hUO.out, by rw [hwz]; exact hUO.out⟩
        have hbr : K.B ≤ R ∧ w.heap.size ≤ R := by have := hL1.out; have := hR1.out; omega
        have hg := (((((((Gd.mk hT4.out hk4.out ⟨_, hO4.out⟩ ⟨_, hR4.out⟩ hbo hbr hne).setO 2 (.func (.func 190) #[] #[.pointer (some ⟨U, 0, none⟩), .pointer (some ⟨L, 0, none⟩), .pointer (some ⟨N, 0, none⟩)])).setO 3 (.func (.func 192) #[] #[.pointer (some ⟨U, 0, none⟩), .pointer (some ⟨L, 0, none⟩), .pointer (some ⟨N, 0, none⟩)])).setR 0 (.int .u8 109)).setR 1 (.int .u16 (n : Nat))).setR 2 (.func (.func 190) #[] #[.pointer (some ⟨U, 0, none⟩), .pointer (some ⟨L, 0, none⟩), .pointer (some ⟨N, 0, none⟩)])).setR 3 (.func (.func 192) #[] #[.pointer (some ⟨U, 0, none⟩), .pointer (some ⟨L, 0, none⟩), .pointer (some ⟨N, 0, none⟩)]))
        have hz := ((((((hR4.out.away (p := ⟨O, 2, none⟩) hne (.func (.func 190) #[] #[.pointer (some ⟨U, 0, none⟩), .pointer (some ⟨L, 0, none⟩), .pointer (some ⟨N, 0, none⟩)])).away (p := ⟨O, 3, none⟩) hne (.func (.func 192) #[] #[.pointer (some ⟨U, 0, none⟩), .pointer (some ⟨L, 0, none⟩), .pointer (some ⟨N, 0, none⟩)])).put 0 (.int .u8 109)).put 1 (.int .u16 (n : Nat))).put 2 (.func (.func 190) #[] #[.pointer (some ⟨U, 0, none⟩), .pointer (some ⟨L, 0, none⟩), .pointer (some ⟨N, 0, none⟩)])).put 3 (.func (.func 192) #[] #[.pointer (some ⟨U, 0, none⟩), .pointer (some ⟨L, 0, none⟩), .pointer (some ⟨N, 0, none⟩)]))
        have z0 := hz.cell 0
        have z1 := hz.cell 1
        have z2 := hz.cell 2
        have z3 := hz.cell 3
        simp only [List.getElem?_toArray, List.getElem?_cons_zero, List.getElem?_cons_succ, List.setIfInBounds_toArray, List.set_cons_zero, List.set_cons_succ] at z0 z1 z2 z3
        have hfin := Lib.hid (F.out (.returned (.agg #[.int .u8 ((109 : Nat) : Int), .int .u16 (n : Nat), (.func (.func 190) #[] #[.pointer (some ⟨U, 0, none⟩), .pointer (some ⟨L, 0, none⟩), .pointer (some ⟨N, 0, none⟩)]), (.func (.func 192) #[] #[.pointer (some ⟨U, 0, none⟩), .pointer (some ⟨L, 0, none⟩), .pointer (some ⟨N, 0, none⟩)])])) _ ⟨s', hg.t, hg.k, hh.out.2.2.1, .inl ⟨n, (.func (.func 190) #[] #[.pointer (some ⟨U, 0, none⟩), .pointer (some ⟨L, 0, none⟩), .pointer (some ⟨N, 0, none⟩)]), (.func (.func 192) #[] #[.pointer (some ⟨U, 0, none⟩), .pointer (some ⟨L, 0, none⟩), .pointer (some ⟨N, 0, none⟩)]), hh.out.1, hh.out.2.1, rfl, .inr (.inr (.inl ⟨hc2.out, U, L, N, rfl, rfl, ((((((hU4.out.away (p := ⟨O, 2, none⟩) (whole_apart hU4.out hO4.out (by decide)) (.func (.func 190) #[] #[.pointer (some ⟨U, 0, none⟩), .pointer (some ⟨L, 0, none⟩), .pointer (some ⟨N, 0, none⟩)])).away (p := ⟨O, 3, none⟩) (whole_apart hU4.out hO4.out (by decide)) (.func (.func 192) #[] #[.pointer (some ⟨U, 0, none⟩), .pointer (some ⟨L, 0, none⟩), .pointer (some ⟨N, 0, none⟩)])).away (p := ⟨R, 0, none⟩) (whole_apart hU4.out hR4.out (by decide)) (.int .u8 109)).away (p := ⟨R, 1, none⟩) (whole_apart hU4.out hR4.out (by decide)) (.int .u16 (n : Nat))).away (p := ⟨R, 2, none⟩) (whole_apart hU4.out hR4.out (by decide)) (.func (.func 190) #[] #[.pointer (some ⟨U, 0, none⟩), .pointer (some ⟨L, 0, none⟩), .pointer (some ⟨N, 0, none⟩)])).away (p := ⟨R, 3, none⟩) (whole_apart hU4.out hR4.out (by decide)) (.func (.func 192) #[] #[.pointer (some ⟨U, 0, none⟩), .pointer (some ⟨L, 0, none⟩), .pointer (some ⟨N, 0, none⟩)])), ((((((hL4.out.away (p := ⟨O, 2, none⟩) (whole_apart hL4.out hO4.out (by decide)) (.func (.func 190) #[] #[.pointer (some ⟨U, 0, none⟩), .pointer (some ⟨L, 0, none⟩), .pointer (some ⟨N, 0, none⟩)])).away (p := ⟨O, 3, none⟩) (whole_apart hL4.out hO4.out (by decide)) (.func (.func 192) #[] #[.pointer (some ⟨U, 0, none⟩), .pointer (some ⟨L, 0, none⟩), .pointer (some ⟨N, 0, none⟩)])).away (p := ⟨R, 0, none⟩) (whole_apart hL4.out hR4.out (by decide)) (.int .u8 109)).away (p := ⟨R, 1, none⟩) (whole_apart hL4.out hR4.out (by decide)) (.int .u16 (n : Nat))).away (p := ⟨R, 2, none⟩) (whole_apart hL4.out hR4.out (by decide)) (.func (.func 190) #[] #[.pointer (some ⟨U, 0, none⟩), .pointer (some ⟨L, 0, none⟩), .pointer (some ⟨N, 0, none⟩)])).away (p := ⟨R, 3, none⟩) (whole_apart hL4.out hR4.out (by decide)) (.func (.func 192) #[] #[.pointer (some ⟨U, 0, none⟩), .pointer (some ⟨L, 0, none⟩), .pointer (some ⟨N, 0, none⟩)])), ((((((hN4.out.away (p := ⟨O, 2, none⟩) (whole_apart hN4.out hO4.out (by decide)) (.func (.func 190) #[] #[.pointer (some ⟨U, 0, none⟩), .pointer (some ⟨L, 0, none⟩), .pointer (some ⟨N, 0, none⟩)])).away (p := ⟨O, 3, none⟩) (whole_apart hN4.out hO4.out (by decide)) (.func (.func 192) #[] #[.pointer (some ⟨U, 0, none⟩), .pointer (some ⟨L, 0, none⟩), .pointer (some ⟨N, 0, none⟩)])).away (p := ⟨R, 0, none⟩) (whole_apart hN4.out hR4.out (by decide)) (.int .u8 109)).away (p := ⟨R, 1, none⟩) (whole_apart hN4.out hR4.out (by decide)) (.int .u16 (n : Nat))).away (p := ⟨R, 2, none⟩) (whole_apart hN4.out hR4.out (by decide)) (.func (.func 190) #[] #[.pointer (some ⟨U, 0, none⟩), .pointer (some ⟨L, 0, none⟩), .pointer (some ⟨N, 0, none⟩)])).away (p := ⟨R, 3, none⟩) (whole_apart hN4.out hR4.out (by decide)) (.func (.func 192) #[] #[.pointer (some ⟨U, 0, none⟩), .pointer (some ⟨L, 0, none⟩), .pointer (some ⟨N, 0, none⟩)]))⟩))⟩⟩)
        clear hg hz F
        go_wp2_with fail
        exact bodyPost_ret (v := .agg #[.int .u8 109, .int .u16 (n : Nat), (.func (.func 190) #[] #[.pointer (some ⟨U, 0, none⟩), .pointer (some ⟨L, 0, none⟩), .pointer (some ⟨N, 0, none⟩)]), (.func (.func 192) #[] #[.pointer (some ⟨U, 0, none⟩), .pointer (some ⟨L, 0, none⟩), .pointer (some ⟨N, 0, none⟩)])]) (by simp [results, Tryz.results136, go_sem, z0, z1, z2, z3]) rfl hfin.out
      · have hbo : K.B ≤ O ∧ w.heap.size ≤ O := ⟨Nat.le_trans hBw hUO.out, by rw [hwz]; exact hUO.out⟩
        have hbr : K.B ≤ R ∧ w.heap.size ≤ R := by have := hL1.out; have := hR1.out; omega
        have hg := (((((((Gd.mk hT4.out hk4.out ⟨_, hO4.out⟩ ⟨_, hR4.out⟩ hbo hbr hne).setO 2 (.func (.func 190) #[] #[.pointer (some ⟨U, 0, none⟩), .pointer (some ⟨L, 0, none⟩), .pointer (some ⟨N, 0, none⟩)])).setO 3 (.func (.func 192) #[] #[.pointer (some ⟨U, 0, none⟩), .pointer (some ⟨L, 0, none⟩), .pointer (some ⟨N, 0, none⟩)])).setR 0 (.int .u8 98)).setR 1 (.int .u16 (n : Nat))).setR 2 (.func (.func 190) #[] #[.pointer (some ⟨U, 0, none⟩), .pointer (some ⟨L, 0, none⟩), .pointer (some ⟨N, 0, none⟩)])).setR 3 (.func (.func 192) #[] #[.pointer (some ⟨U, 0, none⟩), .pointer (some ⟨L, 0, none⟩), .pointer (some ⟨N, 0, none⟩)]))
        have hz := ((((((hR4.out.away (p := ⟨O, 2, none⟩) hne (.func (.func 190) #[] #[.pointer (some ⟨U, 0, none⟩), .pointer (some ⟨L, 0, none⟩), .pointer (some ⟨N, 0, none⟩)])).away (p := ⟨O, 3, none⟩) hne (.func (.func 192) #[] #[.pointer (some ⟨U, 0, none⟩), .pointer (some ⟨L, 0, none⟩), .pointer (some ⟨N, 0, none⟩)])).put 0 (.int .u8 98)).put 1 (.int .u16 (n : Nat))).put 2 (.func (.func 190) #[] #[.pointer (some ⟨U, 0, none⟩), .pointer (some ⟨L, 0, none⟩), .pointer (some ⟨N, 0, none⟩)])).put 3 (.func (.func 192) #[] #[.pointer (some ⟨U, 0, none⟩), .pointer (some ⟨L, 0, none⟩), .pointer (some ⟨N, 0, none⟩)]))
        have z0 := hz.cell 0
        have z1 := hz.cell 1
        have z2 := hz.cell 2
        have z3 := hz.cell 3
        simp only [List.getElem?_toArray, List.getElem?_cons_zero, List.getElem?_cons_succ, List.setIfInBounds_toArray, List.set_cons_zero, List.set_cons_succ] at z0 z1 z2 z3
        have hfin := Lib.hid (F.out (.returned (.agg #[.int .u8 ((98 : Nat) : Int), .int .u16 (n : Nat), (.func (.func 190) #[] #[.pointer (some ⟨U, 0, none⟩), .pointer (some ⟨L, 0, none⟩), .pointer (some ⟨N, 0, none⟩)]), (.func (.func 192) #[] #[.pointer (some ⟨U, 0, none⟩), .pointer (some ⟨L, 0, none⟩), .pointer (some ⟨N, 0, none⟩)])])) _ ⟨s', hg.t, hg.k, hh.out.2.2.1, .inl ⟨n, (.func (.func 190) #[] #[.pointer (some ⟨U, 0, none⟩), .pointer (some ⟨L, 0, none⟩), .pointer (some ⟨N, 0, none⟩)]), (.func (.func 192) #[] #[.pointer (some ⟨U, 0, none⟩), .pointer (some ⟨L, 0, none⟩), .pointer (some ⟨N, 0, none⟩)]), hh.out.1, hh.out.2.1, rfl, .inr (.inr (.inl ⟨hc2.out, U, L, N, rfl, rfl, ((((((hU4.out.away (p := ⟨O, 2, none⟩) (whole_apart hU4.out hO4.out (by decide)) (.func (.func 190) #[] #[.pointer (some ⟨U, 0, none⟩), .pointer (some ⟨L, 0, none⟩), .pointer (some ⟨N, 0, none⟩)])).away (p := ⟨O, 3, none⟩) (whole_apart hU4.out hO4.out (by decide)) (.func (.func 192) #[] #[.pointer (some ⟨U, 0, none⟩), .pointer (some ⟨L, 0, none⟩), .pointer (some ⟨N, 0, none⟩)])).away (p := ⟨R, 0, none⟩) (whole_apart hU4.out hR4.out (by decide)) (.int .u8 98)).away (p := ⟨R, 1, none⟩) (whole_apart hU4.out hR4.out (by decide)) (.int .u16 (n : Nat))).away (p := ⟨R, 2, none⟩) (whole_apart hU4.out hR4.out (by decide)) (.func (.func 190) #[] #[.pointer (some ⟨U, 0, none⟩), .pointer (some ⟨L, 0, none⟩), .pointer (some ⟨N, 0, none⟩)])).away (p := ⟨R, 3, none⟩) (whole_apart hU4.out hR4.out (by decide)) (.func (.func 192) #[] #[.pointer (some ⟨U, 0, none⟩), .pointer (some ⟨L, 0, none⟩), .pointer (some ⟨N, 0, none⟩)])), ((((((hL4.out.away (p := ⟨O, 2, none⟩) (whole_apart hL4.out hO4.out (by decide)) (.func (.func 190) #[] #[.pointer (some ⟨U, 0, none⟩), .pointer (some ⟨L, 0, none⟩), .pointer (some ⟨N, 0, none⟩)])).away (p := ⟨O, 3, none⟩) (whole_apart hL4.out hO4.out (by decide)) (.func (.func 192) #[] #[.pointer (some ⟨U, 0, none⟩), .pointer (some ⟨L, 0, none⟩), .pointer (some ⟨N, 0, none⟩)])).away (p := ⟨R, 0, none⟩) (whole_apart hL4.out hR4.out (by decide)) (.int .u8 98)).away (p := ⟨R, 1, none⟩) (whole_apart hL4.out hR4.out (by decide)) (.int .u16 (n : Nat))).away (p := ⟨R, 2, none⟩) (whole_apart hL4.out hR4.out (by decide)) (.func (.func 190) #[] #[.pointer (some ⟨U, 0, none⟩), .pointer (some ⟨L, 0, none⟩), .pointer (some ⟨N, 0, none⟩)])).away (p := ⟨R, 3, none⟩) (whole_apart hL4.out hR4.out (by decide)) (.func (.func 192) #[] #[.pointer (some ⟨U, 0, none⟩), .pointer (some ⟨L, 0, none⟩), .pointer (some ⟨N, 0, none⟩)])), ((((((hN4.out.away (p := ⟨O, 2, none⟩) (whole_apart hN4.out hO4.out (by decide)) (.func (.func 190) #[] #[.pointer (some ⟨U, 0, none⟩), .pointer (some ⟨L, 0, none⟩), .pointer (some ⟨N, 0, none⟩)])).away (p := ⟨O, 3, none⟩) (whole_apart hN4.out hO4.out (by decide)) (.func (.func 192) #[] #[.pointer (some ⟨U, 0, none⟩), .pointer (some ⟨L, 0, none⟩), .pointer (some ⟨N, 0, none⟩)])).away (p := ⟨R, 0, none⟩) (whole_apart hN4.out hR4.out (by decide)) (.int .u8 98)).away (p := ⟨R, 1, none⟩) (whole_apart hN4.out hR4.out (by decide)) (.int .u16 (n : Nat))).away (p := ⟨R, 2, none⟩) (whole_apart hN4.out hR4.out (by decide)) (.func (.func 190) #[] #[.pointer (some ⟨U, 0, none⟩), .pointer (some ⟨L, 0, none⟩), .pointer (some ⟨N, 0, none⟩)])).away (p := ⟨R, 3, none⟩) (whole_apart hN4.out hR4.out (by decide)) (.func (.func 192) #[] #[.pointer (some ⟨U, 0, none⟩), .pointer (some ⟨L, 0, none⟩), .pointer (some ⟨N, 0, none⟩)]))⟩))⟩⟩)
        clear hg hz F
        go_wp2_with fail
        exact bodyPost_ret (v := .agg #[.int .u8 98, .int .u16 (n : Nat), (.func (.func 190) #[] #[.pointer (some ⟨U, 0, none⟩), .pointer (some ⟨L, 0, none⟩), .pointer (some ⟨N, 0, none⟩)]), (.func (.func 192) #[] #[.pointer (some ⟨U, 0, none⟩), .pointer (some ⟨L, 0, none⟩), .pointer (some ⟨N, 0, none⟩)])]) (by simp [results, Tryz.results136, go_sem, z0, z1, z2, z3]) rfl hfin.out
      · have hbo : K.B ≤ O ∧ w.heap.size ≤ O := ⟨Nat.le_trans hBw hUO.out, by rw [hwz]; exact hUO.out⟩
        have hbr : K.B ≤ R ∧ w.heap.size ≤ R := by have := hL1.out; have := hR1.out; omega
        have hg := (((((((Gd.mk hT4.out hk4.out ⟨_, hO4.out⟩ ⟨_, hR4.out⟩ hbo hbr hne).setO 2 (.func (.func 190) #[] #[.pointer (some ⟨U, 0, none⟩), .pointer (some ⟨L, 0, none⟩), .pointer (some ⟨N, 0, none⟩)])).setO 3 (.func (.func 192) #[] #[.pointer (some ⟨U, 0, none⟩), .pointer (some ⟨L, 0, none⟩), .pointer (some ⟨N, 0, none⟩)])).setR 0 (.int .u8 110)).setR 1 (.int .u16 (n : Nat))).setR 2 (.func (.func 190) #[] #[.pointer (some ⟨U, 0, none⟩), .pointer (some ⟨L, 0, none⟩), .pointer (some ⟨N, 0, none⟩)])).setR 3 (.func (.func 192) #[] #[.pointer (some ⟨U, 0, none⟩), .pointer (some ⟨L, 0, none⟩), .pointer (some ⟨N, 0, none⟩)]))
        have hz := ((((((hR4.out.away (p := ⟨O, 2, none⟩) hne (.func (.func 190) #[] #[.pointer (some ⟨U, 0, none⟩), .pointer (some ⟨L, 0, none⟩), .pointer (some ⟨N, 0, none⟩)])).away (p := ⟨O, 3, none⟩) hne (.func (.func 192) #[] #[.pointer (some ⟨U, 0, none⟩), .pointer (some ⟨L, 0, none⟩), .pointer (some ⟨N, 0, none⟩)])).put 0 (.int .u8 110)).put 1 (.int .u16 (n : Nat))).put 2 (.func (.func 190) #[] #[.pointer (some ⟨U, 0, none⟩), .pointer (some ⟨L, 0, none⟩), .pointer (some ⟨N, 0, none⟩)])).put 3 (.func (.func 192) #[] #[.pointer (some ⟨U, 0, none⟩), .pointer (some ⟨L, 0, none⟩), .pointer (some ⟨N, 0, none⟩)]))
        have z0 := hz.cell 0
        have z1 := hz.cell 1
        have z2 := hz.cell 2
        have z3 := hz.cell 3
        simp only [List.getElem?_toArray, List.getElem?_cons_zero, List.getElem?_cons_succ, List.setIfInBounds_toArray, List.set_cons_zero, List.set_cons_succ] at z0 z1 z2 z3
        have hfin := Lib.hid (F.out (.returned (.agg #[.int .u8 ((110 : Nat) : Int), .int .u16 (n : Nat), (.func (.func 190) #[] #[.pointer (some ⟨U, 0, none⟩), .pointer (some ⟨L, 0, none⟩), .pointer (some ⟨N, 0, none⟩)]), (.func (.func 192) #[] #[.pointer (some ⟨U, 0, none⟩), .pointer (some ⟨L, 0, none⟩), .pointer (some ⟨N, 0, none⟩)])])) _ ⟨s', hg.t, hg.k, hh.out.2.2.1, .inl ⟨n, (.func (.func 190) #[] #[.pointer (some ⟨U, 0, none⟩), .pointer (some ⟨L, 0, none⟩), .pointer (some ⟨N, 0, none⟩)]), (.func (.func 192) #[] #[.pointer (some ⟨U, 0, none⟩), .pointer (some ⟨L, 0, none⟩), .pointer (some ⟨N, 0, none⟩)]), hh.out.1, hh.out.2.1, rfl, .inr (.inr (.inl ⟨hc2.out, U, L, N, rfl, rfl, ((((((hU4.out.away (p := ⟨O, 2, none⟩) (whole_apart hU4.out hO4.out (by decide)) (.func (.func 190) #[] #[.pointer (some ⟨U, 0, none⟩), .pointer (some ⟨L, 0, none⟩), .pointer (some ⟨N, 0, none⟩)])).away (p := ⟨O, 3, none⟩) (whole_apart hU4.out hO4.out (by decide)) (.func (.func 192) #[] #[.pointer (some ⟨U, 0, none⟩), .pointer (some ⟨L, 0, none⟩), .pointer (some ⟨N, 0, none⟩)])).away (p := ⟨R, 0, none⟩) (whole_apart hU4.out hR4.out (by decide)) (.int .u8 110)).away (p := ⟨R, 1, none⟩) (whole_apart hU4.out hR4.out (by decide)) (.int .u16 (n : Nat))).away (p := ⟨R, 2, none⟩) (whole_apart hU4.out hR4.out (by decide)) (.func (.func 190) #[] #[.pointer (some ⟨U, 0, none⟩), .pointer (some ⟨L, 0, none⟩), .pointer (some ⟨N, 0, none⟩)])).away (p := ⟨R, 3, none⟩) (whole_apart hU4.out hR4.out (by decide)) (.func (.func 192) #[] #[.pointer (some ⟨U, 0, none⟩), .pointer (some ⟨L, 0, none⟩), .pointer (some ⟨N, 0, none⟩)])), ((((((hL4.out.away (p := ⟨O, 2, none⟩) (whole_apart hL4.out hO4.out (by decide)) (.func (.func 190) #[] #[.pointer (some ⟨U, 0, none⟩), .pointer (some ⟨L, 0, none⟩), .pointer (some ⟨N, 0, none⟩)])).away (p := ⟨O, 3, none⟩) (whole_apart hL4.out hO4.out (by decide)) (.func (.func 192) #[] #[.pointer (some ⟨U, 0, none⟩), .pointer (some ⟨L, 0, none⟩), .pointer (some ⟨N, 0, none⟩)])).away (p := ⟨R, 0, none⟩) (whole_apart hL4.out hR4.out (by decide)) (.int .u8 110)).away (p := ⟨R, 1, none⟩) (whole_apart hL4.out hR4.out (by decide)) (.int .u16 (n : Nat))).away (p := ⟨R, 2, none⟩) (whole_apart hL4.out hR4.out (by decide)) (.func (.func 190) #[] #[.pointer (some ⟨U, 0, none⟩), .pointer (some ⟨L, 0, none⟩), .pointer (some ⟨N, 0, none⟩)])).away (p := ⟨R, 3, none⟩) (whole_apart hL4.out hR4.out (by decide)) (.func (.func 192) #[] #[.pointer (some ⟨U, 0, none⟩), .pointer (some ⟨L, 0, none⟩), .pointer (some ⟨N, 0, none⟩)])), ((((((hN4.out.away (p := ⟨O, 2, none⟩) (whole_apart hN4.out hO4.out (by decide)) (.func (.func 190) #[] #[.pointer (some ⟨U, 0, none⟩), .pointer (some ⟨L, 0, none⟩), .pointer (some ⟨N, 0, none⟩)])).away (p := ⟨O, 3, none⟩) (whole_apart hN4.out hO4.out (by decide)) (.func (.func 192) #[] #[.pointer (some ⟨U, 0, none⟩), .pointer (some ⟨L, 0, none⟩), .pointer (some ⟨N, 0, none⟩)])).away (p := ⟨R, 0, none⟩) (whole_apart hN4.out hR4.out (by decide)) (.int .u8 110)).away (p := ⟨R, 1, none⟩) (whole_apart hN4.out hR4.out (by decide)) (.int .u16 (n : Nat))).away (p := ⟨R, 2, none⟩) (whole_apart hN4.out hR4.out (by decide)) (.func (.func 190) #[] #[.pointer (some ⟨U, 0, none⟩), .pointer (some ⟨L, 0, none⟩), .pointer (some ⟨N, 0, none⟩)])).away (p := ⟨R, 3, none⟩) (whole_apart hN4.out hR4.out (by decide)) (.func (.func 192) #[] #[.pointer (some ⟨U, 0, none⟩), .pointer (some ⟨L, 0, none⟩), .pointer (some ⟨N, 0, none⟩)]))⟩))⟩⟩)
        clear hg hz F
        go_wp2_with fail
        exact bodyPost_ret (v := .agg #[.int .u8 110, .int .u16 (n : Nat), (.func (.func 190) #[] #[.pointer (some ⟨U, 0, none⟩), .pointer (some ⟨L, 0, none⟩), .pointer (some ⟨N, 0, none⟩)]), (.func (.func 192) #[] #[.pointer (some ⟨U, 0, none⟩), .pointer (some ⟨L, 0, none⟩), .pointer (some ⟨N, 0, none⟩)])]) (by simp [results, Tryz.results136, go_sem, z0, z1, z2, z3]) rfl hfin.out
      · have hbo : K.B ≤ O ∧ w.heap.size ≤ O := ⟨Nat.le_trans hBw hUO.out, by rw [hwz]; exact hUO.out⟩
        have hbr : K.B ≤ R ∧ w.heap.size ≤ R := by have := hL1.out; have := hR1.out; omega
        have hg := (((((((Gd.mk hT4.out hk4.out ⟨_, hO4.out⟩ ⟨_, hR4.out⟩ hbo hbr hne).setO 2 (.func (.func 190) #[] #[.pointer (some ⟨U, 0, none⟩), .pointer (some ⟨L, 0, none⟩), .pointer (some ⟨N, 0, none⟩)])).setO 3 (.func (.func 192) #[] #[.pointer (some ⟨U, 0, none⟩), .pointer (some ⟨L, 0, none⟩), .pointer (some ⟨N, 0, none⟩)])).setR 0 (.int .u8 47)).setR 1 (.int .u16 (n : Nat))).setR 2 (.func (.func 190) #[] #[.pointer (some ⟨U, 0, none⟩), .pointer (some ⟨L, 0, none⟩), .pointer (some ⟨N, 0, none⟩)])).setR 3 (.func (.func 192) #[] #[.pointer (some ⟨U, 0, none⟩), .pointer (some ⟨L, 0, none⟩), .pointer (some ⟨N, 0, none⟩)]))
        have hz := ((((((hR4.out.away (p := ⟨O, 2, none⟩) hne (.func (.func 190) #[] #[.pointer (some ⟨U, 0, none⟩), .pointer (some ⟨L, 0, none⟩), .pointer (some ⟨N, 0, none⟩)])).away (p := ⟨O, 3, none⟩) hne (.func (.func 192) #[] #[.pointer (some ⟨U, 0, none⟩), .pointer (some ⟨L, 0, none⟩), .pointer (some ⟨N, 0, none⟩)])).put 0 (.int .u8 47)).put 1 (.int .u16 (n : Nat))).put 2 (.func (.func 190) #[] #[.pointer (some ⟨U, 0, none⟩), .pointer (some ⟨L, 0, none⟩), .pointer (some ⟨N, 0, none⟩)])).put 3 (.func (.func 192) #[] #[.pointer (some ⟨U, 0, none⟩), .pointer (some ⟨L, 0, none⟩), .pointer (some ⟨N, 0, none⟩)]))
        have z0 := hz.cell 0
        have z1 := hz.cell 1
        have z2 := hz.cell 2
        have z3 := hz.cell 3
        simp only [List.getElem?_toArray, List.getElem?_cons_zero, List.getElem?_cons_succ, List.setIfInBounds_toArray, List.set_cons_zero, List.set_cons_succ] at z0 z1 z2 z3
        have hfin := Lib.hid (F.out (.returned (.agg #[.int .u8 ((47 : Nat) : Int), .int .u16 (n : Nat), (.func (.func 190) #[] #[.pointer (some ⟨U, 0, none⟩), .pointer (some ⟨L, 0, none⟩), .pointer (some ⟨N, 0, none⟩)]), (.func (.func 192) #[] #[.pointer (some ⟨U, 0, none⟩), .pointer (some ⟨L, 0, none⟩), .pointer (some ⟨N, 0, none⟩)])])) _ ⟨s', hg.t, hg.k, hh.out.2.2.1, .inl ⟨n, (.func (.func 190) #[] #[.pointer (some ⟨U, 0, none⟩), .pointer (some ⟨L, 0, none⟩), .pointer (some ⟨N, 0, none⟩)]), (.func (.func 192) #[] #[.pointer (some ⟨U, 0, none⟩), .pointer (some ⟨L, 0, none⟩), .pointer (some ⟨N, 0, none⟩)]), hh.out.1, hh.out.2.1, rfl, .inr (.inr (.inl ⟨hc2.out, U, L, N, rfl, rfl, ((((((hU4.out.away (p := ⟨O, 2, none⟩) (whole_apart hU4.out hO4.out (by decide)) (.func (.func 190) #[] #[.pointer (some ⟨U, 0, none⟩), .pointer (some ⟨L, 0, none⟩), .pointer (some ⟨N, 0, none⟩)])).away (p := ⟨O, 3, none⟩) (whole_apart hU4.out hO4.out (by decide)) (.func (.func 192) #[] #[.pointer (some ⟨U, 0, none⟩), .pointer (some ⟨L, 0, none⟩), .pointer (some ⟨N, 0, none⟩)])).away (p := ⟨R, 0, none⟩) (whole_apart hU4.out hR4.out (by decide)) (.int .u8 47)).away (p := ⟨R, 1, none⟩) (whole_apart hU4.out hR4.out (by decide)) (.int .u16 (n : Nat))).away (p := ⟨R, 2, none⟩) (whole_apart hU4.out hR4.out (by decide)) (.func (.func 190) #[] #[.pointer (some ⟨U, 0, none⟩), .pointer (some ⟨L, 0, none⟩), .pointer (some ⟨N, 0, none⟩)])).away (p := ⟨R, 3, none⟩) (whole_apart hU4.out hR4.out (by decide)) (.func (.func 192) #[] #[.pointer (some ⟨U, 0, none⟩), .pointer (some ⟨L, 0, none⟩), .pointer (some ⟨N, 0, none⟩)])), ((((((hL4.out.away (p := ⟨O, 2, none⟩) (whole_apart hL4.out hO4.out (by decide)) (.func (.func 190) #[] #[.pointer (some ⟨U, 0, none⟩), .pointer (some ⟨L, 0, none⟩), .pointer (some ⟨N, 0, none⟩)])).away (p := ⟨O, 3, none⟩) (whole_apart hL4.out hO4.out (by decide)) (.func (.func 192) #[] #[.pointer (some ⟨U, 0, none⟩), .pointer (some ⟨L, 0, none⟩), .pointer (some ⟨N, 0, none⟩)])).away (p := ⟨R, 0, none⟩) (whole_apart hL4.out hR4.out (by decide)) (.int .u8 47)).away (p := ⟨R, 1, none⟩) (whole_apart hL4.out hR4.out (by decide)) (.int .u16 (n : Nat))).away (p := ⟨R, 2, none⟩) (whole_apart hL4.out hR4.out (by decide)) (.func (.func 190) #[] #[.pointer (some ⟨U, 0, none⟩), .pointer (some ⟨L, 0, none⟩), .pointer (some ⟨N, 0, none⟩)])).away (p := ⟨R, 3, none⟩) (whole_apart hL4.out hR4.out (by decide)) (.func (.func 192) #[] #[.pointer (some ⟨U, 0, none⟩), .pointer (some ⟨L, 0, none⟩), .pointer (some ⟨N, 0, none⟩)])), ((((((hN4.out.away (p := ⟨O, 2, none⟩) (whole_apart hN4.out hO4.out (by decide)) (.func (.func 190) #[] #[.pointer (some ⟨U, 0, none⟩), .pointer (some ⟨L, 0, none⟩), .pointer (some ⟨N, 0, none⟩)])).away (p := ⟨O, 3, none⟩) (whole_apart hN4.out hO4.out (by decide)) (.func (.func 192) #[] #[.pointer (some ⟨U, 0, none⟩), .pointer (some ⟨L, 0, none⟩), .pointer (some ⟨N, 0, none⟩)])).away (p := ⟨R, 0, none⟩) (whole_apart hN4.out hR4.out (by decide)) (.int .u8 47)).away (p := ⟨R, 1, none⟩) (whole_apart hN4.out hR4.out (by decide)) (.int .u16 (n : Nat))).away (p := ⟨R, 2, none⟩) (whole_apart hN4.out hR4.out (by decide)) (.func (.func 190) #[] #[.pointer (some ⟨U, 0, none⟩), .pointer (some ⟨L, 0, none⟩), .pointer (some ⟨N, 0, none⟩)])).away (p := ⟨R, 3, none⟩) (whole_apart hN4.out hR4.out (by decide)) (.func (.func 192) #[] #[.pointer (some ⟨U, 0, none⟩), .pointer (some ⟨L, 0, none⟩), .pointer (some ⟨N, 0, none⟩)]))⟩))⟩⟩)
        clear hg hz F
        go_wp2_with fail
        exact bodyPost_ret (v := .agg #[.int .u8 47, .int .u16 (n : Nat), (.func (.func 190) #[] #[.pointer (some ⟨U, 0, none⟩), .pointer (some ⟨L, 0, none⟩), .pointer (some ⟨N, 0, none⟩)]), (.func (.func 192) #[] #[.pointer (some ⟨U, 0, none⟩), .pointer (some ⟨L, 0, none⟩), .pointer (some ⟨N, 0, none⟩)])]) (by simp [results, Tryz.results136, go_sem, z0, z1, z2, z3]) rfl hfin.out
    · have hc2 := Lib.hid hc1
      simp only [noneL, List.mem_cons, List.not_mem_nil, or_false] at hc1
      rcases hc1 with rfl | rfl | rfl | rfl | rfl | rfl | rfl
      · have hbo : K.B ≤ O ∧ w.heap.size ≤ O := ⟨Nat.le_trans hBw hUO.out, by rw [hwz]; exact hUO.out⟩
        have hbr : K.B ≤ R ∧ w.heap.size ≤ R := by have := hL1.out; have := hR1.out; omega
        have hg := (((((Gd.mk hT4.out hk4.out ⟨_, hO4.out⟩ ⟨_, hR4.out⟩ hbo hbr hne).setR 0 (.int .u8 87)).setR 1 (.int .u16 (n : Nat))).setR 2 .nilFunc).setR 3 .nilFunc)
        have hz := ((((hR4.out.put 0 (.int .u8 87)).put 1 (.int .u16 (n : Nat))).put 2 .nilFunc).put 3 .nilFunc)
        have z0 := hz.cell 0
        have z1 := hz.cell 1
        have z2 := hz.cell 2
        have z3 := hz.cell 3
        simp only [List.getElem?_toArray, List.getElem?_cons_zero, List.getElem?_cons_succ, List.setIfInBounds_toArray, List.set_cons_zero, List.set_cons_succ] at z0 z1 z2 z3
        have hfin := Lib.hid (F.out (.returned (.agg #[.int .u8 ((87 : Nat) : Int), .int .u16 (n : Nat), .nilFunc, .nilFunc])) _ ⟨s', hg.t, hg.k, hh.out.2.2.1, .inl ⟨n, .nilFunc, .nilFunc, hh.out.1, hh.out.2.1, rfl, .inr (.inr (.inr ⟨by decide, by decide, by decide, rfl, rfl⟩))⟩⟩)
        clear hg hz F
        go_wp2_with fail
        exact bodyPost_ret (v := .agg #[.int .u8 87, .int .u16 (n : Nat), .nilFunc, .nilFunc]) (by simp [results, Tryz.results136, go_sem, z0, z1, z2, z3]) rfl hfin.out
      · have hbo : K.B ≤ O ∧ w.heap.size ≤ O := ⟨Nat.le_trans hBw hUO.out, by rw [hwz]; exact hUO.out⟩
        have hbr : K.B ≤ R ∧ w.heap.size ≤ R := by have := hL1.out; have := hR1.out; omega
        have hg := (((((Gd.mk hT4.out hk4.out ⟨_, hO4.out⟩ ⟨_, hR4.out⟩ hbo hbr hne).setR 0 (.int .u8 68)).setR 1 (.int .u16 (n : Nat))).setR 2 .nilFunc).setR 3 .nilFunc)
        have hz := ((((hR4.out.put 0 (.int .u8 68)).put 1 (.int .u16 (n : Nat))).put 2 .nilFunc).put 3 .nilFunc)
        have z0 := hz.cell 0
        have z1 := hz.cell 1
        have z2 := hz.cell 2
        have z3 := hz.cell 3
        simp only [List.getElem?_toArray, List.getElem?_cons_zero, List.getElem?_cons_succ, List.setIfInBounds_toArray, List.set_cons_zero, List.set_cons_succ] at z0 z1 z2 z3
        have hfin := Lib.hid (F.out (.returned (.agg #[.int .u8 ((68 : Nat) : Int), .int .u16 (n : Nat), .nilFunc, .nilFunc])) _ ⟨s', hg.t, hg.k, hh.out.2.2.1, .inl ⟨n, .nilFunc, .nilFunc, hh.out.1, hh.out.2.1, rfl, .inr (.inr (.inr ⟨by decide, by decide, by decide, rfl, rfl⟩))⟩⟩)
        clear hg hz F
        go_wp2_with fail
        exact bodyPost_ret (v := .agg #[.int .u8 68, .int .u16 (n : Nat), .nilFunc, .nilFunc]) (by simp [results, Tryz.results136, go_sem, z0, z1, z2, z3]) rfl hfin.out
      · have hbo : K.B ≤ O ∧ w.heap.size ≤ O := ⟨Nat.le_trans hBw hUO.out, by rw [hwz]; exact hUO.out⟩
        have hbr : K.B ≤ R ∧ w.heap.size ≤ R := by have := hL1.out; have := hR1.out; omega
        have hg := (((((Gd.mk hT4.out hk4.out ⟨_, hO4.out⟩ ⟨_, hR4.out⟩ hbo hbr hne).setR 0 (.int .u8 67)).setR 1 (.int .u16 (n : Nat))).setR 2 .nilFunc).setR 3 .nilFunc)
        have hz := ((((hR4.out.put 0 (.int .u8 67)).put 1 (.int .u16 (n : Nat))).put 2 .nilFunc).put 3 .nilFunc)
        have z0 := hz.cell 0
        have z1 := hz.cell 1
        have z2 := hz.cell 2
        have z3 := hz.cell 3
        simp only [List.getElem?_toArray, List.getElem?_cons_zero, List.getElem?_cons_succ, List.setIfInBounds_toArray, List.set_cons_zero, List.set_cons_succ] at z0 z1 z2 z3
        have hfin := Lib.hid (F.out (.returned (.agg #[.int .u8 ((67 : Nat) : Int), .int .u16 (n : Nat), .nilFunc, .nilFunc])) _ ⟨s', hg.t, hg.k, hh.out.2.2.1, .inl ⟨n, .nilFunc, .nilFunc, hh.out.1, hh.out.2.1, rfl, .inr (.inr (.inr ⟨by decide, by decide, by decide, rfl, rfl⟩))⟩⟩)
        clear hg hz F
        go_wp2_with fail
        exact bodyPost_ret (v := .agg #[.int .u8 67, .int .u16 (n : Nat), .nilFunc, .nilFunc]) (by simp [results, Tryz.results136, go_sem, z0, z1, z2, z3]) rfl hfin.out
      · have hbo : K.B ≤ O ∧ w.heap.size ≤ O := ⟨Nat.le_trans hBw hUO.out, by rw [hwz]; exact hUO.out⟩
        have hbr : K.B ≤ R ∧ w.heap.size ≤ R := by have := hL1.out; have := hR1.out; omega
        have hg := (((((Gd.mk hT4.out hk4.out ⟨_, hO4.out⟩ ⟨_, hR4.out⟩ hbo hbr hne).setR 0 (.int .u8 42)).setR 1 (.int .u16 (n : Nat))).setR 2 .nilFunc).setR 3 .nilFunc)
        have hz := ((((hR4.out.put 0 (.int .u8 42)).put 1 (.int .u16 (n : Nat))).put 2 .nilFunc).put 3 .nilFunc)
        have z0 := hz.cell 0
        have z1 := hz.cell 1
        have z2 := hz.cell 2
        have z3 := hz.cell 3
        simp only [List.getElem?_toArray, List.getElem?_cons_zero, List.getElem?_cons_succ, List.setIfInBounds_toArray, List.set_cons_zero, List.set_cons_succ] at z0 z1 z2 z3
        have hfin := Lib.hid (F.out (.returned (.agg #[.int .u8 ((42 : Nat) : Int), .int .u16 (n : Nat), .nilFunc, .nilFunc])) _ ⟨s', hg.t, hg.k, hh.out.2.2.1, .inl ⟨n, .nilFunc, .nilFunc, hh.out.1, hh.out.2.1, rfl, .inr (.inr (.inr ⟨by decide, by decide, by decide, rfl, rfl⟩))⟩⟩)
        clear hg hz F
        go_wp2_with fail
        exact bodyPost_ret (v := .agg #[.int .u8 42, .int .u16 (n : Nat), .nilFunc, .nilFunc]) (by simp [results, Tryz.results136, go_sem, z0, z1, z2, z3]) rfl hfin.out
      · have hbo : K.B ≤ O ∧ w.heap.size ≤ O := ⟨Nat.le_trans hBw hUO.out, by rw [hwz]; exact hUO.out⟩
        have hbr : K.B ≤ R ∧ w.heap.size ≤ R := by have := hL1.out; have := hR1.out; omega
        have hg := (((((Gd.mk hT4.out hk4.out ⟨_, hO4.out⟩ ⟨_, hR4.out⟩ hbo hbr hne).setR 0 (.int .u8 117)).setR 1 (.int .u16 (n : Nat))).setR 2 .nilFunc).setR 3 .nilFunc)
        have hz := ((((hR4.out.put 0 (.int .u8 117)).put 1 (.int .u16 (n : Nat))).put 2 .nilFunc).put 3 .nilFunc)
        have z0 := hz.cell 0
        have z1 := hz.cell 1
        have z2 := hz.cell 2
        have z3 := hz.cell 3
        simp only [List.getElem?_toArray, List.getElem?_cons_zero, List.getElem?_cons_succ, List.setIfInBounds_toArray, List.set_cons_zero, List.set_cons_succ] at z0 z1 z2 z3
        have hfin := Lib.hid (F.out (.returned (.agg #[.int .u8 ((117 : Nat) : Int), .int .u16 (n : Nat), .nilFunc, .nilFunc])) _ ⟨s', hg.t, hg.k, hh.out.2.2.1, .inl ⟨n, .nilFunc, .nilFunc, hh.out.1, hh.out.2.1, rfl, .inr (.inr (.inr ⟨by decide, by decide, by decide, rfl, rfl⟩))⟩⟩)
        clear hg hz F
        go_wp2_with fail
        exact bodyPost_ret (v := .agg #[.int .u8 117, .int .u16 (n : Nat), .nilFunc, .nilFunc]) (by simp [results, Tryz.results136, go_sem, z0, z1, z2, z3]) rfl hfin.out
      · have hbo : K.B ≤ O ∧ w.heap.size ≤ O := ⟨Nat.le_trans hBw hUO.out, by rw [hwz]; exact hUO.out⟩
        have hbr : K.B ≤ R ∧ w.heap.size ≤ R := by have := hL1.out; have := hR1.out; omega
        have hg := (((((Gd.mk hT4.out hk4.out ⟨_, hO4.out⟩ ⟨_, hR4.out⟩ hbo hbr hne).setR 0 (.int .u8 116)).setR 1 (.int .u16 (n : Nat))).setR 2 .nilFunc).setR 3 .nilFunc)
        have hz := ((((hR4.out.put 0 (.int .u8 116)).put 1 (.int .u16 (n : Nat))).put 2 .nilFunc).put 3 .nilFunc)
        have z0 := hz.cell 0
        have z1 := hz.cell 1
        have z2 := hz.cell 2
        have z3 := hz.cell 3
        simp only [List.getElem?_toArray, List.getElem?_cons_zero, List.getElem?_cons_succ, List.setIfInBounds_toArray, List.set_cons_zero, List.set_cons_succ] at z0 z1 z2 z3
        have hfin := Lib.hid (F.out (.returned (.agg #[.int .u8 ((116 : Nat) : Int), .int .u16 (n : Nat), .nilFunc, .nilFunc])) _ ⟨s', hg.t, hg.k, hh.out.2.2.1, .inl ⟨n, .nilFunc, .nilFunc, hh.out.1, hh.out.2.1, rfl, .inr (.inr (.inr ⟨by decide, by decide, by decide, rfl, rfl⟩))⟩⟩)
        clear hg hz F
        go_wp2_with fail
        exact bodyPost_ret (v := .agg #[.int .u8 116, .int .u16 (n : Nat), .nilFunc, .nilFunc]) (by simp [results, Tryz.results136, go_sem, z0, z1, z2, z3]) rfl hfin.out
      · have hbo : K.B ≤ O ∧ w.heap.size ≤ O := ⟨Nat.le_trans hBw hUO.out, by rw [hwz]; exact hUO.out⟩
        have hbr : K.B ≤ R ∧ w.heap.size ≤ R := by have := hL1.out; have := hR1.out; omega
        have hg := (((((Gd.mk hT4.out hk4.out ⟨_, hO4.out⟩ ⟨_, hR4.out⟩ hbo hbr hne).setR 0 (.int .u8 114)).setR 1 (.int .u16 (n : Nat))).setR 2 .nilFunc).setR 3 .nilFunc)
        have hz := ((((hR4.out.put 0 (.int .u8 114)).put 1 (.int .u16 (n : Nat))).put 2 .nilFunc).put 3 .nilFunc)
        have z0 := hz.cell 0
        have z1 := hz.cell 1
        have z2 := hz.cell 2
        have z3 := hz.cell 3
        simp only [List.getElem?_toArray, List.getElem?_cons_zero, List.getElem?_cons_succ, List.setIfInBounds_toArray, List.set_cons_zero, List.set_cons_succ] at z0 z1 z2 z3
        have hfin := Lib.hid (F.out (.returned (.agg #[.int .u8 ((114 : Nat) : Int), .int .u16 (n : Nat), .nilFunc, .nilFunc])) _ ⟨s', hg.t, hg.k, hh.out.2.2.1, .inl ⟨n, .nilFunc, .nilFunc, hh.out.1, hh.out.2.1, rfl, .inr (.inr (.inr ⟨by decide, by decide, by decide, rfl, rfl⟩))⟩⟩)
        clear hg hz F
        go_wp2_with fail
        exact bodyPost_ret (v := .agg #[.int .u8 114, .int .u16 (n : Nat), .nilFunc, .nilFunc]) (by simp [results, Tryz.results136, go_sem, z0, z1, z2, z3]) rfl hfin.out
end
end Go.Proofs.YtknlbmjncginnaaGreatDoor
