/-
  Load, by the code.
-/
import Derived.Test.YtbdhdedlemndeaaDoorKCan
namespace Go.Proofs.YtbdhdedlemndeaaDoor
open Go.RowKit Go.Shelf
set_option maxRecDepth 100000
set_option maxHeartbeats 1000000
set_option linter.unusedVariables false
set_option linter.unusedSimpArgs false

theorem canB_good {m : Nat} {F : Nat → Nat} (hF : ∀ i, i < m → F i < 256) (hm : m = 23) (h : canB (gF F 23) = true) : GoodT (gF F 23) := by
  simp only [canB, okK, Bool.and_eq_true, decide_eq_true_eq] at h
  obtain ⟨⟨⟨⟨a0, b0⟩, a1, b1⟩, a2, b2⟩, c⟩ := h
  exact ⟨fun i => by
    unfold gF
    split
    · exact hF i (by omega)
    · decide, a0, a1, a2, b0, b1, b2, c⟩
/-- What Load answers. -/
def loadE (m : Nat) (F : Nat → Nat) : Nat := if takeE m ≠ 0 then takeE m else if canB (gF F 23) then 0 else 130
theorem tick_info : (Tryd.prog.info? 66).map (·.size) = some 23 := by kernel_rfl
theorem load_at {P : Program} {t : TypeId} {ad : Addr} {w : World} {r : Value} (h : (loadVar t ad).run P w = .ok r w) : (Instr.loadAt t (.pointer (some ad))).run P w = .ok r w := by
  simp [Instr.loadAt, Instr.sureAddr, h]
theorem store_at {P : Program} {t : TypeId} {ad : Addr} {w w' : World} {v : Value} (h : (storeVar t ad v).run P w = .ok () w') : (Instr.storeAt t (.pointer (some ad)) v).run P w = .ok () w' := by
  simp [Instr.storeAt, Instr.sureAddr, h]
theorem Tq.row {w : World} {b : Nat} {f : Nat → Nat} (h : Tq w b f) : ∃ cs, (Instr.loadAt 66 (.pointer (some ⟨b, 0, none⟩))).run Tryd.prog w = .ok (.agg cs) w ∧ cs.size = 23 ∧ cs.all (·.oneCell') = true ∧ ∀ i, i < 23 → f i < 256 ∧ cs[i]? = some (.int .u8 (f i : Nat)) := by
  obtain ⟨cs, hw, hs, hc⟩ := h
  refine ⟨cs, load_at (run_loadVar_row w b 66 66 cs (0, 0) _ hw Tryd.underlying66 rfl (by rw [tick_info, hs])), hs, ?_, hc⟩
  rw [Array.all_eq_true]
  intro i hi
  have := (hc i (by omega)).2
  rw [Array.getElem?_eq_getElem hi] at this
  rw [Option.some.inj this]
  rfl
theorem Tq.stored {w : World} {b : Nat} {f g : Nat → Nat} {cs : Array Value} (h : Tq w b f) (hs : cs.size = 23) (h1 : cs.all (·.oneCell') = true) (hc : ∀ i, i < 23 → g i < 256 ∧ cs[i]? = some (.int .u8 (g i : Nat))) :
    (Instr.storeAt 66 (.pointer (some ⟨b, 0, none⟩)) (.agg cs)).run Tryd.prog w = .ok () (w.setRow b cs) ∧ Tq (w.setRow b cs) b g := by
  obtain ⟨ds, hw, hds, _⟩ := h
  exact ⟨store_at (run_storeVar_row w b 66 66 ds cs hw (by rw [tick_info, hs]) (by omega) h1), cs, setRow_heap w b ds cs 66 (0, 0) hw, hs, hc⟩
theorem wpList_loadVar {P : Program} {ops : Array Oper} {rest : List Oper} {o : Oper} {a : Act} {Q : Exit → Act → World → Prop} {w : World} (hgd : o.guard = none) (t : TypeId) (x : Operand) (ho : o.op = .load t x) (ad : Addr) (r : Value) (hx : a.eval x = .pointer (some ad)) (hr : (Instr.loadAt t (.pointer (some ad))).run P w = .ok r w)
    (h : wpList P ops Q rest (a.put o.dst r) w) : wpList P ops Q (o :: rest) a w :=
  wpList_plain hgd fun _ hK => by
    unfold Oper.wp
    simp [execOp, ho, hx, hr, asAddr, Result.andThen]
    exact hK _ _ h
theorem wpList_storeVar {P : Program} {ops : Array Oper} {rest : List Oper} {o : Oper} {a : Act} {Q : Exit → Act → World → Prop} {w w' : World} (hgd : o.guard = none) (t : TypeId) (x y : Operand) (ho : o.op = .store t x y) (ad : Addr) (v : Value) (hx : a.eval x = .pointer (some ad)) (hy : a.eval y = v) (hr : (Instr.storeAt t (.pointer (some ad)) v).run P w = .ok () w')
    (h : wpList P ops Q rest (a.put o.dst undef) w') : wpList P ops Q (o :: rest) a w :=
  wpList_plain hgd fun _ hK => by
    unfold Oper.wp
    simp [execOp, ho, hx, hy, hr, asAddr, Result.andThen]
    exact hK _ _ h
theorem zero_tq (w : World) : Tq (w.alloc (.cells #[.int .u8 0, .int .u8 0, .int .u8 0, .int .u8 0, .int .u8 0, .int .u8 0, .int .u8 0, .int .u8 0, .int .u8 0, .int .u8 0, .int .u8 0, .int .u8 0, .int .u8 0, .int .u8 0, .int .u8 0, .int .u8 0, .int .u8 0, .int .u8 0, .int .u8 0, .int .u8 0, .int .u8 0, .int .u8 0, .int .u8 0] 66)) w.heap.size (fun _ => 0) := ⟨_, Whole.fresh w _ _, rfl, fun i hi => by
    refine ⟨Nat.zero_lt_succ _, ?_⟩
    rcases (show i = 0 ∨ i = 1 ∨ i = 2 ∨ i = 3 ∨ i = 4 ∨ i = 5 ∨ i = 6 ∨ i = 7 ∨ i = 8 ∨ i = 9 ∨ i = 10 ∨ i = 11 ∨ i = 12 ∨ i = 13 ∨ i = 14 ∨ i = 15 ∨ i = 16 ∨ i = 17 ∨ i = 18 ∨ i = 19 ∨ i = 20 ∨ i = 21 ∨ i = 22 by omega) with rfl | rfl | rfl | rfl | rfl | rfl | rfl | rfl | rfl | rfl | rfl | rfl | rfl | rfl | rfl | rfl | rfl | rfl | rfl | rfl | rfl | rfl | rfl <;> rfl⟩
theorem takeE_zero {m : Nat} (h : takeE m = 0) : m = 23 := by
  unfold takeE at h
  split at h
  · cases h
  · split at h
    · omega
    · cases h
/-- What Load leaves. -/
structure Lded (w : World) (b R m : Nat) (v : Value) (f F : Nat → Nat) (w' : World) : Prop where
  no : loadE m F ≠ 0 → Tq w' b f
  ok : loadE m F = 0 → m = 23 ∧ Tq w' b (gF F 23) ∧ GoodT (gF F 23) ∧ Rd w' R v (rsK m F m).closed
  fr : Fr (fun x => x = R ∨ x = b) w w'
theorem kload_any {b R m : Nat} {v : Value} {f F : Nat → Nat} (w : World) (ht : Tq w b f) (hp : Pd w) (h : Rd w R v (rsN m F)) (hm : 5 + m ≤ 16777216) (hFb : ∀ i, i < m → F i < 256) (hR0 : R ≠ 0) :
    Calls Tryd.prog 24 #[.pointer (some ⟨b, 0, none⟩), .pointer (some ⟨R, 0, none⟩)] w fun e w' => e = .returned (.int .i64 (loadE m F : Nat)) ∧ Lded w b R m v f F w' := by
  have hB0 := (Below.refl w.heap.size w).alloc (Nat.le_refl _) (.cells #[.int .u8 0, .int .u8 0, .int .u8 0, .int .u8 0, .int .u8 0, .int .u8 0, .int .u8 0, .int .u8 0, .int .u8 0, .int .u8 0, .int .u8 0, .int .u8 0, .int .u8 0, .int .u8 0, .int .u8 0, .int .u8 0, .int .u8 0, .int .u8 0, .int .u8 0, .int .u8 0, .int .u8 0, .int .u8 0, .int .u8 0] 66)
  have hZ := zero_tq w
  have HT := Lib.hid (ktake_any (T := w.heap.size) _ (h.below hB0) hm hFb hZ)
  have hbR : b ≠ R ∧ v.ownBlock ≠ some b := by
    obtain ⟨tc, htc, -⟩ := ht
    exact h.whole htc (by decide) (by decide)
  have hbl := ht.lt
  have hRl := h.head.lt
  have ht1 := Lib.hid (ht.below hB0 ht.lt)
  have hp1 := Lib.hid (hp.below hB0 hp.lt)
  have hpl := hp.lt
  have hF1 := Lib.hid (Fr.of (S := fun x => x = R ∨ x = b) hB0)
  have HC := Lib.hid fun V g (hV : Tq V w.heap.size g) (hP : Pd V) => kcan_any V hV hP
  have hgood := Lib.hid fun (e : m = 23) (hc : canB (gF F 23) = true) => canB_good hFb e hc
  have hown : ∀ x, v.ownBlock = some x → x < w.heap.size := fun x hx => h.body.lt x hx
  replace hown := Lib.hid hown
  obtain ⟨W, hW⟩ : ∃ W, w.alloc (.cells #[.int .u8 0, .int .u8 0, .int .u8 0, .int .u8 0, .int .u8 0, .int .u8 0, .int .u8 0, .int .u8 0, .int .u8 0, .int .u8 0, .int .u8 0, .int .u8 0, .int .u8 0, .int .u8 0, .int .u8 0, .int .u8 0, .int .u8 0, .int .u8 0, .int .u8 0, .int .u8 0, .int .u8 0, .int .u8 0, .int .u8 0] 66) = W := ⟨_, rfl⟩
  rw [hW] at HT ht1 hp1 hF1
  replace hW := Lib.hid hW
  replace hbl := Lib.hid hbl
  replace hRl := Lib.hid hRl
  replace hpl := Lib.hid hpl
  replace hbR := Lib.hid hbR
  clear hB0 hZ ht hp h hFb hm
  have hTb := Lib.hid (Nat.ne_of_lt hbl.out)
  have hT0 := Lib.hid (Nat.ne_of_lt hpl.out)
  obtain ⟨T, hTe⟩ : ∃ T, w.heap.size = T := ⟨_, rfl⟩
  rw [hTe] at HT HC hTb hT0
  replace hTe := Lib.hid hTe
  go_enter Tryd.func24, Tryd.ntmps24
  go_upto_region 4 with (fail)
  rw [hW.out, hTe.out]
  clear hW
  by_cases hE : takeE m = 0
  · have hm := takeE_zero hE
    rw [hE] at HT
    replace hE := Lib.hid hE
    replace HT := Lib.hid HT.out
    go_wp2_with fail
    refine HT.out.mono ?_
    rintro e W2 ⟨rfl, hT2, hR2, hF2⟩
    have ht2 := hF2.tq ht1.out (by rintro (e | e); exact hbR.out.1 e; exact hTb.out e)
    have hp2 := hF2.pd hp1.out (by rintro (e | e); exact hR0 e.symm; exact hT0.out e)
    have hR2' := hR2 hm.symm
    have hT2' : Tq W2 T (gF F 23) := by rw [hm] at hT2; exact hT2
    have hfr2 : Fr (fun x => x = R ∨ x = b) w W2 := hF1.out.trans2 hF2 (by
      rintro x hx (e | e)
      · exact .inl e
      · exfalso; have := hTe.out; omega)
    have HC1 := Lib.hid (HC.out W2 _ hT2' hp2)
    replace ht2 := Lib.hid ht2
    replace hR2' := Lib.hid hR2'
    replace hT2' := Lib.hid hT2'
    replace hfr2 := Lib.hid hfr2
    clear HT hT2 hR2 hF2 hp2 HC hF1 ht1 hp1
    go_wp2_with fail
    refine HC1.out.mono ?_
    rintro e W3 ⟨rfl, n3, rfl⟩
    by_cases hc : canB (gF F 23) = true
    · have hLE : loadE m F = 0 := by unfold loadE; rw [if_neg (fun h => h hE.out), if_pos hc]
      have hG := Lib.hid (hgood.out hm hc)
      obtain ⟨cs, q1, q2, q3, q4⟩ := (hT2'.out.drewN n3).row
      obtain ⟨q5, q6⟩ := (ht2.out.drewN n3).stored q2 q3 q4
      have hR4 : Rd ((W2.drewN n3).setRow b cs) R v (rsK m F m).closed := (hR2'.out.drewN n3).kept (by
        simp only [World.setRow, Array.getElem?_modify]
        rw [if_neg hbR.out.1]) (fun x hx => by
        simp only [World.setRow, Array.getElem?_modify]
        rw [if_neg (fun e => hbR.out.2 (by rw [hx, e]))])
      have hF4 : Fr (fun x => x = R ∨ x = b) w ((W2.drewN n3).setRow b cs) := ⟨hfr2.out.os, hfr2.out.tape, hfr2.out.output, by simpa [World.setRow] using hfr2.out.size, fun k hk hS => by
        have : ((W2.drewN n3).setRow b cs).heap[k]? = W2.heap[k]? := by
          simp only [World.setRow, Array.getElem?_modify]
          rw [if_neg (fun e => hS (.inr e.symm))]
          rfl
        exact this.trans (hfr2.out.block k hk hS)⟩
      replace hR4 := Lib.hid hR4
      replace hF4 := Lib.hid hF4
      replace q6 := Lib.hid q6
      replace hLE := Lib.hid hLE
      replace q1 := Lib.hid q1
      replace q5 := Lib.hid q5
      clear HC1 q2 q3 q4 hfr2 hR2' hT2' ht2 hgood
      generalize canB (gF F 23) = C at *
      go_wp2_with (first | (refine wpList_loadVar rfl 66 _ rfl _ _ rfl q1.out ?_) | (refine wpList_storeVar rfl 66 _ _ rfl _ _ rfl rfl q5.out ?_))
      go_ret
      exact ⟨by rw [hLE.out]; rfl, ⟨fun e => absurd hLE.out e, fun _ => ⟨hm, q6.out, hG.out, hR4.out⟩, hF4.out⟩⟩
    · have hc' : canB (gF F 23) = false := by simpa using hc
      have hLE : loadE m F = 130 := by unfold loadE; rw [if_neg (fun h => h hE.out), if_neg hc]
      replace hLE := Lib.hid hLE
      have hF4 : Fr (fun x => x = R ∨ x = b) w (W2.drewN n3) := ⟨hfr2.out.os, hfr2.out.tape, hfr2.out.output, hfr2.out.size, hfr2.out.block⟩
      replace hF4 := Lib.hid hF4
      have ht4 := Lib.hid (ht2.out.drewN n3)
      clear HC1 hc hfr2 hR2' hT2' ht2 hgood
      go_wp2_with fail
      go_ret
      exact ⟨by rw [hLE.out]; rfl, ⟨fun _ => ht4.out, fun e => absurd (hLE.out.symm.trans e) (by decide), hF4.out⟩⟩
  · have hLE : loadE m F = takeE m := by unfold loadE; rw [if_pos hE]
    have t1 : ((takeE m : Int) == 0) = false := beq_eq_false_iff_ne.2 (by omega)
    have t2 : ((takeE m : Int) != 0) = true := by rw [bne, t1]; rfl
    have hE' := Lib.hid hE
    generalize hEe : takeE m = E at *
    replace hEe := Lib.hid hEe
    go_wp2_with fail
    refine HT.out.mono ?_
    rintro e W2 ⟨rfl, hT2, hR2, hF2⟩
    have ht2 := Lib.hid (hF2.tq ht1.out (by rintro (e | e); exact hbR.out.1 e; exact hTb.out e))
    have hfr2 : Fr (fun x => x = R ∨ x = b) w W2 := hF1.out.trans2 hF2 (by
      rintro x hx (e | e)
      · exact .inl e
      · exfalso; have := hTe.out; omega)
    replace hfr2 := Lib.hid hfr2
    replace hLE := Lib.hid hLE
    clear HT hT2 hR2 hF2 HC hF1 ht1 hp1 hE
    go_wp2_with fail
    go_ret
    exact ⟨by rw [hLE.out]; rfl, ⟨fun _ => ht2.out, fun e => by rw [hLE.out] at e; exact absurd e hE'.out, hfr2.out⟩⟩
end Go.Proofs.YtbdhdedlemndeaaDoor
