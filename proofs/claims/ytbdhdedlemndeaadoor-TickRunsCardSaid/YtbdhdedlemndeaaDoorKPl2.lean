/-
  places, whole (genkpl2.py writes this text).
-/
import Derived.Test.YtbdhdedlemndeaaDoorKPla
import Derived.Deep.RegionLaw
import Derived.Laws.OwnMore
import Derived.Deep.RegionWith
namespace Go.Proofs.YtbdhdedlemndeaaDoor
open Go.RowKit Go.Shelf
set_option maxRecDepth 100000
set_option maxHeartbeats 1000000
set_option linter.unusedVariables false
set_option linter.unusedSimpArgs false

theorem kwpList_append_ran {ops : Array Oper} {rest : List Oper} {o : Oper} {a : Act} {Q : Exit → Act → World → Prop} {P : Program} {w : World} (hgd : o.guard = none) (s x : Operand) (t t' : TypeId)
    (ho : o.op = .call { callee := .builtin .append, args := #[s, x], argTypes := #[t, t'] }) (v u r : Value) (w' : World) (hs : a.eval s = v) (hx : a.eval x = u) (hr : (Builtin.append_ #[t, t'] o.type #[v, u]).run P w = .ok r w')
    (h : wpList P ops Q rest (a.put o.dst r) w') : wpList P ops Q (o :: rest) a w :=
  wpList_plain hgd fun _ hK => by
    unfold Oper.wp
    simp [execOp, ho, resolve, invoke, builtin, hs, hx, hr, Result.andThen]
    exact hK _ _ h
/-- A list of one's own of the first n places. -/
structure PlR (b : Nat) (w : World) (lv : Value) (n : Nat) (V : World) : Prop where
  own : V.ownsRow w.heap.size 101 1 lv n (ptrs b n)
  bel : Below w.heap.size w V
theorem ptrs_ran {b : Nat} {w W2 : World} {lv : Value} {n m X c : Nat} {t : TypeId} (h : PlR b w lv n W2) (news : List Value) (ty : TypeId) (hX : Whole W2 X t news.toArray) (hl : news.length = m) (h1 : ∀ u ∈ news, u.oneCell' = true) (hm : 0 < m) (hb : n + m ≤ 1000) (e : ptrs b n ++ news = ptrs b (n + m)) :
    ∃ lv' W', (Builtin.append_ #[99, 99] ty #[lv, .slice (some ⟨X, 0, none⟩) m c]).run Tryd.prog W2 = .ok lv' W' ∧ PlR b w lv' (n + m) W' ∧ ∀ g t' cs, Whole W2 g t' cs → 101 ≠ t' → Whole W' g t' cs := by
  obtain ⟨lv', W', hr, ho, hB, hk⟩ := app_ptr W2 ty t lv n m X w.heap.size c _ news h.own hX hl h1 hm hb h.bel.size
  rw [e] at ho
  exact ⟨lv', W', hr, ⟨ho, h.bel.trans hB⟩, hk⟩
theorem PlR.grow {b n : Nat} {w V V' : World} {lv : Value} (h : PlR b w lv n V) (hB : Below V.heap.size V V') : PlR b w lv n V' :=
  ⟨h.own.kept (row := none) ⟨hB.os, hB.tape, hB.output, hB.size, fun k hk _ => hB.block k hk⟩ (by
    rcases h.own.2 with ⟨rfl, _⟩ | ⟨g, cap, cur, rfl, _⟩
    · exact .inl rfl
    · exact .inr (by simp [Value.ownBlock])), h.bel.trans (hB.mono h.bel.size)⟩
/-- How many places stand ahead of row j. -/
def cntR (j : Nat) : Nat := if j = 0 then 13 else if j = 1 then 17 else if j = 2 then 21 else 23
theorem kplaces_any (b : Nat) (w : World) : Calls Tryd.prog 62 #[.pointer (some ⟨b, 0, none⟩)] w fun e w' => ∃ lv, e = .returned lv ∧ PlR b w lv 23 w' := by
  have hp0 := PlR.mk (b := b) (w := w) (lv := .slice (some ⟨w.heap.size, 0, none⟩) 1 1) (n := 1) (V := w.alloc (.cells #[.pointer (some ⟨b, 0, none⟩)] 101)) ⟨rfl, .inr ⟨_, 1, _, rfl, Nat.le_refl _, Whole.fresh w _ _, Nat.le_refl _, by decide, rfl, rfl⟩⟩ ((Below.refl _ _).alloc (Nat.le_refl _) _)
  replace hp0 := Lib.hid hp0
  have HT := Lib.hid fun p W => tplaces_any b p W
  go_enter Tryd.func62, Tryd.ntmps62
  go_upto_region 2 with (fail)
  go_wp2_with fail
  generalize w.alloc (.cells #[.pointer (some ⟨b, 0, none⟩)] 101) = W0 at *
  go_loopw [3, 13] (fun lv i wr => ∃ k : Nat, k ≤ 3 ∧ i = .int .i64 k ∧ Hid (PlR b w lv (1 + 4 * k) wr)) (fun _ i _ => 3 - (intOf i).toNat)
  case atStart => exact ⟨0, Nat.zero_le _, rfl, hp0⟩
  case round =>
    obtain ⟨k, hk, rfl, hH⟩ := hrel
    obtain ⟨wo, rfl⟩ : ∃ wo, wo = wr := ⟨_, rfl⟩
    clear hp0
    rename_i lv _
    rcases (show k = 0 ∨ k = 1 ∨ k = 2 ∨ k = 3 by omega) with rfl | rfl | rfl | rfl
    · clear hk
      go_wp2_with fail
      refine (HT.out 1 _).mono ?_
      rintro e W1 ⟨rfl, hB1⟩
      have h1 := hH.out.grow hB1
      have hX := Whole.fresh W1 107 #[.pointer (some ⟨b, 1, none⟩), .pointer (some ⟨b, 1 + 1, none⟩), .pointer (some ⟨b, 1 + 2, none⟩), .pointer (some ⟨b, 1 + 3, none⟩)]
      have h2 := h1.grow ((Below.refl W1.heap.size W1).alloc (Nat.le_refl _) (.cells #[.pointer (some ⟨b, 1, none⟩), .pointer (some ⟨b, 1 + 1, none⟩), .pointer (some ⟨b, 1 + 2, none⟩), .pointer (some ⟨b, 1 + 3, none⟩)] 107))
      replace h2 := Lib.hid h2
      replace hX := Lib.hid hX
      clear hH hB1 h1
      go_upto_region 6 with (fail)
      generalize W1.alloc (.cells #[.pointer (some ⟨b, 1, none⟩), .pointer (some ⟨b, 1 + 1, none⟩), .pointer (some ⟨b, 1 + 2, none⟩), .pointer (some ⟨b, 1 + 3, none⟩)] 107) = W2 at *
      generalize W1.heap.size = X at *
      obtain ⟨lv', W3, hr, hP, -⟩ := ptrs_ran (m := 4) (c := 4) h2.out _ 99 hX.out rfl (by intro u hu; simp only [List.mem_cons, List.not_mem_nil, or_false] at hu; rcases hu with rfl | rfl | rfl | rfl <;> rfl) (by decide) (by decide) (by kernel_rfl)
      have hsl : (Instr.sliceAt 107 (.pointer (some ⟨X, 0, none⟩)) none none none).run Tryd.prog W2 = .ok (.slice (some ⟨X, 0, none⟩) 4 4) W2 := by kernel_rfl
      replace hP := Lib.hid hP
      replace hr := Lib.hid hr
      clear h2 hX
      go_wp2_with (at_builtin; refine kwpList_append_ran rfl _ _ 99 99 rfl _ _ _ W3 rfl rfl hr.out ?_)
      refine ⟨⟨1, by decide, rfl, hP⟩, by simp only [intOf]; omega⟩
    · clear hk
      go_wp2_with fail
      refine (HT.out 5 _).mono ?_
      rintro e W1 ⟨rfl, hB1⟩
      have h1 := hH.out.grow hB1
      have hX := Whole.fresh W1 107 #[.pointer (some ⟨b, 5, none⟩), .pointer (some ⟨b, 5 + 1, none⟩), .pointer (some ⟨b, 5 + 2, none⟩), .pointer (some ⟨b, 5 + 3, none⟩)]
      have h2 := h1.grow ((Below.refl W1.heap.size W1).alloc (Nat.le_refl _) (.cells #[.pointer (some ⟨b, 5, none⟩), .pointer (some ⟨b, 5 + 1, none⟩), .pointer (some ⟨b, 5 + 2, none⟩), .pointer (some ⟨b, 5 + 3, none⟩)] 107))
      replace h2 := Lib.hid h2
      replace hX := Lib.hid hX
      clear hH hB1 h1
      go_upto_region 6 with (fail)
      generalize W1.alloc (.cells #[.pointer (some ⟨b, 5, none⟩), .pointer (some ⟨b, 5 + 1, none⟩), .pointer (some ⟨b, 5 + 2, none⟩), .pointer (some ⟨b, 5 + 3, none⟩)] 107) = W2 at *
      generalize W1.heap.size = X at *
      obtain ⟨lv', W3, hr, hP, -⟩ := ptrs_ran (m := 4) (c := 4) h2.out _ 99 hX.out rfl (by intro u hu; simp only [List.mem_cons, List.not_mem_nil, or_false] at hu; rcases hu with rfl | rfl | rfl | rfl <;> rfl) (by decide) (by decide) (by kernel_rfl)
      have hsl : (Instr.sliceAt 107 (.pointer (some ⟨X, 0, none⟩)) none none none).run Tryd.prog W2 = .ok (.slice (some ⟨X, 0, none⟩) 4 4) W2 := by kernel_rfl
      replace hP := Lib.hid hP
      replace hr := Lib.hid hr
      clear h2 hX
      go_wp2_with (at_builtin; refine kwpList_append_ran rfl _ _ 99 99 rfl _ _ _ W3 rfl rfl hr.out ?_)
      refine ⟨⟨2, by decide, rfl, hP⟩, by simp only [intOf]; omega⟩
    · clear hk
      go_wp2_with fail
      refine (HT.out 9 _).mono ?_
      rintro e W1 ⟨rfl, hB1⟩
      have h1 := hH.out.grow hB1
      have hX := Whole.fresh W1 107 #[.pointer (some ⟨b, 9, none⟩), .pointer (some ⟨b, 9 + 1, none⟩), .pointer (some ⟨b, 9 + 2, none⟩), .pointer (some ⟨b, 9 + 3, none⟩)]
      have h2 := h1.grow ((Below.refl W1.heap.size W1).alloc (Nat.le_refl _) (.cells #[.pointer (some ⟨b, 9, none⟩), .pointer (some ⟨b, 9 + 1, none⟩), .pointer (some ⟨b, 9 + 2, none⟩), .pointer (some ⟨b, 9 + 3, none⟩)] 107))
      replace h2 := Lib.hid h2
      replace hX := Lib.hid hX
      clear hH hB1 h1
      go_upto_region 6 with (fail)
      generalize W1.alloc (.cells #[.pointer (some ⟨b, 9, none⟩), .pointer (some ⟨b, 9 + 1, none⟩), .pointer (some ⟨b, 9 + 2, none⟩), .pointer (some ⟨b, 9 + 3, none⟩)] 107) = W2 at *
      generalize W1.heap.size = X at *
      obtain ⟨lv', W3, hr, hP, -⟩ := ptrs_ran (m := 4) (c := 4) h2.out _ 99 hX.out rfl (by intro u hu; simp only [List.mem_cons, List.not_mem_nil, or_false] at hu; rcases hu with rfl | rfl | rfl | rfl <;> rfl) (by decide) (by decide) (by kernel_rfl)
      have hsl : (Instr.sliceAt 107 (.pointer (some ⟨X, 0, none⟩)) none none none).run Tryd.prog W2 = .ok (.slice (some ⟨X, 0, none⟩) 4 4) W2 := by kernel_rfl
      replace hP := Lib.hid hP
      replace hr := Lib.hid hr
      clear h2 hX
      go_wp2_with (at_builtin; refine kwpList_append_ran rfl _ _ 99 99 rfl _ _ _ W3 rfl rfl hr.out ?_)
      refine ⟨⟨3, by decide, rfl, hP⟩, by simp only [intOf]; omega⟩
    · clear hk HT
      go_upto_region 8 with (fail)
      have hR := (Whole.fresh wo 46 #[.slice (some ⟨b, 13, none⟩) 4 4, .slice (some ⟨b, 17, none⟩) 4 4, .slice (some ⟨b, 21, none⟩) 2 2]).drew
      have h1 := hH.out.grow (((Below.refl wo.heap.size wo).alloc (Nat.le_refl _) (.cells #[.slice (some ⟨b, 13, none⟩) 4 4, .slice (some ⟨b, 17, none⟩) 4 4, .slice (some ⟨b, 21, none⟩) 2 2] 46)).drew)
      replace hR := Lib.hid hR
      replace h1 := Lib.hid h1
      clear hH
      go_region_with (fail)
      generalize (wo.alloc (.cells #[.slice (some ⟨b, 13, none⟩) 4 4, .slice (some ⟨b, 17, none⟩) 4 4, .slice (some ⟨b, 21, none⟩) 2 2] 46)).drew = W1 at *
      generalize wo.heap.size = R at *
      simp only [Act.put, List.getElem_toArray, List.getElem_cons_succ, List.getElem_cons_zero, List.setIfInBounds_toArray, List.set_cons_zero, List.set_cons_succ]
      go_wp2_with fail
      go_loopw [3, 40] (fun lv i wr => ∃ j : Nat, j ≤ 3 ∧ i = .int .i64 j ∧ Hid (PlR b w lv (cntR j) wr ∧ Whole wr R 46 #[.slice (some ⟨b, 13, none⟩) 4 4, .slice (some ⟨b, 17, none⟩) 4 4, .slice (some ⟨b, 21, none⟩) 2 2])) (fun _ i _ => 3 - (intOf i).toNat)
      case atStart => exact ⟨0, Nat.zero_le _, rfl, Lib.hid ⟨h1.out, hR.out⟩⟩
      case round =>
        clear h1 hR
        obtain ⟨j, hj, rfl, hH⟩ := hrel
        obtain ⟨wo, rfl⟩ : ∃ wo, wo = wr := ⟨_, rfl⟩
        rcases (show j = 0 ∨ j = 1 ∨ j = 2 ∨ j = 3 by omega) with rfl | rfl | rfl | rfl
        · clear hj
          have c0 := hH.out.2.cell 0
          simp only [List.getElem?_toArray, List.getElem?_cons_zero, List.getElem?_cons_succ] at c0
          have hI := hH
          go_upto_region 12 with (fail)
          clear c0 hH
          go_loopw [3, 46] (fun lv i wr => ∃ k : Nat, k ≤ 4 ∧ i = .int .i64 k ∧ Hid (PlR b w lv (13 + k) wr ∧ Whole wr R 46 #[.slice (some ⟨b, 13, none⟩) 4 4, .slice (some ⟨b, 17, none⟩) 4 4, .slice (some ⟨b, 21, none⟩) 2 2])) (fun _ i _ => 4 - (intOf i).toNat)
          case atStart => exact ⟨0, Nat.zero_le _, rfl, hI⟩
          case round =>
            clear hI
            obtain ⟨k, hk, rfl, hH⟩ := hrel
            obtain ⟨wi, rfl⟩ : ∃ wi, wi = wr := ⟨_, rfl⟩
            by_cases hlt : k < 4
            · have hX := Whole.fresh wi 101 #[.pointer (some ⟨b, 13 + k, none⟩)]
              have hBn := (Below.refl wi.heap.size wi).alloc (Nat.le_refl _) (.cells #[.pointer (some ⟨b, 13 + k, none⟩)] 101)
              have h2 := hH.out.1.grow hBn
              have hR2 := hH.out.2.below hBn hH.out.2.lt
              replace h2 := Lib.hid h2
              replace hR2 := Lib.hid hR2
              obtain ⟨lv', W3, hr, hP, hkp⟩ := ptrs_ran (m := 1) (c := 1) h2.out _ 99 hX rfl (by intro u hu; simp only [List.mem_cons, List.not_mem_nil, or_false] at hu; subst hu; rfl) (by decide) (by omega) (ptrs_add b (13 + k)).symm
              have hR3 := Lib.hid (hkp _ _ _ hR2.out (by decide))
              replace hP := Lib.hid hP
              replace hr := Lib.hid hr
              clear hkp hX hBn h2 hR2 hH
              go_wp2_with (at_builtin; refine kwpList_append_ran rfl _ _ 99 99 rfl _ _ _ W3 rfl rfl hr.out ?_)
              refine ⟨⟨_, _, _, _, _, _, _, _, _, _, _, _, ⟨k + 1, by omega, by congr 1, Lib.hid ⟨hP.out, hR3.out⟩⟩, rfl⟩, ?_⟩
              show 4 - (intOf (.int .i64 ((k : Int) + 1))).toNat < 4 - (intOf (.int .i64 (k : Nat))).toNat
              simp only [intOf]
              omega
            · obtain rfl : k = 4 := by omega
              have hE := hH
              clear hk hlt hH
              go_wp2_with fail
              refine ⟨⟨1, by decide, rfl, hE⟩, by simp only [intOf]; omega⟩
        · clear hj
          have c0 := hH.out.2.cell 1
          simp only [List.getElem?_toArray, List.getElem?_cons_zero, List.getElem?_cons_succ] at c0
          have hI := hH
          go_upto_region 12 with (fail)
          clear c0 hH
          go_loopw [3, 46] (fun lv i wr => ∃ k : Nat, k ≤ 4 ∧ i = .int .i64 k ∧ Hid (PlR b w lv (17 + k) wr ∧ Whole wr R 46 #[.slice (some ⟨b, 13, none⟩) 4 4, .slice (some ⟨b, 17, none⟩) 4 4, .slice (some ⟨b, 21, none⟩) 2 2])) (fun _ i _ => 4 - (intOf i).toNat)
          case atStart => exact ⟨0, Nat.zero_le _, rfl, hI⟩
          case round =>
            clear hI
            obtain ⟨k, hk, rfl, hH⟩ := hrel
            obtain ⟨wi, rfl⟩ : ∃ wi, wi = wr := ⟨_, rfl⟩
            by_cases hlt : k < 4
            · have hX := Whole.fresh wi 101 #[.pointer (some ⟨b, 17 + k, none⟩)]
              have hBn := (Below.refl wi.heap.size wi).alloc (Nat.le_refl _) (.cells #[.pointer (some ⟨b, 17 + k, none⟩)] 101)
              have h2 := hH.out.1.grow hBn
              have hR2 := hH.out.2.below hBn hH.out.2.lt
              replace h2 := Lib.hid h2
              replace hR2 := Lib.hid hR2
              obtain ⟨lv', W3, hr, hP, hkp⟩ := ptrs_ran (m := 1) (c := 1) h2.out _ 99 hX rfl (by intro u hu; simp only [List.mem_cons, List.not_mem_nil, or_false] at hu; subst hu; rfl) (by decide) (by omega) (ptrs_add b (17 + k)).symm
              have hR3 := Lib.hid (hkp _ _ _ hR2.out (by decide))
              replace hP := Lib.hid hP
              replace hr := Lib.hid hr
              clear hkp hX hBn h2 hR2 hH
              go_wp2_with (at_builtin; refine kwpList_append_ran rfl _ _ 99 99 rfl _ _ _ W3 rfl rfl hr.out ?_)
              refine ⟨⟨_, _, _, _, _, _, _, _, _, _, _, _, ⟨k + 1, by omega, by congr 1, Lib.hid ⟨hP.out, hR3.out⟩⟩, rfl⟩, ?_⟩
              show 4 - (intOf (.int .i64 ((k : Int) + 1))).toNat < 4 - (intOf (.int .i64 (k : Nat))).toNat
              simp only [intOf]
              omega
            · obtain rfl : k = 4 := by omega
              have hE := hH
              clear hk hlt hH
              go_wp2_with fail
              refine ⟨⟨2, by decide, rfl, hE⟩, by simp only [intOf]; omega⟩
        · clear hj
          have c0 := hH.out.2.cell 2
          simp only [List.getElem?_toArray, List.getElem?_cons_zero, List.getElem?_cons_succ] at c0
          have hI := hH
          go_upto_region 12 with (fail)
          clear c0 hH
          go_loopw [3, 46] (fun lv i wr => ∃ k : Nat, k ≤ 2 ∧ i = .int .i64 k ∧ Hid (PlR b w lv (21 + k) wr ∧ Whole wr R 46 #[.slice (some ⟨b, 13, none⟩) 4 4, .slice (some ⟨b, 17, none⟩) 4 4, .slice (some ⟨b, 21, none⟩) 2 2])) (fun _ i _ => 2 - (intOf i).toNat)
          case atStart => exact ⟨0, Nat.zero_le _, rfl, hI⟩
          case round =>
            clear hI
            obtain ⟨k, hk, rfl, hH⟩ := hrel
            obtain ⟨wi, rfl⟩ : ∃ wi, wi = wr := ⟨_, rfl⟩
            by_cases hlt : k < 2
            · have hX := Whole.fresh wi 101 #[.pointer (some ⟨b, 21 + k, none⟩)]
              have hBn := (Below.refl wi.heap.size wi).alloc (Nat.le_refl _) (.cells #[.pointer (some ⟨b, 21 + k, none⟩)] 101)
              have h2 := hH.out.1.grow hBn
              have hR2 := hH.out.2.below hBn hH.out.2.lt
              replace h2 := Lib.hid h2
              replace hR2 := Lib.hid hR2
              obtain ⟨lv', W3, hr, hP, hkp⟩ := ptrs_ran (m := 1) (c := 1) h2.out _ 99 hX rfl (by intro u hu; simp only [List.mem_cons, List.not_mem_nil, or_false] at hu; subst hu; rfl) (by decide) (by omega) (ptrs_add b (21 + k)).symm
              have hR3 := Lib.hid (hkp _ _ _ hR2.out (by decide))
              replace hP := Lib.hid hP
              replace hr := Lib.hid hr
              clear hkp hX hBn h2 hR2 hH
              go_wp2_with (at_builtin; refine kwpList_append_ran rfl _ _ 99 99 rfl _ _ _ W3 rfl rfl hr.out ?_)
              refine ⟨⟨_, _, _, _, _, _, _, _, _, _, _, _, ⟨k + 1, by omega, by congr 1, Lib.hid ⟨hP.out, hR3.out⟩⟩, rfl⟩, ?_⟩
              show 2 - (intOf (.int .i64 ((k : Int) + 1))).toNat < 2 - (intOf (.int .i64 (k : Nat))).toNat
              simp only [intOf]
              omega
            · obtain rfl : k = 2 := by omega
              have hE := hH
              clear hk hlt hH
              go_wp2_with fail
              refine ⟨⟨3, by decide, rfl, hE⟩, by simp only [intOf]; omega⟩
        · clear hj
          have hE := hH.out.1
          replace hE := Lib.hid hE
          clear hH
          go_wp2_with fail
          go_ret
          exact ⟨_, rfl, hE.out⟩
end Go.Proofs.YtbdhdedlemndeaaDoor
