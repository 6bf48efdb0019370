/-
  How many reads and writes an instruction has behind its own bytes.
-/
import Derived.Test.YtknlbmjncginnaaGreatDoorPF
import Derived.Test.YtknlbmjncginnaaGreatDoorPD
namespace Go.Proofs.YtknlbmjncginnaaGreatDoor
open Go.RowKit Go.Shelf
set_option maxRecDepth 100000
set_option maxHeartbeats 4000000
set_option linter.unusedVariables false
set_option linter.unusedSimpArgs false

def reF (x : Nat) : Nat := if x ∈ [100, 120, 121, 105, 106, 43, 97, 112, 113, 98, 110, 47] then 1 else if x = 68 then 2 else if x = 108 ∨ x = 109 then 3 else 0
theorem reF_le (x : Nat) : reF x ≤ 3 := by
  unfold reF
  split
  · omega
  · split
    · omega
    · split <;> omega
theorem bsOf_toList (l : List Nat) : (bsOf l).toList = l.map UInt8.ofNat := by simp [bsOf]
theorem reachedBy_any (x : Nat) (w : World) (hx : x < 256) : Calls Tryz.prog 137 #[.int .u8 (x : Nat)] w fun e w' => e = .returned (.int .i64 (reF x : Nat)) ∧ w' = w := by
  by_cases hin : x ∈ [100, 120, 121, 105, 106, 43, 97, 112, 113, 98, 110, 47, 68, 108, 109]
  · simp only [List.mem_cons, List.not_mem_nil, or_false] at hin
    rcases hin with rfl | rfl | rfl | rfl | rfl | rfl | rfl | rfl | rfl | rfl | rfl | rfl | rfl | rfl | rfl
    all_goals
      go_enter Tryz.func137, Tryz.ntmps137
      go_wp2_with fail
      go_ret
      exact ⟨rfl, rfl⟩
  · simp only [List.mem_cons, List.not_mem_nil, or_false, not_or] at hin
    obtain ⟨h0, h1, h2, h3, h4, h5, h6, h7, h8, h9, h10, h11, h12, h13, h14⟩ := hin
    have hw : reF x = 0 := by simp [reF, *]
    rw [hw]
    replace h0 : ((x : Int) == 100) = false := by rw [beq_eq_false_iff_ne]; omega
    replace h1 : ((x : Int) == 120) = false := by rw [beq_eq_false_iff_ne]; omega
    replace h2 : ((x : Int) == 121) = false := by rw [beq_eq_false_iff_ne]; omega
    replace h3 : ((x : Int) == 105) = false := by rw [beq_eq_false_iff_ne]; omega
    replace h4 : ((x : Int) == 106) = false := by rw [beq_eq_false_iff_ne]; omega
    replace h5 : ((x : Int) == 43) = false := by rw [beq_eq_false_iff_ne]; omega
    replace h6 : ((x : Int) == 97) = false := by rw [beq_eq_false_iff_ne]; omega
    replace h7 : ((x : Int) == 112) = false := by rw [beq_eq_false_iff_ne]; omega
    replace h8 : ((x : Int) == 113) = false := by rw [beq_eq_false_iff_ne]; omega
    replace h9 : ((x : Int) == 98) = false := by rw [beq_eq_false_iff_ne]; omega
    replace h10 : ((x : Int) == 110) = false := by rw [beq_eq_false_iff_ne]; omega
    replace h11 : ((x : Int) == 47) = false := by rw [beq_eq_false_iff_ne]; omega
    replace h12 : ((x : Int) == 68) = false := by rw [beq_eq_false_iff_ne]; omega
    replace h13 : ((x : Int) == 108) = false := by rw [beq_eq_false_iff_ne]; omega
    replace h14 : ((x : Int) == 109) = false := by rw [beq_eq_false_iff_ne]; omega
    go_enter Tryz.func137, Tryz.ntmps137
    go_wp2_with fail
    go_ret
    exact ⟨rfl, rfl⟩
def namesNo : List (List UInt8) := [[77, 79, 86], [77, 79, 86, 87], [67, 77, 80], [67, 77, 80, 87], [66, 66, 83], [66, 66, 67], [67, 66, 78, 69]]
theorem eqb_false {l : List UInt8} {x : List UInt8} {ls : List (List UInt8)} (h : l ∉ ls) (hx : x ∈ ls) : (l == x) = false := by
  rw [beq_eq_false_iff_ne]
  exact fun e => h (e ▸ hx)
theorem changes_any (S : ByteArray) (w : World) : Calls Tryz.prog 138 #[.string S] w fun e w' => e = .returned (.bool (!decide (S.toList ∈ namesNo))) ∧ w' = w := by
  generalize hl : S.toList = l
  by_cases h : l ∈ namesNo
  · rw [decide_eq_true h]
    unfold namesNo at h
    simp only [List.mem_cons, List.not_mem_nil, or_false] at h
    rcases h with rfl | rfl | rfl | rfl | rfl | rfl | rfl
    all_goals
      go_enter Tryz.func138, Tryz.ntmps138
      go_wp2_with fail
      go_ret
      exact ⟨rfl, rfl⟩
  · rw [decide_eq_false h]
    have h0 : (l == [77, 79, 86]) = false := eqb_false h (by decide)
    have h1 : (l == [77, 79, 86, 87]) = false := eqb_false h (by decide)
    have h2 : (l == [67, 77, 80]) = false := eqb_false h (by decide)
    have h3 : (l == [67, 77, 80, 87]) = false := eqb_false h (by decide)
    have h4 : (l == [66, 66, 83]) = false := eqb_false h (by decide)
    have h5 : (l == [66, 66, 67]) = false := eqb_false h (by decide)
    have h6 : (l == [67, 66, 78, 69]) = false := eqb_false h (by decide)
    clear h
    go_enter Tryz.func138, Tryz.ntmps138
    go_wp2_with fail
    go_ret
    exact ⟨rfl, rfl⟩
def names1 : List (List UInt8) := [[80, 85, 83, 72], [80, 79, 80]]
def names2 : List (List UInt8) := [[67, 65, 76, 76], [80, 67, 65, 76, 76], [82, 69, 84]]
def namesS : List (List UInt8) := [[80, 85, 83, 72], [80, 79, 80], [67, 65, 76, 76], [80, 67, 65, 76, 76], [82, 69, 84], [82, 69, 84, 73], [84, 67, 65, 76, 76], [66, 82, 75], [74, 77, 80]]
def reS (fm : List Nat) : Nat → Nat
  | 0 => 0
  | i + 1 => reS fm i + reF (fm.getD i 0)
theorem reS_le (fm : List Nat) : ∀ i, reS fm i ≤ 3 * i
  | 0 => Nat.le_refl _
  | i + 1 => by have := reS_le fm i; have := reF_le (fm.getD i 0); unfold reS; omega
theorem reS_all (fm : List Nat) (h : fm.length ≤ 2) : reS fm fm.length = (fm.map reF).sum := by
  match fm, h with
  | [], _ => rfl
  | [x], _ => simp [reS]
  | [x, y], _ => simp [reS]
def heF (fm : List Nat) : Nat := match fm with | [] => 0 | x :: _ => reF x
def toF (l : List UInt8) (fm : List Nat) : Nat :=
  if l ∈ names1 then 1 else if l ∈ names2 then 2 else if l = [82, 69, 84, 73] then 3 else if l = [84, 67, 65, 76, 76] then 4 else if l = [66, 82, 75] then 5
  else if l = [74, 77, 80] then (if fm = [97] then 0 else 2)
  else (fm.map reF).sum + (if decide (l ∈ namesNo) then 0 else heF fm)
theorem toF_le (l : List UInt8) (fm : List Nat) (h : fm.length ≤ 2) : toF l fm ≤ 9 := by
  unfold toF
  split
  · omega
  split
  · omega
  split
  · omega
  split
  · omega
  split
  · omega
  split
  · split <;> omega
  match fm, h with
  | [], _ => simp [heF]
  | [x], _ => have := reF_le x; simp [heF]; split <;> omega
  | [x, y], _ => have := reF_le x; have := reF_le y; simp [heF]; split <;> omega
theorem touches_any (c0 sz cy : Nat) (S : ByteArray) (fm : List Nat) (w : World) (hf : ∀ x ∈ fm, x < 256) (hz : fm.length ≤ 2) :
    Calls Tryz.prog 95 #[.agg #[.int .u8 (c0 : Nat), .string S, .string (bsOf fm), .int .i64 (sz : Nat), .int .i64 (cy : Nat)]] w fun e w' => e = .returned (.int .i64 (toF S.toList fm : Nat)) ∧ Below w.heap.size w w' := by
  have hX := Whole.fresh w 82 #[.int .u8 (c0 : Nat), .string S, .string (bsOf fm), .int .i64 (sz : Nat), .int .i64 (cy : Nat)]
  have hB := Lib.hid ((Below.refl w.heap.size w).alloc (Nat.le_refl _) (.cells #[.int .u8 (c0 : Nat), .string S, .string (bsOf fm), .int .i64 (sz : Nat), .int .i64 (cy : Nat)] 82))
  have x1 := hX.cell 1
  have x2 := hX.cell 2
  simp only [List.getElem?_toArray, List.getElem?_cons_zero, List.getElem?_cons_succ] at x1 x2
  have HC := Lib.hid fun (W : World) => changes_any S W
  have hsz : (bsOf fm).size = fm.length := bsOf_size fm
  have hby : ∀ k (h : k < (bsOf fm).size), (bsOf fm)[k].toNat = fm.getD k 0 := fun k h => bsOf_byte fm k h (by rw [List.getD_eq_getElem?_getD, List.getElem?_eq_getElem (by omega)]; exact hf _ (List.getElem_mem _))
  have htl : (bsOf fm).toList = fm.map UInt8.ofNat := bsOf_toList fm
  generalize bsOf fm = T at *
  generalize hl : S.toList = l at *
  clear hX
  by_cases h : l ∈ namesS
  · unfold namesS at h
    simp only [List.mem_cons, List.not_mem_nil, or_false] at h
    rcases h with rfl | rfl | rfl | rfl | rfl | rfl | rfl | rfl | rfl
    · rw [show toF [80, 85, 83, 72] fm = 1 from by simp [toF, names1, names2]]
      go_enter Tryz.func95, Tryz.ntmps95
      go_wp2_with fail
      go_ret
      exact ⟨rfl, hB.out⟩
    · rw [show toF [80, 79, 80] fm = 1 from by simp [toF, names1, names2]]
      go_enter Tryz.func95, Tryz.ntmps95
      go_wp2_with fail
      go_ret
      exact ⟨rfl, hB.out⟩
    · rw [show toF [67, 65, 76, 76] fm = 2 from by simp [toF, names1, names2]]
      go_enter Tryz.func95, Tryz.ntmps95
      go_wp2_with fail
      go_ret
      exact ⟨rfl, hB.out⟩
    · rw [show toF [80, 67, 65, 76, 76] fm = 2 from by simp [toF, names1, names2]]
      go_enter Tryz.func95, Tryz.ntmps95
      go_wp2_with fail
      go_ret
      exact ⟨rfl, hB.out⟩
    · rw [show toF [82, 69, 84] fm = 2 from by simp [toF, names1, names2]]
      go_enter Tryz.func95, Tryz.ntmps95
      go_wp2_with fail
      go_ret
      exact ⟨rfl, hB.out⟩
    · rw [show toF [82, 69, 84, 73] fm = 3 from by simp [toF, names1, names2]]
      go_enter Tryz.func95, Tryz.ntmps95
      go_wp2_with fail
      go_ret
      exact ⟨rfl, hB.out⟩
    · rw [show toF [84, 67, 65, 76, 76] fm = 4 from by simp [toF, names1, names2]]
      go_enter Tryz.func95, Tryz.ntmps95
      go_wp2_with fail
      go_ret
      exact ⟨rfl, hB.out⟩
    · rw [show toF [66, 82, 75] fm = 5 from by simp [toF, names1, names2]]
      go_enter Tryz.func95, Tryz.ntmps95
      go_wp2_with fail
      go_ret
      exact ⟨rfl, hB.out⟩
    · by_cases hfm : fm = [97]
      · rw [show toF [74, 77, 80] fm = 0 from by rw [hfm]; simp [toF, names1, names2]]
        rw [hfm] at htl
        simp only [List.map_cons, List.map_nil, show UInt8.ofNat 97 = 97 from rfl] at htl
        go_enter Tryz.func95, Tryz.ntmps95
        go_wp2_with fail
        go_ret
        exact ⟨rfl, hB.out⟩
      · rw [show toF [74, 77, 80] fm = 2 from by simp [toF, names1, names2, hfm]]
        have ht : (T.toList == [97]) = false := by
          rw [htl, beq_eq_false_iff_ne]
          intro e
          apply hfm
          have e2 : (fm.map UInt8.ofNat).map UInt8.toNat = [97] := by rw [e]; rfl
          rw [List.map_map] at e2
          rw [← e2]
          symm
          conv => rhs; rw [← List.map_id fm]
          apply List.map_congr_left
          intro x hx
          simp [Function.comp, UInt8.toNat_ofNat', Nat.mod_eq_of_lt (hf x hx)]
        clear htl
        go_enter Tryz.func95, Tryz.ntmps95
        go_wp2_with fail
        go_ret
        exact ⟨rfl, hB.out⟩
  · have ht : toF l fm = (fm.map reF).sum + (if decide (l ∈ namesNo) then 0 else heF fm) := by
      unfold toF
      rw [if_neg (fun e => h ((show ∀ x ∈ names1, x ∈ namesS by decide) l e)), if_neg (fun e => h ((show ∀ x ∈ names2, x ∈ namesS by decide) l e)), if_neg (fun e => h (by rw [e]; decide)), if_neg (fun e => h (by rw [e]; decide)), if_neg (fun e => h (by rw [e]; decide)), if_neg (fun e => h (by rw [e]; decide))]
    rw [ht]
    clear ht
    have h0 : (l == [80, 85, 83, 72]) = false := eqb_false h (by decide)
    have h1 : (l == [80, 79, 80]) = false := eqb_false h (by decide)
    have h2 : (l == [67, 65, 76, 76]) = false := eqb_false h (by decide)
    have h3 : (l == [80, 67, 65, 76, 76]) = false := eqb_false h (by decide)
    have h4 : (l == [82, 69, 84]) = false := eqb_false h (by decide)
    have h5 : (l == [82, 69, 84, 73]) = false := eqb_false h (by decide)
    have h6 : (l == [84, 67, 65, 76, 76]) = false := eqb_false h (by decide)
    have h7 : (l == [66, 82, 75]) = false := eqb_false h (by decide)
    have h8 : (l == [74, 77, 80]) = false := eqb_false h (by decide)
    clear h
    generalize decide (l ∈ namesNo) = pp at *
    have HR := Lib.hid fun (x : Nat) (W : World) (hx : x < 256) => reachedBy_any x W hx
    have hle : ∀ i, reS fm i ≤ 3 * i := reS_le fm
    have hst : ∀ i, reS fm (i + 1) = reS fm i + reF (fm.getD i 0) := fun i => rfl
    have hlt : ∀ i, i < fm.length → fm.getD i 0 < 256 := fun i hi => by
      rw [List.getD_eq_getElem?_getD, List.getElem?_eq_getElem hi]
      exact hf _ (List.getElem_mem _)
    have hhe : fm.length = 0 ∨ heF fm = reF (fm.getD 0 0) := by
      cases fm with
      | nil => exact .inl rfl
      | cons x _ => exact .inr rfl
    have hh0 : fm.length = 0 → heF fm = 0 := by
      cases fm with
      | nil => exact fun _ => rfl
      | cons x _ => exact fun h => absurd h (by simp)
    have hemp : T.toList.isEmpty = decide (fm.length = 0) := by
      rw [htl]
      cases fm <;> simp
    rw [← reS_all fm hz]
    have hS00 : Hid (reS fm 0 = 0) := Lib.hid rfl
    generalize heF fm = he at *
    generalize hn : fm.length = n at *
    generalize reS fm = SS at *
    replace hle := Lib.hid hle
    replace hst := Lib.hid hst
    replace hlt := Lib.hid hlt
    replace hby := Lib.hid hby
    replace hn := Lib.hid hn
    obtain ⟨rs, hrs⟩ : ∃ rs, SS n + (if pp = true then 0 else he) = rs := ⟨_, rfl⟩
    rw [hrs]
    replace hrs := Lib.hid hrs
    replace hhe := Lib.hid hhe
    replace hh0 := Lib.hid hh0
    replace hemp := Lib.hid hemp
    clear htl
    go_enter Tryz.func95, Tryz.ntmps95
    go_wp2_with fail
    go_loopw [3, 28] (fun s3 s28 wr => ∃ i : Nat, i ≤ n ∧ s28 = .int .i64 i ∧ s3 = .int .i64 (SS i : Nat) ∧ wr = w.alloc (.cells #[.int .u8 (c0 : Nat), .string S, .string T, .int .i64 (sz : Nat), .int .i64 (cy : Nat)] 82)) (fun _ s28 _ => n - (intOf s28).toNat)
    case atStart => exact ⟨0, Nat.zero_le _, rfl, by rw [hS00.out]; rfl, rfl⟩
    case round =>
      obtain ⟨i, hi, rfl, rfl, rfl⟩ := hrel
      by_cases hc : i < n
      · have hb := hby.out i (by omega)
        have hq := hlt.out i hc
        have hs2 := hst.out i
        have hle1 := hle.out i
        have hR := HR.out (fm.getD i 0) (w.alloc (.cells #[.int .u8 (c0 : Nat), .string S, .string T, .int .i64 (sz : Nat), .int .i64 (cy : Nat)] 82)) hq
        have hrl := reF_le (fm.getD i 0)
        generalize reF (fm.getD i 0) = r at *
        generalize fm.getD i 0 = x at *
        replace hR := Lib.hid hR
        replace hs2 := Lib.hid hs2
        have hi2 := hi
        clear HR hle hst hlt hby hq HC
        go_wp2_with fail
        with_reducible refine hR.out.mono ?_
        rintro e w2 ⟨rfl, hw2⟩
        rw [hw2]
        clear hR hw2
        go_wp2_with fail
        go_roundw
        case rel => exact ⟨i + 1, hc, by go_num, by rw [hs2.out]; simp, by first | rfl | trivial⟩
        case measure => simp [intOf]; omega
      · obtain rfl : i = n := by omega
        have hle1 := hle.out i
        cases pp
        · have hr := hrs.out
          rw [if_neg (by decide)] at hr
          by_cases h00 : i = 0
          · have hes : T.toList.isEmpty = true := by rw [hemp.out]; exact decide_eq_true h00
            have he0 := hh0.out h00
            rw [he0, Nat.add_zero] at hr
            clear hrs
            generalize SS i = v at *
            replace hr := Lib.hid hr
            replace h00 := Lib.hid h00
            clear HR hle hst hlt hby hhe hh0 he0
            go_wp2_with fail
            with_reducible refine (HC.out _).mono ?_
            rintro e w2 ⟨rfl, hw2⟩
            rw [hw2]
            clear HC hw2
            go_wp2_with fail
            go_ret
            exact ⟨by rw [← hr.out]; rfl, hB.out⟩
          · have hes : T.toList.isEmpty = false := by rw [hemp.out]; exact decide_eq_false h00
            have heq := hhe.out.resolve_left h00
            have hb := hby.out 0 (by omega)
            have hR := HR.out (fm.getD 0 0) (w.alloc (.cells #[.int .u8 (c0 : Nat), .string S, .string T, .int .i64 (sz : Nat), .int .i64 (cy : Nat)] 82)) (hlt.out 0 (by omega))
            have hrl := reF_le (fm.getD 0 0)
            rw [heq] at hr
            clear hrs
            generalize reF (fm.getD 0 0) = r at *
            generalize fm.getD 0 0 = x at *
            generalize SS i = v at *
            replace hr := Lib.hid hr
            replace hR := Lib.hid hR
            clear HR hle hst hlt hby hhe hh0 heq
            go_wp2_with fail
            with_reducible refine (HC.out _).mono ?_
            rintro e w2 ⟨rfl, hw2⟩
            rw [hw2]
            clear HC hw2
            go_wp2_with fail
            with_reducible refine hR.out.mono ?_
            rintro e w2 ⟨rfl, hw2⟩
            rw [hw2]
            clear hR hw2
            go_wp2_with fail
            go_ret
            exact ⟨by rw [← hr.out]; simp, hB.out⟩
        · have hr := hrs.out
          rw [if_pos rfl, Nat.add_zero] at hr
          clear hrs
          generalize SS i = v at *
          replace hr := Lib.hid hr
          clear HR hle hst hlt hby hhe hh0
          go_wp2_with fail
          with_reducible refine (HC.out _).mono ?_
          rintro e w2 ⟨rfl, hw2⟩
          rw [hw2]
          clear HC hw2
          go_wp2_with fail
          go_ret
          exact ⟨by rw [← hr.out]; rfl, hB.out⟩
end Go.Proofs.YtknlbmjncginnaaGreatDoor
namespace Go.Proofs.YtknlbmjncginnaaGreatDoor
open Go.RowKit Go.Shelf
set_option maxRecDepth 100000
set_option maxHeartbeats 2000000
set_option linter.unusedVariables false

def letterOk (c : Nat) : Prop := c ∈ regL ∨ c = 35 ∨ c ∈ memL ∨ c ∈ noneL
/-- The operands' numbers. -/
def opsM (fm : List Nat) : M (Nat × Nat) :=
  match fm with
  | [] => M.pure (0, 0)
  | [x] => M.bind (numM (wdF x)) fun n => M.pure (n, n)
  | x :: y :: _ => if y = 114 then M.bind (numM (wdF x)) fun nd => M.bind (numM (wdF y)) fun no => M.pure (nd, no) else M.bind (numM (wdF y)) fun no => M.bind (numM (wdF x)) fun nd => M.pure (nd, no)
theorem opsM_one (x : Nat) : opsM [x] = M.bind (numM (wdF x)) fun n => M.pure (n, n) := rfl
theorem opsM_br (x : Nat) : opsM [x, 114] = M.bind (numM (wdF x)) fun nd => M.bind (numM (wdF 114)) fun no => M.pure (nd, no) := rfl
theorem opsM_two (x y : Nat) (h : y ≠ 114) : opsM [x, y] = M.bind (numM (wdF y)) fun no => M.bind (numM (wdF x)) fun nd => M.pure (nd, no) := if_neg h
def cdF (fm : List Nat) : Nat := match fm with | [] => 0 | x :: _ => x
def coF (fm : List Nat) : Nat := match fm with | [] => 0 | [x] => x | _ :: y :: _ => y
section
variable {K : Cx} {z : Zs} {s : Ts} {w w' : World} {c cd nd co no : Nat} {nm fm : ByteArray}
theorem Tk.putD (h : Tk K z s w) (a b f g : Value) : Tk K { z with d0 := a, d1 := b, d2 := f, d3 := g } s ((((w.setCell ⟨K.b, 14, none⟩ a).setCell ⟨K.b, 15, none⟩ b).setCell ⟨K.b, 16, none⟩ f).setCell ⟨K.b, 17, none⟩ g) :=
  (((h.turn 14 a s.r { z with d0 := a } h.ok fun _ => rfl).turn 15 b s.r { z with d0 := a, d1 := b } h.ok fun _ => rfl).turn 16 f s.r { z with d0 := a, d1 := b, d2 := f } h.ok fun _ => rfl).turn 17 g s.r { z with d0 := a, d1 := b, d2 := f, d3 := g } h.ok fun _ => rfl
theorem Tk.putO (h : Tk K z s w) (a b f g : Value) : Tk K { z with o0 := a, o1 := b, o2 := f, o3 := g } s ((((w.setCell ⟨K.b, 18, none⟩ a).setCell ⟨K.b, 19, none⟩ b).setCell ⟨K.b, 20, none⟩ f).setCell ⟨K.b, 21, none⟩ g) :=
  (((h.turn 18 a s.r { z with o0 := a } h.ok fun _ => rfl).turn 19 b s.r { z with o0 := a, o1 := b } h.ok fun _ => rfl).turn 20 f s.r { z with o0 := a, o1 := b, o2 := f } h.ok fun _ => rfl).turn 21 g s.r { z with o0 := a, o1 := b, o2 := f, o3 := g } h.ok fun _ => rfl
theorem Kp.put4 (k : Kp K w w') (i : Nat) (a b f g : Value) : Kp K w ((((w'.setCell ⟨K.b, i, none⟩ a).setCell ⟨K.b, i + 1, none⟩ b).setCell ⟨K.b, i + 2, none⟩ f).setCell ⟨K.b, i + 3, none⟩ g) := (((k.set i a).set (i + 1) b).set (i + 2) f).set (i + 3) g
/-- What fetching the operands comes to. -/
def FoP (K : Cx) (z : Zs) (s : Ts) (w : World) (c : Nat) (nm : ByteArray) (fm : List Nat) (e : Ending) (w' : World) : Prop :=
  ∃ s' z', Tk K z' s' w' ∧ Kp K w w' ∧ s'.l.length ≤ s.l.length + 4 ∧ ((∃ nd no, Ran (opsM fm) s (nd, no) s' ∧ Zd K z' w' c nm (bsOf fm) (cdF fm) nd (coF fm) no ∧ z'.n3 = z.n3 ∧ z'.n4 = z.n4 ∧ e = .returned (.tuple #[])) ∨ (Gave (opsM fm) s s' ∧ e = lackE))
theorem fo_nil (h : Tk K z s w) (h0 : z.n0 = .int .u8 (c : Nat)) (h1 : z.n1 = .string nm) (h2 : z.n2 = .string (bsOf [])) (hd0 : z.d0 = .int .u8 0) (hd1 : z.d1 = .int .u16 0) (ho0 : z.o0 = .int .u8 0) (ho1 : z.o1 = .int .u16 0) (hd2 : z.d2 = .nilFunc) (hd3 : z.d3 = .nilFunc) (ho2 : z.o2 = .nilFunc) (ho3 : z.o3 = .nilFunc) (hc : c < 256) :
    Calls Tryz.prog 94 #[.pointer (some ⟨K.b, 0, none⟩)] w (FoP K z s w c nm []) := by
  have c11 := h.lookN.2.2.1
  rw [h2] at c11
  have hfin := Lib.hid (show FoP K z s w c nm [] (.returned (.tuple #[])) w from ⟨s, z, h, Kp.refl _ _, Nat.le_add_right _ _, .inl ⟨0, 0, Ran.pure _ _, ⟨h0, h1, h2, hd0, hd1, .inr (.inr (.inr ⟨by decide, by decide, by decide, hd2, hd3⟩)), ho0, ho1, .inr (.inr (.inr ⟨by decide, by decide, by decide, ho2, ho3⟩)), by decide, by decide, hc⟩, rfl, rfl, rfl⟩⟩)
  have he : (bsOf []).toList.isEmpty = true := by rw [bsOf_toList]; rfl
  generalize hT : bsOf [] = T at *
  replace hT := Lib.hid hT
  obtain ⟨Q, hQ, F⟩ := post_name (FoP K z s w c nm [])
  rw [hQ] at hfin ⊢
  clear h hQ F
  go_enter Tryz.func94, Tryz.ntmps94
  go_wp2_with fail
  first | exact hfin.out | (go_end0; exact hfin.out)
theorem fo_one (x : Nat) (hx : letterOk x) (hx8 : x < 256) (h : Tk K z s w) (h0 : z.n0 = .int .u8 (c : Nat)) (h1 : z.n1 = .string nm) (h2 : z.n2 = .string (bsOf [x])) (hc : c < 256) (hl : s.l.length ≤ 90) :
    Calls Tryz.prog 94 #[.pointer (some ⟨K.b, 0, none⟩)] w (FoP K z s w c nm [x]) := by
  have c11 := h.lookN.2.2.1
  rw [h2] at c11
  have H1 := Lib.hid (operandOf_any x hx h (by omega))
  have he : (bsOf [x]).toList.isEmpty = false := by rw [bsOf_toList]; rfl
  have hsz : (bsOf [x]).size = 1 := bsOf_size [x]
  have hb : ∀ hk : 0 < (bsOf [x]).size, (bsOf [x])[0].toNat = x := fun hk => bsOf_byte [x] 0 hk hx8
  obtain ⟨Q, hQ, F⟩ := post_name (FoP K z s w c nm [x])
  rw [hQ]
  unfold FoP at F
  rw [opsM_one] at F
  generalize bsOf [x] = T at *
  have hz := Lib.hid (And.intro h0 (And.intro h1 h2))
  replace F := Lib.hid F
  clear h hQ h0 h1 h2 hx hl
  go_enter Tryz.func94, Tryz.ntmps94
  go_wp2_with fail
  with_reducible refine H1.out.mono ?_
  rintro e w1 ⟨s1, t1, k1, l1, (⟨n, v2, v3, r1, hn, rfl, ho⟩ | ⟨g1, rfl⟩)⟩
  · have hs2 := fun w a m => ho.fns.1.store Tryz.prog w a m
    have hs3 := fun w a m => ho.fns.2.store Tryz.prog w a m
    obtain ⟨d14, d15, d16, d17⟩ := t1.lookD
    have f14 := t1.look.2.2 14
    have f15 := t1.look.2.2 15
    have f16 := t1.look.2.2 16
    have f17 := t1.look.2.2 17
    have t2 := t1.putD (.int .u8 (x : Nat)) (.int .u16 (n : Nat)) v2 v3
    have k2 := k1.put4 14 (.int .u8 (x : Nat)) (.int .u16 (n : Nat)) v2 v3
    obtain ⟨d18, d19, d20, d21⟩ := t2.lookO
    have f18 := t2.look.2.2 18
    have f19 := t2.look.2.2 19
    have f20 := t2.look.2.2 20
    have f21 := t2.look.2.2 21
    obtain ⟨e14, e15, e16, e17⟩ := t2.lookD
    have t3 := t2.putO (.int .u8 (x : Nat)) (.int .u16 (n : Nat)) v2 v3
    have k3 := k2.put4 18 (.int .u8 (x : Nat)) (.int .u16 (n : Nat)) v2 v3
    have hf := Lib.hid (F.out (.returned (.tuple #[])) _ ⟨s1, _, t3, k3, by omega, .inl ⟨n, n, r1.bind (Ran.pure _ _), ⟨hz.out.1, hz.out.2.1, hz.out.2.2, rfl, rfl, ho.stay t1 ((Kp.put4 (Kp.put4 (Kp.refl K w1) 14 _ _ _ _) 18 _ _ _ _)), rfl, rfl, ho.stay t1 ((Kp.put4 (Kp.put4 (Kp.refl K w1) 14 _ _ _ _) 18 _ _ _ _)), hn, hn, hc⟩, rfl, rfl, rfl⟩⟩)
    dsimp only at d18 d19 d20 d21 e14 e15 e16 e17
    clear H1 F t1 t2 t3 k1 k2 k3 r1 ho l1 hz
    go_wp2_with fail
    first | exact hf.out | (go_end0; exact hf.out)
  · have hf := Lib.hid (F.out lackE _ ⟨s1, z, t1, k1, by omega, .inr ⟨Gave.bind g1, rfl⟩⟩)
    clear H1 F t1 k1 g1
    unfold lackE at hf ⊢
    go_wp2_with fail
    first | exact hf.out | exact ⟨rfl, hf.out⟩
theorem fo_two (x y : Nat) (hx : letterOk x) (hy : letterOk y) (hx8 : x < 256) (hy8 : y < 256) (hne : y ≠ 114) (h : Tk K z s w) (h0 : z.n0 = .int .u8 (c : Nat)) (h1 : z.n1 = .string nm) (h2 : z.n2 = .string (bsOf [x, y])) (hc : c < 256) (hl : s.l.length ≤ 90) :
    Calls Tryz.prog 94 #[.pointer (some ⟨K.b, 0, none⟩)] w (FoP K z s w c nm [x, y]) := by
  have c11 := h.lookN.2.2.1
  rw [h2] at c11
  have H1 := Lib.hid (operandOf_any y hy h (by omega))
  have he : (bsOf [x, y]).toList.isEmpty = false := by rw [bsOf_toList]; rfl
  have hsz : (bsOf [x, y]).size = 2 := bsOf_size [x, y]
  have hb : ∀ hk : 0 < (bsOf [x, y]).size, (bsOf [x, y])[0].toNat = x := fun hk => bsOf_byte [x, y] 0 hk hx8
  have hb1 : ∀ hk : 1 < (bsOf [x, y]).size, (bsOf [x, y])[1].toNat = y := fun hk => bsOf_byte [x, y] 1 hk hy8
  have hn114 : ((y : Int) == 114) = false := by rw [beq_eq_false_iff_ne]; omega
  obtain ⟨Q, hQ, F⟩ := post_name (FoP K z s w c nm [x, y])
  rw [hQ]
  unfold FoP at F
  rw [opsM_two x y hne] at F
  generalize bsOf [x, y] = T at *
  have hz := Lib.hid (And.intro h0 (And.intro h1 h2))
  have hlH := Lib.hid hl
  have hxH := Lib.hid hx
  replace F := Lib.hid F
  clear h hQ h0 h1 h2 hx hy hl
  go_enter Tryz.func94, Tryz.ntmps94
  go_wp2_with fail
  with_reducible refine H1.out.mono ?_
  rintro e w1 ⟨s1, t1, k1, l1, (⟨n, v2, v3, r1, hn, rfl, ho⟩ | ⟨g1, rfl⟩)⟩
  · have hs2 := fun w a m => ho.fns.1.store Tryz.prog w a m
    have hs3 := fun w a m => ho.fns.2.store Tryz.prog w a m
    obtain ⟨d18, d19, d20, d21⟩ := t1.lookO
    have f18 := t1.look.2.2 18
    have f19 := t1.look.2.2 19
    have f20 := t1.look.2.2 20
    have f21 := t1.look.2.2 21
    have t2 := t1.putO (.int .u8 (y : Nat)) (.int .u16 (n : Nat)) v2 v3
    have k2 := k1.put4 18 (.int .u8 (y : Nat)) (.int .u16 (n : Nat)) v2 v3
    have ho2 := Lib.hid (ho.stay t1 (Kp.put4 (Kp.refl K w1) 18 (.int .u8 (y : Nat)) (.int .u16 (n : Nat)) v2 v3))
    have H2 := Lib.hid (operandOf_any x hxH.out t2 (by have := hlH.out; omega))
    have ht2 := Lib.hid t2
    have hk2 := Lib.hid k2
    have hr1 := Lib.hid r1
    have hl1 := Lib.hid l1
    clear H1 t1 t2 k1 k2 ho r1 l1
    go_wp2_with fail
    with_reducible refine H2.out.mono ?_
    rintro e w2 ⟨s2, t3, k3, l3, (⟨m, u2, u3, r2, hm, rfl, ho3⟩ | ⟨g2, rfl⟩)⟩
    · have hu2 := fun w a m => ho3.fns.1.store Tryz.prog w a m
      have hu3 := fun w a m => ho3.fns.2.store Tryz.prog w a m
      obtain ⟨d14, d15, d16, d17⟩ := t3.lookD
      have f14 := t3.look.2.2 14
      have f15 := t3.look.2.2 15
      have f16 := t3.look.2.2 16
      have f17 := t3.look.2.2 17
      have t4 := t3.putD (.int .u8 (x : Nat)) (.int .u16 (m : Nat)) u2 u3
      have kk := Kp.put4 (Kp.refl K w2) 14 (.int .u8 (x : Nat)) (.int .u16 (m : Nat)) u2 u3
      have hf := Lib.hid (F.out (.returned (.tuple #[])) _ ⟨s2, _, t4, (hk2.out.trans k3).trans kk, by have := hl1.out; omega, .inl ⟨m, n, hr1.out.bind (r2.bind (Ran.pure _ _)), ⟨hz.out.1, hz.out.2.1, hz.out.2.2, rfl, rfl, ho3.stay t3 kk, rfl, rfl, (ho2.out.stay ht2.out k3).stay t3 kk, hm, hn, hc⟩, rfl, rfl, rfl⟩⟩)
      clear H2 F t3 t4 k3 kk r2 ho3 l3 ho2 hz hr1 ht2
      go_wp2_with fail
      first | exact hf.out | (go_end0; exact hf.out)
    · have hf := Lib.hid (F.out lackE _ ⟨s2, _, t3, hk2.out.trans k3, by have := hl1.out; omega, .inr ⟨Gave.then hr1.out (Gave.bind g2), rfl⟩⟩)
      clear H2 F t3 k3 g2
      unfold lackE at hf ⊢
      go_wp2_with fail
      first | exact hf.out | exact ⟨rfl, hf.out⟩
  · have hf := Lib.hid (F.out lackE _ ⟨s1, z, t1, k1, by omega, .inr ⟨Gave.bind g1, rfl⟩⟩)
    clear H1 F t1 k1 g1
    unfold lackE at hf ⊢
    go_wp2_with fail
    first | exact hf.out | exact ⟨rfl, hf.out⟩
theorem fo_br (x : Nat) (hx : letterOk x) (hx8 : x < 256) (h : Tk K z s w) (h0 : z.n0 = .int .u8 (c : Nat)) (h1 : z.n1 = .string nm) (h2 : z.n2 = .string (bsOf [x, 114])) (hc : c < 256) (hl : s.l.length ≤ 90) :
    Calls Tryz.prog 94 #[.pointer (some ⟨K.b, 0, none⟩)] w (FoP K z s w c nm [x, 114]) := by
  have c11 := h.lookN.2.2.1
  rw [h2] at c11
  have H1 := Lib.hid (operandOf_any x hx h (by omega))
  have he : (bsOf [x, 114]).toList.isEmpty = false := by rw [bsOf_toList]; rfl
  have hsz : (bsOf [x, 114]).size = 2 := bsOf_size [x, 114]
  have hb : ∀ hk : 0 < (bsOf [x, 114]).size, (bsOf [x, 114])[0].toNat = x := fun hk => bsOf_byte [x, 114] 0 hk hx8
  have hb1 : ∀ hk : 1 < (bsOf [x, 114]).size, (bsOf [x, 114])[1].toNat = 114 := fun hk => bsOf_byte [x, 114] 1 hk (show 114 < 256 by decide)
  obtain ⟨Q, hQ, F⟩ := post_name (FoP K z s w c nm [x, 114])
  rw [hQ]
  unfold FoP at F
  rw [opsM_br] at F
  generalize bsOf [x, 114] = T at *
  have hz := Lib.hid (And.intro h0 (And.intro h1 h2))
  have hlH := Lib.hid hl
  replace F := Lib.hid F
  clear h hQ h0 h1 h2 hx hl
  go_enter Tryz.func94, Tryz.ntmps94
  go_wp2_with fail
  with_reducible refine H1.out.mono ?_
  rintro e w1 ⟨s1, t1, k1, l1, (⟨n, v2, v3, r1, hn, rfl, ho⟩ | ⟨g1, rfl⟩)⟩
  · have hs2 := fun w a m => ho.fns.1.store Tryz.prog w a m
    have hs3 := fun w a m => ho.fns.2.store Tryz.prog w a m
    obtain ⟨d14, d15, d16, d17⟩ := t1.lookD
    have f14 := t1.look.2.2 14
    have f15 := t1.look.2.2 15
    have f16 := t1.look.2.2 16
    have f17 := t1.look.2.2 17
    have t2 := t1.putD (.int .u8 (x : Nat)) (.int .u16 (n : Nat)) v2 v3
    have k2 := k1.put4 14 (.int .u8 (x : Nat)) (.int .u16 (n : Nat)) v2 v3
    have ho2 := Lib.hid (ho.stay t1 (Kp.put4 (Kp.refl K w1) 14 (.int .u8 (x : Nat)) (.int .u16 (n : Nat)) v2 v3))
    have H2 := operandOf_any 114 (by decide) t2 (by have := hlH.out; omega)
    simp only [show ((114 : Nat) : Int) = 114 from rfl] at H2
    replace H2 := Lib.hid H2
    have ht2 := Lib.hid t2
    have hk2 := Lib.hid k2
    have hr1 := Lib.hid r1
    have hl1 := Lib.hid l1
    clear H1 t1 t2 k1 k2 ho r1 l1
    go_wp2_with fail
    with_reducible refine H2.out.mono ?_
    rintro e w2 ⟨s2, t3, k3, l3, (⟨m, u2, u3, r2, hm, rfl, ho3⟩ | ⟨g2, rfl⟩)⟩
    · have hu2 := fun w a m => ho3.fns.1.store Tryz.prog w a m
      have hu3 := fun w a m => ho3.fns.2.store Tryz.prog w a m
      obtain ⟨d18, d19, d20, d21⟩ := t3.lookO
      have f18 := t3.look.2.2 18
      have f19 := t3.look.2.2 19
      have f20 := t3.look.2.2 20
      have f21 := t3.look.2.2 21
      have t4 := t3.putO (.int .u8 114) (.int .u16 (m : Nat)) u2 u3
      have kk := Kp.put4 (Kp.refl K w2) 18 (.int .u8 114) (.int .u16 (m : Nat)) u2 u3
      have hf := Lib.hid (F.out (.returned (.tuple #[])) _ ⟨s2, _, t4, (hk2.out.trans k3).trans kk, by have := hl1.out; omega, .inl ⟨n, m, hr1.out.bind (r2.bind (Ran.pure _ _)), ⟨hz.out.1, hz.out.2.1, hz.out.2.2, rfl, rfl, (ho2.out.stay ht2.out k3).stay t3 kk, rfl, rfl, ho3.stay t3 kk, hn, hm, hc⟩, rfl, rfl, rfl⟩⟩)
      clear H2 F t3 t4 k3 kk r2 ho3 l3 ho2 hz hr1 ht2
      go_wp2_with fail
      first | exact hf.out | (go_end0; exact hf.out)
    · have hf := Lib.hid (F.out lackE _ ⟨s2, _, t3, hk2.out.trans k3, by have := hl1.out; omega, .inr ⟨Gave.then hr1.out (Gave.bind g2), rfl⟩⟩)
      clear H2 F t3 k3 g2
      unfold lackE at hf ⊢
      go_wp2_with fail
      first | exact hf.out | exact ⟨rfl, hf.out⟩
  · have hf := Lib.hid (F.out lackE _ ⟨s1, z, t1, k1, by omega, .inr ⟨Gave.bind g1, rfl⟩⟩)
    clear H1 F t1 k1 g1
    unfold lackE at hf ⊢
    go_wp2_with fail
    first | exact hf.out | exact ⟨rfl, hf.out⟩
def allL : List Nat := regL ++ [35] ++ memL ++ noneL
theorem letter_of {x : Nat} (h : x ∈ allL) : letterOk x := by
  unfold allL at h
  simp only [List.mem_append, List.mem_singleton] at h
  rcases h with ((h | h) | h) | h
  · exact .inl h
  · exact .inr (.inl h)
  · exact .inr (.inr (.inl h))
  · exact .inr (.inr (.inr h))
theorem all_lt : ∀ x ∈ allL, x < 256 := by decide
theorem forms_ok (c : Nat) (hc : c < 256) : ∀ x ∈ fmL c, x ∈ allL := (show ∀ c, c < 256 → ∀ x ∈ fmL c, x ∈ allL by decide +kernel) c hc
/-- A runner's operands before they are laid. -/
structure Bare (z : Zs) : Prop where
  d0 : z.d0 = .int .u8 0
  d1 : z.d1 = .int .u16 0
  d2 : z.d2 = .nilFunc
  d3 : z.d3 = .nilFunc
  o0 : z.o0 = .int .u8 0
  o1 : z.o1 = .int .u16 0
  o2 : z.o2 = .nilFunc
  o3 : z.o3 = .nilFunc
theorem fo_any (h : Tk K z s w) (hb : Bare z) (h0 : z.n0 = .int .u8 (c : Nat)) (h1 : z.n1 = .string nm) (h2 : z.n2 = .string (bsOf (fmL c))) (hc : c < 256) (hl : s.l.length ≤ 90) :
    Calls Tryz.prog 94 #[.pointer (some ⟨K.b, 0, none⟩)] w (FoP K z s w c nm (fmL c)) := by
  have h3 := forms_ok c hc
  have h4 := fmL_le c hc
  generalize fmL c = fm at *
  match fm, h3, h4 with
  | [], _, _ => exact fo_nil h h0 h1 h2 hb.d0 hb.d1 hb.o0 hb.o1 hb.d2 hb.d3 hb.o2 hb.o3 hc
  | [x], h3, _ =>
    have hx := h3 x (by simp)
    exact fo_one x (letter_of hx) (all_lt x hx) h h0 h1 h2 hc hl
  | [x, y], h3, _ =>
    have hx := h3 x (by simp)
    have hy := h3 y (by simp)
    by_cases e : y = 114
    · subst e
      exact fo_br x (letter_of hx) (all_lt x hx) h h0 h1 h2 hc hl
    · exact fo_two x y (letter_of hx) (letter_of hy) (all_lt x hx) (all_lt y hy) e h h0 h1 h2 hc hl
end
end Go.Proofs.YtknlbmjncginnaaGreatDoor
