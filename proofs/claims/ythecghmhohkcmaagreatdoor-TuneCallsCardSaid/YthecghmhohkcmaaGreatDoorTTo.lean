/-
  How many reads and writes an instruction has behind its own bytes.
-/
import Derived.Test.YthecghmhohkcmaaGreatDoorTWo
namespace Go.Proofs.YthecghmhohkcmaaGreatDoor
open Go.RowKit Go.Shelf
set_option maxRecDepth 100000
set_option maxHeartbeats 4000000
set_option linter.unusedVariables false
set_option linter.unusedSimpArgs false

def reF (x : Nat) : Nat := if x ∈ [100, 120, 121, 105, 106, 43, 97, 112, 113, 98, 110, 47] then 1 else if x = 68 then 2 else if x = 108 ∨ x = 109 then 3 else 0
theorem reF_le (x : Nat) : reF x ≤ 3 := by
  unfold reF
  split
  · omega
  · split
    · omega
    · split <;> omega
theorem bsOf_toList (l : List Nat) : (bsOf l).toList = l.map UInt8.ofNat := by simp [bsOf]
theorem reachedBy_any (x : Nat) (w : World) (hx : x < 256) : Calls Tryz.prog 76 #[.int .u8 (x : Nat)] w fun e w' => e = .returned (.int .i64 (reF x : Nat)) ∧ w' = w := by
  by_cases hin : x ∈ [100, 120, 121, 105, 106, 43, 97, 112, 113, 98, 110, 47, 68, 108, 109]
  · simp only [List.mem_cons, List.not_mem_nil, or_false] at hin
    rcases hin with rfl | rfl | rfl | rfl | rfl | rfl | rfl | rfl | rfl | rfl | rfl | rfl | rfl | rfl | rfl
    all_goals
      go_enter Tryz.func76, Tryz.ntmps76
      go_wp2_with fail
      go_ret
      exact ⟨rfl, rfl⟩
  · simp only [List.mem_cons, List.not_mem_nil, or_false, not_or] at hin
    obtain ⟨h0, h1, h2, h3, h4, h5, h6, h7, h8, h9, h10, h11, h12, h13, h14⟩ := hin
    have hw : reF x = 0 := by simp [reF, *]
    rw [hw]
    replace h0 : ((x : Int) == 100) = false := by rw [beq_eq_false_iff_ne]; omega
    replace h1 : ((x : Int) == 120) = false := by rw [beq_eq_false_iff_ne]; omega
    replace h2 : ((x : Int) == 121) = false := by rw [beq_eq_false_iff_ne]; omega
    replace h3 : ((x : Int) == 105) = false := by rw [beq_eq_false_iff_ne]; omega
    replace h4 : ((x : Int) == 106) = false := by rw [beq_eq_false_iff_ne]; omega
    replace h5 : ((x : Int) == 43) = false := by rw [beq_eq_false_iff_ne]; omega
    replace h6 : ((x : Int) == 97) = false := by rw [beq_eq_false_iff_ne]; omega
    replace h7 : ((x : Int) == 112) = false := by rw [beq_eq_false_iff_ne]; omega
    replace h8 : ((x : Int) == 113) = false := by rw [beq_eq_false_iff_ne]; omega
    replace h9 : ((x : Int) == 98) = false := by rw [beq_eq_false_iff_ne]; omega
    replace h10 : ((x : Int) == 110) = false := by rw [beq_eq_false_iff_ne]; omega
    replace h11 : ((x : Int) == 47) = false := by rw [beq_eq_false_iff_ne]; omega
    replace h12 : ((x : Int) == 68) = false := by rw [beq_eq_false_iff_ne]; omega
    replace h13 : ((x : Int) == 108) = false := by rw [beq_eq_false_iff_ne]; omega
    replace h14 : ((x : Int) == 109) = false := by rw [beq_eq_false_iff_ne]; omega
    go_enter Tryz.func76, Tryz.ntmps76
    go_wp2_with fail
    go_ret
    exact ⟨rfl, rfl⟩
def namesNo : List (List UInt8) := [[77, 79, 86], [77, 79, 86, 87], [67, 77, 80], [67, 77, 80, 87], [66, 66, 83], [66, 66, 67], [67, 66, 78, 69]]
theorem eqb_false {l : List UInt8} {x : List UInt8} {ls : List (List UInt8)} (h : l ∉ ls) (hx : x ∈ ls) : (l == x) = false := by
  rw [beq_eq_false_iff_ne]
  exact fun e => h (e ▸ hx)
theorem changes_any (S : ByteArray) (w : World) : Calls Tryz.prog 77 #[.string S] w fun e w' => e = .returned (.bool (!decide (S.toList ∈ namesNo))) ∧ w' = w := by
  generalize hl : S.toList = l
  by_cases h : l ∈ namesNo
  · rw [decide_eq_true h]
    unfold namesNo at h
    simp only [List.mem_cons, List.not_mem_nil, or_false] at h
    rcases h with rfl | rfl | rfl | rfl | rfl | rfl | rfl
    all_goals
      go_enter Tryz.func77, Tryz.ntmps77
      go_wp2_with fail
      go_ret
      exact ⟨rfl, rfl⟩
  · rw [decide_eq_false h]
    have h0 : (l == [77, 79, 86]) = false := eqb_false h (by decide)
    have h1 : (l == [77, 79, 86, 87]) = false := eqb_false h (by decide)
    have h2 : (l == [67, 77, 80]) = false := eqb_false h (by decide)
    have h3 : (l == [67, 77, 80, 87]) = false := eqb_false h (by decide)
    have h4 : (l == [66, 66, 83]) = false := eqb_false h (by decide)
    have h5 : (l == [66, 66, 67]) = false := eqb_false h (by decide)
    have h6 : (l == [67, 66, 78, 69]) = false := eqb_false h (by decide)
    clear h
    go_enter Tryz.func77, Tryz.ntmps77
    go_wp2_with fail
    go_ret
    exact ⟨rfl, rfl⟩
def names1 : List (List UInt8) := [[80, 85, 83, 72], [80, 79, 80]]
def names2 : List (List UInt8) := [[67, 65, 76, 76], [80, 67, 65, 76, 76], [82, 69, 84]]
def namesS : List (List UInt8) := [[80, 85, 83, 72], [80, 79, 80], [67, 65, 76, 76], [80, 67, 65, 76, 76], [82, 69, 84], [82, 69, 84, 73], [84, 67, 65, 76, 76], [66, 82, 75], [74, 77, 80]]
def reS (fm : List Nat) : Nat → Nat
  | 0 => 0
  | i + 1 => reS fm i + reF (fm.getD i 0)
theorem reS_le (fm : List Nat) : ∀ i, reS fm i ≤ 3 * i
  | 0 => Nat.le_refl _
  | i + 1 => by have := reS_le fm i; have := reF_le (fm.getD i 0); unfold reS; omega
theorem reS_all (fm : List Nat) (h : fm.length ≤ 2) : reS fm fm.length = (fm.map reF).sum := by
  match fm, h with
  | [], _ => rfl
  | [x], _ => simp [reS]
  | [x, y], _ => simp [reS]
def heF (fm : List Nat) : Nat := match fm with | [] => 0 | x :: _ => reF x
def toF (l : List UInt8) (fm : List Nat) : Nat :=
  if l ∈ names1 then 1 else if l ∈ names2 then 2 else if l = [82, 69, 84, 73] then 3 else if l = [84, 67, 65, 76, 76] then 4 else if l = [66, 82, 75] then 5
  else if l = [74, 77, 80] then (if fm = [97] then 0 else 2)
  else (fm.map reF).sum + (if decide (l ∈ namesNo) then 0 else heF fm)
theorem toF_le (l : List UInt8) (fm : List Nat) (h : fm.length ≤ 2) : toF l fm ≤ 9 := by
  unfold toF
  split
  · omega
  split
  · omega
  split
  · omega
  split
  · omega
  split
  · omega
  split
  · split <;> omega
  match fm, h with
  | [], _ => simp [heF]
  | [x], _ => have := reF_le x; simp [heF]; split <;> omega
  | [x, y], _ => have := reF_le x; have := reF_le y; simp [heF]; split <;> omega
theorem touches_any (c0 sz cy : Nat) (S : ByteArray) (fm : List Nat) (w : World) (hf : ∀ x ∈ fm, x < 256) (hz : fm.length ≤ 2) :
    Calls Tryz.prog 51 #[.agg #[.int .u8 (c0 : Nat), .string S, .string (bsOf fm), .int .i64 (sz : Nat), .int .i64 (cy : Nat)]] w fun e w' => e = .returned (.int .i64 (toF S.toList fm : Nat)) ∧ Below w.heap.size w w' := by
  have hX := Whole.fresh w 51 #[.int .u8 (c0 : Nat), .string S, .string (bsOf fm), .int .i64 (sz : Nat), .int .i64 (cy : Nat)]
  have hB := Lib.hid ((Below.refl w.heap.size w).alloc (Nat.le_refl _) (.cells #[.int .u8 (c0 : Nat), .string S, .string (bsOf fm), .int .i64 (sz : Nat), .int .i64 (cy : Nat)] 51))
  have x1 := hX.cell 1
  have x2 := hX.cell 2
  simp only [List.getElem?_toArray, List.getElem?_cons_zero, List.getElem?_cons_succ] at x1 x2
  have HC := Lib.hid fun (W : World) => changes_any S W
  have hsz : (bsOf fm).size = fm.length := bsOf_size fm
  have hby : ∀ k (h : k < (bsOf fm).size), (bsOf fm)[k].toNat = fm.getD k 0 := fun k h => bsOf_byte fm k h (by rw [List.getD_eq_getElem?_getD, List.getElem?_eq_getElem (by omega)]; exact hf _ (List.getElem_mem _))
  have htl : (bsOf fm).toList = fm.map UInt8.ofNat := bsOf_toList fm
  generalize bsOf fm = T at *
  generalize hl : S.toList = l at *
  clear hX
  by_cases h : l ∈ namesS
  · unfold namesS at h
    simp only [List.mem_cons, List.not_mem_nil, or_false] at h
    rcases h with rfl | rfl | rfl | rfl | rfl | rfl | rfl | rfl | rfl
    · rw [show toF [80, 85, 83, 72] fm = 1 from by simp [toF, names1, names2]]
      go_enter Tryz.func51, Tryz.ntmps51
      go_wp2_with fail
      go_ret
      exact ⟨rfl, hB.out⟩
    · rw [show toF [80, 79, 80] fm = 1 from by simp [toF, names1, names2]]
      go_enter Tryz.func51, Tryz.ntmps51
      go_wp2_with fail
      go_ret
      exact ⟨rfl, hB.out⟩
    · rw [show toF [67, 65, 76, 76] fm = 2 from by simp [toF, names1, names2]]
      go_enter Tryz.func51, Tryz.ntmps51
      go_wp2_with fail
      go_ret
      exact ⟨rfl, hB.out⟩
    · rw [show toF [80, 67, 65, 76, 76] fm = 2 from by simp [toF, names1, names2]]
      go_enter Tryz.func51, Tryz.ntmps51
      go_wp2_with fail
      go_ret
      exact ⟨rfl, hB.out⟩
    · rw [show toF [82, 69, 84] fm = 2 from by simp [toF, names1, names2]]
      go_enter Tryz.func51, Tryz.ntmps51
      go_wp2_with fail
      go_ret
      exact ⟨rfl, hB.out⟩
    · rw [show toF [82, 69, 84, 73] fm = 3 from by simp [toF, names1, names2]]
      go_enter Tryz.func51, Tryz.ntmps51
      go_wp2_with fail
      go_ret
      exact ⟨rfl, hB.out⟩
    · rw [show toF [84, 67, 65, 76, 76] fm = 4 from by simp [toF, names1, names2]]
      go_enter Tryz.func51, Tryz.ntmps51
      go_wp2_with fail
      go_ret
      exact ⟨rfl, hB.out⟩
    · rw [show toF [66, 82, 75] fm = 5 from by simp [toF, names1, names2]]
      go_enter Tryz.func51, Tryz.ntmps51
      go_wp2_with fail
      go_ret
      exact ⟨rfl, hB.out⟩
    · by_cases hfm : fm = [97]
      · rw [show toF [74, 77, 80] fm = 0 from by rw [hfm]; simp [toF, names1, names2]]
        rw [hfm] at htl
        simp only [List.map_cons, List.map_nil, show UInt8.ofNat 97 = 97 from rfl] at htl
        go_enter Tryz.func51, Tryz.ntmps51
        go_wp2_with fail
        go_ret
        exact ⟨rfl, hB.out⟩
      · rw [show toF [74, 77, 80] fm = 2 from by simp [toF, names1, names2, hfm]]
        have ht : (T.toList == [97]) = false := by
          rw [htl, beq_eq_false_iff_ne]
          intro e
          apply hfm
          have e2 : (fm.map UInt8.ofNat).map UInt8.toNat = [97] := by rw [e]; rfl
          rw [List.map_map] at e2
          rw [← e2]
          symm
          conv => rhs; rw [← List.map_id fm]
          apply List.map_congr_left
          intro x hx
          simp [Function.comp, UInt8.toNat_ofNat', Nat.mod_eq_of_lt (hf x hx)]
        clear htl
        go_enter Tryz.func51, Tryz.ntmps51
        go_wp2_with fail
        go_ret
        exact ⟨rfl, hB.out⟩
  · have ht : toF l fm = (fm.map reF).sum + (if decide (l ∈ namesNo) then 0 else heF fm) := by
      unfold toF
      rw [if_neg (fun e => h ((show ∀ x ∈ names1, x ∈ namesS by decide) l e)), if_neg (fun e => h ((show ∀ x ∈ names2, x ∈ namesS by decide) l e)), if_neg (fun e => h (by rw [e]; decide)), if_neg (fun e => h (by rw [e]; decide)), if_neg (fun e => h (by rw [e]; decide)), if_neg (fun e => h (by rw [e]; decide))]
    rw [ht]
    clear ht
    have h0 : (l == [80, 85, 83, 72]) = false := eqb_false h (by decide)
    have h1 : (l == [80, 79, 80]) = false := eqb_false h (by decide)
    have h2 : (l == [67, 65, 76, 76]) = false := eqb_false h (by decide)
    have h3 : (l == [80, 67, 65, 76, 76]) = false := eqb_false h (by decide)
    have h4 : (l == [82, 69, 84]) = false := eqb_false h (by decide)
    have h5 : (l == [82, 69, 84, 73]) = false := eqb_false h (by decide)
    have h6 : (l == [84, 67, 65, 76, 76]) = false := eqb_false h (by decide)
    have h7 : (l == [66, 82, 75]) = false := eqb_false h (by decide)
    have h8 : (l == [74, 77, 80]) = false := eqb_false h (by decide)
    clear h
    generalize decide (l ∈ namesNo) = pp at *
    have HR := Lib.hid fun (x : Nat) (W : World) (hx : x < 256) => reachedBy_any x W hx
    have hle : ∀ i, reS fm i ≤ 3 * i := reS_le fm
    have hst : ∀ i, reS fm (i + 1) = reS fm i + reF (fm.getD i 0) := fun i => rfl
    have hlt : ∀ i, i < fm.length → fm.getD i 0 < 256 := fun i hi => by
      rw [List.getD_eq_getElem?_getD, List.getElem?_eq_getElem hi]
      exact hf _ (List.getElem_mem _)
    have hhe : fm.length = 0 ∨ heF fm = reF (fm.getD 0 0) := by
      cases fm with
      | nil => exact .inl rfl
      | cons x _ => exact .inr rfl
    have hh0 : fm.length = 0 → heF fm = 0 := by
      cases fm with
      | nil => exact fun _ => rfl
      | cons x _ => exact fun h => absurd h (by simp)
    have hemp : T.toList.isEmpty = decide (fm.length = 0) := by
      rw [htl]
      cases fm <;> simp
    rw [← reS_all fm hz]
    have hS00 : Hid (reS fm 0 = 0) := Lib.hid rfl
    generalize heF fm = he at *
    generalize hn : fm.length = n at *
    generalize reS fm = SS at *
    replace hle := Lib.hid hle
    replace hst := Lib.hid hst
    replace hlt := Lib.hid hlt
    replace hby := Lib.hid hby
    replace hn := Lib.hid hn
    obtain ⟨rs, hrs⟩ : ∃ rs, SS n + (if pp = true then 0 else he) = rs := ⟨_, rfl⟩
    rw [hrs]
    replace hrs := Lib.hid hrs
    replace hhe := Lib.hid hhe
    replace hh0 := Lib.hid hh0
    replace hemp := Lib.hid hemp
    clear htl
    go_enter Tryz.func51, Tryz.ntmps51
    go_wp2_with fail
    go_loopw [3, 28] (fun s3 s28 wr => ∃ i : Nat, i ≤ n ∧ s28 = .int .i64 i ∧ s3 = .int .i64 (SS i : Nat) ∧ wr = w.alloc (.cells #[.int .u8 (c0 : Nat), .string S, .string T, .int .i64 (sz : Nat), .int .i64 (cy : Nat)] 51)) (fun _ s28 _ => n - (intOf s28).toNat)
    case atStart => exact ⟨0, Nat.zero_le _, rfl, by rw [hS00.out]; rfl, rfl⟩
    case round =>
      obtain ⟨i, hi, rfl, rfl, rfl⟩ := hrel
      by_cases hc : i < n
      · have hb := hby.out i (by omega)
        have hq := hlt.out i hc
        have hs2 := hst.out i
        have hle1 := hle.out i
        have hR := HR.out (fm.getD i 0) (w.alloc (.cells #[.int .u8 (c0 : Nat), .string S, .string T, .int .i64 (sz : Nat), .int .i64 (cy : Nat)] 51)) hq
        have hrl := reF_le (fm.getD i 0)
        generalize reF (fm.getD i 0) = r at *
        generalize fm.getD i 0 = x at *
        replace hR := Lib.hid hR
        replace hs2 := Lib.hid hs2
        have hi2 := hi
        clear HR hle hst hlt hby hq HC
        go_wp2_with fail
        with_reducible refine hR.out.mono ?_
        rintro e w2 ⟨rfl, hw2⟩
        rw [hw2]
        clear hR hw2
        go_wp2_with fail
        go_roundw
        case rel => exact ⟨i + 1, hc, by go_num, by rw [hs2.out]; simp, by first | rfl | trivial⟩
        case measure => simp [intOf]; omega
      · obtain rfl : i = n := by omega
        have hle1 := hle.out i
        cases pp
        · have hr := hrs.out
          rw [if_neg (by decide)] at hr
          by_cases h00 : i = 0
          · have hes : T.toList.isEmpty = true := by rw [hemp.out]; exact decide_eq_true h00
            have he0 := hh0.out h00
            rw [he0, Nat.add_zero] at hr
            clear hrs
            generalize SS i = v at *
            replace hr := Lib.hid hr
            replace h00 := Lib.hid h00
            clear HR hle hst hlt hby hhe hh0 he0
            go_wp2_with fail
            with_reducible refine (HC.out _).mono ?_
            rintro e w2 ⟨rfl, hw2⟩
            rw [hw2]
            clear HC hw2
            go_wp2_with fail
            go_ret
            exact ⟨by rw [← hr.out]; rfl, hB.out⟩
          · have hes : T.toList.isEmpty = false := by rw [hemp.out]; exact decide_eq_false h00
            have heq := hhe.out.resolve_left h00
            have hb := hby.out 0 (by omega)
            have hR := HR.out (fm.getD 0 0) (w.alloc (.cells #[.int .u8 (c0 : Nat), .string S, .string T, .int .i64 (sz : Nat), .int .i64 (cy : Nat)] 51)) (hlt.out 0 (by omega))
            have hrl := reF_le (fm.getD 0 0)
            rw [heq] at hr
            clear hrs
            generalize reF (fm.getD 0 0) = r at *
            generalize fm.getD 0 0 = x at *
            generalize SS i = v at *
            replace hr := Lib.hid hr
            replace hR := Lib.hid hR
            clear HR hle hst hlt hby hhe hh0 heq
            go_wp2_with fail
            with_reducible refine (HC.out _).mono ?_
            rintro e w2 ⟨rfl, hw2⟩
            rw [hw2]
            clear HC hw2
            go_wp2_with fail
            with_reducible refine hR.out.mono ?_
            rintro e w2 ⟨rfl, hw2⟩
            rw [hw2]
            clear hR hw2
            go_wp2_with fail
            go_ret
            exact ⟨by rw [← hr.out]; simp, hB.out⟩
        · have hr := hrs.out
          rw [if_pos rfl, Nat.add_zero] at hr
          clear hrs
          generalize SS i = v at *
          replace hr := Lib.hid hr
          clear HR hle hst hlt hby hhe hh0
          go_wp2_with fail
          with_reducible refine (HC.out _).mono ?_
          rintro e w2 ⟨rfl, hw2⟩
          rw [hw2]
          clear HC hw2
          go_wp2_with fail
          go_ret
          exact ⟨by rw [← hr.out]; rfl, hB.out⟩
end Go.Proofs.YthecghmhohkcmaaGreatDoor
