/-
  A code by the document.
-/
import Derived.Test.YtmbpkpideepghaaDoorLst
import Derived.Deep.QuietTactic
namespace Go.Proofs.YtmbpkpideepghaaDoor
open Go.RowKit
set_option maxRecDepth 1000000
set_option maxHeartbeats 400000
set_option linter.unusedVariables false

def docName (c : Nat) : ByteArray := (docS c).extract 0 3
def signB (S : ByteArray) (m : Nat) : Bool := (S.extract 4 S.size).toList == (signF m).toList
/-- The mode that a text's end says: the last of the first k that fits. -/
def modeAcc (S : ByteArray) : Nat → Nat
  | 0 => 0
  | k + 1 => if 3 < S.size ∧ signB S (k + 1) = true then k + 1 else modeAcc S k
theorem modeAcc_zero (S : ByteArray) : modeAcc S 0 = 0 := rfl
theorem modeAcc_succ (S : ByteArray) (k : Nat) : modeAcc S (k + 1) = if 3 < S.size ∧ signB S (k + 1) = true then k + 1 else modeAcc S k := rfl
theorem signB_eq (S : ByteArray) (m : Nat) : ((S.extract 4 S.size).toList == (signF m).toList) = signB S m := rfl
theorem modeAcc_le (S : ByteArray) (k : Nat) : modeAcc S k ≤ k := by
  induction k with
  | zero => exact Nat.le_refl _
  | succ k ih => unfold modeAcc; split <;> omega
attribute [local irreducible] partF inF bytesN modeF nameF widthF useF wideF docWidthF docUseF signF modeAcc signB
theorem rof_any (c : Nat) (w : World) (hc : c < 256) : Calls Tryd.prog 11 #[.int .u8 c] w fun e w' => e = .returned (codeV c (docName c) (modeAcc (docS c) 25) (docUseF (docName c).toList (modeAcc (docS c) 25) (docWidthF (docName c).toList)) (docWidthF (docName c).toList)) ∧ Below w.heap.size w w' := by
  have hB := (Below.refl w.heap.size w).alloc (Nat.le_refl _) (.cells #[.int .u8 0, .string ⟨#[]⟩, .int .u8 0, .int .u8 0, .int .u8 0] 23)
  have hX := Whole.fresh w 23 #[.int .u8 0, .string ⟨#[]⟩, .int .u8 0, .int .u8 0, .int .u8 0]
  have HR := fun W => row_any (c / 16) (by omega) W
  have HP := fun W => part_any (bytesN (rowN (c / 16))) (c % 16) 124 W (rows_size _ (by omega)) (by omega) (by decide)
  rw [show partF (bytesN (rowN (c / 16))) (c % 16) 124 = docS c from rfl, show ((124 : Nat) : Int) = 124 from rfl] at HP
  have HG := fun m (hm : m < 256) W => sign_any m W hm
  have HW := fun W => rwidth_any (docName c) W
  have HU := fun m W => ruse_any (docName c) m (docWidthF (docName c).toList) W
  have hs := docS_size c hc
  have hnm : docName c = (docS c).extract 0 3 := rfl
  generalize docWidthF (docName c).toList = wd at *
  generalize bytesN (rowN (c / 16)) = RW at *
  generalize docName c = nm at *
  generalize docS c = S at *
  unfold codeV
  replace HR := Lib.hid HR
  replace HP := Lib.hid HP
  replace HG := Lib.hid HG
  replace HW := Lib.hid HW
  replace HU := Lib.hid HU
  replace hnm := Lib.hid hnm
  go_enter Tryd.func11, Tryd.ntmps11
  go_upto_region 1 with (fail)
  generalize (w.alloc (.cells #[.int .u8 0, .string ⟨#[]⟩, .int .u8 0, .int .u8 0, .int .u8 0] 23)) = W1 at *
  go_wp2_with fail
  rw [show ((c : Int) / 16) = ((c / 16 : Nat) : Int) by omega]
  with_reducible refine (HR.out _).mono ?_
  rintro e w' ⟨rfl, rfl⟩
  go_wp2_with fail
  rw [show ((c : Int) % 16) = ((c % 16 : Nat) : Int) by omega]
  with_reducible refine (HP.out _).mono ?_
  rintro e w' ⟨rfl, rfl⟩
  clear HR HP
  have hS3 : ((3 : Int) ≤ (S.size : Int)) := by omega
  go_upto_region 3 with (fail)
  rw [← hnm.out]
  have hZ := Whole.fresh W1 23 #[.int .u8 c, .string nm, .int .u8 0, .int .u8 0, .int .u8 0]
  have hX2 := hX.alloc (.cells #[.int .u8 c, .string nm, .int .u8 0, .int .u8 0, .int .u8 0] 23)
  have hB2 := hB.alloc hB.size (.cells #[.int .u8 c, .string nm, .int .u8 0, .int .u8 0, .int .u8 0] 23)
  have hne : w.heap.size ≠ W1.heap.size := by have := hX.lt; omega
  have hle : w.heap.size ≤ W1.heap.size := hB.size
  clear hX hB
  generalize W1.alloc (.cells #[.int .u8 c, .string nm, .int .u8 0, .int .u8 0, .int .u8 0] 23) = W2 at *
  generalize W1.heap.size = Z at *
  generalize hXe : w.heap.size = X at *
  replace hXe := Lib.hid hXe
  clear hS3
  go_wp2_with fail
  go_loopw [5] (fun s5 wr => ∃ k : Nat, k ≤ 25 ∧ s5 = .int .i64 ((k + 1 : Nat) : Int) ∧ Whole wr Z 23 #[.int .u8 c, .string nm, .int .u8 (modeAcc S k), .int .u8 0, .int .u8 0] ∧ Whole wr X 23 #[.int .u8 0, .string ⟨#[]⟩, .int .u8 0, .int .u8 0, .int .u8 0] ∧ Below X w wr) (fun s5 _ => 26 - (intOf s5).toNat)
  case atStart => exact ⟨0, by omega, rfl, by rw [modeAcc_zero]; exact hZ, hX2, hB2⟩
  case round =>
    obtain ⟨k, hk, rfl, hZ, hX, hB⟩ := hrel
    obtain ⟨wo, rfl⟩ : ∃ wo, wo = wr := ⟨_, rfl⟩
    clear hX2 hB2
    by_cases hlt : k < 25
    · as_aux_lemma =>
      have HS := Lib.hid (fun W => (HG.out (k + 1) (by omega) W).mono (fun e w' h => (⟨h.1, h.2.symm⟩ : e = Ending.returned (.string (signF (k + 1))) ∧ w' = W)))
      have hacc : modeAcc S (k + 1) = if 3 < S.size ∧ signB S (k + 1) = true then k + 1 else modeAcc S k := modeAcc_succ S k
      have hi25 : k + 1 ≤ 25 := hlt
      generalize hi : k + 1 = i at *
      have hk2 := Lib.hid hk
      replace hi := Lib.hid hi
      replace hacc := Lib.hid hacc
      clear hk hlt
      by_cases h3 : 3 < S.size
      · have e3 : ((S.extract 4 S.size).toList == (signF i).toList) = signB S i := signB_eq S i
        generalize signF i = sg at *
        have h31 : (3 : Int) < (S.size : Int) := by omega
        have h41 : (4 : Int) ≤ (S.size : Int) := by omega
        have t25 : decide ((i : Int) ≤ 25) = true := decide_eq_true (by omega)
        cases hsb : signB S i with
        | true =>
          rw [hsb] at e3
          have hacc := hacc.out
          rw [if_pos ⟨h3, hsb⟩] at hacc
          go_upto_region 6 with (fail)
          go_quiet ((go_at_call 32; exact Calls.quiet_of_same (HS.out _)))
          have hZ2 := hZ.drewN nq
          have hX2 := hX.drewN nq
          have hB2 := below_drewN hB nq
          clear hZ hX hB HS
          generalize wo.drewN nq = W5 at *
          have f2 := hZ2.free 2
          have y2 := hZ2.cell 2
          simp only [List.getElem?_toArray, List.getElem?_cons_zero, List.getElem?_cons_succ] at y2
          have hZ3 := hZ2.put 2 (.int .u8 i)
          have hX3 := hX2.away (p := ⟨Z, 2, none⟩) hne (.int .u8 i)
          have hB3 := hB2.setCell (p := ⟨Z, 2, none⟩) hle (.int .u8 i)
          replace hZ3 := Lib.hid hZ3
          replace hX3 := Lib.hid hX3
          replace hB3 := Lib.hid hB3
          clear hZ2 hX2 hB2
          replace hacc := Lib.hid hacc
          go_wp2_with fail
          go_roundw
          case rel => exact ⟨i, hi25, by go_num, by rw [hacc.out]; exact hZ3.out, hX3.out, hB3.out⟩
          case measure => have := hi.out; simp [intOf]; omega
        | false =>
          rw [hsb] at e3
          have hacc := hacc.out
          rw [if_neg (fun h => by rw [hsb] at h; cases h.2)] at hacc
          replace hacc := Lib.hid hacc
          go_upto_region 6 with (fail)
          go_quiet ((go_at_call 32; exact Calls.quiet_of_same (HS.out _)))
          have hZ2 := Lib.hid (hZ.drewN nq)
          have hX2 := Lib.hid (hX.drewN nq)
          have hB2 := Lib.hid (below_drewN hB nq)
          clear hZ hX hB HS
          generalize wo.drewN nq = W5 at *
          go_wp2_with fail
          go_roundw
          case rel => exact ⟨i, hi25, by go_num, by rw [hacc.out]; exact hZ2.out, hX2.out, hB2.out⟩
          case measure => have := hi.out; simp [intOf]; omega
      · have t25 : decide ((i : Int) ≤ 25) = true := decide_eq_true (by omega)
        have hacc := hacc.out
        rw [if_neg (fun h => h3 h.1)] at hacc
        replace hacc := Lib.hid hacc
        have h31 : ¬ (3 : Int) < (S.size : Int) := by omega
        go_upto_region 6 with (fail)
        go_quiet ((go_at_call 32; exact Calls.quiet_of_same (HS.out _)))
        have hZ2 := Lib.hid (hZ.drewN nq)
        have hX2 := Lib.hid (hX.drewN nq)
        have hB2 := Lib.hid (below_drewN hB nq)
        clear hZ hX hB HS
        generalize wo.drewN nq = W5 at *
        go_wp2_with fail
        go_roundw
        case rel => exact ⟨i, hi25, by go_num, by rw [hacc.out]; exact hZ2.out, hX2.out, hB2.out⟩
        case measure => have := hi.out; simp [intOf]; omega
    · obtain rfl : k = 25 := by omega
      obtain ⟨m, hm⟩ : ∃ m, modeAcc S 25 = m := ⟨_, rfl⟩
      rw [hm] at hZ
      have HU2 := HU.out m
      obtain ⟨u, hu⟩ : ∃ u, docUseF nm.toList m wd = u := ⟨_, rfl⟩
      rw [hu] at HU2
      replace HU2 := Lib.hid HU2
      replace hm := Lib.hid hm
      replace hu := Lib.hid hu
      clear hk hlt HG hs HU
      have zf0 := hZ.free 0
      have zf1 := hZ.free 1
      have zf2 := hZ.free 2
      have zf3 := hZ.free 3
      have zf4 := hZ.free 4
      have y0 := hZ.cell 0
      have y1 := hZ.cell 1
      have y2 := hZ.cell 2
      have y3 := hZ.cell 3
      have y4 := hZ.cell 4
      have xf0 := hX.free 0
      have xf1 := hX.free 1
      have xf2 := hX.free 2
      have xf3 := hX.free 3
      have xf4 := hX.free 4
      have x0 := hX.cell 0
      have x1 := hX.cell 1
      have x2 := hX.cell 2
      have x3 := hX.cell 3
      have x4 := hX.cell 4
      simp only [List.getElem?_toArray, List.getElem?_cons_zero, List.getElem?_cons_succ] at y0 y1 y2 y3 y4 x0 x1 x2 x3 x4
      go_wp2_with fail
      with_reducible refine (HW.out _).mono ?_
      rintro e w' ⟨rfl, rfl⟩
      have hZ2 := hZ.put 4 (.int .u8 wd)
      have hX2 := hX.away (p := ⟨Z, 4, none⟩) hne (.int .u8 wd)
      have hB2 := hB.setCell (p := ⟨Z, 4, none⟩) hle (.int .u8 wd)
      clear hZ hX hB HW
      go_upto_region 9 with (fail)
      clear zf0 zf1 zf2 zf3 zf4 y0 y1 y2 y3 y4 xf0 xf1 xf2 xf3 xf4 x0 x1 x2 x3 x4
      generalize wo.setCell ⟨Z, 4, none⟩ (.int .u8 wd) = W5 at *
      have zf3 := hZ2.free 3
      have y1 : W5.cell? ⟨Z, 1, none⟩ = some (.string nm) := hZ2.cell 1
      have y2 : W5.cell? ⟨Z, 2, none⟩ = some (.int .u8 m) := hZ2.cell 2
      have y3 : W5.cell? ⟨Z, 3, none⟩ = some (.int .u8 0) := hZ2.cell 3
      have y4 : W5.cell? ⟨Z, 4, none⟩ = some (.int .u8 wd) := hZ2.cell 4
      go_wp2_with fail
      with_reducible refine (HU2.out _).mono ?_
      rintro e w' ⟨rfl, rfl⟩
      have hZ3 := hZ2.put 3 (.int .u8 u)
      have hX3 := hX2.away (p := ⟨Z, 3, none⟩) hne (.int .u8 u)
      have hB3 := hB2.setCell (p := ⟨Z, 3, none⟩) hle (.int .u8 u)
      clear hZ2 hX2 hB2 HU2
      go_upto_region 10 with (fail)
      clear zf3 y1 y2 y3 y4
      generalize W5.setCell ⟨Z, 3, none⟩ (.int .u8 u) = W6 at *
      have y0 : W6.cell? ⟨Z, 0, none⟩ = some (.int .u8 c) := hZ3.cell 0
      have y1 : W6.cell? ⟨Z, 1, none⟩ = some (.string nm) := hZ3.cell 1
      have y2 : W6.cell? ⟨Z, 2, none⟩ = some (.int .u8 m) := hZ3.cell 2
      have y3 : W6.cell? ⟨Z, 3, none⟩ = some (.int .u8 u) := hZ3.cell 3
      have y4 : W6.cell? ⟨Z, 4, none⟩ = some (.int .u8 wd) := hZ3.cell 4
      have xf0 := hX3.free 0
      have xf1 := hX3.free 1
      have xf2 := hX3.free 2
      have xf3 := hX3.free 3
      have xf4 := hX3.free 4
      have x0 : W6.cell? ⟨X, 0, none⟩ = some (.int .u8 0) := hX3.cell 0
      have x1 : W6.cell? ⟨X, 1, none⟩ = some (.string ⟨#[]⟩) := hX3.cell 1
      have x2 : W6.cell? ⟨X, 2, none⟩ = some (.int .u8 0) := hX3.cell 2
      have x3 : W6.cell? ⟨X, 3, none⟩ = some (.int .u8 0) := hX3.cell 3
      have x4 : W6.cell? ⟨X, 4, none⟩ = some (.int .u8 0) := hX3.cell 4
      have hV := ((((hX3.put 0 (.int .u8 c)).put 1 (.string nm)).put 2 (.int .u8 m)).put 3 (.int .u8 u)).put 4 (.int .u8 wd)
      have hBz := ((((hB3.setCell (p := ⟨X, 0, none⟩) (Nat.le_refl _) (.int .u8 c)).setCell (p := ⟨X, 1, none⟩) (Nat.le_refl _) (.string nm)).setCell (p := ⟨X, 2, none⟩) (Nat.le_refl _) (.int .u8 m)).setCell (p := ⟨X, 3, none⟩) (Nat.le_refl _) (.int .u8 u)).setCell (p := ⟨X, 4, none⟩) (Nat.le_refl _) (.int .u8 wd)
      have z0 := hV.cell 0
      have z1 := hV.cell 1
      have z2 := hV.cell 2
      have z3 := hV.cell 3
      have z4 := hV.cell 4
      replace hBz := Lib.hid hBz
      clear hZ3 hX3 hB3 hV
      go_wp2_with fail
      simp only [List.setIfInBounds_toArray, List.set_cons_zero, List.set_cons_succ, List.getElem?_toArray, List.getElem?_cons_zero, List.getElem?_cons_succ] at z0 z1 z2 z3 z4
      clear y0 y1 y2 y3 y4 xf0 xf1 xf2 xf3 xf4 x0 x1 x2 x3 x4
      refine bodyPost_ret (v := .agg #[.int .u8 c, .string nm, .int .u8 m, .int .u8 u, .int .u8 wd]) ?_ rfl ?_
      · simp [results, Tryd.results11, go_sem, z0, z1, z2, z3, z4]
      · refine ⟨?_, ?_⟩
        · rw [hm.out, hu.out]
        · rw [hXe.out]
          exact hBz.out
end Go.Proofs.YtmbpkpideepghaaDoor
