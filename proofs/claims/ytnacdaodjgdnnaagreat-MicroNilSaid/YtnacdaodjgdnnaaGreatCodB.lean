/-
  The document's parts as lists of numbers.
-/
import Derived.Test.YtnacdaodjgdnnaaGreatCodA
import Derived.Deep.QuietTactic
namespace Go.Proofs.YtnacdaodjgdnnaaGreat.Cd
open Go.RowKit
set_option maxRecDepth 1000000
set_option maxHeartbeats 4000000
set_option linter.unusedVariables false

/-- The n-th part of a list that b parts. -/
def partL (b : Nat) : List Nat → Nat → List Nat
  | [], _ => []
  | x :: l, n => if x = b then (if n = 0 then [] else partL b l (n - 1)) else (if n = 0 then x :: partL b l 0 else partL b l n)
theorem bytesN_size (l : List Nat) : (bytesN l).size = l.length := by simp [bytesN, ByteArray.size]
theorem bytesN_get (l : List Nat) (hl : ∀ x ∈ l, x < 256) (i : Nat) (h : i < (bytesN l).size) (h' : i < l.length) : (bytesN l)[i].toNat = l[i] := by
  have : l[i] < 256 := hl _ (List.getElem_mem h')
  simp [bytesN, ByteArray.getElem_eq_getElem_data]
  try omega
theorem bytesN_extract (l : List Nat) (a b : Nat) : (bytesN l).extract a b = bytesN ((l.drop a).take (b - a)) := by
  apply ByteArray.ext
  simp [bytesN, ByteArray.data_extract]
theorem partG_list (l : List Nat) (hl : ∀ x ∈ l, x < 256) (b : Nat) : ∀ k i n fr, k = l.length + 1 - i → fr ≤ i → i ≤ l.length + 1 →
    partG (bytesN l) b k i n fr = if n = 0 ∧ i ≤ l.length then bytesN ((l.drop fr).take (i - fr) ++ partL b (l.drop i) 0) else bytesN (partL b (l.drop i) n) := by
  intro k
  induction k with
  | zero =>
    intro i n fr hk hfr hi
    obtain rfl : i = l.length + 1 := by omega
    rw [partG, if_neg (by omega), List.drop_eq_nil_of_le (by omega)]
    rfl
  | succ k ih =>
    intro i n fr hk hfr hi
    rw [partG]
    by_cases hlt : i < l.length
    · rw [dif_pos (by rw [bytesN_size]; exact hlt), bytesN_get l hl i _ hlt]
      have hd : l.drop i = l[i] :: l.drop (i + 1) := List.drop_eq_getElem_cons hlt
      by_cases hx : l[i] = b
      · rw [if_pos hx]
        by_cases h0 : n = 0
        · subst h0
          rw [if_pos rfl, if_pos ⟨rfl, by omega⟩, bytesN_extract, hd, partL, if_pos hx, if_pos rfl, List.append_nil]
        · rw [if_neg h0, if_neg (show ¬(n = 0 ∧ i ≤ l.length) from fun h => h0 h.1), ih (i + 1) (n - 1) (i + 1) (by omega) (by omega) (by omega), hd]
          conv => rhs; rw [partL, if_pos hx, if_neg h0]
          by_cases h1 : n - 1 = 0
          · rw [if_pos ⟨h1, by omega⟩, h1]; simp
          · rw [if_neg (fun h => h1 h.1)]
      · rw [if_neg hx, ih (i + 1) n fr (by omega) (by omega) (by omega)]
        by_cases h0 : n = 0
        · subst h0
          rw [if_pos ⟨rfl, by omega⟩, if_pos ⟨rfl, by omega⟩, hd, partL, if_neg hx, if_pos rfl]
          congr 1
          rw [show i + 1 - fr = (i - fr) + 1 by omega, List.take_succ_eq_append_getElem (by simp; omega)]
          simp [show fr + (i - fr) = i by omega]
        · rw [if_neg (fun h => h0 h.1), if_neg (fun h => h0 h.1), hd]
          conv => rhs; rw [partL, if_neg hx, if_neg h0]
    · rw [dif_neg (by rw [bytesN_size]; exact hlt)]
      obtain rfl | rfl : i = l.length ∨ i = l.length + 1 := by omega
      · by_cases h0 : n = 0
        · subst h0
          rw [if_pos rfl, if_pos ⟨rfl, by omega⟩, bytesN_extract, List.drop_length]
          simp [partL]
        · rw [if_neg h0, ih _ _ _ (by omega) (by omega) (by omega), if_neg (fun h => by omega), if_neg (fun h => h0 h.1), List.drop_length, List.drop_eq_nil_of_le (by omega)]
          simp [partL]
      · omega
theorem partF_list (l : List Nat) (hl : ∀ x ∈ l, x < 256) (n b : Nat) : partF (bytesN l) n b = bytesN (partL b l n) := by
  unfold partF
  rw [bytesN_size, partG_list l hl b _ 0 n 0 (by omega) (by omega) (by omega)]
  by_cases h : n = 0
  · subst h; simp
  · rw [if_neg (fun h' => h h'.1)]; simp

theorem bytesN_list (l : List Nat) : (bytesN l).toList = l.map UInt8.ofNat := by simp [bytesN]
def docL (c : Nat) : List Nat := partL 124 (rowN (c / 16)) (c % 16)
theorem rows_byte (k : Nat) (hk : k < 16) : ∀ x ∈ rowN k, x < 256 := (show ∀ k : Nat, k < 16 → ∀ x ∈ rowN k, x < 256 by decide +kernel) k hk
theorem rows_size (k : Nat) (hk : k < 16) : (bytesN (rowN k)).size ≤ 1000000 := by
  rw [bytesN_size]
  exact (show ∀ k : Nat, k < 16 → (rowN k).length ≤ 1000000 by decide +kernel) k hk
def docS (c : Nat) : ByteArray := partF (bytesN (rowN (c / 16))) (c % 16) 124
theorem docS_list (c : Nat) (hc : c < 256) : docS c = bytesN (docL c) := partF_list _ (rows_byte _ (by omega)) _ _
theorem docL_size (c : Nat) (hc : c < 256) : 3 ≤ (docL c).length ∧ (docL c).length ≤ 100 := (show ∀ c : Nat, c < 256 → 3 ≤ (docL c).length ∧ (docL c).length ≤ 100 by decide +kernel) c hc
theorem docS_size (c : Nat) (hc : c < 256) : 3 ≤ (docS c).size ∧ (docS c).size ≤ 100 := by
  rw [docS_list c hc, bytesN_size]
  exact docL_size c hc
end Go.Proofs.YtnacdaodjgdnnaaGreat.Cd
namespace Go.Proofs.YtnacdaodjgdnnaaGreat.Cd
open Go.RowKit
set_option maxRecDepth 1000000
set_option maxHeartbeats 400000
set_option linter.unusedVariables false

def docName (c : Nat) : ByteArray := (docS c).extract 0 3
def signB (S : ByteArray) (m : Nat) : Bool := (S.extract 4 S.size).toList == (signF m).toList
/-- The mode that a text's end says: the last of the first k that fits. -/
def modeAcc (S : ByteArray) : Nat → Nat
  | 0 => 0
  | k + 1 => if 3 < S.size ∧ signB S (k + 1) = true then k + 1 else modeAcc S k
theorem modeAcc_zero (S : ByteArray) : modeAcc S 0 = 0 := rfl
theorem modeAcc_succ (S : ByteArray) (k : Nat) : modeAcc S (k + 1) = if 3 < S.size ∧ signB S (k + 1) = true then k + 1 else modeAcc S k := rfl
theorem signB_eq (S : ByteArray) (m : Nat) : ((S.extract 4 S.size).toList == (signF m).toList) = signB S m := rfl
theorem modeAcc_le (S : ByteArray) (k : Nat) : modeAcc S k ≤ k := by
  induction k with
  | zero => exact Nat.le_refl _
  | succ k ih => unfold modeAcc; split <;> omega
attribute [local irreducible] partF inF bytesN modeF nameF widthF useF wideF docWidthF docUseF signF modeAcc signB
theorem rof_any (c : Nat) (w : World) (hc : c < 256) : Calls Tryz.prog 63 #[.int .u8 c] w fun e w' => e = .returned (codeV c (docName c) (modeAcc (docS c) 25) (docUseF (docName c).toList (modeAcc (docS c) 25) (docWidthF (docName c).toList)) (docWidthF (docName c).toList)) ∧ Below w.heap.size w w' := by
  have hB := (Below.refl w.heap.size w).alloc (Nat.le_refl _) (.cells #[.int .u8 0, .string ⟨#[]⟩, .int .u8 0, .int .u8 0, .int .u8 0] 58)
  have hX := Whole.fresh w 58 #[.int .u8 0, .string ⟨#[]⟩, .int .u8 0, .int .u8 0, .int .u8 0]
  have HR := fun W => row_any (c / 16) (by omega) W
  have HP := fun W => part_any (bytesN (rowN (c / 16))) (c % 16) 124 W (rows_size _ (by omega)) (by omega) (by decide)
  rw [show partF (bytesN (rowN (c / 16))) (c % 16) 124 = docS c from rfl, show ((124 : Nat) : Int) = 124 from rfl] at HP
  have HG := fun m (hm : m < 256) W => sign_any m W hm
  have HW := fun W => rwidth_any (docName c) W
  have HU := fun m W => ruse_any (docName c) m (docWidthF (docName c).toList) W
  have hs := docS_size c hc
  have hnm : docName c = (docS c).extract 0 3 := rfl
  generalize docWidthF (docName c).toList = wd at *
  generalize bytesN (rowN (c / 16)) = RW at *
  generalize docName c = nm at *
  generalize docS c = S at *
  unfold codeV
  replace HR := Lib.hid HR
  replace HP := Lib.hid HP
  replace HG := Lib.hid HG
  replace HW := Lib.hid HW
  replace HU := Lib.hid HU
  replace hnm := Lib.hid hnm
  go_enter Tryz.func63, Tryz.ntmps63
  go_upto_region 1 with (fail)
  generalize (w.alloc (.cells #[.int .u8 0, .string ⟨#[]⟩, .int .u8 0, .int .u8 0, .int .u8 0] 58)) = W1 at *
  go_wp2_with fail
  rw [show ((c : Int) / 16) = ((c / 16 : Nat) : Int) by omega]
  with_reducible refine (HR.out _).mono ?_
  rintro e w' ⟨rfl, rfl⟩
  go_wp2_with fail
  rw [show ((c : Int) % 16) = ((c % 16 : Nat) : Int) by omega]
  with_reducible refine (HP.out _).mono ?_
  rintro e w' ⟨rfl, rfl⟩
  clear HR HP
  have hS3 : ((3 : Int) ≤ (S.size : Int)) := by omega
  go_upto_region 3 with (fail)
  rw [← hnm.out]
  have hZ := Whole.fresh W1 58 #[.int .u8 c, .string nm, .int .u8 0, .int .u8 0, .int .u8 0]
  have hX2 := hX.alloc (.cells #[.int .u8 c, .string nm, .int .u8 0, .int .u8 0, .int .u8 0] 58)
  have hB2 := hB.alloc hB.size (.cells #[.int .u8 c, .string nm, .int .u8 0, .int .u8 0, .int .u8 0] 58)
  have hne : w.heap.size ≠ W1.heap.size := by have := hX.lt; omega
  have hle : w.heap.size ≤ W1.heap.size := hB.size
  clear hX hB
  generalize W1.alloc (.cells #[.int .u8 c, .string nm, .int .u8 0, .int .u8 0, .int .u8 0] 58) = W2 at *
  generalize W1.heap.size = Z at *
  generalize hXe : w.heap.size = X at *
  replace hXe := Lib.hid hXe
  clear hS3
  go_wp2_with fail
  go_loopw [5] (fun s5 wr => ∃ k : Nat, k ≤ 25 ∧ s5 = .int .i64 ((k + 1 : Nat) : Int) ∧ Whole wr Z 58 #[.int .u8 c, .string nm, .int .u8 (modeAcc S k), .int .u8 0, .int .u8 0] ∧ Whole wr X 58 #[.int .u8 0, .string ⟨#[]⟩, .int .u8 0, .int .u8 0, .int .u8 0] ∧ Below X w wr) (fun s5 _ => 26 - (intOf s5).toNat)
  case atStart => exact ⟨0, by omega, rfl, by rw [modeAcc_zero]; exact hZ, hX2, hB2⟩
  case round =>
    obtain ⟨k, hk, rfl, hZ, hX, hB⟩ := hrel
    obtain ⟨wo, rfl⟩ : ∃ wo, wo = wr := ⟨_, rfl⟩
    clear hX2 hB2
    by_cases hlt : k < 25
    · as_aux_lemma =>
      have HS := Lib.hid (fun W => (HG.out (k + 1) (by omega) W).mono (fun e w' h => (⟨h.1, h.2.symm⟩ : e = Ending.returned (.string (signF (k + 1))) ∧ w' = W)))
      have hacc : modeAcc S (k + 1) = if 3 < S.size ∧ signB S (k + 1) = true then k + 1 else modeAcc S k := modeAcc_succ S k
      have hi25 : k + 1 ≤ 25 := hlt
      generalize hi : k + 1 = i at *
      have hk2 := Lib.hid hk
      replace hi := Lib.hid hi
      replace hacc := Lib.hid hacc
      clear hk hlt
      by_cases h3 : 3 < S.size
      · have e3 : ((S.extract 4 S.size).toList == (signF i).toList) = signB S i := signB_eq S i
        generalize signF i = sg at *
        have h31 : (3 : Int) < (S.size : Int) := by omega
        have h41 : (4 : Int) ≤ (S.size : Int) := by omega
        have t25 : decide ((i : Int) ≤ 25) = true := decide_eq_true (by omega)
        cases hsb : signB S i with
        | true =>
          rw [hsb] at e3
          have hacc := hacc.out
          rw [if_pos ⟨h3, hsb⟩] at hacc
          go_upto_region 6 with (fail)
          go_quiet ((go_at_call 130; exact Calls.quiet_of_same (HS.out _)))
          have hZ2 := hZ.drewN nq
          have hX2 := hX.drewN nq
          have hB2 := below_drewN hB nq
          clear hZ hX hB HS
          generalize wo.drewN nq = W5 at *
          have f2 := hZ2.free 2
          have y2 := hZ2.cell 2
          simp only [List.getElem?_toArray, List.getElem?_cons_zero, List.getElem?_cons_succ] at y2
          have hZ3 := hZ2.put 2 (.int .u8 i)
          have hX3 := hX2.away (p := ⟨Z, 2, none⟩) hne (.int .u8 i)
          have hB3 := hB2.setCell (p := ⟨Z, 2, none⟩) hle (.int .u8 i)
          replace hZ3 := Lib.hid hZ3
          replace hX3 := Lib.hid hX3
          replace hB3 := Lib.hid hB3
          clear hZ2 hX2 hB2
          replace hacc := Lib.hid hacc
          go_wp2_with fail
          go_roundw
          case rel => exact ⟨i, hi25, by go_num, by rw [hacc.out]; exact hZ3.out, hX3.out, hB3.out⟩
          case measure => have := hi.out; simp [intOf]; omega
        | false =>
          rw [hsb] at e3
          have hacc := hacc.out
          rw [if_neg (fun h => by rw [hsb] at h; cases h.2)] at hacc
          replace hacc := Lib.hid hacc
          go_upto_region 6 with (fail)
          go_quiet ((go_at_call 130; exact Calls.quiet_of_same (HS.out _)))
          have hZ2 := Lib.hid (hZ.drewN nq)
          have hX2 := Lib.hid (hX.drewN nq)
          have hB2 := Lib.hid (below_drewN hB nq)
          clear hZ hX hB HS
          generalize wo.drewN nq = W5 at *
          go_wp2_with fail
          go_roundw
          case rel => exact ⟨i, hi25, by go_num, by rw [hacc.out]; exact hZ2.out, hX2.out, hB2.out⟩
          case measure => have := hi.out; simp [intOf]; omega
      · have t25 : decide ((i : Int) ≤ 25) = true := decide_eq_true (by omega)
        have hacc := hacc.out
        rw [if_neg (fun h => h3 h.1)] at hacc
        replace hacc := Lib.hid hacc
        have h31 : ¬ (3 : Int) < (S.size : Int) := by omega
        go_upto_region 6 with (fail)
        go_quiet ((go_at_call 130; exact Calls.quiet_of_same (HS.out _)))
        have hZ2 := Lib.hid (hZ.drewN nq)
        have hX2 := Lib.hid (hX.drewN nq)
        have hB2 := Lib.hid (below_drewN hB nq)
        clear hZ hX hB HS
        generalize wo.drewN nq = W5 at *
        go_wp2_with fail
        go_roundw
        case rel => exact ⟨i, hi25, by go_num, by rw [hacc.out]; exact hZ2.out, hX2.out, hB2.out⟩
        case measure => have := hi.out; simp [intOf]; omega
    · obtain rfl : k = 25 := by omega
      obtain ⟨m, hm⟩ : ∃ m, modeAcc S 25 = m := ⟨_, rfl⟩
      rw [hm] at hZ
      have HU2 := HU.out m
      obtain ⟨u, hu⟩ : ∃ u, docUseF nm.toList m wd = u := ⟨_, rfl⟩
      rw [hu] at HU2
      replace HU2 := Lib.hid HU2
      replace hm := Lib.hid hm
      replace hu := Lib.hid hu
      clear hk hlt HG hs HU
      have zf0 := hZ.free 0
      have zf1 := hZ.free 1
      have zf2 := hZ.free 2
      have zf3 := hZ.free 3
      have zf4 := hZ.free 4
      have y0 := hZ.cell 0
      have y1 := hZ.cell 1
      have y2 := hZ.cell 2
      have y3 := hZ.cell 3
      have y4 := hZ.cell 4
      have xf0 := hX.free 0
      have xf1 := hX.free 1
      have xf2 := hX.free 2
      have xf3 := hX.free 3
      have xf4 := hX.free 4
      have x0 := hX.cell 0
      have x1 := hX.cell 1
      have x2 := hX.cell 2
      have x3 := hX.cell 3
      have x4 := hX.cell 4
      simp only [List.getElem?_toArray, List.getElem?_cons_zero, List.getElem?_cons_succ] at y0 y1 y2 y3 y4 x0 x1 x2 x3 x4
      go_wp2_with fail
      with_reducible refine (HW.out _).mono ?_
      rintro e w' ⟨rfl, rfl⟩
      have hZ2 := hZ.put 4 (.int .u8 wd)
      have hX2 := hX.away (p := ⟨Z, 4, none⟩) hne (.int .u8 wd)
      have hB2 := hB.setCell (p := ⟨Z, 4, none⟩) hle (.int .u8 wd)
      clear hZ hX hB HW
      go_upto_region 9 with (fail)
      clear zf0 zf1 zf2 zf3 zf4 y0 y1 y2 y3 y4 xf0 xf1 xf2 xf3 xf4 x0 x1 x2 x3 x4
      generalize wo.setCell ⟨Z, 4, none⟩ (.int .u8 wd) = W5 at *
      have zf3 := hZ2.free 3
      have y1 : W5.cell? ⟨Z, 1, none⟩ = some (.string nm) := hZ2.cell 1
      have y2 : W5.cell? ⟨Z, 2, none⟩ = some (.int .u8 m) := hZ2.cell 2
      have y3 : W5.cell? ⟨Z, 3, none⟩ = some (.int .u8 0) := hZ2.cell 3
      have y4 : W5.cell? ⟨Z, 4, none⟩ = some (.int .u8 wd) := hZ2.cell 4
      go_wp2_with fail
      with_reducible refine (HU2.out _).mono ?_
      rintro e w' ⟨rfl, rfl⟩
      have hZ3 := hZ2.put 3 (.int .u8 u)
      have hX3 := hX2.away (p := ⟨Z, 3, none⟩) hne (.int .u8 u)
      have hB3 := hB2.setCell (p := ⟨Z, 3, none⟩) hle (.int .u8 u)
      clear hZ2 hX2 hB2 HU2
      go_upto_region 10 with (fail)
      clear zf3 y1 y2 y3 y4
      generalize W5.setCell ⟨Z, 3, none⟩ (.int .u8 u) = W6 at *
      have y0 : W6.cell? ⟨Z, 0, none⟩ = some (.int .u8 c) := hZ3.cell 0
      have y1 : W6.cell? ⟨Z, 1, none⟩ = some (.string nm) := hZ3.cell 1
      have y2 : W6.cell? ⟨Z, 2, none⟩ = some (.int .u8 m) := hZ3.cell 2
      have y3 : W6.cell? ⟨Z, 3, none⟩ = some (.int .u8 u) := hZ3.cell 3
      have y4 : W6.cell? ⟨Z, 4, none⟩ = some (.int .u8 wd) := hZ3.cell 4
      have xf0 := hX3.free 0
      have xf1 := hX3.free 1
      have xf2 := hX3.free 2
      have xf3 := hX3.free 3
      have xf4 := hX3.free 4
      have x0 : W6.cell? ⟨X, 0, none⟩ = some (.int .u8 0) := hX3.cell 0
      have x1 : W6.cell? ⟨X, 1, none⟩ = some (.string ⟨#[]⟩) := hX3.cell 1
      have x2 : W6.cell? ⟨X, 2, none⟩ = some (.int .u8 0) := hX3.cell 2
      have x3 : W6.cell? ⟨X, 3, none⟩ = some (.int .u8 0) := hX3.cell 3
      have x4 : W6.cell? ⟨X, 4, none⟩ = some (.int .u8 0) := hX3.cell 4
      have hV := ((((hX3.put 0 (.int .u8 c)).put 1 (.string nm)).put 2 (.int .u8 m)).put 3 (.int .u8 u)).put 4 (.int .u8 wd)
      have hBz := ((((hB3.setCell (p := ⟨X, 0, none⟩) (Nat.le_refl _) (.int .u8 c)).setCell (p := ⟨X, 1, none⟩) (Nat.le_refl _) (.string nm)).setCell (p := ⟨X, 2, none⟩) (Nat.le_refl _) (.int .u8 m)).setCell (p := ⟨X, 3, none⟩) (Nat.le_refl _) (.int .u8 u)).setCell (p := ⟨X, 4, none⟩) (Nat.le_refl _) (.int .u8 wd)
      have z0 := hV.cell 0
      have z1 := hV.cell 1
      have z2 := hV.cell 2
      have z3 := hV.cell 3
      have z4 := hV.cell 4
      replace hBz := Lib.hid hBz
      clear hZ3 hX3 hB3 hV
      go_wp2_with fail
      simp only [List.setIfInBounds_toArray, List.set_cons_zero, List.set_cons_succ, List.getElem?_toArray, List.getElem?_cons_zero, List.getElem?_cons_succ] at z0 z1 z2 z3 z4
      clear y0 y1 y2 y3 y4 xf0 xf1 xf2 xf3 xf4 x0 x1 x2 x3 x4
      refine bodyPost_ret (v := .agg #[.int .u8 c, .string nm, .int .u8 m, .int .u8 u, .int .u8 wd]) ?_ rfl ?_
      · simp [results, Tryz.results63, go_sem, z0, z1, z2, z3, z4]
      · refine ⟨?_, ?_⟩
        · rw [hm.out, hu.out]
        · rw [hXe.out]
          exact hBz.out
end Go.Proofs.YtnacdaodjgdnnaaGreat.Cd
namespace Go.Proofs.YtnacdaodjgdnnaaGreat.Cd
open Go.RowKit
set_option maxRecDepth 1000000
set_option maxHeartbeats 4000000
set_option linter.unusedVariables false

def modeL (l : List Nat) : Nat → Nat
  | 0 => 0
  | k + 1 => if 3 < l.length ∧ ((((l.drop 4).take (l.length - 4)).map UInt8.ofNat) == ((partL 124 signN (k + 1)).map UInt8.ofNat)) = true then k + 1 else modeL l k
theorem signN_byte : ∀ x ∈ signN, x < 256 := by decide +kernel
theorem signB_list (l : List Nat) (m : Nat) : signB (bytesN l) m = ((((l.drop 4).take (l.length - 4)).map UInt8.ofNat) == ((partL 124 signN m).map UInt8.ofNat)) := by
  unfold signB signF
  rw [partF_list _ signN_byte, bytesN_extract, bytesN_list, bytesN_list, bytesN_size]
theorem mode_list (l : List Nat) : ∀ k, modeAcc (bytesN l) k = modeL l k
  | 0 => rfl
  | k + 1 => by rw [modeAcc_succ, modeL, mode_list l k, signB_list, bytesN_size]
def inL (s : List UInt8) (l : List Nat) : Nat → Nat → Bool
  | 0, _ => false
  | k + 1, i => if 4 * i + 3 ≤ l.length then (if (((l.drop (4 * i)).take (4 * i + 3 - 4 * i)).map UInt8.ofNat == s) = true then true else inL s l k (i + 1)) else false
theorem inG_list (s : List UInt8) (l : List Nat) : ∀ k i, inG s (bytesN l) k i = inL s l k i
  | 0, _ => rfl
  | k + 1, i => by rw [inG, inL, bytesN_size, bytesN_extract, bytesN_list, inG_list s l k (i + 1)]
theorem inF_list (s : List UInt8) (l : List Nat) : inF s (bytesN l) = inL s l (l.length + 1) 0 := by
  unfold inF
  rw [bytesN_size, inG_list]
def nameL (c : Nat) : List Nat := (namesN.drop (4 * c)).take (4 * c + 3 - 4 * c)
theorem nameF_list (c : Nat) : nameF c = bytesN (nameL c) := by
  show (bytesN namesN).extract (4 * c) (4 * c + 3) = _
  rw [bytesN_extract]
  rfl
theorem name_toList (c : Nat) : (nameF c).toList = (nameL c).map UInt8.ofNat := by rw [nameF_list, bytesN_list]
theorem name_same (c : Nat) (hc : c < 256) : docName c = nameF c := by
  show (docS c).extract 0 3 = _
  rw [docS_list c hc, bytesN_extract, nameF_list]
  exact congrArg bytesN ((show ∀ c : Nat, c < 256 → (List.drop 0 (docL c)).take (3 - 0) = nameL c by decide +kernel) c hc)
theorem mode_same (c : Nat) (hc : c < 256) : modeAcc (docS c) 25 = modeF c := by
  rw [docS_list c hc, mode_list]
  exact (show ∀ c : Nat, c < 256 → modeL (docL c) 25 = modeF c by decide +kernel) c hc
def widthL (s : List UInt8) : Nat := if inL s allM (allM.length + 1) 0 = true then 1 else if inL s allX (allX.length + 1) 0 = true then 2 else if (s == [82, 69, 80]) = true then 3 else if (s == [83, 69, 80]) = true then 3 else 0
theorem width_list (s : List UInt8) : docWidthF s = widthL s := by
  unfold docWidthF widthL
  rw [inF_list, inF_list]
theorem width_same (c : Nat) (hc : c < 256) : docWidthF (nameF c).toList = widthF (nameF c).toList := by
  rw [width_list, name_toList]
  exact (show ∀ c : Nat, c < 256 → widthL ((nameL c).map UInt8.ofNat) = widthF ((nameL c).map UInt8.ofNat) by decide +kernel) c hc
def useL (s : List UInt8) (m wd : Nat) : Nat := if m ≤ 2 ∨ wd = 0 then 0 else if inL s allW (allW.length + 1) 0 = true then 2 else if inL s allC (allC.length + 1) 0 = true then 3 else 1
theorem use_list (s : List UInt8) (m wd : Nat) : docUseF s m wd = useL s m wd := by
  unfold docUseF useL
  rw [inF_list, inF_list]
theorem use_same (c : Nat) (hc : c < 256) : docUseF (nameF c).toList (modeF c) (widthF (nameF c).toList) = useF (nameF c).toList (modeF c) := by
  rw [use_list, name_toList]
  exact (show ∀ c : Nat, c < 256 → useL ((nameL c).map UInt8.ofNat) (modeF c) (widthF ((nameL c).map UInt8.ofNat)) = useF ((nameL c).map UInt8.ofNat) (modeF c) by decide +kernel) c hc
/-- The document's code is the code's. -/
theorem rof_same (c : Nat) (w : World) (hc : c < 256) : Calls Tryz.prog 63 #[.int .u8 c] w fun e w' => e = .returned (codeV c (nameF c) (modeF c) (useF (nameF c).toList (modeF c)) (widthF (nameF c).toList)) ∧ Below w.heap.size w w' := by
  have h := rof_any c w hc
  rw [name_same c hc, mode_same c hc, width_same c hc, use_same c hc] at h
  exact h
end Go.Proofs.YtnacdaodjgdnnaaGreat.Cd
