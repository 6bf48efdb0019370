/-
  A text's first part; whether it is a branch's place: by the document.
-/
import Derived.Test.YtmbpkpideepghaaDoorRNum
import Derived.Test.YtmbpkpideepghaaDoorBack
namespace Go.Proofs.YtmbpkpideepghaaDoor
open Go.RowKit
set_option maxRecDepth 100000
set_option maxHeartbeats 1000000
set_option linter.unusedVariables false

theorem bt_data (s : ByteArray) (i : Nat) (h : i < s.size) : s.data.toList[i]'(by simpa using h) = s[i] := by
  simp [ByteArray.getElem_eq_getElem_data]
theorem toNat_32 (x : UInt8) : x = 32 ↔ x.toNat = 32 := by
  constructor
  · rintro rfl; rfl
  · intro h
    have : x = UInt8.ofNat x.toNat := by simp
    rw [this, h]; rfl
theorem cutI_at (s : ByteArray) (i : Nat) (h : i < s.size) (h32 : bt s i = 32) (hb : ∀ j, j < i → bt s j ≠ 32) : cutI s = i := by
  have hl : s.data.toList.length = s.size := by rw [Array.length_toList]; rfl
  have hi : i < s.data.toList.length := by omega
  have e : s.data.toList = s.data.toList.take i ++ s.data.toList[i] :: s.data.toList.drop (i + 1) := by
    rw [← List.drop_eq_getElem_cons hi, List.take_append_drop]
  have e32 : s.data.toList[i] = 32 := by
    rw [toNat_32, bt_data s i h]
    unfold bt at h32
    rw [dif_pos h] at h32
    exact h32
  unfold cutI
  rw [e, e32, index_some 32 _ _ ?_]
  · rw [List.length_take]; omega
  · intro x hx
    obtain ⟨j, hj, rfl⟩ := List.getElem_of_mem hx
    rw [List.length_take] at hj
    rw [List.getElem_take]
    have hjs : j < s.size := by omega
    have := hb j (by omega)
    unfold bt at this
    rw [dif_pos hjs] at this
    rw [ne_eq, toNat_32, bt_data s j hjs]
    exact this
theorem cutI_none (s : ByteArray) (hb : ∀ j, j < s.size → bt s j ≠ 32) : cutI s = -1 := by
  unfold cutI
  refine index_none 32 _ fun x hx => ?_
  obtain ⟨j, hj, rfl⟩ := List.getElem_of_mem hx
  have hl : s.data.toList.length = s.size := by rw [Array.length_toList]; rfl
  have hjs : j < s.size := by omega
  have := hb j hjs
  unfold bt at this
  rw [dif_pos hjs] at this
  rw [ne_eq, toNat_32, bt_data s j hjs]
  exact this
theorem cutA_at (s : ByteArray) (i : Nat) (h : i < s.size) (h32 : bt s i = 32) (hb : ∀ j, j < i → bt s j ≠ 32) : s.extract 0 i = cutA s := by
  unfold cutA
  rw [cutI_at s i h h32 hb, if_pos (by omega)]
  rfl
theorem cutA_none (s : ByteArray) (hb : ∀ j, j < s.size → bt s j ≠ 32) : s.extract 0 s.size = cutA s := by
  unfold cutA
  rw [cutI_none s hb, if_neg (by omega)]
  exact ByteArray.extract_zero_size
attribute [local irreducible] cutA cutI
theorem rpart0_any (s : ByteArray) (w : World) (hs : s.size ≤ 140737488355328) :
    Calls Tryd.prog 30 #[.string s, .int .i64 0, .int .u8 32] w fun e w' => e = .returned (.string (cutA s)) ∧ w = w' := by
  have hat := Lib.hid (cutA_at s)
  have hno := Lib.hid (cutA_none s)
  have hbt : ∀ i (h : i < s.size), bt s i = s[i].toNat := fun i h => by unfold bt; rw [dif_pos h]
  replace hbt := Lib.hid hbt
  generalize cutA s = p at *
  go_enter Tryd.func30, Tryd.ntmps30
  go_wp2_with fail
  go_loopw [1, 7, 8] (fun s1 s7 s8 wr => ∃ i : Nat, i ≤ s.size ∧ s1 = .int .i64 0 ∧ s7 = .int .i64 0 ∧ s8 = .int .i64 i ∧ Hid (∀ j, j < i → bt s j ≠ 32) ∧ wr = w) (fun _ _ s8 _ => s.size + 1 - (intOf s8).toNat)
  case atStart => exact ⟨0, by omega, rfl, rfl, rfl, Lib.hid (fun j h => by omega), rfl⟩
  case round =>
    obtain ⟨i, hi, rfl, rfl, rfl, hj, rfl⟩ := hrel
    by_cases hlt : i < s.size
    · have hbi := hbt.out i hlt
      have hnx : s[i].toNat ≠ 32 → ∀ j, j < i + 1 → bt s j ≠ 32 := fun h j hj' => by
        by_cases e : j = i
        · rw [e, hbi]; exact h
        · exact hj.out j (by omega)
      replace hnx := Lib.hid hnx
      by_cases hx : s[i].toNat = 32
      · have t1 : ((s[i].toNat : Int) == 32) = true := by rw [hx]; rfl
        have t2 : (s[i].toNat : Int) = 32 := by rw [hx]; rfl
        have hp := Lib.hid (hat.out i hlt (by rw [hbi]; exact hx) hj.out)
        clear hx hnx
        go_wp2_with fail
        rw [hp.out]
        go_ret
        exact ⟨rfl, rfl⟩
      · have t1 : ((s[i].toNat : Int) == 32) = false := by rw [beq_eq_false_iff_ne]; omega
        have t2 : ¬ (s[i].toNat : Int) = 32 := by omega
        have hj2 := Lib.hid (hnx.out hx)
        clear hx hnx
        go_wp2_with fail
        go_roundw
        case rel => exact ⟨i + 1, hlt, rfl, rfl, by go_num, hj2, trivial⟩
        case measure => simp [intOf]; omega
    · obtain rfl : i = s.size := by omega
      have hp := Lib.hid (hno.out hj.out)
      go_wp2_with fail
      go_ret
      exact ⟨by rw [← hp.out, ByteArray.extract_zero_size]; rfl, rfl⟩
/-- Is it three signs, a blank, $ and four digits? -/
def TargetP (s : ByteArray) : Prop := s.size = 9 ∧ bt s 3 = 32 ∧ bt s 4 = 36 ∧ ∀ j, j < 9 → 5 ≤ j → 0 ≤ valN (bt s j)
noncomputable def targetF (s : ByteArray) : Bool := @decide (TargetP s) (Classical.propDecidable _)
theorem target_yes {s : ByteArray} (h : TargetP s) : targetF s = true := @decide_eq_true _ (Classical.propDecidable _) h
theorem target_no {s : ByteArray} (h : ¬ TargetP s) : targetF s = false := @decide_eq_false _ (Classical.propDecidable _) h
attribute [local irreducible] valN
theorem rtarget_any (s : ByteArray) (w : World) (hs : s.size ≤ 140737488355328) :
    Calls Tryd.prog 42 #[.string s] w fun e w' => e = .returned (.bool (targetF s)) ∧ w = w' := by
  obtain ⟨r, hr⟩ : ∃ r, targetF s = r := ⟨_, rfl⟩
  rw [hr]
  have HV := Lib.hid value_any
  have hbt : ∀ i (h : i < s.size), bt s i = s[i].toNat := fun i h => by unfold bt; rw [dif_pos h]
  replace hbt := Lib.hid hbt
  by_cases h9 : s.size = 9
  · have b3 := hbt.out 3 (by omega)
    have b4 := hbt.out 4 (by omega)
    have hi3 : 3 < s.size := by omega
    have hi4 : 4 < s.size := by omega
    have t9 : ((s.size : Int) == 9) = true := by rw [beq_iff_eq]; omega
    by_cases h3 : s[3].toNat = 32
    · have t3 : ((s[3].toNat : Int) == 32) = true := by rw [h3]; rfl
      have t3b : (s[3].toNat : Int) = 32 := by omega
      by_cases h4 : s[4].toNat = 36
      · have t4 : ((s[4].toNat : Int) == 36) = true := by rw [h4]; rfl
        have t4b : (s[4].toNat : Int) = 36 := by omega
        have hT : (∀ j, j < 9 → 5 ≤ j → 0 ≤ valN (bt s j)) → true = r := fun h => by rw [← hr]; exact (target_yes ⟨h9, by rw [b3]; exact h3, by rw [b4]; exact h4, h⟩).symm
        have hF : ∀ j, j < 9 → 5 ≤ j → ¬ 0 ≤ valN (bt s j) → false = r := fun j h1 h2 h => by rw [← hr]; exact (target_no (fun hh => h (hh.2.2.2 j h1 h2))).symm
        replace hT := Lib.hid hT
        replace hF := Lib.hid hF
        clear hr b3 b4 h3 h4
        go_enter Tryd.func42, Tryd.ntmps42
        go_wp2_with fail
        go_loopw [3] (fun s3 wr => ∃ i : Nat, i ≤ 9 ∧ 5 ≤ i ∧ s3 = .int .i64 i ∧ Hid (∀ j, j < i → 5 ≤ j → 0 ≤ valN (bt s j)) ∧ wr = w) (fun s3 _ => 9 - (intOf s3).toNat)
        case atStart => exact ⟨5, by omega, by omega, rfl, Lib.hid (fun j h1 h2 => by omega), rfl⟩
        case round =>
          obtain ⟨i, hi, hi5, rfl, hj, rfl⟩ := hrel
          by_cases hlt : i < 9
          · have his : i < s.size := by omega
            have hbi := hbt.out i his
            have HVi := Lib.hid (fun W => HV.out s[i].toNat W (by have := s[i].toNat_lt; omega))
            have tl : decide ((i : Int) < 9) = true := decide_eq_true (by omega)
            have hFi := hF.out i hlt hi5
            rw [hbi] at hFi
            have hnx : 0 ≤ valN s[i].toNat → ∀ j, j < i + 1 → 5 ≤ j → 0 ≤ valN (bt s j) := fun h j hj' h5 => by
              by_cases e : j = i
              · rw [e, hbi]; exact h
              · exact hj.out j (by omega) h5
            replace hnx := Lib.hid hnx
            generalize valN s[i].toNat = v at *
            by_cases hv : 0 ≤ v
            · have tv : decide (v < 0) = false := decide_eq_false (by omega)
              have hj2 := Lib.hid (hnx.out hv)
              clear hnx hFi
              go_wp2_with fail
              refine (HVi.out _).mono ?_
              rintro e W ⟨rfl, rfl⟩
              go_wp2_with fail
              go_roundw
              case rel => exact ⟨i + 1, hlt, by omega, by go_num, hj2, trivial⟩
              case measure => simp [intOf]; omega
            · have tv : decide (v < 0) = true := decide_eq_true (by omega)
              have hf := Lib.hid (hFi (by omega))
              clear hnx hFi
              go_wp2_with fail
              refine (HVi.out _).mono ?_
              rintro e W ⟨rfl, rfl⟩
              go_wp2_with fail
              go_ret
              exact ⟨by rw [← hf.out]; rfl, rfl⟩
          · obtain rfl : i = 9 := by omega
            have tl : decide (((9 : Nat) : Int) < 9) = false := by decide
            have hf := Lib.hid (hT.out hj.out)
            go_wp2_with fail
            go_ret
            exact ⟨by rw [← hf.out]; rfl, rfl⟩
      · have t4 : ((s[4].toNat : Int) == 36) = false := by rw [beq_eq_false_iff_ne]; omega
        have t4b : ¬ (s[4].toNat : Int) = 36 := by omega
        have hf : false = r := by rw [← hr]; exact (target_no (fun hh => h4 (by rw [← b4]; exact hh.2.2.1))).symm
        replace hf := Lib.hid hf
        clear hr b3 b4 h3
        go_enter Tryd.func42, Tryd.ntmps42
        go_wp2_with fail
        go_ret
        exact ⟨by rw [← hf.out]; rfl, rfl⟩
    · have t3 : ((s[3].toNat : Int) == 32) = false := by rw [beq_eq_false_iff_ne]; omega
      have t3b : ¬ (s[3].toNat : Int) = 32 := by omega
      have hf : false = r := by rw [← hr]; exact (target_no (fun hh => h3 (by rw [← b3]; exact hh.2.1))).symm
      replace hf := Lib.hid hf
      clear hr b3 b4
      go_enter Tryd.func42, Tryd.ntmps42
      go_wp2_with fail
      go_ret
      exact ⟨by rw [← hf.out]; rfl, rfl⟩
  · have t9 : ((s.size : Int) == 9) = false := by rw [beq_eq_false_iff_ne]; omega
    have t9b : ¬ (s.size : Int) = 9 := by omega
    have hf : false = r := by rw [← hr]; exact (target_no (fun hh => h9 hh.1)).symm
    replace hf := Lib.hid hf
    clear hr
    go_enter Tryd.func42, Tryd.ntmps42
    go_wp2_with fail
    go_ret
    exact ⟨by rw [← hf.out]; rfl, rfl⟩
end Go.Proofs.YtmbpkpideepghaaDoor
