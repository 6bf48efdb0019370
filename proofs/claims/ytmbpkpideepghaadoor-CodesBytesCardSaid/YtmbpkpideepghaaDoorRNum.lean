/-
  The number that a text's digits make, by the document.
-/
import Derived.Test.YtmbpkpideepghaaDoorDig
import Derived.Test.YtmbpkpideepghaaDoorInv
namespace Go.Proofs.YtmbpkpideepghaaDoor
open Go.RowKit
set_option maxRecDepth 100000
set_option maxHeartbeats 1000000
set_option linter.unusedVariables false

/-- A digit's value; -1: it is none. -/
def valN (d : Nat) : Int := if 48 ≤ d ∧ d ≤ 57 then (d : Int) - 48 else if 97 ≤ d ∧ d ≤ 102 then (d : Int) - 87 else -1
theorem val_digit (i : Nat) (hi : i < 16) : valN (digitN i) = i := by
  unfold valN digitN
  by_cases h : i < 10
  · rw [if_pos h, if_pos (by omega)]; omega
  · rw [if_neg h, if_neg (by omega), if_pos (by omega)]; omega
theorem val_none (d : Nat) (h : ∀ i, i < 16 → digitN i ≠ d) : valN d = -1 := by
  unfold valN
  by_cases h1 : 48 ≤ d ∧ d ≤ 57
  · have := h (d - 48) (by omega)
    unfold digitN at this
    rw [if_pos (by omega)] at this
    omega
  · by_cases h2 : 97 ≤ d ∧ d ≤ 102
    · have := h (d - 87) (by omega)
      unfold digitN at this
      rw [if_neg (by omega)] at this
      omega
    · rw [if_neg h1, if_neg h2]
theorem val_le (d : Nat) : -1 ≤ valN d ∧ valN d ≤ 15 := by
  unfold valN
  split
  · omega
  · split <;> omega
theorem val_dig (d : Nat) : (0 ≤ valN d) ↔ isDig d = true := by
  unfold valN isDig
  by_cases h1 : 48 ≤ d ∧ d ≤ 57
  · rw [if_pos h1]; simp [h1]; omega
  · rw [if_neg h1]
    by_cases h2 : 97 ≤ d ∧ d ≤ 102
    · rw [if_pos h2]; simp [h2]; omega
    · rw [if_neg h2]
      simp only [Bool.or_eq_true, Bool.and_eq_true, decide_eq_true_eq]
      omega
attribute [local irreducible] valN digitN
theorem value_any (d : Nat) (w : World) (hd : d < 256) :
    Calls Tryd.prog 57 #[.int .u8 d] w fun e w' => e = .returned (.int .i64 (valN d)) ∧ w = w' := by
  have hdg := Lib.hid val_digit
  have hno := Lib.hid (val_none d)
  go_enter Tryd.func57, Tryd.ntmps57
  go_wp2_with fail
  go_loopw [3] (fun s3 wr => ∃ i : Nat, i ≤ 16 ∧ s3 = .int .i64 i ∧ Hid (∀ j, j < i → digitN j ≠ d) ∧ wr = w) (fun s3 _ => 16 - (intOf s3).toNat)
  case atStart => exact ⟨0, by omega, rfl, Lib.hid (fun j h => by omega), rfl⟩
  case round =>
    obtain ⟨i, hi, rfl, hj, rfl⟩ := hrel
    by_cases hlt : i < 16
    · have hvi := hdg.out i hlt
      have t1 : decide ((i : Int) < 16) = true := decide_eq_true (by omega)
      go_upto_region 4 with (fail)
      show Code.wp _ (Code.region _ #[_, { dst := _, op := Op.index _ (Operand.const (Value.string ?lit)) _, type := _, pos := _, after := _, guard := _ }, _, _] _) _ _ _
      generalize hlit : ?lit = S
      have hz16 : S.size = 16 := by rw [← hlit]; decide +kernel
      have hgi := digit_of (S := S) (by rw [← hlit]; decide +kernel) i hlt (by omega)
      replace hlit := Lib.hid hlit
      have hiS : i < S.size := by omega
      have hstep : digitN i ≠ d → ∀ j, j < i + 1 → digitN j ≠ d := fun h j hj' => by
        by_cases e : j = i
        · rw [e]; exact h
        · exact hj.out j (by omega)
      replace hstep := Lib.hid hstep
      by_cases hq : digitN i = d
      · have t2 : ((S[i].toNat : Int) == (d : Int)) = true := by rw [beq_iff_eq, hgi, hq]
        have t3 : (S[i].toNat : Int) = (d : Int) := by rw [hgi, hq]
        have hr : valN d = i := by rw [← hq]; exact hvi
        clear hgi hq hvi
        go_wp2_with fail
        go_ret
        exact ⟨by rw [hr]; rfl, rfl⟩
      · have t2 : ((S[i].toNat : Int) == (d : Int)) = false := by rw [beq_eq_false_iff_ne, hgi]; omega
        have t3 : ¬ (S[i].toNat : Int) = (d : Int) := by rw [hgi]; omega
        have hs2 := Lib.hid (hstep.out hq)
        clear hgi hq hvi hstep
        go_wp2_with fail
        go_roundw
        case rel => exact ⟨i + 1, hlt, by go_num, hs2, trivial⟩
        case measure => simp [intOf]; omega
    · obtain rfl : i = 16 := by omega
      have hr := hno.out hj.out
      have t1 : decide (((16 : Nat) : Int) < 16) = false := by decide
      go_wp2_with fail
      go_ret
      exact ⟨by rw [hr]; rfl, rfl⟩
theorem w64 (x : Int) (h1 : -9223372036854775808 ≤ x) (h2 : x ≤ 9223372036854775807) : wrap64 x = x := by unfold wrap64; omega
/-- A text's byte. -/
def bt (s : ByteArray) (i : Nat) : Nat := if h : i < s.size then s[i].toNat else 0
/-- The number that the first i signs make. -/
def numS (s : ByteArray) : Nat → Nat
  | 0 => 0
  | i + 1 => if 0 ≤ valN (bt s i) ∧ 0 < i ∧ (bt s (i - 1) = 36 ∨ 0 ≤ valN (bt s (i - 1))) then 16 * numS s i + (valN (bt s i)).toNat else numS s i
theorem rnumber_any (s : ByteArray) (w : World) (hs : s.size ≤ 140737488355328) :
    Calls Tryd.prog 56 #[.string s] w fun e w' => ∃ x : Int, e = .returned (.int .i64 x) ∧ ((∀ i, i ≤ s.size → numS s i < 4294967296) → x = numS s s.size) ∧ w = w' := by
  have HV := Lib.hid value_any
  have hst : ∀ i, numS s (i + 1) = if 0 ≤ valN (bt s i) ∧ 0 < i ∧ (bt s (i - 1) = 36 ∨ 0 ≤ valN (bt s (i - 1))) then 16 * numS s i + (valN (bt s i)).toNat else numS s i := fun i => by rw [numS]
  have hbt : ∀ i (h : i < s.size), bt s i = s[i].toNat := fun i h => by unfold bt; rw [dif_pos h]
  have h0 : numS s 0 = 0 := rfl
  have hvl := Lib.hid val_le
  replace hst := Lib.hid hst
  replace hbt := Lib.hid hbt
  replace h0 := Lib.hid h0
  obtain ⟨N, hN⟩ : ∃ N : Prop, (∀ i, i ≤ s.size → numS s i < 4294967296) = N := ⟨_, rfl⟩
  rw [hN]
  have hNi : ∀ i, i ≤ s.size → N → numS s i < 4294967296 := fun i hi h => by rw [← hN] at h; exact h i hi
  replace hNi := Lib.hid hNi
  clear hN
  go_enter Tryd.func56, Tryd.ntmps56
  go_wp2_with fail
  go_loopw [3, 4] (fun s3 s4 wr => ∃ (i : Nat) (x : Int), i ≤ s.size ∧ s3 = .int .i64 x ∧ s4 = .int .i64 i ∧ Hid (N → x = numS s i) ∧ wr = w) (fun _ s4 _ => s.size - (intOf s4).toNat)
  case atStart => exact ⟨0, 0, Nat.zero_le _, rfl, rfl, Lib.hid (fun _ => by rw [h0.out]; rfl), rfl⟩
  case round =>
    obtain ⟨i, x, hi, rfl, rfl, hx, rfl⟩ := hrel
    by_cases hlt : i < s.size
    · have hsi := hst.out i
      have hni := hNi.out i hi
      rw [hbt.out i hlt] at hsi
      have HVi := Lib.hid (fun W => HV.out s[i].toNat W (by have := s[i].toNat_lt; omega))
      have hvl1 := hvl.out s[i].toNat
      generalize hw1 : numS s (i + 1) = n1 at *
      replace hw1 := Lib.hid hw1
      by_cases hv : 0 ≤ valN s[i].toNat
      · have t1 : decide (0 ≤ valN s[i].toNat) = true := decide_eq_true hv
        cases i with
        | zero =>
          rw [if_neg (by omega)] at hsi
          have hgo : N → x = n1 := fun h => by rw [hsi]; exact hx.out h
          replace hgo := Lib.hid hgo
          replace hsi := Lib.hid hsi
          generalize valN s[0].toNat = v at *
          go_wp2_with fail
          refine (HVi.out _).mono ?_
          rintro e W ⟨rfl, rfl⟩
          go_wp2_with fail
          go_roundw
          case rel => exact ⟨0 + 1, x, hlt, rfl, by go_num, by rw [hw1.out]; exact hgo, trivial⟩
          case measure => simp [intOf]; omega
        | succ j =>
          have hjlt : j < s.size := by omega
          rw [Nat.add_sub_cancel, hbt.out j hjlt] at hsi
          have HVj := Lib.hid (fun W => HV.out s[j].toNat W (by have := s[j].toNat_lt; omega))
          have hxo := hx.out
          generalize valN s[j + 1].toNat = v at *
          have hup : N → 16 * x + v = ((16 * numS s (j + 1) + v.toNat : Nat) : Int) := fun h => by have := hxo h; omega
          have hsm : N → 16 * x + v < 4294967296 * 17 ∧ 0 ≤ 16 * x + v := fun h => by have := hxo h; have := hni h; omega
          generalize 16 * numS s (j + 1) + v.toNat = n2 at *
          generalize numS s (j + 1) = n3 at *
          by_cases hq : s[j].toNat = 36
          · have t2 : ((s[j].toNat : Int) == 36) = true := by rw [hq]; rfl
            have t3 : (s[j].toNat : Int) = 36 := by rw [hq]; rfl
            rw [if_pos ⟨hv, by omega, .inl hq⟩] at hsi
            subst hsi
            replace hup := Lib.hid hup
            replace hsm := Lib.hid hsm
            clear HVj hq hxo hni
            go_wp2_with fail
            refine (HVi.out _).mono ?_
            rintro e W ⟨rfl, rfl⟩
            go_wp2_with fail
            refine (HVi.out _).mono ?_
            rintro e W ⟨rfl, rfl⟩
            go_wp2_with fail
            go_roundw
            case rel => exact ⟨j + 1 + 1, _, hlt, rfl, by go_num, by rw [hw1.out]; exact Lib.hid (fun h => by have h1 := hup.out h; have h2 := hsm.out h; rw [w64 (16 * x) (by omega) (by omega), w64 (16 * x + v) (by omega) (by omega)]; exact h1), trivial⟩
            case measure => simp [intOf] <;> omega
          · have t2 : ((s[j].toNat : Int) == 36) = false := by rw [beq_eq_false_iff_ne]; omega
            have t3 : ¬ (s[j].toNat : Int) = 36 := by omega
            by_cases hv2 : 0 ≤ valN s[j].toNat
            · have t4 : decide (0 ≤ valN s[j].toNat) = true := decide_eq_true hv2
              rw [if_pos ⟨hv, by omega, .inr hv2⟩] at hsi
              subst hsi
              generalize valN s[j].toNat = v2 at *
              replace hup := Lib.hid hup
              replace hsm := Lib.hid hsm
              clear hq hxo hni
              go_wp2_with fail
              refine (HVi.out _).mono ?_
              rintro e W ⟨rfl, rfl⟩
              go_wp2_with fail
              refine (HVj.out _).mono ?_
              rintro e W ⟨rfl, rfl⟩
              go_wp2_with fail
              refine (HVi.out _).mono ?_
              rintro e W ⟨rfl, rfl⟩
              go_wp2_with fail
              go_roundw
              case rel => exact ⟨j + 1 + 1, _, hlt, rfl, by go_num, by rw [hw1.out]; exact Lib.hid (fun h => by have h1 := hup.out h; have h2 := hsm.out h; rw [w64 (16 * x) (by omega) (by omega), w64 (16 * x + v) (by omega) (by omega)]; exact h1), trivial⟩
              case measure => simp [intOf] <;> omega
            · have t4 : decide (0 ≤ valN s[j].toNat) = false := decide_eq_false hv2
              rw [if_neg (fun h => h.2.2.elim hq hv2)] at hsi
              have hgo : N → x = n1 := fun h => by rw [hsi]; exact hxo h
              replace hgo := Lib.hid hgo
              replace hsi := Lib.hid hsi
              generalize valN s[j].toNat = v2 at *
              clear hq hxo hni hup hsm
              go_wp2_with fail
              refine (HVi.out _).mono ?_
              rintro e W ⟨rfl, rfl⟩
              go_wp2_with fail
              refine (HVj.out _).mono ?_
              rintro e W ⟨rfl, rfl⟩
              go_wp2_with fail
              go_roundw
              case rel => exact ⟨j + 1 + 1, x, hlt, rfl, by go_num, by rw [hw1.out]; exact hgo, trivial⟩
              case measure => simp [intOf] <;> omega
      · have t1 : decide (0 ≤ valN s[i].toNat) = false := decide_eq_false hv
        rw [if_neg (fun h => hv h.1)] at hsi
        have hgo : N → x = n1 := fun h => by rw [hsi]; exact hx.out h
        replace hgo := Lib.hid hgo
        replace hsi := Lib.hid hsi
        generalize valN s[i].toNat = v at *
        go_wp2_with fail
        refine (HVi.out _).mono ?_
        rintro e W ⟨rfl, rfl⟩
        go_wp2_with fail
        go_roundw
        case rel => exact ⟨i + 1, x, hlt, rfl, by go_num, by rw [hw1.out]; exact hgo, trivial⟩
        case measure => simp [intOf]; omega
    · obtain rfl : i = s.size := by omega
      have hgo := hx.out
      go_wp2_with fail
      go_ret
      exact ⟨x, rfl, hgo, rfl⟩
end Go.Proofs.YtmbpkpideepghaaDoor
