/-
  The document's words for texts: a part of a text, a name among names.
-/
import Derived.Test.YtmbpkpideepghaaDoorWid
namespace Go.Proofs.YtmbpkpideepghaaDoor
open Go.RowKit
set_option maxRecDepth 100000
set_option maxHeartbeats 4000000
set_option linter.unusedVariables false

/-- The n-th part of a text that b parts, from i on; the part began at fr; k steps are left. -/
def partG (S : ByteArray) (b : Nat) : Nat → Nat → Nat → Nat → ByteArray
  | 0, _, _, _ => ⟨#[]⟩
  | k + 1, i, n, fr => if h : i < S.size then (if S[i].toNat = b then (if n = 0 then S.extract fr i else partG S b k (i + 1) (n - 1) (i + 1)) else partG S b k (i + 1) n fr)
    else (if n = 0 then S.extract fr i else partG S b k (i + 1) (n - 1) (i + 1))
def partF (S : ByteArray) (n b : Nat) : ByteArray := partG S b (S.size + 1) 0 n 0
theorem part_any (S : ByteArray) (n b : Nat) (w : World) (hS : S.size ≤ 1000000) (hn : n ≤ 1000) (hb : b < 256) :
    Calls Tryd.prog 30 #[.string S, .int .i64 n, .int .u8 b] w fun e w' => e = .returned (.string (partF S n b)) ∧ w = w' := by
  generalize hp : partF S n b = p
  go_enter Tryd.func30, Tryd.ntmps30
  go_wp2_with fail
  go_loopw [1, 7, 8] (fun s1 s7 s8 wr => ∃ (i n' fr : Nat), i ≤ S.size + 1 ∧ n' ≤ n ∧ fr ≤ i ∧ s1 = .int .i64 n' ∧ s7 = .int .i64 fr ∧ s8 = .int .i64 i ∧ Hid (partG S b (S.size + 1 - i) i n' fr = p) ∧ wr = w) (fun _ _ s8 _ => S.size + 1 - (intOf s8).toNat)
  case atStart => exact ⟨0, n, 0, by omega, by omega, by omega, rfl, rfl, rfl, Lib.hid hp, rfl⟩
  case round =>
    obtain ⟨i, n', fr, hi, hn', hfr, rfl, rfl, rfl, hP, rfl⟩ := hrel
    clear hp
    rcases Nat.lt_trichotomy i S.size with hlt | heq | hgt
    · have hP1 := hP.out
      rw [show S.size + 1 - i = (S.size - i) + 1 by omega, partG, dif_pos hlt] at hP1
      rw [show S.size - i = S.size + 1 - (i + 1) by omega] at hP1
      by_cases hx : S[i].toNat = b
      · rw [if_pos hx] at hP1
        have t1 : ((S[i].toNat : Int) == (b : Int)) = true := by rw [hx]; simp
        by_cases h0 : n' = 0
        · subst h0
          rw [if_pos rfl] at hP1
          replace hP1 := Lib.hid hP1
          clear hx
          go_wp2_with fail
          rw [hP1.out]
          go_ret
          exact ⟨rfl, rfl⟩
        · rw [if_neg h0] at hP1
          replace hP1 := Lib.hid hP1
          obtain ⟨n2, rfl⟩ : ∃ n2, n' = n2 + 1 := ⟨n' - 1, by omega⟩
          have t2 : (((n2 + 1 : Nat) : Int) == 0) = false := by rw [beq_eq_false_iff_ne]; omega
          clear hx h0
          go_wp2_with fail
          go_roundw
          case rel => exact ⟨i + 1, n2, i + 1, by omega, by omega, by omega, by go_num, by go_num, by go_num, hP1, trivial⟩
          case measure => simp [intOf]; omega
      · rw [if_neg hx] at hP1
        have t1 : ((S[i].toNat : Int) == (b : Int)) = false := by rw [beq_eq_false_iff_ne]; omega
        replace hP1 := Lib.hid hP1
        clear hx
        go_wp2_with fail
        go_roundw
        case rel => exact ⟨i + 1, n', fr, by omega, by omega, by omega, rfl, rfl, by go_num, hP1, trivial⟩
        case measure => simp [intOf]; omega
    · subst heq
      have hP1 := hP.out
      rw [show S.size + 1 - S.size = 0 + 1 by omega, partG, dif_neg (by omega)] at hP1
      by_cases h0 : n' = 0
      · subst h0
        rw [if_pos rfl] at hP1
        replace hP1 := Lib.hid hP1
        go_wp2_with fail
        rw [hP1.out]
        go_ret
        exact ⟨rfl, rfl⟩
      · rw [if_neg h0] at hP1
        replace hP1 := Lib.hid hP1
        obtain ⟨n2, rfl⟩ : ∃ n2, n' = n2 + 1 := ⟨n' - 1, by omega⟩
        have t2 : (((n2 + 1 : Nat) : Int) == 0) = false := by rw [beq_eq_false_iff_ne]; omega
        clear h0
        go_wp2_with fail
        go_roundw
        case rel => exact ⟨S.size + 1, n2, S.size + 1, by omega, by omega, by omega, by go_num, by go_num, by go_num, Lib.hid (by rw [Nat.sub_self]; exact hP1.out), trivial⟩
        case measure => simp [intOf] <;> omega
    · obtain rfl : i = S.size + 1 := by omega
      have hP1 := hP.out
      rw [Nat.sub_self, partG] at hP1
      subst hP1
      go_wp2_with fail
      go_ret
      exact ⟨rfl, rfl⟩
/-- A name among names, from the k-th on; so many are left. -/
def inG (s : List UInt8) (S : ByteArray) : Nat → Nat → Bool
  | 0, _ => false
  | k + 1, i => if 4 * i + 3 ≤ S.size then (if ((S.extract (4 * i) (4 * i + 3)).toList == s) = true then true else inG s S k (i + 1)) else false
def inF (s : List UInt8) (S : ByteArray) : Bool := inG s S (S.size + 1) 0
theorem in_any (s S : ByteArray) (w : World) (hS : S.size ≤ 1000000) :
    Calls Tryd.prog 47 #[.string s, .string S] w fun e w' => e = .returned (.bool (inF s.toList S)) ∧ w = w' := by
  generalize hp : inF s.toList S = p
  go_enter Tryd.func47, Tryd.ntmps47
  go_wp2_with fail
  go_loopw [5] (fun s5 wr => ∃ (i : Nat), i ≤ S.size ∧ s5 = .int .i64 ((4 * i : Nat) : Int) ∧ Hid (inG s.toList S (S.size + 1 - i) i = p) ∧ wr = w) (fun s5 _ => S.size + 4 - (intOf s5).toNat)
  case atStart => exact ⟨0, by omega, rfl, Lib.hid hp, rfl⟩
  case round =>
    obtain ⟨i, hi, rfl, hP, rfl⟩ := hrel
    clear hp
    have hP1 := hP.out
    rw [show S.size + 1 - i = (S.size - i) + 1 by omega, inG] at hP1
    by_cases hlt : 4 * i + 3 ≤ S.size
    · rw [if_pos hlt] at hP1
      by_cases hx : ((S.extract (4 * i) (4 * i + 3)).toList == s.toList) = true
      · rw [if_pos hx] at hP1
        subst hP1
        go_wp2_with fail
        go_ret
        exact ⟨rfl, rfl⟩
      · rw [if_neg hx] at hP1
        have hx : ((S.extract (4 * i) (4 * i + 3)).toList == s.toList) = false := by simpa using hx
        rw [show S.size - i = S.size + 1 - (i + 1) by omega] at hP1
        replace hP1 := Lib.hid hP1
        go_wp2_with fail
        go_roundw
        case rel => exact ⟨i + 1, by omega, by go_num, hP1, trivial⟩
        case measure => simp [intOf]; omega
    · rw [if_neg hlt] at hP1
      subst hP1
      go_wp2_with fail
      go_ret
      exact ⟨rfl, rfl⟩
end Go.Proofs.YtmbpkpideepghaaDoor
