/-
  The document's digits; how far a branch reaches.
-/
import Derived.Test.YtmbpkpideepghaaDoorTxt
namespace Go.Proofs.YtmbpkpideepghaaDoor
open Go.RowKit
set_option maxRecDepth 100000
set_option maxHeartbeats 1000000
set_option linter.unusedVariables false

/-- The lowest i digits. -/
def lowL (x : Nat) : Nat → List Nat
  | 0 => []
  | i + 1 => digitN (x / 16 ^ i % 16) :: lowL x i
theorem lowL_len (x i : Nat) : (lowL x i).length = i := by
  induction i with
  | zero => rfl
  | succ i ih => rw [lowL, List.length_cons, ih]
theorem dolL_low (x d : Nat) : ∀ j, j ≤ d → dolL x d j ++ lowL x (d - j) = 36 :: lowL x d := by
  intro j
  induction j with
  | zero => intro _; rfl
  | succ j ih =>
    intro hj
    rw [← ih (by omega), dolL, List.append_assoc]
    congr 1
    obtain ⟨q, hq⟩ : ∃ q, d - j = q + 1 := ⟨d - j - 1, by omega⟩
    rw [hq, lowL, show d - (j + 1) = q by omega, show d - 1 - j = q by omega]
    rfl
theorem dolL_eq (x d : Nat) : dolL x d d = 36 :: lowL x d := by
  have := dolL_low x d d (Nat.le_refl _)
  rwa [Nat.sub_self, lowL, List.append_nil] at this
attribute [local irreducible] bytesN
theorem digits_any (x n : Nat) (w : World) (hx : x < 4294967296) (hn : n ≤ 8) :
    Calls Tryd.prog 48 #[.int .i64 x, .int .i64 n] w fun e w' => e = .returned (.string (bytesN (lowL x n))) ∧ w = w' := by
  have key : ∀ S : ByteArray, S.data.toList.map UInt8.toNat = [48, 49, 50, 51, 52, 53, 54, 55, 56, 57, 97, 98, 99, 100, 101, 102] → ∀ d, d < 16 → ByteArray.extract S d (d + 1) = bytesN [digitN d] := by
    intro S hS d hd
    have h := text_of hS
    have hz : S.size = 16 := by rw [h, bytesN_size]; rfl
    rw [h, bytesN_extract]
    congr 1
    exact (show ∀ d, d < 16 → ([48, 49, 50, 51, 52, 53, 54, 55, 56, 57, 97, 98, 99, 100, 101, 102].drop d).take (d + 1 - d) = [digitN d] by decide +kernel) d hd
  have h00 : bytesN (lowL x 0) = ⟨#[]⟩ := by unfold bytesN; rfl
  have hb : ∀ i, (bytesN (lowL x i)).size = i := fun i => by rw [bytesN_size, lowL_len]
  have hst : ∀ i, bytesN (lowL x (i + 1)) = bytesN [digitN (x / 16 ^ i % 16)] ++ bytesN (lowL x i) := fun i => by
    rw [lowL, show ∀ (a : Nat) (l : List Nat), a :: l = [a] ++ l from fun _ _ => rfl, bytesN_append]
  have hdiv : ∀ i, x / 16 ^ i / 16 = x / 16 ^ (i + 1) := fun i => by rw [Nat.div_div_eq_div_mul, ← Nat.pow_succ]
  have hle : ∀ i, x / 16 ^ i ≤ x := fun i => Nat.div_le_self _ _
  replace key := Lib.hid key
  replace hb := Lib.hid hb
  replace hst := Lib.hid hst
  replace hdiv := Lib.hid hdiv
  replace hle := Lib.hid hle
  replace h00 := Lib.hid h00
  go_enter Tryd.func48, Tryd.ntmps48
  go_wp2_with fail
  go_loopw [0, 5, 6] (fun s0 s5 s6 wr => ∃ i : Nat, i ≤ n ∧ s0 = .int .i64 (x / 16 ^ i : Nat) ∧ s5 = .string (bytesN (lowL x i)) ∧ s6 = .int .i64 i ∧ wr = w) (fun _ _ s6 _ => n - (intOf s6).toNat)
  case atStart => exact ⟨0, Nat.zero_le _, by simp, by rw [h00.out], rfl, rfl⟩
  case round =>
    obtain ⟨i, hi, rfl, rfl, rfl, rfl⟩ := hrel
    by_cases hlt : i < n
    · have hl := hle.out i
      have hd := hdiv.out i
      have hs := hst.out i
      have hz := hb.out i
      have hmod : x / 16 ^ i % 16 < 16 := Nat.mod_lt _ (by decide)
      have hm : (((x / 16 ^ i : Nat) : Int) % 16) = ((x / 16 ^ i % 16 : Nat) : Int) := by omega
      have hq : (((x / 16 ^ i : Nat) : Int) / 16) = ((x / 16 ^ (i + 1) : Nat) : Int) := by rw [← hd]; omega
      generalize hy1 : x / 16 ^ (i + 1) = y1 at *
      replace hy1 := Lib.hid hy1
      generalize hD : x / 16 ^ i % 16 = D at *
      generalize x / 16 ^ i = y at *
      generalize hS1 : bytesN (lowL x (i + 1)) = S1 at *
      replace hS1 := Lib.hid hS1
      generalize bytesN (lowL x i) = S0 at *
      replace hs := Lib.hid hs
      replace hD := Lib.hid hD
      replace hd := Lib.hid hd
      replace hq := Lib.hid hq
      have hDz : (bytesN [digitN D]).size = 1 := bytesN_size _
      have hlim : (9223372036854775807 < (bytesN [digitN D]).size + S0.size) = False := by rw [eq_iff_iff, iff_false]; omega
      have hlim1 : (9223372036854775807 < 1 + S0.size) = False := by rw [eq_iff_iff, iff_false]; omega
      go_upto_region 7 with (fail)
      rw [hm, hq.out]
      show Code.wp _ (Code.region _ #[_, _, _, { dst := _, op := Op.slice _ (Operand.const (Value.string ?lit)) _ _ _, type := _, pos := _, after := _, guard := _ }, _, _, _] _) _ _ _
      generalize hlit : ?lit = S
      have hz16 : S.size = 16 := by rw [← hlit]; decide +kernel
      have hT := key.out S (by rw [← hlit]; decide +kernel) D hmod
      replace hlit := Lib.hid hlit
      clear hm hq
      generalize bytesN [digitN D] = T at *
      go_wp2_with fail
      go_roundw
      case rel => exact ⟨i + 1, by omega, by rw [hy1.out], by rw [hS1.out, hs.out], by go_num, trivial⟩
      case measure => simp [intOf]; omega
    · obtain rfl : i = n := by omega
      go_wp2_with fail
      go_ret
      exact ⟨rfl, rfl⟩
def farI (x n : Nat) : Int := if n = 1 ∧ 128 ≤ x then (x : Int) - 256 else x
theorem far_any (x n : Nat) (w : World) (hx : x < 4294967296) (hn : n ≤ 8) :
    Calls Tryd.prog 49 #[.int .i64 x, .int .i64 n] w fun e w' => e = .returned (.int .i64 (farI x n)) ∧ w = w' := by
  unfold farI
  by_cases h1 : n = 1
  · subst h1
    by_cases h2 : 128 ≤ x
    · rw [if_pos ⟨rfl, h2⟩]
      have t1 : decide ((128 : Int) ≤ (x : Int)) = true := decide_eq_true (by omega)
      go_enter Tryd.func49, Tryd.ntmps49
      go_wp2_with fail
      go_ret
      exact ⟨rfl, rfl⟩
    · rw [if_neg (fun h => h2 h.2)]
      have t1 : decide ((128 : Int) ≤ (x : Int)) = false := decide_eq_false (by omega)
      go_enter Tryd.func49, Tryd.ntmps49
      go_wp2_with fail
      go_ret
      exact ⟨rfl, rfl⟩
  · rw [if_neg (fun h => h1 h.1)]
    have t1 : ((n : Int) == 1) = false := by rw [beq_eq_false_iff_ne]; omega
    go_enter Tryd.func49, Tryd.ntmps49
    go_wp2_with fail
    go_ret
    exact ⟨rfl, rfl⟩
end Go.Proofs.YtmbpkpideepghaaDoor
