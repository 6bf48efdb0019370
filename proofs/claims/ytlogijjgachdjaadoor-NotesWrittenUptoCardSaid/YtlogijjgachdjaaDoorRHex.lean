/-
  A number in so many digits, in tens: by the document.
-/
import Derived.Test.YtlogijjgachdjaaDoorClo
namespace Go.Proofs.YtlogijjgachdjaaDoor
open Go.RowKit
set_option maxRecDepth 100000
set_option maxHeartbeats 1000000
set_option linter.unusedVariables false

theorem hxL_succ (n s : Nat) : hxL n (s + 1) = dg (n / 16 ^ s % 16) :: hxL n s := by
  unfold hxL
  rw [List.range_succ_eq_map, List.map_cons, List.map_map]
  congr 1
  apply List.map_congr_left
  intro i hi
  simp only [Function.comp]
  rw [show s + 1 - 1 - i.succ = s - 1 - i by omega]
theorem dig_cut (x : Nat) (hx : x < 16) : (⟨#[48, 49, 50, 51, 52, 53, 54, 55, 56, 57, 65, 66, 67, 68, 69, 70]⟩ : ByteArray).extract x (x + 1) = bsOf [dg x] := by
  have h : ∀ x, x < 16 → ((digN.drop x).take (x + 1 - x)) = [dg x] := by decide +kernel
  rw [show (⟨#[48, 49, 50, 51, 52, 53, 54, 55, 56, 57, 65, 66, 67, 68, 69, 70]⟩ : ByteArray) = bsOf digN by decide +kernel, bsOf_extract, h x hx]
theorem rhex_any (n s : Nat) (w : World) (hs : s ≤ 10) (hn : n ≤ 1000000000000) : Calls Tryd.prog 33 #[.int .i64 n, .int .i64 s] w fun e w' => e = .returned (.string (bsOf (hxL n s))) ∧ w' = w := by
  generalize hT : bsOf (hxL n s) = T
  replace hT := Lib.hid hT
  have h0 : bsOf (hxL n 0) = ⟨#[]⟩ := rfl
  go_enter Tryd.func33, Tryd.ntmps33
  go_wp2_with fail
  go_loopw [0, 5, 6] (fun s0 s5 s6 wr => ∃ k : Nat, k ≤ s ∧ s6 = .int .i64 k ∧ s0 = .int .i64 ((n / 16 ^ k : Nat) : Int) ∧ s5 = .string (bsOf (hxL n k)) ∧ wr = w) (fun _ _ s6 _ => s - (intOf s6).toNat)
  case atStart => exact ⟨0, by omega, rfl, by simp, by rw [h0], rfl⟩
  case round =>
    obtain ⟨k, hk, rfl, rfl, rfl, rfl⟩ := hrel
    by_cases hlt : k < s
    · have ht : decide ((k : Int) < (s : Int)) = true := decide_eq_true (by omega)
      have hx : n / 16 ^ k % 16 < 16 := Nat.mod_lt _ (by decide)
      have hle : n / 16 ^ k ≤ 1000000000000 := Nat.le_trans (Nat.div_le_self _ _) hn
      have hd : n / 16 ^ k / 16 = n / 16 ^ (k + 1) := by rw [Nat.pow_succ, Nat.div_div_eq_div_mul]
      have hsz : (bsOf (hxL n k)).size = k := by rw [bsOf_size, hxL_len]
      have hap : bsOf [dg (n / 16 ^ k % 16)] ++ bsOf (hxL n k) = bsOf (hxL n (k + 1)) := by rw [hxL_succ, ← bsOf_append]; rfl
      have hcut := dig_cut (n / 16 ^ k % 16) hx
      have hm : ((n / 16 ^ k : Nat) : Int) % 16 = ((n / 16 ^ k % 16 : Nat) : Int) := by omega
      have hq : ((n / 16 ^ k : Nat) : Int) / 16 = ((n / 16 ^ (k + 1) : Nat) : Int) := by rw [← hd]; omega
      have hs1 : (bsOf [dg (n / 16 ^ k % 16)]).size = 1 := by rw [bsOf_size]; rfl
      generalize hxd : n / 16 ^ k % 16 = x at *
      generalize hqd : n / 16 ^ (k + 1) = q at *
      generalize n / 16 ^ k = m at *
      generalize bsOf [dg x] = D at *
      generalize hB1 : bsOf (hxL n k) = B1 at *
      generalize hB2 : bsOf (hxL n (k + 1)) = B2 at *
      replace hB2 := Lib.hid hB2
      replace hqd := Lib.hid hqd
      have hlim : (9223372036854775807 < D.size + B1.size) = False := by rw [eq_iff_iff, iff_false]; omega
      have hlim2 : (9223372036854775807 < 1 + B1.size) = False := by rw [eq_iff_iff, iff_false]; omega
      clear hxd hd hsz hs1
      go_wp2_with fail
      go_roundw
      case rel => exact ⟨k + 1, by omega, by go_num, by rw [hqd.out], by rw [hB2.out], trivial⟩
      case measure => simp [intOf]; omega
    · obtain rfl : k = s := by omega
      go_wp2_with fail
      go_ret
      exact ⟨by rw [hT.out]; rfl, rfl⟩
theorem rtens_any (k : Nat) (w : World) (hk : k < 16) : Calls Tryd.prog 36 #[.int .i64 k] w fun e w' => e = .returned (.string (bsOf (tnL k))) ∧ w' = w := by
  by_cases h : 9 < k
  · have H1 := fun W => rhex_any (k - 10) 1 W (by omega) (by omega)
    have hT : ⟨#[49]⟩ ++ bsOf (hxL (k - 10) 1) = bsOf (tnL k) := by
      rw [show (⟨#[49]⟩ : ByteArray) = bsOf [49] by decide +kernel, ← bsOf_append]
      congr 1
      exact (show ∀ k, k < 16 → 9 < k → [49] ++ hxL (k - 10) 1 = tnL k by decide +kernel) k hk h
    have hsz : (bsOf (hxL (k - 10) 1)).size = 1 := by rw [bsOf_size, hxL_len]
    generalize bsOf (hxL (k - 10) 1) = B1 at *
    generalize bsOf (tnL k) = T at *
    have hlim : (9223372036854775807 < 1 + B1.size) = False := by rw [eq_iff_iff, iff_false]; omega
    have ht : decide ((9 : Int) < (k : Int)) = true := decide_eq_true (by omega)
    have ht2 : decide ((k : Int) > 9) = true := decide_eq_true (by omega)
    have hs : ((k - 10 : Nat) : Int) = (k : Int) - 10 := by omega
    simp only [hs] at H1
    replace H1 := Lib.hid H1
    clear hsz hs
    go_enter Tryd.func36, Tryd.ntmps36
    go_wp2_with fail
    refine (H1.out _).mono ?_
    rintro e w' ⟨rfl, rfl⟩
    go_wp2_with fail
    go_ret
    exact ⟨rfl, rfl⟩
  · have H1 := fun W => rhex_any k 1 W (by omega) (by omega)
    rw [show hxL k 1 = tnL k from (show ∀ k, k < 16 → ¬ 9 < k → hxL k 1 = tnL k by decide +kernel) k hk h] at H1
    generalize bsOf (tnL k) = T at *
    have ht : decide ((9 : Int) < (k : Int)) = false := decide_eq_false (by omega)
    have ht2 : decide ((k : Int) > 9) = false := decide_eq_false (by omega)
    replace H1 := Lib.hid H1
    go_enter Tryd.func36, Tryd.ntmps36
    go_wp2_with fail
    refine (H1.out _).mono ?_
    rintro e w' ⟨rfl, rfl⟩
    go_wp2_with fail
    go_ret
    exact ⟨rfl, rfl⟩
end Go.Proofs.YtlogijjgachdjaaDoor
