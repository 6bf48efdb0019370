/-
  A block's nibbles: read and laid by the code, read by the document; a sample by the document.
-/
import Derived.Test.YtekjcgckniopdaaBSam
namespace Go.Proofs.Ytekjcgckniopdaa
open Go.RowKit Go.Shelf
set_option maxRecDepth 100000
set_option maxHeartbeats 2000000
set_option linter.unusedVariables false
set_option linter.unusedSimpArgs false

theorem nibat_any (w : World) (i : Nat) (hi : i < 16) : Calls Try.prog 48 #[.int .i64 (i : Nat)] w fun e w' => e = .returned (.tuple #[.int .i64 ((1 + i / 2 : Nat) : Int), .int .i64 ((if i % 2 = 0 then 4 else 0 : Nat) : Int)]) ∧ w' = w := by
  have h1 : (1 : Int) + (i : Int) / 2 = ((1 + i / 2 : Nat) : Int) := by omega
  have h2 : (4 : Int) * (1 - (i : Int) % 2) = ((if i % 2 = 0 then 4 else 0 : Nat) : Int) := by split <;> omega
  generalize (if i % 2 = 0 then 4 else 0 : Nat) = U at *
  generalize (1 + i / 2 : Nat) = V at *
  replace h1 := Lib.hid h1
  replace h2 := Lib.hid h2
  go_enter Try.func48, Try.ntmps48
  go_wp2_with fail
  exact bodyPost_ret (results_tmp2 rfl _ _ _) rfl ⟨by rw [← h1.out, ← h2.out]; rfl, rfl⟩
theorem nib_even : ∀ x : Fin 256, wrap64 (IntKind.i8.wrap (((x : Nat) : Int) / 16 * 16) / 16) = if 7 < x.val / 16 % 16 then ((x.val / 16 % 16 : Nat) : Int) - 16 else ((x.val / 16 % 16 : Nat) : Int) := by decide +kernel
theorem nib_odd : ∀ x : Fin 256, wrap64 (IntKind.i8.wrap (((x : Nat) : Int) * 16 % 256) / 16) = if 7 < x.val % 16 then ((x.val % 16 : Nat) : Int) - 16 else ((x.val % 16 : Nat) : Int) := by decide +kernel
theorem number_any (w : World) (a : Option Addr) (c i : Nat) (g : Nat → Nat) (hR : Row w a 9 g) (hi : i < 16) : Calls Try.prog 40 #[.slice a 9 c, .int .i64 (i : Nat)] w fun e w' => e = .returned (.int .i64 (nibO g i)) ∧ w' = w := by
  have HA := Lib.hid (nibat_any w i hi)
  obtain ⟨hb, h | ⟨b, o, rfl, hlt, hc⟩⟩ := hR
  · omega
  have hx := hb (1 + i / 2) (by omega)
  have x0 := hc (1 + i / 2) (by omega)
  have ha : 1 + i / 2 < 9 := by omega
  clear hb hc
  have hn : nibO g i = (let x := (if i % 2 = 0 then g (1 + i / 2) / 16 % 16 else g (1 + i / 2) % 16); if 7 < x then (x : Int) - 16 else x) := rfl
  generalize g (1 + i / 2) = x at *
  generalize 1 + i / 2 = at' at *
  by_cases hp : i % 2 = 0
  · simp only [if_pos hp] at HA hn
    replace hn := Lib.hid (hn.trans (nib_even ⟨x, hx⟩).symm)
    go_enter Try.func40, Try.ntmps40
    go_wp2_with fail
    refine HA.out.mono ?_
    rintro e w' ⟨rfl, rfl⟩
    go_wp2_with fail
    go_ret
    exact ⟨by rw [hn.out]; rfl, rfl⟩
  · simp only [if_neg hp] at HA hn
    replace hn := Lib.hid (hn.trans (nib_odd ⟨x, hx⟩).symm)
    go_enter Try.func40, Try.ntmps40
    go_wp2_with fail
    refine HA.out.mono ?_
    rintro e w' ⟨rfl, rfl⟩
    go_wp2_with fail
    go_ret
    exact ⟨by rw [hn.out]; rfl, rfl⟩
theorem nib_cases (n : Int) (h1 : -8 ≤ n) (h2 : n ≤ 7) : ∃ m : Fin 16, n = (m.val : Int) - 8 := ⟨⟨(n + 8).toNat, by omega⟩, by show n = ((n + 8).toNat : Int) - 8; omega⟩
theorem put_even : ∀ m : Fin 16, bits BinOp.or IntKind.u8 0 (IntKind.u8.wrap (bits BinOp.and IntKind.u8 (IntKind.u8.wrap ((m.val : Int) - 8)) 15 * 16)) = ((0 + u4 ((m.val : Int) - 8) * 16 : Nat) : Int) := by decide +kernel
theorem put_odd : ∀ m a : Fin 16, bits BinOp.or IntKind.u8 ((a.val * 16 : Nat) : Int) (bits BinOp.and IntKind.u8 (IntKind.u8.wrap ((m.val : Int) - 8)) 15) = ((a.val * 16 + u4 ((m.val : Int) - 8) * 1 : Nat) : Int) ∧ bits BinOp.or IntKind.u8 ((a.val * 16 : Nat) : Int) (IntKind.u8.wrap (bits BinOp.and IntKind.u8 (IntKind.u8.wrap ((m.val : Int) - 8)) 15)) = ((a.val * 16 + u4 ((m.val : Int) - 8) * 1 : Nat) : Int) := by decide +kernel
theorem put_any (w : World) (A o i x : Nat) (n : Int) (hi : i < 16) (h1 : -8 ≤ n) (h2 : n ≤ 7) (hc : w.cell? ⟨A, o + (1 + i / 2), none⟩ = some (.int .u8 (x : Nat))) (hf : w.frozen? ⟨A, o + (1 + i / 2), none⟩ = false) (hx : x < 256) (hx2 : if i % 2 = 0 then x = 0 else x % 16 = 0) :
    Calls Try.prog 50 #[.slice (some ⟨A, o, none⟩) 9 9, .int .i64 (i : Nat), .int .i64 n] w fun e w' => e = .returned (.tuple #[]) ∧ w' = w.drew.setCell ⟨A, o + (1 + i / 2), none⟩ (.int .u8 ((x + u4 n * (if i % 2 = 0 then 16 else 1) : Nat) : Int)) := by
  have HA := Lib.hid (nibat_any w i hi)
  have ha : 1 + i / 2 < 9 := by omega
  generalize 1 + i / 2 = at' at *
  have ha1 : (at' : Int) < 9 := by omega
  have ha2 : (0 : Int) ≤ (at' : Int) := by omega
  obtain ⟨m, rfl⟩ := nib_cases n h1 h2
  have hcd : w.drew.cell? ⟨A, o + at', none⟩ = some (.int .u8 (x : Nat)) := hc
  have hfd : w.drew.frozen? ⟨A, o + at', none⟩ = false := hf
  by_cases hp : i % 2 = 0
  · simp only [if_pos hp] at HA hx2 ⊢
    subst hx2
    have hbit := put_even m
    generalize 0 + u4 ((m.val : Int) - 8) * 16 = R at *
    replace hbit := Lib.hid hbit
    replace hcd := Lib.hid hcd
    replace hfd := Lib.hid hfd
    go_enter Try.func50, Try.ntmps50
    go_wp2_with fail
    refine HA.out.mono ?_
    rintro e w' ⟨rfl, rfl⟩
    go_upto_region 1 with (fail)
    go_still_tail 11, (by kernel_rfl)
    show wpList _ _ _ _ _ w'.drew
    clear HA hc hf
    rw [hbit.out]
    replace hcd := hcd.out
    replace hfd := hfd.out
    generalize hW : w'.drew = W1 at *
    replace hW := Lib.hid hW
    go_wp2_with fail
    go_end0
    exact ⟨rfl, by rw [hW.out]⟩
  · simp only [if_neg hp] at HA hx2 ⊢
    have hbit : bits BinOp.or IntKind.u8 ((x : Nat) : Int) (IntKind.u8.wrap (bits BinOp.and IntKind.u8 (IntKind.u8.wrap ((m.val : Int) - 8)) 15)) = ((x + u4 ((m.val : Int) - 8) * 1 : Nat) : Int) := by
      obtain ⟨a, rfl⟩ : ∃ a : Fin 16, x = a.val * 16 := ⟨⟨x / 16, by omega⟩, by show x = x / 16 * 16; omega⟩
      exact (put_odd m a).2
    generalize x + u4 ((m.val : Int) - 8) * 1 = R at *
    replace hbit := Lib.hid hbit
    replace hcd := Lib.hid hcd
    replace hfd := Lib.hid hfd
    go_enter Try.func50, Try.ntmps50
    go_wp2_with fail
    refine HA.out.mono ?_
    rintro e w' ⟨rfl, rfl⟩
    go_upto_region 1 with (fail)
    go_still_tail 11, (by kernel_rfl)
    show wpList _ _ _ _ _ w'.drew
    clear HA hc hf
    rw [hbit.out]
    replace hcd := hcd.out
    replace hfd := hfd.out
    generalize hW : w'.drew = W1 at *
    replace hW := Lib.hid hW
    go_wp2_with fail
    go_end0
    exact ⟨rfl, by rw [hW.out]⟩
theorem rnib_any (w : World) (a : Option Addr) (c i : Nat) (g : Nat → Nat) (hR : Row w a 9 g) (hi : i < 16) : Calls Try.prog 27 #[.slice a 9 c, .int .i64 (i : Nat)] w fun e w' => e = .returned (.int .i64 (nibO g i)) ∧ w' = w := by
  obtain ⟨hb, h | ⟨b, o, rfl, hlt, hc⟩⟩ := hR
  · omega
  have hx := hb (1 + i / 2) (by omega)
  have x0 := hc (1 + i / 2) (by omega)
  have ha : 1 + i / 2 < 9 := by omega
  have h1 : (1 : Int) + (i : Int) / 2 = ((1 + i / 2 : Nat) : Int) := by omega
  clear hb hc
  have hn : nibO g i = (let x := (if i % 2 = 0 then g (1 + i / 2) / 16 % 16 else g (1 + i / 2) % 16); if 7 < x then (x : Int) - 16 else x) := rfl
  generalize g (1 + i / 2) = x at *
  generalize 1 + i / 2 = at' at *
  by_cases hp : i % 2 = 0
  · simp only [if_pos hp] at hn
    have hp2 : (i : Int) % 2 = 0 := by omega
    have hd : (x : Int) / 16 = ((x / 16 % 16 : Nat) : Int) := by omega
    have hy : x / 16 % 16 < 16 := Nat.mod_lt _ (by decide)
    generalize x / 16 % 16 = y at *
    by_cases h7 : 7 < y
    · rw [if_pos h7] at hn
      replace hn := Lib.hid hn
      go_enter Try.func27, Try.ntmps27
      go_wp2_with fail
      go_ret
      exact ⟨by rw [hn.out]; first | rfl | (rw [← hd]; rfl), rfl⟩
    · rw [if_neg h7] at hn
      replace hn := Lib.hid hn
      go_enter Try.func27, Try.ntmps27
      go_wp2_with fail
      go_ret
      exact ⟨by rw [hn.out]; first | rfl | (rw [← hd]; rfl), rfl⟩
  · simp only [if_neg hp] at hn
    have hp2 : (i : Int) % 2 = 1 := by omega
    have hd : (x : Int) % 16 = ((x % 16 : Nat) : Int) := by omega
    have hy : x % 16 < 16 := Nat.mod_lt _ (by decide)
    generalize x % 16 = y at *
    by_cases h7 : 7 < y
    · rw [if_pos h7] at hn
      replace hn := Lib.hid hn
      go_enter Try.func27, Try.ntmps27
      go_wp2_with fail
      go_ret
      exact ⟨by rw [hn.out]; first | rfl | (rw [← hd]; rfl), rfl⟩
    · rw [if_neg h7] at hn
      replace hn := Lib.hid hn
      go_enter Try.func27, Try.ntmps27
      go_wp2_with fail
      go_ret
      exact ⟨by rw [hn.out]; first | rfl | (rw [← hd]; rfl), rfl⟩
theorem rsample_any (w : World) (n p q : Int) (sh fl : Nat) (h1 : -8 ≤ n) (h2 : n ≤ 7) (hs : sh < 256) (hf : fl < 4) (hp : Smp p) (hq : Smp q) :
    Calls Try.prog 26 #[.int .i64 n, .int .u8 (sh : Nat), .int .u8 (fl : Nat), .int .i64 p, .int .i64 q] w fun e w' => e = .returned (.int .i64 (sampF sh fl p q n)) ∧ w' = w := by
  have hsb := scaleF_bnd sh n h1 h2
  have HC := Lib.hid (rclamp_any w)
  have HB := Lib.hid (fun x m => rby_any w x m)
  have hsn : ¬ ((sh : Int) ≤ 12) → scaleF sh n = if n < 0 then -2048 else 0 := fun h => by unfold scaleF; rw [if_neg (by omega)]
  have hsy : sh ≤ 12 → (-9000000 ≤ n * 2 ^ sh ∧ n * 2 ^ sh ≤ 9000000) ∧ wrap64 (n * 2 ^ sh) = n * 2 ^ sh ∧ wrap64 (n * wrap64 (2 ^ sh)) = n * 2 ^ sh ∧ wrap64 (n * 2 ^ sh) = n * 2 ^ sh ∧ scaleF sh n = n * 2 ^ sh / 2 := fun h => by
    have a1 := mul_pow_bnd sh n h h1 h2
    have a2 := two_pow_bnd sh h
    have a3 : wrap64 (2 ^ sh) = 2 ^ sh := w64 _ (by omega) (by omega)
    have a4 : wrap64 (n * 2 ^ sh) = n * 2 ^ sh := w64 _ (by omega) (by omega)
    exact ⟨by omega, a4, by rw [a3]; exact a4, a4, by unfold scaleF; rw [if_pos h]⟩
  unfold Smp at hp hq
  have hfl : sampF sh fl p q n = clampF (scaleF sh n + foreF fl p q) := rfl
  have hwr : ∀ x, -9000000 ≤ x → x ≤ 9000000 → wrap64 x = x := fun x a b => w64 x (by omega) (by omega)
  generalize hsc : scaleF sh n = sc at *
  replace hsc := Lib.hid hsc
  replace hsn := Lib.hid hsn
  replace hsy := Lib.hid hsy
  replace hfl := Lib.hid hfl
  replace hwr := Lib.hid hwr
  replace hsb := Lib.hid hsb
  go_enter Try.func26, Try.ntmps26
  go_upto_if 13 with (fail)
  go_cut [11] (fun s11 V => s11 = .int .i64 sc ∧ w = V)
  case first =>
    by_cases h : sh ≤ 12
    · obtain ⟨⟨b1, b2⟩, e1, e2, e3, e4⟩ := hsy.out h
      replace e1 := Lib.hid e1
      replace e2 := Lib.hid e2
      replace e3 := Lib.hid e3
      replace e4 := Lib.hid e4
      replace b1 := Lib.hid b1
      replace b2 := Lib.hid b2
      go_wp2_with fail
      first | rw [e2.out] | rw [e1.out] | trace_state
      with_reducible refine (HB.out _ 2 (by decide) b1.out b2.out).mono ?_
      rintro e w' ⟨rfl, rfl⟩
      go_wp2_with fail
      go_meet
      exact ⟨by rw [e4.out], by trivial⟩
    · have hsi : ¬ ((sh : Int) ≤ 12) := by omega
      have e4 := hsn.out hsi
      by_cases hn : n < 0
      · rw [if_pos hn] at e4
        replace e4 := Lib.hid e4
        go_wp2_with fail
        go_meet
        exact ⟨by rw [e4.out], by trivial⟩
      · rw [if_neg hn] at e4
        replace e4 := Lib.hid e4
        go_wp2_with fail
        go_meet
        exact ⟨by rw [e4.out], by trivial⟩
  case rest =>
    obtain ⟨rfl, rfl⟩ := hcut
    rcases (show fl = 0 ∨ fl = 1 ∨ fl = 2 ∨ fl = 3 by omega) with rfl | rfl | rfl | rfl
    · go_wp2_with fail
      refine (HC.out _).mono ?_
      rintro e w' ⟨rfl, rfl⟩
      go_wp2_with fail
      go_ret
      exact ⟨by rw [hfl.out]; show _ = Ending.returned (.int .i64 (clampF (sc + 0))); rw [Int.add_zero]; rfl, rfl⟩
    · have e1 := hwr.out (p * 15) (by omega) (by omega)
      have e2 := hwr.out (sc + p * 15 / 16) (by have := hsb.out; omega) (by have := hsb.out; omega)
      have b1 : -9000000 ≤ p * 15 ∧ p * 15 ≤ 9000000 := by omega
      replace b1 := Lib.hid b1
      replace e2 := Lib.hid e2
      clear hp hq
      go_wp2_with fail
      refine (HB.out _ 16 (by decide) b1.out.1 b1.out.2).mono ?_
      rintro e w' ⟨rfl, rfl⟩
      go_wp2_with fail
      first | rw [e2.out] | skip
      refine (HC.out _).mono ?_
      rintro e w' ⟨rfl, rfl⟩
      go_wp2_with fail
      go_ret
      exact ⟨by rw [hfl.out]; rfl, rfl⟩
    · have e1 := hwr.out (p * 61) (by omega) (by omega)
      have e3 := hwr.out (q * 15) (by omega) (by omega)
      have e4 := hwr.out (p * 61 / 32 - q * 15 / 16) (by omega) (by omega)
      have e2 := hwr.out (sc + (p * 61 / 32 - q * 15 / 16)) (by have := hsb.out; omega) (by have := hsb.out; omega)
      have b1 : -9000000 ≤ p * 61 ∧ p * 61 ≤ 9000000 := by omega
      have b2 : -9000000 ≤ q * 15 ∧ q * 15 ≤ 9000000 := by omega
      replace b1 := Lib.hid b1
      replace b2 := Lib.hid b2
      replace e2 := Lib.hid e2
      clear hp hq
      go_wp2_with fail
      refine (HB.out _ 32 (by decide) b1.out.1 b1.out.2).mono ?_
      rintro e w' ⟨rfl, rfl⟩
      go_wp2_with fail
      refine (HB.out _ 16 (by decide) b2.out.1 b2.out.2).mono ?_
      rintro e w' ⟨rfl, rfl⟩
      go_wp2_with fail
      first | rw [e2.out] | skip
      refine (HC.out _).mono ?_
      rintro e w' ⟨rfl, rfl⟩
      go_wp2_with fail
      go_ret
      exact ⟨by rw [hfl.out]; rfl, rfl⟩
    · have e1 := hwr.out (p * 115) (by omega) (by omega)
      have e3 := hwr.out (q * 13) (by omega) (by omega)
      have e4 := hwr.out (p * 115 / 64 - q * 13 / 16) (by omega) (by omega)
      have e2 := hwr.out (sc + (p * 115 / 64 - q * 13 / 16)) (by have := hsb.out; omega) (by have := hsb.out; omega)
      have b1 : -9000000 ≤ p * 115 ∧ p * 115 ≤ 9000000 := by omega
      have b2 : -9000000 ≤ q * 13 ∧ q * 13 ≤ 9000000 := by omega
      replace b1 := Lib.hid b1
      replace b2 := Lib.hid b2
      replace e2 := Lib.hid e2
      clear hp hq
      go_wp2_with fail
      refine (HB.out _ 64 (by decide) b1.out.1 b1.out.2).mono ?_
      rintro e w' ⟨rfl, rfl⟩
      go_wp2_with fail
      refine (HB.out _ 16 (by decide) b2.out.1 b2.out.2).mono ?_
      rintro e w' ⟨rfl, rfl⟩
      go_wp2_with fail
      first | rw [e2.out] | skip
      refine (HC.out _).mono ?_
      rintro e w' ⟨rfl, rfl⟩
      go_wp2_with fail
      go_ret
      exact ⟨by rw [hfl.out]; rfl, rfl⟩
end Go.Proofs.Ytekjcgckniopdaa
