/-
  Check and sum are laid; a cartridge's bytes.
-/
import Derived.Test.YtggjaoihfhianaaLay
namespace Go.Proofs.Ytggjaoihfhianaa
open Go.RowKit Go.Shelf
set_option maxRecDepth 100000
set_option maxHeartbeats 4000000

def sealF (f : Nat → Nat) (p s : Nat) : Nat → Nat := upd (upd (upd (upd f (p + 30) (s % 256)) (p + 31) (s / 256)) (p + 28) ((65535 - s) % 256)) (p + 29) ((65535 - s) / 256)

theorem xor16 (s : Nat) (hs : s < 65536) : (65535 : Nat) ^^^ s = 65535 - s := by
  have h1 : ((BitVec.allOnes 16) ^^^ (BitVec.ofNat 16 s)).toNat = 65535 - s := by
    rw [BitVec.allOnes_xor, BitVec.toNat_not, BitVec.toNat_ofNat, Nat.mod_eq_of_lt hs]
  rw [BitVec.toNat_xor, BitVec.toNat_allOnes, BitVec.toNat_ofNat, Nat.mod_eq_of_lt hs] at h1
  exact h1
theorem max16 : IntKind.u16.max = ((65535 : Nat) : Int) := rfl
theorem not16 (s : Nat) (hs : s < 65536) : bits .xor .u16 IntKind.u16.max (s : Int) = (65535 - s : Nat) := by
  rw [max16, u16_xor_nat 65535 s (by decide) hs, xor16 s hs]
theorem seal_any (R p n cap cp : Nat) (f : Nat → Nat) (w : World) (hn : n ≤ 8392704) (hp : p + 64 ≤ n) (h : Holds w R n f) :
    Calls Try.prog 21 #[.slice (some ⟨R, 0, none⟩) n cap, .slice (some ⟨R, p, none⟩) 64 cp] w fun e w' => (∃ v, e = .returned v) ∧ Holds w' R n (sealF f p (sumTo f n)) ∧ w.grownBy w' (some R) := by
  have HW := Lib.hid (fun k hk z hz f W (hW : Holds W R n f) => putWord_any R p cp k z n f W hk hz hp hW)
  have hn' : n ≤ 140737488355328 := by omega
  have hp' := Lib.hid hp
  clear hn hp
  go_enter Try.func21, Try.ntmps21
  go_wp2_with fail
  go_loopw [4, 9] (fun s i wr => ∃ k : Nat, k ≤ n ∧ i = .int .i64 k ∧ s = .int .u16 (sumTo f k : Nat) ∧ wr = w) (fun _ i _ => n - (intOf i).toNat)
  case atStart => exact ⟨0, Nat.zero_le _, rfl, rfl, rfl⟩
  case round =>
    obtain ⟨k, hk, rfl, rfl, rfl⟩ := hrel
    by_cases hlt : k < n
    · have c0 := h.cell k hlt
      have hx := h.byte k hlt
      have hs := sumTo_lt f k
      have hadd : IntKind.u16.wrap ((sumTo f k : Int) + (f k : Int)) = (sumTo f (k + 1) : Nat) := by
        rw [show ∀ z : Int, IntKind.u16.wrap z = z % 65536 from fun z => by simp [IntKind.wrap, IntKind.signed, IntKind.bits], sumTo]
        omega
      have hsum := Lib.hid (show ∃ x, x = sumTo f (k + 1) from ⟨_, rfl⟩)
      obtain ⟨s2, hs2⟩ : ∃ x, sumTo f (k + 1) = x := ⟨_, rfl⟩
      rw [hs2] at hadd
      replace hs2 := Lib.hid hs2
      clear hsum
      generalize sumTo f k = s1 at *
      generalize f k = x at *
      go_wp2_with fail
      clear hadd hs hx c0
      refine ⟨⟨k + 1, by omega, by go_num, by rw [hs2.out], trivial⟩, ?_⟩
      simp only [intOf]
      omega
    · obtain rfl : k = n := by omega
      have hs := sumTo_lt f k
      obtain ⟨s, hs0⟩ : ∃ x, sumTo f k = x := ⟨_, rfl⟩
      rw [hs0] at hs ⊢
      replace hs0 := Lib.hid hs0
      have H1 := Lib.hid (HW.out 30 (by decide) s hs)
      go_wp2_with fail
      refine (H1.out f wr h).mono ?_
      rintro e w1 ⟨⟨v, rfl⟩, hH1, hG1⟩
      clear h
      obtain ⟨s', hs'⟩ : ∃ x, x = 65535 - s := ⟨_, rfl⟩
      have hs3 : s' < 65536 := by omega
      have hno : bits .xor .u16 IntKind.u16.max (s : Int) = (s' : Nat) := (not16 s hs).trans (by rw [hs'])
      have H2 := Lib.hid (HW.out 28 (by decide) s' hs3)
      replace hs' := Lib.hid hs'
      clear hs H1 hs3
      go_wp2_with fail
      refine (H2.out _ w1 hH1).mono ?_
      rintro e w2 ⟨⟨v2, rfl⟩, hH2, hG2⟩
      have hs2 := hs'.out
      subst hs2
      go_wp2_with fail
      refine bodyPost_end (results_none rfl _ _ _) rfl ⟨⟨_, rfl⟩, ?_, only_trans hG1 hG2⟩
      rw [hs0.out]
      exact hH2
end Go.Proofs.Ytggjaoihfhianaa
