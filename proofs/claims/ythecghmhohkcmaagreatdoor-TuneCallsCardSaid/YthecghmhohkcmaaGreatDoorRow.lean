/-
  A code's row, cut out of the text.
-/
import Derived.Test.YthecghmhohkcmaaGreatDoorRowL
namespace Go.Proofs.YthecghmhohkcmaaGreatDoor
open Go.RowKit
set_option maxRecDepth 1000000
set_option maxHeartbeats 4000000
set_option linter.unusedVariables false

theorem rowOf_any (c : Nat) (w : World) (hc : c < 256) : Calls Tryz.prog 72 #[.int .u8 c] w fun e w' => e = .returned (.tuple #[.string (nmF c), .string (fmF c), .int .i64 (cyF c : Nat)]) ∧ Below w.heap.size w w' := by
  have H1 := fun s c W => Tryz.strings_IndexByte s c W
  have H2 := fun s W hs => Tryz.strings_TrimRight_one s 32 (by decide) W hs
  replace H1 := Lib.hid H1
  replace H2 := Lib.hid H2
  generalize hn : nmF c = nm
  generalize hf : fmF c = fm
  generalize hy : cyF c = cy
  replace hn := Lib.hid hn
  replace hf := Lib.hid hf
  replace hy := Lib.hid hy
  go_enter Tryz.func72, Tryz.ntmps72
  go_upto_region 1 with (fail)
  show Code.wp _ (Code.region _ #[_, _, _, { dst := _, op := Op.slice _ (Operand.const (Value.string ?b)) _ _ _, type := _, pos := _, after := _, guard := _ }, _, _] _) _ _ _
  generalize hb : ?b = S
  have hz : S.size = 2816 := by rw [← hb]; decide +kernel
  have hl : S = bsOf rowsN := bytes_of (show S.data.toList.map UInt8.toNat = rowsN by rw [← hb]; decide +kernel)
  clear hb
  replace hl := Lib.hid hl
  go_wp2_with fail
  have hR : (S.extract (11 * c) 2816).extract 0 11 = bsOf (rwL c) := by
    rw [hl.out, bsOf_extract, bsOf_extract, List.drop_zero, List.take_take, rwL]
    congr 2
    omega
  rw [rwL_is c hc] at hR
  obtain ⟨r0, r1, r2, r3, r4⟩ := rw_all c hc
  generalize rwsN.getD c [] = rw at *
  have r0' : (bsOf rw).size = 11 := by rw [bsOf_size, r0]
  have r5 : ∀ h : 9 < (bsOf rw).size, Lib.indexByte (digN.map UInt8.ofNat) (((bsOf rw)[9]'h).toNat : Int).toNat.toUInt8 = (cyF c : Int) := by
    intro h
    rw [bsOf_byte rw 9 h r4]
    exact r3
  have e1 : Lib.trimRightB ((bsOf rw).extract 0 5).data.toList 32 = (nmL c).map UInt8.ofNat := by rw [bsOf_extract, bsOf_list]; exact r1
  have e2 : Lib.trimRightB ((bsOf rw).extract 6 8).data.toList 32 = (fmL c).map UInt8.ofNat := by rw [bsOf_extract, bsOf_list]; exact r2
  rw [hR]
  clear hR r0 r1 r2 r3 r4 hl hz
  generalize bsOf rw = R at *
  have z1 : (R.extract 0 5).size ≤ 9223372036854775807 := by rw [ByteArray.size_extract]; omega
  have z2 : (R.extract 6 8).size ≤ 9223372036854775807 := by rw [ByteArray.size_extract]; omega
  have K1 : ∀ W, Calls Tryz.prog 101 #[.string ⟨#[48, 49, 50, 51, 52, 53, 54, 55, 56, 57, 65, 66, 67, 68, 69, 70]⟩, .int .u8 ((R[9]'(by omega)).toNat : Nat)] W fun e w' => e = .returned (.int .i64 cy) ∧ w' = W := by
    intro W
    rw [← hy.out]
    have h := H1.out ⟨#[48, 49, 50, 51, 52, 53, 54, 55, 56, 57, 65, 66, 67, 68, 69, 70]⟩ ((R[9]'(by omega)).toNat : Nat) W
    rw [show (⟨#[48, 49, 50, 51, 52, 53, 54, 55, 56, 57, 65, 66, 67, 68, 69, 70]⟩ : ByteArray).data.toList = digN.map UInt8.ofNat by decide +kernel, r5 (by omega)] at h
    exact h
  have K2 : ∀ W, Calls Tryz.prog 102 #[.string (R.extract 0 5), .string ⟨#[32]⟩] W fun e w' => e = .returned (.string nm) ∧ w' = W := by
    intro W
    rw [← hn.out]
    have h := H2.out (R.extract 0 5) W z1
    rw [e1] at h
    exact h
  have K3 : ∀ W, Calls Tryz.prog 102 #[.string (R.extract 6 8), .string ⟨#[32]⟩] W fun e w' => e = .returned (.string fm) ∧ w' = W := by
    intro W
    rw [← hf.out]
    have h := H2.out (R.extract 6 8) W z2
    rw [e2] at h
    exact h
  clear H1 H2 e1 e2 r5 z1 z2
  replace K1 := Lib.hid K1
  replace K2 := Lib.hid K2
  replace K3 := Lib.hid K3
  go_quiet (fail)
  go_wp2_with fail
  with_reducible refine (K1.out _).mono ?_
  rintro e w' ⟨rfl, rfl⟩
  go_wp2_with fail
  with_reducible refine (K2.out _).mono ?_
  rintro e w' ⟨rfl, rfl⟩
  go_wp2_with fail
  with_reducible refine (K3.out _).mono ?_
  rintro e w' ⟨rfl, rfl⟩
  go_wp2_with fail
  go_ret3
  exact ⟨rfl, below_drewN (Below.refl _ _) _⟩
end Go.Proofs.YthecghmhohkcmaaGreatDoor
