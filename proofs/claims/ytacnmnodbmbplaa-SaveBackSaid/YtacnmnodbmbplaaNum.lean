/-
  Numbers as bytes: their sizes, laid into a row, put together again.
-/
import Derived.Test.YtacnmnodbmbplaaAppZ
import Derived.Test.YtacnmnodbmbplaaLib
import Derived.WalkArith
namespace Go.Proofs.Ytacnmnodbmbplaa
open Go.RowKit Go.Shelf
set_option maxRecDepth 100000
set_option maxHeartbeats 1000000

theorem size_uint8 (w : World) : Calls Try.prog 85 #[] w fun e w' => e = .returned (.int .i64 1) ∧ w = w' := by
  have HL := fun W => Try.bits_Len64 255 W (by decide) (by decide)
  have hb : Lib.bitLen (255 : Int).toNat = 8 := by decide +kernel
  go_enter Try.func85, Try.ntmps85
  go_wp2_with (go_at_call 97; refine (HL _).mono ?_; rintro e w' ⟨rfl, rfl⟩; rw [hb])
  go_ret
  exact ⟨rfl, rfl⟩
theorem size_uint16 (w : World) : Calls Try.prog 87 #[] w fun e w' => e = .returned (.int .i64 2) ∧ w = w' := by
  have HL := fun W => Try.bits_Len64 65535 W (by decide) (by decide)
  have hb : Lib.bitLen (65535 : Int).toNat = 16 := by decide +kernel
  go_enter Try.func87, Try.ntmps87
  go_wp2_with (go_at_call 97; refine (HL _).mono ?_; rintro e w' ⟨rfl, rfl⟩; rw [hb])
  go_ret
  exact ⟨rfl, rfl⟩
theorem size_uint32 (w : World) : Calls Try.prog 84 #[] w fun e w' => e = .returned (.int .i64 4) ∧ w = w' := by
  have HL := fun W => Try.bits_Len64 4294967295 W (by decide) (by decide)
  have hb : Lib.bitLen (4294967295 : Int).toNat = 32 := by decide +kernel
  go_enter Try.func84, Try.ntmps84
  go_wp2_with (go_at_call 97; refine (HL _).mono ?_; rintro e w' ⟨rfl, rfl⟩; rw [hb])
  go_ret
  exact ⟨rfl, rfl⟩
theorem size_uint64 (w : World) : Calls Try.prog 89 #[] w fun e w' => e = .returned (.int .i64 8) ∧ w = w' := by
  have HL := fun W => Try.bits_Len64 18446744073709551615 W (by decide) (by decide)
  have hb : Lib.bitLen (18446744073709551615 : Int).toNat = 64 := by decide +kernel
  go_enter Try.func89, Try.ntmps89
  go_wp2_with (go_at_call 97; refine (HL _).mono ?_; rintro e w' ⟨rfl, rfl⟩; rw [hb])
  go_ret
  exact ⟨rfl, rfl⟩
end Go.Proofs.Ytacnmnodbmbplaa
