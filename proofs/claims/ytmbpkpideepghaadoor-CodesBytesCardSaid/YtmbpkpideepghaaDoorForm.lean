/-
  How a mode's operand is written.
-/
import Derived.Test.YtmbpkpideepghaaDoorDol
import Derived.Test.YtmbpkpideepghaaDoorLib
import Derived.Test.YtmbpkpideepghaaDoorLst
namespace Go.Proofs.YtmbpkpideepghaaDoor
open Go.RowKit
set_option maxRecDepth 1000000
set_option maxHeartbeats 400000
set_option linter.unusedVariables false

def formsN : List Nat := [32, 32, 32, 32, 32, 32, 32, 65, 32, 32, 32, 32, 32, 32, 35, 110, 32, 32, 32, 32, 32, 116, 32, 32, 32, 32, 32, 32, 116, 32, 32, 32, 32, 32, 32, 110, 32, 32, 32, 32, 32, 32, 110, 44, 120, 32, 32, 32, 32, 110, 44, 121, 32, 32, 32, 32, 40, 110, 41, 32, 32, 32, 32, 91, 110, 93, 32, 32, 32, 32, 40, 110, 44, 120, 41, 32, 32, 40, 110, 41, 44, 121, 32, 32, 91, 110, 93, 44, 121, 32, 32, 110, 32, 32, 32, 32, 32, 32, 110, 44, 120, 32, 32, 32, 32, 110, 44, 121, 32, 32, 32, 32, 110, 32, 32, 32, 32, 32, 32, 110, 44, 120, 32, 32, 32, 32, 40, 110, 41, 32, 32, 32, 32, 91, 110, 93, 32, 32, 32, 32, 40, 110, 44, 120, 41, 32, 32, 110, 44, 115, 32, 32, 32, 32, 40, 110, 44, 115, 41, 44, 121, 49, 44, 50, 32, 32, 32, 32, 110, 32, 32, 32, 32, 32, 32, 110, 32, 32, 32, 32, 32, 32]
def formB (m : Nat) : ByteArray := ⟨(Lib.trimRightB (((formsN.drop (7 * m)).take 7).map UInt8.ofNat) 32).toArray⟩
attribute [local irreducible] bytesN
theorem formOf_any (m : Nat) (w : World) (hm : m < 26) : Calls Tryd.prog 39 #[.int .u8 m] w fun e w' => e = .returned (.string (formB m)) ∧ w = w' := by
  have key : ∀ S : ByteArray, S = bytesN formsN → Calls Tryd.prog 50 #[Value.string (ByteArray.extract S (7 * m) (7 * m + 7)), Value.string ⟨#[32]⟩] w fun e w' => e = .returned (.string (formB m)) ∧ w' = w := by
    intro S hS
    have h := Tryd.strings_TrimRight_one (ByteArray.extract S (7 * m) (7 * m + 7)) 32 (by decide) w (by rw [hS, bytesN_extract, bytesN_size, List.length_take]; omega)
    have e : (ByteArray.extract S (7 * m) (7 * m + 7)).data.toList = ((formsN.drop (7 * m)).take 7).map UInt8.ofNat := by
      rw [hS, bytesN_extract, show 7 * m + 7 - 7 * m = 7 by omega]
      simp [bytesN]
    rw [e] at h
    exact h
  generalize formB m = q at *
  go_enter Tryd.func39, Tryd.ntmps39
  go_upto_region 2 with (fail)
  show Code.wp _ (Code.region _ #[_, _, _, { dst := _, op := Op.slice _ (Operand.const (Value.string ?lit)) _ _ _, type := _, pos := _, after := _, guard := _ }, _, _] _) _ _ _
  generalize hb : ?lit = S
  have hz : S.size = 182 := by rw [← hb]; decide +kernel
  have HT := Lib.hid (key S (text_of (by rw [← hb]; decide +kernel)))
  replace hb := Lib.hid hb
  clear key
  go_wp2_with fail
  with_reducible refine HT.out.mono ?_
  rintro e w' ⟨rfl, rfl⟩
  clear HT
  go_wp2_with fail
  go_ret
  exact ⟨rfl, rfl⟩
end Go.Proofs.YtmbpkpideepghaaDoor
