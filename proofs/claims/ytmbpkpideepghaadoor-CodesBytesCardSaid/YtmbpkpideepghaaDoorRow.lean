/-
  The document's rows of codes, its signs of modes, its widths and uses.
-/
import Derived.Test.YtmbpkpideepghaaDoorPart
namespace Go.Proofs.YtmbpkpideepghaaDoor
open Go.RowKit
set_option maxRecDepth 1000000
set_option maxHeartbeats 4000000
set_option linter.unusedVariables false

def bytesN (l : List Nat) : ByteArray := ⟨(l.map UInt8.ofNat).toArray⟩
def row0 : List Nat := [66, 82, 75, 32, 115, 105, 103, 124, 79, 82, 65, 32, 40, 100, 44, 120, 41, 124, 67, 79, 80, 32, 115, 105, 103, 124, 79, 82, 65, 32, 100, 44, 115, 124, 84, 83, 66, 32, 100, 124, 79, 82, 65, 32, 100, 124, 65, 83, 76, 32, 100, 124, 79, 82, 65, 32, 91, 100, 93, 124, 80, 72, 80, 124, 79, 82, 65, 32, 35, 124, 65, 83, 76, 32, 65, 124, 80, 72, 68, 124, 84, 83, 66, 32, 97, 124, 79, 82, 65, 32, 97, 124, 65, 83, 76, 32, 97, 124, 79, 82, 65, 32, 108]
def row1 : List Nat := [66, 80, 76, 32, 114, 124, 79, 82, 65, 32, 40, 100, 41, 44, 121, 124, 79, 82, 65, 32, 40, 100, 41, 124, 79, 82, 65, 32, 40, 100, 44, 115, 41, 44, 121, 124, 84, 82, 66, 32, 100, 124, 79, 82, 65, 32, 100, 44, 120, 124, 65, 83, 76, 32, 100, 44, 120, 124, 79, 82, 65, 32, 91, 100, 93, 44, 121, 124, 67, 76, 67, 124, 79, 82, 65, 32, 97, 44, 121, 124, 73, 78, 67, 32, 65, 124, 84, 67, 83, 124, 84, 82, 66, 32, 97, 124, 79, 82, 65, 32, 97, 44, 120, 124, 65, 83, 76, 32, 97, 44, 120, 124, 79, 82, 65, 32, 108, 44, 120]
def row2 : List Nat := [74, 83, 82, 32, 97, 124, 65, 78, 68, 32, 40, 100, 44, 120, 41, 124, 74, 83, 76, 32, 108, 124, 65, 78, 68, 32, 100, 44, 115, 124, 66, 73, 84, 32, 100, 124, 65, 78, 68, 32, 100, 124, 82, 79, 76, 32, 100, 124, 65, 78, 68, 32, 91, 100, 93, 124, 80, 76, 80, 124, 65, 78, 68, 32, 35, 124, 82, 79, 76, 32, 65, 124, 80, 76, 68, 124, 66, 73, 84, 32, 97, 124, 65, 78, 68, 32, 97, 124, 82, 79, 76, 32, 97, 124, 65, 78, 68, 32, 108]
def row3 : List Nat := [66, 77, 73, 32, 114, 124, 65, 78, 68, 32, 40, 100, 41, 44, 121, 124, 65, 78, 68, 32, 40, 100, 41, 124, 65, 78, 68, 32, 40, 100, 44, 115, 41, 44, 121, 124, 66, 73, 84, 32, 100, 44, 120, 124, 65, 78, 68, 32, 100, 44, 120, 124, 82, 79, 76, 32, 100, 44, 120, 124, 65, 78, 68, 32, 91, 100, 93, 44, 121, 124, 83, 69, 67, 124, 65, 78, 68, 32, 97, 44, 121, 124, 68, 69, 67, 32, 65, 124, 84, 83, 67, 124, 66, 73, 84, 32, 97, 44, 120, 124, 65, 78, 68, 32, 97, 44, 120, 124, 82, 79, 76, 32, 97, 44, 120, 124, 65, 78, 68, 32, 108, 44, 120]
def row4 : List Nat := [82, 84, 73, 124, 69, 79, 82, 32, 40, 100, 44, 120, 41, 124, 87, 68, 77, 32, 115, 105, 103, 124, 69, 79, 82, 32, 100, 44, 115, 124, 77, 86, 80, 32, 109, 118, 124, 69, 79, 82, 32, 100, 124, 76, 83, 82, 32, 100, 124, 69, 79, 82, 32, 91, 100, 93, 124, 80, 72, 65, 124, 69, 79, 82, 32, 35, 124, 76, 83, 82, 32, 65, 124, 80, 72, 75, 124, 74, 77, 80, 32, 97, 124, 69, 79, 82, 32, 97, 124, 76, 83, 82, 32, 97, 124, 69, 79, 82, 32, 108]
def row5 : List Nat := [66, 86, 67, 32, 114, 124, 69, 79, 82, 32, 40, 100, 41, 44, 121, 124, 69, 79, 82, 32, 40, 100, 41, 124, 69, 79, 82, 32, 40, 100, 44, 115, 41, 44, 121, 124, 77, 86, 78, 32, 109, 118, 124, 69, 79, 82, 32, 100, 44, 120, 124, 76, 83, 82, 32, 100, 44, 120, 124, 69, 79, 82, 32, 91, 100, 93, 44, 121, 124, 67, 76, 73, 124, 69, 79, 82, 32, 97, 44, 121, 124, 80, 72, 89, 124, 84, 67, 68, 124, 74, 77, 76, 32, 108, 124, 69, 79, 82, 32, 97, 44, 120, 124, 76, 83, 82, 32, 97, 44, 120, 124, 69, 79, 82, 32, 108, 44, 120]
def row6 : List Nat := [82, 84, 83, 124, 65, 68, 67, 32, 40, 100, 44, 120, 41, 124, 80, 69, 82, 32, 114, 108, 124, 65, 68, 67, 32, 100, 44, 115, 124, 83, 84, 90, 32, 100, 124, 65, 68, 67, 32, 100, 124, 82, 79, 82, 32, 100, 124, 65, 68, 67, 32, 91, 100, 93, 124, 80, 76, 65, 124, 65, 68, 67, 32, 35, 124, 82, 79, 82, 32, 65, 124, 82, 84, 76, 124, 74, 77, 80, 32, 40, 97, 41, 124, 65, 68, 67, 32, 97, 124, 82, 79, 82, 32, 97, 124, 65, 68, 67, 32, 108]
def row7 : List Nat := [66, 86, 83, 32, 114, 124, 65, 68, 67, 32, 40, 100, 41, 44, 121, 124, 65, 68, 67, 32, 40, 100, 41, 124, 65, 68, 67, 32, 40, 100, 44, 115, 41, 44, 121, 124, 83, 84, 90, 32, 100, 44, 120, 124, 65, 68, 67, 32, 100, 44, 120, 124, 82, 79, 82, 32, 100, 44, 120, 124, 65, 68, 67, 32, 91, 100, 93, 44, 121, 124, 83, 69, 73, 124, 65, 68, 67, 32, 97, 44, 121, 124, 80, 76, 89, 124, 84, 68, 67, 124, 74, 77, 80, 32, 40, 97, 44, 120, 41, 124, 65, 68, 67, 32, 97, 44, 120, 124, 82, 79, 82, 32, 97, 44, 120, 124, 65, 68, 67, 32, 108, 44, 120]
def row8 : List Nat := [66, 82, 65, 32, 114, 124, 83, 84, 65, 32, 40, 100, 44, 120, 41, 124, 66, 82, 76, 32, 114, 108, 124, 83, 84, 65, 32, 100, 44, 115, 124, 83, 84, 89, 32, 100, 124, 83, 84, 65, 32, 100, 124, 83, 84, 88, 32, 100, 124, 83, 84, 65, 32, 91, 100, 93, 124, 68, 69, 89, 124, 66, 73, 84, 32, 35, 124, 84, 88, 65, 124, 80, 72, 66, 124, 83, 84, 89, 32, 97, 124, 83, 84, 65, 32, 97, 124, 83, 84, 88, 32, 97, 124, 83, 84, 65, 32, 108]
def row9 : List Nat := [66, 67, 67, 32, 114, 124, 83, 84, 65, 32, 40, 100, 41, 44, 121, 124, 83, 84, 65, 32, 40, 100, 41, 124, 83, 84, 65, 32, 40, 100, 44, 115, 41, 44, 121, 124, 83, 84, 89, 32, 100, 44, 120, 124, 83, 84, 65, 32, 100, 44, 120, 124, 83, 84, 88, 32, 100, 44, 121, 124, 83, 84, 65, 32, 91, 100, 93, 44, 121, 124, 84, 89, 65, 124, 83, 84, 65, 32, 97, 44, 121, 124, 84, 88, 83, 124, 84, 88, 89, 124, 83, 84, 90, 32, 97, 124, 83, 84, 65, 32, 97, 44, 120, 124, 83, 84, 90, 32, 97, 44, 120, 124, 83, 84, 65, 32, 108, 44, 120]
def row10 : List Nat := [76, 68, 89, 32, 35, 124, 76, 68, 65, 32, 40, 100, 44, 120, 41, 124, 76, 68, 88, 32, 35, 124, 76, 68, 65, 32, 100, 44, 115, 124, 76, 68, 89, 32, 100, 124, 76, 68, 65, 32, 100, 124, 76, 68, 88, 32, 100, 124, 76, 68, 65, 32, 91, 100, 93, 124, 84, 65, 89, 124, 76, 68, 65, 32, 35, 124, 84, 65, 88, 124, 80, 76, 66, 124, 76, 68, 89, 32, 97, 124, 76, 68, 65, 32, 97, 124, 76, 68, 88, 32, 97, 124, 76, 68, 65, 32, 108]
def row11 : List Nat := [66, 67, 83, 32, 114, 124, 76, 68, 65, 32, 40, 100, 41, 44, 121, 124, 76, 68, 65, 32, 40, 100, 41, 124, 76, 68, 65, 32, 40, 100, 44, 115, 41, 44, 121, 124, 76, 68, 89, 32, 100, 44, 120, 124, 76, 68, 65, 32, 100, 44, 120, 124, 76, 68, 88, 32, 100, 44, 121, 124, 76, 68, 65, 32, 91, 100, 93, 44, 121, 124, 67, 76, 86, 124, 76, 68, 65, 32, 97, 44, 121, 124, 84, 83, 88, 124, 84, 89, 88, 124, 76, 68, 89, 32, 97, 44, 120, 124, 76, 68, 65, 32, 97, 44, 120, 124, 76, 68, 88, 32, 97, 44, 121, 124, 76, 68, 65, 32, 108, 44, 120]
def row12 : List Nat := [67, 80, 89, 32, 35, 124, 67, 77, 80, 32, 40, 100, 44, 120, 41, 124, 82, 69, 80, 32, 35, 124, 67, 77, 80, 32, 100, 44, 115, 124, 67, 80, 89, 32, 100, 124, 67, 77, 80, 32, 100, 124, 68, 69, 67, 32, 100, 124, 67, 77, 80, 32, 91, 100, 93, 124, 73, 78, 89, 124, 67, 77, 80, 32, 35, 124, 68, 69, 88, 124, 87, 65, 73, 124, 67, 80, 89, 32, 97, 124, 67, 77, 80, 32, 97, 124, 68, 69, 67, 32, 97, 124, 67, 77, 80, 32, 108]
def row13 : List Nat := [66, 78, 69, 32, 114, 124, 67, 77, 80, 32, 40, 100, 41, 44, 121, 124, 67, 77, 80, 32, 40, 100, 41, 124, 67, 77, 80, 32, 40, 100, 44, 115, 41, 44, 121, 124, 80, 69, 73, 32, 40, 100, 41, 124, 67, 77, 80, 32, 100, 44, 120, 124, 68, 69, 67, 32, 100, 44, 120, 124, 67, 77, 80, 32, 91, 100, 93, 44, 121, 124, 67, 76, 68, 124, 67, 77, 80, 32, 97, 44, 121, 124, 80, 72, 88, 124, 83, 84, 80, 124, 74, 77, 76, 32, 91, 97, 93, 124, 67, 77, 80, 32, 97, 44, 120, 124, 68, 69, 67, 32, 97, 44, 120, 124, 67, 77, 80, 32, 108, 44, 120]
def row14 : List Nat := [67, 80, 88, 32, 35, 124, 83, 66, 67, 32, 40, 100, 44, 120, 41, 124, 83, 69, 80, 32, 35, 124, 83, 66, 67, 32, 100, 44, 115, 124, 67, 80, 88, 32, 100, 124, 83, 66, 67, 32, 100, 124, 73, 78, 67, 32, 100, 124, 83, 66, 67, 32, 91, 100, 93, 124, 73, 78, 88, 124, 83, 66, 67, 32, 35, 124, 78, 79, 80, 124, 88, 66, 65, 124, 67, 80, 88, 32, 97, 124, 83, 66, 67, 32, 97, 124, 73, 78, 67, 32, 97, 124, 83, 66, 67, 32, 108]
def row15 : List Nat := [66, 69, 81, 32, 114, 124, 83, 66, 67, 32, 40, 100, 41, 44, 121, 124, 83, 66, 67, 32, 40, 100, 41, 124, 83, 66, 67, 32, 40, 100, 44, 115, 41, 44, 121, 124, 80, 69, 65, 32, 119, 124, 83, 66, 67, 32, 100, 44, 120, 124, 73, 78, 67, 32, 100, 44, 120, 124, 83, 66, 67, 32, 91, 100, 93, 44, 121, 124, 83, 69, 68, 124, 83, 66, 67, 32, 97, 44, 121, 124, 80, 76, 88, 124, 88, 67, 69, 124, 74, 83, 82, 32, 40, 97, 44, 120, 41, 124, 83, 66, 67, 32, 97, 44, 120, 124, 73, 78, 67, 32, 97, 44, 120, 124, 83, 66, 67, 32, 108, 44, 120]
def signN : List Nat := [124, 65, 124, 35, 124, 114, 124, 114, 108, 124, 100, 124, 100, 44, 120, 124, 100, 44, 121, 124, 40, 100, 41, 124, 91, 100, 93, 124, 40, 100, 44, 120, 41, 124, 40, 100, 41, 44, 121, 124, 91, 100, 93, 44, 121, 124, 97, 124, 97, 44, 120, 124, 97, 44, 121, 124, 108, 124, 108, 44, 120, 124, 40, 97, 41, 124, 91, 97, 93, 124, 40, 97, 44, 120, 41, 124, 100, 44, 115, 124, 40, 100, 44, 115, 41, 44, 121, 124, 109, 118, 124, 115, 105, 103, 124, 119]
def allM : List Nat := [79, 82, 65, 32, 65, 78, 68, 32, 69, 79, 82, 32, 65, 68, 67, 32, 83, 84, 65, 32, 76, 68, 65, 32, 67, 77, 80, 32, 83, 66, 67, 32, 66, 73, 84, 32, 65, 83, 76, 32, 82, 79, 76, 32, 76, 83, 82, 32, 82, 79, 82, 32, 73, 78, 67, 32, 68, 69, 67, 32, 84, 83, 66, 32, 84, 82, 66, 32, 83, 84, 90]
def allX : List Nat := [76, 68, 88, 32, 76, 68, 89, 32, 83, 84, 88, 32, 83, 84, 89, 32, 67, 80, 88, 32, 67, 80, 89]
def allW : List Nat := [83, 84, 65, 32, 83, 84, 88, 32, 83, 84, 89, 32, 83, 84, 90]
def allC : List Nat := [65, 83, 76, 32, 82, 79, 76, 32, 76, 83, 82, 32, 82, 79, 82, 32, 73, 78, 67, 32, 68, 69, 67, 32, 84, 83, 66, 32, 84, 82, 66]
def rowN (k : Nat) : List Nat := if k = 0 then row0 else if k = 1 then row1 else if k = 2 then row2 else if k = 3 then row3 else if k = 4 then row4 else if k = 5 then row5 else if k = 6 then row6 else if k = 7 then row7 else if k = 8 then row8 else if k = 9 then row9 else if k = 10 then row10 else if k = 11 then row11 else if k = 12 then row12 else if k = 13 then row13 else if k = 14 then row14 else row15
/-- A text of the program is the list of its bytes. -/
theorem text_of {S : ByteArray} {l : List Nat} (h : S.data.toList.map UInt8.toNat = l) : S = bytesN l := bytes_of h
theorem row_0 (w : World) : Calls Tryd.prog 31 #[.int .i64 0] w fun e w' => e = .returned (.string (bytesN row0)) ∧ w = w' := by
  have key : ∀ S : ByteArray, S.data.toList.map UInt8.toNat = row0 → Value.string S = Value.string (bytesN row0) := fun S h => by rw [text_of h]
  go_enter Tryd.func31, Tryd.ntmps31
  go_upto_region 3 with (fail)
  show Code.wp _ (Code.region _ #[{ dst := _, op := Op.assign (Operand.const (Value.string ?b)), type := _, pos := _, after := _, guard := _ }] _) _ _ _
  generalize hb : ?b = S
  have hl := key S (by rw [← hb]; decide +kernel)
  replace hb := Lib.hid hb
  replace hl := Lib.hid hl
  clear key
  go_wp2_with fail
  go_ret
  exact ⟨congrArg _ hl.out, rfl⟩
theorem row_1 (w : World) : Calls Tryd.prog 31 #[.int .i64 1] w fun e w' => e = .returned (.string (bytesN row1)) ∧ w = w' := by
  have key : ∀ S : ByteArray, S.data.toList.map UInt8.toNat = row1 → Value.string S = Value.string (bytesN row1) := fun S h => by rw [text_of h]
  go_enter Tryd.func31, Tryd.ntmps31
  go_upto_region 5 with (fail)
  show Code.wp _ (Code.region _ #[{ dst := _, op := Op.assign (Operand.const (Value.string ?b)), type := _, pos := _, after := _, guard := _ }] _) _ _ _
  generalize hb : ?b = S
  have hl := key S (by rw [← hb]; decide +kernel)
  replace hb := Lib.hid hb
  replace hl := Lib.hid hl
  clear key
  go_wp2_with fail
  go_ret
  exact ⟨congrArg _ hl.out, rfl⟩
theorem row_2 (w : World) : Calls Tryd.prog 31 #[.int .i64 2] w fun e w' => e = .returned (.string (bytesN row2)) ∧ w = w' := by
  have key : ∀ S : ByteArray, S.data.toList.map UInt8.toNat = row2 → Value.string S = Value.string (bytesN row2) := fun S h => by rw [text_of h]
  go_enter Tryd.func31, Tryd.ntmps31
  go_upto_region 7 with (fail)
  show Code.wp _ (Code.region _ #[{ dst := _, op := Op.assign (Operand.const (Value.string ?b)), type := _, pos := _, after := _, guard := _ }] _) _ _ _
  generalize hb : ?b = S
  have hl := key S (by rw [← hb]; decide +kernel)
  replace hb := Lib.hid hb
  replace hl := Lib.hid hl
  clear key
  go_wp2_with fail
  go_ret
  exact ⟨congrArg _ hl.out, rfl⟩
theorem row_3 (w : World) : Calls Tryd.prog 31 #[.int .i64 3] w fun e w' => e = .returned (.string (bytesN row3)) ∧ w = w' := by
  have key : ∀ S : ByteArray, S.data.toList.map UInt8.toNat = row3 → Value.string S = Value.string (bytesN row3) := fun S h => by rw [text_of h]
  go_enter Tryd.func31, Tryd.ntmps31
  go_upto_region 9 with (fail)
  show Code.wp _ (Code.region _ #[{ dst := _, op := Op.assign (Operand.const (Value.string ?b)), type := _, pos := _, after := _, guard := _ }] _) _ _ _
  generalize hb : ?b = S
  have hl := key S (by rw [← hb]; decide +kernel)
  replace hb := Lib.hid hb
  replace hl := Lib.hid hl
  clear key
  go_wp2_with fail
  go_ret
  exact ⟨congrArg _ hl.out, rfl⟩
theorem row_4 (w : World) : Calls Tryd.prog 31 #[.int .i64 4] w fun e w' => e = .returned (.string (bytesN row4)) ∧ w = w' := by
  have key : ∀ S : ByteArray, S.data.toList.map UInt8.toNat = row4 → Value.string S = Value.string (bytesN row4) := fun S h => by rw [text_of h]
  go_enter Tryd.func31, Tryd.ntmps31
  go_upto_region 11 with (fail)
  show Code.wp _ (Code.region _ #[{ dst := _, op := Op.assign (Operand.const (Value.string ?b)), type := _, pos := _, after := _, guard := _ }] _) _ _ _
  generalize hb : ?b = S
  have hl := key S (by rw [← hb]; decide +kernel)
  replace hb := Lib.hid hb
  replace hl := Lib.hid hl
  clear key
  go_wp2_with fail
  go_ret
  exact ⟨congrArg _ hl.out, rfl⟩
theorem row_5 (w : World) : Calls Tryd.prog 31 #[.int .i64 5] w fun e w' => e = .returned (.string (bytesN row5)) ∧ w = w' := by
  have key : ∀ S : ByteArray, S.data.toList.map UInt8.toNat = row5 → Value.string S = Value.string (bytesN row5) := fun S h => by rw [text_of h]
  go_enter Tryd.func31, Tryd.ntmps31
  go_upto_region 13 with (fail)
  show Code.wp _ (Code.region _ #[{ dst := _, op := Op.assign (Operand.const (Value.string ?b)), type := _, pos := _, after := _, guard := _ }] _) _ _ _
  generalize hb : ?b = S
  have hl := key S (by rw [← hb]; decide +kernel)
  replace hb := Lib.hid hb
  replace hl := Lib.hid hl
  clear key
  go_wp2_with fail
  go_ret
  exact ⟨congrArg _ hl.out, rfl⟩
theorem row_6 (w : World) : Calls Tryd.prog 31 #[.int .i64 6] w fun e w' => e = .returned (.string (bytesN row6)) ∧ w = w' := by
  have key : ∀ S : ByteArray, S.data.toList.map UInt8.toNat = row6 → Value.string S = Value.string (bytesN row6) := fun S h => by rw [text_of h]
  go_enter Tryd.func31, Tryd.ntmps31
  go_upto_region 15 with (fail)
  show Code.wp _ (Code.region _ #[{ dst := _, op := Op.assign (Operand.const (Value.string ?b)), type := _, pos := _, after := _, guard := _ }] _) _ _ _
  generalize hb : ?b = S
  have hl := key S (by rw [← hb]; decide +kernel)
  replace hb := Lib.hid hb
  replace hl := Lib.hid hl
  clear key
  go_wp2_with fail
  go_ret
  exact ⟨congrArg _ hl.out, rfl⟩
theorem row_7 (w : World) : Calls Tryd.prog 31 #[.int .i64 7] w fun e w' => e = .returned (.string (bytesN row7)) ∧ w = w' := by
  have key : ∀ S : ByteArray, S.data.toList.map UInt8.toNat = row7 → Value.string S = Value.string (bytesN row7) := fun S h => by rw [text_of h]
  go_enter Tryd.func31, Tryd.ntmps31
  go_upto_region 17 with (fail)
  show Code.wp _ (Code.region _ #[{ dst := _, op := Op.assign (Operand.const (Value.string ?b)), type := _, pos := _, after := _, guard := _ }] _) _ _ _
  generalize hb : ?b = S
  have hl := key S (by rw [← hb]; decide +kernel)
  replace hb := Lib.hid hb
  replace hl := Lib.hid hl
  clear key
  go_wp2_with fail
  go_ret
  exact ⟨congrArg _ hl.out, rfl⟩
theorem row_8 (w : World) : Calls Tryd.prog 31 #[.int .i64 8] w fun e w' => e = .returned (.string (bytesN row8)) ∧ w = w' := by
  have key : ∀ S : ByteArray, S.data.toList.map UInt8.toNat = row8 → Value.string S = Value.string (bytesN row8) := fun S h => by rw [text_of h]
  go_enter Tryd.func31, Tryd.ntmps31
  go_upto_region 19 with (fail)
  show Code.wp _ (Code.region _ #[{ dst := _, op := Op.assign (Operand.const (Value.string ?b)), type := _, pos := _, after := _, guard := _ }] _) _ _ _
  generalize hb : ?b = S
  have hl := key S (by rw [← hb]; decide +kernel)
  replace hb := Lib.hid hb
  replace hl := Lib.hid hl
  clear key
  go_wp2_with fail
  go_ret
  exact ⟨congrArg _ hl.out, rfl⟩
theorem row_9 (w : World) : Calls Tryd.prog 31 #[.int .i64 9] w fun e w' => e = .returned (.string (bytesN row9)) ∧ w = w' := by
  have key : ∀ S : ByteArray, S.data.toList.map UInt8.toNat = row9 → Value.string S = Value.string (bytesN row9) := fun S h => by rw [text_of h]
  go_enter Tryd.func31, Tryd.ntmps31
  go_upto_region 21 with (fail)
  show Code.wp _ (Code.region _ #[{ dst := _, op := Op.assign (Operand.const (Value.string ?b)), type := _, pos := _, after := _, guard := _ }] _) _ _ _
  generalize hb : ?b = S
  have hl := key S (by rw [← hb]; decide +kernel)
  replace hb := Lib.hid hb
  replace hl := Lib.hid hl
  clear key
  go_wp2_with fail
  go_ret
  exact ⟨congrArg _ hl.out, rfl⟩
theorem row_10 (w : World) : Calls Tryd.prog 31 #[.int .i64 10] w fun e w' => e = .returned (.string (bytesN row10)) ∧ w = w' := by
  have key : ∀ S : ByteArray, S.data.toList.map UInt8.toNat = row10 → Value.string S = Value.string (bytesN row10) := fun S h => by rw [text_of h]
  go_enter Tryd.func31, Tryd.ntmps31
  go_upto_region 23 with (fail)
  show Code.wp _ (Code.region _ #[{ dst := _, op := Op.assign (Operand.const (Value.string ?b)), type := _, pos := _, after := _, guard := _ }] _) _ _ _
  generalize hb : ?b = S
  have hl := key S (by rw [← hb]; decide +kernel)
  replace hb := Lib.hid hb
  replace hl := Lib.hid hl
  clear key
  go_wp2_with fail
  go_ret
  exact ⟨congrArg _ hl.out, rfl⟩
theorem row_11 (w : World) : Calls Tryd.prog 31 #[.int .i64 11] w fun e w' => e = .returned (.string (bytesN row11)) ∧ w = w' := by
  have key : ∀ S : ByteArray, S.data.toList.map UInt8.toNat = row11 → Value.string S = Value.string (bytesN row11) := fun S h => by rw [text_of h]
  go_enter Tryd.func31, Tryd.ntmps31
  go_upto_region 25 with (fail)
  show Code.wp _ (Code.region _ #[{ dst := _, op := Op.assign (Operand.const (Value.string ?b)), type := _, pos := _, after := _, guard := _ }] _) _ _ _
  generalize hb : ?b = S
  have hl := key S (by rw [← hb]; decide +kernel)
  replace hb := Lib.hid hb
  replace hl := Lib.hid hl
  clear key
  go_wp2_with fail
  go_ret
  exact ⟨congrArg _ hl.out, rfl⟩
theorem row_12 (w : World) : Calls Tryd.prog 31 #[.int .i64 12] w fun e w' => e = .returned (.string (bytesN row12)) ∧ w = w' := by
  have key : ∀ S : ByteArray, S.data.toList.map UInt8.toNat = row12 → Value.string S = Value.string (bytesN row12) := fun S h => by rw [text_of h]
  go_enter Tryd.func31, Tryd.ntmps31
  go_upto_region 27 with (fail)
  show Code.wp _ (Code.region _ #[{ dst := _, op := Op.assign (Operand.const (Value.string ?b)), type := _, pos := _, after := _, guard := _ }] _) _ _ _
  generalize hb : ?b = S
  have hl := key S (by rw [← hb]; decide +kernel)
  replace hb := Lib.hid hb
  replace hl := Lib.hid hl
  clear key
  go_wp2_with fail
  go_ret
  exact ⟨congrArg _ hl.out, rfl⟩
theorem row_13 (w : World) : Calls Tryd.prog 31 #[.int .i64 13] w fun e w' => e = .returned (.string (bytesN row13)) ∧ w = w' := by
  have key : ∀ S : ByteArray, S.data.toList.map UInt8.toNat = row13 → Value.string S = Value.string (bytesN row13) := fun S h => by rw [text_of h]
  go_enter Tryd.func31, Tryd.ntmps31
  go_upto_region 29 with (fail)
  show Code.wp _ (Code.region _ #[{ dst := _, op := Op.assign (Operand.const (Value.string ?b)), type := _, pos := _, after := _, guard := _ }] _) _ _ _
  generalize hb : ?b = S
  have hl := key S (by rw [← hb]; decide +kernel)
  replace hb := Lib.hid hb
  replace hl := Lib.hid hl
  clear key
  go_wp2_with fail
  go_ret
  exact ⟨congrArg _ hl.out, rfl⟩
theorem row_14 (w : World) : Calls Tryd.prog 31 #[.int .i64 14] w fun e w' => e = .returned (.string (bytesN row14)) ∧ w = w' := by
  have key : ∀ S : ByteArray, S.data.toList.map UInt8.toNat = row14 → Value.string S = Value.string (bytesN row14) := fun S h => by rw [text_of h]
  go_enter Tryd.func31, Tryd.ntmps31
  go_upto_region 31 with (fail)
  show Code.wp _ (Code.region _ #[{ dst := _, op := Op.assign (Operand.const (Value.string ?b)), type := _, pos := _, after := _, guard := _ }] _) _ _ _
  generalize hb : ?b = S
  have hl := key S (by rw [← hb]; decide +kernel)
  replace hb := Lib.hid hb
  replace hl := Lib.hid hl
  clear key
  go_wp2_with fail
  go_ret
  exact ⟨congrArg _ hl.out, rfl⟩
theorem row_15 (w : World) : Calls Tryd.prog 31 #[.int .i64 15] w fun e w' => e = .returned (.string (bytesN row15)) ∧ w = w' := by
  have key : ∀ S : ByteArray, S.data.toList.map UInt8.toNat = row15 → Value.string S = Value.string (bytesN row15) := fun S h => by rw [text_of h]
  go_enter Tryd.func31, Tryd.ntmps31
  go_upto_region 33 with (fail)
  show Code.wp _ (Code.region _ #[{ dst := _, op := Op.assign (Operand.const (Value.string ?b)), type := _, pos := _, after := _, guard := _ }] _) _ _ _
  generalize hb : ?b = S
  have hl := key S (by rw [← hb]; decide +kernel)
  replace hb := Lib.hid hb
  replace hl := Lib.hid hl
  clear key
  go_wp2_with fail
  go_ret
  exact ⟨congrArg _ hl.out, rfl⟩
end Go.Proofs.YtmbpkpideepghaaDoor
