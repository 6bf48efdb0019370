/-
  The two tables: names and modes by the code.
-/
import Derived.Test.YtnacdaodjgdnnaaGreatMem
import Derived.Lib.QuietBelow
import Derived.Deep.DeepCutAuto
import Derived.BigQuiet
import Derived.RegionTactic
namespace Go.Proofs.YtnacdaodjgdnnaaGreat.Cd
open Go.RowKit
set_option maxRecDepth 1000000
set_option maxHeartbeats 4000000
set_option linter.unusedVariables false

/-- The letters of the modes, the names in a row, by the codes. -/
def modesN : List Nat := [121, 107, 121, 118, 102, 102, 102, 106, 97, 99, 98, 97, 110, 110, 110, 113, 100, 108, 105, 119, 102, 103, 103, 109, 97, 112, 98, 97, 110, 111, 111, 114, 110, 107, 113, 118, 102, 102, 102, 106, 97, 99, 98, 97, 110, 110, 110, 113, 100, 108, 105, 119, 103, 103, 103, 109, 97, 112, 98, 97, 111, 111, 111, 114, 97, 107, 121, 118, 120, 102, 102, 106, 97, 99, 98, 97, 110, 110, 110, 113, 100, 108, 105, 119, 120, 103, 103, 109, 97, 112, 97, 97, 113, 111, 111, 114, 97, 107, 101, 118, 102, 102, 102, 106, 97, 99, 98, 97, 115, 110, 110, 113, 100, 108, 105, 119, 103, 103, 103, 109, 97, 112, 97, 97, 117, 111, 111, 114, 100, 107, 101, 118, 102, 102, 102, 106, 97, 99, 97, 97, 110, 110, 110, 113, 100, 108, 105, 119, 103, 103, 104, 109, 97, 112, 97, 97, 110, 111, 111, 114, 99, 107, 99, 118, 102, 102, 102, 106, 97, 99, 97, 97, 110, 110, 110, 113, 100, 108, 105, 119, 103, 103, 104, 109, 97, 112, 97, 97, 111, 111, 112, 114, 99, 107, 99, 118, 102, 102, 102, 106, 97, 99, 97, 97, 110, 110, 110, 113, 100, 108, 105, 119, 105, 103, 103, 109, 97, 112, 97, 97, 116, 111, 111, 114, 99, 107, 99, 118, 102, 102, 102, 106, 97, 99, 97, 97, 110, 110, 110, 113, 100, 108, 105, 119, 122, 103, 103, 109, 97, 112, 97, 97, 117, 111, 111, 114]
def namesN : List Nat := [66, 82, 75, 32, 79, 82, 65, 32, 67, 79, 80, 32, 79, 82, 65, 32, 84, 83, 66, 32, 79, 82, 65, 32, 65, 83, 76, 32, 79, 82, 65, 32, 80, 72, 80, 32, 79, 82, 65, 32, 65, 83, 76, 32, 80, 72, 68, 32, 84, 83, 66, 32, 79, 82, 65, 32, 65, 83, 76, 32, 79, 82, 65, 32, 66, 80, 76, 32, 79, 82, 65, 32, 79, 82, 65, 32, 79, 82, 65, 32, 84, 82, 66, 32, 79, 82, 65, 32, 65, 83, 76, 32, 79, 82, 65, 32, 67, 76, 67, 32, 79, 82, 65, 32, 73, 78, 67, 32, 84, 67, 83, 32, 84, 82, 66, 32, 79, 82, 65, 32, 65, 83, 76, 32, 79, 82, 65, 32, 74, 83, 82, 32, 65, 78, 68, 32, 74, 83, 76, 32, 65, 78, 68, 32, 66, 73, 84, 32, 65, 78, 68, 32, 82, 79, 76, 32, 65, 78, 68, 32, 80, 76, 80, 32, 65, 78, 68, 32, 82, 79, 76, 32, 80, 76, 68, 32, 66, 73, 84, 32, 65, 78, 68, 32, 82, 79, 76, 32, 65, 78, 68, 32, 66, 77, 73, 32, 65, 78, 68, 32, 65, 78, 68, 32, 65, 78, 68, 32, 66, 73, 84, 32, 65, 78, 68, 32, 82, 79, 76, 32, 65, 78, 68, 32, 83, 69, 67, 32, 65, 78, 68, 32, 68, 69, 67, 32, 84, 83, 67, 32, 66, 73, 84, 32, 65, 78, 68, 32, 82, 79, 76, 32, 65, 78, 68, 32, 82, 84, 73, 32, 69, 79, 82, 32, 87, 68, 77, 32, 69, 79, 82, 32, 77, 86, 80, 32, 69, 79, 82, 32, 76, 83, 82, 32, 69, 79, 82, 32, 80, 72, 65, 32, 69, 79, 82, 32, 76, 83, 82, 32, 80, 72, 75, 32, 74, 77, 80, 32, 69, 79, 82, 32, 76, 83, 82, 32, 69, 79, 82, 32, 66, 86, 67, 32, 69, 79, 82, 32, 69, 79, 82, 32, 69, 79, 82, 32, 77, 86, 78, 32, 69, 79, 82, 32, 76, 83, 82, 32, 69, 79, 82, 32, 67, 76, 73, 32, 69, 79, 82, 32, 80, 72, 89, 32, 84, 67, 68, 32, 74, 77, 76, 32, 69, 79, 82, 32, 76, 83, 82, 32, 69, 79, 82, 32, 82, 84, 83, 32, 65, 68, 67, 32, 80, 69, 82, 32, 65, 68, 67, 32, 83, 84, 90, 32, 65, 68, 67, 32, 82, 79, 82, 32, 65, 68, 67, 32, 80, 76, 65, 32, 65, 68, 67, 32, 82, 79, 82, 32, 82, 84, 76, 32, 74, 77, 80, 32, 65, 68, 67, 32, 82, 79, 82, 32, 65, 68, 67, 32, 66, 86, 83, 32, 65, 68, 67, 32, 65, 68, 67, 32, 65, 68, 67, 32, 83, 84, 90, 32, 65, 68, 67, 32, 82, 79, 82, 32, 65, 68, 67, 32, 83, 69, 73, 32, 65, 68, 67, 32, 80, 76, 89, 32, 84, 68, 67, 32, 74, 77, 80, 32, 65, 68, 67, 32, 82, 79, 82, 32, 65, 68, 67, 32, 66, 82, 65, 32, 83, 84, 65, 32, 66, 82, 76, 32, 83, 84, 65, 32, 83, 84, 89, 32, 83, 84, 65, 32, 83, 84, 88, 32, 83, 84, 65, 32, 68, 69, 89, 32, 66, 73, 84, 32, 84, 88, 65, 32, 80, 72, 66, 32, 83, 84, 89, 32, 83, 84, 65, 32, 83, 84, 88, 32, 83, 84, 65, 32, 66, 67, 67, 32, 83, 84, 65, 32, 83, 84, 65, 32, 83, 84, 65, 32, 83, 84, 89, 32, 83, 84, 65, 32, 83, 84, 88, 32, 83, 84, 65, 32, 84, 89, 65, 32, 83, 84, 65, 32, 84, 88, 83, 32, 84, 88, 89, 32, 83, 84, 90, 32, 83, 84, 65, 32, 83, 84, 90, 32, 83, 84, 65, 32, 76, 68, 89, 32, 76, 68, 65, 32, 76, 68, 88, 32, 76, 68, 65, 32, 76, 68, 89, 32, 76, 68, 65, 32, 76, 68, 88, 32, 76, 68, 65, 32, 84, 65, 89, 32, 76, 68, 65, 32, 84, 65, 88, 32, 80, 76, 66, 32, 76, 68, 89, 32, 76, 68, 65, 32, 76, 68, 88, 32, 76, 68, 65, 32, 66, 67, 83, 32, 76, 68, 65, 32, 76, 68, 65, 32, 76, 68, 65, 32, 76, 68, 89, 32, 76, 68, 65, 32, 76, 68, 88, 32, 76, 68, 65, 32, 67, 76, 86, 32, 76, 68, 65, 32, 84, 83, 88, 32, 84, 89, 88, 32, 76, 68, 89, 32, 76, 68, 65, 32, 76, 68, 88, 32, 76, 68, 65, 32, 67, 80, 89, 32, 67, 77, 80, 32, 82, 69, 80, 32, 67, 77, 80, 32, 67, 80, 89, 32, 67, 77, 80, 32, 68, 69, 67, 32, 67, 77, 80, 32, 73, 78, 89, 32, 67, 77, 80, 32, 68, 69, 88, 32, 87, 65, 73, 32, 67, 80, 89, 32, 67, 77, 80, 32, 68, 69, 67, 32, 67, 77, 80, 32, 66, 78, 69, 32, 67, 77, 80, 32, 67, 77, 80, 32, 67, 77, 80, 32, 80, 69, 73, 32, 67, 77, 80, 32, 68, 69, 67, 32, 67, 77, 80, 32, 67, 76, 68, 32, 67, 77, 80, 32, 80, 72, 88, 32, 83, 84, 80, 32, 74, 77, 76, 32, 67, 77, 80, 32, 68, 69, 67, 32, 67, 77, 80, 32, 67, 80, 88, 32, 83, 66, 67, 32, 83, 69, 80, 32, 83, 66, 67, 32, 67, 80, 88, 32, 83, 66, 67, 32, 73, 78, 67, 32, 83, 66, 67, 32, 73, 78, 88, 32, 83, 66, 67, 32, 78, 79, 80, 32, 88, 66, 65, 32, 67, 80, 88, 32, 83, 66, 67, 32, 73, 78, 67, 32, 83, 66, 67, 32, 66, 69, 81, 32, 83, 66, 67, 32, 83, 66, 67, 32, 83, 66, 67, 32, 80, 69, 65, 32, 83, 66, 67, 32, 73, 78, 67, 32, 83, 66, 67, 32, 83, 69, 68, 32, 83, 66, 67, 32, 80, 76, 88, 32, 88, 67, 69, 32, 74, 83, 82, 32, 83, 66, 67, 32, 73, 78, 67, 32, 83, 66, 67, 32]
def modeF (c : Nat) : Nat := modesN.getD c 0 - 97
def namesB : ByteArray := ⟨(namesN.map UInt8.ofNat).toArray⟩
def nameF (c : Nat) : ByteArray := namesB.extract (4 * c) (4 * c + 3)
theorem modeF_lt (c : Nat) (hc : c < 256) : modeF c < 26 := (show ∀ c, c < 256 → modeF c < 26 by decide +kernel) c hc
theorem byte_of {S : ByteArray} {l : List Nat} (h : S.data.toList.map UInt8.toNat = l) (c : Nat) (hc : c < S.size) : S[c].toNat = l.getD c 0 := by
  subst h
  have hc' : c < S.data.toList.length := by simpa using hc
  rw [List.getD_eq_getElem?_getD, List.getElem?_map, List.getElem?_eq_getElem hc']
  simp [ByteArray.getElem_eq_getElem_data]
theorem bytes_of {S : ByteArray} {l : List Nat} (h : S.data.toList.map UInt8.toNat = l) : S = ⟨(l.map UInt8.ofNat).toArray⟩ := by
  subst h
  obtain ⟨⟨d⟩⟩ := S
  simp [List.map_map, Function.comp_def]
theorem modeOf_any (c : Nat) (w : World) (hc : c < 256) : Calls Tryz.prog 79 #[.int .u8 c] w fun e w' => e = .returned (.int .u8 (modeF c : Nat)) ∧ w = w' := by
  go_enter Tryz.func79, Tryz.ntmps79
  go_upto_region 1 with (fail)
  show Code.wp _ (Code.region _ #[_, { dst := _, op := Op.index _ (Operand.const (Value.string ?b)) _, type := _, pos := _, after := _, guard := _ }, _, _] _) _ _ _
  generalize hb : ?b = S
  have hz : S.size = 256 := by rw [← hb]; decide +kernel
  have hl : S.data.toList.map UInt8.toNat = modesN := by rw [← hb]; decide +kernel
  have hg := byte_of hl c (by omega)
  have hlo := (show ∀ c, c < 256 → 97 ≤ modesN.getD c 0 ∧ modesN.getD c 0 < 123 by decide +kernel) c hc
  have hv : ((S[c].toNat : Nat) : Int) - 97 = ((modeF c : Nat) : Int) := by
    unfold modeF
    rw [hg]
    omega
  have hv2 : (((S[c].toNat : Nat) : Int) - 97) % 256 = ((modeF c : Nat) : Int) := by
    rw [hv]
    have := modeF_lt c hc
    omega
  replace hb := Lib.hid hb
  replace hl := Lib.hid hl
  replace hg := Lib.hid hg
  replace hlo := Lib.hid hlo
  replace hv2 := Lib.hid hv2
  clear hv
  go_wp2_with fail
  rw [hv2.out]
  go_ret
  exact ⟨rfl, rfl⟩
theorem nameOf_any (c : Nat) (w : World) (hc : c < 256) : Calls Tryz.prog 78 #[.int .u8 c] w fun e w' => e = .returned (.string (nameF c)) ∧ w = w' := by
  go_enter Tryz.func78, Tryz.ntmps78
  go_upto_region 2 with (fail)
  show Code.wp _ (Code.region _ #[_, _, _, { dst := _, op := Op.slice _ (Operand.const (Value.string ?b)) _ _ _, type := _, pos := _, after := _, guard := _ }, _] _) _ _ _
  generalize hb : ?b = S
  have hz : S.size = 1024 := by rw [← hb]; decide +kernel
  have hl : S = namesB := bytes_of (show S.data.toList.map UInt8.toNat = namesN by rw [← hb]; decide +kernel)
  replace hb := Lib.hid hb
  replace hl := Lib.hid hl
  go_wp2_with fail
  rw [hl.out]
  go_ret
  exact ⟨rfl, rfl⟩
end Go.Proofs.YtnacdaodjgdnnaaGreat.Cd
namespace Go.Proofs.YtnacdaodjgdnnaaGreat.Cd
open Go.RowKit
set_option maxRecDepth 1000000
set_option maxHeartbeats 4000000
set_option linter.unusedVariables false

def namesM : List (List UInt8) := [[79, 82, 65], [65, 78, 68], [69, 79, 82], [65, 68, 67], [83, 84, 65], [76, 68, 65], [67, 77, 80], [83, 66, 67], [66, 73, 84], [65, 83, 76], [82, 79, 76], [76, 83, 82], [82, 79, 82], [73, 78, 67], [68, 69, 67], [84, 83, 66], [84, 82, 66], [83, 84, 90]]
def namesX : List (List UInt8) := [[76, 68, 88], [76, 68, 89], [83, 84, 88], [83, 84, 89], [67, 80, 88], [67, 80, 89]]
def namesW : List (List UInt8) := [[82, 69, 80], [83, 69, 80]]
def namesR : List (List UInt8) := [[79, 82, 65], [65, 78, 68], [69, 79, 82], [65, 68, 67], [76, 68, 65], [67, 77, 80], [83, 66, 67], [66, 73, 84], [76, 68, 88], [76, 68, 89], [67, 80, 88], [67, 80, 89]]
def namesS : List (List UInt8) := [[83, 84, 65], [83, 84, 88], [83, 84, 89], [83, 84, 90]]
def namesC : List (List UInt8) := [[65, 83, 76], [82, 79, 76], [76, 83, 82], [82, 79, 82], [73, 78, 67], [68, 69, 67], [84, 83, 66], [84, 82, 66]]
def widthF (l : List UInt8) : Nat := if l ∈ namesM then 1 else if l ∈ namesX then 2 else if l ∈ namesW then 3 else 0
def useF (l : List UInt8) (m : Nat) : Nat := if m = 0 ∨ m = 1 ∨ m = 2 then 0 else if l ∈ namesR then 1 else if l ∈ namesS then 2 else if l ∈ namesC then 3 else 0
theorem eqb_false {l : List UInt8} {x : List UInt8} {ls : List (List UInt8)} (h : l ∉ ls) (hx : x ∈ ls) : (l == x) = false := by
  rw [beq_eq_false_iff_ne]
  exact fun e => h (e ▸ hx)
def namesMXW : List (List UInt8) := [[79, 82, 65], [65, 78, 68], [69, 79, 82], [65, 68, 67], [83, 84, 65], [76, 68, 65], [67, 77, 80], [83, 66, 67], [66, 73, 84], [65, 83, 76], [82, 79, 76], [76, 83, 82], [82, 79, 82], [73, 78, 67], [68, 69, 67], [84, 83, 66], [84, 82, 66], [83, 84, 90], [76, 68, 88], [76, 68, 89], [83, 84, 88], [83, 84, 89], [67, 80, 88], [67, 80, 89], [82, 69, 80], [83, 69, 80]]
theorem widthOf_any (s : ByteArray) (w : World) : Calls Tryz.prog 81 #[.string s] w fun e w' => e = .returned (.int .u8 (widthF s.toList : Nat)) ∧ w = w' := by
  generalize hl : s.toList = l
  by_cases h : l ∈ namesMXW
  · unfold namesMXW at h
    simp only [List.mem_cons, List.not_mem_nil, or_false] at h
    rcases h with rfl | rfl | rfl | rfl | rfl | rfl | rfl | rfl | rfl | rfl | rfl | rfl | rfl | rfl | rfl | rfl | rfl | rfl | rfl | rfl | rfl | rfl | rfl | rfl | rfl | rfl
    all_goals
      go_enter Tryz.func81, Tryz.ntmps81
      go_wp2_with fail
      go_ret
      exact ⟨rfl, rfl⟩
  have h0 : (l == [79, 82, 65]) = false := eqb_false h (by decide)
  have h1 : (l == [65, 78, 68]) = false := eqb_false h (by decide)
  have h2 : (l == [69, 79, 82]) = false := eqb_false h (by decide)
  have h3 : (l == [65, 68, 67]) = false := eqb_false h (by decide)
  have h4 : (l == [83, 84, 65]) = false := eqb_false h (by decide)
  have h5 : (l == [76, 68, 65]) = false := eqb_false h (by decide)
  have h6 : (l == [67, 77, 80]) = false := eqb_false h (by decide)
  have h7 : (l == [83, 66, 67]) = false := eqb_false h (by decide)
  have h8 : (l == [66, 73, 84]) = false := eqb_false h (by decide)
  have h9 : (l == [65, 83, 76]) = false := eqb_false h (by decide)
  have h10 : (l == [82, 79, 76]) = false := eqb_false h (by decide)
  have h11 : (l == [76, 83, 82]) = false := eqb_false h (by decide)
  have h12 : (l == [82, 79, 82]) = false := eqb_false h (by decide)
  have h13 : (l == [73, 78, 67]) = false := eqb_false h (by decide)
  have h14 : (l == [68, 69, 67]) = false := eqb_false h (by decide)
  have h15 : (l == [84, 83, 66]) = false := eqb_false h (by decide)
  have h16 : (l == [84, 82, 66]) = false := eqb_false h (by decide)
  have h17 : (l == [83, 84, 90]) = false := eqb_false h (by decide)
  have h18 : (l == [76, 68, 88]) = false := eqb_false h (by decide)
  have h19 : (l == [76, 68, 89]) = false := eqb_false h (by decide)
  have h20 : (l == [83, 84, 88]) = false := eqb_false h (by decide)
  have h21 : (l == [83, 84, 89]) = false := eqb_false h (by decide)
  have h22 : (l == [67, 80, 88]) = false := eqb_false h (by decide)
  have h23 : (l == [67, 80, 89]) = false := eqb_false h (by decide)
  have h24 : (l == [82, 69, 80]) = false := eqb_false h (by decide)
  have h25 : (l == [83, 69, 80]) = false := eqb_false h (by decide)
  have hr : widthF l = 0 := by
    have h1 : l ∉ namesM := fun e => h (by revert e; unfold namesM namesMXW; simp only [List.mem_cons, List.not_mem_nil, or_false]; intro e; (rcases e with e | e | e | e | e | e | e | e | e | e | e | e | e | e | e | e | e | e <;> simp [e]))
    have h2 : l ∉ namesX := fun e => h (by revert e; unfold namesX namesMXW; simp only [List.mem_cons, List.not_mem_nil, or_false]; intro e; (rcases e with e | e | e | e | e | e <;> simp [e]))
    have h3 : l ∉ namesW := fun e => h (by revert e; unfold namesW namesMXW; simp only [List.mem_cons, List.not_mem_nil, or_false]; intro e; (rcases e with e | e <;> simp [e]))
    unfold widthF
    rw [if_neg h1, if_neg h2, if_neg h3]
  rw [hr]
  clear hr h
  go_enter Tryz.func81, Tryz.ntmps81
  go_wp2_with fail
  go_ret
  exact ⟨rfl, rfl⟩
def namesRSC : List (List UInt8) := [[79, 82, 65], [65, 78, 68], [69, 79, 82], [65, 68, 67], [76, 68, 65], [67, 77, 80], [83, 66, 67], [66, 73, 84], [76, 68, 88], [76, 68, 89], [67, 80, 88], [67, 80, 89], [83, 84, 65], [83, 84, 88], [83, 84, 89], [83, 84, 90], [65, 83, 76], [82, 79, 76], [76, 83, 82], [82, 79, 82], [73, 78, 67], [68, 69, 67], [84, 83, 66], [84, 82, 66]]
theorem useF_no (l : List UInt8) (m : Nat) (h0 : m ≠ 0) (h1 : m ≠ 1) (h2 : m ≠ 2) : useF l m = if l ∈ namesR then 1 else if l ∈ namesS then 2 else if l ∈ namesC then 3 else 0 := by
  unfold useF
  rw [if_neg (by omega)]
theorem useOf_any (s : ByteArray) (m : Nat) (w : World) : Calls Tryz.prog 80 #[.string s, .int .u8 m] w fun e w' => e = .returned (.int .u8 (useF s.toList m : Nat)) ∧ w = w' := by
  generalize hl : s.toList = l
  by_cases m0 : m = 0 ∨ m = 1 ∨ m = 2
  · rcases m0 with rfl | rfl | rfl
    all_goals
      go_enter Tryz.func80, Tryz.ntmps80
      go_wp2_with fail
      go_ret
      exact ⟨rfl, rfl⟩
  have n0 : m ≠ 0 := fun e => m0 (.inl e)
  have n1 : m ≠ 1 := fun e => m0 (.inr (.inl e))
  have n2 : m ≠ 2 := fun e => m0 (.inr (.inr e))
  rw [useF_no l m n0 n1 n2]
  have b0 : ((m : Int) == 0) = false := by rw [beq_eq_false_iff_ne]; omega
  have b1 : ((m : Int) == 1) = false := by rw [beq_eq_false_iff_ne]; omega
  have b2 : ((m : Int) == 2) = false := by rw [beq_eq_false_iff_ne]; omega
  clear m0
  generalize hF : (if l ∈ namesR then 1 else if l ∈ namesS then 2 else if l ∈ namesC then 3 else 0) = F
  by_cases h : l ∈ namesRSC
  · unfold namesRSC at h
    simp only [List.mem_cons, List.not_mem_nil, or_false] at h
    rcases h with rfl | rfl | rfl | rfl | rfl | rfl | rfl | rfl | rfl | rfl | rfl | rfl | rfl | rfl | rfl | rfl | rfl | rfl | rfl | rfl | rfl | rfl | rfl | rfl
    all_goals
      have hF2 := hF
      clear hF
      replace hF2 : _ = F := hF2
      first | (obtain rfl : 1 = F := hF2) | (obtain rfl : 2 = F := hF2) | (obtain rfl : 3 = F := hF2)
      go_enter Tryz.func80, Tryz.ntmps80
      go_wp2_with fail
      go_ret
      exact ⟨rfl, rfl⟩
  have h0 : (l == [79, 82, 65]) = false := eqb_false h (by decide)
  have h1 : (l == [65, 78, 68]) = false := eqb_false h (by decide)
  have h2 : (l == [69, 79, 82]) = false := eqb_false h (by decide)
  have h3 : (l == [65, 68, 67]) = false := eqb_false h (by decide)
  have h4 : (l == [76, 68, 65]) = false := eqb_false h (by decide)
  have h5 : (l == [67, 77, 80]) = false := eqb_false h (by decide)
  have h6 : (l == [83, 66, 67]) = false := eqb_false h (by decide)
  have h7 : (l == [66, 73, 84]) = false := eqb_false h (by decide)
  have h8 : (l == [76, 68, 88]) = false := eqb_false h (by decide)
  have h9 : (l == [76, 68, 89]) = false := eqb_false h (by decide)
  have h10 : (l == [67, 80, 88]) = false := eqb_false h (by decide)
  have h11 : (l == [67, 80, 89]) = false := eqb_false h (by decide)
  have h12 : (l == [83, 84, 65]) = false := eqb_false h (by decide)
  have h13 : (l == [83, 84, 88]) = false := eqb_false h (by decide)
  have h14 : (l == [83, 84, 89]) = false := eqb_false h (by decide)
  have h15 : (l == [83, 84, 90]) = false := eqb_false h (by decide)
  have h16 : (l == [65, 83, 76]) = false := eqb_false h (by decide)
  have h17 : (l == [82, 79, 76]) = false := eqb_false h (by decide)
  have h18 : (l == [76, 83, 82]) = false := eqb_false h (by decide)
  have h19 : (l == [82, 79, 82]) = false := eqb_false h (by decide)
  have h20 : (l == [73, 78, 67]) = false := eqb_false h (by decide)
  have h21 : (l == [68, 69, 67]) = false := eqb_false h (by decide)
  have h22 : (l == [84, 83, 66]) = false := eqb_false h (by decide)
  have h23 : (l == [84, 82, 66]) = false := eqb_false h (by decide)
  have hr : F = 0 := by
    have h1 : l ∉ namesR := fun e => h (by revert e; unfold namesR namesRSC; simp only [List.mem_cons, List.not_mem_nil, or_false]; intro e; (rcases e with e | e | e | e | e | e | e | e | e | e | e | e <;> simp [e]))
    have h2 : l ∉ namesS := fun e => h (by revert e; unfold namesS namesRSC; simp only [List.mem_cons, List.not_mem_nil, or_false]; intro e; (rcases e with e | e | e | e <;> simp [e]))
    have h3 : l ∉ namesC := fun e => h (by revert e; unfold namesC namesRSC; simp only [List.mem_cons, List.not_mem_nil, or_false]; intro e; (rcases e with e | e | e | e | e | e | e | e <;> simp [e]))
    rw [← hF, if_neg h1, if_neg h2, if_neg h3]
  subst hr
  clear hF h
  go_enter Tryz.func80, Tryz.ntmps80
  go_wp2_with fail
  go_ret
  exact ⟨rfl, rfl⟩
end Go.Proofs.YtnacdaodjgdnnaaGreat.Cd
namespace Go.Proofs.YtnacdaodjgdnnaaGreat.Cd
open Go.RowKit
set_option maxRecDepth 100000
set_option maxHeartbeats 4000000
set_option linter.unusedVariables false

/-- The n-th part of a text that b parts, from i on; the part began at fr; k steps are left. -/
def partG (S : ByteArray) (b : Nat) : Nat → Nat → Nat → Nat → ByteArray
  | 0, _, _, _ => ⟨#[]⟩
  | k + 1, i, n, fr => if h : i < S.size then (if S[i].toNat = b then (if n = 0 then S.extract fr i else partG S b k (i + 1) (n - 1) (i + 1)) else partG S b k (i + 1) n fr)
    else (if n = 0 then S.extract fr i else partG S b k (i + 1) (n - 1) (i + 1))
def partF (S : ByteArray) (n b : Nat) : ByteArray := partG S b (S.size + 1) 0 n 0
theorem part_any (S : ByteArray) (n b : Nat) (w : World) (hS : S.size ≤ 1000000) (hn : n ≤ 1000) (hb : b < 256) :
    Calls Tryz.prog 128 #[.string S, .int .i64 n, .int .u8 b] w fun e w' => e = .returned (.string (partF S n b)) ∧ w = w' := by
  generalize hp : partF S n b = p
  go_enter Tryz.func128, Tryz.ntmps128
  go_wp2_with fail
  go_loopw [1, 7, 8] (fun s1 s7 s8 wr => ∃ (i n' fr : Nat), i ≤ S.size + 1 ∧ n' ≤ n ∧ fr ≤ i ∧ s1 = .int .i64 n' ∧ s7 = .int .i64 fr ∧ s8 = .int .i64 i ∧ Hid (partG S b (S.size + 1 - i) i n' fr = p) ∧ wr = w) (fun _ _ s8 _ => S.size + 1 - (intOf s8).toNat)
  case atStart => exact ⟨0, n, 0, by omega, by omega, by omega, rfl, rfl, rfl, Lib.hid hp, rfl⟩
  case round =>
    obtain ⟨i, n', fr, hi, hn', hfr, rfl, rfl, rfl, hP, rfl⟩ := hrel
    clear hp
    rcases Nat.lt_trichotomy i S.size with hlt | heq | hgt
    · have hP1 := hP.out
      rw [show S.size + 1 - i = (S.size - i) + 1 by omega, partG, dif_pos hlt] at hP1
      rw [show S.size - i = S.size + 1 - (i + 1) by omega] at hP1
      by_cases hx : S[i].toNat = b
      · rw [if_pos hx] at hP1
        have t1 : ((S[i].toNat : Int) == (b : Int)) = true := by rw [hx]; simp
        by_cases h0 : n' = 0
        · subst h0
          rw [if_pos rfl] at hP1
          replace hP1 := Lib.hid hP1
          clear hx
          go_wp2_with fail
          rw [hP1.out]
          go_ret
          exact ⟨rfl, rfl⟩
        · rw [if_neg h0] at hP1
          replace hP1 := Lib.hid hP1
          obtain ⟨n2, rfl⟩ : ∃ n2, n' = n2 + 1 := ⟨n' - 1, by omega⟩
          have t2 : (((n2 + 1 : Nat) : Int) == 0) = false := by rw [beq_eq_false_iff_ne]; omega
          clear hx h0
          go_wp2_with fail
          go_roundw
          case rel => exact ⟨i + 1, n2, i + 1, by omega, by omega, by omega, by go_num, by go_num, by go_num, hP1, trivial⟩
          case measure => simp [intOf]; omega
      · rw [if_neg hx] at hP1
        have t1 : ((S[i].toNat : Int) == (b : Int)) = false := by rw [beq_eq_false_iff_ne]; omega
        replace hP1 := Lib.hid hP1
        clear hx
        go_wp2_with fail
        go_roundw
        case rel => exact ⟨i + 1, n', fr, by omega, by omega, by omega, rfl, rfl, by go_num, hP1, trivial⟩
        case measure => simp [intOf]; omega
    · subst heq
      have hP1 := hP.out
      rw [show S.size + 1 - S.size = 0 + 1 by omega, partG, dif_neg (by omega)] at hP1
      by_cases h0 : n' = 0
      · subst h0
        rw [if_pos rfl] at hP1
        replace hP1 := Lib.hid hP1
        go_wp2_with fail
        rw [hP1.out]
        go_ret
        exact ⟨rfl, rfl⟩
      · rw [if_neg h0] at hP1
        replace hP1 := Lib.hid hP1
        obtain ⟨n2, rfl⟩ : ∃ n2, n' = n2 + 1 := ⟨n' - 1, by omega⟩
        have t2 : (((n2 + 1 : Nat) : Int) == 0) = false := by rw [beq_eq_false_iff_ne]; omega
        clear h0
        go_wp2_with fail
        go_roundw
        case rel => exact ⟨S.size + 1, n2, S.size + 1, by omega, by omega, by omega, by go_num, by go_num, by go_num, Lib.hid (by rw [Nat.sub_self]; exact hP1.out), trivial⟩
        case measure => simp [intOf] <;> omega
    · obtain rfl : i = S.size + 1 := by omega
      have hP1 := hP.out
      rw [Nat.sub_self, partG] at hP1
      subst hP1
      go_wp2_with fail
      go_ret
      exact ⟨rfl, rfl⟩
/-- A name among names, from the k-th on; so many are left. -/
def inG (s : List UInt8) (S : ByteArray) : Nat → Nat → Bool
  | 0, _ => false
  | k + 1, i => if 4 * i + 3 ≤ S.size then (if ((S.extract (4 * i) (4 * i + 3)).toList == s) = true then true else inG s S k (i + 1)) else false
def inF (s : List UInt8) (S : ByteArray) : Bool := inG s S (S.size + 1) 0
theorem in_any (s S : ByteArray) (w : World) (hS : S.size ≤ 1000000) :
    Calls Tryz.prog 211 #[.string s, .string S] w fun e w' => e = .returned (.bool (inF s.toList S)) ∧ w = w' := by
  generalize hp : inF s.toList S = p
  go_enter Tryz.func211, Tryz.ntmps211
  go_wp2_with fail
  go_loopw [5] (fun s5 wr => ∃ (i : Nat), i ≤ S.size ∧ s5 = .int .i64 ((4 * i : Nat) : Int) ∧ Hid (inG s.toList S (S.size + 1 - i) i = p) ∧ wr = w) (fun s5 _ => S.size + 4 - (intOf s5).toNat)
  case atStart => exact ⟨0, by omega, rfl, Lib.hid hp, rfl⟩
  case round =>
    obtain ⟨i, hi, rfl, hP, rfl⟩ := hrel
    clear hp
    have hP1 := hP.out
    rw [show S.size + 1 - i = (S.size - i) + 1 by omega, inG] at hP1
    by_cases hlt : 4 * i + 3 ≤ S.size
    · rw [if_pos hlt] at hP1
      by_cases hx : ((S.extract (4 * i) (4 * i + 3)).toList == s.toList) = true
      · rw [if_pos hx] at hP1
        subst hP1
        go_wp2_with fail
        go_ret
        exact ⟨rfl, rfl⟩
      · rw [if_neg hx] at hP1
        have hx : ((S.extract (4 * i) (4 * i + 3)).toList == s.toList) = false := by simpa using hx
        rw [show S.size - i = S.size + 1 - (i + 1) by omega] at hP1
        replace hP1 := Lib.hid hP1
        go_wp2_with fail
        go_roundw
        case rel => exact ⟨i + 1, by omega, by go_num, hP1, trivial⟩
        case measure => simp [intOf]; omega
    · rw [if_neg hlt] at hP1
      subst hP1
      go_wp2_with fail
      go_ret
      exact ⟨rfl, rfl⟩
end Go.Proofs.YtnacdaodjgdnnaaGreat.Cd
namespace Go.Proofs.YtnacdaodjgdnnaaGreat.Cd
open Go.RowKit
set_option maxRecDepth 1000000
set_option maxHeartbeats 4000000
set_option linter.unusedVariables false

def bytesN (l : List Nat) : ByteArray := ⟨(l.map UInt8.ofNat).toArray⟩
def row0 : List Nat := [66, 82, 75, 32, 115, 105, 103, 124, 79, 82, 65, 32, 40, 100, 44, 120, 41, 124, 67, 79, 80, 32, 115, 105, 103, 124, 79, 82, 65, 32, 100, 44, 115, 124, 84, 83, 66, 32, 100, 124, 79, 82, 65, 32, 100, 124, 65, 83, 76, 32, 100, 124, 79, 82, 65, 32, 91, 100, 93, 124, 80, 72, 80, 124, 79, 82, 65, 32, 35, 124, 65, 83, 76, 32, 65, 124, 80, 72, 68, 124, 84, 83, 66, 32, 97, 124, 79, 82, 65, 32, 97, 124, 65, 83, 76, 32, 97, 124, 79, 82, 65, 32, 108]
def row1 : List Nat := [66, 80, 76, 32, 114, 124, 79, 82, 65, 32, 40, 100, 41, 44, 121, 124, 79, 82, 65, 32, 40, 100, 41, 124, 79, 82, 65, 32, 40, 100, 44, 115, 41, 44, 121, 124, 84, 82, 66, 32, 100, 124, 79, 82, 65, 32, 100, 44, 120, 124, 65, 83, 76, 32, 100, 44, 120, 124, 79, 82, 65, 32, 91, 100, 93, 44, 121, 124, 67, 76, 67, 124, 79, 82, 65, 32, 97, 44, 121, 124, 73, 78, 67, 32, 65, 124, 84, 67, 83, 124, 84, 82, 66, 32, 97, 124, 79, 82, 65, 32, 97, 44, 120, 124, 65, 83, 76, 32, 97, 44, 120, 124, 79, 82, 65, 32, 108, 44, 120]
def row2 : List Nat := [74, 83, 82, 32, 97, 124, 65, 78, 68, 32, 40, 100, 44, 120, 41, 124, 74, 83, 76, 32, 108, 124, 65, 78, 68, 32, 100, 44, 115, 124, 66, 73, 84, 32, 100, 124, 65, 78, 68, 32, 100, 124, 82, 79, 76, 32, 100, 124, 65, 78, 68, 32, 91, 100, 93, 124, 80, 76, 80, 124, 65, 78, 68, 32, 35, 124, 82, 79, 76, 32, 65, 124, 80, 76, 68, 124, 66, 73, 84, 32, 97, 124, 65, 78, 68, 32, 97, 124, 82, 79, 76, 32, 97, 124, 65, 78, 68, 32, 108]
def row3 : List Nat := [66, 77, 73, 32, 114, 124, 65, 78, 68, 32, 40, 100, 41, 44, 121, 124, 65, 78, 68, 32, 40, 100, 41, 124, 65, 78, 68, 32, 40, 100, 44, 115, 41, 44, 121, 124, 66, 73, 84, 32, 100, 44, 120, 124, 65, 78, 68, 32, 100, 44, 120, 124, 82, 79, 76, 32, 100, 44, 120, 124, 65, 78, 68, 32, 91, 100, 93, 44, 121, 124, 83, 69, 67, 124, 65, 78, 68, 32, 97, 44, 121, 124, 68, 69, 67, 32, 65, 124, 84, 83, 67, 124, 66, 73, 84, 32, 97, 44, 120, 124, 65, 78, 68, 32, 97, 44, 120, 124, 82, 79, 76, 32, 97, 44, 120, 124, 65, 78, 68, 32, 108, 44, 120]
def row4 : List Nat := [82, 84, 73, 124, 69, 79, 82, 32, 40, 100, 44, 120, 41, 124, 87, 68, 77, 32, 115, 105, 103, 124, 69, 79, 82, 32, 100, 44, 115, 124, 77, 86, 80, 32, 109, 118, 124, 69, 79, 82, 32, 100, 124, 76, 83, 82, 32, 100, 124, 69, 79, 82, 32, 91, 100, 93, 124, 80, 72, 65, 124, 69, 79, 82, 32, 35, 124, 76, 83, 82, 32, 65, 124, 80, 72, 75, 124, 74, 77, 80, 32, 97, 124, 69, 79, 82, 32, 97, 124, 76, 83, 82, 32, 97, 124, 69, 79, 82, 32, 108]
def row5 : List Nat := [66, 86, 67, 32, 114, 124, 69, 79, 82, 32, 40, 100, 41, 44, 121, 124, 69, 79, 82, 32, 40, 100, 41, 124, 69, 79, 82, 32, 40, 100, 44, 115, 41, 44, 121, 124, 77, 86, 78, 32, 109, 118, 124, 69, 79, 82, 32, 100, 44, 120, 124, 76, 83, 82, 32, 100, 44, 120, 124, 69, 79, 82, 32, 91, 100, 93, 44, 121, 124, 67, 76, 73, 124, 69, 79, 82, 32, 97, 44, 121, 124, 80, 72, 89, 124, 84, 67, 68, 124, 74, 77, 76, 32, 108, 124, 69, 79, 82, 32, 97, 44, 120, 124, 76, 83, 82, 32, 97, 44, 120, 124, 69, 79, 82, 32, 108, 44, 120]
def row6 : List Nat := [82, 84, 83, 124, 65, 68, 67, 32, 40, 100, 44, 120, 41, 124, 80, 69, 82, 32, 114, 108, 124, 65, 68, 67, 32, 100, 44, 115, 124, 83, 84, 90, 32, 100, 124, 65, 68, 67, 32, 100, 124, 82, 79, 82, 32, 100, 124, 65, 68, 67, 32, 91, 100, 93, 124, 80, 76, 65, 124, 65, 68, 67, 32, 35, 124, 82, 79, 82, 32, 65, 124, 82, 84, 76, 124, 74, 77, 80, 32, 40, 97, 41, 124, 65, 68, 67, 32, 97, 124, 82, 79, 82, 32, 97, 124, 65, 68, 67, 32, 108]
def row7 : List Nat := [66, 86, 83, 32, 114, 124, 65, 68, 67, 32, 40, 100, 41, 44, 121, 124, 65, 68, 67, 32, 40, 100, 41, 124, 65, 68, 67, 32, 40, 100, 44, 115, 41, 44, 121, 124, 83, 84, 90, 32, 100, 44, 120, 124, 65, 68, 67, 32, 100, 44, 120, 124, 82, 79, 82, 32, 100, 44, 120, 124, 65, 68, 67, 32, 91, 100, 93, 44, 121, 124, 83, 69, 73, 124, 65, 68, 67, 32, 97, 44, 121, 124, 80, 76, 89, 124, 84, 68, 67, 124, 74, 77, 80, 32, 40, 97, 44, 120, 41, 124, 65, 68, 67, 32, 97, 44, 120, 124, 82, 79, 82, 32, 97, 44, 120, 124, 65, 68, 67, 32, 108, 44, 120]
def row8 : List Nat := [66, 82, 65, 32, 114, 124, 83, 84, 65, 32, 40, 100, 44, 120, 41, 124, 66, 82, 76, 32, 114, 108, 124, 83, 84, 65, 32, 100, 44, 115, 124, 83, 84, 89, 32, 100, 124, 83, 84, 65, 32, 100, 124, 83, 84, 88, 32, 100, 124, 83, 84, 65, 32, 91, 100, 93, 124, 68, 69, 89, 124, 66, 73, 84, 32, 35, 124, 84, 88, 65, 124, 80, 72, 66, 124, 83, 84, 89, 32, 97, 124, 83, 84, 65, 32, 97, 124, 83, 84, 88, 32, 97, 124, 83, 84, 65, 32, 108]
def row9 : List Nat := [66, 67, 67, 32, 114, 124, 83, 84, 65, 32, 40, 100, 41, 44, 121, 124, 83, 84, 65, 32, 40, 100, 41, 124, 83, 84, 65, 32, 40, 100, 44, 115, 41, 44, 121, 124, 83, 84, 89, 32, 100, 44, 120, 124, 83, 84, 65, 32, 100, 44, 120, 124, 83, 84, 88, 32, 100, 44, 121, 124, 83, 84, 65, 32, 91, 100, 93, 44, 121, 124, 84, 89, 65, 124, 83, 84, 65, 32, 97, 44, 121, 124, 84, 88, 83, 124, 84, 88, 89, 124, 83, 84, 90, 32, 97, 124, 83, 84, 65, 32, 97, 44, 120, 124, 83, 84, 90, 32, 97, 44, 120, 124, 83, 84, 65, 32, 108, 44, 120]
def row10 : List Nat := [76, 68, 89, 32, 35, 124, 76, 68, 65, 32, 40, 100, 44, 120, 41, 124, 76, 68, 88, 32, 35, 124, 76, 68, 65, 32, 100, 44, 115, 124, 76, 68, 89, 32, 100, 124, 76, 68, 65, 32, 100, 124, 76, 68, 88, 32, 100, 124, 76, 68, 65, 32, 91, 100, 93, 124, 84, 65, 89, 124, 76, 68, 65, 32, 35, 124, 84, 65, 88, 124, 80, 76, 66, 124, 76, 68, 89, 32, 97, 124, 76, 68, 65, 32, 97, 124, 76, 68, 88, 32, 97, 124, 76, 68, 65, 32, 108]
def row11 : List Nat := [66, 67, 83, 32, 114, 124, 76, 68, 65, 32, 40, 100, 41, 44, 121, 124, 76, 68, 65, 32, 40, 100, 41, 124, 76, 68, 65, 32, 40, 100, 44, 115, 41, 44, 121, 124, 76, 68, 89, 32, 100, 44, 120, 124, 76, 68, 65, 32, 100, 44, 120, 124, 76, 68, 88, 32, 100, 44, 121, 124, 76, 68, 65, 32, 91, 100, 93, 44, 121, 124, 67, 76, 86, 124, 76, 68, 65, 32, 97, 44, 121, 124, 84, 83, 88, 124, 84, 89, 88, 124, 76, 68, 89, 32, 97, 44, 120, 124, 76, 68, 65, 32, 97, 44, 120, 124, 76, 68, 88, 32, 97, 44, 121, 124, 76, 68, 65, 32, 108, 44, 120]
def row12 : List Nat := [67, 80, 89, 32, 35, 124, 67, 77, 80, 32, 40, 100, 44, 120, 41, 124, 82, 69, 80, 32, 35, 124, 67, 77, 80, 32, 100, 44, 115, 124, 67, 80, 89, 32, 100, 124, 67, 77, 80, 32, 100, 124, 68, 69, 67, 32, 100, 124, 67, 77, 80, 32, 91, 100, 93, 124, 73, 78, 89, 124, 67, 77, 80, 32, 35, 124, 68, 69, 88, 124, 87, 65, 73, 124, 67, 80, 89, 32, 97, 124, 67, 77, 80, 32, 97, 124, 68, 69, 67, 32, 97, 124, 67, 77, 80, 32, 108]
def row13 : List Nat := [66, 78, 69, 32, 114, 124, 67, 77, 80, 32, 40, 100, 41, 44, 121, 124, 67, 77, 80, 32, 40, 100, 41, 124, 67, 77, 80, 32, 40, 100, 44, 115, 41, 44, 121, 124, 80, 69, 73, 32, 40, 100, 41, 124, 67, 77, 80, 32, 100, 44, 120, 124, 68, 69, 67, 32, 100, 44, 120, 124, 67, 77, 80, 32, 91, 100, 93, 44, 121, 124, 67, 76, 68, 124, 67, 77, 80, 32, 97, 44, 121, 124, 80, 72, 88, 124, 83, 84, 80, 124, 74, 77, 76, 32, 91, 97, 93, 124, 67, 77, 80, 32, 97, 44, 120, 124, 68, 69, 67, 32, 97, 44, 120, 124, 67, 77, 80, 32, 108, 44, 120]
def row14 : List Nat := [67, 80, 88, 32, 35, 124, 83, 66, 67, 32, 40, 100, 44, 120, 41, 124, 83, 69, 80, 32, 35, 124, 83, 66, 67, 32, 100, 44, 115, 124, 67, 80, 88, 32, 100, 124, 83, 66, 67, 32, 100, 124, 73, 78, 67, 32, 100, 124, 83, 66, 67, 32, 91, 100, 93, 124, 73, 78, 88, 124, 83, 66, 67, 32, 35, 124, 78, 79, 80, 124, 88, 66, 65, 124, 67, 80, 88, 32, 97, 124, 83, 66, 67, 32, 97, 124, 73, 78, 67, 32, 97, 124, 83, 66, 67, 32, 108]
def row15 : List Nat := [66, 69, 81, 32, 114, 124, 83, 66, 67, 32, 40, 100, 41, 44, 121, 124, 83, 66, 67, 32, 40, 100, 41, 124, 83, 66, 67, 32, 40, 100, 44, 115, 41, 44, 121, 124, 80, 69, 65, 32, 119, 124, 83, 66, 67, 32, 100, 44, 120, 124, 73, 78, 67, 32, 100, 44, 120, 124, 83, 66, 67, 32, 91, 100, 93, 44, 121, 124, 83, 69, 68, 124, 83, 66, 67, 32, 97, 44, 121, 124, 80, 76, 88, 124, 88, 67, 69, 124, 74, 83, 82, 32, 40, 97, 44, 120, 41, 124, 83, 66, 67, 32, 97, 44, 120, 124, 73, 78, 67, 32, 97, 44, 120, 124, 83, 66, 67, 32, 108, 44, 120]
def signN : List Nat := [124, 65, 124, 35, 124, 114, 124, 114, 108, 124, 100, 124, 100, 44, 120, 124, 100, 44, 121, 124, 40, 100, 41, 124, 91, 100, 93, 124, 40, 100, 44, 120, 41, 124, 40, 100, 41, 44, 121, 124, 91, 100, 93, 44, 121, 124, 97, 124, 97, 44, 120, 124, 97, 44, 121, 124, 108, 124, 108, 44, 120, 124, 40, 97, 41, 124, 91, 97, 93, 124, 40, 97, 44, 120, 41, 124, 100, 44, 115, 124, 40, 100, 44, 115, 41, 44, 121, 124, 109, 118, 124, 115, 105, 103, 124, 119]
def allM : List Nat := [79, 82, 65, 32, 65, 78, 68, 32, 69, 79, 82, 32, 65, 68, 67, 32, 83, 84, 65, 32, 76, 68, 65, 32, 67, 77, 80, 32, 83, 66, 67, 32, 66, 73, 84, 32, 65, 83, 76, 32, 82, 79, 76, 32, 76, 83, 82, 32, 82, 79, 82, 32, 73, 78, 67, 32, 68, 69, 67, 32, 84, 83, 66, 32, 84, 82, 66, 32, 83, 84, 90]
def allX : List Nat := [76, 68, 88, 32, 76, 68, 89, 32, 83, 84, 88, 32, 83, 84, 89, 32, 67, 80, 88, 32, 67, 80, 89]
def allW : List Nat := [83, 84, 65, 32, 83, 84, 88, 32, 83, 84, 89, 32, 83, 84, 90]
def allC : List Nat := [65, 83, 76, 32, 82, 79, 76, 32, 76, 83, 82, 32, 82, 79, 82, 32, 73, 78, 67, 32, 68, 69, 67, 32, 84, 83, 66, 32, 84, 82, 66]
def rowN (k : Nat) : List Nat := if k = 0 then row0 else if k = 1 then row1 else if k = 2 then row2 else if k = 3 then row3 else if k = 4 then row4 else if k = 5 then row5 else if k = 6 then row6 else if k = 7 then row7 else if k = 8 then row8 else if k = 9 then row9 else if k = 10 then row10 else if k = 11 then row11 else if k = 12 then row12 else if k = 13 then row13 else if k = 14 then row14 else row15
/-- A text of the program is the list of its bytes. -/
theorem text_of {S : ByteArray} {l : List Nat} (h : S.data.toList.map UInt8.toNat = l) : S = bytesN l := bytes_of h
theorem row_0 (w : World) : Calls Tryz.prog 129 #[.int .i64 0] w fun e w' => e = .returned (.string (bytesN row0)) ∧ w = w' := by
  have key : ∀ S : ByteArray, S.data.toList.map UInt8.toNat = row0 → Value.string S = Value.string (bytesN row0) := fun S h => by rw [text_of h]
  go_enter Tryz.func129, Tryz.ntmps129
  go_upto_region 3 with (fail)
  show Code.wp _ (Code.region _ #[{ dst := _, op := Op.assign (Operand.const (Value.string ?b)), type := _, pos := _, after := _, guard := _ }] _) _ _ _
  generalize hb : ?b = S
  have hl := key S (by rw [← hb]; decide +kernel)
  replace hb := Lib.hid hb
  replace hl := Lib.hid hl
  clear key
  go_wp2_with fail
  go_ret
  exact ⟨congrArg _ hl.out, rfl⟩
theorem row_1 (w : World) : Calls Tryz.prog 129 #[.int .i64 1] w fun e w' => e = .returned (.string (bytesN row1)) ∧ w = w' := by
  have key : ∀ S : ByteArray, S.data.toList.map UInt8.toNat = row1 → Value.string S = Value.string (bytesN row1) := fun S h => by rw [text_of h]
  go_enter Tryz.func129, Tryz.ntmps129
  go_upto_region 5 with (fail)
  show Code.wp _ (Code.region _ #[{ dst := _, op := Op.assign (Operand.const (Value.string ?b)), type := _, pos := _, after := _, guard := _ }] _) _ _ _
  generalize hb : ?b = S
  have hl := key S (by rw [← hb]; decide +kernel)
  replace hb := Lib.hid hb
  replace hl := Lib.hid hl
  clear key
  go_wp2_with fail
  go_ret
  exact ⟨congrArg _ hl.out, rfl⟩
theorem row_2 (w : World) : Calls Tryz.prog 129 #[.int .i64 2] w fun e w' => e = .returned (.string (bytesN row2)) ∧ w = w' := by
  have key : ∀ S : ByteArray, S.data.toList.map UInt8.toNat = row2 → Value.string S = Value.string (bytesN row2) := fun S h => by rw [text_of h]
  go_enter Tryz.func129, Tryz.ntmps129
  go_upto_region 7 with (fail)
  show Code.wp _ (Code.region _ #[{ dst := _, op := Op.assign (Operand.const (Value.string ?b)), type := _, pos := _, after := _, guard := _ }] _) _ _ _
  generalize hb : ?b = S
  have hl := key S (by rw [← hb]; decide +kernel)
  replace hb := Lib.hid hb
  replace hl := Lib.hid hl
  clear key
  go_wp2_with fail
  go_ret
  exact ⟨congrArg _ hl.out, rfl⟩
theorem row_3 (w : World) : Calls Tryz.prog 129 #[.int .i64 3] w fun e w' => e = .returned (.string (bytesN row3)) ∧ w = w' := by
  have key : ∀ S : ByteArray, S.data.toList.map UInt8.toNat = row3 → Value.string S = Value.string (bytesN row3) := fun S h => by rw [text_of h]
  go_enter Tryz.func129, Tryz.ntmps129
  go_upto_region 9 with (fail)
  show Code.wp _ (Code.region _ #[{ dst := _, op := Op.assign (Operand.const (Value.string ?b)), type := _, pos := _, after := _, guard := _ }] _) _ _ _
  generalize hb : ?b = S
  have hl := key S (by rw [← hb]; decide +kernel)
  replace hb := Lib.hid hb
  replace hl := Lib.hid hl
  clear key
  go_wp2_with fail
  go_ret
  exact ⟨congrArg _ hl.out, rfl⟩
theorem row_4 (w : World) : Calls Tryz.prog 129 #[.int .i64 4] w fun e w' => e = .returned (.string (bytesN row4)) ∧ w = w' := by
  have key : ∀ S : ByteArray, S.data.toList.map UInt8.toNat = row4 → Value.string S = Value.string (bytesN row4) := fun S h => by rw [text_of h]
  go_enter Tryz.func129, Tryz.ntmps129
  go_upto_region 11 with (fail)
  show Code.wp _ (Code.region _ #[{ dst := _, op := Op.assign (Operand.const (Value.string ?b)), type := _, pos := _, after := _, guard := _ }] _) _ _ _
  generalize hb : ?b = S
  have hl := key S (by rw [← hb]; decide +kernel)
  replace hb := Lib.hid hb
  replace hl := Lib.hid hl
  clear key
  go_wp2_with fail
  go_ret
  exact ⟨congrArg _ hl.out, rfl⟩
theorem row_5 (w : World) : Calls Tryz.prog 129 #[.int .i64 5] w fun e w' => e = .returned (.string (bytesN row5)) ∧ w = w' := by
  have key : ∀ S : ByteArray, S.data.toList.map UInt8.toNat = row5 → Value.string S = Value.string (bytesN row5) := fun S h => by rw [text_of h]
  go_enter Tryz.func129, Tryz.ntmps129
  go_upto_region 13 with (fail)
  show Code.wp _ (Code.region _ #[{ dst := _, op := Op.assign (Operand.const (Value.string ?b)), type := _, pos := _, after := _, guard := _ }] _) _ _ _
  generalize hb : ?b = S
  have hl := key S (by rw [← hb]; decide +kernel)
  replace hb := Lib.hid hb
  replace hl := Lib.hid hl
  clear key
  go_wp2_with fail
  go_ret
  exact ⟨congrArg _ hl.out, rfl⟩
theorem row_6 (w : World) : Calls Tryz.prog 129 #[.int .i64 6] w fun e w' => e = .returned (.string (bytesN row6)) ∧ w = w' := by
  have key : ∀ S : ByteArray, S.data.toList.map UInt8.toNat = row6 → Value.string S = Value.string (bytesN row6) := fun S h => by rw [text_of h]
  go_enter Tryz.func129, Tryz.ntmps129
  go_upto_region 15 with (fail)
  show Code.wp _ (Code.region _ #[{ dst := _, op := Op.assign (Operand.const (Value.string ?b)), type := _, pos := _, after := _, guard := _ }] _) _ _ _
  generalize hb : ?b = S
  have hl := key S (by rw [← hb]; decide +kernel)
  replace hb := Lib.hid hb
  replace hl := Lib.hid hl
  clear key
  go_wp2_with fail
  go_ret
  exact ⟨congrArg _ hl.out, rfl⟩
theorem row_7 (w : World) : Calls Tryz.prog 129 #[.int .i64 7] w fun e w' => e = .returned (.string (bytesN row7)) ∧ w = w' := by
  have key : ∀ S : ByteArray, S.data.toList.map UInt8.toNat = row7 → Value.string S = Value.string (bytesN row7) := fun S h => by rw [text_of h]
  go_enter Tryz.func129, Tryz.ntmps129
  go_upto_region 17 with (fail)
  show Code.wp _ (Code.region _ #[{ dst := _, op := Op.assign (Operand.const (Value.string ?b)), type := _, pos := _, after := _, guard := _ }] _) _ _ _
  generalize hb : ?b = S
  have hl := key S (by rw [← hb]; decide +kernel)
  replace hb := Lib.hid hb
  replace hl := Lib.hid hl
  clear key
  go_wp2_with fail
  go_ret
  exact ⟨congrArg _ hl.out, rfl⟩
theorem row_8 (w : World) : Calls Tryz.prog 129 #[.int .i64 8] w fun e w' => e = .returned (.string (bytesN row8)) ∧ w = w' := by
  have key : ∀ S : ByteArray, S.data.toList.map UInt8.toNat = row8 → Value.string S = Value.string (bytesN row8) := fun S h => by rw [text_of h]
  go_enter Tryz.func129, Tryz.ntmps129
  go_upto_region 19 with (fail)
  show Code.wp _ (Code.region _ #[{ dst := _, op := Op.assign (Operand.const (Value.string ?b)), type := _, pos := _, after := _, guard := _ }] _) _ _ _
  generalize hb : ?b = S
  have hl := key S (by rw [← hb]; decide +kernel)
  replace hb := Lib.hid hb
  replace hl := Lib.hid hl
  clear key
  go_wp2_with fail
  go_ret
  exact ⟨congrArg _ hl.out, rfl⟩
theorem row_9 (w : World) : Calls Tryz.prog 129 #[.int .i64 9] w fun e w' => e = .returned (.string (bytesN row9)) ∧ w = w' := by
  have key : ∀ S : ByteArray, S.data.toList.map UInt8.toNat = row9 → Value.string S = Value.string (bytesN row9) := fun S h => by rw [text_of h]
  go_enter Tryz.func129, Tryz.ntmps129
  go_upto_region 21 with (fail)
  show Code.wp _ (Code.region _ #[{ dst := _, op := Op.assign (Operand.const (Value.string ?b)), type := _, pos := _, after := _, guard := _ }] _) _ _ _
  generalize hb : ?b = S
  have hl := key S (by rw [← hb]; decide +kernel)
  replace hb := Lib.hid hb
  replace hl := Lib.hid hl
  clear key
  go_wp2_with fail
  go_ret
  exact ⟨congrArg _ hl.out, rfl⟩
theorem row_10 (w : World) : Calls Tryz.prog 129 #[.int .i64 10] w fun e w' => e = .returned (.string (bytesN row10)) ∧ w = w' := by
  have key : ∀ S : ByteArray, S.data.toList.map UInt8.toNat = row10 → Value.string S = Value.string (bytesN row10) := fun S h => by rw [text_of h]
  go_enter Tryz.func129, Tryz.ntmps129
  go_upto_region 23 with (fail)
  show Code.wp _ (Code.region _ #[{ dst := _, op := Op.assign (Operand.const (Value.string ?b)), type := _, pos := _, after := _, guard := _ }] _) _ _ _
  generalize hb : ?b = S
  have hl := key S (by rw [← hb]; decide +kernel)
  replace hb := Lib.hid hb
  replace hl := Lib.hid hl
  clear key
  go_wp2_with fail
  go_ret
  exact ⟨congrArg _ hl.out, rfl⟩
theorem row_11 (w : World) : Calls Tryz.prog 129 #[.int .i64 11] w fun e w' => e = .returned (.string (bytesN row11)) ∧ w = w' := by
  have key : ∀ S : ByteArray, S.data.toList.map UInt8.toNat = row11 → Value.string S = Value.string (bytesN row11) := fun S h => by rw [text_of h]
  go_enter Tryz.func129, Tryz.ntmps129
  go_upto_region 25 with (fail)
  show Code.wp _ (Code.region _ #[{ dst := _, op := Op.assign (Operand.const (Value.string ?b)), type := _, pos := _, after := _, guard := _ }] _) _ _ _
  generalize hb : ?b = S
  have hl := key S (by rw [← hb]; decide +kernel)
  replace hb := Lib.hid hb
  replace hl := Lib.hid hl
  clear key
  go_wp2_with fail
  go_ret
  exact ⟨congrArg _ hl.out, rfl⟩
theorem row_12 (w : World) : Calls Tryz.prog 129 #[.int .i64 12] w fun e w' => e = .returned (.string (bytesN row12)) ∧ w = w' := by
  have key : ∀ S : ByteArray, S.data.toList.map UInt8.toNat = row12 → Value.string S = Value.string (bytesN row12) := fun S h => by rw [text_of h]
  go_enter Tryz.func129, Tryz.ntmps129
  go_upto_region 27 with (fail)
  show Code.wp _ (Code.region _ #[{ dst := _, op := Op.assign (Operand.const (Value.string ?b)), type := _, pos := _, after := _, guard := _ }] _) _ _ _
  generalize hb : ?b = S
  have hl := key S (by rw [← hb]; decide +kernel)
  replace hb := Lib.hid hb
  replace hl := Lib.hid hl
  clear key
  go_wp2_with fail
  go_ret
  exact ⟨congrArg _ hl.out, rfl⟩
theorem row_13 (w : World) : Calls Tryz.prog 129 #[.int .i64 13] w fun e w' => e = .returned (.string (bytesN row13)) ∧ w = w' := by
  have key : ∀ S : ByteArray, S.data.toList.map UInt8.toNat = row13 → Value.string S = Value.string (bytesN row13) := fun S h => by rw [text_of h]
  go_enter Tryz.func129, Tryz.ntmps129
  go_upto_region 29 with (fail)
  show Code.wp _ (Code.region _ #[{ dst := _, op := Op.assign (Operand.const (Value.string ?b)), type := _, pos := _, after := _, guard := _ }] _) _ _ _
  generalize hb : ?b = S
  have hl := key S (by rw [← hb]; decide +kernel)
  replace hb := Lib.hid hb
  replace hl := Lib.hid hl
  clear key
  go_wp2_with fail
  go_ret
  exact ⟨congrArg _ hl.out, rfl⟩
theorem row_14 (w : World) : Calls Tryz.prog 129 #[.int .i64 14] w fun e w' => e = .returned (.string (bytesN row14)) ∧ w = w' := by
  have key : ∀ S : ByteArray, S.data.toList.map UInt8.toNat = row14 → Value.string S = Value.string (bytesN row14) := fun S h => by rw [text_of h]
  go_enter Tryz.func129, Tryz.ntmps129
  go_upto_region 31 with (fail)
  show Code.wp _ (Code.region _ #[{ dst := _, op := Op.assign (Operand.const (Value.string ?b)), type := _, pos := _, after := _, guard := _ }] _) _ _ _
  generalize hb : ?b = S
  have hl := key S (by rw [← hb]; decide +kernel)
  replace hb := Lib.hid hb
  replace hl := Lib.hid hl
  clear key
  go_wp2_with fail
  go_ret
  exact ⟨congrArg _ hl.out, rfl⟩
theorem row_15 (w : World) : Calls Tryz.prog 129 #[.int .i64 15] w fun e w' => e = .returned (.string (bytesN row15)) ∧ w = w' := by
  have key : ∀ S : ByteArray, S.data.toList.map UInt8.toNat = row15 → Value.string S = Value.string (bytesN row15) := fun S h => by rw [text_of h]
  go_enter Tryz.func129, Tryz.ntmps129
  go_upto_region 33 with (fail)
  show Code.wp _ (Code.region _ #[{ dst := _, op := Op.assign (Operand.const (Value.string ?b)), type := _, pos := _, after := _, guard := _ }] _) _ _ _
  generalize hb : ?b = S
  have hl := key S (by rw [← hb]; decide +kernel)
  replace hb := Lib.hid hb
  replace hl := Lib.hid hl
  clear key
  go_wp2_with fail
  go_ret
  exact ⟨congrArg _ hl.out, rfl⟩
end Go.Proofs.YtnacdaodjgdnnaaGreat.Cd
namespace Go.Proofs.YtnacdaodjgdnnaaGreat.Cd
open Go.RowKit
set_option maxRecDepth 1000000
set_option maxHeartbeats 400000
set_option linter.unusedVariables false

theorem row_any (k : Nat) (hk : k < 16) (w : World) : Calls Tryz.prog 129 #[.int .i64 k] w fun e w' => e = .returned (.string (bytesN (rowN k))) ∧ w = w' := by
  match k, hk with
  | 0, _ => exact row_0 w
  | 1, _ => exact row_1 w
  | 2, _ => exact row_2 w
  | 3, _ => exact row_3 w
  | 4, _ => exact row_4 w
  | 5, _ => exact row_5 w
  | 6, _ => exact row_6 w
  | 7, _ => exact row_7 w
  | 8, _ => exact row_8 w
  | 9, _ => exact row_9 w
  | 10, _ => exact row_10 w
  | 11, _ => exact row_11 w
  | 12, _ => exact row_12 w
  | 13, _ => exact row_13 w
  | 14, _ => exact row_14 w
  | 15, _ => exact row_15 w
  | k + 16, h => exact absurd h (by omega)
def signF (m : Nat) : ByteArray := partF (bytesN signN) m 124
attribute [local irreducible] partF inF bytesN
theorem sign_any (m : Nat) (w : World) (hm : m < 256) : Calls Tryz.prog 130 #[.int .u8 m] w fun e w' => e = .returned (.string (signF m)) ∧ w = w' := by
  have HP := part_any (bytesN signN) m 124 w (by decide +kernel) (by omega) (by decide)
  rw [show partF (bytesN signN) m 124 = signF m from rfl, show ((124 : Nat) : Int) = 124 from rfl] at HP
  generalize hT : bytesN signN = T at HP
  generalize signF m = q at *
  replace HP := Lib.hid HP
  go_enter Tryz.func130, Tryz.ntmps130
  go_upto_region 1 with (fail)
  show Code.wp _ (Code.region _ #[_, _, { dst := _, op := Op.call { callee := _, args := #[Operand.const (Value.string ?b), _, _], argTypes := _ }, type := _, pos := _, after := _, guard := _ }, _] _) _ _ _
  generalize hb : ?b = S
  have hl : S = T := by rw [← hT]; exact text_of (by rw [← hb]; decide +kernel)
  clear hb
  subst hl
  replace hT := Lib.hid hT
  go_wp2_with fail
  with_reducible refine HP.out.mono ?_
  rintro e w' ⟨rfl, rfl⟩
  clear HP
  go_wp2_with fail
  go_ret
  exact ⟨rfl, rfl⟩
def docWidthF (l : List UInt8) : Nat := if inF l (bytesN allM) = true then 1 else if inF l (bytesN allX) = true then 2 else if (l == [82, 69, 80]) = true then 3 else if (l == [83, 69, 80]) = true then 3 else 0
theorem rwidth_any (s : ByteArray) (w : World) : Calls Tryz.prog 131 #[.string s] w fun e w' => e = .returned (.int .u8 (docWidthF s.toList : Nat)) ∧ w = w' := by
  have H1 := in_any s (bytesN allM) w (by decide +kernel)
  have H2 := in_any s (bytesN allX) w (by decide +kernel)
  generalize hr : docWidthF s.toList = r
  unfold docWidthF at hr
  generalize hT1 : bytesN allM = T1 at *
  generalize hT2 : bytesN allX = T2 at *
  generalize inF s.toList T1 = b1 at *
  generalize inF s.toList T2 = b2 at *
  replace H1 := Lib.hid H1
  replace H2 := Lib.hid H2
  replace hr := Lib.hid hr
  go_enter Tryz.func131, Tryz.ntmps131
  go_upto_region 1 with (fail)
  show Code.wp _ (Code.region _ #[_, { dst := _, op := Op.call { callee := _, args := #[_, Operand.const (Value.string ?b)], argTypes := _ }, type := _, pos := _, after := _, guard := _ }] _) _ _ _
  generalize hb : ?b = S
  have hl : S = T1 := by rw [← hT1]; exact text_of (by rw [← hb]; decide +kernel)
  clear hb
  subst hl
  replace hT1 := Lib.hid hT1
  go_wp2_with fail
  with_reducible refine H1.out.mono ?_
  rintro e w' ⟨rfl, rfl⟩
  cases b1 with
  | true =>
    have hr := hr.out
    rw [if_pos rfl] at hr
    subst hr
    go_wp2_with fail
    go_ret
    exact ⟨rfl, rfl⟩
  | false =>
  go_upto_region 3 with (fail)
  show Code.wp _ (Code.region _ #[_, { dst := _, op := Op.call { callee := _, args := #[_, Operand.const (Value.string ?b2)], argTypes := _ }, type := _, pos := _, after := _, guard := _ }] _) _ _ _
  generalize hb : ?b2 = S2
  have hl : S2 = T2 := by rw [← hT2]; exact text_of (by rw [← hb]; decide +kernel)
  clear hb
  subst hl
  replace hT2 := Lib.hid hT2
  go_wp2_with fail
  with_reducible refine H2.out.mono ?_
  rintro e w' ⟨rfl, rfl⟩
  cases b2 with
  | true =>
    have hr := hr.out
    rw [if_neg (by decide), if_pos rfl] at hr
    subst hr
    go_wp2_with fail
    go_ret
    exact ⟨rfl, rfl⟩
  | false =>
  have hr := hr.out
  rw [if_neg (by decide), if_neg (by decide)] at hr
  cases h3 : s.toList == [82, 69, 80] with
  | true =>
    rw [if_pos h3] at hr
    subst hr
    go_wp2_with fail
    go_ret
    exact ⟨rfl, rfl⟩
  | false =>
  rw [if_neg (by rw [h3]; decide)] at hr
  cases h4 : s.toList == [83, 69, 80] with
  | true =>
    rw [if_pos h4] at hr
    subst hr
    go_wp2_with fail
    go_ret
    exact ⟨rfl, rfl⟩
  | false =>
    rw [if_neg (by rw [h4]; decide)] at hr
    subst hr
    go_wp2_with fail
    go_ret
    exact ⟨rfl, rfl⟩
end Go.Proofs.YtnacdaodjgdnnaaGreat.Cd
namespace Go.Proofs.YtnacdaodjgdnnaaGreat.Cd
open Go.RowKit
set_option maxRecDepth 1000000
set_option maxHeartbeats 400000
set_option linter.unusedVariables false

attribute [local irreducible] partF inF bytesN
def docUseF (l : List UInt8) (m wd : Nat) : Nat := if m ≤ 2 ∨ wd = 0 then 0 else if inF l (bytesN allW) = true then 2 else if inF l (bytesN allC) = true then 3 else 1
theorem ruse_any (s : ByteArray) (m wd : Nat) (w : World) : Calls Tryz.prog 132 #[.string s, .int .u8 m, .int .u8 wd] w fun e w' => e = .returned (.int .u8 (docUseF s.toList m wd : Nat)) ∧ w = w' := by
  have H1 := in_any s (bytesN allW) w (by decide +kernel)
  have H2 := in_any s (bytesN allC) w (by decide +kernel)
  generalize hr : docUseF s.toList m wd = r
  unfold docUseF at hr
  generalize hT1 : bytesN allW = T1 at *
  generalize hT2 : bytesN allC = T2 at *
  generalize inF s.toList T1 = b1 at *
  generalize inF s.toList T2 = b2 at *
  replace H1 := Lib.hid H1
  replace H2 := Lib.hid H2
  by_cases hm : m ≤ 2
  · rw [if_pos (.inl hm)] at hr
    subst hr
    replace hT1 := Lib.hid hT1
    replace hT2 := Lib.hid hT2
    go_enter Tryz.func132, Tryz.ntmps132
    go_wp2_with fail
    go_ret
    exact ⟨rfl, rfl⟩
  by_cases hw : wd = 0
  · rw [if_pos (.inr hw)] at hr
    subst hr hw
    replace hT1 := Lib.hid hT1
    replace hT2 := Lib.hid hT2
    go_enter Tryz.func132, Tryz.ntmps132
    go_wp2_with fail
    go_ret
    exact ⟨rfl, rfl⟩
  rw [if_neg (fun h => h.elim hm hw)] at hr
  have hw0 : ((wd : Int) == 0) = false := by rw [beq_eq_false_iff_ne]; omega
  replace hr := Lib.hid hr
  clear hw
  go_enter Tryz.func132, Tryz.ntmps132
  go_upto_region 3 with (fail)
  show Code.wp _ (Code.region _ #[_, { dst := _, op := Op.call { callee := _, args := #[_, Operand.const (Value.string ?b)], argTypes := _ }, type := _, pos := _, after := _, guard := _ }] _) _ _ _
  generalize hb : ?b = S
  have hl : S = T1 := by rw [← hT1]; exact text_of (by rw [← hb]; decide +kernel)
  clear hb
  subst hl
  replace hT1 := Lib.hid hT1
  go_wp2_with fail
  with_reducible refine H1.out.mono ?_
  rintro e w' ⟨rfl, rfl⟩
  cases b1 with
  | true =>
    have hr := hr.out
    rw [if_pos rfl] at hr
    subst hr
    go_wp2_with fail
    go_ret
    exact ⟨rfl, rfl⟩
  | false =>
  go_upto_region 5 with (fail)
  show Code.wp _ (Code.region _ #[_, { dst := _, op := Op.call { callee := _, args := #[_, Operand.const (Value.string ?b2)], argTypes := _ }, type := _, pos := _, after := _, guard := _ }] _) _ _ _
  generalize hb : ?b2 = S2
  have hl : S2 = T2 := by rw [← hT2]; exact text_of (by rw [← hb]; decide +kernel)
  clear hb
  subst hl
  replace hT2 := Lib.hid hT2
  go_wp2_with fail
  with_reducible refine H2.out.mono ?_
  rintro e w' ⟨rfl, rfl⟩
  have hr := hr.out
  rw [if_neg (by decide)] at hr
  cases b2 with
  | true =>
    rw [if_pos rfl] at hr
    subst hr
    go_wp2_with fail
    go_ret
    exact ⟨rfl, rfl⟩
  | false =>
    rw [if_neg (by decide)] at hr
    subst hr
    go_wp2_with fail
    go_ret
    exact ⟨rfl, rfl⟩
def wideF (wd p : Nat) : Bool := if wd = 1 then p / 32 % 2 == 0 else if wd = 2 then p / 16 % 2 == 0 else false
theorem bits_32 (p : Nat) (hp : p < 256) : (bits BinOp.and IntKind.u8 (p : Int) 32 == 0) = (p / 32 % 2 == 0) := (show ∀ p : Nat, p < 256 → (bits BinOp.and IntKind.u8 (p : Int) 32 == 0) = (p / 32 % 2 == 0) by decide +kernel) p hp
theorem bits_16 (p : Nat) (hp : p < 256) : (bits BinOp.and IntKind.u8 (p : Int) 16 == 0) = (p / 16 % 2 == 0) := (show ∀ p : Nat, p < 256 → (bits BinOp.and IntKind.u8 (p : Int) 16 == 0) = (p / 16 % 2 == 0) by decide +kernel) p hp
theorem int_32 (p : Nat) : ((p : Int) / 32 % 2 == 0) = (p / 32 % 2 == 0) := by
  rw [Bool.eq_iff_iff, beq_iff_eq, beq_iff_eq]; omega
theorem int_16 (p : Nat) : ((p : Int) / 16 % 2 == 0) = (p / 16 % 2 == 0) := by
  rw [Bool.eq_iff_iff, beq_iff_eq, beq_iff_eq]; omega
theorem wide_any (wd p : Nat) (w : World) (hp : p < 256) : Calls Tryz.prog 245 #[.int .u8 wd, .int .u8 p] w fun e w' => e = .returned (.bool (wideF wd p)) ∧ w = w' := by
  generalize hr : wideF wd p = r
  unfold wideF at hr
  by_cases h1 : wd = 1
  · subst h1
    rw [if_pos rfl] at hr
    have b1 := (bits_32 p hp).trans hr
    have b2 := (int_32 p).trans hr
    clear hr
    cases r
    all_goals
      go_enter Tryz.func245, Tryz.ntmps245
      go_wp2_with fail
      go_ret
      exact ⟨rfl, rfl⟩
  rw [if_neg h1] at hr
  have n1 : ((wd : Int) == 1) = false := by rw [beq_eq_false_iff_ne]; omega
  by_cases h2 : wd = 2
  · subst h2
    rw [if_pos rfl] at hr
    have b1 := (bits_16 p hp).trans hr
    have b2 := (int_16 p).trans hr
    clear hr
    cases r
    all_goals
      go_enter Tryz.func245, Tryz.ntmps245
      go_wp2_with fail
      go_ret
      exact ⟨rfl, rfl⟩
  rw [if_neg h2] at hr
  have n2 : ((wd : Int) == 2) = false := by rw [beq_eq_false_iff_ne]; omega
  subst hr
  clear h1 h2
  go_enter Tryz.func245, Tryz.ntmps245
  go_wp2_with fail
  go_ret
  exact ⟨rfl, rfl⟩
theorem rwide_any (wd p : Nat) (w : World) (hp : p < 256) : Calls Tryz.prog 65 #[.int .u8 wd, .int .u8 p] w fun e w' => e = .returned (.bool (wideF wd p)) ∧ w = w' := by
  generalize hr : wideF wd p = r
  unfold wideF at hr
  by_cases h1 : wd = 1
  · subst h1
    rw [if_pos rfl] at hr
    have b1 := (bits_32 p hp).trans hr
    have b2 := (int_32 p).trans hr
    clear hr
    cases r
    all_goals
      go_enter Tryz.func65, Tryz.ntmps65
      go_wp2_with fail
      go_ret
      exact ⟨rfl, rfl⟩
  rw [if_neg h1] at hr
  have n1 : ((wd : Int) == 1) = false := by rw [beq_eq_false_iff_ne]; omega
  by_cases h2 : wd = 2
  · subst h2
    rw [if_pos rfl] at hr
    have b1 := (bits_16 p hp).trans hr
    have b2 := (int_16 p).trans hr
    clear hr
    cases r
    all_goals
      go_enter Tryz.func65, Tryz.ntmps65
      go_wp2_with fail
      go_ret
      exact ⟨rfl, rfl⟩
  rw [if_neg h2] at hr
  have n2 : ((wd : Int) == 2) = false := by rw [beq_eq_false_iff_ne]; omega
  subst hr
  clear h1 h2
  go_enter Tryz.func65, Tryz.ntmps65
  go_wp2_with fail
  go_ret
  exact ⟨rfl, rfl⟩
end Go.Proofs.YtnacdaodjgdnnaaGreat.Cd
namespace Go.Proofs.YtnacdaodjgdnnaaGreat.Cd
open Go.RowKit
set_option maxRecDepth 1000000
set_option maxHeartbeats 400000
set_option linter.unusedVariables false

attribute [local irreducible] partF inF bytesN modeF nameF widthF useF wideF
/-- A code's value. -/
def codeV (cd : Nat) (nm : ByteArray) (m u wd : Nat) : Value := .agg #[.int .u8 cd, .string nm, .int .u8 m, .int .u8 u, .int .u8 wd]
theorem of_any (c : Nat) (w : World) (hc : c < 256) : Calls Tryz.prog 31 #[.int .u8 c] w fun e w' => e = .returned (codeV c (nameF c) (modeF c) (useF (nameF c).toList (modeF c)) (widthF (nameF c).toList)) ∧ Below w.heap.size w w' := by
  have hB := (Below.refl w.heap.size w).alloc (Nat.le_refl _) (.cells #[.int .u8 0, .string ⟨#[]⟩, .int .u8 0, .int .u8 0, .int .u8 0] 58)
  have hX := Whole.fresh w 58 #[.int .u8 0, .string ⟨#[]⟩, .int .u8 0, .int .u8 0, .int .u8 0]
  have HM := fun W => modeOf_any c W hc
  have HN := fun W => nameOf_any c W hc
  have HW := fun W => widthOf_any (nameF c) W
  have HU := fun W => useOf_any (nameF c) (modeF c) W
  generalize useF (nameF c).toList (modeF c) = u at *
  generalize modeF c = m at *
  generalize widthF (nameF c).toList = wd at *
  generalize nameF c = nm at *
  unfold codeV
  replace HM := Lib.hid HM
  replace HN := Lib.hid HN
  replace HW := Lib.hid HW
  replace HU := Lib.hid HU
  go_enter Tryz.func31, Tryz.ntmps31
  go_upto_region 1 with (fail)
  generalize (w.alloc (.cells #[.int .u8 0, .string ⟨#[]⟩, .int .u8 0, .int .u8 0, .int .u8 0] 58)) = W1 at *
  have f0 := hX.free 0
  have f1 := hX.free 1
  have f2 := hX.free 2
  have f3 := hX.free 3
  have f4 := hX.free 4
  have x0 := hX.cell 0
  have x1 := hX.cell 1
  have x2 := hX.cell 2
  have x3 := hX.cell 3
  have x4 := hX.cell 4
  simp only [List.getElem?_toArray, List.getElem?_cons_zero, List.getElem?_cons_succ] at x0 x1 x2 x3 x4
  have hZ := ((((hX.put 0 (.int .u8 c)).put 1 (.string nm)).put 2 (.int .u8 m)).put 3 (.int .u8 u)).put 4 (.int .u8 wd)
  have hBz := ((((hB.setCell (p := ⟨w.heap.size, 0, none⟩) (Nat.le_refl _) (.int .u8 c)).setCell (p := ⟨w.heap.size, 1, none⟩) (Nat.le_refl _) (.string nm)).setCell (p := ⟨w.heap.size, 2, none⟩) (Nat.le_refl _) (.int .u8 m)).setCell (p := ⟨w.heap.size, 3, none⟩) (Nat.le_refl _) (.int .u8 u)).setCell (p := ⟨w.heap.size, 4, none⟩) (Nat.le_refl _) (.int .u8 wd)
  have z0 := hZ.cell 0
  have z1 := hZ.cell 1
  have z2 := hZ.cell 2
  have z3 := hZ.cell 3
  have z4 := hZ.cell 4
  replace hBz := Lib.hid hBz
  clear hX hB hZ
  generalize hXe : w.heap.size = X at *
  replace hXe := Lib.hid hXe
  go_wp2_with fail
  with_reducible refine (HN.out _).mono ?_
  rintro e w' ⟨rfl, rfl⟩
  go_wp2_with fail
  with_reducible refine (HM.out _).mono ?_
  rintro e w' ⟨rfl, rfl⟩
  go_wp2_with fail
  with_reducible refine (HU.out _).mono ?_
  rintro e w' ⟨rfl, rfl⟩
  go_wp2_with fail
  with_reducible refine (HW.out _).mono ?_
  rintro e w' ⟨rfl, rfl⟩
  clear HN HM HU HW
  go_wp2_with fail
  exact bodyPost_ret (v := .agg #[.int .u8 c, .string nm, .int .u8 m, .int .u8 u, .int .u8 wd]) (by simp [results, Tryz.results31, go_sem, z0, z1, z2, z3, z4]) rfl ⟨rfl, by rw [hXe.out]; exact hBz.out⟩
end Go.Proofs.YtnacdaodjgdnnaaGreat.Cd
