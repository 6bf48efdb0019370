/-
  The code's and the document's codes are the same: 256 facts over lists of numbers.
-/
import Derived.Test.YtmbpkpideepghaaDoorROf
namespace Go.Proofs.YtmbpkpideepghaaDoor
open Go.RowKit
set_option maxRecDepth 1000000
set_option maxHeartbeats 4000000
set_option linter.unusedVariables false

def modeL (l : List Nat) : Nat → Nat
  | 0 => 0
  | k + 1 => if 3 < l.length ∧ ((((l.drop 4).take (l.length - 4)).map UInt8.ofNat) == ((partL 124 signN (k + 1)).map UInt8.ofNat)) = true then k + 1 else modeL l k
theorem signN_byte : ∀ x ∈ signN, x < 256 := by decide +kernel
theorem signB_list (l : List Nat) (m : Nat) : signB (bytesN l) m = ((((l.drop 4).take (l.length - 4)).map UInt8.ofNat) == ((partL 124 signN m).map UInt8.ofNat)) := by
  unfold signB signF
  rw [partF_list _ signN_byte, bytesN_extract, bytesN_list, bytesN_list, bytesN_size]
theorem mode_list (l : List Nat) : ∀ k, modeAcc (bytesN l) k = modeL l k
  | 0 => rfl
  | k + 1 => by rw [modeAcc_succ, modeL, mode_list l k, signB_list, bytesN_size]
def inL (s : List UInt8) (l : List Nat) : Nat → Nat → Bool
  | 0, _ => false
  | k + 1, i => if 4 * i + 3 ≤ l.length then (if (((l.drop (4 * i)).take (4 * i + 3 - 4 * i)).map UInt8.ofNat == s) = true then true else inL s l k (i + 1)) else false
theorem inG_list (s : List UInt8) (l : List Nat) : ∀ k i, inG s (bytesN l) k i = inL s l k i
  | 0, _ => rfl
  | k + 1, i => by rw [inG, inL, bytesN_size, bytesN_extract, bytesN_list, inG_list s l k (i + 1)]
theorem inF_list (s : List UInt8) (l : List Nat) : inF s (bytesN l) = inL s l (l.length + 1) 0 := by
  unfold inF
  rw [bytesN_size, inG_list]
def nameL (c : Nat) : List Nat := (namesN.drop (4 * c)).take (4 * c + 3 - 4 * c)
theorem nameF_list (c : Nat) : nameF c = bytesN (nameL c) := by
  show (bytesN namesN).extract (4 * c) (4 * c + 3) = _
  rw [bytesN_extract]
  rfl
theorem name_toList (c : Nat) : (nameF c).toList = (nameL c).map UInt8.ofNat := by rw [nameF_list, bytesN_list]
theorem name_same (c : Nat) (hc : c < 256) : docName c = nameF c := by
  show (docS c).extract 0 3 = _
  rw [docS_list c hc, bytesN_extract, nameF_list]
  exact congrArg bytesN ((show ∀ c : Nat, c < 256 → (List.drop 0 (docL c)).take (3 - 0) = nameL c by decide +kernel) c hc)
theorem mode_same (c : Nat) (hc : c < 256) : modeAcc (docS c) 25 = modeF c := by
  rw [docS_list c hc, mode_list]
  exact (show ∀ c : Nat, c < 256 → modeL (docL c) 25 = modeF c by decide +kernel) c hc
def widthL (s : List UInt8) : Nat := if inL s allM (allM.length + 1) 0 = true then 1 else if inL s allX (allX.length + 1) 0 = true then 2 else if (s == [82, 69, 80]) = true then 3 else if (s == [83, 69, 80]) = true then 3 else 0
theorem width_list (s : List UInt8) : docWidthF s = widthL s := by
  unfold docWidthF widthL
  rw [inF_list, inF_list]
theorem width_same (c : Nat) (hc : c < 256) : docWidthF (nameF c).toList = widthF (nameF c).toList := by
  rw [width_list, name_toList]
  exact (show ∀ c : Nat, c < 256 → widthL ((nameL c).map UInt8.ofNat) = widthF ((nameL c).map UInt8.ofNat) by decide +kernel) c hc
def useL (s : List UInt8) (m wd : Nat) : Nat := if m ≤ 2 ∨ wd = 0 then 0 else if inL s allW (allW.length + 1) 0 = true then 2 else if inL s allC (allC.length + 1) 0 = true then 3 else 1
theorem use_list (s : List UInt8) (m wd : Nat) : docUseF s m wd = useL s m wd := by
  unfold docUseF useL
  rw [inF_list, inF_list]
theorem use_same (c : Nat) (hc : c < 256) : docUseF (nameF c).toList (modeF c) (widthF (nameF c).toList) = useF (nameF c).toList (modeF c) := by
  rw [use_list, name_toList]
  exact (show ∀ c : Nat, c < 256 → useL ((nameL c).map UInt8.ofNat) (modeF c) (widthF ((nameL c).map UInt8.ofNat)) = useF ((nameL c).map UInt8.ofNat) (modeF c) by decide +kernel) c hc
/-- The document's code is the code's. -/
theorem rof_same (c : Nat) (w : World) (hc : c < 256) : Calls Tryd.prog 11 #[.int .u8 c] w fun e w' => e = .returned (codeV c (nameF c) (modeF c) (useF (nameF c).toList (modeF c)) (widthF (nameF c).toList)) ∧ Below w.heap.size w w' := by
  have h := rof_any c w hc
  rw [name_same c hc, mode_same c hc, width_same c hc, use_same c hc] at h
  exact h
end Go.Proofs.YtmbpkpideepghaaDoor
