/-
  What an instruction's text is, as a list of numbers.
-/
import Derived.Test.YtmbpkpideepghaaDoorBld2
import Derived.Test.YtmbpkpideepghaaDoorSame
import Derived.Test.YtmbpkpideepghaaDoorKey
namespace Go.Proofs.YtmbpkpideepghaaDoor
open Go.RowKit
set_option maxRecDepth 100000
set_option maxHeartbeats 1000000
set_option linter.unusedVariables false

/-- How a mode's operand is written. -/
def formL (m : Nat) : List Nat :=
  [[], [65], [35, 110], [116], [116], [110], [110, 44, 120], [110, 44, 121], [40, 110, 41], [91, 110, 93], [40, 110, 44, 120, 41], [40, 110, 41, 44, 121], [91, 110, 93, 44, 121],
   [110], [110, 44, 120], [110, 44, 121], [110], [110, 44, 120], [40, 110, 41], [91, 110, 93], [40, 110, 44, 120, 41], [110, 44, 115], [40, 110, 44, 115, 41, 44, 121], [49, 44, 50], [110], [110]].getD m []
theorem formB_list (m : Nat) (hm : m < 26) : formB m = bytesN (formL m) := by
  have h : ∀ m, m < 26 → Lib.trimRightB (((formsN.drop (7 * m)).take 7).map UInt8.ofNat) 32 = (formL m).map UInt8.ofNat := by decide +kernel
  unfold formB bytesN
  rw [h m hm]
theorem formL_ascii (m : Nat) : ∀ x ∈ formL m, x < 128 := by
  rcases Nat.lt_or_ge m 26 with h | h
  · exact (show ∀ m, m < 26 → ∀ x ∈ formL m, x < 128 by decide +kernel) m h
  · have : formL m = [] := by unfold formL; rw [List.getD_eq_getElem?_getD, List.getElem?_eq_none (by simpa using h)]; rfl
    rw [this]; intro x hx; cases hx
/-- What one sign of a form stands for: k bytes f, a target t. -/
def pieceL (k : Nat) (f : Nat → Nat) (t s : Nat) : List Nat :=
  if s = 110 then dolL (numN f k) (2 * k) (2 * k) else if s = 116 then dolL t 4 4 else if s = 49 then dolL (f 0) 2 2 else if s = 50 then dolL (f 1) 2 2 else [s]
def piecesL (k : Nat) (f : Nat → Nat) (t : Nat) (l : List Nat) : List Nat := l.flatMap (pieceL k f t)
theorem piecesL_snoc (k : Nat) (f : Nat → Nat) (t : Nat) (l : List Nat) (s : Nat) : piecesL k f t (l ++ [s]) = piecesL k f t l ++ pieceL k f t s := by simp [piecesL]
theorem pieceL_len (k : Nat) (f : Nat → Nat) (t s : Nat) (hk : k ≤ 3) : (pieceL k f t s).length ≤ 7 := by
  unfold pieceL
  split
  · rw [dolL_len]; omega
  · split
    · rw [dolL_len]; omega
    · split
      · rw [dolL_len]; omega
      · split
        · rw [dolL_len]; omega
        · simp
theorem pieceL_lt (k : Nat) (f : Nat → Nat) (t s : Nat) (hs : s < 128) : ∀ x ∈ pieceL k f t s, x < 256 := by
  unfold pieceL
  split
  · exact dolL_lt _ _ _
  · split
    · exact dolL_lt _ _ _
    · split
      · exact dolL_lt _ _ _
      · split
        · exact dolL_lt _ _ _
        · intro x hx
          rw [List.mem_singleton] at hx
          omega
theorem piecesL_lt (k : Nat) (f : Nat → Nat) (t : Nat) (l : List Nat) (h : ∀ x ∈ l, x < 128) : ∀ x ∈ piecesL k f t l, x < 256 := by
  intro x hx
  obtain ⟨s, hs, hx⟩ := List.mem_flatMap.1 hx
  exact pieceL_lt k f t s (h s hs) x hx
theorem piecesL_len (k : Nat) (f : Nat → Nat) (t : Nat) (l : List Nat) (hk : k ≤ 3) : (piecesL k f t l).length ≤ 7 * l.length := by
  induction l with
  | nil => simp [piecesL]
  | cons s l ih =>
    have := pieceL_len k f t s hk
    simp only [piecesL, List.flatMap_cons, List.length_append, List.length_cons] at *
    omega
/-- A byte with its sign, as sixteen bits. -/
def extN (x : Nat) : Nat := if x < 128 then x else x + 65280
/-- Where a branch of mode m with k bytes f at pc leads. -/
def tgN (m k : Nat) (f : Nat → Nat) (pc : Nat) : Nat := (pc + (k + 1) + (if m = 3 then extN (f 0) else numN f k)) % 65536
/-- An operand's text, by the mode. -/
def opL (m k : Nat) (f : Nat → Nat) (pc : Nat) : List Nat := piecesL k f (tgN m k f pc) (formL m)
/-- An instruction's text. -/
def textL (c k : Nat) (f : Nat → Nat) (pc : Nat) : List Nat := nameL c ++ (if modeF c = 0 then [] else 32 :: opL (modeF c) k f pc)
theorem bytesN_append (a b : List Nat) : bytesN (a ++ b) = bytesN a ++ bytesN b := by
  apply ByteArray.ext
  simp [bytesN, ByteArray.data_append]
theorem bytesN_toNat (S : ByteArray) : bytesN (S.data.toList.map UInt8.toNat) = S := (text_of rfl).symm
end Go.Proofs.YtmbpkpideepghaaDoor
