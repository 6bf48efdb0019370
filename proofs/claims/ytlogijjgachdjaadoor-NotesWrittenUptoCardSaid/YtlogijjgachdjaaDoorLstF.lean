/-
  All lines of bytes, as lists of numbers.
-/
import Derived.Test.YtlogijjgachdjaaDoorRTxt
import Derived.Laws.OwnMore
namespace Go.Proofs.YtlogijjgachdjaaDoor
open Go.RowKit
set_option maxRecDepth 100000
set_option maxHeartbeats 4000000
set_option linter.unusedVariables false

/-- A line: an instruction; a byte that is none. -/
def lnI (at_ : Nat) (f : Nat → Nat) (k : Nat) : List Nat := hxL ((at_ + k) % 65536) 4 ++ [32] ++ txL (f k) ((at_ + k) % 65536) (fun j => f (k + j))
def lnQ (at_ : Nat) (f : Nat → Nat) (k : Nat) : List Nat := hxL ((at_ + k) % 65536) 4 ++ [32, 63, 32] ++ hxL (f k) 2
def restL (at_ : Nat) (f : Nat → Nat) : Nat → Nat → List (List Nat)
  | 0, _ => []
  | m + 1, k => lnQ at_ f k :: restL at_ f m (k + 1)
def lstG (n at_ : Nat) (f : Nat → Nat) : Nat → Nat → List (List Nat)
  | 0, _ => []
  | m + 1, k => if n ≤ k then [] else if okN (n - k) (fun j => f (k + j)) = true then lnI at_ f k :: lstG n at_ f m (k + szF (f k)) else restL at_ f (n - k) k
theorem lstG_end (n at_ : Nat) (f : Nat → Nat) (m k : Nat) (h : n ≤ k) : lstG n at_ f m k = [] := by
  cases m with
  | zero => rfl
  | succ m => rw [lstG, if_pos h]
theorem szF_pos (c : Nat) (hc : c < 256) : 1 ≤ szF c := (show ∀ c, c < 256 → 1 ≤ szF c by decide +kernel) c hc
def strV (l : List (List Nat)) : List Value := l.map fun x => .string (bsOf x)
theorem strV_snoc (l : List (List Nat)) (x : List Nat) : strV l ++ [.string (bsOf x)] = strV (l ++ [x]) := by simp [strV]
theorem info_partsS : (Tryd.prog.info? 9).map (fun i => (i.zero, i.size, i.bytes)) = some (some (.string ⟨#[]⟩), 1, 16) := by kernel_rfl
theorem Row.shift {w : World} {g o n : Nat} {f : Nat → Nat} (hg : g < w.heap.size) (hb : ∀ i, i < n → f i < 256) (hc : ∀ i, i < n → w.cell? ⟨g, o + i, none⟩ = some (.int .u8 (f i : Nat))) (k : Nat) : Row w (some ⟨g, o + k, none⟩) (n - k) (fun j => f (k + j)) :=
  ⟨fun i hi => hb _ (by omega), .inr ⟨g, o + k, rfl, hg, fun i hi => by rw [Nat.add_assoc]; exact hc _ (by omega)⟩⟩
end Go.Proofs.YtlogijjgachdjaaDoor
