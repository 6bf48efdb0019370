/-
  No cell of these rows narrows 'for every input' (looked for: loops, veiled, ifaces, maps, wideKeys, modest, calm, conditions, laid).
  DERIVED. THE GIVEN ROWS OF THIS SEAT. 6 by the template 'for every input the law returns true; each argument reads behind the call as it read before'; 0 by the template 'total and deterministic' (their statements: YtnjbgnkbncjnlaaTotals.lean).
  GIVEN WITH THE SEED: the statements are not yours to turn. If you find one false, say at which input.
  Laid BY PROGRAM, IN A SANDBOX (cutbox-rows.mjs): the forced cells as the released guide's own fill.sh prints them over the translation 2379ba046ebf2752… (all of the seat's roots in one cut). By AI agents, Wed Nov 11 2026. No macro, syntax, notation, axiom, sorry.
-/
import Derived.Test.YtnjbgnkbncjnlaaChecked
import GoSem.Claim
import GoSem.ClaimJoined
import GoSem.ClaimMapViews
import Derived.JoinedTies
import Derived.KernelRfl
namespace Go.Proofs.Ytnjbgnkbncjnlaa
/- THE CELL 'sum', in the pinned program and in every row, IS THE sha256 OF THE DUMP (.gsa) THAT YtnjbgnkbncjnlaaProg.lean LOADS. Nothing in Lean hashes anything: it is a label: what it is worth is what the hold of that sum in a sandbox is worth. -/
noncomputable def Try.pinned : Pinned := { name := "ytnjbgnkbncjnlaa", sum := "2379ba046ebf275236c0bde7c65961e3a6df11c0ec5a34b556ce8119debe9dbe", checked := Try.checked }
namespace Rows
def none {H : Type} : Left H := { results := [], args := [] }

/-- 'lanthornlaw02.AluDoes': WHATEVER THE INPUT: true; the input reads as it did. -/
def aluDoesSpec : ChangeSpec := { name := "aluDoes", fn := fun _ => fun
  | [d1, d2, d3, d4] => { results := [.lit (.bool true)], args := [d1, d2, d3, d4] }
  | _ => none }
def aluDoesRow : OpenClaim := { program := "ytnjbgnkbncjnlaa", sum := "2379ba046ebf275236c0bde7c65961e3a6df11c0ec5a34b556ce8119debe9dbe", func := "lanthorn/lanthornlaw02.AluDoes", spec := "aluDoes", unfollowed := true, recurses := true, apart := false }
def AluDoesSaid : Prop := aluDoesRow.holds Try.pinned (OpenSpec.ofChange aluDoesSpec)

/-- ITS FALSE NEIGHBOUR: 'it returns false'. Refute it at one input. -/
def aluDoesWrong : ChangeSpec := { name := "aluDoes", fn := fun _ => fun
  | [d1, d2, d3, d4] => { results := [.lit (.bool false)], args := [d1, d2, d3, d4] }
  | _ => none }
def AluDoesWrongFalsely : Prop := aluDoesRow.holds Try.pinned (OpenSpec.ofChange aluDoesWrong)

/-- 'lanthornlaw02.AluDigits': WHATEVER THE INPUT: true; the input reads as it did. -/
def aluDigitsSpec : ChangeSpec := { name := "aluDigits", fn := fun _ => fun
  | [d1, d2, d3] => { results := [.lit (.bool true)], args := [d1, d2, d3] }
  | _ => none }
def aluDigitsRow : OpenClaim := { program := "ytnjbgnkbncjnlaa", sum := "2379ba046ebf275236c0bde7c65961e3a6df11c0ec5a34b556ce8119debe9dbe", func := "lanthorn/lanthornlaw02.AluDigits", spec := "aluDigits", unfollowed := true, recurses := true, apart := false }
def AluDigitsSaid : Prop := aluDigitsRow.holds Try.pinned (OpenSpec.ofChange aluDigitsSpec)

/-- ITS FALSE NEIGHBOUR: 'it returns false'. Refute it at one input. -/
def aluDigitsWrong : ChangeSpec := { name := "aluDigits", fn := fun _ => fun
  | [d1, d2, d3] => { results := [.lit (.bool false)], args := [d1, d2, d3] }
  | _ => none }
def AluDigitsWrongFalsely : Prop := aluDigitsRow.holds Try.pinned (OpenSpec.ofChange aluDigitsWrong)

/-- 'lanthornlaw02.AluTens': WHATEVER THE INPUT: true; the input reads as it did. -/
def aluTensSpec : ChangeSpec := { name := "aluTens", fn := fun _ => fun
  | [d1, d2, d3, d4] => { results := [.lit (.bool true)], args := [d1, d2, d3, d4] }
  | _ => none }
def aluTensRow : OpenClaim := { program := "ytnjbgnkbncjnlaa", sum := "2379ba046ebf275236c0bde7c65961e3a6df11c0ec5a34b556ce8119debe9dbe", func := "lanthorn/lanthornlaw02.AluTens", spec := "aluTens", unfollowed := true, recurses := true, apart := false }
def AluTensSaid : Prop := aluTensRow.holds Try.pinned (OpenSpec.ofChange aluTensSpec)

/-- ITS FALSE NEIGHBOUR: 'it returns false'. Refute it at one input. -/
def aluTensWrong : ChangeSpec := { name := "aluTens", fn := fun _ => fun
  | [d1, d2, d3, d4] => { results := [.lit (.bool false)], args := [d1, d2, d3, d4] }
  | _ => none }
def AluTensWrongFalsely : Prop := aluTensRow.holds Try.pinned (OpenSpec.ofChange aluTensWrong)

/-- 'lanthornlaw02.AluHalves': WHATEVER THE INPUT: true; the input reads as it did. -/
def aluHalvesSpec : ChangeSpec := { name := "aluHalves", fn := fun _ => fun
  | [d1, d2, d3, d4] => { results := [.lit (.bool true)], args := [d1, d2, d3, d4] }
  | _ => none }
def aluHalvesRow : OpenClaim := { program := "ytnjbgnkbncjnlaa", sum := "2379ba046ebf275236c0bde7c65961e3a6df11c0ec5a34b556ce8119debe9dbe", func := "lanthorn/lanthornlaw02.AluHalves", spec := "aluHalves", unfollowed := true, recurses := true, apart := false }
def AluHalvesSaid : Prop := aluHalvesRow.holds Try.pinned (OpenSpec.ofChange aluHalvesSpec)

/-- ITS FALSE NEIGHBOUR: 'it returns false'. Refute it at one input. -/
def aluHalvesWrong : ChangeSpec := { name := "aluHalves", fn := fun _ => fun
  | [d1, d2, d3, d4] => { results := [.lit (.bool false)], args := [d1, d2, d3, d4] }
  | _ => none }
def AluHalvesWrongFalsely : Prop := aluHalvesRow.holds Try.pinned (OpenSpec.ofChange aluHalvesWrong)

/-- 'lanthornlaw02.AluBack': WHATEVER THE INPUT: true; the input reads as it did. -/
def aluBackSpec : ChangeSpec := { name := "aluBack", fn := fun _ => fun
  | [d1, d2, d3, d4] => { results := [.lit (.bool true)], args := [d1, d2, d3, d4] }
  | _ => none }
def aluBackRow : OpenClaim := { program := "ytnjbgnkbncjnlaa", sum := "2379ba046ebf275236c0bde7c65961e3a6df11c0ec5a34b556ce8119debe9dbe", func := "lanthorn/lanthornlaw02.AluBack", spec := "aluBack", unfollowed := true, recurses := true, apart := false }
def AluBackSaid : Prop := aluBackRow.holds Try.pinned (OpenSpec.ofChange aluBackSpec)

/-- ITS FALSE NEIGHBOUR: 'it returns false'. Refute it at one input. -/
def aluBackWrong : ChangeSpec := { name := "aluBack", fn := fun _ => fun
  | [d1, d2, d3, d4] => { results := [.lit (.bool false)], args := [d1, d2, d3, d4] }
  | _ => none }
def AluBackWrongFalsely : Prop := aluBackRow.holds Try.pinned (OpenSpec.ofChange aluBackWrong)

/-- 'lanthornlaw02.AluCompares': WHATEVER THE INPUT: true; the input reads as it did. -/
def aluComparesSpec : ChangeSpec := { name := "aluCompares", fn := fun _ => fun
  | [d1, d2, d3] => { results := [.lit (.bool true)], args := [d1, d2, d3] }
  | _ => none }
def aluComparesRow : OpenClaim := { program := "ytnjbgnkbncjnlaa", sum := "2379ba046ebf275236c0bde7c65961e3a6df11c0ec5a34b556ce8119debe9dbe", func := "lanthorn/lanthornlaw02.AluCompares", spec := "aluCompares", unfollowed := true, recurses := true, apart := false }
def AluComparesSaid : Prop := aluComparesRow.holds Try.pinned (OpenSpec.ofChange aluComparesSpec)

/-- ITS FALSE NEIGHBOUR: 'it returns false'. Refute it at one input. -/
def aluComparesWrong : ChangeSpec := { name := "aluCompares", fn := fun _ => fun
  | [d1, d2, d3] => { results := [.lit (.bool false)], args := [d1, d2, d3] }
  | _ => none }
def AluComparesWrongFalsely : Prop := aluComparesRow.holds Try.pinned (OpenSpec.ofChange aluComparesWrong)

/- THE SECOND FORM. 'bulk': how many values and letters a reading holds, each counted each time it is reached (what is shared counts as often as it is met; a slice's spare places count too). A statement '..UptoSaid' is the law's where the arguments, and the package variables that the reading takes, are together of bulk at most 1048576: NARROWER than '..Said'. Prove '..Said' where nothing that the law and all that it calls make is longer than what came in: it says more and counts as full. Else prove '..UptoSaid'. A law counts once. -/
mutual
def uptoBulk {H : Type} : DataW H → Nat
  | .lit (.string bytes) => bytes.length + 1
  | .lit _ => 1
  | .nil => 1
  | .ptr d => uptoBulk d + 1
  | .slice elems spare => uptoBulkAll elems + uptoBulkAll spare + 1
  | .agg parts => uptoBulkAll parts + 1
  | .iface _ d => uptoBulk d + 1
  | .map entries => uptoBulkEntries entries + 1
  | .held _ => 1
def uptoBulkAll {H : Type} : List (DataW H) → Nat
  | [] => 0
  | d :: r => uptoBulk d + uptoBulkAll r
def uptoBulkEntries {H : Type} : List (Lit × DataW H) → Nat
  | [] => 0
  | x :: r => uptoBulkEntry x + uptoBulkEntries r
def uptoBulkEntry {H : Type} : Lit × DataW H → Nat
  | (.string bytes, d) => bytes.length + uptoBulk d + 1
  | (_, d) => uptoBulk d + 1
 end
def uptoSmall : (H : Type) → List (DataW H) → Bool := fun _ ds => decide (uptoBulkAll ds ≤ 1048576)
def OpenSpec.upto (s : _root_.Go.ChangeSpec) : _root_.Go.OpenSpec := { _root_.Go.OpenSpec.ofChange s with cond := some uptoSmall }

/-- 'lanthornlaw02.AluDoes', WHERE WHAT IT READS IS OF BULK AT MOST 1048576: true; the input reads as it did. -/
def aluDoesUptoRow : OpenClaim := { program := "ytnjbgnkbncjnlaa", sum := "2379ba046ebf275236c0bde7c65961e3a6df11c0ec5a34b556ce8119debe9dbe", func := "lanthorn/lanthornlaw02.AluDoes", spec := "aluDoes", unfollowed := true, recurses := true, apart := false, narrowed := true }
def AluDoesUptoSaid : Prop := aluDoesUptoRow.holds Try.pinned (OpenSpec.upto aluDoesSpec)

/-- 'lanthornlaw02.AluDigits', WHERE WHAT IT READS IS OF BULK AT MOST 1048576: true; the input reads as it did. -/
def aluDigitsUptoRow : OpenClaim := { program := "ytnjbgnkbncjnlaa", sum := "2379ba046ebf275236c0bde7c65961e3a6df11c0ec5a34b556ce8119debe9dbe", func := "lanthorn/lanthornlaw02.AluDigits", spec := "aluDigits", unfollowed := true, recurses := true, apart := false, narrowed := true }
def AluDigitsUptoSaid : Prop := aluDigitsUptoRow.holds Try.pinned (OpenSpec.upto aluDigitsSpec)

/-- 'lanthornlaw02.AluTens', WHERE WHAT IT READS IS OF BULK AT MOST 1048576: true; the input reads as it did. -/
def aluTensUptoRow : OpenClaim := { program := "ytnjbgnkbncjnlaa", sum := "2379ba046ebf275236c0bde7c65961e3a6df11c0ec5a34b556ce8119debe9dbe", func := "lanthorn/lanthornlaw02.AluTens", spec := "aluTens", unfollowed := true, recurses := true, apart := false, narrowed := true }
def AluTensUptoSaid : Prop := aluTensUptoRow.holds Try.pinned (OpenSpec.upto aluTensSpec)

/-- 'lanthornlaw02.AluHalves', WHERE WHAT IT READS IS OF BULK AT MOST 1048576: true; the input reads as it did. -/
def aluHalvesUptoRow : OpenClaim := { program := "ytnjbgnkbncjnlaa", sum := "2379ba046ebf275236c0bde7c65961e3a6df11c0ec5a34b556ce8119debe9dbe", func := "lanthorn/lanthornlaw02.AluHalves", spec := "aluHalves", unfollowed := true, recurses := true, apart := false, narrowed := true }
def AluHalvesUptoSaid : Prop := aluHalvesUptoRow.holds Try.pinned (OpenSpec.upto aluHalvesSpec)

/-- 'lanthornlaw02.AluBack', WHERE WHAT IT READS IS OF BULK AT MOST 1048576: true; the input reads as it did. -/
def aluBackUptoRow : OpenClaim := { program := "ytnjbgnkbncjnlaa", sum := "2379ba046ebf275236c0bde7c65961e3a6df11c0ec5a34b556ce8119debe9dbe", func := "lanthorn/lanthornlaw02.AluBack", spec := "aluBack", unfollowed := true, recurses := true, apart := false, narrowed := true }
def AluBackUptoSaid : Prop := aluBackUptoRow.holds Try.pinned (OpenSpec.upto aluBackSpec)

/-- 'lanthornlaw02.AluCompares', WHERE WHAT IT READS IS OF BULK AT MOST 1048576: true; the input reads as it did. -/
def aluComparesUptoRow : OpenClaim := { program := "ytnjbgnkbncjnlaa", sum := "2379ba046ebf275236c0bde7c65961e3a6df11c0ec5a34b556ce8119debe9dbe", func := "lanthorn/lanthornlaw02.AluCompares", spec := "aluCompares", unfollowed := true, recurses := true, apart := false, narrowed := true }
def AluComparesUptoSaid : Prop := aluComparesUptoRow.holds Try.pinned (OpenSpec.upto aluComparesSpec)

end Rows
end Go.Proofs.Ytnjbgnkbncjnlaa
