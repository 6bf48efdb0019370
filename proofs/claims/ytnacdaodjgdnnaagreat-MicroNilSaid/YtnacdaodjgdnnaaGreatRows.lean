/-
  No cell of these rows narrows 'for every input' (looked for: loops, veiled, ifaces, maps, wideKeys, modest, calm, conditions, laid).
  DERIVED. THE GIVEN ROWS OF THIS SEAT. 12 by the template 'for every input the law returns true; each argument reads behind the call as it read before'; 0 by the template 'total and deterministic' (their statements: YtnacdaodjgdnnaaGreatTotals.lean).
  GIVEN WITH THE SEED: the statements are not yours to turn. If you find one false, say at which input.
  Laid BY PROGRAM, IN A SANDBOX (cutbox-rows.mjs): the forced cells as the released guide's own fill.sh prints them over the translation 4594d82a06772d36… (all of the seat's roots in one cut). By AI agents, Wed Nov 11 2026. No macro, syntax, notation, axiom, sorry.
-/
import Derived.Test.YtnacdaodjgdnnaaGreatChecked
import GoSem.Claim
import GoSem.ClaimJoined
import GoSem.ClaimMapViews
import Derived.JoinedTies
import Derived.KernelRfl
namespace Go.Proofs.YtnacdaodjgdnnaaGreat
/- THE CELL 'sum', in the pinned program and in every row, IS THE sha256 OF THE DUMP (.gsa) THAT YtnacdaodjgdnnaaGreatProg.lean LOADS. Nothing in Lean hashes anything: it is a label: what it is worth is what the hold of that sum in a sandbox is worth. -/
noncomputable def Tryz.pinned : Pinned := { name := "ytnacdaodjgdnnaagreat", sum := "4594d82a06772d36aa2b840b5d3e0f1871a7721daf6882d1c6ad89d1bcd13973", checked := Tryz.checked }
namespace Rows
def none {H : Type} : Left H := { results := [], args := [] }

/-- 'lanthornlaw08.ExecCourses': WHATEVER THE INPUT: true; the input reads as it did. -/
def execCoursesSpec : ChangeSpec := { name := "execCourses", fn := fun _ => fun
  | [d1, d2] => { results := [.lit (.bool true)], args := [d1, d2] }
  | _ => none }
def execCoursesRow : OpenClaim := { program := "ytnacdaodjgdnnaagreat", sum := "4594d82a06772d36aa2b840b5d3e0f1871a7721daf6882d1c6ad89d1bcd13973", func := "lanthorn/lanthornlaw08.ExecCourses", spec := "execCourses", unfollowed := true, recurses := true, apart := false }
def ExecCoursesSaid : Prop := execCoursesRow.holds Tryz.pinned (OpenSpec.ofChange execCoursesSpec)

/-- ITS FALSE NEIGHBOUR: 'it returns false'. Refute it at one input. -/
def execCoursesWrong : ChangeSpec := { name := "execCourses", fn := fun _ => fun
  | [d1, d2] => { results := [.lit (.bool false)], args := [d1, d2] }
  | _ => none }
def ExecCoursesWrongFalsely : Prop := execCoursesRow.holds Tryz.pinned (OpenSpec.ofChange execCoursesWrong)

/-- 'lanthornlaw08.ExecEnters': WHATEVER THE INPUT: true; the input reads as it did. -/
def execEntersSpec : ChangeSpec := { name := "execEnters", fn := fun _ => fun
  | [d1, d2, d3] => { results := [.lit (.bool true)], args := [d1, d2, d3] }
  | _ => none }
def execEntersRow : OpenClaim := { program := "ytnacdaodjgdnnaagreat", sum := "4594d82a06772d36aa2b840b5d3e0f1871a7721daf6882d1c6ad89d1bcd13973", func := "lanthorn/lanthornlaw08.ExecEnters", spec := "execEnters", unfollowed := true, recurses := true, apart := false }
def ExecEntersSaid : Prop := execEntersRow.holds Tryz.pinned (OpenSpec.ofChange execEntersSpec)

/-- ITS FALSE NEIGHBOUR: 'it returns false'. Refute it at one input. -/
def execEntersWrong : ChangeSpec := { name := "execEnters", fn := fun _ => fun
  | [d1, d2, d3] => { results := [.lit (.bool false)], args := [d1, d2, d3] }
  | _ => none }
def ExecEntersWrongFalsely : Prop := execEntersRow.holds Tryz.pinned (OpenSpec.ofChange execEntersWrong)

/-- 'lanthornlaw08.ExecPrograms': WHATEVER THE INPUT: true; the input reads as it did. -/
def execProgramsSpec : ChangeSpec := { name := "execPrograms", fn := fun _ => fun
  | [d1, d2, d3] => { results := [.lit (.bool true)], args := [d1, d2, d3] }
  | _ => none }
def execProgramsRow : OpenClaim := { program := "ytnacdaodjgdnnaagreat", sum := "4594d82a06772d36aa2b840b5d3e0f1871a7721daf6882d1c6ad89d1bcd13973", func := "lanthorn/lanthornlaw08.ExecPrograms", spec := "execPrograms", unfollowed := true, recurses := true, apart := false }
def ExecProgramsSaid : Prop := execProgramsRow.holds Tryz.pinned (OpenSpec.ofChange execProgramsSpec)

/-- ITS FALSE NEIGHBOUR: 'it returns false'. Refute it at one input. -/
def execProgramsWrong : ChangeSpec := { name := "execPrograms", fn := fun _ => fun
  | [d1, d2, d3] => { results := [.lit (.bool false)], args := [d1, d2, d3] }
  | _ => none }
def ExecProgramsWrongFalsely : Prop := execProgramsRow.holds Tryz.pinned (OpenSpec.ofChange execProgramsWrong)

/-- 'lanthornlaw08.ExecGrows': WHATEVER THE INPUT: true; the input reads as it did. -/
def execGrowsSpec : ChangeSpec := { name := "execGrows", fn := fun _ => fun
  | [d1, d2] => { results := [.lit (.bool true)], args := [d1, d2] }
  | _ => none }
def execGrowsRow : OpenClaim := { program := "ytnacdaodjgdnnaagreat", sum := "4594d82a06772d36aa2b840b5d3e0f1871a7721daf6882d1c6ad89d1bcd13973", func := "lanthorn/lanthornlaw08.ExecGrows", spec := "execGrows", unfollowed := true, recurses := true, apart := false }
def ExecGrowsSaid : Prop := execGrowsRow.holds Tryz.pinned (OpenSpec.ofChange execGrowsSpec)

/-- ITS FALSE NEIGHBOUR: 'it returns false'. Refute it at one input. -/
def execGrowsWrong : ChangeSpec := { name := "execGrows", fn := fun _ => fun
  | [d1, d2] => { results := [.lit (.bool false)], args := [d1, d2] }
  | _ => none }
def ExecGrowsWrongFalsely : Prop := execGrowsRow.holds Tryz.pinned (OpenSpec.ofChange execGrowsWrong)

/-- 'lanthornlaw08.ExecStack': WHATEVER THE INPUT: true; the input reads as it did. -/
def execStackSpec : ChangeSpec := { name := "execStack", fn := fun _ => fun
  | [d1, d2, d3] => { results := [.lit (.bool true)], args := [d1, d2, d3] }
  | _ => none }
def execStackRow : OpenClaim := { program := "ytnacdaodjgdnnaagreat", sum := "4594d82a06772d36aa2b840b5d3e0f1871a7721daf6882d1c6ad89d1bcd13973", func := "lanthorn/lanthornlaw08.ExecStack", spec := "execStack", unfollowed := true, recurses := true, apart := false }
def ExecStackSaid : Prop := execStackRow.holds Tryz.pinned (OpenSpec.ofChange execStackSpec)

/-- ITS FALSE NEIGHBOUR: 'it returns false'. Refute it at one input. -/
def execStackWrong : ChangeSpec := { name := "execStack", fn := fun _ => fun
  | [d1, d2, d3] => { results := [.lit (.bool false)], args := [d1, d2, d3] }
  | _ => none }
def ExecStackWrongFalsely : Prop := execStackRow.holds Tryz.pinned (OpenSpec.ofChange execStackWrong)

/-- 'lanthornlaw08.ExecCalls': WHATEVER THE INPUT: true; the input reads as it did. -/
def execCallsSpec : ChangeSpec := { name := "execCalls", fn := fun _ => fun
  | [d1, d2, d3, d4] => { results := [.lit (.bool true)], args := [d1, d2, d3, d4] }
  | _ => none }
def execCallsRow : OpenClaim := { program := "ytnacdaodjgdnnaagreat", sum := "4594d82a06772d36aa2b840b5d3e0f1871a7721daf6882d1c6ad89d1bcd13973", func := "lanthorn/lanthornlaw08.ExecCalls", spec := "execCalls", unfollowed := true, recurses := true, apart := false }
def ExecCallsSaid : Prop := execCallsRow.holds Tryz.pinned (OpenSpec.ofChange execCallsSpec)

/-- ITS FALSE NEIGHBOUR: 'it returns false'. Refute it at one input. -/
def execCallsWrong : ChangeSpec := { name := "execCalls", fn := fun _ => fun
  | [d1, d2, d3, d4] => { results := [.lit (.bool false)], args := [d1, d2, d3, d4] }
  | _ => none }
def ExecCallsWrongFalsely : Prop := execCallsRow.holds Tryz.pinned (OpenSpec.ofChange execCallsWrong)

/-- 'lanthornlaw08.ExecQuiet': WHATEVER THE INPUT: true; the input reads as it did. -/
def execQuietSpec : ChangeSpec := { name := "execQuiet", fn := fun _ => fun
  | [d1, d2] => { results := [.lit (.bool true)], args := [d1, d2] }
  | _ => none }
def execQuietRow : OpenClaim := { program := "ytnacdaodjgdnnaagreat", sum := "4594d82a06772d36aa2b840b5d3e0f1871a7721daf6882d1c6ad89d1bcd13973", func := "lanthorn/lanthornlaw08.ExecQuiet", spec := "execQuiet", unfollowed := true, recurses := true, apart := false }
def ExecQuietSaid : Prop := execQuietRow.holds Tryz.pinned (OpenSpec.ofChange execQuietSpec)

/-- ITS FALSE NEIGHBOUR: 'it returns false'. Refute it at one input. -/
def execQuietWrong : ChangeSpec := { name := "execQuiet", fn := fun _ => fun
  | [d1, d2] => { results := [.lit (.bool false)], args := [d1, d2] }
  | _ => none }
def ExecQuietWrongFalsely : Prop := execQuietRow.holds Tryz.pinned (OpenSpec.ofChange execQuietWrong)

/-- 'lanthornlaw09.MicroScripts': WHATEVER THE INPUT: true; the input reads as it did. -/
def microScriptsSpec : ChangeSpec := { name := "microScripts", fn := fun _ => fun
  | [d1, d2] => { results := [.lit (.bool true)], args := [d1, d2] }
  | _ => none }
def microScriptsRow : OpenClaim := { program := "ytnacdaodjgdnnaagreat", sum := "4594d82a06772d36aa2b840b5d3e0f1871a7721daf6882d1c6ad89d1bcd13973", func := "lanthorn/lanthornlaw09.MicroScripts", spec := "microScripts", unfollowed := true, recurses := true, apart := false }
def MicroScriptsSaid : Prop := microScriptsRow.holds Tryz.pinned (OpenSpec.ofChange microScriptsSpec)

/-- ITS FALSE NEIGHBOUR: 'it returns false'. Refute it at one input. -/
def microScriptsWrong : ChangeSpec := { name := "microScripts", fn := fun _ => fun
  | [d1, d2] => { results := [.lit (.bool false)], args := [d1, d2] }
  | _ => none }
def MicroScriptsWrongFalsely : Prop := microScriptsRow.holds Tryz.pinned (OpenSpec.ofChange microScriptsWrong)

/-- 'lanthornlaw09.MicroLoads': WHATEVER THE INPUT: true; the input reads as it did. -/
def microLoadsSpec : ChangeSpec := { name := "microLoads", fn := fun _ => fun
  | [d1, d2] => { results := [.lit (.bool true)], args := [d1, d2] }
  | _ => none }
def microLoadsRow : OpenClaim := { program := "ytnacdaodjgdnnaagreat", sum := "4594d82a06772d36aa2b840b5d3e0f1871a7721daf6882d1c6ad89d1bcd13973", func := "lanthorn/lanthornlaw09.MicroLoads", spec := "microLoads", unfollowed := true, recurses := true, apart := false }
def MicroLoadsSaid : Prop := microLoadsRow.holds Tryz.pinned (OpenSpec.ofChange microLoadsSpec)

/-- ITS FALSE NEIGHBOUR: 'it returns false'. Refute it at one input. -/
def microLoadsWrong : ChangeSpec := { name := "microLoads", fn := fun _ => fun
  | [d1, d2] => { results := [.lit (.bool false)], args := [d1, d2] }
  | _ => none }
def MicroLoadsWrongFalsely : Prop := microLoadsRow.holds Tryz.pinned (OpenSpec.ofChange microLoadsWrong)

/-- 'lanthornlaw09.MicroTurns': WHATEVER THE INPUT: true; the input reads as it did. -/
def microTurnsSpec : ChangeSpec := { name := "microTurns", fn := fun _ => fun
  | [d1, d2] => { results := [.lit (.bool true)], args := [d1, d2] }
  | _ => none }
def microTurnsRow : OpenClaim := { program := "ytnacdaodjgdnnaagreat", sum := "4594d82a06772d36aa2b840b5d3e0f1871a7721daf6882d1c6ad89d1bcd13973", func := "lanthorn/lanthornlaw09.MicroTurns", spec := "microTurns", unfollowed := true, recurses := true, apart := false }
def MicroTurnsSaid : Prop := microTurnsRow.holds Tryz.pinned (OpenSpec.ofChange microTurnsSpec)

/-- ITS FALSE NEIGHBOUR: 'it returns false'. Refute it at one input. -/
def microTurnsWrong : ChangeSpec := { name := "microTurns", fn := fun _ => fun
  | [d1, d2] => { results := [.lit (.bool false)], args := [d1, d2] }
  | _ => none }
def MicroTurnsWrongFalsely : Prop := microTurnsRow.holds Tryz.pinned (OpenSpec.ofChange microTurnsWrong)

/-- 'lanthornlaw09.MicroSaves': WHATEVER THE INPUT: true; the input reads as it did. -/
def microSavesSpec : ChangeSpec := { name := "microSaves", fn := fun _ => fun
  | [d1, d2, d3, d4] => { results := [.lit (.bool true)], args := [d1, d2, d3, d4] }
  | _ => none }
def microSavesRow : OpenClaim := { program := "ytnacdaodjgdnnaagreat", sum := "4594d82a06772d36aa2b840b5d3e0f1871a7721daf6882d1c6ad89d1bcd13973", func := "lanthorn/lanthornlaw09.MicroSaves", spec := "microSaves", unfollowed := true, recurses := true, apart := false }
def MicroSavesSaid : Prop := microSavesRow.holds Tryz.pinned (OpenSpec.ofChange microSavesSpec)

/-- ITS FALSE NEIGHBOUR: 'it returns false'. Refute it at one input. -/
def microSavesWrong : ChangeSpec := { name := "microSaves", fn := fun _ => fun
  | [d1, d2, d3, d4] => { results := [.lit (.bool false)], args := [d1, d2, d3, d4] }
  | _ => none }
def MicroSavesWrongFalsely : Prop := microSavesRow.holds Tryz.pinned (OpenSpec.ofChange microSavesWrong)

/-- 'lanthornlaw09.MicroNil': WHATEVER THE INPUT: true; the input reads as it did. -/
def microNilSpec : ChangeSpec := { name := "microNil", fn := fun _ => fun
  | [d] => { results := [.lit (.bool true)], args := [d] }
  | _ => none }
def microNilRow : OpenClaim := { program := "ytnacdaodjgdnnaagreat", sum := "4594d82a06772d36aa2b840b5d3e0f1871a7721daf6882d1c6ad89d1bcd13973", func := "lanthorn/lanthornlaw09.MicroNil", spec := "microNil", unfollowed := true, recurses := true, apart := false }
def MicroNilSaid : Prop := microNilRow.holds Tryz.pinned (OpenSpec.ofChange microNilSpec)

/-- ITS FALSE NEIGHBOUR: 'it returns false'. Refute it at one input. -/
def microNilWrong : ChangeSpec := { name := "microNil", fn := fun _ => fun
  | [d] => { results := [.lit (.bool false)], args := [d] }
  | _ => none }
def MicroNilWrongFalsely : Prop := microNilRow.holds Tryz.pinned (OpenSpec.ofChange microNilWrong)

/- THE SECOND FORM. 'bulk': how many values and letters a reading holds, each counted each time it is reached (what is shared counts as often as it is met; a slice's spare places count too). A statement '..UptoSaid' is the law's where the arguments, and the package variables that the reading takes, are together of bulk at most 1048576: NARROWER than '..Said'. Prove '..Said' where nothing that the law and all that it calls make is longer than what came in: it says more and counts as full. Else prove '..UptoSaid'. A law counts once. -/
mutual
def uptoBulk {H : Type} : DataW H → Nat
  | .lit (.string bytes) => bytes.length + 1
  | .lit _ => 1
  | .nil => 1
  | .ptr d => uptoBulk d + 1
  | .slice elems spare => uptoBulkAll elems + uptoBulkAll spare + 1
  | .agg parts => uptoBulkAll parts + 1
  | .iface _ d => uptoBulk d + 1
  | .map entries => uptoBulkEntries entries + 1
  | .held _ => 1
def uptoBulkAll {H : Type} : List (DataW H) → Nat
  | [] => 0
  | d :: r => uptoBulk d + uptoBulkAll r
def uptoBulkEntries {H : Type} : List (Lit × DataW H) → Nat
  | [] => 0
  | x :: r => uptoBulkEntry x + uptoBulkEntries r
def uptoBulkEntry {H : Type} : Lit × DataW H → Nat
  | (.string bytes, d) => bytes.length + uptoBulk d + 1
  | (_, d) => uptoBulk d + 1
 end
def uptoSmall : (H : Type) → List (DataW H) → Bool := fun _ ds => decide (uptoBulkAll ds ≤ 1048576)
def OpenSpec.upto (s : _root_.Go.ChangeSpec) : _root_.Go.OpenSpec := { _root_.Go.OpenSpec.ofChange s with cond := some uptoSmall }

/-- 'lanthornlaw08.ExecCourses', WHERE WHAT IT READS IS OF BULK AT MOST 1048576: true; the input reads as it did. -/
def execCoursesUptoRow : OpenClaim := { program := "ytnacdaodjgdnnaagreat", sum := "4594d82a06772d36aa2b840b5d3e0f1871a7721daf6882d1c6ad89d1bcd13973", func := "lanthorn/lanthornlaw08.ExecCourses", spec := "execCourses", unfollowed := true, recurses := true, apart := false, narrowed := true }
def ExecCoursesUptoSaid : Prop := execCoursesUptoRow.holds Tryz.pinned (OpenSpec.upto execCoursesSpec)

/-- 'lanthornlaw08.ExecEnters', WHERE WHAT IT READS IS OF BULK AT MOST 1048576: true; the input reads as it did. -/
def execEntersUptoRow : OpenClaim := { program := "ytnacdaodjgdnnaagreat", sum := "4594d82a06772d36aa2b840b5d3e0f1871a7721daf6882d1c6ad89d1bcd13973", func := "lanthorn/lanthornlaw08.ExecEnters", spec := "execEnters", unfollowed := true, recurses := true, apart := false, narrowed := true }
def ExecEntersUptoSaid : Prop := execEntersUptoRow.holds Tryz.pinned (OpenSpec.upto execEntersSpec)

/-- 'lanthornlaw08.ExecPrograms', WHERE WHAT IT READS IS OF BULK AT MOST 1048576: true; the input reads as it did. -/
def execProgramsUptoRow : OpenClaim := { program := "ytnacdaodjgdnnaagreat", sum := "4594d82a06772d36aa2b840b5d3e0f1871a7721daf6882d1c6ad89d1bcd13973", func := "lanthorn/lanthornlaw08.ExecPrograms", spec := "execPrograms", unfollowed := true, recurses := true, apart := false, narrowed := true }
def ExecProgramsUptoSaid : Prop := execProgramsUptoRow.holds Tryz.pinned (OpenSpec.upto execProgramsSpec)

/-- 'lanthornlaw08.ExecGrows', WHERE WHAT IT READS IS OF BULK AT MOST 1048576: true; the input reads as it did. -/
def execGrowsUptoRow : OpenClaim := { program := "ytnacdaodjgdnnaagreat", sum := "4594d82a06772d36aa2b840b5d3e0f1871a7721daf6882d1c6ad89d1bcd13973", func := "lanthorn/lanthornlaw08.ExecGrows", spec := "execGrows", unfollowed := true, recurses := true, apart := false, narrowed := true }
def ExecGrowsUptoSaid : Prop := execGrowsUptoRow.holds Tryz.pinned (OpenSpec.upto execGrowsSpec)

/-- 'lanthornlaw08.ExecStack', WHERE WHAT IT READS IS OF BULK AT MOST 1048576: true; the input reads as it did. -/
def execStackUptoRow : OpenClaim := { program := "ytnacdaodjgdnnaagreat", sum := "4594d82a06772d36aa2b840b5d3e0f1871a7721daf6882d1c6ad89d1bcd13973", func := "lanthorn/lanthornlaw08.ExecStack", spec := "execStack", unfollowed := true, recurses := true, apart := false, narrowed := true }
def ExecStackUptoSaid : Prop := execStackUptoRow.holds Tryz.pinned (OpenSpec.upto execStackSpec)

/-- 'lanthornlaw08.ExecCalls', WHERE WHAT IT READS IS OF BULK AT MOST 1048576: true; the input reads as it did. -/
def execCallsUptoRow : OpenClaim := { program := "ytnacdaodjgdnnaagreat", sum := "4594d82a06772d36aa2b840b5d3e0f1871a7721daf6882d1c6ad89d1bcd13973", func := "lanthorn/lanthornlaw08.ExecCalls", spec := "execCalls", unfollowed := true, recurses := true, apart := false, narrowed := true }
def ExecCallsUptoSaid : Prop := execCallsUptoRow.holds Tryz.pinned (OpenSpec.upto execCallsSpec)

/-- 'lanthornlaw08.ExecQuiet', WHERE WHAT IT READS IS OF BULK AT MOST 1048576: true; the input reads as it did. -/
def execQuietUptoRow : OpenClaim := { program := "ytnacdaodjgdnnaagreat", sum := "4594d82a06772d36aa2b840b5d3e0f1871a7721daf6882d1c6ad89d1bcd13973", func := "lanthorn/lanthornlaw08.ExecQuiet", spec := "execQuiet", unfollowed := true, recurses := true, apart := false, narrowed := true }
def ExecQuietUptoSaid : Prop := execQuietUptoRow.holds Tryz.pinned (OpenSpec.upto execQuietSpec)

/-- 'lanthornlaw09.MicroScripts', WHERE WHAT IT READS IS OF BULK AT MOST 1048576: true; the input reads as it did. -/
def microScriptsUptoRow : OpenClaim := { program := "ytnacdaodjgdnnaagreat", sum := "4594d82a06772d36aa2b840b5d3e0f1871a7721daf6882d1c6ad89d1bcd13973", func := "lanthorn/lanthornlaw09.MicroScripts", spec := "microScripts", unfollowed := true, recurses := true, apart := false, narrowed := true }
def MicroScriptsUptoSaid : Prop := microScriptsUptoRow.holds Tryz.pinned (OpenSpec.upto microScriptsSpec)

/-- 'lanthornlaw09.MicroLoads', WHERE WHAT IT READS IS OF BULK AT MOST 1048576: true; the input reads as it did. -/
def microLoadsUptoRow : OpenClaim := { program := "ytnacdaodjgdnnaagreat", sum := "4594d82a06772d36aa2b840b5d3e0f1871a7721daf6882d1c6ad89d1bcd13973", func := "lanthorn/lanthornlaw09.MicroLoads", spec := "microLoads", unfollowed := true, recurses := true, apart := false, narrowed := true }
def MicroLoadsUptoSaid : Prop := microLoadsUptoRow.holds Tryz.pinned (OpenSpec.upto microLoadsSpec)

/-- 'lanthornlaw09.MicroTurns', WHERE WHAT IT READS IS OF BULK AT MOST 1048576: true; the input reads as it did. -/
def microTurnsUptoRow : OpenClaim := { program := "ytnacdaodjgdnnaagreat", sum := "4594d82a06772d36aa2b840b5d3e0f1871a7721daf6882d1c6ad89d1bcd13973", func := "lanthorn/lanthornlaw09.MicroTurns", spec := "microTurns", unfollowed := true, recurses := true, apart := false, narrowed := true }
def MicroTurnsUptoSaid : Prop := microTurnsUptoRow.holds Tryz.pinned (OpenSpec.upto microTurnsSpec)

/-- 'lanthornlaw09.MicroSaves', WHERE WHAT IT READS IS OF BULK AT MOST 1048576: true; the input reads as it did. -/
def microSavesUptoRow : OpenClaim := { program := "ytnacdaodjgdnnaagreat", sum := "4594d82a06772d36aa2b840b5d3e0f1871a7721daf6882d1c6ad89d1bcd13973", func := "lanthorn/lanthornlaw09.MicroSaves", spec := "microSaves", unfollowed := true, recurses := true, apart := false, narrowed := true }
def MicroSavesUptoSaid : Prop := microSavesUptoRow.holds Tryz.pinned (OpenSpec.upto microSavesSpec)

/-- 'lanthornlaw09.MicroNil', WHERE WHAT IT READS IS OF BULK AT MOST 1048576: true; the input reads as it did. -/
def microNilUptoRow : OpenClaim := { program := "ytnacdaodjgdnnaagreat", sum := "4594d82a06772d36aa2b840b5d3e0f1871a7721daf6882d1c6ad89d1bcd13973", func := "lanthorn/lanthornlaw09.MicroNil", spec := "microNil", unfollowed := true, recurses := true, apart := false, narrowed := true }
def MicroNilUptoSaid : Prop := microNilUptoRow.holds Tryz.pinned (OpenSpec.upto microNilSpec)

end Rows
end Go.Proofs.YtnacdaodjgdnnaaGreat
