/-
  NARROWER THAN 'FOR EVERY INPUT', by the rows' own cells (each row's printed sentence says how): TuneCourses: laid · TuneRuns: laid · TuneGrows: laid · TuneCycles: laid · PlayerSteps: laid · PlayerRuns: laid · PlayerWhole: laid · PlayerParts: laid · PlayerSaved: laid · PlayerRefuses: laid · PlayerNil: laid.
  DERIVED. THE GIVEN ROWS OF THIS SEAT. 11 by the template 'for every input the law returns true; each argument reads behind the call as it read before'; 0 by the template 'total and deterministic' (their statements: YtknlbmjncginnaaGreatDoorTotals.lean).
  GIVEN WITH THE SEED: the statements are not yours to turn. If you find one false, say at which input.
  Laid BY PROGRAM, IN A SANDBOX (cutbox-rows.mjs): the forced cells as the released guide's own fill.sh prints them over the translation 5dd4752b88aedbd3… (all of the seat's roots in one cut). By AI agents, Wed Nov 11 2026. No macro, syntax, notation, axiom, sorry.
-/
import Derived.Test.YtknlbmjncginnaaGreatDoorChecked
import GoSem.PinnedTables
import GoSem.Claim
import GoSem.ClaimJoined
import GoSem.ClaimMapViews
import Derived.JoinedTies
import Derived.KernelRfl
namespace Go.Proofs.YtknlbmjncginnaaGreatDoor
/- THE CELL 'sum', in the pinned program and in every row, IS THE sha256 OF THE DUMP (.gsa) THAT YtknlbmjncginnaaGreatDoorProg.lean LOADS. Nothing in Lean hashes anything: it is a label: what it is worth is what the hold of that sum in a sandbox is worth. -/
noncomputable def Tryz.pinned : Pinned := { name := "ytknlbmjncginnaagreatdoor", sum := "5dd4752b88aedbd309cf06de4651d9b129d62fe319f4765baa390f994d8d9f76", checked := Tryz.checked }
namespace Rows
def none {H : Type} : Left H := { results := [], args := [] }

/- WHAT THE LISTED PACKAGE-LEVEL VARIABLES READ AS WHEN THE CALL BEGINS. Each datum BY PROGRAM (the guide's laid-datum.mjs) off the statement by which the dump's own 'gosem.cut.vars' lays the variable. In a bare row this is a premise. The card (YtknlbmjncginnaaGreatDoorCards.lean) ties it to the program's text. -/
def laid_unicode_utf8_acceptRanges {H : Type} : DataW H := .agg [.agg [.lit (.int .u8 128), .lit (.int .u8 191)], .agg [.lit (.int .u8 160), .lit (.int .u8 191)], .agg [.lit (.int .u8 128), .lit (.int .u8 159)], .agg [.lit (.int .u8 144), .lit (.int .u8 191)], .agg [.lit (.int .u8 128), .lit (.int .u8 143)], .agg [.lit (.int .u8 0), .lit (.int .u8 0)], .agg [.lit (.int .u8 0), .lit (.int .u8 0)], .agg [.lit (.int .u8 0), .lit (.int .u8 0)], .agg [.lit (.int .u8 0), .lit (.int .u8 0)], .agg [.lit (.int .u8 0), .lit (.int .u8 0)], .agg [.lit (.int .u8 0), .lit (.int .u8 0)], .agg [.lit (.int .u8 0), .lit (.int .u8 0)], .agg [.lit (.int .u8 0), .lit (.int .u8 0)], .agg [.lit (.int .u8 0), .lit (.int .u8 0)], .agg [.lit (.int .u8 0), .lit (.int .u8 0)], .agg [.lit (.int .u8 0), .lit (.int .u8 0)]]
/-- One of Go's own tables, pinned by name: the form's constant. -/
def laid_unicode_utf8_first : DataW Unit := Go.Pinned.utf8First

/-- 'lanthornlaw11.TuneCourses': WHATEVER THE INPUT: true; the input reads as it did. -/
def tuneCoursesSpec : ChangeSpec := { name := "tuneCourses", fn := fun _ => fun
  | [d1, d2] => { results := [.lit (.bool true)], args := [d1, d2] }
  | _ => none }
def tuneCoursesRow : OpenClaim := { program := "ytknlbmjncginnaagreatdoor", sum := "5dd4752b88aedbd309cf06de4651d9b129d62fe319f4765baa390f994d8d9f76", func := "lanthorn/lanthornlaw11.TuneCourses", spec := "tuneCourses", inPlace := ["internal/bytealg.IndexByteString", "internal/bytealg.IndexString"], unfollowed := true, recurses := true, named := ["unicode/utf8.first", "unicode/utf8.acceptRanges", "internal/bytealg.MaxLen"], apart := false, laid := [("unicode/utf8.acceptRanges", laid_unicode_utf8_acceptRanges), ("unicode/utf8.first", laid_unicode_utf8_first)] }
def TuneCoursesSaid : Prop := tuneCoursesRow.holds Tryz.pinned (OpenSpec.ofChange tuneCoursesSpec)

/-- ITS FALSE NEIGHBOUR: 'it returns false'. Refute it at one input. -/
def tuneCoursesWrong : ChangeSpec := { name := "tuneCourses", fn := fun _ => fun
  | [d1, d2] => { results := [.lit (.bool false)], args := [d1, d2] }
  | _ => none }
def TuneCoursesWrongFalsely : Prop := tuneCoursesRow.holds Tryz.pinned (OpenSpec.ofChange tuneCoursesWrong)

/-- 'lanthornlaw11.TuneRuns': WHATEVER THE INPUT: true; the input reads as it did. -/
def tuneRunsSpec : ChangeSpec := { name := "tuneRuns", fn := fun _ => fun
  | [d1, d2, d3] => { results := [.lit (.bool true)], args := [d1, d2, d3] }
  | _ => none }
def tuneRunsRow : OpenClaim := { program := "ytknlbmjncginnaagreatdoor", sum := "5dd4752b88aedbd309cf06de4651d9b129d62fe319f4765baa390f994d8d9f76", func := "lanthorn/lanthornlaw11.TuneRuns", spec := "tuneRuns", inPlace := ["internal/bytealg.IndexByteString", "internal/bytealg.IndexString"], unfollowed := true, recurses := true, named := ["unicode/utf8.first", "unicode/utf8.acceptRanges", "internal/bytealg.MaxLen"], apart := false, laid := [("unicode/utf8.acceptRanges", laid_unicode_utf8_acceptRanges), ("unicode/utf8.first", laid_unicode_utf8_first)] }
def TuneRunsSaid : Prop := tuneRunsRow.holds Tryz.pinned (OpenSpec.ofChange tuneRunsSpec)

/-- ITS FALSE NEIGHBOUR: 'it returns false'. Refute it at one input. -/
def tuneRunsWrong : ChangeSpec := { name := "tuneRuns", fn := fun _ => fun
  | [d1, d2, d3] => { results := [.lit (.bool false)], args := [d1, d2, d3] }
  | _ => none }
def TuneRunsWrongFalsely : Prop := tuneRunsRow.holds Tryz.pinned (OpenSpec.ofChange tuneRunsWrong)

/-- 'lanthornlaw11.TuneGrows': WHATEVER THE INPUT: true; the input reads as it did. -/
def tuneGrowsSpec : ChangeSpec := { name := "tuneGrows", fn := fun _ => fun
  | [d1, d2, d3] => { results := [.lit (.bool true)], args := [d1, d2, d3] }
  | _ => none }
def tuneGrowsRow : OpenClaim := { program := "ytknlbmjncginnaagreatdoor", sum := "5dd4752b88aedbd309cf06de4651d9b129d62fe319f4765baa390f994d8d9f76", func := "lanthorn/lanthornlaw11.TuneGrows", spec := "tuneGrows", inPlace := ["internal/bytealg.IndexByteString", "internal/bytealg.IndexString"], unfollowed := true, recurses := true, named := ["unicode/utf8.first", "unicode/utf8.acceptRanges", "internal/bytealg.MaxLen"], apart := false, laid := [("unicode/utf8.acceptRanges", laid_unicode_utf8_acceptRanges), ("unicode/utf8.first", laid_unicode_utf8_first)] }
def TuneGrowsSaid : Prop := tuneGrowsRow.holds Tryz.pinned (OpenSpec.ofChange tuneGrowsSpec)

/-- ITS FALSE NEIGHBOUR: 'it returns false'. Refute it at one input. -/
def tuneGrowsWrong : ChangeSpec := { name := "tuneGrows", fn := fun _ => fun
  | [d1, d2, d3] => { results := [.lit (.bool false)], args := [d1, d2, d3] }
  | _ => none }
def TuneGrowsWrongFalsely : Prop := tuneGrowsRow.holds Tryz.pinned (OpenSpec.ofChange tuneGrowsWrong)

/-- 'lanthornlaw11.TuneCycles': WHATEVER THE INPUT: true; the input reads as it did. -/
def tuneCyclesSpec : ChangeSpec := { name := "tuneCycles", fn := fun _ => fun
  | [d1, d2, d3] => { results := [.lit (.bool true)], args := [d1, d2, d3] }
  | _ => none }
def tuneCyclesRow : OpenClaim := { program := "ytknlbmjncginnaagreatdoor", sum := "5dd4752b88aedbd309cf06de4651d9b129d62fe319f4765baa390f994d8d9f76", func := "lanthorn/lanthornlaw11.TuneCycles", spec := "tuneCycles", inPlace := ["internal/bytealg.IndexByteString", "internal/bytealg.IndexString"], unfollowed := true, recurses := true, named := ["unicode/utf8.first", "unicode/utf8.acceptRanges", "internal/bytealg.MaxLen"], apart := false, laid := [("unicode/utf8.acceptRanges", laid_unicode_utf8_acceptRanges), ("unicode/utf8.first", laid_unicode_utf8_first)] }
def TuneCyclesSaid : Prop := tuneCyclesRow.holds Tryz.pinned (OpenSpec.ofChange tuneCyclesSpec)

/-- ITS FALSE NEIGHBOUR: 'it returns false'. Refute it at one input. -/
def tuneCyclesWrong : ChangeSpec := { name := "tuneCycles", fn := fun _ => fun
  | [d1, d2, d3] => { results := [.lit (.bool false)], args := [d1, d2, d3] }
  | _ => none }
def TuneCyclesWrongFalsely : Prop := tuneCyclesRow.holds Tryz.pinned (OpenSpec.ofChange tuneCyclesWrong)

/-- 'lanthornlaw12.PlayerSteps': WHATEVER THE INPUT: true; the input reads as it did. -/
def playerStepsSpec : ChangeSpec := { name := "playerSteps", fn := fun _ => fun
  | [d1, d2] => { results := [.lit (.bool true)], args := [d1, d2] }
  | _ => none }
def playerStepsRow : OpenClaim := { program := "ytknlbmjncginnaagreatdoor", sum := "5dd4752b88aedbd309cf06de4651d9b129d62fe319f4765baa390f994d8d9f76", func := "lanthorn/lanthornlaw12.PlayerSteps", spec := "playerSteps", inPlace := ["internal/bytealg.IndexByteString", "internal/bytealg.IndexString"], unfollowed := true, recurses := true, named := ["unicode/utf8.first", "unicode/utf8.acceptRanges", "internal/bytealg.MaxLen"], apart := false, laid := [("unicode/utf8.acceptRanges", laid_unicode_utf8_acceptRanges), ("unicode/utf8.first", laid_unicode_utf8_first)] }
def PlayerStepsSaid : Prop := playerStepsRow.holds Tryz.pinned (OpenSpec.ofChange playerStepsSpec)

/-- ITS FALSE NEIGHBOUR: 'it returns false'. Refute it at one input. -/
def playerStepsWrong : ChangeSpec := { name := "playerSteps", fn := fun _ => fun
  | [d1, d2] => { results := [.lit (.bool false)], args := [d1, d2] }
  | _ => none }
def PlayerStepsWrongFalsely : Prop := playerStepsRow.holds Tryz.pinned (OpenSpec.ofChange playerStepsWrong)

/-- 'lanthornlaw12.PlayerRuns': WHATEVER THE INPUT: true; the input reads as it did. -/
def playerRunsSpec : ChangeSpec := { name := "playerRuns", fn := fun _ => fun
  | [d1, d2] => { results := [.lit (.bool true)], args := [d1, d2] }
  | _ => none }
def playerRunsRow : OpenClaim := { program := "ytknlbmjncginnaagreatdoor", sum := "5dd4752b88aedbd309cf06de4651d9b129d62fe319f4765baa390f994d8d9f76", func := "lanthorn/lanthornlaw12.PlayerRuns", spec := "playerRuns", inPlace := ["internal/bytealg.IndexByteString", "internal/bytealg.IndexString"], unfollowed := true, recurses := true, named := ["unicode/utf8.first", "unicode/utf8.acceptRanges", "internal/bytealg.MaxLen"], apart := false, laid := [("unicode/utf8.acceptRanges", laid_unicode_utf8_acceptRanges), ("unicode/utf8.first", laid_unicode_utf8_first)] }
def PlayerRunsSaid : Prop := playerRunsRow.holds Tryz.pinned (OpenSpec.ofChange playerRunsSpec)

/-- ITS FALSE NEIGHBOUR: 'it returns false'. Refute it at one input. -/
def playerRunsWrong : ChangeSpec := { name := "playerRuns", fn := fun _ => fun
  | [d1, d2] => { results := [.lit (.bool false)], args := [d1, d2] }
  | _ => none }
def PlayerRunsWrongFalsely : Prop := playerRunsRow.holds Tryz.pinned (OpenSpec.ofChange playerRunsWrong)

/-- 'lanthornlaw12.PlayerWhole': WHATEVER THE INPUT: true; the input reads as it did. -/
def playerWholeSpec : ChangeSpec := { name := "playerWhole", fn := fun _ => fun
  | [d1, d2] => { results := [.lit (.bool true)], args := [d1, d2] }
  | _ => none }
def playerWholeRow : OpenClaim := { program := "ytknlbmjncginnaagreatdoor", sum := "5dd4752b88aedbd309cf06de4651d9b129d62fe319f4765baa390f994d8d9f76", func := "lanthorn/lanthornlaw12.PlayerWhole", spec := "playerWhole", inPlace := ["internal/bytealg.IndexByteString", "internal/bytealg.IndexString"], unfollowed := true, recurses := true, named := ["unicode/utf8.first", "unicode/utf8.acceptRanges", "internal/bytealg.MaxLen"], apart := false, laid := [("unicode/utf8.acceptRanges", laid_unicode_utf8_acceptRanges), ("unicode/utf8.first", laid_unicode_utf8_first)] }
def PlayerWholeSaid : Prop := playerWholeRow.holds Tryz.pinned (OpenSpec.ofChange playerWholeSpec)

/-- ITS FALSE NEIGHBOUR: 'it returns false'. Refute it at one input. -/
def playerWholeWrong : ChangeSpec := { name := "playerWhole", fn := fun _ => fun
  | [d1, d2] => { results := [.lit (.bool false)], args := [d1, d2] }
  | _ => none }
def PlayerWholeWrongFalsely : Prop := playerWholeRow.holds Tryz.pinned (OpenSpec.ofChange playerWholeWrong)

/-- 'lanthornlaw12.PlayerParts': WHATEVER THE INPUT: true; the input reads as it did. -/
def playerPartsSpec : ChangeSpec := { name := "playerParts", fn := fun _ => fun
  | [d1, d2] => { results := [.lit (.bool true)], args := [d1, d2] }
  | _ => none }
def playerPartsRow : OpenClaim := { program := "ytknlbmjncginnaagreatdoor", sum := "5dd4752b88aedbd309cf06de4651d9b129d62fe319f4765baa390f994d8d9f76", func := "lanthorn/lanthornlaw12.PlayerParts", spec := "playerParts", inPlace := ["internal/bytealg.IndexByteString", "internal/bytealg.IndexString"], unfollowed := true, recurses := true, named := ["unicode/utf8.first", "unicode/utf8.acceptRanges", "internal/bytealg.MaxLen"], apart := false, laid := [("unicode/utf8.acceptRanges", laid_unicode_utf8_acceptRanges), ("unicode/utf8.first", laid_unicode_utf8_first)] }
def PlayerPartsSaid : Prop := playerPartsRow.holds Tryz.pinned (OpenSpec.ofChange playerPartsSpec)

/-- ITS FALSE NEIGHBOUR: 'it returns false'. Refute it at one input. -/
def playerPartsWrong : ChangeSpec := { name := "playerParts", fn := fun _ => fun
  | [d1, d2] => { results := [.lit (.bool false)], args := [d1, d2] }
  | _ => none }
def PlayerPartsWrongFalsely : Prop := playerPartsRow.holds Tryz.pinned (OpenSpec.ofChange playerPartsWrong)

/-- 'lanthornlaw12.PlayerSaved': WHATEVER THE INPUT: true; the input reads as it did. -/
def playerSavedSpec : ChangeSpec := { name := "playerSaved", fn := fun _ => fun
  | [d] => { results := [.lit (.bool true)], args := [d] }
  | _ => none }
def playerSavedRow : OpenClaim := { program := "ytknlbmjncginnaagreatdoor", sum := "5dd4752b88aedbd309cf06de4651d9b129d62fe319f4765baa390f994d8d9f76", func := "lanthorn/lanthornlaw12.PlayerSaved", spec := "playerSaved", inPlace := ["internal/bytealg.IndexByteString", "internal/bytealg.IndexString"], unfollowed := true, recurses := true, named := ["unicode/utf8.first", "unicode/utf8.acceptRanges", "internal/bytealg.MaxLen"], apart := false, laid := [("unicode/utf8.acceptRanges", laid_unicode_utf8_acceptRanges), ("unicode/utf8.first", laid_unicode_utf8_first)] }
def PlayerSavedSaid : Prop := playerSavedRow.holds Tryz.pinned (OpenSpec.ofChange playerSavedSpec)

/-- ITS FALSE NEIGHBOUR: 'it returns false'. Refute it at one input. -/
def playerSavedWrong : ChangeSpec := { name := "playerSaved", fn := fun _ => fun
  | [d] => { results := [.lit (.bool false)], args := [d] }
  | _ => none }
def PlayerSavedWrongFalsely : Prop := playerSavedRow.holds Tryz.pinned (OpenSpec.ofChange playerSavedWrong)

/-- 'lanthornlaw12.PlayerRefuses': WHATEVER THE INPUT: true; the input reads as it did. -/
def playerRefusesSpec : ChangeSpec := { name := "playerRefuses", fn := fun _ => fun
  | [d1, d2] => { results := [.lit (.bool true)], args := [d1, d2] }
  | _ => none }
def playerRefusesRow : OpenClaim := { program := "ytknlbmjncginnaagreatdoor", sum := "5dd4752b88aedbd309cf06de4651d9b129d62fe319f4765baa390f994d8d9f76", func := "lanthorn/lanthornlaw12.PlayerRefuses", spec := "playerRefuses", inPlace := ["internal/bytealg.IndexByteString", "internal/bytealg.IndexString"], unfollowed := true, recurses := true, named := ["unicode/utf8.first", "unicode/utf8.acceptRanges", "internal/bytealg.MaxLen"], apart := false, laid := [("unicode/utf8.acceptRanges", laid_unicode_utf8_acceptRanges), ("unicode/utf8.first", laid_unicode_utf8_first)] }
def PlayerRefusesSaid : Prop := playerRefusesRow.holds Tryz.pinned (OpenSpec.ofChange playerRefusesSpec)

/-- ITS FALSE NEIGHBOUR: 'it returns false'. Refute it at one input. -/
def playerRefusesWrong : ChangeSpec := { name := "playerRefuses", fn := fun _ => fun
  | [d1, d2] => { results := [.lit (.bool false)], args := [d1, d2] }
  | _ => none }
def PlayerRefusesWrongFalsely : Prop := playerRefusesRow.holds Tryz.pinned (OpenSpec.ofChange playerRefusesWrong)

/-- 'lanthornlaw12.PlayerNil': WHATEVER THE INPUT: true; the input reads as it did. -/
def playerNilSpec : ChangeSpec := { name := "playerNil", fn := fun _ => fun
  | [d1, d2] => { results := [.lit (.bool true)], args := [d1, d2] }
  | _ => none }
def playerNilRow : OpenClaim := { program := "ytknlbmjncginnaagreatdoor", sum := "5dd4752b88aedbd309cf06de4651d9b129d62fe319f4765baa390f994d8d9f76", func := "lanthorn/lanthornlaw12.PlayerNil", spec := "playerNil", inPlace := ["internal/bytealg.IndexByteString", "internal/bytealg.IndexString"], unfollowed := true, recurses := true, named := ["unicode/utf8.first", "unicode/utf8.acceptRanges", "internal/bytealg.MaxLen"], apart := false, laid := [("unicode/utf8.acceptRanges", laid_unicode_utf8_acceptRanges), ("unicode/utf8.first", laid_unicode_utf8_first)] }
def PlayerNilSaid : Prop := playerNilRow.holds Tryz.pinned (OpenSpec.ofChange playerNilSpec)

/-- ITS FALSE NEIGHBOUR: 'it returns false'. Refute it at one input. -/
def playerNilWrong : ChangeSpec := { name := "playerNil", fn := fun _ => fun
  | [d1, d2] => { results := [.lit (.bool false)], args := [d1, d2] }
  | _ => none }
def PlayerNilWrongFalsely : Prop := playerNilRow.holds Tryz.pinned (OpenSpec.ofChange playerNilWrong)

/- THE SECOND FORM. 'bulk': how many values and letters a reading holds, each counted each time it is reached (what is shared counts as often as it is met; a slice's spare places count too). A statement '..UptoSaid' is the law's where the arguments, and the package variables that the reading takes, are together of bulk at most 1048576: NARROWER than '..Said'. Prove '..Said' where nothing that the law and all that it calls make is longer than what came in: it says more and counts as full. Else prove '..UptoSaid'. A law counts once. -/
mutual
def uptoBulk {H : Type} : DataW H → Nat
  | .lit (.string bytes) => bytes.length + 1
  | .lit _ => 1
  | .nil => 1
  | .ptr d => uptoBulk d + 1
  | .slice elems spare => uptoBulkAll elems + uptoBulkAll spare + 1
  | .agg parts => uptoBulkAll parts + 1
  | .iface _ d => uptoBulk d + 1
  | .map entries => uptoBulkEntries entries + 1
  | .held _ => 1
def uptoBulkAll {H : Type} : List (DataW H) → Nat
  | [] => 0
  | d :: r => uptoBulk d + uptoBulkAll r
def uptoBulkEntries {H : Type} : List (Lit × DataW H) → Nat
  | [] => 0
  | x :: r => uptoBulkEntry x + uptoBulkEntries r
def uptoBulkEntry {H : Type} : Lit × DataW H → Nat
  | (.string bytes, d) => bytes.length + uptoBulk d + 1
  | (_, d) => uptoBulk d + 1
 end
def uptoSmall : (H : Type) → List (DataW H) → Bool := fun _ ds => decide (uptoBulkAll ds ≤ 1048576)
def OpenSpec.upto (s : _root_.Go.ChangeSpec) : _root_.Go.OpenSpec := { _root_.Go.OpenSpec.ofChange s with cond := some uptoSmall }

/-- 'lanthornlaw11.TuneCourses', WHERE WHAT IT READS IS OF BULK AT MOST 1048576: true; the input reads as it did. -/
def tuneCoursesUptoRow : OpenClaim := { program := "ytknlbmjncginnaagreatdoor", sum := "5dd4752b88aedbd309cf06de4651d9b129d62fe319f4765baa390f994d8d9f76", func := "lanthorn/lanthornlaw11.TuneCourses", spec := "tuneCourses", inPlace := ["internal/bytealg.IndexByteString", "internal/bytealg.IndexString"], unfollowed := true, recurses := true, named := ["unicode/utf8.first", "unicode/utf8.acceptRanges", "internal/bytealg.MaxLen"], apart := false, laid := [("unicode/utf8.acceptRanges", laid_unicode_utf8_acceptRanges), ("unicode/utf8.first", laid_unicode_utf8_first)], narrowed := true }
def TuneCoursesUptoSaid : Prop := tuneCoursesUptoRow.holds Tryz.pinned (OpenSpec.upto tuneCoursesSpec)

/-- 'lanthornlaw11.TuneRuns', WHERE WHAT IT READS IS OF BULK AT MOST 1048576: true; the input reads as it did. -/
def tuneRunsUptoRow : OpenClaim := { program := "ytknlbmjncginnaagreatdoor", sum := "5dd4752b88aedbd309cf06de4651d9b129d62fe319f4765baa390f994d8d9f76", func := "lanthorn/lanthornlaw11.TuneRuns", spec := "tuneRuns", inPlace := ["internal/bytealg.IndexByteString", "internal/bytealg.IndexString"], unfollowed := true, recurses := true, named := ["unicode/utf8.first", "unicode/utf8.acceptRanges", "internal/bytealg.MaxLen"], apart := false, laid := [("unicode/utf8.acceptRanges", laid_unicode_utf8_acceptRanges), ("unicode/utf8.first", laid_unicode_utf8_first)], narrowed := true }
def TuneRunsUptoSaid : Prop := tuneRunsUptoRow.holds Tryz.pinned (OpenSpec.upto tuneRunsSpec)

/-- 'lanthornlaw11.TuneGrows', WHERE WHAT IT READS IS OF BULK AT MOST 1048576: true; the input reads as it did. -/
def tuneGrowsUptoRow : OpenClaim := { program := "ytknlbmjncginnaagreatdoor", sum := "5dd4752b88aedbd309cf06de4651d9b129d62fe319f4765baa390f994d8d9f76", func := "lanthorn/lanthornlaw11.TuneGrows", spec := "tuneGrows", inPlace := ["internal/bytealg.IndexByteString", "internal/bytealg.IndexString"], unfollowed := true, recurses := true, named := ["unicode/utf8.first", "unicode/utf8.acceptRanges", "internal/bytealg.MaxLen"], apart := false, laid := [("unicode/utf8.acceptRanges", laid_unicode_utf8_acceptRanges), ("unicode/utf8.first", laid_unicode_utf8_first)], narrowed := true }
def TuneGrowsUptoSaid : Prop := tuneGrowsUptoRow.holds Tryz.pinned (OpenSpec.upto tuneGrowsSpec)

/-- 'lanthornlaw11.TuneCycles', WHERE WHAT IT READS IS OF BULK AT MOST 1048576: true; the input reads as it did. -/
def tuneCyclesUptoRow : OpenClaim := { program := "ytknlbmjncginnaagreatdoor", sum := "5dd4752b88aedbd309cf06de4651d9b129d62fe319f4765baa390f994d8d9f76", func := "lanthorn/lanthornlaw11.TuneCycles", spec := "tuneCycles", inPlace := ["internal/bytealg.IndexByteString", "internal/bytealg.IndexString"], unfollowed := true, recurses := true, named := ["unicode/utf8.first", "unicode/utf8.acceptRanges", "internal/bytealg.MaxLen"], apart := false, laid := [("unicode/utf8.acceptRanges", laid_unicode_utf8_acceptRanges), ("unicode/utf8.first", laid_unicode_utf8_first)], narrowed := true }
def TuneCyclesUptoSaid : Prop := tuneCyclesUptoRow.holds Tryz.pinned (OpenSpec.upto tuneCyclesSpec)

/-- 'lanthornlaw12.PlayerSteps', WHERE WHAT IT READS IS OF BULK AT MOST 1048576: true; the input reads as it did. -/
def playerStepsUptoRow : OpenClaim := { program := "ytknlbmjncginnaagreatdoor", sum := "5dd4752b88aedbd309cf06de4651d9b129d62fe319f4765baa390f994d8d9f76", func := "lanthorn/lanthornlaw12.PlayerSteps", spec := "playerSteps", inPlace := ["internal/bytealg.IndexByteString", "internal/bytealg.IndexString"], unfollowed := true, recurses := true, named := ["unicode/utf8.first", "unicode/utf8.acceptRanges", "internal/bytealg.MaxLen"], apart := false, laid := [("unicode/utf8.acceptRanges", laid_unicode_utf8_acceptRanges), ("unicode/utf8.first", laid_unicode_utf8_first)], narrowed := true }
def PlayerStepsUptoSaid : Prop := playerStepsUptoRow.holds Tryz.pinned (OpenSpec.upto playerStepsSpec)

/-- 'lanthornlaw12.PlayerRuns', WHERE WHAT IT READS IS OF BULK AT MOST 1048576: true; the input reads as it did. -/
def playerRunsUptoRow : OpenClaim := { program := "ytknlbmjncginnaagreatdoor", sum := "5dd4752b88aedbd309cf06de4651d9b129d62fe319f4765baa390f994d8d9f76", func := "lanthorn/lanthornlaw12.PlayerRuns", spec := "playerRuns", inPlace := ["internal/bytealg.IndexByteString", "internal/bytealg.IndexString"], unfollowed := true, recurses := true, named := ["unicode/utf8.first", "unicode/utf8.acceptRanges", "internal/bytealg.MaxLen"], apart := false, laid := [("unicode/utf8.acceptRanges", laid_unicode_utf8_acceptRanges), ("unicode/utf8.first", laid_unicode_utf8_first)], narrowed := true }
def PlayerRunsUptoSaid : Prop := playerRunsUptoRow.holds Tryz.pinned (OpenSpec.upto playerRunsSpec)

/-- 'lanthornlaw12.PlayerWhole', WHERE WHAT IT READS IS OF BULK AT MOST 1048576: true; the input reads as it did. -/
def playerWholeUptoRow : OpenClaim := { program := "ytknlbmjncginnaagreatdoor", sum := "5dd4752b88aedbd309cf06de4651d9b129d62fe319f4765baa390f994d8d9f76", func := "lanthorn/lanthornlaw12.PlayerWhole", spec := "playerWhole", inPlace := ["internal/bytealg.IndexByteString", "internal/bytealg.IndexString"], unfollowed := true, recurses := true, named := ["unicode/utf8.first", "unicode/utf8.acceptRanges", "internal/bytealg.MaxLen"], apart := false, laid := [("unicode/utf8.acceptRanges", laid_unicode_utf8_acceptRanges), ("unicode/utf8.first", laid_unicode_utf8_first)], narrowed := true }
def PlayerWholeUptoSaid : Prop := playerWholeUptoRow.holds Tryz.pinned (OpenSpec.upto playerWholeSpec)

/-- 'lanthornlaw12.PlayerParts', WHERE WHAT IT READS IS OF BULK AT MOST 1048576: true; the input reads as it did. -/
def playerPartsUptoRow : OpenClaim := { program := "ytknlbmjncginnaagreatdoor", sum := "5dd4752b88aedbd309cf06de4651d9b129d62fe319f4765baa390f994d8d9f76", func := "lanthorn/lanthornlaw12.PlayerParts", spec := "playerParts", inPlace := ["internal/bytealg.IndexByteString", "internal/bytealg.IndexString"], unfollowed := true, recurses := true, named := ["unicode/utf8.first", "unicode/utf8.acceptRanges", "internal/bytealg.MaxLen"], apart := false, laid := [("unicode/utf8.acceptRanges", laid_unicode_utf8_acceptRanges), ("unicode/utf8.first", laid_unicode_utf8_first)], narrowed := true }
def PlayerPartsUptoSaid : Prop := playerPartsUptoRow.holds Tryz.pinned (OpenSpec.upto playerPartsSpec)

/-- 'lanthornlaw12.PlayerSaved', WHERE WHAT IT READS IS OF BULK AT MOST 1048576: true; the input reads as it did. -/
def playerSavedUptoRow : OpenClaim := { program := "ytknlbmjncginnaagreatdoor", sum := "5dd4752b88aedbd309cf06de4651d9b129d62fe319f4765baa390f994d8d9f76", func := "lanthorn/lanthornlaw12.PlayerSaved", spec := "playerSaved", inPlace := ["internal/bytealg.IndexByteString", "internal/bytealg.IndexString"], unfollowed := true, recurses := true, named := ["unicode/utf8.first", "unicode/utf8.acceptRanges", "internal/bytealg.MaxLen"], apart := false, laid := [("unicode/utf8.acceptRanges", laid_unicode_utf8_acceptRanges), ("unicode/utf8.first", laid_unicode_utf8_first)], narrowed := true }
def PlayerSavedUptoSaid : Prop := playerSavedUptoRow.holds Tryz.pinned (OpenSpec.upto playerSavedSpec)

/-- 'lanthornlaw12.PlayerRefuses', WHERE WHAT IT READS IS OF BULK AT MOST 1048576: true; the input reads as it did. -/
def playerRefusesUptoRow : OpenClaim := { program := "ytknlbmjncginnaagreatdoor", sum := "5dd4752b88aedbd309cf06de4651d9b129d62fe319f4765baa390f994d8d9f76", func := "lanthorn/lanthornlaw12.PlayerRefuses", spec := "playerRefuses", inPlace := ["internal/bytealg.IndexByteString", "internal/bytealg.IndexString"], unfollowed := true, recurses := true, named := ["unicode/utf8.first", "unicode/utf8.acceptRanges", "internal/bytealg.MaxLen"], apart := false, laid := [("unicode/utf8.acceptRanges", laid_unicode_utf8_acceptRanges), ("unicode/utf8.first", laid_unicode_utf8_first)], narrowed := true }
def PlayerRefusesUptoSaid : Prop := playerRefusesUptoRow.holds Tryz.pinned (OpenSpec.upto playerRefusesSpec)

/-- 'lanthornlaw12.PlayerNil', WHERE WHAT IT READS IS OF BULK AT MOST 1048576: true; the input reads as it did. -/
def playerNilUptoRow : OpenClaim := { program := "ytknlbmjncginnaagreatdoor", sum := "5dd4752b88aedbd309cf06de4651d9b129d62fe319f4765baa390f994d8d9f76", func := "lanthorn/lanthornlaw12.PlayerNil", spec := "playerNil", inPlace := ["internal/bytealg.IndexByteString", "internal/bytealg.IndexString"], unfollowed := true, recurses := true, named := ["unicode/utf8.first", "unicode/utf8.acceptRanges", "internal/bytealg.MaxLen"], apart := false, laid := [("unicode/utf8.acceptRanges", laid_unicode_utf8_acceptRanges), ("unicode/utf8.first", laid_unicode_utf8_first)], narrowed := true }
def PlayerNilUptoSaid : Prop := playerNilUptoRow.holds Tryz.pinned (OpenSpec.upto playerNilSpec)

end Rows
end Go.Proofs.YtknlbmjncginnaaGreatDoor
