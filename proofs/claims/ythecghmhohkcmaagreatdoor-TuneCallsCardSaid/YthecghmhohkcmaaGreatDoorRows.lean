/-
  NARROWER THAN 'FOR EVERY INPUT', by the rows' own cells (each row's printed sentence says how): TuneCourses: laid · TuneRuns: laid · TuneGrows: laid · TuneCycles: laid · TuneCalls: laid · TuneSums: laid.
  DERIVED. THE GIVEN ROWS OF THIS SEAT. 6 by the template 'for every input the law returns true; each argument reads behind the call as it read before'; 0 by the template 'total and deterministic' (their statements: YthecghmhohkcmaaGreatDoorTotals.lean).
  GIVEN WITH THE SEED: the statements are not yours to turn. If you find one false, say at which input.
  Laid BY PROGRAM, IN A SANDBOX (cutbox-rows.mjs): the forced cells as the released guide's own fill.sh prints them over the translation 8c6aba577adaefc6… (all of the seat's roots in one cut). By AI agents, Wed Nov 11 2026. No macro, syntax, notation, axiom, sorry.
-/
import Derived.Test.YthecghmhohkcmaaGreatDoorChecked
import GoSem.PinnedTables
import GoSem.Claim
import GoSem.ClaimJoined
import GoSem.ClaimMapViews
import Derived.JoinedTies
import Derived.KernelRfl
namespace Go.Proofs.YthecghmhohkcmaaGreatDoor
/- THE CELL 'sum', in the pinned program and in every row, IS THE sha256 OF THE DUMP (.gsa) THAT YthecghmhohkcmaaGreatDoorProg.lean LOADS. Nothing in Lean hashes anything: it is a label: what it is worth is what the hold of that sum in a sandbox is worth. -/
noncomputable def Tryz.pinned : Pinned := { name := "ythecghmhohkcmaagreatdoor", sum := "8c6aba577adaefc6dd22536413001b9bda246bb27e5083f91655682c61ea1bf8", checked := Tryz.checked }
namespace Rows
def none {H : Type} : Left H := { results := [], args := [] }

/- WHAT THE LISTED PACKAGE-LEVEL VARIABLES READ AS WHEN THE CALL BEGINS. Each datum BY PROGRAM (the guide's laid-datum.mjs) off the statement by which the dump's own 'gosem.cut.vars' lays the variable. In a bare row this is a premise. The card (YthecghmhohkcmaaGreatDoorCards.lean) ties it to the program's text. -/
def laid_unicode_utf8_acceptRanges {H : Type} : DataW H := .agg [.agg [.lit (.int .u8 128), .lit (.int .u8 191)], .agg [.lit (.int .u8 160), .lit (.int .u8 191)], .agg [.lit (.int .u8 128), .lit (.int .u8 159)], .agg [.lit (.int .u8 144), .lit (.int .u8 191)], .agg [.lit (.int .u8 128), .lit (.int .u8 143)], .agg [.lit (.int .u8 0), .lit (.int .u8 0)], .agg [.lit (.int .u8 0), .lit (.int .u8 0)], .agg [.lit (.int .u8 0), .lit (.int .u8 0)], .agg [.lit (.int .u8 0), .lit (.int .u8 0)], .agg [.lit (.int .u8 0), .lit (.int .u8 0)], .agg [.lit (.int .u8 0), .lit (.int .u8 0)], .agg [.lit (.int .u8 0), .lit (.int .u8 0)], .agg [.lit (.int .u8 0), .lit (.int .u8 0)], .agg [.lit (.int .u8 0), .lit (.int .u8 0)], .agg [.lit (.int .u8 0), .lit (.int .u8 0)], .agg [.lit (.int .u8 0), .lit (.int .u8 0)]]
/-- One of Go's own tables, pinned by name: the form's constant. -/
def laid_unicode_utf8_first : DataW Unit := Go.Pinned.utf8First

/-- 'lanthornlaw11.TuneCourses': WHATEVER THE INPUT: true; the input reads as it did. -/
def tuneCoursesSpec : ChangeSpec := { name := "tuneCourses", fn := fun _ => fun
  | [d1, d2] => { results := [.lit (.bool true)], args := [d1, d2] }
  | _ => none }
def tuneCoursesRow : OpenClaim := { program := "ythecghmhohkcmaagreatdoor", sum := "8c6aba577adaefc6dd22536413001b9bda246bb27e5083f91655682c61ea1bf8", func := "lanthorn/lanthornlaw11.TuneCourses", spec := "tuneCourses", inPlace := ["internal/bytealg.IndexByteString", "internal/bytealg.IndexString"], unfollowed := true, recurses := true, named := ["unicode/utf8.first", "unicode/utf8.acceptRanges", "internal/bytealg.MaxLen"], apart := false, laid := [("unicode/utf8.acceptRanges", laid_unicode_utf8_acceptRanges), ("unicode/utf8.first", laid_unicode_utf8_first)] }
def TuneCoursesSaid : Prop := tuneCoursesRow.holds Tryz.pinned (OpenSpec.ofChange tuneCoursesSpec)

/-- ITS FALSE NEIGHBOUR: 'it returns false'. Refute it at one input. -/
def tuneCoursesWrong : ChangeSpec := { name := "tuneCourses", fn := fun _ => fun
  | [d1, d2] => { results := [.lit (.bool false)], args := [d1, d2] }
  | _ => none }
def TuneCoursesWrongFalsely : Prop := tuneCoursesRow.holds Tryz.pinned (OpenSpec.ofChange tuneCoursesWrong)

/-- 'lanthornlaw11.TuneRuns': WHATEVER THE INPUT: true; the input reads as it did. -/
def tuneRunsSpec : ChangeSpec := { name := "tuneRuns", fn := fun _ => fun
  | [d1, d2, d3] => { results := [.lit (.bool true)], args := [d1, d2, d3] }
  | _ => none }
def tuneRunsRow : OpenClaim := { program := "ythecghmhohkcmaagreatdoor", sum := "8c6aba577adaefc6dd22536413001b9bda246bb27e5083f91655682c61ea1bf8", func := "lanthorn/lanthornlaw11.TuneRuns", spec := "tuneRuns", inPlace := ["internal/bytealg.IndexByteString", "internal/bytealg.IndexString"], unfollowed := true, recurses := true, named := ["unicode/utf8.first", "unicode/utf8.acceptRanges", "internal/bytealg.MaxLen"], apart := false, laid := [("unicode/utf8.acceptRanges", laid_unicode_utf8_acceptRanges), ("unicode/utf8.first", laid_unicode_utf8_first)] }
def TuneRunsSaid : Prop := tuneRunsRow.holds Tryz.pinned (OpenSpec.ofChange tuneRunsSpec)

/-- ITS FALSE NEIGHBOUR: 'it returns false'. Refute it at one input. -/
def tuneRunsWrong : ChangeSpec := { name := "tuneRuns", fn := fun _ => fun
  | [d1, d2, d3] => { results := [.lit (.bool false)], args := [d1, d2, d3] }
  | _ => none }
def TuneRunsWrongFalsely : Prop := tuneRunsRow.holds Tryz.pinned (OpenSpec.ofChange tuneRunsWrong)

/-- 'lanthornlaw11.TuneGrows': WHATEVER THE INPUT: true; the input reads as it did. -/
def tuneGrowsSpec : ChangeSpec := { name := "tuneGrows", fn := fun _ => fun
  | [d1, d2, d3] => { results := [.lit (.bool true)], args := [d1, d2, d3] }
  | _ => none }
def tuneGrowsRow : OpenClaim := { program := "ythecghmhohkcmaagreatdoor", sum := "8c6aba577adaefc6dd22536413001b9bda246bb27e5083f91655682c61ea1bf8", func := "lanthorn/lanthornlaw11.TuneGrows", spec := "tuneGrows", inPlace := ["internal/bytealg.IndexByteString", "internal/bytealg.IndexString"], unfollowed := true, recurses := true, named := ["unicode/utf8.first", "unicode/utf8.acceptRanges", "internal/bytealg.MaxLen"], apart := false, laid := [("unicode/utf8.acceptRanges", laid_unicode_utf8_acceptRanges), ("unicode/utf8.first", laid_unicode_utf8_first)] }
def TuneGrowsSaid : Prop := tuneGrowsRow.holds Tryz.pinned (OpenSpec.ofChange tuneGrowsSpec)

/-- ITS FALSE NEIGHBOUR: 'it returns false'. Refute it at one input. -/
def tuneGrowsWrong : ChangeSpec := { name := "tuneGrows", fn := fun _ => fun
  | [d1, d2, d3] => { results := [.lit (.bool false)], args := [d1, d2, d3] }
  | _ => none }
def TuneGrowsWrongFalsely : Prop := tuneGrowsRow.holds Tryz.pinned (OpenSpec.ofChange tuneGrowsWrong)

/-- 'lanthornlaw11.TuneCycles': WHATEVER THE INPUT: true; the input reads as it did. -/
def tuneCyclesSpec : ChangeSpec := { name := "tuneCycles", fn := fun _ => fun
  | [d1, d2, d3] => { results := [.lit (.bool true)], args := [d1, d2, d3] }
  | _ => none }
def tuneCyclesRow : OpenClaim := { program := "ythecghmhohkcmaagreatdoor", sum := "8c6aba577adaefc6dd22536413001b9bda246bb27e5083f91655682c61ea1bf8", func := "lanthorn/lanthornlaw11.TuneCycles", spec := "tuneCycles", inPlace := ["internal/bytealg.IndexByteString", "internal/bytealg.IndexString"], unfollowed := true, recurses := true, named := ["unicode/utf8.first", "unicode/utf8.acceptRanges", "internal/bytealg.MaxLen"], apart := false, laid := [("unicode/utf8.acceptRanges", laid_unicode_utf8_acceptRanges), ("unicode/utf8.first", laid_unicode_utf8_first)] }
def TuneCyclesSaid : Prop := tuneCyclesRow.holds Tryz.pinned (OpenSpec.ofChange tuneCyclesSpec)

/-- ITS FALSE NEIGHBOUR: 'it returns false'. Refute it at one input. -/
def tuneCyclesWrong : ChangeSpec := { name := "tuneCycles", fn := fun _ => fun
  | [d1, d2, d3] => { results := [.lit (.bool false)], args := [d1, d2, d3] }
  | _ => none }
def TuneCyclesWrongFalsely : Prop := tuneCyclesRow.holds Tryz.pinned (OpenSpec.ofChange tuneCyclesWrong)

/-- 'lanthornlaw11.TuneCalls': WHATEVER THE INPUT: true; the input reads as it did. -/
def tuneCallsSpec : ChangeSpec := { name := "tuneCalls", fn := fun _ => fun
  | [d1, d2, d3] => { results := [.lit (.bool true)], args := [d1, d2, d3] }
  | _ => none }
def tuneCallsRow : OpenClaim := { program := "ythecghmhohkcmaagreatdoor", sum := "8c6aba577adaefc6dd22536413001b9bda246bb27e5083f91655682c61ea1bf8", func := "lanthorn/lanthornlaw11.TuneCalls", spec := "tuneCalls", inPlace := ["internal/bytealg.IndexByteString", "internal/bytealg.IndexString"], unfollowed := true, recurses := true, named := ["unicode/utf8.first", "unicode/utf8.acceptRanges", "internal/bytealg.MaxLen"], apart := false, laid := [("unicode/utf8.acceptRanges", laid_unicode_utf8_acceptRanges), ("unicode/utf8.first", laid_unicode_utf8_first)] }
def TuneCallsSaid : Prop := tuneCallsRow.holds Tryz.pinned (OpenSpec.ofChange tuneCallsSpec)

/-- ITS FALSE NEIGHBOUR: 'it returns false'. Refute it at one input. -/
def tuneCallsWrong : ChangeSpec := { name := "tuneCalls", fn := fun _ => fun
  | [d1, d2, d3] => { results := [.lit (.bool false)], args := [d1, d2, d3] }
  | _ => none }
def TuneCallsWrongFalsely : Prop := tuneCallsRow.holds Tryz.pinned (OpenSpec.ofChange tuneCallsWrong)

/-- 'lanthornlaw11.TuneSums': WHATEVER THE INPUT: true; the input reads as it did. -/
def tuneSumsSpec : ChangeSpec := { name := "tuneSums", fn := fun _ => fun
  | [d1, d2, d3] => { results := [.lit (.bool true)], args := [d1, d2, d3] }
  | _ => none }
def tuneSumsRow : OpenClaim := { program := "ythecghmhohkcmaagreatdoor", sum := "8c6aba577adaefc6dd22536413001b9bda246bb27e5083f91655682c61ea1bf8", func := "lanthorn/lanthornlaw11.TuneSums", spec := "tuneSums", inPlace := ["internal/bytealg.IndexByteString", "internal/bytealg.IndexString"], unfollowed := true, recurses := true, named := ["unicode/utf8.first", "unicode/utf8.acceptRanges", "internal/bytealg.MaxLen"], apart := false, laid := [("unicode/utf8.acceptRanges", laid_unicode_utf8_acceptRanges), ("unicode/utf8.first", laid_unicode_utf8_first)] }
def TuneSumsSaid : Prop := tuneSumsRow.holds Tryz.pinned (OpenSpec.ofChange tuneSumsSpec)

/-- ITS FALSE NEIGHBOUR: 'it returns false'. Refute it at one input. -/
def tuneSumsWrong : ChangeSpec := { name := "tuneSums", fn := fun _ => fun
  | [d1, d2, d3] => { results := [.lit (.bool false)], args := [d1, d2, d3] }
  | _ => none }
def TuneSumsWrongFalsely : Prop := tuneSumsRow.holds Tryz.pinned (OpenSpec.ofChange tuneSumsWrong)

/- THE SECOND FORM. 'bulk': how many values and letters a reading holds, each counted each time it is reached (what is shared counts as often as it is met; a slice's spare places count too). A statement '..UptoSaid' is the law's where the arguments, and the package variables that the reading takes, are together of bulk at most 1048576: NARROWER than '..Said'. Prove '..Said' where nothing that the law and all that it calls make is longer than what came in: it says more and counts as full. Else prove '..UptoSaid'. A law counts once. -/
mutual
def uptoBulk {H : Type} : DataW H → Nat
  | .lit (.string bytes) => bytes.length + 1
  | .lit _ => 1
  | .nil => 1
  | .ptr d => uptoBulk d + 1
  | .slice elems spare => uptoBulkAll elems + uptoBulkAll spare + 1
  | .agg parts => uptoBulkAll parts + 1
  | .iface _ d => uptoBulk d + 1
  | .map entries => uptoBulkEntries entries + 1
  | .held _ => 1
def uptoBulkAll {H : Type} : List (DataW H) → Nat
  | [] => 0
  | d :: r => uptoBulk d + uptoBulkAll r
def uptoBulkEntries {H : Type} : List (Lit × DataW H) → Nat
  | [] => 0
  | x :: r => uptoBulkEntry x + uptoBulkEntries r
def uptoBulkEntry {H : Type} : Lit × DataW H → Nat
  | (.string bytes, d) => bytes.length + uptoBulk d + 1
  | (_, d) => uptoBulk d + 1
 end
def uptoSmall : (H : Type) → List (DataW H) → Bool := fun _ ds => decide (uptoBulkAll ds ≤ 1048576)
def OpenSpec.upto (s : _root_.Go.ChangeSpec) : _root_.Go.OpenSpec := { _root_.Go.OpenSpec.ofChange s with cond := some uptoSmall }

/-- 'lanthornlaw11.TuneCourses', WHERE WHAT IT READS IS OF BULK AT MOST 1048576: true; the input reads as it did. -/
def tuneCoursesUptoRow : OpenClaim := { program := "ythecghmhohkcmaagreatdoor", sum := "8c6aba577adaefc6dd22536413001b9bda246bb27e5083f91655682c61ea1bf8", func := "lanthorn/lanthornlaw11.TuneCourses", spec := "tuneCourses", inPlace := ["internal/bytealg.IndexByteString", "internal/bytealg.IndexString"], unfollowed := true, recurses := true, named := ["unicode/utf8.first", "unicode/utf8.acceptRanges", "internal/bytealg.MaxLen"], apart := false, laid := [("unicode/utf8.acceptRanges", laid_unicode_utf8_acceptRanges), ("unicode/utf8.first", laid_unicode_utf8_first)], narrowed := true }
def TuneCoursesUptoSaid : Prop := tuneCoursesUptoRow.holds Tryz.pinned (OpenSpec.upto tuneCoursesSpec)

/-- 'lanthornlaw11.TuneRuns', WHERE WHAT IT READS IS OF BULK AT MOST 1048576: true; the input reads as it did. -/
def tuneRunsUptoRow : OpenClaim := { program := "ythecghmhohkcmaagreatdoor", sum := "8c6aba577adaefc6dd22536413001b9bda246bb27e5083f91655682c61ea1bf8", func := "lanthorn/lanthornlaw11.TuneRuns", spec := "tuneRuns", inPlace := ["internal/bytealg.IndexByteString", "internal/bytealg.IndexString"], unfollowed := true, recurses := true, named := ["unicode/utf8.first", "unicode/utf8.acceptRanges", "internal/bytealg.MaxLen"], apart := false, laid := [("unicode/utf8.acceptRanges", laid_unicode_utf8_acceptRanges), ("unicode/utf8.first", laid_unicode_utf8_first)], narrowed := true }
def TuneRunsUptoSaid : Prop := tuneRunsUptoRow.holds Tryz.pinned (OpenSpec.upto tuneRunsSpec)

/-- 'lanthornlaw11.TuneGrows', WHERE WHAT IT READS IS OF BULK AT MOST 1048576: true; the input reads as it did. -/
def tuneGrowsUptoRow : OpenClaim := { program := "ythecghmhohkcmaagreatdoor", sum := "8c6aba577adaefc6dd22536413001b9bda246bb27e5083f91655682c61ea1bf8", func := "lanthorn/lanthornlaw11.TuneGrows", spec := "tuneGrows", inPlace := ["internal/bytealg.IndexByteString", "internal/bytealg.IndexString"], unfollowed := true, recurses := true, named := ["unicode/utf8.first", "unicode/utf8.acceptRanges", "internal/bytealg.MaxLen"], apart := false, laid := [("unicode/utf8.acceptRanges", laid_unicode_utf8_acceptRanges), ("unicode/utf8.first", laid_unicode_utf8_first)], narrowed := true }
def TuneGrowsUptoSaid : Prop := tuneGrowsUptoRow.holds Tryz.pinned (OpenSpec.upto tuneGrowsSpec)

/-- 'lanthornlaw11.TuneCycles', WHERE WHAT IT READS IS OF BULK AT MOST 1048576: true; the input reads as it did. -/
def tuneCyclesUptoRow : OpenClaim := { program := "ythecghmhohkcmaagreatdoor", sum := "8c6aba577adaefc6dd22536413001b9bda246bb27e5083f91655682c61ea1bf8", func := "lanthorn/lanthornlaw11.TuneCycles", spec := "tuneCycles", inPlace := ["internal/bytealg.IndexByteString", "internal/bytealg.IndexString"], unfollowed := true, recurses := true, named := ["unicode/utf8.first", "unicode/utf8.acceptRanges", "internal/bytealg.MaxLen"], apart := false, laid := [("unicode/utf8.acceptRanges", laid_unicode_utf8_acceptRanges), ("unicode/utf8.first", laid_unicode_utf8_first)], narrowed := true }
def TuneCyclesUptoSaid : Prop := tuneCyclesUptoRow.holds Tryz.pinned (OpenSpec.upto tuneCyclesSpec)

/-- 'lanthornlaw11.TuneCalls', WHERE WHAT IT READS IS OF BULK AT MOST 1048576: true; the input reads as it did. -/
def tuneCallsUptoRow : OpenClaim := { program := "ythecghmhohkcmaagreatdoor", sum := "8c6aba577adaefc6dd22536413001b9bda246bb27e5083f91655682c61ea1bf8", func := "lanthorn/lanthornlaw11.TuneCalls", spec := "tuneCalls", inPlace := ["internal/bytealg.IndexByteString", "internal/bytealg.IndexString"], unfollowed := true, recurses := true, named := ["unicode/utf8.first", "unicode/utf8.acceptRanges", "internal/bytealg.MaxLen"], apart := false, laid := [("unicode/utf8.acceptRanges", laid_unicode_utf8_acceptRanges), ("unicode/utf8.first", laid_unicode_utf8_first)], narrowed := true }
def TuneCallsUptoSaid : Prop := tuneCallsUptoRow.holds Tryz.pinned (OpenSpec.upto tuneCallsSpec)

/-- 'lanthornlaw11.TuneSums', WHERE WHAT IT READS IS OF BULK AT MOST 1048576: true; the input reads as it did. -/
def tuneSumsUptoRow : OpenClaim := { program := "ythecghmhohkcmaagreatdoor", sum := "8c6aba577adaefc6dd22536413001b9bda246bb27e5083f91655682c61ea1bf8", func := "lanthorn/lanthornlaw11.TuneSums", spec := "tuneSums", inPlace := ["internal/bytealg.IndexByteString", "internal/bytealg.IndexString"], unfollowed := true, recurses := true, named := ["unicode/utf8.first", "unicode/utf8.acceptRanges", "internal/bytealg.MaxLen"], apart := false, laid := [("unicode/utf8.acceptRanges", laid_unicode_utf8_acceptRanges), ("unicode/utf8.first", laid_unicode_utf8_first)], narrowed := true }
def TuneSumsUptoSaid : Prop := tuneSumsUptoRow.holds Tryz.pinned (OpenSpec.upto tuneSumsSpec)

end Rows
end Go.Proofs.YthecghmhohkcmaaGreatDoor
