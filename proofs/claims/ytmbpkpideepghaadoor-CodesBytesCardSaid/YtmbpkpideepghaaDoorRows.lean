/-
  NARROWER THAN 'FOR EVERY INPUT', by the rows' own cells (each row's printed sentence says how): CodesOf: laid · CodesAll: laid · CodesTexts: laid · CodesBytes: laid · CodesBack: laid · CodesForth: laid · CodesUnlike: laid.
  DERIVED. THE GIVEN ROWS OF THIS SEAT. 7 by the template 'for every input the law returns true; each argument reads behind the call as it read before'; 0 by the template 'total and deterministic' (their statements: YtmbpkpideepghaaDoorTotals.lean).
  GIVEN WITH THE SEED: the statements are not yours to turn. If you find one false, say at which input.
  Laid BY PROGRAM, IN A SANDBOX (cutbox-rows.mjs): the forced cells as the released guide's own fill.sh prints them over the translation 37e6b93834b250fb… (all of the seat's roots in one cut). By AI agents, Wed Nov 11 2026. No macro, syntax, notation, axiom, sorry.
-/
import Derived.Test.YtmbpkpideepghaaDoorChecked
import GoSem.PinnedTables
import GoSem.Claim
import GoSem.ClaimJoined
import GoSem.ClaimMapViews
import Derived.JoinedTies
import Derived.KernelRfl
namespace Go.Proofs.YtmbpkpideepghaaDoor
/- THE CELL 'sum', in the pinned program and in every row, IS THE sha256 OF THE DUMP (.gsa) THAT YtmbpkpideepghaaDoorProg.lean LOADS. Nothing in Lean hashes anything: it is a label: what it is worth is what the hold of that sum in a sandbox is worth. -/
noncomputable def Tryd.pinned : Pinned := { name := "ytmbpkpideepghaadoor", sum := "37e6b93834b250fbab1963df824498899637d2031a276aab74ee29286ef48e83", checked := Tryd.checked }
namespace Rows
def none {H : Type} : Left H := { results := [], args := [] }

/- WHAT THE LISTED PACKAGE-LEVEL VARIABLES READ AS WHEN THE CALL BEGINS. Each datum BY PROGRAM (the guide's laid-datum.mjs) off the statement by which the dump's own 'gosem.cut.vars' lays the variable. In a bare row this is a premise. The card (YtmbpkpideepghaaDoorCards.lean) ties it to the program's text. -/
def laid_unicode_utf8_acceptRanges {H : Type} : DataW H := .agg [.agg [.lit (.int .u8 128), .lit (.int .u8 191)], .agg [.lit (.int .u8 160), .lit (.int .u8 191)], .agg [.lit (.int .u8 128), .lit (.int .u8 159)], .agg [.lit (.int .u8 144), .lit (.int .u8 191)], .agg [.lit (.int .u8 128), .lit (.int .u8 143)], .agg [.lit (.int .u8 0), .lit (.int .u8 0)], .agg [.lit (.int .u8 0), .lit (.int .u8 0)], .agg [.lit (.int .u8 0), .lit (.int .u8 0)], .agg [.lit (.int .u8 0), .lit (.int .u8 0)], .agg [.lit (.int .u8 0), .lit (.int .u8 0)], .agg [.lit (.int .u8 0), .lit (.int .u8 0)], .agg [.lit (.int .u8 0), .lit (.int .u8 0)], .agg [.lit (.int .u8 0), .lit (.int .u8 0)], .agg [.lit (.int .u8 0), .lit (.int .u8 0)], .agg [.lit (.int .u8 0), .lit (.int .u8 0)], .agg [.lit (.int .u8 0), .lit (.int .u8 0)]]
/-- One of Go's own tables, pinned by name: the form's constant. -/
def laid_unicode_utf8_first : DataW Unit := Go.Pinned.utf8First

/-- 'lanthornlaw06.CodesOf': WHATEVER THE INPUT: true; the input reads as it did. -/
def codesOfSpec : ChangeSpec := { name := "codesOf", fn := fun _ => fun
  | [d1, d2, d3] => { results := [.lit (.bool true)], args := [d1, d2, d3] }
  | _ => none }
def codesOfRow : OpenClaim := { program := "ytmbpkpideepghaadoor", sum := "37e6b93834b250fbab1963df824498899637d2031a276aab74ee29286ef48e83", func := "lanthorn/lanthornlaw06.CodesOf", spec := "codesOf", inPlace := ["internal/bytealg.IndexByteString", "internal/bytealg.IndexString", "internal/abi.NoEscape"], named := ["unicode/utf8.first", "unicode/utf8.acceptRanges", "internal/bytealg.MaxLen"], apart := false, laid := [("unicode/utf8.acceptRanges", laid_unicode_utf8_acceptRanges), ("unicode/utf8.first", laid_unicode_utf8_first)] }
def CodesOfSaid : Prop := codesOfRow.holds Tryd.pinned (OpenSpec.ofChange codesOfSpec)

/-- ITS FALSE NEIGHBOUR: 'it returns false'. Refute it at one input. -/
def codesOfWrong : ChangeSpec := { name := "codesOf", fn := fun _ => fun
  | [d1, d2, d3] => { results := [.lit (.bool false)], args := [d1, d2, d3] }
  | _ => none }
def CodesOfWrongFalsely : Prop := codesOfRow.holds Tryd.pinned (OpenSpec.ofChange codesOfWrong)

/-- 'lanthornlaw06.CodesAll': WHATEVER THE INPUT: true; the input reads as it did. -/
def codesAllSpec : ChangeSpec := { name := "codesAll", fn := fun _ => fun
  | [d1, d2] => { results := [.lit (.bool true)], args := [d1, d2] }
  | _ => none }
def codesAllRow : OpenClaim := { program := "ytmbpkpideepghaadoor", sum := "37e6b93834b250fbab1963df824498899637d2031a276aab74ee29286ef48e83", func := "lanthorn/lanthornlaw06.CodesAll", spec := "codesAll", inPlace := ["internal/bytealg.IndexByteString", "internal/bytealg.IndexString", "internal/abi.NoEscape"], unfollowed := true, recurses := true, named := ["unicode/utf8.first", "unicode/utf8.acceptRanges", "internal/bytealg.MaxLen"], apart := false, laid := [("unicode/utf8.acceptRanges", laid_unicode_utf8_acceptRanges), ("unicode/utf8.first", laid_unicode_utf8_first)] }
def CodesAllSaid : Prop := codesAllRow.holds Tryd.pinned (OpenSpec.ofChange codesAllSpec)

/-- ITS FALSE NEIGHBOUR: 'it returns false'. Refute it at one input. -/
def codesAllWrong : ChangeSpec := { name := "codesAll", fn := fun _ => fun
  | [d1, d2] => { results := [.lit (.bool false)], args := [d1, d2] }
  | _ => none }
def CodesAllWrongFalsely : Prop := codesAllRow.holds Tryd.pinned (OpenSpec.ofChange codesAllWrong)

/-- 'lanthornlaw06.CodesTexts': WHATEVER THE INPUT: true; the input reads as it did. -/
def codesTextsSpec : ChangeSpec := { name := "codesTexts", fn := fun _ => fun
  | [d1, d2, d3] => { results := [.lit (.bool true)], args := [d1, d2, d3] }
  | _ => none }
def codesTextsRow : OpenClaim := { program := "ytmbpkpideepghaadoor", sum := "37e6b93834b250fbab1963df824498899637d2031a276aab74ee29286ef48e83", func := "lanthorn/lanthornlaw06.CodesTexts", spec := "codesTexts", inPlace := ["internal/bytealg.IndexByteString", "internal/bytealg.IndexString", "internal/abi.NoEscape"], named := ["unicode/utf8.first", "unicode/utf8.acceptRanges", "internal/bytealg.MaxLen"], apart := false, laid := [("unicode/utf8.acceptRanges", laid_unicode_utf8_acceptRanges), ("unicode/utf8.first", laid_unicode_utf8_first)] }
def CodesTextsSaid : Prop := codesTextsRow.holds Tryd.pinned (OpenSpec.ofChange codesTextsSpec)

/-- ITS FALSE NEIGHBOUR: 'it returns false'. Refute it at one input. -/
def codesTextsWrong : ChangeSpec := { name := "codesTexts", fn := fun _ => fun
  | [d1, d2, d3] => { results := [.lit (.bool false)], args := [d1, d2, d3] }
  | _ => none }
def CodesTextsWrongFalsely : Prop := codesTextsRow.holds Tryd.pinned (OpenSpec.ofChange codesTextsWrong)

/-- 'lanthornlaw06.CodesBytes': WHATEVER THE INPUT: true; the input reads as it did. -/
def codesBytesSpec : ChangeSpec := { name := "codesBytes", fn := fun _ => fun
  | [d1, d2, d3] => { results := [.lit (.bool true)], args := [d1, d2, d3] }
  | _ => none }
def codesBytesRow : OpenClaim := { program := "ytmbpkpideepghaadoor", sum := "37e6b93834b250fbab1963df824498899637d2031a276aab74ee29286ef48e83", func := "lanthorn/lanthornlaw06.CodesBytes", spec := "codesBytes", inPlace := ["internal/bytealg.IndexByteString", "internal/bytealg.IndexString", "internal/abi.NoEscape"], unfollowed := true, recurses := true, named := ["internal/bytealg.MaxLen", "unicode/utf8.first", "unicode/utf8.acceptRanges"], apart := false, laid := [("unicode/utf8.acceptRanges", laid_unicode_utf8_acceptRanges), ("unicode/utf8.first", laid_unicode_utf8_first)] }
def CodesBytesSaid : Prop := codesBytesRow.holds Tryd.pinned (OpenSpec.ofChange codesBytesSpec)

/-- ITS FALSE NEIGHBOUR: 'it returns false'. Refute it at one input. -/
def codesBytesWrong : ChangeSpec := { name := "codesBytes", fn := fun _ => fun
  | [d1, d2, d3] => { results := [.lit (.bool false)], args := [d1, d2, d3] }
  | _ => none }
def CodesBytesWrongFalsely : Prop := codesBytesRow.holds Tryd.pinned (OpenSpec.ofChange codesBytesWrong)

/-- 'lanthornlaw06.CodesBack': WHATEVER THE INPUT: true; the input reads as it did. -/
def codesBackSpec : ChangeSpec := { name := "codesBack", fn := fun _ => fun
  | [d1, d2, d3] => { results := [.lit (.bool true)], args := [d1, d2, d3] }
  | _ => none }
def codesBackRow : OpenClaim := { program := "ytmbpkpideepghaadoor", sum := "37e6b93834b250fbab1963df824498899637d2031a276aab74ee29286ef48e83", func := "lanthorn/lanthornlaw06.CodesBack", spec := "codesBack", inPlace := ["internal/bytealg.IndexByteString", "internal/bytealg.IndexString", "internal/abi.NoEscape"], unfollowed := true, recurses := true, named := ["unicode/utf8.first", "unicode/utf8.acceptRanges", "internal/bytealg.MaxLen"], apart := false, laid := [("unicode/utf8.acceptRanges", laid_unicode_utf8_acceptRanges), ("unicode/utf8.first", laid_unicode_utf8_first)] }
def CodesBackSaid : Prop := codesBackRow.holds Tryd.pinned (OpenSpec.ofChange codesBackSpec)

/-- ITS FALSE NEIGHBOUR: 'it returns false'. Refute it at one input. -/
def codesBackWrong : ChangeSpec := { name := "codesBack", fn := fun _ => fun
  | [d1, d2, d3] => { results := [.lit (.bool false)], args := [d1, d2, d3] }
  | _ => none }
def CodesBackWrongFalsely : Prop := codesBackRow.holds Tryd.pinned (OpenSpec.ofChange codesBackWrong)

/-- 'lanthornlaw06.CodesForth': WHATEVER THE INPUT: true; the input reads as it did. -/
def codesForthSpec : ChangeSpec := { name := "codesForth", fn := fun _ => fun
  | [d1, d2, d3] => { results := [.lit (.bool true)], args := [d1, d2, d3] }
  | _ => none }
def codesForthRow : OpenClaim := { program := "ytmbpkpideepghaadoor", sum := "37e6b93834b250fbab1963df824498899637d2031a276aab74ee29286ef48e83", func := "lanthorn/lanthornlaw06.CodesForth", spec := "codesForth", inPlace := ["internal/bytealg.IndexByteString", "internal/bytealg.IndexString", "internal/abi.NoEscape"], unfollowed := true, recurses := true, named := ["internal/bytealg.MaxLen", "unicode/utf8.first", "unicode/utf8.acceptRanges"], apart := false, laid := [("unicode/utf8.acceptRanges", laid_unicode_utf8_acceptRanges), ("unicode/utf8.first", laid_unicode_utf8_first)] }
def CodesForthSaid : Prop := codesForthRow.holds Tryd.pinned (OpenSpec.ofChange codesForthSpec)

/-- ITS FALSE NEIGHBOUR: 'it returns false'. Refute it at one input. -/
def codesForthWrong : ChangeSpec := { name := "codesForth", fn := fun _ => fun
  | [d1, d2, d3] => { results := [.lit (.bool false)], args := [d1, d2, d3] }
  | _ => none }
def CodesForthWrongFalsely : Prop := codesForthRow.holds Tryd.pinned (OpenSpec.ofChange codesForthWrong)

/-- 'lanthornlaw06.CodesUnlike': WHATEVER THE INPUT: true; the input reads as it did. -/
def codesUnlikeSpec : ChangeSpec := { name := "codesUnlike", fn := fun _ => fun
  | [d1, d2, d3, d4] => { results := [.lit (.bool true)], args := [d1, d2, d3, d4] }
  | _ => none }
def codesUnlikeRow : OpenClaim := { program := "ytmbpkpideepghaadoor", sum := "37e6b93834b250fbab1963df824498899637d2031a276aab74ee29286ef48e83", func := "lanthorn/lanthornlaw06.CodesUnlike", spec := "codesUnlike", inPlace := ["internal/bytealg.IndexByteString", "internal/bytealg.IndexString", "internal/abi.NoEscape"], named := ["unicode/utf8.first", "unicode/utf8.acceptRanges", "internal/bytealg.MaxLen"], apart := false, laid := [("unicode/utf8.acceptRanges", laid_unicode_utf8_acceptRanges), ("unicode/utf8.first", laid_unicode_utf8_first)] }
def CodesUnlikeSaid : Prop := codesUnlikeRow.holds Tryd.pinned (OpenSpec.ofChange codesUnlikeSpec)

/-- ITS FALSE NEIGHBOUR: 'it returns false'. Refute it at one input. -/
def codesUnlikeWrong : ChangeSpec := { name := "codesUnlike", fn := fun _ => fun
  | [d1, d2, d3, d4] => { results := [.lit (.bool false)], args := [d1, d2, d3, d4] }
  | _ => none }
def CodesUnlikeWrongFalsely : Prop := codesUnlikeRow.holds Tryd.pinned (OpenSpec.ofChange codesUnlikeWrong)

/- THE SECOND FORM. 'bulk': how many values and letters a reading holds, each counted each time it is reached (what is shared counts as often as it is met; a slice's spare places count too). A statement '..UptoSaid' is the law's where the arguments, and the package variables that the reading takes, are together of bulk at most 1048576: NARROWER than '..Said'. Prove '..Said' where nothing that the law and all that it calls make is longer than what came in: it says more and counts as full. Else prove '..UptoSaid'. A law counts once. -/
mutual
def uptoBulk {H : Type} : DataW H → Nat
  | .lit (.string bytes) => bytes.length + 1
  | .lit _ => 1
  | .nil => 1
  | .ptr d => uptoBulk d + 1
  | .slice elems spare => uptoBulkAll elems + uptoBulkAll spare + 1
  | .agg parts => uptoBulkAll parts + 1
  | .iface _ d => uptoBulk d + 1
  | .map entries => uptoBulkEntries entries + 1
  | .held _ => 1
def uptoBulkAll {H : Type} : List (DataW H) → Nat
  | [] => 0
  | d :: r => uptoBulk d + uptoBulkAll r
def uptoBulkEntries {H : Type} : List (Lit × DataW H) → Nat
  | [] => 0
  | x :: r => uptoBulkEntry x + uptoBulkEntries r
def uptoBulkEntry {H : Type} : Lit × DataW H → Nat
  | (.string bytes, d) => bytes.length + uptoBulk d + 1
  | (_, d) => uptoBulk d + 1
 end
def uptoSmall : (H : Type) → List (DataW H) → Bool := fun _ ds => decide (uptoBulkAll ds ≤ 1048576)
def OpenSpec.upto (s : _root_.Go.ChangeSpec) : _root_.Go.OpenSpec := { _root_.Go.OpenSpec.ofChange s with cond := some uptoSmall }

/-- 'lanthornlaw06.CodesOf', WHERE WHAT IT READS IS OF BULK AT MOST 1048576: true; the input reads as it did. -/
def codesOfUptoRow : OpenClaim := { program := "ytmbpkpideepghaadoor", sum := "37e6b93834b250fbab1963df824498899637d2031a276aab74ee29286ef48e83", func := "lanthorn/lanthornlaw06.CodesOf", spec := "codesOf", inPlace := ["internal/bytealg.IndexByteString", "internal/bytealg.IndexString", "internal/abi.NoEscape"], named := ["unicode/utf8.first", "unicode/utf8.acceptRanges", "internal/bytealg.MaxLen"], apart := false, laid := [("unicode/utf8.acceptRanges", laid_unicode_utf8_acceptRanges), ("unicode/utf8.first", laid_unicode_utf8_first)], narrowed := true }
def CodesOfUptoSaid : Prop := codesOfUptoRow.holds Tryd.pinned (OpenSpec.upto codesOfSpec)

/-- 'lanthornlaw06.CodesAll', WHERE WHAT IT READS IS OF BULK AT MOST 1048576: true; the input reads as it did. -/
def codesAllUptoRow : OpenClaim := { program := "ytmbpkpideepghaadoor", sum := "37e6b93834b250fbab1963df824498899637d2031a276aab74ee29286ef48e83", func := "lanthorn/lanthornlaw06.CodesAll", spec := "codesAll", inPlace := ["internal/bytealg.IndexByteString", "internal/bytealg.IndexString", "internal/abi.NoEscape"], unfollowed := true, recurses := true, named := ["unicode/utf8.first", "unicode/utf8.acceptRanges", "internal/bytealg.MaxLen"], apart := false, laid := [("unicode/utf8.acceptRanges", laid_unicode_utf8_acceptRanges), ("unicode/utf8.first", laid_unicode_utf8_first)], narrowed := true }
def CodesAllUptoSaid : Prop := codesAllUptoRow.holds Tryd.pinned (OpenSpec.upto codesAllSpec)

/-- 'lanthornlaw06.CodesTexts', WHERE WHAT IT READS IS OF BULK AT MOST 1048576: true; the input reads as it did. -/
def codesTextsUptoRow : OpenClaim := { program := "ytmbpkpideepghaadoor", sum := "37e6b93834b250fbab1963df824498899637d2031a276aab74ee29286ef48e83", func := "lanthorn/lanthornlaw06.CodesTexts", spec := "codesTexts", inPlace := ["internal/bytealg.IndexByteString", "internal/bytealg.IndexString", "internal/abi.NoEscape"], named := ["unicode/utf8.first", "unicode/utf8.acceptRanges", "internal/bytealg.MaxLen"], apart := false, laid := [("unicode/utf8.acceptRanges", laid_unicode_utf8_acceptRanges), ("unicode/utf8.first", laid_unicode_utf8_first)], narrowed := true }
def CodesTextsUptoSaid : Prop := codesTextsUptoRow.holds Tryd.pinned (OpenSpec.upto codesTextsSpec)

/-- 'lanthornlaw06.CodesBytes', WHERE WHAT IT READS IS OF BULK AT MOST 1048576: true; the input reads as it did. -/
def codesBytesUptoRow : OpenClaim := { program := "ytmbpkpideepghaadoor", sum := "37e6b93834b250fbab1963df824498899637d2031a276aab74ee29286ef48e83", func := "lanthorn/lanthornlaw06.CodesBytes", spec := "codesBytes", inPlace := ["internal/bytealg.IndexByteString", "internal/bytealg.IndexString", "internal/abi.NoEscape"], unfollowed := true, recurses := true, named := ["internal/bytealg.MaxLen", "unicode/utf8.first", "unicode/utf8.acceptRanges"], apart := false, laid := [("unicode/utf8.acceptRanges", laid_unicode_utf8_acceptRanges), ("unicode/utf8.first", laid_unicode_utf8_first)], narrowed := true }
def CodesBytesUptoSaid : Prop := codesBytesUptoRow.holds Tryd.pinned (OpenSpec.upto codesBytesSpec)

/-- 'lanthornlaw06.CodesBack', WHERE WHAT IT READS IS OF BULK AT MOST 1048576: true; the input reads as it did. -/
def codesBackUptoRow : OpenClaim := { program := "ytmbpkpideepghaadoor", sum := "37e6b93834b250fbab1963df824498899637d2031a276aab74ee29286ef48e83", func := "lanthorn/lanthornlaw06.CodesBack", spec := "codesBack", inPlace := ["internal/bytealg.IndexByteString", "internal/bytealg.IndexString", "internal/abi.NoEscape"], unfollowed := true, recurses := true, named := ["unicode/utf8.first", "unicode/utf8.acceptRanges", "internal/bytealg.MaxLen"], apart := false, laid := [("unicode/utf8.acceptRanges", laid_unicode_utf8_acceptRanges), ("unicode/utf8.first", laid_unicode_utf8_first)], narrowed := true }
def CodesBackUptoSaid : Prop := codesBackUptoRow.holds Tryd.pinned (OpenSpec.upto codesBackSpec)

/-- 'lanthornlaw06.CodesForth', WHERE WHAT IT READS IS OF BULK AT MOST 1048576: true; the input reads as it did. -/
def codesForthUptoRow : OpenClaim := { program := "ytmbpkpideepghaadoor", sum := "37e6b93834b250fbab1963df824498899637d2031a276aab74ee29286ef48e83", func := "lanthorn/lanthornlaw06.CodesForth", spec := "codesForth", inPlace := ["internal/bytealg.IndexByteString", "internal/bytealg.IndexString", "internal/abi.NoEscape"], unfollowed := true, recurses := true, named := ["internal/bytealg.MaxLen", "unicode/utf8.first", "unicode/utf8.acceptRanges"], apart := false, laid := [("unicode/utf8.acceptRanges", laid_unicode_utf8_acceptRanges), ("unicode/utf8.first", laid_unicode_utf8_first)], narrowed := true }
def CodesForthUptoSaid : Prop := codesForthUptoRow.holds Tryd.pinned (OpenSpec.upto codesForthSpec)

/-- 'lanthornlaw06.CodesUnlike', WHERE WHAT IT READS IS OF BULK AT MOST 1048576: true; the input reads as it did. -/
def codesUnlikeUptoRow : OpenClaim := { program := "ytmbpkpideepghaadoor", sum := "37e6b93834b250fbab1963df824498899637d2031a276aab74ee29286ef48e83", func := "lanthorn/lanthornlaw06.CodesUnlike", spec := "codesUnlike", inPlace := ["internal/bytealg.IndexByteString", "internal/bytealg.IndexString", "internal/abi.NoEscape"], named := ["unicode/utf8.first", "unicode/utf8.acceptRanges", "internal/bytealg.MaxLen"], apart := false, laid := [("unicode/utf8.acceptRanges", laid_unicode_utf8_acceptRanges), ("unicode/utf8.first", laid_unicode_utf8_first)], narrowed := true }
def CodesUnlikeUptoSaid : Prop := codesUnlikeUptoRow.holds Tryd.pinned (OpenSpec.upto codesUnlikeSpec)

end Rows
end Go.Proofs.YtmbpkpideepghaaDoor
