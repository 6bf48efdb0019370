/-
  NARROWER THAN 'FOR EVERY INPUT', by the rows' own cells (each row's printed sentence says how): CartReads: laid · CartLooks: laid · CartBack: laid · CartSound: laid.
  DERIVED. THE GIVEN ROWS OF THIS SEAT. 4 by the template 'for every input the law returns true; each argument reads behind the call as it read before'; 0 by the template 'total and deterministic' (their statements: YtggjaoihfhianaaDoorTotals.lean).
  GIVEN WITH THE SEED: the statements are not yours to turn. If you find one false, say at which input.
  Laid BY PROGRAM, IN A SANDBOX (cutbox-rows.mjs): the forced cells as the released guide's own fill.sh prints them over the translation 8e3c2484ad1bdce5… (all of the seat's roots in one cut). By AI agents, Wed Nov 11 2026. No macro, syntax, notation, axiom, sorry.
-/
import Derived.Test.YtggjaoihfhianaaDoorChecked
import GoSem.PinnedTables
import GoSem.Claim
import GoSem.ClaimJoined
import GoSem.ClaimMapViews
import Derived.JoinedTies
import Derived.KernelRfl
namespace Go.Proofs.YtggjaoihfhianaaDoor
/- THE CELL 'sum', in the pinned program and in every row, IS THE sha256 OF THE DUMP (.gsa) THAT YtggjaoihfhianaaDoorProg.lean LOADS. Nothing in Lean hashes anything: it is a label: what it is worth is what the hold of that sum in a sandbox is worth. -/
noncomputable def Tryd.pinned : Pinned := { name := "ytggjaoihfhianaadoor", sum := "8e3c2484ad1bdce58b04ea6f268ec657d7f831a20801f7fba94b035b21a550dc", checked := Tryd.checked }
namespace Rows
def none {H : Type} : Left H := { results := [], args := [] }

/- WHAT THE LISTED PACKAGE-LEVEL VARIABLES READ AS WHEN THE CALL BEGINS. Each datum BY PROGRAM (the guide's laid-datum.mjs) off the statement by which the dump's own 'gosem.cut.vars' lays the variable. In a bare row this is a premise. The card (YtggjaoihfhianaaDoorCards.lean) ties it to the program's text. -/
def laid_unicode_utf8_acceptRanges {H : Type} : DataW H := .agg [.agg [.lit (.int .u8 128), .lit (.int .u8 191)], .agg [.lit (.int .u8 160), .lit (.int .u8 191)], .agg [.lit (.int .u8 128), .lit (.int .u8 159)], .agg [.lit (.int .u8 144), .lit (.int .u8 191)], .agg [.lit (.int .u8 128), .lit (.int .u8 143)], .agg [.lit (.int .u8 0), .lit (.int .u8 0)], .agg [.lit (.int .u8 0), .lit (.int .u8 0)], .agg [.lit (.int .u8 0), .lit (.int .u8 0)], .agg [.lit (.int .u8 0), .lit (.int .u8 0)], .agg [.lit (.int .u8 0), .lit (.int .u8 0)], .agg [.lit (.int .u8 0), .lit (.int .u8 0)], .agg [.lit (.int .u8 0), .lit (.int .u8 0)], .agg [.lit (.int .u8 0), .lit (.int .u8 0)], .agg [.lit (.int .u8 0), .lit (.int .u8 0)], .agg [.lit (.int .u8 0), .lit (.int .u8 0)], .agg [.lit (.int .u8 0), .lit (.int .u8 0)]]
/-- One of Go's own tables, pinned by name: the form's constant. -/
def laid_unicode_utf8_first : DataW Unit := Go.Pinned.utf8First

/-- 'lanthornlaw03.CartReads': WHATEVER THE INPUT: true; the input reads as it did. -/
def cartReadsSpec : ChangeSpec := { name := "cartReads", fn := fun _ => fun
  | [d1, d2] => { results := [.lit (.bool true)], args := [d1, d2] }
  | _ => none }
def cartReadsRow : OpenClaim := { program := "ytggjaoihfhianaadoor", sum := "8e3c2484ad1bdce58b04ea6f268ec657d7f831a20801f7fba94b035b21a550dc", func := "lanthorn/lanthornlaw03.CartReads", spec := "cartReads", inPlace := ["internal/bytealg.IndexByteString", "internal/bytealg.IndexString"], named := ["unicode/utf8.first", "unicode/utf8.acceptRanges", "internal/bytealg.MaxLen"], apart := false, laid := [("unicode/utf8.acceptRanges", laid_unicode_utf8_acceptRanges), ("unicode/utf8.first", laid_unicode_utf8_first)] }
def CartReadsSaid : Prop := cartReadsRow.holds Tryd.pinned (OpenSpec.ofChange cartReadsSpec)

/-- ITS FALSE NEIGHBOUR: 'it returns false'. Refute it at one input. -/
def cartReadsWrong : ChangeSpec := { name := "cartReads", fn := fun _ => fun
  | [d1, d2] => { results := [.lit (.bool false)], args := [d1, d2] }
  | _ => none }
def CartReadsWrongFalsely : Prop := cartReadsRow.holds Tryd.pinned (OpenSpec.ofChange cartReadsWrong)

/-- 'lanthornlaw03.CartLooks': WHATEVER THE INPUT: true; the input reads as it did. -/
def cartLooksSpec : ChangeSpec := { name := "cartLooks", fn := fun _ => fun
  | [d1, d2, d3] => { results := [.lit (.bool true)], args := [d1, d2, d3] }
  | _ => none }
def cartLooksRow : OpenClaim := { program := "ytggjaoihfhianaadoor", sum := "8e3c2484ad1bdce58b04ea6f268ec657d7f831a20801f7fba94b035b21a550dc", func := "lanthorn/lanthornlaw03.CartLooks", spec := "cartLooks", inPlace := ["internal/bytealg.IndexByteString", "internal/bytealg.IndexString"], named := ["unicode/utf8.first", "unicode/utf8.acceptRanges", "internal/bytealg.MaxLen"], apart := false, laid := [("unicode/utf8.acceptRanges", laid_unicode_utf8_acceptRanges), ("unicode/utf8.first", laid_unicode_utf8_first)] }
def CartLooksSaid : Prop := cartLooksRow.holds Tryd.pinned (OpenSpec.ofChange cartLooksSpec)

/-- ITS FALSE NEIGHBOUR: 'it returns false'. Refute it at one input. -/
def cartLooksWrong : ChangeSpec := { name := "cartLooks", fn := fun _ => fun
  | [d1, d2, d3] => { results := [.lit (.bool false)], args := [d1, d2, d3] }
  | _ => none }
def CartLooksWrongFalsely : Prop := cartLooksRow.holds Tryd.pinned (OpenSpec.ofChange cartLooksWrong)

/-- 'lanthornlaw03.CartBack': WHATEVER THE INPUT: true; the input reads as it did. -/
def cartBackSpec : ChangeSpec := { name := "cartBack", fn := fun _ => fun
  | [d1, d2] => { results := [.lit (.bool true)], args := [d1, d2] }
  | _ => none }
def cartBackRow : OpenClaim := { program := "ytggjaoihfhianaadoor", sum := "8e3c2484ad1bdce58b04ea6f268ec657d7f831a20801f7fba94b035b21a550dc", func := "lanthorn/lanthornlaw03.CartBack", spec := "cartBack", inPlace := ["internal/abi.NoEscape", "internal/bytealg.MakeNoZero", "internal/bytealg.IndexByteString", "internal/bytealg.IndexString"], unfollowed := true, recurses := true, named := ["unicode/utf8.first", "unicode/utf8.acceptRanges", "internal/bytealg.MaxLen"], apart := false, laid := [("unicode/utf8.acceptRanges", laid_unicode_utf8_acceptRanges), ("unicode/utf8.first", laid_unicode_utf8_first)] }
def CartBackSaid : Prop := cartBackRow.holds Tryd.pinned (OpenSpec.ofChange cartBackSpec)

/-- ITS FALSE NEIGHBOUR: 'it returns false'. Refute it at one input. -/
def cartBackWrong : ChangeSpec := { name := "cartBack", fn := fun _ => fun
  | [d1, d2] => { results := [.lit (.bool false)], args := [d1, d2] }
  | _ => none }
def CartBackWrongFalsely : Prop := cartBackRow.holds Tryd.pinned (OpenSpec.ofChange cartBackWrong)

/-- 'lanthornlaw03.CartSound': WHATEVER THE INPUT: true; the input reads as it did. -/
def cartSoundSpec : ChangeSpec := { name := "cartSound", fn := fun _ => fun
  | [d1, d2] => { results := [.lit (.bool true)], args := [d1, d2] }
  | _ => none }
def cartSoundRow : OpenClaim := { program := "ytggjaoihfhianaadoor", sum := "8e3c2484ad1bdce58b04ea6f268ec657d7f831a20801f7fba94b035b21a550dc", func := "lanthorn/lanthornlaw03.CartSound", spec := "cartSound", inPlace := ["internal/bytealg.IndexByteString", "internal/bytealg.IndexString", "internal/abi.NoEscape", "internal/bytealg.MakeNoZero"], unfollowed := true, recurses := true, named := ["unicode/utf8.first", "unicode/utf8.acceptRanges", "internal/bytealg.MaxLen"], apart := false, laid := [("unicode/utf8.acceptRanges", laid_unicode_utf8_acceptRanges), ("unicode/utf8.first", laid_unicode_utf8_first)] }
def CartSoundSaid : Prop := cartSoundRow.holds Tryd.pinned (OpenSpec.ofChange cartSoundSpec)

/-- ITS FALSE NEIGHBOUR: 'it returns false'. Refute it at one input. -/
def cartSoundWrong : ChangeSpec := { name := "cartSound", fn := fun _ => fun
  | [d1, d2] => { results := [.lit (.bool false)], args := [d1, d2] }
  | _ => none }
def CartSoundWrongFalsely : Prop := cartSoundRow.holds Tryd.pinned (OpenSpec.ofChange cartSoundWrong)

/- THE SECOND FORM. 'bulk': how many values and letters a reading holds, each counted each time it is reached (what is shared counts as often as it is met; a slice's spare places count too). A statement '..UptoSaid' is the law's where the arguments, and the package variables that the reading takes, are together of bulk at most 1048576: NARROWER than '..Said'. Prove '..Said' where nothing that the law and all that it calls make is longer than what came in: it says more and counts as full. Else prove '..UptoSaid'. A law counts once. -/
mutual
def uptoBulk {H : Type} : DataW H → Nat
  | .lit (.string bytes) => bytes.length + 1
  | .lit _ => 1
  | .nil => 1
  | .ptr d => uptoBulk d + 1
  | .slice elems spare => uptoBulkAll elems + uptoBulkAll spare + 1
  | .agg parts => uptoBulkAll parts + 1
  | .iface _ d => uptoBulk d + 1
  | .map entries => uptoBulkEntries entries + 1
  | .held _ => 1
def uptoBulkAll {H : Type} : List (DataW H) → Nat
  | [] => 0
  | d :: r => uptoBulk d + uptoBulkAll r
def uptoBulkEntries {H : Type} : List (Lit × DataW H) → Nat
  | [] => 0
  | x :: r => uptoBulkEntry x + uptoBulkEntries r
def uptoBulkEntry {H : Type} : Lit × DataW H → Nat
  | (.string bytes, d) => bytes.length + uptoBulk d + 1
  | (_, d) => uptoBulk d + 1
 end
def uptoSmall : (H : Type) → List (DataW H) → Bool := fun _ ds => decide (uptoBulkAll ds ≤ 1048576)
def OpenSpec.upto (s : _root_.Go.ChangeSpec) : _root_.Go.OpenSpec := { _root_.Go.OpenSpec.ofChange s with cond := some uptoSmall }

/-- 'lanthornlaw03.CartReads', WHERE WHAT IT READS IS OF BULK AT MOST 1048576: true; the input reads as it did. -/
def cartReadsUptoRow : OpenClaim := { program := "ytggjaoihfhianaadoor", sum := "8e3c2484ad1bdce58b04ea6f268ec657d7f831a20801f7fba94b035b21a550dc", func := "lanthorn/lanthornlaw03.CartReads", spec := "cartReads", inPlace := ["internal/bytealg.IndexByteString", "internal/bytealg.IndexString"], named := ["unicode/utf8.first", "unicode/utf8.acceptRanges", "internal/bytealg.MaxLen"], apart := false, laid := [("unicode/utf8.acceptRanges", laid_unicode_utf8_acceptRanges), ("unicode/utf8.first", laid_unicode_utf8_first)], narrowed := true }
def CartReadsUptoSaid : Prop := cartReadsUptoRow.holds Tryd.pinned (OpenSpec.upto cartReadsSpec)

/-- 'lanthornlaw03.CartLooks', WHERE WHAT IT READS IS OF BULK AT MOST 1048576: true; the input reads as it did. -/
def cartLooksUptoRow : OpenClaim := { program := "ytggjaoihfhianaadoor", sum := "8e3c2484ad1bdce58b04ea6f268ec657d7f831a20801f7fba94b035b21a550dc", func := "lanthorn/lanthornlaw03.CartLooks", spec := "cartLooks", inPlace := ["internal/bytealg.IndexByteString", "internal/bytealg.IndexString"], named := ["unicode/utf8.first", "unicode/utf8.acceptRanges", "internal/bytealg.MaxLen"], apart := false, laid := [("unicode/utf8.acceptRanges", laid_unicode_utf8_acceptRanges), ("unicode/utf8.first", laid_unicode_utf8_first)], narrowed := true }
def CartLooksUptoSaid : Prop := cartLooksUptoRow.holds Tryd.pinned (OpenSpec.upto cartLooksSpec)

/-- 'lanthornlaw03.CartBack', WHERE WHAT IT READS IS OF BULK AT MOST 1048576: true; the input reads as it did. -/
def cartBackUptoRow : OpenClaim := { program := "ytggjaoihfhianaadoor", sum := "8e3c2484ad1bdce58b04ea6f268ec657d7f831a20801f7fba94b035b21a550dc", func := "lanthorn/lanthornlaw03.CartBack", spec := "cartBack", inPlace := ["internal/abi.NoEscape", "internal/bytealg.MakeNoZero", "internal/bytealg.IndexByteString", "internal/bytealg.IndexString"], unfollowed := true, recurses := true, named := ["unicode/utf8.first", "unicode/utf8.acceptRanges", "internal/bytealg.MaxLen"], apart := false, laid := [("unicode/utf8.acceptRanges", laid_unicode_utf8_acceptRanges), ("unicode/utf8.first", laid_unicode_utf8_first)], narrowed := true }
def CartBackUptoSaid : Prop := cartBackUptoRow.holds Tryd.pinned (OpenSpec.upto cartBackSpec)

/-- 'lanthornlaw03.CartSound', WHERE WHAT IT READS IS OF BULK AT MOST 1048576: true; the input reads as it did. -/
def cartSoundUptoRow : OpenClaim := { program := "ytggjaoihfhianaadoor", sum := "8e3c2484ad1bdce58b04ea6f268ec657d7f831a20801f7fba94b035b21a550dc", func := "lanthorn/lanthornlaw03.CartSound", spec := "cartSound", inPlace := ["internal/bytealg.IndexByteString", "internal/bytealg.IndexString", "internal/abi.NoEscape", "internal/bytealg.MakeNoZero"], unfollowed := true, recurses := true, named := ["unicode/utf8.first", "unicode/utf8.acceptRanges", "internal/bytealg.MaxLen"], apart := false, laid := [("unicode/utf8.acceptRanges", laid_unicode_utf8_acceptRanges), ("unicode/utf8.first", laid_unicode_utf8_first)], narrowed := true }
def CartSoundUptoSaid : Prop := cartSoundUptoRow.holds Tryd.pinned (OpenSpec.upto cartSoundSpec)

end Rows
end Go.Proofs.YtggjaoihfhianaaDoor
