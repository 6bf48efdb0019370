/-
  NARROWER THAN 'FOR EVERY INPUT', by the rows' own cells (each row's printed sentence says how): TickRuns: laid · TickLoads: laid · TickBoots: laid · TickTimes: laid · TickNil: laid.
  DERIVED. THE GIVEN ROWS OF THIS SEAT. 5 by the template 'for every input the law returns true; each argument reads behind the call as it read before'; 0 by the template 'total and deterministic' (their statements: YtbdhdedlemndeaaDoorTotals.lean).
  GIVEN WITH THE SEED: the statements are not yours to turn. If you find one false, say at which input.
  Laid BY PROGRAM, IN A SANDBOX (cutbox-rows.mjs): the forced cells as the released guide's own fill.sh prints them over the translation 7061ecb4f87055b5… (all of the seat's roots in one cut). By AI agents, Wed Nov 11 2026. No macro, syntax, notation, axiom, sorry.
-/
import Derived.Test.YtbdhdedlemndeaaDoorChecked
import GoSem.Claim
import GoSem.ClaimJoined
import GoSem.ClaimMapViews
import Derived.JoinedTies
import Derived.KernelRfl
namespace Go.Proofs.YtbdhdedlemndeaaDoor
/- THE CELL 'sum', in the pinned program and in every row, IS THE sha256 OF THE DUMP (.gsa) THAT YtbdhdedlemndeaaDoorProg.lean LOADS. Nothing in Lean hashes anything: it is a label: what it is worth is what the hold of that sum in a sandbox is worth. -/
noncomputable def Tryd.pinned : Pinned := { name := "ytbdhdedlemndeaadoor", sum := "7061ecb4f87055b5ec3000d83c9f94e03ca9760c91f1be899329253c8a94655c", checked := Tryd.checked }
namespace Rows
def none {H : Type} : Left H := { results := [], args := [] }

/- WHAT THE LISTED PACKAGE-LEVEL VARIABLES READ AS WHEN THE CALL BEGINS. Each datum BY PROGRAM (the guide's laid-datum.mjs) off the statement by which the dump's own 'gosem.cut.vars' lays the variable. In a bare row this is a premise. The card (YtbdhdedlemndeaaDoorCards.lean) ties it to the program's text. -/
def laid_lanthorn_tick_periods {H : Type} : DataW H := .agg [.lit (.int .u8 128), .lit (.int .u8 128), .lit (.int .u8 16)]
def laid_lanthorn_tick_startUp {H : Type} : DataW H := .agg [.lit (.int .u8 205), .lit (.int .u8 239), .lit (.int .u8 189), .lit (.int .u8 143), .lit (.int .u8 165), .lit (.int .u8 244), .lit (.int .u8 120), .lit (.int .u8 90), .lit (.int .u8 244), .lit (.int .u8 208), .lit (.int .u8 251), .lit (.int .u8 186), .lit (.int .u8 246), .lit (.int .u8 218), .lit (.int .u8 0), .lit (.int .u8 205), .lit (.int .u8 0), .lit (.int .u8 141), .lit (.int .u8 0), .lit (.int .u8 216), .lit (.int .u8 244), .lit (.int .u8 61), .lit (.int .u8 62), .lit (.int .u8 244), .lit (.int .u8 240), .lit (.int .u8 9), .lit (.int .u8 228), .lit (.int .u8 244), .lit (.int .u8 208), .lit (.int .u8 248), .lit (.int .u8 205), .lit (.int .u8 0), .lit (.int .u8 31), .lit (.int .u8 246), .lit (.int .u8 0), .lit (.int .u8 228), .lit (.int .u8 245), .lit (.int .u8 215), .lit (.int .u8 0), .lit (.int .u8 252), .lit (.int .u8 208), .lit (.int .u8 2), .lit (.int .u8 171), .lit (.int .u8 1), .lit (.int .u8 216), .lit (.int .u8 244), .lit (.int .u8 61), .lit (.int .u8 208), .lit (.int .u8 229), .lit (.int .u8 61), .lit (.int .u8 47), .lit (.int .u8 226), .lit (.int .u8 0), .lit (.int .u8 0), .lit (.int .u8 0), .lit (.int .u8 0), .lit (.int .u8 0), .lit (.int .u8 0), .lit (.int .u8 0), .lit (.int .u8 0), .lit (.int .u8 0), .lit (.int .u8 0), .lit (.int .u8 192), .lit (.int .u8 255)]

/-- 'lanthornlaw13.TickRuns': WHATEVER THE INPUT: true; the input reads as it did. -/
def tickRunsSpec : ChangeSpec := { name := "tickRuns", fn := fun _ => fun
  | [d] => { results := [.lit (.bool true)], args := [d] }
  | _ => none }
def tickRunsRow : OpenClaim := { program := "ytbdhdedlemndeaadoor", sum := "7061ecb4f87055b5ec3000d83c9f94e03ca9760c91f1be899329253c8a94655c", func := "lanthorn/lanthornlaw13.TickRuns", spec := "tickRuns", unfollowed := true, recurses := true, named := ["lanthorn/tick.periods"], apart := false, laid := [("lanthorn/tick.periods", laid_lanthorn_tick_periods)] }
def TickRunsSaid : Prop := tickRunsRow.holds Tryd.pinned (OpenSpec.ofChange tickRunsSpec)

/-- ITS FALSE NEIGHBOUR: 'it returns false'. Refute it at one input. -/
def tickRunsWrong : ChangeSpec := { name := "tickRuns", fn := fun _ => fun
  | [d] => { results := [.lit (.bool false)], args := [d] }
  | _ => none }
def TickRunsWrongFalsely : Prop := tickRunsRow.holds Tryd.pinned (OpenSpec.ofChange tickRunsWrong)

/-- 'lanthornlaw13.TickLoads': WHATEVER THE INPUT: true; the input reads as it did. -/
def tickLoadsSpec : ChangeSpec := { name := "tickLoads", fn := fun _ => fun
  | [d1, d2] => { results := [.lit (.bool true)], args := [d1, d2] }
  | _ => none }
def tickLoadsRow : OpenClaim := { program := "ytbdhdedlemndeaadoor", sum := "7061ecb4f87055b5ec3000d83c9f94e03ca9760c91f1be899329253c8a94655c", func := "lanthorn/lanthornlaw13.TickLoads", spec := "tickLoads", unfollowed := true, recurses := true, named := ["lanthorn/tick.periods"], apart := false, laid := [("lanthorn/tick.periods", laid_lanthorn_tick_periods)] }
def TickLoadsSaid : Prop := tickLoadsRow.holds Tryd.pinned (OpenSpec.ofChange tickLoadsSpec)

/-- ITS FALSE NEIGHBOUR: 'it returns false'. Refute it at one input. -/
def tickLoadsWrong : ChangeSpec := { name := "tickLoads", fn := fun _ => fun
  | [d1, d2] => { results := [.lit (.bool false)], args := [d1, d2] }
  | _ => none }
def TickLoadsWrongFalsely : Prop := tickLoadsRow.holds Tryd.pinned (OpenSpec.ofChange tickLoadsWrong)

/-- 'lanthornlaw13.TickBoots': WHATEVER THE INPUT: true; the input reads as it did. -/
def tickBootsSpec : ChangeSpec := { name := "tickBoots", fn := fun _ => fun
  | [d] => { results := [.lit (.bool true)], args := [d] }
  | _ => none }
def tickBootsRow : OpenClaim := { program := "ytbdhdedlemndeaadoor", sum := "7061ecb4f87055b5ec3000d83c9f94e03ca9760c91f1be899329253c8a94655c", func := "lanthorn/lanthornlaw13.TickBoots", spec := "tickBoots", named := ["lanthorn/tick.startUp"], apart := false, laid := [("lanthorn/tick.startUp", laid_lanthorn_tick_startUp)] }
def TickBootsSaid : Prop := tickBootsRow.holds Tryd.pinned (OpenSpec.ofChange tickBootsSpec)

/-- ITS FALSE NEIGHBOUR: 'it returns false'. Refute it at one input. -/
def tickBootsWrong : ChangeSpec := { name := "tickBoots", fn := fun _ => fun
  | [d] => { results := [.lit (.bool false)], args := [d] }
  | _ => none }
def TickBootsWrongFalsely : Prop := tickBootsRow.holds Tryd.pinned (OpenSpec.ofChange tickBootsWrong)

/-- 'lanthornlaw13.TickTimes': WHATEVER THE INPUT: true; the input reads as it did. -/
def tickTimesSpec : ChangeSpec := { name := "tickTimes", fn := fun _ => fun
  | [d1, d2, d3] => { results := [.lit (.bool true)], args := [d1, d2, d3] }
  | _ => none }
def tickTimesRow : OpenClaim := { program := "ytbdhdedlemndeaadoor", sum := "7061ecb4f87055b5ec3000d83c9f94e03ca9760c91f1be899329253c8a94655c", func := "lanthorn/lanthornlaw13.TickTimes", spec := "tickTimes", named := ["lanthorn/tick.periods"], apart := false, laid := [("lanthorn/tick.periods", laid_lanthorn_tick_periods)] }
def TickTimesSaid : Prop := tickTimesRow.holds Tryd.pinned (OpenSpec.ofChange tickTimesSpec)

/-- ITS FALSE NEIGHBOUR: 'it returns false'. Refute it at one input. -/
def tickTimesWrong : ChangeSpec := { name := "tickTimes", fn := fun _ => fun
  | [d1, d2, d3] => { results := [.lit (.bool false)], args := [d1, d2, d3] }
  | _ => none }
def TickTimesWrongFalsely : Prop := tickTimesRow.holds Tryd.pinned (OpenSpec.ofChange tickTimesWrong)

/-- 'lanthornlaw13.TickNil': WHATEVER THE INPUT: true; the input reads as it did. -/
def tickNilSpec : ChangeSpec := { name := "tickNil", fn := fun _ => fun
  | [d1, d2, d3] => { results := [.lit (.bool true)], args := [d1, d2, d3] }
  | _ => none }
def tickNilRow : OpenClaim := { program := "ytbdhdedlemndeaadoor", sum := "7061ecb4f87055b5ec3000d83c9f94e03ca9760c91f1be899329253c8a94655c", func := "lanthorn/lanthornlaw13.TickNil", spec := "tickNil", unfollowed := true, recurses := true, named := ["lanthorn/tick.periods"], apart := false, laid := [("lanthorn/tick.periods", laid_lanthorn_tick_periods)] }
def TickNilSaid : Prop := tickNilRow.holds Tryd.pinned (OpenSpec.ofChange tickNilSpec)

/-- ITS FALSE NEIGHBOUR: 'it returns false'. Refute it at one input. -/
def tickNilWrong : ChangeSpec := { name := "tickNil", fn := fun _ => fun
  | [d1, d2, d3] => { results := [.lit (.bool false)], args := [d1, d2, d3] }
  | _ => none }
def TickNilWrongFalsely : Prop := tickNilRow.holds Tryd.pinned (OpenSpec.ofChange tickNilWrong)

/- THE SECOND FORM. 'bulk': how many values and letters a reading holds, each counted each time it is reached (what is shared counts as often as it is met; a slice's spare places count too). A statement '..UptoSaid' is the law's where the arguments, and the package variables that the reading takes, are together of bulk at most 1048576: NARROWER than '..Said'. Prove '..Said' where nothing that the law and all that it calls make is longer than what came in: it says more and counts as full. Else prove '..UptoSaid'. A law counts once. -/
mutual
def uptoBulk {H : Type} : DataW H → Nat
  | .lit (.string bytes) => bytes.length + 1
  | .lit _ => 1
  | .nil => 1
  | .ptr d => uptoBulk d + 1
  | .slice elems spare => uptoBulkAll elems + uptoBulkAll spare + 1
  | .agg parts => uptoBulkAll parts + 1
  | .iface _ d => uptoBulk d + 1
  | .map entries => uptoBulkEntries entries + 1
  | .held _ => 1
def uptoBulkAll {H : Type} : List (DataW H) → Nat
  | [] => 0
  | d :: r => uptoBulk d + uptoBulkAll r
def uptoBulkEntries {H : Type} : List (Lit × DataW H) → Nat
  | [] => 0
  | x :: r => uptoBulkEntry x + uptoBulkEntries r
def uptoBulkEntry {H : Type} : Lit × DataW H → Nat
  | (.string bytes, d) => bytes.length + uptoBulk d + 1
  | (_, d) => uptoBulk d + 1
 end
def uptoSmall : (H : Type) → List (DataW H) → Bool := fun _ ds => decide (uptoBulkAll ds ≤ 1048576)
def OpenSpec.upto (s : _root_.Go.ChangeSpec) : _root_.Go.OpenSpec := { _root_.Go.OpenSpec.ofChange s with cond := some uptoSmall }

/-- 'lanthornlaw13.TickRuns', WHERE WHAT IT READS IS OF BULK AT MOST 1048576: true; the input reads as it did. -/
def tickRunsUptoRow : OpenClaim := { program := "ytbdhdedlemndeaadoor", sum := "7061ecb4f87055b5ec3000d83c9f94e03ca9760c91f1be899329253c8a94655c", func := "lanthorn/lanthornlaw13.TickRuns", spec := "tickRuns", unfollowed := true, recurses := true, named := ["lanthorn/tick.periods"], apart := false, laid := [("lanthorn/tick.periods", laid_lanthorn_tick_periods)], narrowed := true }
def TickRunsUptoSaid : Prop := tickRunsUptoRow.holds Tryd.pinned (OpenSpec.upto tickRunsSpec)

/-- 'lanthornlaw13.TickLoads', WHERE WHAT IT READS IS OF BULK AT MOST 1048576: true; the input reads as it did. -/
def tickLoadsUptoRow : OpenClaim := { program := "ytbdhdedlemndeaadoor", sum := "7061ecb4f87055b5ec3000d83c9f94e03ca9760c91f1be899329253c8a94655c", func := "lanthorn/lanthornlaw13.TickLoads", spec := "tickLoads", unfollowed := true, recurses := true, named := ["lanthorn/tick.periods"], apart := false, laid := [("lanthorn/tick.periods", laid_lanthorn_tick_periods)], narrowed := true }
def TickLoadsUptoSaid : Prop := tickLoadsUptoRow.holds Tryd.pinned (OpenSpec.upto tickLoadsSpec)

/-- 'lanthornlaw13.TickBoots', WHERE WHAT IT READS IS OF BULK AT MOST 1048576: true; the input reads as it did. -/
def tickBootsUptoRow : OpenClaim := { program := "ytbdhdedlemndeaadoor", sum := "7061ecb4f87055b5ec3000d83c9f94e03ca9760c91f1be899329253c8a94655c", func := "lanthorn/lanthornlaw13.TickBoots", spec := "tickBoots", named := ["lanthorn/tick.startUp"], apart := false, laid := [("lanthorn/tick.startUp", laid_lanthorn_tick_startUp)], narrowed := true }
def TickBootsUptoSaid : Prop := tickBootsUptoRow.holds Tryd.pinned (OpenSpec.upto tickBootsSpec)

/-- 'lanthornlaw13.TickTimes', WHERE WHAT IT READS IS OF BULK AT MOST 1048576: true; the input reads as it did. -/
def tickTimesUptoRow : OpenClaim := { program := "ytbdhdedlemndeaadoor", sum := "7061ecb4f87055b5ec3000d83c9f94e03ca9760c91f1be899329253c8a94655c", func := "lanthorn/lanthornlaw13.TickTimes", spec := "tickTimes", named := ["lanthorn/tick.periods"], apart := false, laid := [("lanthorn/tick.periods", laid_lanthorn_tick_periods)], narrowed := true }
def TickTimesUptoSaid : Prop := tickTimesUptoRow.holds Tryd.pinned (OpenSpec.upto tickTimesSpec)

/-- 'lanthornlaw13.TickNil', WHERE WHAT IT READS IS OF BULK AT MOST 1048576: true; the input reads as it did. -/
def tickNilUptoRow : OpenClaim := { program := "ytbdhdedlemndeaadoor", sum := "7061ecb4f87055b5ec3000d83c9f94e03ca9760c91f1be899329253c8a94655c", func := "lanthorn/lanthornlaw13.TickNil", spec := "tickNil", unfollowed := true, recurses := true, named := ["lanthorn/tick.periods"], apart := false, laid := [("lanthorn/tick.periods", laid_lanthorn_tick_periods)], narrowed := true }
def TickNilUptoSaid : Prop := tickNilUptoRow.holds Tryd.pinned (OpenSpec.upto tickNilSpec)

end Rows
end Go.Proofs.YtbdhdedlemndeaaDoor
