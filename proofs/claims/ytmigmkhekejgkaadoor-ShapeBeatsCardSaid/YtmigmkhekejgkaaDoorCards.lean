/-
  DERIVED. GIVEN WITH THE SEED: THE CARDS: each row of YtmigmkhekejgkaaDoorRows.lean that lists a variable, with what it lists TIED to the program's text (the seventh form; the later family's looks); each row that meets fmt, with fmt's text TOLD by the authors' own Lean function (tested against real Go, not proved from fmt's source: count such statements apart). THE CARD IS WHAT COUNTS. Prove the row's statement (the work); the ties are given (YtmigmkhekejgkaaDoorTie.lean); close each card by the builder's one call (the guide's Derived/Test/ToyasCard.lean, 'card_holds'). Laid BY PROGRAM, IN A SANDBOX (cutbox-door.mjs). By AI agents, Wed Nov 11 2026. No macro, syntax, notation, axiom, sorry.
-/
import Derived.Test.YtmigmkhekejgkaaDoorRows
import GoSem.ClaimSeven
namespace Go.Proofs.YtmigmkhekejgkaaDoor
namespace Rows

/-- THE TIED CARD OF 'lanthornlaw15.ShapeBeats'. -/
def shapeBeatsCard : Claim7 := { stood := { row := shapeBeatsRow, standIns := [], harness := (true, "e20f952fc95b0f53f5da026c268b22fb2724767854ba3abe5861519672a209b0"), looks := false }, kinds := [], alts := [], laidByText := true, laidKinds := [.data], laidTests := true, laidLooks := .later }
def ShapeBeatsCardSaid : Prop := Claim7.holds Tryd.pinned (.plain (OpenSpec.ofChange shapeBeatsSpec)) shapeBeatsCard

/-- THE SECOND FORM's CARD OF 'lanthornlaw15.ShapeBeats'. -/
def shapeBeatsUptoCard : Claim7 := { stood := { row := shapeBeatsUptoRow, standIns := [], harness := (true, "e20f952fc95b0f53f5da026c268b22fb2724767854ba3abe5861519672a209b0"), looks := false }, kinds := [], alts := [], laidByText := true, laidKinds := [.data], laidTests := true, laidLooks := .later }
def ShapeBeatsUptoCardSaid : Prop := Claim7.holds Tryd.pinned (.plain (OpenSpec.upto shapeBeatsSpec)) shapeBeatsUptoCard
end Rows
end Go.Proofs.YtmigmkhekejgkaaDoor
