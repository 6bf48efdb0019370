/-
  DERIVED. GIVEN WITH THE SEED: THE CARDS: each row of YtbdhdedlemndeaaDoorRows.lean that lists a variable, with what it lists TIED to the program's text (the seventh form; the later family's looks); each row that meets fmt, with fmt's text TOLD by the authors' own Lean function (tested against real Go, not proved from fmt's source: count such statements apart). THE CARD IS WHAT COUNTS. Prove the row's statement (the work); the ties are given (YtbdhdedlemndeaaDoorTie.lean); close each card by the builder's one call (the guide's Derived/Test/ToyasCard.lean, 'card_holds'). Laid BY PROGRAM, IN A SANDBOX (cutbox-door.mjs). By AI agents, Wed Nov 11 2026. No macro, syntax, notation, axiom, sorry.
-/
import Derived.Test.YtbdhdedlemndeaaDoorRows
import GoSem.ClaimSeven
namespace Go.Proofs.YtbdhdedlemndeaaDoor
namespace Rows

/-- THE TIED CARD OF 'lanthornlaw13.TickRuns'. -/
def tickRunsCard : Claim7 := { stood := { row := tickRunsRow, standIns := [], harness := (true, "607f3210496bd3e077a09e549097b910b2c0e06ee982991e420cc7be35bc15af"), looks := true }, kinds := [], alts := [], laidByText := true, laidKinds := [.data], laidTests := true, laidLooks := .later }
def TickRunsCardSaid : Prop := Claim7.holds Tryd.pinned (.plain (OpenSpec.ofChange tickRunsSpec)) tickRunsCard

/-- THE TIED CARD OF 'lanthornlaw13.TickLoads'. -/
def tickLoadsCard : Claim7 := { stood := { row := tickLoadsRow, standIns := [], harness := (true, "607f3210496bd3e077a09e549097b910b2c0e06ee982991e420cc7be35bc15af"), looks := true }, kinds := [], alts := [], laidByText := true, laidKinds := [.data], laidTests := true, laidLooks := .later }
def TickLoadsCardSaid : Prop := Claim7.holds Tryd.pinned (.plain (OpenSpec.ofChange tickLoadsSpec)) tickLoadsCard

/-- THE TIED CARD OF 'lanthornlaw13.TickBoots'. -/
def tickBootsCard : Claim7 := { stood := { row := tickBootsRow, standIns := [], harness := (true, "607f3210496bd3e077a09e549097b910b2c0e06ee982991e420cc7be35bc15af"), looks := true }, kinds := [], alts := [], laidByText := true, laidKinds := [.data], laidTests := true, laidLooks := .later }
def TickBootsCardSaid : Prop := Claim7.holds Tryd.pinned (.plain (OpenSpec.ofChange tickBootsSpec)) tickBootsCard

/-- THE TIED CARD OF 'lanthornlaw13.TickTimes'. -/
def tickTimesCard : Claim7 := { stood := { row := tickTimesRow, standIns := [], harness := (true, "607f3210496bd3e077a09e549097b910b2c0e06ee982991e420cc7be35bc15af"), looks := true }, kinds := [], alts := [], laidByText := true, laidKinds := [.data], laidTests := true, laidLooks := .later }
def TickTimesCardSaid : Prop := Claim7.holds Tryd.pinned (.plain (OpenSpec.ofChange tickTimesSpec)) tickTimesCard

/-- THE TIED CARD OF 'lanthornlaw13.TickNil'. -/
def tickNilCard : Claim7 := { stood := { row := tickNilRow, standIns := [], harness := (true, "607f3210496bd3e077a09e549097b910b2c0e06ee982991e420cc7be35bc15af"), looks := true }, kinds := [], alts := [], laidByText := true, laidKinds := [.data], laidTests := true, laidLooks := .later }
def TickNilCardSaid : Prop := Claim7.holds Tryd.pinned (.plain (OpenSpec.ofChange tickNilSpec)) tickNilCard

/-- THE SECOND FORM's CARD OF 'lanthornlaw13.TickRuns'. -/
def tickRunsUptoCard : Claim7 := { stood := { row := tickRunsUptoRow, standIns := [], harness := (true, "607f3210496bd3e077a09e549097b910b2c0e06ee982991e420cc7be35bc15af"), looks := true }, kinds := [], alts := [], laidByText := true, laidKinds := [.data], laidTests := true, laidLooks := .later }
def TickRunsUptoCardSaid : Prop := Claim7.holds Tryd.pinned (.plain (OpenSpec.upto tickRunsSpec)) tickRunsUptoCard

/-- THE SECOND FORM's CARD OF 'lanthornlaw13.TickLoads'. -/
def tickLoadsUptoCard : Claim7 := { stood := { row := tickLoadsUptoRow, standIns := [], harness := (true, "607f3210496bd3e077a09e549097b910b2c0e06ee982991e420cc7be35bc15af"), looks := true }, kinds := [], alts := [], laidByText := true, laidKinds := [.data], laidTests := true, laidLooks := .later }
def TickLoadsUptoCardSaid : Prop := Claim7.holds Tryd.pinned (.plain (OpenSpec.upto tickLoadsSpec)) tickLoadsUptoCard

/-- THE SECOND FORM's CARD OF 'lanthornlaw13.TickBoots'. -/
def tickBootsUptoCard : Claim7 := { stood := { row := tickBootsUptoRow, standIns := [], harness := (true, "607f3210496bd3e077a09e549097b910b2c0e06ee982991e420cc7be35bc15af"), looks := true }, kinds := [], alts := [], laidByText := true, laidKinds := [.data], laidTests := true, laidLooks := .later }
def TickBootsUptoCardSaid : Prop := Claim7.holds Tryd.pinned (.plain (OpenSpec.upto tickBootsSpec)) tickBootsUptoCard

/-- THE SECOND FORM's CARD OF 'lanthornlaw13.TickTimes'. -/
def tickTimesUptoCard : Claim7 := { stood := { row := tickTimesUptoRow, standIns := [], harness := (true, "607f3210496bd3e077a09e549097b910b2c0e06ee982991e420cc7be35bc15af"), looks := true }, kinds := [], alts := [], laidByText := true, laidKinds := [.data], laidTests := true, laidLooks := .later }
def TickTimesUptoCardSaid : Prop := Claim7.holds Tryd.pinned (.plain (OpenSpec.upto tickTimesSpec)) tickTimesUptoCard

/-- THE SECOND FORM's CARD OF 'lanthornlaw13.TickNil'. -/
def tickNilUptoCard : Claim7 := { stood := { row := tickNilUptoRow, standIns := [], harness := (true, "607f3210496bd3e077a09e549097b910b2c0e06ee982991e420cc7be35bc15af"), looks := true }, kinds := [], alts := [], laidByText := true, laidKinds := [.data], laidTests := true, laidLooks := .later }
def TickNilUptoCardSaid : Prop := Claim7.holds Tryd.pinned (.plain (OpenSpec.upto tickNilSpec)) tickNilUptoCard
end Rows
end Go.Proofs.YtbdhdedlemndeaaDoor
