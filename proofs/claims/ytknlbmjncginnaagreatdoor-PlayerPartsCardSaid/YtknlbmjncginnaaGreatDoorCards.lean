/-
  DERIVED. GIVEN WITH THE SEED: THE CARDS: each row of YtknlbmjncginnaaGreatDoorRows.lean that lists a variable, with what it lists TIED to the program's text (the seventh form; the later family's looks); each row that meets fmt, with fmt's text TOLD by the authors' own Lean function (tested against real Go, not proved from fmt's source: count such statements apart). THE CARD IS WHAT COUNTS. Prove the row's statement (the work); the ties are given (YtknlbmjncginnaaGreatDoorTie.lean); close each card by the builder's one call (the guide's Derived/Test/ToyasCard.lean, 'card_holds'). Laid BY PROGRAM, IN A SANDBOX (cutbox-door.mjs). By AI agents, Wed Nov 11 2026. No macro, syntax, notation, axiom, sorry.
-/
import Derived.Test.YtknlbmjncginnaaGreatDoorRows
import GoSem.ClaimSeven
namespace Go.Proofs.YtknlbmjncginnaaGreatDoor
namespace Rows

/-- THE TIED CARD OF 'lanthornlaw11.TuneCourses'. -/
def tuneCoursesCard : Claim7 := { stood := { row := tuneCoursesRow, standIns := [], harness := (true, "cafb0ae15c321d2bb9bbbc1428b0ef1e54f9b74db9b64f9df53102b96c52720a"), looks := true }, kinds := [], alts := [], laidByText := true, laidKinds := [.data, .pinned], laidTests := true, laidLooks := .later }
def TuneCoursesCardSaid : Prop := Claim7.holds Tryz.pinned (.plain (OpenSpec.ofChange tuneCoursesSpec)) tuneCoursesCard

/-- THE TIED CARD OF 'lanthornlaw11.TuneRuns'. -/
def tuneRunsCard : Claim7 := { stood := { row := tuneRunsRow, standIns := [], harness := (true, "cafb0ae15c321d2bb9bbbc1428b0ef1e54f9b74db9b64f9df53102b96c52720a"), looks := true }, kinds := [], alts := [], laidByText := true, laidKinds := [.data, .pinned], laidTests := true, laidLooks := .later }
def TuneRunsCardSaid : Prop := Claim7.holds Tryz.pinned (.plain (OpenSpec.ofChange tuneRunsSpec)) tuneRunsCard

/-- THE TIED CARD OF 'lanthornlaw11.TuneGrows'. -/
def tuneGrowsCard : Claim7 := { stood := { row := tuneGrowsRow, standIns := [], harness := (true, "cafb0ae15c321d2bb9bbbc1428b0ef1e54f9b74db9b64f9df53102b96c52720a"), looks := true }, kinds := [], alts := [], laidByText := true, laidKinds := [.data, .pinned], laidTests := true, laidLooks := .later }
def TuneGrowsCardSaid : Prop := Claim7.holds Tryz.pinned (.plain (OpenSpec.ofChange tuneGrowsSpec)) tuneGrowsCard

/-- THE TIED CARD OF 'lanthornlaw11.TuneCycles'. -/
def tuneCyclesCard : Claim7 := { stood := { row := tuneCyclesRow, standIns := [], harness := (true, "cafb0ae15c321d2bb9bbbc1428b0ef1e54f9b74db9b64f9df53102b96c52720a"), looks := true }, kinds := [], alts := [], laidByText := true, laidKinds := [.data, .pinned], laidTests := true, laidLooks := .later }
def TuneCyclesCardSaid : Prop := Claim7.holds Tryz.pinned (.plain (OpenSpec.ofChange tuneCyclesSpec)) tuneCyclesCard

/-- THE TIED CARD OF 'lanthornlaw12.PlayerSteps'. -/
def playerStepsCard : Claim7 := { stood := { row := playerStepsRow, standIns := [], harness := (true, "cafb0ae15c321d2bb9bbbc1428b0ef1e54f9b74db9b64f9df53102b96c52720a"), looks := true }, kinds := [], alts := [], laidByText := true, laidKinds := [.data, .pinned], laidTests := true, laidLooks := .later }
def PlayerStepsCardSaid : Prop := Claim7.holds Tryz.pinned (.plain (OpenSpec.ofChange playerStepsSpec)) playerStepsCard

/-- THE TIED CARD OF 'lanthornlaw12.PlayerRuns'. -/
def playerRunsCard : Claim7 := { stood := { row := playerRunsRow, standIns := [], harness := (true, "cafb0ae15c321d2bb9bbbc1428b0ef1e54f9b74db9b64f9df53102b96c52720a"), looks := true }, kinds := [], alts := [], laidByText := true, laidKinds := [.data, .pinned], laidTests := true, laidLooks := .later }
def PlayerRunsCardSaid : Prop := Claim7.holds Tryz.pinned (.plain (OpenSpec.ofChange playerRunsSpec)) playerRunsCard

/-- THE TIED CARD OF 'lanthornlaw12.PlayerWhole'. -/
def playerWholeCard : Claim7 := { stood := { row := playerWholeRow, standIns := [], harness := (true, "cafb0ae15c321d2bb9bbbc1428b0ef1e54f9b74db9b64f9df53102b96c52720a"), looks := true }, kinds := [], alts := [], laidByText := true, laidKinds := [.data, .pinned], laidTests := true, laidLooks := .later }
def PlayerWholeCardSaid : Prop := Claim7.holds Tryz.pinned (.plain (OpenSpec.ofChange playerWholeSpec)) playerWholeCard

/-- THE TIED CARD OF 'lanthornlaw12.PlayerParts'. -/
def playerPartsCard : Claim7 := { stood := { row := playerPartsRow, standIns := [], harness := (true, "cafb0ae15c321d2bb9bbbc1428b0ef1e54f9b74db9b64f9df53102b96c52720a"), looks := true }, kinds := [], alts := [], laidByText := true, laidKinds := [.data, .pinned], laidTests := true, laidLooks := .later }
def PlayerPartsCardSaid : Prop := Claim7.holds Tryz.pinned (.plain (OpenSpec.ofChange playerPartsSpec)) playerPartsCard

/-- THE TIED CARD OF 'lanthornlaw12.PlayerSaved'. -/
def playerSavedCard : Claim7 := { stood := { row := playerSavedRow, standIns := [], harness := (true, "cafb0ae15c321d2bb9bbbc1428b0ef1e54f9b74db9b64f9df53102b96c52720a"), looks := true }, kinds := [], alts := [], laidByText := true, laidKinds := [.data, .pinned], laidTests := true, laidLooks := .later }
def PlayerSavedCardSaid : Prop := Claim7.holds Tryz.pinned (.plain (OpenSpec.ofChange playerSavedSpec)) playerSavedCard

/-- THE TIED CARD OF 'lanthornlaw12.PlayerRefuses'. -/
def playerRefusesCard : Claim7 := { stood := { row := playerRefusesRow, standIns := [], harness := (true, "cafb0ae15c321d2bb9bbbc1428b0ef1e54f9b74db9b64f9df53102b96c52720a"), looks := true }, kinds := [], alts := [], laidByText := true, laidKinds := [.data, .pinned], laidTests := true, laidLooks := .later }
def PlayerRefusesCardSaid : Prop := Claim7.holds Tryz.pinned (.plain (OpenSpec.ofChange playerRefusesSpec)) playerRefusesCard

/-- THE TIED CARD OF 'lanthornlaw12.PlayerNil'. -/
def playerNilCard : Claim7 := { stood := { row := playerNilRow, standIns := [], harness := (true, "cafb0ae15c321d2bb9bbbc1428b0ef1e54f9b74db9b64f9df53102b96c52720a"), looks := true }, kinds := [], alts := [], laidByText := true, laidKinds := [.data, .pinned], laidTests := true, laidLooks := .later }
def PlayerNilCardSaid : Prop := Claim7.holds Tryz.pinned (.plain (OpenSpec.ofChange playerNilSpec)) playerNilCard

/-- THE SECOND FORM's CARD OF 'lanthornlaw11.TuneCourses'. -/
def tuneCoursesUptoCard : Claim7 := { stood := { row := tuneCoursesUptoRow, standIns := [], harness := (true, "cafb0ae15c321d2bb9bbbc1428b0ef1e54f9b74db9b64f9df53102b96c52720a"), looks := true }, kinds := [], alts := [], laidByText := true, laidKinds := [.data, .pinned], laidTests := true, laidLooks := .later }
def TuneCoursesUptoCardSaid : Prop := Claim7.holds Tryz.pinned (.plain (OpenSpec.upto tuneCoursesSpec)) tuneCoursesUptoCard

/-- THE SECOND FORM's CARD OF 'lanthornlaw11.TuneRuns'. -/
def tuneRunsUptoCard : Claim7 := { stood := { row := tuneRunsUptoRow, standIns := [], harness := (true, "cafb0ae15c321d2bb9bbbc1428b0ef1e54f9b74db9b64f9df53102b96c52720a"), looks := true }, kinds := [], alts := [], laidByText := true, laidKinds := [.data, .pinned], laidTests := true, laidLooks := .later }
def TuneRunsUptoCardSaid : Prop := Claim7.holds Tryz.pinned (.plain (OpenSpec.upto tuneRunsSpec)) tuneRunsUptoCard

/-- THE SECOND FORM's CARD OF 'lanthornlaw11.TuneGrows'. -/
def tuneGrowsUptoCard : Claim7 := { stood := { row := tuneGrowsUptoRow, standIns := [], harness := (true, "cafb0ae15c321d2bb9bbbc1428b0ef1e54f9b74db9b64f9df53102b96c52720a"), looks := true }, kinds := [], alts := [], laidByText := true, laidKinds := [.data, .pinned], laidTests := true, laidLooks := .later }
def TuneGrowsUptoCardSaid : Prop := Claim7.holds Tryz.pinned (.plain (OpenSpec.upto tuneGrowsSpec)) tuneGrowsUptoCard

/-- THE SECOND FORM's CARD OF 'lanthornlaw11.TuneCycles'. -/
def tuneCyclesUptoCard : Claim7 := { stood := { row := tuneCyclesUptoRow, standIns := [], harness := (true, "cafb0ae15c321d2bb9bbbc1428b0ef1e54f9b74db9b64f9df53102b96c52720a"), looks := true }, kinds := [], alts := [], laidByText := true, laidKinds := [.data, .pinned], laidTests := true, laidLooks := .later }
def TuneCyclesUptoCardSaid : Prop := Claim7.holds Tryz.pinned (.plain (OpenSpec.upto tuneCyclesSpec)) tuneCyclesUptoCard

/-- THE SECOND FORM's CARD OF 'lanthornlaw12.PlayerSteps'. -/
def playerStepsUptoCard : Claim7 := { stood := { row := playerStepsUptoRow, standIns := [], harness := (true, "cafb0ae15c321d2bb9bbbc1428b0ef1e54f9b74db9b64f9df53102b96c52720a"), looks := true }, kinds := [], alts := [], laidByText := true, laidKinds := [.data, .pinned], laidTests := true, laidLooks := .later }
def PlayerStepsUptoCardSaid : Prop := Claim7.holds Tryz.pinned (.plain (OpenSpec.upto playerStepsSpec)) playerStepsUptoCard

/-- THE SECOND FORM's CARD OF 'lanthornlaw12.PlayerRuns'. -/
def playerRunsUptoCard : Claim7 := { stood := { row := playerRunsUptoRow, standIns := [], harness := (true, "cafb0ae15c321d2bb9bbbc1428b0ef1e54f9b74db9b64f9df53102b96c52720a"), looks := true }, kinds := [], alts := [], laidByText := true, laidKinds := [.data, .pinned], laidTests := true, laidLooks := .later }
def PlayerRunsUptoCardSaid : Prop := Claim7.holds Tryz.pinned (.plain (OpenSpec.upto playerRunsSpec)) playerRunsUptoCard

/-- THE SECOND FORM's CARD OF 'lanthornlaw12.PlayerWhole'. -/
def playerWholeUptoCard : Claim7 := { stood := { row := playerWholeUptoRow, standIns := [], harness := (true, "cafb0ae15c321d2bb9bbbc1428b0ef1e54f9b74db9b64f9df53102b96c52720a"), looks := true }, kinds := [], alts := [], laidByText := true, laidKinds := [.data, .pinned], laidTests := true, laidLooks := .later }
def PlayerWholeUptoCardSaid : Prop := Claim7.holds Tryz.pinned (.plain (OpenSpec.upto playerWholeSpec)) playerWholeUptoCard

/-- THE SECOND FORM's CARD OF 'lanthornlaw12.PlayerParts'. -/
def playerPartsUptoCard : Claim7 := { stood := { row := playerPartsUptoRow, standIns := [], harness := (true, "cafb0ae15c321d2bb9bbbc1428b0ef1e54f9b74db9b64f9df53102b96c52720a"), looks := true }, kinds := [], alts := [], laidByText := true, laidKinds := [.data, .pinned], laidTests := true, laidLooks := .later }
def PlayerPartsUptoCardSaid : Prop := Claim7.holds Tryz.pinned (.plain (OpenSpec.upto playerPartsSpec)) playerPartsUptoCard

/-- THE SECOND FORM's CARD OF 'lanthornlaw12.PlayerSaved'. -/
def playerSavedUptoCard : Claim7 := { stood := { row := playerSavedUptoRow, standIns := [], harness := (true, "cafb0ae15c321d2bb9bbbc1428b0ef1e54f9b74db9b64f9df53102b96c52720a"), looks := true }, kinds := [], alts := [], laidByText := true, laidKinds := [.data, .pinned], laidTests := true, laidLooks := .later }
def PlayerSavedUptoCardSaid : Prop := Claim7.holds Tryz.pinned (.plain (OpenSpec.upto playerSavedSpec)) playerSavedUptoCard

/-- THE SECOND FORM's CARD OF 'lanthornlaw12.PlayerRefuses'. -/
def playerRefusesUptoCard : Claim7 := { stood := { row := playerRefusesUptoRow, standIns := [], harness := (true, "cafb0ae15c321d2bb9bbbc1428b0ef1e54f9b74db9b64f9df53102b96c52720a"), looks := true }, kinds := [], alts := [], laidByText := true, laidKinds := [.data, .pinned], laidTests := true, laidLooks := .later }
def PlayerRefusesUptoCardSaid : Prop := Claim7.holds Tryz.pinned (.plain (OpenSpec.upto playerRefusesSpec)) playerRefusesUptoCard

/-- THE SECOND FORM's CARD OF 'lanthornlaw12.PlayerNil'. -/
def playerNilUptoCard : Claim7 := { stood := { row := playerNilUptoRow, standIns := [], harness := (true, "cafb0ae15c321d2bb9bbbc1428b0ef1e54f9b74db9b64f9df53102b96c52720a"), looks := true }, kinds := [], alts := [], laidByText := true, laidKinds := [.data, .pinned], laidTests := true, laidLooks := .later }
def PlayerNilUptoCardSaid : Prop := Claim7.holds Tryz.pinned (.plain (OpenSpec.upto playerNilSpec)) playerNilUptoCard
end Rows
end Go.Proofs.YtknlbmjncginnaaGreatDoor
