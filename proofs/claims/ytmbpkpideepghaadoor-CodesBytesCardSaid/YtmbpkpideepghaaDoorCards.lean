/-
  DERIVED. GIVEN WITH THE SEED: THE CARDS: each row of YtmbpkpideepghaaDoorRows.lean that lists a variable, with what it lists TIED to the program's text (the seventh form; the later family's looks); each row that meets fmt, with fmt's text TOLD by the authors' own Lean function (tested against real Go, not proved from fmt's source: count such statements apart). THE CARD IS WHAT COUNTS. Prove the row's statement (the work); the ties are given (YtmbpkpideepghaaDoorTie.lean); close each card by the builder's one call (the guide's Derived/Test/ToyasCard.lean, 'card_holds'). Laid BY PROGRAM, IN A SANDBOX (cutbox-door.mjs). By AI agents, Wed Nov 11 2026. No macro, syntax, notation, axiom, sorry.
-/
import Derived.Test.YtmbpkpideepghaaDoorRows
import GoSem.ClaimSeven
namespace Go.Proofs.YtmbpkpideepghaaDoor
namespace Rows

/-- THE TIED CARD OF 'lanthornlaw06.CodesOf'. -/
def codesOfCard : Claim7 := { stood := { row := codesOfRow, standIns := [], harness := (true, "cda3154c73853a3231cf3313b3142f790bf6ea5227b16b6a3fcba968ba76acfb"), looks := false }, kinds := [], alts := [], laidByText := true, laidKinds := [.data, .pinned], laidTests := true, laidLooks := .later }
def CodesOfCardSaid : Prop := Claim7.holds Tryd.pinned (.plain (OpenSpec.ofChange codesOfSpec)) codesOfCard

/-- THE TIED CARD OF 'lanthornlaw06.CodesAll'. -/
def codesAllCard : Claim7 := { stood := { row := codesAllRow, standIns := [], harness := (true, "cda3154c73853a3231cf3313b3142f790bf6ea5227b16b6a3fcba968ba76acfb"), looks := false }, kinds := [], alts := [], laidByText := true, laidKinds := [.data, .pinned], laidTests := true, laidLooks := .later }
def CodesAllCardSaid : Prop := Claim7.holds Tryd.pinned (.plain (OpenSpec.ofChange codesAllSpec)) codesAllCard

/-- THE TIED CARD OF 'lanthornlaw06.CodesTexts'. -/
def codesTextsCard : Claim7 := { stood := { row := codesTextsRow, standIns := [], harness := (true, "cda3154c73853a3231cf3313b3142f790bf6ea5227b16b6a3fcba968ba76acfb"), looks := false }, kinds := [], alts := [], laidByText := true, laidKinds := [.data, .pinned], laidTests := true, laidLooks := .later }
def CodesTextsCardSaid : Prop := Claim7.holds Tryd.pinned (.plain (OpenSpec.ofChange codesTextsSpec)) codesTextsCard

/-- THE TIED CARD OF 'lanthornlaw06.CodesBytes'. -/
def codesBytesCard : Claim7 := { stood := { row := codesBytesRow, standIns := [], harness := (true, "cda3154c73853a3231cf3313b3142f790bf6ea5227b16b6a3fcba968ba76acfb"), looks := false }, kinds := [], alts := [], laidByText := true, laidKinds := [.data, .pinned], laidTests := true, laidLooks := .later }
def CodesBytesCardSaid : Prop := Claim7.holds Tryd.pinned (.plain (OpenSpec.ofChange codesBytesSpec)) codesBytesCard

/-- THE TIED CARD OF 'lanthornlaw06.CodesBack'. -/
def codesBackCard : Claim7 := { stood := { row := codesBackRow, standIns := [], harness := (true, "cda3154c73853a3231cf3313b3142f790bf6ea5227b16b6a3fcba968ba76acfb"), looks := false }, kinds := [], alts := [], laidByText := true, laidKinds := [.data, .pinned], laidTests := true, laidLooks := .later }
def CodesBackCardSaid : Prop := Claim7.holds Tryd.pinned (.plain (OpenSpec.ofChange codesBackSpec)) codesBackCard

/-- THE TIED CARD OF 'lanthornlaw06.CodesForth'. -/
def codesForthCard : Claim7 := { stood := { row := codesForthRow, standIns := [], harness := (true, "cda3154c73853a3231cf3313b3142f790bf6ea5227b16b6a3fcba968ba76acfb"), looks := false }, kinds := [], alts := [], laidByText := true, laidKinds := [.data, .pinned], laidTests := true, laidLooks := .later }
def CodesForthCardSaid : Prop := Claim7.holds Tryd.pinned (.plain (OpenSpec.ofChange codesForthSpec)) codesForthCard

/-- THE TIED CARD OF 'lanthornlaw06.CodesUnlike'. -/
def codesUnlikeCard : Claim7 := { stood := { row := codesUnlikeRow, standIns := [], harness := (true, "cda3154c73853a3231cf3313b3142f790bf6ea5227b16b6a3fcba968ba76acfb"), looks := false }, kinds := [], alts := [], laidByText := true, laidKinds := [.data, .pinned], laidTests := true, laidLooks := .later }
def CodesUnlikeCardSaid : Prop := Claim7.holds Tryd.pinned (.plain (OpenSpec.ofChange codesUnlikeSpec)) codesUnlikeCard

/-- THE SECOND FORM's CARD OF 'lanthornlaw06.CodesOf'. -/
def codesOfUptoCard : Claim7 := { stood := { row := codesOfUptoRow, standIns := [], harness := (true, "cda3154c73853a3231cf3313b3142f790bf6ea5227b16b6a3fcba968ba76acfb"), looks := false }, kinds := [], alts := [], laidByText := true, laidKinds := [.data, .pinned], laidTests := true, laidLooks := .later }
def CodesOfUptoCardSaid : Prop := Claim7.holds Tryd.pinned (.plain (OpenSpec.upto codesOfSpec)) codesOfUptoCard

/-- THE SECOND FORM's CARD OF 'lanthornlaw06.CodesAll'. -/
def codesAllUptoCard : Claim7 := { stood := { row := codesAllUptoRow, standIns := [], harness := (true, "cda3154c73853a3231cf3313b3142f790bf6ea5227b16b6a3fcba968ba76acfb"), looks := false }, kinds := [], alts := [], laidByText := true, laidKinds := [.data, .pinned], laidTests := true, laidLooks := .later }
def CodesAllUptoCardSaid : Prop := Claim7.holds Tryd.pinned (.plain (OpenSpec.upto codesAllSpec)) codesAllUptoCard

/-- THE SECOND FORM's CARD OF 'lanthornlaw06.CodesTexts'. -/
def codesTextsUptoCard : Claim7 := { stood := { row := codesTextsUptoRow, standIns := [], harness := (true, "cda3154c73853a3231cf3313b3142f790bf6ea5227b16b6a3fcba968ba76acfb"), looks := false }, kinds := [], alts := [], laidByText := true, laidKinds := [.data, .pinned], laidTests := true, laidLooks := .later }
def CodesTextsUptoCardSaid : Prop := Claim7.holds Tryd.pinned (.plain (OpenSpec.upto codesTextsSpec)) codesTextsUptoCard

/-- THE SECOND FORM's CARD OF 'lanthornlaw06.CodesBytes'. -/
def codesBytesUptoCard : Claim7 := { stood := { row := codesBytesUptoRow, standIns := [], harness := (true, "cda3154c73853a3231cf3313b3142f790bf6ea5227b16b6a3fcba968ba76acfb"), looks := false }, kinds := [], alts := [], laidByText := true, laidKinds := [.data, .pinned], laidTests := true, laidLooks := .later }
def CodesBytesUptoCardSaid : Prop := Claim7.holds Tryd.pinned (.plain (OpenSpec.upto codesBytesSpec)) codesBytesUptoCard

/-- THE SECOND FORM's CARD OF 'lanthornlaw06.CodesBack'. -/
def codesBackUptoCard : Claim7 := { stood := { row := codesBackUptoRow, standIns := [], harness := (true, "cda3154c73853a3231cf3313b3142f790bf6ea5227b16b6a3fcba968ba76acfb"), looks := false }, kinds := [], alts := [], laidByText := true, laidKinds := [.data, .pinned], laidTests := true, laidLooks := .later }
def CodesBackUptoCardSaid : Prop := Claim7.holds Tryd.pinned (.plain (OpenSpec.upto codesBackSpec)) codesBackUptoCard

/-- THE SECOND FORM's CARD OF 'lanthornlaw06.CodesForth'. -/
def codesForthUptoCard : Claim7 := { stood := { row := codesForthUptoRow, standIns := [], harness := (true, "cda3154c73853a3231cf3313b3142f790bf6ea5227b16b6a3fcba968ba76acfb"), looks := false }, kinds := [], alts := [], laidByText := true, laidKinds := [.data, .pinned], laidTests := true, laidLooks := .later }
def CodesForthUptoCardSaid : Prop := Claim7.holds Tryd.pinned (.plain (OpenSpec.upto codesForthSpec)) codesForthUptoCard

/-- THE SECOND FORM's CARD OF 'lanthornlaw06.CodesUnlike'. -/
def codesUnlikeUptoCard : Claim7 := { stood := { row := codesUnlikeUptoRow, standIns := [], harness := (true, "cda3154c73853a3231cf3313b3142f790bf6ea5227b16b6a3fcba968ba76acfb"), looks := false }, kinds := [], alts := [], laidByText := true, laidKinds := [.data, .pinned], laidTests := true, laidLooks := .later }
def CodesUnlikeUptoCardSaid : Prop := Claim7.holds Tryd.pinned (.plain (OpenSpec.upto codesUnlikeSpec)) codesUnlikeUptoCard
end Rows
end Go.Proofs.YtmbpkpideepghaaDoor
