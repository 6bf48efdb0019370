/-
  DERIVED. GIVEN WITH THE SEED: THE CARDS: each row of YtlogijjgachdjaaDoorRows.lean that lists a variable, with what it lists TIED to the program's text (the seventh form; the later family's looks); each row that meets fmt, with fmt's text TOLD by the authors' own Lean function (tested against real Go, not proved from fmt's source: count such statements apart). THE CARD IS WHAT COUNTS. Prove the row's statement (the work); the ties are given (YtlogijjgachdjaaDoorTie.lean); close each card by the builder's one call (the guide's Derived/Test/ToyasCard.lean, 'card_holds'). Laid BY PROGRAM, IN A SANDBOX (cutbox-door.mjs). By AI agents, Wed Nov 11 2026. No macro, syntax, notation, axiom, sorry.
-/
import Derived.Test.YtlogijjgachdjaaDoorRows
import GoSem.ClaimSeven
namespace Go.Proofs.YtlogijjgachdjaaDoor
namespace Rows

/-- THE TIED CARD OF 'lanthornlaw10.NotesMean'. -/
def notesMeanCard : Claim7 := { stood := { row := notesMeanRow, standIns := [], harness := (true, "b3f021738d7f0acd7481e9379f866a43af2f67775257addf264dcdd9ec67a1ff"), looks := false }, kinds := [], alts := [], laidByText := true, laidKinds := [.data, .pinned], laidTests := true, laidLooks := .later }
def NotesMeanCardSaid : Prop := Claim7.holds Tryd.pinned (.plain (OpenSpec.ofChange notesMeanSpec)) notesMeanCard

/-- THE TIED CARD OF 'lanthornlaw10.NotesAll'. -/
def notesAllCard : Claim7 := { stood := { row := notesAllRow, standIns := [], harness := (true, "b3f021738d7f0acd7481e9379f866a43af2f67775257addf264dcdd9ec67a1ff"), looks := false }, kinds := [], alts := [], laidByText := true, laidKinds := [.data, .pinned], laidTests := true, laidLooks := .later }
def NotesAllCardSaid : Prop := Claim7.holds Tryd.pinned (.plain (OpenSpec.ofChange notesAllSpec)) notesAllCard

/-- THE TIED CARD OF 'lanthornlaw10.NotesWritten'. -/
def notesWrittenCard : Claim7 := { stood := { row := notesWrittenRow, standIns := [], harness := (true, "b3f021738d7f0acd7481e9379f866a43af2f67775257addf264dcdd9ec67a1ff"), looks := false }, kinds := [], alts := [], laidByText := true, laidKinds := [.data, .data, .data, .data, .pinned], laidTests := true, laidLooks := .later }
def NotesWrittenCardSaid : Prop := Claim7.holds Tryd.pinned (.plain (OpenSpec.ofChange notesWrittenSpec)) notesWrittenCard

/-- THE TIED CARD OF 'lanthornlaw10.NotesSound'. -/
def notesSoundCard : Claim7 := { stood := { row := notesSoundRow, standIns := [], harness := (true, "b3f021738d7f0acd7481e9379f866a43af2f67775257addf264dcdd9ec67a1ff"), looks := false }, kinds := [], alts := [], laidByText := true, laidKinds := [.data, .data, .data, .data, .pinned], laidTests := true, laidLooks := .later }
def NotesSoundCardSaid : Prop := Claim7.holds Tryd.pinned (.plain (OpenSpec.ofChange notesSoundSpec)) notesSoundCard

/-- THE SECOND FORM's CARD OF 'lanthornlaw10.NotesMean'. -/
def notesMeanUptoCard : Claim7 := { stood := { row := notesMeanUptoRow, standIns := [], harness := (true, "b3f021738d7f0acd7481e9379f866a43af2f67775257addf264dcdd9ec67a1ff"), looks := false }, kinds := [], alts := [], laidByText := true, laidKinds := [.data, .pinned], laidTests := true, laidLooks := .later }
def NotesMeanUptoCardSaid : Prop := Claim7.holds Tryd.pinned (.plain (OpenSpec.upto notesMeanSpec)) notesMeanUptoCard

/-- THE SECOND FORM's CARD OF 'lanthornlaw10.NotesAll'. -/
def notesAllUptoCard : Claim7 := { stood := { row := notesAllUptoRow, standIns := [], harness := (true, "b3f021738d7f0acd7481e9379f866a43af2f67775257addf264dcdd9ec67a1ff"), looks := false }, kinds := [], alts := [], laidByText := true, laidKinds := [.data, .pinned], laidTests := true, laidLooks := .later }
def NotesAllUptoCardSaid : Prop := Claim7.holds Tryd.pinned (.plain (OpenSpec.upto notesAllSpec)) notesAllUptoCard

/-- THE SECOND FORM's CARD OF 'lanthornlaw10.NotesWritten'. -/
def notesWrittenUptoCard : Claim7 := { stood := { row := notesWrittenUptoRow, standIns := [], harness := (true, "b3f021738d7f0acd7481e9379f866a43af2f67775257addf264dcdd9ec67a1ff"), looks := false }, kinds := [], alts := [], laidByText := true, laidKinds := [.data, .data, .data, .data, .pinned], laidTests := true, laidLooks := .later }
def NotesWrittenUptoCardSaid : Prop := Claim7.holds Tryd.pinned (.plain (OpenSpec.upto notesWrittenSpec)) notesWrittenUptoCard

/-- THE SECOND FORM's CARD OF 'lanthornlaw10.NotesSound'. -/
def notesSoundUptoCard : Claim7 := { stood := { row := notesSoundUptoRow, standIns := [], harness := (true, "b3f021738d7f0acd7481e9379f866a43af2f67775257addf264dcdd9ec67a1ff"), looks := false }, kinds := [], alts := [], laidByText := true, laidKinds := [.data, .data, .data, .data, .pinned], laidTests := true, laidLooks := .later }
def NotesSoundUptoCardSaid : Prop := Claim7.holds Tryd.pinned (.plain (OpenSpec.upto notesSoundSpec)) notesSoundUptoCard
end Rows
end Go.Proofs.YtlogijjgachdjaaDoor
