/-
  DERIVED. GIVEN WITH THE SEED: THE CARDS: each row of YtclmgkiiegkmhaaGreatDoorRows.lean that lists a variable, with what it lists TIED to the program's text (the seventh form; the later family's looks); each row that meets fmt, with fmt's text TOLD by the authors' own Lean function (tested against real Go, not proved from fmt's source: count such statements apart). THE CARD IS WHAT COUNTS. Prove the row's statement (the work); the ties are given (YtclmgkiiegkmhaaGreatDoorTie.lean); close each card by the builder's one call (the guide's Derived/Test/ToyasCard.lean, 'card_holds'). Laid BY PROGRAM, IN A SANDBOX (cutbox-door.mjs). By AI agents, Wed Nov 11 2026. No macro, syntax, notation, axiom, sorry.
-/
import Derived.Test.YtclmgkiiegkmhaaGreatDoorRows
import GoSem.ClaimSeven
namespace Go.Proofs.YtclmgkiiegkmhaaGreatDoor
namespace Rows

/-- THE TIED CARD OF 'grommetlaw18.RenameNil'. -/
def renameNilCard : Claim7 := { stood := { row := renameNilRow, standIns := [], harness := (true, "ee78a114f77f12532dd77b712d478747f2d55bc48a4b49c6395be6f49d93ab11"), looks := false }, kinds := [], alts := [], laidByText := true, laidKinds := [.data], laidTests := true, laidLooks := .later }
def RenameNilCardSaid : Prop := Claim7.holds Tryz.pinned (.plain (OpenSpec.ofChange renameNilSpec)) renameNilCard

/-- THE SECOND FORM's CARD OF 'grommetlaw18.RenameNil'. -/
def renameNilUptoCard : Claim7 := { stood := { row := renameNilUptoRow, standIns := [], harness := (true, "ee78a114f77f12532dd77b712d478747f2d55bc48a4b49c6395be6f49d93ab11"), looks := false }, kinds := [], alts := [], laidByText := true, laidKinds := [.data], laidTests := true, laidLooks := .later }
def RenameNilUptoCardSaid : Prop := Claim7.holds Tryz.pinned (.plain (OpenSpec.upto renameNilSpec)) renameNilUptoCard
end Rows
end Go.Proofs.YtclmgkiiegkmhaaGreatDoor
