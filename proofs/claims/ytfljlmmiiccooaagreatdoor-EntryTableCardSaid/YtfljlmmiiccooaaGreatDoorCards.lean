/-
  DERIVED. GIVEN WITH THE SEED: THE CARDS: each row of YtfljlmmiiccooaaGreatDoorRows.lean that lists a variable, with what it lists TIED to the program's text (the seventh form; the later family's looks); each row that meets fmt, with fmt's text TOLD by the authors' own Lean function (tested against real Go, not proved from fmt's source: count such statements apart). THE CARD IS WHAT COUNTS. Prove the row's statement (the work); the ties are given (YtfljlmmiiccooaaGreatDoorTie.lean); close each card by the builder's one call (the guide's Derived/Test/ToyasCard.lean, 'card_holds'). Laid BY PROGRAM, IN A SANDBOX (cutbox-door.mjs). By AI agents, Wed Nov 11 2026. No macro, syntax, notation, axiom, sorry.
-/
import Derived.Test.YtfljlmmiiccooaaGreatDoorRows
import GoSem.ClaimSeven
namespace Go.Proofs.YtfljlmmiiccooaaGreatDoor
namespace Rows

/-- THE TIED CARD OF 'grommetlaw15.EntryPlays'. -/
def entryPlaysCard : Claim7 := { stood := { row := entryPlaysRow, standIns := [], harness := (true, "ba8661d5df9ffa8b1ab2c0cfc92a4af11e5ad0c71975aead5ee8fee048ed1ace"), looks := false }, kinds := [], alts := [], laidByText := true, laidKinds := [.data], laidTests := true, laidLooks := .later }
def EntryPlaysCardSaid : Prop := Claim7.holds Tryz.pinned (.plain (OpenSpec.ofChange entryPlaysSpec)) entryPlaysCard

/-- THE TIED CARD OF 'grommetlaw15.EntryTable'. -/
def entryTableCard : Claim7 := { stood := { row := entryTableRow, standIns := [], harness := (true, "ba8661d5df9ffa8b1ab2c0cfc92a4af11e5ad0c71975aead5ee8fee048ed1ace"), looks := false }, kinds := [], alts := [], laidByText := true, laidKinds := [.data], laidTests := true, laidLooks := .later }
def EntryTableCardSaid : Prop := Claim7.holds Tryz.pinned (.plain (OpenSpec.ofChange entryTableSpec)) entryTableCard

/-- THE SECOND FORM's CARD OF 'grommetlaw15.EntryPlays'. -/
def entryPlaysUptoCard : Claim7 := { stood := { row := entryPlaysUptoRow, standIns := [], harness := (true, "ba8661d5df9ffa8b1ab2c0cfc92a4af11e5ad0c71975aead5ee8fee048ed1ace"), looks := false }, kinds := [], alts := [], laidByText := true, laidKinds := [.data], laidTests := true, laidLooks := .later }
def EntryPlaysUptoCardSaid : Prop := Claim7.holds Tryz.pinned (.plain (OpenSpec.upto entryPlaysSpec)) entryPlaysUptoCard

/-- THE SECOND FORM's CARD OF 'grommetlaw15.EntryTable'. -/
def entryTableUptoCard : Claim7 := { stood := { row := entryTableUptoRow, standIns := [], harness := (true, "ba8661d5df9ffa8b1ab2c0cfc92a4af11e5ad0c71975aead5ee8fee048ed1ace"), looks := false }, kinds := [], alts := [], laidByText := true, laidKinds := [.data], laidTests := true, laidLooks := .later }
def EntryTableUptoCardSaid : Prop := Claim7.holds Tryz.pinned (.plain (OpenSpec.upto entryTableSpec)) entryTableUptoCard
end Rows
end Go.Proofs.YtfljlmmiiccooaaGreatDoor
