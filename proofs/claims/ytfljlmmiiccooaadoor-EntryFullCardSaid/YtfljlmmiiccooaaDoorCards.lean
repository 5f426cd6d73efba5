/-
  DERIVED. GIVEN WITH THE SEED: THE CARDS: each row of YtfljlmmiiccooaaDoorRows.lean that lists a variable, with what it lists TIED to the program's text (the seventh form; the later family's looks); each row that meets fmt, with fmt's text TOLD by the authors' own Lean function (tested against real Go, not proved from fmt's source: count such statements apart). THE CARD IS WHAT COUNTS. Prove the row's statement (the work); the ties are given (YtfljlmmiiccooaaDoorTie.lean); close each card by the builder's one call (the guide's Derived/Test/ToyasCard.lean, 'card_holds'). Laid BY PROGRAM, IN A SANDBOX (cutbox-door.mjs). By AI agents, Wed Nov 11 2026. No macro, syntax, notation, axiom, sorry.
-/
import Derived.Test.YtfljlmmiiccooaaDoorRows
import GoSem.ClaimSeven
namespace Go.Proofs.YtfljlmmiiccooaaDoor
namespace Rows

/-- THE TIED CARD OF 'grommetlaw15.EntryNames'. -/
def entryNamesCard : Claim7 := { stood := { row := entryNamesRow, standIns := [], harness := (true, "5de9cf38f4c7f6267757c2da54d4220559870ae1dc6ac7e401c0ee66bf277e87"), looks := false }, kinds := [], alts := [], laidByText := true, laidKinds := [.data], laidTests := true, laidLooks := .later }
def EntryNamesCardSaid : Prop := Claim7.holds Tryd.pinned (.plain (OpenSpec.ofChange entryNamesSpec)) entryNamesCard

/-- THE TIED CARD OF 'grommetlaw15.EntryFull'. -/
def entryFullCard : Claim7 := { stood := { row := entryFullRow, standIns := [], harness := (true, "5de9cf38f4c7f6267757c2da54d4220559870ae1dc6ac7e401c0ee66bf277e87"), looks := false }, kinds := [], alts := [], laidByText := true, laidKinds := [.data], laidTests := true, laidLooks := .later }
def EntryFullCardSaid : Prop := Claim7.holds Tryd.pinned (.plain (OpenSpec.ofChange entryFullSpec)) entryFullCard

/-- THE TIED CARD OF 'grommetlaw15.EntryNil'. -/
def entryNilCard : Claim7 := { stood := { row := entryNilRow, standIns := [], harness := (true, "5de9cf38f4c7f6267757c2da54d4220559870ae1dc6ac7e401c0ee66bf277e87"), looks := false }, kinds := [], alts := [], laidByText := true, laidKinds := [.data], laidTests := true, laidLooks := .later }
def EntryNilCardSaid : Prop := Claim7.holds Tryd.pinned (.plain (OpenSpec.ofChange entryNilSpec)) entryNilCard

/-- THE SECOND FORM's CARD OF 'grommetlaw15.EntryNames'. -/
def entryNamesUptoCard : Claim7 := { stood := { row := entryNamesUptoRow, standIns := [], harness := (true, "5de9cf38f4c7f6267757c2da54d4220559870ae1dc6ac7e401c0ee66bf277e87"), looks := false }, kinds := [], alts := [], laidByText := true, laidKinds := [.data], laidTests := true, laidLooks := .later }
def EntryNamesUptoCardSaid : Prop := Claim7.holds Tryd.pinned (.plain (OpenSpec.upto entryNamesSpec)) entryNamesUptoCard

/-- THE SECOND FORM's CARD OF 'grommetlaw15.EntryFull'. -/
def entryFullUptoCard : Claim7 := { stood := { row := entryFullUptoRow, standIns := [], harness := (true, "5de9cf38f4c7f6267757c2da54d4220559870ae1dc6ac7e401c0ee66bf277e87"), looks := false }, kinds := [], alts := [], laidByText := true, laidKinds := [.data], laidTests := true, laidLooks := .later }
def EntryFullUptoCardSaid : Prop := Claim7.holds Tryd.pinned (.plain (OpenSpec.upto entryFullSpec)) entryFullUptoCard

/-- THE SECOND FORM's CARD OF 'grommetlaw15.EntryNil'. -/
def entryNilUptoCard : Claim7 := { stood := { row := entryNilUptoRow, standIns := [], harness := (true, "5de9cf38f4c7f6267757c2da54d4220559870ae1dc6ac7e401c0ee66bf277e87"), looks := false }, kinds := [], alts := [], laidByText := true, laidKinds := [.data], laidTests := true, laidLooks := .later }
def EntryNilUptoCardSaid : Prop := Claim7.holds Tryd.pinned (.plain (OpenSpec.upto entryNilSpec)) entryNilUptoCard
end Rows
end Go.Proofs.YtfljlmmiiccooaaDoor
