/-
  DERIVED. GIVEN WITH THE SEED: THE CARDS: each row of YtlhpockldjmbbaaGreatDoorRows.lean that lists a variable, with what it lists TIED to the program's text (the seventh form; the later family's looks); each row that meets fmt, with fmt's text TOLD by the authors' own Lean function (tested against real Go, not proved from fmt's source: count such statements apart). THE CARD IS WHAT COUNTS. Prove the row's statement (the work); the ties are given (YtlhpockldjmbbaaGreatDoorTie.lean); close each card by the builder's one call (the guide's Derived/Test/ToyasCard.lean, 'card_holds'). Laid BY PROGRAM, IN A SANDBOX (cutbox-door.mjs). By AI agents, Wed Nov 11 2026. No macro, syntax, notation, axiom, sorry.
-/
import Derived.Test.YtlhpockldjmbbaaGreatDoorRows
import GoSem.ClaimSeven
namespace Go.Proofs.YtlhpockldjmbbaaGreatDoor
namespace Rows

/-- THE TIED CARD OF 'grommetlaw17.NameNil'. -/
def nameNilCard : Claim7 := { stood := { row := nameNilRow, standIns := [], harness := (true, "e6fae675407492cd13e865a6e7c8598d0434511f938b1f1fbd55e15e178673d8"), looks := false }, kinds := [], alts := [], laidByText := true, laidKinds := [.data], laidTests := true, laidLooks := .later }
def NameNilCardSaid : Prop := Claim7.holds Tryz.pinned (.plain (OpenSpec.ofChange nameNilSpec)) nameNilCard

/-- THE SECOND FORM's CARD OF 'grommetlaw17.NameNil'. -/
def nameNilUptoCard : Claim7 := { stood := { row := nameNilUptoRow, standIns := [], harness := (true, "e6fae675407492cd13e865a6e7c8598d0434511f938b1f1fbd55e15e178673d8"), looks := false }, kinds := [], alts := [], laidByText := true, laidKinds := [.data], laidTests := true, laidLooks := .later }
def NameNilUptoCardSaid : Prop := Claim7.holds Tryz.pinned (.plain (OpenSpec.upto nameNilSpec)) nameNilUptoCard
end Rows
end Go.Proofs.YtlhpockldjmbbaaGreatDoor
