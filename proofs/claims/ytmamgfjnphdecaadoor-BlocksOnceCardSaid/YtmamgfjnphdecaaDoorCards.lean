/-
  DERIVED. GIVEN WITH THE SEED: THE CARDS: each row of YtmamgfjnphdecaaDoorRows.lean that lists a variable, with what it lists TIED to the program's text (the seventh form; the later family's looks); each row that meets fmt, with fmt's text TOLD by the authors' own Lean function (tested against real Go, not proved from fmt's source: count such statements apart). THE CARD IS WHAT COUNTS. Prove the row's statement (the work); the ties are given (YtmamgfjnphdecaaDoorTie.lean); close each card by the builder's one call (the guide's Derived/Test/ToyasCard.lean, 'card_holds'). Laid BY PROGRAM, IN A SANDBOX (cutbox-door.mjs). By AI agents, Wed Nov 11 2026. No macro, syntax, notation, axiom, sorry.
-/
import Derived.Test.YtmamgfjnphdecaaDoorRows
import GoSem.ClaimSeven
namespace Go.Proofs.YtmamgfjnphdecaaDoor
namespace Rows

/-- THE TIED CARD OF 'grommetlaw13.BlocksOnce'. -/
def blocksOnceCard : Claim7 := { stood := { row := blocksOnceRow, standIns := [], harness := (true, "1962babe4cfaf16df11f1ede5c02f5d37bef61f385202f8e8565fdde29c7437e"), looks := false }, kinds := [], alts := [], laidByText := true, laidKinds := [.data], laidTests := true, laidLooks := .later }
def BlocksOnceCardSaid : Prop := Claim7.holds Tryd.pinned (.plain (OpenSpec.ofChange blocksOnceSpec)) blocksOnceCard

/-- THE TIED CARD OF 'grommetlaw13.BlocksApart'. -/
def blocksApartCard : Claim7 := { stood := { row := blocksApartRow, standIns := [], harness := (true, "1962babe4cfaf16df11f1ede5c02f5d37bef61f385202f8e8565fdde29c7437e"), looks := false }, kinds := [], alts := [], laidByText := true, laidKinds := [.data], laidTests := true, laidLooks := .later }
def BlocksApartCardSaid : Prop := Claim7.holds Tryd.pinned (.plain (OpenSpec.ofChange blocksApartSpec)) blocksApartCard

/-- THE TIED CARD OF 'grommetlaw13.BlocksBack'. -/
def blocksBackCard : Claim7 := { stood := { row := blocksBackRow, standIns := [], harness := (true, "1962babe4cfaf16df11f1ede5c02f5d37bef61f385202f8e8565fdde29c7437e"), looks := false }, kinds := [], alts := [], laidByText := true, laidKinds := [.data], laidTests := true, laidLooks := .later }
def BlocksBackCardSaid : Prop := Claim7.holds Tryd.pinned (.plain (OpenSpec.ofChange blocksBackSpec)) blocksBackCard

/-- THE TIED CARD OF 'grommetlaw13.BlocksNil'. -/
def blocksNilCard : Claim7 := { stood := { row := blocksNilRow, standIns := [], harness := (true, "1962babe4cfaf16df11f1ede5c02f5d37bef61f385202f8e8565fdde29c7437e"), looks := false }, kinds := [], alts := [], laidByText := true, laidKinds := [.data], laidTests := true, laidLooks := .later }
def BlocksNilCardSaid : Prop := Claim7.holds Tryd.pinned (.plain (OpenSpec.ofChange blocksNilSpec)) blocksNilCard

/-- THE SECOND FORM's CARD OF 'grommetlaw13.BlocksOnce'. -/
def blocksOnceUptoCard : Claim7 := { stood := { row := blocksOnceUptoRow, standIns := [], harness := (true, "1962babe4cfaf16df11f1ede5c02f5d37bef61f385202f8e8565fdde29c7437e"), looks := false }, kinds := [], alts := [], laidByText := true, laidKinds := [.data], laidTests := true, laidLooks := .later }
def BlocksOnceUptoCardSaid : Prop := Claim7.holds Tryd.pinned (.plain (OpenSpec.upto blocksOnceSpec)) blocksOnceUptoCard

/-- THE SECOND FORM's CARD OF 'grommetlaw13.BlocksApart'. -/
def blocksApartUptoCard : Claim7 := { stood := { row := blocksApartUptoRow, standIns := [], harness := (true, "1962babe4cfaf16df11f1ede5c02f5d37bef61f385202f8e8565fdde29c7437e"), looks := false }, kinds := [], alts := [], laidByText := true, laidKinds := [.data], laidTests := true, laidLooks := .later }
def BlocksApartUptoCardSaid : Prop := Claim7.holds Tryd.pinned (.plain (OpenSpec.upto blocksApartSpec)) blocksApartUptoCard

/-- THE SECOND FORM's CARD OF 'grommetlaw13.BlocksBack'. -/
def blocksBackUptoCard : Claim7 := { stood := { row := blocksBackUptoRow, standIns := [], harness := (true, "1962babe4cfaf16df11f1ede5c02f5d37bef61f385202f8e8565fdde29c7437e"), looks := false }, kinds := [], alts := [], laidByText := true, laidKinds := [.data], laidTests := true, laidLooks := .later }
def BlocksBackUptoCardSaid : Prop := Claim7.holds Tryd.pinned (.plain (OpenSpec.upto blocksBackSpec)) blocksBackUptoCard

/-- THE SECOND FORM's CARD OF 'grommetlaw13.BlocksNil'. -/
def blocksNilUptoCard : Claim7 := { stood := { row := blocksNilUptoRow, standIns := [], harness := (true, "1962babe4cfaf16df11f1ede5c02f5d37bef61f385202f8e8565fdde29c7437e"), looks := false }, kinds := [], alts := [], laidByText := true, laidKinds := [.data], laidTests := true, laidLooks := .later }
def BlocksNilUptoCardSaid : Prop := Claim7.holds Tryd.pinned (.plain (OpenSpec.upto blocksNilSpec)) blocksNilUptoCard
end Rows
end Go.Proofs.YtmamgfjnphdecaaDoor
