/-
  DERIVED. GIVEN WITH THE SEED: THE CARDS: each row of YtgmhojoepcoopaaDoorRows.lean that lists a variable, with what it lists TIED to the program's text (the seventh form; the later family's looks); each row that meets fmt, with fmt's text TOLD by the authors' own Lean function (tested against real Go, not proved from fmt's source: count such statements apart). THE CARD IS WHAT COUNTS. Prove the row's statement (the work); the ties are given (YtgmhojoepcoopaaDoorTie.lean); close each card by the builder's one call (the guide's Derived/Test/ToyasCard.lean, 'card_holds'). Laid BY PROGRAM, IN A SANDBOX (cutbox-door.mjs). By AI agents, Wed Nov 11 2026. No macro, syntax, notation, axiom, sorry.
-/
import Derived.Test.YtgmhojoepcoopaaDoorRows
import GoSem.ClaimSeven
namespace Go.Proofs.YtgmhojoepcoopaaDoor
namespace Rows

/-- THE TIED CARD OF 'grommetlaw14.DataHolds'. -/
def dataHoldsCard : Claim7 := { stood := { row := dataHoldsRow, standIns := [], harness := (true, "10875f2b5f2181a93d70800923abd2956f4713ad4c973a1726ae484bb952b3f8"), looks := false }, kinds := [], alts := [], laidByText := true, laidKinds := [.data], laidTests := true, laidLooks := .later }
def DataHoldsCardSaid : Prop := Claim7.holds Tryd.pinned (.plain (OpenSpec.ofChange dataHoldsSpec)) dataHoldsCard

/-- THE TIED CARD OF 'grommetlaw14.DataCounts'. -/
def dataCountsCard : Claim7 := { stood := { row := dataCountsRow, standIns := [], harness := (true, "10875f2b5f2181a93d70800923abd2956f4713ad4c973a1726ae484bb952b3f8"), looks := false }, kinds := [], alts := [], laidByText := true, laidKinds := [.data], laidTests := true, laidLooks := .later }
def DataCountsCardSaid : Prop := Claim7.holds Tryd.pinned (.plain (OpenSpec.ofChange dataCountsSpec)) dataCountsCard

/-- THE TIED CARD OF 'grommetlaw14.DataParts'. -/
def dataPartsCard : Claim7 := { stood := { row := dataPartsRow, standIns := [], harness := (true, "10875f2b5f2181a93d70800923abd2956f4713ad4c973a1726ae484bb952b3f8"), looks := false }, kinds := [], alts := [], laidByText := true, laidKinds := [.data], laidTests := true, laidLooks := .later }
def DataPartsCardSaid : Prop := Claim7.holds Tryd.pinned (.plain (OpenSpec.ofChange dataPartsSpec)) dataPartsCard

/-- THE TIED CARD OF 'grommetlaw14.DataNil'. -/
def dataNilCard : Claim7 := { stood := { row := dataNilRow, standIns := [], harness := (true, "10875f2b5f2181a93d70800923abd2956f4713ad4c973a1726ae484bb952b3f8"), looks := false }, kinds := [], alts := [], laidByText := true, laidKinds := [.data], laidTests := true, laidLooks := .later }
def DataNilCardSaid : Prop := Claim7.holds Tryd.pinned (.plain (OpenSpec.ofChange dataNilSpec)) dataNilCard

/-- THE SECOND FORM's CARD OF 'grommetlaw14.DataHolds'. -/
def dataHoldsUptoCard : Claim7 := { stood := { row := dataHoldsUptoRow, standIns := [], harness := (true, "10875f2b5f2181a93d70800923abd2956f4713ad4c973a1726ae484bb952b3f8"), looks := false }, kinds := [], alts := [], laidByText := true, laidKinds := [.data], laidTests := true, laidLooks := .later }
def DataHoldsUptoCardSaid : Prop := Claim7.holds Tryd.pinned (.plain (OpenSpec.upto dataHoldsSpec)) dataHoldsUptoCard

/-- THE SECOND FORM's CARD OF 'grommetlaw14.DataCounts'. -/
def dataCountsUptoCard : Claim7 := { stood := { row := dataCountsUptoRow, standIns := [], harness := (true, "10875f2b5f2181a93d70800923abd2956f4713ad4c973a1726ae484bb952b3f8"), looks := false }, kinds := [], alts := [], laidByText := true, laidKinds := [.data], laidTests := true, laidLooks := .later }
def DataCountsUptoCardSaid : Prop := Claim7.holds Tryd.pinned (.plain (OpenSpec.upto dataCountsSpec)) dataCountsUptoCard

/-- THE SECOND FORM's CARD OF 'grommetlaw14.DataParts'. -/
def dataPartsUptoCard : Claim7 := { stood := { row := dataPartsUptoRow, standIns := [], harness := (true, "10875f2b5f2181a93d70800923abd2956f4713ad4c973a1726ae484bb952b3f8"), looks := false }, kinds := [], alts := [], laidByText := true, laidKinds := [.data], laidTests := true, laidLooks := .later }
def DataPartsUptoCardSaid : Prop := Claim7.holds Tryd.pinned (.plain (OpenSpec.upto dataPartsSpec)) dataPartsUptoCard

/-- THE SECOND FORM's CARD OF 'grommetlaw14.DataNil'. -/
def dataNilUptoCard : Claim7 := { stood := { row := dataNilUptoRow, standIns := [], harness := (true, "10875f2b5f2181a93d70800923abd2956f4713ad4c973a1726ae484bb952b3f8"), looks := false }, kinds := [], alts := [], laidByText := true, laidKinds := [.data], laidTests := true, laidLooks := .later }
def DataNilUptoCardSaid : Prop := Claim7.holds Tryd.pinned (.plain (OpenSpec.upto dataNilSpec)) dataNilUptoCard
end Rows
end Go.Proofs.YtgmhojoepcoopaaDoor
