/-
  DERIVED. GIVEN WITH THE SEED: THE CARDS: each row of YtngpffnndkhjmaaGreatDoorRows.lean that lists a variable, with what it lists TIED to the program's text (the seventh form; the later family's looks); each row that meets fmt, with fmt's text TOLD by the authors' own Lean function (tested against real Go, not proved from fmt's source: count such statements apart). THE CARD IS WHAT COUNTS. Prove the row's statement (the work); the ties are given (YtngpffnndkhjmaaGreatDoorTie.lean); close each card by the builder's one call (the guide's Derived/Test/ToyasCard.lean, 'card_holds'). Laid BY PROGRAM, IN A SANDBOX (cutbox-door.mjs). By AI agents, Wed Nov 11 2026. No macro, syntax, notation, axiom, sorry.
-/
import Derived.Test.YtngpffnndkhjmaaGreatDoorRows
import GoSem.ClaimSeven
namespace Go.Proofs.YtngpffnndkhjmaaGreatDoor
namespace Rows

/-- THE TIED CARD OF 'grommetlaw19.FdPlays'. -/
def fdPlaysCard : Claim7 := { stood := { row := fdPlaysRow, standIns := [], harness := (true, "23cc51bbec323d8cdb4fd5eeff06504c3c5448d89a62b045541e3fc8e97bdb2a"), looks := false }, kinds := [], alts := [], laidByText := true, laidKinds := [.data], laidTests := true, laidLooks := .later }
def FdPlaysCardSaid : Prop := Claim7.holds Tryz.pinned (.plain (OpenSpec.ofChange fdPlaysSpec)) fdPlaysCard

/-- THE TIED CARD OF 'grommetlaw19.FdCounts'. -/
def fdCountsCard : Claim7 := { stood := { row := fdCountsRow, standIns := [], harness := (true, "23cc51bbec323d8cdb4fd5eeff06504c3c5448d89a62b045541e3fc8e97bdb2a"), looks := false }, kinds := [], alts := [], laidByText := true, laidKinds := [.data], laidTests := true, laidLooks := .later }
def FdCountsCardSaid : Prop := Claim7.holds Tryz.pinned (.plain (OpenSpec.ofChange fdCountsSpec)) fdCountsCard

/-- THE TIED CARD OF 'grommetlaw19.FdStays'. -/
def fdStaysCard : Claim7 := { stood := { row := fdStaysRow, standIns := [], harness := (true, "23cc51bbec323d8cdb4fd5eeff06504c3c5448d89a62b045541e3fc8e97bdb2a"), looks := false }, kinds := [], alts := [], laidByText := true, laidKinds := [.data], laidTests := true, laidLooks := .later }
def FdStaysCardSaid : Prop := Claim7.holds Tryz.pinned (.plain (OpenSpec.ofChange fdStaysSpec)) fdStaysCard

/-- THE TIED CARD OF 'grommetlaw19.FdApart'. -/
def fdApartCard : Claim7 := { stood := { row := fdApartRow, standIns := [], harness := (true, "23cc51bbec323d8cdb4fd5eeff06504c3c5448d89a62b045541e3fc8e97bdb2a"), looks := false }, kinds := [], alts := [], laidByText := true, laidKinds := [.data], laidTests := true, laidLooks := .later }
def FdApartCardSaid : Prop := Claim7.holds Tryz.pinned (.plain (OpenSpec.ofChange fdApartSpec)) fdApartCard

/-- THE TIED CARD OF 'grommetlaw19.FdNil'. -/
def fdNilCard : Claim7 := { stood := { row := fdNilRow, standIns := [], harness := (true, "23cc51bbec323d8cdb4fd5eeff06504c3c5448d89a62b045541e3fc8e97bdb2a"), looks := false }, kinds := [], alts := [], laidByText := true, laidKinds := [.data], laidTests := true, laidLooks := .later }
def FdNilCardSaid : Prop := Claim7.holds Tryz.pinned (.plain (OpenSpec.ofChange fdNilSpec)) fdNilCard

/-- THE SECOND FORM's CARD OF 'grommetlaw19.FdPlays'. -/
def fdPlaysUptoCard : Claim7 := { stood := { row := fdPlaysUptoRow, standIns := [], harness := (true, "23cc51bbec323d8cdb4fd5eeff06504c3c5448d89a62b045541e3fc8e97bdb2a"), looks := false }, kinds := [], alts := [], laidByText := true, laidKinds := [.data], laidTests := true, laidLooks := .later }
def FdPlaysUptoCardSaid : Prop := Claim7.holds Tryz.pinned (.plain (OpenSpec.upto fdPlaysSpec)) fdPlaysUptoCard

/-- THE SECOND FORM's CARD OF 'grommetlaw19.FdCounts'. -/
def fdCountsUptoCard : Claim7 := { stood := { row := fdCountsUptoRow, standIns := [], harness := (true, "23cc51bbec323d8cdb4fd5eeff06504c3c5448d89a62b045541e3fc8e97bdb2a"), looks := false }, kinds := [], alts := [], laidByText := true, laidKinds := [.data], laidTests := true, laidLooks := .later }
def FdCountsUptoCardSaid : Prop := Claim7.holds Tryz.pinned (.plain (OpenSpec.upto fdCountsSpec)) fdCountsUptoCard

/-- THE SECOND FORM's CARD OF 'grommetlaw19.FdStays'. -/
def fdStaysUptoCard : Claim7 := { stood := { row := fdStaysUptoRow, standIns := [], harness := (true, "23cc51bbec323d8cdb4fd5eeff06504c3c5448d89a62b045541e3fc8e97bdb2a"), looks := false }, kinds := [], alts := [], laidByText := true, laidKinds := [.data], laidTests := true, laidLooks := .later }
def FdStaysUptoCardSaid : Prop := Claim7.holds Tryz.pinned (.plain (OpenSpec.upto fdStaysSpec)) fdStaysUptoCard

/-- THE SECOND FORM's CARD OF 'grommetlaw19.FdApart'. -/
def fdApartUptoCard : Claim7 := { stood := { row := fdApartUptoRow, standIns := [], harness := (true, "23cc51bbec323d8cdb4fd5eeff06504c3c5448d89a62b045541e3fc8e97bdb2a"), looks := false }, kinds := [], alts := [], laidByText := true, laidKinds := [.data], laidTests := true, laidLooks := .later }
def FdApartUptoCardSaid : Prop := Claim7.holds Tryz.pinned (.plain (OpenSpec.upto fdApartSpec)) fdApartUptoCard

/-- THE SECOND FORM's CARD OF 'grommetlaw19.FdNil'. -/
def fdNilUptoCard : Claim7 := { stood := { row := fdNilUptoRow, standIns := [], harness := (true, "23cc51bbec323d8cdb4fd5eeff06504c3c5448d89a62b045541e3fc8e97bdb2a"), looks := false }, kinds := [], alts := [], laidByText := true, laidKinds := [.data], laidTests := true, laidLooks := .later }
def FdNilUptoCardSaid : Prop := Claim7.holds Tryz.pinned (.plain (OpenSpec.upto fdNilSpec)) fdNilUptoCard
end Rows
end Go.Proofs.YtngpffnndkhjmaaGreatDoor
