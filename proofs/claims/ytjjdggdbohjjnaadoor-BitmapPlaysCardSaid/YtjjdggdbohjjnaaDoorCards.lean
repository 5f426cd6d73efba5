/-
  DERIVED. GIVEN WITH THE SEED: THE CARDS: each row of YtjjdggdbohjjnaaDoorRows.lean that lists a variable, with what it lists TIED to the program's text (the seventh form; the later family's looks); each row that meets fmt, with fmt's text TOLD by the authors' own Lean function (tested against real Go, not proved from fmt's source: count such statements apart). THE CARD IS WHAT COUNTS. Prove the row's statement (the work); the ties are given (YtjjdggdbohjjnaaDoorTie.lean); close each card by the builder's one call (the guide's Derived/Test/ToyasCard.lean, 'card_holds'). Laid BY PROGRAM, IN A SANDBOX (cutbox-door.mjs). By AI agents, Wed Nov 11 2026. No macro, syntax, notation, axiom, sorry.
-/
import Derived.Test.YtjjdggdbohjjnaaDoorRows
import GoSem.ClaimSeven
namespace Go.Proofs.YtjjdggdbohjjnaaDoor
namespace Rows

/-- THE TIED CARD OF 'grommetlaw06.BitmapPlays'. -/
def bitmapPlaysCard : Claim7 := { stood := { row := bitmapPlaysRow, standIns := [], harness := (true, "752fbcec188c35aaa0173954da2a38cbf46b3de2cdebf882396c75a673491934"), looks := false }, kinds := [], alts := [], laidByText := true, laidKinds := [.data], laidTests := true, laidLooks := .later }
def BitmapPlaysCardSaid : Prop := Claim7.holds Tryd.pinned (.plain (OpenSpec.ofChange bitmapPlaysSpec)) bitmapPlaysCard

/-- THE TIED CARD OF 'grommetlaw06.BitmapFills'. -/
def bitmapFillsCard : Claim7 := { stood := { row := bitmapFillsRow, standIns := [], harness := (true, "752fbcec188c35aaa0173954da2a38cbf46b3de2cdebf882396c75a673491934"), looks := false }, kinds := [], alts := [], laidByText := true, laidKinds := [.data], laidTests := true, laidLooks := .later }
def BitmapFillsCardSaid : Prop := Claim7.holds Tryd.pinned (.plain (OpenSpec.ofChange bitmapFillsSpec)) bitmapFillsCard

/-- THE TIED CARD OF 'grommetlaw06.BitmapNil'. -/
def bitmapNilCard : Claim7 := { stood := { row := bitmapNilRow, standIns := [], harness := (true, "752fbcec188c35aaa0173954da2a38cbf46b3de2cdebf882396c75a673491934"), looks := false }, kinds := [], alts := [], laidByText := true, laidKinds := [.data], laidTests := true, laidLooks := .later }
def BitmapNilCardSaid : Prop := Claim7.holds Tryd.pinned (.plain (OpenSpec.ofChange bitmapNilSpec)) bitmapNilCard

/-- THE TIED CARD OF 'grommetlaw06.BitmapOne'. -/
def bitmapOneCard : Claim7 := { stood := { row := bitmapOneRow, standIns := [], harness := (true, "752fbcec188c35aaa0173954da2a38cbf46b3de2cdebf882396c75a673491934"), looks := false }, kinds := [], alts := [], laidByText := true, laidKinds := [.data], laidTests := true, laidLooks := .later }
def BitmapOneCardSaid : Prop := Claim7.holds Tryd.pinned (.plain (OpenSpec.ofChange bitmapOneSpec)) bitmapOneCard

/-- THE TIED CARD OF 'grommetlaw06.BitmapTwo'. -/
def bitmapTwoCard : Claim7 := { stood := { row := bitmapTwoRow, standIns := [], harness := (true, "752fbcec188c35aaa0173954da2a38cbf46b3de2cdebf882396c75a673491934"), looks := false }, kinds := [], alts := [], laidByText := true, laidKinds := [.data], laidTests := true, laidLooks := .later }
def BitmapTwoCardSaid : Prop := Claim7.holds Tryd.pinned (.plain (OpenSpec.ofChange bitmapTwoSpec)) bitmapTwoCard

/-- THE SECOND FORM's CARD OF 'grommetlaw06.BitmapPlays'. -/
def bitmapPlaysUptoCard : Claim7 := { stood := { row := bitmapPlaysUptoRow, standIns := [], harness := (true, "752fbcec188c35aaa0173954da2a38cbf46b3de2cdebf882396c75a673491934"), looks := false }, kinds := [], alts := [], laidByText := true, laidKinds := [.data], laidTests := true, laidLooks := .later }
def BitmapPlaysUptoCardSaid : Prop := Claim7.holds Tryd.pinned (.plain (OpenSpec.upto bitmapPlaysSpec)) bitmapPlaysUptoCard

/-- THE SECOND FORM's CARD OF 'grommetlaw06.BitmapFills'. -/
def bitmapFillsUptoCard : Claim7 := { stood := { row := bitmapFillsUptoRow, standIns := [], harness := (true, "752fbcec188c35aaa0173954da2a38cbf46b3de2cdebf882396c75a673491934"), looks := false }, kinds := [], alts := [], laidByText := true, laidKinds := [.data], laidTests := true, laidLooks := .later }
def BitmapFillsUptoCardSaid : Prop := Claim7.holds Tryd.pinned (.plain (OpenSpec.upto bitmapFillsSpec)) bitmapFillsUptoCard

/-- THE SECOND FORM's CARD OF 'grommetlaw06.BitmapNil'. -/
def bitmapNilUptoCard : Claim7 := { stood := { row := bitmapNilUptoRow, standIns := [], harness := (true, "752fbcec188c35aaa0173954da2a38cbf46b3de2cdebf882396c75a673491934"), looks := false }, kinds := [], alts := [], laidByText := true, laidKinds := [.data], laidTests := true, laidLooks := .later }
def BitmapNilUptoCardSaid : Prop := Claim7.holds Tryd.pinned (.plain (OpenSpec.upto bitmapNilSpec)) bitmapNilUptoCard

/-- THE SECOND FORM's CARD OF 'grommetlaw06.BitmapOne'. -/
def bitmapOneUptoCard : Claim7 := { stood := { row := bitmapOneUptoRow, standIns := [], harness := (true, "752fbcec188c35aaa0173954da2a38cbf46b3de2cdebf882396c75a673491934"), looks := false }, kinds := [], alts := [], laidByText := true, laidKinds := [.data], laidTests := true, laidLooks := .later }
def BitmapOneUptoCardSaid : Prop := Claim7.holds Tryd.pinned (.plain (OpenSpec.upto bitmapOneSpec)) bitmapOneUptoCard

/-- THE SECOND FORM's CARD OF 'grommetlaw06.BitmapTwo'. -/
def bitmapTwoUptoCard : Claim7 := { stood := { row := bitmapTwoUptoRow, standIns := [], harness := (true, "752fbcec188c35aaa0173954da2a38cbf46b3de2cdebf882396c75a673491934"), looks := false }, kinds := [], alts := [], laidByText := true, laidKinds := [.data], laidTests := true, laidLooks := .later }
def BitmapTwoUptoCardSaid : Prop := Claim7.holds Tryd.pinned (.plain (OpenSpec.upto bitmapTwoSpec)) bitmapTwoUptoCard
end Rows
end Go.Proofs.YtjjdggdbohjjnaaDoor
