/-
  DERIVED. GIVEN WITH THE SEED: THE CARDS: each row of YtocojkafdgmgdaaDoorRows.lean that lists a variable, with what it lists TIED to the program's text (the seventh form; the later family's looks); each row that meets fmt, with fmt's text TOLD by the authors' own Lean function (tested against real Go, not proved from fmt's source: count such statements apart). THE CARD IS WHAT COUNTS. Prove the row's statement (the work); the ties are given (YtocojkafdgmgdaaDoorTie.lean); close each card by the builder's one call (the guide's Derived/Test/ToyasCard.lean, 'card_holds'). Laid BY PROGRAM, IN A SANDBOX (cutbox-door.mjs). By AI agents, Wed Nov 11 2026. No macro, syntax, notation, axiom, sorry.
-/
import Derived.Test.YtocojkafdgmgdaaDoorRows
import GoSem.ClaimSeven
namespace Go.Proofs.YtocojkafdgmgdaaDoor
namespace Rows

/-- THE TIED CARD OF 'escrowlaw10.ShelfKeeps'. -/
def shelfKeepsCard : Claim7 := { stood := { row := shelfKeepsRow, standIns := [], harness := (true, "6f29049cd80e3db264ecd5d79164639a5b3bf6035cd16f330505ea927b4d1518"), looks := false }, kinds := [], alts := [], laidByText := true, laidKinds := [.data, .data], laidTests := true, laidLooks := .later }
def ShelfKeepsCardSaid : Prop := Claim7.holds Tryd.pinned (.plain (OpenSpec.ofChange shelfKeepsSpec)) shelfKeepsCard

/-- THE TIED CARD OF 'escrowlaw10.ShelfAgrees'. -/
def shelfAgreesCard : Claim7 := { stood := { row := shelfAgreesRow, standIns := [], harness := (true, "6f29049cd80e3db264ecd5d79164639a5b3bf6035cd16f330505ea927b4d1518"), looks := false }, kinds := [], alts := [], laidByText := true, laidKinds := [.data, .data], laidTests := true, laidLooks := .later }
def ShelfAgreesCardSaid : Prop := Claim7.holds Tryd.pinned (.plain (OpenSpec.ofChange shelfAgreesSpec)) shelfAgreesCard

/-- THE TIED CARD OF 'escrowlaw10.ShelfFew'. -/
def shelfFewCard : Claim7 := { stood := { row := shelfFewRow, standIns := [], harness := (true, "6f29049cd80e3db264ecd5d79164639a5b3bf6035cd16f330505ea927b4d1518"), looks := false }, kinds := [], alts := [], laidByText := true, laidKinds := [.data, .data], laidTests := true, laidLooks := .later }
def ShelfFewCardSaid : Prop := Claim7.holds Tryd.pinned (.plain (OpenSpec.ofChange shelfFewSpec)) shelfFewCard

/-- THE TIED CARD OF 'escrowlaw10.ShelfGets'. -/
def shelfGetsCard : Claim7 := { stood := { row := shelfGetsRow, standIns := [], harness := (true, "6f29049cd80e3db264ecd5d79164639a5b3bf6035cd16f330505ea927b4d1518"), looks := false }, kinds := [], alts := [], laidByText := true, laidKinds := [.data, .data], laidTests := true, laidLooks := .later }
def ShelfGetsCardSaid : Prop := Claim7.holds Tryd.pinned (.plain (OpenSpec.ofChange shelfGetsSpec)) shelfGetsCard

/-- THE TIED CARD OF 'escrowlaw10.ShelfPuts'. -/
def shelfPutsCard : Claim7 := { stood := { row := shelfPutsRow, standIns := [], harness := (true, "6f29049cd80e3db264ecd5d79164639a5b3bf6035cd16f330505ea927b4d1518"), looks := false }, kinds := [], alts := [], laidByText := true, laidKinds := [.data, .data], laidTests := true, laidLooks := .later }
def ShelfPutsCardSaid : Prop := Claim7.holds Tryd.pinned (.plain (OpenSpec.ofChange shelfPutsSpec)) shelfPutsCard

/-- THE SECOND FORM's CARD OF 'escrowlaw10.ShelfKeeps'. -/
def shelfKeepsUptoCard : Claim7 := { stood := { row := shelfKeepsUptoRow, standIns := [], harness := (true, "6f29049cd80e3db264ecd5d79164639a5b3bf6035cd16f330505ea927b4d1518"), looks := false }, kinds := [], alts := [], laidByText := true, laidKinds := [.data, .data], laidTests := true, laidLooks := .later }
def ShelfKeepsUptoCardSaid : Prop := Claim7.holds Tryd.pinned (.plain (OpenSpec.upto shelfKeepsSpec)) shelfKeepsUptoCard

/-- THE SECOND FORM's CARD OF 'escrowlaw10.ShelfAgrees'. -/
def shelfAgreesUptoCard : Claim7 := { stood := { row := shelfAgreesUptoRow, standIns := [], harness := (true, "6f29049cd80e3db264ecd5d79164639a5b3bf6035cd16f330505ea927b4d1518"), looks := false }, kinds := [], alts := [], laidByText := true, laidKinds := [.data, .data], laidTests := true, laidLooks := .later }
def ShelfAgreesUptoCardSaid : Prop := Claim7.holds Tryd.pinned (.plain (OpenSpec.upto shelfAgreesSpec)) shelfAgreesUptoCard

/-- THE SECOND FORM's CARD OF 'escrowlaw10.ShelfFew'. -/
def shelfFewUptoCard : Claim7 := { stood := { row := shelfFewUptoRow, standIns := [], harness := (true, "6f29049cd80e3db264ecd5d79164639a5b3bf6035cd16f330505ea927b4d1518"), looks := false }, kinds := [], alts := [], laidByText := true, laidKinds := [.data, .data], laidTests := true, laidLooks := .later }
def ShelfFewUptoCardSaid : Prop := Claim7.holds Tryd.pinned (.plain (OpenSpec.upto shelfFewSpec)) shelfFewUptoCard

/-- THE SECOND FORM's CARD OF 'escrowlaw10.ShelfGets'. -/
def shelfGetsUptoCard : Claim7 := { stood := { row := shelfGetsUptoRow, standIns := [], harness := (true, "6f29049cd80e3db264ecd5d79164639a5b3bf6035cd16f330505ea927b4d1518"), looks := false }, kinds := [], alts := [], laidByText := true, laidKinds := [.data, .data], laidTests := true, laidLooks := .later }
def ShelfGetsUptoCardSaid : Prop := Claim7.holds Tryd.pinned (.plain (OpenSpec.upto shelfGetsSpec)) shelfGetsUptoCard

/-- THE SECOND FORM's CARD OF 'escrowlaw10.ShelfPuts'. -/
def shelfPutsUptoCard : Claim7 := { stood := { row := shelfPutsUptoRow, standIns := [], harness := (true, "6f29049cd80e3db264ecd5d79164639a5b3bf6035cd16f330505ea927b4d1518"), looks := false }, kinds := [], alts := [], laidByText := true, laidKinds := [.data, .data], laidTests := true, laidLooks := .later }
def ShelfPutsUptoCardSaid : Prop := Claim7.holds Tryd.pinned (.plain (OpenSpec.upto shelfPutsSpec)) shelfPutsUptoCard
end Rows
end Go.Proofs.YtocojkafdgmgdaaDoor
