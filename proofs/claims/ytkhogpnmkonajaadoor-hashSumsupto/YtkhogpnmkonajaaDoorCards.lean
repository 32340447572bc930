/-
  DERIVED. GIVEN WITH THE SEED: THE CARDS: each row of YtkhogpnmkonajaaDoorRows.lean that lists a variable, with what it lists TIED to the program's text (the seventh form; the later family's looks); each row that meets fmt, with fmt's text TOLD by the authors' own Lean function (tested against real Go, not proved from fmt's source: count such statements apart). THE CARD IS WHAT COUNTS. Prove the row's statement (the work); the ties are given (YtkhogpnmkonajaaDoorTie.lean); close each card by the builder's one call (the guide's Derived/Test/ToyasCard.lean, 'card_holds'). Laid BY PROGRAM, IN A SANDBOX (cutbox-door.mjs). By AI agents, Wed Nov 11 2026. No macro, syntax, notation, axiom, sorry.
-/
import Derived.Test.YtkhogpnmkonajaaDoorRows
import GoSem.ClaimSeven
namespace Go.Proofs.YtkhogpnmkonajaaDoor
namespace Rows

/-- THE TIED CARD OF 'escrowlaw02.HashParts'. -/
def hashPartsCard : Claim7 := { stood := { row := hashPartsRow, standIns := [], harness := (true, "2f484754ae2c203846feaa29ef65c50a1b7b7a9682ce17563e5f377e561861f6"), looks := false }, kinds := [], alts := [], laidByText := true, laidKinds := [.data, .data], laidTests := true, laidLooks := .later }
def HashPartsCardSaid : Prop := Claim7.holds Tryd.pinned (.plain (OpenSpec.ofChange hashPartsSpec)) hashPartsCard

/-- THE TIED CARD OF 'escrowlaw02.HashMac'. -/
def hashMacCard : Claim7 := { stood := { row := hashMacRow, standIns := [], harness := (true, "2f484754ae2c203846feaa29ef65c50a1b7b7a9682ce17563e5f377e561861f6"), looks := false }, kinds := [], alts := [], laidByText := true, laidKinds := [.data, .data], laidTests := true, laidLooks := .later }
def HashMacCardSaid : Prop := Claim7.holds Tryd.pinned (.plain (OpenSpec.ofChange hashMacSpec)) hashMacCard

/-- THE TIED CARD OF 'escrowlaw02.HashDigits'. -/
def hashDigitsCard : Claim7 := { stood := { row := hashDigitsRow, standIns := [], harness := (true, "2f484754ae2c203846feaa29ef65c50a1b7b7a9682ce17563e5f377e561861f6"), looks := false }, kinds := [], alts := [], laidByText := true, laidKinds := [.data, .data], laidTests := true, laidLooks := .later }
def HashDigitsCardSaid : Prop := Claim7.holds Tryd.pinned (.plain (OpenSpec.ofChange hashDigitsSpec)) hashDigitsCard

/-- THE TIED CARD OF 'escrowlaw02.HashHexes'. -/
def hashHexesCard : Claim7 := { stood := { row := hashHexesRow, standIns := [], harness := (true, "2f484754ae2c203846feaa29ef65c50a1b7b7a9682ce17563e5f377e561861f6"), looks := false }, kinds := [], alts := [], laidByText := true, laidKinds := [.data, .data], laidTests := true, laidLooks := .later }
def HashHexesCardSaid : Prop := Claim7.holds Tryd.pinned (.plain (OpenSpec.ofChange hashHexesSpec)) hashHexesCard

/-- THE TIED CARD OF 'escrowlaw02.HashSums'. -/
def hashSumsCard : Claim7 := { stood := { row := hashSumsRow, standIns := [], harness := (true, "2f484754ae2c203846feaa29ef65c50a1b7b7a9682ce17563e5f377e561861f6"), looks := false }, kinds := [], alts := [], laidByText := true, laidKinds := [.data, .data], laidTests := true, laidLooks := .later }
def HashSumsCardSaid : Prop := Claim7.holds Tryd.pinned (.plain (OpenSpec.ofChange hashSumsSpec)) hashSumsCard

/-- THE TIED CARD OF 'escrowlaw02.HashMacs'. -/
def hashMacsCard : Claim7 := { stood := { row := hashMacsRow, standIns := [], harness := (true, "2f484754ae2c203846feaa29ef65c50a1b7b7a9682ce17563e5f377e561861f6"), looks := false }, kinds := [], alts := [], laidByText := true, laidKinds := [.data, .data], laidTests := true, laidLooks := .later }
def HashMacsCardSaid : Prop := Claim7.holds Tryd.pinned (.plain (OpenSpec.ofChange hashMacsSpec)) hashMacsCard

/-- THE SECOND FORM's CARD OF 'escrowlaw02.HashParts'. -/
def hashPartsUptoCard : Claim7 := { stood := { row := hashPartsUptoRow, standIns := [], harness := (true, "2f484754ae2c203846feaa29ef65c50a1b7b7a9682ce17563e5f377e561861f6"), looks := false }, kinds := [], alts := [], laidByText := true, laidKinds := [.data, .data], laidTests := true, laidLooks := .later }
def HashPartsUptoCardSaid : Prop := Claim7.holds Tryd.pinned (.plain (OpenSpec.upto hashPartsSpec)) hashPartsUptoCard

/-- THE SECOND FORM's CARD OF 'escrowlaw02.HashMac'. -/
def hashMacUptoCard : Claim7 := { stood := { row := hashMacUptoRow, standIns := [], harness := (true, "2f484754ae2c203846feaa29ef65c50a1b7b7a9682ce17563e5f377e561861f6"), looks := false }, kinds := [], alts := [], laidByText := true, laidKinds := [.data, .data], laidTests := true, laidLooks := .later }
def HashMacUptoCardSaid : Prop := Claim7.holds Tryd.pinned (.plain (OpenSpec.upto hashMacSpec)) hashMacUptoCard

/-- THE SECOND FORM's CARD OF 'escrowlaw02.HashDigits'. -/
def hashDigitsUptoCard : Claim7 := { stood := { row := hashDigitsUptoRow, standIns := [], harness := (true, "2f484754ae2c203846feaa29ef65c50a1b7b7a9682ce17563e5f377e561861f6"), looks := false }, kinds := [], alts := [], laidByText := true, laidKinds := [.data, .data], laidTests := true, laidLooks := .later }
def HashDigitsUptoCardSaid : Prop := Claim7.holds Tryd.pinned (.plain (OpenSpec.upto hashDigitsSpec)) hashDigitsUptoCard

/-- THE SECOND FORM's CARD OF 'escrowlaw02.HashHexes'. -/
def hashHexesUptoCard : Claim7 := { stood := { row := hashHexesUptoRow, standIns := [], harness := (true, "2f484754ae2c203846feaa29ef65c50a1b7b7a9682ce17563e5f377e561861f6"), looks := false }, kinds := [], alts := [], laidByText := true, laidKinds := [.data, .data], laidTests := true, laidLooks := .later }
def HashHexesUptoCardSaid : Prop := Claim7.holds Tryd.pinned (.plain (OpenSpec.upto hashHexesSpec)) hashHexesUptoCard

/-- THE SECOND FORM's CARD OF 'escrowlaw02.HashSums'. -/
def hashSumsUptoCard : Claim7 := { stood := { row := hashSumsUptoRow, standIns := [], harness := (true, "2f484754ae2c203846feaa29ef65c50a1b7b7a9682ce17563e5f377e561861f6"), looks := false }, kinds := [], alts := [], laidByText := true, laidKinds := [.data, .data], laidTests := true, laidLooks := .later }
def HashSumsUptoCardSaid : Prop := Claim7.holds Tryd.pinned (.plain (OpenSpec.upto hashSumsSpec)) hashSumsUptoCard

/-- THE SECOND FORM's CARD OF 'escrowlaw02.HashMacs'. -/
def hashMacsUptoCard : Claim7 := { stood := { row := hashMacsUptoRow, standIns := [], harness := (true, "2f484754ae2c203846feaa29ef65c50a1b7b7a9682ce17563e5f377e561861f6"), looks := false }, kinds := [], alts := [], laidByText := true, laidKinds := [.data, .data], laidTests := true, laidLooks := .later }
def HashMacsUptoCardSaid : Prop := Claim7.holds Tryd.pinned (.plain (OpenSpec.upto hashMacsSpec)) hashMacsUptoCard
end Rows
end Go.Proofs.YtkhogpnmkonajaaDoor
