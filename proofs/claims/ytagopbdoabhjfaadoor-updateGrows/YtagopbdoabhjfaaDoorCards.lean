/-
  DERIVED. GIVEN WITH THE SEED: THE CARDS: each row of YtagopbdoabhjfaaDoorRows.lean that lists a variable, with what it lists TIED to the program's text (the seventh form; the later family's looks); each row that meets fmt, with fmt's text TOLD by the authors' own Lean function (tested against real Go, not proved from fmt's source: count such statements apart). THE CARD IS WHAT COUNTS. Prove the row's statement (the work); the ties are given (YtagopbdoabhjfaaDoorTie.lean); close each card by the builder's one call (the guide's Derived/Test/ToyasCard.lean, 'card_holds'). Laid BY PROGRAM, IN A SANDBOX (cutbox-door.mjs). By AI agents, Wed Nov 11 2026. No macro, syntax, notation, axiom, sorry.
-/
import Derived.Test.YtagopbdoabhjfaaDoorRows
import GoSem.ClaimSeven
namespace Go.Proofs.YtagopbdoabhjfaaDoor
namespace Rows

/-- THE TIED CARD OF 'escrowlaw12.UpdateBack'. -/
def updateBackCard : Claim7 := { stood := { row := updateBackRow, standIns := [], harness := (true, "3d2095fcf87cc4b36ac2a19ae5120bfca23fe4a8a3bec15b1e1a2cbb038b0358"), looks := false }, kinds := [], alts := [], laidByText := true, laidKinds := [.data, .data], laidTests := true, laidLooks := .later }
def UpdateBackCardSaid : Prop := Claim7.holds Tryd.pinned (.plain (OpenSpec.ofChange updateBackSpec)) updateBackCard

/-- THE TIED CARD OF 'escrowlaw12.UpdateLimits'. -/
def updateLimitsCard : Claim7 := { stood := { row := updateLimitsRow, standIns := [], harness := (true, "3d2095fcf87cc4b36ac2a19ae5120bfca23fe4a8a3bec15b1e1a2cbb038b0358"), looks := false }, kinds := [], alts := [], laidByText := true, laidKinds := [.data, .data], laidTests := true, laidLooks := .later }
def UpdateLimitsCardSaid : Prop := Claim7.holds Tryd.pinned (.plain (OpenSpec.ofChange updateLimitsSpec)) updateLimitsCard

/-- THE TIED CARD OF 'escrowlaw12.UpdateGrows'. -/
def updateGrowsCard : Claim7 := { stood := { row := updateGrowsRow, standIns := [], harness := (true, "3d2095fcf87cc4b36ac2a19ae5120bfca23fe4a8a3bec15b1e1a2cbb038b0358"), looks := false }, kinds := [], alts := [], laidByText := true, laidKinds := [.data, .data], laidTests := true, laidLooks := .later }
def UpdateGrowsCardSaid : Prop := Claim7.holds Tryd.pinned (.plain (OpenSpec.ofChange updateGrowsSpec)) updateGrowsCard

/-- THE TIED CARD OF 'escrowlaw12.UpdateBytes'. -/
def updateBytesCard : Claim7 := { stood := { row := updateBytesRow, standIns := [], harness := (true, "3d2095fcf87cc4b36ac2a19ae5120bfca23fe4a8a3bec15b1e1a2cbb038b0358"), looks := false }, kinds := [], alts := [], laidByText := true, laidKinds := [.data, .data], laidTests := true, laidLooks := .later }
def UpdateBytesCardSaid : Prop := Claim7.holds Tryd.pinned (.plain (OpenSpec.ofChange updateBytesSpec)) updateBytesCard

/-- THE TIED CARD OF 'escrowlaw12.UpdateNexts'. -/
def updateNextsCard : Claim7 := { stood := { row := updateNextsRow, standIns := [], harness := (true, "3d2095fcf87cc4b36ac2a19ae5120bfca23fe4a8a3bec15b1e1a2cbb038b0358"), looks := false }, kinds := [], alts := [], laidByText := true, laidKinds := [.data, .data], laidTests := true, laidLooks := .later }
def UpdateNextsCardSaid : Prop := Claim7.holds Tryd.pinned (.plain (OpenSpec.ofChange updateNextsSpec)) updateNextsCard

/-- THE SECOND FORM's CARD OF 'escrowlaw12.UpdateBack'. -/
def updateBackUptoCard : Claim7 := { stood := { row := updateBackUptoRow, standIns := [], harness := (true, "3d2095fcf87cc4b36ac2a19ae5120bfca23fe4a8a3bec15b1e1a2cbb038b0358"), looks := false }, kinds := [], alts := [], laidByText := true, laidKinds := [.data, .data], laidTests := true, laidLooks := .later }
def UpdateBackUptoCardSaid : Prop := Claim7.holds Tryd.pinned (.plain (OpenSpec.upto updateBackSpec)) updateBackUptoCard

/-- THE SECOND FORM's CARD OF 'escrowlaw12.UpdateLimits'. -/
def updateLimitsUptoCard : Claim7 := { stood := { row := updateLimitsUptoRow, standIns := [], harness := (true, "3d2095fcf87cc4b36ac2a19ae5120bfca23fe4a8a3bec15b1e1a2cbb038b0358"), looks := false }, kinds := [], alts := [], laidByText := true, laidKinds := [.data, .data], laidTests := true, laidLooks := .later }
def UpdateLimitsUptoCardSaid : Prop := Claim7.holds Tryd.pinned (.plain (OpenSpec.upto updateLimitsSpec)) updateLimitsUptoCard

/-- THE SECOND FORM's CARD OF 'escrowlaw12.UpdateGrows'. -/
def updateGrowsUptoCard : Claim7 := { stood := { row := updateGrowsUptoRow, standIns := [], harness := (true, "3d2095fcf87cc4b36ac2a19ae5120bfca23fe4a8a3bec15b1e1a2cbb038b0358"), looks := false }, kinds := [], alts := [], laidByText := true, laidKinds := [.data, .data], laidTests := true, laidLooks := .later }
def UpdateGrowsUptoCardSaid : Prop := Claim7.holds Tryd.pinned (.plain (OpenSpec.upto updateGrowsSpec)) updateGrowsUptoCard

/-- THE SECOND FORM's CARD OF 'escrowlaw12.UpdateBytes'. -/
def updateBytesUptoCard : Claim7 := { stood := { row := updateBytesUptoRow, standIns := [], harness := (true, "3d2095fcf87cc4b36ac2a19ae5120bfca23fe4a8a3bec15b1e1a2cbb038b0358"), looks := false }, kinds := [], alts := [], laidByText := true, laidKinds := [.data, .data], laidTests := true, laidLooks := .later }
def UpdateBytesUptoCardSaid : Prop := Claim7.holds Tryd.pinned (.plain (OpenSpec.upto updateBytesSpec)) updateBytesUptoCard

/-- THE SECOND FORM's CARD OF 'escrowlaw12.UpdateNexts'. -/
def updateNextsUptoCard : Claim7 := { stood := { row := updateNextsUptoRow, standIns := [], harness := (true, "3d2095fcf87cc4b36ac2a19ae5120bfca23fe4a8a3bec15b1e1a2cbb038b0358"), looks := false }, kinds := [], alts := [], laidByText := true, laidKinds := [.data, .data], laidTests := true, laidLooks := .later }
def UpdateNextsUptoCardSaid : Prop := Claim7.holds Tryd.pinned (.plain (OpenSpec.upto updateNextsSpec)) updateNextsUptoCard
end Rows
end Go.Proofs.YtagopbdoabhjfaaDoor
