/-
  DERIVED. GIVEN WITH THE SEED: THE CARDS: each row of YtfacfbmfnpioeaaDoorRows.lean that lists a variable, with what it lists TIED to the program's text (the seventh form; the later family's looks); each row that meets fmt, with fmt's text TOLD by the authors' own Lean function (tested against real Go, not proved from fmt's source: count such statements apart). THE CARD IS WHAT COUNTS. Prove the row's statement (the work); the ties are given (YtfacfbmfnpioeaaDoorTie.lean); close each card by the builder's one call (the guide's Derived/Test/ToyasCard.lean, 'card_holds'). Laid BY PROGRAM, IN A SANDBOX (cutbox-door.mjs). By AI agents, Wed Nov 11 2026. No macro, syntax, notation, axiom, sorry.
-/
import Derived.Test.YtfacfbmfnpioeaaDoorRows
import GoSem.ClaimSeven
namespace Go.Proofs.YtfacfbmfnpioeaaDoor
namespace Rows

/-- THE TIED CARD OF 'escrowlaw11.SealOne'. -/
def sealOneCard : Claim7 := { stood := { row := sealOneRow, standIns := [], harness := (true, "4eedcc04f1544b0247490b13bc5f7dfd350bbfcf4be7ae2c152d3fa7caf82ac6"), looks := false }, kinds := [], alts := [], laidByText := true, laidKinds := [.data, .data], laidTests := true, laidLooks := .later }
def SealOneCardSaid : Prop := Claim7.holds Tryd.pinned (.plain (OpenSpec.ofChange sealOneSpec)) sealOneCard

/-- THE TIED CARD OF 'escrowlaw11.SealSigns'. -/
def sealSignsCard : Claim7 := { stood := { row := sealSignsRow, standIns := [], harness := (true, "4eedcc04f1544b0247490b13bc5f7dfd350bbfcf4be7ae2c152d3fa7caf82ac6"), looks := false }, kinds := [], alts := [], laidByText := true, laidKinds := [.data, .data], laidTests := true, laidLooks := .later }
def SealSignsCardSaid : Prop := Claim7.holds Tryd.pinned (.plain (OpenSpec.ofChange sealSignsSpec)) sealSignsCard

/-- THE TIED CARD OF 'escrowlaw11.SealRights'. -/
def sealRightsCard : Claim7 := { stood := { row := sealRightsRow, standIns := [], harness := (true, "4eedcc04f1544b0247490b13bc5f7dfd350bbfcf4be7ae2c152d3fa7caf82ac6"), looks := false }, kinds := [], alts := [], laidByText := true, laidKinds := [.data, .data], laidTests := true, laidLooks := .later }
def SealRightsCardSaid : Prop := Claim7.holds Tryd.pinned (.plain (OpenSpec.ofChange sealRightsSpec)) sealRightsCard

/-- THE SECOND FORM's CARD OF 'escrowlaw11.SealOne'. -/
def sealOneUptoCard : Claim7 := { stood := { row := sealOneUptoRow, standIns := [], harness := (true, "4eedcc04f1544b0247490b13bc5f7dfd350bbfcf4be7ae2c152d3fa7caf82ac6"), looks := false }, kinds := [], alts := [], laidByText := true, laidKinds := [.data, .data], laidTests := true, laidLooks := .later }
def SealOneUptoCardSaid : Prop := Claim7.holds Tryd.pinned (.plain (OpenSpec.upto sealOneSpec)) sealOneUptoCard

/-- THE SECOND FORM's CARD OF 'escrowlaw11.SealSigns'. -/
def sealSignsUptoCard : Claim7 := { stood := { row := sealSignsUptoRow, standIns := [], harness := (true, "4eedcc04f1544b0247490b13bc5f7dfd350bbfcf4be7ae2c152d3fa7caf82ac6"), looks := false }, kinds := [], alts := [], laidByText := true, laidKinds := [.data, .data], laidTests := true, laidLooks := .later }
def SealSignsUptoCardSaid : Prop := Claim7.holds Tryd.pinned (.plain (OpenSpec.upto sealSignsSpec)) sealSignsUptoCard

/-- THE SECOND FORM's CARD OF 'escrowlaw11.SealRights'. -/
def sealRightsUptoCard : Claim7 := { stood := { row := sealRightsUptoRow, standIns := [], harness := (true, "4eedcc04f1544b0247490b13bc5f7dfd350bbfcf4be7ae2c152d3fa7caf82ac6"), looks := false }, kinds := [], alts := [], laidByText := true, laidKinds := [.data, .data], laidTests := true, laidLooks := .later }
def SealRightsUptoCardSaid : Prop := Claim7.holds Tryd.pinned (.plain (OpenSpec.upto sealRightsSpec)) sealRightsUptoCard
end Rows
end Go.Proofs.YtfacfbmfnpioeaaDoor
