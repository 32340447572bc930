/-
  DERIVED. GIVEN WITH THE SEED: THE CARDS: each row of YtoepmlagolfhcaaDoorRows.lean that lists a variable, with what it lists TIED to the program's text (the seventh form; the later family's looks); each row that meets fmt, with fmt's text TOLD by the authors' own Lean function (tested against real Go, not proved from fmt's source: count such statements apart). THE CARD IS WHAT COUNTS. Prove the row's statement (the work); the ties are given (YtoepmlagolfhcaaDoorTie.lean); close each card by the builder's one call (the guide's Derived/Test/ToyasCard.lean, 'card_holds'). Laid BY PROGRAM, IN A SANDBOX (cutbox-door.mjs). By AI agents, Wed Nov 11 2026. No macro, syntax, notation, axiom, sorry.
-/
import Derived.Test.YtoepmlagolfhcaaDoorRows
import GoSem.ClaimSeven
namespace Go.Proofs.YtoepmlagolfhcaaDoor
namespace Rows

/-- THE TIED CARD OF 'escrowlaw12.UpdateLimits'. -/
def updateLimitsCard : Claim7 := { stood := { row := updateLimitsRow, standIns := [], harness := (true, "e06b4dc93d828af1cf0f7ad917fb57b91381cc5668fa5bdd817928274aae81a8"), looks := false }, kinds := [], alts := [], laidByText := true, laidKinds := [.data, .data], laidTests := true, laidLooks := .later }
def UpdateLimitsCardSaid : Prop := Claim7.holds Tryd.pinned (.plain (OpenSpec.ofChange updateLimitsSpec)) updateLimitsCard

/-- THE SECOND FORM's CARD OF 'escrowlaw12.UpdateLimits'. -/
def updateLimitsUptoCard : Claim7 := { stood := { row := updateLimitsUptoRow, standIns := [], harness := (true, "e06b4dc93d828af1cf0f7ad917fb57b91381cc5668fa5bdd817928274aae81a8"), looks := false }, kinds := [], alts := [], laidByText := true, laidKinds := [.data, .data], laidTests := true, laidLooks := .later }
def UpdateLimitsUptoCardSaid : Prop := Claim7.holds Tryd.pinned (.plain (OpenSpec.upto updateLimitsSpec)) updateLimitsUptoCard
end Rows
end Go.Proofs.YtoepmlagolfhcaaDoor
