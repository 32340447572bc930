/-
  DERIVED. GIVEN WITH THE SEED: THE CARDS: each row of YtmmcoedgoekhgaaGreatDoorRows.lean that lists a variable, with what it lists TIED to the program's text (the seventh form; the later family's looks); each row that meets fmt, with fmt's text TOLD by the authors' own Lean function (tested against real Go, not proved from fmt's source: count such statements apart). THE CARD IS WHAT COUNTS. Prove the row's statement (the work); the ties are given (YtmmcoedgoekhgaaGreatDoorTie.lean); close each card by the builder's one call (the guide's Derived/Test/ToyasCard.lean, 'card_holds'). Laid BY PROGRAM, IN A SANDBOX (cutbox-door.mjs). By AI agents, Wed Nov 11 2026. No macro, syntax, notation, axiom, sorry.
-/
import Derived.Test.YtmmcoedgoekhgaaGreatDoorRows
import GoSem.ClaimSeven
namespace Go.Proofs.YtmmcoedgoekhgaaGreatDoor
namespace Rows

/-- THE TIED CARD OF 'escrowlaw15.DanceRaw'. -/
def danceRawCard : Claim7 := { stood := { row := danceRawRow, standIns := [], harness := (true, "8e01a12cf1b086ab5dd48ac2d79346de2fa08b0cfe19b7aef5182518df9f6b6e"), looks := false }, kinds := [], alts := [], laidByText := true, laidKinds := [.data, .data], laidTests := true, laidLooks := .later }
def DanceRawCardSaid : Prop := Claim7.holds Tryz.pinned (.plain (OpenSpec.ofChange danceRawSpec)) danceRawCard

/-- THE TIED CARD OF 'escrowlaw15.DancePlays'. -/
def dancePlaysCard : Claim7 := { stood := { row := dancePlaysRow, standIns := [], harness := (true, "8e01a12cf1b086ab5dd48ac2d79346de2fa08b0cfe19b7aef5182518df9f6b6e"), looks := false }, kinds := [], alts := [], laidByText := true, laidKinds := [.data, .data], laidTests := true, laidLooks := .later }
def DancePlaysCardSaid : Prop := Claim7.holds Tryz.pinned (.plain (OpenSpec.ofChange dancePlaysSpec)) dancePlaysCard

/-- THE TIED CARD OF 'escrowlaw15.DanceApart'. -/
def danceApartCard : Claim7 := { stood := { row := danceApartRow, standIns := [], harness := (true, "8e01a12cf1b086ab5dd48ac2d79346de2fa08b0cfe19b7aef5182518df9f6b6e"), looks := false }, kinds := [], alts := [], laidByText := true, laidKinds := [.data, .data], laidTests := true, laidLooks := .later }
def DanceApartCardSaid : Prop := Claim7.holds Tryz.pinned (.plain (OpenSpec.ofChange danceApartSpec)) danceApartCard

/-- THE TIED CARD OF 'escrowlaw18.ResumeEnds'. -/
def resumeEndsCard : Claim7 := { stood := { row := resumeEndsRow, standIns := [], harness := (true, "8e01a12cf1b086ab5dd48ac2d79346de2fa08b0cfe19b7aef5182518df9f6b6e"), looks := false }, kinds := [], alts := [], laidByText := true, laidKinds := [.data, .data], laidTests := true, laidLooks := .later }
def ResumeEndsCardSaid : Prop := Claim7.holds Tryz.pinned (.plain (OpenSpec.ofChange resumeEndsSpec)) resumeEndsCard

/-- THE TIED CARD OF 'escrowlaw18.ResumeLost'. -/
def resumeLostCard : Claim7 := { stood := { row := resumeLostRow, standIns := [], harness := (true, "8e01a12cf1b086ab5dd48ac2d79346de2fa08b0cfe19b7aef5182518df9f6b6e"), looks := false }, kinds := [], alts := [], laidByText := true, laidKinds := [.data, .data], laidTests := true, laidLooks := .later }
def ResumeLostCardSaid : Prop := Claim7.holds Tryz.pinned (.plain (OpenSpec.ofChange resumeLostSpec)) resumeLostCard

/-- THE TIED CARD OF 'escrowlaw18.ResumeAnswers'. -/
def resumeAnswersCard : Claim7 := { stood := { row := resumeAnswersRow, standIns := [], harness := (true, "8e01a12cf1b086ab5dd48ac2d79346de2fa08b0cfe19b7aef5182518df9f6b6e"), looks := false }, kinds := [], alts := [], laidByText := true, laidKinds := [.data, .data], laidTests := true, laidLooks := .later }
def ResumeAnswersCardSaid : Prop := Claim7.holds Tryz.pinned (.plain (OpenSpec.ofChange resumeAnswersSpec)) resumeAnswersCard

/-- THE SECOND FORM's CARD OF 'escrowlaw15.DanceRaw'. -/
def danceRawUptoCard : Claim7 := { stood := { row := danceRawUptoRow, standIns := [], harness := (true, "8e01a12cf1b086ab5dd48ac2d79346de2fa08b0cfe19b7aef5182518df9f6b6e"), looks := false }, kinds := [], alts := [], laidByText := true, laidKinds := [.data, .data], laidTests := true, laidLooks := .later }
def DanceRawUptoCardSaid : Prop := Claim7.holds Tryz.pinned (.plain (OpenSpec.upto danceRawSpec)) danceRawUptoCard

/-- THE SECOND FORM's CARD OF 'escrowlaw15.DancePlays'. -/
def dancePlaysUptoCard : Claim7 := { stood := { row := dancePlaysUptoRow, standIns := [], harness := (true, "8e01a12cf1b086ab5dd48ac2d79346de2fa08b0cfe19b7aef5182518df9f6b6e"), looks := false }, kinds := [], alts := [], laidByText := true, laidKinds := [.data, .data], laidTests := true, laidLooks := .later }
def DancePlaysUptoCardSaid : Prop := Claim7.holds Tryz.pinned (.plain (OpenSpec.upto dancePlaysSpec)) dancePlaysUptoCard

/-- THE SECOND FORM's CARD OF 'escrowlaw15.DanceApart'. -/
def danceApartUptoCard : Claim7 := { stood := { row := danceApartUptoRow, standIns := [], harness := (true, "8e01a12cf1b086ab5dd48ac2d79346de2fa08b0cfe19b7aef5182518df9f6b6e"), looks := false }, kinds := [], alts := [], laidByText := true, laidKinds := [.data, .data], laidTests := true, laidLooks := .later }
def DanceApartUptoCardSaid : Prop := Claim7.holds Tryz.pinned (.plain (OpenSpec.upto danceApartSpec)) danceApartUptoCard

/-- THE SECOND FORM's CARD OF 'escrowlaw18.ResumeEnds'. -/
def resumeEndsUptoCard : Claim7 := { stood := { row := resumeEndsUptoRow, standIns := [], harness := (true, "8e01a12cf1b086ab5dd48ac2d79346de2fa08b0cfe19b7aef5182518df9f6b6e"), looks := false }, kinds := [], alts := [], laidByText := true, laidKinds := [.data, .data], laidTests := true, laidLooks := .later }
def ResumeEndsUptoCardSaid : Prop := Claim7.holds Tryz.pinned (.plain (OpenSpec.upto resumeEndsSpec)) resumeEndsUptoCard

/-- THE SECOND FORM's CARD OF 'escrowlaw18.ResumeLost'. -/
def resumeLostUptoCard : Claim7 := { stood := { row := resumeLostUptoRow, standIns := [], harness := (true, "8e01a12cf1b086ab5dd48ac2d79346de2fa08b0cfe19b7aef5182518df9f6b6e"), looks := false }, kinds := [], alts := [], laidByText := true, laidKinds := [.data, .data], laidTests := true, laidLooks := .later }
def ResumeLostUptoCardSaid : Prop := Claim7.holds Tryz.pinned (.plain (OpenSpec.upto resumeLostSpec)) resumeLostUptoCard

/-- THE SECOND FORM's CARD OF 'escrowlaw18.ResumeAnswers'. -/
def resumeAnswersUptoCard : Claim7 := { stood := { row := resumeAnswersUptoRow, standIns := [], harness := (true, "8e01a12cf1b086ab5dd48ac2d79346de2fa08b0cfe19b7aef5182518df9f6b6e"), looks := false }, kinds := [], alts := [], laidByText := true, laidKinds := [.data, .data], laidTests := true, laidLooks := .later }
def ResumeAnswersUptoCardSaid : Prop := Claim7.holds Tryz.pinned (.plain (OpenSpec.upto resumeAnswersSpec)) resumeAnswersUptoCard
end Rows
end Go.Proofs.YtmmcoedgoekhgaaGreatDoor
