/-
  NARROWER THAN 'FOR EVERY INPUT', by the rows' own cells (each row's printed sentence says how): DanceRaw: laid · DancePlays: laid · DanceApart: laid · ResumeEnds: laid · ResumeLost: laid · ResumeAnswers: laid.
  DERIVED. THE GIVEN ROWS OF THIS SEAT. 6 by the template 'for every input the law returns true; each argument reads behind the call as it read before'; 0 by the template 'total and deterministic' (their statements: YtmmcoedgoekhgaaGreatDoorTotals.lean).
  GIVEN WITH THE SEED: the statements are not yours to turn. If you find one false, say at which input.
  Laid BY PROGRAM, IN A SANDBOX (cutbox-rows.mjs): the forced cells as the released guide's own fill.sh prints them over the translation d7e23af227ef2faa… (all of the seat's roots in one cut). By AI agents, Wed Nov 11 2026. No macro, syntax, notation, axiom, sorry.
-/
import Derived.Test.YtmmcoedgoekhgaaGreatDoorChecked
import GoSem.Claim
import GoSem.ClaimJoined
import GoSem.ClaimMapViews
import Derived.JoinedTies
import Derived.KernelRfl
namespace Go.Proofs.YtmmcoedgoekhgaaGreatDoor
/- THE CELL 'sum', in the pinned program and in every row, IS THE sha256 OF THE DUMP (.gsa) THAT YtmmcoedgoekhgaaGreatDoorProg.lean LOADS. Nothing in Lean hashes anything: it is a label: what it is worth is what the hold of that sum in a sandbox is worth. -/
noncomputable def Tryz.pinned : Pinned := { name := "ytmmcoedgoekhgaagreatdoor", sum := "d7e23af227ef2faa30ddec3941850f62e4f68e8f2a994c092fed9e3076bfb3a3", checked := Tryz.checked }
namespace Rows
def none {H : Type} : Left H := { results := [], args := [] }

/- WHAT THE LISTED PACKAGE-LEVEL VARIABLES READ AS WHEN THE CALL BEGINS. Each datum BY PROGRAM (the guide's laid-datum.mjs) off the statement by which the dump's own 'gosem.cut.vars' lays the variable. In a bare row this is a premise. The card (YtmmcoedgoekhgaaGreatDoorCards.lean) ties it to the program's text. -/
def laid_escrow_hash_rounds {H : Type} : DataW H := .agg [.lit (.int .u32 1116352408), .lit (.int .u32 1899447441), .lit (.int .u32 3049323471), .lit (.int .u32 3921009573), .lit (.int .u32 961987163), .lit (.int .u32 1508970993), .lit (.int .u32 2453635748), .lit (.int .u32 2870763221), .lit (.int .u32 3624381080), .lit (.int .u32 310598401), .lit (.int .u32 607225278), .lit (.int .u32 1426881987), .lit (.int .u32 1925078388), .lit (.int .u32 2162078206), .lit (.int .u32 2614888103), .lit (.int .u32 3248222580), .lit (.int .u32 3835390401), .lit (.int .u32 4022224774), .lit (.int .u32 264347078), .lit (.int .u32 604807628), .lit (.int .u32 770255983), .lit (.int .u32 1249150122), .lit (.int .u32 1555081692), .lit (.int .u32 1996064986), .lit (.int .u32 2554220882), .lit (.int .u32 2821834349), .lit (.int .u32 2952996808), .lit (.int .u32 3210313671), .lit (.int .u32 3336571891), .lit (.int .u32 3584528711), .lit (.int .u32 113926993), .lit (.int .u32 338241895), .lit (.int .u32 666307205), .lit (.int .u32 773529912), .lit (.int .u32 1294757372), .lit (.int .u32 1396182291), .lit (.int .u32 1695183700), .lit (.int .u32 1986661051), .lit (.int .u32 2177026350), .lit (.int .u32 2456956037), .lit (.int .u32 2730485921), .lit (.int .u32 2820302411), .lit (.int .u32 3259730800), .lit (.int .u32 3345764771), .lit (.int .u32 3516065817), .lit (.int .u32 3600352804), .lit (.int .u32 4094571909), .lit (.int .u32 275423344), .lit (.int .u32 430227734), .lit (.int .u32 506948616), .lit (.int .u32 659060556), .lit (.int .u32 883997877), .lit (.int .u32 958139571), .lit (.int .u32 1322822218), .lit (.int .u32 1537002063), .lit (.int .u32 1747873779), .lit (.int .u32 1955562222), .lit (.int .u32 2024104815), .lit (.int .u32 2227730452), .lit (.int .u32 2361852424), .lit (.int .u32 2428436474), .lit (.int .u32 2756734187), .lit (.int .u32 3204031479), .lit (.int .u32 3329325298)]
def laid_escrow_hash_first {H : Type} : DataW H := .agg [.lit (.int .u32 1779033703), .lit (.int .u32 3144134277), .lit (.int .u32 1013904242), .lit (.int .u32 2773480762), .lit (.int .u32 1359893119), .lit (.int .u32 2600822924), .lit (.int .u32 528734635), .lit (.int .u32 1541459225)]

/-- 'escrowlaw15.DanceRaw': WHATEVER THE INPUT: true; the input reads as it did. -/
def danceRawSpec : ChangeSpec := { name := "danceRaw", fn := fun _ => fun
  | [d1, d2, d3, d4, d5, d6] => { results := [.lit (.bool true)], args := [d1, d2, d3, d4, d5, d6] }
  | _ => none }
def danceRawRow : OpenClaim := { program := "ytmmcoedgoekhgaagreatdoor", sum := "d7e23af227ef2faa30ddec3941850f62e4f68e8f2a994c092fed9e3076bfb3a3", func := "escrow/escrowlaw15.DanceRaw", spec := "danceRaw", unfollowed := true, recurses := true, named := ["escrow/hash.first", "escrow/hash.rounds"], apart := false, laid := [("escrow/hash.rounds", laid_escrow_hash_rounds), ("escrow/hash.first", laid_escrow_hash_first)] }
def DanceRawSaid : Prop := danceRawRow.holds Tryz.pinned (OpenSpec.ofChange danceRawSpec)

/-- ITS FALSE NEIGHBOUR: 'it returns false'. Refute it at one input. -/
def danceRawWrong : ChangeSpec := { name := "danceRaw", fn := fun _ => fun
  | [d1, d2, d3, d4, d5, d6] => { results := [.lit (.bool false)], args := [d1, d2, d3, d4, d5, d6] }
  | _ => none }
def DanceRawWrongFalsely : Prop := danceRawRow.holds Tryz.pinned (OpenSpec.ofChange danceRawWrong)

/-- 'escrowlaw15.DancePlays': WHATEVER THE INPUT: true; the input reads as it did. -/
def dancePlaysSpec : ChangeSpec := { name := "dancePlays", fn := fun _ => fun
  | [d1, d2] => { results := [.lit (.bool true)], args := [d1, d2] }
  | _ => none }
def dancePlaysRow : OpenClaim := { program := "ytmmcoedgoekhgaagreatdoor", sum := "d7e23af227ef2faa30ddec3941850f62e4f68e8f2a994c092fed9e3076bfb3a3", func := "escrow/escrowlaw15.DancePlays", spec := "dancePlays", unfollowed := true, recurses := true, named := ["escrow/hash.first", "escrow/hash.rounds"], apart := false, laid := [("escrow/hash.rounds", laid_escrow_hash_rounds), ("escrow/hash.first", laid_escrow_hash_first)] }
def DancePlaysSaid : Prop := dancePlaysRow.holds Tryz.pinned (OpenSpec.ofChange dancePlaysSpec)

/-- ITS FALSE NEIGHBOUR: 'it returns false'. Refute it at one input. -/
def dancePlaysWrong : ChangeSpec := { name := "dancePlays", fn := fun _ => fun
  | [d1, d2] => { results := [.lit (.bool false)], args := [d1, d2] }
  | _ => none }
def DancePlaysWrongFalsely : Prop := dancePlaysRow.holds Tryz.pinned (OpenSpec.ofChange dancePlaysWrong)

/-- 'escrowlaw15.DanceApart': WHATEVER THE INPUT: true; the input reads as it did. -/
def danceApartSpec : ChangeSpec := { name := "danceApart", fn := fun _ => fun
  | [d1, d2] => { results := [.lit (.bool true)], args := [d1, d2] }
  | _ => none }
def danceApartRow : OpenClaim := { program := "ytmmcoedgoekhgaagreatdoor", sum := "d7e23af227ef2faa30ddec3941850f62e4f68e8f2a994c092fed9e3076bfb3a3", func := "escrow/escrowlaw15.DanceApart", spec := "danceApart", unfollowed := true, recurses := true, named := ["escrow/hash.first", "escrow/hash.rounds"], apart := false, laid := [("escrow/hash.rounds", laid_escrow_hash_rounds), ("escrow/hash.first", laid_escrow_hash_first)] }
def DanceApartSaid : Prop := danceApartRow.holds Tryz.pinned (OpenSpec.ofChange danceApartSpec)

/-- ITS FALSE NEIGHBOUR: 'it returns false'. Refute it at one input. -/
def danceApartWrong : ChangeSpec := { name := "danceApart", fn := fun _ => fun
  | [d1, d2] => { results := [.lit (.bool false)], args := [d1, d2] }
  | _ => none }
def DanceApartWrongFalsely : Prop := danceApartRow.holds Tryz.pinned (OpenSpec.ofChange danceApartWrong)

/-- 'escrowlaw18.ResumeEnds': WHATEVER THE INPUT: true; the input reads as it did. -/
def resumeEndsSpec : ChangeSpec := { name := "resumeEnds", fn := fun _ => fun
  | [d1, d2, d3] => { results := [.lit (.bool true)], args := [d1, d2, d3] }
  | _ => none }
def resumeEndsRow : OpenClaim := { program := "ytmmcoedgoekhgaagreatdoor", sum := "d7e23af227ef2faa30ddec3941850f62e4f68e8f2a994c092fed9e3076bfb3a3", func := "escrow/escrowlaw18.ResumeEnds", spec := "resumeEnds", unfollowed := true, recurses := true, named := ["escrow/hash.first", "escrow/hash.rounds"], apart := false, laid := [("escrow/hash.rounds", laid_escrow_hash_rounds), ("escrow/hash.first", laid_escrow_hash_first)] }
def ResumeEndsSaid : Prop := resumeEndsRow.holds Tryz.pinned (OpenSpec.ofChange resumeEndsSpec)

/-- ITS FALSE NEIGHBOUR: 'it returns false'. Refute it at one input. -/
def resumeEndsWrong : ChangeSpec := { name := "resumeEnds", fn := fun _ => fun
  | [d1, d2, d3] => { results := [.lit (.bool false)], args := [d1, d2, d3] }
  | _ => none }
def ResumeEndsWrongFalsely : Prop := resumeEndsRow.holds Tryz.pinned (OpenSpec.ofChange resumeEndsWrong)

/-- 'escrowlaw18.ResumeLost': WHATEVER THE INPUT: true; the input reads as it did. -/
def resumeLostSpec : ChangeSpec := { name := "resumeLost", fn := fun _ => fun
  | [d1, d2, d3, d4, d5] => { results := [.lit (.bool true)], args := [d1, d2, d3, d4, d5] }
  | _ => none }
def resumeLostRow : OpenClaim := { program := "ytmmcoedgoekhgaagreatdoor", sum := "d7e23af227ef2faa30ddec3941850f62e4f68e8f2a994c092fed9e3076bfb3a3", func := "escrow/escrowlaw18.ResumeLost", spec := "resumeLost", unfollowed := true, recurses := true, named := ["escrow/hash.first", "escrow/hash.rounds"], apart := false, laid := [("escrow/hash.rounds", laid_escrow_hash_rounds), ("escrow/hash.first", laid_escrow_hash_first)] }
def ResumeLostSaid : Prop := resumeLostRow.holds Tryz.pinned (OpenSpec.ofChange resumeLostSpec)

/-- ITS FALSE NEIGHBOUR: 'it returns false'. Refute it at one input. -/
def resumeLostWrong : ChangeSpec := { name := "resumeLost", fn := fun _ => fun
  | [d1, d2, d3, d4, d5] => { results := [.lit (.bool false)], args := [d1, d2, d3, d4, d5] }
  | _ => none }
def ResumeLostWrongFalsely : Prop := resumeLostRow.holds Tryz.pinned (OpenSpec.ofChange resumeLostWrong)

/-- 'escrowlaw18.ResumeAnswers': WHATEVER THE INPUT: true; the input reads as it did. -/
def resumeAnswersSpec : ChangeSpec := { name := "resumeAnswers", fn := fun _ => fun
  | [d1, d2, d3] => { results := [.lit (.bool true)], args := [d1, d2, d3] }
  | _ => none }
def resumeAnswersRow : OpenClaim := { program := "ytmmcoedgoekhgaagreatdoor", sum := "d7e23af227ef2faa30ddec3941850f62e4f68e8f2a994c092fed9e3076bfb3a3", func := "escrow/escrowlaw18.ResumeAnswers", spec := "resumeAnswers", unfollowed := true, recurses := true, named := ["escrow/hash.first", "escrow/hash.rounds"], apart := false, laid := [("escrow/hash.rounds", laid_escrow_hash_rounds), ("escrow/hash.first", laid_escrow_hash_first)] }
def ResumeAnswersSaid : Prop := resumeAnswersRow.holds Tryz.pinned (OpenSpec.ofChange resumeAnswersSpec)

/-- ITS FALSE NEIGHBOUR: 'it returns false'. Refute it at one input. -/
def resumeAnswersWrong : ChangeSpec := { name := "resumeAnswers", fn := fun _ => fun
  | [d1, d2, d3] => { results := [.lit (.bool false)], args := [d1, d2, d3] }
  | _ => none }
def ResumeAnswersWrongFalsely : Prop := resumeAnswersRow.holds Tryz.pinned (OpenSpec.ofChange resumeAnswersWrong)

/- THE SECOND FORM. 'bulk': how many values and letters a reading holds, each counted each time it is reached (what is shared counts as often as it is met; a slice's spare places count too). A statement '..UptoSaid' is the law's where the arguments, and the package variables that the reading takes, are together of bulk at most 1048576: NARROWER than '..Said'. Prove '..Said' where nothing that the law and all that it calls make is longer than what came in: it says more and counts as full. Else prove '..UptoSaid'. A law counts once. -/
mutual
def uptoBulk {H : Type} : DataW H → Nat
  | .lit (.string bytes) => bytes.length + 1
  | .lit _ => 1
  | .nil => 1
  | .ptr d => uptoBulk d + 1
  | .slice elems spare => uptoBulkAll elems + uptoBulkAll spare + 1
  | .agg parts => uptoBulkAll parts + 1
  | .iface _ d => uptoBulk d + 1
  | .map entries => uptoBulkEntries entries + 1
  | .held _ => 1
def uptoBulkAll {H : Type} : List (DataW H) → Nat
  | [] => 0
  | d :: r => uptoBulk d + uptoBulkAll r
def uptoBulkEntries {H : Type} : List (Lit × DataW H) → Nat
  | [] => 0
  | x :: r => uptoBulkEntry x + uptoBulkEntries r
def uptoBulkEntry {H : Type} : Lit × DataW H → Nat
  | (.string bytes, d) => bytes.length + uptoBulk d + 1
  | (_, d) => uptoBulk d + 1
 end
def uptoSmall : (H : Type) → List (DataW H) → Bool := fun _ ds => decide (uptoBulkAll ds ≤ 1048576)
def OpenSpec.upto (s : _root_.Go.ChangeSpec) : _root_.Go.OpenSpec := { _root_.Go.OpenSpec.ofChange s with cond := some uptoSmall }

/-- 'escrowlaw15.DanceRaw', WHERE WHAT IT READS IS OF BULK AT MOST 1048576: true; the input reads as it did. -/
def danceRawUptoRow : OpenClaim := { program := "ytmmcoedgoekhgaagreatdoor", sum := "d7e23af227ef2faa30ddec3941850f62e4f68e8f2a994c092fed9e3076bfb3a3", func := "escrow/escrowlaw15.DanceRaw", spec := "danceRaw", unfollowed := true, recurses := true, named := ["escrow/hash.first", "escrow/hash.rounds"], apart := false, laid := [("escrow/hash.rounds", laid_escrow_hash_rounds), ("escrow/hash.first", laid_escrow_hash_first)], narrowed := true }
def DanceRawUptoSaid : Prop := danceRawUptoRow.holds Tryz.pinned (OpenSpec.upto danceRawSpec)

/-- 'escrowlaw15.DancePlays', WHERE WHAT IT READS IS OF BULK AT MOST 1048576: true; the input reads as it did. -/
def dancePlaysUptoRow : OpenClaim := { program := "ytmmcoedgoekhgaagreatdoor", sum := "d7e23af227ef2faa30ddec3941850f62e4f68e8f2a994c092fed9e3076bfb3a3", func := "escrow/escrowlaw15.DancePlays", spec := "dancePlays", unfollowed := true, recurses := true, named := ["escrow/hash.first", "escrow/hash.rounds"], apart := false, laid := [("escrow/hash.rounds", laid_escrow_hash_rounds), ("escrow/hash.first", laid_escrow_hash_first)], narrowed := true }
def DancePlaysUptoSaid : Prop := dancePlaysUptoRow.holds Tryz.pinned (OpenSpec.upto dancePlaysSpec)

/-- 'escrowlaw15.DanceApart', WHERE WHAT IT READS IS OF BULK AT MOST 1048576: true; the input reads as it did. -/
def danceApartUptoRow : OpenClaim := { program := "ytmmcoedgoekhgaagreatdoor", sum := "d7e23af227ef2faa30ddec3941850f62e4f68e8f2a994c092fed9e3076bfb3a3", func := "escrow/escrowlaw15.DanceApart", spec := "danceApart", unfollowed := true, recurses := true, named := ["escrow/hash.first", "escrow/hash.rounds"], apart := false, laid := [("escrow/hash.rounds", laid_escrow_hash_rounds), ("escrow/hash.first", laid_escrow_hash_first)], narrowed := true }
def DanceApartUptoSaid : Prop := danceApartUptoRow.holds Tryz.pinned (OpenSpec.upto danceApartSpec)

/-- 'escrowlaw18.ResumeEnds', WHERE WHAT IT READS IS OF BULK AT MOST 1048576: true; the input reads as it did. -/
def resumeEndsUptoRow : OpenClaim := { program := "ytmmcoedgoekhgaagreatdoor", sum := "d7e23af227ef2faa30ddec3941850f62e4f68e8f2a994c092fed9e3076bfb3a3", func := "escrow/escrowlaw18.ResumeEnds", spec := "resumeEnds", unfollowed := true, recurses := true, named := ["escrow/hash.first", "escrow/hash.rounds"], apart := false, laid := [("escrow/hash.rounds", laid_escrow_hash_rounds), ("escrow/hash.first", laid_escrow_hash_first)], narrowed := true }
def ResumeEndsUptoSaid : Prop := resumeEndsUptoRow.holds Tryz.pinned (OpenSpec.upto resumeEndsSpec)

/-- 'escrowlaw18.ResumeLost', WHERE WHAT IT READS IS OF BULK AT MOST 1048576: true; the input reads as it did. -/
def resumeLostUptoRow : OpenClaim := { program := "ytmmcoedgoekhgaagreatdoor", sum := "d7e23af227ef2faa30ddec3941850f62e4f68e8f2a994c092fed9e3076bfb3a3", func := "escrow/escrowlaw18.ResumeLost", spec := "resumeLost", unfollowed := true, recurses := true, named := ["escrow/hash.first", "escrow/hash.rounds"], apart := false, laid := [("escrow/hash.rounds", laid_escrow_hash_rounds), ("escrow/hash.first", laid_escrow_hash_first)], narrowed := true }
def ResumeLostUptoSaid : Prop := resumeLostUptoRow.holds Tryz.pinned (OpenSpec.upto resumeLostSpec)

/-- 'escrowlaw18.ResumeAnswers', WHERE WHAT IT READS IS OF BULK AT MOST 1048576: true; the input reads as it did. -/
def resumeAnswersUptoRow : OpenClaim := { program := "ytmmcoedgoekhgaagreatdoor", sum := "d7e23af227ef2faa30ddec3941850f62e4f68e8f2a994c092fed9e3076bfb3a3", func := "escrow/escrowlaw18.ResumeAnswers", spec := "resumeAnswers", unfollowed := true, recurses := true, named := ["escrow/hash.first", "escrow/hash.rounds"], apart := false, laid := [("escrow/hash.rounds", laid_escrow_hash_rounds), ("escrow/hash.first", laid_escrow_hash_first)], narrowed := true }
def ResumeAnswersUptoSaid : Prop := resumeAnswersUptoRow.holds Tryz.pinned (OpenSpec.upto resumeAnswersSpec)

end Rows
end Go.Proofs.YtmmcoedgoekhgaaGreatDoor
