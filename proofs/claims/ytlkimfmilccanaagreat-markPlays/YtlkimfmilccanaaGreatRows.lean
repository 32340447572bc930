/-
  No cell of these rows narrows 'for every input' (looked for: loops, veiled, ifaces, maps, wideKeys, modest, calm, conditions, laid).
  DERIVED. THE GIVEN ROWS OF THIS SEAT. 4 by the template 'for every input the law returns true; each argument reads behind the call as it read before'; 0 by the template 'total and deterministic' (their statements: YtlkimfmilccanaaGreatTotals.lean).
  GIVEN WITH THE SEED: the statements are not yours to turn. If you find one false, say at which input.
  Laid BY PROGRAM, IN A SANDBOX (cutbox-rows.mjs): the forced cells as the released guide's own fill.sh prints them over the translation d60e99c53b646ee9… (all of the seat's roots in one cut). By AI agents, Wed Nov 11 2026. No macro, syntax, notation, axiom, sorry.
-/
import Derived.Test.YtlkimfmilccanaaGreatChecked
import GoSem.Claim
import GoSem.ClaimJoined
import GoSem.ClaimMapViews
import Derived.JoinedTies
import Derived.KernelRfl
namespace Go.Proofs.YtlkimfmilccanaaGreat
/- THE CELL 'sum', in the pinned program and in every row, IS THE sha256 OF THE DUMP (.gsa) THAT YtlkimfmilccanaaGreatProg.lean LOADS. Nothing in Lean hashes anything: it is a label: what it is worth is what the hold of that sum in a sandbox is worth. -/
noncomputable def Tryz.pinned : Pinned := { name := "ytlkimfmilccanaagreat", sum := "d60e99c53b646ee9ab0d62b924ca5ec354ff3e18c17df01f104e916d93d27a7e", checked := Tryz.checked }
namespace Rows
def none {H : Type} : Left H := { results := [], args := [] }

/-- 'escrowlaw19.MarkTurns': WHATEVER THE INPUT: true; the input reads as it did. -/
def markTurnsSpec : ChangeSpec := { name := "markTurns", fn := fun _ => fun
  | [d1, d2] => { results := [.lit (.bool true)], args := [d1, d2] }
  | _ => none }
def markTurnsRow : OpenClaim := { program := "ytlkimfmilccanaagreat", sum := "d60e99c53b646ee9ab0d62b924ca5ec354ff3e18c17df01f104e916d93d27a7e", func := "escrow/escrowlaw19.MarkTurns", spec := "markTurns", inPlace := ["internal/abi.NoEscape", "internal/bytealg.MakeNoZero"], unfollowed := true, recurses := true, apart := false }
def MarkTurnsSaid : Prop := markTurnsRow.holds Tryz.pinned (OpenSpec.ofChange markTurnsSpec)

/-- ITS FALSE NEIGHBOUR: 'it returns false'. Refute it at one input. -/
def markTurnsWrong : ChangeSpec := { name := "markTurns", fn := fun _ => fun
  | [d1, d2] => { results := [.lit (.bool false)], args := [d1, d2] }
  | _ => none }
def MarkTurnsWrongFalsely : Prop := markTurnsRow.holds Tryz.pinned (OpenSpec.ofChange markTurnsWrong)

/-- 'escrowlaw19.MarkTorn': WHATEVER THE INPUT: true; the input reads as it did. -/
def markTornSpec : ChangeSpec := { name := "markTorn", fn := fun _ => fun
  | [d1, d2, d3, d4, d5] => { results := [.lit (.bool true)], args := [d1, d2, d3, d4, d5] }
  | _ => none }
def markTornRow : OpenClaim := { program := "ytlkimfmilccanaagreat", sum := "d60e99c53b646ee9ab0d62b924ca5ec354ff3e18c17df01f104e916d93d27a7e", func := "escrow/escrowlaw19.MarkTorn", spec := "markTorn", inPlace := ["internal/abi.NoEscape", "internal/bytealg.MakeNoZero"], unfollowed := true, recurses := true, apart := false }
def MarkTornSaid : Prop := markTornRow.holds Tryz.pinned (OpenSpec.ofChange markTornSpec)

/-- ITS FALSE NEIGHBOUR: 'it returns false'. Refute it at one input. -/
def markTornWrong : ChangeSpec := { name := "markTorn", fn := fun _ => fun
  | [d1, d2, d3, d4, d5] => { results := [.lit (.bool false)], args := [d1, d2, d3, d4, d5] }
  | _ => none }
def MarkTornWrongFalsely : Prop := markTornRow.holds Tryz.pinned (OpenSpec.ofChange markTornWrong)

/-- 'escrowlaw19.MarkSafe': WHATEVER THE INPUT: true; the input reads as it did. -/
def markSafeSpec : ChangeSpec := { name := "markSafe", fn := fun _ => fun
  | [d] => { results := [.lit (.bool true)], args := [d] }
  | _ => none }
def markSafeRow : OpenClaim := { program := "ytlkimfmilccanaagreat", sum := "d60e99c53b646ee9ab0d62b924ca5ec354ff3e18c17df01f104e916d93d27a7e", func := "escrow/escrowlaw19.MarkSafe", spec := "markSafe", inPlace := ["internal/abi.NoEscape", "internal/bytealg.MakeNoZero"], recurses := true, apart := false }
def MarkSafeSaid : Prop := markSafeRow.holds Tryz.pinned (OpenSpec.ofChange markSafeSpec)

/-- ITS FALSE NEIGHBOUR: 'it returns false'. Refute it at one input. -/
def markSafeWrong : ChangeSpec := { name := "markSafe", fn := fun _ => fun
  | [d] => { results := [.lit (.bool false)], args := [d] }
  | _ => none }
def MarkSafeWrongFalsely : Prop := markSafeRow.holds Tryz.pinned (OpenSpec.ofChange markSafeWrong)

/-- 'escrowlaw19.MarkPlays': WHATEVER THE INPUT: true; the input reads as it did. -/
def markPlaysSpec : ChangeSpec := { name := "markPlays", fn := fun _ => fun
  | [d1, d2] => { results := [.lit (.bool true)], args := [d1, d2] }
  | _ => none }
def markPlaysRow : OpenClaim := { program := "ytlkimfmilccanaagreat", sum := "d60e99c53b646ee9ab0d62b924ca5ec354ff3e18c17df01f104e916d93d27a7e", func := "escrow/escrowlaw19.MarkPlays", spec := "markPlays", inPlace := ["internal/abi.NoEscape", "internal/bytealg.MakeNoZero"], recurses := true, apart := false }
def MarkPlaysSaid : Prop := markPlaysRow.holds Tryz.pinned (OpenSpec.ofChange markPlaysSpec)

/-- ITS FALSE NEIGHBOUR: 'it returns false'. Refute it at one input. -/
def markPlaysWrong : ChangeSpec := { name := "markPlays", fn := fun _ => fun
  | [d1, d2] => { results := [.lit (.bool false)], args := [d1, d2] }
  | _ => none }
def MarkPlaysWrongFalsely : Prop := markPlaysRow.holds Tryz.pinned (OpenSpec.ofChange markPlaysWrong)

/- THE SECOND FORM. 'bulk': how many values and letters a reading holds, each counted each time it is reached (what is shared counts as often as it is met; a slice's spare places count too). A statement '..UptoSaid' is the law's where the arguments, and the package variables that the reading takes, are together of bulk at most 1048576: NARROWER than '..Said'. Prove '..Said' where nothing that the law and all that it calls make is longer than what came in: it says more and counts as full. Else prove '..UptoSaid'. A law counts once. -/
mutual
def uptoBulk {H : Type} : DataW H → Nat
  | .lit (.string bytes) => bytes.length + 1
  | .lit _ => 1
  | .nil => 1
  | .ptr d => uptoBulk d + 1
  | .slice elems spare => uptoBulkAll elems + uptoBulkAll spare + 1
  | .agg parts => uptoBulkAll parts + 1
  | .iface _ d => uptoBulk d + 1
  | .map entries => uptoBulkEntries entries + 1
  | .held _ => 1
def uptoBulkAll {H : Type} : List (DataW H) → Nat
  | [] => 0
  | d :: r => uptoBulk d + uptoBulkAll r
def uptoBulkEntries {H : Type} : List (Lit × DataW H) → Nat
  | [] => 0
  | x :: r => uptoBulkEntry x + uptoBulkEntries r
def uptoBulkEntry {H : Type} : Lit × DataW H → Nat
  | (.string bytes, d) => bytes.length + uptoBulk d + 1
  | (_, d) => uptoBulk d + 1
 end
def uptoSmall : (H : Type) → List (DataW H) → Bool := fun _ ds => decide (uptoBulkAll ds ≤ 1048576)
def OpenSpec.upto (s : _root_.Go.ChangeSpec) : _root_.Go.OpenSpec := { _root_.Go.OpenSpec.ofChange s with cond := some uptoSmall }

/-- 'escrowlaw19.MarkTurns', WHERE WHAT IT READS IS OF BULK AT MOST 1048576: true; the input reads as it did. -/
def markTurnsUptoRow : OpenClaim := { program := "ytlkimfmilccanaagreat", sum := "d60e99c53b646ee9ab0d62b924ca5ec354ff3e18c17df01f104e916d93d27a7e", func := "escrow/escrowlaw19.MarkTurns", spec := "markTurns", inPlace := ["internal/abi.NoEscape", "internal/bytealg.MakeNoZero"], unfollowed := true, recurses := true, apart := false, narrowed := true }
def MarkTurnsUptoSaid : Prop := markTurnsUptoRow.holds Tryz.pinned (OpenSpec.upto markTurnsSpec)

/-- 'escrowlaw19.MarkTorn', WHERE WHAT IT READS IS OF BULK AT MOST 1048576: true; the input reads as it did. -/
def markTornUptoRow : OpenClaim := { program := "ytlkimfmilccanaagreat", sum := "d60e99c53b646ee9ab0d62b924ca5ec354ff3e18c17df01f104e916d93d27a7e", func := "escrow/escrowlaw19.MarkTorn", spec := "markTorn", inPlace := ["internal/abi.NoEscape", "internal/bytealg.MakeNoZero"], unfollowed := true, recurses := true, apart := false, narrowed := true }
def MarkTornUptoSaid : Prop := markTornUptoRow.holds Tryz.pinned (OpenSpec.upto markTornSpec)

/-- 'escrowlaw19.MarkSafe', WHERE WHAT IT READS IS OF BULK AT MOST 1048576: true; the input reads as it did. -/
def markSafeUptoRow : OpenClaim := { program := "ytlkimfmilccanaagreat", sum := "d60e99c53b646ee9ab0d62b924ca5ec354ff3e18c17df01f104e916d93d27a7e", func := "escrow/escrowlaw19.MarkSafe", spec := "markSafe", inPlace := ["internal/abi.NoEscape", "internal/bytealg.MakeNoZero"], recurses := true, apart := false, narrowed := true }
def MarkSafeUptoSaid : Prop := markSafeUptoRow.holds Tryz.pinned (OpenSpec.upto markSafeSpec)

/-- 'escrowlaw19.MarkPlays', WHERE WHAT IT READS IS OF BULK AT MOST 1048576: true; the input reads as it did. -/
def markPlaysUptoRow : OpenClaim := { program := "ytlkimfmilccanaagreat", sum := "d60e99c53b646ee9ab0d62b924ca5ec354ff3e18c17df01f104e916d93d27a7e", func := "escrow/escrowlaw19.MarkPlays", spec := "markPlays", inPlace := ["internal/abi.NoEscape", "internal/bytealg.MakeNoZero"], recurses := true, apart := false, narrowed := true }
def MarkPlaysUptoSaid : Prop := markPlaysUptoRow.holds Tryz.pinned (OpenSpec.upto markPlaysSpec)

end Rows
end Go.Proofs.YtlkimfmilccanaaGreat
