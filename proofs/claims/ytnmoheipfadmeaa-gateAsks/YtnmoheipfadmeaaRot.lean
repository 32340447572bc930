/-
  Turned words: rot, bits.RotateLeft32; the document's rot.
-/
import Derived.Test.YtnmoheipfadmeaaBits
namespace Go.Proofs.Ytnmoheipfadmeaa
open Go.RowKit S
theorem and31_all : ∀ k : Fin 32, 0 < k.val → bits .and .u64 (IntKind.u64.wrap (-(k.val : Int))) 31 = ((32 - k.val : Nat) : Int) := by decide +kernel
attribute [local go_sem] Num.shl Num.shr Num.or
-- left out in this seat: rotl_any
-- left out in this seat: rot_any
-- left out in this seat: refRot_any
-- left out in this seat: rot_int
-- left out in this seat: refRot_int
end Go.Proofs.Ytnmoheipfadmeaa
