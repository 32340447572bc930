/-
  What a law's arguments are: numbers within their kinds.
-/
import Derived.Test.YtjlbglinkacdiaaFirst
namespace Go.Proofs.Ytjlbglinkacdiaa
open Go.RowKit C
/-- The numbers as they are. -/
def num : Num := ⟨fun b => (b.toNat : Int), fun _ => rfl⟩
theorem u32_range (a : Int) (h : (Lit.int .u32 a).wf = true) : 0 ≤ a ∧ a < 4294967296 := by
  have : 0 ≤ a ∧ a ≤ 4294967295 := by simpa [Lit.wf, IntKind.min, IntKind.max, IntKind.signed, IntKind.bits] using h
  omega
theorem i64_range (a : Int) (h : (Lit.int .i64 a).wf = true) : -9223372036854775808 ≤ a ∧ a ≤ 9223372036854775807 := by
  simpa [Lit.wf, IntKind.min, IntKind.max, IntKind.signed, IntKind.bits] using h
end Go.Proofs.Ytjlbglinkacdiaa
