/-
  GateAsks over what an argument holds.
-/
import Derived.Test.YtnmoheipfadmeaaGtAsks
import Derived.Test.YtnmoheipfadmeaaGtOpen
namespace Go.Proofs.Ytnmoheipfadmeaa
open Go.RowKit S
set_option linter.unusedVariables false
theorem asks_row (mk : Int) (s : St) (i na nb : Int) (w : World) {us lp : List Upd} {ls : List Slot} (h : StAt w s us lp ls) : Calls Try.prog 5 #[.int .i64 mk, .agg (tabv s.v 115), .int .i64 i, .agg #[.int .i64 na, .int .i64 nb]] w fun e w' => e = .returned (.bool true) ∧ Below w.heap.size w w' :=
  asks_walk mk s i na nb us w h.o h.no (by have := h.zo; omega)
end Go.Proofs.Ytnmoheipfadmeaa
