/-
  The document's Sum of parts.
-/
import Derived.Test.YtoepmlagolfhcaaDoorRefOne
import Derived.Test.YtoepmlagolfhcaaDoorSumText
namespace Go.Proofs.YtoepmlagolfhcaaDoor
open Go.RowKit S
-- left out in this seat: refSum_any
end Go.Proofs.YtoepmlagolfhcaaDoor
