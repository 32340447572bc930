/-
  A world for the rows' witnesses: the two tables laid.
-/
import Derived.Test.YtfacfbmfnpioeaaDoorEOpen
namespace Go.Proofs.YtfacfbmfnpioeaaDoor
open Go.RowKit S
def layCells (cs : Array Value) (o : Obj) : Obj := match o with
  | .cells _ t frozen => .cells cs t frozen
  | o => o
def laidWorldOf (w : World) : World :=
  { w with heap := (w.heap.modify 0 (layCells (tabv (wv num first) 8))).modify 1 (layCells (tabv (wv num K) 64)) }
end Go.Proofs.YtfacfbmfnpioeaaDoor
