/-
  CommitBack's walk in the row's order of arguments.
-/
import Derived.Test.YthcaokiboimibaaCBack
namespace Go.Proofs.Ythcaokiboimibaa
open Go.RowKit S
set_option linter.unusedVariables false
theorem back_row (oo nn : Int) (h : Nat → UInt8) (x1 y1 : Int) (a1 : Option Addr) (n1 c1 : Nat) (l1 : List Pen) (hn1 : l1.length = n1) (hz1 : n1 * 56 ≤ 140737488351232) (_ : n1 ≤ c1) (x2 y2 : Int) (a2 : Option Addr) (n2 c2 : Nat) (l2 : List Pen) (hn2 : l2.length = n2) (hz2 : n2 * 56 ≤ 140737488351232) (_ : n2 ≤ c2) (tl : ByteArray) (_ : tl.size ≤ 140737488351232) (W : World) (hS1 : Pens W a1 l1) (hS2 : Pens W a2 l2) : Calls Try.prog 3 #[.int .i64 oo, .int .i64 nn, .agg (tabv (bv h) 32), .agg (tabv (ledv x1 y1 (.slice a1 n1 c1)) 3), .agg (tabv (ledv x2 y2 (.slice a2 n2 c2)) 3), .string tl] W fun e w' => e = .returned (.bool true) ∧ Below W.heap.size W w' :=
  back_walk oo nn h x1 y1 a1 n1 c1 l1 hn1 (by omega) x2 y2 a2 n2 c2 l2 hn2 (by omega) tl W hS1 hS2
end Go.Proofs.Ythcaokiboimibaa
