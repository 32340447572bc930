/-
  LedgerFolds' walk in the row's order of arguments.
-/
import Derived.Test.YtoomcpehdflolaaGFolds
namespace Go.Proofs.Ytoomcpehdflolaa
open Go.RowKit S
set_option linter.unusedVariables false
theorem folds_row (a : Int) (_ : -9223372036854775808 ≤ a ∧ a ≤ 9223372036854775807) (b : Int) (_ : -9223372036854775808 ≤ b ∧ b ≤ 9223372036854775807) (a1 : Option Addr) (n1 c1 : Nat) (ours : List Upd) (hn1 : ours.length = n1) (z1 : n1 ≤ 1954687338211) (k1 : n1 ≤ c1) (a2 : Option Addr) (n2 c2 : Nat) (peers : List Upd) (hn2 : peers.length = n2) (z2 : n2 ≤ 1954687338211) (k2 : n2 ≤ c2) (x y : Int) (_ : -9223372036854775808 ≤ x ∧ x ≤ 9223372036854775807) (_ : -9223372036854775808 ≤ y ∧ y ≤ 9223372036854775807) (W : World) (hS1 : Upds W a1 ours) (hS2 : Upds W a2 peers) : Calls Try.prog 7 #[.int .i64 a, .int .i64 b, .slice a1 n1 c1, .slice a2 n2 c2, .agg (tabv (cnv x y) 2)] W fun e w' => e = .returned (.bool true) ∧ Below W.heap.size W w' :=
  folds_walk a b a1 a2 n1 c1 n2 c2 ours peers hn1 hn2 z1 z2 k1 k2 x y W hS1 hS2
end Go.Proofs.Ytoomcpehdflolaa
