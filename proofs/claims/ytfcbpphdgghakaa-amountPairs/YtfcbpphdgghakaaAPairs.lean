/-
  The walk of AmountPairs.
-/
import Derived.Test.YtfcbpphdgghakaaAFirst
namespace Go.Proofs.Ytfcbpphdgghakaa
open Go.RowKit
set_option linter.unusedVariables false
set_option maxRecDepth 100000 in
set_option maxHeartbeats 1000000 in
theorem amountPairs_walk (a b : Int) (w0 : (Lit.int .i64 a).wf = true) (w1 : (Lit.int .i64 b).wf = true) (w : World) :
    Calls Try.prog 5 #[.int .i64 a, .int .i64 b] w fun e w' => e = .returned (.bool true) ∧ Below w.heap.size w w' := by
  go_enter Try.func5, Try.ntmps5
  go_wp2_with fail
  refine (plus_any _ _ _).mono ?_
  rintro e w1 ⟨rfl, rfl⟩
  go_wp2_with fail
  refine (rplus_any _ _ _).mono ?_
  rintro e w1 ⟨rfl, rfl⟩
  generalize (plusA a b).1 = x1
  generalize (plusA a b).2 = x2
  go_wp2_with fail
  refine (minus_any _ _ _).mono ?_
  rintro e w1 ⟨rfl, rfl⟩
  go_wp2_with fail
  refine (rminus_any _ _ _).mono ?_
  rintro e w1 ⟨rfl, rfl⟩
  generalize (minusA a b).1 = y1
  generalize (minusA a b).2 = y2
  go_wp2_with fail
  refine (first_any _).mono ?_
  rintro e w2 ⟨rfl, hb⟩
  go_wp2_with fail
  refine (right_any _ _).mono ?_
  rintro e w3 ⟨rfl, rfl⟩
  go_wp2_with fail
  refine (rright_any _ _).mono ?_
  rintro e w3 ⟨rfl, rfl⟩
  go_wp2
  go_ret
  exact ⟨by simp, hb⟩
end Go.Proofs.Ytfcbpphdgghakaa
