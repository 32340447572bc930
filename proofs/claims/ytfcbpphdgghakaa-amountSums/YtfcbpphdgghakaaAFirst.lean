/-
  first: some answers that the document fixes.
-/
import Derived.Test.YtfcbpphdgghakaaASum
namespace Go.Proofs.Ytfcbpphdgghakaa
open Go.RowKit
set_option linter.unusedVariables false
theorem alloc_new (w : World) (o : Obj) : (w.alloc o).heap[w.heap.size]? = some o := Array.getElem?_push_size
theorem alloc_size (w : World) (o : Obj) : w.heap.size < (w.alloc o).heap.size := by show _ < (w.heap.push o).size; rw [Array.size_push]; omega
def numV (n : Int) : Value := .int .i64 n
theorem cell_new (w : World) (g i : Nat) (cs : Array Value) (t : TypeId) (fr : Nat × Nat) (h : w.heap[g]? = some (.cells cs t fr)) : w.cell? ⟨g, i, none⟩ = cs[i]? := by
  unfold World.cell?; simp [h]
theorem addr_add0 (g i : Nat) : (⟨g, 0, none⟩ : Addr).add i = ⟨g, i, none⟩ := by unfold Addr.add; split <;> simp_all
theorem row_new (w : World) (zs : List Int) : RowI (w.alloc (.cells (zs.map numV).toArray 2)) (some ⟨w.heap.size, 0, none⟩) zs := by
  refine .inr ⟨_, rfl, alloc_size w _, fun i hi => ?_⟩
  rw [addr_add0, cell_new _ _ _ _ _ _ (alloc_new w _)]
  simp [hi, numV]
set_option maxRecDepth 100000 in
set_option maxHeartbeats 1000000 in
theorem first_any (w : World) :
    Calls Try.prog 7 #[] w fun e w' => e = .returned (.bool true) ∧ Below w.heap.size w w' := by
  go_enter Try.func7, Try.ntmps7
  go_wp2_with fail
  refine (plus_any _ _ _).mono ?_
  rintro e w1 ⟨rfl, rfl⟩
  rw [show plusA 1 2 = (3, 0) from by decide +kernel]
  go_wp2_with fail
  refine (plus_any _ _ _).mono ?_
  rintro e w1 ⟨rfl, rfl⟩
  rw [show plusA 1152921504606846976 1 = (0, 80) from by decide +kernel]
  go_wp2_with fail
  refine (minus_any _ _ _).mono ?_
  rintro e w1 ⟨rfl, rfl⟩
  rw [show minusA 5 3 = (2, 0) from by decide +kernel]
  go_wp2_with fail
  refine (sum_any _ (some ⟨w1.heap.size, 0, none⟩) 3 [1, 2, 3] (row_new w1 [1, 2, 3]) (by decide)).mono ?_
  rintro e w2 ⟨rfl, rfl⟩
  rw [show sumA [1, 2, 3] = (6, 0) from by decide +kernel]
  go_wp2_with fail
  refine (right_any _ _).mono ?_
  rintro e w2 ⟨rfl, rfl⟩
  rw [show isA 0 = true from by decide +kernel]
  go_wp2_with fail
  refine (right_any _ _).mono ?_
  rintro e w2 ⟨rfl, rfl⟩
  rw [show isA (-1) = false from by decide +kernel]
  go_wp2
  go_ret
  exact ⟨by simp, Below.alloc (Below.refl _ _) (Nat.le_refl _) _⟩
end Go.Proofs.Ytfcbpphdgghakaa
