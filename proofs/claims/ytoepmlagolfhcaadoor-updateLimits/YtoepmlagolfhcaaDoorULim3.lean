/-
  A list of 2047 updates that is made at once, as a letter.
-/
import Derived.Test.YtoepmlagolfhcaaDoorULim2
namespace Go.Proofs.YtoepmlagolfhcaaDoor
open Go.RowKit S
set_option linter.unusedVariables false
set_option linter.unusedSimpArgs false
theorem make_letter (w : World) (h : Nat → UInt8) : ∃ (wF : World) (l : List Upd), (Instr.makeSlice 35 (.int .i64 2047) (.int .i64 2047)).run Tryd.prog w = .ok (.slice (some ⟨w.heap.size, 0, none⟩) 2047 2047) wF ∧ OwnU w.heap.size wF (.slice (some ⟨w.heap.size, 0, none⟩) 2047 2047) l ∧ l.length = 2047 ∧ nextA l [] ⟨1, 0, 1, h, nilB⟩ = 0 ∧ Below w.heap.size w wF := by
  refine ⟨_, zeros2047, run_make2047 w, ?_, zeros_len, next_zeros h, (Below.refl _ _).alloc (Nat.le_refl _) _⟩
  exact own_row (n := 2047) (Has.new w 26 _ 73692 _ rfl) (Nat.le_refl _) (by unfold maxLen; omega)
end Go.Proofs.YtoepmlagolfhcaaDoor
