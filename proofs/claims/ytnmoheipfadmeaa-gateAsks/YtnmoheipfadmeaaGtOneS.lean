/-
  GateOne (printed by gen_g2.py).
-/
import Derived.Test.YtnmoheipfadmeaaGtOneM
namespace Go.Proofs.Ytnmoheipfadmeaa
open Go.RowKit S
set_option linter.unusedVariables false
set_option linter.unusedSimpArgs false
theorem St.rem_set (s : St) (x : Int) (i : Nat) (hi : i < 115) : upd s.v 7 (.int .i64 x) i = ({s with rem := x} : St).v i := by
  unfold upd
  by_cases h : i = 7
  · subst h; rfl
  · rw [if_neg h]; unfold St.v
    by_cases k : i < 7
    · have : i = 0 ∨ i = 1 ∨ i = 2 ∨ i = 3 ∨ i = 4 ∨ i = 5 ∨ i = 6 := by omega
      rcases this with rfl | rfl | rfl | rfl | rfl | rfl | rfl
      all_goals rfl
    · by_cases k2 : i < 8
      · omega
      · simp only [show ¬ i < 1 by omega, show ¬ i < 2 by omega, show ¬ i < 3 by omega, show ¬ i < 4 by omega, show ¬ i < 5 by omega, show ¬ i < 6 by omega, show ¬ i < 7 by omega, k2, if_false]
def St.sgn (s : St) (x a b : Int) : St := {s with rem := x, so := a, sp := b}
theorem St.so_set (s : St) (x : Int) (i : Nat) (hi : i < 115) : upd s.v 11 (.int .i64 x) i = ({s with so := x} : St).v i := by
  unfold upd
  by_cases h : i = 11
  · subst h; rfl
  · rw [if_neg h]; unfold St.v
    by_cases k : i < 11
    · have : i = 0 ∨ i = 1 ∨ i = 2 ∨ i = 3 ∨ i = 4 ∨ i = 5 ∨ i = 6 ∨ i = 7 ∨ i = 8 ∨ i = 9 ∨ i = 10 := by omega
      rcases this with rfl | rfl | rfl | rfl | rfl | rfl | rfl | rfl | rfl | rfl | rfl
      all_goals rfl
    · simp only [show ¬ i < 1 by omega, show ¬ i < 2 by omega, show ¬ i < 3 by omega, show ¬ i < 4 by omega, show ¬ i < 5 by omega, show ¬ i < 6 by omega, show ¬ i < 7 by omega, show ¬ i < 8 by omega, show ¬ i < 9 by omega, show ¬ i < 10 by omega, show ¬ i < 11 by omega, show ¬ i < 12 by omega, if_false]
theorem St.sp_set (s : St) (x : Int) (i : Nat) (hi : i < 115) : upd s.v 12 (.int .i64 x) i = ({s with sp := x} : St).v i := by
  unfold upd
  by_cases h : i = 12
  · subst h; rfl
  · rw [if_neg h]; unfold St.v
    by_cases k : i < 12
    · have : i = 0 ∨ i = 1 ∨ i = 2 ∨ i = 3 ∨ i = 4 ∨ i = 5 ∨ i = 6 ∨ i = 7 ∨ i = 8 ∨ i = 9 ∨ i = 10 ∨ i = 11 := by omega
      rcases this with rfl | rfl | rfl | rfl | rfl | rfl | rfl | rfl | rfl | rfl | rfl | rfl
      all_goals rfl
    · simp only [show ¬ i < 1 by omega, show ¬ i < 2 by omega, show ¬ i < 3 by omega, show ¬ i < 4 by omega, show ¬ i < 5 by omega, show ¬ i < 6 by omega, show ¬ i < 7 by omega, show ¬ i < 8 by omega, show ¬ i < 9 by omega, show ¬ i < 10 by omega, show ¬ i < 11 by omega, show ¬ i < 12 by omega, show ¬ i < 13 by omega, if_false]
theorem signSt {w : World} {b : Nat} {s : St} (h : Has w b 30 s.v 115) (x a c : Int) : ∃ V1 V2, w.setCell ⟨b, 7, none⟩ (.int .i64 x) = V1 ∧ Has V1 b 30 ({s with rem := x} : St).v 115 ∧ (V1.setCell ⟨b, 11, none⟩ (.int .i64 a)).setCell ⟨b, 12, none⟩ (.int .i64 c) = V2 ∧ Has V2 b 30 (s.sgn x a c).v 115 ∧ ∀ B (y : World), B ≤ b → Below B y w → Below B y V2 := by
  have h1 := (h.set 7 (.int .i64 x)).congr _ (St.rem_set s x)
  have h2 := (h1.set 11 (.int .i64 a)).congr _ (St.so_set _ a)
  have h3 := (h2.set 12 (.int .i64 c)).congr _ (St.sp_set _ c)
  exact ⟨_, _, rfl, h1, rfl, h3, fun B y hB hy => ((hy.setCell (p := ⟨b, 7, none⟩) hB _).setCell (p := ⟨b, 11, none⟩) hB _).setCell (p := ⟨b, 12, none⟩) hB _⟩
/-- Counts in a block. -/
theorem ct_cell {w : World} {b : Nat} {x y : Int} (h : w.heap[b]? = some (.cells #[.int .i64 x, .int .i64 y] 24 (0, 0))) : w.cell? ⟨b, 0, none⟩ = some (.int .i64 x) ∧ w.cell? ⟨b, 1, none⟩ = some (.int .i64 y) := by
  refine ⟨?_, ?_⟩
  · rw [cell_of_row _ _ 0 _ _ (0, 0) h]; rfl
  · rw [cell_of_row _ _ 1 _ _ (0, 0) h]; rfl
def Ctv (x y : Int) : Nat → Value := fun i => if i < 1 then .int .i64 x else .int .i64 y
theorem ctTab (x y : Int) : (#[.int .i64 x, .int .i64 y] : Array Value) = tabv (Ctv x y) 2 := rfl
end Go.Proofs.Ytnmoheipfadmeaa
