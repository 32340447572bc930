/-
  GateOne: mathematics (printed by gen_g2.py).
-/
import Derived.Test.YtnmoheipfadmeaaGtApM
namespace Go.Proofs.Ytnmoheipfadmeaa
open Go.RowKit S
set_option linter.unusedVariables false
set_option linter.unusedSimpArgs false
theorem on1 {g : Gt} {i a b : Int} (h : g.sign i a b = true) : g.fail = 0 ∧ g.closed = -1 ∧ 1 ≤ i ∧ ((i = g.rem ∧ a = g.so ∧ b = g.sp) ∨ (g.rem = g.ack ∧ wrap64 (i - 1) = g.rem ∧ g.so ≤ a ∧ a ≤ (g.ours : Int) ∧ b = g.peers ∧ ¬(a = g.so ∧ b = g.sp))) := by
  simp only [Gt.sign, Gt.still, Gt.again, Gt.anew, Bool.and_eq_true, Bool.or_eq_true, beq_iff_eq, decide_eq_true_eq, Bool.not_eq_true', Bool.and_eq_false_iff, beq_eq_false_iff_ne, Bool.not_eq_true] at h
  refine ⟨h.1.1, h.1.2, h.2.1, ?_⟩
  rcases h.2.2 with ⟨h1, h2, h3⟩ | ⟨h1, h2, h3, h4, h5, h6⟩
  · exact .inl ⟨h1, h2, h3⟩
  · refine .inr ⟨h1, h2, h3, h4, h5, ?_⟩
    rintro ⟨e1, e2⟩
    rcases h6 with h6 | h6
    · exact h6 e1
    · exact h6 e2
theorem wrap_one {i : Int} (h : 1 ≤ i) (h2 : i ≤ 9223372036854775807) : wrap64 (i - 1) = i - 1 := by
  unfold wrap64; omega
theorem on2 {g : Gt} {i a b : Int} (hf : g.fail = 0) (hc : g.closed = -1) (hi : 1 ≤ i) (h1 : g.rem = i) (h2 : g.so = a) (h3 : g.sp = b) : g.sign i a b = true := by
  simp [Gt.sign, Gt.still, Gt.again, hf, hc, hi, h1, h2, h3]
/-- What may be signed behind it. -/
theorem on3 {g : Gt} {i j a b c d : Int} (h1 : g.rem = i) (h2 : g.so = a) (h3 : g.sp = b) (hj : j ≤ 9223372036854775807) (h : g.sign j c d = true) : (j = i ∧ c = a ∧ d = b) ∨ (g.ack = i ∧ i < j) := by
  obtain ⟨_, _, k1, k⟩ := on1 h
  rw [h1, h2, h3] at k
  rcases k with ⟨e1, e2, e3⟩ | ⟨e1, e2, _⟩
  · exact .inl ⟨e1, e2, e3⟩
  · rw [wrap_one k1 hj] at e2
    exact .inr ⟨e1.symm, by omega⟩
end Go.Proofs.Ytnmoheipfadmeaa
