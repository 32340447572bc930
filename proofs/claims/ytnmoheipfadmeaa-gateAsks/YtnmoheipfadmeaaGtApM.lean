/-
  GateApart: mathematics (printed by gen_g2.py).
-/
import Derived.Test.YtnmoheipfadmeaaGtFirst
import Derived.Deep.CutRange
namespace Go.Proofs.Ytnmoheipfadmeaa
open Go.RowKit S
set_option linter.unusedVariables false
set_option linter.unusedSimpArgs false
theorem ap1 {g : Gt} {a : Int} (b : Int) (h : g.broad a = true) : a = g.loc ∧ g.send a = false ∧ (g.send b = true → b < a) := by
  simp only [Gt.broad, Bool.and_eq_true, beq_iff_eq, decide_eq_true_eq] at h
  refine ⟨h.1, ?_, fun k => ?_⟩
  · unfold Gt.send
    rw [show decide (a ≤ g.mark) = false from decide_eq_false (by omega)]
    simp
  · simp only [Gt.send, Bool.and_eq_true, decide_eq_true_eq] at k
    omega
theorem ap2 {g h : Gt} (a b : Int) (hm : g.mark ≤ h.mark) (h1 : h.loc = g.loc) (h2 : h.fail = g.fail) (h3 : h.closed = g.closed) : (h.broad a = true → g.broad a = true) ∧ (g.send b = true → h.send b = true) := by
  refine ⟨fun k => ?_, fun k => ?_⟩
  · simp only [Gt.broad, Bool.and_eq_true, decide_eq_true_eq, h1, h2, h3] at k ⊢
    exact ⟨k.1, k.2.1, by omega, k.2.2.2⟩
  · simp only [Gt.send, Gt.still, Bool.and_eq_true, decide_eq_true_eq, h1, h2, h3] at k ⊢
    exact ⟨k.1, k.2.1, by omega, k.2.2.2⟩
theorem ap3 {g : Gt} (h : g.fail = 180) (a b c d : Int) : g.broad a = false ∧ g.send b = false ∧ g.sign a c d = false := by
  refine ⟨?_, ?_, ?_⟩
  · unfold Gt.broad; rw [h]; simp
  · unfold Gt.send Gt.still; rw [h]; simp
  · unfold Gt.sign Gt.still; rw [h]; simp
theorem ap4 {g : Gt} {a : Int} (h : g.closed = a) (ha : a ≠ -1) (b c d : Int) : g.send b = false ∧ g.sign b c d = false ∧ (g.broad b = true → a = b) := by
  have hs : g.still = false := by unfold Gt.still; rw [h]; simp [ha]
  refine ⟨?_, ?_, fun k => ?_⟩
  · unfold Gt.send; rw [hs]; simp
  · unfold Gt.sign; rw [hs]; simp
  · simp only [Gt.broad, Bool.and_eq_true, Bool.or_eq_true, beq_iff_eq, h] at k
    rcases k.2.2.2.2 with k | k
    · exact absurd k ha
    · exact k
def St.setF (s : St) (x : Int) : St := {s with fail := x}
def St.setC (s : St) (x : Int) : St := {s with closed := x}
theorem St.fail_set (s : St) (x : Int) (i : Nat) (hi : i < 115) : upd s.v 113 (.int .i64 x) i = (s.setF x).v i := by
  unfold upd St.v St.setF
  by_cases h : i = 113
  · subst h; rfl
  · rw [if_neg h]
    by_cases k : i < 113
    · by_cases k2 : i < 112
      · simp only [show i < 113 from k]
        repeat' split
        all_goals first | rfl | omega
      · have : i = 112 := by omega
        subst this; rfl
    · have : i = 114 := by omega
      subst this; rfl
theorem St.closed_set (s : St) (x : Int) (i : Nat) (hi : i < 115) : upd s.v 114 (.int .i64 x) i = (s.setC x).v i := by
  unfold upd St.v St.setC
  by_cases h : i = 114
  · subst h; rfl
  · rw [if_neg h]
    by_cases k2 : i < 113
    · have k : i < 114 := by omega
      simp only [k]
      repeat' split
      all_goals first | rfl | omega
    · have : i = 113 := by omega
      subst this; rfl
theorem copySt (w : World) (s : St) : ∃ V1 V2, w.alloc (.cells (tabv zS.v 115) 30) = V1 ∧ Has V1 w.heap.size 30 zS.v 115 ∧ V1.setRow w.heap.size (tabv s.v 115) = V2 ∧ Has V2 w.heap.size 30 s.v 115 ∧ Below w.heap.size w V2 := by
  have q1 : Has (w.alloc (.cells (tabv zS.v 115) 30)) w.heap.size 30 zS.v 115 := Has.new w 30 zS.v 115 _ rfl
  have b1 : Below w.heap.size w (w.alloc (.cells (tabv zS.v 115) 30)) := (Below.refl w.heap.size w).alloc (Nat.le_refl _) _
  exact ⟨_, _, rfl, q1, rfl, q1.row _ s.v rfl, below_setRow b1 (Nat.le_refl _) _⟩
theorem setSt {w : World} {b : Nat} {s s' : St} (h : Has w b 30 s.v 115) (k : Nat) (v : Value) (e : ∀ i, i < 115 → upd s.v k v i = s'.v i) : ∃ V, w.setCell ⟨b, k, none⟩ v = V ∧ Has V b 30 s'.v 115 ∧ ∀ B (a : World), B ≤ b → Below B a w → Below B a V :=
  ⟨_, rfl, (h.set k v).congr _ e, fun B a hB ha => ha.setCell (p := ⟨b, k, none⟩) hB v⟩
end Go.Proofs.Ytnmoheipfadmeaa
