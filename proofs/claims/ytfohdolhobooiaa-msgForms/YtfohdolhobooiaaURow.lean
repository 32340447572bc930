/-
  Rows of updates, grown by append; literals.
-/
import Derived.Test.YtfohdolhobooiaaURead
import Derived.Laws.AppendOwn
namespace Go.Proofs.Ytfohdolhobooiaa
open Go.RowKit S
set_option linter.unusedVariables false
set_option linter.unusedSimpArgs false
-- left out in this seat: run_sliceU
-- left out in this seat: run_appU
theorem grown_all {w w' : World} {o : Obj} {r : Option Nat} {B : Nat} (h : (w.alloc o).grownBy w' r) (hr : ∀ k, r = some k → B ≤ k) (hB : B ≤ w.heap.size) : (∀ g, g < w.heap.size → r ≠ some g → w'.heap[g]? = w.heap[g]?) ∧ Below B w w' := by
  have h1 : ∀ g, g < w.heap.size → r ≠ some g → w'.heap[g]? = w.heap[g]? := fun g hg hne => by
    rw [h.block g (by rw [size_alloc]; omega) (fun e => hne e.symm)]
    exact heap_alloc_old w o hg
  refine ⟨h1, ⟨h.os, h.tape, h.output, Nat.le_trans (by rw [size_alloc]; omega) h.size, fun k hk => h1 k (by omega) (fun e => by have := hr k e; omega)⟩⟩
-- left out in this seat: appU_step
theorem wpRun {P : Program} {o : Oper} {a : Act} {w w' : World} {next : Act → World → Prop} {Q : Exit → Act → World → Prop} {v : Value} (h : (execOp a.eval o).run P w = .ok (.value v) w') (k : next (a.put o.dst v) w') : Oper.wp P o a w next Q := by
  unfold Oper.wp; rw [h]; exact k
theorem wpList_app {P : Program} {ops : Array Oper} {rest : List Oper} {o : Oper} {a : Act} {w w' : World} {Q : Exit → Act → World → Prop} {v : Value} (hg : o.guard = none) (s x : Operand) (tys : Array TypeId) (ho : o.op = .call { callee := .builtin .append, args := #[s, x], argTypes := tys }) (h : (Builtin.append_ tys o.type #[a.eval s, a.eval x]).run P w = .ok v w') (k : wpList P ops Q rest (a.put o.dst v) w') : wpList P ops Q (o :: rest) a w :=
  wpList_plain hg fun K hK => wpRun (by simp [execOp, ho, resolve, invoke, builtin, h, Result.andThen]) (hK _ _ k)
theorem wpList_slice1 {P : Program} {ops : Array Oper} {rest : List Oper} {o : Oper} {a : Act} {w w' : World} {Q : Exit → Act → World → Prop} {v : Value} (hg : o.guard = none) (T : TypeId) (x : Operand) (ho : o.op = .buildSlice T 1 #[(0, x)]) (y : Value) (hy : a.eval x = y) (h : (Instr.buildSlice T 1 #[(0, y)]).run P w = .ok v w') (k : wpList P ops Q rest (a.put o.dst v) w') : wpList P ops Q (o :: rest) a w :=
  wpList_plain hg fun K hK => wpRun (by simp [execOp, ho, hy, h, Result.andThen]) (hK _ _ k)
-- left out in this seat: run_app_all
theorem upds_one (w : World) (s : Upd) : Upds (w.alloc (.cells (tabv s.v 36) 34)) (some ⟨w.heap.size, 0, none⟩) [s] := .inr ⟨w.heap.size, 0, rfl, by simp, fun i u hu => by
  have hi : i = 0 := by have := (List.getElem?_eq_some_iff.1 hu).1; simp at this; exact this
  subst hi
  simp only [List.getElem?_cons_zero, Option.some.injEq] at hu
  subst hu
  have h := Has.new w 34 s.v 36 _ rfl
  intro j hj
  rw [show 0 + 0 * 36 + j = j by omega]
  exact h.cell j hj⟩
section
variable {ops : Array Oper} {rest : List Oper} {o : Oper} {a : Act} {w w' : World} {Q : Exit → Act → World → Prop}
theorem wpW_slice1 {P : Program} {v : Value} (hw : Region.wanted o (yielded ops a.tmps) = true) (T : TypeId) (x : Operand) (ho : o.op = .buildSlice T 1 #[(0, x)]) (y : Value) (hy : a.eval x = y) (h : (Instr.buildSlice T 1 #[(0, y)]).run P w = .ok v w') (k : wpList P ops Q rest (a.put o.dst v) w') : wpList P ops Q (o :: rest) a w := by
  refine wpList_step fun K hK => ?_
  rw [if_pos hw]
  exact wpRun (by simp [execOp, ho, hy, h, Result.andThen]) (hK _ _ k)
theorem wpW_build (hw : Region.wanted o (yielded ops a.tmps) = true) (T : TypeId) (ps : Array (Nat × Operand)) (ho : o.op = .build T ps) (vals : List (Nat × Value)) (he : (ps.map fun (i, y) => (i, a.eval y)).toList = vals) (cs : Array Value) (hb : Try.prog.built T vals = some cs)
    (hk : wpList Try.prog ops Q rest (a.put o.dst (.agg cs)) w) : wpList Try.prog ops Q (o :: rest) a w := by
  refine wpList_step fun K hK => ?_
  rw [if_pos hw]
  refine wp_build _ _ ho (by rw [he, hb]; rfl) ?_
  rw [he, hb]
  exact hK _ _ hk
end
end Go.Proofs.Ytfohdolhobooiaa
