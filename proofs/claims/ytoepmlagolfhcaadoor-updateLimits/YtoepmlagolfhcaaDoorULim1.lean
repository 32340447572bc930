/-
  UpdateLimits: arrays of updates (printed by gen_lim1.py).
-/
import Derived.Test.YtoepmlagolfhcaaDoorUHead
import Derived.Test.YtoepmlagolfhcaaDoorUMath
import Derived.Test.YtoepmlagolfhcaaDoorUBack
import Derived.Laws.MakeOwn
namespace Go.Proofs.YtoepmlagolfhcaaDoor
open Go.RowKit S
set_option linter.unusedVariables false
set_option linter.unusedSimpArgs false
open Cu (nb hl ofL)
def rowN (F : Nat → Upd) : Nat → Value := fun i => (F (i / 36)).v (i % 36)
def six (s0 s1 s2 s3 s4 s5 : Upd) (i : Nat) : Upd := if i = 0 then s0 else if i = 1 then s1 else if i = 2 then s2 else if i = 3 then s3 else if i = 4 then s4 else s5
def twelve (s0 s1 s2 s3 s4 s5 s6 s7 s8 s9 s10 s11 : Upd) (i : Nat) : Upd := if i = 0 then s0 else if i = 1 then s1 else if i = 2 then s2 else if i = 3 then s3 else if i = 4 then s4 else if i = 5 then s5 else if i = 6 then s6 else if i = 7 then s7 else if i = 8 then s8 else if i = 9 then s9 else if i = 10 then s10 else s11
set_option maxRecDepth 100000 in
theorem built6 (s0 s1 s2 s3 s4 s5 : Upd) : Tryd.prog.built 27 [(0, .agg (tabv s0.v 36)), (1, .agg (tabv s1.v 36)), (2, .agg (tabv s2.v 36)), (3, .agg (tabv s3.v 36)), (4, .agg (tabv s4.v 36)), (5, .agg (tabv s5.v 36))] = some (tabv (rowN (six s0 s1 s2 s3 s4 s5)) 216) := by kernel_rfl
set_option maxRecDepth 100000 in
theorem built12 (s0 s1 s2 s3 s4 s5 s6 s7 s8 s9 s10 s11 : Upd) : Tryd.prog.built 33 [(0, .agg (tabv s0.v 36)), (1, .agg (tabv s1.v 36)), (2, .agg (tabv s2.v 36)), (3, .agg (tabv s3.v 36)), (4, .agg (tabv s4.v 36)), (5, .agg (tabv s5.v 36)), (6, .agg (tabv s6.v 36)), (7, .agg (tabv s7.v 36)), (8, .agg (tabv s8.v 36)), (9, .agg (tabv s9.v 36)), (10, .agg (tabv s10.v 36)), (11, .agg (tabv s11.v 36))] = some (tabv (rowN (twelve s0 s1 s2 s3 s4 s5 s6 s7 s8 s9 s10 s11)) 432) := by kernel_rfl
theorem info6z : (Tryd.prog.info? 27).map (fun i => (i.zero, i.size)) = some (some (.agg (tabv (rowN fun _ => Upd.zero) 216)), 216) := by kernel_rfl
theorem info12z : (Tryd.prog.info? 33).map (fun i => (i.zero, i.size)) = some (some (.agg (tabv (rowN fun _ => Upd.zero) 432)), 432) := by kernel_rfl
theorem row_at {w : World} {g n : Nat} {t : TypeId} {F : Nat → Upd} (h : Has w g t (rowN F) (n * 36)) (k : Nat) (hk : k < n) : At w g (k * 36) (F k).v 36 := fun j hj => by
  rw [h.cell (k * 36 + j) (by omega)]
  unfold rowN
  rw [show (k * 36 + j) / 36 = k by omega, show (k * 36 + j) % 36 = j by omega]
theorem run_alloc_z (T : TypeId) (f : Nat → Value) (m : Nat) (hi : (Tryd.prog.info? T).map (fun i => (i.zero, i.size)) = some (some (.agg (tabv f m)), m)) {o : Oper} {a : Act} (w : World) (ho : o.op = .alloc T) : (execOp a.eval o).run Tryd.prog w = .ok (.value (.pointer (some ⟨w.heap.size, 0, none⟩))) (w.alloc (.cells (tabv f m) T)) := by
  cases hq : Tryd.prog.info? T with
  | none => simp [hq] at hi
  | some i =>
    simp [hq] at hi
    unfold execOp
    simp [ho, hq, hi, Instr.alloc, zeroValue, typeInfo, Value.cells, newVar, newRow, Result.andThen]
section
variable {ops : Array Oper} {rest : List Oper} {o : Oper} {a : Act} {w : World} {Q : Exit → Act → World → Prop}
theorem wpList_alloc_z (hgd : o.guard = none) (T : TypeId) (f : Nat → Value) (m : Nat) (hi : (Tryd.prog.info? T).map (fun i => (i.zero, i.size)) = some (some (.agg (tabv f m)), m)) (ho : o.op = .alloc T) (hk : wpList Tryd.prog ops Q rest (a.put o.dst (.pointer (some ⟨w.heap.size, 0, none⟩))) (w.alloc (.cells (tabv f m) T))) : wpList Tryd.prog ops Q (o :: rest) a w :=
  wpList_plain hgd fun K hK => wpRun (run_alloc_z T f m hi w ho) (hK _ _ hk)
end
theorem run_buildG {o : Oper} {a : Act} (w : World) (T : TypeId) (ps : Array (Nat × Operand)) (ho : o.op = .build T ps) (vals : List (Nat × Value)) (he : (ps.map fun (i, y) => (i, a.eval y)).toList = vals) (cs : Array Value) (hb : Tryd.prog.built T vals = some cs) : (execOp a.eval o).run Tryd.prog w = .ok (.value (.agg cs)) w := by
  unfold execOp
  simp only [ho, Sem.run_bind, run_build w T _ _ (by rw [he]; exact hb), Result.andThen_ok, Sem.run_pure]
theorem rowN_one (F : Nat → Upd) (i : Nat) : (rowN F i).oneCell' = true := oneV _ _
theorem info6s : (Tryd.prog.info? 27).map (·.size) = some 216 := by kernel_rfl
theorem info12s : (Tryd.prog.info? 33).map (·.size) = some 432 := by kernel_rfl
end Go.Proofs.YtoepmlagolfhcaaDoor
