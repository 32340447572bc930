/-
  example, first (printed by gen_g2.py).
-/
import Derived.Test.YtnmoheipfadmeaaGtOf
import Derived.Laws.MakeOwn
namespace Go.Proofs.Ytnmoheipfadmeaa
open Go.RowKit S
set_option linter.unusedVariables false
set_option linter.unusedSimpArgs false
def exS (ad : Option Addr) : St := ⟨0, 0, 0, 0, ⟨ad, 4, 4⟩, ⟨none, 0, 0⟩, 2, 1, 1, 3, 2, 1, 2, 0, 0, false, fun _ => 0, fun _ => 0, fun _ => 0, ⟨none, 0, 0⟩, 0, -1⟩
def zS : St := ⟨0, 0, 0, 0, ⟨none, 0, 0⟩, ⟨none, 0, 0⟩, 0, 0, 0, 0, 0, 0, 0, 0, 0, false, fun _ => 0, fun _ => 0, fun _ => 0, ⟨none, 0, 0⟩, 0, 0⟩
theorem builtEx (ad : Option Addr) : Try.prog.built 30 [(6, .int .i64 2), (7, .int .i64 1), (8, .int .i64 1), (9, .agg #[.int .i64 3, .int .i64 2]), (10, .agg #[.int .i64 1, .int .i64 2]), (4, .slice ad 4 4), (17, .int .i64 (-1))] = some (tabv (exS ad).v 115) := by kernel_rfl
theorem run_alloc_z (T : TypeId) (f : Nat → Value) (m : Nat) (hi : (Try.prog.info? T).map (fun i => (i.zero, i.size)) = some (some (.agg (tabv f m)), m)) {o : Oper} {a : Act} (w : World) (ho : o.op = .alloc T) : (execOp a.eval o).run Try.prog w = .ok (.value (.pointer (some ⟨w.heap.size, 0, none⟩))) (w.alloc (.cells (tabv f m) T)) := by
  cases hq : Try.prog.info? T with
  | none => simp [hq] at hi
  | some i =>
    simp [hq] at hi
    unfold execOp
    simp [ho, hq, hi, Instr.alloc, zeroValue, typeInfo, Value.cells, newVar, newRow, Result.andThen]
section
variable {ops : Array Oper} {rest : List Oper} {o : Oper} {a : Act} {w : World} {Q : Exit → Act → World → Prop}
theorem wpList_alloc_z (hgd : o.guard = none) (T : TypeId) (f : Nat → Value) (m : Nat) (hi : (Try.prog.info? T).map (fun i => (i.zero, i.size)) = some (some (.agg (tabv f m)), m)) (ho : o.op = .alloc T) (hk : wpList Try.prog ops Q rest (a.put o.dst (.pointer (some ⟨w.heap.size, 0, none⟩))) (w.alloc (.cells (tabv f m) T))) : wpList Try.prog ops Q (o :: rest) a w :=
  wpList_plain hgd fun K hK => wpRun (run_alloc_z T f m hi w ho) (hK _ _ hk)
end
theorem infoStz : (Try.prog.info? 30).map (fun i => (i.zero, i.size)) = some (some (.agg (tabv zS.v 115)), 115) := by kernel_rfl
theorem wpW_make {P : Program} {ops : Array Oper} {rest : List Oper} {o : Oper} {a : Act} {w w' : World} {Q : Exit → Act → World → Prop} {v : Value} (hw : Region.wanted o (yielded ops a.tmps) = true) (T : TypeId) (x y : Operand) (ho : o.op = .makeSlice T x y) (x' y' : Value) (hx : a.eval x = x') (hy : a.eval y = y') (h : (Instr.makeSlice T x' y').run P w = .ok v w') (k : wpList P ops Q rest (a.put o.dst v) w') : wpList P ops Q (o :: rest) a w := by
  refine wpList_step fun K hK => ?_
  rw [if_pos hw]
  exact wpRun (by simp [execOp, ho, hx, hy, h, Result.andThen]) (hK _ _ k)
theorem run_make4 (w : World) : ∃ w', (Instr.makeSlice 22 (.int .i64 4) (.int .i64 4)).run Try.prog w = .ok (.slice (some ⟨w.heap.size, 0, none⟩) 4 4) w' ∧ Below w.heap.size w w' := by
  obtain ⟨i, h1, h2, h3, h4⟩ := infoUP
  exact ⟨_, run_make w 22 40 i _ Try.underlying22 h1 h2 .i64 .i64 4 4 (by omega) (by omega) (by rw [h4]; decide) (by omega), (Below.refl _ _).alloc (Nat.le_refl _) _⟩
set_option maxRecDepth 100000 in
set_option maxHeartbeats 40000000 in
theorem ex_any (w : World) : Calls Try.prog 15 #[] w fun e w' => (∃ ad, e = .returned (.agg (tabv (exS ad).v 115))) ∧ Below w.heap.size w w' := by
  obtain ⟨w1, hW1⟩ : ∃ x, w.alloc (.cells (tabv zS.v 115) 30) = x := ⟨_, rfl⟩
  have R1 := hide (show Has w1 w.heap.size 30 zS.v 115 by rw [← hW1]; exact Has.new w 30 zS.v 115 _ rfl)
  have B1 := hide (show Below w.heap.size w w1 by rw [← hW1]; exact (Below.refl w.heap.size w).alloc (Nat.le_refl _) _)
  obtain ⟨w2, hM, b2⟩ := run_make4 w1
  have HM := hide hM
  have L1 := R1.out.lt
  have R2 := hide (R1.out.below b2 L1)
  have B2 := hide (below2 B1.out b2)
  clear hM b2
  obtain ⟨w3, hW3⟩ : ∃ x, w2.setRow w.heap.size (tabv (exS (some ⟨w1.heap.size, 0, none⟩)).v 115) = x := ⟨_, rfl⟩
  have R3 := hide (show Has w3 w.heap.size 30 (exS (some ⟨w1.heap.size, 0, none⟩)).v 115 by rw [← hW3]; exact R2.out.row _ _ rfl)
  have B3 := hide (show Below w.heap.size w w3 by rw [← hW3]; exact below_setRow B2.out (Nat.le_refl _) _)
  go_enter Try.func15, Try.ntmps15
  go_wp2_with (first | (refine wpList_alloc_z rfl 30 zS.v 115 infoStz rfl ?_; rw [hW1]) | refine wpW_make (by rfl) 22 _ _ rfl (.int .i64 4) (.int .i64 4) rfl rfl HM.out ?_ | refine wpW_build (by rfl) 30 #[(6, .const (.int .i64 2)), (7, .const (.int .i64 1)), (8, .const (.int .i64 1)), (9, .tmp 1), (10, .tmp 2), (4, .tmp 3), (17, .const (.int .i64 (-1)))] rfl [(6, .int .i64 2), (7, .int .i64 1), (8, .int .i64 1), (9, .agg #[.int .i64 3, .int .i64 2]), (10, .agg #[.int .i64 1, .int .i64 2]), (4, .slice (some ⟨w1.heap.size, 0, none⟩) 4 4), (17, .int .i64 (-1))] (by first | rfl | (simp [Act.eval, Act.put]; done)) _ (builtEx _) ?_ | (refine wpList_storeSt rfl _ _ rfl rfl w.heap.size (exS (some ⟨w1.heap.size, 0, none⟩)) rfl rfl zS.v R2.out ?_; rw [hW3]) | fail)
  (try simp only [Exit.inBlock, Exit.then])
  exact bodyPost_ret (results_cell_row rfl _ _ w.heap.size 30 _ (0, 0) _ rfl R3.out Try.underlying30 rfl (by rw [tabv_size]; exact infoSt)) rfl ⟨⟨_, rfl⟩, B3.out⟩
end Go.Proofs.Ytnmoheipfadmeaa
