/-
  The code's gate, its calls (printed by gen_g2.py).
-/
import Derived.Test.YtnmoheipfadmeaaGtFn
namespace Go.Proofs.Ytnmoheipfadmeaa
open Go.RowKit S
set_option linter.unusedVariables false
set_option linter.unusedSimpArgs false
set_option maxRecDepth 100000 in
set_option maxHeartbeats 40000000 in
theorem send_any (g : Gt) (i : Int) (w : World) : Calls Try.prog 9 #[.agg #[.int .i64 g.mark, .int .i64 g.loc, .int .i64 g.rem, .int .i64 g.ack, .int .i64 g.so, .int .i64 g.sp, .int .i64 (g.ours : Int), .int .i64 g.peers, .int .i64 g.fail, .int .i64 g.closed], .int .i64 i] w fun e w' => e = .returned (.bool (g.send i)) ∧ Below w.heap.size w w' := by
  obtain ⟨w1, hW1, b1, l1, r1⟩ := boxGt w g
  have c0 : w1.cell? ⟨w.heap.size, 0, none⟩ = some (.int .i64 (g.mark : Int)) := gt_cell r1 0 (by omega)
  have c1 : w1.cell? ⟨w.heap.size, 1, none⟩ = some (.int .i64 (g.loc : Int)) := gt_cell r1 1 (by omega)
  have c2 : w1.cell? ⟨w.heap.size, 2, none⟩ = some (.int .i64 (g.rem : Int)) := gt_cell r1 2 (by omega)
  have c3 : w1.cell? ⟨w.heap.size, 3, none⟩ = some (.int .i64 (g.ack : Int)) := gt_cell r1 3 (by omega)
  have c4 : w1.cell? ⟨w.heap.size, 4, none⟩ = some (.int .i64 (g.so : Int)) := gt_cell r1 4 (by omega)
  have c5 : w1.cell? ⟨w.heap.size, 5, none⟩ = some (.int .i64 (g.sp : Int)) := gt_cell r1 5 (by omega)
  have c6 : w1.cell? ⟨w.heap.size, 6, none⟩ = some (.int .i64 (g.ours : Int)) := gt_cell r1 6 (by omega)
  have c7 : w1.cell? ⟨w.heap.size, 7, none⟩ = some (.int .i64 (g.peers : Int)) := gt_cell r1 7 (by omega)
  have c8 : w1.cell? ⟨w.heap.size, 8, none⟩ = some (.int .i64 (g.fail : Int)) := gt_cell r1 8 (by omega)
  have c9 : w1.cell? ⟨w.heap.size, 9, none⟩ = some (.int .i64 (g.closed : Int)) := gt_cell r1 9 (by omega)
  have HC := hide (fun w => still_any g w)
  have B1 := hide b1
  clear r1 b1
  unfold Gt.send
  generalize g.still = V at HC ⊢
  generalize (g.mark : Int) = y0 at hW1 c0 HC ⊢
  generalize (g.loc : Int) = y1 at hW1 c1 HC ⊢
  generalize (g.rem : Int) = y2 at hW1 c2 HC ⊢
  generalize (g.ack : Int) = y3 at hW1 c3 HC ⊢
  generalize (g.so : Int) = y4 at hW1 c4 HC ⊢
  generalize (g.sp : Int) = y5 at hW1 c5 HC ⊢
  generalize (g.ours : Int) = y6 at hW1 c6 HC ⊢
  generalize (g.peers : Int) = y7 at hW1 c7 HC ⊢
  generalize (g.fail : Int) = y8 at hW1 c8 HC ⊢
  generalize (g.closed : Int) = y9 at hW1 c9 HC ⊢
  cases V
  all_goals go_enter Try.func9, Try.ntmps9
  all_goals go_wp2_with (first | (go_at_call 17; go_must (refine (HC.out _).mono ?_); rintro e w5 ⟨rfl, hb5⟩; have B5 := hide (below2 B1.out hb5); have e0 : w5.cell? ⟨w.heap.size, 0, none⟩ = some (.int .i64 y0) := (hb5.cell (p := ⟨w.heap.size, 0, none⟩) (l1)).trans c0; have e1 : w5.cell? ⟨w.heap.size, 1, none⟩ = some (.int .i64 y1) := (hb5.cell (p := ⟨w.heap.size, 1, none⟩) (l1)).trans c1; clear hb5) | fail)
  all_goals go_ret
  all_goals refine ⟨congrArg (fun b => Ending.returned (Value.bool b)) ?_, by first | exact B5.out | exact B1.out⟩
  all_goals (clear HC B1 hW1 l1 c0 c1 c2 c3 c4 c5 c6 c7 c8 c9; try clear B5 e0 e1)
  all_goals first | rfl | (rw [Bool.eq_iff_iff]; simp; done) | (rw [Bool.eq_iff_iff]; simp; omega)
set_option maxRecDepth 100000 in
set_option maxHeartbeats 40000000 in
theorem broad_any (g : Gt) (i : Int) (w : World) : Calls Try.prog 8 #[.agg #[.int .i64 g.mark, .int .i64 g.loc, .int .i64 g.rem, .int .i64 g.ack, .int .i64 g.so, .int .i64 g.sp, .int .i64 (g.ours : Int), .int .i64 g.peers, .int .i64 g.fail, .int .i64 g.closed], .int .i64 i] w fun e w' => e = .returned (.bool (g.broad i)) ∧ Below w.heap.size w w' := by
  obtain ⟨w1, hW1, b1, l1, r1⟩ := boxGt w g
  have c0 : w1.cell? ⟨w.heap.size, 0, none⟩ = some (.int .i64 (g.mark : Int)) := gt_cell r1 0 (by omega)
  have c1 : w1.cell? ⟨w.heap.size, 1, none⟩ = some (.int .i64 (g.loc : Int)) := gt_cell r1 1 (by omega)
  have c2 : w1.cell? ⟨w.heap.size, 2, none⟩ = some (.int .i64 (g.rem : Int)) := gt_cell r1 2 (by omega)
  have c3 : w1.cell? ⟨w.heap.size, 3, none⟩ = some (.int .i64 (g.ack : Int)) := gt_cell r1 3 (by omega)
  have c4 : w1.cell? ⟨w.heap.size, 4, none⟩ = some (.int .i64 (g.so : Int)) := gt_cell r1 4 (by omega)
  have c5 : w1.cell? ⟨w.heap.size, 5, none⟩ = some (.int .i64 (g.sp : Int)) := gt_cell r1 5 (by omega)
  have c6 : w1.cell? ⟨w.heap.size, 6, none⟩ = some (.int .i64 (g.ours : Int)) := gt_cell r1 6 (by omega)
  have c7 : w1.cell? ⟨w.heap.size, 7, none⟩ = some (.int .i64 (g.peers : Int)) := gt_cell r1 7 (by omega)
  have c8 : w1.cell? ⟨w.heap.size, 8, none⟩ = some (.int .i64 (g.fail : Int)) := gt_cell r1 8 (by omega)
  have c9 : w1.cell? ⟨w.heap.size, 9, none⟩ = some (.int .i64 (g.closed : Int)) := gt_cell r1 9 (by omega)
  have HC := hide (fun w => lost_any g w)
  have B1 := hide b1
  clear r1 b1
  unfold Gt.broad
  generalize (g.fail == 180) = V at HC ⊢
  generalize (g.mark : Int) = y0 at hW1 c0 HC ⊢
  generalize (g.loc : Int) = y1 at hW1 c1 HC ⊢
  generalize (g.rem : Int) = y2 at hW1 c2 HC ⊢
  generalize (g.ack : Int) = y3 at hW1 c3 HC ⊢
  generalize (g.so : Int) = y4 at hW1 c4 HC ⊢
  generalize (g.sp : Int) = y5 at hW1 c5 HC ⊢
  generalize (g.ours : Int) = y6 at hW1 c6 HC ⊢
  generalize (g.peers : Int) = y7 at hW1 c7 HC ⊢
  generalize (g.fail : Int) = y8 at hW1 c8 HC ⊢
  generalize (g.closed : Int) = y9 at hW1 c9 HC ⊢
  cases V
  all_goals go_enter Try.func8, Try.ntmps8
  all_goals go_wp2_with (first | (go_at_call 16; go_must (refine (HC.out _).mono ?_); rintro e w5 ⟨rfl, hb5⟩; have B5 := hide (below2 B1.out hb5); have e9 : w5.cell? ⟨w.heap.size, 9, none⟩ = some (.int .i64 y9) := (hb5.cell (p := ⟨w.heap.size, 9, none⟩) (l1)).trans c9; clear hb5) | fail)
  all_goals go_ret
  all_goals refine ⟨congrArg (fun b => Ending.returned (Value.bool b)) ?_, by first | exact B5.out | exact B1.out⟩
  all_goals (clear HC B1 hW1 l1 c0 c1 c2 c3 c4 c5 c6 c7 c8 c9; try clear B5 e9)
  all_goals first | rfl | (rw [Bool.eq_iff_iff]; simp; done) | (rw [Bool.eq_iff_iff]; simp; omega)
end Go.Proofs.Ytnmoheipfadmeaa
