/-
  The code's gate (printed by gen_g2.py).
-/
import Derived.Test.YtnmoheipfadmeaaGtBase
namespace Go.Proofs.Ytnmoheipfadmeaa
open Go.RowKit S
set_option linter.unusedVariables false
set_option linter.unusedSimpArgs false
theorem boxCt (w : World) (a b : Int) : ∃ w1, w.alloc (.cells #[.int .i64 a, .int .i64 b] 24) = w1 ∧ Below w.heap.size w w1 ∧ w1.cell? ⟨w.heap.size, 0, none⟩ = some (.int .i64 a) ∧ w1.cell? ⟨w.heap.size, 1, none⟩ = some (.int .i64 b) ∧ ∀ k, k < w.heap.size → w1.heap[k]? = w.heap[k]? := by
  refine ⟨_, rfl, (Below.refl w.heap.size w).alloc (Nat.le_refl _) _, ?_, ?_, fun k hk => heap_alloc_old w _ hk⟩
  · rw [cell_of_row _ _ 0 _ _ (0, 0) (heap_alloc_new w _)]; rfl
  · rw [cell_of_row _ _ 1 _ _ (0, 0) (heap_alloc_new w _)]; rfl
theorem below2 {w w1 w2 : World} (b1 : Below w.heap.size w w1) (b2 : Below w1.heap.size w1 w2) : Below w.heap.size w w2 := b1.trans (b2.mono b1.size)
set_option maxRecDepth 100000 in
set_option maxHeartbeats 40000000 in
theorem still_any (g : Gt) (w : World) : Calls Try.prog 17 #[.agg #[.int .i64 g.mark, .int .i64 g.loc, .int .i64 g.rem, .int .i64 g.ack, .int .i64 g.so, .int .i64 g.sp, .int .i64 (g.ours : Int), .int .i64 g.peers, .int .i64 g.fail, .int .i64 g.closed]] w fun e w' => e = .returned (.bool (g.still)) ∧ Below w.heap.size w w' := by
  obtain ⟨w1, hW1, b1, l1, r1⟩ := boxGt w g
  have c0 : w1.cell? ⟨w.heap.size, 0, none⟩ = some (.int .i64 (g.mark : Int)) := gt_cell r1 0 (by omega)
  have c1 : w1.cell? ⟨w.heap.size, 1, none⟩ = some (.int .i64 (g.loc : Int)) := gt_cell r1 1 (by omega)
  have c2 : w1.cell? ⟨w.heap.size, 2, none⟩ = some (.int .i64 (g.rem : Int)) := gt_cell r1 2 (by omega)
  have c3 : w1.cell? ⟨w.heap.size, 3, none⟩ = some (.int .i64 (g.ack : Int)) := gt_cell r1 3 (by omega)
  have c4 : w1.cell? ⟨w.heap.size, 4, none⟩ = some (.int .i64 (g.so : Int)) := gt_cell r1 4 (by omega)
  have c5 : w1.cell? ⟨w.heap.size, 5, none⟩ = some (.int .i64 (g.sp : Int)) := gt_cell r1 5 (by omega)
  have c6 : w1.cell? ⟨w.heap.size, 6, none⟩ = some (.int .i64 (g.ours : Int)) := gt_cell r1 6 (by omega)
  have c7 : w1.cell? ⟨w.heap.size, 7, none⟩ = some (.int .i64 (g.peers : Int)) := gt_cell r1 7 (by omega)
  have c8 : w1.cell? ⟨w.heap.size, 8, none⟩ = some (.int .i64 (g.fail : Int)) := gt_cell r1 8 (by omega)
  have c9 : w1.cell? ⟨w.heap.size, 9, none⟩ = some (.int .i64 (g.closed : Int)) := gt_cell r1 9 (by omega)
  clear r1
  unfold Gt.still
  generalize (g.mark : Int) = y0 at hW1 c0 ⊢
  generalize (g.loc : Int) = y1 at hW1 c1 ⊢
  generalize (g.rem : Int) = y2 at hW1 c2 ⊢
  generalize (g.ack : Int) = y3 at hW1 c3 ⊢
  generalize (g.so : Int) = y4 at hW1 c4 ⊢
  generalize (g.sp : Int) = y5 at hW1 c5 ⊢
  generalize (g.ours : Int) = y6 at hW1 c6 ⊢
  generalize (g.peers : Int) = y7 at hW1 c7 ⊢
  generalize (g.fail : Int) = y8 at hW1 c8 ⊢
  generalize (g.closed : Int) = y9 at hW1 c9 ⊢
  clear c0 c1 c2 c3 c4 c5 c6 c7
  go_enter Try.func17, Try.ntmps17
  go_wp2
  all_goals go_ret
  all_goals refine ⟨congrArg (fun b => Ending.returned (Value.bool b)) ?_, b1⟩
  all_goals first | rfl | (simp_all; done) | (rw [Bool.eq_iff_iff]; simp; omega)
set_option maxRecDepth 100000 in
set_option maxHeartbeats 40000000 in
theorem lost_any (g : Gt) (w : World) : Calls Try.prog 16 #[.agg #[.int .i64 g.mark, .int .i64 g.loc, .int .i64 g.rem, .int .i64 g.ack, .int .i64 g.so, .int .i64 g.sp, .int .i64 (g.ours : Int), .int .i64 g.peers, .int .i64 g.fail, .int .i64 g.closed]] w fun e w' => e = .returned (.bool (g.fail == 180)) ∧ Below w.heap.size w w' := by
  obtain ⟨w1, hW1, b1, l1, r1⟩ := boxGt w g
  have c0 : w1.cell? ⟨w.heap.size, 0, none⟩ = some (.int .i64 (g.mark : Int)) := gt_cell r1 0 (by omega)
  have c1 : w1.cell? ⟨w.heap.size, 1, none⟩ = some (.int .i64 (g.loc : Int)) := gt_cell r1 1 (by omega)
  have c2 : w1.cell? ⟨w.heap.size, 2, none⟩ = some (.int .i64 (g.rem : Int)) := gt_cell r1 2 (by omega)
  have c3 : w1.cell? ⟨w.heap.size, 3, none⟩ = some (.int .i64 (g.ack : Int)) := gt_cell r1 3 (by omega)
  have c4 : w1.cell? ⟨w.heap.size, 4, none⟩ = some (.int .i64 (g.so : Int)) := gt_cell r1 4 (by omega)
  have c5 : w1.cell? ⟨w.heap.size, 5, none⟩ = some (.int .i64 (g.sp : Int)) := gt_cell r1 5 (by omega)
  have c6 : w1.cell? ⟨w.heap.size, 6, none⟩ = some (.int .i64 (g.ours : Int)) := gt_cell r1 6 (by omega)
  have c7 : w1.cell? ⟨w.heap.size, 7, none⟩ = some (.int .i64 (g.peers : Int)) := gt_cell r1 7 (by omega)
  have c8 : w1.cell? ⟨w.heap.size, 8, none⟩ = some (.int .i64 (g.fail : Int)) := gt_cell r1 8 (by omega)
  have c9 : w1.cell? ⟨w.heap.size, 9, none⟩ = some (.int .i64 (g.closed : Int)) := gt_cell r1 9 (by omega)
  clear r1
  generalize (g.mark : Int) = y0 at hW1 c0 ⊢
  generalize (g.loc : Int) = y1 at hW1 c1 ⊢
  generalize (g.rem : Int) = y2 at hW1 c2 ⊢
  generalize (g.ack : Int) = y3 at hW1 c3 ⊢
  generalize (g.so : Int) = y4 at hW1 c4 ⊢
  generalize (g.sp : Int) = y5 at hW1 c5 ⊢
  generalize (g.ours : Int) = y6 at hW1 c6 ⊢
  generalize (g.peers : Int) = y7 at hW1 c7 ⊢
  generalize (g.fail : Int) = y8 at hW1 c8 ⊢
  generalize (g.closed : Int) = y9 at hW1 c9 ⊢
  clear c0 c1 c2 c3 c4 c5 c6 c7
  go_enter Try.func16, Try.ntmps16
  go_wp2
  all_goals go_ret
  all_goals refine ⟨congrArg (fun b => Ending.returned (Value.bool b)) ?_, b1⟩
  all_goals first | rfl | (simp_all; done) | (rw [Bool.eq_iff_iff]; simp; omega)
set_option maxRecDepth 100000 in
set_option maxHeartbeats 40000000 in
theorem again_any (g : Gt) (i a b : Int) (w : World) : Calls Try.prog 18 #[.agg #[.int .i64 g.mark, .int .i64 g.loc, .int .i64 g.rem, .int .i64 g.ack, .int .i64 g.so, .int .i64 g.sp, .int .i64 (g.ours : Int), .int .i64 g.peers, .int .i64 g.fail, .int .i64 g.closed], .int .i64 i, .agg #[.int .i64 a, .int .i64 b]] w fun e w' => e = .returned (.bool (g.again i a b)) ∧ Below w.heap.size w w' := by
  obtain ⟨w1, hW1, b1, l1, r1⟩ := boxGt w g
  obtain ⟨w2, hW2, b2, d0, d1, r2⟩ := boxCt w1 a b
  have r2 : Has w2 w.heap.size 32 g.v 10 := by unfold Has; rw [r2 _ l1]; exact r1
  have c0 : w2.cell? ⟨w.heap.size, 0, none⟩ = some (.int .i64 (g.mark : Int)) := gt_cell r2 0 (by omega)
  have c1 : w2.cell? ⟨w.heap.size, 1, none⟩ = some (.int .i64 (g.loc : Int)) := gt_cell r2 1 (by omega)
  have c2 : w2.cell? ⟨w.heap.size, 2, none⟩ = some (.int .i64 (g.rem : Int)) := gt_cell r2 2 (by omega)
  have c3 : w2.cell? ⟨w.heap.size, 3, none⟩ = some (.int .i64 (g.ack : Int)) := gt_cell r2 3 (by omega)
  have c4 : w2.cell? ⟨w.heap.size, 4, none⟩ = some (.int .i64 (g.so : Int)) := gt_cell r2 4 (by omega)
  have c5 : w2.cell? ⟨w.heap.size, 5, none⟩ = some (.int .i64 (g.sp : Int)) := gt_cell r2 5 (by omega)
  have c6 : w2.cell? ⟨w.heap.size, 6, none⟩ = some (.int .i64 (g.ours : Int)) := gt_cell r2 6 (by omega)
  have c7 : w2.cell? ⟨w.heap.size, 7, none⟩ = some (.int .i64 (g.peers : Int)) := gt_cell r2 7 (by omega)
  have c8 : w2.cell? ⟨w.heap.size, 8, none⟩ = some (.int .i64 (g.fail : Int)) := gt_cell r2 8 (by omega)
  have c9 : w2.cell? ⟨w.heap.size, 9, none⟩ = some (.int .i64 (g.closed : Int)) := gt_cell r2 9 (by omega)
  clear r1 r2
  unfold Gt.again
  generalize (g.mark : Int) = y0 at hW1 c0 ⊢
  generalize (g.loc : Int) = y1 at hW1 c1 ⊢
  generalize (g.rem : Int) = y2 at hW1 c2 ⊢
  generalize (g.ack : Int) = y3 at hW1 c3 ⊢
  generalize (g.so : Int) = y4 at hW1 c4 ⊢
  generalize (g.sp : Int) = y5 at hW1 c5 ⊢
  generalize (g.ours : Int) = y6 at hW1 c6 ⊢
  generalize (g.peers : Int) = y7 at hW1 c7 ⊢
  generalize (g.fail : Int) = y8 at hW1 c8 ⊢
  generalize (g.closed : Int) = y9 at hW1 c9 ⊢
  clear c0 c1 c3 c6 c7 c8 c9
  go_enter Try.func18, Try.ntmps18
  go_wp2
  all_goals go_ret
  all_goals refine ⟨congrArg (fun b => Ending.returned (Value.bool b)) ?_, below2 b1 b2⟩
  all_goals first | rfl | (simp_all; done) | (rw [Bool.eq_iff_iff]; simp; omega)
set_option maxRecDepth 100000 in
set_option maxHeartbeats 40000000 in
theorem anew_any (g : Gt) (i a b : Int) (w : World) : Calls Try.prog 19 #[.agg #[.int .i64 g.mark, .int .i64 g.loc, .int .i64 g.rem, .int .i64 g.ack, .int .i64 g.so, .int .i64 g.sp, .int .i64 (g.ours : Int), .int .i64 g.peers, .int .i64 g.fail, .int .i64 g.closed], .int .i64 i, .agg #[.int .i64 a, .int .i64 b]] w fun e w' => e = .returned (.bool (g.anew i a b)) ∧ Below w.heap.size w w' := by
  obtain ⟨w1, hW1, b1, l1, r1⟩ := boxGt w g
  obtain ⟨w2, hW2, b2, d0, d1, r2⟩ := boxCt w1 a b
  have r2 : Has w2 w.heap.size 32 g.v 10 := by unfold Has; rw [r2 _ l1]; exact r1
  have c0 : w2.cell? ⟨w.heap.size, 0, none⟩ = some (.int .i64 (g.mark : Int)) := gt_cell r2 0 (by omega)
  have c1 : w2.cell? ⟨w.heap.size, 1, none⟩ = some (.int .i64 (g.loc : Int)) := gt_cell r2 1 (by omega)
  have c2 : w2.cell? ⟨w.heap.size, 2, none⟩ = some (.int .i64 (g.rem : Int)) := gt_cell r2 2 (by omega)
  have c3 : w2.cell? ⟨w.heap.size, 3, none⟩ = some (.int .i64 (g.ack : Int)) := gt_cell r2 3 (by omega)
  have c4 : w2.cell? ⟨w.heap.size, 4, none⟩ = some (.int .i64 (g.so : Int)) := gt_cell r2 4 (by omega)
  have c5 : w2.cell? ⟨w.heap.size, 5, none⟩ = some (.int .i64 (g.sp : Int)) := gt_cell r2 5 (by omega)
  have c6 : w2.cell? ⟨w.heap.size, 6, none⟩ = some (.int .i64 (g.ours : Int)) := gt_cell r2 6 (by omega)
  have c7 : w2.cell? ⟨w.heap.size, 7, none⟩ = some (.int .i64 (g.peers : Int)) := gt_cell r2 7 (by omega)
  have c8 : w2.cell? ⟨w.heap.size, 8, none⟩ = some (.int .i64 (g.fail : Int)) := gt_cell r2 8 (by omega)
  have c9 : w2.cell? ⟨w.heap.size, 9, none⟩ = some (.int .i64 (g.closed : Int)) := gt_cell r2 9 (by omega)
  clear r1 r2
  unfold Gt.anew
  generalize (g.mark : Int) = y0 at hW1 c0 ⊢
  generalize (g.loc : Int) = y1 at hW1 c1 ⊢
  generalize (g.rem : Int) = y2 at hW1 c2 ⊢
  generalize (g.ack : Int) = y3 at hW1 c3 ⊢
  generalize (g.so : Int) = y4 at hW1 c4 ⊢
  generalize (g.sp : Int) = y5 at hW1 c5 ⊢
  generalize (g.ours : Int) = y6 at hW1 c6 ⊢
  generalize (g.peers : Int) = y7 at hW1 c7 ⊢
  generalize (g.fail : Int) = y8 at hW1 c8 ⊢
  generalize (g.closed : Int) = y9 at hW1 c9 ⊢
  clear c0 c1 c8 c9
  go_enter Try.func19, Try.ntmps19
  go_wp2
  all_goals go_ret
  all_goals refine ⟨congrArg (fun b => Ending.returned (Value.bool b)) ?_, below2 b1 b2⟩
  all_goals first | rfl | (simp_all; done) | (rw [Bool.eq_iff_iff]; simp; omega)
end Go.Proofs.Ytnmoheipfadmeaa
