/-
  Of (printed by gen_g2.py).
-/
import Derived.Test.YtnmoheipfadmeaaGtFn3
namespace Go.Proofs.Ytnmoheipfadmeaa
open Go.RowKit S
set_option linter.unusedVariables false
set_option linter.unusedSimpArgs false
set_option maxRecDepth 100000 in
set_option maxHeartbeats 40000000 in
theorem of_any (m : Int) (s : St) (w : World) : Calls Try.prog 6 #[.int .i64 m, .agg (tabv s.v 115)] w fun e w' => e = .returned (.agg #[.int .i64 m, .int .i64 s.loc, .int .i64 s.rem, .int .i64 s.ack, .int .i64 s.so, .int .i64 s.sp, .int .i64 (s.ours.n : Int), .int .i64 s.ap, .int .i64 s.fail, .int .i64 s.closed]) ∧ Below w.heap.size w w' := by
  obtain ⟨w1, hW1⟩ : ∃ wX, w.alloc (.cells (tabv s.v 115) 30) = wX := ⟨_, rfl⟩
  have r1 : Has w1 w.heap.size 30 s.v 115 := by rw [← hW1]; exact Has.new w 30 s.v 115 _ rfl
  have b1 : Below w.heap.size w w1 := by rw [← hW1]; exact (Below.refl w.heap.size w).alloc (Nat.le_refl _) _
  have c4 : w1.cell? ⟨w.heap.size, 4, none⟩ = some (.slice s.ours.ad s.ours.n s.ours.c) := r1.cell 4 (by omega)
  have c6 : w1.cell? ⟨w.heap.size, 6, none⟩ = some (.int .i64 s.loc) := r1.cell 6 (by omega)
  have c7 : w1.cell? ⟨w.heap.size, 7, none⟩ = some (.int .i64 s.rem) := r1.cell 7 (by omega)
  have c8 : w1.cell? ⟨w.heap.size, 8, none⟩ = some (.int .i64 s.ack) := r1.cell 8 (by omega)
  have c11 : w1.cell? ⟨w.heap.size, 11, none⟩ = some (.int .i64 s.so) := r1.cell 11 (by omega)
  have c12 : w1.cell? ⟨w.heap.size, 12, none⟩ = some (.int .i64 s.sp) := r1.cell 12 (by omega)
  have c10 : w1.cell? ⟨w.heap.size, 10, none⟩ = some (.int .i64 s.ap) := r1.cell 10 (by omega)
  have c113 : w1.cell? ⟨w.heap.size, 113, none⟩ = some (.int .i64 s.fail) := r1.cell 113 (by omega)
  have c114 : w1.cell? ⟨w.heap.size, 114, none⟩ = some (.int .i64 s.closed) := r1.cell 114 (by omega)
  have L1 : w.heap.size < w1.heap.size := r1.lt
  clear r1
  generalize tabv s.v 115 = T at hW1 ⊢
  generalize s.ours.n = n at c4 ⊢
  generalize s.ours.ad = ad at c4
  generalize s.ours.c = cp at c4
  generalize s.loc = z6 at c6 ⊢
  generalize s.rem = z7 at c7 ⊢
  generalize s.ack = z8 at c8 ⊢
  generalize s.so = z11 at c11 ⊢
  generalize s.sp = z12 at c12 ⊢
  generalize s.ap = z10 at c10 ⊢
  generalize s.fail = z113 at c113 ⊢
  generalize s.closed = z114 at c114 ⊢
  go_enter Try.func6, Try.ntmps6
  go_wp2
  (try simp only [Exit.inBlock, Exit.then])
  exact bodyPost_ret (results_cell_row rfl _ _ w1.heap.size 32 _ (0, 0) _ rfl (heap_alloc_new w1 _) Try.underlying32 rfl infoGt) rfl ⟨rfl, b1.trans (((Below.refl _ _).alloc (Nat.le_refl _) _).mono b1.size)⟩
end Go.Proofs.Ytnmoheipfadmeaa
