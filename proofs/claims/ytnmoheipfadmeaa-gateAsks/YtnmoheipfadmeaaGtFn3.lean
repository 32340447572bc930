/-
  The code's MaySign (printed by gen_g2.py).
-/
import Derived.Test.YtnmoheipfadmeaaGtFn2
namespace Go.Proofs.Ytnmoheipfadmeaa
open Go.RowKit S
set_option linter.unusedVariables false
set_option linter.unusedSimpArgs false
set_option maxRecDepth 100000 in
set_option maxHeartbeats 40000000 in
theorem sign_any (g : Gt) (i a b : Int) (w : World) : Calls Try.prog 10 #[.agg #[.int .i64 g.mark, .int .i64 g.loc, .int .i64 g.rem, .int .i64 g.ack, .int .i64 g.so, .int .i64 g.sp, .int .i64 (g.ours : Int), .int .i64 g.peers, .int .i64 g.fail, .int .i64 g.closed], .int .i64 i, .agg #[.int .i64 a, .int .i64 b]] w fun e w' => e = .returned (.bool (g.sign i a b)) ∧ Below w.heap.size w w' := by
  obtain ⟨w1, hW1, b1, l1, r1⟩ := boxGt w g
  obtain ⟨w2, hW2, b2, d0, d1, r2⟩ := boxCt w1 a b
  have l2 : w1.heap.size < w2.heap.size := by rw [← hW2, size_alloc]; omega
  have R2 : Has w2 w.heap.size 32 g.v 10 := by unfold Has; rw [r2 _ l1]; exact r1
  have c0 : w2.cell? ⟨w.heap.size, 0, none⟩ = some (.int .i64 (g.mark : Int)) := gt_cell R2 0 (by omega)
  have c1 : w2.cell? ⟨w.heap.size, 1, none⟩ = some (.int .i64 (g.loc : Int)) := gt_cell R2 1 (by omega)
  have c2 : w2.cell? ⟨w.heap.size, 2, none⟩ = some (.int .i64 (g.rem : Int)) := gt_cell R2 2 (by omega)
  have c3 : w2.cell? ⟨w.heap.size, 3, none⟩ = some (.int .i64 (g.ack : Int)) := gt_cell R2 3 (by omega)
  have c4 : w2.cell? ⟨w.heap.size, 4, none⟩ = some (.int .i64 (g.so : Int)) := gt_cell R2 4 (by omega)
  have c5 : w2.cell? ⟨w.heap.size, 5, none⟩ = some (.int .i64 (g.sp : Int)) := gt_cell R2 5 (by omega)
  have c6 : w2.cell? ⟨w.heap.size, 6, none⟩ = some (.int .i64 (g.ours : Int)) := gt_cell R2 6 (by omega)
  have c7 : w2.cell? ⟨w.heap.size, 7, none⟩ = some (.int .i64 (g.peers : Int)) := gt_cell R2 7 (by omega)
  have c8 : w2.cell? ⟨w.heap.size, 8, none⟩ = some (.int .i64 (g.fail : Int)) := gt_cell R2 8 (by omega)
  have c9 : w2.cell? ⟨w.heap.size, 9, none⟩ = some (.int .i64 (g.closed : Int)) := gt_cell R2 9 (by omega)
  have B2 := hide (below2 b1 b2)
  have HS := hide (fun w => still_any g w)
  have HA := hide (fun w => again_any g i a b w)
  have HN := hide (fun w => anew_any g i a b w)
  clear r1 r2 b1 b2 R2
  unfold Gt.sign
  generalize g.still = S at HS ⊢
  generalize g.again i a b = A at HA ⊢
  generalize g.anew i a b = V at HN ⊢
  generalize (g.mark : Int) = y0 at hW1 c0 HS HA HN ⊢
  generalize (g.loc : Int) = y1 at hW1 c1 HS HA HN ⊢
  generalize (g.rem : Int) = y2 at hW1 c2 HS HA HN ⊢
  generalize (g.ack : Int) = y3 at hW1 c3 HS HA HN ⊢
  generalize (g.so : Int) = y4 at hW1 c4 HS HA HN ⊢
  generalize (g.sp : Int) = y5 at hW1 c5 HS HA HN ⊢
  generalize (g.ours : Int) = y6 at hW1 c6 HS HA HN ⊢
  generalize (g.peers : Int) = y7 at hW1 c7 HS HA HN ⊢
  generalize (g.fail : Int) = y8 at hW1 c8 HS HA HN ⊢
  generalize (g.closed : Int) = y9 at hW1 c9 HS HA HN ⊢
  have fin : ∀ wx, Hid (Below w2.heap.size w2 wx) → Hid (Below w.heap.size w wx) := fun wx h => hide (B2.out.trans (h.out.mono B2.out.size))
  cases S
  · go_enter Try.func10, Try.ntmps10
    go_wp2_with (first | (go_at_call 17; go_must (refine (HS.out _).mono ?_); rintro e w5 ⟨rfl, hb5⟩; have B5 := hide hb5; clear hb5) | fail)
    go_ret
    exact ⟨by simp, (fin _ B5).out⟩
  · cases A
    all_goals cases V
    all_goals go_enter Try.func10, Try.ntmps10
    all_goals go_wp2_with (first | (go_at_call 17; go_must (refine (HS.out _).mono ?_); rintro e w5 ⟨rfl, hb5⟩; have B5 := hide hb5; have e0 : w5.cell? ⟨w.heap.size, 0, none⟩ = some (.int .i64 y0) := (hb5.cell (p := ⟨w.heap.size, 0, none⟩) (Nat.lt_trans l1 l2)).trans c0; have e1 : w5.cell? ⟨w.heap.size, 1, none⟩ = some (.int .i64 y1) := (hb5.cell (p := ⟨w.heap.size, 1, none⟩) (Nat.lt_trans l1 l2)).trans c1; have e2 : w5.cell? ⟨w.heap.size, 2, none⟩ = some (.int .i64 y2) := (hb5.cell (p := ⟨w.heap.size, 2, none⟩) (Nat.lt_trans l1 l2)).trans c2; have e3 : w5.cell? ⟨w.heap.size, 3, none⟩ = some (.int .i64 y3) := (hb5.cell (p := ⟨w.heap.size, 3, none⟩) (Nat.lt_trans l1 l2)).trans c3; have e4 : w5.cell? ⟨w.heap.size, 4, none⟩ = some (.int .i64 y4) := (hb5.cell (p := ⟨w.heap.size, 4, none⟩) (Nat.lt_trans l1 l2)).trans c4; have e5 : w5.cell? ⟨w.heap.size, 5, none⟩ = some (.int .i64 y5) := (hb5.cell (p := ⟨w.heap.size, 5, none⟩) (Nat.lt_trans l1 l2)).trans c5; have e6 : w5.cell? ⟨w.heap.size, 6, none⟩ = some (.int .i64 y6) := (hb5.cell (p := ⟨w.heap.size, 6, none⟩) (Nat.lt_trans l1 l2)).trans c6; have e7 : w5.cell? ⟨w.heap.size, 7, none⟩ = some (.int .i64 y7) := (hb5.cell (p := ⟨w.heap.size, 7, none⟩) (Nat.lt_trans l1 l2)).trans c7; have e8 : w5.cell? ⟨w.heap.size, 8, none⟩ = some (.int .i64 y8) := (hb5.cell (p := ⟨w.heap.size, 8, none⟩) (Nat.lt_trans l1 l2)).trans c8; have e9 : w5.cell? ⟨w.heap.size, 9, none⟩ = some (.int .i64 y9) := (hb5.cell (p := ⟨w.heap.size, 9, none⟩) (Nat.lt_trans l1 l2)).trans c9; have p0 : w5.cell? ⟨w1.heap.size, 0, none⟩ = some (.int .i64 a) := (hb5.cell (p := ⟨w1.heap.size, 0, none⟩) l2).trans d0; have p1 : w5.cell? ⟨w1.heap.size, 1, none⟩ = some (.int .i64 b) := (hb5.cell (p := ⟨w1.heap.size, 1, none⟩) l2).trans d1; have z5 := hb5.size; clear hb5) | (go_at_call 18; go_must (refine (HA.out _).mono ?_); rintro e w6 ⟨rfl, hb6⟩; have B6 := hide (B5.out.trans (hb6.mono B5.out.size)); have f0 : w6.cell? ⟨w.heap.size, 0, none⟩ = some (.int .i64 y0) := (hb6.cell (p := ⟨w.heap.size, 0, none⟩) (Nat.lt_of_lt_of_le (Nat.lt_trans l1 l2) z5)).trans e0; have f1 : w6.cell? ⟨w.heap.size, 1, none⟩ = some (.int .i64 y1) := (hb6.cell (p := ⟨w.heap.size, 1, none⟩) (Nat.lt_of_lt_of_le (Nat.lt_trans l1 l2) z5)).trans e1; have f2 : w6.cell? ⟨w.heap.size, 2, none⟩ = some (.int .i64 y2) := (hb6.cell (p := ⟨w.heap.size, 2, none⟩) (Nat.lt_of_lt_of_le (Nat.lt_trans l1 l2) z5)).trans e2; have f3 : w6.cell? ⟨w.heap.size, 3, none⟩ = some (.int .i64 y3) := (hb6.cell (p := ⟨w.heap.size, 3, none⟩) (Nat.lt_of_lt_of_le (Nat.lt_trans l1 l2) z5)).trans e3; have f4 : w6.cell? ⟨w.heap.size, 4, none⟩ = some (.int .i64 y4) := (hb6.cell (p := ⟨w.heap.size, 4, none⟩) (Nat.lt_of_lt_of_le (Nat.lt_trans l1 l2) z5)).trans e4; have f5 : w6.cell? ⟨w.heap.size, 5, none⟩ = some (.int .i64 y5) := (hb6.cell (p := ⟨w.heap.size, 5, none⟩) (Nat.lt_of_lt_of_le (Nat.lt_trans l1 l2) z5)).trans e5; have f6 : w6.cell? ⟨w.heap.size, 6, none⟩ = some (.int .i64 y6) := (hb6.cell (p := ⟨w.heap.size, 6, none⟩) (Nat.lt_of_lt_of_le (Nat.lt_trans l1 l2) z5)).trans e6; have f7 : w6.cell? ⟨w.heap.size, 7, none⟩ = some (.int .i64 y7) := (hb6.cell (p := ⟨w.heap.size, 7, none⟩) (Nat.lt_of_lt_of_le (Nat.lt_trans l1 l2) z5)).trans e7; have f8 : w6.cell? ⟨w.heap.size, 8, none⟩ = some (.int .i64 y8) := (hb6.cell (p := ⟨w.heap.size, 8, none⟩) (Nat.lt_of_lt_of_le (Nat.lt_trans l1 l2) z5)).trans e8; have f9 : w6.cell? ⟨w.heap.size, 9, none⟩ = some (.int .i64 y9) := (hb6.cell (p := ⟨w.heap.size, 9, none⟩) (Nat.lt_of_lt_of_le (Nat.lt_trans l1 l2) z5)).trans e9; have q0 : w6.cell? ⟨w1.heap.size, 0, none⟩ = some (.int .i64 a) := (hb6.cell (p := ⟨w1.heap.size, 0, none⟩) (Nat.lt_of_lt_of_le l2 z5)).trans p0; have q1 : w6.cell? ⟨w1.heap.size, 1, none⟩ = some (.int .i64 b) := (hb6.cell (p := ⟨w1.heap.size, 1, none⟩) (Nat.lt_of_lt_of_le l2 z5)).trans p1; clear hb6) | (go_at_call 19; go_must (refine (HN.out _).mono ?_); rintro e w7 ⟨rfl, hb7⟩; have B7 := hide (B6.out.trans (hb7.mono B6.out.size)); clear hb7) | fail)
    all_goals go_ret
    all_goals refine ⟨congrArg (fun b => Ending.returned (Value.bool b)) ?_, by first | exact (fin _ B7).out | exact (fin _ B6).out | exact (fin _ B5).out⟩
    all_goals (clear HS HA HN B2 hW1 hW2 l1 l2 d0 d1 fin; first | rfl | (simp; done) | (simp; omega))
end Go.Proofs.Ytnmoheipfadmeaa
