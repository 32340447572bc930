/-
  first (printed by gen_g2.py).
-/
import Derived.Test.YtnmoheipfadmeaaGtEx
namespace Go.Proofs.Ytnmoheipfadmeaa
open Go.RowKit S
set_option linter.unusedVariables false
set_option linter.unusedSimpArgs false
def g0 : Gt := ⟨1, 2, 1, 1, 1, 2, 4, 2, 0, -1⟩
theorem fb0 : g0.broad 2 = true := by decide +kernel
theorem fc0 (w : World) : Calls Try.prog 8 #[.agg #[.int .i64 1, .int .i64 2, .int .i64 1, .int .i64 1, .int .i64 1, .int .i64 2, .int .i64 4, .int .i64 2, .int .i64 0, .int .i64 (-1)], .int .i64 2] w fun e w' => e = .returned (.bool true) ∧ Below w.heap.size w w' := by
  have h := broad_any g0 2 w
  rw [fb0] at h
  exact h
theorem fb1 : g0.broad 1 = false := by decide +kernel
theorem fc1 (w : World) : Calls Try.prog 8 #[.agg #[.int .i64 1, .int .i64 2, .int .i64 1, .int .i64 1, .int .i64 1, .int .i64 2, .int .i64 4, .int .i64 2, .int .i64 0, .int .i64 (-1)], .int .i64 1] w fun e w' => e = .returned (.bool false) ∧ Below w.heap.size w w' := by
  have h := broad_any g0 1 w
  rw [fb1] at h
  exact h
theorem fb2 : g0.send 1 = true := by decide +kernel
theorem fc2 (w : World) : Calls Try.prog 9 #[.agg #[.int .i64 1, .int .i64 2, .int .i64 1, .int .i64 1, .int .i64 1, .int .i64 2, .int .i64 4, .int .i64 2, .int .i64 0, .int .i64 (-1)], .int .i64 1] w fun e w' => e = .returned (.bool true) ∧ Below w.heap.size w w' := by
  have h := send_any g0 1 w
  rw [fb2] at h
  exact h
theorem fb3 : g0.send 2 = false := by decide +kernel
theorem fc3 (w : World) : Calls Try.prog 9 #[.agg #[.int .i64 1, .int .i64 2, .int .i64 1, .int .i64 1, .int .i64 1, .int .i64 2, .int .i64 4, .int .i64 2, .int .i64 0, .int .i64 (-1)], .int .i64 2] w fun e w' => e = .returned (.bool false) ∧ Below w.heap.size w w' := by
  have h := send_any g0 2 w
  rw [fb3] at h
  exact h
theorem fb4 : g0.sign 1 1 2 = true := by decide +kernel
theorem fc4 (w : World) : Calls Try.prog 10 #[.agg #[.int .i64 1, .int .i64 2, .int .i64 1, .int .i64 1, .int .i64 1, .int .i64 2, .int .i64 4, .int .i64 2, .int .i64 0, .int .i64 (-1)], .int .i64 1, .agg #[.int .i64 1, .int .i64 2]] w fun e w' => e = .returned (.bool true) ∧ Below w.heap.size w w' := by
  have h := sign_any g0 1 1 2 w
  rw [fb4] at h
  exact h
theorem fb5 : g0.sign 2 4 2 = true := by decide +kernel
theorem fc5 (w : World) : Calls Try.prog 10 #[.agg #[.int .i64 1, .int .i64 2, .int .i64 1, .int .i64 1, .int .i64 1, .int .i64 2, .int .i64 4, .int .i64 2, .int .i64 0, .int .i64 (-1)], .int .i64 2, .agg #[.int .i64 4, .int .i64 2]] w fun e w' => e = .returned (.bool true) ∧ Below w.heap.size w w' := by
  have h := sign_any g0 2 4 2 w
  rw [fb5] at h
  exact h
theorem fb6 : g0.sign 2 5 2 = false := by decide +kernel
theorem fc6 (w : World) : Calls Try.prog 10 #[.agg #[.int .i64 1, .int .i64 2, .int .i64 1, .int .i64 1, .int .i64 1, .int .i64 2, .int .i64 4, .int .i64 2, .int .i64 0, .int .i64 (-1)], .int .i64 2, .agg #[.int .i64 5, .int .i64 2]] w fun e w' => e = .returned (.bool false) ∧ Below w.heap.size w w' := by
  have h := sign_any g0 2 5 2 w
  rw [fb6] at h
  exact h
theorem fof (ad : Option Addr) (w : World) : Calls Try.prog 6 #[.int .i64 1, .agg (tabv (exS ad).v 115)] w fun e w' => e = .returned (.agg #[.int .i64 1, .int .i64 2, .int .i64 1, .int .i64 1, .int .i64 1, .int .i64 2, .int .i64 4, .int .i64 2, .int .i64 0, .int .i64 (-1)]) ∧ Below w.heap.size w w' := of_any 1 (exS ad) w
theorem newGt (w : World) (g : Gt) : ∃ w1, w.alloc (.cells #[.int .i64 g.mark, .int .i64 g.loc, .int .i64 g.rem, .int .i64 g.ack, .int .i64 g.so, .int .i64 g.sp, .int .i64 (g.ours : Int), .int .i64 g.peers, .int .i64 g.fail, .int .i64 g.closed] 32) = w1 ∧ Below w.heap.size w w1 ∧ w.heap.size < w1.heap.size ∧ Has w1 w.heap.size 32 g.v 10 := boxGt w g
set_option maxRecDepth 100000 in
set_option maxHeartbeats 40000000 in
theorem first_any (w : World) : Calls Try.prog 7 #[] w fun e w' => e = .returned (.bool true) ∧ Below w.heap.size w w' := by
  have H0 := hide fc0
  have H1 := hide fc1
  have H2 := hide fc2
  have H3 := hide fc3
  have H4 := hide fc4
  have H5 := hide fc5
  have H6 := hide fc6
  have HX := hide ex_any
  have HO := hide fof
  go_enter Try.func7, Try.ntmps7
  go_wp2_with fail
  refine (HX.out _).mono ?_
  rintro e wx ⟨⟨ad, rfl⟩, hbx⟩
  have BX := hide hbx
  clear hbx
  go_wp2_with fail
  refine (HO.out _ _).mono ?_
  rintro e wo ⟨rfl, hbo⟩
  have BO := hide (below2 BX.out hbo)
  clear hbo
  obtain ⟨wg, hWg, bg, lg, rg⟩ := newGt wo g0
  have hWg : wo.alloc (.cells #[.int .i64 1, .int .i64 2, .int .i64 1, .int .i64 1, .int .i64 1, .int .i64 2, .int .i64 4, .int .i64 2, .int .i64 0, .int .i64 (-1)] 32) = wg := hWg
  have BG := hide (BO.out.trans (bg.mono BO.out.size))
  have a0 : wg.cell? ⟨wo.heap.size, 0, none⟩ = some (.int .i64 1) := rg.cell 0 (by omega)
  have a1 : wg.cell? ⟨wo.heap.size, 1, none⟩ = some (.int .i64 2) := rg.cell 1 (by omega)
  have a2 : wg.cell? ⟨wo.heap.size, 2, none⟩ = some (.int .i64 1) := rg.cell 2 (by omega)
  have a3 : wg.cell? ⟨wo.heap.size, 3, none⟩ = some (.int .i64 1) := rg.cell 3 (by omega)
  have a4 : wg.cell? ⟨wo.heap.size, 4, none⟩ = some (.int .i64 1) := rg.cell 4 (by omega)
  have a5 : wg.cell? ⟨wo.heap.size, 5, none⟩ = some (.int .i64 2) := rg.cell 5 (by omega)
  have a6 : wg.cell? ⟨wo.heap.size, 6, none⟩ = some (.int .i64 4) := rg.cell 6 (by omega)
  have a7 : wg.cell? ⟨wo.heap.size, 7, none⟩ = some (.int .i64 2) := rg.cell 7 (by omega)
  have a8 : wg.cell? ⟨wo.heap.size, 8, none⟩ = some (.int .i64 0) := rg.cell 8 (by omega)
  have a9 : wg.cell? ⟨wo.heap.size, 9, none⟩ = some (.int .i64 (-1)) := rg.cell 9 (by omega)
  clear bg rg
  go_wp2_with fail
  refine (H0.out _).mono ?_
  rintro e w1 ⟨rfl, hb1⟩
  have Q0 := hide (BG.out.trans (hb1.mono BG.out.size))
  have b_0 : w1.cell? ⟨wo.heap.size, 0, none⟩ = some (.int .i64 1) := (hb1.cell (p := ⟨wo.heap.size, 0, none⟩) lg).trans a0
  have b_1 : w1.cell? ⟨wo.heap.size, 1, none⟩ = some (.int .i64 2) := (hb1.cell (p := ⟨wo.heap.size, 1, none⟩) lg).trans a1
  have b_2 : w1.cell? ⟨wo.heap.size, 2, none⟩ = some (.int .i64 1) := (hb1.cell (p := ⟨wo.heap.size, 2, none⟩) lg).trans a2
  have b_3 : w1.cell? ⟨wo.heap.size, 3, none⟩ = some (.int .i64 1) := (hb1.cell (p := ⟨wo.heap.size, 3, none⟩) lg).trans a3
  have b_4 : w1.cell? ⟨wo.heap.size, 4, none⟩ = some (.int .i64 1) := (hb1.cell (p := ⟨wo.heap.size, 4, none⟩) lg).trans a4
  have b_5 : w1.cell? ⟨wo.heap.size, 5, none⟩ = some (.int .i64 2) := (hb1.cell (p := ⟨wo.heap.size, 5, none⟩) lg).trans a5
  have b_6 : w1.cell? ⟨wo.heap.size, 6, none⟩ = some (.int .i64 4) := (hb1.cell (p := ⟨wo.heap.size, 6, none⟩) lg).trans a6
  have b_7 : w1.cell? ⟨wo.heap.size, 7, none⟩ = some (.int .i64 2) := (hb1.cell (p := ⟨wo.heap.size, 7, none⟩) lg).trans a7
  have b_8 : w1.cell? ⟨wo.heap.size, 8, none⟩ = some (.int .i64 0) := (hb1.cell (p := ⟨wo.heap.size, 8, none⟩) lg).trans a8
  have b_9 : w1.cell? ⟨wo.heap.size, 9, none⟩ = some (.int .i64 (-1)) := (hb1.cell (p := ⟨wo.heap.size, 9, none⟩) lg).trans a9
  have l0 : wo.heap.size < w1.heap.size := Nat.lt_of_lt_of_le lg hb1.size
  clear a0 a1 a2 a3 a4 a5 a6 a7 a8 a9
  clear hb1
  go_wp2_with fail
  refine (H1.out _).mono ?_
  rintro e w2 ⟨rfl, hb2⟩
  have Q1 := hide (Q0.out.trans (hb2.mono Q0.out.size))
  have c_0 : w2.cell? ⟨wo.heap.size, 0, none⟩ = some (.int .i64 1) := (hb2.cell (p := ⟨wo.heap.size, 0, none⟩) l0).trans b_0
  have c_1 : w2.cell? ⟨wo.heap.size, 1, none⟩ = some (.int .i64 2) := (hb2.cell (p := ⟨wo.heap.size, 1, none⟩) l0).trans b_1
  have c_2 : w2.cell? ⟨wo.heap.size, 2, none⟩ = some (.int .i64 1) := (hb2.cell (p := ⟨wo.heap.size, 2, none⟩) l0).trans b_2
  have c_3 : w2.cell? ⟨wo.heap.size, 3, none⟩ = some (.int .i64 1) := (hb2.cell (p := ⟨wo.heap.size, 3, none⟩) l0).trans b_3
  have c_4 : w2.cell? ⟨wo.heap.size, 4, none⟩ = some (.int .i64 1) := (hb2.cell (p := ⟨wo.heap.size, 4, none⟩) l0).trans b_4
  have c_5 : w2.cell? ⟨wo.heap.size, 5, none⟩ = some (.int .i64 2) := (hb2.cell (p := ⟨wo.heap.size, 5, none⟩) l0).trans b_5
  have c_6 : w2.cell? ⟨wo.heap.size, 6, none⟩ = some (.int .i64 4) := (hb2.cell (p := ⟨wo.heap.size, 6, none⟩) l0).trans b_6
  have c_7 : w2.cell? ⟨wo.heap.size, 7, none⟩ = some (.int .i64 2) := (hb2.cell (p := ⟨wo.heap.size, 7, none⟩) l0).trans b_7
  have c_8 : w2.cell? ⟨wo.heap.size, 8, none⟩ = some (.int .i64 0) := (hb2.cell (p := ⟨wo.heap.size, 8, none⟩) l0).trans b_8
  have c_9 : w2.cell? ⟨wo.heap.size, 9, none⟩ = some (.int .i64 (-1)) := (hb2.cell (p := ⟨wo.heap.size, 9, none⟩) l0).trans b_9
  have l1 : wo.heap.size < w2.heap.size := Nat.lt_of_lt_of_le l0 hb2.size
  clear b_0 b_1 b_2 b_3 b_4 b_5 b_6 b_7 b_8 b_9
  clear hb2
  go_wp2_with fail
  refine (H2.out _).mono ?_
  rintro e w3 ⟨rfl, hb3⟩
  have Q2 := hide (Q1.out.trans (hb3.mono Q1.out.size))
  have d_0 : w3.cell? ⟨wo.heap.size, 0, none⟩ = some (.int .i64 1) := (hb3.cell (p := ⟨wo.heap.size, 0, none⟩) l1).trans c_0
  have d_1 : w3.cell? ⟨wo.heap.size, 1, none⟩ = some (.int .i64 2) := (hb3.cell (p := ⟨wo.heap.size, 1, none⟩) l1).trans c_1
  have d_2 : w3.cell? ⟨wo.heap.size, 2, none⟩ = some (.int .i64 1) := (hb3.cell (p := ⟨wo.heap.size, 2, none⟩) l1).trans c_2
  have d_3 : w3.cell? ⟨wo.heap.size, 3, none⟩ = some (.int .i64 1) := (hb3.cell (p := ⟨wo.heap.size, 3, none⟩) l1).trans c_3
  have d_4 : w3.cell? ⟨wo.heap.size, 4, none⟩ = some (.int .i64 1) := (hb3.cell (p := ⟨wo.heap.size, 4, none⟩) l1).trans c_4
  have d_5 : w3.cell? ⟨wo.heap.size, 5, none⟩ = some (.int .i64 2) := (hb3.cell (p := ⟨wo.heap.size, 5, none⟩) l1).trans c_5
  have d_6 : w3.cell? ⟨wo.heap.size, 6, none⟩ = some (.int .i64 4) := (hb3.cell (p := ⟨wo.heap.size, 6, none⟩) l1).trans c_6
  have d_7 : w3.cell? ⟨wo.heap.size, 7, none⟩ = some (.int .i64 2) := (hb3.cell (p := ⟨wo.heap.size, 7, none⟩) l1).trans c_7
  have d_8 : w3.cell? ⟨wo.heap.size, 8, none⟩ = some (.int .i64 0) := (hb3.cell (p := ⟨wo.heap.size, 8, none⟩) l1).trans c_8
  have d_9 : w3.cell? ⟨wo.heap.size, 9, none⟩ = some (.int .i64 (-1)) := (hb3.cell (p := ⟨wo.heap.size, 9, none⟩) l1).trans c_9
  have l2 : wo.heap.size < w3.heap.size := Nat.lt_of_lt_of_le l1 hb3.size
  clear c_0 c_1 c_2 c_3 c_4 c_5 c_6 c_7 c_8 c_9
  clear hb3
  go_wp2_with fail
  refine (H3.out _).mono ?_
  rintro e w4 ⟨rfl, hb4⟩
  have Q3 := hide (Q2.out.trans (hb4.mono Q2.out.size))
  have f_0 : w4.cell? ⟨wo.heap.size, 0, none⟩ = some (.int .i64 1) := (hb4.cell (p := ⟨wo.heap.size, 0, none⟩) l2).trans d_0
  have f_1 : w4.cell? ⟨wo.heap.size, 1, none⟩ = some (.int .i64 2) := (hb4.cell (p := ⟨wo.heap.size, 1, none⟩) l2).trans d_1
  have f_2 : w4.cell? ⟨wo.heap.size, 2, none⟩ = some (.int .i64 1) := (hb4.cell (p := ⟨wo.heap.size, 2, none⟩) l2).trans d_2
  have f_3 : w4.cell? ⟨wo.heap.size, 3, none⟩ = some (.int .i64 1) := (hb4.cell (p := ⟨wo.heap.size, 3, none⟩) l2).trans d_3
  have f_4 : w4.cell? ⟨wo.heap.size, 4, none⟩ = some (.int .i64 1) := (hb4.cell (p := ⟨wo.heap.size, 4, none⟩) l2).trans d_4
  have f_5 : w4.cell? ⟨wo.heap.size, 5, none⟩ = some (.int .i64 2) := (hb4.cell (p := ⟨wo.heap.size, 5, none⟩) l2).trans d_5
  have f_6 : w4.cell? ⟨wo.heap.size, 6, none⟩ = some (.int .i64 4) := (hb4.cell (p := ⟨wo.heap.size, 6, none⟩) l2).trans d_6
  have f_7 : w4.cell? ⟨wo.heap.size, 7, none⟩ = some (.int .i64 2) := (hb4.cell (p := ⟨wo.heap.size, 7, none⟩) l2).trans d_7
  have f_8 : w4.cell? ⟨wo.heap.size, 8, none⟩ = some (.int .i64 0) := (hb4.cell (p := ⟨wo.heap.size, 8, none⟩) l2).trans d_8
  have f_9 : w4.cell? ⟨wo.heap.size, 9, none⟩ = some (.int .i64 (-1)) := (hb4.cell (p := ⟨wo.heap.size, 9, none⟩) l2).trans d_9
  have l3 : wo.heap.size < w4.heap.size := Nat.lt_of_lt_of_le l2 hb4.size
  clear d_0 d_1 d_2 d_3 d_4 d_5 d_6 d_7 d_8 d_9
  clear hb4
  go_wp2_with fail
  refine (H4.out _).mono ?_
  rintro e w5 ⟨rfl, hb5⟩
  have Q4 := hide (Q3.out.trans (hb5.mono Q3.out.size))
  have g_0 : w5.cell? ⟨wo.heap.size, 0, none⟩ = some (.int .i64 1) := (hb5.cell (p := ⟨wo.heap.size, 0, none⟩) l3).trans f_0
  have g_1 : w5.cell? ⟨wo.heap.size, 1, none⟩ = some (.int .i64 2) := (hb5.cell (p := ⟨wo.heap.size, 1, none⟩) l3).trans f_1
  have g_2 : w5.cell? ⟨wo.heap.size, 2, none⟩ = some (.int .i64 1) := (hb5.cell (p := ⟨wo.heap.size, 2, none⟩) l3).trans f_2
  have g_3 : w5.cell? ⟨wo.heap.size, 3, none⟩ = some (.int .i64 1) := (hb5.cell (p := ⟨wo.heap.size, 3, none⟩) l3).trans f_3
  have g_4 : w5.cell? ⟨wo.heap.size, 4, none⟩ = some (.int .i64 1) := (hb5.cell (p := ⟨wo.heap.size, 4, none⟩) l3).trans f_4
  have g_5 : w5.cell? ⟨wo.heap.size, 5, none⟩ = some (.int .i64 2) := (hb5.cell (p := ⟨wo.heap.size, 5, none⟩) l3).trans f_5
  have g_6 : w5.cell? ⟨wo.heap.size, 6, none⟩ = some (.int .i64 4) := (hb5.cell (p := ⟨wo.heap.size, 6, none⟩) l3).trans f_6
  have g_7 : w5.cell? ⟨wo.heap.size, 7, none⟩ = some (.int .i64 2) := (hb5.cell (p := ⟨wo.heap.size, 7, none⟩) l3).trans f_7
  have g_8 : w5.cell? ⟨wo.heap.size, 8, none⟩ = some (.int .i64 0) := (hb5.cell (p := ⟨wo.heap.size, 8, none⟩) l3).trans f_8
  have g_9 : w5.cell? ⟨wo.heap.size, 9, none⟩ = some (.int .i64 (-1)) := (hb5.cell (p := ⟨wo.heap.size, 9, none⟩) l3).trans f_9
  have l4 : wo.heap.size < w5.heap.size := Nat.lt_of_lt_of_le l3 hb5.size
  clear f_0 f_1 f_2 f_3 f_4 f_5 f_6 f_7 f_8 f_9
  clear hb5
  go_wp2_with fail
  refine (H5.out _).mono ?_
  rintro e w6 ⟨rfl, hb6⟩
  have Q5 := hide (Q4.out.trans (hb6.mono Q4.out.size))
  have i_0 : w6.cell? ⟨wo.heap.size, 0, none⟩ = some (.int .i64 1) := (hb6.cell (p := ⟨wo.heap.size, 0, none⟩) l4).trans g_0
  have i_1 : w6.cell? ⟨wo.heap.size, 1, none⟩ = some (.int .i64 2) := (hb6.cell (p := ⟨wo.heap.size, 1, none⟩) l4).trans g_1
  have i_2 : w6.cell? ⟨wo.heap.size, 2, none⟩ = some (.int .i64 1) := (hb6.cell (p := ⟨wo.heap.size, 2, none⟩) l4).trans g_2
  have i_3 : w6.cell? ⟨wo.heap.size, 3, none⟩ = some (.int .i64 1) := (hb6.cell (p := ⟨wo.heap.size, 3, none⟩) l4).trans g_3
  have i_4 : w6.cell? ⟨wo.heap.size, 4, none⟩ = some (.int .i64 1) := (hb6.cell (p := ⟨wo.heap.size, 4, none⟩) l4).trans g_4
  have i_5 : w6.cell? ⟨wo.heap.size, 5, none⟩ = some (.int .i64 2) := (hb6.cell (p := ⟨wo.heap.size, 5, none⟩) l4).trans g_5
  have i_6 : w6.cell? ⟨wo.heap.size, 6, none⟩ = some (.int .i64 4) := (hb6.cell (p := ⟨wo.heap.size, 6, none⟩) l4).trans g_6
  have i_7 : w6.cell? ⟨wo.heap.size, 7, none⟩ = some (.int .i64 2) := (hb6.cell (p := ⟨wo.heap.size, 7, none⟩) l4).trans g_7
  have i_8 : w6.cell? ⟨wo.heap.size, 8, none⟩ = some (.int .i64 0) := (hb6.cell (p := ⟨wo.heap.size, 8, none⟩) l4).trans g_8
  have i_9 : w6.cell? ⟨wo.heap.size, 9, none⟩ = some (.int .i64 (-1)) := (hb6.cell (p := ⟨wo.heap.size, 9, none⟩) l4).trans g_9
  have l5 : wo.heap.size < w6.heap.size := Nat.lt_of_lt_of_le l4 hb6.size
  clear g_0 g_1 g_2 g_3 g_4 g_5 g_6 g_7 g_8 g_9
  clear hb6
  go_wp2_with fail
  refine (H6.out _).mono ?_
  rintro e w7 ⟨rfl, hb7⟩
  have Q6 := hide (Q5.out.trans (hb7.mono Q5.out.size))
  clear hb7
  go_wp2
  go_ret
  exact ⟨rfl, Q6.out⟩
end Go.Proofs.Ytnmoheipfadmeaa
