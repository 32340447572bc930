/-
  The document's gate (printed by gen_g2.py).
-/
import Derived.Test.YtnmoheipfadmeaaGtFirst
namespace Go.Proofs.Ytnmoheipfadmeaa
open Go.RowKit S
set_option linter.unusedVariables false
set_option linter.unusedSimpArgs false
def rfv (m : Int) (s : St) (n : Nat) : Nat → Value := fun i => if i < 1 then .int .i64 m else if i < 116 then s.v (i - 1) else .int .i64 (n : Int)
def gOn (m : Int) (s : St) (n : Nat) : Gt := ⟨m, s.loc, s.rem, s.ack, s.so, s.sp, n, s.ap, s.fail, s.closed⟩
theorem oneRf (m : Int) (s : St) (n : Nat) (i : Nat) : (rfv m s n i).oneCell' = true := by
  unfold rfv
  by_cases h : i < 1
  · rw [if_pos h]; rfl
  · rw [if_neg h]
    by_cases k : i < 116
    · rw [if_pos k]; exact oneSt s _
    · rw [if_neg k]; rfl
theorem infoRf : (Try.prog.info? 42).map (·.size) = some 117 := by kernel_rfl
theorem boxRf (w : World) (m : Int) (s : St) (n : Nat) : ∃ w1, w.alloc (.cells (tabv (rfv m s n) 117) 42) = w1 ∧ Below w.heap.size w w1 ∧ w.heap.size < w1.heap.size ∧ Has w1 w.heap.size 42 (rfv m s n) 117 :=
  ⟨_, rfl, (Below.refl w.heap.size w).alloc (Nat.le_refl _) _, by rw [size_alloc]; omega, Has.new w _ _ 117 _ rfl⟩
theorem wpW_rf {ops : Array Oper} {rest : List Oper} {o : Oper} {a : Act} {w : World} {Q : Exit → Act → World → Prop} (x : Operand) (ho : o.op = .load 42 x) (b : Nat) (hx : a.eval x = .pointer (some ⟨b, 0, none⟩)) (hw : Region.wanted o (yielded ops a.tmps) = true) (f : Nat → Value) (hg : Has w b 42 f 117) (h : wpList Try.prog ops Q rest (a.put o.dst (.agg (tabv f 117))) w) : wpList Try.prog ops Q (o :: rest) a w :=
  wpW_load_at 42 x ho b 0 hx hw f 117 _ (hg.at_ 0 (by omega) fun j _ => by rw [Nat.zero_add]) Try.underlying42 rfl infoRf h
set_option maxRecDepth 100000 in
set_option maxHeartbeats 40000000 in
theorem rstill_any (m : Int) (s : St) (n : Nat) (w : World) : Calls Try.prog 20 #[.agg (tabv (rfv m s n) 117)] w fun e w' => e = .returned (.bool (gOn m s n).still) ∧ Below w.heap.size w w' := by
  obtain ⟨w1, hW1, b1, l1, r1⟩ := boxRf w m s n
  have c114 : w1.cell? ⟨w.heap.size, 114, none⟩ = some (.int .i64 s.fail) := r1.cell 114 (by omega)
  have c115 : w1.cell? ⟨w.heap.size, 115, none⟩ = some (.int .i64 s.closed) := r1.cell 115 (by omega)
  clear r1
  unfold Gt.still
  show Calls Try.prog 20 #[.agg (tabv (rfv m s n) 117)] w fun e w' => e = .returned (.bool (s.fail == 0 && s.closed == -1)) ∧ Below w.heap.size w w'
  generalize tabv (rfv m s n) 117 = A at hW1 ⊢
  generalize s.fail = y8 at c114 ⊢
  generalize s.closed = y9 at c115 ⊢
  go_enter Try.func20, Try.ntmps20
  go_wp2
  all_goals go_ret
  all_goals refine ⟨congrArg (fun b => Ending.returned (Value.bool b)) ?_, b1⟩
  all_goals first | rfl | (simp_all; done) | (rw [Bool.eq_iff_iff]; simp; omega)
set_option maxRecDepth 100000 in
set_option maxHeartbeats 40000000 in
theorem rsend_any (m : Int) (s : St) (n : Nat) (i : Int) (w : World) : Calls Try.prog 12 #[.agg (tabv (rfv m s n) 117), .int .i64 i] w fun e w' => e = .returned (.bool ((gOn m s n).send i)) ∧ Below w.heap.size w w' := by
  obtain ⟨w1, hW1, b1, l1, r1⟩ := boxRf w m s n
  have c0 : w1.cell? ⟨w.heap.size, 0, none⟩ = some (.int .i64 m) := r1.cell 0 (by omega)
  have c7 : w1.cell? ⟨w.heap.size, 7, none⟩ = some (.int .i64 s.loc) := r1.cell 7 (by omega)
  have HC := hide (fun w => rstill_any m s n w)
  have B1 := hide b1
  have R1 := hide r1
  clear r1 b1
  unfold Gt.send
  generalize (gOn m s n).still = V at HC ⊢
  show Calls Try.prog 12 #[.agg (tabv (rfv m s n) 117), .int .i64 i] w fun e w' => e = .returned (.bool (V && (decide (0 ≤ i) && (decide (i ≤ m) && decide (i < s.loc))))) ∧ Below w.heap.size w w'
  generalize rfv m s n = f at hW1 HC R1 ⊢
  generalize s.loc = y1 at c7 ⊢
  go_enter Try.func12, Try.ntmps12
  go_wp2_with (refine wpW_rf _ rfl w.heap.size rfl rfl f R1.out ?_)
  refine (HC.out _).mono ?_
  rintro e w5 ⟨rfl, hb5⟩
  have B5 := hide (below2 B1.out hb5)
  have e0 : w5.cell? ⟨w.heap.size, 0, none⟩ = some (.int .i64 m) := (hb5.cell (p := ⟨w.heap.size, 0, none⟩) l1).trans c0
  have e7 : w5.cell? ⟨w.heap.size, 7, none⟩ = some (.int .i64 y1) := (hb5.cell (p := ⟨w.heap.size, 7, none⟩) l1).trans c7
  clear hb5 c0 c7 HC R1 hW1
  cases V
  all_goals go_wp2
  all_goals go_ret
  all_goals refine ⟨congrArg (fun b => Ending.returned (Value.bool b)) ?_, B5.out⟩
  all_goals (clear B5 e0 e7 B1 l1)
  all_goals first | rfl | (rw [Bool.eq_iff_iff]; simp; done) | (rw [Bool.eq_iff_iff]; simp; omega)
set_option maxRecDepth 100000 in
set_option maxHeartbeats 40000000 in
theorem rbroad_any (m : Int) (s : St) (n : Nat) (i : Int) (w : World) : Calls Try.prog 13 #[.agg (tabv (rfv m s n) 117), .int .i64 i] w fun e w' => e = .returned (.bool ((gOn m s n).broad i)) ∧ Below w.heap.size w w' := by
  obtain ⟨w1, hW1, b1, l1, r1⟩ := boxRf w m s n
  have c0 : w1.cell? ⟨w.heap.size, 0, none⟩ = some (.int .i64 m) := r1.cell 0 (by omega)
  have c7 : w1.cell? ⟨w.heap.size, 7, none⟩ = some (.int .i64 s.loc) := r1.cell 7 (by omega)
  have c114 : w1.cell? ⟨w.heap.size, 114, none⟩ = some (.int .i64 s.fail) := r1.cell 114 (by omega)
  have c115 : w1.cell? ⟨w.heap.size, 115, none⟩ = some (.int .i64 s.closed) := r1.cell 115 (by omega)
  clear r1
  unfold Gt.broad
  show Calls Try.prog 13 #[.agg (tabv (rfv m s n) 117), .int .i64 i] w fun e w' => e = .returned (.bool ((i == s.loc) && (decide (0 ≤ i) && (decide (m < i) && (!(s.fail == 180) && (s.closed == -1 || s.closed == i)))))) ∧ Below w.heap.size w w'
  generalize tabv (rfv m s n) 117 = A at hW1 ⊢
  generalize s.loc = y1 at c7 ⊢
  generalize s.fail = y8 at c114 ⊢
  generalize s.closed = y9 at c115 ⊢
  go_enter Try.func13, Try.ntmps13
  go_wp2
  all_goals go_ret
  all_goals refine ⟨congrArg (fun b => Ending.returned (Value.bool b)) ?_, b1⟩
  all_goals (clear hW1 b1 l1 c0 c7 c114 c115)
  all_goals first | rfl | (rw [Bool.eq_iff_iff]; simp; done) | (rw [Bool.eq_iff_iff]; simp; omega) | (simp_all; done) | (simp_all; omega)
set_option maxRecDepth 100000 in
set_option maxHeartbeats 40000000 in
theorem rsign_any (m : Int) (s : St) (n : Nat) (i a b : Int) (w : World) : Calls Try.prog 14 #[.agg (tabv (rfv m s n) 117), .int .i64 i, .agg #[.int .i64 a, .int .i64 b]] w fun e w' => e = .returned (.bool ((gOn m s n).sign i a b)) ∧ Below w.heap.size w w' := by
  obtain ⟨w1, hW1, b1, l1, r1⟩ := boxRf w m s n
  obtain ⟨w2, hW2, b2, d0, d1, r2⟩ := boxCt w1 a b
  have l2 : w1.heap.size < w2.heap.size := by rw [← hW2, size_alloc]; omega
  have r2 : Has w2 w.heap.size 42 (rfv m s n) 117 := by unfold Has; rw [r2 _ l1]; exact r1
  have c8 : w2.cell? ⟨w.heap.size, 8, none⟩ = some (.int .i64 s.rem) := r2.cell 8 (by omega)
  have c9 : w2.cell? ⟨w.heap.size, 9, none⟩ = some (.int .i64 s.ack) := r2.cell 9 (by omega)
  have c11 : w2.cell? ⟨w.heap.size, 11, none⟩ = some (.int .i64 s.ap) := r2.cell 11 (by omega)
  have c12 : w2.cell? ⟨w.heap.size, 12, none⟩ = some (.int .i64 s.so) := r2.cell 12 (by omega)
  have c13 : w2.cell? ⟨w.heap.size, 13, none⟩ = some (.int .i64 s.sp) := r2.cell 13 (by omega)
  have c116 : w2.cell? ⟨w.heap.size, 116, none⟩ = some (.int .i64 (n : Int)) := r2.cell 116 (by omega)
  have HC := hide (fun w => rstill_any m s n w)
  have B2 := hide (below2 b1 b2)
  have R2 := hide r2
  clear r1 b1 r2 b2
  unfold Gt.sign Gt.again Gt.anew
  generalize (gOn m s n).still = V at HC ⊢
  show Calls Try.prog 14 #[.agg (tabv (rfv m s n) 117), .int .i64 i, .agg #[.int .i64 a, .int .i64 b]] w fun e w' => e = .returned (.bool (V && (decide (1 ≤ i) && ((i == s.rem && (a == s.so && b == s.sp)) || (s.rem == s.ack && ((wrap64 (i - 1) == s.rem) && (decide (s.so ≤ a) && (decide (a ≤ (n : Int)) && ((b == s.ap) && !(a == s.so && b == s.sp)))))))))) ∧ Below w.heap.size w w'
  generalize rfv m s n = f at hW1 HC R2 ⊢
  generalize s.rem = y2 at c8 ⊢
  generalize s.ack = y3 at c9 ⊢
  generalize s.ap = y7 at c11 ⊢
  generalize s.so = y4 at c12 ⊢
  generalize s.sp = y5 at c13 ⊢
  generalize (n : Int) = y6 at c116 ⊢
  go_enter Try.func14, Try.ntmps14
  go_wp2_with (refine wpW_rf _ rfl w.heap.size rfl rfl f R2.out ?_)
  refine (HC.out _).mono ?_
  rintro e w5 ⟨rfl, hb5⟩
  have B5 := hide (B2.out.trans (hb5.mono B2.out.size))
  have e8 : w5.cell? ⟨w.heap.size, 8, none⟩ = some (.int .i64 y2) := (hb5.cell (p := ⟨w.heap.size, 8, none⟩) (Nat.lt_trans l1 l2)).trans c8
  have e9 : w5.cell? ⟨w.heap.size, 9, none⟩ = some (.int .i64 y3) := (hb5.cell (p := ⟨w.heap.size, 9, none⟩) (Nat.lt_trans l1 l2)).trans c9
  have e11 : w5.cell? ⟨w.heap.size, 11, none⟩ = some (.int .i64 y7) := (hb5.cell (p := ⟨w.heap.size, 11, none⟩) (Nat.lt_trans l1 l2)).trans c11
  have e12 : w5.cell? ⟨w.heap.size, 12, none⟩ = some (.int .i64 y4) := (hb5.cell (p := ⟨w.heap.size, 12, none⟩) (Nat.lt_trans l1 l2)).trans c12
  have e13 : w5.cell? ⟨w.heap.size, 13, none⟩ = some (.int .i64 y5) := (hb5.cell (p := ⟨w.heap.size, 13, none⟩) (Nat.lt_trans l1 l2)).trans c13
  have e116 : w5.cell? ⟨w.heap.size, 116, none⟩ = some (.int .i64 y6) := (hb5.cell (p := ⟨w.heap.size, 116, none⟩) (Nat.lt_trans l1 l2)).trans c116
  have f0 : w5.cell? ⟨w1.heap.size, 0, none⟩ = some (.int .i64 a) := (hb5.cell (p := ⟨w1.heap.size, 0, none⟩) l2).trans d0
  have f1 : w5.cell? ⟨w1.heap.size, 1, none⟩ = some (.int .i64 b) := (hb5.cell (p := ⟨w1.heap.size, 1, none⟩) l2).trans d1
  clear hb5 HC R2 hW1 hW2 d0 d1 c8 c9 c11 c12 c13 c116
  cases V
  all_goals go_wp2
  all_goals go_ret
  all_goals refine ⟨congrArg (fun b => Ending.returned (Value.bool b)) ?_, B5.out⟩
  all_goals (clear B5 B2 l1 l2 f0 f1 e8 e9 e11 e12 e13 e116)
  all_goals first | rfl | (rw [Bool.eq_iff_iff]; simp; done) | (rw [Bool.eq_iff_iff]; simp; omega) | (simp_all; done) | (simp_all; omega)
end Go.Proofs.Ytnmoheipfadmeaa
