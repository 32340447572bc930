/-
  Values against one another; bare (printed by gen_r3.py).
-/
import Derived.Test.YtlohfoggcdaeiaaGreatRValid
namespace Go.Proofs.YtlohfoggcdaeiaaGreat
open Go.RowKit S
set_option linter.unusedVariables false
set_option linter.unusedSimpArgs false
open Cu (nb be hl ofL CW Mw CR Mr RS takeS takeA hOf nil8 num doneS)
def ctv (a b : Int) : Nat → Value := fun i => if i < 1 then .int .i64 a else .int .i64 b
theorem infoC : (Tryz.prog.info? 23).map (·.size) = some 2 := by kernel_rfl
theorem builtC (a b : Int) : Tryz.prog.built 23 [(0, .int .i64 a), (1, .int .i64 b)] = some (tabv (ctv a b) 2) := by kernel_rfl
theorem builtCZ : Tryz.prog.built 23 [] = some (tabv (ctv 0 0) 2) := by kernel_rfl
theorem guardC : Tryz.prog.eqGuardType Tryz.prog.depth 23 = false := by kernel_rfl
theorem builtHZ : Tryz.prog.built 25 [] = some (tabv (bv z32) 32) := by kernel_rfl
theorem zero32z : (#[.int .u8 0, .int .u8 0, .int .u8 0, .int .u8 0, .int .u8 0, .int .u8 0, .int .u8 0, .int .u8 0, .int .u8 0, .int .u8 0, .int .u8 0, .int .u8 0, .int .u8 0, .int .u8 0, .int .u8 0, .int .u8 0, .int .u8 0, .int .u8 0, .int .u8 0, .int .u8 0, .int .u8 0, .int .u8 0, .int .u8 0, .int .u8 0, .int .u8 0, .int .u8 0, .int .u8 0, .int .u8 0, .int .u8 0, .int .u8 0, .int .u8 0, .int .u8 0] : Array Value) = tabv (bv z32) 32 := by kernel_rfl
theorem fieldsC : (Tryz.prog.fieldsOf 23).toList.map (fun f => (f.name, f.type, f.offset)) = [("Ours", 3, 0), ("Peers", 3, 1)] := by kernel_rfl
theorem eqCD (w : World) (a b c d : Int) : (Op.equalIn 10000 23 (.agg (tabv (ctv a b) 2)) (.agg (tabv (ctv c d) 2))).run Tryz.prog w = .ok ((a == c) && (b == d)) w := by
  rw [run_equalIn_struct w 9999 23 _ _ (by kernel_rfl) (by kernel_rfl)]
  have hf := fieldsC
  generalize (Tryz.prog.fieldsOf 23).toList = fs at hf
  rcases fs with _ | ⟨f0, _ | ⟨f1, _ | ⟨f2, fs⟩⟩⟩
  · simp at hf
  · simp at hf
  · simp only [List.map_cons, List.map_nil, List.cons.injEq, Prod.mk.injEq, and_true] at hf
    obtain ⟨⟨n0, t0, o0⟩, n1, t1, o1⟩ := hf
    have p0 : ∀ a b : Int, (part 3 (tabv (ctv a b) 2) 0).run Tryz.prog w = .ok (.int .i64 a) w := fun a b => by simp [part, isAgg, run_underlying Tryz.underlying3, tabv_get _ _ _ (show 0 < 2 by omega), ctv]
    have p1 : ∀ a b : Int, (part 3 (tabv (ctv a b) 2) 1).run Tryz.prog w = .ok (.int .i64 b) w := fun a b => by simp [part, isAgg, run_underlying Tryz.underlying3, tabv_get _ _ _ (show 1 < 2 by omega), ctv]
    have q0 : ∀ a b : Int, (Op.equalIn 9999 3 (.int .i64 a) (.int .i64 b)).run Tryz.prog w = .ok (a == b) w := fun a b => run_equalIn_int w 9998 3 .i64 .i64 _ _ Tryz.underlying3
    have m0 : f0.name ≠ "_" := by rw [n0]; decide
    have m1 : f1.name ≠ "_" := by rw [n1]; decide
    simp only [Op.eqFields, if_pos m0, if_pos m1, t0, t1, o0, o1, Sem.run_bind, p0, q0, Result.andThen_ok]
    cases a == c
    · simp
    · cases hq : b == d <;> simp [p1, q0, hq]
  · simp at hf
theorem run_eqC {o : Oper} {a : Act} (w : World) (x y : Operand) (A B : Array Value) (R : Bool) (ho : o.op = .binOp .eql 23 x y 23) (hx : a.eval x = .agg A) (hy : a.eval y = .agg B)
    (hq : ∀ w : World, (Op.equalIn 10000 23 (.agg A) (.agg B)).run Tryz.prog w = .ok R w) : (execOp a.eval o).run Tryz.prog w = .ok (.value (.bool R)) w := by
  have gh := guardC
  unfold execOp
  simp only [ho, hx, hy]
  go_simp
theorem run_neC {o : Oper} {a : Act} (w : World) (x y : Operand) (A B : Array Value) (R : Bool) (ho : o.op = .binOp .neq 23 x y 23) (hx : a.eval x = .agg A) (hy : a.eval y = .agg B)
    (hq : ∀ w : World, (Op.equalIn 10000 23 (.agg A) (.agg B)).run Tryz.prog w = .ok R w) : (execOp a.eval o).run Tryz.prog w = .ok (.value (.bool (!R))) w := by
  have gh := guardC
  unfold execOp
  simp only [ho, hx, hy]
  go_simp
theorem wpW_eqC {ops : Array Oper} {rest : List Oper} {o : Oper} {a : Act} {w : World} {Q : Exit → Act → World → Prop} (hw : Region.wanted o (yielded ops a.tmps) = true) (x y : Operand) (ho : o.op = .binOp .eql 23 x y 23) (A B : Array Value) (R : Bool) (hx : a.eval x = .agg A) (hy : a.eval y = .agg B)
    (hq : ∀ w : World, (Op.equalIn 10000 23 (.agg A) (.agg B)).run Tryz.prog w = .ok R w) (k : wpList Tryz.prog ops Q rest (a.put o.dst (.bool R)) w) : wpList Tryz.prog ops Q (o :: rest) a w := by
  refine wpList_step fun K hK => ?_
  rw [if_pos hw]
  exact wpRun (run_eqC w x y A B R ho hx hy hq) (hK _ _ k)
theorem wpW_neC {ops : Array Oper} {rest : List Oper} {o : Oper} {a : Act} {w : World} {Q : Exit → Act → World → Prop} (hw : Region.wanted o (yielded ops a.tmps) = true) (x y : Operand) (ho : o.op = .binOp .neq 23 x y 23) (A B : Array Value) (R : Bool) (hx : a.eval x = .agg A) (hy : a.eval y = .agg B)
    (hq : ∀ w : World, (Op.equalIn 10000 23 (.agg A) (.agg B)).run Tryz.prog w = .ok R w) (k : wpList Tryz.prog ops Q rest (a.put o.dst (.bool (!R))) w) : wpList Tryz.prog ops Q (o :: rest) a w := by
  refine wpList_step fun K hK => ?_
  rw [if_pos hw]
  exact wpRun (run_neC w x y A B R ho hx hy hq) (hK _ _ k)
theorem run_eqU {o : Oper} {a : Act} (w : World) (x y : Operand) (A B : Array Value) (R : Bool) (ho : o.op = .binOp .eql 36 x y 36) (hx : a.eval x = .agg A) (hy : a.eval y = .agg B)
    (hq : ∀ w : World, (Op.equalIn 10000 36 (.agg A) (.agg B)).run Tryz.prog w = .ok R w) : (execOp a.eval o).run Tryz.prog w = .ok (.value (.bool R)) w := by
  have gh := guardU
  unfold execOp
  simp only [ho, hx, hy]
  go_simp
theorem run_neU {o : Oper} {a : Act} (w : World) (x y : Operand) (A B : Array Value) (R : Bool) (ho : o.op = .binOp .neq 36 x y 36) (hx : a.eval x = .agg A) (hy : a.eval y = .agg B)
    (hq : ∀ w : World, (Op.equalIn 10000 36 (.agg A) (.agg B)).run Tryz.prog w = .ok R w) : (execOp a.eval o).run Tryz.prog w = .ok (.value (.bool (!R))) w := by
  have gh := guardU
  unfold execOp
  simp only [ho, hx, hy]
  go_simp
theorem wpW_eqU {ops : Array Oper} {rest : List Oper} {o : Oper} {a : Act} {w : World} {Q : Exit → Act → World → Prop} (hw : Region.wanted o (yielded ops a.tmps) = true) (x y : Operand) (ho : o.op = .binOp .eql 36 x y 36) (A B : Array Value) (R : Bool) (hx : a.eval x = .agg A) (hy : a.eval y = .agg B)
    (hq : ∀ w : World, (Op.equalIn 10000 36 (.agg A) (.agg B)).run Tryz.prog w = .ok R w) (k : wpList Tryz.prog ops Q rest (a.put o.dst (.bool R)) w) : wpList Tryz.prog ops Q (o :: rest) a w := by
  refine wpList_step fun K hK => ?_
  rw [if_pos hw]
  exact wpRun (run_eqU w x y A B R ho hx hy hq) (hK _ _ k)
theorem wpW_neU {ops : Array Oper} {rest : List Oper} {o : Oper} {a : Act} {w : World} {Q : Exit → Act → World → Prop} (hw : Region.wanted o (yielded ops a.tmps) = true) (x y : Operand) (ho : o.op = .binOp .neq 36 x y 36) (A B : Array Value) (R : Bool) (hx : a.eval x = .agg A) (hy : a.eval y = .agg B)
    (hq : ∀ w : World, (Op.equalIn 10000 36 (.agg A) (.agg B)).run Tryz.prog w = .ok R w) (k : wpList Tryz.prog ops Q rest (a.put o.dst (.bool (!R))) w) : wpList Tryz.prog ops Q (o :: rest) a w := by
  refine wpList_step fun K hK => ?_
  rw [if_pos hw]
  exact wpRun (run_neU w x y A B R ho hx hy hq) (hK _ _ k)
theorem run_eqHq {o : Oper} {a : Act} (w : World) (x y : Operand) (A B : Array Value) (R : Bool) (ho : o.op = .binOp .eql 25 x y 25) (hx : a.eval x = .agg A) (hy : a.eval y = .agg B)
    (hq : ∀ w : World, (Op.equalIn 10000 25 (.agg A) (.agg B)).run Tryz.prog w = .ok R w) : (execOp a.eval o).run Tryz.prog w = .ok (.value (.bool R)) w := by
  have gh := guard26
  unfold execOp
  simp only [ho, hx, hy]
  go_simp
theorem run_neHq {o : Oper} {a : Act} (w : World) (x y : Operand) (A B : Array Value) (R : Bool) (ho : o.op = .binOp .neq 25 x y 25) (hx : a.eval x = .agg A) (hy : a.eval y = .agg B)
    (hq : ∀ w : World, (Op.equalIn 10000 25 (.agg A) (.agg B)).run Tryz.prog w = .ok R w) : (execOp a.eval o).run Tryz.prog w = .ok (.value (.bool (!R))) w := by
  have gh := guard26
  unfold execOp
  simp only [ho, hx, hy]
  go_simp
theorem wpW_eqH {ops : Array Oper} {rest : List Oper} {o : Oper} {a : Act} {w : World} {Q : Exit → Act → World → Prop} (hw : Region.wanted o (yielded ops a.tmps) = true) (x y : Operand) (ho : o.op = .binOp .eql 25 x y 25) (A B : Array Value) (R : Bool) (hx : a.eval x = .agg A) (hy : a.eval y = .agg B)
    (hq : ∀ w : World, (Op.equalIn 10000 25 (.agg A) (.agg B)).run Tryz.prog w = .ok R w) (k : wpList Tryz.prog ops Q rest (a.put o.dst (.bool R)) w) : wpList Tryz.prog ops Q (o :: rest) a w := by
  refine wpList_step fun K hK => ?_
  rw [if_pos hw]
  exact wpRun (run_eqHq w x y A B R ho hx hy hq) (hK _ _ k)
theorem wpW_neH {ops : Array Oper} {rest : List Oper} {o : Oper} {a : Act} {w : World} {Q : Exit → Act → World → Prop} (hw : Region.wanted o (yielded ops a.tmps) = true) (x y : Operand) (ho : o.op = .binOp .neq 25 x y 25) (A B : Array Value) (R : Bool) (hx : a.eval x = .agg A) (hy : a.eval y = .agg B)
    (hq : ∀ w : World, (Op.equalIn 10000 25 (.agg A) (.agg B)).run Tryz.prog w = .ok R w) (k : wpList Tryz.prog ops Q rest (a.put o.dst (.bool (!R))) w) : wpList Tryz.prog ops Q (o :: rest) a w := by
  refine wpList_step fun K hK => ?_
  rw [if_pos hw]
  exact wpRun (run_neHq w x y A B R ho hx hy hq) (hK _ _ k)
theorem Has.atUpd {w : World} {g : Nat} {r : Rc} (h : Has w g 38 r.v 138) : At w g 1 r.upd.v 36 := fun j hj => by rw [h.cell (1 + j) (by omega), Rc.v_upd r j hj]
theorem Has.atSig {w : World} {g : Nat} {r : Rc} (h : Has w g 38 r.v 138) : At w g 41 (bv r.sig) 32 := fun j hj => by rw [h.cell (41 + j) (by omega), Rc.v_sig r j hj]
theorem Has.atSec {w : World} {g : Nat} {r : Rc} (h : Has w g 38 r.v 138) : At w g 73 (bv r.sec) 32 := fun j hj => by rw [h.cell (73 + j) (by omega), Rc.v_sec r j hj]
theorem Has.atPt {w : World} {g : Nat} {r : Rc} (h : Has w g 38 r.v 138) : At w g 105 (bv r.pt) 32 := fun j hj => by rw [h.cell (105 + j) (by omega), Rc.v_pt r j hj]
theorem Has.atCts {w : World} {g : Nat} {r : Rc} (h : Has w g 38 r.v 138) : At w g 39 (ctv r.co r.cp) 2 := fun j hj => by
  rw [h.cell (39 + j) (by omega)]
  rcases (show j = 0 ∨ j = 1 by omega) with rfl | rfl <;> rfl
theorem newH2 (w5 : World) (s : Nat → UInt8) : ∃ w6 w7, w5.alloc (.cells #[.int .u8 0, .int .u8 0, .int .u8 0, .int .u8 0, .int .u8 0, .int .u8 0, .int .u8 0, .int .u8 0, .int .u8 0, .int .u8 0, .int .u8 0, .int .u8 0, .int .u8 0, .int .u8 0, .int .u8 0, .int .u8 0, .int .u8 0, .int .u8 0, .int .u8 0, .int .u8 0, .int .u8 0, .int .u8 0, .int .u8 0, .int .u8 0, .int .u8 0, .int .u8 0, .int .u8 0, .int .u8 0, .int .u8 0, .int .u8 0, .int .u8 0, .int .u8 0] 25) = w6 ∧ Has w6 w5.heap.size 25 (bv z32) 32 ∧ w6.setRow w5.heap.size (tabv (bv s) 32) = w7 ∧ Has w7 w5.heap.size 25 (bv s) 32 ∧ Below w5.heap.size w5 w7 ∧ Below w5.heap.size w5 w6 := by
  have q1 : Has (w5.alloc (.cells (tabv (bv z32) 32) 25)) w5.heap.size 25 (bv z32) 32 := Has.new w5 25 (bv z32) 32 _ rfl
  have b1 : Below w5.heap.size w5 (w5.alloc (.cells (tabv (bv z32) 32) 25)) := (Below.refl w5.heap.size w5).alloc (Nat.le_refl _) _
  exact ⟨_, _, by rw [zero32z], q1, rfl, q1.row _ (bv s) rfl, below_setRow b1 (Nat.le_refl _) _, b1⟩
set_option maxRecDepth 100000 in
set_option maxHeartbeats 40000000 in
theorem bare_any (r : Rc) (w : World) : Calls Tryz.prog 52 #[.agg (tabv r.v 138)] w fun e w' => e = .returned (.bool (bareB r)) ∧ Below w.heap.size w w' := by
  obtain ⟨w1, hW1⟩ : ∃ wX, w.alloc (.cells (tabv r.v 138) 38) = wX := ⟨_, rfl⟩
  have r1 : Has w1 w.heap.size 38 r.v 138 := by rw [← hW1]; exact Has.new w 38 r.v 138 _ rfl
  have b1 : Below w.heap.size w w1 := by rw [← hW1]; exact (Below.refl w.heap.size w).alloc (Nat.le_refl _) _
  obtain ⟨w2, w3, hW2, q2, hW3, q3, b3, b2⟩ := newH2 w1 z32
  have q1 := r1.below b3 r1.lt
  have c37 : w3.cell? ⟨w.heap.size, 37, none⟩ = some (.slice r.upds.ad r.upds.n r.upds.c) := q1.cell 37 (by omega)
  have c38 : w3.cell? ⟨w.heap.size, 38, none⟩ = some (.int .i64 r.idx) := q1.cell 38 (by omega)
  have c137 : w3.cell? ⟨w.heap.size, 137, none⟩ = some (.int .i64 r.code) := q1.cell 137 (by omega)
  have R1 := hide q1
  have Q2 := hide q2
  have Q3 := hide q3
  have HB : Hid (Below w.heap.size w w3) := b1.trans (b3.mono b1.size)
  clear r1 b1 q2 q3 b3 b2 q1
  have E0 : Hid (∀ w : World, (Op.equalIn 10000 36 (.agg (tabv r.upd.v 36)) (.agg (tabv Upd.zero.v 36))).run Tryz.prog w = .ok (eqU r.upd Upd.zero) w) := fun w => eqUD w _ _
  have E3 : Hid (∀ w : World, (Op.equalIn 10000 23 (.agg (tabv (ctv r.co r.cp) 2)) (.agg (tabv (ctv 0 0) 2))).run Tryz.prog w = .ok ((r.co == 0) && (r.cp == 0)) w) := fun w => eqCD w _ _ _ _
  have E4 : Hid (∀ w : World, (Op.equalIn 10000 25 (.agg (tabv (bv r.sig) 32)) (.agg (tabv (bv z32) 32))).run Tryz.prog w = .ok (eqH r.sig z32) w) := fun w => eqHD 9998 w _ _
  have E5 : Hid (∀ w : World, (Op.equalIn 10000 25 (.agg (tabv (bv r.sec) 32)) (.agg (tabv (bv z32) 32))).run Tryz.prog w = .ok (eqH r.sec z32) w) := fun w => eqHD 9998 w _ _
  have E6 : Hid (∀ w : World, (Op.equalIn 10000 25 (.agg (tabv (bv r.pt) 32)) (.agg (tabv (bv z32) 32))).run Tryz.prog w = .ok (eqH r.pt z32) w) := fun w => eqHD 9998 w _ _
  unfold bareB
  obtain ⟨B0, hB0⟩ : ∃ B, eqU r.upd Upd.zero = B := ⟨_, rfl⟩
  rw [hB0] at E0 ⊢
  obtain ⟨B1, hB1⟩ : ∃ B, ((r.upds.n : Int) == 0) = B := ⟨_, rfl⟩
  rw [hB1]
  obtain ⟨B2, hB2⟩ : ∃ B, (r.idx == 0) = B := ⟨_, rfl⟩
  rw [hB2]
  obtain ⟨B3, hB3⟩ : ∃ B, ((r.co == 0) && (r.cp == 0)) = B := ⟨_, rfl⟩
  rw [hB3] at E3 ⊢
  obtain ⟨B4, hB4⟩ : ∃ B, eqH r.sig z32 = B := ⟨_, rfl⟩
  rw [hB4] at E4 ⊢
  obtain ⟨B5, hB5⟩ : ∃ B, eqH r.sec z32 = B := ⟨_, rfl⟩
  rw [hB5] at E5 ⊢
  obtain ⟨B6, hB6⟩ : ∃ B, eqH r.pt z32 = B := ⟨_, rfl⟩
  rw [hB6] at E6 ⊢
  obtain ⟨B7, hB7⟩ : ∃ B, (r.code == 0) = B := ⟨_, rfl⟩
  rw [hB7]
  clear hB0 hB3 hB4 hB5 hB6
  cases B0 with
  | false =>
    go_enter Tryz.func52, Tryz.ntmps52
    go_wp2_with (first | rw [hW3] | refine wpList_store_part rfl 25 _ _ rfl rfl w1.heap.size 0 (bv z32) 32 rfl rfl 25 _ 32 Q2.out (by omega) info26 (fun i _ => rfl) (bv z32) (fun i hi => by unfold splice; rw [if_pos (by omega), Nat.sub_zero]) ?_ | refine wpW_build (by rfl) 25 #[] rfl [] (by first | rfl | (simp [Act.eval, Act.put]; done)) _ builtHZ ?_ | refine wpW_load_at 36 _ rfl (w.heap.size) (1) (by rfl) (by rfl) _ 36 _ (R1.out.atUpd) Tryz.underlying36 rfl infoU ?_ | refine wpW_build (by rfl) 36 #[] rfl [] (by first | rfl | (simp [Act.eval, Act.put]; done)) _ builtZ ?_ | refine wpW_eqU (by rfl) (.tmp 6) (.tmp 7) rfl _ _ _ (by rfl) (by rfl) E0.out ?_ | fail)
    try rw [hW3]
    go_ret
    exact ⟨rfl, HB.out⟩
  | true =>
    cases B1 with
    | false =>
      go_enter Tryz.func52, Tryz.ntmps52
      go_wp2_with (first | rw [hW3] | refine wpList_store_part rfl 25 _ _ rfl rfl w1.heap.size 0 (bv z32) 32 rfl rfl 25 _ 32 Q2.out (by omega) info26 (fun i _ => rfl) (bv z32) (fun i hi => by unfold splice; rw [if_pos (by omega), Nat.sub_zero]) ?_ | refine wpW_build (by rfl) 25 #[] rfl [] (by first | rfl | (simp [Act.eval, Act.put]; done)) _ builtHZ ?_ | refine wpW_load_at 36 _ rfl (w.heap.size) (1) (by rfl) (by rfl) _ 36 _ (R1.out.atUpd) Tryz.underlying36 rfl infoU ?_ | refine wpW_build (by rfl) 36 #[] rfl [] (by first | rfl | (simp [Act.eval, Act.put]; done)) _ builtZ ?_ | refine wpW_eqU (by rfl) (.tmp 6) (.tmp 7) rfl _ _ _ (by rfl) (by rfl) E0.out ?_ | fail)
      try rw [hW3]
      go_ret
      exact ⟨rfl, HB.out⟩
    | true =>
      cases B2 with
      | false =>
        go_enter Tryz.func52, Tryz.ntmps52
        go_wp2_with (first | rw [hW3] | refine wpList_store_part rfl 25 _ _ rfl rfl w1.heap.size 0 (bv z32) 32 rfl rfl 25 _ 32 Q2.out (by omega) info26 (fun i _ => rfl) (bv z32) (fun i hi => by unfold splice; rw [if_pos (by omega), Nat.sub_zero]) ?_ | refine wpW_build (by rfl) 25 #[] rfl [] (by first | rfl | (simp [Act.eval, Act.put]; done)) _ builtHZ ?_ | refine wpW_load_at 36 _ rfl (w.heap.size) (1) (by rfl) (by rfl) _ 36 _ (R1.out.atUpd) Tryz.underlying36 rfl infoU ?_ | refine wpW_build (by rfl) 36 #[] rfl [] (by first | rfl | (simp [Act.eval, Act.put]; done)) _ builtZ ?_ | refine wpW_eqU (by rfl) (.tmp 6) (.tmp 7) rfl _ _ _ (by rfl) (by rfl) E0.out ?_ | fail)
        try rw [hW3]
        go_ret
        exact ⟨rfl, HB.out⟩
      | true =>
        cases B3 with
        | false =>
          go_enter Tryz.func52, Tryz.ntmps52
          go_wp2_with (first | rw [hW3] | refine wpList_store_part rfl 25 _ _ rfl rfl w1.heap.size 0 (bv z32) 32 rfl rfl 25 _ 32 Q2.out (by omega) info26 (fun i _ => rfl) (bv z32) (fun i hi => by unfold splice; rw [if_pos (by omega), Nat.sub_zero]) ?_ | refine wpW_build (by rfl) 25 #[] rfl [] (by first | rfl | (simp [Act.eval, Act.put]; done)) _ builtHZ ?_ | refine wpW_load_at 36 _ rfl (w.heap.size) (1) (by rfl) (by rfl) _ 36 _ (R1.out.atUpd) Tryz.underlying36 rfl infoU ?_ | refine wpW_build (by rfl) 36 #[] rfl [] (by first | rfl | (simp [Act.eval, Act.put]; done)) _ builtZ ?_ | refine wpW_eqU (by rfl) (.tmp 6) (.tmp 7) rfl _ _ _ (by rfl) (by rfl) E0.out ?_ | refine wpW_load_at 23 _ rfl (w.heap.size) (39) (by rfl) (by rfl) _ 2 _ (R1.out.atCts) Tryz.underlying23 rfl infoC ?_ | refine wpW_build (by rfl) 23 #[] rfl [] (by first | rfl | (simp [Act.eval, Act.put]; done)) _ builtCZ ?_ | refine wpW_eqC (by rfl) (.tmp 22) (.tmp 23) rfl _ _ _ (by rfl) (by rfl) E3.out ?_ | fail)
          try rw [hW3]
          go_ret
          exact ⟨rfl, HB.out⟩
        | true =>
          cases B4 with
          | false =>
            go_enter Tryz.func52, Tryz.ntmps52
            go_wp2_with (first | rw [hW3] | refine wpList_store_part rfl 25 _ _ rfl rfl w1.heap.size 0 (bv z32) 32 rfl rfl 25 _ 32 Q2.out (by omega) info26 (fun i _ => rfl) (bv z32) (fun i hi => by unfold splice; rw [if_pos (by omega), Nat.sub_zero]) ?_ | refine wpW_build (by rfl) 25 #[] rfl [] (by first | rfl | (simp [Act.eval, Act.put]; done)) _ builtHZ ?_ | refine wpW_load_at 36 _ rfl (w.heap.size) (1) (by rfl) (by rfl) _ 36 _ (R1.out.atUpd) Tryz.underlying36 rfl infoU ?_ | refine wpW_build (by rfl) 36 #[] rfl [] (by first | rfl | (simp [Act.eval, Act.put]; done)) _ builtZ ?_ | refine wpW_eqU (by rfl) (.tmp 6) (.tmp 7) rfl _ _ _ (by rfl) (by rfl) E0.out ?_ | refine wpW_load_at 23 _ rfl (w.heap.size) (39) (by rfl) (by rfl) _ 2 _ (R1.out.atCts) Tryz.underlying23 rfl infoC ?_ | refine wpW_build (by rfl) 23 #[] rfl [] (by first | rfl | (simp [Act.eval, Act.put]; done)) _ builtCZ ?_ | refine wpW_eqC (by rfl) (.tmp 22) (.tmp 23) rfl _ _ _ (by rfl) (by rfl) E3.out ?_ | refine wpW_load_at 25 _ rfl (w.heap.size) (41) (by rfl) (by rfl) _ 32 _ (R1.out.atSig) Tryz.underlying25 rfl info26 ?_ | refine wpW_load_at 25 _ rfl (w1.heap.size) (0) (by rfl) (by rfl) _ 32 _ (Q3.out.at_ 0 (by omega) (fun i hi => by rw [Nat.zero_add])) Tryz.underlying25 rfl info26 ?_ | refine wpW_eqH (by rfl) (.tmp 28) (.tmp 29) rfl _ _ _ (by rfl) (by rfl) E4.out ?_ | fail)
            try rw [hW3]
            go_ret
            exact ⟨rfl, HB.out⟩
          | true =>
            cases B5 with
            | false =>
              go_enter Tryz.func52, Tryz.ntmps52
              go_wp2_with (first | rw [hW3] | refine wpList_store_part rfl 25 _ _ rfl rfl w1.heap.size 0 (bv z32) 32 rfl rfl 25 _ 32 Q2.out (by omega) info26 (fun i _ => rfl) (bv z32) (fun i hi => by unfold splice; rw [if_pos (by omega), Nat.sub_zero]) ?_ | refine wpW_build (by rfl) 25 #[] rfl [] (by first | rfl | (simp [Act.eval, Act.put]; done)) _ builtHZ ?_ | refine wpW_load_at 36 _ rfl (w.heap.size) (1) (by rfl) (by rfl) _ 36 _ (R1.out.atUpd) Tryz.underlying36 rfl infoU ?_ | refine wpW_build (by rfl) 36 #[] rfl [] (by first | rfl | (simp [Act.eval, Act.put]; done)) _ builtZ ?_ | refine wpW_eqU (by rfl) (.tmp 6) (.tmp 7) rfl _ _ _ (by rfl) (by rfl) E0.out ?_ | refine wpW_load_at 23 _ rfl (w.heap.size) (39) (by rfl) (by rfl) _ 2 _ (R1.out.atCts) Tryz.underlying23 rfl infoC ?_ | refine wpW_build (by rfl) 23 #[] rfl [] (by first | rfl | (simp [Act.eval, Act.put]; done)) _ builtCZ ?_ | refine wpW_eqC (by rfl) (.tmp 22) (.tmp 23) rfl _ _ _ (by rfl) (by rfl) E3.out ?_ | refine wpW_load_at 25 _ rfl (w.heap.size) (41) (by rfl) (by rfl) _ 32 _ (R1.out.atSig) Tryz.underlying25 rfl info26 ?_ | refine wpW_load_at 25 _ rfl (w1.heap.size) (0) (by rfl) (by rfl) _ 32 _ (Q3.out.at_ 0 (by omega) (fun i hi => by rw [Nat.zero_add])) Tryz.underlying25 rfl info26 ?_ | refine wpW_eqH (by rfl) (.tmp 28) (.tmp 29) rfl _ _ _ (by rfl) (by rfl) E4.out ?_ | refine wpW_load_at 25 _ rfl (w.heap.size) (73) (by rfl) (by rfl) _ 32 _ (R1.out.atSec) Tryz.underlying25 rfl info26 ?_ | refine wpW_eqH (by rfl) (.tmp 34) (.tmp 35) rfl _ _ _ (by rfl) (by rfl) E5.out ?_ | fail)
              try rw [hW3]
              go_ret
              exact ⟨rfl, HB.out⟩
            | true =>
              cases B6 with
              | false =>
                go_enter Tryz.func52, Tryz.ntmps52
                go_wp2_with (first | rw [hW3] | refine wpList_store_part rfl 25 _ _ rfl rfl w1.heap.size 0 (bv z32) 32 rfl rfl 25 _ 32 Q2.out (by omega) info26 (fun i _ => rfl) (bv z32) (fun i hi => by unfold splice; rw [if_pos (by omega), Nat.sub_zero]) ?_ | refine wpW_build (by rfl) 25 #[] rfl [] (by first | rfl | (simp [Act.eval, Act.put]; done)) _ builtHZ ?_ | refine wpW_load_at 36 _ rfl (w.heap.size) (1) (by rfl) (by rfl) _ 36 _ (R1.out.atUpd) Tryz.underlying36 rfl infoU ?_ | refine wpW_build (by rfl) 36 #[] rfl [] (by first | rfl | (simp [Act.eval, Act.put]; done)) _ builtZ ?_ | refine wpW_eqU (by rfl) (.tmp 6) (.tmp 7) rfl _ _ _ (by rfl) (by rfl) E0.out ?_ | refine wpW_load_at 23 _ rfl (w.heap.size) (39) (by rfl) (by rfl) _ 2 _ (R1.out.atCts) Tryz.underlying23 rfl infoC ?_ | refine wpW_build (by rfl) 23 #[] rfl [] (by first | rfl | (simp [Act.eval, Act.put]; done)) _ builtCZ ?_ | refine wpW_eqC (by rfl) (.tmp 22) (.tmp 23) rfl _ _ _ (by rfl) (by rfl) E3.out ?_ | refine wpW_load_at 25 _ rfl (w.heap.size) (41) (by rfl) (by rfl) _ 32 _ (R1.out.atSig) Tryz.underlying25 rfl info26 ?_ | refine wpW_load_at 25 _ rfl (w1.heap.size) (0) (by rfl) (by rfl) _ 32 _ (Q3.out.at_ 0 (by omega) (fun i hi => by rw [Nat.zero_add])) Tryz.underlying25 rfl info26 ?_ | refine wpW_eqH (by rfl) (.tmp 28) (.tmp 29) rfl _ _ _ (by rfl) (by rfl) E4.out ?_ | refine wpW_load_at 25 _ rfl (w.heap.size) (73) (by rfl) (by rfl) _ 32 _ (R1.out.atSec) Tryz.underlying25 rfl info26 ?_ | refine wpW_eqH (by rfl) (.tmp 34) (.tmp 35) rfl _ _ _ (by rfl) (by rfl) E5.out ?_ | refine wpW_load_at 25 _ rfl (w.heap.size) (105) (by rfl) (by rfl) _ 32 _ (R1.out.atPt) Tryz.underlying25 rfl info26 ?_ | refine wpW_eqH (by rfl) (.tmp 40) (.tmp 41) rfl _ _ _ (by rfl) (by rfl) E6.out ?_ | fail)
                try rw [hW3]
                go_ret
                exact ⟨rfl, HB.out⟩
              | true =>
                cases B7 with
                | false =>
                  go_enter Tryz.func52, Tryz.ntmps52
                  go_wp2_with (first | rw [hW3] | refine wpList_store_part rfl 25 _ _ rfl rfl w1.heap.size 0 (bv z32) 32 rfl rfl 25 _ 32 Q2.out (by omega) info26 (fun i _ => rfl) (bv z32) (fun i hi => by unfold splice; rw [if_pos (by omega), Nat.sub_zero]) ?_ | refine wpW_build (by rfl) 25 #[] rfl [] (by first | rfl | (simp [Act.eval, Act.put]; done)) _ builtHZ ?_ | refine wpW_load_at 36 _ rfl (w.heap.size) (1) (by rfl) (by rfl) _ 36 _ (R1.out.atUpd) Tryz.underlying36 rfl infoU ?_ | refine wpW_build (by rfl) 36 #[] rfl [] (by first | rfl | (simp [Act.eval, Act.put]; done)) _ builtZ ?_ | refine wpW_eqU (by rfl) (.tmp 6) (.tmp 7) rfl _ _ _ (by rfl) (by rfl) E0.out ?_ | refine wpW_load_at 23 _ rfl (w.heap.size) (39) (by rfl) (by rfl) _ 2 _ (R1.out.atCts) Tryz.underlying23 rfl infoC ?_ | refine wpW_build (by rfl) 23 #[] rfl [] (by first | rfl | (simp [Act.eval, Act.put]; done)) _ builtCZ ?_ | refine wpW_eqC (by rfl) (.tmp 22) (.tmp 23) rfl _ _ _ (by rfl) (by rfl) E3.out ?_ | refine wpW_load_at 25 _ rfl (w.heap.size) (41) (by rfl) (by rfl) _ 32 _ (R1.out.atSig) Tryz.underlying25 rfl info26 ?_ | refine wpW_load_at 25 _ rfl (w1.heap.size) (0) (by rfl) (by rfl) _ 32 _ (Q3.out.at_ 0 (by omega) (fun i hi => by rw [Nat.zero_add])) Tryz.underlying25 rfl info26 ?_ | refine wpW_eqH (by rfl) (.tmp 28) (.tmp 29) rfl _ _ _ (by rfl) (by rfl) E4.out ?_ | refine wpW_load_at 25 _ rfl (w.heap.size) (73) (by rfl) (by rfl) _ 32 _ (R1.out.atSec) Tryz.underlying25 rfl info26 ?_ | refine wpW_eqH (by rfl) (.tmp 34) (.tmp 35) rfl _ _ _ (by rfl) (by rfl) E5.out ?_ | refine wpW_load_at 25 _ rfl (w.heap.size) (105) (by rfl) (by rfl) _ 32 _ (R1.out.atPt) Tryz.underlying25 rfl info26 ?_ | refine wpW_eqH (by rfl) (.tmp 40) (.tmp 41) rfl _ _ _ (by rfl) (by rfl) E6.out ?_ | fail)
                  try rw [hW3]
                  go_ret
                  exact ⟨rfl, HB.out⟩
                | true =>
                  go_enter Tryz.func52, Tryz.ntmps52
                  go_wp2_with (first | rw [hW3] | refine wpList_store_part rfl 25 _ _ rfl rfl w1.heap.size 0 (bv z32) 32 rfl rfl 25 _ 32 Q2.out (by omega) info26 (fun i _ => rfl) (bv z32) (fun i hi => by unfold splice; rw [if_pos (by omega), Nat.sub_zero]) ?_ | refine wpW_build (by rfl) 25 #[] rfl [] (by first | rfl | (simp [Act.eval, Act.put]; done)) _ builtHZ ?_ | refine wpW_load_at 36 _ rfl (w.heap.size) (1) (by rfl) (by rfl) _ 36 _ (R1.out.atUpd) Tryz.underlying36 rfl infoU ?_ | refine wpW_build (by rfl) 36 #[] rfl [] (by first | rfl | (simp [Act.eval, Act.put]; done)) _ builtZ ?_ | refine wpW_eqU (by rfl) (.tmp 6) (.tmp 7) rfl _ _ _ (by rfl) (by rfl) E0.out ?_ | refine wpW_load_at 23 _ rfl (w.heap.size) (39) (by rfl) (by rfl) _ 2 _ (R1.out.atCts) Tryz.underlying23 rfl infoC ?_ | refine wpW_build (by rfl) 23 #[] rfl [] (by first | rfl | (simp [Act.eval, Act.put]; done)) _ builtCZ ?_ | refine wpW_eqC (by rfl) (.tmp 22) (.tmp 23) rfl _ _ _ (by rfl) (by rfl) E3.out ?_ | refine wpW_load_at 25 _ rfl (w.heap.size) (41) (by rfl) (by rfl) _ 32 _ (R1.out.atSig) Tryz.underlying25 rfl info26 ?_ | refine wpW_load_at 25 _ rfl (w1.heap.size) (0) (by rfl) (by rfl) _ 32 _ (Q3.out.at_ 0 (by omega) (fun i hi => by rw [Nat.zero_add])) Tryz.underlying25 rfl info26 ?_ | refine wpW_eqH (by rfl) (.tmp 28) (.tmp 29) rfl _ _ _ (by rfl) (by rfl) E4.out ?_ | refine wpW_load_at 25 _ rfl (w.heap.size) (73) (by rfl) (by rfl) _ 32 _ (R1.out.atSec) Tryz.underlying25 rfl info26 ?_ | refine wpW_eqH (by rfl) (.tmp 34) (.tmp 35) rfl _ _ _ (by rfl) (by rfl) E5.out ?_ | refine wpW_load_at 25 _ rfl (w.heap.size) (105) (by rfl) (by rfl) _ 32 _ (R1.out.atPt) Tryz.underlying25 rfl info26 ?_ | refine wpW_eqH (by rfl) (.tmp 40) (.tmp 41) rfl _ _ _ (by rfl) (by rfl) E6.out ?_ | fail)
                  try rw [hW3]
                  go_ret
                  exact ⟨rfl, HB.out⟩
end Go.Proofs.YtlohfoggcdaeiaaGreat
