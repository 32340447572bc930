import Derived.Test.YtmmcoedgoekhgaaGreatDoorGTurned
import Derived.Deep.CutRange
import Derived.Test.YtmmcoedgoekhgaaGreatDoorGFold
/-
  The document's amounts, valid lists, and open adds by ID (printed by gen_ref.py).
-/
namespace Go.Proofs.YtmmcoedgoekhgaaGreatDoor
set_option maxRecDepth 20000
open Go.RowKit S Go.Shelf Go.Sort
set_option linter.unusedVariables false
set_option linter.unusedSimpArgs false
end Go.Proofs.YtmmcoedgoekhgaaGreatDoor
/-
  The document's side (printed by gen_side.py).
-/
namespace Go.Proofs.YtmmcoedgoekhgaaGreatDoor
set_option maxRecDepth 20000
open Go.RowKit S Go.Shelf Go.Sort
set_option linter.unusedVariables false
set_option linter.unusedSimpArgs false
theorem TW.keep {S : Nat → Prop} {w w' : World} {g : Nat} {X : Int} (h : TW w g X) (k : Keep S w w') (hS : ¬ S g) : TW w' g X := Has.keep h k hS
theorem keep_row {S : Nat → Prop} (w : World) (g : Nat) (cs : Array Value) (h : S g) : Keep S w (w.setRow g cs) := ⟨rfl, rfl, rfl, by simp, fun k hk hn => setRow_other w g k cs (fun e => hn (by rw [e]; exact h))⟩
end Go.Proofs.YtmmcoedgoekhgaaGreatDoor
/-
  LedgerViews: the walk (printed by gen_views.py).
-/
namespace Go.Proofs.YtmmcoedgoekhgaaGreatDoor
set_option maxRecDepth 20000
open Go.RowKit S Go.Shelf Go.Sort
set_option linter.unusedVariables false
set_option linter.unusedSimpArgs false
-- left out in this seat: made2
section
variable {ops : Array Oper} {rest : List Oper} {o : Oper} {a : Act} {w : World} {Q : Exit → Act → World → Prop}
end
/-- A new variable that takes a ledger. -/
theorem newL (w : World) (x y : Int) (v : Value) : ∃ wa ws, w.alloc (.cells #[.int .i64 0, .int .i64 0, .slice none 0 0] 143) = wa ∧ Has wa w.heap.size 143 (ledv 0 0 (.slice none 0 0)) 3 ∧ wa.setRow w.heap.size (tabv (ledv x y v) 3) = ws ∧ Has ws w.heap.size 143 (ledv x y v) 3 ∧ Below w.heap.size w ws := by
  have q1 : Has (w.alloc (.cells (tabv (ledv 0 0 (.slice none 0 0)) 3) 143)) w.heap.size 143 (ledv 0 0 (.slice none 0 0)) 3 := Has.new w 143 _ 3 _ rfl
  exact ⟨_, _, by rw [zeroL], q1, rfl, q1.row _ _ rfl, below_setRow ((Below.refl w.heap.size w).alloc (Nat.le_refl _) _) (Nat.le_refl _) _⟩
theorem built_L0 : Tryz.prog.built 143 [] = some (tabv (ledv 0 0 (.slice none 0 0)) 3) := by kernel_rfl
-- left out in this seat: views_walk
end Go.Proofs.YtmmcoedgoekhgaaGreatDoor
/-
  One add more, in plain words.
-/
namespace Go.Proofs.YtmmcoedgoekhgaaGreatDoor
set_option maxRecDepth 20000
open Go.RowKit S Go.Shelf Go.Sort
set_option linter.unusedVariables false
set_option linter.unusedSimpArgs false
section
variable {P Q : List Upd} {u : Upd} (ha : addB u = true) (hr : remK Q u.id = 0)
include ha hr
end
end Go.Proofs.YtmmcoedgoekhgaaGreatDoor
/-
  LedgerMore: the walk (printed by gen_more.py).
-/
namespace Go.Proofs.YtmmcoedgoekhgaaGreatDoor
set_option maxRecDepth 20000
open Go.RowKit S Go.Shelf Go.Sort
set_option linter.unusedVariables false
set_option linter.unusedSimpArgs false
section
variable {P : Program} {o : Oper} {a : Act} {w w' : World} {v : Value} {K : Act → World → Prop} {Q : Exit → Act → World → Prop}
theorem wp_app (s x : Operand) (tys : Array TypeId) (ho : o.op = .call { callee := .builtin .append, args := #[s, x], argTypes := tys }) (h : (Builtin.append_ tys o.type #[a.eval s, a.eval x]).run P w = .ok v w') (d : Option Tmp) (hd : o.dst = d) (k : K (a.put d v) w') : o.wp P a w K Q := by
  subst hd
  exact wpRun (by simp [execOp, ho, resolve, invoke, builtin, h, Result.andThen]) k
theorem wp_slice1 (T : TypeId) (x : Operand) (ho : o.op = .buildSlice T 1 #[(0, x)]) (y : Value) (hy : a.eval x = y) (h : (Instr.buildSlice T 1 #[(0, y)]).run P w = .ok v w') (d : Option Tmp) (hd : o.dst = d) (k : K (a.put d v) w') : o.wp P a w K Q := by
  subst hd
  exact wpRun (by simp [execOp, ho, hy, h, Result.andThen]) k
theorem wp_slice0 (T : TypeId) (ho : o.op = .buildSlice T 0 #[]) (h : (Instr.buildSlice T 0 #[]).run P w = .ok v w') (d : Option Tmp) (hd : o.dst = d) (k : K (a.put d v) w') : o.wp P a w K Q := by
  subst hd
  exact wpRun (by simp [execOp, ho, h, Result.andThen]) k
end
theorem run_buildQ {o : Oper} {a : Act} (w : World) (T : TypeId) (ps : Array (Nat × Operand)) (ho : o.op = .build T ps) (vals : List (Nat × Value)) (he : (ps.map fun (i, y) => (i, a.eval y)).toList = vals) (cs : Array Value) (hb : Tryz.prog.built T vals = some cs) : (execOp a.eval o).run Tryz.prog w = .ok (.value (.agg cs)) w := by
  unfold execOp
  simp only [ho, Sem.run_bind, run_build w T _ cs (by rw [he]; exact hb), Result.andThen_ok]
  rfl
theorem run_eqP {o : Oper} {a : Act} (w : World) (x y : Operand) (s t : Pen) (R : Bool) (ho : o.op = .binOp .eql 186 x y 186) (hx : a.eval x = .agg (tabv s.v 35)) (hy : a.eval y = .agg (tabv t.v 35))
    (hq : ∀ w : World, (Op.equalIn 10000 186 (.agg (tabv s.v 35)) (.agg (tabv t.v 35))).run Tryz.prog w = .ok R w) : (execOp a.eval o).run Tryz.prog w = .ok (.value (.bool R)) w := by
  have gh := guardP
  unfold execOp
  simp only [ho, hx, hy]
  go_simp
end Go.Proofs.YtmmcoedgoekhgaaGreatDoor
/-
  The document's Fold (printed by gen_rfold.py).
-/
namespace Go.Proofs.YtmmcoedgoekhgaaGreatDoor
set_option maxRecDepth 20000
open Go.RowKit S Go.Shelf Go.Sort
set_option linter.unusedVariables false
set_option linter.unusedSimpArgs false
/-- The two variables that Fold begins with: the counts, and what is answered. -/
theorem rf_start (w : World) (fO fP : Int) : ∃ V1 V2, w.alloc (.cells (tabv (cnv fO fP) 2) 29) = V1 ∧ V1.alloc (.cells #[.int .i64 0, .int .i64 0, .slice none 0 0] 143) = V2 ∧ Has V2 w.heap.size 29 (cnv fO fP) 2 ∧ Has V2 V1.heap.size 143 (ledv 0 0 (.slice none 0 0)) 3 ∧ w.heap.size < V1.heap.size ∧ Below w.heap.size w V2 := by
  have k1 : Has (w.alloc (.cells (tabv (cnv fO fP) 2) 29)) w.heap.size 29 (cnv fO fP) 2 := Has.new w 29 _ 2 _ rfl
  have b1 : Below w.heap.size w (w.alloc (.cells (tabv (cnv fO fP) 2) 29)) := (Below.refl _ _).alloc (Nat.le_refl _) _
  generalize hV1 : w.alloc (.cells (tabv (cnv fO fP) 2) 29) = V1 at k1 b1
  have k2 : Has (V1.alloc (.cells #[.int .i64 0, .int .i64 0, .slice none 0 0] 143)) V1.heap.size 143 (ledv 0 0 (.slice none 0 0)) 3 := by rw [zeroL]; exact Has.new V1 143 _ 3 _ rfl
  have b2 : Below V1.heap.size V1 (V1.alloc (.cells #[.int .i64 0, .int .i64 0, .slice none 0 0] 143)) := (Below.refl _ _).alloc (Nat.le_refl _) _
  exact ⟨V1, _, rfl, rfl, k1.below b2 k1.lt, k2, k1.lt, b1.trans (b2.mono b1.size)⟩
end Go.Proofs.YtmmcoedgoekhgaaGreatDoor
/-
  The document's Fold where all is valid (printed by gen_rfold2.py).
-/
namespace Go.Proofs.YtmmcoedgoekhgaaGreatDoor
set_option maxRecDepth 20000
open Go.RowKit S Go.Shelf Go.Sort
set_option linter.unusedVariables false
set_option linter.unusedSimpArgs false
end Go.Proofs.YtmmcoedgoekhgaaGreatDoor
/-
  Ledger: Fold, its errors (printed by gen_fold2.py).
-/
namespace Go.Proofs.YtmmcoedgoekhgaaGreatDoor
set_option maxRecDepth 20000
open Go.RowKit S Go.Shelf Go.Sort
set_option linter.unusedVariables false
set_option linter.unusedSimpArgs false
set_option maxRecDepth 100000 in
set_option maxHeartbeats 4000000 in
theorem fold_base (bO bP : Int) (a1 a2 : Option Addr) (n1 c1 n2 c2 : Nat) (mine others : List Upd) (hn1 : mine.length = n1) (hn2 : others.length = n2) (z1 : n1 ≤ 1955000000000) (z2 : n2 ≤ 1955000000000) (k1 : n1 ≤ c1) (k2 : n2 ≤ c2) (kO kP : Nat) (lO : kO ≤ n1) (lP : kP ≤ n2) (w : World) (hS1 : Upds w a1 mine) (hS2 : Upds w a2 others) (hpl : plusA bO bP = (0, 80)) : Calls Tryz.prog 100 #[.int .i64 bO, .int .i64 bP, .slice a1 n1 c1, .slice a2 n2 c2, .agg #[.int .i64 (kO : Int), .int .i64 (kP : Int)]] w fun e w' => e = .returned (.tuple #[.agg (tabv (ledv 0 0 (.slice none 0 0)) 3), .int .i64 1]) ∧ Below w.heap.size w w' := by
  have hwO : ∀ w, Calls Tryz.prog 94 #[.int .i64 (kO : Int), .slice a1 n1 c1] w fun e w' => e = .returned (.int .i64 (kO : Int)) ∧ w' = w := fun w => by have := within_any (kO : Int) a1 n1 c1 w; rw [(inL_eq (kO : Int) n1).2 ⟨by omega, by omega⟩] at this; exact this
  have hwP : ∀ w, Calls Tryz.prog 94 #[.int .i64 (kP : Int), .slice a2 n2 c2] w fun e w' => e = .returned (.int .i64 (kP : Int)) ∧ w' = w := fun w => by have := within_any (kP : Int) a2 n2 c2 w; rw [(inL_eq (kP : Int) n2).2 ⟨by omega, by omega⟩] at this; exact this
  have HO := hide hwO
  have HP := hide hwP
  have slO := fun w => sliceK w a1 n1 c1 kO (by omega)
  have slP := fun w => sliceK w a2 n2 c2 kP (by omega)
  have qO : ((kO : Int) != (kO : Int)) = false := by simp
  have qP : ((kP : Int) != (kP : Int)) = false := by simp
  obtain ⟨w1, hw1⟩ : ∃ x, w.alloc (.cells #[.int .i64 (kO : Int), .int .i64 (kP : Int)] 29) = x := ⟨_, rfl⟩
  obtain ⟨w2, hw2⟩ : ∃ x, w1.alloc (.cells #[.int .i64 0, .int .i64 0, .slice none 0 0] 143) = x := ⟨_, rfl⟩
  have b1w : Below w.heap.size w w1 := by rw [← hw1]; exact (Below.refl _ w).alloc (Nat.le_refl _) _
  have b2w : Below w.heap.size w w2 := by rw [← hw2]; exact b1w.alloc b1w.size _
  have e0 : w2.cell? ⟨w.heap.size, 0, none⟩ = some (.int .i64 (kO : Int)) := by rw [← hw2, ← hw1]; simp
  have e1 : w2.cell? ⟨w.heap.size, 1, none⟩ = some (.int .i64 (kP : Int)) := by rw [← hw2, ← hw1]; simp
  have gL0 : Has w2 w1.heap.size 143 (ledv 0 0 (.slice none 0 0)) 3 := by rw [← hw2, zeroL]; exact Has.new w1 143 _ 3 _ rfl
  have lt1 : w.heap.size < w1.heap.size := by rw [← hw1]; simp
  generalize hgL : w1.heap.size = gL at gL0 lt1
  have GL := hide gL0
  clear hwO hwP gL0
  go_enter Tryz.func100, Tryz.ntmps100
  go_wp2_with fail
  go_quiet ((go_at_call 94; first | exact Calls.quiet_of_same (HO.out _) | exact Calls.quiet_of_same (HP.out _)))
  have f0 : (w2.drewN nq).cell? ⟨w.heap.size, 0, none⟩ = some (.int .i64 (kO : Int)) := e0
  have f1 : (w2.drewN nq).cell? ⟨w.heap.size, 1, none⟩ = some (.int .i64 (kP : Int)) := e1
  have G3 : Hid (Has (w2.drewN nq) gL 143 (ledv 0 0 (.slice none 0 0)) 3) := GL.out
  have b3 : Below w.heap.size w (w2.drewN nq) := belowD b2w nq
  generalize w2.drewN nq = w3 at f0 f1 G3 b3 ⊢
  clear e0 e1 GL b2w b1w hw1 hw2 nq HO HP
  go_wp2_with (first | (go_at_call 142; go_must (refine (aplus_any bO bP w3).mono ?_); rintro e wx ⟨rfl, hx⟩; obtain rfl := hx.symm; clear hx; rw [hpl]) | refine wpList_storeL rfl _ _ rfl rfl gL 0 0 (.slice none 0 0) rfl rfl rfl _ G3.out ?_)
  exact bodyPost_ret (resL2 _ gL _ _ (.int .i64 1) 10 11 (G3.out.row _ (ledv 0 0 (.slice none 0 0)) rfl) rfl rfl _ rfl) rfl ⟨rfl, below_setRow b3 (by omega) _⟩
set_option maxRecDepth 100000 in
set_option maxHeartbeats 4000000 in
theorem fold_inv1 (bO bP : Int) (a1 a2 : Option Addr) (n1 c1 n2 c2 : Nat) (mine others : List Upd) (hn1 : mine.length = n1) (hn2 : others.length = n2) (z1 : n1 ≤ 1955000000000) (z2 : n2 ≤ 1955000000000) (k1 : n1 ≤ c1) (k2 : n2 ≤ c2) (kO kP : Nat) (lO : kO ≤ n1) (lP : kP ≤ n2) (w : World) (hS1 : Upds w a1 mine) (hS2 : Upds w a2 others) (hpl : plusA bO bP = (bO + bP, 0)) (hvA : (mine.take kO).all validB = false) : Calls Tryz.prog 100 #[.int .i64 bO, .int .i64 bP, .slice a1 n1 c1, .slice a2 n2 c2, .agg #[.int .i64 (kO : Int), .int .i64 (kP : Int)]] w fun e w' => e = .returned (.tuple #[.agg (tabv (ledv 0 0 (.slice none 0 0)) 3), .int .i64 120]) ∧ Below w.heap.size w w' := by
  have hwO : ∀ w, Calls Tryz.prog 94 #[.int .i64 (kO : Int), .slice a1 n1 c1] w fun e w' => e = .returned (.int .i64 (kO : Int)) ∧ w' = w := fun w => by have := within_any (kO : Int) a1 n1 c1 w; rw [(inL_eq (kO : Int) n1).2 ⟨by omega, by omega⟩] at this; exact this
  have hwP : ∀ w, Calls Tryz.prog 94 #[.int .i64 (kP : Int), .slice a2 n2 c2] w fun e w' => e = .returned (.int .i64 (kP : Int)) ∧ w' = w := fun w => by have := within_any (kP : Int) a2 n2 c2 w; rw [(inL_eq (kP : Int) n2).2 ⟨by omega, by omega⟩] at this; exact this
  have HO := hide hwO
  have HP := hide hwP
  have slO := fun w => sliceK w a1 n1 c1 kO (by omega)
  have slP := fun w => sliceK w a2 n2 c2 kP (by omega)
  have qO : ((kO : Int) != (kO : Int)) = false := by simp
  have qP : ((kP : Int) != (kP : Int)) = false := by simp
  obtain ⟨w1, hw1⟩ : ∃ x, w.alloc (.cells #[.int .i64 (kO : Int), .int .i64 (kP : Int)] 29) = x := ⟨_, rfl⟩
  obtain ⟨w2, hw2⟩ : ∃ x, w1.alloc (.cells #[.int .i64 0, .int .i64 0, .slice none 0 0] 143) = x := ⟨_, rfl⟩
  have b1w : Below w.heap.size w w1 := by rw [← hw1]; exact (Below.refl _ w).alloc (Nat.le_refl _) _
  have b2w : Below w.heap.size w w2 := by rw [← hw2]; exact b1w.alloc b1w.size _
  have e0 : w2.cell? ⟨w.heap.size, 0, none⟩ = some (.int .i64 (kO : Int)) := by rw [← hw2, ← hw1]; simp
  have e1 : w2.cell? ⟨w.heap.size, 1, none⟩ = some (.int .i64 (kP : Int)) := by rw [← hw2, ← hw1]; simp
  have gL0 : Has w2 w1.heap.size 143 (ledv 0 0 (.slice none 0 0)) 3 := by rw [← hw2, zeroL]; exact Has.new w1 143 _ 3 _ rfl
  have lt1 : w.heap.size < w1.heap.size := by rw [← hw1]; simp
  generalize hgL : w1.heap.size = gL at gL0 lt1
  have GL := hide gL0
  clear hwO hwP gL0
  go_enter Tryz.func100, Tryz.ntmps100
  go_wp2_with fail
  go_quiet ((go_at_call 94; first | exact Calls.quiet_of_same (HO.out _) | exact Calls.quiet_of_same (HP.out _)))
  have f0 : (w2.drewN nq).cell? ⟨w.heap.size, 0, none⟩ = some (.int .i64 (kO : Int)) := e0
  have f1 : (w2.drewN nq).cell? ⟨w.heap.size, 1, none⟩ = some (.int .i64 (kP : Int)) := e1
  have G3 : Hid (Has (w2.drewN nq) gL 143 (ledv 0 0 (.slice none 0 0)) 3) := GL.out
  have b3 : Below w.heap.size w (w2.drewN nq) := belowD b2w nq
  generalize w2.drewN nq = w3 at f0 f1 G3 b3 ⊢
  clear e0 e1 GL b2w b1w hw1 hw2 nq HO HP
  go_wp2_with (go_at_call 142; go_must (refine (aplus_any bO bP w3).mono ?_); rintro e wx ⟨rfl, hx⟩; obtain rfl := hx.symm; clear hx; rw [hpl])
  go_quiet (fail)
  have G4 : Hid (Has (w3.drewN nq) gL 143 (ledv 0 0 (.slice none 0 0)) 3) := G3.out
  have b4 : Below w.heap.size w (w3.drewN nq) := belowD b3 nq
  generalize w3.drewN nq = w4 at G4 b4 ⊢
  clear f0 f1 G3 b3 nq slO slP
  have hltL : gL < w4.heap.size := G4.out.lt
  have VA := allValid_any a1 kO c1 (mine.take kO) (by rw [List.length_take]; omega) (by omega) w4 ((hS1.take kO).below b4)
  rw [hvA] at VA
  have HVA := hide VA
  clear VA
  go_wp2_with fail
  refine HVA.out.mono ?_
  rintro e w5 ⟨rfl, hb5⟩
  have b5 := b4.trans (hb5.mono b4.size)
  have G5 := hide (G4.out.below hb5 hltL)
  go_wp2_with (refine wpList_storeL rfl _ _ rfl rfl gL 0 0 (.slice none 0 0) rfl rfl rfl _ G5.out ?_)
  exact bodyPost_ret (resL2 _ gL _ _ (.int .i64 120) 10 11 (G5.out.row _ (ledv 0 0 (.slice none 0 0)) rfl) rfl rfl _ rfl) rfl ⟨rfl, below_setRow b5 (by omega) _⟩
set_option maxRecDepth 100000 in
set_option maxHeartbeats 4000000 in
theorem fold_inv2 (bO bP : Int) (a1 a2 : Option Addr) (n1 c1 n2 c2 : Nat) (mine others : List Upd) (hn1 : mine.length = n1) (hn2 : others.length = n2) (z1 : n1 ≤ 1955000000000) (z2 : n2 ≤ 1955000000000) (k1 : n1 ≤ c1) (k2 : n2 ≤ c2) (kO kP : Nat) (lO : kO ≤ n1) (lP : kP ≤ n2) (w : World) (hS1 : Upds w a1 mine) (hS2 : Upds w a2 others) (hpl : plusA bO bP = (bO + bP, 0)) (hvA : (mine.take kO).all validB = true) (hvB : (others.take kP).all validB = false) : Calls Tryz.prog 100 #[.int .i64 bO, .int .i64 bP, .slice a1 n1 c1, .slice a2 n2 c2, .agg #[.int .i64 (kO : Int), .int .i64 (kP : Int)]] w fun e w' => e = .returned (.tuple #[.agg (tabv (ledv 0 0 (.slice none 0 0)) 3), .int .i64 120]) ∧ Below w.heap.size w w' := by
  have hwO : ∀ w, Calls Tryz.prog 94 #[.int .i64 (kO : Int), .slice a1 n1 c1] w fun e w' => e = .returned (.int .i64 (kO : Int)) ∧ w' = w := fun w => by have := within_any (kO : Int) a1 n1 c1 w; rw [(inL_eq (kO : Int) n1).2 ⟨by omega, by omega⟩] at this; exact this
  have hwP : ∀ w, Calls Tryz.prog 94 #[.int .i64 (kP : Int), .slice a2 n2 c2] w fun e w' => e = .returned (.int .i64 (kP : Int)) ∧ w' = w := fun w => by have := within_any (kP : Int) a2 n2 c2 w; rw [(inL_eq (kP : Int) n2).2 ⟨by omega, by omega⟩] at this; exact this
  have HO := hide hwO
  have HP := hide hwP
  have slO := fun w => sliceK w a1 n1 c1 kO (by omega)
  have slP := fun w => sliceK w a2 n2 c2 kP (by omega)
  have qO : ((kO : Int) != (kO : Int)) = false := by simp
  have qP : ((kP : Int) != (kP : Int)) = false := by simp
  obtain ⟨w1, hw1⟩ : ∃ x, w.alloc (.cells #[.int .i64 (kO : Int), .int .i64 (kP : Int)] 29) = x := ⟨_, rfl⟩
  obtain ⟨w2, hw2⟩ : ∃ x, w1.alloc (.cells #[.int .i64 0, .int .i64 0, .slice none 0 0] 143) = x := ⟨_, rfl⟩
  have b1w : Below w.heap.size w w1 := by rw [← hw1]; exact (Below.refl _ w).alloc (Nat.le_refl _) _
  have b2w : Below w.heap.size w w2 := by rw [← hw2]; exact b1w.alloc b1w.size _
  have e0 : w2.cell? ⟨w.heap.size, 0, none⟩ = some (.int .i64 (kO : Int)) := by rw [← hw2, ← hw1]; simp
  have e1 : w2.cell? ⟨w.heap.size, 1, none⟩ = some (.int .i64 (kP : Int)) := by rw [← hw2, ← hw1]; simp
  have gL0 : Has w2 w1.heap.size 143 (ledv 0 0 (.slice none 0 0)) 3 := by rw [← hw2, zeroL]; exact Has.new w1 143 _ 3 _ rfl
  have lt1 : w.heap.size < w1.heap.size := by rw [← hw1]; simp
  generalize hgL : w1.heap.size = gL at gL0 lt1
  have GL := hide gL0
  clear hwO hwP gL0
  go_enter Tryz.func100, Tryz.ntmps100
  go_wp2_with fail
  go_quiet ((go_at_call 94; first | exact Calls.quiet_of_same (HO.out _) | exact Calls.quiet_of_same (HP.out _)))
  have f0 : (w2.drewN nq).cell? ⟨w.heap.size, 0, none⟩ = some (.int .i64 (kO : Int)) := e0
  have f1 : (w2.drewN nq).cell? ⟨w.heap.size, 1, none⟩ = some (.int .i64 (kP : Int)) := e1
  have G3 : Hid (Has (w2.drewN nq) gL 143 (ledv 0 0 (.slice none 0 0)) 3) := GL.out
  have b3 : Below w.heap.size w (w2.drewN nq) := belowD b2w nq
  generalize w2.drewN nq = w3 at f0 f1 G3 b3 ⊢
  clear e0 e1 GL b2w b1w hw1 hw2 nq HO HP
  go_wp2_with (go_at_call 142; go_must (refine (aplus_any bO bP w3).mono ?_); rintro e wx ⟨rfl, hx⟩; obtain rfl := hx.symm; clear hx; rw [hpl])
  go_quiet (fail)
  have G4 : Hid (Has (w3.drewN nq) gL 143 (ledv 0 0 (.slice none 0 0)) 3) := G3.out
  have b4 : Below w.heap.size w (w3.drewN nq) := belowD b3 nq
  generalize w3.drewN nq = w4 at G4 b4 ⊢
  clear f0 f1 G3 b3 nq slO slP
  have hltL : gL < w4.heap.size := G4.out.lt
  have VA := allValid_any a1 kO c1 (mine.take kO) (by rw [List.length_take]; omega) (by omega) w4 ((hS1.take kO).below b4)
  rw [hvA] at VA
  have HVA := hide VA
  clear VA
  go_wp2_with fail
  refine HVA.out.mono ?_
  rintro e w5 ⟨rfl, hb5⟩
  have b5 := b4.trans (hb5.mono b4.size)
  have G5 := hide (G4.out.below hb5 hltL)
  have VB := allValid_any a2 kP c2 (others.take kP) (by rw [List.length_take]; omega) (by omega) w5 ((hS2.take kP).below b5)
  rw [hvB] at VB
  go_wp2_with fail
  refine VB.mono ?_
  rintro e w6 ⟨rfl, hb6⟩
  have b6 := b5.trans (hb6.mono b5.size)
  have G6 := hide (G5.out.below hb6 G5.out.lt)
  go_wp2_with (refine wpList_storeL rfl _ _ rfl rfl gL 0 0 (.slice none 0 0) rfl rfl rfl _ G6.out ?_)
  exact bodyPost_ret (resL2 _ gL _ _ (.int .i64 120) 10 11 (G6.out.row _ (ledv 0 0 (.slice none 0 0)) rfl) rfl rfl _ rfl) rfl ⟨rfl, below_setRow b6 (by omega) _⟩
end Go.Proofs.YtmmcoedgoekhgaaGreatDoor
