/-
  Ledger: Fold, its errors (printed by gen_fold2.py).
-/
import Derived.Test.YtbeoojnofblnjaaGFold
namespace Go.Proofs.Ytbeoojnofblnjaa
open Go.RowKit S Go.Shelf Go.Sort
set_option linter.unusedVariables false
set_option linter.unusedSimpArgs false
set_option maxRecDepth 100000 in
set_option maxHeartbeats 4000000 in
theorem fold_base (bO bP : Int) (a1 a2 : Option Addr) (n1 c1 n2 c2 : Nat) (mine others : List Upd) (hn1 : mine.length = n1) (hn2 : others.length = n2) (z1 : n1 ≤ 1955000000000) (z2 : n2 ≤ 1955000000000) (k1 : n1 ≤ c1) (k2 : n2 ≤ c2) (kO kP : Nat) (lO : kO ≤ n1) (lP : kP ≤ n2) (w : World) (hS1 : Upds w a1 mine) (hS2 : Upds w a2 others) (hpl : plusA bO bP = (0, 80)) : Calls Try.prog 9 #[.int .i64 bO, .int .i64 bP, .slice a1 n1 c1, .slice a2 n2 c2, .agg #[.int .i64 (kO : Int), .int .i64 (kP : Int)]] w fun e w' => e = .returned (.tuple #[.agg (tabv (ledv 0 0 (.slice none 0 0)) 3), .int .i64 1]) ∧ Below w.heap.size w w' := by
  have hwO : ∀ w, Calls Try.prog 17 #[.int .i64 (kO : Int), .slice a1 n1 c1] w fun e w' => e = .returned (.int .i64 (kO : Int)) ∧ w' = w := fun w => by have := within_any (kO : Int) a1 n1 c1 w; rw [(inL_eq (kO : Int) n1).2 ⟨by omega, by omega⟩] at this; exact this
  have hwP : ∀ w, Calls Try.prog 17 #[.int .i64 (kP : Int), .slice a2 n2 c2] w fun e w' => e = .returned (.int .i64 (kP : Int)) ∧ w' = w := fun w => by have := within_any (kP : Int) a2 n2 c2 w; rw [(inL_eq (kP : Int) n2).2 ⟨by omega, by omega⟩] at this; exact this
  have HO := hide hwO
  have HP := hide hwP
  have slO := fun w => sliceK w a1 n1 c1 kO (by omega)
  have slP := fun w => sliceK w a2 n2 c2 kP (by omega)
  have qO : ((kO : Int) != (kO : Int)) = false := by simp
  have qP : ((kP : Int) != (kP : Int)) = false := by simp
  obtain ⟨w1, hw1⟩ : ∃ x, w.alloc (.cells #[.int .i64 (kO : Int), .int .i64 (kP : Int)] 51) = x := ⟨_, rfl⟩
  obtain ⟨w2, hw2⟩ : ∃ x, w1.alloc (.cells #[.int .i64 0, .int .i64 0, .slice none 0 0] 46) = x := ⟨_, rfl⟩
  have b1w : Below w.heap.size w w1 := by rw [← hw1]; exact (Below.refl _ w).alloc (Nat.le_refl _) _
  have b2w : Below w.heap.size w w2 := by rw [← hw2]; exact b1w.alloc b1w.size _
  have e0 : w2.cell? ⟨w.heap.size, 0, none⟩ = some (.int .i64 (kO : Int)) := by rw [← hw2, ← hw1]; simp
  have e1 : w2.cell? ⟨w.heap.size, 1, none⟩ = some (.int .i64 (kP : Int)) := by rw [← hw2, ← hw1]; simp
  have gL0 : Has w2 w1.heap.size 46 (ledv 0 0 (.slice none 0 0)) 3 := by rw [← hw2, zeroL]; exact Has.new w1 46 _ 3 _ rfl
  have lt1 : w.heap.size < w1.heap.size := by rw [← hw1]; simp
  generalize hgL : w1.heap.size = gL at gL0 lt1
  have GL := hide gL0
  clear hwO hwP gL0
  go_enter Try.func9, Try.ntmps9
  go_wp2_with fail
  go_quiet ((go_at_call 17; first | exact Calls.quiet_of_same (HO.out _) | exact Calls.quiet_of_same (HP.out _)))
  have f0 : (w2.drewN nq).cell? ⟨w.heap.size, 0, none⟩ = some (.int .i64 (kO : Int)) := e0
  have f1 : (w2.drewN nq).cell? ⟨w.heap.size, 1, none⟩ = some (.int .i64 (kP : Int)) := e1
  have G3 : Hid (Has (w2.drewN nq) gL 46 (ledv 0 0 (.slice none 0 0)) 3) := GL.out
  have b3 : Below w.heap.size w (w2.drewN nq) := belowD b2w nq
  generalize w2.drewN nq = w3 at f0 f1 G3 b3 ⊢
  clear e0 e1 GL b2w b1w hw1 hw2 nq HO HP
  go_wp2_with (first | (go_at_call 18; go_must (refine (aplus_any bO bP w3).mono ?_); rintro e wx ⟨rfl, hx⟩; obtain rfl := hx.symm; clear hx; rw [hpl]) | refine wpList_storeL rfl _ _ rfl rfl gL 0 0 (.slice none 0 0) rfl rfl rfl _ G3.out ?_)
  exact bodyPost_ret (resL2 _ gL _ _ (.int .i64 1) 10 11 (G3.out.row _ (ledv 0 0 (.slice none 0 0)) rfl) rfl rfl _ rfl) rfl ⟨rfl, below_setRow b3 (by omega) _⟩
set_option maxRecDepth 100000 in
set_option maxHeartbeats 4000000 in
theorem fold_inv1 (bO bP : Int) (a1 a2 : Option Addr) (n1 c1 n2 c2 : Nat) (mine others : List Upd) (hn1 : mine.length = n1) (hn2 : others.length = n2) (z1 : n1 ≤ 1955000000000) (z2 : n2 ≤ 1955000000000) (k1 : n1 ≤ c1) (k2 : n2 ≤ c2) (kO kP : Nat) (lO : kO ≤ n1) (lP : kP ≤ n2) (w : World) (hS1 : Upds w a1 mine) (hS2 : Upds w a2 others) (hpl : plusA bO bP = (bO + bP, 0)) (hvA : (mine.take kO).all validB = false) : Calls Try.prog 9 #[.int .i64 bO, .int .i64 bP, .slice a1 n1 c1, .slice a2 n2 c2, .agg #[.int .i64 (kO : Int), .int .i64 (kP : Int)]] w fun e w' => e = .returned (.tuple #[.agg (tabv (ledv 0 0 (.slice none 0 0)) 3), .int .i64 120]) ∧ Below w.heap.size w w' := by
  have hwO : ∀ w, Calls Try.prog 17 #[.int .i64 (kO : Int), .slice a1 n1 c1] w fun e w' => e = .returned (.int .i64 (kO : Int)) ∧ w' = w := fun w => by have := within_any (kO : Int) a1 n1 c1 w; rw [(inL_eq (kO : Int) n1).2 ⟨by omega, by omega⟩] at this; exact this
  have hwP : ∀ w, Calls Try.prog 17 #[.int .i64 (kP : Int), .slice a2 n2 c2] w fun e w' => e = .returned (.int .i64 (kP : Int)) ∧ w' = w := fun w => by have := within_any (kP : Int) a2 n2 c2 w; rw [(inL_eq (kP : Int) n2).2 ⟨by omega, by omega⟩] at this; exact this
  have HO := hide hwO
  have HP := hide hwP
  have slO := fun w => sliceK w a1 n1 c1 kO (by omega)
  have slP := fun w => sliceK w a2 n2 c2 kP (by omega)
  have qO : ((kO : Int) != (kO : Int)) = false := by simp
  have qP : ((kP : Int) != (kP : Int)) = false := by simp
  obtain ⟨w1, hw1⟩ : ∃ x, w.alloc (.cells #[.int .i64 (kO : Int), .int .i64 (kP : Int)] 51) = x := ⟨_, rfl⟩
  obtain ⟨w2, hw2⟩ : ∃ x, w1.alloc (.cells #[.int .i64 0, .int .i64 0, .slice none 0 0] 46) = x := ⟨_, rfl⟩
  have b1w : Below w.heap.size w w1 := by rw [← hw1]; exact (Below.refl _ w).alloc (Nat.le_refl _) _
  have b2w : Below w.heap.size w w2 := by rw [← hw2]; exact b1w.alloc b1w.size _
  have e0 : w2.cell? ⟨w.heap.size, 0, none⟩ = some (.int .i64 (kO : Int)) := by rw [← hw2, ← hw1]; simp
  have e1 : w2.cell? ⟨w.heap.size, 1, none⟩ = some (.int .i64 (kP : Int)) := by rw [← hw2, ← hw1]; simp
  have gL0 : Has w2 w1.heap.size 46 (ledv 0 0 (.slice none 0 0)) 3 := by rw [← hw2, zeroL]; exact Has.new w1 46 _ 3 _ rfl
  have lt1 : w.heap.size < w1.heap.size := by rw [← hw1]; simp
  generalize hgL : w1.heap.size = gL at gL0 lt1
  have GL := hide gL0
  clear hwO hwP gL0
  go_enter Try.func9, Try.ntmps9
  go_wp2_with fail
  go_quiet ((go_at_call 17; first | exact Calls.quiet_of_same (HO.out _) | exact Calls.quiet_of_same (HP.out _)))
  have f0 : (w2.drewN nq).cell? ⟨w.heap.size, 0, none⟩ = some (.int .i64 (kO : Int)) := e0
  have f1 : (w2.drewN nq).cell? ⟨w.heap.size, 1, none⟩ = some (.int .i64 (kP : Int)) := e1
  have G3 : Hid (Has (w2.drewN nq) gL 46 (ledv 0 0 (.slice none 0 0)) 3) := GL.out
  have b3 : Below w.heap.size w (w2.drewN nq) := belowD b2w nq
  generalize w2.drewN nq = w3 at f0 f1 G3 b3 ⊢
  clear e0 e1 GL b2w b1w hw1 hw2 nq HO HP
  go_wp2_with (go_at_call 18; go_must (refine (aplus_any bO bP w3).mono ?_); rintro e wx ⟨rfl, hx⟩; obtain rfl := hx.symm; clear hx; rw [hpl])
  go_quiet (fail)
  have G4 : Hid (Has (w3.drewN nq) gL 46 (ledv 0 0 (.slice none 0 0)) 3) := G3.out
  have b4 : Below w.heap.size w (w3.drewN nq) := belowD b3 nq
  generalize w3.drewN nq = w4 at G4 b4 ⊢
  clear f0 f1 G3 b3 nq slO slP
  have hltL : gL < w4.heap.size := G4.out.lt
  have VA := allValid_any a1 kO c1 (mine.take kO) (by rw [List.length_take]; omega) (by omega) w4 ((hS1.take kO).below b4)
  rw [hvA] at VA
  have HVA := hide VA
  clear VA
  go_wp2_with fail
  refine HVA.out.mono ?_
  rintro e w5 ⟨rfl, hb5⟩
  have b5 := b4.trans (hb5.mono b4.size)
  have G5 := hide (G4.out.below hb5 hltL)
  go_wp2_with (refine wpList_storeL rfl _ _ rfl rfl gL 0 0 (.slice none 0 0) rfl rfl rfl _ G5.out ?_)
  exact bodyPost_ret (resL2 _ gL _ _ (.int .i64 120) 10 11 (G5.out.row _ (ledv 0 0 (.slice none 0 0)) rfl) rfl rfl _ rfl) rfl ⟨rfl, below_setRow b5 (by omega) _⟩
set_option maxRecDepth 100000 in
set_option maxHeartbeats 4000000 in
theorem fold_inv2 (bO bP : Int) (a1 a2 : Option Addr) (n1 c1 n2 c2 : Nat) (mine others : List Upd) (hn1 : mine.length = n1) (hn2 : others.length = n2) (z1 : n1 ≤ 1955000000000) (z2 : n2 ≤ 1955000000000) (k1 : n1 ≤ c1) (k2 : n2 ≤ c2) (kO kP : Nat) (lO : kO ≤ n1) (lP : kP ≤ n2) (w : World) (hS1 : Upds w a1 mine) (hS2 : Upds w a2 others) (hpl : plusA bO bP = (bO + bP, 0)) (hvA : (mine.take kO).all validB = true) (hvB : (others.take kP).all validB = false) : Calls Try.prog 9 #[.int .i64 bO, .int .i64 bP, .slice a1 n1 c1, .slice a2 n2 c2, .agg #[.int .i64 (kO : Int), .int .i64 (kP : Int)]] w fun e w' => e = .returned (.tuple #[.agg (tabv (ledv 0 0 (.slice none 0 0)) 3), .int .i64 120]) ∧ Below w.heap.size w w' := by
  have hwO : ∀ w, Calls Try.prog 17 #[.int .i64 (kO : Int), .slice a1 n1 c1] w fun e w' => e = .returned (.int .i64 (kO : Int)) ∧ w' = w := fun w => by have := within_any (kO : Int) a1 n1 c1 w; rw [(inL_eq (kO : Int) n1).2 ⟨by omega, by omega⟩] at this; exact this
  have hwP : ∀ w, Calls Try.prog 17 #[.int .i64 (kP : Int), .slice a2 n2 c2] w fun e w' => e = .returned (.int .i64 (kP : Int)) ∧ w' = w := fun w => by have := within_any (kP : Int) a2 n2 c2 w; rw [(inL_eq (kP : Int) n2).2 ⟨by omega, by omega⟩] at this; exact this
  have HO := hide hwO
  have HP := hide hwP
  have slO := fun w => sliceK w a1 n1 c1 kO (by omega)
  have slP := fun w => sliceK w a2 n2 c2 kP (by omega)
  have qO : ((kO : Int) != (kO : Int)) = false := by simp
  have qP : ((kP : Int) != (kP : Int)) = false := by simp
  obtain ⟨w1, hw1⟩ : ∃ x, w.alloc (.cells #[.int .i64 (kO : Int), .int .i64 (kP : Int)] 51) = x := ⟨_, rfl⟩
  obtain ⟨w2, hw2⟩ : ∃ x, w1.alloc (.cells #[.int .i64 0, .int .i64 0, .slice none 0 0] 46) = x := ⟨_, rfl⟩
  have b1w : Below w.heap.size w w1 := by rw [← hw1]; exact (Below.refl _ w).alloc (Nat.le_refl _) _
  have b2w : Below w.heap.size w w2 := by rw [← hw2]; exact b1w.alloc b1w.size _
  have e0 : w2.cell? ⟨w.heap.size, 0, none⟩ = some (.int .i64 (kO : Int)) := by rw [← hw2, ← hw1]; simp
  have e1 : w2.cell? ⟨w.heap.size, 1, none⟩ = some (.int .i64 (kP : Int)) := by rw [← hw2, ← hw1]; simp
  have gL0 : Has w2 w1.heap.size 46 (ledv 0 0 (.slice none 0 0)) 3 := by rw [← hw2, zeroL]; exact Has.new w1 46 _ 3 _ rfl
  have lt1 : w.heap.size < w1.heap.size := by rw [← hw1]; simp
  generalize hgL : w1.heap.size = gL at gL0 lt1
  have GL := hide gL0
  clear hwO hwP gL0
  go_enter Try.func9, Try.ntmps9
  go_wp2_with fail
  go_quiet ((go_at_call 17; first | exact Calls.quiet_of_same (HO.out _) | exact Calls.quiet_of_same (HP.out _)))
  have f0 : (w2.drewN nq).cell? ⟨w.heap.size, 0, none⟩ = some (.int .i64 (kO : Int)) := e0
  have f1 : (w2.drewN nq).cell? ⟨w.heap.size, 1, none⟩ = some (.int .i64 (kP : Int)) := e1
  have G3 : Hid (Has (w2.drewN nq) gL 46 (ledv 0 0 (.slice none 0 0)) 3) := GL.out
  have b3 : Below w.heap.size w (w2.drewN nq) := belowD b2w nq
  generalize w2.drewN nq = w3 at f0 f1 G3 b3 ⊢
  clear e0 e1 GL b2w b1w hw1 hw2 nq HO HP
  go_wp2_with (go_at_call 18; go_must (refine (aplus_any bO bP w3).mono ?_); rintro e wx ⟨rfl, hx⟩; obtain rfl := hx.symm; clear hx; rw [hpl])
  go_quiet (fail)
  have G4 : Hid (Has (w3.drewN nq) gL 46 (ledv 0 0 (.slice none 0 0)) 3) := G3.out
  have b4 : Below w.heap.size w (w3.drewN nq) := belowD b3 nq
  generalize w3.drewN nq = w4 at G4 b4 ⊢
  clear f0 f1 G3 b3 nq slO slP
  have hltL : gL < w4.heap.size := G4.out.lt
  have VA := allValid_any a1 kO c1 (mine.take kO) (by rw [List.length_take]; omega) (by omega) w4 ((hS1.take kO).below b4)
  rw [hvA] at VA
  have HVA := hide VA
  clear VA
  go_wp2_with fail
  refine HVA.out.mono ?_
  rintro e w5 ⟨rfl, hb5⟩
  have b5 := b4.trans (hb5.mono b4.size)
  have G5 := hide (G4.out.below hb5 hltL)
  have VB := allValid_any a2 kP c2 (others.take kP) (by rw [List.length_take]; omega) (by omega) w5 ((hS2.take kP).below b5)
  rw [hvB] at VB
  go_wp2_with fail
  refine VB.mono ?_
  rintro e w6 ⟨rfl, hb6⟩
  have b6 := b5.trans (hb6.mono b5.size)
  have G6 := hide (G5.out.below hb6 G5.out.lt)
  go_wp2_with (refine wpList_storeL rfl _ _ rfl rfl gL 0 0 (.slice none 0 0) rfl rfl rfl _ G6.out ?_)
  exact bodyPost_ret (resL2 _ gL _ _ (.int .i64 120) 10 11 (G6.out.row _ (ledv 0 0 (.slice none 0 0)) rfl) rfl rfl _ rfl) rfl ⟨rfl, below_setRow b6 (by omega) _⟩
end Go.Proofs.Ytbeoojnofblnjaa
