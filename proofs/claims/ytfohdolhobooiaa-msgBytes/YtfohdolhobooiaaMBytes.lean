/-
  MsgBytes: the walk (printed by gen_m14.py).
-/
import Derived.Test.YtfohdolhobooiaaMDocR
namespace Go.Proofs.Ytfohdolhobooiaa
open Go.RowKit S
set_option linter.unusedVariables false
set_option linter.unusedSimpArgs false
open Cu (nb be hl ofL CW Mw CR Mr RS takeS takeA hOf nil8 num doneS)
theorem upd_both (m : Msg) : ∃ (V : Upd) (B : Bool), (∀ w : World, Calls Try.prog 11 #[.agg (tabv m.v 70)] w fun e w' => e = .returned (.tuple #[.agg (tabv V.v 36), .bool B]) ∧ Below w.heap.size w w') ∧ (∀ w : World, Calls Try.prog 18 #[.agg (tabv m.v 70)] w fun e w' => e = .returned (.tuple #[.agg (tabv V.v 36), .bool B]) ∧ Below w.heap.size w w') := by
  by_cases hk : isU m.kind
  · exact ⟨m.upd, true, update_any_yes m hk, rupdate_any_yes m hk⟩
  · exact ⟨Upd.zero, false, update_any_no m hk, rupdate_any_no m hk⟩
set_option maxRecDepth 100000 in
set_option maxHeartbeats 40000000 in
theorem mbytes_walk (m : Msg) (b : ByteArray) (u : Upd) (hz : b.size ≤ 140737488351232) (w : World) : Calls Try.prog 6 #[.agg (tabv m.v 70), .string b, .agg (tabv u.v 36)] w fun e w' => e = .returned (.bool true) ∧ Below w.heap.size w w' := by
  obtain ⟨w1, hW1⟩ : ∃ wX, w.alloc (.cells (tabv m.v 70) 25) = wX := ⟨_, rfl⟩
  have r1 : Has w1 w.heap.size 25 m.v 70 := by rw [← hW1]; exact Has.new w 25 m.v 70 _ rfl
  have b1 : Below w.heap.size w w1 := by rw [← hW1]; exact (Below.refl w.heap.size w).alloc (Nat.le_refl _) _
  obtain ⟨w2, hW2⟩ : ∃ wX, w1.alloc (.cells (tabv u.v 36) 34) = wX := ⟨_, rfl⟩
  have r2 : Has w2 w1.heap.size 34 u.v 36 := by rw [← hW2]; exact Has.new w1 34 u.v 36 _ rfl
  have b2 : Below w1.heap.size w1 w2 := by rw [← hW2]; exact (Below.refl w1.heap.size w1).alloc (Nat.le_refl _) _
  have RM2 := hide (r1.below b2 r1.lt)
  have RU2 := hide r2
  have GB2 : Hid (Below w.heap.size w w2) := b1.trans (b2.mono b1.size)
  clear r1 b1 r2 b2
  have RB := fun w => mread_any b w (by omega)
  rw [rdC_of] at RB
  have RD := hide (fun w : World => rreadM_any b (by omega) w)
  obtain ⟨⟨x, E⟩, hx⟩ : ∃ y, rdM b.data.toList = y := ⟨_, rfl⟩
  unfold RdD at RD
  rw [hx] at RB RD
  have RB := hide RB
  obtain ⟨V, B, hU1, hU2⟩ := upd_both m
  have U1 := hide hU1
  have U2 := hide hU2
  have W1 := hide (mwrite_any m)
  have W2 := hide (rwriteM_any m)
  generalize wrS m = S at W1 W2
  generalize wrE m = F at W1 W2
  have hss : (S.toList == S.toList) = true := beq_self_eq_true _
  clear hx hU1 hU2 hz
  go_enter Try.func6, Try.ntmps6
  go_wp2_with fail
  refine (mhead_any _).mono ?_
  rintro e w3 ⟨rfl, hb⟩
  have bb : Below w2.heap.size w2 w3 := hb
  have RM3 := hide (RM2.out.below bb RM2.out.lt)
  have RU3 := hide (RU2.out.below bb RU2.out.lt)
  have GB3 : Hid (Below w.heap.size w w3) := GB2.out.trans (bb.mono GB2.out.size)
  clear hb bb RM2 RU2 GB2
  generalize hg3 : w.heap.size = g3 at RM3 GB3 ⊢
  generalize w1.heap.size = g5 at RU3 ⊢
  clear hW1 hW2
  go_wp2_with (first | refine wpW_load_at 25 _ rfl (g3) (0) (by rfl) (by rfl) _ 70 _ (RM3.out.at_ 0 (by omega) (fun i hi => by rw [Nat.zero_add])) Try.underlying25 rfl infoM ?_ | fail)
  refine (W1.out _).mono ?_
  rintro e w4 ⟨rfl, hb⟩
  have bb : Below w3.heap.size w3 w4 := hb
  have RM4 := hide (RM3.out.below bb RM3.out.lt)
  have RU4 := hide (RU3.out.below bb RU3.out.lt)
  have GB4 : Hid (Below g3 w w4) := GB3.out.trans (bb.mono (Nat.le_of_lt RM3.out.lt))
  clear hb bb RM3 RU3 GB3
  go_wp2_with (first | refine wpW_load_at 25 _ rfl (g3) (0) (by rfl) (by rfl) _ 70 _ (RM4.out.at_ 0 (by omega) (fun i hi => by rw [Nat.zero_add])) Try.underlying25 rfl infoM ?_ | fail)
  refine (W2.out _).mono ?_
  rintro e w5 ⟨rfl, hb⟩
  have bb : Below w4.heap.size w4 w5 := hb
  have RM5 := hide (RM4.out.below bb RM4.out.lt)
  have RU5 := hide (RU4.out.below bb RU4.out.lt)
  have GB5 : Hid (Below g3 w w5) := GB4.out.trans (bb.mono (Nat.le_of_lt RM4.out.lt))
  clear hb bb RM4 RU4 GB4
  go_wp2_with fail
  refine (RB.out _).mono ?_
  rintro e wc6 ⟨rfl, hb⟩
  obtain ⟨wn, w6, hWn, rn, hWq, rq, bq, _⟩ := newM wc6 x
  have RN := hide rn
  have bb : Below w5.heap.size w5 w6 := hb.trans (bq.mono hb.size)
  have RX6 := hide rq
  have RM6 := hide (RM5.out.below bb RM5.out.lt)
  have RU6 := hide (RU5.out.below bb RU5.out.lt)
  have GB6 : Hid (Below g3 w w6) := GB5.out.trans (bb.mono (Nat.le_of_lt RM5.out.lt))
  clear hb bb RM5 RU5 GB5 rn rq bq
  go_upto_region 6 with (first | refine wpList_storeM rfl _ _ rfl rfl (wc6.heap.size) (x) rfl rfl _ RN.out ?_ | fail)
  try rw [hWq]
  generalize wc6.heap.size = gRX at RX6 ⊢
  clear hWn hWq RN
  go_wp2_with fail
  refine (RD.out _).mono ?_
  rintro e wc7 ⟨y, rfl, hxy, hb⟩
  have HXY : Hid (eqM x y = true) := hxy
  clear hxy
  obtain ⟨wn, w7, hWn, rn, hWq, rq, bq, _⟩ := newM wc7 y
  have RN := hide rn
  have bb : Below w6.heap.size w6 w7 := hb.trans (bq.mono hb.size)
  have RY7 := hide rq
  have RM7 := hide (RM6.out.below bb RM6.out.lt)
  have RU7 := hide (RU6.out.below bb RU6.out.lt)
  have RX7 := hide (RX6.out.below bb RX6.out.lt)
  have GB7 : Hid (Below g3 w w7) := GB6.out.trans (bb.mono (Nat.le_of_lt RM6.out.lt))
  clear hb bb RM6 RU6 RX6 GB6 rn rq bq
  go_upto_region 7 with (first | refine wpList_storeM rfl _ _ rfl rfl (wc7.heap.size) (y) rfl rfl _ RN.out ?_ | fail)
  try rw [hWq]
  generalize wc7.heap.size = gRY at RY7 ⊢
  clear hWn hWq RN
  go_wp2_with (first | refine wpW_load_at 25 _ rfl (g3) (0) (by rfl) (by rfl) _ 70 _ (RM7.out.at_ 0 (by omega) (fun i hi => by rw [Nat.zero_add])) Try.underlying25 rfl infoM ?_ | fail)
  refine (U1.out _).mono ?_
  rintro e wc8 ⟨rfl, hb⟩
  obtain ⟨wn, w8, hWn, rn, hWq, rq, bq, _⟩ := newU2 wc8 V
  have RN := hide rn
  have bb : Below w7.heap.size w7 w8 := hb.trans (bq.mono hb.size)
  have RV8 := hide rq
  have RM8 := hide (RM7.out.below bb RM7.out.lt)
  have RU8 := hide (RU7.out.below bb RU7.out.lt)
  have RX8 := hide (RX7.out.below bb RX7.out.lt)
  have RY8 := hide (RY7.out.below bb RY7.out.lt)
  have GB8 : Hid (Below g3 w w8) := GB7.out.trans (bb.mono (Nat.le_of_lt RM7.out.lt))
  clear hb bb RM7 RU7 RX7 RY7 GB7 rn rq bq
  go_upto_region 8 with (first | refine wpList_storeU rfl _ _ rfl rfl (wc8.heap.size) (V) rfl rfl _ RN.out ?_ | fail)
  try rw [hWq]
  generalize wc8.heap.size = gRV at RV8 ⊢
  clear hWn hWq RN
  go_wp2_with (first | refine wpW_load_at 25 _ rfl (g3) (0) (by rfl) (by rfl) _ 70 _ (RM8.out.at_ 0 (by omega) (fun i hi => by rw [Nat.zero_add])) Try.underlying25 rfl infoM ?_ | fail)
  refine (U2.out _).mono ?_
  rintro e wc9 ⟨rfl, hb⟩
  obtain ⟨wn, w9, hWn, rn, hWq, rq, bq, _⟩ := newU2 wc9 V
  have RN := hide rn
  have bb : Below w8.heap.size w8 w9 := hb.trans (bq.mono hb.size)
  have RW9 := hide rq
  have RM9 := hide (RM8.out.below bb RM8.out.lt)
  have RU9 := hide (RU8.out.below bb RU8.out.lt)
  have RX9 := hide (RX8.out.below bb RX8.out.lt)
  have RY9 := hide (RY8.out.below bb RY8.out.lt)
  have RV9 := hide (RV8.out.below bb RV8.out.lt)
  have GB9 : Hid (Below g3 w w9) := GB8.out.trans (bb.mono (Nat.le_of_lt RM8.out.lt))
  clear hb bb RM8 RU8 RX8 RY8 RV8 GB8 rn rq bq
  go_upto_region 9 with (first | refine wpList_storeU rfl _ _ rfl rfl (wc9.heap.size) (V) rfl rfl _ RN.out ?_ | fail)
  try rw [hWq]
  generalize wc9.heap.size = gRW at RW9 ⊢
  clear hWn hWq RN
  go_wp2
  refine wp_region_noPanic ?_
  refine wp_region_held_drew (S := fun wx => Below w9.heap.size w9 wx) (by kernel_rfl) ((Below.refl _ _).drew) (fun hHeld => ?_)
  refine Cu.takeH 0 (some 51) (.string S) rfl rfl (by kernel_rfl) (by kernel_rfl) (by kernel_rfl) (fun _ _ _ h => h) (by rfl) (fun w hw => by first | rfl | (go_simp; done) | (go_simp; rfl) | (go_simp; omega)) hHeld ?_
  simp only [Act.put, List.setIfInBounds_toArray, List.set_cons_zero, List.set_cons_succ]
  refine Cu.takeH 1 (some 52) (.string S) rfl rfl (by kernel_rfl) (by kernel_rfl) (by kernel_rfl) (fun _ _ _ h => h) (by rfl) (fun w hw => by first | rfl | (go_simp; done) | (go_simp; rfl) | (go_simp; omega)) hHeld ?_
  simp only [Act.put, List.setIfInBounds_toArray, List.set_cons_zero, List.set_cons_succ]
  refine Cu.takeH 2 (some 53) (.bool true) rfl rfl (by kernel_rfl) (by kernel_rfl) (by kernel_rfl) (fun _ _ _ h => h) (by rfl) (fun w hw => by first | rfl | (go_simp; done) | (go_simp; rfl) | (go_simp; omega)) hHeld ?_
  simp only [Act.put, List.setIfInBounds_toArray, List.set_cons_zero, List.set_cons_succ]
  refine Cu.takeH 3 (some 54) (.bool true) rfl rfl (by kernel_rfl) (by kernel_rfl) (by kernel_rfl) (fun _ _ _ h => h) (by rfl) (fun w hw => by first | rfl | (go_simp; done) | (go_simp; rfl) | (go_simp; omega)) hHeld ?_
  simp only [Act.put, List.setIfInBounds_toArray, List.set_cons_zero, List.set_cons_succ]
  refine Cu.takeH 4 (some 55) (.int .i64 F) rfl rfl (by kernel_rfl) (by kernel_rfl) (by kernel_rfl) (fun _ _ _ h => h) (by rfl) (fun w hw => by first | rfl | (go_simp; done) | (go_simp; rfl) | (go_simp; omega)) hHeld ?_
  simp only [Act.put, List.setIfInBounds_toArray, List.set_cons_zero, List.set_cons_succ]
  refine Cu.takeH 5 (some 56) (.int .i64 F) rfl rfl (by kernel_rfl) (by kernel_rfl) (by kernel_rfl) (fun _ _ _ h => h) (by rfl) (fun w hw => by first | rfl | (go_simp; done) | (go_simp; rfl) | (go_simp; omega)) hHeld ?_
  simp only [Act.put, List.setIfInBounds_toArray, List.set_cons_zero, List.set_cons_succ]
  refine Cu.takeH 6 (some 57) (.bool true) rfl rfl (by kernel_rfl) (by kernel_rfl) (by kernel_rfl) (fun _ _ _ h => h) (by rfl) (fun w hw => by first | rfl | (go_simp; done) | (go_simp; rfl) | (go_simp; omega)) hHeld ?_
  simp only [Act.put, List.setIfInBounds_toArray, List.set_cons_zero, List.set_cons_succ]
  refine Cu.takeH 7 (some 58) (.bool true) rfl rfl (by kernel_rfl) (by kernel_rfl) (by kernel_rfl) (fun _ _ _ h => h) (by rfl) (fun w hw => by first | rfl | (go_simp; done) | (go_simp; rfl) | (go_simp; omega)) hHeld ?_
  simp only [Act.put, List.setIfInBounds_toArray, List.set_cons_zero, List.set_cons_succ]
  refine Cu.takeH 8 (some 59) (.bool true) rfl rfl (by kernel_rfl) (by kernel_rfl) (by kernel_rfl) (fun _ _ _ h => h) (by rfl) (fun w hw => by first | rfl | (go_simp; done) | (go_simp; rfl) | (go_simp; omega)) hHeld ?_
  simp only [Act.put, List.setIfInBounds_toArray, List.set_cons_zero, List.set_cons_succ]
  refine Cu.takeH 9 (some 60) (.agg (tabv x.v 70)) rfl rfl (by kernel_rfl) (by kernel_rfl) (by kernel_rfl) (fun _ _ _ h => h) (by rfl) (fun w hw => run_load_at w 25 _ rfl gRX 0 (by rfl) _ 70 _ ((RX9.out.below hw RX9.out.lt).at_ 0 (by omega) (fun i hi => by rw [Nat.zero_add])) Try.underlying25 rfl infoM) hHeld ?_
  simp only [Act.put, List.setIfInBounds_toArray, List.set_cons_zero, List.set_cons_succ]
  refine Cu.takeH 10 (some 61) (.agg (tabv y.v 70)) rfl rfl (by kernel_rfl) (by kernel_rfl) (by kernel_rfl) (fun _ _ _ h => h) (by rfl) (fun w hw => run_load_at w 25 _ rfl gRY 0 (by rfl) _ 70 _ ((RY9.out.below hw RY9.out.lt).at_ 0 (by omega) (fun i hi => by rw [Nat.zero_add])) Try.underlying25 rfl infoM) hHeld ?_
  simp only [Act.put, List.setIfInBounds_toArray, List.set_cons_zero, List.set_cons_succ]
  refine Cu.takeH 11 (some 62) (.bool true) rfl rfl (by kernel_rfl) (by kernel_rfl) (by kernel_rfl) (fun _ _ _ h => h) (by rfl) (fun w hw => run_eqM w _ _ x y true rfl (by rfl) (by rfl) HXY.out) hHeld ?_
  simp only [Act.put, List.setIfInBounds_toArray, List.set_cons_zero, List.set_cons_succ]
  refine Cu.takeH 12 (some 63) (.bool true) rfl rfl (by kernel_rfl) (by kernel_rfl) (by kernel_rfl) (fun _ _ _ h => h) (by rfl) (fun w hw => by first | rfl | (go_simp; done) | (go_simp; rfl) | (go_simp; omega)) hHeld ?_
  simp only [Act.put, List.setIfInBounds_toArray, List.set_cons_zero, List.set_cons_succ]
  refine Cu.takeH 13 (some 64) (.bool true) rfl rfl (by kernel_rfl) (by kernel_rfl) (by kernel_rfl) (fun _ _ _ h => h) (by rfl) (fun w hw => by first | rfl | (go_simp; done) | (go_simp; rfl) | (go_simp; omega)) hHeld ?_
  simp only [Act.put, List.setIfInBounds_toArray, List.set_cons_zero, List.set_cons_succ]
  refine Cu.takeH 14 (some 65) (.int .i64 E) rfl rfl (by kernel_rfl) (by kernel_rfl) (by kernel_rfl) (fun _ _ _ h => h) (by rfl) (fun w hw => by first | rfl | (go_simp; done) | (go_simp; rfl) | (go_simp; omega)) hHeld ?_
  simp only [Act.put, List.setIfInBounds_toArray, List.set_cons_zero, List.set_cons_succ]
  refine Cu.takeH 15 (some 66) (.int .i64 E) rfl rfl (by kernel_rfl) (by kernel_rfl) (by kernel_rfl) (fun _ _ _ h => h) (by rfl) (fun w hw => by first | rfl | (go_simp; done) | (go_simp; rfl) | (go_simp; omega)) hHeld ?_
  simp only [Act.put, List.setIfInBounds_toArray, List.set_cons_zero, List.set_cons_succ]
  refine Cu.takeH 16 (some 67) (.bool true) rfl rfl (by kernel_rfl) (by kernel_rfl) (by kernel_rfl) (fun _ _ _ h => h) (by rfl) (fun w hw => by first | rfl | (go_simp; done) | (go_simp; rfl) | (go_simp; omega)) hHeld ?_
  simp only [Act.put, List.setIfInBounds_toArray, List.set_cons_zero, List.set_cons_succ]
  refine Cu.takeH 17 (some 68) (.bool true) rfl rfl (by kernel_rfl) (by kernel_rfl) (by kernel_rfl) (fun _ _ _ h => h) (by rfl) (fun w hw => by first | rfl | (go_simp; done) | (go_simp; rfl) | (go_simp; omega)) hHeld ?_
  simp only [Act.put, List.setIfInBounds_toArray, List.set_cons_zero, List.set_cons_succ]
  refine Cu.takeH 18 (some 69) (.bool true) rfl rfl (by kernel_rfl) (by kernel_rfl) (by kernel_rfl) (fun _ _ _ h => h) (by rfl) (fun w hw => by first | rfl | (go_simp; done) | (go_simp; rfl) | (go_simp; omega)) hHeld ?_
  simp only [Act.put, List.setIfInBounds_toArray, List.set_cons_zero, List.set_cons_succ]
  refine Cu.takeH 19 (some 70) (.agg (tabv V.v 36)) rfl rfl (by kernel_rfl) (by kernel_rfl) (by kernel_rfl) (fun _ _ _ h => h) (by rfl) (fun w hw => run_load_at w 34 _ rfl gRV 0 (by rfl) _ 36 _ ((RV9.out.below hw RV9.out.lt).at_ 0 (by omega) (fun i hi => by rw [Nat.zero_add])) Try.underlying34 rfl infoU) hHeld ?_
  simp only [Act.put, List.setIfInBounds_toArray, List.set_cons_zero, List.set_cons_succ]
  refine Cu.takeH 20 (some 71) (.agg (tabv V.v 36)) rfl rfl (by kernel_rfl) (by kernel_rfl) (by kernel_rfl) (fun _ _ _ h => h) (by rfl) (fun w hw => run_load_at w 34 _ rfl gRW 0 (by rfl) _ 36 _ ((RW9.out.below hw RW9.out.lt).at_ 0 (by omega) (fun i hi => by rw [Nat.zero_add])) Try.underlying34 rfl infoU) hHeld ?_
  simp only [Act.put, List.setIfInBounds_toArray, List.set_cons_zero, List.set_cons_succ]
  refine Cu.takeH 21 (some 72) (.bool true) rfl rfl (by kernel_rfl) (by kernel_rfl) (by kernel_rfl) (fun _ _ _ h => h) (by rfl) (fun w hw => run_eqUm w _ _ V V true rfl (by rfl) (by rfl) (eqU_refl _)) hHeld ?_
  simp only [Act.put, List.setIfInBounds_toArray, List.set_cons_zero, List.set_cons_succ]
  refine Cu.takeH 22 (some 73) (.bool true) rfl rfl (by kernel_rfl) (by kernel_rfl) (by kernel_rfl) (fun _ _ _ h => h) (by rfl) (fun w hw => by first | rfl | (go_simp; done) | (go_simp; rfl) | (go_simp; omega)) hHeld ?_
  simp only [Act.put, List.setIfInBounds_toArray, List.set_cons_zero, List.set_cons_succ]
  refine Cu.takeH 23 (some 74) (.bool true) rfl rfl (by kernel_rfl) (by kernel_rfl) (by kernel_rfl) (fun _ _ _ h => h) (by rfl) (fun w hw => by first | rfl | (go_simp; done) | (go_simp; rfl) | (go_simp; omega)) hHeld ?_
  simp only [Act.put, List.setIfInBounds_toArray, List.set_cons_zero, List.set_cons_succ]
  refine Cu.takeH 24 (some 75) (.bool B) rfl rfl (by kernel_rfl) (by kernel_rfl) (by kernel_rfl) (fun _ _ _ h => h) (by rfl) (fun w hw => by first | rfl | (go_simp; done) | (go_simp; rfl) | (go_simp; omega)) hHeld ?_
  simp only [Act.put, List.setIfInBounds_toArray, List.set_cons_zero, List.set_cons_succ]
  refine Cu.takeH 25 (some 76) (.bool B) rfl rfl (by kernel_rfl) (by kernel_rfl) (by kernel_rfl) (fun _ _ _ h => h) (by rfl) (fun w hw => by first | rfl | (go_simp; done) | (go_simp; rfl) | (go_simp; omega)) hHeld ?_
  simp only [Act.put, List.setIfInBounds_toArray, List.set_cons_zero, List.set_cons_succ]
  refine Cu.takeH 26 (some 77) (.bool true) rfl rfl (by kernel_rfl) (by kernel_rfl) (by kernel_rfl) (fun _ _ _ h => h) (by rfl) (fun w hw => by cases B <;> (first | rfl | (go_simp; done) | (go_simp; rfl))) hHeld ?_
  simp only [Act.put, List.setIfInBounds_toArray, List.set_cons_zero, List.set_cons_succ]
  refine Cu.takeH 27 (some 78) (.bool true) rfl rfl (by kernel_rfl) (by kernel_rfl) (by kernel_rfl) (fun _ _ _ h => h) (by rfl) (fun w hw => by first | rfl | (go_simp; done) | (go_simp; rfl) | (go_simp; omega)) hHeld ?_
  simp only [Act.put, List.setIfInBounds_toArray, List.set_cons_zero, List.set_cons_succ]
  refine Cu.takeH 28 (some 79) (.bool true) rfl rfl (by kernel_rfl) (by kernel_rfl) (by kernel_rfl) (fun _ _ _ h => h) (by rfl) (fun w hw => by first | rfl | (go_simp; done) | (go_simp; rfl) | (go_simp; omega)) hHeld ?_
  simp only [Act.put, List.setIfInBounds_toArray, List.set_cons_zero, List.set_cons_succ]
  refine Cu.takeH 29 (some 80) (.agg (tabv u.v 36)) rfl rfl (by kernel_rfl) (by kernel_rfl) (by kernel_rfl) (fun _ _ _ h => h) (by rfl) (fun w hw => run_load_at w 34 _ rfl g5 0 (by rfl) _ 36 _ ((RU9.out.below hw RU9.out.lt).at_ 0 (by omega) (fun i hi => by rw [Nat.zero_add])) Try.underlying34 rfl infoU) hHeld ?_
  simp only [Act.put, List.setIfInBounds_toArray, List.set_cons_zero, List.set_cons_succ]
  refine Cu.takeH 31 (some 82) (.agg (tabv u.v 36)) rfl rfl (by kernel_rfl) (by kernel_rfl) (by kernel_rfl) (fun _ _ _ h => h) (by rfl) (fun w hw => run_load_at w 34 _ rfl g5 0 (by rfl) _ 36 _ ((RU9.out.below hw RU9.out.lt).at_ 0 (by omega) (fun i hi => by rw [Nat.zero_add])) Try.underlying34 rfl infoU) hHeld ?_
  simp only [Act.put, List.setIfInBounds_toArray, List.set_cons_zero, List.set_cons_succ]
  refine wpAnyH_ready (rs := [30]) (by kernel_rfl) (by simp) (AllReadyH.cons rfl (fun K hK => ?_) AllReadyH.nil)
  rw [if_pos (by rfl)]
  go_simp
  refine (of_any u _).mono ?_
  rintro e wA ⟨rfl, hbA⟩
  try go_wp2_with fail
  refine hK.out _ _ (hHeld.trans (hbA.mono hHeld.size)) (fun hH => ?_)
  clear hK K hHeld
  have hHeld := hH
  clear hH
  clear hbA
  refine wpAnyH_ready (rs := [32]) (by kernel_rfl) (by simp) (AllReadyH.cons rfl (fun K hK => ?_) AllReadyH.nil)
  rw [if_pos (by rfl)]
  go_simp
  refine (rof_any u _).mono ?_
  rintro e wB ⟨rfl, hbA⟩
  try go_wp2_with fail
  refine hK.out _ _ (hHeld.trans (hbA.mono hHeld.size)) (fun hH => ?_)
  clear hK K hHeld
  have hHeld := hH
  clear hH
  clear hbA
  refine Cu.takeH 33 (some 84) (.bool true) rfl rfl (by kernel_rfl) (by kernel_rfl) (by kernel_rfl) (fun _ _ _ h => h) (by rfl) (fun w hw => run_eqM w _ _ (ofU u) (ofU u) true rfl (by rfl) (by rfl) (eqM_refl _)) hHeld ?_
  simp only [Act.put, List.setIfInBounds_toArray, List.set_cons_zero, List.set_cons_succ]
  refine Cu.takeH 34 (some 85) (.bool true) rfl rfl (by kernel_rfl) (by kernel_rfl) (by kernel_rfl) (fun _ _ _ h => h) (by rfl) (fun w hw => by first | rfl | (go_simp; done) | (go_simp; rfl) | (go_simp; omega)) hHeld ?_
  simp only [Act.put, List.setIfInBounds_toArray, List.set_cons_zero, List.set_cons_succ]
  refine Cu.takeH 35 (some 6) (.bool true) rfl rfl (by kernel_rfl) (by kernel_rfl) (by kernel_rfl) (fun _ _ _ h => h) (by rfl) (fun w hw => by first | rfl | (go_simp; done) | (go_simp; rfl) | (go_simp; omega)) hHeld ?_
  simp only [Act.put, List.setIfInBounds_toArray, List.set_cons_zero, List.set_cons_succ]
  refine ⟨by kernel_rfl, ?_⟩
  refine NoPanic.normal ?_
  have gF := GB9.out.trans (hHeld.mono (Nat.le_of_lt RM9.out.lt))
  try go_wp2
  go_ret
  exact ⟨rfl, by first | exact gF | (rw [hg3]; exact gF)⟩
end Go.Proofs.Ytfohdolhobooiaa
