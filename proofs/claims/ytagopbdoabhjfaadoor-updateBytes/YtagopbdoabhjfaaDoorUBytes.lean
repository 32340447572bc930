/-
  UpdateBytes: the walk (printed by gen_bytes.py).
-/
import Derived.Test.YtagopbdoabhjfaaDoorUHead
import Derived.Test.YtagopbdoabhjfaaDoorUDoc
import Derived.Test.YtagopbdoabhjfaaDoorURRead
namespace Go.Proofs.YtagopbdoabhjfaaDoor
open Go.RowKit S
set_option linter.unusedVariables false
set_option linter.unusedSimpArgs false
theorem run_eqU {o : Oper} {a : Act} (w : World) (x y : Operand) (s t : Upd) (R : Bool) (ho : o.op = .binOp .eql 25 x y 25) (hx : a.eval x = .agg (tabv s.v 36)) (hy : a.eval y = .agg (tabv t.v 36))
    (hq : ∀ w : World, (Op.equalIn 10000 25 (.agg (tabv s.v 36)) (.agg (tabv t.v 36))).run Tryd.prog w = .ok R w) : (execOp a.eval o).run Tryd.prog w = .ok (.value (.bool R)) w := by
  have gh := guardU
  unfold execOp
  simp only [ho, hx, hy]
  go_simp
set_option maxRecDepth 100000 in
set_option maxHeartbeats 4000000 in
theorem bytes_walk (n : Num) (u : Upd) (b : ByteArray) (hz : b.size ≤ 140737488351232) (w : World) (hG : Glob n w) : Calls Tryd.prog 6 #[.agg (tabv u.v 36), .string b] w fun e w' => e = .returned (.bool true) ∧ Below w.heap.size w w' := by
  obtain ⟨w3, hW⟩ : ∃ x, w.alloc (.cells (tabv u.v 36) 25) = x := ⟨_, rfl⟩
  have g0 : Has w3 w.heap.size 25 u.v 36 := by rw [← hW]; exact Has.new w 25 u.v 36 _ rfl
  have gb : Below w.heap.size w w3 := by rw [← hW]; exact (Below.refl w.heap.size w).alloc (Nat.le_refl _) _

  have G0 := hide g0
  have HD := hide (fun (w : World) (hG : Glob n w) => head_any n w hG)
  have W1 := hide (fun w : World => write_any u w)
  have W2 := hide (fun w : World => rwrite_any u w)
  have V1 := hide (fun w : World => valid_any u w)
  have V2 := hide (fun w : World => rvalid_any u w)
  have R1 := hide (fun w : World => read_any b w (by omega))
  have R2 := hide (fun w : World => rread_any b w (by omega))
  rw [readC_of] at R1
  obtain ⟨s, hs⟩ : ∃ x, writeS u = x := ⟨_, rfl⟩
  obtain ⟨E, hE⟩ : ∃ x, writeE u = x := ⟨_, rfl⟩
  obtain ⟨v, hv⟩ : ∃ x, (rdL b.data.toList).1 = x := ⟨_, rfl⟩
  obtain ⟨m, hm⟩ : ∃ x, (rdL b.data.toList).2.1 = x := ⟨_, rfl⟩
  obtain ⟨f, hf⟩ : ∃ x, (rdL b.data.toList).2.2 = x := ⟨_, rfl⟩
  obtain ⟨V, hV⟩ : ∃ x, validB u = x := ⟨_, rfl⟩
  rw [hs, hE] at W1 W2
  rw [hv, hm, hf] at R1 R2
  rw [hV] at V1 V2
  have hq : ∀ w : World, (Op.equalIn 10000 25 (.agg (tabv v.v 36)) (.agg (tabv v.v 36))).run Tryd.prog w = .ok true w := fun w => by rw [eqUD, eqU_refl]
  have HQ := hide hq
  clear hs hE hv hm hf hV hq g0
  go_enter Tryd.func6, Tryd.ntmps6
  go_wp2_with fail
  refine (HD.out _ (hG.up gb (Nat.le_refl _))).mono ?_
  rintro e w4 ⟨rfl, hb4⟩
  have gb4 := gb.trans (hb4.mono gb.size)
  have G4 := hide (G0.out.below hb4 G0.out.lt)
  clear hb4 gb hW
  go_wp2_with (first | refine wpW_load_at 25 _ rfl (w.heap.size) (0) (by rfl) (by rfl) _ 36 _ (G4.out.at_ 0 (by omega) (fun i hi => by rw [Nat.zero_add])) Tryd.underlying25 rfl infoU ?_ | fail)
  refine (W1.out _).mono ?_
  rintro e w5 ⟨rfl, hb5⟩
  have gb5 := gb4.trans (hb5.mono gb4.size)
  have G5 := hide (G4.out.below hb5 G4.out.lt)
  clear hb5 gb4
  go_wp2_with (first | refine wpW_load_at 25 _ rfl (w.heap.size) (0) (by rfl) (by rfl) _ 36 _ (G5.out.at_ 0 (by omega) (fun i hi => by rw [Nat.zero_add])) Tryd.underlying25 rfl infoU ?_ | fail)
  refine (W2.out _).mono ?_
  rintro e w6 ⟨rfl, hb6⟩
  have gb6 := gb5.trans (hb6.mono gb5.size)
  have G6 := hide (G5.out.below hb6 G5.out.lt)
  clear hb6 gb5
  go_wp2_with fail
  refine (R1.out _).mono ?_
  rintro e w7 ⟨rfl, hb7⟩
  obtain ⟨w8, w9, hW8, p8, hW9, r9, rb9⟩ := newU w7 v
  have P8 := hide p8
  have A9 := hide r9
  have b9 : Below w6.heap.size w6 w9 := hb7.trans (rb9.mono hb7.size)
  have gb9 := gb6.trans (b9.mono gb6.size)
  have G9 := hide (G6.out.below b9 G6.out.lt)
  clear p8 r9 rb9 hb7 b9 gb6
  go_wp2_with (first | refine wpList_storeU rfl _ _ rfl rfl (w7.heap.size) (v) rfl rfl _ P8.out ?_ | fail)
  refine (R2.out _).mono ?_
  rintro e wa ⟨rfl, hba⟩
  obtain ⟨wb, wc, hWb, pb, hWc, rc, rbc⟩ := newU wa v
  have Pb := hide pb
  have Bc := hide rc
  have bc : Below w9.heap.size w9 wc := hba.trans (rbc.mono hba.size)
  have gbc := gb9.trans (bc.mono gb9.size)
  have Gc := hide (G9.out.below bc G9.out.lt)
  have Ac := hide (A9.out.below bc A9.out.lt)
  clear pb rc rbc hba bc gb9 hW8 hW9 P8
  generalize w7.heap.size = gA at Ac A9 ⊢
  go_wp2_with (first | refine wpList_storeU rfl _ _ rfl rfl (wa.heap.size) (v) rfl rfl _ Pb.out ?_)
  try rw [hWc]
  clear hWb hWc Pb
  generalize wa.heap.size = gB at Bc ⊢
  refine wp_region_noPanic ?_
  refine wp_region_held_drew (S := fun wx => Below wc.heap.size wc wx) (by kernel_rfl) ((Below.refl _ _).drew) (fun hHeld => ?_)
  refine Cu.takeH 0 (some 39) (.string s) rfl rfl (by kernel_rfl) (by kernel_rfl) (by kernel_rfl) (fun _ _ _ h => h) (by rfl) (fun w hw => by first | rfl | (go_simp; done) | (go_simp; rfl) | (go_simp; omega)) hHeld ?_
  simp only [Act.put, List.setIfInBounds_toArray, List.set_cons_zero, List.set_cons_succ]
  refine Cu.takeH 1 (some 40) (.string s) rfl rfl (by kernel_rfl) (by kernel_rfl) (by kernel_rfl) (fun _ _ _ h => h) (by rfl) (fun w hw => by first | rfl | (go_simp; done) | (go_simp; rfl) | (go_simp; omega)) hHeld ?_
  simp only [Act.put, List.setIfInBounds_toArray, List.set_cons_zero, List.set_cons_succ]
  refine Cu.takeH 2 (some 41) (.bool true) rfl rfl (by kernel_rfl) (by kernel_rfl) (by kernel_rfl) (fun _ _ _ h => h) (by rfl) (fun w hw => by go_simp) hHeld ?_
  simp only [Act.put, List.setIfInBounds_toArray, List.set_cons_zero, List.set_cons_succ]
  refine Cu.takeH 3 (some 42) (.bool true) rfl rfl (by kernel_rfl) (by kernel_rfl) (by kernel_rfl) (fun _ _ _ h => h) (by rfl) (fun w hw => by first | rfl | (go_simp; done) | (go_simp; rfl) | (go_simp; omega)) hHeld ?_
  simp only [Act.put, List.setIfInBounds_toArray, List.set_cons_zero, List.set_cons_succ]
  refine Cu.takeH 4 (some 43) (.int .i64 E) rfl rfl (by kernel_rfl) (by kernel_rfl) (by kernel_rfl) (fun _ _ _ h => h) (by rfl) (fun w hw => by first | rfl | (go_simp; done) | (go_simp; rfl) | (go_simp; omega)) hHeld ?_
  simp only [Act.put, List.setIfInBounds_toArray, List.set_cons_zero, List.set_cons_succ]
  refine Cu.takeH 5 (some 44) (.int .i64 E) rfl rfl (by kernel_rfl) (by kernel_rfl) (by kernel_rfl) (fun _ _ _ h => h) (by rfl) (fun w hw => by first | rfl | (go_simp; done) | (go_simp; rfl) | (go_simp; omega)) hHeld ?_
  simp only [Act.put, List.setIfInBounds_toArray, List.set_cons_zero, List.set_cons_succ]
  refine Cu.takeH 6 (some 45) (.bool true) rfl rfl (by kernel_rfl) (by kernel_rfl) (by kernel_rfl) (fun _ _ _ h => h) (by rfl) (fun w hw => by go_simp) hHeld ?_
  simp only [Act.put, List.setIfInBounds_toArray, List.set_cons_zero, List.set_cons_succ]
  refine Cu.takeH 7 (some 46) (.bool true) rfl rfl (by kernel_rfl) (by kernel_rfl) (by kernel_rfl) (fun _ _ _ h => h) (by rfl) (fun w hw => by first | rfl | (go_simp; done) | (go_simp; rfl) | (go_simp; omega)) hHeld ?_
  simp only [Act.put, List.setIfInBounds_toArray, List.set_cons_zero, List.set_cons_succ]
  refine Cu.takeH 8 (some 47) (.bool true) rfl rfl (by kernel_rfl) (by kernel_rfl) (by kernel_rfl) (fun _ _ _ h => h) (by rfl) (fun w hw => by first | rfl | (go_simp; done) | (go_simp; rfl) | (go_simp; omega)) hHeld ?_
  simp only [Act.put, List.setIfInBounds_toArray, List.set_cons_zero, List.set_cons_succ]
  refine Cu.takeH 9 (some 48) (.agg (tabv v.v 36)) rfl rfl (by kernel_rfl) (by kernel_rfl) (by kernel_rfl) (fun _ _ _ h => h) (by rfl) (fun w hw => run_load_at w 25 _ rfl _ 0 (by rfl) _ 36 _ ((Ac.out.below hw Ac.out.lt).at_ 0 (by omega) (fun i hi => by rw [Nat.zero_add])) Tryd.underlying25 rfl infoU) hHeld ?_
  simp only [Act.put, List.setIfInBounds_toArray, List.set_cons_zero, List.set_cons_succ]
  refine Cu.takeH 10 (some 49) (.agg (tabv v.v 36)) rfl rfl (by kernel_rfl) (by kernel_rfl) (by kernel_rfl) (fun _ _ _ h => h) (by rfl) (fun w hw => run_load_at w 25 _ rfl _ 0 (by rfl) _ 36 _ ((Bc.out.below hw Bc.out.lt).at_ 0 (by omega) (fun i hi => by rw [Nat.zero_add])) Tryd.underlying25 rfl infoU) hHeld ?_
  simp only [Act.put, List.setIfInBounds_toArray, List.set_cons_zero, List.set_cons_succ]
  refine Cu.takeH 11 (some 50) (.bool true) rfl rfl (by kernel_rfl) (by kernel_rfl) (by kernel_rfl) (fun _ _ _ h => h) (by rfl) (fun w hw => run_eqU w _ _ v v true rfl rfl rfl HQ.out) hHeld ?_
  simp only [Act.put, List.setIfInBounds_toArray, List.set_cons_zero, List.set_cons_succ]
  refine Cu.takeH 12 (some 51) (.bool true) rfl rfl (by kernel_rfl) (by kernel_rfl) (by kernel_rfl) (fun _ _ _ h => h) (by rfl) (fun w hw => by first | rfl | (go_simp; done) | (go_simp; rfl) | (go_simp; omega)) hHeld ?_
  simp only [Act.put, List.setIfInBounds_toArray, List.set_cons_zero, List.set_cons_succ]
  refine Cu.takeH 13 (some 52) (.bool true) rfl rfl (by kernel_rfl) (by kernel_rfl) (by kernel_rfl) (fun _ _ _ h => h) (by rfl) (fun w hw => by first | rfl | (go_simp; done) | (go_simp; rfl) | (go_simp; omega)) hHeld ?_
  simp only [Act.put, List.setIfInBounds_toArray, List.set_cons_zero, List.set_cons_succ]
  refine Cu.takeH 14 (some 53) (.int .i64 m) rfl rfl (by kernel_rfl) (by kernel_rfl) (by kernel_rfl) (fun _ _ _ h => h) (by rfl) (fun w hw => by first | rfl | (go_simp; done) | (go_simp; rfl) | (go_simp; omega)) hHeld ?_
  simp only [Act.put, List.setIfInBounds_toArray, List.set_cons_zero, List.set_cons_succ]
  refine Cu.takeH 15 (some 54) (.int .i64 m) rfl rfl (by kernel_rfl) (by kernel_rfl) (by kernel_rfl) (fun _ _ _ h => h) (by rfl) (fun w hw => by first | rfl | (go_simp; done) | (go_simp; rfl) | (go_simp; omega)) hHeld ?_
  simp only [Act.put, List.setIfInBounds_toArray, List.set_cons_zero, List.set_cons_succ]
  refine Cu.takeH 16 (some 55) (.bool true) rfl rfl (by kernel_rfl) (by kernel_rfl) (by kernel_rfl) (fun _ _ _ h => h) (by rfl) (fun w hw => by go_simp) hHeld ?_
  simp only [Act.put, List.setIfInBounds_toArray, List.set_cons_zero, List.set_cons_succ]
  refine Cu.takeH 17 (some 56) (.bool true) rfl rfl (by kernel_rfl) (by kernel_rfl) (by kernel_rfl) (fun _ _ _ h => h) (by rfl) (fun w hw => by first | rfl | (go_simp; done) | (go_simp; rfl) | (go_simp; omega)) hHeld ?_
  simp only [Act.put, List.setIfInBounds_toArray, List.set_cons_zero, List.set_cons_succ]
  refine Cu.takeH 18 (some 57) (.bool true) rfl rfl (by kernel_rfl) (by kernel_rfl) (by kernel_rfl) (fun _ _ _ h => h) (by rfl) (fun w hw => by first | rfl | (go_simp; done) | (go_simp; rfl) | (go_simp; omega)) hHeld ?_
  simp only [Act.put, List.setIfInBounds_toArray, List.set_cons_zero, List.set_cons_succ]
  refine Cu.takeH 19 (some 58) (.int .i64 f) rfl rfl (by kernel_rfl) (by kernel_rfl) (by kernel_rfl) (fun _ _ _ h => h) (by rfl) (fun w hw => by first | rfl | (go_simp; done) | (go_simp; rfl) | (go_simp; omega)) hHeld ?_
  simp only [Act.put, List.setIfInBounds_toArray, List.set_cons_zero, List.set_cons_succ]
  refine Cu.takeH 20 (some 59) (.int .i64 f) rfl rfl (by kernel_rfl) (by kernel_rfl) (by kernel_rfl) (fun _ _ _ h => h) (by rfl) (fun w hw => by first | rfl | (go_simp; done) | (go_simp; rfl) | (go_simp; omega)) hHeld ?_
  simp only [Act.put, List.setIfInBounds_toArray, List.set_cons_zero, List.set_cons_succ]
  refine Cu.takeH 21 (some 60) (.bool true) rfl rfl (by kernel_rfl) (by kernel_rfl) (by kernel_rfl) (fun _ _ _ h => h) (by rfl) (fun w hw => by go_simp) hHeld ?_
  simp only [Act.put, List.setIfInBounds_toArray, List.set_cons_zero, List.set_cons_succ]
  refine Cu.takeH 22 (some 61) (.bool true) rfl rfl (by kernel_rfl) (by kernel_rfl) (by kernel_rfl) (fun _ _ _ h => h) (by rfl) (fun w hw => by first | rfl | (go_simp; done) | (go_simp; rfl) | (go_simp; omega)) hHeld ?_
  simp only [Act.put, List.setIfInBounds_toArray, List.set_cons_zero, List.set_cons_succ]
  refine Cu.takeH 23 (some 62) (.bool true) rfl rfl (by kernel_rfl) (by kernel_rfl) (by kernel_rfl) (fun _ _ _ h => h) (by rfl) (fun w hw => by first | rfl | (go_simp; done) | (go_simp; rfl) | (go_simp; omega)) hHeld ?_
  simp only [Act.put, List.setIfInBounds_toArray, List.set_cons_zero, List.set_cons_succ]
  refine Cu.takeH 24 (some 63) (.agg (tabv u.v 36)) rfl rfl (by kernel_rfl) (by kernel_rfl) (by kernel_rfl) (fun _ _ _ h => h) (by rfl) (fun w hw => run_load_at w 25 _ rfl _ 0 (by rfl) _ 36 _ ((Gc.out.below hw Gc.out.lt).at_ 0 (by omega) (fun i hi => by rw [Nat.zero_add])) Tryd.underlying25 rfl infoU) hHeld ?_
  simp only [Act.put, List.setIfInBounds_toArray, List.set_cons_zero, List.set_cons_succ]
  refine Cu.takeH 26 (some 65) (.agg (tabv u.v 36)) rfl rfl (by kernel_rfl) (by kernel_rfl) (by kernel_rfl) (fun _ _ _ h => h) (by rfl) (fun w hw => run_load_at w 25 _ rfl _ 0 (by rfl) _ 36 _ ((Gc.out.below hw Gc.out.lt).at_ 0 (by omega) (fun i hi => by rw [Nat.zero_add])) Tryd.underlying25 rfl infoU) hHeld ?_
  simp only [Act.put, List.setIfInBounds_toArray, List.set_cons_zero, List.set_cons_succ]
  refine wpAnyH_ready (rs := [25]) (by kernel_rfl) (by simp) (AllReadyH.cons rfl (fun K hK => ?_) AllReadyH.nil)
  rw [if_pos (by rfl)]
  go_simp
  refine (V1.out _).mono ?_
  rintro e wd ⟨rfl, hbd⟩
  try go_wp2_with fail
  refine hK.out _ _ (hHeld.trans (hbd.mono hHeld.size)) (fun hH => ?_)
  clear hK K hHeld
  have hHeld := hH
  clear hH
  refine wpAnyH_ready (rs := [27]) (by kernel_rfl) (by simp) (AllReadyH.cons rfl (fun K hK => ?_) AllReadyH.nil)
  rw [if_pos (by rfl)]
  go_simp
  refine (V2.out _).mono ?_
  rintro e we ⟨rfl, hbe⟩
  try go_wp2_with fail
  refine hK.out _ _ (hHeld.trans (hbe.mono hHeld.size)) (fun hH => ?_)
  clear hK K hHeld
  have hHeld := hH
  clear hH
  refine Cu.takeH 28 (some 67) (.bool true) rfl rfl (by kernel_rfl) (by kernel_rfl) (by kernel_rfl) (fun _ _ _ h => h) (by rfl) (fun w hw => by go_simp) hHeld ?_
  simp only [Act.put, List.setIfInBounds_toArray, List.set_cons_zero, List.set_cons_succ]
  refine Cu.takeH 29 (some 68) (.bool true) rfl rfl (by kernel_rfl) (by kernel_rfl) (by kernel_rfl) (fun _ _ _ h => h) (by rfl) (fun w hw => by first | rfl | (go_simp; done) | (go_simp; rfl) | (go_simp; omega)) hHeld ?_
  simp only [Act.put, List.setIfInBounds_toArray, List.set_cons_zero, List.set_cons_succ]
  refine Cu.takeH 30 (some 4) (.bool true) rfl rfl (by kernel_rfl) (by kernel_rfl) (by kernel_rfl) (fun _ _ _ h => h) (by rfl) (fun w hw => by first | rfl | (go_simp; done) | (go_simp; rfl) | (go_simp; omega)) hHeld ?_
  simp only [Act.put, List.setIfInBounds_toArray, List.set_cons_zero, List.set_cons_succ]
  refine ⟨by kernel_rfl, ?_⟩
  refine NoPanic.normal ?_
  have gbe := gbc.trans (hHeld.mono gbc.size)
  try go_wp2
  go_ret
  exact ⟨rfl, gbe⟩
end Go.Proofs.YtagopbdoabhjfaaDoor
