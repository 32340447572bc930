/-
  The walk of SeedSecrets (printed by gen_secrets.py).
-/
import Derived.Test.YtfbhalonkcljgaaDoorSNear
namespace Go.Proofs.YtfbhalonkcljgaaDoor
open Go.RowKit S
set_option linter.unusedVariables false
set_option maxRecDepth 100000 in
set_option maxHeartbeats 8000000 in
theorem secrets_walk {n : Num} (ok : SeedOk n) (s : Nat → UInt8) (x : Int) (w : World) (hG : Glob n w) : Calls Tryd.prog 7 #[.agg (tabv (bv s) 32), .int .i64 x] w fun e w' => e = .returned (.bool true) ∧ Below w.heap.size w w' := by
  obtain ⟨w0, hW0⟩ : ∃ x, w.alloc (.cells (tabv (bv s) 32) 23) = x := ⟨_, rfl⟩
  have q0 : Has w0 w.heap.size 23 (bv s) 32 := by rw [← hW0]; exact Has.new w 23 (bv s) 32 _ rfl
  have kb : Below w.heap.size w w0 := by rw [← hW0]; exact (Below.refl w.heap.size w).alloc (Nat.le_refl _) _
  have hGl : Glob n w0 := hG.below kb hG.2.2
  obtain ⟨b0, hb0⟩ : ∃ x, w.heap.size = x := ⟨_, rfl⟩
  rw [hb0] at q0
  have SS := hide (ok.secret s x)
  have SR := hide (fun w => rSecret_any n s x w)
  obtain ⟨X, hX⟩ : ∃ z, secretA s x = z := ⟨_, rfl⟩
  rw [hX] at SS SR
  obtain ⟨F, E⟩ := X
  have SL := hide (ok.level x)
  have SLR := hide (fun w => rLevel_any x w)
  obtain ⟨Y, hY⟩ : ∃ z, levelA x = z := ⟨_, rfl⟩
  rw [hY] at SL SLR
  obtain ⟨K, G⟩ := Y
  obtain ⟨P, hP⟩ : ∃ z, sha (listOf s) = z := ⟨_, rfl⟩
  have SP := ok.point s
  have SPR := fun w => rpoint_any n s w
  rw [hP] at SP SPR
  have SP := hide SP
  have SPR := hide SPR
  clear hX hY hP
  have hqf : ∀ w : World, (Op.equalIn 10000 23 (.agg (tabv (bv F) 32)) (.agg (tabv (bv F) 32))).run Tryd.prog w = .ok true w := fun w => by rw [eq26, all_same]
  have hqp : ∀ w : World, (Op.equalIn 10000 23 (.agg (tabv (bv P) 32)) (.agg (tabv (bv P) 32))).run Tryd.prog w = .ok true w := fun w => by rw [eq26, all_same]
  have hgt := guard26
  go_enter Tryd.func7, Tryd.ntmps7
  go_wp2_with fail
  refine (head_any ok _ hGl).mono ?_
  rintro e w1 ⟨rfl, hb2⟩
  have q0 := q0.below hb2 q0.lt
  have hGl := hGl.up hb2
  have kb := kb.trans (hb2.mono kb.size)
  clear hb2
  clear hW0
  try rw [hb0]
  have Hq0 := hide q0
  go_wp2_with (first | refine wpList_load_part rfl 23 _ rfl b0 0 rfl 23 _ 32 32 _ Hq0.out (by omega) Tryd.underlying23 rfl info26 (bv s) (fun i hi => by rw [Nat.zero_add]) ?_)
  clear Hq0
  refine (SS.out _ hGl).mono ?_
  rintro e w3 ⟨rfl, hb4⟩
  have q0 := q0.below hb4 q0.lt
  have hGl := hGl.up hb4
  have kb := kb.trans (hb4.mono kb.size)
  clear hb4
  have hn7 := Has.new w3 23 (fun _ => .int .u8 0) 32 _ rfl
  rw [zero32] at hn7
  obtain ⟨b6, hb6⟩ : ∃ g, w3.heap.size = g := ⟨_, rfl⟩
  obtain ⟨w5, hz8⟩ : ∃ x, (w3.alloc (.cells (tabv (fun _ => .int .u8 0) 32) 23)).setRow w3.heap.size (tabv (bv F) 32) = x := ⟨_, rfl⟩
  have hbx : Below w3.heap.size w3 w5 := by rw [← hz8]; exact below_setRow ((Below.refl _ _).alloc (Nat.le_refl _) _) (Nat.le_refl _) _
  have q0 := q0.below hbx q0.lt
  have hGl := hGl.up hbx
  have kb := kb.trans (hbx.mono kb.size)
  have q1 : Has w5 b6 23 (bv F) 32 := by rw [zero32] at hz8; rw [← hz8, ← hb6]; exact hn7.row _ _ rfl
  rw [zero32] at hz8
  have Hhn7 := hide hn7
  have Hhz8 := hide hz8
  have Hhb6 := hide hb6
  clear hn7 hz8 hb6 hbx
  have Hq0 := hide q0
  go_wp2_with (first | (refine wpList_store_part rfl 23 _ _ rfl rfl w3.heap.size 0 (bv F) 32 rfl rfl 23 _ 32 Hhn7.out (by omega) info26 (fun _ _ => rfl) (bv F) (fun i hi => by unfold splice; first | (rw [if_pos (by omega), Nat.sub_zero]) | (rw [if_pos (by omega)]; rfl)) ?_; rw [Hhz8.out]) | refine wpList_load_part rfl 23 _ rfl b0 0 rfl 23 _ 32 32 _ Hq0.out (by omega) Tryd.underlying23 rfl info26 (bv s) (fun i hi => by rw [Nat.zero_add]) ?_)
  try rw [Hhb6.out]
  clear Hq0
  refine (SR.out _).mono ?_
  rintro e w9 ⟨rfl, hb10⟩
  have q0 := q0.below hb10 q0.lt
  have q1 := q1.below hb10 q1.lt
  have hGl := hGl.up hb10
  have kb := kb.trans (hb10.mono kb.size)
  clear hb10
  have hn13 := Has.new w9 23 (fun _ => .int .u8 0) 32 _ rfl
  rw [zero32] at hn13
  obtain ⟨b12, hb12⟩ : ∃ g, w9.heap.size = g := ⟨_, rfl⟩
  obtain ⟨w11, hz14⟩ : ∃ x, (w9.alloc (.cells (tabv (fun _ => .int .u8 0) 32) 23)).setRow w9.heap.size (tabv (bv F) 32) = x := ⟨_, rfl⟩
  have hbx : Below w9.heap.size w9 w11 := by rw [← hz14]; exact below_setRow ((Below.refl _ _).alloc (Nat.le_refl _) _) (Nat.le_refl _) _
  have q0 := q0.below hbx q0.lt
  have q1 := q1.below hbx q1.lt
  have hGl := hGl.up hbx
  have kb := kb.trans (hbx.mono kb.size)
  have q2 : Has w11 b12 23 (bv F) 32 := by rw [zero32] at hz14; rw [← hz14, ← hb12]; exact hn13.row _ _ rfl
  rw [zero32] at hz14
  have Hhn13 := hide hn13
  have Hhz14 := hide hz14
  have Hhb12 := hide hb12
  clear hn13 hz14 hb12 hbx
  go_wp2_with (first | (refine wpList_store_part rfl 23 _ _ rfl rfl w9.heap.size 0 (bv F) 32 rfl rfl 23 _ 32 Hhn13.out (by omega) info26 (fun _ _ => rfl) (bv F) (fun i hi => by unfold splice; first | (rw [if_pos (by omega), Nat.sub_zero]) | (rw [if_pos (by omega)]; rfl)) ?_; rw [Hhz14.out]))
  try rw [Hhb12.out]
  refine (SL.out _).mono ?_
  rintro e w15 ⟨rfl, hb16⟩
  have q0 := q0.below hb16 q0.lt
  have q1 := q1.below hb16 q1.lt
  have q2 := q2.below hb16 q2.lt
  have hGl := hGl.up hb16
  have kb := kb.trans (hb16.mono kb.size)
  clear hb16
  go_wp2_with fail
  refine (SLR.out _).mono ?_
  rintro e w17 ⟨rfl, hb18⟩
  have q0 := q0.below hb18 q0.lt
  have q1 := q1.below hb18 q1.lt
  have q2 := q2.below hb18 q2.lt
  have hGl := hGl.up hb18
  have kb := kb.trans (hb18.mono kb.size)
  clear hb18
  go_wp2
  obtain ⟨V0, hV0⟩ : ∃ v, w17.drew = v := ⟨_, rfl⟩
  have q0 : Has V0 b0 23 (bv s) 32 := by rw [← hV0]; exact q0.drew
  have q1 : Has V0 b6 23 (bv F) 32 := by rw [← hV0]; exact q1.drew
  have q2 : Has V0 b12 23 (bv F) 32 := by rw [← hV0]; exact q2.drew
  have hGl : Glob n V0 := by rw [← hV0]; exact hGl
  have kb : Below w.heap.size w V0 := by rw [← hV0]; exact ⟨kb.os, kb.tape, kb.output, kb.size, kb.block⟩
  have HV0 := hide hV0
  clear hV0
  refine wp_region_noPanic ?_
  refine wp_region_held_drew (S := fun wx => Has wx b0 23 (bv s) 32 ∧ Has wx b6 23 (bv F) 32 ∧ Has wx b12 23 (bv F) 32) (by kernel_rfl) (by rw [HV0.out]; exact ⟨q0, q1, q2⟩) (fun hHeld => ?_)
  rw [HV0.out] at hHeld ⊢
  refine takeH 0 (some 37) (.agg (tabv (bv F) 32)) rfl rfl (by kernel_rfl) (by kernel_rfl) (by kernel_rfl) (fun _ _ _ h => h) (by rfl) (fun wx hw => run_load_part wx 23 _ rfl b6 0 rfl 23 _ 32 32 _ hw.2.1 (by omega) Tryd.underlying23 rfl info26 (bv F) (fun i hi => by rw [Nat.zero_add])) hHeld ?_
  simp only [Act.put, List.setIfInBounds_toArray, List.set_cons_zero, List.set_cons_succ]
  refine takeH 1 (some 38) (.agg (tabv (bv F) 32)) rfl rfl (by kernel_rfl) (by kernel_rfl) (by kernel_rfl) (fun _ _ _ h => h) (by rfl) (fun wx hw => run_load_part wx 23 _ rfl b12 0 rfl 23 _ 32 32 _ hw.2.2 (by omega) Tryd.underlying23 rfl info26 (bv F) (fun i hi => by rw [Nat.zero_add])) hHeld ?_
  simp only [Act.put, List.setIfInBounds_toArray, List.set_cons_zero, List.set_cons_succ]
  refine takeH 2 (some 39) (.bool true) rfl rfl (by kernel_rfl) (by kernel_rfl) (by kernel_rfl) (fun _ _ _ h => h) (by rfl) (fun w hw => by have hqq := hqf w; first | rfl | (go_simp; done) | (go_simp; rfl) | (go_simp; simp [hqq, hgt]; done) | (simp [execOp, hqq, hgt])) hHeld ?_
  simp only [Act.put, List.setIfInBounds_toArray, List.set_cons_zero, List.set_cons_succ]
  refine takeH 3 (some 40) (.bool true) rfl rfl (by kernel_rfl) (by kernel_rfl) (by kernel_rfl) (fun _ _ _ h => h) (by rfl) (fun w hw => by first | rfl | (go_simp; done) | (go_simp; rfl)) hHeld ?_
  simp only [Act.put, List.setIfInBounds_toArray, List.set_cons_zero, List.set_cons_succ]
  refine takeH 4 (some 41) (.int .i64 E) rfl rfl (by kernel_rfl) (by kernel_rfl) (by kernel_rfl) (fun _ _ _ h => h) (by rfl) (fun w hw => by first | rfl | (go_simp; done) | (go_simp; rfl) | (go_simp; simp; done)) hHeld ?_
  simp only [Act.put, List.setIfInBounds_toArray, List.set_cons_zero, List.set_cons_succ]
  refine takeH 5 (some 42) (.int .i64 E) rfl rfl (by kernel_rfl) (by kernel_rfl) (by kernel_rfl) (fun _ _ _ h => h) (by rfl) (fun w hw => by first | rfl | (go_simp; done) | (go_simp; rfl) | (go_simp; simp; done)) hHeld ?_
  simp only [Act.put, List.setIfInBounds_toArray, List.set_cons_zero, List.set_cons_succ]
  refine takeH 6 (some 43) (.bool true) rfl rfl (by kernel_rfl) (by kernel_rfl) (by kernel_rfl) (fun _ _ _ h => h) (by rfl) (fun w hw => by first | rfl | (go_simp; done) | (go_simp; rfl) | (go_simp; simp; done)) hHeld ?_
  simp only [Act.put, List.setIfInBounds_toArray, List.set_cons_zero, List.set_cons_succ]
  refine takeH 7 (some 44) (.bool true) rfl rfl (by kernel_rfl) (by kernel_rfl) (by kernel_rfl) (fun _ _ _ h => h) (by rfl) (fun w hw => by first | rfl | (go_simp; done) | (go_simp; rfl) | (go_simp; simp; done)) hHeld ?_
  simp only [Act.put, List.setIfInBounds_toArray, List.set_cons_zero, List.set_cons_succ]
  refine takeH 8 (some 45) (.bool true) rfl rfl (by kernel_rfl) (by kernel_rfl) (by kernel_rfl) (fun _ _ _ h => h) (by rfl) (fun w hw => by first | rfl | (go_simp; done) | (go_simp; rfl) | (go_simp; simp; done)) hHeld ?_
  simp only [Act.put, List.setIfInBounds_toArray, List.set_cons_zero, List.set_cons_succ]
  refine takeH 9 (some 46) (.int .i64 K) rfl rfl (by kernel_rfl) (by kernel_rfl) (by kernel_rfl) (fun _ _ _ h => h) (by rfl) (fun w hw => by first | rfl | (go_simp; done) | (go_simp; rfl) | (go_simp; simp; done)) hHeld ?_
  simp only [Act.put, List.setIfInBounds_toArray, List.set_cons_zero, List.set_cons_succ]
  refine takeH 10 (some 47) (.int .i64 K) rfl rfl (by kernel_rfl) (by kernel_rfl) (by kernel_rfl) (fun _ _ _ h => h) (by rfl) (fun w hw => by first | rfl | (go_simp; done) | (go_simp; rfl) | (go_simp; simp; done)) hHeld ?_
  simp only [Act.put, List.setIfInBounds_toArray, List.set_cons_zero, List.set_cons_succ]
  refine takeH 11 (some 48) (.bool true) rfl rfl (by kernel_rfl) (by kernel_rfl) (by kernel_rfl) (fun _ _ _ h => h) (by rfl) (fun w hw => by first | rfl | (go_simp; done) | (go_simp; rfl) | (go_simp; simp; done)) hHeld ?_
  simp only [Act.put, List.setIfInBounds_toArray, List.set_cons_zero, List.set_cons_succ]
  refine takeH 12 (some 49) (.bool true) rfl rfl (by kernel_rfl) (by kernel_rfl) (by kernel_rfl) (fun _ _ _ h => h) (by rfl) (fun w hw => by first | rfl | (go_simp; done) | (go_simp; rfl) | (go_simp; simp; done)) hHeld ?_
  simp only [Act.put, List.setIfInBounds_toArray, List.set_cons_zero, List.set_cons_succ]
  refine takeH 13 (some 50) (.bool true) rfl rfl (by kernel_rfl) (by kernel_rfl) (by kernel_rfl) (fun _ _ _ h => h) (by rfl) (fun w hw => by first | rfl | (go_simp; done) | (go_simp; rfl) | (go_simp; simp; done)) hHeld ?_
  simp only [Act.put, List.setIfInBounds_toArray, List.set_cons_zero, List.set_cons_succ]
  refine takeH 14 (some 51) (.int .i64 G) rfl rfl (by kernel_rfl) (by kernel_rfl) (by kernel_rfl) (fun _ _ _ h => h) (by rfl) (fun w hw => by first | rfl | (go_simp; done) | (go_simp; rfl) | (go_simp; simp; done)) hHeld ?_
  simp only [Act.put, List.setIfInBounds_toArray, List.set_cons_zero, List.set_cons_succ]
  refine takeH 15 (some 52) (.int .i64 G) rfl rfl (by kernel_rfl) (by kernel_rfl) (by kernel_rfl) (fun _ _ _ h => h) (by rfl) (fun w hw => by first | rfl | (go_simp; done) | (go_simp; rfl) | (go_simp; simp; done)) hHeld ?_
  simp only [Act.put, List.setIfInBounds_toArray, List.set_cons_zero, List.set_cons_succ]
  refine takeH 16 (some 53) (.bool true) rfl rfl (by kernel_rfl) (by kernel_rfl) (by kernel_rfl) (fun _ _ _ h => h) (by rfl) (fun w hw => by first | rfl | (go_simp; done) | (go_simp; rfl) | (go_simp; simp; done)) hHeld ?_
  simp only [Act.put, List.setIfInBounds_toArray, List.set_cons_zero, List.set_cons_succ]
  refine takeH 17 (some 54) (.bool true) rfl rfl (by kernel_rfl) (by kernel_rfl) (by kernel_rfl) (fun _ _ _ h => h) (by rfl) (fun w hw => by first | rfl | (go_simp; done) | (go_simp; rfl) | (go_simp; simp; done)) hHeld ?_
  simp only [Act.put, List.setIfInBounds_toArray, List.set_cons_zero, List.set_cons_succ]
  refine takeH 18 (some 55) (.bool true) rfl rfl (by kernel_rfl) (by kernel_rfl) (by kernel_rfl) (fun _ _ _ h => h) (by rfl) (fun w hw => by first | rfl | (go_simp; done) | (go_simp; rfl) | (go_simp; simp; done)) hHeld ?_
  simp only [Act.put, List.setIfInBounds_toArray, List.set_cons_zero, List.set_cons_succ]
  refine takeH 19 (some 56) (.agg (tabv (bv s) 32)) rfl rfl (by kernel_rfl) (by kernel_rfl) (by kernel_rfl) (fun _ _ _ h => h) (by rfl) (fun wx hw => run_load_part wx 23 _ rfl b0 0 rfl 23 _ 32 32 _ hw.1 (by omega) Tryd.underlying23 rfl info26 (bv s) (fun i hi => by rw [Nat.zero_add])) hHeld ?_
  simp only [Act.put, List.setIfInBounds_toArray, List.set_cons_zero, List.set_cons_succ]
  refine takeH 21 (some 58) (.agg (tabv (bv s) 32)) rfl rfl (by kernel_rfl) (by kernel_rfl) (by kernel_rfl) (fun _ _ _ h => h) (by rfl) (fun wx hw => run_load_part wx 23 _ rfl b0 0 rfl 23 _ 32 32 _ hw.1 (by omega) Tryd.underlying23 rfl info26 (bv s) (fun i hi => by rw [Nat.zero_add])) hHeld ?_
  simp only [Act.put, List.setIfInBounds_toArray, List.set_cons_zero, List.set_cons_succ]
  refine wpAnyH_ready (rs := [20]) (by kernel_rfl) (by simp) (AllReadyH.cons rfl (fun K hK => ?_) AllReadyH.nil)
  rw [if_pos (by rfl)]
  go_simp
  refine (SP.out _ hGl).mono ?_
  rintro e v1 ⟨rfl, hc1⟩
  try go_wp2_with fail
  refine hK.out _ _ (⟨hHeld.1.below hc1 hHeld.1.lt, hHeld.2.1.below hc1 hHeld.2.1.lt, hHeld.2.2.below hc1 hHeld.2.2.lt⟩) (fun hH => ?_)
  clear hK K hHeld
  have hHeld := hH
  clear hH
  have kb := kb.trans (hc1.mono kb.size)
  refine wpAnyH_ready (rs := [22]) (by kernel_rfl) (by simp) (AllReadyH.cons rfl (fun K hK => ?_) AllReadyH.nil)
  rw [if_pos (by rfl)]
  go_simp
  refine (SPR.out _).mono ?_
  rintro e v2 ⟨rfl, hc2⟩
  try go_wp2_with fail
  refine hK.out _ _ (⟨hHeld.1.below hc2 hHeld.1.lt, hHeld.2.1.below hc2 hHeld.2.1.lt, hHeld.2.2.below hc2 hHeld.2.2.lt⟩) (fun hH => ?_)
  clear hK K hHeld
  have hHeld := hH
  clear hH
  have kb := kb.trans (hc2.mono kb.size)
  refine takeH 23 (some 60) (.bool true) rfl rfl (by kernel_rfl) (by kernel_rfl) (by kernel_rfl) (fun _ _ _ h => h) (by rfl) (fun w hw => by have hqq := hqp w; first | rfl | (go_simp; done) | (go_simp; rfl) | (go_simp; simp [hqq, hgt]; done) | (simp [execOp, hqq, hgt])) hHeld ?_
  simp only [Act.put, List.setIfInBounds_toArray, List.set_cons_zero, List.set_cons_succ]
  refine takeH 24 (some 61) (.bool true) rfl rfl (by kernel_rfl) (by kernel_rfl) (by kernel_rfl) (fun _ _ _ h => h) (by rfl) (fun w hw => by first | rfl | (go_simp; done) | (go_simp; rfl) | (go_simp; simp; done)) hHeld ?_
  simp only [Act.put, List.setIfInBounds_toArray, List.set_cons_zero, List.set_cons_succ]
  refine takeH 25 (some 4) (.bool true) rfl rfl (by kernel_rfl) (by kernel_rfl) (by kernel_rfl) (fun _ _ _ h => h) (by rfl) (fun w hw => by first | rfl | (go_simp; done) | (go_simp; rfl)) hHeld ?_
  simp only [Act.put, List.setIfInBounds_toArray, List.set_cons_zero, List.set_cons_succ]
  refine ⟨by kernel_rfl, ?_⟩
  refine NoPanic.normal ?_
  go_wp2
  go_ret
  exact ⟨by simp, kb⟩
end Go.Proofs.YtfbhalonkcljgaaDoor
