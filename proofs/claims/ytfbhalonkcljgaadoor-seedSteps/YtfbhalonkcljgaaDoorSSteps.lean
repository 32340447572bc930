/-
  The walk of SeedSteps (printed by gen_steps.py).
-/
import Derived.Test.YtfbhalonkcljgaaDoorSNear
namespace Go.Proofs.YtfbhalonkcljgaaDoor
open Go.RowKit S
set_option linter.unusedVariables false
set_option maxRecDepth 100000 in
set_option maxHeartbeats 4000000 in
theorem steps_walk {n : Num} (ok : SeedOk n) (s : Nat → UInt8) (x one two : Int) (w : World) (hG : Glob n w) : Calls Tryd.prog 3 #[.agg (tabv (bv s) 32), .int .i64 x, .int .i64 one, .int .i64 two] w fun e w' => e = .returned (.bool true) ∧ Below w.heap.size w w' := by
  obtain ⟨w0, hW0⟩ : ∃ x, w.alloc (.cells (tabv (bv s) 32) 23) = x := ⟨_, rfl⟩
  have q0 : Has w0 w.heap.size 23 (bv s) 32 := by rw [← hW0]; exact Has.new w 23 (bv s) 32 _ rfl
  have kb : Below w.heap.size w w0 := by rw [← hW0]; exact (Below.refl w.heap.size w).alloc (Nat.le_refl _) _
  have hGl : Glob n w0 := hG.below kb hG.2.2
  obtain ⟨b0, hb0⟩ : ∃ x, w.heap.size = x := ⟨_, rfl⟩
  rw [hb0] at q0
  obtain ⟨a, hla, han⟩ : ∃ a : Nat, a ≤ 281474976710655 ∧ numA x = a := ⟨numA x, (num_is x).2, rfl⟩
  have HNUM := hide (number_any x)
  rw [han] at HNUM
  obtain ⟨k, hk⟩ : ∃ k, lvl (place a) 48 = k := ⟨_, rfl⟩
  have hk48 : k ≤ 48 := by rw [← hk]; exact lvl_le 48 _
  have HL1 := ok.level (a : Int)
  rw [level_nat hla, hk] at HL1
  have HL1 := hide HL1
  obtain ⟨M, hM⟩ : ∃ M : Int, (2 : Int) ^ k = M := ⟨_, rfl⟩
  have hMr := pow_range hk48
  have hpw : wrap64 ((2 : Int) ^ k) = M := (pow_wrap hk48).trans hM
  rw [hM] at hMr
  obtain ⟨hMa, hMb⟩ := hMr
  obtain ⟨m, b, hand, hsub, hba, hma, hang1, hlv1⟩ := near_of a hla one M (by rw [hk]; exact hM)
  obtain ⟨l, hl⟩ : ∃ l, lvl (place b) 48 = l := ⟨_, rfl⟩
  rw [hl, hk] at hlv1
  have hl48 : l ≤ 48 := by omega
  have HL2 := ok.level (b : Int)
  rw [level_nat (by omega), hl] at HL2
  have HL2 := hide HL2
  obtain ⟨M2, hM2⟩ : ∃ M : Int, (2 : Int) ^ l = M := ⟨_, rfl⟩
  have hMr2 := pow_range hl48
  have hpw2 : wrap64 ((2 : Int) ^ l) = M2 := (pow_wrap hl48).trans hM2
  rw [hM2] at hMr2
  obtain ⟨hMc, hMd⟩ := hMr2
  obtain ⟨m2, c, hand2, hsub2, hcb, hmb, hang2, hlv2⟩ := near_of b (by omega) two M2 (by rw [hl]; exact hM2)
  have hang3 : Hangs (place a) (place c) := hang1.trans (by rw [hk, hl]; exact hlv1) hang2
  have D1 := ok.derive s (a : Int) (b : Int)
  rw [derive_yes hla (by omega) hang1] at D1
  obtain ⟨X, hX⟩ : ∃ X, deriveOf step s a b = X := ⟨_, rfl⟩
  rw [hX] at D1
  have D2 := ok.derive X (b : Int) (c : Int)
  rw [derive_yes (by omega) (by omega) hang2] at D2
  have hY : deriveOf step X b c = deriveOf step s a c := by rw [← hX]; exact in_steps step s a b c (by rw [hk, hl]; exact hlv1) hang2
  rw [hY] at D2
  have D3 := ok.derive s (a : Int) (c : Int)
  rw [derive_yes hla (by omega) hang3] at D3
  obtain ⟨Y, hYY⟩ : ∃ Y, deriveOf step s a c = Y := ⟨_, rfl⟩
  rw [hYY] at D2 D3
  have D4 := ok.derive s (a : Int) (a : Int)
  rw [derive_yes hla hla (fun _ _ _ => rfl), derive_self] at D4
  have D1 := hide D1
  have D2 := hide D2
  have D3 := hide D3
  have D4 := hide D4
  have d1 : decide ((k : Int) < 0) = false := by simp
  have d2 : decide ((48 : Int) < (k : Int)) = false := by simp; omega
  have d3 : decide ((l : Int) < 0) = false := by simp
  have d4 : decide ((k : Int) < (l : Int)) = false := by simp; omega
  have d5 : decide (k < l) = false := by simp; omega
  have hqy : ∀ w : World, (Op.equalIn 10000 23 (.agg (tabv (bv Y) 32)) (.agg (tabv (bv Y) 32))).run Tryd.prog w = .ok true w := fun w => by rw [eq26, all_same]
  have hqs : ∀ w : World, (Op.equalIn 10000 23 (.agg (tabv (bv s) 32)) (.agg (tabv (bv s) 32))).run Tryd.prog w = .ok true w := fun w => by rw [eq26, all_same]
  have hgt := guard26
  clear hang1 hang2 hang3 hX hY hYY hk hl hM hM2 han hlv2
  go_enter Tryd.func3, Tryd.ntmps3
  go_wp2_with fail
  refine (head_any ok _ hGl).mono ?_
  rintro e w1 ⟨rfl, hb2⟩
  have q0 := q0.below hb2 q0.lt
  have hGl := hGl.up hb2
  have kb := kb.trans (hb2.mono kb.size)
  clear hb2
  clear hW0
  go_wp2_with fail
  refine (HNUM.out _).mono ?_
  rintro e w3 ⟨rfl, hw4⟩
  obtain rfl := hw4.symm
  go_wp2_with fail
  refine (HL1.out _).mono ?_
  rintro e w5 ⟨rfl, hb6⟩
  have q0 := q0.below hb6 q0.lt
  have hGl := hGl.up hb6
  have kb := kb.trans (hb6.mono kb.size)
  clear hb6
  go_wp2_with fail
  refine (HL2.out _).mono ?_
  rintro e w7 ⟨rfl, hb8⟩
  have q0 := q0.below hb8 q0.lt
  have hGl := hGl.up hb8
  have kb := kb.trans (hb8.mono kb.size)
  clear hb8
  try rw [hb0]
  have Hq0 := hide q0
  go_wp2_with (first | refine wpList_load_part rfl 23 _ rfl b0 0 rfl 23 _ 32 32 _ Hq0.out (by omega) Tryd.underlying23 rfl info26 (bv s) (fun i hi => by rw [Nat.zero_add]) ?_)
  clear Hq0
  refine (D1.out _ hGl).mono ?_
  rintro e w9 ⟨rfl, hb10⟩
  have q0 := q0.below hb10 q0.lt
  have hGl := hGl.up hb10
  have kb := kb.trans (hb10.mono kb.size)
  clear hb10
  have hn13 := Has.new w9 23 (fun _ => .int .u8 0) 32 _ rfl
  rw [zero32] at hn13
  obtain ⟨b12, hb12⟩ : ∃ g, w9.heap.size = g := ⟨_, rfl⟩
  obtain ⟨w11, hz14⟩ : ∃ x, (w9.alloc (.cells (tabv (fun _ => .int .u8 0) 32) 23)).setRow w9.heap.size (tabv (bv X) 32) = x := ⟨_, rfl⟩
  have hbx : Below w9.heap.size w9 w11 := by rw [← hz14]; exact below_setRow ((Below.refl _ _).alloc (Nat.le_refl _) _) (Nat.le_refl _) _
  have q0 := q0.below hbx q0.lt
  have hGl := hGl.up hbx
  have kb := kb.trans (hbx.mono kb.size)
  have q1 : Has w11 b12 23 (bv X) 32 := by rw [zero32] at hz14; rw [← hz14, ← hb12]; exact hn13.row _ _ rfl
  rw [zero32] at hz14
  have Hhn13 := hide hn13
  have Hhz14 := hide hz14
  have Hhb12 := hide hb12
  clear hn13 hz14 hb12 hbx
  have Hq1 := hide q1
  go_wp2_with (first | (refine wpList_store_part rfl 23 _ _ rfl rfl w9.heap.size 0 (bv X) 32 rfl rfl 23 _ 32 Hhn13.out (by omega) info26 (fun _ _ => rfl) (bv X) (fun i hi => by unfold splice; first | (rw [if_pos (by omega), Nat.sub_zero]) | (rw [if_pos (by omega)]; rfl)) ?_; rw [Hhz14.out]) | (rw [Hhb12.out]; refine wpList_load_part rfl 23 _ rfl b12 0 rfl 23 _ 32 32 _ Hq1.out (by omega) Tryd.underlying23 rfl info26 (bv X) (fun i hi => by rw [Nat.zero_add]) ?_) | refine wpList_load_part rfl 23 _ rfl b12 0 rfl 23 _ 32 32 _ Hq1.out (by omega) Tryd.underlying23 rfl info26 (bv X) (fun i hi => by rw [Nat.zero_add]) ?_)
  try rw [Hhb12.out]
  clear Hq1
  refine (D2.out _ hGl).mono ?_
  rintro e w15 ⟨rfl, hb16⟩
  have q0 := q0.below hb16 q0.lt
  have q1 := q1.below hb16 q1.lt
  have hGl := hGl.up hb16
  have kb := kb.trans (hb16.mono kb.size)
  clear hb16
  have hn19 := Has.new w15 23 (fun _ => .int .u8 0) 32 _ rfl
  rw [zero32] at hn19
  obtain ⟨b18, hb18⟩ : ∃ g, w15.heap.size = g := ⟨_, rfl⟩
  obtain ⟨w17, hz20⟩ : ∃ x, (w15.alloc (.cells (tabv (fun _ => .int .u8 0) 32) 23)).setRow w15.heap.size (tabv (bv Y) 32) = x := ⟨_, rfl⟩
  have hbx : Below w15.heap.size w15 w17 := by rw [← hz20]; exact below_setRow ((Below.refl _ _).alloc (Nat.le_refl _) _) (Nat.le_refl _) _
  have q0 := q0.below hbx q0.lt
  have q1 := q1.below hbx q1.lt
  have hGl := hGl.up hbx
  have kb := kb.trans (hbx.mono kb.size)
  have q2 : Has w17 b18 23 (bv Y) 32 := by rw [zero32] at hz20; rw [← hz20, ← hb18]; exact hn19.row _ _ rfl
  rw [zero32] at hz20
  have Hhn19 := hide hn19
  have Hhz20 := hide hz20
  have Hhb18 := hide hb18
  clear hn19 hz20 hb18 hbx
  have Hq0 := hide q0
  go_wp2_with (first | (refine wpList_store_part rfl 23 _ _ rfl rfl w15.heap.size 0 (bv Y) 32 rfl rfl 23 _ 32 Hhn19.out (by omega) info26 (fun _ _ => rfl) (bv Y) (fun i hi => by unfold splice; first | (rw [if_pos (by omega), Nat.sub_zero]) | (rw [if_pos (by omega)]; rfl)) ?_; rw [Hhz20.out]) | refine wpList_load_part rfl 23 _ rfl b0 0 rfl 23 _ 32 32 _ Hq0.out (by omega) Tryd.underlying23 rfl info26 (bv s) (fun i hi => by rw [Nat.zero_add]) ?_)
  try rw [Hhb18.out]
  clear Hq0
  refine (D3.out _ hGl).mono ?_
  rintro e w21 ⟨rfl, hb22⟩
  have q0 := q0.below hb22 q0.lt
  have q1 := q1.below hb22 q1.lt
  have q2 := q2.below hb22 q2.lt
  have hGl := hGl.up hb22
  have kb := kb.trans (hb22.mono kb.size)
  clear hb22
  have hn25 := Has.new w21 23 (fun _ => .int .u8 0) 32 _ rfl
  rw [zero32] at hn25
  obtain ⟨b24, hb24⟩ : ∃ g, w21.heap.size = g := ⟨_, rfl⟩
  obtain ⟨w23, hz26⟩ : ∃ x, (w21.alloc (.cells (tabv (fun _ => .int .u8 0) 32) 23)).setRow w21.heap.size (tabv (bv Y) 32) = x := ⟨_, rfl⟩
  have hbx : Below w21.heap.size w21 w23 := by rw [← hz26]; exact below_setRow ((Below.refl _ _).alloc (Nat.le_refl _) _) (Nat.le_refl _) _
  have q0 := q0.below hbx q0.lt
  have q1 := q1.below hbx q1.lt
  have q2 := q2.below hbx q2.lt
  have hGl := hGl.up hbx
  have kb := kb.trans (hbx.mono kb.size)
  have q3 : Has w23 b24 23 (bv Y) 32 := by rw [zero32] at hz26; rw [← hz26, ← hb24]; exact hn25.row _ _ rfl
  rw [zero32] at hz26
  have Hhn25 := hide hn25
  have Hhz26 := hide hz26
  have Hhb24 := hide hb24
  clear hn25 hz26 hb24 hbx
  have Hq0 := hide q0
  go_wp2_with (first | (refine wpList_store_part rfl 23 _ _ rfl rfl w21.heap.size 0 (bv Y) 32 rfl rfl 23 _ 32 Hhn25.out (by omega) info26 (fun _ _ => rfl) (bv Y) (fun i hi => by unfold splice; first | (rw [if_pos (by omega), Nat.sub_zero]) | (rw [if_pos (by omega)]; rfl)) ?_; rw [Hhz26.out]) | refine wpList_load_part rfl 23 _ rfl b0 0 rfl 23 _ 32 32 _ Hq0.out (by omega) Tryd.underlying23 rfl info26 (bv s) (fun i hi => by rw [Nat.zero_add]) ?_)
  try rw [Hhb24.out]
  clear Hq0
  refine (D4.out _ hGl).mono ?_
  rintro e w27 ⟨rfl, hb28⟩
  have q0 := q0.below hb28 q0.lt
  have q1 := q1.below hb28 q1.lt
  have q2 := q2.below hb28 q2.lt
  have q3 := q3.below hb28 q3.lt
  have hGl := hGl.up hb28
  have kb := kb.trans (hb28.mono kb.size)
  clear hb28
  have hn31 := Has.new w27 23 (fun _ => .int .u8 0) 32 _ rfl
  rw [zero32] at hn31
  obtain ⟨b30, hb30⟩ : ∃ g, w27.heap.size = g := ⟨_, rfl⟩
  obtain ⟨w29, hz32⟩ : ∃ x, (w27.alloc (.cells (tabv (fun _ => .int .u8 0) 32) 23)).setRow w27.heap.size (tabv (bv s) 32) = x := ⟨_, rfl⟩
  have hbx : Below w27.heap.size w27 w29 := by rw [← hz32]; exact below_setRow ((Below.refl _ _).alloc (Nat.le_refl _) _) (Nat.le_refl _) _
  have q0 := q0.below hbx q0.lt
  have q1 := q1.below hbx q1.lt
  have q2 := q2.below hbx q2.lt
  have q3 := q3.below hbx q3.lt
  have hGl := hGl.up hbx
  have kb := kb.trans (hbx.mono kb.size)
  have q4 : Has w29 b30 23 (bv s) 32 := by rw [zero32] at hz32; rw [← hz32, ← hb30]; exact hn31.row _ _ rfl
  rw [zero32] at hz32
  have Hhn31 := hide hn31
  have Hhz32 := hide hz32
  have Hhb30 := hide hb30
  clear hn31 hz32 hb30 hbx
  have Hq0 := hide q0
  have Hq2 := hide q2
  have Hq3 := hide q3
  have Hq4 := hide q4
  go_wp2_with (first | (refine wpList_store_part rfl 23 _ _ rfl rfl w27.heap.size 0 (bv s) 32 rfl rfl 23 _ 32 Hhn31.out (by omega) info26 (fun _ _ => rfl) (bv s) (fun i hi => by unfold splice; first | (rw [if_pos (by omega), Nat.sub_zero]) | (rw [if_pos (by omega)]; rfl)) ?_; rw [Hhz32.out]) | refine wpList_load_want (by rfl) 23 _ rfl b18 0 rfl 23 _ 32 32 _ Hq2.out (by omega) Tryd.underlying23 rfl info26 (bv Y) (fun i hi => by rw [Nat.zero_add]) ?_ | refine wpList_load_want (by rfl) 23 _ rfl b24 0 rfl 23 _ 32 32 _ Hq3.out (by omega) Tryd.underlying23 rfl info26 (bv Y) (fun i hi => by rw [Nat.zero_add]) ?_ | (rw [Hhb30.out]; refine wpList_load_want (by rfl) 23 _ rfl b30 0 rfl 23 _ 32 32 _ Hq4.out (by omega) Tryd.underlying23 rfl info26 (bv s) (fun i hi => by rw [Nat.zero_add]) ?_) | refine wpList_load_want (by rfl) 23 _ rfl b30 0 rfl 23 _ 32 32 _ Hq4.out (by omega) Tryd.underlying23 rfl info26 (bv s) (fun i hi => by rw [Nat.zero_add]) ?_ | refine wpList_load_want (by rfl) 23 _ rfl b0 0 rfl 23 _ 32 32 _ Hq0.out (by omega) Tryd.underlying23 rfl info26 (bv s) (fun i hi => by rw [Nat.zero_add]) ?_)
  go_ret
  exact ⟨by simp, kb⟩
end Go.Proofs.YtfbhalonkcljgaaDoor
