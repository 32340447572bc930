/-
  The walk of SeedDerives (printed by gen_derives.py).
-/
import Derived.Test.YtfbhalonkcljgaaDoorSHead2
namespace Go.Proofs.YtfbhalonkcljgaaDoor
open Go.RowKit S
set_option linter.unusedVariables false
set_option maxRecDepth 100000 in
set_option maxHeartbeats 4000000 in
theorem derives_walk {n : Num} (ok : SeedOk n) (s : Nat → UInt8) (x y : Int) (w : World) (hG : Glob n w) : Calls Tryd.prog 6 #[.agg (tabv (bv s) 32), .int .i64 x, .int .i64 y] w fun e w' => e = .returned (.bool true) ∧ Below w.heap.size w w' := by
  obtain ⟨w0, hW0⟩ : ∃ x, w.alloc (.cells (tabv (bv s) 32) 23) = x := ⟨_, rfl⟩
  have q0 : Has w0 w.heap.size 23 (bv s) 32 := by rw [← hW0]; exact Has.new w 23 (bv s) 32 _ rfl
  have kb : Below w.heap.size w w0 := by rw [← hW0]; exact (Below.refl w.heap.size w).alloc (Nat.le_refl _) _
  have hGl : Glob n w0 := hG.below kb hG.2.2
  obtain ⟨b0, hb0⟩ : ∃ x, w.heap.size = x := ⟨_, rfl⟩
  rw [hb0] at q0
  have SD := hide (ok.derive s x y)
  have SR := hide (fun w => rDerive_any n s x y w)
  obtain ⟨X, hX⟩ : ∃ z, deriveA s x y = z := ⟨_, rfl⟩
  rw [hX] at SD SR
  obtain ⟨F, E⟩ := X
  clear hX
  have hq : ∀ w : World, (Op.equalIn 10000 23 (.agg (tabv (bv F) 32)) (.agg (tabv (bv F) 32))).run Tryd.prog w = .ok true w := fun w => by rw [eq26, all_same]
  have hgt := guard26
  go_enter Tryd.func6, Tryd.ntmps6
  go_wp2_with fail
  refine (head_any ok _ hGl).mono ?_
  rintro e w1 ⟨rfl, hb2⟩
  have q0 := q0.below hb2 q0.lt
  have hGl := hGl.up hb2
  have kb := kb.trans (hb2.mono kb.size)
  clear hb2
  clear hW0
  try rw [hb0]
  have Hq0 := hide q0
  go_wp2_with (first | refine wpList_load_part rfl 23 _ rfl b0 0 rfl 23 _ 32 32 _ Hq0.out (by omega) Tryd.underlying23 rfl info26 (bv s) (fun i hi => by rw [Nat.zero_add]) ?_)
  clear Hq0
  refine (SD.out _ hGl).mono ?_
  rintro e w3 ⟨rfl, hb4⟩
  have q0 := q0.below hb4 q0.lt
  have hGl := hGl.up hb4
  have kb := kb.trans (hb4.mono kb.size)
  clear hb4
  have hn7 := Has.new w3 23 (fun _ => .int .u8 0) 32 _ rfl
  rw [zero32] at hn7
  obtain ⟨b6, hb6⟩ : ∃ g, w3.heap.size = g := ⟨_, rfl⟩
  obtain ⟨w5, hz8⟩ : ∃ x, (w3.alloc (.cells (tabv (fun _ => .int .u8 0) 32) 23)).setRow w3.heap.size (tabv (bv F) 32) = x := ⟨_, rfl⟩
  have hbx : Below w3.heap.size w3 w5 := by rw [← hz8]; exact below_setRow ((Below.refl _ _).alloc (Nat.le_refl _) _) (Nat.le_refl _) _
  have q0 := q0.below hbx q0.lt
  have hGl := hGl.up hbx
  have kb := kb.trans (hbx.mono kb.size)
  have q1 : Has w5 b6 23 (bv F) 32 := by rw [zero32] at hz8; rw [← hz8, ← hb6]; exact hn7.row _ _ rfl
  rw [zero32] at hz8
  have Hhn7 := hide hn7
  have Hhz8 := hide hz8
  have Hhb6 := hide hb6
  clear hn7 hz8 hb6 hbx
  have Hq0 := hide q0
  go_wp2_with (first | (refine wpList_store_part rfl 23 _ _ rfl rfl w3.heap.size 0 (bv F) 32 rfl rfl 23 _ 32 Hhn7.out (by omega) info26 (fun _ _ => rfl) (bv F) (fun i hi => by unfold splice; first | (rw [if_pos (by omega), Nat.sub_zero]) | (rw [if_pos (by omega)]; rfl)) ?_; rw [Hhz8.out]) | refine wpList_load_part rfl 23 _ rfl b0 0 rfl 23 _ 32 32 _ Hq0.out (by omega) Tryd.underlying23 rfl info26 (bv s) (fun i hi => by rw [Nat.zero_add]) ?_)
  rw [Hhb6.out]
  clear Hq0
  refine (SR.out _).mono ?_
  rintro e w9 ⟨rfl, hb10⟩
  have q0 := q0.below hb10 q0.lt
  have q1 := q1.below hb10 q1.lt
  have hGl := hGl.up hb10
  have kb := kb.trans (hb10.mono kb.size)
  clear hb10
  have hn13 := Has.new w9 23 (fun _ => .int .u8 0) 32 _ rfl
  rw [zero32] at hn13
  obtain ⟨b12, hb12⟩ : ∃ g, w9.heap.size = g := ⟨_, rfl⟩
  obtain ⟨w11, hz14⟩ : ∃ x, (w9.alloc (.cells (tabv (fun _ => .int .u8 0) 32) 23)).setRow w9.heap.size (tabv (bv F) 32) = x := ⟨_, rfl⟩
  have hbx : Below w9.heap.size w9 w11 := by rw [← hz14]; exact below_setRow ((Below.refl _ _).alloc (Nat.le_refl _) _) (Nat.le_refl _) _
  have q0 := q0.below hbx q0.lt
  have q1 := q1.below hbx q1.lt
  have hGl := hGl.up hbx
  have kb := kb.trans (hbx.mono kb.size)
  have q2 : Has w11 b12 23 (bv F) 32 := by rw [zero32] at hz14; rw [← hz14, ← hb12]; exact hn13.row _ _ rfl
  rw [zero32] at hz14
  have Hhn13 := hide hn13
  have Hhz14 := hide hz14
  have Hhb12 := hide hb12
  clear hn13 hz14 hb12 hbx
  have Hq1 := hide q1
  have Hq2 := hide q2
  go_wp2_with (first | (refine wpList_store_part rfl 23 _ _ rfl rfl w9.heap.size 0 (bv F) 32 rfl rfl 23 _ 32 Hhn13.out (by omega) info26 (fun _ _ => rfl) (bv F) (fun i hi => by unfold splice; first | (rw [if_pos (by omega), Nat.sub_zero]) | (rw [if_pos (by omega)]; rfl)) ?_; rw [Hhz14.out]) | refine wpList_load_part rfl 23 _ rfl b6 0 rfl 23 _ 32 32 _ Hq1.out (by omega) Tryd.underlying23 rfl info26 (bv F) (fun i hi => by rw [Nat.zero_add]) ?_ | (rw [Hhb12.out]; refine wpList_load_part rfl 23 _ rfl b12 0 rfl 23 _ 32 32 _ Hq2.out (by omega) Tryd.underlying23 rfl info26 (bv F) (fun i hi => by rw [Nat.zero_add]) ?_) | refine wpList_load_part rfl 23 _ rfl b12 0 rfl 23 _ 32 32 _ Hq2.out (by omega) Tryd.underlying23 rfl info26 (bv F) (fun i hi => by rw [Nat.zero_add]) ?_)
  go_ret
  exact ⟨by simp, kb⟩
end Go.Proofs.YtfbhalonkcljgaaDoor
