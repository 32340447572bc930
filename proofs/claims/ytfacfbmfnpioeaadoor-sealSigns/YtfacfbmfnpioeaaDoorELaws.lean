/-
  The walks of SealRights and SealSigns.
-/
import Derived.Test.YtfacfbmfnpioeaaDoorEFirst
import Derived.Deep.DeepCutAuto
namespace Go.Proofs.YtfacfbmfnpioeaaDoor
open Go.RowKit S
set_option maxHeartbeats 1600000 in
theorem rights_walk (n : Num) (key : Nat → UInt8) (s : ByteArray) (sig : Nat → UInt8) (w : World) (hG : Glob n w) (hs : s.size ≤ 140737488351232) :
    Calls Tryd.prog 5 #[.agg (tabv (bv key) 32), .string s, .agg (tabv (bv sig) 32)] w fun e w' => e = .returned (.bool true) ∧ Below w.heap.size w w' := by
  obtain ⟨W, hW⟩ : ∃ x, (World.alloc (World.alloc w (.cells (tabv (bv key) 32) 23)) (.cells (tabv (bv sig) 32) 23)) = x := ⟨_, rfl⟩
  have g0 : Has W (w.heap.size) 23 (bv key) 32 := by
    rw [← hW]
    have := Has.new w 23 (bv key) 32 _ rfl
    exact this.old _
  have g1 : Has W (w.heap.size + 1) 23 (bv sig) 32 := by
    rw [← hW]
    have := Has.new (World.alloc w (.cells (tabv (bv key) 32) 23)) 23 (bv sig) 32 _ rfl
    rw [size_alloc] at this
    exact this
  have gb : Below w.heap.size w W := by rw [← hW]; exact (((Below.refl w.heap.size w).alloc (by simp) _).alloc (by simp) _)
  have kb := gb
  have hGl := hG.below gb hG.2.2
  clear gb
  have q0 := g0
  clear g0
  have q1 := g1
  clear g1
  have SR := hide (fun (w : World) (h : Glob n w) => right_any n key sig s w h (by omega))
  have RR := hide (fun (w : World) => rright_any n key sig s w hs)
  obtain ⟨R, hR⟩ : ∃ R, sameH sig (mac key s.data.toList) = R := ⟨_, rfl⟩
  rw [hR] at SR RR
  clear hR
  have hd : (R == R) = true := by simp
  go_enter Tryd.func5, Tryd.ntmps5
  have Hq0 := hide q0
  have Hq1 := hide q1
  go_wp2_with (first | refine wpList_load_part rfl 23 _ rfl w.heap.size 0 rfl 23 _ 32 32 _ Hq0.out (by omega) Tryd.underlying23 rfl info26 (bv key) (fun i hi => by rw [Nat.zero_add]) ?_ | refine wpList_load_part rfl 23 _ rfl (w.heap.size + 1) 0 rfl 23 _ 32 32 _ Hq1.out (by omega) Tryd.underlying23 rfl info26 (bv sig) (fun i hi => by rw [Nat.zero_add]) ?_)
  clear Hq0 Hq1
  refine (SR.out _ hGl).mono ?_
  rintro e w1 ⟨rfl, hb2⟩
  have q0 := q0.below hb2 q0.lt
  have q1 := q1.below hb2 q1.lt
  have hGl := hGl.up hb2
  have kb := kb.trans (hb2.mono kb.size)
  clear hb2
  have Hq0 := hide q0
  have Hq1 := hide q1
  go_wp2_with (first | refine wpList_load_part rfl 23 _ rfl w.heap.size 0 rfl 23 _ 32 32 _ Hq0.out (by omega) Tryd.underlying23 rfl info26 (bv key) (fun i hi => by rw [Nat.zero_add]) ?_ | refine wpList_load_part rfl 23 _ rfl (w.heap.size + 1) 0 rfl 23 _ 32 32 _ Hq1.out (by omega) Tryd.underlying23 rfl info26 (bv sig) (fun i hi => by rw [Nat.zero_add]) ?_)
  clear Hq0 Hq1
  refine (RR.out _).mono ?_
  rintro e w3 ⟨rfl, hb4⟩
  have q0 := q0.below hb4 q0.lt
  have q1 := q1.below hb4 q1.lt
  have hGl := hGl.up hb4
  have kb := kb.trans (hb4.mono kb.size)
  clear hb4
  go_wp2_with fail
  refine (first_any n _ hGl).mono ?_
  rintro e w5 ⟨rfl, hb6⟩
  have q0 := q0.below hb6 q0.lt
  have q1 := q1.below hb6 q1.lt
  have hGl := hGl.up hb6
  have kb := kb.trans (hb6.mono kb.size)
  clear hb6
  go_wp2
  go_ret
  exact ⟨rfl, kb⟩
set_option maxHeartbeats 1600000 in
theorem signs_walk (n : Num) (key oth : Nat → UInt8) (s t : ByteArray) (w : World) (hG : Glob n w) (hs : s.size ≤ 140737488351232) (ht : t.size ≤ 140737488351232) :
    Calls Tryd.prog 4 #[.agg (tabv (bv key) 32), .agg (tabv (bv oth) 32), .string s, .string t] w fun e w' => e = .returned (.bool true) ∧ Below w.heap.size w w' := by
  obtain ⟨W, hW⟩ : ∃ x, (World.alloc (World.alloc w (.cells (tabv (bv key) 32) 23)) (.cells (tabv (bv oth) 32) 23)) = x := ⟨_, rfl⟩
  have g0 : Has W (w.heap.size) 23 (bv key) 32 := by
    rw [← hW]
    have := Has.new w 23 (bv key) 32 _ rfl
    exact this.old _
  have g1 : Has W (w.heap.size + 1) 23 (bv oth) 32 := by
    rw [← hW]
    have := Has.new (World.alloc w (.cells (tabv (bv key) 32) 23)) 23 (bv oth) 32 _ rfl
    rw [size_alloc] at this
    exact this
  have gb : Below w.heap.size w W := by rw [← hW]; exact (((Below.refl w.heap.size w).alloc (by simp) _).alloc (by simp) _)
  have kb := gb
  have hGl := hG.below gb hG.2.2
  clear gb
  have q0 := g0
  clear g0
  have q1 := g1
  clear g1
  have SS := hide (fun (w : World) (h : Glob n w) => sign_any n key s w h (by omega))
  have RS := hide (fun (w : World) => rsign_any n key s w hs)
  have SO := hide (fun (w : World) (h : Glob n w) => sign_any n oth t w h (by omega))
  obtain ⟨M, hM⟩ : ∃ M, mac key s.data.toList = M := ⟨_, rfl⟩
  rw [hM] at SS RS
  clear hM
  obtain ⟨O, hO⟩ : ∃ M, mac oth t.data.toList = M := ⟨_, rfl⟩
  rw [hO] at SO
  clear hO
  have hq : ∀ w : World, (Op.equalIn 10000 23 (.agg (tabv (bv M) 32)) (.agg (tabv (bv M) 32))).run Tryd.prog w = .ok true w := fun w => by rw [eqH, sameH_refl]
  have hgt := guard26
  go_enter Tryd.func4, Tryd.ntmps4
  have Hq0 := hide q0
  have Hq1 := hide q1
  go_wp2_with (first | refine wpList_load_part rfl 23 _ rfl w.heap.size 0 rfl 23 _ 32 32 _ Hq0.out (by omega) Tryd.underlying23 rfl info26 (bv key) (fun i hi => by rw [Nat.zero_add]) ?_ | refine wpList_load_part rfl 23 _ rfl (w.heap.size + 1) 0 rfl 23 _ 32 32 _ Hq1.out (by omega) Tryd.underlying23 rfl info26 (bv oth) (fun i hi => by rw [Nat.zero_add]) ?_)
  clear Hq0 Hq1
  refine (SS.out _ hGl).mono ?_
  rintro e w1 ⟨rfl, hb2⟩
  have q0 := q0.below hb2 q0.lt
  have q1 := q1.below hb2 q1.lt
  have hGl := hGl.up hb2
  have kb := kb.trans (hb2.mono kb.size)
  clear hb2
  have hn5 := Has.new w1 23 (fun _ => .int .u8 0) 32 _ rfl
  rw [zero32] at hn5
  obtain ⟨b4, hb4⟩ : ∃ g, w1.heap.size = g := ⟨_, rfl⟩
  obtain ⟨w3, hz6⟩ : ∃ x, (w1.alloc (.cells (tabv (fun _ => .int .u8 0) 32) 23)).setRow w1.heap.size (tabv (bv M) 32) = x := ⟨_, rfl⟩
  have hbx : Below w1.heap.size w1 w3 := by rw [← hz6]; exact below_setRow ((Below.refl _ _).alloc (Nat.le_refl _) _) (Nat.le_refl _) _
  have q0 := q0.below hbx q0.lt
  have q1 := q1.below hbx q1.lt
  have hGl := hGl.up hbx
  have kb := kb.trans (hbx.mono kb.size)
  have q2 : Has w3 b4 23 (bv M) 32 := by rw [zero32] at hz6; rw [← hz6, ← hb4]; exact hn5.row _ _ rfl
  rw [zero32] at hz6
  have Hhn5 := hide hn5
  have Hhz6 := hide hz6
  have Hhb4 := hide hb4
  clear hn5 hz6 hb4 hbx
  have Hq0 := hide q0
  have Hq1 := hide q1
  go_wp2_with (first | (refine wpList_store_part rfl 23 _ _ rfl rfl w1.heap.size 0 (bv M) 32 rfl rfl 23 _ 32 Hhn5.out (by omega) info26 (fun _ _ => rfl) (bv M) (fun i hi => by unfold splice; first | (rw [if_pos (by omega), Nat.sub_zero]) | (rw [if_pos (by omega)]; rfl)) ?_; rw [Hhz6.out]; try rw [Hhb4.out]) | refine wpList_load_part rfl 23 _ rfl w.heap.size 0 rfl 23 _ 32 32 _ Hq0.out (by omega) Tryd.underlying23 rfl info26 (bv key) (fun i hi => by rw [Nat.zero_add]) ?_ | refine wpList_load_part rfl 23 _ rfl (w.heap.size + 1) 0 rfl 23 _ 32 32 _ Hq1.out (by omega) Tryd.underlying23 rfl info26 (bv oth) (fun i hi => by rw [Nat.zero_add]) ?_)
  clear Hq0 Hq1
  refine (SO.out _ hGl).mono ?_
  rintro e w7 ⟨rfl, hb8⟩
  have q0 := q0.below hb8 q0.lt
  have q1 := q1.below hb8 q1.lt
  have q2 := q2.below hb8 q2.lt
  have hGl := hGl.up hb8
  have kb := kb.trans (hb8.mono kb.size)
  clear hb8
  have Hq0 := hide q0
  have Hq1 := hide q1
  go_wp2_with (first | refine wpList_load_part rfl 23 _ rfl w.heap.size 0 rfl 23 _ 32 32 _ Hq0.out (by omega) Tryd.underlying23 rfl info26 (bv key) (fun i hi => by rw [Nat.zero_add]) ?_ | refine wpList_load_part rfl 23 _ rfl (w.heap.size + 1) 0 rfl 23 _ 32 32 _ Hq1.out (by omega) Tryd.underlying23 rfl info26 (bv oth) (fun i hi => by rw [Nat.zero_add]) ?_)
  clear Hq0 Hq1
  refine (SS.out _ hGl).mono ?_
  rintro e w9 ⟨rfl, hb10⟩
  have q0 := q0.below hb10 q0.lt
  have q1 := q1.below hb10 q1.lt
  have q2 := q2.below hb10 q2.lt
  have hGl := hGl.up hb10
  have kb := kb.trans (hb10.mono kb.size)
  clear hb10
  have hn13 := Has.new w9 23 (fun _ => .int .u8 0) 32 _ rfl
  rw [zero32] at hn13
  obtain ⟨b12, hb12⟩ : ∃ g, w9.heap.size = g := ⟨_, rfl⟩
  obtain ⟨w11, hz14⟩ : ∃ x, (w9.alloc (.cells (tabv (fun _ => .int .u8 0) 32) 23)).setRow w9.heap.size (tabv (bv M) 32) = x := ⟨_, rfl⟩
  have hbx : Below w9.heap.size w9 w11 := by rw [← hz14]; exact below_setRow ((Below.refl _ _).alloc (Nat.le_refl _) _) (Nat.le_refl _) _
  have q0 := q0.below hbx q0.lt
  have q1 := q1.below hbx q1.lt
  have q2 := q2.below hbx q2.lt
  have hGl := hGl.up hbx
  have kb := kb.trans (hbx.mono kb.size)
  have q3 : Has w11 b12 23 (bv M) 32 := by rw [zero32] at hz14; rw [← hz14, ← hb12]; exact hn13.row _ _ rfl
  rw [zero32] at hz14
  have Hhn13 := hide hn13
  have Hhz14 := hide hz14
  have Hhb12 := hide hb12
  clear hn13 hz14 hb12 hbx
  have Hq0 := hide q0
  have Hq1 := hide q1
  go_wp2_with (first | (refine wpList_store_part rfl 23 _ _ rfl rfl w9.heap.size 0 (bv M) 32 rfl rfl 23 _ 32 Hhn13.out (by omega) info26 (fun _ _ => rfl) (bv M) (fun i hi => by unfold splice; first | (rw [if_pos (by omega), Nat.sub_zero]) | (rw [if_pos (by omega)]; rfl)) ?_; rw [Hhz14.out]; try rw [Hhb12.out]) | refine wpList_load_part rfl 23 _ rfl w.heap.size 0 rfl 23 _ 32 32 _ Hq0.out (by omega) Tryd.underlying23 rfl info26 (bv key) (fun i hi => by rw [Nat.zero_add]) ?_ | refine wpList_load_part rfl 23 _ rfl (w.heap.size + 1) 0 rfl 23 _ 32 32 _ Hq1.out (by omega) Tryd.underlying23 rfl info26 (bv oth) (fun i hi => by rw [Nat.zero_add]) ?_)
  clear Hq0 Hq1
  refine (RS.out _).mono ?_
  rintro e w15 ⟨rfl, hb16⟩
  have q0 := q0.below hb16 q0.lt
  have q1 := q1.below hb16 q1.lt
  have q2 := q2.below hb16 q2.lt
  have q3 := q3.below hb16 q3.lt
  have hGl := hGl.up hb16
  have kb := kb.trans (hb16.mono kb.size)
  clear hb16
  have hn19 := Has.new w15 23 (fun _ => .int .u8 0) 32 _ rfl
  rw [zero32] at hn19
  obtain ⟨b18, hb18⟩ : ∃ g, w15.heap.size = g := ⟨_, rfl⟩
  obtain ⟨w17, hz20⟩ : ∃ x, (w15.alloc (.cells (tabv (fun _ => .int .u8 0) 32) 23)).setRow w15.heap.size (tabv (bv M) 32) = x := ⟨_, rfl⟩
  have hbx : Below w15.heap.size w15 w17 := by rw [← hz20]; exact below_setRow ((Below.refl _ _).alloc (Nat.le_refl _) _) (Nat.le_refl _) _
  have q0 := q0.below hbx q0.lt
  have q1 := q1.below hbx q1.lt
  have q2 := q2.below hbx q2.lt
  have q3 := q3.below hbx q3.lt
  have hGl := hGl.up hbx
  have kb := kb.trans (hbx.mono kb.size)
  have q4 : Has w17 b18 23 (bv M) 32 := by rw [zero32] at hz20; rw [← hz20, ← hb18]; exact hn19.row _ _ rfl
  rw [zero32] at hz20
  have Hhn19 := hide hn19
  have Hhz20 := hide hz20
  have Hhb18 := hide hb18
  clear hn19 hz20 hb18 hbx
  have Hq2 := hide q2
  have Hq3 := hide q3
  have Hq4 := hide q4
  go_wp2_with (first | (refine wpList_store_part rfl 23 _ _ rfl rfl w15.heap.size 0 (bv M) 32 rfl rfl 23 _ 32 Hhn19.out (by omega) info26 (fun _ _ => rfl) (bv M) (fun i hi => by unfold splice; first | (rw [if_pos (by omega), Nat.sub_zero]) | (rw [if_pos (by omega)]; rfl)) ?_; rw [Hhz20.out]; try rw [Hhb18.out]) | refine wpList_load_part rfl 23 _ rfl b4 0 rfl 23 _ 32 32 _ Hq2.out (by omega) Tryd.underlying23 rfl info26 (bv M) (fun i hi => by rw [Nat.zero_add]) ?_ | refine wpList_load_part rfl 23 _ rfl b12 0 rfl 23 _ 32 32 _ Hq3.out (by omega) Tryd.underlying23 rfl info26 (bv M) (fun i hi => by rw [Nat.zero_add]) ?_ | refine wpList_load_part rfl 23 _ rfl b18 0 rfl 23 _ 32 32 _ Hq4.out (by omega) Tryd.underlying23 rfl info26 (bv M) (fun i hi => by rw [Nat.zero_add]) ?_ | refine wpList_load_want (by rfl) 23 _ rfl b4 0 rfl 23 _ 32 32 _ Hq2.out (by omega) Tryd.underlying23 rfl info26 (bv M) (fun i hi => by rw [Nat.zero_add]) ?_ | refine wpList_load_want (by rfl) 23 _ rfl b12 0 rfl 23 _ 32 32 _ Hq3.out (by omega) Tryd.underlying23 rfl info26 (bv M) (fun i hi => by rw [Nat.zero_add]) ?_ | refine wpList_load_want (by rfl) 23 _ rfl b18 0 rfl 23 _ 32 32 _ Hq4.out (by omega) Tryd.underlying23 rfl info26 (bv M) (fun i hi => by rw [Nat.zero_add]) ?_)
  clear Hq2 Hq3 Hq4
  refine (first_any n _ hGl).mono ?_
  rintro e w21 ⟨rfl, hb22⟩
  have q0 := q0.below hb22 q0.lt
  have q1 := q1.below hb22 q1.lt
  have q2 := q2.below hb22 q2.lt
  have q3 := q3.below hb22 q3.lt
  have q4 := q4.below hb22 q4.lt
  have hGl := hGl.up hb22
  have kb := kb.trans (hb22.mono kb.size)
  clear hb22
  go_wp2
  go_ret
  exact ⟨rfl, kb⟩
end Go.Proofs.YtfacfbmfnpioeaaDoor
