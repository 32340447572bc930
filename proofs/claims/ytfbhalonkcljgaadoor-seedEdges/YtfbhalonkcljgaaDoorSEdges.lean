/-
  The walk of SeedEdges (printed by gen_edges.py).
-/
import Derived.Test.YtfbhalonkcljgaaDoorSNear
namespace Go.Proofs.YtfbhalonkcljgaaDoor
open Go.RowKit S
set_option linter.unusedVariables false
theorem lev_end : lvl (place 281474976710655) 48 = 48 := by decide +kernel
theorem sec_end (s : Nat → UInt8) : secretOf step s 281474976710655 = s := by
  unfold secretOf
  refine goDown_zero step 0 48 s (fun i _ _ => ?_)
  show Nat.testBit (281474976710655 - 281474976710655) i = false
  rw [Nat.sub_self, Nat.zero_testBit]
theorem hang_end (a : Nat) : Hangs (place 281474976710655) (place a) := fun i h1 h2 => by rw [lev_end] at h1; omega
theorem der_end (s : Nat → UInt8) (a : Nat) : deriveOf step s 281474976710655 a = secretOf step s a := by
  unfold deriveOf secretOf; rw [lev_end]
set_option maxRecDepth 100000 in
set_option maxHeartbeats 8000000 in
theorem edges_0 {n : Num} (ok : SeedOk n) (s : Nat → UInt8) (x out o : Int) (hr : -9223372036854775808 ≤ out ∧ out ≤ 9223372036854775807) (c1 : (decide (0 ≤ out) && decide (out ≤ 281474976710655)) = false) (ho : out = o) (hout : ¬ (0 ≤ o ∧ o ≤ 281474976710655)) (w : World) (hG : Glob n w) : Calls Tryd.prog 4 #[.agg (tabv (bv s) 32), .int .i64 x, .int .i64 out] w fun e w' => e = .returned (.bool true) ∧ Below w.heap.size w w' := by
  subst ho
  by_cases hneg : 0 ≤ out
  · have c2 : decide (0 ≤ out) = true := by simpa using hneg
    have c3 : decide (out ≤ 281474976710655) = false := by rw [c2] at c1; simpa using c1
    clear c1 hneg
    obtain ⟨w0, hW0⟩ : ∃ x, w.alloc (.cells (tabv (bv s) 32) 23) = x := ⟨_, rfl⟩
    have q0 : Has w0 w.heap.size 23 (bv s) 32 := by rw [← hW0]; exact Has.new w 23 (bv s) 32 _ rfl
    have kb : Below w.heap.size w w0 := by rw [← hW0]; exact (Below.refl w.heap.size w).alloc (Nat.le_refl _) _
    have hGl : Glob n w0 := hG.below kb hG.2.2
    obtain ⟨b0, hb0⟩ : ∃ x, w.heap.size = x := ⟨_, rfl⟩
    rw [hb0] at q0
    obtain ⟨a, hla, han⟩ : ∃ a : Nat, a ≤ 281474976710655 ∧ numA x = a := ⟨numA x, (num_is x).2, rfl⟩
    have HNUM := hide (number_any x)
    rw [han] at HNUM
    have S1 := ok.secret s 281474976710655
    rw [show (281474976710655 : Int) = ((281474976710655 : Nat) : Int) from rfl, secret_nat (Nat.le_refl _), sec_end] at S1
    have D1 := ok.derive s 281474976710655 (a : Int)
    rw [show (281474976710655 : Int) = ((281474976710655 : Nat) : Int) from rfl, derive_yes (Nat.le_refl _) hla (hang_end a), der_end] at D1
    obtain ⟨Y, hY⟩ : ∃ Y, secretOf step s a = Y := ⟨_, rfl⟩
    have S2 := ok.secret s (a : Int)
    rw [secret_nat hla, hY] at S2
    rw [hY] at D1
    have L1 := ok.level 281474976710655
    rw [show (281474976710655 : Int) = ((281474976710655 : Nat) : Int) from rfl, level_nat (Nat.le_refl _), lev_end] at L1
    have hbad : isN out = false := by rw [Bool.eq_false_iff]; intro h; rw [isN_iff] at h; exact hout h
    have S3 := ok.secret s out
    rw [show secretA s out = (fun _ => 0, 90) by unfold secretA; rw [if_neg (by rw [hbad]; decide)]] at S3
    have D2 := ok.derive s out (a : Int)
    rw [show deriveA s out (a : Int) = (fun _ => 0, 90) by unfold deriveA; rw [if_neg (fun k => by rw [hbad] at k; cases k.1)]] at D2
    have D3 := ok.derive s (a : Int) out
    rw [show deriveA s (a : Int) out = (fun _ => 0, 90) by unfold deriveA; rw [if_neg (fun k => by rw [hbad] at k; cases k.2)]] at D3
    have L2 := ok.level out
    rw [show levelA out = (0, 90) by unfold levelA; rw [if_neg (by rw [hbad]; decide)]] at L2
    have S1 := hide S1
    have S2 := hide S2
    have S3 := hide S3
    have D1 := hide D1
    have D2 := hide D2
    have D3 := hide D3
    have L1 := hide L1
    have L2 := hide L2
    obtain ⟨Z, hZ⟩ : ∃ Z : Nat → UInt8, (fun _ => (0 : UInt8)) = Z := ⟨_, rfl⟩
    have hqy : ∀ w : World, (Op.equalIn 10000 23 (.agg (tabv (bv Y) 32)) (.agg (tabv (bv Y) 32))).run Tryd.prog w = .ok true w := fun w => by rw [eq26, all_same]
    have hqs : ∀ w : World, (Op.equalIn 10000 23 (.agg (tabv (bv s) 32)) (.agg (tabv (bv s) 32))).run Tryd.prog w = .ok true w := fun w => by rw [eq26, all_same]
    have hqz : ∀ w : World, (Op.equalIn 10000 23 (.agg (tabv (bv (fun _ => (0 : UInt8))) 32)) (.agg (tabv (bv (fun _ => (0 : UInt8))) 32))).run Tryd.prog w = .ok true w := fun w => by rw [eq26, all_same]
    have hgt := guard26
    clear hY han hZ hbad hout
    go_enter Tryd.func4, Tryd.ntmps4
    go_wp2_with fail
    refine (head_any ok _ hGl).mono ?_
    rintro e w1 ⟨rfl, hb2⟩
    have q0 := q0.below hb2 q0.lt
    have hGl := hGl.up hb2
    have kb := kb.trans (hb2.mono kb.size)
    clear hb2
    clear hW0
    go_wp2_with fail
    refine (HNUM.out _).mono ?_
    rintro e w3 ⟨rfl, hw4⟩
    obtain rfl := hw4.symm
    try rw [hb0]
    have Hq0 := hide q0
    go_wp2_with (first | refine wpList_load_part rfl 23 _ rfl b0 0 rfl 23 _ 32 32 _ Hq0.out (by omega) Tryd.underlying23 rfl info26 (bv s) (fun i hi => by rw [Nat.zero_add]) ?_)
    clear Hq0
    refine (S1.out _ hGl).mono ?_
    rintro e w5 ⟨rfl, hb6⟩
    have q0 := q0.below hb6 q0.lt
    have hGl := hGl.up hb6
    have kb := kb.trans (hb6.mono kb.size)
    clear hb6
    have hn9 := Has.new w5 23 (fun _ => .int .u8 0) 32 _ rfl
    rw [zero32] at hn9
    obtain ⟨b8, hb8⟩ : ∃ g, w5.heap.size = g := ⟨_, rfl⟩
    obtain ⟨w7, hz10⟩ : ∃ x, (w5.alloc (.cells (tabv (fun _ => .int .u8 0) 32) 23)).setRow w5.heap.size (tabv (bv s) 32) = x := ⟨_, rfl⟩
    have hbx : Below w5.heap.size w5 w7 := by rw [← hz10]; exact below_setRow ((Below.refl _ _).alloc (Nat.le_refl _) _) (Nat.le_refl _) _
    have q0 := q0.below hbx q0.lt
    have hGl := hGl.up hbx
    have kb := kb.trans (hbx.mono kb.size)
    have q1 : Has w7 b8 23 (bv s) 32 := by rw [zero32] at hz10; rw [← hz10, ← hb8]; exact hn9.row _ _ rfl
    rw [zero32] at hz10
    have Hhn9 := hide hn9
    have Hhz10 := hide hz10
    have Hhb8 := hide hb8
    clear hn9 hz10 hb8 hbx
    have Hq0 := hide q0
    go_wp2_with (first | (refine wpList_store_part rfl 23 _ _ rfl rfl w5.heap.size 0 (bv s) 32 rfl rfl 23 _ 32 Hhn9.out (by omega) info26 (fun _ _ => rfl) (bv s) (fun i hi => by unfold splice; first | (rw [if_pos (by omega), Nat.sub_zero]) | (rw [if_pos (by omega)]; rfl)) ?_; rw [Hhz10.out]) | refine wpList_load_part rfl 23 _ rfl b0 0 rfl 23 _ 32 32 _ Hq0.out (by omega) Tryd.underlying23 rfl info26 (bv s) (fun i hi => by rw [Nat.zero_add]) ?_)
    try rw [Hhb8.out]
    clear Hq0
    refine (D1.out _ hGl).mono ?_
    rintro e w11 ⟨rfl, hb12⟩
    have q0 := q0.below hb12 q0.lt
    have q1 := q1.below hb12 q1.lt
    have hGl := hGl.up hb12
    have kb := kb.trans (hb12.mono kb.size)
    clear hb12
    have hn15 := Has.new w11 23 (fun _ => .int .u8 0) 32 _ rfl
    rw [zero32] at hn15
    obtain ⟨b14, hb14⟩ : ∃ g, w11.heap.size = g := ⟨_, rfl⟩
    obtain ⟨w13, hz16⟩ : ∃ x, (w11.alloc (.cells (tabv (fun _ => .int .u8 0) 32) 23)).setRow w11.heap.size (tabv (bv Y) 32) = x := ⟨_, rfl⟩
    have hbx : Below w11.heap.size w11 w13 := by rw [← hz16]; exact below_setRow ((Below.refl _ _).alloc (Nat.le_refl _) _) (Nat.le_refl _) _
    have q0 := q0.below hbx q0.lt
    have q1 := q1.below hbx q1.lt
    have hGl := hGl.up hbx
    have kb := kb.trans (hbx.mono kb.size)
    have q2 : Has w13 b14 23 (bv Y) 32 := by rw [zero32] at hz16; rw [← hz16, ← hb14]; exact hn15.row _ _ rfl
    rw [zero32] at hz16
    have Hhn15 := hide hn15
    have Hhz16 := hide hz16
    have Hhb14 := hide hb14
    clear hn15 hz16 hb14 hbx
    have Hq0 := hide q0
    go_wp2_with (first | (refine wpList_store_part rfl 23 _ _ rfl rfl w11.heap.size 0 (bv Y) 32 rfl rfl 23 _ 32 Hhn15.out (by omega) info26 (fun _ _ => rfl) (bv Y) (fun i hi => by unfold splice; first | (rw [if_pos (by omega), Nat.sub_zero]) | (rw [if_pos (by omega)]; rfl)) ?_; rw [Hhz16.out]) | refine wpList_load_part rfl 23 _ rfl b0 0 rfl 23 _ 32 32 _ Hq0.out (by omega) Tryd.underlying23 rfl info26 (bv s) (fun i hi => by rw [Nat.zero_add]) ?_)
    try rw [Hhb14.out]
    clear Hq0
    refine (S2.out _ hGl).mono ?_
    rintro e w17 ⟨rfl, hb18⟩
    have q0 := q0.below hb18 q0.lt
    have q1 := q1.below hb18 q1.lt
    have q2 := q2.below hb18 q2.lt
    have hGl := hGl.up hb18
    have kb := kb.trans (hb18.mono kb.size)
    clear hb18
    have hn21 := Has.new w17 23 (fun _ => .int .u8 0) 32 _ rfl
    rw [zero32] at hn21
    obtain ⟨b20, hb20⟩ : ∃ g, w17.heap.size = g := ⟨_, rfl⟩
    obtain ⟨w19, hz22⟩ : ∃ x, (w17.alloc (.cells (tabv (fun _ => .int .u8 0) 32) 23)).setRow w17.heap.size (tabv (bv Y) 32) = x := ⟨_, rfl⟩
    have hbx : Below w17.heap.size w17 w19 := by rw [← hz22]; exact below_setRow ((Below.refl _ _).alloc (Nat.le_refl _) _) (Nat.le_refl _) _
    have q0 := q0.below hbx q0.lt
    have q1 := q1.below hbx q1.lt
    have q2 := q2.below hbx q2.lt
    have hGl := hGl.up hbx
    have kb := kb.trans (hbx.mono kb.size)
    have q3 : Has w19 b20 23 (bv Y) 32 := by rw [zero32] at hz22; rw [← hz22, ← hb20]; exact hn21.row _ _ rfl
    rw [zero32] at hz22
    have Hhn21 := hide hn21
    have Hhz22 := hide hz22
    have Hhb20 := hide hb20
    clear hn21 hz22 hb20 hbx
    go_wp2_with (first | (refine wpList_store_part rfl 23 _ _ rfl rfl w17.heap.size 0 (bv Y) 32 rfl rfl 23 _ 32 Hhn21.out (by omega) info26 (fun _ _ => rfl) (bv Y) (fun i hi => by unfold splice; first | (rw [if_pos (by omega), Nat.sub_zero]) | (rw [if_pos (by omega)]; rfl)) ?_; rw [Hhz22.out]))
    try rw [Hhb20.out]
    refine (L1.out _).mono ?_
    rintro e w23 ⟨rfl, hb24⟩
    have q0 := q0.below hb24 q0.lt
    have q1 := q1.below hb24 q1.lt
    have q2 := q2.below hb24 q2.lt
    have q3 := q3.below hb24 q3.lt
    have hGl := hGl.up hb24
    have kb := kb.trans (hb24.mono kb.size)
    clear hb24
    have Hq0 := hide q0
    have Hq1 := hide q1
    have Hq2 := hide q2
    have Hq3 := hide q3
    go_wp2_with (first | refine wpList_load_want (by rfl) 23 _ rfl b8 0 rfl 23 _ 32 32 _ Hq1.out (by omega) Tryd.underlying23 rfl info26 (bv s) (fun i hi => by rw [Nat.zero_add]) ?_ | refine wpList_load_want (by rfl) 23 _ rfl b14 0 rfl 23 _ 32 32 _ Hq2.out (by omega) Tryd.underlying23 rfl info26 (bv Y) (fun i hi => by rw [Nat.zero_add]) ?_ | refine wpList_load_want (by rfl) 23 _ rfl b20 0 rfl 23 _ 32 32 _ Hq3.out (by omega) Tryd.underlying23 rfl info26 (bv Y) (fun i hi => by rw [Nat.zero_add]) ?_ | refine wpList_load_want (by rfl) 23 _ rfl b0 0 rfl 23 _ 32 32 _ Hq0.out (by omega) Tryd.underlying23 rfl info26 (bv s) (fun i hi => by rw [Nat.zero_add]) ?_ | refine wpList_load_part rfl 23 _ rfl b0 0 rfl 23 _ 32 32 _ Hq0.out (by omega) Tryd.underlying23 rfl info26 (bv s) (fun i hi => by rw [Nat.zero_add]) ?_)
    clear Hq0 Hq1 Hq2 Hq3
    refine (S3.out _ hGl).mono ?_
    rintro e w25 ⟨rfl, hb26⟩
    have q0 := q0.below hb26 q0.lt
    have q1 := q1.below hb26 q1.lt
    have q2 := q2.below hb26 q2.lt
    have q3 := q3.below hb26 q3.lt
    have hGl := hGl.up hb26
    have kb := kb.trans (hb26.mono kb.size)
    clear hb26
    have hn29 := Has.new w25 23 (fun _ => .int .u8 0) 32 _ rfl
    rw [zero32] at hn29
    obtain ⟨b28, hb28⟩ : ∃ g, w25.heap.size = g := ⟨_, rfl⟩
    obtain ⟨w27, hz30⟩ : ∃ x, (w25.alloc (.cells (tabv (fun _ => .int .u8 0) 32) 23)).setRow w25.heap.size (tabv (bv (fun _ => (0 : UInt8))) 32) = x := ⟨_, rfl⟩
    have hbx : Below w25.heap.size w25 w27 := by rw [← hz30]; exact below_setRow ((Below.refl _ _).alloc (Nat.le_refl _) _) (Nat.le_refl _) _
    have q0 := q0.below hbx q0.lt
    have q1 := q1.below hbx q1.lt
    have q2 := q2.below hbx q2.lt
    have q3 := q3.below hbx q3.lt
    have hGl := hGl.up hbx
    have kb := kb.trans (hbx.mono kb.size)
    have q4 : Has w27 b28 23 (bv (fun _ => (0 : UInt8))) 32 := by rw [zero32] at hz30; rw [← hz30, ← hb28]; exact hn29.row _ _ rfl
    rw [zero32] at hz30
    have Hhn29 := hide hn29
    have Hhz30 := hide hz30
    have Hhb28 := hide hb28
    clear hn29 hz30 hb28 hbx
    have Hq0 := hide q0
    go_wp2_with (first | (refine wpList_store_part rfl 23 _ _ rfl rfl w25.heap.size 0 (bv (fun _ => (0 : UInt8))) 32 rfl rfl 23 _ 32 Hhn29.out (by omega) info26 (fun _ _ => rfl) (bv (fun _ => (0 : UInt8))) (fun i hi => by unfold splice; first | (rw [if_pos (by omega), Nat.sub_zero]) | (rw [if_pos (by omega)]; rfl)) ?_; rw [Hhz30.out]) | refine wpList_load_part rfl 23 _ rfl b0 0 rfl 23 _ 32 32 _ Hq0.out (by omega) Tryd.underlying23 rfl info26 (bv s) (fun i hi => by rw [Nat.zero_add]) ?_)
    try rw [Hhb28.out]
    clear Hq0
    refine (D2.out _ hGl).mono ?_
    rintro e w31 ⟨rfl, hb32⟩
    have q0 := q0.below hb32 q0.lt
    have q1 := q1.below hb32 q1.lt
    have q2 := q2.below hb32 q2.lt
    have q3 := q3.below hb32 q3.lt
    have q4 := q4.below hb32 q4.lt
    have hGl := hGl.up hb32
    have kb := kb.trans (hb32.mono kb.size)
    clear hb32
    have hn35 := Has.new w31 23 (fun _ => .int .u8 0) 32 _ rfl
    rw [zero32] at hn35
    obtain ⟨b34, hb34⟩ : ∃ g, w31.heap.size = g := ⟨_, rfl⟩
    obtain ⟨w33, hz36⟩ : ∃ x, (w31.alloc (.cells (tabv (fun _ => .int .u8 0) 32) 23)).setRow w31.heap.size (tabv (bv (fun _ => (0 : UInt8))) 32) = x := ⟨_, rfl⟩
    have hbx : Below w31.heap.size w31 w33 := by rw [← hz36]; exact below_setRow ((Below.refl _ _).alloc (Nat.le_refl _) _) (Nat.le_refl _) _
    have q0 := q0.below hbx q0.lt
    have q1 := q1.below hbx q1.lt
    have q2 := q2.below hbx q2.lt
    have q3 := q3.below hbx q3.lt
    have q4 := q4.below hbx q4.lt
    have hGl := hGl.up hbx
    have kb := kb.trans (hbx.mono kb.size)
    have q5 : Has w33 b34 23 (bv (fun _ => (0 : UInt8))) 32 := by rw [zero32] at hz36; rw [← hz36, ← hb34]; exact hn35.row _ _ rfl
    rw [zero32] at hz36
    have Hhn35 := hide hn35
    have Hhz36 := hide hz36
    have Hhb34 := hide hb34
    clear hn35 hz36 hb34 hbx
    have Hq0 := hide q0
    go_wp2_with (first | (refine wpList_store_part rfl 23 _ _ rfl rfl w31.heap.size 0 (bv (fun _ => (0 : UInt8))) 32 rfl rfl 23 _ 32 Hhn35.out (by omega) info26 (fun _ _ => rfl) (bv (fun _ => (0 : UInt8))) (fun i hi => by unfold splice; first | (rw [if_pos (by omega), Nat.sub_zero]) | (rw [if_pos (by omega)]; rfl)) ?_; rw [Hhz36.out]) | refine wpList_load_part rfl 23 _ rfl b0 0 rfl 23 _ 32 32 _ Hq0.out (by omega) Tryd.underlying23 rfl info26 (bv s) (fun i hi => by rw [Nat.zero_add]) ?_)
    try rw [Hhb34.out]
    clear Hq0
    refine (D3.out _ hGl).mono ?_
    rintro e w37 ⟨rfl, hb38⟩
    have q0 := q0.below hb38 q0.lt
    have q1 := q1.below hb38 q1.lt
    have q2 := q2.below hb38 q2.lt
    have q3 := q3.below hb38 q3.lt
    have q4 := q4.below hb38 q4.lt
    have q5 := q5.below hb38 q5.lt
    have hGl := hGl.up hb38
    have kb := kb.trans (hb38.mono kb.size)
    clear hb38
    have hn41 := Has.new w37 23 (fun _ => .int .u8 0) 32 _ rfl
    rw [zero32] at hn41
    obtain ⟨b40, hb40⟩ : ∃ g, w37.heap.size = g := ⟨_, rfl⟩
    obtain ⟨w39, hz42⟩ : ∃ x, (w37.alloc (.cells (tabv (fun _ => .int .u8 0) 32) 23)).setRow w37.heap.size (tabv (bv (fun _ => (0 : UInt8))) 32) = x := ⟨_, rfl⟩
    have hbx : Below w37.heap.size w37 w39 := by rw [← hz42]; exact below_setRow ((Below.refl _ _).alloc (Nat.le_refl _) _) (Nat.le_refl _) _
    have q0 := q0.below hbx q0.lt
    have q1 := q1.below hbx q1.lt
    have q2 := q2.below hbx q2.lt
    have q3 := q3.below hbx q3.lt
    have q4 := q4.below hbx q4.lt
    have q5 := q5.below hbx q5.lt
    have hGl := hGl.up hbx
    have kb := kb.trans (hbx.mono kb.size)
    have q6 : Has w39 b40 23 (bv (fun _ => (0 : UInt8))) 32 := by rw [zero32] at hz42; rw [← hz42, ← hb40]; exact hn41.row _ _ rfl
    rw [zero32] at hz42
    have Hhn41 := hide hn41
    have Hhz42 := hide hz42
    have Hhb40 := hide hb40
    clear hn41 hz42 hb40 hbx
    go_wp2_with (first | (refine wpList_store_part rfl 23 _ _ rfl rfl w37.heap.size 0 (bv (fun _ => (0 : UInt8))) 32 rfl rfl 23 _ 32 Hhn41.out (by omega) info26 (fun _ _ => rfl) (bv (fun _ => (0 : UInt8))) (fun i hi => by unfold splice; first | (rw [if_pos (by omega), Nat.sub_zero]) | (rw [if_pos (by omega)]; rfl)) ?_; rw [Hhz42.out]))
    try rw [Hhb40.out]
    refine (L2.out _).mono ?_
    rintro e w43 ⟨rfl, hb44⟩
    have q0 := q0.below hb44 q0.lt
    have q1 := q1.below hb44 q1.lt
    have q2 := q2.below hb44 q2.lt
    have q3 := q3.below hb44 q3.lt
    have q4 := q4.below hb44 q4.lt
    have q5 := q5.below hb44 q5.lt
    have q6 := q6.below hb44 q6.lt
    have hGl := hGl.up hb44
    have kb := kb.trans (hb44.mono kb.size)
    clear hb44
    have hn47 := Has.new w43 23 (fun _ => .int .u8 0) 32 _ rfl
    rw [zero32] at hn47
    obtain ⟨b46, hb46⟩ : ∃ g, w43.heap.size = g := ⟨_, rfl⟩
    obtain ⟨w45, hz48⟩ : ∃ x, (w43.alloc (.cells (tabv (fun _ => .int .u8 0) 32) 23)).setRow w43.heap.size (tabv (bv (fun _ => (0 : UInt8))) 32) = x := ⟨_, rfl⟩
    have hbx : Below w43.heap.size w43 w45 := by rw [← hz48]; exact below_setRow ((Below.refl _ _).alloc (Nat.le_refl _) _) (Nat.le_refl _) _
    have q0 := q0.below hbx q0.lt
    have q1 := q1.below hbx q1.lt
    have q2 := q2.below hbx q2.lt
    have q3 := q3.below hbx q3.lt
    have q4 := q4.below hbx q4.lt
    have q5 := q5.below hbx q5.lt
    have q6 := q6.below hbx q6.lt
    have hGl := hGl.up hbx
    have kb := kb.trans (hbx.mono kb.size)
    have q7 : Has w45 b46 23 (bv (fun _ => (0 : UInt8))) 32 := by rw [zero32] at hz48; rw [← hz48, ← hb46]; exact hn47.row _ _ rfl
    rw [zero32] at hz48
    have Hhn47 := hide hn47
    have Hhz48 := hide hz48
    have Hhb46 := hide hb46
    clear hn47 hz48 hb46 hbx
    have Hq4 := hide q4
    have Hq5 := hide q5
    have Hq6 := hide q6
    have Hq7 := hide q7
    go_wp2_with (first | (refine wpList_store_part rfl 23 _ _ rfl rfl w43.heap.size 0 (bv (fun _ => (0 : UInt8))) 32 rfl rfl 23 _ 32 Hhn47.out (by omega) info26 (fun _ _ => rfl) (bv (fun _ => (0 : UInt8))) (fun i hi => by unfold splice; first | (rw [if_pos (by omega), Nat.sub_zero]) | (rw [if_pos (by omega)]; rfl)) ?_; rw [Hhz48.out]) | refine wpList_load_want (by rfl) 23 _ rfl b28 0 rfl 23 _ 32 32 _ Hq4.out (by omega) Tryd.underlying23 rfl info26 (bv (fun _ => (0 : UInt8))) (fun i hi => by rw [Nat.zero_add]) ?_ | refine wpList_load_want (by rfl) 23 _ rfl b34 0 rfl 23 _ 32 32 _ Hq5.out (by omega) Tryd.underlying23 rfl info26 (bv (fun _ => (0 : UInt8))) (fun i hi => by rw [Nat.zero_add]) ?_ | refine wpList_load_want (by rfl) 23 _ rfl b40 0 rfl 23 _ 32 32 _ Hq6.out (by omega) Tryd.underlying23 rfl info26 (bv (fun _ => (0 : UInt8))) (fun i hi => by rw [Nat.zero_add]) ?_ | (rw [Hhb46.out]; refine wpList_load_want (by rfl) 23 _ rfl b46 0 rfl 23 _ 32 32 _ Hq7.out (by omega) Tryd.underlying23 rfl info26 (bv (fun _ => (0 : UInt8))) (fun i hi => by rw [Nat.zero_add]) ?_) | refine wpList_load_want (by rfl) 23 _ rfl b46 0 rfl 23 _ 32 32 _ Hq7.out (by omega) Tryd.underlying23 rfl info26 (bv (fun _ => (0 : UInt8))) (fun i hi => by rw [Nat.zero_add]) ?_)
    go_ret
    exact ⟨by simp, kb⟩
  · have c2 : decide (0 ≤ out) = false := by simpa using hneg
    clear c1 hneg
    obtain ⟨w0, hW0⟩ : ∃ x, w.alloc (.cells (tabv (bv s) 32) 23) = x := ⟨_, rfl⟩
    have q0 : Has w0 w.heap.size 23 (bv s) 32 := by rw [← hW0]; exact Has.new w 23 (bv s) 32 _ rfl
    have kb : Below w.heap.size w w0 := by rw [← hW0]; exact (Below.refl w.heap.size w).alloc (Nat.le_refl _) _
    have hGl : Glob n w0 := hG.below kb hG.2.2
    obtain ⟨b0, hb0⟩ : ∃ x, w.heap.size = x := ⟨_, rfl⟩
    rw [hb0] at q0
    obtain ⟨a, hla, han⟩ : ∃ a : Nat, a ≤ 281474976710655 ∧ numA x = a := ⟨numA x, (num_is x).2, rfl⟩
    have HNUM := hide (number_any x)
    rw [han] at HNUM
    have S1 := ok.secret s 281474976710655
    rw [show (281474976710655 : Int) = ((281474976710655 : Nat) : Int) from rfl, secret_nat (Nat.le_refl _), sec_end] at S1
    have D1 := ok.derive s 281474976710655 (a : Int)
    rw [show (281474976710655 : Int) = ((281474976710655 : Nat) : Int) from rfl, derive_yes (Nat.le_refl _) hla (hang_end a), der_end] at D1
    obtain ⟨Y, hY⟩ : ∃ Y, secretOf step s a = Y := ⟨_, rfl⟩
    have S2 := ok.secret s (a : Int)
    rw [secret_nat hla, hY] at S2
    rw [hY] at D1
    have L1 := ok.level 281474976710655
    rw [show (281474976710655 : Int) = ((281474976710655 : Nat) : Int) from rfl, level_nat (Nat.le_refl _), lev_end] at L1
    have hbad : isN out = false := by rw [Bool.eq_false_iff]; intro h; rw [isN_iff] at h; exact hout h
    have S3 := ok.secret s out
    rw [show secretA s out = (fun _ => 0, 90) by unfold secretA; rw [if_neg (by rw [hbad]; decide)]] at S3
    have D2 := ok.derive s out (a : Int)
    rw [show deriveA s out (a : Int) = (fun _ => 0, 90) by unfold deriveA; rw [if_neg (fun k => by rw [hbad] at k; cases k.1)]] at D2
    have D3 := ok.derive s (a : Int) out
    rw [show deriveA s (a : Int) out = (fun _ => 0, 90) by unfold deriveA; rw [if_neg (fun k => by rw [hbad] at k; cases k.2)]] at D3
    have L2 := ok.level out
    rw [show levelA out = (0, 90) by unfold levelA; rw [if_neg (by rw [hbad]; decide)]] at L2
    have S1 := hide S1
    have S2 := hide S2
    have S3 := hide S3
    have D1 := hide D1
    have D2 := hide D2
    have D3 := hide D3
    have L1 := hide L1
    have L2 := hide L2
    obtain ⟨Z, hZ⟩ : ∃ Z : Nat → UInt8, (fun _ => (0 : UInt8)) = Z := ⟨_, rfl⟩
    have hqy : ∀ w : World, (Op.equalIn 10000 23 (.agg (tabv (bv Y) 32)) (.agg (tabv (bv Y) 32))).run Tryd.prog w = .ok true w := fun w => by rw [eq26, all_same]
    have hqs : ∀ w : World, (Op.equalIn 10000 23 (.agg (tabv (bv s) 32)) (.agg (tabv (bv s) 32))).run Tryd.prog w = .ok true w := fun w => by rw [eq26, all_same]
    have hqz : ∀ w : World, (Op.equalIn 10000 23 (.agg (tabv (bv (fun _ => (0 : UInt8))) 32)) (.agg (tabv (bv (fun _ => (0 : UInt8))) 32))).run Tryd.prog w = .ok true w := fun w => by rw [eq26, all_same]
    have hgt := guard26
    clear hY han hZ hbad hout
    go_enter Tryd.func4, Tryd.ntmps4
    go_wp2_with fail
    refine (head_any ok _ hGl).mono ?_
    rintro e w1 ⟨rfl, hb2⟩
    have q0 := q0.below hb2 q0.lt
    have hGl := hGl.up hb2
    have kb := kb.trans (hb2.mono kb.size)
    clear hb2
    clear hW0
    go_wp2_with fail
    refine (HNUM.out _).mono ?_
    rintro e w3 ⟨rfl, hw4⟩
    obtain rfl := hw4.symm
    try rw [hb0]
    have Hq0 := hide q0
    go_wp2_with (first | refine wpList_load_part rfl 23 _ rfl b0 0 rfl 23 _ 32 32 _ Hq0.out (by omega) Tryd.underlying23 rfl info26 (bv s) (fun i hi => by rw [Nat.zero_add]) ?_)
    clear Hq0
    refine (S1.out _ hGl).mono ?_
    rintro e w5 ⟨rfl, hb6⟩
    have q0 := q0.below hb6 q0.lt
    have hGl := hGl.up hb6
    have kb := kb.trans (hb6.mono kb.size)
    clear hb6
    have hn9 := Has.new w5 23 (fun _ => .int .u8 0) 32 _ rfl
    rw [zero32] at hn9
    obtain ⟨b8, hb8⟩ : ∃ g, w5.heap.size = g := ⟨_, rfl⟩
    obtain ⟨w7, hz10⟩ : ∃ x, (w5.alloc (.cells (tabv (fun _ => .int .u8 0) 32) 23)).setRow w5.heap.size (tabv (bv s) 32) = x := ⟨_, rfl⟩
    have hbx : Below w5.heap.size w5 w7 := by rw [← hz10]; exact below_setRow ((Below.refl _ _).alloc (Nat.le_refl _) _) (Nat.le_refl _) _
    have q0 := q0.below hbx q0.lt
    have hGl := hGl.up hbx
    have kb := kb.trans (hbx.mono kb.size)
    have q1 : Has w7 b8 23 (bv s) 32 := by rw [zero32] at hz10; rw [← hz10, ← hb8]; exact hn9.row _ _ rfl
    rw [zero32] at hz10
    have Hhn9 := hide hn9
    have Hhz10 := hide hz10
    have Hhb8 := hide hb8
    clear hn9 hz10 hb8 hbx
    have Hq0 := hide q0
    go_wp2_with (first | (refine wpList_store_part rfl 23 _ _ rfl rfl w5.heap.size 0 (bv s) 32 rfl rfl 23 _ 32 Hhn9.out (by omega) info26 (fun _ _ => rfl) (bv s) (fun i hi => by unfold splice; first | (rw [if_pos (by omega), Nat.sub_zero]) | (rw [if_pos (by omega)]; rfl)) ?_; rw [Hhz10.out]) | refine wpList_load_part rfl 23 _ rfl b0 0 rfl 23 _ 32 32 _ Hq0.out (by omega) Tryd.underlying23 rfl info26 (bv s) (fun i hi => by rw [Nat.zero_add]) ?_)
    try rw [Hhb8.out]
    clear Hq0
    refine (D1.out _ hGl).mono ?_
    rintro e w11 ⟨rfl, hb12⟩
    have q0 := q0.below hb12 q0.lt
    have q1 := q1.below hb12 q1.lt
    have hGl := hGl.up hb12
    have kb := kb.trans (hb12.mono kb.size)
    clear hb12
    have hn15 := Has.new w11 23 (fun _ => .int .u8 0) 32 _ rfl
    rw [zero32] at hn15
    obtain ⟨b14, hb14⟩ : ∃ g, w11.heap.size = g := ⟨_, rfl⟩
    obtain ⟨w13, hz16⟩ : ∃ x, (w11.alloc (.cells (tabv (fun _ => .int .u8 0) 32) 23)).setRow w11.heap.size (tabv (bv Y) 32) = x := ⟨_, rfl⟩
    have hbx : Below w11.heap.size w11 w13 := by rw [← hz16]; exact below_setRow ((Below.refl _ _).alloc (Nat.le_refl _) _) (Nat.le_refl _) _
    have q0 := q0.below hbx q0.lt
    have q1 := q1.below hbx q1.lt
    have hGl := hGl.up hbx
    have kb := kb.trans (hbx.mono kb.size)
    have q2 : Has w13 b14 23 (bv Y) 32 := by rw [zero32] at hz16; rw [← hz16, ← hb14]; exact hn15.row _ _ rfl
    rw [zero32] at hz16
    have Hhn15 := hide hn15
    have Hhz16 := hide hz16
    have Hhb14 := hide hb14
    clear hn15 hz16 hb14 hbx
    have Hq0 := hide q0
    go_wp2_with (first | (refine wpList_store_part rfl 23 _ _ rfl rfl w11.heap.size 0 (bv Y) 32 rfl rfl 23 _ 32 Hhn15.out (by omega) info26 (fun _ _ => rfl) (bv Y) (fun i hi => by unfold splice; first | (rw [if_pos (by omega), Nat.sub_zero]) | (rw [if_pos (by omega)]; rfl)) ?_; rw [Hhz16.out]) | refine wpList_load_part rfl 23 _ rfl b0 0 rfl 23 _ 32 32 _ Hq0.out (by omega) Tryd.underlying23 rfl info26 (bv s) (fun i hi => by rw [Nat.zero_add]) ?_)
    try rw [Hhb14.out]
    clear Hq0
    refine (S2.out _ hGl).mono ?_
    rintro e w17 ⟨rfl, hb18⟩
    have q0 := q0.below hb18 q0.lt
    have q1 := q1.below hb18 q1.lt
    have q2 := q2.below hb18 q2.lt
    have hGl := hGl.up hb18
    have kb := kb.trans (hb18.mono kb.size)
    clear hb18
    have hn21 := Has.new w17 23 (fun _ => .int .u8 0) 32 _ rfl
    rw [zero32] at hn21
    obtain ⟨b20, hb20⟩ : ∃ g, w17.heap.size = g := ⟨_, rfl⟩
    obtain ⟨w19, hz22⟩ : ∃ x, (w17.alloc (.cells (tabv (fun _ => .int .u8 0) 32) 23)).setRow w17.heap.size (tabv (bv Y) 32) = x := ⟨_, rfl⟩
    have hbx : Below w17.heap.size w17 w19 := by rw [← hz22]; exact below_setRow ((Below.refl _ _).alloc (Nat.le_refl _) _) (Nat.le_refl _) _
    have q0 := q0.below hbx q0.lt
    have q1 := q1.below hbx q1.lt
    have q2 := q2.below hbx q2.lt
    have hGl := hGl.up hbx
    have kb := kb.trans (hbx.mono kb.size)
    have q3 : Has w19 b20 23 (bv Y) 32 := by rw [zero32] at hz22; rw [← hz22, ← hb20]; exact hn21.row _ _ rfl
    rw [zero32] at hz22
    have Hhn21 := hide hn21
    have Hhz22 := hide hz22
    have Hhb20 := hide hb20
    clear hn21 hz22 hb20 hbx
    go_wp2_with (first | (refine wpList_store_part rfl 23 _ _ rfl rfl w17.heap.size 0 (bv Y) 32 rfl rfl 23 _ 32 Hhn21.out (by omega) info26 (fun _ _ => rfl) (bv Y) (fun i hi => by unfold splice; first | (rw [if_pos (by omega), Nat.sub_zero]) | (rw [if_pos (by omega)]; rfl)) ?_; rw [Hhz22.out]))
    try rw [Hhb20.out]
    refine (L1.out _).mono ?_
    rintro e w23 ⟨rfl, hb24⟩
    have q0 := q0.below hb24 q0.lt
    have q1 := q1.below hb24 q1.lt
    have q2 := q2.below hb24 q2.lt
    have q3 := q3.below hb24 q3.lt
    have hGl := hGl.up hb24
    have kb := kb.trans (hb24.mono kb.size)
    clear hb24
    have Hq0 := hide q0
    have Hq1 := hide q1
    have Hq2 := hide q2
    have Hq3 := hide q3
    go_wp2_with (first | refine wpList_load_want (by rfl) 23 _ rfl b8 0 rfl 23 _ 32 32 _ Hq1.out (by omega) Tryd.underlying23 rfl info26 (bv s) (fun i hi => by rw [Nat.zero_add]) ?_ | refine wpList_load_want (by rfl) 23 _ rfl b14 0 rfl 23 _ 32 32 _ Hq2.out (by omega) Tryd.underlying23 rfl info26 (bv Y) (fun i hi => by rw [Nat.zero_add]) ?_ | refine wpList_load_want (by rfl) 23 _ rfl b20 0 rfl 23 _ 32 32 _ Hq3.out (by omega) Tryd.underlying23 rfl info26 (bv Y) (fun i hi => by rw [Nat.zero_add]) ?_ | refine wpList_load_want (by rfl) 23 _ rfl b0 0 rfl 23 _ 32 32 _ Hq0.out (by omega) Tryd.underlying23 rfl info26 (bv s) (fun i hi => by rw [Nat.zero_add]) ?_ | refine wpList_load_part rfl 23 _ rfl b0 0 rfl 23 _ 32 32 _ Hq0.out (by omega) Tryd.underlying23 rfl info26 (bv s) (fun i hi => by rw [Nat.zero_add]) ?_)
    clear Hq0 Hq1 Hq2 Hq3
    refine (S3.out _ hGl).mono ?_
    rintro e w25 ⟨rfl, hb26⟩
    have q0 := q0.below hb26 q0.lt
    have q1 := q1.below hb26 q1.lt
    have q2 := q2.below hb26 q2.lt
    have q3 := q3.below hb26 q3.lt
    have hGl := hGl.up hb26
    have kb := kb.trans (hb26.mono kb.size)
    clear hb26
    have hn29 := Has.new w25 23 (fun _ => .int .u8 0) 32 _ rfl
    rw [zero32] at hn29
    obtain ⟨b28, hb28⟩ : ∃ g, w25.heap.size = g := ⟨_, rfl⟩
    obtain ⟨w27, hz30⟩ : ∃ x, (w25.alloc (.cells (tabv (fun _ => .int .u8 0) 32) 23)).setRow w25.heap.size (tabv (bv (fun _ => (0 : UInt8))) 32) = x := ⟨_, rfl⟩
    have hbx : Below w25.heap.size w25 w27 := by rw [← hz30]; exact below_setRow ((Below.refl _ _).alloc (Nat.le_refl _) _) (Nat.le_refl _) _
    have q0 := q0.below hbx q0.lt
    have q1 := q1.below hbx q1.lt
    have q2 := q2.below hbx q2.lt
    have q3 := q3.below hbx q3.lt
    have hGl := hGl.up hbx
    have kb := kb.trans (hbx.mono kb.size)
    have q4 : Has w27 b28 23 (bv (fun _ => (0 : UInt8))) 32 := by rw [zero32] at hz30; rw [← hz30, ← hb28]; exact hn29.row _ _ rfl
    rw [zero32] at hz30
    have Hhn29 := hide hn29
    have Hhz30 := hide hz30
    have Hhb28 := hide hb28
    clear hn29 hz30 hb28 hbx
    have Hq0 := hide q0
    go_wp2_with (first | (refine wpList_store_part rfl 23 _ _ rfl rfl w25.heap.size 0 (bv (fun _ => (0 : UInt8))) 32 rfl rfl 23 _ 32 Hhn29.out (by omega) info26 (fun _ _ => rfl) (bv (fun _ => (0 : UInt8))) (fun i hi => by unfold splice; first | (rw [if_pos (by omega), Nat.sub_zero]) | (rw [if_pos (by omega)]; rfl)) ?_; rw [Hhz30.out]) | refine wpList_load_part rfl 23 _ rfl b0 0 rfl 23 _ 32 32 _ Hq0.out (by omega) Tryd.underlying23 rfl info26 (bv s) (fun i hi => by rw [Nat.zero_add]) ?_)
    try rw [Hhb28.out]
    clear Hq0
    refine (D2.out _ hGl).mono ?_
    rintro e w31 ⟨rfl, hb32⟩
    have q0 := q0.below hb32 q0.lt
    have q1 := q1.below hb32 q1.lt
    have q2 := q2.below hb32 q2.lt
    have q3 := q3.below hb32 q3.lt
    have q4 := q4.below hb32 q4.lt
    have hGl := hGl.up hb32
    have kb := kb.trans (hb32.mono kb.size)
    clear hb32
    have hn35 := Has.new w31 23 (fun _ => .int .u8 0) 32 _ rfl
    rw [zero32] at hn35
    obtain ⟨b34, hb34⟩ : ∃ g, w31.heap.size = g := ⟨_, rfl⟩
    obtain ⟨w33, hz36⟩ : ∃ x, (w31.alloc (.cells (tabv (fun _ => .int .u8 0) 32) 23)).setRow w31.heap.size (tabv (bv (fun _ => (0 : UInt8))) 32) = x := ⟨_, rfl⟩
    have hbx : Below w31.heap.size w31 w33 := by rw [← hz36]; exact below_setRow ((Below.refl _ _).alloc (Nat.le_refl _) _) (Nat.le_refl _) _
    have q0 := q0.below hbx q0.lt
    have q1 := q1.below hbx q1.lt
    have q2 := q2.below hbx q2.lt
    have q3 := q3.below hbx q3.lt
    have q4 := q4.below hbx q4.lt
    have hGl := hGl.up hbx
    have kb := kb.trans (hbx.mono kb.size)
    have q5 : Has w33 b34 23 (bv (fun _ => (0 : UInt8))) 32 := by rw [zero32] at hz36; rw [← hz36, ← hb34]; exact hn35.row _ _ rfl
    rw [zero32] at hz36
    have Hhn35 := hide hn35
    have Hhz36 := hide hz36
    have Hhb34 := hide hb34
    clear hn35 hz36 hb34 hbx
    have Hq0 := hide q0
    go_wp2_with (first | (refine wpList_store_part rfl 23 _ _ rfl rfl w31.heap.size 0 (bv (fun _ => (0 : UInt8))) 32 rfl rfl 23 _ 32 Hhn35.out (by omega) info26 (fun _ _ => rfl) (bv (fun _ => (0 : UInt8))) (fun i hi => by unfold splice; first | (rw [if_pos (by omega), Nat.sub_zero]) | (rw [if_pos (by omega)]; rfl)) ?_; rw [Hhz36.out]) | refine wpList_load_part rfl 23 _ rfl b0 0 rfl 23 _ 32 32 _ Hq0.out (by omega) Tryd.underlying23 rfl info26 (bv s) (fun i hi => by rw [Nat.zero_add]) ?_)
    try rw [Hhb34.out]
    clear Hq0
    refine (D3.out _ hGl).mono ?_
    rintro e w37 ⟨rfl, hb38⟩
    have q0 := q0.below hb38 q0.lt
    have q1 := q1.below hb38 q1.lt
    have q2 := q2.below hb38 q2.lt
    have q3 := q3.below hb38 q3.lt
    have q4 := q4.below hb38 q4.lt
    have q5 := q5.below hb38 q5.lt
    have hGl := hGl.up hb38
    have kb := kb.trans (hb38.mono kb.size)
    clear hb38
    have hn41 := Has.new w37 23 (fun _ => .int .u8 0) 32 _ rfl
    rw [zero32] at hn41
    obtain ⟨b40, hb40⟩ : ∃ g, w37.heap.size = g := ⟨_, rfl⟩
    obtain ⟨w39, hz42⟩ : ∃ x, (w37.alloc (.cells (tabv (fun _ => .int .u8 0) 32) 23)).setRow w37.heap.size (tabv (bv (fun _ => (0 : UInt8))) 32) = x := ⟨_, rfl⟩
    have hbx : Below w37.heap.size w37 w39 := by rw [← hz42]; exact below_setRow ((Below.refl _ _).alloc (Nat.le_refl _) _) (Nat.le_refl _) _
    have q0 := q0.below hbx q0.lt
    have q1 := q1.below hbx q1.lt
    have q2 := q2.below hbx q2.lt
    have q3 := q3.below hbx q3.lt
    have q4 := q4.below hbx q4.lt
    have q5 := q5.below hbx q5.lt
    have hGl := hGl.up hbx
    have kb := kb.trans (hbx.mono kb.size)
    have q6 : Has w39 b40 23 (bv (fun _ => (0 : UInt8))) 32 := by rw [zero32] at hz42; rw [← hz42, ← hb40]; exact hn41.row _ _ rfl
    rw [zero32] at hz42
    have Hhn41 := hide hn41
    have Hhz42 := hide hz42
    have Hhb40 := hide hb40
    clear hn41 hz42 hb40 hbx
    go_wp2_with (first | (refine wpList_store_part rfl 23 _ _ rfl rfl w37.heap.size 0 (bv (fun _ => (0 : UInt8))) 32 rfl rfl 23 _ 32 Hhn41.out (by omega) info26 (fun _ _ => rfl) (bv (fun _ => (0 : UInt8))) (fun i hi => by unfold splice; first | (rw [if_pos (by omega), Nat.sub_zero]) | (rw [if_pos (by omega)]; rfl)) ?_; rw [Hhz42.out]))
    try rw [Hhb40.out]
    refine (L2.out _).mono ?_
    rintro e w43 ⟨rfl, hb44⟩
    have q0 := q0.below hb44 q0.lt
    have q1 := q1.below hb44 q1.lt
    have q2 := q2.below hb44 q2.lt
    have q3 := q3.below hb44 q3.lt
    have q4 := q4.below hb44 q4.lt
    have q5 := q5.below hb44 q5.lt
    have q6 := q6.below hb44 q6.lt
    have hGl := hGl.up hb44
    have kb := kb.trans (hb44.mono kb.size)
    clear hb44
    have hn47 := Has.new w43 23 (fun _ => .int .u8 0) 32 _ rfl
    rw [zero32] at hn47
    obtain ⟨b46, hb46⟩ : ∃ g, w43.heap.size = g := ⟨_, rfl⟩
    obtain ⟨w45, hz48⟩ : ∃ x, (w43.alloc (.cells (tabv (fun _ => .int .u8 0) 32) 23)).setRow w43.heap.size (tabv (bv (fun _ => (0 : UInt8))) 32) = x := ⟨_, rfl⟩
    have hbx : Below w43.heap.size w43 w45 := by rw [← hz48]; exact below_setRow ((Below.refl _ _).alloc (Nat.le_refl _) _) (Nat.le_refl _) _
    have q0 := q0.below hbx q0.lt
    have q1 := q1.below hbx q1.lt
    have q2 := q2.below hbx q2.lt
    have q3 := q3.below hbx q3.lt
    have q4 := q4.below hbx q4.lt
    have q5 := q5.below hbx q5.lt
    have q6 := q6.below hbx q6.lt
    have hGl := hGl.up hbx
    have kb := kb.trans (hbx.mono kb.size)
    have q7 : Has w45 b46 23 (bv (fun _ => (0 : UInt8))) 32 := by rw [zero32] at hz48; rw [← hz48, ← hb46]; exact hn47.row _ _ rfl
    rw [zero32] at hz48
    have Hhn47 := hide hn47
    have Hhz48 := hide hz48
    have Hhb46 := hide hb46
    clear hn47 hz48 hb46 hbx
    have Hq4 := hide q4
    have Hq5 := hide q5
    have Hq6 := hide q6
    have Hq7 := hide q7
    go_wp2_with (first | (refine wpList_store_part rfl 23 _ _ rfl rfl w43.heap.size 0 (bv (fun _ => (0 : UInt8))) 32 rfl rfl 23 _ 32 Hhn47.out (by omega) info26 (fun _ _ => rfl) (bv (fun _ => (0 : UInt8))) (fun i hi => by unfold splice; first | (rw [if_pos (by omega), Nat.sub_zero]) | (rw [if_pos (by omega)]; rfl)) ?_; rw [Hhz48.out]) | refine wpList_load_want (by rfl) 23 _ rfl b28 0 rfl 23 _ 32 32 _ Hq4.out (by omega) Tryd.underlying23 rfl info26 (bv (fun _ => (0 : UInt8))) (fun i hi => by rw [Nat.zero_add]) ?_ | refine wpList_load_want (by rfl) 23 _ rfl b34 0 rfl 23 _ 32 32 _ Hq5.out (by omega) Tryd.underlying23 rfl info26 (bv (fun _ => (0 : UInt8))) (fun i hi => by rw [Nat.zero_add]) ?_ | refine wpList_load_want (by rfl) 23 _ rfl b40 0 rfl 23 _ 32 32 _ Hq6.out (by omega) Tryd.underlying23 rfl info26 (bv (fun _ => (0 : UInt8))) (fun i hi => by rw [Nat.zero_add]) ?_ | (rw [Hhb46.out]; refine wpList_load_want (by rfl) 23 _ rfl b46 0 rfl 23 _ 32 32 _ Hq7.out (by omega) Tryd.underlying23 rfl info26 (bv (fun _ => (0 : UInt8))) (fun i hi => by rw [Nat.zero_add]) ?_) | refine wpList_load_want (by rfl) 23 _ rfl b46 0 rfl 23 _ 32 32 _ Hq7.out (by omega) Tryd.underlying23 rfl info26 (bv (fun _ => (0 : UInt8))) (fun i hi => by rw [Nat.zero_add]) ?_)
    go_ret
    exact ⟨by simp, kb⟩
set_option maxRecDepth 100000 in
set_option maxHeartbeats 8000000 in
theorem edges_1 {n : Num} (ok : SeedOk n) (s : Nat → UInt8) (x out o : Int) (hr : -9223372036854775808 ≤ out ∧ out ≤ 9223372036854775807) (c1 : decide (0 ≤ out) = true) (c2 : decide (out ≤ 281474976710655) = true) (ho : -1 - out = o) (hout : ¬ (0 ≤ o ∧ o ≤ 281474976710655)) (w : World) (hG : Glob n w) : Calls Tryd.prog 4 #[.agg (tabv (bv s) 32), .int .i64 x, .int .i64 out] w fun e w' => e = .returned (.bool true) ∧ Below w.heap.size w w' := by
  have ho2 : wrap64 (-1 - out) = o := by unfold wrap64; omega
  obtain ⟨w0, hW0⟩ : ∃ x, w.alloc (.cells (tabv (bv s) 32) 23) = x := ⟨_, rfl⟩
  have q0 : Has w0 w.heap.size 23 (bv s) 32 := by rw [← hW0]; exact Has.new w 23 (bv s) 32 _ rfl
  have kb : Below w.heap.size w w0 := by rw [← hW0]; exact (Below.refl w.heap.size w).alloc (Nat.le_refl _) _
  have hGl : Glob n w0 := hG.below kb hG.2.2
  obtain ⟨b0, hb0⟩ : ∃ x, w.heap.size = x := ⟨_, rfl⟩
  rw [hb0] at q0
  obtain ⟨a, hla, han⟩ : ∃ a : Nat, a ≤ 281474976710655 ∧ numA x = a := ⟨numA x, (num_is x).2, rfl⟩
  have HNUM := hide (number_any x)
  rw [han] at HNUM
  have S1 := ok.secret s 281474976710655
  rw [show (281474976710655 : Int) = ((281474976710655 : Nat) : Int) from rfl, secret_nat (Nat.le_refl _), sec_end] at S1
  have D1 := ok.derive s 281474976710655 (a : Int)
  rw [show (281474976710655 : Int) = ((281474976710655 : Nat) : Int) from rfl, derive_yes (Nat.le_refl _) hla (hang_end a), der_end] at D1
  obtain ⟨Y, hY⟩ : ∃ Y, secretOf step s a = Y := ⟨_, rfl⟩
  have S2 := ok.secret s (a : Int)
  rw [secret_nat hla, hY] at S2
  rw [hY] at D1
  have L1 := ok.level 281474976710655
  rw [show (281474976710655 : Int) = ((281474976710655 : Nat) : Int) from rfl, level_nat (Nat.le_refl _), lev_end] at L1
  have hbad : isN o = false := by rw [Bool.eq_false_iff]; intro h; rw [isN_iff] at h; exact hout h
  have S3 := ok.secret s o
  rw [show secretA s o = (fun _ => 0, 90) by unfold secretA; rw [if_neg (by rw [hbad]; decide)]] at S3
  have D2 := ok.derive s o (a : Int)
  rw [show deriveA s o (a : Int) = (fun _ => 0, 90) by unfold deriveA; rw [if_neg (fun k => by rw [hbad] at k; cases k.1)]] at D2
  have D3 := ok.derive s (a : Int) o
  rw [show deriveA s (a : Int) o = (fun _ => 0, 90) by unfold deriveA; rw [if_neg (fun k => by rw [hbad] at k; cases k.2)]] at D3
  have L2 := ok.level o
  rw [show levelA o = (0, 90) by unfold levelA; rw [if_neg (by rw [hbad]; decide)]] at L2
  have S1 := hide S1
  have S2 := hide S2
  have S3 := hide S3
  have D1 := hide D1
  have D2 := hide D2
  have D3 := hide D3
  have L1 := hide L1
  have L2 := hide L2
  obtain ⟨Z, hZ⟩ : ∃ Z : Nat → UInt8, (fun _ => (0 : UInt8)) = Z := ⟨_, rfl⟩
  have hqy : ∀ w : World, (Op.equalIn 10000 23 (.agg (tabv (bv Y) 32)) (.agg (tabv (bv Y) 32))).run Tryd.prog w = .ok true w := fun w => by rw [eq26, all_same]
  have hqs : ∀ w : World, (Op.equalIn 10000 23 (.agg (tabv (bv s) 32)) (.agg (tabv (bv s) 32))).run Tryd.prog w = .ok true w := fun w => by rw [eq26, all_same]
  have hqz : ∀ w : World, (Op.equalIn 10000 23 (.agg (tabv (bv (fun _ => (0 : UInt8))) 32)) (.agg (tabv (bv (fun _ => (0 : UInt8))) 32))).run Tryd.prog w = .ok true w := fun w => by rw [eq26, all_same]
  have hgt := guard26
  clear hY han hZ hbad hout
  go_enter Tryd.func4, Tryd.ntmps4
  go_wp2_with fail
  refine (head_any ok _ hGl).mono ?_
  rintro e w1 ⟨rfl, hb2⟩
  have q0 := q0.below hb2 q0.lt
  have hGl := hGl.up hb2
  have kb := kb.trans (hb2.mono kb.size)
  clear hb2
  clear hW0
  go_wp2_with fail
  refine (HNUM.out _).mono ?_
  rintro e w3 ⟨rfl, hw4⟩
  obtain rfl := hw4.symm
  try rw [hb0]
  have Hq0 := hide q0
  go_wp2_with (first | refine wpList_load_part rfl 23 _ rfl b0 0 rfl 23 _ 32 32 _ Hq0.out (by omega) Tryd.underlying23 rfl info26 (bv s) (fun i hi => by rw [Nat.zero_add]) ?_)
  clear Hq0
  refine (S1.out _ hGl).mono ?_
  rintro e w5 ⟨rfl, hb6⟩
  have q0 := q0.below hb6 q0.lt
  have hGl := hGl.up hb6
  have kb := kb.trans (hb6.mono kb.size)
  clear hb6
  have hn9 := Has.new w5 23 (fun _ => .int .u8 0) 32 _ rfl
  rw [zero32] at hn9
  obtain ⟨b8, hb8⟩ : ∃ g, w5.heap.size = g := ⟨_, rfl⟩
  obtain ⟨w7, hz10⟩ : ∃ x, (w5.alloc (.cells (tabv (fun _ => .int .u8 0) 32) 23)).setRow w5.heap.size (tabv (bv s) 32) = x := ⟨_, rfl⟩
  have hbx : Below w5.heap.size w5 w7 := by rw [← hz10]; exact below_setRow ((Below.refl _ _).alloc (Nat.le_refl _) _) (Nat.le_refl _) _
  have q0 := q0.below hbx q0.lt
  have hGl := hGl.up hbx
  have kb := kb.trans (hbx.mono kb.size)
  have q1 : Has w7 b8 23 (bv s) 32 := by rw [zero32] at hz10; rw [← hz10, ← hb8]; exact hn9.row _ _ rfl
  rw [zero32] at hz10
  have Hhn9 := hide hn9
  have Hhz10 := hide hz10
  have Hhb8 := hide hb8
  clear hn9 hz10 hb8 hbx
  have Hq0 := hide q0
  go_wp2_with (first | (refine wpList_store_part rfl 23 _ _ rfl rfl w5.heap.size 0 (bv s) 32 rfl rfl 23 _ 32 Hhn9.out (by omega) info26 (fun _ _ => rfl) (bv s) (fun i hi => by unfold splice; first | (rw [if_pos (by omega), Nat.sub_zero]) | (rw [if_pos (by omega)]; rfl)) ?_; rw [Hhz10.out]) | refine wpList_load_part rfl 23 _ rfl b0 0 rfl 23 _ 32 32 _ Hq0.out (by omega) Tryd.underlying23 rfl info26 (bv s) (fun i hi => by rw [Nat.zero_add]) ?_)
  try rw [Hhb8.out]
  clear Hq0
  refine (D1.out _ hGl).mono ?_
  rintro e w11 ⟨rfl, hb12⟩
  have q0 := q0.below hb12 q0.lt
  have q1 := q1.below hb12 q1.lt
  have hGl := hGl.up hb12
  have kb := kb.trans (hb12.mono kb.size)
  clear hb12
  have hn15 := Has.new w11 23 (fun _ => .int .u8 0) 32 _ rfl
  rw [zero32] at hn15
  obtain ⟨b14, hb14⟩ : ∃ g, w11.heap.size = g := ⟨_, rfl⟩
  obtain ⟨w13, hz16⟩ : ∃ x, (w11.alloc (.cells (tabv (fun _ => .int .u8 0) 32) 23)).setRow w11.heap.size (tabv (bv Y) 32) = x := ⟨_, rfl⟩
  have hbx : Below w11.heap.size w11 w13 := by rw [← hz16]; exact below_setRow ((Below.refl _ _).alloc (Nat.le_refl _) _) (Nat.le_refl _) _
  have q0 := q0.below hbx q0.lt
  have q1 := q1.below hbx q1.lt
  have hGl := hGl.up hbx
  have kb := kb.trans (hbx.mono kb.size)
  have q2 : Has w13 b14 23 (bv Y) 32 := by rw [zero32] at hz16; rw [← hz16, ← hb14]; exact hn15.row _ _ rfl
  rw [zero32] at hz16
  have Hhn15 := hide hn15
  have Hhz16 := hide hz16
  have Hhb14 := hide hb14
  clear hn15 hz16 hb14 hbx
  have Hq0 := hide q0
  go_wp2_with (first | (refine wpList_store_part rfl 23 _ _ rfl rfl w11.heap.size 0 (bv Y) 32 rfl rfl 23 _ 32 Hhn15.out (by omega) info26 (fun _ _ => rfl) (bv Y) (fun i hi => by unfold splice; first | (rw [if_pos (by omega), Nat.sub_zero]) | (rw [if_pos (by omega)]; rfl)) ?_; rw [Hhz16.out]) | refine wpList_load_part rfl 23 _ rfl b0 0 rfl 23 _ 32 32 _ Hq0.out (by omega) Tryd.underlying23 rfl info26 (bv s) (fun i hi => by rw [Nat.zero_add]) ?_)
  try rw [Hhb14.out]
  clear Hq0
  refine (S2.out _ hGl).mono ?_
  rintro e w17 ⟨rfl, hb18⟩
  have q0 := q0.below hb18 q0.lt
  have q1 := q1.below hb18 q1.lt
  have q2 := q2.below hb18 q2.lt
  have hGl := hGl.up hb18
  have kb := kb.trans (hb18.mono kb.size)
  clear hb18
  have hn21 := Has.new w17 23 (fun _ => .int .u8 0) 32 _ rfl
  rw [zero32] at hn21
  obtain ⟨b20, hb20⟩ : ∃ g, w17.heap.size = g := ⟨_, rfl⟩
  obtain ⟨w19, hz22⟩ : ∃ x, (w17.alloc (.cells (tabv (fun _ => .int .u8 0) 32) 23)).setRow w17.heap.size (tabv (bv Y) 32) = x := ⟨_, rfl⟩
  have hbx : Below w17.heap.size w17 w19 := by rw [← hz22]; exact below_setRow ((Below.refl _ _).alloc (Nat.le_refl _) _) (Nat.le_refl _) _
  have q0 := q0.below hbx q0.lt
  have q1 := q1.below hbx q1.lt
  have q2 := q2.below hbx q2.lt
  have hGl := hGl.up hbx
  have kb := kb.trans (hbx.mono kb.size)
  have q3 : Has w19 b20 23 (bv Y) 32 := by rw [zero32] at hz22; rw [← hz22, ← hb20]; exact hn21.row _ _ rfl
  rw [zero32] at hz22
  have Hhn21 := hide hn21
  have Hhz22 := hide hz22
  have Hhb20 := hide hb20
  clear hn21 hz22 hb20 hbx
  go_wp2_with (first | (refine wpList_store_part rfl 23 _ _ rfl rfl w17.heap.size 0 (bv Y) 32 rfl rfl 23 _ 32 Hhn21.out (by omega) info26 (fun _ _ => rfl) (bv Y) (fun i hi => by unfold splice; first | (rw [if_pos (by omega), Nat.sub_zero]) | (rw [if_pos (by omega)]; rfl)) ?_; rw [Hhz22.out]))
  try rw [Hhb20.out]
  refine (L1.out _).mono ?_
  rintro e w23 ⟨rfl, hb24⟩
  have q0 := q0.below hb24 q0.lt
  have q1 := q1.below hb24 q1.lt
  have q2 := q2.below hb24 q2.lt
  have q3 := q3.below hb24 q3.lt
  have hGl := hGl.up hb24
  have kb := kb.trans (hb24.mono kb.size)
  clear hb24
  have Hq0 := hide q0
  have Hq1 := hide q1
  have Hq2 := hide q2
  have Hq3 := hide q3
  go_wp2_with (first | refine wpList_load_want (by rfl) 23 _ rfl b8 0 rfl 23 _ 32 32 _ Hq1.out (by omega) Tryd.underlying23 rfl info26 (bv s) (fun i hi => by rw [Nat.zero_add]) ?_ | refine wpList_load_want (by rfl) 23 _ rfl b14 0 rfl 23 _ 32 32 _ Hq2.out (by omega) Tryd.underlying23 rfl info26 (bv Y) (fun i hi => by rw [Nat.zero_add]) ?_ | refine wpList_load_want (by rfl) 23 _ rfl b20 0 rfl 23 _ 32 32 _ Hq3.out (by omega) Tryd.underlying23 rfl info26 (bv Y) (fun i hi => by rw [Nat.zero_add]) ?_ | refine wpList_load_want (by rfl) 23 _ rfl b0 0 rfl 23 _ 32 32 _ Hq0.out (by omega) Tryd.underlying23 rfl info26 (bv s) (fun i hi => by rw [Nat.zero_add]) ?_ | refine wpList_load_part rfl 23 _ rfl b0 0 rfl 23 _ 32 32 _ Hq0.out (by omega) Tryd.underlying23 rfl info26 (bv s) (fun i hi => by rw [Nat.zero_add]) ?_)
  clear Hq0 Hq1 Hq2 Hq3
  refine (S3.out _ hGl).mono ?_
  rintro e w25 ⟨rfl, hb26⟩
  have q0 := q0.below hb26 q0.lt
  have q1 := q1.below hb26 q1.lt
  have q2 := q2.below hb26 q2.lt
  have q3 := q3.below hb26 q3.lt
  have hGl := hGl.up hb26
  have kb := kb.trans (hb26.mono kb.size)
  clear hb26
  have hn29 := Has.new w25 23 (fun _ => .int .u8 0) 32 _ rfl
  rw [zero32] at hn29
  obtain ⟨b28, hb28⟩ : ∃ g, w25.heap.size = g := ⟨_, rfl⟩
  obtain ⟨w27, hz30⟩ : ∃ x, (w25.alloc (.cells (tabv (fun _ => .int .u8 0) 32) 23)).setRow w25.heap.size (tabv (bv (fun _ => (0 : UInt8))) 32) = x := ⟨_, rfl⟩
  have hbx : Below w25.heap.size w25 w27 := by rw [← hz30]; exact below_setRow ((Below.refl _ _).alloc (Nat.le_refl _) _) (Nat.le_refl _) _
  have q0 := q0.below hbx q0.lt
  have q1 := q1.below hbx q1.lt
  have q2 := q2.below hbx q2.lt
  have q3 := q3.below hbx q3.lt
  have hGl := hGl.up hbx
  have kb := kb.trans (hbx.mono kb.size)
  have q4 : Has w27 b28 23 (bv (fun _ => (0 : UInt8))) 32 := by rw [zero32] at hz30; rw [← hz30, ← hb28]; exact hn29.row _ _ rfl
  rw [zero32] at hz30
  have Hhn29 := hide hn29
  have Hhz30 := hide hz30
  have Hhb28 := hide hb28
  clear hn29 hz30 hb28 hbx
  have Hq0 := hide q0
  go_wp2_with (first | (refine wpList_store_part rfl 23 _ _ rfl rfl w25.heap.size 0 (bv (fun _ => (0 : UInt8))) 32 rfl rfl 23 _ 32 Hhn29.out (by omega) info26 (fun _ _ => rfl) (bv (fun _ => (0 : UInt8))) (fun i hi => by unfold splice; first | (rw [if_pos (by omega), Nat.sub_zero]) | (rw [if_pos (by omega)]; rfl)) ?_; rw [Hhz30.out]) | refine wpList_load_part rfl 23 _ rfl b0 0 rfl 23 _ 32 32 _ Hq0.out (by omega) Tryd.underlying23 rfl info26 (bv s) (fun i hi => by rw [Nat.zero_add]) ?_)
  try rw [Hhb28.out]
  clear Hq0
  refine (D2.out _ hGl).mono ?_
  rintro e w31 ⟨rfl, hb32⟩
  have q0 := q0.below hb32 q0.lt
  have q1 := q1.below hb32 q1.lt
  have q2 := q2.below hb32 q2.lt
  have q3 := q3.below hb32 q3.lt
  have q4 := q4.below hb32 q4.lt
  have hGl := hGl.up hb32
  have kb := kb.trans (hb32.mono kb.size)
  clear hb32
  have hn35 := Has.new w31 23 (fun _ => .int .u8 0) 32 _ rfl
  rw [zero32] at hn35
  obtain ⟨b34, hb34⟩ : ∃ g, w31.heap.size = g := ⟨_, rfl⟩
  obtain ⟨w33, hz36⟩ : ∃ x, (w31.alloc (.cells (tabv (fun _ => .int .u8 0) 32) 23)).setRow w31.heap.size (tabv (bv (fun _ => (0 : UInt8))) 32) = x := ⟨_, rfl⟩
  have hbx : Below w31.heap.size w31 w33 := by rw [← hz36]; exact below_setRow ((Below.refl _ _).alloc (Nat.le_refl _) _) (Nat.le_refl _) _
  have q0 := q0.below hbx q0.lt
  have q1 := q1.below hbx q1.lt
  have q2 := q2.below hbx q2.lt
  have q3 := q3.below hbx q3.lt
  have q4 := q4.below hbx q4.lt
  have hGl := hGl.up hbx
  have kb := kb.trans (hbx.mono kb.size)
  have q5 : Has w33 b34 23 (bv (fun _ => (0 : UInt8))) 32 := by rw [zero32] at hz36; rw [← hz36, ← hb34]; exact hn35.row _ _ rfl
  rw [zero32] at hz36
  have Hhn35 := hide hn35
  have Hhz36 := hide hz36
  have Hhb34 := hide hb34
  clear hn35 hz36 hb34 hbx
  have Hq0 := hide q0
  go_wp2_with (first | (refine wpList_store_part rfl 23 _ _ rfl rfl w31.heap.size 0 (bv (fun _ => (0 : UInt8))) 32 rfl rfl 23 _ 32 Hhn35.out (by omega) info26 (fun _ _ => rfl) (bv (fun _ => (0 : UInt8))) (fun i hi => by unfold splice; first | (rw [if_pos (by omega), Nat.sub_zero]) | (rw [if_pos (by omega)]; rfl)) ?_; rw [Hhz36.out]) | refine wpList_load_part rfl 23 _ rfl b0 0 rfl 23 _ 32 32 _ Hq0.out (by omega) Tryd.underlying23 rfl info26 (bv s) (fun i hi => by rw [Nat.zero_add]) ?_)
  try rw [Hhb34.out]
  clear Hq0
  refine (D3.out _ hGl).mono ?_
  rintro e w37 ⟨rfl, hb38⟩
  have q0 := q0.below hb38 q0.lt
  have q1 := q1.below hb38 q1.lt
  have q2 := q2.below hb38 q2.lt
  have q3 := q3.below hb38 q3.lt
  have q4 := q4.below hb38 q4.lt
  have q5 := q5.below hb38 q5.lt
  have hGl := hGl.up hb38
  have kb := kb.trans (hb38.mono kb.size)
  clear hb38
  have hn41 := Has.new w37 23 (fun _ => .int .u8 0) 32 _ rfl
  rw [zero32] at hn41
  obtain ⟨b40, hb40⟩ : ∃ g, w37.heap.size = g := ⟨_, rfl⟩
  obtain ⟨w39, hz42⟩ : ∃ x, (w37.alloc (.cells (tabv (fun _ => .int .u8 0) 32) 23)).setRow w37.heap.size (tabv (bv (fun _ => (0 : UInt8))) 32) = x := ⟨_, rfl⟩
  have hbx : Below w37.heap.size w37 w39 := by rw [← hz42]; exact below_setRow ((Below.refl _ _).alloc (Nat.le_refl _) _) (Nat.le_refl _) _
  have q0 := q0.below hbx q0.lt
  have q1 := q1.below hbx q1.lt
  have q2 := q2.below hbx q2.lt
  have q3 := q3.below hbx q3.lt
  have q4 := q4.below hbx q4.lt
  have q5 := q5.below hbx q5.lt
  have hGl := hGl.up hbx
  have kb := kb.trans (hbx.mono kb.size)
  have q6 : Has w39 b40 23 (bv (fun _ => (0 : UInt8))) 32 := by rw [zero32] at hz42; rw [← hz42, ← hb40]; exact hn41.row _ _ rfl
  rw [zero32] at hz42
  have Hhn41 := hide hn41
  have Hhz42 := hide hz42
  have Hhb40 := hide hb40
  clear hn41 hz42 hb40 hbx
  go_wp2_with (first | (refine wpList_store_part rfl 23 _ _ rfl rfl w37.heap.size 0 (bv (fun _ => (0 : UInt8))) 32 rfl rfl 23 _ 32 Hhn41.out (by omega) info26 (fun _ _ => rfl) (bv (fun _ => (0 : UInt8))) (fun i hi => by unfold splice; first | (rw [if_pos (by omega), Nat.sub_zero]) | (rw [if_pos (by omega)]; rfl)) ?_; rw [Hhz42.out]))
  try rw [Hhb40.out]
  refine (L2.out _).mono ?_
  rintro e w43 ⟨rfl, hb44⟩
  have q0 := q0.below hb44 q0.lt
  have q1 := q1.below hb44 q1.lt
  have q2 := q2.below hb44 q2.lt
  have q3 := q3.below hb44 q3.lt
  have q4 := q4.below hb44 q4.lt
  have q5 := q5.below hb44 q5.lt
  have q6 := q6.below hb44 q6.lt
  have hGl := hGl.up hb44
  have kb := kb.trans (hb44.mono kb.size)
  clear hb44
  have hn47 := Has.new w43 23 (fun _ => .int .u8 0) 32 _ rfl
  rw [zero32] at hn47
  obtain ⟨b46, hb46⟩ : ∃ g, w43.heap.size = g := ⟨_, rfl⟩
  obtain ⟨w45, hz48⟩ : ∃ x, (w43.alloc (.cells (tabv (fun _ => .int .u8 0) 32) 23)).setRow w43.heap.size (tabv (bv (fun _ => (0 : UInt8))) 32) = x := ⟨_, rfl⟩
  have hbx : Below w43.heap.size w43 w45 := by rw [← hz48]; exact below_setRow ((Below.refl _ _).alloc (Nat.le_refl _) _) (Nat.le_refl _) _
  have q0 := q0.below hbx q0.lt
  have q1 := q1.below hbx q1.lt
  have q2 := q2.below hbx q2.lt
  have q3 := q3.below hbx q3.lt
  have q4 := q4.below hbx q4.lt
  have q5 := q5.below hbx q5.lt
  have q6 := q6.below hbx q6.lt
  have hGl := hGl.up hbx
  have kb := kb.trans (hbx.mono kb.size)
  have q7 : Has w45 b46 23 (bv (fun _ => (0 : UInt8))) 32 := by rw [zero32] at hz48; rw [← hz48, ← hb46]; exact hn47.row _ _ rfl
  rw [zero32] at hz48
  have Hhn47 := hide hn47
  have Hhz48 := hide hz48
  have Hhb46 := hide hb46
  clear hn47 hz48 hb46 hbx
  have Hq4 := hide q4
  have Hq5 := hide q5
  have Hq6 := hide q6
  have Hq7 := hide q7
  go_wp2_with (first | (refine wpList_store_part rfl 23 _ _ rfl rfl w43.heap.size 0 (bv (fun _ => (0 : UInt8))) 32 rfl rfl 23 _ 32 Hhn47.out (by omega) info26 (fun _ _ => rfl) (bv (fun _ => (0 : UInt8))) (fun i hi => by unfold splice; first | (rw [if_pos (by omega), Nat.sub_zero]) | (rw [if_pos (by omega)]; rfl)) ?_; rw [Hhz48.out]) | refine wpList_load_want (by rfl) 23 _ rfl b28 0 rfl 23 _ 32 32 _ Hq4.out (by omega) Tryd.underlying23 rfl info26 (bv (fun _ => (0 : UInt8))) (fun i hi => by rw [Nat.zero_add]) ?_ | refine wpList_load_want (by rfl) 23 _ rfl b34 0 rfl 23 _ 32 32 _ Hq5.out (by omega) Tryd.underlying23 rfl info26 (bv (fun _ => (0 : UInt8))) (fun i hi => by rw [Nat.zero_add]) ?_ | refine wpList_load_want (by rfl) 23 _ rfl b40 0 rfl 23 _ 32 32 _ Hq6.out (by omega) Tryd.underlying23 rfl info26 (bv (fun _ => (0 : UInt8))) (fun i hi => by rw [Nat.zero_add]) ?_ | (rw [Hhb46.out]; refine wpList_load_want (by rfl) 23 _ rfl b46 0 rfl 23 _ 32 32 _ Hq7.out (by omega) Tryd.underlying23 rfl info26 (bv (fun _ => (0 : UInt8))) (fun i hi => by rw [Nat.zero_add]) ?_) | refine wpList_load_want (by rfl) 23 _ rfl b46 0 rfl 23 _ 32 32 _ Hq7.out (by omega) Tryd.underlying23 rfl info26 (bv (fun _ => (0 : UInt8))) (fun i hi => by rw [Nat.zero_add]) ?_)
  go_ret
  exact ⟨by simp, kb⟩
theorem edges_walk {n : Num} (ok : SeedOk n) (s : Nat → UInt8) (x out : Int) (hr : -9223372036854775808 ≤ out ∧ out ≤ 9223372036854775807) (w : World) (hG : Glob n w) : Calls Tryd.prog 4 #[.agg (tabv (bv s) 32), .int .i64 x, .int .i64 out] w fun e w' => e = .returned (.bool true) ∧ Below w.heap.size w w' := by
  by_cases h : 0 ≤ out ∧ out ≤ 281474976710655
  · exact edges_1 ok s x out (-1 - out) hr (by simpa using h.1) (by simpa using h.2) rfl (by omega) w hG
  · exact edges_0 ok s x out out hr (by
      rw [Bool.eq_false_iff]
      intro hc
      rw [Bool.and_eq_true, decide_eq_true_iff, decide_eq_true_iff] at hc
      exact h hc) rfl h w hG
end Go.Proofs.YtfbhalonkcljgaaDoor
