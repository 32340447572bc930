/-
  head: the examples that every statement asks first.
-/
import Derived.Test.YtfbhalonkcljgaaDoorSHang
namespace Go.Proofs.YtfbhalonkcljgaaDoor
open Go.RowKit S
set_option linter.unusedVariables false
theorem at_of {h : Nat → UInt8} {l : List UInt8} (e : listOf h = l) (i : Nat) (hi : i < 32) (v : Nat) (hv : (l.getD i 0).toNat = v) : ((h i).toNat : Int) = (v : Int) := by
  rw [← listOf_getD h i hi, e, hv]
theorem sec_one : secretA (fun _ => (0 : UInt8)) 0 = (secretOf step (fun _ => (0 : UInt8)) 0, 0) := by
  unfold secretA; rw [if_pos (by decide +kernel)]; rfl
theorem sec_two : secretA (fun _ => (1 : UInt8)) 281474976710654 = (secretOf step (fun _ => (1 : UInt8)) 281474976710654, 0) := by
  unfold secretA; rw [if_pos (by decide +kernel)]; rfl
theorem lev_three : levelA 3 = (2, 0) := by decide +kernel
theorem der_four (h : Nat → UInt8) : deriveA h 3 4 = (fun _ => 0, 5) := by
  unfold deriveA; rw [if_pos (by decide +kernel), if_neg (by decide +kernel)]
set_option maxRecDepth 100000 in
set_option maxHeartbeats 4000000 in
theorem head_any {n : Num} (ok : SeedOk n) (w : World) (hG : Glob n w) : Calls Tryd.prog 8 #[] w fun e w' => e = .returned (.bool true) ∧ Below w.heap.size w w' := by
  have S1 := ok.secret (fun _ => (0 : UInt8)) 0
  rw [sec_one] at S1
  have S2 := ok.secret (fun _ => (1 : UInt8)) 281474976710654
  rw [sec_two] at S2
  have S3 := ok.level 3
  rw [lev_three] at S3
  have S5 := ok.point (fun _ => (0 : UInt8))
  obtain ⟨A, hA⟩ : ∃ A, secretOf step (fun _ => (0 : UInt8)) 0 = A := ⟨_, rfl⟩
  obtain ⟨D, hD⟩ : ∃ D, secretOf step (fun _ => (1 : UInt8)) 281474976710654 = D := ⟨_, rfl⟩
  obtain ⟨P, hP⟩ : ∃ P, sha (listOf (fun _ => (0 : UInt8))) = P := ⟨_, rfl⟩
  have S4 := ok.derive A 3 4
  rw [der_four] at S4
  rw [hA] at S1
  rw [hD] at S2
  rw [hP] at S5
  have eA := head_one
  rw [hA] at eA
  have eD := head_two
  rw [hD] at eD
  have eP := head_point
  rw [hP] at eP
  have B1 := fun w => begins_any A 2 164 12 133 w (at_of eA 0 (by omega) 2 rfl) (at_of eA 1 (by omega) 164 rfl) (at_of eA 2 (by omega) 12 rfl) (at_of eA 3 (by omega) 133 rfl)
  have B2 := fun w => begins_any D 145 92 117 148 w (at_of eD 0 (by omega) 145 rfl) (at_of eD 1 (by omega) 92 rfl) (at_of eD 2 (by omega) 117 rfl) (at_of eD 3 (by omega) 148 rfl)
  have B3 := fun w => begins_any P 102 104 122 173 w (at_of eP 0 (by omega) 102 rfl) (at_of eP 1 (by omega) 104 rfl) (at_of eP 2 (by omega) 122 rfl) (at_of eP 3 (by omega) 173 rfl)
  have S1 := hide S1
  have S2 := hide S2
  have S3 := hide S3
  have S4 := hide S4
  have S5 := hide S5
  have B1 := hide B1
  have B2 := hide B2
  have B3 := hide B3
  clear hA hD hP eA eD eP
  go_enter Tryd.func8, Tryd.ntmps8
  go_wp2_with fail
  refine (full_any 0 0 rfl _).mono ?_
  rintro e w1 ⟨rfl, hb1⟩
  have hG1 := hG.up hb1
  go_wp2_with fail
  refine (S1.out _ hG1).mono ?_
  rintro e w2 ⟨rfl, hb2⟩
  have hG2 := hG1.up hb2
  have kb2 := hb1.trans (hb2.mono hb1.size)
  clear hG1 hb1 hb2 hG
  have hn := Has.new w2 23 (fun _ => .int .u8 0) 32 _ rfl
  rw [zero32] at hn
  obtain ⟨p1, hp1⟩ : ∃ g, w2.heap.size = g := ⟨_, rfl⟩
  obtain ⟨w3, hw3⟩ : ∃ x, (w2.alloc (.cells (tabv (fun _ => .int .u8 0) 32) 23)).setRow w2.heap.size (tabv (bv A) 32) = x := ⟨_, rfl⟩
  rw [zero32] at hw3
  have kp1 : Has w3 p1 23 (bv A) 32 := by rw [← hw3, ← hp1]; exact hn.row _ _ rfl
  have kb3 : Below w.heap.size w w3 := by rw [← hw3]; exact below_setRow (kb2.alloc kb2.size _) kb2.size _
  have hG3 : Glob n w3 := hG2.up (by rw [← hw3]; exact below_setRow ((Below.refl _ _).alloc (Nat.le_refl _) _) (Nat.le_refl _) _)
  have HN := hide hn
  have HW3 := hide hw3
  have HP1 := hide hp1
  clear hn hw3 hp1 hG2
  go_wp2_with (refine wpList_store_part rfl 23 _ _ rfl rfl w2.heap.size 0 (bv A) 32 rfl rfl 23 _ 32 HN.out (by omega) info26 (fun _ _ => rfl) (bv A) (fun i hi => by unfold splice; rw [if_pos (by omega), Nat.sub_zero]) ?_; rw [HW3.out])
  rw [HP1.out]
  refine (full_any 1 1 rfl _).mono ?_
  rintro e w4 ⟨rfl, hb4⟩
  have hG4 := hG3.up hb4
  go_wp2_with fail
  refine (S2.out _ hG4).mono ?_
  rintro e w5 ⟨rfl, hb5⟩
  have hG5 := hG4.up hb5
  have hb45 := hb4.trans (hb5.mono hb4.size)
  have k5 := kp1.below hb45 kp1.lt
  have kb5 := kb3.trans (hb45.mono kb3.size)
  clear hG3 hG4 hb4 hb5 hb45 kp1 kb3 kb2 HN HW3 HP1
  have hn := Has.new w5 23 (fun _ => .int .u8 0) 32 _ rfl
  rw [zero32] at hn
  obtain ⟨p2, hp2⟩ : ∃ g, w5.heap.size = g := ⟨_, rfl⟩
  obtain ⟨w6, hw6⟩ : ∃ x, (w5.alloc (.cells (tabv (fun _ => .int .u8 0) 32) 23)).setRow w5.heap.size (tabv (bv D) 32) = x := ⟨_, rfl⟩
  rw [zero32] at hw6
  have kp2 : Has w6 p2 23 (bv D) 32 := by rw [← hw6, ← hp2]; exact hn.row _ _ rfl
  have kb6 : Below w.heap.size w w6 := by rw [← hw6]; exact below_setRow (kb5.alloc kb5.size _) kb5.size _
  have hb6 : Below w5.heap.size w5 w6 := by rw [← hw6]; exact below_setRow ((Below.refl _ _).alloc (Nat.le_refl _) _) (Nat.le_refl _) _
  have hG6 : Glob n w6 := hG5.up hb6
  have k6 := k5.below hb6 k5.lt
  have HN := hide hn
  have HW6 := hide hw6
  have HP2 := hide hp2
  clear hn hw6 hp2 hG5 k5 hb6 kb5
  go_wp2_with (refine wpList_store_part rfl 23 _ _ rfl rfl w5.heap.size 0 (bv D) 32 rfl rfl 23 _ 32 HN.out (by omega) info26 (fun _ _ => rfl) (bv D) (fun i hi => by unfold splice; rw [if_pos (by omega), Nat.sub_zero]) ?_; rw [HW6.out])
  rw [HP2.out]
  refine (S3.out _).mono ?_
  rintro e w7 ⟨rfl, hb7⟩
  have hG7 := hG6.up hb7
  have k7 := k6.below hb7 k6.lt
  have l7 := kp2.below hb7 kp2.lt
  have kb7 := kb6.trans (hb7.mono kb6.size)
  clear hG6 k6 kp2 kb6 hb7 HN HW6 HP2
  have HK7 := hide k7
  go_wp2_with (refine wpList_load_part rfl 23 _ rfl p1 0 rfl 23 _ 32 32 _ HK7.out (by omega) Tryd.underlying23 rfl info26 (bv A) (fun i hi => by rw [Nat.zero_add]) ?_)
  refine (S4.out _ hG7).mono ?_
  rintro e w8 ⟨rfl, hb8⟩
  have hG8 := hG7.up hb8
  have k8 := k7.below hb8 k7.lt
  have l8 := l7.below hb8 l7.lt
  have kb8 := kb7.trans (hb8.mono kb7.size)
  clear hG7 k7 l7 kb7 hb8 HK7
  have hn := Has.new w8 23 (fun _ => .int .u8 0) 32 _ rfl
  rw [zero32] at hn
  obtain ⟨p3, hp3⟩ : ∃ g, w8.heap.size = g := ⟨_, rfl⟩
  obtain ⟨w9, hw9⟩ : ∃ x, (w8.alloc (.cells (tabv (fun _ => .int .u8 0) 32) 23)).setRow w8.heap.size (tabv (bv (fun _ => (0 : UInt8))) 32) = x := ⟨_, rfl⟩
  rw [zero32] at hw9
  have kp3 : Has w9 p3 23 (bv (fun _ => (0 : UInt8))) 32 := by rw [← hw9, ← hp3]; exact hn.row _ _ rfl
  have kb9 : Below w.heap.size w w9 := by rw [← hw9]; exact below_setRow (kb8.alloc kb8.size _) kb8.size _
  have hb9 : Below w8.heap.size w8 w9 := by rw [← hw9]; exact below_setRow ((Below.refl _ _).alloc (Nat.le_refl _) _) (Nat.le_refl _) _
  have hG9 : Glob n w9 := hG8.up hb9
  have k9 := k8.below hb9 k8.lt
  have l9 := l8.below hb9 l8.lt
  have HN := hide hn
  have HW9 := hide hw9
  have HK9 := hide k9
  clear hn hw9 hp3 hG8 k8 l8 hb9 kb8 kp3
  go_wp2_with (first | (refine wpList_store_part rfl 23 _ _ rfl rfl w8.heap.size 0 (bv (fun _ => (0 : UInt8))) 32 rfl rfl 23 _ 32 HN.out (by omega) info26 (fun _ _ => rfl) (bv (fun _ => (0 : UInt8))) (fun i hi => by unfold splice; rw [if_pos (by omega)]; rfl) ?_; rw [HW9.out]) | refine wpList_load_want (by rfl) 23 _ rfl p1 0 rfl 23 _ 32 32 _ HK9.out (by omega) Tryd.underlying23 rfl info26 (bv A) (fun i hi => by rw [Nat.zero_add]) ?_)
  refine (B1.out _).mono ?_
  rintro e w10 ⟨rfl, hb10⟩
  have hG10 := hG9.up hb10
  have l10 := l9.below hb10 l9.lt
  have kb10 := kb9.trans (hb10.mono kb9.size)
  have HL10 := hide l10
  clear hG9 k9 l9 kb9 hb10 HN HW9 HK9
  go_wp2_with (refine wpList_load_want (by rfl) 23 _ rfl p2 0 rfl 23 _ 32 32 _ HL10.out (by omega) Tryd.underlying23 rfl info26 (bv D) (fun i hi => by rw [Nat.zero_add]) ?_)
  refine (B2.out _).mono ?_
  rintro e w11 ⟨rfl, hb11⟩
  have hG11 := hG10.up hb11
  have kb11 := kb10.trans (hb11.mono kb10.size)
  clear hG10 l10 kb10 hb11 HL10
  go_wp2_with fail
  refine (full_any 0 0 rfl _).mono ?_
  rintro e w12 ⟨rfl, hb12⟩
  have hG12 := hG11.up hb12
  go_wp2_with fail
  refine (S5.out _ hG12).mono ?_
  rintro e w13 ⟨rfl, hb13⟩
  go_wp2_with fail
  refine (B3.out _).mono ?_
  rintro e w14 ⟨rfl, hb14⟩
  have kb12 := kb11.trans (hb12.mono kb11.size)
  have kb13 := kb12.trans (hb13.mono kb12.size)
  have kb14 := kb13.trans (hb14.mono kb13.size)
  clear hG11 hG12 hb12 hb13 hb14 kb11 kb12 kb13
  go_wp2
  go_ret
  exact ⟨by simp, kb14⟩
end Go.Proofs.YtfbhalonkcljgaaDoor
