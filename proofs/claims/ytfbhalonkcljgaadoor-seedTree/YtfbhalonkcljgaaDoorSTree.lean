/-
  The walk of SeedTree (printed by gen_tree.py).
-/
import Derived.Test.YtfbhalonkcljgaaDoorSNear
namespace Go.Proofs.YtfbhalonkcljgaaDoor
open Go.RowKit S
set_option linter.unusedVariables false
theorem near_yes {a c : Nat} (ha : a ≤ 281474976710655) (hc : c ≤ 281474976710655) (h : Hangs (place a) (place c)) : nearB a c = true := by
  have := (hangs_near ha hc).1 h
  unfold nearB; simp [this.1, this.2]
theorem near_no {a c : Nat} (ha : a ≤ 281474976710655) (hc : c ≤ 281474976710655) (h : ¬ Hangs (place a) (place c)) : nearB a c = false := by
  rw [Bool.eq_false_iff]
  intro hn
  unfold nearB at hn
  rw [Bool.and_eq_true, decide_eq_true_iff, decide_eq_true_iff] at hn
  exact h ((hangs_near ha hc).2 hn)
def ov (b o1 o2 o3 : Nat) : Nat → Value := fun i => match i with | 0 => .int .i64 (b : Int) | 1 => .int .i64 (o1 : Int) | 2 => .int .i64 (o2 : Int) | _ => .int .i64 (o3 : Int)
set_option maxRecDepth 100000 in
set_option maxHeartbeats 8000000 in
theorem tree_walk {n : Num} (ok : SeedOk n) (s : Nat → UInt8) (x back : Int) (w : World) (hG : Glob n w) : Calls Tryd.prog 5 #[.agg (tabv (bv s) 32), .int .i64 x, .int .i64 back] w fun e w' => e = .returned (.bool true) ∧ Below w.heap.size w w' := by
  obtain ⟨w0, hW0⟩ : ∃ x, w.alloc (.cells (tabv (bv s) 32) 23) = x := ⟨_, rfl⟩
  have q0 : Has w0 w.heap.size 23 (bv s) 32 := by rw [← hW0]; exact Has.new w 23 (bv s) 32 _ rfl
  have kb : Below w.heap.size w w0 := by rw [← hW0]; exact (Below.refl w.heap.size w).alloc (Nat.le_refl _) _
  have hGl : Glob n w0 := hG.below kb hG.2.2
  obtain ⟨b0, hb0⟩ : ∃ x, w.heap.size = x := ⟨_, rfl⟩
  rw [hb0] at q0
  obtain ⟨a, hla, han⟩ : ∃ a : Nat, a ≤ 281474976710655 ∧ numA x = a := ⟨numA x, (num_is x).2, rfl⟩
  have HNUM := hide (number_any x)
  rw [han] at HNUM
  obtain ⟨k, hk⟩ : ∃ k, lvl (place a) 48 = k := ⟨_, rfl⟩
  have hk48 : k ≤ 48 := by rw [← hk]; exact lvl_le 48 _
  have HL1 := ok.level (a : Int)
  rw [level_nat hla, hk] at HL1
  have HL1 := hide HL1
  obtain ⟨M, hM⟩ : ∃ M : Int, (2 : Int) ^ k = M := ⟨_, rfl⟩
  have hMr := pow_range hk48
  have hpw : wrap64 ((2 : Int) ^ k) = M := (pow_wrap hk48).trans hM
  rw [hM] at hMr
  obtain ⟨hMa, hMb⟩ := hMr
  obtain ⟨m, b, hand, hsub, hba, hma, hang1, hlv1⟩ := near_of a hla back M (by rw [hk]; exact hM)
  have HNB := hide (hangs_any a b hla (by omega))
  rw [show nearB a b = true from near_yes hla (by omega) hang1] at HNB
  obtain ⟨o1, hl1, ho1⟩ : ∃ o : Nat, o ≤ 281474976710655 ∧ numA back = o := ⟨_, (num_is back).2, rfl⟩
  have HN1 := hide (number_any back)
  rw [ho1] at HN1
  have HN2 := hide (fun y => number_any y)
  obtain ⟨X, hX⟩ : ∃ X, secretOf step s a = X := ⟨_, rfl⟩
  have S1 := ok.secret s (a : Int)
  rw [secret_nat hla, hX] at S1
  have S1 := hide S1
  have HS := hide (fun (c : Nat) (hc : c ≤ 281474976710655) => by
    have h := ok.secret s (c : Int)
    rw [secret_nat hc] at h
    exact h)
  have HD := hide (fun (c : Nat) (hc : c ≤ 281474976710655) (hh : Hangs (place a) (place c)) => by
    have h := ok.derive X (a : Int) (c : Int)
    rw [derive_yes hla hc hh, ← hX, one_tree step s a c hh, hX] at h
    exact h)
  have HDN := hide (fun (c : Nat) (hc : c ≤ 281474976710655) (hh : ¬ Hangs (place a) (place c)) => by
    have h := ok.derive X (a : Int) (c : Int)
    rw [derive_none hla hc hh] at h
    exact h)
  have d1 : decide ((k : Int) < 0) = false := by simp
  have d2 : decide ((48 : Int) < (k : Int)) = false := by simp; omega
  have d3 : decide ((b : Int) < 0) = false := by simp
  have hgt := guard26
  clear hang1 hlv1 hk hM han ho1 hX
  go_enter Tryd.func5, Tryd.ntmps5
  go_wp2_with fail
  refine (head_any ok _ hGl).mono ?_
  rintro e w1 ⟨rfl, hb2⟩
  have q0 := q0.below hb2 q0.lt
  have hGl := hGl.up hb2
  have kb := kb.trans (hb2.mono kb.size)
  clear hb2
  clear hW0
  go_wp2_with fail
  refine (HNUM.out _).mono ?_
  rintro e w3 ⟨rfl, hw4⟩
  obtain rfl := hw4.symm
  go_wp2_with fail
  refine (HL1.out _).mono ?_
  rintro e w5 ⟨rfl, hb6⟩
  have q0 := q0.below hb6 q0.lt
  have hGl := hGl.up hb6
  have kb := kb.trans (hb6.mono kb.size)
  clear hb6
  go_wp2_with fail
  refine (HN1.out _).mono ?_
  rintro e w7 ⟨rfl, hw8⟩
  obtain rfl := hw8.symm
  go_wp2_with fail
  refine (HN2.out _ _).mono ?_
  rintro e w9 ⟨rfl, hw10⟩
  obtain rfl := hw10.symm
  obtain ⟨o2, hl2, ho2⟩ : ∃ o : Nat, o ≤ 281474976710655 ∧ numA (wrap64 ((a : Int) - back)) = o := ⟨_, (num_is _).2, rfl⟩
  try rw [ho2]
  go_wp2_with fail
  refine (HN2.out _ _).mono ?_
  rintro e w11 ⟨rfl, hw12⟩
  obtain rfl := hw12.symm
  obtain ⟨o3, hl3, ho3⟩ : ∃ o : Nat, o ≤ 281474976710655 ∧ numA ((a : Int) + 1) = o := ⟨_, (num_is _).2, rfl⟩
  try rw [ho3]
  clear ho2 ho3
  try rw [hb0]
  obtain ⟨w60, hw60⟩ : ∃ x, w5.alloc (.cells #[.int .i64 (b : Int), .int .i64 (o1 : Int), .int .i64 (o2 : Int), .int .i64 (o3 : Int)] 35) = x := ⟨_, rfl⟩
  obtain ⟨b11, hb11⟩ : ∃ x, w5.heap.size = x := ⟨_, rfl⟩
  have hbx : Below w5.heap.size w5 w60 := by rw [← hw60]; exact (Below.refl _ _).alloc (Nat.le_refl _) _
  have q0 := q0.below hbx q0.lt
  have hGl := hGl.up hbx
  have kb := kb.trans (hbx.mono kb.size)
  have qo : Has w60 b11 35 (ov b o1 o2 o3) 4 := by rw [← hw60, ← hb11]; exact Has.new w5 35 (ov b o1 o2 o3) 4 _ rfl
  have HW60 := hide hw60
  have HB11 := hide hb11
  clear hbx hw60 hb11
  have Hq0 := hide q0
  go_wp2_with (first | (rw [HW60.out]; refine wpList_load_part rfl 23 _ rfl b0 0 rfl 23 _ 32 32 _ Hq0.out (by omega) Tryd.underlying23 rfl info26 (bv s) (fun i hi => by rw [Nat.zero_add]) ?_) | refine wpList_load_part rfl 23 _ rfl b0 0 rfl 23 _ 32 32 _ Hq0.out (by omega) Tryd.underlying23 rfl info26 (bv s) (fun i hi => by rw [Nat.zero_add]) ?_)
  try rw [HB11.out]
  clear Hq0
  refine (S1.out _ hGl).mono ?_
  rintro e w13 ⟨rfl, hb14⟩
  have q0 := q0.below hb14 q0.lt
  have qo := qo.below hb14 qo.lt
  have hGl := hGl.up hb14
  have kb := kb.trans (hb14.mono kb.size)
  clear hb14
  have hn17 := Has.new w13 23 (fun _ => .int .u8 0) 32 _ rfl
  rw [zero32] at hn17
  obtain ⟨b16, hb16⟩ : ∃ g, w13.heap.size = g := ⟨_, rfl⟩
  obtain ⟨w15, hz18⟩ : ∃ x, (w13.alloc (.cells (tabv (fun _ => .int .u8 0) 32) 23)).setRow w13.heap.size (tabv (bv X) 32) = x := ⟨_, rfl⟩
  have hbx : Below w13.heap.size w13 w15 := by rw [← hz18]; exact below_setRow ((Below.refl _ _).alloc (Nat.le_refl _) _) (Nat.le_refl _) _
  have q0 := q0.below hbx q0.lt
  have qo := qo.below hbx qo.lt
  have hGl := hGl.up hbx
  have kb := kb.trans (hbx.mono kb.size)
  have q1 : Has w15 b16 23 (bv X) 32 := by rw [zero32] at hz18; rw [← hz18, ← hb16]; exact hn17.row _ _ rfl
  rw [zero32] at hz18
  have Hhn17 := hide hn17
  have Hhz18 := hide hz18
  have Hhb16 := hide hb16
  clear hn17 hz18 hb16 hbx
  go_wp2_with (first | (refine wpList_store_part rfl 23 _ _ rfl rfl w13.heap.size 0 (bv X) 32 rfl rfl 23 _ 32 Hhn17.out (by omega) info26 (fun _ _ => rfl) (bv X) (fun i hi => by unfold splice; first | (rw [if_pos (by omega), Nat.sub_zero]) | (rw [if_pos (by omega)]; rfl)) ?_; rw [Hhz18.out]))
  try rw [Hhb16.out]
  refine (HNB.out _).mono ?_
  rintro e w19 ⟨rfl, hw20⟩
  obtain rfl := hw20.symm
  go_wp2
  go_loopw [14] (fun y wr => ∃ i : Nat, i ≤ 4 ∧ y = .int .i64 (i : Int) ∧ Has wr b0 23 (bv s) 32 ∧ Has wr b16 23 (bv X) 32 ∧ Has wr b11 35 (ov b o1 o2 o3) 4 ∧ Glob n wr ∧ Below w.heap.size w wr) (fun y _ => 4 - (intOf y).toNat)
  case atStart => exact ⟨0, by omega, rfl, q0, q1, qo, hGl, kb⟩
  case round =>
    clear q0 q1 qo hGl kb
    obtain ⟨i, hi, rfl, q0, q1, qo, hGl, kb⟩ := hrel
    by_cases hlt : i < 4
    · have dk : decide ((i : Int) < 4) = true := by simp; omega
      have hi0 : (0 : Int) ≤ (i : Int) := by omega
      have hi1 : (i : Int) < 4 := by omega
      obtain ⟨c, hc, hcv⟩ : ∃ c : Nat, c ≤ 281474976710655 ∧ ov b o1 o2 o3 i = .int .i64 (c : Int) := by
        match i, hlt with
        | 0, _ => exact ⟨b, by omega, rfl⟩
        | 1, _ => exact ⟨o1, hl1, rfl⟩
        | 2, _ => exact ⟨o2, hl2, rfl⟩
        | 3, _ => exact ⟨o3, hl3, rfl⟩
      have HCV := hide hcv
      clear hcv
      have SC := hide (HS.out c hc)
      have DC := HD.out c hc
      obtain ⟨Y, hY⟩ : ∃ Y, secretOf step s c = Y := ⟨_, rfl⟩
      rw [hY] at SC DC
      have DC := hide DC
      clear hY
      have hqy : ∀ w : World, (Op.equalIn 10000 23 (.agg (tabv (bv Y) 32)) (.agg (tabv (bv Y) 32))).run Tryd.prog w = .ok true w := fun w => by rw [eq26, all_same]
      have hqz : ∀ w : World, (Op.equalIn 10000 23 (.agg (tabv (bv (fun _ => (0 : UInt8))) 32)) (.agg (tabv (bv (fun _ => (0 : UInt8))) 32))).run Tryd.prog w = .ok true w := fun w => by rw [eq26, all_same]
      have hqz2 : ∀ w : World, (Op.equalIn 10000 23 (.agg (tabv (bv (fun _ => (0 : UInt8))) 32)) (.agg #[.int .u8 0, .int .u8 0, .int .u8 0, .int .u8 0, .int .u8 0, .int .u8 0, .int .u8 0, .int .u8 0, .int .u8 0, .int .u8 0, .int .u8 0, .int .u8 0, .int .u8 0, .int .u8 0, .int .u8 0, .int .u8 0, .int .u8 0, .int .u8 0, .int .u8 0, .int .u8 0, .int .u8 0, .int .u8 0, .int .u8 0, .int .u8 0, .int .u8 0, .int .u8 0, .int .u8 0, .int .u8 0, .int .u8 0, .int .u8 0, .int .u8 0, .int .u8 0])).run Tryd.prog w = .ok true w := fun w => hqz w
      have hB0 : 2 ≤ w.heap.size := hG.2.2
      have HNEAR := hide (hangs_any a c hla hc)
      by_cases hh : Hangs (place a) (place c)
      · rw [near_yes hla hc hh] at HNEAR
        have DH := hide (DC.out hh)
        clear hh
        go_wp2
        obtain ⟨V1, hV1⟩ : ∃ v, wr.drew = v := ⟨_, rfl⟩
        have q0 := q0.drew
        rw [hV1] at q0
        have q1 := q1.drew
        rw [hV1] at q1
        have qo := qo.drew
        rw [hV1] at qo
        have hGl : Glob n V1 := by rw [← hV1]; exact hGl
        have kb : Below w.heap.size w V1 := by rw [← hV1]; exact ⟨kb.os, kb.tape, kb.output, kb.size, kb.block⟩
        have HV1 := hide hV1
        clear hV1
        refine wp_region_noPanic ?_
        refine wp_region_held_drew (S := fun wx => Has wx b0 23 (bv s) 32 ∧ Has wx b11 35 (ov b o1 o2 o3) 4) (by kernel_rfl) (by rw [HV1.out]; exact ⟨q0, qo⟩) (fun hHeld => ?_)
        rw [HV1.out] at hHeld ⊢
        refine takeH 0 (some 80) (.agg (tabv (bv s) 32)) rfl rfl (by kernel_rfl) (by kernel_rfl) (by kernel_rfl) (fun _ _ _ h => h) (by rfl) (fun wx hw => run_load_part wx 23 _ rfl b0 0 rfl 23 _ 32 32 _ hw.1 (by omega) Tryd.underlying23 rfl info26 (bv s) (fun i hi => by rw [Nat.zero_add])) hHeld ?_
        simp only [Act.put, List.setIfInBounds_toArray, List.set_cons_zero, List.set_cons_succ]
        refine takeH 1 (some 81) (.int .i64 (i : Int)) rfl rfl (by kernel_rfl) (by kernel_rfl) (by kernel_rfl) (fun _ _ _ h => h) (by rfl) (fun w hw => by first | rfl | (go_simp; done) | (go_simp; rfl)) hHeld ?_
        simp only [Act.put, List.setIfInBounds_toArray, List.set_cons_zero, List.set_cons_succ]
        refine takeH 2 (some 82) (.pointer (some ⟨b11, i, none⟩)) rfl rfl (by kernel_rfl) (by kernel_rfl) (by kernel_rfl) (fun _ _ _ h => h) (by rfl) (fun w hw => by first | rfl | (go_simp; done) | (go_simp; rfl) | (go_simp; intro hbad; exfalso; omega)) hHeld ?_
        simp only [Act.put, List.setIfInBounds_toArray, List.set_cons_zero, List.set_cons_succ]
        refine takeH 3 (some 83) (.int .i64 (c : Int)) rfl rfl (by kernel_rfl) (by kernel_rfl) (by kernel_rfl) (fun _ _ _ h => h) (by rfl) (fun w hw => by have hcc := hw.2.cell i hlt; rw [HCV.out] at hcc; first | rfl | (go_simp; done) | (go_simp; rfl)) hHeld ?_
        simp only [Act.put, List.setIfInBounds_toArray, List.set_cons_zero, List.set_cons_succ]
        refine wpAnyH_ready (rs := [4, 8]) (by kernel_rfl) (by simp) (AllReadyH.cons rfl (fun K hK => ?_) (AllReadyH.cons rfl (fun K hK => ?_) AllReadyH.nil))
        · rw [if_pos (by rfl)]
          go_simp
          refine (SC.out _ hGl).mono ?_
          rintro e va1 ⟨rfl, hc1⟩
          try go_wp2_with fail
          refine hK.out _ _ ⟨hHeld.1.below hc1 hHeld.1.lt, hHeld.2.below hc1 hHeld.2.lt⟩ (fun hH => ?_)
          clear hK K hHeld
          have hHeld := hH
          clear hH
          have q0 := q0.below hc1 q0.lt
          have q1 := q1.below hc1 q1.lt
          have qo := qo.below hc1 qo.lt
          have hGl := hGl.up hc1
          have kb := kb.trans (hc1.mono kb.size)
          clear hc1
          refine takeH 5 (some 79) (.tuple #[.agg (tabv (bv Y) 32), .int .i64 0]) rfl rfl (by kernel_rfl) (by kernel_rfl) (by kernel_rfl) (fun _ _ _ h => h) (by rfl) (fun w hw => by first | rfl | (go_simp; done) | (go_simp; rfl)) hHeld ?_
          simp only [Act.put, List.setIfInBounds_toArray, List.set_cons_zero, List.set_cons_succ]
          refine takeH 6 (some 85) (.agg (tabv (bv Y) 32)) rfl rfl (by kernel_rfl) (by kernel_rfl) (by kernel_rfl) (fun _ _ _ h => h) (by rfl) (fun w hw => by first | rfl | (go_simp; done) | (go_simp; rfl)) hHeld ?_
          simp only [Act.put, List.setIfInBounds_toArray, List.set_cons_zero, List.set_cons_succ]
          refine takeH 7 (some 86) (.int .i64 0) rfl rfl (by kernel_rfl) (by kernel_rfl) (by kernel_rfl) (fun _ _ _ h => h) (by rfl) (fun w hw => by first | rfl | (go_simp; done) | (go_simp; rfl)) hHeld ?_
          simp only [Act.put, List.setIfInBounds_toArray, List.set_cons_zero, List.set_cons_succ]
          refine wpAnyH_ready (rs := [8]) (by kernel_rfl) (by simp) (AllReadyH.cons rfl (fun K hK => ?_) AllReadyH.nil)
          rw [if_pos (by rfl)]
          go_simp
          obtain ⟨vb1, hvb1⟩ : ∃ x, va1.alloc (.cells (tabv (fun _ => .int .u8 0) 32) 23) = x := ⟨_, rfl⟩
          obtain ⟨bqy, hbqy⟩ : ∃ x, va1.heap.size = x := ⟨_, rfl⟩
          have hc2 : Below va1.heap.size va1 vb1 := by rw [← hvb1]; exact (Below.refl _ _).alloc (Nat.le_refl _) _
          have qy : Has vb1 bqy 23 (fun _ => .int .u8 0) 32 := by rw [← hvb1, ← hbqy]; exact Has.new va1 23 (fun _ => .int .u8 0) 32 _ rfl
          have ltqyq0 : b0 < bqy := by rw [← hbqy]; exact q0.lt
          have ltqyq1 : b16 < bqy := by rw [← hbqy]; exact q1.lt
          have ltqyqo : b11 < bqy := by rw [← hbqy]; exact qo.lt
          have leqy : w.heap.size ≤ bqy := by rw [← hbqy]; exact kb.size
          rw [zero32] at hvb1
          rw [hvb1, hbqy]
          refine hK.out _ _ ⟨hHeld.1.below hc2 hHeld.1.lt, hHeld.2.below hc2 hHeld.2.lt⟩ (fun hH => ?_)
          clear hK K hHeld
          have hHeld := hH
          clear hH hvb1 hbqy
          have q0 := q0.below hc2 q0.lt
          have q1 := q1.below hc2 q1.lt
          have qo := qo.below hc2 qo.lt
          have hGl := hGl.up hc2
          have kb := kb.trans (hc2.mono kb.size)
          clear hc2
          refine wpAnyH_ready (rs := [9]) (by kernel_rfl) (by simp) (AllReadyH.cons rfl (fun K hK => ?_) AllReadyH.nil)
          rw [if_pos (by rfl)]
          refine wp_store_part 23 _ _ rfl rfl bqy 0 (bv Y) 32 rfl rfl 23 _ 32 qy (by omega) info26 (fun _ _ => rfl) (bv Y) (fun i hi => by unfold splice; first | (rw [if_pos (by omega), Nat.sub_zero]) | (rw [if_pos (by omega)]; rfl)) ?_
          refine hK.out _ _ ⟨hHeld.1.row_other _ _ (by omega), hHeld.2.row_other _ _ (by omega)⟩ (fun hH => ?_)
          clear hK K hHeld
          have hHeld := hH
          clear hH
          have hGl : Glob n (vb1.setRow bqy (tabv (bv Y) 32)) := hGl.below (below_setRow (Below.refl w.heap.size _) leqy _) hB0
          have kb := below_setRow kb leqy (tabv (bv Y) 32)
          have q0 := q0.row_other bqy (tabv (bv Y) 32) (by omega)
          have q1 := q1.row_other bqy (tabv (bv Y) 32) (by omega)
          have qo := qo.row_other bqy (tabv (bv Y) 32) (by omega)
          have qy := qy.row (tabv (bv Y) 32) (bv Y) rfl
          refine takeH 10 (some 16) (.int .i64 0) rfl rfl (by kernel_rfl) (by kernel_rfl) (by kernel_rfl) (fun _ _ _ h => h) (by rfl) (fun w hw => by first | rfl | (go_simp; done) | (go_simp; rfl)) hHeld ?_
          simp only [Act.put, List.setIfInBounds_toArray, List.set_cons_zero, List.set_cons_succ]
          refine ⟨by kernel_rfl, ?_⟩
          refine NoPanic.normal ?_
          obtain ⟨vc1, hvc1⟩ : ∃ x, vb1.setRow bqy (tabv (bv Y) 32) = x := ⟨_, rfl⟩
          rw [hvc1] at q0
          rw [hvc1] at q1
          rw [hvc1] at qo
          rw [hvc1] at qy
          rw [hvc1] at hGl
          rw [hvc1] at kb
          rw [hvc1]
          clear hHeld hvc1
          go_wp2
          obtain ⟨V2, hV2⟩ : ∃ v, vc1.drew = v := ⟨_, rfl⟩
          have q0 := q0.drew
          rw [hV2] at q0
          have q1 := q1.drew
          rw [hV2] at q1
          have qo := qo.drew
          rw [hV2] at qo
          have qy := qy.drew
          rw [hV2] at qy
          have hGl : Glob n V2 := by rw [← hV2]; exact hGl
          have kb : Below w.heap.size w V2 := by rw [← hV2]; exact ⟨kb.os, kb.tape, kb.output, kb.size, kb.block⟩
          have HV2 := hide hV2
          clear hV2
          refine wp_region_noPanic ?_
          refine wp_region_held_drew (S := fun wx => Has wx b16 23 (bv X) 32 ∧ Has wx b11 35 (ov b o1 o2 o3) 4) (by kernel_rfl) (by rw [HV2.out]; exact ⟨q1, qo⟩) (fun hHeld => ?_)
          rw [HV2.out] at hHeld ⊢
          refine takeH 0 (some 88) (.agg (tabv (bv X) 32)) rfl rfl (by kernel_rfl) (by kernel_rfl) (by kernel_rfl) (fun _ _ _ h => h) (by rfl) (fun wx hw => run_load_part wx 23 _ rfl b16 0 rfl 23 _ 32 32 _ hw.1 (by omega) Tryd.underlying23 rfl info26 (bv X) (fun i hi => by rw [Nat.zero_add])) hHeld ?_
          simp only [Act.put, List.setIfInBounds_toArray, List.set_cons_zero, List.set_cons_succ]
          refine takeH 1 (some 89) (.int .i64 (a : Int)) rfl rfl (by kernel_rfl) (by kernel_rfl) (by kernel_rfl) (fun _ _ _ h => h) (by rfl) (fun w hw => by first | rfl | (go_simp; done) | (go_simp; rfl)) hHeld ?_
          simp only [Act.put, List.setIfInBounds_toArray, List.set_cons_zero, List.set_cons_succ]
          refine takeH 2 (some 90) (.int .i64 (i : Int)) rfl rfl (by kernel_rfl) (by kernel_rfl) (by kernel_rfl) (fun _ _ _ h => h) (by rfl) (fun w hw => by first | rfl | (go_simp; done) | (go_simp; rfl)) hHeld ?_
          simp only [Act.put, List.setIfInBounds_toArray, List.set_cons_zero, List.set_cons_succ]
          refine takeH 3 (some 91) (.pointer (some ⟨b11, i, none⟩)) rfl rfl (by kernel_rfl) (by kernel_rfl) (by kernel_rfl) (fun _ _ _ h => h) (by rfl) (fun w hw => by first | rfl | (go_simp; done) | (go_simp; rfl) | (go_simp; intro hbad; exfalso; omega)) hHeld ?_
          simp only [Act.put, List.setIfInBounds_toArray, List.set_cons_zero, List.set_cons_succ]
          refine takeH 4 (some 92) (.int .i64 (c : Int)) rfl rfl (by kernel_rfl) (by kernel_rfl) (by kernel_rfl) (fun _ _ _ h => h) (by rfl) (fun w hw => by have hcc := hw.2.cell i hlt; rw [HCV.out] at hcc; first | rfl | (go_simp; done) | (go_simp; rfl)) hHeld ?_
          simp only [Act.put, List.setIfInBounds_toArray, List.set_cons_zero, List.set_cons_succ]
          refine wpAnyH_ready (rs := [5, 9]) (by kernel_rfl) (by simp) (AllReadyH.cons rfl (fun K hK => ?_) (AllReadyH.cons rfl (fun K hK => ?_) AllReadyH.nil))
          · rw [if_pos (by rfl)]
            go_simp
            refine (DH.out _ hGl).mono ?_
            rintro e va2 ⟨rfl, hc1⟩
            try go_wp2_with fail
            refine hK.out _ _ ⟨hHeld.1.below hc1 hHeld.1.lt, hHeld.2.below hc1 hHeld.2.lt⟩ (fun hH => ?_)
            clear hK K hHeld
            have hHeld := hH
            clear hH
            have q0 := q0.below hc1 q0.lt
            have q1 := q1.below hc1 q1.lt
            have qo := qo.below hc1 qo.lt
            have qy := qy.below hc1 qy.lt
            have hGl := hGl.up hc1
            have kb := kb.trans (hc1.mono kb.size)
            clear hc1
            refine takeH 6 (some 87) (.tuple #[.agg (tabv (bv Y) 32), .int .i64 0]) rfl rfl (by kernel_rfl) (by kernel_rfl) (by kernel_rfl) (fun _ _ _ h => h) (by rfl) (fun w hw => by first | rfl | (go_simp; done) | (go_simp; rfl)) hHeld ?_
            simp only [Act.put, List.setIfInBounds_toArray, List.set_cons_zero, List.set_cons_succ]
            refine takeH 7 (some 94) (.agg (tabv (bv Y) 32)) rfl rfl (by kernel_rfl) (by kernel_rfl) (by kernel_rfl) (fun _ _ _ h => h) (by rfl) (fun w hw => by first | rfl | (go_simp; done) | (go_simp; rfl)) hHeld ?_
            simp only [Act.put, List.setIfInBounds_toArray, List.set_cons_zero, List.set_cons_succ]
            refine takeH 8 (some 95) (.int .i64 0) rfl rfl (by kernel_rfl) (by kernel_rfl) (by kernel_rfl) (fun _ _ _ h => h) (by rfl) (fun w hw => by first | rfl | (go_simp; done) | (go_simp; rfl)) hHeld ?_
            simp only [Act.put, List.setIfInBounds_toArray, List.set_cons_zero, List.set_cons_succ]
            refine wpAnyH_ready (rs := [9]) (by kernel_rfl) (by simp) (AllReadyH.cons rfl (fun K hK => ?_) AllReadyH.nil)
            rw [if_pos (by rfl)]
            go_simp
            obtain ⟨vb2, hvb2⟩ : ∃ x, va2.alloc (.cells (tabv (fun _ => .int .u8 0) 32) 23) = x := ⟨_, rfl⟩
            obtain ⟨bqz, hbqz⟩ : ∃ x, va2.heap.size = x := ⟨_, rfl⟩
            have hc2 : Below va2.heap.size va2 vb2 := by rw [← hvb2]; exact (Below.refl _ _).alloc (Nat.le_refl _) _
            have qz : Has vb2 bqz 23 (fun _ => .int .u8 0) 32 := by rw [← hvb2, ← hbqz]; exact Has.new va2 23 (fun _ => .int .u8 0) 32 _ rfl
            have ltqzq0 : b0 < bqz := by rw [← hbqz]; exact q0.lt
            have ltqzq1 : b16 < bqz := by rw [← hbqz]; exact q1.lt
            have ltqzqo : b11 < bqz := by rw [← hbqz]; exact qo.lt
            have ltqzqy : bqy < bqz := by rw [← hbqz]; exact qy.lt
            have leqz : w.heap.size ≤ bqz := by rw [← hbqz]; exact kb.size
            rw [zero32] at hvb2
            rw [hvb2, hbqz]
            refine hK.out _ _ ⟨hHeld.1.below hc2 hHeld.1.lt, hHeld.2.below hc2 hHeld.2.lt⟩ (fun hH => ?_)
            clear hK K hHeld
            have hHeld := hH
            clear hH hvb2 hbqz
            have q0 := q0.below hc2 q0.lt
            have q1 := q1.below hc2 q1.lt
            have qo := qo.below hc2 qo.lt
            have qy := qy.below hc2 qy.lt
            have hGl := hGl.up hc2
            have kb := kb.trans (hc2.mono kb.size)
            clear hc2
            refine wpAnyH_ready (rs := [10]) (by kernel_rfl) (by simp) (AllReadyH.cons rfl (fun K hK => ?_) AllReadyH.nil)
            rw [if_pos (by rfl)]
            refine wp_store_part 23 _ _ rfl rfl bqz 0 (bv Y) 32 rfl rfl 23 _ 32 qz (by omega) info26 (fun _ _ => rfl) (bv Y) (fun i hi => by unfold splice; first | (rw [if_pos (by omega), Nat.sub_zero]) | (rw [if_pos (by omega)]; rfl)) ?_
            refine hK.out _ _ ⟨hHeld.1.row_other _ _ (by omega), hHeld.2.row_other _ _ (by omega)⟩ (fun hH => ?_)
            clear hK K hHeld
            have hHeld := hH
            clear hH
            have hGl : Glob n (vb2.setRow bqz (tabv (bv Y) 32)) := hGl.below (below_setRow (Below.refl w.heap.size _) leqz _) hB0
            have kb := below_setRow kb leqz (tabv (bv Y) 32)
            have q0 := q0.row_other bqz (tabv (bv Y) 32) (by omega)
            have q1 := q1.row_other bqz (tabv (bv Y) 32) (by omega)
            have qo := qo.row_other bqz (tabv (bv Y) 32) (by omega)
            have qy := qy.row_other bqz (tabv (bv Y) 32) (by omega)
            have qz := qz.row (tabv (bv Y) 32) (bv Y) rfl
            refine takeH 11 (some 18) (.int .i64 0) rfl rfl (by kernel_rfl) (by kernel_rfl) (by kernel_rfl) (fun _ _ _ h => h) (by rfl) (fun w hw => by first | rfl | (go_simp; done) | (go_simp; rfl)) hHeld ?_
            simp only [Act.put, List.setIfInBounds_toArray, List.set_cons_zero, List.set_cons_succ]
            refine ⟨by kernel_rfl, ?_⟩
            refine NoPanic.normal ?_
            obtain ⟨vc2, hvc2⟩ : ∃ x, vb2.setRow bqz (tabv (bv Y) 32) = x := ⟨_, rfl⟩
            rw [hvc2] at q0
            rw [hvc2] at q1
            rw [hvc2] at qo
            rw [hvc2] at qy
            rw [hvc2] at qz
            rw [hvc2] at hGl
            rw [hvc2] at kb
            rw [hvc2]
            clear hHeld hvc2
            have f11 := qo.cell i hlt
            rw [HCV.out] at f11
            have HY_ := hide qy
            have HZ_ := hide qz
            go_wp2_with fail
            refine (HNEAR.out _).mono ?_
            rintro e wn ⟨rfl, hwn⟩
            obtain rfl := hwn.symm
            go_wp2_with (first | refine wpList_load_want (by rfl) 23 _ rfl bqz 0 rfl 23 _ 32 32 _ HZ_.out (by omega) Tryd.underlying23 rfl info26 (bv Y) (fun i hi => by rw [Nat.zero_add]) ?_ | refine wpList_load_want (by rfl) 23 _ rfl bqy 0 rfl 23 _ 32 32 _ HY_.out (by omega) Tryd.underlying23 rfl info26 (bv Y) (fun i hi => by rw [Nat.zero_add]) ?_)
            go_roundw
            case rel => exact ⟨i + 1, by omega, by go_num, q0, q1, qo, hGl, kb⟩
            case measure => simp [intOf]; omega
          · rw [if_pos (by rfl)]
            go_simp
            obtain ⟨va2, hva2⟩ : ∃ x, V2.alloc (.cells (tabv (fun _ => .int .u8 0) 32) 23) = x := ⟨_, rfl⟩
            obtain ⟨bqz, hbqz⟩ : ∃ x, V2.heap.size = x := ⟨_, rfl⟩
            have hc2 : Below V2.heap.size V2 va2 := by rw [← hva2]; exact (Below.refl _ _).alloc (Nat.le_refl _) _
            have qz : Has va2 bqz 23 (fun _ => .int .u8 0) 32 := by rw [← hva2, ← hbqz]; exact Has.new V2 23 (fun _ => .int .u8 0) 32 _ rfl
            have ltqzq0 : b0 < bqz := by rw [← hbqz]; exact q0.lt
            have ltqzq1 : b16 < bqz := by rw [← hbqz]; exact q1.lt
            have ltqzqo : b11 < bqz := by rw [← hbqz]; exact qo.lt
            have ltqzqy : bqy < bqz := by rw [← hbqz]; exact qy.lt
            have leqz : w.heap.size ≤ bqz := by rw [← hbqz]; exact kb.size
            rw [zero32] at hva2
            rw [hva2, hbqz]
            refine hK.out _ _ ⟨hHeld.1.below hc2 hHeld.1.lt, hHeld.2.below hc2 hHeld.2.lt⟩ (fun hH => ?_)
            clear hK K hHeld
            have hHeld := hH
            clear hH hva2 hbqz
            have q0 := q0.below hc2 q0.lt
            have q1 := q1.below hc2 q1.lt
            have qo := qo.below hc2 qo.lt
            have qy := qy.below hc2 qy.lt
            have hGl := hGl.up hc2
            have kb := kb.trans (hc2.mono kb.size)
            clear hc2
            refine wpAnyH_ready (rs := [5]) (by kernel_rfl) (by simp) (AllReadyH.cons rfl (fun K hK => ?_) AllReadyH.nil)
            rw [if_pos (by rfl)]
            go_simp
            refine (DH.out _ hGl).mono ?_
            rintro e vb2 ⟨rfl, hc1⟩
            try go_wp2_with fail
            refine hK.out _ _ ⟨hHeld.1.below hc1 hHeld.1.lt, hHeld.2.below hc1 hHeld.2.lt⟩ (fun hH => ?_)
            clear hK K hHeld
            have hHeld := hH
            clear hH
            have q0 := q0.below hc1 q0.lt
            have q1 := q1.below hc1 q1.lt
            have qo := qo.below hc1 qo.lt
            have qy := qy.below hc1 qy.lt
            have qz := qz.below hc1 qz.lt
            have hGl := hGl.up hc1
            have kb := kb.trans (hc1.mono kb.size)
            clear hc1
            refine takeH 6 (some 87) (.tuple #[.agg (tabv (bv Y) 32), .int .i64 0]) rfl rfl (by kernel_rfl) (by kernel_rfl) (by kernel_rfl) (fun _ _ _ h => h) (by rfl) (fun w hw => by first | rfl | (go_simp; done) | (go_simp; rfl)) hHeld ?_
            simp only [Act.put, List.setIfInBounds_toArray, List.set_cons_zero, List.set_cons_succ]
            refine takeH 7 (some 94) (.agg (tabv (bv Y) 32)) rfl rfl (by kernel_rfl) (by kernel_rfl) (by kernel_rfl) (fun _ _ _ h => h) (by rfl) (fun w hw => by first | rfl | (go_simp; done) | (go_simp; rfl)) hHeld ?_
            simp only [Act.put, List.setIfInBounds_toArray, List.set_cons_zero, List.set_cons_succ]
            refine takeH 8 (some 95) (.int .i64 0) rfl rfl (by kernel_rfl) (by kernel_rfl) (by kernel_rfl) (fun _ _ _ h => h) (by rfl) (fun w hw => by first | rfl | (go_simp; done) | (go_simp; rfl)) hHeld ?_
            simp only [Act.put, List.setIfInBounds_toArray, List.set_cons_zero, List.set_cons_succ]
            refine wpAnyH_ready (rs := [10]) (by kernel_rfl) (by simp) (AllReadyH.cons rfl (fun K hK => ?_) AllReadyH.nil)
            rw [if_pos (by rfl)]
            refine wp_store_part 23 _ _ rfl rfl bqz 0 (bv Y) 32 rfl rfl 23 _ 32 qz (by omega) info26 (fun _ _ => rfl) (bv Y) (fun i hi => by unfold splice; first | (rw [if_pos (by omega), Nat.sub_zero]) | (rw [if_pos (by omega)]; rfl)) ?_
            refine hK.out _ _ ⟨hHeld.1.row_other _ _ (by omega), hHeld.2.row_other _ _ (by omega)⟩ (fun hH => ?_)
            clear hK K hHeld
            have hHeld := hH
            clear hH
            have hGl : Glob n (vb2.setRow bqz (tabv (bv Y) 32)) := hGl.below (below_setRow (Below.refl w.heap.size _) leqz _) hB0
            have kb := below_setRow kb leqz (tabv (bv Y) 32)
            have q0 := q0.row_other bqz (tabv (bv Y) 32) (by omega)
            have q1 := q1.row_other bqz (tabv (bv Y) 32) (by omega)
            have qo := qo.row_other bqz (tabv (bv Y) 32) (by omega)
            have qy := qy.row_other bqz (tabv (bv Y) 32) (by omega)
            have qz := qz.row (tabv (bv Y) 32) (bv Y) rfl
            refine takeH 11 (some 18) (.int .i64 0) rfl rfl (by kernel_rfl) (by kernel_rfl) (by kernel_rfl) (fun _ _ _ h => h) (by rfl) (fun w hw => by first | rfl | (go_simp; done) | (go_simp; rfl)) hHeld ?_
            simp only [Act.put, List.setIfInBounds_toArray, List.set_cons_zero, List.set_cons_succ]
            refine ⟨by kernel_rfl, ?_⟩
            refine NoPanic.normal ?_
            obtain ⟨vc2, hvc2⟩ : ∃ x, vb2.setRow bqz (tabv (bv Y) 32) = x := ⟨_, rfl⟩
            rw [hvc2] at q0
            rw [hvc2] at q1
            rw [hvc2] at qo
            rw [hvc2] at qy
            rw [hvc2] at qz
            rw [hvc2] at hGl
            rw [hvc2] at kb
            rw [hvc2]
            clear hHeld hvc2
            have f11 := qo.cell i hlt
            rw [HCV.out] at f11
            have HY_ := hide qy
            have HZ_ := hide qz
            go_wp2_with fail
            refine (HNEAR.out _).mono ?_
            rintro e wn ⟨rfl, hwn⟩
            obtain rfl := hwn.symm
            go_wp2_with (first | refine wpList_load_want (by rfl) 23 _ rfl bqz 0 rfl 23 _ 32 32 _ HZ_.out (by omega) Tryd.underlying23 rfl info26 (bv Y) (fun i hi => by rw [Nat.zero_add]) ?_ | refine wpList_load_want (by rfl) 23 _ rfl bqy 0 rfl 23 _ 32 32 _ HY_.out (by omega) Tryd.underlying23 rfl info26 (bv Y) (fun i hi => by rw [Nat.zero_add]) ?_)
            go_roundw
            case rel => exact ⟨i + 1, by omega, by go_num, q0, q1, qo, hGl, kb⟩
            case measure => simp [intOf]; omega
        · rw [if_pos (by rfl)]
          go_simp
          obtain ⟨va1, hva1⟩ : ∃ x, V1.alloc (.cells (tabv (fun _ => .int .u8 0) 32) 23) = x := ⟨_, rfl⟩
          obtain ⟨bqy, hbqy⟩ : ∃ x, V1.heap.size = x := ⟨_, rfl⟩
          have hc2 : Below V1.heap.size V1 va1 := by rw [← hva1]; exact (Below.refl _ _).alloc (Nat.le_refl _) _
          have qy : Has va1 bqy 23 (fun _ => .int .u8 0) 32 := by rw [← hva1, ← hbqy]; exact Has.new V1 23 (fun _ => .int .u8 0) 32 _ rfl
          have ltqyq0 : b0 < bqy := by rw [← hbqy]; exact q0.lt
          have ltqyq1 : b16 < bqy := by rw [← hbqy]; exact q1.lt
          have ltqyqo : b11 < bqy := by rw [← hbqy]; exact qo.lt
          have leqy : w.heap.size ≤ bqy := by rw [← hbqy]; exact kb.size
          rw [zero32] at hva1
          rw [hva1, hbqy]
          refine hK.out _ _ ⟨hHeld.1.below hc2 hHeld.1.lt, hHeld.2.below hc2 hHeld.2.lt⟩ (fun hH => ?_)
          clear hK K hHeld
          have hHeld := hH
          clear hH hva1 hbqy
          have q0 := q0.below hc2 q0.lt
          have q1 := q1.below hc2 q1.lt
          have qo := qo.below hc2 qo.lt
          have hGl := hGl.up hc2
          have kb := kb.trans (hc2.mono kb.size)
          clear hc2
          refine wpAnyH_ready (rs := [4]) (by kernel_rfl) (by simp) (AllReadyH.cons rfl (fun K hK => ?_) AllReadyH.nil)
          rw [if_pos (by rfl)]
          go_simp
          refine (SC.out _ hGl).mono ?_
          rintro e vb1 ⟨rfl, hc1⟩
          try go_wp2_with fail
          refine hK.out _ _ ⟨hHeld.1.below hc1 hHeld.1.lt, hHeld.2.below hc1 hHeld.2.lt⟩ (fun hH => ?_)
          clear hK K hHeld
          have hHeld := hH
          clear hH
          have q0 := q0.below hc1 q0.lt
          have q1 := q1.below hc1 q1.lt
          have qo := qo.below hc1 qo.lt
          have qy := qy.below hc1 qy.lt
          have hGl := hGl.up hc1
          have kb := kb.trans (hc1.mono kb.size)
          clear hc1
          refine takeH 5 (some 79) (.tuple #[.agg (tabv (bv Y) 32), .int .i64 0]) rfl rfl (by kernel_rfl) (by kernel_rfl) (by kernel_rfl) (fun _ _ _ h => h) (by rfl) (fun w hw => by first | rfl | (go_simp; done) | (go_simp; rfl)) hHeld ?_
          simp only [Act.put, List.setIfInBounds_toArray, List.set_cons_zero, List.set_cons_succ]
          refine takeH 6 (some 85) (.agg (tabv (bv Y) 32)) rfl rfl (by kernel_rfl) (by kernel_rfl) (by kernel_rfl) (fun _ _ _ h => h) (by rfl) (fun w hw => by first | rfl | (go_simp; done) | (go_simp; rfl)) hHeld ?_
          simp only [Act.put, List.setIfInBounds_toArray, List.set_cons_zero, List.set_cons_succ]
          refine takeH 7 (some 86) (.int .i64 0) rfl rfl (by kernel_rfl) (by kernel_rfl) (by kernel_rfl) (fun _ _ _ h => h) (by rfl) (fun w hw => by first | rfl | (go_simp; done) | (go_simp; rfl)) hHeld ?_
          simp only [Act.put, List.setIfInBounds_toArray, List.set_cons_zero, List.set_cons_succ]
          refine wpAnyH_ready (rs := [9]) (by kernel_rfl) (by simp) (AllReadyH.cons rfl (fun K hK => ?_) AllReadyH.nil)
          rw [if_pos (by rfl)]
          refine wp_store_part 23 _ _ rfl rfl bqy 0 (bv Y) 32 rfl rfl 23 _ 32 qy (by omega) info26 (fun _ _ => rfl) (bv Y) (fun i hi => by unfold splice; first | (rw [if_pos (by omega), Nat.sub_zero]) | (rw [if_pos (by omega)]; rfl)) ?_
          refine hK.out _ _ ⟨hHeld.1.row_other _ _ (by omega), hHeld.2.row_other _ _ (by omega)⟩ (fun hH => ?_)
          clear hK K hHeld
          have hHeld := hH
          clear hH
          have hGl : Glob n (vb1.setRow bqy (tabv (bv Y) 32)) := hGl.below (below_setRow (Below.refl w.heap.size _) leqy _) hB0
          have kb := below_setRow kb leqy (tabv (bv Y) 32)
          have q0 := q0.row_other bqy (tabv (bv Y) 32) (by omega)
          have q1 := q1.row_other bqy (tabv (bv Y) 32) (by omega)
          have qo := qo.row_other bqy (tabv (bv Y) 32) (by omega)
          have qy := qy.row (tabv (bv Y) 32) (bv Y) rfl
          refine takeH 10 (some 16) (.int .i64 0) rfl rfl (by kernel_rfl) (by kernel_rfl) (by kernel_rfl) (fun _ _ _ h => h) (by rfl) (fun w hw => by first | rfl | (go_simp; done) | (go_simp; rfl)) hHeld ?_
          simp only [Act.put, List.setIfInBounds_toArray, List.set_cons_zero, List.set_cons_succ]
          refine ⟨by kernel_rfl, ?_⟩
          refine NoPanic.normal ?_
          obtain ⟨vc1, hvc1⟩ : ∃ x, vb1.setRow bqy (tabv (bv Y) 32) = x := ⟨_, rfl⟩
          rw [hvc1] at q0
          rw [hvc1] at q1
          rw [hvc1] at qo
          rw [hvc1] at qy
          rw [hvc1] at hGl
          rw [hvc1] at kb
          rw [hvc1]
          clear hHeld hvc1
          go_wp2
          obtain ⟨V2, hV2⟩ : ∃ v, vc1.drew = v := ⟨_, rfl⟩
          have q0 := q0.drew
          rw [hV2] at q0
          have q1 := q1.drew
          rw [hV2] at q1
          have qo := qo.drew
          rw [hV2] at qo
          have qy := qy.drew
          rw [hV2] at qy
          have hGl : Glob n V2 := by rw [← hV2]; exact hGl
          have kb : Below w.heap.size w V2 := by rw [← hV2]; exact ⟨kb.os, kb.tape, kb.output, kb.size, kb.block⟩
          have HV2 := hide hV2
          clear hV2
          refine wp_region_noPanic ?_
          refine wp_region_held_drew (S := fun wx => Has wx b16 23 (bv X) 32 ∧ Has wx b11 35 (ov b o1 o2 o3) 4) (by kernel_rfl) (by rw [HV2.out]; exact ⟨q1, qo⟩) (fun hHeld => ?_)
          rw [HV2.out] at hHeld ⊢
          refine takeH 0 (some 88) (.agg (tabv (bv X) 32)) rfl rfl (by kernel_rfl) (by kernel_rfl) (by kernel_rfl) (fun _ _ _ h => h) (by rfl) (fun wx hw => run_load_part wx 23 _ rfl b16 0 rfl 23 _ 32 32 _ hw.1 (by omega) Tryd.underlying23 rfl info26 (bv X) (fun i hi => by rw [Nat.zero_add])) hHeld ?_
          simp only [Act.put, List.setIfInBounds_toArray, List.set_cons_zero, List.set_cons_succ]
          refine takeH 1 (some 89) (.int .i64 (a : Int)) rfl rfl (by kernel_rfl) (by kernel_rfl) (by kernel_rfl) (fun _ _ _ h => h) (by rfl) (fun w hw => by first | rfl | (go_simp; done) | (go_simp; rfl)) hHeld ?_
          simp only [Act.put, List.setIfInBounds_toArray, List.set_cons_zero, List.set_cons_succ]
          refine takeH 2 (some 90) (.int .i64 (i : Int)) rfl rfl (by kernel_rfl) (by kernel_rfl) (by kernel_rfl) (fun _ _ _ h => h) (by rfl) (fun w hw => by first | rfl | (go_simp; done) | (go_simp; rfl)) hHeld ?_
          simp only [Act.put, List.setIfInBounds_toArray, List.set_cons_zero, List.set_cons_succ]
          refine takeH 3 (some 91) (.pointer (some ⟨b11, i, none⟩)) rfl rfl (by kernel_rfl) (by kernel_rfl) (by kernel_rfl) (fun _ _ _ h => h) (by rfl) (fun w hw => by first | rfl | (go_simp; done) | (go_simp; rfl) | (go_simp; intro hbad; exfalso; omega)) hHeld ?_
          simp only [Act.put, List.setIfInBounds_toArray, List.set_cons_zero, List.set_cons_succ]
          refine takeH 4 (some 92) (.int .i64 (c : Int)) rfl rfl (by kernel_rfl) (by kernel_rfl) (by kernel_rfl) (fun _ _ _ h => h) (by rfl) (fun w hw => by have hcc := hw.2.cell i hlt; rw [HCV.out] at hcc; first | rfl | (go_simp; done) | (go_simp; rfl)) hHeld ?_
          simp only [Act.put, List.setIfInBounds_toArray, List.set_cons_zero, List.set_cons_succ]
          refine wpAnyH_ready (rs := [5, 9]) (by kernel_rfl) (by simp) (AllReadyH.cons rfl (fun K hK => ?_) (AllReadyH.cons rfl (fun K hK => ?_) AllReadyH.nil))
          · rw [if_pos (by rfl)]
            go_simp
            refine (DH.out _ hGl).mono ?_
            rintro e va2 ⟨rfl, hc1⟩
            try go_wp2_with fail
            refine hK.out _ _ ⟨hHeld.1.below hc1 hHeld.1.lt, hHeld.2.below hc1 hHeld.2.lt⟩ (fun hH => ?_)
            clear hK K hHeld
            have hHeld := hH
            clear hH
            have q0 := q0.below hc1 q0.lt
            have q1 := q1.below hc1 q1.lt
            have qo := qo.below hc1 qo.lt
            have qy := qy.below hc1 qy.lt
            have hGl := hGl.up hc1
            have kb := kb.trans (hc1.mono kb.size)
            clear hc1
            refine takeH 6 (some 87) (.tuple #[.agg (tabv (bv Y) 32), .int .i64 0]) rfl rfl (by kernel_rfl) (by kernel_rfl) (by kernel_rfl) (fun _ _ _ h => h) (by rfl) (fun w hw => by first | rfl | (go_simp; done) | (go_simp; rfl)) hHeld ?_
            simp only [Act.put, List.setIfInBounds_toArray, List.set_cons_zero, List.set_cons_succ]
            refine takeH 7 (some 94) (.agg (tabv (bv Y) 32)) rfl rfl (by kernel_rfl) (by kernel_rfl) (by kernel_rfl) (fun _ _ _ h => h) (by rfl) (fun w hw => by first | rfl | (go_simp; done) | (go_simp; rfl)) hHeld ?_
            simp only [Act.put, List.setIfInBounds_toArray, List.set_cons_zero, List.set_cons_succ]
            refine takeH 8 (some 95) (.int .i64 0) rfl rfl (by kernel_rfl) (by kernel_rfl) (by kernel_rfl) (fun _ _ _ h => h) (by rfl) (fun w hw => by first | rfl | (go_simp; done) | (go_simp; rfl)) hHeld ?_
            simp only [Act.put, List.setIfInBounds_toArray, List.set_cons_zero, List.set_cons_succ]
            refine wpAnyH_ready (rs := [9]) (by kernel_rfl) (by simp) (AllReadyH.cons rfl (fun K hK => ?_) AllReadyH.nil)
            rw [if_pos (by rfl)]
            go_simp
            obtain ⟨vb2, hvb2⟩ : ∃ x, va2.alloc (.cells (tabv (fun _ => .int .u8 0) 32) 23) = x := ⟨_, rfl⟩
            obtain ⟨bqz, hbqz⟩ : ∃ x, va2.heap.size = x := ⟨_, rfl⟩
            have hc2 : Below va2.heap.size va2 vb2 := by rw [← hvb2]; exact (Below.refl _ _).alloc (Nat.le_refl _) _
            have qz : Has vb2 bqz 23 (fun _ => .int .u8 0) 32 := by rw [← hvb2, ← hbqz]; exact Has.new va2 23 (fun _ => .int .u8 0) 32 _ rfl
            have ltqzq0 : b0 < bqz := by rw [← hbqz]; exact q0.lt
            have ltqzq1 : b16 < bqz := by rw [← hbqz]; exact q1.lt
            have ltqzqo : b11 < bqz := by rw [← hbqz]; exact qo.lt
            have ltqzqy : bqy < bqz := by rw [← hbqz]; exact qy.lt
            have leqz : w.heap.size ≤ bqz := by rw [← hbqz]; exact kb.size
            rw [zero32] at hvb2
            rw [hvb2, hbqz]
            refine hK.out _ _ ⟨hHeld.1.below hc2 hHeld.1.lt, hHeld.2.below hc2 hHeld.2.lt⟩ (fun hH => ?_)
            clear hK K hHeld
            have hHeld := hH
            clear hH hvb2 hbqz
            have q0 := q0.below hc2 q0.lt
            have q1 := q1.below hc2 q1.lt
            have qo := qo.below hc2 qo.lt
            have qy := qy.below hc2 qy.lt
            have hGl := hGl.up hc2
            have kb := kb.trans (hc2.mono kb.size)
            clear hc2
            refine wpAnyH_ready (rs := [10]) (by kernel_rfl) (by simp) (AllReadyH.cons rfl (fun K hK => ?_) AllReadyH.nil)
            rw [if_pos (by rfl)]
            refine wp_store_part 23 _ _ rfl rfl bqz 0 (bv Y) 32 rfl rfl 23 _ 32 qz (by omega) info26 (fun _ _ => rfl) (bv Y) (fun i hi => by unfold splice; first | (rw [if_pos (by omega), Nat.sub_zero]) | (rw [if_pos (by omega)]; rfl)) ?_
            refine hK.out _ _ ⟨hHeld.1.row_other _ _ (by omega), hHeld.2.row_other _ _ (by omega)⟩ (fun hH => ?_)
            clear hK K hHeld
            have hHeld := hH
            clear hH
            have hGl : Glob n (vb2.setRow bqz (tabv (bv Y) 32)) := hGl.below (below_setRow (Below.refl w.heap.size _) leqz _) hB0
            have kb := below_setRow kb leqz (tabv (bv Y) 32)
            have q0 := q0.row_other bqz (tabv (bv Y) 32) (by omega)
            have q1 := q1.row_other bqz (tabv (bv Y) 32) (by omega)
            have qo := qo.row_other bqz (tabv (bv Y) 32) (by omega)
            have qy := qy.row_other bqz (tabv (bv Y) 32) (by omega)
            have qz := qz.row (tabv (bv Y) 32) (bv Y) rfl
            refine takeH 11 (some 18) (.int .i64 0) rfl rfl (by kernel_rfl) (by kernel_rfl) (by kernel_rfl) (fun _ _ _ h => h) (by rfl) (fun w hw => by first | rfl | (go_simp; done) | (go_simp; rfl)) hHeld ?_
            simp only [Act.put, List.setIfInBounds_toArray, List.set_cons_zero, List.set_cons_succ]
            refine ⟨by kernel_rfl, ?_⟩
            refine NoPanic.normal ?_
            obtain ⟨vc2, hvc2⟩ : ∃ x, vb2.setRow bqz (tabv (bv Y) 32) = x := ⟨_, rfl⟩
            rw [hvc2] at q0
            rw [hvc2] at q1
            rw [hvc2] at qo
            rw [hvc2] at qy
            rw [hvc2] at qz
            rw [hvc2] at hGl
            rw [hvc2] at kb
            rw [hvc2]
            clear hHeld hvc2
            have f11 := qo.cell i hlt
            rw [HCV.out] at f11
            have HY_ := hide qy
            have HZ_ := hide qz
            go_wp2_with fail
            refine (HNEAR.out _).mono ?_
            rintro e wn ⟨rfl, hwn⟩
            obtain rfl := hwn.symm
            go_wp2_with (first | refine wpList_load_want (by rfl) 23 _ rfl bqz 0 rfl 23 _ 32 32 _ HZ_.out (by omega) Tryd.underlying23 rfl info26 (bv Y) (fun i hi => by rw [Nat.zero_add]) ?_ | refine wpList_load_want (by rfl) 23 _ rfl bqy 0 rfl 23 _ 32 32 _ HY_.out (by omega) Tryd.underlying23 rfl info26 (bv Y) (fun i hi => by rw [Nat.zero_add]) ?_)
            go_roundw
            case rel => exact ⟨i + 1, by omega, by go_num, q0, q1, qo, hGl, kb⟩
            case measure => simp [intOf]; omega
          · rw [if_pos (by rfl)]
            go_simp
            obtain ⟨va2, hva2⟩ : ∃ x, V2.alloc (.cells (tabv (fun _ => .int .u8 0) 32) 23) = x := ⟨_, rfl⟩
            obtain ⟨bqz, hbqz⟩ : ∃ x, V2.heap.size = x := ⟨_, rfl⟩
            have hc2 : Below V2.heap.size V2 va2 := by rw [← hva2]; exact (Below.refl _ _).alloc (Nat.le_refl _) _
            have qz : Has va2 bqz 23 (fun _ => .int .u8 0) 32 := by rw [← hva2, ← hbqz]; exact Has.new V2 23 (fun _ => .int .u8 0) 32 _ rfl
            have ltqzq0 : b0 < bqz := by rw [← hbqz]; exact q0.lt
            have ltqzq1 : b16 < bqz := by rw [← hbqz]; exact q1.lt
            have ltqzqo : b11 < bqz := by rw [← hbqz]; exact qo.lt
            have ltqzqy : bqy < bqz := by rw [← hbqz]; exact qy.lt
            have leqz : w.heap.size ≤ bqz := by rw [← hbqz]; exact kb.size
            rw [zero32] at hva2
            rw [hva2, hbqz]
            refine hK.out _ _ ⟨hHeld.1.below hc2 hHeld.1.lt, hHeld.2.below hc2 hHeld.2.lt⟩ (fun hH => ?_)
            clear hK K hHeld
            have hHeld := hH
            clear hH hva2 hbqz
            have q0 := q0.below hc2 q0.lt
            have q1 := q1.below hc2 q1.lt
            have qo := qo.below hc2 qo.lt
            have qy := qy.below hc2 qy.lt
            have hGl := hGl.up hc2
            have kb := kb.trans (hc2.mono kb.size)
            clear hc2
            refine wpAnyH_ready (rs := [5]) (by kernel_rfl) (by simp) (AllReadyH.cons rfl (fun K hK => ?_) AllReadyH.nil)
            rw [if_pos (by rfl)]
            go_simp
            refine (DH.out _ hGl).mono ?_
            rintro e vb2 ⟨rfl, hc1⟩
            try go_wp2_with fail
            refine hK.out _ _ ⟨hHeld.1.below hc1 hHeld.1.lt, hHeld.2.below hc1 hHeld.2.lt⟩ (fun hH => ?_)
            clear hK K hHeld
            have hHeld := hH
            clear hH
            have q0 := q0.below hc1 q0.lt
            have q1 := q1.below hc1 q1.lt
            have qo := qo.below hc1 qo.lt
            have qy := qy.below hc1 qy.lt
            have qz := qz.below hc1 qz.lt
            have hGl := hGl.up hc1
            have kb := kb.trans (hc1.mono kb.size)
            clear hc1
            refine takeH 6 (some 87) (.tuple #[.agg (tabv (bv Y) 32), .int .i64 0]) rfl rfl (by kernel_rfl) (by kernel_rfl) (by kernel_rfl) (fun _ _ _ h => h) (by rfl) (fun w hw => by first | rfl | (go_simp; done) | (go_simp; rfl)) hHeld ?_
            simp only [Act.put, List.setIfInBounds_toArray, List.set_cons_zero, List.set_cons_succ]
            refine takeH 7 (some 94) (.agg (tabv (bv Y) 32)) rfl rfl (by kernel_rfl) (by kernel_rfl) (by kernel_rfl) (fun _ _ _ h => h) (by rfl) (fun w hw => by first | rfl | (go_simp; done) | (go_simp; rfl)) hHeld ?_
            simp only [Act.put, List.setIfInBounds_toArray, List.set_cons_zero, List.set_cons_succ]
            refine takeH 8 (some 95) (.int .i64 0) rfl rfl (by kernel_rfl) (by kernel_rfl) (by kernel_rfl) (fun _ _ _ h => h) (by rfl) (fun w hw => by first | rfl | (go_simp; done) | (go_simp; rfl)) hHeld ?_
            simp only [Act.put, List.setIfInBounds_toArray, List.set_cons_zero, List.set_cons_succ]
            refine wpAnyH_ready (rs := [10]) (by kernel_rfl) (by simp) (AllReadyH.cons rfl (fun K hK => ?_) AllReadyH.nil)
            rw [if_pos (by rfl)]
            refine wp_store_part 23 _ _ rfl rfl bqz 0 (bv Y) 32 rfl rfl 23 _ 32 qz (by omega) info26 (fun _ _ => rfl) (bv Y) (fun i hi => by unfold splice; first | (rw [if_pos (by omega), Nat.sub_zero]) | (rw [if_pos (by omega)]; rfl)) ?_
            refine hK.out _ _ ⟨hHeld.1.row_other _ _ (by omega), hHeld.2.row_other _ _ (by omega)⟩ (fun hH => ?_)
            clear hK K hHeld
            have hHeld := hH
            clear hH
            have hGl : Glob n (vb2.setRow bqz (tabv (bv Y) 32)) := hGl.below (below_setRow (Below.refl w.heap.size _) leqz _) hB0
            have kb := below_setRow kb leqz (tabv (bv Y) 32)
            have q0 := q0.row_other bqz (tabv (bv Y) 32) (by omega)
            have q1 := q1.row_other bqz (tabv (bv Y) 32) (by omega)
            have qo := qo.row_other bqz (tabv (bv Y) 32) (by omega)
            have qy := qy.row_other bqz (tabv (bv Y) 32) (by omega)
            have qz := qz.row (tabv (bv Y) 32) (bv Y) rfl
            refine takeH 11 (some 18) (.int .i64 0) rfl rfl (by kernel_rfl) (by kernel_rfl) (by kernel_rfl) (fun _ _ _ h => h) (by rfl) (fun w hw => by first | rfl | (go_simp; done) | (go_simp; rfl)) hHeld ?_
            simp only [Act.put, List.setIfInBounds_toArray, List.set_cons_zero, List.set_cons_succ]
            refine ⟨by kernel_rfl, ?_⟩
            refine NoPanic.normal ?_
            obtain ⟨vc2, hvc2⟩ : ∃ x, vb2.setRow bqz (tabv (bv Y) 32) = x := ⟨_, rfl⟩
            rw [hvc2] at q0
            rw [hvc2] at q1
            rw [hvc2] at qo
            rw [hvc2] at qy
            rw [hvc2] at qz
            rw [hvc2] at hGl
            rw [hvc2] at kb
            rw [hvc2]
            clear hHeld hvc2
            have f11 := qo.cell i hlt
            rw [HCV.out] at f11
            have HY_ := hide qy
            have HZ_ := hide qz
            go_wp2_with fail
            refine (HNEAR.out _).mono ?_
            rintro e wn ⟨rfl, hwn⟩
            obtain rfl := hwn.symm
            go_wp2_with (first | refine wpList_load_want (by rfl) 23 _ rfl bqz 0 rfl 23 _ 32 32 _ HZ_.out (by omega) Tryd.underlying23 rfl info26 (bv Y) (fun i hi => by rw [Nat.zero_add]) ?_ | refine wpList_load_want (by rfl) 23 _ rfl bqy 0 rfl 23 _ 32 32 _ HY_.out (by omega) Tryd.underlying23 rfl info26 (bv Y) (fun i hi => by rw [Nat.zero_add]) ?_)
            go_roundw
            case rel => exact ⟨i + 1, by omega, by go_num, q0, q1, qo, hGl, kb⟩
            case measure => simp [intOf]; omega
      · rw [near_no hla hc hh] at HNEAR
        have DH := hide (HDN.out c hc hh)
        clear hh
        go_wp2
        obtain ⟨V1, hV1⟩ : ∃ v, wr.drew = v := ⟨_, rfl⟩
        have q0 := q0.drew
        rw [hV1] at q0
        have q1 := q1.drew
        rw [hV1] at q1
        have qo := qo.drew
        rw [hV1] at qo
        have hGl : Glob n V1 := by rw [← hV1]; exact hGl
        have kb : Below w.heap.size w V1 := by rw [← hV1]; exact ⟨kb.os, kb.tape, kb.output, kb.size, kb.block⟩
        have HV1 := hide hV1
        clear hV1
        refine wp_region_noPanic ?_
        refine wp_region_held_drew (S := fun wx => Has wx b0 23 (bv s) 32 ∧ Has wx b11 35 (ov b o1 o2 o3) 4) (by kernel_rfl) (by rw [HV1.out]; exact ⟨q0, qo⟩) (fun hHeld => ?_)
        rw [HV1.out] at hHeld ⊢
        refine takeH 0 (some 80) (.agg (tabv (bv s) 32)) rfl rfl (by kernel_rfl) (by kernel_rfl) (by kernel_rfl) (fun _ _ _ h => h) (by rfl) (fun wx hw => run_load_part wx 23 _ rfl b0 0 rfl 23 _ 32 32 _ hw.1 (by omega) Tryd.underlying23 rfl info26 (bv s) (fun i hi => by rw [Nat.zero_add])) hHeld ?_
        simp only [Act.put, List.setIfInBounds_toArray, List.set_cons_zero, List.set_cons_succ]
        refine takeH 1 (some 81) (.int .i64 (i : Int)) rfl rfl (by kernel_rfl) (by kernel_rfl) (by kernel_rfl) (fun _ _ _ h => h) (by rfl) (fun w hw => by first | rfl | (go_simp; done) | (go_simp; rfl)) hHeld ?_
        simp only [Act.put, List.setIfInBounds_toArray, List.set_cons_zero, List.set_cons_succ]
        refine takeH 2 (some 82) (.pointer (some ⟨b11, i, none⟩)) rfl rfl (by kernel_rfl) (by kernel_rfl) (by kernel_rfl) (fun _ _ _ h => h) (by rfl) (fun w hw => by first | rfl | (go_simp; done) | (go_simp; rfl) | (go_simp; intro hbad; exfalso; omega)) hHeld ?_
        simp only [Act.put, List.setIfInBounds_toArray, List.set_cons_zero, List.set_cons_succ]
        refine takeH 3 (some 83) (.int .i64 (c : Int)) rfl rfl (by kernel_rfl) (by kernel_rfl) (by kernel_rfl) (fun _ _ _ h => h) (by rfl) (fun w hw => by have hcc := hw.2.cell i hlt; rw [HCV.out] at hcc; first | rfl | (go_simp; done) | (go_simp; rfl)) hHeld ?_
        simp only [Act.put, List.setIfInBounds_toArray, List.set_cons_zero, List.set_cons_succ]
        refine wpAnyH_ready (rs := [4, 8]) (by kernel_rfl) (by simp) (AllReadyH.cons rfl (fun K hK => ?_) (AllReadyH.cons rfl (fun K hK => ?_) AllReadyH.nil))
        · rw [if_pos (by rfl)]
          go_simp
          refine (SC.out _ hGl).mono ?_
          rintro e va1 ⟨rfl, hc1⟩
          try go_wp2_with fail
          refine hK.out _ _ ⟨hHeld.1.below hc1 hHeld.1.lt, hHeld.2.below hc1 hHeld.2.lt⟩ (fun hH => ?_)
          clear hK K hHeld
          have hHeld := hH
          clear hH
          have q0 := q0.below hc1 q0.lt
          have q1 := q1.below hc1 q1.lt
          have qo := qo.below hc1 qo.lt
          have hGl := hGl.up hc1
          have kb := kb.trans (hc1.mono kb.size)
          clear hc1
          refine takeH 5 (some 79) (.tuple #[.agg (tabv (bv Y) 32), .int .i64 0]) rfl rfl (by kernel_rfl) (by kernel_rfl) (by kernel_rfl) (fun _ _ _ h => h) (by rfl) (fun w hw => by first | rfl | (go_simp; done) | (go_simp; rfl)) hHeld ?_
          simp only [Act.put, List.setIfInBounds_toArray, List.set_cons_zero, List.set_cons_succ]
          refine takeH 6 (some 85) (.agg (tabv (bv Y) 32)) rfl rfl (by kernel_rfl) (by kernel_rfl) (by kernel_rfl) (fun _ _ _ h => h) (by rfl) (fun w hw => by first | rfl | (go_simp; done) | (go_simp; rfl)) hHeld ?_
          simp only [Act.put, List.setIfInBounds_toArray, List.set_cons_zero, List.set_cons_succ]
          refine takeH 7 (some 86) (.int .i64 0) rfl rfl (by kernel_rfl) (by kernel_rfl) (by kernel_rfl) (fun _ _ _ h => h) (by rfl) (fun w hw => by first | rfl | (go_simp; done) | (go_simp; rfl)) hHeld ?_
          simp only [Act.put, List.setIfInBounds_toArray, List.set_cons_zero, List.set_cons_succ]
          refine wpAnyH_ready (rs := [8]) (by kernel_rfl) (by simp) (AllReadyH.cons rfl (fun K hK => ?_) AllReadyH.nil)
          rw [if_pos (by rfl)]
          go_simp
          obtain ⟨vb1, hvb1⟩ : ∃ x, va1.alloc (.cells (tabv (fun _ => .int .u8 0) 32) 23) = x := ⟨_, rfl⟩
          obtain ⟨bqy, hbqy⟩ : ∃ x, va1.heap.size = x := ⟨_, rfl⟩
          have hc2 : Below va1.heap.size va1 vb1 := by rw [← hvb1]; exact (Below.refl _ _).alloc (Nat.le_refl _) _
          have qy : Has vb1 bqy 23 (fun _ => .int .u8 0) 32 := by rw [← hvb1, ← hbqy]; exact Has.new va1 23 (fun _ => .int .u8 0) 32 _ rfl
          have ltqyq0 : b0 < bqy := by rw [← hbqy]; exact q0.lt
          have ltqyq1 : b16 < bqy := by rw [← hbqy]; exact q1.lt
          have ltqyqo : b11 < bqy := by rw [← hbqy]; exact qo.lt
          have leqy : w.heap.size ≤ bqy := by rw [← hbqy]; exact kb.size
          rw [zero32] at hvb1
          rw [hvb1, hbqy]
          refine hK.out _ _ ⟨hHeld.1.below hc2 hHeld.1.lt, hHeld.2.below hc2 hHeld.2.lt⟩ (fun hH => ?_)
          clear hK K hHeld
          have hHeld := hH
          clear hH hvb1 hbqy
          have q0 := q0.below hc2 q0.lt
          have q1 := q1.below hc2 q1.lt
          have qo := qo.below hc2 qo.lt
          have hGl := hGl.up hc2
          have kb := kb.trans (hc2.mono kb.size)
          clear hc2
          refine wpAnyH_ready (rs := [9]) (by kernel_rfl) (by simp) (AllReadyH.cons rfl (fun K hK => ?_) AllReadyH.nil)
          rw [if_pos (by rfl)]
          refine wp_store_part 23 _ _ rfl rfl bqy 0 (bv Y) 32 rfl rfl 23 _ 32 qy (by omega) info26 (fun _ _ => rfl) (bv Y) (fun i hi => by unfold splice; first | (rw [if_pos (by omega), Nat.sub_zero]) | (rw [if_pos (by omega)]; rfl)) ?_
          refine hK.out _ _ ⟨hHeld.1.row_other _ _ (by omega), hHeld.2.row_other _ _ (by omega)⟩ (fun hH => ?_)
          clear hK K hHeld
          have hHeld := hH
          clear hH
          have hGl : Glob n (vb1.setRow bqy (tabv (bv Y) 32)) := hGl.below (below_setRow (Below.refl w.heap.size _) leqy _) hB0
          have kb := below_setRow kb leqy (tabv (bv Y) 32)
          have q0 := q0.row_other bqy (tabv (bv Y) 32) (by omega)
          have q1 := q1.row_other bqy (tabv (bv Y) 32) (by omega)
          have qo := qo.row_other bqy (tabv (bv Y) 32) (by omega)
          have qy := qy.row (tabv (bv Y) 32) (bv Y) rfl
          refine takeH 10 (some 16) (.int .i64 0) rfl rfl (by kernel_rfl) (by kernel_rfl) (by kernel_rfl) (fun _ _ _ h => h) (by rfl) (fun w hw => by first | rfl | (go_simp; done) | (go_simp; rfl)) hHeld ?_
          simp only [Act.put, List.setIfInBounds_toArray, List.set_cons_zero, List.set_cons_succ]
          refine ⟨by kernel_rfl, ?_⟩
          refine NoPanic.normal ?_
          obtain ⟨vc1, hvc1⟩ : ∃ x, vb1.setRow bqy (tabv (bv Y) 32) = x := ⟨_, rfl⟩
          rw [hvc1] at q0
          rw [hvc1] at q1
          rw [hvc1] at qo
          rw [hvc1] at qy
          rw [hvc1] at hGl
          rw [hvc1] at kb
          rw [hvc1]
          clear hHeld hvc1
          go_wp2
          obtain ⟨V2, hV2⟩ : ∃ v, vc1.drew = v := ⟨_, rfl⟩
          have q0 := q0.drew
          rw [hV2] at q0
          have q1 := q1.drew
          rw [hV2] at q1
          have qo := qo.drew
          rw [hV2] at qo
          have qy := qy.drew
          rw [hV2] at qy
          have hGl : Glob n V2 := by rw [← hV2]; exact hGl
          have kb : Below w.heap.size w V2 := by rw [← hV2]; exact ⟨kb.os, kb.tape, kb.output, kb.size, kb.block⟩
          have HV2 := hide hV2
          clear hV2
          refine wp_region_noPanic ?_
          refine wp_region_held_drew (S := fun wx => Has wx b16 23 (bv X) 32 ∧ Has wx b11 35 (ov b o1 o2 o3) 4) (by kernel_rfl) (by rw [HV2.out]; exact ⟨q1, qo⟩) (fun hHeld => ?_)
          rw [HV2.out] at hHeld ⊢
          refine takeH 0 (some 88) (.agg (tabv (bv X) 32)) rfl rfl (by kernel_rfl) (by kernel_rfl) (by kernel_rfl) (fun _ _ _ h => h) (by rfl) (fun wx hw => run_load_part wx 23 _ rfl b16 0 rfl 23 _ 32 32 _ hw.1 (by omega) Tryd.underlying23 rfl info26 (bv X) (fun i hi => by rw [Nat.zero_add])) hHeld ?_
          simp only [Act.put, List.setIfInBounds_toArray, List.set_cons_zero, List.set_cons_succ]
          refine takeH 1 (some 89) (.int .i64 (a : Int)) rfl rfl (by kernel_rfl) (by kernel_rfl) (by kernel_rfl) (fun _ _ _ h => h) (by rfl) (fun w hw => by first | rfl | (go_simp; done) | (go_simp; rfl)) hHeld ?_
          simp only [Act.put, List.setIfInBounds_toArray, List.set_cons_zero, List.set_cons_succ]
          refine takeH 2 (some 90) (.int .i64 (i : Int)) rfl rfl (by kernel_rfl) (by kernel_rfl) (by kernel_rfl) (fun _ _ _ h => h) (by rfl) (fun w hw => by first | rfl | (go_simp; done) | (go_simp; rfl)) hHeld ?_
          simp only [Act.put, List.setIfInBounds_toArray, List.set_cons_zero, List.set_cons_succ]
          refine takeH 3 (some 91) (.pointer (some ⟨b11, i, none⟩)) rfl rfl (by kernel_rfl) (by kernel_rfl) (by kernel_rfl) (fun _ _ _ h => h) (by rfl) (fun w hw => by first | rfl | (go_simp; done) | (go_simp; rfl) | (go_simp; intro hbad; exfalso; omega)) hHeld ?_
          simp only [Act.put, List.setIfInBounds_toArray, List.set_cons_zero, List.set_cons_succ]
          refine takeH 4 (some 92) (.int .i64 (c : Int)) rfl rfl (by kernel_rfl) (by kernel_rfl) (by kernel_rfl) (fun _ _ _ h => h) (by rfl) (fun w hw => by have hcc := hw.2.cell i hlt; rw [HCV.out] at hcc; first | rfl | (go_simp; done) | (go_simp; rfl)) hHeld ?_
          simp only [Act.put, List.setIfInBounds_toArray, List.set_cons_zero, List.set_cons_succ]
          refine wpAnyH_ready (rs := [5, 9]) (by kernel_rfl) (by simp) (AllReadyH.cons rfl (fun K hK => ?_) (AllReadyH.cons rfl (fun K hK => ?_) AllReadyH.nil))
          · rw [if_pos (by rfl)]
            go_simp
            refine (DH.out _ hGl).mono ?_
            rintro e va2 ⟨rfl, hc1⟩
            try go_wp2_with fail
            refine hK.out _ _ ⟨hHeld.1.below hc1 hHeld.1.lt, hHeld.2.below hc1 hHeld.2.lt⟩ (fun hH => ?_)
            clear hK K hHeld
            have hHeld := hH
            clear hH
            have q0 := q0.below hc1 q0.lt
            have q1 := q1.below hc1 q1.lt
            have qo := qo.below hc1 qo.lt
            have qy := qy.below hc1 qy.lt
            have hGl := hGl.up hc1
            have kb := kb.trans (hc1.mono kb.size)
            clear hc1
            refine takeH 6 (some 87) (.tuple #[.agg (tabv (bv (fun _ => (0 : UInt8))) 32), .int .i64 5]) rfl rfl (by kernel_rfl) (by kernel_rfl) (by kernel_rfl) (fun _ _ _ h => h) (by rfl) (fun w hw => by first | rfl | (go_simp; done) | (go_simp; rfl)) hHeld ?_
            simp only [Act.put, List.setIfInBounds_toArray, List.set_cons_zero, List.set_cons_succ]
            refine takeH 7 (some 94) (.agg (tabv (bv (fun _ => (0 : UInt8))) 32)) rfl rfl (by kernel_rfl) (by kernel_rfl) (by kernel_rfl) (fun _ _ _ h => h) (by rfl) (fun w hw => by first | rfl | (go_simp; done) | (go_simp; rfl)) hHeld ?_
            simp only [Act.put, List.setIfInBounds_toArray, List.set_cons_zero, List.set_cons_succ]
            refine takeH 8 (some 95) (.int .i64 5) rfl rfl (by kernel_rfl) (by kernel_rfl) (by kernel_rfl) (fun _ _ _ h => h) (by rfl) (fun w hw => by first | rfl | (go_simp; done) | (go_simp; rfl)) hHeld ?_
            simp only [Act.put, List.setIfInBounds_toArray, List.set_cons_zero, List.set_cons_succ]
            refine wpAnyH_ready (rs := [9]) (by kernel_rfl) (by simp) (AllReadyH.cons rfl (fun K hK => ?_) AllReadyH.nil)
            rw [if_pos (by rfl)]
            go_simp
            obtain ⟨vb2, hvb2⟩ : ∃ x, va2.alloc (.cells (tabv (fun _ => .int .u8 0) 32) 23) = x := ⟨_, rfl⟩
            obtain ⟨bqz, hbqz⟩ : ∃ x, va2.heap.size = x := ⟨_, rfl⟩
            have hc2 : Below va2.heap.size va2 vb2 := by rw [← hvb2]; exact (Below.refl _ _).alloc (Nat.le_refl _) _
            have qz : Has vb2 bqz 23 (fun _ => .int .u8 0) 32 := by rw [← hvb2, ← hbqz]; exact Has.new va2 23 (fun _ => .int .u8 0) 32 _ rfl
            have ltqzq0 : b0 < bqz := by rw [← hbqz]; exact q0.lt
            have ltqzq1 : b16 < bqz := by rw [← hbqz]; exact q1.lt
            have ltqzqo : b11 < bqz := by rw [← hbqz]; exact qo.lt
            have ltqzqy : bqy < bqz := by rw [← hbqz]; exact qy.lt
            have leqz : w.heap.size ≤ bqz := by rw [← hbqz]; exact kb.size
            rw [zero32] at hvb2
            rw [hvb2, hbqz]
            refine hK.out _ _ ⟨hHeld.1.below hc2 hHeld.1.lt, hHeld.2.below hc2 hHeld.2.lt⟩ (fun hH => ?_)
            clear hK K hHeld
            have hHeld := hH
            clear hH hvb2 hbqz
            have q0 := q0.below hc2 q0.lt
            have q1 := q1.below hc2 q1.lt
            have qo := qo.below hc2 qo.lt
            have qy := qy.below hc2 qy.lt
            have hGl := hGl.up hc2
            have kb := kb.trans (hc2.mono kb.size)
            clear hc2
            refine wpAnyH_ready (rs := [10]) (by kernel_rfl) (by simp) (AllReadyH.cons rfl (fun K hK => ?_) AllReadyH.nil)
            rw [if_pos (by rfl)]
            refine wp_store_part 23 _ _ rfl rfl bqz 0 (bv (fun _ => (0 : UInt8))) 32 rfl rfl 23 _ 32 qz (by omega) info26 (fun _ _ => rfl) (bv (fun _ => (0 : UInt8))) (fun i hi => by unfold splice; first | (rw [if_pos (by omega), Nat.sub_zero]) | (rw [if_pos (by omega)]; rfl)) ?_
            refine hK.out _ _ ⟨hHeld.1.row_other _ _ (by omega), hHeld.2.row_other _ _ (by omega)⟩ (fun hH => ?_)
            clear hK K hHeld
            have hHeld := hH
            clear hH
            have hGl : Glob n (vb2.setRow bqz (tabv (bv (fun _ => (0 : UInt8))) 32)) := hGl.below (below_setRow (Below.refl w.heap.size _) leqz _) hB0
            have kb := below_setRow kb leqz (tabv (bv (fun _ => (0 : UInt8))) 32)
            have q0 := q0.row_other bqz (tabv (bv (fun _ => (0 : UInt8))) 32) (by omega)
            have q1 := q1.row_other bqz (tabv (bv (fun _ => (0 : UInt8))) 32) (by omega)
            have qo := qo.row_other bqz (tabv (bv (fun _ => (0 : UInt8))) 32) (by omega)
            have qy := qy.row_other bqz (tabv (bv (fun _ => (0 : UInt8))) 32) (by omega)
            have qz := qz.row (tabv (bv (fun _ => (0 : UInt8))) 32) (bv (fun _ => (0 : UInt8))) rfl
            refine takeH 11 (some 18) (.int .i64 5) rfl rfl (by kernel_rfl) (by kernel_rfl) (by kernel_rfl) (fun _ _ _ h => h) (by rfl) (fun w hw => by first | rfl | (go_simp; done) | (go_simp; rfl)) hHeld ?_
            simp only [Act.put, List.setIfInBounds_toArray, List.set_cons_zero, List.set_cons_succ]
            refine ⟨by kernel_rfl, ?_⟩
            refine NoPanic.normal ?_
            obtain ⟨vc2, hvc2⟩ : ∃ x, vb2.setRow bqz (tabv (bv (fun _ => (0 : UInt8))) 32) = x := ⟨_, rfl⟩
            rw [hvc2] at q0
            rw [hvc2] at q1
            rw [hvc2] at qo
            rw [hvc2] at qy
            rw [hvc2] at qz
            rw [hvc2] at hGl
            rw [hvc2] at kb
            rw [hvc2]
            clear hHeld hvc2
            have f11 := qo.cell i hlt
            rw [HCV.out] at f11
            have HY_ := hide qy
            have HZ_ := hide qz
            go_wp2_with fail
            refine (HNEAR.out _).mono ?_
            rintro e wn ⟨rfl, hwn⟩
            obtain rfl := hwn.symm
            go_wp2_with (refine wpList_load_want (by rfl) 23 _ rfl bqz 0 rfl 23 _ 32 32 _ HZ_.out (by omega) Tryd.underlying23 rfl info26 (bv (fun _ => (0 : UInt8))) (fun i hi => by rw [Nat.zero_add]) ?_)
            go_roundw
            case rel => exact ⟨i + 1, by omega, by go_num, q0, q1, qo, hGl, kb⟩
            case measure => simp [intOf]; omega
          · rw [if_pos (by rfl)]
            go_simp
            obtain ⟨va2, hva2⟩ : ∃ x, V2.alloc (.cells (tabv (fun _ => .int .u8 0) 32) 23) = x := ⟨_, rfl⟩
            obtain ⟨bqz, hbqz⟩ : ∃ x, V2.heap.size = x := ⟨_, rfl⟩
            have hc2 : Below V2.heap.size V2 va2 := by rw [← hva2]; exact (Below.refl _ _).alloc (Nat.le_refl _) _
            have qz : Has va2 bqz 23 (fun _ => .int .u8 0) 32 := by rw [← hva2, ← hbqz]; exact Has.new V2 23 (fun _ => .int .u8 0) 32 _ rfl
            have ltqzq0 : b0 < bqz := by rw [← hbqz]; exact q0.lt
            have ltqzq1 : b16 < bqz := by rw [← hbqz]; exact q1.lt
            have ltqzqo : b11 < bqz := by rw [← hbqz]; exact qo.lt
            have ltqzqy : bqy < bqz := by rw [← hbqz]; exact qy.lt
            have leqz : w.heap.size ≤ bqz := by rw [← hbqz]; exact kb.size
            rw [zero32] at hva2
            rw [hva2, hbqz]
            refine hK.out _ _ ⟨hHeld.1.below hc2 hHeld.1.lt, hHeld.2.below hc2 hHeld.2.lt⟩ (fun hH => ?_)
            clear hK K hHeld
            have hHeld := hH
            clear hH hva2 hbqz
            have q0 := q0.below hc2 q0.lt
            have q1 := q1.below hc2 q1.lt
            have qo := qo.below hc2 qo.lt
            have qy := qy.below hc2 qy.lt
            have hGl := hGl.up hc2
            have kb := kb.trans (hc2.mono kb.size)
            clear hc2
            refine wpAnyH_ready (rs := [5]) (by kernel_rfl) (by simp) (AllReadyH.cons rfl (fun K hK => ?_) AllReadyH.nil)
            rw [if_pos (by rfl)]
            go_simp
            refine (DH.out _ hGl).mono ?_
            rintro e vb2 ⟨rfl, hc1⟩
            try go_wp2_with fail
            refine hK.out _ _ ⟨hHeld.1.below hc1 hHeld.1.lt, hHeld.2.below hc1 hHeld.2.lt⟩ (fun hH => ?_)
            clear hK K hHeld
            have hHeld := hH
            clear hH
            have q0 := q0.below hc1 q0.lt
            have q1 := q1.below hc1 q1.lt
            have qo := qo.below hc1 qo.lt
            have qy := qy.below hc1 qy.lt
            have qz := qz.below hc1 qz.lt
            have hGl := hGl.up hc1
            have kb := kb.trans (hc1.mono kb.size)
            clear hc1
            refine takeH 6 (some 87) (.tuple #[.agg (tabv (bv (fun _ => (0 : UInt8))) 32), .int .i64 5]) rfl rfl (by kernel_rfl) (by kernel_rfl) (by kernel_rfl) (fun _ _ _ h => h) (by rfl) (fun w hw => by first | rfl | (go_simp; done) | (go_simp; rfl)) hHeld ?_
            simp only [Act.put, List.setIfInBounds_toArray, List.set_cons_zero, List.set_cons_succ]
            refine takeH 7 (some 94) (.agg (tabv (bv (fun _ => (0 : UInt8))) 32)) rfl rfl (by kernel_rfl) (by kernel_rfl) (by kernel_rfl) (fun _ _ _ h => h) (by rfl) (fun w hw => by first | rfl | (go_simp; done) | (go_simp; rfl)) hHeld ?_
            simp only [Act.put, List.setIfInBounds_toArray, List.set_cons_zero, List.set_cons_succ]
            refine takeH 8 (some 95) (.int .i64 5) rfl rfl (by kernel_rfl) (by kernel_rfl) (by kernel_rfl) (fun _ _ _ h => h) (by rfl) (fun w hw => by first | rfl | (go_simp; done) | (go_simp; rfl)) hHeld ?_
            simp only [Act.put, List.setIfInBounds_toArray, List.set_cons_zero, List.set_cons_succ]
            refine wpAnyH_ready (rs := [10]) (by kernel_rfl) (by simp) (AllReadyH.cons rfl (fun K hK => ?_) AllReadyH.nil)
            rw [if_pos (by rfl)]
            refine wp_store_part 23 _ _ rfl rfl bqz 0 (bv (fun _ => (0 : UInt8))) 32 rfl rfl 23 _ 32 qz (by omega) info26 (fun _ _ => rfl) (bv (fun _ => (0 : UInt8))) (fun i hi => by unfold splice; first | (rw [if_pos (by omega), Nat.sub_zero]) | (rw [if_pos (by omega)]; rfl)) ?_
            refine hK.out _ _ ⟨hHeld.1.row_other _ _ (by omega), hHeld.2.row_other _ _ (by omega)⟩ (fun hH => ?_)
            clear hK K hHeld
            have hHeld := hH
            clear hH
            have hGl : Glob n (vb2.setRow bqz (tabv (bv (fun _ => (0 : UInt8))) 32)) := hGl.below (below_setRow (Below.refl w.heap.size _) leqz _) hB0
            have kb := below_setRow kb leqz (tabv (bv (fun _ => (0 : UInt8))) 32)
            have q0 := q0.row_other bqz (tabv (bv (fun _ => (0 : UInt8))) 32) (by omega)
            have q1 := q1.row_other bqz (tabv (bv (fun _ => (0 : UInt8))) 32) (by omega)
            have qo := qo.row_other bqz (tabv (bv (fun _ => (0 : UInt8))) 32) (by omega)
            have qy := qy.row_other bqz (tabv (bv (fun _ => (0 : UInt8))) 32) (by omega)
            have qz := qz.row (tabv (bv (fun _ => (0 : UInt8))) 32) (bv (fun _ => (0 : UInt8))) rfl
            refine takeH 11 (some 18) (.int .i64 5) rfl rfl (by kernel_rfl) (by kernel_rfl) (by kernel_rfl) (fun _ _ _ h => h) (by rfl) (fun w hw => by first | rfl | (go_simp; done) | (go_simp; rfl)) hHeld ?_
            simp only [Act.put, List.setIfInBounds_toArray, List.set_cons_zero, List.set_cons_succ]
            refine ⟨by kernel_rfl, ?_⟩
            refine NoPanic.normal ?_
            obtain ⟨vc2, hvc2⟩ : ∃ x, vb2.setRow bqz (tabv (bv (fun _ => (0 : UInt8))) 32) = x := ⟨_, rfl⟩
            rw [hvc2] at q0
            rw [hvc2] at q1
            rw [hvc2] at qo
            rw [hvc2] at qy
            rw [hvc2] at qz
            rw [hvc2] at hGl
            rw [hvc2] at kb
            rw [hvc2]
            clear hHeld hvc2
            have f11 := qo.cell i hlt
            rw [HCV.out] at f11
            have HY_ := hide qy
            have HZ_ := hide qz
            go_wp2_with fail
            refine (HNEAR.out _).mono ?_
            rintro e wn ⟨rfl, hwn⟩
            obtain rfl := hwn.symm
            go_wp2_with (refine wpList_load_want (by rfl) 23 _ rfl bqz 0 rfl 23 _ 32 32 _ HZ_.out (by omega) Tryd.underlying23 rfl info26 (bv (fun _ => (0 : UInt8))) (fun i hi => by rw [Nat.zero_add]) ?_)
            go_roundw
            case rel => exact ⟨i + 1, by omega, by go_num, q0, q1, qo, hGl, kb⟩
            case measure => simp [intOf]; omega
        · rw [if_pos (by rfl)]
          go_simp
          obtain ⟨va1, hva1⟩ : ∃ x, V1.alloc (.cells (tabv (fun _ => .int .u8 0) 32) 23) = x := ⟨_, rfl⟩
          obtain ⟨bqy, hbqy⟩ : ∃ x, V1.heap.size = x := ⟨_, rfl⟩
          have hc2 : Below V1.heap.size V1 va1 := by rw [← hva1]; exact (Below.refl _ _).alloc (Nat.le_refl _) _
          have qy : Has va1 bqy 23 (fun _ => .int .u8 0) 32 := by rw [← hva1, ← hbqy]; exact Has.new V1 23 (fun _ => .int .u8 0) 32 _ rfl
          have ltqyq0 : b0 < bqy := by rw [← hbqy]; exact q0.lt
          have ltqyq1 : b16 < bqy := by rw [← hbqy]; exact q1.lt
          have ltqyqo : b11 < bqy := by rw [← hbqy]; exact qo.lt
          have leqy : w.heap.size ≤ bqy := by rw [← hbqy]; exact kb.size
          rw [zero32] at hva1
          rw [hva1, hbqy]
          refine hK.out _ _ ⟨hHeld.1.below hc2 hHeld.1.lt, hHeld.2.below hc2 hHeld.2.lt⟩ (fun hH => ?_)
          clear hK K hHeld
          have hHeld := hH
          clear hH hva1 hbqy
          have q0 := q0.below hc2 q0.lt
          have q1 := q1.below hc2 q1.lt
          have qo := qo.below hc2 qo.lt
          have hGl := hGl.up hc2
          have kb := kb.trans (hc2.mono kb.size)
          clear hc2
          refine wpAnyH_ready (rs := [4]) (by kernel_rfl) (by simp) (AllReadyH.cons rfl (fun K hK => ?_) AllReadyH.nil)
          rw [if_pos (by rfl)]
          go_simp
          refine (SC.out _ hGl).mono ?_
          rintro e vb1 ⟨rfl, hc1⟩
          try go_wp2_with fail
          refine hK.out _ _ ⟨hHeld.1.below hc1 hHeld.1.lt, hHeld.2.below hc1 hHeld.2.lt⟩ (fun hH => ?_)
          clear hK K hHeld
          have hHeld := hH
          clear hH
          have q0 := q0.below hc1 q0.lt
          have q1 := q1.below hc1 q1.lt
          have qo := qo.below hc1 qo.lt
          have qy := qy.below hc1 qy.lt
          have hGl := hGl.up hc1
          have kb := kb.trans (hc1.mono kb.size)
          clear hc1
          refine takeH 5 (some 79) (.tuple #[.agg (tabv (bv Y) 32), .int .i64 0]) rfl rfl (by kernel_rfl) (by kernel_rfl) (by kernel_rfl) (fun _ _ _ h => h) (by rfl) (fun w hw => by first | rfl | (go_simp; done) | (go_simp; rfl)) hHeld ?_
          simp only [Act.put, List.setIfInBounds_toArray, List.set_cons_zero, List.set_cons_succ]
          refine takeH 6 (some 85) (.agg (tabv (bv Y) 32)) rfl rfl (by kernel_rfl) (by kernel_rfl) (by kernel_rfl) (fun _ _ _ h => h) (by rfl) (fun w hw => by first | rfl | (go_simp; done) | (go_simp; rfl)) hHeld ?_
          simp only [Act.put, List.setIfInBounds_toArray, List.set_cons_zero, List.set_cons_succ]
          refine takeH 7 (some 86) (.int .i64 0) rfl rfl (by kernel_rfl) (by kernel_rfl) (by kernel_rfl) (fun _ _ _ h => h) (by rfl) (fun w hw => by first | rfl | (go_simp; done) | (go_simp; rfl)) hHeld ?_
          simp only [Act.put, List.setIfInBounds_toArray, List.set_cons_zero, List.set_cons_succ]
          refine wpAnyH_ready (rs := [9]) (by kernel_rfl) (by simp) (AllReadyH.cons rfl (fun K hK => ?_) AllReadyH.nil)
          rw [if_pos (by rfl)]
          refine wp_store_part 23 _ _ rfl rfl bqy 0 (bv Y) 32 rfl rfl 23 _ 32 qy (by omega) info26 (fun _ _ => rfl) (bv Y) (fun i hi => by unfold splice; first | (rw [if_pos (by omega), Nat.sub_zero]) | (rw [if_pos (by omega)]; rfl)) ?_
          refine hK.out _ _ ⟨hHeld.1.row_other _ _ (by omega), hHeld.2.row_other _ _ (by omega)⟩ (fun hH => ?_)
          clear hK K hHeld
          have hHeld := hH
          clear hH
          have hGl : Glob n (vb1.setRow bqy (tabv (bv Y) 32)) := hGl.below (below_setRow (Below.refl w.heap.size _) leqy _) hB0
          have kb := below_setRow kb leqy (tabv (bv Y) 32)
          have q0 := q0.row_other bqy (tabv (bv Y) 32) (by omega)
          have q1 := q1.row_other bqy (tabv (bv Y) 32) (by omega)
          have qo := qo.row_other bqy (tabv (bv Y) 32) (by omega)
          have qy := qy.row (tabv (bv Y) 32) (bv Y) rfl
          refine takeH 10 (some 16) (.int .i64 0) rfl rfl (by kernel_rfl) (by kernel_rfl) (by kernel_rfl) (fun _ _ _ h => h) (by rfl) (fun w hw => by first | rfl | (go_simp; done) | (go_simp; rfl)) hHeld ?_
          simp only [Act.put, List.setIfInBounds_toArray, List.set_cons_zero, List.set_cons_succ]
          refine ⟨by kernel_rfl, ?_⟩
          refine NoPanic.normal ?_
          obtain ⟨vc1, hvc1⟩ : ∃ x, vb1.setRow bqy (tabv (bv Y) 32) = x := ⟨_, rfl⟩
          rw [hvc1] at q0
          rw [hvc1] at q1
          rw [hvc1] at qo
          rw [hvc1] at qy
          rw [hvc1] at hGl
          rw [hvc1] at kb
          rw [hvc1]
          clear hHeld hvc1
          go_wp2
          obtain ⟨V2, hV2⟩ : ∃ v, vc1.drew = v := ⟨_, rfl⟩
          have q0 := q0.drew
          rw [hV2] at q0
          have q1 := q1.drew
          rw [hV2] at q1
          have qo := qo.drew
          rw [hV2] at qo
          have qy := qy.drew
          rw [hV2] at qy
          have hGl : Glob n V2 := by rw [← hV2]; exact hGl
          have kb : Below w.heap.size w V2 := by rw [← hV2]; exact ⟨kb.os, kb.tape, kb.output, kb.size, kb.block⟩
          have HV2 := hide hV2
          clear hV2
          refine wp_region_noPanic ?_
          refine wp_region_held_drew (S := fun wx => Has wx b16 23 (bv X) 32 ∧ Has wx b11 35 (ov b o1 o2 o3) 4) (by kernel_rfl) (by rw [HV2.out]; exact ⟨q1, qo⟩) (fun hHeld => ?_)
          rw [HV2.out] at hHeld ⊢
          refine takeH 0 (some 88) (.agg (tabv (bv X) 32)) rfl rfl (by kernel_rfl) (by kernel_rfl) (by kernel_rfl) (fun _ _ _ h => h) (by rfl) (fun wx hw => run_load_part wx 23 _ rfl b16 0 rfl 23 _ 32 32 _ hw.1 (by omega) Tryd.underlying23 rfl info26 (bv X) (fun i hi => by rw [Nat.zero_add])) hHeld ?_
          simp only [Act.put, List.setIfInBounds_toArray, List.set_cons_zero, List.set_cons_succ]
          refine takeH 1 (some 89) (.int .i64 (a : Int)) rfl rfl (by kernel_rfl) (by kernel_rfl) (by kernel_rfl) (fun _ _ _ h => h) (by rfl) (fun w hw => by first | rfl | (go_simp; done) | (go_simp; rfl)) hHeld ?_
          simp only [Act.put, List.setIfInBounds_toArray, List.set_cons_zero, List.set_cons_succ]
          refine takeH 2 (some 90) (.int .i64 (i : Int)) rfl rfl (by kernel_rfl) (by kernel_rfl) (by kernel_rfl) (fun _ _ _ h => h) (by rfl) (fun w hw => by first | rfl | (go_simp; done) | (go_simp; rfl)) hHeld ?_
          simp only [Act.put, List.setIfInBounds_toArray, List.set_cons_zero, List.set_cons_succ]
          refine takeH 3 (some 91) (.pointer (some ⟨b11, i, none⟩)) rfl rfl (by kernel_rfl) (by kernel_rfl) (by kernel_rfl) (fun _ _ _ h => h) (by rfl) (fun w hw => by first | rfl | (go_simp; done) | (go_simp; rfl) | (go_simp; intro hbad; exfalso; omega)) hHeld ?_
          simp only [Act.put, List.setIfInBounds_toArray, List.set_cons_zero, List.set_cons_succ]
          refine takeH 4 (some 92) (.int .i64 (c : Int)) rfl rfl (by kernel_rfl) (by kernel_rfl) (by kernel_rfl) (fun _ _ _ h => h) (by rfl) (fun w hw => by have hcc := hw.2.cell i hlt; rw [HCV.out] at hcc; first | rfl | (go_simp; done) | (go_simp; rfl)) hHeld ?_
          simp only [Act.put, List.setIfInBounds_toArray, List.set_cons_zero, List.set_cons_succ]
          refine wpAnyH_ready (rs := [5, 9]) (by kernel_rfl) (by simp) (AllReadyH.cons rfl (fun K hK => ?_) (AllReadyH.cons rfl (fun K hK => ?_) AllReadyH.nil))
          · rw [if_pos (by rfl)]
            go_simp
            refine (DH.out _ hGl).mono ?_
            rintro e va2 ⟨rfl, hc1⟩
            try go_wp2_with fail
            refine hK.out _ _ ⟨hHeld.1.below hc1 hHeld.1.lt, hHeld.2.below hc1 hHeld.2.lt⟩ (fun hH => ?_)
            clear hK K hHeld
            have hHeld := hH
            clear hH
            have q0 := q0.below hc1 q0.lt
            have q1 := q1.below hc1 q1.lt
            have qo := qo.below hc1 qo.lt
            have qy := qy.below hc1 qy.lt
            have hGl := hGl.up hc1
            have kb := kb.trans (hc1.mono kb.size)
            clear hc1
            refine takeH 6 (some 87) (.tuple #[.agg (tabv (bv (fun _ => (0 : UInt8))) 32), .int .i64 5]) rfl rfl (by kernel_rfl) (by kernel_rfl) (by kernel_rfl) (fun _ _ _ h => h) (by rfl) (fun w hw => by first | rfl | (go_simp; done) | (go_simp; rfl)) hHeld ?_
            simp only [Act.put, List.setIfInBounds_toArray, List.set_cons_zero, List.set_cons_succ]
            refine takeH 7 (some 94) (.agg (tabv (bv (fun _ => (0 : UInt8))) 32)) rfl rfl (by kernel_rfl) (by kernel_rfl) (by kernel_rfl) (fun _ _ _ h => h) (by rfl) (fun w hw => by first | rfl | (go_simp; done) | (go_simp; rfl)) hHeld ?_
            simp only [Act.put, List.setIfInBounds_toArray, List.set_cons_zero, List.set_cons_succ]
            refine takeH 8 (some 95) (.int .i64 5) rfl rfl (by kernel_rfl) (by kernel_rfl) (by kernel_rfl) (fun _ _ _ h => h) (by rfl) (fun w hw => by first | rfl | (go_simp; done) | (go_simp; rfl)) hHeld ?_
            simp only [Act.put, List.setIfInBounds_toArray, List.set_cons_zero, List.set_cons_succ]
            refine wpAnyH_ready (rs := [9]) (by kernel_rfl) (by simp) (AllReadyH.cons rfl (fun K hK => ?_) AllReadyH.nil)
            rw [if_pos (by rfl)]
            go_simp
            obtain ⟨vb2, hvb2⟩ : ∃ x, va2.alloc (.cells (tabv (fun _ => .int .u8 0) 32) 23) = x := ⟨_, rfl⟩
            obtain ⟨bqz, hbqz⟩ : ∃ x, va2.heap.size = x := ⟨_, rfl⟩
            have hc2 : Below va2.heap.size va2 vb2 := by rw [← hvb2]; exact (Below.refl _ _).alloc (Nat.le_refl _) _
            have qz : Has vb2 bqz 23 (fun _ => .int .u8 0) 32 := by rw [← hvb2, ← hbqz]; exact Has.new va2 23 (fun _ => .int .u8 0) 32 _ rfl
            have ltqzq0 : b0 < bqz := by rw [← hbqz]; exact q0.lt
            have ltqzq1 : b16 < bqz := by rw [← hbqz]; exact q1.lt
            have ltqzqo : b11 < bqz := by rw [← hbqz]; exact qo.lt
            have ltqzqy : bqy < bqz := by rw [← hbqz]; exact qy.lt
            have leqz : w.heap.size ≤ bqz := by rw [← hbqz]; exact kb.size
            rw [zero32] at hvb2
            rw [hvb2, hbqz]
            refine hK.out _ _ ⟨hHeld.1.below hc2 hHeld.1.lt, hHeld.2.below hc2 hHeld.2.lt⟩ (fun hH => ?_)
            clear hK K hHeld
            have hHeld := hH
            clear hH hvb2 hbqz
            have q0 := q0.below hc2 q0.lt
            have q1 := q1.below hc2 q1.lt
            have qo := qo.below hc2 qo.lt
            have qy := qy.below hc2 qy.lt
            have hGl := hGl.up hc2
            have kb := kb.trans (hc2.mono kb.size)
            clear hc2
            refine wpAnyH_ready (rs := [10]) (by kernel_rfl) (by simp) (AllReadyH.cons rfl (fun K hK => ?_) AllReadyH.nil)
            rw [if_pos (by rfl)]
            refine wp_store_part 23 _ _ rfl rfl bqz 0 (bv (fun _ => (0 : UInt8))) 32 rfl rfl 23 _ 32 qz (by omega) info26 (fun _ _ => rfl) (bv (fun _ => (0 : UInt8))) (fun i hi => by unfold splice; first | (rw [if_pos (by omega), Nat.sub_zero]) | (rw [if_pos (by omega)]; rfl)) ?_
            refine hK.out _ _ ⟨hHeld.1.row_other _ _ (by omega), hHeld.2.row_other _ _ (by omega)⟩ (fun hH => ?_)
            clear hK K hHeld
            have hHeld := hH
            clear hH
            have hGl : Glob n (vb2.setRow bqz (tabv (bv (fun _ => (0 : UInt8))) 32)) := hGl.below (below_setRow (Below.refl w.heap.size _) leqz _) hB0
            have kb := below_setRow kb leqz (tabv (bv (fun _ => (0 : UInt8))) 32)
            have q0 := q0.row_other bqz (tabv (bv (fun _ => (0 : UInt8))) 32) (by omega)
            have q1 := q1.row_other bqz (tabv (bv (fun _ => (0 : UInt8))) 32) (by omega)
            have qo := qo.row_other bqz (tabv (bv (fun _ => (0 : UInt8))) 32) (by omega)
            have qy := qy.row_other bqz (tabv (bv (fun _ => (0 : UInt8))) 32) (by omega)
            have qz := qz.row (tabv (bv (fun _ => (0 : UInt8))) 32) (bv (fun _ => (0 : UInt8))) rfl
            refine takeH 11 (some 18) (.int .i64 5) rfl rfl (by kernel_rfl) (by kernel_rfl) (by kernel_rfl) (fun _ _ _ h => h) (by rfl) (fun w hw => by first | rfl | (go_simp; done) | (go_simp; rfl)) hHeld ?_
            simp only [Act.put, List.setIfInBounds_toArray, List.set_cons_zero, List.set_cons_succ]
            refine ⟨by kernel_rfl, ?_⟩
            refine NoPanic.normal ?_
            obtain ⟨vc2, hvc2⟩ : ∃ x, vb2.setRow bqz (tabv (bv (fun _ => (0 : UInt8))) 32) = x := ⟨_, rfl⟩
            rw [hvc2] at q0
            rw [hvc2] at q1
            rw [hvc2] at qo
            rw [hvc2] at qy
            rw [hvc2] at qz
            rw [hvc2] at hGl
            rw [hvc2] at kb
            rw [hvc2]
            clear hHeld hvc2
            have f11 := qo.cell i hlt
            rw [HCV.out] at f11
            have HY_ := hide qy
            have HZ_ := hide qz
            go_wp2_with fail
            refine (HNEAR.out _).mono ?_
            rintro e wn ⟨rfl, hwn⟩
            obtain rfl := hwn.symm
            go_wp2_with (refine wpList_load_want (by rfl) 23 _ rfl bqz 0 rfl 23 _ 32 32 _ HZ_.out (by omega) Tryd.underlying23 rfl info26 (bv (fun _ => (0 : UInt8))) (fun i hi => by rw [Nat.zero_add]) ?_)
            go_roundw
            case rel => exact ⟨i + 1, by omega, by go_num, q0, q1, qo, hGl, kb⟩
            case measure => simp [intOf]; omega
          · rw [if_pos (by rfl)]
            go_simp
            obtain ⟨va2, hva2⟩ : ∃ x, V2.alloc (.cells (tabv (fun _ => .int .u8 0) 32) 23) = x := ⟨_, rfl⟩
            obtain ⟨bqz, hbqz⟩ : ∃ x, V2.heap.size = x := ⟨_, rfl⟩
            have hc2 : Below V2.heap.size V2 va2 := by rw [← hva2]; exact (Below.refl _ _).alloc (Nat.le_refl _) _
            have qz : Has va2 bqz 23 (fun _ => .int .u8 0) 32 := by rw [← hva2, ← hbqz]; exact Has.new V2 23 (fun _ => .int .u8 0) 32 _ rfl
            have ltqzq0 : b0 < bqz := by rw [← hbqz]; exact q0.lt
            have ltqzq1 : b16 < bqz := by rw [← hbqz]; exact q1.lt
            have ltqzqo : b11 < bqz := by rw [← hbqz]; exact qo.lt
            have ltqzqy : bqy < bqz := by rw [← hbqz]; exact qy.lt
            have leqz : w.heap.size ≤ bqz := by rw [← hbqz]; exact kb.size
            rw [zero32] at hva2
            rw [hva2, hbqz]
            refine hK.out _ _ ⟨hHeld.1.below hc2 hHeld.1.lt, hHeld.2.below hc2 hHeld.2.lt⟩ (fun hH => ?_)
            clear hK K hHeld
            have hHeld := hH
            clear hH hva2 hbqz
            have q0 := q0.below hc2 q0.lt
            have q1 := q1.below hc2 q1.lt
            have qo := qo.below hc2 qo.lt
            have qy := qy.below hc2 qy.lt
            have hGl := hGl.up hc2
            have kb := kb.trans (hc2.mono kb.size)
            clear hc2
            refine wpAnyH_ready (rs := [5]) (by kernel_rfl) (by simp) (AllReadyH.cons rfl (fun K hK => ?_) AllReadyH.nil)
            rw [if_pos (by rfl)]
            go_simp
            refine (DH.out _ hGl).mono ?_
            rintro e vb2 ⟨rfl, hc1⟩
            try go_wp2_with fail
            refine hK.out _ _ ⟨hHeld.1.below hc1 hHeld.1.lt, hHeld.2.below hc1 hHeld.2.lt⟩ (fun hH => ?_)
            clear hK K hHeld
            have hHeld := hH
            clear hH
            have q0 := q0.below hc1 q0.lt
            have q1 := q1.below hc1 q1.lt
            have qo := qo.below hc1 qo.lt
            have qy := qy.below hc1 qy.lt
            have qz := qz.below hc1 qz.lt
            have hGl := hGl.up hc1
            have kb := kb.trans (hc1.mono kb.size)
            clear hc1
            refine takeH 6 (some 87) (.tuple #[.agg (tabv (bv (fun _ => (0 : UInt8))) 32), .int .i64 5]) rfl rfl (by kernel_rfl) (by kernel_rfl) (by kernel_rfl) (fun _ _ _ h => h) (by rfl) (fun w hw => by first | rfl | (go_simp; done) | (go_simp; rfl)) hHeld ?_
            simp only [Act.put, List.setIfInBounds_toArray, List.set_cons_zero, List.set_cons_succ]
            refine takeH 7 (some 94) (.agg (tabv (bv (fun _ => (0 : UInt8))) 32)) rfl rfl (by kernel_rfl) (by kernel_rfl) (by kernel_rfl) (fun _ _ _ h => h) (by rfl) (fun w hw => by first | rfl | (go_simp; done) | (go_simp; rfl)) hHeld ?_
            simp only [Act.put, List.setIfInBounds_toArray, List.set_cons_zero, List.set_cons_succ]
            refine takeH 8 (some 95) (.int .i64 5) rfl rfl (by kernel_rfl) (by kernel_rfl) (by kernel_rfl) (fun _ _ _ h => h) (by rfl) (fun w hw => by first | rfl | (go_simp; done) | (go_simp; rfl)) hHeld ?_
            simp only [Act.put, List.setIfInBounds_toArray, List.set_cons_zero, List.set_cons_succ]
            refine wpAnyH_ready (rs := [10]) (by kernel_rfl) (by simp) (AllReadyH.cons rfl (fun K hK => ?_) AllReadyH.nil)
            rw [if_pos (by rfl)]
            refine wp_store_part 23 _ _ rfl rfl bqz 0 (bv (fun _ => (0 : UInt8))) 32 rfl rfl 23 _ 32 qz (by omega) info26 (fun _ _ => rfl) (bv (fun _ => (0 : UInt8))) (fun i hi => by unfold splice; first | (rw [if_pos (by omega), Nat.sub_zero]) | (rw [if_pos (by omega)]; rfl)) ?_
            refine hK.out _ _ ⟨hHeld.1.row_other _ _ (by omega), hHeld.2.row_other _ _ (by omega)⟩ (fun hH => ?_)
            clear hK K hHeld
            have hHeld := hH
            clear hH
            have hGl : Glob n (vb2.setRow bqz (tabv (bv (fun _ => (0 : UInt8))) 32)) := hGl.below (below_setRow (Below.refl w.heap.size _) leqz _) hB0
            have kb := below_setRow kb leqz (tabv (bv (fun _ => (0 : UInt8))) 32)
            have q0 := q0.row_other bqz (tabv (bv (fun _ => (0 : UInt8))) 32) (by omega)
            have q1 := q1.row_other bqz (tabv (bv (fun _ => (0 : UInt8))) 32) (by omega)
            have qo := qo.row_other bqz (tabv (bv (fun _ => (0 : UInt8))) 32) (by omega)
            have qy := qy.row_other bqz (tabv (bv (fun _ => (0 : UInt8))) 32) (by omega)
            have qz := qz.row (tabv (bv (fun _ => (0 : UInt8))) 32) (bv (fun _ => (0 : UInt8))) rfl
            refine takeH 11 (some 18) (.int .i64 5) rfl rfl (by kernel_rfl) (by kernel_rfl) (by kernel_rfl) (fun _ _ _ h => h) (by rfl) (fun w hw => by first | rfl | (go_simp; done) | (go_simp; rfl)) hHeld ?_
            simp only [Act.put, List.setIfInBounds_toArray, List.set_cons_zero, List.set_cons_succ]
            refine ⟨by kernel_rfl, ?_⟩
            refine NoPanic.normal ?_
            obtain ⟨vc2, hvc2⟩ : ∃ x, vb2.setRow bqz (tabv (bv (fun _ => (0 : UInt8))) 32) = x := ⟨_, rfl⟩
            rw [hvc2] at q0
            rw [hvc2] at q1
            rw [hvc2] at qo
            rw [hvc2] at qy
            rw [hvc2] at qz
            rw [hvc2] at hGl
            rw [hvc2] at kb
            rw [hvc2]
            clear hHeld hvc2
            have f11 := qo.cell i hlt
            rw [HCV.out] at f11
            have HY_ := hide qy
            have HZ_ := hide qz
            go_wp2_with fail
            refine (HNEAR.out _).mono ?_
            rintro e wn ⟨rfl, hwn⟩
            obtain rfl := hwn.symm
            go_wp2_with (refine wpList_load_want (by rfl) 23 _ rfl bqz 0 rfl 23 _ 32 32 _ HZ_.out (by omega) Tryd.underlying23 rfl info26 (bv (fun _ => (0 : UInt8))) (fun i hi => by rw [Nat.zero_add]) ?_)
            go_roundw
            case rel => exact ⟨i + 1, by omega, by go_num, q0, q1, qo, hGl, kb⟩
            case measure => simp [intOf]; omega
    · have hi4 : i = 4 := by omega
      subst hi4
      have dk : decide (((4 : Nat) : Int) < 4) = false := by decide
      go_wp2
      go_ret
      exact ⟨by simp, kb⟩
end Go.Proofs.YtfbhalonkcljgaaDoor
