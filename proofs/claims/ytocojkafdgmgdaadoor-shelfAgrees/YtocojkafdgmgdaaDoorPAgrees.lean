/-
  The walk of ShelfAgrees (printed by gen_agrees.py).
-/
import Derived.Test.YtocojkafdgmgdaaDoorPAgreesM
namespace Go.Proofs.YtocojkafdgmgdaaDoor
open Go.RowKit S
set_option linter.unusedVariables false
set_option linter.unusedSimpArgs false
set_option maxRecDepth 100000 in
set_option maxHeartbeats 8000000 in
theorem agrees_walk (ad : Option Addr) (n cap : Nat) (l : List Slot) (hn : l.length = n) (hz0 : n * 48 ≤ 140737488351232) (x : Int) (h : Nat → UInt8) (w : World) (hG : Glob num w) (hS : Slots w ad l) : Calls Tryd.prog 4 #[.slice ad n cap, .int .i64 x, .agg (tabv (bv h) 32)] w fun e w' => e = .returned (.bool true) ∧ Below w.heap.size w w' := by
  obtain ⟨w0, hW0⟩ : ∃ y, w.alloc (.cells (tabv (bv h) 32) 23) = y := ⟨_, rfl⟩
  have q0 : Has w0 w.heap.size 23 (bv h) 32 := by rw [← hW0]; exact Has.new w 23 (bv h) 32 _ rfl
  have kb : Below w.heap.size w w0 := by rw [← hW0]; exact (Below.refl w.heap.size w).alloc (Nat.le_refl _) _
  have hGl : Glob num w0 := hG.below kb hG.2.2
  have sl := hS.below kb
  obtain ⟨b0, hb0⟩ : ∃ y, w.heap.size = y := ⟨_, rfl⟩
  rw [hb0] at q0
  have P1 := fun w => put_any ad n cap l hn x h w
  have SL := sLevel_any x
  have SL := hide SL
  have hPC := put_cases l x h
  have PC := hide hPC
  clear hPC
  obtain ⟨A, hA⟩ : ∃ A, putA l x h = A := ⟨_, rfl⟩
  rw [hA] at PC P1
  clear hA
  have P1 := hide P1
  have HN := hide hn
  clear hn
  go_enter Tryd.func4, Tryd.ntmps4
  go_wp2_with fail
  refine (pfirst_any _ hGl).mono ?_
  rintro e w1 ⟨rfl, hb2⟩
  have q0 := q0.below hb2 q0.lt
  have sl := sl.below hb2
  have hGl := hGl.up hb2
  have kb := kb.trans (hb2.mono kb.size)
  clear hb2
  clear hW0
  try rw [hb0]
  have Hq0 := hide q0
  go_wp2_with (first | refine wpList_load_part rfl 23 _ rfl b0 0 rfl 23 _ 32 32 _ Hq0.out (by omega) Tryd.underlying23 rfl info26 (bv h) (fun i hi => by rw [Nat.zero_add]) ?_)
  clear Hq0
  refine (P1.out _ hGl sl).mono ?_
  rintro e w3 ⟨⟨v1, rfl, o1⟩, hb4⟩
  have q0 := q0.below hb4 q0.lt
  have sl := sl.below hb4
  have hGl := hGl.up hb4
  have kb := kb.trans (hb4.mono kb.size)
  clear hb4
  go_wp2_with fail
  refine (SL.out _).mono ?_
  rintro e w5 ⟨rfl, hb6⟩
  have q0 := q0.below hb6 q0.lt
  have sl := sl.below hb6
  have o1 := o1.below hb6 (Nat.le_refl _)
  have hGl := hGl.up hb6
  have kb := kb.trans (hb6.mono kb.size)
  clear hb6
  have hpc := PC.out
  clear PC P1 SL
  rcases hpc with ⟨hA, hl⟩ | ⟨hA, hl, hx⟩ | ⟨hA, hl, hx⟩ | ⟨hA, hl, hx, hok⟩
  · subst hA
    obtain ⟨ad1, cap1, rfl, -, -⟩ := o1.slotsN (n := 0) rfl
    rw [HN.out] at hl
    have d1 : decide ((49 : Int) < (n : Int)) = true := decide_eq_true (by omega)
    have d2 : decide ((n : Int) ≤ 49) = false := decide_eq_false (by omega)
    go_wp2
    go_ret
    exact ⟨by simp, kb⟩
  · subst hA
    obtain ⟨ad1, cap1, rfl, -, -⟩ := o1.slotsN (n := 0) rfl
    rw [HN.out] at hl
    have d1 : decide ((49 : Int) < (n : Int)) = false := decide_eq_false (by omega)
    have d2 : decide ((n : Int) ≤ 49) = true := decide_eq_true (by omega)
    have e2 : levelA x = (0, 90) := by unfold levelA; rw [if_neg (by rw [hx]; decide)]
    rw [e2]
    clear hx
    go_wp2
    go_ret
    exact ⟨by simp, kb⟩
  · subst hA
    obtain ⟨ad1, cap1, rfl, -, -⟩ := o1.slotsN (n := 0) rfl
    rw [HN.out] at hl
    have d1 : decide ((49 : Int) < (n : Int)) = false := decide_eq_false (by omega)
    have d2 : decide ((n : Int) ≤ 49) = true := decide_eq_true (by omega)
    have e2 : levelA x = ((lvl (place x.toNat) 48 : Int), 0) := by unfold levelA; rw [if_pos hx]
    rw [e2]
    generalize lvl (place x.toNat) 48 = L
    clear hx
    go_wp2
    go_ret
    exact ⟨by simp, kb⟩
  · subst hA
    obtain ⟨N, rfl, hN⟩ := isN_cast hx
    rw [HN.out] at hl
    have e2 : levelA (N : Int) = ((lvl (place N) 48 : Int), 0) := level_nat hN
    rw [e2]
    rw [Int.toNat_natCast] at hok o1
    have hpg := put_get hN hok
    have hL := lvl_le 48 (place N)
    have d1 : decide ((49 : Int) < (n : Int)) = false := decide_eq_false (by omega)
    have d2 : decide ((n : Int) ≤ 49) = true := decide_eq_true (by omega)
    obtain ⟨L, hLL⟩ : ∃ L, lvl (place N) 48 = L := ⟨_, rfl⟩
    rw [hLL] at hpg hok o1 hL ⊢
    have hMj : ∀ j, j < 49 → (withA l L ⟨(N : Int), h, true⟩)[j]? = some (if j = L then ⟨(N : Int), h, true⟩ else atA l j) := fun j hj => withA_get _ _ _ j hj
    have hMl := withA_length l L ⟨(N : Int), h, true⟩
    have G1 := fun ad cap w => get_any ad 49 cap _ hMl (N : Int) w
    obtain ⟨M, hM⟩ : ∃ M, withA l L ⟨(N : Int), h, true⟩ = M := ⟨_, rfl⟩
    rw [hM] at hpg o1 hMj hMl G1
    obtain ⟨X, hX⟩ : ∃ X, getA M (N : Int) = X := ⟨_, rfl⟩
    rw [hX] at hpg G1
    obtain ⟨F, E⟩ := X
    obtain ⟨hE, hF⟩ := hpg
    obtain rfl : E = 0 := hE
    have HF := hide hF
    have G1 := hide G1
    have HOK := hide hok
    have HM := hide hMj
    have HML := hide hMl
    have HLL := hide hL
    clear hF hok hMj hMl hM hX e2 hLL hx hN
    obtain ⟨adM, capM, rfl, sm, -, -⟩ := o1.slotsN HML.out
    clear o1
    obtain ⟨sN, hsN⟩ : ∃ sN : Slot, sN = ⟨(N : Int), h, true⟩ := ⟨_, rfl⟩
    have hMLs : M[L]? = some sN := by rw [HM.out L (by omega), if_pos rfl, hsN]
    obtain ⟨bM, oM, rfl, hbM, hAt⟩ := sm.get L _ hMLs
    have HAt := hide hAt
    have HsN := hide hsN
    clear hAt hMLs hsN
    have hL0 : (0 : Int) ≤ (L : Int) := by omega
    have hL1 : (L : Int) < 49 := by omega
    have hqN : ∀ w : World, (Op.equalIn 10000 37 (.agg (tabv sN.v 34)) (.agg (tabv sN.v 34))).run Tryd.prog w = .ok true w := fun w => by rw [eqSD, eqSl_refl]
    have hgt := guard26
    have hgs := guardS
    have Hq0 := hide q0
    go_wp2
    refine wp_region_quiet_lit (by kernel_rfl) (by kernel_rfl) ?_
    iterate 16 (go_big_quiet_step (fail))
    go_big_quiet_want
    refine quiet_value (fun w' hw' => run_load_at w' 37 _ rfl bM (oM + L * 34) (by rfl) (sN.v) 34 _ (by obtain ⟨m, rfl⟩ := hw'; exact HAt.out) Tryd.underlying37 rfl infoS) ?_
    simp only [Act.put, List.setIfInBounds_toArray, List.set_cons_succ, List.set_cons_zero]
    go_big_quiet_on
    iterate 1 (go_big_quiet_step (fail))
    go_big_quiet_want
    refine quiet_value (fun w' hw' => run_load_part w' 23 _ rfl b0 0 rfl 23 _ 32 32 _ (by obtain ⟨m, rfl⟩ := hw'; exact Hq0.out.drewN m) (by omega) Tryd.underlying23 rfl info26 (bv h) (fun i hi => by rw [Nat.zero_add])) ?_
    simp only [Act.put, List.setIfInBounds_toArray, List.set_cons_succ, List.set_cons_zero]
    go_big_quiet_on
    go_big_quiet_want
    refine quiet_value (fun w' hw' => run_buildS w' _ _ true rfl (N : Int) h rfl rfl) ?_
    simp only [Act.put, List.setIfInBounds_toArray, List.set_cons_succ, List.set_cons_zero]
    go_big_quiet_on
    rw [← HsN.out]
    iterate 2 (go_big_quiet_step (fail))
    refine wpQuiet_nil ?_
    intro _ hw'
    obtain ⟨nq, rfl⟩ := hw'
    clear Hq0 HAt
    have hbd := belowD (Below.refl w5.heap.size w5) nq
    have q0 := q0.below hbd q0.lt
    have sl := sl.below hbd
    have sm := sm.below hbd
    have hGl := hGl.up hbd
    have kb := kb.trans (hbd.mono kb.size)
    generalize World.drewN _ nq = wL at q0 sl sm hGl kb ⊢
    clear hbd hqN
    go_wp2
    go_loopw [11] (fun i wr => ∃ j : Nat, j ≤ 49 ∧ i = .int .i64 j ∧ Has wr b0 23 (bv h) 32 ∧ Slots wr ad l ∧ Slots wr (some ⟨bM, oM, none⟩) M ∧ Glob num wr ∧ Below w.heap.size w wr) (fun i _ => 49 - (intOf i).toNat)
    case atStart => exact ⟨0, by omega, rfl, q0, sl, sm, hGl, kb⟩
    case round =>
      clear q0 sl sm hGl kb hbM
      obtain ⟨j, hj, rfl, q0, sl, sm, hGl, kb⟩ := hrel
      by_cases hlt : j < 49
      · have hd : decide ((j : Int) < 49) = true := decide_eq_true (by omega)
        have hk0 : (0 : Int) ≤ (j : Int) := by omega
        have hk1 : (j : Int) < 49 := by omega
        by_cases hjn : j < n
        · obtain ⟨s, hs⟩ : ∃ s, l[j]? = some s := ⟨_, List.getElem?_eq_getElem (by rw [HN.out]; exact hjn)⟩
          have hjn1 : decide ((j : Int) < (n : Int)) = true := decide_eq_true (by omega)
          have hjn2 : (j : Int) < (n : Int) := by omega
          have hjn3 : decide (j < n) = true := decide_eq_true hjn
          cases hf : s.full with
          | true =>
            have HS := hide (at_full hs hf)
            obtain ⟨B, hB⟩ : ∃ B, wr.heap.size = B := ⟨_, rfl⟩
            obtain ⟨w1, hz⟩ : ∃ y, wr.alloc (.cells (tabv Slot.zero.v 34) 37) = y := ⟨_, rfl⟩
            have q1 : Has w1 B 37 Slot.zero.v 34 := by rw [← hz, ← hB]; exact Has.new wr 37 Slot.zero.v 34 _ rfl
            have hb1 : Below wr.heap.size wr w1 := by rw [← hz]; exact (Below.refl _ _).alloc (Nat.le_refl _) _
            rw [← zero34] at hz
            obtain ⟨w2, hz2⟩ : ∃ y, w1.setRow B (tabv Slot.zero.v 34) = y := ⟨_, rfl⟩
            have q2 : Has w2 B 37 Slot.zero.v 34 := by rw [← hz2]; exact q1.row _ _ rfl
            have hb2 : Below wr.heap.size wr w2 := by rw [← hz2]; exact below_setRow hb1 (by omega) _
            have HZ2 := hide hz2
            have Hq1 := hide q1
            clear hz2 q1 hb1
            obtain ⟨b8, o8, rfl, hb8, hA8⟩ := (sl.below hb2).get j _ hs
            have k33 : w2.cell? ⟨b8, o8 + j * 34 + 33, none⟩ = some (.bool true) := by rw [hA8 33 (by omega), Slot.v_full, hf]
            have HA8 := hide hA8
            clear hA8
            have hn0 : (0 : Int) ≤ (j : Int) := hk0
            obtain ⟨w3, hz3⟩ : ∃ y, w2.setRow B (tabv s.v 34) = y := ⟨_, rfl⟩
            have q3 : Has w3 B 37 s.v 34 := by rw [← hz3]; exact q2.row _ _ rfl
            have hb3 : Below wr.heap.size wr w3 := by rw [← hz3]; exact below_setRow hb2 (by omega) _
            have HZ3 := hide hz3
            have Hq2 := hide q2
            clear hz3 q2
            have q0 := q0.below hb3 q0.lt
            have sl := sl.below hb3
            have sm := sm.below hb3
            have hGl := hGl.up hb3
            have kb := kb.trans (hb3.mono kb.size)
            have qs := q3
            clear q3 hb2 hb3
            clear hs
            go_wp2_with (first | (refine wpList_storeS rfl _ _ rfl rfl B Slot.zero rfl rfl _ Hq1.out ?_; rw [HZ2.out]) | refine wpW_load_at 37 _ rfl b8 (o8 + j * 34) (by rfl) (by rfl) _ 34 _ HA8.out Tryd.underlying37 rfl infoS ?_ | (refine wpList_storeS rfl _ _ rfl rfl B s rfl rfl _ Hq2.out ?_; rw [HZ3.out]))
            try rw [hB]
            clear hz
            rcases Nat.lt_trichotomy j L with hjL | hjL | hjL
            · have dn : ((j : Int) != (L : Int)) = true := by simp; omega
              have dl : decide ((j : Int) < (L : Int)) = true := decide_eq_true (by omega)
              have dl2 : decide (j < L) = true := decide_eq_true (by omega)
              have hMs : M[j]? = some s := by rw [HM.out j hlt, if_neg (by omega), HS.out]
              obtain ⟨b9, o9, e9, hb9, hAt⟩ := sm.get j _ hMs
              cases e9
              have HAt := hide hAt
              clear hAt hMs
              have hqs : ∀ w : World, (Op.equalIn 10000 37 (.agg (tabv s.v 34)) (.agg (tabv s.v 34))).run Tryd.prog w = .ok true w := fun w => by rw [eqSD, eqSl_refl]
              have Hqs := hide qs
              go_wp2
              refine wp_region_quiet_lit (by kernel_rfl) (by kernel_rfl) ?_
              iterate 7 (go_big_quiet_step (fail))
              go_big_quiet_want
              refine quiet_value (fun w' hw' => run_load_at w' 37 _ rfl bM (oM + j * 34) (by rfl) (s.v) 34 _ (by obtain ⟨m, rfl⟩ := hw'; exact HAt.out) Tryd.underlying37 rfl infoS) ?_
              simp only [Act.put, List.setIfInBounds_toArray, List.set_cons_succ, List.set_cons_zero]
              go_big_quiet_on
              go_big_quiet_want
              refine quiet_value (fun w' hw' => run_load_part w' 37 _ rfl B 0 rfl 37 _ 34 34 _ (by obtain ⟨m, rfl⟩ := hw'; exact Hqs.out.drewN m) (by omega) Tryd.underlying37 rfl infoS (s.v) (fun i hi => by rw [Nat.zero_add])) ?_
              simp only [Act.put, List.setIfInBounds_toArray, List.set_cons_succ, List.set_cons_zero]
              go_big_quiet_on
              iterate 2 (go_big_quiet_step (fail))
              refine wpQuiet_nil ?_
              intro _ hw'
              obtain ⟨nq, rfl⟩ := hw'
              clear Hqs HAt hqs
              have hbd := belowD (Below.refl w3.heap.size w3) nq
              have q0 := q0.below hbd q0.lt
              have sl := sl.below hbd
              have sm := sm.below hbd
              have qs := qs.below hbd qs.lt
              have hGl := hGl.up hbd
              have kb := kb.trans (hbd.mono kb.size)
              generalize World.drewN _ nq = w15 at q0 sl sm qs hGl kb ⊢
              clear hbd
              have c33 := qs.cell 33 (by omega)
              rw [Slot.v_full, hf] at c33
              have hok := ok_full (HOK.out j hjL) (by rw [HS.out]; exact hf)
              rw [HS.out] at hok
              have c0 := qs.cell 0 (by omega)
              rw [Slot.v_idx] at c0
              have SD := fun w hG => sDerive_any num h (N : Int) s.idx w hG
              obtain ⟨D, hD⟩ : ∃ D, deriveA h (N : Int) s.idx = D := ⟨_, rfl⟩
              rw [hD] at SD hok
              obtain ⟨D1, D2⟩ := D
              obtain ⟨hD2, hD1⟩ := hok
              obtain rfl : D2 = 0 := hD2
              clear hD
              have hqd : ∀ w : World, (Op.equalIn 10000 23 (.agg (tabv (bv D1) 32)) (.agg (tabv (bv s.sec) 32))).run Tryd.prog w = .ok true w := fun w => by rw [eqHD 9998 w D1 s.sec, hD1]
              have SD := hide SD
              clear hD1 hf
              have Hq0 := hide q0
              go_wp2_with (first | refine wpList_load_part rfl 23 _ rfl b0 0 rfl 23 _ 32 32 _ Hq0.out (by omega) Tryd.underlying23 rfl info26 (bv h) (fun i hi => by rw [Nat.zero_add]) ?_)
              clear Hq0
              clear c33 c0
              refine (SD.out _ hGl).mono ?_
              rintro e w7 ⟨rfl, hb8⟩
              have q0 := q0.below hb8 q0.lt
              have sl := sl.below hb8
              have sm := sm.below hb8
              have qs := qs.below hb8 qs.lt
              have hGl := hGl.up hb8
              have kb := kb.trans (hb8.mono kb.size)
              clear hb8
              have hn11 := Has.new w7 23 (fun _ => .int .u8 0) 32 _ rfl
              rw [zero32] at hn11
              obtain ⟨b10, hb10⟩ : ∃ g, w7.heap.size = g := ⟨_, rfl⟩
              obtain ⟨w9, hz12⟩ : ∃ x, (w7.alloc (.cells (tabv (fun _ => .int .u8 0) 32) 23)).setRow w7.heap.size (tabv (bv D1) 32) = x := ⟨_, rfl⟩
              have hbx : Below w7.heap.size w7 w9 := by rw [← hz12]; exact below_setRow ((Below.refl _ _).alloc (Nat.le_refl _) _) (Nat.le_refl _) _
              have q0 := q0.below hbx q0.lt
              have sl := sl.below hbx
              have sm := sm.below hbx
              have qs := qs.below hbx qs.lt
              have hGl := hGl.up hbx
              have kb := kb.trans (hbx.mono kb.size)
              have q3 : Has w9 b10 23 (bv D1) 32 := by rw [zero32] at hz12; rw [← hz12, ← hb10]; exact hn11.row _ _ rfl
              rw [zero32] at hz12
              have Hhn11 := hide hn11
              have Hhz12 := hide hz12
              have Hhb10 := hide hb10
              clear hn11 hz12 hb10 hbx
              have Hq3 := hide q3
              have Hqs := hide qs
              go_wp2_with (first | (refine wpList_storeH rfl _ _ rfl rfl w7.heap.size (D1) rfl rfl _ Hhn11.out ?_; rw [Hhz12.out]) | refine wpList_load_part rfl 23 _ rfl b10 0 rfl 23 _ 32 32 _ Hq3.out (by omega) Tryd.underlying23 rfl info26 ((bv D1)) (fun i hi => by rw [Nat.zero_add]) ?_ | (rw [Hhb10.out]; refine wpList_load_part rfl 23 _ rfl b10 0 rfl 23 _ 32 32 _ Hq3.out (by omega) Tryd.underlying23 rfl info26 ((bv D1)) (fun i hi => by rw [Nat.zero_add]) ?_) | refine wpList_load_part rfl 23 _ rfl B 1 rfl 37 _ 34 32 _ Hqs.out (by omega) Tryd.underlying23 rfl info26 (bv s.sec) (fun i hi => Slot.v_sec _ i hi) ?_ | (rw [Hhb10.out]; refine wpList_load_part rfl 23 _ rfl B 1 rfl 37 _ 34 32 _ Hqs.out (by omega) Tryd.underlying23 rfl info26 (bv s.sec) (fun i hi => Slot.v_sec _ i hi) ?_))
              go_roundw
              case rel => exact ⟨j + 1, by omega, by go_num, q0, sl, sm, hGl, kb⟩
              case measure => simp [intOf]; omega
            · subst hjL
              have dn : ((j : Int) != (j : Int)) = false := by simp
              have dl : decide ((j : Int) < (j : Int)) = false := decide_eq_false (by omega)
              go_wp2
              refine wp_region_quiet_lit (by kernel_rfl) (by kernel_rfl) ?_
              iterate 11 (go_big_quiet_step (fail))
              refine wpQuiet_nil ?_
              intro _ hw'
              obtain ⟨nq, rfl⟩ := hw'
              have hbd := belowD (Below.refl w3.heap.size w3) nq
              have q0 := q0.below hbd q0.lt
              have sl := sl.below hbd
              have sm := sm.below hbd
              have qs := qs.below hbd qs.lt
              have hGl := hGl.up hbd
              have kb := kb.trans (hbd.mono kb.size)
              generalize World.drewN _ nq = w15 at q0 sl sm qs hGl kb ⊢
              clear hbd
              have c33 := qs.cell 33 (by omega)
              rw [Slot.v_full, hf] at c33
              go_wp2
              go_roundw
              case rel => exact ⟨j + 1, by omega, by go_num, q0, sl, sm, hGl, kb⟩
              case measure => simp [intOf]; omega
            · have dn : ((j : Int) != (L : Int)) = true := by simp; omega
              have dl : decide ((j : Int) < (L : Int)) = false := decide_eq_false (by omega)
              have dl2 : decide (j < L) = false := decide_eq_false (by omega)
              have hMs : M[j]? = some s := by rw [HM.out j hlt, if_neg (by omega), HS.out]
              obtain ⟨b9, o9, e9, hb9, hAt⟩ := sm.get j _ hMs
              cases e9
              have HAt := hide hAt
              clear hAt hMs
              have hqs : ∀ w : World, (Op.equalIn 10000 37 (.agg (tabv s.v 34)) (.agg (tabv s.v 34))).run Tryd.prog w = .ok true w := fun w => by rw [eqSD, eqSl_refl]
              have Hqs := hide qs
              go_wp2
              refine wp_region_quiet_lit (by kernel_rfl) (by kernel_rfl) ?_
              iterate 7 (go_big_quiet_step (fail))
              go_big_quiet_want
              refine quiet_value (fun w' hw' => run_load_at w' 37 _ rfl bM (oM + j * 34) (by rfl) (s.v) 34 _ (by obtain ⟨m, rfl⟩ := hw'; exact HAt.out) Tryd.underlying37 rfl infoS) ?_
              simp only [Act.put, List.setIfInBounds_toArray, List.set_cons_succ, List.set_cons_zero]
              go_big_quiet_on
              go_big_quiet_want
              refine quiet_value (fun w' hw' => run_load_part w' 37 _ rfl B 0 rfl 37 _ 34 34 _ (by obtain ⟨m, rfl⟩ := hw'; exact Hqs.out.drewN m) (by omega) Tryd.underlying37 rfl infoS (s.v) (fun i hi => by rw [Nat.zero_add])) ?_
              simp only [Act.put, List.setIfInBounds_toArray, List.set_cons_succ, List.set_cons_zero]
              go_big_quiet_on
              iterate 2 (go_big_quiet_step (fail))
              refine wpQuiet_nil ?_
              intro _ hw'
              obtain ⟨nq, rfl⟩ := hw'
              clear Hqs HAt hqs
              have hbd := belowD (Below.refl w3.heap.size w3) nq
              have q0 := q0.below hbd q0.lt
              have sl := sl.below hbd
              have sm := sm.below hbd
              have qs := qs.below hbd qs.lt
              have hGl := hGl.up hbd
              have kb := kb.trans (hbd.mono kb.size)
              generalize World.drewN _ nq = w15 at q0 sl sm qs hGl kb ⊢
              clear hbd
              have c33 := qs.cell 33 (by omega)
              rw [Slot.v_full, hf] at c33
              go_wp2
              go_roundw
              case rel => exact ⟨j + 1, by omega, by go_num, q0, sl, sm, hGl, kb⟩
              case measure => simp [intOf]; omega
          | false =>
            have HS := hide (at_empty hs hf)
            obtain ⟨B, hB⟩ : ∃ B, wr.heap.size = B := ⟨_, rfl⟩
            obtain ⟨w1, hz⟩ : ∃ y, wr.alloc (.cells (tabv Slot.zero.v 34) 37) = y := ⟨_, rfl⟩
            have q1 : Has w1 B 37 Slot.zero.v 34 := by rw [← hz, ← hB]; exact Has.new wr 37 Slot.zero.v 34 _ rfl
            have hb1 : Below wr.heap.size wr w1 := by rw [← hz]; exact (Below.refl _ _).alloc (Nat.le_refl _) _
            rw [← zero34] at hz
            obtain ⟨w2, hz2⟩ : ∃ y, w1.setRow B (tabv Slot.zero.v 34) = y := ⟨_, rfl⟩
            have q2 : Has w2 B 37 Slot.zero.v 34 := by rw [← hz2]; exact q1.row _ _ rfl
            have hb2 : Below wr.heap.size wr w2 := by rw [← hz2]; exact below_setRow hb1 (by omega) _
            have HZ2 := hide hz2
            have Hq1 := hide q1
            clear hz2 q1 hb1
            obtain ⟨b8, o8, rfl, hb8, hA8⟩ := (sl.below hb2).get j _ hs
            have k33 : w2.cell? ⟨b8, o8 + j * 34 + 33, none⟩ = some (.bool false) := by rw [hA8 33 (by omega), Slot.v_full, hf]
            have HA8 := hide hA8
            clear hA8
            have hn0 : (0 : Int) ≤ (j : Int) := hk0
            have q3 := q2
            have hb3 := hb2
            clear q2
            have q0 := q0.below hb3 q0.lt
            have sl := sl.below hb3
            have sm := sm.below hb3
            have hGl := hGl.up hb3
            have kb := kb.trans (hb3.mono kb.size)
            have qs := q3
            clear q3 hb2 hb3
            clear hf
            have hf : Slot.zero.full = false := rfl
            clear hs
            go_wp2_with (first | (refine wpList_storeS rfl _ _ rfl rfl B Slot.zero rfl rfl _ Hq1.out ?_; rw [HZ2.out]))
            try rw [hB]
            clear hz
            rcases Nat.lt_trichotomy j L with hjL | hjL | hjL
            · have dn : ((j : Int) != (L : Int)) = true := by simp; omega
              have dl : decide ((j : Int) < (L : Int)) = true := decide_eq_true (by omega)
              have dl2 : decide (j < L) = true := decide_eq_true (by omega)
              have hMs : M[j]? = some Slot.zero := by rw [HM.out j hlt, if_neg (by omega), HS.out]
              obtain ⟨b9, o9, e9, hb9, hAt⟩ := sm.get j _ hMs
              cases e9
              have HAt := hide hAt
              clear hAt hMs
              have hqs : ∀ w : World, (Op.equalIn 10000 37 (.agg (tabv Slot.zero.v 34)) (.agg (tabv Slot.zero.v 34))).run Tryd.prog w = .ok true w := fun w => by rw [eqSD, eqSl_refl]
              have Hqs := hide qs
              go_wp2
              refine wp_region_quiet_lit (by kernel_rfl) (by kernel_rfl) ?_
              iterate 7 (go_big_quiet_step (fail))
              go_big_quiet_want
              refine quiet_value (fun w' hw' => run_load_at w' 37 _ rfl bM (oM + j * 34) (by rfl) (Slot.zero.v) 34 _ (by obtain ⟨m, rfl⟩ := hw'; exact HAt.out) Tryd.underlying37 rfl infoS) ?_
              simp only [Act.put, List.setIfInBounds_toArray, List.set_cons_succ, List.set_cons_zero]
              go_big_quiet_on
              go_big_quiet_want
              refine quiet_value (fun w' hw' => run_load_part w' 37 _ rfl B 0 rfl 37 _ 34 34 _ (by obtain ⟨m, rfl⟩ := hw'; exact Hqs.out.drewN m) (by omega) Tryd.underlying37 rfl infoS (Slot.zero.v) (fun i hi => by rw [Nat.zero_add])) ?_
              simp only [Act.put, List.setIfInBounds_toArray, List.set_cons_succ, List.set_cons_zero]
              go_big_quiet_on
              iterate 2 (go_big_quiet_step (fail))
              refine wpQuiet_nil ?_
              intro _ hw'
              obtain ⟨nq, rfl⟩ := hw'
              clear Hqs HAt hqs
              have hbd := belowD (Below.refl w2.heap.size w2) nq
              have q0 := q0.below hbd q0.lt
              have sl := sl.below hbd
              have sm := sm.below hbd
              have qs := qs.below hbd qs.lt
              have hGl := hGl.up hbd
              have kb := kb.trans (hbd.mono kb.size)
              generalize World.drewN _ nq = w15 at q0 sl sm qs hGl kb ⊢
              clear hbd
              have c33 := qs.cell 33 (by omega)
              rw [Slot.v_full, hf] at c33
              go_wp2
              go_roundw
              case rel => exact ⟨j + 1, by omega, by go_num, q0, sl, sm, hGl, kb⟩
              case measure => simp [intOf]; omega
            · subst hjL
              have dn : ((j : Int) != (j : Int)) = false := by simp
              have dl : decide ((j : Int) < (j : Int)) = false := decide_eq_false (by omega)
              go_wp2
              refine wp_region_quiet_lit (by kernel_rfl) (by kernel_rfl) ?_
              iterate 11 (go_big_quiet_step (fail))
              refine wpQuiet_nil ?_
              intro _ hw'
              obtain ⟨nq, rfl⟩ := hw'
              have hbd := belowD (Below.refl w2.heap.size w2) nq
              have q0 := q0.below hbd q0.lt
              have sl := sl.below hbd
              have sm := sm.below hbd
              have qs := qs.below hbd qs.lt
              have hGl := hGl.up hbd
              have kb := kb.trans (hbd.mono kb.size)
              generalize World.drewN _ nq = w15 at q0 sl sm qs hGl kb ⊢
              clear hbd
              have c33 := qs.cell 33 (by omega)
              rw [Slot.v_full, hf] at c33
              go_wp2
              go_roundw
              case rel => exact ⟨j + 1, by omega, by go_num, q0, sl, sm, hGl, kb⟩
              case measure => simp [intOf]; omega
            · have dn : ((j : Int) != (L : Int)) = true := by simp; omega
              have dl : decide ((j : Int) < (L : Int)) = false := decide_eq_false (by omega)
              have dl2 : decide (j < L) = false := decide_eq_false (by omega)
              have hMs : M[j]? = some Slot.zero := by rw [HM.out j hlt, if_neg (by omega), HS.out]
              obtain ⟨b9, o9, e9, hb9, hAt⟩ := sm.get j _ hMs
              cases e9
              have HAt := hide hAt
              clear hAt hMs
              have hqs : ∀ w : World, (Op.equalIn 10000 37 (.agg (tabv Slot.zero.v 34)) (.agg (tabv Slot.zero.v 34))).run Tryd.prog w = .ok true w := fun w => by rw [eqSD, eqSl_refl]
              have Hqs := hide qs
              go_wp2
              refine wp_region_quiet_lit (by kernel_rfl) (by kernel_rfl) ?_
              iterate 7 (go_big_quiet_step (fail))
              go_big_quiet_want
              refine quiet_value (fun w' hw' => run_load_at w' 37 _ rfl bM (oM + j * 34) (by rfl) (Slot.zero.v) 34 _ (by obtain ⟨m, rfl⟩ := hw'; exact HAt.out) Tryd.underlying37 rfl infoS) ?_
              simp only [Act.put, List.setIfInBounds_toArray, List.set_cons_succ, List.set_cons_zero]
              go_big_quiet_on
              go_big_quiet_want
              refine quiet_value (fun w' hw' => run_load_part w' 37 _ rfl B 0 rfl 37 _ 34 34 _ (by obtain ⟨m, rfl⟩ := hw'; exact Hqs.out.drewN m) (by omega) Tryd.underlying37 rfl infoS (Slot.zero.v) (fun i hi => by rw [Nat.zero_add])) ?_
              simp only [Act.put, List.setIfInBounds_toArray, List.set_cons_succ, List.set_cons_zero]
              go_big_quiet_on
              iterate 2 (go_big_quiet_step (fail))
              refine wpQuiet_nil ?_
              intro _ hw'
              obtain ⟨nq, rfl⟩ := hw'
              clear Hqs HAt hqs
              have hbd := belowD (Below.refl w2.heap.size w2) nq
              have q0 := q0.below hbd q0.lt
              have sl := sl.below hbd
              have sm := sm.below hbd
              have qs := qs.below hbd qs.lt
              have hGl := hGl.up hbd
              have kb := kb.trans (hbd.mono kb.size)
              generalize World.drewN _ nq = w15 at q0 sl sm qs hGl kb ⊢
              clear hbd
              have c33 := qs.cell 33 (by omega)
              rw [Slot.v_full, hf] at c33
              go_wp2
              go_roundw
              case rel => exact ⟨j + 1, by omega, by go_num, q0, sl, sm, hGl, kb⟩
              case measure => simp [intOf]; omega
        · have HS := hide (at_none (l := l) (j := j) (by rw [HN.out]; omega))
          have hjn1 : decide ((j : Int) < (n : Int)) = false := decide_eq_false (by omega)
          have hjn3 : decide (j < n) = false := decide_eq_false hjn
          obtain ⟨B, hB⟩ : ∃ B, wr.heap.size = B := ⟨_, rfl⟩
          obtain ⟨w1, hz⟩ : ∃ y, wr.alloc (.cells (tabv Slot.zero.v 34) 37) = y := ⟨_, rfl⟩
          have q1 : Has w1 B 37 Slot.zero.v 34 := by rw [← hz, ← hB]; exact Has.new wr 37 Slot.zero.v 34 _ rfl
          have hb1 : Below wr.heap.size wr w1 := by rw [← hz]; exact (Below.refl _ _).alloc (Nat.le_refl _) _
          rw [← zero34] at hz
          obtain ⟨w2, hz2⟩ : ∃ y, w1.setRow B (tabv Slot.zero.v 34) = y := ⟨_, rfl⟩
          have q2 : Has w2 B 37 Slot.zero.v 34 := by rw [← hz2]; exact q1.row _ _ rfl
          have hb2 : Below wr.heap.size wr w2 := by rw [← hz2]; exact below_setRow hb1 (by omega) _
          have HZ2 := hide hz2
          have Hq1 := hide q1
          clear hz2 q1 hb1
          have q3 := q2
          have hb3 := hb2
          clear q2
          have q0 := q0.below hb3 q0.lt
          have sl := sl.below hb3
          have sm := sm.below hb3
          have hGl := hGl.up hb3
          have kb := kb.trans (hb3.mono kb.size)
          have qs := q3
          clear q3 hb2 hb3
          have hf : Slot.zero.full = false := rfl
          go_wp2_with (first | (refine wpList_storeS rfl _ _ rfl rfl B Slot.zero rfl rfl _ Hq1.out ?_; rw [HZ2.out]))
          try rw [hB]
          clear hz
          rcases Nat.lt_trichotomy j L with hjL | hjL | hjL
          · have dn : ((j : Int) != (L : Int)) = true := by simp; omega
            have dl : decide ((j : Int) < (L : Int)) = true := decide_eq_true (by omega)
            have dl2 : decide (j < L) = true := decide_eq_true (by omega)
            have hMs : M[j]? = some Slot.zero := by rw [HM.out j hlt, if_neg (by omega), HS.out]
            obtain ⟨b9, o9, e9, hb9, hAt⟩ := sm.get j _ hMs
            cases e9
            have HAt := hide hAt
            clear hAt hMs
            have hqs : ∀ w : World, (Op.equalIn 10000 37 (.agg (tabv Slot.zero.v 34)) (.agg (tabv Slot.zero.v 34))).run Tryd.prog w = .ok true w := fun w => by rw [eqSD, eqSl_refl]
            have Hqs := hide qs
            go_wp2
            refine wp_region_quiet_lit (by kernel_rfl) (by kernel_rfl) ?_
            iterate 7 (go_big_quiet_step (fail))
            go_big_quiet_want
            refine quiet_value (fun w' hw' => run_load_at w' 37 _ rfl bM (oM + j * 34) (by rfl) (Slot.zero.v) 34 _ (by obtain ⟨m, rfl⟩ := hw'; exact HAt.out) Tryd.underlying37 rfl infoS) ?_
            simp only [Act.put, List.setIfInBounds_toArray, List.set_cons_succ, List.set_cons_zero]
            go_big_quiet_on
            go_big_quiet_want
            refine quiet_value (fun w' hw' => run_load_part w' 37 _ rfl B 0 rfl 37 _ 34 34 _ (by obtain ⟨m, rfl⟩ := hw'; exact Hqs.out.drewN m) (by omega) Tryd.underlying37 rfl infoS (Slot.zero.v) (fun i hi => by rw [Nat.zero_add])) ?_
            simp only [Act.put, List.setIfInBounds_toArray, List.set_cons_succ, List.set_cons_zero]
            go_big_quiet_on
            iterate 2 (go_big_quiet_step (fail))
            refine wpQuiet_nil ?_
            intro _ hw'
            obtain ⟨nq, rfl⟩ := hw'
            clear Hqs HAt hqs
            have hbd := belowD (Below.refl w2.heap.size w2) nq
            have q0 := q0.below hbd q0.lt
            have sl := sl.below hbd
            have sm := sm.below hbd
            have qs := qs.below hbd qs.lt
            have hGl := hGl.up hbd
            have kb := kb.trans (hbd.mono kb.size)
            generalize World.drewN _ nq = w15 at q0 sl sm qs hGl kb ⊢
            clear hbd
            have c33 := qs.cell 33 (by omega)
            rw [Slot.v_full, hf] at c33
            go_wp2
            go_roundw
            case rel => exact ⟨j + 1, by omega, by go_num, q0, sl, sm, hGl, kb⟩
            case measure => simp [intOf]; omega
          · subst hjL
            have dn : ((j : Int) != (j : Int)) = false := by simp
            have dl : decide ((j : Int) < (j : Int)) = false := decide_eq_false (by omega)
            go_wp2
            refine wp_region_quiet_lit (by kernel_rfl) (by kernel_rfl) ?_
            iterate 11 (go_big_quiet_step (fail))
            refine wpQuiet_nil ?_
            intro _ hw'
            obtain ⟨nq, rfl⟩ := hw'
            have hbd := belowD (Below.refl w2.heap.size w2) nq
            have q0 := q0.below hbd q0.lt
            have sl := sl.below hbd
            have sm := sm.below hbd
            have qs := qs.below hbd qs.lt
            have hGl := hGl.up hbd
            have kb := kb.trans (hbd.mono kb.size)
            generalize World.drewN _ nq = w15 at q0 sl sm qs hGl kb ⊢
            clear hbd
            have c33 := qs.cell 33 (by omega)
            rw [Slot.v_full, hf] at c33
            go_wp2
            go_roundw
            case rel => exact ⟨j + 1, by omega, by go_num, q0, sl, sm, hGl, kb⟩
            case measure => simp [intOf]; omega
          · have dn : ((j : Int) != (L : Int)) = true := by simp; omega
            have dl : decide ((j : Int) < (L : Int)) = false := decide_eq_false (by omega)
            have dl2 : decide (j < L) = false := decide_eq_false (by omega)
            have hMs : M[j]? = some Slot.zero := by rw [HM.out j hlt, if_neg (by omega), HS.out]
            obtain ⟨b9, o9, e9, hb9, hAt⟩ := sm.get j _ hMs
            cases e9
            have HAt := hide hAt
            clear hAt hMs
            have hqs : ∀ w : World, (Op.equalIn 10000 37 (.agg (tabv Slot.zero.v 34)) (.agg (tabv Slot.zero.v 34))).run Tryd.prog w = .ok true w := fun w => by rw [eqSD, eqSl_refl]
            have Hqs := hide qs
            go_wp2
            refine wp_region_quiet_lit (by kernel_rfl) (by kernel_rfl) ?_
            iterate 7 (go_big_quiet_step (fail))
            go_big_quiet_want
            refine quiet_value (fun w' hw' => run_load_at w' 37 _ rfl bM (oM + j * 34) (by rfl) (Slot.zero.v) 34 _ (by obtain ⟨m, rfl⟩ := hw'; exact HAt.out) Tryd.underlying37 rfl infoS) ?_
            simp only [Act.put, List.setIfInBounds_toArray, List.set_cons_succ, List.set_cons_zero]
            go_big_quiet_on
            go_big_quiet_want
            refine quiet_value (fun w' hw' => run_load_part w' 37 _ rfl B 0 rfl 37 _ 34 34 _ (by obtain ⟨m, rfl⟩ := hw'; exact Hqs.out.drewN m) (by omega) Tryd.underlying37 rfl infoS (Slot.zero.v) (fun i hi => by rw [Nat.zero_add])) ?_
            simp only [Act.put, List.setIfInBounds_toArray, List.set_cons_succ, List.set_cons_zero]
            go_big_quiet_on
            iterate 2 (go_big_quiet_step (fail))
            refine wpQuiet_nil ?_
            intro _ hw'
            obtain ⟨nq, rfl⟩ := hw'
            clear Hqs HAt hqs
            have hbd := belowD (Below.refl w2.heap.size w2) nq
            have q0 := q0.below hbd q0.lt
            have sl := sl.below hbd
            have sm := sm.below hbd
            have qs := qs.below hbd qs.lt
            have hGl := hGl.up hbd
            have kb := kb.trans (hbd.mono kb.size)
            generalize World.drewN _ nq = w15 at q0 sl sm qs hGl kb ⊢
            clear hbd
            have c33 := qs.cell 33 (by omega)
            rw [Slot.v_full, hf] at c33
            go_wp2
            go_roundw
            case rel => exact ⟨j + 1, by omega, by go_num, q0, sl, sm, hGl, kb⟩
            case measure => simp [intOf]; omega
      · have hj8 : j = 49 := by omega
        subst hj8
        have hd : decide (((49 : Nat) : Int) < 49) = false := by decide
        have hqf : ∀ w : World, (Op.equalIn 10000 23 (.agg (tabv (bv F) 32)) (.agg (tabv (bv h) 32))).run Tryd.prog w = .ok true w := fun w => by rw [eqHD 9998 w F h, HF.out]
        go_wp2_with fail
        refine (G1.out _ _ _ hGl sm).mono ?_
        rintro e w501 ⟨rfl, hb502⟩
        have q0 := q0.below hb502 q0.lt
        have sl := sl.below hb502
        have sm := sm.below hb502
        have hGl := hGl.up hb502
        have kb := kb.trans (hb502.mono kb.size)
        clear hb502
        have hn505 := Has.new w501 23 (fun _ => .int .u8 0) 32 _ rfl
        rw [zero32] at hn505
        obtain ⟨b504, hb504⟩ : ∃ g, w501.heap.size = g := ⟨_, rfl⟩
        obtain ⟨w503, hz506⟩ : ∃ x, (w501.alloc (.cells (tabv (fun _ => .int .u8 0) 32) 23)).setRow w501.heap.size (tabv (bv F) 32) = x := ⟨_, rfl⟩
        have hbx : Below w501.heap.size w501 w503 := by rw [← hz506]; exact below_setRow ((Below.refl _ _).alloc (Nat.le_refl _) _) (Nat.le_refl _) _
        have q0 := q0.below hbx q0.lt
        have sl := sl.below hbx
        have sm := sm.below hbx
        have hGl := hGl.up hbx
        have kb := kb.trans (hbx.mono kb.size)
        have q5 : Has w503 b504 23 (bv F) 32 := by rw [zero32] at hz506; rw [← hz506, ← hb504]; exact hn505.row _ _ rfl
        rw [zero32] at hz506
        have Hhn505 := hide hn505
        have Hhz506 := hide hz506
        have Hhb504 := hide hb504
        clear hn505 hz506 hb504 hbx
        have Hq5 := hide q5
        have Hq0 := hide q0
        go_wp2_with (first | (refine wpList_storeH rfl _ _ rfl rfl w501.heap.size (F) rfl rfl _ Hhn505.out ?_; rw [Hhz506.out]) | refine wpList_load_want (by rfl) 23 _ rfl b504 0 rfl 23 _ 32 32 _ Hq5.out (by omega) Tryd.underlying23 rfl info26 ((bv F)) (fun i hi => by rw [Nat.zero_add]) ?_ | (rw [Hhb504.out]; refine wpList_load_want (by rfl) 23 _ rfl b504 0 rfl 23 _ 32 32 _ Hq5.out (by omega) Tryd.underlying23 rfl info26 ((bv F)) (fun i hi => by rw [Nat.zero_add]) ?_) | refine wpList_load_want (by rfl) 23 _ rfl b0 0 rfl 23 _ 32 32 _ Hq0.out (by omega) Tryd.underlying23 rfl info26 (bv h) (fun i hi => by rw [Nat.zero_add]) ?_ | (rw [Hhb504.out]; refine wpList_load_want (by rfl) 23 _ rfl b0 0 rfl 23 _ 32 32 _ Hq0.out (by omega) Tryd.underlying23 rfl info26 (bv h) (fun i hi => by rw [Nat.zero_add]) ?_))
        go_ret
        exact ⟨by simp, kb⟩
end Go.Proofs.YtocojkafdgmgdaaDoor
