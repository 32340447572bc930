/-
  UpdateNexts: the walk (printed by gen_nexts.py).
-/
import Derived.Test.YtagopbdoabhjfaaDoorULent
namespace Go.Proofs.YtagopbdoabhjfaaDoor
open Go.RowKit S
set_option linter.unusedVariables false
set_option linter.unusedSimpArgs false
set_option maxRecDepth 100000 in
set_option maxHeartbeats 4000000 in
theorem nexts_walk (n : Num) (ad1 : Option Addr) (n1 cap1 : Nat) (l1 : List Upd) (hn1 : l1.length = n1) (z1 : n1 * 72 ≤ 140737488351232) (ad2 : Option Addr) (n2 cap2 : Nat) (l2 : List Upd) (hn2 : l2.length = n2) (z2 : n2 * 72 ≤ 140737488351232) (u : Upd) (id : Int) (w : World) (hG : Glob n w) (hS1 : Upds w ad1 l1) (hS2 : Upds w ad2 l2) :
    Calls Tryd.prog 7 #[.slice ad1 n1 cap1, .slice ad2 n2 cap2, .agg (tabv u.v 36), .int .i64 id] w fun e w' => e = .returned (.bool true) ∧ Below w.heap.size w w' := by
  obtain ⟨w3, hW⟩ : ∃ x, w.alloc (.cells (tabv u.v 36) 25) = x := ⟨_, rfl⟩
  have g0 : Has w3 w.heap.size 25 u.v 36 := by rw [← hW]; exact Has.new w 25 u.v 36 _ rfl
  have gb : Below w.heap.size w w3 := by rw [← hW]; exact (Below.refl w.heap.size w).alloc (Nat.le_refl _) _

  have G0 := hide g0
  have HD := hide (fun (w : World) (hG : Glob n w) => head_any n w hG)
  have RN := hide (fun (w : World) (h1 : Upds w ad1 l1) (h2 : Upds w ad2 l2) => rnext_any ad1 ad2 n1 n2 cap1 cap2 l1 l2 hn1 hn2 (by omega) (by omega) u w h1 h2)
  have CN := hide (fun (a b : Option Addr) (c d : Nat) (w : World) (hG : Glob n w) (h1 : Upds w a l1) (h2 : Upds w b l2) => next_any n a b n1 n2 c d l1 l2 hn1 hn2 (by omega) (by omega) u w hG h1 h2)
  have RF := hide (fun (w : World) (h : Upds w ad1 l1) => rfind_any ad1 n1 cap1 l1 hn1 (by omega) id w h)
  have CF := hide (fun (a : Option Addr) (c : Nat) (w : World) (h : Upds w a l1) => find_any a n1 c l1 hn1 (by omega) id w h)
  have RR := hide (fun (w : World) (h : Upds w ad2 l2) => rrem_any ad2 n2 cap2 l2 hn2 (by omega) id w h)
  have CR' := hide (fun (a : Option Addr) (c : Nat) (w : World) (h : Upds w a l2) => rem_any a n2 c l2 hn2 (by omega) id w h)
  have L1 := hide (fun (w : World) (h : Upds w ad1 l1) => lent_any ad1 n1 cap1 l1 hn1 z1 w h)
  have L2 := hide (fun (w : World) (h : Upds w ad2 l2) => lent_any ad2 n2 cap2 l2 hn2 z2 w h)
  have hm1 : (l1 ++ [mark1, mark2]).length = n1 + 2 := by simp [hn1]
  have hm2 : (l2 ++ [mark1, mark2]).length = n2 + 2 := by simp [hn2]
  have S1 := hide (fun (a b : Option Addr) (c d : Nat) (w : World) (h1 : Upds w a (l1 ++ [mark1, mark2])) (h2 : Upds w b (l1 ++ [mark1, mark2])) => same_any a b (n1 + 2) c d _ hm1 (by omega) w h1 h2)
  have S2 := hide (fun (a b : Option Addr) (c d : Nat) (w : World) (h1 : Upds w a (l2 ++ [mark1, mark2])) (h2 : Upds w b (l2 ++ [mark1, mark2])) => same_any a b (n2 + 2) c d _ hm2 (by omega) w h1 h2)
  obtain ⟨X, hX⟩ : ∃ X, nextA l1 l2 u = X := ⟨_, rfl⟩
  obtain ⟨O1, hO1⟩ : ∃ X, l1.find? (isAdd id) = X := ⟨_, rfl⟩
  obtain ⟨O2, hO2⟩ : ∃ X, l2.find? (isRem id) = X := ⟨_, rfl⟩
  rw [hX] at RN CN
  rw [hO1] at RF CF
  rw [hO2] at RR CR'
  obtain ⟨u1, hu1⟩ : ∃ x, orZ O1 = x := ⟨_, rfl⟩
  obtain ⟨u2, hu2⟩ : ∃ x, orZ O2 = x := ⟨_, rfl⟩
  obtain ⟨b1, hb1⟩ : ∃ x, O1.isSome = x := ⟨_, rfl⟩
  obtain ⟨b2, hb2⟩ : ∃ x, O2.isSome = x := ⟨_, rfl⟩
  rw [hu1, hb1] at RF CF
  rw [hu2, hb2] at RR CR'
  have q1 : ∀ w : World, (Op.equalIn 10000 25 (.agg (tabv u1.v 36)) (.agg (tabv u1.v 36))).run Tryd.prog w = .ok true w := fun w => by rw [eqUD, eqU_refl]
  have q2 : ∀ w : World, (Op.equalIn 10000 25 (.agg (tabv u2.v 36)) (.agg (tabv u2.v 36))).run Tryd.prog w = .ok true w := fun w => by rw [eqUD, eqU_refl]
  have hgu := guardU
  have hXX : (X != X) = false := by simp
  have hi1 : (0 : Int) ≤ (n1 : Int) := by omega
  have hi2 : (0 : Int) ≤ (n2 : Int) := by omega
  have HN1 := hide hn1
  have HN2 := hide hn2
  clear hX hO1 hO2 hu1 hu2 hb1 hb2 g0 hm1 hm2 z1 z2 hn1 hn2
  go_enter Tryd.func7, Tryd.ntmps7
  go_wp2_with fail
  refine (HD.out _ (hG.up gb (Nat.le_refl _))).mono ?_
  rintro e w4 ⟨rfl, hb4⟩
  have gb4 := gb.trans (hb4.mono gb.size)
  have G4 := hide (G0.out.below hb4 G0.out.lt)
  clear hb4 gb hW
  go_wp2_with (first | refine wpW_load_at 25 _ rfl (w.heap.size) (0) (by rfl) (by rfl) _ 36 _ (G4.out.at_ 0 (by omega) (fun i hi => by rw [Nat.zero_add])) Tryd.underlying25 rfl infoU ?_ | fail)
  refine (RN.out _ (hS1.below gb4) (hS2.below gb4)).mono ?_
  rintro e w5 ⟨rfl, hb5⟩
  have gb5 := gb4.trans (hb5.mono gb4.size)
  have G5 := hide (G4.out.below hb5 G4.out.lt)
  clear hb5 gb4
  go_wp2_with fail
  refine (RF.out _ (hS1.below gb5)).mono ?_
  rintro e w6 ⟨rfl, hb6⟩
  have gb6 := gb5.trans (hb6.mono gb5.size)
  have G6 := hide (G5.out.below hb6 G5.out.lt)
  obtain ⟨w7, w8, hW7, p7, hW8, r8, rb8⟩ := newU w6 u1
  have P7 := hide p7
  have A8 := hide r8
  have gb8 := gb6.trans (rb8.mono gb6.size)
  have G8 := hide (G6.out.below rb8 G6.out.lt)
  clear hb6 gb5 gb6 p7 r8 rb8
  go_wp2_with (first | refine wpList_storeU rfl _ _ rfl rfl (w6.heap.size) (u1) rfl rfl _ P7.out ?_ | fail)
  refine (RR.out _ (hS2.below gb8)).mono ?_
  rintro e w9 ⟨rfl, hb9⟩
  have gb9 := gb8.trans (hb9.mono gb8.size)
  have G9 := hide (G8.out.below hb9 G8.out.lt)
  have A9 := hide (A8.out.below hb9 A8.out.lt)
  obtain ⟨wa, wb, hWa, pa, hWb, rb, rbb⟩ := newU w9 u2
  have Pa := hide pa
  have Bb := hide rb
  have gbb := gb9.trans (rbb.mono gb9.size)
  have Gb := hide (G9.out.below rbb G9.out.lt)
  have Ab := hide (A9.out.below rbb A9.out.lt)
  clear hb9 gb8 gb9 pa rb rbb hW7 hW8 P7
  generalize w6.heap.size = gA at Ab A9 A8 ⊢
  go_wp2_with (first | refine wpList_storeU rfl _ _ rfl rfl (w9.heap.size) (u2) rfl rfl _ Pa.out ?_ | fail)
  refine (L1.out _ (hS1.below gbb)).mono ?_
  rintro e wc ⟨⟨v1, rfl, hL1⟩, hbc⟩
  have gbc := gbb.trans (hbc.mono gbb.size)
  have Gc := hide (Gb.out.below hbc Gb.out.lt)
  have Ac := hide (Ab.out.below hbc Ab.out.lt)
  have Bc := hide (Bb.out.below hbc Bb.out.lt)
  clear hbc gbb hWa hWb Pa
  generalize w9.heap.size = gB at Bc Bb ⊢
  go_wp2_with fail
  refine (L2.out _ (hS2.below gbc)).mono ?_
  rintro e wd ⟨⟨v2, rfl, hL2⟩, hbd⟩
  have gbd := gbc.trans (hbd.mono gbc.size)
  have Gd := hide (Gc.out.below hbd Gc.out.lt)
  have Ad := hide (Ac.out.below hbd Ac.out.lt)
  have Bd := hide (Bc.out.below hbd Bc.out.lt)
  have hL1 := hL1.below hbd (Nat.le_refl _)
  obtain ⟨g1, c1, rfl, m1, s1, hc1, hg1, hcm1⟩ := hL1.form
  obtain ⟨g2, c2, rfl, m2, s2, hc2, hg2, hcm2⟩ := hL2.form
  rw [HN1.out] at hc1 ⊢
  rw [HN2.out] at hc2 ⊢
  have hj1 : (n1 : Int) ≤ (c1 : Int) := by omega
  have hj2 : (n2 : Int) ≤ (c2 : Int) := by omega
  have M1 := hide m1
  have M2 := hide m2
  have U1 := hide s1
  have U2 := hide s2
  have hGd := hG.up gbd (Nat.le_refl _)
  clear hbd gbc hL1 hL2 m1 m2 s1 s2 hc1 hc2 hg1 hg2 hcm1 hcm2
  go_wp2
  refine wp_region_noPanic ?_
  refine wp_region_held_drew (S := fun wx => Below wd.heap.size wd wx) (by kernel_rfl) ((Below.refl _ _).drew) (fun hHeld => ?_)
  refine Cu.takeH 0 (some 42) (.slice (some ⟨g1, 0, none⟩) (n1 + 2) c1) rfl rfl (by kernel_rfl) (by kernel_rfl) (by kernel_rfl) (fun _ _ _ h => h) (by rfl) (fun w hw => by first | rfl | (go_simp; done) | (go_simp; rfl)) hHeld ?_
  simp only [Act.put, List.setIfInBounds_toArray, List.set_cons_zero, List.set_cons_succ]
  refine Cu.takeH 1 (some 43) (.slice ad1 n1 cap1) rfl rfl (by kernel_rfl) (by kernel_rfl) (by kernel_rfl) (fun _ _ _ h => h) (by rfl) (fun w hw => by first | rfl | (go_simp; done) | (go_simp; rfl)) hHeld ?_
  simp only [Act.put, List.setIfInBounds_toArray, List.set_cons_zero, List.set_cons_succ]
  refine Cu.takeH 2 (some 44) (.int .i64 (n1 : Int)) rfl rfl (by kernel_rfl) (by kernel_rfl) (by kernel_rfl) (fun _ _ _ h => h) (by rfl) (fun w hw => by first | rfl | (go_simp; done) | (go_simp; rfl)) hHeld ?_
  simp only [Act.put, List.setIfInBounds_toArray, List.set_cons_zero, List.set_cons_succ]
  refine Cu.takeH 3 (some 45) (.slice (some ⟨g1, 0, none⟩) n1 c1) rfl rfl (by kernel_rfl) (by kernel_rfl) (by kernel_rfl) (fun _ _ _ h => h) (by rfl) (fun w hw => by first | rfl | (go_simp; done) | (go_simp; rfl)) hHeld ?_
  simp only [Act.put, List.setIfInBounds_toArray, List.set_cons_zero, List.set_cons_succ]
  refine Cu.takeH 4 (some 46) (.slice (some ⟨g2, 0, none⟩) (n2 + 2) c2) rfl rfl (by kernel_rfl) (by kernel_rfl) (by kernel_rfl) (fun _ _ _ h => h) (by rfl) (fun w hw => by first | rfl | (go_simp; done) | (go_simp; rfl)) hHeld ?_
  simp only [Act.put, List.setIfInBounds_toArray, List.set_cons_zero, List.set_cons_succ]
  refine Cu.takeH 5 (some 47) (.slice ad2 n2 cap2) rfl rfl (by kernel_rfl) (by kernel_rfl) (by kernel_rfl) (fun _ _ _ h => h) (by rfl) (fun w hw => by first | rfl | (go_simp; done) | (go_simp; rfl)) hHeld ?_
  simp only [Act.put, List.setIfInBounds_toArray, List.set_cons_zero, List.set_cons_succ]
  refine Cu.takeH 6 (some 48) (.int .i64 (n2 : Int)) rfl rfl (by kernel_rfl) (by kernel_rfl) (by kernel_rfl) (fun _ _ _ h => h) (by rfl) (fun w hw => by first | rfl | (go_simp; done) | (go_simp; rfl)) hHeld ?_
  simp only [Act.put, List.setIfInBounds_toArray, List.set_cons_zero, List.set_cons_succ]
  refine Cu.takeH 7 (some 49) (.slice (some ⟨g2, 0, none⟩) n2 c2) rfl rfl (by kernel_rfl) (by kernel_rfl) (by kernel_rfl) (fun _ _ _ h => h) (by rfl) (fun w hw => by first | rfl | (go_simp; done) | (go_simp; rfl)) hHeld ?_
  simp only [Act.put, List.setIfInBounds_toArray, List.set_cons_zero, List.set_cons_succ]
  refine Cu.takeH 8 (some 50) (.agg (tabv u.v 36)) rfl rfl (by kernel_rfl) (by kernel_rfl) (by kernel_rfl) (fun _ _ _ h => h) (by rfl) (fun w hw => run_load_at w 25 _ rfl _ 0 (by rfl) _ 36 _ ((Gd.out.below hw Gd.out.lt).at_ 0 (by omega) (fun i hi => by rw [Nat.zero_add])) Tryd.underlying25 rfl infoU) hHeld ?_
  simp only [Act.put, List.setIfInBounds_toArray, List.set_cons_zero, List.set_cons_succ]
  refine Cu.takeH 10 (some 52) (.int .i64 X) rfl rfl (by kernel_rfl) (by kernel_rfl) (by kernel_rfl) (fun _ _ _ h => h) (by rfl) (fun w hw => by first | rfl | (go_simp; done) | (go_simp; rfl)) hHeld ?_
  simp only [Act.put, List.setIfInBounds_toArray, List.set_cons_zero, List.set_cons_succ]
  refine wpAnyH_ready (rs := [9]) (by kernel_rfl) (by simp) (AllReadyH.cons rfl (fun K hK => ?_) AllReadyH.nil)
  rw [if_pos (by rfl)]
  go_simp
  refine (CN.out _ _ _ _ _ (hGd.up hHeld (Nat.le_refl _)) (U1.out.below hHeld) (U2.out.below hHeld)).mono ?_
  rintro e we ⟨rfl, hbe⟩
  try go_wp2_with fail
  refine hK.out _ _ (hHeld.trans (hbe.mono hHeld.size)) (fun hH => ?_)
  clear hK K hHeld
  have hHeld := hH
  clear hH
  refine Cu.takeH 11 (some 53) (.bool false) rfl rfl (by kernel_rfl) (by kernel_rfl) (by kernel_rfl) (fun _ _ _ h => h) (by rfl) (fun w hw => by first | rfl | (go_simp; done) | (go_simp; rfl)) hHeld ?_
  simp only [Act.put, List.setIfInBounds_toArray, List.set_cons_zero, List.set_cons_succ]
  refine ⟨by kernel_rfl, ?_⟩
  refine NoPanic.normal ?_
  have gbe := gbd.trans (hHeld.mono gbd.size)
  generalize hwe : we = wf at hHeld gbe ⊢
  have Gf := hide (Gd.out.below hHeld Gd.out.lt)
  have Af := hide (Ad.out.below hHeld Ad.out.lt)
  have Bf := hide (Bd.out.below hHeld Bd.out.lt)
  have M1 := hide (M1.out.below hHeld)
  have M2 := hide (M2.out.below hHeld)
  have U1 := hide (U1.out.below hHeld)
  have U2 := hide (U2.out.below hHeld)
  clear hbe hHeld hwe gbd hGd
  go_wp2_with fail
  refine (CF.out _ _ _ U1.out).mono ?_
  rintro e wg ⟨rfl, hbg⟩
  obtain ⟨wh, wi, hWh, ph, hWi, ri, rbi⟩ := newU wg u1
  have Ph := hide ph
  have Ci := hide ri
  have bi : Below wf.heap.size wf wi := hbg.trans (rbi.mono hbg.size)
  have gbi := gbe.trans (bi.mono gbe.size)
  have Ai := hide (Af.out.below bi Af.out.lt)
  have Bi := hide (Bf.out.below bi Bf.out.lt)
  have M1 := hide (M1.out.below bi)
  have M2 := hide (M2.out.below bi)
  have U2 := hide (U2.out.below bi)
  clear hbg ph ri rbi bi gbe U1
  go_wp2_with (first | refine wpList_storeU rfl _ _ rfl rfl (wg.heap.size) (u1) rfl rfl _ Ph.out ?_ | fail)
  refine (CR'.out _ _ _ U2.out).mono ?_
  rintro e wj ⟨rfl, hbj⟩
  obtain ⟨wk, wl, hWk, pk, hWl, rl, rbl⟩ := newU wj u2
  have Pk := hide pk
  have Dl := hide rl
  have bl : Below wi.heap.size wi wl := hbj.trans (rbl.mono hbj.size)
  have gbl := gbi.trans (bl.mono gbi.size)
  have Al := hide (Ai.out.below bl Ai.out.lt)
  have Bl := hide (Bi.out.below bl Bi.out.lt)
  have Cl := hide (Ci.out.below bl Ci.out.lt)
  have M1 := hide (M1.out.below bl)
  have M2 := hide (M2.out.below bl)
  clear hbj pk rl rbl bl gbi U2 hWh hWi Ph
  generalize wg.heap.size = gC at Cl Ci ⊢
  go_wp2_with (first | refine wpList_storeU rfl _ _ rfl rfl (wj.heap.size) (u2) rfl rfl _ Pk.out ?_ | refine wpW_load_at 25 _ rfl gA 0 (by rfl) (by rfl) _ 36 _ (by first | exact Al.out.at_ 0 (by omega) (fun i hi => by rw [Nat.zero_add]) | (rw [hWl]; exact Al.out.at_ 0 (by omega) (fun i hi => by rw [Nat.zero_add]))) Tryd.underlying25 rfl infoU ?_ | refine wpW_load_at 25 _ rfl gC 0 (by rfl) (by rfl) _ 36 _ (by first | exact Cl.out.at_ 0 (by omega) (fun i hi => by rw [Nat.zero_add]) | (rw [hWl]; exact Cl.out.at_ 0 (by omega) (fun i hi => by rw [Nat.zero_add]))) Tryd.underlying25 rfl infoU ?_ | refine wpW_load_at 25 _ rfl (gB) (0) (by rfl) (by rfl) _ 36 _ (Bl.out.at_ 0 (by omega) (fun i hi => by rw [Nat.zero_add])) Tryd.underlying25 rfl infoU ?_ | refine wpW_load_at 25 _ rfl (wj.heap.size) (0) (by rfl) (by rfl) _ 36 _ (Dl.out.at_ 0 (by omega) (fun i hi => by rw [Nat.zero_add])) Tryd.underlying25 rfl infoU ?_ | fail)
  try rw [hWl]
  refine (L1.out _ (hS1.below gbl)).mono ?_
  rintro e wm ⟨⟨v3, rfl, hL3⟩, hbm⟩
  have gbm := gbl.trans (hbm.mono gbl.size)
  have M1 := hide (M1.out.below hbm)
  have M2 := hide (M2.out.below hbm)
  obtain ⟨g3, c3, rfl, m3, s3, hc3, hg3, hcm3⟩ := hL3.form
  rw [HN1.out]
  have M3 := hide m3
  clear hbm hL3 m3 s3 hc3 hg3 hcm3 gbl hWk hWl Pk
  go_wp2_with fail
  refine (S1.out _ _ _ _ _ M1.out M3.out).mono ?_
  rintro e wn ⟨rfl, hbn⟩
  have gbn := gbm.trans (hbn.mono gbm.size)
  have M2 := hide (M2.out.below hbn)
  clear hbn gbm
  go_wp2_with fail
  refine (L2.out _ (hS2.below gbn)).mono ?_
  rintro e wo ⟨⟨v4, rfl, hL4⟩, hbo⟩
  have gbo := gbn.trans (hbo.mono gbn.size)
  have M2 := hide (M2.out.below hbo)
  obtain ⟨g4, c4, rfl, m4, s4, hc4, hg4, hcm4⟩ := hL4.form
  rw [HN2.out]
  have M4 := hide m4
  clear hbo hL4 m4 s4 hc4 hg4 hcm4 gbn
  go_wp2_with fail
  refine (S2.out _ _ _ _ _ M2.out M4.out).mono ?_
  rintro e wp ⟨rfl, hbp⟩
  have gbp := gbo.trans (hbp.mono gbo.size)
  clear hbp gbo
  go_wp2
  go_ret
  exact ⟨by simp, gbp⟩
end Go.Proofs.YtagopbdoabhjfaaDoor
