/-
  CommitTexts: the walk (printed by gen_c13.py).
-/
import Derived.Test.YthcaokiboimibaaCLent
import Derived.Test.YthcaokiboimibaaCDoc2
namespace Go.Proofs.Ythcaokiboimibaa
open Go.RowKit S
set_option linter.unusedVariables false
set_option linter.unusedSimpArgs false
set_option maxRecDepth 100000 in
set_option maxHeartbeats 4000000 in
theorem texts_walk (oo nn : Int) (h : Nat → UInt8) (x y : Int) (ad : Option Addr) (n cap : Nat) (l : List Pen) (hn : l.length = n) (hz : n ≤ 3000000000000) (hrg : Rng l) (w : World) (hS : Pens w ad l) : Calls Try.prog 5 #[.int .i64 oo, .int .i64 nn, .agg (tabv (bv h) 32), .agg (tabv (ledv x y (.slice ad n cap)) 3)] w fun e w' => e = .returned (.bool true) ∧ Below w.heap.size w w' := by
  obtain ⟨wa, hWa⟩ : ∃ wX, w.alloc (.cells (tabv (bv h) 32) 23) = wX := ⟨_, rfl⟩
  have ra : Has wa w.heap.size 23 (bv h) 32 := by rw [← hWa]; exact Has.new w 23 (bv h) 32 _ rfl
  have ba : Below w.heap.size w wa := by rw [← hWa]; exact (Below.refl w.heap.size w).alloc (Nat.le_refl _) _
  obtain ⟨w1, hW1⟩ : ∃ wX, wa.alloc (.cells (tabv (ledv x y (.slice ad n cap)) 3) 26) = wX := ⟨_, rfl⟩
  have r1 : Has w1 wa.heap.size 26 (ledv x y (.slice ad n cap)) 3 := by rw [← hW1]; exact Has.new wa 26 (ledv x y (.slice ad n cap)) 3 _ rfl
  have b1 : Below wa.heap.size wa w1 := by rw [← hW1]; exact (Below.refl wa.heap.size wa).alloc (Nat.le_refl _) _
  have gb : Below w.heap.size w w1 := ba.trans (b1.mono ba.size)
  have RP := hide (ra.below b1 ra.lt)
  have RL := hide r1
  have HP := hide (hS.below gb)
  have HN := hide hn
  have HZ := hide hz
  have HRG := hide hrg
  clear ra ba r1 b1 hS hn hz hrg
  go_enter Try.func5, Try.ntmps5
  go_upto_region 1 with fail
  generalize hg0 : w.heap.size = gp at RP gb ⊢
  generalize hgl : wa.heap.size = gl at RL ⊢
  clear hWa hW1 hgl
  go_wp2_with (first | refine wpW_load_at 26 _ rfl (gl) (0) (by rfl) (by rfl) _ 3 _ (RL.out.at_ 0 (by omega) (fun i hi => by rw [Nat.zero_add])) Try.underlying26 rfl infoL ?_ | fail)
  refine (lent_any x y ad n cap l HN.out HZ.out _ HP.out).mono ?_
  rintro e w2 ⟨q, cq, rfl, hO2, hc2, hb2⟩
  obtain ⟨w3, w4, hW3, r3, hW4, r4, b4⟩ := newL w2 x y (.slice (some ⟨q, 0, none⟩) n cq)
  have R3 := hide r3
  have hb24 : Below w1.heap.size w1 w4 := hb2.trans (b4.mono hb2.size)
  have RP4 := hide (RP.out.below hb24 RP.out.lt)
  have RL4 := hide (RL.out.below hb24 RL.out.lt)
  have HP4 := hide (HP.out.below hb24)
  have R4 := hide r4
  have HQ4 : Hid (Pens w4 (some ⟨q, 0, none⟩) (l ++ [mk77])) := by
    have hO4 := hO2.below b4
    obtain ⟨ad', c', e, hU, _⟩ := hO4.pens
    simp only [Value.slice.injEq] at e
    obtain ⟨rfl, _, _⟩ := e
    exact hU
  have HC2 := hide hc2
  have gb4 : Below gp w w4 := gb.trans (hb24.mono (by have := RP.out.lt; omega))
  clear hO2 hc2 hb2 r3 r4 b4 hb24 RP RL HP gb
  go_upto_region 2 with (first | refine wpList_storeL rfl _ _ rfl rfl w2.heap.size x y (.slice (some ⟨q, 0, none⟩) n cq) rfl rfl rfl _ R3.out ?_)
  try rw [hW4]
  generalize hg9 : w2.heap.size = g9 at R4 ⊢
  clear hg9 hW3 hW4 R3
  go_wp2_with (first | refine wpW_load_at 23 _ rfl (gp) (0) (by rfl) (by rfl) _ 32 _ (RP4.out.at_ 0 (by omega) (fun i hi => by rw [Nat.zero_add])) Try.underlying23 rfl info26 ?_ | refine wpW_load_at 26 _ rfl (g9) (0) (by rfl) (by rfl) _ 3 _ (R4.out.at_ 0 (by omega) (fun i hi => by rw [Nat.zero_add])) Try.underlying26 rfl infoL ?_ | fail)
  refine (text_any oo nn h x y (some ⟨q, 0, none⟩) n cq l HN.out (by have := HZ.out; omega) _ HQ4.out.left).mono ?_
  rintro e w5 ⟨b1, c1, rfl, hTA1, hb5⟩
  have HTA := hide hTA1
  have RP5 := hide (RP4.out.below hb5 RP4.out.lt)
  have RL5 := hide (RL4.out.below hb5 RL4.out.lt)
  have R5 := hide (R4.out.below hb5 R4.out.lt)
  have HP5 := hide (HP4.out.below hb5)
  have HQ5 := hide (HQ4.out.below hb5)
  have gb5 : Below gp w w5 := gb4.trans (hb5.mono (by have := RP4.out.lt; omega))
  clear hTA1 hb5 RP4 RL4 R4 HP4 HQ4 gb4
  go_wp2_with (first | refine wpW_load_at 26 _ rfl (g9) (0) (by rfl) (by rfl) _ 3 _ (R5.out.at_ 0 (by omega) (fun i hi => by rw [Nat.zero_add])) Try.underlying26 rfl infoL ?_ | fail)
  refine (turn_any x y (some ⟨q, 0, none⟩) n cq l HN.out (by have := HZ.out; omega) _ HQ5.out.left).mono ?_
  rintro e w6 ⟨⟨v6, rfl, hO6⟩, hb6⟩
  obtain ⟨adt, ct, hv6, hSt, _, _, _⟩ := hO6.pens
  rw [turnP_len, HN.out] at hv6
  subst hv6
  obtain ⟨w7, w8, hW7, r7, hW8, r8, b8⟩ := newL w6 y x (.slice adt n ct)
  have R7 := hide r7
  have hb58 : Below w5.heap.size w5 w8 := hb6.trans (b8.mono hb6.size)
  have RP8 := hide (RP5.out.below hb58 RP5.out.lt)
  have RL8 := hide (RL5.out.below hb58 RL5.out.lt)
  have R98 := hide (R5.out.below hb58 R5.out.lt)
  have HP8 := hide (HP5.out.below hb58)
  have HQ8 := hide (HQ5.out.below hb58)
  have HT8 := hide (hSt.below b8)
  have R8 := hide r8
  have gb8 : Below gp w w8 := gb5.trans (hb58.mono (by have := RP5.out.lt; omega))
  clear hO6 hSt hb6 r7 r8 b8 hb58 RP5 RL5 R5 HP5 HQ5 gb5
  go_upto_region 4 with (first | refine wpList_storeL rfl _ _ rfl rfl w6.heap.size y x (.slice adt n ct) rfl rfl rfl _ R7.out ?_)
  try rw [hW8]
  generalize hg12 : w6.heap.size = g12 at R8 ⊢
  clear hg12 hW7 hW8 R7
  go_wp2_with (first | refine wpW_load_at 23 _ rfl (gp) (0) (by rfl) (by rfl) _ 32 _ (RP8.out.at_ 0 (by omega) (fun i hi => by rw [Nat.zero_add])) Try.underlying23 rfl info26 ?_ | refine wpW_load_at 26 _ rfl (gl) (0) (by rfl) (by rfl) _ 3 _ (RL8.out.at_ 0 (by omega) (fun i hi => by rw [Nat.zero_add])) Try.underlying26 rfl infoL ?_ | fail)
  refine (rtext_any oo nn h x y ad n cap l HN.out (by have := HZ.out; omega) HRG.out _ HP8.out).mono ?_
  rintro e w9 ⟨b2, c2, rfl, hTA2, hb9⟩
  obtain ⟨e1, e2⟩ := HTA.out.one hTA2
  subst e1 e2
  have RL9 := hide (RL8.out.below hb9 RL8.out.lt)
  have R99 := hide (R98.out.below hb9 R98.out.lt)
  have R12 := hide (R8.out.below hb9 R8.out.lt)
  have HP9 := hide (HP8.out.below hb9)
  have HQ9 := hide (HQ8.out.below hb9)
  have HT9 := hide (HT8.out.below hb9)
  have gb9 : Below gp w w9 := gb8.trans (hb9.mono (by have := RP8.out.lt; omega))
  have HGP : Hid (gp ≤ w9.heap.size) := by show _ ≤ _; have := RP8.out.lt; have := hb9.size; omega
  clear hTA2 hb9 RP8 RL8 R98 R8 HP8 HQ8 HT8 gb8 HTA
  go_wp2
  refine wp_region_noPanic ?_
  refine wp_region_held_drew (S := fun wx => Below w9.heap.size w9 wx) (by kernel_rfl) ((Below.refl _ _).drew) (fun hHeld => ?_)
  refine takeH 0 (some 35) (.string b1) rfl rfl (by kernel_rfl) (by kernel_rfl) (by kernel_rfl) (fun _ _ _ h => h) (by rfl) (fun w hw => by first | rfl | (go_simp; done) | (go_simp; rfl) | (go_simp; omega)) hHeld ?_
  simp only [Act.put, List.setIfInBounds_toArray, List.set_cons_zero, List.set_cons_succ]
  refine takeH 1 (some 36) (.string b1) rfl rfl (by kernel_rfl) (by kernel_rfl) (by kernel_rfl) (fun _ _ _ h => h) (by rfl) (fun w hw => by first | rfl | (go_simp; done) | (go_simp; rfl) | (go_simp; omega)) hHeld ?_
  simp only [Act.put, List.setIfInBounds_toArray, List.set_cons_zero, List.set_cons_succ]
  refine takeH 2 (some 37) (.bool true) rfl rfl (by kernel_rfl) (by kernel_rfl) (by kernel_rfl) (fun _ _ _ h => h) (by rfl) (fun w hw => by first | rfl | (go_simp; done) | (go_simp; rfl) | (go_simp; omega)) hHeld ?_
  simp only [Act.put, List.setIfInBounds_toArray, List.set_cons_zero, List.set_cons_succ]
  refine takeH 3 (some 38) (.bool true) rfl rfl (by kernel_rfl) (by kernel_rfl) (by kernel_rfl) (fun _ _ _ h => h) (by rfl) (fun w hw => by first | rfl | (go_simp; done) | (go_simp; rfl) | (go_simp; omega)) hHeld ?_
  simp only [Act.put, List.setIfInBounds_toArray, List.set_cons_zero, List.set_cons_succ]
  refine takeH 4 (some 39) (.int .i64 c1) rfl rfl (by kernel_rfl) (by kernel_rfl) (by kernel_rfl) (fun _ _ _ h => h) (by rfl) (fun w hw => by first | rfl | (go_simp; done) | (go_simp; rfl) | (go_simp; omega)) hHeld ?_
  simp only [Act.put, List.setIfInBounds_toArray, List.set_cons_zero, List.set_cons_succ]
  refine takeH 5 (some 40) (.int .i64 c1) rfl rfl (by kernel_rfl) (by kernel_rfl) (by kernel_rfl) (fun _ _ _ h => h) (by rfl) (fun w hw => by first | rfl | (go_simp; done) | (go_simp; rfl) | (go_simp; omega)) hHeld ?_
  simp only [Act.put, List.setIfInBounds_toArray, List.set_cons_zero, List.set_cons_succ]
  refine takeH 6 (some 41) (.bool true) rfl rfl (by kernel_rfl) (by kernel_rfl) (by kernel_rfl) (fun _ _ _ h => h) (by rfl) (fun w hw => by first | rfl | (go_simp; done) | (go_simp; rfl) | (go_simp; omega)) hHeld ?_
  simp only [Act.put, List.setIfInBounds_toArray, List.set_cons_zero, List.set_cons_succ]
  refine takeH 7 (some 42) (.bool true) rfl rfl (by kernel_rfl) (by kernel_rfl) (by kernel_rfl) (fun _ _ _ h => h) (by rfl) (fun w hw => by first | rfl | (go_simp; done) | (go_simp; rfl) | (go_simp; omega)) hHeld ?_
  simp only [Act.put, List.setIfInBounds_toArray, List.set_cons_zero, List.set_cons_succ]
  refine takeH 8 (some 43) (.bool true) rfl rfl (by kernel_rfl) (by kernel_rfl) (by kernel_rfl) (fun _ _ _ h => h) (by rfl) (fun w hw => by first | rfl | (go_simp; done) | (go_simp; rfl) | (go_simp; omega)) hHeld ?_
  simp only [Act.put, List.setIfInBounds_toArray, List.set_cons_zero, List.set_cons_succ]
  refine takeH 9 (some 44) (.agg (tabv (ledv y x (.slice adt n ct)) 3)) rfl rfl (by kernel_rfl) (by kernel_rfl) (by kernel_rfl) (fun _ _ _ h => h) (by rfl) (fun w hw => run_load_at w 26 _ rfl g12 0 (by rfl) _ 3 _ ((R12.out.below hw R12.out.lt).at_ 0 (by omega) (fun i hi => by rw [Nat.zero_add])) Try.underlying26 rfl infoL) hHeld ?_
  simp only [Act.put, List.setIfInBounds_toArray, List.set_cons_zero, List.set_cons_succ]
  refine takeH 10 (some 45) (.agg (tabv (ledv x y (.slice ad n cap)) 3)) rfl rfl (by kernel_rfl) (by kernel_rfl) (by kernel_rfl) (fun _ _ _ h => h) (by rfl) (fun w hw => run_load_at w 26 _ rfl gl 0 (by rfl) _ 3 _ ((RL9.out.below hw RL9.out.lt).at_ 0 (by omega) (fun i hi => by rw [Nat.zero_add])) Try.underlying26 rfl infoL) hHeld ?_
  simp only [Act.put, List.setIfInBounds_toArray, List.set_cons_zero, List.set_cons_succ]
  refine wpAnyH_ready (rs := [11]) (by kernel_rfl) (by simp) (AllReadyH.cons rfl (fun K hK => ?_) AllReadyH.nil)
  rw [if_pos (by rfl)]
  go_simp
  refine (rturn_any x y ad n cap l HN.out _ (HP9.out.below hHeld) (by have := HZ.out; omega)).mono ?_
  rintro e wA ⟨⟨vA, rfl, hOA⟩, hbA⟩
  obtain ⟨adA, cA, hvA, hSA, _, _, _⟩ := hOA.pens
  rw [turnP_len, HN.out] at hvA
  subst hvA
  have HSA := hide hSA
  try go_wp2_with fail
  refine hK.out _ _ (hHeld.trans (hbA.mono hHeld.size)) (fun hH => ?_)
  clear hOA hSA hbA
  clear hK hHeld
  have hHeld := hH
  clear hH
  refine wpAnyH_ready (rs := [12]) (by kernel_rfl) (by simp) (AllReadyH.cons rfl (fun K hK => ?_) AllReadyH.nil)
  rw [if_pos (by rfl)]
  go_simp
  refine (same_any y x y x adt adA n ct n cA (turnP l) (turnP l) (by rw [turnP_len]; exact HN.out) (by rw [turnP_len]; exact HN.out) (by have := HZ.out; omega) (by have := HZ.out; omega) _ (HT9.out.below hHeld) HSA.out).mono ?_
  rintro e wB ⟨R, rfl, hR, hbB⟩
  obtain rfl : R = true := hR.2 ⟨rfl, rfl, eqL_refl _⟩
  try go_wp2_with fail
  refine hK.out _ _ (hHeld.trans (hbB.mono hHeld.size)) (fun hH => ?_)
  clear hR hbB
  clear hK hHeld
  have hHeld := hH
  clear hH
  refine takeH 13 (some 48) (.bool true) rfl rfl (by kernel_rfl) (by kernel_rfl) (by kernel_rfl) (fun _ _ _ h => h) (by rfl) (fun w hw => by first | rfl | (go_simp; done) | (go_simp; rfl) | (go_simp; omega)) hHeld ?_
  simp only [Act.put, List.setIfInBounds_toArray, List.set_cons_zero, List.set_cons_succ]
  refine takeH 14 (some 49) (.bool true) rfl rfl (by kernel_rfl) (by kernel_rfl) (by kernel_rfl) (fun _ _ _ h => h) (by rfl) (fun w hw => by first | rfl | (go_simp; done) | (go_simp; rfl) | (go_simp; omega)) hHeld ?_
  simp only [Act.put, List.setIfInBounds_toArray, List.set_cons_zero, List.set_cons_succ]
  refine takeH 15 (some 50) (.agg (tabv (ledv x y (.slice (some ⟨q, 0, none⟩) n cq)) 3)) rfl rfl (by kernel_rfl) (by kernel_rfl) (by kernel_rfl) (fun _ _ _ h => h) (by rfl) (fun w hw => run_load_at w 26 _ rfl g9 0 (by rfl) _ 3 _ ((R99.out.below hw R99.out.lt).at_ 0 (by omega) (fun i hi => by rw [Nat.zero_add])) Try.underlying26 rfl infoL) hHeld ?_
  simp only [Act.put, List.setIfInBounds_toArray, List.set_cons_zero, List.set_cons_succ]
  refine takeH 16 (some 51) (.agg (tabv (ledv x y (.slice ad n cap)) 3)) rfl rfl (by kernel_rfl) (by kernel_rfl) (by kernel_rfl) (fun _ _ _ h => h) (by rfl) (fun w hw => run_load_at w 26 _ rfl gl 0 (by rfl) _ 3 _ ((RL9.out.below hw RL9.out.lt).at_ 0 (by omega) (fun i hi => by rw [Nat.zero_add])) Try.underlying26 rfl infoL) hHeld ?_
  simp only [Act.put, List.setIfInBounds_toArray, List.set_cons_zero, List.set_cons_succ]
  refine wpAnyH_ready (rs := [17]) (by kernel_rfl) (by simp) (AllReadyH.cons rfl (fun K hK => ?_) AllReadyH.nil)
  rw [if_pos (by rfl)]
  go_simp
  refine (kept_any x y q cq ad n cap l HN.out HZ.out HC2.out _ (HQ9.out.below hHeld) (HP9.out.below hHeld)).mono ?_
  rintro e wC ⟨rfl, hbC⟩
  try go_wp2_with fail
  refine hK.out _ _ (hHeld.trans (hbC.mono hHeld.size)) (fun hH => ?_)
  clear hbC
  clear hK hHeld
  have hHeld := hH
  clear hH
  refine takeH 18 (some 53) (.bool true) rfl rfl (by kernel_rfl) (by kernel_rfl) (by kernel_rfl) (fun _ _ _ h => h) (by rfl) (fun w hw => by first | rfl | (go_simp; done) | (go_simp; rfl) | (go_simp; omega)) hHeld ?_
  simp only [Act.put, List.setIfInBounds_toArray, List.set_cons_zero, List.set_cons_succ]
  refine takeH 19 (some 54) (.bool true) rfl rfl (by kernel_rfl) (by kernel_rfl) (by kernel_rfl) (fun _ _ _ h => h) (by rfl) (fun w hw => by first | rfl | (go_simp; done) | (go_simp; rfl) | (go_simp; omega)) hHeld ?_
  simp only [Act.put, List.setIfInBounds_toArray, List.set_cons_zero, List.set_cons_succ]
  refine wpAnyH_ready (rs := [20]) (by kernel_rfl) (by simp) (AllReadyH.cons rfl (fun K hK => ?_) AllReadyH.nil)
  rw [if_pos (by rfl)]
  go_simp
  refine (first_any _).mono ?_
  rintro e wD ⟨rfl, hbD⟩
  try go_wp2_with fail
  refine hK.out _ _ (hHeld.trans (hbD.mono hHeld.size)) (fun hH => ?_)
  clear hbD
  clear hK hHeld
  have hHeld := hH
  clear hH
  refine takeH 21 (some 56) (.bool true) rfl rfl (by kernel_rfl) (by kernel_rfl) (by kernel_rfl) (fun _ _ _ h => h) (by rfl) (fun w hw => by first | rfl | (go_simp; done) | (go_simp; rfl) | (go_simp; omega)) hHeld ?_
  simp only [Act.put, List.setIfInBounds_toArray, List.set_cons_zero, List.set_cons_succ]
  refine takeH 22 (some 8) (.bool true) rfl rfl (by kernel_rfl) (by kernel_rfl) (by kernel_rfl) (fun _ _ _ h => h) (by rfl) (fun w hw => by first | rfl | (go_simp; done) | (go_simp; rfl) | (go_simp; omega)) hHeld ?_
  simp only [Act.put, List.setIfInBounds_toArray, List.set_cons_zero, List.set_cons_succ]
  refine ⟨by kernel_rfl, ?_⟩
  refine NoPanic.normal ?_
  have gbF := gb9.trans (hHeld.mono HGP.out)
  try go_wp2
  go_ret
  exact ⟨rfl, by first | exact gbF | (rw [hg0]; exact gbF)⟩
theorem texts_row (oo nn : Int) (h : Nat → UInt8) (x y : Int) (ad : Option Addr) (n cap : Nat) (l : List Pen) (hn : l.length = n) (hz : n * 56 ≤ 140737488351232) (_ : n ≤ cap) (W : World) (hS : Pens W ad l ∧ Rng l) : Calls Try.prog 5 #[.int .i64 oo, .int .i64 nn, .agg (tabv (bv h) 32), .agg (tabv (ledv x y (.slice ad n cap)) 3)] W fun e w' => e = .returned (.bool true) ∧ Below W.heap.size W w' :=
  texts_walk oo nn h x y ad n cap l hn (by omega) hS.2 W hS.1
end Go.Proofs.Ythcaokiboimibaa
