/-
  The document's Fold where all is valid (printed by gen_rfold2.py).
-/
import Derived.Test.YtoomcpehdflolaaGRFold
import Derived.Test.YtoomcpehdflolaaGMore
namespace Go.Proofs.Ytoomcpehdflolaa
open Go.RowKit S Go.Shelf Go.Sort
set_option linter.unusedVariables false
set_option linter.unusedSimpArgs false
theorem newW (w : World) : ∃ wa, w.alloc (.cells #[.int .i64 0, .int .i64 0] 85) = wa ∧ TW wa w.heap.size 0 ∧ Below w.heap.size w wa := ⟨_, rfl, Has.new w 85 _ 2 _ rfl, (Below.refl _ _).alloc (Nat.le_refl _) _⟩
theorem built_led3 (x y : Int) (ad : Option Addr) (n c : Nat) : Try.prog.built 32 [(0, .int .i64 x), (1, .int .i64 y), (2, .slice ad n c)] = some (tabv (ledv x y (.slice ad n c)) 3) := by kernel_rfl
set_option maxRecDepth 100000 in
set_option maxHeartbeats 4000000 in
theorem rfold_sum (bO bP : Int) (a1 a2 : Option Addr) (n1 c1 n2 c2 : Nat) (mine others : List Upd) (hn1 : mine.length = n1) (hn2 : others.length = n2) (z1 : n1 ≤ 1955000000000) (z2 : n2 ≤ 1955000000000) (k1 : n1 ≤ c1) (k2 : n2 ≤ c2) (kO kP : Nat) (lO : kO ≤ n1) (lP : kP ≤ n2) (x5 : isA bO = true) (x6 : isA bP = true) (x7 : isA (bO + bP) = true) (w : World) (hS1 : Upds w a1 mine) (hS2 : Upds w a2 others) (hv1 : (mine.take kO).all validB = true) (hv2 : (others.take kP).all validB = true) (P Q : List Upd) (hP : mine.take kO = P) (hQ : others.take kP = Q) (X Y : Int) (hX : balX bO P Q = X) (hY : balY bP P Q = Y) : Calls Try.prog 26 #[.int .i64 bO, .int .i64 bP, .slice a1 n1 c1, .slice a2 n2 c2, .agg (tabv (cnv (kO : Int) (kP : Int)) 2)] w fun e w' => (0 ≤ X ∧ 0 ≤ Y ∧ ∃ v, e = .returned (.tuple #[.agg (tabv (ledv (clampA X) (clampA Y) v) 3), .int .i64 0]) ∧ OwnP w.heap.size w' v (foldL P Q) ∧ Below w.heap.size w w') ∨ ((X < 0 ∨ Y < 0) ∧ e = .returned (.tuple #[.agg (tabv (ledv 0 0 (.slice none 0 0)) 3), .int .i64 130]) ∧ Below w.heap.size w w') := by
  have lP1 : P.length = kO := by rw [← hP, List.length_take]; omega
  have lQ1 : Q.length = kP := by rw [← hQ, List.length_take]; omega
  have eP : P.all validB = true := by rw [← hP]; exact hv1
  have eQ : Q.all validB = true := by rw [← hQ]; exact hv2
  obtain ⟨V1, V2, hV1, hV2, q1, q2, hlt, gb⟩ := rf_start w (kO : Int) (kP : Int)
  have hge : w.heap.size ≤ V1.heap.size := Nat.le_of_lt hlt
  obtain ⟨g9, hg9⟩ : ∃ g, w.heap.size = g := ⟨_, rfl⟩
  obtain ⟨gR, hgR⟩ : ∃ g, V1.heap.size = g := ⟨_, rfl⟩
  rw [hg9] at q1
  rw [hgR] at q2 hge
  have f0 : V2.cell? ⟨g9, 0, none⟩ = some (.int .i64 (kO : Int)) := q1.cell 0 (by omega)
  have f1 : V2.cell? ⟨g9, 1, none⟩ = some (.int .i64 (kP : Int)) := q1.cell 1 (by omega)
  have Q1 := hide q1
  have Q2 := hide q2
  have GE := hide hge
  clear q1 q2 hlt hge
  have x1 : decide ((kO : Int) < 0) = false := decide_eq_false (by omega)
  have x2 : decide ((n1 : Int) < (kO : Int)) = false := decide_eq_false (by omega)
  have x3 : decide ((kP : Int) < 0) = false := decide_eq_false (by omega)
  have x4 : decide ((n2 : Int) < (kP : Int)) = false := decide_eq_false (by omega)
  have zz := isA_wrap x5 x6
  have slO := fun w => sliceK w a1 n1 c1 kO (by omega)
  have slP := fun w => sliceK w a2 n2 c2 kP (by omega)
  have VP := hide (fun (v : World) (hb : Below w.heap.size w v) => rvalids_any a1 kO c1 (mine.take kO) (by rw [List.length_take]; omega) (by omega) v ((hS1.below hb).take _))
  have VQ := hide (fun (v : World) (hb : Below w.heap.size w v) => rvalids_any a2 kP c2 (others.take kP) (by rw [List.length_take]; omega) (by omega) v ((hS2.below hb).take _))
  have bA := (isA_iff bO).1 x5
  have bB := (isA_iff bP).1 x6
  obtain ⟨X1, hX1⟩ : ∃ Z, bO - sumIf (lostB Q) P = Z := ⟨_, rfl⟩
  obtain ⟨Y1, hY1⟩ : ∃ Z, bP + sumIf (wonB Q) P = Z := ⟨_, rfl⟩
  have hX2 : X1 + sumIf (wonB P) Q = X := by rw [← hX1, ← hX]; unfold balX; omega
  have hY2 : Y1 - sumIf (lostB P) Q = Y := by rw [← hY1, ← hY]; unfold balY; omega
  have BX1 : BX X1 ∧ BX Y1 := by
    have e1 := sumIf_bd (lost_add Q) P
    have e3 := sumIf_bd (won_add Q) P
    unfold BX
    rw [lP1] at e1 e3
    have e7 : (kO : Int) ≤ 1955000000000 := by omega
    omega
  have SD1 := hide (fun (v : World) (hb : Below w.heap.size w v) => rside_any bO bP a1 a2 kO c1 kP c2 P Q lP1 lQ1 (by omega) (by omega) true eP v (by have h := (hS1.below hb).take kO; rw [hP] at h; exact h) (by have h := (hS2.below hb).take kP; rw [hQ] at h; exact h) (by unfold BX; omega) (by unfold BX; omega))
  have SD2 := hide (fun (v : World) (hb : Below w.heap.size w v) => rside_any Y1 X1 a2 a1 kP c2 kO c1 Q P lQ1 lP1 (by omega) (by omega) false eQ v (by have h := (hS2.below hb).take kP; rw [hQ] at h; exact h) (by have h := (hS1.below hb).take kO; rw [hP] at h; exact h) BX1.2 BX1.1)
  rw [hX1, hY1] at SD1
  rw [hY2, hX2] at SD2
  rw [hP] at VP
  rw [hQ] at VQ
  have HBB : Hid ((0 ≤ bO ∧ bO ≤ 1152921504606846976) ∧ (0 ≤ bP ∧ bP ≤ 1152921504606846976)) := ⟨bA, bB⟩
  have HLL : Hid (P.length = kO ∧ Q.length = kP ∧ kO ≤ 1955000000000 ∧ kP ≤ 1955000000000) := ⟨lP1, lQ1, by omega, by omega⟩
  have EPQ := hide (And.intro eP eQ)
  clear hv1 hv2 hP hQ hX hY lP1 lQ1 eP eQ bA bB hX1 hY1 hX2 hY2 BX1 hn1 hn2 z1 z2 k1 k2
  go_enter Try.func26, Try.ntmps26
  go_wp2_with (first | (go_at_call 46; go_must (refine (ramount_any _ _).mono ?_); rintro e wx ⟨rfl, hx⟩; obtain rfl := hx.symm; clear hx; first | rw [x5] | rw [x6] | rw [x7]))
  refine (VP.out _ gb).mono ?_
  rintro e w3 ⟨rfl, hb3⟩
  rw [EPQ.out.1]
  have gb3 := gb.trans (hb3.mono gb.size)
  have Q3 := Q2.out.below hb3 Q2.out.lt
  clear hb3 gb f0 f1
  go_wp2_with fail
  refine (VQ.out _ gb3).mono ?_
  rintro e w4 ⟨rfl, hb4⟩
  rw [EPQ.out.2]
  have gb4 := gb3.trans (hb4.mono gb3.size)
  have Q4 := Q3.below hb4 Q3.lt
  clear hb4 gb3 Q3
  go_wp2_with (first | refine wpW_build (by rfl) 85 #[] rfl [] rfl _ builtW0 ?_)
  refine (rplus_any 0 bO w4 (by have := HBB.out; omega) (by have := HBB.out; omega) (by unfold Bd; omega)).mono ?_
  rintro e w5 ⟨rfl, hb5⟩
  rw [Int.zero_add]
  have gb5 := gb4.trans (hb5.mono gb4.size)
  have Q5 := Q4.below hb5 Q4.lt
  clear hb5 gb4 Q4
  go_wp2_with (first | refine wpW_build (by rfl) 85 #[] rfl [] rfl _ builtW0 ?_)
  refine (rplus_any 0 bP w5 (by have := HBB.out; omega) (by have := HBB.out; omega) (by unfold Bd; omega)).mono ?_
  rintro e w6 ⟨rfl, hb6⟩
  rw [Int.zero_add]
  have gb6 := gb5.trans (hb6.mono gb5.size)
  have Q6 := Q5.below hb6 Q5.lt
  clear hb6 gb5 Q5
  go_wp2_with fail
  refine (SD1.out _ gb6).mono ?_
  rintro e w7 ⟨⟨v1, rfl, o7⟩, hb7⟩
  have gb7 := gb6.trans (hb7.mono gb6.size)
  have Q7 := Q6.below hb7 Q6.lt
  obtain ⟨w8, hW8, t8, b8⟩ := newW w7
  obtain ⟨w9, hW9, t9, b9⟩ := newW w8
  have l8 : w7.heap.size < w8.heap.size := Has.lt t8
  have t89 := t8.below b9
  have b79 : Below w7.heap.size w7 w9 := b8.trans (b9.mono b8.size)
  obtain ⟨gX, hgX⟩ : ∃ g, w7.heap.size = g := ⟨_, rfl⟩
  obtain ⟨gY, hgY⟩ : ∃ g, w8.heap.size = g := ⟨_, rfl⟩
  rw [hgX] at t89
  rw [hgY] at t9
  obtain ⟨wA, hWA⟩ : ∃ z, w9.setRow gX (tabv (totv X1) 2) = z := ⟨_, rfl⟩
  obtain ⟨wB, hWB⟩ : ∃ z, wA.setRow gY (tabv (totv Y1) 2) = z := ⟨_, rfl⟩
  have hRX : gR < gX := by rw [← hgX]; exact Q7.lt
  have NE : Hid (gX ≠ gY ∧ w.heap.size ≤ gX ∧ w.heap.size ≤ gY ∧ gR < gX ∧ gR < gY) := by have := gb7.size; show _ ∧ _; omega
  have kA : Keep (· = gX) w9 wA := by rw [← hWA]; exact keep_row _ _ _ rfl
  have kB : Keep (· = gY) wA wB := by rw [← hWB]; exact keep_row _ _ _ rfl
  have tXA : TW wA gX X1 := by rw [← hWA]; exact t89.put _
  have tYA := t9.keep kA (fun e => by have := NE.out; omega)
  have tXB := tXA.keep kB (fun e => by have := NE.out; omega)
  have tYB : TW wB gY Y1 := by rw [← hWB]; exact tYA.put _
  have gb9 := gb7.trans (b79.mono gb7.size)
  have gbB : Below w.heap.size w wB := (gb9.trans (kA.below gb9.size (fun k hk e => by have := NE.out; omega))).trans (kB.below (Nat.le_trans gb9.size kA.size) (fun k hk e => by have := NE.out; omega))
  have o9 := o7.below b79
  have o7l := fun k hk => (o7.lt k hk).2
  have oB : OwnP w6.heap.size wB v1 (sortP (opensL true Q P)) := (o9.keep kA (fun k hk e => by have := o7l k hk; omega)).keep kB (fun k hk e => by have := o7l k hk; omega)
  have QB := (((Q7.below b79 Q7.lt).keep kA (fun e => by have := NE.out; omega)).keep kB (fun e => by have := NE.out; omega))
  have hvX := fun k hk => o7l k hk
  have T89 := hide t89
  have TYA := hide tYA
  have one1 := o7.one
  have W6X : Hid (w6.heap.size ≤ gX) := by show _ ≤ _; rw [← hgX]; exact hb7.size
  have RW6 : Hid (gR < w6.heap.size) := Q6.lt
  have w6w : w.heap.size ≤ w6.heap.size := gb6.size
  clear hb7 gb6 gb7 gb9 Q6 Q7 t8 b8 b9 b79 t9 t89 kA kB tXA tYA o7 o9
  go_wp2_with (first | rw [hWB] | rw [hWA] | refine wpList_storeW rfl _ _ rfl rfl gX (X1) rfl rfl _ T89.out ?_ | refine wpList_storeW rfl _ _ rfl rfl gY (Y1) rfl rfl _ TYA.out ?_ | refine wpW_load_at 85 _ rfl gY 0 (by rfl) (by rfl) _ 2 _ (tYB.at_) Try.underlying85 rfl infoW ?_ | refine wpW_load_at 85 _ rfl gX 0 (by rfl) (by rfl) _ 2 _ (tXB.at_) Try.underlying85 rfl infoW ?_)
  refine (SD2.out _ gbB).mono ?_
  rintro e wC ⟨⟨v2, rfl, oC⟩, hbC⟩
  obtain ⟨wD, hWD⟩ : ∃ z, wC.setRow gY (tabv (totv Y) 2) = z := ⟨_, rfl⟩
  obtain ⟨wE, hWE⟩ : ∃ z, wD.setRow gX (tabv (totv X) 2) = z := ⟨_, rfl⟩
  have kD : Keep (· = gY) wC wD := by rw [← hWD]; exact keep_row _ _ _ rfl
  have kE : Keep (· = gX) wD wE := by rw [← hWE]; exact keep_row _ _ _ rfl
  have tXC := tXB.below hbC
  have tYC := tYB.below hbC
  have tXD := tXC.keep kD (fun e => by have := NE.out; omega)
  have tYD : TW wD gY Y := by rw [← hWD]; exact tYC.put _
  have tXE : TW wE gX X := by rw [← hWE]; exact tXD.put _
  have tYE := tYD.keep kE (fun e => by have := NE.out; omega)
  have gbC := gbB.trans (hbC.mono gbB.size)
  have gbE : Below w.heap.size w wE := (gbC.trans (kD.below gbC.size (fun k hk e => by have := NE.out; omega))).trans (kE.below (Nat.le_trans gbC.size kD.size) (fun k hk e => by have := NE.out; omega))
  have xB : gX < wB.heap.size := Has.lt tXB
  have yB : gY < wB.heap.size := Has.lt tYB
  have oE1 : OwnP w6.heap.size wE v1 (sortP (opensL true Q P)) := ((oB.below hbC).keep kD (fun k hk e => by have := hvX k hk; omega)).keep kE (fun k hk e => by have := hvX k hk; omega)
  have oE2 : OwnP wB.heap.size wE v2 (sortP (opensL false P Q)) := (oC.keep kD (fun k hk e => by have := (oC.lt k hk).1; omega)).keep kE (fun k hk e => by have := (oC.lt k hk).1; omega)
  have QE := (((QB.below hbC QB.lt).keep kD (fun e => by have := NE.out; omega)).keep kE (fun e => by have := NE.out; omega))
  have vX : wE.cell? ⟨gX, 0, none⟩ = some (.int .i64 (X / 1152921504606846976)) := Has.cell tXE 0 (by omega)
  have vY : wE.cell? ⟨gY, 0, none⟩ = some (.int .i64 (Y / 1152921504606846976)) := Has.cell tYE 0 (by omega)
  have TYC := hide tYC
  have TXD := hide tXD
  have TXE := hide tXE
  have TYE := hide tYE
  have HQE := hide QE
  have one2 := oC.one
  clear tXB tYB tXC tYC tXD tYD tXE tYE kD kE oB oC QB QE hbC gbB gbC xB yB
  by_cases hx : X < 0
  · have hdx : decide (X / 1152921504606846976 < 0) = true := decide_eq_true (by omega)
    go_wp2_with (first | rw [hWE] | rw [hWD] | refine wpList_storeW rfl _ _ rfl rfl gY (Y) rfl rfl _ TYC.out ?_ | refine wpList_storeW rfl _ _ rfl rfl gX (X) rfl rfl _ TXD.out ?_ | refine wpW_build (by rfl) 32 #[] rfl [] rfl _ built_L0 ?_ | refine wpList_storeL rfl _ _ rfl rfl gR 0 0 (.slice none 0 0) rfl rfl rfl _ HQE.out ?_)
    exact bodyPost_ret (resL2 _ gR _ _ (.int .i64 130) 10 11 (HQE.out.row _ (ledv 0 0 (.slice none 0 0)) rfl) rfl rfl _ rfl) rfl (.inr ⟨.inl hx, rfl, by first | exact below_setRow gbE GE.out _ | (rw [← hg9]; exact below_setRow gbE GE.out _)⟩)
  · have hdx : decide (X / 1152921504606846976 < 0) = false := decide_eq_false (by omega)
    by_cases hy : Y < 0
    · have hdy : decide (Y / 1152921504606846976 < 0) = true := decide_eq_true (by omega)
      go_wp2_with (first | rw [hWE] | rw [hWD] | refine wpList_storeW rfl _ _ rfl rfl gY (Y) rfl rfl _ TYC.out ?_ | refine wpList_storeW rfl _ _ rfl rfl gX (X) rfl rfl _ TXD.out ?_ | refine wpW_build (by rfl) 32 #[] rfl [] rfl _ built_L0 ?_ | refine wpList_storeL rfl _ _ rfl rfl gR 0 0 (.slice none 0 0) rfl rfl rfl _ HQE.out ?_)
      exact bodyPost_ret (resL2 _ gR _ _ (.int .i64 130) 10 11 (HQE.out.row _ (ledv 0 0 (.slice none 0 0)) rfl) rfl rfl _ rfl) rfl (.inr ⟨.inr hy, rfl, by first | exact below_setRow gbE GE.out _ | (rw [← hg9]; exact below_setRow gbE GE.out _)⟩)
    · have hdy : decide (Y / 1152921504606846976 < 0) = false := decide_eq_false (by omega)
      obtain ⟨ad2, n2', cc2, rfl⟩ := oE2.form
      obtain ⟨ad1, n1', cc1, rfl⟩ := oE1.form
      go_wp2_with (first | rw [hWE] | rw [hWD] | refine wpList_storeW rfl _ _ rfl rfl gY (Y) rfl rfl _ TYC.out ?_ | refine wpList_storeW rfl _ _ rfl rfl gX (X) rfl rfl _ TXD.out ?_)
      try rw [hWE]
      refine wp_region_noPanic ?_
      refine wp_region_held_drew (S := fun wx => (TW wx gX X ∧ TW wx gY Y) ∧ (∃ f, Has wx gR 32 f 3) ∧ Below w.heap.size w wx) (by kernel_rfl) (⟨⟨TXE.out, TYE.out⟩, ⟨_, HQE.out⟩, gbE.drew⟩) (fun hHeld => ?_)
      refine takeH 0 (some 106) (.agg (tabv (totv X) 2)) rfl rfl (by kernel_rfl) (by kernel_rfl) (by kernel_rfl) (fun _ _ _ h => h) (by rfl) (fun w hw => run_load_at w 85 _ rfl gX 0 (by rfl) _ 2 _ (hw.1.1.at_) Try.underlying85 rfl infoW) hHeld ?_
      simp only [Act.put, List.setIfInBounds_toArray, List.set_cons_zero, List.set_cons_succ]
      refine takeH 2 (some 108) (.agg (tabv (totv Y) 2)) rfl rfl (by kernel_rfl) (by kernel_rfl) (by kernel_rfl) (fun _ _ _ h => h) (by rfl) (fun w hw => run_load_at w 85 _ rfl gY 0 (by rfl) _ 2 _ (hw.1.2.at_) Try.underlying85 rfl infoW) hHeld ?_
      simp only [Act.put, List.setIfInBounds_toArray, List.set_cons_zero, List.set_cons_succ]
      refine takeH 4 (some 110) (.slice ad1 n1' cc1) rfl rfl (by kernel_rfl) (by kernel_rfl) (by kernel_rfl) (fun _ _ _ h => h) (by rfl) (fun w hw => by first | rfl | (go_simp; done) | (go_simp; rfl) | (go_simp; omega)) hHeld ?_
      simp only [Act.put, List.setIfInBounds_toArray, List.set_cons_zero, List.set_cons_succ]
      refine takeH 5 (some 111) (.slice ad2 n2' cc2) rfl rfl (by kernel_rfl) (by kernel_rfl) (by kernel_rfl) (fun _ _ _ h => h) (by rfl) (fun w hw => by first | rfl | (go_simp; done) | (go_simp; rfl) | (go_simp; omega)) hHeld ?_
      simp only [Act.put, List.setIfInBounds_toArray, List.set_cons_zero, List.set_cons_succ]
      have oq1 : OwnP w6.heap.size (World.drew wE) (.slice ad1 n1' cc1) (sortP (opensL true Q P)) := oE1
      have oq2 : OwnP wB.heap.size (World.drew wE) (.slice ad2 n2' cc2) (sortP (opensL false P Q)) := oE2
      refine wpAnyH_ready (rs := [1]) (by kernel_rfl) (by simp) (AllReadyH.cons rfl (fun K hK => ?_) AllReadyH.nil)
      · rw [if_pos (by rfl)]
        go_simp
        refine (rcut_any X _).mono ?_
        rintro e w_1 ⟨rfl, hb⟩
        try go_wp2_with fail
        have sN : (TW w_1 gX X ∧ TW w_1 gY Y) ∧ (∃ f, Has w_1 gR 32 f 3) ∧ Below w.heap.size w w_1 := ⟨⟨hHeld.1.1.below hb, hHeld.1.2.below hb⟩, hHeld.2.1.imp (fun f hf => hf.below hb hf.lt), hHeld.2.2.trans (hb.mono hHeld.2.2.size)⟩
        have oq1 := oq1.below hb
        have oq2 := oq2.below hb
        refine hK.out _ _ sN (fun hH => ?_)
        clear hK K hHeld sN
        have hHeld := hH
        clear hH
        refine wpAnyH_ready (rs := [3]) (by kernel_rfl) (by simp) (AllReadyH.cons rfl (fun K hK => ?_) AllReadyH.nil)
        · rw [if_pos (by rfl)]
          go_simp
          refine (rcut_any Y _).mono ?_
          rintro e w_13 ⟨rfl, hb⟩
          try go_wp2_with fail
          have sN : (TW w_13 gX X ∧ TW w_13 gY Y) ∧ (∃ f, Has w_13 gR 32 f 3) ∧ Below w.heap.size w w_13 := ⟨⟨hHeld.1.1.below hb, hHeld.1.2.below hb⟩, hHeld.2.1.imp (fun f hf => hf.below hb hf.lt), hHeld.2.2.trans (hb.mono hHeld.2.2.size)⟩
          have oq1 := oq1.below hb
          have oq2 := oq2.below hb
          refine hK.out _ _ sN (fun hH => ?_)
          clear hK K hHeld sN
          have hHeld := hH
          clear hH
          refine wpAnyH_ready (rs := [6]) (by kernel_rfl) (by simp) (AllReadyH.cons rfl (fun K hK => ?_) AllReadyH.nil)
          · rw [if_pos (by rfl)]
            obtain ⟨vF, w_136, rF, oF, gF⟩ := run_appPP (w_13) w6.heap.size wB.heap.size _ _ _ _ oq1 oq2 (by rw [sortP_length, sortP_length]; have e1 := opens_len true Q P; have e2 := opens_len false P Q; have := HLL.out; omega) (by have h1 := W6X.out; have h2 := Has.lt hHeld.1.1; omega)
            obtain ⟨adF, nF, cF, rfl⟩ := oF.form
            have kF : Keep (fun k => w6.heap.size ≤ k ∧ (Value.slice ad1 n1' cc1).ownBlock = some k) (w_13) w_136 := Keep.grown gF (fun k hk => ⟨(oq1.lt k hk).1, hk⟩)
            have sN : (TW w_136 gX X ∧ TW w_136 gY Y) ∧ (∃ f, Has w_136 gR 32 f 3) ∧ Below w.heap.size w w_136 := ⟨⟨hHeld.1.1.keep kF (fun e => by have := hvX _ e.2; omega), hHeld.1.2.keep kF (fun e => by have := hvX _ e.2; have := NE.out; omega)⟩, hHeld.2.1.imp (fun f hf => hf.keep kF (fun e => by have := e.1; have := RW6.out; omega)), hHeld.2.2.trans (kF.below hHeld.2.2.size (fun k hk e => by have := e.1; omega))⟩
            refine wp_app _ _ _ rfl rF (some 112) rfl ?_
            refine hK.out _ _ sN (fun hH => ?_)
            clear hK K hHeld sN
            have hHeld := hH
            clear hH
            simp only [Act.put, List.setIfInBounds_toArray, List.set_cons_zero, List.set_cons_succ]
            refine takeH 7 (some 113) (.agg (tabv (ledv (clampA X) (clampA Y) (.slice adF nF cF)) 3)) rfl rfl (by kernel_rfl) (by kernel_rfl) (by kernel_rfl) (fun _ _ _ h => h) (by rfl) (fun w hw => run_buildQ w _ _ rfl [(0, .int .i64 (clampA X)), (1, .int .i64 (clampA Y)), (2, .slice adF nF cF)] (by first | (simp [Act.eval]; done) | (go_simp; done) | (go_simp; rfl) | kernel_rfl) _ (built_led3 _ _ _ _ _)) hHeld ?_
            simp only [Act.put, List.setIfInBounds_toArray, List.set_cons_zero, List.set_cons_succ]
            refine wpAnyH_ready (rs := [8]) (by kernel_rfl) (by simp) (AllReadyH.cons rfl (fun K hK => ?_) AllReadyH.nil)
            rw [if_pos (by rfl)]
            obtain ⟨fR, hfR⟩ := hHeld.2.1
            refine wp_store_part 32 _ _ rfl rfl gR 0 (ledv (clampA X) (clampA Y) (.slice adF nF cF)) 3 rfl rfl 32 fR 3 hfR (by omega) infoL (fun i _ => one_ledv _ _ _ rfl i) (ledv (clampA X) (clampA Y) (.slice adF nF cF)) (fun i hi => by unfold splice; rw [if_pos (by omega), Nat.sub_zero]) ?_
            have kR : Keep (· = gR) (w_136) (World.setRow (w_136) gR (tabv (ledv (clampA X) (clampA Y) (.slice adF nF cF)) 3)) := keep_row _ _ _ rfl
            have oR : OwnP w6.heap.size (World.setRow (w_136) gR (tabv (ledv (clampA X) (clampA Y) (.slice adF nF cF)) 3)) (.slice adF nF cF) (foldL P Q) := oF.keep kR (fun k hk e => by have := (oF.lt k hk).1; have := RW6.out; omega)
            have rR := Has.row (w := w_136) hfR _ (ledv (clampA X) (clampA Y) (.slice adF nF cF)) rfl
            have gbR := below_setRow hHeld.2.2 GE.out (tabv (ledv (clampA X) (clampA Y) (.slice adF nF cF)) 3)
            refine hK.out _ _ ⟨⟨hHeld.1.1.keep kR (fun e => by have := NE.out; omega), hHeld.1.2.keep kR (fun e => by have := NE.out; omega)⟩, ⟨_, rR⟩, gbR⟩ (fun hH => ?_)
            clear hK K hHeld
            have hHeld := hH
            clear hH
            refine takeH 9 (some 11) (.int .i64 0) rfl rfl (by kernel_rfl) (by kernel_rfl) (by kernel_rfl) (fun _ _ _ h => h) (by rfl) (fun w hw => by first | rfl | (go_simp; done) | (go_simp; rfl) | (go_simp; omega)) hHeld ?_
            simp only [Act.put, List.setIfInBounds_toArray, List.set_cons_zero, List.set_cons_succ]
            refine ⟨by kernel_rfl, ?_⟩
            refine NoPanic.normal ?_
            try go_wp2
            exact bodyPost_ret (resL2 _ gR _ _ (.int .i64 0) 10 11 rR rfl rfl _ rfl) rfl (.inl ⟨by omega, by omega, _, rfl, oR.mono w6w, by first | exact gbR | (rw [← hg9]; exact gbR)⟩)
end Go.Proofs.Ytoomcpehdflolaa
