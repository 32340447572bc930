import Derived.Test.YtmmcoedgoekhgaaGreatDoorDMsg
import Derived.Deep.CutRange
import Derived.Test.YtmmcoedgoekhgaaGreatDoorECode
/-
  signedText of the code (printed by gen_d10.py).
-/
namespace Go.Proofs.YtmmcoedgoekhgaaGreatDoor
open Go.RowKit S
set_option linter.unusedVariables false
set_option linter.unusedSimpArgs false
def sgF (s : St) (mine others : List Upd) : FA := foldA s.bo s.bp mine others s.so s.sp
set_option maxRecDepth 100000 in
set_option maxHeartbeats 40000000 in
theorem signedText_any (s : St) (mine others : List Upd) (hn1 : mine.length = s.ours.n) (hn2 : others.length = s.peers.n) (z1 : s.ours.n ≤ 1955000000000) (z2 : s.peers.n ≤ 1955000000000) (k1 : s.ours.n ≤ s.ours.c) (k2 : s.peers.n ≤ s.peers.c) (w : World) (hS1 : Upds w s.ours.ad mine) (hS2 : Upds w s.peers.ad others) : Calls Tryz.prog 46 #[.agg (tabv s.v 115)] w fun e w' => ∃ b c, e = .returned (.tuple #[.string b, .int .i64 c]) ∧ TX (sgF s mine others) (IntKind.i64.wrap (1 - s.side)) s.rem (bif s.rem != s.ack then s.p1 else s.p0) (sgF s mine others).y (sgF s mine others).x (turnP (sgF s mine others).l) b c ∧ Below w.heap.size w w' := by
  obtain ⟨w1, hW1⟩ : ∃ wX, w.alloc (.cells (tabv s.v 115) 32) = wX := ⟨_, rfl⟩
  have rs : Has w1 w.heap.size 32 s.v 115 := by rw [← hW1]; exact Has.new w 32 s.v 115 _ rfl
  have bb : Below w.heap.size w w1 := by rw [← hW1]; exact (Below.refl w.heap.size w).alloc (Nat.le_refl _) _
  have gb : Below w.heap.size w w1 := bb
  clear bb
  have Rb_s := hide rs
  have GB := hide gb
  clear gb rs
  have HLEN := hide (fold_len s.bo s.bp mine others s.so s.sp (by omega) (by omega))
  have HF := hide (fun wx (hb : Below w.heap.size w wx) => fold_all s.bo s.bp s.ours.ad s.peers.ad s.ours.n s.ours.c s.peers.n s.peers.c mine others hn1 hn2 z1 z2 k1 k2 s.so s.sp wx (hS1.below hb) (hS2.below hb))
  unfold sgF
  generalize foldA s.bo s.bp mine others s.so s.sp = F at HF HLEN ⊢
  clear hn1 hn2 z1 z2 k1 k2 hS1 hS2
  have hs0 : ∀ wx, Has wx (w.heap.size) 32 s.v 115 → wx.cell? ⟨w.heap.size, 0, none⟩ = some (.int .i64 s.side) := fun wx h => h.cell 0 (by omega)
  have hs7 : ∀ wx, Has wx (w.heap.size) 32 s.v 115 → wx.cell? ⟨w.heap.size, 7, none⟩ = some (.int .i64 s.rem) := fun wx h => h.cell 7 (by omega)
  have hs8 : ∀ wx, Has wx (w.heap.size) 32 s.v 115 → wx.cell? ⟨w.heap.size, 8, none⟩ = some (.int .i64 s.ack) := fun wx h => h.cell 8 (by omega)
  generalize s.side = sd at hs0 ⊢
  generalize s.rem = re at hs7 ⊢
  generalize s.ack = ak at hs8 ⊢
  replace hs0 := hide hs0
  replace hs7 := hide hs7
  replace hs8 := hide hs8
  have hp0 : ∀ wx, Has wx (w.heap.size) 32 s.v 115 → At wx w.heap.size 16 (bv s.p0) 32 := fun wx h => h.at_ 16 (by omega) (fun i hi => s.v_p0 i hi)
  have hp1 : ∀ wx, Has wx (w.heap.size) 32 s.v 115 → At wx w.heap.size 48 (bv s.p1) 32 := fun wx h => h.at_ 48 (by omega) (fun i hi => s.v_p1 i hi)
  generalize s.p0 = p0 at hp0 ⊢
  generalize s.p1 = p1 at hp1 ⊢
  replace hp0 := hide hp0
  replace hp1 := hide hp1
  obtain ⟨E, X, Y, LL⟩ := F
  obtain ⟨PT, hPT⟩ : ∃ x, (bif re != ak then p1 else p0) = x := ⟨_, rfl⟩
  rw [hPT]
  have HPT := hide hPT
  clear hPT
  go_enter Tryz.func46, Tryz.ntmps46
  have z0_s2 : w1.cell? ⟨w.heap.size, 2, none⟩ = some (.int .i64 s.bo) := Rb_s.out.cell 2 (by omega)
  have z0_s3 : w1.cell? ⟨w.heap.size, 3, none⟩ = some (.int .i64 s.bp) := Rb_s.out.cell 3 (by omega)
  have z0_s4 : w1.cell? ⟨w.heap.size, 4, none⟩ = some (.slice s.ours.ad s.ours.n s.ours.c) := Rb_s.out.cell 4 (by omega)
  have z0_s5 : w1.cell? ⟨w.heap.size, 5, none⟩ = some (.slice s.peers.ad s.peers.n s.peers.c) := Rb_s.out.cell 5 (by omega)
  have z0_s11 : w1.cell? ⟨w.heap.size, 11, none⟩ = some (.int .i64 s.so) := Rb_s.out.cell 11 (by omega)
  have z0_s12 : w1.cell? ⟨w.heap.size, 12, none⟩ = some (.int .i64 s.sp) := Rb_s.out.cell 12 (by omega)
  go_wp2_with (fail)
  refine (HF.out _ GB.out).mono ?_
  rintro e y1 ⟨v, rfl, hO, hb⟩
  clear z0_s2 z0_s3 z0_s4 z0_s5 z0_s11 z0_s12
  obtain ⟨ad, cap, rfl, hP, hlt, _, _⟩ := hO.pens
  clear hO hlt
  have Ry1_s := hide (Rb_s.out.below hb Rb_s.out.lt)
  have Gy1 := hide (GB.out.trans (hb.mono GB.out.size))
  clear hb
  have HP := hide hP
  clear hP
  obtain ⟨V1, V2, hV1, rV1, hV2, rV2, hb⟩ := newLd y1 X Y (.slice ad LL.length cap)
  have RV1 := hide rV1
  have RL := hide rV2
  have HP2 := hide (HP.out.below hb)
  clear rV1 rV2
  have RV2_s := hide (Ry1_s.out.below hb Ry1_s.out.lt)
  have GV2 := hide (Gy1.out.trans (hb.mono Gy1.out.size))
  clear hb
  cases qE : (E != 0) with
  | true =>
    go_wp2_with (first | (rw [hV1]) | (refine wpList_storeL rfl _ _ rfl rfl y1.heap.size X Y (.slice ad LL.length cap) rfl rfl rfl _ RV1.out ?_; rw [hV2]) | fail)
    go_ret2
    exact ⟨_, _, rfl, ⟨fun _ => ⟨rfl, rfl⟩, fun h => by have h : E = 0 := h; rw [h] at qE; simp at qE⟩, GV2.out⟩
  | false =>
    have E0 := hide (show E = 0 by simpa using qE)
    go_upto_region 4 with (first | (rw [hV1]) | (refine wpList_storeL rfl _ _ rfl rfl y1.heap.size X Y (.slice ad LL.length cap) rfl rfl rfl _ RV1.out ?_; rw [hV2]) | fail)
    obtain ⟨U1, U2, hU1, rU1, hU2, rU2, hb⟩ := newHs V2 p0
    have RU1 := hide rU1
    have RU2 := hide rU2
    have HP3 := hide (HP2.out.below hb)
    clear rU1 rU2
    have RU2_s := hide (RV2_s.out.below hb RV2_s.out.lt)
    have RU2_l := hide (RL.out.below hb RL.out.lt)
    have GU2 := hide (GV2.out.trans (hb.mono GV2.out.size))
    clear hb
    have z1_s7 : U2.cell? ⟨w.heap.size, 7, none⟩ = some (.int .i64 re) := hs7.out _ RU2_s.out
    have z1_s8 : U2.cell? ⟨w.heap.size, 8, none⟩ = some (.int .i64 ak) := hs8.out _ RU2_s.out
    rw [zero32] at hU1
    go_upto_region 5 with (first | (rw [hU1]) | (refine wpW_load_at 23 _ rfl (w.heap.size) (16) (by rfl) (by rfl) _ 32 _ (hp0.out _ RV2_s.out) Tryz.underlying23 rfl info26 ?_) | (refine wpList_storeHs rfl _ _ rfl rfl V2.heap.size p0 rfl rfl _ RU1.out ?_; rw [hU2]) | fail)
    try rw [hU2]
    have LP : V2.heap.size < U2.heap.size := RU2.out.lt
    cases q : (re != ak) with
    | true =>
      obtain rfl : p1 = PT := by have h := HPT.out; rw [q] at h; exact h
      obtain ⟨U3, hU3⟩ : ∃ x, U2.setRow V2.heap.size (tabv (bv p1) 32) = x := ⟨_, rfl⟩
      have RP := hide (show Has U3 V2.heap.size 23 (bv p1) 32 by rw [← hU3]; exact RU2.out.row _ _ rfl)
      have S3 := hide (show Has U3 w.heap.size 32 s.v 115 by rw [← hU3]; exact RU2_s.out.row_other _ _ (by have := RV2_s.out.lt; omega))
      have L3 := hide (show Has U3 y1.heap.size 143 (ledv X Y (.slice ad LL.length cap)) 3 by rw [← hU3]; exact RU2_l.out.row_other _ _ (by have := RL.out.lt; omega))
      have HP4 := hide (show Pens U3 ad LL by rw [← hU3]; exact HP2.out.below (below_setRow (by rw [← hU2, ← hU1] ; exact below_setRow ((Below.refl _ _).alloc (Nat.le_refl _) _) (Nat.le_refl _) _) (Nat.le_refl _) _))
      have G3 := hide (show Below w.heap.size w U3 by rw [← hU3]; exact below_setRow GU2.out (by have := GV2.out.size; omega) _)
      go_upto_region 7 with (first | (refine wpW_load_at 23 _ rfl (w.heap.size) (48) (by rfl) (by rfl) _ 32 _ (hp1.out _ RU2_s.out) Tryz.underlying23 rfl info26 ?_) | (refine wpList_storeHs rfl _ _ rfl rfl V2.heap.size p1 rfl rfl _ RU2.out ?_; rw [hU3]) | fail)
      try rw [hU3]
      refine wp_region_noPanic ?_
      refine wp_region_held_drew (S := fun wx => Below U3.heap.size U3 wx) (by kernel_rfl) ((Below.refl _ _).drew) (fun hHeld => ?_)
      generalize hwd : World.drew U3 = wd at hHeld ⊢
      refine Cu.takeH 0 (some 35) (.pointer (some ⟨w.heap.size, 0, none⟩)) rfl rfl (by kernel_rfl) (by kernel_rfl) (by kernel_rfl) (fun _ _ _ h => h) (by rfl) (fun w_ hw => by first | rfl | (go_simp; done) | (go_simp; rfl) | (go_simp; omega)) hHeld ?_
      simp only [Act.put, List.setIfInBounds_toArray, List.set_cons_zero, List.set_cons_succ]
      refine Cu.takeH 1 (some 36) (.int .i64 sd) rfl rfl (by kernel_rfl) (by kernel_rfl) (by kernel_rfl) (fun _ _ _ h => h) (by rfl) (fun w_ hw => by have c : World.cell? _ ⟨w.heap.size, 0, none⟩ = some (.int .i64 sd) := hs0.out _ (S3.out.below hw S3.out.lt); first | rfl | (go_simp; done) | (go_simp; rfl) | (go_simp; omega)) hHeld ?_
      simp only [Act.put, List.setIfInBounds_toArray, List.set_cons_zero, List.set_cons_succ]
      refine Cu.takeH 2 (some 37) (.int .i64 (IntKind.i64.wrap (1 - sd))) rfl rfl (by kernel_rfl) (by kernel_rfl) (by kernel_rfl) (fun _ _ _ h => h) (by rfl) (fun w_ hw => by first | rfl | (go_simp; done) | (go_simp; rfl) | (go_simp; omega)) hHeld ?_
      simp only [Act.put, List.setIfInBounds_toArray, List.set_cons_zero, List.set_cons_succ]
      refine Cu.takeH 3 (some 38) (.pointer (some ⟨w.heap.size, 7, none⟩)) rfl rfl (by kernel_rfl) (by kernel_rfl) (by kernel_rfl) (fun _ _ _ h => h) (by rfl) (fun w_ hw => by first | rfl | (go_simp; done) | (go_simp; rfl) | (go_simp; omega)) hHeld ?_
      simp only [Act.put, List.setIfInBounds_toArray, List.set_cons_zero, List.set_cons_succ]
      refine Cu.takeH 4 (some 39) (.int .i64 re) rfl rfl (by kernel_rfl) (by kernel_rfl) (by kernel_rfl) (fun _ _ _ h => h) (by rfl) (fun w_ hw => by have c : World.cell? _ ⟨w.heap.size, 7, none⟩ = some (.int .i64 re) := hs7.out _ (S3.out.below hw S3.out.lt); first | rfl | (go_simp; done) | (go_simp; rfl) | (go_simp; omega)) hHeld ?_
      simp only [Act.put, List.setIfInBounds_toArray, List.set_cons_zero, List.set_cons_succ]
      refine Cu.takeH 5 (some 40) (.agg (tabv (bv p1) 32)) rfl rfl (by kernel_rfl) (by kernel_rfl) (by kernel_rfl) (fun _ _ _ h => h) (by rfl) (fun w_ hw => run_load_at w_ 23 _ rfl (V2.heap.size) 0 (by rfl) _ 32 _ ((RP.out.below hw RP.out.lt).at_ 0 (by omega) (fun i hi => by rw [Nat.zero_add])) Tryz.underlying23 rfl info26) hHeld ?_
      simp only [Act.put, List.setIfInBounds_toArray, List.set_cons_zero, List.set_cons_succ]
      refine Cu.takeH 6 (some 41) (.agg (tabv (ledv X Y (.slice ad LL.length cap)) 3)) rfl rfl (by kernel_rfl) (by kernel_rfl) (by kernel_rfl) (fun _ _ _ h => h) (by rfl) (fun w_ hw => run_load_at w_ 143 _ rfl (y1.heap.size) 0 (by rfl) _ 3 _ ((L3.out.below hw L3.out.lt).at_ 0 (by omega) (fun i hi => by rw [Nat.zero_add])) Tryz.underlying143 rfl infoLg) hHeld ?_
      simp only [Act.put, List.setIfInBounds_toArray, List.set_cons_zero, List.set_cons_succ]
      refine wpAnyH_ready (rs := [7]) (by kernel_rfl) (by simp) (AllReadyH.cons rfl (fun K hK => ?_) AllReadyH.nil)
      rw [if_pos (by rfl)]
      go_simp
      refine (turn_any X Y ad LL.length cap LL rfl HLEN.out _ (HP4.out.below hHeld)).mono ?_
      rintro e yt ⟨⟨v, rfl, hOt⟩, hbq⟩
      try go_wp2_with fail
      obtain ⟨ad2, cap2, rfl, hP2, _, _, _⟩ := hOt.pens
      have HT := hide hP2
      clear hOt hP2
      refine hK.out _ _ (hHeld.trans (hbq.mono hHeld.size)) (fun hH => ?_)
      clear hK K hHeld
      have hHeld := hH
      clear hH
      refine wpAnyH_ready (rs := [8]) (by kernel_rfl) (by simp) (AllReadyH.cons rfl (fun K hK => ?_) AllReadyH.nil)
      rw [if_pos (by rfl)]
      go_simp
      refine (text_any (IntKind.i64.wrap (1 - sd)) re p1 Y X ad2 (turnP LL).length cap2 (turnP LL) rfl (by rw [turn_len]; exact HLEN.out) _ HT.out).mono ?_
      rintro e yx ⟨tb, tc, rfl, hTA, hbq⟩
      try go_wp2_with fail
      refine hK.out _ _ (hHeld.trans (hbq.mono hHeld.size)) (fun hH => ?_)
      clear hK K hHeld
      have hHeld := hH
      clear hH
      refine Cu.takeH 9 (some 44) (.string tb) rfl rfl (by kernel_rfl) (by kernel_rfl) (by kernel_rfl) (fun _ _ _ h => h) (by rfl) (fun w_ hw => kext0 w_ _ _ _ rfl (by rfl)) hHeld ?_
      simp only [Act.put, List.setIfInBounds_toArray, List.set_cons_zero, List.set_cons_succ]
      refine Cu.takeH 10 (some 45) (.int .i64 tc) rfl rfl (by kernel_rfl) (by kernel_rfl) (by kernel_rfl) (fun _ _ _ h => h) (by rfl) (fun w_ hw => kext1 w_ _ _ _ rfl (by rfl)) hHeld ?_
      simp only [Act.put, List.setIfInBounds_toArray, List.set_cons_zero, List.set_cons_succ]
      refine Cu.takeH 11 (some 2) (.string tb) rfl rfl (by kernel_rfl) (by kernel_rfl) (by kernel_rfl) (fun _ _ _ h => h) (by rfl) (fun w_ hw => kasg w_ _ _ rfl (by rfl)) hHeld ?_
      simp only [Act.put, List.setIfInBounds_toArray, List.set_cons_zero, List.set_cons_succ]
      refine Cu.takeH 12 (some 3) (.int .i64 tc) rfl rfl (by kernel_rfl) (by kernel_rfl) (by kernel_rfl) (fun _ _ _ h => h) (by rfl) (fun w_ hw => kasg w_ _ _ rfl (by rfl)) hHeld ?_
      simp only [Act.put, List.setIfInBounds_toArray, List.set_cons_zero, List.set_cons_succ]
      refine ⟨by kernel_rfl, ?_⟩
      refine NoPanic.normal ?_
      have BF := hide (G3.out.trans (hHeld.mono G3.out.size))
      clear hHeld hwd
      have TT := hide hTA
      clear hTA
      go_wp2
      go_ret2
      exact ⟨tb, tc, rfl, ⟨fun h => absurd E0.out h, fun _ => TT.out⟩, BF.out⟩
    | false =>
      obtain rfl : p0 = PT := by have h := HPT.out; rw [q] at h; exact h
      go_upto_region 7 with fail
      refine wp_region_noPanic ?_
      refine wp_region_held_drew (S := fun wx => Below U2.heap.size U2 wx) (by kernel_rfl) ((Below.refl _ _).drew) (fun hHeld => ?_)
      generalize hwd : World.drew U2 = wd at hHeld ⊢
      refine Cu.takeH 0 (some 35) (.pointer (some ⟨w.heap.size, 0, none⟩)) rfl rfl (by kernel_rfl) (by kernel_rfl) (by kernel_rfl) (fun _ _ _ h => h) (by rfl) (fun w_ hw => by first | rfl | (go_simp; done) | (go_simp; rfl) | (go_simp; omega)) hHeld ?_
      simp only [Act.put, List.setIfInBounds_toArray, List.set_cons_zero, List.set_cons_succ]
      refine Cu.takeH 1 (some 36) (.int .i64 sd) rfl rfl (by kernel_rfl) (by kernel_rfl) (by kernel_rfl) (fun _ _ _ h => h) (by rfl) (fun w_ hw => by have c : World.cell? _ ⟨w.heap.size, 0, none⟩ = some (.int .i64 sd) := hs0.out _ (RU2_s.out.below hw RU2_s.out.lt); first | rfl | (go_simp; done) | (go_simp; rfl) | (go_simp; omega)) hHeld ?_
      simp only [Act.put, List.setIfInBounds_toArray, List.set_cons_zero, List.set_cons_succ]
      refine Cu.takeH 2 (some 37) (.int .i64 (IntKind.i64.wrap (1 - sd))) rfl rfl (by kernel_rfl) (by kernel_rfl) (by kernel_rfl) (fun _ _ _ h => h) (by rfl) (fun w_ hw => by first | rfl | (go_simp; done) | (go_simp; rfl) | (go_simp; omega)) hHeld ?_
      simp only [Act.put, List.setIfInBounds_toArray, List.set_cons_zero, List.set_cons_succ]
      refine Cu.takeH 3 (some 38) (.pointer (some ⟨w.heap.size, 7, none⟩)) rfl rfl (by kernel_rfl) (by kernel_rfl) (by kernel_rfl) (fun _ _ _ h => h) (by rfl) (fun w_ hw => by first | rfl | (go_simp; done) | (go_simp; rfl) | (go_simp; omega)) hHeld ?_
      simp only [Act.put, List.setIfInBounds_toArray, List.set_cons_zero, List.set_cons_succ]
      refine Cu.takeH 4 (some 39) (.int .i64 re) rfl rfl (by kernel_rfl) (by kernel_rfl) (by kernel_rfl) (fun _ _ _ h => h) (by rfl) (fun w_ hw => by have c : World.cell? _ ⟨w.heap.size, 7, none⟩ = some (.int .i64 re) := hs7.out _ (RU2_s.out.below hw RU2_s.out.lt); first | rfl | (go_simp; done) | (go_simp; rfl) | (go_simp; omega)) hHeld ?_
      simp only [Act.put, List.setIfInBounds_toArray, List.set_cons_zero, List.set_cons_succ]
      refine Cu.takeH 5 (some 40) (.agg (tabv (bv p0) 32)) rfl rfl (by kernel_rfl) (by kernel_rfl) (by kernel_rfl) (fun _ _ _ h => h) (by rfl) (fun w_ hw => run_load_at w_ 23 _ rfl (V2.heap.size) 0 (by rfl) _ 32 _ ((RU2.out.below hw RU2.out.lt).at_ 0 (by omega) (fun i hi => by rw [Nat.zero_add])) Tryz.underlying23 rfl info26) hHeld ?_
      simp only [Act.put, List.setIfInBounds_toArray, List.set_cons_zero, List.set_cons_succ]
      refine Cu.takeH 6 (some 41) (.agg (tabv (ledv X Y (.slice ad LL.length cap)) 3)) rfl rfl (by kernel_rfl) (by kernel_rfl) (by kernel_rfl) (fun _ _ _ h => h) (by rfl) (fun w_ hw => run_load_at w_ 143 _ rfl (y1.heap.size) 0 (by rfl) _ 3 _ ((RU2_l.out.below hw RU2_l.out.lt).at_ 0 (by omega) (fun i hi => by rw [Nat.zero_add])) Tryz.underlying143 rfl infoLg) hHeld ?_
      simp only [Act.put, List.setIfInBounds_toArray, List.set_cons_zero, List.set_cons_succ]
      refine wpAnyH_ready (rs := [7]) (by kernel_rfl) (by simp) (AllReadyH.cons rfl (fun K hK => ?_) AllReadyH.nil)
      rw [if_pos (by rfl)]
      go_simp
      refine (turn_any X Y ad LL.length cap LL rfl HLEN.out _ (HP3.out.below hHeld)).mono ?_
      rintro e yt ⟨⟨v, rfl, hOt⟩, hbq⟩
      try go_wp2_with fail
      obtain ⟨ad2, cap2, rfl, hP2, _, _, _⟩ := hOt.pens
      have HT := hide hP2
      clear hOt hP2
      refine hK.out _ _ (hHeld.trans (hbq.mono hHeld.size)) (fun hH => ?_)
      clear hK K hHeld
      have hHeld := hH
      clear hH
      refine wpAnyH_ready (rs := [8]) (by kernel_rfl) (by simp) (AllReadyH.cons rfl (fun K hK => ?_) AllReadyH.nil)
      rw [if_pos (by rfl)]
      go_simp
      refine (text_any (IntKind.i64.wrap (1 - sd)) re p0 Y X ad2 (turnP LL).length cap2 (turnP LL) rfl (by rw [turn_len]; exact HLEN.out) _ HT.out).mono ?_
      rintro e yx ⟨tb, tc, rfl, hTA, hbq⟩
      try go_wp2_with fail
      refine hK.out _ _ (hHeld.trans (hbq.mono hHeld.size)) (fun hH => ?_)
      clear hK K hHeld
      have hHeld := hH
      clear hH
      refine Cu.takeH 9 (some 44) (.string tb) rfl rfl (by kernel_rfl) (by kernel_rfl) (by kernel_rfl) (fun _ _ _ h => h) (by rfl) (fun w_ hw => kext0 w_ _ _ _ rfl (by rfl)) hHeld ?_
      simp only [Act.put, List.setIfInBounds_toArray, List.set_cons_zero, List.set_cons_succ]
      refine Cu.takeH 10 (some 45) (.int .i64 tc) rfl rfl (by kernel_rfl) (by kernel_rfl) (by kernel_rfl) (fun _ _ _ h => h) (by rfl) (fun w_ hw => kext1 w_ _ _ _ rfl (by rfl)) hHeld ?_
      simp only [Act.put, List.setIfInBounds_toArray, List.set_cons_zero, List.set_cons_succ]
      refine Cu.takeH 11 (some 2) (.string tb) rfl rfl (by kernel_rfl) (by kernel_rfl) (by kernel_rfl) (fun _ _ _ h => h) (by rfl) (fun w_ hw => kasg w_ _ _ rfl (by rfl)) hHeld ?_
      simp only [Act.put, List.setIfInBounds_toArray, List.set_cons_zero, List.set_cons_succ]
      refine Cu.takeH 12 (some 3) (.int .i64 tc) rfl rfl (by kernel_rfl) (by kernel_rfl) (by kernel_rfl) (fun _ _ _ h => h) (by rfl) (fun w_ hw => kasg w_ _ _ rfl (by rfl)) hHeld ?_
      simp only [Act.put, List.setIfInBounds_toArray, List.set_cons_zero, List.set_cons_succ]
      refine ⟨by kernel_rfl, ?_⟩
      refine NoPanic.normal ?_
      have BF := hide (GU2.out.trans (hHeld.mono GU2.out.size))
      clear hHeld hwd
      have TT := hide hTA
      clear hTA
      go_wp2
      go_ret2
      exact ⟨tb, tc, rfl, ⟨fun h => absurd E0.out h, fun _ => TT.out⟩, BF.out⟩
end Go.Proofs.YtmmcoedgoekhgaaGreatDoor
/-
  Again, Reveal of the code (printed by gen_d12.py).
-/
namespace Go.Proofs.YtmmcoedgoekhgaaGreatDoor
open Go.RowKit S
set_option linter.unusedVariables false
set_option linter.unusedSimpArgs false
theorem tx_size {F : FA} {oo nn : Int} {h : Nat → UInt8} {x y : Int} {l : List Pen} {b : ByteArray} {c : Int} (t : TX F oo nn h x y l b c) (hl : l.length ≤ 3910000000000) : b.size < 1152921504606840000 := by
  by_cases he : F.e = 0
  · have ta := t.yes he
    by_cases h1 : Arg oo nn
    · by_cases h2 : Snd x y l
      · rw [(ta.good h1 h2).1]
        have : (Cu.ofL (textB oo nn h x y l)).size = (textB oo nn h x y l).length := by simp [Cu.ofL, ByteArray.size]
        rw [this, textB_length]; omega
      · rw [(ta.form h1 h2).1]; decide
    · rw [(ta.arg h1).1]; decide
  · rw [(t.no he).1]; decide
def commitM (i : Int) (h : Nat → UInt8) : Msg := ⟨4, 0, 0, i, 0, h, z32, nilB⟩
def revokeM (i : Int) (p q : Nat → UInt8) : Msg := ⟨5, 0, 0, i, 0, q, p, nilB⟩
set_option maxRecDepth 100000 in
theorem builtCM (i : Int) (h : Nat → UInt8) : Tryz.prog.built 36 [(0, .int .i64 4), (3, .int .i64 i), (5, .agg (tabv (bv h) 32))] = some (tabv (commitM i h).v 70) := by kernel_rfl
set_option maxRecDepth 100000 in
theorem builtRM (i : Int) (p q : Nat → UInt8) : Tryz.prog.built 36 [(0, .int .i64 5), (3, .int .i64 i), (6, .agg (tabv (bv p) 32)), (5, .agg (tabv (bv q) 32))] = some (tabv (revokeM i p q).v 70) := by kernel_rfl
set_option maxRecDepth 100000 in
theorem builtMZ : Tryz.prog.built 36 [] = some (tabv Msg.zero.v 70) := by kernel_rfl
/-- What a region that ends in the store of its message holds all along. -/
structure SM (w : World) (bc bs br : Nat) (c : Cf) (s : St) (wx : World) : Prop where
  c : Has wx bc 26 c.v 164
  s : Has wx bs 32 s.v 115
  r : ∃ f, Has wx br 36 f 70
  b : Below w.heap.size w wx
theorem SM.step {w : World} {bc bs br : Nat} {c : Cf} {s : St} {wx wy : World} (h : SM w bc bs br c s wx) (hb : Below wx.heap.size wx wy) : SM w bc bs br c s wy :=
  ⟨h.c.below hb h.c.lt, h.s.below hb h.s.lt, h.r.imp fun _ k => k.below hb k.lt, h.b.trans (hb.mono h.b.size)⟩
theorem SM.store {w : World} {bc bs br : Nat} {c : Cf} {s : St} {wx : World} (h : SM w bc bs br c s wx) (M : Msg) (h1 : bc ≠ br) (h2 : bs ≠ br) (h3 : w.heap.size ≤ br) : SM w bc bs br c s (wx.setRow br (tabv M.v 70)) ∧ Has (wx.setRow br (tabv M.v 70)) br 36 M.v 70 := by
  obtain ⟨f, hf⟩ := h.r
  exact ⟨⟨h.c.row_other _ _ h1, h.s.row_other _ _ h2, ⟨_, hf.row _ M.v rfl⟩, below_setRow h.b h3 _⟩, hf.row _ M.v rfl⟩
set_option maxRecDepth 100000 in
set_option maxHeartbeats 40000000 in
theorem again_any (num : Num) (c : Cf) (s : St) (mine others : List Upd) (hn1 : mine.length = s.ours.n) (hn2 : others.length = s.peers.n) (z1 : s.ours.n ≤ 1955000000000) (z2 : s.peers.n ≤ 1955000000000) (k1 : s.ours.n ≤ s.ours.c) (k2 : s.peers.n ≤ s.peers.c) (w : World) (hG : Glob num w) (hS1 : Upds w s.ours.ad mine) (hS2 : Upds w s.peers.ad others) : Calls Tryz.prog 18 #[.agg (tabv c.v 164), .agg (tabv s.v 115)] w fun e w' => ∃ b k, e = .returned (.agg (tabv (commitM s.rem (mac c.key b.data.toList)).v 70)) ∧ TX (sgF s mine others) (IntKind.i64.wrap (1 - s.side)) s.rem (bif s.rem != s.ack then s.p1 else s.p0) (sgF s mine others).y (sgF s mine others).x (turnP (sgF s mine others).l) b k ∧ Below w.heap.size w w' := by
  obtain ⟨w1, hW1⟩ : ∃ wX, w.alloc (.cells (tabv c.v 164) 26) = wX := ⟨_, rfl⟩
  have rc : Has w1 w.heap.size 26 c.v 164 := by rw [← hW1]; exact Has.new w 26 c.v 164 _ rfl
  have bb : Below w.heap.size w w1 := by rw [← hW1]; exact (Below.refl w.heap.size w).alloc (Nat.le_refl _) _
  have gb : Below w.heap.size w w1 := bb
  clear bb
  obtain ⟨w2, hW2⟩ : ∃ wX, w1.alloc (.cells (tabv s.v 115) 32) = wX := ⟨_, rfl⟩
  have rs : Has w2 w1.heap.size 32 s.v 115 := by rw [← hW2]; exact Has.new w1 32 s.v 115 _ rfl
  have bb : Below w1.heap.size w1 w2 := by rw [← hW2]; exact (Below.refl w1.heap.size w1).alloc (Nat.le_refl _) _
  have rc := rc.below bb rc.lt
  have gb : Below w.heap.size w w2 := gb.trans (bb.mono gb.size)
  clear bb
  obtain ⟨w3, hW3⟩ : ∃ wX, w2.alloc (.cells (tabv Msg.zero.v 70) 36) = wX := ⟨_, rfl⟩
  have rr : Has w3 w2.heap.size 36 Msg.zero.v 70 := by rw [← hW3]; exact Has.new w2 36 Msg.zero.v 70 _ rfl
  have bb : Below w2.heap.size w2 w3 := by rw [← hW3]; exact (Below.refl w2.heap.size w2).alloc (Nat.le_refl _) _
  have rc := rc.below bb rc.lt
  have rs := rs.below bb rs.lt
  have gb : Below w.heap.size w w3 := gb.trans (bb.mono gb.size)
  clear bb
  have Rb_c := hide rc
  have Rb_s := hide rs
  have Rb_r := hide rr
  have GB := hide gb
  clear gb rc rs rr
  have LB : w.heap.size ≤ w2.heap.size := by have h1 : w.heap.size < w1.heap.size := (by rw [← hW1, size_alloc]; omega); have h2 : w1.heap.size < w2.heap.size := (by rw [← hW2, size_alloc]; omega); omega
  rw [← zero70] at hW3
  have HLEN := hide (show (turnP (sgF s mine others).l).length ≤ 3910000000000 by rw [turn_len]; exact fold_len s.bo s.bp mine others s.so s.sp (by omega) (by omega))
  have HT := hide (fun wx (hb : Below w.heap.size w wx) => signedText_any s mine others hn1 hn2 z1 z2 k1 k2 wx (hS1.below hb) (hS2.below hb))
  have HG := hide (fun wx (hb : Below w.heap.size w wx) => hG.up hb)
  generalize sgF s mine others = F at HT HLEN ⊢
  clear hn1 hn2 z1 z2 k1 k2 hS1 hS2 hG
  generalize (bif s.rem != s.ack then s.p1 else s.p0) = PT at HT ⊢
  generalize IntKind.i64.wrap (1 - s.side) = OO at HT ⊢
  have hs7 : ∀ wx, Has wx (w1.heap.size) 32 s.v 115 → wx.cell? ⟨w1.heap.size, 7, none⟩ = some (.int .i64 s.rem) := fun wx h => h.cell 7 (by omega)
  generalize s.rem = re at hs7 HT ⊢
  replace hs7 := hide hs7
  have hk : ∀ wx, Has wx (w.heap.size) 26 c.v 164 → At wx w.heap.size 35 (bv c.key) 32 := fun wx h => h.at_ 35 (by omega) (fun i hi => c.v_key i hi)
  generalize c.key = key at hk ⊢
  replace hk := hide hk
  go_enter Tryz.func18, Tryz.ntmps18
  go_wp2_with (first | refine wpW_load_at 32 _ rfl (w1.heap.size) (0) (by rfl) (by rfl) _ 115 _ (Rb_s.out.at_ 0 (by omega) (fun i hi => by rw [Nat.zero_add])) Tryz.underlying32 rfl infoSt ?_ | fail)
  refine (HT.out _ GB.out).mono ?_
  rintro e y1 ⟨tb, tc, rfl, hTX, hb⟩
  have TT := hide hTX
  clear hTX
  have Ry1_c := hide (Rb_c.out.below hb Rb_c.out.lt)
  have Ry1_s := hide (Rb_s.out.below hb Rb_s.out.lt)
  have Ry1_r := hide (Rb_r.out.below hb Rb_r.out.lt)
  have Gy1 := hide (GB.out.trans (hb.mono GB.out.size))
  clear hb
  go_upto_region 2 with fail
  have N1 : w.heap.size ≠ w2.heap.size := by have h1 : w.heap.size < w1.heap.size := (by rw [← hW1, size_alloc]; omega); have h2 : w1.heap.size < w2.heap.size := (by rw [← hW2, size_alloc]; omega); omega
  have N2 : w1.heap.size ≠ w2.heap.size := by have h2 : w1.heap.size < w2.heap.size := (by rw [← hW2, size_alloc]; omega); omega
  refine wp_region_noPanic ?_
  refine wp_region_held_drew (S := SM w w.heap.size w1.heap.size w2.heap.size c s) (by kernel_rfl) (⟨Ry1_c.out, Ry1_s.out, ⟨_, Ry1_r.out⟩, belowD Gy1.out 1⟩) (fun hHeld => ?_)
  generalize hwd : World.drew y1 = wd at hHeld ⊢
  refine Cu.takeH 0 (some 12) (.pointer (some ⟨w1.heap.size, 7, none⟩)) rfl rfl (by kernel_rfl) (by kernel_rfl) (by kernel_rfl) (fun _ _ _ h => h) (by rfl) (fun w_ hw => by first | rfl | (go_simp; done) | (go_simp; rfl) | (go_simp; omega)) hHeld ?_
  simp only [Act.put, List.setIfInBounds_toArray, List.set_cons_zero, List.set_cons_succ]
  refine Cu.takeH 1 (some 13) (.int .i64 re) rfl rfl (by kernel_rfl) (by kernel_rfl) (by kernel_rfl) (fun _ _ _ h => h) (by rfl) (fun w_ hw => by have c : World.cell? _ ⟨w1.heap.size, 7, none⟩ = some (.int .i64 re) := hs7.out _ hw.s; first | rfl | (go_simp; done) | (go_simp; rfl)) hHeld ?_
  simp only [Act.put, List.setIfInBounds_toArray, List.set_cons_zero, List.set_cons_succ]
  refine Cu.takeH 2 (some 14) (.pointer (some ⟨w.heap.size, 35, none⟩)) rfl rfl (by kernel_rfl) (by kernel_rfl) (by kernel_rfl) (fun _ _ _ h => h) (by rfl) (fun w_ hw => by first | rfl | (go_simp; done) | (go_simp; rfl) | (go_simp; omega)) hHeld ?_
  simp only [Act.put, List.setIfInBounds_toArray, List.set_cons_zero, List.set_cons_succ]
  refine Cu.takeH 3 (some 15) (.agg (tabv (bv key) 32)) rfl rfl (by kernel_rfl) (by kernel_rfl) (by kernel_rfl) (fun _ _ _ h => h) (by rfl) (fun w_ hw => run_load_at w_ 23 _ rfl (w.heap.size) 35 (by rfl) _ 32 _ (hk.out _ hw.c) Tryz.underlying23 rfl info26) hHeld ?_
  simp only [Act.put, List.setIfInBounds_toArray, List.set_cons_zero, List.set_cons_succ]
  refine Cu.takeH 4 (some 16) (.string tb) rfl rfl (by kernel_rfl) (by kernel_rfl) (by kernel_rfl) (fun _ _ _ h => h) (by rfl) (fun w_ hw => by first | rfl | (go_simp; done) | (go_simp; rfl) | (go_simp; omega)) hHeld ?_
  simp only [Act.put, List.setIfInBounds_toArray, List.set_cons_zero, List.set_cons_succ]
  refine wpAnyH_ready (rs := [5]) (by kernel_rfl) (by simp) (AllReadyH.cons rfl (fun K hK => ?_) AllReadyH.nil)
  rw [if_pos (by rfl)]
  go_simp
  refine (sign_any num key tb _ (HG.out _ hHeld.b) (tx_size TT.out HLEN.out)).mono ?_
  rintro e ys ⟨rfl, hbq⟩
  try go_wp2_with fail
  refine hK.out _ _ (hHeld.step hbq) (fun hH => ?_)
  clear hK K hHeld
  have hHeld := hH
  clear hH
  refine Cu.takeH 6 (some 18) (.agg (tabv (commitM re (mac key tb.data.toList)).v 70)) rfl rfl (by kernel_rfl) (by kernel_rfl) (by kernel_rfl) (fun _ _ _ h => h) (by rfl) (fun w_ hw => run_buildG w_ 36 _ rfl [(0, .int .i64 4), (3, .int .i64 re), (5, .agg (tabv (bv (mac key tb.data.toList)) 32))] (by first | rfl | (simp [Act.eval, Act.put]; done)) _ (builtCM _ _)) hHeld ?_
  simp only [Act.put, List.setIfInBounds_toArray, List.set_cons_zero, List.set_cons_succ]
  refine wpAnyH_ready (rs := [7]) (by kernel_rfl) (by simp) (AllReadyH.cons rfl (fun K hK => ?_) AllReadyH.nil)
  rw [if_pos (by rfl)]
  obtain ⟨f9, hf9⟩ := hHeld.r
  refine wp_store_part 36 _ _ rfl rfl w2.heap.size 0 (commitM re (mac key tb.data.toList)).v 70 rfl rfl 36 _ 70 hf9 (by omega) infoM (fun i _ => oneM _ i) (commitM re (mac key tb.data.toList)).v (fun i hi => by unfold splice; rw [if_pos (by omega), Nat.sub_zero]) ?_
  obtain ⟨hS9, hM9⟩ := hHeld.store (commitM re (mac key tb.data.toList)) N1 N2 LB
  refine hK.out _ _ hS9 (fun hH => ?_)
  clear hK hHeld hH hf9
  generalize hwz : World.setRow _ w2.heap.size (tabv (commitM re (mac key tb.data.toList)).v 70) = wz at hS9 hM9 ⊢
  have RF := hide hM9
  have BF := hide hS9.b
  clear hwz hM9 hS9 hwd
  refine ⟨by kernel_rfl, ?_⟩
  refine NoPanic.normal ?_
  go_wp2
  (try simp only [Exit.inBlock, Exit.then])
  exact bodyPost_ret (results_cell_row rfl _ _ w2.heap.size 36 _ (0, 0) _ rfl RF.out Tryz.underlying36 rfl (by rw [tabv_size]; exact infoM)) rfl ⟨tb, tc, rfl, TT.out, BF.out⟩
end Go.Proofs.YtmmcoedgoekhgaaGreatDoor
