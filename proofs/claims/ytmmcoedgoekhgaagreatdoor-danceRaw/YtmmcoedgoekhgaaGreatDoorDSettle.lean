import Derived.Test.YtmmcoedgoekhgaaGreatDoorDOwText
import Derived.Test.YtmmcoedgoekhgaaGreatDoorDMsg
import Derived.Deep.CutRange
import Derived.Test.YtmmcoedgoekhgaaGreatDoorDAgain
import Derived.Test.YtmmcoedgoekhgaaGreatDoorDRemove
/-
  Heard of the code (printed by gen_d15.py).
-/
namespace Go.Proofs.YtmmcoedgoekhgaaGreatDoor
open Go.RowKit S
set_option linter.unusedVariables false
set_option linter.unusedSimpArgs false
def heardA (s : St) (mine others : List Upd) (u : Upd) : Int := bif deadB s then 220 else bif decide (IntKind.i64.wrap ((s.peers.n : Int) - s.ap) ≥ 512) then 131 else bif (nextA others (mine.take (withinN (fxO s) s.ours.n)) u != 0) then 120 else bif (u.kind != 1) then 0 else bif decide ((openN others mine (fxO s) : Int) ≥ 483) then 131 else bif decide (u.amt > spendA s.bp others mine (fxP s) (fxO s)) then 130 else 0
set_option maxRecDepth 100000 in
set_option maxHeartbeats 40000000 in
theorem heard_any (num : Num) (s : St) (u : Upd) (mine others : List Upd) (hn1 : mine.length = s.ours.n) (hn2 : others.length = s.peers.n) (z1 : s.ours.n ≤ 1955000000000) (z2 : s.peers.n ≤ 1955000000000) (k1 : s.ours.n ≤ s.ours.c) (k2 : s.peers.n ≤ s.peers.c) (w : World) (hG : Glob num w) (hS1 : Upds w s.ours.ad mine) (hS2 : Upds w s.peers.ad others) : Calls Tryz.prog 19 #[.agg (tabv s.v 115), .agg (tabv u.v 36)] w fun e w' => e = .returned (.int .i64 (heardA s mine others u)) ∧ Below w.heap.size w w' := by
  obtain ⟨w1, hW1⟩ : ∃ wX, w.alloc (.cells (tabv s.v 115) 32) = wX := ⟨_, rfl⟩
  have rs : Has w1 w.heap.size 32 s.v 115 := by rw [← hW1]; exact Has.new w 32 s.v 115 _ rfl
  have bb : Below w.heap.size w w1 := by rw [← hW1]; exact (Below.refl w.heap.size w).alloc (Nat.le_refl _) _
  have gb : Below w.heap.size w w1 := bb
  clear bb
  obtain ⟨w2, hW2⟩ : ∃ wX, w1.alloc (.cells (tabv u.v 36) 34) = wX := ⟨_, rfl⟩
  have ru : Has w2 w1.heap.size 34 u.v 36 := by rw [← hW2]; exact Has.new w1 34 u.v 36 _ rfl
  have bb : Below w1.heap.size w1 w2 := by rw [← hW2]; exact (Below.refl w1.heap.size w1).alloc (Nat.le_refl _) _
  have rs := rs.below bb rs.lt
  have gb : Below w.heap.size w w2 := gb.trans (bb.mono gb.size)
  clear bb
  have Rb_s := hide rs
  have Rb_u := hide ru
  have GB := hide gb
  clear gb rs ru
  have HD := hide (fun w : World => dead_any s w)
  have HF := hide (fun w : World => fixed_any s w)
  have hk : withinN (fxO s) s.ours.n ≤ s.ours.n := by unfold withinN; omega
  have HW := hide (fun w : World => dwithin_any (fxO s) s.ours.ad s.ours.n s.ours.c w)
  have SK := hide (fun w => sliceK w s.ours.ad s.ours.n s.ours.c (withinN (fxO s) s.ours.n) (by omega))
  have HN := hide (fun wx (hb : Below w.heap.size w wx) => next_any num s.peers.ad s.ours.ad s.peers.n (withinN (fxO s) s.ours.n) s.peers.c s.ours.c others (mine.take (withinN (fxO s) s.ours.n)) hn2 (by rw [List.length_take]; omega) (by omega) (by omega) u wx (hG.up hb) (hS2.below hb) ((hS1.below hb).take _))
  have HO := hide (fun wx (hb : Below w.heap.size w wx) => open_any s.peers.ad s.ours.ad s.peers.n s.peers.c s.ours.n s.ours.c others mine hn2 hn1 z2 z1 k2 k1 (fxO s) wx (hS2.below hb) (hS1.below hb))
  have HP := hide (fun wx (hb : Below w.heap.size w wx) => peerSpendable_any s mine others hn1 hn2 z1 z2 k1 k2 wx (hS1.below hb) (hS2.below hb))
  have z2i : (s.peers.n : Int) ≤ 1955000000000 := by omega
  unfold heardA
  generalize deadB s = D at HD ⊢
  generalize nextA others (mine.take (withinN (fxO s) s.ours.n)) u = R at HN ⊢
  generalize openN others mine (fxO s) = O at HO ⊢
  generalize spendA s.bp others mine (fxP s) (fxO s) = P at HP ⊢
  generalize withinN (fxO s) s.ours.n = kP at HW SK HN hk
  generalize fxO s = fO at HF HW HO
  generalize fxP s = fP at HF
  clear hn1 hn2 z1 z2 k1 k2 hG hS1 hS2 hk
  have hs5 : ∀ wx, Has wx (w.heap.size) 32 s.v 115 → wx.cell? ⟨w.heap.size, 5, none⟩ = some (.slice s.peers.ad s.peers.n s.peers.c) := fun wx h => h.cell 5 (by omega)
  have ZZ : Hid (∃ Z, IntKind.i64.wrap ((s.peers.n : Int) - s.ap) = Z) := ⟨_, rfl⟩
  replace hs5 := hide hs5
  clear ZZ
  have hs10 : ∀ wx, Has wx (w.heap.size) 32 s.v 115 → wx.cell? ⟨w.heap.size, 10, none⟩ = some (.int .i64 s.ap) := fun wx h => h.cell 10 (by omega)
  generalize s.ap = ap at hs10 ⊢
  replace hs10 := hide hs10
  have hu0 : ∀ wx, Has wx (w1.heap.size) 34 u.v 36 → wx.cell? ⟨w1.heap.size, 0, none⟩ = some (.int .i64 u.kind) := fun wx h => h.cell 0 (by omega)
  have hu2 : ∀ wx, Has wx (w1.heap.size) 34 u.v 36 → wx.cell? ⟨w1.heap.size, 2, none⟩ = some (.int .i64 u.amt) := fun wx h => h.cell 2 (by omega)
  generalize u.kind = kd at hu0 ⊢
  generalize u.amt = am at hu2 ⊢
  replace hu0 := hide hu0
  replace hu2 := hide hu2
  obtain ⟨Z, hZ⟩ : ∃ Z, IntKind.i64.wrap ((s.peers.n : Int) - ap) = Z := ⟨_, rfl⟩
  rw [hZ]
  go_enter Tryz.func19, Tryz.ntmps19
  go_wp2_with (first | refine wpW_load_at 32 _ rfl (w.heap.size) (0) (by rfl) (by rfl) _ 115 _ (Rb_s.out.at_ 0 (by omega) (fun i hi => by rw [Nat.zero_add])) Tryz.underlying32 rfl infoSt ?_ | fail)
  refine (HF.out _).mono ?_
  rintro e y1 ⟨rfl, hb⟩
  have Ry1_s := hide (Rb_s.out.below hb Rb_s.out.lt)
  have Ry1_u := hide (Rb_u.out.below hb Rb_u.out.lt)
  have Gy1 := hide (GB.out.trans (hb.mono GB.out.size))
  clear hb
  obtain ⟨wf, hwf⟩ : ∃ wX, y1.alloc (.cells #[.int .i64 fO, .int .i64 fP] 29) = wX := ⟨_, rfl⟩
  have rf : Has wf y1.heap.size 29 (cnV fO fP) 2 := by rw [← hwf]; exact Has.new y1 _ (cnV _ _) 2 _ rfl
  have hb : Below y1.heap.size y1 wf := by rw [← hwf]; exact (Below.refl y1.heap.size y1).alloc (Nat.le_refl _) _
  have Rwf_s := hide (Ry1_s.out.below hb Ry1_s.out.lt)
  have Rwf_u := hide (Ry1_u.out.below hb Ry1_u.out.lt)
  have Gwf := hide (Gy1.out.trans (hb.mono Gy1.out.size))
  clear hb
  have Rwf_f := hide rf
  clear rf
  go_wp2_with (first | (rw [hwf]) | refine wpW_load_at 32 _ rfl (w.heap.size) (0) (by rfl) (by rfl) _ 115 _ (Rwf_s.out.at_ 0 (by omega) (fun i hi => by rw [Nat.zero_add])) Tryz.underlying32 rfl infoSt ?_ | fail)
  refine (HD.out _).mono ?_
  rintro e y2 ⟨rfl, hb⟩
  have Ry2_s := hide (Rwf_s.out.below hb Rwf_s.out.lt)
  have Ry2_u := hide (Rwf_u.out.below hb Rwf_u.out.lt)
  have Ry2_f := hide (Rwf_f.out.below hb Rwf_f.out.lt)
  have Gy2 := hide (Gwf.out.trans (hb.mono Gwf.out.size))
  clear hb
  cases D with
  | true =>
    go_wp2_with fail
    go_ret
    exact ⟨by first | rfl | (simp only [*]; rfl) | (simp [*]; done), Gy2.out⟩
  | false =>
    have zs5 : y2.cell? ⟨w.heap.size, 5, none⟩ = some (.slice s.peers.ad s.peers.n s.peers.c) := hs5.out _ Ry2_s.out
    have z2_s10 : y2.cell? ⟨w.heap.size, 10, none⟩ = some (.int .i64 ap) := hs10.out _ Ry2_s.out
    cases q4 : decide (Z ≥ 512) with
    | true =>
      go_wp2_with fail
      go_ret
      exact ⟨by first | rfl | (simp only [*]; rfl) | (simp [*]; done), Gy2.out⟩
    | false =>
      go_upto_region 6 with fail
      clear zs5 z2_s10
      clear hZ z2i
      refine wp_region_noPanic ?_
      refine wp_region_held_drew (S := fun wx => Below y2.heap.size y2 wx) (by kernel_rfl) ((Below.refl _ _).drew) (fun hHeld => ?_)
      generalize hwd : World.drew y2 = wd at hHeld ⊢
      refine Cu.takeH 0 (some 21) (.pointer (some ⟨w.heap.size, 5, none⟩)) rfl rfl (by kernel_rfl) (by kernel_rfl) (by kernel_rfl) (fun _ _ _ h => h) (by rfl) (fun w_ hw => by first | rfl | (go_simp; done) | (go_simp; rfl) | (go_simp; omega)) hHeld ?_
      simp only [Act.put, List.setIfInBounds_toArray, List.set_cons_zero, List.set_cons_succ]
      refine Cu.takeH 1 (some 22) (.slice s.peers.ad s.peers.n s.peers.c) rfl rfl (by kernel_rfl) (by kernel_rfl) (by kernel_rfl) (fun _ _ _ h => h) (by rfl) (fun w_ hw => by have c : World.cell? _ ⟨w.heap.size, 5, none⟩ = some (.slice s.peers.ad s.peers.n s.peers.c) := (Ry2_s.out.below hw Ry2_s.out.lt).cell 5 (by omega); first | rfl | (go_simp; done) | (go_simp; rfl) | (go_simp; omega)) hHeld ?_
      simp only [Act.put, List.setIfInBounds_toArray, List.set_cons_zero, List.set_cons_succ]
      refine Cu.takeH 2 (some 23) (.pointer (some ⟨w.heap.size, 4, none⟩)) rfl rfl (by kernel_rfl) (by kernel_rfl) (by kernel_rfl) (fun _ _ _ h => h) (by rfl) (fun w_ hw => by first | rfl | (go_simp; done) | (go_simp; rfl) | (go_simp; omega)) hHeld ?_
      simp only [Act.put, List.setIfInBounds_toArray, List.set_cons_zero, List.set_cons_succ]
      refine Cu.takeH 3 (some 24) (.slice s.ours.ad s.ours.n s.ours.c) rfl rfl (by kernel_rfl) (by kernel_rfl) (by kernel_rfl) (fun _ _ _ h => h) (by rfl) (fun w_ hw => by have c : World.cell? _ ⟨w.heap.size, 4, none⟩ = some (.slice s.ours.ad s.ours.n s.ours.c) := (Ry2_s.out.below hw Ry2_s.out.lt).cell 4 (by omega); first | rfl | (go_simp; done) | (go_simp; rfl) | (go_simp; omega)) hHeld ?_
      simp only [Act.put, List.setIfInBounds_toArray, List.set_cons_zero, List.set_cons_succ]
      refine Cu.takeH 4 (some 25) (.pointer (some ⟨y1.heap.size, 0, none⟩)) rfl rfl (by kernel_rfl) (by kernel_rfl) (by kernel_rfl) (fun _ _ _ h => h) (by rfl) (fun w_ hw => by first | rfl | (go_simp; done) | (go_simp; rfl) | (go_simp; omega)) hHeld ?_
      simp only [Act.put, List.setIfInBounds_toArray, List.set_cons_zero, List.set_cons_succ]
      refine Cu.takeH 5 (some 26) (.int .i64 fO) rfl rfl (by kernel_rfl) (by kernel_rfl) (by kernel_rfl) (fun _ _ _ h => h) (by rfl) (fun w_ hw => by have c : World.cell? _ ⟨y1.heap.size, 0, none⟩ = some (.int .i64 fO) := (Ry2_f.out.below hw Ry2_f.out.lt).cell 0 (by omega); first | rfl | (go_simp; done) | (go_simp; rfl) | (go_simp; omega)) hHeld ?_
      simp only [Act.put, List.setIfInBounds_toArray, List.set_cons_zero, List.set_cons_succ]
      refine Cu.takeH 6 (some 27) (.pointer (some ⟨w.heap.size, 4, none⟩)) rfl rfl (by kernel_rfl) (by kernel_rfl) (by kernel_rfl) (fun _ _ _ h => h) (by rfl) (fun w_ hw => by first | rfl | (go_simp; done) | (go_simp; rfl) | (go_simp; omega)) hHeld ?_
      simp only [Act.put, List.setIfInBounds_toArray, List.set_cons_zero, List.set_cons_succ]
      refine Cu.takeH 7 (some 28) (.slice s.ours.ad s.ours.n s.ours.c) rfl rfl (by kernel_rfl) (by kernel_rfl) (by kernel_rfl) (fun _ _ _ h => h) (by rfl) (fun w_ hw => by have c : World.cell? _ ⟨w.heap.size, 4, none⟩ = some (.slice s.ours.ad s.ours.n s.ours.c) := (Ry2_s.out.below hw Ry2_s.out.lt).cell 4 (by omega); first | rfl | (go_simp; done) | (go_simp; rfl) | (go_simp; omega)) hHeld ?_
      simp only [Act.put, List.setIfInBounds_toArray, List.set_cons_zero, List.set_cons_succ]
      refine Cu.takeH 10 (some 31) (.agg (tabv u.v 36)) rfl rfl (by kernel_rfl) (by kernel_rfl) (by kernel_rfl) (fun _ _ _ h => h) (by rfl) (fun w_ hw => run_load_at w_ 34 _ rfl (w1.heap.size) 0 (by rfl) _ 36 _ ((Ry2_u.out.below hw Ry2_u.out.lt).at_ 0 (by omega) (fun i hi => by rw [Nat.zero_add])) Tryz.underlying34 rfl infoU) hHeld ?_
      simp only [Act.put, List.setIfInBounds_toArray, List.set_cons_zero, List.set_cons_succ]
      refine wpAnyH_ready (rs := [8]) (by kernel_rfl) (by simp) (AllReadyH.cons rfl (fun K hK => ?_) AllReadyH.nil)
      rw [if_pos (by rfl)]
      go_simp
      refine (HW.out _).mono ?_
      rintro e wx ⟨rfl, hx⟩
      try go_wp2_with fail
      refine hK.out _ _ (hx ▸ hHeld) (fun hH => ?_)
      clear hK K hHeld
      have hHeld := hH
      clear hH
      refine Cu.takeH 9 (some 30) (.slice s.ours.ad kP s.ours.c) rfl rfl (by kernel_rfl) (by kernel_rfl) (by kernel_rfl) (fun _ _ _ h => h) (by rfl) (fun w_ hw => by have c := SK.out w_; first | rfl | (go_simp; done) | (go_simp; rfl) | (go_simp; omega)) hHeld ?_
      simp only [Act.put, List.setIfInBounds_toArray, List.set_cons_zero, List.set_cons_succ]
      refine wpAnyH_ready (rs := [11]) (by kernel_rfl) (by simp) (AllReadyH.cons rfl (fun K hK => ?_) AllReadyH.nil)
      rw [if_pos (by rfl)]
      go_simp
      refine (HN.out _ (Gy2.out.trans (hHeld.mono Gy2.out.size))).mono ?_
      rintro e yn ⟨rfl, hbq⟩
      try go_wp2_with fail
      refine hK.out _ _ (hHeld.trans (hbq.mono hHeld.size)) (fun hH => ?_)
      clear hK K hHeld
      have hHeld := hH
      clear hH
      refine Cu.takeH 12 (some 33) (.bool (R != 0)) rfl rfl (by kernel_rfl) (by kernel_rfl) (by kernel_rfl) (fun _ _ _ h => h) (by rfl) (fun w_ hw => by first | rfl | (go_simp; done) | (go_simp; rfl) | (go_simp; omega)) hHeld ?_
      simp only [Act.put, List.setIfInBounds_toArray, List.set_cons_zero, List.set_cons_succ]
      refine Cu.takeH 13 (some 20) (.bool (R != 0)) rfl rfl (by kernel_rfl) (by kernel_rfl) (by kernel_rfl) (fun _ _ _ h => h) (by rfl) (fun w_ hw => by first | rfl | (go_simp; done) | (go_simp; rfl) | (go_simp; omega)) hHeld ?_
      simp only [Act.put, List.setIfInBounds_toArray, List.set_cons_zero, List.set_cons_succ]
      refine ⟨by kernel_rfl, ?_⟩
      refine NoPanic.normal ?_
      have hb := hHeld
      clear hHeld hwd
      have Ryn_s := hide (Ry2_s.out.below hb Ry2_s.out.lt)
      have Ryn_u := hide (Ry2_u.out.below hb Ry2_u.out.lt)
      have Ryn_f := hide (Ry2_f.out.below hb Ry2_f.out.lt)
      have Gyn := hide (Gy2.out.trans (hb.mono Gy2.out.size))
      clear hb
      cases q6 : (R != 0) with
      | true =>
        go_wp2_with fail
        go_ret
        exact ⟨by first | rfl | (simp only [*]; rfl) | (simp [*]; done), Gyn.out⟩
      | false =>
        have z2_u0 : yn.cell? ⟨w1.heap.size, 0, none⟩ = some (.int .i64 kd) := hu0.out _ Ryn_u.out
        cases q8 : (kd != 1) with
        | true =>
          go_wp2_with fail
          go_ret
          exact ⟨by first | rfl | (simp only [*]; rfl) | (simp [*]; done), Gyn.out⟩
        | false =>
          go_upto_region 10 with fail
          clear z2_u0
          have z2_s5 : yn.cell? ⟨w.heap.size, 5, none⟩ = some (.slice s.peers.ad s.peers.n s.peers.c) := Ryn_s.out.cell 5 (by omega)
          have z2_s4 : yn.cell? ⟨w.heap.size, 4, none⟩ = some (.slice s.ours.ad s.ours.n s.ours.c) := Ryn_s.out.cell 4 (by omega)
          have z2_f0 : yn.cell? ⟨y1.heap.size, 0, none⟩ = some (.int .i64 fO) := Ryn_f.out.cell 0 (by omega)
          go_wp2_with (fail)
          refine (HO.out _ Gyn.out).mono ?_
          rintro e y3 ⟨rfl, hb⟩
          clear z2_s5 z2_s4 z2_f0
          have Ry3_s := hide (Ryn_s.out.below hb Ryn_s.out.lt)
          have Ry3_u := hide (Ryn_u.out.below hb Ryn_u.out.lt)
          have Ry3_f := hide (Ryn_f.out.below hb Ryn_f.out.lt)
          have Gy3 := hide (Gyn.out.trans (hb.mono Gyn.out.size))
          clear hb
          cases q10 : decide ((O : Int) ≥ 483) with
          | true =>
            go_wp2_with fail
            go_ret
            exact ⟨by first | rfl | (simp only [*]; rfl) | (simp [*]; done), Gy3.out⟩
          | false =>
            go_upto_region 12 with fail
            refine wp_region_noPanic ?_
            refine wp_region_held_drew (S := fun wx => Below y3.heap.size y3 wx) (by kernel_rfl) ((Below.refl _ _).drew) (fun hHeld => ?_)
            generalize hwd : World.drew y3 = wd at hHeld ⊢
            refine Cu.takeH 0 (some 48) (.pointer (some ⟨w1.heap.size, 2, none⟩)) rfl rfl (by kernel_rfl) (by kernel_rfl) (by kernel_rfl) (fun _ _ _ h => h) (by rfl) (fun w_ hw => by first | rfl | (go_simp; done) | (go_simp; rfl) | (go_simp; omega)) hHeld ?_
            simp only [Act.put, List.setIfInBounds_toArray, List.set_cons_zero, List.set_cons_succ]
            refine Cu.takeH 1 (some 49) (.int .i64 am) rfl rfl (by kernel_rfl) (by kernel_rfl) (by kernel_rfl) (fun _ _ _ h => h) (by rfl) (fun w_ hw => by have c : World.cell? _ ⟨w1.heap.size, 2, none⟩ = some (.int .i64 am) := hu2.out _ (Ry3_u.out.below hw Ry3_u.out.lt); first | rfl | (go_simp; done) | (go_simp; rfl)) hHeld ?_
            simp only [Act.put, List.setIfInBounds_toArray, List.set_cons_zero, List.set_cons_succ]
            refine Cu.takeH 2 (some 50) (.agg (tabv s.v 115)) rfl rfl (by kernel_rfl) (by kernel_rfl) (by kernel_rfl) (fun _ _ _ h => h) (by rfl) (fun w_ hw => run_load_at w_ 32 _ rfl (w.heap.size) 0 (by rfl) _ 115 _ ((Ry3_s.out.below hw Ry3_s.out.lt).at_ 0 (by omega) (fun i hi => by rw [Nat.zero_add])) Tryz.underlying32 rfl infoSt) hHeld ?_
            simp only [Act.put, List.setIfInBounds_toArray, List.set_cons_zero, List.set_cons_succ]
            refine wpAnyH_ready (rs := [3]) (by kernel_rfl) (by simp) (AllReadyH.cons rfl (fun K hK => ?_) AllReadyH.nil)
            rw [if_pos (by rfl)]
            go_simp
            refine (HP.out _ (Gy3.out.trans (hHeld.mono Gy3.out.size))).mono ?_
            rintro e yq ⟨rfl, hbq⟩
            try go_wp2_with fail
            refine hK.out _ _ (hHeld.trans (hbq.mono hHeld.size)) (fun hH => ?_)
            clear hK K hHeld
            have hHeld := hH
            clear hH
            refine Cu.takeH 4 (some 52) (.bool (decide (am > P))) rfl rfl (by kernel_rfl) (by kernel_rfl) (by kernel_rfl) (fun _ _ _ h => h) (by rfl) (fun w_ hw => by first | rfl | (go_simp; done) | (go_simp; rfl) | (go_simp; omega)) hHeld ?_
            simp only [Act.put, List.setIfInBounds_toArray, List.set_cons_zero, List.set_cons_succ]
            refine Cu.takeH 5 (some 47) (.bool (decide (am > P))) rfl rfl (by kernel_rfl) (by kernel_rfl) (by kernel_rfl) (fun _ _ _ h => h) (by rfl) (fun w_ hw => by first | rfl | (go_simp; done) | (go_simp; rfl) | (go_simp; omega)) hHeld ?_
            simp only [Act.put, List.setIfInBounds_toArray, List.set_cons_zero, List.set_cons_succ]
            refine ⟨by kernel_rfl, ?_⟩
            refine NoPanic.normal ?_
            have hb := hHeld
            clear hHeld hwd
            have Ryq_s := hide (Ry3_s.out.below hb Ry3_s.out.lt)
            have Ryq_u := hide (Ry3_u.out.below hb Ry3_u.out.lt)
            have Ryq_f := hide (Ry3_f.out.below hb Ry3_f.out.lt)
            have Gyq := hide (Gy3.out.trans (hb.mono Gy3.out.size))
            clear hb
            cases q12 : decide (am > P) with
            | true =>
              go_wp2_with fail
              go_ret
              exact ⟨by first | rfl | (simp only [*]; rfl) | (simp [*]; done), Gyq.out⟩
            | false =>
              go_wp2_with fail
              go_ret
              exact ⟨by first | rfl | (simp only [*]; rfl) | (simp [*]; done), Gyq.out⟩
end Go.Proofs.YtmmcoedgoekhgaaGreatDoor
/-
  Reveal of the code (printed by gen_d13.py).
-/
namespace Go.Proofs.YtmmcoedgoekhgaaGreatDoor
open Go.RowKit S
set_option linter.unusedVariables false
set_option linter.unusedSimpArgs false
def revealA (c : Cf) (x : Int) : Msg := bif (decide (x < 0) || decide (x > 281474976710653)) then Msg.zero else revokeM x (secretA c.seed x).1 (sha (listOf (secretA c.seed (x + 2)).1))
structure SR (w : World) (bc br : Nat) (c : Cf) (wx : World) : Prop where
  c : Has wx bc 26 c.v 164
  r : ∃ f, Has wx br 36 f 70
  b : Below w.heap.size w wx
theorem SR.step {w : World} {bc br : Nat} {c : Cf} {wx wy : World} (h : SR w bc br c wx) (hb : Below wx.heap.size wx wy) : SR w bc br c wy :=
  ⟨h.c.below hb h.c.lt, h.r.imp fun _ k => k.below hb k.lt, h.b.trans (hb.mono h.b.size)⟩
theorem SR.store {w : World} {bc br : Nat} {c : Cf} {wx : World} (h : SR w bc br c wx) (M : Msg) (h1 : bc ≠ br) (h3 : w.heap.size ≤ br) : SR w bc br c (wx.setRow br (tabv M.v 70)) ∧ Has (wx.setRow br (tabv M.v 70)) br 36 M.v 70 := by
  obtain ⟨f, hf⟩ := h.r
  exact ⟨⟨h.c.row_other _ _ h1, ⟨_, hf.row _ M.v rfl⟩, below_setRow h.b h3 _⟩, hf.row _ M.v rfl⟩
set_option maxRecDepth 100000 in
set_option maxHeartbeats 40000000 in
theorem reveal_any (num : Num) (c : Cf) (x : Int) (w : World) (hG : Glob num w) : Calls Tryz.prog 21 #[.agg (tabv c.v 164), .int .i64 x] w fun e w' => e = .returned (.agg (tabv (revealA c x).v 70)) ∧ Below w.heap.size w w' := by
  obtain ⟨w1, hW1⟩ : ∃ wX, w.alloc (.cells (tabv c.v 164) 26) = wX := ⟨_, rfl⟩
  have rc : Has w1 w.heap.size 26 c.v 164 := by rw [← hW1]; exact Has.new w 26 c.v 164 _ rfl
  have bb : Below w.heap.size w w1 := by rw [← hW1]; exact (Below.refl w.heap.size w).alloc (Nat.le_refl _) _
  have gb : Below w.heap.size w w1 := bb
  clear bb
  obtain ⟨w2, hW2⟩ : ∃ wX, w1.alloc (.cells (tabv Msg.zero.v 70) 36) = wX := ⟨_, rfl⟩
  have rr : Has w2 w1.heap.size 36 Msg.zero.v 70 := by rw [← hW2]; exact Has.new w1 36 Msg.zero.v 70 _ rfl
  have bb : Below w1.heap.size w1 w2 := by rw [← hW2]; exact (Below.refl w1.heap.size w1).alloc (Nat.le_refl _) _
  have rc := rc.below bb rc.lt
  have gb : Below w.heap.size w w2 := gb.trans (bb.mono gb.size)
  clear bb
  have Rb_c := hide rc
  have Rb_r := hide rr
  have GB := hide gb
  clear gb rc rr
  have LB : w.heap.size < w1.heap.size := by rw [← hW1, size_alloc]; omega
  rw [← zero70] at hW2
  have HS := hide (fun wx (hb : Below w.heap.size w wx) => dsecret_any num c x wx (hG.up hb))
  have HT := hide (fun wx (hb : Below w.heap.size w wx) => dsecret_any num c (x + 2) wx (hG.up hb))
  have HPo := hide (fun wx (hb : Below w.heap.size w wx) => spoint_any num (secretA c.seed (x + 2)).1 wx (hG.up hb))
  unfold revealA
  generalize sha (listOf (secretA c.seed (x + 2)).1) = PT at HPo ⊢
  generalize (secretA c.seed (x + 2)).1 = S2 at HT HPo
  generalize (secretA c.seed x).1 = S1 at HS ⊢
  clear hG
  cases q1 : decide (x < 0) with
  | true =>
    go_enter Tryz.func21, Tryz.ntmps21
    go_upto_region 2 with fail
    go_wp2_with (first | refine wpW_build (by rfl) 36 #[] rfl [] (by first | rfl | (simp [Act.eval, Act.put]; done)) _ builtMZ ?_ | refine wpList_storeM rfl _ _ rfl rfl w1.heap.size Msg.zero rfl rfl _ Rb_r.out ?_ | fail)
    (try simp only [Exit.inBlock, Exit.then])
    exact bodyPost_ret (results_cell_row rfl _ _ w1.heap.size 36 _ (0, 0) _ rfl (Rb_r.out.row _ Msg.zero.v rfl) Tryz.underlying36 rfl (by rw [tabv_size]; exact infoM)) rfl ⟨by first | rfl | (simp only [*]; rfl) | (simp [*]; done), below_setRow GB.out (Nat.le_of_lt LB) _⟩
  | false =>
    cases q2 : decide (x > 281474976710653) with
    | true =>
      go_enter Tryz.func21, Tryz.ntmps21
      go_upto_region 2 with fail
      go_wp2_with (first | refine wpW_build (by rfl) 36 #[] rfl [] (by first | rfl | (simp [Act.eval, Act.put]; done)) _ builtMZ ?_ | refine wpList_storeM rfl _ _ rfl rfl w1.heap.size Msg.zero rfl rfl _ Rb_r.out ?_ | fail)
      (try simp only [Exit.inBlock, Exit.then])
      exact bodyPost_ret (results_cell_row rfl _ _ w1.heap.size 36 _ (0, 0) _ rfl (Rb_r.out.row _ Msg.zero.v rfl) Tryz.underlying36 rfl (by rw [tabv_size]; exact infoM)) rfl ⟨by first | rfl | (simp only [*]; rfl) | (simp [*]; done), below_setRow GB.out (Nat.le_of_lt LB) _⟩
    | false =>
      have hx0 : 0 ≤ x := by have := of_decide_eq_false q1; omega
      have hx1 : x ≤ 281474976710653 := by have := of_decide_eq_false q2; omega
      go_enter Tryz.func21, Tryz.ntmps21
      go_upto_region 3 with fail
      refine wp_region_noPanic ?_
      refine wp_region_held_drew (S := SR w w.heap.size w1.heap.size c) (by kernel_rfl) (⟨Rb_c.out, ⟨_, Rb_r.out⟩, belowD GB.out 1⟩) (fun hHeld => ?_)
      generalize hwd : World.drew w2 = wd at hHeld ⊢
      refine Cu.takeH 0 (some 12) (.int .i64 x) rfl rfl (by kernel_rfl) (by kernel_rfl) (by kernel_rfl) (fun _ _ _ h => h) (by rfl) (fun w_ hw => by first | rfl | (go_simp; done) | (go_simp; rfl) | (go_simp; omega)) hHeld ?_
      simp only [Act.put, List.setIfInBounds_toArray, List.set_cons_zero, List.set_cons_succ]
      refine Cu.takeH 1 (some 13) (.agg (tabv c.v 164)) rfl rfl (by kernel_rfl) (by kernel_rfl) (by kernel_rfl) (fun _ _ _ h => h) (by rfl) (fun w_ hw => run_load_at w_ 26 _ rfl (w.heap.size) 0 (by rfl) _ 164 _ (hw.c.at_ 0 (by omega) (fun i hi => by rw [Nat.zero_add])) Tryz.underlying26 rfl infoCf) hHeld ?_
      simp only [Act.put, List.setIfInBounds_toArray, List.set_cons_zero, List.set_cons_succ]
      refine Cu.takeH 2 (some 14) (.int .i64 x) rfl rfl (by kernel_rfl) (by kernel_rfl) (by kernel_rfl) (fun _ _ _ h => h) (by rfl) (fun w_ hw => by first | rfl | (go_simp; done) | (go_simp; rfl) | (go_simp; omega)) hHeld ?_
      simp only [Act.put, List.setIfInBounds_toArray, List.set_cons_zero, List.set_cons_succ]
      refine Cu.takeH 4 (some 16) (.agg (tabv c.v 164)) rfl rfl (by kernel_rfl) (by kernel_rfl) (by kernel_rfl) (fun _ _ _ h => h) (by rfl) (fun w_ hw => run_load_at w_ 26 _ rfl (w.heap.size) 0 (by rfl) _ 164 _ (hw.c.at_ 0 (by omega) (fun i hi => by rw [Nat.zero_add])) Tryz.underlying26 rfl infoCf) hHeld ?_
      simp only [Act.put, List.setIfInBounds_toArray, List.set_cons_zero, List.set_cons_succ]
      refine Cu.takeH 5 (some 17) (.int .i64 x) rfl rfl (by kernel_rfl) (by kernel_rfl) (by kernel_rfl) (fun _ _ _ h => h) (by rfl) (fun w_ hw => by first | rfl | (go_simp; done) | (go_simp; rfl) | (go_simp; omega)) hHeld ?_
      simp only [Act.put, List.setIfInBounds_toArray, List.set_cons_zero, List.set_cons_succ]
      refine Cu.takeH 6 (some 18) (.int .i64 (x + 2)) rfl rfl (by kernel_rfl) (by kernel_rfl) (by kernel_rfl) (fun _ _ _ h => h) (by rfl) (fun w_ hw => by have c : IntKind.i64.wrap (x + 2) = x + 2 := (by rw [IntKind.wrap_i64]; omega); first | (go_simp; done) | (go_simp; rfl) | (go_simp; rw [c])) hHeld ?_
      simp only [Act.put, List.setIfInBounds_toArray, List.set_cons_zero, List.set_cons_succ]
      refine wpAnyH_ready (rs := [3]) (by kernel_rfl) (by simp) (AllReadyH.cons rfl (fun K hK => ?_) AllReadyH.nil)
      rw [if_pos (by rfl)]
      go_simp
      refine (HS.out _ hHeld.b).mono ?_
      rintro e ya ⟨rfl, hbq⟩
      try go_wp2_with fail
      refine hK.out _ _ (hHeld.step hbq) (fun hH => ?_)
      clear hK K hHeld
      have hHeld := hH
      clear hH
      refine wpAnyH_ready (rs := [7]) (by kernel_rfl) (by simp) (AllReadyH.cons rfl (fun K hK => ?_) AllReadyH.nil)
      rw [if_pos (by rfl)]
      go_simp
      refine (HT.out _ hHeld.b).mono ?_
      rintro e yb ⟨rfl, hbq⟩
      try go_wp2_with fail
      refine hK.out _ _ (hHeld.step hbq) (fun hH => ?_)
      clear hK K hHeld
      have hHeld := hH
      clear hH
      refine wpAnyH_ready (rs := [8]) (by kernel_rfl) (by simp) (AllReadyH.cons rfl (fun K hK => ?_) AllReadyH.nil)
      rw [if_pos (by rfl)]
      go_simp
      refine (HPo.out _ hHeld.b).mono ?_
      rintro e yc ⟨rfl, hbq⟩
      try go_wp2_with fail
      refine hK.out _ _ (hHeld.step hbq) (fun hH => ?_)
      clear hK K hHeld
      have hHeld := hH
      clear hH
      refine Cu.takeH 9 (some 21) (.agg (tabv (revokeM x S1 PT).v 70)) rfl rfl (by kernel_rfl) (by kernel_rfl) (by kernel_rfl) (fun _ _ _ h => h) (by rfl) (fun w_ hw => run_buildG w_ 36 _ rfl [(0, .int .i64 5), (3, .int .i64 x), (6, .agg (tabv (bv S1) 32)), (5, .agg (tabv (bv PT) 32))] (by first | rfl | (simp [Act.eval, Act.put]; done)) _ (builtRM _ _ _)) hHeld ?_
      simp only [Act.put, List.setIfInBounds_toArray, List.set_cons_zero, List.set_cons_succ]
      refine wpAnyH_ready (rs := [10]) (by kernel_rfl) (by simp) (AllReadyH.cons rfl (fun K hK => ?_) AllReadyH.nil)
      rw [if_pos (by rfl)]
      obtain ⟨f9, hf9⟩ := hHeld.r
      refine wp_store_part 36 _ _ rfl rfl w1.heap.size 0 (revokeM x S1 PT).v 70 rfl rfl 36 _ 70 hf9 (by omega) infoM (fun i _ => oneM _ i) (revokeM x S1 PT).v (fun i hi => by unfold splice; rw [if_pos (by omega), Nat.sub_zero]) ?_
      obtain ⟨hS9, hM9⟩ := hHeld.store (revokeM x S1 PT) (Nat.ne_of_lt LB) (Nat.le_of_lt LB)
      refine hK.out _ _ hS9 (fun hH => ?_)
      clear hK hHeld hH hf9
      generalize hwz : World.setRow _ w1.heap.size (tabv (revokeM x S1 PT).v 70) = wz at hS9 hM9 ⊢
      have RF := hide hM9
      have BF := hide hS9.b
      clear hwz hM9 hS9 hwd
      refine ⟨by kernel_rfl, ?_⟩
      refine NoPanic.normal ?_
      go_wp2
      (try simp only [Exit.inBlock, Exit.then])
      exact bodyPost_ret (results_cell_row rfl _ _ w1.heap.size 36 _ (0, 0) _ rfl RF.out Tryz.underlying36 rfl (by rw [tabv_size]; exact infoM)) rfl ⟨by first | rfl | (simp only [*]; rfl) | (simp [*]; done), BF.out⟩
end Go.Proofs.YtmmcoedgoekhgaaGreatDoor
/-
  Settle, Refuse of the code (printed by gen_d6.py).
-/
namespace Go.Proofs.YtmmcoedgoekhgaaGreatDoor
open Go.RowKit S
set_option linter.unusedVariables false
set_option linter.unusedSimpArgs false
def settleU (id : Int) (h : Nat → UInt8) : Upd := ⟨2, id, 0, h, ⟨#[]⟩⟩
def refuseU (id : Int) (note : ByteArray) : Upd := ⟨3, id, 0, fun _ => 0, note⟩
set_option maxRecDepth 100000 in
theorem builtSettle (id : Int) (h : Nat → UInt8) : Tryz.prog.built 34 [(0, .int .i64 2), (1, .int .i64 id), (3, .agg (tabv (bv h) 32))] = some (tabv (settleU id h).v 36) := by kernel_rfl
set_option maxRecDepth 100000 in
theorem builtRefuse (id : Int) (note : ByteArray) : Tryz.prog.built 34 [(0, .int .i64 3), (1, .int .i64 id), (4, .string note)] = some (tabv (refuseU id note).v 36) := by kernel_rfl
set_option maxRecDepth 100000 in
set_option maxHeartbeats 40000000 in
theorem dsettle_any (n : Num) (s : St) (id : Int) (h : Nat → UInt8) (mine others : List Upd) (hn1 : mine.length = s.ours.n) (hn2 : others.length = s.peers.n) (z1 : s.ours.n ≤ 140737488351232) (z2 : s.peers.n ≤ 140737488351232) (k2 : s.peers.n ≤ s.peers.c) (hx : -9223372036854775808 ≤ s.ho ∧ s.ho ≤ 9223372036854775807) (w : World) (hG : Glob n w) (hS1 : Upds w s.ours.ad mine) (hS2 : Upds w s.peers.ad others) : Calls Tryz.prog 15 #[.agg (tabv s.v 115), .int .i64 id, .agg (tabv (bv h) 32)] w fun e w' => e = .returned (.tuple #[.agg (tabv (removeA s mine others (settleU id h)).1.v 138), .int .i64 (removeA s mine others (settleU id h)).2]) ∧ Below w.heap.size w w' := by
  obtain ⟨w3, hW⟩ : ∃ w3, ((w.alloc (.cells (tabv s.v 115) 32)).alloc (.cells (tabv (bv h) 32) 23)).alloc (.cells (tabv Rc.zero.v 138) 42) = w3 := ⟨_, rfl⟩
  have r1 : Has w3 w.heap.size 32 s.v 115 := by rw [← hW]; exact ((Has.new w 32 s.v 115 _ rfl).old _).old _
  have r2 : Has w3 (w.heap.size + 1) 23 (bv h) 32 := by
    rw [← hW]
    have := (Has.new (w.alloc (.cells (tabv s.v 115) 32)) 23 (bv h) 32 _ rfl).old (.cells (tabv Rc.zero.v 138) 42)
    rw [size_alloc] at this
    exact this
  have r3 : Has w3 (w.heap.size + 2) 42 Rc.zero.v 138 := by
    rw [← hW]
    have := Has.new ((w.alloc (.cells (tabv s.v 115) 32)).alloc (.cells (tabv (bv h) 32) 23)) 42 Rc.zero.v 138 _ rfl
    rw [size_alloc, size_alloc] at this
    exact this
  have gb : Below w.heap.size w w3 := by rw [← hW]; exact (((Below.refl w.heap.size w).alloc (Nat.le_refl _) _).alloc (by simp) _).alloc (by simp only [size_alloc]; omega) _
  have R2 := hide r2
  clear r2
  rw [← zeroRc] at hW
  have HR := hide (remove_any n s (settleU id h) mine others hn1 hn2 z1 z2 k2 hx w3 (hG.up gb) (hS1.below gb) (hS2.below gb))
  generalize removeA s mine others (settleU id h) = A at HR ⊢
  obtain ⟨A1, A2⟩ := A
  have R1 := hide r1
  have R3 := hide r3
  have GB := hide gb
  clear r1 r3 gb hn1 hn2 z1 z2 k2 hG hS1 hS2 hx
  go_enter Tryz.func15, Tryz.ntmps15
  go_wp2_with (first | refine wpW_load_at 32 _ rfl (w.heap.size) (0) (by rfl) (by rfl) _ 115 _ (R1.out.at_ 0 (by omega) (fun i hi => by rw [Nat.zero_add])) Tryz.underlying32 rfl infoSt ?_ | refine wpW_load_at 23 _ rfl (w.heap.size + 1) (0) (by rfl) (by rfl) _ 32 _ (R2.out.at_ 0 (by omega) (fun i hi => by rw [Nat.zero_add])) Tryz.underlying23 rfl info26 ?_ | refine wpW_build (by rfl) 34 #[(0, .const (.int .i64 2)), (1, .tmp 9), (3, .tmp 10)] rfl [(0, .int .i64 2), (1, .int .i64 id), (3, .agg (tabv (bv h) 32))] (by first | rfl | (simp [Act.eval, Act.put]; done)) _ (builtSettle id h) ?_ | (go_at_call 45; go_must (refine HR.out.mono ?_); rintro e wa ⟨rfl, hba⟩; have R3a := hide (R3.out.below hba R3.out.lt); have GBa := hide (GB.out.trans (hba.mono GB.out.size))) | refine wpList_storeRc rfl _ _ rfl rfl (w.heap.size + 2) A1 rfl rfl _ R3a.out ?_)
  (try simp only [Exit.inBlock, Exit.then])
  exact bodyPost_ret (resRc _ (w.heap.size + 2) _ _ (.int .i64 A2) 6 7 (R3a.out.row _ (Rc.v A1) rfl) rfl rfl _ rfl) rfl ⟨rfl, below_setRow GBa.out (by omega) _⟩
set_option maxRecDepth 100000 in
set_option maxHeartbeats 40000000 in
theorem drefuse_any (n : Num) (s : St) (id : Int) (note : ByteArray) (mine others : List Upd) (hn1 : mine.length = s.ours.n) (hn2 : others.length = s.peers.n) (z1 : s.ours.n ≤ 140737488351232) (z2 : s.peers.n ≤ 140737488351232) (k2 : s.peers.n ≤ s.peers.c) (hx : -9223372036854775808 ≤ s.ho ∧ s.ho ≤ 9223372036854775807) (w : World) (hG : Glob n w) (hS1 : Upds w s.ours.ad mine) (hS2 : Upds w s.peers.ad others) : Calls Tryz.prog 16 #[.agg (tabv s.v 115), .int .i64 id, .string note] w fun e w' => e = .returned (.tuple #[.agg (tabv (removeA s mine others (refuseU id note)).1.v 138), .int .i64 (removeA s mine others (refuseU id note)).2]) ∧ Below w.heap.size w w' := by
  obtain ⟨w3, hW⟩ : ∃ w3, (w.alloc (.cells (tabv s.v 115) 32)).alloc (.cells (tabv Rc.zero.v 138) 42) = w3 := ⟨_, rfl⟩
  have r1 : Has w3 w.heap.size 32 s.v 115 := by rw [← hW]; exact (Has.new w 32 s.v 115 _ rfl).old _
  have r3 : Has w3 (w.heap.size + 1) 42 Rc.zero.v 138 := by
    rw [← hW]
    have := Has.new (w.alloc (.cells (tabv s.v 115) 32)) 42 Rc.zero.v 138 _ rfl
    rw [size_alloc] at this
    exact this
  have gb : Below w.heap.size w w3 := by rw [← hW]; exact ((Below.refl w.heap.size w).alloc (Nat.le_refl _) _).alloc (by simp) _
  rw [← zeroRc] at hW
  have HR := hide (remove_any n s (refuseU id note) mine others hn1 hn2 z1 z2 k2 hx w3 (hG.up gb) (hS1.below gb) (hS2.below gb))
  generalize removeA s mine others (refuseU id note) = A at HR ⊢
  obtain ⟨A1, A2⟩ := A
  have R1 := hide r1
  have R3 := hide r3
  have GB := hide gb
  clear r1 r3 gb hn1 hn2 z1 z2 k2 hG hS1 hS2 hx
  go_enter Tryz.func16, Tryz.ntmps16
  go_wp2_with (first | refine wpW_load_at 32 _ rfl (w.heap.size) (0) (by rfl) (by rfl) _ 115 _ (R1.out.at_ 0 (by omega) (fun i hi => by rw [Nat.zero_add])) Tryz.underlying32 rfl infoSt ?_ | refine wpW_build (by rfl) 34 #[(0, .const (.int .i64 3)), (1, .tmp 9), (4, .tmp 10)] rfl [(0, .int .i64 3), (1, .int .i64 id), (4, .string note)] (by first | rfl | (simp [Act.eval, Act.put]; done)) _ (builtRefuse id note) ?_ | (go_at_call 45; go_must (refine HR.out.mono ?_); rintro e wa ⟨rfl, hba⟩; have R3a := hide (R3.out.below hba R3.out.lt); have GBa := hide (GB.out.trans (hba.mono GB.out.size))) | refine wpList_storeRc rfl _ _ rfl rfl (w.heap.size + 1) A1 rfl rfl _ R3a.out ?_)
  (try simp only [Exit.inBlock, Exit.then])
  exact bodyPost_ret (resRc _ (w.heap.size + 1) _ _ (.int .i64 A2) 6 7 (R3a.out.row _ (Rc.v A1) rfl) rfl rfl _ rfl) rfl ⟨rfl, below_setRow GBa.out (by omega) _⟩
end Go.Proofs.YtmmcoedgoekhgaaGreatDoor
