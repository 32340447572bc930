import Derived.Test.YtmmcoedgoekhgaaGreatDoorDAgain
import Derived.Test.YtmmcoedgoekhgaaGreatDoorPLaw
import Derived.Test.YtmmcoedgoekhgaaGreatDoorDStart
import Derived.Deep.CutRange
import Derived.Test.YtmmcoedgoekhgaaGreatDoorDMsg
/-
  Revoked of the code (printed by gen_d14.py).
-/
namespace Go.Proofs.YtmmcoedgoekhgaaGreatDoor
open Go.RowKit S
set_option linter.unusedVariables false
set_option linter.unusedSimpArgs false
def revokedR (i : Int) (p q : Nat → UInt8) : Rc := ⟨4, Upd.zero, ⟨none, 0, 0⟩, i, 0, 0, fun _ => 0, p, q, 0⟩
def revokedA (s : St) (m : Msg) (ls : List Slot) : Rc × Int := bif deadB s then (Rc.zero, 220) else bif (m.kind != 5) then (Rc.zero, 160) else bif ((s.rem != wrap64 (s.ack + 1)) || (m.idx != s.ack)) then (Rc.zero, 90) else bif !(eqH (sha (listOf m.sec)) s.p0) then (Rc.zero, 100) else bif ((putA ls s.ack m.sec).2 != 0) then (Rc.zero, 100) else (revokedR s.ack m.sec m.hash, 0)
set_option maxRecDepth 100000 in
theorem builtRV (i : Int) (p q : Nat → UInt8) : Tryz.prog.built 42 [(0, .int .i64 4), (3, .int .i64 i), (6, .agg (tabv (bv p) 32)), (7, .agg (tabv (bv q) 32))] = some (tabv (revokedR i p q).v 138) := by kernel_rfl
set_option maxRecDepth 100000 in
set_option maxHeartbeats 40000000 in
theorem revoked_any (s : St) (m : Msg) (ls : List Slot) (hn : ls.length = s.shelf.n) (w : World) (hG : Glob num w) (hS : Slots w s.shelf.ad ls) : Calls Tryz.prog 22 #[.agg (tabv s.v 115), .agg (tabv m.v 70)] w fun e w' => e = .returned (.tuple #[.agg (tabv (revokedA s m ls).1.v 138), .int .i64 (revokedA s m ls).2]) ∧ Below w.heap.size w w' := by
  obtain ⟨w1, hW1⟩ : ∃ wX, w.alloc (.cells (tabv s.v 115) 32) = wX := ⟨_, rfl⟩
  have rs : Has w1 w.heap.size 32 s.v 115 := by rw [← hW1]; exact Has.new w 32 s.v 115 _ rfl
  have bb : Below w.heap.size w w1 := by rw [← hW1]; exact (Below.refl w.heap.size w).alloc (Nat.le_refl _) _
  have gb : Below w.heap.size w w1 := bb
  clear bb
  obtain ⟨w2, hW2⟩ : ∃ wX, w1.alloc (.cells (tabv m.v 70) 36) = wX := ⟨_, rfl⟩
  have rm : Has w2 w1.heap.size 36 m.v 70 := by rw [← hW2]; exact Has.new w1 36 m.v 70 _ rfl
  have bb : Below w1.heap.size w1 w2 := by rw [← hW2]; exact (Below.refl w1.heap.size w1).alloc (Nat.le_refl _) _
  have rs := rs.below bb rs.lt
  have gb : Below w.heap.size w w2 := gb.trans (bb.mono gb.size)
  clear bb
  obtain ⟨w3, hW3⟩ : ∃ wX, w2.alloc (.cells (tabv Rc.zero.v 138) 42) = wX := ⟨_, rfl⟩
  have rr : Has w3 w2.heap.size 42 Rc.zero.v 138 := by rw [← hW3]; exact Has.new w2 42 Rc.zero.v 138 _ rfl
  have bb : Below w2.heap.size w2 w3 := by rw [← hW3]; exact (Below.refl w2.heap.size w2).alloc (Nat.le_refl _) _
  have rs := rs.below bb rs.lt
  have rm := rm.below bb rm.lt
  have gb : Below w.heap.size w w3 := gb.trans (bb.mono gb.size)
  clear bb
  have Rb_s := hide rs
  have Rb_m := hide rm
  have Rb_r := hide rr
  have GB := hide gb
  clear gb rs rm rr
  have LB_r : w.heap.size ≤ w2.heap.size := by have h1 : w.heap.size < w1.heap.size := (by rw [← hW1, size_alloc]; omega); have h2 : w1.heap.size < w2.heap.size := (by rw [← hW2, size_alloc]; omega); omega
  rw [← zeroRc] at hW3
  have HD := hide (fun w : World => dead_any s w)
  have HPo := hide (fun wx (hb : Below w.heap.size w wx) => spoint_any num m.sec wx (hG.up hb))
  have HPu := hide (fun wx (hb : Below w.heap.size w wx) => put_any s.shelf.ad s.shelf.n s.shelf.c ls hn s.ack m.sec wx (hG.up hb) (hS.below hb))
  unfold revokedA
  generalize deadB s = D at HD ⊢
  generalize putA ls s.ack m.sec = PA at HPu ⊢
  obtain ⟨PL, PE⟩ := PA
  generalize sha (listOf m.sec) = PT at HPo ⊢
  have hp0 : ∀ wx, Has wx (w.heap.size) 32 s.v 115 → At wx w.heap.size 16 (bv s.p0) 32 := fun wx h => h.at_ 16 (by omega) (fun i hi => s.v_p0 i hi)
  generalize s.p0 = p0 at hp0 ⊢
  replace hp0 := hide hp0
  have hsec : ∀ wx, Has wx (w1.heap.size) 36 m.v 70 → At wx w1.heap.size 37 (bv m.sec) 32 := fun wx h => h.at_ 37 (by omega) (fun i hi => m.v_sec i hi)
  have hhs : ∀ wx, Has wx (w1.heap.size) 36 m.v 70 → At wx w1.heap.size 5 (bv m.hash) 32 := fun wx h => h.at_ 5 (by omega) (fun i hi => m.v_hash i hi)
  generalize m.sec = sec at hsec HPo HPu ⊢
  generalize m.hash = hsh at hhs ⊢
  replace hsec := hide hsec
  replace hhs := hide hhs
  have hs7 : ∀ wx, Has wx (w.heap.size) 32 s.v 115 → wx.cell? ⟨w.heap.size, 7, none⟩ = some (.int .i64 s.rem) := fun wx h => h.cell 7 (by omega)
  generalize s.rem = re at hs7 ⊢
  replace hs7 := hide hs7
  have hs8 : ∀ wx, Has wx (w.heap.size) 32 s.v 115 → wx.cell? ⟨w.heap.size, 8, none⟩ = some (.int .i64 s.ack) := fun wx h => h.cell 8 (by omega)
  generalize s.ack = ak at hs8 HPu ⊢
  replace hs8 := hide hs8
  have hm0 : ∀ wx, Has wx (w1.heap.size) 36 m.v 70 → wx.cell? ⟨w1.heap.size, 0, none⟩ = some (.int .i64 m.kind) := fun wx h => h.cell 0 (by omega)
  have hm3 : ∀ wx, Has wx (w1.heap.size) 36 m.v 70 → wx.cell? ⟨w1.heap.size, 3, none⟩ = some (.int .i64 m.idx) := fun wx h => h.cell 3 (by omega)
  generalize m.kind = kd at hm0 ⊢
  generalize m.idx = ix at hm3 ⊢
  replace hm0 := hide hm0
  replace hm3 := hide hm3
  clear hn hG hS
  go_enter Tryz.func22, Tryz.ntmps22
  go_wp2_with (first | refine wpW_load_at 32 _ rfl (w.heap.size) (0) (by rfl) (by rfl) _ 115 _ (Rb_s.out.at_ 0 (by omega) (fun i hi => by rw [Nat.zero_add])) Tryz.underlying32 rfl infoSt ?_ | fail)
  refine (HD.out _).mono ?_
  rintro e y1 ⟨rfl, hb⟩
  have Ry1_s := hide (Rb_s.out.below hb Rb_s.out.lt)
  have Ry1_m := hide (Rb_m.out.below hb Rb_m.out.lt)
  have Ry1_r := hide (Rb_r.out.below hb Rb_r.out.lt)
  have Gy1 := hide (GB.out.trans (hb.mono GB.out.size))
  clear hb
  cases D with
  | true =>
    go_upto_region 2 with fail
    go_wp2_with (first | refine wpW_build (by rfl) 42 #[] rfl [] (by first | rfl | (simp [Act.eval, Act.put]; done)) _ builtRZ ?_ | refine wpList_storeRc rfl _ _ rfl rfl (w2.heap.size) (Rc.zero) rfl rfl _ Ry1_r.out ?_ | fail)
    (try simp only [Exit.inBlock, Exit.then])
    exact bodyPost_ret (resRc _ (w2.heap.size) _ _ (.int .i64 220) 4 5 (Ry1_r.out.row _ (Rc.v Rc.zero) rfl) rfl rfl _ rfl) rfl ⟨by first | rfl | (simp only [*]; rfl) | (simp [*]; done), below_setRow Gy1.out (by first | omega | exact LB_r) _⟩
  | false =>
    have z1_m0 : y1.cell? ⟨w1.heap.size, 0, none⟩ = some (.int .i64 kd) := hm0.out _ Ry1_m.out
    have z1_m3 : y1.cell? ⟨w1.heap.size, 3, none⟩ = some (.int .i64 ix) := hm3.out _ Ry1_m.out
    have z1_s7 : y1.cell? ⟨w.heap.size, 7, none⟩ = some (.int .i64 re) := hs7.out _ Ry1_s.out
    have z1_s8 : y1.cell? ⟨w.heap.size, 8, none⟩ = some (.int .i64 ak) := hs8.out _ Ry1_s.out
    cases q4 : (kd != 5) with
    | true =>
      go_upto_region 4 with fail
      go_wp2_with (first | refine wpW_build (by rfl) 42 #[] rfl [] (by first | rfl | (simp [Act.eval, Act.put]; done)) _ builtRZ ?_ | refine wpList_storeRc rfl _ _ rfl rfl (w2.heap.size) (Rc.zero) rfl rfl _ Ry1_r.out ?_ | fail)
      (try simp only [Exit.inBlock, Exit.then])
      exact bodyPost_ret (resRc _ (w2.heap.size) _ _ (.int .i64 160) 4 5 (Ry1_r.out.row _ (Rc.v Rc.zero) rfl) rfl rfl _ rfl) rfl ⟨by first | rfl | (simp only [*]; rfl) | (simp [*]; done), below_setRow Gy1.out (by first | omega | exact LB_r) _⟩
    | false =>
      cases qa : (re != wrap64 (ak + 1)) with
      | true =>
        go_upto_region 6 with fail
        go_wp2_with (first | refine wpW_build (by rfl) 42 #[] rfl [] (by first | rfl | (simp [Act.eval, Act.put]; done)) _ builtRZ ?_ | refine wpList_storeRc rfl _ _ rfl rfl (w2.heap.size) (Rc.zero) rfl rfl _ Ry1_r.out ?_ | fail)
        (try simp only [Exit.inBlock, Exit.then])
        exact bodyPost_ret (resRc _ (w2.heap.size) _ _ (.int .i64 90) 4 5 (Ry1_r.out.row _ (Rc.v Rc.zero) rfl) rfl rfl _ rfl) rfl ⟨by first | rfl | (simp only [*]; rfl) | (simp [*]; done), below_setRow Gy1.out (by first | omega | exact LB_r) _⟩
      | false =>
        cases qb : (ix != ak) with
        | true =>
          go_upto_region 6 with fail
          go_wp2_with (first | refine wpW_build (by rfl) 42 #[] rfl [] (by first | rfl | (simp [Act.eval, Act.put]; done)) _ builtRZ ?_ | refine wpList_storeRc rfl _ _ rfl rfl (w2.heap.size) (Rc.zero) rfl rfl _ Ry1_r.out ?_ | fail)
          (try simp only [Exit.inBlock, Exit.then])
          exact bodyPost_ret (resRc _ (w2.heap.size) _ _ (.int .i64 90) 4 5 (Ry1_r.out.row _ (Rc.v Rc.zero) rfl) rfl rfl _ rfl) rfl ⟨by first | rfl | (simp only [*]; rfl) | (simp [*]; done), below_setRow Gy1.out (by first | omega | exact LB_r) _⟩
        | false =>
          go_upto_region 7 with fail
          clear z1_m0 z1_m3 z1_s7 z1_s8
          refine wp_region_noPanic ?_
          refine wp_region_held_drew (S := fun wx => Below y1.heap.size y1 wx) (by kernel_rfl) ((Below.refl _ _).drew) (fun hHeld => ?_)
          generalize hwd : World.drew y1 = wd at hHeld ⊢
          refine Cu.takeH 0 (some 33) (.pointer (some ⟨w1.heap.size, 37, none⟩)) rfl rfl (by kernel_rfl) (by kernel_rfl) (by kernel_rfl) (fun _ _ _ h => h) (by rfl) (fun w_ hw => by first | rfl | (go_simp; done) | (go_simp; rfl) | (go_simp; omega)) hHeld ?_
          simp only [Act.put, List.setIfInBounds_toArray, List.set_cons_zero, List.set_cons_succ]
          refine Cu.takeH 1 (some 34) (.agg (tabv (bv sec) 32)) rfl rfl (by kernel_rfl) (by kernel_rfl) (by kernel_rfl) (fun _ _ _ h => h) (by rfl) (fun w_ hw => run_load_at w_ 23 _ rfl (w1.heap.size) 37 (by rfl) _ 32 _ (hsec.out _ (Ry1_m.out.below hw Ry1_m.out.lt)) Tryz.underlying23 rfl info26) hHeld ?_
          simp only [Act.put, List.setIfInBounds_toArray, List.set_cons_zero, List.set_cons_succ]
          refine Cu.takeH 3 (some 36) (.pointer (some ⟨w.heap.size, 16, none⟩)) rfl rfl (by kernel_rfl) (by kernel_rfl) (by kernel_rfl) (fun _ _ _ h => h) (by rfl) (fun w_ hw => by first | rfl | (go_simp; done) | (go_simp; rfl) | (go_simp; omega)) hHeld ?_
          simp only [Act.put, List.setIfInBounds_toArray, List.set_cons_zero, List.set_cons_succ]
          refine Cu.takeH 4 (some 37) (.pointer (some ⟨w.heap.size, 16, none⟩)) rfl rfl (by kernel_rfl) (by kernel_rfl) (by kernel_rfl) (fun _ _ _ h => h) (by rfl) (fun w_ hw => by first | rfl | (go_simp; done) | (go_simp; rfl) | (go_simp; omega)) hHeld ?_
          simp only [Act.put, List.setIfInBounds_toArray, List.set_cons_zero, List.set_cons_succ]
          refine Cu.takeH 5 (some 38) (.agg (tabv (bv p0) 32)) rfl rfl (by kernel_rfl) (by kernel_rfl) (by kernel_rfl) (fun _ _ _ h => h) (by rfl) (fun w_ hw => run_load_at w_ 23 _ rfl (w.heap.size) 16 (by rfl) _ 32 _ (hp0.out _ (Ry1_s.out.below hw Ry1_s.out.lt)) Tryz.underlying23 rfl info26) hHeld ?_
          simp only [Act.put, List.setIfInBounds_toArray, List.set_cons_zero, List.set_cons_succ]
          refine wpAnyH_ready (rs := [2]) (by kernel_rfl) (by simp) (AllReadyH.cons rfl (fun K hK => ?_) AllReadyH.nil)
          rw [if_pos (by rfl)]
          go_simp
          refine (HPo.out _ (Gy1.out.trans (hHeld.mono Gy1.out.size))).mono ?_
          rintro e yp ⟨rfl, hbq⟩
          try go_wp2_with fail
          refine hK.out _ _ (hHeld.trans (hbq.mono hHeld.size)) (fun hH => ?_)
          clear hK K hHeld
          have hHeld := hH
          clear hH
          refine Cu.takeH 6 (some 39) (.bool (!(eqH PT p0))) rfl rfl (by kernel_rfl) (by kernel_rfl) (by kernel_rfl) (fun _ _ _ h => h) (by rfl) (fun w_ hw => run_neH w_ _ _ _ _ (eqH PT p0) rfl (by rfl) (by rfl) (eqHD 9998 w_ PT p0)) hHeld ?_
          simp only [Act.put, List.setIfInBounds_toArray, List.set_cons_zero, List.set_cons_succ]
          refine Cu.takeH 7 (some 32) (.bool (!(eqH PT p0))) rfl rfl (by kernel_rfl) (by kernel_rfl) (by kernel_rfl) (fun _ _ _ h => h) (by rfl) (fun w_ hw => kasg w_ _ _ rfl (by rfl)) hHeld ?_
          simp only [Act.put, List.setIfInBounds_toArray, List.set_cons_zero, List.set_cons_succ]
          refine ⟨by kernel_rfl, ?_⟩
          refine NoPanic.normal ?_
          have hb := hHeld
          clear hHeld hwd
          have Ryp_s := hide (Ry1_s.out.below hb Ry1_s.out.lt)
          have Ryp_m := hide (Ry1_m.out.below hb Ry1_m.out.lt)
          have Ryp_r := hide (Ry1_r.out.below hb Ry1_r.out.lt)
          have Gyp := hide (Gy1.out.trans (hb.mono Gy1.out.size))
          clear hb
          cases qc : eqH PT p0 with
          | false =>
            go_upto_region 8 with fail
            go_wp2_with (first | refine wpW_build (by rfl) 42 #[] rfl [] (by first | rfl | (simp [Act.eval, Act.put]; done)) _ builtRZ ?_ | refine wpList_storeRc rfl _ _ rfl rfl (w2.heap.size) (Rc.zero) rfl rfl _ Ryp_r.out ?_ | fail)
            (try simp only [Exit.inBlock, Exit.then])
            exact bodyPost_ret (resRc _ (w2.heap.size) _ _ (.int .i64 100) 4 5 (Ryp_r.out.row _ (Rc.v Rc.zero) rfl) rfl rfl _ rfl) rfl ⟨by first | rfl | (simp only [*]; rfl) | (simp [*]; done), below_setRow Gyp.out (by first | omega | exact LB_r) _⟩
          | true =>
            go_upto_region 9 with fail
            have z1_s112 : yp.cell? ⟨w.heap.size, 112, none⟩ = some (.slice s.shelf.ad s.shelf.n s.shelf.c) := Ryp_s.out.cell 112 (by omega)
            have z1_s8 : yp.cell? ⟨w.heap.size, 8, none⟩ = some (.int .i64 ak) := hs8.out _ Ryp_s.out
            go_wp2_with (first | refine wpW_load_at 23 _ rfl (w1.heap.size) (37) (by rfl) (by rfl) _ 32 _ (hsec.out _ Ryp_m.out) Tryz.underlying23 rfl info26 ?_ | fail)
            refine (HPu.out _ Gyp.out).mono ?_
            rintro e y2 ⟨⟨v, rfl, hOw⟩, hb⟩
            clear z1_s112 z1_s8
            clear hOw
            have Ry2_s := hide (Ryp_s.out.below hb Ryp_s.out.lt)
            have Ry2_m := hide (Ryp_m.out.below hb Ryp_m.out.lt)
            have Ry2_r := hide (Ryp_r.out.below hb Ryp_r.out.lt)
            have Gy2 := hide (Gyp.out.trans (hb.mono Gyp.out.size))
            clear hb
            cases qd : (PE != 0) with
            | true =>
              go_upto_region 11 with fail
              go_wp2_with (first | refine wpW_build (by rfl) 42 #[] rfl [] (by first | rfl | (simp [Act.eval, Act.put]; done)) _ builtRZ ?_ | refine wpList_storeRc rfl _ _ rfl rfl (w2.heap.size) (Rc.zero) rfl rfl _ Ry2_r.out ?_ | fail)
              (try simp only [Exit.inBlock, Exit.then])
              exact bodyPost_ret (resRc _ (w2.heap.size) _ _ (.int .i64 100) 4 5 (Ry2_r.out.row _ (Rc.v Rc.zero) rfl) rfl rfl _ rfl) rfl ⟨by first | rfl | (simp only [*]; rfl) | (simp [*]; done), below_setRow Gy2.out (by first | omega | exact LB_r) _⟩
            | false =>
              go_upto_region 12 with fail
              have z2_s8 : y2.cell? ⟨w.heap.size, 8, none⟩ = some (.int .i64 ak) := hs8.out _ Ry2_s.out
              go_wp2_with (first | refine wpW_load_at 23 _ rfl (w1.heap.size) (37) (by rfl) (by rfl) _ 32 _ (hsec.out _ Ry2_m.out) Tryz.underlying23 rfl info26 ?_ | refine wpW_load_at 23 _ rfl (w1.heap.size) (5) (by rfl) (by rfl) _ 32 _ (hhs.out _ Ry2_m.out) Tryz.underlying23 rfl info26 ?_ | refine wpW_build (by rfl) 42 #[(0, .const (.int .i64 4)), (3, .tmp 55), (6, .tmp 57), (7, .tmp 59)] rfl [(0, .int .i64 4), (3, .int .i64 ak), (6, .agg (tabv (bv sec) 32)), (7, .agg (tabv (bv hsh) 32))] (by first | rfl | (simp [Act.eval, Act.put]; done)) _ (builtRV _ _ _) ?_ | refine wpList_storeRc rfl _ _ rfl rfl (w2.heap.size) ((revokedR ak sec hsh)) rfl rfl _ Ry2_r.out ?_ | fail)
              (try simp only [Exit.inBlock, Exit.then])
              exact bodyPost_ret (resRc _ (w2.heap.size) _ _ (.int .i64 0) 4 5 (Ry2_r.out.row _ (Rc.v (revokedR ak sec hsh)) rfl) rfl rfl _ rfl) rfl ⟨by first | rfl | (simp only [*]; rfl) | (simp [*]; done), below_setRow Gy2.out (by first | omega | exact LB_r) _⟩
end Go.Proofs.YtmmcoedgoekhgaaGreatDoor
/-
  ownText of the code (printed by gen_d11.py).
-/
namespace Go.Proofs.YtmmcoedgoekhgaaGreatDoor
open Go.RowKit S
set_option linter.unusedVariables false
set_option linter.unusedSimpArgs false
def owF (s : St) (mine others : List Upd) (a b : Int) : FA := foldA s.bo s.bp mine others a b
def cnW (a b : Int) : Nat → Value := fun i => if i < 1 then .int .i64 a else .int .i64 b
set_option maxRecDepth 100000 in
set_option maxHeartbeats 40000000 in
theorem ownText_any (num : Num) (c : Cf) (s : St) (x a b : Int) (mine others : List Upd) (hn1 : mine.length = s.ours.n) (hn2 : others.length = s.peers.n) (z1 : s.ours.n ≤ 1955000000000) (z2 : s.peers.n ≤ 1955000000000) (k1 : s.ours.n ≤ s.ours.c) (k2 : s.peers.n ≤ s.peers.c) (w : World) (hG : Glob num w) (hS1 : Upds w s.ours.ad mine) (hS2 : Upds w s.peers.ad others) : Calls Tryz.prog 50 #[.agg (tabv c.v 164), .agg (tabv s.v 115), .int .i64 x, .agg #[.int .i64 a, .int .i64 b]] w fun e w' => ∃ tb tc, e = .returned (.tuple #[.string tb, .int .i64 tc]) ∧ TX (owF s mine others a b) s.side x (sha (listOf (secretA c.seed x).1)) (owF s mine others a b).x (owF s mine others a b).y (owF s mine others a b).l tb tc ∧ Below w.heap.size w w' := by
  obtain ⟨w1, hW1⟩ : ∃ wX, w.alloc (.cells (tabv c.v 164) 26) = wX := ⟨_, rfl⟩
  have rc : Has w1 w.heap.size 26 c.v 164 := by rw [← hW1]; exact Has.new w 26 c.v 164 _ rfl
  have bb : Below w.heap.size w w1 := by rw [← hW1]; exact (Below.refl w.heap.size w).alloc (Nat.le_refl _) _
  have gb : Below w.heap.size w w1 := bb
  clear bb
  obtain ⟨w2, hW2⟩ : ∃ wX, w1.alloc (.cells (tabv s.v 115) 32) = wX := ⟨_, rfl⟩
  have rs : Has w2 w1.heap.size 32 s.v 115 := by rw [← hW2]; exact Has.new w1 32 s.v 115 _ rfl
  have bb : Below w1.heap.size w1 w2 := by rw [← hW2]; exact (Below.refl w1.heap.size w1).alloc (Nat.le_refl _) _
  have rc := rc.below bb rc.lt
  have gb : Below w.heap.size w w2 := gb.trans (bb.mono gb.size)
  clear bb
  obtain ⟨w3, hW3⟩ : ∃ wX, w2.alloc (.cells #[.int .i64 a, .int .i64 b] 29) = wX := ⟨_, rfl⟩
  have rn : Has w3 w2.heap.size 29 (cnW a b) 2 := by rw [← hW3]; exact Has.new w2 29 (cnW a b) 2 _ rfl
  have bb : Below w2.heap.size w2 w3 := by rw [← hW3]; exact (Below.refl w2.heap.size w2).alloc (Nat.le_refl _) _
  have rc := rc.below bb rc.lt
  have rs := rs.below bb rs.lt
  have gb : Below w.heap.size w w3 := gb.trans (bb.mono gb.size)
  clear bb
  have Rb_c := hide rc
  have Rb_s := hide rs
  have Rb_n := hide rn
  have GB := hide gb
  clear gb rc rs rn
  have HLEN := hide (fold_len s.bo s.bp mine others a b (by omega) (by omega))
  have HF := hide (fun wx (hb : Below w.heap.size w wx) => fold_all s.bo s.bp s.ours.ad s.peers.ad s.ours.n s.ours.c s.peers.n s.peers.c mine others hn1 hn2 z1 z2 k1 k2 a b wx (hS1.below hb) (hS2.below hb))
  have HS := hide (fun wx (hb : Below w.heap.size w wx) => dsecret_any num c x wx (hG.up hb))
  have HPo := hide (fun wx (hb : Below w.heap.size w wx) => spoint_any num (secretA c.seed x).1 wx (hG.up hb))
  unfold owF
  generalize foldA s.bo s.bp mine others a b = F at HF HLEN ⊢
  generalize sha (listOf (secretA c.seed x).1) = PT at HPo ⊢
  generalize (secretA c.seed x).1 = SE at HS HPo
  clear hn1 hn2 z1 z2 k1 k2 hS1 hS2 hG
  have hs0 : ∀ wx, Has wx (w1.heap.size) 32 s.v 115 → wx.cell? ⟨w1.heap.size, 0, none⟩ = some (.int .i64 s.side) := fun wx h => h.cell 0 (by omega)
  generalize s.side = sd at hs0 ⊢
  replace hs0 := hide hs0
  obtain ⟨E, X, Y, LL⟩ := F
  go_enter Tryz.func50, Tryz.ntmps50
  have z0_s2 : w3.cell? ⟨w1.heap.size, 2, none⟩ = some (.int .i64 s.bo) := Rb_s.out.cell 2 (by omega)
  have z0_s3 : w3.cell? ⟨w1.heap.size, 3, none⟩ = some (.int .i64 s.bp) := Rb_s.out.cell 3 (by omega)
  have z0_s4 : w3.cell? ⟨w1.heap.size, 4, none⟩ = some (.slice s.ours.ad s.ours.n s.ours.c) := Rb_s.out.cell 4 (by omega)
  have z0_s5 : w3.cell? ⟨w1.heap.size, 5, none⟩ = some (.slice s.peers.ad s.peers.n s.peers.c) := Rb_s.out.cell 5 (by omega)
  have z0_n0 : w3.cell? ⟨w2.heap.size, 0, none⟩ = some (.int .i64 a) := Rb_n.out.cell 0 (by omega)
  have z0_n1 : w3.cell? ⟨w2.heap.size, 1, none⟩ = some (.int .i64 b) := Rb_n.out.cell 1 (by omega)
  go_wp2_with (fail)
  refine (HF.out _ GB.out).mono ?_
  rintro e y1 ⟨v, rfl, hO, hb⟩
  clear z0_s2 z0_s3 z0_s4 z0_s5 z0_n0 z0_n1
  obtain ⟨ad, cap, rfl, hP, hlt, _, _⟩ := hO.pens
  clear hO hlt
  have Ry1_c := hide (Rb_c.out.below hb Rb_c.out.lt)
  have Ry1_s := hide (Rb_s.out.below hb Rb_s.out.lt)
  have Ry1_n := hide (Rb_n.out.below hb Rb_n.out.lt)
  have Gy1 := hide (GB.out.trans (hb.mono GB.out.size))
  clear hb
  have HP := hide hP
  clear hP
  obtain ⟨V1, V2, hV1, rV1, hV2, rV2, hb⟩ := newLd y1 X Y (.slice ad LL.length cap)
  have RV1 := hide rV1
  have RL := hide rV2
  have HP2 := hide (HP.out.below hb)
  clear rV1 rV2
  have RV2_c := hide (Ry1_c.out.below hb Ry1_c.out.lt)
  have RV2_s := hide (Ry1_s.out.below hb Ry1_s.out.lt)
  have RV2_n := hide (Ry1_n.out.below hb Ry1_n.out.lt)
  have GV2 := hide (Gy1.out.trans (hb.mono Gy1.out.size))
  clear hb
  cases qE : (E != 0) with
  | true =>
    go_wp2_with (first | (rw [hV1]) | (refine wpList_storeL rfl _ _ rfl rfl y1.heap.size X Y (.slice ad LL.length cap) rfl rfl rfl _ RV1.out ?_; rw [hV2]) | fail)
    go_ret2
    exact ⟨_, _, rfl, ⟨fun _ => ⟨rfl, rfl⟩, fun h => by have h : E = 0 := h; rw [h] at qE; simp at qE⟩, GV2.out⟩
  | false =>
    have E0 := hide (show E = 0 by simpa using qE)
    go_upto_region 4 with (first | (rw [hV1]) | (refine wpList_storeL rfl _ _ rfl rfl y1.heap.size X Y (.slice ad LL.length cap) rfl rfl rfl _ RV1.out ?_; rw [hV2]) | fail)
    refine wp_region_noPanic ?_
    refine wp_region_held_drew (S := fun wx => Below V2.heap.size V2 wx) (by kernel_rfl) ((Below.refl _ _).drew) (fun hHeld => ?_)
    generalize hwd : World.drew V2 = wd at hHeld ⊢
    refine Cu.takeH 0 (some 28) (.pointer (some ⟨w1.heap.size, 0, none⟩)) rfl rfl (by kernel_rfl) (by kernel_rfl) (by kernel_rfl) (fun _ _ _ h => h) (by rfl) (fun w_ hw => by first | rfl | (go_simp; done) | (go_simp; rfl) | (go_simp; omega)) hHeld ?_
    simp only [Act.put, List.setIfInBounds_toArray, List.set_cons_zero, List.set_cons_succ]
    refine Cu.takeH 1 (some 29) (.int .i64 sd) rfl rfl (by kernel_rfl) (by kernel_rfl) (by kernel_rfl) (fun _ _ _ h => h) (by rfl) (fun w_ hw => by have c : World.cell? _ ⟨w1.heap.size, 0, none⟩ = some (.int .i64 sd) := hs0.out _ (RV2_s.out.below hw RV2_s.out.lt); first | rfl | (go_simp; done) | (go_simp; rfl)) hHeld ?_
    simp only [Act.put, List.setIfInBounds_toArray, List.set_cons_zero, List.set_cons_succ]
    refine Cu.takeH 2 (some 30) (.int .i64 x) rfl rfl (by kernel_rfl) (by kernel_rfl) (by kernel_rfl) (fun _ _ _ h => h) (by rfl) (fun w_ hw => by first | rfl | (go_simp; done) | (go_simp; rfl) | (go_simp; omega)) hHeld ?_
    simp only [Act.put, List.setIfInBounds_toArray, List.set_cons_zero, List.set_cons_succ]
    refine Cu.takeH 3 (some 31) (.agg (tabv c.v 164)) rfl rfl (by kernel_rfl) (by kernel_rfl) (by kernel_rfl) (fun _ _ _ h => h) (by rfl) (fun w_ hw => run_load_at w_ 26 _ rfl (w.heap.size) 0 (by rfl) _ 164 _ ((RV2_c.out.below hw RV2_c.out.lt).at_ 0 (by omega) (fun i hi => by rw [Nat.zero_add])) Tryz.underlying26 rfl infoCf) hHeld ?_
    simp only [Act.put, List.setIfInBounds_toArray, List.set_cons_zero, List.set_cons_succ]
    refine Cu.takeH 4 (some 32) (.int .i64 x) rfl rfl (by kernel_rfl) (by kernel_rfl) (by kernel_rfl) (fun _ _ _ h => h) (by rfl) (fun w_ hw => by first | rfl | (go_simp; done) | (go_simp; rfl) | (go_simp; omega)) hHeld ?_
    simp only [Act.put, List.setIfInBounds_toArray, List.set_cons_zero, List.set_cons_succ]
    refine Cu.takeH 7 (some 35) (.agg (tabv (ledv X Y (.slice ad LL.length cap)) 3)) rfl rfl (by kernel_rfl) (by kernel_rfl) (by kernel_rfl) (fun _ _ _ h => h) (by rfl) (fun w_ hw => run_load_at w_ 143 _ rfl (y1.heap.size) 0 (by rfl) _ 3 _ ((RL.out.below hw RL.out.lt).at_ 0 (by omega) (fun i hi => by rw [Nat.zero_add])) Tryz.underlying143 rfl infoLg) hHeld ?_
    simp only [Act.put, List.setIfInBounds_toArray, List.set_cons_zero, List.set_cons_succ]
    refine wpAnyH_ready (rs := [5]) (by kernel_rfl) (by simp) (AllReadyH.cons rfl (fun K hK => ?_) AllReadyH.nil)
    rw [if_pos (by rfl)]
    go_simp
    refine (HS.out _ (GV2.out.trans (hHeld.mono GV2.out.size))).mono ?_
    rintro e ya ⟨rfl, hbq⟩
    try go_wp2_with fail
    refine hK.out _ _ (hHeld.trans (hbq.mono hHeld.size)) (fun hH => ?_)
    clear hK K hHeld
    have hHeld := hH
    clear hH
    refine wpAnyH_ready (rs := [6]) (by kernel_rfl) (by simp) (AllReadyH.cons rfl (fun K hK => ?_) AllReadyH.nil)
    rw [if_pos (by rfl)]
    go_simp
    refine (HPo.out _ (GV2.out.trans (hHeld.mono GV2.out.size))).mono ?_
    rintro e yb ⟨rfl, hbq⟩
    try go_wp2_with fail
    refine hK.out _ _ (hHeld.trans (hbq.mono hHeld.size)) (fun hH => ?_)
    clear hK K hHeld
    have hHeld := hH
    clear hH
    refine wpAnyH_ready (rs := [8]) (by kernel_rfl) (by simp) (AllReadyH.cons rfl (fun K hK => ?_) AllReadyH.nil)
    rw [if_pos (by rfl)]
    go_simp
    refine (text_any sd x PT X Y ad LL.length cap LL rfl HLEN.out _ (HP2.out.below hHeld)).mono ?_
    rintro e yx ⟨tb, tc, rfl, hTA, hbq⟩
    try go_wp2_with fail
    refine hK.out _ _ (hHeld.trans (hbq.mono hHeld.size)) (fun hH => ?_)
    clear hK K hHeld
    have hHeld := hH
    clear hH
    refine Cu.takeH 9 (some 37) (.string tb) rfl rfl (by kernel_rfl) (by kernel_rfl) (by kernel_rfl) (fun _ _ _ h => h) (by rfl) (fun w_ hw => kext0 w_ _ _ _ rfl (by rfl)) hHeld ?_
    simp only [Act.put, List.setIfInBounds_toArray, List.set_cons_zero, List.set_cons_succ]
    refine Cu.takeH 10 (some 38) (.int .i64 tc) rfl rfl (by kernel_rfl) (by kernel_rfl) (by kernel_rfl) (fun _ _ _ h => h) (by rfl) (fun w_ hw => kext1 w_ _ _ _ rfl (by rfl)) hHeld ?_
    simp only [Act.put, List.setIfInBounds_toArray, List.set_cons_zero, List.set_cons_succ]
    refine Cu.takeH 11 (some 8) (.string tb) rfl rfl (by kernel_rfl) (by kernel_rfl) (by kernel_rfl) (fun _ _ _ h => h) (by rfl) (fun w_ hw => kasg w_ _ _ rfl (by rfl)) hHeld ?_
    simp only [Act.put, List.setIfInBounds_toArray, List.set_cons_zero, List.set_cons_succ]
    refine Cu.takeH 12 (some 9) (.int .i64 tc) rfl rfl (by kernel_rfl) (by kernel_rfl) (by kernel_rfl) (fun _ _ _ h => h) (by rfl) (fun w_ hw => kasg w_ _ _ rfl (by rfl)) hHeld ?_
    simp only [Act.put, List.setIfInBounds_toArray, List.set_cons_zero, List.set_cons_succ]
    refine ⟨by kernel_rfl, ?_⟩
    refine NoPanic.normal ?_
    have BF := hide (GV2.out.trans (hHeld.mono GV2.out.size))
    clear hHeld hwd
    have TT := hide hTA
    clear hTA
    go_wp2
    go_ret2
    exact ⟨tb, tc, rfl, ⟨fun h => absurd E0.out h, fun _ => TT.out⟩, BF.out⟩
end Go.Proofs.YtmmcoedgoekhgaaGreatDoor
