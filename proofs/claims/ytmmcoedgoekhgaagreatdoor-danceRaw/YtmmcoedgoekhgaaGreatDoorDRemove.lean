import Derived.Test.YtmmcoedgoekhgaaGreatDoorDSec
import Derived.Test.YtmmcoedgoekhgaaGreatDoorCMath
/-
  removable of the code (printed by gen_d4.py).
-/
namespace Go.Proofs.YtmmcoedgoekhgaaGreatDoor
open Go.RowKit S
set_option linter.unusedVariables false
set_option linter.unusedSimpArgs false
def remvB (s : St) (mine others : List Upd) (u : Upd) : Bool := !(mine.find? (isRem u.id)).isSome && (nextA [] (others.take (withinN (fxP s) s.peers.n)) u == 0)
set_option maxRecDepth 100000 in
set_option maxHeartbeats 40000000 in
theorem removable_any (n : Num) (s : St) (u : Upd) (mine others : List Upd) (hn1 : mine.length = s.ours.n) (hn2 : others.length = s.peers.n) (z1 : s.ours.n ≤ 140737488351232) (z2 : s.peers.n ≤ 140737488351232) (k2 : s.peers.n ≤ s.peers.c) (w : World) (hG : Glob n w) (hS1 : Upds w s.ours.ad mine) (hS2 : Upds w s.peers.ad others) : Calls Tryz.prog 99 #[.agg (tabv s.v 115), .agg (tabv u.v 36)] w fun e w' => e = .returned (.bool (remvB s mine others u)) ∧ Below w.heap.size w w' := by
  obtain ⟨w2, hW⟩ : ∃ w2, (w.alloc (.cells (tabv s.v 115) 32)).alloc (.cells (tabv u.v 36) 34) = w2 := ⟨_, rfl⟩
  have r1 : Has w2 w.heap.size 32 s.v 115 := by rw [← hW]; exact (Has.new w 32 s.v 115 _ rfl).old _
  have r2 : Has w2 (w.heap.size + 1) 34 u.v 36 := by
    rw [← hW]
    have := Has.new (w.alloc (.cells (tabv s.v 115) 32)) 34 u.v 36 _ rfl
    rw [size_alloc] at this
    exact this
  have gb : Below w.heap.size w w2 := by rw [← hW]; exact ((Below.refl w.heap.size w).alloc (Nat.le_refl _) _).alloc (by simp) _
  have c1 : w2.cell? ⟨w.heap.size, 4, none⟩ = some (.slice s.ours.ad s.ours.n s.ours.c) := r1.cell 4 (by omega)
  have c2 : w2.cell? ⟨w.heap.size + 1, 1, none⟩ = some (.int .i64 u.id) := r2.cell 1 (by omega)
  have R1 := hide r1
  have R2 := hide r2
  have HR := hide (rem_any s.ours.ad s.ours.n s.ours.c mine hn1 z1 u.id w2 (hS1.below gb))
  have HF := hide (fun w : World => fixed_any s w)
  have hk : withinN (fxP s) s.peers.n ≤ s.peers.n := by unfold withinN; omega
  unfold remvB
  generalize mine.find? (isRem u.id) = F at HR ⊢
  generalize fxO s = fO at HF
  generalize fxP s = fP at HF hk ⊢
  have HW := hide (fun w : World => dwithin_any fP s.peers.ad s.peers.n s.peers.c w)
  generalize withinN fP s.peers.n = kP at HW hk ⊢
  have SK := hide (fun w => sliceK w s.peers.ad s.peers.n s.peers.c kP (by omega))
  have HN := hide (fun wx (hb : Below w.heap.size w wx) => next_any n none s.peers.ad 0 kP 0 s.peers.c [] (others.take kP) rfl (by rw [List.length_take]; omega) (by omega) (by omega) u wx (hG.up hb) (Upds.nil _ _) ((hS2.below hb).take _))
  generalize nextA [] (others.take kP) u = R at HN ⊢
  clear r1 r2 hn1 hn2 z1 z2 k2 hS1 hS2 hG hk
  cases hF : F.isSome with
  | true =>
    go_enter Tryz.func99, Tryz.ntmps99
    go_wp2_with (first | (go_at_call 141; go_must (refine HR.out.mono ?_); rintro e w5 ⟨rfl, hb5⟩; rw [hF]; obtain ⟨w6, hW6⟩ : ∃ x, w5.alloc (.cells (tabv Upd.zero.v 36) 34) = x := ⟨_, rfl⟩; have Q6 := hide (show Has w6 w5.heap.size 34 Upd.zero.v 36 by rw [← hW6]; exact Has.new w5 34 _ 36 _ rfl); have B6 := hide (show Below w5.heap.size w5 w6 by rw [← hW6]; exact (Below.refl _ _).alloc (Nat.le_refl _) _); rw [← zero36] at hW6; obtain ⟨w7, hW7⟩ : ∃ x, w6.setRow w5.heap.size (tabv (orZ F).v 36) = x := ⟨_, rfl⟩; have K5 := hide (R1.out.below hb5 R1.out.lt); have K6 := hide (R2.out.below hb5 R2.out.lt); have R7 := hide (show Has w7 w.heap.size 32 s.v 115 by rw [← hW7]; exact (K5.out.below B6.out K5.out.lt).row_other _ _ (by have := K5.out.lt; omega)); have U7 := hide (show Has w7 (w.heap.size + 1) 34 u.v 36 by rw [← hW7]; exact (K6.out.below B6.out K6.out.lt).row_other _ _ (by have := K6.out.lt; omega)); have B7 := hide (show Below w.heap.size w w7 by rw [← hW7]; exact below_setRow ((gb.trans (hb5.mono gb.size)).trans (B6.out.mono (gb.trans (hb5.mono gb.size)).size)) (gb.trans (hb5.mono gb.size)).size _)) | (refine wpList_storeU rfl _ _ rfl rfl (w5.heap.size) (orZ F) rfl rfl _ Q6.out ?_; rw [hW7]))
    go_ret
    exact ⟨rfl, B7.out⟩
  | false =>
    go_enter Tryz.func99, Tryz.ntmps99
    go_wp2_with (first | (go_at_call 141; go_must (refine HR.out.mono ?_); rintro e w5 ⟨rfl, hb5⟩; rw [hF]; obtain ⟨w6, hW6⟩ : ∃ x, w5.alloc (.cells (tabv Upd.zero.v 36) 34) = x := ⟨_, rfl⟩; have Q6 := hide (show Has w6 w5.heap.size 34 Upd.zero.v 36 by rw [← hW6]; exact Has.new w5 34 _ 36 _ rfl); have B6 := hide (show Below w5.heap.size w5 w6 by rw [← hW6]; exact (Below.refl _ _).alloc (Nat.le_refl _) _); rw [← zero36] at hW6; obtain ⟨w7, hW7⟩ : ∃ x, w6.setRow w5.heap.size (tabv (orZ F).v 36) = x := ⟨_, rfl⟩; have K5 := hide (R1.out.below hb5 R1.out.lt); have K6 := hide (R2.out.below hb5 R2.out.lt); have R7 := hide (show Has w7 w.heap.size 32 s.v 115 by rw [← hW7]; exact (K5.out.below B6.out K5.out.lt).row_other _ _ (by have := K5.out.lt; omega)); have U7 := hide (show Has w7 (w.heap.size + 1) 34 u.v 36 by rw [← hW7]; exact (K6.out.below B6.out K6.out.lt).row_other _ _ (by have := K6.out.lt; omega)); have B7 := hide (show Below w.heap.size w w7 by rw [← hW7]; exact below_setRow ((gb.trans (hb5.mono gb.size)).trans (B6.out.mono (gb.trans (hb5.mono gb.size)).size)) (gb.trans (hb5.mono gb.size)).size _)) | (refine wpList_storeU rfl _ _ rfl rfl (w5.heap.size) (orZ F) rfl rfl _ Q6.out ?_; rw [hW7]))
    refine wp_region_noPanic ?_
    refine wp_region_held_drew (S := fun wx => Below w7.heap.size w7 wx) (by kernel_rfl) ((Below.refl _ _).drew) (fun hHeld => ?_)
    generalize hwd : World.drew w7 = wd at hHeld ⊢
    refine Cu.takeH 0 (some 16) (.pointer (some ⟨w.heap.size, 5, none⟩)) rfl rfl (by kernel_rfl) (by kernel_rfl) (by kernel_rfl) (fun _ _ _ h => h) (by rfl) (fun w_ hw => by first | rfl | (go_simp; done) | (go_simp; rfl) | (go_simp; omega)) hHeld ?_
    simp only [Act.put, List.setIfInBounds_toArray, List.set_cons_zero, List.set_cons_succ]
    refine Cu.takeH 1 (some 17) (.slice s.peers.ad s.peers.n s.peers.c) rfl rfl (by kernel_rfl) (by kernel_rfl) (by kernel_rfl) (fun _ _ _ h => h) (by rfl) (fun w_ hw => by have c : World.cell? _ ⟨w.heap.size, 5, none⟩ = some (.slice s.peers.ad s.peers.n s.peers.c) := (R7.out.below hw R7.out.lt).cell 5 (by omega); first | rfl | (go_simp; done) | (go_simp; rfl) | (go_simp; omega)) hHeld ?_
    simp only [Act.put, List.setIfInBounds_toArray, List.set_cons_zero, List.set_cons_succ]
    refine Cu.takeH 2 (some 18) (.agg (tabv s.v 115)) rfl rfl (by kernel_rfl) (by kernel_rfl) (by kernel_rfl) (fun _ _ _ h => h) (by rfl) (fun w_ hw => run_load_at w_ 32 _ rfl (w.heap.size) 0 (by rfl) _ 115 _ ((R7.out.below hw R7.out.lt).at_ 0 (by omega) (fun i hi => by rw [Nat.zero_add])) Tryz.underlying32 rfl infoSt) hHeld ?_
    simp only [Act.put, List.setIfInBounds_toArray, List.set_cons_zero, List.set_cons_succ]
    refine Cu.takeH 5 (some 21) (.pointer (some ⟨w.heap.size, 5, none⟩)) rfl rfl (by kernel_rfl) (by kernel_rfl) (by kernel_rfl) (fun _ _ _ h => h) (by rfl) (fun w_ hw => by first | rfl | (go_simp; done) | (go_simp; rfl) | (go_simp; omega)) hHeld ?_
    simp only [Act.put, List.setIfInBounds_toArray, List.set_cons_zero, List.set_cons_succ]
    refine Cu.takeH 6 (some 22) (.slice s.peers.ad s.peers.n s.peers.c) rfl rfl (by kernel_rfl) (by kernel_rfl) (by kernel_rfl) (fun _ _ _ h => h) (by rfl) (fun w_ hw => by have c : World.cell? _ ⟨w.heap.size, 5, none⟩ = some (.slice s.peers.ad s.peers.n s.peers.c) := (R7.out.below hw R7.out.lt).cell 5 (by omega); first | rfl | (go_simp; done) | (go_simp; rfl) | (go_simp; omega)) hHeld ?_
    simp only [Act.put, List.setIfInBounds_toArray, List.set_cons_zero, List.set_cons_succ]
    refine Cu.takeH 9 (some 25) (.agg (tabv u.v 36)) rfl rfl (by kernel_rfl) (by kernel_rfl) (by kernel_rfl) (fun _ _ _ h => h) (by rfl) (fun w_ hw => run_load_at w_ 34 _ rfl (w.heap.size + 1) 0 (by rfl) _ 36 _ ((U7.out.below hw U7.out.lt).at_ 0 (by omega) (fun i hi => by rw [Nat.zero_add])) Tryz.underlying34 rfl infoU) hHeld ?_
    simp only [Act.put, List.setIfInBounds_toArray, List.set_cons_zero, List.set_cons_succ]
    refine wpAnyH_ready (rs := [3]) (by kernel_rfl) (by simp) (AllReadyH.cons rfl (fun K hK => ?_) AllReadyH.nil)
    rw [if_pos (by rfl)]
    go_simp
    refine (HF.out _).mono ?_
    rintro e wf ⟨rfl, hbq⟩
    try go_wp2_with fail
    refine hK.out _ _ (hHeld.trans (hbq.mono hHeld.size)) (fun hH => ?_)
    clear hK K hHeld
    have hHeld := hH
    clear hH
    refine Cu.takeH 4 (some 20) (.int .i64 fP) rfl rfl (by kernel_rfl) (by kernel_rfl) (by kernel_rfl) (fun _ _ _ h => h) (by rfl) (fun w_ hw => by first | rfl | (go_simp; done) | (go_simp; rfl) | (go_simp; omega)) hHeld ?_
    simp only [Act.put, List.setIfInBounds_toArray, List.set_cons_zero, List.set_cons_succ]
    refine wpAnyH_ready (rs := [7]) (by kernel_rfl) (by simp) (AllReadyH.cons rfl (fun K hK => ?_) AllReadyH.nil)
    rw [if_pos (by rfl)]
    go_simp
    refine (HW.out _).mono ?_
    rintro e wx ⟨rfl, hx⟩
    try go_wp2_with fail
    refine hK.out _ _ (hx ▸ hHeld) (fun hH => ?_)
    clear hK K hHeld
    have hHeld := hH
    clear hH
    refine Cu.takeH 8 (some 24) (.slice s.peers.ad kP s.peers.c) rfl rfl (by kernel_rfl) (by kernel_rfl) (by kernel_rfl) (fun _ _ _ h => h) (by rfl) (fun w_ hw => by have c := SK.out w_; first | rfl | (go_simp; done) | (go_simp; rfl) | (go_simp; omega)) hHeld ?_
    simp only [Act.put, List.setIfInBounds_toArray, List.set_cons_zero, List.set_cons_succ]
    refine wpAnyH_ready (rs := [10]) (by kernel_rfl) (by simp) (AllReadyH.cons rfl (fun K hK => ?_) AllReadyH.nil)
    rw [if_pos (by rfl)]
    go_simp
    refine (HN.out _ (B7.out.trans (hHeld.mono B7.out.size))).mono ?_
    rintro e wg ⟨rfl, hbr⟩
    try go_wp2_with fail
    refine hK.out _ _ (hHeld.trans (hbr.mono hHeld.size)) (fun hH => ?_)
    clear hK K hHeld
    have hHeld := hH
    clear hH
    refine Cu.takeH 11 (some 27) (.bool (R == 0)) rfl rfl (by kernel_rfl) (by kernel_rfl) (by kernel_rfl) (fun _ _ _ h => h) (by rfl) (fun w_ hw => by first | rfl | (go_simp; done) | (go_simp; rfl) | (go_simp; omega)) hHeld ?_
    simp only [Act.put, List.setIfInBounds_toArray, List.set_cons_zero, List.set_cons_succ]
    refine Cu.takeH 12 (some 4) (.bool (R == 0)) rfl rfl (by kernel_rfl) (by kernel_rfl) (by kernel_rfl) (fun _ _ _ h => h) (by rfl) (fun w_ hw => by first | rfl | (go_simp; done) | (go_simp; rfl) | (go_simp; omega)) hHeld ?_
    simp only [Act.put, List.setIfInBounds_toArray, List.set_cons_zero, List.set_cons_succ]
    refine ⟨by kernel_rfl, ?_⟩
    refine NoPanic.normal ?_
    have bF := hHeld
    go_wp2
    go_ret
    exact ⟨rfl, B7.out.trans (bF.mono B7.out.size)⟩
end Go.Proofs.YtmmcoedgoekhgaaGreatDoor
/-
  remove of the code (printed by gen_d5.py).
-/
namespace Go.Proofs.YtmmcoedgoekhgaaGreatDoor
open Go.RowKit S
set_option linter.unusedVariables false
set_option linter.unusedSimpArgs false
def oursR (u : Upd) : Rc := ⟨1, u, ⟨none, 0, 0⟩, 0, 0, 0, fun _ => 0, fun _ => 0, fun _ => 0, 0⟩
def removeA (s : St) (mine others : List Upd) (u : Upd) : Rc × Int := bif deadB s then (Rc.zero, 220) else bif remvB s mine others u then (bif fullB s then (Rc.zero, 6) else (oursR u, 0)) else (Rc.zero, 120)
set_option maxRecDepth 100000 in
theorem builtRZ : Tryz.prog.built 42 [] = some (tabv Rc.zero.v 138) := by kernel_rfl
set_option maxRecDepth 100000 in
theorem builtRU (u : Upd) : Tryz.prog.built 42 [(0, .int .i64 1), (1, .agg (tabv u.v 36))] = some (tabv (oursR u).v 138) := by kernel_rfl
theorem resRc (w : World) (g : Nat) (f : Nat → Value) (tmps : Array Value) (k : Value) (c t : Nat) (hg : Has w g 42 f 138) (hp : tmps.getD c undef = .pointer (some ⟨g, 0, none⟩)) (hq : tmps.getD t undef = k) (fn : Func) (h : fn.results = #[.cell c 42, .tmp t]) :
    (results fn tmps).run Tryz.prog w = .ok (.tuple #[.agg (tabv f 138), k]) w := by
  have := run_loadVar_row (P := Tryz.prog) w g 42 42 (tabv f 138) (0, 0) _ hg Tryz.underlying42 rfl (by rw [tabv_size]; exact infoRc)
  simp only [Array.getD_eq_getD_getElem?] at hp hq
  simp [results, h, hp, hq, asAddr, this]
set_option maxRecDepth 100000 in
set_option maxHeartbeats 40000000 in
theorem remove_any (n : Num) (s : St) (u : Upd) (mine others : List Upd) (hn1 : mine.length = s.ours.n) (hn2 : others.length = s.peers.n) (z1 : s.ours.n ≤ 140737488351232) (z2 : s.peers.n ≤ 140737488351232) (k2 : s.peers.n ≤ s.peers.c) (hx : -9223372036854775808 ≤ s.ho ∧ s.ho ≤ 9223372036854775807) (w : World) (hG : Glob n w) (hS1 : Upds w s.ours.ad mine) (hS2 : Upds w s.peers.ad others) : Calls Tryz.prog 45 #[.agg (tabv s.v 115), .agg (tabv u.v 36)] w fun e w' => e = .returned (.tuple #[.agg (tabv (removeA s mine others u).1.v 138), .int .i64 (removeA s mine others u).2]) ∧ Below w.heap.size w w' := by
  obtain ⟨w3, hW⟩ : ∃ w3, ((w.alloc (.cells (tabv s.v 115) 32)).alloc (.cells (tabv u.v 36) 34)).alloc (.cells (tabv Rc.zero.v 138) 42) = w3 := ⟨_, rfl⟩
  have r1 : Has w3 w.heap.size 32 s.v 115 := by rw [← hW]; exact ((Has.new w 32 s.v 115 _ rfl).old _).old _
  have r2 : Has w3 (w.heap.size + 1) 34 u.v 36 := by
    rw [← hW]
    have := (Has.new (w.alloc (.cells (tabv s.v 115) 32)) 34 u.v 36 _ rfl).old (.cells (tabv Rc.zero.v 138) 42)
    rw [size_alloc] at this
    exact this
  have r3 : Has w3 (w.heap.size + 2) 42 Rc.zero.v 138 := by
    rw [← hW]
    have := Has.new ((w.alloc (.cells (tabv s.v 115) 32)).alloc (.cells (tabv u.v 36) 34)) 42 Rc.zero.v 138 _ rfl
    rw [size_alloc, size_alloc] at this
    exact this
  have gb : Below w.heap.size w w3 := by rw [← hW]; exact (((Below.refl w.heap.size w).alloc (Nat.le_refl _) _).alloc (by simp) _).alloc (by simp only [size_alloc]; omega) _
  rw [← zeroRc] at hW
  have HD := hide (fun w : World => dead_any s w)
  have HU := hide (fun w : World => full_any s z1 hx w)
  have HR := hide (fun wx (hb : Below w.heap.size w wx) => removable_any n s u mine others hn1 hn2 z1 z2 k2 wx (hG.up hb) (hS1.below hb) (hS2.below hb))
  unfold removeA
  generalize deadB s = D at HD ⊢
  generalize fullB s = U at HU ⊢
  generalize remvB s mine others u = V at HR ⊢
  have R1 := hide r1
  have R2 := hide r2
  have R3 := hide r3
  have GB := hide gb
  clear r1 r2 r3 gb hn1 hn2 z1 z2 k2 hG hS1 hS2 hx
  cases D with
  | true =>
    go_enter Tryz.func45, Tryz.ntmps45
    go_wp2_with (first | refine wpW_load_at 32 _ rfl (w.heap.size) (0) (by rfl) (by rfl) _ 115 _ (R1.out.at_ 0 (by omega) (fun i hi => by rw [Nat.zero_add])) Tryz.underlying32 rfl infoSt ?_ | (go_at_call 41; go_must (refine (HD.out _).mono ?_); rintro e wa ⟨rfl, hba⟩; have R1a := hide (R1.out.below hba R1.out.lt); have R2a := hide (R2.out.below hba R2.out.lt); have R3a := hide (R3.out.below hba R3.out.lt); have GBa := hide (GB.out.trans (hba.mono GB.out.size))) | refine wpW_build (by rfl) 42 #[] rfl [] (by first | rfl | (simp [Act.eval, Act.put]; done)) _ builtRZ ?_ | refine wpList_storeRc rfl _ _ rfl rfl (w.heap.size + 2) Rc.zero rfl rfl _ R3a.out ?_)
    (try simp only [Exit.inBlock, Exit.then])
    exact bodyPost_ret (resRc _ (w.heap.size + 2) _ _ (.int .i64 220) 4 5 (R3a.out.row _ (Rc.v Rc.zero) rfl) rfl rfl _ rfl) rfl ⟨rfl, below_setRow GBa.out (by omega) _⟩
  | false =>
    cases V with
    | false =>
      go_enter Tryz.func45, Tryz.ntmps45
      go_wp2_with (first | refine wpW_load_at 32 _ rfl (w.heap.size) (0) (by rfl) (by rfl) _ 115 _ (R1.out.at_ 0 (by omega) (fun i hi => by rw [Nat.zero_add])) Tryz.underlying32 rfl infoSt ?_ | (go_at_call 41; go_must (refine (HD.out _).mono ?_); rintro e wa ⟨rfl, hba⟩; have R1a := hide (R1.out.below hba R1.out.lt); have R2a := hide (R2.out.below hba R2.out.lt); have R3a := hide (R3.out.below hba R3.out.lt); have GBa := hide (GB.out.trans (hba.mono GB.out.size))) | refine wpW_load_at 32 _ rfl (w.heap.size) (0) (by rfl) (by rfl) _ 115 _ (R1a.out.at_ 0 (by omega) (fun i hi => by rw [Nat.zero_add])) Tryz.underlying32 rfl infoSt ?_ | refine wpW_load_at 34 _ rfl (w.heap.size + 1) (0) (by rfl) (by rfl) _ 36 _ (R2a.out.at_ 0 (by omega) (fun i hi => by rw [Nat.zero_add])) Tryz.underlying34 rfl infoU ?_ | (go_at_call 99; go_must (refine (HR.out _ GBa.out).mono ?_); rintro e wb ⟨rfl, hbb⟩; have R1b := hide (R1a.out.below hbb R1a.out.lt); have R2b := hide (R2a.out.below hbb R2a.out.lt); have R3b := hide (R3a.out.below hbb R3a.out.lt); have GBb := hide (GBa.out.trans (hbb.mono GBa.out.size))) | refine wpW_build (by rfl) 42 #[] rfl [] (by first | rfl | (simp [Act.eval, Act.put]; done)) _ builtRZ ?_ | refine wpList_storeRc rfl _ _ rfl rfl (w.heap.size + 2) Rc.zero rfl rfl _ R3b.out ?_)
      (try simp only [Exit.inBlock, Exit.then])
      exact bodyPost_ret (resRc _ (w.heap.size + 2) _ _ (.int .i64 120) 4 5 (R3b.out.row _ (Rc.v Rc.zero) rfl) rfl rfl _ rfl) rfl ⟨rfl, below_setRow GBb.out (by omega) _⟩
    | true =>
      cases U with
      | true =>
        go_enter Tryz.func45, Tryz.ntmps45
        go_wp2_with (first | refine wpW_load_at 32 _ rfl (w.heap.size) (0) (by rfl) (by rfl) _ 115 _ (R1.out.at_ 0 (by omega) (fun i hi => by rw [Nat.zero_add])) Tryz.underlying32 rfl infoSt ?_ | (go_at_call 41; go_must (refine (HD.out _).mono ?_); rintro e wa ⟨rfl, hba⟩; have R1a := hide (R1.out.below hba R1.out.lt); have R2a := hide (R2.out.below hba R2.out.lt); have R3a := hide (R3.out.below hba R3.out.lt); have GBa := hide (GB.out.trans (hba.mono GB.out.size))) | refine wpW_load_at 32 _ rfl (w.heap.size) (0) (by rfl) (by rfl) _ 115 _ (R1a.out.at_ 0 (by omega) (fun i hi => by rw [Nat.zero_add])) Tryz.underlying32 rfl infoSt ?_ | refine wpW_load_at 34 _ rfl (w.heap.size + 1) (0) (by rfl) (by rfl) _ 36 _ (R2a.out.at_ 0 (by omega) (fun i hi => by rw [Nat.zero_add])) Tryz.underlying34 rfl infoU ?_ | (go_at_call 99; go_must (refine (HR.out _ GBa.out).mono ?_); rintro e wb ⟨rfl, hbb⟩; have R1b := hide (R1a.out.below hbb R1a.out.lt); have R2b := hide (R2a.out.below hbb R2a.out.lt); have R3b := hide (R3a.out.below hbb R3a.out.lt); have GBb := hide (GBa.out.trans (hbb.mono GBa.out.size))) | refine wpW_load_at 32 _ rfl (w.heap.size) (0) (by rfl) (by rfl) _ 115 _ (R1b.out.at_ 0 (by omega) (fun i hi => by rw [Nat.zero_add])) Tryz.underlying32 rfl infoSt ?_ | (go_at_call 42; go_must (refine (HU.out _).mono ?_); rintro e wc ⟨rfl, hbc⟩; have R1c := hide (R1b.out.below hbc R1b.out.lt); have R2c := hide (R2b.out.below hbc R2b.out.lt); have R3c := hide (R3b.out.below hbc R3b.out.lt); have GBc := hide (GBb.out.trans (hbc.mono GBb.out.size))) | refine wpW_build (by rfl) 42 #[] rfl [] (by first | rfl | (simp [Act.eval, Act.put]; done)) _ builtRZ ?_ | refine wpList_storeRc rfl _ _ rfl rfl (w.heap.size + 2) Rc.zero rfl rfl _ R3c.out ?_)
        (try simp only [Exit.inBlock, Exit.then])
        exact bodyPost_ret (resRc _ (w.heap.size + 2) _ _ (.int .i64 6) 4 5 (R3c.out.row _ (Rc.v Rc.zero) rfl) rfl rfl _ rfl) rfl ⟨rfl, below_setRow GBc.out (by omega) _⟩
      | false =>
        go_enter Tryz.func45, Tryz.ntmps45
        go_wp2_with (first | refine wpW_load_at 32 _ rfl (w.heap.size) (0) (by rfl) (by rfl) _ 115 _ (R1.out.at_ 0 (by omega) (fun i hi => by rw [Nat.zero_add])) Tryz.underlying32 rfl infoSt ?_ | (go_at_call 41; go_must (refine (HD.out _).mono ?_); rintro e wa ⟨rfl, hba⟩; have R1a := hide (R1.out.below hba R1.out.lt); have R2a := hide (R2.out.below hba R2.out.lt); have R3a := hide (R3.out.below hba R3.out.lt); have GBa := hide (GB.out.trans (hba.mono GB.out.size))) | refine wpW_load_at 32 _ rfl (w.heap.size) (0) (by rfl) (by rfl) _ 115 _ (R1a.out.at_ 0 (by omega) (fun i hi => by rw [Nat.zero_add])) Tryz.underlying32 rfl infoSt ?_ | refine wpW_load_at 34 _ rfl (w.heap.size + 1) (0) (by rfl) (by rfl) _ 36 _ (R2a.out.at_ 0 (by omega) (fun i hi => by rw [Nat.zero_add])) Tryz.underlying34 rfl infoU ?_ | (go_at_call 99; go_must (refine (HR.out _ GBa.out).mono ?_); rintro e wb ⟨rfl, hbb⟩; have R1b := hide (R1a.out.below hbb R1a.out.lt); have R2b := hide (R2a.out.below hbb R2a.out.lt); have R3b := hide (R3a.out.below hbb R3a.out.lt); have GBb := hide (GBa.out.trans (hbb.mono GBa.out.size))) | refine wpW_load_at 32 _ rfl (w.heap.size) (0) (by rfl) (by rfl) _ 115 _ (R1b.out.at_ 0 (by omega) (fun i hi => by rw [Nat.zero_add])) Tryz.underlying32 rfl infoSt ?_ | (go_at_call 42; go_must (refine (HU.out _).mono ?_); rintro e wc ⟨rfl, hbc⟩; have R1c := hide (R1b.out.below hbc R1b.out.lt); have R2c := hide (R2b.out.below hbc R2b.out.lt); have R3c := hide (R3b.out.below hbc R3b.out.lt); have GBc := hide (GBb.out.trans (hbc.mono GBb.out.size))) | refine wpW_load_at 34 _ rfl (w.heap.size + 1) (0) (by rfl) (by rfl) _ 36 _ (R2c.out.at_ 0 (by omega) (fun i hi => by rw [Nat.zero_add])) Tryz.underlying34 rfl infoU ?_ | refine wpW_build (by rfl) 42 #[(0, .const (.int .i64 1)), (1, .tmp 20)] rfl [(0, .int .i64 1), (1, .agg (tabv u.v 36))] (by first | rfl | (simp [Act.eval, Act.put]; done)) _ (builtRU u) ?_ | refine wpList_storeRc rfl _ _ rfl rfl (w.heap.size + 2) (oursR u) rfl rfl _ R3c.out ?_)
        (try simp only [Exit.inBlock, Exit.then])
        exact bodyPost_ret (resRc _ (w.heap.size + 2) _ _ (.int .i64 0) 4 5 (R3c.out.row _ (Rc.v (oursR u)) rfl) rfl rfl _ rfl) rfl ⟨rfl, below_setRow GBc.out (by omega) _⟩
end Go.Proofs.YtmmcoedgoekhgaaGreatDoor
