import Derived.Test.YtmmcoedgoekhgaaGreatDoorDStart
import Derived.Test.YtmmcoedgoekhgaaGreatDoorDRemove
import Derived.Deep.CutRange
import Derived.Test.YtmmcoedgoekhgaaGreatDoorDSec
import Derived.Test.YtmmcoedgoekhgaaGreatDoorGLast
import Derived.Test.YtmmcoedgoekhgaaGreatDoorCText
import Derived.Test.YtmmcoedgoekhgaaGreatDoorCTurn
import Derived.Test.YtmmcoedgoekhgaaGreatDoorECode
/-
  Offer of the code (printed by gen_d8.py).
-/
namespace Go.Proofs.YtmmcoedgoekhgaaGreatDoor
open Go.RowKit S
set_option linter.unusedVariables false
set_option linter.unusedSimpArgs false
def addU (x am : Int) (h : Nat → UInt8) : Upd := ⟨1, x, am, h, ⟨#[]⟩⟩
def offerA (s : St) (mine others : List Upd) (am : Int) (h : Nat → UInt8) : Rc × Int := bif deadB s then (Rc.zero, 220) else bif (decide (am < 1) || decide (am > 1152921504606846976)) then (Rc.zero, 80) else bif fullB s then (Rc.zero, 6) else bif decide ((openN mine others (fxP s) : Int) ≥ 483) then (Rc.zero, 131) else bif decide (am > spendA s.bo mine others (fxO s) (fxP s)) then (Rc.zero, 130) else (oursR (addU (openN mine [] 0 : Int) am h), 0)
set_option maxRecDepth 100000 in
theorem builtAdd (x am : Int) (h : Nat → UInt8) : Tryz.prog.built 34 [(0, .int .i64 1), (1, .int .i64 x), (2, .int .i64 am), (3, .agg (tabv (bv h) 32))] = some (tabv (addU x am h).v 36) := by kernel_rfl
theorem run_buildG {o : Oper} {a : Act} (w : World) (T : TypeId) (ps : Array (Nat × Operand)) (ho : o.op = .build T ps) (vals : List (Nat × Value)) (he : (ps.map fun (i, y) => (i, a.eval y)).toList = vals) (cs : Array Value) (hb : Tryz.prog.built T vals = some cs) : (execOp a.eval o).run Tryz.prog w = .ok (.value (.agg cs)) w := by
  unfold execOp
  simp only [ho, Sem.run_bind, run_build w T _ _ (by rw [he]; exact hb), Result.andThen_ok, Sem.run_pure]
theorem infoUz : (Tryz.prog.info? 34).map (fun i => (i.zero, i.size)) = some (some (.agg (tabv Upd.zero.v 36)), 36) := by kernel_rfl
theorem run_alloc_z (T : TypeId) (f : Nat → Value) (m : Nat) (hi : (Tryz.prog.info? T).map (fun i => (i.zero, i.size)) = some (some (.agg (tabv f m)), m)) {o : Oper} {a : Act} (w : World) (ho : o.op = .alloc T) : (execOp a.eval o).run Tryz.prog w = .ok (.value (.pointer (some ⟨w.heap.size, 0, none⟩))) (w.alloc (.cells (tabv f m) T)) := by
  cases hq : Tryz.prog.info? T with
  | none => simp [hq] at hi
  | some i =>
    simp [hq] at hi
    unfold execOp
    simp [ho, hq, hi, Instr.alloc, zeroValue, typeInfo, Value.cells, newVar, newRow, Result.andThen]
set_option maxRecDepth 100000 in
set_option maxHeartbeats 40000000 in
theorem doffer_any (s : St) (am : Int) (h : Nat → UInt8) (mine others : List Upd) (hn1 : mine.length = s.ours.n) (hn2 : others.length = s.peers.n) (z1 : s.ours.n ≤ 1955000000000) (z2 : s.peers.n ≤ 1955000000000) (k1 : s.ours.n ≤ s.ours.c) (k2 : s.peers.n ≤ s.peers.c) (hx : -9223372036854775808 ≤ s.ho ∧ s.ho ≤ 9223372036854775807) (w : World) (hS1 : Upds w s.ours.ad mine) (hS2 : Upds w s.peers.ad others) : Calls Tryz.prog 14 #[.agg (tabv s.v 115), .int .i64 am, .agg (tabv (bv h) 32)] w fun e w' => e = .returned (.tuple #[.agg (tabv (offerA s mine others am h).1.v 138), .int .i64 (offerA s mine others am h).2]) ∧ Below w.heap.size w w' := by
  obtain ⟨w1, hW1⟩ : ∃ wX, w.alloc (.cells (tabv s.v 115) 32) = wX := ⟨_, rfl⟩
  have rs : Has w1 w.heap.size 32 s.v 115 := by rw [← hW1]; exact Has.new w 32 s.v 115 _ rfl
  have bb : Below w.heap.size w w1 := by rw [← hW1]; exact (Below.refl w.heap.size w).alloc (Nat.le_refl _) _
  have gb : Below w.heap.size w w1 := bb
  clear bb
  obtain ⟨w2, hW2⟩ : ∃ wX, w1.alloc (.cells (tabv (bv h) 32) 23) = wX := ⟨_, rfl⟩
  have rh : Has w2 w1.heap.size 23 (bv h) 32 := by rw [← hW2]; exact Has.new w1 23 (bv h) 32 _ rfl
  have bb : Below w1.heap.size w1 w2 := by rw [← hW2]; exact (Below.refl w1.heap.size w1).alloc (Nat.le_refl _) _
  have rs := rs.below bb rs.lt
  have gb : Below w.heap.size w w2 := gb.trans (bb.mono gb.size)
  clear bb
  obtain ⟨w3, hW3⟩ : ∃ wX, w2.alloc (.cells (tabv Rc.zero.v 138) 42) = wX := ⟨_, rfl⟩
  have rr : Has w3 w2.heap.size 42 Rc.zero.v 138 := by rw [← hW3]; exact Has.new w2 42 Rc.zero.v 138 _ rfl
  have bb : Below w2.heap.size w2 w3 := by rw [← hW3]; exact (Below.refl w2.heap.size w2).alloc (Nat.le_refl _) _
  have rs := rs.below bb rs.lt
  have rh := rh.below bb rh.lt
  have gb : Below w.heap.size w w3 := gb.trans (bb.mono gb.size)
  clear bb
  have Rb_s := hide rs
  have Rb_h := hide rh
  have Rb_r := hide rr
  have GB := hide gb
  clear gb rs rh rr
  have LB_r : w.heap.size ≤ w2.heap.size := by have h1 : w.heap.size < w1.heap.size := (by rw [← hW1, size_alloc]; omega); have h2 : w1.heap.size < w2.heap.size := (by rw [← hW2, size_alloc]; omega); omega
  rw [← zeroRc] at hW3
  have HD := hide (fun w : World => dead_any s w)
  have HU := hide (fun w : World => full_any s (by omega) hx w)
  have HF := hide (fun w : World => fixed_any s w)
  have HO := hide (fun wx (hb : Below w.heap.size w wx) => open_any s.ours.ad s.peers.ad s.ours.n s.ours.c s.peers.n s.peers.c mine others hn1 hn2 z1 z2 k1 k2 (fxP s) wx (hS1.below hb) (hS2.below hb))
  have HP := hide (fun wx (hb : Below w.heap.size w wx) => spendable_any s mine others hn1 hn2 z1 z2 k1 k2 wx (hS1.below hb) (hS2.below hb))
  have HN := hide (fun wx (hb : Below w.heap.size w wx) => nextID_any s.ours.ad s.ours.n s.ours.c mine hn1 z1 k1 wx (hS1.below hb))
  unfold offerA
  generalize deadB s = D at HD ⊢
  generalize fullB s = U at HU ⊢
  generalize openN mine others (fxP s) = O at HO ⊢
  generalize spendA s.bo mine others (fxO s) (fxP s) = P at HP ⊢
  generalize openN mine [] 0 = I at HN ⊢
  generalize fxO s = fO at HF
  generalize fxP s = fP at HF HO
  clear hn1 hn2 z1 z2 k1 k2 hx hS1 hS2
  go_enter Tryz.func14, Tryz.ntmps14
  go_wp2_with (first | refine wpW_load_at 32 _ rfl (w.heap.size) (0) (by rfl) (by rfl) _ 115 _ (Rb_s.out.at_ 0 (by omega) (fun i hi => by rw [Nat.zero_add])) Tryz.underlying32 rfl infoSt ?_ | fail)
  refine (HD.out _).mono ?_
  rintro e y1 ⟨rfl, hb⟩
  have Ry1_s := hide (Rb_s.out.below hb Rb_s.out.lt)
  have Ry1_h := hide (Rb_h.out.below hb Rb_h.out.lt)
  have Ry1_r := hide (Rb_r.out.below hb Rb_r.out.lt)
  have Gy1 := hide (GB.out.trans (hb.mono GB.out.size))
  clear hb
  cases D with
  | true =>
    go_upto_region 2 with fail
    go_wp2_with (first | refine wpW_build (by rfl) 42 #[] rfl [] (by first | rfl | (simp [Act.eval, Act.put]; done)) _ builtRZ ?_ | refine wpList_storeRc rfl _ _ rfl rfl (w2.heap.size) (Rc.zero) rfl rfl _ Ry1_r.out ?_ | fail)
    (try simp only [Exit.inBlock, Exit.then])
    exact bodyPost_ret (resRc _ (w2.heap.size) _ _ (.int .i64 220) 6 7 (Ry1_r.out.row _ (Rc.v Rc.zero) rfl) rfl rfl _ rfl) rfl ⟨by first | rfl | (simp only [*]; rfl) | (simp [*]; done), below_setRow Gy1.out (by first | omega | exact LB_r) _⟩
  | false =>
    cases q1 : decide (am < 1) with
    | true =>
      go_upto_region 4 with fail
      go_wp2_with (first | refine wpW_build (by rfl) 42 #[] rfl [] (by first | rfl | (simp [Act.eval, Act.put]; done)) _ builtRZ ?_ | refine wpList_storeRc rfl _ _ rfl rfl (w2.heap.size) (Rc.zero) rfl rfl _ Ry1_r.out ?_ | fail)
      (try simp only [Exit.inBlock, Exit.then])
      exact bodyPost_ret (resRc _ (w2.heap.size) _ _ (.int .i64 80) 6 7 (Ry1_r.out.row _ (Rc.v Rc.zero) rfl) rfl rfl _ rfl) rfl ⟨by first | rfl | (simp only [*]; rfl) | (simp [*]; done), below_setRow Gy1.out (by first | omega | exact LB_r) _⟩
    | false =>
      cases q4 : decide (am > 1152921504606846976) with
      | true =>
        go_upto_region 4 with fail
        go_wp2_with (first | refine wpW_build (by rfl) 42 #[] rfl [] (by first | rfl | (simp [Act.eval, Act.put]; done)) _ builtRZ ?_ | refine wpList_storeRc rfl _ _ rfl rfl (w2.heap.size) (Rc.zero) rfl rfl _ Ry1_r.out ?_ | fail)
        (try simp only [Exit.inBlock, Exit.then])
        exact bodyPost_ret (resRc _ (w2.heap.size) _ _ (.int .i64 80) 6 7 (Ry1_r.out.row _ (Rc.v Rc.zero) rfl) rfl rfl _ rfl) rfl ⟨by first | rfl | (simp only [*]; rfl) | (simp [*]; done), below_setRow Gy1.out (by first | omega | exact LB_r) _⟩
      | false =>
        go_upto_region 5 with fail
        go_wp2_with (first | refine wpW_load_at 32 _ rfl (w.heap.size) (0) (by rfl) (by rfl) _ 115 _ (Ry1_s.out.at_ 0 (by omega) (fun i hi => by rw [Nat.zero_add])) Tryz.underlying32 rfl infoSt ?_ | fail)
        refine (HU.out _).mono ?_
        rintro e y2 ⟨rfl, hb⟩
        have Ry2_s := hide (Ry1_s.out.below hb Ry1_s.out.lt)
        have Ry2_h := hide (Ry1_h.out.below hb Ry1_h.out.lt)
        have Ry2_r := hide (Ry1_r.out.below hb Ry1_r.out.lt)
        have Gy2 := hide (Gy1.out.trans (hb.mono Gy1.out.size))
        clear hb
        cases U with
        | true =>
          go_upto_region 6 with fail
          go_wp2_with (first | refine wpW_build (by rfl) 42 #[] rfl [] (by first | rfl | (simp [Act.eval, Act.put]; done)) _ builtRZ ?_ | refine wpList_storeRc rfl _ _ rfl rfl (w2.heap.size) (Rc.zero) rfl rfl _ Ry2_r.out ?_ | fail)
          (try simp only [Exit.inBlock, Exit.then])
          exact bodyPost_ret (resRc _ (w2.heap.size) _ _ (.int .i64 6) 6 7 (Ry2_r.out.row _ (Rc.v Rc.zero) rfl) rfl rfl _ rfl) rfl ⟨by first | rfl | (simp only [*]; rfl) | (simp [*]; done), below_setRow Gy2.out (by first | omega | exact LB_r) _⟩
        | false =>
          go_upto_region 7 with fail
          refine wp_region_noPanic ?_
          refine wp_region_held_drew (S := fun wx => Below y2.heap.size y2 wx) (by kernel_rfl) ((Below.refl _ _).drew) (fun hHeld => ?_)
          generalize hwd : World.drew y2 = wd at hHeld ⊢
          refine Cu.takeH 0 (some 26) (.pointer (some ⟨w.heap.size, 4, none⟩)) rfl rfl (by kernel_rfl) (by kernel_rfl) (by kernel_rfl) (fun _ _ _ h => h) (by rfl) (fun w_ hw => by first | rfl | (go_simp; done) | (go_simp; rfl) | (go_simp; omega)) hHeld ?_
          simp only [Act.put, List.setIfInBounds_toArray, List.set_cons_zero, List.set_cons_succ]
          refine Cu.takeH 1 (some 27) (.slice s.ours.ad s.ours.n s.ours.c) rfl rfl (by kernel_rfl) (by kernel_rfl) (by kernel_rfl) (fun _ _ _ h => h) (by rfl) (fun w_ hw => by have c : World.cell? _ ⟨w.heap.size, 4, none⟩ = some (.slice s.ours.ad s.ours.n s.ours.c) := (Ry2_s.out.below hw Ry2_s.out.lt).cell 4 (by omega); first | rfl | (go_simp; done) | (go_simp; rfl) | (go_simp; omega)) hHeld ?_
          simp only [Act.put, List.setIfInBounds_toArray, List.set_cons_zero, List.set_cons_succ]
          refine Cu.takeH 2 (some 28) (.pointer (some ⟨w.heap.size, 5, none⟩)) rfl rfl (by kernel_rfl) (by kernel_rfl) (by kernel_rfl) (fun _ _ _ h => h) (by rfl) (fun w_ hw => by first | rfl | (go_simp; done) | (go_simp; rfl) | (go_simp; omega)) hHeld ?_
          simp only [Act.put, List.setIfInBounds_toArray, List.set_cons_zero, List.set_cons_succ]
          refine Cu.takeH 3 (some 29) (.slice s.peers.ad s.peers.n s.peers.c) rfl rfl (by kernel_rfl) (by kernel_rfl) (by kernel_rfl) (fun _ _ _ h => h) (by rfl) (fun w_ hw => by have c : World.cell? _ ⟨w.heap.size, 5, none⟩ = some (.slice s.peers.ad s.peers.n s.peers.c) := (Ry2_s.out.below hw Ry2_s.out.lt).cell 5 (by omega); first | rfl | (go_simp; done) | (go_simp; rfl) | (go_simp; omega)) hHeld ?_
          simp only [Act.put, List.setIfInBounds_toArray, List.set_cons_zero, List.set_cons_succ]
          refine Cu.takeH 4 (some 30) (.agg (tabv s.v 115)) rfl rfl (by kernel_rfl) (by kernel_rfl) (by kernel_rfl) (fun _ _ _ h => h) (by rfl) (fun w_ hw => run_load_at w_ 32 _ rfl (w.heap.size) 0 (by rfl) _ 115 _ ((Ry2_s.out.below hw Ry2_s.out.lt).at_ 0 (by omega) (fun i hi => by rw [Nat.zero_add])) Tryz.underlying32 rfl infoSt) hHeld ?_
          simp only [Act.put, List.setIfInBounds_toArray, List.set_cons_zero, List.set_cons_succ]
          refine wpAnyH_ready (rs := [5]) (by kernel_rfl) (by simp) (AllReadyH.cons rfl (fun K hK => ?_) AllReadyH.nil)
          rw [if_pos (by rfl)]
          go_simp
          refine (HF.out _).mono ?_
          rintro e yf ⟨rfl, hbq⟩
          try go_wp2_with fail
          refine hK.out _ _ (hHeld.trans (hbq.mono hHeld.size)) (fun hH => ?_)
          clear hK K hHeld
          have hHeld := hH
          clear hH
          refine Cu.takeH 6 (some 32) (.int .i64 fP) rfl rfl (by kernel_rfl) (by kernel_rfl) (by kernel_rfl) (fun _ _ _ h => h) (by rfl) (fun w_ hw => by first | rfl | (go_simp; done) | (go_simp; rfl) | (go_simp; omega)) hHeld ?_
          simp only [Act.put, List.setIfInBounds_toArray, List.set_cons_zero, List.set_cons_succ]
          refine wpAnyH_ready (rs := [7]) (by kernel_rfl) (by simp) (AllReadyH.cons rfl (fun K hK => ?_) AllReadyH.nil)
          rw [if_pos (by rfl)]
          go_simp
          refine (HO.out _ (Gy2.out.trans (hHeld.mono Gy2.out.size))).mono ?_
          rintro e yo ⟨rfl, hbq⟩
          try go_wp2_with fail
          refine hK.out _ _ (hHeld.trans (hbq.mono hHeld.size)) (fun hH => ?_)
          clear hK K hHeld
          have hHeld := hH
          clear hH
          refine Cu.takeH 8 (some 34) (.bool (decide ((O : Int) ≥ 483))) rfl rfl (by kernel_rfl) (by kernel_rfl) (by kernel_rfl) (fun _ _ _ h => h) (by rfl) (fun w_ hw => by first | rfl | (go_simp; done) | (go_simp; rfl) | (go_simp; omega)) hHeld ?_
          simp only [Act.put, List.setIfInBounds_toArray, List.set_cons_zero, List.set_cons_succ]
          refine Cu.takeH 9 (some 25) (.bool (decide ((O : Int) ≥ 483))) rfl rfl (by kernel_rfl) (by kernel_rfl) (by kernel_rfl) (fun _ _ _ h => h) (by rfl) (fun w_ hw => by first | rfl | (go_simp; done) | (go_simp; rfl) | (go_simp; omega)) hHeld ?_
          simp only [Act.put, List.setIfInBounds_toArray, List.set_cons_zero, List.set_cons_succ]
          refine ⟨by kernel_rfl, ?_⟩
          refine NoPanic.normal ?_
          have hb := hHeld
          clear hHeld hwd
          have Ryo_s := hide (Ry2_s.out.below hb Ry2_s.out.lt)
          have Ryo_h := hide (Ry2_h.out.below hb Ry2_h.out.lt)
          have Ryo_r := hide (Ry2_r.out.below hb Ry2_r.out.lt)
          have Gyo := hide (Gy2.out.trans (hb.mono Gy2.out.size))
          clear hb
          cases q8 : decide ((O : Int) ≥ 483) with
          | true =>
            go_upto_region 8 with fail
            go_wp2_with (first | refine wpW_build (by rfl) 42 #[] rfl [] (by first | rfl | (simp [Act.eval, Act.put]; done)) _ builtRZ ?_ | refine wpList_storeRc rfl _ _ rfl rfl (w2.heap.size) (Rc.zero) rfl rfl _ Ryo_r.out ?_ | fail)
            (try simp only [Exit.inBlock, Exit.then])
            exact bodyPost_ret (resRc _ (w2.heap.size) _ _ (.int .i64 131) 6 7 (Ryo_r.out.row _ (Rc.v Rc.zero) rfl) rfl rfl _ rfl) rfl ⟨by first | rfl | (simp only [*]; rfl) | (simp [*]; done), below_setRow Gyo.out (by first | omega | exact LB_r) _⟩
          | false =>
            go_upto_region 9 with fail
            go_wp2_with (first | refine wpW_load_at 32 _ rfl (w.heap.size) (0) (by rfl) (by rfl) _ 115 _ (Ryo_s.out.at_ 0 (by omega) (fun i hi => by rw [Nat.zero_add])) Tryz.underlying32 rfl infoSt ?_ | fail)
            refine (HP.out _ Gyo.out).mono ?_
            rintro e y3 ⟨rfl, hb⟩
            have Ry3_s := hide (Ryo_s.out.below hb Ryo_s.out.lt)
            have Ry3_h := hide (Ryo_h.out.below hb Ryo_h.out.lt)
            have Ry3_r := hide (Ryo_r.out.below hb Ryo_r.out.lt)
            have Gy3 := hide (Gyo.out.trans (hb.mono Gyo.out.size))
            clear hb
            cases q10 : decide (am > P) with
            | true =>
              go_upto_region 10 with fail
              go_wp2_with (first | refine wpW_build (by rfl) 42 #[] rfl [] (by first | rfl | (simp [Act.eval, Act.put]; done)) _ builtRZ ?_ | refine wpList_storeRc rfl _ _ rfl rfl (w2.heap.size) (Rc.zero) rfl rfl _ Ry3_r.out ?_ | fail)
              (try simp only [Exit.inBlock, Exit.then])
              exact bodyPost_ret (resRc _ (w2.heap.size) _ _ (.int .i64 130) 6 7 (Ry3_r.out.row _ (Rc.v Rc.zero) rfl) rfl rfl _ rfl) rfl ⟨by first | rfl | (simp only [*]; rfl) | (simp [*]; done), below_setRow Gy3.out (by first | omega | exact LB_r) _⟩
            | false =>
              go_upto_region 11 with fail
              go_cut [8] from 9 (fun s8 wx => ∃ g, s8 = .pointer (some ⟨g, 0, none⟩) ∧ Has wx g 34 (addU (I : Int) am h).v 36 ∧ Below y3.heap.size y3 wx)
              case first =>
                refine wp_region_noPanic ?_
                refine wp_region_held_drew (S := fun wx => Below y3.heap.size y3 wx) (by kernel_rfl) ((Below.refl _ _).drew) (fun hHeld => ?_)
                generalize hwd : World.drew y3 = wd at hHeld ⊢
                refine Cu.takeH 0 (some 42) (.pointer (some ⟨w.heap.size, 4, none⟩)) rfl rfl (by kernel_rfl) (by kernel_rfl) (by kernel_rfl) (fun _ _ _ h => h) (by rfl) (fun w_ hw => by first | rfl | (go_simp; done) | (go_simp; rfl) | (go_simp; omega)) hHeld ?_
                simp only [Act.put, List.setIfInBounds_toArray, List.set_cons_zero, List.set_cons_succ]
                refine Cu.takeH 1 (some 43) (.slice s.ours.ad s.ours.n s.ours.c) rfl rfl (by kernel_rfl) (by kernel_rfl) (by kernel_rfl) (fun _ _ _ h => h) (by rfl) (fun w_ hw => by have c : World.cell? _ ⟨w.heap.size, 4, none⟩ = some (.slice s.ours.ad s.ours.n s.ours.c) := (Ry3_s.out.below hw Ry3_s.out.lt).cell 4 (by omega); first | rfl | (go_simp; done) | (go_simp; rfl) | (go_simp; omega)) hHeld ?_
                simp only [Act.put, List.setIfInBounds_toArray, List.set_cons_zero, List.set_cons_succ]
                refine Cu.takeH 3 (some 45) (.int .i64 am) rfl rfl (by kernel_rfl) (by kernel_rfl) (by kernel_rfl) (fun _ _ _ h => h) (by rfl) (fun w_ hw => by first | rfl | (go_simp; done) | (go_simp; rfl) | (go_simp; omega)) hHeld ?_
                simp only [Act.put, List.setIfInBounds_toArray, List.set_cons_zero, List.set_cons_succ]
                refine Cu.takeH 4 (some 46) (.agg (tabv (bv h) 32)) rfl rfl (by kernel_rfl) (by kernel_rfl) (by kernel_rfl) (fun _ _ _ h => h) (by rfl) (fun w_ hw => run_load_at w_ 23 _ rfl (w1.heap.size) 0 (by rfl) _ 32 _ ((Ry3_h.out.below hw Ry3_h.out.lt).at_ 0 (by omega) (fun i hi => by rw [Nat.zero_add])) Tryz.underlying23 rfl info26) hHeld ?_
                simp only [Act.put, List.setIfInBounds_toArray, List.set_cons_zero, List.set_cons_succ]
                refine wpAnyH_ready (rs := [2, 6]) (by kernel_rfl) (by simp) (AllReadyH.cons rfl (fun K hK => ?_) (AllReadyH.cons rfl (fun K hK => ?_) AllReadyH.nil))
                · skip
                  rw [if_pos (by rfl)]
                  go_simp
                  refine (HN.out _ (Gy3.out.trans (hHeld.mono Gy3.out.size))).mono ?_
                  rintro e yn ⟨rfl, hbq⟩
                  try go_wp2_with fail
                  refine hK.out _ _ (hHeld.trans (hbq.mono hHeld.size)) (fun hH => ?_)
                  clear hK K hHeld
                  have hHeld := hH
                  clear hH
                  refine Cu.takeH 5 (some 47) (.agg (tabv (addU (I : Int) am h).v 36)) rfl rfl (by kernel_rfl) (by kernel_rfl) (by kernel_rfl) (fun _ _ _ h => h) (by rfl) (fun w_ hw => run_buildG w_ 34 _ rfl [(0, .int .i64 1), (1, .int .i64 (I : Int)), (2, .int .i64 am), (3, .agg (tabv (bv h) 32))] (by first | rfl | (simp [Act.eval, Act.put]; done)) _ (builtAdd _ _ _)) hHeld ?_
                  simp only [Act.put, List.setIfInBounds_toArray, List.set_cons_zero, List.set_cons_succ]
                  refine wpAnyH_ready (rs := [6]) (by kernel_rfl) (by simp) (AllReadyH.cons rfl (fun K hK => ?_) AllReadyH.nil)
                  rw [if_pos (by rfl)]
                  refine wpRun (run_alloc_z 34 Upd.zero.v 36 infoUz yn rfl) ?_
                  show K (Act.put _ (some 8) _) _
                  simp only [Act.put, List.setIfInBounds_toArray, List.set_cons_zero, List.set_cons_succ]
                  have qN : Has (World.alloc yn (.cells (tabv Upd.zero.v 36) 34)) (Array.size (World.heap yn)) 34 Upd.zero.v 36 := Has.new yn 34 Upd.zero.v 36 _ rfl
                  have bN : Below (Array.size (World.heap yn)) yn (World.alloc yn (.cells (tabv Upd.zero.v 36) 34)) := (Below.refl _ _).alloc (Nat.le_refl _) _
                  have hgH : y3.heap.size ≤ Array.size (World.heap yn) := hHeld.size
                  have sN := hHeld.trans (bN.mono hHeld.size)
                  generalize hwe : World.alloc yn (.cells (tabv Upd.zero.v 36) 34) = wb at qN bN sN ⊢
                  refine hK.out _ _ sN (fun hH => ?_)
                  clear sN hwe hK hHeld
                  have hHeld := hH
                  clear hH
                  generalize hgHe : Array.size (World.heap yn) = gH at qN hgH bN ⊢
                  try simp only [Act.put, List.setIfInBounds_toArray, List.set_cons_zero, List.set_cons_succ]
                  refine wpAnyH_ready (rs := [7]) (by kernel_rfl) (by simp) (AllReadyH.cons rfl (fun K hK => ?_) AllReadyH.nil)
                  rw [if_pos (by rfl)]
                  refine wp_store_part 34 _ _ rfl rfl gH 0 (addU (I : Int) am h).v 36 rfl rfl 34 _ 36 qN (by omega) infoU (fun i _ => oneV _ i) (addU (I : Int) am h).v (fun i hi => by unfold splice; rw [if_pos (by omega), Nat.sub_zero]) ?_
                  have bF : Below y3.heap.size y3 (wb.setRow gH (tabv (addU (I : Int) am h).v 36)) := below_setRow hHeld hgH _
                  have rF : Has (wb.setRow gH (tabv (addU (I : Int) am h).v 36)) gH 34 (addU (I : Int) am h).v 36 := qN.row _ _ rfl
                  refine hK.out _ _ bF (fun hH => ?_)
                  clear hK hHeld hH
                  generalize hwz : World.setRow wb gH (tabv (addU (I : Int) am h).v 36) = wz at bF rF ⊢
                  clear hwz
                  refine wpAnyH_done (by kernel_rfl) ?_ _
                  refine NoPanic.normal ?_
                  go_wp2
                  go_meet
                  exact ⟨_, rfl, rF, bF⟩
                · skip
                  rw [if_pos (by rfl)]
                  refine wpRun (run_alloc_z 34 Upd.zero.v 36 infoUz wd rfl) ?_
                  show K (Act.put _ (some 8) _) _
                  simp only [Act.put, List.setIfInBounds_toArray, List.set_cons_zero, List.set_cons_succ]
                  have qN : Has (World.alloc wd (.cells (tabv Upd.zero.v 36) 34)) (Array.size (World.heap wd)) 34 Upd.zero.v 36 := Has.new wd 34 Upd.zero.v 36 _ rfl
                  have bN : Below (Array.size (World.heap wd)) wd (World.alloc wd (.cells (tabv Upd.zero.v 36) 34)) := (Below.refl _ _).alloc (Nat.le_refl _) _
                  have hgH : y3.heap.size ≤ Array.size (World.heap wd) := hHeld.size
                  have sN := hHeld.trans (bN.mono hHeld.size)
                  generalize hwe : World.alloc wd (.cells (tabv Upd.zero.v 36) 34) = wb at qN bN sN ⊢
                  refine hK.out _ _ sN (fun hH => ?_)
                  clear sN hwe hK hHeld
                  have hHeld := hH
                  clear hH
                  generalize hgHe : Array.size (World.heap wd) = gH at qN hgH bN ⊢
                  try simp only [Act.put, List.setIfInBounds_toArray, List.set_cons_zero, List.set_cons_succ]
                  refine wpAnyH_ready (rs := [2]) (by kernel_rfl) (by simp) (AllReadyH.cons rfl (fun K hK => ?_) AllReadyH.nil)
                  rw [if_pos (by rfl)]
                  go_simp
                  refine (HN.out _ (Gy3.out.trans (hHeld.mono Gy3.out.size))).mono ?_
                  rintro e yn ⟨rfl, hbq⟩
                  try go_wp2_with fail
                  have qN := qN.below hbq qN.lt
                  refine hK.out _ _ (hHeld.trans (hbq.mono hHeld.size)) (fun hH => ?_)
                  clear hK K hHeld
                  have hHeld := hH
                  clear hH
                  refine Cu.takeH 5 (some 47) (.agg (tabv (addU (I : Int) am h).v 36)) rfl rfl (by kernel_rfl) (by kernel_rfl) (by kernel_rfl) (fun _ _ _ h => h) (by rfl) (fun w_ hw => run_buildG w_ 34 _ rfl [(0, .int .i64 1), (1, .int .i64 (I : Int)), (2, .int .i64 am), (3, .agg (tabv (bv h) 32))] (by first | rfl | (simp [Act.eval, Act.put]; done)) _ (builtAdd _ _ _)) hHeld ?_
                  simp only [Act.put, List.setIfInBounds_toArray, List.set_cons_zero, List.set_cons_succ]
                  refine wpAnyH_ready (rs := [7]) (by kernel_rfl) (by simp) (AllReadyH.cons rfl (fun K hK => ?_) AllReadyH.nil)
                  rw [if_pos (by rfl)]
                  refine wp_store_part 34 _ _ rfl rfl gH 0 (addU (I : Int) am h).v 36 rfl rfl 34 _ 36 qN (by omega) infoU (fun i _ => oneV _ i) (addU (I : Int) am h).v (fun i hi => by unfold splice; rw [if_pos (by omega), Nat.sub_zero]) ?_
                  have bF : Below y3.heap.size y3 (yn.setRow gH (tabv (addU (I : Int) am h).v 36)) := below_setRow hHeld hgH _
                  have rF : Has (yn.setRow gH (tabv (addU (I : Int) am h).v 36)) gH 34 (addU (I : Int) am h).v 36 := qN.row _ _ rfl
                  refine hK.out _ _ bF (fun hH => ?_)
                  clear hK hHeld hH
                  generalize hwz : World.setRow yn gH (tabv (addU (I : Int) am h).v 36) = wz at bF rF ⊢
                  clear hwz
                  refine wpAnyH_done (by kernel_rfl) ?_ _
                  refine NoPanic.normal ?_
                  go_wp2
                  go_meet
                  exact ⟨_, rfl, rF, bF⟩
              case rest =>
              obtain ⟨g, rfl, rU, hb⟩ := hcut
              generalize wc = yz at rU hb ⊢
              have RU := hide rU
              clear rU
              have Ryz_s := hide (Ry3_s.out.below hb Ry3_s.out.lt)
              have Ryz_h := hide (Ry3_h.out.below hb Ry3_h.out.lt)
              have Ryz_r := hide (Ry3_r.out.below hb Ry3_r.out.lt)
              have Gyz := hide (Gy3.out.trans (hb.mono Gy3.out.size))
              clear hb
              go_wp2_with (first | refine wpW_load_at 34 _ rfl (g) (0) (by rfl) (by rfl) _ 36 _ (RU.out.at_ 0 (by omega) (fun i hi => by rw [Nat.zero_add])) Tryz.underlying34 rfl infoU ?_ | refine wpW_build (by rfl) 42 #[(0, .const (.int .i64 1)), (1, .tmp 48)] rfl [(0, .int .i64 1), (1, .agg (tabv (addU (I : Int) am h).v 36))] (by first | rfl | (simp [Act.eval, Act.put]; done)) _ (builtRU _) ?_ | refine wpList_storeRc rfl _ _ rfl rfl (w2.heap.size) ((oursR (addU (I : Int) am h))) rfl rfl _ Ryz_r.out ?_ | fail)
              (try simp only [Exit.inBlock, Exit.then])
              exact bodyPost_ret (resRc _ (w2.heap.size) _ _ (.int .i64 0) 6 7 (Ryz_r.out.row _ (Rc.v (oursR (addU (I : Int) am h))) rfl) rfl rfl _ rfl) rfl ⟨by first | rfl | (simp only [*]; rfl) | (simp [*]; done), below_setRow Gyz.out (by first | omega | exact LB_r) _⟩
end Go.Proofs.YtmmcoedgoekhgaaGreatDoor
/-
  signedText, ownText of the code: parts (printed by gen_d9.py).
-/
namespace Go.Proofs.YtmmcoedgoekhgaaGreatDoor
open Go.RowKit S
set_option linter.unusedVariables false
set_option linter.unusedSimpArgs false
theorem kasg {o : Oper} {a : Act} (w : World) (x : Operand) (v : Value) (ho : o.op = .assign x) (hx : a.eval x = v) : (execOp a.eval o).run Tryz.prog w = .ok (.value v) w := by
  unfold execOp
  simp only [ho, hx]
  rfl
theorem kext0 {o : Oper} {a : Act} (w : World) (x : Operand) (u v : Value) (ho : o.op = .extract x 0) (hx : a.eval x = .tuple #[u, v]) : (execOp a.eval o).run Tryz.prog w = .ok (.value u) w := by
  unfold execOp
  simp only [ho, hx]
  rfl
theorem kext1 {o : Oper} {a : Act} (w : World) (x : Operand) (u v : Value) (ho : o.op = .extract x 1) (hx : a.eval x = .tuple #[u, v]) : (execOp a.eval o).run Tryz.prog w = .ok (.value v) w := by
  unfold execOp
  simp only [ho, hx]
  rfl
theorem infoLg : (Tryz.prog.info? 143).map (·.size) = some 3 := by kernel_rfl
theorem fold_len (bO bP : Int) (mine others : List Upd) (fO fP : Int) (h1 : mine.length ≤ 1955000000000) (h2 : others.length ≤ 1955000000000) : (foldA bO bP mine others fO fP).l.length ≤ 3910000000000 := by
  have ff : ∀ (a b : List Upd), a.length ≤ 1955000000000 → b.length ≤ 1955000000000 → (foldL a b).length ≤ 3910000000000 := fun a b h1 h2 => by
    unfold foldL
    have e1 := opens_len true b a
    have e2 := opens_len false a b
    rw [List.length_append, sortP_length, sortP_length]
    omega
  unfold foldA
  split
  · simp
  · split
    · simp
    · split
      · simp
      · split
        · simp
        · exact ff _ _ (by rw [List.length_take]; omega) (by rw [List.length_take]; omega)
theorem turn_len (l : List Pen) : (turnP l).length = l.length := by
  unfold turnP
  rw [List.length_append, List.length_map, List.length_map]
  induction l with
  | nil => rfl
  | cons p l ih => cases h : p.ours <;> simp [h] at ih ⊢ <;> omega
theorem newLd (w : World) (x y : Int) (v : Value) : ∃ V1 V2, w.alloc (.cells #[.int .i64 0, .int .i64 0, .slice none 0 0] 143) = V1 ∧ Has V1 w.heap.size 143 (ledv 0 0 (.slice none 0 0)) 3 ∧ V1.setRow w.heap.size (tabv (ledv x y v) 3) = V2 ∧ Has V2 w.heap.size 143 (ledv x y v) 3 ∧ Below w.heap.size w V2 := by
  have q1 : Has (w.alloc (.cells #[.int .i64 0, .int .i64 0, .slice none 0 0] 143)) w.heap.size 143 (ledv 0 0 (.slice none 0 0)) 3 := Has.new w _ _ 3 _ rfl
  have b1 : Below w.heap.size w (w.alloc (.cells #[.int .i64 0, .int .i64 0, .slice none 0 0] 143)) := (Below.refl w.heap.size w).alloc (Nat.le_refl _) _
  exact ⟨_, _, rfl, q1, rfl, q1.row _ _ rfl, below_setRow b1 (Nat.le_refl _) _⟩
theorem newHs (w : World) (h : Nat → UInt8) : ∃ V1 V2, w.alloc (.cells (tabv (fun _ => (.int .u8 0 : Value)) 32) 23) = V1 ∧ Has V1 w.heap.size 23 (fun _ => .int .u8 0) 32 ∧ V1.setRow w.heap.size (tabv (bv h) 32) = V2 ∧ Has V2 w.heap.size 23 (bv h) 32 ∧ Below w.heap.size w V2 := by
  have q1 : Has (w.alloc (.cells (tabv (fun _ => (.int .u8 0 : Value)) 32) 23)) w.heap.size 23 (fun _ => .int .u8 0) 32 := Has.new w _ _ 32 _ rfl
  have b1 : Below w.heap.size w (w.alloc (.cells (tabv (fun _ => (.int .u8 0 : Value)) 32) 23)) := (Below.refl w.heap.size w).alloc (Nat.le_refl _) _
  exact ⟨_, _, rfl, q1, rfl, q1.row _ _ rfl, below_setRow b1 (Nat.le_refl _) _⟩
theorem wpList_storeHs {ops : Array Oper} {rest : List Oper} {o : Oper} {a : Act} {w : World} {Q : Exit → Act → World → Prop} (hgd : o.guard = none) (x y : Operand) (ho : o.op = .store 23 x y) (hd : o.dst = none) (g : Nat) (s : Nat → UInt8) (hx : a.eval x = .pointer (some ⟨g, 0, none⟩)) (hy : a.eval y = .agg (tabv (bv s) 32)) (f : Nat → Value) (hg : Has w g 23 f 32)
    (hk : wpList Tryz.prog ops Q rest a (w.setRow g (tabv (bv s) 32))) : wpList Tryz.prog ops Q (o :: rest) a w :=
  wpList_store_part hgd 23 x y ho hd g 0 (bv s) 32 hx hy 23 f 32 hg (by omega) info26 (fun i _ => rfl) (bv s) (fun i hi => by unfold splice; rw [if_pos (by omega), Nat.sub_zero]) hk
/-- What a text's call answers: no ledger, no text; else commit's. -/
structure TX (F : FA) (oo nn : Int) (h : Nat → UInt8) (x y : Int) (l : List Pen) (b : ByteArray) (c : Int) : Prop where
  no : F.e ≠ 0 → b = nilB ∧ c = F.e
  yes : F.e = 0 → TA oo nn h x y l b c
end Go.Proofs.YtmmcoedgoekhgaaGreatDoor
/-
  MESSAGES (picked out of msg's texts by mkmsg.sh).
-/
namespace Go.Proofs.YtmmcoedgoekhgaaGreatDoor
open Go.RowKit S
set_option linter.unusedVariables false
set_option linter.unusedSimpArgs false
structure Msg where
  kind : Int
  id : Int
  amt : Int
  idx : Int
  nxt : Int
  hash : Nat → UInt8
  sec : Nat → UInt8
  note : ByteArray
def z32 : Nat → UInt8 := fun _ => 0
def Msg.v (s : Msg) : Nat → Value := fun i => if i = 0 then .int .i64 s.kind else if i = 1 then .int .i64 s.id else if i = 2 then .int .i64 s.amt else if i = 3 then .int .i64 s.idx else if i = 4 then .int .i64 s.nxt else if i < 37 then .int .u8 ((s.hash (i - 5)).toNat : Int) else if i < 69 then .int .u8 ((s.sec (i - 37)).toNat : Int) else .string s.note
def Msg.zero : Msg := ⟨0, 0, 0, 0, 0, z32, z32, nilB⟩
theorem Msg.v_kind (s : Msg) : s.v 0 = .int .i64 s.kind := rfl
theorem Msg.v_id (s : Msg) : s.v 1 = .int .i64 s.id := rfl
theorem Msg.v_amt (s : Msg) : s.v 2 = .int .i64 s.amt := rfl
theorem Msg.v_note (s : Msg) : s.v 69 = .string s.note := rfl
theorem Msg.v_hash (s : Msg) (i : Nat) (hi : i < 32) : s.v (5 + i) = bv s.hash i := by
  unfold Msg.v bv
  rw [if_neg (by omega), if_neg (by omega), if_neg (by omega), if_neg (by omega), if_neg (by omega), if_pos (by omega), show 5 + i - 5 = i by omega]
theorem Msg.v_sec (s : Msg) (i : Nat) (hi : i < 32) : s.v (37 + i) = bv s.sec i := by
  unfold Msg.v bv
  rw [if_neg (by omega), if_neg (by omega), if_neg (by omega), if_neg (by omega), if_neg (by omega), if_neg (by omega), if_pos (by omega), show 37 + i - 37 = i by omega]
theorem oneM (s : Msg) (i : Nat) : (s.v i).oneCell' = true := by
  unfold Msg.v
  repeat' split
  all_goals rfl
theorem infoM : (Tryz.prog.info? 36).map (·.size) = some 70 := by kernel_rfl
section
variable {ops : Array Oper} {rest : List Oper} {o : Oper} {a : Act} {w : World} {Q : Exit → Act → World → Prop}
theorem wpList_storeM (hgd : o.guard = none) (x y : Operand) (ho : o.op = .store 36 x y) (hd : o.dst = none) (g : Nat) (s : Msg) (hx : a.eval x = .pointer (some ⟨g, 0, none⟩)) (hy : a.eval y = .agg (tabv s.v 70)) (f : Nat → Value) (hg : Has w g 36 f 70)
    (hk : wpList Tryz.prog ops Q rest a (w.setRow g (tabv s.v 70))) : wpList Tryz.prog ops Q (o :: rest) a w :=
  wpList_store_part hgd 36 x y ho hd g 0 s.v 70 hx hy 36 f 70 hg (by omega) infoM (fun i _ => oneM s i) s.v (fun i hi => by unfold splice; rw [if_pos (by omega), Nat.sub_zero]) hk
end
theorem zero70 : Tryz.zeroCells36 = tabv Msg.zero.v 70 := by kernel_rfl
end Go.Proofs.YtmmcoedgoekhgaaGreatDoor
