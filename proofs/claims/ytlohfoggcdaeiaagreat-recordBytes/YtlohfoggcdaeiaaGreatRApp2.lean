/-
  What a revocation makes of a state (printed by gen_r8.py, gen_r8d.py).
-/
import Derived.Test.YtlohfoggcdaeiaaGreatRApp
import Derived.BigQuiet
import Derived.Deep.QuietTactic
namespace Go.Proofs.YtlohfoggcdaeiaaGreat
open Go.RowKit S
set_option linter.unusedVariables false
set_option linter.unusedSimpArgs false
open Cu (nb be hl ofL CW Mw CR Mr RS takeS takeA hOf nil8 num doneS)
def rvOk [Inhabited S.Tbl] (s : St) (ls : List Slot) (x : Int) (h : Nat → UInt8) : Bool := (s.rem == wrap64 (s.ack + 1)) && ((x == s.ack) && ((putA ls x h).2 == 0))
theorem run_buildP {o : Oper} {a : Act} (w : World) (T : TypeId) (ps : Array (Nat × Operand)) (ho : o.op = .build T ps) (vals : List (Nat × Value)) (he : (ps.map fun (i, y) => (i, a.eval y)).toList = vals) (cs : Array Value) (hb : Tryz.prog.built T vals = some cs) : (execOp a.eval o).run Tryz.prog w = .ok (.value (.agg cs)) w := by
  unfold execOp
  simp only [ho, Sem.run_bind, run_build w T _ cs (by rw [he]; exact hb), Result.andThen_ok]
  rfl
theorem builtPt (a b : Nat → UInt8) : Tryz.prog.built 28 [(0, .agg (tabv (bv a) 32)), (1, .agg (tabv (bv b) 32))] = some (tabv (pv a b) 64) := by kernel_rfl
theorem infoPt : (Tryz.prog.info? 28).map (·.size) = some 64 := by kernel_rfl
theorem onePv (a b : Nat → UInt8) (i : Nat) : (pv a b i).oneCell' = true := by unfold pv; split <;> rfl
set_option maxRecDepth 100000 in
set_option maxHeartbeats 40000000 in
theorem aRevoked_no [Inhabited S.Tbl] (x : Int) (h k : Nat → UInt8) (B p z : Nat) (s : St) (lo lp : List Upd) (ls : List Slot) (w : World) (hA : AB B p z s lo lp ls w) (hG : Glob num w) (h2B : 2 ≤ B) (hok : rvOk s ls x h = false) : Calls Tryz.prog 163 #[.agg (tabv (Rv.v ⟨x, h, k⟩) 65), .pointer (some ⟨p, 0, none⟩)] w fun e w' => e = .returned (.bool (rvOk s ls x h)) ∧ Below B w w' ∧ Has w' z 31 St.zero.v 115 := by
  by_cases h1 : s.rem = wrap64 (s.ack + 1)
  · by_cases h2 : x = s.ack
    · have h3 : (putA ls x h).2 ≠ 0 := fun e => by
        have : rvOk s ls x h = true := by unfold rvOk; rw [e, h2, ← h1]; simp
        rw [this] at hok
        cases hok
      rw [hok]
      obtain ⟨w1, hW1⟩ : ∃ wX, w.alloc (.cells (tabv (Rv.v ⟨x, h, k⟩) 65) 105) = wX := ⟨_, rfl⟩
      have r1 : Has w1 w.heap.size 105 (Rv.v ⟨x, h, k⟩) 65 := by rw [← hW1]; exact Has.new w 105 (Rv.v ⟨x, h, k⟩) 65 _ rfl
      have b1 : Below w.heap.size w w1 := by rw [← hW1]; exact (Below.refl w.heap.size w).alloc (Nat.le_refl _) _
      have A1 := hA.low b1
      have g1 : Below B w w1 := b1.mono hA.size
      have hne : w.heap.size ≠ p := by have := hA.st.lt; omega
      obtain ⟨R, hR⟩ : ∃ R, wrap64 (s.ack + 1) = R := ⟨_, rfl⟩
      have c0 : w1.cell? ⟨w.heap.size, 0, none⟩ = some (.int .i64 x) := r1.cell 0 (by omega)
      have d7 : w1.cell? ⟨p, 7, none⟩ = some (.int .i64 s.rem) := A1.st.cell 7 (by omega)
      have d8 : w1.cell? ⟨p, 8, none⟩ = some (.int .i64 s.ack) := A1.st.cell 8 (by omega)
      have q1 : (s.rem != R) = false := by rw [← hR, h1]; exact bne_self_eq_false _
      have q2 : (x != s.ack) = false := by rw [h2]; exact bne_self_eq_false _
      have HX := hide h2
      clear h1 h2
      clear hok
      obtain ⟨E, hE⟩ : ∃ E, putA ls x h = E := ⟨_, rfl⟩
      have HP := hide (fun (wx : World) (hb : Below B w wx) (hS : Slots wx s.shelf.ad ls) => put_any s.shelf.ad s.shelf.n s.shelf.c ls hA.os.f.sl.1 x h wx (hG.below hb h2B) hS)
      rw [hE] at HP h3
      obtain ⟨E1, E2⟩ := E
      have HE := hide hE
      clear hE hG
      have HP : Hid (∀ (wx : World), Below B w wx → Slots wx s.shelf.ad ls → Calls Tryz.prog 166 #[.slice s.shelf.ad s.shelf.n s.shelf.c, .int .i64 x, .agg (tabv (bv h) 32)] wx fun e w' => (∃ v, e = .returned (.tuple #[v, .int .i64 E2]) ∧ OwnS wx.heap.size w' v E1) ∧ Below wx.heap.size wx w') := HP.out
      have h3 : E2 ≠ 0 := h3
      have q3 : (E2 != 0) = true := bne_iff_ne.2 h3
      clear h3
      go_enter Tryz.func163, Tryz.ntmps163
      go_wp2
      go_quiet (fail)
      have A2 := A1.low (belowD (Below.refl _ _) nq)
      have g2 := belowD g1 nq
      have r2 := r1.below (belowD (Below.refl w1.heap.size w1) nq) r1.lt
      generalize w1.drewN nq = w2 at A2 g2 r2 ⊢
      clear c0 d7 d8 hW1 hR q1 q2
      go_wp2
      refine wp_region_noPanic ?_
      refine wp_region_held_drew (S := fun wx => Below w2.heap.size w2 wx) (by kernel_rfl) ((Below.refl _ _).drew) (fun hHeld => ?_)
      generalize hwd : World.drew w2 = wd at hHeld ⊢
      refine Cu.takeH 0 (some 27) (.pointer (some ⟨p, 0, none⟩)) rfl rfl (by kernel_rfl) (by kernel_rfl) (by kernel_rfl) (fun _ _ _ h => h) (by rfl) (fun w_ hw => by first | rfl | (go_simp; done) | (go_simp; rfl) | (go_simp; omega)) hHeld ?_
      simp only [Act.put, List.setIfInBounds_toArray, List.set_cons_zero, List.set_cons_succ]
      refine Cu.takeH 1 (some 28) (.pointer (some ⟨p, 0, none⟩)) rfl rfl (by kernel_rfl) (by kernel_rfl) (by kernel_rfl) (fun _ _ _ h => h) (by rfl) (fun w_ hw => by first | rfl | (go_simp; done) | (go_simp; rfl) | (go_simp; omega)) hHeld ?_
      simp only [Act.put, List.setIfInBounds_toArray, List.set_cons_zero, List.set_cons_succ]
      refine Cu.takeH 2 (some 29) (.pointer (some ⟨p, 112, none⟩)) rfl rfl (by kernel_rfl) (by kernel_rfl) (by kernel_rfl) (fun _ _ _ h => h) (by rfl) (fun w_ hw => by first | rfl | (go_simp; done) | (go_simp; rfl) | (go_simp; omega)) hHeld ?_
      simp only [Act.put, List.setIfInBounds_toArray, List.set_cons_zero, List.set_cons_succ]
      refine Cu.takeH 3 (some 30) (.slice s.shelf.ad s.shelf.n s.shelf.c) rfl rfl (by kernel_rfl) (by kernel_rfl) (by kernel_rfl) (fun _ _ _ h => h) (by rfl) (fun w_ hw => by have c : World.cell? _ ⟨p, 112, none⟩ = some (.slice s.shelf.ad s.shelf.n s.shelf.c) := (A2.low hw).st.cell 112 (by omega); first | rfl | (go_simp; done) | (go_simp; rfl) | (go_simp; omega)) hHeld ?_
      simp only [Act.put, List.setIfInBounds_toArray, List.set_cons_zero, List.set_cons_succ]
      refine Cu.takeH 4 (some 31) (.pointer (some ⟨w.heap.size, 0, none⟩)) rfl rfl (by kernel_rfl) (by kernel_rfl) (by kernel_rfl) (fun _ _ _ h => h) (by rfl) (fun w_ hw => by first | rfl | (go_simp; done) | (go_simp; rfl) | (go_simp; omega)) hHeld ?_
      simp only [Act.put, List.setIfInBounds_toArray, List.set_cons_zero, List.set_cons_succ]
      refine Cu.takeH 5 (some 32) (.int .i64 x) rfl rfl (by kernel_rfl) (by kernel_rfl) (by kernel_rfl) (fun _ _ _ h => h) (by rfl) (fun w_ hw => by have c : World.cell? _ ⟨w.heap.size, 0, none⟩ = some (.int .i64 x) := (r2.below hw r2.lt).cell 0 (by omega); first | rfl | (go_simp; done) | (go_simp; rfl) | (go_simp; omega)) hHeld ?_
      simp only [Act.put, List.setIfInBounds_toArray, List.set_cons_zero, List.set_cons_succ]
      refine Cu.takeH 6 (some 33) (.pointer (some ⟨w.heap.size, 1, none⟩)) rfl rfl (by kernel_rfl) (by kernel_rfl) (by kernel_rfl) (fun _ _ _ h => h) (by rfl) (fun w_ hw => by first | rfl | (go_simp; done) | (go_simp; rfl) | (go_simp; omega)) hHeld ?_
      simp only [Act.put, List.setIfInBounds_toArray, List.set_cons_zero, List.set_cons_succ]
      refine Cu.takeH 7 (some 34) (.agg (tabv (bv h) 32)) rfl rfl (by kernel_rfl) (by kernel_rfl) (by kernel_rfl) (fun _ _ _ h => h) (by rfl) (fun w_ hw => run_load_at w_ 25 _ rfl (w.heap.size) 1 (by rfl) _ 32 _ (fun j hj => by rw [(r2.below hw r2.lt).cell (1 + j) (by omega)]; exact congrArg some (Rv.v_h _ j hj)) Tryz.underlying25 rfl info26) hHeld ?_
      simp only [Act.put, List.setIfInBounds_toArray, List.set_cons_zero, List.set_cons_succ]
      refine wpAnyH_ready (rs := [8]) (by kernel_rfl) (by simp) (AllReadyH.cons rfl (fun K hK => ?_) AllReadyH.nil)
      rw [if_pos (by rfl)]
      go_simp
      refine (HP.out _ (g2.trans (hHeld.mono A2.size)) (A2.low hHeld).os.f.sl.2.1).mono ?_
      rintro e wf ⟨⟨v5, rfl, O5⟩, hbq⟩
      obtain ⟨x5, rfl⟩ := slOfS O5
      have hx5 : ∀ k, x5.v.ownBlock = some k → w2.heap.size ≤ k := fun k hk => Nat.le_trans hHeld.size (O5.lt k hk).1
      have O5' : OwnS w2.heap.size wf x5.v E1 := O5.mono hHeld.size
      clear O5
      simp only [Sl.v]
      try go_wp2_with fail
      refine hK.out _ _ (hHeld.trans (hbq.mono hHeld.size)) (fun hH => ?_)
      clear hK K hHeld
      have hHeld := hH
      clear hH
      refine Cu.takeH 9 (some 26) (.tuple #[.slice x5.ad x5.n x5.c, .int .i64 E2]) rfl rfl (by kernel_rfl) (by kernel_rfl) (by kernel_rfl) (fun _ _ _ h => h) (by rfl) (fun w_ hw => by first | rfl | (go_simp; done) | (go_simp; rfl) | (go_simp; omega)) hHeld ?_
      simp only [Act.put, List.setIfInBounds_toArray, List.set_cons_zero, List.set_cons_succ]
      refine Cu.takeH 10 (some 36) (.slice x5.ad x5.n x5.c) rfl rfl (by kernel_rfl) (by kernel_rfl) (by kernel_rfl) (fun _ _ _ h => h) (by rfl) (fun w_ hw => by first | rfl | (go_simp; done) | (go_simp; rfl) | (go_simp; omega)) hHeld ?_
      simp only [Act.put, List.setIfInBounds_toArray, List.set_cons_zero, List.set_cons_succ]
      refine Cu.takeH 11 (some 37) (.int .i64 E2) rfl rfl (by kernel_rfl) (by kernel_rfl) (by kernel_rfl) (fun _ _ _ h => h) (by rfl) (fun w_ hw => by first | rfl | (go_simp; done) | (go_simp; rfl) | (go_simp; omega)) hHeld ?_
      simp only [Act.put, List.setIfInBounds_toArray, List.set_cons_zero, List.set_cons_succ]
      refine Cu.takeH 12 (some 5) (.slice x5.ad x5.n x5.c) rfl rfl (by kernel_rfl) (by kernel_rfl) (by kernel_rfl) (fun _ _ _ h => h) (by rfl) (fun w_ hw => by first | rfl | (go_simp; done) | (go_simp; rfl) | (go_simp; omega)) hHeld ?_
      simp only [Act.put, List.setIfInBounds_toArray, List.set_cons_zero, List.set_cons_succ]
      refine Cu.takeH 13 (some 6) (.int .i64 E2) rfl rfl (by kernel_rfl) (by kernel_rfl) (by kernel_rfl) (fun _ _ _ h => h) (by rfl) (fun w_ hw => by first | rfl | (go_simp; done) | (go_simp; rfl) | (go_simp; omega)) hHeld ?_
      simp only [Act.put, List.setIfInBounds_toArray, List.set_cons_zero, List.set_cons_succ]
      refine ⟨by kernel_rfl, ?_⟩
      refine NoPanic.normal ?_
      have A3 := A2.low hHeld
      have r3 := r2.below hHeld r2.lt
      have g3 : Below B w wf := g2.trans (hHeld.mono A2.size)
      have hs3 := hHeld.size
      have hC : ∀ k, x5.v.ownBlock = some k → k ≠ p ∧ s.ours.v.ownBlock ≠ some k ∧ s.peers.v.ownBlock ≠ some k ∧ k ≠ z := fun k hk => by
        have h1 := hx5 k hk
        refine ⟨fun e => ?_, fun e => ?_, fun e => ?_, fun e => ?_⟩
        · have := A2.st.lt; omega
        · have := (A2.os.o.lt k e).2; omega
        · have := (A2.os.p.lt k e).2; omega
        · have := A2.kp.lt; omega
      clear hHeld hwd HP hbq
      go_wp2
      go_ret
      exact ⟨rfl, g3, A3.kp⟩
    · rw [hok]
      obtain ⟨w1, hW1⟩ : ∃ wX, w.alloc (.cells (tabv (Rv.v ⟨x, h, k⟩) 65) 105) = wX := ⟨_, rfl⟩
      have r1 : Has w1 w.heap.size 105 (Rv.v ⟨x, h, k⟩) 65 := by rw [← hW1]; exact Has.new w 105 (Rv.v ⟨x, h, k⟩) 65 _ rfl
      have b1 : Below w.heap.size w w1 := by rw [← hW1]; exact (Below.refl w.heap.size w).alloc (Nat.le_refl _) _
      have A1 := hA.low b1
      have g1 : Below B w w1 := b1.mono hA.size
      have hne : w.heap.size ≠ p := by have := hA.st.lt; omega
      obtain ⟨R, hR⟩ : ∃ R, wrap64 (s.ack + 1) = R := ⟨_, rfl⟩
      have c0 : w1.cell? ⟨w.heap.size, 0, none⟩ = some (.int .i64 x) := r1.cell 0 (by omega)
      have d7 : w1.cell? ⟨p, 7, none⟩ = some (.int .i64 s.rem) := A1.st.cell 7 (by omega)
      have d8 : w1.cell? ⟨p, 8, none⟩ = some (.int .i64 s.ack) := A1.st.cell 8 (by omega)
      have q1 : (s.rem != R) = false := by rw [← hR, h1]; exact bne_self_eq_false _
      have q2 : (x != s.ack) = true := bne_iff_ne.2 h2
      clear h1 h2
      clear hok
      clear hG
      go_enter Tryz.func163, Tryz.ntmps163
      go_wp2
      go_quiet (fail)
      have A2 := A1.low (belowD (Below.refl _ _) nq)
      have g2 := belowD g1 nq
      have r2 := r1.below (belowD (Below.refl w1.heap.size w1) nq) r1.lt
      generalize w1.drewN nq = w2 at A2 g2 r2 ⊢
      clear c0 d7 d8 hW1 hR q1 q2
      go_wp2
      go_ret
      exact ⟨rfl, g2, A2.kp⟩
  · rw [hok]
    obtain ⟨w1, hW1⟩ : ∃ wX, w.alloc (.cells (tabv (Rv.v ⟨x, h, k⟩) 65) 105) = wX := ⟨_, rfl⟩
    have r1 : Has w1 w.heap.size 105 (Rv.v ⟨x, h, k⟩) 65 := by rw [← hW1]; exact Has.new w 105 (Rv.v ⟨x, h, k⟩) 65 _ rfl
    have b1 : Below w.heap.size w w1 := by rw [← hW1]; exact (Below.refl w.heap.size w).alloc (Nat.le_refl _) _
    have A1 := hA.low b1
    have g1 : Below B w w1 := b1.mono hA.size
    have hne : w.heap.size ≠ p := by have := hA.st.lt; omega
    obtain ⟨R, hR⟩ : ∃ R, wrap64 (s.ack + 1) = R := ⟨_, rfl⟩
    have c0 : w1.cell? ⟨w.heap.size, 0, none⟩ = some (.int .i64 x) := r1.cell 0 (by omega)
    have d7 : w1.cell? ⟨p, 7, none⟩ = some (.int .i64 s.rem) := A1.st.cell 7 (by omega)
    have d8 : w1.cell? ⟨p, 8, none⟩ = some (.int .i64 s.ack) := A1.st.cell 8 (by omega)
    have q1 : (s.rem != R) = true := by rw [← hR]; exact bne_iff_ne.2 h1
    clear h1
    clear hok
    clear hG
    go_enter Tryz.func163, Tryz.ntmps163
    go_wp2
    go_quiet (fail)
    have A2 := A1.low (belowD (Below.refl _ _) nq)
    have g2 := belowD g1 nq
    have r2 := r1.below (belowD (Below.refl w1.heap.size w1) nq) r1.lt
    generalize w1.drewN nq = w2 at A2 g2 r2 ⊢
    clear c0 d7 d8 hW1 hR q1
    go_wp2
    go_ret
    exact ⟨rfl, g2, A2.kp⟩
set_option maxRecDepth 100000 in
set_option maxHeartbeats 40000000 in
theorem aRevoked_yes [Inhabited S.Tbl] (x : Int) (h k : Nat → UInt8) (B p z : Nat) (s : St) (lo lp : List Upd) (ls : List Slot) (w : World) (hA : AB B p z s lo lp ls w) (hG : Glob num w) (h2B : 2 ≤ B) (hok : rvOk s ls x h = true) : Calls Tryz.prog 163 #[.agg (tabv (Rv.v ⟨x, h, k⟩) 65), .pointer (some ⟨p, 0, none⟩)] w fun e w' => e = .returned (.bool (rvOk s ls x h)) ∧ Below B w w' ∧ ∃ x5 : Sl, AB B p z ⟨s.side, s.cap, s.bo, s.bp, s.ours, s.peers, s.loc, s.rem, (wrap64 (s.ack + 1)), s.ao, s.ap, s.so, s.sp, s.so, s.sp, s.beh, s.p1, k, s.sig, x5, s.fail, s.closed⟩ lo lp (putA ls x h).1 w' := by
  have hok' := hok
  unfold rvOk at hok
  simp only [Bool.and_eq_true, beq_iff_eq] at hok
  obtain ⟨h1, h2, h3⟩ := hok
  rw [hok']
  clear hok'
  obtain ⟨w1, hW1⟩ : ∃ wX, w.alloc (.cells (tabv (Rv.v ⟨x, h, k⟩) 65) 105) = wX := ⟨_, rfl⟩
  have r1 : Has w1 w.heap.size 105 (Rv.v ⟨x, h, k⟩) 65 := by rw [← hW1]; exact Has.new w 105 (Rv.v ⟨x, h, k⟩) 65 _ rfl
  have b1 : Below w.heap.size w w1 := by rw [← hW1]; exact (Below.refl w.heap.size w).alloc (Nat.le_refl _) _
  have A1 := hA.low b1
  have g1 : Below B w w1 := b1.mono hA.size
  have hne : w.heap.size ≠ p := by have := hA.st.lt; omega
  obtain ⟨R, hR⟩ : ∃ R, wrap64 (s.ack + 1) = R := ⟨_, rfl⟩
  have c0 : w1.cell? ⟨w.heap.size, 0, none⟩ = some (.int .i64 x) := r1.cell 0 (by omega)
  have d7 : w1.cell? ⟨p, 7, none⟩ = some (.int .i64 s.rem) := A1.st.cell 7 (by omega)
  have d8 : w1.cell? ⟨p, 8, none⟩ = some (.int .i64 s.ack) := A1.st.cell 8 (by omega)
  have q1 : (s.rem != R) = false := by rw [← hR, h1]; exact bne_self_eq_false _
  have q2 : (x != s.ack) = false := by rw [h2]; exact bne_self_eq_false _
  have HX := hide h2
  clear h1 h2
  obtain ⟨E, hE⟩ : ∃ E, putA ls x h = E := ⟨_, rfl⟩
  have HP := hide (fun (wx : World) (hb : Below B w wx) (hS : Slots wx s.shelf.ad ls) => put_any s.shelf.ad s.shelf.n s.shelf.c ls hA.os.f.sl.1 x h wx (hG.below hb h2B) hS)
  rw [hE] at HP h3
  obtain ⟨E1, E2⟩ := E
  have HE := hide hE
  clear hE hG
  have HP : Hid (∀ (wx : World), Below B w wx → Slots wx s.shelf.ad ls → Calls Tryz.prog 166 #[.slice s.shelf.ad s.shelf.n s.shelf.c, .int .i64 x, .agg (tabv (bv h) 32)] wx fun e w' => (∃ v, e = .returned (.tuple #[v, .int .i64 E2]) ∧ OwnS wx.heap.size w' v E1) ∧ Below wx.heap.size wx w') := HP.out
  have h3 : E2 = 0 := h3
  have q3 : (E2 != 0) = false := by rw [h3]; rfl
  subst h3
  go_enter Tryz.func163, Tryz.ntmps163
  go_wp2
  go_quiet (fail)
  have A2 := A1.low (belowD (Below.refl _ _) nq)
  have g2 := belowD g1 nq
  have r2 := r1.below (belowD (Below.refl w1.heap.size w1) nq) r1.lt
  generalize w1.drewN nq = w2 at A2 g2 r2 ⊢
  clear c0 d7 d8 hW1 hR q1 q2
  go_wp2
  refine wp_region_noPanic ?_
  refine wp_region_held_drew (S := fun wx => Below w2.heap.size w2 wx) (by kernel_rfl) ((Below.refl _ _).drew) (fun hHeld => ?_)
  generalize hwd : World.drew w2 = wd at hHeld ⊢
  refine Cu.takeH 0 (some 27) (.pointer (some ⟨p, 0, none⟩)) rfl rfl (by kernel_rfl) (by kernel_rfl) (by kernel_rfl) (fun _ _ _ h => h) (by rfl) (fun w_ hw => by first | rfl | (go_simp; done) | (go_simp; rfl) | (go_simp; omega)) hHeld ?_
  simp only [Act.put, List.setIfInBounds_toArray, List.set_cons_zero, List.set_cons_succ]
  refine Cu.takeH 1 (some 28) (.pointer (some ⟨p, 0, none⟩)) rfl rfl (by kernel_rfl) (by kernel_rfl) (by kernel_rfl) (fun _ _ _ h => h) (by rfl) (fun w_ hw => by first | rfl | (go_simp; done) | (go_simp; rfl) | (go_simp; omega)) hHeld ?_
  simp only [Act.put, List.setIfInBounds_toArray, List.set_cons_zero, List.set_cons_succ]
  refine Cu.takeH 2 (some 29) (.pointer (some ⟨p, 112, none⟩)) rfl rfl (by kernel_rfl) (by kernel_rfl) (by kernel_rfl) (fun _ _ _ h => h) (by rfl) (fun w_ hw => by first | rfl | (go_simp; done) | (go_simp; rfl) | (go_simp; omega)) hHeld ?_
  simp only [Act.put, List.setIfInBounds_toArray, List.set_cons_zero, List.set_cons_succ]
  refine Cu.takeH 3 (some 30) (.slice s.shelf.ad s.shelf.n s.shelf.c) rfl rfl (by kernel_rfl) (by kernel_rfl) (by kernel_rfl) (fun _ _ _ h => h) (by rfl) (fun w_ hw => by have c : World.cell? _ ⟨p, 112, none⟩ = some (.slice s.shelf.ad s.shelf.n s.shelf.c) := (A2.low hw).st.cell 112 (by omega); first | rfl | (go_simp; done) | (go_simp; rfl) | (go_simp; omega)) hHeld ?_
  simp only [Act.put, List.setIfInBounds_toArray, List.set_cons_zero, List.set_cons_succ]
  refine Cu.takeH 4 (some 31) (.pointer (some ⟨w.heap.size, 0, none⟩)) rfl rfl (by kernel_rfl) (by kernel_rfl) (by kernel_rfl) (fun _ _ _ h => h) (by rfl) (fun w_ hw => by first | rfl | (go_simp; done) | (go_simp; rfl) | (go_simp; omega)) hHeld ?_
  simp only [Act.put, List.setIfInBounds_toArray, List.set_cons_zero, List.set_cons_succ]
  refine Cu.takeH 5 (some 32) (.int .i64 x) rfl rfl (by kernel_rfl) (by kernel_rfl) (by kernel_rfl) (fun _ _ _ h => h) (by rfl) (fun w_ hw => by have c : World.cell? _ ⟨w.heap.size, 0, none⟩ = some (.int .i64 x) := (r2.below hw r2.lt).cell 0 (by omega); first | rfl | (go_simp; done) | (go_simp; rfl) | (go_simp; omega)) hHeld ?_
  simp only [Act.put, List.setIfInBounds_toArray, List.set_cons_zero, List.set_cons_succ]
  refine Cu.takeH 6 (some 33) (.pointer (some ⟨w.heap.size, 1, none⟩)) rfl rfl (by kernel_rfl) (by kernel_rfl) (by kernel_rfl) (fun _ _ _ h => h) (by rfl) (fun w_ hw => by first | rfl | (go_simp; done) | (go_simp; rfl) | (go_simp; omega)) hHeld ?_
  simp only [Act.put, List.setIfInBounds_toArray, List.set_cons_zero, List.set_cons_succ]
  refine Cu.takeH 7 (some 34) (.agg (tabv (bv h) 32)) rfl rfl (by kernel_rfl) (by kernel_rfl) (by kernel_rfl) (fun _ _ _ h => h) (by rfl) (fun w_ hw => run_load_at w_ 25 _ rfl (w.heap.size) 1 (by rfl) _ 32 _ (fun j hj => by rw [(r2.below hw r2.lt).cell (1 + j) (by omega)]; exact congrArg some (Rv.v_h _ j hj)) Tryz.underlying25 rfl info26) hHeld ?_
  simp only [Act.put, List.setIfInBounds_toArray, List.set_cons_zero, List.set_cons_succ]
  refine wpAnyH_ready (rs := [8]) (by kernel_rfl) (by simp) (AllReadyH.cons rfl (fun K hK => ?_) AllReadyH.nil)
  rw [if_pos (by rfl)]
  go_simp
  refine (HP.out _ (g2.trans (hHeld.mono A2.size)) (A2.low hHeld).os.f.sl.2.1).mono ?_
  rintro e wf ⟨⟨v5, rfl, O5⟩, hbq⟩
  obtain ⟨x5, rfl⟩ := slOfS O5
  have hx5 : ∀ k, x5.v.ownBlock = some k → w2.heap.size ≤ k := fun k hk => Nat.le_trans hHeld.size (O5.lt k hk).1
  have O5' : OwnS w2.heap.size wf x5.v E1 := O5.mono hHeld.size
  clear O5
  simp only [Sl.v]
  try go_wp2_with fail
  refine hK.out _ _ (hHeld.trans (hbq.mono hHeld.size)) (fun hH => ?_)
  clear hK K hHeld
  have hHeld := hH
  clear hH
  refine Cu.takeH 9 (some 26) (.tuple #[.slice x5.ad x5.n x5.c, .int .i64 0]) rfl rfl (by kernel_rfl) (by kernel_rfl) (by kernel_rfl) (fun _ _ _ h => h) (by rfl) (fun w_ hw => by first | rfl | (go_simp; done) | (go_simp; rfl) | (go_simp; omega)) hHeld ?_
  simp only [Act.put, List.setIfInBounds_toArray, List.set_cons_zero, List.set_cons_succ]
  refine Cu.takeH 10 (some 36) (.slice x5.ad x5.n x5.c) rfl rfl (by kernel_rfl) (by kernel_rfl) (by kernel_rfl) (fun _ _ _ h => h) (by rfl) (fun w_ hw => by first | rfl | (go_simp; done) | (go_simp; rfl) | (go_simp; omega)) hHeld ?_
  simp only [Act.put, List.setIfInBounds_toArray, List.set_cons_zero, List.set_cons_succ]
  refine Cu.takeH 11 (some 37) (.int .i64 0) rfl rfl (by kernel_rfl) (by kernel_rfl) (by kernel_rfl) (fun _ _ _ h => h) (by rfl) (fun w_ hw => by first | rfl | (go_simp; done) | (go_simp; rfl) | (go_simp; omega)) hHeld ?_
  simp only [Act.put, List.setIfInBounds_toArray, List.set_cons_zero, List.set_cons_succ]
  refine Cu.takeH 12 (some 5) (.slice x5.ad x5.n x5.c) rfl rfl (by kernel_rfl) (by kernel_rfl) (by kernel_rfl) (fun _ _ _ h => h) (by rfl) (fun w_ hw => by first | rfl | (go_simp; done) | (go_simp; rfl) | (go_simp; omega)) hHeld ?_
  simp only [Act.put, List.setIfInBounds_toArray, List.set_cons_zero, List.set_cons_succ]
  refine Cu.takeH 13 (some 6) (.int .i64 0) rfl rfl (by kernel_rfl) (by kernel_rfl) (by kernel_rfl) (fun _ _ _ h => h) (by rfl) (fun w_ hw => by first | rfl | (go_simp; done) | (go_simp; rfl) | (go_simp; omega)) hHeld ?_
  simp only [Act.put, List.setIfInBounds_toArray, List.set_cons_zero, List.set_cons_succ]
  refine ⟨by kernel_rfl, ?_⟩
  refine NoPanic.normal ?_
  have A3 := A2.low hHeld
  have r3 := r2.below hHeld r2.lt
  have g3 : Below B w wf := g2.trans (hHeld.mono A2.size)
  have hs3 := hHeld.size
  have hC : ∀ k, x5.v.ownBlock = some k → k ≠ p ∧ s.ours.v.ownBlock ≠ some k ∧ s.peers.v.ownBlock ≠ some k ∧ k ≠ z := fun k hk => by
    have h1 := hx5 k hk
    refine ⟨fun e => ?_, fun e => ?_, fun e => ?_, fun e => ?_⟩
    · have := A2.st.lt; omega
    · have := (A2.os.o.lt k e).2; omega
    · have := (A2.os.p.lt k e).2; omega
    · have := A2.kp.lt; omega
  clear hHeld hwd HP hbq
  obtain ⟨y, hy⟩ : ∃ y, wrap64 (s.ack + 1) = y := ⟨_, rfl⟩
  obtain ⟨w4, hW4⟩ : ∃ zz, wf.setCell ⟨p, 112, none⟩ (.slice x5.ad x5.n x5.c) = zz := ⟨_, rfl⟩
  have A4 : AB B p z ⟨s.side, s.cap, s.bo, s.bp, s.ours, s.peers, s.loc, s.rem, s.ack, s.ao, s.ap, s.so, s.sp, s.ho, s.hp, s.beh, s.p0, s.p1, s.sig, x5, s.fail, s.closed⟩ lo lp E1 w4 := by rw [← hW4]; exact A3.shelf O5' hC A2.size
  have r4 : Has w4 w.heap.size 105 (Rv.v ⟨x, h, k⟩) 65 := by rw [← hW4]; exact r3.other _ _ hne
  have g4 : Below B w w4 := by rw [← hW4]; exact g3.setCell hA.hp _
  obtain ⟨w5, hW5⟩ : ∃ zz, w4.setCell ⟨p, 8, none⟩ (.int .i64 y) = zz := ⟨_, rfl⟩
  have A5 : AB B p z ⟨s.side, s.cap, s.bo, s.bp, s.ours, s.peers, s.loc, s.rem, y, s.ao, s.ap, s.so, s.sp, s.ho, s.hp, s.beh, s.p0, s.p1, s.sig, x5, s.fail, s.closed⟩ lo lp E1 w5 := by rw [← hW5]; exact A4.cell 8 _ (A4.st.sAck y) rfl rfl rfl
  have r5 : Has w5 w.heap.size 105 (Rv.v ⟨x, h, k⟩) 65 := by rw [← hW5]; exact r4.other _ _ hne
  have g5 : Below B w w5 := by rw [← hW5]; exact g4.setCell hA.hp _
  obtain ⟨w6, hW6⟩ : ∃ zz, w5.setRow p (tabv (St.v ⟨s.side, s.cap, s.bo, s.bp, s.ours, s.peers, s.loc, s.rem, y, s.ao, s.ap, s.so, s.sp, s.so, s.sp, s.beh, s.p0, s.p1, s.sig, x5, s.fail, s.closed⟩) 115) = zz := ⟨_, rfl⟩
  have A6 : AB B p z ⟨s.side, s.cap, s.bo, s.bp, s.ours, s.peers, s.loc, s.rem, y, s.ao, s.ap, s.so, s.sp, s.so, s.sp, s.beh, s.p0, s.p1, s.sig, x5, s.fail, s.closed⟩ lo lp E1 w6 := by rw [← hW6]; exact A5.row rfl rfl rfl
  have r6 : Has w6 w.heap.size 105 (Rv.v ⟨x, h, k⟩) 65 := by rw [← hW6]; exact r5.row_other _ _ hne
  have g6 : Below B w w6 := by rw [← hW6]; exact below_setRow g5 hA.hp _
  have d112 : wf.cell? ⟨p, 112, none⟩ = some (.slice s.shelf.ad s.shelf.n s.shelf.c) := A3.st.cell 112 (by omega)
  have f112 := A3.st.frozen 112
  have d8 : w4.cell? ⟨p, 8, none⟩ = some (.int .i64 s.ack) := A4.st.cell 8 (by omega)
  have f8 := A4.st.frozen 8
  have aC : Hid (At w5 p 11 (ctv s.so s.sp) 2) := fun j hj => by
    rw [A5.st.cell (11 + j) (by omega)]
    rcases (show j = 0 ∨ j = 1 by omega) with rfl | rfl <;> rfl
  have H5 := hide A5.st
  go_wp2_with (first | rw [hW4] | rw [hW5] | rw [hW6] | refine wpW_load_at 23 _ rfl (p) (11) (by rfl) (by rfl) _ 2 _ (aC.out) Tryz.underlying23 rfl infoC ?_ | refine wpList_store_part rfl 23 _ _ rfl rfl p 13 (ctv s.so s.sp) 2 rfl rfl 31 _ 115 H5.out (by omega) infoC (fun i _ => oneC2 _ _ i) _ (splice_cHd _ s.so s.sp) ?_ | fail)
  try rw [hW6]
  clear d112 f112 d8 f8 aC H5 hW4 hW5 hW6
  have A7 := A6.low (Below.refl w6.heap.size w6).drew
  have r7 : Has w6.drew w.heap.size 105 (Rv.v ⟨x, h, k⟩) 65 := r6
  have g7 : Below B w w6.drew := g6.drew
  obtain ⟨w7, hw7⟩ : ∃ wd, w6.drew = wd := ⟨_, rfl⟩
  rw [hw7] at A7 r7 g7
  obtain ⟨w8, hW8⟩ : ∃ zz, w7.setRow p (tabv (St.v ⟨s.side, s.cap, s.bo, s.bp, s.ours, s.peers, s.loc, s.rem, y, s.ao, s.ap, s.so, s.sp, s.so, s.sp, s.beh, s.p1, k, s.sig, x5, s.fail, s.closed⟩) 115) = zz := ⟨_, rfl⟩
  have A8 : AB B p z ⟨s.side, s.cap, s.bo, s.bp, s.ours, s.peers, s.loc, s.rem, y, s.ao, s.ap, s.so, s.sp, s.so, s.sp, s.beh, s.p1, k, s.sig, x5, s.fail, s.closed⟩ lo lp E1 w8 := by rw [← hW8]; exact A7.row rfl rfl rfl
  have g8 : Below B w w8 := by rw [← hW8]; exact below_setRow g7 hA.hp _
  have H7 := hide A7.st
  refine wp_region_noPanic ?_
  refine wp_region_T (S := fun wx => Has wx p 31 (St.v ⟨s.side, s.cap, s.bo, s.bp, s.ours, s.peers, s.loc, s.rem, y, s.ao, s.ap, s.so, s.sp, s.so, s.sp, s.beh, s.p0, s.p1, s.sig, x5, s.fail, s.closed⟩) 115 ∧ Has wx w.heap.size 105 (Rv.v ⟨x, h, k⟩) 65) 11 (by kernel_rfl) (by rw [hw7]; exact ⟨A7.st, r7⟩) (fun hHeld => ?_)
  rw [hw7] at hHeld ⊢
  refine takeT 0 (some 58) (.pointer (some ⟨p, 0, none⟩)) rfl rfl (by kernel_rfl) (by kernel_rfl) (by kernel_rfl) (by kernel_rfl) (by decide) (fun _ _ _ h => h) (by rfl) (fun w_ hw => by first | rfl | (go_simp; done) | (go_simp; rfl) | (go_simp; omega)) hHeld ?_
  simp only [Act.put, List.setIfInBounds_toArray, List.set_cons_zero, List.set_cons_succ]
  refine takeT 1 (some 59) (.pointer (some ⟨p, 0, none⟩)) rfl rfl (by kernel_rfl) (by kernel_rfl) (by kernel_rfl) (by kernel_rfl) (by decide) (fun _ _ _ h => h) (by rfl) (fun w_ hw => by first | rfl | (go_simp; done) | (go_simp; rfl) | (go_simp; omega)) hHeld ?_
  simp only [Act.put, List.setIfInBounds_toArray, List.set_cons_zero, List.set_cons_succ]
  refine takeT 2 (some 60) (.pointer (some ⟨p, 0, none⟩)) rfl rfl (by kernel_rfl) (by kernel_rfl) (by kernel_rfl) (by kernel_rfl) (by decide) (fun _ _ _ h => h) (by rfl) (fun w_ hw => by first | rfl | (go_simp; done) | (go_simp; rfl) | (go_simp; omega)) hHeld ?_
  simp only [Act.put, List.setIfInBounds_toArray, List.set_cons_zero, List.set_cons_succ]
  refine takeT 3 (some 61) (.pointer (some ⟨p, 16, none⟩)) rfl rfl (by kernel_rfl) (by kernel_rfl) (by kernel_rfl) (by kernel_rfl) (by decide) (fun _ _ _ h => h) (by rfl) (fun w_ hw => by first | rfl | (go_simp; done) | (go_simp; rfl) | (go_simp; omega)) hHeld ?_
  simp only [Act.put, List.setIfInBounds_toArray, List.set_cons_zero, List.set_cons_succ]
  refine takeT 4 (some 62) (.pointer (some ⟨p, 48, none⟩)) rfl rfl (by kernel_rfl) (by kernel_rfl) (by kernel_rfl) (by kernel_rfl) (by decide) (fun _ _ _ h => h) (by rfl) (fun w_ hw => by first | rfl | (go_simp; done) | (go_simp; rfl) | (go_simp; omega)) hHeld ?_
  simp only [Act.put, List.setIfInBounds_toArray, List.set_cons_zero, List.set_cons_succ]
  refine takeT 5 (some 63) (.agg (tabv (bv s.p1) 32)) rfl rfl (by kernel_rfl) (by kernel_rfl) (by kernel_rfl) (by kernel_rfl) (by decide) (fun _ _ _ h => h) (by rfl) (fun w_ hw => run_load_at w_ 25 _ rfl p 48 (by rfl) _ 32 _ (fun j hj => by rw [hw.1.cell (48 + j) (by omega)]; exact congrArg some (St.v_p1 _ j hj)) Tryz.underlying25 rfl info26) hHeld ?_
  simp only [Act.put, List.setIfInBounds_toArray, List.set_cons_zero, List.set_cons_succ]
  refine takeT 6 (some 64) (.pointer (some ⟨w.heap.size, 33, none⟩)) rfl rfl (by kernel_rfl) (by kernel_rfl) (by kernel_rfl) (by kernel_rfl) (by decide) (fun _ _ _ h => h) (by rfl) (fun w_ hw => by first | rfl | (go_simp; done) | (go_simp; rfl) | (go_simp; omega)) hHeld ?_
  simp only [Act.put, List.setIfInBounds_toArray, List.set_cons_zero, List.set_cons_succ]
  refine takeT 7 (some 65) (.agg (tabv (bv k) 32)) rfl rfl (by kernel_rfl) (by kernel_rfl) (by kernel_rfl) (by kernel_rfl) (by decide) (fun _ _ _ h => h) (by rfl) (fun w_ hw => run_load_at w_ 25 _ rfl (w.heap.size) 33 (by rfl) _ 32 _ (fun j hj => by rw [hw.2.cell (33 + j) (by omega)]; exact congrArg some (Rv.v_k _ j hj)) Tryz.underlying25 rfl info26) hHeld ?_
  simp only [Act.put, List.setIfInBounds_toArray, List.set_cons_zero, List.set_cons_succ]
  refine takeT 8 (some 66) (.agg (tabv (pv s.p1 k) 64)) rfl rfl (by kernel_rfl) (by kernel_rfl) (by kernel_rfl) (by kernel_rfl) (by decide) (fun _ _ _ h => h) (by rfl) (fun w_ hw => run_buildP w_ 28 _ rfl [(0, .agg (tabv (bv s.p1) 32)), (1, .agg (tabv (bv k) 32))] (by first | rfl | (simp [Act.eval]; done)) _ (builtPt s.p1 k)) hHeld ?_
  simp only [Act.put, List.setIfInBounds_toArray, List.set_cons_zero, List.set_cons_succ]
  refine readyT 9 (by kernel_rfl) rfl (by rfl) (fun K hK => ?_)
  go_simp
  refine hK.out _ _ (fun _ => hHeld) (fun hH => ?_)
  clear hHeld
  have hHeld := hH (by decide)
  clear hK K hH
  refine readyT 10 (by kernel_rfl) rfl (by rfl) (fun K hK => ?_)
  go_simp
  refine hK.out _ _ (fun _ => hHeld) (fun hH => ?_)
  clear hHeld
  have hHeld := hH (by decide)
  clear hK K hH
  refine readyT 11 (by kernel_rfl) rfl (by rfl) (fun K hK => ?_)
  refine wp_store_part 28 _ _ rfl rfl p 16 (pv s.p1 k) 64 rfl rfl 31 _ 115 H7.out (by omega) infoPt (fun i _ => onePv _ _ i) _ (splice_pts _ s.p1 k) ?_
  refine hK.out _ _ (fun x => absurd rfl x) (fun _ => ?_)
  clear hK K hHeld
  refine ⟨by kernel_rfl, ?_⟩
  refine NoPanic.normal ?_
  rw [hW8]
  try go_wp2
  go_ret
  exact ⟨rfl, g8, x5, by first | (rw [HE.out]; exact A8) | (rw [hy, HE.out]; exact A8)⟩
end Go.Proofs.YtlohfoggcdaeiaaGreat
