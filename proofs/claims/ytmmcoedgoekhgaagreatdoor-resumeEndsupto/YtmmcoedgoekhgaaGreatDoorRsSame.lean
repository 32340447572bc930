/-
  SameState of two states that say the same (printed by gen_e5.py).
-/
import Derived.Test.YtmmcoedgoekhgaaGreatDoorRsPt
import Derived.Test.YtmmcoedgoekhgaaGreatDoorDMsg
import Derived.Deep.CutRange
namespace Go.Proofs.YtmmcoedgoekhgaaGreatDoor
open Go.RowKit S
set_option linter.unusedVariables false
set_option linter.unusedSimpArgs false
theorem run_neSlot {o : Oper} {a : Act} (w : World) (x y : Operand) (s : Slot) (ho : o.op = .binOp .neq 106 x y 106) (hx : a.eval x = .agg (tabv s.v 34)) (hy : a.eval y = .agg (tabv s.v 34)) : (execOp a.eval o).run Tryz.prog w = .ok (.value (.bool false)) w := by
  have gh := guardS
  have hq : ∀ w : World, (Op.equalIn 10000 106 (.agg (tabv s.v 34)) (.agg (tabv s.v 34))).run Tryz.prog w = .ok true w := fun w => by rw [eqSD, eqSl_refl]
  unfold execOp
  simp only [ho, hx, hy]
  go_simp
set_option maxRecDepth 100000 in
set_option maxHeartbeats 40000000 in
theorem sameSt_yes (s : St) (x1 x2 x3 y1 y2 y3 : Sl) (lo lp : List Upd) (ls : List Slot) (a1 : lo.length = x1.n) (a2 : lp.length = x2.n) (a3 : ls.length = x3.n) (b1 : lo.length = y1.n) (b2 : lp.length = y2.n) (b3 : ls.length = y3.n) (z1 : lo.length ≤ 140737488351232) (z2 : lp.length ≤ 140737488351232) (z3 : ls.length ≤ 140737488351232) (w : World) (h1 : Upds w x1.ad lo) (h2 : Upds w x2.ad lp) (h3 : Slots w x3.ad ls) (k1 : Upds w y1.ad lo) (k2 : Upds w y2.ad lp) (k3 : Slots w y3.ad ls) : Calls Tryz.prog 27 #[.agg (tabv (setSl s x1 x2 x3).v 115), .agg (tabv (setSl s y1 y2 y3).v 115)] w fun e w' => e = .returned (.bool true) ∧ Below w.heap.size w w' := by
  obtain ⟨xa1, xn1, xc1⟩ := x1
  obtain ⟨xa2, xn2, xc2⟩ := x2
  obtain ⟨xa3, xn3, xc3⟩ := x3
  obtain ⟨ya1, yn1, yc1⟩ := y1
  obtain ⟨ya2, yn2, yc2⟩ := y2
  obtain ⟨ya3, yn3, yc3⟩ := y3
  simp only at a1 a2 a3 b1 b2 b3 h1 h2 h3 k1 k2 k3
  subst a1 a2 a3
  subst b1 b2 b3
  obtain ⟨w1, hW1⟩ : ∃ wX, w.alloc (.cells (tabv (setSl s ⟨xa1, lo.length, xc1⟩ ⟨xa2, lp.length, xc2⟩ ⟨xa3, ls.length, xc3⟩).v 115) 32) = wX := ⟨_, rfl⟩
  have ra : Has w1 w.heap.size 32 (setSl s ⟨xa1, lo.length, xc1⟩ ⟨xa2, lp.length, xc2⟩ ⟨xa3, ls.length, xc3⟩).v 115 := by rw [← hW1]; exact Has.new w 32 (setSl s ⟨xa1, lo.length, xc1⟩ ⟨xa2, lp.length, xc2⟩ ⟨xa3, ls.length, xc3⟩).v 115 _ rfl
  have bb : Below w.heap.size w w1 := by rw [← hW1]; exact (Below.refl w.heap.size w).alloc (Nat.le_refl _) _
  have gb : Below w.heap.size w w1 := bb
  clear bb
  obtain ⟨w2, hW2⟩ : ∃ wX, w1.alloc (.cells (tabv (setSl s ⟨ya1, lo.length, yc1⟩ ⟨ya2, lp.length, yc2⟩ ⟨ya3, ls.length, yc3⟩).v 115) 32) = wX := ⟨_, rfl⟩
  have rb : Has w2 w1.heap.size 32 (setSl s ⟨ya1, lo.length, yc1⟩ ⟨ya2, lp.length, yc2⟩ ⟨ya3, ls.length, yc3⟩).v 115 := by rw [← hW2]; exact Has.new w1 32 (setSl s ⟨ya1, lo.length, yc1⟩ ⟨ya2, lp.length, yc2⟩ ⟨ya3, ls.length, yc3⟩).v 115 _ rfl
  have bb : Below w1.heap.size w1 w2 := by rw [← hW2]; exact (Below.refl w1.heap.size w1).alloc (Nat.le_refl _) _
  have ra := ra.below bb ra.lt
  have gb : Below w.heap.size w w2 := gb.trans (bb.mono gb.size)
  clear bb
  have Rb_a := hide ra
  have Rb_b := hide rb
  have GB := hide gb
  clear gb ra rb
  have HS1 := hide (fun wx (hb : Below w.heap.size w wx) => sameUps_any xa1 ya1 lo.length xc1 yc1 lo rfl z1 wx (h1.below hb) (k1.below hb))
  have HS2 := hide (fun wx (hb : Below w.heap.size w wx) => sameUps_any xa2 ya2 lp.length xc2 yc2 lp rfl z2 wx (h2.below hb) (k2.below hb))
  have H3 := hide h3
  have K3 := hide k3
  have zi : (ls.length : Int) ≤ 140737488351232 := by omega
  clear h1 h2 h3 k1 k2 k3 z1 z2 z3
  go_enter Tryz.func27, Tryz.ntmps27
  have ca : w2.cell? ⟨w.heap.size, 112, none⟩ = some (.slice xa3 ls.length xc3) := Rb_a.out.cell 112 (by omega)
  have cb : w2.cell? ⟨w1.heap.size, 112, none⟩ = some (.slice ya3 ls.length yc3) := Rb_b.out.cell 112 (by omega)
  have hd0 : ((ls.length : Int) != (ls.length : Int)) = false := by simp
  go_wp2
  clear ca cb
  go_loopw [5] (fun i wr => ∃ j : Nat, j ≤ ls.length ∧ i = .int .i64 (j : Int) ∧ Hid (Has wr w.heap.size 32 (St.v (setSl s ⟨xa1, lo.length, xc1⟩ ⟨xa2, lp.length, xc2⟩ ⟨xa3, ls.length, xc3⟩)) 115 ∧ Has wr w1.heap.size 32 (St.v (setSl s ⟨ya1, lo.length, yc1⟩ ⟨ya2, lp.length, yc2⟩ ⟨ya3, ls.length, yc3⟩)) 115 ∧ Below w.heap.size w wr)) (fun i _ => ls.length - (intOf i).toNat)
  case atStart => exact ⟨0, Nat.zero_le _, rfl, Rb_a.out, Rb_b.out, GB.out⟩
  case round =>
    obtain ⟨j, hj, rfl, KW⟩ := hrel
    have Ra := hide KW.out.1
    have Rb := hide KW.out.2.1
    have Gr := hide KW.out.2.2
    clear KW
    have ca : wr.cell? ⟨w.heap.size, 112, none⟩ = some (.slice xa3 ls.length xc3) := Ra.out.cell 112 (by omega)
    by_cases hlt : j < ls.length
    · have hd : decide ((j : Int) < (ls.length : Int)) = true := decide_eq_true (by omega)
      have hd2 : decide (j < ls.length) = true := decide_eq_true hlt
      have hk0 : (0 : Int) ≤ (j : Int) := by omega
      have hk1 : (j : Int) < (ls.length : Int) := by omega
      obtain ⟨t, ht⟩ : ∃ t, ls[j]? = some t := ⟨_, List.getElem?_eq_getElem hlt⟩
      obtain ⟨bk1, o1, rfl, hb1, hA1⟩ := (H3.out.below Gr.out).get j t ht
      obtain ⟨bk2, o2, rfl, hb2, hA2⟩ := (K3.out.below Gr.out).get j t ht
      have HA1 := hide hA1
      have HA2 := hide hA2
      have HB1 := hide hb1
      have HB2 := hide hb2
      clear hA1 hA2 ht hb1 hb2
      go_upto_region 6 with fail
      refine wp_region_noPanic ?_
      refine wp_region_held_drew (S := fun wx => Below wr.heap.size wr wx) (by kernel_rfl) ((Below.refl _ _).drew) (fun hHeld => ?_)
      generalize hwd : World.drew wr = wd at hHeld ⊢
      refine Cu.takeH 0 (some 20) (.pointer (some ⟨w.heap.size, 112, none⟩)) rfl rfl (by kernel_rfl) (by kernel_rfl) (by kernel_rfl) (fun _ _ _ h => h) (by rfl) (fun w_ hw => by first | rfl | (go_simp; done) | (go_simp; rfl) | (go_simp; omega)) hHeld ?_
      simp only [Act.put, List.setIfInBounds_toArray, List.set_cons_zero, List.set_cons_succ]
      refine Cu.takeH 1 (some 21) (.slice (some ⟨bk1, o1, none⟩) ls.length xc3) rfl rfl (by kernel_rfl) (by kernel_rfl) (by kernel_rfl) (fun _ _ _ h => h) (by rfl) (fun w_ hw => by have c : World.cell? _ ⟨w.heap.size, 112, none⟩ = some (.slice (some ⟨bk1, o1, none⟩) ls.length xc3) := (Ra.out.below hw Ra.out.lt).cell 112 (by omega); first | rfl | (go_simp; done) | (go_simp; rfl) | (go_simp; omega)) hHeld ?_
      simp only [Act.put, List.setIfInBounds_toArray, List.set_cons_zero, List.set_cons_succ]
      refine Cu.takeH 2 (some 22) (.int .i64 (j : Int)) rfl rfl (by kernel_rfl) (by kernel_rfl) (by kernel_rfl) (fun _ _ _ h => h) (by rfl) (fun w_ hw => by first | rfl | (go_simp; done) | (go_simp; rfl) | (go_simp; omega)) hHeld ?_
      simp only [Act.put, List.setIfInBounds_toArray, List.set_cons_zero, List.set_cons_succ]
      refine Cu.takeH 3 (some 23) (.pointer (some ⟨bk1, o1 + j * 34, none⟩)) rfl rfl (by kernel_rfl) (by kernel_rfl) (by kernel_rfl) (fun _ _ _ h => h) (by rfl) (fun w_ hw => by first | rfl | (go_simp; done) | (go_simp; rfl) | (go_simp; omega)) hHeld ?_
      simp only [Act.put, List.setIfInBounds_toArray, List.set_cons_zero, List.set_cons_succ]
      refine Cu.takeH 4 (some 24) (.agg (tabv t.v 34)) rfl rfl (by kernel_rfl) (by kernel_rfl) (by kernel_rfl) (fun _ _ _ h => h) (by rfl) (fun w_ hw => run_load_at w_ 106 _ rfl bk1 (o1 + j * 34) (by rfl) _ 34 _ (HA1.out.below hw HB1.out) Tryz.underlying106 rfl infoS) hHeld ?_
      simp only [Act.put, List.setIfInBounds_toArray, List.set_cons_zero, List.set_cons_succ]
      refine Cu.takeH 5 (some 25) (.pointer (some ⟨w1.heap.size, 112, none⟩)) rfl rfl (by kernel_rfl) (by kernel_rfl) (by kernel_rfl) (fun _ _ _ h => h) (by rfl) (fun w_ hw => by first | rfl | (go_simp; done) | (go_simp; rfl) | (go_simp; omega)) hHeld ?_
      simp only [Act.put, List.setIfInBounds_toArray, List.set_cons_zero, List.set_cons_succ]
      refine Cu.takeH 6 (some 26) (.slice (some ⟨bk2, o2, none⟩) ls.length yc3) rfl rfl (by kernel_rfl) (by kernel_rfl) (by kernel_rfl) (fun _ _ _ h => h) (by rfl) (fun w_ hw => by have c : World.cell? _ ⟨w1.heap.size, 112, none⟩ = some (.slice (some ⟨bk2, o2, none⟩) ls.length yc3) := (Rb.out.below hw Rb.out.lt).cell 112 (by omega); first | rfl | (go_simp; done) | (go_simp; rfl) | (go_simp; omega)) hHeld ?_
      simp only [Act.put, List.setIfInBounds_toArray, List.set_cons_zero, List.set_cons_succ]
      refine Cu.takeH 7 (some 27) (.int .i64 (j : Int)) rfl rfl (by kernel_rfl) (by kernel_rfl) (by kernel_rfl) (fun _ _ _ h => h) (by rfl) (fun w_ hw => by first | rfl | (go_simp; done) | (go_simp; rfl) | (go_simp; omega)) hHeld ?_
      simp only [Act.put, List.setIfInBounds_toArray, List.set_cons_zero, List.set_cons_succ]
      refine Cu.takeH 8 (some 28) (.pointer (some ⟨bk2, o2 + j * 34, none⟩)) rfl rfl (by kernel_rfl) (by kernel_rfl) (by kernel_rfl) (fun _ _ _ h => h) (by rfl) (fun w_ hw => by first | rfl | (go_simp; done) | (go_simp; rfl) | (go_simp; omega)) hHeld ?_
      simp only [Act.put, List.setIfInBounds_toArray, List.set_cons_zero, List.set_cons_succ]
      refine Cu.takeH 9 (some 29) (.agg (tabv t.v 34)) rfl rfl (by kernel_rfl) (by kernel_rfl) (by kernel_rfl) (fun _ _ _ h => h) (by rfl) (fun w_ hw => run_load_at w_ 106 _ rfl bk2 (o2 + j * 34) (by rfl) _ 34 _ (HA2.out.below hw HB2.out) Tryz.underlying106 rfl infoS) hHeld ?_
      simp only [Act.put, List.setIfInBounds_toArray, List.set_cons_zero, List.set_cons_succ]
      refine Cu.takeH 10 (some 30) (.bool false) rfl rfl (by kernel_rfl) (by kernel_rfl) (by kernel_rfl) (fun _ _ _ h => h) (by rfl) (fun w_ hw => run_neSlot w_ _ _ t rfl (by rfl) (by rfl)) hHeld ?_
      simp only [Act.put, List.setIfInBounds_toArray, List.set_cons_zero, List.set_cons_succ]
      refine ⟨by kernel_rfl, ?_⟩
      refine NoPanic.normal ?_
      have KN : Hid (Has wd w.heap.size 32 (St.v _) 115 ∧ Has wd w1.heap.size 32 (St.v _) 115 ∧ Below w.heap.size w wd) := ⟨Ra.out.below hHeld Ra.out.lt, Rb.out.below hHeld Rb.out.lt, Gr.out.trans (hHeld.mono Gr.out.size)⟩
      clear hHeld hwd Ra Rb Gr ca
      go_wp2
      go_roundw
      case rel => exact ⟨j + 1, by omega, by go_num, KN⟩
      case measure => simp [intOf]; omega
    · have hjn : j = ls.length := by omega
      have hd : decide ((j : Int) < (ls.length : Int)) = false := decide_eq_false (by omega)
      have hd2 : decide (j < ls.length) = false := decide_eq_false hlt
      clear hjn hlt hj
      go_upto_region 8 with fail
      clear ca
      have ha0 : ∀ wx, Has wx (w.heap.size) 32 (St.v (setSl s ⟨xa1, lo.length, xc1⟩ ⟨xa2, lp.length, xc2⟩ ⟨xa3, ls.length, xc3⟩)) 115 → wx.cell? ⟨w.heap.size, 0, none⟩ = some (.int .i64 s.side) := fun wx h => h.cell 0 (by omega)
      have ha1 : ∀ wx, Has wx (w.heap.size) 32 (St.v (setSl s ⟨xa1, lo.length, xc1⟩ ⟨xa2, lp.length, xc2⟩ ⟨xa3, ls.length, xc3⟩)) 115 → wx.cell? ⟨w.heap.size, 1, none⟩ = some (.int .i64 s.cap) := fun wx h => h.cell 1 (by omega)
      have ha2 : ∀ wx, Has wx (w.heap.size) 32 (St.v (setSl s ⟨xa1, lo.length, xc1⟩ ⟨xa2, lp.length, xc2⟩ ⟨xa3, ls.length, xc3⟩)) 115 → wx.cell? ⟨w.heap.size, 2, none⟩ = some (.int .i64 s.bo) := fun wx h => h.cell 2 (by omega)
      have ha3 : ∀ wx, Has wx (w.heap.size) 32 (St.v (setSl s ⟨xa1, lo.length, xc1⟩ ⟨xa2, lp.length, xc2⟩ ⟨xa3, ls.length, xc3⟩)) 115 → wx.cell? ⟨w.heap.size, 3, none⟩ = some (.int .i64 s.bp) := fun wx h => h.cell 3 (by omega)
      have ha6 : ∀ wx, Has wx (w.heap.size) 32 (St.v (setSl s ⟨xa1, lo.length, xc1⟩ ⟨xa2, lp.length, xc2⟩ ⟨xa3, ls.length, xc3⟩)) 115 → wx.cell? ⟨w.heap.size, 6, none⟩ = some (.int .i64 s.loc) := fun wx h => h.cell 6 (by omega)
      have ha7 : ∀ wx, Has wx (w.heap.size) 32 (St.v (setSl s ⟨xa1, lo.length, xc1⟩ ⟨xa2, lp.length, xc2⟩ ⟨xa3, ls.length, xc3⟩)) 115 → wx.cell? ⟨w.heap.size, 7, none⟩ = some (.int .i64 s.rem) := fun wx h => h.cell 7 (by omega)
      have ha8 : ∀ wx, Has wx (w.heap.size) 32 (St.v (setSl s ⟨xa1, lo.length, xc1⟩ ⟨xa2, lp.length, xc2⟩ ⟨xa3, ls.length, xc3⟩)) 115 → wx.cell? ⟨w.heap.size, 8, none⟩ = some (.int .i64 s.ack) := fun wx h => h.cell 8 (by omega)
      have ha9 : ∀ wx, Has wx (w.heap.size) 32 (St.v (setSl s ⟨xa1, lo.length, xc1⟩ ⟨xa2, lp.length, xc2⟩ ⟨xa3, ls.length, xc3⟩)) 115 → wx.cell? ⟨w.heap.size, 9, none⟩ = some (.int .i64 s.ao) := fun wx h => h.cell 9 (by omega)
      have ha10 : ∀ wx, Has wx (w.heap.size) 32 (St.v (setSl s ⟨xa1, lo.length, xc1⟩ ⟨xa2, lp.length, xc2⟩ ⟨xa3, ls.length, xc3⟩)) 115 → wx.cell? ⟨w.heap.size, 10, none⟩ = some (.int .i64 s.ap) := fun wx h => h.cell 10 (by omega)
      have ha11 : ∀ wx, Has wx (w.heap.size) 32 (St.v (setSl s ⟨xa1, lo.length, xc1⟩ ⟨xa2, lp.length, xc2⟩ ⟨xa3, ls.length, xc3⟩)) 115 → wx.cell? ⟨w.heap.size, 11, none⟩ = some (.int .i64 s.so) := fun wx h => h.cell 11 (by omega)
      have ha12 : ∀ wx, Has wx (w.heap.size) 32 (St.v (setSl s ⟨xa1, lo.length, xc1⟩ ⟨xa2, lp.length, xc2⟩ ⟨xa3, ls.length, xc3⟩)) 115 → wx.cell? ⟨w.heap.size, 12, none⟩ = some (.int .i64 s.sp) := fun wx h => h.cell 12 (by omega)
      have ha13 : ∀ wx, Has wx (w.heap.size) 32 (St.v (setSl s ⟨xa1, lo.length, xc1⟩ ⟨xa2, lp.length, xc2⟩ ⟨xa3, ls.length, xc3⟩)) 115 → wx.cell? ⟨w.heap.size, 13, none⟩ = some (.int .i64 s.ho) := fun wx h => h.cell 13 (by omega)
      have ha14 : ∀ wx, Has wx (w.heap.size) 32 (St.v (setSl s ⟨xa1, lo.length, xc1⟩ ⟨xa2, lp.length, xc2⟩ ⟨xa3, ls.length, xc3⟩)) 115 → wx.cell? ⟨w.heap.size, 14, none⟩ = some (.int .i64 s.hp) := fun wx h => h.cell 14 (by omega)
      have ha113 : ∀ wx, Has wx (w.heap.size) 32 (St.v (setSl s ⟨xa1, lo.length, xc1⟩ ⟨xa2, lp.length, xc2⟩ ⟨xa3, ls.length, xc3⟩)) 115 → wx.cell? ⟨w.heap.size, 113, none⟩ = some (.int .i64 s.fail) := fun wx h => h.cell 113 (by omega)
      have ha114 : ∀ wx, Has wx (w.heap.size) 32 (St.v (setSl s ⟨xa1, lo.length, xc1⟩ ⟨xa2, lp.length, xc2⟩ ⟨xa3, ls.length, xc3⟩)) 115 → wx.cell? ⟨w.heap.size, 114, none⟩ = some (.int .i64 s.closed) := fun wx h => h.cell 114 (by omega)
      have ha15 : ∀ wx, Has wx (w.heap.size) 32 (St.v (setSl s ⟨xa1, lo.length, xc1⟩ ⟨xa2, lp.length, xc2⟩ ⟨xa3, ls.length, xc3⟩)) 115 → wx.cell? ⟨w.heap.size, 15, none⟩ = some (.bool s.beh) := fun wx h => h.cell 15 (by omega)
      have hap : ∀ wx, Has wx (w.heap.size) 32 (St.v (setSl s ⟨xa1, lo.length, xc1⟩ ⟨xa2, lp.length, xc2⟩ ⟨xa3, ls.length, xc3⟩)) 115 → At wx (w.heap.size) 16 (pv s.p0 s.p1) 64 := fun wx h => h.atPts
      have hag : ∀ wx, Has wx (w.heap.size) 32 (St.v (setSl s ⟨xa1, lo.length, xc1⟩ ⟨xa2, lp.length, xc2⟩ ⟨xa3, ls.length, xc3⟩)) 115 → At wx (w.heap.size) 80 (bv s.sig) 32 := fun wx h => h.at_ 80 (by omega) (fun i hi => St.v_sig _ i hi)
      have ha4 : ∀ wx, Has wx (w.heap.size) 32 (St.v (setSl s ⟨xa1, lo.length, xc1⟩ ⟨xa2, lp.length, xc2⟩ ⟨xa3, ls.length, xc3⟩)) 115 → wx.cell? ⟨w.heap.size, 4, none⟩ = some (.slice xa1 lo.length xc1) := fun wx h => h.cell 4 (by omega)
      have ha5 : ∀ wx, Has wx (w.heap.size) 32 (St.v (setSl s ⟨xa1, lo.length, xc1⟩ ⟨xa2, lp.length, xc2⟩ ⟨xa3, ls.length, xc3⟩)) 115 → wx.cell? ⟨w.heap.size, 5, none⟩ = some (.slice xa2 lp.length xc2) := fun wx h => h.cell 5 (by omega)
      have hb0 : ∀ wx, Has wx (w1.heap.size) 32 (St.v (setSl s ⟨ya1, lo.length, yc1⟩ ⟨ya2, lp.length, yc2⟩ ⟨ya3, ls.length, yc3⟩)) 115 → wx.cell? ⟨w1.heap.size, 0, none⟩ = some (.int .i64 s.side) := fun wx h => h.cell 0 (by omega)
      have hb1 : ∀ wx, Has wx (w1.heap.size) 32 (St.v (setSl s ⟨ya1, lo.length, yc1⟩ ⟨ya2, lp.length, yc2⟩ ⟨ya3, ls.length, yc3⟩)) 115 → wx.cell? ⟨w1.heap.size, 1, none⟩ = some (.int .i64 s.cap) := fun wx h => h.cell 1 (by omega)
      have hb2 : ∀ wx, Has wx (w1.heap.size) 32 (St.v (setSl s ⟨ya1, lo.length, yc1⟩ ⟨ya2, lp.length, yc2⟩ ⟨ya3, ls.length, yc3⟩)) 115 → wx.cell? ⟨w1.heap.size, 2, none⟩ = some (.int .i64 s.bo) := fun wx h => h.cell 2 (by omega)
      have hb3 : ∀ wx, Has wx (w1.heap.size) 32 (St.v (setSl s ⟨ya1, lo.length, yc1⟩ ⟨ya2, lp.length, yc2⟩ ⟨ya3, ls.length, yc3⟩)) 115 → wx.cell? ⟨w1.heap.size, 3, none⟩ = some (.int .i64 s.bp) := fun wx h => h.cell 3 (by omega)
      have hb6 : ∀ wx, Has wx (w1.heap.size) 32 (St.v (setSl s ⟨ya1, lo.length, yc1⟩ ⟨ya2, lp.length, yc2⟩ ⟨ya3, ls.length, yc3⟩)) 115 → wx.cell? ⟨w1.heap.size, 6, none⟩ = some (.int .i64 s.loc) := fun wx h => h.cell 6 (by omega)
      have hb7 : ∀ wx, Has wx (w1.heap.size) 32 (St.v (setSl s ⟨ya1, lo.length, yc1⟩ ⟨ya2, lp.length, yc2⟩ ⟨ya3, ls.length, yc3⟩)) 115 → wx.cell? ⟨w1.heap.size, 7, none⟩ = some (.int .i64 s.rem) := fun wx h => h.cell 7 (by omega)
      have hb8 : ∀ wx, Has wx (w1.heap.size) 32 (St.v (setSl s ⟨ya1, lo.length, yc1⟩ ⟨ya2, lp.length, yc2⟩ ⟨ya3, ls.length, yc3⟩)) 115 → wx.cell? ⟨w1.heap.size, 8, none⟩ = some (.int .i64 s.ack) := fun wx h => h.cell 8 (by omega)
      have hb9 : ∀ wx, Has wx (w1.heap.size) 32 (St.v (setSl s ⟨ya1, lo.length, yc1⟩ ⟨ya2, lp.length, yc2⟩ ⟨ya3, ls.length, yc3⟩)) 115 → wx.cell? ⟨w1.heap.size, 9, none⟩ = some (.int .i64 s.ao) := fun wx h => h.cell 9 (by omega)
      have hb10 : ∀ wx, Has wx (w1.heap.size) 32 (St.v (setSl s ⟨ya1, lo.length, yc1⟩ ⟨ya2, lp.length, yc2⟩ ⟨ya3, ls.length, yc3⟩)) 115 → wx.cell? ⟨w1.heap.size, 10, none⟩ = some (.int .i64 s.ap) := fun wx h => h.cell 10 (by omega)
      have hb11 : ∀ wx, Has wx (w1.heap.size) 32 (St.v (setSl s ⟨ya1, lo.length, yc1⟩ ⟨ya2, lp.length, yc2⟩ ⟨ya3, ls.length, yc3⟩)) 115 → wx.cell? ⟨w1.heap.size, 11, none⟩ = some (.int .i64 s.so) := fun wx h => h.cell 11 (by omega)
      have hb12 : ∀ wx, Has wx (w1.heap.size) 32 (St.v (setSl s ⟨ya1, lo.length, yc1⟩ ⟨ya2, lp.length, yc2⟩ ⟨ya3, ls.length, yc3⟩)) 115 → wx.cell? ⟨w1.heap.size, 12, none⟩ = some (.int .i64 s.sp) := fun wx h => h.cell 12 (by omega)
      have hb13 : ∀ wx, Has wx (w1.heap.size) 32 (St.v (setSl s ⟨ya1, lo.length, yc1⟩ ⟨ya2, lp.length, yc2⟩ ⟨ya3, ls.length, yc3⟩)) 115 → wx.cell? ⟨w1.heap.size, 13, none⟩ = some (.int .i64 s.ho) := fun wx h => h.cell 13 (by omega)
      have hb14 : ∀ wx, Has wx (w1.heap.size) 32 (St.v (setSl s ⟨ya1, lo.length, yc1⟩ ⟨ya2, lp.length, yc2⟩ ⟨ya3, ls.length, yc3⟩)) 115 → wx.cell? ⟨w1.heap.size, 14, none⟩ = some (.int .i64 s.hp) := fun wx h => h.cell 14 (by omega)
      have hb113 : ∀ wx, Has wx (w1.heap.size) 32 (St.v (setSl s ⟨ya1, lo.length, yc1⟩ ⟨ya2, lp.length, yc2⟩ ⟨ya3, ls.length, yc3⟩)) 115 → wx.cell? ⟨w1.heap.size, 113, none⟩ = some (.int .i64 s.fail) := fun wx h => h.cell 113 (by omega)
      have hb114 : ∀ wx, Has wx (w1.heap.size) 32 (St.v (setSl s ⟨ya1, lo.length, yc1⟩ ⟨ya2, lp.length, yc2⟩ ⟨ya3, ls.length, yc3⟩)) 115 → wx.cell? ⟨w1.heap.size, 114, none⟩ = some (.int .i64 s.closed) := fun wx h => h.cell 114 (by omega)
      have hb15 : ∀ wx, Has wx (w1.heap.size) 32 (St.v (setSl s ⟨ya1, lo.length, yc1⟩ ⟨ya2, lp.length, yc2⟩ ⟨ya3, ls.length, yc3⟩)) 115 → wx.cell? ⟨w1.heap.size, 15, none⟩ = some (.bool s.beh) := fun wx h => h.cell 15 (by omega)
      have hbp : ∀ wx, Has wx (w1.heap.size) 32 (St.v (setSl s ⟨ya1, lo.length, yc1⟩ ⟨ya2, lp.length, yc2⟩ ⟨ya3, ls.length, yc3⟩)) 115 → At wx (w1.heap.size) 16 (pv s.p0 s.p1) 64 := fun wx h => h.atPts
      have hbg : ∀ wx, Has wx (w1.heap.size) 32 (St.v (setSl s ⟨ya1, lo.length, yc1⟩ ⟨ya2, lp.length, yc2⟩ ⟨ya3, ls.length, yc3⟩)) 115 → At wx (w1.heap.size) 80 (bv s.sig) 32 := fun wx h => h.at_ 80 (by omega) (fun i hi => St.v_sig _ i hi)
      have hb4 : ∀ wx, Has wx (w1.heap.size) 32 (St.v (setSl s ⟨ya1, lo.length, yc1⟩ ⟨ya2, lp.length, yc2⟩ ⟨ya3, ls.length, yc3⟩)) 115 → wx.cell? ⟨w1.heap.size, 4, none⟩ = some (.slice ya1 lo.length yc1) := fun wx h => h.cell 4 (by omega)
      have hb5 : ∀ wx, Has wx (w1.heap.size) 32 (St.v (setSl s ⟨ya1, lo.length, yc1⟩ ⟨ya2, lp.length, yc2⟩ ⟨ya3, ls.length, yc3⟩)) 115 → wx.cell? ⟨w1.heap.size, 5, none⟩ = some (.slice ya2 lp.length yc2) := fun wx h => h.cell 5 (by omega)
      have EQC := hide (fun (p q : Int) (wq : World) => (show (Op.equalIn 10000 29 (.agg #[.int .i64 p, .int .i64 q]) (.agg #[.int .i64 p, .int .i64 q])).run Tryz.prog wq = .ok true wq by have h := eqCD wq p q p q; simp only [BEq.rfl, Bool.and_self] at h; exact h))
      have EQP := hide (fun (p q : Nat → UInt8) (wq : World) => (show (Op.equalIn 10000 24 (.agg (tabv (pv p q) 64)) (.agg (tabv (pv p q) 64))).run Tryz.prog wq = .ok true wq by have h := eqPtD wq p q p q; rw [eqH_refl, eqH_refl] at h; exact h))
      have EQH := hide (fun (p : Nat → UInt8) (wq : World) => (show (Op.equalIn 10000 23 (.agg (tabv (bv p) 32)) (.agg (tabv (bv p) 32))).run Tryz.prog wq = .ok true wq by have h := eqHD 9998 wq p p; rw [eqH_refl] at h; exact h))
      generalize s.side = e0 at ha0 hb0
      generalize s.cap = e1 at ha1 hb1
      generalize s.bo = e2 at ha2 hb2
      generalize s.bp = e3 at ha3 hb3
      generalize s.loc = e6 at ha6 hb6
      generalize s.rem = e7 at ha7 hb7
      generalize s.ack = e8 at ha8 hb8
      generalize s.ao = e9 at ha9 hb9
      generalize s.ap = e10 at ha10 hb10
      generalize s.so = e11 at ha11 hb11
      generalize s.sp = e12 at ha12 hb12
      generalize s.ho = e13 at ha13 hb13
      generalize s.hp = e14 at ha14 hb14
      generalize s.fail = e113 at ha113 hb113
      generalize s.closed = e114 at ha114 hb114
      replace hap := hide hap
      replace hag := hide hag
      replace hbp := hide hbp
      replace hbg := hide hbg
      have ta0 := ha0 _ Ra.out
      have tb0 := hb0 _ Rb.out
      have ta1 := ha1 _ Ra.out
      have tb1 := hb1 _ Rb.out
      have ta2 := ha2 _ Ra.out
      have tb2 := hb2 _ Rb.out
      have ta3 := ha3 _ Ra.out
      have tb3 := hb3 _ Rb.out
      have ta4 := ha4 _ Ra.out
      have tb4 := hb4 _ Rb.out
      go_wp2_with (fail)
      refine (HS1.out _ Gr.out).mono ?_
      rintro e y1 ⟨rfl, hb⟩
      have Ry1_a := hide (Ra.out.below hb Ra.out.lt)
      have Ry1_b := hide (Rb.out.below hb Rb.out.lt)
      have Gy1 := hide (Gr.out.trans (hb.mono Gr.out.size))
      clear hb
      clear ta0 tb0 ta1 tb1 ta2 tb2 ta3 tb3 ta4 tb4
      have ta5 := ha5 _ Ry1_a.out
      have tb5 := hb5 _ Ry1_b.out
      go_wp2_with (fail)
      refine (HS2.out _ Gy1.out).mono ?_
      rintro e y2 ⟨rfl, hb⟩
      have Ry2_a := hide (Ry1_a.out.below hb Ry1_a.out.lt)
      have Ry2_b := hide (Ry1_b.out.below hb Ry1_b.out.lt)
      have Gy2 := hide (Gy1.out.trans (hb.mono Gy1.out.size))
      clear hb
      clear ta5 tb5
      have ta6 := ha6 _ Ry2_a.out
      have tb6 := hb6 _ Ry2_b.out
      have ta7 := ha7 _ Ry2_a.out
      have tb7 := hb7 _ Ry2_b.out
      have ta8 := ha8 _ Ry2_a.out
      have tb8 := hb8 _ Ry2_b.out
      have ta9 := ha9 _ Ry2_a.out
      have tb9 := hb9 _ Ry2_b.out
      have ta10 := ha10 _ Ry2_a.out
      have tb10 := hb10 _ Ry2_b.out
      have ta11 := ha11 _ Ry2_a.out
      have tb11 := hb11 _ Ry2_b.out
      have ta12 := ha12 _ Ry2_a.out
      have tb12 := hb12 _ Ry2_b.out
      have ta13 := ha13 _ Ry2_a.out
      have tb13 := hb13 _ Ry2_b.out
      have ta14 := ha14 _ Ry2_a.out
      have tb14 := hb14 _ Ry2_b.out
      have ta15 := ha15 _ Ry2_a.out
      have tb15 := hb15 _ Ry2_b.out
      have ta113 := ha113 _ Ry2_a.out
      have tb113 := hb113 _ Ry2_b.out
      have ta114 := ha114 _ Ry2_a.out
      have tb114 := hb114 _ Ry2_b.out
      go_wp2_with (first | refine wpW_load_at 24 _ rfl (w.heap.size) (16) (by rfl) (by rfl) _ 64 _ (hap.out _ Ry2_a.out) Tryz.underlying24 rfl infoTwo ?_ | refine wpW_load_at 24 _ rfl (w1.heap.size) (16) (by rfl) (by rfl) _ 64 _ (hbp.out _ Ry2_b.out) Tryz.underlying24 rfl infoTwo ?_ | refine wpW_load_at 23 _ rfl (w.heap.size) (80) (by rfl) (by rfl) _ 32 _ (hag.out _ Ry2_a.out) Tryz.underlying23 rfl info26 ?_ | refine wpW_load_at 23 _ rfl (w1.heap.size) (80) (by rfl) (by rfl) _ 32 _ (hbg.out _ Ry2_b.out) Tryz.underlying23 rfl info26 ?_ | refine wpW_eqC rfl _ _ rfl _ _ _ rfl rfl (EQC.out _ _) ?_ | refine wpW_eqPt rfl _ _ rfl _ _ _ rfl rfl (EQP.out _ _) ?_ | refine wpW_eqH rfl _ _ rfl _ _ _ rfl rfl (EQH.out _) ?_ | fail)
      go_ret
      exact ⟨rfl, Gy2.out⟩
end Go.Proofs.YtmmcoedgoekhgaaGreatDoor
