/-
  The statements' first (printed by gen_first.py).
-/
import Derived.Test.YtocojkafdgmgdaaDoorPFirstM
import Derived.BigQuiet
namespace Go.Proofs.YtocojkafdgmgdaaDoor
open Go.RowKit S
set_option linter.unusedVariables false
set_option linter.unusedSimpArgs false
theorem zbv : tabv (bv (fun _ => (0 : UInt8))) 32 = tabv (fun _ => (.int .u8 0 : Value)) 32 := rfl
theorem OwnS.slotsN {B n : Nat} {w : World} {v : Value} {l : List Slot} (h : OwnS B w v l) (hn : l.length = n) : ∃ ad cap, v = .slice ad n cap ∧ Slots w ad l ∧ (∀ x, ad = some x → x.block < w.heap.size ∧ B ≤ x.block) ∧ n ≤ cap ∧ cap ≤ maxLen := by
  subst hn
  exact h.slots
theorem run_buildS {o : Oper} {a : Act} (w : World) (p0 p1 : Operand) (b : Bool) (ho : o.op = .build 37 #[(0, p0), (1, p1), (2, .const (.bool b))]) (x : Int) (h : Nat → UInt8) (h0 : a.eval p0 = .int .i64 x) (h1 : a.eval p1 = .agg (tabv (bv h) 32)) : (execOp a.eval o).run Tryd.prog w = .ok (.value (.agg (tabv (Slot.v ⟨x, h, b⟩) 34))) w := by
  have e : ((#[(0, p0), (1, p1), (2, .const (.bool b))] : Array (Nat × Operand)).map fun (i, y) => (i, a.eval y)).toList = [(0, .int .i64 x), (1, .agg (tabv (bv h) 32)), (2, .bool b)] := by
    rw [Array.toList_map]
    show [(0, a.eval p0), (1, a.eval p1), (2, a.eval (.const (.bool b)))] = _
    rw [h0, h1]
    rfl
  unfold execOp
  simp only [ho, Sem.run_bind, run_build w 37 _ _ (by rw [e]; exact builtS x h b), Result.andThen_ok, Sem.run_pure]
set_option maxRecDepth 100000 in
set_option maxHeartbeats 4000000 in
theorem pfirst_any (w : World) (hG : Glob num w) : Calls Tryd.prog 8 #[] w fun e w' => e = .returned (.bool true) ∧ Below w.heap.size w w' := by
  have kb := Below.refl w.heap.size w
  have hGl := hG
  obtain ⟨a, ha⟩ : ∃ a, exA = a := ⟨_, rfl⟩
  obtain ⟨b, hb⟩ : ∃ b, exB = b := ⟨_, rfl⟩
  obtain ⟨L, hL⟩ : ∃ L, exL = L := ⟨_, rfl⟩
  obtain ⟨M, hM⟩ : ∃ M, exM = M := ⟨_, rfl⟩
  have SA := sSecret_any num (fun _ => 0) 0
  have SB := sSecret_any num (fun _ => 0) 1
  rw [sec_a, ha, zbv, zero32] at SA
  rw [sec_b, hb, zbv, zero32] at SB
  have P1 := fun w => put_any none 0 0 [] rfl 0 exA w
  rw [ex_p1, ha, hL] at P1
  have P2 := fun ad cap w => put_any ad 49 cap exL exL_len 1 exB w
  rw [ex_p2, hL, hb, hM] at P2
  have P3 := fun ad cap w => put_any ad 49 cap exL exL_len 1 exA w
  rw [ex_p3, hL, ha] at P3
  have G1 := fun ad cap w => get_any ad 49 cap exM exM_len 0 w
  rw [ex_g1, hM, ha] at G1
  have G2 := fun ad cap w => get_any ad 49 cap exM exM_len 2 w
  rw [ex_g2, hM] at G2
  have lL := exL_len
  have lM := exM_len
  have m1 : exM[1]? = some ⟨1, exB, true⟩ := by rw [show exM = withA exL 1 ⟨1, exB, true⟩ from rfl, withA_get _ _ _ 1 (by omega)]; rfl
  rw [hL] at lL
  rw [hM] at lM m1
  rw [hb] at m1
  clear ha hb hL hM
  have SA := hide SA
  have SB := hide SB
  have P1 := hide P1
  have P2 := hide P2
  have P3 := hide P3
  have G1 := hide G1
  have G2 := hide G2
  have LL := hide lL
  have LM := hide lM
  have M1 := hide m1
  clear lL lM m1
  go_enter Tryd.func8, Tryd.ntmps8
  go_wp2_with fail
  refine (SA.out _ hGl).mono ?_
  rintro e w1 ⟨rfl, hb2⟩
  have hGl := hGl.up hb2
  have kb := kb.trans (hb2.mono kb.size)
  clear hb2
  have hn5 := Has.new w1 23 (fun _ => .int .u8 0) 32 _ rfl
  rw [zero32] at hn5
  obtain ⟨b4, hb4⟩ : ∃ g, w1.heap.size = g := ⟨_, rfl⟩
  obtain ⟨w3, hz6⟩ : ∃ x, (w1.alloc (.cells (tabv (fun _ => .int .u8 0) 32) 23)).setRow w1.heap.size (tabv (bv a) 32) = x := ⟨_, rfl⟩
  have hbx : Below w1.heap.size w1 w3 := by rw [← hz6]; exact below_setRow ((Below.refl _ _).alloc (Nat.le_refl _) _) (Nat.le_refl _) _
  have hGl := hGl.up hbx
  have kb := kb.trans (hbx.mono kb.size)
  have q1 : Has w3 b4 23 (bv a) 32 := by rw [zero32] at hz6; rw [← hz6, ← hb4]; exact hn5.row _ _ rfl
  rw [zero32] at hz6
  have Hhn5 := hide hn5
  have Hhz6 := hide hz6
  have Hhb4 := hide hb4
  clear hn5 hz6 hb4 hbx
  go_wp2_with (first | (refine wpList_storeH rfl _ _ rfl rfl w1.heap.size (a) rfl rfl _ Hhn5.out ?_; rw [Hhz6.out]))
  rw [Hhb4.out]
  refine (SB.out _ hGl).mono ?_
  rintro e w7 ⟨rfl, hb8⟩
  have q1 := q1.below hb8 q1.lt
  have hGl := hGl.up hb8
  have kb := kb.trans (hb8.mono kb.size)
  clear hb8
  have hn11 := Has.new w7 23 (fun _ => .int .u8 0) 32 _ rfl
  rw [zero32] at hn11
  obtain ⟨b10, hb10⟩ : ∃ g, w7.heap.size = g := ⟨_, rfl⟩
  obtain ⟨w9, hz12⟩ : ∃ x, (w7.alloc (.cells (tabv (fun _ => .int .u8 0) 32) 23)).setRow w7.heap.size (tabv (bv b) 32) = x := ⟨_, rfl⟩
  have hbx : Below w7.heap.size w7 w9 := by rw [← hz12]; exact below_setRow ((Below.refl _ _).alloc (Nat.le_refl _) _) (Nat.le_refl _) _
  have q1 := q1.below hbx q1.lt
  have hGl := hGl.up hbx
  have kb := kb.trans (hbx.mono kb.size)
  have q2 : Has w9 b10 23 (bv b) 32 := by rw [zero32] at hz12; rw [← hz12, ← hb10]; exact hn11.row _ _ rfl
  rw [zero32] at hz12
  have Hhn11 := hide hn11
  have Hhz12 := hide hz12
  have Hhb10 := hide hb10
  clear hn11 hz12 hb10 hbx
  have Hq1 := hide q1
  go_wp2_with (first | (refine wpList_storeH rfl _ _ rfl rfl w7.heap.size (b) rfl rfl _ Hhn11.out ?_; rw [Hhz12.out]) | refine wpList_load_part rfl 23 _ rfl b4 0 rfl 23 _ 32 32 _ Hq1.out (by omega) Tryd.underlying23 rfl info26 ((bv a)) (fun i hi => by rw [Nat.zero_add]) ?_)
  rw [Hhb10.out]
  clear Hq1
  refine (P1.out _ hGl (Slots.nil _ _)).mono ?_
  rintro e w13 ⟨⟨v1, rfl, o1⟩, hb14⟩
  have q1 := q1.below hb14 q1.lt
  have q2 := q2.below hb14 q2.lt
  have hGl := hGl.up hb14
  have kb := kb.trans (hb14.mono kb.size)
  clear hb14
  have o1 := o1.mono (Nat.zero_le _)
  obtain ⟨ad1, cap1, rfl, s1, -, -⟩ := o1.slotsN LL.out
  have Hq2 := hide q2
  go_wp2_with (first | refine wpList_load_part rfl 23 _ rfl b10 0 rfl 23 _ 32 32 _ Hq2.out (by omega) Tryd.underlying23 rfl info26 ((bv b)) (fun i hi => by rw [Nat.zero_add]) ?_)
  clear Hq2
  refine (P2.out _ _ _ hGl s1).mono ?_
  rintro e w15 ⟨⟨v2, rfl, o2⟩, hb16⟩
  have q1 := q1.below hb16 q1.lt
  have q2 := q2.below hb16 q2.lt
  have s1 := s1.below hb16
  have hGl := hGl.up hb16
  have kb := kb.trans (hb16.mono kb.size)
  clear hb16
  have o2 := o2.mono (Nat.zero_le _)
  obtain ⟨ad2, cap2, rfl, s2, -, -⟩ := o2.slotsN LM.out
  have Hq1 := hide q1
  go_wp2_with (first | refine wpList_load_part rfl 23 _ rfl b4 0 rfl 23 _ 32 32 _ Hq1.out (by omega) Tryd.underlying23 rfl info26 ((bv a)) (fun i hi => by rw [Nat.zero_add]) ?_)
  clear Hq1
  refine (P3.out _ _ _ hGl s1).mono ?_
  rintro e w17 ⟨⟨v3, rfl, o3⟩, hb18⟩
  have q1 := q1.below hb18 q1.lt
  have q2 := q2.below hb18 q2.lt
  have s1 := s1.below hb18
  have s2 := s2.below hb18
  have hGl := hGl.up hb18
  have kb := kb.trans (hb18.mono kb.size)
  clear hb18
  clear o3
  go_wp2_with fail
  refine (G1.out _ _ _ hGl s2).mono ?_
  rintro e w19 ⟨rfl, hb20⟩
  have q1 := q1.below hb20 q1.lt
  have q2 := q2.below hb20 q2.lt
  have s1 := s1.below hb20
  have s2 := s2.below hb20
  have hGl := hGl.up hb20
  have kb := kb.trans (hb20.mono kb.size)
  clear hb20
  have hn23 := Has.new w19 23 (fun _ => .int .u8 0) 32 _ rfl
  rw [zero32] at hn23
  obtain ⟨b22, hb22⟩ : ∃ g, w19.heap.size = g := ⟨_, rfl⟩
  obtain ⟨w21, hz24⟩ : ∃ x, (w19.alloc (.cells (tabv (fun _ => .int .u8 0) 32) 23)).setRow w19.heap.size (tabv (bv a) 32) = x := ⟨_, rfl⟩
  have hbx : Below w19.heap.size w19 w21 := by rw [← hz24]; exact below_setRow ((Below.refl _ _).alloc (Nat.le_refl _) _) (Nat.le_refl _) _
  have q1 := q1.below hbx q1.lt
  have q2 := q2.below hbx q2.lt
  have s1 := s1.below hbx
  have s2 := s2.below hbx
  have hGl := hGl.up hbx
  have kb := kb.trans (hbx.mono kb.size)
  have q3 : Has w21 b22 23 (bv a) 32 := by rw [zero32] at hz24; rw [← hz24, ← hb22]; exact hn23.row _ _ rfl
  rw [zero32] at hz24
  have Hhn23 := hide hn23
  have Hhz24 := hide hz24
  have Hhb22 := hide hb22
  clear hn23 hz24 hb22 hbx
  go_wp2_with (first | (refine wpList_storeH rfl _ _ rfl rfl w19.heap.size (a) rfl rfl _ Hhn23.out ?_; rw [Hhz24.out]))
  rw [Hhb22.out]
  refine (G2.out _ _ _ hGl s2).mono ?_
  rintro e w25 ⟨rfl, hb26⟩
  have q1 := q1.below hb26 q1.lt
  have q2 := q2.below hb26 q2.lt
  have s1 := s1.below hb26
  have s2 := s2.below hb26
  have q3 := q3.below hb26 q3.lt
  have hGl := hGl.up hb26
  have kb := kb.trans (hb26.mono kb.size)
  clear hb26
  have hn29 := Has.new w25 23 (fun _ => .int .u8 0) 32 _ rfl
  rw [zero32] at hn29
  obtain ⟨b28, hb28⟩ : ∃ g, w25.heap.size = g := ⟨_, rfl⟩
  obtain ⟨w27, hz30⟩ : ∃ x, (w25.alloc (.cells (tabv (fun _ => .int .u8 0) 32) 23)).setRow w25.heap.size (tabv (bv (fun _ => 0)) 32) = x := ⟨_, rfl⟩
  have hbx : Below w25.heap.size w25 w27 := by rw [← hz30]; exact below_setRow ((Below.refl _ _).alloc (Nat.le_refl _) _) (Nat.le_refl _) _
  have q1 := q1.below hbx q1.lt
  have q2 := q2.below hbx q2.lt
  have s1 := s1.below hbx
  have s2 := s2.below hbx
  have q3 := q3.below hbx q3.lt
  have hGl := hGl.up hbx
  have kb := kb.trans (hbx.mono kb.size)
  have q4 : Has w27 b28 23 (bv (fun _ => 0)) 32 := by rw [zero32] at hz30; rw [← hz30, ← hb28]; exact hn29.row _ _ rfl
  rw [zero32] at hz30
  have Hhn29 := hide hn29
  have Hhz30 := hide hz30
  have Hhb28 := hide hb28
  clear hn29 hz30 hb28 hbx
  obtain ⟨bb, oo, rfl, hbb, hAt⟩ := s2.get 1 _ M1.out
  have HAt := hide hAt
  clear hAt
  have hqa : ∀ w : World, (Op.equalIn 10000 23 (.agg (tabv (bv a) 32)) (.agg (tabv (bv a) 32))).run Tryd.prog w = .ok true w := fun w => by rw [eq26, all_same]
  have hqs : ∀ w : World, (Op.equalIn 10000 37 (.agg (tabv (Slot.v ⟨1, b, true⟩) 34)) (.agg (tabv (Slot.v ⟨1, b, true⟩) 34))).run Tryd.prog w = .ok true w := fun w => by rw [eqSD, eqSl_refl]
  have hgt := guard26
  have hgs := guardS
  go_wp2_with (first | (refine wpList_storeH rfl _ _ rfl rfl w25.heap.size ((fun _ => 0)) rfl rfl _ Hhn29.out ?_; rw [Hhz30.out]))
  rw [Hhb28.out]
  have Hq1 := hide q1
  have Hq2 := hide q2
  have Hq3 := hide q3
  have Hq4 := hide q4
  clear q1 q2 q3 q4
  refine wp_region_quiet_lit (by kernel_rfl) (by kernel_rfl) ?_
  iterate 11 (go_big_quiet_step (fail))
  go_big_quiet_want
  refine quiet_value (fun w' hw' => run_load_part w' 23 _ rfl b22 0 rfl 23 _ 32 32 _ (by obtain ⟨m, rfl⟩ := hw'; exact Hq3.out.drewN m) (by omega) Tryd.underlying23 rfl info26 ((bv a)) (fun i hi => by rw [Nat.zero_add])) ?_
  simp only [Act.put, List.setIfInBounds_toArray, List.set_cons_succ, List.set_cons_zero]
  go_big_quiet_on
  go_big_quiet_want
  refine quiet_value (fun w' hw' => run_load_part w' 23 _ rfl b4 0 rfl 23 _ 32 32 _ (by obtain ⟨m, rfl⟩ := hw'; exact Hq1.out.drewN m) (by omega) Tryd.underlying23 rfl info26 ((bv a)) (fun i hi => by rw [Nat.zero_add])) ?_
  simp only [Act.put, List.setIfInBounds_toArray, List.set_cons_succ, List.set_cons_zero]
  go_big_quiet_on
  iterate 18 (go_big_quiet_step (fail))
  go_big_quiet_want
  refine quiet_value (fun w' hw' => run_load_at w' 37 _ rfl bb (oo + 1 * 34) (by rfl) _ 34 _ (by obtain ⟨m, rfl⟩ := hw'; exact HAt.out) Tryd.underlying37 rfl infoS) ?_
  simp only [Act.put, List.setIfInBounds_toArray, List.set_cons_succ, List.set_cons_zero]
  go_big_quiet_on
  go_big_quiet_want
  refine quiet_value (fun w' hw' => run_load_part w' 23 _ rfl b10 0 rfl 23 _ 32 32 _ (by obtain ⟨m, rfl⟩ := hw'; exact Hq2.out.drewN m) (by omega) Tryd.underlying23 rfl info26 ((bv b)) (fun i hi => by rw [Nat.zero_add])) ?_
  simp only [Act.put, List.setIfInBounds_toArray, List.set_cons_succ, List.set_cons_zero]
  go_big_quiet_on
  go_big_quiet_want
  refine quiet_value (fun w' hw' => run_buildS w' _ _ true rfl 1 b rfl rfl) ?_
  simp only [Act.put, List.setIfInBounds_toArray, List.set_cons_succ, List.set_cons_zero]
  go_big_quiet_on
  iterate 3 (go_big_quiet_step (fail))
  refine wpQuiet_nil ?_
  intro _ hw'
  obtain ⟨nq, rfl⟩ := hw'
  go_wp2
  go_ret
  exact ⟨by simp, ⟨kb.os, kb.tape, kb.output, kb.size, kb.block⟩⟩
end Go.Proofs.YtocojkafdgmgdaaDoor
