/-
  script's writer: a step (printed by gen_ws.py).
-/
import Derived.Test.YtepgoehpjafbhaaGreatDoorSWg
namespace Go.Proofs.YtepgoehpjafbhaaGreatDoor
open Go.RowKit S
set_option linter.unusedVariables false
set_option linter.unusedSimpArgs false
def stepW (F : Int → List UInt8) (f : Nat → Value) (gs : List (Nat → Value)) (x : WS) : Option WS := (nmK stepN (kd (f 135))).bind fun s0 => if kd (f 135) = 1 then some (wordW (hexL (hbv f 139)) (wordW (F (kd (f 136))) (wordW s0 x))) else if kd (f 135) = 2 then some (wordW (hexL (hbv f 139)) (wordW (F (kd (f 137))) (wordW s0 x))) else if kd (f 135) = 3 then some (quoW (sbv (f 171)) (wordW (F (kd (f 137))) (wordW s0 x))) else if kd (f 135) = 8 then some (quoW (sbv (f 172)) (wordW s0 x)) else if kd (f 135) = 10 ∨ kd (f 135) = 11 then some (wordW (F (kd (f 138))) (wordW s0 x)) else if kd (f 135) = 12 then fatesW F gs (wordW (F (kd (f 138))) (wordW s0 x)) else some (wordW s0 x)
set_option maxRecDepth 100000 in
set_option maxHeartbeats 4000000 in
theorem wstep_any {E : Prop} {B : Nat} {F : Int → List UInt8} (b N c : Nat) (f : Nat → Value) (ad : Option Addr) (cap : Nat) (gs : List (Nat → Value)) (v : Value) (x : WS) (w : World) (hE : EnvW E B F w) (hB0 : B ≤ w.heap.size) (hb : B ≤ b) (hN : B ≤ N)
    (hW : Wr w b N v x.1 x.2) (hC : Has w c 40 f 176) (hok : CdOk f) (hcb : c ≠ b) (hvc : v.ownBlock ≠ some c) (hx0 : x.1.length ≤ 65536) (h173 : f 173 = .slice ad gs.length cap) (hS : FsAt w b v ad gs) (hgl : gs.length ≤ 140737488355328) :
    Calls Tryz.prog 62 #[wif b, .pointer (some ⟨c, 135, none⟩)] w fun e w' => ∃ v', Mw b w v w' v' ∧
      ((∃ y, stepW F f gs x = some y ∧ e = .returned (.tuple #[]) ∧ Wr w' b N v' y.1 y.2 ∧ y.1.length ≤ 65536) ∨ (stepW F f gs x = none ∧ Bad e)) := by
  obtain ⟨R, hRR⟩ : ∃ R, stepW F f gs x = R := ⟨_, rfl⟩
  rw [hRR]
  have HQ0 : Hid (R = (nmK stepN (kd (f 135))).bind fun s0 => if kd (f 135) = 1 then some (wordW (hexL (hbv f 139)) (wordW (F (kd (f 136))) (wordW s0 x))) else if kd (f 135) = 2 then some (wordW (hexL (hbv f 139)) (wordW (F (kd (f 137))) (wordW s0 x))) else if kd (f 135) = 3 then some (quoW (sbv (f 171)) (wordW (F (kd (f 137))) (wordW s0 x))) else if kd (f 135) = 8 then some (quoW (sbv (f 172)) (wordW s0 x)) else if kd (f 135) = 10 ∨ kd (f 135) = 11 then some (wordW (F (kd (f 138))) (wordW s0 x)) else if kd (f 135) = 12 then fatesW F gs (wordW (F (kd (f 138))) (wordW s0 x)) else some (wordW s0 x)) := hide (by rw [← hRR]; rfl)
  clear hRR
  have hcl := hC.lt
  have hrow : ∀ k, v.ownBlock = some k → B ≤ k := fun k e => Nat.le_trans hN (hW.row k e)
  have HE0 := hide hE
  have HEw := HE0
  have hBw := hB0
  have HW0 := hide hW
  have HC0 := hide hC
  have HM0 : Hid (Mw b w v w v) := hide (Mw.refl _ _ _)
  clear hE hW hC
  unfold wif
  go_enter Tryz.func62, Tryz.ntmps62
  have H173 := hide h173
  have HS := hide hS
  clear h173 hS
  have na := wna_name b
  have mt := wmt_name b
  have hmf := mkF
  go_wp2_with fail
  refine wp_region_pan (fun wx => R = none ∧ ∃ v', Mw b w v wx v') (fun a wx hdf hx => ?_) ?_
  · go_wp2
    obtain ⟨hx1, v9, hx2⟩ := hx
    exact ⟨hdf, v9, hx2, .inr ⟨hx1, rfl⟩⟩
  refine wp_region_T (S := fun _ => True) 8 (by kernel_rfl) trivial (fun hHeld => ?_)
  have hbd : Below w.heap.size w w.drew := (Below.refl _ _).drew
  generalize hwq : World.drew w = wq at hHeld hbd ⊢
  have HW0 := hide (HW0.out.below hbd)
  have HC0 := hide (HC0.out.below hbd HC0.out.lt)
  have HM0 : Hid (Mw b w v wq v) := hide (HM0.out.trans (Mw.of hbd))
  have hB0 : B ≤ wq.heap.size := Nat.le_trans hB0 hbd.size
  clear hwq hbd
  refine takeP [7] 0 (some 4) (wif b) rfl rfl (by kernel_rfl) (by kernel_rfl) (by kernel_rfl) (by kernel_rfl) (by kernel_rfl) (by decide) (fun _ _ _ h => h) (by rfl) (fun w_ hw => by first | rfl | (go_simp; done) | (go_simp; rfl)) hHeld ?_
  simp only [Act.put, List.setIfInBounds_toArray, List.set_cons_zero, List.set_cons_succ]
  refine takeP [3, 2] 1 (some 5) (.pointer (some ⟨c, 135, none⟩)) rfl rfl (by kernel_rfl) (by kernel_rfl) (by kernel_rfl) (by kernel_rfl) (by kernel_rfl) (by decide) (fun _ _ _ h => h) (by rfl) (fun w_ hw => by first | rfl | (go_simp; done) | (go_simp; rfl)) hHeld ?_
  simp only [Act.put, List.setIfInBounds_toArray, List.set_cons_zero, List.set_cons_succ]
  refine takeP [3] 2 (some 6) (.pointer (some ⟨c, 135, none⟩)) rfl rfl (by kernel_rfl) (by kernel_rfl) (by kernel_rfl) (by kernel_rfl) (by kernel_rfl) (by decide) (fun _ _ _ h => h) (by rfl) (fun w_ hw => by first | rfl | (go_simp; done) | (go_simp; rfl)) hHeld ?_
  simp only [Act.put, List.setIfInBounds_toArray, List.set_cons_zero, List.set_cons_succ]
  refine takeT 3 (some 7) (.pointer (some ⟨c, 135, none⟩)) rfl rfl (by kernel_rfl) (by kernel_rfl) (by kernel_rfl) (by kernel_rfl) (by decide) (fun _ _ _ h => h) (by rfl) (fun w_ hw => by first | rfl | (go_simp; done) | (go_simp; rfl)) hHeld ?_
  simp only [Act.put, List.setIfInBounds_toArray, List.set_cons_zero, List.set_cons_succ]
  refine takeP [7] 5 (some 9) (.func (Fn.method "escrow/script.name") #[wif b] #[]) rfl rfl (by kernel_rfl) (by kernel_rfl) (by kernel_rfl) (by kernel_rfl) (by kernel_rfl) (by decide) (fun _ _ _ h => h) (by rfl) (fun w_ hw => by first | rfl | (go_simp; done) | (go_simp; rfl)) hHeld ?_
  simp only [Act.put, List.setIfInBounds_toArray, List.set_cons_zero, List.set_cons_succ]
  refine takeP [7] 6 (some 10) (.func (Fn.method "escrow/script.name") #[wif b] #[]) rfl rfl (by kernel_rfl) (by kernel_rfl) (by kernel_rfl) (by kernel_rfl) (by kernel_rfl) (by decide) (fun _ _ _ h => h) (by rfl) (fun w_ hw => by unfold wif; go_simp) hHeld ?_
  simp only [Act.put, List.setIfInBounds_toArray, List.set_cons_zero, List.set_cons_succ]
  refine takeT 7 (some 11) (wif b) rfl rfl (by kernel_rfl) (by kernel_rfl) (by kernel_rfl) (by kernel_rfl) (by decide) (fun _ _ _ h => h) (by rfl) (fun w_ hw => by first | rfl | (go_simp; done) | (go_simp; rfl)) hHeld ?_
  simp only [Act.put, List.setIfInBounds_toArray, List.set_cons_zero, List.set_cons_succ]
  refine readyT 4 (by kernel_rfl) rfl (by rfl) (fun K hK => ?_)
  go_simp
  refine (stepNames_any _).mono ?_
  rintro e wn ⟨rfl, hwn⟩
  have bn : Below wq.heap.size wq wn := by rw [hwn]; exact (Below.refl _ wq).alloc (Nat.le_refl _) _
  have hNm : Nm wn wq.heap.size stepN := by rw [hwn]; exact Nm.new wq stepN
  have HW0 := hide (HW0.out.below bn)
  have HC0 := hide (HC0.out.below bn HC0.out.lt)
  have HM0 : Hid (Mw b w v wn v) := hide (HM0.out.trans (Mw.of bn))
  have hB0 : B ≤ wn.heap.size := Nat.le_trans hB0 bn.size
  clear bn hwn
  try go_wp2_with fail
  refine hK.out _ _ (fun _ => trivial) (fun hH => ?_)
  clear hHeld
  have hHeld := hH (by decide)
  clear hK K hH
  refine readyT 8 (by kernel_rfl) rfl (by rfl) (fun K hK => ?_)
  unfold wif
  go_simp
  clear na mt hmf
  refine (wname_any b N c 135 176 wq.heap.size 14 stepN _ f (kd (f 135)) _ (x) _ hNm rfl (by decide) len_stepN HW0.out HC0.out (by omega) (hok.int 135 (by decide)).1 hx0).mono ?_
  rintro e w1 ⟨v1, hM, ⟨s1, hA, rfl, hW⟩ | ⟨hA, rfl⟩⟩
  case inr => exact ⟨rfl, rfl, by rw [HQ0.out, hA]; rfl, v1, HM0.out.trans hM⟩
  try go_wp2_with fail
  refine hK.out _ _ (fun x => absurd rfl x) (fun _ => ?_)
  clear hK K hHeld
  refine ⟨by kernel_rfl, ?_⟩
  refine Pan.normal ?_
  clear hNm
  have HM1 : Hid (Mw b w v w1 v1) := hide (HM0.out.trans hM)
  have HW1 : Hid (Wr w1 b N v1 (wordW s1 (x)).1 (wordW s1 (x)).2) := hide hW
  have HC1 : Hid (Has w1 c 40 f 176) := hide (hM.has HC0.out hcb (HM0.out.ne hcl hvc))
  have HE1 := hide (HEw.out.below (HM1.out.below hBw hb (fun k e => by have := hrow k e; omega)))
  have hB1 : B ≤ w1.heap.size := Nat.le_trans hBw HM1.out.size
  have hx1 : (wordW s1 (x)).1.length ≤ 65536 := wordW_le hx0
  have HQ1 : Hid (R = if kd (f 135) = 1 then some (wordW (hexL (hbv f 139)) (wordW (F (kd (f 136))) (wordW s1 x))) else if kd (f 135) = 2 then some (wordW (hexL (hbv f 139)) (wordW (F (kd (f 137))) (wordW s1 x))) else if kd (f 135) = 3 then some (quoW (sbv (f 171)) (wordW (F (kd (f 137))) (wordW s1 x))) else if kd (f 135) = 8 then some (quoW (sbv (f 172)) (wordW s1 x)) else if kd (f 135) = 10 ∨ kd (f 135) = 11 then some (wordW (F (kd (f 138))) (wordW s1 x)) else if kd (f 135) = 12 then fatesW F gs (wordW (F (kd (f 138))) (wordW s1 x)) else some (wordW s1 x)) := hide (by rw [HQ0.out, hA]; rfl)
  clear hW hM hA
  have hk2 : w1.cell? ⟨c, 135, none⟩ = some (.int .i64 (kd (f 135))) := by rw [HC1.out.cell 135 (by omega), ← (hok.int 135 (by decide)).1]
  generalize hkk : kd (f 135) = kk at hk2 HQ1
  clear hkk
  by_cases e1 : kk = 1
  · have hd1 : (kk == 1) = true := by rw [e1]; rfl
    have HQ1 : Hid (R = some (wordW (hexL (hbv f 139)) (wordW (F (kd (f 136))) (wordW s1 x)))) := hide (by rw [HQ1.out, if_pos (by omega)])
    clear e1
    have na := wna_number b
    have mt := wmt_number b
    have hmf := mkF
    go_wp2_with fail
    refine wp_region_drew_tail 7 (by kernel_rfl) (by kernel_rfl) ?_
    simp only [List.take_succ_cons, List.take_zero, List.drop_succ_cons, List.drop_zero]
    iterate 7 (go_big_quiet_step (fail))
    refine wpQuiet_nil ?_
    intro _ hw'
    obtain ⟨nq, rfl⟩ := hw'
    clear na
    have hbd := belowD (Below.refl w1.heap.size w1) nq
    generalize hwq : World.drewN w1 nq = wq at hbd ⊢
    have HW1 := hide (HW1.out.below hbd)
    have HC1 := hide (HC1.out.below hbd HC1.out.lt)
    have HM1 : Hid (Mw b w v wq v1) := hide (HM1.out.trans (Mw.of hbd))
    have HE1 := hide (HE1.out.below (hbd.mono hB1))
    have hB1 : B ≤ wq.heap.size := Nat.le_trans hB1 hbd.size
    clear hwq hbd
    go_wp2_with fail
    clear mt hmf
    refine (wnumber_any b N c 136 176 _ f (kd (f 136)) _ (wordW s1 (x)) _ HE1.out hB1 hb hN HW1.out HC1.out (by omega) (hok.int 136 (by decide)).1 (hok.int 136 (by decide)).2.1 (hok.int 136 (by decide)).2.2 hx1).mono ?_
    rintro e w2 ⟨rfl, v2, hW, hM⟩
    have HM2 : Hid (Mw b w v w2 v2) := hide (HM1.out.trans hM)
    have HW2 : Hid (Wr w2 b N v2 (wordW (F (kd (f 136))) (wordW s1 (x))).1 (wordW (F (kd (f 136))) (wordW s1 (x))).2) := hide hW
    have HC2 : Hid (Has w2 c 40 f 176) := hide (hM.has HC1.out hcb (HM1.out.ne hcl hvc))
    have HE2 := hide (HEw.out.below (HM2.out.below hBw hb (fun k e => by have := hrow k e; omega)))
    have hB2 : B ≤ w2.heap.size := Nat.le_trans hBw HM2.out.size
    have hx2 : (wordW (F (kd (f 136))) (wordW s1 (x))).1.length ≤ 65536 := wordW_le hx1
    clear hW hM
    have HQ2 := HQ1
    have na := wna_hash b
    have mt := wmt_hash b
    have hmf := mkF
    go_wp2_with fail
    refine wp_region_drew_tail 7 (by kernel_rfl) (by kernel_rfl) ?_
    simp only [List.take_succ_cons, List.take_zero, List.drop_succ_cons, List.drop_zero]
    iterate 7 (go_big_quiet_step (fail))
    refine wpQuiet_nil ?_
    intro _ hw'
    obtain ⟨nq, rfl⟩ := hw'
    clear na
    have hbd := belowD (Below.refl w2.heap.size w2) nq
    generalize hwq : World.drewN w2 nq = wq at hbd ⊢
    have HW2 := hide (HW2.out.below hbd)
    have HC2 := hide (HC2.out.below hbd HC2.out.lt)
    have HM2 : Hid (Mw b w v wq v2) := hide (HM2.out.trans (Mw.of hbd))
    have HE2 := hide (HE2.out.below (hbd.mono hB2))
    have hB2 : B ≤ wq.heap.size := Nat.le_trans hB2 hbd.size
    clear hwq hbd
    go_wp2_with fail
    clear mt hmf
    refine (whash_any b N c 139 176 _ f (hbv f 139) _ (wordW (F (kd (f 136))) (wordW s1 (x))) _ HW2.out HC2.out (by omega) (hok.hash 139 (by decide)) hx2).mono ?_
    rintro e w3 ⟨rfl, v3, hW, hM⟩
    have HM3 : Hid (Mw b w v w3 v3) := hide (HM2.out.trans hM)
    have HW3 : Hid (Wr w3 b N v3 (wordW (hexL (hbv f 139)) (wordW (F (kd (f 136))) (wordW s1 (x)))).1 (wordW (hexL (hbv f 139)) (wordW (F (kd (f 136))) (wordW s1 (x)))).2) := hide hW
    have HC3 : Hid (Has w3 c 40 f 176) := hide (hM.has HC2.out hcb (HM2.out.ne hcl hvc))
    have HE3 := hide (HEw.out.below (HM3.out.below hBw hb (fun k e => by have := hrow k e; omega)))
    have hB3 : B ≤ w3.heap.size := Nat.le_trans hBw HM3.out.size
    have hx3 : (wordW (hexL (hbv f 139)) (wordW (F (kd (f 136))) (wordW s1 (x)))).1.length ≤ 65536 := wordW_le hx2
    clear hW hM
    have HQ3 := HQ2
    go_wp2
    go_end0
    exact ⟨v3, HM3.out, .inl ⟨_, HQ3.out, rfl, HW3.out, hx3⟩⟩
  have hd1 : (kk == 1) = false := beq_eq_false_iff_ne.2 e1
  have HQ1 : Hid (R = if kk = 2 then some (wordW (hexL (hbv f 139)) (wordW (F (kd (f 137))) (wordW s1 x))) else if kk = 3 then some (quoW (sbv (f 171)) (wordW (F (kd (f 137))) (wordW s1 x))) else if kk = 8 then some (quoW (sbv (f 172)) (wordW s1 x)) else if kk = 10 ∨ kk = 11 then some (wordW (F (kd (f 138))) (wordW s1 x)) else if kk = 12 then fatesW F gs (wordW (F (kd (f 138))) (wordW s1 x)) else some (wordW s1 x)) := hide (by rw [HQ1.out, if_neg (by omega)])
  clear e1
  by_cases e2 : kk = 2
  · have hd2 : (kk == 2) = true := by rw [e2]; rfl
    have HQ1 : Hid (R = some (wordW (hexL (hbv f 139)) (wordW (F (kd (f 137))) (wordW s1 x)))) := hide (by rw [HQ1.out, if_pos (by omega)])
    clear e2
    have na := wna_number b
    have mt := wmt_number b
    have hmf := mkF
    go_wp2_with fail
    refine wp_region_drew_tail 7 (by kernel_rfl) (by kernel_rfl) ?_
    simp only [List.take_succ_cons, List.take_zero, List.drop_succ_cons, List.drop_zero]
    iterate 7 (go_big_quiet_step (fail))
    refine wpQuiet_nil ?_
    intro _ hw'
    obtain ⟨nq, rfl⟩ := hw'
    clear na
    have hbd := belowD (Below.refl w1.heap.size w1) nq
    generalize hwq : World.drewN w1 nq = wq at hbd ⊢
    have HW1 := hide (HW1.out.below hbd)
    have HC1 := hide (HC1.out.below hbd HC1.out.lt)
    have HM1 : Hid (Mw b w v wq v1) := hide (HM1.out.trans (Mw.of hbd))
    have HE1 := hide (HE1.out.below (hbd.mono hB1))
    have hB1 : B ≤ wq.heap.size := Nat.le_trans hB1 hbd.size
    clear hwq hbd
    go_wp2_with fail
    clear mt hmf
    refine (wnumber_any b N c 137 176 _ f (kd (f 137)) _ (wordW s1 (x)) _ HE1.out hB1 hb hN HW1.out HC1.out (by omega) (hok.int 137 (by decide)).1 (hok.int 137 (by decide)).2.1 (hok.int 137 (by decide)).2.2 hx1).mono ?_
    rintro e w2 ⟨rfl, v2, hW, hM⟩
    have HM2 : Hid (Mw b w v w2 v2) := hide (HM1.out.trans hM)
    have HW2 : Hid (Wr w2 b N v2 (wordW (F (kd (f 137))) (wordW s1 (x))).1 (wordW (F (kd (f 137))) (wordW s1 (x))).2) := hide hW
    have HC2 : Hid (Has w2 c 40 f 176) := hide (hM.has HC1.out hcb (HM1.out.ne hcl hvc))
    have HE2 := hide (HEw.out.below (HM2.out.below hBw hb (fun k e => by have := hrow k e; omega)))
    have hB2 : B ≤ w2.heap.size := Nat.le_trans hBw HM2.out.size
    have hx2 : (wordW (F (kd (f 137))) (wordW s1 (x))).1.length ≤ 65536 := wordW_le hx1
    clear hW hM
    have HQ2 := HQ1
    have na := wna_hash b
    have mt := wmt_hash b
    have hmf := mkF
    go_wp2_with fail
    refine wp_region_drew_tail 7 (by kernel_rfl) (by kernel_rfl) ?_
    simp only [List.take_succ_cons, List.take_zero, List.drop_succ_cons, List.drop_zero]
    iterate 7 (go_big_quiet_step (fail))
    refine wpQuiet_nil ?_
    intro _ hw'
    obtain ⟨nq, rfl⟩ := hw'
    clear na
    have hbd := belowD (Below.refl w2.heap.size w2) nq
    generalize hwq : World.drewN w2 nq = wq at hbd ⊢
    have HW2 := hide (HW2.out.below hbd)
    have HC2 := hide (HC2.out.below hbd HC2.out.lt)
    have HM2 : Hid (Mw b w v wq v2) := hide (HM2.out.trans (Mw.of hbd))
    have HE2 := hide (HE2.out.below (hbd.mono hB2))
    have hB2 : B ≤ wq.heap.size := Nat.le_trans hB2 hbd.size
    clear hwq hbd
    go_wp2_with fail
    clear mt hmf
    refine (whash_any b N c 139 176 _ f (hbv f 139) _ (wordW (F (kd (f 137))) (wordW s1 (x))) _ HW2.out HC2.out (by omega) (hok.hash 139 (by decide)) hx2).mono ?_
    rintro e w3 ⟨rfl, v3, hW, hM⟩
    have HM3 : Hid (Mw b w v w3 v3) := hide (HM2.out.trans hM)
    have HW3 : Hid (Wr w3 b N v3 (wordW (hexL (hbv f 139)) (wordW (F (kd (f 137))) (wordW s1 (x)))).1 (wordW (hexL (hbv f 139)) (wordW (F (kd (f 137))) (wordW s1 (x)))).2) := hide hW
    have HC3 : Hid (Has w3 c 40 f 176) := hide (hM.has HC2.out hcb (HM2.out.ne hcl hvc))
    have HE3 := hide (HEw.out.below (HM3.out.below hBw hb (fun k e => by have := hrow k e; omega)))
    have hB3 : B ≤ w3.heap.size := Nat.le_trans hBw HM3.out.size
    have hx3 : (wordW (hexL (hbv f 139)) (wordW (F (kd (f 137))) (wordW s1 (x)))).1.length ≤ 65536 := wordW_le hx2
    clear hW hM
    have HQ3 := HQ2
    go_wp2
    go_end0
    exact ⟨v3, HM3.out, .inl ⟨_, HQ3.out, rfl, HW3.out, hx3⟩⟩
  have hd2 : (kk == 2) = false := beq_eq_false_iff_ne.2 e2
  have HQ1 : Hid (R = if kk = 3 then some (quoW (sbv (f 171)) (wordW (F (kd (f 137))) (wordW s1 x))) else if kk = 8 then some (quoW (sbv (f 172)) (wordW s1 x)) else if kk = 10 ∨ kk = 11 then some (wordW (F (kd (f 138))) (wordW s1 x)) else if kk = 12 then fatesW F gs (wordW (F (kd (f 138))) (wordW s1 x)) else some (wordW s1 x)) := hide (by rw [HQ1.out, if_neg (by omega)])
  clear e2
  by_cases e3 : kk = 3
  · have hd3 : (kk == 3) = true := by rw [e3]; rfl
    have HQ1 : Hid (R = some (quoW (sbv (f 171)) (wordW (F (kd (f 137))) (wordW s1 x)))) := hide (by rw [HQ1.out, if_pos (by omega)])
    clear e3
    have na := wna_number b
    have mt := wmt_number b
    have hmf := mkF
    go_wp2_with fail
    refine wp_region_drew_tail 7 (by kernel_rfl) (by kernel_rfl) ?_
    simp only [List.take_succ_cons, List.take_zero, List.drop_succ_cons, List.drop_zero]
    iterate 7 (go_big_quiet_step (fail))
    refine wpQuiet_nil ?_
    intro _ hw'
    obtain ⟨nq, rfl⟩ := hw'
    clear na
    have hbd := belowD (Below.refl w1.heap.size w1) nq
    generalize hwq : World.drewN w1 nq = wq at hbd ⊢
    have HW1 := hide (HW1.out.below hbd)
    have HC1 := hide (HC1.out.below hbd HC1.out.lt)
    have HM1 : Hid (Mw b w v wq v1) := hide (HM1.out.trans (Mw.of hbd))
    have HE1 := hide (HE1.out.below (hbd.mono hB1))
    have hB1 : B ≤ wq.heap.size := Nat.le_trans hB1 hbd.size
    clear hwq hbd
    go_wp2_with fail
    clear mt hmf
    refine (wnumber_any b N c 137 176 _ f (kd (f 137)) _ (wordW s1 (x)) _ HE1.out hB1 hb hN HW1.out HC1.out (by omega) (hok.int 137 (by decide)).1 (hok.int 137 (by decide)).2.1 (hok.int 137 (by decide)).2.2 hx1).mono ?_
    rintro e w2 ⟨rfl, v2, hW, hM⟩
    have HM2 : Hid (Mw b w v w2 v2) := hide (HM1.out.trans hM)
    have HW2 : Hid (Wr w2 b N v2 (wordW (F (kd (f 137))) (wordW s1 (x))).1 (wordW (F (kd (f 137))) (wordW s1 (x))).2) := hide hW
    have HC2 : Hid (Has w2 c 40 f 176) := hide (hM.has HC1.out hcb (HM1.out.ne hcl hvc))
    have HE2 := hide (HEw.out.below (HM2.out.below hBw hb (fun k e => by have := hrow k e; omega)))
    have hB2 : B ≤ w2.heap.size := Nat.le_trans hBw HM2.out.size
    have hx2 : (wordW (F (kd (f 137))) (wordW s1 (x))).1.length ≤ 65536 := wordW_le hx1
    clear hW hM
    have HQ2 := HQ1
    have na := wna_quoted b
    have mt := wmt_quoted b
    have hmf := mkF
    go_wp2_with fail
    refine wp_region_drew_tail 7 (by kernel_rfl) (by kernel_rfl) ?_
    simp only [List.take_succ_cons, List.take_zero, List.drop_succ_cons, List.drop_zero]
    iterate 7 (go_big_quiet_step (fail))
    refine wpQuiet_nil ?_
    intro _ hw'
    obtain ⟨nq, rfl⟩ := hw'
    clear na
    have hbd := belowD (Below.refl w2.heap.size w2) nq
    generalize hwq : World.drewN w2 nq = wq at hbd ⊢
    have HW2 := hide (HW2.out.below hbd)
    have HC2 := hide (HC2.out.below hbd HC2.out.lt)
    have HM2 : Hid (Mw b w v wq v2) := hide (HM2.out.trans (Mw.of hbd))
    have HE2 := hide (HE2.out.below (hbd.mono hB2))
    have hB2 : B ≤ wq.heap.size := Nat.le_trans hB2 hbd.size
    clear hwq hbd
    go_wp2_with fail
    clear mt hmf
    refine (wquoted_any b N c 171 176 _ f (sbv (f 171)) _ (wordW (F (kd (f 137))) (wordW s1 (x))) _ HW2.out HC2.out (by omega) (hok.str 171 (by decide)).1 hcb (HM2.out.ne hcl hvc) (hok.str 171 (by decide)).2 hx2).mono ?_
    rintro e w3 ⟨rfl, v3, hW, hM⟩
    have HM3 : Hid (Mw b w v w3 v3) := hide (HM2.out.trans hM)
    have HW3 : Hid (Wr w3 b N v3 (quoW (sbv (f 171)) (wordW (F (kd (f 137))) (wordW s1 (x)))).1 (quoW (sbv (f 171)) (wordW (F (kd (f 137))) (wordW s1 (x)))).2) := hide hW
    have HC3 : Hid (Has w3 c 40 f 176) := hide (hM.has HC2.out hcb (HM2.out.ne hcl hvc))
    have HE3 := hide (HEw.out.below (HM3.out.below hBw hb (fun k e => by have := hrow k e; omega)))
    have hB3 : B ≤ w3.heap.size := Nat.le_trans hBw HM3.out.size
    have hx3 : (quoW (sbv (f 171)) (wordW (F (kd (f 137))) (wordW s1 (x)))).1.length ≤ 65536 := quoW_le hx2
    clear hW hM
    have HQ3 := HQ2
    go_wp2
    go_end0
    exact ⟨v3, HM3.out, .inl ⟨_, HQ3.out, rfl, HW3.out, hx3⟩⟩
  have hd3 : (kk == 3) = false := beq_eq_false_iff_ne.2 e3
  have HQ1 : Hid (R = if kk = 8 then some (quoW (sbv (f 172)) (wordW s1 x)) else if kk = 10 ∨ kk = 11 then some (wordW (F (kd (f 138))) (wordW s1 x)) else if kk = 12 then fatesW F gs (wordW (F (kd (f 138))) (wordW s1 x)) else some (wordW s1 x)) := hide (by rw [HQ1.out, if_neg (by omega)])
  clear e3
  by_cases e8 : kk = 8
  · have hd8 : (kk == 8) = true := by rw [e8]; rfl
    have HQ1 : Hid (R = some (quoW (sbv (f 172)) (wordW s1 x))) := hide (by rw [HQ1.out, if_pos (by omega)])
    clear e8
    have na := wna_quoted b
    have mt := wmt_quoted b
    have hmf := mkF
    go_wp2_with fail
    refine wp_region_drew_tail 7 (by kernel_rfl) (by kernel_rfl) ?_
    simp only [List.take_succ_cons, List.take_zero, List.drop_succ_cons, List.drop_zero]
    iterate 7 (go_big_quiet_step (fail))
    refine wpQuiet_nil ?_
    intro _ hw'
    obtain ⟨nq, rfl⟩ := hw'
    clear na
    have hbd := belowD (Below.refl w1.heap.size w1) nq
    generalize hwq : World.drewN w1 nq = wq at hbd ⊢
    have HW1 := hide (HW1.out.below hbd)
    have HC1 := hide (HC1.out.below hbd HC1.out.lt)
    have HM1 : Hid (Mw b w v wq v1) := hide (HM1.out.trans (Mw.of hbd))
    have HE1 := hide (HE1.out.below (hbd.mono hB1))
    have hB1 : B ≤ wq.heap.size := Nat.le_trans hB1 hbd.size
    clear hwq hbd
    go_wp2_with fail
    clear mt hmf
    refine (wquoted_any b N c 172 176 _ f (sbv (f 172)) _ (wordW s1 (x)) _ HW1.out HC1.out (by omega) (hok.str 172 (by decide)).1 hcb (HM1.out.ne hcl hvc) (hok.str 172 (by decide)).2 hx1).mono ?_
    rintro e w2 ⟨rfl, v2, hW, hM⟩
    have HM2 : Hid (Mw b w v w2 v2) := hide (HM1.out.trans hM)
    have HW2 : Hid (Wr w2 b N v2 (quoW (sbv (f 172)) (wordW s1 (x))).1 (quoW (sbv (f 172)) (wordW s1 (x))).2) := hide hW
    have HC2 : Hid (Has w2 c 40 f 176) := hide (hM.has HC1.out hcb (HM1.out.ne hcl hvc))
    have HE2 := hide (HEw.out.below (HM2.out.below hBw hb (fun k e => by have := hrow k e; omega)))
    have hB2 : B ≤ w2.heap.size := Nat.le_trans hBw HM2.out.size
    have hx2 : (quoW (sbv (f 172)) (wordW s1 (x))).1.length ≤ 65536 := quoW_le hx1
    clear hW hM
    have HQ2 := HQ1
    go_wp2
    go_end0
    exact ⟨v2, HM2.out, .inl ⟨_, HQ2.out, rfl, HW2.out, hx2⟩⟩
  have hd8 : (kk == 8) = false := beq_eq_false_iff_ne.2 e8
  have HQ1 : Hid (R = if kk = 10 ∨ kk = 11 then some (wordW (F (kd (f 138))) (wordW s1 x)) else if kk = 12 then fatesW F gs (wordW (F (kd (f 138))) (wordW s1 x)) else some (wordW s1 x)) := hide (by rw [HQ1.out, if_neg (by omega)])
  clear e8
  by_cases e10 : kk = 10
  · have hd10 : (kk == 10) = true := by rw [e10]; rfl
    have HQ1 : Hid (R = some (wordW (F (kd (f 138))) (wordW s1 x))) := hide (by rw [HQ1.out, if_pos (by omega)])
    clear e10
    have na := wna_number b
    have mt := wmt_number b
    have hmf := mkF
    go_wp2_with fail
    refine wp_region_drew_tail 7 (by kernel_rfl) (by kernel_rfl) ?_
    simp only [List.take_succ_cons, List.take_zero, List.drop_succ_cons, List.drop_zero]
    iterate 7 (go_big_quiet_step (fail))
    refine wpQuiet_nil ?_
    intro _ hw'
    obtain ⟨nq, rfl⟩ := hw'
    clear na
    have hbd := belowD (Below.refl w1.heap.size w1) nq
    generalize hwq : World.drewN w1 nq = wq at hbd ⊢
    have HW1 := hide (HW1.out.below hbd)
    have HC1 := hide (HC1.out.below hbd HC1.out.lt)
    have HM1 : Hid (Mw b w v wq v1) := hide (HM1.out.trans (Mw.of hbd))
    have HE1 := hide (HE1.out.below (hbd.mono hB1))
    have hB1 : B ≤ wq.heap.size := Nat.le_trans hB1 hbd.size
    clear hwq hbd
    go_wp2_with fail
    clear mt hmf
    refine (wnumber_any b N c 138 176 _ f (kd (f 138)) _ (wordW s1 (x)) _ HE1.out hB1 hb hN HW1.out HC1.out (by omega) (hok.int 138 (by decide)).1 (hok.int 138 (by decide)).2.1 (hok.int 138 (by decide)).2.2 hx1).mono ?_
    rintro e w2 ⟨rfl, v2, hW, hM⟩
    have HM2 : Hid (Mw b w v w2 v2) := hide (HM1.out.trans hM)
    have HW2 : Hid (Wr w2 b N v2 (wordW (F (kd (f 138))) (wordW s1 (x))).1 (wordW (F (kd (f 138))) (wordW s1 (x))).2) := hide hW
    have HC2 : Hid (Has w2 c 40 f 176) := hide (hM.has HC1.out hcb (HM1.out.ne hcl hvc))
    have HE2 := hide (HEw.out.below (HM2.out.below hBw hb (fun k e => by have := hrow k e; omega)))
    have hB2 : B ≤ w2.heap.size := Nat.le_trans hBw HM2.out.size
    have hx2 : (wordW (F (kd (f 138))) (wordW s1 (x))).1.length ≤ 65536 := wordW_le hx1
    clear hW hM
    have HQ2 := HQ1
    go_wp2
    go_end0
    exact ⟨v2, HM2.out, .inl ⟨_, HQ2.out, rfl, HW2.out, hx2⟩⟩
  have hd10 : (kk == 10) = false := beq_eq_false_iff_ne.2 e10
  by_cases e11 : kk = 11
  · have hd11 : (kk == 11) = true := by rw [e11]; rfl
    have HQ1 : Hid (R = some (wordW (F (kd (f 138))) (wordW s1 x))) := hide (by rw [HQ1.out, if_pos (by omega)])
    clear e10 e11
    have na := wna_number b
    have mt := wmt_number b
    have hmf := mkF
    go_wp2_with fail
    refine wp_region_drew_tail 7 (by kernel_rfl) (by kernel_rfl) ?_
    simp only [List.take_succ_cons, List.take_zero, List.drop_succ_cons, List.drop_zero]
    iterate 7 (go_big_quiet_step (fail))
    refine wpQuiet_nil ?_
    intro _ hw'
    obtain ⟨nq, rfl⟩ := hw'
    clear na
    have hbd := belowD (Below.refl w1.heap.size w1) nq
    generalize hwq : World.drewN w1 nq = wq at hbd ⊢
    have HW1 := hide (HW1.out.below hbd)
    have HC1 := hide (HC1.out.below hbd HC1.out.lt)
    have HM1 : Hid (Mw b w v wq v1) := hide (HM1.out.trans (Mw.of hbd))
    have HE1 := hide (HE1.out.below (hbd.mono hB1))
    have hB1 : B ≤ wq.heap.size := Nat.le_trans hB1 hbd.size
    clear hwq hbd
    go_wp2_with fail
    clear mt hmf
    refine (wnumber_any b N c 138 176 _ f (kd (f 138)) _ (wordW s1 (x)) _ HE1.out hB1 hb hN HW1.out HC1.out (by omega) (hok.int 138 (by decide)).1 (hok.int 138 (by decide)).2.1 (hok.int 138 (by decide)).2.2 hx1).mono ?_
    rintro e w2 ⟨rfl, v2, hW, hM⟩
    have HM2 : Hid (Mw b w v w2 v2) := hide (HM1.out.trans hM)
    have HW2 : Hid (Wr w2 b N v2 (wordW (F (kd (f 138))) (wordW s1 (x))).1 (wordW (F (kd (f 138))) (wordW s1 (x))).2) := hide hW
    have HC2 : Hid (Has w2 c 40 f 176) := hide (hM.has HC1.out hcb (HM1.out.ne hcl hvc))
    have HE2 := hide (HEw.out.below (HM2.out.below hBw hb (fun k e => by have := hrow k e; omega)))
    have hB2 : B ≤ w2.heap.size := Nat.le_trans hBw HM2.out.size
    have hx2 : (wordW (F (kd (f 138))) (wordW s1 (x))).1.length ≤ 65536 := wordW_le hx1
    clear hW hM
    have HQ2 := HQ1
    go_wp2
    go_end0
    exact ⟨v2, HM2.out, .inl ⟨_, HQ2.out, rfl, HW2.out, hx2⟩⟩
  have hd11 : (kk == 11) = false := beq_eq_false_iff_ne.2 e11
  have HQ1 : Hid (R = if kk = 12 then fatesW F gs (wordW (F (kd (f 138))) (wordW s1 x)) else some (wordW s1 x)) := hide (by rw [HQ1.out, if_neg (by omega)])
  clear e10 e11
  by_cases e12 : kk = 12
  · have hd12 : (kk == 12) = true := by rw [e12]; rfl
    have HQ1 : Hid (R = fatesW F gs (wordW (F (kd (f 138))) (wordW s1 x))) := hide (by rw [HQ1.out, if_pos (by omega)])
    clear e12
    have na := wna_number b
    have mt := wmt_number b
    have hmf := mkF
    go_wp2_with fail
    refine wp_region_drew_tail 7 (by kernel_rfl) (by kernel_rfl) ?_
    simp only [List.take_succ_cons, List.take_zero, List.drop_succ_cons, List.drop_zero]
    iterate 7 (go_big_quiet_step (fail))
    refine wpQuiet_nil ?_
    intro _ hw'
    obtain ⟨nq, rfl⟩ := hw'
    clear na
    have hbd := belowD (Below.refl w1.heap.size w1) nq
    generalize hwq : World.drewN w1 nq = wq at hbd ⊢
    have HW1 := hide (HW1.out.below hbd)
    have HC1 := hide (HC1.out.below hbd HC1.out.lt)
    have HM1 : Hid (Mw b w v wq v1) := hide (HM1.out.trans (Mw.of hbd))
    have HE1 := hide (HE1.out.below (hbd.mono hB1))
    have hB1 : B ≤ wq.heap.size := Nat.le_trans hB1 hbd.size
    clear hwq hbd
    go_wp2_with fail
    clear mt hmf
    refine (wnumber_any b N c 138 176 _ f (kd (f 138)) _ (wordW s1 (x)) _ HE1.out hB1 hb hN HW1.out HC1.out (by omega) (hok.int 138 (by decide)).1 (hok.int 138 (by decide)).2.1 (hok.int 138 (by decide)).2.2 hx1).mono ?_
    rintro e w2 ⟨rfl, v2, hW, hM⟩
    have HM2 : Hid (Mw b w v w2 v2) := hide (HM1.out.trans hM)
    have HW2 : Hid (Wr w2 b N v2 (wordW (F (kd (f 138))) (wordW s1 (x))).1 (wordW (F (kd (f 138))) (wordW s1 (x))).2) := hide hW
    have HC2 : Hid (Has w2 c 40 f 176) := hide (hM.has HC1.out hcb (HM1.out.ne hcl hvc))
    have HE2 := hide (HEw.out.below (HM2.out.below hBw hb (fun k e => by have := hrow k e; omega)))
    have hB2 : B ≤ w2.heap.size := Nat.le_trans hBw HM2.out.size
    have hx2 : (wordW (F (kd (f 138))) (wordW s1 (x))).1.length ≤ 65536 := wordW_le hx1
    clear hW hM
    have HQ2 := HQ1
    have na := wna_fates b
    have mt := wmt_fates b
    have hmf := mkF
    go_wp2_with fail
    refine wp_region_drew_tail 7 (by kernel_rfl) (by kernel_rfl) ?_
    simp only [List.take_succ_cons, List.take_zero, List.drop_succ_cons, List.drop_zero]
    iterate 7 (go_big_quiet_step (fail))
    refine wpQuiet_nil ?_
    intro _ hw'
    obtain ⟨nq, rfl⟩ := hw'
    clear na
    have hbd := belowD (Below.refl w2.heap.size w2) nq
    generalize hwq : World.drewN w2 nq = wq at hbd ⊢
    have HW2 := hide (HW2.out.below hbd)
    have HC2 := hide (HC2.out.below hbd HC2.out.lt)
    have HM2 : Hid (Mw b w v wq v2) := hide (HM2.out.trans (Mw.of hbd))
    have HE2 := hide (HE2.out.below (hbd.mono hB2))
    have hB2 : B ≤ wq.heap.size := Nat.le_trans hB2 hbd.size
    clear hwq hbd
    go_wp2_with fail
    clear mt hmf
    refine (wfates_any b N c 173 176 _ f ad cap gs _ (wordW (F (kd (f 138))) (wordW s1 (x))) _ HE2.out hB2 hb hN HW2.out HC2.out (by omega) H173.out (HS.out.mw HM2.out) hgl hx2).mono ?_
    rintro e w3 ⟨v3, hM, ⟨y, hA, rfl, hW, hy⟩ | ⟨hA, rfl⟩⟩
    · have HQn : Hid (R = some y) := hide (by rw [HQ2.out, hA])
      have HMn := hide (HM2.out.trans hM)
      have HWn := hide hW
      clear hA hM hW
      go_wp2
      go_end0
      exact ⟨v3, HMn.out, .inl ⟨y, HQn.out, rfl, HWn.out, hy⟩⟩
    · have HQn : Hid (R = none) := hide (by rw [HQ2.out, hA])
      have HMn := hide (HM2.out.trans hM)
      clear hA hM
      go_wp2
      exact ⟨rfl, v3, HMn.out, .inr ⟨HQn.out, rfl⟩⟩
  have hd12 : (kk == 12) = false := beq_eq_false_iff_ne.2 e12
  have HQ1 : Hid (R = some (wordW s1 x)) := hide (by rw [HQ1.out, if_neg (by omega)])
  clear e12
  go_wp2
  go_end0
  exact ⟨v1, HM1.out, .inl ⟨_, HQ1.out, rfl, HW1.out, hx1⟩⟩
end Go.Proofs.YtepgoehpjafbhaaGreatDoor
