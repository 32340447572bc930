/-
  script's writer: moves, worlds, commands (printed by gen_wm.py).
-/
import Derived.Test.YtepgoehpjafbhaaGreatDoorSWs
namespace Go.Proofs.YtepgoehpjafbhaaGreatDoor
open Go.RowKit S
set_option linter.unusedVariables false
set_option linter.unusedSimpArgs false
def hsW (f : Nat → Value) : Nat → Nat → WS → WS
  | 0, _, y => y
  | n + 1, off, y => hsW f n (off + 32) (wordW (hexL (hbv f off)) y)
def moveW (F : Int → List UInt8) (f : Nat → Value) (gs : List (Nat → Value)) (x : WS) : Option WS := if kd (f 133) = 1 then stepW F f gs (wordW (F (kd (f 134))) (x)) else if kd (f 133) = 4 ∨ kd (f 133) = 5 then some (wordW (F (kd (f 134))) (x)) else some (x)
def worldW (F : Int → List UInt8) (f : Nat → Value) (x : WS) : Option WS := some (hsW f 2 67 (hsW f 2 3 (wordW (F (kd (f 132))) (wordW (F (kd (f 131))) (wordW (F (kd (f 2))) (wordW (F (kd (f 1))) (x)))))))
set_option maxRecDepth 100000 in
set_option maxHeartbeats 4000000 in
theorem wmove_any {E : Prop} {B : Nat} {F : Int → List UInt8} (b N c : Nat) (f : Nat → Value) (ad : Option Addr) (cap : Nat) (gs : List (Nat → Value)) (v : Value) (x : WS) (w : World) (hE : EnvW E B F w) (hB0 : B ≤ w.heap.size) (hb : B ≤ b) (hN : B ≤ N)
    (hW : Wr w b N v x.1 x.2) (hC : Has w c 40 f 176) (hok : CdOk f) (hcb : c ≠ b) (hvc : v.ownBlock ≠ some c) (hx0 : x.1.length ≤ 65536) (h173 : f 173 = .slice ad gs.length cap) (hS : FsAt w b v ad gs) (hgl : gs.length ≤ 140737488355328) :
    Calls Tryz.prog 53 #[wif b, .pointer (some ⟨c, 133, none⟩)] w fun e w' => ∃ v', Mw b w v w' v' ∧
      ((∃ y, moveW F f gs x = some y ∧ e = .returned (.tuple #[]) ∧ Wr w' b N v' y.1 y.2 ∧ y.1.length ≤ 65536) ∨ (moveW F f gs x = none ∧ Bad e)) := by
  obtain ⟨R, hRR⟩ : ∃ R, moveW F f gs x = R := ⟨_, rfl⟩
  rw [hRR]
  have HQ0 : Hid (R = if kd (f 133) = 1 then stepW F f gs (wordW (F (kd (f 134))) (x)) else if kd (f 133) = 4 ∨ kd (f 133) = 5 then some (wordW (F (kd (f 134))) (x)) else some (x)) := hide (by rw [← hRR]; rfl)
  clear hRR
  have hcl := hC.lt
  have hrow : ∀ k, v.ownBlock = some k → B ≤ k := fun k e => Nat.le_trans hN (hW.row k e)
  have HE0 := hide hE
  have HEw := HE0
  have hBw := hB0
  have HW0 := hide hW
  have HC0 := hide hC
  have HM0 : Hid (Mw b w v w v) := hide (Mw.refl _ _ _)
  clear hE hW hC
  unfold wif
  go_enter Tryz.func53, Tryz.ntmps53
  have H173 := hide h173
  have HS := hide hS
  clear h173 hS
  have hk2 : w.cell? ⟨c, 133, none⟩ = some (.int .i64 (kd (f 133))) := by rw [HC0.out.cell 133 (by omega), ← (hok.int 133 (by decide)).1]
  generalize hkk : kd (f 133) = kk at hk2 HQ0
  clear hkk
  by_cases e1 : kk = 1
  · have hd1 : (kk == 1) = true := by rw [e1]; rfl
    have HQ0 : Hid (R = stepW F f gs (wordW (F (kd (f 134))) (x))) := hide (by rw [HQ0.out, if_pos e1])
    clear e1
    have na := wna_whole b
    have mt := wmt_whole b
    have hmf := mkF
    go_wp2_with fail
    refine wp_region_drew_tail 7 (by kernel_rfl) (by kernel_rfl) ?_
    simp only [List.take_succ_cons, List.take_zero, List.drop_succ_cons, List.drop_zero]
    iterate 7 (go_big_quiet_step (fail))
    refine wpQuiet_nil ?_
    intro _ hw'
    obtain ⟨nq, rfl⟩ := hw'
    clear na
    have hbd := belowD (Below.refl w.heap.size w) nq
    generalize hwq : World.drewN w nq = wq at hbd ⊢
    have HW0 := hide (HW0.out.below hbd)
    have HC0 := hide (HC0.out.below hbd HC0.out.lt)
    have HM0 : Hid (Mw b w v wq v) := hide (HM0.out.trans (Mw.of hbd))
    have HE0 := hide (HE0.out.below (hbd.mono hB0))
    have hB0 : B ≤ wq.heap.size := Nat.le_trans hB0 hbd.size
    clear hwq hbd
    go_wp2_with fail
    clear mt hmf
    refine (wwhole_any b N c 134 176 _ f (kd (f 134)) _ (x) _ HE0.out hB0 hb hN HW0.out HC0.out (by omega) (hok.int 134 (by decide)).1 (hok.int 134 (by decide)).2.1 (hok.int 134 (by decide)).2.2 hx0).mono ?_
    rintro e w1 ⟨rfl, v1, hW, hM⟩
    have HM1 : Hid (Mw b w v w1 v1) := hide (HM0.out.trans hM)
    have HW1 : Hid (Wr w1 b N v1 (wordW (F (kd (f 134))) (x)).1 (wordW (F (kd (f 134))) (x)).2) := hide hW
    have HC1 : Hid (Has w1 c 40 f 176) := hide (hM.has HC0.out hcb (HM0.out.ne hcl hvc))
    have HE1 := hide (HEw.out.below (HM1.out.below hBw hb (fun k e => by have := hrow k e; omega)))
    have hB1 : B ≤ w1.heap.size := Nat.le_trans hBw HM1.out.size
    have hx1 : (wordW (F (kd (f 134))) (x)).1.length ≤ 65536 := wordW_le hx0
    clear hW hM
    go_wp2_with fail
    refine (wstep_any b N c f ad cap gs _ (wordW (F (kd (f 134))) (x)) _ HE1.out hB1 hb hN HW1.out HC1.out hok hcb (HM1.out.ne hcl hvc) hx1 H173.out (HS.out.mw HM1.out) hgl).mono ?_
    rintro e w9 ⟨v9, hM, ⟨y, hA, rfl, hW, hy⟩ | ⟨hA, rfl⟩⟩
    · have HQn : Hid (R = some y) := hide (by rw [HQ0.out, hA])
      have HMn := hide (HM1.out.trans hM)
      have HWn := hide hW
      clear hA hM hW
      go_wp2
      go_end0
      exact ⟨v9, HMn.out, .inl ⟨y, HQn.out, rfl, HWn.out, hy⟩⟩
    · have HQn : Hid (R = none) := hide (by rw [HQ0.out, hA])
      have HMn := hide (HM1.out.trans hM)
      clear hA hM
      go_wp2
      exact ⟨rfl, v9, HMn.out, .inr ⟨HQn.out, rfl⟩⟩
  have hd1 : (kk == 1) = false := beq_eq_false_iff_ne.2 e1
  have HQ0 : Hid (R = if kk = 4 ∨ kk = 5 then some (wordW (F (kd (f 134))) (x)) else some (x)) := hide (by rw [HQ0.out, if_neg e1])
  clear e1
  by_cases e4 : kk = 4
  · have hd4 : (kk == 4) = true := by rw [e4]; rfl
    have HQ0 : Hid (R = some (wordW (F (kd (f 134))) (x))) := hide (by rw [HQ0.out, if_pos (by omega)])
    clear e4
    have na := wna_whole b
    have mt := wmt_whole b
    have hmf := mkF
    go_wp2_with fail
    refine wp_region_drew_tail 7 (by kernel_rfl) (by kernel_rfl) ?_
    simp only [List.take_succ_cons, List.take_zero, List.drop_succ_cons, List.drop_zero]
    iterate 7 (go_big_quiet_step (fail))
    refine wpQuiet_nil ?_
    intro _ hw'
    obtain ⟨nq, rfl⟩ := hw'
    clear na
    have hbd := belowD (Below.refl w.heap.size w) nq
    generalize hwq : World.drewN w nq = wq at hbd ⊢
    have HW0 := hide (HW0.out.below hbd)
    have HC0 := hide (HC0.out.below hbd HC0.out.lt)
    have HM0 : Hid (Mw b w v wq v) := hide (HM0.out.trans (Mw.of hbd))
    have HE0 := hide (HE0.out.below (hbd.mono hB0))
    have hB0 : B ≤ wq.heap.size := Nat.le_trans hB0 hbd.size
    clear hwq hbd
    go_wp2_with fail
    clear mt hmf
    refine (wwhole_any b N c 134 176 _ f (kd (f 134)) _ (x) _ HE0.out hB0 hb hN HW0.out HC0.out (by omega) (hok.int 134 (by decide)).1 (hok.int 134 (by decide)).2.1 (hok.int 134 (by decide)).2.2 hx0).mono ?_
    rintro e w1 ⟨rfl, v1, hW, hM⟩
    have HM1 : Hid (Mw b w v w1 v1) := hide (HM0.out.trans hM)
    have HW1 : Hid (Wr w1 b N v1 (wordW (F (kd (f 134))) (x)).1 (wordW (F (kd (f 134))) (x)).2) := hide hW
    have HC1 : Hid (Has w1 c 40 f 176) := hide (hM.has HC0.out hcb (HM0.out.ne hcl hvc))
    have HE1 := hide (HEw.out.below (HM1.out.below hBw hb (fun k e => by have := hrow k e; omega)))
    have hB1 : B ≤ w1.heap.size := Nat.le_trans hBw HM1.out.size
    have hx1 : (wordW (F (kd (f 134))) (x)).1.length ≤ 65536 := wordW_le hx0
    clear hW hM
    have HQ1 := HQ0
    go_wp2
    go_end0
    exact ⟨v1, HM1.out, .inl ⟨_, HQ1.out, rfl, HW1.out, hx1⟩⟩
  have hd4 : (kk == 4) = false := beq_eq_false_iff_ne.2 e4
  by_cases e5 : kk = 5
  · have hd5 : (kk == 5) = true := by rw [e5]; rfl
    have HQ0 : Hid (R = some (wordW (F (kd (f 134))) (x))) := hide (by rw [HQ0.out, if_pos (by omega)])
    clear e4 e5
    have na := wna_whole b
    have mt := wmt_whole b
    have hmf := mkF
    go_wp2_with fail
    refine wp_region_drew_tail 7 (by kernel_rfl) (by kernel_rfl) ?_
    simp only [List.take_succ_cons, List.take_zero, List.drop_succ_cons, List.drop_zero]
    iterate 7 (go_big_quiet_step (fail))
    refine wpQuiet_nil ?_
    intro _ hw'
    obtain ⟨nq, rfl⟩ := hw'
    clear na
    have hbd := belowD (Below.refl w.heap.size w) nq
    generalize hwq : World.drewN w nq = wq at hbd ⊢
    have HW0 := hide (HW0.out.below hbd)
    have HC0 := hide (HC0.out.below hbd HC0.out.lt)
    have HM0 : Hid (Mw b w v wq v) := hide (HM0.out.trans (Mw.of hbd))
    have HE0 := hide (HE0.out.below (hbd.mono hB0))
    have hB0 : B ≤ wq.heap.size := Nat.le_trans hB0 hbd.size
    clear hwq hbd
    go_wp2_with fail
    clear mt hmf
    refine (wwhole_any b N c 134 176 _ f (kd (f 134)) _ (x) _ HE0.out hB0 hb hN HW0.out HC0.out (by omega) (hok.int 134 (by decide)).1 (hok.int 134 (by decide)).2.1 (hok.int 134 (by decide)).2.2 hx0).mono ?_
    rintro e w1 ⟨rfl, v1, hW, hM⟩
    have HM1 : Hid (Mw b w v w1 v1) := hide (HM0.out.trans hM)
    have HW1 : Hid (Wr w1 b N v1 (wordW (F (kd (f 134))) (x)).1 (wordW (F (kd (f 134))) (x)).2) := hide hW
    have HC1 : Hid (Has w1 c 40 f 176) := hide (hM.has HC0.out hcb (HM0.out.ne hcl hvc))
    have HE1 := hide (HEw.out.below (HM1.out.below hBw hb (fun k e => by have := hrow k e; omega)))
    have hB1 : B ≤ w1.heap.size := Nat.le_trans hBw HM1.out.size
    have hx1 : (wordW (F (kd (f 134))) (x)).1.length ≤ 65536 := wordW_le hx0
    clear hW hM
    have HQ1 := HQ0
    go_wp2
    go_end0
    exact ⟨v1, HM1.out, .inl ⟨_, HQ1.out, rfl, HW1.out, hx1⟩⟩
  have hd5 : (kk == 5) = false := beq_eq_false_iff_ne.2 e5
  have HQ0 : Hid (R = some (x)) := hide (by rw [HQ0.out, if_neg (by omega)])
  clear e4 e5
  go_wp2
  go_end0
  exact ⟨v, HM0.out, .inl ⟨_, HQ0.out, rfl, HW0.out, hx0⟩⟩
set_option maxRecDepth 100000 in
set_option maxHeartbeats 4000000 in
theorem wworld_any {E : Prop} {B : Nat} {F : Int → List UInt8} (b N c : Nat) (f : Nat → Value) (v : Value) (x : WS) (w : World) (hE : EnvW E B F w) (hB0 : B ≤ w.heap.size) (hb : B ≤ b) (hN : B ≤ N)
    (hW : Wr w b N v x.1 x.2) (hC : Has w c 40 f 176) (hok : CdOk f) (hcb : c ≠ b) (hvc : v.ownBlock ≠ some c) (hx0 : x.1.length ≤ 65536) :
    Calls Tryz.prog 52 #[wif b, .pointer (some ⟨c, 1, none⟩)] w fun e w' => ∃ v', Mw b w v w' v' ∧
      ((∃ y, worldW F f x = some y ∧ e = .returned (.tuple #[]) ∧ Wr w' b N v' y.1 y.2 ∧ y.1.length ≤ 65536) ∨ (worldW F f x = none ∧ Bad e)) := by
  obtain ⟨R, hRR⟩ : ∃ R, worldW F f x = R := ⟨_, rfl⟩
  rw [hRR]
  have HQ0 : Hid (R = some (hsW f 2 67 (hsW f 2 3 (wordW (F (kd (f 132))) (wordW (F (kd (f 131))) (wordW (F (kd (f 2))) (wordW (F (kd (f 1))) (x)))))))) := hide (by rw [← hRR]; rfl)
  clear hRR
  have hcl := hC.lt
  have hrow : ∀ k, v.ownBlock = some k → B ≤ k := fun k e => Nat.le_trans hN (hW.row k e)
  have HE0 := hide hE
  have HEw := HE0
  have hBw := hB0
  have HW0 := hide hW
  have HC0 := hide hC
  have HM0 : Hid (Mw b w v w v) := hide (Mw.refl _ _ _)
  clear hE hW hC
  unfold wif
  go_enter Tryz.func52, Tryz.ntmps52
  have na := wna_number b
  have mt := wmt_number b
  have hmf := mkF
  go_wp2_with fail
  refine wp_region_drew_tail 7 (by kernel_rfl) (by kernel_rfl) ?_
  simp only [List.take_succ_cons, List.take_zero, List.drop_succ_cons, List.drop_zero]
  iterate 7 (go_big_quiet_step (fail))
  refine wpQuiet_nil ?_
  intro _ hw'
  obtain ⟨nq, rfl⟩ := hw'
  clear na
  have hbd := belowD (Below.refl w.heap.size w) nq
  generalize hwq : World.drewN w nq = wq at hbd ⊢
  have HW0 := hide (HW0.out.below hbd)
  have HC0 := hide (HC0.out.below hbd HC0.out.lt)
  have HM0 : Hid (Mw b w v wq v) := hide (HM0.out.trans (Mw.of hbd))
  have HE0 := hide (HE0.out.below (hbd.mono hB0))
  have hB0 : B ≤ wq.heap.size := Nat.le_trans hB0 hbd.size
  clear hwq hbd
  go_wp2_with fail
  clear mt hmf
  refine (wnumber_any b N c 1 176 _ f (kd (f 1)) _ (x) _ HE0.out hB0 hb hN HW0.out HC0.out (by omega) (hok.int 1 (by decide)).1 (hok.int 1 (by decide)).2.1 (hok.int 1 (by decide)).2.2 hx0).mono ?_
  rintro e w1 ⟨rfl, v1, hW, hM⟩
  have HM1 : Hid (Mw b w v w1 v1) := hide (HM0.out.trans hM)
  have HW1 : Hid (Wr w1 b N v1 (wordW (F (kd (f 1))) (x)).1 (wordW (F (kd (f 1))) (x)).2) := hide hW
  have HC1 : Hid (Has w1 c 40 f 176) := hide (hM.has HC0.out hcb (HM0.out.ne hcl hvc))
  have HE1 := hide (HEw.out.below (HM1.out.below hBw hb (fun k e => by have := hrow k e; omega)))
  have hB1 : B ≤ w1.heap.size := Nat.le_trans hBw HM1.out.size
  have hx1 : (wordW (F (kd (f 1))) (x)).1.length ≤ 65536 := wordW_le hx0
  clear hW hM
  have na := wna_number b
  have mt := wmt_number b
  have hmf := mkF
  go_wp2_with fail
  refine wp_region_drew_tail 7 (by kernel_rfl) (by kernel_rfl) ?_
  simp only [List.take_succ_cons, List.take_zero, List.drop_succ_cons, List.drop_zero]
  iterate 7 (go_big_quiet_step (fail))
  refine wpQuiet_nil ?_
  intro _ hw'
  obtain ⟨nq, rfl⟩ := hw'
  clear na
  have hbd := belowD (Below.refl w1.heap.size w1) nq
  generalize hwq : World.drewN w1 nq = wq at hbd ⊢
  have HW1 := hide (HW1.out.below hbd)
  have HC1 := hide (HC1.out.below hbd HC1.out.lt)
  have HM1 : Hid (Mw b w v wq v1) := hide (HM1.out.trans (Mw.of hbd))
  have HE1 := hide (HE1.out.below (hbd.mono hB1))
  have hB1 : B ≤ wq.heap.size := Nat.le_trans hB1 hbd.size
  clear hwq hbd
  go_wp2_with fail
  clear mt hmf
  refine (wnumber_any b N c 2 176 _ f (kd (f 2)) _ (wordW (F (kd (f 1))) (x)) _ HE1.out hB1 hb hN HW1.out HC1.out (by omega) (hok.int 2 (by decide)).1 (hok.int 2 (by decide)).2.1 (hok.int 2 (by decide)).2.2 hx1).mono ?_
  rintro e w2 ⟨rfl, v2, hW, hM⟩
  have HM2 : Hid (Mw b w v w2 v2) := hide (HM1.out.trans hM)
  have HW2 : Hid (Wr w2 b N v2 (wordW (F (kd (f 2))) (wordW (F (kd (f 1))) (x))).1 (wordW (F (kd (f 2))) (wordW (F (kd (f 1))) (x))).2) := hide hW
  have HC2 : Hid (Has w2 c 40 f 176) := hide (hM.has HC1.out hcb (HM1.out.ne hcl hvc))
  have HE2 := hide (HEw.out.below (HM2.out.below hBw hb (fun k e => by have := hrow k e; omega)))
  have hB2 : B ≤ w2.heap.size := Nat.le_trans hBw HM2.out.size
  have hx2 : (wordW (F (kd (f 2))) (wordW (F (kd (f 1))) (x))).1.length ≤ 65536 := wordW_le hx1
  clear hW hM
  have na := wna_whole b
  have mt := wmt_whole b
  have hmf := mkF
  go_wp2_with fail
  refine wp_region_drew_tail 7 (by kernel_rfl) (by kernel_rfl) ?_
  simp only [List.take_succ_cons, List.take_zero, List.drop_succ_cons, List.drop_zero]
  iterate 7 (go_big_quiet_step (fail))
  refine wpQuiet_nil ?_
  intro _ hw'
  obtain ⟨nq, rfl⟩ := hw'
  clear na
  have hbd := belowD (Below.refl w2.heap.size w2) nq
  generalize hwq : World.drewN w2 nq = wq at hbd ⊢
  have HW2 := hide (HW2.out.below hbd)
  have HC2 := hide (HC2.out.below hbd HC2.out.lt)
  have HM2 : Hid (Mw b w v wq v2) := hide (HM2.out.trans (Mw.of hbd))
  have HE2 := hide (HE2.out.below (hbd.mono hB2))
  have hB2 : B ≤ wq.heap.size := Nat.le_trans hB2 hbd.size
  clear hwq hbd
  go_wp2_with fail
  clear mt hmf
  refine (wwhole_any b N c 131 176 _ f (kd (f 131)) _ (wordW (F (kd (f 2))) (wordW (F (kd (f 1))) (x))) _ HE2.out hB2 hb hN HW2.out HC2.out (by omega) (hok.int 131 (by decide)).1 (hok.int 131 (by decide)).2.1 (hok.int 131 (by decide)).2.2 hx2).mono ?_
  rintro e w3 ⟨rfl, v3, hW, hM⟩
  have HM3 : Hid (Mw b w v w3 v3) := hide (HM2.out.trans hM)
  have HW3 : Hid (Wr w3 b N v3 (wordW (F (kd (f 131))) (wordW (F (kd (f 2))) (wordW (F (kd (f 1))) (x)))).1 (wordW (F (kd (f 131))) (wordW (F (kd (f 2))) (wordW (F (kd (f 1))) (x)))).2) := hide hW
  have HC3 : Hid (Has w3 c 40 f 176) := hide (hM.has HC2.out hcb (HM2.out.ne hcl hvc))
  have HE3 := hide (HEw.out.below (HM3.out.below hBw hb (fun k e => by have := hrow k e; omega)))
  have hB3 : B ≤ w3.heap.size := Nat.le_trans hBw HM3.out.size
  have hx3 : (wordW (F (kd (f 131))) (wordW (F (kd (f 2))) (wordW (F (kd (f 1))) (x)))).1.length ≤ 65536 := wordW_le hx2
  clear hW hM
  have na := wna_whole b
  have mt := wmt_whole b
  have hmf := mkF
  go_wp2_with fail
  refine wp_region_drew_tail 7 (by kernel_rfl) (by kernel_rfl) ?_
  simp only [List.take_succ_cons, List.take_zero, List.drop_succ_cons, List.drop_zero]
  iterate 7 (go_big_quiet_step (fail))
  refine wpQuiet_nil ?_
  intro _ hw'
  obtain ⟨nq, rfl⟩ := hw'
  clear na
  have hbd := belowD (Below.refl w3.heap.size w3) nq
  generalize hwq : World.drewN w3 nq = wq at hbd ⊢
  have HW3 := hide (HW3.out.below hbd)
  have HC3 := hide (HC3.out.below hbd HC3.out.lt)
  have HM3 : Hid (Mw b w v wq v3) := hide (HM3.out.trans (Mw.of hbd))
  have HE3 := hide (HE3.out.below (hbd.mono hB3))
  have hB3 : B ≤ wq.heap.size := Nat.le_trans hB3 hbd.size
  clear hwq hbd
  go_wp2_with fail
  clear mt hmf
  refine (wwhole_any b N c 132 176 _ f (kd (f 132)) _ (wordW (F (kd (f 131))) (wordW (F (kd (f 2))) (wordW (F (kd (f 1))) (x)))) _ HE3.out hB3 hb hN HW3.out HC3.out (by omega) (hok.int 132 (by decide)).1 (hok.int 132 (by decide)).2.1 (hok.int 132 (by decide)).2.2 hx3).mono ?_
  rintro e w4 ⟨rfl, v4, hW, hM⟩
  have HM4 : Hid (Mw b w v w4 v4) := hide (HM3.out.trans hM)
  have HW4 : Hid (Wr w4 b N v4 (wordW (F (kd (f 132))) (wordW (F (kd (f 131))) (wordW (F (kd (f 2))) (wordW (F (kd (f 1))) (x))))).1 (wordW (F (kd (f 132))) (wordW (F (kd (f 131))) (wordW (F (kd (f 2))) (wordW (F (kd (f 1))) (x))))).2) := hide hW
  have HC4 : Hid (Has w4 c 40 f 176) := hide (hM.has HC3.out hcb (HM3.out.ne hcl hvc))
  have HE4 := hide (HEw.out.below (HM4.out.below hBw hb (fun k e => by have := hrow k e; omega)))
  have hB4 : B ≤ w4.heap.size := Nat.le_trans hBw HM4.out.size
  have hx4 : (wordW (F (kd (f 132))) (wordW (F (kd (f 131))) (wordW (F (kd (f 2))) (wordW (F (kd (f 1))) (x))))).1.length ≤ 65536 := wordW_le hx3
  clear hW hM
  have HQ4 := HQ0
  go_wp2
  go_loopw [4, 38] (fun _ z wr => ∃ (k : Nat) (vk : Value) (y : WS), k ≤ 2 ∧ z = .int .i64 k ∧ R = (some (hsW f 2 67 (hsW f (2 - k) (3 + 32 * k) (y)))) ∧ Wr wr b N vk y.1 y.2 ∧ Mw b w v wr vk ∧ Has wr c 40 f 176 ∧ y.1.length ≤ 65536) (fun _ z _ => 2 - (Lib.intOf z).toNat)
  case atStart => exact ⟨0, _, _, by omega, rfl, HQ4.out, HW4.out, HM4.out, HC4.out, hx4⟩
  case round =>
    obtain ⟨k, vk, y, hk, rfl, hQ, hWk, hMk, hCk, hx5⟩ := hrel
    have HW5 := hide hWk
    have HM5 := hide hMk
    have HC5 := hide hCk
    have hB5 : B ≤ wr.heap.size := Nat.le_trans hBw hMk.size
    have HE5 := hide (HEw.out.below (hMk.below hBw hb (fun k e => by have := hrow k e; omega)))
    rcases (by omega : k = 0 ∨ k = 1 ∨ k = 2) with rfl | rfl | h2
    · have HQ5 : Hid (R = some (hsW f 2 67 (hsW f (1) (35) (wordW (hexL (hbv f 3)) (y))))) := hide hQ
      clear hQ hWk hMk hCk
      have na := wna_hash b
      have mt := wmt_hash b
      have hmf := mkF
      go_wp2_with fail
      refine wp_region_drew_tail 9 (by kernel_rfl) (by kernel_rfl) ?_
      simp only [List.take_succ_cons, List.take_zero, List.drop_succ_cons, List.drop_zero]
      iterate 9 (go_big_quiet_step (fail))
      refine wpQuiet_nil ?_
      intro _ hw'
      obtain ⟨nq, rfl⟩ := hw'
      clear na
      have hbd := belowD (Below.refl wr.heap.size wr) nq
      generalize hwq : World.drewN wr nq = wq at hbd ⊢
      have HW5 := hide (HW5.out.below hbd)
      have HC5 := hide (HC5.out.below hbd HC5.out.lt)
      have HM5 : Hid (Mw b w v wq vk) := hide (HM5.out.trans (Mw.of hbd))
      have HE5 := hide (HE5.out.below (hbd.mono hB5))
      have hB5 : B ≤ wq.heap.size := Nat.le_trans hB5 hbd.size
      clear hwq hbd
      go_wp2_with fail
      clear mt hmf
      refine (whash_any b N c 3 176 _ f (hbv f 3) _ (y) _ HW5.out HC5.out (by omega) (hok.hash 3 (by decide)) hx5).mono ?_
      rintro e w6 ⟨rfl, v6, hW, hM⟩
      have HM6 : Hid (Mw b w v w6 v6) := hide (HM5.out.trans hM)
      have HW6 : Hid (Wr w6 b N v6 (wordW (hexL (hbv f 3)) (y)).1 (wordW (hexL (hbv f 3)) (y)).2) := hide hW
      have HC6 : Hid (Has w6 c 40 f 176) := hide (hM.has HC5.out hcb (HM5.out.ne hcl hvc))
      have HE6 := hide (HEw.out.below (HM6.out.below hBw hb (fun k e => by have := hrow k e; omega)))
      have hB6 : B ≤ w6.heap.size := Nat.le_trans hBw HM6.out.size
      have hx6 : (wordW (hexL (hbv f 3)) (y)).1.length ≤ 65536 := wordW_le hx5
      clear hW hM
      go_wp2
      refine ⟨⟨1, _, _, by omega, by go_num, HQ5.out, HW6.out, HM6.out, HC6.out, hx6⟩, ?_⟩
      simp [Lib.intOf]
    · have HQ5 : Hid (R = some (hsW f 2 67 (hsW f (0) (67) (wordW (hexL (hbv f 35)) (y))))) := hide hQ
      clear hQ hWk hMk hCk
      have na := wna_hash b
      have mt := wmt_hash b
      have hmf := mkF
      go_wp2_with fail
      refine wp_region_drew_tail 9 (by kernel_rfl) (by kernel_rfl) ?_
      simp only [List.take_succ_cons, List.take_zero, List.drop_succ_cons, List.drop_zero]
      iterate 9 (go_big_quiet_step (fail))
      refine wpQuiet_nil ?_
      intro _ hw'
      obtain ⟨nq, rfl⟩ := hw'
      clear na
      have hbd := belowD (Below.refl wr.heap.size wr) nq
      generalize hwq : World.drewN wr nq = wq at hbd ⊢
      have HW5 := hide (HW5.out.below hbd)
      have HC5 := hide (HC5.out.below hbd HC5.out.lt)
      have HM5 : Hid (Mw b w v wq vk) := hide (HM5.out.trans (Mw.of hbd))
      have HE5 := hide (HE5.out.below (hbd.mono hB5))
      have hB5 : B ≤ wq.heap.size := Nat.le_trans hB5 hbd.size
      clear hwq hbd
      go_wp2_with fail
      clear mt hmf
      refine (whash_any b N c 35 176 _ f (hbv f 35) _ (y) _ HW5.out HC5.out (by omega) (hok.hash 35 (by decide)) hx5).mono ?_
      rintro e w6 ⟨rfl, v6, hW, hM⟩
      have HM6 : Hid (Mw b w v w6 v6) := hide (HM5.out.trans hM)
      have HW6 : Hid (Wr w6 b N v6 (wordW (hexL (hbv f 35)) (y)).1 (wordW (hexL (hbv f 35)) (y)).2) := hide hW
      have HC6 : Hid (Has w6 c 40 f 176) := hide (hM.has HC5.out hcb (HM5.out.ne hcl hvc))
      have HE6 := hide (HEw.out.below (HM6.out.below hBw hb (fun k e => by have := hrow k e; omega)))
      have hB6 : B ≤ w6.heap.size := Nat.le_trans hBw HM6.out.size
      have hx6 : (wordW (hexL (hbv f 35)) (y)).1.length ≤ 65536 := wordW_le hx5
      clear hW hM
      go_wp2
      refine ⟨⟨2, _, _, by omega, by go_num, HQ5.out, HW6.out, HM6.out, HC6.out, hx6⟩, ?_⟩
      simp [Lib.intOf]
    · have HQ5 : Hid (R = some (hsW f 2 67 (hsW f (0) (67) (y)))) := hide (by rw [h2] at hQ; exact hQ)
      have hdk : decide ((k : Int) < 2) = false := decide_eq_false (by omega)
      clear hQ hWk hMk hCk h2 hk
      have HQ5 : Hid (R = some (hsW f 2 67 y)) := hide HQ5.out
      go_wp2
      generalize vk = v5 at *
      generalize y = y5 at *
      obtain ⟨w5, hw5⟩ : ∃ z, wr = z := ⟨_, rfl⟩
      subst hw5
      go_loopw [5, 52] (fun _ z wr => ∃ (k : Nat) (vk : Value) (y : WS), k ≤ 2 ∧ z = .int .i64 k ∧ R = (some (hsW f (2 - k) (67 + 32 * k) (y))) ∧ Wr wr b N vk y.1 y.2 ∧ Mw b w v wr vk ∧ Has wr c 40 f 176 ∧ y.1.length ≤ 65536) (fun _ z _ => 2 - (Lib.intOf z).toNat)
      case atStart => exact ⟨0, _, _, by omega, rfl, HQ5.out, HW5.out, HM5.out, HC5.out, hx5⟩
      case round =>
        obtain ⟨k, vk, y, hk, rfl, hQ, hWk, hMk, hCk, hx5⟩ := hrel
        have HW5 := hide hWk
        have HM5 := hide hMk
        have HC5 := hide hCk
        have hB5 : B ≤ wr.heap.size := Nat.le_trans hBw hMk.size
        have HE5 := hide (HEw.out.below (hMk.below hBw hb (fun k e => by have := hrow k e; omega)))
        rcases (by omega : k = 0 ∨ k = 1 ∨ k = 2) with rfl | rfl | h2
        · have HQ5 : Hid (R = some (hsW f (1) (99) (wordW (hexL (hbv f 67)) (y)))) := hide hQ
          clear hQ hWk hMk hCk
          have na := wna_hash b
          have mt := wmt_hash b
          have hmf := mkF
          go_wp2_with fail
          refine wp_region_drew_tail 9 (by kernel_rfl) (by kernel_rfl) ?_
          simp only [List.take_succ_cons, List.take_zero, List.drop_succ_cons, List.drop_zero]
          iterate 9 (go_big_quiet_step (fail))
          refine wpQuiet_nil ?_
          intro _ hw'
          obtain ⟨nq, rfl⟩ := hw'
          clear na
          have hbd := belowD (Below.refl wr.heap.size wr) nq
          generalize hwq : World.drewN wr nq = wq at hbd ⊢
          have HW5 := hide (HW5.out.below hbd)
          have HC5 := hide (HC5.out.below hbd HC5.out.lt)
          have HM5 : Hid (Mw b w v wq vk) := hide (HM5.out.trans (Mw.of hbd))
          have HE5 := hide (HE5.out.below (hbd.mono hB5))
          have hB5 : B ≤ wq.heap.size := Nat.le_trans hB5 hbd.size
          clear hwq hbd
          go_wp2_with fail
          clear mt hmf
          refine (whash_any b N c 67 176 _ f (hbv f 67) _ (y) _ HW5.out HC5.out (by omega) (hok.hash 67 (by decide)) hx5).mono ?_
          rintro e w6 ⟨rfl, v6, hW, hM⟩
          have HM6 : Hid (Mw b w v w6 v6) := hide (HM5.out.trans hM)
          have HW6 : Hid (Wr w6 b N v6 (wordW (hexL (hbv f 67)) (y)).1 (wordW (hexL (hbv f 67)) (y)).2) := hide hW
          have HC6 : Hid (Has w6 c 40 f 176) := hide (hM.has HC5.out hcb (HM5.out.ne hcl hvc))
          have HE6 := hide (HEw.out.below (HM6.out.below hBw hb (fun k e => by have := hrow k e; omega)))
          have hB6 : B ≤ w6.heap.size := Nat.le_trans hBw HM6.out.size
          have hx6 : (wordW (hexL (hbv f 67)) (y)).1.length ≤ 65536 := wordW_le hx5
          clear hW hM
          go_wp2
          refine ⟨⟨1, _, _, by omega, by go_num, HQ5.out, HW6.out, HM6.out, HC6.out, hx6⟩, ?_⟩
          simp [Lib.intOf]
        · have HQ5 : Hid (R = some (hsW f (0) (131) (wordW (hexL (hbv f 99)) (y)))) := hide hQ
          clear hQ hWk hMk hCk
          have na := wna_hash b
          have mt := wmt_hash b
          have hmf := mkF
          go_wp2_with fail
          refine wp_region_drew_tail 9 (by kernel_rfl) (by kernel_rfl) ?_
          simp only [List.take_succ_cons, List.take_zero, List.drop_succ_cons, List.drop_zero]
          iterate 9 (go_big_quiet_step (fail))
          refine wpQuiet_nil ?_
          intro _ hw'
          obtain ⟨nq, rfl⟩ := hw'
          clear na
          have hbd := belowD (Below.refl wr.heap.size wr) nq
          generalize hwq : World.drewN wr nq = wq at hbd ⊢
          have HW5 := hide (HW5.out.below hbd)
          have HC5 := hide (HC5.out.below hbd HC5.out.lt)
          have HM5 : Hid (Mw b w v wq vk) := hide (HM5.out.trans (Mw.of hbd))
          have HE5 := hide (HE5.out.below (hbd.mono hB5))
          have hB5 : B ≤ wq.heap.size := Nat.le_trans hB5 hbd.size
          clear hwq hbd
          go_wp2_with fail
          clear mt hmf
          refine (whash_any b N c 99 176 _ f (hbv f 99) _ (y) _ HW5.out HC5.out (by omega) (hok.hash 99 (by decide)) hx5).mono ?_
          rintro e w6 ⟨rfl, v6, hW, hM⟩
          have HM6 : Hid (Mw b w v w6 v6) := hide (HM5.out.trans hM)
          have HW6 : Hid (Wr w6 b N v6 (wordW (hexL (hbv f 99)) (y)).1 (wordW (hexL (hbv f 99)) (y)).2) := hide hW
          have HC6 : Hid (Has w6 c 40 f 176) := hide (hM.has HC5.out hcb (HM5.out.ne hcl hvc))
          have HE6 := hide (HEw.out.below (HM6.out.below hBw hb (fun k e => by have := hrow k e; omega)))
          have hB6 : B ≤ w6.heap.size := Nat.le_trans hBw HM6.out.size
          have hx6 : (wordW (hexL (hbv f 99)) (y)).1.length ≤ 65536 := wordW_le hx5
          clear hW hM
          go_wp2
          refine ⟨⟨2, _, _, by omega, by go_num, HQ5.out, HW6.out, HM6.out, HC6.out, hx6⟩, ?_⟩
          simp [Lib.intOf]
        · have HQ5 : Hid (R = some (hsW f (0) (131) (y))) := hide (by rw [h2] at hQ; exact hQ)
          have hdk : decide ((k : Int) < 2) = false := decide_eq_false (by omega)
          clear hQ hWk hMk hCk h2 hk
          have HQ5 : Hid (R = some y) := hide HQ5.out
          go_wp2
          go_end0
          exact ⟨vk, HM5.out, .inl ⟨_, HQ5.out, rfl, HW5.out, hx5⟩⟩
def commandW (F : Int → List UInt8) (f : Nat → Value) (gs : List (Nat → Value)) (x : WS) : Option WS := (headW f).bind fun s0 => if kd (f 0) = 1 then worldW F f (addW s0 x) else if kd (f 0) = 2 then moveW F f gs (addW s0 x) else if kd (f 0) = 3 then some (wordW (F (kd (f 174))) (addW s0 x)) else if kd (f 0) = 4 ∨ kd (f 0) = 5 ∨ kd (f 0) = 6 ∨ kd (f 0) = 7 ∨ kd (f 0) = 8 then some (wordW (F (kd (f 175))) (addW s0 x)) else some (addW s0 x)
set_option maxRecDepth 100000 in
set_option maxHeartbeats 4000000 in
theorem wcommand_any {E : Prop} {B : Nat} {F : Int → List UInt8} (b N c : Nat) (f : Nat → Value) (ad : Option Addr) (cap : Nat) (gs : List (Nat → Value)) (v : Value) (x : WS) (w : World) (hE : EnvW E B F w) (hB0 : B ≤ w.heap.size) (hb : B ≤ b) (hN : B ≤ N)
    (hW : Wr w b N v x.1 x.2) (hC : Has w c 40 f 176) (hok : CdOk f) (hcb : c ≠ b) (hvc : v.ownBlock ≠ some c) (hx0 : x.1.length ≤ 65536) (h173 : f 173 = .slice ad gs.length cap) (hS : FsAt w b v ad gs) (hgl : gs.length ≤ 140737488355328) :
    Calls Tryz.prog 41 #[wif b, .pointer (some ⟨c, 0, none⟩)] w fun e w' => ∃ v', Mw b w v w' v' ∧
      ((∃ y, commandW F f gs x = some y ∧ e = .returned (.tuple #[]) ∧ Wr w' b N v' y.1 y.2 ∧ y.1.length ≤ 65536) ∨ (commandW F f gs x = none ∧ Bad e)) := by
  obtain ⟨R, hRR⟩ : ∃ R, commandW F f gs x = R := ⟨_, rfl⟩
  rw [hRR]
  have HQ0 : Hid (R = (headW f).bind fun s0 => if kd (f 0) = 1 then worldW F f (addW s0 x) else if kd (f 0) = 2 then moveW F f gs (addW s0 x) else if kd (f 0) = 3 then some (wordW (F (kd (f 174))) (addW s0 x)) else if kd (f 0) = 4 ∨ kd (f 0) = 5 ∨ kd (f 0) = 6 ∨ kd (f 0) = 7 ∨ kd (f 0) = 8 then some (wordW (F (kd (f 175))) (addW s0 x)) else some (addW s0 x)) := hide (by rw [← hRR]; rfl)
  clear hRR
  have hcl := hC.lt
  have hrow : ∀ k, v.ownBlock = some k → B ≤ k := fun k e => Nat.le_trans hN (hW.row k e)
  have HE0 := hide hE
  have HEw := HE0
  have hBw := hB0
  have HW0 := hide hW
  have HC0 := hide hC
  have HM0 : Hid (Mw b w v w v) := hide (Mw.refl _ _ _)
  clear hE hW hC
  unfold wif
  go_enter Tryz.func41, Tryz.ntmps41
  have H173 := hide h173
  have HS := hide hS
  clear h173 hS
  have mt := wmt_head b
  go_wp2_with fail
  clear mt
  refine (whead_any b N c f (kd (f 0)) (kd (f 133)) v x _ HW0.out HC0.out (hok.int 0 (by decide)).1 (hok.int 133 (by decide)).1 hx0 hcb).mono ?_
  rintro e w1 ⟨v1, hM, ⟨s1, hA, rfl, hW⟩ | ⟨hA, rfl⟩⟩
  case inr =>
    have HQn : Hid (R = none) := hide (by rw [HQ0.out, hA]; rfl)
    have HMn := hide (HM0.out.trans hM)
    clear hA hM
    go_wp2
    exact ⟨rfl, v1, HMn.out, .inr ⟨HQn.out, rfl⟩⟩
  have HM1 : Hid (Mw b w v w1 v1) := hide (HM0.out.trans hM)
  have HW1 : Hid (Wr w1 b N v1 (addW s1 x).1 (addW s1 x).2) := hide hW
  have HC1 : Hid (Has w1 c 40 f 176) := hide (hM.has HC0.out hcb (HM0.out.ne hcl hvc))
  have HE1 := hide (HEw.out.below (HM1.out.below hBw hb (fun k e => by have := hrow k e; omega)))
  have hB1 : B ≤ w1.heap.size := Nat.le_trans hBw HM1.out.size
  have hx1 : (addW s1 x).1.length ≤ 65536 := addW_le hx0
  have HQ1 : Hid (R = if kd (f 0) = 1 then worldW F f (addW s1 x) else if kd (f 0) = 2 then moveW F f gs (addW s1 x) else if kd (f 0) = 3 then some (wordW (F (kd (f 174))) (addW s1 x)) else if kd (f 0) = 4 ∨ kd (f 0) = 5 ∨ kd (f 0) = 6 ∨ kd (f 0) = 7 ∨ kd (f 0) = 8 then some (wordW (F (kd (f 175))) (addW s1 x)) else some (addW s1 x)) := hide (by rw [HQ0.out, hA]; rfl)
  clear hA hM hW
  have hk0 : w1.cell? ⟨c, 0, none⟩ = some (.int .i64 (kd (f 0))) := by rw [HC1.out.cell 0 (by omega), ← (hok.int 0 (by decide)).1]
  generalize hkk : kd (f 0) = kk at hk0 HQ1
  clear hkk
  by_cases e1 : kk = 1
  · have hd1 : (kk == 1) = true := by rw [e1]; rfl
    have HQ1 : Hid (R = worldW F f (addW s1 x)) := hide (by rw [HQ1.out, if_pos e1])
    clear e1
    go_wp2_with fail
    refine (wworld_any b N c f _ (addW s1 x) _ HE1.out hB1 hb hN HW1.out HC1.out hok hcb (HM1.out.ne hcl hvc) hx1).mono ?_
    rintro e w9 ⟨v9, hM, ⟨y, hA, rfl, hW, hy⟩ | ⟨hA, rfl⟩⟩
    · have HQn : Hid (R = some y) := hide (by rw [HQ1.out, hA])
      have HMn := hide (HM1.out.trans hM)
      have HWn := hide hW
      clear hA hM hW
      go_wp2
      go_end0
      exact ⟨v9, HMn.out, .inl ⟨y, HQn.out, rfl, HWn.out, hy⟩⟩
    · have HQn : Hid (R = none) := hide (by rw [HQ1.out, hA])
      have HMn := hide (HM1.out.trans hM)
      clear hA hM
      go_wp2
      exact ⟨rfl, v9, HMn.out, .inr ⟨HQn.out, rfl⟩⟩
  have hd1 : (kk == 1) = false := beq_eq_false_iff_ne.2 e1
  have HQ1 : Hid (R = if kk = 2 then moveW F f gs (addW s1 x) else if kk = 3 then some (wordW (F (kd (f 174))) (addW s1 x)) else if kk = 4 ∨ kk = 5 ∨ kk = 6 ∨ kk = 7 ∨ kk = 8 then some (wordW (F (kd (f 175))) (addW s1 x)) else some (addW s1 x)) := hide (by rw [HQ1.out, if_neg e1])
  clear e1
  by_cases e2 : kk = 2
  · have hd2 : (kk == 2) = true := by rw [e2]; rfl
    have HQ1 : Hid (R = moveW F f gs (addW s1 x)) := hide (by rw [HQ1.out, if_pos e2])
    clear e2
    go_wp2_with fail
    refine (wmove_any b N c f ad cap gs _ (addW s1 x) _ HE1.out hB1 hb hN HW1.out HC1.out hok hcb (HM1.out.ne hcl hvc) hx1 H173.out (HS.out.mw HM1.out) hgl).mono ?_
    rintro e w9 ⟨v9, hM, ⟨y, hA, rfl, hW, hy⟩ | ⟨hA, rfl⟩⟩
    · have HQn : Hid (R = some y) := hide (by rw [HQ1.out, hA])
      have HMn := hide (HM1.out.trans hM)
      have HWn := hide hW
      clear hA hM hW
      go_wp2
      go_end0
      exact ⟨v9, HMn.out, .inl ⟨y, HQn.out, rfl, HWn.out, hy⟩⟩
    · have HQn : Hid (R = none) := hide (by rw [HQ1.out, hA])
      have HMn := hide (HM1.out.trans hM)
      clear hA hM
      go_wp2
      exact ⟨rfl, v9, HMn.out, .inr ⟨HQn.out, rfl⟩⟩
  have hd2 : (kk == 2) = false := beq_eq_false_iff_ne.2 e2
  have HQ1 : Hid (R = if kk = 3 then some (wordW (F (kd (f 174))) (addW s1 x)) else if kk = 4 ∨ kk = 5 ∨ kk = 6 ∨ kk = 7 ∨ kk = 8 then some (wordW (F (kd (f 175))) (addW s1 x)) else some (addW s1 x)) := hide (by rw [HQ1.out, if_neg e2])
  clear e2
  by_cases e3 : kk = 3
  · have hd3 : (kk == 3) = true := by rw [e3]; rfl
    have HQ1 : Hid (R = some (wordW (F (kd (f 174))) (addW s1 x))) := hide (by rw [HQ1.out, if_pos (by omega)])
    clear e3
    have na := wna_number b
    have mt := wmt_number b
    have hmf := mkF
    go_wp2_with fail
    refine wp_region_drew_tail 7 (by kernel_rfl) (by kernel_rfl) ?_
    simp only [List.take_succ_cons, List.take_zero, List.drop_succ_cons, List.drop_zero]
    iterate 7 (go_big_quiet_step (fail))
    refine wpQuiet_nil ?_
    intro _ hw'
    obtain ⟨nq, rfl⟩ := hw'
    clear na
    have hbd := belowD (Below.refl w1.heap.size w1) nq
    generalize hwq : World.drewN w1 nq = wq at hbd ⊢
    have HW1 := hide (HW1.out.below hbd)
    have HC1 := hide (HC1.out.below hbd HC1.out.lt)
    have HM1 : Hid (Mw b w v wq v1) := hide (HM1.out.trans (Mw.of hbd))
    have HE1 := hide (HE1.out.below (hbd.mono hB1))
    have hB1 : B ≤ wq.heap.size := Nat.le_trans hB1 hbd.size
    clear hwq hbd
    go_wp2_with fail
    clear mt hmf
    refine (wnumber_any b N c 174 176 _ f (kd (f 174)) _ (addW s1 x) _ HE1.out hB1 hb hN HW1.out HC1.out (by omega) (hok.int 174 (by decide)).1 (hok.int 174 (by decide)).2.1 (hok.int 174 (by decide)).2.2 hx1).mono ?_
    rintro e w2 ⟨rfl, v2, hW, hM⟩
    have HM2 : Hid (Mw b w v w2 v2) := hide (HM1.out.trans hM)
    have HW2 : Hid (Wr w2 b N v2 (wordW (F (kd (f 174))) (addW s1 x)).1 (wordW (F (kd (f 174))) (addW s1 x)).2) := hide hW
    have HC2 : Hid (Has w2 c 40 f 176) := hide (hM.has HC1.out hcb (HM1.out.ne hcl hvc))
    have HE2 := hide (HEw.out.below (HM2.out.below hBw hb (fun k e => by have := hrow k e; omega)))
    have hB2 : B ≤ w2.heap.size := Nat.le_trans hBw HM2.out.size
    have hx2 : (wordW (F (kd (f 174))) (addW s1 x)).1.length ≤ 65536 := wordW_le hx1
    clear hW hM
    have HQ2 := HQ1
    go_wp2
    go_end0
    exact ⟨v2, HM2.out, .inl ⟨_, HQ2.out, rfl, HW2.out, hx2⟩⟩
  have hd3 : (kk == 3) = false := beq_eq_false_iff_ne.2 e3
  have HQ1 : Hid (R = if kk = 4 ∨ kk = 5 ∨ kk = 6 ∨ kk = 7 ∨ kk = 8 then some (wordW (F (kd (f 175))) (addW s1 x)) else some (addW s1 x)) := hide (by rw [HQ1.out, if_neg (by omega)])
  clear e3
  by_cases e4 : kk = 4
  · have hd4 : (kk == 4) = true := by rw [e4]; rfl
    have HQ1 : Hid (R = some (wordW (F (kd (f 175))) (addW s1 x))) := hide (by rw [HQ1.out, if_pos (by omega)])
    clear e4
    have na := wna_whole b
    have mt := wmt_whole b
    have hmf := mkF
    go_wp2_with fail
    refine wp_region_drew_tail 7 (by kernel_rfl) (by kernel_rfl) ?_
    simp only [List.take_succ_cons, List.take_zero, List.drop_succ_cons, List.drop_zero]
    iterate 7 (go_big_quiet_step (fail))
    refine wpQuiet_nil ?_
    intro _ hw'
    obtain ⟨nq, rfl⟩ := hw'
    clear na
    have hbd := belowD (Below.refl w1.heap.size w1) nq
    generalize hwq : World.drewN w1 nq = wq at hbd ⊢
    have HW1 := hide (HW1.out.below hbd)
    have HC1 := hide (HC1.out.below hbd HC1.out.lt)
    have HM1 : Hid (Mw b w v wq v1) := hide (HM1.out.trans (Mw.of hbd))
    have HE1 := hide (HE1.out.below (hbd.mono hB1))
    have hB1 : B ≤ wq.heap.size := Nat.le_trans hB1 hbd.size
    clear hwq hbd
    go_wp2_with fail
    clear mt hmf
    refine (wwhole_any b N c 175 176 _ f (kd (f 175)) _ (addW s1 x) _ HE1.out hB1 hb hN HW1.out HC1.out (by omega) (hok.int 175 (by decide)).1 (hok.int 175 (by decide)).2.1 (hok.int 175 (by decide)).2.2 hx1).mono ?_
    rintro e w2 ⟨rfl, v2, hW, hM⟩
    have HM2 : Hid (Mw b w v w2 v2) := hide (HM1.out.trans hM)
    have HW2 : Hid (Wr w2 b N v2 (wordW (F (kd (f 175))) (addW s1 x)).1 (wordW (F (kd (f 175))) (addW s1 x)).2) := hide hW
    have HC2 : Hid (Has w2 c 40 f 176) := hide (hM.has HC1.out hcb (HM1.out.ne hcl hvc))
    have HE2 := hide (HEw.out.below (HM2.out.below hBw hb (fun k e => by have := hrow k e; omega)))
    have hB2 : B ≤ w2.heap.size := Nat.le_trans hBw HM2.out.size
    have hx2 : (wordW (F (kd (f 175))) (addW s1 x)).1.length ≤ 65536 := wordW_le hx1
    clear hW hM
    have HQ2 := HQ1
    go_wp2
    go_end0
    exact ⟨v2, HM2.out, .inl ⟨_, HQ2.out, rfl, HW2.out, hx2⟩⟩
  have hd4 : (kk == 4) = false := beq_eq_false_iff_ne.2 e4
  by_cases e5 : kk = 5
  · have hd5 : (kk == 5) = true := by rw [e5]; rfl
    have HQ1 : Hid (R = some (wordW (F (kd (f 175))) (addW s1 x))) := hide (by rw [HQ1.out, if_pos (by omega)])
    clear e4 e5
    have na := wna_whole b
    have mt := wmt_whole b
    have hmf := mkF
    go_wp2_with fail
    refine wp_region_drew_tail 7 (by kernel_rfl) (by kernel_rfl) ?_
    simp only [List.take_succ_cons, List.take_zero, List.drop_succ_cons, List.drop_zero]
    iterate 7 (go_big_quiet_step (fail))
    refine wpQuiet_nil ?_
    intro _ hw'
    obtain ⟨nq, rfl⟩ := hw'
    clear na
    have hbd := belowD (Below.refl w1.heap.size w1) nq
    generalize hwq : World.drewN w1 nq = wq at hbd ⊢
    have HW1 := hide (HW1.out.below hbd)
    have HC1 := hide (HC1.out.below hbd HC1.out.lt)
    have HM1 : Hid (Mw b w v wq v1) := hide (HM1.out.trans (Mw.of hbd))
    have HE1 := hide (HE1.out.below (hbd.mono hB1))
    have hB1 : B ≤ wq.heap.size := Nat.le_trans hB1 hbd.size
    clear hwq hbd
    go_wp2_with fail
    clear mt hmf
    refine (wwhole_any b N c 175 176 _ f (kd (f 175)) _ (addW s1 x) _ HE1.out hB1 hb hN HW1.out HC1.out (by omega) (hok.int 175 (by decide)).1 (hok.int 175 (by decide)).2.1 (hok.int 175 (by decide)).2.2 hx1).mono ?_
    rintro e w2 ⟨rfl, v2, hW, hM⟩
    have HM2 : Hid (Mw b w v w2 v2) := hide (HM1.out.trans hM)
    have HW2 : Hid (Wr w2 b N v2 (wordW (F (kd (f 175))) (addW s1 x)).1 (wordW (F (kd (f 175))) (addW s1 x)).2) := hide hW
    have HC2 : Hid (Has w2 c 40 f 176) := hide (hM.has HC1.out hcb (HM1.out.ne hcl hvc))
    have HE2 := hide (HEw.out.below (HM2.out.below hBw hb (fun k e => by have := hrow k e; omega)))
    have hB2 : B ≤ w2.heap.size := Nat.le_trans hBw HM2.out.size
    have hx2 : (wordW (F (kd (f 175))) (addW s1 x)).1.length ≤ 65536 := wordW_le hx1
    clear hW hM
    have HQ2 := HQ1
    go_wp2
    go_end0
    exact ⟨v2, HM2.out, .inl ⟨_, HQ2.out, rfl, HW2.out, hx2⟩⟩
  have hd5 : (kk == 5) = false := beq_eq_false_iff_ne.2 e5
  by_cases e6 : kk = 6
  · have hd6 : (kk == 6) = true := by rw [e6]; rfl
    have HQ1 : Hid (R = some (wordW (F (kd (f 175))) (addW s1 x))) := hide (by rw [HQ1.out, if_pos (by omega)])
    clear e4 e5 e6
    have na := wna_whole b
    have mt := wmt_whole b
    have hmf := mkF
    go_wp2_with fail
    refine wp_region_drew_tail 7 (by kernel_rfl) (by kernel_rfl) ?_
    simp only [List.take_succ_cons, List.take_zero, List.drop_succ_cons, List.drop_zero]
    iterate 7 (go_big_quiet_step (fail))
    refine wpQuiet_nil ?_
    intro _ hw'
    obtain ⟨nq, rfl⟩ := hw'
    clear na
    have hbd := belowD (Below.refl w1.heap.size w1) nq
    generalize hwq : World.drewN w1 nq = wq at hbd ⊢
    have HW1 := hide (HW1.out.below hbd)
    have HC1 := hide (HC1.out.below hbd HC1.out.lt)
    have HM1 : Hid (Mw b w v wq v1) := hide (HM1.out.trans (Mw.of hbd))
    have HE1 := hide (HE1.out.below (hbd.mono hB1))
    have hB1 : B ≤ wq.heap.size := Nat.le_trans hB1 hbd.size
    clear hwq hbd
    go_wp2_with fail
    clear mt hmf
    refine (wwhole_any b N c 175 176 _ f (kd (f 175)) _ (addW s1 x) _ HE1.out hB1 hb hN HW1.out HC1.out (by omega) (hok.int 175 (by decide)).1 (hok.int 175 (by decide)).2.1 (hok.int 175 (by decide)).2.2 hx1).mono ?_
    rintro e w2 ⟨rfl, v2, hW, hM⟩
    have HM2 : Hid (Mw b w v w2 v2) := hide (HM1.out.trans hM)
    have HW2 : Hid (Wr w2 b N v2 (wordW (F (kd (f 175))) (addW s1 x)).1 (wordW (F (kd (f 175))) (addW s1 x)).2) := hide hW
    have HC2 : Hid (Has w2 c 40 f 176) := hide (hM.has HC1.out hcb (HM1.out.ne hcl hvc))
    have HE2 := hide (HEw.out.below (HM2.out.below hBw hb (fun k e => by have := hrow k e; omega)))
    have hB2 : B ≤ w2.heap.size := Nat.le_trans hBw HM2.out.size
    have hx2 : (wordW (F (kd (f 175))) (addW s1 x)).1.length ≤ 65536 := wordW_le hx1
    clear hW hM
    have HQ2 := HQ1
    go_wp2
    go_end0
    exact ⟨v2, HM2.out, .inl ⟨_, HQ2.out, rfl, HW2.out, hx2⟩⟩
  have hd6 : (kk == 6) = false := beq_eq_false_iff_ne.2 e6
  by_cases e7 : kk = 7
  · have hd7 : (kk == 7) = true := by rw [e7]; rfl
    have HQ1 : Hid (R = some (wordW (F (kd (f 175))) (addW s1 x))) := hide (by rw [HQ1.out, if_pos (by omega)])
    clear e4 e5 e6 e7
    have na := wna_whole b
    have mt := wmt_whole b
    have hmf := mkF
    go_wp2_with fail
    refine wp_region_drew_tail 7 (by kernel_rfl) (by kernel_rfl) ?_
    simp only [List.take_succ_cons, List.take_zero, List.drop_succ_cons, List.drop_zero]
    iterate 7 (go_big_quiet_step (fail))
    refine wpQuiet_nil ?_
    intro _ hw'
    obtain ⟨nq, rfl⟩ := hw'
    clear na
    have hbd := belowD (Below.refl w1.heap.size w1) nq
    generalize hwq : World.drewN w1 nq = wq at hbd ⊢
    have HW1 := hide (HW1.out.below hbd)
    have HC1 := hide (HC1.out.below hbd HC1.out.lt)
    have HM1 : Hid (Mw b w v wq v1) := hide (HM1.out.trans (Mw.of hbd))
    have HE1 := hide (HE1.out.below (hbd.mono hB1))
    have hB1 : B ≤ wq.heap.size := Nat.le_trans hB1 hbd.size
    clear hwq hbd
    go_wp2_with fail
    clear mt hmf
    refine (wwhole_any b N c 175 176 _ f (kd (f 175)) _ (addW s1 x) _ HE1.out hB1 hb hN HW1.out HC1.out (by omega) (hok.int 175 (by decide)).1 (hok.int 175 (by decide)).2.1 (hok.int 175 (by decide)).2.2 hx1).mono ?_
    rintro e w2 ⟨rfl, v2, hW, hM⟩
    have HM2 : Hid (Mw b w v w2 v2) := hide (HM1.out.trans hM)
    have HW2 : Hid (Wr w2 b N v2 (wordW (F (kd (f 175))) (addW s1 x)).1 (wordW (F (kd (f 175))) (addW s1 x)).2) := hide hW
    have HC2 : Hid (Has w2 c 40 f 176) := hide (hM.has HC1.out hcb (HM1.out.ne hcl hvc))
    have HE2 := hide (HEw.out.below (HM2.out.below hBw hb (fun k e => by have := hrow k e; omega)))
    have hB2 : B ≤ w2.heap.size := Nat.le_trans hBw HM2.out.size
    have hx2 : (wordW (F (kd (f 175))) (addW s1 x)).1.length ≤ 65536 := wordW_le hx1
    clear hW hM
    have HQ2 := HQ1
    go_wp2
    go_end0
    exact ⟨v2, HM2.out, .inl ⟨_, HQ2.out, rfl, HW2.out, hx2⟩⟩
  have hd7 : (kk == 7) = false := beq_eq_false_iff_ne.2 e7
  by_cases e8 : kk = 8
  · have hd8 : (kk == 8) = true := by rw [e8]; rfl
    have HQ1 : Hid (R = some (wordW (F (kd (f 175))) (addW s1 x))) := hide (by rw [HQ1.out, if_pos (by omega)])
    clear e4 e5 e6 e7 e8
    have na := wna_whole b
    have mt := wmt_whole b
    have hmf := mkF
    go_wp2_with fail
    refine wp_region_drew_tail 7 (by kernel_rfl) (by kernel_rfl) ?_
    simp only [List.take_succ_cons, List.take_zero, List.drop_succ_cons, List.drop_zero]
    iterate 7 (go_big_quiet_step (fail))
    refine wpQuiet_nil ?_
    intro _ hw'
    obtain ⟨nq, rfl⟩ := hw'
    clear na
    have hbd := belowD (Below.refl w1.heap.size w1) nq
    generalize hwq : World.drewN w1 nq = wq at hbd ⊢
    have HW1 := hide (HW1.out.below hbd)
    have HC1 := hide (HC1.out.below hbd HC1.out.lt)
    have HM1 : Hid (Mw b w v wq v1) := hide (HM1.out.trans (Mw.of hbd))
    have HE1 := hide (HE1.out.below (hbd.mono hB1))
    have hB1 : B ≤ wq.heap.size := Nat.le_trans hB1 hbd.size
    clear hwq hbd
    go_wp2_with fail
    clear mt hmf
    refine (wwhole_any b N c 175 176 _ f (kd (f 175)) _ (addW s1 x) _ HE1.out hB1 hb hN HW1.out HC1.out (by omega) (hok.int 175 (by decide)).1 (hok.int 175 (by decide)).2.1 (hok.int 175 (by decide)).2.2 hx1).mono ?_
    rintro e w2 ⟨rfl, v2, hW, hM⟩
    have HM2 : Hid (Mw b w v w2 v2) := hide (HM1.out.trans hM)
    have HW2 : Hid (Wr w2 b N v2 (wordW (F (kd (f 175))) (addW s1 x)).1 (wordW (F (kd (f 175))) (addW s1 x)).2) := hide hW
    have HC2 : Hid (Has w2 c 40 f 176) := hide (hM.has HC1.out hcb (HM1.out.ne hcl hvc))
    have HE2 := hide (HEw.out.below (HM2.out.below hBw hb (fun k e => by have := hrow k e; omega)))
    have hB2 : B ≤ w2.heap.size := Nat.le_trans hBw HM2.out.size
    have hx2 : (wordW (F (kd (f 175))) (addW s1 x)).1.length ≤ 65536 := wordW_le hx1
    clear hW hM
    have HQ2 := HQ1
    go_wp2
    go_end0
    exact ⟨v2, HM2.out, .inl ⟨_, HQ2.out, rfl, HW2.out, hx2⟩⟩
  have hd8 : (kk == 8) = false := beq_eq_false_iff_ne.2 e8
  have HQ1 : Hid (R = some (addW s1 x)) := hide (by rw [HQ1.out, if_neg (by omega)])
  clear e4 e5 e6 e7 e8
  go_wp2
  go_end0
  exact ⟨v1, HM1.out, .inl ⟨_, HQ1.out, rfl, HW1.out, hx1⟩⟩
end Go.Proofs.YtepgoehpjafbhaaGreatDoor
