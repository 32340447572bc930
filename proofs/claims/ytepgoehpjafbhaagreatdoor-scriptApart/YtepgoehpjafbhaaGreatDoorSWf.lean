/-
  script's writer: a fate (printed by gen_wf.py).
-/
import Derived.Test.YtepgoehpjafbhaaGreatDoorSWq
namespace Go.Proofs.YtepgoehpjafbhaaGreatDoor
open Go.RowKit S
set_option linter.unusedVariables false
set_option linter.unusedSimpArgs false
def sbv (v : Value) : List UInt8 := match v with
  | .string s => s.data.toList
  | _ => []
def hbv (f : Nat → Value) (off : Nat) : Nat → UInt8 := fun i => match f (off + i) with
  | .int _ x => UInt8.ofNat x.toNat
  | _ => 0
def InR (x : Int) : Prop := -9223372036854775808 ≤ x ∧ x ≤ 9223372036854775807
/-- The cells of a fate. -/
structure FtOk (f : Nat → Value) : Prop where
  int : ∀ o ∈ [1, 2], f o = .int .i64 (kd (f o)) ∧ InR (kd (f o))
  str : ∀ o ∈ [0, 3], f o = .string (bs (sbv (f o))) ∧ (sbv (f o)).length ≤ 140737488355328
/-- The cells of a command. -/
structure CdOk (f : Nat → Value) : Prop where
  int : ∀ o ∈ [0, 1, 2, 131, 132, 133, 134, 135, 136, 137, 138, 174, 175], f o = .int .i64 (kd (f o)) ∧ InR (kd (f o))
  str : ∀ o ∈ [171, 172], f o = .string (bs (sbv (f o))) ∧ (sbv (f o)).length ≤ 140737488355328
  hash : ∀ o ∈ [3, 35, 67, 99, 139], ∀ i, i < 32 → f (o + i) = bv (hbv f o) i
def fateW (F : Int → List UInt8) (f : Nat → Value) (x : WS) : Option WS := (nmK fateN (kd (f 2))).bind fun s0 => some (if kd (f 2) = 2 then quoW (sbv (f 3)) (wordW (F (kd (f 1))) (quoW (sbv (f 0)) (wordW s0 x))) else wordW (F (kd (f 1))) (quoW (sbv (f 0)) (wordW s0 x)))
set_option maxRecDepth 100000 in
set_option maxHeartbeats 4000000 in
theorem wfate_any {E : Prop} {B : Nat} {F : Int → List UInt8} (b N c : Nat) (f : Nat → Value) (v : Value) (x : WS) (w : World) (hE : EnvW E B F w) (hB0 : B ≤ w.heap.size) (hb : B ≤ b) (hN : B ≤ N)
    (hW : Wr w b N v x.1 x.2) (hC : Has w c 49 f 4) (hok : FtOk f) (hcb : c ≠ b) (hvc : v.ownBlock ≠ some c) (hx0 : x.1.length ≤ 65536) :
    Calls Tryz.prog 101 #[wif b, .pointer (some ⟨c, 0, none⟩)] w fun e w' => ∃ v', Mw b w v w' v' ∧
      ((∃ y, fateW F f x = some y ∧ e = .returned (.tuple #[]) ∧ Wr w' b N v' y.1 y.2 ∧ y.1.length ≤ 65536) ∨ (fateW F f x = none ∧ Bad e)) := by
  obtain ⟨R, hRR⟩ : ∃ R, fateW F f x = R := ⟨_, rfl⟩
  rw [hRR]
  have HQ0 : Hid (R = (nmK fateN (kd (f 2))).bind fun s0 => some (if kd (f 2) = 2 then quoW (sbv (f 3)) (wordW (F (kd (f 1))) (quoW (sbv (f 0)) (wordW s0 x))) else wordW (F (kd (f 1))) (quoW (sbv (f 0)) (wordW s0 x)))) := hide (by rw [← hRR]; rfl)
  clear hRR
  have hcl := hC.lt
  have hrow : ∀ k, v.ownBlock = some k → B ≤ k := fun k e => Nat.le_trans hN (hW.row k e)
  have HE0 := hide hE
  have HEw := HE0
  have hBw := hB0
  have HW0 := hide hW
  have HC0 := hide hC
  have HM0 : Hid (Mw b w v w v) := hide (Mw.refl _ _ _)
  clear hE hW hC
  unfold wif
  go_enter Tryz.func101, Tryz.ntmps101
  have na := wna_name b
  have mt := wmt_name b
  have hmf := mkF
  go_wp2_with fail
  refine wp_region_pan (fun wx => R = none ∧ ∃ v', Mw b w v wx v') (fun a wx hdf hx => ?_) ?_
  · go_wp2
    obtain ⟨hx1, v9, hx2⟩ := hx
    exact ⟨hdf, v9, hx2, .inr ⟨hx1, rfl⟩⟩
  refine wp_region_T (S := fun _ => True) 8 (by kernel_rfl) trivial (fun hHeld => ?_)
  have hbd : Below w.heap.size w w.drew := (Below.refl _ _).drew
  generalize hwq : World.drew w = wq at hHeld hbd ⊢
  have HW0 := hide (HW0.out.below hbd)
  have HC0 := hide (HC0.out.below hbd HC0.out.lt)
  have HM0 : Hid (Mw b w v wq v) := hide (HM0.out.trans (Mw.of hbd))
  have hB0 : B ≤ wq.heap.size := Nat.le_trans hB0 hbd.size
  clear hwq hbd
  refine takeP [7] 0 (some 4) (wif b) rfl rfl (by kernel_rfl) (by kernel_rfl) (by kernel_rfl) (by kernel_rfl) (by kernel_rfl) (by decide) (fun _ _ _ h => h) (by rfl) (fun w_ hw => by first | rfl | (go_simp; done) | (go_simp; rfl)) hHeld ?_
  simp only [Act.put, List.setIfInBounds_toArray, List.set_cons_zero, List.set_cons_succ]
  refine takeP [3, 2] 1 (some 5) (.pointer (some ⟨c, 0, none⟩)) rfl rfl (by kernel_rfl) (by kernel_rfl) (by kernel_rfl) (by kernel_rfl) (by kernel_rfl) (by decide) (fun _ _ _ h => h) (by rfl) (fun w_ hw => by first | rfl | (go_simp; done) | (go_simp; rfl)) hHeld ?_
  simp only [Act.put, List.setIfInBounds_toArray, List.set_cons_zero, List.set_cons_succ]
  refine takeP [3] 2 (some 6) (.pointer (some ⟨c, 0, none⟩)) rfl rfl (by kernel_rfl) (by kernel_rfl) (by kernel_rfl) (by kernel_rfl) (by kernel_rfl) (by decide) (fun _ _ _ h => h) (by rfl) (fun w_ hw => by first | rfl | (go_simp; done) | (go_simp; rfl)) hHeld ?_
  simp only [Act.put, List.setIfInBounds_toArray, List.set_cons_zero, List.set_cons_succ]
  refine takeT 3 (some 7) (.pointer (some ⟨c, 2, none⟩)) rfl rfl (by kernel_rfl) (by kernel_rfl) (by kernel_rfl) (by kernel_rfl) (by decide) (fun _ _ _ h => h) (by rfl) (fun w_ hw => by first | rfl | (go_simp; done) | (go_simp; rfl)) hHeld ?_
  simp only [Act.put, List.setIfInBounds_toArray, List.set_cons_zero, List.set_cons_succ]
  refine takeP [7] 5 (some 9) (.func (Fn.method "escrow/script.name") #[wif b] #[]) rfl rfl (by kernel_rfl) (by kernel_rfl) (by kernel_rfl) (by kernel_rfl) (by kernel_rfl) (by decide) (fun _ _ _ h => h) (by rfl) (fun w_ hw => by first | rfl | (go_simp; done) | (go_simp; rfl)) hHeld ?_
  simp only [Act.put, List.setIfInBounds_toArray, List.set_cons_zero, List.set_cons_succ]
  refine takeP [7] 6 (some 10) (.func (Fn.method "escrow/script.name") #[wif b] #[]) rfl rfl (by kernel_rfl) (by kernel_rfl) (by kernel_rfl) (by kernel_rfl) (by kernel_rfl) (by decide) (fun _ _ _ h => h) (by rfl) (fun w_ hw => by unfold wif; go_simp) hHeld ?_
  simp only [Act.put, List.setIfInBounds_toArray, List.set_cons_zero, List.set_cons_succ]
  refine takeT 7 (some 11) (wif b) rfl rfl (by kernel_rfl) (by kernel_rfl) (by kernel_rfl) (by kernel_rfl) (by decide) (fun _ _ _ h => h) (by rfl) (fun w_ hw => by first | rfl | (go_simp; done) | (go_simp; rfl)) hHeld ?_
  simp only [Act.put, List.setIfInBounds_toArray, List.set_cons_zero, List.set_cons_succ]
  refine readyT 4 (by kernel_rfl) rfl (by rfl) (fun K hK => ?_)
  go_simp
  refine (fateNames_any _).mono ?_
  rintro e wn ⟨rfl, hwn⟩
  have bn : Below wq.heap.size wq wn := by rw [hwn]; exact (Below.refl _ wq).alloc (Nat.le_refl _) _
  have hNm : Nm wn wq.heap.size fateN := by rw [hwn]; exact Nm.new wq fateN
  have HW0 := hide (HW0.out.below bn)
  have HC0 := hide (HC0.out.below bn HC0.out.lt)
  have HM0 : Hid (Mw b w v wn v) := hide (HM0.out.trans (Mw.of bn))
  have hB0 : B ≤ wn.heap.size := Nat.le_trans hB0 bn.size
  clear bn hwn
  try go_wp2_with fail
  refine hK.out _ _ (fun _ => trivial) (fun hH => ?_)
  clear hHeld
  have hHeld := hH (by decide)
  clear hK K hH
  refine readyT 8 (by kernel_rfl) rfl (by rfl) (fun K hK => ?_)
  unfold wif
  go_simp
  clear na mt hmf
  refine (wname_any b N c 2 4 wq.heap.size 3 fateN _ f (kd (f 2)) _ (x) _ hNm rfl (by decide) len_fateN HW0.out HC0.out (by omega) (hok.int 2 (by decide)).1 hx0).mono ?_
  rintro e w1 ⟨v1, hM, ⟨s1, hA, rfl, hW⟩ | ⟨hA, rfl⟩⟩
  case inr => exact ⟨rfl, rfl, by rw [HQ0.out, hA]; rfl, v1, HM0.out.trans hM⟩
  try go_wp2_with fail
  refine hK.out _ _ (fun x => absurd rfl x) (fun _ => ?_)
  clear hK K hHeld
  refine ⟨by kernel_rfl, ?_⟩
  refine Pan.normal ?_
  clear hNm
  have HM1 : Hid (Mw b w v w1 v1) := hide (HM0.out.trans hM)
  have HW1 : Hid (Wr w1 b N v1 (wordW s1 (x)).1 (wordW s1 (x)).2) := hide hW
  have HC1 : Hid (Has w1 c 49 f 4) := hide (hM.has HC0.out hcb (HM0.out.ne hcl hvc))
  have HE1 := hide (HEw.out.below (HM1.out.below hBw hb (fun k e => by have := hrow k e; omega)))
  have hB1 : B ≤ w1.heap.size := Nat.le_trans hBw HM1.out.size
  have hx1 : (wordW s1 (x)).1.length ≤ 65536 := wordW_le hx0
  have HQ1 : Hid (R = some (if kd (f 2) = 2 then quoW (sbv (f 3)) (wordW (F (kd (f 1))) (quoW (sbv (f 0)) (wordW s1 x))) else wordW (F (kd (f 1))) (quoW (sbv (f 0)) (wordW s1 x)))) := hide (by rw [HQ0.out, hA]; rfl)
  clear hW hM hA
  have na := wna_quoted b
  have mt := wmt_quoted b
  have hmf := mkF
  go_wp2_with fail
  refine wp_region_drew_tail 7 (by kernel_rfl) (by kernel_rfl) ?_
  simp only [List.take_succ_cons, List.take_zero, List.drop_succ_cons, List.drop_zero]
  iterate 7 (go_big_quiet_step (fail))
  refine wpQuiet_nil ?_
  intro _ hw'
  obtain ⟨nq, rfl⟩ := hw'
  clear na
  have hbd := belowD (Below.refl w1.heap.size w1) nq
  generalize hwq : World.drewN w1 nq = wq at hbd ⊢
  have HW1 := hide (HW1.out.below hbd)
  have HC1 := hide (HC1.out.below hbd HC1.out.lt)
  have HM1 : Hid (Mw b w v wq v1) := hide (HM1.out.trans (Mw.of hbd))
  have HE1 := hide (HE1.out.below (hbd.mono hB1))
  have hB1 : B ≤ wq.heap.size := Nat.le_trans hB1 hbd.size
  clear hwq hbd
  go_wp2_with fail
  clear mt hmf
  refine (wquoted_any b N c 0 4 _ f (sbv (f 0)) _ (wordW s1 (x)) _ HW1.out HC1.out (by omega) (hok.str 0 (by decide)).1 hcb (HM1.out.ne hcl hvc) (hok.str 0 (by decide)).2 hx1).mono ?_
  rintro e w2 ⟨rfl, v2, hW, hM⟩
  have HM2 : Hid (Mw b w v w2 v2) := hide (HM1.out.trans hM)
  have HW2 : Hid (Wr w2 b N v2 (quoW (sbv (f 0)) (wordW s1 (x))).1 (quoW (sbv (f 0)) (wordW s1 (x))).2) := hide hW
  have HC2 : Hid (Has w2 c 49 f 4) := hide (hM.has HC1.out hcb (HM1.out.ne hcl hvc))
  have HE2 := hide (HEw.out.below (HM2.out.below hBw hb (fun k e => by have := hrow k e; omega)))
  have hB2 : B ≤ w2.heap.size := Nat.le_trans hBw HM2.out.size
  have hx2 : (quoW (sbv (f 0)) (wordW s1 (x))).1.length ≤ 65536 := quoW_le hx1
  clear hW hM
  have na := wna_whole b
  have mt := wmt_whole b
  have hmf := mkF
  go_wp2_with fail
  refine wp_region_drew_tail 7 (by kernel_rfl) (by kernel_rfl) ?_
  simp only [List.take_succ_cons, List.take_zero, List.drop_succ_cons, List.drop_zero]
  iterate 7 (go_big_quiet_step (fail))
  refine wpQuiet_nil ?_
  intro _ hw'
  obtain ⟨nq, rfl⟩ := hw'
  clear na
  have hbd := belowD (Below.refl w2.heap.size w2) nq
  generalize hwq : World.drewN w2 nq = wq at hbd ⊢
  have HW2 := hide (HW2.out.below hbd)
  have HC2 := hide (HC2.out.below hbd HC2.out.lt)
  have HM2 : Hid (Mw b w v wq v2) := hide (HM2.out.trans (Mw.of hbd))
  have HE2 := hide (HE2.out.below (hbd.mono hB2))
  have hB2 : B ≤ wq.heap.size := Nat.le_trans hB2 hbd.size
  clear hwq hbd
  go_wp2_with fail
  clear mt hmf
  refine (wwhole_any b N c 1 4 _ f (kd (f 1)) _ (quoW (sbv (f 0)) (wordW s1 (x))) _ HE2.out hB2 hb hN HW2.out HC2.out (by omega) (hok.int 1 (by decide)).1 (hok.int 1 (by decide)).2.1 (hok.int 1 (by decide)).2.2 hx2).mono ?_
  rintro e w3 ⟨rfl, v3, hW, hM⟩
  have HM3 : Hid (Mw b w v w3 v3) := hide (HM2.out.trans hM)
  have HW3 : Hid (Wr w3 b N v3 (wordW (F (kd (f 1))) (quoW (sbv (f 0)) (wordW s1 (x)))).1 (wordW (F (kd (f 1))) (quoW (sbv (f 0)) (wordW s1 (x)))).2) := hide hW
  have HC3 : Hid (Has w3 c 49 f 4) := hide (hM.has HC2.out hcb (HM2.out.ne hcl hvc))
  have HE3 := hide (HEw.out.below (HM3.out.below hBw hb (fun k e => by have := hrow k e; omega)))
  have hB3 : B ≤ w3.heap.size := Nat.le_trans hBw HM3.out.size
  have hx3 : (wordW (F (kd (f 1))) (quoW (sbv (f 0)) (wordW s1 (x)))).1.length ≤ 65536 := wordW_le hx2
  clear hW hM
  have hk2 : w3.cell? ⟨c, 2, none⟩ = some (.int .i64 (kd (f 2))) := by rw [HC3.out.cell 2 (by omega), ← (hok.int 2 (by decide)).1]
  have Hok := hide hok
  clear hok
  generalize hkk : kd (f 2) = kk at hk2 HQ1
  by_cases e2 : kk = 2
  · have hd : (kk == 2) = true := by rw [e2]; rfl
    have HQ1 : Hid (R = some (quoW (sbv (f 3)) (wordW (F (kd (f 1))) (quoW (sbv (f 0)) (wordW s1 x))))) := hide (by rw [HQ1.out, if_pos e2])
    clear e2 hkk
    have hok := Hok.out
    have na := wna_quoted b
    have mt := wmt_quoted b
    have hmf := mkF
    go_wp2_with fail
    refine wp_region_drew_tail 7 (by kernel_rfl) (by kernel_rfl) ?_
    simp only [List.take_succ_cons, List.take_zero, List.drop_succ_cons, List.drop_zero]
    iterate 7 (go_big_quiet_step (fail))
    refine wpQuiet_nil ?_
    intro _ hw'
    obtain ⟨nq, rfl⟩ := hw'
    clear na
    have hbd := belowD (Below.refl w3.heap.size w3) nq
    generalize hwq : World.drewN w3 nq = wq at hbd ⊢
    have HW3 := hide (HW3.out.below hbd)
    have HC3 := hide (HC3.out.below hbd HC3.out.lt)
    have HM3 : Hid (Mw b w v wq v3) := hide (HM3.out.trans (Mw.of hbd))
    have HE3 := hide (HE3.out.below (hbd.mono hB3))
    have hB3 : B ≤ wq.heap.size := Nat.le_trans hB3 hbd.size
    clear hwq hbd
    go_wp2_with fail
    clear mt hmf
    refine (wquoted_any b N c 3 4 _ f (sbv (f 3)) _ (wordW (F (kd (f 1))) (quoW (sbv (f 0)) (wordW s1 (x)))) _ HW3.out HC3.out (by omega) (hok.str 3 (by decide)).1 hcb (HM3.out.ne hcl hvc) (hok.str 3 (by decide)).2 hx3).mono ?_
    rintro e w4 ⟨rfl, v4, hW, hM⟩
    have HM4 : Hid (Mw b w v w4 v4) := hide (HM3.out.trans hM)
    have HW4 : Hid (Wr w4 b N v4 (quoW (sbv (f 3)) (wordW (F (kd (f 1))) (quoW (sbv (f 0)) (wordW s1 (x))))).1 (quoW (sbv (f 3)) (wordW (F (kd (f 1))) (quoW (sbv (f 0)) (wordW s1 (x))))).2) := hide hW
    have HC4 : Hid (Has w4 c 49 f 4) := hide (hM.has HC3.out hcb (HM3.out.ne hcl hvc))
    have HE4 := hide (HEw.out.below (HM4.out.below hBw hb (fun k e => by have := hrow k e; omega)))
    have hB4 : B ≤ w4.heap.size := Nat.le_trans hBw HM4.out.size
    have hx4 : (quoW (sbv (f 3)) (wordW (F (kd (f 1))) (quoW (sbv (f 0)) (wordW s1 (x))))).1.length ≤ 65536 := quoW_le hx3
    clear hW hM
    have HQ4 := HQ1
    go_wp2
    go_end0
    exact ⟨v4, HM4.out, .inl ⟨_, HQ4.out, rfl, HW4.out, hx4⟩⟩
  · have hd : (kk == 2) = false := beq_eq_false_iff_ne.2 e2
    have HQ3 : Hid (R = some (wordW (F (kd (f 1))) (quoW (sbv (f 0)) (wordW s1 x)))) := hide (by rw [HQ1.out, if_neg e2])
    clear e2 hkk
    go_wp2
    go_end0
    exact ⟨v3, HM3.out, .inl ⟨_, HQ3.out, rfl, HW3.out, hx3⟩⟩
end Go.Proofs.YtepgoehpjafbhaaGreatDoor
