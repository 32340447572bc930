/-
  script's reader: a step (printed by gen_st.py).
-/
import Derived.Test.YtepgoehpjafbhaaGreatDoorSFs
namespace Go.Proofs.YtepgoehpjafbhaaGreatDoor
open Go.RowKit S
set_option linter.unusedVariables false
set_option linter.unusedSimpArgs false
theorem nil173 {f : Nat → Value} (h : f 173 = .slice none 0 0) (i : Nat) (hi : i < 176) : f i = upd f 173 (.slice none 0 0) i := by
  unfold upd
  split
  · rename_i e; rw [e, h]
  · rfl
def stepP (F : Int → List UInt8) (f : Nat → Value) (l : List UInt8) : Option ((Nat → Value) × List (Nat → Value) × List UInt8) := (nameA stepN l).bind fun x1 => if x1.1 = 1 then (numberA F x1.2).bind fun y1 => (hashA y1.2).bind fun y2 => some (splice (upd (upd (f) 135 (.int .i64 x1.1)) 136 (.int .i64 y1.1)) 139 (bv y2.1) 32, [], y2.2) else if x1.1 = 2 then (numberA F x1.2).bind fun y1 => (hashA y1.2).bind fun y2 => some (splice (upd (upd (f) 135 (.int .i64 x1.1)) 137 (.int .i64 y1.1)) 139 (bv y2.1) 32, [], y2.2) else if x1.1 = 3 then (numberA F x1.2).bind fun y1 => (quotedA y1.2).bind fun y2 => some (upd (upd (upd (f) 135 (.int .i64 x1.1)) 137 (.int .i64 y1.1)) 171 (.string (bs y2.1)), [], y2.2) else if x1.1 = 8 then (quotedA x1.2).bind fun y1 => some (upd (upd (f) 135 (.int .i64 x1.1)) 172 (.string (bs y1.1)), [], y1.2) else if x1.1 = 10 ∨ x1.1 = 11 then (numberA F x1.2).bind fun y1 => some (upd (upd (f) 135 (.int .i64 x1.1)) 138 (.int .i64 y1.1), [], y1.2) else if x1.1 = 12 then (numberA F x1.2).bind fun y1 => (fatesA F (y1.2).length (y1.2)).bind fun y2 => some (upd (upd (f) 135 (.int .i64 x1.1)) 138 (.int .i64 y1.1), y2, []) else some (upd (f) 135 (.int .i64 x1.1), [], x1.2)
def stepT (F : Int → List UInt8) (l : List UInt8) : Prop := ∀ x1, nameA stepN l = some x1 → (x1.1 = 1 ∨ x1.1 = 2 ∨ x1.1 = 3 ∨ x1.1 = 10 ∨ x1.1 = 11 ∨ x1.1 = 12) → numT x1.2 ∧ ∀ y, numberA F x1.2 = some y → x1.1 = 12 → fatesT F y.2.length y.2
set_option maxRecDepth 100000 in
set_option maxHeartbeats 4000000 in
theorem rstep_any {E : Prop} {B : Nat} {F : Int → List UInt8} (b c : Nat) (f : Nat → Value) (l : List UInt8) (w : World) (hE : Env E B F w) (hB0 : B ≤ w.heap.size) (hb : B ≤ b) (hc : B ≤ c)
    (hR : Rd w b l) (hC : Has w c 40 f 176) (hnil : f 173 = .slice none 0 0) (hbc : c ≠ b) (hl0 : l.length ≤ 70000) (hg : E ∨ stepT F l) :
    Calls Tryz.prog 62 #[rif b, .pointer (some ⟨c, 135, none⟩)] w fun e w' => Kp b c w w' ∧
      ((∃ f' fs r v, stepP F f l = some (f', fs, r) ∧ e = .returned (.tuple #[]) ∧ Rd w' b r ∧ Has w' c 40 (upd f' 173 v) 176 ∧ OwnF w.heap.size w' v fs) ∨ (stepP F f l = none ∧ Bad e)) := by
  obtain ⟨R, hRR⟩ : ∃ R, stepP F f l = R := ⟨_, rfl⟩
  rw [hRR]
  have HQ0 : Hid (R = (nameA stepN l).bind fun x1 => if x1.1 = 1 then (numberA F x1.2).bind fun y1 => (hashA y1.2).bind fun y2 => some (splice (upd (upd (f) 135 (.int .i64 x1.1)) 136 (.int .i64 y1.1)) 139 (bv y2.1) 32, [], y2.2) else if x1.1 = 2 then (numberA F x1.2).bind fun y1 => (hashA y1.2).bind fun y2 => some (splice (upd (upd (f) 135 (.int .i64 x1.1)) 137 (.int .i64 y1.1)) 139 (bv y2.1) 32, [], y2.2) else if x1.1 = 3 then (numberA F x1.2).bind fun y1 => (quotedA y1.2).bind fun y2 => some (upd (upd (upd (f) 135 (.int .i64 x1.1)) 137 (.int .i64 y1.1)) 171 (.string (bs y2.1)), [], y2.2) else if x1.1 = 8 then (quotedA x1.2).bind fun y1 => some (upd (upd (f) 135 (.int .i64 x1.1)) 172 (.string (bs y1.1)), [], y1.2) else if x1.1 = 10 ∨ x1.1 = 11 then (numberA F x1.2).bind fun y1 => some (upd (upd (f) 135 (.int .i64 x1.1)) 138 (.int .i64 y1.1), [], y1.2) else if x1.1 = 12 then (numberA F x1.2).bind fun y1 => (fatesA F (y1.2).length (y1.2)).bind fun y2 => some (upd (upd (f) 135 (.int .i64 x1.1)) 138 (.int .i64 y1.1), y2, []) else some (upd (f) 135 (.int .i64 x1.1), [], x1.2)) := hide (by rw [← hRR]; rfl)
  clear hRR
  have hbl_ := Has.lt hR
  have HE0 := hide hE
  have HR0 := hide hR
  have HC0 := hide hC
  have HK0 : Hid (Kp b c w w) := hide (Kp.refl _ _ _)
  have HNl := hide hnil
  have HT0 := hide hg
  clear hE hR hC hnil hg
  unfold rif
  go_enter Tryz.func62, Tryz.ntmps62
  have na := rna_name b
  have mt := rmt_name b
  have hmf := mkF
  go_wp2_with fail
  refine wp_region_pan (fun wx => Kp b c w wx ∧ R = none) (fun a wx hdf hx => ?_) ?_
  · go_wp2
    exact ⟨hdf, hx.1, .inr ⟨hx.2, rfl⟩⟩
  refine wp_region_T (S := fun _ => True) 8 (by kernel_rfl) trivial (fun hHeld => ?_)
  generalize hwq : World.drew w = wq at hHeld ⊢
  have HR0 : Hid (Rd wq b l) := hide (by rw [← hwq]; exact Has.drew HR0.out)
  have HC0 : Hid (Has wq c 40 (f) 176) := hide (by rw [← hwq]; exact HC0.out.drew)
  have HK0 : Hid (Kp b c w wq) := hide (by rw [← hwq]; exact ⟨HK0.out.os, HK0.out.tape, HK0.out.output, HK0.out.size, HK0.out.block⟩)
  have hB0 : B ≤ wq.heap.size := by rw [← hwq]; exact hB0
  have HE0 : Hid (Env E B F wq) := hide (by rw [← hwq]; exact HE0.out.below ⟨rfl, rfl, rfl, Nat.le_refl _, fun _ _ => rfl⟩)
  clear hwq
  refine takeP [7] 0 (some 4) (rif b) rfl rfl (by kernel_rfl) (by kernel_rfl) (by kernel_rfl) (by kernel_rfl) (by kernel_rfl) (by decide) (fun _ _ _ h => h) (by rfl) (fun w_ hw => by first | rfl | (go_simp; done) | (go_simp; rfl)) hHeld ?_
  simp only [Act.put, List.setIfInBounds_toArray, List.set_cons_zero, List.set_cons_succ]
  refine takeP [3, 2] 1 (some 5) (.pointer (some ⟨c, 135, none⟩)) rfl rfl (by kernel_rfl) (by kernel_rfl) (by kernel_rfl) (by kernel_rfl) (by kernel_rfl) (by decide) (fun _ _ _ h => h) (by rfl) (fun w_ hw => by first | rfl | (go_simp; done) | (go_simp; rfl)) hHeld ?_
  simp only [Act.put, List.setIfInBounds_toArray, List.set_cons_zero, List.set_cons_succ]
  refine takeP [3] 2 (some 6) (.pointer (some ⟨c, 135, none⟩)) rfl rfl (by kernel_rfl) (by kernel_rfl) (by kernel_rfl) (by kernel_rfl) (by kernel_rfl) (by decide) (fun _ _ _ h => h) (by rfl) (fun w_ hw => by first | rfl | (go_simp; done) | (go_simp; rfl)) hHeld ?_
  simp only [Act.put, List.setIfInBounds_toArray, List.set_cons_zero, List.set_cons_succ]
  refine takeT 3 (some 7) (.pointer (some ⟨c, 135, none⟩)) rfl rfl (by kernel_rfl) (by kernel_rfl) (by kernel_rfl) (by kernel_rfl) (by decide) (fun _ _ _ h => h) (by rfl) (fun w_ hw => by first | rfl | (go_simp; done) | (go_simp; rfl)) hHeld ?_
  simp only [Act.put, List.setIfInBounds_toArray, List.set_cons_zero, List.set_cons_succ]
  refine takeP [7] 5 (some 9) (.func (Fn.method "escrow/script.name") #[rif b] #[]) rfl rfl (by kernel_rfl) (by kernel_rfl) (by kernel_rfl) (by kernel_rfl) (by kernel_rfl) (by decide) (fun _ _ _ h => h) (by rfl) (fun w_ hw => by first | rfl | (go_simp; done) | (go_simp; rfl)) hHeld ?_
  simp only [Act.put, List.setIfInBounds_toArray, List.set_cons_zero, List.set_cons_succ]
  refine takeP [7] 6 (some 10) (.func (Fn.method "escrow/script.name") #[rif b] #[]) rfl rfl (by kernel_rfl) (by kernel_rfl) (by kernel_rfl) (by kernel_rfl) (by kernel_rfl) (by decide) (fun _ _ _ h => h) (by rfl) (fun w_ hw => by unfold rif; go_simp) hHeld ?_
  simp only [Act.put, List.setIfInBounds_toArray, List.set_cons_zero, List.set_cons_succ]
  refine takeT 7 (some 11) (rif b) rfl rfl (by kernel_rfl) (by kernel_rfl) (by kernel_rfl) (by kernel_rfl) (by decide) (fun _ _ _ h => h) (by rfl) (fun w_ hw => by first | rfl | (go_simp; done) | (go_simp; rfl)) hHeld ?_
  simp only [Act.put, List.setIfInBounds_toArray, List.set_cons_zero, List.set_cons_succ]
  refine readyT 4 (by kernel_rfl) rfl (by rfl) (fun K hK => ?_)
  go_simp
  refine (stepNames_any _).mono ?_
  rintro e wn ⟨rfl, hwn⟩
  have bn : Below wq.heap.size wq wn := by rw [hwn]; exact (Below.refl _ wq).alloc (Nat.le_refl _) _
  have hNm : Nm wn wq.heap.size stepN := by rw [hwn]; exact Nm.new wq stepN
  have hsn : wn.heap.size = wq.heap.size + 1 := by rw [hwn, size_alloc]
  have HR0 : Hid (Rd wn b l) := hide (Has.below HR0.out bn (Has.lt HR0.out))
  have hbl0 := Has.lt HR0.out
  have hbq : b < wq.heap.size := Nat.lt_of_lt_of_le hbl_ HK0.out.size
  have HC0 := hide (HC0.out.below bn HC0.out.lt)
  have HK0 : Hid (Kp b c w wn) := hide (HK0.out.trans (Kp.of bn))
  have HE0 := hide (HE0.out.below (bn.mono hB0))
  have hB0 : B ≤ wn.heap.size := Nat.le_trans hB0 bn.size
  clear bn hwn
  try go_wp2_with fail
  refine hK.out _ _ (fun _ => trivial) (fun hH => ?_)
  clear hHeld
  have hHeld := hH (by decide)
  clear hK K hH
  refine readyT 8 (by kernel_rfl) rfl (by rfl) (fun K hK => ?_)
  unfold rif
  go_simp
  clear na mt hmf
  refine (name_any b c 135 176 14 wq.heap.size stepN _ (f) l _ hNm (by omega) rfl (by decide) HR0.out HC0.out (by omega) hbc (by omega) hl0).mono ?_
  rintro e w1 ⟨k, ⟨v1, r1, hA, rfl, hR, hC⟩ | ⟨hA, rfl⟩⟩
  case inr => exact ⟨rfl, rfl, HK0.out.trans k, by rw [HQ0.out, hA]; rfl⟩
  try go_wp2_with fail
  refine hK.out _ _ (fun x => absurd rfl x) (fun _ => ?_)
  clear hK K hHeld
  refine ⟨by kernel_rfl, ?_⟩
  refine Pan.normal ?_
  clear hNm hsn hbl0 hbq
  have HQ1 : Hid (R = if v1 = 1 then (numberA F r1).bind fun y1 => (hashA y1.2).bind fun y2 => some (splice (upd (upd (f) 135 (.int .i64 v1)) 136 (.int .i64 y1.1)) 139 (bv y2.1) 32, [], y2.2) else if v1 = 2 then (numberA F r1).bind fun y1 => (hashA y1.2).bind fun y2 => some (splice (upd (upd (f) 135 (.int .i64 v1)) 137 (.int .i64 y1.1)) 139 (bv y2.1) 32, [], y2.2) else if v1 = 3 then (numberA F r1).bind fun y1 => (quotedA y1.2).bind fun y2 => some (upd (upd (upd (f) 135 (.int .i64 v1)) 137 (.int .i64 y1.1)) 171 (.string (bs y2.1)), [], y2.2) else if v1 = 8 then (quotedA r1).bind fun y1 => some (upd (upd (f) 135 (.int .i64 v1)) 172 (.string (bs y1.1)), [], y1.2) else if v1 = 10 ∨ v1 = 11 then (numberA F r1).bind fun y1 => some (upd (upd (f) 135 (.int .i64 v1)) 138 (.int .i64 y1.1), [], y1.2) else if v1 = 12 then (numberA F r1).bind fun y1 => (fatesA F (y1.2).length (y1.2)).bind fun y2 => some (upd (upd (f) 135 (.int .i64 v1)) 138 (.int .i64 y1.1), y2, []) else some (upd (f) 135 (.int .i64 v1), [], r1)) := hide (by rw [HQ0.out, hA]; rfl)
  have HT1 := hide (HT0.out.imp id fun h => h _ hA)
  have hl1 : r1.length ≤ 70000 := by have := nameA_len hA; omega
  have hB1 : B ≤ w1.heap.size := Nat.le_trans hB0 k.size
  have HE1 := hide (HE0.out.below (k.below hB0 hb hc))
  have HK1 : Hid (Kp b c w w1) := hide (HK0.out.trans k)
  have HR1 : Hid (Rd w1 b r1) := hide hR
  have HC1 : Hid (Has w1 c 40 (upd (f) 135 (.int .i64 v1)) 176) := hide hC
  clear hA k hR hC
  have HNl : Hid ((upd (f) 135 (.int .i64 v1)) 173 = .slice none 0 0) := hide HNl.out
  have hk2 : w1.cell? ⟨c, 135, none⟩ = some (.int .i64 v1) := HC1.out.cell 135 (by omega)
  by_cases e1 : v1 = 1
  · have hd1 : (v1 == 1) = true := by rw [e1]; rfl
    have HQ1 : Hid (R = (numberA F r1).bind fun y1 => (hashA y1.2).bind fun y2 => some (splice (upd (upd (f) 135 (.int .i64 v1)) 136 (.int .i64 y1.1)) 139 (bv y2.1) 32, [], y2.2)) := hide (by rw [HQ1.out, if_pos (by omega)])
    have HT1 := hide (HT1.out.imp id fun h => h (by omega))
    clear e1
    have na := rna_number b
    have mt := rmt_number b
    have hmf := mkF
    go_wp2_with fail
    refine wp_region_drew_tail 7 (by kernel_rfl) (by kernel_rfl) ?_
    simp only [List.take_succ_cons, List.take_zero, List.drop_succ_cons, List.drop_zero]
    iterate 7 (go_big_quiet_step (fail))
    refine wpQuiet_nil ?_
    intro _ hw'
    obtain ⟨nq, rfl⟩ := hw'
    clear na
    generalize hwq : World.drewN w1 nq = wq
    have HR1 : Hid (Rd wq b r1) := hide (by rw [← hwq]; exact Has.drewN HR1.out nq)
    have HC1 : Hid (Has wq c 40 (upd (f) 135 (.int .i64 v1)) 176) := hide (by rw [← hwq]; exact HC1.out.drewN nq)
    have HK1 : Hid (Kp b c w wq) := hide (by rw [← hwq]; exact ⟨HK1.out.os, HK1.out.tape, HK1.out.output, HK1.out.size, HK1.out.block⟩)
    have hB1 : B ≤ wq.heap.size := by rw [← hwq]; exact hB1
    have HE1 : Hid (Env E B F wq) := hide (by rw [← hwq]; exact HE1.out.below ⟨rfl, rfl, rfl, Nat.le_refl _, fun _ _ => rfl⟩)
    clear hwq
    go_wp2_with fail
    clear mt hmf
    refine (number_any b c 136 176 _ (upd (f) 135 (.int .i64 v1)) r1 _ HE1.out hB1 hb hc HR1.out HC1.out (by omega) hbc hl1 (HT1.out.imp id And.left)).mono ?_
    rintro e w2 ⟨k, ⟨z1, q1, hA, rfl, hR, hC⟩ | ⟨hA, rfl⟩⟩
    case inr =>
      have HQn : Hid (R = none) := hide (by rw [HQ1.out, hA]; rfl)
      have HKn := hide (HK1.out.trans k)
      clear hA k
      go_wp2
      exact ⟨rfl, HKn.out, .inr ⟨HQn.out, rfl⟩⟩
    have HQ2 : Hid (R = (hashA q1).bind fun y1 => some (splice (upd (upd (f) 135 (.int .i64 v1)) 136 (.int .i64 z1)) 139 (bv y1.1) 32, [], y1.2)) := hide (by rw [HQ1.out, hA]; rfl)
    have HT2 := hide (HT1.out.imp id fun h => h.2 _ hA)
    have hl2 : q1.length ≤ 70000 := by have := numberA_len hA; omega
    have hB2 : B ≤ w2.heap.size := Nat.le_trans hB1 k.size
    have HE2 := hide (HE1.out.below (k.below hB1 hb hc))
    have HK2 : Hid (Kp b c w w2) := hide (HK1.out.trans k)
    have HR2 : Hid (Rd w2 b q1) := hide hR
    have HC2 : Hid (Has w2 c 40 (upd (upd (f) 135 (.int .i64 v1)) 136 (.int .i64 z1)) 176) := hide hC
    clear hA k hR hC
    have HNl : Hid ((upd (upd (f) 135 (.int .i64 v1)) 136 (.int .i64 z1)) 173 = .slice none 0 0) := hide HNl.out
    have na := rna_hash b
    have mt := rmt_hash b
    have hmf := mkF
    go_wp2_with fail
    refine wp_region_drew_tail 7 (by kernel_rfl) (by kernel_rfl) ?_
    simp only [List.take_succ_cons, List.take_zero, List.drop_succ_cons, List.drop_zero]
    iterate 7 (go_big_quiet_step (fail))
    refine wpQuiet_nil ?_
    intro _ hw'
    obtain ⟨nq, rfl⟩ := hw'
    clear na
    generalize hwq : World.drewN w2 nq = wq
    have HR2 : Hid (Rd wq b q1) := hide (by rw [← hwq]; exact Has.drewN HR2.out nq)
    have HC2 : Hid (Has wq c 40 (upd (upd (f) 135 (.int .i64 v1)) 136 (.int .i64 z1)) 176) := hide (by rw [← hwq]; exact HC2.out.drewN nq)
    have HK2 : Hid (Kp b c w wq) := hide (by rw [← hwq]; exact ⟨HK2.out.os, HK2.out.tape, HK2.out.output, HK2.out.size, HK2.out.block⟩)
    have hB2 : B ≤ wq.heap.size := by rw [← hwq]; exact hB2
    have HE2 : Hid (Env E B F wq) := hide (by rw [← hwq]; exact HE2.out.below ⟨rfl, rfl, rfl, Nat.le_refl _, fun _ _ => rfl⟩)
    clear hwq
    go_wp2_with fail
    clear mt hmf
    refine (hash_any b c 139 176 _ (upd (upd (f) 135 (.int .i64 v1)) 136 (.int .i64 z1)) q1 _ HR2.out HC2.out (by omega) hbc hl2).mono ?_
    rintro e w3 ⟨k, ⟨z2, q2, hA, rfl, hR, hC⟩ | ⟨hA, rfl⟩⟩
    case inr =>
      have HQn : Hid (R = none) := hide (by rw [HQ2.out, hA]; rfl)
      have HKn := hide (HK2.out.trans k)
      clear hA k
      go_wp2
      exact ⟨rfl, HKn.out, .inr ⟨HQn.out, rfl⟩⟩
    have HQ3 : Hid (R = some (splice (upd (upd (f) 135 (.int .i64 v1)) 136 (.int .i64 z1)) 139 (bv z2) 32, [], q2)) := hide (by rw [HQ2.out, hA]; rfl)
    have hl3 : q2.length ≤ 70000 := by have := hashA_len hA; omega
    have hB3 : B ≤ w3.heap.size := Nat.le_trans hB2 k.size
    have HE3 := hide (HE2.out.below (k.below hB2 hb hc))
    have HK3 : Hid (Kp b c w w3) := hide (HK2.out.trans k)
    have HR3 : Hid (Rd w3 b q2) := hide hR
    have HC3 : Hid (Has w3 c 40 (splice (upd (upd (f) 135 (.int .i64 v1)) 136 (.int .i64 z1)) 139 (bv z2) 32) 176) := hide hC
    clear hA k hR hC
    have HNl : Hid ((splice (upd (upd (f) 135 (.int .i64 v1)) 136 (.int .i64 z1)) 139 (bv z2) 32) 173 = .slice none 0 0) := hide HNl.out
    go_wp2
    go_end0
    first | exact ⟨HK3.out, .inl ⟨_, _, _, _, HQ3.out, rfl, HR3.out, HC3.out.congr _ (nil173 HNl.out), OwnF.nil _ _⟩⟩ | exact ⟨HK3.out, .inl ⟨_, _, _, HQ3.out, rfl, HR3.out, _, HC3.out.congr _ (nil173 HNl.out), OwnF.nil _ _⟩⟩
  have hd1 : (v1 == 1) = false := beq_eq_false_iff_ne.2 e1
  have HQ1 : Hid (R = if v1 = 2 then (numberA F r1).bind fun y1 => (hashA y1.2).bind fun y2 => some (splice (upd (upd (f) 135 (.int .i64 v1)) 137 (.int .i64 y1.1)) 139 (bv y2.1) 32, [], y2.2) else if v1 = 3 then (numberA F r1).bind fun y1 => (quotedA y1.2).bind fun y2 => some (upd (upd (upd (f) 135 (.int .i64 v1)) 137 (.int .i64 y1.1)) 171 (.string (bs y2.1)), [], y2.2) else if v1 = 8 then (quotedA r1).bind fun y1 => some (upd (upd (f) 135 (.int .i64 v1)) 172 (.string (bs y1.1)), [], y1.2) else if v1 = 10 ∨ v1 = 11 then (numberA F r1).bind fun y1 => some (upd (upd (f) 135 (.int .i64 v1)) 138 (.int .i64 y1.1), [], y1.2) else if v1 = 12 then (numberA F r1).bind fun y1 => (fatesA F (y1.2).length (y1.2)).bind fun y2 => some (upd (upd (f) 135 (.int .i64 v1)) 138 (.int .i64 y1.1), y2, []) else some (upd (f) 135 (.int .i64 v1), [], r1)) := hide (by rw [HQ1.out, if_neg (by omega)])
  clear e1
  by_cases e2 : v1 = 2
  · have hd2 : (v1 == 2) = true := by rw [e2]; rfl
    have HQ1 : Hid (R = (numberA F r1).bind fun y1 => (hashA y1.2).bind fun y2 => some (splice (upd (upd (f) 135 (.int .i64 v1)) 137 (.int .i64 y1.1)) 139 (bv y2.1) 32, [], y2.2)) := hide (by rw [HQ1.out, if_pos (by omega)])
    have HT1 := hide (HT1.out.imp id fun h => h (by omega))
    clear e2
    have na := rna_number b
    have mt := rmt_number b
    have hmf := mkF
    go_wp2_with fail
    refine wp_region_drew_tail 7 (by kernel_rfl) (by kernel_rfl) ?_
    simp only [List.take_succ_cons, List.take_zero, List.drop_succ_cons, List.drop_zero]
    iterate 7 (go_big_quiet_step (fail))
    refine wpQuiet_nil ?_
    intro _ hw'
    obtain ⟨nq, rfl⟩ := hw'
    clear na
    generalize hwq : World.drewN w1 nq = wq
    have HR1 : Hid (Rd wq b r1) := hide (by rw [← hwq]; exact Has.drewN HR1.out nq)
    have HC1 : Hid (Has wq c 40 (upd (f) 135 (.int .i64 v1)) 176) := hide (by rw [← hwq]; exact HC1.out.drewN nq)
    have HK1 : Hid (Kp b c w wq) := hide (by rw [← hwq]; exact ⟨HK1.out.os, HK1.out.tape, HK1.out.output, HK1.out.size, HK1.out.block⟩)
    have hB1 : B ≤ wq.heap.size := by rw [← hwq]; exact hB1
    have HE1 : Hid (Env E B F wq) := hide (by rw [← hwq]; exact HE1.out.below ⟨rfl, rfl, rfl, Nat.le_refl _, fun _ _ => rfl⟩)
    clear hwq
    go_wp2_with fail
    clear mt hmf
    refine (number_any b c 137 176 _ (upd (f) 135 (.int .i64 v1)) r1 _ HE1.out hB1 hb hc HR1.out HC1.out (by omega) hbc hl1 (HT1.out.imp id And.left)).mono ?_
    rintro e w2 ⟨k, ⟨z1, q1, hA, rfl, hR, hC⟩ | ⟨hA, rfl⟩⟩
    case inr =>
      have HQn : Hid (R = none) := hide (by rw [HQ1.out, hA]; rfl)
      have HKn := hide (HK1.out.trans k)
      clear hA k
      go_wp2
      exact ⟨rfl, HKn.out, .inr ⟨HQn.out, rfl⟩⟩
    have HQ2 : Hid (R = (hashA q1).bind fun y1 => some (splice (upd (upd (f) 135 (.int .i64 v1)) 137 (.int .i64 z1)) 139 (bv y1.1) 32, [], y1.2)) := hide (by rw [HQ1.out, hA]; rfl)
    have HT2 := hide (HT1.out.imp id fun h => h.2 _ hA)
    have hl2 : q1.length ≤ 70000 := by have := numberA_len hA; omega
    have hB2 : B ≤ w2.heap.size := Nat.le_trans hB1 k.size
    have HE2 := hide (HE1.out.below (k.below hB1 hb hc))
    have HK2 : Hid (Kp b c w w2) := hide (HK1.out.trans k)
    have HR2 : Hid (Rd w2 b q1) := hide hR
    have HC2 : Hid (Has w2 c 40 (upd (upd (f) 135 (.int .i64 v1)) 137 (.int .i64 z1)) 176) := hide hC
    clear hA k hR hC
    have HNl : Hid ((upd (upd (f) 135 (.int .i64 v1)) 137 (.int .i64 z1)) 173 = .slice none 0 0) := hide HNl.out
    have na := rna_hash b
    have mt := rmt_hash b
    have hmf := mkF
    go_wp2_with fail
    refine wp_region_drew_tail 7 (by kernel_rfl) (by kernel_rfl) ?_
    simp only [List.take_succ_cons, List.take_zero, List.drop_succ_cons, List.drop_zero]
    iterate 7 (go_big_quiet_step (fail))
    refine wpQuiet_nil ?_
    intro _ hw'
    obtain ⟨nq, rfl⟩ := hw'
    clear na
    generalize hwq : World.drewN w2 nq = wq
    have HR2 : Hid (Rd wq b q1) := hide (by rw [← hwq]; exact Has.drewN HR2.out nq)
    have HC2 : Hid (Has wq c 40 (upd (upd (f) 135 (.int .i64 v1)) 137 (.int .i64 z1)) 176) := hide (by rw [← hwq]; exact HC2.out.drewN nq)
    have HK2 : Hid (Kp b c w wq) := hide (by rw [← hwq]; exact ⟨HK2.out.os, HK2.out.tape, HK2.out.output, HK2.out.size, HK2.out.block⟩)
    have hB2 : B ≤ wq.heap.size := by rw [← hwq]; exact hB2
    have HE2 : Hid (Env E B F wq) := hide (by rw [← hwq]; exact HE2.out.below ⟨rfl, rfl, rfl, Nat.le_refl _, fun _ _ => rfl⟩)
    clear hwq
    go_wp2_with fail
    clear mt hmf
    refine (hash_any b c 139 176 _ (upd (upd (f) 135 (.int .i64 v1)) 137 (.int .i64 z1)) q1 _ HR2.out HC2.out (by omega) hbc hl2).mono ?_
    rintro e w3 ⟨k, ⟨z2, q2, hA, rfl, hR, hC⟩ | ⟨hA, rfl⟩⟩
    case inr =>
      have HQn : Hid (R = none) := hide (by rw [HQ2.out, hA]; rfl)
      have HKn := hide (HK2.out.trans k)
      clear hA k
      go_wp2
      exact ⟨rfl, HKn.out, .inr ⟨HQn.out, rfl⟩⟩
    have HQ3 : Hid (R = some (splice (upd (upd (f) 135 (.int .i64 v1)) 137 (.int .i64 z1)) 139 (bv z2) 32, [], q2)) := hide (by rw [HQ2.out, hA]; rfl)
    have hl3 : q2.length ≤ 70000 := by have := hashA_len hA; omega
    have hB3 : B ≤ w3.heap.size := Nat.le_trans hB2 k.size
    have HE3 := hide (HE2.out.below (k.below hB2 hb hc))
    have HK3 : Hid (Kp b c w w3) := hide (HK2.out.trans k)
    have HR3 : Hid (Rd w3 b q2) := hide hR
    have HC3 : Hid (Has w3 c 40 (splice (upd (upd (f) 135 (.int .i64 v1)) 137 (.int .i64 z1)) 139 (bv z2) 32) 176) := hide hC
    clear hA k hR hC
    have HNl : Hid ((splice (upd (upd (f) 135 (.int .i64 v1)) 137 (.int .i64 z1)) 139 (bv z2) 32) 173 = .slice none 0 0) := hide HNl.out
    go_wp2
    go_end0
    first | exact ⟨HK3.out, .inl ⟨_, _, _, _, HQ3.out, rfl, HR3.out, HC3.out.congr _ (nil173 HNl.out), OwnF.nil _ _⟩⟩ | exact ⟨HK3.out, .inl ⟨_, _, _, HQ3.out, rfl, HR3.out, _, HC3.out.congr _ (nil173 HNl.out), OwnF.nil _ _⟩⟩
  have hd2 : (v1 == 2) = false := beq_eq_false_iff_ne.2 e2
  have HQ1 : Hid (R = if v1 = 3 then (numberA F r1).bind fun y1 => (quotedA y1.2).bind fun y2 => some (upd (upd (upd (f) 135 (.int .i64 v1)) 137 (.int .i64 y1.1)) 171 (.string (bs y2.1)), [], y2.2) else if v1 = 8 then (quotedA r1).bind fun y1 => some (upd (upd (f) 135 (.int .i64 v1)) 172 (.string (bs y1.1)), [], y1.2) else if v1 = 10 ∨ v1 = 11 then (numberA F r1).bind fun y1 => some (upd (upd (f) 135 (.int .i64 v1)) 138 (.int .i64 y1.1), [], y1.2) else if v1 = 12 then (numberA F r1).bind fun y1 => (fatesA F (y1.2).length (y1.2)).bind fun y2 => some (upd (upd (f) 135 (.int .i64 v1)) 138 (.int .i64 y1.1), y2, []) else some (upd (f) 135 (.int .i64 v1), [], r1)) := hide (by rw [HQ1.out, if_neg (by omega)])
  clear e2
  by_cases e3 : v1 = 3
  · have hd3 : (v1 == 3) = true := by rw [e3]; rfl
    have HQ1 : Hid (R = (numberA F r1).bind fun y1 => (quotedA y1.2).bind fun y2 => some (upd (upd (upd (f) 135 (.int .i64 v1)) 137 (.int .i64 y1.1)) 171 (.string (bs y2.1)), [], y2.2)) := hide (by rw [HQ1.out, if_pos (by omega)])
    have HT1 := hide (HT1.out.imp id fun h => h (by omega))
    clear e3
    have na := rna_number b
    have mt := rmt_number b
    have hmf := mkF
    go_wp2_with fail
    refine wp_region_drew_tail 7 (by kernel_rfl) (by kernel_rfl) ?_
    simp only [List.take_succ_cons, List.take_zero, List.drop_succ_cons, List.drop_zero]
    iterate 7 (go_big_quiet_step (fail))
    refine wpQuiet_nil ?_
    intro _ hw'
    obtain ⟨nq, rfl⟩ := hw'
    clear na
    generalize hwq : World.drewN w1 nq = wq
    have HR1 : Hid (Rd wq b r1) := hide (by rw [← hwq]; exact Has.drewN HR1.out nq)
    have HC1 : Hid (Has wq c 40 (upd (f) 135 (.int .i64 v1)) 176) := hide (by rw [← hwq]; exact HC1.out.drewN nq)
    have HK1 : Hid (Kp b c w wq) := hide (by rw [← hwq]; exact ⟨HK1.out.os, HK1.out.tape, HK1.out.output, HK1.out.size, HK1.out.block⟩)
    have hB1 : B ≤ wq.heap.size := by rw [← hwq]; exact hB1
    have HE1 : Hid (Env E B F wq) := hide (by rw [← hwq]; exact HE1.out.below ⟨rfl, rfl, rfl, Nat.le_refl _, fun _ _ => rfl⟩)
    clear hwq
    go_wp2_with fail
    clear mt hmf
    refine (number_any b c 137 176 _ (upd (f) 135 (.int .i64 v1)) r1 _ HE1.out hB1 hb hc HR1.out HC1.out (by omega) hbc hl1 (HT1.out.imp id And.left)).mono ?_
    rintro e w2 ⟨k, ⟨z1, q1, hA, rfl, hR, hC⟩ | ⟨hA, rfl⟩⟩
    case inr =>
      have HQn : Hid (R = none) := hide (by rw [HQ1.out, hA]; rfl)
      have HKn := hide (HK1.out.trans k)
      clear hA k
      go_wp2
      exact ⟨rfl, HKn.out, .inr ⟨HQn.out, rfl⟩⟩
    have HQ2 : Hid (R = (quotedA q1).bind fun y1 => some (upd (upd (upd (f) 135 (.int .i64 v1)) 137 (.int .i64 z1)) 171 (.string (bs y1.1)), [], y1.2)) := hide (by rw [HQ1.out, hA]; rfl)
    have HT2 := hide (HT1.out.imp id fun h => h.2 _ hA)
    have hl2 : q1.length ≤ 70000 := by have := numberA_len hA; omega
    have hB2 : B ≤ w2.heap.size := Nat.le_trans hB1 k.size
    have HE2 := hide (HE1.out.below (k.below hB1 hb hc))
    have HK2 : Hid (Kp b c w w2) := hide (HK1.out.trans k)
    have HR2 : Hid (Rd w2 b q1) := hide hR
    have HC2 : Hid (Has w2 c 40 (upd (upd (f) 135 (.int .i64 v1)) 137 (.int .i64 z1)) 176) := hide hC
    clear hA k hR hC
    have HNl : Hid ((upd (upd (f) 135 (.int .i64 v1)) 137 (.int .i64 z1)) 173 = .slice none 0 0) := hide HNl.out
    have na := rna_quoted b
    have mt := rmt_quoted b
    have hmf := mkF
    go_wp2_with fail
    refine wp_region_drew_tail 7 (by kernel_rfl) (by kernel_rfl) ?_
    simp only [List.take_succ_cons, List.take_zero, List.drop_succ_cons, List.drop_zero]
    iterate 7 (go_big_quiet_step (fail))
    refine wpQuiet_nil ?_
    intro _ hw'
    obtain ⟨nq, rfl⟩ := hw'
    clear na
    generalize hwq : World.drewN w2 nq = wq
    have HR2 : Hid (Rd wq b q1) := hide (by rw [← hwq]; exact Has.drewN HR2.out nq)
    have HC2 : Hid (Has wq c 40 (upd (upd (f) 135 (.int .i64 v1)) 137 (.int .i64 z1)) 176) := hide (by rw [← hwq]; exact HC2.out.drewN nq)
    have HK2 : Hid (Kp b c w wq) := hide (by rw [← hwq]; exact ⟨HK2.out.os, HK2.out.tape, HK2.out.output, HK2.out.size, HK2.out.block⟩)
    have hB2 : B ≤ wq.heap.size := by rw [← hwq]; exact hB2
    have HE2 : Hid (Env E B F wq) := hide (by rw [← hwq]; exact HE2.out.below ⟨rfl, rfl, rfl, Nat.le_refl _, fun _ _ => rfl⟩)
    clear hwq
    go_wp2_with fail
    clear mt hmf
    refine (quoted_any b c 171 176 _ (upd (upd (f) 135 (.int .i64 v1)) 137 (.int .i64 z1)) q1 _ HR2.out HC2.out (by omega) hbc hl2).mono ?_
    rintro e w3 ⟨k, ⟨z2, q2, hA, rfl, hR, hC⟩ | ⟨hA, rfl⟩⟩
    case inr =>
      have HQn : Hid (R = none) := hide (by rw [HQ2.out, hA]; rfl)
      have HKn := hide (HK2.out.trans k)
      clear hA k
      go_wp2
      exact ⟨rfl, HKn.out, .inr ⟨HQn.out, rfl⟩⟩
    have HQ3 : Hid (R = some (upd (upd (upd (f) 135 (.int .i64 v1)) 137 (.int .i64 z1)) 171 (.string (bs z2)), [], q2)) := hide (by rw [HQ2.out, hA]; rfl)
    have hl3 : q2.length ≤ 70000 := by have := quotedA_len hA; omega
    have hB3 : B ≤ w3.heap.size := Nat.le_trans hB2 k.size
    have HE3 := hide (HE2.out.below (k.below hB2 hb hc))
    have HK3 : Hid (Kp b c w w3) := hide (HK2.out.trans k)
    have HR3 : Hid (Rd w3 b q2) := hide hR
    have HC3 : Hid (Has w3 c 40 (upd (upd (upd (f) 135 (.int .i64 v1)) 137 (.int .i64 z1)) 171 (.string (bs z2))) 176) := hide hC
    clear hA k hR hC
    have HNl : Hid ((upd (upd (upd (f) 135 (.int .i64 v1)) 137 (.int .i64 z1)) 171 (.string (bs z2))) 173 = .slice none 0 0) := hide HNl.out
    go_wp2
    go_end0
    first | exact ⟨HK3.out, .inl ⟨_, _, _, _, HQ3.out, rfl, HR3.out, HC3.out.congr _ (nil173 HNl.out), OwnF.nil _ _⟩⟩ | exact ⟨HK3.out, .inl ⟨_, _, _, HQ3.out, rfl, HR3.out, _, HC3.out.congr _ (nil173 HNl.out), OwnF.nil _ _⟩⟩
  have hd3 : (v1 == 3) = false := beq_eq_false_iff_ne.2 e3
  have HQ1 : Hid (R = if v1 = 8 then (quotedA r1).bind fun y1 => some (upd (upd (f) 135 (.int .i64 v1)) 172 (.string (bs y1.1)), [], y1.2) else if v1 = 10 ∨ v1 = 11 then (numberA F r1).bind fun y1 => some (upd (upd (f) 135 (.int .i64 v1)) 138 (.int .i64 y1.1), [], y1.2) else if v1 = 12 then (numberA F r1).bind fun y1 => (fatesA F (y1.2).length (y1.2)).bind fun y2 => some (upd (upd (f) 135 (.int .i64 v1)) 138 (.int .i64 y1.1), y2, []) else some (upd (f) 135 (.int .i64 v1), [], r1)) := hide (by rw [HQ1.out, if_neg (by omega)])
  clear e3
  by_cases e8 : v1 = 8
  · have hd8 : (v1 == 8) = true := by rw [e8]; rfl
    have HQ1 : Hid (R = (quotedA r1).bind fun y1 => some (upd (upd (f) 135 (.int .i64 v1)) 172 (.string (bs y1.1)), [], y1.2)) := hide (by rw [HQ1.out, if_pos (by omega)])
    clear e8
    have na := rna_quoted b
    have mt := rmt_quoted b
    have hmf := mkF
    go_wp2_with fail
    refine wp_region_drew_tail 7 (by kernel_rfl) (by kernel_rfl) ?_
    simp only [List.take_succ_cons, List.take_zero, List.drop_succ_cons, List.drop_zero]
    iterate 7 (go_big_quiet_step (fail))
    refine wpQuiet_nil ?_
    intro _ hw'
    obtain ⟨nq, rfl⟩ := hw'
    clear na
    generalize hwq : World.drewN w1 nq = wq
    have HR1 : Hid (Rd wq b r1) := hide (by rw [← hwq]; exact Has.drewN HR1.out nq)
    have HC1 : Hid (Has wq c 40 (upd (f) 135 (.int .i64 v1)) 176) := hide (by rw [← hwq]; exact HC1.out.drewN nq)
    have HK1 : Hid (Kp b c w wq) := hide (by rw [← hwq]; exact ⟨HK1.out.os, HK1.out.tape, HK1.out.output, HK1.out.size, HK1.out.block⟩)
    have hB1 : B ≤ wq.heap.size := by rw [← hwq]; exact hB1
    have HE1 : Hid (Env E B F wq) := hide (by rw [← hwq]; exact HE1.out.below ⟨rfl, rfl, rfl, Nat.le_refl _, fun _ _ => rfl⟩)
    clear hwq
    go_wp2_with fail
    clear mt hmf
    refine (quoted_any b c 172 176 _ (upd (f) 135 (.int .i64 v1)) r1 _ HR1.out HC1.out (by omega) hbc hl1).mono ?_
    rintro e w2 ⟨k, ⟨z1, q1, hA, rfl, hR, hC⟩ | ⟨hA, rfl⟩⟩
    case inr =>
      have HQn : Hid (R = none) := hide (by rw [HQ1.out, hA]; rfl)
      have HKn := hide (HK1.out.trans k)
      clear hA k
      go_wp2
      exact ⟨rfl, HKn.out, .inr ⟨HQn.out, rfl⟩⟩
    have HQ2 : Hid (R = some (upd (upd (f) 135 (.int .i64 v1)) 172 (.string (bs z1)), [], q1)) := hide (by rw [HQ1.out, hA]; rfl)
    have hl2 : q1.length ≤ 70000 := by have := quotedA_len hA; omega
    have hB2 : B ≤ w2.heap.size := Nat.le_trans hB1 k.size
    have HE2 := hide (HE1.out.below (k.below hB1 hb hc))
    have HK2 : Hid (Kp b c w w2) := hide (HK1.out.trans k)
    have HR2 : Hid (Rd w2 b q1) := hide hR
    have HC2 : Hid (Has w2 c 40 (upd (upd (f) 135 (.int .i64 v1)) 172 (.string (bs z1))) 176) := hide hC
    clear hA k hR hC
    have HNl : Hid ((upd (upd (f) 135 (.int .i64 v1)) 172 (.string (bs z1))) 173 = .slice none 0 0) := hide HNl.out
    go_wp2
    go_end0
    first | exact ⟨HK2.out, .inl ⟨_, _, _, _, HQ2.out, rfl, HR2.out, HC2.out.congr _ (nil173 HNl.out), OwnF.nil _ _⟩⟩ | exact ⟨HK2.out, .inl ⟨_, _, _, HQ2.out, rfl, HR2.out, _, HC2.out.congr _ (nil173 HNl.out), OwnF.nil _ _⟩⟩
  have hd8 : (v1 == 8) = false := beq_eq_false_iff_ne.2 e8
  have HQ1 : Hid (R = if v1 = 10 ∨ v1 = 11 then (numberA F r1).bind fun y1 => some (upd (upd (f) 135 (.int .i64 v1)) 138 (.int .i64 y1.1), [], y1.2) else if v1 = 12 then (numberA F r1).bind fun y1 => (fatesA F (y1.2).length (y1.2)).bind fun y2 => some (upd (upd (f) 135 (.int .i64 v1)) 138 (.int .i64 y1.1), y2, []) else some (upd (f) 135 (.int .i64 v1), [], r1)) := hide (by rw [HQ1.out, if_neg (by omega)])
  clear e8
  by_cases e10 : v1 = 10
  · have hd10 : (v1 == 10) = true := by rw [e10]; rfl
    have HQ1 : Hid (R = (numberA F r1).bind fun y1 => some (upd (upd (f) 135 (.int .i64 v1)) 138 (.int .i64 y1.1), [], y1.2)) := hide (by rw [HQ1.out, if_pos (by omega)])
    have HT1 := hide (HT1.out.imp id fun h => h (by omega))
    clear e10
    have na := rna_number b
    have mt := rmt_number b
    have hmf := mkF
    go_wp2_with fail
    refine wp_region_drew_tail 7 (by kernel_rfl) (by kernel_rfl) ?_
    simp only [List.take_succ_cons, List.take_zero, List.drop_succ_cons, List.drop_zero]
    iterate 7 (go_big_quiet_step (fail))
    refine wpQuiet_nil ?_
    intro _ hw'
    obtain ⟨nq, rfl⟩ := hw'
    clear na
    generalize hwq : World.drewN w1 nq = wq
    have HR1 : Hid (Rd wq b r1) := hide (by rw [← hwq]; exact Has.drewN HR1.out nq)
    have HC1 : Hid (Has wq c 40 (upd (f) 135 (.int .i64 v1)) 176) := hide (by rw [← hwq]; exact HC1.out.drewN nq)
    have HK1 : Hid (Kp b c w wq) := hide (by rw [← hwq]; exact ⟨HK1.out.os, HK1.out.tape, HK1.out.output, HK1.out.size, HK1.out.block⟩)
    have hB1 : B ≤ wq.heap.size := by rw [← hwq]; exact hB1
    have HE1 : Hid (Env E B F wq) := hide (by rw [← hwq]; exact HE1.out.below ⟨rfl, rfl, rfl, Nat.le_refl _, fun _ _ => rfl⟩)
    clear hwq
    go_wp2_with fail
    clear mt hmf
    refine (number_any b c 138 176 _ (upd (f) 135 (.int .i64 v1)) r1 _ HE1.out hB1 hb hc HR1.out HC1.out (by omega) hbc hl1 (HT1.out.imp id And.left)).mono ?_
    rintro e w2 ⟨k, ⟨z1, q1, hA, rfl, hR, hC⟩ | ⟨hA, rfl⟩⟩
    case inr =>
      have HQn : Hid (R = none) := hide (by rw [HQ1.out, hA]; rfl)
      have HKn := hide (HK1.out.trans k)
      clear hA k
      go_wp2
      exact ⟨rfl, HKn.out, .inr ⟨HQn.out, rfl⟩⟩
    have HQ2 : Hid (R = some (upd (upd (f) 135 (.int .i64 v1)) 138 (.int .i64 z1), [], q1)) := hide (by rw [HQ1.out, hA]; rfl)
    have HT2 := hide (HT1.out.imp id fun h => h.2 _ hA)
    have hl2 : q1.length ≤ 70000 := by have := numberA_len hA; omega
    have hB2 : B ≤ w2.heap.size := Nat.le_trans hB1 k.size
    have HE2 := hide (HE1.out.below (k.below hB1 hb hc))
    have HK2 : Hid (Kp b c w w2) := hide (HK1.out.trans k)
    have HR2 : Hid (Rd w2 b q1) := hide hR
    have HC2 : Hid (Has w2 c 40 (upd (upd (f) 135 (.int .i64 v1)) 138 (.int .i64 z1)) 176) := hide hC
    clear hA k hR hC
    have HNl : Hid ((upd (upd (f) 135 (.int .i64 v1)) 138 (.int .i64 z1)) 173 = .slice none 0 0) := hide HNl.out
    go_wp2
    go_end0
    first | exact ⟨HK2.out, .inl ⟨_, _, _, _, HQ2.out, rfl, HR2.out, HC2.out.congr _ (nil173 HNl.out), OwnF.nil _ _⟩⟩ | exact ⟨HK2.out, .inl ⟨_, _, _, HQ2.out, rfl, HR2.out, _, HC2.out.congr _ (nil173 HNl.out), OwnF.nil _ _⟩⟩
  have hd10 : (v1 == 10) = false := beq_eq_false_iff_ne.2 e10
  by_cases e11 : v1 = 11
  · have hd11 : (v1 == 11) = true := by rw [e11]; rfl
    have HQ1 : Hid (R = (numberA F r1).bind fun y1 => some (upd (upd (f) 135 (.int .i64 v1)) 138 (.int .i64 y1.1), [], y1.2)) := hide (by rw [HQ1.out, if_pos (by omega)])
    have HT1 := hide (HT1.out.imp id fun h => h (by omega))
    clear e10 e11
    have na := rna_number b
    have mt := rmt_number b
    have hmf := mkF
    go_wp2_with fail
    refine wp_region_drew_tail 7 (by kernel_rfl) (by kernel_rfl) ?_
    simp only [List.take_succ_cons, List.take_zero, List.drop_succ_cons, List.drop_zero]
    iterate 7 (go_big_quiet_step (fail))
    refine wpQuiet_nil ?_
    intro _ hw'
    obtain ⟨nq, rfl⟩ := hw'
    clear na
    generalize hwq : World.drewN w1 nq = wq
    have HR1 : Hid (Rd wq b r1) := hide (by rw [← hwq]; exact Has.drewN HR1.out nq)
    have HC1 : Hid (Has wq c 40 (upd (f) 135 (.int .i64 v1)) 176) := hide (by rw [← hwq]; exact HC1.out.drewN nq)
    have HK1 : Hid (Kp b c w wq) := hide (by rw [← hwq]; exact ⟨HK1.out.os, HK1.out.tape, HK1.out.output, HK1.out.size, HK1.out.block⟩)
    have hB1 : B ≤ wq.heap.size := by rw [← hwq]; exact hB1
    have HE1 : Hid (Env E B F wq) := hide (by rw [← hwq]; exact HE1.out.below ⟨rfl, rfl, rfl, Nat.le_refl _, fun _ _ => rfl⟩)
    clear hwq
    go_wp2_with fail
    clear mt hmf
    refine (number_any b c 138 176 _ (upd (f) 135 (.int .i64 v1)) r1 _ HE1.out hB1 hb hc HR1.out HC1.out (by omega) hbc hl1 (HT1.out.imp id And.left)).mono ?_
    rintro e w2 ⟨k, ⟨z1, q1, hA, rfl, hR, hC⟩ | ⟨hA, rfl⟩⟩
    case inr =>
      have HQn : Hid (R = none) := hide (by rw [HQ1.out, hA]; rfl)
      have HKn := hide (HK1.out.trans k)
      clear hA k
      go_wp2
      exact ⟨rfl, HKn.out, .inr ⟨HQn.out, rfl⟩⟩
    have HQ2 : Hid (R = some (upd (upd (f) 135 (.int .i64 v1)) 138 (.int .i64 z1), [], q1)) := hide (by rw [HQ1.out, hA]; rfl)
    have HT2 := hide (HT1.out.imp id fun h => h.2 _ hA)
    have hl2 : q1.length ≤ 70000 := by have := numberA_len hA; omega
    have hB2 : B ≤ w2.heap.size := Nat.le_trans hB1 k.size
    have HE2 := hide (HE1.out.below (k.below hB1 hb hc))
    have HK2 : Hid (Kp b c w w2) := hide (HK1.out.trans k)
    have HR2 : Hid (Rd w2 b q1) := hide hR
    have HC2 : Hid (Has w2 c 40 (upd (upd (f) 135 (.int .i64 v1)) 138 (.int .i64 z1)) 176) := hide hC
    clear hA k hR hC
    have HNl : Hid ((upd (upd (f) 135 (.int .i64 v1)) 138 (.int .i64 z1)) 173 = .slice none 0 0) := hide HNl.out
    go_wp2
    go_end0
    first | exact ⟨HK2.out, .inl ⟨_, _, _, _, HQ2.out, rfl, HR2.out, HC2.out.congr _ (nil173 HNl.out), OwnF.nil _ _⟩⟩ | exact ⟨HK2.out, .inl ⟨_, _, _, HQ2.out, rfl, HR2.out, _, HC2.out.congr _ (nil173 HNl.out), OwnF.nil _ _⟩⟩
  have hd11 : (v1 == 11) = false := beq_eq_false_iff_ne.2 e11
  have HQ1 : Hid (R = if v1 = 12 then (numberA F r1).bind fun y1 => (fatesA F (y1.2).length (y1.2)).bind fun y2 => some (upd (upd (f) 135 (.int .i64 v1)) 138 (.int .i64 y1.1), y2, []) else some (upd (f) 135 (.int .i64 v1), [], r1)) := hide (by rw [HQ1.out, if_neg (by omega)])
  clear e10 e11
  by_cases e12 : v1 = 12
  · have hd12 : (v1 == 12) = true := by rw [e12]; rfl
    have HQ1 : Hid (R = (numberA F r1).bind fun y1 => (fatesA F (y1.2).length (y1.2)).bind fun y2 => some (upd (upd (f) 135 (.int .i64 v1)) 138 (.int .i64 y1.1), y2, [])) := hide (by rw [HQ1.out, if_pos (by omega)])
    have HT1 := hide (HT1.out.imp id fun h => h (by omega))
    have HV := hide e12
    clear e12
    have na := rna_number b
    have mt := rmt_number b
    have hmf := mkF
    go_wp2_with fail
    refine wp_region_drew_tail 7 (by kernel_rfl) (by kernel_rfl) ?_
    simp only [List.take_succ_cons, List.take_zero, List.drop_succ_cons, List.drop_zero]
    iterate 7 (go_big_quiet_step (fail))
    refine wpQuiet_nil ?_
    intro _ hw'
    obtain ⟨nq, rfl⟩ := hw'
    clear na
    generalize hwq : World.drewN w1 nq = wq
    have HR1 : Hid (Rd wq b r1) := hide (by rw [← hwq]; exact Has.drewN HR1.out nq)
    have HC1 : Hid (Has wq c 40 (upd (f) 135 (.int .i64 v1)) 176) := hide (by rw [← hwq]; exact HC1.out.drewN nq)
    have HK1 : Hid (Kp b c w wq) := hide (by rw [← hwq]; exact ⟨HK1.out.os, HK1.out.tape, HK1.out.output, HK1.out.size, HK1.out.block⟩)
    have hB1 : B ≤ wq.heap.size := by rw [← hwq]; exact hB1
    have HE1 : Hid (Env E B F wq) := hide (by rw [← hwq]; exact HE1.out.below ⟨rfl, rfl, rfl, Nat.le_refl _, fun _ _ => rfl⟩)
    clear hwq
    go_wp2_with fail
    clear mt hmf
    refine (number_any b c 138 176 _ (upd (f) 135 (.int .i64 v1)) r1 _ HE1.out hB1 hb hc HR1.out HC1.out (by omega) hbc hl1 (HT1.out.imp id And.left)).mono ?_
    rintro e w2 ⟨k, ⟨z1, q1, hA, rfl, hR, hC⟩ | ⟨hA, rfl⟩⟩
    case inr =>
      have HQn : Hid (R = none) := hide (by rw [HQ1.out, hA]; rfl)
      have HKn := hide (HK1.out.trans k)
      clear hA k
      go_wp2
      exact ⟨rfl, HKn.out, .inr ⟨HQn.out, rfl⟩⟩
    have HQ2 : Hid (R = (fatesA F (q1).length (q1)).bind fun y1 => some (upd (upd (f) 135 (.int .i64 v1)) 138 (.int .i64 z1), y1, [])) := hide (by rw [HQ1.out, hA]; rfl)
    have HT2 := hide (HT1.out.imp id fun h => h.2 _ hA)
    have hl2 : q1.length ≤ 70000 := by have := numberA_len hA; omega
    have hB2 : B ≤ w2.heap.size := Nat.le_trans hB1 k.size
    have HE2 := hide (HE1.out.below (k.below hB1 hb hc))
    have HK2 : Hid (Kp b c w w2) := hide (HK1.out.trans k)
    have HR2 : Hid (Rd w2 b q1) := hide hR
    have HC2 : Hid (Has w2 c 40 (upd (upd (f) 135 (.int .i64 v1)) 138 (.int .i64 z1)) 176) := hide hC
    clear hA k hR hC
    have HNl : Hid ((upd (upd (f) 135 (.int .i64 v1)) 138 (.int .i64 z1)) 173 = .slice none 0 0) := hide HNl.out
    have HTf := hide (HT2.out.imp id fun h => h HV.out)
    have na := rna_fates b
    have mt := rmt_fates b
    have hmf := mkF
    go_wp2_with fail
    refine wp_region_drew_tail 7 (by kernel_rfl) (by kernel_rfl) ?_
    simp only [List.take_succ_cons, List.take_zero, List.drop_succ_cons, List.drop_zero]
    iterate 7 (go_big_quiet_step (fail))
    refine wpQuiet_nil ?_
    intro _ hw'
    obtain ⟨nq, rfl⟩ := hw'
    clear na
    generalize hwq : World.drewN w2 nq = wq
    have HR2 : Hid (Rd wq b q1) := hide (by rw [← hwq]; exact Has.drewN HR2.out nq)
    have HC2 : Hid (Has wq c 40 (upd (upd (f) 135 (.int .i64 v1)) 138 (.int .i64 z1)) 176) := hide (by rw [← hwq]; exact HC2.out.drewN nq)
    have HK2 : Hid (Kp b c w wq) := hide (by rw [← hwq]; exact ⟨HK2.out.os, HK2.out.tape, HK2.out.output, HK2.out.size, HK2.out.block⟩)
    have hB2 : B ≤ wq.heap.size := by rw [← hwq]; exact hB2
    have HE2 : Hid (Env E B F wq) := hide (by rw [← hwq]; exact HE2.out.below ⟨rfl, rfl, rfl, Nat.le_refl _, fun _ _ => rfl⟩)
    clear hwq
    go_wp2_with fail
    clear mt hmf
    refine (rfates_any b c 173 176 _ (upd (upd (f) 135 (.int .i64 v1)) 138 (.int .i64 z1)) q1 _ HE2.out hB2 hb hc HR2.out HC2.out (by omega) HNl.out hbc hl2 HTf.out).mono ?_
    rintro e w3 ⟨k, ⟨fs, v, hA, rfl, hR, hC, hO⟩ | ⟨hA, rfl⟩⟩
    case inr =>
      have HQn : Hid (R = none) := hide (by rw [HQ2.out, hA]; rfl)
      have HKn := hide (HK2.out.trans k)
      clear hA k
      go_wp2
      exact ⟨rfl, HKn.out, .inr ⟨HQn.out, rfl⟩⟩
    have HQ3 : Hid (R = some (upd (upd (f) 135 (.int .i64 v1)) 138 (.int .i64 z1), fs, [])) := hide (by rw [HQ2.out, hA]; rfl)
    have HK3 : Hid (Kp b c w w3) := hide (HK2.out.trans k)
    have HO := hide (hO.mono HK2.out.size)
    have HRn := hide hR
    have HCn := hide hC
    clear hA k hO hR hC
    go_wp2
    go_end0
    exact ⟨HK3.out, .inl ⟨_, _, _, _, HQ3.out, rfl, HRn.out, HCn.out, HO.out⟩⟩
  have hd12 : (v1 == 12) = false := beq_eq_false_iff_ne.2 e12
  have HQ1 : Hid (R = some (upd (f) 135 (.int .i64 v1), [], r1)) := hide (by rw [HQ1.out, if_neg (by omega)])
  clear e12
  go_wp2
  go_end0
  first | exact ⟨HK1.out, .inl ⟨_, _, _, _, HQ1.out, rfl, HR1.out, HC1.out.congr _ (nil173 HNl.out), OwnF.nil _ _⟩⟩ | exact ⟨HK1.out, .inl ⟨_, _, _, HQ1.out, rfl, HR1.out, _, HC1.out.congr _ (nil173 HNl.out), OwnF.nil _ _⟩⟩
end Go.Proofs.YtepgoehpjafbhaaGreatDoor
