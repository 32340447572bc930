/-
  script's reader: a fate (printed by gen_ft.py).
-/
import Derived.Test.YtepgoehpjafbhaaGreatDoorSIf
namespace Go.Proofs.YtepgoehpjafbhaaGreatDoor
open Go.RowKit S
set_option linter.unusedVariables false
set_option linter.unusedSimpArgs false
theorem numberA_len {F : Int → List UInt8} {l r : List UInt8} {v : Int} (h : numberA F l = some (v, r)) : r.length < l.length := by
  unfold numberA at h
  cases hn : nextW l with
  | none => rw [hn] at h; cases h
  | some x =>
    rw [hn] at h
    obtain ⟨wd, q⟩ := x
    have hq := (nextW_len hn).2
    change Option.map _ (numA F wd) = _ at h
    cases hv : numA F wd with
    | none => rw [hv] at h; cases h
    | some y => rw [hv] at h; injection h with h; injection h with _ h; subst h; exact hq
theorem nameA_len {zs : List ByteArray} {l r : List UInt8} {v : Int} (h : nameA zs l = some (v, r)) : r.length < l.length := by
  unfold nameA at h
  cases hn : nextW l with
  | none => rw [hn] at h; cases h
  | some x =>
    rw [hn] at h
    obtain ⟨wd, q⟩ := x
    have hq := (nextW_len hn).2
    change (if kindB zs wd then some (Lib.idxOfS zs (bs wd), q) else none) = _ at h
    split at h
    · injection h with h; injection h with _ h; subst h; exact hq
    · cases h
theorem hashA_len {l r : List UInt8} {v : Nat → UInt8} (h : hashA l = some (v, r)) : r.length < l.length := by
  unfold hashA at h
  cases hn : nextW l with
  | none => rw [hn] at h; cases h
  | some x =>
    rw [hn] at h
    obtain ⟨wd, q⟩ := x
    have hq := (nextW_len hn).2
    change (if hexAll wd then some (hexB wd, q) else none) = _ at h
    split at h
    · injection h with h; injection h with _ h; subst h; exact hq
    · cases h
theorem qL_len : ∀ (n : Nat) (l s r : List UInt8), qL n l = some (s, r) → r.length < l.length
  | 0, _, _, _, h => by cases h
  | n + 1, [], _, _, h => by cases h
  | n + 1, c :: t, s, r, h => by
    rw [qL_cons] at h
    split at h
    · injection h with h; injection h with _ h; subst h; simp
    · split at h
      · split at h
        · cases he : escA t with
          | none => rw [he] at h; cases h
          | some x =>
            rw [he] at h
            have := escA_len he
            change Option.map _ (qL n x.2) = _ at h
            cases hq : qL n x.2 with
            | none => rw [hq] at h; cases h
            | some y => rw [hq] at h; injection h with h; injection h with _ h; subst h; have := qL_len n _ _ _ hq; rw [List.length_cons]; omega
        · cases hq : qL n t with
          | none => rw [hq] at h; cases h
          | some y => rw [hq] at h; injection h with h; injection h with _ h; subst h; have := qL_len n _ _ _ hq; rw [List.length_cons]; omega
      · cases h
theorem quotedA_len {l s r : List UInt8} (h : quotedA l = some (s, r)) : r.length < l.length := by
  match l, h with
  | [], h => cases h
  | [_], h => cases h
  | c :: d :: t, h =>
    rw [quotedA_two] at h
    split at h
    · have := qL_len _ _ _ _ h; simp only [List.length_cons]; omega
    · cases h
def fateP (F : Int → List UInt8) (f : Nat → Value) (l : List UInt8) : Option ((Nat → Value) × List UInt8) := (nameA fateN l).bind fun x1 => (quotedA x1.2).bind fun x2 => (numberA F x2.2).bind fun x3 => if x1.1 = 2 then (quotedA x3.2).bind fun x4 => some (upd (upd (upd (upd (f) 2 (.int .i64 x1.1)) 0 (.string (bs x2.1))) 1 (.int .i64 x3.1)) 3 (.string (bs x4.1)), x4.2) else some (upd (upd (upd (f) 2 (.int .i64 x1.1)) 0 (.string (bs x2.1))) 1 (.int .i64 x3.1), x3.2)
/-- Where a number is wanted there is one. -/
def fateT (F : Int → List UInt8) (l : List UInt8) : Prop := ∀ x1, nameA fateN l = some x1 → ∀ x2, quotedA x1.2 = some x2 → numT x2.2 ∧ ∀ x3, numberA F x2.2 = some x3 → True
set_option maxRecDepth 100000 in
set_option maxHeartbeats 1600000 in
theorem rfate_any {E : Prop} {B : Nat} {F : Int → List UInt8} (b c : Nat) (f : Nat → Value) (l : List UInt8) (w : World) (hE : Env E B F w) (hB0 : B ≤ w.heap.size) (hb : B ≤ b) (hc : B ≤ c)
    (hR : Rd w b l) (hC : Has w c 49 f 4) (hbc : c ≠ b) (hl0 : l.length ≤ 70000) (hg : E ∨ fateT F l) :
    Calls Tryz.prog 101 #[rif b, .pointer (some ⟨c, 0, none⟩)] w fun e w' => Kp b c w w' ∧
      ((∃ f' r, fateP F f l = some (f', r) ∧ e = .returned (.tuple #[]) ∧ Rd w' b r ∧ Has w' c 49 f' 4) ∨ (fateP F f l = none ∧ Bad e)) := by
  obtain ⟨R, hRR⟩ : ∃ R, fateP F f l = R := ⟨_, rfl⟩
  rw [hRR]
  have HQ0 : Hid (R = (nameA fateN l).bind fun x1 => (quotedA x1.2).bind fun x2 => (numberA F x2.2).bind fun x3 => if x1.1 = 2 then (quotedA x3.2).bind fun x4 => some (upd (upd (upd (upd (f) 2 (.int .i64 x1.1)) 0 (.string (bs x2.1))) 1 (.int .i64 x3.1)) 3 (.string (bs x4.1)), x4.2) else some (upd (upd (upd (f) 2 (.int .i64 x1.1)) 0 (.string (bs x2.1))) 1 (.int .i64 x3.1), x3.2)) := hide (by rw [← hRR]; rfl)
  clear hRR
  have hbl_ := Has.lt hR
  have HE0 := hide hE
  have HR0 := hide hR
  have HC0 := hide hC
  have HK0 : Hid (Kp b c w w) := hide (Kp.refl _ _ _)
  have HT0 := hide hg
  clear hE hR hC hg
  unfold rif
  go_enter Tryz.func101, Tryz.ntmps101
  have na := rna_name b
  have mt := rmt_name b
  have hmf := mkF
  go_wp2_with fail
  refine wp_region_pan (fun wx => Kp b c w wx ∧ R = none) (fun a wx hdf hx => ?_) ?_
  · go_wp2
    exact ⟨hdf, hx.1, .inr ⟨hx.2, rfl⟩⟩
  refine wp_region_T (S := fun _ => True) 8 (by kernel_rfl) trivial (fun hHeld => ?_)
  generalize hwq : World.drew w = wq at hHeld ⊢
  have HR0 : Hid (Rd wq b l) := hide (by rw [← hwq]; exact Has.drew HR0.out)
  have HC0 : Hid (Has wq c 49 (f) 4) := hide (by rw [← hwq]; exact HC0.out.drew)
  have HK0 : Hid (Kp b c w wq) := hide (by rw [← hwq]; exact ⟨HK0.out.os, HK0.out.tape, HK0.out.output, HK0.out.size, HK0.out.block⟩)
  have hB0 : B ≤ wq.heap.size := by rw [← hwq]; exact hB0
  have HE0 : Hid (Env E B F wq) := hide (by rw [← hwq]; exact HE0.out.below ⟨rfl, rfl, rfl, Nat.le_refl _, fun _ _ => rfl⟩)
  clear hwq
  refine takeP [7] 0 (some 4) (rif b) rfl rfl (by kernel_rfl) (by kernel_rfl) (by kernel_rfl) (by kernel_rfl) (by kernel_rfl) (by decide) (fun _ _ _ h => h) (by rfl) (fun w_ hw => by first | rfl | (go_simp; done) | (go_simp; rfl)) hHeld ?_
  simp only [Act.put, List.setIfInBounds_toArray, List.set_cons_zero, List.set_cons_succ]
  refine takeP [3, 2] 1 (some 5) (.pointer (some ⟨c, 0, none⟩)) rfl rfl (by kernel_rfl) (by kernel_rfl) (by kernel_rfl) (by kernel_rfl) (by kernel_rfl) (by decide) (fun _ _ _ h => h) (by rfl) (fun w_ hw => by first | rfl | (go_simp; done) | (go_simp; rfl)) hHeld ?_
  simp only [Act.put, List.setIfInBounds_toArray, List.set_cons_zero, List.set_cons_succ]
  refine takeP [3] 2 (some 6) (.pointer (some ⟨c, 0, none⟩)) rfl rfl (by kernel_rfl) (by kernel_rfl) (by kernel_rfl) (by kernel_rfl) (by kernel_rfl) (by decide) (fun _ _ _ h => h) (by rfl) (fun w_ hw => by first | rfl | (go_simp; done) | (go_simp; rfl)) hHeld ?_
  simp only [Act.put, List.setIfInBounds_toArray, List.set_cons_zero, List.set_cons_succ]
  refine takeT 3 (some 7) (.pointer (some ⟨c, 2, none⟩)) rfl rfl (by kernel_rfl) (by kernel_rfl) (by kernel_rfl) (by kernel_rfl) (by decide) (fun _ _ _ h => h) (by rfl) (fun w_ hw => by first | rfl | (go_simp; done) | (go_simp; rfl)) hHeld ?_
  simp only [Act.put, List.setIfInBounds_toArray, List.set_cons_zero, List.set_cons_succ]
  refine takeP [7] 5 (some 9) (.func (Fn.method "escrow/script.name") #[rif b] #[]) rfl rfl (by kernel_rfl) (by kernel_rfl) (by kernel_rfl) (by kernel_rfl) (by kernel_rfl) (by decide) (fun _ _ _ h => h) (by rfl) (fun w_ hw => by first | rfl | (go_simp; done) | (go_simp; rfl)) hHeld ?_
  simp only [Act.put, List.setIfInBounds_toArray, List.set_cons_zero, List.set_cons_succ]
  refine takeP [7] 6 (some 10) (.func (Fn.method "escrow/script.name") #[rif b] #[]) rfl rfl (by kernel_rfl) (by kernel_rfl) (by kernel_rfl) (by kernel_rfl) (by kernel_rfl) (by decide) (fun _ _ _ h => h) (by rfl) (fun w_ hw => by unfold rif; go_simp) hHeld ?_
  simp only [Act.put, List.setIfInBounds_toArray, List.set_cons_zero, List.set_cons_succ]
  refine takeT 7 (some 11) (rif b) rfl rfl (by kernel_rfl) (by kernel_rfl) (by kernel_rfl) (by kernel_rfl) (by decide) (fun _ _ _ h => h) (by rfl) (fun w_ hw => by first | rfl | (go_simp; done) | (go_simp; rfl)) hHeld ?_
  simp only [Act.put, List.setIfInBounds_toArray, List.set_cons_zero, List.set_cons_succ]
  refine readyT 4 (by kernel_rfl) rfl (by rfl) (fun K hK => ?_)
  go_simp
  refine (fateNames_any _).mono ?_
  rintro e wn ⟨rfl, hwn⟩
  have bn : Below wq.heap.size wq wn := by rw [hwn]; exact (Below.refl _ wq).alloc (Nat.le_refl _) _
  have hNm : Nm wn wq.heap.size fateN := by rw [hwn]; exact Nm.new wq fateN
  have hsn : wn.heap.size = wq.heap.size + 1 := by rw [hwn, size_alloc]
  have HR0 : Hid (Rd wn b l) := hide (Has.below HR0.out bn (Has.lt HR0.out))
  have hbl0 := Has.lt HR0.out
  have hbq : b < wq.heap.size := Nat.lt_of_lt_of_le hbl_ HK0.out.size
  have HC0 := hide (HC0.out.below bn HC0.out.lt)
  have HK0 : Hid (Kp b c w wn) := hide (HK0.out.trans (Kp.of bn))
  have HE0 := hide (HE0.out.below (bn.mono hB0))
  have hB0 : B ≤ wn.heap.size := Nat.le_trans hB0 bn.size
  clear bn hwn
  try go_wp2_with fail
  refine hK.out _ _ (fun _ => trivial) (fun hH => ?_)
  clear hHeld
  have hHeld := hH (by decide)
  clear hK K hH
  refine readyT 8 (by kernel_rfl) rfl (by rfl) (fun K hK => ?_)
  unfold rif
  go_simp
  clear na mt hmf
  refine (name_any b c 2 4 3 wq.heap.size fateN _ (f) l _ hNm (by omega) rfl (by decide) HR0.out HC0.out (by omega) hbc (by omega) hl0).mono ?_
  rintro e w1 ⟨k, ⟨v1, r1, hA, rfl, hR, hC⟩ | ⟨hA, rfl⟩⟩
  case inr => exact ⟨rfl, rfl, HK0.out.trans k, by rw [HQ0.out, hA]; rfl⟩
  try go_wp2_with fail
  refine hK.out _ _ (fun x => absurd rfl x) (fun _ => ?_)
  clear hK K hHeld
  refine ⟨by kernel_rfl, ?_⟩
  refine Pan.normal ?_
  clear hNm hsn hbl0 hbq
  have HQ1 : Hid (R = (quotedA r1).bind fun x2 => (numberA F x2.2).bind fun x3 => if v1 = 2 then (quotedA x3.2).bind fun x4 => some (upd (upd (upd (upd (f) 2 (.int .i64 v1)) 0 (.string (bs x2.1))) 1 (.int .i64 x3.1)) 3 (.string (bs x4.1)), x4.2) else some (upd (upd (upd (f) 2 (.int .i64 v1)) 0 (.string (bs x2.1))) 1 (.int .i64 x3.1), x3.2)) := hide (by rw [HQ0.out, hA]; rfl)
  have HT1 := hide (HT0.out.imp id fun h => h _ hA)
  have hl1 : r1.length ≤ 70000 := by have := nameA_len hA; omega
  have hB1 : B ≤ w1.heap.size := Nat.le_trans hB0 k.size
  have HE1 := hide (HE0.out.below (k.below hB0 hb hc))
  have HK1 : Hid (Kp b c w w1) := hide (HK0.out.trans k)
  have HR1 : Hid (Rd w1 b r1) := hide hR
  have HC1 : Hid (Has w1 c 49 (upd (f) 2 (.int .i64 v1)) 4) := hide hC
  clear hA k hR hC
  have na := rna_quoted b
  have mt := rmt_quoted b
  have hmf := mkF
  go_wp2_with fail
  refine wp_region_drew_tail 7 (by kernel_rfl) (by kernel_rfl) ?_
  simp only [List.take_succ_cons, List.take_zero, List.drop_succ_cons, List.drop_zero]
  iterate 7 (go_big_quiet_step (fail))
  refine wpQuiet_nil ?_
  intro _ hw'
  obtain ⟨nq, rfl⟩ := hw'
  clear na
  generalize hwq : World.drewN w1 nq = wq
  have HR1 : Hid (Rd wq b r1) := hide (by rw [← hwq]; exact Has.drewN HR1.out nq)
  have HC1 : Hid (Has wq c 49 (upd (f) 2 (.int .i64 v1)) 4) := hide (by rw [← hwq]; exact HC1.out.drewN nq)
  have HK1 : Hid (Kp b c w wq) := hide (by rw [← hwq]; exact ⟨HK1.out.os, HK1.out.tape, HK1.out.output, HK1.out.size, HK1.out.block⟩)
  have hB1 : B ≤ wq.heap.size := by rw [← hwq]; exact hB1
  have HE1 : Hid (Env E B F wq) := hide (by rw [← hwq]; exact HE1.out.below ⟨rfl, rfl, rfl, Nat.le_refl _, fun _ _ => rfl⟩)
  clear hwq
  go_wp2_with fail
  clear mt hmf
  refine (quoted_any b c 0 4 _ (upd (f) 2 (.int .i64 v1)) r1 _ HR1.out HC1.out (by omega) hbc hl1).mono ?_
  rintro e w2 ⟨k, ⟨s2, r2, hA, rfl, hR, hC⟩ | ⟨hA, rfl⟩⟩
  case inr =>
    have HQn : Hid (R = none) := hide (by rw [HQ1.out, hA]; rfl)
    have HKn := hide (HK1.out.trans k)
    clear hA k
    go_wp2
    exact ⟨rfl, HKn.out, .inr ⟨HQn.out, rfl⟩⟩
  have HQ2 : Hid (R = (numberA F r2).bind fun x3 => if v1 = 2 then (quotedA x3.2).bind fun x4 => some (upd (upd (upd (upd (f) 2 (.int .i64 v1)) 0 (.string (bs s2))) 1 (.int .i64 x3.1)) 3 (.string (bs x4.1)), x4.2) else some (upd (upd (upd (f) 2 (.int .i64 v1)) 0 (.string (bs s2))) 1 (.int .i64 x3.1), x3.2)) := hide (by rw [HQ1.out, hA]; rfl)
  have HT2 := hide (HT1.out.imp id fun h => h _ hA)
  have hl2 : r2.length ≤ 70000 := by have := quotedA_len hA; omega
  have hB2 : B ≤ w2.heap.size := Nat.le_trans hB1 k.size
  have HE2 := hide (HE1.out.below (k.below hB1 hb hc))
  have HK2 : Hid (Kp b c w w2) := hide (HK1.out.trans k)
  have HR2 : Hid (Rd w2 b r2) := hide hR
  have HC2 : Hid (Has w2 c 49 (upd (upd (f) 2 (.int .i64 v1)) 0 (.string (bs s2))) 4) := hide hC
  clear hA k hR hC
  have na := rna_whole b
  have mt := rmt_whole b
  have hmf := mkF
  go_wp2_with fail
  refine wp_region_drew_tail 7 (by kernel_rfl) (by kernel_rfl) ?_
  simp only [List.take_succ_cons, List.take_zero, List.drop_succ_cons, List.drop_zero]
  iterate 7 (go_big_quiet_step (fail))
  refine wpQuiet_nil ?_
  intro _ hw'
  obtain ⟨nq, rfl⟩ := hw'
  clear na
  generalize hwq : World.drewN w2 nq = wq
  have HR2 : Hid (Rd wq b r2) := hide (by rw [← hwq]; exact Has.drewN HR2.out nq)
  have HC2 : Hid (Has wq c 49 (upd (upd (f) 2 (.int .i64 v1)) 0 (.string (bs s2))) 4) := hide (by rw [← hwq]; exact HC2.out.drewN nq)
  have HK2 : Hid (Kp b c w wq) := hide (by rw [← hwq]; exact ⟨HK2.out.os, HK2.out.tape, HK2.out.output, HK2.out.size, HK2.out.block⟩)
  have hB2 : B ≤ wq.heap.size := by rw [← hwq]; exact hB2
  have HE2 : Hid (Env E B F wq) := hide (by rw [← hwq]; exact HE2.out.below ⟨rfl, rfl, rfl, Nat.le_refl _, fun _ _ => rfl⟩)
  clear hwq
  go_wp2_with fail
  clear mt hmf
  refine (whole_any b c 1 4 _ (upd (upd (f) 2 (.int .i64 v1)) 0 (.string (bs s2))) r2 _ HE2.out hB2 hb hc HR2.out HC2.out (by omega) hbc hl2 (HT2.out.imp id And.left)).mono ?_
  rintro e w3 ⟨k, ⟨v3, r3, hA, rfl, hR, hC⟩ | ⟨hA, rfl⟩⟩
  case inr =>
    have HQn : Hid (R = none) := hide (by rw [HQ2.out, hA]; rfl)
    have HKn := hide (HK2.out.trans k)
    clear hA k
    go_wp2
    exact ⟨rfl, HKn.out, .inr ⟨HQn.out, rfl⟩⟩
  have HQ3 : Hid (R = if v1 = 2 then (quotedA r3).bind fun x4 => some (upd (upd (upd (upd (f) 2 (.int .i64 v1)) 0 (.string (bs s2))) 1 (.int .i64 v3)) 3 (.string (bs x4.1)), x4.2) else some (upd (upd (upd (f) 2 (.int .i64 v1)) 0 (.string (bs s2))) 1 (.int .i64 v3), r3)) := hide (by rw [HQ2.out, hA]; rfl)
  have HT3 := hide (HT2.out.imp id fun h => h.2 _ hA)
  have hl3 : r3.length ≤ 70000 := by have := numberA_len hA; omega
  have hB3 : B ≤ w3.heap.size := Nat.le_trans hB2 k.size
  have HE3 := hide (HE2.out.below (k.below hB2 hb hc))
  have HK3 : Hid (Kp b c w w3) := hide (HK2.out.trans k)
  have HR3 : Hid (Rd w3 b r3) := hide hR
  have HC3 : Hid (Has w3 c 49 (upd (upd (upd (f) 2 (.int .i64 v1)) 0 (.string (bs s2))) 1 (.int .i64 v3)) 4) := hide hC
  clear hA k hR hC
  have hk2 : w3.cell? ⟨c, 2, none⟩ = some (.int .i64 v1) := HC3.out.cell 2 (by omega)
  by_cases e2 : v1 = 2
  · have hd : (v1 == 2) = true := by rw [e2]; rfl
    have HQ3 : Hid (R = (quotedA r3).bind fun x4 => some (upd (upd (upd (upd (f) 2 (.int .i64 v1)) 0 (.string (bs s2))) 1 (.int .i64 v3)) 3 (.string (bs x4.1)), x4.2)) := hide (by rw [HQ3.out, if_pos e2])
    clear e2
    have na := rna_quoted b
    have mt := rmt_quoted b
    have hmf := mkF
    go_wp2_with fail
    refine wp_region_drew_tail 7 (by kernel_rfl) (by kernel_rfl) ?_
    simp only [List.take_succ_cons, List.take_zero, List.drop_succ_cons, List.drop_zero]
    iterate 7 (go_big_quiet_step (fail))
    refine wpQuiet_nil ?_
    intro _ hw'
    obtain ⟨nq, rfl⟩ := hw'
    clear na
    generalize hwq : World.drewN w3 nq = wq
    have HR3 : Hid (Rd wq b r3) := hide (by rw [← hwq]; exact Has.drewN HR3.out nq)
    have HC3 : Hid (Has wq c 49 (upd (upd (upd (f) 2 (.int .i64 v1)) 0 (.string (bs s2))) 1 (.int .i64 v3)) 4) := hide (by rw [← hwq]; exact HC3.out.drewN nq)
    have HK3 : Hid (Kp b c w wq) := hide (by rw [← hwq]; exact ⟨HK3.out.os, HK3.out.tape, HK3.out.output, HK3.out.size, HK3.out.block⟩)
    have hB3 : B ≤ wq.heap.size := by rw [← hwq]; exact hB3
    have HE3 : Hid (Env E B F wq) := hide (by rw [← hwq]; exact HE3.out.below ⟨rfl, rfl, rfl, Nat.le_refl _, fun _ _ => rfl⟩)
    clear hwq
    go_wp2_with fail
    clear mt hmf
    refine (quoted_any b c 3 4 _ (upd (upd (upd (f) 2 (.int .i64 v1)) 0 (.string (bs s2))) 1 (.int .i64 v3)) r3 _ HR3.out HC3.out (by omega) hbc hl3).mono ?_
    rintro e w4 ⟨k, ⟨s4, r4, hA, rfl, hR, hC⟩ | ⟨hA, rfl⟩⟩
    case inr =>
      have HQn : Hid (R = none) := hide (by rw [HQ3.out, hA]; rfl)
      have HKn := hide (HK3.out.trans k)
      clear hA k
      go_wp2
      exact ⟨rfl, HKn.out, .inr ⟨HQn.out, rfl⟩⟩
    have HQ4 : Hid (R = some (upd (upd (upd (upd (f) 2 (.int .i64 v1)) 0 (.string (bs s2))) 1 (.int .i64 v3)) 3 (.string (bs s4)), r4)) := hide (by rw [HQ3.out, hA]; rfl)
    have hl4 : r4.length ≤ 70000 := by have := quotedA_len hA; omega
    have hB4 : B ≤ w4.heap.size := Nat.le_trans hB3 k.size
    have HE4 := hide (HE3.out.below (k.below hB3 hb hc))
    have HK4 : Hid (Kp b c w w4) := hide (HK3.out.trans k)
    have HR4 : Hid (Rd w4 b r4) := hide hR
    have HC4 : Hid (Has w4 c 49 (upd (upd (upd (upd (f) 2 (.int .i64 v1)) 0 (.string (bs s2))) 1 (.int .i64 v3)) 3 (.string (bs s4))) 4) := hide hC
    clear hA k hR hC
    go_wp2
    go_end0
    exact ⟨HK4.out, .inl ⟨_, _, HQ4.out, rfl, HR4.out, HC4.out⟩⟩
  · have hd : (v1 == 2) = false := beq_eq_false_iff_ne.2 e2
    have HQ3 : Hid (R = some (upd (upd (upd (f) 2 (.int .i64 v1)) 0 (.string (bs s2))) 1 (.int .i64 v3), r3)) := hide (by rw [HQ3.out, if_neg e2])
    clear e2
    go_wp2
    go_end0
    exact ⟨HK3.out, .inl ⟨_, _, HQ3.out, rfl, HR3.out, HC3.out⟩⟩
end Go.Proofs.YtepgoehpjafbhaaGreatDoor
