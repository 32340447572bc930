/-
  script's reader: a command's line (printed by gen_cm.py).
-/
import Derived.Test.YtepgoehpjafbhaaGreatDoorSMv
namespace Go.Proofs.YtepgoehpjafbhaaGreatDoor
open Go.RowKit S
set_option linter.unusedVariables false
set_option linter.unusedSimpArgs false
def kd (v : Value) : Int := match v with
  | .int _ x => x
  | _ => 0
def bodyP (F : Int → List UInt8) (K mk : Int) (f : Nat → Value) (l : List UInt8) : Option ((Nat → Value) × List (Nat → Value) × List UInt8) := if K = 1 then worldP F (f) l else if K = 2 then moveP F mk (f) l else if K = 3 then (numberA F l).bind fun y1 => some (upd (f) 174 (.int .i64 y1.1), [], y1.2) else if K = 4 ∨ K = 5 ∨ K = 6 ∨ K = 7 ∨ K = 8 then (numberA F l).bind fun y1 => some (upd (f) 175 (.int .i64 y1.1), [], y1.2) else some (f, [], l)
def bodyT (F : Int → List UInt8) (K mk : Int) (l : List UInt8) : Prop := (K = 1 → worldT F l) ∧ (K = 2 → moveT F mk l) ∧ (K = 3 ∨ K = 4 ∨ K = 5 ∨ K = 6 ∨ K = 7 ∨ K = 8 → numT l)
def commandT (F : Int → List UInt8) (f : Nat → Value) (l : List UInt8) : Prop := ∀ f1, headA f (wordOf l) = some f1 → bodyT F (kd (f1 0)) (kd (f1 133)) (restOf l)
def commandP (F : Int → List UInt8) (f : Nat → Value) (l : List UInt8) : Option ((Nat → Value) × List (Nat → Value) × List UInt8) := (headA f (wordOf l)).bind fun f1 => bodyP F (kd (f1 0)) (kd (f1 133)) f1 (restOf l)
theorem headA_shape {f f' : Nat → Value} {wd : List UInt8} (h : headA f wd = some f') (m0 : Int) (h1 : f 133 = .int .i64 m0) (h2 : f 173 = .slice none 0 0) : ∃ K mk, f' 0 = .int .i64 K ∧ f' 133 = .int .i64 mk ∧ f' 173 = .slice none 0 0 := by
  unfold headA at h
  split at h
  · injection h with h
    subst h
    exact ⟨_, _, rfl, rfl, h2⟩
  · split at h
    · injection h with h
      subst h
      exact ⟨_, m0, rfl, h1, h2⟩
    · cases h
set_option maxRecDepth 100000 in
set_option maxHeartbeats 4000000 in
theorem rcommand_any {E : Prop} {B : Nat} {F : Int → List UInt8} (b c : Nat) (f : Nat → Value) (l : List UInt8) (w : World) (hE : Env E B F w) (hB0 : B ≤ w.heap.size) (hb : B ≤ b) (hc : B ≤ c)
    (hR : Rd w b l) (hC : Has w c 40 f 176) (hnil : f 173 = .slice none 0 0) (hbc : c ≠ b) (hl0 : l.length ≤ 70000) (m0 : Int) (hm0 : f 133 = .int .i64 m0) (hg : E ∨ commandT F f l) :
    Calls Tryz.prog 41 #[rif b, .pointer (some ⟨c, 0, none⟩)] w fun e w' => Kp b c w w' ∧
      ((∃ f' fs r v, commandP F f l = some (f', fs, r) ∧ e = .returned (.tuple #[]) ∧ Rd w' b r ∧ Has w' c 40 (upd f' 173 v) 176 ∧ OwnF w.heap.size w' v fs) ∨ (commandP F f l = none ∧ Bad e)) := by
  obtain ⟨R, hRR⟩ : ∃ R, commandP F f l = R := ⟨_, rfl⟩
  rw [hRR]
  have HQ0 : Hid (R = (headA f (wordOf l)).bind fun f1 => bodyP F (kd (f1 0)) (kd (f1 133)) f1 (restOf l)) := hide (by rw [← hRR]; rfl)
  clear hRR
  have hbl_ := Has.lt hR
  have HE0 := hide hE
  have HR0 := hide hR
  have HC0 := hide hC
  have HK0 : Hid (Kp b c w w) := hide (Kp.refl _ _ _)
  have HNl := hide hnil
  have HT0 := hide hg
  clear hE hR hC hnil hg
  unfold rif
  go_enter Tryz.func41, Tryz.ntmps41
  have mt := rmt_head b
  go_wp2_with fail
  clear mt
  refine (rhead_any b c f l _ HR0.out HC0.out hbc hl0).mono ?_
  rintro e w1 ⟨k, ⟨f1, hA, rfl, hR, hC⟩ | ⟨hA, rfl⟩⟩
  case inr =>
    have HQn : Hid (R = none) := hide (by rw [HQ0.out, hA]; rfl)
    have HKn := hide (HK0.out.trans k)
    clear hA k
    go_wp2
    exact ⟨rfl, HKn.out, .inr ⟨HQn.out, rfl⟩⟩
  obtain ⟨K, mk, s0, s133, s173⟩ := headA_shape hA m0 hm0 HNl.out
  have HQ1 : Hid (R = if K = 1 then worldP F (f1) (restOf l) else if K = 2 then moveP F mk (f1) (restOf l) else if K = 3 then (numberA F (restOf l)).bind fun y1 => some (upd (f1) 174 (.int .i64 y1.1), [], y1.2) else if K = 4 ∨ K = 5 ∨ K = 6 ∨ K = 7 ∨ K = 8 then (numberA F (restOf l)).bind fun y1 => some (upd (f1) 175 (.int .i64 y1.1), [], y1.2) else some (f1, [], (restOf l))) := hide (by rw [HQ0.out, hA]; show bodyP F (kd (f1 0)) (kd (f1 133)) f1 (restOf l) = _; rw [s0, s133]; rfl)
  have HT1 : Hid (E ∨ bodyT F K mk (restOf l)) := hide (HT0.out.imp id fun h => by have := h _ hA; rw [s0, s133] at this; exact this)
  have hl1 : (restOf l).length ≤ 70000 := by have := rest_len l; omega
  have hB1 : B ≤ w1.heap.size := Nat.le_trans hB0 k.size
  have HE1 := hide (HE0.out.below (k.below hB0 hb hc))
  have HK1 : Hid (Kp b c w w1) := hide (HK0.out.trans k)
  have HR1 := hide hR
  have HC1 := hide hC
  have HNl := hide s173
  have Hmk := hide s133
  have hk0 : w1.cell? ⟨c, 0, none⟩ = some (.int .i64 K) := by rw [hC.cell 0 (by omega), s0]
  clear hA k hR hC s0 s133 s173 hm0 HQ0
  generalize restOf l = l1 at HQ1 hl1 HR1 HT1
  by_cases e1 : K = 1
  · have hd1 : (K == 1) = true := by rw [e1]; rfl
    have HQ1 : Hid (R = worldP F f1 l1) := hide (by rw [HQ1.out, if_pos e1])
    have HTk := hide (HT1.out.imp id fun h => h.1 e1)
    clear e1
    go_wp2_with fail
    refine (rworld_any b c f1 l1 _ HE1.out hB1 hb hc HR1.out HC1.out HNl.out hbc hl1 HTk.out).mono ?_
    rintro e w2 ⟨k, ⟨f2, fs, r2, v2, hA, rfl, hR, hC, hO⟩ | ⟨hA, rfl⟩⟩
    · have HQ2 : Hid (R = some (f2, fs, r2)) := hide (by rw [HQ1.out, hA])
      have HK2 := hide (HK1.out.trans k)
      have HR2 := hide hR
      have HC2 := hide hC
      have HO2 := hide (hO.mono HK1.out.size)
      clear hA k hR hC hO
      go_wp2
      go_end0
      exact ⟨HK2.out, .inl ⟨_, _, _, _, HQ2.out, rfl, HR2.out, HC2.out, HO2.out⟩⟩
    · have HQ2 : Hid (R = none) := hide (by rw [HQ1.out, hA])
      have HK2 := hide (HK1.out.trans k)
      clear hA k
      go_wp2
      exact ⟨rfl, HK2.out, .inr ⟨HQ2.out, rfl⟩⟩
  have hd1 : (K == 1) = false := beq_eq_false_iff_ne.2 e1
  have HQ1 : Hid (R = if K = 2 then moveP F mk (f1) l1 else if K = 3 then (numberA F l1).bind fun y1 => some (upd (f1) 174 (.int .i64 y1.1), [], y1.2) else if K = 4 ∨ K = 5 ∨ K = 6 ∨ K = 7 ∨ K = 8 then (numberA F l1).bind fun y1 => some (upd (f1) 175 (.int .i64 y1.1), [], y1.2) else some (f1, [], l1)) := hide (by rw [HQ1.out, if_neg e1])
  clear e1
  by_cases e2 : K = 2
  · have hd2 : (K == 2) = true := by rw [e2]; rfl
    have HQ1 : Hid (R = moveP F mk f1 l1) := hide (by rw [HQ1.out, if_pos e2])
    have HTk := hide (HT1.out.imp id fun h => h.2.1 e2)
    clear e2
    go_wp2_with fail
    refine (rmove_any b c f1 l1 _ HE1.out hB1 hb hc HR1.out HC1.out HNl.out hbc hl1 mk Hmk.out HTk.out).mono ?_
    rintro e w2 ⟨k, ⟨f2, fs, r2, v2, hA, rfl, hR, hC, hO⟩ | ⟨hA, rfl⟩⟩
    · have HQ2 : Hid (R = some (f2, fs, r2)) := hide (by rw [HQ1.out, hA])
      have HK2 := hide (HK1.out.trans k)
      have HR2 := hide hR
      have HC2 := hide hC
      have HO2 := hide (hO.mono HK1.out.size)
      clear hA k hR hC hO
      go_wp2
      go_end0
      exact ⟨HK2.out, .inl ⟨_, _, _, _, HQ2.out, rfl, HR2.out, HC2.out, HO2.out⟩⟩
    · have HQ2 : Hid (R = none) := hide (by rw [HQ1.out, hA])
      have HK2 := hide (HK1.out.trans k)
      clear hA k
      go_wp2
      exact ⟨rfl, HK2.out, .inr ⟨HQ2.out, rfl⟩⟩
  have hd2 : (K == 2) = false := beq_eq_false_iff_ne.2 e2
  have HQ1 : Hid (R = if K = 3 then (numberA F l1).bind fun y1 => some (upd (f1) 174 (.int .i64 y1.1), [], y1.2) else if K = 4 ∨ K = 5 ∨ K = 6 ∨ K = 7 ∨ K = 8 then (numberA F l1).bind fun y1 => some (upd (f1) 175 (.int .i64 y1.1), [], y1.2) else some (f1, [], l1)) := hide (by rw [HQ1.out, if_neg e2])
  clear e2
  by_cases e3 : K = 3
  · have hd3 : (K == 3) = true := by rw [e3]; rfl
    have HQ1 : Hid (R = (numberA F l1).bind fun y1 => some (upd (f1) 174 (.int .i64 y1.1), [], y1.2)) := hide (by rw [HQ1.out, if_pos (by omega)])
    have HT1 := hide (HT1.out.imp id fun h => (⟨h.2.2 (by omega), fun _ _ => trivial⟩ : numT l1 ∧ ∀ y, numberA F l1 = some y → True))
    clear e3
    have na := rna_number b
    have mt := rmt_number b
    have hmf := mkF
    go_wp2_with fail
    refine wp_region_drew_tail 7 (by kernel_rfl) (by kernel_rfl) ?_
    simp only [List.take_succ_cons, List.take_zero, List.drop_succ_cons, List.drop_zero]
    iterate 7 (go_big_quiet_step (fail))
    refine wpQuiet_nil ?_
    intro _ hw'
    obtain ⟨nq, rfl⟩ := hw'
    clear na
    generalize hwq : World.drewN w1 nq = wq
    have HR1 : Hid (Rd wq b l1) := hide (by rw [← hwq]; exact Has.drewN HR1.out nq)
    have HC1 : Hid (Has wq c 40 (f1) 176) := hide (by rw [← hwq]; exact HC1.out.drewN nq)
    have HK1 : Hid (Kp b c w wq) := hide (by rw [← hwq]; exact ⟨HK1.out.os, HK1.out.tape, HK1.out.output, HK1.out.size, HK1.out.block⟩)
    have hB1 : B ≤ wq.heap.size := by rw [← hwq]; exact hB1
    have HE1 : Hid (Env E B F wq) := hide (by rw [← hwq]; exact HE1.out.below ⟨rfl, rfl, rfl, Nat.le_refl _, fun _ _ => rfl⟩)
    clear hwq
    go_wp2_with fail
    clear mt hmf
    refine (number_any b c 174 176 _ (f1) l1 _ HE1.out hB1 hb hc HR1.out HC1.out (by omega) hbc hl1 (HT1.out.imp id And.left)).mono ?_
    rintro e w2 ⟨k, ⟨z1, q1, hA, rfl, hR, hC⟩ | ⟨hA, rfl⟩⟩
    case inr =>
      have HQn : Hid (R = none) := hide (by rw [HQ1.out, hA]; rfl)
      have HKn := hide (HK1.out.trans k)
      clear hA k
      go_wp2
      exact ⟨rfl, HKn.out, .inr ⟨HQn.out, rfl⟩⟩
    have HQ2 : Hid (R = some (upd (f1) 174 (.int .i64 z1), [], q1)) := hide (by rw [HQ1.out, hA]; rfl)
    have HT2 := hide (HT1.out.imp id fun h => h.2 _ hA)
    have hl2 : q1.length ≤ 70000 := by have := numberA_len hA; omega
    have hB2 : B ≤ w2.heap.size := Nat.le_trans hB1 k.size
    have HE2 := hide (HE1.out.below (k.below hB1 hb hc))
    have HK2 : Hid (Kp b c w w2) := hide (HK1.out.trans k)
    have HR2 : Hid (Rd w2 b q1) := hide hR
    have HC2 : Hid (Has w2 c 40 (upd (f1) 174 (.int .i64 z1)) 176) := hide hC
    clear hA k hR hC
    have HNl : Hid ((upd (f1) 174 (.int .i64 z1)) 173 = .slice none 0 0) := hide HNl.out
    go_wp2
    go_end0
    first | exact ⟨HK2.out, .inl ⟨_, _, _, _, HQ2.out, rfl, HR2.out, HC2.out.congr _ (nil173 HNl.out), OwnF.nil _ _⟩⟩ | exact ⟨HK2.out, .inl ⟨_, _, _, HQ2.out, rfl, HR2.out, _, HC2.out.congr _ (nil173 HNl.out), OwnF.nil _ _⟩⟩
  have hd3 : (K == 3) = false := beq_eq_false_iff_ne.2 e3
  have HQ1 : Hid (R = if K = 4 ∨ K = 5 ∨ K = 6 ∨ K = 7 ∨ K = 8 then (numberA F l1).bind fun y1 => some (upd (f1) 175 (.int .i64 y1.1), [], y1.2) else some (f1, [], l1)) := hide (by rw [HQ1.out, if_neg (by omega)])
  clear e3
  by_cases e4 : K = 4
  · have hd4 : (K == 4) = true := by rw [e4]; rfl
    have HQ1 : Hid (R = (numberA F l1).bind fun y1 => some (upd (f1) 175 (.int .i64 y1.1), [], y1.2)) := hide (by rw [HQ1.out, if_pos (by omega)])
    have HT1 := hide (HT1.out.imp id fun h => (⟨h.2.2 (by omega), fun _ _ => trivial⟩ : numT l1 ∧ ∀ y, numberA F l1 = some y → True))
    clear e4
    have na := rna_whole b
    have mt := rmt_whole b
    have hmf := mkF
    go_wp2_with fail
    refine wp_region_drew_tail 7 (by kernel_rfl) (by kernel_rfl) ?_
    simp only [List.take_succ_cons, List.take_zero, List.drop_succ_cons, List.drop_zero]
    iterate 7 (go_big_quiet_step (fail))
    refine wpQuiet_nil ?_
    intro _ hw'
    obtain ⟨nq, rfl⟩ := hw'
    clear na
    generalize hwq : World.drewN w1 nq = wq
    have HR1 : Hid (Rd wq b l1) := hide (by rw [← hwq]; exact Has.drewN HR1.out nq)
    have HC1 : Hid (Has wq c 40 (f1) 176) := hide (by rw [← hwq]; exact HC1.out.drewN nq)
    have HK1 : Hid (Kp b c w wq) := hide (by rw [← hwq]; exact ⟨HK1.out.os, HK1.out.tape, HK1.out.output, HK1.out.size, HK1.out.block⟩)
    have hB1 : B ≤ wq.heap.size := by rw [← hwq]; exact hB1
    have HE1 : Hid (Env E B F wq) := hide (by rw [← hwq]; exact HE1.out.below ⟨rfl, rfl, rfl, Nat.le_refl _, fun _ _ => rfl⟩)
    clear hwq
    go_wp2_with fail
    clear mt hmf
    refine (whole_any b c 175 176 _ (f1) l1 _ HE1.out hB1 hb hc HR1.out HC1.out (by omega) hbc hl1 (HT1.out.imp id And.left)).mono ?_
    rintro e w2 ⟨k, ⟨z1, q1, hA, rfl, hR, hC⟩ | ⟨hA, rfl⟩⟩
    case inr =>
      have HQn : Hid (R = none) := hide (by rw [HQ1.out, hA]; rfl)
      have HKn := hide (HK1.out.trans k)
      clear hA k
      go_wp2
      exact ⟨rfl, HKn.out, .inr ⟨HQn.out, rfl⟩⟩
    have HQ2 : Hid (R = some (upd (f1) 175 (.int .i64 z1), [], q1)) := hide (by rw [HQ1.out, hA]; rfl)
    have HT2 := hide (HT1.out.imp id fun h => h.2 _ hA)
    have hl2 : q1.length ≤ 70000 := by have := numberA_len hA; omega
    have hB2 : B ≤ w2.heap.size := Nat.le_trans hB1 k.size
    have HE2 := hide (HE1.out.below (k.below hB1 hb hc))
    have HK2 : Hid (Kp b c w w2) := hide (HK1.out.trans k)
    have HR2 : Hid (Rd w2 b q1) := hide hR
    have HC2 : Hid (Has w2 c 40 (upd (f1) 175 (.int .i64 z1)) 176) := hide hC
    clear hA k hR hC
    have HNl : Hid ((upd (f1) 175 (.int .i64 z1)) 173 = .slice none 0 0) := hide HNl.out
    go_wp2
    go_end0
    first | exact ⟨HK2.out, .inl ⟨_, _, _, _, HQ2.out, rfl, HR2.out, HC2.out.congr _ (nil173 HNl.out), OwnF.nil _ _⟩⟩ | exact ⟨HK2.out, .inl ⟨_, _, _, HQ2.out, rfl, HR2.out, _, HC2.out.congr _ (nil173 HNl.out), OwnF.nil _ _⟩⟩
  have hd4 : (K == 4) = false := beq_eq_false_iff_ne.2 e4
  by_cases e5 : K = 5
  · have hd5 : (K == 5) = true := by rw [e5]; rfl
    have HQ1 : Hid (R = (numberA F l1).bind fun y1 => some (upd (f1) 175 (.int .i64 y1.1), [], y1.2)) := hide (by rw [HQ1.out, if_pos (by omega)])
    have HT1 := hide (HT1.out.imp id fun h => (⟨h.2.2 (by omega), fun _ _ => trivial⟩ : numT l1 ∧ ∀ y, numberA F l1 = some y → True))
    clear e4 e5
    have na := rna_whole b
    have mt := rmt_whole b
    have hmf := mkF
    go_wp2_with fail
    refine wp_region_drew_tail 7 (by kernel_rfl) (by kernel_rfl) ?_
    simp only [List.take_succ_cons, List.take_zero, List.drop_succ_cons, List.drop_zero]
    iterate 7 (go_big_quiet_step (fail))
    refine wpQuiet_nil ?_
    intro _ hw'
    obtain ⟨nq, rfl⟩ := hw'
    clear na
    generalize hwq : World.drewN w1 nq = wq
    have HR1 : Hid (Rd wq b l1) := hide (by rw [← hwq]; exact Has.drewN HR1.out nq)
    have HC1 : Hid (Has wq c 40 (f1) 176) := hide (by rw [← hwq]; exact HC1.out.drewN nq)
    have HK1 : Hid (Kp b c w wq) := hide (by rw [← hwq]; exact ⟨HK1.out.os, HK1.out.tape, HK1.out.output, HK1.out.size, HK1.out.block⟩)
    have hB1 : B ≤ wq.heap.size := by rw [← hwq]; exact hB1
    have HE1 : Hid (Env E B F wq) := hide (by rw [← hwq]; exact HE1.out.below ⟨rfl, rfl, rfl, Nat.le_refl _, fun _ _ => rfl⟩)
    clear hwq
    go_wp2_with fail
    clear mt hmf
    refine (whole_any b c 175 176 _ (f1) l1 _ HE1.out hB1 hb hc HR1.out HC1.out (by omega) hbc hl1 (HT1.out.imp id And.left)).mono ?_
    rintro e w2 ⟨k, ⟨z1, q1, hA, rfl, hR, hC⟩ | ⟨hA, rfl⟩⟩
    case inr =>
      have HQn : Hid (R = none) := hide (by rw [HQ1.out, hA]; rfl)
      have HKn := hide (HK1.out.trans k)
      clear hA k
      go_wp2
      exact ⟨rfl, HKn.out, .inr ⟨HQn.out, rfl⟩⟩
    have HQ2 : Hid (R = some (upd (f1) 175 (.int .i64 z1), [], q1)) := hide (by rw [HQ1.out, hA]; rfl)
    have HT2 := hide (HT1.out.imp id fun h => h.2 _ hA)
    have hl2 : q1.length ≤ 70000 := by have := numberA_len hA; omega
    have hB2 : B ≤ w2.heap.size := Nat.le_trans hB1 k.size
    have HE2 := hide (HE1.out.below (k.below hB1 hb hc))
    have HK2 : Hid (Kp b c w w2) := hide (HK1.out.trans k)
    have HR2 : Hid (Rd w2 b q1) := hide hR
    have HC2 : Hid (Has w2 c 40 (upd (f1) 175 (.int .i64 z1)) 176) := hide hC
    clear hA k hR hC
    have HNl : Hid ((upd (f1) 175 (.int .i64 z1)) 173 = .slice none 0 0) := hide HNl.out
    go_wp2
    go_end0
    first | exact ⟨HK2.out, .inl ⟨_, _, _, _, HQ2.out, rfl, HR2.out, HC2.out.congr _ (nil173 HNl.out), OwnF.nil _ _⟩⟩ | exact ⟨HK2.out, .inl ⟨_, _, _, HQ2.out, rfl, HR2.out, _, HC2.out.congr _ (nil173 HNl.out), OwnF.nil _ _⟩⟩
  have hd5 : (K == 5) = false := beq_eq_false_iff_ne.2 e5
  by_cases e6 : K = 6
  · have hd6 : (K == 6) = true := by rw [e6]; rfl
    have HQ1 : Hid (R = (numberA F l1).bind fun y1 => some (upd (f1) 175 (.int .i64 y1.1), [], y1.2)) := hide (by rw [HQ1.out, if_pos (by omega)])
    have HT1 := hide (HT1.out.imp id fun h => (⟨h.2.2 (by omega), fun _ _ => trivial⟩ : numT l1 ∧ ∀ y, numberA F l1 = some y → True))
    clear e4 e5 e6
    have na := rna_whole b
    have mt := rmt_whole b
    have hmf := mkF
    go_wp2_with fail
    refine wp_region_drew_tail 7 (by kernel_rfl) (by kernel_rfl) ?_
    simp only [List.take_succ_cons, List.take_zero, List.drop_succ_cons, List.drop_zero]
    iterate 7 (go_big_quiet_step (fail))
    refine wpQuiet_nil ?_
    intro _ hw'
    obtain ⟨nq, rfl⟩ := hw'
    clear na
    generalize hwq : World.drewN w1 nq = wq
    have HR1 : Hid (Rd wq b l1) := hide (by rw [← hwq]; exact Has.drewN HR1.out nq)
    have HC1 : Hid (Has wq c 40 (f1) 176) := hide (by rw [← hwq]; exact HC1.out.drewN nq)
    have HK1 : Hid (Kp b c w wq) := hide (by rw [← hwq]; exact ⟨HK1.out.os, HK1.out.tape, HK1.out.output, HK1.out.size, HK1.out.block⟩)
    have hB1 : B ≤ wq.heap.size := by rw [← hwq]; exact hB1
    have HE1 : Hid (Env E B F wq) := hide (by rw [← hwq]; exact HE1.out.below ⟨rfl, rfl, rfl, Nat.le_refl _, fun _ _ => rfl⟩)
    clear hwq
    go_wp2_with fail
    clear mt hmf
    refine (whole_any b c 175 176 _ (f1) l1 _ HE1.out hB1 hb hc HR1.out HC1.out (by omega) hbc hl1 (HT1.out.imp id And.left)).mono ?_
    rintro e w2 ⟨k, ⟨z1, q1, hA, rfl, hR, hC⟩ | ⟨hA, rfl⟩⟩
    case inr =>
      have HQn : Hid (R = none) := hide (by rw [HQ1.out, hA]; rfl)
      have HKn := hide (HK1.out.trans k)
      clear hA k
      go_wp2
      exact ⟨rfl, HKn.out, .inr ⟨HQn.out, rfl⟩⟩
    have HQ2 : Hid (R = some (upd (f1) 175 (.int .i64 z1), [], q1)) := hide (by rw [HQ1.out, hA]; rfl)
    have HT2 := hide (HT1.out.imp id fun h => h.2 _ hA)
    have hl2 : q1.length ≤ 70000 := by have := numberA_len hA; omega
    have hB2 : B ≤ w2.heap.size := Nat.le_trans hB1 k.size
    have HE2 := hide (HE1.out.below (k.below hB1 hb hc))
    have HK2 : Hid (Kp b c w w2) := hide (HK1.out.trans k)
    have HR2 : Hid (Rd w2 b q1) := hide hR
    have HC2 : Hid (Has w2 c 40 (upd (f1) 175 (.int .i64 z1)) 176) := hide hC
    clear hA k hR hC
    have HNl : Hid ((upd (f1) 175 (.int .i64 z1)) 173 = .slice none 0 0) := hide HNl.out
    go_wp2
    go_end0
    first | exact ⟨HK2.out, .inl ⟨_, _, _, _, HQ2.out, rfl, HR2.out, HC2.out.congr _ (nil173 HNl.out), OwnF.nil _ _⟩⟩ | exact ⟨HK2.out, .inl ⟨_, _, _, HQ2.out, rfl, HR2.out, _, HC2.out.congr _ (nil173 HNl.out), OwnF.nil _ _⟩⟩
  have hd6 : (K == 6) = false := beq_eq_false_iff_ne.2 e6
  by_cases e7 : K = 7
  · have hd7 : (K == 7) = true := by rw [e7]; rfl
    have HQ1 : Hid (R = (numberA F l1).bind fun y1 => some (upd (f1) 175 (.int .i64 y1.1), [], y1.2)) := hide (by rw [HQ1.out, if_pos (by omega)])
    have HT1 := hide (HT1.out.imp id fun h => (⟨h.2.2 (by omega), fun _ _ => trivial⟩ : numT l1 ∧ ∀ y, numberA F l1 = some y → True))
    clear e4 e5 e6 e7
    have na := rna_whole b
    have mt := rmt_whole b
    have hmf := mkF
    go_wp2_with fail
    refine wp_region_drew_tail 7 (by kernel_rfl) (by kernel_rfl) ?_
    simp only [List.take_succ_cons, List.take_zero, List.drop_succ_cons, List.drop_zero]
    iterate 7 (go_big_quiet_step (fail))
    refine wpQuiet_nil ?_
    intro _ hw'
    obtain ⟨nq, rfl⟩ := hw'
    clear na
    generalize hwq : World.drewN w1 nq = wq
    have HR1 : Hid (Rd wq b l1) := hide (by rw [← hwq]; exact Has.drewN HR1.out nq)
    have HC1 : Hid (Has wq c 40 (f1) 176) := hide (by rw [← hwq]; exact HC1.out.drewN nq)
    have HK1 : Hid (Kp b c w wq) := hide (by rw [← hwq]; exact ⟨HK1.out.os, HK1.out.tape, HK1.out.output, HK1.out.size, HK1.out.block⟩)
    have hB1 : B ≤ wq.heap.size := by rw [← hwq]; exact hB1
    have HE1 : Hid (Env E B F wq) := hide (by rw [← hwq]; exact HE1.out.below ⟨rfl, rfl, rfl, Nat.le_refl _, fun _ _ => rfl⟩)
    clear hwq
    go_wp2_with fail
    clear mt hmf
    refine (whole_any b c 175 176 _ (f1) l1 _ HE1.out hB1 hb hc HR1.out HC1.out (by omega) hbc hl1 (HT1.out.imp id And.left)).mono ?_
    rintro e w2 ⟨k, ⟨z1, q1, hA, rfl, hR, hC⟩ | ⟨hA, rfl⟩⟩
    case inr =>
      have HQn : Hid (R = none) := hide (by rw [HQ1.out, hA]; rfl)
      have HKn := hide (HK1.out.trans k)
      clear hA k
      go_wp2
      exact ⟨rfl, HKn.out, .inr ⟨HQn.out, rfl⟩⟩
    have HQ2 : Hid (R = some (upd (f1) 175 (.int .i64 z1), [], q1)) := hide (by rw [HQ1.out, hA]; rfl)
    have HT2 := hide (HT1.out.imp id fun h => h.2 _ hA)
    have hl2 : q1.length ≤ 70000 := by have := numberA_len hA; omega
    have hB2 : B ≤ w2.heap.size := Nat.le_trans hB1 k.size
    have HE2 := hide (HE1.out.below (k.below hB1 hb hc))
    have HK2 : Hid (Kp b c w w2) := hide (HK1.out.trans k)
    have HR2 : Hid (Rd w2 b q1) := hide hR
    have HC2 : Hid (Has w2 c 40 (upd (f1) 175 (.int .i64 z1)) 176) := hide hC
    clear hA k hR hC
    have HNl : Hid ((upd (f1) 175 (.int .i64 z1)) 173 = .slice none 0 0) := hide HNl.out
    go_wp2
    go_end0
    first | exact ⟨HK2.out, .inl ⟨_, _, _, _, HQ2.out, rfl, HR2.out, HC2.out.congr _ (nil173 HNl.out), OwnF.nil _ _⟩⟩ | exact ⟨HK2.out, .inl ⟨_, _, _, HQ2.out, rfl, HR2.out, _, HC2.out.congr _ (nil173 HNl.out), OwnF.nil _ _⟩⟩
  have hd7 : (K == 7) = false := beq_eq_false_iff_ne.2 e7
  by_cases e8 : K = 8
  · have hd8 : (K == 8) = true := by rw [e8]; rfl
    have HQ1 : Hid (R = (numberA F l1).bind fun y1 => some (upd (f1) 175 (.int .i64 y1.1), [], y1.2)) := hide (by rw [HQ1.out, if_pos (by omega)])
    have HT1 := hide (HT1.out.imp id fun h => (⟨h.2.2 (by omega), fun _ _ => trivial⟩ : numT l1 ∧ ∀ y, numberA F l1 = some y → True))
    clear e4 e5 e6 e7 e8
    have na := rna_whole b
    have mt := rmt_whole b
    have hmf := mkF
    go_wp2_with fail
    refine wp_region_drew_tail 7 (by kernel_rfl) (by kernel_rfl) ?_
    simp only [List.take_succ_cons, List.take_zero, List.drop_succ_cons, List.drop_zero]
    iterate 7 (go_big_quiet_step (fail))
    refine wpQuiet_nil ?_
    intro _ hw'
    obtain ⟨nq, rfl⟩ := hw'
    clear na
    generalize hwq : World.drewN w1 nq = wq
    have HR1 : Hid (Rd wq b l1) := hide (by rw [← hwq]; exact Has.drewN HR1.out nq)
    have HC1 : Hid (Has wq c 40 (f1) 176) := hide (by rw [← hwq]; exact HC1.out.drewN nq)
    have HK1 : Hid (Kp b c w wq) := hide (by rw [← hwq]; exact ⟨HK1.out.os, HK1.out.tape, HK1.out.output, HK1.out.size, HK1.out.block⟩)
    have hB1 : B ≤ wq.heap.size := by rw [← hwq]; exact hB1
    have HE1 : Hid (Env E B F wq) := hide (by rw [← hwq]; exact HE1.out.below ⟨rfl, rfl, rfl, Nat.le_refl _, fun _ _ => rfl⟩)
    clear hwq
    go_wp2_with fail
    clear mt hmf
    refine (whole_any b c 175 176 _ (f1) l1 _ HE1.out hB1 hb hc HR1.out HC1.out (by omega) hbc hl1 (HT1.out.imp id And.left)).mono ?_
    rintro e w2 ⟨k, ⟨z1, q1, hA, rfl, hR, hC⟩ | ⟨hA, rfl⟩⟩
    case inr =>
      have HQn : Hid (R = none) := hide (by rw [HQ1.out, hA]; rfl)
      have HKn := hide (HK1.out.trans k)
      clear hA k
      go_wp2
      exact ⟨rfl, HKn.out, .inr ⟨HQn.out, rfl⟩⟩
    have HQ2 : Hid (R = some (upd (f1) 175 (.int .i64 z1), [], q1)) := hide (by rw [HQ1.out, hA]; rfl)
    have HT2 := hide (HT1.out.imp id fun h => h.2 _ hA)
    have hl2 : q1.length ≤ 70000 := by have := numberA_len hA; omega
    have hB2 : B ≤ w2.heap.size := Nat.le_trans hB1 k.size
    have HE2 := hide (HE1.out.below (k.below hB1 hb hc))
    have HK2 : Hid (Kp b c w w2) := hide (HK1.out.trans k)
    have HR2 : Hid (Rd w2 b q1) := hide hR
    have HC2 : Hid (Has w2 c 40 (upd (f1) 175 (.int .i64 z1)) 176) := hide hC
    clear hA k hR hC
    have HNl : Hid ((upd (f1) 175 (.int .i64 z1)) 173 = .slice none 0 0) := hide HNl.out
    go_wp2
    go_end0
    first | exact ⟨HK2.out, .inl ⟨_, _, _, _, HQ2.out, rfl, HR2.out, HC2.out.congr _ (nil173 HNl.out), OwnF.nil _ _⟩⟩ | exact ⟨HK2.out, .inl ⟨_, _, _, HQ2.out, rfl, HR2.out, _, HC2.out.congr _ (nil173 HNl.out), OwnF.nil _ _⟩⟩
  have hd8 : (K == 8) = false := beq_eq_false_iff_ne.2 e8
  have HQ1 : Hid (R = some (f1, [], l1)) := hide (by rw [HQ1.out, if_neg (by omega)])
  clear e4 e5 e6 e7 e8
  go_wp2
  go_end0
  first | exact ⟨HK1.out, .inl ⟨_, _, _, _, HQ1.out, rfl, HR1.out, HC1.out.congr _ (nil173 HNl.out), OwnF.nil _ _⟩⟩ | exact ⟨HK1.out, .inl ⟨_, _, _, HQ1.out, rfl, HR1.out, _, HC1.out.congr _ (nil173 HNl.out), OwnF.nil _ _⟩⟩
end Go.Proofs.YtepgoehpjafbhaaGreatDoor
