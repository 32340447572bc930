/-
  script's reader: a move, a world (printed by gen_mv.py).
-/
import Derived.Test.YtepgoehpjafbhaaGreatDoorSSt
namespace Go.Proofs.YtepgoehpjafbhaaGreatDoor
open Go.RowKit S
set_option linter.unusedVariables false
set_option linter.unusedSimpArgs false
/-- n hashes, from an offset on. -/
def hsP : Nat → Nat → (Nat → Value) → List UInt8 → Option ((Nat → Value) × List UInt8)
  | 0, _, f, l => some (f, l)
  | n + 1, off, f, l => (hashA l).bind fun x => hsP n (off + 32) (splice f off (bv x.1) 32) x.2
def moveP (F : Int → List UInt8) (mk : Int) (f : Nat → Value) (l : List UInt8) : Option ((Nat → Value) × List (Nat → Value) × List UInt8) := if mk = 1 then (numberA F l).bind fun y1 => stepP F (upd (f) 134 (.int .i64 y1.1)) y1.2 else if mk = 4 ∨ mk = 5 then (numberA F l).bind fun y1 => some (upd (f) 134 (.int .i64 y1.1), [], y1.2) else some (f, [], l)
def worldP (F : Int → List UInt8) (f : Nat → Value) (l : List UInt8) : Option ((Nat → Value) × List (Nat → Value) × List UInt8) := (numberA F l).bind fun y1 => (numberA F y1.2).bind fun y2 => (numberA F y2.2).bind fun y3 => (numberA F y3.2).bind fun y4 => (hsP (2) (3) (upd (upd (upd (upd (f) 1 (.int .i64 y1.1)) 2 (.int .i64 y2.1)) 131 (.int .i64 y3.1)) 132 (.int .i64 y4.1)) y4.2).bind fun x => (hsP 2 67 x.1 x.2).bind fun y => some (y.1, [], y.2)
def moveT (F : Int → List UInt8) (mk : Int) (l : List UInt8) : Prop := (mk = 1 → numT l ∧ ∀ y, numberA F l = some y → stepT F y.2) ∧ (mk = 4 ∨ mk = 5 → numT l)
def worldT (F : Int → List UInt8) (l : List UInt8) : Prop := numT l ∧ ∀ y1, numberA F l = some y1 → numT y1.2 ∧ ∀ y2, numberA F y1.2 = some y2 → numT y2.2 ∧ ∀ y3, numberA F y2.2 = some y3 → numT y3.2 ∧ ∀ y4, numberA F y3.2 = some y4 → True
set_option maxRecDepth 100000 in
set_option maxHeartbeats 4000000 in
theorem rmove_any {E : Prop} {B : Nat} {F : Int → List UInt8} (b c : Nat) (f : Nat → Value) (l : List UInt8) (w : World) (hE : Env E B F w) (hB0 : B ≤ w.heap.size) (hb : B ≤ b) (hc : B ≤ c)
    (hR : Rd w b l) (hC : Has w c 40 f 176) (hnil : f 173 = .slice none 0 0) (hbc : c ≠ b) (hl0 : l.length ≤ 70000) (mk : Int) (hmk : f 133 = .int .i64 mk) (hg : E ∨ moveT F mk l) :
    Calls Tryz.prog 53 #[rif b, .pointer (some ⟨c, 133, none⟩)] w fun e w' => Kp b c w w' ∧
      ((∃ f' fs r v, moveP F mk f l = some (f', fs, r) ∧ e = .returned (.tuple #[]) ∧ Rd w' b r ∧ Has w' c 40 (upd f' 173 v) 176 ∧ OwnF w.heap.size w' v fs) ∨ (moveP F mk f l = none ∧ Bad e)) := by
  obtain ⟨R, hRR⟩ : ∃ R, moveP F mk f l = R := ⟨_, rfl⟩
  rw [hRR]
  have HQ0 : Hid (R = if mk = 1 then (numberA F l).bind fun y1 => stepP F (upd (f) 134 (.int .i64 y1.1)) y1.2 else if mk = 4 ∨ mk = 5 then (numberA F l).bind fun y1 => some (upd (f) 134 (.int .i64 y1.1), [], y1.2) else some (f, [], l)) := hide (by rw [← hRR]; rfl)
  clear hRR
  have hbl_ := Has.lt hR
  have HE0 := hide hE
  have HR0 := hide hR
  have HC0 := hide hC
  have HK0 : Hid (Kp b c w w) := hide (Kp.refl _ _ _)
  have HNl := hide hnil
  have HT0 := hide hg
  clear hE hR hC hnil hg
  unfold rif
  go_enter Tryz.func53, Tryz.ntmps53
  have hk2 : w.cell? ⟨c, 133, none⟩ = some (.int .i64 mk) := by rw [HC0.out.cell 133 (by omega), hmk]
  clear hmk
  by_cases e1 : mk = 1
  · have hd1 : (mk == 1) = true := by rw [e1]; rfl
    have HQ0 : Hid (R = (numberA F l).bind fun y1 => stepP F (upd (f) 134 (.int .i64 y1.1)) y1.2) := hide (by rw [HQ0.out, if_pos e1])
    have HTm := HT0
    have HT0 := hide (HTm.out.imp id fun h => h.1 e1)
    clear e1
    have na := rna_whole b
    have mt := rmt_whole b
    have hmf := mkF
    go_wp2_with fail
    refine wp_region_drew_tail 7 (by kernel_rfl) (by kernel_rfl) ?_
    simp only [List.take_succ_cons, List.take_zero, List.drop_succ_cons, List.drop_zero]
    iterate 7 (go_big_quiet_step (fail))
    refine wpQuiet_nil ?_
    intro _ hw'
    obtain ⟨nq, rfl⟩ := hw'
    clear na
    generalize hwq : World.drewN w nq = wq
    have HR0 : Hid (Rd wq b l) := hide (by rw [← hwq]; exact Has.drewN HR0.out nq)
    have HC0 : Hid (Has wq c 40 (f) 176) := hide (by rw [← hwq]; exact HC0.out.drewN nq)
    have HK0 : Hid (Kp b c w wq) := hide (by rw [← hwq]; exact ⟨HK0.out.os, HK0.out.tape, HK0.out.output, HK0.out.size, HK0.out.block⟩)
    have hB0 : B ≤ wq.heap.size := by rw [← hwq]; exact hB0
    have HE0 : Hid (Env E B F wq) := hide (by rw [← hwq]; exact HE0.out.below ⟨rfl, rfl, rfl, Nat.le_refl _, fun _ _ => rfl⟩)
    clear hwq
    go_wp2_with fail
    clear mt hmf
    refine (whole_any b c 134 176 _ (f) l _ HE0.out hB0 hb hc HR0.out HC0.out (by omega) hbc hl0 (HT0.out.imp id And.left)).mono ?_
    rintro e w1 ⟨k, ⟨z1, q1, hA, rfl, hR, hC⟩ | ⟨hA, rfl⟩⟩
    case inr =>
      have HQn : Hid (R = none) := hide (by rw [HQ0.out, hA]; rfl)
      have HKn := hide (HK0.out.trans k)
      clear hA k
      go_wp2
      exact ⟨rfl, HKn.out, .inr ⟨HQn.out, rfl⟩⟩
    have HQ1 : Hid (R = stepP F (upd (f) 134 (.int .i64 z1)) q1) := hide (by rw [HQ0.out, hA]; rfl)
    have HT1 := hide (HT0.out.imp id fun h => h.2 _ hA)
    have hl1 : q1.length ≤ 70000 := by have := numberA_len hA; omega
    have hB1 : B ≤ w1.heap.size := Nat.le_trans hB0 k.size
    have HE1 := hide (HE0.out.below (k.below hB0 hb hc))
    have HK1 : Hid (Kp b c w w1) := hide (HK0.out.trans k)
    have HR1 : Hid (Rd w1 b q1) := hide hR
    have HC1 : Hid (Has w1 c 40 (upd (f) 134 (.int .i64 z1)) 176) := hide hC
    clear hA k hR hC
    have HNl : Hid ((upd (f) 134 (.int .i64 z1)) 173 = .slice none 0 0) := hide HNl.out
    go_wp2_with fail
    refine (rstep_any b c (upd (f) 134 (.int .i64 z1)) q1 _ HE1.out hB1 hb hc HR1.out HC1.out HNl.out hbc hl1 HT1.out).mono ?_
    rintro e w2 ⟨k, ⟨f2, fs, r2, v2, hA, rfl, hR, hC, hO⟩ | ⟨hA, rfl⟩⟩
    · have HQ2 : Hid (R = some (f2, fs, r2)) := hide (by rw [HQ1.out, hA])
      have HK2 := hide (HK1.out.trans k)
      have HR2 := hide hR
      have HC2 := hide hC
      have HO2 := hide (hO.mono HK1.out.size)
      clear hA k hR hC hO
      go_wp2
      go_end0
      exact ⟨HK2.out, .inl ⟨_, _, _, _, HQ2.out, rfl, HR2.out, HC2.out, HO2.out⟩⟩
    · have HQ2 : Hid (R = none) := hide (by rw [HQ1.out, hA])
      have HK2 := hide (HK1.out.trans k)
      clear hA k
      go_wp2
      exact ⟨rfl, HK2.out, .inr ⟨HQ2.out, rfl⟩⟩
  have hd1 : (mk == 1) = false := beq_eq_false_iff_ne.2 e1
  have HQ0 : Hid (R = if mk = 4 ∨ mk = 5 then (numberA F l).bind fun y1 => some (upd (f) 134 (.int .i64 y1.1), [], y1.2) else some (f, [], l)) := hide (by rw [HQ0.out, if_neg e1])
  clear e1
  by_cases e4 : mk = 4
  · have hd4 : (mk == 4) = true := by rw [e4]; rfl
    have HQ0 : Hid (R = (numberA F l).bind fun y1 => some (upd (f) 134 (.int .i64 y1.1), [], y1.2)) := hide (by rw [HQ0.out, if_pos (by omega)])
    have HT0 := hide (HT0.out.imp id fun h => (⟨h.2 (by omega), fun _ _ => trivial⟩ : numT l ∧ ∀ y, numberA F l = some y → True))
    clear e4
    have na := rna_whole b
    have mt := rmt_whole b
    have hmf := mkF
    go_wp2_with fail
    refine wp_region_drew_tail 7 (by kernel_rfl) (by kernel_rfl) ?_
    simp only [List.take_succ_cons, List.take_zero, List.drop_succ_cons, List.drop_zero]
    iterate 7 (go_big_quiet_step (fail))
    refine wpQuiet_nil ?_
    intro _ hw'
    obtain ⟨nq, rfl⟩ := hw'
    clear na
    generalize hwq : World.drewN w nq = wq
    have HR0 : Hid (Rd wq b l) := hide (by rw [← hwq]; exact Has.drewN HR0.out nq)
    have HC0 : Hid (Has wq c 40 (f) 176) := hide (by rw [← hwq]; exact HC0.out.drewN nq)
    have HK0 : Hid (Kp b c w wq) := hide (by rw [← hwq]; exact ⟨HK0.out.os, HK0.out.tape, HK0.out.output, HK0.out.size, HK0.out.block⟩)
    have hB0 : B ≤ wq.heap.size := by rw [← hwq]; exact hB0
    have HE0 : Hid (Env E B F wq) := hide (by rw [← hwq]; exact HE0.out.below ⟨rfl, rfl, rfl, Nat.le_refl _, fun _ _ => rfl⟩)
    clear hwq
    go_wp2_with fail
    clear mt hmf
    refine (whole_any b c 134 176 _ (f) l _ HE0.out hB0 hb hc HR0.out HC0.out (by omega) hbc hl0 (HT0.out.imp id And.left)).mono ?_
    rintro e w1 ⟨k, ⟨z1, q1, hA, rfl, hR, hC⟩ | ⟨hA, rfl⟩⟩
    case inr =>
      have HQn : Hid (R = none) := hide (by rw [HQ0.out, hA]; rfl)
      have HKn := hide (HK0.out.trans k)
      clear hA k
      go_wp2
      exact ⟨rfl, HKn.out, .inr ⟨HQn.out, rfl⟩⟩
    have HQ1 : Hid (R = some (upd (f) 134 (.int .i64 z1), [], q1)) := hide (by rw [HQ0.out, hA]; rfl)
    have HT1 := hide (HT0.out.imp id fun h => h.2 _ hA)
    have hl1 : q1.length ≤ 70000 := by have := numberA_len hA; omega
    have hB1 : B ≤ w1.heap.size := Nat.le_trans hB0 k.size
    have HE1 := hide (HE0.out.below (k.below hB0 hb hc))
    have HK1 : Hid (Kp b c w w1) := hide (HK0.out.trans k)
    have HR1 : Hid (Rd w1 b q1) := hide hR
    have HC1 : Hid (Has w1 c 40 (upd (f) 134 (.int .i64 z1)) 176) := hide hC
    clear hA k hR hC
    have HNl : Hid ((upd (f) 134 (.int .i64 z1)) 173 = .slice none 0 0) := hide HNl.out
    go_wp2
    go_end0
    first | exact ⟨HK1.out, .inl ⟨_, _, _, _, HQ1.out, rfl, HR1.out, HC1.out.congr _ (nil173 HNl.out), OwnF.nil _ _⟩⟩ | exact ⟨HK1.out, .inl ⟨_, _, _, HQ1.out, rfl, HR1.out, _, HC1.out.congr _ (nil173 HNl.out), OwnF.nil _ _⟩⟩
  have hd4 : (mk == 4) = false := beq_eq_false_iff_ne.2 e4
  by_cases e5 : mk = 5
  · have hd5 : (mk == 5) = true := by rw [e5]; rfl
    have HQ0 : Hid (R = (numberA F l).bind fun y1 => some (upd (f) 134 (.int .i64 y1.1), [], y1.2)) := hide (by rw [HQ0.out, if_pos (by omega)])
    have HT0 := hide (HT0.out.imp id fun h => (⟨h.2 (by omega), fun _ _ => trivial⟩ : numT l ∧ ∀ y, numberA F l = some y → True))
    clear e4 e5
    have na := rna_whole b
    have mt := rmt_whole b
    have hmf := mkF
    go_wp2_with fail
    refine wp_region_drew_tail 7 (by kernel_rfl) (by kernel_rfl) ?_
    simp only [List.take_succ_cons, List.take_zero, List.drop_succ_cons, List.drop_zero]
    iterate 7 (go_big_quiet_step (fail))
    refine wpQuiet_nil ?_
    intro _ hw'
    obtain ⟨nq, rfl⟩ := hw'
    clear na
    generalize hwq : World.drewN w nq = wq
    have HR0 : Hid (Rd wq b l) := hide (by rw [← hwq]; exact Has.drewN HR0.out nq)
    have HC0 : Hid (Has wq c 40 (f) 176) := hide (by rw [← hwq]; exact HC0.out.drewN nq)
    have HK0 : Hid (Kp b c w wq) := hide (by rw [← hwq]; exact ⟨HK0.out.os, HK0.out.tape, HK0.out.output, HK0.out.size, HK0.out.block⟩)
    have hB0 : B ≤ wq.heap.size := by rw [← hwq]; exact hB0
    have HE0 : Hid (Env E B F wq) := hide (by rw [← hwq]; exact HE0.out.below ⟨rfl, rfl, rfl, Nat.le_refl _, fun _ _ => rfl⟩)
    clear hwq
    go_wp2_with fail
    clear mt hmf
    refine (whole_any b c 134 176 _ (f) l _ HE0.out hB0 hb hc HR0.out HC0.out (by omega) hbc hl0 (HT0.out.imp id And.left)).mono ?_
    rintro e w1 ⟨k, ⟨z1, q1, hA, rfl, hR, hC⟩ | ⟨hA, rfl⟩⟩
    case inr =>
      have HQn : Hid (R = none) := hide (by rw [HQ0.out, hA]; rfl)
      have HKn := hide (HK0.out.trans k)
      clear hA k
      go_wp2
      exact ⟨rfl, HKn.out, .inr ⟨HQn.out, rfl⟩⟩
    have HQ1 : Hid (R = some (upd (f) 134 (.int .i64 z1), [], q1)) := hide (by rw [HQ0.out, hA]; rfl)
    have HT1 := hide (HT0.out.imp id fun h => h.2 _ hA)
    have hl1 : q1.length ≤ 70000 := by have := numberA_len hA; omega
    have hB1 : B ≤ w1.heap.size := Nat.le_trans hB0 k.size
    have HE1 := hide (HE0.out.below (k.below hB0 hb hc))
    have HK1 : Hid (Kp b c w w1) := hide (HK0.out.trans k)
    have HR1 : Hid (Rd w1 b q1) := hide hR
    have HC1 : Hid (Has w1 c 40 (upd (f) 134 (.int .i64 z1)) 176) := hide hC
    clear hA k hR hC
    have HNl : Hid ((upd (f) 134 (.int .i64 z1)) 173 = .slice none 0 0) := hide HNl.out
    go_wp2
    go_end0
    first | exact ⟨HK1.out, .inl ⟨_, _, _, _, HQ1.out, rfl, HR1.out, HC1.out.congr _ (nil173 HNl.out), OwnF.nil _ _⟩⟩ | exact ⟨HK1.out, .inl ⟨_, _, _, HQ1.out, rfl, HR1.out, _, HC1.out.congr _ (nil173 HNl.out), OwnF.nil _ _⟩⟩
  have hd5 : (mk == 5) = false := beq_eq_false_iff_ne.2 e5
  have HQ0 : Hid (R = some (f, [], l)) := hide (by rw [HQ0.out, if_neg (by omega)])
  clear e4 e5
  go_wp2
  go_end0
  first | exact ⟨HK0.out, .inl ⟨_, _, _, _, HQ0.out, rfl, HR0.out, HC0.out.congr _ (nil173 HNl.out), OwnF.nil _ _⟩⟩ | exact ⟨HK0.out, .inl ⟨_, _, _, HQ0.out, rfl, HR0.out, _, HC0.out.congr _ (nil173 HNl.out), OwnF.nil _ _⟩⟩
set_option maxRecDepth 100000 in
set_option maxHeartbeats 4000000 in
theorem rworld_any {E : Prop} {B : Nat} {F : Int → List UInt8} (b c : Nat) (f : Nat → Value) (l : List UInt8) (w : World) (hE : Env E B F w) (hB0 : B ≤ w.heap.size) (hb : B ≤ b) (hc : B ≤ c)
    (hR : Rd w b l) (hC : Has w c 40 f 176) (hnil : f 173 = .slice none 0 0) (hbc : c ≠ b) (hl0 : l.length ≤ 70000) (hg : E ∨ worldT F l) :
    Calls Tryz.prog 52 #[rif b, .pointer (some ⟨c, 1, none⟩)] w fun e w' => Kp b c w w' ∧
      ((∃ f' fs r v, worldP F f l = some (f', fs, r) ∧ e = .returned (.tuple #[]) ∧ Rd w' b r ∧ Has w' c 40 (upd f' 173 v) 176 ∧ OwnF w.heap.size w' v fs) ∨ (worldP F f l = none ∧ Bad e)) := by
  obtain ⟨R, hRR⟩ : ∃ R, worldP F f l = R := ⟨_, rfl⟩
  rw [hRR]
  have HQ0 : Hid (R = (numberA F l).bind fun y1 => (numberA F y1.2).bind fun y2 => (numberA F y2.2).bind fun y3 => (numberA F y3.2).bind fun y4 => (hsP (2) (3) (upd (upd (upd (upd (f) 1 (.int .i64 y1.1)) 2 (.int .i64 y2.1)) 131 (.int .i64 y3.1)) 132 (.int .i64 y4.1)) y4.2).bind fun x => (hsP 2 67 x.1 x.2).bind fun y => some (y.1, [], y.2)) := hide (by rw [← hRR]; rfl)
  clear hRR
  have hbl_ := Has.lt hR
  have HE0 := hide hE
  have HR0 := hide hR
  have HC0 := hide hC
  have HK0 : Hid (Kp b c w w) := hide (Kp.refl _ _ _)
  have HNl := hide hnil
  have HT0 := hide hg
  clear hE hR hC hnil hg
  unfold rif
  go_enter Tryz.func52, Tryz.ntmps52
  have hBw := hB0
  have HEw := HE0
  have na := rna_number b
  have mt := rmt_number b
  have hmf := mkF
  go_wp2_with fail
  refine wp_region_drew_tail 7 (by kernel_rfl) (by kernel_rfl) ?_
  simp only [List.take_succ_cons, List.take_zero, List.drop_succ_cons, List.drop_zero]
  iterate 7 (go_big_quiet_step (fail))
  refine wpQuiet_nil ?_
  intro _ hw'
  obtain ⟨nq, rfl⟩ := hw'
  clear na
  generalize hwq : World.drewN w nq = wq
  have HR0 : Hid (Rd wq b l) := hide (by rw [← hwq]; exact Has.drewN HR0.out nq)
  have HC0 : Hid (Has wq c 40 (f) 176) := hide (by rw [← hwq]; exact HC0.out.drewN nq)
  have HK0 : Hid (Kp b c w wq) := hide (by rw [← hwq]; exact ⟨HK0.out.os, HK0.out.tape, HK0.out.output, HK0.out.size, HK0.out.block⟩)
  have hB0 : B ≤ wq.heap.size := by rw [← hwq]; exact hB0
  have HE0 : Hid (Env E B F wq) := hide (by rw [← hwq]; exact HE0.out.below ⟨rfl, rfl, rfl, Nat.le_refl _, fun _ _ => rfl⟩)
  clear hwq
  go_wp2_with fail
  clear mt hmf
  refine (number_any b c 1 176 _ (f) l _ HE0.out hB0 hb hc HR0.out HC0.out (by omega) hbc hl0 (HT0.out.imp id And.left)).mono ?_
  rintro e w1 ⟨k, ⟨z1, q1, hA, rfl, hR, hC⟩ | ⟨hA, rfl⟩⟩
  case inr =>
    have HQn : Hid (R = none) := hide (by rw [HQ0.out, hA]; rfl)
    have HKn := hide (HK0.out.trans k)
    clear hA k
    go_wp2
    exact ⟨rfl, HKn.out, .inr ⟨HQn.out, rfl⟩⟩
  have HQ1 : Hid (R = (numberA F q1).bind fun y1 => (numberA F y1.2).bind fun y2 => (numberA F y2.2).bind fun y3 => (hsP (2) (3) (upd (upd (upd (upd (f) 1 (.int .i64 z1)) 2 (.int .i64 y1.1)) 131 (.int .i64 y2.1)) 132 (.int .i64 y3.1)) y3.2).bind fun x => (hsP 2 67 x.1 x.2).bind fun y => some (y.1, [], y.2)) := hide (by rw [HQ0.out, hA]; rfl)
  have HT1 := hide (HT0.out.imp id fun h => h.2 _ hA)
  have hl1 : q1.length ≤ 70000 := by have := numberA_len hA; omega
  have hB1 : B ≤ w1.heap.size := Nat.le_trans hB0 k.size
  have HE1 := hide (HE0.out.below (k.below hB0 hb hc))
  have HK1 : Hid (Kp b c w w1) := hide (HK0.out.trans k)
  have HR1 : Hid (Rd w1 b q1) := hide hR
  have HC1 : Hid (Has w1 c 40 (upd (f) 1 (.int .i64 z1)) 176) := hide hC
  clear hA k hR hC
  have HNl : Hid ((upd (f) 1 (.int .i64 z1)) 173 = .slice none 0 0) := hide HNl.out
  have na := rna_number b
  have mt := rmt_number b
  have hmf := mkF
  go_wp2_with fail
  refine wp_region_drew_tail 7 (by kernel_rfl) (by kernel_rfl) ?_
  simp only [List.take_succ_cons, List.take_zero, List.drop_succ_cons, List.drop_zero]
  iterate 7 (go_big_quiet_step (fail))
  refine wpQuiet_nil ?_
  intro _ hw'
  obtain ⟨nq, rfl⟩ := hw'
  clear na
  generalize hwq : World.drewN w1 nq = wq
  have HR1 : Hid (Rd wq b q1) := hide (by rw [← hwq]; exact Has.drewN HR1.out nq)
  have HC1 : Hid (Has wq c 40 (upd (f) 1 (.int .i64 z1)) 176) := hide (by rw [← hwq]; exact HC1.out.drewN nq)
  have HK1 : Hid (Kp b c w wq) := hide (by rw [← hwq]; exact ⟨HK1.out.os, HK1.out.tape, HK1.out.output, HK1.out.size, HK1.out.block⟩)
  have hB1 : B ≤ wq.heap.size := by rw [← hwq]; exact hB1
  have HE1 : Hid (Env E B F wq) := hide (by rw [← hwq]; exact HE1.out.below ⟨rfl, rfl, rfl, Nat.le_refl _, fun _ _ => rfl⟩)
  clear hwq
  go_wp2_with fail
  clear mt hmf
  refine (number_any b c 2 176 _ (upd (f) 1 (.int .i64 z1)) q1 _ HE1.out hB1 hb hc HR1.out HC1.out (by omega) hbc hl1 (HT1.out.imp id And.left)).mono ?_
  rintro e w2 ⟨k, ⟨z2, q2, hA, rfl, hR, hC⟩ | ⟨hA, rfl⟩⟩
  case inr =>
    have HQn : Hid (R = none) := hide (by rw [HQ1.out, hA]; rfl)
    have HKn := hide (HK1.out.trans k)
    clear hA k
    go_wp2
    exact ⟨rfl, HKn.out, .inr ⟨HQn.out, rfl⟩⟩
  have HQ2 : Hid (R = (numberA F q2).bind fun y1 => (numberA F y1.2).bind fun y2 => (hsP (2) (3) (upd (upd (upd (upd (f) 1 (.int .i64 z1)) 2 (.int .i64 z2)) 131 (.int .i64 y1.1)) 132 (.int .i64 y2.1)) y2.2).bind fun x => (hsP 2 67 x.1 x.2).bind fun y => some (y.1, [], y.2)) := hide (by rw [HQ1.out, hA]; rfl)
  have HT2 := hide (HT1.out.imp id fun h => h.2 _ hA)
  have hl2 : q2.length ≤ 70000 := by have := numberA_len hA; omega
  have hB2 : B ≤ w2.heap.size := Nat.le_trans hB1 k.size
  have HE2 := hide (HE1.out.below (k.below hB1 hb hc))
  have HK2 : Hid (Kp b c w w2) := hide (HK1.out.trans k)
  have HR2 : Hid (Rd w2 b q2) := hide hR
  have HC2 : Hid (Has w2 c 40 (upd (upd (f) 1 (.int .i64 z1)) 2 (.int .i64 z2)) 176) := hide hC
  clear hA k hR hC
  have HNl : Hid ((upd (upd (f) 1 (.int .i64 z1)) 2 (.int .i64 z2)) 173 = .slice none 0 0) := hide HNl.out
  have na := rna_whole b
  have mt := rmt_whole b
  have hmf := mkF
  go_wp2_with fail
  refine wp_region_drew_tail 7 (by kernel_rfl) (by kernel_rfl) ?_
  simp only [List.take_succ_cons, List.take_zero, List.drop_succ_cons, List.drop_zero]
  iterate 7 (go_big_quiet_step (fail))
  refine wpQuiet_nil ?_
  intro _ hw'
  obtain ⟨nq, rfl⟩ := hw'
  clear na
  generalize hwq : World.drewN w2 nq = wq
  have HR2 : Hid (Rd wq b q2) := hide (by rw [← hwq]; exact Has.drewN HR2.out nq)
  have HC2 : Hid (Has wq c 40 (upd (upd (f) 1 (.int .i64 z1)) 2 (.int .i64 z2)) 176) := hide (by rw [← hwq]; exact HC2.out.drewN nq)
  have HK2 : Hid (Kp b c w wq) := hide (by rw [← hwq]; exact ⟨HK2.out.os, HK2.out.tape, HK2.out.output, HK2.out.size, HK2.out.block⟩)
  have hB2 : B ≤ wq.heap.size := by rw [← hwq]; exact hB2
  have HE2 : Hid (Env E B F wq) := hide (by rw [← hwq]; exact HE2.out.below ⟨rfl, rfl, rfl, Nat.le_refl _, fun _ _ => rfl⟩)
  clear hwq
  go_wp2_with fail
  clear mt hmf
  refine (whole_any b c 131 176 _ (upd (upd (f) 1 (.int .i64 z1)) 2 (.int .i64 z2)) q2 _ HE2.out hB2 hb hc HR2.out HC2.out (by omega) hbc hl2 (HT2.out.imp id And.left)).mono ?_
  rintro e w3 ⟨k, ⟨z3, q3, hA, rfl, hR, hC⟩ | ⟨hA, rfl⟩⟩
  case inr =>
    have HQn : Hid (R = none) := hide (by rw [HQ2.out, hA]; rfl)
    have HKn := hide (HK2.out.trans k)
    clear hA k
    go_wp2
    exact ⟨rfl, HKn.out, .inr ⟨HQn.out, rfl⟩⟩
  have HQ3 : Hid (R = (numberA F q3).bind fun y1 => (hsP (2) (3) (upd (upd (upd (upd (f) 1 (.int .i64 z1)) 2 (.int .i64 z2)) 131 (.int .i64 z3)) 132 (.int .i64 y1.1)) y1.2).bind fun x => (hsP 2 67 x.1 x.2).bind fun y => some (y.1, [], y.2)) := hide (by rw [HQ2.out, hA]; rfl)
  have HT3 := hide (HT2.out.imp id fun h => h.2 _ hA)
  have hl3 : q3.length ≤ 70000 := by have := numberA_len hA; omega
  have hB3 : B ≤ w3.heap.size := Nat.le_trans hB2 k.size
  have HE3 := hide (HE2.out.below (k.below hB2 hb hc))
  have HK3 : Hid (Kp b c w w3) := hide (HK2.out.trans k)
  have HR3 : Hid (Rd w3 b q3) := hide hR
  have HC3 : Hid (Has w3 c 40 (upd (upd (upd (f) 1 (.int .i64 z1)) 2 (.int .i64 z2)) 131 (.int .i64 z3)) 176) := hide hC
  clear hA k hR hC
  have HNl : Hid ((upd (upd (upd (f) 1 (.int .i64 z1)) 2 (.int .i64 z2)) 131 (.int .i64 z3)) 173 = .slice none 0 0) := hide HNl.out
  have na := rna_whole b
  have mt := rmt_whole b
  have hmf := mkF
  go_wp2_with fail
  refine wp_region_drew_tail 7 (by kernel_rfl) (by kernel_rfl) ?_
  simp only [List.take_succ_cons, List.take_zero, List.drop_succ_cons, List.drop_zero]
  iterate 7 (go_big_quiet_step (fail))
  refine wpQuiet_nil ?_
  intro _ hw'
  obtain ⟨nq, rfl⟩ := hw'
  clear na
  generalize hwq : World.drewN w3 nq = wq
  have HR3 : Hid (Rd wq b q3) := hide (by rw [← hwq]; exact Has.drewN HR3.out nq)
  have HC3 : Hid (Has wq c 40 (upd (upd (upd (f) 1 (.int .i64 z1)) 2 (.int .i64 z2)) 131 (.int .i64 z3)) 176) := hide (by rw [← hwq]; exact HC3.out.drewN nq)
  have HK3 : Hid (Kp b c w wq) := hide (by rw [← hwq]; exact ⟨HK3.out.os, HK3.out.tape, HK3.out.output, HK3.out.size, HK3.out.block⟩)
  have hB3 : B ≤ wq.heap.size := by rw [← hwq]; exact hB3
  have HE3 : Hid (Env E B F wq) := hide (by rw [← hwq]; exact HE3.out.below ⟨rfl, rfl, rfl, Nat.le_refl _, fun _ _ => rfl⟩)
  clear hwq
  go_wp2_with fail
  clear mt hmf
  refine (whole_any b c 132 176 _ (upd (upd (upd (f) 1 (.int .i64 z1)) 2 (.int .i64 z2)) 131 (.int .i64 z3)) q3 _ HE3.out hB3 hb hc HR3.out HC3.out (by omega) hbc hl3 (HT3.out.imp id And.left)).mono ?_
  rintro e w4 ⟨k, ⟨z4, q4, hA, rfl, hR, hC⟩ | ⟨hA, rfl⟩⟩
  case inr =>
    have HQn : Hid (R = none) := hide (by rw [HQ3.out, hA]; rfl)
    have HKn := hide (HK3.out.trans k)
    clear hA k
    go_wp2
    exact ⟨rfl, HKn.out, .inr ⟨HQn.out, rfl⟩⟩
  have HQ4 : Hid (R = (hsP (2) (3) (upd (upd (upd (upd (f) 1 (.int .i64 z1)) 2 (.int .i64 z2)) 131 (.int .i64 z3)) 132 (.int .i64 z4)) q4).bind fun x => (hsP 2 67 x.1 x.2).bind fun y => some (y.1, [], y.2)) := hide (by rw [HQ3.out, hA]; rfl)
  have HT4 := hide (HT3.out.imp id fun h => h.2 _ hA)
  have hl4 : q4.length ≤ 70000 := by have := numberA_len hA; omega
  have hB4 : B ≤ w4.heap.size := Nat.le_trans hB3 k.size
  have HE4 := hide (HE3.out.below (k.below hB3 hb hc))
  have HK4 : Hid (Kp b c w w4) := hide (HK3.out.trans k)
  have HR4 : Hid (Rd w4 b q4) := hide hR
  have HC4 : Hid (Has w4 c 40 (upd (upd (upd (upd (f) 1 (.int .i64 z1)) 2 (.int .i64 z2)) 131 (.int .i64 z3)) 132 (.int .i64 z4)) 176) := hide hC
  clear hA k hR hC
  have HNl : Hid ((upd (upd (upd (upd (f) 1 (.int .i64 z1)) 2 (.int .i64 z2)) 131 (.int .i64 z3)) 132 (.int .i64 z4)) 173 = .slice none 0 0) := hide HNl.out
  go_wp2
  go_loopw [4, 38] (fun _ x wr => ∃ k : Nat, k ≤ 2 ∧ x = .int .i64 k ∧ ∃ fk lk, lk.length ≤ 70000 ∧ R = ((hsP (2 - k) (3 + 32 * k) (fk) lk).bind fun x => (hsP 2 67 x.1 x.2).bind fun y => some (y.1, [], y.2)) ∧ Rd wr b lk ∧ Has wr c 40 fk 176 ∧ Kp b c w wr ∧ fk 173 = .slice none 0 0) (fun _ x _ => 2 - (Lib.intOf x).toNat)
  case atStart => exact ⟨0, by omega, rfl, _, _, hl4, HQ4.out, HR4.out, HC4.out, HK4.out, HNl.out⟩
  case round =>
    obtain ⟨k, hk, rfl, fk, lk, hl5, hQ, hR, hC, hK, hN⟩ := hrel
    have HR5 := hide hR
    have HC5 := hide hC
    have HK5 := hide hK
    have HNl := hide hN
    have hB5 : B ≤ wr.heap.size := Nat.le_trans hBw hK.size
    have HE5 := hide (HEw.out.below (hK.below hBw hb hc))
    rcases (by omega : k = 0 ∨ k = 1 ∨ k = 2) with rfl | rfl | h2
    · have HQ5 : Hid (R = ((hashA lk).bind fun x0 => hsP 1 35 (splice fk 3 (bv x0.1) 32) x0.2).bind fun x => (hsP 2 67 x.1 x.2).bind fun y => some (y.1, [], y.2)) := hide hQ
      clear hQ hR hC hK hN
      have na := rna_hash b
      have mt := rmt_hash b
      have hmf := mkF
      go_wp2_with fail
      refine wp_region_drew_tail 9 (by kernel_rfl) (by kernel_rfl) ?_
      simp only [List.take_succ_cons, List.take_zero, List.drop_succ_cons, List.drop_zero]
      iterate 9 (go_big_quiet_step (fail))
      refine wpQuiet_nil ?_
      intro _ hw'
      obtain ⟨nq, rfl⟩ := hw'
      clear na
      generalize hwq : World.drewN wr nq = wq
      have HR5 : Hid (Rd wq b lk) := hide (by rw [← hwq]; exact Has.drewN HR5.out nq)
      have HC5 : Hid (Has wq c 40 (fk) 176) := hide (by rw [← hwq]; exact HC5.out.drewN nq)
      have HK5 : Hid (Kp b c w wq) := hide (by rw [← hwq]; exact ⟨HK5.out.os, HK5.out.tape, HK5.out.output, HK5.out.size, HK5.out.block⟩)
      have hB5 : B ≤ wq.heap.size := by rw [← hwq]; exact hB5
      have HE5 : Hid (Env E B F wq) := hide (by rw [← hwq]; exact HE5.out.below ⟨rfl, rfl, rfl, Nat.le_refl _, fun _ _ => rfl⟩)
      clear hwq
      go_wp2_with fail
      clear mt hmf
      refine (hash_any b c 3 176 _ (fk) lk _ HR5.out HC5.out (by omega) hbc hl5).mono ?_
      rintro e w6 ⟨k, ⟨h6, r6, hA, rfl, hR, hC⟩ | ⟨hA, rfl⟩⟩
      case inr =>
        have HQn : Hid (R = none) := hide (by rw [HQ5.out, hA]; rfl)
        have HKn := hide (HK5.out.trans k)
        clear hA k
        go_wp2
        exact ⟨rfl, HKn.out, .inr ⟨HQn.out, rfl⟩⟩
      have HQ6 : Hid (R = (hsP (1) (35) (splice fk 3 (bv h6) 32) r6).bind fun x => (hsP 2 67 x.1 x.2).bind fun y => some (y.1, [], y.2)) := hide (by rw [HQ5.out, hA]; rfl)
      have hl6 : r6.length ≤ 70000 := by have := hashA_len hA; omega
      have hB6 : B ≤ w6.heap.size := Nat.le_trans hB5 k.size
      have HE6 := hide (HE5.out.below (k.below hB5 hb hc))
      have HK6 : Hid (Kp b c w w6) := hide (HK5.out.trans k)
      have HR6 : Hid (Rd w6 b r6) := hide hR
      have HC6 : Hid (Has w6 c 40 (splice (fk) 3 (bv h6) 32) 176) := hide hC
      clear hA k hR hC
      have HNl : Hid ((splice (fk) 3 (bv h6) 32) 173 = .slice none 0 0) := hide HNl.out
      go_wp2
      refine ⟨⟨1, by omega, by go_num, _, _, hl6, HQ6.out, HR6.out, HC6.out, HK6.out, HNl.out⟩, ?_⟩
      simp [Lib.intOf]
    · have HQ5 : Hid (R = ((hashA lk).bind fun x0 => hsP 0 67 (splice fk 35 (bv x0.1) 32) x0.2).bind fun x => (hsP 2 67 x.1 x.2).bind fun y => some (y.1, [], y.2)) := hide hQ
      clear hQ hR hC hK hN
      have na := rna_hash b
      have mt := rmt_hash b
      have hmf := mkF
      go_wp2_with fail
      refine wp_region_drew_tail 9 (by kernel_rfl) (by kernel_rfl) ?_
      simp only [List.take_succ_cons, List.take_zero, List.drop_succ_cons, List.drop_zero]
      iterate 9 (go_big_quiet_step (fail))
      refine wpQuiet_nil ?_
      intro _ hw'
      obtain ⟨nq, rfl⟩ := hw'
      clear na
      generalize hwq : World.drewN wr nq = wq
      have HR5 : Hid (Rd wq b lk) := hide (by rw [← hwq]; exact Has.drewN HR5.out nq)
      have HC5 : Hid (Has wq c 40 (fk) 176) := hide (by rw [← hwq]; exact HC5.out.drewN nq)
      have HK5 : Hid (Kp b c w wq) := hide (by rw [← hwq]; exact ⟨HK5.out.os, HK5.out.tape, HK5.out.output, HK5.out.size, HK5.out.block⟩)
      have hB5 : B ≤ wq.heap.size := by rw [← hwq]; exact hB5
      have HE5 : Hid (Env E B F wq) := hide (by rw [← hwq]; exact HE5.out.below ⟨rfl, rfl, rfl, Nat.le_refl _, fun _ _ => rfl⟩)
      clear hwq
      go_wp2_with fail
      clear mt hmf
      refine (hash_any b c 35 176 _ (fk) lk _ HR5.out HC5.out (by omega) hbc hl5).mono ?_
      rintro e w6 ⟨k, ⟨h6, r6, hA, rfl, hR, hC⟩ | ⟨hA, rfl⟩⟩
      case inr =>
        have HQn : Hid (R = none) := hide (by rw [HQ5.out, hA]; rfl)
        have HKn := hide (HK5.out.trans k)
        clear hA k
        go_wp2
        exact ⟨rfl, HKn.out, .inr ⟨HQn.out, rfl⟩⟩
      have HQ6 : Hid (R = (hsP (0) (67) (splice fk 35 (bv h6) 32) r6).bind fun x => (hsP 2 67 x.1 x.2).bind fun y => some (y.1, [], y.2)) := hide (by rw [HQ5.out, hA]; rfl)
      have hl6 : r6.length ≤ 70000 := by have := hashA_len hA; omega
      have hB6 : B ≤ w6.heap.size := Nat.le_trans hB5 k.size
      have HE6 := hide (HE5.out.below (k.below hB5 hb hc))
      have HK6 : Hid (Kp b c w w6) := hide (HK5.out.trans k)
      have HR6 : Hid (Rd w6 b r6) := hide hR
      have HC6 : Hid (Has w6 c 40 (splice (fk) 35 (bv h6) 32) 176) := hide hC
      clear hA k hR hC
      have HNl : Hid ((splice (fk) 35 (bv h6) 32) 173 = .slice none 0 0) := hide HNl.out
      go_wp2
      refine ⟨⟨2, by omega, by go_num, _, _, hl6, HQ6.out, HR6.out, HC6.out, HK6.out, HNl.out⟩, ?_⟩
      simp [Lib.intOf]
    · have HQ5 : Hid (R = (hsP 2 67 (fk) lk).bind fun y => some (y.1, [], y.2)) := hide (by rw [h2] at hQ; exact hQ)
      have hdk : decide ((k : Int) < 2) = false := decide_eq_false (by omega)
      clear hQ hR hC hK hN h2 hk
      go_wp2
      generalize fk = f5 at *
      generalize lk = l5 at *
      obtain ⟨w5, hw5⟩ : ∃ x, wr = x := ⟨_, rfl⟩
      subst hw5
      go_loopw [5, 52] (fun _ x wr => ∃ k : Nat, k ≤ 2 ∧ x = .int .i64 k ∧ ∃ fk lk, lk.length ≤ 70000 ∧ R = ((hsP (2 - k) (67 + 32 * k) (fk) lk).bind fun y => some (y.1, [], y.2)) ∧ Rd wr b lk ∧ Has wr c 40 fk 176 ∧ Kp b c w wr ∧ fk 173 = .slice none 0 0) (fun _ x _ => 2 - (Lib.intOf x).toNat)
      case atStart => exact ⟨0, by omega, rfl, _, _, hl5, HQ5.out, HR5.out, HC5.out, HK5.out, HNl.out⟩
      case round =>
        obtain ⟨k, hk, rfl, fk, lk, hl5, hQ, hR, hC, hK, hN⟩ := hrel
        have HR5 := hide hR
        have HC5 := hide hC
        have HK5 := hide hK
        have HNl := hide hN
        have hB5 : B ≤ wr.heap.size := Nat.le_trans hBw hK.size
        have HE5 := hide (HEw.out.below (hK.below hBw hb hc))
        rcases (by omega : k = 0 ∨ k = 1 ∨ k = 2) with rfl | rfl | h2
        · have HQ5 : Hid (R = ((hashA lk).bind fun x0 => hsP 1 99 (splice fk 67 (bv x0.1) 32) x0.2).bind fun y => some (y.1, [], y.2)) := hide hQ
          clear hQ hR hC hK hN
          have na := rna_hash b
          have mt := rmt_hash b
          have hmf := mkF
          go_wp2_with fail
          refine wp_region_drew_tail 9 (by kernel_rfl) (by kernel_rfl) ?_
          simp only [List.take_succ_cons, List.take_zero, List.drop_succ_cons, List.drop_zero]
          iterate 9 (go_big_quiet_step (fail))
          refine wpQuiet_nil ?_
          intro _ hw'
          obtain ⟨nq, rfl⟩ := hw'
          clear na
          generalize hwq : World.drewN wr nq = wq
          have HR5 : Hid (Rd wq b lk) := hide (by rw [← hwq]; exact Has.drewN HR5.out nq)
          have HC5 : Hid (Has wq c 40 (fk) 176) := hide (by rw [← hwq]; exact HC5.out.drewN nq)
          have HK5 : Hid (Kp b c w wq) := hide (by rw [← hwq]; exact ⟨HK5.out.os, HK5.out.tape, HK5.out.output, HK5.out.size, HK5.out.block⟩)
          have hB5 : B ≤ wq.heap.size := by rw [← hwq]; exact hB5
          have HE5 : Hid (Env E B F wq) := hide (by rw [← hwq]; exact HE5.out.below ⟨rfl, rfl, rfl, Nat.le_refl _, fun _ _ => rfl⟩)
          clear hwq
          go_wp2_with fail
          clear mt hmf
          refine (hash_any b c 67 176 _ (fk) lk _ HR5.out HC5.out (by omega) hbc hl5).mono ?_
          rintro e w6 ⟨k, ⟨h6, r6, hA, rfl, hR, hC⟩ | ⟨hA, rfl⟩⟩
          case inr =>
            have HQn : Hid (R = none) := hide (by rw [HQ5.out, hA]; rfl)
            have HKn := hide (HK5.out.trans k)
            clear hA k
            go_wp2
            exact ⟨rfl, HKn.out, .inr ⟨HQn.out, rfl⟩⟩
          have HQ6 : Hid (R = (hsP (1) (99) (splice fk 67 (bv h6) 32) r6).bind fun y => some (y.1, [], y.2)) := hide (by rw [HQ5.out, hA]; rfl)
          have hl6 : r6.length ≤ 70000 := by have := hashA_len hA; omega
          have hB6 : B ≤ w6.heap.size := Nat.le_trans hB5 k.size
          have HE6 := hide (HE5.out.below (k.below hB5 hb hc))
          have HK6 : Hid (Kp b c w w6) := hide (HK5.out.trans k)
          have HR6 : Hid (Rd w6 b r6) := hide hR
          have HC6 : Hid (Has w6 c 40 (splice (fk) 67 (bv h6) 32) 176) := hide hC
          clear hA k hR hC
          have HNl : Hid ((splice (fk) 67 (bv h6) 32) 173 = .slice none 0 0) := hide HNl.out
          go_wp2
          refine ⟨⟨1, by omega, by go_num, _, _, hl6, HQ6.out, HR6.out, HC6.out, HK6.out, HNl.out⟩, ?_⟩
          simp [Lib.intOf]
        · have HQ5 : Hid (R = ((hashA lk).bind fun x0 => hsP 0 131 (splice fk 99 (bv x0.1) 32) x0.2).bind fun y => some (y.1, [], y.2)) := hide hQ
          clear hQ hR hC hK hN
          have na := rna_hash b
          have mt := rmt_hash b
          have hmf := mkF
          go_wp2_with fail
          refine wp_region_drew_tail 9 (by kernel_rfl) (by kernel_rfl) ?_
          simp only [List.take_succ_cons, List.take_zero, List.drop_succ_cons, List.drop_zero]
          iterate 9 (go_big_quiet_step (fail))
          refine wpQuiet_nil ?_
          intro _ hw'
          obtain ⟨nq, rfl⟩ := hw'
          clear na
          generalize hwq : World.drewN wr nq = wq
          have HR5 : Hid (Rd wq b lk) := hide (by rw [← hwq]; exact Has.drewN HR5.out nq)
          have HC5 : Hid (Has wq c 40 (fk) 176) := hide (by rw [← hwq]; exact HC5.out.drewN nq)
          have HK5 : Hid (Kp b c w wq) := hide (by rw [← hwq]; exact ⟨HK5.out.os, HK5.out.tape, HK5.out.output, HK5.out.size, HK5.out.block⟩)
          have hB5 : B ≤ wq.heap.size := by rw [← hwq]; exact hB5
          have HE5 : Hid (Env E B F wq) := hide (by rw [← hwq]; exact HE5.out.below ⟨rfl, rfl, rfl, Nat.le_refl _, fun _ _ => rfl⟩)
          clear hwq
          go_wp2_with fail
          clear mt hmf
          refine (hash_any b c 99 176 _ (fk) lk _ HR5.out HC5.out (by omega) hbc hl5).mono ?_
          rintro e w6 ⟨k, ⟨h6, r6, hA, rfl, hR, hC⟩ | ⟨hA, rfl⟩⟩
          case inr =>
            have HQn : Hid (R = none) := hide (by rw [HQ5.out, hA]; rfl)
            have HKn := hide (HK5.out.trans k)
            clear hA k
            go_wp2
            exact ⟨rfl, HKn.out, .inr ⟨HQn.out, rfl⟩⟩
          have HQ6 : Hid (R = (hsP (0) (131) (splice fk 99 (bv h6) 32) r6).bind fun y => some (y.1, [], y.2)) := hide (by rw [HQ5.out, hA]; rfl)
          have hl6 : r6.length ≤ 70000 := by have := hashA_len hA; omega
          have hB6 : B ≤ w6.heap.size := Nat.le_trans hB5 k.size
          have HE6 := hide (HE5.out.below (k.below hB5 hb hc))
          have HK6 : Hid (Kp b c w w6) := hide (HK5.out.trans k)
          have HR6 : Hid (Rd w6 b r6) := hide hR
          have HC6 : Hid (Has w6 c 40 (splice (fk) 99 (bv h6) 32) 176) := hide hC
          clear hA k hR hC
          have HNl : Hid ((splice (fk) 99 (bv h6) 32) 173 = .slice none 0 0) := hide HNl.out
          go_wp2
          refine ⟨⟨2, by omega, by go_num, _, _, hl6, HQ6.out, HR6.out, HC6.out, HK6.out, HNl.out⟩, ?_⟩
          simp [Lib.intOf]
        · have HQ5 : Hid (R = some (fk, [], lk)) := hide (by rw [h2] at hQ; exact hQ)
          have hdk : decide ((k : Int) < 2) = false := decide_eq_false (by omega)
          clear hQ hR hC hK hN h2 hk
          go_wp2
          go_end0
          first | exact ⟨HK5.out, .inl ⟨_, _, _, _, HQ5.out, rfl, HR5.out, HC5.out.congr _ (nil173 HNl.out), OwnF.nil _ _⟩⟩ | exact ⟨HK5.out, .inl ⟨_, _, _, HQ5.out, rfl, HR5.out, _, HC5.out.congr _ (nil173 HNl.out), OwnF.nil _ _⟩⟩
end Go.Proofs.YtepgoehpjafbhaaGreatDoor
