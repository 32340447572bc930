/-
  The walk of AmountBack.
-/
import Derived.Test.YtfcbpphdgghakaaAFirst
namespace Go.Proofs.Ytfcbpphdgghakaa
open Go.RowKit
set_option linter.unusedVariables false
theorem plusA_comm (a b : Int) : plusA a b = plusA b a := by
  unfold plusA
  rw [Int.add_comm b a]
  by_cases h : isA a = true ∧ isA b = true ∧ isA (a + b) = true
  · rw [if_pos h, if_pos ⟨h.2.1, h.1, h.2.2⟩]
  · rw [if_neg h, if_neg (fun k => h ⟨k.2.1, k.1, k.2.2⟩)]
theorem plusA_ok {a b : Int} (h : isA a = true ∧ isA b = true ∧ isA (a + b) = true) : plusA a b = (a + b, 0) := by unfold plusA; rw [if_pos h]
theorem plusA_no {a b : Int} (h : ¬ (isA a = true ∧ isA b = true ∧ isA (a + b) = true)) : plusA a b = (0, 80) := by unfold plusA; rw [if_neg h]
theorem minusA_ok {a b : Int} (h : isA a = true ∧ isA b = true ∧ b ≤ a) : minusA a b = (a - b, 0) := by unfold minusA; rw [if_pos h]
theorem minusA_no {a b : Int} (h : ¬ (isA a = true ∧ isA b = true ∧ b ≤ a)) : minusA a b = (0, 80) := by unfold minusA; rw [if_neg h]
set_option maxRecDepth 100000 in
set_option maxHeartbeats 1000000 in
theorem back_11 (a b : Int) (HC : Hid (plusA b a = plusA a b)) (s : Int) (HP : Hid (plusA a b = (s, 0))) (HM1 : Hid (minusA s b = (a, 0))) (HM2 : Hid (minusA s a = (b, 0))) (e1 : decide (s < a) = false) (e2 : decide (s < b) = false) (e3 : decide (1152921504606846976 < s) = false) (e4 : decide (a < 0) = false) (e5 : decide (b < 0) = false) (z : Int) (HM : Hid (minusA a b = (z, 0))) (HQ : Hid (plusA z b = (a, 0))) (q1 : decide (0 ≤ z) = true) (q2 : decide (z ≤ a) = true) (w : World) :
    Calls Try.prog 3 #[.int .i64 a, .int .i64 b] w fun e w' => e = .returned (.bool true) ∧ Below w.heap.size w w' := by
  go_enter Try.func3, Try.ntmps3
  go_wp2_with fail
  refine (first_any _).mono ?_
  rintro e v1 ⟨rfl, hb⟩
  have HB := hide hb
  clear hb
  go_wp2_with fail
  refine (plus_any _ _ _).mono ?_
  rintro e v2 ⟨rfl, rfl⟩
  go_wp2_with fail
  refine (plus_any _ _ _).mono ?_
  rintro e v2 ⟨rfl, rfl⟩
  rw [HC.out, HP.out]
  go_wp2_with fail
  refine (minus_any _ _ _).mono ?_
  rintro e v2 ⟨rfl, rfl⟩
  rw [HM1.out]
  go_wp2_with fail
  refine (minus_any _ _ _).mono ?_
  rintro e v2 ⟨rfl, rfl⟩
  rw [HM2.out]
  go_wp2_with fail
  refine (minus_any _ _ _).mono ?_
  rintro e v2 ⟨rfl, rfl⟩
  rw [HM.out]
  go_wp2_with fail
  refine (plus_any _ _ _).mono ?_
  rintro e v2 ⟨rfl, rfl⟩
  rw [HQ.out]
  go_wp2
  go_ret
  exact ⟨by simp, HB.out⟩
set_option maxRecDepth 100000 in
set_option maxHeartbeats 1000000 in
theorem back_10 (a b : Int) (HC : Hid (plusA b a = plusA a b)) (s : Int) (HP : Hid (plusA a b = (s, 0))) (HM1 : Hid (minusA s b = (a, 0))) (HM2 : Hid (minusA s a = (b, 0))) (e1 : decide (s < a) = false) (e2 : decide (s < b) = false) (e3 : decide (1152921504606846976 < s) = false) (e4 : decide (a < 0) = false) (e5 : decide (b < 0) = false) (HM : Hid (minusA a b = (0, 80))) (d0 : decide (a < b) = true) (w : World) :
    Calls Try.prog 3 #[.int .i64 a, .int .i64 b] w fun e w' => e = .returned (.bool true) ∧ Below w.heap.size w w' := by
  go_enter Try.func3, Try.ntmps3
  go_wp2_with fail
  refine (first_any _).mono ?_
  rintro e v1 ⟨rfl, hb⟩
  have HB := hide hb
  clear hb
  go_wp2_with fail
  refine (plus_any _ _ _).mono ?_
  rintro e v2 ⟨rfl, rfl⟩
  go_wp2_with fail
  refine (plus_any _ _ _).mono ?_
  rintro e v2 ⟨rfl, rfl⟩
  rw [HC.out, HP.out]
  go_wp2_with fail
  refine (minus_any _ _ _).mono ?_
  rintro e v2 ⟨rfl, rfl⟩
  rw [HM1.out]
  go_wp2_with fail
  refine (minus_any _ _ _).mono ?_
  rintro e v2 ⟨rfl, rfl⟩
  rw [HM2.out]
  go_wp2_with fail
  refine (minus_any _ _ _).mono ?_
  rintro e v2 ⟨rfl, rfl⟩
  rw [HM.out]
  go_wp2
  go_ret
  exact ⟨by simp, HB.out⟩
set_option maxRecDepth 100000 in
set_option maxHeartbeats 1000000 in
theorem back_01 (a b : Int) (HC : Hid (plusA b a = plusA a b)) (HP : Hid (plusA a b = (0, 80))) (z : Int) (HM : Hid (minusA a b = (z, 0))) (HQ : Hid (plusA z b = (a, 0))) (q1 : decide (0 ≤ z) = true) (q2 : decide (z ≤ a) = true) (w : World) :
    Calls Try.prog 3 #[.int .i64 a, .int .i64 b] w fun e w' => e = .returned (.bool true) ∧ Below w.heap.size w w' := by
  go_enter Try.func3, Try.ntmps3
  go_wp2_with fail
  refine (first_any _).mono ?_
  rintro e v1 ⟨rfl, hb⟩
  have HB := hide hb
  clear hb
  go_wp2_with fail
  refine (plus_any _ _ _).mono ?_
  rintro e v2 ⟨rfl, rfl⟩
  go_wp2_with fail
  refine (plus_any _ _ _).mono ?_
  rintro e v2 ⟨rfl, rfl⟩
  rw [HC.out, HP.out]
  go_wp2_with fail
  refine (minus_any _ _ _).mono ?_
  rintro e v2 ⟨rfl, rfl⟩
  rw [HM.out]
  go_wp2_with fail
  refine (plus_any _ _ _).mono ?_
  rintro e v2 ⟨rfl, rfl⟩
  rw [HQ.out]
  go_wp2
  go_ret
  exact ⟨by simp, HB.out⟩
set_option maxRecDepth 100000 in
set_option maxHeartbeats 1000000 in
theorem back_00 (a b : Int) (HC : Hid (plusA b a = plusA a b)) (HP : Hid (plusA a b = (0, 80))) (HM : Hid (minusA a b = (0, 80))) (HN : Hid (¬ (isA a = true ∧ isA b = true ∧ b ≤ a))) (w : World) :
    Calls Try.prog 3 #[.int .i64 a, .int .i64 b] w fun e w' => e = .returned (.bool true) ∧ Below w.heap.size w w' := by
  go_enter Try.func3, Try.ntmps3
  go_wp2_with fail
  refine (first_any _).mono ?_
  rintro e v1 ⟨rfl, hb⟩
  have HB := hide hb
  clear hb
  go_wp2_with fail
  refine (plus_any _ _ _).mono ?_
  rintro e v2 ⟨rfl, rfl⟩
  go_wp2_with fail
  refine (plus_any _ _ _).mono ?_
  rintro e v2 ⟨rfl, rfl⟩
  rw [HC.out, HP.out]
  go_wp2_with fail
  refine (minus_any _ _ _).mono ?_
  rintro e v2 ⟨rfl, rfl⟩
  rw [HM.out]
  by_cases k0 : a < b
  · have d0 : decide (a < b) = true := decide_eq_true k0
    clear k0 HN
    go_wp2
    go_ret
    exact ⟨by simp, HB.out⟩
  have d0 : decide (a < b) = false := decide_eq_false k0
  by_cases k1 : a < 0
  · have d1 : decide (a < 0) = true := decide_eq_true k1
    clear k1 HN
    go_wp2
    go_ret
    exact ⟨by simp, HB.out⟩
  have d1 : decide (a < 0) = false := decide_eq_false k1
  by_cases k2 : b < 0
  · have d2 : decide (b < 0) = true := decide_eq_true k2
    clear k2 HN
    go_wp2
    go_ret
    exact ⟨by simp, HB.out⟩
  have d2 : decide (b < 0) = false := decide_eq_false k2
  by_cases k3 : 1152921504606846976 < a
  · have d3 : decide (1152921504606846976 < a) = true := decide_eq_true k3
    clear k3 HN
    go_wp2
    go_ret
    exact ⟨by simp, HB.out⟩
  have d3 : decide (1152921504606846976 < a) = false := decide_eq_false k3
  have d4 : decide (1152921504606846976 < b) = true := decide_eq_true (by
    have hn := HN.out; simp only [isA_iff] at hn; omega)
  clear k0 k1 k2 k3 HN
  go_wp2
  go_ret
  exact ⟨by simp, HB.out⟩
theorem amountBack_walk (a b : Int) (w0 : (Lit.int .i64 a).wf = true) (w1 : (Lit.int .i64 b).wf = true) (w : World) :
    Calls Try.prog 3 #[.int .i64 a, .int .i64 b] w fun e w' => e = .returned (.bool true) ∧ Below w.heap.size w w' := by
  have HC := hide (plusA_comm b a)
  by_cases hp : isA a = true ∧ isA b = true ∧ isA (a + b) = true
  · have HP := hide (plusA_ok hp)
    have ha := (isA_iff _).1 hp.1
    have hb := (isA_iff _).1 hp.2.1
    have hc := (isA_iff _).1 hp.2.2
    have HM1 : Hid (minusA (a + b) b = (a, 0)) := hide (by rw [minusA_ok ⟨hp.2.2, hp.2.1, by omega⟩, Int.add_sub_cancel])
    have HM2 : Hid (minusA (a + b) a = (b, 0)) := hide (by rw [minusA_ok ⟨hp.2.2, hp.1, by omega⟩, show a + b - a = b from by omega])
    by_cases hm : isA a = true ∧ isA b = true ∧ b ≤ a
    · exact back_11 a b HC (a + b) HP HM1 HM2 (by simp; omega) (by simp; omega) (by simp; omega) (by simp; omega) (by simp; omega) (a - b) (hide (minusA_ok hm)) (hide (by rw [plusA_ok ⟨(isA_iff _).2 (by omega), hp.2.1, by rw [Int.sub_add_cancel]; exact hp.1⟩, Int.sub_add_cancel])) (by simp; omega) (by simp; omega) w
    · exact back_10 a b HC (a + b) HP HM1 HM2 (by simp; omega) (by simp; omega) (by simp; omega) (by simp; omega) (by simp; omega) (hide (minusA_no hm)) (by simp; exact Int.not_le.1 (fun h => hm ⟨hp.1, hp.2.1, h⟩)) w
  · have HP := hide (plusA_no hp)
    by_cases hm : isA a = true ∧ isA b = true ∧ b ≤ a
    · have ha := (isA_iff _).1 hm.1
      have hb := (isA_iff _).1 hm.2.1
      exact back_01 a b HC HP (a - b) (hide (minusA_ok hm)) (hide (by rw [plusA_ok ⟨(isA_iff _).2 (by omega), hm.2.1, by rw [Int.sub_add_cancel]; exact hm.1⟩, Int.sub_add_cancel])) (by simp; omega) (by simp; omega) w
    · exact back_00 a b HC HP (hide (minusA_no hm)) (hide hm) w
end Go.Proofs.Ytfcbpphdgghakaa
