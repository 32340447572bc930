/-
  Amounts: Right, Plus, Minus of the code and of the document.
-/
import Derived.Test.YtfcbpphdgghakaaProg
import Derived.WalkKit
import Derived.ProofKit
import Derived.Below
namespace Go.Proofs.Ytfcbpphdgghakaa
open Go.RowKit
def isA (a : Int) : Bool := decide (0 ≤ a) && decide (a ≤ 1152921504606846976)
def plusA (a b : Int) : Int × Int := if isA a = true ∧ isA b = true ∧ isA (a + b) = true then (a + b, 0) else (0, 80)
def minusA (a b : Int) : Int × Int := if isA a = true ∧ isA b = true ∧ b ≤ a then (a - b, 0) else (0, 80)
theorem isA_iff (a : Int) : isA a = true ↔ 0 ≤ a ∧ a ≤ 1152921504606846976 := by unfold isA; simp
theorem wrap_sum {a b : Int} (ha : isA a = true) (hb : isA b = true) : IntKind.i64.wrap (a + b) = a + b := by
  rw [isA_iff] at ha hb
  rw [IntKind.wrap_i64]; omega
theorem wrap_dif {a b : Int} (ha : isA a = true) (hb : isA b = true) : IntKind.i64.wrap (a - b) = a - b := by
  rw [isA_iff] at ha hb
  rw [IntKind.wrap_i64]; omega
theorem right_any (a : Int) (w : World) :
    Calls Try.prog 13 #[.int .i64 a] w fun e w' => e = .returned (.bool (isA a)) ∧ w' = w := by
  by_cases h : 0 ≤ a
  · have e : isA a = decide (a ≤ 1152921504606846976) := by simp [isA, h]
    rw [e]
    go_enter Try.func13, Try.ntmps13
    go_wp2
    go_ret
    simp
  · have e : isA a = false := by simp [isA, h]
    rw [e]
    go_enter Try.func13, Try.ntmps13
    go_wp2
    go_ret
    simp
theorem rright_any (a : Int) (w : World) :
    Calls Try.prog 14 #[.int .i64 a] w fun e w' => e = .returned (.bool (isA a)) ∧ w' = w := by
  by_cases h : 0 ≤ a
  · have e : isA a = decide (a ≤ 1152921504606846976) := by simp [isA, h]
    rw [e]
    go_enter Try.func14, Try.ntmps14
    go_wp2
    go_ret
    simp
  · have e : isA a = false := by simp [isA, h]
    rw [e]
    go_enter Try.func14, Try.ntmps14
    go_wp2
    go_ret
    simp

theorem plus_any (a b : Int) (w : World) :
    Calls Try.prog 8 #[.int .i64 a, .int .i64 b] w fun e w' => e = .returned (.tuple #[.int .i64 (plusA a b).1, .int .i64 (plusA a b).2]) ∧ w' = w := by
  by_cases ha : isA a = true
  · by_cases hb : isA b = true
    · have hw := wrap_sum ha hb
      by_cases hc : isA (a + b) = true
      · have e : plusA a b = (a + b, 0) := by unfold plusA; rw [if_pos ⟨ha, hb, hc⟩]
        rw [e]
        go_enter Try.func8, Try.ntmps8
        go_wp2_with fail
        refine (right_any _ _).mono ?_
        rintro e w1 ⟨rfl, rfl⟩
        rw [ha]
        go_wp2_with fail
        refine (right_any _ _).mono ?_
        rintro e w1 ⟨rfl, rfl⟩
        rw [hb]
        go_wp2_with fail
        refine (right_any _ _).mono ?_
        rintro e w1 ⟨rfl, rfl⟩
        rw [hc]
        go_wp2
        go_ret2
        simp
      · have e : plusA a b = (0, 80) := by unfold plusA; rw [if_neg (fun h => hc h.2.2)]
        rw [e]
        go_enter Try.func8, Try.ntmps8
        go_wp2_with fail
        refine (right_any _ _).mono ?_
        rintro e w1 ⟨rfl, rfl⟩
        rw [ha]
        go_wp2_with fail
        refine (right_any _ _).mono ?_
        rintro e w1 ⟨rfl, rfl⟩
        rw [hb]
        go_wp2_with fail
        refine (right_any _ _).mono ?_
        rintro e w1 ⟨rfl, rfl⟩
        rw [show isA (a + b) = false from by simpa using hc]
        go_wp2
        go_ret2
        simp
    · have e : plusA a b = (0, 80) := by unfold plusA; rw [if_neg (fun h => hb h.2.1)]
      rw [e]
      go_enter Try.func8, Try.ntmps8
      go_wp2_with fail
      refine (right_any _ _).mono ?_
      rintro e w1 ⟨rfl, rfl⟩
      rw [ha]
      go_wp2_with fail
      refine (right_any _ _).mono ?_
      rintro e w1 ⟨rfl, rfl⟩
      rw [show isA b = false from by simpa using hb]
      go_wp2
      go_ret2
      simp
  · have e : plusA a b = (0, 80) := by unfold plusA; rw [if_neg (fun h => ha h.1)]
    rw [e]
    go_enter Try.func8, Try.ntmps8
    go_wp2_with fail
    refine (right_any _ _).mono ?_
    rintro e w1 ⟨rfl, rfl⟩
    rw [show isA a = false from by simpa using ha]
    go_wp2
    go_ret2
    simp

theorem rplus_any (a b : Int) (w : World) :
    Calls Try.prog 11 #[.int .i64 a, .int .i64 b] w fun e w' => e = .returned (.tuple #[.int .i64 (plusA a b).1, .int .i64 (plusA a b).2]) ∧ w' = w := by
  by_cases ha : isA a = true
  · by_cases hb : isA b = true
    · have hw := wrap_sum ha hb
      by_cases hc : isA (a + b) = true
      · have e : plusA a b = (a + b, 0) := by unfold plusA; rw [if_pos ⟨ha, hb, hc⟩]
        rw [e]
        go_enter Try.func11, Try.ntmps11
        go_wp2_with fail
        refine (rright_any _ _).mono ?_
        rintro e w1 ⟨rfl, rfl⟩
        rw [ha]
        go_wp2_with fail
        refine (rright_any _ _).mono ?_
        rintro e w1 ⟨rfl, rfl⟩
        rw [hb]
        go_wp2_with fail
        refine (rright_any _ _).mono ?_
        rintro e w1 ⟨rfl, rfl⟩
        rw [hc]
        go_wp2
        go_ret2
        simp
      · have e : plusA a b = (0, 80) := by unfold plusA; rw [if_neg (fun h => hc h.2.2)]
        rw [e]
        go_enter Try.func11, Try.ntmps11
        go_wp2_with fail
        refine (rright_any _ _).mono ?_
        rintro e w1 ⟨rfl, rfl⟩
        rw [ha]
        go_wp2_with fail
        refine (rright_any _ _).mono ?_
        rintro e w1 ⟨rfl, rfl⟩
        rw [hb]
        go_wp2_with fail
        refine (rright_any _ _).mono ?_
        rintro e w1 ⟨rfl, rfl⟩
        rw [show isA (a + b) = false from by simpa using hc]
        go_wp2
        go_ret2
        simp
    · have e : plusA a b = (0, 80) := by unfold plusA; rw [if_neg (fun h => hb h.2.1)]
      rw [e]
      go_enter Try.func11, Try.ntmps11
      go_wp2_with fail
      refine (rright_any _ _).mono ?_
      rintro e w1 ⟨rfl, rfl⟩
      rw [ha]
      go_wp2_with fail
      refine (rright_any _ _).mono ?_
      rintro e w1 ⟨rfl, rfl⟩
      rw [show isA b = false from by simpa using hb]
      go_wp2
      go_ret2
      simp
  · have e : plusA a b = (0, 80) := by unfold plusA; rw [if_neg (fun h => ha h.1)]
    rw [e]
    go_enter Try.func11, Try.ntmps11
    go_wp2_with fail
    refine (rright_any _ _).mono ?_
    rintro e w1 ⟨rfl, rfl⟩
    rw [show isA a = false from by simpa using ha]
    go_wp2
    go_ret2
    simp

theorem minus_any (a b : Int) (w : World) :
    Calls Try.prog 9 #[.int .i64 a, .int .i64 b] w fun e w' => e = .returned (.tuple #[.int .i64 (minusA a b).1, .int .i64 (minusA a b).2]) ∧ w' = w := by
  by_cases ha : isA a = true
  · by_cases hb : isA b = true
    · have hw := wrap_dif ha hb
      by_cases hc : b ≤ a
      · have e : minusA a b = (a - b, 0) := by unfold minusA; rw [if_pos ⟨ha, hb, hc⟩]
        rw [e]
        go_enter Try.func9, Try.ntmps9
        go_wp2_with fail
        refine (right_any _ _).mono ?_
        rintro e w1 ⟨rfl, rfl⟩
        rw [ha]
        go_wp2_with fail
        refine (right_any _ _).mono ?_
        rintro e w1 ⟨rfl, rfl⟩
        rw [hb]
        have hg : decide (a < b) = false := by simp; omega
        go_wp2
        go_ret2
        simp
      · have e : minusA a b = (0, 80) := by unfold minusA; rw [if_neg (fun h => hc h.2.2)]
        rw [e]
        go_enter Try.func9, Try.ntmps9
        go_wp2_with fail
        refine (right_any _ _).mono ?_
        rintro e w1 ⟨rfl, rfl⟩
        rw [ha]
        go_wp2_with fail
        refine (right_any _ _).mono ?_
        rintro e w1 ⟨rfl, rfl⟩
        rw [hb]
        have hg : decide (a < b) = true := by simp; omega
        go_wp2
        go_ret2
        simp
    · have e : minusA a b = (0, 80) := by unfold minusA; rw [if_neg (fun h => hb h.2.1)]
      rw [e]
      go_enter Try.func9, Try.ntmps9
      go_wp2_with fail
      refine (right_any _ _).mono ?_
      rintro e w1 ⟨rfl, rfl⟩
      rw [ha]
      go_wp2_with fail
      refine (right_any _ _).mono ?_
      rintro e w1 ⟨rfl, rfl⟩
      rw [show isA b = false from by simpa using hb]
      go_wp2
      go_ret2
      simp
  · have e : minusA a b = (0, 80) := by unfold minusA; rw [if_neg (fun h => ha h.1)]
    rw [e]
    go_enter Try.func9, Try.ntmps9
    go_wp2_with fail
    refine (right_any _ _).mono ?_
    rintro e w1 ⟨rfl, rfl⟩
    rw [show isA a = false from by simpa using ha]
    go_wp2
    go_ret2
    simp

theorem rminus_any (a b : Int) (w : World) :
    Calls Try.prog 12 #[.int .i64 a, .int .i64 b] w fun e w' => e = .returned (.tuple #[.int .i64 (minusA a b).1, .int .i64 (minusA a b).2]) ∧ w' = w := by
  by_cases ha : isA a = true
  · by_cases hb : isA b = true
    · have hw := wrap_dif ha hb
      by_cases hc : b ≤ a
      · have e : minusA a b = (a - b, 0) := by unfold minusA; rw [if_pos ⟨ha, hb, hc⟩]
        rw [e]
        go_enter Try.func12, Try.ntmps12
        go_wp2_with fail
        refine (rright_any _ _).mono ?_
        rintro e w1 ⟨rfl, rfl⟩
        rw [ha]
        go_wp2_with fail
        refine (rright_any _ _).mono ?_
        rintro e w1 ⟨rfl, rfl⟩
        rw [hb]
        have hg : decide (a < b) = false := by simp; omega
        go_wp2
        go_ret2
        simp
      · have e : minusA a b = (0, 80) := by unfold minusA; rw [if_neg (fun h => hc h.2.2)]
        rw [e]
        go_enter Try.func12, Try.ntmps12
        go_wp2_with fail
        refine (rright_any _ _).mono ?_
        rintro e w1 ⟨rfl, rfl⟩
        rw [ha]
        go_wp2_with fail
        refine (rright_any _ _).mono ?_
        rintro e w1 ⟨rfl, rfl⟩
        rw [hb]
        have hg : decide (a < b) = true := by simp; omega
        go_wp2
        go_ret2
        simp
    · have e : minusA a b = (0, 80) := by unfold minusA; rw [if_neg (fun h => hb h.2.1)]
      rw [e]
      go_enter Try.func12, Try.ntmps12
      go_wp2_with fail
      refine (rright_any _ _).mono ?_
      rintro e w1 ⟨rfl, rfl⟩
      rw [ha]
      go_wp2_with fail
      refine (rright_any _ _).mono ?_
      rintro e w1 ⟨rfl, rfl⟩
      rw [show isA b = false from by simpa using hb]
      go_wp2
      go_ret2
      simp
  · have e : minusA a b = (0, 80) := by unfold minusA; rw [if_neg (fun h => ha h.1)]
    rw [e]
    go_enter Try.func12, Try.ntmps12
    go_wp2_with fail
    refine (rright_any _ _).mono ?_
    rintro e w1 ⟨rfl, rfl⟩
    rw [show isA a = false from by simpa using ha]
    go_wp2
    go_ret2
    simp
end Go.Proofs.Ytfcbpphdgghakaa
