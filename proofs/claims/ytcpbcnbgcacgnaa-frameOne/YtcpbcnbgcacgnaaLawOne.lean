/-
  FrameOne.
-/
import Derived.Test.YtcpbcnbgcacgnaaFMore
namespace Go.Proofs.Ytcpbcnbgcacgnaa
open Go.RowKit C
set_option linter.unusedVariables false
set_option maxHeartbeats 2000000 in
theorem frameOne_walk (b : ByteArray) (at_ n : Int) (w : World) (hn : n < 9223372036854775808) (hb : b.size ≤ maxLen) : Calls Try.prog 3 #[.string b, .int .i64 at_, .int .i64 n] w fun e w' => e = .returned (.bool true) ∧ Below w.heap.size w w' := by
  have na := fun w => next_any b at_ n w hn
  have HN := hide hn
  unfold maxLen at hb
  have HB := hide hb
  rcases next_cases b at_ n with ⟨h0, h1⟩ | ⟨h0, h1⟩ | ⟨k, p, rfl, hk, hw, h1⟩
  · rw [nx_of h1 nil8 rfl 0 rfl] at na
    have NA := hide na
    clear na h1 hn hb
    subst h0
    go_enter Try.func3, Try.ntmps3
    go_wp2_with fail
    refine (first_any _).mono ?_
    rintro e w1 ⟨rfl, hb1⟩
    go_wp2_with fail
    refine (NA.out _).mono ?_
    rintro e w2 ⟨rfl, hb2⟩
    have q : (nil8.toList == []) = true := by decide +kernel
    go_wp2
    go_ret
    exact ⟨rfl, hb1.trans (hb2.mono hb1.size)⟩
  · rw [nx_of h1 nil8 rfl 0 rfl] at na
    have NA := hide na
    have q0 : (at_ == (b.size : Int)) = false := beq_eq_false_iff_ne.2 h0
    clear na h1 hn hb h0
    go_enter Try.func3, Try.ntmps3
    go_wp2_with fail
    refine (first_any _).mono ?_
    rintro e w1 ⟨rfl, hb1⟩
    go_wp2_with fail
    refine (NA.out _).mono ?_
    rintro e w2 ⟨rfl, hb2⟩
    have q : (nil8.toList == []) = true := by decide +kernel
    go_wp2
    go_ret
    exact ⟨rfl, hb1.trans (hb2.mono hb1.size)⟩
  · obtain ⟨m, rfl⟩ := Int.eq_ofNat_of_zero_le hw.1
    obtain ⟨P, hP⟩ : ∃ P : ByteArray, P = ⟨p.toArray⟩ := ⟨_, rfl⟩
    obtain ⟨r, hr⟩ : ∃ r : Nat, r = room p.length := ⟨_, rfl⟩
    rw [nx_of h1 P hP (r : Int) (by rw [hr])] at na
    have NA := hide na
    have hPl : P.data.toList = p := by rw [hP]
    have hPs : P.size ≤ 65536 := by rw [← str_len, hPl]; exact hw.2.2.1
    have fa := fun w => frame_ok m P w (by have := hw.2.1; omega) hPs
    obtain ⟨F, hF⟩ : ∃ F : ByteArray, F = ⟨(frameL m P.data.toList).toArray⟩ := ⟨_, rfl⟩
    rw [← hF] at fa
    have FA := hide fa
    have hlen := hw.len
    rw [List.length_drop, str_len] at hlen
    obtain ⟨j, hj⟩ : ∃ j : Nat, j = k + r := ⟨_, rfl⟩
    have hadd : wrap64 ((k : Int) + (r : Int)) = (j : Int) := by unfold wrap64; omega
    have hjl : j ≤ b.size := by omega
    have heq : (F.toList == (b.extract k j).toList) = true := by
      rw [beq_iff_eq, toList_inj]
      apply ByteArray.ext
      apply Array.ext'
      rw [hj, ext_mid, hF, hPl, hr]
      have := hw.split
      rw [Int.toNat_natCast] at this
      rw [this, List.take_left' (frameL_length _ _)]
    have g0 : (0 : Int) ≤ (k : Int) := by omega
    have g1 : (k : Int) ≤ (j : Int) := by omega
    have g2 : (j : Int) ≤ (b.size : Int) := by omega
    have g3 : (0 : Int) ≤ (m : Int) := by omega
    have d1 : decide ((j : Int) ≤ (b.size : Int)) = true := decide_eq_true g2
    have d2 : decide ((P.size : Int) ≤ 65536) = true := decide_eq_true (by omega)
    have d3 : decide ((m : Int) ≥ 0) = true := decide_eq_true (by omega)
    have d4 : decide ((k : Int) ≥ 0) = true := decide_eq_true (by omega)
    have d5 : decide ((0 : Int) ≤ (m : Int)) = true := decide_eq_true (by omega)
    have d6 : decide ((0 : Int) ≤ (k : Int)) = true := decide_eq_true (by omega)
    have d7 : decide (j ≤ b.size) = true := decide_eq_true hjl
    have d8 : decide (P.size ≤ 65536) = true := decide_eq_true hPs
    clear na fa hF hP hPl hn hb hlen hw h1 hj hr hk hjl hPs
    go_enter Try.func3, Try.ntmps3
    go_wp2_with fail
    refine (first_any _).mono ?_
    rintro e w1 ⟨rfl, hb1⟩
    go_wp2_with fail
    refine (NA.out _).mono ?_
    rintro e w2 ⟨rfl, hb2⟩
    go_wp2_with fail
    refine (FA.out _).mono ?_
    rintro e w3 ⟨rfl, hb3⟩
    go_wp2
    go_ret
    exact ⟨rfl, (hb1.trans (hb2.mono hb1.size)).trans (hb3.mono (Nat.le_trans hb1.size hb2.size))⟩
end Go.Proofs.Ytcpbcnbgcacgnaa
