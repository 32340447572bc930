/-
  hangs: P9.4's words by numbers alone.
-/
import Derived.Test.YtfbhalonkcljgaaDoorSLaw
namespace Go.Proofs.YtfbhalonkcljgaaDoor
open Go.RowKit S
set_option linter.unusedVariables false
def nearB (a c : Nat) : Bool := decide (c ≤ a) && decide (a - c < 2 ^ lvl (place a) 48)
theorem pow_wrap {k : Nat} (h : k ≤ 48) : wrap64 ((2 : Int) ^ k) = (2 : Int) ^ k := by
  have h1 : (2 : Nat) ^ k ≤ 2 ^ 48 := Nat.pow_le_pow_right (by omega) h
  have e : ((2 : Int) ^ k) = ((2 ^ k : Nat) : Int) := by norm_cast
  rw [e]
  have h2 : (2 : Nat) ^ 48 = 281474976710656 := rfl
  generalize (2 : Nat) ^ k = m at h1
  unfold wrap64; omega
set_option maxRecDepth 100000 in
set_option maxHeartbeats 1000000 in
theorem hangs_any (a c : Nat) (ha : a ≤ 281474976710655) (hc : c ≤ 281474976710655) (w : World) : Calls Tryd.prog 13 #[.int .i64 (a : Int), .int .i64 (c : Int)] w fun e w' => e = .returned (.bool (nearB a c)) ∧ w' = w := by
  obtain ⟨p, hp⟩ : ∃ p, place a = p := ⟨_, rfl⟩
  have hpa : (281474976710655 : Int) - (a : Int) = (p : Int) := by rw [← hp]; unfold place; omega
  have hpl : p ≤ 281474976710655 := by rw [← hp]; unfold place; omega
  have HP := hide hp
  clear hp
  go_enter Tryd.func13, Tryd.ntmps13
  go_wp2
  go_loopw [5, 6] (fun i q wr => ∃ k : Nat, k ≤ 48 ∧ i = .int .i64 k ∧ q = .int .i64 ((p / 2 ^ k : Nat) : Int) ∧ (∀ i, i < k → p / 2 ^ i % 2 = 0) ∧ wr = w) (fun i q _ => 48 - (intOf i).toNat)
  case atStart => exact ⟨0, by omega, rfl, by congr 1; simp, fun i hi => by omega, rfl⟩
  case round =>
    obtain ⟨k, hk, rfl, rfl, hz, rfl⟩ := hrel
    have HZ := hide hz
    clear hz
    have HEND : Hid (lvl p 48 = k → nearB a c = (decide ((c : Int) ≤ (a : Int)) && decide ((a : Int) - (c : Int) < 2 ^ k))) := hide (fun hl => by
      unfold nearB
      rw [HP.out, hl]
      by_cases h : c ≤ a
      · have e1 : decide ((c : Int) ≤ (a : Int)) = decide (c ≤ a) := by rw [decide_eq_decide]; omega
        have e2 : decide ((a : Int) - (c : Int) < 2 ^ k) = decide (a - c < 2 ^ k) := by
          rw [decide_eq_decide]
          have : ((2 : Int) ^ k) = ((2 ^ k : Nat) : Int) := by norm_cast
          rw [this]; omega
        rw [e1, e2]
      · have e1 : decide ((c : Int) ≤ (a : Int)) = false := by simp; omega
        have e2 : decide (c ≤ a) = false := by simp; omega
        rw [e1, e2]; rfl)
    by_cases hlt : k < 48
    · obtain ⟨m, hm⟩ : ∃ m, p / 2 ^ k = m := ⟨_, rfl⟩
      rw [hm]
      have hd : decide ((k : Int) < 48) = true := by simp; omega
      have hmle : m ≤ 281474976710655 := by rw [← hm]; exact Nat.le_trans (Nat.div_le_self _ _) hpl
      have HM := hide hm
      clear hm
      have e1 : (m : Int).tmod 2 = ((m % 2 : Nat) : Int) := by rw [Int.tmod_eq_emod_of_nonneg (by omega)]; omega
      have hb2 : m % 2 = 0 ∨ m % 2 = 1 := by omega
      rcases hb2 with hb | hb
      · have hi : (m : Int) % 2 = 0 := by omega
        go_wp2
        go_roundw
        case rel =>
          refine ⟨k + 1, by omega, by go_num, ?_, fun i hi' => ?_, by first | rfl | trivial⟩
          · rw [Nat.pow_succ, ← Nat.div_div_eq_div_mul, HM.out]; congr 1
          · by_cases e : i = k
            · rw [e, HM.out]; exact hb
            · exact HZ.out i (by omega)
        case measure => simp [intOf]; omega
      · have hi : (m : Int) % 2 = 1 := by omega
        have HL := hide (lvl_here p 48 k HZ.out hlt (by rw [HM.out]; exact hb))
        have hpw : wrap64 ((2 : Int) ^ k) = (2 : Int) ^ k := pow_wrap hk
        by_cases hca : c ≤ a
        · have q1 : decide ((c : Int) ≤ (a : Int)) = true := by simp; omega
          have q2 : decide (c ≤ a) = true := by simp; omega
          have HE := hide (HEND.out HL.out)
          go_wp2
          go_ret
          exact ⟨by rw [HE.out, q1]; first | rfl | simp, by first | rfl | trivial⟩
        · have q1 : decide ((c : Int) ≤ (a : Int)) = false := by simp; omega
          have q2 : decide (c ≤ a) = false := by simp; omega
          have HE := hide (HEND.out HL.out)
          go_wp2
          go_ret
          exact ⟨by rw [HE.out, q1]; first | rfl | simp, by first | rfl | trivial⟩
    · have hk8 : k = 48 := by omega
      subst hk8
      have hd : decide (((48 : Nat) : Int) < 48) = false := by decide
      have HL := hide (lvl_none p 48 HZ.out)
      obtain ⟨m, hm⟩ : ∃ m, p / 2 ^ 48 = m := ⟨_, rfl⟩
      rw [hm]
      clear hm
      have hpw : wrap64 ((2 : Int) ^ 48) = (2 : Int) ^ 48 := pow_wrap (Nat.le_refl _)
      by_cases hca : c ≤ a
      · have q1 : decide ((c : Int) ≤ (a : Int)) = true := by simp; omega
        have q2 : decide (c ≤ a) = true := by simp; omega
        have HE := hide (HEND.out HL.out)
        go_wp2
        go_ret
        exact ⟨by rw [HE.out, q1]; first | rfl | simp, by first | rfl | trivial⟩
      · have q1 : decide ((c : Int) ≤ (a : Int)) = false := by simp; omega
        have q2 : decide (c ≤ a) = false := by simp; omega
        have HE := hide (HEND.out HL.out)
        go_wp2
        go_ret
        exact ⟨by rw [HE.out, q1]; first | rfl | simp, by first | rfl | trivial⟩
end Go.Proofs.YtfbhalonkcljgaaDoor
