/-
  Numbers that hang on one another: what the statements of layer 9 lean on.
-/
import Derived.Test.YtocojkafdgmgdaaDoorSHead2
namespace Go.Proofs.YtocojkafdgmgdaaDoor
open Go.RowKit S
set_option linter.unusedVariables false
theorem isN_nat {a : Nat} (h : a ≤ 281474976710655) : isN (a : Int) = true := by rw [isN_iff]; omega
theorem level_nat {a : Nat} (h : a ≤ 281474976710655) : levelA (a : Int) = ((lvl (place a) 48 : Int), 0) := by
  unfold levelA; rw [if_pos (isN_nat h), Int.toNat_natCast]
theorem secret_nat {s : Nat → UInt8} {a : Nat} (h : a ≤ 281474976710655) : secretA s (a : Int) = (secretOf step s a, 0) := by
  unfold secretA; rw [if_pos (isN_nat h), Int.toNat_natCast]
theorem place_lt (a : Nat) : place a < 281474976710656 := by unfold place; omega
theorem derive_yes {s : Nat → UInt8} {a c : Nat} (ha : a ≤ 281474976710655) (hc : c ≤ 281474976710655) (h : Hangs (place a) (place c)) : deriveA s (a : Int) (c : Int) = (deriveOf step s a c, 0) := by
  unfold deriveA
  rw [if_pos ⟨isN_nat ha, isN_nat hc⟩, Int.toNat_natCast, Int.toNat_natCast, if_pos ((hangs_div (place_lt a) (place_lt c)).1 h)]
theorem derive_none {s : Nat → UInt8} {a c : Nat} (ha : a ≤ 281474976710655) (hc : c ≤ 281474976710655) (h : ¬ Hangs (place a) (place c)) : deriveA s (a : Int) (c : Int) = (fun _ => 0, 5) := by
  unfold deriveA
  rw [if_pos ⟨isN_nat ha, isN_nat hc⟩, Int.toNat_natCast, Int.toNat_natCast, if_neg (fun k => h ((hangs_div (place_lt a) (place_lt c)).2 k))]
theorem and_mask (x M : Int) (h1 : 1 ≤ M) (h2 : M ≤ 281474976710656) : ∃ m : Nat, bits .and .i64 x (M - 1) = (m : Int) ∧ (m : Int) ≤ M - 1 := by
  obtain ⟨y, hy⟩ : ∃ y : Nat, M - 1 = (y : Int) := ⟨(M - 1).toNat, by omega⟩
  rw [hy]
  have hyl : y < 281474976710656 := by omega
  have e : bits .and .i64 x (y : Int) = IntKind.i64.wrap ((BitVec.ofInt 64 x &&& BitVec.ofInt 64 (y : Int)).toNat : Int) := rfl
  have hle : (BitVec.ofInt 64 x &&& BitVec.ofInt 64 (y : Int)).toNat ≤ y := by
    rw [BitVec.toNat_and]
    refine Nat.le_trans Nat.and_le_right ?_
    rw [BitVec.ofInt_natCast, BitVec.toNat_ofNat]
    exact Nat.mod_le _ _
  refine ⟨(BitVec.ofInt 64 x &&& BitVec.ofInt 64 (y : Int)).toNat, ?_, by omega⟩
  rw [e]
  generalize (BitVec.ofInt 64 x &&& BitVec.ofInt 64 (y : Int)).toNat = m at hle
  rw [IntKind.wrap_i64]
  omega
/-- A number is at least its level's power of two, less one. -/
theorem level_room {a : Nat} (ha : a ≤ 281474976710655) : 2 ^ lvl (place a) 48 ≤ a + 1 := by
  have hm := mod_zero (lvl_zeros 48 (place a))
  have hl := lvl_le 48 (place a)
  obtain ⟨k, hk⟩ : ∃ k, lvl (place a) 48 = k := ⟨_, rfl⟩
  rw [hk] at hm hl ⊢
  have h48 : (281474976710656 : Nat) % 2 ^ k = 0 := by
    rw [show (281474976710656 : Nat) = 2 ^ k * 2 ^ (48 - k) by rw [← Nat.pow_add, show k + (48 - k) = 48 by omega]]
    exact Nat.mul_mod_right _ _
  have hpos : 0 < 2 ^ k := Nat.pow_pos (by omega)
  have he : a + 1 = 281474976710656 - place a := by unfold place; omega
  have hd : (2 ^ k) ∣ (a + 1) := by
    rw [he]
    exact Nat.dvd_sub (Nat.dvd_of_mod_eq_zero h48) (Nat.dvd_of_mod_eq_zero hm)
  exact Nat.le_of_dvd (by omega) hd
/-- A number a little earlier has no higher level. -/
theorem level_near {a b : Nat} (ha : a ≤ 281474976710655) (h1 : b ≤ a) (h2 : a - b < 2 ^ lvl (place a) 48) : lvl (place b) 48 ≤ lvl (place a) 48 := by
  rcases Nat.lt_or_ge (lvl (place a) 48) (lvl (place b) 48) with h | h
  · exfalso
    have hb := mod_zero (lvl_zeros 48 (place b))
    have ha' := mod_zero (lvl_zeros 48 (place a))
    have hl := lvl_le 48 (place b)
    have hone := lvl_one 48 (place a) (by omega)
    obtain ⟨k, hk⟩ : ∃ k, lvl (place a) 48 = k := ⟨_, rfl⟩
    rw [hk] at h h2 ha' hone
    have hz := lvl_zeros 48 (place b) k h
    have hbk : place b % 2 ^ k = 0 := mod_zero (fun i hi => lvl_zeros 48 (place b) i (by omega))
    have e : place b = place a + (a - b) := by unfold place; omega
    have hab : a - b = 0 := by
      have : (place a + (a - b)) % 2 ^ k = a - b := by
        rw [Nat.add_mod, ha', Nat.zero_add, Nat.mod_mod, Nat.mod_eq_of_lt h2]
      rw [← e, hbk] at this
      exact this.symm
    rw [hab, Nat.add_zero] at e
    rw [e, hone] at hz
    cases hz
  · exact h
theorem Hangs.trans {p q r : Nat} (h : Hangs p q) (hl : lvl q 48 ≤ lvl p 48) (k : Hangs q r) : Hangs p r :=
  fun i h1 h2 => (h i h1 h2).trans (k i (by omega) h2)
theorem pow_cast (k : Nat) : ((2 : Int) ^ k) = ((2 ^ k : Nat) : Int) := by norm_cast
theorem pow_range {k : Nat} (h : k ≤ 48) : 1 ≤ (2 : Int) ^ k ∧ (2 : Int) ^ k ≤ 281474976710656 := by
  have h1 : (2 : Nat) ^ k ≤ 2 ^ 48 := Nat.pow_le_pow_right (by omega) h
  have h2 : (2 : Nat) ^ 48 = 281474976710656 := rfl
  have h3 : 0 < (2 : Nat) ^ k := Nat.pow_pos (by omega)
  rw [pow_cast]
  omega
/-- x - y&(1<<level - 1). -/
theorem near_of (a : Nat) (ha : a ≤ 281474976710655) (x M : Int) (hM : (2 : Int) ^ lvl (place a) 48 = M) : ∃ m b : Nat, bits .and .i64 x (M - 1) = (m : Int) ∧ (a : Int) - (m : Int) = (b : Int) ∧ b ≤ a ∧ m ≤ a ∧ Hangs (place a) (place b) ∧ lvl (place b) 48 ≤ lvl (place a) 48 := by
  have hr := pow_range (lvl_le 48 (place a))
  have hroom := level_room ha
  rw [hM] at hr
  obtain ⟨m, h1, h2⟩ := and_mask x M hr.1 hr.2
  have hM' : M = ((2 ^ lvl (place a) 48 : Nat) : Int) := by rw [← hM, pow_cast]
  have hlt : a - (a - m) < 2 ^ lvl (place a) 48 := by omega
  exact ⟨m, a - m, h1, by omega, by omega, by omega, (hangs_near ha (by omega)).2 ⟨by omega, hlt⟩, level_near ha (by omega) hlt⟩
end Go.Proofs.YtocojkafdgmgdaaDoor
