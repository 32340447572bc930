/-
  What Next may answer.
-/
import Derived.Test.YtcpbcnbgcacgnaaFFirst
namespace Go.Proofs.Ytcpbcnbgcacgnaa
open Go.RowKit C
set_option linter.unusedVariables false
theorem next_cases (b : ByteArray) (at_ n : Int) : (at_ = (b.size : Int) ∧ nextA b.data.toList at_ n = ([], 0, 0)) ∨ (at_ ≠ (b.size : Int) ∧ nextA b.data.toList at_ n = ([], 0, 2)) ∨
    (∃ (k : Nat) (p : Key), at_ = (k : Int) ∧ k < b.size ∧ Whole n (b.data.toList.drop k) p ∧ nextA b.data.toList at_ n = (p, room p.length, 1)) := by
  by_cases h0 : at_ = (b.size : Int)
  · refine .inl ⟨h0, ?_⟩
    unfold nextA; rw [if_pos (by rw [str_len]; exact h0)]
  · refine .inr ?_
    by_cases hr : at_ < 0 ∨ (b.size : Int) < at_
    · refine .inl ⟨h0, ?_⟩
      unfold nextA; rw [if_neg (by rw [str_len]; exact h0), if_pos (by rw [str_len]; exact hr)]
    · obtain ⟨k, rfl⟩ := Int.eq_ofNat_of_zero_le (show 0 ≤ at_ by omega)
      have e0 : nextA b.data.toList (k : Int) n = match wholeT (b.data.toList.drop k) n with
          | some p => (p, room p.length, 1)
          | none => ([], 0, 2) := by
        unfold nextA
        rw [if_neg (by rw [str_len]; exact h0), if_neg (by rw [str_len]; exact hr)]
        rfl
      cases hw : wholeT (b.data.toList.drop k) n with
      | none => rw [hw] at e0; exact .inl ⟨h0, e0⟩
      | some p => rw [hw] at e0; exact .inr ⟨k, p, rfl, by omega, wholeT_some.1 hw, e0⟩
theorem ext_mid (b : ByteArray) (k r : Nat) : (b.extract k (k + r)).data.toList = (b.data.toList.drop k).take r := by
  rw [ByteArray.data_extract, Array.toList_extract, List.extract, Nat.add_sub_cancel_left]
end Go.Proofs.Ytcpbcnbgcacgnaa
