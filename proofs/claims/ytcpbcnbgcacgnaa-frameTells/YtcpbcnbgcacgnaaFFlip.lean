/-
  A frame with one byte turned is none.
-/
import Derived.Test.YtcpbcnbgcacgnaaLawBack
namespace Go.Proofs.Ytcpbcnbgcacgnaa
open Go.RowKit C
set_option linter.unusedVariables false
theorem set_take_drop {α : Type} (l : List α) (k : Nat) (x : α) (h : k < l.length) : l.set k x = l.take k ++ [x] ++ l.drop (k + 1) := by
  rw [List.set_eq_take_append_cons_drop, if_pos h]; simp
theorem self_take_drop {α : Type} (l : List α) (k : Nat) (h : k < l.length) : l = l.take k ++ [l[k]] ++ l.drop (k + 1) := by
  have : l.set k l[k] = l := by simp
  rw [← set_take_drop l k l[k] h, this]
theorem assoc4 {α : Type} (A a b c : List α) : (A ++ a) ++ b ++ c = A ++ (a ++ b ++ c) := by simp only [List.append_assoc]
theorem sum_bits {n : Nat} {p q : List UInt8} (h : nb (sumL n p) 4 = nb (sumL n q) 4) : on 0#32 (nb p.length 4 ++ nb n 8 ++ p) = on 0#32 (nb q.length 4 ++ nb n 8 ++ q) :=
  BitVec.eq_of_toNat_eq (nb_inj h (sumL_lt _ _) (sumL_lt _ _))
theorem flip_none (n : Nat) (p rest : List UInt8) (j : Nat) (x : UInt8) (hp : p.length ≤ 65536) (hn : n < 9223372036854775808) (h4 : 4 ≤ j) (hj : j < (frameL n p).length) (hx : x ≠ (frameL n p)[j]) : wholeT ((frameL n p).set j x ++ rest) n = none := by
  rw [wholeT_none]
  intro q hq
  have hr := room_ge p.length
  have hFl := frameL_length n p
  obtain ⟨a1, a2, a3, a4, a5⟩ := frame_head (List.prefix_rfl : frameL n p <+: frameL n p)
  obtain ⟨b1, _, b3, b4, b5⟩ := frame_head hq.2.2.2
  have hsl : ((frameL n p).set j x).length = (frameL n p).length := List.length_set
  -- the length
  have hlen : q.length = p.length := by
    have e : ((frameL n p).set j x ++ rest).take 4 = (frameL n p).take 4 := by
      rw [List.take_append_of_le_length (by rw [hsl, hFl]; omega), List.take_set, List.set_eq_of_length_le (by rw [List.length_take]; omega)]
    rw [e, a1] at b1
    exact (nb_inj b1 (by omega) (by have := hq.2.2.1; omega)).symm
  have e4 : (((frameL n p).set j x ++ rest).drop 16).take p.length = (((frameL n p).set j x).drop 16).take p.length := by
    rw [List.drop_append_of_le_length (by rw [hsl, hFl]; omega), List.take_append_of_le_length (by rw [List.length_drop, hsl, hFl]; omega)]
  rw [hlen, e4] at b4
  have hsame : frameL n q = (frameL n p).set j x := by
    have h1 := hq.2.2.2
    rw [Int.toNat_natCast] at h1
    have h2 : frameL n q <+: (frameL n p).set j x := List.prefix_of_prefix_length_le h1 (List.prefix_append _ _) (by rw [hsl, frameL_length, frameL_length, hlen]; omega)
    exact h2.eq_of_length (by rw [hsl, frameL_length, frameL_length, hlen])
  have hne : q ≠ p := by
    intro e
    rw [e] at hsame
    apply hx
    have := congrArg (fun l => l[j]?) hsame
    simp only [List.getElem?_set_self hj] at this
    rw [List.getElem?_eq_getElem hj] at this
    exact (Option.some.inj this).symm
  by_cases hj16 : j < 16
  · rw [List.drop_set, if_pos hj16, a4] at b4
    exact hne b4.symm
  · rw [List.drop_set, if_neg hj16, List.take_set, a4] at b4
    by_cases hjp : j - 16 < p.length
    · have e3 : (((frameL n p).set j x ++ rest).drop 12).take 4 = ((frameL n p).drop 12).take 4 := by
        rw [List.drop_append_of_le_length (by rw [hsl, hFl]; omega), List.take_append_of_le_length (by rw [List.length_drop, hsl, hFl]; omega), List.drop_set, if_neg (by omega), List.take_set, List.set_eq_of_length_le (by rw [List.length_take]; omega)]
      rw [e3, a3, Int.toNat_natCast] at b3
      have hs := sum_bits b3
      rw [hlen] at hs
      have eq1 := self_take_drop p (j - 16) hjp
      have eq2 := set_take_drop p (j - 16) x hjp
      have hs2 : on 0#32 ((nb p.length 4 ++ nb n 8 ++ p.take (j - 16)) ++ [p[j - 16]] ++ p.drop (j - 16 + 1)) = on 0#32 ((nb p.length 4 ++ nb n 8 ++ p.take (j - 16)) ++ [x] ++ p.drop (j - 16 + 1)) := by
        have r1 : (nb p.length 4 ++ nb n 8 ++ p.take (j - 16)) ++ [p[j - 16]] ++ p.drop (j - 16 + 1) = nb p.length 4 ++ nb n 8 ++ p := by
          rw [assoc4, ← eq1]
        have r2 : (nb p.length 4 ++ nb n 8 ++ p.take (j - 16)) ++ [x] ++ p.drop (j - 16 + 1) = nb p.length 4 ++ nb n 8 ++ q := by
          rw [← b4, eq2, assoc4]
        rw [r1, r2]
        exact hs
      have := tells _ [p[j - 16]] [x] _ rfl (by show 1 ≤ 4; decide) hs2
      apply hne
      rw [← b4, eq2, ← this]
      exact eq1.symm
    · rw [List.set_eq_of_length_le (by omega)] at b4
      exact hne b4.symm
/-- Frames one behind the other, one byte turned: how the text lies. -/
theorem flip_text (m : Nat) (ow : List Key) (wh : Nat) (h : wh < ow.length) (j : Nat) (hj : j < room ow[wh].length) (x : UInt8) :
    (joinF m ow).set (joinLen (ow.take wh) + j) x = joinF m (ow.take wh) ++ ((frameL (m + wh) ow[wh]).set j x ++ joinF (m + wh + 1) (ow.drop (wh + 1))) := by
  have hlK : (ow.take wh).length = wh := by rw [List.length_take]; omega
  have e0 : ow = ow.take wh ++ (ow[wh] :: ow.drop (wh + 1)) := by rw [← List.drop_eq_getElem_cons h, List.take_append_drop]
  have e1 : joinF m ow = joinF m (ow.take wh) ++ (frameL (m + wh) ow[wh] ++ joinF (m + wh + 1) (ow.drop (wh + 1))) := by
    conv => lhs; rw [e0]
    rw [joinF_append, hlK]
    rfl
  rw [e1, List.set_append_right _ _ (by rw [joinF_length]; omega), joinF_length, Nat.add_sub_cancel_left, List.set_append_left _ _ (by rw [frameL_length]; exact hj)]
theorem flip_old (m : Nat) (ow : List Key) (wh : Nat) (h : wh < ow.length) (j : Nat) (hj : j < room ow[wh].length) :
    (joinF m ow)[joinLen (ow.take wh) + j]? = (frameL (m + wh) ow[wh])[j]? := by
  have hlK : (ow.take wh).length = wh := by rw [List.length_take]; omega
  have e0 : ow = ow.take wh ++ (ow[wh] :: ow.drop (wh + 1)) := by rw [← List.drop_eq_getElem_cons h, List.take_append_drop]
  have e1 : joinF m ow = joinF m (ow.take wh) ++ (frameL (m + wh) ow[wh] ++ joinF (m + wh + 1) (ow.drop (wh + 1))) := by
    conv => lhs; rw [e0]
    rw [joinF_append, hlK]
    rfl
  rw [e1, List.getElem?_append_right (by rw [joinF_length]; omega), joinF_length, Nat.add_sub_cancel_left, List.getElem?_append_left (by rw [frameL_length]; exact hj)]
end Go.Proofs.Ytcpbcnbgcacgnaa
