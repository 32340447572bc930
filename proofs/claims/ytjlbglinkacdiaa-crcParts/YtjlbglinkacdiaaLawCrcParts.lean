/-
  The walk of CrcParts.
-/
import Derived.Test.YtjlbglinkacdiaaRanges
namespace Go.Proofs.Ytjlbglinkacdiaa
open Go.RowKit C
theorem join_on (x : BitVec 32) (l : List UInt8) (m : Nat) (h : m = l.length) : stN (8 * (m : Int).toNat) x ^^^ on 0#32 l = on x l := by
  rw [Int.toNat_natCast, h]; exact (on_split x l).symm
theorem join_on2 (x : BitVec 32) (l r : List UInt8) (p q : Nat) (h : p = l.length) (k : q = r.length) : stN (8 * ((p : Int) + (q : Int)).toNat) x ^^^ on 0#32 (l ++ r) = on x (l ++ r) := by
  rw [show ((p : Int) + (q : Int)).toNat = (l ++ r).length from by rw [List.length_append]; omega]; exact (on_split x (l ++ r)).symm
theorem data_append (a b : ByteArray) : (a ++ b).data.toList = a.data.toList ++ b.data.toList := by
  rw [ByteArray.data_append, Array.toList_append]
theorem size_len (a : ByteArray) : a.size = a.data.toList.length := by rw [Array.length_toList]; rfl
theorem size_le (a : ByteArray) (h : a.size ≤ 422212465053696) : a.size ≤ maxLen := by unfold maxLen; omega
theorem on_empty (n : Num) (x : BitVec 32) (w : World) :
    Calls Try.prog 12 #[.int .u32 (n.u x), .string { data := #[] }] w fun e w' => e = .returned (.int .u32 (n.u x)) ∧ Below w.heap.size w w' := by
  have h := on_any n x { data := #[] } w (by decide)
  rw [show (ByteArray.mk #[]).data.toList = [] from rfl, on_nil] at h
  exact h
theorem join_empty (n : Num) (x : BitVec 32) (w : World) :
    Calls Try.prog 11 #[.int .u32 (n.u x), .int .u32 0, .int .i64 0] w fun e w' => e = .returned (.int .u32 (n.u x)) ∧ Below w.heap.size w w' := by
  have h := join_any n x 0#32 0 w (by omega) (by omega)
  rw [n.zero, BitVec.xor_zero] at h
  exact h
set_option maxHeartbeats 800000 in
theorem crcParts_num (n : Num) (a b c : ByteArray) (ha : a.size ≤ 140737488351232) (hb : b.size ≤ 140737488351232) (hc : c.size ≤ 140737488351232) (w : World) :
    Calls Try.prog 3 #[.string a, .string b, .string c] w fun e w' => e = .returned (.bool true) ∧ Below w.heap.size w w' := by
  have sab : (a ++ b).size = a.size + b.size := ByteArray.size_append
  have sbc : (b ++ c).size = b.size + c.size := ByteArray.size_append
  have sabc : (a ++ b ++ c).size = (a ++ b).size + c.size := ByteArray.size_append
  have mabc := size_le (a ++ b ++ c) (by omega)
  have mbc := size_le (b ++ c) (by omega)
  have ma := size_le a (by omega)
  have mb := size_le b (by omega)
  have mc := size_le c (by omega)
  clear sab sbc sabc
  go_enter Try.func3, Try.ntmps3
  go_wp2_with fail
  refine (first_any n _).mono ?_
  rintro e w1 ⟨rfl, hb1⟩
  go_wp2_with fail
  refine (sum_any n (a ++ b ++ c) _ mabc).mono ?_
  rintro e w2 ⟨rfl, hb2⟩
  rw [data_append, data_append, List.append_assoc]
  go_wp2_with fail
  refine (sum_any n a _ ma).mono ?_
  rintro e w3 ⟨rfl, hb3⟩
  go_wp2_with fail
  refine (sum_any n b _ mb).mono ?_
  rintro e w4 ⟨rfl, hb4⟩
  go_wp2_with fail
  refine (sum_any n c _ mc).mono ?_
  rintro e w5 ⟨rfl, hb5⟩
  go_wp2_with fail
  refine (join_any n _ _ _ _ (by omega) (by omega)).mono ?_
  rintro e w6 ⟨rfl, hb6⟩
  rw [join_on _ _ _ (size_len b)]
  go_wp2_with fail
  refine (join_any n _ _ _ _ (by omega) (by omega)).mono ?_
  rintro e w7 ⟨rfl, hb7⟩
  rw [join_on _ _ _ (size_len c), ← on_append, ← on_append]
  go_wp2_with fail
  refine (join_any n _ _ _ _ (by omega) (by omega)).mono ?_
  rintro e w8 ⟨rfl, hb8⟩
  rw [join_on _ _ _ (size_len c), ← on_append]
  go_wp2_with fail
  refine (join_any n _ _ _ _ (by omega) (by omega)).mono ?_
  rintro e w9 ⟨rfl, hb9⟩
  rw [join_on2 _ _ _ _ _ (size_len b) (size_len c), ← on_append]
  go_wp2_with fail
  refine (on_any n _ b _ mb).mono ?_
  rintro e w10 ⟨rfl, hb10⟩
  go_wp2_with fail
  refine (on_any n _ c _ mc).mono ?_
  rintro e w11 ⟨rfl, hb11⟩
  rw [← on_append, ← on_append]
  go_wp2_with fail
  refine (on_any n _ (b ++ c) _ mbc).mono ?_
  rintro e w12 ⟨rfl, hb12⟩
  rw [data_append, ← on_append]
  go_wp2_with fail
  refine (on_empty n _ _).mono ?_
  rintro e w13 ⟨rfl, hb13⟩
  go_wp2_with fail
  refine (join_empty n _ _).mono ?_
  rintro e w14 ⟨rfl, hb14⟩
  go_wp2
  go_ret
  have t2 := hb1.trans (hb2.mono hb1.size)
  have t3 := t2.trans (hb3.mono t2.size)
  have t4 := t3.trans (hb4.mono t3.size)
  have t5 := t4.trans (hb5.mono t4.size)
  have t6 := t5.trans (hb6.mono t5.size)
  have t7 := t6.trans (hb7.mono t6.size)
  have t8 := t7.trans (hb8.mono t7.size)
  have t9 := t8.trans (hb9.mono t8.size)
  have t10 := t9.trans (hb10.mono t9.size)
  have t11 := t10.trans (hb11.mono t10.size)
  have t12 := t11.trans (hb12.mono t11.size)
  have t13 := t12.trans (hb13.mono t12.size)
  exact ⟨by simp, t13.trans (hb14.mono t13.size)⟩
theorem crcParts_walk (a0 : ByteArray) (a1 : ByteArray) (a2 : ByteArray) (w0 : a0.size ≤ 140737488351232) (w1 : a1.size ≤ 140737488351232) (w2 : a2.size ≤ 140737488351232) (w : World) :
    Calls Try.prog 3 #[.string a0, .string a1, .string a2] w fun e w' => e = .returned (.bool true) ∧ Below w.heap.size w w' :=
  crcParts_num num a0 a1 a2 w0 w1 w2 w
end Go.Proofs.Ytjlbglinkacdiaa
