/-
  The walk of CrcFar.
-/
import Derived.Test.YtjlbglinkacdiaaRanges
namespace Go.Proofs.Ytjlbglinkacdiaa
open Go.RowKit C
theorem and62 (x : Int) : 0 ≤ bits .and .i64 x 4611686018427387903 ∧ bits .and .i64 x 4611686018427387903 ≤ 4611686018427387903 := by
  have e : bits .and .i64 x 4611686018427387903 = IntKind.i64.wrap ((BitVec.ofInt 64 x &&& BitVec.ofInt 64 4611686018427387903).toNat : Int) := rfl
  have hle : (BitVec.ofInt 64 x &&& BitVec.ofInt 64 4611686018427387903).toNat ≤ 4611686018427387903 := by
    rw [BitVec.toNat_and]
    refine Nat.le_trans Nat.and_le_right ?_
    decide
  rw [e]
  generalize (BitVec.ofInt 64 x &&& BitVec.ofInt 64 4611686018427387903).toNat = m at hle
  simp [IntKind.wrap, IntKind.bits, IntKind.signed]
  omega
theorem join_zero (n : Num) (a : BitVec 32) (z : Int) (w : World) (hz0 : 0 ≤ z) (hz1 : z ≤ 9223372036854775807) :
    Calls Try.prog 11 #[.int .u32 (n.u a), .int .u32 0, .int .i64 z] w fun e w' => e = .returned (.int .u32 (n.u (stN (8 * z.toNat) a))) ∧ Below w.heap.size w w' := by
  have h := join_any n a 0#32 z w (by omega) hz1
  rw [n.zero, BitVec.xor_zero] at h
  exact h
theorem far_add (a : BitVec 32) (x y : Int) (h0 : 0 ≤ x) (h1 : 0 ≤ y) : stN (8 * y.toNat) (stN (8 * x.toNat) a) = stN (8 * (x + y).toNat) a := by
  rw [← stN_add]; congr 1; omega
set_option maxHeartbeats 400000 in
theorem crcFar_num (n : Num) (a : BitVec 32) (x y : Int) (w : World) :
    Calls Try.prog 6 #[.int .u32 (n.u a), .int .i64 x, .int .i64 y] w fun e w' => e = .returned (.bool true) ∧ Below w.heap.size w w' := by
  go_enter Try.func6, Try.ntmps6
  go_wp2_with fail
  refine (first_any n _).mono ?_
  rintro e w1 ⟨rfl, hb1⟩
  go_wp2_with fail
  have hX := and62 x
  have hY := and62 y
  generalize bits BinOp.and IntKind.i64 x 4611686018427387903 = X at hX ⊢
  generalize bits BinOp.and IntKind.i64 y 4611686018427387903 = Y at hY ⊢
  obtain ⟨hX0, hX1⟩ := hX
  obtain ⟨hY0, hY1⟩ := hY
  refine (join_zero n a X _ (by omega) (by omega)).mono ?_
  rintro e w2 ⟨rfl, hb2⟩
  go_wp2_with fail
  refine (join_zero n _ Y _ (by omega) (by omega)).mono ?_
  rintro e w3 ⟨rfl, hb3⟩
  rw [far_add a X Y hX0 hY0]
  go_wp2_with fail
  refine (join_zero n a Y _ (by omega) (by omega)).mono ?_
  rintro e w4 ⟨rfl, hb4⟩
  go_wp2_with fail
  refine (join_zero n _ X _ (by omega) (by omega)).mono ?_
  rintro e w5 ⟨rfl, hb5⟩
  rw [far_add a Y X hY0 hX0, Int.add_comm Y X]
  go_wp2_with fail
  refine (join_zero n a (X + Y) _ (by omega) (by omega)).mono ?_
  rintro e w6 ⟨rfl, hb6⟩
  have hz : (n.u (stN (8 * (X + Y).toNat) a) == 0) = (n.u a == 0) := by
    rw [Bool.eq_iff_iff, beq_iff_eq, beq_iff_eq, ← n.zero]
    constructor
    · intro h
      have := n.inj _ _ h
      rw [stN_eq_zero _ _ this]
    · intro h
      rw [n.inj _ _ h, stN_zero]
  generalize stN (8 * (X + Y).toNat) a = r at hz ⊢
  go_wp2
  go_ret
  have h2 := hb1.trans (hb2.mono hb1.size)
  have h3 := h2.trans (hb3.mono h2.size)
  have h4 := h3.trans (hb4.mono h3.size)
  have h5 := h4.trans (hb5.mono h4.size)
  exact ⟨by simp, h5.trans (hb6.mono h5.size)⟩
theorem crcFar_walk (a0 : Int) (a1 : Int) (a2 : Int) (w0 : (Lit.int .u32 a0).wf = true) (_w1 : (Lit.int .i64 a1).wf = true) (_w2 : (Lit.int .i64 a2).wf = true) (w : World) :
    Calls Try.prog 6 #[.int .u32 a0, .int .i64 a1, .int .i64 a2] w fun e w' => e = .returned (.bool true) ∧ Below w.heap.size w w' := by
  obtain ⟨h0, h1⟩ := u32_range a0 w0
  rw [num.mk_of a0 h0 h1]
  exact crcFar_num num _ a1 a2 w
end Go.Proofs.Ytjlbglinkacdiaa
