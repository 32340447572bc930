/-
  Turned words: rot, bits.RotateLeft32; the document's rot.
-/
import Derived.Test.YtagopbdoabhjfaaDoorBits
namespace Go.Proofs.YtagopbdoabhjfaaDoor
open Go.RowKit S
theorem and31_all : ∀ k : Fin 32, 0 < k.val → bits .and .u64 (IntKind.u64.wrap (-(k.val : Int))) 31 = ((32 - k.val : Nat) : Int) := by decide +kernel
attribute [local go_sem] Num.shl Num.shr Num.or
theorem rotl_any (n : Num) (x : BitVec 32) (k : Nat) (hk : 0 < k) (hk2 : k < 32) (w : World) :
    Calls Tryd.prog 85 #[.int .u32 (n.u x), .int .i64 (-(k : Int))] w fun e w' => e = .returned (.int .u32 (n.u (rot k x))) ∧ w' = w := by
  have hx0 := n.nonneg x
  have hx1 := n.lt x
  have hs := and31_all ⟨k, hk2⟩ hk
  simp only [] at hs
  obtain ⟨j, hj⟩ : ∃ j, 32 - k = j := ⟨_, rfl⟩
  rw [hj] at hs
  go_enter Tryd.func85, Tryd.ntmps85
  go_wp2
  go_ret
  refine ⟨ret_int ?_, rfl⟩
  have : (32 : Nat) - j = k := by omega
  rw [this]
  unfold rot; rw [hj, BitVec.or_comm]
theorem rot_any (n : Num) (x : BitVec 32) (k : Nat) (hk : 0 < k) (hk2 : k < 32) (w : World) :
    Calls Tryd.prog 82 #[.int .u32 (n.u x), .int .i64 (k : Int)] w fun e w' => e = .returned (.int .u32 (n.u (rot k x))) ∧ w' = w := by
  go_enter Tryd.func82, Tryd.ntmps82
  go_wp2_with fail
  refine (rotl_any n x k hk hk2 _).mono ?_
  rintro e w1 ⟨rfl, rfl⟩
  go_wp2
  go_ret
  exact ⟨rfl, rfl⟩
theorem refRot_any (n : Num) (x : BitVec 32) (k : Nat) (hk : 0 < k) (hk2 : k < 32) (w : World) :
    Calls Tryd.prog 84 #[.int .u32 (n.u x), .int .i64 k] w fun e w' => e = .returned (.int .u32 (n.u (rot k x))) ∧ ∃ m, w' = w.drewN m := by
  have hx0 := n.nonneg x
  have hx1 := n.lt x
  go_enter Tryd.func84, Tryd.ntmps84
  go_wp2
  go_quiet (fail)
  go_wp2
  go_ret
  exact ⟨rfl, nq, rfl⟩
theorem rot_int (n : Num) (x : BitVec 32) (K : Int) (h0 : 0 < K) (h1 : K < 32) (w : World) :
    Calls Tryd.prog 82 #[.int .u32 (n.u x), .int .i64 K] w fun e w' => e = .returned (.int .u32 (n.u (rot K.toNat x))) ∧ w' = w := by
  have h := rot_any n x K.toNat (by omega) (by omega) w
  rw [Int.toNat_of_nonneg (by omega)] at h
  exact h
theorem refRot_int (n : Num) (x : BitVec 32) (K : Int) (h0 : 0 < K) (h1 : K < 32) (w : World) :
    Calls Tryd.prog 84 #[.int .u32 (n.u x), .int .i64 K] w fun e w' => e = .returned (.int .u32 (n.u (rot K.toNat x))) ∧ ∃ m, w' = w.drewN m := by
  have h := refRot_any n x K.toNat (by omega) (by omega) w
  rw [Int.toNat_of_nonneg (by omega)] at h
  exact h
end Go.Proofs.YtagopbdoabhjfaaDoor
