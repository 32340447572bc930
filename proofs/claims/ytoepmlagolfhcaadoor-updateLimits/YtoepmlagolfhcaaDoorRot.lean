/-
  Turned words: rot, bits.RotateLeft32; the document's rot.
-/
import Derived.Test.YtoepmlagolfhcaaDoorBits
namespace Go.Proofs.YtoepmlagolfhcaaDoor
open Go.RowKit S
theorem and31_all : ∀ k : Fin 32, 0 < k.val → bits .and .u64 (IntKind.u64.wrap (-(k.val : Int))) 31 = ((32 - k.val : Nat) : Int) := by decide +kernel
attribute [local go_sem] Num.shl Num.shr Num.or
theorem rotl_any (n : Num) (x : BitVec 32) (k : Nat) (hk : 0 < k) (hk2 : k < 32) (w : World) :
    Calls Tryd.prog 58 #[.int .u32 (n.u x), .int .i64 (-(k : Int))] w fun e w' => e = .returned (.int .u32 (n.u (rot k x))) ∧ w' = w := by
  have hx0 := n.nonneg x
  have hx1 := n.lt x
  have hs := and31_all ⟨k, hk2⟩ hk
  simp only [] at hs
  obtain ⟨j, hj⟩ : ∃ j, 32 - k = j := ⟨_, rfl⟩
  rw [hj] at hs
  go_enter Tryd.func58, Tryd.ntmps58
  go_wp2
  go_ret
  refine ⟨ret_int ?_, rfl⟩
  have : (32 : Nat) - j = k := by omega
  rw [this]
  unfold rot; rw [hj, BitVec.or_comm]
theorem rot_any (n : Num) (x : BitVec 32) (k : Nat) (hk : 0 < k) (hk2 : k < 32) (w : World) :
    Calls Tryd.prog 57 #[.int .u32 (n.u x), .int .i64 (k : Int)] w fun e w' => e = .returned (.int .u32 (n.u (rot k x))) ∧ w' = w := by
  go_enter Tryd.func57, Tryd.ntmps57
  go_wp2_with fail
  refine (rotl_any n x k hk hk2 _).mono ?_
  rintro e w1 ⟨rfl, rfl⟩
  go_wp2
  go_ret
  exact ⟨rfl, rfl⟩
-- left out in this seat: refRot_any
theorem rot_int (n : Num) (x : BitVec 32) (K : Int) (h0 : 0 < K) (h1 : K < 32) (w : World) :
    Calls Tryd.prog 57 #[.int .u32 (n.u x), .int .i64 K] w fun e w' => e = .returned (.int .u32 (n.u (rot K.toNat x))) ∧ w' = w := by
  have h := rot_any n x K.toNat (by omega) (by omega) w
  rw [Int.toNat_of_nonneg (by omega)] at h
  exact h
-- left out in this seat: refRot_int
end Go.Proofs.YtoepmlagolfhcaaDoor
