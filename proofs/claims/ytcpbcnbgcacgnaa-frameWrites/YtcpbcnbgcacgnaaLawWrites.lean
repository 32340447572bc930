/-
  FrameWrites.
-/
import Derived.Test.YtcpbcnbgcacgnaaRFrame
namespace Go.Proofs.Ytcpbcnbgcacgnaa
open Go.RowKit C
set_option linter.unusedVariables false
set_option maxHeartbeats 2000000 in
theorem frameWrites_walk (n : Int) (p : ByteArray) (w : World) (hn : n < 9223372036854775808) : Calls Try.prog 7 #[.int .i64 n, .string p] w fun e w' => e = .returned (.bool true) ∧ Below w.heap.size w w' := by
  have fa := fun w => frame_any n p w hn
  have fb := fun w => rframe_any n p w hn
  obtain ⟨F, hF⟩ : ∃ F : ByteArray, frameS n p = F := ⟨_, rfl⟩
  obtain ⟨E, hE⟩ : ∃ E : Int, frameE n p = E := ⟨_, rfl⟩
  rw [hF, hE] at fa fb
  have FA := hide fa
  have FB := hide fb
  clear fa fb hF hE hn
  go_enter Try.func7, Try.ntmps7
  go_wp2_with fail
  refine (FA.out _).mono ?_
  rintro e w1 ⟨rfl, hb1⟩
  go_wp2_with fail
  refine (FB.out _).mono ?_
  rintro e w2 ⟨rfl, hb2⟩
  go_wp2_with fail
  refine (first_any _).mono ?_
  rintro e w3 ⟨rfl, hb3⟩
  go_wp2
  go_ret
  exact ⟨rfl, (hb1.trans (hb2.mono hb1.size)).trans (hb3.mono (Nat.le_trans hb1.size hb2.size))⟩
end Go.Proofs.Ytcpbcnbgcacgnaa
