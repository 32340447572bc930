/-
  FrameReads.
-/
import Derived.Test.YtcpbcnbgcacgnaaRNext
namespace Go.Proofs.Ytcpbcnbgcacgnaa
open Go.RowKit C
set_option linter.unusedVariables false
set_option maxHeartbeats 2000000 in
theorem frameReads_walk (b : ByteArray) (at_ n : Int) (w : World) (hn : n < 9223372036854775808) (hb : b.size ≤ 140737488351232) : Calls Try.prog 8 #[.string b, .int .i64 at_, .int .i64 n] w fun e w' => e = .returned (.bool true) ∧ Below w.heap.size w w' := by

  have fa := fun w => next_any b at_ n w hn
  have fb := fun w => rnext_any b at_ n w hn (by omega)
  obtain ⟨P, K, C, hnx⟩ : ∃ (P : ByteArray) (K C : Int), nx b.data.toList at_ n = .tuple #[.string P, .int .i64 K, .int .i64 C] := ⟨_, _, _, rfl⟩
  rw [hnx] at fa fb
  have FA := hide fa
  have FB := hide fb
  clear fa fb hnx hn hb
  go_enter Try.func8, Try.ntmps8
  go_wp2_with fail
  refine (FA.out _).mono ?_
  rintro e w1 ⟨rfl, hb1⟩
  go_wp2_with fail
  refine (FB.out _).mono ?_
  rintro e w2 ⟨rfl, hb2⟩
  go_wp2_with fail
  refine (first_any _).mono ?_
  rintro e w3 ⟨rfl, hb3⟩
  go_wp2
  go_ret
  exact ⟨rfl, (hb1.trans (hb2.mono hb1.size)).trans (hb3.mono (Nat.le_trans hb1.size hb2.size))⟩
end Go.Proofs.Ytcpbcnbgcacgnaa
