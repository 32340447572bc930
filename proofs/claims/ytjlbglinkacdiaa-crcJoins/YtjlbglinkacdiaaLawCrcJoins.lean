/-
  The walk of CrcJoins.
-/
import Derived.Test.YtjlbglinkacdiaaRanges
import Derived.Test.YtjlbglinkacdiaaRefJoin
namespace Go.Proofs.Ytjlbglinkacdiaa
open Go.RowKit C
set_option maxHeartbeats 400000 in
theorem crcJoins_num (n : Num) (a b : BitVec 32) (z : Int) (hz0 : -9223372036854775808 ≤ z) (hz1 : z ≤ 9223372036854775807) (w : World) :
    Calls Try.prog 8 #[.int .u32 (n.u a), .int .u32 (n.u b), .int .i64 z] w fun e w' => e = .returned (.bool true) ∧ Below w.heap.size w w' := by
  go_enter Try.func8, Try.ntmps8
  go_wp2_with fail
  refine (join_any n a b z _ hz0 hz1).mono ?_
  rintro e w1 ⟨rfl, hb1⟩
  go_wp2_with fail
  refine (first_any n _).mono ?_
  rintro e w2 ⟨rfl, hb2⟩
  go_wp2_with fail
  refine (refJoin_any n a b z _ hz0 hz1).mono ?_
  rintro e w3 ⟨rfl, hb3⟩
  go_wp2
  go_ret
  have h2 := hb1.trans (hb2.mono hb1.size)
  exact ⟨by simp, h2.trans (hb3.mono h2.size)⟩
theorem crcJoins_walk (a0 : Int) (a1 : Int) (a2 : Int) (w0 : (Lit.int .u32 a0).wf = true) (w1 : (Lit.int .u32 a1).wf = true) (w2 : (Lit.int .i64 a2).wf = true) (w : World) :
    Calls Try.prog 8 #[.int .u32 a0, .int .u32 a1, .int .i64 a2] w fun e w' => e = .returned (.bool true) ∧ Below w.heap.size w w' := by
  obtain ⟨h0, h1⟩ := u32_range a0 w0
  obtain ⟨h2, h3⟩ := u32_range a1 w1
  obtain ⟨h4, h5⟩ := i64_range a2 w2
  rw [num.mk_of a0 h0 h1, num.mk_of a1 h2 h3]
  exact crcJoins_num num _ _ a2 h4 h5 w
end Go.Proofs.Ytjlbglinkacdiaa
