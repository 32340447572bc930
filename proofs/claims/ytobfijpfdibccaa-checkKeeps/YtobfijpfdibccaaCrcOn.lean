/-
  On, Sum; the document's Sum and On.
-/
import Derived.Test.YtobfijpfdibccaaCrcTurn
namespace Go.Proofs.Ytobfijpfdibccaa.Fr
open Go.RowKit C
attribute [local go_sem] Num.not Num.xor Num.xor_byte
set_option maxHeartbeats 400000 in
theorem on_any (n : Num) (x : BitVec 32) (s : ByteArray) (w : World) (hs : s.size ≤ maxLen) :
    Calls Try.prog 51 #[.int .u32 (n.u x), .string s] w fun e w' => e = .returned (.int .u32 (n.u (on x s.data.toList))) ∧ Below w.heap.size w w' := by
  go_enter Try.func51, Try.ntmps51
  go_wp2_with fail
  refine (turn_any n _ s _ hs).mono ?_
  rintro e w1 ⟨rfl, hb1⟩
  go_wp2
  go_ret
  exact ⟨rfl, hb1⟩
set_option maxHeartbeats 400000 in
theorem sum_any (n : Num) (s : ByteArray) (w : World) (hs : s.size ≤ maxLen) :
    Calls Try.prog 52 #[.string s] w fun e w' => e = .returned (.int .u32 (n.u (on 0#32 s.data.toList))) ∧ Below w.heap.size w w' := by
  have h := on_any n 0#32 s w hs
  rw [n.zero] at h
  have H := hide h
  clear h
  go_enter Try.func52, Try.ntmps52
  go_wp2_with fail
  refine H.out.mono ?_
  rintro e w1 ⟨rfl, hb1⟩
  go_wp2
  go_ret
  exact ⟨rfl, hb1⟩
-- left out in this seat: refOn_any
-- left out in this seat: refSum_any
end Go.Proofs.Ytobfijpfdibccaa.Fr
