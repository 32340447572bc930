/-
  first: some answers that the document fixes.
-/
import Derived.Test.YtjlbglinkacdiaaOn
import Derived.Test.YtjlbglinkacdiaaJoin
namespace Go.Proofs.Ytjlbglinkacdiaa
open Go.RowKit C
theorem first_sum (n : Num) (w : World) :
    Calls Try.prog 10 #[.string { data := #[49, 50, 51, 52, 53, 54, 55, 56, 57] }] w fun e w' => e = .returned (.int .u32 3808858755) ∧ Below w.heap.size w w' := by
  have h := sum_any n { data := #[49, 50, 51, 52, 53, 54, 55, 56, 57] } w (by decide)
  have e : n.u (on 0#32 [49, 50, 51, 52, 53, 54, 55, 56, 57]) = 3808858755 := by rw [n.eq]; decide +kernel
  rw [show (ByteArray.mk #[49, 50, 51, 52, 53, 54, 55, 56, 57]).data.toList = [49, 50, 51, 52, 53, 54, 55, 56, 57] from rfl, e] at h
  exact h
theorem first_on (n : Num) (w : World) :
    Calls Try.prog 12 #[.int .u32 3251651376, .string { data := #[98, 99] }] w fun e w' => e = .returned (.int .u32 910901175) ∧ Below w.heap.size w w' := by
  have h := on_any n 3251651376#32 { data := #[98, 99] } w (by decide)
  have e : n.u (on 3251651376#32 [98, 99]) = 910901175 := by rw [n.eq]; decide +kernel
  have e2 : n.u 3251651376#32 = 3251651376 := by rw [n.eq]; decide +kernel
  rw [show (ByteArray.mk #[98, 99]).data.toList = [98, 99] from rfl, e, e2] at h
  exact h
theorem first_join (n : Num) (w : World) :
    Calls Try.prog 11 #[.int .u32 1, .int .u32 0, .int .i64 1] w fun e w' => e = .returned (.int .u32 4067132163) ∧ Below w.heap.size w w' := by
  have h := join_any n 1#32 0#32 1 w (by omega) (by omega)
  have e : n.u (stN (8 * (1 : Int).toNat) 1#32 ^^^ 0#32) = 4067132163 := by rw [n.eq]; decide +kernel
  have e2 : n.u 1#32 = 1 := by rw [n.eq]; rfl
  rw [e, e2, n.zero] at h
  exact h
set_option maxHeartbeats 400000 in
theorem first_any (n : Num) (w : World) :
    Calls Try.prog 9 #[] w fun e w' => e = .returned (.bool true) ∧ Below w.heap.size w w' := by
  go_enter Try.func9, Try.ntmps9
  go_wp2_with fail
  refine (first_sum n _).mono ?_
  rintro e w1 ⟨rfl, hb1⟩
  go_wp2_with fail
  refine (first_on n _).mono ?_
  rintro e w2 ⟨rfl, hb2⟩
  go_wp2_with fail
  refine (first_join n _).mono ?_
  rintro e w3 ⟨rfl, hb3⟩
  go_wp2
  go_ret
  exact ⟨rfl, (hb1.trans (hb2.mono hb1.size)).trans (hb3.mono (Nat.le_trans hb1.size hb2.size))⟩
end Go.Proofs.Ytjlbglinkacdiaa
