/-
  The width of each kind of number, out of the library's Len64.
-/
import Derived.Test.YtfohdolhobooiaaCurBase
namespace Go.Proofs.Ytfohdolhobooiaa.Cu
open Go.RowKit
section
variable {P : Program}
theorem wpList_index_lit {ops : Array Oper} {rest : List Oper} {o : Oper} {a : Act} {w : World} {Q : Exit → Act → World → Prop} (hgd : o.guard = none) (t : TypeId) (s x : Operand) (ho : o.op = .index t s x) (r : Value)
    (hr : (Instr.index t (a.eval s) (a.eval x)).run P w = .ok r w) (h : wpList P ops Q rest (a.put o.dst r) w) : wpList P ops Q (o :: rest) a w := by
  refine wpList_plain hgd fun K hK => ?_
  unfold Oper.wp execOp
  simp only [ho, Sem.run_bind, Sem.run_pure, Result.andThen_ok, hr]
  exact hK _ _ h
end
set_option maxRecDepth 20000 in
set_option maxHeartbeats 1000000 in
theorem len64_8 (w : World) : Calls Try.prog 73 #[.int .u64 255] w fun e w' => e = .returned (.int .i64 8) ∧ w = w' := by
  go_enter Try.func73, Try.ntmps73
  go_wp2_with (refine wpList_index_lit rfl _ _ _ rfl (.int .u8 8) ?_ ?_; · kernel_rfl)
  go_ret
  exact ⟨rfl, rfl⟩
theorem width_8 (w : World) : Calls Try.prog 67 #[] w fun e w' => e = .returned (.int .i64 1) ∧ w = w' := by
  go_enter Try.func67, Try.ntmps67
  go_wp2_with fail
  refine (len64_8 _).mono ?_
  rintro e w1 ⟨rfl, rfl⟩
  go_wp2
  go_ret
  exact ⟨rfl, rfl⟩
set_option maxRecDepth 20000 in
set_option maxHeartbeats 1000000 in
theorem len64_16 (w : World) : Calls Try.prog 73 #[.int .u64 65535] w fun e w' => e = .returned (.int .i64 16) ∧ w = w' := by
  go_enter Try.func73, Try.ntmps73
  go_wp2_with (refine wpList_index_lit rfl _ _ _ rfl (.int .u8 8) ?_ ?_; · kernel_rfl)
  go_ret
  exact ⟨rfl, rfl⟩
theorem width_16 (w : World) : Calls Try.prog 69 #[] w fun e w' => e = .returned (.int .i64 2) ∧ w = w' := by
  go_enter Try.func69, Try.ntmps69
  go_wp2_with fail
  refine (len64_16 _).mono ?_
  rintro e w1 ⟨rfl, rfl⟩
  go_wp2
  go_ret
  exact ⟨rfl, rfl⟩
set_option maxRecDepth 20000 in
set_option maxHeartbeats 1000000 in
theorem len64_32 (w : World) : Calls Try.prog 73 #[.int .u64 4294967295] w fun e w' => e = .returned (.int .i64 32) ∧ w = w' := by
  go_enter Try.func73, Try.ntmps73
  go_wp2_with (refine wpList_index_lit rfl _ _ _ rfl (.int .u8 8) ?_ ?_; · kernel_rfl)
  go_ret
  exact ⟨rfl, rfl⟩
-- left out in this seat: width_32
set_option maxRecDepth 20000 in
set_option maxHeartbeats 1000000 in
theorem len64_64 (w : World) : Calls Try.prog 73 #[.int .u64 18446744073709551615] w fun e w' => e = .returned (.int .i64 64) ∧ w = w' := by
  go_enter Try.func73, Try.ntmps73
  go_wp2_with (refine wpList_index_lit rfl _ _ _ rfl (.int .u8 8) ?_ ?_; · kernel_rfl)
  go_ret
  exact ⟨rfl, rfl⟩
theorem width_64 (w : World) : Calls Try.prog 71 #[] w fun e w' => e = .returned (.int .i64 8) ∧ w = w' := by
  go_enter Try.func71, Try.ntmps71
  go_wp2_with fail
  refine (len64_64 _).mono ?_
  rintro e w1 ⟨rfl, rfl⟩
  go_wp2
  go_ret
  exact ⟨rfl, rfl⟩
end Go.Proofs.Ytfohdolhobooiaa.Cu
