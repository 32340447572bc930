/-
  The statement's sum and preimage (printed by gen_grow1.py).
-/
import Derived.Test.YtoepmlagolfhcaaDoorUHead
import Derived.Test.YtoepmlagolfhcaaDoorUGrowM
import Derived.Test.YtoepmlagolfhcaaDoorCurWant
import Derived.BigQuiet
namespace Go.Proofs.YtoepmlagolfhcaaDoor
open Go.RowKit S
set_option linter.unusedVariables false
set_option linter.unusedSimpArgs false
theorem zero32 : tabv (fun _ => (.int .u8 0 : Value)) 32 = (#[.int .u8 0, .int .u8 0, .int .u8 0, .int .u8 0, .int .u8 0, .int .u8 0, .int .u8 0, .int .u8 0, .int .u8 0, .int .u8 0, .int .u8 0, .int .u8 0, .int .u8 0, .int .u8 0, .int .u8 0, .int .u8 0, .int .u8 0, .int .u8 0, .int .u8 0, .int .u8 0, .int .u8 0, .int .u8 0, .int .u8 0, .int .u8 0, .int .u8 0, .int .u8 0, .int .u8 0, .int .u8 0, .int .u8 0, .int .u8 0, .int .u8 0, .int .u8 0] : Array Value) := rfl
-- left out in this seat: lsum_any
def preH (x y : UInt8) : Nat → UInt8 := fun i => if i = 0 then 112 else if i = 1 then x else if i = 2 then y else 0
set_option maxRecDepth 100000 in
theorem builtP (x y : UInt8) : Tryd.prog.built 23 [(0, .int .u8 112), (1, .int .u8 (x.toNat : Int)), (2, .int .u8 (y.toNat : Int))] = some (tabv (bv (preH x y)) 32) := by kernel_rfl
theorem u8_of (z : Int) : ∃ x : UInt8, IntKind.u8.wrap z = (x.toNat : Int) := by
  refine ⟨UInt8.ofNat (z % 256).toNat, ?_⟩
  rw [UInt8.toNat_ofNat']
  simp [IntKind.wrap, IntKind.bits, IntKind.signed]
  omega
theorem conv_u8' (X : Int) : ∃ x : UInt8, ∀ w : World, (convert 2 5 (.int .i64 X)).run Tryd.prog w = .ok (.int .u8 (x.toNat : Int)) w := by
  obtain ⟨x, hx⟩ := u8_of X
  refine ⟨x, fun w => ?_⟩
  have h := run_convert_int (P := Tryd.prog) (w := w) 2 5 .i64 X (by kernel_rfl) (by kernel_rfl)
  rw [show Tryd.prog.intKind 5 = .u8 by kernel_rfl, hx] at h
  exact h
-- left out in this seat: pre_any
end Go.Proofs.YtoepmlagolfhcaaDoor
