/-
  fixed of the statements (printed by gen_d21.py).
-/
import Derived.Test.YtmmcoedgoekhgaaGreatDoorDCfg
import Derived.Test.YtmmcoedgoekhgaaGreatDoorDSgText
import Derived.Test.YtmmcoedgoekhgaaGreatDoorRsHello
import Derived.Test.YtmmcoedgoekhgaaGreatDoorRsSmall
import Derived.Test.YtmmcoedgoekhgaaGreatDoorDMsg
import Derived.Test.YtmmcoedgoekhgaaGreatDoorDClone
import Derived.Deep.CutRange
namespace Go.Proofs.YtmmcoedgoekhgaaGreatDoor
open Go.RowKit S
set_option linter.unusedVariables false
set_option linter.unusedSimpArgs false
def dl0 : Dl := ⟨1000, 700, fun _ => 0, fun _ => 0, fun _ => 0, fun _ => 0⟩
def st0 (p q : Nat → UInt8) : St := startS 0 1000 700 300 p q
set_option maxRecDepth 100000 in
theorem builtDl : Tryz.prog.built 55 [(0, .int .i64 1000), (1, .int .i64 700)] = some (tabv dl0.v 130) := by kernel_rfl
section
variable (p q h : Nat → UInt8)
end
theorem index2C0 (a b : Cf) (w : World) : (Instr.index 57 (.agg (tabv (twoC a b) 328)) (.int .i64 0)).run Tryz.prog w = .ok (.agg (tabv a.v 164)) w := by
  have e : (tabv (twoC a b) 328).extract 0 164 = tabv a.v 164 := by
    refine tabv_ext _ _ _ (by simp [tabv_size]) fun i hi => ?_
    rw [Array.getElem?_extract, tabv_get _ _ _ (by omega), tabv_size]
    simp only [Nat.zero_add]
    unfold twoC
    rw [if_pos hi]
    simp [hi]
  have hi := infoCf
  cases hq : Tryz.prog.info? 26 with
  | none => simp [hq] at hi
  | some i =>
    have hs : i.size = 164 := by simpa [hq] using hi
    simp [Instr.index, asIntOf, run_underlying Tryz.underlying57, sizeOf, typeInfo, hq, hs, part, isAgg, run_underlying Tryz.underlying26, e]
end Go.Proofs.YtmmcoedgoekhgaaGreatDoor
