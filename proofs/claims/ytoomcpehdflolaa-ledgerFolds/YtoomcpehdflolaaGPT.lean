/-
  The stable sort's bodies, over a program that has their types alone: its elements' cells under a letter.
-/
import Derived.Test.YtoomcpehdflolaaGPen
namespace Go.Proofs.Ytoomcpehdflolaa
open Go.RowKit S Go.Shelf Go.Sort
set_option linter.unusedVariables false
set_option linter.unusedSimpArgs false
structure PT (P : Program) (k : Nat) : Prop where
  mixed : P.follows .mixedOrders = true
  hk : k = 35
  aE : ∀ w, (isAgg 42).run P w = .ok true w
  zE : ∀ w, (Go.sizeOf 42).run P w = .ok k w
  t0 : P.underlying 0 = some (TypeDesc.tuple #[])
  a0 : ∀ w, (isAgg 0).run P w = .ok false w
  z0 : ∀ w, (Go.sizeOf 0).run P w = .ok 1 w
  v0 : ∀ w, (zeroValue 0).run P w = .ok (Value.tuple #[]) w
  t3 : P.underlying 3 = some (TypeDesc.int IntKind.i64)
  a3 : ∀ w, (isAgg 3).run P w = .ok false w
  z3 : ∀ w, (Go.sizeOf 3).run P w = .ok 1 w
  v3 : ∀ w, (zeroValue 3).run P w = .ok (Value.int IntKind.i64 0) w
  t4 : P.underlying 4 = some (TypeDesc.bool)
  a4 : ∀ w, (isAgg 4).run P w = .ok false w
  z4 : ∀ w, (Go.sizeOf 4).run P w = .ok 1 w
  v4 : ∀ w, (zeroValue 4).run P w = .ok (Value.bool false) w
  tS : P.underlying 30 = some (TypeDesc.slice 42)
  aS : ∀ w, (isAgg 30).run P w = .ok false w
  zS : ∀ w, (Go.sizeOf 30).run P w = .ok 1 w
  vS : ∀ w, (zeroValue 30).run P w = .ok (Value.slice none 0 0) w
  tF : P.underlying 94 = some (TypeDesc.func #[42, 42] #[3] false)
  aF : ∀ w, (isAgg 94).run P w = .ok false w
  zF : ∀ w, (Go.sizeOf 94).run P w = .ok 1 w
  vF : ∀ w, (zeroValue 94).run P w = .ok (Value.nilFunc) w
  tU : P.underlying 59 = some (TypeDesc.int IntKind.u64)
  aU : ∀ w, (isAgg 59).run P w = .ok false w
  zU : ∀ w, (Go.sizeOf 59).run P w = .ok 1 w
  vU : ∀ w, (zeroValue 59).run P w = .ok (Value.int IntKind.u64 0) w
  fIns : P.funcs[57]? = some Try.f57
  eIns : ∀ args w, (callFunc 57 args).run P w = .ok (.enter 57 args) w
  fSym : P.funcs[58]? = some Try.f58
  eSym : ∀ args w, (callFunc 58 args).run P w = .ok (.enter 58 args) w
  fRot : P.funcs[59]? = some Try.f59
  eRot : ∀ args w, (callFunc 59 args).run P w = .ok (.enter 59 args) w
  fSwp : P.funcs[60]? = some Try.f60
  eSwp : ∀ args w, (callFunc 60 args).run P w = .ok (.enter 60 args) w
  fSta : P.funcs[55]? = some Try.f55
  eSta : ∀ args w, (callFunc 55 args).run P w = .ok (.enter 55 args) w
  eC : ∀ args w, (callFunc 52 args).run P w = .ok (.enter 52 args) w
  cC : ∀ (x y : Pen) (w : World), Calls P 52 #[.agg x.enc.toArray, .agg y.enc.toArray] w fun e w' => e = .returned (.int .i64 (cmpP x y)) ∧ ∃ q os, w' = grow (w.drewN q) os
theorem isAggE (w : World) : (isAgg 42).run Try.prog w = .ok true w := by simp [isAgg, run_underlying Try.underlying42]
theorem sizeE (w : World) : (Go.sizeOf 42).run Try.prog w = .ok 35 w := by
  have h := infoP
  cases hq : Try.prog.info? 42 with
  | none => simp [hq] at h
  | some i => simp [hq] at h; simp [sizeOf, typeInfo, hq, h]
theorem sizeT {t : TypeId} {n : Nat} (h : (Try.prog.info? t).map (·.size) = some n) (w : World) : (Go.sizeOf t).run Try.prog w = .ok n w := by
  cases hq : Try.prog.info? t with
  | none => simp [hq] at h
  | some i => simp [hq] at h; simp [sizeOf, typeInfo, hq, h]
theorem zeroT {t : TypeId} {z : Value} (h : (Try.prog.info? t).bind (·.zero) = some z) (w : World) : (zeroValue t).run Try.prog w = .ok z w := by
  cases hq : Try.prog.info? t with
  | none => simp [hq] at h
  | some i => simp [hq] at h; simp [zeroValue, typeInfo, hq, h]
set_option maxRecDepth 100000 in
theorem ptA : PT Try.prog 35 where
  mixed := by kernel_rfl
  hk := rfl
  aE := isAggE
  zE := sizeE
  t0 := by kernel_rfl
  a0 := fun w => run_isAgg_plain (d := TypeDesc.tuple #[]) (by kernel_rfl) rfl w
  z0 := fun w => sizeT (by kernel_rfl) w
  v0 := fun w => zeroT (by kernel_rfl) w
  t3 := by kernel_rfl
  a3 := fun w => run_isAgg_plain (d := TypeDesc.int IntKind.i64) (by kernel_rfl) rfl w
  z3 := fun w => sizeT (by kernel_rfl) w
  v3 := fun w => zeroT (by kernel_rfl) w
  t4 := by kernel_rfl
  a4 := fun w => run_isAgg_plain (d := TypeDesc.bool) (by kernel_rfl) rfl w
  z4 := fun w => sizeT (by kernel_rfl) w
  v4 := fun w => zeroT (by kernel_rfl) w
  tS := by kernel_rfl
  aS := fun w => run_isAgg_plain (d := TypeDesc.slice 42) (by kernel_rfl) rfl w
  zS := fun w => sizeT (by kernel_rfl) w
  vS := fun w => zeroT (by kernel_rfl) w
  tF := by kernel_rfl
  aF := fun w => run_isAgg_plain (d := TypeDesc.func #[42, 42] #[3] false) (by kernel_rfl) rfl w
  zF := fun w => sizeT (by kernel_rfl) w
  vF := fun w => zeroT (by kernel_rfl) w
  tU := by kernel_rfl
  aU := fun w => run_isAgg_plain (d := TypeDesc.int IntKind.u64) (by kernel_rfl) rfl w
  zU := fun w => sizeT (by kernel_rfl) w
  vU := fun w => zeroT (by kernel_rfl) w
  fIns := Try.func57
  eIns := enters_of Try.func57 (by kernel_rfl) rfl
  fSym := Try.func58
  eSym := enters_of Try.func58 (by kernel_rfl) rfl
  fRot := Try.func59
  eRot := enters_of Try.func59 (by kernel_rfl) rfl
  fSwp := Try.func60
  eSwp := enters_of Try.func60 (by kernel_rfl) rfl
  fSta := Try.func55
  eSta := enters_of Try.func55 (by kernel_rfl) rfl
  eC := enters_of Try.func52 (by kernel_rfl) rfl
  cC := byID_any
end Go.Proofs.Ytoomcpehdflolaa
