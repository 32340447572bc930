/-
  The stable sort's bodies, over a program that has their types alone: its elements' cells under a letter.
-/
import Derived.Test.YtbeoojnofblnjaaGPen
namespace Go.Proofs.Ytbeoojnofblnjaa
open Go.RowKit S Go.Shelf Go.Sort
set_option linter.unusedVariables false
set_option linter.unusedSimpArgs false
structure PT (P : Program) (k : Nat) : Prop where
  mixed : P.follows .mixedOrders = true
  hk : k = 35
  aE : ∀ w, (isAgg 55).run P w = .ok true w
  zE : ∀ w, (Go.sizeOf 55).run P w = .ok k w
  t0 : P.underlying 0 = some (TypeDesc.tuple #[])
  a0 : ∀ w, (isAgg 0).run P w = .ok false w
  z0 : ∀ w, (Go.sizeOf 0).run P w = .ok 1 w
  v0 : ∀ w, (zeroValue 0).run P w = .ok (Value.tuple #[]) w
  t3 : P.underlying 3 = some (TypeDesc.int IntKind.i64)
  a3 : ∀ w, (isAgg 3).run P w = .ok false w
  z3 : ∀ w, (Go.sizeOf 3).run P w = .ok 1 w
  v3 : ∀ w, (zeroValue 3).run P w = .ok (Value.int IntKind.i64 0) w
  t4 : P.underlying 4 = some (TypeDesc.bool)
  a4 : ∀ w, (isAgg 4).run P w = .ok false w
  z4 : ∀ w, (Go.sizeOf 4).run P w = .ok 1 w
  v4 : ∀ w, (zeroValue 4).run P w = .ok (Value.bool false) w
  tS : P.underlying 44 = some (TypeDesc.slice 55)
  aS : ∀ w, (isAgg 44).run P w = .ok false w
  zS : ∀ w, (Go.sizeOf 44).run P w = .ok 1 w
  vS : ∀ w, (zeroValue 44).run P w = .ok (Value.slice none 0 0) w
  tF : P.underlying 79 = some (TypeDesc.func #[55, 55] #[3] false)
  aF : ∀ w, (isAgg 79).run P w = .ok false w
  zF : ∀ w, (Go.sizeOf 79).run P w = .ok 1 w
  vF : ∀ w, (zeroValue 79).run P w = .ok (Value.nilFunc) w
  tU : P.underlying 38 = some (TypeDesc.int IntKind.u64)
  aU : ∀ w, (isAgg 38).run P w = .ok false w
  zU : ∀ w, (Go.sizeOf 38).run P w = .ok 1 w
  vU : ∀ w, (zeroValue 38).run P w = .ok (Value.int IntKind.u64 0) w
  fIns : P.funcs[34]? = some Try.f34
  eIns : ∀ args w, (callFunc 34 args).run P w = .ok (.enter 34 args) w
  fSym : P.funcs[35]? = some Try.f35
  eSym : ∀ args w, (callFunc 35 args).run P w = .ok (.enter 35 args) w
  fRot : P.funcs[36]? = some Try.f36
  eRot : ∀ args w, (callFunc 36 args).run P w = .ok (.enter 36 args) w
  fSwp : P.funcs[37]? = some Try.f37
  eSwp : ∀ args w, (callFunc 37 args).run P w = .ok (.enter 37 args) w
  fSta : P.funcs[32]? = some Try.f32
  eSta : ∀ args w, (callFunc 32 args).run P w = .ok (.enter 32 args) w
  eC : ∀ args w, (callFunc 30 args).run P w = .ok (.enter 30 args) w
  cC : ∀ (x y : Pen) (w : World), Calls P 30 #[.agg x.enc.toArray, .agg y.enc.toArray] w fun e w' => e = .returned (.int .i64 (cmpP x y)) ∧ ∃ q os, w' = grow (w.drewN q) os
theorem isAggE (w : World) : (isAgg 55).run Try.prog w = .ok true w := by simp [isAgg, run_underlying Try.underlying55]
theorem sizeE (w : World) : (Go.sizeOf 55).run Try.prog w = .ok 35 w := by
  have h := infoP
  cases hq : Try.prog.info? 55 with
  | none => simp [hq] at h
  | some i => simp [hq] at h; simp [sizeOf, typeInfo, hq, h]
theorem sizeT {t : TypeId} {n : Nat} (h : (Try.prog.info? t).map (·.size) = some n) (w : World) : (Go.sizeOf t).run Try.prog w = .ok n w := by
  cases hq : Try.prog.info? t with
  | none => simp [hq] at h
  | some i => simp [hq] at h; simp [sizeOf, typeInfo, hq, h]
theorem zeroT {t : TypeId} {z : Value} (h : (Try.prog.info? t).bind (·.zero) = some z) (w : World) : (zeroValue t).run Try.prog w = .ok z w := by
  cases hq : Try.prog.info? t with
  | none => simp [hq] at h
  | some i => simp [hq] at h; simp [zeroValue, typeInfo, hq, h]
set_option maxRecDepth 100000 in
theorem ptA : PT Try.prog 35 where
  mixed := by kernel_rfl
  hk := rfl
  aE := isAggE
  zE := sizeE
  t0 := by kernel_rfl
  a0 := fun w => run_isAgg_plain (d := TypeDesc.tuple #[]) (by kernel_rfl) rfl w
  z0 := fun w => sizeT (by kernel_rfl) w
  v0 := fun w => zeroT (by kernel_rfl) w
  t3 := by kernel_rfl
  a3 := fun w => run_isAgg_plain (d := TypeDesc.int IntKind.i64) (by kernel_rfl) rfl w
  z3 := fun w => sizeT (by kernel_rfl) w
  v3 := fun w => zeroT (by kernel_rfl) w
  t4 := by kernel_rfl
  a4 := fun w => run_isAgg_plain (d := TypeDesc.bool) (by kernel_rfl) rfl w
  z4 := fun w => sizeT (by kernel_rfl) w
  v4 := fun w => zeroT (by kernel_rfl) w
  tS := by kernel_rfl
  aS := fun w => run_isAgg_plain (d := TypeDesc.slice 55) (by kernel_rfl) rfl w
  zS := fun w => sizeT (by kernel_rfl) w
  vS := fun w => zeroT (by kernel_rfl) w
  tF := by kernel_rfl
  aF := fun w => run_isAgg_plain (d := TypeDesc.func #[55, 55] #[3] false) (by kernel_rfl) rfl w
  zF := fun w => sizeT (by kernel_rfl) w
  vF := fun w => zeroT (by kernel_rfl) w
  tU := by kernel_rfl
  aU := fun w => run_isAgg_plain (d := TypeDesc.int IntKind.u64) (by kernel_rfl) rfl w
  zU := fun w => sizeT (by kernel_rfl) w
  vU := fun w => zeroT (by kernel_rfl) w
  fIns := Try.func34
  eIns := enters_of Try.func34 (by kernel_rfl) rfl
  fSym := Try.func35
  eSym := enters_of Try.func35 (by kernel_rfl) rfl
  fRot := Try.func36
  eRot := enters_of Try.func36 (by kernel_rfl) rfl
  fSwp := Try.func37
  eSwp := enters_of Try.func37 (by kernel_rfl) rfl
  fSta := Try.func32
  eSta := enters_of Try.func32 (by kernel_rfl) rfl
  eC := enters_of Try.func30 (by kernel_rfl) rfl
  cC := byID_any
end Go.Proofs.Ytbeoojnofblnjaa
