/-
  What the walks of the laws share (printed by gen_m7.py).
-/
import Derived.Test.YtfohdolhobooiaaMHead
import Derived.Test.YtfohdolhobooiaaCurWant
import Derived.Laws.Concat
namespace Go.Proofs.Ytfohdolhobooiaa
open Go.RowKit S
set_option linter.unusedVariables false
set_option linter.unusedSimpArgs false
open Cu (nb be hl ofL CW Mw CR Mr RS takeS takeA hOf nil8 num doneS)
section
variable {P : Program} {ops : Array Oper} {rest : List Oper} {o : Oper} {a : Act} {w : World} {Q : Exit → Act → World → Prop}
theorem wpW_un (op : UnOp) (t : TypeId) (x : Operand) (ho : o.op = .unOp op t x) (X r : Value) (hx : a.eval x = X) (hw : Region.wanted o (yielded ops a.tmps) = true) (hr : (Op.unary op X).run P w = .ok r w)
    (h : wpList P ops Q rest (a.put o.dst r) w) : wpList P ops Q (o :: rest) a w := by
  refine wpList_step fun K hK => ?_
  rw [if_pos hw]
  unfold Oper.wp execOp
  simp only [ho, hx, hr, Sem.run_bind, Sem.run_pure, Result.andThen_ok]
  exact hK _ _ h
theorem run_rem (t : TypeId) (k : IntKind) (X Y Z : Int) (hY : Y ≠ 0) (hZ : X.tmod Y = Z) (w : World) : (binOp .rem t (.int k X) (.int k Y)).run P w = .ok (.int k Z) w := by
  rw [binOp_rem, ← hZ]
  unfold Op.intDiv
  rw [if_neg hY]
  rfl
theorem run_neg (k : IntKind) (X Z : Int) (hZ : k.wrap (0 - X) = Z) (w : World) : (Op.unary .neg (.int k X)).run P w = .ok (.int k Z) w := by
  rw [← hZ]; rfl
end
theorem tmod_range (x : Int) (m : Nat) (hm : 0 < m) : -(m : Int) < x.tmod m ∧ x.tmod m < (m : Int) := by
  rcases Int.lt_or_le x 0 with h | h
  · have h1 := Int.tmod_nonneg (m : Int) (show 0 ≤ -x by omega)
    have h2 := Int.tmod_lt_of_pos (-x) (show (0 : Int) < m by omega)
    rw [Int.neg_tmod] at h1 h2
    omega
  · have h1 := Int.tmod_nonneg (m : Int) h
    have h2 := Int.tmod_lt_of_pos x (show (0 : Int) < m by omega)
    omega
theorem empty_false {b : ByteArray} (h : 0 < b.size) : b.toList.isEmpty = false := by
  rw [Bool.eq_false_iff]
  intro hc
  rw [List.isEmpty_iff, ByteArray.toList_eq] at hc
  have h0 : b.data.toList.length = 0 := by rw [hc]; rfl
  rw [Cu.str_len] at h0
  omega
section
variable {ops : Array Oper} {rest : List Oper} {o : Oper} {a : Act} {w : World} {Q : Exit → Act → World → Prop}
theorem wpW_neZ (hw : Region.wanted o (yielded ops a.tmps) = true) (x y : Operand) (ho : o.op = .binOp .neq 25 x y 25) (s : Msg) (R : Bool) (hx : a.eval x = .agg (tabv s.v 70)) (hy : a.eval y = .agg Try.zeroCells25) (hq : eqM s Msg.zero = R)
    (k : wpList Try.prog ops Q rest (a.put o.dst (.bool (!R))) w) : wpList Try.prog ops Q (o :: rest) a w :=
  wpW_neM hw x y ho s Msg.zero R hx (by rw [hy, zero70]) hq k
theorem wpW_eqZ (hw : Region.wanted o (yielded ops a.tmps) = true) (x y : Operand) (ho : o.op = .binOp .eql 25 x y 25) (s : Msg) (R : Bool) (hx : a.eval x = .agg (tabv s.v 70)) (hy : a.eval y = .agg Try.zeroCells25) (hq : eqM s Msg.zero = R)
    (k : wpList Try.prog ops Q rest (a.put o.dst (.bool R)) w) : wpList Try.prog ops Q (o :: rest) a w :=
  wpW_eqM hw x y ho s Msg.zero R hx (by rw [hy, zero70]) hq k
end
end Go.Proofs.Ytfohdolhobooiaa
