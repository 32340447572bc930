/-
  LedgerSpends: the walk (printed by gen_spends.py).
-/
import Derived.Test.YtbeoojnofblnjaaGFirst
namespace Go.Proofs.Ytbeoojnofblnjaa
open Go.RowKit S Go.Shelf Go.Sort
set_option linter.unusedVariables false
set_option linter.unusedSimpArgs false
theorem Upds.left {w : World} {ad : Option Addr} {l t : List Upd} (h : Upds w ad (l ++ t)) : Upds w ad l := by
  have := h.take l.length
  rwa [List.take_left' rfl] at this
-- left out in this seat: lend2
-- left out in this seat: more2
theorem OwnU.read {B : Nat} {w : World} {g n c : Nat} {l t : List Upd} (h : OwnU B w (.slice (some ⟨g, 0, none⟩) n c) (l ++ t)) : Upds w (some ⟨g, 0, none⟩) (l ++ t) := by
  obtain ⟨ad, c', e, hs, _⟩ := h.upds
  cases e
  exact hs
section
variable {ops : Array Oper} {rest : List Oper} {o : Oper} {a : Act} {w w' : World} {Q : Exit → Act → World → Prop}
theorem wpList_copy {P : Program} {v : Value} (hg : o.guard = none) (s x : Operand) (tys : Array TypeId) (ho : o.op = .call { callee := .builtin .copy, args := #[s, x], argTypes := tys }) (h : (Builtin.copy_ tys o.type #[a.eval s, a.eval x]).run P w = .ok v w') (k : wpList P ops Q rest (a.put o.dst v) w') : wpList P ops Q (o :: rest) a w :=
  wpList_plain hg fun K hK => wpRun (by simp [execOp, ho, resolve, invoke, builtin, h, Result.andThen]) (hK _ _ k)
end
def cnv (x y : Int) : Nat → Value := fun i => .int .i64 (if i = 0 then x else y)
theorem infoC : (Try.prog.info? 51).map (·.size) = some 2 := by kernel_rfl
-- left out in this seat: spends_walk
end Go.Proofs.Ytbeoojnofblnjaa
