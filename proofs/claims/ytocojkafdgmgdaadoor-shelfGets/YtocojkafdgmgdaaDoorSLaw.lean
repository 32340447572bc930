/-
  The statements' own helpers: full, begins, number, hangs; what the four calls of the layer must answer.
-/
import Derived.Test.YtocojkafdgmgdaaDoorSRef2
import Derived.Test.YtocojkafdgmgdaaDoorSHead
namespace Go.Proofs.YtocojkafdgmgdaaDoor
open Go.RowKit S
set_option linter.unusedVariables false
theorem wpList_load_want {P : Program} {ops : Array Oper} {rest : List Oper} {o : Oper} {a : Act} {w : World} {Q : Exit → Act → World → Prop} (hw : Region.wanted o (yielded ops a.tmps) = true) (ty : TypeId) (x : Operand) (ho : o.op = .load ty x)
    (g of : Nat) (hx : a.eval x = .pointer (some ⟨g, of, none⟩)) (t : TypeId) (f : Nat → Value) (M m : Nat) (d : TypeDesc) (hg : Has w g t f M) (hm : of + m ≤ M)
    (hu : P.underlying ty = some d) (hd : (match d with | .struct _ | .array _ _ => true | _ => false) = true) (hi : (P.info? ty).map (·.size) = some m)
    (f' : Nat → Value) (hf : ∀ i, i < m → f (of + i) = f' i)
    (h : wpList P ops Q rest (a.put o.dst (.agg (tabv f' m))) w) : wpList P ops Q (o :: rest) a w :=
  wpList_step fun K hK => by rw [if_pos hw]; exact wp_load_part ty x ho g of hx t f M m d hg hm hu hd hi (hK _ _ (by rw [tabv_congr _ f' m hf]; exact h))
-- left out in this seat: SeedOk
theorem Glob.up {n : Num} {w w' : World} (h : Glob n w) (hb : Below w.heap.size w w') : Glob n w' := h.below hb h.2.2
def fullUp (c : UInt8) (k : Nat) : Nat → UInt8 := fun i => if i < k then c else 0
theorem fullUp_next (c : UInt8) (k : Nat) : upd (bv (fullUp c k)) k (.int .u8 (c.toNat : Int)) = bv (fullUp c (k + 1)) := by
  funext i
  unfold upd bv fullUp
  by_cases h : i = k
  · subst h; rw [if_pos rfl, if_pos (by omega)]
  · rw [if_neg h]
    by_cases h2 : i < k
    · rw [if_pos h2, if_pos (by omega)]
    · rw [if_neg h2, if_neg (by omega)]
-- left out in this seat: full_any
-- left out in this seat: begins_any
def numA (x : Int) : Nat := (bits .and .i64 x 281474976710655).toNat
theorem num_is (x : Int) : bits .and .i64 x 281474976710655 = (numA x : Int) ∧ numA x ≤ 281474976710655 := by
  have e : bits .and .i64 x 281474976710655 = IntKind.i64.wrap ((BitVec.ofInt 64 x &&& BitVec.ofInt 64 281474976710655).toNat : Int) := rfl
  have hle : (BitVec.ofInt 64 x &&& BitVec.ofInt 64 281474976710655).toNat ≤ 281474976710655 := by
    rw [BitVec.toNat_and]
    refine Nat.le_trans Nat.and_le_right ?_
    decide
  unfold numA
  rw [e]
  generalize (BitVec.ofInt 64 x &&& BitVec.ofInt 64 281474976710655).toNat = m at hle
  rw [IntKind.wrap_i64]
  omega
-- left out in this seat: number_any
end Go.Proofs.YtocojkafdgmgdaaDoor
