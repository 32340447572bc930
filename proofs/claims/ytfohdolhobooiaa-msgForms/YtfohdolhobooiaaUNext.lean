/-
  In this seat there is no hash: what is left of the text of this name (see wip/update/UNext.lean, wip/hasht/Pad.lean).
-/
import Derived.Test.YtfohdolhobooiaaULists
import Derived.Test.YtfohdolhobooiaaQuietTail
import Derived.Laws.BytesArg
namespace Go.Proofs.Ytfohdolhobooiaa
open Go.RowKit S
set_option linter.unusedVariables false
set_option linter.unusedSimpArgs false
def strOf (f : Nat → UInt8) (m : Nat) : ByteArray := ⟨((List.range m).map f).toArray⟩
theorem strOf_size (f : Nat → UInt8) (m : Nat) : (strOf f m).size = m := by simp [strOf, ByteArray.size]
theorem strOf_list (f : Nat → UInt8) (m : Nat) : (strOf f m).data.toList = (List.range m).map f := by simp [strOf]
/-- string(b[:]), b in a block. -/
theorem run_conv {w : World} {g : Nat} {t : TypeId} {f : Nat → UInt8} {M : Nat} (h : Has w g t (bv f) M) (m cap : Nat) (hm : m ≤ M) : (convert 44 9 (.slice (some ⟨g, 0, none⟩) m cap)).run Try.prog w = .ok (.string (strOf f m)) w := by
  have hr := run_convert_bytes_arg w 44 5 Try.underlying44 Try.underlying5 g 0 m cap ((List.range m).map fun i => ((f i).toNat : Int)) (by simp) (fun i hi => by
    rw [Nat.zero_add, h.cell i (by omega)]
    simp [hi, bv]) 9 Try.underlying9
  have e : strOfNums ((List.range m).map fun i => ((f i).toNat : Int)) = strOf f m := by
    simp only [strOfNums, List.map_map, Function.comp_def, Int.toNat_natCast]
    simp [strOf]
  rw [hr, e]
def listOf (h : Nat → UInt8) : List UInt8 := (List.range 32).map h
theorem skH {P : Program} {ops : Array Oper} {Q : Exit → Act → World → Prop} {md : Region.Mode} {S : World → Prop} (i : Nat) (d : Option Tmp) {oi : Oper} {fuel : Nat} {listed : Array Bool} {a : Act} {w : World} (hi : ops[i]? = some oi)
    (hS : S w) (h : wpAnyH P md ops Q S fuel (listed.setIfInBounds i true) (a.put d undef) w) (hd : oi.dst = d := by rfl)
    (hs : Region.noSelect ops = true := by kernel_rfl) (hf : Region.free md ops listed i = true := by kernel_rfl) (hr : (Region.ready md ops listed).contains i = true := by kernel_rfl)
    (hQ : ∀ c a w, Q (.panic c) (a.put oi.dst undef) w → Q (.panic c) a w := by exact fun _ _ _ h => h) (hw : Region.wanted oi (yielded ops a.tmps) = false := by rfl) : wpAnyH P md ops Q S (fuel + 1) listed a w :=
  wpAnyH_take hi hs hf hr hQ (.inr ⟨hw, rfl⟩) hS (by rw [hd]; exact h)
theorem run_conv_at {w : World} {g o : Nat} {f : Nat → UInt8} (h : At w g o (bv f) 32) : (convert 44 9 (.slice (some ⟨g, o, none⟩) 32 32)).run Try.prog w = .ok (.string (strOf f 32)) w := by
  have hr := run_convert_bytes_arg w 44 5 Try.underlying44 Try.underlying5 g o 32 32 ((List.range 32).map fun i => ((f i).toNat : Int)) (by simp) (fun i hi => by
    rw [h i hi]
    simp [hi, bv]) 9 Try.underlying9
  have e : strOfNums ((List.range 32).map fun i => ((f i).toNat : Int)) = strOf f 32 := by
    simp only [strOfNums, List.map_map, Function.comp_def, Int.toNat_natCast]
    simp [strOf]
  rw [hr, e]
theorem run_eqH {o : Oper} {a : Act} (w : World) (x y : Operand) (A B : Array Value) (R : Bool) (ho : o.op = .binOp .eql 23 x y 23) (hx : a.eval x = .agg A) (hy : a.eval y = .agg B)
    (hq : (Op.equalIn 10000 23 (.agg A) (.agg B)).run Try.prog w = .ok R w) : (execOp a.eval o).run Try.prog w = .ok (.value (.bool R)) w := by
  have gh := guard26
  unfold execOp
  simp only [ho, hx, hy]
  go_simp
theorem run_neH {o : Oper} {a : Act} (w : World) (x y : Operand) (A B : Array Value) (R : Bool) (ho : o.op = .binOp .neq 23 x y 23) (hx : a.eval x = .agg A) (hy : a.eval y = .agg B)
    (hq : (Op.equalIn 10000 23 (.agg A) (.agg B)).run Try.prog w = .ok R w) : (execOp a.eval o).run Try.prog w = .ok (.value (.bool (!R))) w := by
  have gh := guard26
  unfold execOp
  simp only [ho, hx, hy]
  go_simp
theorem newU (w5 : World) (s : Upd) : ∃ w6 w7, w5.alloc (.cells #[.int .i64 0, .int .i64 0, .int .i64 0, .int .u8 0, .int .u8 0, .int .u8 0, .int .u8 0, .int .u8 0, .int .u8 0, .int .u8 0, .int .u8 0, .int .u8 0, .int .u8 0, .int .u8 0, .int .u8 0, .int .u8 0, .int .u8 0, .int .u8 0, .int .u8 0, .int .u8 0, .int .u8 0, .int .u8 0, .int .u8 0, .int .u8 0, .int .u8 0, .int .u8 0, .int .u8 0, .int .u8 0, .int .u8 0, .int .u8 0, .int .u8 0, .int .u8 0, .int .u8 0, .int .u8 0, .int .u8 0, .string { data := #[] }] 34) = w6 ∧ Has w6 w5.heap.size 34 Upd.zero.v 36 ∧ w6.setRow w5.heap.size (tabv s.v 36) = w7 ∧ Has w7 w5.heap.size 34 s.v 36 ∧ Below w5.heap.size w5 w7 := by
  have q1 : Has (w5.alloc (.cells (tabv Upd.zero.v 36) 34)) w5.heap.size 34 Upd.zero.v 36 := Has.new w5 34 Upd.zero.v 36 _ rfl
  exact ⟨_, _, by rw [zero36], q1, rfl, q1.row _ s.v rfl, below_setRow ((Below.refl w5.heap.size w5).alloc (Nat.le_refl _) _) (Nat.le_refl _) _⟩
end Go.Proofs.Ytfohdolhobooiaa
