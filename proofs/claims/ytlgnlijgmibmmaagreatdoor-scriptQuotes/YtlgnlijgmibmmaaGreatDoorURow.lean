import Derived.Test.YtlgnlijgmibmmaaGreatDoorRefSum
import Derived.Test.YtlgnlijgmibmmaaGreatDoorCurBase
import Derived.Laws.OwnMore
import Derived.Laws.StructEq
import Derived.OwnWalk
import Derived.Laws.AppendOwn
/-
  UPDATES: plain, and in memory.
-/
namespace Go.Proofs.YtlgnlijgmibmmaaGreatDoor
open Go.RowKit S
set_option linter.unusedVariables false
set_option linter.unusedSimpArgs false
theorem belowD {N : Nat} {w w' : World} (h : Below N w w') (k : Nat) : Below N w (w'.drewN k) := ⟨h.os, h.tape, h.output, h.size, h.block⟩
structure Upd where
  kind : Int
  id : Int
  amt : Int
  hash : Nat → UInt8
  note : ByteArray
def Upd.v (s : Upd) : Nat → Value := fun i => if i = 0 then .int .i64 s.kind else if i = 1 then .int .i64 s.id else if i = 2 then .int .i64 s.amt else if i < 35 then .int .u8 ((s.hash (i - 3)).toNat : Int) else .string s.note
def nilB : ByteArray := ⟨#[]⟩
def Upd.zero : Upd := ⟨0, 0, 0, fun _ => 0, nilB⟩
theorem tabv_len (f : Nat → Value) (m : Nat) : (tabv f m).toList.length = m := by rw [Array.length_toList, tabv_size]
/-- Cells that a function says, from an address on. -/
def At (w : World) (g of : Nat) (f : Nat → Value) (m : Nat) : Prop := ∀ j, j < m → w.cell? ⟨g, of + j, none⟩ = some (f j)
theorem At.below {w w' : World} {g of m B : Nat} {f : Nat → Value} (h : At w g of f m) (hb : Below B w w') (hg : g < B) : At w' g of f m := fun j hj => (hb.cell (p := ⟨g, of + j, none⟩) hg).trans (h j hj)
section
variable {P : Program}
theorem run_loadVar_at (w : World) (g o : Nat) (ty : TypeId) (f : Nat → Value) (m : Nat) (d : TypeDesc) (hg : At w g o f m)
    (hu : P.underlying ty = some d) (hd : (match d with | .struct _ | .array _ _ => true | _ => false) = true) (hi : (P.info? ty).map (·.size) = some m) :
    (loadVar ty ⟨g, o, none⟩).run P w = .ok (.agg (tabv f m)) w := by
  have hl : (loadCells ⟨g, o, none⟩ (tabv f m).toList.length).run P w = .ok (tabv f m).toList.toArray w :=
    run_loadCells_list (P := P) w ⟨g, o, none⟩ (tabv f m).toList (fun j v hv => by
      have hj : j < m := by
        have := (List.getElem?_eq_some_iff.1 hv).1
        simpa [tabv] using this
      have hadd : (⟨g, o, none⟩ : Addr).add j = ⟨g, o + j, none⟩ := by unfold Addr.add; split <;> simp_all
      rw [hadd, hg j hj]
      rw [Array.getElem?_toList, tabv_get _ _ _ hj] at hv
      exact hv)
  cases hq : P.info? ty with
  | none => simp [hq] at hi
  | some i =>
    have hs : i.size = m := by simpa [hq] using hi
    have hagg : (isAgg ty).run P w = .ok true w := by
      unfold isAgg
      rw [Sem.run_bind, run_underlying hu w]
      cases d <;> simp_all
    simp only [Array.length_toList, Array.toArray_toList, tabv_size] at hl
    simp [loadVar, Sem.run_bind, hagg, sizeOf, typeInfo, hq, hs, hl]
theorem wpW_load_at {ops : Array Oper} {rest : List Oper} {o : Oper} {a : Act} {w : World} {Q : Exit → Act → World → Prop} (ty : TypeId) (x : Operand) (ho : o.op = .load ty x)
    (g of : Nat) (hx : a.eval x = .pointer (some ⟨g, of, none⟩)) (hw : Region.wanted o (yielded ops a.tmps) = true) (f : Nat → Value) (m : Nat) (d : TypeDesc) (hg : At w g of f m)
    (hu : P.underlying ty = some d) (hd : (match d with | .struct _ | .array _ _ => true | _ => false) = true) (hi : (P.info? ty).map (·.size) = some m)
    (h : wpList P ops Q rest (a.put o.dst (.agg (tabv f m))) w) : wpList P ops Q (o :: rest) a w := by
  refine wpList_step fun K hK => ?_
  rw [if_pos hw]
  unfold Oper.wp execOp
  simp only [ho, hx, Instr.loadAt, Instr.sureAddr, Sem.run_bind, Sem.run_pure, Result.andThen_ok, run_loadVar_at w g of ty f m d hg hu hd hi]
  exact hK _ _ h
theorem run_load_at {o : Oper} {a : Act} (w : World) (ty : TypeId) (x : Operand) (ho : o.op = .load ty x) (g of : Nat) (hx : a.eval x = .pointer (some ⟨g, of, none⟩)) (f : Nat → Value) (m : Nat) (d : TypeDesc) (hg : At w g of f m)
    (hu : P.underlying ty = some d) (hd : (match d with | .struct _ | .array _ _ => true | _ => false) = true) (hi : (P.info? ty).map (·.size) = some m) : (execOp a.eval o).run P w = .ok (.value (.agg (tabv f m))) w := by
  unfold execOp
  simp only [ho, hx, Instr.loadAt, Instr.sureAddr, Sem.run_bind, Sem.run_pure, Result.andThen_ok, run_loadVar_at w g of ty f m d hg hu hd hi]
end
theorem Has.at_ {w : World} {g m k : Nat} {t : TypeId} {f f' : Nat → Value} (h : Has w g t f m) (o : Nat) (hm : o + k ≤ m) (e : ∀ j, j < k → f (o + j) = f' j) : At w g o f' k := fun j hj => by rw [h.cell (o + j) (by omega), e j hj]
/-- Upds behind a slice's address. -/
def Upds (w : World) (ad : Option Addr) (l : List Upd) : Prop := l = [] ∨ ∃ b o, ad = some ⟨b, o, none⟩ ∧ b < w.heap.size ∧ ∀ i s, l[i]? = some s → At w b (o + i * 36) s.v 36
theorem Upds.nil (w : World) (ad : Option Addr) : Upds w ad [] := .inl rfl
theorem Upds.get {w : World} {ad : Option Addr} {l : List Upd} (h : Upds w ad l) (k : Nat) (s : Upd) (hk : l[k]? = some s) : ∃ b o, ad = some ⟨b, o, none⟩ ∧ b < w.heap.size ∧ At w b (o + k * 36) s.v 36 := by
  rcases h with rfl | ⟨b, o, h1, h2, h3⟩
  · simp at hk
  · exact ⟨b, o, h1, h2, h3 k s hk⟩
theorem Upds.below {w w' : World} {ad : Option Addr} {l : List Upd} (h : Upds w ad l) (hb : Below w.heap.size w w') : Upds w' ad l := by
  rcases h with rfl | ⟨b, o, h1, h2, h3⟩
  · exact .inl rfl
  · exact .inr ⟨b, o, h1, Nat.lt_of_lt_of_le h2 hb.size, fun i s hs => (h3 i s hs).below hb h2⟩
end Go.Proofs.YtlgnlijgmibmmaaGreatDoor
/-
  Which updates are valid (printed by gen_valid.py).
-/
namespace Go.Proofs.YtlgnlijgmibmmaaGreatDoor
open Go.RowKit S
set_option linter.unusedVariables false
set_option linter.unusedSimpArgs false
section
variable {ops : Array Oper} {rest : List Oper} {o : Oper} {a : Act} {w : World} {Q : Exit → Act → World → Prop}
end
end Go.Proofs.YtlgnlijgmibmmaaGreatDoor
/-
  The Add with an ID, the removal of an ID, how many Adds (printed by gen_lists.py).
-/
namespace Go.Proofs.YtlgnlijgmibmmaaGreatDoor
open Go.RowKit S
set_option linter.unusedVariables false
set_option linter.unusedSimpArgs false
section
variable {ops : Array Oper} {rest : List Oper} {o : Oper} {a : Act} {w : World} {Q : Exit → Act → World → Prop}
-- left out in this seat: wpList_storeU
-- left out in this seat: builtZ
-- left out in this seat: wpList_buildZ
end
-- left out in this seat: resU2
section
variable {p : Upd → Bool} {l : List Upd} {j : Nat} {x : Upd}
end
-- left out in this seat: removes_any
-- left out in this seat: find_any
-- left out in this seat: rem_any
-- left out in this seat: rfind_any
-- left out in this seat: rrem_any
-- left out in this seat: adds_any
-- left out in this seat: radds_any
end Go.Proofs.YtlgnlijgmibmmaaGreatDoor
/-
  Rows of updates, grown by append; literals.
-/
namespace Go.Proofs.YtlgnlijgmibmmaaGreatDoor
open Go.RowKit S
set_option linter.unusedVariables false
set_option linter.unusedSimpArgs false
-- left out in this seat: run_sliceU
-- left out in this seat: run_appU
theorem wpRun {P : Program} {o : Oper} {a : Act} {w w' : World} {next : Act → World → Prop} {Q : Exit → Act → World → Prop} {v : Value} (h : (execOp a.eval o).run P w = .ok (.value v) w') (k : next (a.put o.dst v) w') : Oper.wp P o a w next Q := by
  unfold Oper.wp; rw [h]; exact k
theorem wpList_app {P : Program} {ops : Array Oper} {rest : List Oper} {o : Oper} {a : Act} {w w' : World} {Q : Exit → Act → World → Prop} {v : Value} (hg : o.guard = none) (s x : Operand) (tys : Array TypeId) (ho : o.op = .call { callee := .builtin .append, args := #[s, x], argTypes := tys }) (h : (Builtin.append_ tys o.type #[a.eval s, a.eval x]).run P w = .ok v w') (k : wpList P ops Q rest (a.put o.dst v) w') : wpList P ops Q (o :: rest) a w :=
  wpList_plain hg fun K hK => wpRun (by simp [execOp, ho, resolve, invoke, builtin, h, Result.andThen]) (hK _ _ k)
theorem wpList_slice1 {P : Program} {ops : Array Oper} {rest : List Oper} {o : Oper} {a : Act} {w w' : World} {Q : Exit → Act → World → Prop} {v : Value} (hg : o.guard = none) (T : TypeId) (x : Operand) (ho : o.op = .buildSlice T 1 #[(0, x)]) (y : Value) (hy : a.eval x = y) (h : (Instr.buildSlice T 1 #[(0, y)]).run P w = .ok v w') (k : wpList P ops Q rest (a.put o.dst v) w') : wpList P ops Q (o :: rest) a w :=
  wpList_plain hg fun K hK => wpRun (by simp [execOp, ho, hy, h, Result.andThen]) (hK _ _ k)
-- left out in this seat: run_app_all
-- left out in this seat: upds_one
section
variable {ops : Array Oper} {rest : List Oper} {o : Oper} {a : Act} {w w' : World} {Q : Exit → Act → World → Prop}
theorem wpW_build (hw : Region.wanted o (yielded ops a.tmps) = true) (T : TypeId) (ps : Array (Nat × Operand)) (ho : o.op = .build T ps) (vals : List (Nat × Value)) (he : (ps.map fun (i, y) => (i, a.eval y)).toList = vals) (cs : Array Value) (hb : Tryz.prog.built T vals = some cs)
    (hk : wpList Tryz.prog ops Q rest (a.put o.dst (.agg cs)) w) : wpList Tryz.prog ops Q (o :: rest) a w := by
  refine wpList_step fun K hK => ?_
  rw [if_pos hw]
  refine wp_build _ _ ho (by rw [he, hb]; rfl) ?_
  rw [he, hb]
  exact hK _ _ hk
end
end Go.Proofs.YtlgnlijgmibmmaaGreatDoor
