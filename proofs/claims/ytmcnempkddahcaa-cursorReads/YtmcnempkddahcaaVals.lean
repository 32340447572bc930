/-
  Lists of values among the arguments; what they are together.
-/
import Derived.Test.YtmcnempkddahcaaNothing
namespace Go.Proofs.Ytmcnempkddahcaa
open Go.RowKit
/-- Cells that a function says, from an address on. -/
def At (w : World) (g of : Nat) (f : Nat → Value) (m : Nat) : Prop := ∀ j, j < m → w.cell? ⟨g, of + j, none⟩ = some (f j)
theorem At.below {w w' : World} {g of m B : Nat} {f : Nat → Value} (h : At w g of f m) (hb : Below B w w') (hg : g < B) : At w' g of f m := fun j hj => (hb.cell (p := ⟨g, of + j, none⟩) hg).trans (h j hj)
section
variable {P : Program}
theorem run_loadVar_at (w : World) (g o : Nat) (ty : TypeId) (f : Nat → Value) (m : Nat) (d : TypeDesc) (hg : At w g o f m)
    (hu : P.underlying ty = some d) (hd : (match d with | .struct _ | .array _ _ => true | _ => false) = true) (hi : (P.info? ty).map (·.size) = some m) :
    (loadVar ty ⟨g, o, none⟩).run P w = .ok (.agg (tabv f m)) w := by
  have hl : (loadCells ⟨g, o, none⟩ (tabv f m).toList.length).run P w = .ok (tabv f m).toList.toArray w :=
    run_loadCells_list (P := P) w ⟨g, o, none⟩ (tabv f m).toList (fun j v hv => by
      have hj : j < m := by
        have := (List.getElem?_eq_some_iff.1 hv).1
        simpa [tabv] using this
      have hadd : (⟨g, o, none⟩ : Addr).add j = ⟨g, o + j, none⟩ := by unfold Addr.add; split <;> simp_all
      rw [hadd, hg j hj]
      rw [Array.getElem?_toList, tabv_get _ _ _ hj] at hv
      exact hv)
  cases hq : P.info? ty with
  | none => simp [hq] at hi
  | some i =>
    have hs : i.size = m := by simpa [hq] using hi
    have hagg : (isAgg ty).run P w = .ok true w := by
      unfold isAgg
      rw [Sem.run_bind, run_underlying hu w]
      cases d <;> simp_all
    simp only [Array.length_toList, Array.toArray_toList, tabv_size] at hl
    simp [loadVar, Sem.run_bind, hagg, sizeOf, typeInfo, hq, hs, hl]
theorem wpW_load_at {ops : Array Oper} {rest : List Oper} {o : Oper} {a : Act} {w : World} {Q : Exit → Act → World → Prop} (ty : TypeId) (x : Operand) (ho : o.op = .load ty x)
    (g of : Nat) (hx : a.eval x = .pointer (some ⟨g, of, none⟩)) (hw : Region.wanted o (yielded ops a.tmps) = true) (f : Nat → Value) (m : Nat) (d : TypeDesc) (hg : At w g of f m)
    (hu : P.underlying ty = some d) (hd : (match d with | .struct _ | .array _ _ => true | _ => false) = true) (hi : (P.info? ty).map (·.size) = some m)
    (h : wpList P ops Q rest (a.put o.dst (.agg (tabv f m))) w) : wpList P ops Q (o :: rest) a w := by
  refine wpList_step fun K hK => ?_
  rw [if_pos hw]
  unfold Oper.wp execOp
  simp only [ho, hx, Instr.loadAt, Instr.sureAddr, Sem.run_bind, Sem.run_pure, Result.andThen_ok, run_loadVar_at w g of ty f m d hg hu hd hi]
  exact hK _ _ h
theorem run_load_at {o : Oper} {a : Act} (w : World) (ty : TypeId) (x : Operand) (ho : o.op = .load ty x) (g of : Nat) (hx : a.eval x = .pointer (some ⟨g, of, none⟩)) (f : Nat → Value) (m : Nat) (d : TypeDesc) (hg : At w g of f m)
    (hu : P.underlying ty = some d) (hd : (match d with | .struct _ | .array _ _ => true | _ => false) = true) (hi : (P.info? ty).map (·.size) = some m) : (execOp a.eval o).run P w = .ok (.value (.agg (tabv f m))) w := by
  unfold execOp
  simp only [ho, hx, Instr.loadAt, Instr.sureAddr, Sem.run_bind, Sem.run_pure, Result.andThen_ok, run_loadVar_at w g of ty f m d hg hu hd hi]
end
def xo (V : VL) : Nat := V.U.toNat
def vB (V : VL) : List UInt8 := vb V (xo V)
def fl (vs : List VL) : List UInt8 := (vs.map vB).flatten
def anyL (vs : List VL) : Bool := vs.any longB
def stOf (vs : List VL) : Option (List UInt8) := if anyL vs then none else some (fl vs)
theorem fl_snoc (vs : List VL) (V : VL) : fl (vs ++ [V]) = fl vs ++ vB V := by simp [fl]
theorem fl_cons (V : VL) (vs : List VL) : fl (V :: vs) = vB V ++ fl vs := by simp [fl]
theorem fl_append (a b : List VL) : fl (a ++ b) = fl a ++ fl b := by simp [fl]
theorem any_snoc (vs : List VL) (V : VL) : anyL (vs ++ [V]) = (anyL vs || longB V) := by simp [anyL]
theorem st_snoc (vs : List VL) (V : VL) : layS V (xo V) (stOf vs) = stOf (vs ++ [V]) := by
  unfold layS stOf
  rw [any_snoc, fl_snoc]
  cases h1 : longB V <;> cases h2 : anyL vs <;> simp [vB]
theorem fl_length (vs : List VL) (h : ∀ V ∈ vs, V.ok (xo V)) : (fl vs).length ≤ vs.length * 2097152 := by
  induction vs with
  | nil => simp [fl]
  | cons V vs ih =>
    rw [fl_cons, List.length_append, List.length_cons]
    have h1 := vb_length V (xo V) (h V (by simp)).s
    have h2 := ih (fun U hU => h U (by simp [hU]))
    unfold vB
    omega
theorem st_length (vs : List VL) (h : ∀ V ∈ vs, V.ok (xo V)) (l : List UInt8) (e : stOf vs = some l) : l.length ≤ vs.length * 2097152 := by
  unfold stOf at e
  split at e
  · cases e
  · cases e; exact fl_length vs h
/-- The values lie behind the slice's address. -/
def Vals (w : World) (ad : Option Addr) (vs : List VL) : Prop := vs = [] ∨ ∃ b o, ad = some ⟨b, o, none⟩ ∧ b < w.heap.size ∧ ∀ i (h : i < vs.length), At w b (o + i * 37) (vv vs[i]) 37
theorem Vals.get {w : World} {ad : Option Addr} {vs : List VL} (h : Vals w ad vs) (k : Nat) (hk : k < vs.length) : ∃ b o, ad = some ⟨b, o, none⟩ ∧ b < w.heap.size ∧ At w b (o + k * 37) (vv vs[k]) 37 := by
  rcases h with rfl | ⟨b, o, h1, h2, h3⟩
  · exact absurd hk (by simp)
  · exact ⟨b, o, h1, h2, h3 k hk⟩
end Go.Proofs.Ytmcnempkddahcaa
