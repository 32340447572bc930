/-
  UPDATES: plain, and in memory.
-/
import Derived.Test.YtepgoehpjafbhaaGreatDoorRefSum
import Derived.Test.YtepgoehpjafbhaaGreatDoorRefSum
import Derived.Test.YtepgoehpjafbhaaGreatDoorCurBase
import Derived.Laws.OwnMore
import Derived.Laws.StructEq
import Derived.OwnWalk
namespace Go.Proofs.YtepgoehpjafbhaaGreatDoor
open Go.RowKit S
set_option linter.unusedVariables false
set_option linter.unusedSimpArgs false
theorem belowD {N : Nat} {w w' : World} (h : Below N w w') (k : Nat) : Below N w (w'.drewN k) := ⟨h.os, h.tape, h.output, h.size, h.block⟩
structure Upd where
  kind : Int
  id : Int
  amt : Int
  hash : Nat → UInt8
  note : ByteArray
def Upd.v (s : Upd) : Nat → Value := fun i => if i = 0 then .int .i64 s.kind else if i = 1 then .int .i64 s.id else if i = 2 then .int .i64 s.amt else if i < 35 then .int .u8 ((s.hash (i - 3)).toNat : Int) else .string s.note
def nilB : ByteArray := ⟨#[]⟩
def Upd.zero : Upd := ⟨0, 0, 0, fun _ => 0, nilB⟩
theorem tabv_len (f : Nat → Value) (m : Nat) : (tabv f m).toList.length = m := by rw [Array.length_toList, tabv_size]
/-- Cells that a function says, from an address on. -/
def At (w : World) (g of : Nat) (f : Nat → Value) (m : Nat) : Prop := ∀ j, j < m → w.cell? ⟨g, of + j, none⟩ = some (f j)
theorem At.below {w w' : World} {g of m B : Nat} {f : Nat → Value} (h : At w g of f m) (hb : Below B w w') (hg : g < B) : At w' g of f m := fun j hj => (hb.cell (p := ⟨g, of + j, none⟩) hg).trans (h j hj)
section
variable {P : Program}
theorem run_loadVar_at (w : World) (g o : Nat) (ty : TypeId) (f : Nat → Value) (m : Nat) (d : TypeDesc) (hg : At w g o f m)
    (hu : P.underlying ty = some d) (hd : (match d with | .struct _ | .array _ _ => true | _ => false) = true) (hi : (P.info? ty).map (·.size) = some m) :
    (loadVar ty ⟨g, o, none⟩).run P w = .ok (.agg (tabv f m)) w := by
  have hl : (loadCells ⟨g, o, none⟩ (tabv f m).toList.length).run P w = .ok (tabv f m).toList.toArray w :=
    run_loadCells_list (P := P) w ⟨g, o, none⟩ (tabv f m).toList (fun j v hv => by
      have hj : j < m := by
        have := (List.getElem?_eq_some_iff.1 hv).1
        simpa [tabv] using this
      have hadd : (⟨g, o, none⟩ : Addr).add j = ⟨g, o + j, none⟩ := by unfold Addr.add; split <;> simp_all
      rw [hadd, hg j hj]
      rw [Array.getElem?_toList, tabv_get _ _ _ hj] at hv
      exact hv)
  cases hq : P.info? ty with
  | none => simp [hq] at hi
  | some i =>
    have hs : i.size = m := by simpa [hq] using hi
    have hagg : (isAgg ty).run P w = .ok true w := by
      unfold isAgg
      rw [Sem.run_bind, run_underlying hu w]
      cases d <;> simp_all
    simp only [Array.length_toList, Array.toArray_toList, tabv_size] at hl
    simp [loadVar, Sem.run_bind, hagg, sizeOf, typeInfo, hq, hs, hl]
theorem wpW_load_at {ops : Array Oper} {rest : List Oper} {o : Oper} {a : Act} {w : World} {Q : Exit → Act → World → Prop} (ty : TypeId) (x : Operand) (ho : o.op = .load ty x)
    (g of : Nat) (hx : a.eval x = .pointer (some ⟨g, of, none⟩)) (hw : Region.wanted o (yielded ops a.tmps) = true) (f : Nat → Value) (m : Nat) (d : TypeDesc) (hg : At w g of f m)
    (hu : P.underlying ty = some d) (hd : (match d with | .struct _ | .array _ _ => true | _ => false) = true) (hi : (P.info? ty).map (·.size) = some m)
    (h : wpList P ops Q rest (a.put o.dst (.agg (tabv f m))) w) : wpList P ops Q (o :: rest) a w := by
  refine wpList_step fun K hK => ?_
  rw [if_pos hw]
  unfold Oper.wp execOp
  simp only [ho, hx, Instr.loadAt, Instr.sureAddr, Sem.run_bind, Sem.run_pure, Result.andThen_ok, run_loadVar_at w g of ty f m d hg hu hd hi]
  exact hK _ _ h
theorem run_load_at {o : Oper} {a : Act} (w : World) (ty : TypeId) (x : Operand) (ho : o.op = .load ty x) (g of : Nat) (hx : a.eval x = .pointer (some ⟨g, of, none⟩)) (f : Nat → Value) (m : Nat) (d : TypeDesc) (hg : At w g of f m)
    (hu : P.underlying ty = some d) (hd : (match d with | .struct _ | .array _ _ => true | _ => false) = true) (hi : (P.info? ty).map (·.size) = some m) : (execOp a.eval o).run P w = .ok (.value (.agg (tabv f m))) w := by
  unfold execOp
  simp only [ho, hx, Instr.loadAt, Instr.sureAddr, Sem.run_bind, Sem.run_pure, Result.andThen_ok, run_loadVar_at w g of ty f m d hg hu hd hi]
end
theorem Has.at_ {w : World} {g m k : Nat} {t : TypeId} {f f' : Nat → Value} (h : Has w g t f m) (o : Nat) (hm : o + k ≤ m) (e : ∀ j, j < k → f (o + j) = f' j) : At w g o f' k := fun j hj => by rw [h.cell (o + j) (by omega), e j hj]
/-- Upds behind a slice's address. -/
def Upds (w : World) (ad : Option Addr) (l : List Upd) : Prop := l = [] ∨ ∃ b o, ad = some ⟨b, o, none⟩ ∧ b < w.heap.size ∧ ∀ i s, l[i]? = some s → At w b (o + i * 36) s.v 36
theorem Upds.nil (w : World) (ad : Option Addr) : Upds w ad [] := .inl rfl
theorem Upds.get {w : World} {ad : Option Addr} {l : List Upd} (h : Upds w ad l) (k : Nat) (s : Upd) (hk : l[k]? = some s) : ∃ b o, ad = some ⟨b, o, none⟩ ∧ b < w.heap.size ∧ At w b (o + k * 36) s.v 36 := by
  rcases h with rfl | ⟨b, o, h1, h2, h3⟩
  · simp at hk
  · exact ⟨b, o, h1, h2, h3 k s hk⟩
theorem Upds.below {w w' : World} {ad : Option Addr} {l : List Upd} (h : Upds w ad l) (hb : Below w.heap.size w w') : Upds w' ad l := by
  rcases h with rfl | ⟨b, o, h1, h2, h3⟩
  · exact .inl rfl
  · exact .inr ⟨b, o, h1, Nat.lt_of_lt_of_le h2 hb.size, fun i s hs => (h3 i s hs).below hb h2⟩
/-- Hashes and slots against one another. -/
def eqH (f g : Nat → UInt8) : Bool := (List.range 32).all fun i => f i == g i
theorem eqH_refl (f : Nat → UInt8) : eqH f f = true := all_same f
theorem eqItemsD (d : Nat) (w : World) (f g : Nat → UInt8) : ∀ is : List Nat, (∀ i ∈ is, i < 32) → (Op.eqItems (d + 1) 5 1 (tabv (bv f) 32) (tabv (bv g) 32) is).run Tryz.prog w = .ok (is.all fun i => f i == g i) w
  | [], _ => by simp [Op.eqItems]
  | i :: is, h => by
    have hi := h i (by simp)
    have ih := eqItemsD d w f g is (fun j hj => h j (by simp [hj]))
    have e1 : (part 5 (tabv (bv f) 32) (i * 1)).run Tryz.prog w = .ok (.int .u8 ((f i).toNat : Int)) w := by
      rw [Nat.mul_one]; simp [part, isAgg, run_underlying Tryz.underlying5, tabv_get _ _ _ hi, bv]
    have e2 : (part 5 (tabv (bv g) 32) (i * 1)).run Tryz.prog w = .ok (.int .u8 ((g i).toNat : Int)) w := by
      rw [Nat.mul_one]; simp [part, isAgg, run_underlying Tryz.underlying5, tabv_get _ _ _ hi, bv]
    have e3 : (Op.equalIn (d + 1) 5 (.int .u8 ((f i).toNat : Int)) (.int .u8 ((g i).toNat : Int))).run Tryz.prog w = .ok (f i == g i) w := by
      rw [run_equalIn_int w d 5 .u8 .u8 _ _ Tryz.underlying5]
      refine congrArg (fun b => Result.ok b w) ?_
      rw [Bool.eq_iff_iff, beq_iff_eq, beq_iff_eq, ← UInt8.toNat_inj]
      omega
    simp only [Op.eqItems, Sem.run_bind, e1, e2, e3, Result.andThen_ok, List.all_cons]
    cases f i == g i
    · simp
    · simpa using ih
theorem eqHD (d : Nat) (w : World) (f g : Nat → UInt8) : (Op.equalIn (d + 2) 30 (.agg (tabv (bv f) 32)) (.agg (tabv (bv g) 32))).run Tryz.prog w = .ok (eqH f g) w := by
  obtain ⟨i, hi⟩ : ∃ i, Tryz.prog.info? 5 = some i := Option.isSome_iff_exists.1 (by kernel_rfl)
  have hc : Tryz.prog.cellsOf 5 = 1 := by kernel_rfl
  rw [run_equalIn_array w (d + 1) (tabv (bv f) 32) (tabv (bv g) 32) Tryz.underlying30 hi, hc]
  exact eqItemsD d w f g _ (fun i hi => List.mem_range.1 hi)
end Go.Proofs.YtepgoehpjafbhaaGreatDoor
