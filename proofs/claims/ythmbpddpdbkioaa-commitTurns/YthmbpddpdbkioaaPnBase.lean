/-
  Open adds and ledgers in memory: picked by wip/pick.py out of the texts of layers 12 and 13.
-/
import Derived.Test.YthmbpddpdbkioaaEqHash
import Derived.Test.YthmbpddpdbkioaaCurHashRead
import Derived.Laws.OwnMore
import Derived.Laws.StructEq
import Derived.Laws.AppendOwn
import Derived.Deep.DeepAppendWide
import Derived.OwnWalk
import Derived.Deep.CutRange
import Derived.Deep.DeepCutAuto
namespace Go.Proofs.Ythmbpddpdbkioaa
open Go.RowKit S
set_option linter.unusedVariables false
set_option linter.unusedSimpArgs false
def nilB : ByteArray := ⟨#[]⟩
theorem take_snoc {α : Type} {l : List α} {j : Nat} {x : α} (hx : l[j]? = some x) : l.take (j + 1) = l.take j ++ [x] := by
  obtain ⟨h, rfl⟩ := List.getElem?_eq_some_iff.1 hx
  exact List.take_succ_eq_append_getElem h
theorem belowD {N : Nat} {w w' : World} (h : Below N w w') (k : Nat) : Below N w (w'.drewN k) := ⟨h.os, h.tape, h.output, h.size, h.block⟩
theorem tabv_len (f : Nat → Value) (m : Nat) : (tabv f m).toList.length = m := by rw [Array.length_toList, tabv_size]
/-- Cells that a function says, from an address on. -/
def At (w : World) (g of : Nat) (f : Nat → Value) (m : Nat) : Prop := ∀ j, j < m → w.cell? ⟨g, of + j, none⟩ = some (f j)
theorem At.below {w w' : World} {g of m B : Nat} {f : Nat → Value} (h : At w g of f m) (hb : Below B w w') (hg : g < B) : At w' g of f m := fun j hj => (hb.cell (p := ⟨g, of + j, none⟩) hg).trans (h j hj)
section
variable {P : Program}
theorem run_loadVar_at (w : World) (g o : Nat) (ty : TypeId) (f : Nat → Value) (m : Nat) (d : TypeDesc) (hg : At w g o f m)
    (hu : P.underlying ty = some d) (hd : (match d with | .struct _ | .array _ _ => true | _ => false) = true) (hi : (P.info? ty).map (·.size) = some m) :
    (loadVar ty ⟨g, o, none⟩).run P w = .ok (.agg (tabv f m)) w := by
  have hl : (loadCells ⟨g, o, none⟩ (tabv f m).toList.length).run P w = .ok (tabv f m).toList.toArray w :=
    run_loadCells_list (P := P) w ⟨g, o, none⟩ (tabv f m).toList (fun j v hv => by
      have hj : j < m := by
        have := (List.getElem?_eq_some_iff.1 hv).1
        simpa [tabv] using this
      have hadd : (⟨g, o, none⟩ : Addr).add j = ⟨g, o + j, none⟩ := by unfold Addr.add; split <;> simp_all
      rw [hadd, hg j hj]
      rw [Array.getElem?_toList, tabv_get _ _ _ hj] at hv
      exact hv)
  cases hq : P.info? ty with
  | none => simp [hq] at hi
  | some i =>
    have hs : i.size = m := by simpa [hq] using hi
    have hagg : (isAgg ty).run P w = .ok true w := by
      unfold isAgg
      rw [Sem.run_bind, run_underlying hu w]
      cases d <;> simp_all
    simp only [Array.length_toList, Array.toArray_toList, tabv_size] at hl
    simp [loadVar, Sem.run_bind, hagg, sizeOf, typeInfo, hq, hs, hl]
theorem wpW_load_at {ops : Array Oper} {rest : List Oper} {o : Oper} {a : Act} {w : World} {Q : Exit → Act → World → Prop} (ty : TypeId) (x : Operand) (ho : o.op = .load ty x)
    (g of : Nat) (hx : a.eval x = .pointer (some ⟨g, of, none⟩)) (hw : Region.wanted o (yielded ops a.tmps) = true) (f : Nat → Value) (m : Nat) (d : TypeDesc) (hg : At w g of f m)
    (hu : P.underlying ty = some d) (hd : (match d with | .struct _ | .array _ _ => true | _ => false) = true) (hi : (P.info? ty).map (·.size) = some m)
    (h : wpList P ops Q rest (a.put o.dst (.agg (tabv f m))) w) : wpList P ops Q (o :: rest) a w := by
  refine wpList_step fun K hK => ?_
  rw [if_pos hw]
  unfold Oper.wp execOp
  simp only [ho, hx, Instr.loadAt, Instr.sureAddr, Sem.run_bind, Sem.run_pure, Result.andThen_ok, run_loadVar_at w g of ty f m d hg hu hd hi]
  exact hK _ _ h
theorem run_load_at {o : Oper} {a : Act} (w : World) (ty : TypeId) (x : Operand) (ho : o.op = .load ty x) (g of : Nat) (hx : a.eval x = .pointer (some ⟨g, of, none⟩)) (f : Nat → Value) (m : Nat) (d : TypeDesc) (hg : At w g of f m)
    (hu : P.underlying ty = some d) (hd : (match d with | .struct _ | .array _ _ => true | _ => false) = true) (hi : (P.info? ty).map (·.size) = some m) : (execOp a.eval o).run P w = .ok (.value (.agg (tabv f m))) w := by
  unfold execOp
  simp only [ho, hx, Instr.loadAt, Instr.sureAddr, Sem.run_bind, Sem.run_pure, Result.andThen_ok, run_loadVar_at w g of ty f m d hg hu hd hi]
end
theorem Has.at_ {w : World} {g m k : Nat} {t : TypeId} {f f' : Nat → Value} (h : Has w g t f m) (o : Nat) (hm : o + k ≤ m) (e : ∀ j, j < k → f (o + j) = f' j) : At w g o f' k := fun j hj => by rw [h.cell (o + j) (by omega), e j hj]
/-- Hashes and slots against one another. -/
def eqH (f g : Nat → UInt8) : Bool := (List.range 32).all fun i => f i == g i
theorem eqH_refl (f : Nat → UInt8) : eqH f f = true := all_same f
theorem eqH_iff (f g : Nat → UInt8) : eqH f g = true ↔ ∀ i, i < 32 → f i = g i := by
  unfold eqH
  rw [List.all_eq_true]
  exact ⟨fun h i hi => eq_of_beq (h i (List.mem_range.2 hi)), fun h i hi => beq_iff_eq.2 (h i (List.mem_range.1 hi))⟩
theorem eqH_tab {f g : Nat → UInt8} (h : eqH f g = true) : tabv (bv f) 32 = tabv (bv g) 32 := tabv_congr _ _ _ fun i hi => by unfold bv; rw [(eqH_iff f g).1 h i hi]
theorem eqItemsD (d : Nat) (w : World) (f g : Nat → UInt8) : ∀ is : List Nat, (∀ i ∈ is, i < 32) → (Op.eqItems (d + 1) 5 1 (tabv (bv f) 32) (tabv (bv g) 32) is).run Try.prog w = .ok (is.all fun i => f i == g i) w
  | [], _ => by simp [Op.eqItems]
  | i :: is, h => by
    have hi := h i (by simp)
    have ih := eqItemsD d w f g is (fun j hj => h j (by simp [hj]))
    have e1 : (part 5 (tabv (bv f) 32) (i * 1)).run Try.prog w = .ok (.int .u8 ((f i).toNat : Int)) w := by
      rw [Nat.mul_one]; simp [part, isAgg, run_underlying Try.underlying5, tabv_get _ _ _ hi, bv]
    have e2 : (part 5 (tabv (bv g) 32) (i * 1)).run Try.prog w = .ok (.int .u8 ((g i).toNat : Int)) w := by
      rw [Nat.mul_one]; simp [part, isAgg, run_underlying Try.underlying5, tabv_get _ _ _ hi, bv]
    have e3 : (Op.equalIn (d + 1) 5 (.int .u8 ((f i).toNat : Int)) (.int .u8 ((g i).toNat : Int))).run Try.prog w = .ok (f i == g i) w := by
      rw [run_equalIn_int w d 5 .u8 .u8 _ _ Try.underlying5]
      refine congrArg (fun b => Result.ok b w) ?_
      rw [Bool.eq_iff_iff, beq_iff_eq, beq_iff_eq, ← UInt8.toNat_inj]
      omega
    simp only [Op.eqItems, Sem.run_bind, e1, e2, e3, Result.andThen_ok, List.all_cons]
    cases f i == g i
    · simp
    · simpa using ih
theorem eqHD (d : Nat) (w : World) (f g : Nat → UInt8) : (Op.equalIn (d + 2) 30 (.agg (tabv (bv f) 32)) (.agg (tabv (bv g) 32))).run Try.prog w = .ok (eqH f g) w := by
  obtain ⟨i, hi⟩ : ∃ i, Try.prog.info? 5 = some i := Option.isSome_iff_exists.1 (by kernel_rfl)
  have hc : Try.prog.cellsOf 5 = 1 := by kernel_rfl
  rw [run_equalIn_array w (d + 1) (tabv (bv f) 32) (tabv (bv g) 32) Try.underlying30 hi, hc]
  exact eqItemsD d w f g _ (fun i hi => List.mem_range.1 hi)
theorem grown_all {w w' : World} {o : Obj} {r : Option Nat} {B : Nat} (h : (w.alloc o).grownBy w' r) (hr : ∀ k, r = some k → B ≤ k) (hB : B ≤ w.heap.size) : (∀ g, g < w.heap.size → r ≠ some g → w'.heap[g]? = w.heap[g]?) ∧ Below B w w' := by
  have h1 : ∀ g, g < w.heap.size → r ≠ some g → w'.heap[g]? = w.heap[g]? := fun g hg hne => by
    rw [h.block g (by rw [size_alloc]; omega) (fun e => hne e.symm)]
    exact heap_alloc_old w o hg
  refine ⟨h1, ⟨h.os, h.tape, h.output, Nat.le_trans (by rw [size_alloc]; omega) h.size, fun k hk => h1 k (by omega) (fun e => by have := hr k e; omega)⟩⟩
theorem wpRun {P : Program} {o : Oper} {a : Act} {w w' : World} {next : Act → World → Prop} {Q : Exit → Act → World → Prop} {v : Value} (h : (execOp a.eval o).run P w = .ok (.value v) w') (k : next (a.put o.dst v) w') : Oper.wp P o a w next Q := by
  unfold Oper.wp; rw [h]; exact k
theorem wpList_app {P : Program} {ops : Array Oper} {rest : List Oper} {o : Oper} {a : Act} {w w' : World} {Q : Exit → Act → World → Prop} {v : Value} (hg : o.guard = none) (s x : Operand) (tys : Array TypeId) (ho : o.op = .call { callee := .builtin .append, args := #[s, x], argTypes := tys }) (h : (Builtin.append_ tys o.type #[a.eval s, a.eval x]).run P w = .ok v w') (k : wpList P ops Q rest (a.put o.dst v) w') : wpList P ops Q (o :: rest) a w :=
  wpList_plain hg fun K hK => wpRun (by simp [execOp, ho, resolve, invoke, builtin, h, Result.andThen]) (hK _ _ k)
theorem wpList_slice1 {P : Program} {ops : Array Oper} {rest : List Oper} {o : Oper} {a : Act} {w w' : World} {Q : Exit → Act → World → Prop} {v : Value} (hg : o.guard = none) (T : TypeId) (x : Operand) (ho : o.op = .buildSlice T 1 #[(0, x)]) (y : Value) (hy : a.eval x = y) (h : (Instr.buildSlice T 1 #[(0, y)]).run P w = .ok v w') (k : wpList P ops Q rest (a.put o.dst v) w') : wpList P ops Q (o :: rest) a w :=
  wpList_plain hg fun K hK => wpRun (by simp [execOp, ho, hy, h, Result.andThen]) (hK _ _ k)
section
variable {ops : Array Oper} {rest : List Oper} {o : Oper} {a : Act} {w w' : World} {Q : Exit → Act → World → Prop}
theorem wpW_slice1 {P : Program} {v : Value} (hw : Region.wanted o (yielded ops a.tmps) = true) (T : TypeId) (x : Operand) (ho : o.op = .buildSlice T 1 #[(0, x)]) (y : Value) (hy : a.eval x = y) (h : (Instr.buildSlice T 1 #[(0, y)]).run P w = .ok v w') (k : wpList P ops Q rest (a.put o.dst v) w') : wpList P ops Q (o :: rest) a w := by
  refine wpList_step fun K hK => ?_
  rw [if_pos hw]
  exact wpRun (by simp [execOp, ho, hy, h, Result.andThen]) (hK _ _ k)
theorem wpW_build (hw : Region.wanted o (yielded ops a.tmps) = true) (T : TypeId) (ps : Array (Nat × Operand)) (ho : o.op = .build T ps) (vals : List (Nat × Value)) (he : (ps.map fun (i, y) => (i, a.eval y)).toList = vals) (cs : Array Value) (hb : Try.prog.built T vals = some cs)
    (hk : wpList Try.prog ops Q rest (a.put o.dst (.agg cs)) w) : wpList Try.prog ops Q (o :: rest) a w := by
  refine wpList_step fun K hK => ?_
  rw [if_pos hw]
  refine wp_build _ _ ho (by rw [he, hb]; rfl) ?_
  rw [he, hb]
  exact hK _ _ hk
end
theorem run_eqH {o : Oper} {a : Act} (w : World) (x y : Operand) (A B : Array Value) (R : Bool) (ho : o.op = .binOp .eql 30 x y 30) (hx : a.eval x = .agg A) (hy : a.eval y = .agg B)
    (hq : (Op.equalIn 10000 30 (.agg A) (.agg B)).run Try.prog w = .ok R w) : (execOp a.eval o).run Try.prog w = .ok (.value (.bool R)) w := by
  have gh := guard26
  unfold execOp
  simp only [ho, hx, hy]
  go_simp
theorem run_neH {o : Oper} {a : Act} (w : World) (x y : Operand) (A B : Array Value) (R : Bool) (ho : o.op = .binOp .neq 30 x y 30) (hx : a.eval x = .agg A) (hy : a.eval y = .agg B)
    (hq : (Op.equalIn 10000 30 (.agg A) (.agg B)).run Try.prog w = .ok R w) : (execOp a.eval o).run Try.prog w = .ok (.value (.bool (!R))) w := by
  have gh := guard26
  unfold execOp
  simp only [ho, hx, hy]
  go_simp
/-- What may have turned: blocks of S alone. -/
structure Keep (S : Nat → Prop) (w w' : World) : Prop where
  os : w'.os = w.os
  tape : w'.tape = w.tape
  output : w'.output = w.output
  size : w.heap.size ≤ w'.heap.size
  block : ∀ k, k < w.heap.size → ¬ S k → w'.heap[k]? = w.heap[k]?
section
variable {S S' : Nat → Prop} {w w1 w2 w' : World} {B : Nat}
theorem Keep.refl (S : Nat → Prop) (w : World) : Keep S w w := ⟨rfl, rfl, rfl, Nat.le_refl _, fun _ _ _ => rfl⟩
theorem Keep.trans (h : Keep S w w1) (k : Keep S w1 w2) : Keep S w w2 :=
  ⟨k.os.trans h.os, k.tape.trans h.tape, k.output.trans h.output, Nat.le_trans h.size k.size, fun i hi hn => (k.block i (Nat.lt_of_lt_of_le hi h.size) hn).trans (h.block i hi hn)⟩
theorem Keep.mono (h : Keep S w w') (hS : ∀ k, k < w.heap.size → S k → S' k) : Keep S' w w' := ⟨h.os, h.tape, h.output, h.size, fun k hk hn => h.block k hk (fun e => hn (hS k hk e))⟩
theorem Keep.of_below (h : Below B w w') (hB : ∀ k, k < w.heap.size → ¬ S k → k < B) : Keep S w w' := ⟨h.os, h.tape, h.output, h.size, fun k hk hn => h.block k (hB k hk hn)⟩
theorem Keep.all (h : Below w.heap.size w w') : Keep S w w' := Keep.of_below h fun k hk _ => hk
theorem Keep.below (h : Keep S w w') (hB : B ≤ w.heap.size) (hS : ∀ k, k < B → ¬ S k) : Below B w w' := ⟨h.os, h.tape, h.output, h.size, fun k hk => h.block k (by omega) (hS k hk)⟩
theorem Keep.grown {r : Option Nat} (h : w.grownBy w' r) (hS : ∀ k, r = some k → S k) : Keep S w w' := ⟨h.os, h.tape, h.output, h.size, fun k hk hn => h.block k hk (fun e => hn (hS k e.symm))⟩
theorem Keep.transR (h : Keep S w w1) (k : Keep S' w1 w2) (hS : ∀ k, k < w.heap.size → S' k → S k) : Keep S w w2 :=
  ⟨k.os.trans h.os, k.tape.trans h.tape, k.output.trans h.output, Nat.le_trans h.size k.size, fun i hi hn => (k.block i (Nat.lt_of_lt_of_le hi h.size) (fun e => hn (hS i hi e))).trans (h.block i hi hn)⟩
theorem keep_set (w : World) (g i : Nat) (v : Value) (h : S g) : Keep S w (w.setCell ⟨g, i, none⟩ v) :=
  ⟨rfl, rfl, rfl, by simp, fun k hk hn => heap_setCell_other w _ k v (fun e => hn (by rw [e]; exact h))⟩
end
theorem Has.same {w w' : World} {g m : Nat} {t : TypeId} {f : Nat → Value} (h : Has w g t f m) (e : w'.heap[g]? = w.heap[g]?) : Has w' g t f m := by unfold Has; rw [e]; exact h
theorem Has.keep {S : Nat → Prop} {w w' : World} {g m : Nat} {t : TypeId} {f : Nat → Value} (h : Has w g t f m) (k : Keep S w w') (hS : ¬ S g) : Has w' g t f m := h.same (k.block g h.lt hS)
theorem keep_row {S : Nat → Prop} (w : World) (g : Nat) (cs : Array Value) (h : S g) : Keep S w (w.setRow g cs) := ⟨rfl, rfl, rfl, by simp, fun k hk hn => setRow_other w g k cs (fun e => hn (by rw [e]; exact h))⟩
theorem takeH {P : Program} {ops : Array Oper} {Q : Exit → Act → World → Prop} {md : Region.Mode} {S : World → Prop} (i : Nat) (d : Option Tmp) (v : Value) {oi : Oper} {fuel : Nat} {listed : Array Bool} {a : Act} {w : World} (hi : ops[i]? = some oi) (hd : oi.dst = d)
    (hs : Region.noSelect ops = true) (hf : Region.free md ops listed i = true) (hr : (Region.ready md ops listed).contains i = true)
    (hQ : ∀ c a w, Q (.panic c) (a.put oi.dst v) w → Q (.panic c) a w) (hw : Region.wanted oi (yielded ops a.tmps) = true) (hy : ∀ w, S w → (execOp a.eval oi).run P w = .ok (.value v) w) (hS : S w)
    (h : wpAnyH P md ops Q S fuel (listed.setIfInBounds i true) (a.put d v) w) : wpAnyH P md ops Q S (fuel + 1) listed a w :=
  wpAnyH_take hi hs hf hr hQ (.inl ⟨hw, hy⟩) hS (by rw [hd]; exact h)
theorem skH {P : Program} {ops : Array Oper} {Q : Exit → Act → World → Prop} {md : Region.Mode} {S : World → Prop} (i : Nat) (d : Option Tmp) {oi : Oper} {fuel : Nat} {listed : Array Bool} {a : Act} {w : World} (hi : ops[i]? = some oi)
    (hS : S w) (h : wpAnyH P md ops Q S fuel (listed.setIfInBounds i true) (a.put d undef) w) (hd : oi.dst = d := by rfl)
    (hs : Region.noSelect ops = true := by kernel_rfl) (hf : Region.free md ops listed i = true := by kernel_rfl) (hr : (Region.ready md ops listed).contains i = true := by kernel_rfl)
    (hQ : ∀ c a w, Q (.panic c) (a.put oi.dst undef) w → Q (.panic c) a w := by exact fun _ _ _ h => h) (hw : Region.wanted oi (yielded ops a.tmps) = false := by rfl) : wpAnyH P md ops Q S (fuel + 1) listed a w :=
  wpAnyH_take hi hs hf hr hQ (.inr ⟨hw, rfl⟩) hS (by rw [hd]; exact h)
theorem wp_store_part {P : Program} {o : Oper} {a : Act} {w : World} {K : Act → World → Prop} {Q : Exit → Act → World → Prop} (ty : TypeId) (x y : Operand) (ho : o.op = .store ty x y) (hd : o.dst = none)
    (g of : Nat) (h : Nat → Value) (m : Nat) (hx : a.eval x = .pointer (some ⟨g, of, none⟩)) (hy : a.eval y = .agg (tabv h m))
    (t : TypeId) (f : Nat → Value) (M : Nat) (hg : Has w g t f M) (hm : of + m ≤ M) (hi : (P.info? ty).map (·.size) = some m)
    (h1 : ∀ i, i < m → (h i).oneCell' = true) (f' : Nat → Value) (hf : ∀ i, i < M → splice f of h m i = f' i)
    (hk : K a (w.setRow g (tabv f' M))) : o.wp P a w K Q := by
  unfold Oper.wp execOp
  simp only [ho, hx, hy, Instr.storeAt, Instr.sureAddr, Sem.run_bind, Sem.run_pure, Result.andThen_ok, run_storeVar_part w g of t ty f h M m hg hm hi h1]
  rw [tabv_congr _ f' M hf]
  show K (a.put o.dst undef) _
  rw [hd]
  exact hk
structure Pen where
  ours : Bool
  id : Int
  amt : Int
  hash : Nat → UInt8
instance : Inhabited Pen := ⟨⟨false, 0, 0, fun _ => 0⟩⟩
def Pen.v (s : Pen) : Nat → Value := fun i => if i = 0 then .bool s.ours else if i = 1 then .int .i64 s.id else if i = 2 then .int .i64 s.amt else .int .u8 ((s.hash (i - 3)).toNat : Int)
def Pen.zero : Pen := ⟨false, 0, 0, fun _ => 0⟩
def Pen.enc (s : Pen) : List Value := (tabv s.v 35).toList
theorem Pen.enc_arr (s : Pen) : s.enc.toArray = tabv s.v 35 := by unfold Pen.enc; rw [Array.toArray_toList]
theorem Pen.enc_len (s : Pen) : s.enc.length = 35 := by unfold Pen.enc; rw [Array.length_toList, tabv_size]
theorem Pen.one (s : Pen) : ∀ u ∈ s.enc, u.oneCell' = true := by
  intro u hu
  unfold Pen.enc tabv at hu
  rw [List.toList_toArray] at hu
  obtain ⟨i, _, rfl⟩ := List.mem_map.1 hu
  unfold Pen.v
  repeat' split
  all_goals rfl
theorem infoP : (Try.prog.info? 36).map (·.size) = some 35 := by kernel_rfl
def cellsP (l : List Pen) : List Value := l.flatMap Pen.enc
theorem cellsP_length : ∀ l : List Pen, (cellsP l).length = l.length * 35
  | [] => rfl
  | s :: l => by
    have : cellsP (s :: l) = s.enc ++ cellsP l := by simp [cellsP]
    rw [this, List.length_append, s.enc_len, cellsP_length l, List.length_cons]; omega
theorem cellsP_append (a b : List Pen) : cellsP (a ++ b) = cellsP a ++ cellsP b := by simp [cellsP]
theorem cellsP_one (s : Pen) : cellsP [s] = s.enc := by simp [cellsP]
theorem cellsP_get : ∀ (l : List Pen) (k : Nat) (s : Pen) (hk : l[k]? = some s) (j : Nat), j < 35 → (cellsP l)[k * 35 + j]? = s.enc[j]?
  | [], k, s, hk, j, hj => by simp at hk
  | x :: l, 0, s, hk, j, hj => by
    simp only [List.getElem?_cons_zero, Option.some.injEq] at hk
    subst hk
    have e : cellsP (x :: l) = x.enc ++ cellsP l := by simp [cellsP]
    rw [e, List.getElem?_append_left (by rw [x.enc_len]; omega), Nat.zero_mul, Nat.zero_add]
  | x :: l, k + 1, s, hk, j, hj => by
    simp only [List.getElem?_cons_succ] at hk
    have e : cellsP (x :: l) = x.enc ++ cellsP l := by simp [cellsP]
    rw [e, List.getElem?_append_right (by rw [x.enc_len]; omega), x.enc_len, show (k + 1) * 35 + j - 35 = k * 35 + j by omega]
    exact cellsP_get l k s hk j hj
def OwnP (B : Nat) (w : World) (v : Value) (l : List Pen) : Prop := w.ownsRow B 36 35 v l.length (cellsP l)
def Pen.zv : Nat → Value := fun i => if i = 0 then .bool false else if i = 1 then .int .i64 0 else if i = 2 then .int .i64 0 else .int .u8 0
theorem infoPP : ∃ i, Try.prog.info? 36 = some i ∧ i.zero = some (.agg (tabv Pen.zv 35)) ∧ i.size = 35 ∧ i.bytes = 56 := by
  have h : (Try.prog.info? 36).map (fun i => (i.zero, i.size, i.bytes)) = some (some (.agg (tabv Pen.zv 35)), 35, 56) := by kernel_rfl
  cases hq : Try.prog.info? 36 with
  | none => simp [hq] at h
  | some i => simp [hq] at h; exact ⟨i, rfl, h.1, h.2.1, h.2.2⟩
set_option maxRecDepth 100000 in
theorem run_sliceP (w : World) (s : Pen) : (Instr.buildSlice 22 1 #[(0, .agg (tabv s.v 35))]).run Try.prog w = .ok (.slice (some ⟨w.heap.size, 0, none⟩) 1 1) (w.alloc (.cells (tabv s.v 35) 36)) := by
  obtain ⟨i, h1, h2, h3, h4⟩ := infoPP
  have e : Instr.fill (fun i => some (i * 35, 35)) ((Array.range 35).map ((tabv Pen.zv 35)[· % 35]!)) [(0, .agg (tabv s.v 35))] = some (tabv s.v 35) := by kernel_rfl
  have ez : (Value.agg (tabv Pen.zv 35)).cells = tabv Pen.zv 35 := rfl
  simp only [Instr.buildSlice, Sem.run_bind, run_underlying Try.underlying22, Result.andThen_ok, sizeOf, typeInfo, h1, h3]
  simp [zeroValue, typeInfo, h1, h2, ez, tabv_size]
  rw [h3, if_neg (by omega), if_neg (by omega), e]
  simp [newRow]
theorem OwnP.nil (B : Nat) (w : World) : OwnP B w (.slice none 0 0) [] := World.ownsRow_nil w B _ _
theorem OwnP.lt {B : Nat} {w : World} {v : Value} {l : List Pen} (h : OwnP B w v l) : ∀ k, v.ownBlock = some k → B ≤ k ∧ k < w.heap.size := World.ownsRow.lt h
theorem OwnP.same {B : Nat} {w w' : World} {v : Value} {l : List Pen} (h : OwnP B w v l) (e : ∀ k, v.ownBlock = some k → w'.heap[k]? = w.heap[k]?) : OwnP B w' v l := by
  refine ⟨h.1, h.2.imp id fun ⟨g, cap, cur, h1, h2, h3, h4⟩ => ⟨g, cap, cur, h1, h2, ?_, h4⟩⟩
  rw [e g (by rw [h1]; rfl), h3]
theorem OwnP.below {B : Nat} {w w' : World} {v : Value} {l : List Pen} (h : OwnP B w v l) (hb : Below w.heap.size w w') : OwnP B w' v l := h.same fun k hk => hb.block k (h.lt k hk).2
theorem OwnP.keep {S : Nat → Prop} {B : Nat} {w w' : World} {v : Value} {l : List Pen} (h : OwnP B w v l) (k : Keep S w w') (hS : ∀ k, v.ownBlock = some k → ¬ S k) : OwnP B w' v l := h.same fun i hi => k.block i (h.lt i hi).2 (hS i hi)
theorem run_appP (w : World) (B : Nat) (v : Value) (l : List Pen) (s : Pen) (hown : OwnP B w v l) (hsz : (l.length + 1) * 56 ≤ 140737488355328) (hB : B ≤ w.heap.size) :
    ∃ v' w1 w', (Instr.buildSlice 22 1 #[(0, .agg (tabv s.v 35))]).run Try.prog w = .ok (.slice (some ⟨w.heap.size, 0, none⟩) 1 1) w1 ∧ (Builtin.append_ #[22, 22] 22 #[v, .slice (some ⟨w.heap.size, 0, none⟩) 1 1]).run Try.prog w1 = .ok v' w' ∧ OwnP B w' v' (l ++ [s]) ∧ (∀ g, g < w.heap.size → v.ownBlock ≠ some g → w'.heap[g]? = w.heap[g]?) ∧ Below B w w' := by
  obtain ⟨i, h1, h2, h3, h4⟩ := infoPP
  have hb : Has (w.alloc (.cells (tabv s.v 35) 36)) w.heap.size 36 s.v 35 := Has.new w 36 s.v 35 _ rfl
  have ho : OwnP B (w.alloc (.cells (tabv s.v 35) 36)) v l := World.ownsRow.alloc hown _
  obtain ⟨v', w', e1, e2, e3, _⟩ := run_append_own (P := Try.prog) (w.alloc (.cells (tabv s.v 35) 36)) B 22 22 36 i _ 35 56 Try.underlying22 h1 h2 h3 h4 (by rfl) (by omega) v l.length (cellsP l) ho ⟨w.heap.size, 0, none⟩ 1 1 (cellsP [s]) (by rw [cellsP_length]; rfl)
    (fun j u hj => by
      have hj' : j < 35 := by have := (List.getElem?_eq_some_iff.1 hj).1; rw [cellsP_length] at this; simpa using this
      have hadd : (⟨w.heap.size, 0, none⟩ : Addr).add j = ⟨w.heap.size, j, none⟩ := by unfold Addr.add; split <;> simp_all
      rw [hadd, hb.cell j hj', ← hj, cellsP_one]
      unfold Pen.enc
      rw [Array.getElem?_toList, tabv_get _ _ _ hj'])
    (by rw [cellsP_one]; exact s.one) (by unfold maxLen; omega) hsz (by rw [size_alloc]; omega)
  obtain ⟨g1, g2⟩ := grown_all e3 (fun k hk => (hown.lt k hk).1) hB
  refine ⟨v', _, w', run_sliceP w s, e1, ?_, g1, g2⟩
  unfold OwnP
  rw [List.length_append, cellsP_append]
  exact e2
theorem Keep.then_ {S : Nat → Prop} {w w1 w2 : World} (h : Keep S w w1) (k : Below w.heap.size w1 w2) : Keep S w w2 :=
  ⟨k.os.trans h.os, k.tape.trans h.tape, k.output.trans h.output, Nat.le_trans h.size k.size, fun i hi hn => (k.block i hi).trans (h.block i hi hn)⟩
def ledv (x y : Int) (v : Value) : Nat → Value := fun i => if i = 0 then .int .i64 x else if i = 1 then .int .i64 y else v
theorem zeroL : (#[.int .i64 0, .int .i64 0, .slice none 0 0] : Array Value) = tabv (ledv 0 0 (.slice none 0 0)) 3 := rfl
theorem infoL : (Try.prog.info? 24).map (·.size) = some 3 := by kernel_rfl
theorem OwnP.mono {B B' : Nat} {w : World} {v : Value} {l : List Pen} (h : OwnP B w v l) (hb : B' ≤ B) : OwnP B' w v l :=
  ⟨h.1, h.2.imp id fun ⟨g, cap, cur, h1, h2, h3⟩ => ⟨g, cap, cur, h1, Nat.le_trans hb h2, h3⟩⟩
theorem run_appPP (w : World) (B B2 : Nat) (v v2 : Value) (l l2 : List Pen) (h : OwnP B w v l) (h2 : OwnP B2 w v2 l2) (hsz : l.length + l2.length ≤ 3910000000000) (hB : B ≤ w.heap.size) :
    ∃ v' w', (Builtin.append_ #[22, 22] 22 #[v, v2]).run Try.prog w = .ok v' w' ∧ OwnP B w' v' (l ++ l2) ∧ w.grownBy w' v.ownBlock := by
  obtain ⟨i, h1, h2', h3, h4⟩ := infoPP
  obtain ⟨_, ⟨rfl, hn⟩ | ⟨g, cap, cur, rfl, hb, hg, q1, q2, q3, q4⟩⟩ := h2
  · have : l2 = [] := List.length_eq_zero_iff.1 hn
    subst this
    refine ⟨v, w, ?_, by rw [List.append_nil]; exact h, ⟨rfl, rfl, rfl, Nat.le_refl _, fun _ _ _ => rfl⟩⟩
    obtain ⟨_, ⟨rfl, _⟩ | ⟨g, cap, cur, rfl, hb, hg, q1, q2, q3, q4⟩⟩ := h
    · simp [Builtin.append_, run_underlying Try.underlying22, sizeOf, typeInfo, h1, Builtin.lenOf, Builtin.firstCells, storeCells, loadCells, loadCellsFrom]
    · simp [Builtin.append_, run_underlying Try.underlying22, sizeOf, typeInfo, h1, Builtin.lenOf, Builtin.firstCells, storeCells, loadCells, loadCellsFrom, q1]
  · obtain ⟨v', w', e1, e2, e3, _⟩ := run_append_own_wide (P := Try.prog) w B 22 22 36 i _ 35 56 Try.underlying22 h1 h2' h3 h4 (by rfl) (by omega) v l.length (cellsP l) h ⟨g, 0, none⟩ l2.length cap (cellsP l2) (cellsP_length l2)
      (fun j u hj => by
        have hj' : j < l2.length * 35 := by have := (List.getElem?_eq_some_iff.1 hj).1; rw [cellsP_length] at this; exact this
        have hadd : (⟨g, 0, none⟩ : Addr).add j = ⟨g, j, none⟩ := by unfold Addr.add; split <;> simp_all
        rw [hadd, cell_of_row w g j cur _ (0, 0) hg, ← Array.getElem?_toList, ← hj, ← q4, List.getElem?_take_of_lt hj'])
      (fun u hu => by
        obtain ⟨s, _, hs⟩ := List.mem_flatMap.1 hu
        exact s.one u hs) (by unfold maxLen; omega) (by omega) hB
    refine ⟨v', w', e1, ?_, e3⟩
    unfold OwnP
    rw [List.length_append, cellsP_append]
    exact e2
theorem OwnP.form {B : Nat} {w : World} {v : Value} {l : List Pen} (h : OwnP B w v l) : ∃ ad n c, v = .slice ad n c := by
  obtain ⟨_, ⟨rfl, _⟩ | ⟨g, cap, cur, rfl, _⟩⟩ := h
  · exact ⟨_, _, _, rfl⟩
  · exact ⟨_, _, _, rfl⟩
theorem OwnP.one {B : Nat} {w : World} {v : Value} {l : List Pen} (h : OwnP B w v l) : v.oneCell' = true := by
  obtain ⟨_, ⟨rfl, _⟩ | ⟨g, cap, cur, rfl, _⟩⟩ := h <;> rfl
theorem one_ledv (x y : Int) (v : Value) (hv : v.oneCell' = true) (i : Nat) : (ledv x y v i).oneCell' = true := by unfold ledv; split; rfl; split; rfl; exact hv

/-- Open adds behind a slice's address. -/
def Pens (w : World) (ad : Option Addr) (l : List Pen) : Prop := l = [] ∨ ∃ b o, ad = some ⟨b, o, none⟩ ∧ b < w.heap.size ∧ ∀ i s, l[i]? = some s → At w b (o + i * 35) s.v 35
theorem Pens.get {w : World} {ad : Option Addr} {l : List Pen} (h : Pens w ad l) (k : Nat) (s : Pen) (hk : l[k]? = some s) : ∃ b o, ad = some ⟨b, o, none⟩ ∧ b < w.heap.size ∧ At w b (o + k * 35) s.v 35 := by
  rcases h with rfl | ⟨b, o, h1, h2, h3⟩
  · simp at hk
  · exact ⟨b, o, h1, h2, h3 k s hk⟩
theorem Pens.below {w w' : World} {ad : Option Addr} {l : List Pen} (h : Pens w ad l) (hb : Below w.heap.size w w') : Pens w' ad l := by
  rcases h with rfl | ⟨b, o, h1, h2, h3⟩
  · exact .inl rfl
  · exact .inr ⟨b, o, h1, Nat.lt_of_lt_of_le h2 hb.size, fun i s hs => (h3 i s hs).below hb h2⟩
theorem OwnP.pens {B : Nat} {w : World} {v : Value} {l : List Pen} (h : OwnP B w v l) : ∃ ad cap, v = .slice ad l.length cap ∧ Pens w ad l ∧ (∀ x, ad = some x → x.block < w.heap.size ∧ B ≤ x.block) ∧ l.length ≤ cap ∧ cap ≤ maxLen := by
  obtain ⟨hl, ⟨rfl, hn⟩ | ⟨g, cap, cur, rfl, hb, hg, h1, h2, h3, h4⟩⟩ := h
  · have : l = [] := List.length_eq_zero_iff.1 hn
    subst this
    exact ⟨none, 0, rfl, .inl rfl, (fun x hx => by cases hx), by simp, by decide⟩
  · have hlt : g < w.heap.size := by
      rcases Nat.lt_or_ge g w.heap.size with h | h
      · exact h
      · rw [Array.getElem?_eq_none h] at hg; cases hg
    refine ⟨some ⟨g, 0, none⟩, cap, rfl, .inr ⟨g, 0, rfl, hlt, fun i s hs j hj => ?_⟩, (fun x hx => by cases hx; exact ⟨hlt, hb⟩), h1, h2⟩
    rw [cell_of_row w g _ cur _ (0, 0) hg]
    have hi : i < l.length := (List.getElem?_eq_some_iff.1 hs).1
    have e := cellsP_get l i s hs j hj
    rw [← h4, List.getElem?_take] at e
    rw [if_pos (by omega), Array.getElem?_toList] at e
    rw [show 0 + i * 35 + j = i * 35 + j by omega, e]
    unfold Pen.enc
    rw [Array.getElem?_toList, tabv_get _ _ _ hj]
def eqP (s t : Pen) : Bool := (s.ours == t.ours) && ((s.id == t.id) && ((s.amt == t.amt) && eqH s.hash t.hash))
theorem eqP_refl (s : Pen) : eqP s s = true := by unfold eqP; rw [eqH_refl]; simp
theorem fieldsPen : (Try.prog.fieldsOf 36).toList.map (fun f => (f.name, f.type, f.offset)) = [("Ours", 4, 0), ("ID", 2, 1), ("Amount", 2, 2), ("Hash", 30, 3)] := by kernel_rfl
theorem Pen.v_hash (s : Pen) (j : Nat) (hj : j < 32) : s.v (3 + j) = bv s.hash j := by
  unfold Pen.v bv
  rw [if_neg (by omega), if_neg (by omega), if_neg (by omega), Nat.add_sub_cancel_left]
theorem partHashP (w : World) (s : Pen) : (part 30 (tabv s.v 35) 3).run Try.prog w = .ok (.agg (tabv (bv s.hash) 32)) w := by
  have hi : (Try.prog.info? 30).map (·.size) = some 32 := by kernel_rfl
  cases hq : Try.prog.info? 30 with
  | none => simp [hq] at hi
  | some i =>
    have hs : i.size = 32 := by simpa [hq] using hi
    have e : (tabv s.v 35).extract 3 35 = tabv (bv s.hash) 32 := by
      refine tabv_ext _ _ _ (by simp [tabv_size]) fun i hi => ?_
      rw [Array.getElem?_extract, tabv_get _ _ _ (by omega)]
      simp only [tabv_size]
      rw [if_pos (by omega), Pen.v_hash s i hi]
    simp [part, isAgg, run_underlying Try.underlying30, sizeOf, typeInfo, hq, hs, e]
set_option maxRecDepth 100000 in
theorem eqPD (w : World) (s t : Pen) : (Op.equalIn 10000 36 (.agg (tabv s.v 35)) (.agg (tabv t.v 35))).run Try.prog w = .ok (eqP s t) w := by
  rw [run_equalIn_struct w 9999 36 _ _ (by kernel_rfl) (by kernel_rfl)]
  have hf := fieldsPen
  generalize (Try.prog.fieldsOf 36).toList = fs at hf
  rcases fs with _ | ⟨f0, _ | ⟨f1, _ | ⟨f2, _ | ⟨f3, _ | ⟨f4, fs⟩⟩⟩⟩⟩
  · simp at hf
  · simp at hf
  · simp at hf
  · simp at hf
  · simp only [List.map_cons, List.map_nil, List.cons.injEq, Prod.mk.injEq, and_true] at hf
    obtain ⟨⟨n0, t0, o0⟩, ⟨n1, t1, o1⟩, ⟨n2, t2, o2⟩, n3, t3, o3⟩ := hf
    have p0 : ∀ s : Pen, (part 4 (tabv s.v 35) 0).run Try.prog w = .ok (.bool s.ours) w := fun s => by simp [part, isAgg, run_underlying Try.underlying4, tabv_get _ _ _ (show 0 < 35 by omega), Pen.v]
    have p1 : ∀ s : Pen, (part 2 (tabv s.v 35) 1).run Try.prog w = .ok (.int .i64 s.id) w := fun s => by simp [part, isAgg, run_underlying Try.underlying2, tabv_get _ _ _ (show 1 < 35 by omega), Pen.v]
    have p2 : ∀ s : Pen, (part 2 (tabv s.v 35) 2).run Try.prog w = .ok (.int .i64 s.amt) w := fun s => by simp [part, isAgg, run_underlying Try.underlying2, tabv_get _ _ _ (show 2 < 35 by omega), Pen.v]
    have q0 : (Op.equalIn 9999 4 (.bool s.ours) (.bool t.ours)).run Try.prog w = .ok (s.ours == t.ours) w := run_equalIn_bool w 9998 4 _ _ Try.underlying4
    have q1 : (Op.equalIn 9999 2 (.int .i64 s.id) (.int .i64 t.id)).run Try.prog w = .ok (s.id == t.id) w := run_equalIn_int w 9998 2 .i64 .i64 _ _ Try.underlying2
    have q2 : (Op.equalIn 9999 2 (.int .i64 s.amt) (.int .i64 t.amt)).run Try.prog w = .ok (s.amt == t.amt) w := run_equalIn_int w 9998 2 .i64 .i64 _ _ Try.underlying2
    have q3 : (Op.equalIn 9999 30 (.agg (tabv (bv s.hash) 32)) (.agg (tabv (bv t.hash) 32))).run Try.prog w = .ok (eqH s.hash t.hash) w := eqHD 9997 w _ _
    have m0 : f0.name ≠ "_" := by rw [n0]; decide
    have m1 : f1.name ≠ "_" := by rw [n1]; decide
    have m2 : f2.name ≠ "_" := by rw [n2]; decide
    have m3 : f3.name ≠ "_" := by rw [n3]; decide
    simp only [Op.eqFields, if_pos m0, if_pos m1, if_pos m2, if_pos m3, t0, t1, t2, t3, o0, o1, o2, o3, Sem.run_bind, p0, p1, p2, partHashP, q0, q1, q2, q3, Result.andThen_ok]
    unfold eqP
    generalize (s.ours == t.ours) = b0 at *
    generalize (s.id == t.id) = b1 at *
    generalize (s.amt == t.amt) = b2 at *
    generalize eqH s.hash t.hash = b3 at *
    cases b0 <;> cases b1 <;> cases b2 <;> cases b3 <;> simp [partHashP, p1, p2, q1, q2, q3]
  · simp at hf
theorem guardP : Try.prog.eqGuardType Try.prog.depth 36 = false := by kernel_rfl
section
variable {P : Program} {o : Oper} {a : Act} {w w' : World} {v : Value} {K : Act → World → Prop} {Q : Exit → Act → World → Prop}
theorem wp_app (s x : Operand) (tys : Array TypeId) (ho : o.op = .call { callee := .builtin .append, args := #[s, x], argTypes := tys }) (h : (Builtin.append_ tys o.type #[a.eval s, a.eval x]).run P w = .ok v w') (d : Option Tmp) (hd : o.dst = d) (k : K (a.put d v) w') : o.wp P a w K Q := by
  subst hd
  exact wpRun (by simp [execOp, ho, resolve, invoke, builtin, h, Result.andThen]) k
theorem wp_slice1 (T : TypeId) (x : Operand) (ho : o.op = .buildSlice T 1 #[(0, x)]) (y : Value) (hy : a.eval x = y) (h : (Instr.buildSlice T 1 #[(0, y)]).run P w = .ok v w') (d : Option Tmp) (hd : o.dst = d) (k : K (a.put d v) w') : o.wp P a w K Q := by
  subst hd
  exact wpRun (by simp [execOp, ho, hy, h, Result.andThen]) k
theorem wp_slice0 (T : TypeId) (ho : o.op = .buildSlice T 0 #[]) (h : (Instr.buildSlice T 0 #[]).run P w = .ok v w') (d : Option Tmp) (hd : o.dst = d) (k : K (a.put d v) w') : o.wp P a w K Q := by
  subst hd
  exact wpRun (by simp [execOp, ho, h, Result.andThen]) k
end
theorem run_buildQ {o : Oper} {a : Act} (w : World) (T : TypeId) (ps : Array (Nat × Operand)) (ho : o.op = .build T ps) (vals : List (Nat × Value)) (he : (ps.map fun (i, y) => (i, a.eval y)).toList = vals) (cs : Array Value) (hb : Try.prog.built T vals = some cs) : (execOp a.eval o).run Try.prog w = .ok (.value (.agg cs)) w := by
  unfold execOp
  simp only [ho, Sem.run_bind, run_build w T _ cs (by rw [he]; exact hb), Result.andThen_ok]
  rfl
theorem run_eqP {o : Oper} {a : Act} (w : World) (x y : Operand) (s t : Pen) (R : Bool) (ho : o.op = .binOp .eql 36 x y 36) (hx : a.eval x = .agg (tabv s.v 35)) (hy : a.eval y = .agg (tabv t.v 35))
    (hq : ∀ w : World, (Op.equalIn 10000 36 (.agg (tabv s.v 35)) (.agg (tabv t.v 35))).run Try.prog w = .ok R w) : (execOp a.eval o).run Try.prog w = .ok (.value (.bool R)) w := by
  have gh := guardP
  unfold execOp
  simp only [ho, hx, hy]
  go_simp
theorem run_appPW (w : World) (B : Nat) (v : Value) (l : List Pen) (s : Pen) (hown : OwnP B w v l) (hsz : l.length ≤ 3910000000000) (hB : B ≤ w.heap.size) :
    ∃ v' w1 w', (Instr.buildSlice 22 1 #[(0, .agg (tabv s.v 35))]).run Try.prog w = .ok (.slice (some ⟨w.heap.size, 0, none⟩) 1 1) w1 ∧ (Builtin.append_ #[22, 22] 22 #[v, .slice (some ⟨w.heap.size, 0, none⟩) 1 1]).run Try.prog w1 = .ok v' w' ∧ OwnP B w' v' (l ++ [s]) ∧ (∀ g, g < w.heap.size → v.ownBlock ≠ some g → w'.heap[g]? = w.heap[g]?) ∧ Below B w w' := by
  obtain ⟨i, h1, h2, h3, h4⟩ := infoPP
  have hb : Has (w.alloc (.cells (tabv s.v 35) 36)) w.heap.size 36 s.v 35 := Has.new w 36 s.v 35 _ rfl
  have ho : OwnP B (w.alloc (.cells (tabv s.v 35) 36)) v l := World.ownsRow.alloc hown _
  obtain ⟨v', w', e1, e2, e3, _⟩ := run_append_own_wide (P := Try.prog) (w.alloc (.cells (tabv s.v 35) 36)) B 22 22 36 i _ 35 56 Try.underlying22 h1 h2 h3 h4 (by rfl) (by omega) v l.length (cellsP l) ho ⟨w.heap.size, 0, none⟩ 1 1 (cellsP [s]) (by rw [cellsP_length]; rfl)
    (fun j u hj => by
      have hj' : j < 35 := by have := (List.getElem?_eq_some_iff.1 hj).1; rw [cellsP_length] at this; simpa using this
      have hadd : (⟨w.heap.size, 0, none⟩ : Addr).add j = ⟨w.heap.size, j, none⟩ := by unfold Addr.add; split <;> simp_all
      rw [hadd, hb.cell j hj', ← hj, cellsP_one]
      unfold Pen.enc
      rw [Array.getElem?_toList, tabv_get _ _ _ hj'])
    (by rw [cellsP_one]; exact s.one) (by unfold maxLen; omega) (by omega) (by rw [size_alloc]; omega)
  obtain ⟨g1, g2⟩ := grown_all e3 (fun k hk => (hown.lt k hk).1) hB
  refine ⟨v', _, w', run_sliceP w s, e1, ?_, g1, g2⟩
  unfold OwnP
  rw [List.length_append, cellsP_append]
  exact e2
theorem zero35 : (#[.bool false, .int .i64 0, .int .i64 0, .int .u8 0, .int .u8 0, .int .u8 0, .int .u8 0, .int .u8 0, .int .u8 0, .int .u8 0, .int .u8 0, .int .u8 0, .int .u8 0, .int .u8 0, .int .u8 0, .int .u8 0, .int .u8 0, .int .u8 0, .int .u8 0, .int .u8 0, .int .u8 0, .int .u8 0, .int .u8 0, .int .u8 0, .int .u8 0, .int .u8 0, .int .u8 0, .int .u8 0, .int .u8 0, .int .u8 0, .int .u8 0, .int .u8 0, .int .u8 0, .int .u8 0, .int .u8 0] : Array Value) = tabv Pen.zv 35 := rfl
theorem newP (w5 : World) (s : Pen) : ∃ w6 w7, w5.alloc (.cells #[.bool false, .int .i64 0, .int .i64 0, .int .u8 0, .int .u8 0, .int .u8 0, .int .u8 0, .int .u8 0, .int .u8 0, .int .u8 0, .int .u8 0, .int .u8 0, .int .u8 0, .int .u8 0, .int .u8 0, .int .u8 0, .int .u8 0, .int .u8 0, .int .u8 0, .int .u8 0, .int .u8 0, .int .u8 0, .int .u8 0, .int .u8 0, .int .u8 0, .int .u8 0, .int .u8 0, .int .u8 0, .int .u8 0, .int .u8 0, .int .u8 0, .int .u8 0, .int .u8 0, .int .u8 0, .int .u8 0] 36) = w6 ∧ Has w6 w5.heap.size 36 Pen.zv 35 ∧ w6.setRow w5.heap.size (tabv s.v 35) = w7 ∧ Has w7 w5.heap.size 36 s.v 35 ∧ Below w5.heap.size w5 w7 := by
  have q1 : Has (w5.alloc (.cells (tabv Pen.zv 35) 36)) w5.heap.size 36 Pen.zv 35 := Has.new w5 36 Pen.zv 35 _ rfl
  exact ⟨_, _, by rw [zero35], q1, rfl, q1.row _ s.v rfl, below_setRow ((Below.refl w5.heap.size w5).alloc (Nat.le_refl _) _) (Nat.le_refl _) _⟩
theorem onePv (s : Pen) (i : Nat) : (s.v i).oneCell' = true := by unfold Pen.v; repeat' split
                                                                  all_goals rfl
section
variable {ops : Array Oper} {rest : List Oper} {o : Oper} {a : Act} {w : World} {Q : Exit → Act → World → Prop}
theorem wpList_storeP (hgd : o.guard = none) (x y : Operand) (ho : o.op = .store 36 x y) (hd : o.dst = none) (g : Nat) (s : Pen) (hx : a.eval x = .pointer (some ⟨g, 0, none⟩)) (hy : a.eval y = .agg (tabv s.v 35)) (f : Nat → Value) (hg : Has w g 36 f 35)
    (hk : wpList Try.prog ops Q rest a (w.setRow g (tabv s.v 35))) : wpList Try.prog ops Q (o :: rest) a w :=
  wpList_store_part hgd 36 x y ho hd g 0 s.v 35 hx hy 36 f 35 hg (by omega) infoP (fun i _ => onePv s i) s.v (fun i hi => by unfold splice; rw [if_pos (by omega), Nat.sub_zero]) hk
end
/-- An open add as the other side sees it. -/
def flipP (p : Pen) : Pen := ⟨!p.ours, p.id, p.amt, p.hash⟩
def turnP (l : List Pen) : List Pen := (l.filter (fun p => !p.ours)).map flipP ++ (l.filter (fun p => p.ours)).map flipP
section
variable {ops : Array Oper} {rest : List Oper} {o : Oper} {a : Act} {w : World} {Q : Exit → Act → World → Prop}
theorem wpList_storeL (hgd : o.guard = none) (x y : Operand) (ho : o.op = .store 24 x y) (hd : o.dst = none) (g : Nat) (p q : Int) (v : Value) (hv : v.oneCell' = true) (hx : a.eval x = .pointer (some ⟨g, 0, none⟩)) (hy : a.eval y = .agg (tabv (ledv p q v) 3)) (f : Nat → Value) (hg : Has w g 24 f 3)
    (hk : wpList Try.prog ops Q rest a (w.setRow g (tabv (ledv p q v) 3))) : wpList Try.prog ops Q (o :: rest) a w :=
  wpList_store_part hgd 24 x y ho hd g 0 (ledv p q v) 3 hx hy 24 f 3 hg (by omega) infoL (fun i _ => one_ledv p q v hv i) (ledv p q v) (fun i hi => by unfold splice; rw [if_pos (by omega), Nat.sub_zero]) hk
end
/-- A new variable that takes a ledger. -/
theorem newL (w : World) (x y : Int) (v : Value) : ∃ wa ws, w.alloc (.cells #[.int .i64 0, .int .i64 0, .slice none 0 0] 24) = wa ∧ Has wa w.heap.size 24 (ledv 0 0 (.slice none 0 0)) 3 ∧ wa.setRow w.heap.size (tabv (ledv x y v) 3) = ws ∧ Has ws w.heap.size 24 (ledv x y v) 3 ∧ Below w.heap.size w ws := by
  have q1 : Has (w.alloc (.cells (tabv (ledv 0 0 (.slice none 0 0)) 3) 24)) w.heap.size 24 (ledv 0 0 (.slice none 0 0)) 3 := Has.new w 24 _ 3 _ rfl
  exact ⟨_, _, by rw [zeroL], q1, rfl, q1.row _ _ rfl, below_setRow ((Below.refl w.heap.size w).alloc (Nat.le_refl _) _) (Nat.le_refl _) _⟩
/-- A row of open adds of one's own, whatever they are. -/
def OwnN (B : Nat) (w : World) (v : Value) (n : Nat) : Prop := ∃ xs, w.ownsRow B 36 35 v n xs
theorem OwnP.any {B : Nat} {w : World} {v : Value} {l : List Pen} (h : OwnP B w v l) : OwnN B w v l.length := ⟨_, h⟩
theorem OwnN.lt {B : Nat} {w : World} {v : Value} {n : Nat} (h : OwnN B w v n) : ∀ k, v.ownBlock = some k → B ≤ k ∧ k < w.heap.size := World.ownsRow.lt h.choose_spec
section
variable {ops : Array Oper} {rest : List Oper} {o : Oper} {a : Act} {w : World} {Q : Exit → Act → World → Prop}
theorem wpList_storeRow (hgd : o.guard = none) (x y : Operand) (ho : o.op = .store 36 x y) (hd : o.dst = none) (g n cap j B : Nat) (p : Pen) (hx : a.eval x = .pointer (some ⟨g, j * 35, none⟩)) (hy : a.eval y = .agg (tabv p.v 35)) (hown : OwnN B w (.slice (some ⟨g, 0, none⟩) n cap) n) (hj : j < n)
    (hk : ∀ w', OwnN B w' (.slice (some ⟨g, 0, none⟩) n cap) n → Keep (· = g) w w' → wpList Try.prog ops Q rest a w') : wpList Try.prog ops Q (o :: rest) a w := by
  obtain ⟨xs, hl, ⟨e, _⟩ | ⟨g', cap', cur, e, hB, hg, h1, h2, h3, h4⟩⟩ := hown
  · cases e
  · cases e
    have hcur : cur = tabv (fun i => cur.getD i undef) (cap * 35) := by
      refine (tabv_ext _ _ _ h3 fun i hi => ?_)
      have : i < cur.size := by omega
      simp [Array.getD, this]
    have hH : Has w g 36 (fun i => cur.getD i undef) (cap * 35) := by unfold Has; rw [← hcur]; exact hg
    refine wpList_store_part hgd 36 x y ho hd g (j * 35) p.v 35 hx hy 36 _ (cap * 35) hH (by omega) infoP (fun i _ => onePv p i) _ (fun i hi => rfl) (hk _ ⟨_, ?_, .inr ⟨g, cap, _, rfl, hB, setRow_heap w g cur _ _ _ hg, h1, h2, by rw [tabv_size], rfl⟩⟩ (keep_row _ _ _ rfl))
    rw [List.length_take, Array.length_toList, tabv_size]
    have : n * 35 ≤ cap * 35 := Nat.mul_le_mul_right _ h1
    omega
end
theorem OwnN.app {B : Nat} {w : World} {v : Value} {n : Nat} (h : OwnN B w v n) (s : Pen) (hn : n ≤ 3910000000000) (hB : B ≤ w.heap.size) : ∃ v' wa w', (Instr.buildSlice 22 1 #[(0, .agg (tabv s.v 35))]).run Try.prog w = .ok (.slice (some ⟨w.heap.size, 0, none⟩) 1 1) wa ∧ (Builtin.append_ #[22, 22] 22 #[v, .slice (some ⟨w.heap.size, 0, none⟩) 1 1]).run Try.prog wa = .ok v' w' ∧ (∃ ad c, v' = .slice ad (n + 1) c) ∧ (∀ g, g < w.heap.size → v.ownBlock ≠ some g → w'.heap[g]? = w.heap[g]?) ∧ Below B w w' := by
  obtain ⟨xs, hown⟩ := h
  obtain ⟨i, h1, h2, h3, h4⟩ := infoPP
  have hb : Has (w.alloc (.cells (tabv s.v 35) 36)) w.heap.size 36 s.v 35 := Has.new w 36 s.v 35 _ rfl
  have ho := World.ownsRow.alloc hown (.cells (tabv s.v 35) 36)
  obtain ⟨v', w', e1, e2, e3, _⟩ := run_append_own_wide (P := Try.prog) (w.alloc (.cells (tabv s.v 35) 36)) B 22 22 36 i _ 35 56 Try.underlying22 h1 h2 h3 h4 (by rfl) (by omega) v n xs ho ⟨w.heap.size, 0, none⟩ 1 1 (cellsP [s]) (by rw [cellsP_length]; rfl)
    (fun j u hj => by
      have hj' : j < 35 := by have := (List.getElem?_eq_some_iff.1 hj).1; rw [cellsP_length] at this; simpa using this
      have hadd : (⟨w.heap.size, 0, none⟩ : Addr).add j = ⟨w.heap.size, j, none⟩ := by unfold Addr.add; split <;> simp_all
      rw [hadd, hb.cell j hj', ← hj, cellsP_one]
      unfold Pen.enc
      rw [Array.getElem?_toList, tabv_get _ _ _ hj'])
    (by rw [cellsP_one]; exact s.one) (by unfold maxLen; omega) (by omega) (by rw [size_alloc]; omega)
  obtain ⟨g1, g2⟩ := grown_all e3 (fun k hk => (World.ownsRow.lt hown k hk).1) hB
  refine ⟨v', _, w', run_sliceP w s, e1, ?_, g1, g2⟩
  obtain ⟨_, ⟨rfl, h⟩ | ⟨g, c, cur, rfl, _⟩⟩ := e2
  · omega
  · exact ⟨_, _, rfl⟩
/-- A ledger in a variable, its open adds a row of its own. -/
structure LgF (g B : Nat) (x y : Int) (v : Value) (l : List Pen) (w : World) : Prop where
  at_ : Has w g 24 (ledv x y v) 3
  row : OwnP B w v l
theorem LgF.below {g B : Nat} {x y : Int} {v : Value} {l : List Pen} {w w' : World} (h : LgF g B x y v l w) (k : Below w.heap.size w w') : LgF g B x y v l w' := ⟨h.at_.below k h.at_.lt, h.row.below k⟩
theorem LgF.keep {S : Nat → Prop} {g B : Nat} {x y : Int} {v : Value} {l : List Pen} {w w' : World} (h : LgF g B x y v l w) (k : Keep S w w') (h1 : ¬ S g) (h2 : ∀ i, B ≤ i → i < w.heap.size → ¬ S i) : LgF g B x y v l w' := ⟨h.at_.keep k h1, h.row.keep k (fun i hi => h2 i (h.row.lt i hi).1 (h.row.lt i hi).2)⟩
/-- A new variable takes what Fold answered. -/
theorem newLg {w0 w : World} {x y : Int} {v : Value} {l : List Pen} (ho : OwnP w0.heap.size w v l) (hb : Below w0.heap.size w0 w) : ∃ wa ws, w.alloc (.cells #[.int .i64 0, .int .i64 0, .slice none 0 0] 24) = wa ∧ Has wa w.heap.size 24 (ledv 0 0 (.slice none 0 0)) 3 ∧ wa.setRow w.heap.size (tabv (ledv x y v) 3) = ws ∧ LgF w.heap.size w0.heap.size x y v l ws ∧ Below w0.heap.size w0 ws := by
  obtain ⟨wa, ws, h1, h2, h3, h4, h5⟩ := newL w x y v
  exact ⟨wa, ws, h1, h2, h3, ⟨h4, ho.below h5⟩, hb.trans (h5.mono hb.size)⟩
end Go.Proofs.Ythmbpddpdbkioaa
