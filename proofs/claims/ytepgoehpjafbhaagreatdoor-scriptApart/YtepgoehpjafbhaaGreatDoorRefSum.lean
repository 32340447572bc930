import Derived.Test.YtepgoehpjafbhaaGreatDoorRot
import Derived.ChangeKeysEq
/-
  Blocks of memory whose cells a function says: cells, stores, whole loads and stores of a part.
-/
namespace Go.Proofs.YtepgoehpjafbhaaGreatDoor
open Go.RowKit S
def tabv (f : Nat → Value) (m : Nat) : Array Value := ((List.range m).map f).toArray
theorem tabv_size (f : Nat → Value) (m : Nat) : (tabv f m).size = m := by simp [tabv]
theorem tabv_get (f : Nat → Value) (m i : Nat) (h : i < m) : (tabv f m)[i]? = some (f i) := by simp [tabv, h]
theorem tabv_none (f : Nat → Value) (m i : Nat) (h : m ≤ i) : (tabv f m)[i]? = none := by simp [tabv, h]
theorem tabv_ext (a : Array Value) (f : Nat → Value) (m : Nat) (hs : a.size = m) (h : ∀ i, i < m → a[i]? = some (f i)) : a = tabv f m := by
  apply Array.ext_getElem?
  intro i
  rcases Nat.lt_or_ge i m with hi | hi
  · rw [h i hi, tabv_get f m i hi]
  · rw [tabv_none f m i hi, Array.getElem?_eq_none (by omega)]
theorem tabv_congr (f g : Nat → Value) (m : Nat) (h : ∀ i, i < m → f i = g i) : tabv f m = tabv g m :=
  tabv_ext _ _ _ (tabv_size f m) fun i hi => by rw [tabv_get f m i hi, h i hi]
theorem tabv_set (f : Nat → Value) (m k : Nat) (v : Value) : (tabv f m).setIfInBounds k v = tabv (upd f k v) m := by
  refine tabv_ext _ _ _ (by simp [tabv_size]) fun i hi => ?_
  rw [Array.getElem?_setIfInBounds, tabv_size, tabv_get f m i hi]
  unfold upd
  by_cases e : k = i
  · subst e; simp [hi]
  · rw [if_neg e, if_neg (fun x => e x.symm)]
/-- The part from o on, m cells, laid over by h. -/
def splice (f : Nat → Value) (o : Nat) (h : Nat → Value) (m : Nat) : Nat → Value := fun i => if o ≤ i ∧ i < o + m then h (i - o) else f i
theorem tabv_splice (f h : Nat → Value) (o m M : Nat) (hm : o + m ≤ M) : ((tabv f M).toList.take o ++ (tabv h m).toList ++ (tabv f M).toList.drop (o + (tabv h m).toList.length)).toArray = tabv (splice f o h m) M := by
  have hl : (tabv h m).toList.length = m := by simp [tabv]
  refine tabv_ext _ _ _ (by simp [tabv]; omega) fun i hi => ?_
  rw [List.getElem?_toArray, hl]
  unfold splice
  by_cases h1 : i < o
  · rw [List.append_assoc, List.getElem?_append_left (by simp [tabv]; omega), List.getElem?_take_of_lt h1, Array.getElem?_toList, tabv_get f M i hi, if_neg (by omega)]
  · by_cases h2 : i < o + m
    · rw [List.getElem?_append_left (by simp [tabv]; omega), List.getElem?_append_right (by simp [tabv]; omega), if_pos (by omega)]
      have e : i - (List.take o (tabv f M).toList).length = i - o := by simp [tabv]; omega
      rw [e, Array.getElem?_toList, tabv_get h m _ (by omega)]
    · rw [List.getElem?_append_right (by simp [tabv]; omega), if_neg (by omega)]
      have e : i - (List.take o (tabv f M).toList ++ (tabv h m).toList).length = i - (o + m) := by simp [tabv]; omega
      rw [e, List.getElem?_drop, Array.getElem?_toList, show o + m + (i - (o + m)) = i by omega, tabv_get f M i hi]
/-- Block g of w holds the m cells that f says. -/
def Has (w : World) (g : Nat) (t : TypeId) (f : Nat → Value) (m : Nat) : Prop := w.heap[g]? = some (.cells (tabv f m) t (0, 0))
section
variable {w w' : World} {g b : Nat} {t : TypeId} {f : Nat → Value} {m : Nat}
theorem Has.cell (h : Has w g t f m) (i : Nat) (hi : i < m) : w.cell? ⟨g, i, none⟩ = some (f i) := by
  rw [cell_of_row w g i _ t (0, 0) h, tabv_get f m i hi]
theorem Has.frozen (h : Has w g t f m) (i : Nat) : w.frozen? ⟨g, i, none⟩ = false := frozen_of_row w g i _ t h
theorem Has.set (h : Has w g t f m) (i : Nat) (v : Value) : Has (w.setCell ⟨g, i, none⟩ v) g t (upd f i v) m := by
  unfold Has; rw [heap_setCell_same w g i _ t _ h, tabv_set]
theorem Has.other (h : Has w g t f m) (p : Addr) (v : Value) (hp : g ≠ p.block) : Has (w.setCell p v) g t f m := by
  unfold Has; rw [heap_setCell_other w p g v hp]; exact h
theorem Has.below (h : Has w g t f m) (hb : Below b w w') (hg : g < b) : Has w' g t f m := by
  unfold Has; rw [hb.block g hg]; exact h
theorem Has.row (h : Has w g t f m) (cs : Array Value) (f' : Nat → Value) (e : cs = tabv f' m) : Has (w.setRow g cs) g t f' m := by
  rw [e]; exact setRow_heap w g _ _ t _ h
theorem Has.new (w : World) (t : TypeId) (f : Nat → Value) (m : Nat) (cs : Array Value) (h : cs = tabv f m) : Has (w.alloc (.cells cs t)) w.heap.size t f m := by
  unfold Has; rw [h]; exact heap_alloc_new w _
theorem Has.lt (h : Has w g t f m) : g < w.heap.size := by
  by_cases hlt : g < w.heap.size
  · exact hlt
  · have hn : w.heap[g]? = none := by simp; omega
    unfold Has at h; rw [hn] at h; cases h
theorem Has.old (h : Has w g t f m) (o : Obj) : Has (w.alloc o) g t f m := by
  unfold Has; rw [Below.heap_alloc w o g h.lt]; exact h
theorem Has.drew (h : Has w g t f m) : Has w.drew g t f m := h
theorem Has.drewN (h : Has w g t f m) (k : Nat) : Has (w.drewN k) g t f m := h
theorem Has.congr (h : Has w g t f m) (f' : Nat → Value) (e : ∀ i, i < m → f i = f' i) : Has w g t f' m := by
  unfold Has; rw [← tabv_congr f f' m e]; exact h
theorem below_setRow {B : Nat} {a : World} (h : Below B a w) {g : Nat} (hg : B ≤ g) (cs : Array Value) : Below B a (w.setRow g cs) :=
  h.trans ⟨rfl, rfl, rfl, by simp, fun k hk => setRow_other w g k cs (by omega)⟩
end
section
variable {P : Program}
theorem run_storeVar_part (w : World) (g o : Nat) (t ty : TypeId) (f h : Nat → Value) (M m : Nat) (hg : Has w g t f M) (hm : o + m ≤ M) (hi : (P.info? ty).map (·.size) = some m)
    (h1 : ∀ i, i < m → (h i).oneCell' = true) :
    (storeVar ty ⟨g, o, none⟩ (.agg (tabv h m))).run P w = .ok () (w.setRow g (tabv (splice f o h m) M)) := by
  have := run_storeCells_at P g o t (tabv h m).toList 0 (tabv f M) w hg (by simp [tabv]; omega) (fun v hv => by
    simp only [tabv, List.mem_map, List.mem_range] at hv
    obtain ⟨i, hi, rfl⟩ := hv
    exact h1 i hi)
  rw [Nat.add_zero] at this
  rw [tabv_splice f h o m M hm] at this
  cases hq : P.info? ty with
  | none => simp [hq] at hi
  | some i =>
    have hs : i.size = m := by simpa [hq] using hi
    simp [storeVar, sizeOf, typeInfo, hq, Value.cells, hs, this, tabv_size]
theorem wpList_store_part {ops : Array Oper} {rest : List Oper} {o : Oper} {a : Act} {w : World} {Q : Exit → Act → World → Prop} (hgd : o.guard = none) (ty : TypeId) (x y : Operand) (ho : o.op = .store ty x y) (hd : o.dst = none)
    (g of : Nat) (h : Nat → Value) (m : Nat) (hx : a.eval x = .pointer (some ⟨g, of, none⟩)) (hy : a.eval y = .agg (tabv h m))
    (t : TypeId) (f : Nat → Value) (M : Nat) (hg : Has w g t f M) (hm : of + m ≤ M) (hi : (P.info? ty).map (·.size) = some m)
    (h1 : ∀ i, i < m → (h i).oneCell' = true) (f' : Nat → Value) (hf : ∀ i, i < M → splice f of h m i = f' i)
    (hk : wpList P ops Q rest a (w.setRow g (tabv f' M))) : wpList P ops Q (o :: rest) a w :=
  wpList_plain hgd fun K hK => by
    unfold Oper.wp execOp
    simp only [ho, hx, hy, Instr.storeAt, Instr.sureAddr, Sem.run_bind, Sem.run_pure, Result.andThen_ok, run_storeVar_part w g of t ty f h M m hg hm hi h1]
    rw [tabv_congr _ f' M hf]
    refine hK _ _ ?_
    rw [hd]
    exact hk
end
end Go.Proofs.YtepgoehpjafbhaaGreatDoor
/-
  The words of a block.
-/
namespace Go.Proofs.YtepgoehpjafbhaaGreatDoor
open Go.RowKit S
def bv (b : Nat → UInt8) : Nat → Value := fun i => .int .u8 ((b i).toNat : Int)
theorem size_alloc (w : World) (o : Obj) : (w.alloc o).heap.size = w.heap.size + 1 := by simp
theorem info26 : (Tryz.prog.info? 30).map (·.size) = some 32 := by kernel_rfl
theorem Num.shr3 (n : Num) (a : BitVec 32) : n.u a / (8 : Int) = n.u (a >>> 3) := n.shr a 3
theorem Num.shr10 (n : Num) (a : BitVec 32) : n.u a / (1024 : Int) = n.u (a >>> 10) := n.shr a 10
attribute [local go_sem] Num.shr3 Num.shr10 Num.shl Num.shr Num.or Num.xor Num.and Num.add
-- left out in this seat: words_any
end Go.Proofs.YtepgoehpjafbhaaGreatDoor
/-
  Hashes against one another.
-/
namespace Go.Proofs.YtepgoehpjafbhaaGreatDoor
open Go.RowKit S
theorem guard26 : Tryz.prog.eqGuardType Tryz.prog.depth 30 = false := by kernel_rfl
theorem all_same (f : Nat → UInt8) : ((List.range 32).all fun i => f i == f i) = true := by simp
end Go.Proofs.YtepgoehpjafbhaaGreatDoor
/-
  In this seat there is no hash: what leans on it leans on the plain texts.
-/
