/-
  Rows of updates, grown by append; literals.
-/
import Derived.Test.YtnmoheipfadmeaaULists
import Derived.Laws.AppendOwn
namespace Go.Proofs.Ytnmoheipfadmeaa
open Go.RowKit S
set_option linter.unusedVariables false
set_option linter.unusedSimpArgs false
set_option maxRecDepth 100000 in
theorem run_sliceU (w : World) (s : Upd) : (Instr.buildSlice 22 1 #[(0, .agg (tabv s.v 36))]).run Try.prog w = .ok (.slice (some ⟨w.heap.size, 0, none⟩) 1 1) (w.alloc (.cells (tabv s.v 36) 40)) := by
  obtain ⟨i, h1, h2, h3, h4⟩ := infoUP
  have e : Instr.fill (fun i => some (i * 36, 36)) ((Array.range 36).map ((tabv Upd.zero.v 36)[· % 36]!)) [(0, .agg (tabv s.v 36))] = some (tabv s.v 36) := by kernel_rfl
  have ez : (Value.agg (tabv Upd.zero.v 36)).cells = tabv Upd.zero.v 36 := rfl
  simp only [Instr.buildSlice, Sem.run_bind, run_underlying Try.underlying22, Result.andThen_ok, sizeOf, typeInfo, h1, h3]
  simp [zeroValue, typeInfo, h1, h2, ez, tabv_size]
  rw [h3, if_neg (by omega), if_neg (by omega), e]
  simp [newRow]
/-- append(v, s) onto a list of one's own. -/
theorem run_appU (w : World) (B : Nat) (v : Value) (l : List Upd) (s : Upd) (ty : TypeId) (hown : OwnU B w v l) (hsz : (l.length + 1) * 72 ≤ 140737488355328) (hB : B ≤ w.heap.size) :
    ∃ v' w', (Builtin.append_ #[22, 22] ty #[v, .slice (some ⟨w.heap.size, 0, none⟩) 1 1]).run Try.prog (w.alloc (.cells (tabv s.v 36) 40)) = .ok v' w' ∧ OwnU B w' v' (l ++ [s]) ∧ (w.alloc (.cells (tabv s.v 36) 40)).grownBy w' v.ownBlock := by
  obtain ⟨i, h1, h2, h3, h4⟩ := infoUP
  have hb : Has (w.alloc (.cells (tabv s.v 36) 40)) w.heap.size 40 s.v 36 := Has.new w 40 s.v 36 _ rfl
  have ho : OwnU B (w.alloc (.cells (tabv s.v 36) 40)) v l := World.ownsRow.alloc hown _
  obtain ⟨v', w', e1, e2, e3, _⟩ := run_append_own (P := Try.prog) (w.alloc (.cells (tabv s.v 36) 40)) B 22 ty 40 i _ 36 72 Try.underlying22 h1 h2 h3 h4 (by rfl) (by omega) v l.length (cellsU l) ho ⟨w.heap.size, 0, none⟩ 1 1 (cellsU [s]) (by rw [cellsU_length]; rfl)
    (fun j u hj => by
      have hj' : j < 36 := by have := (List.getElem?_eq_some_iff.1 hj).1; rw [cellsU_length] at this; simpa using this
      have hadd : (⟨w.heap.size, 0, none⟩ : Addr).add j = ⟨w.heap.size, j, none⟩ := by unfold Addr.add; split <;> simp_all
      rw [hadd, hb.cell j hj', ← hj, cellsU_one, Array.getElem?_toList, tabv_get _ _ _ hj'])
    (oneCell_U _) (by unfold maxLen; omega) hsz (by rw [size_alloc]; omega)
  refine ⟨v', w', e1, ?_, e3⟩
  unfold OwnU
  rw [List.length_append, cellsU_append]
  exact e2
theorem grown_all {w w' : World} {o : Obj} {r : Option Nat} {B : Nat} (h : (w.alloc o).grownBy w' r) (hr : ∀ k, r = some k → B ≤ k) (hB : B ≤ w.heap.size) : (∀ g, g < w.heap.size → r ≠ some g → w'.heap[g]? = w.heap[g]?) ∧ Below B w w' := by
  have h1 : ∀ g, g < w.heap.size → r ≠ some g → w'.heap[g]? = w.heap[g]? := fun g hg hne => by
    rw [h.block g (by rw [size_alloc]; omega) (fun e => hne e.symm)]
    exact heap_alloc_old w o hg
  refine ⟨h1, ⟨h.os, h.tape, h.output, Nat.le_trans (by rw [size_alloc]; omega) h.size, fun k hk => h1 k (by omega) (fun e => by have := hr k e; omega)⟩⟩
theorem appU_step (w : World) (B : Nat) (v : Value) (l : List Upd) (s : Upd) (hown : OwnU B w v l) (hsz : (l.length + 1) * 72 ≤ 140737488355328) (hB : B ≤ w.heap.size) :
    ∃ v' w1 w', (Instr.buildSlice 22 1 #[(0, .agg (tabv s.v 36))]).run Try.prog w = .ok (.slice (some ⟨w.heap.size, 0, none⟩) 1 1) w1 ∧ (Builtin.append_ #[22, 22] 22 #[v, .slice (some ⟨w.heap.size, 0, none⟩) 1 1]).run Try.prog w1 = .ok v' w' ∧
      OwnU B w' v' (l ++ [s]) ∧ (∀ g, g < w.heap.size → v.ownBlock ≠ some g → w'.heap[g]? = w.heap[g]?) ∧ Below B w w' := by
  obtain ⟨v', w', e1, e2, e3⟩ := run_appU w B v l s 22 hown hsz hB
  obtain ⟨h1, h2⟩ := grown_all e3 (fun k hk => (hown.lt k hk).1) hB
  exact ⟨v', _, w', run_sliceU w s, e1, e2, h1, h2⟩
theorem wpRun {P : Program} {o : Oper} {a : Act} {w w' : World} {next : Act → World → Prop} {Q : Exit → Act → World → Prop} {v : Value} (h : (execOp a.eval o).run P w = .ok (.value v) w') (k : next (a.put o.dst v) w') : Oper.wp P o a w next Q := by
  unfold Oper.wp; rw [h]; exact k
theorem wpList_app {P : Program} {ops : Array Oper} {rest : List Oper} {o : Oper} {a : Act} {w w' : World} {Q : Exit → Act → World → Prop} {v : Value} (hg : o.guard = none) (s x : Operand) (tys : Array TypeId) (ho : o.op = .call { callee := .builtin .append, args := #[s, x], argTypes := tys }) (h : (Builtin.append_ tys o.type #[a.eval s, a.eval x]).run P w = .ok v w') (k : wpList P ops Q rest (a.put o.dst v) w') : wpList P ops Q (o :: rest) a w :=
  wpList_plain hg fun K hK => wpRun (by simp [execOp, ho, resolve, invoke, builtin, h, Result.andThen]) (hK _ _ k)
theorem wpList_slice1 {P : Program} {ops : Array Oper} {rest : List Oper} {o : Oper} {a : Act} {w w' : World} {Q : Exit → Act → World → Prop} {v : Value} (hg : o.guard = none) (T : TypeId) (x : Operand) (ho : o.op = .buildSlice T 1 #[(0, x)]) (y : Value) (hy : a.eval x = y) (h : (Instr.buildSlice T 1 #[(0, y)]).run P w = .ok v w') (k : wpList P ops Q rest (a.put o.dst v) w') : wpList P ops Q (o :: rest) a w :=
  wpList_plain hg fun K hK => wpRun (by simp [execOp, ho, hy, h, Result.andThen]) (hK _ _ k)
theorem run_app_all (w : World) (ad : Option Addr) (cap : Nat) (l : List Upd) (hS : Upds w ad l) (hz : l.length * 72 ≤ 140737488355328) :
    ∃ v' w', (Builtin.append_ #[22, 22] 22 #[.slice none 0 0, .slice ad l.length cap]).run Try.prog w = .ok v' w' ∧ OwnU w.heap.size w' v' l ∧ Below w.heap.size w w' := by
  obtain ⟨i, h1, h2, h3, h4⟩ := infoUP
  cases ad with
  | none =>
    have hl : l = [] := by
      rcases hS with rfl | ⟨b, o, h, _⟩
      · rfl
      · cases h
    subst hl
    refine ⟨.slice none 0 0, w, ?_, OwnU.nil _ _, Below.refl _ _⟩
    simp [Builtin.append_, run_underlying Try.underlying22, sizeOf, typeInfo, h1, Builtin.lenOf, Builtin.firstCells, storeCells, loadCells, loadCellsFrom]
  | some a =>
    obtain ⟨v', w', e1, e2, e3, _⟩ := run_append_own (P := Try.prog) w w.heap.size 22 22 40 i _ 36 72 Try.underlying22 h1 h2 h3 h4 (by rfl) (by omega) (.slice none 0 0) 0 [] (World.ownsRow_nil w _ _ _) a l.length cap (cellsU l) (cellsU_length l)
      (fun j u hj => by
        have hjl : j < l.length * 36 := by have := (List.getElem?_eq_some_iff.1 hj).1; rw [cellsU_length] at this; exact this
        rcases hS with rfl | ⟨b, o, ha, _, h⟩
        · simp at hjl
        · cases ha
          have hk : j / 36 < l.length := by omega
          have hs : l[j / 36]? = some l[j / 36] := List.getElem?_eq_getElem hk
          have hc := h (j / 36) _ hs (j % 36) (by omega)
          have hg := cellsU_get l (j / 36) _ hs (j % 36) (by omega)
          rw [show j / 36 * 36 + j % 36 = j by omega, hj] at hg
          have hadd : (⟨b, o, none⟩ : Addr).add j = ⟨b, o + j, none⟩ := by unfold Addr.add; split <;> simp_all
          rw [hadd, hg, ← hc, show o + j / 36 * 36 + j % 36 = o + j by omega])
      (oneCell_U _) (by unfold maxLen; omega) (by omega) (Nat.le_refl _)
    refine ⟨v', w', e1, ?_, ⟨e3.os, e3.tape, e3.output, e3.size, fun k hk => e3.block k hk (by simp [Value.ownBlock])⟩⟩
    unfold OwnU
    rw [Nat.zero_add, List.nil_append] at e2
    exact e2
theorem upds_one (w : World) (s : Upd) : Upds (w.alloc (.cells (tabv s.v 36) 40)) (some ⟨w.heap.size, 0, none⟩) [s] := .inr ⟨w.heap.size, 0, rfl, by simp, fun i u hu => by
  have hi : i = 0 := by have := (List.getElem?_eq_some_iff.1 hu).1; simp at this; exact this
  subst hi
  simp only [List.getElem?_cons_zero, Option.some.injEq] at hu
  subst hu
  have h := Has.new w 40 s.v 36 _ rfl
  intro j hj
  rw [show 0 + 0 * 36 + j = j by omega]
  exact h.cell j hj⟩
section
variable {ops : Array Oper} {rest : List Oper} {o : Oper} {a : Act} {w w' : World} {Q : Exit → Act → World → Prop}
theorem wpW_slice1 {P : Program} {v : Value} (hw : Region.wanted o (yielded ops a.tmps) = true) (T : TypeId) (x : Operand) (ho : o.op = .buildSlice T 1 #[(0, x)]) (y : Value) (hy : a.eval x = y) (h : (Instr.buildSlice T 1 #[(0, y)]).run P w = .ok v w') (k : wpList P ops Q rest (a.put o.dst v) w') : wpList P ops Q (o :: rest) a w := by
  refine wpList_step fun K hK => ?_
  rw [if_pos hw]
  exact wpRun (by simp [execOp, ho, hy, h, Result.andThen]) (hK _ _ k)
theorem wpW_build (hw : Region.wanted o (yielded ops a.tmps) = true) (T : TypeId) (ps : Array (Nat × Operand)) (ho : o.op = .build T ps) (vals : List (Nat × Value)) (he : (ps.map fun (i, y) => (i, a.eval y)).toList = vals) (cs : Array Value) (hb : Try.prog.built T vals = some cs)
    (hk : wpList Try.prog ops Q rest (a.put o.dst (.agg cs)) w) : wpList Try.prog ops Q (o :: rest) a w := by
  refine wpList_step fun K hK => ?_
  rw [if_pos hw]
  refine wp_build _ _ ho (by rw [he, hb]; rfl) ?_
  rw [he, hb]
  exact hK _ _ hk
end
end Go.Proofs.Ytnmoheipfadmeaa
