import Derived.Test.YtbeoojnofblnjaaGNever1
import Derived.Test.YtbeoojnofblnjaaGMoreM
import Derived.Deep.CutRange
/-
  LedgerMore: the walk (printed by gen_more.py).
-/
namespace Go.Proofs.Ytbeoojnofblnjaa
open Go.RowKit S Go.Shelf Go.Sort
set_option linter.unusedVariables false
set_option linter.unusedSimpArgs false
theorem run_appUU (w : World) (B : Nat) (v : Value) (l news : List Upd) (ad : Option Addr) (cap : Nat) (ty : TypeId) (hown : OwnU B w v l) (hS : Upds w ad news) (hn : ad = none → news = []) (hsz : (l.length + news.length) * 72 ≤ 140737488355328) (hB : B ≤ w.heap.size) :
    ∃ v' w', (Builtin.append_ #[25, 25] ty #[v, .slice ad news.length cap]).run Try.prog w = .ok v' w' ∧ OwnU B w' v' (l ++ news) ∧ w.grownBy w' v.ownBlock := by
  obtain ⟨i, h1, h2, h3, h4⟩ := infoUP
  cases ad with
  | none =>
    have := hn rfl
    subst this
    refine ⟨v, w, ?_, by rw [List.append_nil]; exact hown, ⟨rfl, rfl, rfl, Nat.le_refl _, fun _ _ _ => rfl⟩⟩
    obtain ⟨_, ⟨rfl, _⟩ | ⟨g, c, cur, rfl, hb, hg, q1, q2, q3, q4⟩⟩ := hown
    · simp [Builtin.append_, run_underlying Try.underlying25, sizeOf, typeInfo, h1, Builtin.lenOf, Builtin.firstCells, storeCells, loadCells, loadCellsFrom]
    · simp [Builtin.append_, run_underlying Try.underlying25, sizeOf, typeInfo, h1, Builtin.lenOf, Builtin.firstCells, storeCells, loadCells, loadCellsFrom, q1]
  | some a =>
    obtain ⟨v', w', e1, e2, e3, _⟩ := run_append_own (P := Try.prog) w B 25 ty 43 i _ 36 72 Try.underlying25 h1 h2 h3 h4 (by rfl) (by omega) v l.length (cellsU l) hown a news.length cap (cellsU news) (cellsU_length news)
      (fun j u hj => by
        have hjl : j < news.length * 36 := by have := (List.getElem?_eq_some_iff.1 hj).1; rw [cellsU_length] at this; exact this
        rcases hS with rfl | ⟨b, o, ha, _, h⟩
        · simp at hjl
        · cases ha
          have hk : j / 36 < news.length := by omega
          have hs : news[j / 36]? = some news[j / 36] := List.getElem?_eq_getElem hk
          have hc := h (j / 36) _ hs (j % 36) (by omega)
          have hg := cellsU_get news (j / 36) _ hs (j % 36) (by omega)
          rw [show j / 36 * 36 + j % 36 = j by omega, hj] at hg
          have hadd : (⟨b, o, none⟩ : Addr).add j = ⟨b, o + j, none⟩ := by unfold Addr.add; split <;> simp_all
          rw [hadd, hg, ← hc, show o + j / 36 * 36 + j % 36 = o + j by omega])
      (oneCell_U _) (by unfold maxLen; omega) hsz hB
    refine ⟨v', w', e1, ?_, e3⟩
    unfold OwnU
    rw [List.length_append, cellsU_append]
    exact e2
theorem run_slice0 (w : World) : ∃ w', (Instr.buildSlice 25 0 #[]).run Try.prog w = .ok (.slice (some ⟨w.heap.size, 0, none⟩) 0 0) w' ∧ OwnU w.heap.size w' (.slice (some ⟨w.heap.size, 0, none⟩) 0 0) [] ∧ Below w.heap.size w w' := by
  obtain ⟨i, h1, h2, h3, h4⟩ := infoUP
  refine ⟨w.alloc (.cells #[] 43), ?_, ⟨rfl, .inr ⟨w.heap.size, 0, #[], rfl, Nat.le_refl _, heap_alloc_new w _, Nat.le_refl _, by decide, rfl, rfl⟩⟩, (Below.refl _ _).alloc (Nat.le_refl _) _⟩
  simp only [Instr.buildSlice, Sem.run_bind, run_underlying Try.underlying25, Result.andThen_ok, sizeOf, typeInfo, h1, h3]
  simp [zeroValue, typeInfo, h1, h2, newRow, Instr.fill]
  have e : Array.map (fun (_ : Nat) => (default : Value)) (Array.range 0) = #[] := by first | rfl | (apply Array.ext <;> simp) | (simp [Array.range])
  first | rw [e] | (congr 2)
section
variable {P : Program} {o : Oper} {a : Act} {w w' : World} {v : Value} {K : Act → World → Prop} {Q : Exit → Act → World → Prop}
theorem wp_app (s x : Operand) (tys : Array TypeId) (ho : o.op = .call { callee := .builtin .append, args := #[s, x], argTypes := tys }) (h : (Builtin.append_ tys o.type #[a.eval s, a.eval x]).run P w = .ok v w') (d : Option Tmp) (hd : o.dst = d) (k : K (a.put d v) w') : o.wp P a w K Q := by
  subst hd
  exact wpRun (by simp [execOp, ho, resolve, invoke, builtin, h, Result.andThen]) k
theorem wp_slice1 (T : TypeId) (x : Operand) (ho : o.op = .buildSlice T 1 #[(0, x)]) (y : Value) (hy : a.eval x = y) (h : (Instr.buildSlice T 1 #[(0, y)]).run P w = .ok v w') (d : Option Tmp) (hd : o.dst = d) (k : K (a.put d v) w') : o.wp P a w K Q := by
  subst hd
  exact wpRun (by simp [execOp, ho, hy, h, Result.andThen]) k
theorem wp_slice0 (T : TypeId) (ho : o.op = .buildSlice T 0 #[]) (h : (Instr.buildSlice T 0 #[]).run P w = .ok v w') (d : Option Tmp) (hd : o.dst = d) (k : K (a.put d v) w') : o.wp P a w K Q := by
  subst hd
  exact wpRun (by simp [execOp, ho, h, Result.andThen]) k
end
theorem run_buildQ {o : Oper} {a : Act} (w : World) (T : TypeId) (ps : Array (Nat × Operand)) (ho : o.op = .build T ps) (vals : List (Nat × Value)) (he : (ps.map fun (i, y) => (i, a.eval y)).toList = vals) (cs : Array Value) (hb : Try.prog.built T vals = some cs) : (execOp a.eval o).run Try.prog w = .ok (.value (.agg cs)) w := by
  unfold execOp
  simp only [ho, Sem.run_bind, run_build w T _ cs (by rw [he]; exact hb), Result.andThen_ok]
  rfl
theorem run_eqP {o : Oper} {a : Act} (w : World) (x y : Operand) (s t : Pen) (R : Bool) (ho : o.op = .binOp .eql 55 x y 55) (hx : a.eval x = .agg (tabv s.v 35)) (hy : a.eval y = .agg (tabv t.v 35))
    (hq : ∀ w : World, (Op.equalIn 10000 55 (.agg (tabv s.v 35)) (.agg (tabv t.v 35))).run Try.prog w = .ok R w) : (execOp a.eval o).run Try.prog w = .ok (.value (.bool R)) w := by
  have gh := guardP
  unfold execOp
  simp only [ho, hx, hy]
  go_simp
set_option maxRecDepth 100000 in
theorem built_uN (i m : Int) : Try.prog.built 43 [(0, .int .i64 1), (1, .int .i64 i), (2, .int .i64 m)] = some (tabv (⟨1, i, m, fun _ => 0, nilB⟩ : Upd).v 36) := by kernel_rfl
set_option maxRecDepth 100000 in
theorem built_pN (i m : Int) : Try.prog.built 55 [(0, .bool true), (1, .int .i64 i), (2, .int .i64 m)] = some (tabv (⟨true, i, m, fun _ => 0⟩ : Pen).v 35) := by kernel_rfl
-- left out in this seat: more_walk
end Go.Proofs.Ytbeoojnofblnjaa
/-
  The document's Fold where all is valid (printed by gen_rfold2.py).
-/
namespace Go.Proofs.Ytbeoojnofblnjaa
open Go.RowKit S Go.Shelf Go.Sort
set_option linter.unusedVariables false
set_option linter.unusedSimpArgs false
-- left out in this seat: newW
theorem built_led3 (x y : Int) (ad : Option Addr) (n c : Nat) : Try.prog.built 46 [(0, .int .i64 x), (1, .int .i64 y), (2, .slice ad n c)] = some (tabv (ledv x y (.slice ad n c)) 3) := by kernel_rfl
-- left out in this seat: rfold_sum
end Go.Proofs.Ytbeoojnofblnjaa
