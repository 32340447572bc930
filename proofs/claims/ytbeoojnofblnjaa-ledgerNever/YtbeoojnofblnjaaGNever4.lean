/-
  LedgerNever: the book's removable: a row of numbers of its own (OwnZ).
-/
import Derived.Test.YtbeoojnofblnjaaGNever2
namespace Go.Proofs.Ytbeoojnofblnjaa
open Go.RowKit S Go.Shelf Go.Sort
set_option linter.unusedVariables false
set_option linter.unusedSimpArgs false
def cellsZ (l : List Int) : List Value := l.map (fun z => .int .i64 z)
/-- A row of numbers of one's own. -/
def OwnZ (B : Nat) (w : World) (v : Value) (l : List Int) : Prop := w.ownsRow B 2 1 v l.length (cellsZ l)
theorem OwnZ.nil (B : Nat) (w : World) : OwnZ B w (.slice none 0 0) [] := World.ownsRow_nil w B _ _
theorem OwnZ.lt {B : Nat} {w : World} {v : Value} {l : List Int} (h : OwnZ B w v l) : ∀ k, v.ownBlock = some k → B ≤ k ∧ k < w.heap.size := World.ownsRow.lt h
theorem OwnZ.same {B : Nat} {w w' : World} {v : Value} {l : List Int} (h : OwnZ B w v l) (e : ∀ k, v.ownBlock = some k → w'.heap[k]? = w.heap[k]?) : OwnZ B w' v l := by
  refine ⟨h.1, h.2.imp id fun ⟨g, cap, cur, h1, h2, h3, h4⟩ => ⟨g, cap, cur, h1, h2, ?_, h4⟩⟩
  rw [e g (by rw [h1]; rfl), h3]
theorem OwnZ.below {B : Nat} {w w' : World} {v : Value} {l : List Int} (h : OwnZ B w v l) (hb : Below w.heap.size w w') : OwnZ B w' v l := h.same fun k hk => hb.block k (h.lt k hk).2
theorem infoZ3 : (Try.prog.info? 2).map (fun i => (i.zero, i.size, i.bytes)) = some (some (.int .i64 0), 1, 8) := by kernel_rfl
theorem infoZP : ∃ i, Try.prog.info? 2 = some i ∧ i.zero = some (.int .i64 0) ∧ i.size = 1 ∧ i.bytes = 8 := by
  have h := infoZ3
  cases hq : Try.prog.info? 2 with
  | none => simp [hq] at h
  | some i => simp [hq] at h; exact ⟨i, rfl, h.1, h.2.1, h.2.2⟩
theorem run_sliceZ (w : World) (z : Int) : (Instr.buildSlice 59 1 #[(0, .int .i64 z)]).run Try.prog w = .ok (.slice (some ⟨w.heap.size, 0, none⟩) 1 1) (w.alloc (.cells #[.int .i64 z] 2)) := by
  obtain ⟨i, h1, h2, h3, h4⟩ := infoZP
  simp only [Instr.buildSlice, Sem.run_bind, run_underlying Try.underlying59, Result.andThen_ok, sizeOf, typeInfo, h1, h3]
  have ez : (Value.int .i64 0).cells = #[.int .i64 0] := rfl
  have e : Instr.fill (fun i => some (i * 1, 1)) ((Array.range 1).map (fun x => ([Value.int .i64 0] : List Value)[x % 1]?.getD default)) [(0, .int .i64 z)] = some #[.int .i64 z] := by kernel_rfl
  simp [zeroValue, typeInfo, h1, h2, ez]
  rw [h3, if_neg (by omega), if_neg (by omega)]
  rw [e]
  simp [newRow]
theorem OwnZ.app {B : Nat} {w : World} {v : Value} {l : List Int} (h : OwnZ B w v l) (z : Int) (hn : l.length ≤ 1000000) (hB : B ≤ w.heap.size) : ∃ v' wa w', (Instr.buildSlice 59 1 #[(0, .int .i64 z)]).run Try.prog w = .ok (.slice (some ⟨w.heap.size, 0, none⟩) 1 1) wa ∧ (Builtin.append_ #[59, 59] 59 #[v, .slice (some ⟨w.heap.size, 0, none⟩) 1 1]).run Try.prog wa = .ok v' w' ∧ OwnZ B w' v' (l ++ [z]) ∧ (∀ g, g < w.heap.size → v.ownBlock ≠ some g → w'.heap[g]? = w.heap[g]?) ∧ Below B w w' := by
  obtain ⟨i, h1, h2, h3, h4⟩ := infoZP
  have hb : (w.alloc (.cells #[.int .i64 z] 2)).cell? ⟨w.heap.size, 0, none⟩ = some (.int .i64 z) := by simp
  have ho : OwnZ B (w.alloc (.cells #[.int .i64 z] 2)) v l := World.ownsRow.alloc h _
  obtain ⟨v', w', e1, e2, e3, _⟩ := run_append_own (P := Try.prog) (w.alloc (.cells #[.int .i64 z] 2)) B 59 59 2 i _ 1 8 Try.underlying59 h1 h2 h3 h4 (by rfl) (by omega) v l.length (cellsZ l) ho ⟨w.heap.size, 0, none⟩ 1 1 [.int .i64 z] rfl
    (fun j u hj => by
      match j, hj with
      | 0, hj =>
        simp only [List.getElem?_cons_zero, Option.some.injEq] at hj
        rw [← hj]
        have hadd : (⟨w.heap.size, 0, none⟩ : Addr).add 0 = ⟨w.heap.size, 0, none⟩ := by unfold Addr.add; split <;> simp_all
        rw [hadd]; exact hb
      | j + 1, hj => simp at hj)
    (fun u hu => by simp only [List.mem_singleton] at hu; subst hu; rfl) (by unfold maxLen; omega) (by omega) (by rw [size_alloc]; omega)
  obtain ⟨g1, g2⟩ := grown_all e3 (fun k hk => (h.lt k hk).1) hB
  refine ⟨v', _, w', run_sliceZ w z, e1, ?_, g1, g2⟩
  unfold OwnZ cellsZ
  rw [List.length_append, List.map_append]
  exact e2
end Go.Proofs.Ytbeoojnofblnjaa
