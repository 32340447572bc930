/-
  script: append of a fate, of a command (printed by mkrow2.py).
-/
import Derived.Test.YtepgoehpjafbhaaGreatDoorSRow
namespace Go.Proofs.YtepgoehpjafbhaaGreatDoor
open Go.RowKit S
set_option linter.unusedVariables false
set_option linter.unusedSimpArgs false
def zF : Nat → Value := fun i => if i = 1 ∨ i = 2 then .int .i64 0 else .string (bs [])
def zC : Nat → Value := fun i => if i = 171 ∨ i = 172 then .string (bs []) else if i = 173 then .slice none 0 0 else if (3 ≤ i ∧ i ≤ 130) ∨ (139 ≤ i ∧ i ≤ 170) then .int .u8 0 else .int .i64 0
theorem one_zF : One 4 zF := fun i hi => by unfold zF; split <;> rfl
theorem one_zC : One 176 zC := fun i hi => by unfold zC; repeat' split
                                              all_goals rfl
theorem grown_all' {w w' : World} {o : Obj} {row : Option Nat} {B : Nat} (h : (w.alloc o).grownBy w' row) (hr : ∀ k, row = some k → B ≤ k) (hB : B ≤ w.heap.size) : (∀ g, g < w.heap.size → row ≠ some g → w'.heap[g]? = w.heap[g]?) ∧ Below B w w' := by
  have a : ∀ g, g < w.heap.size → row ≠ some g → w'.heap[g]? = w.heap[g]? := fun g hg hn => (h.block g (by rw [size_alloc]; omega) (fun e => hn e.symm)).trans (Below.heap_alloc w o g hg)
  have hs := h.size
  rw [size_alloc] at hs
  exact ⟨a, h.os, h.tape, h.output, by omega, fun k hk => a k (by omega) (fun e => by have := hr k e; omega)⟩
set_option maxRecDepth 100000 in
theorem infoF3 : (Tryz.prog.info? 49).map (fun i => (i.zero, i.size, i.bytes)) = some (some (.agg (tabv zF 4)), 4, 48) := by kernel_rfl
theorem infoFP : ∃ i, Tryz.prog.info? 49 = some i ∧ i.zero = some (.agg (tabv zF 4)) ∧ i.size = 4 ∧ i.bytes = 48 := by
  have h := infoF3
  cases hq : Tryz.prog.info? 49 with
  | none => simp [hq] at h
  | some i => simp [hq] at h; exact ⟨i, rfl, h.1, h.2.1, h.2.2⟩
theorem infoF : (Tryz.prog.info? 49).map (·.size) = some 4 := by
  obtain ⟨i, h1, _, h3, _⟩ := infoFP
  rw [h1]; exact congrArg some h3
set_option maxRecDepth 100000 in
theorem run_sliceF (w : World) (s : Nat → Value) : (Instr.buildSlice 31 1 #[(0, .agg (tabv s 4))]).run Tryz.prog w = .ok (.slice (some ⟨w.heap.size, 0, none⟩) 1 1) (w.alloc (.cells (tabv s 4) 49)) := by
  obtain ⟨i, h1, h2, h3, h4⟩ := infoFP
  have e : Instr.fill (fun i => some (i * 4, 4)) ((Array.range 4).map ((tabv zF 4)[· % 4]!)) [(0, .agg (tabv s 4))] = some (tabv s 4) := by kernel_rfl
  have ez : (Value.agg (tabv zF 4)).cells = tabv zF 4 := rfl
  simp only [Instr.buildSlice, Sem.run_bind, run_underlying Tryz.underlying31, Result.andThen_ok, sizeOf, typeInfo, h1, h3]
  simp [zeroValue, typeInfo, h1, h2, ez, tabv_size]
  rw [h3, if_neg (by omega), if_neg (by omega), e]
  simp [newRow]
/-- append of one, and where the row then lies. -/
theorem appF_at (w : World) (B : Nat) (v : Value) (l : List (Nat → Value)) (s : Nat → Value) (hown : OwnF B w v l) (h1s : One 4 s) (hsz : (l.length + 1) * 48 ≤ 140737488355328) (hB : B ≤ w.heap.size) :
    ∃ v' w1 w', (Instr.buildSlice 31 1 #[(0, .agg (tabv s 4))]).run Tryz.prog w = .ok (.slice (some ⟨w.heap.size, 0, none⟩) 1 1) w1 ∧ (Builtin.append_ #[31, 31] 31 #[v, .slice (some ⟨w.heap.size, 0, none⟩) 1 1]).run Tryz.prog w1 = .ok v' w' ∧
      OwnF B w' v' (l ++ [s]) ∧ (∀ g, g < w.heap.size → v.ownBlock ≠ some g → w'.heap[g]? = w.heap[g]?) ∧ Below B w w' ∧ (∀ k, v'.ownBlock = some k → v.ownBlock = some k ∨ w.heap.size ≤ k) ∧ w1 = w.alloc (.cells (tabv s 4) 49) := by
  obtain ⟨i, h1, h2, h3, h4⟩ := infoFP
  have hb : Has (w.alloc (.cells (tabv s 4) 49)) w.heap.size 49 s 4 := Has.new w 49 s 4 _ rfl
  have ho : OwnF B (w.alloc (.cells (tabv s 4) 49)) v l := World.ownsRow.alloc hown _
  obtain ⟨v', w', e1, e2, e3, _, e5⟩ := run_append_own_at (P := Tryz.prog) (w.alloc (.cells (tabv s 4) 49)) B 31 31 49 i _ 4 48 Tryz.underlying31 h1 h2 h3 h4 (by rfl) (by omega) v l.length (cellsF l) ho ⟨w.heap.size, 0, none⟩ 1 1 (cellsF [s]) (by rw [cellsF_length]; rfl)
    (fun j u hj => by
      have hj' : j < 4 := by have := (List.getElem?_eq_some_iff.1 hj).1; rw [cellsF_length] at this; simpa using this
      have hadd : (⟨w.heap.size, 0, none⟩ : Addr).add j = ⟨w.heap.size, j, none⟩ := by unfold Addr.add; split <;> simp_all
      rw [hadd, hb.cell j hj', ← hj, cellsF_one, Array.getElem?_toList, tabv_get _ _ _ hj'])
    (by rw [cellsF_one]; exact one_tabv h1s) (by unfold maxLen; omega) hsz (by rw [size_alloc]; omega)
  obtain ⟨q1, q2⟩ := grown_all' e3 (fun k hk => (hown.lt k hk).1) hB
  refine ⟨v', _, w', run_sliceF w s, e1, ?_, q1, q2, ?_, rfl⟩
  · unfold OwnF
    rw [List.length_append, cellsF_append]
    exact e2
  · intro k hk
    rcases e5 with e5 | e5
    · exact .inl (by rw [← e5]; exact hk)
    · rw [e5] at hk
      cases hk
      exact .inr (by rw [size_alloc]; omega)
set_option maxRecDepth 100000 in
theorem infoC3 : (Tryz.prog.info? 40).map (fun i => (i.zero, i.size, i.bytes)) = some (some (.agg (tabv zC 176)), 176, 320) := by kernel_rfl
theorem infoCP : ∃ i, Tryz.prog.info? 40 = some i ∧ i.zero = some (.agg (tabv zC 176)) ∧ i.size = 176 ∧ i.bytes = 320 := by
  have h := infoC3
  cases hq : Tryz.prog.info? 40 with
  | none => simp [hq] at h
  | some i => simp [hq] at h; exact ⟨i, rfl, h.1, h.2.1, h.2.2⟩
theorem infoC : (Tryz.prog.info? 40).map (·.size) = some 176 := by
  obtain ⟨i, h1, _, h3, _⟩ := infoCP
  rw [h1]; exact congrArg some h3
set_option maxRecDepth 100000 in
theorem run_sliceC (w : World) (s : Nat → Value) : (Instr.buildSlice 25 1 #[(0, .agg (tabv s 176))]).run Tryz.prog w = .ok (.slice (some ⟨w.heap.size, 0, none⟩) 1 1) (w.alloc (.cells (tabv s 176) 40)) := by
  obtain ⟨i, h1, h2, h3, h4⟩ := infoCP
  have e : Instr.fill (fun i => some (i * 176, 176)) ((Array.range 176).map ((tabv zC 176)[· % 176]!)) [(0, .agg (tabv s 176))] = some (tabv s 176) := by kernel_rfl
  have ez : (Value.agg (tabv zC 176)).cells = tabv zC 176 := rfl
  simp only [Instr.buildSlice, Sem.run_bind, run_underlying Tryz.underlying25, Result.andThen_ok, sizeOf, typeInfo, h1, h3]
  simp [zeroValue, typeInfo, h1, h2, ez, tabv_size]
  rw [h3, if_neg (by omega), if_neg (by omega), e]
  simp [newRow]
/-- append of one, and where the row then lies. -/
theorem appC_at (w : World) (B : Nat) (v : Value) (l : List (Nat → Value)) (s : Nat → Value) (hown : OwnC B w v l) (h1s : One 176 s) (hsz : (l.length + 1) * 320 ≤ 140737488355328) (hB : B ≤ w.heap.size) :
    ∃ v' w1 w', (Instr.buildSlice 25 1 #[(0, .agg (tabv s 176))]).run Tryz.prog w = .ok (.slice (some ⟨w.heap.size, 0, none⟩) 1 1) w1 ∧ (Builtin.append_ #[25, 25] 25 #[v, .slice (some ⟨w.heap.size, 0, none⟩) 1 1]).run Tryz.prog w1 = .ok v' w' ∧
      OwnC B w' v' (l ++ [s]) ∧ (∀ g, g < w.heap.size → v.ownBlock ≠ some g → w'.heap[g]? = w.heap[g]?) ∧ Below B w w' ∧ (∀ k, v'.ownBlock = some k → v.ownBlock = some k ∨ w.heap.size ≤ k) ∧ w1 = w.alloc (.cells (tabv s 176) 40) := by
  obtain ⟨i, h1, h2, h3, h4⟩ := infoCP
  have hb : Has (w.alloc (.cells (tabv s 176) 40)) w.heap.size 40 s 176 := Has.new w 40 s 176 _ rfl
  have ho : OwnC B (w.alloc (.cells (tabv s 176) 40)) v l := World.ownsRow.alloc hown _
  obtain ⟨v', w', e1, e2, e3, _, e5⟩ := run_append_own_at (P := Tryz.prog) (w.alloc (.cells (tabv s 176) 40)) B 25 25 40 i _ 176 320 Tryz.underlying25 h1 h2 h3 h4 (by rfl) (by omega) v l.length (cellsC l) ho ⟨w.heap.size, 0, none⟩ 1 1 (cellsC [s]) (by rw [cellsC_length]; rfl)
    (fun j u hj => by
      have hj' : j < 176 := by have := (List.getElem?_eq_some_iff.1 hj).1; rw [cellsC_length] at this; simpa using this
      have hadd : (⟨w.heap.size, 0, none⟩ : Addr).add j = ⟨w.heap.size, j, none⟩ := by unfold Addr.add; split <;> simp_all
      rw [hadd, hb.cell j hj', ← hj, cellsC_one, Array.getElem?_toList, tabv_get _ _ _ hj'])
    (by rw [cellsC_one]; exact one_tabv h1s) (by unfold maxLen; omega) hsz (by rw [size_alloc]; omega)
  obtain ⟨q1, q2⟩ := grown_all' e3 (fun k hk => (hown.lt k hk).1) hB
  refine ⟨v', _, w', run_sliceC w s, e1, ?_, q1, q2, ?_, rfl⟩
  · unfold OwnC
    rw [List.length_append, cellsC_append]
    exact e2
  · intro k hk
    rcases e5 with e5 | e5
    · exact .inl (by rw [← e5]; exact hk)
    · rw [e5] at hk
      cases hk
      exact .inr (by rw [size_alloc]; omega)
end Go.Proofs.YtepgoehpjafbhaaGreatDoor
