/-
  append: what of the row stays; a row written over.
-/
import Derived.Test.YtepgoehpjafbhaaGreatDoorSSn
namespace Go.Proofs.YtepgoehpjafbhaaGreatDoor
open Go.RowKit S
set_option linter.unusedVariables false
set_option linter.unusedSimpArgs false
/-- Behind an append of one onto a row of one's own: the row's own block is the same, or nothing that lay has changed. -/
theorem keep_own {P : Program} {w : World} (base : Nat) (t ty e : TypeId) (i : TypeInfo) (z : Value) (ht : P.underlying t = some (.slice e)) (hi : P.info? e = some i) (hz : i.zero = some z) (hzs : z.cells.size = i.size) (hsz : 0 < i.size)
    (g n cap : Nat) (xs : List Value) (hown : w.ownsRow base e i.size (.slice (some ⟨g, 0, none⟩) n cap) n xs)
    (a : Addr) (m c : Nat) (news : List Value) (hl : news.length = m * i.size) (hnews : ∀ j u, news[j]? = some u → w.cell? (a.add j) = some u) (h1 : ∀ u ∈ news, u.oneCell' = true)
    (hbytes : (n + m) * i.bytes ≤ 140737488355328) (hsmall : n + m ≤ 1000000) (v' : Value) (w' : World) (hr : (Builtin.append_ #[t, t] ty #[.slice (some ⟨g, 0, none⟩) n cap, .slice (some a) m c]).run P w = .ok v' w') :
    v'.ownBlock = some g ∨ ∀ k, k < w.heap.size → w'.heap[k]? = w.heap[k]? := by
  rcases hown.2 with ⟨h, _⟩ | ⟨g', cap', cur, he, hbg, hg, hnc, hcm, hcs, htake⟩
  · cases h
  · cases he
    by_cases hroom : n + m ≤ cap
    · have hfit : n * i.size + news.length ≤ cur.size := by rw [hl, hcs, ← Nat.add_mul]; exact Nat.mul_le_mul_right _ hroom
      have hq := run_append_room (P := P) w t ty e i ht hi g n cap cur hg a m c news hl hnews h1 hroom hfit
      rw [hr] at hq
      injection hq with hq1 hq2
      subst hq1
      exact .inl rfl
    · have holds : ∀ j u, xs[j]? = some u → w.cell? ((⟨g, 0, none⟩ : Addr).add j) = some u := hown.cells (g := g) rfl
      have hq := run_append_grow (P := P) w t ty e i z ht hi hz ⟨g, 0, none⟩ n cap xs hown.1 holds a m c news hl hnews (by omega) (by omega) (growslice_fits (by omega) hbytes)
      rw [hr] at hq
      injection hq with hq1 hq2
      subst hq2
      exact .inr fun k hk => heap_alloc_old w.drew _ hk
/-- append of one, and what of the old row stays (api.Fate). -/
theorem appF_keep (w : World) (B g cap : Nat) (l : List (Nat → Value)) (s : Nat → Value) (hown : OwnF B w (.slice (some ⟨g, 0, none⟩) l.length cap) l) (hne : l ≠ []) (h1s : One 4 s) (hsm : l.length ≤ 1000) (hB : B ≤ w.heap.size) :
    ∃ g' cap' w1 w', (Instr.buildSlice 31 1 #[(0, .agg (tabv s 4))]).run Tryz.prog w = .ok (.slice (some ⟨w.heap.size, 0, none⟩) 1 1) w1 ∧ (Builtin.append_ #[31, 31] 31 #[.slice (some ⟨g, 0, none⟩) l.length cap, .slice (some ⟨w.heap.size, 0, none⟩) 1 1]).run Tryz.prog w1 = .ok (.slice (some ⟨g', 0, none⟩) (l.length + 1) cap') w' ∧
      (∀ q, q < w.heap.size → g ≠ q → w'.heap[q]? = w.heap[q]?) ∧ Below B w w' ∧ (g' = g ∨ w.heap.size ≤ g') ∧ g' < w'.heap.size ∧ (∀ i x, l[i]? = some x → At w' g (i * 4) x 4) ∧ (∀ i x, (l ++ [s])[i]? = some x → At w' g' (i * 4) x 4) := by
  obtain ⟨v', w1, w', e1, e2, h3, h4, h5, h6, h7⟩ := appF_at w B _ l s hown h1s (by omega) hB
  obtain ⟨ad', cap', hv', hsh⟩ := h3.shape
  rcases hsh with hsh | ⟨g', rfl, hg1, hg2, hg3⟩
  · simp at hsh
  have hlen : (l ++ [s]).length = l.length + 1 := by simp
  rw [hlen] at hv'
  subst hv'
  have hg := (hown.lt g rfl)
  have hself : ∀ i x, l[i]? = some x → At w g (i * 4) x 4 := by
    obtain ⟨ad0, cap0, hv0, hs0⟩ := hown.shape
    cases hv0
    rcases hs0 with h | ⟨g0, hg0, _, _, h⟩
    · exact absurd h hne
    · cases hg0; exact h
  obtain ⟨i, q1, q2, q3, q4⟩ := infoFP
  have hk : Value.ownBlock (.slice (some ⟨g', 0, none⟩) (l.length + 1) cap') = some g ∨ ∀ k, k < w1.heap.size → w'.heap[k]? = w1.heap[k]? := by
    have ho : OwnF B w1 (.slice (some ⟨g, 0, none⟩) l.length cap) l := by rw [h7]; exact World.ownsRow.alloc hown _
    have hb : Has w1 w.heap.size 49 s 4 := by rw [h7]; exact Has.new w 49 s 4 _ rfl
    unfold OwnF at ho
    rw [← q3] at ho
    refine keep_own (P := Tryz.prog) B 31 31 49 i _ Tryz.underlying31 q1 q2 (by rw [q3]; rfl) (by rw [q3]; omega) g l.length cap (cellsF l) ho ⟨w.heap.size, 0, none⟩ 1 1 (cellsF [s]) (by rw [cellsF_length, q3]; rfl) (fun j u hj => ?_) (by rw [cellsF_one]; exact one_tabv h1s) (by rw [q4]; omega) (by omega) _ w' e2
    have hj' : j < 4 := by have := (List.getElem?_eq_some_iff.1 hj).1; rw [cellsF_length] at this; simpa using this
    have hadd : (⟨w.heap.size, 0, none⟩ : Addr).add j = ⟨w.heap.size, j, none⟩ := by unfold Addr.add; split <;> simp_all
    rw [hadd, hb.cell j hj', ← hj, cellsF_one, Array.getElem?_toList, tabv_get _ _ _ hj']
  have hown2 : g' = g ∨ w.heap.size ≤ g' := (h6 g' rfl).imp (fun e => by cases e; rfl) id
  refine ⟨g', cap', w1, w', e1, e2, fun q hq hn => h4 q hq (fun e => by cases e; exact hn rfl), h5, hown2, hg2, fun i x hx => ?_, hg3⟩
  rcases hk with hk | hk
  · have hgg : g' = g := by cases hk; rfl
    subst hgg
    exact hg3 i x (by rw [List.getElem?_append_left (List.getElem?_eq_some_iff.1 hx).1]; exact hx)
  · refine (hself i x hx).blk ?_
    have h8 : g < w1.heap.size := by rw [h7, size_alloc]; omega
    rw [hk g h8, h7]
    exact Below.heap_alloc w _ g hg.2
/-- append of one, and what of the old row stays (script.Command). -/
theorem appC_keep (w : World) (B g cap : Nat) (l : List (Nat → Value)) (s : Nat → Value) (hown : OwnC B w (.slice (some ⟨g, 0, none⟩) l.length cap) l) (hne : l ≠ []) (h1s : One 176 s) (hsm : l.length ≤ 1000) (hB : B ≤ w.heap.size) :
    ∃ g' cap' w1 w', (Instr.buildSlice 25 1 #[(0, .agg (tabv s 176))]).run Tryz.prog w = .ok (.slice (some ⟨w.heap.size, 0, none⟩) 1 1) w1 ∧ (Builtin.append_ #[25, 25] 25 #[.slice (some ⟨g, 0, none⟩) l.length cap, .slice (some ⟨w.heap.size, 0, none⟩) 1 1]).run Tryz.prog w1 = .ok (.slice (some ⟨g', 0, none⟩) (l.length + 1) cap') w' ∧
      (∀ q, q < w.heap.size → g ≠ q → w'.heap[q]? = w.heap[q]?) ∧ Below B w w' ∧ (g' = g ∨ w.heap.size ≤ g') ∧ g' < w'.heap.size ∧ (∀ i x, l[i]? = some x → At w' g (i * 176) x 176) ∧ (∀ i x, (l ++ [s])[i]? = some x → At w' g' (i * 176) x 176) := by
  obtain ⟨v', w1, w', e1, e2, h3, h4, h5, h6, h7⟩ := appC_at w B _ l s hown h1s (by omega) hB
  obtain ⟨ad', cap', hv', hsh⟩ := h3.shape
  rcases hsh with hsh | ⟨g', rfl, hg1, hg2, hg3⟩
  · simp at hsh
  have hlen : (l ++ [s]).length = l.length + 1 := by simp
  rw [hlen] at hv'
  subst hv'
  have hg := (hown.lt g rfl)
  have hself : ∀ i x, l[i]? = some x → At w g (i * 176) x 176 := by
    obtain ⟨ad0, cap0, hv0, hs0⟩ := hown.shape
    cases hv0
    rcases hs0 with h | ⟨g0, hg0, _, _, h⟩
    · exact absurd h hne
    · cases hg0; exact h
  obtain ⟨i, q1, q2, q3, q4⟩ := infoCP
  have hk : Value.ownBlock (.slice (some ⟨g', 0, none⟩) (l.length + 1) cap') = some g ∨ ∀ k, k < w1.heap.size → w'.heap[k]? = w1.heap[k]? := by
    have ho : OwnC B w1 (.slice (some ⟨g, 0, none⟩) l.length cap) l := by rw [h7]; exact World.ownsRow.alloc hown _
    have hb : Has w1 w.heap.size 40 s 176 := by rw [h7]; exact Has.new w 40 s 176 _ rfl
    unfold OwnC at ho
    rw [← q3] at ho
    refine keep_own (P := Tryz.prog) B 25 25 40 i _ Tryz.underlying25 q1 q2 (by rw [q3]; rfl) (by rw [q3]; omega) g l.length cap (cellsC l) ho ⟨w.heap.size, 0, none⟩ 1 1 (cellsC [s]) (by rw [cellsC_length, q3]; rfl) (fun j u hj => ?_) (by rw [cellsC_one]; exact one_tabv h1s) (by rw [q4]; omega) (by omega) _ w' e2
    have hj' : j < 176 := by have := (List.getElem?_eq_some_iff.1 hj).1; rw [cellsC_length] at this; simpa using this
    have hadd : (⟨w.heap.size, 0, none⟩ : Addr).add j = ⟨w.heap.size, j, none⟩ := by unfold Addr.add; split <;> simp_all
    rw [hadd, hb.cell j hj', ← hj, cellsC_one, Array.getElem?_toList, tabv_get _ _ _ hj']
  have hown2 : g' = g ∨ w.heap.size ≤ g' := (h6 g' rfl).imp (fun e => by cases e; rfl) id
  refine ⟨g', cap', w1, w', e1, e2, fun q hq hn => h4 q hq (fun e => by cases e; exact hn rfl), h5, hown2, hg2, fun i x hx => ?_, hg3⟩
  rcases hk with hk | hk
  · have hgg : g' = g := by cases hk; rfl
    subst hgg
    exact hg3 i x (by rw [List.getElem?_append_left (List.getElem?_eq_some_iff.1 hx).1]; exact hx)
  · refine (hself i x hx).blk ?_
    have h8 : g < w1.heap.size := by rw [h7, size_alloc]; omega
    rw [hk g h8, h7]
    exact Below.heap_alloc w _ g hg.2
end Go.Proofs.YtepgoehpjafbhaaGreatDoor
