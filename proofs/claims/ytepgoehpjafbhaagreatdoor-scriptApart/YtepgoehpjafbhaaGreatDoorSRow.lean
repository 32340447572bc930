/-
  script: rows of fates and of commands, of one's own (printed by mkrow1.py).
-/
import Derived.Test.YtepgoehpjafbhaaGreatDoorSFt
import Derived.Maps.AppendAt
namespace Go.Proofs.YtepgoehpjafbhaaGreatDoor
open Go.RowKit S
set_option linter.unusedVariables false
set_option linter.unusedSimpArgs false
def One (m : Nat) (f : Nat → Value) : Prop := ∀ i, i < m → (f i).oneCell' = true
theorem One.upd {m : Nat} {f : Nat → Value} (h : One m f) (k : Nat) (v : Value) (hv : v.oneCell' = true) : One m (upd f k v) := fun i hi => by
  unfold S.upd
  split
  · exact hv
  · exact h i hi
theorem One.splice {m : Nat} {f : Nat → Value} (h : One m f) (o : Nat) (g : Nat → UInt8) (n : Nat) : One m (splice f o (bv g) n) := fun i hi => by
  unfold Go.Proofs.YtepgoehpjafbhaaGreatDoor.splice
  split
  · rfl
  · exact h i hi
theorem one_tabv {m : Nat} {f : Nat → Value} (h : One m f) : ∀ u ∈ (tabv f m).toList, u.oneCell' = true := by
  intro u hu
  obtain ⟨i, hi, rfl⟩ := List.mem_iff_getElem.1 hu
  have hi' : i < m := by rw [tabv_len] at hi; exact hi
  have e : (tabv f m).toList[i]? = some (f i) := by rw [Array.getElem?_toList, tabv_get _ _ _ hi']
  rw [List.getElem?_eq_getElem hi] at e
  rw [Option.some.inj e]
  exact h i hi'
def cellsF (l : List (Nat → Value)) : List Value := l.flatMap fun s => (tabv s 4).toList
theorem cellsF_append (a b : List (Nat → Value)) : cellsF (a ++ b) = cellsF a ++ cellsF b := by simp [cellsF]
theorem cellsF_one (s : Nat → Value) : cellsF [s] = (tabv s 4).toList := by simp [cellsF]
theorem cellsF_cons (s : Nat → Value) (l : List (Nat → Value)) : cellsF (s :: l) = (tabv s 4).toList ++ cellsF l := by simp [cellsF]
theorem cellsF_length : ∀ l : List (Nat → Value), (cellsF l).length = l.length * 4
  | [] => rfl
  | s :: l => by rw [cellsF_cons, List.length_append, tabv_len, cellsF_length l, List.length_cons]; omega
theorem cellsF_get : ∀ (l : List (Nat → Value)) (k : Nat) (s : Nat → Value) (hk : l[k]? = some s) (j : Nat), j < 4 → (cellsF l)[k * 4 + j]? = some (s j)
  | [], k, s, hk, j, hj => by simp at hk
  | x :: l, 0, s, hk, j, hj => by
    simp only [List.getElem?_cons_zero, Option.some.injEq] at hk
    subst hk
    rw [cellsF_cons, List.getElem?_append_left (by rw [tabv_len]; omega), Array.getElem?_toList, Nat.zero_mul, Nat.zero_add, tabv_get _ _ _ hj]
  | x :: l, k + 1, s, hk, j, hj => by
    simp only [List.getElem?_cons_succ] at hk
    rw [cellsF_cons, List.getElem?_append_right (by rw [tabv_len]; omega), tabv_len, show (k + 1) * 4 + j - 4 = k * 4 + j by omega]
    exact cellsF_get l k s hk j hj
/-- A row of one's own. -/
def OwnF (B : Nat) (w : World) (v : Value) (l : List (Nat → Value)) : Prop := w.ownsRow B 49 4 v l.length (cellsF l)
theorem OwnF.nil (B : Nat) (w : World) : OwnF B w (.slice none 0 0) [] := World.ownsRow_nil w B _ _
theorem OwnF.lt {B : Nat} {w : World} {v : Value} {l : List (Nat → Value)} (h : OwnF B w v l) : ∀ k, v.ownBlock = some k → B ≤ k ∧ k < w.heap.size := World.ownsRow.lt h
theorem OwnF.same {B : Nat} {w w' : World} {v : Value} {l : List (Nat → Value)} (h : OwnF B w v l) (e : ∀ k, v.ownBlock = some k → w'.heap[k]? = w.heap[k]?) : OwnF B w' v l := by
  refine ⟨h.1, h.2.imp id fun ⟨g, cap, cur, h1, h2, h3, h4⟩ => ⟨g, cap, cur, h1, h2, ?_, h4⟩⟩
  rw [e g (by rw [h1]; rfl), h3]
theorem OwnF.below {B B' : Nat} {w w' : World} {v : Value} {l : List (Nat → Value)} (h : OwnF B w v l) (hb : Below B' w w') (hB : w.heap.size ≤ B') : OwnF B w' v l := h.same fun k hk => hb.block k (Nat.lt_of_lt_of_le (h.lt k hk).2 hB)
theorem OwnF.kp {B b c : Nat} {w w' : World} {v : Value} {l : List (Nat → Value)} (h : OwnF B w v l) (hb : Kp b c w w') (h1 : b < B) (h2 : c < B) : OwnF B w' v l := h.same fun k hk => hb.block k (h.lt k hk).2 (by have := (h.lt k hk).1; omega) (by have := (h.lt k hk).1; omega)
theorem OwnF.mono {B B' : Nat} {w : World} {v : Value} {l : List (Nat → Value)} (h : OwnF B w v l) (hb : B' ≤ B) : OwnF B' w v l :=
  ⟨h.1, h.2.imp id fun ⟨g, cap, cur, h1, h2, h3⟩ => ⟨g, cap, cur, h1, Nat.le_trans hb h2, h3⟩⟩
theorem OwnF.shape {B : Nat} {w : World} {v : Value} {l : List (Nat → Value)} (h : OwnF B w v l) : ∃ ad cap, v = .slice ad l.length cap ∧ (l = [] ∨ ∃ g, ad = some ⟨g, 0, none⟩ ∧ B ≤ g ∧ g < w.heap.size ∧ ∀ i s, l[i]? = some s → At w g (i * 4) s 4) := by
  have hlt := h.lt
  obtain ⟨hl, ⟨rfl, hn⟩ | ⟨g, cap, cur, rfl, hb, hg, h1, h2, h3, h4⟩⟩ := h
  · have : l = [] := List.length_eq_zero_iff.1 hn
    subst this
    exact ⟨none, 0, rfl, .inl rfl⟩
  · refine ⟨_, cap, rfl, .inr ⟨g, rfl, hb, (hlt g rfl).2, fun i s hs j hj => ?_⟩⟩
    rw [cell_of_row w g _ cur _ (0, 0) hg]
    have hi : i < l.length := (List.getElem?_eq_some_iff.1 hs).1
    have hx : i * 4 + j < l.length * 4 := by have : (i + 1) * 4 ≤ l.length * 4 := Nat.mul_le_mul_right _ hi; omega
    have e : (cur.toList.take (l.length * 4))[i * 4 + j]? = (cellsF l)[i * 4 + j]? := by rw [h4]
    rw [List.getElem?_take_of_lt hx, Array.getElem?_toList, cellsF_get l i s hs j hj] at e
    exact e
def cellsC (l : List (Nat → Value)) : List Value := l.flatMap fun s => (tabv s 176).toList
theorem cellsC_append (a b : List (Nat → Value)) : cellsC (a ++ b) = cellsC a ++ cellsC b := by simp [cellsC]
theorem cellsC_one (s : Nat → Value) : cellsC [s] = (tabv s 176).toList := by simp [cellsC]
theorem cellsC_cons (s : Nat → Value) (l : List (Nat → Value)) : cellsC (s :: l) = (tabv s 176).toList ++ cellsC l := by simp [cellsC]
theorem cellsC_length : ∀ l : List (Nat → Value), (cellsC l).length = l.length * 176
  | [] => rfl
  | s :: l => by rw [cellsC_cons, List.length_append, tabv_len, cellsC_length l, List.length_cons]; omega
theorem cellsC_get : ∀ (l : List (Nat → Value)) (k : Nat) (s : Nat → Value) (hk : l[k]? = some s) (j : Nat), j < 176 → (cellsC l)[k * 176 + j]? = some (s j)
  | [], k, s, hk, j, hj => by simp at hk
  | x :: l, 0, s, hk, j, hj => by
    simp only [List.getElem?_cons_zero, Option.some.injEq] at hk
    subst hk
    rw [cellsC_cons, List.getElem?_append_left (by rw [tabv_len]; omega), Array.getElem?_toList, Nat.zero_mul, Nat.zero_add, tabv_get _ _ _ hj]
  | x :: l, k + 1, s, hk, j, hj => by
    simp only [List.getElem?_cons_succ] at hk
    rw [cellsC_cons, List.getElem?_append_right (by rw [tabv_len]; omega), tabv_len, show (k + 1) * 176 + j - 176 = k * 176 + j by omega]
    exact cellsC_get l k s hk j hj
/-- A row of one's own. -/
def OwnC (B : Nat) (w : World) (v : Value) (l : List (Nat → Value)) : Prop := w.ownsRow B 40 176 v l.length (cellsC l)
theorem OwnC.nil (B : Nat) (w : World) : OwnC B w (.slice none 0 0) [] := World.ownsRow_nil w B _ _
theorem OwnC.lt {B : Nat} {w : World} {v : Value} {l : List (Nat → Value)} (h : OwnC B w v l) : ∀ k, v.ownBlock = some k → B ≤ k ∧ k < w.heap.size := World.ownsRow.lt h
theorem OwnC.same {B : Nat} {w w' : World} {v : Value} {l : List (Nat → Value)} (h : OwnC B w v l) (e : ∀ k, v.ownBlock = some k → w'.heap[k]? = w.heap[k]?) : OwnC B w' v l := by
  refine ⟨h.1, h.2.imp id fun ⟨g, cap, cur, h1, h2, h3, h4⟩ => ⟨g, cap, cur, h1, h2, ?_, h4⟩⟩
  rw [e g (by rw [h1]; rfl), h3]
theorem OwnC.below {B B' : Nat} {w w' : World} {v : Value} {l : List (Nat → Value)} (h : OwnC B w v l) (hb : Below B' w w') (hB : w.heap.size ≤ B') : OwnC B w' v l := h.same fun k hk => hb.block k (Nat.lt_of_lt_of_le (h.lt k hk).2 hB)
theorem OwnC.kp {B b c : Nat} {w w' : World} {v : Value} {l : List (Nat → Value)} (h : OwnC B w v l) (hb : Kp b c w w') (h1 : b < B) (h2 : c < B) : OwnC B w' v l := h.same fun k hk => hb.block k (h.lt k hk).2 (by have := (h.lt k hk).1; omega) (by have := (h.lt k hk).1; omega)
theorem OwnC.mono {B B' : Nat} {w : World} {v : Value} {l : List (Nat → Value)} (h : OwnC B w v l) (hb : B' ≤ B) : OwnC B' w v l :=
  ⟨h.1, h.2.imp id fun ⟨g, cap, cur, h1, h2, h3⟩ => ⟨g, cap, cur, h1, Nat.le_trans hb h2, h3⟩⟩
theorem OwnC.shape {B : Nat} {w : World} {v : Value} {l : List (Nat → Value)} (h : OwnC B w v l) : ∃ ad cap, v = .slice ad l.length cap ∧ (l = [] ∨ ∃ g, ad = some ⟨g, 0, none⟩ ∧ B ≤ g ∧ g < w.heap.size ∧ ∀ i s, l[i]? = some s → At w g (i * 176) s 176) := by
  have hlt := h.lt
  obtain ⟨hl, ⟨rfl, hn⟩ | ⟨g, cap, cur, rfl, hb, hg, h1, h2, h3, h4⟩⟩ := h
  · have : l = [] := List.length_eq_zero_iff.1 hn
    subst this
    exact ⟨none, 0, rfl, .inl rfl⟩
  · refine ⟨_, cap, rfl, .inr ⟨g, rfl, hb, (hlt g rfl).2, fun i s hs j hj => ?_⟩⟩
    rw [cell_of_row w g _ cur _ (0, 0) hg]
    have hi : i < l.length := (List.getElem?_eq_some_iff.1 hs).1
    have hx : i * 176 + j < l.length * 176 := by have : (i + 1) * 176 ≤ l.length * 176 := Nat.mul_le_mul_right _ hi; omega
    have e : (cur.toList.take (l.length * 176))[i * 176 + j]? = (cellsC l)[i * 176 + j]? := by rw [h4]
    rw [List.getElem?_take_of_lt hx, Array.getElem?_toList, cellsC_get l i s hs j hj] at e
    exact e
end Go.Proofs.YtepgoehpjafbhaaGreatDoor
