/-
  A row of slots that is gone through and turned, one cell a slot.
-/
import Derived.Test.YtocojkafdgmgdaaDoorPLaw
namespace Go.Proofs.YtocojkafdgmgdaaDoor
open Go.RowKit S
set_option linter.unusedVariables false
set_option linter.unusedSimpArgs false
def halfS (φ : Slot → Slot) (l : List Slot) (k : Nat) : List Slot := (l.take k).map φ ++ l.drop k
theorem halfS_zero (φ : Slot → Slot) (l : List Slot) : halfS φ l 0 = l := by simp [halfS]
theorem halfS_all (φ : Slot → Slot) (l : List Slot) : halfS φ l l.length = l.map φ := by simp [halfS]
theorem halfS_length (φ : Slot → Slot) (l : List Slot) (k : Nat) (h : k ≤ l.length) : (halfS φ l k).length = l.length := by simp [halfS]; omega
theorem halfS_get {φ : Slot → Slot} {l : List Slot} {k : Nat} {s : Slot} (h : l[k]? = some s) : (halfS φ l k)[k]? = some s := by
  have hk : k < l.length := (List.getElem?_eq_some_iff.1 h).1
  unfold halfS
  rw [List.getElem?_append_right (by simp; omega)]
  simp [List.length_take, Nat.min_eq_left (Nat.le_of_lt hk)]
  simpa using h
theorem halfS_step {φ : Slot → Slot} {l : List Slot} {k : Nat} {s : Slot} (h : l[k]? = some s) : (halfS φ l k).set k (φ s) = halfS φ l (k + 1) := by
  obtain ⟨hk, rfl⟩ := List.getElem?_eq_some_iff.1 h
  unfold halfS
  rw [List.set_append_right _ _ (by simp; omega)]
  simp only [List.length_map, List.length_take, Nat.min_eq_left (Nat.le_of_lt hk), Nat.sub_self]
  rw [List.take_add_one, List.map_append, List.getElem?_eq_getElem hk, List.append_assoc, List.drop_eq_getElem_cons hk]
  rfl
theorem take_step {φ : Slot → Slot} {l : List Slot} {k : Nat} {s : Slot} (h : l[k]? = some s) : (l.take (k + 1)).map φ = (l.take k).map φ ++ [φ s] := by
  rw [List.take_add_one, List.map_append, h]; rfl
/-- One cell of a row is turned. -/
theorem cellsS_set {l : List Slot} {k q : Nat} {s t : Slot} (hs : l[k]? = some s) (hq : q < 34) (ht : ∀ i, i < 34 → i ≠ q → t.v i = s.v i) : (cellsS l).set (k * 34 + q) (t.v q) = cellsS (l.set k t) := by
  have hk : k < l.length := (List.getElem?_eq_some_iff.1 hs).1
  apply List.ext_getElem?
  intro i
  rw [List.getElem?_set]
  by_cases hi : i < l.length * 34
  · have hki : i / 34 < l.length := by omega
    by_cases e : i / 34 = k
    · have e1 := cellsS_get (l.set k t) (i / 34) t (by rw [List.getElem?_set, if_pos e.symm, if_pos hk]) (i % 34) (by omega)
      have e2 := cellsS_get l (i / 34) s (by rw [e]; exact hs) (i % 34) (by omega)
      rw [show i / 34 * 34 + i % 34 = i by omega] at e1 e2
      by_cases e3 : k * 34 + q = i
      · rw [if_pos e3, if_pos (by rw [cellsS_length]; omega), e1, show i % 34 = q by omega]
      · rw [if_neg e3, e1, e2, ht (i % 34) (by omega) (by omega)]
    · obtain ⟨u, hu⟩ : ∃ u, l[i / 34]? = some u := ⟨_, List.getElem?_eq_getElem hki⟩
      have e1 := cellsS_get (l.set k t) (i / 34) u (by rw [List.getElem?_set, if_neg (fun h => e h.symm)]; exact hu) (i % 34) (by omega)
      have e2 := cellsS_get l (i / 34) u hu (i % 34) (by omega)
      rw [show i / 34 * 34 + i % 34 = i by omega] at e1 e2
      rw [if_neg (by omega), e1, e2]
  · rw [if_neg (by omega), List.getElem?_eq_none (by rw [cellsS_length]; omega), List.getElem?_eq_none (by rw [cellsS_length, List.length_set]; omega)]
theorem OwnS.turned {B g n cap k q : Nat} {w : World} {l : List Slot} {s t : Slot} (h : OwnS B w (.slice (some ⟨g, 0, none⟩) n cap) l) (hn : l.length = n) (hs : l[k]? = some s) (hq : q < 34) (ht : ∀ i, i < 34 → i ≠ q → t.v i = s.v i) : OwnS B (w.setCell ⟨g, k * 34 + q, none⟩ (t.v q)) (.slice (some ⟨g, 0, none⟩) n cap) (l.set k t) := by
  subst hn
  have := (World.ownsRow.stored h (k * 34 + q) (t.v q))
  rw [cellsS_set hs hq ht] at this
  unfold OwnS
  rw [List.length_set]
  exact this.1
theorem OwnS.cellAt {B g n cap k q : Nat} {w : World} {l : List Slot} {s : Slot} (h : OwnS B w (.slice (some ⟨g, 0, none⟩) n cap) l) (hn : l.length = n) (hs : l[k]? = some s) (hq : q < 34) : w.cell? ⟨g, k * 34 + q, none⟩ = some (s.v q) ∧ w.frozen? ⟨g, k * 34 + q, none⟩ = false := by
  subst hn
  have hk : k < l.length := (List.getElem?_eq_some_iff.1 hs).1
  have h' : w.ownsRow B 37 34 (.slice (some ⟨g, 0, none⟩) l.length cap) l.length (cellsS l) := h
  exact ⟨by rw [World.ownsRow.cellAt h' (k * 34 + q) (by omega), cellsS_get l k s hs q hq], World.ownsRow.frozenAt h' _⟩
theorem setCell_same (w : World) (p : Addr) (v : Value) (k : Nat) (h : k ≠ p.block) : (w.setCell p v).heap[k]? = w.heap[k]? := by
  exact heap_setCell_other w p k v h
theorem OwnS.otherCell {B : Nat} {w : World} {v : Value} {l : List Slot} (h : OwnS B w v l) (p : Addr) (u : Value) (hp : ∀ k, v.ownBlock = some k → k ≠ p.block) : OwnS B (w.setCell p u) v l := h.same fun k hk => setCell_same w p u k (hp k hk)
end Go.Proofs.YtocojkafdgmgdaaDoor
