/-
  The document's amounts, valid lists, and open adds by ID (printed by gen_ref.py).
-/
import Derived.Test.YtbeoojnofblnjaaGTurned
namespace Go.Proofs.Ytbeoojnofblnjaa
open Go.RowKit S Go.Shelf Go.Sort
set_option linter.unusedVariables false
set_option linter.unusedSimpArgs false
-- left out in this seat: ramount_any
theorem all_next {l : List Upd} {j : Nat} {x : Upd} (h : l[j]? = some x) : (l.take (j + 1)).all validB = ((l.take j).all validB && validB x) := by rw [take_snoc h, List.all_append]; simp
theorem all_not {l : List Upd} {j : Nat} {x : Upd} (h : l[j]? = some x) (hv : validB x = false) : l.all validB = false := by
  rw [Bool.eq_false_iff]
  intro ha
  rw [List.all_eq_true.1 ha x (List.mem_of_getElem? h)] at hv
  cases hv
-- left out in this seat: rvalids_any
def twl (l : List Pen) (p : Pen) : Nat := (l.takeWhile (fun q => decide (q.id ≤ p.id))).length
/-- placed, as far as it has gone. -/
def plc (l : List Pen) (p : Pen) (j : Nat) : List Pen := if j ≤ twl l p then l.take j else l.take (twl l p) ++ p :: (l.drop (twl l p)).take (j - twl l p)
theorem twl_le (l : List Pen) (p : Pen) : twl l p ≤ l.length := by unfold twl; exact (List.takeWhile_sublist _).length_le
theorem twl_take (l : List Pen) (p : Pen) : l.take (twl l p) = l.takeWhile (fun q => decide (q.id ≤ p.id)) := by
  have e := List.takeWhile_append_dropWhile (p := fun q : Pen => decide (q.id ≤ p.id)) (l := l)
  unfold twl
  conv => lhs; rw [← e]
  rw [List.take_left' (by rw [e])]
theorem twl_drop (l : List Pen) (p : Pen) : l.drop (twl l p) = l.dropWhile (fun q => decide (q.id ≤ p.id)) := by
  have e := List.takeWhile_append_dropWhile (p := fun q : Pen => decide (q.id ≤ p.id)) (l := l)
  unfold twl
  conv => lhs; rw [← e]
  rw [List.drop_left' (by rw [e])]
theorem twl_lt {l : List Pen} {p s : Pen} {j : Nat} (hs : l[j]? = some s) (h : j < twl l p) : s.id ≤ p.id := by
  have h2 : (l.take (twl l p))[j]? = some s := by rw [List.getElem?_take_of_lt h, hs]
  rw [twl_take] at h2
  exact of_decide_eq_true (mem_tw (p := fun q : Pen => decide (q.id ≤ p.id)) (List.mem_of_getElem? h2))
theorem twl_at {l : List Pen} {p s : Pen} (hs : l[twl l p]? = some s) : p.id < s.id := by
  have h2 : (l.drop (twl l p))[0]? = some s := by rw [List.getElem?_drop, Nat.add_zero, hs]
  rw [twl_drop] at h2
  cases hd : l.dropWhile (fun q => decide (q.id ≤ p.id)) with
  | nil => rw [hd] at h2; simp at h2
  | cons z zs =>
    rw [hd] at h2
    simp only [List.getElem?_cons_zero, Option.some.injEq] at h2
    subst h2
    have := List.head_dropWhile_not (fun q : Pen => decide (q.id ≤ p.id)) (l := l) (by rw [hd]; simp)
    simp only [hd, List.head_cons] at this
    simpa using this
theorem tk_snoc {l : List Pen} {j : Nat} {x : Pen} (h : l[j]? = some x) : l.take (j + 1) = l.take j ++ [x] := by rw [List.take_add_one, h]; rfl
theorem plc_lt {l : List Pen} {p s : Pen} {j : Nat} (hs : l[j]? = some s) (h : j < twl l p) : plc l p (j + 1) = plc l p j ++ [s] := by
  unfold plc; rw [if_pos (by omega), if_pos (by omega), tk_snoc hs]
theorem plc_at {l : List Pen} {p s : Pen} (hs : l[twl l p]? = some s) : plc l p (twl l p + 1) = (plc l p (twl l p) ++ [p]) ++ [s] := by
  unfold plc
  rw [if_neg (by omega), if_pos (Nat.le_refl _)]
  have h2 : (l.drop (twl l p))[0]? = some s := by rw [List.getElem?_drop, Nat.add_zero, hs]
  rw [show twl l p + 1 - twl l p = 0 + 1 by omega, tk_snoc h2]
  simp
theorem plc_gt {l : List Pen} {p s : Pen} {j : Nat} (hs : l[j]? = some s) (h : twl l p < j) : plc l p (j + 1) = plc l p j ++ [s] := by
  unfold plc
  rw [if_neg (by omega), if_neg (by omega)]
  have h2 : (l.drop (twl l p))[j - twl l p]? = some s := by rw [List.getElem?_drop, show twl l p + (j - twl l p) = j by omega, hs]
  rw [show j + 1 - twl l p = j - twl l p + 1 by omega, tk_snoc h2]
  simp
theorem plc_end (l : List Pen) (p : Pen) : placeP l p = if l.length ≤ twl l p then plc l p l.length ++ [p] else plc l p l.length := by
  unfold placeP plc
  rw [← twl_take, ← twl_drop]
  by_cases h : l.length ≤ twl l p
  · rw [if_pos h, if_pos h, List.take_length, List.take_of_length_le h, List.drop_of_length_le h]
  · rw [if_neg h, if_neg h, List.take_of_length_le (l := l.drop _) (by rw [List.length_drop]; omega)]
theorem plc_len (l : List Pen) (p : Pen) (j : Nat) : (plc l p j).length ≤ l.length + 1 := by
  unfold plc
  split
  · rw [List.length_take]; omega
  · have := twl_le l p
    simp only [List.length_append, List.length_take, List.length_cons, List.length_drop]; omega
-- left out in this seat: rplaced_any
end Go.Proofs.Ytbeoojnofblnjaa
