/-
  The document's Turn: picked out of layer 13's GTurned (the same steps).
-/
import Derived.Test.YthmbpddpdbkioaaCMath
namespace Go.Proofs.Ythmbpddpdbkioaa
open Go.RowKit S
set_option linter.unusedVariables false
set_option linter.unusedSimpArgs false
def fB (b : Bool) (l : List Pen) : List Pen := (l.filter (fun p => p.ours == b)).map flipP
theorem fB_next {b : Bool} {l : List Pen} {j : Nat} {x : Pen} (h : l[j]? = some x) : fB b (l.take (j + 1)) = fB b (l.take j) ++ (if (x.ours == b) = true then [flipP x] else []) := by
  have e : l.take (j + 1) = l.take j ++ [x] := by rw [List.take_add_one, h]; rfl
  unfold fB
  rw [e, List.filter_append, List.map_append]
  by_cases hb : (x.ours == b) = true <;> simp [hb]
theorem fB_len (b : Bool) (l : List Pen) : (fB b l).length ≤ l.length := by unfold fB; rw [List.length_map]; exact List.length_filter_le _ _
def accK (l : List Pen) (k : Nat) : List Pen := if k = 0 then [] else if k = 1 then fB false l else fB false l ++ fB true l
theorem accK_next (l : List Pen) (k : Nat) (h : k < 2) : accK l (k + 1) = accK l k ++ fB (((k : Int) == 1)) l := by
  match k, h with
  | 0, _ => simp [accK]
  | 1, _ => simp [accK]
theorem fB_both : ∀ l : List Pen, (fB false l).length + (fB true l).length = l.length
  | [] => rfl
  | p :: l => by
    have := fB_both l
    unfold fB at *
    simp only [List.filter_cons]
    cases p.ours <;> simp at * <;> omega
theorem fB_take (b : Bool) (l : List Pen) (j : Nat) : (fB b (l.take j)).length ≤ (fB b l).length := by
  unfold fB
  rw [List.length_map, List.length_map]
  exact ((List.take_sublist j l).filter _).length_le
theorem accK_tot (l : List Pen) (k j : Nat) (h : k < 2) : (accK l k).length + (fB (((k : Int) == 1)) (l.take j)).length ≤ l.length := by
  have h1 := fB_both l
  have h2 := fB_take false l j
  have h3 := fB_take true l j
  match k, h with
  | 0, _ => simp [accK]; omega
  | 1, _ => simp [accK]; omega
theorem accK_len (l : List Pen) (k : Nat) : (accK l k).length ≤ 2 * l.length := by
  have h1 := fB_len false l
  have h2 := fB_len true l
  unfold accK
  split
  · simp
  · split
    · omega
    · rw [List.length_append]; omega
theorem accK_turn (l : List Pen) : accK l 2 = turnP l := by
  unfold accK turnP fB
  rw [if_neg (by omega), if_neg (by omega)]
  congr 2
  · congr 1; funext p; cases p.ours <;> rfl
  · congr 1; funext p; cases p.ours <;> rfl
/-- The new ledger under way. -/
def TL (W : World) (g3 : Nat) (y x : Int) (wr : World) (l : List Pen) : Prop := ∃ v, Has wr g3 24 (ledv y x v) 3 ∧ OwnP W.heap.size wr v l ∧ Keep (· = g3) W wr
theorem built_turn (x y : Int) : Try.prog.built 24 [(0, .int .i64 x), (1, .int .i64 y)] = some (tabv (ledv x y (.slice none 0 0)) 3) := by kernel_rfl
theorem Has.openL {w : World} {g : Nat} {x y : Int} {v : Value} (h : Has w g 24 (ledv x y v) 3) (v' : Value) : Has (w.setCell ⟨g, 2, none⟩ v') g 24 (ledv x y v') 3 :=
  (h.set 2 v').congr _ (fun i hi => by unfold upd ledv; match i, hi with
                                       | 0, _ => rfl
                                       | 1, _ => rfl
                                       | 2, _ => rfl)
theorem Has.flipO {w : World} {g : Nat} {s : Pen} (h : Has w g 36 s.v 35) : Has (w.setCell ⟨g, 0, none⟩ (.bool (!s.ours))) g 36 (flipP s).v 35 :=
  (h.set 0 (.bool (!s.ours))).congr _ (fun i hi => by unfold upd; by_cases e : i = 0
                                                      · subst e; rfl
                                                      · rw [if_neg e]; unfold Pen.v flipP; rw [if_neg e, if_neg e])
-- left out in this seat: rturn_any
end Go.Proofs.Ythmbpddpdbkioaa
