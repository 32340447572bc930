import Derived.Test.YtbeoojnofblnjaaGRef
import Derived.Test.YtbeoojnofblnjaaGNever1
import Derived.Test.YtbeoojnofblnjaaGViewM
/-
  The document's side (printed by gen_side.py).
-/
namespace Go.Proofs.Ytbeoojnofblnjaa
open Go.RowKit S Go.Shelf Go.Sort
set_option linter.unusedVariables false
set_option linter.unusedSimpArgs false
theorem sort_snoc (l : List Pen) (p : Pen) : sortP (l ++ [p]) = placeP (sortP l) p := by unfold sortP; rw [List.foldl_append]; rfl
-- left out in this seat: TW.keep
theorem keep_row {S : Nat → Prop} (w : World) (g : Nat) (cs : Array Value) (h : S g) : Keep S w (w.setRow g cs) := ⟨rfl, rfl, rfl, by simp, fun k hk hn => setRow_other w g k cs (fun e => hn (by rw [e]; exact h))⟩
-- left out in this seat: resWWS
set_option maxRecDepth 100000 in
theorem builtPen2 (o : Bool) (s : Upd) : Try.prog.built 55 [(0, .bool o), (1, .int .i64 s.id), (2, .int .i64 s.amt), (3, .agg (tabv (bv s.hash) 32))] = some (tabv (penOf o s).v 35) := by kernel_rfl
-- left out in this seat: rside_any
end Go.Proofs.Ytbeoojnofblnjaa
/-
  The document's Fold (printed by gen_rfold.py).
-/
namespace Go.Proofs.Ytbeoojnofblnjaa
open Go.RowKit S Go.Shelf Go.Sort
set_option linter.unusedVariables false
set_option linter.unusedSimpArgs false
theorem isA_wrap {a b : Int} (ha : isA a = true) (hb : isA b = true) : IntKind.i64.wrap (a + b) = a + b := wrap_sum ha hb
/-- The two variables that Fold begins with: the counts, and what is answered. -/
theorem rf_start (w : World) (fO fP : Int) : ∃ V1 V2, w.alloc (.cells (tabv (cnv fO fP) 2) 51) = V1 ∧ V1.alloc (.cells #[.int .i64 0, .int .i64 0, .slice none 0 0] 46) = V2 ∧ Has V2 w.heap.size 51 (cnv fO fP) 2 ∧ Has V2 V1.heap.size 46 (ledv 0 0 (.slice none 0 0)) 3 ∧ w.heap.size < V1.heap.size ∧ Below w.heap.size w V2 := by
  have k1 : Has (w.alloc (.cells (tabv (cnv fO fP) 2) 51)) w.heap.size 51 (cnv fO fP) 2 := Has.new w 51 _ 2 _ rfl
  have b1 : Below w.heap.size w (w.alloc (.cells (tabv (cnv fO fP) 2) 51)) := (Below.refl _ _).alloc (Nat.le_refl _) _
  generalize hV1 : w.alloc (.cells (tabv (cnv fO fP) 2) 51) = V1 at k1 b1
  have k2 : Has (V1.alloc (.cells #[.int .i64 0, .int .i64 0, .slice none 0 0] 46)) V1.heap.size 46 (ledv 0 0 (.slice none 0 0)) 3 := by rw [zeroL]; exact Has.new V1 46 _ 3 _ rfl
  have b2 : Below V1.heap.size V1 (V1.alloc (.cells #[.int .i64 0, .int .i64 0, .slice none 0 0] 46)) := (Below.refl _ _).alloc (Nat.le_refl _) _
  exact ⟨V1, _, rfl, rfl, k1.below b2 k1.lt, k2, k1.lt, b1.trans (b2.mono b1.size)⟩
-- left out in this seat: rfold_arg
-- left out in this seat: rfold_inv1
-- left out in this seat: rfold_inv2
end Go.Proofs.Ytbeoojnofblnjaa
/-
  One add more, in plain words.
-/
namespace Go.Proofs.Ytbeoojnofblnjaa
open Go.RowKit S Go.Shelf Go.Sort
set_option linter.unusedVariables false
set_option linter.unusedSimpArgs false
def topF (t : Int) (u : Upd) : Int := if ((u.kind != 1) && decide (t ≤ u.id)) = true then u.id + 1 else t
/-- One above all IDs that a list removes. -/
def top (l : List Upd) : Int := l.foldl topF 0
theorem top_next {l : List Upd} {j : Nat} {x : Upd} (h : l[j]? = some x) : top (l.take (j + 1)) = topF (top (l.take j)) x := by
  unfold top
  rw [take_snoc h, List.foldl_append]; rfl
theorem topF_ge (t : Int) (u : Upd) : t ≤ topF t u ∧ (u.kind ≠ 1 → u.id < topF t u) := by
  unfold topF
  split
  · rename_i h
    simp only [Bool.and_eq_true, decide_eq_true_eq] at h
    omega
  · rename_i h
    refine ⟨Int.le_refl _, fun hk => ?_⟩
    simp only [Bool.and_eq_true, bne_iff_ne, decide_eq_true_eq] at h
    have : ¬ (t ≤ u.id) := fun h' => h ⟨hk, h'⟩
    omega
theorem fold_top : ∀ (l : List Upd) (t : Int), t ≤ l.foldl topF t ∧ ∀ u ∈ l, u.kind ≠ 1 → u.id < l.foldl topF t
  | [], t => ⟨Int.le_refl _, fun u hu => by cases hu⟩
  | x :: l, t => by
    have h := fold_top l (topF t x)
    have h2 := topF_ge t x
    refine ⟨Int.le_trans h2.1 h.1, fun u hu hk => ?_⟩
    rcases List.mem_cons.1 hu with rfl | hu
    · exact Int.lt_of_lt_of_le (h2.2 hk) h.1
    · exact h.2 u hu hk
theorem top_ge (l : List Upd) : 0 ≤ top l := (fold_top l 0).1
theorem fold_le : ∀ (l : List Upd) (t : Int), t ≤ 2048 → l.all validB = true → l.foldl topF t ≤ 2048
  | [], t, h, _ => h
  | x :: l, t, h, hv => by
    rw [List.all_cons, Bool.and_eq_true] at hv
    refine fold_le l (topF t x) ?_ hv.2
    have := valid_id hv.1
    unfold topF
    split <;> omega
theorem top_le (l : List Upd) (hv : l.all validB = true) : top l ≤ 2048 := fold_le l 0 (by omega) hv
theorem top_rem (l : List Upd) : remK l (top l) = 0 := by
  unfold remK
  have : l.find? (remP (top l)) = none := by
    rw [List.find?_eq_none]
    intro u hu
    unfold remP
    simp only [Bool.and_eq_true, bne_iff_ne, beq_iff_eq, not_and]
    intro _ hk e
    have := (fold_top l 0).2 u hu hk
    unfold top at e
    omega
  rw [this]; rfl
theorem rem_add {P : List Upd} {u : Upd} (hk : (u.kind != 1) = false) : remK (P ++ [u]) = remK P := by
  funext k
  exact (rem_step0 (L := P) (s := u) (.inr (.inl hk)) k).symm
section
variable {P Q : List Upd} {u : Upd} (ha : addB u = true) (hr : remK Q u.id = 0)
include ha hr
theorem more_balX (A : Int) : balX A (P ++ [u]) Q = balX A P Q - u.amt := by
  have hk : (u.kind != 1) = false := by unfold addB at ha; rw [Bool.and_eq_true, beq_iff_eq] at ha; simp [ha.1]
  have e1 : wonB (P ++ [u]) = wonB P := by funext v; unfold wonB; rw [rem_add hk]
  have e2 : lostB Q u = true := by unfold lostB; rw [ha, hr]; rfl
  unfold balX
  rw [sumIf_append, e1]
  simp only [sumIf, e2, if_true]
  omega
theorem more_balY (B : Int) : balY B (P ++ [u]) Q = balY B P Q := by
  have hk : (u.kind != 1) = false := by unfold addB at ha; rw [Bool.and_eq_true, beq_iff_eq] at ha; simp [ha.1]
  have e1 : lostB (P ++ [u]) = lostB P := by funext v; unfold lostB; rw [rem_add hk]
  have e2 : wonB Q u = false := by unfold wonB; rw [ha, hr]; rfl
  unfold balY
  rw [sumIf_append, e1]
  simp only [sumIf, e2]
  simp
theorem more_foldL : foldL (P ++ [u]) Q = sortP (opensL true Q P ++ [penOf true u]) ++ sortP (opensL false P Q) := by
  have hk : (u.kind != 1) = false := by unfold addB at ha; rw [Bool.and_eq_true, beq_iff_eq] at ha; simp [ha.1]
  have e1 : openB (P ++ [u]) = openB P := by funext v; unfold openB; rw [rem_add hk]
  have e2 : openB Q u = true := by unfold openB; rw [ha, hr]; rfl
  unfold foldL opensL
  rw [e1, List.filter_append, List.filter_cons_of_pos e2, List.filter_nil, List.map_append]
  rfl
theorem more_len : (foldL (P ++ [u]) Q).length = (foldL P Q).length + 1 := by
  rw [more_foldL ha hr]
  unfold foldL
  rw [List.length_append, List.length_append, sortP_length, sortP_length, sortP_length, List.length_append]
  simp; omega
theorem more_mem : penOf true u ∈ foldL (P ++ [u]) Q := by
  rw [more_foldL ha hr]
  exact List.mem_append_left _ ((sortP_sorts _).2.mem (List.mem_append_right _ List.mem_cons_self))
end
end Go.Proofs.Ytbeoojnofblnjaa
