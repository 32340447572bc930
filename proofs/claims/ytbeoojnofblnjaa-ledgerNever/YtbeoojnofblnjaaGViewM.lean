/-
  What Fold's answer is, in plain words: nothing is lost, the order, the other side's view.
-/
import Derived.Test.YtbeoojnofblnjaaGWhole
namespace Go.Proofs.Ytbeoojnofblnjaa
open Go.RowKit S Go.Shelf Go.Sort
set_option linter.unusedVariables false
set_option linter.unusedSimpArgs false
theorem lost_split (b a : List Upd) : sumIf (lostB b) a = sumIf (wonB b) a + sumIf (openB b) a := by
  induction a with
  | nil => rfl
  | cons u a ih =>
    simp only [sumIf, ih]
    have h := @remK_of b u.id
    unfold lostB wonB openB
    cases addB u
    · simp
    · rcases h with h | h | h <;> simp [h] <;> omega
theorem sum_opens (o : Bool) (b a : List Upd) : sumP (opensL o b a) = sumIf (openB b) a := by
  unfold opensL
  induction a with
  | nil => rfl
  | cons u a ih =>
    simp only [List.filter_cons, sumIf]
    by_cases h : openB b u = true
    · rw [if_pos h, if_pos h]; simp only [List.map_cons, sumP]; rw [ih]; rfl
    · rw [if_neg h, if_neg h, ih]; omega
theorem place_sum (l : List Pen) (p : Pen) : sumP (placeP l p) = sumP l + p.amt := by
  unfold placeP
  rw [sumP_append]
  simp only [sumP]
  have := congrArg sumP (List.takeWhile_append_dropWhile (p := fun q : Pen => decide (q.id ≤ p.id)) (l := l))
  rw [sumP_append] at this
  omega
theorem fold_sum : ∀ (l acc : List Pen), sumP (l.foldl placeP acc) = sumP acc + sumP l
  | [], acc => by simp [sumP]
  | p :: l, acc => by rw [List.foldl_cons, fold_sum l, place_sum]; simp only [sumP]; omega
theorem sort_sum (l : List Pen) : sumP (sortP l) = sumP l := by unfold sortP; rw [fold_sum]; simp [sumP]
theorem place_mem {l : List Pen} {p q : Pen} (h : q ∈ placeP l p) : q ∈ l ∨ q = p := by
  unfold placeP at h
  have e := List.takeWhile_append_dropWhile (p := fun q : Pen => decide (q.id ≤ p.id)) (l := l)
  rcases List.mem_append.1 h with h | h
  · exact .inl (by rw [← e]; exact List.mem_append_left _ h)
  · rcases List.mem_cons.1 h with h | h
    · exact .inr h
    · exact .inl (by rw [← e]; exact List.mem_append_right _ h)
theorem fold_mem : ∀ (l acc : List Pen) (q : Pen), q ∈ l.foldl placeP acc → q ∈ acc ∨ q ∈ l
  | [], acc, q, h => .inl h
  | p :: l, acc, q, h => by
    rcases fold_mem l _ q h with h | h
    · rcases place_mem h with h | h
      · exact .inl h
      · exact .inr (by rw [h]; exact List.mem_cons_self)
    · exact .inr (List.mem_cons_of_mem _ h)
theorem sort_mem {l : List Pen} {q : Pen} (h : q ∈ sortP l) : q ∈ l := by
  rcases fold_mem l [] q h with h | h
  · cases h
  · exact h
theorem opens_mem {o : Bool} {b a : List Upd} {q : Pen} (h : q ∈ opensL o b a) : q.ours = o ∧ 1 ≤ q.amt ∧ q.amt ≤ 1152921504606846976 ∧ ∃ u ∈ a, openB b u = true ∧ q = penOf o u := by
  unfold opensL at h
  obtain ⟨u, hu, rfl⟩ := List.mem_map.1 h
  obtain ⟨h1, h2⟩ := List.mem_filter.1 hu
  have h3 : addB u = true := by unfold openB at h2; rw [Bool.and_eq_true] at h2; exact h2.1
  exact ⟨rfl, (add_amt h3).1, (add_amt h3).2, u, h1, h2, rfl⟩
/-- The open adds that Fold tells. -/
def foldL (a b : List Upd) : List Pen := sortP (opensL true b a) ++ sortP (opensL false a b)
theorem fold_amt (a b : List Upd) : ∀ p ∈ foldL a b, 1 ≤ p.amt := fun p hp => by
  rcases List.mem_append.1 hp with h | h <;> exact (opens_mem (sort_mem h)).2.1
theorem bal_whole (bO bP : Int) (a b : List Upd) : balX bO a b + balY bP a b + sumP (foldL a b) = bO + bP := by
  unfold balX balY foldL
  rw [sumP_append, sort_sum, sort_sum, sum_opens, sum_opens, lost_split b a, lost_split a b]
  omega
theorem fold_chain (a b : List Upd) : Chain (foldL a b) := by
  intro i p q hp hq
  unfold foldL at hp hq
  have s1 := (sortP_sorts (opensL true b a)).1
  have s2 := (sortP_sorts (opensL false a b)).1
  generalize e1 : sortP (opensL true b a) = A at *
  generalize e2 : sortP (opensL false a b) = C at *
  have m1 : ∀ x ∈ A, x.ours = true := fun x hx => (opens_mem (sort_mem (by rw [e1]; exact hx))).1
  have m2 : ∀ x ∈ C, x.ours = false := fun x hx => (opens_mem (sort_mem (by rw [e2]; exact hx))).1
  by_cases h1 : i + 1 < A.length
  · rw [List.getElem?_append_left h1] at hq
    rw [List.getElem?_append_left (by omega)] at hp
    exact ⟨fun _ => m1 p (List.mem_of_getElem? hp), fun _ => srt_get s1 hp hq (by omega)⟩
  · rw [List.getElem?_append_right (by omega)] at hq
    have oq := m2 q (List.mem_of_getElem? hq)
    by_cases h2 : i < A.length
    · rw [List.getElem?_append_left h2] at hp
      have op := m1 p (List.mem_of_getElem? hp)
      exact ⟨fun _ => op, fun e => by rw [oq, op] at e; cases e⟩
    · rw [List.getElem?_append_right (by omega)] at hp
      exact ⟨fun h => absurd h (by rw [oq]; decide), fun _ => srt_get s2 hp hq (by omega)⟩
/-- An open add as the other side sees it. -/
def flipP (p : Pen) : Pen := ⟨!p.ours, p.id, p.amt, p.hash⟩
def turnP (l : List Pen) : List Pen := (l.filter (fun p => !p.ours)).map flipP ++ (l.filter (fun p => p.ours)).map flipP
theorem flip_tw (p : Pen) : ∀ l : List Pen, (l.map flipP).takeWhile (fun q => decide (q.id ≤ p.id)) = (l.takeWhile (fun q => decide (q.id ≤ p.id))).map flipP
  | [] => rfl
  | x :: l => by
    simp only [List.map_cons, List.takeWhile_cons]
    have e : (flipP x).id = x.id := rfl
    rw [e]
    split
    · rw [flip_tw p l]; rfl
    · rfl
theorem flip_dw (p : Pen) : ∀ l : List Pen, (l.map flipP).dropWhile (fun q => decide (q.id ≤ p.id)) = (l.dropWhile (fun q => decide (q.id ≤ p.id))).map flipP
  | [] => rfl
  | x :: l => by
    simp only [List.map_cons, List.dropWhile_cons]
    have e : (flipP x).id = x.id := rfl
    rw [e]
    split
    · exact flip_dw p l
    · rfl
theorem flip_place (l : List Pen) (p : Pen) : placeP (l.map flipP) (flipP p) = (placeP l p).map flipP := by
  unfold placeP
  rw [show (flipP p).id = p.id from rfl, flip_tw, flip_dw, List.map_append]
  rfl
theorem flip_fold : ∀ (l acc : List Pen), (l.map flipP).foldl placeP (acc.map flipP) = (l.foldl placeP acc).map flipP
  | [], acc => rfl
  | p :: l, acc => by rw [List.map_cons, List.foldl_cons, List.foldl_cons, flip_place, flip_fold l]
theorem flip_sort (l : List Pen) : sortP (l.map flipP) = (sortP l).map flipP := flip_fold l []
theorem flip_opens (o : Bool) (b a : List Upd) : (opensL o b a).map flipP = opensL (!o) b a := by
  unfold opensL
  rw [List.map_map]; rfl
theorem turn_fold (a b : List Upd) : turnP (foldL a b) = foldL b a := by
  unfold turnP foldL
  have m1 : ∀ x ∈ sortP (opensL true b a), x.ours = true := fun x hx => (opens_mem (sort_mem hx)).1
  have m2 : ∀ x ∈ sortP (opensL false a b), x.ours = false := fun x hx => (opens_mem (sort_mem hx)).1
  rw [List.filter_append, List.filter_append, List.filter_eq_nil_iff.2 (fun x hx => by simp [m1 x hx]), List.filter_eq_self.2 (fun x hx => by simp [m2 x hx]), List.filter_eq_self.2 (fun x hx => m1 x hx), List.filter_eq_nil_iff.2 (fun x hx => by simp [m2 x hx]), List.nil_append, List.append_nil, ← flip_sort, ← flip_sort, flip_opens, flip_opens]
  rfl
theorem bal_turn (bO bP : Int) (a b : List Upd) : balX bP b a = balY bP a b ∧ balY bO b a = balX bO a b := by
  unfold balX balY
  constructor <;> omega
end Go.Proofs.Ytbeoojnofblnjaa
