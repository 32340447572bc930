/-
  A turned ledger: its text, its sum, turned twice.
-/
import Derived.Test.YthmbpddpdbkioaaCSum
namespace Go.Proofs.Ythmbpddpdbkioaa
open Go.RowKit S
set_option linter.unusedVariables false
set_option linter.unusedSimpArgs false
theorem good_pw {l : List Pen} (h : ∀ i, i < l.length → goodAt l i) : l.Pairwise (fun a b => foll a b = true) := by
  rw [List.pairwise_iff_getElem]
  intro i j hi hj hij
  obtain ⟨k, rfl⟩ : ∃ k, j = i + 1 + k := ⟨j - (i + 1), by omega⟩
  induction k with
  | zero => exact (h (i + 1) hj _ (List.getElem?_eq_getElem hj)).2 _ (by omega) (by simp [List.getElem?_eq_getElem hi])
  | succ k ih =>
    have h1 := ih (by omega) (by omega)
    have h2 := (h (i + 1 + (k + 1)) hj _ (List.getElem?_eq_getElem hj)).2 _ (by omega) (by rw [show i + 1 + (k + 1) - 1 = i + 1 + k by omega]; exact List.getElem?_eq_getElem (by omega))
    exact foll_trans h1 h2
theorem pw_good {l : List Pen} (h : l.Pairwise (fun a b => foll a b = true)) (hk : ∀ p ∈ l, okP p = true) : ∀ i, i < l.length → goodAt l i := fun i hi p hp => by
  obtain ⟨_, rfl⟩ := List.getElem?_eq_some_iff.1 hp
  refine ⟨hk _ (List.getElem_mem _), fun q h0 hq => ?_⟩
  obtain ⟨h1, rfl⟩ := List.getElem?_eq_some_iff.1 hq
  exact List.pairwise_iff_getElem.1 h _ _ h1 hi (by omega)
theorem flip_flip (p : Pen) : flipP (flipP p) = p := by cases p; simp [flipP]
theorem pw_split {l : List Pen} (h : l.Pairwise (fun a b => foll a b = true)) : l.filter (fun p => p.ours) ++ l.filter (fun p => !p.ours) = l := by
  induction l with
  | nil => rfl
  | cons p l ih =>
    obtain ⟨h1, h2⟩ := List.pairwise_cons.1 h
    have hi := ih h2
    cases ho : p.ours with
    | true => rw [List.filter_cons_of_pos (by simp [ho]), List.filter_cons_of_neg (by simp [ho]), List.cons_append, hi]
    | false =>
      have hall : ∀ q ∈ l, q.ours = false := fun q hq => by
        have := h1 q hq
        unfold foll at this
        cases hq2 : q.ours with
        | false => rfl
        | true => rw [ho, hq2] at this; simp at this
      rw [List.filter_cons_of_neg (by simp [ho]), List.filter_cons_of_pos (by simp [ho])]
      have e1 : l.filter (fun p => p.ours) = [] := List.filter_eq_nil_iff.2 fun q hq => by simp [hall q hq]
      have e2 : l.filter (fun p => !p.ours) = l := List.filter_eq_self.2 fun q hq => by simp [hall q hq]
      rw [e1, e2, List.nil_append]
theorem fil_map (l : List Pen) (b : Bool) : (l.map flipP).filter (fun p => p.ours == b) = (l.filter (fun p => p.ours == !b)).map flipP := by
  induction l with
  | nil => rfl
  | cons p l ih =>
    rw [List.map_cons]
    cases ho : p.ours <;> cases b <;> simp_all [flipP, List.filter_cons]
theorem fil_t (l : List Pen) : l.filter (fun p => p.ours) = l.filter (fun p => p.ours == true) := by congr 1; funext p; cases p.ours <;> rfl
theorem fil_f (l : List Pen) : l.filter (fun p => !p.ours) = l.filter (fun p => p.ours == false) := by congr 1; funext p; cases p.ours <;> rfl
theorem fil_fil (l : List Pen) (a b : Bool) : (l.filter (fun p => p.ours == a)).filter (fun p => p.ours == b) = if a = b then l.filter (fun p => p.ours == a) else [] := by
  by_cases e : a = b
  · subst e; rw [if_pos rfl]; exact List.filter_eq_self.2 fun q hq => (List.mem_filter.1 hq).2
  · rw [if_neg e]
    exact List.filter_eq_nil_iff.2 fun q hq hb => e (by
      have h1 := (List.mem_filter.1 hq).2
      rw [beq_iff_eq] at h1 hb
      rw [← h1, hb])
theorem turn_fil (l : List Pen) (b : Bool) : (turnP l).filter (fun p => p.ours == b) = (l.filter (fun p => p.ours == !b)).map flipP := by
  unfold turnP
  rw [fil_t, fil_f, List.filter_append, fil_map, fil_map, fil_fil, fil_fil]
  cases b <;> simp
theorem turn_turn {l : List Pen} (h : l.Pairwise (fun a b => foll a b = true)) : turnP (turnP l) = l := by
  have e : ∀ m : List Pen, turnP m = (m.filter (fun p => p.ours == false)).map flipP ++ (m.filter (fun p => p.ours == true)).map flipP := fun m => by
    unfold turnP
    rw [fil_t, fil_f]
  rw [e (turnP l), turn_fil, turn_fil, List.map_map, List.map_map]
  have e2 : flipP ∘ flipP = id := by funext p; exact flip_flip p
  rw [e2, List.map_id, List.map_id]
  have := pw_split h
  rw [fil_t, fil_f] at this
  exact this
theorem cnt_turn (l : List Pen) (b : Bool) : cntP b (turnP l) = cntP (!b) l := by
  unfold cntP
  rw [turn_fil, List.length_map]
theorem Snd.turn {x y : Int} {l : List Pen} (h : Snd x y l) : Snd y x (turnP l) := by
  have hp := good_pw h.2.1
  refine ⟨⟨h.1.2, h.1.1⟩, pw_good ?_ ?_, ?_, ?_⟩
  · unfold turnP
    rw [List.pairwise_append]
    refine ⟨?_, ?_, ?_⟩
    · rw [List.pairwise_map]
      refine (hp.filter _).imp_of_mem fun {a b} ha hb hab => ?_
      have h1 := (List.mem_filter.1 ha).2
      have h2 := (List.mem_filter.1 hb).2
      unfold foll flipP at *
      simp_all
    · rw [List.pairwise_map]
      refine (hp.filter _).imp_of_mem fun {a b} ha hb hab => ?_
      have h1 := (List.mem_filter.1 ha).2
      have h2 := (List.mem_filter.1 hb).2
      unfold foll flipP at *
      simp_all
    · intro a ha b hb
      obtain ⟨a', ha', rfl⟩ := List.mem_map.1 ha
      obtain ⟨b', hb', rfl⟩ := List.mem_map.1 hb
      have h1 := (List.mem_filter.1 ha').2
      have h2 := (List.mem_filter.1 hb').2
      unfold foll flipP
      simp_all
  · intro p hp2
    unfold turnP at hp2
    rcases List.mem_append.1 hp2 with h1 | h1
    · obtain ⟨q, hq, rfl⟩ := List.mem_map.1 h1
      have h9 := h.ok (List.mem_filter.1 hq).1; exact h9
    · obtain ⟨q, hq, rfl⟩ := List.mem_map.1 h1
      have h9 := h.ok (List.mem_filter.1 hq).1; exact h9
  · rw [cnt_turn]; exact h.2.2.2
  · rw [cnt_turn]; exact h.2.2.1
theorem amN_app (a b : List Pen) : amN (a ++ b) = amN a + amN b := by unfold amN; rw [List.map_append, List.sum_append]
theorem amN_flip (l : List Pen) : amN (l.map flipP) = amN l := by unfold amN; rw [List.map_map]; rfl
theorem amN_turn {l : List Pen} (h : l.Pairwise (fun a b => foll a b = true)) : amN (turnP l) = amN l := by
  have e : amN (turnP l) = amN (l.filter fun p => !p.ours) + amN (l.filter fun p => p.ours) := by
    unfold turnP
    rw [amN_app, amN_flip, amN_flip]
  have e2 := congrArg amN (pw_split h)
  rw [amN_app] at e2
  omega
theorem Snd.amts {x y : Int} {l : List Pen} (h : Snd x y l) : ∀ p ∈ l, 0 ≤ p.amt ∧ p.amt ≤ 1152921504606846976 := fun p hp => by
  have := okP_rng (h.ok hp)
  omega
end Go.Proofs.Ythmbpddpdbkioaa
