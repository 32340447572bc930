/-
  A stable sort, in plain words: what it says, what merging two sorted parts makes of it.
-/
import Derived.Test.YtbeoojnofblnjaaProg
import Derived.Shelf.SlSortCmp.KitK
namespace Go.Proofs.Ytbeoojnofblnjaa
open Go.Sort
set_option linter.unusedVariables false
section
variable {α : Type} (key : α → Int)
def Srt (l : List α) : Prop := l.Pairwise fun a b => key a ≤ key b
def Sam (l l' : List α) : Prop := ∀ k, l.filter (fun a => key a == k) = l'.filter (fun a => key a == k)
def Sorts (l l' : List α) : Prop := Srt key l' ∧ Sam key l l'
variable {key} {a a' b b' c l l' A B A1 A2 B1 B2 M1 M2 : List α} {x : α}
theorem Sam.refl (l : List α) : Sam key l l := fun _ => rfl
theorem Sam.trans (h : Sam key a b) (k : Sam key b c) : Sam key a c := fun i => (h i).trans (k i)
theorem Sam.symm (h : Sam key a b) : Sam key b a := fun i => (h i).symm
theorem Sam.app (h : Sam key a a') (k : Sam key b b') : Sam key (a ++ b) (a' ++ b') := fun i => by rw [List.filter_append, List.filter_append, h i, k i]
theorem Sam.mem (h : Sam key a b) (hx : x ∈ a) : x ∈ b := by
  have e := h (key x)
  have : x ∈ a.filter (fun y => key y == key x) := List.mem_filter.2 ⟨hx, by simp⟩
  rw [e] at this
  exact (List.mem_filter.1 this).1
theorem Sam.swap (h : ∀ x ∈ A, ∀ y ∈ B, key x ≠ key y) : Sam key (A ++ B) (B ++ A) := fun k => by
  rw [List.filter_append, List.filter_append]
  by_cases hA : ∃ x ∈ A, key x = k
  · obtain ⟨x, hx, rfl⟩ := hA
    have : B.filter (fun a => key a == key x) = [] := by
      rw [List.filter_eq_nil_iff]
      intro y hy
      have := h x hx y hy
      simp; exact fun e => this e.symm
    rw [this]; simp
  · have : A.filter (fun a => key a == k) = [] := by
      rw [List.filter_eq_nil_iff]
      intro y hy
      simp; exact fun e => hA ⟨y, hy, e⟩
    rw [this]; simp
theorem Srt.app (h1 : Srt key a) (h2 : Srt key b) (h : ∀ x ∈ a, ∀ y ∈ b, key x ≤ key y) : Srt key (a ++ b) := List.pairwise_append.2 ⟨h1, h2, h⟩
theorem sorts_unique : ∀ (l1 l2 : List α), Srt key l1 → Srt key l2 → Sam key l1 l2 → l1 = l2
  | [], [], _, _, _ => rfl
  | [], y :: l2, _, _, h => by have := h.symm.mem (x := y) (by simp); simp at this
  | x :: l1, [], _, _, h => by have := h.mem (x := x) (by simp); simp at this
  | x :: l1, y :: l2, h1, h2, h => by
    have hy : y ∈ x :: l1 := h.symm.mem (by simp)
    have hx : x ∈ y :: l2 := h.mem (by simp)
    have k1 : key x ≤ key y := by
      rcases List.mem_cons.1 hy with rfl | hm
      · exact Int.le_refl _
      · exact (List.pairwise_cons.1 h1).1 y hm
    have k2 : key y ≤ key x := by
      rcases List.mem_cons.1 hx with rfl | hm
      · exact Int.le_refl _
      · exact (List.pairwise_cons.1 h2).1 x hm
    have e : key x = key y := by omega
    have hh := h (key x)
    rw [List.filter_cons_of_pos (by simp), List.filter_cons_of_pos (by simp [e])] at hh
    injection hh with hxy hl
    subst hxy
    rw [sorts_unique l1 l2 (List.pairwise_cons.1 h1).2 (List.pairwise_cons.1 h2).2 (fun k => by
      have := h k
      by_cases hk : key x = k
      · subst hk; exact hl
      · rw [List.filter_cons_of_neg (by simpa using hk), List.filter_cons_of_neg (by simpa using hk)] at this; exact this)]
/-- Two sorted parts, cut so that what is ahead is at most what is behind: merged in halves. -/
theorem merge_halves (hA : Srt key (A1 ++ A2)) (hB : Srt key (B1 ++ B2)) (h1 : ∀ x ∈ A1, ∀ y ∈ B2, key x ≤ key y) (h2 : ∀ x ∈ A2, ∀ y ∈ B1, key y < key x)
    (s1 : Sorts key (A1 ++ B1) M1) (s2 : Sorts key (A2 ++ B2) M2) : Sorts key ((A1 ++ A2) ++ (B1 ++ B2)) (M1 ++ M2) := by
  have pA := List.pairwise_append.1 hA
  have pB := List.pairwise_append.1 hB
  refine ⟨s1.1.app s2.1 fun x hx y hy => ?_, ?_⟩
  · rcases List.mem_append.1 (s1.2.symm.mem hx) with hx | hx <;> rcases List.mem_append.1 (s2.2.symm.mem hy) with hy | hy
    · exact pA.2.2 x hx y hy
    · exact h1 x hx y hy
    · exact Int.le_of_lt (h2 y hy x hx)
    · exact pB.2.2 x hx y hy
  · have e : Sam key ((A1 ++ A2) ++ (B1 ++ B2)) ((A1 ++ B1) ++ (A2 ++ B2)) := by
      have := (Sam.refl (key := key) A1).app ((Sam.swap (key := key) (A := A2) (B := B1) (fun x hx y hy => by have := h2 x hx y hy; omega)).app (Sam.refl (key := key) B2))
      simpa [List.append_assoc] using this
    exact e.trans (s1.2.app s2.2)
theorem merge_one (hB : Srt key (B1 ++ B2)) (h1 : ∀ y ∈ B1, key y < key x) (h2 : ∀ y ∈ B2, key x ≤ key y) : Sorts key ([x] ++ (B1 ++ B2)) (B1 ++ ([x] ++ B2)) := by
  have pB := List.pairwise_append.1 hB
  refine ⟨?_, ?_⟩
  · refine Srt.app pB.1 (List.pairwise_cons.2 ⟨h2, pB.2.1⟩) fun y hy z hz => ?_
    rcases List.mem_cons.1 hz with rfl | hz
    · exact Int.le_of_lt (h1 y hy)
    · exact pB.2.2 y hy z hz
  · have := (Sam.swap (key := key) (A := [x]) (B := B1) (fun z hz y hy => by simp at hz; subst hz; have := h1 y hy; omega)).app (Sam.refl (key := key) B2)
    simpa [List.append_assoc] using this
theorem merge_last (hA : Srt key (A1 ++ A2)) (h1 : ∀ y ∈ A1, key y ≤ key x) (h2 : ∀ y ∈ A2, key x < key y) : Sorts key ((A1 ++ A2) ++ [x]) (A1 ++ ([x] ++ A2)) := by
  have pA := List.pairwise_append.1 hA
  refine ⟨?_, ?_⟩
  · refine Srt.app pA.1 (List.pairwise_cons.2 ⟨fun y hy => Int.le_of_lt (h2 y hy), pA.2.1⟩) fun y hy z hz => ?_
    rcases List.mem_cons.1 hz with rfl | hz
    · exact h1 y hy
    · exact pA.2.2 y hy z hz
  · have := (Sam.refl (key := key) A1).app (Sam.swap (key := key) (A := A2) (B := [x]) (fun z hz y hy => by simp at hy; subst hy; have := h2 z hz; omega))
    simpa [List.append_assoc] using this
end
section
variable {α : Type} [Inhabited α]
theorem get_of {d : Array α} {l : List α} {i : Nat} {x : α} (h : d.toList = l) (hx : l[i]? = some x) : d[i]! = x := by
  rw [← h, Array.getElem?_toList] at hx
  simp [Array.getElem!_eq_getD, Array.getD_eq_getD_getElem?, hx]
/-- Two places exchanged, by lists. -/
theorem swp_list {d : Array α} {X Z Y : List α} {x y : α} (h : d.toList = X ++ (x :: (Z ++ (y :: Y)))) (i j : Nat) (hi : i = X.length) (hj : j = X.length + 1 + Z.length) : (swp d i j).toList = X ++ (y :: (Z ++ (x :: Y))) := by
  have ex : d[i]! = x := get_of h (by subst hi; simp)
  have ey : d[j]! = y := get_of h (by subst hj; rw [List.getElem?_append_right (by omega), show X.length + 1 + Z.length - X.length = Z.length + 1 by omega, List.getElem?_cons_succ, List.getElem?_append_right (by omega)]; simp)
  unfold swp
  rw [ex, ey, Array.toList_setIfInBounds, Array.toList_setIfInBounds, h]
  subst hi hj
  rw [List.set_append_right _ _ (by omega), Nat.sub_self, List.set_cons_zero, List.set_append_right _ _ (by omega), show X.length + 1 + Z.length - X.length = Z.length + 1 by omega, List.set_cons_succ, List.set_append_right _ _ (by omega), Nat.sub_self, List.set_cons_zero]
end
theorem size_of {α : Type} {d : Array α} {l : List α} (h : d.toList = l) : d.size = l.length := by rw [← h, Array.length_toList]
end Go.Proofs.Ytbeoojnofblnjaa
