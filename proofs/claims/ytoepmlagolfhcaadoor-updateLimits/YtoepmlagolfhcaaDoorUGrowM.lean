/-
  Lists that grow by Next are sound: plain.
-/
import Derived.Test.YtoepmlagolfhcaaDoorUWrite
namespace Go.Proofs.YtoepmlagolfhcaaDoor
open Go.RowKit S
set_option linter.unusedVariables false
set_option linter.unusedSimpArgs false
theorem followK_some {u : Upd} {o m : Option Upd} (h : followK u o m = true) : ∃ a, o = some a ∧ m = none ∧ (((u.kind == 3) || eqH (sumU u.hash) a.hash) = true) := by
  cases o with
  | none => exact absurd h (by simp [followK])
  | some a =>
    cases m with
    | some m => exact absurd h (by simp [followK])
    | none => exact ⟨a, rfl, rfl, h⟩
/-- One update of a list, and what stands ahead of it, and the other list. -/
def soundAt (mine others : List Upd) (i : Nat) (u : Upd) : Prop :=
  (u.kind = 1 ∧ u.id = (addsN (mine.take i) : Int)) ∨
  (u.kind ≠ 1 ∧ remB u = true ∧ (∀ x ∈ mine.take i, x.kind ≠ 1 → x.id ≠ u.id) ∧ ∃ a ∈ others, a.kind = 1 ∧ a.id = u.id ∧ (((u.kind == 3) || eqH (sumU u.hash) a.hash) = true))
def Sound (mine others : List Upd) : Prop := ∀ i u, mine[i]? = some u → soundAt mine others i u
theorem Sound.nil (o : List Upd) : Sound [] o := fun i u h => by simp at h
theorem soundAt.more {mine others more : List Upd} {i : Nat} {u : Upd} (h : soundAt mine others i u) : soundAt mine (others ++ more) i u := by
  rcases h with h | ⟨h1, h2, h3, a, ha, h4⟩
  · exact .inl h
  · exact .inr ⟨h1, h2, h3, a, List.mem_append_left _ ha, h4⟩
theorem Sound.others {mine others more : List Upd} (h : Sound mine others) : Sound mine (others ++ more) := fun i u hu => (h i u hu).more
theorem Sound.kinds {mine others : List Upd} (h : Sound mine others) {x : Upd} (hx : x ∈ mine) (hk : x.kind ≠ 1) : remB x = true := by
  obtain ⟨i, hi⟩ := List.mem_iff_getElem?.1 hx
  rcases h i x hi with h | h
  · exact absurd h.1 hk
  · exact h.2.1
theorem Sound.snoc {mine others : List Upd} {u : Upd} (h : Sound mine others) (hu : soundAt (mine ++ [u]) others mine.length u) : Sound (mine ++ [u]) others := by
  intro i x hx
  rcases Nat.lt_or_ge i mine.length with hi | hi
  · rw [List.getElem?_append_left hi] at hx
    have := h i x hx
    unfold soundAt at this ⊢
    rw [List.take_append_of_le_length (Nat.le_of_lt hi)]
    exact this
  · have hi2 : i = mine.length := by
      have := (List.getElem?_eq_some_iff.1 hx).1
      simp at this
      omega
    subst hi2
    rw [List.getElem?_append_right (Nat.le_refl _), Nat.sub_self] at hx
    simp only [List.getElem?_cons_zero, Option.some.injEq] at hx
    subst hx
    exact hu
theorem find_mem {p : Upd → Bool} {l : List Upd} {a : Upd} (h : l.find? p = some a) : a ∈ l ∧ p a = true := ⟨List.mem_of_find?_eq_some h, List.find?_some h⟩
/-- What Next takes keeps it. -/
theorem sound_next {mine others : List Upd} {n : Nat} {u : Upd} (h : Sound mine others) (hv : validB u = true) (hf : followsB mine (others.take n) u = true) : Sound (mine ++ [u]) others := by
  refine h.snoc ?_
  unfold soundAt
  rw [List.take_left]
  unfold followsB at hf
  by_cases k1 : (u.kind == 1) = true
  · rw [if_pos k1] at hf
    exact .inl ⟨beq_iff_eq.1 k1, beq_iff_eq.1 hf⟩
  · rw [if_neg k1] at hf
    obtain ⟨a, ho, hm, he⟩ := followK_some hf
    have hk1 : u.kind ≠ 1 := fun e => k1 (beq_iff_eq.2 e)
    have hr : remB u = true := by
      unfold remB
      rcases valid_kinds hv with ⟨e, _⟩ | ⟨e, _⟩ | ⟨e, _⟩
      · exact absurd e hk1
      · rw [e]; rfl
      · rw [e]; rfl
    obtain ⟨ham, hap⟩ := find_mem ho
    unfold isAdd at hap
    rw [Bool.and_eq_true, beq_iff_eq, beq_iff_eq] at hap
    refine .inr ⟨hk1, hr, fun x hx hxk hid => ?_, a, List.mem_of_mem_take ham, hap.1, hap.2, he⟩
    have := List.find?_eq_none.1 hm x hx
    unfold isRem at this
    rw [h.kinds hx hxk, hid] at this
    simp at this
/-- In a sound list the Add with an ID is one. -/
theorem adds_lt {l : List Upd} {i j : Nat} (hij : i ≤ j) : addsN (l.take i) ≤ addsN (l.take j) := by
  unfold addsN
  have : l.take i = (l.take j).take i := by rw [List.take_take, Nat.min_eq_left hij]
  rw [this]
  exact ((List.take_sublist i (l.take j)).filter _).length_le
theorem adds_one {l o : List Upd} (h : Sound l o) {i j : Nat} {a b : Upd} (hi : l[i]? = some a) (hj : l[j]? = some b) (ha : a.kind = 1) (hb : b.kind = 1) (hid : a.id = b.id) : i = j := by
  have key : ∀ (i j : Nat) (a b : Upd), l[i]? = some a → l[j]? = some b → a.kind = 1 → b.kind = 1 → a.id = b.id → ¬ i < j := fun i j a b hi hj ha hb hid hlt => by
    rcases h i a hi with h1 | h1
    · rcases h j b hj with h2 | h2
      · have e := adds_next (l := l) (j := i) hi true (by rw [ha]; rfl)
        have m := adds_lt (l := l) (show i + 1 ≤ j by omega)
        rw [if_pos rfl] at e
        have := h1.2
        have := h2.2
        omega
      · exact h2.1 hb
    · exact h1.1 ha
  rcases Nat.lt_trichotomy i j with h1 | h1 | h1
  · exact absurd h1 (key i j a b hi hj ha hb hid)
  · exact h1
  · exact absurd h1 (key j i b a hj hi hb ha hid.symm)
/-- may's own words on a sound list are Next's. -/
def goneB (mine : List Upd) (id : Int) : Bool := mine.any fun x => !(x.kind == 1) && (x.id == id)
theorem gone_eq {mine others : List Upd} (h : Sound mine others) (id : Int) : goneB mine id = (mine.find? (isRem id)).isSome := by
  rw [Bool.eq_iff_iff, List.find?_isSome]
  unfold goneB
  rw [List.any_eq_true]
  constructor
  · rintro ⟨x, hx, hp⟩
    rw [Bool.and_eq_true, Bool.not_eq_true', beq_eq_false_iff_ne, beq_iff_eq] at hp
    refine ⟨x, hx, ?_⟩
    unfold isRem
    rw [h.kinds hx hp.1, hp.2]
    simp
  · rintro ⟨x, hx, hp⟩
    unfold isRem remB at hp
    rw [Bool.and_eq_true, Bool.or_eq_true, beq_iff_eq, beq_iff_eq, beq_iff_eq] at hp
    refine ⟨x, hx, ?_⟩
    rw [Bool.and_eq_true, Bool.not_eq_true', beq_eq_false_iff_ne, beq_iff_eq]
    refine ⟨fun e => ?_, hp.2⟩
    omega
def mayB (mine others : List Upd) (u : Upd) : Bool :=
  if validB u = false then false else if (u.kind == 1) = true then (u.id == (addsN mine : Int))
  else match others.find? (isAdd u.id) with
    | none => false
    | some a => if goneB mine u.id = true then false else (u.kind == 3) || eqH (sumU u.hash) a.hash
theorem may_eq {mine o others : List Upd} (h : Sound mine o) (hl : mine.length < 2048) (u : Upd) : (nextA mine others u == 0) = mayB mine others u := by
  unfold nextA mayB
  rw [if_neg (by omega)]
  cases hv : validB u with
  | false => rw [if_pos rfl, if_pos rfl]; rfl
  | true =>
    rw [if_neg (show ¬(true = false) by decide), if_neg (show ¬(true = false) by decide)]
    unfold followsB
    by_cases k1 : (u.kind == 1) = true
    · rw [if_pos k1, if_pos k1]
      cases (u.id == (addsN mine : Int)) <;> rfl
    · rw [if_neg k1, if_neg k1, gone_eq h]
      cases others.find? (isAdd u.id) with
      | none => rfl
      | some a =>
        cases mine.find? (isRem u.id) with
        | some m => rfl
        | none =>
          show ((if ((u.kind == 3) || eqH (sumU u.hash) a.hash) = true then (0 : Int) else 120) == 0) = (if false = true then false else (u.kind == 3) || eqH (sumU u.hash) a.hash)
          cases ((u.kind == 3) || eqH (sumU u.hash) a.hash) <;> rfl
theorem next_zero {mine others : List Upd} {u : Upd} (hl : mine.length < 2048) (h : nextA mine others u = 0) : validB u = true ∧ followsB mine others u = true := by
  unfold nextA at h
  rw [if_neg (by omega)] at h
  cases hv : validB u with
  | false => rw [hv, if_pos rfl] at h; simp at h
  | true =>
    rw [hv, if_neg (show ¬(true = false) by decide)] at h
    cases hf : followsB mine others u with
    | false => rw [hf, if_neg (by decide)] at h; simp at h
    | true => exact ⟨rfl, rfl⟩
theorem next_codes {mine others : List Upd} {u : Upd} (hl : mine.length < 2048) : nextA mine others u = 0 ∨ nextA mine others u = 120 := by
  unfold nextA
  rw [if_neg (by omega)]
  repeat' split
  all_goals first | exact .inl rfl | exact .inr rfl
end Go.Proofs.YtoepmlagolfhcaaDoor
