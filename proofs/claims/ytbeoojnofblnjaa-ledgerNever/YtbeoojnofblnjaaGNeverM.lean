/-
  LedgerNever, in plain words: what is spendable never falls below 0, and no commitment's balance is below it.
-/
import Derived.Test.YtbeoojnofblnjaaGViewM
namespace Go.Proofs.Ytbeoojnofblnjaa
open Go.RowKit S Go.Shelf Go.Sort
set_option linter.unusedVariables false
set_option linter.unusedSimpArgs false
theorem remK_app {l m : List Upd} {id : Int} (h : remK l id ≠ 0) : remK (l ++ m) id = remK l id := by
  unfold remK at *
  rw [List.find?_append]
  cases hf : l.find? (remP id) with
  | none => rw [hf] at h; simp at h
  | some u => rfl
theorem take_more {α : Type} (l : List α) {a b : Nat} (h : a ≤ b) : l.take b = l.take a ++ (l.take b).drop a := by
  have e := List.take_append_drop a (l.take b)
  rw [List.take_take, Nat.min_eq_left h] at e
  exact e.symm
theorem remK_take {l : List Upd} {a b : Nat} {id : Int} (h : a ≤ b) (h0 : remK (l.take a) id ≠ 0) : remK (l.take b) id = remK (l.take a) id := by rw [take_more l h]; exact remK_app h0
theorem remK_mem {l : List Upd} {id : Int} (h : remK l id ≠ 0) : ∃ r ∈ l, validB r = true ∧ r.kind ≠ 1 ∧ r.id = id := by
  unfold remK at h
  cases hf : l.find? (remP id) with
  | none => rw [hf] at h; simp at h
  | some u =>
    have h1 := List.find?_some hf
    have h2 := List.mem_of_find?_eq_some hf
    unfold remP at h1
    simp only [Bool.and_eq_true, bne_iff_ne, beq_iff_eq] at h1
    exact ⟨u, h2, h1.1, h1.2.1, h1.2.2⟩
theorem sumIf_le {p q : Upd → Bool} (hq : ∀ u, q u = true → addB u = true) : ∀ l : List Upd, (∀ u ∈ l, p u = true → q u = true) → sumIf p l ≤ sumIf q l
  | [], _ => by simp [sumIf]
  | u :: l, h => by
    have ih := sumIf_le hq l (fun v hv => h v (List.mem_cons_of_mem _ hv))
    simp only [sumIf]
    by_cases hp : p u = true
    · have h2 := h u List.mem_cons_self hp
      rw [if_pos hp, if_pos h2]; omega
    · rw [if_neg hp]
      by_cases h3 : q u = true
      · rw [if_pos h3]; have := add_amt (hq u h3); omega
      · rw [if_neg h3]; omega
theorem sumIf_none {p : Upd → Bool} : ∀ l : List Upd, (∀ u ∈ l, p u = false) → sumIf p l = 0
  | [], _ => rfl
  | u :: l, h => by
    simp only [sumIf]
    rw [if_neg (by rw [h u List.mem_cons_self]; simp), sumIf_none l (fun v hv => h v (List.mem_cons_of_mem _ hv))]
    rfl
theorem sumIf_pre {p : Upd → Bool} (hp : ∀ u, p u = true → addB u = true) (l : List Upd) (k : Nat) : sumIf p (l.take k) ≤ sumIf p l := by
  have e := congrArg (sumIf p) (List.take_append_drop k l)
  rw [sumIf_append] at e
  have := (sumIf_bd hp (l.drop k)).1
  omega
/-- What is spendable, before it is cut to an amount. -/
def leftN (b : Int) (mine others : List Upd) (fO fP : Nat) : Int := b - sumIf (lostB (others.take fP)) mine + sumIf (wonB (mine.take fO)) others
/-- Each removal in a names adds of b that all lie below f, by an ID below b's count of adds. -/
def Jn (a b : List Upd) (f : Nat) : Prop := ∀ r ∈ a, r.kind ≠ 1 → r.id < (addsN b : Int) ∧ ∀ i u, b[i]? = some u → u.kind = 1 → u.id = r.id → i < f
def Idn (l : List Upd) : Prop := ∀ i u, l[i]? = some u → u.kind = 1 → u.id = (addsN (l.take i) : Int)
structure Nv (b0 b1 : Int) (l0 l1 : List Upd) (f0 f1 : Nat) : Prop where
  c0 : f0 ≤ l0.length
  c1 : f1 ≤ l1.length
  v0 : l0.all validB = true
  v1 : l1.all validB = true
  i0 : Idn l0
  i1 : Idn l1
  j0 : Jn l0 l1 f1
  j1 : Jn l1 l0 f0
  p0 : 0 ≤ leftN b0 l0 l1 f0 f1
  p1 : 0 ≤ leftN b1 l1 l0 f1 f0
theorem Nv.swap {b0 b1 : Int} {l0 l1 : List Upd} {f0 f1 : Nat} (h : Nv b0 b1 l0 l1 f0 f1) : Nv b1 b0 l1 l0 f1 f0 := ⟨h.c1, h.c0, h.v1, h.v0, h.i1, h.i0, h.j1, h.j0, h.p1, h.p0⟩
theorem Nv.start (b0 b1 : Int) (h0 : 0 ≤ b0) (h1 : 0 ≤ b1) : Nv b0 b1 [] [] 0 0 :=
  ⟨Nat.le_refl _, Nat.le_refl _, rfl, rfl, (fun i u h => by simp at h), (fun i u h => by simp at h), (fun r hr => by cases hr), (fun r hr => by cases hr), by simpa [leftN, sumIf] using h0, by simpa [leftN, sumIf] using h1⟩
theorem Nv.bal {b0 b1 : Int} {l0 l1 : List Upd} {f0 f1 : Nat} (h : Nv b0 b1 l0 l1 f0 f1) {p q : Nat} (hp : f0 ≤ p) (hq : f1 ≤ q) : leftN b0 l0 l1 f0 f1 ≤ balX b0 (l0.take p) (l1.take q) := by
  have e1 : sumIf (lostB (l1.take q)) (l0.take p) ≤ sumIf (lostB (l1.take f1)) l0 := by
    refine Int.le_trans (sumIf_pre (lost_add _) l0 p) (sumIf_le (lost_add _) l0 fun u _ hu => ?_)
    unfold lostB at hu ⊢
    simp only [Bool.and_eq_true, bne_iff_ne] at hu ⊢
    exact ⟨hu.1, fun e => hu.2 (by rw [remK_take hq (by rw [e]; decide), e])⟩
  have e2 : sumIf (wonB (l0.take f0)) l1 ≤ sumIf (wonB (l0.take p)) (l1.take q) := by
    have e3 : sumIf (wonB (l0.take f0)) (l1.drop q) = 0 := sumIf_none _ fun u hu => by
      rw [Bool.eq_false_iff]
      intro hw
      unfold wonB at hw
      simp only [Bool.and_eq_true, beq_iff_eq] at hw
      obtain ⟨r, hr, hv, hk, hid⟩ := remK_mem (l := l0.take f0) (id := u.id) (by rw [hw.2]; decide)
      obtain ⟨i, hi⟩ := List.mem_iff_getElem?.1 hu
      rw [List.getElem?_drop] at hi
      have hk1 : u.kind = 1 := by have := hw.1; unfold addB at this; simp only [Bool.and_eq_true, beq_iff_eq] at this; exact this.1
      have := (h.j0 r (List.mem_of_mem_take hr) hk).2 (q + i) u hi hk1 hid.symm
      omega
    have e4 := congrArg (sumIf (wonB (l0.take f0))) (List.take_append_drop q l1)
    rw [sumIf_append, e3] at e4
    have e5 : sumIf (wonB (l0.take f0)) (l1.take q) ≤ sumIf (wonB (l0.take p)) (l1.take q) := sumIf_le (won_add _) _ fun u _ hu => by
      unfold wonB at hu ⊢
      simp only [Bool.and_eq_true, beq_iff_eq] at hu ⊢
      exact ⟨hu.1, by rw [remK_take hp (by rw [hu.2]; decide), hu.2]⟩
    omega
  unfold leftN balX
  omega
theorem Nv.balX {b0 b1 : Int} {l0 l1 : List Upd} {f0 f1 : Nat} (h : Nv b0 b1 l0 l1 f0 f1) {p q : Nat} (hp : f0 ≤ p) (hq : f1 ≤ q) : 0 ≤ balX b0 (l0.take p) (l1.take q) := Int.le_trans h.p0 (h.bal hp hq)
theorem Nv.balY {b0 b1 : Int} {l0 l1 : List Upd} {f0 f1 : Nat} (h : Nv b0 b1 l0 l1 f0 f1) {p q : Nat} (hp : f0 ≤ p) (hq : f1 ≤ q) : 0 ≤ balY b1 (l0.take p) (l1.take q) := by
  have := h.swap.balX hq hp
  rw [(bal_turn b0 b1 (l0.take p) (l1.take q)).1] at this
  exact this
/-- What is spendable is at most both bases together. -/
theorem Nv.most {b0 b1 : Int} {l0 l1 : List Upd} {f0 f1 : Nat} (h : Nv b0 b1 l0 l1 f0 f1) : leftN b0 l0 l1 f0 f1 ≤ b0 + b1 := by
  have e1 := h.bal (Nat.le_refl f0) (Nat.le_refl f1)
  have e2 := h.balY (Nat.le_refl f0) (Nat.le_refl f1)
  have e3 := bal_whole b0 b1 (l0.take f0) (l1.take f1)
  have e4 := sumP_pos (fold_amt (l0.take f0) (l1.take f1))
  omega
theorem adds_app (l : List Upd) (u : Upd) : addsN (l ++ [u]) = addsN l + (if (u.kind == 1) = true then 1 else 0) := by
  unfold addsN
  rw [List.filter_append, List.length_append]
  by_cases h : (u.kind == 1) = true <;> simp [h]
theorem get_snoc {α : Type} {l : List α} {x u : α} {i : Nat} (h : (l ++ [x])[i]? = some u) : (l[i]? = some u ∧ i < l.length) ∨ (i = l.length ∧ u = x) := by
  rcases Nat.lt_trichotomy i l.length with h1 | h1 | h1
  · rw [List.getElem?_append_left h1] at h; exact .inl ⟨h, h1⟩
  · subst h1; simp at h; exact .inr ⟨rfl, h.symm⟩
  · rw [List.getElem?_append_right (by omega)] at h
    have : ([x] : List α)[i - l.length]? = none := List.getElem?_eq_none (by simp; omega)
    rw [this] at h; cases h
theorem take_snoc_le {α : Type} (l : List α) (x : α) {k : Nat} (h : k ≤ l.length) : (l ++ [x]).take k = l.take k := by rw [List.take_append_of_le_length h]
/-- More becomes irrevocable. -/
theorem Nv.fix {b0 b1 : Int} {l0 l1 : List Upd} {f0 f1 : Nat} (h : Nv b0 b1 l0 l1 f0 f1) {k : Nat} (hk : f0 ≤ k) (hl : k ≤ l0.length) : Nv b0 b1 l0 l1 k f1 := by
  refine ⟨hl, h.c1, h.v0, h.v1, h.i0, h.i1, h.j0, fun r hr hk' => ⟨(h.j1 r hr hk').1, fun i u hi h1 h2 => Nat.lt_of_lt_of_le ((h.j1 r hr hk').2 i u hi h1 h2) hk⟩, ?_, ?_⟩
  · refine Int.le_trans h.p0 ?_
    have : sumIf (wonB (l0.take f0)) l1 ≤ sumIf (wonB (l0.take k)) l1 := sumIf_le (won_add _) _ fun u _ hu => by
      unfold wonB at hu ⊢
      simp only [Bool.and_eq_true, beq_iff_eq] at hu ⊢
      exact ⟨hu.1, by rw [remK_take hk (by rw [hu.2]; decide), hu.2]⟩
    unfold leftN
    omega
  · refine Int.le_trans h.p1 ?_
    have : sumIf (lostB (l0.take k)) l1 ≤ sumIf (lostB (l0.take f0)) l1 := sumIf_le (lost_add _) _ fun u _ hu => by
      unfold lostB at hu ⊢
      simp only [Bool.and_eq_true, bne_iff_ne] at hu ⊢
      exact ⟨hu.1, fun e => hu.2 (by rw [remK_take hk (by rw [e]; decide), e])⟩
    unfold leftN
    omega
/-- An add of at most what is spendable. -/
theorem Nv.add {b0 b1 : Int} {l0 l1 : List Upd} {f0 f1 : Nat} (h : Nv b0 b1 l0 l1 f0 f1) {u : Upd} (ha : addB u = true) (hi : u.id = (addsN l0 : Int)) (hm : u.amt ≤ leftN b0 l0 l1 f0 f1) : Nv b0 b1 (l0 ++ [u]) l1 f0 f1 := by
  have hk : u.kind = 1 := by unfold addB at ha; simp only [Bool.and_eq_true, beq_iff_eq] at ha; exact ha.1
  have hv : validB u = true := by unfold addB at ha; simp only [Bool.and_eq_true] at ha; exact ha.2
  have hla : addsN (l0 ++ [u]) = addsN l0 + 1 := by rw [adds_app, if_pos (by rw [hk]; rfl)]
  refine ⟨by rw [List.length_append]; have := h.c0; omega, h.c1, by rw [List.all_append, h.v0]; simp [hv], h.v1, fun i v hi' h1 => ?_, h.i1, fun r hr hk' => ?_, fun r hr hk' => ⟨?_, fun i v hi' h1 h2 => ?_⟩, ?_, ?_⟩
  · rcases get_snoc hi' with ⟨hg, hl⟩ | ⟨rfl, rfl⟩
    · rw [take_snoc_le _ _ (by omega)]; exact h.i0 i v hg h1
    · rw [take_snoc_le _ _ (Nat.le_refl _), List.take_length]; exact hi
  · rcases List.mem_append.1 hr with hr | hr
    · exact h.j0 r hr hk'
    · simp only [List.mem_singleton] at hr; subst hr; exact absurd hk hk'
  · have := (h.j1 r hr hk').1; rw [hla]; omega
  · rcases get_snoc hi' with ⟨hg, _⟩ | ⟨_, rfl⟩
    · exact (h.j1 r hr hk').2 i v hg h1 h2
    · have := (h.j1 r hr hk').1; omega
  · unfold leftN at hm ⊢
    rw [sumIf_append, take_snoc_le _ _ h.c0]
    simp only [sumIf]
    by_cases hc : lostB (l1.take f1) u = true
    · rw [if_pos hc]; omega
    · rw [if_neg hc]; have := h.p0; unfold leftN at this; omega
  · have := h.p1
    unfold leftN at this ⊢
    rw [sumIf_append, take_snoc_le _ _ h.c0]
    simp only [sumIf]
    by_cases hc : wonB (l1.take f1) u = true
    · rw [if_pos hc]; have := add_amt ha; omega
    · rw [if_neg hc]; omega
/-- A removal of an irrevocable add. -/
theorem Nv.rem {b0 b1 : Int} {l0 l1 : List Upd} {f0 f1 : Nat} (h : Nv b0 b1 l0 l1 f0 f1) {r u : Upd} {k : Nat} (hv : validB r = true) (hk : r.kind ≠ 1) (hu : l1[k]? = some u) (hu1 : u.kind = 1) (hid : r.id = u.id) (hkf : k < f1) : Nv b0 b1 (l0 ++ [r]) l1 f0 f1 := by
  have hla : addsN (l0 ++ [r]) = addsN l0 := by rw [adds_app, if_neg (by simpa using hk), Nat.add_zero]
  have hnb : addB r = false := by unfold addB; rw [show (r.kind == 1) = false by simpa using hk]; rfl
  have hcnt : ∀ i v, l1[i]? = some v → v.kind = 1 → addsN (l1.take i) < addsN l1 := fun i v hi h1 => by
    have e := congrArg addsN (List.take_append_drop (i + 1) l1)
    have e2 : l1.take (i + 1) = l1.take i ++ [v] := take_snoc hi
    unfold addsN at *
    rw [e2, List.filter_append, List.length_append, List.filter_append, List.length_append] at e
    simp only [List.filter_cons, h1] at e
    simp at e
    omega
  have hmono : ∀ i j v, l1[i]? = some v → v.kind = 1 → i < j → addsN (l1.take i) < addsN (l1.take j) := fun i j v hi h1 hij => by
    have e := congrArg addsN (take_more l1 (a := i + 1) (b := j) hij)
    have e2 : l1.take (i + 1) = l1.take i ++ [v] := take_snoc hi
    unfold addsN at *
    rw [e2, List.filter_append, List.length_append, List.filter_append, List.length_append] at e
    simp only [List.filter_cons, h1] at e
    simp at e
    omega
  refine ⟨by rw [List.length_append]; have := h.c0; omega, h.c1, by rw [List.all_append, h.v0]; simp [hv], h.v1, fun i v hi' h1 => ?_, h.i1, fun q hq hk' => ?_, fun q hq hk' => ⟨?_, fun i v hi' h1 h2 => ?_⟩, ?_, ?_⟩
  · rcases get_snoc hi' with ⟨hg, hl⟩ | ⟨rfl, rfl⟩
    · rw [take_snoc_le _ _ (by omega)]; exact h.i0 i v hg h1
    · exact absurd h1 hk
  · rcases List.mem_append.1 hq with hq | hq
    · exact h.j0 q hq hk'
    · simp only [List.mem_singleton] at hq
      subst hq
      have hi1 := h.i1 k u hu hu1
      refine ⟨by rw [hid, hi1]; have := hcnt k u hu hu1; omega, fun i v hi' h1 h2 => ?_⟩
      have hi2 := h.i1 i v hi' h1
      rcases Nat.lt_trichotomy i k with hc | hc | hc
      · omega
      · omega
      · have := hmono k i u hu hu1 hc; omega
  · have := (h.j1 q hq hk').1; rw [hla]; exact this
  · rcases get_snoc hi' with ⟨hg, _⟩ | ⟨_, rfl⟩
    · exact (h.j1 q hq hk').2 i v hg h1 h2
    · exact absurd h1 hk
  · have := h.p0
    unfold leftN at this ⊢
    rw [sumIf_append, take_snoc_le _ _ h.c0]
    simp only [sumIf]
    rw [if_neg (by unfold lostB; rw [hnb]; simp)]
    omega
  · have := h.p1
    unfold leftN at this ⊢
    rw [sumIf_append, take_snoc_le _ _ h.c0]
    simp only [sumIf]
    rw [if_neg (by unfold wonB; rw [hnb]; simp)]
    omega
end Go.Proofs.Ytbeoojnofblnjaa
