/-
  P10.2, P10.3, plain: secrets put in order.
-/
import Derived.Test.YtocojkafdgmgdaaDoorPAgreesM
namespace Go.Proofs.YtocojkafdgmgdaaDoor
open Go.RowKit S
set_option linter.unusedVariables false
set_option linter.unusedSimpArgs false
def lv (n : Nat) : Nat := lvl (place n) 48
/-- The number whose secret stands in a place, behind k puts. -/
def St : Nat → Nat → Option Nat
  | 0, _ => none
  | k + 1, j => if j = lv k then some k else St k j
theorem St_is : ∀ k j a, St k j = some a → a < k ∧ lv a = j
  | 0, j, a, h => by cases h
  | k + 1, j, a, h => by
    unfold St at h
    by_cases hj : j = lv k
    · rw [if_pos hj] at h; cases h; exact ⟨by omega, hj.symm⟩
    · rw [if_neg hj] at h
      have := St_is k j a h
      exact ⟨by omega, this.2⟩
def StC (k j : Nat) : Option Nat := if 2 ^ j ≤ k then some (k - 1 - (k - 2 ^ j) % 2 ^ (j + 1)) else none
def lvs : Nat → Nat → Nat
  | 0, _ => 0
  | f + 1, n => if n % 2 = 1 then lvs f (n / 2) + 1 else 0
theorem lv_small : ((List.range 132).all fun n => lv n == lvs 8 n && decide (lvs 8 n < 8)) = true := by decide +kernel
theorem lv_is {n : Nat} (h : n < 132) : lv n = lvs 8 n ∧ lvs 8 n < 8 := by
  have := List.all_eq_true.1 lv_small n (List.mem_range.2 h)
  simpa using this
theorem StC_step : ((List.range 128).all fun k => (List.range 8).all fun j => StC (k + 1) j == if j = lvs 8 k then some k else StC k j) = true := by decide +kernel
theorem St_C : ∀ k, k ≤ 128 → ∀ j, St k j = if j < 8 then StC k j else none
  | 0, _, j => by
    unfold St
    split
    · unfold StC; rw [if_neg (by have : 0 < 2 ^ j := Nat.pow_pos (by omega); omega)]
    · rfl
  | k + 1, hk, j => by
    unfold St
    obtain ⟨h1, h2⟩ := lv_is (n := k) (by omega)
    rw [St_C k (by omega) j, h1]
    by_cases hj : j < 8
    · rw [if_pos hj, if_pos hj]
      have := List.all_eq_true.1 (List.all_eq_true.1 StC_step k (List.mem_range.2 (by omega))) j (List.mem_range.2 hj)
      simp only [beq_iff_eq] at this
      rw [this]
    · rw [if_neg hj, if_neg hj, if_neg (by omega)]
def covB (k n m : Nat) : Bool := (List.range m).any fun j => match StC k j with
  | some a => decide (n ≤ a) && decide (a - n < 2 ^ j)
  | none => false
theorem cov1 : ((List.range 128).all fun k => (List.range k).all fun n => covB k n 8) = true := by decide +kernel
theorem cov2 : ((List.range 128).all fun k => (List.range k).all fun n => !decide (k - n < 2 ^ lvs 8 k) || covB k n (lvs 8 k)) = true := by decide +kernel
theorem cov3 : ((List.range 128).all fun k => (List.range (lvs 8 k)).all fun j => match StC k j with
  | some a => decide (k - a < 2 ^ lvs 8 k)
  | none => true) = true := by decide +kernel
theorem cov_of {k n m : Nat} (hk : k ≤ 128) (hm : m ≤ 8) (h : covB k n m = true) : ∃ j a, j < m ∧ St k j = some a ∧ n ≤ a ∧ a - n < 2 ^ j := by
  unfold covB at h
  obtain ⟨j, hj, h⟩ := List.any_eq_true.1 h
  have hj := List.mem_range.1 hj
  cases hs : StC k j with
  | none => rw [hs] at h; cases h
  | some a =>
    rw [hs] at h
    simp only [Bool.and_eq_true, decide_eq_true_eq] at h
    exact ⟨j, a, hj, by rw [St_C k hk j, if_pos (by omega), hs], h.1, h.2⟩
theorem cover {k n : Nat} (hk : k < 128) (hn : n < k) : ∃ j a, j < 8 ∧ St k j = some a ∧ n ≤ a ∧ a - n < 2 ^ j :=
  cov_of (by omega) (Nat.le_refl _) (List.all_eq_true.1 (List.all_eq_true.1 cov1 k (List.mem_range.2 hk)) n (List.mem_range.2 hn))
theorem cover_below {k n : Nat} (hk : k < 128) (hn : n < k) (h : k - n < 2 ^ lv k) : ∃ j a, j < lv k ∧ St k j = some a ∧ n ≤ a ∧ a - n < 2 ^ j := by
  obtain ⟨h1, h2⟩ := lv_is (n := k) (by omega)
  have := List.all_eq_true.1 (List.all_eq_true.1 cov2 k (List.mem_range.2 hk)) n (List.mem_range.2 hn)
  rw [← h1] at this h2
  simp only [Bool.or_eq_true, Bool.not_eq_true', decide_eq_false_iff_not] at this
  rcases this with this | this
  · exact absurd h this
  · exact cov_of (by omega) (by omega) this
theorem near_below {k j a : Nat} (hk : k < 128) (hj : j < lv k) (h : St k j = some a) : k - a < 2 ^ lv k := by
  obtain ⟨h1, h2⟩ := lv_is (n := k) (by omega)
  have := List.all_eq_true.1 (List.all_eq_true.1 cov3 k (List.mem_range.2 hk)) j (List.mem_range.2 (by rw [← h1]; exact hj))
  rw [St_C k (by omega) j, if_pos (by omega)] at h
  rw [h, ← h1] at this
  simpa using this
def hz : Nat → UInt8 := fun _ => 0
def slotOf (P : List (Nat → UInt8)) : Option Nat → Slot
  | some a => ⟨(a : Int), P.getD a hz, true⟩
  | none => Slot.zero
structure ShelfIs (l : List Slot) (P : List (Nat → UInt8)) : Prop where
  len : l.length ≤ 49
  at_ : ∀ j, j < 49 → atA l j = slotOf P (St P.length j)
  der : ∀ j a, St P.length j = some a → ∀ n, n ≤ a → a - n < 2 ^ j → eqH (deriveOf step (P.getD a hz) a n) (P.getD n hz) = true
theorem ShelfIs.nil : ShelfIs [] [] := ⟨by simp, fun j _ => rfl, fun j a h => by cases h⟩
theorem derive_list {f g : Nat → UInt8} (e : eqH f g = true) (a n : Nat) : eqH (deriveOf step f a n) (deriveOf step g a n) = true := list_eqH (goDown_list _ _ (eqH_list e))
theorem getD_old {P : List (Nat → UInt8)} {s : Nat → UInt8} {a : Nat} (h : a < P.length) : (P ++ [s]).getD a hz = P.getD a hz := by
  rw [List.getD_eq_getElem?_getD, List.getD_eq_getElem?_getD, List.getElem?_append_left h]
theorem getD_new {P : List (Nat → UInt8)} {s : Nat → UInt8} : (P ++ [s]).getD P.length hz = s := by
  rw [List.getD_eq_getElem?_getD, List.getElem?_append_right (Nat.le_refl _), Nat.sub_self]
  rfl
theorem slotOf_old {P : List (Nat → UInt8)} {s : Nat → UInt8} {j : Nat} : slotOf (P ++ [s]) (St P.length j) = slotOf P (St P.length j) := by
  cases h : St P.length j with
  | none => rfl
  | some a => unfold slotOf; simp only; rw [getD_old (St_is _ _ _ h).1]
theorem lv_le (n : Nat) : lv n ≤ 48 := lvl_le 48 _
theorem hangs_of {a n : Nat} (ha : a ≤ 281474976710655) (h1 : n ≤ a) (h2 : a - n < 2 ^ lv a) : Hangs (place a) (place n) := (hangs_near ha (by omega)).2 ⟨h1, h2⟩
/-- A put that is taken. -/
theorem ShelfIs.put {l : List Slot} {P : List (Nat → UInt8)} (h : ShelfIs l P) (hk : P.length < 128) {s : Nat → UInt8} (hok : ∀ j, j < lv P.length → okAt l s (P.length : Int) j = true) : ShelfIs (withA l (lv P.length) ⟨(P.length : Int), s, true⟩) (P ++ [s]) := by
  have hL := lv_le P.length
  have hlen : (P ++ [s]).length = P.length + 1 := by simp
  refine ⟨by rw [withA_length]; omega, fun j hj => ?_, fun j a ha n hn hd => ?_⟩
  · rw [hlen]
    unfold St
    by_cases hjL : j = lv P.length
    · rw [if_pos hjL, hjL, at_with_here _ _ _ (by omega) rfl]
      unfold slotOf
      simp only
      rw [getD_new]
    · rw [if_neg hjL, at_with _ _ _ j hj hjL, slotOf_old]
      exact h.at_ j hj
  · rw [hlen] at ha
    unfold St at ha
    by_cases hjL : j = lv P.length
    · rw [if_pos hjL] at ha
      obtain rfl : P.length = a := by simpa using ha
      rw [getD_new]
      by_cases hnk : n = P.length
      · subst hnk; rw [derive_self, getD_new]; exact eqH_refl s
      · have hn' : n < P.length := by omega
        rw [getD_old hn']
        obtain ⟨j', a', hj', hs', hna, had⟩ := cover_below hk hn' (by rw [← hjL]; exact hd)
        obtain ⟨ha', hla⟩ := St_is _ _ _ hs'
        have hat := h.at_ j' (by omega)
        rw [hs'] at hat
        have hf : (atA l j').full = true := by rw [hat]; rfl
        obtain ⟨o1, o2⟩ := ok_full (hok j' hj') hf
        rw [hat] at o1 o2
        have hi : (slotOf P (some a')).idx = (a' : Int) := rfl
        have hse : (slotOf P (some a')).sec = P.getD a' hz := rfl
        rw [hi] at o1 o2
        rw [hse] at o2
        obtain ⟨x, c, ex, ec, hx, hc, hh, hd1⟩ := derive_ok o1
        obtain rfl : x = P.length := by omega
        obtain rfl : c = a' := by omega
        rw [hd1] at o2
        have hang2 : Hangs (place c) (place n) := hangs_of hc hna (by rw [hla]; exact had)
        have hle : lv c ≤ lv P.length := by omega
        have e := in_steps step s P.length c n hle hang2
        rw [← e]
        exact eqH_trans (derive_list o2 c n) (h.der j' c hs' n hna had)
    · rw [if_neg hjL] at ha
      obtain ⟨h1, h2⟩ := St_is _ _ _ ha
      rw [getD_old h1, getD_old (by omega)]
      exact h.der j a ha n hn hd
/-- The first place that yields. -/
theorem get_first {l : List Slot} {n : Int} : ∀ r, r ≤ 49 → (∃ j, 49 - r ≤ j ∧ j < 49 ∧ yieldB (atA l j) n = true) → ∃ j, j < 49 ∧ yieldB (atA l j) n = true ∧ getK l n r = ((deriveA (atA l j).sec (atA l j).idx n).1, 0)
  | 0, _, ⟨j, h1, h2, _⟩ => by omega
  | r + 1, hr, ⟨j, h1, h2, h3⟩ => by
    by_cases hy : yieldB (atA l (49 - (r + 1))) n = true
    · exact ⟨49 - (r + 1), by omega, hy, by rw [getK, if_pos hy]⟩
    · obtain ⟨j', k1, k2, k3⟩ := get_first r (by omega) ⟨j, by
        by_cases e : j = 49 - (r + 1)
        · subst e; exact absurd h3 hy
        · omega, h2, h3⟩
      exact ⟨j', k1, k2, by rw [getK, if_neg hy, k3]⟩
theorem ShelfIs.get {l : List Slot} {P : List (Nat → UInt8)} (h : ShelfIs l P) (hk : P.length < 128) {n : Nat} (hn : n < P.length) : (getA l (n : Int)).2 = 0 ∧ eqH (getA l (n : Int)).1 (P.getD n hz) = true := by
  rw [get_of h.len (by omega)]
  have hex : ∃ j, 49 - 49 ≤ j ∧ j < 49 ∧ yieldB (atA l j) (n : Int) = true := by
    obtain ⟨j, a, hj, hs, h1, h2⟩ := cover hk hn
    obtain ⟨h3, h4⟩ := St_is _ _ _ hs
    refine ⟨j, by omega, by omega, ?_⟩
    rw [h.at_ j (by omega), hs]
    unfold yieldB slotOf
    simp only
    rw [derive_yes (by omega) (by omega) (hangs_of (by omega) h1 (by rw [h4]; exact h2))]
    rfl
  obtain ⟨j, hj, hy, hg⟩ := get_first 49 (Nat.le_refl _) hex
  rw [hg]
  refine ⟨by first | rfl | trivial, ?_⟩
  rw [h.at_ j hj] at hy ⊢
  cases hs : St P.length j with
  | none => rw [hs] at hy; cases hy
  | some a =>
    rw [hs] at hy
    obtain ⟨h3, h4⟩ := St_is _ _ _ hs
    unfold yieldB slotOf at hy
    simp only [Bool.true_and, decide_eq_true_eq] at hy
    obtain ⟨x, c, ex, ec, hx, hc, hh, hd⟩ := derive_ok hy
    obtain rfl : x = a := by omega
    obtain rfl : c = n := by omega
    have hnear := (hangs_near hx hc).1 hh
    unfold slotOf
    simp only
    rw [hd]
    exact h.der j x hs c hnear.1 (by rw [← h4]; exact hnear.2)
theorem ShelfIs.later {l : List Slot} {P : List (Nat → UInt8)} (h : ShelfIs l P) (hk : P.length < 128) {n : Nat} (hn : P.length ≤ n) (hn2 : n < 200) : getA l (n : Int) = (fun _ => 0, 5) := by
  rw [get_of h.len (by omega)]
  refine getK_none 49 (Nat.le_refl _) fun j _ hj => ?_
  rw [h.at_ j hj]
  cases hs : St P.length j with
  | none => rfl
  | some a =>
    have := St_is _ _ _ hs
    exact yield_later (by omega) (by omega) (by omega)
theorem ShelfIs.own {l : List Slot} {P : List (Nat → UInt8)} (h : ShelfIs l P) (hk : P.length < 128) {root s : Nat → UInt8} (hP : ∀ n, n < P.length → eqH (P.getD n hz) (secretOf step root n) = true) (hs : eqH s (secretOf step root P.length) = true) :
    ∀ j, j < lv P.length → okAt l s (P.length : Int) j = true := fun j hj => by
  have hL := lv_le P.length
  unfold okAt
  rw [h.at_ j (by omega)]
  cases hst : St P.length j with
  | none => rfl
  | some a =>
    obtain ⟨h1, h2⟩ := St_is _ _ _ hst
    have hang : Hangs (place P.length) (place a) := hangs_of (by omega) (by omega) (near_below hk hj hst)
    unfold agreeB slotOf
    simp only
    rw [derive_yes (by omega) (by omega) hang]
    simp only [Bool.not_true, Bool.false_or, decide_true, Bool.true_and]
    refine eqH_trans (derive_list hs P.length a) ?_
    rw [one_tree step root P.length a hang]
    exact eqH_symm (hP a h1)
end Go.Proofs.YtocojkafdgmgdaaDoor
