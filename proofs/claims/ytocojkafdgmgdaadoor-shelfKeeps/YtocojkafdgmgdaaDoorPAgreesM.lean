/-
  P10.4, plain.
-/
import Derived.Test.YtocojkafdgmgdaaDoorPFewM
namespace Go.Proofs.YtocojkafdgmgdaaDoor
open Go.RowKit S
set_option linter.unusedVariables false
set_option linter.unusedSimpArgs false
theorem put_cases (l : List Slot) (x : Int) (h : Nat → UInt8) : (putA l x h = ([], 1) ∧ 49 < l.length) ∨ (putA l x h = ([], 90) ∧ l.length ≤ 49 ∧ isN x = false) ∨ (putA l x h = ([], 100) ∧ l.length ≤ 49 ∧ isN x = true) ∨
    (putA l x h = (withA l (lvl (place x.toNat) 48) ⟨x, h, true⟩, 0) ∧ l.length ≤ 49 ∧ isN x = true ∧ ∀ j, j < lvl (place x.toNat) 48 → okAt l h x j = true) := by
  unfold putA
  by_cases h1 : 49 < l.length
  · left; rw [if_pos h1]; exact ⟨rfl, h1⟩
  · right
    rw [if_neg h1]
    cases hx : isN x with
    | false => left; rw [if_pos rfl]; exact ⟨rfl, by omega, rfl⟩
    | true =>
      right
      rw [if_neg (by decide)]
      by_cases h2 : (List.range (lvl (place x.toNat) 48)).all (okAt l h x) = true
      · right
        rw [if_pos h2]
        exact ⟨rfl, by omega, rfl, fun j hj => List.all_eq_true.1 h2 j (List.mem_range.2 hj)⟩
      · left
        rw [if_neg h2]
        exact ⟨rfl, by omega, rfl⟩
theorem isN_cast {x : Int} (h : isN x = true) : ∃ n : Nat, x = (n : Int) ∧ n ≤ 281474976710655 := by
  rw [isN_iff] at h
  exact ⟨x.toNat, by omega, by omega⟩
theorem ok_full {l : List Slot} {h : Nat → UInt8} {x : Int} {j : Nat} (ho : okAt l h x j = true) (hf : (atA l j).full = true) : (deriveA h x (atA l j).idx).2 = 0 ∧ eqH (deriveA h x (atA l j).idx).1 (atA l j).sec = true := by
  unfold okAt agreeB at ho
  rw [hf] at ho
  simpa using ho
/-- A derive that goes tells that the numbers are numbers, and hang. -/
theorem derive_ok {h : Nat → UInt8} {x y : Int} (e : (deriveA h x y).2 = 0) : ∃ a c : Nat, x = (a : Int) ∧ y = (c : Int) ∧ a ≤ 281474976710655 ∧ c ≤ 281474976710655 ∧ Hangs (place a) (place c) ∧ deriveA h x y = (deriveOf step h a c, 0) := by
  by_cases hN : isN x = true ∧ isN y = true
  · obtain ⟨a, rfl, ha⟩ := isN_cast hN.1
    obtain ⟨c, rfl, hc⟩ := isN_cast hN.2
    by_cases hh : Hangs (place a) (place c)
    · exact ⟨a, c, rfl, rfl, ha, hc, hh, derive_yes ha hc hh⟩
    · rw [derive_none ha hc hh] at e
      exact absurd e (by decide)
  · exfalso
    unfold deriveA at e
    rw [if_neg hN] at e
    exact absurd e (by decide)
theorem hangs_le {a c : Nat} (ha : a ≤ 281474976710655) (hc : c ≤ 281474976710655) (h : Hangs (place a) (place c)) : c ≤ a := ((hangs_near ha hc).1 h).1
theorem eqH_symm {f g : Nat → UInt8} (h : eqH f g = true) : eqH g f = true := (eqH_iff _ _).2 fun i hi => ((eqH_iff _ _).1 h i hi).symm
theorem eqH_trans {f g k : Nat → UInt8} (h : eqH f g = true) (h2 : eqH g k = true) : eqH f k = true := (eqH_iff _ _).2 fun i hi => ((eqH_iff _ _).1 h i hi).trans ((eqH_iff _ _).1 h2 i hi)
theorem eqH_list {f g : Nat → UInt8} (h : eqH f g = true) : listOf f = listOf g := List.map_congr_left fun i hi => (eqH_iff _ _).1 h i (List.mem_range.1 hi)
theorem list_eqH {f g : Nat → UInt8} (h : listOf f = listOf g) : eqH f g = true := (eqH_iff _ _).2 fun i hi => by
  have := congrArg (fun l => l.getD i 0) h
  simpa only [listOf_getD _ _ hi] using this
/-- Get tells what was put. -/
theorem put_get {l : List Slot} {n : Nat} {h : Nat → UInt8} (hn : n ≤ 281474976710655) (hok : ∀ j, j < lvl (place n) 48 → okAt l h n j = true) :
    (getA (withA l (lvl (place n) 48) ⟨n, h, true⟩) n).2 = 0 ∧ eqH (getA (withA l (lvl (place n) 48) ⟨n, h, true⟩) n).1 h = true := by
  have hl := lvl_le 48 (place n)
  obtain ⟨L, hL⟩ : ∃ L, lvl (place n) 48 = L := ⟨_, rfl⟩
  rw [hL] at hl hok ⊢
  obtain ⟨M, hM⟩ : ∃ M, withA l L ⟨n, h, true⟩ = M := ⟨_, rfl⟩
  have hML : atA M L = ⟨n, h, true⟩ := by rw [← hM]; exact at_with_here _ _ _ (by omega) rfl
  have hMj : ∀ j, j < L → atA M j = atA l j := fun j hj => by rw [← hM]; exact at_with _ _ _ j (by omega) (by omega)
  rw [hM, get_of (by rw [← hM, withA_length]; omega) hn]
  have key : ∀ r, r ≤ L → (getK M n (49 - (L - r))).2 = 0 ∧ eqH (getK M n (49 - (L - r))).1 h = true := by
    intro r
    induction r with
    | zero =>
      intro _
      have hy : yieldB (atA M L) n = true := by unfold yieldB; rw [hML]; simp only; rw [derive_same hn]; rfl
      rw [Nat.sub_zero, getK_yes (by omega) hy, hML]
      simp only
      rw [derive_same hn]
      exact ⟨by first | rfl | trivial, eqH_refl h⟩
    | succ r ih =>
      intro hr
      have hj : L - (r + 1) < L := by omega
      cases hy : yieldB (atA M (L - (r + 1))) n with
      | true =>
        rw [getK_yes (by omega) hy, hMj _ hj]
        refine ⟨rfl, ?_⟩
        rw [hMj _ hj] at hy
        unfold yieldB at hy
        simp only [Bool.and_eq_true, decide_eq_true_eq] at hy
        obtain ⟨hf, hd⟩ := hy
        obtain ⟨ho1, ho2⟩ := ok_full (hok _ hj) hf
        obtain ⟨a, c, ea, ec, ha, hc, hh, hd1⟩ := derive_ok ho1
        obtain ⟨a', c', ea', ec', ha', hc', hh', hd2⟩ := derive_ok hd
        have e1 : a = n := by omega
        have e2 : c' = n := by omega
        have e3 : a' = c := by omega
        subst e1 e2 e3
        have l1 := hangs_le ha hc hh
        have l2 := hangs_le ha' hc' hh'
        have e4 : a' = c' := by omega
        subst e4
        rw [hd2, derive_self]
        rw [hd1, derive_self] at ho2
        exact eqH_symm ho2
      | false =>
        rw [getK_no (by omega) hy, show L - (r + 1) + 1 = L - r by omega]
        exact ih (by omega)
  have := key L (Nat.le_refl _)
  rwa [Nat.sub_self] at this
end Go.Proofs.YtocojkafdgmgdaaDoor
