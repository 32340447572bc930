/-
  The examples that the statements ask first, plain.
-/
import Derived.Test.YtocojkafdgmgdaaDoorPGet
namespace Go.Proofs.YtocojkafdgmgdaaDoor
open Go.RowKit S
set_option linter.unusedVariables false
set_option linter.unusedSimpArgs false
def exA : Nat → UInt8 := secretOf step (fun _ => (0 : UInt8)) 0
def exB : Nat → UInt8 := secretOf step (fun _ => (0 : UInt8)) 1
def exL : List Slot := withA [] 0 ⟨0, exA, true⟩
def exM : List Slot := withA exL 1 ⟨1, exB, true⟩
theorem isN_lit (a : Nat) (h : a ≤ 281474976710655) : isN (a : Int) = true := isN_nat h
theorem lvl0 : lvl (place 0) 48 = 0 := by decide +kernel
theorem lvl1 : lvl (place 1) 48 = 1 := by decide +kernel
theorem sec_a : secretA (fun _ => 0) 0 = (exA, 0) := secret_nat (a := 0) (by omega)
theorem sec_b : secretA (fun _ => 0) 1 = (exB, 0) := secret_nat (a := 1) (by omega)
theorem withA_get (l : List Slot) (k : Nat) (s : Slot) (j : Nat) (hj : j < 49) : (withA l k s)[j]? = some (if j = k then s else atA l j) := by
  unfold withA; rw [List.getElem?_map, List.getElem?_range hj]; rfl
theorem at_at (l : List Slot) (j : Nat) : (atA l j).full = true ∨ atA l j = Slot.zero := by
  unfold atA
  cases l[j]? with
  | none => exact .inr rfl
  | some s =>
    cases h : s.full with
    | true => left; simp [h]
    | false => right; simp [h]
theorem at_with_here (l : List Slot) (k : Nat) (s : Slot) (hk : k < 49) (hs : s.full = true) : atA (withA l k s) k = s := at_full (by rw [withA_get l k s k hk, if_pos rfl]) hs
theorem at_with (l : List Slot) (k : Nat) (s : Slot) (j : Nat) (hj : j < 49) (hne : j ≠ k) : atA (withA l k s) j = atA l j := by
  have h : (withA l k s)[j]? = some (atA l j) := by rw [withA_get l k s j hj, if_neg hne]
  rcases at_at l j with h2 | h2
  · exact at_full h h2
  · rw [at_empty h (by rw [h2]; rfl), h2]
theorem at_nil (j : Nat) : atA [] j = Slot.zero := rfl
theorem put_of {l : List Slot} {n : Nat} {h : Nat → UInt8} (hl : l.length ≤ 49) (hn : n ≤ 281474976710655) : putA l (n : Int) h = if (List.range (lvl (place n) 48)).all (okAt l h n) = true then (withA l (lvl (place n) 48) ⟨n, h, true⟩, 0) else ([], 100) := by
  unfold putA
  rw [if_neg (by omega), if_neg (by rw [isN_nat hn]; decide), Int.toNat_natCast]
theorem ex_p1 : putA [] 0 exA = (exL, 0) := by
  have h := put_of (l := []) (n := 0) (h := exA) (by simp) (by omega)
  rw [lvl0] at h
  exact h
theorem exL_len : exL.length = 49 := withA_length _ _ _
theorem exM_len : exM.length = 49 := withA_length _ _ _
theorem exL_at0 : atA exL 0 = ⟨0, exA, true⟩ := at_with_here _ _ _ (by omega) rfl
theorem hangs10 : Hangs (place 1) (place 0) := (hangs_near (a := 1) (c := 0) (by omega) (by omega)).2 (by rw [lvl1]; decide)
theorem ok_b : okAt exL exB 1 0 = true := by
  unfold okAt agreeB
  rw [exL_at0]
  have h : deriveA exB 1 0 = (exA, 0) := by
    have := derive_yes (s := exB) (a := 1) (c := 0) (by omega) (by omega) hangs10
    rw [show deriveOf step exB 1 0 = exA from one_tree step _ 1 0 hangs10] at this
    exact this
  simp only
  rw [h]
  simp only [eqH_refl]
  decide
theorem ex_p2 : putA exL 1 exB = (exM, 0) := by
  have h := put_of (l := exL) (n := 1) (h := exB) (by rw [exL_len]; omega) (by omega)
  rw [lvl1, if_pos (by show ([0] : List Nat).all _ = true; simp only [List.all_cons, List.all_nil, Bool.and_true]; exact ok_b)] at h
  exact h
theorem step_a : eqH (step 0 exA) exA = false := by
  cases h : eqH (step 0 exA) exA with
  | false => rfl
  | true =>
    exfalso
    have h1 := (eqH_iff _ _).1 h
    have h2 : listOf (step 0 exA) = listOf exA := List.map_congr_left fun i hi => h1 i (List.mem_range.1 hi)
    rw [step_list, show listOf exA = _ from head_one] at h2
    exact absurd h2 (by decide +kernel)
theorem bad_a : okAt exL exA 1 0 = false := by
  unfold okAt agreeB
  rw [exL_at0]
  have h : deriveA exA 1 0 = (step 0 exA, 0) := by
    have := derive_yes (s := exA) (a := 1) (c := 0) (by omega) (by omega) hangs10
    have e : deriveOf step exA 1 0 = step 0 exA := by
      unfold deriveOf
      rw [lvl1]
      simp only [goDown]
      rw [if_pos (by decide +kernel)]
    rw [e] at this
    exact this
  simp only
  rw [h]
  simp only [step_a]
  decide
theorem ex_p3 : putA exL 1 exA = ([], 100) := by
  have h := put_of (l := exL) (n := 1) (h := exA) (by rw [exL_len]; omega) (by omega)
  rw [lvl1, if_neg (by show ¬ ([0] : List Nat).all _ = true; simp only [List.all_cons, List.all_nil, Bool.and_true]; rw [show okAt exL exA ((1 : Nat) : Int) 0 = false from bad_a]; decide)] at h
  exact h
theorem get_of {l : List Slot} {n : Nat} (hl : l.length ≤ 49) (hn : n ≤ 281474976710655) : getA l (n : Int) = getK l n 49 := by
  unfold getA
  rw [if_neg (by omega), if_neg (by rw [isN_nat hn]; decide)]
theorem hangs_self (a : Nat) : Hangs (place a) (place a) := fun _ _ _ => rfl
theorem derive_same {s : Nat → UInt8} {a : Nat} (ha : a ≤ 281474976710655) : deriveA s (a : Int) (a : Int) = (s, 0) := by
  rw [derive_yes ha ha (hangs_self a), derive_self]
theorem exM_at0 : atA exM 0 = ⟨0, exA, true⟩ := by rw [show exM = withA exL 1 ⟨1, exB, true⟩ from rfl, at_with _ _ _ 0 (by omega) (by omega), exL_at0]
theorem exM_at1 : atA exM 1 = ⟨1, exB, true⟩ := at_with_here _ _ _ (by omega) rfl
theorem exM_at (j : Nat) (h1 : 2 ≤ j) (h2 : j < 49) : atA exM j = Slot.zero := by
  rw [show exM = withA exL 1 ⟨1, exB, true⟩ from rfl, at_with _ _ _ j h2 (by omega), show exL = withA [] 0 ⟨0, exA, true⟩ from rfl, at_with _ _ _ j h2 (by omega)]
  rfl
theorem ex_g1 : getA exM 0 = (exA, 0) := by
  have h := get_of (l := exM) (n := 0) (by rw [exM_len]; omega) (by omega)
  have d := derive_same (s := exA) (a := 0) (by omega)
  have y : yieldB (atA exM 0) 0 = true := by unfold yieldB; rw [exM_at0]; simp only; rw [show deriveA exA 0 0 = (exA, 0) from d]; rfl
  have k := getK_yes (j := 0) (by omega) y
  rw [exM_at0] at k
  simp only at k
  rw [show deriveA exA 0 0 = (exA, 0) from d] at k
  exact h.trans k
theorem no_hang {a c : Nat} (ha : a ≤ 281474976710655) (hc : c ≤ 281474976710655) (h : a < c) : ¬ Hangs (place a) (place c) := fun k => by
  have := ((hangs_near ha hc).1 k).1
  omega
theorem yield_later {s : Nat → UInt8} {a c : Nat} (ha : a ≤ 281474976710655) (hc : c ≤ 281474976710655) (h : a < c) : yieldB ⟨a, s, true⟩ c = false := by
  unfold yieldB
  simp only
  rw [derive_none ha hc (no_hang ha hc h)]
  rfl
theorem yield_zero (n : Int) : yieldB Slot.zero n = false := rfl
theorem getK_none {l : List Slot} {n : Int} : ∀ k, k ≤ 49 → (∀ j, 49 - k ≤ j → j < 49 → yieldB (atA l j) n = false) → getK l n k = (fun _ => 0, 5)
  | 0, _, _ => rfl
  | k + 1, hk, h => by
    rw [getK, if_neg (by rw [h (49 - (k + 1)) (Nat.le_refl _) (by omega)]; decide)]
    exact getK_none k (by omega) (fun j h1 h2 => h j (by omega) h2)
theorem ex_g2 : getA exM 2 = (fun _ => 0, 5) := by
  have h := get_of (l := exM) (n := 2) (by rw [exM_len]; omega) (by omega)
  refine h.trans (getK_none 49 (Nat.le_refl _) fun j _ hj => ?_)
  by_cases h0 : j = 0
  · subst h0; rw [exM_at0]; exact yield_later (a := 0) (c := 2) (by omega) (by omega) (by omega)
  · by_cases h1 : j = 1
    · subst h1; rw [exM_at1]; exact yield_later (a := 1) (c := 2) (by omega) (by omega) (by omega)
    · rw [exM_at j (by omega) hj]; rfl
end Go.Proofs.YtocojkafdgmgdaaDoor
