/-
  A shelf of one slot, plain.
-/
import Derived.Test.YtocojkafdgmgdaaDoorPFirst
namespace Go.Proofs.YtocojkafdgmgdaaDoor
open Go.RowKit S
set_option linter.unusedVariables false
set_option linter.unusedSimpArgs false
theorem getK_skip {l : List Slot} {n : Int} : ∀ L, L ≤ 49 → (∀ j, j < L → yieldB (atA l j) n = false) → getK l n 49 = getK l n (49 - L)
  | 0, _, _ => rfl
  | L + 1, hL, h => by rw [getK_skip L (by omega) (fun j hj => h j (by omega)), getK_no (by omega) (h L (by omega))]
/-- One place alone is asked. -/
theorem get_at {l : List Slot} {n : Int} (L : Nat) (hL : L < 49) (h : ∀ j, j < 49 → j ≠ L → yieldB (atA l j) n = false) : getK l n 49 = if yieldB (atA l L) n = true then ((deriveA (atA l L).sec (atA l L).idx n).1, 0) else (fun _ => 0, 5) := by
  rw [getK_skip L (by omega) (fun j hj => h j (by omega) (by omega))]
  by_cases hy : yieldB (atA l L) n = true
  · rw [getK_yes hL hy, if_pos hy]
  · rw [if_neg hy, getK_no hL (by simpa using hy)]
    exact getK_none _ (by omega) (fun j h1 h2 => h j h2 (by omega))
theorem put_nil (n : Nat) (hn : n ≤ 281474976710655) (s : Nat → UInt8) : putA [] (n : Int) s = (withA [] (lvl (place n) 48) ⟨n, s, true⟩, 0) := by
  rw [put_of (by simp) hn, if_pos]
  rw [List.all_eq_true]
  intro j _
  rfl
theorem few_get (n c : Nat) (hn : n ≤ 281474976710655) (hc : c ≤ 281474976710655) (s : Nat → UInt8) : (getA (withA [] (lvl (place n) 48) ⟨n, s, true⟩) (c : Int)).2 = if c ≤ n ∧ n - c < 2 ^ lvl (place n) 48 then 0 else 5 := by
  have hl := lvl_le 48 (place n)
  obtain ⟨L, hL⟩ : ∃ L, lvl (place n) 48 = L := ⟨_, rfl⟩
  rw [hL] at hl ⊢
  rw [get_of (by rw [withA_length]; omega) hc, get_at L (by omega) (fun j hj hne => by rw [at_with _ _ _ j hj hne]; rfl), at_with_here _ _ _ (by omega) rfl]
  simp only
  have hh := hangs_near hn hc
  rw [hL] at hh
  by_cases hy : c ≤ n ∧ n - c < 2 ^ L
  · have y : yieldB ⟨n, s, true⟩ c = true := by
      unfold yieldB
      simp only
      rw [derive_yes hn hc (hh.2 hy)]
      rfl
    rw [if_pos y, if_pos hy]
  · have y : yieldB ⟨n, s, true⟩ c = false := by
      unfold yieldB
      simp only
      rw [derive_none hn hc (fun k => hy (hh.1 k))]
      rfl
    rw [if_neg (by rw [y]; decide), if_neg hy]
theorem get_neg (l : List Slot) (hl : l.length ≤ 49) (x : Int) (hx : isN x = false) : getA l x = (fun _ => 0, 90) := by
  unfold getA
  rw [if_neg (by omega), if_pos hx]
end Go.Proofs.YtocojkafdgmgdaaDoor
